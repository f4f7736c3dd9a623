/-
Texts in one: what PartsOf stands on, part 12. Conditions: those of each.
-/
import Derived.Test.YtnbfaedopjkgpaaGreatKPartsOf11
import Derived.WalkKit

/-
Lists that a function made, and that stay. Conditions: none.
-/
namespace Go.Proofs.YtnbfaedopjkgpaaGreat
open Go Fk Go.RowKit
set_option linter.unusedVariables false
set_option maxRecDepth 8000
/-- A list of n integers that may be written: none, or at the head of a block from lo to hi. -/
def Lst (lo hi : Nat) (w : World) (a : Option Addr) (n : Nat) : Prop := (a = none ∧ n = 0) ∨ ∃ b, a = some ⟨b, 0, none⟩ ∧ Own lo hi w b 0 n
theorem Own.below {lo hi : Nat} {w w' : World} {b o n : Nat} (h : Own lo hi w b o n) (hB : Below w.heap.size w w') : Own lo hi w' b o n :=
  ⟨h.1, h.2.1, Nat.lt_of_lt_of_le h.2.2.1 hB.size, fun j hj => by
    obtain ⟨⟨v, hv⟩, hf⟩ := h.2.2.2 j hj
    exact ⟨⟨v, cell_below hB hv⟩, by rw [hB.frozen (p := ⟨b, o + j, none⟩) h.2.2.1]; exact hf⟩⟩
theorem Lst.below {lo hi : Nat} {w w' : World} {a : Option Addr} {n : Nat} (h : Lst lo hi w a n) (hB : Below w.heap.size w w') : Lst lo hi w' a n :=
  h.imp id fun ⟨b, e, ho⟩ => ⟨b, e, ho.below hB⟩
theorem Lst.mark {lo hi lo' hi' : Nat} {w w' : World} {a : Option Addr} {n : Nat} (h : Lst lo hi w a n) (hM : Mark lo' hi' w w') : Lst lo hi w' a n :=
  h.imp id fun ⟨b, e, ho⟩ => ⟨b, e, ho.mark hM⟩
theorem OwnM.below {lo hi b o b' o' pl tl : Nat} {ts : List (List Int)} {w w' : World} (h : OwnM lo hi w b o b' o' pl tl ts) (hB : Below w.heap.size w w') : OwnM lo hi w' b o b' o' pl tl ts := by
  obtain ⟨h1, h2, h3, h4⟩ := h
  refine ⟨h1.below hB, fun j hj => ?_, h3, Nat.lt_of_lt_of_le h4 hB.size⟩
  obtain ⟨G, O, c, e1, e2, e3⟩ := h2 j hj
  exact ⟨G, O, c, e1, cell_below hB e2, e3.below hB⟩
end Go.Proofs.YtnbfaedopjkgpaaGreat


/-
Lists that are appended to a list of one's own, and the model's copy of a list of integers. Conditions: none beyond their sizes.
-/
namespace Go.Proofs.YtnbfaedopjkgpaaGreat
open Go Fk Go.RowKit
set_option linter.unusedVariables false
set_option maxRecDepth 8000
section
variable {P : Program} (w : World)
theorem wp_append_opt {o : Oper} {a : Act} {K : Act → World → Prop} {Q : Exit → Act → World → Prop} (s x : Operand) (t : TypeId)
    (ho : o.op = .call { callee := .builtin .append, args := #[s, x], argTypes := #[t, t] })
    (base : Nat) (e : TypeId) (i : TypeInfo) (z : Value) (size bytes : Nat) (ht : P.underlying t = some (.slice e)) (hi : P.info? e = some i) (hz : i.zero = some z)
    (hsize : i.size = size) (hby : i.bytes = bytes) (hzs : z.cells.size = size) (hsz : 0 < size)
    (v : Value) (n : Nat) (xs : List Value) (hs : a.eval s = v) (hown : w.ownsRow base e size v n xs)
    (oa : Option Addr) (m c : Nat) (news : List Value) (hx : a.eval x = .slice oa m c) (h0 : oa = none → m = 0 ∧ c = 0) (hl : news.length = m * size) (hnews : ∀ ad, oa = some ad → ∀ j u, news[j]? = some u → w.cell? (ad.add j) = some u) (h1 : ∀ u ∈ news, u.oneCell' = true)
    (h63 : n + m ≤ maxLen) (hbytes : (n + m) * bytes ≤ 140737488355328) (hbase : base ≤ w.heap.size)
    (h : ∀ v' w', w'.ownsRow base e size v' (n + m) (xs ++ news) → w.grownBy w' v.ownBlock → K (a.put o.dst v') w') : o.wp P a w K Q := by
  cases oa with
  | some ad => exact wp_append_own w s x t ho base e i z size bytes ht hi hz hsize hby hzs hsz v n xs hs hown ad m c news hx hl (hnews ad rfl) h1 h63 hbytes hbase fun v' w' h2 h3 _ => h v' w' h2 h3
  | none =>
    obtain ⟨rfl, rfl⟩ := h0 rfl
    have hn : news = [] := by apply List.eq_nil_of_length_eq_zero; omega
    subst hn
    have hr := run_append_owned_none (P := P) (w := w) base t o.type e i size ht hi v n xs hown
    unfold Oper.wp execOp
    simp only [ho, resolve, invoke, builtin, Sem.run_bind, Sem.run_pure, Result.andThen_ok, List.map_toArray, List.map_cons, List.map_nil, hs, hx, hr]
    exact h v w (by simpa using hown) ⟨rfl, rfl, rfl, Nat.le_refl _, fun _ _ _ => rfl⟩
theorem wpList_append_opt {ops : Array Oper} {rest : List Oper} {o : Oper} {a : Act} {Q : Exit → Act → World → Prop} (hgd : o.guard = none) (s x : Operand) (t : TypeId)
    (ho : o.op = .call { callee := .builtin .append, args := #[s, x], argTypes := #[t, t] })
    (base : Nat) (e : TypeId) (i : TypeInfo) (z : Value) (size bytes : Nat) (ht : P.underlying t = some (.slice e)) (hi : P.info? e = some i) (hz : i.zero = some z)
    (hsize : i.size = size) (hby : i.bytes = bytes) (hzs : z.cells.size = size) (hsz : 0 < size)
    (v : Value) (n : Nat) (xs : List Value) (hs : a.eval s = v) (hown : w.ownsRow base e size v n xs)
    (oa : Option Addr) (m c : Nat) (news : List Value) (hx : a.eval x = .slice oa m c) (h0 : oa = none → m = 0 ∧ c = 0) (hl : news.length = m * size) (hnews : ∀ ad, oa = some ad → ∀ j u, news[j]? = some u → w.cell? (ad.add j) = some u) (h1 : ∀ u ∈ news, u.oneCell' = true)
    (h63 : n + m ≤ maxLen) (hbytes : (n + m) * bytes ≤ 140737488355328) (hbase : base ≤ w.heap.size)
    (h : ∀ v' w', w'.ownsRow base e size v' (n + m) (xs ++ news) → w.grownBy w' v.ownBlock → wpList P ops Q rest (a.put o.dst v') w') : wpList P ops Q (o :: rest) a w :=
  wpList_plain hgd fun _ hK => wp_append_opt w s x t ho base e i z size bytes ht hi hz hsize hby hzs hsz v n xs hs hown oa m c news hx h0 hl hnews h1 h63 hbytes hbase fun v' w' h2 h3 => hK _ _ (h v' w' h2 h3)
end
/-- A row of one's own is a list of integers. -/
theorem is_of_owns {w : World} {base n : Nat} {v : Value} {zs : List Int} (h : w.ownsRow base 2 1 v n (ints zs)) (hn : zs.length = n) (hz : ∀ z ∈ zs, (Lit.int .i64 z).wf = true) :
    ∃ a cap, v = .slice a n cap ∧ IsIs w a n cap zs ∧ ∀ x, a = some x → base ≤ x.block ∧ x.block < w.heap.size := by
  have h' := h
  obtain ⟨h1, h2⟩ := h
  rcases h2 with ⟨rfl, hn0⟩ | ⟨g, cap, cur, rfl, hb, hh, hc1, hc2, hs, ht⟩
  · refine ⟨none, 0, by rw [hn0], ⟨hn, by omega, by unfold maxLen; omega, hz, fun _ => ⟨hn0, rfl⟩, fun x hx => by cases hx⟩, fun x hx => by cases hx⟩
  · have hg := h'.lt g rfl
    refine ⟨_, cap, rfl, ⟨hn, hc1, hc2, hz, by simp, fun x hx i hi => ?_⟩, fun x hx => by cases hx; exact hg⟩
    cases hx
    rw [addr_add', Nat.zero_add, h'.cellAt i (by omega)]
    unfold ints
    simp [List.getD, hn, hi]
theorem l00Own (a : Option Addr) (len cap : Nat) (zs : List Int) (w : World) (h : IsIs w a len cap zs) (hlen : len ≤ 1048576) :
    Calls Tryz.prog 165 #[.slice a len cap] w fun e w' => (∃ v, e = .returned v ∧ w'.ownsRow w.heap.size 2 1 v len (ints zs)) ∧ Below w.heap.size w w' := by
  obtain ⟨i0, hi, hz0, hz1, hz2⟩ := info_parts info64
  have hzl := h.1
  have hzw := h.2.2.2.1
  have hil : (ints zs).length = len * 1 := by unfold ints; simp; exact hzl
  have H := Lib.hid h
  have HZ := Lib.hid hzw
  clear h hzw
  go_enter Tryz.func165, Tryz.ntmps165
  go_wp2_with (at_builtin; refine wpList_append_opt _ rfl _ _ 61 rfl w.heap.size 2 i0 (.int .i64 0) 1 8 Tryz.underlying61 hi hz0 hz1 hz2 rfl (by decide) _ 0 [] rfl (World.ownsRow_lit (e := 2) (size := 1) w #[] 0 (Nat.le_refl _) (by decide) rfl) a len cap (ints zs) rfl H.out.2.2.2.2.1 hil ?c2 ?c3 ?c4 ?c5 ?c6 ?_)
  case c2 =>
    intro ad had j u hu
    have hj : j < len := by
      have := (List.getElem?_eq_some_iff.1 hu).1; omega
    have hc := H.out.2.2.2.2.2 ad had j hj
    have : u = .int .i64 (zs.getD j 0) := by
      unfold ints at hu
      have hj' : j < zs.length := by omega
      simp [hj'] at hu
      simp [List.getD, hj', ← hu]
    rw [this, World.cell?_alloc_lt (h := World.block_lt_of_cell? _ _ hc)]
    exact hc
  case c3 =>
    intro u hu
    unfold ints at hu
    obtain ⟨z, _, rfl⟩ := List.mem_map.1 hu
    rfl
  case c4 => unfold maxLen; omega
  case c5 => omega
  case c6 => simp
  · intro v' w1 hown hgrow
    have hB1 : Below w.heap.size w (w.alloc (.cells #[] 2)) := (Below.refl _ _).alloc (Nat.le_refl _) _
    have hB2 := hB1.grown hgrow hB1.size (fun k hk => by cases hk; exact Nat.le_refl _)
    have hown' : w1.ownsRow w.heap.size 2 1 v' len (ints zs) := by simpa using hown
    have HI := Lib.hid hown'
    have HB2 := Lib.hid hB2
    clear hown hown' hgrow hB1 hB2
    go_wp2
    go_ret
    exact ⟨⟨v', rfl, HI.out⟩, HB2.out⟩
end Go.Proofs.YtnbfaedopjkgpaaGreat


/-
Lists of one's own of different kinds lie in different blocks; lists of rows, and what is read off a list of vectors. Conditions: none.
-/
namespace Go.Proofs.YtnbfaedopjkgpaaGreat
open Go Fk Go.RowKit
set_option linter.unusedVariables false
set_option maxRecDepth 8000
theorem owns_up {w w' : World} {base : Nat} {e : TypeId} {size : Nat} {v : Value} {n : Nat} {xs : List Value} (h : w.ownsRow base e size v n xs) (hB : Below w.heap.size w w') : w'.ownsRow base e size v n xs :=
  h.kept (row := none) ⟨hB.os, hB.tape, hB.output, hB.size, fun k hk _ => hB.block k hk⟩ (by cases v.ownBlock <;> simp)
theorem owns_low {w : World} {base base' : Nat} {e : TypeId} {size : Nat} {v : Value} {n : Nat} {xs : List Value} (h : w.ownsRow base e size v n xs) (hb : base' ≤ base) : w.ownsRow base' e size v n xs := by
  obtain ⟨h1, h2⟩ := h
  refine ⟨h1, h2.imp id ?_⟩
  rintro ⟨g, cap, cur, e1, e2, e3⟩
  exact ⟨g, cap, cur, e1, Nat.le_trans hb e2, e3⟩
theorem owns_ne {w : World} {b1 b2 : Nat} {e1 e2 : TypeId} {s1 s2 : Nat} {v1 v2 : Value} {n1 n2 : Nat} {x1 x2 : List Value} (h1 : w.ownsRow b1 e1 s1 v1 n1 x1) (h2 : w.ownsRow b2 e2 s2 v2 n2 x2) (he : e1 ≠ e2) : v1.ownBlock = none ∨ v1.ownBlock ≠ v2.ownBlock := by
  rcases h1.2 with ⟨rfl, _⟩ | ⟨g, c, cur, rfl, _, hg, _⟩
  · exact .inl rfl
  · right
    rcases h2.2 with ⟨rfl, _⟩ | ⟨g2, c2, cur2, rfl, _, hg2, _⟩
    · simp [Value.ownBlock]
    · simp only [Value.ownBlock]
      intro e
      cases e
      rw [hg] at hg2
      cases hg2
      exact he rfl
/-- An own list of another kind is kept where this one grows. -/
theorem owns_side {w w' : World} {b1 b2 : Nat} {e1 e2 : TypeId} {s1 s2 : Nat} {v1 v2 : Value} {n1 n2 : Nat} {x1 x2 : List Value} (h1 : w.ownsRow b1 e1 s1 v1 n1 x1) (h2 : w.ownsRow b2 e2 s2 v2 n2 x2) (he : e1 ≠ e2) (hg : w.grownBy w' v2.ownBlock) : w'.ownsRow b1 e1 s1 v1 n1 x1 :=
  h1.kept hg (owns_ne h1 h2 he)
theorem grown_set (w : World) (X j : Nat) (u : Value) : w.grownBy (w.setCell ⟨X, j, none⟩ u) (some X) :=
  ⟨rfl, rfl, rfl, by simp, fun k _ hk => Below.heap_setCell _ _ _ _ (fun e => hk (by rw [e]))⟩
theorem owns_slice {w : World} {base : Nat} {v : Value} {n : Nat} {e : TypeId} {s : Nat} {xs : List Value} (h : w.ownsRow base e s v n xs) : ∃ a c, v = .slice a n c := by
  rcases h.2 with ⟨rfl, e⟩ | ⟨g, c, _, rfl, _⟩
  · exact ⟨none, 0, by rw [e]⟩
  · exact ⟨_, _, rfl⟩
theorem OwnT.slice {base n : Nat} {w : World} {v : Value} {ts : List (List Int)} (h : ∃ rows : List Value, w.ownsRow base 61 1 v n rows ∧ ∀ j, j < n → ∃ u, rows[j]? = some u ∧ w.ownsRow base 2 1 u (ts.getD j []).length (ints (ts.getD j []))) : ∃ a c, v = .slice a n c := owns_slice h.choose_spec.1
theorem owns_one {w : World} {base : Nat} {v : Value} {n : Nat} {e : TypeId} {s : Nat} {xs : List Value} (h : w.ownsRow base e s v n xs) : v.oneCell' = true := by
  rcases h.2 with ⟨rfl, _⟩ | ⟨g, c, cur, rfl, _⟩ <;> rfl
/-- A list of rows of one's own, each of which is a list of integers of one's own. -/
def OwnT (base : Nat) (w : World) (v : Value) (n : Nat) (ts : List (List Int)) : Prop := ∃ rows : List Value, w.ownsRow base 61 1 v n rows ∧ ∀ j, j < n → ∃ u, rows[j]? = some u ∧ w.ownsRow base 2 1 u (ts.getD j []).length (ints (ts.getD j []))
theorem OwnT.up {base n : Nat} {w w' : World} {v : Value} {ts : List (List Int)} (h : OwnT base w v n ts) (hB : Below w.heap.size w w') : OwnT base w' v n ts := by
  obtain ⟨rows, h1, h2⟩ := h
  refine ⟨rows, owns_up h1 hB, fun j hj => ?_⟩
  obtain ⟨u, e1, e2⟩ := h2 j hj
  exact ⟨u, e1, owns_up e2 hB⟩
theorem OwnT.low {base base' n : Nat} {w : World} {v : Value} {ts : List (List Int)} (h : OwnT base w v n ts) (hb : base' ≤ base) : OwnT base' w v n ts := by
  obtain ⟨rows, h1, h2⟩ := h
  refine ⟨rows, owns_low h1 hb, fun j hj => ?_⟩
  obtain ⟨u, e1, e2⟩ := h2 j hj
  exact ⟨u, e1, owns_low e2 hb⟩
theorem OwnT.side {base n b2 : Nat} {w w' : World} {v v2 : Value} {ts : List (List Int)} {e2 : TypeId} {s2 n2 : Nat} {x2 : List Value} (h : OwnT base w v n ts) (k : w.ownsRow b2 e2 s2 v2 n2 x2) (hg : w.grownBy w' v2.ownBlock) (he : 61 ≠ e2) (he' : 2 ≠ e2) : OwnT base w' v n ts := by
  obtain ⟨rows, h1, h2⟩ := h
  refine ⟨rows, owns_side h1 k he hg, fun j hj => ?_⟩
  obtain ⟨u, e1, e2⟩ := h2 j hj
  exact ⟨u, e1, owns_side e2 k he' hg⟩
theorem OwnT.snoc {base k : Nat} {w w' : World} {v v' : Value} {ts : List (List Int)} {rows : List Value} {u : Value} (h1 : w.ownsRow base 61 1 v k rows) (h2 : ∀ j, j < k → ∃ u, rows[j]? = some u ∧ w.ownsRow base 2 1 u (ts.getD j []).length (ints (ts.getD j [])))
    (hu : w.ownsRow base 2 1 u (ts.getD k []).length (ints (ts.getD k []))) (hg : w.grownBy w' v.ownBlock) (hv : w'.ownsRow base 61 1 v' (k + 1) (rows ++ [u])) : OwnT base w' v' (k + 1) ts := by
  refine ⟨_, hv, fun j hj => ?_⟩
  have hl : rows.length = k := by rw [h1.1]; omega
  by_cases hjk : j < k
  · obtain ⟨u', e1, e2⟩ := h2 j hjk
    exact ⟨u', by rw [List.getElem?_append_left (by omega)]; exact e1, owns_side e2 h1 (by decide) hg⟩
  · obtain rfl : j = k := by omega
    exact ⟨u, by rw [List.getElem?_append_right (by omega), hl]; simp, owns_side hu h1 (by decide) hg⟩
/-- Rows of one's own are a list of triangles. -/
theorem OwnT.is {base n : Nat} {w : World} {v : Value} {ts : List (List Int)} (h : OwnT base w v n ts) (hn : ts.length = n) (hz : ∀ j, j < n → ∀ z ∈ ts.getD j [], (Lit.int .i64 z).wf = true) : ∃ a cap, v = .slice a n cap ∧ IsTs w a n cap ts := by
  obtain ⟨rows, h1, h2⟩ := h
  have h1' := h1
  rcases h1.2 with ⟨rfl, hn0⟩ | ⟨g, cap, cur, rfl, hb, hh, hc1, hc2, hs, ht⟩
  · exact ⟨none, 0, by rw [hn0], hn, by omega, by unfold maxLen; omega, fun _ => ⟨hn0, rfl⟩, fun x hx => by cases hx⟩
  · refine ⟨_, cap, rfl, hn, hc1, hc2, by simp, fun x hx i hi => ?_⟩
    cases hx
    obtain ⟨u, e1, e2⟩ := h2 i hi
    obtain ⟨b, c, rfl, hI, _⟩ := is_of_owns e2 rfl (hz i hi)
    exact ⟨b, _, c, by rw [addr_add', Nat.zero_add, h1'.cellAt i (by omega)]; exact e1, hI⟩
/-- Cells that hold vectors of these classes. -/
def PV (n : Nat) (xs : List Value) (cs : List C3) : Prop := ∀ j, j < n → ∃ p q r, xs[j * 3]? = some (.float .f32 p) ∧ xs[j * 3 + 1]? = some (.float .f32 q) ∧ xs[j * 3 + 2]? = some (.float .f32 r) ∧ FV .f32 p (cs.getD j c0).1 ∧ FV .f32 q (cs.getD j c0).2.1 ∧ FV .f32 r (cs.getD j c0).2.2
theorem vs_cells {w : World} {a : Option Addr} {n cap : Nat} {cs : List C3} (h : IsVs w a n cap cs) : ∃ xs : List Value, xs.length = n * 3 ∧ (∀ ad, a = some ad → ∀ j u, xs[j]? = some u → w.cell? (ad.add j) = some u) ∧ (∀ u ∈ xs, u.oneCell' = true) ∧ PV n xs cs := by
  obtain ⟨h1, h2, h3, h4, h5⟩ := h
  cases a with
  | none =>
    obtain ⟨rfl, _⟩ := h4 rfl
    exact ⟨[], rfl, ⟨fun _ had => (by cases had), fun u hu => absurd hu (by simp), fun j hj => absurd hj (by omega)⟩⟩
  | some x =>
    have hc : ∀ j, j < n * 3 → ∃ p, w.cell? (x.add j) = some (.float .f32 p) := by
      intro j hj
      obtain ⟨p, q, r, k0, k1, k2, _⟩ := h5 x rfl (j / 3) (by omega)
      have : j = j / 3 * 3 ∨ j = j / 3 * 3 + 1 ∨ j = j / 3 * 3 + 2 := by omega
      rcases this with e | e | e
      · exact ⟨p, by rw [e]; exact k0⟩
      · exact ⟨q, by rw [e]; exact k1⟩
      · exact ⟨r, by rw [e]; exact k2⟩
    refine ⟨(List.range (n * 3)).map fun j => (w.cell? (x.add j)).getD undef, by simp, fun ad had j u hu => ?_, fun u hu => ?_, fun j hj => ?_⟩
    · cases had
      have hj : j < n * 3 := by have := (List.getElem?_eq_some_iff.1 hu).1; simpa using this
      obtain ⟨p, hp⟩ := hc j hj
      simp [hj, hp] at hu
      rw [hp, ← hu]
    · obtain ⟨j, hj, rfl⟩ := List.mem_map.1 hu
      obtain ⟨p, hp⟩ := hc j (List.mem_range.1 hj)
      rw [hp]; rfl
    · obtain ⟨p, q, r, k0, k1, k2, hf⟩ := h5 x rfl j hj
      have g0 : j * 3 < n * 3 := by omega
      have g1 : j * 3 + 1 < n * 3 := by omega
      have g2 : j * 3 + 2 < n * 3 := by omega
      exact ⟨p, q, r, by simp [g0, k0], by simp [g1, k1], by simp [g2, k2], hf⟩
theorem vs_of_owns {w : World} {base n : Nat} {v : Value} {xs : List Value} {cs : List C3} (h : w.ownsRow base 40 3 v n xs) (hn : cs.length = n) (hp : PV n xs cs) : ∃ a cap, v = .slice a n cap ∧ IsVs w a n cap cs := by
  have h' := h
  rcases h.2 with ⟨rfl, hn0⟩ | ⟨g, cap, cur, rfl, hb, hh, hc1, hc2, hs, ht⟩
  · exact ⟨none, 0, by rw [hn0], hn, by omega, by unfold maxLen; omega, fun _ => ⟨hn0, rfl⟩, fun x hx => by cases hx⟩
  · refine ⟨_, cap, rfl, hn, hc1, hc2, by simp, fun x hx i hi => ?_⟩
    cases hx
    obtain ⟨p, q, r, e0, e1, e2, hf⟩ := hp i hi
    exact ⟨p, q, r, by rw [addr_add', Nat.zero_add, h'.cellAt _ (by omega)]; exact e0, by rw [addr_add', Nat.zero_add, h'.cellAt _ (by omega)]; exact e1, by rw [addr_add', Nat.zero_add, h'.cellAt _ (by omega)]; exact e2, hf⟩
end Go.Proofs.YtnbfaedopjkgpaaGreat


/-
A region whose order is open, with a narrow place: an operation before or behind which every other one comes (an append), and a store that comes last. Conditions: no operation is guarded, every edge leads to an earlier operation, no slot is written twice, the store comes last.
-/
namespace Go.Proofs.YtnbfaedopjkgpaaGreat
namespace Reg5
open Go Reg
set_option linter.unusedVariables false
section
variable {P : Program} {ops : Array Oper} {Q : Exit → Act → World → Prop} {md : Region.Mode}
/-- Operation m is a narrow place: what is before it comes before it, what is behind it comes behind it. -/
def narrow (ops : Array Oper) (m : Nat) : Bool :=
  decide (m < ops.size) && ((List.range m).all fun i => (List.range (m + 1)).any fun j => decide (i < j) && behind ops i j) && ((List.range ops.size).all fun i => decide (i ≤ m) || behind ops m i)
theorem narrow_lt {ops : Array Oper} {m : Nat} (h : narrow ops m = true) : m < ops.size := by
  unfold narrow at h; simp only [Bool.and_eq_true, decide_eq_true_eq] at h; exact h.1.1
theorem narrow_up {ops : Array Oper} {m i : Nat} (h : narrow ops m = true) (hi : i < ops.size) (hm : m < i) : behind ops m i = true := by
  unfold narrow at h; simp only [Bool.and_eq_true] at h
  have := List.all_eq_true.1 h.2 i (List.mem_range.2 hi)
  have hn : ¬ i ≤ m := by omega
  simpa [hn] using this
theorem below_m {ops : Array Oper} {m : Nat} {L : Array Bool} (h : narrow ops m = true) (hcl : ∀ i j, L.getD j false = true → behind ops i j = true → L.getD i false = true) (hm : L.getD m false = true) :
    ∀ d i, m - i = d → i ≤ m → L.getD i false = true := by
  intro d
  induction d using Nat.strongRecOn with
  | ind d ih =>
    intro i hd hi
    by_cases e : i = m
    · rw [e]; exact hm
    · have hlt : i < m := by omega
      have h' := h
      unfold narrow at h'; simp only [Bool.and_eq_true] at h'
      have := List.all_eq_true.1 h'.1.2 i (List.mem_range.2 hlt)
      rw [List.any_eq_true] at this
      obtain ⟨j, hj, hb⟩ := this
      rw [Bool.and_eq_true, decide_eq_true_eq] at hb
      have hjm := List.mem_range.1 hj
      exact hcl i j (ih (m - j) (by omega) j rfl (by omega)) hb.2
/-- What is asked of operation i: before the narrow place with C, behind it with D. -/
def Obl (P : Program) (ops : Array Oper) (m : Nat) (a0 : Act) (C D : World → Prop) (G G' : World → World → Prop) (R : Nat → Value → World → Prop) (T : Nat → Act → World → Prop) (Q : Exit → Act → World → Prop) (i : Nat) (o : Oper) : Prop :=
  ∀ a w, (i ≤ m → C w) → (m < i → D w) → (∀ t, ((List.range ops.size).all fun j => slotOf ops j != some t || behind ops i j) = true → a.eval (.tmp t) = a0.eval (.tmp t)) →
    (∀ j, behind ops j i = true → (i ≤ m ∨ m ≤ j) → Has ops R j a w) →
    o.wp P a w (fun a' w' => ∃ v, a' = a.put o.dst v ∧ (o.dst ≠ none → R i v w') ∧ (o.dst = none → T i a w') ∧ (i < m → C w' ∧ G w w') ∧ (m ≤ i → o.dst ≠ none → D w') ∧ (m < i → o.dst ≠ none → G' w w')) Q
def OblAll (P : Program) (ops : Array Oper) (m : Nat) (a0 : Act) (C D : World → Prop) (G G' : World → World → Prop) (R : Nat → Value → World → Prop) (T : Nat → Act → World → Prop) (Q : Exit → Act → World → Prop) : Nat → List Oper → Prop
  | _, [] => True
  | i, o :: l => Obl P ops m a0 C D G G' R T Q i o ∧ OblAll P ops m a0 C D G G' R T Q (i + 1) l
theorem OblAll.get {m : Nat} {a0 : Act} {C D : World → Prop} {G G' : World → World → Prop} {R : Nat → Value → World → Prop} {T : Nat → Act → World → Prop} :
    ∀ {l : List Oper} {k : Nat}, OblAll P ops m a0 C D G G' R T Q k l → ∀ {i : Nat} {o : Oper}, l[i]? = some o → Obl P ops m a0 C D G G' R T Q (k + i) o
  | [], _, _, _, _, h => by simp at h
  | _ :: _, _, h, 0, _, ho => by simp at ho; subst ho; exact h.1
  | _ :: l, k, h, i + 1, _, ho => by
    have := OblAll.get h.2 (i := i) (by simpa using ho)
    rwa [Nat.add_assoc, Nat.add_comm 1 i] at this

section
variable {m : Nat} {a0 : Act} {C D : World → Prop} {G G' : World → World → Prop} {R : Nat → Value → World → Prop} {T : Nat → Act → World → Prop} {i : Nat} {o : Oper}
theorem Obl.early (hi : decide (i < m) = true) (hn : o.dst.isSome = true)
    (h : ∀ a w, C w → (∀ t, ((List.range ops.size).all fun j => slotOf ops j != some t || behind ops i j) = true → a.eval (.tmp t) = a0.eval (.tmp t)) →
      (∀ j, behind ops j i = true → Has ops R j a w) → ∀ K : Act → World → Prop, (∀ v w', R i v w' → C w' → G w w' → K (a.put o.dst v) w') → o.wp P a w K Q) : Obl P ops m a0 C D G G' R T Q i o := by
  have hi' := of_decide_eq_true hi
  intro a w hC _ he hd
  refine h a w (hC (by omega)) he (fun j hj => hd j hj (.inl (by omega))) _ fun v w' h1 h2 h3 => ⟨v, rfl, fun _ => h1, fun e => ?_, fun _ => ⟨h2, h3⟩, fun hm => ?_, fun hm => ?_⟩
  · rw [e] at hn; cases hn
  · omega
  · omega
theorem Obl.mid (hi : decide (i = m) = true) (hn : o.dst.isSome = true)
    (h : ∀ a w, C w → (∀ t, ((List.range ops.size).all fun j => slotOf ops j != some t || behind ops i j) = true → a.eval (.tmp t) = a0.eval (.tmp t)) →
      (∀ j, behind ops j i = true → Has ops R j a w) → ∀ K : Act → World → Prop, (∀ v w', R i v w' → D w' → K (a.put o.dst v) w') → o.wp P a w K Q) : Obl P ops m a0 C D G G' R T Q i o := by
  have hi' := of_decide_eq_true hi
  intro a w hC _ he hd
  refine h a w (hC (by omega)) he (fun j hj => hd j hj (.inl (by omega))) _ fun v w' h1 h2 => ⟨v, rfl, fun _ => h1, fun e => ?_, fun hm => ?_, fun _ _ => h2, fun hm => ?_⟩
  · rw [e] at hn; cases hn
  · omega
  · omega
theorem Obl.late (hi : decide (m < i) = true)
    (h : ∀ a w, D w → (∀ t, ((List.range ops.size).all fun j => slotOf ops j != some t || behind ops i j) = true → a.eval (.tmp t) = a0.eval (.tmp t)) →
      (∀ j, behind ops j i = true → m ≤ j → Has ops R j a w) → ∀ K : Act → World → Prop, (∀ v w', (o.dst ≠ none → R i v w') → (o.dst = none → T i a w') → (o.dst ≠ none → D w') → (o.dst ≠ none → G' w w') → K (a.put o.dst v) w') → o.wp P a w K Q) : Obl P ops m a0 C D G G' R T Q i o := by
  have hi' := of_decide_eq_true hi
  intro a w _ hD he hd
  refine h a w (hD (by omega)) he (fun j hj hm => hd j hj (.inr hm)) _ fun v w' h1 h2 h3 h4 => ⟨v, rfl, h1, h2, fun hm => ?_, fun _ => h3, fun _ => h4⟩
  omega
end

theorem wp_region_inv {id m : Nat} {a0 : Act} {w0 : World} {C D : World → Prop} {G G' : World → World → Prop} {R : Nat → Value → World → Prop} {T : Nat → Act → World → Prop} (hm : P.follows .mixedOrders = true) (ht : tidy ops a0.tmps.size = true) (hnar : narrow ops m = true)
    (hG : ∀ j v w w', j < m → C w → G w w' → R j v w → R j v w') (hG' : ∀ j v w w', m ≤ j → D w → G' w w' → R j v w → R j v w') (hC : C { w0 with drawn := w0.drawn + 1 })
    (hO : OblAll P ops m a0 C D G G' R T Q 0 ops.toList)
    (hQ : ∀ a w, a.defers = a0.defers → a.tmps.size = a0.tmps.size → (∀ t, (ops.all fun o => o.dst != some t) = true → a.eval (.tmp t) = a0.eval (.tmp t)) → ((∀ j, j < ops.size → slotOf ops j ≠ none) → D w ∧ ∀ j, m ≤ j → j < ops.size → Has ops R j a w) → (∀ j, HasT ops T j a w) → Q .normal a w) :
    (Code.region id ops true).wp P Q a0 w0 := by
  unfold tidy at ht
  simp only [Bool.and_eq_true] at ht
  obtain ⟨⟨⟨⟨hlow, hgd⟩, hbd⟩, hdis⟩, hlast⟩ := ht
  have slot_lt : ∀ {j d}, slotOf ops j = some d → j < ops.size := fun {j d} h => by
    unfold slotOf at h
    cases ho : ops[j]? with
    | none => rw [ho] at h; cases h
    | some o => exact (Array.getElem?_eq_some_iff.1 ho).1
  have slot_bd : ∀ {j d}, slotOf ops j = some d → d < a0.tmps.size := fun {j d} h => by
    have hj := slot_lt h
    have := Array.all_eq_true.1 hbd j hj
    unfold slotOf at h
    rw [Array.getElem?_eq_getElem hj] at h
    simp only [Option.bind_some] at h
    rw [h] at this
    simpa using this
  have slot_ne : ∀ {i j d}, slotOf ops i = some d → slotOf ops j = some d → i = j := fun {i j d} h1 h2 => by
    have a1 := slot_lt h1
    have a2 := slot_lt h2
    have := List.all_eq_true.1 (List.all_eq_true.1 hdis i (List.mem_range.2 a1)) j (List.mem_range.2 a2)
    rw [h1, h2] at this
    simpa using this
  let Inv : Array Bool → Act → World → Prop := fun listed a w => ((∀ j, j < ops.size → slotOf ops j = none → listed.getD j false = false) → (listed.getD m false = false → C w) ∧ (listed.getD m false = true → D w) ∧ ∀ j, listed.getD j false = true → (listed.getD m false = false ∨ m ≤ j) → Has ops R j a w) ∧ a.defers = a0.defers ∧ a.tmps.size = a0.tmps.size ∧
    (∀ t, (∀ j, slotOf ops j = some t → listed.getD j false = false) → a.eval (.tmp t) = a0.eval (.tmp t)) ∧
    (∀ i j, listed.getD j false = true → behind ops i j = true → listed.getD i false = true) ∧ (∀ j, listed.getD j false = true → HasT ops T j a w)
  refine wp_region_any hm (wpAny_inv (Inv := Inv) hlow ?_ ?_ _ _ _ _ (by simp) (by simp) ⟨fun _ => ⟨fun _ => hC, fun h => ?_, fun j hj => ?_⟩, rfl, rfl, fun _ _ => rfl, ?_, ?_⟩)
  · intro i listed a w hs hi ⟨hCw0, hd, hsz, hext, hcl, hT⟩
    obtain ⟨hun, o, ho, hdeps⟩ := mem_ready.1 hi
    have hilt : i < ops.size := (Array.getElem?_eq_some_iff.1 ho).1
    have hun' : listed.getD i false = false := by
      have : i < listed.size := by omega
      simp [this] at hun ⊢; exact hun
    have hg : o.guard = none := by
      have := Array.all_eq_true.1 hgd i hilt
      rw [Array.getElem?_eq_getElem hilt] at ho
      cases ho
      simpa using this
    have hno : ∀ j, j < ops.size → slotOf ops j = none → listed.getD j false = false := fun j hlt hn => by
      cases hl : listed.getD j false
      · rfl
      · exfalso
        have h1 := List.all_eq_true.1 hlast j (List.mem_range.2 hlt)
        rw [hn] at h1
        simp only [bne_self_eq_false, Bool.false_or] at h1
        have h2 := List.all_eq_true.1 h1 i (List.mem_range.2 hilt)
        have hne : i ≠ j := fun e => by subst e; rw [hun'] at hl; cases hl
        simp [hne] at h2
        have := hcl i j hl h2
        rw [hun'] at this; cases this
    obtain ⟨hC1, hD1, hhas⟩ := hCw0 hno
    have side1 : i ≤ m → listed.getD m false = false := fun him => by
      cases hl : listed.getD m false
      · rfl
      · have := below_m hnar hcl hl _ i rfl him; rw [hun'] at this; cases this
    have lstd : ∀ j, behind ops j i = true → listed.getD j false = true := fun j hj => by
      obtain ⟨e, he, h1, h2⟩ := behind_spec hj ho
      rw [← h1]
      exact hdeps e he h2
    have side2 : m < i → listed.getD m false = true := fun him => lstd m (narrow_up hnar hilt him)
    have hmlt := narrow_lt hnar
    have hob := OblAll.get hO (i := i) (o := o) (by simpa using ho)
    rw [Nat.zero_add] at hob
    have hwp := hob a w (fun h => hC1 (side1 h)) (fun h => hD1 (side2 h)) (fun t htt => hext t fun j hj => by
        have := List.all_eq_true.1 htt j (List.mem_range.2 (slot_lt hj))
        rw [hj] at this
        simp at this
        cases hl : listed.getD j false
        · rfl
        · have := hcl i j hl this; rw [hun'] at this; cases this)
      (fun j hj hm => hhas j (lstd j hj) (hm.imp side1 fun h => h))
    unfold wpOp
    rw [ho]
    simp only [Region.wanted, hg, if_true]
    refine .inl (Oper.wp_mono ?_ hwp)
    rintro a' w' ⟨v, rfl, hR, hTi, hCG, hD', hGw'⟩
    have hdst : slotOf ops i = o.dst := by unfold slotOf; rw [ho]; rfl
    have keep : ∀ t, o.dst ≠ some t → (a.put o.dst v).eval (.tmp t) = a.eval (.tmp t) := fun t h => Act.eval_put (fun d hd he => h (by rw [hd]; cases he; rfl))
    have lst : ∀ j, (listed.setIfInBounds i true).getD j false = true → j = i ∨ listed.getD j false = true := fun j h => by
      by_cases hji : i = j
      · exact .inl hji.symm
      · rw [getD_set_ne false hji] at h; exact .inr h
    have hli : i < listed.size := by omega
    have same : ∀ j, j ≠ i → (listed.setIfInBounds i true).getD j false = listed.getD j false := fun j h => getD_set_ne false (fun e => h e.symm)
    have hHasI : ∀ d, slotOf ops i = some d → R i ((a.put o.dst v).eval (.tmp d)) w' := fun d hjd => by
      rw [hdst] at hjd
      have hb := slot_bd (j := i) (by rw [hdst]; exact hjd)
      have : (a.put o.dst v).eval (.tmp d) = v := by
        unfold Act.put Act.eval; rw [hjd]; simp; exact fun h => absurd (Nat.lt_of_lt_of_le hb (hsz ▸ h)) (Nat.lt_irrefl _)
      rw [this]; exact hR (by rw [hjd]; simp)
    have keepHas : ∀ j, listed.getD j false = true → (∀ v', R j v' w → R j v' w') → Has ops R j a w → Has ops R j (a.put o.dst v) w' := fun j hj' hup hhj d hjd => by
      rw [keep d (fun h => by
        have := slot_ne (show slotOf ops i = some d by rw [hdst]; exact h) hjd
        subst this; rw [hun'] at hj'; cases hj')]
      exact hup _ (hhj d hjd)
    refine ⟨fun hno' => ?_, ?_, ?_, ?_, ?_, ?_⟩
    · have hne : o.dst ≠ none := fun hn => by
        have := hno' i hilt (by rw [hdst]; exact hn)
        simp [hli] at this
      rcases Nat.lt_trichotomy i m with him | him | him
      · have hm0 := side1 (Nat.le_of_lt him)
        have hsm := same m (by omega)
        obtain ⟨hC', hGw⟩ := hCG him
        refine ⟨fun _ => hC', fun h => ?_, fun j hj hjm => ?_⟩
        · rw [hsm, hm0] at h; cases h
        · rcases lst j hj with rfl | hj'
          · exact fun d hjd => hHasI d hjd
          · have hjlt : j < m := by
              rcases Nat.lt_or_ge j m with h | h
              · exact h
              · exfalso
                rcases Nat.eq_or_lt_of_le h with e | e
                · rw [← e, hm0] at hj'; cases hj'
                · by_cases hjs : j < ops.size
                  · have := hcl m j hj' (narrow_up hnar hjs e); rw [hm0] at this; cases this
                  · have : ¬ j < listed.size := by omega
                    simp [this] at hj'
            exact keepHas j hj' (fun v' => hG j v' _ _ hjlt (hC1 hm0) hGw) (hhas j hj' (.inl hm0))
      · subst him
        refine ⟨fun h => ?_, fun _ => hD' (Nat.le_refl _) hne, fun j hj hjm => ?_⟩
        · simp [hli] at h
        · rcases lst j hj with rfl | hj'
          · exact fun d hjd => hHasI d hjd
          · exfalso
            have hm0 := side1 (Nat.le_refl _)
            have hjge : i ≤ j := by
              rcases hjm with h | h
              · simp [hli] at h
              · exact h
            rcases Nat.eq_or_lt_of_le hjge with e | e
            · rw [← e, hm0] at hj'; cases hj'
            · by_cases hjs : j < ops.size
              · have := hcl i j hj' (narrow_up hnar hjs e); rw [hm0] at this; cases this
              · have : ¬ j < listed.size := by omega
                simp [this] at hj'
      · have hm1 := side2 him
        have hsm := same m (by omega)
        refine ⟨fun h => ?_, fun _ => hD' (Nat.le_of_lt him) hne, fun j hj hjm => ?_⟩
        · rw [hsm, hm1] at h; cases h
        · rcases lst j hj with rfl | hj'
          · exact fun d hjd => hHasI d hjd
          · have hjge : m ≤ j := by
              rcases hjm with h | h
              · rw [hsm, hm1] at h; cases h
              · exact h
            exact keepHas j hj' (fun v' => hG' j v' _ _ hjge (hD1 hm1) (hGw' him hne)) (hhas j hj' (.inr hjge))
    · rw [← hd]; unfold Act.put; split <;> rfl
    · rw [← hsz]; unfold Act.put; split <;> simp
    · intro t htt
      rw [keep t (fun h => by
        have := htt i (by rw [hdst]; exact h)
        have hlt : i < listed.size := by omega
        simp [hlt] at this)]
      refine hext t fun j hj => ?_
      have := htt j hj
      cases hl : listed.getD j false
      · rfl
      · rw [getD_set_true hl] at this; cases this
    · intro i' j hj hb
      rcases lst j hj with rfl | hj'
      · refine getD_set_true ?_
        obtain ⟨e, he, h1, h2⟩ := behind_spec hb ho
        rw [← h1]; exact hdeps e he h2
      · exact getD_set_true (hcl i' j hj' hb)
    · intro j hj hn hlt
      rcases lst j hj with rfl | hj'
      · rw [hdst] at hn
        have : a.put o.dst v = a := by rw [hn]; rfl
        rw [this]; exact hTi hn
      · exfalso
        have h1 := List.all_eq_true.1 hlast j (List.mem_range.2 hlt)
        rw [hn] at h1
        simp only [bne_self_eq_false, Bool.false_or] at h1
        have h2 := List.all_eq_true.1 h1 i (List.mem_range.2 hilt)
        have hne : i ≠ j := fun e => by subst e; rw [hun'] at hj'; cases hj'
        simp [hne] at h2
        have := hcl i j hj' h2
        rw [hun'] at this; cases this
  · intro listed a w hall ⟨hCD, hd, hsz, hext, _, hT⟩
    refine hQ a w hd hsz (fun t htt => hext t fun j hj => ?_) (fun hns => ?_) (fun j hn hlt => hT j (hall j hlt) hn hlt)
    · exfalso
      have hlt := slot_lt hj
      have := Array.all_eq_true.1 htt j hlt
      unfold slotOf at hj
      rw [Array.getElem?_eq_getElem hlt] at hj
      simp only [Option.bind_some] at hj
      rw [hj] at this
      simp at this
    · obtain ⟨_, hD, hh⟩ := hCD fun j hlt hn => absurd hn (hns j hlt)
      exact ⟨hD (hall m (narrow_lt hnar)), fun j hm hj => hh j (hall j hj) (.inr hm)⟩
  · simp at h
    rw [Array.getElem?_replicate] at h; split at h <;> simp at h
  · simp at hj
    rw [Array.getElem?_replicate] at hj; split at hj <;> simp at hj
  · intro i j hj
    simp at hj
    rw [Array.getElem?_replicate] at hj; split at hj <;> simp at hj
  · intro j hj
    simp at hj
    rw [Array.getElem?_replicate] at hj; split at hj <;> simp at hj

theorem wp_region_mix {id m : Nat} {a0 : Act} {w0 : World} {C D : World → Prop} {G G' : World → World → Prop} {R : Nat → Value → World → Prop} {T : Nat → Act → World → Prop} (mk : List Bool) (hm : P.follows .mixedOrders = true) (ht : tidy ops a0.tmps.size = true) (hnar : narrow ops m = true)
    (hk : maskOk ops mk a0.tmps.size = true)
    (hG : ∀ j v w w', j < m → C w → G w w' → R j v w → R j v w') (hG' : ∀ j v w w', m ≤ j → D w → G' w w' → R j v w → R j v w') (hC : C { w0 with drawn := w0.drawn + 1 })
    (hO : OblAll P ops m a0 C D G G' R T Q 0 ops.toList)
    (hQ : ∀ (f : Nat → Value) w, ((∀ j, j < ops.size → slotOf ops j ≠ none) → D w ∧ ∀ j d, m ≤ j → slotOf ops j = some d → R j (f d) w) → (∀ j, HasT ops T j ⟨(mixL f mk 0 a0.tmps.toList).toArray, a0.defers⟩ w) → Q .normal ⟨(mixL f mk 0 a0.tmps.toList).toArray, a0.defers⟩ w) :
    (Code.region id ops true).wp P Q a0 w0 := by
  refine wp_region_inv hm ht hnar hG hG' hC hO fun a w hd hsz hext hhas hT => ?_
  unfold maskOk at hk
  simp only [Bool.and_eq_true, beq_iff_eq] at hk
  obtain ⟨hml, hmk⟩ := hk
  have e : a = ⟨(mixL (fun t => a.eval (.tmp t)) mk 0 a0.tmps.toList).toArray, a0.defers⟩ := by
    rw [mixL_eq _ _ _ _ (by simpa using hml) ?_]
    · cases a with
      | mk tmps defers =>
        simp only [Act.mk.injEq]
        refine ⟨?_, hd⟩
        apply Array.ext'
        apply List.ext_getElem?
        intro i
        simp only at hsz
        by_cases hi : i < tmps.size
        · have hi' : i < a0.tmps.size := by omega
          simp [hi, hi', Act.eval]
        · have hi' : ¬ i < a0.tmps.size := by omega
          simp [hi, hi']
    · intro i hi
      have hlt : i < a0.tmps.size := by
        have := (List.getElem?_eq_some_iff.1 hi).1; omega
      have h1 := List.all_eq_true.1 hmk i (List.mem_range.2 hlt)
      have h2 : mk.getD i false = false := by simp [List.getD, hi]
      rw [h2, Bool.false_or] at h1
      have h3 := hext i h1
      rw [Nat.zero_add, h3]
      simp [Act.eval, hlt]
  have h1 : (∀ j, j < ops.size → slotOf ops j ≠ none) → D w ∧ ∀ j d, m ≤ j → slotOf ops j = some d → R j ((fun t => a.eval (.tmp t)) d) w := fun hns => by
    obtain ⟨hD, hh⟩ := hhas hns
    refine ⟨hD, fun j d hm hj => hh j hm ?_ d hj⟩
    unfold slotOf at hj
    cases ho : ops[j]? with
    | none => rw [ho] at hj; cases hj
    | some o => exact (Array.getElem?_eq_some_iff.1 ho).1
  rw [e] at hT ⊢
  exact hQ (fun t => a.eval (.tmp t)) w h1 hT
end
end Reg5
end Go.Proofs.YtnbfaedopjkgpaaGreat

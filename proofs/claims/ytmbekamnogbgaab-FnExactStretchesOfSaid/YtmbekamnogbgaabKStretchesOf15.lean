/-
Texts in one: what StretchesOf stands on, part 15. Conditions: those of each.
-/
import Derived.Test.YtmbekamnogbgaabKStretchesOf14
import Derived.WalkKit

/-
Lists that a function made, and that stay. Conditions: none.
-/
namespace Go.Proofs.Ytmbekamnogbgaab
open Go Fk Go.RowKit
set_option linter.unusedVariables false
set_option maxRecDepth 8000
/-- A list of n integers that may be written: none, or at the head of a block from lo to hi. -/
def Lst (lo hi : Nat) (w : World) (a : Option Addr) (n : Nat) : Prop := (a = none ∧ n = 0) ∨ ∃ b, a = some ⟨b, 0, none⟩ ∧ Own lo hi w b 0 n
theorem Own.below {lo hi : Nat} {w w' : World} {b o n : Nat} (h : Own lo hi w b o n) (hB : Below w.heap.size w w') : Own lo hi w' b o n :=
  ⟨h.1, h.2.1, Nat.lt_of_lt_of_le h.2.2.1 hB.size, fun j hj => by
    obtain ⟨⟨v, hv⟩, hf⟩ := h.2.2.2 j hj
    exact ⟨⟨v, cell_below hB hv⟩, by rw [hB.frozen (p := ⟨b, o + j, none⟩) h.2.2.1]; exact hf⟩⟩
theorem Lst.below {lo hi : Nat} {w w' : World} {a : Option Addr} {n : Nat} (h : Lst lo hi w a n) (hB : Below w.heap.size w w') : Lst lo hi w' a n :=
  h.imp id fun ⟨b, e, ho⟩ => ⟨b, e, ho.below hB⟩
theorem Lst.mark {lo hi lo' hi' : Nat} {w w' : World} {a : Option Addr} {n : Nat} (h : Lst lo hi w a n) (hM : Mark lo' hi' w w') : Lst lo hi w' a n :=
  h.imp id fun ⟨b, e, ho⟩ => ⟨b, e, ho.mark hM⟩
theorem OwnM.below {lo hi b o b' o' pl tl : Nat} {ts : List (List Int)} {w w' : World} (h : OwnM lo hi w b o b' o' pl tl ts) (hB : Below w.heap.size w w') : OwnM lo hi w' b o b' o' pl tl ts := by
  obtain ⟨h1, h2, h3, h4⟩ := h
  refine ⟨h1.below hB, fun j hj => ?_, h3, Nat.lt_of_lt_of_le h4 hB.size⟩
  obtain ⟨G, O, c, e1, e2, e3⟩ := h2 j hj
  exact ⟨G, O, c, e1, cell_below hB e2, e3.below hB⟩
end Go.Proofs.Ytmbekamnogbgaab


/-
Lists that are appended to a list of one's own, and the model's copy of a list of integers. Conditions: none beyond their sizes.
-/
namespace Go.Proofs.Ytmbekamnogbgaab
open Go Fk Go.RowKit
set_option linter.unusedVariables false
set_option maxRecDepth 8000
section
variable {P : Program} (w : World)
theorem wp_append_opt {o : Oper} {a : Act} {K : Act → World → Prop} {Q : Exit → Act → World → Prop} (s x : Operand) (t : TypeId)
    (ho : o.op = .call { callee := .builtin .append, args := #[s, x], argTypes := #[t, t] })
    (base : Nat) (e : TypeId) (i : TypeInfo) (z : Value) (size bytes : Nat) (ht : P.underlying t = some (.slice e)) (hi : P.info? e = some i) (hz : i.zero = some z)
    (hsize : i.size = size) (hby : i.bytes = bytes) (hzs : z.cells.size = size) (hsz : 0 < size)
    (v : Value) (n : Nat) (xs : List Value) (hs : a.eval s = v) (hown : w.ownsRow base e size v n xs)
    (oa : Option Addr) (m c : Nat) (news : List Value) (hx : a.eval x = .slice oa m c) (h0 : oa = none → m = 0 ∧ c = 0) (hl : news.length = m * size) (hnews : ∀ ad, oa = some ad → ∀ j u, news[j]? = some u → w.cell? (ad.add j) = some u) (h1 : ∀ u ∈ news, u.oneCell' = true)
    (h63 : n + m ≤ maxLen) (hbytes : (n + m) * bytes ≤ 140737488355328) (hbase : base ≤ w.heap.size)
    (h : ∀ v' w', w'.ownsRow base e size v' (n + m) (xs ++ news) → w.grownBy w' v.ownBlock → K (a.put o.dst v') w') : o.wp P a w K Q := by
  cases oa with
  | some ad => exact wp_append_own w s x t ho base e i z size bytes ht hi hz hsize hby hzs hsz v n xs hs hown ad m c news hx hl (hnews ad rfl) h1 h63 hbytes hbase fun v' w' h2 h3 _ => h v' w' h2 h3
  | none =>
    obtain ⟨rfl, rfl⟩ := h0 rfl
    have hn : news = [] := by apply List.eq_nil_of_length_eq_zero; omega
    subst hn
    have hr := run_append_owned_none (P := P) (w := w) base t o.type e i size ht hi v n xs hown
    unfold Oper.wp execOp
    simp only [ho, resolve, invoke, builtin, Sem.run_bind, Sem.run_pure, Result.andThen_ok, List.map_toArray, List.map_cons, List.map_nil, hs, hx, hr]
    exact h v w (by simpa using hown) ⟨rfl, rfl, rfl, Nat.le_refl _, fun _ _ _ => rfl⟩
theorem wpList_append_opt {ops : Array Oper} {rest : List Oper} {o : Oper} {a : Act} {Q : Exit → Act → World → Prop} (hgd : o.guard = none) (s x : Operand) (t : TypeId)
    (ho : o.op = .call { callee := .builtin .append, args := #[s, x], argTypes := #[t, t] })
    (base : Nat) (e : TypeId) (i : TypeInfo) (z : Value) (size bytes : Nat) (ht : P.underlying t = some (.slice e)) (hi : P.info? e = some i) (hz : i.zero = some z)
    (hsize : i.size = size) (hby : i.bytes = bytes) (hzs : z.cells.size = size) (hsz : 0 < size)
    (v : Value) (n : Nat) (xs : List Value) (hs : a.eval s = v) (hown : w.ownsRow base e size v n xs)
    (oa : Option Addr) (m c : Nat) (news : List Value) (hx : a.eval x = .slice oa m c) (h0 : oa = none → m = 0 ∧ c = 0) (hl : news.length = m * size) (hnews : ∀ ad, oa = some ad → ∀ j u, news[j]? = some u → w.cell? (ad.add j) = some u) (h1 : ∀ u ∈ news, u.oneCell' = true)
    (h63 : n + m ≤ maxLen) (hbytes : (n + m) * bytes ≤ 140737488355328) (hbase : base ≤ w.heap.size)
    (h : ∀ v' w', w'.ownsRow base e size v' (n + m) (xs ++ news) → w.grownBy w' v.ownBlock → wpList P ops Q rest (a.put o.dst v') w') : wpList P ops Q (o :: rest) a w :=
  wpList_plain hgd fun _ hK => wp_append_opt w s x t ho base e i z size bytes ht hi hz hsize hby hzs hsz v n xs hs hown oa m c news hx h0 hl hnews h1 h63 hbytes hbase fun v' w' h2 h3 => hK _ _ (h v' w' h2 h3)
end
/-- A row of one's own is a list of integers. -/
theorem is_of_owns {w : World} {base n : Nat} {v : Value} {zs : List Int} (h : w.ownsRow base 2 1 v n (ints zs)) (hn : zs.length = n) (hz : ∀ z ∈ zs, (Lit.int .i64 z).wf = true) :
    ∃ a cap, v = .slice a n cap ∧ IsIs w a n cap zs ∧ ∀ x, a = some x → base ≤ x.block ∧ x.block < w.heap.size := by
  have h' := h
  obtain ⟨h1, h2⟩ := h
  rcases h2 with ⟨rfl, hn0⟩ | ⟨g, cap, cur, rfl, hb, hh, hc1, hc2, hs, ht⟩
  · refine ⟨none, 0, by rw [hn0], ⟨hn, by omega, by unfold maxLen; omega, hz, fun _ => ⟨hn0, rfl⟩, fun x hx => by cases hx⟩, fun x hx => by cases hx⟩
  · have hg := h'.lt g rfl
    refine ⟨_, cap, rfl, ⟨hn, hc1, hc2, hz, by simp, fun x hx i hi => ?_⟩, fun x hx => by cases hx; exact hg⟩
    cases hx
    rw [addr_add', Nat.zero_add, h'.cellAt i (by omega)]
    unfold ints
    simp [List.getD, hn, hi]
theorem l00Own (a : Option Addr) (len cap : Nat) (zs : List Int) (w : World) (h : IsIs w a len cap zs) (hlen : len ≤ 1048576) :
    Calls Try.prog 155 #[.slice a len cap] w fun e w' => (∃ v, e = .returned v ∧ w'.ownsRow w.heap.size 2 1 v len (ints zs)) ∧ Below w.heap.size w w' := by
  obtain ⟨i0, hi, hz0, hz1, hz2⟩ := info_parts info64
  have hzl := h.1
  have hzw := h.2.2.2.1
  have hil : (ints zs).length = len * 1 := by unfold ints; simp; exact hzl
  have H := Lib.hid h
  have HZ := Lib.hid hzw
  clear h hzw
  go_enter Try.func155, Try.ntmps155
  go_wp2_with (at_builtin; refine wpList_append_opt _ rfl _ _ 27 rfl w.heap.size 2 i0 (.int .i64 0) 1 8 Try.underlying27 hi hz0 hz1 hz2 rfl (by decide) _ 0 [] rfl (World.ownsRow_lit (e := 2) (size := 1) w #[] 0 (Nat.le_refl _) (by decide) rfl) a len cap (ints zs) rfl H.out.2.2.2.2.1 hil ?c2 ?c3 ?c4 ?c5 ?c6 ?_)
  case c2 =>
    intro ad had j u hu
    have hj : j < len := by
      have := (List.getElem?_eq_some_iff.1 hu).1; omega
    have hc := H.out.2.2.2.2.2 ad had j hj
    have : u = .int .i64 (zs.getD j 0) := by
      unfold ints at hu
      have hj' : j < zs.length := by omega
      simp [hj'] at hu
      simp [List.getD, hj', ← hu]
    rw [this, World.cell?_alloc_lt (h := World.block_lt_of_cell? _ _ hc)]
    exact hc
  case c3 =>
    intro u hu
    unfold ints at hu
    obtain ⟨z, _, rfl⟩ := List.mem_map.1 hu
    rfl
  case c4 => unfold maxLen; omega
  case c5 => omega
  case c6 => simp
  · intro v' w1 hown hgrow
    have hB1 : Below w.heap.size w (w.alloc (.cells #[] 2)) := (Below.refl _ _).alloc (Nat.le_refl _) _
    have hB2 := hB1.grown hgrow hB1.size (fun k hk => by cases hk; exact Nat.le_refl _)
    have hown' : w1.ownsRow w.heap.size 2 1 v' len (ints zs) := by simpa using hown
    have HI := Lib.hid hown'
    have HB2 := Lib.hid hB2
    clear hown hown' hgrow hB1 hB2
    go_wp2
    go_ret
    exact ⟨⟨v', rfl, HI.out⟩, HB2.out⟩
end Go.Proofs.Ytmbekamnogbgaab


/-
Lists of one's own of different kinds lie in different blocks; lists of rows, and what is read off a list of vectors. Conditions: none.
-/
namespace Go.Proofs.Ytmbekamnogbgaab
open Go Fk Go.RowKit
set_option linter.unusedVariables false
set_option maxRecDepth 8000
theorem owns_up {w w' : World} {base : Nat} {e : TypeId} {size : Nat} {v : Value} {n : Nat} {xs : List Value} (h : w.ownsRow base e size v n xs) (hB : Below w.heap.size w w') : w'.ownsRow base e size v n xs :=
  h.kept (row := none) ⟨hB.os, hB.tape, hB.output, hB.size, fun k hk _ => hB.block k hk⟩ (by cases v.ownBlock <;> simp)
theorem owns_low {w : World} {base base' : Nat} {e : TypeId} {size : Nat} {v : Value} {n : Nat} {xs : List Value} (h : w.ownsRow base e size v n xs) (hb : base' ≤ base) : w.ownsRow base' e size v n xs := by
  obtain ⟨h1, h2⟩ := h
  refine ⟨h1, h2.imp id ?_⟩
  rintro ⟨g, cap, cur, e1, e2, e3⟩
  exact ⟨g, cap, cur, e1, Nat.le_trans hb e2, e3⟩
theorem owns_ne {w : World} {b1 b2 : Nat} {e1 e2 : TypeId} {s1 s2 : Nat} {v1 v2 : Value} {n1 n2 : Nat} {x1 x2 : List Value} (h1 : w.ownsRow b1 e1 s1 v1 n1 x1) (h2 : w.ownsRow b2 e2 s2 v2 n2 x2) (he : e1 ≠ e2) : v1.ownBlock = none ∨ v1.ownBlock ≠ v2.ownBlock := by
  rcases h1.2 with ⟨rfl, _⟩ | ⟨g, c, cur, rfl, _, hg, _⟩
  · exact .inl rfl
  · right
    rcases h2.2 with ⟨rfl, _⟩ | ⟨g2, c2, cur2, rfl, _, hg2, _⟩
    · simp [Value.ownBlock]
    · simp only [Value.ownBlock]
      intro e
      cases e
      rw [hg] at hg2
      cases hg2
      exact he rfl
/-- An own list of another kind is kept where this one grows. -/
theorem owns_side {w w' : World} {b1 b2 : Nat} {e1 e2 : TypeId} {s1 s2 : Nat} {v1 v2 : Value} {n1 n2 : Nat} {x1 x2 : List Value} (h1 : w.ownsRow b1 e1 s1 v1 n1 x1) (h2 : w.ownsRow b2 e2 s2 v2 n2 x2) (he : e1 ≠ e2) (hg : w.grownBy w' v2.ownBlock) : w'.ownsRow b1 e1 s1 v1 n1 x1 :=
  h1.kept hg (owns_ne h1 h2 he)
theorem grown_set (w : World) (X j : Nat) (u : Value) : w.grownBy (w.setCell ⟨X, j, none⟩ u) (some X) :=
  ⟨rfl, rfl, rfl, by simp, fun k _ hk => Below.heap_setCell _ _ _ _ (fun e => hk (by rw [e]))⟩
theorem owns_slice {w : World} {base : Nat} {v : Value} {n : Nat} {e : TypeId} {s : Nat} {xs : List Value} (h : w.ownsRow base e s v n xs) : ∃ a c, v = .slice a n c := by
  rcases h.2 with ⟨rfl, e⟩ | ⟨g, c, _, rfl, _⟩
  · exact ⟨none, 0, by rw [e]⟩
  · exact ⟨_, _, rfl⟩
theorem OwnT.slice {base n : Nat} {w : World} {v : Value} {ts : List (List Int)} (h : ∃ rows : List Value, w.ownsRow base 27 1 v n rows ∧ ∀ j, j < n → ∃ u, rows[j]? = some u ∧ w.ownsRow base 2 1 u (ts.getD j []).length (ints (ts.getD j []))) : ∃ a c, v = .slice a n c := owns_slice h.choose_spec.1
theorem owns_one {w : World} {base : Nat} {v : Value} {n : Nat} {e : TypeId} {s : Nat} {xs : List Value} (h : w.ownsRow base e s v n xs) : v.oneCell' = true := by
  rcases h.2 with ⟨rfl, _⟩ | ⟨g, c, cur, rfl, _⟩ <;> rfl
/-- A list of rows of one's own, each of which is a list of integers of one's own. -/
def OwnT (base : Nat) (w : World) (v : Value) (n : Nat) (ts : List (List Int)) : Prop := ∃ rows : List Value, w.ownsRow base 27 1 v n rows ∧ ∀ j, j < n → ∃ u, rows[j]? = some u ∧ w.ownsRow base 2 1 u (ts.getD j []).length (ints (ts.getD j []))
theorem OwnT.up {base n : Nat} {w w' : World} {v : Value} {ts : List (List Int)} (h : OwnT base w v n ts) (hB : Below w.heap.size w w') : OwnT base w' v n ts := by
  obtain ⟨rows, h1, h2⟩ := h
  refine ⟨rows, owns_up h1 hB, fun j hj => ?_⟩
  obtain ⟨u, e1, e2⟩ := h2 j hj
  exact ⟨u, e1, owns_up e2 hB⟩
theorem OwnT.low {base base' n : Nat} {w : World} {v : Value} {ts : List (List Int)} (h : OwnT base w v n ts) (hb : base' ≤ base) : OwnT base' w v n ts := by
  obtain ⟨rows, h1, h2⟩ := h
  refine ⟨rows, owns_low h1 hb, fun j hj => ?_⟩
  obtain ⟨u, e1, e2⟩ := h2 j hj
  exact ⟨u, e1, owns_low e2 hb⟩
theorem OwnT.side {base n b2 : Nat} {w w' : World} {v v2 : Value} {ts : List (List Int)} {e2 : TypeId} {s2 n2 : Nat} {x2 : List Value} (h : OwnT base w v n ts) (k : w.ownsRow b2 e2 s2 v2 n2 x2) (hg : w.grownBy w' v2.ownBlock) (he : 27 ≠ e2) (he' : 2 ≠ e2) : OwnT base w' v n ts := by
  obtain ⟨rows, h1, h2⟩ := h
  refine ⟨rows, owns_side h1 k he hg, fun j hj => ?_⟩
  obtain ⟨u, e1, e2⟩ := h2 j hj
  exact ⟨u, e1, owns_side e2 k he' hg⟩
theorem OwnT.snoc {base k : Nat} {w w' : World} {v v' : Value} {ts : List (List Int)} {rows : List Value} {u : Value} (h1 : w.ownsRow base 27 1 v k rows) (h2 : ∀ j, j < k → ∃ u, rows[j]? = some u ∧ w.ownsRow base 2 1 u (ts.getD j []).length (ints (ts.getD j [])))
    (hu : w.ownsRow base 2 1 u (ts.getD k []).length (ints (ts.getD k []))) (hg : w.grownBy w' v.ownBlock) (hv : w'.ownsRow base 27 1 v' (k + 1) (rows ++ [u])) : OwnT base w' v' (k + 1) ts := by
  refine ⟨_, hv, fun j hj => ?_⟩
  have hl : rows.length = k := by rw [h1.1]; omega
  by_cases hjk : j < k
  · obtain ⟨u', e1, e2⟩ := h2 j hjk
    exact ⟨u', by rw [List.getElem?_append_left (by omega)]; exact e1, owns_side e2 h1 (by decide) hg⟩
  · obtain rfl : j = k := by omega
    exact ⟨u, by rw [List.getElem?_append_right (by omega), hl]; simp, owns_side hu h1 (by decide) hg⟩
/-- Rows of one's own are a list of triangles. -/
theorem OwnT.is {base n : Nat} {w : World} {v : Value} {ts : List (List Int)} (h : OwnT base w v n ts) (hn : ts.length = n) (hz : ∀ j, j < n → ∀ z ∈ ts.getD j [], (Lit.int .i64 z).wf = true) : ∃ a cap, v = .slice a n cap ∧ IsTs w a n cap ts := by
  obtain ⟨rows, h1, h2⟩ := h
  have h1' := h1
  rcases h1.2 with ⟨rfl, hn0⟩ | ⟨g, cap, cur, rfl, hb, hh, hc1, hc2, hs, ht⟩
  · exact ⟨none, 0, by rw [hn0], hn, by omega, by unfold maxLen; omega, fun _ => ⟨hn0, rfl⟩, fun x hx => by cases hx⟩
  · refine ⟨_, cap, rfl, hn, hc1, hc2, by simp, fun x hx i hi => ?_⟩
    cases hx
    obtain ⟨u, e1, e2⟩ := h2 i hi
    obtain ⟨b, c, rfl, hI, _⟩ := is_of_owns e2 rfl (hz i hi)
    exact ⟨b, _, c, by rw [addr_add', Nat.zero_add, h1'.cellAt i (by omega)]; exact e1, hI⟩
/-- Cells that hold vectors of these classes. -/
def PV (n : Nat) (xs : List Value) (cs : List C3) : Prop := ∀ j, j < n → ∃ p q r, xs[j * 3]? = some (.float .f32 p) ∧ xs[j * 3 + 1]? = some (.float .f32 q) ∧ xs[j * 3 + 2]? = some (.float .f32 r) ∧ FV .f32 p (cs.getD j c0).1 ∧ FV .f32 q (cs.getD j c0).2.1 ∧ FV .f32 r (cs.getD j c0).2.2
theorem vs_cells {w : World} {a : Option Addr} {n cap : Nat} {cs : List C3} (h : IsVs w a n cap cs) : ∃ xs : List Value, xs.length = n * 3 ∧ (∀ ad, a = some ad → ∀ j u, xs[j]? = some u → w.cell? (ad.add j) = some u) ∧ (∀ u ∈ xs, u.oneCell' = true) ∧ PV n xs cs := by
  obtain ⟨h1, h2, h3, h4, h5⟩ := h
  cases a with
  | none =>
    obtain ⟨rfl, _⟩ := h4 rfl
    exact ⟨[], rfl, ⟨fun _ had => (by cases had), fun u hu => absurd hu (by simp), fun j hj => absurd hj (by omega)⟩⟩
  | some x =>
    have hc : ∀ j, j < n * 3 → ∃ p, w.cell? (x.add j) = some (.float .f32 p) := by
      intro j hj
      obtain ⟨p, q, r, k0, k1, k2, _⟩ := h5 x rfl (j / 3) (by omega)
      have : j = j / 3 * 3 ∨ j = j / 3 * 3 + 1 ∨ j = j / 3 * 3 + 2 := by omega
      rcases this with e | e | e
      · exact ⟨p, by rw [e]; exact k0⟩
      · exact ⟨q, by rw [e]; exact k1⟩
      · exact ⟨r, by rw [e]; exact k2⟩
    refine ⟨(List.range (n * 3)).map fun j => (w.cell? (x.add j)).getD undef, by simp, fun ad had j u hu => ?_, fun u hu => ?_, fun j hj => ?_⟩
    · cases had
      have hj : j < n * 3 := by have := (List.getElem?_eq_some_iff.1 hu).1; simpa using this
      obtain ⟨p, hp⟩ := hc j hj
      simp [hj, hp] at hu
      rw [hp, ← hu]
    · obtain ⟨j, hj, rfl⟩ := List.mem_map.1 hu
      obtain ⟨p, hp⟩ := hc j (List.mem_range.1 hj)
      rw [hp]; rfl
    · obtain ⟨p, q, r, k0, k1, k2, hf⟩ := h5 x rfl j hj
      have g0 : j * 3 < n * 3 := by omega
      have g1 : j * 3 + 1 < n * 3 := by omega
      have g2 : j * 3 + 2 < n * 3 := by omega
      exact ⟨p, q, r, by simp [g0, k0], by simp [g1, k1], by simp [g2, k2], hf⟩
theorem vs_of_owns {w : World} {base n : Nat} {v : Value} {xs : List Value} {cs : List C3} (h : w.ownsRow base 62 3 v n xs) (hn : cs.length = n) (hp : PV n xs cs) : ∃ a cap, v = .slice a n cap ∧ IsVs w a n cap cs := by
  have h' := h
  rcases h.2 with ⟨rfl, hn0⟩ | ⟨g, cap, cur, rfl, hb, hh, hc1, hc2, hs, ht⟩
  · exact ⟨none, 0, by rw [hn0], hn, by omega, by unfold maxLen; omega, fun _ => ⟨hn0, rfl⟩, fun x hx => by cases hx⟩
  · refine ⟨_, cap, rfl, hn, hc1, hc2, by simp, fun x hx i hi => ?_⟩
    cases hx
    obtain ⟨p, q, r, e0, e1, e2, hf⟩ := hp i hi
    exact ⟨p, q, r, by rw [addr_add', Nat.zero_add, h'.cellAt _ (by omega)]; exact e0, by rw [addr_add', Nat.zero_add, h'.cellAt _ (by omega)]; exact e1, by rw [addr_add', Nat.zero_add, h'.cellAt _ (by omega)]; exact e2, hf⟩
end Go.Proofs.Ytmbekamnogbgaab

/-
Texts in one: what HoldMesh stands on, part 17. Conditions: those of each.
-/
import Derived.Test.YtajglpkeojaelaaKHoldMesh16

/-
Lists of one's own of different kinds lie in different blocks; lists of rows, and what is read off a list of vectors. Conditions: none.
-/
namespace Go.Proofs.Ytajglpkeojaelaa
open Go Fk Go.RowKit
set_option linter.unusedVariables false
set_option maxRecDepth 8000
theorem owns_up {w w' : World} {base : Nat} {e : TypeId} {size : Nat} {v : Value} {n : Nat} {xs : List Value} (h : w.ownsRow base e size v n xs) (hB : Below w.heap.size w w') : w'.ownsRow base e size v n xs :=
  h.kept (row := none) ⟨hB.os, hB.tape, hB.output, hB.size, fun k hk _ => hB.block k hk⟩ (by cases v.ownBlock <;> simp)
theorem owns_low {w : World} {base base' : Nat} {e : TypeId} {size : Nat} {v : Value} {n : Nat} {xs : List Value} (h : w.ownsRow base e size v n xs) (hb : base' ≤ base) : w.ownsRow base' e size v n xs := by
  obtain ⟨h1, h2⟩ := h
  refine ⟨h1, h2.imp id ?_⟩
  rintro ⟨g, cap, cur, e1, e2, e3⟩
  exact ⟨g, cap, cur, e1, Nat.le_trans hb e2, e3⟩
theorem owns_ne {w : World} {b1 b2 : Nat} {e1 e2 : TypeId} {s1 s2 : Nat} {v1 v2 : Value} {n1 n2 : Nat} {x1 x2 : List Value} (h1 : w.ownsRow b1 e1 s1 v1 n1 x1) (h2 : w.ownsRow b2 e2 s2 v2 n2 x2) (he : e1 ≠ e2) : v1.ownBlock = none ∨ v1.ownBlock ≠ v2.ownBlock := by
  rcases h1.2 with ⟨rfl, _⟩ | ⟨g, c, cur, rfl, _, hg, _⟩
  · exact .inl rfl
  · right
    rcases h2.2 with ⟨rfl, _⟩ | ⟨g2, c2, cur2, rfl, _, hg2, _⟩
    · simp [Value.ownBlock]
    · simp only [Value.ownBlock]
      intro e
      cases e
      rw [hg] at hg2
      cases hg2
      exact he rfl
/-- An own list of another kind is kept where this one grows. -/
theorem owns_side {w w' : World} {b1 b2 : Nat} {e1 e2 : TypeId} {s1 s2 : Nat} {v1 v2 : Value} {n1 n2 : Nat} {x1 x2 : List Value} (h1 : w.ownsRow b1 e1 s1 v1 n1 x1) (h2 : w.ownsRow b2 e2 s2 v2 n2 x2) (he : e1 ≠ e2) (hg : w.grownBy w' v2.ownBlock) : w'.ownsRow b1 e1 s1 v1 n1 x1 :=
  h1.kept hg (owns_ne h1 h2 he)
theorem grown_set (w : World) (X j : Nat) (u : Value) : w.grownBy (w.setCell ⟨X, j, none⟩ u) (some X) :=
  ⟨rfl, rfl, rfl, by simp, fun k _ hk => Below.heap_setCell _ _ _ _ (fun e => hk (by rw [e]))⟩
theorem owns_slice {w : World} {base : Nat} {v : Value} {n : Nat} {e : TypeId} {s : Nat} {xs : List Value} (h : w.ownsRow base e s v n xs) : ∃ a c, v = .slice a n c := by
  rcases h.2 with ⟨rfl, e⟩ | ⟨g, c, _, rfl, _⟩
  · exact ⟨none, 0, by rw [e]⟩
  · exact ⟨_, _, rfl⟩
theorem OwnT.slice {base n : Nat} {w : World} {v : Value} {ts : List (List Int)} (h : ∃ rows : List Value, w.ownsRow base 33 1 v n rows ∧ ∀ j, j < n → ∃ u, rows[j]? = some u ∧ w.ownsRow base 2 1 u (ts.getD j []).length (ints (ts.getD j []))) : ∃ a c, v = .slice a n c := owns_slice h.choose_spec.1
theorem owns_one {w : World} {base : Nat} {v : Value} {n : Nat} {e : TypeId} {s : Nat} {xs : List Value} (h : w.ownsRow base e s v n xs) : v.oneCell' = true := by
  rcases h.2 with ⟨rfl, _⟩ | ⟨g, c, cur, rfl, _⟩ <;> rfl
/-- A list of rows of one's own, each of which is a list of integers of one's own. -/
def OwnT (base : Nat) (w : World) (v : Value) (n : Nat) (ts : List (List Int)) : Prop := ∃ rows : List Value, w.ownsRow base 33 1 v n rows ∧ ∀ j, j < n → ∃ u, rows[j]? = some u ∧ w.ownsRow base 2 1 u (ts.getD j []).length (ints (ts.getD j []))
theorem OwnT.up {base n : Nat} {w w' : World} {v : Value} {ts : List (List Int)} (h : OwnT base w v n ts) (hB : Below w.heap.size w w') : OwnT base w' v n ts := by
  obtain ⟨rows, h1, h2⟩ := h
  refine ⟨rows, owns_up h1 hB, fun j hj => ?_⟩
  obtain ⟨u, e1, e2⟩ := h2 j hj
  exact ⟨u, e1, owns_up e2 hB⟩
theorem OwnT.low {base base' n : Nat} {w : World} {v : Value} {ts : List (List Int)} (h : OwnT base w v n ts) (hb : base' ≤ base) : OwnT base' w v n ts := by
  obtain ⟨rows, h1, h2⟩ := h
  refine ⟨rows, owns_low h1 hb, fun j hj => ?_⟩
  obtain ⟨u, e1, e2⟩ := h2 j hj
  exact ⟨u, e1, owns_low e2 hb⟩
theorem OwnT.side {base n b2 : Nat} {w w' : World} {v v2 : Value} {ts : List (List Int)} {e2 : TypeId} {s2 n2 : Nat} {x2 : List Value} (h : OwnT base w v n ts) (k : w.ownsRow b2 e2 s2 v2 n2 x2) (hg : w.grownBy w' v2.ownBlock) (he : 33 ≠ e2) (he' : 2 ≠ e2) : OwnT base w' v n ts := by
  obtain ⟨rows, h1, h2⟩ := h
  refine ⟨rows, owns_side h1 k he hg, fun j hj => ?_⟩
  obtain ⟨u, e1, e2⟩ := h2 j hj
  exact ⟨u, e1, owns_side e2 k he' hg⟩
theorem OwnT.snoc {base k : Nat} {w w' : World} {v v' : Value} {ts : List (List Int)} {rows : List Value} {u : Value} (h1 : w.ownsRow base 33 1 v k rows) (h2 : ∀ j, j < k → ∃ u, rows[j]? = some u ∧ w.ownsRow base 2 1 u (ts.getD j []).length (ints (ts.getD j [])))
    (hu : w.ownsRow base 2 1 u (ts.getD k []).length (ints (ts.getD k []))) (hg : w.grownBy w' v.ownBlock) (hv : w'.ownsRow base 33 1 v' (k + 1) (rows ++ [u])) : OwnT base w' v' (k + 1) ts := by
  refine ⟨_, hv, fun j hj => ?_⟩
  have hl : rows.length = k := by rw [h1.1]; omega
  by_cases hjk : j < k
  · obtain ⟨u', e1, e2⟩ := h2 j hjk
    exact ⟨u', by rw [List.getElem?_append_left (by omega)]; exact e1, owns_side e2 h1 (by decide) hg⟩
  · obtain rfl : j = k := by omega
    exact ⟨u, by rw [List.getElem?_append_right (by omega), hl]; simp, owns_side hu h1 (by decide) hg⟩
/-- Rows of one's own are a list of triangles. -/
theorem OwnT.is {base n : Nat} {w : World} {v : Value} {ts : List (List Int)} (h : OwnT base w v n ts) (hn : ts.length = n) (hz : ∀ j, j < n → ∀ z ∈ ts.getD j [], (Lit.int .i64 z).wf = true) : ∃ a cap, v = .slice a n cap ∧ IsTs w a n cap ts := by
  obtain ⟨rows, h1, h2⟩ := h
  have h1' := h1
  rcases h1.2 with ⟨rfl, hn0⟩ | ⟨g, cap, cur, rfl, hb, hh, hc1, hc2, hs, ht⟩
  · exact ⟨none, 0, by rw [hn0], hn, by omega, by unfold maxLen; omega, fun _ => ⟨hn0, rfl⟩, fun x hx => by cases hx⟩
  · refine ⟨_, cap, rfl, hn, hc1, hc2, by simp, fun x hx i hi => ?_⟩
    cases hx
    obtain ⟨u, e1, e2⟩ := h2 i hi
    obtain ⟨b, c, rfl, hI, _⟩ := is_of_owns e2 rfl (hz i hi)
    exact ⟨b, _, c, by rw [addr_add', Nat.zero_add, h1'.cellAt i (by omega)]; exact e1, hI⟩
/-- Cells that hold vectors of these classes. -/
def PV (n : Nat) (xs : List Value) (cs : List C3) : Prop := ∀ j, j < n → ∃ p q r, xs[j * 3]? = some (.float .f32 p) ∧ xs[j * 3 + 1]? = some (.float .f32 q) ∧ xs[j * 3 + 2]? = some (.float .f32 r) ∧ FV .f32 p (cs.getD j c0).1 ∧ FV .f32 q (cs.getD j c0).2.1 ∧ FV .f32 r (cs.getD j c0).2.2
theorem vs_cells {w : World} {a : Option Addr} {n cap : Nat} {cs : List C3} (h : IsVs w a n cap cs) : ∃ xs : List Value, xs.length = n * 3 ∧ (∀ ad, a = some ad → ∀ j u, xs[j]? = some u → w.cell? (ad.add j) = some u) ∧ (∀ u ∈ xs, u.oneCell' = true) ∧ PV n xs cs := by
  obtain ⟨h1, h2, h3, h4, h5⟩ := h
  cases a with
  | none =>
    obtain ⟨rfl, _⟩ := h4 rfl
    exact ⟨[], rfl, ⟨fun _ had => (by cases had), fun u hu => absurd hu (by simp), fun j hj => absurd hj (by omega)⟩⟩
  | some x =>
    have hc : ∀ j, j < n * 3 → ∃ p, w.cell? (x.add j) = some (.float .f32 p) := by
      intro j hj
      obtain ⟨p, q, r, k0, k1, k2, _⟩ := h5 x rfl (j / 3) (by omega)
      have : j = j / 3 * 3 ∨ j = j / 3 * 3 + 1 ∨ j = j / 3 * 3 + 2 := by omega
      rcases this with e | e | e
      · exact ⟨p, by rw [e]; exact k0⟩
      · exact ⟨q, by rw [e]; exact k1⟩
      · exact ⟨r, by rw [e]; exact k2⟩
    refine ⟨(List.range (n * 3)).map fun j => (w.cell? (x.add j)).getD undef, by simp, fun ad had j u hu => ?_, fun u hu => ?_, fun j hj => ?_⟩
    · cases had
      have hj : j < n * 3 := by have := (List.getElem?_eq_some_iff.1 hu).1; simpa using this
      obtain ⟨p, hp⟩ := hc j hj
      simp [hj, hp] at hu
      rw [hp, ← hu]
    · obtain ⟨j, hj, rfl⟩ := List.mem_map.1 hu
      obtain ⟨p, hp⟩ := hc j (List.mem_range.1 hj)
      rw [hp]; rfl
    · obtain ⟨p, q, r, k0, k1, k2, hf⟩ := h5 x rfl j hj
      have g0 : j * 3 < n * 3 := by omega
      have g1 : j * 3 + 1 < n * 3 := by omega
      have g2 : j * 3 + 2 < n * 3 := by omega
      exact ⟨p, q, r, by simp [g0, k0], by simp [g1, k1], by simp [g2, k2], hf⟩
theorem vs_of_owns {w : World} {base n : Nat} {v : Value} {xs : List Value} {cs : List C3} (h : w.ownsRow base 40 3 v n xs) (hn : cs.length = n) (hp : PV n xs cs) : ∃ a cap, v = .slice a n cap ∧ IsVs w a n cap cs := by
  have h' := h
  rcases h.2 with ⟨rfl, hn0⟩ | ⟨g, cap, cur, rfl, hb, hh, hc1, hc2, hs, ht⟩
  · exact ⟨none, 0, by rw [hn0], hn, by omega, by unfold maxLen; omega, fun _ => ⟨hn0, rfl⟩, fun x hx => by cases hx⟩
  · refine ⟨_, cap, rfl, hn, hc1, hc2, by simp, fun x hx i hi => ?_⟩
    cases hx
    obtain ⟨p, q, r, e0, e1, e2, hf⟩ := hp i hi
    exact ⟨p, q, r, by rw [addr_add', Nat.zero_add, h'.cellAt _ (by omega)]; exact e0, by rw [addr_add', Nat.zero_add, h'.cellAt _ (by omega)]; exact e1, by rw [addr_add', Nat.zero_add, h'.cellAt _ (by omega)]; exact e2, hf⟩
end Go.Proofs.Ytajglpkeojaelaa


/-
Rows of integers and lists that the model clones: both together. Conditions: none.
-/
namespace Go.Proofs.Ytajglpkeojaelaa
open Go Fk Go.RowKit
end Go.Proofs.Ytajglpkeojaelaa


/-
What holds leave of forces: the model. Conditions: the lists lie in memory, every place of a hold is one of the forces'.
-/
namespace Go.Proofs.Ytajglpkeojaelaa
open Go Fk Go.RowKit
set_option linter.unusedVariables false
set_option maxRecDepth 16000

/-- One hold leaves of the forces. -/
def leave1 (X : List C3) (h : HC) : List C3 := X.set h.1.toNat (leaveC h (X.getD h.1.toNat c0))
def leaveF (hs : List HC) (fs : List C3) : List C3 := hs.foldl leave1 fs
theorem leaveF_snoc (hs : List HC) (fs : List C3) (k : Nat) (hk : k < hs.length) : leaveF (hs.take (k + 1)) fs = leave1 (leaveF (hs.take k) fs) (hs.getD k hd0) := by
  rw [List.take_succ_eq_append_getElem hk]
  unfold leaveF
  rw [List.foldl_append]
  simp [List.getD, hk]
theorem leaveF_len (hs : List HC) (fs : List C3) : (leaveF hs fs).length = fs.length := by
  induction hs generalizing fs with
  | nil => rfl
  | cons h t ih => show (leaveF t (leave1 fs h)).length = _; rw [ih]; simp [leave1]
/-- A list of vectors that a call returns: none, or one that may be written. -/
def RV (base : Nat) (w : World) (v : Value) (X : List C3) : Prop := ∃ a cap, v = .slice a X.length cap ∧ IsVs w a X.length cap X ∧ Lst base w.heap.size w a (X.length * 3)
theorem RV.nil (base : Nat) (w : World) : RV base w (.slice none 0 0) [] :=
  ⟨none, 0, rfl, ⟨rfl, Nat.le_refl _, by unfold maxLen; omega, fun _ => ⟨rfl, rfl⟩, fun x hx => by cases hx⟩, .inl ⟨rfl, rfl⟩⟩
theorem RV.block {base g cap : Nat} {w : World} {X : List C3} (hg : base ≤ g) (h1 : X.length ≤ cap) (h2 : cap ≤ maxLen) (h : OwnVs w g X) : RV base w (.slice (some ⟨g, 0, none⟩) X.length cap) X := by
  refine ⟨_, cap, rfl, ⟨rfl, h1, h2, by simp, fun x hx i hi => ?_⟩, .inr ⟨g, rfl, hg, h.2.2, h.2.2, fun j hj => ⟨?_, by rw [Nat.zero_add]; exact h.2.1 j⟩⟩⟩
  · cases hx
    obtain ⟨p, q, r, ⟨k0, k1, k2⟩, f⟩ := h.1.2 i hi
    exact ⟨p, q, r, by rw [addr_add', Nat.zero_add]; exact k0, by rw [addr_add', Nat.zero_add]; exact k1, by rw [addr_add', Nat.zero_add]; exact k2, f⟩
  · obtain ⟨p, q, r, ⟨k0, k1, k2⟩, f⟩ := h.1.2 (j / 3) (by omega)
    rw [Nat.zero_add]
    have : j = j / 3 * 3 ∨ j = j / 3 * 3 + 1 ∨ j = j / 3 * 3 + 2 := by omega
    rcases this with e | e | e
    · exact ⟨_, by rw [e]; exact k0⟩
    · exact ⟨_, by rw [e]; exact k1⟩
    · exact ⟨_, by rw [e]; exact k2⟩
/-- What append makes is none, or a block of its own. -/
theorem own_block {w : World} {base n : Nat} {v : Value} {xs : List Value} {cs : List C3} (h : w.ownsRow base 40 3 v n xs) (hp : PV n xs cs) (hn : cs.length = n) :
    (v = .slice none 0 0 ∧ n = 0) ∨ ∃ g cap, v = .slice (some ⟨g, 0, none⟩) n cap ∧ base ≤ g ∧ n ≤ cap ∧ cap ≤ maxLen ∧ OwnVs w g cs := by
  have h' := h
  obtain ⟨h1, h2⟩ := h
  rcases h2 with ⟨rfl, hz⟩ | ⟨g, cap, cur, rfl, hb, hh, hc1, hc2, hs, ht⟩
  · exact .inl ⟨rfl, hz⟩
  · refine .inr ⟨g, cap, rfl, hb, hc1, hc2, ⟨by omega, fun i hi => ?_⟩, fun j => h'.frozenAt j, (h'.lt g rfl).2⟩
    obtain ⟨p, q, r, e0, e1, e2, f⟩ := hp i (by omega)
    exact ⟨p, q, r, ⟨by rw [h'.cellAt _ (by omega)]; exact e0, by rw [h'.cellAt _ (by omega)]; exact e1, by rw [h'.cellAt _ (by omega)]; exact e2⟩, f⟩
theorem step_in {n : Nat} {hs : List HC} {k : Nat} (h : stepB n hs k = true) : inB n (hs.getD k hd0).1 = true := by
  unfold stepB at h; simp only [Bool.and_eq_true] at h; exact h.2.1
set_option maxHeartbeats 4000000 in
theorem l04Forces (ha fa : Option Addr) (hl hc fl fc : Nat) (hs : List HC) (fs : List C3) (w : World) (hh : IsHs w ha hl hc hs) (hf : IsVs w fa fl fc fs) (hg : ∀ k, k < hl → inB fl (hs.getD k hd0).1 = true) (hb : fl ≤ 1048576) :
    Calls Try.prog 90 #[.slice ha hl hc, .slice fa fl fc] w fun e w' => ∃ v, e = .returned v ∧ RV w.heap.size w' v (leaveF hs fs) ∧ Below w.heap.size w w' := by
  have uh := Try.underlying119
  have uv := Try.underlying40
  obtain ⟨i0, hi, hz0, hz1, hz2⟩ := info_parts infoV
  obtain ⟨xs, x1, x2, x3, x4⟩ := vs_cells hf
  have h0 := hf.2.2.2.1
  have hfl := hf.1
  have hhl := hh.1
  have X2 := Lib.hid x2
  have X3 := Lib.hid x3
  have X4 := Lib.hid x4
  have X1 := Lib.hid x1
  have HH := Lib.hid hh
  have HG := Lib.hid hg
  have HPA := Lib.hid h0
  have hm : hl ≤ 9223372036854775807 := by have h1 := hh.2.1; have h2 := hh.2.2.1; unfold maxLen at h2; omega
  clear x1 x2 x3 x4 hf hh hg h0
  have HST := Lib.hid (World.ownsRow_lit (base := w.heap.size) (e := 40) (size := 3) w #[] 0 (Nat.le_refl _) (by decide) rfl)
  go_enter Try.func90, Try.ntmps90
  go_wp2_with (at_builtin; go_loud (refine wpList_append_opt _ rfl _ _ 36 rfl w.heap.size 40 i0 (.agg #[.float .f32 0, .float .f32 0, .float .f32 0]) 3 12 Try.underlying36 hi hz0 hz1 hz2 rfl (by decide) _ 0 [] rfl HST.out fa fl fc xs rfl HPA.out X1.out ?c2 ?c3 ?c4 ?c5 ?c6 ?_))
  case c2 =>
    intro ad had j u hu
    have := X2.out ad had j u hu
    rw [World.cell?_alloc_lt (h := World.block_lt_of_cell? _ _ this)]
    exact this
  case c3 => exact X3.out
  case c4 => unfold maxLen; omega
  case c5 => omega
  · intro v w1 hown hgrow
    have hown' : w1.ownsRow w.heap.size 40 3 v fl xs := by simpa using hown
    have hB1 : Below w.heap.size w w1 := ((Below.refl _ _).alloc (Nat.le_refl _) _).grown hgrow (by simp) (fun k hk => by simp [Value.ownBlock] at hk; omega)
    have HB := Lib.hid hB1
    rcases own_block hown' X4.out hfl with ⟨rfl, hz⟩ | ⟨g, cap, rfl, hgb, hc1, hc2, hov⟩
    · have hl0 : hl = 0 := by
        by_cases h : hl = 0
        · exact h
        · have := of_decide_eq_true (HG.out 0 (by omega)); omega
      have hnil : leaveF hs fs = [] := List.eq_nil_of_length_eq_zero (by rw [leaveF_len]; omega)
      subst hl0
      clear hown hgrow hown' hB1
      go_wp2
      refine wp_loop_rounds 1 ?_
      rw [rounds_succ]
      go_wp2
      go_ret
      exact ⟨_, rfl, by rw [hnil]; exact RV.nil _ _, HB.out⟩
    · have ST0 : Hid (St w ([] : List (Nat × List Value)) g (leaveF (hs.take 0) fs) w1) := Lib.hid ⟨hB1, fun b l hm => absurd hm (by simp), hgb, hov⟩
      clear hown hgrow hown' hB1 hov
      go_wp2
      go_loopw [6] (fun i w' => ∃ k : Nat, k ≤ hl ∧ i = .int .i64 k ∧ Aside (St w ([] : List (Nat × List Value)) g (leaveF (hs.take k) fs) w')) (fun i _ => hl - (intOf i).toNat)
      case atStart => exact ⟨0, Nat.zero_le _, rfl, ST0.out⟩
      case round =>
        obtain ⟨k, hk, rfl, hA⟩ := hrel
        have ST := Lib.hid hA.out
        clear hA
        by_cases hlt : k < hl
        · skip
          obtain ⟨b, o, hha, hcell⟩ := HH.out.some (by omega)
          obtain ⟨h, hq, hi⟩ := hcell k hlt
          have hlk : k < hs.length := by omega
          have hk0 : (0 : Int) ≤ (k : Int) := by omega
          have hk1 : (k : Int) < (hl : Int) := by omega
          have hin := of_decide_eq_true (HG.out k hlt)
          have hpz : h.p = (hs.getD k hd0).1 := hi.1
          rw [← hpz] at hin
          have p0 : (0 : Int) ≤ h.p := hin.1
          have p1 : h.p < (fl : Int) := by omega
          have LT : Hid (h.p.toNat < (leaveF (hs.take k) fs).length) := Lib.hid (by rw [leaveF_len]; omega)
          have hsn := leaveF_snoc hs fs k hlk
          unfold leave1 at hsn
          rw [← hpz] at hsn
          have hnl := leaveF_len (hs.take k) fs
          have HSN := Lib.hid hsn
          have HNL := Lib.hid hnl
          have HI := Lib.hid hi
          obtain ⟨NP, hNP⟩ : ∃ NP, (leaveF (hs.take k) fs).getD h.p.toNat c0 = NP := ⟨_, rfl⟩
          rw [hNP] at HSN
          generalize hs.getD k hd0 = HCk at *
          generalize leaveF (hs.take k) fs = NX at *
          have HNP := Lib.hid hNP
          have QH := Lib.hid hq
          clear hcell hin hpz hsn hnl hi hNP
          rw [hha]
          have HPA := Lib.hid hha
          clear hha
          have c0 := QH.out 0 (by omega)
          simp only [HW.l, List.getElem?_cons_zero, List.getElem?_cons_succ, Nat.add_zero] at c0
          have CP := Lib.hid c0
          clear c0 hq
          go_wp2_with fail
          refine Reg3.wp_region_mix (C := St w ([] : List (Nat × List Value)) g NX) (G := fun _ _ => True) (R := fun i v w' => match i with | 0 => v = .slice (some ⟨g, 0, none⟩) fl cap | 1 => v = .slice (some ⟨b, o, none⟩) hl hc | 2 => v = .int .i64 k | 3 => v = .pointer (some ⟨b, o + k * 8, none⟩) | 4 => v = .pointer (some ⟨b, o + k * 8, none⟩) | 5 => v = .int .i64 h.p | 6 => v = .slice (some ⟨b, o, none⟩) hl hc | 7 => v = .int .i64 k | 8 => v = .pointer (some ⟨b, o + k * 8, none⟩) | 9 => v = .slice (some ⟨g, 0, none⟩) fl cap | 10 => v = .slice (some ⟨b, o, none⟩) hl hc | 11 => v = .int .i64 k | 12 => v = .pointer (some ⟨b, o + k * 8, none⟩) | 13 => v = .pointer (some ⟨b, o + k * 8, none⟩) | 14 => v = .int .i64 h.p | 15 => v = .pointer (some ⟨g, h.p.toNat * 3, none⟩) | 16 => ∃ p q r, v = vv p q r ∧ F3 p q r NP | 17 => ∃ p q r, v = vv p q r ∧ F3 p q r (leaveC HCk NP) | 18 => v = .pointer (some ⟨g, h.p.toNat * 3, none⟩) | _ => True) (T := fun _ _ w' => St w ([] : List (Nat × List Value)) g (NX.set h.p.toNat (leaveC HCk NP)) w') [false, false, false, false, false, false, false, false, false, false, false, false, false, false, false, false, true, true, true, true, true, true, true, true, true, true, true, true, true, true, true, true, true, true, true, false]
            (by kernel_rfl) (by kernel_rfl) (by kernel_rfl) (fun _ _ _ _ _ _ h => h) (ST.out.drewN 1) ?_ ?_
          · refine ⟨Reg3.Obl.mk ?_, Reg3.Obl.mk ?_, Reg3.Obl.mk ?_, Reg3.Obl.mk ?_, Reg3.Obl.mk ?_, Reg3.Obl.mk ?_, Reg3.Obl.mk ?_, Reg3.Obl.mk ?_, Reg3.Obl.mk ?_, Reg3.Obl.mk ?_, Reg3.Obl.mk ?_, Reg3.Obl.mk ?_, Reg3.Obl.mk ?_, Reg3.Obl.mk ?_, Reg3.Obl.mk ?_, Reg3.Obl.mk ?_, Reg3.Obl.mk ?_, Reg3.Obl.mk ?_, Reg3.Obl.mk ?_, Reg3.Obl.mk ?_, trivial⟩
            · rintro a w1 hC hx hd K hK
              have HC := Lib.hid hC
              clear hC
              have t5 : a.tmps[5]?.getD undef = .slice (some ⟨g, 0, none⟩) fl cap := Reg.slot_val (hx 5 (by kernel_rfl))
              go_simp
              exact hK _ _ (fun _ => rfl) (fun h => by cases h) (fun _ => HC.out) trivial
            · rintro a w1 hC hx hd K hK
              have HC := Lib.hid hC
              clear hC
              have t0 : a.tmps[0]?.getD undef = .slice (some ⟨b, o, none⟩) hl hc := Reg.slot_val (hx 0 (by kernel_rfl))
              go_simp
              exact hK _ _ (fun _ => rfl) (fun h => by cases h) (fun _ => HC.out) trivial
            · rintro a w1 hC hx hd K hK
              have HC := Lib.hid hC
              clear hC
              have t6 : a.tmps[6]?.getD undef = .int .i64 k := Reg.slot_val (hx 6 (by kernel_rfl))
              go_simp
              exact hK _ _ (fun _ => rfl) (fun h => by cases h) (fun _ => HC.out) trivial
            · rintro a w1 hC hx hd K hK
              have HC := Lib.hid hC
              clear hC
              have t17 : a.tmps[17]?.getD undef = .slice (some ⟨b, o, none⟩) hl hc := Reg.slot_val (hd 1 (by kernel_rfl) 17 rfl)
              have t18 : a.tmps[18]?.getD undef = .int .i64 k := Reg.slot_val (hd 2 (by kernel_rfl) 18 rfl)
              go_simp
              exact hK _ _ (fun _ => rfl) (fun h => by cases h) (fun _ => HC.out) trivial
            · rintro a w1 hC hx hd K hK
              have HC := Lib.hid hC
              clear hC
              have t19 : a.tmps[19]?.getD undef = .pointer (some ⟨b, o + k * 8, none⟩) := Reg.slot_val (hd 3 (by kernel_rfl) 19 rfl)
              go_simp
              exact hK _ _ (fun _ => rfl) (fun h => by cases h) (fun _ => HC.out) trivial
            · rintro a w1 hC hx hd K hK
              have HC := Lib.hid hC
              clear hC
              have z0 := cell_below HC.out.bel CP.out
              have t20 : a.tmps[20]?.getD undef = .pointer (some ⟨b, o + k * 8, none⟩) := Reg.slot_val (hd 4 (by kernel_rfl) 20 rfl)
              go_simp
              exact hK _ _ (fun _ => rfl) (fun h => by cases h) (fun _ => HC.out) trivial
            · rintro a w1 hC hx hd K hK
              have HC := Lib.hid hC
              clear hC
              have t0 : a.tmps[0]?.getD undef = .slice (some ⟨b, o, none⟩) hl hc := Reg.slot_val (hx 0 (by kernel_rfl))
              go_simp
              exact hK _ _ (fun _ => rfl) (fun h => by cases h) (fun _ => HC.out) trivial
            · rintro a w1 hC hx hd K hK
              have HC := Lib.hid hC
              clear hC
              have t6 : a.tmps[6]?.getD undef = .int .i64 k := Reg.slot_val (hx 6 (by kernel_rfl))
              go_simp
              exact hK _ _ (fun _ => rfl) (fun h => by cases h) (fun _ => HC.out) trivial
            · rintro a w1 hC hx hd K hK
              have HC := Lib.hid hC
              clear hC
              have t22 : a.tmps[22]?.getD undef = .slice (some ⟨b, o, none⟩) hl hc := Reg.slot_val (hd 6 (by kernel_rfl) 22 rfl)
              have t23 : a.tmps[23]?.getD undef = .int .i64 k := Reg.slot_val (hd 7 (by kernel_rfl) 23 rfl)
              go_simp
              exact hK _ _ (fun _ => rfl) (fun h => by cases h) (fun _ => HC.out) trivial
            · rintro a w1 hC hx hd K hK
              have HC := Lib.hid hC
              clear hC
              have t5 : a.tmps[5]?.getD undef = .slice (some ⟨g, 0, none⟩) fl cap := Reg.slot_val (hx 5 (by kernel_rfl))
              go_simp
              exact hK _ _ (fun _ => rfl) (fun h => by cases h) (fun _ => HC.out) trivial
            · rintro a w1 hC hx hd K hK
              have HC := Lib.hid hC
              clear hC
              have t0 : a.tmps[0]?.getD undef = .slice (some ⟨b, o, none⟩) hl hc := Reg.slot_val (hx 0 (by kernel_rfl))
              go_simp
              exact hK _ _ (fun _ => rfl) (fun h => by cases h) (fun _ => HC.out) trivial
            · rintro a w1 hC hx hd K hK
              have HC := Lib.hid hC
              clear hC
              have t6 : a.tmps[6]?.getD undef = .int .i64 k := Reg.slot_val (hx 6 (by kernel_rfl))
              go_simp
              exact hK _ _ (fun _ => rfl) (fun h => by cases h) (fun _ => HC.out) trivial
            · rintro a w1 hC hx hd K hK
              have HC := Lib.hid hC
              clear hC
              have t26 : a.tmps[26]?.getD undef = .slice (some ⟨b, o, none⟩) hl hc := Reg.slot_val (hd 10 (by kernel_rfl) 26 rfl)
              have t27 : a.tmps[27]?.getD undef = .int .i64 k := Reg.slot_val (hd 11 (by kernel_rfl) 27 rfl)
              go_simp
              exact hK _ _ (fun _ => rfl) (fun h => by cases h) (fun _ => HC.out) trivial
            · rintro a w1 hC hx hd K hK
              have HC := Lib.hid hC
              clear hC
              have t28 : a.tmps[28]?.getD undef = .pointer (some ⟨b, o + k * 8, none⟩) := Reg.slot_val (hd 12 (by kernel_rfl) 28 rfl)
              go_simp
              exact hK _ _ (fun _ => rfl) (fun h => by cases h) (fun _ => HC.out) trivial
            · rintro a w1 hC hx hd K hK
              have HC := Lib.hid hC
              clear hC
              have z0 := cell_below HC.out.bel CP.out
              have t29 : a.tmps[29]?.getD undef = .pointer (some ⟨b, o + k * 8, none⟩) := Reg.slot_val (hd 13 (by kernel_rfl) 29 rfl)
              go_simp
              exact hK _ _ (fun _ => rfl) (fun h => by cases h) (fun _ => HC.out) trivial
            · rintro a w1 hC hx hd K hK
              have HC := Lib.hid hC
              clear hC
              have t25 : a.tmps[25]?.getD undef = .slice (some ⟨g, 0, none⟩) fl cap := Reg.slot_val (hd 9 (by kernel_rfl) 25 rfl)
              have t30 : a.tmps[30]?.getD undef = .int .i64 h.p := Reg.slot_val (hd 14 (by kernel_rfl) 30 rfl)
              go_simp
              exact hK _ _ (fun _ => rfl) (fun h => by cases h) (fun _ => HC.out) trivial
            · rintro a w1 hC hx hd K hK
              have HC := Lib.hid hC
              clear hC
              obtain ⟨pp, qq, rr, ⟨y0, y1, y2⟩, hf⟩ := HC.out.own.at (k := h.p.toNat) LT.out
              rw [HNP.out] at hf
              have t31 : a.tmps[31]?.getD undef = .pointer (some ⟨g, h.p.toNat * 3, none⟩) := Reg.slot_val (hd 15 (by kernel_rfl) 31 rfl)
              go_simp
              exact hK _ _ (fun _ => ⟨pp, qq, rr, rfl, hf⟩) (fun h => by cases h) (fun _ => HC.out) trivial
            · rintro a w1 hC hx hd K hK
              have HC := Lib.hid hC
              clear hC
              have t24 : a.tmps[24]?.getD undef = .pointer (some ⟨b, o + k * 8, none⟩) := Reg.slot_val (hd 8 (by kernel_rfl) 24 rfl)
              obtain ⟨p32, q32, r32, g32, f32⟩ := hd 16 (by kernel_rfl) 32 rfl
              have t32 := Reg.slot_val g32
              clear g32
              go_simp
              refine (l04Force b (o + k * 8) h HCk _ _ _ _ _ (QH.out.below HC.out.bel) HI.out f32).mono ?_
              rintro en w2 ⟨p', q', r', rfl, hF, hB2⟩
              exact hK _ _ (fun _ => ⟨p', q', r', rfl, hF⟩) (fun h => by cases h) (fun _ => HC.out.call hB2) trivial
            · rintro a w1 hC hx hd K hK
              have HC := Lib.hid hC
              clear hC
              have t16 : a.tmps[16]?.getD undef = .slice (some ⟨g, 0, none⟩) fl cap := Reg.slot_val (hd 0 (by kernel_rfl) 16 rfl)
              have t21 : a.tmps[21]?.getD undef = .int .i64 h.p := Reg.slot_val (hd 5 (by kernel_rfl) 21 rfl)
              go_simp
              exact hK _ _ (fun _ => rfl) (fun h => by cases h) (fun _ => HC.out) trivial
            · rintro a w1 hC hx hd K hK
              have HC := Lib.hid hC
              clear hC
              have t34 : a.tmps[34]?.getD undef = .pointer (some ⟨g, h.p.toNat * 3, none⟩) := Reg.slot_val (hd 18 (by kernel_rfl) 34 rfl)
              obtain ⟨p33, q33, r33, g33, f33⟩ := hd 17 (by kernel_rfl) 33 rfl
              have t33 := Reg.slot_val g33
              clear g33
              obtain ⟨u0, u1, u2, ⟨x0, x1, x2⟩, _⟩ := HC.out.own.at (k := h.p.toNat) LT.out
              have k0 := HC.out.own.2.1 (h.p.toNat * 3)
              have k1 := HC.out.own.2.1 (h.p.toNat * 3 + 1)
              have k2 := HC.out.own.2.1 (h.p.toNat * 3 + 2)
              go_simp
              exact hK undef _ (fun h => absurd rfl h) (fun _ => HC.out.put LT.out f33) (fun h => absurd rfl h) trivial
          rintro f w4 hd hT
          have hS := hT 19 (by kernel_rfl) (by decide)
          simp only [Reg.mixL]
          have ST2 := Lib.hid hS
          clear hd hT hS
          go_wp2
          go_roundw
          case rel => exact ⟨k + 1, by omega, by go_num, by rw [HSN.out]; exact ST2.out⟩
          case measure => simp [intOf]; omega
        · obtain rfl : k = hl := by omega
          have hall : hs.take k = hs := by rw [← hhl]; exact List.take_length
          rw [hall] at ST
          have hL := leaveF_len hs fs
          rw [hfl] at hL
          have HRV := Lib.hid (RV.block hgb (by rw [hL]; exact hc1) hc2 ST.out.own)
          rw [hL] at HRV
          clear hL hall
          go_wp2
          go_ret
          exact ⟨_, rfl, HRV.out, ST.out.bel⟩
end Go.Proofs.Ytajglpkeojaelaa

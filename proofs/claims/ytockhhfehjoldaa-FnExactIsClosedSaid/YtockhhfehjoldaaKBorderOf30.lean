/-
Texts in one: what BorderOf stands on, part 30. Conditions: those of each.
-/
import Derived.Test.YtockhhfehjoldaaKBorderOf29

/-
The triangles that have a place: what the program asks of each. Conditions: none.
-/
namespace Go.Proofs.Ytockhhfehjoldaa
open Go Fk Go.RowKit
set_option linter.unusedVariables false
set_option maxRecDepth 8000

end Go.Proofs.Ytockhhfehjoldaa


/-
The triangles that have a place: what the program gathers. Conditions: each triangle has three places.
-/
namespace Go.Proofs.Ytockhhfehjoldaa
open Go Fk Go.RowKit
set_option linter.unusedVariables false
set_option maxRecDepth 8000

theorem owns_below {w w' : World} {base : Nat} {e : TypeId} {size : Nat} {v : Value} {n : Nat} {xs : List Value} (h : w.ownsRow base e size v n xs) (hB : Below w.heap.size w w') : w'.ownsRow base e size v n xs :=
  h.kept (row := none) ⟨hB.os, hB.tape, hB.output, hB.size, fun k hk _ => hB.block k hk⟩ (by cases v.ownBlock <;> simp)
theorem owns_mono {w : World} {base base' : Nat} {e : TypeId} {size : Nat} {v : Value} {n : Nat} {xs : List Value} (h : w.ownsRow base e size v n xs) (hb : base' ≤ base) : w.ownsRow base' e size v n xs := by
  obtain ⟨h1, h2⟩ := h
  refine ⟨h1, h2.imp id ?_⟩
  rintro ⟨g, cap, cur, h3, h4, h5⟩
  exact ⟨g, cap, cur, h3, Nat.le_trans hb h4, h5⟩
theorem atL_same {ts : List (List Int)} {p : Int} {k : Nat} (h : hasB (ts.getD k []) p = true) : atL ts p p (k + 1) = atL ts p p k ++ [(k : Int)] := atL_yes h h
theorem atL_none {ts : List (List Int)} {p : Int} {k : Nat} (h : hasB (ts.getD k []) p = false) : atL ts p p (k + 1) = atL ts p p k := atL_no (by rw [h]; rfl)
end Go.Proofs.Ytockhhfehjoldaa


/-
The triangles of a place: what the program and its model return. Conditions: none beyond that the mesh lies in memory.
-/
namespace Go.Proofs.Ytockhhfehjoldaa
open Go Fk Go.RowKit
set_option linter.unusedVariables false
set_option maxRecDepth 8000

theorem tri_parts' {n : Nat} {t : List Int} (h : triB n t = true) : t.length = 3 ∧ (∀ i, i < 3 → 0 ≤ t.getD i 0 ∧ (t.getD i 0).toNat < n) := by
  unfold triB at h
  simp only [Bool.and_eq_true, decide_eq_true_eq] at h
  obtain ⟨⟨h3, ⟨h0, h1⟩, h2⟩, _⟩ := h
  refine ⟨h3, fun i hi => ?_⟩
  have a0 := of_decide_eq_true h0
  have a1 := of_decide_eq_true h1
  have a2 := of_decide_eq_true h2
  have : i = 0 ∨ i = 1 ∨ i = 2 := by omega
  rcases this with rfl | rfl | rfl <;> omega
theorem valid_row' {cs : List C3} {ts : List (List Int)} {k : Nat} (h : validB cs ts = true) (hk : k < ts.length) : triB cs.length (ts.getD k []) = true := by
  unfold validB at h
  simp only [Bool.and_eq_true] at h
  have := List.all_eq_true.1 h.2 (ts[k]) (List.getElem_mem hk)
  simpa [List.getD, hk] using this
/-- A corner of a triangle of a valid mesh lies in memory. -/

theorem valid_len' {cs : List C3} {ts : List (List Int)} (h : validB cs ts = true) : ts.length ≤ 128 := by
  unfold validB at h; simp at h; exact h.1.2
theorem rows3 {cs : List C3} {ts : List (List Int)} (h : validB cs ts = true) : ∀ k, k < ts.length → (ts.getD k []).length = 3 := fun k hk => (tri_parts' (valid_row' h hk)).1
/-- What is answered: the triangles of a place, if the mesh is valid and has it. -/
def ofB (cs : List C3) (ts : List (List Int)) (i : Int) : Bool := validB cs ts && inB cs.length i
def ofL (cs : List C3) (ts : List (List Int)) (i : Int) : List Int := bif ofB cs ts i then atL ts i i ts.length else []
theorem l02Place (pb pl pc : Nat) (pa : Option Addr) (i : Int) (w : World) (c0 : w.cell? ⟨pb, 0, none⟩ = some (.slice pa pl pc)) (hm : pl ≤ 9223372036854775807) :
    Calls Try.prog 50 #[.pointer (some ⟨pb, 0, none⟩), .int .i64 i] w fun e w' => e = .returned (.bool (inB pl i)) ∧ w' = w := by
  have ui := Try.underlying31
  have htw : IntKind.i64.wrap ((pl : Int) - 1) = (pl : Int) - 1 := IntWalk.i64_in _ (by omega)
  go_enter Try.func50, Try.ntmps50
  go_wp2_with (go_at_call 81; refine (l00In _ _ _).mono ?_; rintro e w2 ⟨rfl, hw2⟩; rw [hw2])
  go_ret
  exact ⟨rfl, by first | rfl | trivial⟩
end Go.Proofs.Ytockhhfehjoldaa


/-
Lists of integers that a function made: they may be marked. Conditions: none.
-/
namespace Go.Proofs.Ytockhhfehjoldaa
open Go Fk Go.RowKit
set_option linter.unusedVariables false
set_option maxRecDepth 8000

theorem owns_list {w : World} {base : Nat} {v : Value} {L : List Int} (h : w.ownsRow base 2 1 v L.length (L.map (Value.int .i64))) (hL : ∀ z ∈ L, (Lit.int .i64 z).wf = true) :
    ∃ a cap, v = .slice a L.length cap ∧ IsIs w a L.length cap L ∧ Lst base w.heap.size w a L.length := by
  have h' := h
  obtain ⟨h1, h2⟩ := h
  rcases h2 with ⟨rfl, hn⟩ | ⟨g, cap, cur, rfl, hb, hh, hc1, hc2, hs, ht⟩
  · refine ⟨none, 0, by rw [hn], ⟨rfl, by omega, by unfold maxLen; omega, hL, fun _ => ⟨hn, rfl⟩, fun x hx => by cases hx⟩, .inl ⟨rfl, hn⟩⟩
  · have hg := h'.lt g rfl
    have hcell : ∀ j, j < L.length → w.cell? ⟨g, j, none⟩ = some (.int .i64 (L.getD j 0)) := by
      intro j hj
      rw [h'.cellAt j (by omega)]
      simp [List.getD, hj]
    refine ⟨_, cap, rfl, ⟨rfl, hc1, hc2, hL, by simp, fun x hx i hi => ?_⟩, .inr ⟨g, rfl, hb, hg.2, hg.2, fun j hj => ⟨⟨_, by rw [Nat.zero_add]; exact hcell j hj⟩, by rw [Nat.zero_add]; exact h'.frozenAt j⟩⟩⟩
    cases hx
    rw [addr_add', Nat.zero_add]; exact hcell i hi
theorem atL_wf (ts : List (List Int)) (p q : Int) (k : Nat) (hk : k ≤ 128) : ∀ z ∈ atL ts p q k, (Lit.int .i64 z).wf = true := by
  induction k with
  | zero => simp [atL]
  | succ k ih =>
    intro z hz
    unfold atL at hz
    rcases List.mem_append.1 hz with h | h
    · exact ih (by omega) z h
    · cases hb : (hasB (ts.getD k []) p && hasB (ts.getD k []) q) <;> rw [hb] at h <;> simp at h
      subst h
      show (decide (IntKind.i64.min ≤ (k : Int)) && decide ((k : Int) ≤ IntKind.i64.max)) = true
      rw [show IntKind.i64.min = -9223372036854775808 by decide, show IntKind.i64.max = 9223372036854775807 by decide]
      simp; omega
/-- The marks that were written are there. -/
def Mrk (w : World) (a : Option Addr) (n : Nat) : Prop := (a = none → n = 0) ∧ ∀ b o s, a = some ⟨b, o, s⟩ → s = none ∧ ∀ j, j < n → w.cell? ⟨b, o + j, none⟩ = some (.int .i64 ((1 + j : Nat) : Int))
theorem mark_any (lo hi : Nat) (a : Option Addr) (n cap : Nat) (w : World) (h : Lst lo hi w a n) (hn : n ≤ 1000000) :
    Calls Try.prog 22 #[.slice a n cap, .int .i64 1] w fun e w' => e = .returned (.int .i64 ((1 + n : Nat) : Int)) ∧ Mrk w' a n ∧ Mark lo hi w w' := by
  rcases h with ⟨rfl, rfl⟩ | ⟨b, rfl, hown⟩
  · go_enter Try.func22, Try.ntmps22
    go_wp2
    refine wp_loop_rounds 1 ?_
    rw [rounds_succ]
    go_wp2
    go_ret
    exact ⟨rfl, ⟨fun _ => rfl, fun _ _ _ h => by cases h⟩, Mark.refl _ _ _⟩
  · refine (laws_markInt64S lo hi b 0 n cap 1 w hown (by omega)).mono ?_
    rintro e w' ⟨he, hd, _, hM⟩
    exact ⟨he, ⟨fun h => by (cases h), fun b' o s h => by cases h; exact ⟨rfl, hd⟩⟩, hM⟩
theorem held_any (a : Option Addr) (n cap : Nat) (w : World) (h : Mrk w a n) (hn : n ≤ 1000000) :
    Calls Try.prog 23 #[.slice a n cap, .int .i64 1] w fun e w' => e = .returned (.int .i64 ((1 + n : Nat) : Int)) ∧ w' = w := by
  cases a with
  | none =>
    obtain rfl := h.1 rfl
    go_enter Try.func23, Try.ntmps23
    go_wp2
    refine wp_loop_rounds 1 ?_
    rw [rounds_succ]
    go_wp2
    go_ret
    exact ⟨rfl, by first | rfl | trivial⟩
  | some x =>
    obtain ⟨b, o, s⟩ := x
    obtain ⟨rfl, hd⟩ := h.2 b o s rfl
    exact laws_heldInt64S b o n cap 1 w hd (by omega)
theorem Mrk.below {w w' : World} {a : Option Addr} {n : Nat} (h : Mrk w a n) (hB : Below w.heap.size w w') : Mrk w' a n :=
  ⟨h.1, fun b o s e => ⟨(h.2 b o s e).1, fun j hj => cell_below hB ((h.2 b o s e).2 j hj)⟩⟩
/-- A list outside the blocks that are marked is as it was. -/
theorem is_mark {lo hi lo' hi' : Nat} {w0 w w' : World} {a : Option Addr} {n cap : Nat} {L : List Int} (h : IsIs w a n cap L) (hl : Lst lo' hi' w0 a n) (hM : Mark lo hi w w') (ho : hi' ≤ lo ∨ hi ≤ lo') : IsIs w' a n cap L := by
  obtain ⟨h1, h2, h3, h4, h5, h6⟩ := h
  refine ⟨h1, h2, h3, h4, h5, fun x hx i hi => ?_⟩
  rcases hl with ⟨e, _⟩ | ⟨b, e, hown⟩
  · rw [e] at hx; cases hx
  · rw [e] at hx; cases hx
    have := h6 _ e i hi
    rw [addr_add'] at this ⊢
    have u1 := hown.1
    have u2 := hown.2.1
    exact hM.cell (by omega) this
end Go.Proofs.Ytockhhfehjoldaa

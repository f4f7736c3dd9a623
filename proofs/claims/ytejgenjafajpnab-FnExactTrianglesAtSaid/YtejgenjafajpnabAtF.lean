
/-
Lists of integers that a function made: they may be marked. Conditions: none.
-/
import Derived.Test.YtejgenjafajpnabAtE
namespace Go.Proofs.Ytejgenjafajpnab
open Go Fk Go.RowKit
set_option linter.unusedVariables false
set_option maxRecDepth 8000

/-- A list of n integers that may be written: none, or at the head of a block from lo to hi. -/
def Lst (lo hi : Nat) (w : World) (a : Option Addr) (n : Nat) : Prop := (a = none ∧ n = 0) ∨ ∃ b, a = some ⟨b, 0, none⟩ ∧ Own lo hi w b 0 n
theorem owns_list {w : World} {base : Nat} {v : Value} {L : List Int} (h : w.ownsRow base 2 1 v L.length (L.map (Value.int .i64))) (hL : ∀ z ∈ L, (Lit.int .i64 z).wf = true) :
    ∃ a cap, v = .slice a L.length cap ∧ IsIs w a L.length cap L ∧ Lst base w.heap.size w a L.length := by
  have h' := h
  obtain ⟨h1, h2⟩ := h
  rcases h2 with ⟨rfl, hn⟩ | ⟨g, cap, cur, rfl, hb, hh, hc1, hc2, hs, ht⟩
  · refine ⟨none, 0, by rw [hn], ⟨rfl, by omega, by unfold maxLen; omega, hL, fun _ => ⟨hn, rfl⟩, fun x hx => by cases hx⟩, .inl ⟨rfl, hn⟩⟩
  · have hg := h'.lt g rfl
    have hcell : ∀ j, j < L.length → w.cell? ⟨g, j, none⟩ = some (.int .i64 (L.getD j 0)) := by
      intro j hj
      rw [h'.cellAt j (by omega)]
      simp [List.getD, hj]
    refine ⟨_, cap, rfl, ⟨rfl, hc1, hc2, hL, by simp, fun x hx i hi => ?_⟩, .inr ⟨g, rfl, hb, hg.2, hg.2, fun j hj => ⟨⟨_, by rw [Nat.zero_add]; exact hcell j hj⟩, by rw [Nat.zero_add]; exact h'.frozenAt j⟩⟩⟩
    cases hx
    rw [addr_add', Nat.zero_add]; exact hcell i hi
theorem atL_wf (ts : List (List Int)) (p q : Int) (k : Nat) (hk : k ≤ 128) : ∀ z ∈ atL ts p q k, (Lit.int .i64 z).wf = true := by
  induction k with
  | zero => simp [atL]
  | succ k ih =>
    intro z hz
    unfold atL at hz
    rcases List.mem_append.1 hz with h | h
    · exact ih (by omega) z h
    · cases hb : (hasB (ts.getD k []) p && hasB (ts.getD k []) q) <;> rw [hb] at h <;> simp at h
      subst h
      show (decide (IntKind.i64.min ≤ (k : Int)) && decide ((k : Int) ≤ IntKind.i64.max)) = true
      rw [show IntKind.i64.min = -9223372036854775808 by decide, show IntKind.i64.max = 9223372036854775807 by decide]
      simp; omega
/-- The marks that were written are there. -/
def Mrk (w : World) (a : Option Addr) (n : Nat) : Prop := (a = none → n = 0) ∧ ∀ b o s, a = some ⟨b, o, s⟩ → s = none ∧ ∀ j, j < n → w.cell? ⟨b, o + j, none⟩ = some (.int .i64 ((1 + j : Nat) : Int))
theorem mark_any (lo hi : Nat) (a : Option Addr) (n cap : Nat) (w : World) (h : Lst lo hi w a n) (hn : n ≤ 1000000) :
    Calls Try.prog 36 #[.slice a n cap, .int .i64 1] w fun e w' => e = .returned (.int .i64 ((1 + n : Nat) : Int)) ∧ Mrk w' a n ∧ Mark lo hi w w' := by
  rcases h with ⟨rfl, rfl⟩ | ⟨b, rfl, hown⟩
  · go_enter Try.func36, Try.ntmps36
    go_wp2
    refine wp_loop_rounds 1 ?_
    rw [rounds_succ]
    go_wp2
    go_ret
    exact ⟨rfl, ⟨fun _ => rfl, fun _ _ _ h => by cases h⟩, Mark.refl _ _ _⟩
  · refine (laws_markInt64S lo hi b 0 n cap 1 w hown (by omega)).mono ?_
    rintro e w' ⟨he, hd, _, hM⟩
    exact ⟨he, ⟨fun h => by (cases h), fun b' o s h => by cases h; exact ⟨rfl, hd⟩⟩, hM⟩
theorem held_any (a : Option Addr) (n cap : Nat) (w : World) (h : Mrk w a n) (hn : n ≤ 1000000) :
    Calls Try.prog 37 #[.slice a n cap, .int .i64 1] w fun e w' => e = .returned (.int .i64 ((1 + n : Nat) : Int)) ∧ w' = w := by
  cases a with
  | none =>
    obtain rfl := h.1 rfl
    go_enter Try.func37, Try.ntmps37
    go_wp2
    refine wp_loop_rounds 1 ?_
    rw [rounds_succ]
    go_wp2
    go_ret
    exact ⟨rfl, by first | rfl | trivial⟩
  | some x =>
    obtain ⟨b, o, s⟩ := x
    obtain ⟨rfl, hd⟩ := h.2 b o s rfl
    exact laws_heldInt64S b o n cap 1 w hd (by omega)
theorem Mrk.below {w w' : World} {a : Option Addr} {n : Nat} (h : Mrk w a n) (hB : Below w.heap.size w w') : Mrk w' a n :=
  ⟨h.1, fun b o s e => ⟨(h.2 b o s e).1, fun j hj => cell_below hB ((h.2 b o s e).2 j hj)⟩⟩
theorem Own.below {lo hi : Nat} {w w' : World} {b o n : Nat} (h : Own lo hi w b o n) (hB : Below w.heap.size w w') : Own lo hi w' b o n :=
  ⟨h.1, h.2.1, Nat.lt_of_lt_of_le h.2.2.1 hB.size, fun j hj => by
    obtain ⟨⟨v, hv⟩, hf⟩ := h.2.2.2 j hj
    exact ⟨⟨v, cell_below hB hv⟩, by rw [hB.frozen (p := ⟨b, o + j, none⟩) h.2.2.1]; exact hf⟩⟩
theorem Lst.below {lo hi : Nat} {w w' : World} {a : Option Addr} {n : Nat} (h : Lst lo hi w a n) (hB : Below w.heap.size w w') : Lst lo hi w' a n :=
  h.imp id fun ⟨b, e, ho⟩ => ⟨b, e, ho.below hB⟩
theorem Lst.mark {lo hi lo' hi' : Nat} {w w' : World} {a : Option Addr} {n : Nat} (h : Lst lo hi w a n) (hM : Mark lo' hi' w w') : Lst lo hi w' a n :=
  h.imp id fun ⟨b, e, ho⟩ => ⟨b, e, ho.mark hM⟩
theorem OwnM.below {lo hi b o b' o' pl tl : Nat} {ts : List (List Int)} {w w' : World} (h : OwnM lo hi w b o b' o' pl tl ts) (hB : Below w.heap.size w w') : OwnM lo hi w' b o b' o' pl tl ts := by
  obtain ⟨h1, h2, h3, h4⟩ := h
  refine ⟨h1.below hB, fun j hj => ?_, h3, Nat.lt_of_lt_of_le h4 hB.size⟩
  obtain ⟨G, O, c, e1, e2, e3⟩ := h2 j hj
  exact ⟨G, O, c, e1, cell_below hB e2, e3.below hB⟩
/-- A list outside the blocks that are marked is as it was. -/
theorem is_mark {lo hi lo' hi' : Nat} {w0 w w' : World} {a : Option Addr} {n cap : Nat} {L : List Int} (h : IsIs w a n cap L) (hl : Lst lo' hi' w0 a n) (hM : Mark lo hi w w') (ho : hi' ≤ lo ∨ hi ≤ lo') : IsIs w' a n cap L := by
  obtain ⟨h1, h2, h3, h4, h5, h6⟩ := h
  refine ⟨h1, h2, h3, h4, h5, fun x hx i hi => ?_⟩
  rcases hl with ⟨e, _⟩ | ⟨b, e, hown⟩
  · rw [e] at hx; cases hx
  · rw [e] at hx; cases hx
    have := h6 _ e i hi
    rw [addr_add'] at this ⊢
    have u1 := hown.1
    have u2 := hown.2.1
    exact hM.cell (by omega) this
end Go.Proofs.Ytejgenjafajpnab

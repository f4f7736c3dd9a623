/-
Texts in one: what RestOf stands on, part 21. Conditions: those of each.
-/
import Derived.Test.YtcgnmnbjgamedabGreatKRestOf20
import Derived.Handy
import Derived.Lib.SliceRun

/-
What a hold leaves of a force: the program and the model. Conditions: none beyond that the words fit.
-/
namespace Go.Proofs.YtcgnmnbjgamedabGreat
open Go Fk Go.RowKit
set_option linter.unusedVariables false
set_option maxRecDepth 8000

end Go.Proofs.YtcgnmnbjgamedabGreat

/-
What a hold leaves of a force: the model. Conditions: none beyond that the words fit.
-/
namespace Go.Proofs.YtcgnmnbjgamedabGreat
open Go Fk Go.RowKit
set_option linter.unusedVariables false
set_option maxRecDepth 8000

end Go.Proofs.YtcgnmnbjgamedabGreat

/-
Rows of integers and lists that the model clones: both together. Conditions: none.
-/
namespace Go.Proofs.YtcgnmnbjgamedabGreat
open Go Fk Go.RowKit
end Go.Proofs.YtcgnmnbjgamedabGreat

/-
What holds leave of forces: the model. Conditions: the lists lie in memory, every place of a hold is one of the forces'.
-/
namespace Go.Proofs.YtcgnmnbjgamedabGreat
open Go Fk Go.RowKit
set_option linter.unusedVariables false
set_option maxRecDepth 16000

/-- A list of vectors that a call returns: none, or one that may be written. -/
def RV (base : Nat) (w : World) (v : Value) (X : List C3) : Prop := ∃ a cap, v = .slice a X.length cap ∧ IsVs w a X.length cap X ∧ Lst base w.heap.size w a (X.length * 3)
theorem RV.nil (base : Nat) (w : World) : RV base w (.slice none 0 0) [] :=
  ⟨none, 0, rfl, ⟨rfl, Nat.le_refl _, by unfold maxLen; omega, fun _ => ⟨rfl, rfl⟩, fun x hx => by cases hx⟩, .inl ⟨rfl, rfl⟩⟩
theorem RV.block {base g cap : Nat} {w : World} {X : List C3} (hg : base ≤ g) (h1 : X.length ≤ cap) (h2 : cap ≤ maxLen) (h : OwnVs w g X) : RV base w (.slice (some ⟨g, 0, none⟩) X.length cap) X := by
  refine ⟨_, cap, rfl, ⟨rfl, h1, h2, by simp, fun x hx i hi => ?_⟩, .inr ⟨g, rfl, hg, h.2.2, h.2.2, fun j hj => ⟨?_, by rw [Nat.zero_add]; exact h.2.1 j⟩⟩⟩
  · cases hx
    obtain ⟨p, q, r, ⟨k0, k1, k2⟩, f⟩ := h.1.2 i hi
    exact ⟨p, q, r, by rw [addr_add', Nat.zero_add]; exact k0, by rw [addr_add', Nat.zero_add]; exact k1, by rw [addr_add', Nat.zero_add]; exact k2, f⟩
  · obtain ⟨p, q, r, ⟨k0, k1, k2⟩, f⟩ := h.1.2 (j / 3) (by omega)
    rw [Nat.zero_add]
    have : j = j / 3 * 3 ∨ j = j / 3 * 3 + 1 ∨ j = j / 3 * 3 + 2 := by omega
    rcases this with e | e | e
    · exact ⟨_, by rw [e]; exact k0⟩
    · exact ⟨_, by rw [e]; exact k1⟩
    · exact ⟨_, by rw [e]; exact k2⟩
end Go.Proofs.YtcgnmnbjgamedabGreat

/-
What holds leave of forces: the program and its model. Conditions: none beyond that all lie in memory.
-/
namespace Go.Proofs.YtcgnmnbjgamedabGreat
open Go Fk Go.RowKit
set_option linter.unusedVariables false
set_option maxRecDepth 16000

theorem RV.low {base base' : Nat} {w : World} {v : Value} {X : List C3} (h : RV base w v X) (hb : base' ≤ base) : RV base' w v X := by
  obtain ⟨a, cap, e, h1, h2⟩ := h
  exact ⟨a, cap, e, h1, h2.imp id fun ⟨b, e, k1, k2, k3, k4⟩ => ⟨b, e, Nat.le_trans hb k1, k2, k3, k4⟩⟩
end Go.Proofs.YtcgnmnbjgamedabGreat

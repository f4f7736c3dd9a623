
/-
What a hold leaves of a force: the program and the model. Conditions: none beyond that the words fit.
-/
import Derived.Test.YtajglpkeojaelaaHoE
import Derived.Handy
namespace Go.Proofs.Ytajglpkeojaelaa
open Go Fk Go.RowKit
set_option linter.unusedVariables false
set_option maxRecDepth 8000

/-- The hold as a value of the interface. -/
def ifV (h : HW) : Value := if h.k = 1 then .iface 178 h.v else if h.k = 2 then .iface 180 h.v else .iface 181 h.v
theorem impl_restraint (h : HW) (w : World) :
    Calls Try.prog 92 #[h.v] w fun e w' => e = .returned (ifV h) ∧ Below w.heap.size w w' := by
  have ui := Try.underlying2
  have uh := Try.underlying119
  have u1 := Try.underlying178
  have u2 := Try.underlying180
  have u3 := Try.underlying181
  unfold ifV
  by_cases h1 : h.k = 1
  · have e1 : (h.k == 1) = true := by rw [h1]; rfl
    rw [if_pos h1]
    clear h1
    unfold HW.v
    go_enter Try.func92, Try.ntmps92
    go_wp2
    go_ret
    exact ⟨rfl, (Below.refl _ _).alloc (Nat.le_refl _) _⟩
  · have e1 : (h.k == 1) = false := beq_eq_false_iff_ne.2 h1
    rw [if_neg h1]
    by_cases h2 : h.k = 2
    · have e2 : (h.k == 2) = true := by rw [h2]; rfl
      rw [if_pos h2]
      clear h1 h2
      unfold HW.v
      go_enter Try.func92, Try.ntmps92
      go_wp2
      go_ret
      exact ⟨rfl, (Below.refl _ _).alloc (Nat.le_refl _) _⟩
    · have e2 : (h.k == 2) = false := beq_eq_false_iff_ne.2 h2
      rw [if_neg h2]
      clear h1 h2
      unfold HW.v
      go_enter Try.func92, Try.ntmps92
      go_wp2
      go_ret
      exact ⟨rfl, (Below.refl _ _).alloc (Nat.le_refl _) _⟩
theorem impl_fixed (h : HW) (p q r : Nat) (w : World) :
    Calls Try.prog 201 #[h.v, vv p q r] w fun e w' => ∃ x y z, e = .returned (vv x y z) ∧ F3 x y z (some 0, some 0, some 0) ∧ Below w.heap.size w w' := by
  have u := Try.underlying27
  have uv := Try.underlying40
  have u3 := Try.underlying181
  unfold HW.v
  go_enter Try.func201, Try.ntmps201
  go_wp2
  refine bodyPost_ret (v := vv 0 0 0) (by simp [results, Try.results201, go_sem]) rfl ⟨0, 0, 0, rfl, ⟨Fk.FV.zero, Fk.FV.zero, Fk.FV.zero⟩, ?_⟩
  go_grown
def forceC (c : HC) (F : C3) : C3 := bif holdB c then leaveC c F else (some 0, some 0, some 0)
end Go.Proofs.Ytajglpkeojaelaa

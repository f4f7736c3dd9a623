/-
The law FnExactNormVectors holds at every input: its frame. Conditions: none.
-/
import Derived.Test.YtkdoibglgkcbkaaKNormVectors4
-- halved
namespace Go.Proofs.Ytkdoibglgkcbkaa.fnExactNormVectorsDone
open Go.ChangeShapes Go.WideShapes Go.ChangeAt Go.RowKit
open Go.ChangeMaps (open_string shut_string)
set_option linter.unusedVariables false
set_option maxRecDepth 100000
theorem entersMay : Try.pinned.checked.prog.mayEnter = true := by kernel_rfl
theorem liftsAre : (Rows.fnExactNormVectorsRow.lifted == Try.pinned.checked.prog.liftsFinal) = true := by kernel_rfl
theorem makeIs : (Try.pinned.checked.prog.make == some Rows.fnExactNormVectorsRow.make) = true := by kernel_rfl
theorem proved : Rows.FnExactNormVectorsSaid :=
 OpenClaim.holds_of_wide 4 Try.f4 rfl rfl rfl rfl rfl rfl rfl ⟨rfl, rfl, rfl, rfl, rfl⟩ rfl rfl rfl rfl rfl (by kernel_rfl) Try.func4 (by unfold joinedFacts; rw [entersMay, liftsAre, makeIs]; kernel_rfl)
  (of_decide_eq_true (by kernel_rfl)) (by unfold Func.isWrapper; first | (rw [if_pos (by decide +kernel)]; kernel_rfl) | (rw [if_neg (by decide +kernel)]; exact ⟨rfl, rfl⟩))
  (fun os started H enc _ => lifted os started H enc)
end Go.Proofs.Ytkdoibglgkcbkaa.fnExactNormVectorsDone

/-
The law FnExactSwingOf holds at every input: its frame. Conditions: none.
-/
import Derived.Test.YtkdoibglgkcbkaaKSwingOf17
namespace Go.Proofs.Ytkdoibglgkcbkaa.fnExactSwingOfDone
open Go.ChangeShapes Go.WideShapes Go.ChangeAt Go.RowKit
open Go.ChangeMaps (open_string shut_string)
set_option linter.unusedVariables false

set_option maxRecDepth 100000
theorem entersMay : Try.pinned.checked.prog.mayEnter = true := by kernel_rfl
theorem liftsAre : (Rows.fnExactSwingOfRow.lifted == Try.pinned.checked.prog.liftsFinal) = true := by kernel_rfl
theorem makeIs : (Try.pinned.checked.prog.make == some Rows.fnExactSwingOfRow.make) = true := by kernel_rfl
theorem proved : Rows.FnExactSwingOfSaid :=
  OpenClaim.holds_of_wide 3 Try.f3 rfl rfl rfl rfl rfl rfl rfl ⟨rfl, rfl, rfl, rfl, rfl⟩ rfl rfl rfl rfl rfl (by kernel_rfl) Try.func3 (by unfold joinedFacts; rw [entersMay, liftsAre, makeIs]; kernel_rfl)
    (of_decide_eq_true (by kernel_rfl)) (by unfold Func.isWrapper; first | (rw [if_pos (by decide +kernel)]; kernel_rfl) | (rw [if_neg (by decide +kernel)]; exact ⟨rfl, rfl⟩))
    (fun os started H enc _ => lifted os started H enc)
end Go.Proofs.Ytkdoibglgkcbkaa.fnExactSwingOfDone

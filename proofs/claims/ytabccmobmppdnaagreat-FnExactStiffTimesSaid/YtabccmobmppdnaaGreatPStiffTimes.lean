/-
The law FnExactStiffTimes holds at every input: its frame. Conditions: none.
-/
import Derived.Test.YtabccmobmppdnaaGreatKStiffTimes0
-- halved
namespace Go.Proofs.YtabccmobmppdnaaGreat.fnExactStiffTimesDone
open Go.ChangeShapes Go.WideShapes Go.ChangeAt Go.RowKit
open Go.ChangeMaps (open_string shut_string)
set_option linter.unusedVariables false
set_option maxRecDepth 100000
theorem entersMay : Tryz.pinned.checked.prog.mayEnter = true := by kernel_rfl
theorem liftsAre : (Rows.fnExactStiffTimesRow.lifted == Tryz.pinned.checked.prog.liftsFinal) = true := by kernel_rfl
theorem makeIs : (Tryz.pinned.checked.prog.make == some Rows.fnExactStiffTimesRow.make) = true := by kernel_rfl
theorem proved : Rows.FnExactStiffTimesSaid :=
 OpenClaim.holds_of_wide 3 Tryz.f3 rfl rfl rfl rfl rfl rfl rfl ⟨rfl, rfl, rfl, rfl, rfl⟩ rfl rfl rfl rfl rfl (by kernel_rfl) Tryz.func3 (by unfold joinedFacts; rw [entersMay, liftsAre, makeIs]; kernel_rfl)
  (of_decide_eq_true (by kernel_rfl)) (by unfold Func.isWrapper; first | (rw [if_pos (by decide +kernel)]; kernel_rfl) | (rw [if_neg (by decide +kernel)]; exact ⟨rfl, rfl⟩))
  (fun os started H enc _ => lifted os started H enc)
end Go.Proofs.YtabccmobmppdnaaGreat.fnExactStiffTimesDone

/-
The law FnExactGreatMode holds at every input: its frame. Conditions: none.
-/
import Derived.Test.YtabccmobmppdnaaGreatKGreatMode13
namespace Go.Proofs.YtabccmobmppdnaaGreat.fnExactGreatModeDone
open Go.ChangeShapes Go.WideShapes Go.ChangeAt Go.RowKit
open Go.ChangeMaps (open_string shut_string)
set_option linter.unusedVariables false
set_option maxRecDepth 100000
theorem entersMay : Tryz.pinned.checked.prog.mayEnter = true := by kernel_rfl
theorem liftsAre : (Rows.fnExactGreatModeRow.lifted == Tryz.pinned.checked.prog.liftsFinal) = true := by kernel_rfl
theorem makeIs : (Tryz.pinned.checked.prog.make == some Rows.fnExactGreatModeRow.make) = true := by kernel_rfl
theorem proved : Rows.FnExactGreatModeSaid :=
 OpenClaim.holds_of_wide 5 Tryz.f5 rfl rfl rfl rfl rfl rfl rfl ⟨rfl, rfl, rfl, rfl, rfl⟩ rfl rfl rfl rfl rfl (by kernel_rfl) Tryz.func5 (by unfold joinedFacts; rw [entersMay, liftsAre, makeIs]; kernel_rfl)
  (of_decide_eq_true (by kernel_rfl)) (by unfold Func.isWrapper; first | (rw [if_pos (by decide +kernel)]; kernel_rfl) | (rw [if_neg (by decide +kernel)]; exact ⟨rfl, rfl⟩))
  (fun os started H enc _ => _root_.Go.Proofs.YtabccmobmppdnaaGreat.Go.Proofs.YtabccmobmppdnaaGreat.fnExactGreatModeDone.lifted os started H enc)
end Go.Proofs.YtabccmobmppdnaaGreat.fnExactGreatModeDone



/-
More laws of single numbers return true: their walks. Conditions: none beyond that the words fit.
-/
import Derived.Test.YtkomipghfihocabScalB
import Derived.Test.YtkomipghfihocabLawA
namespace Go.Proofs.Ytkomipghfihocab
open Go Fk Go.RowKit
set_option linter.unusedVariables false
theorem FnExactNextDown_law (x : Nat) (w : World) (hx : x < 2 ^ FloatKind.f32.format.width) :
    Calls Try.prog 3 #[.float .f32 x] w fun e w' => e = .returned (.bool true) ∧ Below w.heap.size w w' := by
  have u := Try.underlying25
  have u' := Try.underlying22
  have hx := lt32 hx
  have hv : FV .f32 (Op.negFloat .f32 (nxt (Op.negFloat .f32 x))) (cls .f32 (Op.negFloat .f32 (nxt (Op.negFloat .f32 x)))) := FV.self (neg_lt (nxt_lt (neg_lt hx)))
  go_enter Try.func3, Try.ntmps3
  go_wp2_with (first
    | (go_at_call 15; refine (spec_NextDown _ _ (by assumption)).mono ?_; rintro e w' ⟨rfl, rfl⟩)
    | (go_at_call 16; refine (impl_NextDown _ _ (by assumption)).mono ?_; rintro e w' ⟨rfl, n, rfl⟩)
    | (go_at_call 17; refine (laws_sameFloat _ _ _ _ (FV_wR hv) (FV_wR hv)).mono ?_; rintro e w' ⟨rfl, n, rfl⟩))
  go_ret
  exact ⟨rfl, below_n _ _⟩
end Go.Proofs.Ytkomipghfihocab

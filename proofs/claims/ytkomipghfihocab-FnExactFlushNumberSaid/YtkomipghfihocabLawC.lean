
/-
The laws of subnormal numbers return true: their walks. Conditions: none beyond that the words fit.
-/
import Derived.Test.YtkomipghfihocabScalC
import Derived.Test.YtkomipghfihocabLawA
namespace Go.Proofs.Ytkomipghfihocab
open Go Fk Go.RowKit
set_option linter.unusedVariables false
theorem FnExactIsSubnormal_law (x : Nat) (w : World) (hx : x < 2 ^ FloatKind.f32.format.width) :
    Calls Try.prog 9 #[.float .f32 x] w fun e w' => e = .returned (.bool true) ∧ Below w.heap.size w w' := by
  have hx := lt32 hx
  go_enter Try.func9, Try.ntmps9
  go_wp2_with (first
    | (go_at_call 30; refine (spec_IsSubnormal _ _ (by assumption)).mono ?_; rintro e w' ⟨rfl, rfl⟩)
    | (go_at_call 31; refine (impl_IsSubnormal _ _ (by assumption)).mono ?_; rintro e w' ⟨rfl, n, rfl⟩))
  go_ret
  exact ⟨rfl, below_n _ _⟩
theorem FnExactFlushNumber_law (x : Nat) (w : World) (hx : x < 2 ^ FloatKind.f32.format.width) :
    Calls Try.prog 8 #[.float .f32 x] w fun e w' => e = .returned (.bool true) ∧ Below w.heap.size w w' := by
  have u := Try.underlying25
  have u' := Try.underlying22
  have hx := lt32 hx
  have hv : FV .f32 (flu x) (cls .f32 (flu x)) := FV.self (flu_lt hx)
  go_enter Try.func8, Try.ntmps8
  go_wp2_with (first
    | (go_at_call 28; refine (spec_FlushNumber _ _ (by assumption)).mono ?_; rintro e w' ⟨rfl, rfl⟩)
    | (go_at_call 29; refine (impl_FlushNumber _ _ (by assumption)).mono ?_; rintro e w' ⟨rfl, n, rfl⟩)
    | (go_at_call 17; refine (laws_sameFloat _ _ _ _ (FV_wR hv) (FV_wR hv)).mono ?_; rintro e w' ⟨rfl, n, rfl⟩))
  go_ret
  exact ⟨rfl, below_n _ _⟩
end Go.Proofs.Ytkomipghfihocab


/-
More laws of single numbers return true: their walks. Conditions: none beyond that the words fit.
-/
import Derived.Test.YtkomipghfihocaaScalB
import Derived.Test.YtkomipghfihocaaLawA
namespace Go.Proofs.Ytkomipghfihocaa
open Go Fk Go.RowKit
set_option linter.unusedVariables false
theorem FnExactFromBits_law (a : Int) (w : World) (hw : (Lit.int .i64 a).wf = true) :
    Calls Try.prog 10 #[.int .i64 a] w fun e w' => e = .returned (.bool true) ∧ Below w.heap.size w w' := by
  have u := Try.underlying33
  have u' := Try.underlying24
  by_cases h : a < 0 ∨ 4294967295 < a
  · have hv : FV .f32 0 (some 0) := ⟨by decide, by decide⟩
    go_enter Try.func10, Try.ntmps10
    go_wp2_with (first
      | (go_at_call 39; refine (spec_FromBits_out _ _ h).mono ?_; rintro e w' ⟨rfl, rfl⟩)
      | (go_at_call 16; refine (impl_FromBits_out _ _ h).mono ?_; rintro e w' ⟨rfl, rfl⟩)
      | (go_at_call 40; refine (laws_sameFloat _ _ _ _ (FV_wR hv) (FV_wR hv)).mono ?_; rintro e w' ⟨rfl, n, rfl⟩))
    go_ret
    exact ⟨rfl, below_n _ _⟩
  · obtain ⟨n, rfl⟩ := Int.eq_ofNat_of_zero_le (show 0 ≤ a by omega)
    have hn : n ≤ 4294967295 := by omega
    have hv : FV .f32 n (cls .f32 n) := FV.self (show n < 4294967296 by omega)
    clear h
    go_enter Try.func10, Try.ntmps10
    go_wp2_with (first
      | (go_at_call 39; refine (spec_FromBits_in _ _ hn).mono ?_; rintro e w' ⟨rfl, rfl⟩)
      | (go_at_call 16; refine (impl_FromBits_in _ _ hn).mono ?_; rintro e w' ⟨rfl, rfl⟩)
      | (go_at_call 40; refine (laws_sameFloat _ _ _ _ (FV_wR hv) (FV_wR hv)).mono ?_; rintro e w' ⟨rfl, n, rfl⟩))
    go_ret
    exact ⟨rfl, below_n _ _⟩
theorem FnExactNextUp_law (x : Nat) (w : World) (hx : x < 2 ^ FloatKind.f32.format.width) :
    Calls Try.prog 12 #[.float .f32 x] w fun e w' => e = .returned (.bool true) ∧ Below w.heap.size w w' := by
  have u := Try.underlying33
  have u' := Try.underlying24
  have hx := lt32 hx
  have hv : FV .f32 (nxt x) (cls .f32 (nxt x)) := FV.self (nxt_lt hx)
  go_enter Try.func12, Try.ntmps12
  go_wp2_with (first
    | (go_at_call 23; refine (spec_NextUp _ _ (by assumption)).mono ?_; rintro e w' ⟨rfl, rfl⟩)
    | (go_at_call 19; refine (impl_NextUp _ _ (by assumption)).mono ?_; rintro e w' ⟨rfl, n, rfl⟩)
    | (go_at_call 40; refine (laws_sameFloat _ _ _ _ (FV_wR hv) (FV_wR hv)).mono ?_; rintro e w' ⟨rfl, n, rfl⟩))
  go_ret
  exact ⟨rfl, below_n _ _⟩
end Go.Proofs.Ytkomipghfihocaa

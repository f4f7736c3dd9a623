
/-
The square root of 32-bit numbers: what the program and its model return. Conditions: none beyond that the words fit.
-/
import Derived.Test.YtkomipghfihocabScal
import Derived.Test.YtkomipghfihocabMag
import Derived.Below
namespace Go.Proofs.Ytkomipghfihocab
open Go Fk Go.RowKit
set_option linter.unusedVariables false

def rootC (c : Option Nat) : Option Nat := (fsq (c.map wid)).map nar
@[go_sem] theorem ext_sqrt (x : Nat) (w : World) : (callFunc 86 #[.float .f64 x]).run Try.prog w = .ok (.value (.float .f64 (sR x w))) (w.drewN (sN x)) := by
  rw [run_callFunc_extern (e := Extern.MathSqrt.sqrt) Try.func86 (by kernel_rfl) (by kernel_rfl) (by kernel_rfl) (by kernel_rfl), run_sqrt]; rfl
theorem math_Sqrt (x : Nat) (w : World) :
    Calls Try.prog 66 #[.float .f64 x] w fun e w' => e = .returned (.float .f64 (sR x w)) ∧ ∃ n, w' = w.drewN n := by
  go_enter Try.func66, Try.ntmps66
  go_wp2
  go_ret
  exact ⟨rfl, _, rfl⟩
theorem impl_Narrow (y : Nat) (w : World) :
    Calls Try.prog 51 #[.float .f64 y] w fun e w' => e = .returned (.float .f32 (nR y w)) ∧ ∃ n, w' = w.drewN n := by
  have u := Try.underlying25
  have u' := Try.underlying22
  go_enter Try.func51, Try.ntmps51
  go_wp2
  go_ret
  exact ⟨rfl, _, rfl⟩
theorem spec_Narrow (y : Nat) (w : World) :
    Calls Try.prog 78 #[.float .f64 y] w fun e w' => e = .returned (.float .f32 (nR y w)) ∧ ∃ n, w' = w.drewN n := by
  have u := Try.underlying25
  have u' := Try.underlying22
  go_enter Try.func78, Try.ntmps78
  go_wp2
  go_ret
  exact ⟨rfl, _, rfl⟩
theorem FV_root {x : Nat} {c : Option Nat} {w w' w'' : World} (h : FV .f32 x c) : FV .f32 (nR (sR (wR x w) w') w'') (rootC c) :=
  FV_nR (FV_sR (FV_wR h)) (ovf_sR h.1)
theorem impl_RootNumber (x : Nat) (c : Option Nat) (w : World) (h : FV .f32 x c) :
    Calls Try.prog 37 #[.float .f32 x] w fun e w' => ∃ r, e = .returned (.float .f32 r) ∧ FV .f32 r (rootC c) ∧ ∃ n, w' = w.drewN n := by
  have u := Try.underlying25
  have u' := Try.underlying22
  go_enter Try.func37, Try.ntmps37
  go_wp2_with (first
    | (go_at_call 66; refine (math_Sqrt _ _).mono ?_; rintro e w' ⟨rfl, n, rfl⟩)
    | (go_at_call 51; refine (impl_Narrow _ _).mono ?_; rintro e w' ⟨rfl, n, rfl⟩))
  go_ret
  exact ⟨_, rfl, FV_root h, _, rfl⟩
theorem l01Sqrt (x : Nat) (c : Option Nat) (w : World) (h : FV .f32 x c) :
    Calls Try.prog 65 #[.float .f32 x] w fun e w' => ∃ r, e = .returned (.float .f32 r) ∧ FV .f32 r (rootC c) ∧ ∃ n, w' = w.drewN n := by
  have u := Try.underlying25
  have u' := Try.underlying22
  go_enter Try.func65, Try.ntmps65
  go_wp2_with (first
    | (go_at_call 66; refine (math_Sqrt _ _).mono ?_; rintro e w' ⟨rfl, n, rfl⟩)
    | (go_at_call 78; refine (spec_Narrow _ _).mono ?_; rintro e w' ⟨rfl, n, rfl⟩))
  go_ret
  exact ⟨_, rfl, FV_root h, _, rfl⟩
theorem spec_RootNumber (x : Nat) (c : Option Nat) (w : World) (h : FV .f32 x c) :
    Calls Try.prog 36 #[.float .f32 x] w fun e w' => ∃ r, e = .returned (.float .f32 r) ∧ FV .f32 r (rootC c) ∧ ∃ n, w' = w.drewN n := by
  go_enter Try.func36, Try.ntmps36
  go_wp2_with (go_at_call 65; refine (l01Sqrt _ _ _ h).mono ?_; rintro e w' ⟨r, rfl, hr, n, rfl⟩)
  go_ret
  exact ⟨_, rfl, hr, _, rfl⟩
theorem FnExactRootNumber_law (x : Nat) (w : World) (hx : x < 2 ^ FloatKind.f32.format.width) :
    Calls Try.prog 12 #[.float .f32 x] w fun e w' => e = .returned (.bool true) ∧ Below w.heap.size w w' := by
  have u := Try.underlying25
  have u' := Try.underlying22
  have hv := FV.self (k := .f32) hx
  go_enter Try.func12, Try.ntmps12
  go_wp2_with (first
    | (go_at_call 36; refine (spec_RootNumber _ _ _ hv).mono ?_; rintro e w' ⟨r, rfl, hr, n, rfl⟩)
    | (go_at_call 37; refine (impl_RootNumber _ _ _ hv).mono ?_; rintro e w' ⟨r', rfl, hr', n, rfl⟩)
    | (go_at_call 17; refine (laws_sameFloat _ _ _ _ (FV_wR hr') (FV_wR hr)).mono ?_; rintro e w' ⟨rfl, n, rfl⟩))
  go_ret
  exact ⟨rfl, below_drewN (Below.refl _ _) _⟩
end Go.Proofs.Ytkomipghfihocab

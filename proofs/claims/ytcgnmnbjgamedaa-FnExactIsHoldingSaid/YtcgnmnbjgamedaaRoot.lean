
/-
The square root of 32-bit numbers: what the program and its model return. Conditions: none beyond that the words fit.
-/
import Derived.Test.YtcgnmnbjgamedaaScal
import Derived.Test.YtcgnmnbjgamedaaMag
import Derived.Below
namespace Go.Proofs.Ytcgnmnbjgamedaa
open Go Fk Go.RowKit
set_option linter.unusedVariables false

def rootC (c : Option Nat) : Option Nat := (fsq (c.map wid)).map nar
@[go_sem] theorem ext_sqrt (x : Nat) (w : World) : (callFunc 146 #[.float .f64 x]).run Try.prog w = .ok (.value (.float .f64 (sR x w))) (w.drewN (sN x)) := by
  rw [run_callFunc_extern (e := Extern.MathSqrt.sqrt) Try.func146 (by kernel_rfl) (by kernel_rfl) (by kernel_rfl) (by kernel_rfl), run_sqrt]; rfl
theorem math_Sqrt (x : Nat) (w : World) :
    Calls Try.prog 137 #[.float .f64 x] w fun e w' => e = .returned (.float .f64 (sR x w)) ∧ ∃ n, w' = w.drewN n := by
  go_enter Try.func137, Try.ntmps137
  go_wp2
  go_ret
  exact ⟨rfl, _, rfl⟩
theorem impl_Narrow (y : Nat) (w : World) :
    Calls Try.prog 120 #[.float .f64 y] w fun e w' => e = .returned (.float .f32 (nR y w)) ∧ ∃ n, w' = w.drewN n := by
  have u := Try.underlying26
  have u' := Try.underlying22
  go_enter Try.func120, Try.ntmps120
  go_wp2
  go_ret
  exact ⟨rfl, _, rfl⟩
theorem spec_Narrow (y : Nat) (w : World) :
    Calls Try.prog 115 #[.float .f64 y] w fun e w' => e = .returned (.float .f32 (nR y w)) ∧ ∃ n, w' = w.drewN n := by
  have u := Try.underlying26
  have u' := Try.underlying22
  go_enter Try.func115, Try.ntmps115
  go_wp2
  go_ret
  exact ⟨rfl, _, rfl⟩
theorem FV_root {x : Nat} {c : Option Nat} {w w' w'' : World} (h : FV .f32 x c) : FV .f32 (nR (sR (wR x w) w') w'') (rootC c) :=
  FV_nR (FV_sR (FV_wR h)) (ovf_sR h.1)
theorem impl_RootNumber (x : Nat) (c : Option Nat) (w : World) (h : FV .f32 x c) :
    Calls Try.prog 102 #[.float .f32 x] w fun e w' => ∃ r, e = .returned (.float .f32 r) ∧ FV .f32 r (rootC c) ∧ ∃ n, w' = w.drewN n := by
  have u := Try.underlying26
  have u' := Try.underlying22
  go_enter Try.func102, Try.ntmps102
  go_wp2_with (first
    | (go_at_call 137; refine (math_Sqrt _ _).mono ?_; rintro e w' ⟨rfl, n, rfl⟩)
    | (go_at_call 120; refine (impl_Narrow _ _).mono ?_; rintro e w' ⟨rfl, n, rfl⟩))
  go_ret
  exact ⟨_, rfl, FV_root h, _, rfl⟩
theorem l01Sqrt (x : Nat) (c : Option Nat) (w : World) (h : FV .f32 x c) :
    Calls Try.prog 100 #[.float .f32 x] w fun e w' => ∃ r, e = .returned (.float .f32 r) ∧ FV .f32 r (rootC c) ∧ ∃ n, w' = w.drewN n := by
  have u := Try.underlying26
  have u' := Try.underlying22
  go_enter Try.func100, Try.ntmps100
  go_wp2_with (first
    | (go_at_call 137; refine (math_Sqrt _ _).mono ?_; rintro e w' ⟨rfl, n, rfl⟩)
    | (go_at_call 115; refine (spec_Narrow _ _).mono ?_; rintro e w' ⟨rfl, n, rfl⟩))
  go_ret
  exact ⟨_, rfl, FV_root h, _, rfl⟩
end Go.Proofs.Ytcgnmnbjgamedaa

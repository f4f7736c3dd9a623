
/-
Finite numbers and measures, by the program and by its model. Conditions: none beyond that the words fit.
-/
import Derived.Test.YtcgnmnbjgamedaaScal
import Derived.Test.YtcgnmnbjgamedaaVec
namespace Go.Proofs.Ytcgnmnbjgamedaa
open Go Fk Go.RowKit
set_option linter.unusedVariables false
set_option maxRecDepth 8000
def sizeB (x : Nat) : Bool := finB x && (FloatKind.f32.format.order x 0 == some .gt)
def finC (c : Option Nat) : Bool := match c with | none => false | some x => finB x
def sizeC (c : Option Nat) : Bool := match c with | none => false | some x => sizeB x
theorem Fk.FV.fin {x : Nat} {c : Option Nat} (h : FV .f32 x c) : finB x = finC c := by
  cases c with
  | none =>
    have := h.nan
    have h2 : nan32 x = true := this
    rw [nan32_iff, decide_eq_true_eq] at h2
    show finB x = false
    unfold finB
    exact decide_eq_false (by omega)
  | some y => rw [h.num]; rfl
theorem Fk.FV.size {x : Nat} {c : Option Nat} (h : FV .f32 x c) : sizeB x = sizeC c := by
  cases c with
  | none =>
    show sizeB x = false
    unfold sizeB
    rw [Fk.FV.fin h]; rfl
  | some y => rw [h.num]; rfl
theorem impl_isMeasure (x : Nat) (w : World) (hx : x < 4294967296) :
    Calls Try.prog 49 #[.float .f32 x] w fun e w' => e = .returned (.bool (sizeB x)) ∧ ∃ n, w' = w.drewN n := by
  have u := Try.underlying22
  unfold sizeB
  have HJ := Lib.hid (fun w => impl_IsFinite x w hx)
  generalize finB x = f at *
  cases f
  · go_enter Try.func49, Try.ntmps49
    go_wp2_with (go_at_call 52; refine (HJ.out _).mono ?_; rintro e w1 ⟨rfl, n, hw⟩; rw [hw]; clear hw w1)
    go_ret
    exact ⟨rfl, _, rfl⟩
  · go_enter Try.func49, Try.ntmps49
    go_wp2_with (go_at_call 52; refine (HJ.out _).mono ?_; rintro e w1 ⟨rfl, n, hw⟩; rw [hw]; clear hw w1)
    go_ret
    exact ⟨rfl, _, rfl⟩
theorem l02Size (x : Nat) (w : World) (hx : x < 4294967296) :
    Calls Try.prog 47 #[.float .f32 x] w fun e w' => e = .returned (.bool (sizeB x)) ∧ ∃ n, w' = w.drewN n := by
  have u := Try.underlying22
  unfold sizeB
  have HJ := Lib.hid (fun w => l01Finite x w hx)
  generalize finB x = f at *
  cases f
  · go_enter Try.func47, Try.ntmps47
    go_wp2_with (go_at_call 51; refine (HJ.out _).mono ?_; rintro e w1 ⟨rfl, n, hw⟩; rw [hw]; clear hw w1)
    go_ret
    exact ⟨rfl, _, rfl⟩
  · go_enter Try.func47, Try.ntmps47
    go_wp2_with (go_at_call 51; refine (HJ.out _).mono ?_; rintro e w1 ⟨rfl, n, hw⟩; rw [hw]; clear hw w1)
    go_ret
    exact ⟨rfl, _, rfl⟩
/-- An amount and a volume. -/
def gasB (c d : Option Nat) : Bool := finC c && sizeC d
theorem Fk.FV.zero : FV .f32 0 (some 0) := ⟨by decide, by decide⟩
def pressC (c d : Option Nat) : Option Nat := bif gasB c d then fop .quo .f32 c d else some 0
end Go.Proofs.Ytcgnmnbjgamedaa

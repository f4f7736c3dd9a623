
/-
Finite numbers and measures, by the program and by its model. Conditions: none beyond that the words fit.
-/
import Derived.Test.YtljpjmkickkcpaaScal
import Derived.Test.YtljpjmkickkcpaaVec
namespace Go.Proofs.Ytljpjmkickkcpaa
open Go Fk Go.RowKit
set_option linter.unusedVariables false
set_option maxRecDepth 8000
def sizeB (x : Nat) : Bool := finB x && (FloatKind.f32.format.order x 0 == some .gt)
def finC (c : Option Nat) : Bool := match c with | none => false | some x => finB x
def sizeC (c : Option Nat) : Bool := match c with | none => false | some x => sizeB x
theorem Fk.FV.fin {x : Nat} {c : Option Nat} (h : FV .f32 x c) : finB x = finC c := by
  cases c with
  | none =>
    have := h.nan
    have h2 : nan32 x = true := this
    rw [nan32_iff, decide_eq_true_eq] at h2
    show finB x = false
    unfold finB
    exact decide_eq_false (by omega)
  | some y => rw [h.num]; rfl
theorem Fk.FV.size {x : Nat} {c : Option Nat} (h : FV .f32 x c) : sizeB x = sizeC c := by
  cases c with
  | none =>
    show sizeB x = false
    unfold sizeB
    rw [Fk.FV.fin h]; rfl
  | some y => rw [h.num]; rfl
theorem impl_isMeasure (x : Nat) (w : World) (hx : x < 4294967296) :
    Calls Try.prog 62 #[.float .f32 x] w fun e w' => e = .returned (.bool (sizeB x)) ∧ ∃ n, w' = w.drewN n := by
  have u := Try.underlying22
  unfold sizeB
  have HJ := Lib.hid (fun w => impl_IsFinite x w hx)
  generalize finB x = f at *
  cases f
  · go_enter Try.func62, Try.ntmps62
    go_wp2_with (go_at_call 104; refine (HJ.out _).mono ?_; rintro e w1 ⟨rfl, n, hw⟩; rw [hw]; clear hw w1)
    go_ret
    exact ⟨rfl, _, rfl⟩
  · go_enter Try.func62, Try.ntmps62
    go_wp2_with (go_at_call 104; refine (HJ.out _).mono ?_; rintro e w1 ⟨rfl, n, hw⟩; rw [hw]; clear hw w1)
    go_ret
    exact ⟨rfl, _, rfl⟩
/-- An amount and a volume. -/
def gasB (c d : Option Nat) : Bool := finC c && sizeC d
theorem impl_isGas (x y : Nat) (c d : Option Nat) (w : World) (hx : FV .f32 x c) (hy : FV .f32 y d) :
    Calls Try.prog 89 #[.float .f32 x, .float .f32 y] w fun e w' => e = .returned (.bool (gasB c d)) ∧ ∃ n, w' = w.drewN n := by
  have u := Try.underlying22
  unfold gasB
  rw [← hx.fin, ← hy.size]
  have HJ := Lib.hid (fun w => impl_IsFinite x w hx.1)
  have HK := Lib.hid (fun w => impl_isMeasure y w hy.1)
  generalize finB x = f at *
  generalize sizeB y = g at *
  cases f
  all_goals
    go_enter Try.func89, Try.ntmps89
    go_wp2_with (first
      | (go_at_call 104; refine (HJ.out _).mono ?_; rintro e w1 ⟨rfl, n, hw⟩; rw [hw]; clear hw w1)
      | (go_at_call 62; refine (HK.out _).mono ?_; rintro e w1 ⟨rfl, n, hw⟩; rw [hw]; clear hw w1))
    go_ret
    exact ⟨rfl, _, rfl⟩
theorem l04Amount (x y : Nat) (c d : Option Nat) (w : World) (hx : FV .f32 x c) (hy : FV .f32 y d) :
    Calls Try.prog 88 #[.float .f32 x, .float .f32 y] w fun e w' => e = .returned (.bool (gasB c d)) ∧ ∃ n, w' = w.drewN n := by
  have u := Try.underlying22
  unfold gasB
  rw [← hx.fin, ← hy.size]
  unfold sizeB
  have HJ := Lib.hid (fun w => l01Finite x w hx.1)
  have HK := Lib.hid (fun w => l01Finite y w hy.1)
  clear hx hy
  generalize finB x = f at *
  generalize finB y = g at *
  cases f <;> cases g
  all_goals
    go_enter Try.func88, Try.ntmps88
    go_wp2_with fail
    refine (HJ.out _).mono ?_
    rintro e w1 ⟨rfl, n, hw⟩
    rw [hw]; clear hw w1
    go_wp2_with (go_at_call 103; refine (HK.out _).mono ?_; rintro e w1 ⟨rfl, n, hw⟩; rw [hw]; clear hw w1)
    go_ret
    exact ⟨ret_bool (by simp), _, rfl⟩
theorem Fk.FV.zero : FV .f32 0 (some 0) := ⟨by decide, by decide⟩
def pressC (c d : Option Nat) : Option Nat := bif gasB c d then fop .quo .f32 c d else some 0
theorem impl_PressureOf (x y : Nat) (c d : Option Nat) (w : World) (hx : FV .f32 x c) (hy : FV .f32 y d) :
    Calls Try.prog 53 #[.float .f32 x, .float .f32 y] w fun e w' => ∃ r, e = .returned (.tuple #[.float .f32 r, .bool (gasB c d)]) ∧ FV .f32 r (pressC c d) ∧ ∃ n, w' = w.drewN n := by
  have u := Try.underlying22
  unfold pressC
  have HJ := Lib.hid (fun w => impl_isGas x y c d w hx hy)
  generalize gasB c d = f at *
  cases f
  all_goals
    go_enter Try.func53, Try.ntmps53
    go_wp2_with (go_at_call 89; refine (HJ.out _).mono ?_; rintro e w1 ⟨rfl, n, hw⟩; rw [hw]; clear hw w1)
    go_ret2
    exact ⟨_, rfl, by first | exact Fk.FV.zero | exact FV_fR hx hy, _, rfl⟩
theorem spec_PressureOf (x y : Nat) (c d : Option Nat) (w : World) (hx : FV .f32 x c) (hy : FV .f32 y d) :
    Calls Try.prog 52 #[.float .f32 x, .float .f32 y] w fun e w' => ∃ r, e = .returned (.tuple #[.float .f32 r, .bool (gasB c d)]) ∧ FV .f32 r (pressC c d) ∧ ∃ n, w' = w.drewN n := by
  have u := Try.underlying22
  unfold pressC
  have HJ := Lib.hid (fun w => l04Amount x y c d w hx hy)
  generalize gasB c d = f at *
  cases f
  all_goals
    go_enter Try.func52, Try.ntmps52
    go_wp2_with (go_at_call 88; refine (HJ.out _).mono ?_; rintro e w1 ⟨rfl, n, hw⟩; rw [hw]; clear hw w1)
    go_ret2
    exact ⟨_, rfl, by first | exact Fk.FV.zero | exact FV_fR hx hy, _, rfl⟩
theorem FnExactPressureOf_law (x y : Nat) (w : World) (hx : x < 2 ^ FloatKind.f32.format.width) (hy : y < 2 ^ FloatKind.f32.format.width) :
    Calls Try.prog 11 #[.float .f32 x, .float .f32 y] w fun e w' => e = .returned (.bool true) ∧ Below w.heap.size w w' := by
  have u := Try.underlying22
  have u' := Try.underlying69
  have fx := FV.self hx
  have fy := FV.self hy
  go_enter Try.func11, Try.ntmps11
  go_wp2_with (first
    | (go_at_call 52; refine (spec_PressureOf _ _ _ _ _ fx fy).mono ?_; rintro e w1 ⟨r, rfl, hr, n, hw⟩; rw [hw]; clear hw w1)
    | (go_at_call 53; refine (impl_PressureOf _ _ _ _ _ fx fy).mono ?_; rintro e w1 ⟨s, rfl, hs, n', hw⟩; rw [hw]; clear hw w1)
    | (go_at_call 46; refine (laws_sameFloat _ _ _ _ (FV_wR hs) (FV_wR hr)).mono ?_; rintro en w' ⟨rfl, n1, rfl⟩))
  go_ret
  exact ⟨rfl, below_drewN (Below.refl _ _) _⟩
end Go.Proofs.Ytljpjmkickkcpaa

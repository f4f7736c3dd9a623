
/-
Areas of discs, widest gaps and pressures in bubbles: what the program, its model and the laws return. Conditions: none beyond that the words fit.
-/
import Derived.Test.YtcgnmnbjgamedaaHoM
import Derived.Test.YtcgnmnbjgamedaaScalB
import Derived.Test.YtcgnmnbjgamedaaVecB
namespace Go.Proofs.Ytcgnmnbjgamedaa
open Go Fk Go.RowKit
set_option linter.unusedVariables false
set_option maxRecDepth 8000
def twoPi : Option Nat := cls .f32 1086918619
theorem fv_twoPi : FV .f32 1086918619 twoPi := ⟨by decide, rfl⟩
def wideK : Option Nat := cls .f32 1068083597
theorem fv_wideK : FV .f32 1068083597 wideK := ⟨by decide, rfl⟩
def fourK : Option Nat := cls .f32 1082130432
theorem fv_fourK : FV .f32 1082130432 fourK := ⟨by decide, rfl⟩
def discsC (c : Option Nat) : Option Nat := bif sizeC c then fop .mul .f32 (fop .mul .f32 twoPi c) c else some 0
def wideC (c : Option Nat) : Option Nat := bif sizeC c then fop .mul .f32 wideK c else some 0
def bubC (c d : Option Nat) : Option Nat := bif gasB c d then fop .quo .f32 (fop .mul .f32 fourK c) d else some 0
theorem l08Discs (x : Nat) (c : Option Nat) (w : World) (hx : FV .f32 x c) :
    Calls Try.prog 48 #[.float .f32 x] w fun e w' => ∃ r, e = .returned (.float .f32 r) ∧ FV .f32 r (fop .mul .f32 (fop .mul .f32 twoPi c) c) ∧ ∃ n, w' = w.drewN n := by
  have u := Try.underlying22
  go_enter Try.func48, Try.ntmps48
  go_wp2
  go_ret
  exact ⟨_, rfl, FV_fR (FV_fR fv_twoPi hx) hx, _, rfl⟩
theorem impl_DiscsArea (x : Nat) (c : Option Nat) (w : World) (hx : FV .f32 x c) :
    Calls Try.prog 16 #[.float .f32 x] w fun e w' => ∃ r, e = .returned (.tuple #[.float .f32 r, .bool (sizeC c)]) ∧ FV .f32 r (discsC c) ∧ ∃ n, w' = w.drewN n := by
  have u := Try.underlying22
  unfold discsC
  have HJ := Lib.hid (fun w => impl_isMeasure x w hx.1)
  rw [hx.size] at HJ
  generalize sizeC c = f at *
  cases f
  all_goals
    go_enter Try.func16, Try.ntmps16
    go_wp2_with (first
      | (go_at_call 49; refine (HJ.out _).mono ?_; rintro e w1 ⟨rfl, n, hw⟩; rw [hw]; clear hw w1)
      | (go_at_call 50; refine (impl_product32 _ _ _ _ _ fv_twoPi hx).mono ?_; rintro en w3 ⟨s, rfl, hs, n3, hw⟩; rw [hw]; clear hw w3)
      | (go_at_call 50; refine (impl_product32 _ _ _ _ _ hs hx).mono ?_; rintro en w4 ⟨s2, rfl, hs2, n4, hw⟩; rw [hw]; clear hw w4))
    go_ret2
    exact ⟨_, rfl, by first | exact Fk.FV.zero | exact hs2, _, rfl⟩
theorem spec_DiscsArea (x : Nat) (c : Option Nat) (w : World) (hx : FV .f32 x c) :
    Calls Try.prog 15 #[.float .f32 x] w fun e w' => ∃ r, e = .returned (.tuple #[.float .f32 r, .bool (sizeC c)]) ∧ FV .f32 r (discsC c) ∧ ∃ n, w' = w.drewN n := by
  have u := Try.underlying22
  unfold discsC
  have HJ := Lib.hid (fun w => l02Size x w hx.1)
  rw [hx.size] at HJ
  generalize sizeC c = f at *
  cases f
  all_goals
    go_enter Try.func15, Try.ntmps15
    go_wp2_with (first
      | (go_at_call 47; refine (HJ.out _).mono ?_; rintro e w1 ⟨rfl, n, hw⟩; rw [hw]; clear hw w1)
      | (go_at_call 48; refine (l08Discs _ _ _ hx).mono ?_; rintro en w3 ⟨s, rfl, hs, n3, hw⟩; rw [hw]; clear hw w3))
    go_ret2
    exact ⟨_, rfl, by first | exact Fk.FV.zero | exact hs, _, rfl⟩
theorem FnExactDiscsArea_law (x : Nat) (w : World) (hx : x < 2 ^ FloatKind.f32.format.width) :
    Calls Try.prog 3 #[.float .f32 x] w fun e w' => e = .returned (.bool true) ∧ Below w.heap.size w w' := by
  have u := Try.underlying22
  have u' := Try.underlying26
  have fx := FV.self hx
  go_enter Try.func3, Try.ntmps3
  go_wp2_with (first
    | (go_at_call 15; refine (spec_DiscsArea _ _ _ fx).mono ?_; rintro e w1 ⟨r, rfl, hr, n, hw⟩; rw [hw]; clear hw w1)
    | (go_at_call 16; refine (impl_DiscsArea _ _ _ fx).mono ?_; rintro e w1 ⟨s, rfl, hs, n', hw⟩; rw [hw]; clear hw w1)
    | (go_at_call 17; refine (laws_sameFloat _ _ _ _ (FV_wR hs) (FV_wR hr)).mono ?_; rintro en w' ⟨rfl, n1, rfl⟩))
  go_ret
  exact ⟨rfl, below_drewN (Below.refl _ _) _⟩
theorem impl_WidestGap (x : Nat) (c : Option Nat) (w : World) (hx : FV .f32 x c) :
    Calls Try.prog 19 #[.float .f32 x] w fun e w' => ∃ r, e = .returned (.tuple #[.float .f32 r, .bool (sizeC c)]) ∧ FV .f32 r (wideC c) ∧ ∃ n, w' = w.drewN n := by
  have u := Try.underlying22
  unfold wideC
  have HJ := Lib.hid (fun w => impl_isMeasure x w hx.1)
  rw [hx.size] at HJ
  generalize sizeC c = f at *
  cases f
  all_goals
    go_enter Try.func19, Try.ntmps19
    go_wp2_with (first
      | (go_at_call 49; refine (HJ.out _).mono ?_; rintro e w1 ⟨rfl, n, hw⟩; rw [hw]; clear hw w1)
      | (go_at_call 50; refine (impl_product32 _ _ _ _ _ fv_wideK hx).mono ?_; rintro en w3 ⟨s, rfl, hs, n3, hw⟩; rw [hw]; clear hw w3))
    go_ret2
    exact ⟨_, rfl, by first | exact Fk.FV.zero | exact hs, _, rfl⟩
theorem spec_WidestGap (x : Nat) (c : Option Nat) (w : World) (hx : FV .f32 x c) :
    Calls Try.prog 18 #[.float .f32 x] w fun e w' => ∃ r, e = .returned (.tuple #[.float .f32 r, .bool (sizeC c)]) ∧ FV .f32 r (wideC c) ∧ ∃ n, w' = w.drewN n := by
  have u := Try.underlying22
  unfold wideC
  have HJ := Lib.hid (fun w => l02Size x w hx.1)
  rw [hx.size] at HJ
  generalize sizeC c = f at *
  cases f
  all_goals
    go_enter Try.func18, Try.ntmps18
    go_wp2_with (first
      | (go_at_call 47; refine (HJ.out _).mono ?_; rintro e w1 ⟨rfl, n, hw⟩; rw [hw]; clear hw w1))
    go_ret2
    exact ⟨_, rfl, by first | exact Fk.FV.zero | exact FV_fR fv_wideK hx, _, rfl⟩
theorem FnExactWidestGap_law (x : Nat) (w : World) (hx : x < 2 ^ FloatKind.f32.format.width) :
    Calls Try.prog 4 #[.float .f32 x] w fun e w' => e = .returned (.bool true) ∧ Below w.heap.size w w' := by
  have u := Try.underlying22
  have u' := Try.underlying26
  have fx := FV.self hx
  go_enter Try.func4, Try.ntmps4
  go_wp2_with (first
    | (go_at_call 18; refine (spec_WidestGap _ _ _ fx).mono ?_; rintro e w1 ⟨r, rfl, hr, n, hw⟩; rw [hw]; clear hw w1)
    | (go_at_call 19; refine (impl_WidestGap _ _ _ fx).mono ?_; rintro e w1 ⟨s, rfl, hs, n', hw⟩; rw [hw]; clear hw w1)
    | (go_at_call 17; refine (laws_sameFloat _ _ _ _ (FV_wR hs) (FV_wR hr)).mono ?_; rintro en w' ⟨rfl, n1, rfl⟩))
  go_ret
  exact ⟨rfl, below_drewN (Below.refl _ _) _⟩
theorem impl_BubblePressure (x y : Nat) (c d : Option Nat) (w : World) (hx : FV .f32 x c) (hy : FV .f32 y d) :
    Calls Try.prog 21 #[.float .f32 x, .float .f32 y] w fun e w' => ∃ r, e = .returned (.tuple #[.float .f32 r, .bool (gasB c d)]) ∧ FV .f32 r (bubC c d) ∧ ∃ n, w' = w.drewN n := by
  have u := Try.underlying22
  unfold bubC gasB
  rw [← hx.fin, ← hy.size]
  have HJ := Lib.hid (fun w => impl_IsFinite x w hx.1)
  have HK := Lib.hid (fun w => impl_isMeasure y w hy.1)
  generalize finB x = f at *
  generalize sizeB y = g at *
  cases f <;> cases g
  all_goals
    go_enter Try.func21, Try.ntmps21
    go_wp2_with (first
      | (go_at_call 52; refine (HJ.out _).mono ?_; rintro e w1 ⟨rfl, n, hw⟩; rw [hw]; clear hw w1)
      | (go_at_call 49; refine (HK.out _).mono ?_; rintro e w1 ⟨rfl, n, hw⟩; rw [hw]; clear hw w1)
      | (go_at_call 50; refine (impl_product32 _ _ _ _ _ fv_fourK hx).mono ?_; rintro en w3 ⟨s, rfl, hs, n3, hw⟩; rw [hw]; clear hw w3))
    go_ret2
    exact ⟨_, rfl, by first | exact Fk.FV.zero | exact FV_fR hs hy, _, rfl⟩
theorem spec_BubblePressure (x y : Nat) (c d : Option Nat) (w : World) (hx : FV .f32 x c) (hy : FV .f32 y d) :
    Calls Try.prog 20 #[.float .f32 x, .float .f32 y] w fun e w' => ∃ r, e = .returned (.tuple #[.float .f32 r, .bool (gasB c d)]) ∧ FV .f32 r (bubC c d) ∧ ∃ n, w' = w.drewN n := by
  have u := Try.underlying22
  unfold bubC gasB
  rw [← hx.fin, ← hy.size]
  have HJ := Lib.hid (fun w => l01Finite x w hx.1)
  have HK := Lib.hid (fun w => l02Size y w hy.1)
  generalize finB x = f at *
  generalize sizeB y = g at *
  cases f <;> cases g
  all_goals
    go_enter Try.func20, Try.ntmps20
    go_wp2_with (first
      | (go_at_call 51; refine (HJ.out _).mono ?_; rintro e w1 ⟨rfl, n, hw⟩; rw [hw]; clear hw w1)
      | (go_at_call 47; refine (HK.out _).mono ?_; rintro e w1 ⟨rfl, n, hw⟩; rw [hw]; clear hw w1))
    go_ret2
    exact ⟨_, rfl, by first | exact Fk.FV.zero | exact FV_fR (FV_fR fv_fourK hx) hy, _, rfl⟩
theorem FnExactBubblePressure_law (x y : Nat) (w : World) (hx : x < 2 ^ FloatKind.f32.format.width) (hy : y < 2 ^ FloatKind.f32.format.width) :
    Calls Try.prog 5 #[.float .f32 x, .float .f32 y] w fun e w' => e = .returned (.bool true) ∧ Below w.heap.size w w' := by
  have u := Try.underlying22
  have u' := Try.underlying26
  have fx := FV.self hx
  have fy := FV.self hy
  go_enter Try.func5, Try.ntmps5
  go_wp2_with (first
    | (go_at_call 20; refine (spec_BubblePressure _ _ _ _ _ fx fy).mono ?_; rintro e w1 ⟨r, rfl, hr, n, hw⟩; rw [hw]; clear hw w1)
    | (go_at_call 21; refine (impl_BubblePressure _ _ _ _ _ fx fy).mono ?_; rintro e w1 ⟨s, rfl, hs, n', hw⟩; rw [hw]; clear hw w1)
    | (go_at_call 17; refine (laws_sameFloat _ _ _ _ (FV_wR hs) (FV_wR hr)).mono ?_; rintro en w' ⟨rfl, n1, rfl⟩))
  go_ret
  exact ⟨rfl, below_drewN (Below.refl _ _) _⟩
end Go.Proofs.Ytcgnmnbjgamedaa

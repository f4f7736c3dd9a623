
/-
The radius of a bubble: the model, and the law returns true. Conditions: none beyond that the word fits.
-/
import Derived.Test.YtcgnmnbjgamedaaBuA
namespace Go.Proofs.Ytcgnmnbjgamedaa
open Go Fk Go.RowKit
set_option linter.unusedVariables false
set_option maxRecDepth 8000

theorem spec_BubbleRadius (x : Nat) (c : Option Nat) (w : World) (hx : FV .f32 x c) :
    Calls Try.prog 39 #[.float .f32 x] w fun e w' => ∃ r, e = .returned (.tuple #[.float .f32 r, .bool (sizeC c)]) ∧ FV .f32 r (bubR c) ∧ ∃ n, w' = w.drewN n := by
  have u := Try.underlying22
  have HJ := Lib.hid (fun w => l02Size x w hx.1)
  rw [hx.size] at HJ
  cases hs : sizeC c
  · have hb : bubR c = some 0 := by unfold bubR; rw [hs]; rfl
    rw [hs] at HJ
    rw [hb]
    clear hs hb
    go_enter Try.func39, Try.ntmps39
    go_wp2_with (go_at_call 47; refine (HJ.out _).mono ?_; rintro e w1 ⟨rfl, n, hw⟩; rw [hw]; clear hw w1)
    go_ret2
    exact ⟨_, rfl, Fk.FV.zero, _, rfl⟩
  · obtain ⟨Q, y, h1, h2, h3, h4, h5⟩ := bub_parts hx hs
    rw [hs] at HJ
    rw [h5]
    have HV := Lib.hid h1
    have H3 := Lib.hid h3
    have H4 := Lib.hid h4
    have FQ : ∀ w w', fR .quo .f32 (fR .mul .f32 1077936128 x w) 1095307227 w' = Q := fun w w' => (h1 ▸ (FV_fR (op := .quo) (w := w') (FV_fR (op := .mul) (w := w) fv_three hx) fv_fourPi : FV .f32 _ (volQ c)) : FV .f32 _ (some Q)).num
    clear hs h1 h3 h4 h5 hx HV
    go_enter Try.func39, Try.ntmps39
    go_wp2_with (go_at_call 47; refine (HJ.out _).mono ?_; rintro e w1 ⟨rfl, n, hw⟩; rw [hw]; clear hw w1)
    refine (l01Log Q _ (by omega)).mono ?_
    rintro e w1 ⟨l, rfl, hl, n2, hw⟩
    rw [hw]
    clear hw w1
    have FY : ∀ w, fR .quo .f32 l 1077936128 w = y := fun w => (H3.out ▸ (FV_fR (op := .quo) (w := w) hl fv_three) : FV .f32 _ (some y)).num
    have hy : y < 4294967296 := (FY default) ▸ (FV_fR (op := .quo) (w := default) hl fv_three).1
    clear hl
    go_wp2_with fail
    refine (l01ExpT y _ hy H4.out).mono ?_
    rintro e w1 ⟨r, rfl, hr, n3, hw⟩
    rw [hw]
    clear hw w1
    have HR := Lib.hid hr
    clear hr
    go_wp2
    go_ret2
    exact ⟨_, rfl, HR.out, _, rfl⟩
theorem FnExactBubbleRadius_law (x : Nat) (w : World) (hx : x < 2 ^ FloatKind.f32.format.width) :
    Calls Try.prog 11 #[.float .f32 x] w fun e w' => e = .returned (.bool true) ∧ Below w.heap.size w w' := by
  have u := Try.underlying22
  have u' := Try.underlying26
  have fx := FV.self hx
  go_enter Try.func11, Try.ntmps11
  go_wp2_with (first
    | (go_at_call 39; refine (spec_BubbleRadius _ _ _ fx).mono ?_; rintro e w1 ⟨r, rfl, hr, n, hw⟩; rw [hw]; clear hw w1)
    | (go_at_call 40; refine (impl_BubbleRadius _ _ _ fx).mono ?_; rintro e w1 ⟨s, rfl, hs, n', hw⟩; rw [hw]; clear hw w1)
    | (go_at_call 17; refine (laws_sameFloat _ _ _ _ (FV_wR hs) (FV_wR hr)).mono ?_; rintro en w' ⟨rfl, n1, rfl⟩))
  go_ret
  exact ⟨rfl, below_drewN (Below.refl _ _) _⟩
end Go.Proofs.Ytcgnmnbjgamedaa

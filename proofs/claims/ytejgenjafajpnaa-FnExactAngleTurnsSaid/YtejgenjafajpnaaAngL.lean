
/-
Angles: all arguments, and that the law returns true. Conditions: none beyond that the words fit.
-/
import Derived.Test.YtejgenjafajpnaaAng
import Derived.Below
namespace Go.Proofs.Ytejgenjafajpnaa
open Go Fk Go.RowKit
set_option linter.unusedVariables false

def angT (y x : Nat) : Option Nat :=
  if finB x && finB y then (if eq0 x && eq0 y then some 0 else (angF (wid y % 9223372036854775808) (wid x % 9223372036854775808) (lt0 x) (lt0 y)).map nar) else none
theorem impl_AngleTurns_nan (y x : Nat) (w : World) (hy : y < 4294967296) (hx : x < 4294967296) (h : (finB x && finB y) = false) :
    Calls Try.prog 19 #[.float .f32 y, .float .f32 x] w fun e w' => ∃ r, e = .returned (.float .f32 r) ∧ FV .f32 r none ∧ ∃ n, w' = w.drewN n := by
  have h' : finB x = false ∨ (finB x = true ∧ finB y = false) := by cases hx : finB x <;> simp_all
  rcases h' with h1 | ⟨h1, h2⟩
  all_goals
    go_enter Try.func19, Try.ntmps19
    go_wp2_with (first
      | (go_at_call 51; refine (impl_IsFinite _ _ (by assumption)).mono ?_; rintro e w' ⟨rfl, n, rfl⟩)
      | (go_at_call 52; refine (impl_notANumber _).mono ?_; rintro e w' ⟨g, rfl, hg, n, rfl⟩))
    go_ret
    exact ⟨_, rfl, hg, _, rfl⟩
theorem impl_AngleTurns_zero (y x : Nat) (w : World) (hy : y < 4294967296) (hx : x < 4294967296) (h1 : finB x = true) (h2 : finB y = true) (h3 : (FloatKind.f32.format.order x 0 == some .eq) = true) (h4 : (FloatKind.f32.format.order y 0 == some .eq) = true) :
    Calls Try.prog 19 #[.float .f32 y, .float .f32 x] w fun e w' => ∃ r, e = .returned (.float .f32 r) ∧ FV .f32 r (some 0) ∧ ∃ n, w' = w.drewN n := by
  go_enter Try.func19, Try.ntmps19
  go_wp2_with (first
    | (go_at_call 51; refine (impl_IsFinite _ _ (by assumption)).mono ?_; rintro e w' ⟨rfl, n, rfl⟩))
  go_ret
  exact ⟨_, rfl, ⟨by decide, by decide⟩, _, rfl⟩
theorem impl_AngleTurns (y x : Nat) (w : World) (hy : y < 4294967296) (hx : x < 4294967296) :
    Calls Try.prog 19 #[.float .f32 y, .float .f32 x] w fun e w' => ∃ r, e = .returned (.float .f32 r) ∧ FV .f32 r (angT y x) ∧ ∃ n, w' = w.drewN n := by
  unfold angT
  cases hf : (finB x && finB y)
  · exact impl_AngleTurns_nan y x w hy hx hf
  · have hf' : finB x = true ∧ finB y = true := by simpa using hf
    cases h0 : (eq0 x && eq0 y)
    · exact impl_AngleTurns_main y x w hy hx hf'.2 hf'.1 h0
    · have h0' : eq0 x = true ∧ eq0 y = true := by simpa [-beq_iff_eq] using h0
      exact impl_AngleTurns_zero y x w hy hx hf'.1 hf'.2 h0'.1 h0'.2
theorem l01AngleWide_nan (y x : Nat) (w : World) (h : (∀ w, (FloatKind.f64.format.order (fR .sub .f64 y y w) 0 != some .eq) = true) ∨ ((∀ w, (FloatKind.f64.format.order (fR .sub .f64 y y w) 0 != some .eq) = false) ∧ ∀ w, (FloatKind.f64.format.order (fR .sub .f64 x x w) 0 != some .eq) = true)) :
    Calls Try.prog 116 #[.float .f64 y, .float .f64 x] w fun e w' => e = .returned (.float .f64 9221120237041090561) ∧ ∃ n, w' = w.drewN n := by
  have u := Try.underlying25
  rcases h with h1 | ⟨h1, h2⟩
  all_goals
    go_enter Try.func116, Try.ntmps116
    go_wp2_with (first
      | (go_at_call 113; refine (math_NaN _).mono ?_; rintro e w' ⟨rfl, rfl⟩))
    go_ret
    exact ⟨rfl, _, rfl⟩
theorem l01AngleWide_zero (y x : Nat) (w : World) (hy : y < 4294967296) (hx : x < 4294967296) (fx : finB x = true) (fy : finB y = true) (h3 : (FloatKind.f32.format.order x 0 == some .eq) = true) (h4 : (FloatKind.f32.format.order y 0 == some .eq) = true) :
    Calls Try.prog 116 #[.float .f64 (wid y), .float .f64 (wid x)] w fun e w' => e = .returned (.float .f64 0) ∧ ∃ n, w' = w.drewN n := by
  have u := Try.underlying25
  have sy := sub_wid hy fy
  have sx := sub_wid hx fx
  have z0 : (FloatKind.f64.format.order 0 0 != some .eq) = false := by decide
  rw [← ord0 hy fy] at h4
  rw [← ord0 hx fx] at h3
  generalize wid y = Y at *
  generalize wid x = X at *
  go_enter Try.func116, Try.ntmps116
  go_wp2
  go_ret
  exact ⟨rfl, _, rfl⟩
set_option maxRecDepth 4000 in
theorem l01Angle (y x : Nat) (w : World) (hy : y < 4294967296) (hx : x < 4294967296) :
    Calls Try.prog 58 #[.float .f32 y, .float .f32 x] w fun e w' => ∃ r, e = .returned (.float .f32 r) ∧ FV .f32 r (angT y x) ∧ ∃ n, w' = w.drewN n := by
  have u := Try.underlying25
  have u' := Try.underlying22
  unfold angT
  cases hf : (finB x && finB y)
  · have hY : ∀ w1, (finB y = false → ∀ w, (FloatKind.f64.format.order (fR .sub .f64 (wR y w1) (wR y w1) w) 0 != some .eq) = true) := fun w1 h w => sub_inf hy h
    have hX : ∀ w1, (finB x = false → ∀ w, (FloatKind.f64.format.order (fR .sub .f64 (wR x w1) (wR x w1) w) 0 != some .eq) = true) := fun w1 h w => sub_inf hx h
    have hYt : ∀ w1, (finB y = true → ∀ w, (FloatKind.f64.format.order (fR .sub .f64 (wR y w1) (wR y w1) w) 0 != some .eq) = false) := fun w1 h w => by
      rw [wR_num w1 (fin_num h), sub_wid hy h]; decide
    have hh : ∀ w1 w2, (∀ w, (FloatKind.f64.format.order (fR .sub .f64 (wR y w1) (wR y w1) w) 0 != some .eq) = true) ∨ ((∀ w, (FloatKind.f64.format.order (fR .sub .f64 (wR y w1) (wR y w1) w) 0 != some .eq) = false) ∧ ∀ w, (FloatKind.f64.format.order (fR .sub .f64 (wR x w2) (wR x w2) w) 0 != some .eq) = true) := by
      intro w1 w2
      cases h1 : finB y
      · exact .inl (hY w1 h1)
      · exact .inr ⟨hYt w1 h1, hX w2 (by simpa [h1] using hf)⟩
    have HH := Lib.hid hh
    clear hY hX hYt hh
    go_enter Try.func58, Try.ntmps58
    go_wp2_with fail
    refine (l01AngleWide_nan _ _ _ (HH.out _ _)).mono ?_
    rintro e w' ⟨rfl, n, rfl⟩
    go_wp2_with fail
    refine (spec_Narrow _ _).mono ?_
    rintro e w' ⟨rfl, n, rfl⟩
    go_wp2
    go_ret
    exact ⟨_, rfl, FV_nR fv_nan ovf_nan, _, rfl⟩
  · have hf' : finB x = true ∧ finB y = true := by simpa using hf
    have wy : ∀ w, wR y w = wid y := fun w => wR_num w (fin_num hf'.2)
    have wx : ∀ w, wR x w = wid x := fun w => wR_num w (fin_num hf'.1)
    cases h0 : (eq0 x && eq0 y)
    · go_enter Try.func58, Try.ntmps58
      go_wp2_with fail
      refine (l01AngleWide_main _ _ _ hy hx hf'.2 hf'.1 h0).mono ?_
      rintro e w' ⟨g, rfl, ⟨hg, ho⟩, n, rfl⟩
      go_wp2_with fail
      refine (spec_Narrow _ _).mono ?_
      rintro e w' ⟨rfl, n, rfl⟩
      go_wp2
      go_ret
      exact ⟨_, rfl, FV_nR hg ho, _, rfl⟩
    · have h0' : eq0 x = true ∧ eq0 y = true := by simpa [-beq_iff_eq] using h0
      go_enter Try.func58, Try.ntmps58
      go_wp2_with fail
      refine (l01AngleWide_zero _ _ _ hy hx hf'.1 hf'.2 h0'.1 h0'.2).mono ?_
      rintro e w' ⟨rfl, n, rfl⟩
      go_wp2_with fail
      refine (spec_Narrow _ _).mono ?_
      rintro e w' ⟨rfl, n, rfl⟩
      go_wp2
      go_ret
      exact ⟨_, rfl, FV_nR (c := some 0) fv_zero64 (by decide), _, rfl⟩
theorem spec_AngleTurns (y x : Nat) (w : World) (hy : y < 4294967296) (hx : x < 4294967296) :
    Calls Try.prog 18 #[.float .f32 y, .float .f32 x] w fun e w' => ∃ r, e = .returned (.float .f32 r) ∧ FV .f32 r (angT y x) ∧ ∃ n, w' = w.drewN n := by
  go_enter Try.func18, Try.ntmps18
  go_wp2_with (go_at_call 58; refine (l01Angle _ _ _ hy hx).mono ?_; rintro e w' ⟨r, rfl, hr, n, rfl⟩)
  go_ret
  exact ⟨_, rfl, hr, _, rfl⟩
theorem FnExactAngleTurns_law (y x : Nat) (w : World) (hy : y < 2 ^ FloatKind.f32.format.width) (hx : x < 2 ^ FloatKind.f32.format.width) :
    Calls Try.prog 4 #[.float .f32 y, .float .f32 x] w fun e w' => e = .returned (.bool true) ∧ Below w.heap.size w w' := by
  have u := Try.underlying25
  have u' := Try.underlying22
  have hy' : y < 4294967296 := hy
  have hx' : x < 4294967296 := hx
  go_enter Try.func4, Try.ntmps4
  go_wp2_with (first
    | (go_at_call 18; refine (spec_AngleTurns _ _ _ hy' hx').mono ?_; rintro e w' ⟨r, rfl, hr, n, rfl⟩)
    | (go_at_call 19; refine (impl_AngleTurns _ _ _ hy' hx').mono ?_; rintro e w' ⟨r', rfl, hr', n, rfl⟩)
    | (go_at_call 17; refine (laws_sameFloat _ _ _ _ (FV_wR hr') (FV_wR hr)).mono ?_; rintro e w' ⟨rfl, n, rfl⟩))
  go_ret
  exact ⟨rfl, below_drewN (Below.refl _ _) _⟩
end Go.Proofs.Ytejgenjafajpnaa

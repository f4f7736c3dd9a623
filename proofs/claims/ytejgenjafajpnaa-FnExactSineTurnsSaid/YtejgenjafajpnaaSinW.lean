
/-
Sines: all arguments, and that the law returns true. Conditions: none beyond that the words fit.
-/
import Derived.Test.YtejgenjafajpnaaSinL
namespace Go.Proofs.Ytejgenjafajpnaa
open Go Fk Go.RowKit
set_option linter.unusedVariables false
set_option maxRecDepth 8000

theorem l01SineWide_main (x : Nat) (w : World) (hx : x < 4294967296) (hf : finB x = true) (hb : bigB x = false) :
    Calls Try.prog 112 #[.float .f64 (wid x)] w fun e w' => ∃ r, e = .returned (.float .f64 r) ∧ (FV .f64 r (sinF x) ∧ ovf r = false) ∧ ∃ n, w' = w.drewN n := by
  obtain ⟨n, hn, hl, hle⟩ := left_of hx hf hb
  obtain ⟨b1, b2⟩ := (big_signed hx hf).1 hb
  have hLE := LEC_sinQ (LEC_qua hle)
  have fx : FV .f64 (wid x) (some (wid x)) := ⟨wid_lt x, cls_num (wid_nan (fin_num hf))⟩
  have hv : ∀ w, FV .f64 (fR .sub .f64 (wid x) (floatOfInt .f64 n) w) (leftC x) := fun w => by rw [hl]; exact FV_fR fx (fv_int n)
  have sx := sub_wid hx hf
  unfold sinF
  unfold shr at hLE ⊢
  cases h1 : negB (leftC x) <;> simp only [h1, if_true, if_false, Bool.false_eq_true] at hLE ⊢
  · unfold low at hLE ⊢
    cases h2 : lowB (leftC x) <;> simp only [h2, if_true, if_false, Bool.false_eq_true] at hLE ⊢
    · unfold qua at hLE ⊢
      cases h3 : quaB (leftC x) <;> simp only [h3, if_true, if_false, Bool.false_eq_true] at hLE ⊢
      · exact l01Sine_000 _ _ n _ w rfl hn hv sx b1 b2 h1 h2 h3 hLE
      · exact l01Sine_001 _ _ n _ w rfl hn hv sx b1 b2 h1 h2 h3 hLE
    · unfold qua at hLE ⊢
      cases h3 : quaB (fop .sub .f64 (leftC x) (some half64)) <;> simp only [h3, if_true, if_false, Bool.false_eq_true] at hLE ⊢
      · exact l01Sine_010 _ _ n _ w rfl hn hv sx b1 b2 h1 h2 h3 hLE
      · exact l01Sine_011 _ _ n _ w rfl hn hv sx b1 b2 h1 h2 h3 hLE
  · unfold low at hLE ⊢
    cases h2 : lowB (fop .add .f64 (leftC x) (some one64)) <;> simp only [h2, if_true, if_false, Bool.false_eq_true] at hLE ⊢
    · unfold qua at hLE ⊢
      cases h3 : quaB (fop .add .f64 (leftC x) (some one64)) <;> simp only [h3, if_true, if_false, Bool.false_eq_true] at hLE ⊢
      · exact l01Sine_100 _ _ n _ w rfl hn hv sx b1 b2 h1 h2 h3 hLE
      · exact l01Sine_101 _ _ n _ w rfl hn hv sx b1 b2 h1 h2 h3 hLE
    · unfold qua at hLE ⊢
      cases h3 : quaB (fop .sub .f64 (fop .add .f64 (leftC x) (some one64)) (some half64)) <;> simp only [h3, if_true, if_false, Bool.false_eq_true] at hLE ⊢
      · exact l01Sine_110 _ _ n _ w rfl hn hv sx b1 b2 h1 h2 h3 hLE
      · exact l01Sine_111 _ _ n _ w rfl hn hv sx b1 b2 h1 h2 h3 hLE
theorem l01SineWide_big (x : Nat) (w : World) (hx : x < 4294967296) (hf : finB x = true) (hb : bigB x = true) :
    Calls Try.prog 112 #[.float .f64 (wid x)] w fun e w' => e = .returned (.float .f64 0) ∧ ∃ n, w' = w.drewN n := by
  have u := Try.underlying25
  have sx := sub_wid hx hf
  have z0 : (FloatKind.f64.format.order 0 0 != some .eq) = false := by decide
  have h := (big_signed hx hf).2 hb
  generalize wid x = X at *
  rcases h with h1 | ⟨h1, h2⟩
  all_goals
    go_enter Try.func112, Try.ntmps112
    go_wp2
    go_ret
    exact ⟨rfl, _, rfl⟩
theorem l01SineWide_nan (y : Nat) (w : World) (h : ∀ w, (FloatKind.f64.format.order (fR .sub .f64 y y w) 0 != some .eq) = true) :
    Calls Try.prog 112 #[.float .f64 y] w fun e w' => e = .returned (.float .f64 9221120237041090561) ∧ ∃ n, w' = w.drewN n := by
  have u := Try.underlying25
  go_enter Try.func112, Try.ntmps112
  go_wp2_with (first
    | (go_at_call 113; refine (math_NaN _).mono ?_; rintro e w' ⟨rfl, rfl⟩))
  go_ret
  exact ⟨rfl, _, rfl⟩
theorem l01Sine (x : Nat) (w : World) (hx : x < 4294967296) :
    Calls Try.prog 50 #[.float .f32 x] w fun e w' => ∃ r, e = .returned (.float .f32 r) ∧ FV .f32 r (sinT x) ∧ ∃ n, w' = w.drewN n := by
  have u := Try.underlying25
  have u' := Try.underlying22
  unfold sinT
  cases hf : finB x
  · have hX : ∀ w1 w, (FloatKind.f64.format.order (fR .sub .f64 (wR x w1) (wR x w1) w) 0 != some .eq) = true := fun w1 w => sub_inf hx hf
    have HH := Lib.hid hX
    clear hX
    go_enter Try.func50, Try.ntmps50
    go_wp2_with fail
    refine (l01SineWide_nan _ _ (HH.out _)).mono ?_
    rintro e w' ⟨rfl, n, rfl⟩
    go_wp2_with fail
    refine (spec_Narrow _ _).mono ?_
    rintro e w' ⟨rfl, n, rfl⟩
    go_wp2
    go_ret
    exact ⟨_, rfl, FV_nR fv_nan ovf_nan, _, rfl⟩
  · have wx : ∀ w, wR x w = wid x := fun w => wR_num w (fin_num hf)
    cases hb : bigB x
    · go_enter Try.func50, Try.ntmps50
      go_wp2_with fail
      refine (l01SineWide_main _ _ hx hf hb).mono ?_
      rintro e w' ⟨g, rfl, ⟨hg, ho⟩, n, rfl⟩
      go_wp2_with fail
      refine (spec_Narrow _ _).mono ?_
      rintro e w' ⟨rfl, n, rfl⟩
      go_wp2
      go_ret
      exact ⟨_, rfl, FV_nR hg ho, _, rfl⟩
    · go_enter Try.func50, Try.ntmps50
      go_wp2_with fail
      refine (l01SineWide_big _ _ hx hf hb).mono ?_
      rintro e w' ⟨rfl, n, rfl⟩
      go_wp2_with fail
      refine (spec_Narrow _ _).mono ?_
      rintro e w' ⟨rfl, n, rfl⟩
      go_wp2
      go_ret
      exact ⟨_, rfl, FV_nR (c := some 0) fv_zero64 (by decide), _, rfl⟩
theorem spec_SineTurns (x : Nat) (w : World) (hx : x < 4294967296) :
    Calls Try.prog 15 #[.float .f32 x] w fun e w' => ∃ r, e = .returned (.float .f32 r) ∧ FV .f32 r (sinT x) ∧ ∃ n, w' = w.drewN n := by
  go_enter Try.func15, Try.ntmps15
  go_wp2_with (go_at_call 50; refine (l01Sine _ _ hx).mono ?_; rintro e w' ⟨r, rfl, hr, n, rfl⟩)
  go_ret
  exact ⟨_, rfl, hr, _, rfl⟩
theorem impl_SineTurns (x : Nat) (w : World) (hx : x < 4294967296) :
    Calls Try.prog 16 #[.float .f32 x] w fun e w' => ∃ r, e = .returned (.float .f32 r) ∧ FV .f32 r (sinT x) ∧ ∃ n, w' = w.drewN n := by
  have u := Try.underlying25
  have u' := Try.underlying22
  unfold sinT
  cases hf : finB x
  · go_enter Try.func16, Try.ntmps16
    go_wp2_with (first
      | (go_at_call 51; refine (impl_IsFinite _ _ (by assumption)).mono ?_; rintro e w' ⟨rfl, n, rfl⟩)
      | (go_at_call 52; refine (impl_notANumber _).mono ?_; rintro e w' ⟨g, rfl, hg, n, rfl⟩))
    go_ret
    exact ⟨_, rfl, hg, _, rfl⟩
  · cases hb : bigB x
    · exact impl_SineTurns_main x w hx hf hb
    · have wx : ∀ w, wR x w = wid x := fun w => wR_num w (fin_num hf)
      have lx : wid x < 18446744073709551616 := wid_lt x
      have hbig := big_abs hx hf
      rw [hb] at hbig
      go_enter Try.func16, Try.ntmps16
      go_wp2_with (first
        | (go_at_call 51; refine (impl_IsFinite _ _ (by assumption)).mono ?_; rintro e w' ⟨rfl, n1, rfl⟩)
        | (go_at_call 53; refine (math_Abs _ _ (by assumption)).mono ?_; rintro e w' ⟨rfl, rfl⟩))
      go_ret
      exact ⟨_, rfl, ⟨by decide, by decide⟩, _, rfl⟩
theorem FnExactSineTurns_law (x : Nat) (w : World) (hx : x < 2 ^ FloatKind.f32.format.width) :
    Calls Try.prog 3 #[.float .f32 x] w fun e w' => e = .returned (.bool true) ∧ Below w.heap.size w w' := by
  have u := Try.underlying25
  have u' := Try.underlying22
  have hx' : x < 4294967296 := hx
  go_enter Try.func3, Try.ntmps3
  go_wp2_with (first
    | (go_at_call 15; refine (spec_SineTurns _ _ hx').mono ?_; rintro e w' ⟨r, rfl, hr, n, rfl⟩)
    | (go_at_call 16; refine (impl_SineTurns _ _ hx').mono ?_; rintro e w' ⟨r', rfl, hr', n, rfl⟩)
    | (go_at_call 17; refine (laws_sameFloat _ _ _ _ (FV_wR hr') (FV_wR hr)).mono ?_; rintro e w' ⟨rfl, n, rfl⟩))
  go_ret
  exact ⟨rfl, below_drewN (Below.refl _ _) _⟩
end Go.Proofs.Ytejgenjafajpnaa

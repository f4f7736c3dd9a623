
/-
Logarithms: all arguments, and that the law returns true. Conditions: none beyond that the words fit.
-/
import Derived.Test.YtcgnmnbjgamedaaLogW
namespace Go.Proofs.Ytcgnmnbjgamedaa
open Go Fk Go.RowKit
set_option linter.unusedVariables false
set_option maxRecDepth 8000

theorem impl_LogNumber (x : Nat) (w : World) (hx : x < 4294967296) :
    Calls Try.prog 84 #[.float .f32 x] w fun e w' => ∃ r, e = .returned (.float .f32 r) ∧ FV .f32 r (logT x) ∧ ∃ n, w' = w.drewN n := by
  have u := Try.underlying26
  have u' := Try.underlying22
  unfold logT
  cases hn : nan32 x
  · have wx : ∀ w, wR x w = wid x := fun w => wR_num w hn
    have lx : wid x < 18446744073709551616 := wid_lt x
    cases h1 : lt0 x
    · cases h2 : eq0 x
      · by_cases h3 : x = 2139095040
        · have hw : wid x = 9218868437227405312 := by rw [h3]; decide
          have hx3 := Lib.hid h3
          rw [if_neg (by simp), if_neg (by simp), if_pos h3]
          unfold lt0 at h1
          unfold eq0 at h2
          clear h3
          go_enter Try.func84, Try.ntmps84
          go_wp2_with (first
            | (go_at_call 98; refine (impl_isNaN _ _).mono ?_; rintro e w' ⟨rfl, n, rfl⟩)
            | (go_at_call 99; refine (math_IsInf1 _ _ (by decide)).mono ?_; rintro e w' ⟨rfl, hw1⟩; rw [hw1]; clear hw1))
          go_ret
          exact ⟨_, rfl, by rw [hx3.out]; exact ⟨by decide, by decide⟩, _, rfl⟩
        · rw [if_neg (by simp), if_neg (by simp), if_neg h3]
          exact impl_LogNumber_main x w hx hn h1 h2 h3
      · rw [if_neg (by simp), if_pos rfl]
        unfold lt0 at h1
        unfold eq0 at h2
        go_enter Try.func84, Try.ntmps84
        go_wp2_with (first
          | (go_at_call 98; refine (impl_isNaN _ _).mono ?_; rintro e w' ⟨rfl, n, rfl⟩)
          | (go_at_call 118; refine (impl_infinityN _).mono ?_; rintro e w' ⟨g, rfl, hg, n, rfl⟩))
        go_ret
        exact ⟨_, rfl, hg, _, rfl⟩
    · rw [if_pos (by simp)]
      unfold lt0 at h1
      go_enter Try.func84, Try.ntmps84
      go_wp2_with (first
        | (go_at_call 98; refine (impl_isNaN _ _).mono ?_; rintro e w' ⟨rfl, n, rfl⟩)
        | (go_at_call 121; refine (impl_notANumber _).mono ?_; rintro e w' ⟨g, rfl, hg, n, rfl⟩))
      go_ret
      exact ⟨_, rfl, hg, _, rfl⟩
  · rw [if_pos (by simp)]
    go_enter Try.func84, Try.ntmps84
    go_wp2_with (first
      | (go_at_call 98; refine (impl_isNaN _ _).mono ?_; rintro e w' ⟨rfl, n, rfl⟩)
      | (go_at_call 121; refine (impl_notANumber _).mono ?_; rintro e w' ⟨g, rfl, hg, n, rfl⟩))
    go_ret
    exact ⟨_, rfl, hg, _, rfl⟩

theorem l01LogWide_nan (y : Nat) (w : World) (h : (FloatKind.f64.format.order y y != some .eq) = true ∨ ((FloatKind.f64.format.order y y != some .eq) = false ∧ (FloatKind.f64.format.order y 0 == some .lt) = true)) :
    Calls Try.prog 117 #[.float .f64 y] w fun e w' => e = .returned (.float .f64 9221120237041090561) ∧ ∃ n, w' = w.drewN n := by
  have u := Try.underlying26
  rcases h with h1 | ⟨h1, h2⟩
  all_goals
    go_enter Try.func117, Try.ntmps117
    go_wp2_with (first
      | (go_at_call 141; refine (math_NaN _).mono ?_; rintro e w1 ⟨rfl, hw1⟩; rw [hw1]; clear hw1))
    go_ret
    exact ⟨rfl, 0, rfl⟩
theorem l01LogWide_zero (y : Nat) (w : World) (h1 : (FloatKind.f64.format.order y y != some .eq) = false) (h2 : (FloatKind.f64.format.order y 0 == some .lt) = false) (h3 : (FloatKind.f64.format.order y 0 == some .eq) = true) :
    Calls Try.prog 117 #[.float .f64 y] w fun e w' => e = .returned (.float .f64 18442240474082181120) ∧ ∃ n, w' = w.drewN n := by
  have u := Try.underlying26
  go_enter Try.func117, Try.ntmps117
  go_wp2_with (first
    | (go_at_call 140; refine (math_InfN _).mono ?_; rintro e w1 ⟨rfl, hw1⟩; rw [hw1]; clear hw1))
  go_ret
  exact ⟨rfl, 0, rfl⟩
theorem l01LogWide_inf (w : World) :
    Calls Try.prog 117 #[.float .f64 9218868437227405312] w fun e w' => e = .returned (.float .f64 9218868437227405312) ∧ ∃ n, w' = w.drewN n := by
  have u := Try.underlying26
  have h1 : (FloatKind.f64.format.order 9218868437227405312 9218868437227405312 != some .eq) = false := by decide
  have h2 : (FloatKind.f64.format.order 9218868437227405312 0 == some .lt) = false := by decide
  have h3 : (FloatKind.f64.format.order 9218868437227405312 0 == some .eq) = false := by decide
  go_enter Try.func117, Try.ntmps117
  go_wp2_with (first
    | (go_at_call 99; refine (math_IsInf1 _ _ (by decide)).mono ?_; rintro e w1 ⟨rfl, hw1⟩; rw [hw1]; clear hw1))
  go_ret
  exact ⟨rfl, 0, rfl⟩
theorem l01Log (x : Nat) (w : World) (hx : x < 4294967296) :
    Calls Try.prog 82 #[.float .f32 x] w fun e w' => ∃ r, e = .returned (.float .f32 r) ∧ FV .f32 r (logT x) ∧ ∃ n, w' = w.drewN n := by
  have u := Try.underlying26
  have u' := Try.underlying22
  unfold logT
  cases hn : nan32 x
  · have wx : ∀ w, wR x w = wid x := fun w => wR_num w hn
    have e1 : (FloatKind.f64.format.order (wid x) (wid x) != some .eq) = false := by rw [ne_self]; exact wid_nan hn
    have ol : (FloatKind.f64.format.order (wid x) 0 == some .lt) = lt0 x := by rw [ord0n hx hn]
    have oe : (FloatKind.f64.format.order (wid x) 0 == some .eq) = eq0 x := by rw [ord0n hx hn]
    have E1 := Lib.hid e1
    have OL := Lib.hid ol
    have OE := Lib.hid oe
    clear e1 ol oe
    cases h1 : lt0 x
    · cases h2 : eq0 x
      · by_cases h3 : x = 2139095040
        · have hw : wid x = 9218868437227405312 := by rw [h3]; decide
          rw [if_neg (by simp), if_neg (by simp), if_pos h3]
          clear h3
          go_enter Try.func82, Try.ntmps82
          go_wp2_with fail
          refine (l01LogWide_inf _).mono ?_
          rintro e w' ⟨rfl, n, rfl⟩
          go_wp2_with fail
          refine (spec_Narrow _ _).mono ?_
          rintro e w' ⟨rfl, n, rfl⟩
          go_wp2
          go_ret
          exact ⟨_, rfl, FV_nR fv_pinf (by decide), _, rfl⟩
        · rw [if_neg (by simp), if_neg (by simp), if_neg h3]
          obtain ⟨hN, hP, hI⟩ := pos_word hx hn h1 h2 h3
          have HM := Lib.hid (fun w => l01LogWide_main (wid x) w (wid_lt x) hN hP hI E1.out (OL.out.trans h1) (OE.out.trans h2))
          clear h1 h2 hI h3
          go_enter Try.func82, Try.ntmps82
          go_wp2_with fail
          refine (HM.out _).mono ?_
          rintro e w' ⟨g, rfl, ⟨hg, ho⟩, n, rfl⟩
          go_wp2_with fail
          refine (spec_Narrow _ _).mono ?_
          rintro e w' ⟨rfl, n, rfl⟩
          go_wp2
          go_ret
          exact ⟨_, rfl, FV_nR hg ho, _, rfl⟩
      · rw [if_neg (by simp), if_pos rfl]
        have HM := Lib.hid (fun w => l01LogWide_zero (wid x) w E1.out (OL.out.trans h1) (OE.out.trans h2))
        clear h1 h2
        go_enter Try.func82, Try.ntmps82
        go_wp2_with fail
        refine (HM.out _).mono ?_
        rintro e w' ⟨rfl, n, rfl⟩
        go_wp2_with fail
        refine (spec_Narrow _ _).mono ?_
        rintro e w' ⟨rfl, n, rfl⟩
        go_wp2
        go_ret
        exact ⟨_, rfl, FV_nR fv_ninf (by decide), _, rfl⟩
    · rw [if_pos (by simp)]
      have HM := Lib.hid (fun w => l01LogWide_nan (wid x) w (.inr ⟨E1.out, OL.out.trans h1⟩))
      clear h1
      go_enter Try.func82, Try.ntmps82
      go_wp2_with fail
      refine (HM.out _).mono ?_
      rintro e w' ⟨rfl, n, rfl⟩
      go_wp2_with fail
      refine (spec_Narrow _ _).mono ?_
      rintro e w' ⟨rfl, n, rfl⟩
      go_wp2
      go_ret
      exact ⟨_, rfl, FV_nR fv_nan ovf_nan, _, rfl⟩
  · rw [if_pos (by simp)]
    have HM := Lib.hid (fun w1 w => l01LogWide_nan (wR x w1) w (.inl (by rw [ne_self, wR_nan]; exact hn)))
    go_enter Try.func82, Try.ntmps82
    go_wp2_with fail
    refine (HM.out _ _).mono ?_
    rintro e w' ⟨rfl, n, rfl⟩
    go_wp2_with fail
    refine (spec_Narrow _ _).mono ?_
    rintro e w' ⟨rfl, n, rfl⟩
    go_wp2
    go_ret
    exact ⟨_, rfl, FV_nR fv_nan ovf_nan, _, rfl⟩
end Go.Proofs.Ytcgnmnbjgamedaa

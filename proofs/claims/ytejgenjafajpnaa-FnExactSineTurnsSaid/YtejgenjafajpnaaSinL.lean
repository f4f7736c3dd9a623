
/-
Sines: the walks of the program and its model, and that the law returns true. Conditions: none beyond that the words fit.
-/
import Derived.Test.YtejgenjafajpnaaSin
namespace Go.Proofs.Ytejgenjafajpnaa
open Go Fk Go.RowKit
set_option linter.unusedVariables false
set_option maxRecDepth 8000

theorem cut_bool {P : Prop} (b : Bool) (h : ∀ c, b = c → P) : P := h b rfl
theorem impl_SineTurns_main (x : Nat) (w : World) (hx : x < 4294967296) (hf : finB x = true) (hb : bigB x = false) :
    Calls Try.prog 16 #[.float .f32 x] w fun e w' => ∃ r, e = .returned (.float .f32 r) ∧ FV .f32 r ((sinF x).map nar) ∧ ∃ n, w' = w.drewN n := by
  have u := Try.underlying25
  have u' := Try.underlying22
  have wx : ∀ w, wR x w = wid x := fun w => wR_num w (fin_num hf)
  have lx : wid x < 18446744073709551616 := wid_lt x
  have hbig := big_abs hx hf
  rw [hb] at hbig
  obtain ⟨n, hn, hl, hle⟩ := left_of hx hf hb
  have hLE := LEC_sinQ (LEC_qua hle)
  have fx : FV .f64 (wid x) (some (wid x)) := ⟨wid_lt x, cls_num (wid_nan (fin_num hf))⟩
  have hsh := fun w => impl_shareOfTurn (wid x) n w fx hn
  rw [← hl] at hsh
  unfold sinF
  generalize hc : leftC x = c at *
  clear hc hl hle hn
  generalize hbb : lowB (shr c) = bb at *
  have HL := Lib.hid hLE
  have HS := Lib.hid hsh
  have HB := Lib.hid hbb
  clear hLE hsh hbb fx
  cases bb
  all_goals
    simp only [if_true, if_false, Bool.false_eq_true]
    go_enter Try.func16, Try.ntmps16
    go_wp2_with (first
      | (go_at_call 51; refine (impl_IsFinite _ _ (by assumption)).mono ?_; rintro e w' ⟨rfl, n1, rfl⟩)
      | (go_at_call 53; refine (math_Abs _ _ (by assumption)).mono ?_; rintro e w' ⟨rfl, rfl⟩)
      | (go_at_call 55; refine (HS.out _).mono ?_; rintro e w' ⟨g, rfl, hg, n2, rfl⟩)
      | (go_at_call 54; refine (impl_firstQuarter _ _ _ hg).mono ?_; rintro e w' ⟨⟨g2, rfl, hg2⟩, n3, rfl⟩; rw [HB.out])
      | (go_at_call 56; first
          | (refine (impl_product64 _ _ _ _ _ hz hz).mono ?_; rintro e w' ⟨uu, rfl, huu, n5, rfl⟩)
          | (refine (impl_product64 _ _ _ _ _ hg2 fv_turn).mono ?_; rintro e w' ⟨z, rfl, hz, n4, rfl⟩)))
    go_loopw [7, 8] (fun s i w' => ∃ k : Nat, k ≤ 8 ∧ i = .int .i64 (8 - (k : Int)) ∧ (∃ p, s = .float .f64 p ∧ FV .f64 p (polS (fop .mul .f64 (sinZ (qua (low (shr c)))) (sinZ (qua (low (shr c))))) k)) ∧ ∃ n, w' = w.drewN n) (fun _ i _ => (intOf i + 2).toNat)
    case atStart => exact ⟨0, by decide, rfl, ⟨_, rfl, fv_one⟩, _, rfl⟩
    case round =>
      obtain ⟨k, hk, rfl, ⟨p, rfl, hp⟩, m, rfl⟩ := hrel
      have hcase : k = 0 ∨ k = 1 ∨ k = 2 ∨ k = 3 ∨ k = 4 ∨ k = 5 ∨ k = 6 ∨ k = 7 ∨ k = 8 := by omega
      rcases hcase with rfl | rfl | rfl | rfl | rfl | rfl | rfl | rfl | rfl
      iterate 8
        · go_wp2_with (go_at_call 56; refine (impl_product64 _ _ _ _ _ huu hp).mono ?_; rintro e w' ⟨r1, rfl, hr1, n6, rfl⟩)
          go_roundw
          case rel => first | exact ⟨1, by decide, rfl, ⟨_, rfl, FV_fR fv_one (FV_fR hr1 (fv_int _))⟩, _, rfl⟩ | exact ⟨2, by decide, rfl, ⟨_, rfl, FV_fR fv_one (FV_fR hr1 (fv_int _))⟩, _, rfl⟩ | exact ⟨3, by decide, rfl, ⟨_, rfl, FV_fR fv_one (FV_fR hr1 (fv_int _))⟩, _, rfl⟩ | exact ⟨4, by decide, rfl, ⟨_, rfl, FV_fR fv_one (FV_fR hr1 (fv_int _))⟩, _, rfl⟩ | exact ⟨5, by decide, rfl, ⟨_, rfl, FV_fR fv_one (FV_fR hr1 (fv_int _))⟩, _, rfl⟩ | exact ⟨6, by decide, rfl, ⟨_, rfl, FV_fR fv_one (FV_fR hr1 (fv_int _))⟩, _, rfl⟩ | exact ⟨7, by decide, rfl, ⟨_, rfl, FV_fR fv_one (FV_fR hr1 (fv_int _))⟩, _, rfl⟩ | exact ⟨8, by decide, rfl, ⟨_, rfl, FV_fR fv_one (FV_fR hr1 (fv_int _))⟩, _, rfl⟩
          case measure => simp [intOf]
      · go_wp2_with (first
          | (go_at_call 56; refine (impl_product64 _ _ _ _ _ hz hp).mono ?_; rintro e w' ⟨r1, rfl, hr1, n6, rfl⟩)
          | (go_at_call 57; refine (impl_Narrow _ _).mono ?_; rintro e w' ⟨rfl, n, rfl⟩))
        go_ret
        first
          | exact ⟨_, rfl, sin_end hr1 HL.out, _, rfl⟩
          | exact ⟨_, rfl, sin_endN hr1 HL.out, _, rfl⟩
theorem l01Sine_000 (X I : Nat) (i : Int) (c : Option Nat) (w : World) (hI : floatOfInt .f64 i = I) (hn : floatToIntVal .f64 X .i64 = some i) (hv : ∀ w, FV .f64 (fR .sub .f64 X I w) c) (sx : ∀ w, fR .sub .f64 X X w = 0)
    (b1 : (FloatKind.f64.format.order X 4841369599423283200 == some .gt || FloatKind.f64.format.order X 4841369599423283200 == some .eq) = false) (b2 : (FloatKind.f64.format.order X 14064741636278059008 == some .lt || FloatKind.f64.format.order X 14064741636278059008 == some .eq) = false)
    (hneg : negB c = false) (hlow : lowB c = false) (hqua : quaB c = false) (hLE : LEC (sinQ c) 94) :
    Calls Try.prog 112 #[.float .f64 X] w fun e w' => ∃ r, e = .returned (.float .f64 r) ∧ (FV .f64 r (sinQ c) ∧ ovf r = false) ∧ ∃ n, w' = w.drewN n := by
  have u := Try.underlying25
  have u' := Try.underlying2
  have z0 : (FloatKind.f64.format.order 0 0 != some .eq) = false := by decide
  have hc : ∀ w, (convert 25 2 (.float .f64 X)).run Try.prog w = .ok (.int .i64 i) w := fun w => run_convert_float_int w 25 2 .f64 .i64 X i (by rw [u]; rfl) u' hn
  have h1 : ∀ w, (FloatKind.f64.format.order (fR .sub .f64 X I w) 0 == some .lt) = false := fun w => (o_eq _ (hv w) fv_zero64).trans hneg
  have h2 : ∀ w, (FloatKind.f64.format.order (fR .sub .f64 X I w) 4602678819172646912 == some .gt || FloatKind.f64.format.order (fR .sub .f64 X I w) 4602678819172646912 == some .eq) = false := fun w => by rw [o_eq _ (hv w) fv_half, o_eq _ (hv w) fv_half]; exact hlow
  have h3 : ∀ w, (FloatKind.f64.format.order (fR .sub .f64 X I w) 4598175219545276416 == some .gt) = false := fun w => (o_eq _ (hv w) fv_quarter).trans hqua
  have HL := Lib.hid hLE
  clear hLE hneg hlow hqua hn
  go_enter Try.func112, Try.ntmps112
  go_wp2_with (simp only [hc, hI])
  go_loopw [7, 8] (fun s i w' => ∃ k : Nat, k ≤ 8 ∧ i = .int .i64 (8 - (k : Int)) ∧ (∃ p, s = .float .f64 p ∧ FV .f64 p (polS (fop .mul .f64 (sinZ c) (sinZ c)) k)) ∧ ∃ n, w' = w.drewN n) (fun _ i _ => (intOf i + 2).toNat)
  case atStart => exact ⟨0, by decide, rfl, ⟨_, rfl, fv_one⟩, _, rfl⟩
  case round =>
    obtain ⟨k, hk, rfl, ⟨p, rfl, hp⟩, m, rfl⟩ := hrel
    have hcase : k = 0 ∨ k = 1 ∨ k = 2 ∨ k = 3 ∨ k = 4 ∨ k = 5 ∨ k = 6 ∨ k = 7 ∨ k = 8 := by omega
    rcases hcase with rfl | rfl | rfl | rfl | rfl | rfl | rfl | rfl | rfl
    iterate 8
      · go_wp2
        go_roundw
        case rel => first | exact ⟨1, by decide, rfl, ⟨_, rfl, FV_fR fv_one (FV_fR (FV_fR (FV_fR (FV_fR (hv _) fv_turn) (FV_fR (hv _) fv_turn)) hp) (fv_int _))⟩, _, rfl⟩ | exact ⟨2, by decide, rfl, ⟨_, rfl, FV_fR fv_one (FV_fR (FV_fR (FV_fR (FV_fR (hv _) fv_turn) (FV_fR (hv _) fv_turn)) hp) (fv_int _))⟩, _, rfl⟩ | exact ⟨3, by decide, rfl, ⟨_, rfl, FV_fR fv_one (FV_fR (FV_fR (FV_fR (FV_fR (hv _) fv_turn) (FV_fR (hv _) fv_turn)) hp) (fv_int _))⟩, _, rfl⟩ | exact ⟨4, by decide, rfl, ⟨_, rfl, FV_fR fv_one (FV_fR (FV_fR (FV_fR (FV_fR (hv _) fv_turn) (FV_fR (hv _) fv_turn)) hp) (fv_int _))⟩, _, rfl⟩ | exact ⟨5, by decide, rfl, ⟨_, rfl, FV_fR fv_one (FV_fR (FV_fR (FV_fR (FV_fR (hv _) fv_turn) (FV_fR (hv _) fv_turn)) hp) (fv_int _))⟩, _, rfl⟩ | exact ⟨6, by decide, rfl, ⟨_, rfl, FV_fR fv_one (FV_fR (FV_fR (FV_fR (FV_fR (hv _) fv_turn) (FV_fR (hv _) fv_turn)) hp) (fv_int _))⟩, _, rfl⟩ | exact ⟨7, by decide, rfl, ⟨_, rfl, FV_fR fv_one (FV_fR (FV_fR (FV_fR (FV_fR (hv _) fv_turn) (FV_fR (hv _) fv_turn)) hp) (fv_int _))⟩, _, rfl⟩ | exact ⟨8, by decide, rfl, ⟨_, rfl, FV_fR fv_one (FV_fR (FV_fR (FV_fR (FV_fR (hv _) fv_turn) (FV_fR (hv _) fv_turn)) hp) (fv_int _))⟩, _, rfl⟩
        case measure => simp [intOf]
    · go_wp2
      go_ret
      exact ⟨_, rfl, sin_wide (FV_fR (FV_fR (hv _) fv_turn) hp) HL.out, _, rfl⟩
theorem l01Sine_001 (X I : Nat) (i : Int) (c : Option Nat) (w : World) (hI : floatOfInt .f64 i = I) (hn : floatToIntVal .f64 X .i64 = some i) (hv : ∀ w, FV .f64 (fR .sub .f64 X I w) c) (sx : ∀ w, fR .sub .f64 X X w = 0)
    (b1 : (FloatKind.f64.format.order X 4841369599423283200 == some .gt || FloatKind.f64.format.order X 4841369599423283200 == some .eq) = false) (b2 : (FloatKind.f64.format.order X 14064741636278059008 == some .lt || FloatKind.f64.format.order X 14064741636278059008 == some .eq) = false)
    (hneg : negB c = false) (hlow : lowB c = false) (hqua : quaB c = true) (hLE : LEC (sinQ (fop .sub .f64 (some half64) c)) 94) :
    Calls Try.prog 112 #[.float .f64 X] w fun e w' => ∃ r, e = .returned (.float .f64 r) ∧ (FV .f64 r (sinQ (fop .sub .f64 (some half64) c)) ∧ ovf r = false) ∧ ∃ n, w' = w.drewN n := by
  have u := Try.underlying25
  have u' := Try.underlying2
  have z0 : (FloatKind.f64.format.order 0 0 != some .eq) = false := by decide
  have hc : ∀ w, (convert 25 2 (.float .f64 X)).run Try.prog w = .ok (.int .i64 i) w := fun w => run_convert_float_int w 25 2 .f64 .i64 X i (by rw [u]; rfl) u' hn
  have h1 : ∀ w, (FloatKind.f64.format.order (fR .sub .f64 X I w) 0 == some .lt) = false := fun w => (o_eq _ (hv w) fv_zero64).trans hneg
  have h2 : ∀ w, (FloatKind.f64.format.order (fR .sub .f64 X I w) 4602678819172646912 == some .gt || FloatKind.f64.format.order (fR .sub .f64 X I w) 4602678819172646912 == some .eq) = false := fun w => by rw [o_eq _ (hv w) fv_half, o_eq _ (hv w) fv_half]; exact hlow
  have h3 : ∀ w, (FloatKind.f64.format.order (fR .sub .f64 X I w) 4598175219545276416 == some .gt) = true := fun w => (o_eq _ (hv w) fv_quarter).trans hqua
  have HL := Lib.hid hLE
  clear hLE hneg hlow hqua hn
  go_enter Try.func112, Try.ntmps112
  go_wp2_with (simp only [hc, hI])
  go_loopw [7, 8] (fun s i w' => ∃ k : Nat, k ≤ 8 ∧ i = .int .i64 (8 - (k : Int)) ∧ (∃ p, s = .float .f64 p ∧ FV .f64 p (polS (fop .mul .f64 (sinZ (fop .sub .f64 (some half64) c)) (sinZ (fop .sub .f64 (some half64) c))) k)) ∧ ∃ n, w' = w.drewN n) (fun _ i _ => (intOf i + 2).toNat)
  case atStart => exact ⟨0, by decide, rfl, ⟨_, rfl, fv_one⟩, _, rfl⟩
  case round =>
    obtain ⟨k, hk, rfl, ⟨p, rfl, hp⟩, m, rfl⟩ := hrel
    have hcase : k = 0 ∨ k = 1 ∨ k = 2 ∨ k = 3 ∨ k = 4 ∨ k = 5 ∨ k = 6 ∨ k = 7 ∨ k = 8 := by omega
    rcases hcase with rfl | rfl | rfl | rfl | rfl | rfl | rfl | rfl | rfl
    iterate 8
      · go_wp2
        go_roundw
        case rel => first | exact ⟨1, by decide, rfl, ⟨_, rfl, FV_fR fv_one (FV_fR (FV_fR (FV_fR (FV_fR (FV_fR fv_half (hv _)) fv_turn) (FV_fR (FV_fR fv_half (hv _)) fv_turn)) hp) (fv_int _))⟩, _, rfl⟩ | exact ⟨2, by decide, rfl, ⟨_, rfl, FV_fR fv_one (FV_fR (FV_fR (FV_fR (FV_fR (FV_fR fv_half (hv _)) fv_turn) (FV_fR (FV_fR fv_half (hv _)) fv_turn)) hp) (fv_int _))⟩, _, rfl⟩ | exact ⟨3, by decide, rfl, ⟨_, rfl, FV_fR fv_one (FV_fR (FV_fR (FV_fR (FV_fR (FV_fR fv_half (hv _)) fv_turn) (FV_fR (FV_fR fv_half (hv _)) fv_turn)) hp) (fv_int _))⟩, _, rfl⟩ | exact ⟨4, by decide, rfl, ⟨_, rfl, FV_fR fv_one (FV_fR (FV_fR (FV_fR (FV_fR (FV_fR fv_half (hv _)) fv_turn) (FV_fR (FV_fR fv_half (hv _)) fv_turn)) hp) (fv_int _))⟩, _, rfl⟩ | exact ⟨5, by decide, rfl, ⟨_, rfl, FV_fR fv_one (FV_fR (FV_fR (FV_fR (FV_fR (FV_fR fv_half (hv _)) fv_turn) (FV_fR (FV_fR fv_half (hv _)) fv_turn)) hp) (fv_int _))⟩, _, rfl⟩ | exact ⟨6, by decide, rfl, ⟨_, rfl, FV_fR fv_one (FV_fR (FV_fR (FV_fR (FV_fR (FV_fR fv_half (hv _)) fv_turn) (FV_fR (FV_fR fv_half (hv _)) fv_turn)) hp) (fv_int _))⟩, _, rfl⟩ | exact ⟨7, by decide, rfl, ⟨_, rfl, FV_fR fv_one (FV_fR (FV_fR (FV_fR (FV_fR (FV_fR fv_half (hv _)) fv_turn) (FV_fR (FV_fR fv_half (hv _)) fv_turn)) hp) (fv_int _))⟩, _, rfl⟩ | exact ⟨8, by decide, rfl, ⟨_, rfl, FV_fR fv_one (FV_fR (FV_fR (FV_fR (FV_fR (FV_fR fv_half (hv _)) fv_turn) (FV_fR (FV_fR fv_half (hv _)) fv_turn)) hp) (fv_int _))⟩, _, rfl⟩
        case measure => simp [intOf]
    · go_wp2
      go_ret
      exact ⟨_, rfl, sin_wide (FV_fR (FV_fR (FV_fR fv_half (hv _)) fv_turn) hp) HL.out, _, rfl⟩
theorem l01Sine_010 (X I : Nat) (i : Int) (c : Option Nat) (w : World) (hI : floatOfInt .f64 i = I) (hn : floatToIntVal .f64 X .i64 = some i) (hv : ∀ w, FV .f64 (fR .sub .f64 X I w) c) (sx : ∀ w, fR .sub .f64 X X w = 0)
    (b1 : (FloatKind.f64.format.order X 4841369599423283200 == some .gt || FloatKind.f64.format.order X 4841369599423283200 == some .eq) = false) (b2 : (FloatKind.f64.format.order X 14064741636278059008 == some .lt || FloatKind.f64.format.order X 14064741636278059008 == some .eq) = false)
    (hneg : negB c = false) (hlow : lowB c = true) (hqua : quaB (fop .sub .f64 c (some half64)) = false) (hLE : LEC (sinQ (fop .sub .f64 c (some half64))) 94) :
    Calls Try.prog 112 #[.float .f64 X] w fun e w' => ∃ r, e = .returned (.float .f64 r) ∧ (FV .f64 r (negC (sinQ (fop .sub .f64 c (some half64)))) ∧ ovf r = false) ∧ ∃ n, w' = w.drewN n := by
  have u := Try.underlying25
  have u' := Try.underlying2
  have z0 : (FloatKind.f64.format.order 0 0 != some .eq) = false := by decide
  have hc : ∀ w, (convert 25 2 (.float .f64 X)).run Try.prog w = .ok (.int .i64 i) w := fun w => run_convert_float_int w 25 2 .f64 .i64 X i (by rw [u]; rfl) u' hn
  have h1 : ∀ w, (FloatKind.f64.format.order (fR .sub .f64 X I w) 0 == some .lt) = false := fun w => (o_eq _ (hv w) fv_zero64).trans hneg
  have h2 : ∀ w, (FloatKind.f64.format.order (fR .sub .f64 X I w) 4602678819172646912 == some .gt || FloatKind.f64.format.order (fR .sub .f64 X I w) 4602678819172646912 == some .eq) = true := fun w => by rw [o_eq _ (hv w) fv_half, o_eq _ (hv w) fv_half]; exact hlow
  have h3 : ∀ w w2, (FloatKind.f64.format.order (fR .sub .f64 (fR .sub .f64 X I w) 4602678819172646912 w2) 4598175219545276416 == some .gt) = false := fun w w2 => (o_eq _ (FV_fR (hv w) fv_half) fv_quarter).trans hqua
  have HL := Lib.hid hLE
  clear hLE hneg hlow hqua hn
  go_enter Try.func112, Try.ntmps112
  go_wp2_with (simp only [hc, hI])
  go_loopw [7, 8] (fun s i w' => ∃ k : Nat, k ≤ 8 ∧ i = .int .i64 (8 - (k : Int)) ∧ (∃ p, s = .float .f64 p ∧ FV .f64 p (polS (fop .mul .f64 (sinZ (fop .sub .f64 c (some half64))) (sinZ (fop .sub .f64 c (some half64)))) k)) ∧ ∃ n, w' = w.drewN n) (fun _ i _ => (intOf i + 2).toNat)
  case atStart => exact ⟨0, by decide, rfl, ⟨_, rfl, fv_one⟩, _, rfl⟩
  case round =>
    obtain ⟨k, hk, rfl, ⟨p, rfl, hp⟩, m, rfl⟩ := hrel
    have hcase : k = 0 ∨ k = 1 ∨ k = 2 ∨ k = 3 ∨ k = 4 ∨ k = 5 ∨ k = 6 ∨ k = 7 ∨ k = 8 := by omega
    rcases hcase with rfl | rfl | rfl | rfl | rfl | rfl | rfl | rfl | rfl
    iterate 8
      · go_wp2
        go_roundw
        case rel => first | exact ⟨1, by decide, rfl, ⟨_, rfl, FV_fR fv_one (FV_fR (FV_fR (FV_fR (FV_fR (FV_fR (hv _) fv_half) fv_turn) (FV_fR (FV_fR (hv _) fv_half) fv_turn)) hp) (fv_int _))⟩, _, rfl⟩ | exact ⟨2, by decide, rfl, ⟨_, rfl, FV_fR fv_one (FV_fR (FV_fR (FV_fR (FV_fR (FV_fR (hv _) fv_half) fv_turn) (FV_fR (FV_fR (hv _) fv_half) fv_turn)) hp) (fv_int _))⟩, _, rfl⟩ | exact ⟨3, by decide, rfl, ⟨_, rfl, FV_fR fv_one (FV_fR (FV_fR (FV_fR (FV_fR (FV_fR (hv _) fv_half) fv_turn) (FV_fR (FV_fR (hv _) fv_half) fv_turn)) hp) (fv_int _))⟩, _, rfl⟩ | exact ⟨4, by decide, rfl, ⟨_, rfl, FV_fR fv_one (FV_fR (FV_fR (FV_fR (FV_fR (FV_fR (hv _) fv_half) fv_turn) (FV_fR (FV_fR (hv _) fv_half) fv_turn)) hp) (fv_int _))⟩, _, rfl⟩ | exact ⟨5, by decide, rfl, ⟨_, rfl, FV_fR fv_one (FV_fR (FV_fR (FV_fR (FV_fR (FV_fR (hv _) fv_half) fv_turn) (FV_fR (FV_fR (hv _) fv_half) fv_turn)) hp) (fv_int _))⟩, _, rfl⟩ | exact ⟨6, by decide, rfl, ⟨_, rfl, FV_fR fv_one (FV_fR (FV_fR (FV_fR (FV_fR (FV_fR (hv _) fv_half) fv_turn) (FV_fR (FV_fR (hv _) fv_half) fv_turn)) hp) (fv_int _))⟩, _, rfl⟩ | exact ⟨7, by decide, rfl, ⟨_, rfl, FV_fR fv_one (FV_fR (FV_fR (FV_fR (FV_fR (FV_fR (hv _) fv_half) fv_turn) (FV_fR (FV_fR (hv _) fv_half) fv_turn)) hp) (fv_int _))⟩, _, rfl⟩ | exact ⟨8, by decide, rfl, ⟨_, rfl, FV_fR fv_one (FV_fR (FV_fR (FV_fR (FV_fR (FV_fR (hv _) fv_half) fv_turn) (FV_fR (FV_fR (hv _) fv_half) fv_turn)) hp) (fv_int _))⟩, _, rfl⟩
        case measure => simp [intOf]
    · go_wp2
      go_ret
      exact ⟨_, rfl, sin_wideN (FV_fR (FV_fR (FV_fR (hv _) fv_half) fv_turn) hp) HL.out, _, rfl⟩
theorem l01Sine_011 (X I : Nat) (i : Int) (c : Option Nat) (w : World) (hI : floatOfInt .f64 i = I) (hn : floatToIntVal .f64 X .i64 = some i) (hv : ∀ w, FV .f64 (fR .sub .f64 X I w) c) (sx : ∀ w, fR .sub .f64 X X w = 0)
    (b1 : (FloatKind.f64.format.order X 4841369599423283200 == some .gt || FloatKind.f64.format.order X 4841369599423283200 == some .eq) = false) (b2 : (FloatKind.f64.format.order X 14064741636278059008 == some .lt || FloatKind.f64.format.order X 14064741636278059008 == some .eq) = false)
    (hneg : negB c = false) (hlow : lowB c = true) (hqua : quaB (fop .sub .f64 c (some half64)) = true) (hLE : LEC (sinQ (fop .sub .f64 (some half64) (fop .sub .f64 c (some half64)))) 94) :
    Calls Try.prog 112 #[.float .f64 X] w fun e w' => ∃ r, e = .returned (.float .f64 r) ∧ (FV .f64 r (negC (sinQ (fop .sub .f64 (some half64) (fop .sub .f64 c (some half64))))) ∧ ovf r = false) ∧ ∃ n, w' = w.drewN n := by
  have u := Try.underlying25
  have u' := Try.underlying2
  have z0 : (FloatKind.f64.format.order 0 0 != some .eq) = false := by decide
  have hc : ∀ w, (convert 25 2 (.float .f64 X)).run Try.prog w = .ok (.int .i64 i) w := fun w => run_convert_float_int w 25 2 .f64 .i64 X i (by rw [u]; rfl) u' hn
  have h1 : ∀ w, (FloatKind.f64.format.order (fR .sub .f64 X I w) 0 == some .lt) = false := fun w => (o_eq _ (hv w) fv_zero64).trans hneg
  have h2 : ∀ w, (FloatKind.f64.format.order (fR .sub .f64 X I w) 4602678819172646912 == some .gt || FloatKind.f64.format.order (fR .sub .f64 X I w) 4602678819172646912 == some .eq) = true := fun w => by rw [o_eq _ (hv w) fv_half, o_eq _ (hv w) fv_half]; exact hlow
  have h3 : ∀ w w2, (FloatKind.f64.format.order (fR .sub .f64 (fR .sub .f64 X I w) 4602678819172646912 w2) 4598175219545276416 == some .gt) = true := fun w w2 => (o_eq _ (FV_fR (hv w) fv_half) fv_quarter).trans hqua
  have HL := Lib.hid hLE
  clear hLE hneg hlow hqua hn
  go_enter Try.func112, Try.ntmps112
  go_wp2_with (simp only [hc, hI])
  go_loopw [7, 8] (fun s i w' => ∃ k : Nat, k ≤ 8 ∧ i = .int .i64 (8 - (k : Int)) ∧ (∃ p, s = .float .f64 p ∧ FV .f64 p (polS (fop .mul .f64 (sinZ (fop .sub .f64 (some half64) (fop .sub .f64 c (some half64)))) (sinZ (fop .sub .f64 (some half64) (fop .sub .f64 c (some half64))))) k)) ∧ ∃ n, w' = w.drewN n) (fun _ i _ => (intOf i + 2).toNat)
  case atStart => exact ⟨0, by decide, rfl, ⟨_, rfl, fv_one⟩, _, rfl⟩
  case round =>
    obtain ⟨k, hk, rfl, ⟨p, rfl, hp⟩, m, rfl⟩ := hrel
    have hcase : k = 0 ∨ k = 1 ∨ k = 2 ∨ k = 3 ∨ k = 4 ∨ k = 5 ∨ k = 6 ∨ k = 7 ∨ k = 8 := by omega
    rcases hcase with rfl | rfl | rfl | rfl | rfl | rfl | rfl | rfl | rfl
    iterate 8
      · go_wp2
        go_roundw
        case rel => first | exact ⟨1, by decide, rfl, ⟨_, rfl, FV_fR fv_one (FV_fR (FV_fR (FV_fR (FV_fR (FV_fR fv_half (FV_fR (hv _) fv_half)) fv_turn) (FV_fR (FV_fR fv_half (FV_fR (hv _) fv_half)) fv_turn)) hp) (fv_int _))⟩, _, rfl⟩ | exact ⟨2, by decide, rfl, ⟨_, rfl, FV_fR fv_one (FV_fR (FV_fR (FV_fR (FV_fR (FV_fR fv_half (FV_fR (hv _) fv_half)) fv_turn) (FV_fR (FV_fR fv_half (FV_fR (hv _) fv_half)) fv_turn)) hp) (fv_int _))⟩, _, rfl⟩ | exact ⟨3, by decide, rfl, ⟨_, rfl, FV_fR fv_one (FV_fR (FV_fR (FV_fR (FV_fR (FV_fR fv_half (FV_fR (hv _) fv_half)) fv_turn) (FV_fR (FV_fR fv_half (FV_fR (hv _) fv_half)) fv_turn)) hp) (fv_int _))⟩, _, rfl⟩ | exact ⟨4, by decide, rfl, ⟨_, rfl, FV_fR fv_one (FV_fR (FV_fR (FV_fR (FV_fR (FV_fR fv_half (FV_fR (hv _) fv_half)) fv_turn) (FV_fR (FV_fR fv_half (FV_fR (hv _) fv_half)) fv_turn)) hp) (fv_int _))⟩, _, rfl⟩ | exact ⟨5, by decide, rfl, ⟨_, rfl, FV_fR fv_one (FV_fR (FV_fR (FV_fR (FV_fR (FV_fR fv_half (FV_fR (hv _) fv_half)) fv_turn) (FV_fR (FV_fR fv_half (FV_fR (hv _) fv_half)) fv_turn)) hp) (fv_int _))⟩, _, rfl⟩ | exact ⟨6, by decide, rfl, ⟨_, rfl, FV_fR fv_one (FV_fR (FV_fR (FV_fR (FV_fR (FV_fR fv_half (FV_fR (hv _) fv_half)) fv_turn) (FV_fR (FV_fR fv_half (FV_fR (hv _) fv_half)) fv_turn)) hp) (fv_int _))⟩, _, rfl⟩ | exact ⟨7, by decide, rfl, ⟨_, rfl, FV_fR fv_one (FV_fR (FV_fR (FV_fR (FV_fR (FV_fR fv_half (FV_fR (hv _) fv_half)) fv_turn) (FV_fR (FV_fR fv_half (FV_fR (hv _) fv_half)) fv_turn)) hp) (fv_int _))⟩, _, rfl⟩ | exact ⟨8, by decide, rfl, ⟨_, rfl, FV_fR fv_one (FV_fR (FV_fR (FV_fR (FV_fR (FV_fR fv_half (FV_fR (hv _) fv_half)) fv_turn) (FV_fR (FV_fR fv_half (FV_fR (hv _) fv_half)) fv_turn)) hp) (fv_int _))⟩, _, rfl⟩
        case measure => simp [intOf]
    · go_wp2
      go_ret
      exact ⟨_, rfl, sin_wideN (FV_fR (FV_fR (FV_fR fv_half (FV_fR (hv _) fv_half)) fv_turn) hp) HL.out, _, rfl⟩
theorem l01Sine_100 (X I : Nat) (i : Int) (c : Option Nat) (w : World) (hI : floatOfInt .f64 i = I) (hn : floatToIntVal .f64 X .i64 = some i) (hv : ∀ w, FV .f64 (fR .sub .f64 X I w) c) (sx : ∀ w, fR .sub .f64 X X w = 0)
    (b1 : (FloatKind.f64.format.order X 4841369599423283200 == some .gt || FloatKind.f64.format.order X 4841369599423283200 == some .eq) = false) (b2 : (FloatKind.f64.format.order X 14064741636278059008 == some .lt || FloatKind.f64.format.order X 14064741636278059008 == some .eq) = false)
    (hneg : negB c = true) (hlow : lowB (fop .add .f64 c (some one64)) = false) (hqua : quaB (fop .add .f64 c (some one64)) = false) (hLE : LEC (sinQ (fop .add .f64 c (some one64))) 94) :
    Calls Try.prog 112 #[.float .f64 X] w fun e w' => ∃ r, e = .returned (.float .f64 r) ∧ (FV .f64 r (sinQ (fop .add .f64 c (some one64))) ∧ ovf r = false) ∧ ∃ n, w' = w.drewN n := by
  have u := Try.underlying25
  have u' := Try.underlying2
  have z0 : (FloatKind.f64.format.order 0 0 != some .eq) = false := by decide
  have hc : ∀ w, (convert 25 2 (.float .f64 X)).run Try.prog w = .ok (.int .i64 i) w := fun w => run_convert_float_int w 25 2 .f64 .i64 X i (by rw [u]; rfl) u' hn
  have h1 : ∀ w, (FloatKind.f64.format.order (fR .sub .f64 X I w) 0 == some .lt) = true := fun w => (o_eq _ (hv w) fv_zero64).trans hneg
  have h2 : ∀ w w1, (FloatKind.f64.format.order (fR .add .f64 (fR .sub .f64 X I w) 4607182418800017408 w1) 4602678819172646912 == some .gt || FloatKind.f64.format.order (fR .add .f64 (fR .sub .f64 X I w) 4607182418800017408 w1) 4602678819172646912 == some .eq) = false := fun w w1 => by rw [o_eq _ (FV_fR (hv w) fv_one) fv_half, o_eq _ (FV_fR (hv w) fv_one) fv_half]; exact hlow
  have h3 : ∀ w w1, (FloatKind.f64.format.order (fR .add .f64 (fR .sub .f64 X I w) 4607182418800017408 w1) 4598175219545276416 == some .gt) = false := fun w w1 => (o_eq _ (FV_fR (hv w) fv_one) fv_quarter).trans hqua
  have HL := Lib.hid hLE
  clear hLE hneg hlow hqua hn
  go_enter Try.func112, Try.ntmps112
  go_wp2_with (simp only [hc, hI])
  go_loopw [7, 8] (fun s i w' => ∃ k : Nat, k ≤ 8 ∧ i = .int .i64 (8 - (k : Int)) ∧ (∃ p, s = .float .f64 p ∧ FV .f64 p (polS (fop .mul .f64 (sinZ (fop .add .f64 c (some one64))) (sinZ (fop .add .f64 c (some one64)))) k)) ∧ ∃ n, w' = w.drewN n) (fun _ i _ => (intOf i + 2).toNat)
  case atStart => exact ⟨0, by decide, rfl, ⟨_, rfl, fv_one⟩, _, rfl⟩
  case round =>
    obtain ⟨k, hk, rfl, ⟨p, rfl, hp⟩, m, rfl⟩ := hrel
    have hcase : k = 0 ∨ k = 1 ∨ k = 2 ∨ k = 3 ∨ k = 4 ∨ k = 5 ∨ k = 6 ∨ k = 7 ∨ k = 8 := by omega
    rcases hcase with rfl | rfl | rfl | rfl | rfl | rfl | rfl | rfl | rfl
    iterate 8
      · go_wp2
        go_roundw
        case rel => first | exact ⟨1, by decide, rfl, ⟨_, rfl, FV_fR fv_one (FV_fR (FV_fR (FV_fR (FV_fR (FV_fR (hv _) fv_one) fv_turn) (FV_fR (FV_fR (hv _) fv_one) fv_turn)) hp) (fv_int _))⟩, _, rfl⟩ | exact ⟨2, by decide, rfl, ⟨_, rfl, FV_fR fv_one (FV_fR (FV_fR (FV_fR (FV_fR (FV_fR (hv _) fv_one) fv_turn) (FV_fR (FV_fR (hv _) fv_one) fv_turn)) hp) (fv_int _))⟩, _, rfl⟩ | exact ⟨3, by decide, rfl, ⟨_, rfl, FV_fR fv_one (FV_fR (FV_fR (FV_fR (FV_fR (FV_fR (hv _) fv_one) fv_turn) (FV_fR (FV_fR (hv _) fv_one) fv_turn)) hp) (fv_int _))⟩, _, rfl⟩ | exact ⟨4, by decide, rfl, ⟨_, rfl, FV_fR fv_one (FV_fR (FV_fR (FV_fR (FV_fR (FV_fR (hv _) fv_one) fv_turn) (FV_fR (FV_fR (hv _) fv_one) fv_turn)) hp) (fv_int _))⟩, _, rfl⟩ | exact ⟨5, by decide, rfl, ⟨_, rfl, FV_fR fv_one (FV_fR (FV_fR (FV_fR (FV_fR (FV_fR (hv _) fv_one) fv_turn) (FV_fR (FV_fR (hv _) fv_one) fv_turn)) hp) (fv_int _))⟩, _, rfl⟩ | exact ⟨6, by decide, rfl, ⟨_, rfl, FV_fR fv_one (FV_fR (FV_fR (FV_fR (FV_fR (FV_fR (hv _) fv_one) fv_turn) (FV_fR (FV_fR (hv _) fv_one) fv_turn)) hp) (fv_int _))⟩, _, rfl⟩ | exact ⟨7, by decide, rfl, ⟨_, rfl, FV_fR fv_one (FV_fR (FV_fR (FV_fR (FV_fR (FV_fR (hv _) fv_one) fv_turn) (FV_fR (FV_fR (hv _) fv_one) fv_turn)) hp) (fv_int _))⟩, _, rfl⟩ | exact ⟨8, by decide, rfl, ⟨_, rfl, FV_fR fv_one (FV_fR (FV_fR (FV_fR (FV_fR (FV_fR (hv _) fv_one) fv_turn) (FV_fR (FV_fR (hv _) fv_one) fv_turn)) hp) (fv_int _))⟩, _, rfl⟩
        case measure => simp [intOf]
    · go_wp2
      go_ret
      exact ⟨_, rfl, sin_wide (FV_fR (FV_fR (FV_fR (hv _) fv_one) fv_turn) hp) HL.out, _, rfl⟩
theorem l01Sine_101 (X I : Nat) (i : Int) (c : Option Nat) (w : World) (hI : floatOfInt .f64 i = I) (hn : floatToIntVal .f64 X .i64 = some i) (hv : ∀ w, FV .f64 (fR .sub .f64 X I w) c) (sx : ∀ w, fR .sub .f64 X X w = 0)
    (b1 : (FloatKind.f64.format.order X 4841369599423283200 == some .gt || FloatKind.f64.format.order X 4841369599423283200 == some .eq) = false) (b2 : (FloatKind.f64.format.order X 14064741636278059008 == some .lt || FloatKind.f64.format.order X 14064741636278059008 == some .eq) = false)
    (hneg : negB c = true) (hlow : lowB (fop .add .f64 c (some one64)) = false) (hqua : quaB (fop .add .f64 c (some one64)) = true) (hLE : LEC (sinQ (fop .sub .f64 (some half64) (fop .add .f64 c (some one64)))) 94) :
    Calls Try.prog 112 #[.float .f64 X] w fun e w' => ∃ r, e = .returned (.float .f64 r) ∧ (FV .f64 r (sinQ (fop .sub .f64 (some half64) (fop .add .f64 c (some one64)))) ∧ ovf r = false) ∧ ∃ n, w' = w.drewN n := by
  have u := Try.underlying25
  have u' := Try.underlying2
  have z0 : (FloatKind.f64.format.order 0 0 != some .eq) = false := by decide
  have hc : ∀ w, (convert 25 2 (.float .f64 X)).run Try.prog w = .ok (.int .i64 i) w := fun w => run_convert_float_int w 25 2 .f64 .i64 X i (by rw [u]; rfl) u' hn
  have h1 : ∀ w, (FloatKind.f64.format.order (fR .sub .f64 X I w) 0 == some .lt) = true := fun w => (o_eq _ (hv w) fv_zero64).trans hneg
  have h2 : ∀ w w1, (FloatKind.f64.format.order (fR .add .f64 (fR .sub .f64 X I w) 4607182418800017408 w1) 4602678819172646912 == some .gt || FloatKind.f64.format.order (fR .add .f64 (fR .sub .f64 X I w) 4607182418800017408 w1) 4602678819172646912 == some .eq) = false := fun w w1 => by rw [o_eq _ (FV_fR (hv w) fv_one) fv_half, o_eq _ (FV_fR (hv w) fv_one) fv_half]; exact hlow
  have h3 : ∀ w w1, (FloatKind.f64.format.order (fR .add .f64 (fR .sub .f64 X I w) 4607182418800017408 w1) 4598175219545276416 == some .gt) = true := fun w w1 => (o_eq _ (FV_fR (hv w) fv_one) fv_quarter).trans hqua
  have HL := Lib.hid hLE
  clear hLE hneg hlow hqua hn
  go_enter Try.func112, Try.ntmps112
  go_wp2_with (simp only [hc, hI])
  go_loopw [7, 8] (fun s i w' => ∃ k : Nat, k ≤ 8 ∧ i = .int .i64 (8 - (k : Int)) ∧ (∃ p, s = .float .f64 p ∧ FV .f64 p (polS (fop .mul .f64 (sinZ (fop .sub .f64 (some half64) (fop .add .f64 c (some one64)))) (sinZ (fop .sub .f64 (some half64) (fop .add .f64 c (some one64))))) k)) ∧ ∃ n, w' = w.drewN n) (fun _ i _ => (intOf i + 2).toNat)
  case atStart => exact ⟨0, by decide, rfl, ⟨_, rfl, fv_one⟩, _, rfl⟩
  case round =>
    obtain ⟨k, hk, rfl, ⟨p, rfl, hp⟩, m, rfl⟩ := hrel
    have hcase : k = 0 ∨ k = 1 ∨ k = 2 ∨ k = 3 ∨ k = 4 ∨ k = 5 ∨ k = 6 ∨ k = 7 ∨ k = 8 := by omega
    rcases hcase with rfl | rfl | rfl | rfl | rfl | rfl | rfl | rfl | rfl
    iterate 8
      · go_wp2
        go_roundw
        case rel => first | exact ⟨1, by decide, rfl, ⟨_, rfl, FV_fR fv_one (FV_fR (FV_fR (FV_fR (FV_fR (FV_fR fv_half (FV_fR (hv _) fv_one)) fv_turn) (FV_fR (FV_fR fv_half (FV_fR (hv _) fv_one)) fv_turn)) hp) (fv_int _))⟩, _, rfl⟩ | exact ⟨2, by decide, rfl, ⟨_, rfl, FV_fR fv_one (FV_fR (FV_fR (FV_fR (FV_fR (FV_fR fv_half (FV_fR (hv _) fv_one)) fv_turn) (FV_fR (FV_fR fv_half (FV_fR (hv _) fv_one)) fv_turn)) hp) (fv_int _))⟩, _, rfl⟩ | exact ⟨3, by decide, rfl, ⟨_, rfl, FV_fR fv_one (FV_fR (FV_fR (FV_fR (FV_fR (FV_fR fv_half (FV_fR (hv _) fv_one)) fv_turn) (FV_fR (FV_fR fv_half (FV_fR (hv _) fv_one)) fv_turn)) hp) (fv_int _))⟩, _, rfl⟩ | exact ⟨4, by decide, rfl, ⟨_, rfl, FV_fR fv_one (FV_fR (FV_fR (FV_fR (FV_fR (FV_fR fv_half (FV_fR (hv _) fv_one)) fv_turn) (FV_fR (FV_fR fv_half (FV_fR (hv _) fv_one)) fv_turn)) hp) (fv_int _))⟩, _, rfl⟩ | exact ⟨5, by decide, rfl, ⟨_, rfl, FV_fR fv_one (FV_fR (FV_fR (FV_fR (FV_fR (FV_fR fv_half (FV_fR (hv _) fv_one)) fv_turn) (FV_fR (FV_fR fv_half (FV_fR (hv _) fv_one)) fv_turn)) hp) (fv_int _))⟩, _, rfl⟩ | exact ⟨6, by decide, rfl, ⟨_, rfl, FV_fR fv_one (FV_fR (FV_fR (FV_fR (FV_fR (FV_fR fv_half (FV_fR (hv _) fv_one)) fv_turn) (FV_fR (FV_fR fv_half (FV_fR (hv _) fv_one)) fv_turn)) hp) (fv_int _))⟩, _, rfl⟩ | exact ⟨7, by decide, rfl, ⟨_, rfl, FV_fR fv_one (FV_fR (FV_fR (FV_fR (FV_fR (FV_fR fv_half (FV_fR (hv _) fv_one)) fv_turn) (FV_fR (FV_fR fv_half (FV_fR (hv _) fv_one)) fv_turn)) hp) (fv_int _))⟩, _, rfl⟩ | exact ⟨8, by decide, rfl, ⟨_, rfl, FV_fR fv_one (FV_fR (FV_fR (FV_fR (FV_fR (FV_fR fv_half (FV_fR (hv _) fv_one)) fv_turn) (FV_fR (FV_fR fv_half (FV_fR (hv _) fv_one)) fv_turn)) hp) (fv_int _))⟩, _, rfl⟩
        case measure => simp [intOf]
    · go_wp2
      go_ret
      exact ⟨_, rfl, sin_wide (FV_fR (FV_fR (FV_fR fv_half (FV_fR (hv _) fv_one)) fv_turn) hp) HL.out, _, rfl⟩
theorem l01Sine_110 (X I : Nat) (i : Int) (c : Option Nat) (w : World) (hI : floatOfInt .f64 i = I) (hn : floatToIntVal .f64 X .i64 = some i) (hv : ∀ w, FV .f64 (fR .sub .f64 X I w) c) (sx : ∀ w, fR .sub .f64 X X w = 0)
    (b1 : (FloatKind.f64.format.order X 4841369599423283200 == some .gt || FloatKind.f64.format.order X 4841369599423283200 == some .eq) = false) (b2 : (FloatKind.f64.format.order X 14064741636278059008 == some .lt || FloatKind.f64.format.order X 14064741636278059008 == some .eq) = false)
    (hneg : negB c = true) (hlow : lowB (fop .add .f64 c (some one64)) = true) (hqua : quaB (fop .sub .f64 (fop .add .f64 c (some one64)) (some half64)) = false) (hLE : LEC (sinQ (fop .sub .f64 (fop .add .f64 c (some one64)) (some half64))) 94) :
    Calls Try.prog 112 #[.float .f64 X] w fun e w' => ∃ r, e = .returned (.float .f64 r) ∧ (FV .f64 r (negC (sinQ (fop .sub .f64 (fop .add .f64 c (some one64)) (some half64)))) ∧ ovf r = false) ∧ ∃ n, w' = w.drewN n := by
  have u := Try.underlying25
  have u' := Try.underlying2
  have z0 : (FloatKind.f64.format.order 0 0 != some .eq) = false := by decide
  have hc : ∀ w, (convert 25 2 (.float .f64 X)).run Try.prog w = .ok (.int .i64 i) w := fun w => run_convert_float_int w 25 2 .f64 .i64 X i (by rw [u]; rfl) u' hn
  have h1 : ∀ w, (FloatKind.f64.format.order (fR .sub .f64 X I w) 0 == some .lt) = true := fun w => (o_eq _ (hv w) fv_zero64).trans hneg
  have h2 : ∀ w w1, (FloatKind.f64.format.order (fR .add .f64 (fR .sub .f64 X I w) 4607182418800017408 w1) 4602678819172646912 == some .gt || FloatKind.f64.format.order (fR .add .f64 (fR .sub .f64 X I w) 4607182418800017408 w1) 4602678819172646912 == some .eq) = true := fun w w1 => by rw [o_eq _ (FV_fR (hv w) fv_one) fv_half, o_eq _ (FV_fR (hv w) fv_one) fv_half]; exact hlow
  have h3 : ∀ w w1 w2, (FloatKind.f64.format.order (fR .sub .f64 (fR .add .f64 (fR .sub .f64 X I w) 4607182418800017408 w1) 4602678819172646912 w2) 4598175219545276416 == some .gt) = false := fun w w1 w2 => (o_eq _ (FV_fR (FV_fR (hv w) fv_one) fv_half) fv_quarter).trans hqua
  have HL := Lib.hid hLE
  clear hLE hneg hlow hqua hn
  go_enter Try.func112, Try.ntmps112
  go_wp2_with (simp only [hc, hI])
  go_loopw [7, 8] (fun s i w' => ∃ k : Nat, k ≤ 8 ∧ i = .int .i64 (8 - (k : Int)) ∧ (∃ p, s = .float .f64 p ∧ FV .f64 p (polS (fop .mul .f64 (sinZ (fop .sub .f64 (fop .add .f64 c (some one64)) (some half64))) (sinZ (fop .sub .f64 (fop .add .f64 c (some one64)) (some half64)))) k)) ∧ ∃ n, w' = w.drewN n) (fun _ i _ => (intOf i + 2).toNat)
  case atStart => exact ⟨0, by decide, rfl, ⟨_, rfl, fv_one⟩, _, rfl⟩
  case round =>
    obtain ⟨k, hk, rfl, ⟨p, rfl, hp⟩, m, rfl⟩ := hrel
    have hcase : k = 0 ∨ k = 1 ∨ k = 2 ∨ k = 3 ∨ k = 4 ∨ k = 5 ∨ k = 6 ∨ k = 7 ∨ k = 8 := by omega
    rcases hcase with rfl | rfl | rfl | rfl | rfl | rfl | rfl | rfl | rfl
    iterate 8
      · go_wp2
        go_roundw
        case rel => first | exact ⟨1, by decide, rfl, ⟨_, rfl, FV_fR fv_one (FV_fR (FV_fR (FV_fR (FV_fR (FV_fR (FV_fR (hv _) fv_one) fv_half) fv_turn) (FV_fR (FV_fR (FV_fR (hv _) fv_one) fv_half) fv_turn)) hp) (fv_int _))⟩, _, rfl⟩ | exact ⟨2, by decide, rfl, ⟨_, rfl, FV_fR fv_one (FV_fR (FV_fR (FV_fR (FV_fR (FV_fR (FV_fR (hv _) fv_one) fv_half) fv_turn) (FV_fR (FV_fR (FV_fR (hv _) fv_one) fv_half) fv_turn)) hp) (fv_int _))⟩, _, rfl⟩ | exact ⟨3, by decide, rfl, ⟨_, rfl, FV_fR fv_one (FV_fR (FV_fR (FV_fR (FV_fR (FV_fR (FV_fR (hv _) fv_one) fv_half) fv_turn) (FV_fR (FV_fR (FV_fR (hv _) fv_one) fv_half) fv_turn)) hp) (fv_int _))⟩, _, rfl⟩ | exact ⟨4, by decide, rfl, ⟨_, rfl, FV_fR fv_one (FV_fR (FV_fR (FV_fR (FV_fR (FV_fR (FV_fR (hv _) fv_one) fv_half) fv_turn) (FV_fR (FV_fR (FV_fR (hv _) fv_one) fv_half) fv_turn)) hp) (fv_int _))⟩, _, rfl⟩ | exact ⟨5, by decide, rfl, ⟨_, rfl, FV_fR fv_one (FV_fR (FV_fR (FV_fR (FV_fR (FV_fR (FV_fR (hv _) fv_one) fv_half) fv_turn) (FV_fR (FV_fR (FV_fR (hv _) fv_one) fv_half) fv_turn)) hp) (fv_int _))⟩, _, rfl⟩ | exact ⟨6, by decide, rfl, ⟨_, rfl, FV_fR fv_one (FV_fR (FV_fR (FV_fR (FV_fR (FV_fR (FV_fR (hv _) fv_one) fv_half) fv_turn) (FV_fR (FV_fR (FV_fR (hv _) fv_one) fv_half) fv_turn)) hp) (fv_int _))⟩, _, rfl⟩ | exact ⟨7, by decide, rfl, ⟨_, rfl, FV_fR fv_one (FV_fR (FV_fR (FV_fR (FV_fR (FV_fR (FV_fR (hv _) fv_one) fv_half) fv_turn) (FV_fR (FV_fR (FV_fR (hv _) fv_one) fv_half) fv_turn)) hp) (fv_int _))⟩, _, rfl⟩ | exact ⟨8, by decide, rfl, ⟨_, rfl, FV_fR fv_one (FV_fR (FV_fR (FV_fR (FV_fR (FV_fR (FV_fR (hv _) fv_one) fv_half) fv_turn) (FV_fR (FV_fR (FV_fR (hv _) fv_one) fv_half) fv_turn)) hp) (fv_int _))⟩, _, rfl⟩
        case measure => simp [intOf]
    · go_wp2
      go_ret
      exact ⟨_, rfl, sin_wideN (FV_fR (FV_fR (FV_fR (FV_fR (hv _) fv_one) fv_half) fv_turn) hp) HL.out, _, rfl⟩
theorem l01Sine_111 (X I : Nat) (i : Int) (c : Option Nat) (w : World) (hI : floatOfInt .f64 i = I) (hn : floatToIntVal .f64 X .i64 = some i) (hv : ∀ w, FV .f64 (fR .sub .f64 X I w) c) (sx : ∀ w, fR .sub .f64 X X w = 0)
    (b1 : (FloatKind.f64.format.order X 4841369599423283200 == some .gt || FloatKind.f64.format.order X 4841369599423283200 == some .eq) = false) (b2 : (FloatKind.f64.format.order X 14064741636278059008 == some .lt || FloatKind.f64.format.order X 14064741636278059008 == some .eq) = false)
    (hneg : negB c = true) (hlow : lowB (fop .add .f64 c (some one64)) = true) (hqua : quaB (fop .sub .f64 (fop .add .f64 c (some one64)) (some half64)) = true) (hLE : LEC (sinQ (fop .sub .f64 (some half64) (fop .sub .f64 (fop .add .f64 c (some one64)) (some half64)))) 94) :
    Calls Try.prog 112 #[.float .f64 X] w fun e w' => ∃ r, e = .returned (.float .f64 r) ∧ (FV .f64 r (negC (sinQ (fop .sub .f64 (some half64) (fop .sub .f64 (fop .add .f64 c (some one64)) (some half64))))) ∧ ovf r = false) ∧ ∃ n, w' = w.drewN n := by
  have u := Try.underlying25
  have u' := Try.underlying2
  have z0 : (FloatKind.f64.format.order 0 0 != some .eq) = false := by decide
  have hc : ∀ w, (convert 25 2 (.float .f64 X)).run Try.prog w = .ok (.int .i64 i) w := fun w => run_convert_float_int w 25 2 .f64 .i64 X i (by rw [u]; rfl) u' hn
  have h1 : ∀ w, (FloatKind.f64.format.order (fR .sub .f64 X I w) 0 == some .lt) = true := fun w => (o_eq _ (hv w) fv_zero64).trans hneg
  have h2 : ∀ w w1, (FloatKind.f64.format.order (fR .add .f64 (fR .sub .f64 X I w) 4607182418800017408 w1) 4602678819172646912 == some .gt || FloatKind.f64.format.order (fR .add .f64 (fR .sub .f64 X I w) 4607182418800017408 w1) 4602678819172646912 == some .eq) = true := fun w w1 => by rw [o_eq _ (FV_fR (hv w) fv_one) fv_half, o_eq _ (FV_fR (hv w) fv_one) fv_half]; exact hlow
  have h3 : ∀ w w1 w2, (FloatKind.f64.format.order (fR .sub .f64 (fR .add .f64 (fR .sub .f64 X I w) 4607182418800017408 w1) 4602678819172646912 w2) 4598175219545276416 == some .gt) = true := fun w w1 w2 => (o_eq _ (FV_fR (FV_fR (hv w) fv_one) fv_half) fv_quarter).trans hqua
  have HL := Lib.hid hLE
  clear hLE hneg hlow hqua hn
  go_enter Try.func112, Try.ntmps112
  go_wp2_with (simp only [hc, hI])
  go_loopw [7, 8] (fun s i w' => ∃ k : Nat, k ≤ 8 ∧ i = .int .i64 (8 - (k : Int)) ∧ (∃ p, s = .float .f64 p ∧ FV .f64 p (polS (fop .mul .f64 (sinZ (fop .sub .f64 (some half64) (fop .sub .f64 (fop .add .f64 c (some one64)) (some half64)))) (sinZ (fop .sub .f64 (some half64) (fop .sub .f64 (fop .add .f64 c (some one64)) (some half64))))) k)) ∧ ∃ n, w' = w.drewN n) (fun _ i _ => (intOf i + 2).toNat)
  case atStart => exact ⟨0, by decide, rfl, ⟨_, rfl, fv_one⟩, _, rfl⟩
  case round =>
    obtain ⟨k, hk, rfl, ⟨p, rfl, hp⟩, m, rfl⟩ := hrel
    have hcase : k = 0 ∨ k = 1 ∨ k = 2 ∨ k = 3 ∨ k = 4 ∨ k = 5 ∨ k = 6 ∨ k = 7 ∨ k = 8 := by omega
    rcases hcase with rfl | rfl | rfl | rfl | rfl | rfl | rfl | rfl | rfl
    iterate 8
      · go_wp2
        go_roundw
        case rel => first | exact ⟨1, by decide, rfl, ⟨_, rfl, FV_fR fv_one (FV_fR (FV_fR (FV_fR (FV_fR (FV_fR fv_half (FV_fR (FV_fR (hv _) fv_one) fv_half)) fv_turn) (FV_fR (FV_fR fv_half (FV_fR (FV_fR (hv _) fv_one) fv_half)) fv_turn)) hp) (fv_int _))⟩, _, rfl⟩ | exact ⟨2, by decide, rfl, ⟨_, rfl, FV_fR fv_one (FV_fR (FV_fR (FV_fR (FV_fR (FV_fR fv_half (FV_fR (FV_fR (hv _) fv_one) fv_half)) fv_turn) (FV_fR (FV_fR fv_half (FV_fR (FV_fR (hv _) fv_one) fv_half)) fv_turn)) hp) (fv_int _))⟩, _, rfl⟩ | exact ⟨3, by decide, rfl, ⟨_, rfl, FV_fR fv_one (FV_fR (FV_fR (FV_fR (FV_fR (FV_fR fv_half (FV_fR (FV_fR (hv _) fv_one) fv_half)) fv_turn) (FV_fR (FV_fR fv_half (FV_fR (FV_fR (hv _) fv_one) fv_half)) fv_turn)) hp) (fv_int _))⟩, _, rfl⟩ | exact ⟨4, by decide, rfl, ⟨_, rfl, FV_fR fv_one (FV_fR (FV_fR (FV_fR (FV_fR (FV_fR fv_half (FV_fR (FV_fR (hv _) fv_one) fv_half)) fv_turn) (FV_fR (FV_fR fv_half (FV_fR (FV_fR (hv _) fv_one) fv_half)) fv_turn)) hp) (fv_int _))⟩, _, rfl⟩ | exact ⟨5, by decide, rfl, ⟨_, rfl, FV_fR fv_one (FV_fR (FV_fR (FV_fR (FV_fR (FV_fR fv_half (FV_fR (FV_fR (hv _) fv_one) fv_half)) fv_turn) (FV_fR (FV_fR fv_half (FV_fR (FV_fR (hv _) fv_one) fv_half)) fv_turn)) hp) (fv_int _))⟩, _, rfl⟩ | exact ⟨6, by decide, rfl, ⟨_, rfl, FV_fR fv_one (FV_fR (FV_fR (FV_fR (FV_fR (FV_fR fv_half (FV_fR (FV_fR (hv _) fv_one) fv_half)) fv_turn) (FV_fR (FV_fR fv_half (FV_fR (FV_fR (hv _) fv_one) fv_half)) fv_turn)) hp) (fv_int _))⟩, _, rfl⟩ | exact ⟨7, by decide, rfl, ⟨_, rfl, FV_fR fv_one (FV_fR (FV_fR (FV_fR (FV_fR (FV_fR fv_half (FV_fR (FV_fR (hv _) fv_one) fv_half)) fv_turn) (FV_fR (FV_fR fv_half (FV_fR (FV_fR (hv _) fv_one) fv_half)) fv_turn)) hp) (fv_int _))⟩, _, rfl⟩ | exact ⟨8, by decide, rfl, ⟨_, rfl, FV_fR fv_one (FV_fR (FV_fR (FV_fR (FV_fR (FV_fR fv_half (FV_fR (FV_fR (hv _) fv_one) fv_half)) fv_turn) (FV_fR (FV_fR fv_half (FV_fR (FV_fR (hv _) fv_one) fv_half)) fv_turn)) hp) (fv_int _))⟩, _, rfl⟩
        case measure => simp [intOf]
    · go_wp2
      go_ret
      exact ⟨_, rfl, sin_wideN (FV_fR (FV_fR (FV_fR fv_half (FV_fR (FV_fR (hv _) fv_one) fv_half)) fv_turn) hp) HL.out, _, rfl⟩
end Go.Proofs.Ytejgenjafajpnaa

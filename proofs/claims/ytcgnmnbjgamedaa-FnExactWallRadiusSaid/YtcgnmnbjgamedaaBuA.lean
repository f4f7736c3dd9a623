
/-
The radius of a bubble: the program, its model and the law. Conditions: none beyond that the word fits.
-/
import Derived.Test.YtcgnmnbjgamedaaExW
import Derived.Test.YtcgnmnbjgamedaaLgQ
import Derived.Test.YtcgnmnbjgamedaaNn
import Derived.Test.YtcgnmnbjgamedaaFmA
namespace Go.Proofs.Ytcgnmnbjgamedaa
open Go Fk Go.RowKit
set_option linter.unusedVariables false
set_option maxRecDepth 8000

def expT (x : Nat) : Option Nat := if x = 2139095040 then some 2139095040 else if x = 4286578688 then some 0 else (expC (wid x)).map nar
def ExpOk (x : Nat) : Prop := x = 2139095040 ∨ x = 4286578688 ∨ QLE .f32 x 1 6
theorem qle_fin {x n : Nat} {e : Int} (h : QLE .f32 x n e) : ¬ x = 2139095040 ∧ ¬ x = 4286578688 := by
  obtain ⟨s, m, p, h1, _⟩ := h
  constructor
  · rintro rfl
    rw [show FloatKind.f32.decode 2139095040 = .infinity false by decide] at h1
    cases h1
  · rintro rfl
    rw [show FloatKind.f32.decode 4286578688 = .infinity true by decide] at h1
    cases h1
theorem math_InfP (w : World) : Calls Try.prog 140 #[.int .i64 1] w fun e w' => e = .returned (.float .f64 9218868437227405312) ∧ w' = w := by
  go_enter Try.func140, Try.ntmps140
  go_wp2
  go_ret
  exact ⟨rfl, rfl⟩
theorem impl_infinityP (w : World) : Calls Try.prog 118 #[.int .i64 1] w fun e w' => ∃ r, e = .returned (.float .f32 r) ∧ FV .f32 r ((some 9218868437227405312).map nar) ∧ ∃ n, w' = w.drewN n := by
  go_enter Try.func118, Try.ntmps118
  go_wp2_with (first
    | (go_at_call 140; refine (math_InfP _).mono ?_; rintro e w' ⟨rfl, rfl⟩)
    | (go_at_call 120; refine (impl_Narrow _ _).mono ?_; rintro e w' ⟨rfl, n, rfl⟩))
  go_ret
  exact ⟨_, rfl, FV_nR fv_pinf (by decide), _, rfl⟩
theorem impl_Exp (x : Nat) (w : World) (hx : x < 4294967296) (ho : ExpOk x) :
    Calls Try.prog 83 #[.float .f32 x] w fun e w' => ∃ r, e = .returned (.float .f32 r) ∧ FV .f32 r (expT x) ∧ ∃ n, w' = w.drewN n := by
  have u := Try.underlying26
  have u' := Try.underlying22
  unfold expT
  rcases ho with rfl | rfl | ho
  · have g1 : (FloatKind.f32.format.order 2139095040 1128792064 == some .gt) = true := by decide
    rw [if_pos rfl]
    go_enter Try.func83, Try.ntmps83
    go_wp2_with (go_at_call 118; refine (impl_infinityP _).mono ?_; rintro e w' ⟨g, rfl, hg, n, rfl⟩)
    go_ret
    exact ⟨_, rfl, hg, _, rfl⟩
  · have g1 : (FloatKind.f32.format.order 4286578688 1128792064 == some .gt) = false := by decide
    have g2 : (FloatKind.f32.format.order 4286578688 3276275712 == some .lt) = true := by decide
    rw [if_neg (by decide), if_pos rfl]
    go_enter Try.func83, Try.ntmps83
    go_wp2
    go_ret
    exact ⟨0, rfl, Fk.FV.zero, 0, rfl⟩
  · obtain ⟨h1, h2⟩ := qle_fin ho
    rw [if_neg h1, if_neg h2]
    exact impl_ExpNumber x w hx ho
theorem l01ExpWide_pinf (w : World) :
    Calls Try.prog 116 #[.float .f64 9218868437227405312] w fun e w' => e = .returned (.float .f64 9218868437227405312) ∧ w' = w := by
  have u := Try.underlying26
  have g0 : (FloatKind.f64.format.order 9218868437227405312 9218868437227405312 != some .eq) = false := by decide
  have g1 : (FloatKind.f64.format.order 9218868437227405312 4641240890982006784 == some .gt) = true := by decide
  go_enter Try.func116, Try.ntmps116
  go_wp2_with (go_at_call 140; refine (math_InfP _).mono ?_; rintro e w' ⟨rfl, hw⟩; rw [hw]; clear hw)
  go_ret
  exact ⟨rfl, by first | rfl | trivial⟩
theorem l01ExpWide_ninf (w : World) :
    Calls Try.prog 116 #[.float .f64 18442240474082181120] w fun e w' => e = .returned (.float .f64 0) ∧ w' = w := by
  have u := Try.underlying26
  have g0 : (FloatKind.f64.format.order 18442240474082181120 18442240474082181120 != some .eq) = false := by decide
  have g1 : (FloatKind.f64.format.order 18442240474082181120 4641240890982006784 == some .gt) = false := by decide
  have g2 : (FloatKind.f64.format.order 18442240474082181120 13864612927836782592 == some .lt) = true := by decide
  go_enter Try.func116, Try.ntmps116
  go_wp2
  go_ret
  exact ⟨rfl, by first | rfl | trivial⟩
theorem l01ExpT (x : Nat) (w : World) (hx : x < 4294967296) (ho : ExpOk x) :
    Calls Try.prog 81 #[.float .f32 x] w fun e w' => ∃ r, e = .returned (.float .f32 r) ∧ FV .f32 r (expT x) ∧ ∃ n, w' = w.drewN n := by
  have u := Try.underlying26
  have u' := Try.underlying22
  unfold expT
  rcases ho with rfl | rfl | ho
  · have wx : ∀ w, wR 2139095040 w = 9218868437227405312 := fun w => (wR_num w (by decide)).trans (by decide)
    rw [if_pos rfl]
    go_enter Try.func81, Try.ntmps81
    go_wp2_with (first
      | (go_at_call 116; refine (l01ExpWide_pinf _).mono ?_; rintro e w' ⟨rfl, hw⟩; rw [hw]; clear hw)
      | (go_at_call 115; refine (spec_Narrow _ _).mono ?_; rintro e w' ⟨rfl, n, hw⟩; rw [hw]; clear hw))
    go_ret
    exact ⟨_, rfl, FV_nR fv_pinf (by decide), _, rfl⟩
  · have wx : ∀ w, wR 4286578688 w = 18442240474082181120 := fun w => (wR_num w (by decide)).trans (by decide)
    rw [if_neg (by decide), if_pos rfl]
    go_enter Try.func81, Try.ntmps81
    go_wp2_with (first
      | (go_at_call 116; refine (l01ExpWide_ninf _).mono ?_; rintro e w' ⟨rfl, hw⟩; rw [hw]; clear hw)
      | (go_at_call 115; refine (spec_Narrow _ _).mono ?_; rintro e w' ⟨rfl, n, hw⟩; rw [hw]; clear hw))
    go_ret
    exact ⟨_, rfl, FV_nR fv_zero64 (by decide), _, rfl⟩
  · obtain ⟨h1, h2⟩ := qle_fin ho
    rw [if_neg h1, if_neg h2]
    exact l01Exp x w hx ho
def three32 : Option Nat := cls .f32 1077936128
theorem fv_three : FV .f32 1077936128 three32 := ⟨by decide, rfl⟩
def fourPi : Option Nat := cls .f32 1095307227
theorem fv_fourPi : FV .f32 1095307227 fourPi := ⟨by decide, rfl⟩
theorem three_num : three32 = some 1077936128 := by decide
theorem fourPi_num : fourPi = some 1095307227 := by decide
theorem lb_three : LBk .f32 (some 1077936128) 1 := ⟨1077936128, false, 12582912, -22, rfl, by decide, by decide, by decide⟩
/-- The volume's part. -/
def volQ (c : Option Nat) : Option Nat := fop .quo .f32 (fop .mul .f32 three32 c) fourPi
theorem fin_word {x : Nat} (h : x < 2147483648) (hn : (FloatKind.f32.decode x).isNaN = false) : x ≤ 2139095040 := by
  have hn' : nan32 x = false := hn
  rw [nan32_iff] at hn'
  have := of_decide_eq_false hn'
  omega
theorem pos_dec {x : Nat} (h : x ≤ 2139095040) : (∃ m p, FloatKind.f32.decode x = .number false m p) ∨ FloatKind.f32.decode x = .infinity false := by
  have e1 : FloatKind.f32.format.binade = 8388608 := by decide
  have e2 : FloatKind.f32.format.infRung = 2139095040 := by decide
  have e5 : FloatKind.f32.format.signWeight = 2147483648 := by decide
  have hd : FloatKind.f32.decode x = FloatKind.f32.format.read x := rfl
  rw [hd]
  unfold Ieee.Format.read
  dsimp only
  rw [e1, e2, e5, Nat.mod_eq_of_lt (by omega), Nat.div_eq_of_lt (by omega)]
  by_cases h1 : x < 8388608
  · rw [if_pos h1]; exact .inl ⟨_, _, rfl⟩
  · rw [if_neg h1]
    by_cases h2 : x < 2139095040
    · rw [if_pos h2]; exact .inl ⟨_, _, rfl⟩
    · rw [if_neg h2, if_pos (by omega)]; exact .inr rfl
theorem vol_word {v : Nat} (hv : v ≤ 2139095040) (hf : finB v = true) : ∃ Q, volQ (some v) = some Q ∧ Q ≤ 2139095040 := by
  have sw : FloatKind.f32.format.signWeight = 2147483648 := by decide
  have step : ∀ d : Ieee.Datum, d.isNaN = false → d.neg = false → FloatKind.f32.format.write d ≤ 2139095040 := fun d h1 h2 =>
    fin_word (by have := write_pos .f32 d h1 h2; rw [sw] at this; exact this) (isNaN_write .f32 d h1)
  have d3 : FloatKind.f32.decode 1077936128 = .number false 12582912 (-22) := by decide
  have dk : FloatKind.f32.decode 1095307227 = .number false 13176795 (-20) := by decide
  obtain ⟨X, hX, hX2⟩ : ∃ X, fop .mul .f32 (some 1077936128) (some v) = some X ∧ X ≤ 2139095040 := by
    have e : fop .mul .f32 (some 1077936128) (some v) = ((FloatKind.f32.decode 1077936128).product (FloatKind.f32.decode v)).map FloatKind.f32.format.write := rfl
    rw [e, d3]
    rcases pos_dec hv with ⟨m, p, hd⟩ | hd
    · rw [hd]; exact ⟨_, rfl, step _ rfl rfl⟩
    · rw [hd]; exact ⟨_, rfl, step _ rfl rfl⟩
  unfold volQ
  rw [three_num, fourPi_num, hX]
  have e : fop .quo .f32 (some X) (some 1095307227) = ((FloatKind.f32.decode X).quotient (FloatKind.f32.format.fractionBits + 2) (FloatKind.f32.decode 1095307227)).map FloatKind.f32.format.write := rfl
  rw [e, dk]
  rcases pos_dec hX2 with ⟨m, p, hd⟩ | hd
  · rw [hd]
    refine ⟨_, rfl, step _ rfl rfl⟩
  · rw [hd]; exact ⟨_, rfl, step _ rfl rfl⟩
theorem log_third {Q : Nat} (hQ : Q ≤ 2139095040) : ∃ x, fop .quo .f32 (logT Q) three32 = some x ∧ ExpOk x := by
  rw [three_num]
  have hn : nan32 Q = false := by rw [nan32_iff]; exact decide_eq_false (by omega)
  have h1 : lt0 Q = false := by
    unfold lt0
    by_cases h0 : Q = 0
    · subst h0; decide
    · rw [ord0_gt (by omega) hn ⟨by omega, by omega⟩]; rfl
  by_cases h0 : Q = 0
  · subst h0
    exact ⟨4286578688, by decide, .inr (.inl rfl)⟩
  · have h2 : eq0 Q = false := by
      unfold eq0
      rw [ord0_gt (by omega) hn ⟨by omega, by omega⟩]; rfl
    by_cases h3 : Q = 2139095040
    · subst h3
      exact ⟨2139095040, by decide, .inl rfl⟩
    · have e : logT Q = (logC (upw 160 (down 140 (wid Q, 0)))).map nar := by
        unfold logT
        rw [if_neg (by rw [hn, h1]; decide), if_neg (by rw [h2]; decide), if_neg h3]
      obtain ⟨hN, hP, _⟩ := pos_word (by omega) hn h1 h2 h3
      obtain ⟨k1, k2, k3, k4, hNL⟩ := near_ok (wid_lt Q) hN hP
      have h4 := QLC_nar (q_logC k1 k2 hNL k3 k4) (by decide) (ok32 (by decide) (by decide))
      rw [e]
      obtain ⟨x, hx, hq⟩ := QLC_quo h4 lb_three (by rw [bin32]; decide) (ok32 (by decide) (by decide))
      exact ⟨x, hx, .inr (.inr (hq.mono (by decide)))⟩
def thirdC (c : Option Nat) : Option Nat := (volQ c).bind fun Q => fop .quo .f32 (logT Q) three32
def bubR (c : Option Nat) : Option Nat := bif sizeC c then (thirdC c).bind expT else some 0
/-- What a volume leads to. -/
theorem bub_parts {x : Nat} {c : Option Nat} (hx : FV .f32 x c) (hs : sizeC c = true) : ∃ Q y, volQ c = some Q ∧ Q ≤ 2139095040 ∧ fop .quo .f32 (logT Q) three32 = some y ∧ ExpOk y ∧ bubR c = expT y := by
  cases c with
  | none => cases hs
  | some v =>
    have hv : v ≤ 2139095040 ∧ finB v = true := by
      have h1 : sizeB v = true := hs
      unfold sizeB at h1
      simp only [Bool.and_eq_true] at h1
      have hlt : v < 4294967296 := hx.num ▸ hx.1
      have hf := h1.1
      unfold finB at hf
      have hf2 := of_decide_eq_true hf
      have hn : nan32 v = false := by rw [nan32_iff]; exact decide_eq_false (by omega)
      refine ⟨?_, h1.1⟩
      rcases Nat.lt_or_ge v 2147483648 with h | h
      · omega
      · exfalso
        have h2 := h1.2
        by_cases h0 : v = 2147483648
        · subst h0; exact absurd h2 (by decide)
        · rw [ord0_lt hlt hn (by omega)] at h2
          cases h2
    obtain ⟨Q, h1, h2⟩ := vol_word hv.1 hv.2
    obtain ⟨y, h3, h4⟩ := log_third h2
    refine ⟨Q, y, h1, h2, h3, h4, ?_⟩
    unfold bubR thirdC
    rw [hs, h1]
    show (fop .quo .f32 (logT Q) three32).bind expT = expT y
    rw [h3]; rfl
theorem impl_BubbleRadius (x : Nat) (c : Option Nat) (w : World) (hx : FV .f32 x c) :
    Calls Try.prog 40 #[.float .f32 x] w fun e w' => ∃ r, e = .returned (.tuple #[.float .f32 r, .bool (sizeC c)]) ∧ FV .f32 r (bubR c) ∧ ∃ n, w' = w.drewN n := by
  have u := Try.underlying22
  have HJ := Lib.hid (fun w => impl_isMeasure x w hx.1)
  rw [hx.size] at HJ
  cases hs : sizeC c
  · have hb : bubR c = some 0 := by unfold bubR; rw [hs]; rfl
    rw [hs] at HJ
    rw [hb]
    clear hs hb
    go_enter Try.func40, Try.ntmps40
    go_wp2_with (go_at_call 49; refine (HJ.out _).mono ?_; rintro e w1 ⟨rfl, n, hw⟩; rw [hw]; clear hw w1)
    go_ret2
    exact ⟨_, rfl, Fk.FV.zero, _, rfl⟩
  · obtain ⟨Q, y, h1, h2, h3, h4, h5⟩ := bub_parts hx hs
    rw [hs] at HJ
    rw [h5]
    have HV := Lib.hid h1
    have H3 := Lib.hid h3
    have H4 := Lib.hid h4
    have HX := Lib.hid hx
    clear hs h1 h3 h4 h5 hx
    go_enter Try.func40, Try.ntmps40
    go_wp2_with (go_at_call 49; refine (HJ.out _).mono ?_; rintro e w1 ⟨rfl, n, hw⟩; rw [hw]; clear hw w1)
    refine (impl_product32 _ _ _ _ _ fv_three HX.out).mono ?_
    rintro e w1 ⟨s, rfl, hs, n, hw⟩
    rw [hw]
    clear hw w1
    have FQ : ∀ w, fR .quo .f32 s 1095307227 w = Q := fun w => (HV.out ▸ (FV_fR (op := .quo) (w := w) hs fv_fourPi : FV .f32 _ (volQ c)) : FV .f32 _ (some Q)).num
    clear hs
    go_wp2_with fail
    refine (impl_LogNumber Q _ (by omega)).mono ?_
    rintro e w1 ⟨l, rfl, hl, n2, hw⟩
    rw [hw]
    clear hw w1
    have FY : ∀ w, fR .quo .f32 l 1077936128 w = y := fun w => (H3.out ▸ (FV_fR (op := .quo) (w := w) hl fv_three) : FV .f32 _ (some y)).num
    have hy : y < 4294967296 := (FY default) ▸ (FV_fR (op := .quo) (w := default) hl fv_three).1
    clear hl
    go_wp2_with fail
    refine (impl_Exp y _ hy H4.out).mono ?_
    rintro e w1 ⟨r, rfl, hr, n3, hw⟩
    rw [hw]
    clear hw w1
    have HR := Lib.hid hr
    clear hr
    go_wp2
    go_ret2
    exact ⟨_, rfl, HR.out, _, rfl⟩
end Go.Proofs.Ytcgnmnbjgamedaa

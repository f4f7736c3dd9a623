
/-
Logarithms: the walks of the program and its model, and that the law returns true. Conditions: none beyond that the words fit.
-/
import Derived.Test.YtcgnmnbjgamedaaLog
namespace Go.Proofs.Ytcgnmnbjgamedaa
open Go Fk Go.RowKit
set_option linter.unusedVariables false
set_option maxRecDepth 8000

theorem ord0n {x : Nat} (hx : x < 4294967296) (hn : nan32 x = false) : FloatKind.f64.format.order (wid x) 0 = FloatKind.f32.format.order x 0 := by
  rcases wid_cases hx hn with ⟨h1, h2⟩ | ⟨h1, _⟩
  · by_cases h : x < 2147483648
    · rw [if_pos h] at h2
      rw [h2, show x = 2139095040 by omega]; decide
    · rw [if_neg h] at h2
      rw [h2, show x = 4286578688 by omega]; decide
  · exact ord0 hx (by unfold finB; exact decide_eq_true h1)
theorem math_InfN (w : World) : Calls Try.prog 140 #[.int .i64 (-1)] w fun e w' => e = .returned (.float .f64 18442240474082181120) ∧ w' = w := by
  go_enter Try.func140, Try.ntmps140
  go_wp2
  go_ret
  exact ⟨rfl, rfl⟩
theorem fv_ninf : FV .f64 18442240474082181120 (some 18442240474082181120) := ⟨by decide, by decide⟩
theorem fv_pinf : FV .f64 9218868437227405312 (some 9218868437227405312) := ⟨by decide, by decide⟩
theorem impl_infinityN (w : World) : Calls Try.prog 118 #[.int .i64 (-1)] w fun e w' => ∃ r, e = .returned (.float .f32 r) ∧ FV .f32 r ((some 18442240474082181120).map nar) ∧ ∃ n, w' = w.drewN n := by
  go_enter Try.func118, Try.ntmps118
  go_wp2_with (first
    | (go_at_call 140; refine (math_InfN _).mono ?_; rintro e w' ⟨rfl, rfl⟩)
    | (go_at_call 120; refine (impl_Narrow _ _).mono ?_; rintro e w' ⟨rfl, n, rfl⟩))
  go_ret
  exact ⟨_, rfl, FV_nR fv_ninf (by decide), _, rfl⟩
/-- The four kinds of argument. -/
def logT (x : Nat) : Option Nat :=
  if nan32 x || lt0 x then none else if eq0 x then (some 18442240474082181120).map nar else if x = 2139095040 then (some 9218868437227405312).map nar else (logC (upw 160 (down 140 (wid x, 0)))).map nar
theorem pos_word {x : Nat} (hx : x < 4294967296) (hn : nan32 x = false) (h1 : lt0 x = false) (h2 : eq0 x = false) (h3 : ¬ x = 2139095040) : NLE (wid x) 128 ∧ PB .f64 (wid x) (-149) ∧ ¬ wid x = 9218868437227405312 := by
  have e3 : 2 ^ FloatKind.f32.format.width = 4294967296 := by decide
  unfold lt0 at h1
  unfold eq0 at h2
  rw [order_key (by rw [e3]; exact hx) (by rw [e3]; decide) hn (by decide)] at h1 h2
  have k2 : key .f32 x = if x < 2147483648 then (x : Int) else 2147483648 - x := by
    unfold key; rw [show FloatKind.f32.format.signWeight = 2147483648 by decide]; rfl
  rw [k2, show key .f32 0 = 0 by decide] at h1 h2
  have hpos : x < 2147483648 ∧ 0 < x := by
    by_cases h : x < 2147483648
    · refine ⟨h, ?_⟩
      by_cases h0 : x = 0
      · subst h0; exact absurd h2 (by decide)
      · omega
    · exfalso
      rw [if_neg h] at h1 h2
      by_cases h0 : x = 2147483648
      · subst h0; exact absurd h2 (by decide)
      · rw [Int.compare_eq_lt.2 (by omega)] at h1; exact absurd h1 (by decide)
  have hf : finB x = true := by
    unfold finB
    rw [nan32_iff] at hn
    have := of_decide_eq_false hn
    exact decide_eq_true (by omega)
  rcases wid_abs hx hf with ⟨h0, _⟩ | ⟨_, r, hr1, hr2, hw⟩
  · omega
  · rw [if_pos hpos.1, Nat.zero_add] at hw
    rw [hw]
    have ha : AbsW r := .inr ⟨hr1, hr2⟩
    obtain ⟨m, hd, m1, m2⟩ := ha.dec (by omega)
    refine ⟨⟨m, _, hd, by omega, ?_⟩, ⟨m, _, hd, by omega, ?_⟩, by omega⟩
    · exact Nat.le_trans (Nat.le_of_lt m2) (Nat.le_trans (show 9007199254740992 ≤ 2 ^ 53 from by decide) (Nat.pow_le_pow_right (by decide) (by omega)))
    · rw [log2_52 m1 m2]; omega
theorem log_end {y : Nat} {c : Option Nat} {w : World} (hv : FV .f64 y c) (h : LEC c 69) : FV .f32 (nR y w) (c.map nar) := FV_nR hv (LEC_ovf hv h (by decide))
theorem log_fin {y : Nat} {c : Option Nat} (hv : FV .f64 y c) (h : LEC c 69) : FV .f64 y c ∧ ovf y = false := ⟨hv, LEC_ovf hv h (by decide)⟩
theorem impl_LogNumber_main (x : Nat) (w : World) (hx : x < 4294967296) (hn : nan32 x = false) (h1 : lt0 x = false) (h2 : eq0 x = false) (h3 : ¬ x = 2139095040) :
    Calls Try.prog 84 #[.float .f32 x] w fun e w' => ∃ r, e = .returned (.float .f32 r) ∧ FV .f32 r ((logC (upw 160 (down 140 (wid x, 0)))).map nar) ∧ ∃ n, w' = w.drewN n := by
  have u := Try.underlying26
  have u' := Try.underlying22
  have wx : ∀ w, wR x w = wid x := fun w => wR_num w hn
  have lx : wid x < 18446744073709551616 := wid_lt x
  obtain ⟨hN, hP, hI⟩ := pos_word hx hn h1 h2 h3
  generalize wid x = X at *
  generalize hS : upw 160 (down 140 (X, 0)) = S at *
  have HS := Lib.hid hS
  clear hS h3
  go_enter Try.func84, Try.ntmps84
  go_wp2_with (first
    | (go_at_call 98; refine (impl_isNaN _ _).mono ?_; rintro e w' ⟨rfl, n, rfl⟩)
    | (go_at_call 99; refine (math_IsInf1 _ _ lx).mono ?_; rintro e w' ⟨rfl, rfl⟩)
    | (go_at_call 122; refine (impl_nearOne _ _ lx hN hP).mono ?_; rintro e w' ⟨⟨s, rfl, hs, l1, l2, l3, l4⟩, n, rfl⟩; rw [HS.out] at hs; subst hs; have hLE := Lib.hid (LEC_log l2 l3 l4); have fy := l2.fv l1; clear l2 l3 l4)
    | (go_at_call 119; refine (impl_product64 _ _ _ _ _ (FV_fR (FV_fR fy fv_one) (FV_fR fy fv_one)) (FV_fR (FV_fR fy fv_one) (FV_fR fy fv_one))).mono ?_; rintro e w' ⟨uu, rfl, huu, n5, rfl⟩))
  go_loopw [7, 8] (fun q i w' => ∃ k : Nat, k ≤ 13 ∧ i = .int .i64 (25 - 2 * (k : Int)) ∧ (∃ p, q = .float .f64 p ∧ FV .f64 p (polL (fop .mul .f64 (ratioL s.1) (ratioL s.1)) k)) ∧ ∃ n, w' = w.drewN n) (fun _ i _ => (intOf i + 2).toNat)
  case atStart => exact ⟨0, by decide, rfl, ⟨0, rfl, fv_zero64⟩, _, rfl⟩
  case round =>
    obtain ⟨k, hk, rfl, ⟨p, rfl, hp⟩, m, rfl⟩ := hrel
    by_cases hlt : k < 13
    · have hge : (1 : Int) ≤ 25 - 2 * (k : Int) := by omega
      go_wp2_with (go_at_call 119; refine (impl_product64 _ _ _ _ _ huu hp).mono ?_; rintro e w' ⟨r1, rfl, hr1, n1, rfl⟩)
      go_roundw
      case rel => exact ⟨k + 1, by omega, by rw [show (25 : Int) - 2 * ((k + 1 : Nat) : Int) = 25 - 2 * (k : Int) - 2 by omega], ⟨_, rfl, FV_fR (FV_fR fv_one (fv_int _)) hr1⟩, _, rfl⟩
      case measure => simp [intOf]; omega
    · obtain rfl : k = 13 := by omega
      go_wp2_with fail
      refine (impl_product64 _ _ _ _ _ (FV_fR (FV_fR fy fv_one) (FV_fR fy fv_one)) hp).mono ?_
      rintro e w' ⟨r1, rfl, hr1, n1, rfl⟩
      go_wp2_with fail
      refine (impl_product64 _ _ _ _ _ fv_two hr1).mono ?_
      rintro e w' ⟨r2, rfl, hr2, n2, rfl⟩
      go_wp2_with fail
      refine (impl_product64 _ _ _ _ _ (fv_int s.2) fv_ln).mono ?_
      rintro e w' ⟨r3, rfl, hr3, n3, rfl⟩
      go_wp2_with fail
      refine (impl_Narrow _ _).mono ?_
      rintro e w' ⟨rfl, n4, rfl⟩
      go_wp2
      go_ret
      exact ⟨_, rfl, log_end (c := logC s) (FV_fR hr2 hr3) hLE.out, _, rfl⟩
theorem l01LogWide_main (X : Nat) (w : World) (lx : X < 18446744073709551616) (hN : NLE X 128) (hP : PB .f64 X (-149)) (hI : ¬ X = 9218868437227405312) (e1 : (FloatKind.f64.format.order X X != some .eq) = false) (e2 : (FloatKind.f64.format.order X 0 == some .lt) = false) (e3 : (FloatKind.f64.format.order X 0 == some .eq) = false) :
    Calls Try.prog 117 #[.float .f64 X] w fun e w' => ∃ r, e = .returned (.float .f64 r) ∧ (FV .f64 r (logC (upw 160 (down 140 (X, 0)))) ∧ ovf r = false) ∧ ∃ n, w' = w.drewN n := by
  have u := Try.underlying26
  generalize hS : upw 160 (down 140 (X, 0)) = S
  have HS := Lib.hid hS
  clear hS
  go_enter Try.func117, Try.ntmps117
  go_wp2_with (first
    | (go_at_call 99; refine (math_IsInf1 _ _ lx).mono ?_; rintro e w1 ⟨rfl, hw1⟩; rw [hw1]; clear hw1))
  go_loopg [0, 3] 140 (fun k x v w' => k ≤ 140 ∧ (∃ y, x = .float .f64 y ∧ v = .int .i64 (140 - (k : Int)) ∧ y < 18446744073709551616 ∧ NLE y ((k : Int) - 12) ∧ PB .f64 y (-149) ∧ Aside (down k (y, 140 - (k : Int)) = down 140 (X, 0))) ∧ ∃ n, w' = w.drewN n)
  case atStart => exact ⟨by decide, ⟨X, rfl, rfl, lx, hN, hP, rfl⟩, 0, rfl⟩
  case round =>
    obtain ⟨hk, ⟨y, rfl, rfl, hy, hN, hP, hD⟩, n, rfl⟩ := hrel
    have hw := hN.word hy
    cases hg : geB y
    · have hgo : (FloatKind.f64.format.order y 4609434218613702656 == some .gt || FloatKind.f64.format.order y 4609434218613702656 == some .eq) = false := hg
      have hN1 := NLE_of_lt15 hw hg
      have hD' : Aside ((y, 140 - (gk : Int)) = down 140 (X, 0)) := by rw [← hD.out, down_stop hg]; exact rfl
      clear hD hN hg
      go_wp2
      go_loopg [0, 3] 160 (fun k x v w' => k ≤ 160 ∧ (∃ y' : Nat, ∃ e : Int, x = .float .f64 y' ∧ v = .int .i64 e ∧ y' < 18446744073709551616 ∧ NLE y' 1 ∧ PB .f64 y' (11 - (k : Int)) ∧ e = 140 - (gk : Int) - (160 - (k : Int)) ∧ Aside (upw k (y', e) = upw 160 (down 140 (X, 0)))) ∧ ∃ n, w' = w.drewN n)
      case atStart => exact ⟨by decide, ⟨y, _, rfl, rfl, hy, hN1, PB_mono hP (by decide), by omega, by rw [← hD'.out]; exact rfl⟩, _, rfl⟩
      case round =>
        rename_i gk'
        obtain ⟨hk', ⟨y', e, rfl, rfl, hy', hN', hP', he, hU⟩, m, rfl⟩ := hrel
        have hw' := hN'.word hy'
        cases hl : ltB y'
        · have hlo : (FloatKind.f64.format.order y' 4604930618986332160 == some .lt) = false := hl
          have hres : Aside ((y', e) = upw 160 (down 140 (X, 0))) := by rw [← hU.out, upw_stop hl]; exact rfl
          clear hU hl
          have b1 : -200 ≤ e := by omega
          have b2 : e ≤ 200 := by omega
          clear he
          have hLE := Lib.hid (LEC_log (s := (y', e)) hN' b1 b2)
          have fy := hN'.fv hy'
          have hSS : Aside (S = (y', e)) := by show S = (y', e); rw [hres.out]; exact HS.out.symm
          clear hres
          go_wp2
          go_loopw [6, 7] (fun q i w' => ∃ k : Nat, k ≤ 13 ∧ i = .int .i64 (25 - 2 * (k : Int)) ∧ (∃ p, q = .float .f64 p ∧ FV .f64 p (polL (fop .mul .f64 (ratioL y') (ratioL y')) k)) ∧ ∃ n, w' = w.drewN n) (fun _ i _ => (intOf i + 2).toNat)
          case atStart => exact ⟨0, by decide, rfl, ⟨0, rfl, fv_zero64⟩, _, rfl⟩
          case round =>
            obtain ⟨k, hk, rfl, ⟨p, rfl, hp⟩, m, rfl⟩ := hrel
            by_cases hlt : k < 13
            · have hge : (1 : Int) ≤ 25 - 2 * (k : Int) := by omega
              go_wp2
              go_roundw
              case rel => exact ⟨k + 1, by omega, by rw [show (25 : Int) - 2 * ((k + 1 : Nat) : Int) = 25 - 2 * (k : Int) - 2 by omega], ⟨_, rfl, FV_fR (FV_fR fv_one (fv_int _)) (FV_fR (FV_fR (FV_fR (FV_fR fy fv_one) (FV_fR fy fv_one)) (FV_fR (FV_fR fy fv_one) (FV_fR fy fv_one))) hp)⟩, _, rfl⟩
              case measure => simp [intOf]; omega
            · obtain rfl : k = 13 := by omega
              go_wp2
              go_ret
              refine ⟨_, rfl, ?_, _, rfl⟩
              rw [hSS.out]
              exact log_fin (c := logC (y', e)) (FV_fR (FV_fR fv_two (FV_fR (FV_fR (FV_fR fy fv_one) (FV_fR fy fv_one)) hp)) (FV_fR (fv_int e) fv_ln)) hLE.out
        · have hlo : (FloatKind.f64.format.order y' 4604930618986332160 == some .lt) = true := hl
          obtain ⟨k', rfl, y2, hq, hy2, hN2, hP2, hU2⟩ := double_next hy' hN' hP' hk' hl
          have hU3 : Aside (upw k' (y2, e - 1) = upw 160 (down 140 (X, 0))) := by rw [← hU2 e]; exact hU
          have he3 : Aside (e - 1 = 140 - (gk : Int) - (160 - (k' : Int))) := by show e - 1 = 140 - (gk : Int) - (160 - (k' : Int)); omega
          have b1 : -200 ≤ e := by omega
          have b2 : e ≤ 200 := by omega
          clear hU hU2 hl he
          go_wp2
          go_roundg k'
          case measure => omega
          case rel => exact ⟨by omega, ⟨y2, e - 1, rfl, by go_num, hy2, hN2, hP2, he3.out, hU3⟩, _, rfl⟩
    · have hgo : (FloatKind.f64.format.order y 4609434218613702656 == some .gt || FloatKind.f64.format.order y 4609434218613702656 == some .eq) = true := hg
      obtain ⟨k', rfl, y2, hq, hy2, hN2, hP2, hD2⟩ := half_next hy hk hN hg
      have he3 : (140 : Int) - ((k' + 1 : Nat) : Int) + 1 = 140 - (k' : Int) := by omega
      have hD3 : Aside (down k' (y2, 140 - (k' : Int)) = down 140 (X, 0)) := by rw [← he3, ← hD2]; exact hD
      clear hD hD2 hg he3
      go_wp2
      go_roundg k'
      case measure => omega
      case rel => exact ⟨by omega, ⟨y2, rfl, by go_num, hy2, hN2, hP2, hD3⟩, _, rfl⟩
end Go.Proofs.Ytcgnmnbjgamedaa

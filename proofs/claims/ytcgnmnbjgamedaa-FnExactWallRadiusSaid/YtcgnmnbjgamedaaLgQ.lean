
/-
The logarithm's size. Conditions: none.
-/
import Derived.Test.YtcgnmnbjgamedaaExB
import Derived.Test.YtcgnmnbjgamedaaLog
namespace Go.Proofs.Ytcgnmnbjgamedaa
namespace Fk
open Go
set_option linter.unusedVariables false

theorem qle_of_lt15 {x : Nat} (h : x < 4609434218613702656) : QLE .f64 x 3 (-1) := by
  have hd := dec_pos (x := x) (by omega)
  split at hd
  · refine ⟨_, _, _, hd, ?_⟩
    rw [Qr_iff (c := -1074) (by omega) (by omega), show ((-1074 : Int) - -1074).toNat = 0 by omega, Nat.pow_zero, Nat.mul_one]
    generalize hN : ((-1 : Int) - -1074).toNat = N
    exact Nat.le_trans (show x ≤ 3 * 2 ^ 52 by omega) (Nat.mul_le_mul_left _ (Nat.pow_le_pow_right (by decide) (by omega)))
  · refine ⟨_, _, _, hd, ?_⟩
    obtain ⟨q, hq⟩ : ∃ q : Nat, x / 4503599627370496 = q := ⟨_, rfl⟩
    rw [hq]
    by_cases hc : q = 1023
    · subst hc
      have hm : 4503599627370496 + x % 4503599627370496 ≤ 3 * 2251799813685248 := by omega
      rw [Qr_iff (c := -52) (by omega) (by omega), show ((-1074 : Int) + ((1023 - 1 : Nat) : Int) - -52).toNat = 0 by omega, Nat.pow_zero, Nat.mul_one, show ((-1 : Int) - -52).toNat = 51 by omega]
      exact hm
    · have hm : 4503599627370496 + x % 4503599627370496 ≤ 3 * 2 ^ 52 := by omega
      rw [Qr_iff (c := -1074 + ((q - 1 : Nat) : Int)) (by omega) (by omega), show ((-1074 : Int) + ((q - 1 : Nat) : Int) - (-1074 + ((q - 1 : Nat) : Int))).toNat = 0 by omega, Nat.pow_zero, Nat.mul_one]
      exact Nat.le_trans hm (Nat.mul_le_mul_left _ (Nat.pow_le_pow_right (by decide) (by omega)))
theorem qle_of_lt75 {x : Nat} (h : x < 4604930618986332160) : QLE .f64 x 3 (-2) := by
  have hd := dec_pos (x := x) (by omega)
  split at hd
  · refine ⟨_, _, _, hd, ?_⟩
    rw [Qr_iff (c := -1074) (by omega) (by omega), show ((-1074 : Int) - -1074).toNat = 0 by omega, Nat.pow_zero, Nat.mul_one]
    generalize hN : ((-2 : Int) - -1074).toNat = N
    exact Nat.le_trans (show x ≤ 3 * 2 ^ 52 by omega) (Nat.mul_le_mul_left _ (Nat.pow_le_pow_right (by decide) (by omega)))
  · refine ⟨_, _, _, hd, ?_⟩
    obtain ⟨q, hq⟩ : ∃ q : Nat, x / 4503599627370496 = q := ⟨_, rfl⟩
    rw [hq]
    by_cases hc : q = 1022
    · subst hc
      have hm : 4503599627370496 + x % 4503599627370496 ≤ 3 * 2251799813685248 := by omega
      rw [Qr_iff (c := -53) (by omega) (by omega), show ((-1074 : Int) + ((1022 - 1 : Nat) : Int) - -53).toNat = 0 by omega, Nat.pow_zero, Nat.mul_one, show ((-2 : Int) - -53).toNat = 51 by omega]
      exact hm
    · have hm : 4503599627370496 + x % 4503599627370496 ≤ 3 * 2 ^ 52 := by omega
      rw [Qr_iff (c := -1074 + ((q - 1 : Nat) : Int)) (by omega) (by omega), show ((-1074 : Int) + ((q - 1 : Nat) : Int) - (-1074 + ((q - 1 : Nat) : Int))).toNat = 0 by omega, Nat.pow_zero, Nat.mul_one]
      exact Nat.le_trans hm (Nat.mul_le_mul_left _ (Nat.pow_le_pow_right (by decide) (by omega)))
theorem word_of_qle {x : Nat} (hx : x < 9218868437227405312) (h : QLE .f64 x 3 (-1)) : x ≤ 4609434218613702656 := by
  rcases Nat.lt_or_ge 4609434218613702656 x with hg | hg
  · exfalso
    obtain ⟨s, m, p, h1, h2⟩ := h
    have hd := dec_pos (x := x) hx
    rw [if_neg (by omega)] at hd
    rw [hd] at h1
    simp only [Ieee.Datum.number.injEq] at h1
    obtain ⟨_, rfl, rfl⟩ := h1
    obtain ⟨q, hq⟩ : ∃ q : Nat, x / 4503599627370496 = q := ⟨_, rfl⟩
    rw [hq] at h2
    by_cases hc : q = 1023
    · subst hc
      rw [Qr_iff (c := -52) (by omega) (by omega), show ((-1074 : Int) + ((1023 - 1 : Nat) : Int) - -52).toNat = 0 by omega, Nat.pow_zero, Nat.mul_one, show ((-1 : Int) - -52).toNat = 51 by omega] at h2
      have h3 : 4503599627370496 + x % 4503599627370496 ≤ 3 * 2251799813685248 := h2
      omega
    · rw [Qr_iff (c := -51) (by omega) (by omega), show ((-1 : Int) - -51).toNat = 50 by omega] at h2
      have h3 : 1 ≤ 2 ^ (-1074 + ((q - 1 : Nat) : Int) - -51).toNat := Nat.one_le_two_pow
      have h4 := Nat.le_trans (Nat.mul_le_mul_left (4503599627370496 + x % 4503599627370496) h3) h2
      have h5 : (4503599627370496 + x % 4503599627370496) * 1 ≤ 3 * 1125899906842624 := h4
      omega
  · exact hg
theorem two_q : QLC .f64 (some two64) 1 1 := ⟨two64, rfl, false, 4503599627370496, -51, by decide, by decide⟩
theorem down_ok : ∀ (k y : Nat) (e : Int), k ≤ 140 → y < 18446744073709551616 → NLE y ((k : Int) - 12) → PB .f64 y (-149) →
    geB (down k (y, e)).1 = false ∧ (down k (y, e)).1 < 18446744073709551616 ∧ NLE (down k (y, e)).1 1 ∧ PB .f64 (down k (y, e)).1 (-149) ∧ e ≤ (down k (y, e)).2 ∧ (down k (y, e)).2 ≤ e + k
  | k, y, e, hk, hy, hN, hP => by
    have hw := hN.word hy
    cases hg : geB y
    · rw [down_stop hg]
      exact ⟨hg, hy, NLE_of_lt15 hw hg, hP, by omega, by show e ≤ e + k; omega⟩
    · obtain ⟨k', rfl, y', _, h1, h2, h3, h4⟩ := half_next hy hk hN hg
      rw [h4]
      obtain ⟨a1, a2, a3, a4, a5, a6⟩ := down_ok k' y' (e + 1) (by omega) h1 h2 h3
      exact ⟨a1, a2, a3, a4, by omega, by omega⟩
  termination_by k => k
theorem double_next' {y : Nat} {k : Nat} (hy : y < 18446744073709551616) (hN : NLE y 1) (hP : PB .f64 y (11 - (k : Int))) (hk : k ≤ 160) (hg : ltB y = true) :
    ∃ k', k = k' + 1 ∧ ∃ y', fop .mul .f64 (some y) (some two64) = some y' ∧ y' < 18446744073709551616 ∧ NLE y' 1 ∧ PB .f64 y' (11 - (k' : Int)) ∧ ∀ e, upw k (y, e) = upw k' (y', e - 1) := by
  have hw := hN.word hy
  by_cases h0 : k = 0
  · exfalso
    have := not_lt hw (PB_mono hP (by omega))
    rw [hg] at this; cases this
  · obtain ⟨k', rfl⟩ : ∃ k', k = k' + 1 := ⟨k - 1, by omega⟩
    have hN0 := NLE_of_lt75 hw hg
    obtain ⟨y', hy', hN'⟩ := NLE_double hN0 (by decide) (by decide)
    refine ⟨k', rfl, y', hy', word_fop hy' (hN.fv hy) fv_two, hN', PB_mono (PB_double hP hN0 (by omega) y' hy') (by omega), fun e => ?_⟩
    rw [upw, if_pos hg, hy']; rfl
theorem upw_ok : ∀ (k y : Nat) (e : Int), k ≤ 160 → y < 18446744073709551616 → NLE y 1 → PB .f64 y (11 - (k : Int)) → QLE .f64 y 3 (-1) →
    ltB (upw k (y, e)).1 = false ∧ (upw k (y, e)).1 < 9218868437227405312 ∧ NLE (upw k (y, e)).1 1 ∧ QLE .f64 (upw k (y, e)).1 3 (-1) ∧ e - k ≤ (upw k (y, e)).2 ∧ (upw k (y, e)).2 ≤ e
  | k, y, e, hk, hy, hN, hP, hQ => by
    have hw := hN.word hy
    cases hg : ltB y
    · rw [upw_stop hg]
      exact ⟨hg, hw, hN, hQ, by show e - k ≤ e; omega, by omega⟩
    · obtain ⟨k', rfl, y', h0, h1, h2, h3, h4⟩ := double_next' hy hN hP hk hg
      have hl : y < 4604930618986332160 := by
        have := ltB_eq hw
        rw [hg] at this
        exact of_decide_eq_true this.symm
      obtain ⟨z, hz, hqz⟩ := QLC_mul ⟨y, rfl, qle_of_lt75 hl⟩ two_q (by rw [bin64]; decide) (ok64 (by decide) (by decide))
      obtain rfl : z = y' := Option.some.inj (hz.symm.trans h0)
      rw [h4]
      obtain ⟨a1, a2, a3, a4, a5, a6⟩ := upw_ok k' z (e - 1) (by omega) h1 h2 h3 hqz
      exact ⟨a1, a2, a3, a4, by omega, by omega⟩
  termination_by k => k
/-- What the logarithm ends with. -/
theorem near_ok {X : Nat} (hX : X < 18446744073709551616) (h : NLE X 128) (hp : PB .f64 X (-149)) :
    4604930618986332160 ≤ (upw 160 (down 140 (X, 0))).1 ∧ (upw 160 (down 140 (X, 0))).1 ≤ 4609434218613702656 ∧ -160 ≤ (upw 160 (down 140 (X, 0))).2 ∧ (upw 160 (down 140 (X, 0))).2 ≤ 140 ∧ NLE (upw 160 (down 140 (X, 0))).1 1 := by
  obtain ⟨a1, a2, a3, a4, a5, a6⟩ := down_ok 140 X 0 (by decide) hX (h.mono (by decide)) hp
  generalize down 140 (X, 0) = s at *
  obtain ⟨y, e⟩ := s
  have hlt : y < 4609434218613702656 := by
    have hw := a3.word a2
    have := geB_eq hw
    rw [a1] at this
    have := of_decide_eq_false this.symm
    omega
  obtain ⟨b1, b2, b3, b4, b5, b6⟩ := upw_ok 160 y e (by decide) a2 a3 (PB_mono a4 (by decide)) (qle_of_lt15 hlt)
  generalize upw 160 (y, e) = s at *
  have hl := ltB_eq b2
  rw [b1] at hl
  have := of_decide_eq_false hl.symm
  exact ⟨by omega, word_of_qle b2 b4, by show -160 ≤ s.2; have : (y, e).2 = e := rfl; omega, by show s.2 ≤ 140; have : (y, e).2 = e := rfl; omega, b3⟩
/-- The difference from one. -/
theorem sub_one {y : Nat} (h1 : 4604930618986332160 ≤ y) (h2 : y ≤ 4609434218613702656) : QLC .f64 (fop .sub .f64 (some y) (some one64)) 1 (-1) := by
  have hd := dec_pos (x := y) (by omega)
  rw [if_neg (by omega)] at hd
  have ho : (FloatKind.f64.decode one64).opposite = .number true 4503599627370496 (-52) := by decide
  show ∃ x, ((FloatKind.f64.decode y).sum (FloatKind.f64.decode one64).opposite).map FloatKind.f64.format.write = some x ∧ _
  rw [hd, ho]
  refine ⟨_, rfl, ?_⟩
  refine QLE_write .f64 _ _ _ 1 (-1) ?_ (by rw [bin64]; decide) (ok64 (by decide) (by decide))
  obtain ⟨q, hq⟩ : ∃ q : Nat, y / 4503599627370496 = q := ⟨_, rfl⟩
  have hqc : q = 1022 ∨ q = 1023 := by omega
  rw [hq]
  have sg : ∀ (a b : Nat), Ieee.signed false a b = ((a * 2 ^ b : Nat) : Int) := fun a b => by show ((a <<< b : Nat) : Int) = _; rw [Nat.shiftLeft_eq]
  have sg' : ∀ (a b : Nat), Ieee.signed true a b = -((a * 2 ^ b : Nat) : Int) := fun a b => by show -((a <<< b : Nat) : Int) = _; rw [Nat.shiftLeft_eq]
  rw [sg, sg']
  rcases hqc with rfl | rfl
  · have e1 : (-1074 + ((1022 - 1 : Nat) : Int)) = -53 := by decide
    rw [e1, show min (-53 : Int) (-52) = -53 by decide, show ((-53 : Int) - -53).toNat = 0 by decide, show ((-52 : Int) - -53).toNat = 1 by decide, Nat.pow_zero, Nat.mul_one]
    rw [Qr_iff (c := -53) (by decide) (by decide), show ((-53 : Int) - -53).toNat = 0 by decide, show ((-1 : Int) - -53).toNat = 52 by decide]
    have : (4503599627370496 + y % 4503599627370496 : Nat) ≤ 9007199254740992 := by omega
    have h3 : ((((4503599627370496 + y % 4503599627370496 : Nat) : Int) + -((4503599627370496 * 2 ^ 1 : Nat) : Int)).natAbs) ≤ 4503599627370496 := by omega
    rw [Nat.pow_zero, Nat.mul_one]
    exact Nat.le_trans h3 (by decide)
  · have e1 : (-1074 + ((1023 - 1 : Nat) : Int)) = -52 := by decide
    rw [e1, show min (-52 : Int) (-52) = -52 by decide, show ((-52 : Int) - -52).toNat = 0 by decide, Nat.pow_zero, Nat.mul_one, Nat.mul_one]
    rw [Qr_iff (c := -52) (by decide) (by decide), show ((-52 : Int) - -52).toNat = 0 by decide, show ((-1 : Int) - -52).toNat = 51 by decide]
    have h3 : ((((4503599627370496 + y % 4503599627370496 : Nat) : Int) + -((4503599627370496 : Nat) : Int)).natAbs) ≤ 2251799813685248 := by omega
    rw [Nat.pow_zero, Nat.mul_one]
    exact Nat.le_trans h3 (by decide)
def lbOkL : Bool := (List.range 13).all fun j => match FloatKind.f64.decode (floatOfInt .f64 (25 - 2 * (j : Int))) with | .number _ m p => m != 0 && decide (0 ≤ p + m.log2) | _ => false
theorem lbOkL_true : lbOkL = true := by decide +kernel
theorem lb_intL {j : Nat} (hj : j < 13) : LBk .f64 (some (floatOfInt .f64 (25 - 2 * (j : Int)))) 0 := by
  have h := List.all_eq_true.1 lbOkL_true j (List.mem_range.2 hj)
  generalize floatOfInt .f64 (25 - 2 * (j : Int)) = x at *
  cases hd : FloatKind.f64.decode x with
  | number s m p =>
    rw [hd] at h
    simp only [Bool.and_eq_true, bne_iff_ne, decide_eq_true_eq] at h
    exact ⟨x, s, m, p, rfl, hd, h.1, h.2⟩
  | infinity s => rw [hd] at h; cases h
  | nan s f => rw [hd] at h; cases h
theorem q_polL {u : Option Nat} (hu : QLC .f64 u 1 (-2)) : ∀ j : Nat, j ≤ 13 → QLC .f64 (polL u j) 3 (-1)
  | 0, _ => ⟨0, rfl, false, 0, -1074, by decide, Qr.zero⟩
  | j + 1, h => by
    have h1 := QLC_quo q_one (lb_intL (show j < 13 by omega)) (by rw [bin64]; decide) (ok64 (by decide) (by decide))
    have h2 := QLC_mul hu (q_polL hu j (by omega)) (by rw [bin64]; decide) (ok64 (by decide) (by decide))
    exact (QLC_add (h1.mono (n' := 8) (e' := -3) (by decide)) h2 (by rw [bin64]; decide) (ok64 (by decide) (by decide))).mono (by decide)
theorem q_int {n : Int} (h : n.natAbs ≤ 160) : QLC .f64 (some (floatOfInt .f64 n)) 160 0 := by
  refine ⟨_, rfl, ?_⟩
  unfold floatOfInt FloatKind.nearest
  refine QLE_write .f64 _ _ 0 160 0 ?_ (by rw [bin64]; decide) (ok64 (by decide) (by decide))
  rw [Qr_iff (c := 0) (by decide) (by decide)]
  show n.natAbs * 1 ≤ 160 * 1
  omega
theorem q_logC {s : Nat × Int} (h1 : 4604930618986332160 ≤ s.1) (h2 : s.1 ≤ 4609434218613702656) (hN : NLE s.1 1) (h3 : -160 ≤ s.2) (h4 : s.2 ≤ 140) : QLC .f64 (logC s) 115 0 := by
  have hb : LBC (fop .add .f64 (some s.1) (some one64)) 0 := by
    rw [fop_add_comm]
    obtain ⟨m, p, k1, k2, k3⟩ := hN
    have hn : NB .f64 s.1 2 := ⟨m, p, k1, fun h0 => lg_of h0 (by omega) (by
      rw [show (2 - p).toNat = (1 - p).toNat + 1 by omega, Nat.pow_succ]
      have := Nat.two_pow_pos (1 - p).toNat
      omega)⟩
    obtain ⟨r, hr, pr, _⟩ := PB_sum one_PB (E := 2) (one_LE.mb.mono (by decide)) hn (by decide) (by decide) (by decide)
    rw [hr]; exact pr.lbc
  have hs : QLC .f64 (ratioL s.1) 1 (-1) := QLC_quo (sub_one h1 h2) hb.lbk (by rw [bin64]; decide) (ok64 (by decide) (by decide))
  have hu := QLC_mul hs hs (by rw [bin64]; decide) (ok64 (by decide) (by decide))
  have hq := q_polL hu 13 (by decide)
  have h5 := QLC_mul hs hq (by rw [bin64]; decide) (ok64 (by decide) (by decide))
  have h6 := QLC_mul two_q h5 (by rw [bin64]; decide) (ok64 (by decide) (by decide))
  have hl : QLC .f64 (some ln64) 45 (-6) := ⟨ln64, rfl, false, _, _, rfl, by decide⟩
  have h7 := QLC_mul (q_int (n := s.2) (by omega)) hl (by rw [bin64]; decide) (ok64 (by decide) (by decide))
  exact (QLC_add (h6.mono (n' := 96) (e' := -6) (by decide)) h7 (by rw [bin64]; decide) (ok64 (by decide) (by decide))).mono (by decide)
end Fk
end Go.Proofs.Ytcgnmnbjgamedaa

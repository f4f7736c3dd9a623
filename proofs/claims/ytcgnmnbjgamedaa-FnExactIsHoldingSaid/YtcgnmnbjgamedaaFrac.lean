
/-
A number less its whole part. Conditions: none.
-/
import Derived.Test.YtcgnmnbjgamedaaPol
import Derived.Laws.FloatArith
namespace Go.Proofs.Ytcgnmnbjgamedaa
namespace Fk
open Go
set_option linter.unusedVariables false

theorem cut_zero (s : Bool) (n d : Nat) : Ieee.Toward.zero.cut s n d = n / 2 ^ d := by
  unfold Ieee.Toward.cut
  dsimp only
  rw [Nat.shiftLeft_eq, Nat.one_mul]
  show n / 2 ^ min d (n.log2 + 2) + 0 = _
  rw [Nat.add_zero]
  by_cases h : d ≤ n.log2 + 2
  · rw [Nat.min_eq_left h]
  · rw [Nat.min_eq_right (by omega)]
    have h1 : n < 2 ^ (n.log2 + 1) := Nat.lt_log2_self
    rw [Nat.div_eq_of_lt (Nat.lt_of_lt_of_le h1 (Nat.pow_le_pow_right (by decide) (by omega))), Nat.div_eq_of_lt (Nat.lt_of_lt_of_le h1 (Nat.pow_le_pow_right (by decide) (by omega)))]

/-- How a whole number's float reads. -/
theorem dec_whole (s : Bool) (K : Nat) (hK : K < 9007199254740992) : ∃ m p, FloatKind.f64.decode (FloatKind.f64.format.write (.number s K 0)) = .number s m p ∧ p ≤ 0 ∧ m = K * 2 ^ (-p).toNat := by
  by_cases h0 : K = 0
  · subst h0
    refine ⟨0, -1074, ?_, by decide, (Nat.zero_mul _).symm⟩
    rw [write_zero]
    cases s <;> decide
  · have hl : K.log2 < 53 := (Nat.log2_lt h0).2 hK
    have e1 : FloatKind.f64.format.fractionBits = 52 := rfl
    have e4 : FloatKind.f64.format.leastPlace = -1074 := by decide
    have e3 : FloatKind.f64.format.binade = 4503599627370496 := by decide
    have e5 : FloatKind.f64.format.infRung = 9218868437227405312 := by decide
    have e2 : FloatKind.f64.format.signWeight = 9223372036854775808 := by decide
    have hM : K * 2 ^ (52 - K.log2) < 9007199254740992 := by
      have : K * 2 ^ (52 - K.log2) < 2 ^ (K.log2 + 1) * 2 ^ (52 - K.log2) := Nat.mul_lt_mul_of_pos_right Nat.lt_log2_self (Nat.two_pow_pos _)
      rw [← Nat.pow_add, show K.log2 + 1 + (52 - K.log2) = 53 by omega] at this
      exact this
    have hge : 4503599627370496 ≤ K * 2 ^ (52 - K.log2) := by
      have : 2 ^ K.log2 * 2 ^ (52 - K.log2) ≤ K * 2 ^ (52 - K.log2) := Nat.mul_le_mul_right _ (Nat.log2_self_le h0)
      rw [← Nat.pow_add, show K.log2 + (52 - K.log2) = 52 by omega] at this
      exact this
    have hw : FloatKind.f64.format.write (.number s K 0) = FloatKind.f64.format.word s (min ((K.log2 + 1022) * 4503599627370496 + K * 2 ^ (52 - K.log2)) 9218868437227405312) := by
      show FloatKind.f64.format.nearest s K 0 = _
      rw [nearest_exact _ _ K 0 h0 (by rw [e1]; omega) (by rw [e4]; omega), e1, e4, e3, e5]
      have k1 : (max (0 + (K.log2 : Int) - ((52 : Nat) : Int)) (-1074) - -1074).toNat = K.log2 + 1022 := by omega
      have k2 : (0 - max (0 + (K.log2 : Int) - ((52 : Nat) : Int)) (-1074)).toNat = 52 - K.log2 := by omega
      rw [k1, k2]
    refine ⟨K * 2 ^ (52 - K.log2), (K.log2 : Int) - 52, ?_, by omega, by congr 2; omega⟩
    generalize K * 2 ^ (52 - K.log2) = M at hw hM hge
    rw [hw, Nat.min_eq_left (by omega)]
    have hwm : FloatKind.f64.format.word s ((K.log2 + 1022) * 4503599627370496 + M) % 9223372036854775808 = (K.log2 + 1022) * 4503599627370496 + M := by
      have := word_mod FloatKind.f64.format s ((K.log2 + 1022) * 4503599627370496 + M) (by rw [e2]; omega)
      rwa [e2] at this
    have hsg : (FloatKind.f64.format.word s ((K.log2 + 1022) * 4503599627370496 + M) / 9223372036854775808 % 2 == 1) = s := by
      unfold Ieee.Format.word
      rw [e2]
      cases s
      · rw [if_neg (by simp)]; rw [beq_eq_false_iff_ne]; omega
      · rw [if_pos rfl]; rw [beq_iff_eq]; omega
    rw [dec64, hwm, hsg, if_neg (by omega), if_pos (by omega)]
    have hq : ((K.log2 + 1022) * 4503599627370496 + M) / 4503599627370496 = K.log2 + 1023 := by omega
    have hr : 4503599627370496 + ((K.log2 + 1022) * 4503599627370496 + M) % 4503599627370496 = M := by omega
    rw [hq, hr]
    have k3 : (-1074 + ((K.log2 + 1023 - 1 : Nat) : Int)) = (K.log2 : Int) - 52 := by omega
    rw [k3]

theorem natAbs_diff (s : Bool) (a b : Nat) : ((if s then -(a : Int) else (a : Int)) + (if (!s) then -(b : Int) else (b : Int))).natAbs = ((a : Int) - (b : Int)).natAbs := by
  cases s <;> simp <;> omega
/-- What is left of a number when its whole part is taken away is at most one. -/
theorem LE_frac {x M : Nat} {P : Int} {s : Bool} (hd : FloatKind.f64.decode x = .number s M P) (hP : P ≤ 0) (hM : M < 9007199254740992) :
    LEC (fop .sub .f64 (some x) (some (floatOfInt .f64 (Ieee.signed s (M / 2 ^ (-P).toNat) 0)))) 0 := by
  have hK : M / 2 ^ (-P).toNat < 9007199254740992 := Nat.lt_of_le_of_lt (Nat.div_le_self _ _) hM
  have hdiv := Nat.div_add_mod M (2 ^ (-P).toNat)
  have hmod := Nat.mod_lt M (Nat.two_pow_pos (-P).toNat)
  generalize hKK : M / 2 ^ (-P).toNat = K at hK hdiv
  generalize M % 2 ^ (-P).toNat = R at hdiv hmod
  have hsn : Ieee.signed s K 0 = if s then -(K : Int) else K := by unfold Ieee.signed; simp
  have hab : (Ieee.signed s K 0).natAbs = K := by rw [signed_abs]; simp
  obtain ⟨t, m, p, hdi, hp, hm, ht⟩ : ∃ t m p, FloatKind.f64.decode (floatOfInt .f64 (Ieee.signed s K 0)) = .number t m p ∧ p ≤ 0 ∧ m = K * 2 ^ (-p).toNat ∧ (K ≠ 0 → t = s) := by
    obtain ⟨m, p, h1, h2, h3⟩ := dec_whole (decide (Ieee.signed s K 0 < 0)) K hK
    refine ⟨decide (Ieee.signed s K 0 < 0), m, p, ?_, h2, h3, fun h0 => ?_⟩
    · unfold floatOfInt FloatKind.nearest
      rw [hab]; exact h1
    · rw [hsn]; cases s
      · exact decide_eq_false (by simp)
      · exact decide_eq_true (by simp; omega)
  obtain ⟨total, htot⟩ : ∃ total, total = Ieee.signed s M (P - min P p).toNat + Ieee.signed (!t) m (p - min P p).toNat := ⟨_, rfl⟩
  have hb : total.natAbs ≤ 2 ^ (0 - min P p).toNat := by
    have e1 : M <<< (P - min P p).toNat = K * 2 ^ (0 - min P p).toNat + R * 2 ^ (P - min P p).toNat := by
      rw [Nat.shiftLeft_eq, ← hdiv, Nat.add_mul]
      congr 1
      rw [Nat.mul_comm (2 ^ _) K, Nat.mul_assoc, ← Nat.pow_add]
      congr 2; omega
    have e2 : m <<< (p - min P p).toNat = K * 2 ^ (0 - min P p).toNat := by
      rw [Nat.shiftLeft_eq, hm, Nat.mul_assoc, ← Nat.pow_add]
      congr 2; omega
    have e3 : R * 2 ^ (P - min P p).toNat ≤ 2 ^ (0 - min P p).toNat := by
      have : R * 2 ^ (P - min P p).toNat ≤ 2 ^ (-P).toNat * 2 ^ (P - min P p).toNat := Nat.mul_le_mul_right _ (Nat.le_of_lt hmod)
      rw [← Nat.pow_add] at this
      rwa [show (0 - min P p).toNat = (-P).toNat + (P - min P p).toNat by omega]
    rw [htot]
    by_cases h0 : K = 0
    · have hm0 : m = 0 := by rw [hm, h0, Nat.zero_mul]
      have : Ieee.signed (!t) m (p - min P p).toNat = 0 := by rw [hm0]; unfold Ieee.signed; simp
      rw [this, Int.add_zero, signed_abs, e1, h0, Nat.zero_mul, Nat.zero_add]; exact e3
    · rw [ht h0]
      unfold Ieee.signed
      rw [natAbs_diff, e1, e2]
      omega
  refine ⟨FloatKind.f64.format.write (.number (if total = 0 then s && (!t) else decide (total < 0)) total.natAbs (min P p)), ?_, LE_write _ _ _ _ (fun _ => ⟨by omega, hb⟩) (by decide) (by decide)⟩
  show ((FloatKind.f64.decode x).sum (FloatKind.f64.decode (floatOfInt .f64 (Ieee.signed s K 0))).opposite).map FloatKind.f64.format.write = _
  rw [hd, hdi]
  simp only [Ieee.Datum.opposite, Ieee.Datum.sum, Option.map_some, ← htot]

/-- The whole part of a finite number below two to the power of 52 in size, and what is left. -/
theorem whole_of {x : Nat} (hx : x < 4294967296) (hf : finB x = true) (hs : wid x % 9223372036854775808 < 4841369599423283200) :
    ∃ n : Int, floatToIntVal .f64 (wid x) .i64 = some n ∧ LEC (fop .sub .f64 (some (wid x)) (some (floatOfInt .f64 n))) 0 := by
  obtain ⟨s, M, P, hd, hP, hM⟩ : ∃ s M P, FloatKind.f64.decode (wid x) = .number s M P ∧ P ≤ 0 ∧ M < 9007199254740992 := by
    rw [dec64]
    by_cases h1 : wid x % 9223372036854775808 < 4503599627370496
    · rw [if_pos h1]; exact ⟨_, _, _, rfl, by decide, by omega⟩
    · rw [if_neg h1, if_pos (by omega)]; exact ⟨_, _, _, rfl, by omega, by omega⟩
  refine ⟨_, ?_, LE_frac hd hP hM⟩
  have hi : (FloatKind.f64.decode (wid x)).toInt .zero = some (Ieee.signed s (M / 2 ^ (-P).toNat) 0) := by
    rw [hd]
    simp only [Ieee.Datum.toInt, Ieee.Datum.integral]
    rw [show P.toNat = 0 by omega, Nat.shiftLeft_zero, cut_zero]
  have hK : M / 2 ^ (-P).toNat < 9007199254740992 := Nat.lt_of_le_of_lt (Nat.div_le_self _ _) hM
  have hsn : Ieee.signed s (M / 2 ^ (-P).toNat) 0 = if s then -((M / 2 ^ (-P).toNat : Nat) : Int) else (M / 2 ^ (-P).toNat : Nat) := by unfold Ieee.signed; simp
  unfold floatToIntVal
  rw [hi]
  dsimp only
  generalize M / 2 ^ (-P).toNat = K at hsn hK
  rw [hsn]
  have m1 : IntKind.i64.min = -9223372036854775808 := by decide
  have m2 : IntKind.i64.max = 9223372036854775807 := by decide
  rw [m1, m2, if_pos (by cases s <;> simp <;> omega)]
end Fk
end Go.Proofs.Ytcgnmnbjgamedaa


/-
Zero and a number that is not below zero. Conditions: none.
-/
import Derived.Test.YtcgnmnbjgamedaaNar
namespace Go.Proofs.Ytcgnmnbjgamedaa
namespace Fk
open Go
set_option linter.unusedVariables false

theorem cut_mul (s : Bool) (m d : Nat) (hm : m ≠ 0) : Ieee.Toward.even.cut s (m * 2 ^ d) d = m := by
  unfold Ieee.Toward.cut
  dsimp only
  have hl : d ≤ (m * 2 ^ d).log2 + 2 := by
    have h1 : 2 ^ d ≤ m * 2 ^ d := by have := Nat.mul_le_mul_right (2 ^ d) (Nat.pos_of_ne_zero hm); omega
    have h2 := (Nat.le_log2 (by have := Nat.two_pow_pos d; omega) (k := d)).2 h1
    omega
  rw [Nat.shiftLeft_eq, Nat.one_mul, Nat.min_eq_left hl, Nat.mul_mod_left, Nat.mul_div_cancel _ (Nat.two_pow_pos _)]
  have : 0 < 2 ^ d := Nat.two_pow_pos _
  have e1 : decide (2 ^ d < 2 * 0) = false := decide_eq_false (by omega)
  have e2 : (2 ^ d == 2 * 0) = false := by rw [beq_eq_false_iff_ne]; omega
  rw [e1, e2]
  rfl
theorem log2_mul_pow {m d : Nat} (hm : m ≠ 0) : (m * 2 ^ d).log2 = m.log2 + d := by
  have h0 : m * 2 ^ d ≠ 0 := by have := Nat.mul_pos (Nat.pos_of_ne_zero hm) (Nat.two_pow_pos d); omega
  refine (Nat.log2_eq_iff h0).2 ⟨?_, ?_⟩
  · rw [Nat.pow_add]; exact Nat.mul_le_mul_right _ (Nat.log2_self_le hm)
  · rw [show m.log2 + d + 1 = (m.log2 + 1) + d by omega, Nat.pow_add]
    exact Nat.mul_lt_mul_of_pos_right Nat.lt_log2_self (Nat.two_pow_pos _)
theorem parts_word {x q m : Nat} (h : x < 2139095040) (hq : x / 8388608 = q + 1) (hm : 8388608 + x % 8388608 = m) : min (q * 8388608 + m) 2139095040 = x := by
  have h1 := Nat.div_add_mod x 8388608
  rw [hq] at h1
  have h2 : q * 8388608 + m = x := by omega
  rw [h2]
  exact Nat.min_eq_left (Nat.le_of_lt h)
theorem zero_plus {c : Option Nat} (h : ∀ r, c = some r → r < 2147483648) : fop .add .f32 (some 0) c = c.bind fun x => if (FloatKind.f32.decode x).isNaN then none else some x := by
  have e1 : FloatKind.f32.format.binade = 8388608 := by decide
  have e2 : FloatKind.f32.format.infRung = 2139095040 := by decide
  have e3 : FloatKind.f32.format.leastPlace = -149 := by decide
  have e4 : FloatKind.f32.format.fractionBits = 23 := by decide
  have e5 : FloatKind.f32.format.signWeight = 2147483648 := by decide
  cases c with
  | none => rfl
  | some x =>
    have hx := h x rfl
    show ((FloatKind.f32.decode 0).sum (FloatKind.f32.decode x)).map FloatKind.f32.format.write = _
    have d0 : FloatKind.f32.decode 0 = .number false 0 (-149) := by decide
    rw [d0]
    show _ = if (FloatKind.f32.decode x).isNaN then none else some x
    have hd : FloatKind.f32.decode x = if x < 8388608 then .number false x (-149) else if x < 2139095040 then .number false (8388608 + x % 8388608) (-149 + ((x / 8388608 - 1 : Nat) : Int)) else if x = 2139095040 then .infinity false else .nan false (x - 2139095040) := by
      show FloatKind.f32.format.read x = _
      unfold Ieee.Format.read
      dsimp only
      rw [e1, e2, e3, e5, Nat.mod_eq_of_lt hx, Nat.div_eq_of_lt hx]
      rfl
    have word0 : ∀ r, FloatKind.f32.format.word false r = r := fun r => rfl
    rw [hd]
    by_cases h1 : x < 8388608
    · rw [if_pos h1]
      show some (FloatKind.f32.format.nearest _ _ _) = some x
      congr 1
      have hb : (min (-149 : Int) (-149)) = -149 := by decide
      have t0 : Ieee.signed false 0 ((-149 : Int) - min (-149) (-149)).toNat + Ieee.signed false x ((-149 : Int) - min (-149) (-149)).toNat = (x : Int) := by
        show ((0 <<< _ : Nat) : Int) + ((x <<< _ : Nat) : Int) = _
        rw [hb, Nat.shiftLeft_eq, Nat.shiftLeft_eq]
        simp
      rw [t0, hb]
      have hs : (if (x : Int) = 0 then (false && false) else decide ((x : Int) < 0)) = false := by
        split
        · rfl
        · exact decide_eq_false (by omega)
      rw [hs]
      unfold Ieee.Format.nearest
      dsimp only
      rw [Int.natAbs_natCast]
      by_cases h0 : x = 0
      · rw [if_pos h0, h0]; rfl
      · rw [if_neg h0, e1, e2, e3, e4, word0]
        have hl : x.log2 ≤ 22 := by
          have := (Nat.log2_lt h0 (k := 23)).2 (by rw [show (2 : Nat) ^ 23 = 8388608 from by decide]; exact h1)
          omega
        have hm : max ((-149 : Int) + (x.log2 : Int) - ((23 : Nat) : Int)) (-149) = -149 := by omega
        rw [hm, show ((-149 : Int) - -149).toNat = 0 from rfl, even_cut_zero, Nat.shiftLeft_zero]
        omega
    · rw [if_neg h1]
      by_cases h2 : x < 2139095040
      · rw [if_pos h2]
        show some (FloatKind.f32.format.nearest _ _ _) = some x
        congr 1
        generalize hm : 8388608 + x % 8388608 = m
        obtain ⟨q, hq⟩ : ∃ q, x / 8388608 = q + 1 := ⟨x / 8388608 - 1, by omega⟩
        rw [hq, show q + 1 - 1 = q by omega]
        have hm1 : 8388608 ≤ m := by omega
        have hm2 : m < 16777216 := by omega
        have hb : (min (-149 : Int) (-149 + (q : Int))) = -149 := by omega
        have t0 : Ieee.signed false 0 ((-149 : Int) - min (-149) (-149 + (q : Int))).toNat + Ieee.signed false m ((-149 + (q : Int)) - min (-149) (-149 + (q : Int))).toNat = ((m * 2 ^ q : Nat) : Int) := by
          show ((0 <<< _ : Nat) : Int) + ((m <<< _ : Nat) : Int) = _
          rw [hb, Nat.shiftLeft_eq, Nat.shiftLeft_eq, Nat.zero_mul, show ((-149 : Int) + (q : Int) - -149).toNat = q by omega]
          omega
        rw [t0, hb]
        have hp : 0 < m * 2 ^ q := Nat.mul_pos (by omega) (Nat.two_pow_pos _)
        have hs : (if ((m * 2 ^ q : Nat) : Int) = 0 then (false && false) else decide (((m * 2 ^ q : Nat) : Int) < 0)) = false := by
          split
          · rfl
          · exact decide_eq_false (by omega)
        rw [hs]
        unfold Ieee.Format.nearest
        dsimp only
        rw [Int.natAbs_natCast, if_neg (by omega), e1, e2, e3, e4, word0]
        have hl : m.log2 = 23 := (Nat.log2_eq_iff (by omega)).2 ⟨by rw [show (2 : Nat) ^ 23 = 8388608 from by decide]; exact hm1, by rw [show (2 : Nat) ^ 24 = 16777216 from by decide]; exact hm2⟩
        rw [log2_mul_pow (by omega), hl]
        have hmx : max ((-149 : Int) + ((23 + q : Nat) : Int) - ((23 : Nat) : Int)) (-149) = -149 + (q : Int) := by omega
        rw [hmx, show ((-149 : Int) - (-149 + (q : Int))).toNat = 0 by omega, Nat.shiftLeft_zero, show ((-149 : Int) + (q : Int) - -149).toNat = q by omega, cut_mul _ _ _ (by omega)]
        exact parts_word h2 hq hm
      · rw [if_neg h2]
        by_cases h3 : x = 2139095040
        · rw [if_pos h3, h3]; decide
        · rw [if_neg h3]; rfl
end Fk
end Go.Proofs.Ytcgnmnbjgamedaa

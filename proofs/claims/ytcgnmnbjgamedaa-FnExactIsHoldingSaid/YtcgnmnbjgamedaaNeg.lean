
/-
The opposite of a 64-bit number is as great. Conditions: none.
-/
import Derived.Test.YtcgnmnbjgamedaaWid
namespace Go.Proofs.Ytcgnmnbjgamedaa
namespace Fk
open Go
set_option linter.unusedVariables false

theorem xor_top {y : Nat} (h : y < 2 ^ 63) : y ^^^ 2 ^ 63 = 2 ^ 63 + y := by
  apply Nat.eq_of_testBit_eq
  intro j
  rw [Nat.testBit_xor, Nat.testBit_two_pow]
  rcases Nat.lt_trichotomy j 63 with h1 | h1 | h1
  · rw [Nat.testBit_two_pow_add_gt h1, decide_eq_false (by omega)]; cases y.testBit j <;> rfl
  · subst h1; rw [Nat.testBit_two_pow_add_eq, Nat.testBit_lt_two_pow h, decide_eq_true rfl]; rfl
  · rw [Nat.testBit_lt_two_pow (Nat.lt_of_lt_of_le h (Nat.pow_le_pow_right (by decide) (by omega))), Nat.testBit_lt_two_pow (x := 2 ^ 63 + y)]
    · rw [decide_eq_false (by omega)]; rfl
    · exact Nat.lt_of_lt_of_le (show 2 ^ 63 + y < 2 ^ 64 by rw [Nat.pow_succ 2 63]; omega) (Nat.pow_le_pow_right (by decide) (by omega))
theorem neg_word {x : Nat} (hx : x < 18446744073709551616) : Op.negFloat .f64 x = if x < 9223372036854775808 then x + 9223372036854775808 else x - 9223372036854775808 := by
  have t : (2 : Nat) ^ 63 = 9223372036854775808 := by decide
  show x ^^^ 2 ^ 63 = _
  by_cases h : x < 9223372036854775808
  · rw [if_pos h, xor_top (by rw [t]; exact h), t]; omega
  · rw [if_neg h]
    obtain ⟨y, rfl⟩ : ∃ y, x = 2 ^ 63 + y := ⟨x - 2 ^ 63, by rw [t]; omega⟩
    have hy : y < 2 ^ 63 := by rw [t] at hx ⊢; omega
    rw [← xor_top hy, Nat.xor_assoc, Nat.xor_self, Nat.xor_zero, xor_top hy, t]; omega
theorem LE_neg {x : Nat} {e : Int} (hx : x < 18446744073709551616) (h : LE x e) : LE (Op.negFloat .f64 x) e ∧ Op.negFloat .f64 x < 18446744073709551616 := by
  obtain ⟨s, m, p, hd, hp, hm⟩ := h
  rw [neg_word hx]
  refine ⟨?_, by split <;> omega⟩
  have hmod : (if x < 9223372036854775808 then x + 9223372036854775808 else x - 9223372036854775808) % 9223372036854775808 = x % 9223372036854775808 := by split <;> omega
  refine ⟨((if x < 9223372036854775808 then x + 9223372036854775808 else x - 9223372036854775808) / 9223372036854775808 % 2 == 1), m, p, ?_, hp, hm⟩
  rw [dec64, hmod]
  rw [dec64] at hd
  split at hd
  · rename_i h1
    rw [if_pos h1]
    simp only [Ieee.Datum.number.injEq] at hd ⊢
    exact ⟨trivial, hd.2⟩
  · rename_i h1
    rw [if_neg h1]
    split at hd
    · rename_i h2
      rw [if_pos h2]
      simp only [Ieee.Datum.number.injEq] at hd ⊢
      exact ⟨trivial, hd.2⟩
    · split at hd <;> cases hd
end Fk
end Go.Proofs.Ytcgnmnbjgamedaa

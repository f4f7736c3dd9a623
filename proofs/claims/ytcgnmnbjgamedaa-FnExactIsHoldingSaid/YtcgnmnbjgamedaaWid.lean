
/-
The 64-bit words of finite 32-bit ones: how they read, how they stand to zero, and quotients of their sizes. Conditions: none.
-/
import Derived.Test.YtcgnmnbjgamedaaOpsD
import Derived.Test.YtcgnmnbjgamedaaScal
namespace Go.Proofs.Ytcgnmnbjgamedaa
namespace Fk
open Go
set_option linter.unusedVariables false

theorem dec64 (x : Nat) : FloatKind.f64.decode x = if x % 9223372036854775808 < 4503599627370496 then .number (x / 9223372036854775808 % 2 == 1) (x % 9223372036854775808) (-1074)
    else if x % 9223372036854775808 < 9218868437227405312 then .number (x / 9223372036854775808 % 2 == 1) (4503599627370496 + x % 9223372036854775808 % 4503599627370496) (-1074 + (x % 9223372036854775808 / 4503599627370496 - 1 : Nat))
    else if x % 9223372036854775808 = 9218868437227405312 then .infinity (x / 9223372036854775808 % 2 == 1) else .nan (x / 9223372036854775808 % 2 == 1) (x % 9223372036854775808 - 9218868437227405312) := rfl

/-- The word of a finite number, without its sign. -/
theorem wid_abs {x : Nat} (hx : x < 4294967296) (hf : finB x = true) :
    (x % 2147483648 = 0 ∧ wid x = (if x < 2147483648 then 0 else 9223372036854775808)) ∨
    (x % 2147483648 ≠ 0 ∧ ∃ r, 874 * 4503599627370496 ≤ r ∧ r < 1151 * 4503599627370496 ∧ wid x = (if x < 2147483648 then 0 else 9223372036854775808) + r) := by
  have hf' : x % 2147483648 < 2139095040 := by simpa [finB] using hf
  have hs : (x / 2147483648 % 2 == 1) = decide (¬ x < 2147483648) := by
    by_cases h : x < 2147483648
    · rw [Nat.div_eq_of_lt h]; simp [h]
    · have h1 : x / 2147483648 = 1 := by omega
      rw [h1]; simp [h]
  have e2 : Ieee.double.signWeight = 9223372036854775808 := by decide
  have d := dec32 x
  by_cases h0 : x % 2147483648 = 0
  · refine .inl ⟨h0, ?_⟩
    rw [h0, if_pos (by decide)] at d
    unfold wid
    rw [d, hs]
    show Ieee.double.nearest _ 0 (-149) = _
    unfold Ieee.Format.nearest
    rw [if_pos rfl]
    unfold Ieee.Format.word
    rw [e2]
    by_cases h2 : x < 2147483648 <;> simp [h2]
  · refine .inr ⟨h0, ?_⟩
    obtain ⟨m, p, hd, hm0, hlo, hhi⟩ : ∃ m p, FloatKind.f32.decode x = .number (x / 2147483648 % 2 == 1) m p ∧ m ≠ 0 ∧ -149 ≤ p + (m.log2 : Int) ∧ p + (m.log2 : Int) ≤ 127 := by
      by_cases h1 : x % 2147483648 < 8388608
      · rw [if_pos h1] at d
        have : (x % 2147483648).log2 < 23 := (Nat.log2_lt h0).2 h1
        exact ⟨_, _, d, h0, by omega, by omega⟩
      · rw [if_neg h1, if_pos hf'] at d
        have : (8388608 + x % 2147483648 % 8388608).log2 < 24 := (Nat.log2_lt (by omega)).2 (by omega)
        exact ⟨_, _, d, by omega, by omega, by omega⟩
    obtain ⟨b1, b2, b3⟩ := decode32 x _ m p hd
    have hl : m.log2 < 24 := (Nat.log2_lt hm0).2 b1
    have e1 : Ieee.double.fractionBits = 52 := rfl
    have e4 : Ieee.double.leastPlace = -1074 := by decide
    have e3 : Ieee.double.binade = 4503599627370496 := by decide
    have e5 : Ieee.double.infRung = 9218868437227405312 := by decide
    have hw : wid x = Ieee.double.word (decide (¬ x < 2147483648)) (min (((p + m.log2 - 52 + 1074).toNat) * 4503599627370496 + m * 2 ^ (52 - m.log2)) 9218868437227405312) := by
      unfold wid
      rw [hd, hs]
      show Ieee.double.nearest _ m p = _
      rw [nearest_exact _ _ m p hm0 (by rw [e1]; omega) (by rw [e4]; omega), e1, e4, e3, e5]
      have k1 : (max (p + (m.log2 : Int) - ((52 : Nat) : Int)) (-1074) - -1074).toNat = (p + m.log2 - 52 + 1074).toNat := by omega
      have k2 : (p - max (p + (m.log2 : Int) - ((52 : Nat) : Int)) (-1074)).toNat = 52 - m.log2 := by omega
      rw [k1, k2]
    have hlt : m * 2 ^ (52 - m.log2) < 9007199254740992 := by
      have : m * 2 ^ (52 - m.log2) < 2 ^ (m.log2 + 1) * 2 ^ (52 - m.log2) := Nat.mul_lt_mul_of_pos_right Nat.lt_log2_self (Nat.two_pow_pos _)
      rw [← Nat.pow_add, show m.log2 + 1 + (52 - m.log2) = 53 by omega] at this
      exact this
    have hge : 4503599627370496 ≤ m * 2 ^ (52 - m.log2) := by
      have : 2 ^ m.log2 * 2 ^ (52 - m.log2) ≤ m * 2 ^ (52 - m.log2) := Nat.mul_le_mul_right _ (Nat.log2_self_le hm0)
      rw [← Nat.pow_add, show m.log2 + (52 - m.log2) = 52 by omega] at this
      exact this
    generalize m * 2 ^ (52 - m.log2) = M at hw hlt hge
    obtain ⟨K, hK⟩ : ∃ K : Nat, K = (p + m.log2 - 52 + 1074).toNat := ⟨_, rfl⟩
    rw [← hK] at hw
    refine ⟨K * 4503599627370496 + M, by omega, by omega, ?_⟩
    rw [hw, Nat.min_eq_left (by omega)]
    unfold Ieee.Format.word
    rw [e2]
    by_cases h2 : x < 2147483648 <;> simp [h2]

/-- A widened number stands to zero as it did. -/
theorem ord0 {x : Nat} (hx : x < 4294967296) (hf : finB x = true) : FloatKind.f64.format.order (wid x) 0 = FloatKind.f32.format.order x 0 := by
  have hn : nan32 x = false := by rw [nan32_iff]; have : x % 2147483648 < 2139095040 := by simpa [finB] using hf
                                  exact decide_eq_false (by omega)
  have e3 : 2 ^ FloatKind.f64.format.width = 18446744073709551616 := by decide
  have e3' : 2 ^ FloatKind.f32.format.width = 4294967296 := by decide
  rw [order_key (wid_lt x) (by rw [e3]; decide) (wid_nan hn) (by decide), order_key (by rw [e3']; exact hx) (by rw [e3']; decide) hn (by decide)]
  have k1 : key .f64 (wid x) = if wid x < 9223372036854775808 then (wid x : Int) else 9223372036854775808 - wid x := by
    unfold key; rw [show FloatKind.f64.format.signWeight = 9223372036854775808 by decide]; rfl
  have k2 : key .f32 x = if x < 2147483648 then (x : Int) else 2147483648 - x := by
    unfold key; rw [show FloatKind.f32.format.signWeight = 2147483648 by decide]; rfl
  have z1 : key .f64 0 = 0 := by decide
  have z2 : key .f32 0 = 0 := by decide
  rw [k1, k2, z1, z2]
  congr 1
  rcases wid_abs hx hf with ⟨h0, hw⟩ | ⟨h0, r, hr1, hr2, hw⟩
  · by_cases h2 : x < 2147483648
    · rw [if_pos h2] at hw ⊢
      rw [hw, show x = 0 by omega]; rfl
    · rw [if_neg h2] at hw ⊢
      rw [hw, show x = 2147483648 by omega]; rfl
  · by_cases h2 : x < 2147483648
    · rw [if_pos h2] at hw ⊢
      rw [hw, if_pos (by omega), Int.compare_eq_gt.2 (by omega), Int.compare_eq_gt.2 (by omega)]
    · rw [if_neg h2] at hw ⊢
      rw [hw, if_neg (by omega), Int.compare_eq_lt.2 (by omega), Int.compare_eq_lt.2 (by omega)]

/-- What stands for the size of a finite number. -/
def AbsW (a : Nat) : Prop := a = 0 ∨ (874 * 4503599627370496 ≤ a ∧ a < 1151 * 4503599627370496)
theorem AbsW_of {x : Nat} (hx : x < 4294967296) (hf : finB x = true) : AbsW (wid x % 9223372036854775808) := by
  rcases wid_abs hx hf with ⟨h0, hw⟩ | ⟨h0, r, hr1, hr2, hw⟩
  · left; rw [hw]; split <;> rfl
  · right; rw [hw]; split <;> omega
theorem AbsW_zero {x : Nat} (hx : x < 4294967296) (hf : finB x = true) : (wid x % 9223372036854775808 = 0) ↔ x % 2147483648 = 0 := by
  rcases wid_abs hx hf with ⟨h0, hw⟩ | ⟨h0, r, hr1, hr2, hw⟩
  · rw [hw]; constructor
    · intro _; exact h0
    · intro _; split <;> rfl
  · rw [hw]; constructor
    · intro h; exfalso; split at h <;> omega
    · intro h; exact absurd h h0
theorem AbsW.lt {a : Nat} (h : AbsW a) : a < 9218868437227405312 := by rcases h with h | h <;> omega
theorem AbsW.fv {a : Nat} (h : AbsW a) : FV .f64 a (some a) := by
  have := h.lt
  refine ⟨by rw [show 2 ^ FloatKind.f64.format.width = 18446744073709551616 by decide]; omega, cls_num ?_⟩
  rw [isNaN_decode, show FloatKind.f64.format.infRung = 9218868437227405312 by decide, show FloatKind.f64.format.signWeight = 9223372036854775808 by decide]
  exact decide_eq_false (by omega)
theorem AbsW.dec {a : Nat} (h : AbsW a) (h0 : a ≠ 0) : ∃ m, FloatKind.f64.decode a = .number false m (-1074 + (a / 4503599627370496 - 1 : Nat)) ∧ 4503599627370496 ≤ m ∧ m < 9007199254740992 := by
  rcases h with h | h
  · exact absurd h h0
  · refine ⟨4503599627370496 + a % 4503599627370496, ?_, by omega, by omega⟩
    have h1 : a % 9223372036854775808 = a := by omega
    have h2 : a / 9223372036854775808 = 0 := by omega
    rw [dec64, h1, h2, if_neg (by omega), if_pos (by omega)]
    rfl
theorem log2_52 {m : Nat} (h1 : 4503599627370496 ≤ m) (h2 : m < 9007199254740992) : m.log2 = 52 := by
  have a := (Nat.log2_lt (n := m) (k := 53) (by omega)).2 h2
  have b := (Nat.le_log2 (n := m) (k := 52) (by omega)).2 h1
  omega
theorem AbsW.le {a : Nat} (h : AbsW a) (h0 : a ≠ 0) : LE a ((a / 4503599627370496 : Nat) - 1022) := by
  obtain ⟨m, hd, h1, h2⟩ := h.dec h0
  refine ⟨_, _, _, hd, by omega, ?_⟩
  have : (((a / 4503599627370496 : Nat) : Int) - 1022 - (-1074 + (a / 4503599627370496 - 1 : Nat))).toNat = 53 := by
    rcases h with h | h
    · exact absurd h h0
    · omega
  rw [this]
  exact Nat.le_of_lt h2
theorem AbsW.lbc {a : Nat} (h : AbsW a) (h0 : a ≠ 0) : LBC (some a) ((a / 4503599627370496 : Nat) - 1023) := by
  obtain ⟨m, hd, h1, h2⟩ := h.dec h0
  refine ⟨_, _, _, _, rfl, hd, by omega, ?_⟩
  rw [log2_52 h1 h2]
  rcases h with h | h
  · exact absurd h h0
  · omega
/-- The lesser one divided by the greater one. -/
theorem LEC_ratio {a b : Nat} (ha : AbsW a) (hb : AbsW b) (h : a ≤ b) (h0 : b ≠ 0) : LEC (fop .quo .f64 (some a) (some b)) 1 := by
  have hl := hb.lbc h0
  by_cases ha0 : a = 0
  · have hz : LE a ((b / 4503599627370496 : Nat) - 1023) := by
      subst ha0
      exact ⟨false, 0, -1074, by decide, by omega, Nat.zero_le _⟩
    exact (LEC_quo ⟨a, rfl, hz⟩ hl (by omega) (by omega)).mono (by omega)
  · have hle := ha.le ha0
    have hq : a / 4503599627370496 ≤ b / 4503599627370496 := Nat.div_le_div_right h
    rcases ha with h1 | h1
    · exact absurd h1 ha0
    · rcases hb with h2 | h2
      · exact absurd h2 h0
      · exact (LEC_quo ⟨a, rfl, hle⟩ hl (by omega) (by omega)).mono (by omega)
/-- Sizes stand to each other as their words. -/
theorem gt_abs {a b : Nat} (ha : AbsW a) (hb : AbsW b) : (FloatKind.f64.format.order a b == some .gt) = decide (b < a) := by
  have e3 : 2 ^ FloatKind.f64.format.width = 18446744073709551616 := by decide
  have := ha.lt
  have := hb.lt
  rw [order_key (by rw [e3]; omega) (by rw [e3]; omega) ha.fv.notnan hb.fv.notnan]
  have k : ∀ z, z < 9218868437227405312 → key .f64 z = (z : Int) := by
    intro z hz
    unfold key
    rw [show FloatKind.f64.format.signWeight = 9223372036854775808 by decide, if_pos (by omega)]
  rw [k _ ha.lt, k _ hb.lt]
  by_cases h : b < a
  · rw [Int.compare_eq_gt.2 (by omega), decide_eq_true h]; rfl
  · rw [decide_eq_false h]
    cases hc : compare (a : Int) (b : Int)
    · rfl
    · rfl
    · have := Int.compare_eq_gt.1 hc; omega
end Fk
end Go.Proofs.Ytcgnmnbjgamedaa


/-
Differences of two numbers that are not below zero, in both orders. Conditions: none.
-/
import Derived.Test.YtcgnmnbjgamedaaNkN
namespace Go.Proofs.Ytcgnmnbjgamedaa
namespace Fk
open Go
set_option linter.unusedVariables false

theorem write_neg (T : Nat) (P : Int) : FloatKind.f32.format.write (.number true T P) = 2147483648 + FloatKind.f32.format.write (.number false T P) := by
  have e5 : FloatKind.f32.format.signWeight = 2147483648 := by decide
  show FloatKind.f32.format.nearest true T P = 2147483648 + FloatKind.f32.format.nearest false T P
  have hc : ∀ n d, Ieee.Toward.even.cut true n d = Ieee.Toward.even.cut false n d := fun _ _ => rfl
  have w1 : ∀ r, FloatKind.f32.format.word true r = 2147483648 + r := fun r => by rw [← e5]; rfl
  have w0 : ∀ r, FloatKind.f32.format.word false r = r := fun r => rfl
  unfold Ieee.Format.nearest
  dsimp only
  by_cases h : T = 0
  · rw [if_pos h, if_pos h, w1, w0]
  · rw [if_neg h, if_neg h, hc, w1, w0]
theorem write_range (T : Nat) (P : Int) (hT : T ≠ 0) (hP : -149 ≤ P) : 0 < FloatKind.f32.format.write (.number false T P) ∧ FloatKind.f32.format.write (.number false T P) ≤ 2139095040 := by
  have e2 : FloatKind.f32.format.infRung = 2139095040 := by decide
  have d0 : FloatKind.f32.decode 0 = .number false 0 (-149) := by decide
  have w0 : ∀ r, FloatKind.f32.format.word false r = r := fun r => rfl
  constructor
  · have hq : Qr 1 (-149) T P := by
      rw [Qr_iff (c := -149) (by omega) (by omega), show ((-149 : Int) - -149).toNat = 0 by omega, Nat.pow_zero, Nat.mul_one]
      have := Nat.mul_pos (Nat.pos_of_ne_zero hT) (Nat.two_pow_pos (P - -149).toNat)
      omega
    have hge := QGE_write .f32 T P 1 (-149) hq (by rw [bin32]; decide) (by decide) (by decide) (by decide)
    rcases Nat.eq_zero_or_pos (FloatKind.f32.format.write (.number false T P)) with h | h
    · exfalso
      rcases hge with ⟨m, p, h1, h2⟩ | h1
      · rw [h, d0] at h1
        cases h1
        exact absurd h2 (by unfold Qr; decide)
      · rw [h, d0] at h1
        cases h1
    · exact h
  · show FloatKind.f32.format.nearest false T P ≤ _
    unfold Ieee.Format.nearest
    dsimp only
    rw [if_neg hT, w0, e2]
    exact Nat.min_le_right _ _
theorem cmp_lt {a b : Int} (h : a < b) : compare a b = .lt := by simp [compare, compareOfLessAndEq, h]
theorem cmp_gt {a b : Int} (h : b < a) : compare a b = .gt := by
  have h1 : ¬ a < b := by omega
  have h2 : ¬ a = b := by omega
  simp [compare, compareOfLessAndEq, h1, h2]
theorem sum_diff (m n : Nat) (p q c : Int) (A B : Nat) (hc : min p q = c) (hA : m * 2 ^ (p - c).toNat = A) (hB : n * 2 ^ (q - c).toNat = B) :
    (Ieee.Datum.number false m p).sum (Ieee.Datum.number true n q) = some (.number (if (A : Int) - B = 0 then false else decide ((A : Int) - B < 0)) ((A : Int) - B).natAbs c) := by
  subst hc
  have s0 : ∀ (a b : Nat), Ieee.signed false a b = ((a * 2 ^ b : Nat) : Int) := fun a b => by show ((a <<< b : Nat) : Int) = _; rw [Nat.shiftLeft_eq]
  have s1 : ∀ (a b : Nat), Ieee.signed true a b = -((a * 2 ^ b : Nat) : Int) := fun a b => by show -((a <<< b : Nat) : Int) = _; rw [Nat.shiftLeft_eq]
  show some (Ieee.Datum.number (if Ieee.signed false m (p - min p q).toNat + Ieee.signed true n (q - min p q).toNat = 0 then false && true else decide (Ieee.signed false m (p - min p q).toNat + Ieee.signed true n (q - min p q).toNat < 0)) (Ieee.signed false m (p - min p q).toNat + Ieee.signed true n (q - min p q).toNat).natAbs (min p q)) = _
  rw [s0, s1, hA, hB, ← Int.sub_eq_add_neg]
  rfl
/-- Two numbers that are not below zero: how they stand to each other, and their differences. -/
theorem wall_sub {x y : Nat} (hx : x < 2139095040) (hy : y < 2139095040) :
    (FloatKind.f32.format.order x y = some .lt ∧ ∃ r, 0 < r ∧ r ≤ 2139095040 ∧ fop .sub .f32 (some x) (some y) = some (2147483648 + r) ∧ fop .sub .f32 (some y) (some x) = some r) ∨
    FloatKind.f32.format.order x y = some .eq ∨
    (FloatKind.f32.format.order x y = some .gt ∧ ∃ r, 0 < r ∧ r ≤ 2139095040 ∧ fop .sub .f32 (some x) (some y) = some r) := by
  obtain ⟨m, p, hd, _, hp, _, _⟩ := meas_dec hx
  obtain ⟨n, q, he, _, hq, _, _⟩ := meas_dec hy
  have s0 : ∀ (a b : Nat), Ieee.signed false a b = ((a * 2 ^ b : Nat) : Int) := fun a b => by show ((a <<< b : Nat) : Int) = _; rw [Nat.shiftLeft_eq]
  have ho : FloatKind.f32.format.order x y = (FloatKind.f32.decode x).order (FloatKind.f32.decode y) := rfl
  have f1 : fop .sub .f32 (some x) (some y) = ((FloatKind.f32.decode x).sum (FloatKind.f32.decode y).opposite).map FloatKind.f32.format.write := rfl
  have f2 : fop .sub .f32 (some y) (some x) = ((FloatKind.f32.decode y).sum (FloatKind.f32.decode x).opposite).map FloatKind.f32.format.write := rfl
  generalize hc : min p q = c
  have hc2 : min q p = c := by omega
  generalize hA : m * 2 ^ (p - c).toNat = A
  generalize hB : n * 2 ^ (q - c).toNat = B
  have ho2 : FloatKind.f32.format.order x y = some (compare (A : Int) (B : Int)) := by
    rw [ho, hd, he]
    show some (compare (Ieee.signed false m (p - min p q).toNat) (Ieee.signed false n (q - min p q).toNat)) = _
    rw [s0, s0, hc, hA, hB]
  have g1 : fop .sub .f32 (some x) (some y) = some (FloatKind.f32.format.write (.number (if (A : Int) - B = 0 then false else decide ((A : Int) - B < 0)) ((A : Int) - B).natAbs c)) := by
    rw [f1, hd, he]
    show ((Ieee.Datum.number false m p).sum (Ieee.Datum.number true n q)).map _ = _
    rw [sum_diff m n p q c A B hc hA hB]
    rfl
  have g2 : fop .sub .f32 (some y) (some x) = some (FloatKind.f32.format.write (.number (if (B : Int) - A = 0 then false else decide ((B : Int) - A < 0)) ((B : Int) - A).natAbs c)) := by
    rw [f2, hd, he]
    show ((Ieee.Datum.number false n q).sum (Ieee.Datum.number true m p)).map _ = _
    rw [sum_diff n m q p c B A hc2 hB hA]
    rfl
  have hcc : -149 ≤ c := by omega
  clear ho f1 f2 hd he hA hB hc hc2
  rcases Nat.lt_trichotomy A B with h | h | h
  · left
    refine ⟨by rw [ho2, cmp_lt (by omega)], FloatKind.f32.format.write (.number false (B - A) c), ?_⟩
    obtain ⟨r1, r2⟩ := write_range (B - A) c (by omega) hcc
    refine ⟨r1, r2, ?_, ?_⟩
    · rw [g1, if_neg (by omega), decide_eq_true (by omega), show ((A : Int) - B).natAbs = B - A by omega, write_neg]
    · rw [g2, if_neg (by omega), decide_eq_false (by omega), show ((B : Int) - A).natAbs = B - A by omega]
  · right; left
    rw [ho2, h]
    simp
  · right; right
    refine ⟨by rw [ho2, cmp_gt (by omega)], FloatKind.f32.format.write (.number false (A - B) c), ?_⟩
    obtain ⟨r1, r2⟩ := write_range (A - B) c (by omega) hcc
    refine ⟨r1, r2, ?_⟩
    rw [g1, if_neg (by omega), decide_eq_false (by omega), show ((A : Int) - B).natAbs = A - B by omega]
end Fk
end Go.Proofs.Ytcgnmnbjgamedaa

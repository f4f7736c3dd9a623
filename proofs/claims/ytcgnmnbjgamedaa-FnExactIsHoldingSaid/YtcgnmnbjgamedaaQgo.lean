
/-
Lower bounds of 32-bit sums, halves and quotients, and what a quotient by them is at most. Conditions: none.
-/
import Derived.Test.YtcgnmnbjgamedaaQge
import Derived.Test.YtcgnmnbjgamedaaExB
namespace Go.Proofs.Ytcgnmnbjgamedaa
namespace Fk
open Go
set_option linter.unusedVariables false

def QGC (c : Option Nat) (n : Nat) (e : Int) : Prop := ∃ x, c = some x ∧ QGE .f32 x n e
theorem wr32 (m : Nat) (p : Int) (n : Nat) (e : Int) (h : Qr n e m p) (hn : n < 16777216) (he : -149 ≤ e) : QGE .f32 (FloatKind.f32.format.write (.number false m p)) n e :=
  QGE_write .f32 m p n e h (by rw [bin32]; omega) (by rw [show FloatKind.f32.format.leastPlace = -149 by decide]; exact he) (by decide) (by decide)
theorem inf32 : FloatKind.f32.decode (FloatKind.f32.format.write (.infinity false)) = .infinity false := by decide
theorem QGC_add {c d : Option Nat} {n n' : Nat} {e : Int} (hc : QGC c n e) (hd : QGC d n' e) (hN : n + n' < 16777216) (he : -149 ≤ e) : QGC (fop .add .f32 c d) (n + n') e := by
  obtain ⟨x, rfl, hx⟩ := hc
  obtain ⟨y, rfl, hy⟩ := hd
  have h : fop .add .f32 (some x) (some y) = ((FloatKind.f32.decode x).sum (FloatKind.f32.decode y)).map FloatKind.f32.format.write := rfl
  rw [h]
  rcases hx with ⟨m, p, a1, a2⟩ | a1
  · rcases hy with ⟨m', q, b1, b2⟩ | b1
    · rw [a1, b1]
      have sg : ∀ (a b : Nat), Ieee.signed false a b = ((a * 2 ^ b : Nat) : Int) := fun a b => by show ((a <<< b : Nat) : Int) = _; rw [Nat.shiftLeft_eq]
      have hs : Ieee.signed false m (p - min p q).toNat + Ieee.signed false m' (q - min p q).toNat = ((m * 2 ^ (p - min p q).toNat + m' * 2 ^ (q - min p q).toNat : Nat) : Int) := by rw [sg, sg]; rfl
      generalize hT : m * 2 ^ (p - min p q).toNat + m' * 2 ^ (q - min p q).toNat = T at hs
      have hd : (Ieee.Datum.number false m p).sum (Ieee.Datum.number false m' q) = some (.number false T (min p q)) := by
        show some (Ieee.Datum.number (if Ieee.signed false m (p - min p q).toNat + Ieee.signed false m' (q - min p q).toNat = 0 then false && false else decide (Ieee.signed false m (p - min p q).toNat + Ieee.signed false m' (q - min p q).toNat < 0)) (Ieee.signed false m (p - min p q).toNat + Ieee.signed false m' (q - min p q).toNat).natAbs (min p q)) = _
        rw [hs, Int.natAbs_natCast]
        have : (if (T : Int) = 0 then false && false else decide ((T : Int) < 0)) = false := by
          split
          · rfl
          · exact decide_eq_false (by omega)
        rw [this]
      rw [hd]
      refine ⟨_, rfl, ?_⟩
      subst hT
      refine wr32 _ _ _ _ ?_ hN he
      rw [Qr_iff (c := min (min p q) e) (by omega) (by omega)]
      rw [Qr_iff (c := min (min p q) e) (by omega) (by omega)] at a2 b2
      rw [Nat.add_mul, Nat.add_mul, Nat.mul_assoc, Nat.mul_assoc, ← Nat.pow_add, ← Nat.pow_add]
      rw [show (p - min p q).toNat + (min p q - min (min p q) e).toNat = (p - min (min p q) e).toNat by omega, show (q - min p q).toNat + (min p q - min (min p q) e).toNat = (q - min (min p q) e).toNat by omega]
      exact Nat.add_le_add a2 b2
    · rw [a1, b1]
      exact ⟨_, rfl, .inr inf32⟩
  · rcases hy with ⟨m', q, b1, b2⟩ | b1
    · rw [a1, b1]
      exact ⟨_, rfl, .inr inf32⟩
    · rw [a1, b1]
      exact ⟨_, rfl, .inr inf32⟩
theorem half_dec : FloatKind.f32.decode 1056964608 = .number false 8388608 (-24) := by decide
theorem QGC_half {c : Option Nat} {n : Nat} {e : Int} (hc : QGC c n e) (hN : n < 16777216) (he : -149 ≤ e - 1) : QGC (fop .mul .f32 (some 1056964608) c) n (e - 1) := by
  obtain ⟨x, rfl, hx⟩ := hc
  have h : fop .mul .f32 (some 1056964608) (some x) = ((FloatKind.f32.decode 1056964608).product (FloatKind.f32.decode x)).map FloatKind.f32.format.write := rfl
  rw [h, half_dec]
  rcases hx with ⟨m, p, a1, a2⟩ | a1
  · rw [a1]
    refine ⟨_, rfl, wr32 (8388608 * m) (-24 + p) n (e - 1) ?_ hN he⟩
    rw [Qr_iff (c := min p e - 24) (by omega) (by omega)]
    rw [Qr_iff (c := min p e) (by omega) (by omega)] at a2
    rw [show (e - 1 - (min p e - 24)).toNat = (e - min p e).toNat + 23 by omega, show (-24 + p - (min p e - 24)).toNat = (p - min p e).toNat by omega, Nat.pow_add, ← Nat.mul_assoc]
    have := Nat.mul_le_mul_right (2 ^ 23) a2
    rw [Nat.mul_comm 8388608 m, Nat.mul_assoc m, Nat.mul_comm 8388608, ← Nat.mul_assoc]
    exact this
  · rw [a1]; exact ⟨_, rfl, .inr inf32⟩
theorem K_dec : FloatKind.f32.decode 1067028242 = .number false 10063634 (-23) := by decide
/-- A number that is divided by 1.1996786. -/
theorem QGC_K {h : Nat} {m : Nat} {p a : Int} (hd : FloatKind.f32.decode h = .number false m p) (h0 : m ≠ 0) (ha : a = p + m.log2) (he : -149 ≤ a - 1) : QGC (fop .quo .f32 (some h) (some 1067028242)) 1 (a - 1) := by
  have e : fop .quo .f32 (some h) (some 1067028242) = ((FloatKind.f32.decode h).quotient 25 (FloatKind.f32.decode 1067028242)).map FloatKind.f32.format.write := rfl
  rw [e, hd, K_dec]
  have el : (10063634 : Nat).log2 = 23 := by decide
  refine ⟨_, rfl, wr32 (2 * (m <<< (25 + (10063634 : Nat).log2 - m.log2) / 10063634) + (m <<< (25 + (10063634 : Nat).log2 - m.log2) % 10063634 != 0).toNat) (p - (-23) - ((25 + (10063634 : Nat).log2 - m.log2 : Nat) : Int) - 1) 1 (a - 1) ?_ (by decide) he⟩
  rw [el, Nat.shiftLeft_eq]
  generalize hmore : 25 + 23 - m.log2 = more
  have hm1 : 2 ^ m.log2 ≤ m := Nat.log2_self_le h0
  have hD : 2 ^ 48 ≤ m * 2 ^ more := by
    refine Nat.le_trans ?_ (Nat.mul_le_mul_right _ hm1)
    rw [← Nat.pow_add]
    exact Nat.pow_le_pow_right (by decide) (by omega)
  have hD2 : 2 ^ (m.log2 + more) ≤ m * 2 ^ more := by rw [Nat.pow_add]; exact Nat.mul_le_mul_right _ hm1
  obtain ⟨L, hL⟩ : ∃ L : Nat, m.log2 + more = 48 + L := ⟨m.log2 + more - 48, by omega⟩
  rw [hL] at hD2
  have hF : 2 ^ (24 + L) ≤ m * 2 ^ more / 10063634 := by
    rw [Nat.le_div_iff_mul_le (by decide)]
    refine Nat.le_trans ?_ hD2
    rw [show 48 + L = (24 + L) + 24 by omega, Nat.pow_add (2) (24 + L) 24]
    exact Nat.mul_le_mul_left _ (by decide)
  rw [Qr_iff (c := p - -23 - (more : Int) - 1) (by omega) (by omega), show (p - -23 - (more : Int) - 1 - (p - -23 - (more : Int) - 1)).toNat = 0 by omega, Nat.pow_zero, Nat.mul_one, Nat.one_mul]
  refine Nat.le_trans (Nat.pow_le_pow_right (by decide) (show (a - 1 - (p - -23 - (more : Int) - 1)).toNat ≤ 24 + L + 1 by omega)) ?_
  rw [Nat.pow_succ]
  omega
/-- A number of at least two to the power of e, for quotients. -/
theorem QGE.lbk {x : Nat} {e : Int} (h : QGE .f32 x 1 e) (hd : ¬ FloatKind.f32.decode x = .infinity false) : LBk .f32 (some x) e := by
  rcases h with ⟨m, p, h1, h2⟩ | h
  · have h0 : m ≠ 0 := by
      rintro rfl
      unfold Qr at h2
      rw [Nat.zero_mul, Nat.one_mul] at h2
      have := Nat.two_pow_pos (e - p).toNat
      omega
    refine ⟨x, false, m, p, rfl, h1, h0, ?_⟩
    have h3 : m < 2 ^ (m.log2 + 1) := Nat.lt_log2_self
    have h4 := (Qr_iff (c := min e p) (by omega) (by omega)).1 h2
    rw [Nat.one_mul] at h4
    have h5 : m * 2 ^ (p - min e p).toNat < 2 ^ (m.log2 + 1 + (p - min e p).toNat) := by rw [Nat.pow_add]; exact Nat.mul_lt_mul_of_pos_right h3 (Nat.two_pow_pos _)
    have h6 := (Nat.pow_lt_pow_iff_right (by decide)).1 (Nat.lt_of_le_of_lt h4 h5)
    omega
  · exact absurd h hd
/-- What a number is divided by at least two to the power of e. -/
theorem quo_arg {h c : Nat} {a e : Int} (hh : QLE .f32 h 1 a) (hc : QGE .f32 c 1 e) (hpos : ∃ m p, FloatKind.f32.decode h = .number false m p) (hae : a - e ≤ 6) (hlo : -140 ≤ a - e) : ∃ x, fop .quo .f32 (some h) (some c) = some x ∧ QLE .f32 x 1 6 := by
  by_cases hd : FloatKind.f32.decode c = .infinity false
  · obtain ⟨m, p, hm⟩ := hpos
    have e1 : fop .quo .f32 (some h) (some c) = ((FloatKind.f32.decode h).quotient 25 (FloatKind.f32.decode c)).map FloatKind.f32.format.write := rfl
    rw [e1, hm, hd]
    exact ⟨_, rfl, QLE_write .f32 _ 0 0 1 6 Qr.zero (by rw [bin32]; decide) (ok32 (by decide) (by decide))⟩
  · have h1 := QLC_quo ⟨h, rfl, hh⟩ (hc.lbk hd) (by rw [bin32]; decide) (ok32 hlo (by omega))
    obtain ⟨x, h2, h3⟩ := h1
    refine ⟨x, h2, h3.mono ?_⟩
    rw [Qr_iff (c := a - e) (by omega) (by omega), Nat.one_mul, Nat.one_mul]
    exact Nat.pow_le_pow_right (by decide) (by omega)
theorem neg32 {x : Nat} (hx : x < 4294967296) : Op.negFloat .f32 x < 4294967296 ∧ Op.negFloat .f32 x % 2147483648 = x % 2147483648 := by
  unfold Op.negFloat
  show (x ^^^ 2147483648) < 4294967296 ∧ (x ^^^ 2147483648) % 2147483648 = x % 2147483648
  constructor
  · have := Nat.xor_lt_two_pow (n := 32) (x := x) (y := 2147483648) (by rw [show (2 : Nat) ^ 32 = 4294967296 by decide]; exact hx) (by decide)
    rwa [show (2 : Nat) ^ 32 = 4294967296 by decide] at this
  · have e : (x ^^^ 2 ^ 31) % 2 ^ 31 = x % 2 ^ 31 := by
      apply Nat.eq_of_testBit_eq
      intro i
      rw [Nat.testBit_mod_two_pow, Nat.testBit_mod_two_pow, Nat.testBit_xor, Nat.testBit_two_pow]
      by_cases hi : i < 31
      · have : ¬ 31 = i := by omega
        simp [hi, this]
      · simp [hi]
    exact e
theorem read_mod (x : Nat) : ∃ s, FloatKind.f32.decode x = match FloatKind.f32.decode (x % 2147483648) with | .number _ m p => .number s m p | .infinity _ => .infinity s | .nan _ f => .nan s f := by
  have e5 : FloatKind.f32.format.signWeight = 2147483648 := by decide
  refine ⟨x / FloatKind.f32.format.signWeight % 2 == 1, ?_⟩
  show FloatKind.f32.format.read x = match FloatKind.f32.format.read (x % 2147483648) with | .number _ m p => _ | .infinity _ => _ | .nan _ f => _
  unfold Ieee.Format.read
  dsimp only
  rw [e5, Nat.mod_mod]
  split
  · rfl
  · split
    · rfl
    · split <;> rfl
theorem QLE_neg {x n : Nat} {e : Int} (hx : x < 4294967296) (h : QLE .f32 x n e) : QLE .f32 (Op.negFloat .f32 x) n e := by
  obtain ⟨s, m, p, h1, h2⟩ := h
  obtain ⟨s1, e1⟩ := read_mod x
  obtain ⟨s2, e2⟩ := read_mod (Op.negFloat .f32 x)
  rw [(neg32 hx).2] at e2
  cases hd : FloatKind.f32.decode (x % 2147483648) with
  | number a b c =>
    rw [hd] at e1 e2
    rw [e1] at h1
    cases h1
    exact ⟨s2, m, p, e2, h2⟩
  | infinity a => rw [hd] at e1; rw [e1] at h1; cases h1
  | nan a b => rw [hd] at e1; rw [e1] at h1; cases h1
end Fk
end Go.Proofs.Ytcgnmnbjgamedaa

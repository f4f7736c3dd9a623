
/-
Sizes of 64-bit numbers up to a power of two, itself allowed. Conditions: none.
-/
import Derived.Test.YtcgnmnbjgamedaaOpsB
namespace Go.Proofs.Ytcgnmnbjgamedaa
namespace Fk
open Go
set_option linter.unusedVariables false

theorem cut_exact (s : Bool) (a d : Nat) : Ieee.Toward.even.cut s (2 ^ (a + d)) d = 2 ^ a := by
  unfold Ieee.Toward.cut
  dsimp only
  rw [Nat.shiftLeft_eq, Nat.one_mul, Nat.log2_two_pow, Nat.min_eq_left (by omega), Nat.pow_add, Nat.mul_mod_left, Nat.mul_div_cancel _ (Nat.two_pow_pos _)]
  have : 0 < 2 ^ d := Nat.two_pow_pos _
  have e1 : decide (2 ^ d < 2 * 0) = false := decide_eq_false (by omega)
  have e2 : (2 ^ d == 2 * 0) = false := by rw [beq_eq_false_iff_ne]; omega
  rw [e1, e2]
  rfl

theorem nearest_le (f : Ieee.Format) (s : Bool) (m : Nat) (p e : Int) (h : m ≠ 0 → p ≤ e ∧ m ≤ 2 ^ (e - p).toNat) (he : f.leastPlace + f.fractionBits + 1 ≤ e) :
    ∃ r, f.nearest s m p = f.word s r ∧ r ≤ (e - f.fractionBits - f.leastPlace + 1).toNat * f.binade := by
  by_cases h0 : m = 0
  · obtain ⟨r, h1, h2, _⟩ := nearest_small f s m p e (fun h => absurd h0 h) he
    exact ⟨r, h1, h2⟩
  · obtain ⟨hp, hm⟩ := h h0
    by_cases hx : m = 2 ^ (e - p).toNat
    · unfold Ieee.Format.nearest
      dsimp only
      rw [if_neg h0]
      refine ⟨_, rfl, Nat.le_trans (Nat.min_le_left _ _) ?_⟩
      have hl : m.log2 = (e - p).toNat := by rw [hx, Nat.log2_two_pow]
      have hlast : max (p + (m.log2 : Int) - f.fractionBits) f.leastPlace = e - f.fractionBits := by rw [hl]; omega
      rw [hlast]
      have hk : Ieee.Toward.even.cut s (m <<< (p - (e - f.fractionBits)).toNat) ((e - f.fractionBits) - p).toNat = f.binade := by
        rw [hx, Nat.shiftLeft_eq, ← Nat.pow_add]
        have := cut_exact s f.fractionBits ((e - f.fractionBits) - p).toNat
        rw [← show f.binade = 2 ^ f.fractionBits from rfl] at this
        rw [← this]
        congr 2
        omega
      rw [hk]
      have : (e - f.fractionBits - f.leastPlace + 1).toNat = (e - f.fractionBits - f.leastPlace).toNat + 1 := by omega
      rw [this, Nat.add_mul]
      omega
    · have : p + (m.log2 : Int) < e := lg_of h0 hp (by omega)
      obtain ⟨r, h1, h2, _⟩ := nearest_small f s m p e (fun _ => this) he
      exact ⟨r, h1, h2⟩

/-- In size at most two to the power of e. -/
def LE (x : Nat) (e : Int) : Prop := ∃ s m p, FloatKind.f64.decode x = .number s m p ∧ p ≤ e ∧ m ≤ 2 ^ (e - p).toNat
theorem LE.mono {x : Nat} {e e' : Int} (h : LE x e) (he : e ≤ e') : LE x e' := by
  obtain ⟨s, m, p, h1, h2, h3⟩ := h
  exact ⟨s, m, p, h1, by omega, Nat.le_trans h3 (Nat.pow_le_pow_right (by decide) (by omega))⟩
theorem LE.mb {x : Nat} {e : Int} (h : LE x e) : MB .f64 x (e + 1) := by
  obtain ⟨s, m, p, h1, h2, h3⟩ := h
  refine ⟨s, m, p, h1, fun h0 => lg_of h0 (by omega) ?_⟩
  rw [show (e + 1 - p).toNat = (e - p).toNat + 1 by omega, Nat.pow_succ]
  have := Nat.two_pow_pos (e - p).toNat
  omega
theorem LE_write (s : Bool) (m : Nat) (p e : Int) (h : m ≠ 0 → p ≤ e ∧ m ≤ 2 ^ (e - p).toNat) (he : -1000 ≤ e) (hi : e ≤ 200) :
    LE (FloatKind.f64.format.write (.number s m p)) e := by
  have e1 : FloatKind.f64.format.binade = 4503599627370496 := by decide
  have e2 : FloatKind.f64.format.infRung = 9218868437227405312 := by decide
  have e3 : FloatKind.f64.format.leastPlace = -1074 := by decide
  have e4 : FloatKind.f64.format.fractionBits = 52 := by decide
  have e5 : FloatKind.f64.format.signWeight = 9223372036854775808 := by decide
  obtain ⟨r, hr, hb⟩ := nearest_le FloatKind.f64.format s m p e h (by rw [e3, e4]; omega)
  show LE (FloatKind.f64.format.nearest s m p) e
  rw [hr]
  rw [e1, e3, e4] at hb
  have hlt : r < 9218868437227405312 := by omega
  show ∃ s' m' p', FloatKind.f64.format.read (FloatKind.f64.format.word s r) = .number s' m' p' ∧ _
  unfold Ieee.Format.read
  dsimp only
  rw [word_mod _ _ _ (by rw [e5]; omega), e1, e2, e3]
  have t52 : (2 : Nat) ^ 52 = 4503599627370496 := by decide
  by_cases h1 : r < 4503599627370496
  · rw [if_pos h1]
    refine ⟨_, _, _, rfl, by omega, ?_⟩
    have : 2 ^ 52 ≤ 2 ^ (e - -1074).toNat := Nat.pow_le_pow_right (by decide) (by omega)
    omega
  · rw [if_neg h1, if_pos hlt]
    have hq : r / 4503599627370496 ≤ (e - 52 - -1074 + 1).toNat := by omega
    have hq1 : 1 ≤ r / 4503599627370496 := by omega
    refine ⟨_, _, _, rfl, by omega, ?_⟩
    by_cases hx : r / 4503599627370496 = (e - 52 - -1074 + 1).toNat
    · have : r % 4503599627370496 = 0 := by omega
      rw [this, ← t52]
      exact Nat.pow_le_pow_right (by decide) (by omega)
    · have : 2 ^ 53 ≤ 2 ^ (e - ((r / 4503599627370496 : Nat) - 1 + -1074 : Int)).toNat := Nat.pow_le_pow_right (by decide) (by omega)
      have t53 : (2 : Nat) ^ 53 = 9007199254740992 := by decide
      refine Nat.le_trans ?_ (Nat.le_trans this (Nat.pow_le_pow_right (by decide) (by omega)))
      omega

theorem LE.opp {x : Nat} {e : Int} (h : LE x e) : ∃ s m p, (FloatKind.f64.decode x).opposite = .number s m p ∧ p ≤ e ∧ m ≤ 2 ^ (e - p).toNat := by
  obtain ⟨s, m, p, h1, h2⟩ := h
  exact ⟨!s, m, p, by rw [h1]; rfl, h2⟩
theorem LE_sum {x y : Ieee.Datum} {s t : Bool} {m n : Nat} {p q e : Int} (hx : x = .number s m p) (hy : y = .number t n q) (hp : p ≤ e) (hm : m ≤ 2 ^ (e - p).toNat) (hq : q ≤ e) (hn : n ≤ 2 ^ (e - q).toNat)
    (h1 : -1000 ≤ e) (h2 : e ≤ 199) : ∃ d, x.sum y = some d ∧ LE (FloatKind.f64.format.write d) (e + 1) := by
  subst hx hy
  refine ⟨_, rfl, ?_⟩
  have hmm : m <<< (p - min p q).toNat ≤ 2 ^ (e - min p q).toNat := by
    rw [Nat.shiftLeft_eq]
    refine Nat.le_trans (Nat.mul_le_mul_right _ hm) ?_
    rw [← Nat.pow_add]
    exact Nat.pow_le_pow_right (by decide) (by omega)
  have hnn : n <<< (q - min p q).toNat ≤ 2 ^ (e - min p q).toNat := by
    rw [Nat.shiftLeft_eq]
    refine Nat.le_trans (Nat.mul_le_mul_right _ hn) ?_
    rw [← Nat.pow_add]
    exact Nat.pow_le_pow_right (by decide) (by omega)
  have := LE_write (if Ieee.signed s m (p - min p q).toNat + Ieee.signed t n (q - min p q).toNat = 0 then s && t else decide (Ieee.signed s m (p - min p q).toNat + Ieee.signed t n (q - min p q).toNat < 0))
    (Ieee.signed s m (p - min p q).toNat + Ieee.signed t n (q - min p q).toNat).natAbs (min p q) (e + 1) (fun h0 => ⟨by omega, ?_⟩) (by omega) (by omega)
  · simpa [Ieee.Datum.sum] using this
  · have a3 := Int.natAbs_add_le (Ieee.signed s m (p - min p q).toNat) (Ieee.signed t n (q - min p q).toNat)
    rw [signed_abs, signed_abs] at a3
    rw [show (e + 1 - min p q).toNat = (e - min p q).toNat + 1 by omega, Nat.pow_succ]
    omega
theorem LE_product {x y : Ieee.Datum} {s t : Bool} {m n : Nat} {p q e e' : Int} (hx : x = .number s m p) (hy : y = .number t n q) (hp : p ≤ e) (hm : m ≤ 2 ^ (e - p).toNat) (hq : q ≤ e') (hn : n ≤ 2 ^ (e' - q).toNat)
    (h1 : -1000 ≤ e + e') (h2 : e + e' ≤ 200) : ∃ d, x.product y = some d ∧ LE (FloatKind.f64.format.write d) (e + e') := by
  subst hx hy
  refine ⟨_, rfl, LE_write _ _ _ _ (fun h0 => ⟨by omega, ?_⟩) h1 h2⟩
  refine Nat.le_trans (Nat.mul_le_mul hm hn) ?_
  rw [← Nat.pow_add]
  exact Nat.pow_le_pow_right (by decide) (by omega)
theorem LE_quotient {x y : Ieee.Datum} {s t : Bool} {m n : Nat} {p q e e' : Int} (dg : Nat) (hx : x = .number s m p) (hy : y = .number t n q) (hp : p ≤ e) (hm : m ≤ 2 ^ (e - p).toNat) (hn0 : n ≠ 0) (hn : e' ≤ q + n.log2)
    (h1 : -1000 ≤ e - e') (h2 : e - e' ≤ 200) : ∃ d, x.quotient dg y = some d ∧ LE (FloatKind.f64.format.write d) (e - e') := by
  subst hx hy
  simp only [Ieee.Datum.quotient, if_neg hn0]
  refine ⟨_, rfl, LE_write _ _ _ _ (fun h0 => ?_) h1 h2⟩
  generalize hmore : dg + n.log2 - m.log2 = more at h0 ⊢
  rw [Nat.shiftLeft_eq] at h0 ⊢
  have hb : ((m * 2 ^ more % n != 0).toNat) ≤ 1 := by cases (m * 2 ^ more % n != 0) <;> simp
  by_cases m0 : m = 0
  · exfalso
    subst m0
    rw [Nat.zero_mul, Nat.zero_mod, Nat.zero_div] at h0
    exact h0 rfl
  · have hl : m.log2 ≤ (e - p).toNat := by
      have : 2 ^ m.log2 ≤ 2 ^ (e - p).toNat := Nat.le_trans (Nat.log2_self_le m0) hm
      exact (Nat.pow_le_pow_iff_right (by decide)).1 this
    have b2 : 2 ^ n.log2 ≤ n := Nat.log2_self_le hn0
    obtain ⟨K, hK⟩ : ∃ K, (e - p).toNat + more = K + n.log2 := ⟨(e - p).toNat + more - n.log2, by omega⟩
    have b3 : m * 2 ^ more ≤ 2 ^ K * 2 ^ n.log2 := by
      rw [← Nat.pow_add, ← hK, Nat.pow_add]; exact Nat.mul_le_mul_right _ hm
    have b4 : m * 2 ^ more ≤ 2 ^ K * n := Nat.le_trans b3 (Nat.mul_le_mul_left _ b2)
    have b5 : m * 2 ^ more / n ≤ 2 ^ K := by
      have := Nat.div_le_div_right (c := n) b4
      rwa [Nat.mul_div_cancel _ (Nat.pos_of_ne_zero hn0)] at this
    have b6 : 2 * (m * 2 ^ more / n) + (m * 2 ^ more % n != 0).toNat ≤ 2 ^ (K + 1) := by
      rw [Nat.pow_succ]
      by_cases hq : m * 2 ^ more / n = 2 ^ K
      · have := Nat.div_mul_le_self (m * 2 ^ more) n
        rw [hq] at this
        have hx : m * 2 ^ more = 2 ^ K * n := Nat.le_antisymm b4 this
        rw [hq, hx, Nat.mul_mod_left]
        simp; omega
      · omega
    refine ⟨by omega, Nat.le_trans b6 (Nat.pow_le_pow_right (by decide) (by omega))⟩

/-- A class that is a number of at most two to the power of e in size. -/
def LEC (c : Option Nat) (e : Int) : Prop := ∃ x, c = some x ∧ LE x e
theorem LEC.mono {c : Option Nat} {e e' : Int} (h : LEC c e) (he : e ≤ e') : LEC c e' := by
  obtain ⟨x, h1, h2⟩ := h; exact ⟨x, h1, h2.mono he⟩
theorem LEC.mbc {c : Option Nat} {e : Int} (h : LEC c e) : MBC c (e + 1) := by
  obtain ⟨x, h1, h2⟩ := h; exact ⟨x, h1, h2.mb⟩
theorem LEC_ovf {y : Nat} {c : Option Nat} {e : Int} (hv : FV .f64 y c) (h : LEC c e) (he : e ≤ 126) : ovf y = false := MBC_ovf hv h.mbc (by omega)
theorem LEC_add {c d : Option Nat} {e : Int} (hc : LEC c e) (hd : LEC d e) (h1 : -1000 ≤ e) (h2 : e ≤ 199) : LEC (fop .add .f64 c d) (e + 1) := by
  obtain ⟨x, rfl, s, m, p, a1, a2, a3⟩ := hc
  obtain ⟨y, rfl, t, n, q, b1, b2, b3⟩ := hd
  obtain ⟨r, hr, hm⟩ := LE_sum a1 b1 a2 a3 b2 b3 h1 h2
  refine ⟨_, ?_, hm⟩
  show ((FloatKind.f64.decode x).sum (FloatKind.f64.decode y)).map FloatKind.f64.format.write = _
  rw [hr]; rfl
theorem LEC_sub {c d : Option Nat} {e : Int} (hc : LEC c e) (hd : LEC d e) (h1 : -1000 ≤ e) (h2 : e ≤ 199) : LEC (fop .sub .f64 c d) (e + 1) := by
  obtain ⟨x, rfl, s, m, p, a1, a2, a3⟩ := hc
  obtain ⟨y, rfl, hy⟩ := hd
  obtain ⟨t, n, q, b1, b2, b3⟩ := hy.opp
  obtain ⟨r, hr, hm⟩ := LE_sum a1 b1 a2 a3 b2 b3 h1 h2
  refine ⟨_, ?_, hm⟩
  show ((FloatKind.f64.decode x).sum (FloatKind.f64.decode y).opposite).map FloatKind.f64.format.write = _
  rw [hr]; rfl
theorem LEC_mul {c d : Option Nat} {e e' : Int} (hc : LEC c e) (hd : LEC d e') (h1 : -1000 ≤ e + e') (h2 : e + e' ≤ 200) : LEC (fop .mul .f64 c d) (e + e') := by
  obtain ⟨x, rfl, s, m, p, a1, a2, a3⟩ := hc
  obtain ⟨y, rfl, t, n, q, b1, b2, b3⟩ := hd
  obtain ⟨r, hr, hm⟩ := LE_product a1 b1 a2 a3 b2 b3 h1 h2
  refine ⟨_, ?_, hm⟩
  show ((FloatKind.f64.decode x).product (FloatKind.f64.decode y)).map FloatKind.f64.format.write = _
  rw [hr]; rfl
theorem LEC_quo {c d : Option Nat} {e e' : Int} (hc : LEC c e) (hd : LBC d e') (h1 : -1000 ≤ e - e') (h2 : e - e' ≤ 200) : LEC (fop .quo .f64 c d) (e - e') := by
  obtain ⟨x, rfl, s, m, p, a1, a2, a3⟩ := hc
  obtain ⟨y, t, n, q, rfl, b1, b0, b2⟩ := hd
  obtain ⟨r, hr, hm⟩ := LE_quotient (FloatKind.f64.format.fractionBits + 2) a1 b1 a2 a3 b0 b2 h1 h2
  refine ⟨_, ?_, hm⟩
  show ((FloatKind.f64.decode x).quotient (FloatKind.f64.format.fractionBits + 2) (FloatKind.f64.decode y)).map FloatKind.f64.format.write = _
  rw [hr]; rfl
end Fk
end Go.Proofs.Ytcgnmnbjgamedaa

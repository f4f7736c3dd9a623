
/-
How great sums, products and quotients of floats are at most; what is written exactly. Conditions: none.
-/
import Derived.Test.YtcgnmnbjgamedaaMag
namespace Go.Proofs.Ytcgnmnbjgamedaa
namespace Fk
open Go
set_option linter.unusedVariables false

theorem lg_lt {m : Nat} {p e : Int} (h0 : m ≠ 0) (h : p + m.log2 < e) : m < 2 ^ (e - p).toNat := by
  refine (Nat.log2_lt h0).1 ?_
  omega
theorem lg_of {m : Nat} {p e : Int} (h0 : m ≠ 0) (hp : p ≤ e) (h : m < 2 ^ (e - p).toNat) : p + m.log2 < e := by
  have := (Nat.log2_lt h0).2 h
  omega
/-- Scaled to a common place. -/
theorem lg_scale {m : Nat} {p base e : Int} (hb : base ≤ p) (hbe : base ≤ e) (h : m ≠ 0 → p + m.log2 < e) : m <<< (p - base).toNat < 2 ^ (e - base).toNat := by
  rw [Nat.shiftLeft_eq]
  by_cases h0 : m = 0
  · subst h0; rw [Nat.zero_mul]; exact Nat.two_pow_pos _
  · have h1 := lg_lt h0 (h h0)
    have hpe : p ≤ e := by have := h h0; omega
    have : m * 2 ^ (p - base).toNat < 2 ^ (e - p).toNat * 2 ^ (p - base).toNat := Nat.mul_lt_mul_of_pos_right h1 (Nat.two_pow_pos _)
    rw [← Nat.pow_add] at this
    rw [show (e - base).toNat = (e - p).toNat + (p - base).toNat by omega]; exact this
theorem signed_abs (s : Bool) (m a : Nat) : (Ieee.signed s m a).natAbs = m <<< a := by
  unfold Ieee.signed
  split
  · rw [Int.natAbs_neg]; rfl
  · rfl

theorem MB_sum {k : FloatKind} {x y : Ieee.Datum} {s t : Bool} {m n : Nat} {p q e : Int} (hx : x = .number s m p) (hy : y = .number t n q) (hm : m ≠ 0 → p + m.log2 < e) (hn : n ≠ 0 → q + n.log2 < e)
    (hpe : p ≤ e ∨ q ≤ e) (h1 : k.format.leastPlace + k.format.fractionBits ≤ e) (h2 : e ≤ 99) : ∃ d, x.sum y = some d ∧ MB k (k.format.write d) (e + 2) := by
  subst hx hy
  refine ⟨_, rfl, ?_⟩
  have := MB_write k (if Ieee.signed s m (p - min p q).toNat + Ieee.signed t n (q - min p q).toNat = 0 then s && t else decide (Ieee.signed s m (p - min p q).toNat + Ieee.signed t n (q - min p q).toNat < 0))
    (Ieee.signed s m (p - min p q).toNat + Ieee.signed t n (q - min p q).toNat).natAbs (min p q) (e + 1) (fun h0 => ?_) (by omega) (by omega)
  · rw [show e + 2 = e + 1 + 1 by omega]
    have e1 : ((if Ieee.signed s m (p - min p q).toNat + Ieee.signed t n (q - min p q).toNat = 0 then s && t else decide (Ieee.signed s m (p - min p q).toNat + Ieee.signed t n (q - min p q).toNat < 0))) = (if Ieee.signed s m (p - min p q).toNat + Ieee.signed t n (q - min p q).toNat = 0 then s && t else decide (Ieee.signed s m (p - min p q).toNat + Ieee.signed t n (q - min p q).toNat < 0)) := rfl
    simpa [Ieee.Datum.sum] using this
  · have a1 := lg_scale (m := m) (p := p) (base := min p q) (e := e) (by omega) (by omega) hm
    have a2 := lg_scale (m := n) (p := q) (base := min p q) (e := e) (by omega) (by omega) hn
    have a3 := Int.natAbs_add_le (Ieee.signed s m (p - min p q).toNat) (Ieee.signed t n (q - min p q).toNat)
    rw [signed_abs, signed_abs] at a3
    refine lg_of h0 (by omega) ?_
    rw [show (e + 1 - min p q).toNat = (e - min p q).toNat + 1 by omega, Nat.pow_succ]
    omega

theorem MB_product {k : FloatKind} {x y : Ieee.Datum} {s t : Bool} {m n : Nat} {p q e e' : Int} (hx : x = .number s m p) (hy : y = .number t n q) (hm : m ≠ 0 → p + m.log2 < e) (hn : n ≠ 0 → q + n.log2 < e')
    (h1 : k.format.leastPlace + k.format.fractionBits + 1 ≤ e + e') (h2 : e + e' ≤ 100) : ∃ d, x.product y = some d ∧ MB k (k.format.write d) (e + e' + 1) := by
  subst hx hy
  refine ⟨_, rfl, MB_write k _ _ _ _ (fun h0 => ?_) h1 h2⟩
  have m0 : m ≠ 0 := fun h => h0 (by rw [h, Nat.zero_mul])
  have n0 : n ≠ 0 := fun h => h0 (by rw [h, Nat.mul_zero])
  have a1 := hm m0
  have a2 := hn n0
  have b1 : m < 2 ^ (m.log2 + 1) := Nat.lt_log2_self
  have b2 : n < 2 ^ (n.log2 + 1) := Nat.lt_log2_self
  have b3 : m * n < 2 ^ (m.log2 + 1 + (n.log2 + 1)) := by
    rw [Nat.pow_add]; exact Nat.mul_lt_mul_of_lt_of_le b1 (Nat.le_of_lt b2) (Nat.two_pow_pos _)
  have b4 := (Nat.log2_lt h0).2 b3
  omega

theorem MB_quotient {k : FloatKind} {x y : Ieee.Datum} {s t : Bool} {m n : Nat} {p q e e' : Int} (dg : Nat) (hx : x = .number s m p) (hy : y = .number t n q) (hm : m ≠ 0 → p + m.log2 < e) (hn0 : n ≠ 0) (hn : e' ≤ q + n.log2)
    (h1 : k.format.leastPlace + k.format.fractionBits + 1 ≤ e - e' + 1) (h2 : e - e' + 1 ≤ 100) (hd : 2 ≤ dg) : ∃ d, x.quotient dg y = some d ∧ MB k (k.format.write d) (e - e' + 2) := by
  subst hx hy
  simp only [Ieee.Datum.quotient, if_neg hn0]
  refine ⟨_, rfl, ?_⟩
  rw [show e - e' + 2 = e - e' + 1 + 1 by omega]
  refine MB_write k _ _ _ _ (fun h0 => ?_) h1 h2
  generalize hmore : dg + n.log2 - m.log2 = more at h0 ⊢
  rw [Nat.shiftLeft_eq] at h0 ⊢
  have hb : ((m * 2 ^ more % n != 0).toNat) ≤ 1 := by cases (m * 2 ^ more % n != 0) <;> simp
  generalize hbb : (m * 2 ^ more % n != 0).toNat = b at h0 hb ⊢
  by_cases m0 : m = 0
  · exfalso
    subst m0
    rw [Nat.zero_mul, Nat.zero_mod] at hbb
    rw [Nat.zero_mul, Nat.zero_div] at h0
    simp at hbb; omega
  · have a1 := hm m0
    have b1 : m < 2 ^ (m.log2 + 1) := Nat.lt_log2_self
    have b2 : 2 ^ n.log2 ≤ n := Nat.log2_self_le hn0
    have b3 : m * 2 ^ more < 2 ^ (m.log2 + 1 + more) := by
      rw [Nat.pow_add]; exact Nat.mul_lt_mul_of_pos_right b1 (Nat.two_pow_pos _)
    have b4 : m * 2 ^ more / n < 2 ^ (m.log2 + 1 + more - n.log2) := by
      rw [Nat.div_lt_iff_lt_mul (Nat.pos_of_ne_zero hn0)]
      refine Nat.lt_of_lt_of_le b3 ?_
      refine Nat.le_trans ?_ (Nat.mul_le_mul_left _ b2)
      rw [← Nat.pow_add]
      exact Nat.pow_le_pow_right (by decide) (by omega)
    have b5 : 2 * (m * 2 ^ more / n) + b < 2 ^ (m.log2 + 1 + more - n.log2 + 1) := by
      rw [Nat.pow_succ]; omega
    have b6 := (Nat.log2_lt h0).2 b5
    omega

/-- A class that is a number less than two to the power of e in size. -/
def MBC (c : Option Nat) (e : Int) : Prop := ∃ x, c = some x ∧ MB .f64 x e
theorem MBC.mono {c : Option Nat} {e e' : Int} (h : MBC c e) (he : e ≤ e') : MBC c e' := by
  obtain ⟨x, h1, h2⟩ := h; exact ⟨x, h1, h2.mono he⟩
theorem MBC_ovf {y : Nat} {c : Option Nat} {e : Int} (hv : FV .f64 y c) (h : MBC c e) (he : e ≤ 127) : ovf y = false := by
  obtain ⟨x, h1, h2⟩ := h
  subst h1
  obtain rfl := hv.num
  exact ovf_small (h2.mono he)
theorem MB.opp {x : Nat} {e : Int} (h : MB .f64 x e) : ∃ s m p, (FloatKind.f64.decode x).opposite = .number s m p ∧ (m ≠ 0 → p + m.log2 < e) := by
  obtain ⟨s, m, p, h1, h2⟩ := h
  exact ⟨!s, m, p, by rw [h1]; rfl, h2⟩
theorem place_le {k : FloatKind} {x : Nat} {s : Bool} {m : Nat} {p : Int} (h : k.decode x = .number s m p) : p ≤ 971 := by
  have h' : k.format.read x = .number s m p := h
  unfold Ieee.Format.read at h'
  dsimp only at h'
  cases k
  · have e1 : FloatKind.f32.format.binade = 8388608 := by decide
    have e2 : FloatKind.f32.format.infRung = 2139095040 := by decide
    have e3 : FloatKind.f32.format.leastPlace = -149 := by decide
    rw [e1, e2, e3] at h'
    split at h'
    · cases h'; omega
    · split at h'
      · cases h'; omega
      · split at h' <;> cases h'
  · have e1 : FloatKind.f64.format.binade = 4503599627370496 := by decide
    have e2 : FloatKind.f64.format.infRung = 9218868437227405312 := by decide
    have e3 : FloatKind.f64.format.leastPlace = -1074 := by decide
    rw [e1, e2, e3] at h'
    split at h'
    · cases h'; omega
    · split at h'
      · cases h'; omega
      · split at h' <;> cases h'

theorem zero_place {x : Nat} {s : Bool} {p : Int} (h : FloatKind.f64.decode x = .number s 0 p) : p = -1074 := by
  have h' : FloatKind.f64.format.read x = .number s 0 p := h
  unfold Ieee.Format.read at h'
  dsimp only at h'
  have e1 : FloatKind.f64.format.binade = 4503599627370496 := by decide
  have e3 : FloatKind.f64.format.leastPlace = -1074 := by decide
  rw [e1, e3] at h'
  split at h'
  · simp only [Ieee.Datum.number.injEq] at h'
    exact h'.2.2.symm
  · split at h'
    · simp only [Ieee.Datum.number.injEq] at h'
      omega
    · split at h' <;> cases h'
theorem MB.le {x : Nat} {e : Int} (h : MB .f64 x e) (he : -1074 ≤ e) : ∃ s m p, FloatKind.f64.decode x = .number s m p ∧ (m ≠ 0 → p + m.log2 < e) ∧ p ≤ e := by
  obtain ⟨s, m, p, h1, h2⟩ := h
  refine ⟨s, m, p, h1, h2, ?_⟩
  by_cases h0 : m = 0
  · subst h0; rw [zero_place h1]; exact he
  · have := h2 h0; omega
theorem MBC_add {c d : Option Nat} {e : Int} (hc : MBC c e) (hd : MBC d e) (h1 : -1000 ≤ e) (h2 : e ≤ 99) : MBC (fop .add .f64 c d) (e + 2) := by
  obtain ⟨x, rfl, hx⟩ := hc
  obtain ⟨y, rfl, hy⟩ := hd
  obtain ⟨s, m, p, a1, a2, a3⟩ := hx.le (by omega)
  obtain ⟨t, n, q, b1, b2, b3⟩ := hy.le (by omega)
  have hL : FloatKind.f64.format.leastPlace + FloatKind.f64.format.fractionBits = -1022 := by decide
  obtain ⟨r, hr, hm⟩ := MB_sum (k := .f64) a1 b1 a2 b2 (.inl a3) (by omega) h2
  refine ⟨_, ?_, hm⟩
  show ((FloatKind.f64.decode x).sum (FloatKind.f64.decode y)).map FloatKind.f64.format.write = _
  rw [hr]; rfl
theorem MBC_sub {c d : Option Nat} {e : Int} (hc : MBC c e) (hd : MBC d e) (h1 : -1000 ≤ e) (h2 : e ≤ 99) : MBC (fop .sub .f64 c d) (e + 2) := by
  obtain ⟨x, rfl, hx⟩ := hc
  obtain ⟨y, rfl, hy⟩ := hd
  obtain ⟨s, m, p, a1, a2, a3⟩ := hx.le (by omega)
  obtain ⟨t, n, q, b1, b2, b3⟩ := hy.le (by omega)
  have b1' : (FloatKind.f64.decode y).opposite = .number (!t) n q := by rw [b1]; rfl
  have hL : FloatKind.f64.format.leastPlace + FloatKind.f64.format.fractionBits = -1022 := by decide
  obtain ⟨r, hr, hm⟩ := MB_sum (k := .f64) a1 b1' a2 b2 (.inl a3) (by omega) h2
  refine ⟨_, ?_, hm⟩
  show ((FloatKind.f64.decode x).sum (FloatKind.f64.decode y).opposite).map FloatKind.f64.format.write = _
  rw [hr]; rfl
theorem MBC_mul {c d : Option Nat} {e e' : Int} (hc : MBC c e) (hd : MBC d e') (h1 : -1000 ≤ e + e') (h2 : e + e' ≤ 100) : MBC (fop .mul .f64 c d) (e + e' + 1) := by
  obtain ⟨x, rfl, s, m, p, a1, a2⟩ := hc
  obtain ⟨y, rfl, t, n, q, b1, b2⟩ := hd
  have hL : FloatKind.f64.format.leastPlace + FloatKind.f64.format.fractionBits + 1 = -1021 := by decide
  obtain ⟨r, hr, hm⟩ := MB_product (k := .f64) a1 b1 a2 b2 (by omega) h2
  refine ⟨_, ?_, hm⟩
  show ((FloatKind.f64.decode x).product (FloatKind.f64.decode y)).map FloatKind.f64.format.write = _
  rw [hr]; rfl
/-- A number that is at least two to the power of e in size. -/
def LBC (c : Option Nat) (e : Int) : Prop := ∃ x s m p, c = some x ∧ FloatKind.f64.decode x = .number s m p ∧ m ≠ 0 ∧ e ≤ p + m.log2
theorem MBC_quo {c d : Option Nat} {e e' : Int} (hc : MBC c e) (hd : LBC d e') (h1 : -1000 ≤ e - e') (h2 : e - e' ≤ 99) : MBC (fop .quo .f64 c d) (e - e' + 2) := by
  obtain ⟨x, rfl, s, m, p, a1, a2⟩ := hc
  obtain ⟨y, t, n, q, rfl, b1, b0, b2⟩ := hd
  have hL : FloatKind.f64.format.leastPlace + FloatKind.f64.format.fractionBits + 1 = -1021 := by decide
  obtain ⟨r, hr, hm⟩ := MB_quotient (k := .f64) (FloatKind.f64.format.fractionBits + 2) a1 b1 a2 b0 b2 (by omega) (by omega) (by decide)
  refine ⟨_, ?_, hm⟩
  show ((FloatKind.f64.decode x).quotient (FloatKind.f64.format.fractionBits + 2) (FloatKind.f64.decode y)).map FloatKind.f64.format.write = _
  rw [hr]; rfl
end Fk
end Go.Proofs.Ytcgnmnbjgamedaa

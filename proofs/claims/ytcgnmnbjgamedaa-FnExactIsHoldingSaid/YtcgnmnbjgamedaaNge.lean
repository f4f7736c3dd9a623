
/-
Lower bounds of results that are numbers; the exponential function of one and more is at least two; a film is not narrower than its neck. Conditions: none.
-/
import Derived.Test.YtcgnmnbjgamedaaNkN
import Derived.Test.YtcgnmnbjgamedaaNn
namespace Go.Proofs.Ytcgnmnbjgamedaa
namespace Fk
open Go
set_option linter.unusedVariables false

def NGC (k : FloatKind) (c : Option Nat) (n : Nat) (e : Int) : Prop := ∃ x m p, c = some x ∧ k.decode x = .number false m p ∧ Qr n e m p
theorem NGC.mono {k : FloatKind} {c : Option Nat} {n n' : Nat} {e e' : Int} (h : NGC k c n e) (h' : Qr n' e' n e) : NGC k c n' e' := by
  obtain ⟨x, m, p, h1, h2, h3⟩ := h
  exact ⟨x, m, p, h1, h2, h'.trans h3⟩
def Okl (k : FloatKind) : Prop := k.format.infRung < k.format.signWeight ∧ k.format.binade ≤ k.format.infRung
theorem okl64 : Okl .f64 := by unfold Okl; decide
theorem okl32 : Okl .f32 := by unfold Okl; decide
/-- A result that is known to be a number. -/
theorem ngc_of {k : FloatKind} {m : Nat} {p : Int} {n N : Nat} {e E : Int} {c : Option Nat} (hc : c = some (k.format.write (.number false m p))) (hq : QLC k c N E) (h : Qr n e m p) (hn : n < 2 * k.format.binade) (he : k.format.leastPlace ≤ e) (ho : Okl k) : NGC k c n e := by
  obtain ⟨x, h1, s, a, b, h2, _⟩ := hq
  rcases QGE_write k m p n e h hn he ho.1 ho.2 with ⟨m', p', k1, k2⟩ | k1
  · exact ⟨_, m', p', hc, k1, k2⟩
  · exfalso
    rw [hc] at h1
    cases h1
    rw [k1] at h2
    cases h2
theorem NGC_add {k : FloatKind} {c d : Option Nat} {n n' N : Nat} {e E : Int} (hc : NGC k c n e) (hd : NGC k d n' e) (hq : QLC k (fop .add k c d) N E) (hN : n + n' < 2 * k.format.binade) (he : k.format.leastPlace ≤ e) (ho : Okl k) : NGC k (fop .add k c d) (n + n') e := by
  obtain ⟨x, m, p, rfl, a1, a2⟩ := hc
  obtain ⟨y, m', q, rfl, b1, b2⟩ := hd
  have h : fop .add k (some x) (some y) = ((k.decode x).sum (k.decode y)).map k.format.write := rfl
  have sg : ∀ (a b : Nat), Ieee.signed false a b = ((a * 2 ^ b : Nat) : Int) := fun a b => by show ((a <<< b : Nat) : Int) = _; rw [Nat.shiftLeft_eq]
  have hs : Ieee.signed false m (p - min p q).toNat + Ieee.signed false m' (q - min p q).toNat = ((m * 2 ^ (p - min p q).toNat + m' * 2 ^ (q - min p q).toNat : Nat) : Int) := by rw [sg, sg]; rfl
  generalize hT : m * 2 ^ (p - min p q).toNat + m' * 2 ^ (q - min p q).toNat = T at hs
  have hd : (Ieee.Datum.number false m p).sum (Ieee.Datum.number false m' q) = some (.number false T (min p q)) := by
    show some (Ieee.Datum.number (if Ieee.signed false m (p - min p q).toNat + Ieee.signed false m' (q - min p q).toNat = 0 then false && false else decide (Ieee.signed false m (p - min p q).toNat + Ieee.signed false m' (q - min p q).toNat < 0)) (Ieee.signed false m (p - min p q).toNat + Ieee.signed false m' (q - min p q).toNat).natAbs (min p q)) = _
    rw [hs, Int.natAbs_natCast]
    have : (if (T : Int) = 0 then false && false else decide ((T : Int) < 0)) = false := by
      split
      · rfl
      · exact decide_eq_false (by omega)
    rw [this]
  refine ngc_of (by rw [h, a1, b1, hd]; rfl) hq ?_ hN he ho
  subst hT
  rw [Qr_iff (c := min (min p q) e) (by omega) (by omega)]
  rw [Qr_iff (c := min (min p q) e) (by omega) (by omega)] at a2 b2
  rw [Nat.add_mul, Nat.add_mul, Nat.mul_assoc, Nat.mul_assoc, ← Nat.pow_add, ← Nat.pow_add]
  rw [show (p - min p q).toNat + (min p q - min (min p q) e).toNat = (p - min (min p q) e).toNat by omega, show (q - min p q).toNat + (min p q - min (min p q) e).toNat = (q - min (min p q) e).toNat by omega]
  exact Nat.add_le_add a2 b2
theorem NGC_mul {k : FloatKind} {c d : Option Nat} {n n' N : Nat} {e e' E : Int} (hc : NGC k c n e) (hd : NGC k d n' e') (hq : QLC k (fop .mul k c d) N E) (hN : n * n' < 2 * k.format.binade) (he : k.format.leastPlace ≤ e + e') (ho : Okl k) : NGC k (fop .mul k c d) (n * n') (e + e') := by
  obtain ⟨x, m, p, rfl, a1, a2⟩ := hc
  obtain ⟨y, m', q, rfl, b1, b2⟩ := hd
  have h : fop .mul k (some x) (some y) = ((k.decode x).product (k.decode y)).map k.format.write := rfl
  refine ngc_of (m := m * m') (p := p + q) (by rw [h, a1, b1]; rfl) hq ?_ hN he ho
  rw [Qr_iff (c := min p e) (by omega) (by omega)] at a2
  rw [Qr_iff (c := min q e') (by omega) (by omega)] at b2
  rw [Qr_iff (c := min p e + min q e') (by omega) (by omega)]
  have := Nat.mul_le_mul a2 b2
  rw [show (p + q - (min p e + min q e')).toNat = (p - min p e).toNat + (q - min q e').toNat by omega, show (e + e' - (min p e + min q e')).toNat = (e - min p e).toNat + (e' - min q e').toNat by omega, Nat.pow_add, Nat.pow_add]
  rw [Nat.mul_mul_mul_comm, Nat.mul_mul_mul_comm m]
  exact this
theorem NGC_quo {k : FloatKind} {c : Option Nat} {y m' n n2 n3 N : Nat} {q e e2 e3 E : Int} (hc : NGC k c n e) (hy : k.decode y = .number false m' q) (h0 : m' ≠ 0) (hu : Qr m' q n2 e2) (hr : Qr (n3 * n2) (e3 + e2) n e) (hq : QLC k (fop .quo k c (some y)) N E) (hN : n3 < 2 * k.format.binade) (he : k.format.leastPlace ≤ e3) (ho : Okl k) : NGC k (fop .quo k c (some y)) n3 e3 := by
  obtain ⟨x, m, p, rfl, a1, a2⟩ := hc
  have h : fop .quo k (some x) (some y) = ((k.decode x).quotient (k.format.fractionBits + 2) (k.decode y)).map k.format.write := rfl
  have hrel : Qr (n3 * m') (e3 + q) m p := by
    refine Qr.trans (Qr.trans ?_ hr) a2
    rw [Qr_iff (c := min q e2) (by omega) (by omega)] at hu
    rw [Qr_iff (c := e3 + min q e2) (by omega) (by omega), show (e3 + q - (e3 + min q e2)).toNat = (q - min q e2).toNat by omega, show (e3 + e2 - (e3 + min q e2)).toNat = (e2 - min q e2).toNat by omega, Nat.mul_assoc, Nat.mul_assoc]
    exact Nat.mul_le_mul_left _ hu
  by_cases hn0 : n3 = 0
  · subst hn0
    refine (ngc_of (n := 0) (e := e3) (m := 2 * (m <<< (k.format.fractionBits + 2 + m'.log2 - m.log2) / m') + (m <<< (k.format.fractionBits + 2 + m'.log2 - m.log2) % m' != 0).toNat) (p := p - q - ((k.format.fractionBits + 2 + m'.log2 - m.log2 : Nat) : Int) - 1) ?_ hq Qr.zero hN he ho)
    rw [h, a1, hy]
    simp only [Ieee.Datum.quotient, if_neg h0]
    rfl
  have m0 : m ≠ 0 := by
    rintro rfl
    unfold Qr at hrel
    rw [Nat.zero_mul] at hrel
    have := Nat.mul_pos (Nat.mul_pos (Nat.pos_of_ne_zero hn0) (Nat.pos_of_ne_zero h0)) (Nat.two_pow_pos (e3 + q - p).toNat)
    omega
  refine (ngc_of (m := 2 * (m <<< (k.format.fractionBits + 2 + m'.log2 - m.log2) / m') + (m <<< (k.format.fractionBits + 2 + m'.log2 - m.log2) % m' != 0).toNat) (p := p - q - ((k.format.fractionBits + 2 + m'.log2 - m.log2 : Nat) : Int) - 1) ?_ hq ?_ hN he ho)
  · rw [h, a1, hy]
    simp only [Ieee.Datum.quotient, if_neg h0]
    rfl
  · have hb : n3 < 2 ^ (k.format.fractionBits + 1) := by rw [Nat.pow_succ, Nat.mul_comm]; exact hN
    generalize k.format.fractionBits = fb at *
    generalize hmore : fb + 2 + m'.log2 - m.log2 = more
    rw [Nat.shiftLeft_eq]
    have hm1 : 2 ^ m.log2 ≤ m := Nat.log2_self_le m0
    have hm2 : m' < 2 ^ (m'.log2 + 1) := Nat.lt_log2_self
    have hF0 : 2 ^ (fb + 1) ≤ m * 2 ^ more / m' := by
      rw [Nat.le_div_iff_mul_le (Nat.pos_of_ne_zero h0)]
      have h1 : 2 ^ (fb + 1) * m' ≤ 2 ^ (fb + 1) * 2 ^ (m'.log2 + 1) := Nat.mul_le_mul_left _ (Nat.le_of_lt hm2)
      have h2 : 2 ^ (m.log2 + more) ≤ m * 2 ^ more := by rw [Nat.pow_add]; exact Nat.mul_le_mul_right _ hm1
      rw [← Nat.pow_add] at h1
      exact Nat.le_trans h1 (Nat.le_trans (Nat.pow_le_pow_right (by decide) (by omega)) h2)
    have hmain : Qr n3 e3 (m * 2 ^ more / m') (p - q - more) := by
      by_cases hu : p - q - (more : Int) ≤ e3
      · rw [Qr_iff (c := p - q - (more : Int)) hu (by omega), show (p - q - (more : Int) - (p - q - (more : Int))).toNat = 0 by omega, Nat.pow_zero, Nat.mul_one]
        rw [Nat.le_div_iff_mul_le (Nat.pos_of_ne_zero h0)]
        have h1 := (Qr_iff (c := min p (e3 + q)) (by omega) (by omega)).1 hrel
        have h2 : n3 * 2 ^ (e3 - (p - q - (more : Int))).toNat * m' * 2 ^ (p - min p (e3 + q)).toNat ≤ m * 2 ^ more * 2 ^ (p - min p (e3 + q)).toNat := by
          have h3 := Nat.mul_le_mul_right (2 ^ more) h1
          rw [Nat.mul_assoc m, Nat.mul_comm (2 ^ more), ← Nat.mul_assoc m]
          refine Nat.le_trans ?_ h3
          rw [Nat.mul_assoc (n3 * m'), ← Nat.pow_add, Nat.mul_right_comm n3, Nat.mul_assoc (n3 * m'), ← Nat.pow_add]
          exact Nat.mul_le_mul_left _ (Nat.pow_le_pow_right (by decide) (by omega))
        exact Nat.le_of_mul_le_mul_right h2 (Nat.two_pow_pos _)
      · rw [Qr_iff (c := e3) (by omega) (by omega), show (e3 - e3).toNat = 0 by omega, Nat.pow_zero, Nat.mul_one]
        have := Nat.le_trans (Nat.le_of_lt hb) hF0
        refine Nat.le_trans this ?_
        have h3 := Nat.mul_le_mul_left (m * 2 ^ more / m') (Nat.one_le_two_pow (n := (p - q - (more : Int) - e3).toNat))
        omega
    refine hmain.trans ?_
    rw [Qr_iff (c := p - q - (more : Int) - 1) (by omega) (by omega), show (p - q - (more : Int) - (p - q - (more : Int) - 1)).toNat = 1 by omega, show (p - q - (more : Int) - 1 - (p - q - (more : Int) - 1)).toNat = 0 by omega]
    omega
end Fk
end Go.Proofs.Ytcgnmnbjgamedaa

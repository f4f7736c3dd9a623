
/-
Sizes of results up to a small number times a power of two. Conditions: none.
-/
import Derived.Test.YtcgnmnbjgamedaaQle
namespace Go.Proofs.Ytcgnmnbjgamedaa
namespace Fk
open Go
set_option linter.unusedVariables false

theorem shift_up {m : Nat} {p b c : Int} (h1 : b ≤ p) (h2 : c ≤ b) : m <<< (p - b).toNat * 2 ^ (b - c).toNat = m * 2 ^ (p - c).toNat := by
  rw [Nat.shiftLeft_eq, Nat.mul_assoc, ← Nat.pow_add]
  congr 2
  omega
theorem QLE_sum {k : FloatKind} {x y : Ieee.Datum} {s t : Bool} {m n N N' : Nat} {p q e : Int} (hx : x = .number s m p) (hy : y = .number t n q) (hm : Qr m p N e) (hn : Qr n q N' e) (hN : N + N' < 2 * k.format.binade) (ho : Okf k e) : ∃ d, x.sum y = some d ∧ QLE k (k.format.write d) (N + N') e := by
  subst hx hy
  refine ⟨_, rfl, ?_⟩
  have := QLE_write k (if Ieee.signed s m (p - min p q).toNat + Ieee.signed t n (q - min p q).toNat = 0 then s && t else decide (Ieee.signed s m (p - min p q).toNat + Ieee.signed t n (q - min p q).toNat < 0))
    (Ieee.signed s m (p - min p q).toNat + Ieee.signed t n (q - min p q).toNat).natAbs (min p q) (N + N') e ?_ hN ho
  · simpa [Ieee.Datum.sum] using this
  · have a3 := Int.natAbs_add_le (Ieee.signed s m (p - min p q).toNat) (Ieee.signed t n (q - min p q).toNat)
    rw [signed_abs, signed_abs] at a3
    rw [Qr_iff (c := min (min p q) e) (by omega) (by omega)] at ⊢
    rw [Qr_iff (c := min (min p q) e) (by omega) (by omega)] at hm hn
    refine Nat.le_trans (Nat.mul_le_mul_right _ a3) ?_
    rw [Nat.add_mul, shift_up (by omega) (by omega), shift_up (by omega) (by omega), Nat.add_mul]
    exact Nat.add_le_add hm hn
theorem QLE_product {k : FloatKind} {x y : Ieee.Datum} {s t : Bool} {m n N N' : Nat} {p q e e' : Int} (hx : x = .number s m p) (hy : y = .number t n q) (hm : Qr m p N e) (hn : Qr n q N' e') (hN : N * N' < 2 * k.format.binade) (ho : Okf k (e + e')) : ∃ d, x.product y = some d ∧ QLE k (k.format.write d) (N * N') (e + e') := by
  subst hx hy
  refine ⟨_, rfl, QLE_write _ _ _ _ _ _ ?_ hN ho⟩
  have c1 : min p e ≤ p := by omega
  have c2 : min p e ≤ e := by omega
  have c3 : min q e' ≤ q := by omega
  have c4 : min q e' ≤ e' := by omega
  rw [Qr_iff c1 c2] at hm
  rw [Qr_iff c3 c4] at hn
  rw [Qr_iff (c := min p e + min q e') (by omega) (by omega)]
  have := Nat.mul_le_mul hm hn
  rw [show (p + q - (min p e + min q e')).toNat = (p - min p e).toNat + (q - min q e').toNat by omega, show (e + e' - (min p e + min q e')).toNat = (e - min p e).toNat + (e' - min q e').toNat by omega, Nat.pow_add, Nat.pow_add]
  rw [Nat.mul_mul_mul_comm, Nat.mul_mul_mul_comm N]
  exact this
theorem QLE_quotient {k : FloatKind} (dg : Nat) {x y : Ieee.Datum} {s t : Bool} {m n N : Nat} {p q e e' : Int} (hx : x = .number s m p) (hy : y = .number t n q) (hm : Qr m p N e) (hn0 : n ≠ 0) (hn : e' ≤ q + n.log2) (hN : N < 2 * k.format.binade) (hdg : k.format.fractionBits + 2 ≤ dg) (ho : Okf k (e - e')) : ∃ d, x.quotient dg y = some d ∧ QLE k (k.format.write d) N (e - e') := by
  subst hx hy
  simp only [Ieee.Datum.quotient, if_neg hn0]
  refine ⟨_, rfl, QLE_write _ _ _ _ _ _ ?_ hN ho⟩
  generalize hmore : dg + n.log2 - m.log2 = more
  rw [Nat.shiftLeft_eq]
  by_cases m0 : m = 0
  · subst m0
    rw [Nat.zero_mul, Nat.zero_mod, Nat.zero_div]
    exact Qr.zero
  have b1 : 2 ^ m.log2 ≤ m := Nat.log2_self_le m0
  have b2 : 2 ^ n.log2 ≤ n := Nat.log2_self_le hn0
  have b3 : n < 2 ^ (n.log2 + 1) := Nat.lt_log2_self
  have hD : 2 ^ (dg + n.log2) ≤ m * 2 ^ more := by
    refine Nat.le_trans ?_ (Nat.mul_le_mul_right _ b1)
    rw [← Nat.pow_add]
    exact Nat.pow_le_pow_right (by decide) (by omega)
  have hq := (Qr_iff (m := m) (n := N) (c := min p e) (by omega) (by omega)).1 hm
  have hb : N < 2 ^ (k.format.fractionBits + 1) := by rw [Nat.pow_succ, Nat.mul_comm]; exact hN
  have hu : p - q - more ≤ e - e' := by
    have h3 : 2 ^ (dg + n.log2) * 2 ^ (p - min p e).toNat ≤ m * 2 ^ (p - min p e).toNat * 2 ^ more := by
      rw [Nat.mul_assoc, Nat.mul_comm (2 ^ (p - min p e).toNat), ← Nat.mul_assoc]
      exact Nat.mul_le_mul_right _ hD
    have h4 : m * 2 ^ (p - min p e).toNat * 2 ^ more < 2 ^ (k.format.fractionBits + 1) * 2 ^ (e - min p e).toNat * 2 ^ more :=
      Nat.mul_lt_mul_of_pos_right (Nat.lt_of_le_of_lt hq (Nat.mul_lt_mul_of_pos_right hb (Nat.two_pow_pos _))) (Nat.two_pow_pos _)
    rw [← Nat.pow_add] at h3
    rw [← Nat.pow_add, ← Nat.pow_add] at h4
    have h6 := (Nat.pow_lt_pow_iff_right (by decide)).1 (Nat.lt_of_le_of_lt h3 h4)
    omega
  obtain ⟨K, hK⟩ : ∃ K : Nat, (K : Int) = e - e' - (p - q - more) := ⟨(e - e' - (p - q - more)).toNat, by omega⟩
  have hDM : m * 2 ^ more ≤ N * 2 ^ K * n := by
    have h3 : m * 2 ^ more * 2 ^ (p - min p e).toNat ≤ N * 2 ^ K * n * 2 ^ (p - min p e).toNat := by
      have h4 : m * 2 ^ (p - min p e).toNat * 2 ^ more ≤ N * 2 ^ (e - min p e).toNat * 2 ^ more := Nat.mul_le_mul_right _ hq
      rw [Nat.mul_assoc, Nat.mul_comm (2 ^ more), ← Nat.mul_assoc]
      refine Nat.le_trans h4 ?_
      rw [Nat.mul_assoc, ← Nat.pow_add, Nat.mul_assoc, Nat.mul_assoc]
      refine Nat.mul_le_mul_left _ ?_
      refine Nat.le_trans ?_ (Nat.mul_le_mul_left _ (Nat.mul_le_mul_right _ b2))
      rw [← Nat.pow_add, ← Nat.pow_add]
      exact Nat.pow_le_pow_right (by decide) (by omega)
    exact Nat.le_of_mul_le_mul_right h3 (Nat.two_pow_pos _)
  have hF : m * 2 ^ more / n ≤ N * 2 ^ K := by
    have := Nat.div_le_div_right (c := n) hDM
    rwa [Nat.mul_div_cancel _ (Nat.pos_of_ne_zero hn0)] at this
  have hst : 2 * (m * 2 ^ more / n) + (m * 2 ^ more % n != 0).toNat ≤ 2 * (N * 2 ^ K) := by
    by_cases hx : m * 2 ^ more / n = N * 2 ^ K
    · have h5 := Nat.div_mul_le_self (m * 2 ^ more) n
      rw [hx] at h5
      have h6 : m * 2 ^ more = N * 2 ^ K * n := Nat.le_antisymm hDM h5
      rw [hx, h6, Nat.mul_mod_left]
      exact Nat.le_refl _
    · have : ∀ b : Bool, b.toNat ≤ 1 := by decide
      have := this (m * 2 ^ more % n != 0)
      omega
  rw [Qr_iff (c := p - q - more - 1) (by omega) (by omega)]
  rw [show (p - q - (more : Int) - 1 - (p - q - more - 1)).toNat = 0 by omega, Nat.pow_zero, Nat.mul_one, show (e - e' - (p - q - (more : Int) - 1)).toNat = K + 1 by omega, Nat.pow_succ]
  refine Nat.le_trans hst ?_
  rw [Nat.mul_comm 2, Nat.mul_assoc]
  exact Nat.le_refl _
theorem QLE.opp {k : FloatKind} {x n : Nat} {e : Int} (h : QLE k x n e) : ∃ s m p, (k.decode x).opposite = .number s m p ∧ Qr m p n e := by
  obtain ⟨s, m, p, h1, h2⟩ := h
  exact ⟨!s, m, p, by rw [h1]; rfl, h2⟩
/-- A class that is a number of at most n times two to the power of e in size. -/
def QLC (k : FloatKind) (c : Option Nat) (n : Nat) (e : Int) : Prop := ∃ x, c = some x ∧ QLE k x n e
/-- A class that is a number of at least two to the power of e in size. -/
def LBk (k : FloatKind) (c : Option Nat) (e : Int) : Prop := ∃ x s m p, c = some x ∧ k.decode x = .number s m p ∧ m ≠ 0 ∧ e ≤ p + m.log2
theorem LBk.mono {k : FloatKind} {c : Option Nat} {e e' : Int} (h : LBk k c e) (h' : e' ≤ e) : LBk k c e' := by
  obtain ⟨x, s, m, p, h1, h2, h3, h4⟩ := h
  exact ⟨x, s, m, p, h1, h2, h3, by omega⟩
theorem LBC.lbk {c : Option Nat} {e : Int} (h : LBC c e) : LBk .f64 c e := h
theorem QLC.mono {k : FloatKind} {c : Option Nat} {n n' : Nat} {e e' : Int} (h : QLC k c n e) (h' : Qr n e n' e') : QLC k c n' e' := by
  obtain ⟨x, h1, h2⟩ := h; exact ⟨x, h1, h2.mono h'⟩
theorem QLC_add {k : FloatKind} {c d : Option Nat} {n n' : Nat} {e : Int} (hc : QLC k c n e) (hd : QLC k d n' e) (hN : n + n' < 2 * k.format.binade) (ho : Okf k e) : QLC k (fop .add k c d) (n + n') e := by
  obtain ⟨x, rfl, s, m, p, a1, a2⟩ := hc
  obtain ⟨y, rfl, t, n, q, b1, b2⟩ := hd
  obtain ⟨r, hr, hm⟩ := QLE_sum a1 b1 a2 b2 hN ho
  refine ⟨_, ?_, hm⟩
  show ((k.decode x).sum (k.decode y)).map k.format.write = _
  rw [hr]; rfl
theorem QLC_sub {k : FloatKind} {c d : Option Nat} {n n' : Nat} {e : Int} (hc : QLC k c n e) (hd : QLC k d n' e) (hN : n + n' < 2 * k.format.binade) (ho : Okf k e) : QLC k (fop .sub k c d) (n + n') e := by
  obtain ⟨x, rfl, s, m, p, a1, a2⟩ := hc
  obtain ⟨y, rfl, hy⟩ := hd
  obtain ⟨t, n, q, b1, b2⟩ := hy.opp
  obtain ⟨r, hr, hm⟩ := QLE_sum a1 b1 a2 b2 hN ho
  refine ⟨_, ?_, hm⟩
  show ((k.decode x).sum (k.decode y).opposite).map k.format.write = _
  rw [hr]; rfl
theorem QLC_mul {k : FloatKind} {c d : Option Nat} {n n' : Nat} {e e' : Int} (hc : QLC k c n e) (hd : QLC k d n' e') (hN : n * n' < 2 * k.format.binade) (ho : Okf k (e + e')) : QLC k (fop .mul k c d) (n * n') (e + e') := by
  obtain ⟨x, rfl, s, m, p, a1, a2⟩ := hc
  obtain ⟨y, rfl, t, n, q, b1, b2⟩ := hd
  obtain ⟨r, hr, hm⟩ := QLE_product a1 b1 a2 b2 hN ho
  refine ⟨_, ?_, hm⟩
  show ((k.decode x).product (k.decode y)).map k.format.write = _
  rw [hr]; rfl
theorem QLC_quo {k : FloatKind} {c d : Option Nat} {n : Nat} {e e' : Int} (hc : QLC k c n e) (hd : LBk k d e') (hN : n < 2 * k.format.binade) (ho : Okf k (e - e')) : QLC k (fop .quo k c d) n (e - e') := by
  obtain ⟨x, rfl, s, m, p, a1, a2⟩ := hc
  obtain ⟨y, t, n, q, rfl, b1, b0, b2⟩ := hd
  obtain ⟨r, hr, hm⟩ := QLE_quotient (k.format.fractionBits + 2) a1 b1 a2 b0 b2 hN (Nat.le_refl _) ho
  refine ⟨_, ?_, hm⟩
  show ((k.decode x).quotient (k.format.fractionBits + 2) (k.decode y)).map k.format.write = _
  rw [hr]; rfl
theorem LEC.qlc {c : Option Nat} {e : Int} (h : LEC c e) : QLC .f64 c 1 e := by
  obtain ⟨x, h1, s, m, p, h2, h3, h4⟩ := h
  refine ⟨x, h1, s, m, p, h2, ?_⟩
  rw [Qr_iff (c := p) (by omega) h3, show (p - p).toNat = 0 by omega, Nat.pow_zero, Nat.mul_one, Nat.one_mul]
  exact h4
theorem QLC_ovf {y : Nat} {c : Option Nat} {n : Nat} {e : Int} (hv : FV .f64 y c) (h : QLC .f64 c n e) (h' : Qr n e 1 126) : ovf y = false := by
  refine MBC_ovf (e := 127) hv ?_ (by omega)
  obtain ⟨x, e1, s, m, p, h2, h3⟩ := h
  refine ⟨x, e1, s, m, p, h2, fun h0 => ?_⟩
  have h4 := h3.trans h'
  by_cases hp : p ≤ 126
  · refine lg_of h0 (by omega) ?_
    rw [Qr_iff (c := p) (by omega) hp, show (p - p).toNat = 0 by omega, Nat.pow_zero, Nat.mul_one, Nat.one_mul] at h4
    refine Nat.lt_of_le_of_lt h4 (Nat.pow_lt_pow_right (by decide) (by omega))
  · exfalso
    rw [Qr_iff (c := 126) (by omega) (by omega), show ((126 : Int) - 126).toNat = 0 by omega, Nat.pow_zero, Nat.mul_one] at h4
    have : 2 ^ 1 ≤ 2 ^ (p - 126).toNat := Nat.pow_le_pow_right (by decide) (by omega)
    have := Nat.mul_le_mul (Nat.pos_of_ne_zero h0) this
    omega
/-- A narrowed number of known size. -/
theorem QLC_nar {c : Option Nat} {n : Nat} {e : Int} (h : QLC .f64 c n e) (hn : n < 16777216) (ho : Okf .f32 e) : QLC .f32 (c.map nar) n e := by
  obtain ⟨x, rfl, s, m, p, h2, h3⟩ := h
  refine ⟨_, rfl, ?_⟩
  unfold nar
  rw [h2]
  exact QLE_write .f32 s m p n e h3 (by rw [show FloatKind.f32.format.binade = 8388608 by decide]; omega) ho
/-- A widened number of known size. -/
theorem QLE_wid {x n : Nat} {e : Int} (h : QLE .f32 x n e) (hn : n < 9007199254740992) (h1 : -1000 ≤ e) (h2 : e ≤ 200) : QLE .f64 (wid x) n e := by
  obtain ⟨s, m, p, h3, h4⟩ := h
  unfold wid
  rw [h3]
  exact QLE_write .f64 s m p n e h4 (by rw [show FloatKind.f64.format.binade = 4503599627370496 by decide]; omega) (ok64 h1 h2)
end Fk
end Go.Proofs.Ytcgnmnbjgamedaa

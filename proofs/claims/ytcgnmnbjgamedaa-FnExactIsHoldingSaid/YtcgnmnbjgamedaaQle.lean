
/-
Sizes of numbers up to a small number times a power of two, itself allowed. Conditions: none.
-/
import Derived.Test.YtcgnmnbjgamedaaOpsD
namespace Go.Proofs.Ytcgnmnbjgamedaa
namespace Fk
open Go
set_option linter.unusedVariables false

/-- m times two to the power of p is at most n times two to the power of e. -/
def Qr (m : Nat) (p : Int) (n : Nat) (e : Int) : Prop := m * 2 ^ (p - e).toNat ≤ n * 2 ^ (e - p).toNat
instance (m : Nat) (p : Int) (n : Nat) (e : Int) : Decidable (Qr m p n e) := inferInstanceAs (Decidable (_ ≤ _))
theorem Qr_iff {m n : Nat} {p e c : Int} (hp : c ≤ p) (he : c ≤ e) : Qr m p n e ↔ m * 2 ^ (p - c).toNat ≤ n * 2 ^ (e - c).toNat := by
  unfold Qr
  by_cases h : p ≤ e
  · have e1 : (p - e).toNat = 0 := by omega
    have e2 : (e - c).toNat = (e - p).toNat + (p - c).toNat := by omega
    rw [e1, e2, Nat.pow_zero, Nat.mul_one, Nat.pow_add, ← Nat.mul_assoc]
    exact ⟨fun h => Nat.mul_le_mul_right _ h, fun h => Nat.le_of_mul_le_mul_right h (Nat.two_pow_pos _)⟩
  · have e1 : (e - p).toNat = 0 := by omega
    have e2 : (p - c).toNat = (p - e).toNat + (e - c).toNat := by omega
    rw [e1, e2, Nat.pow_zero, Nat.mul_one, Nat.pow_add, ← Nat.mul_assoc]
    exact ⟨fun h => Nat.mul_le_mul_right _ h, fun h => Nat.le_of_mul_le_mul_right h (Nat.two_pow_pos _)⟩
theorem Qr.zero {p e : Int} {n : Nat} : Qr 0 p n e := by unfold Qr; rw [Nat.zero_mul]; exact Nat.zero_le _
theorem Qr.trans {m n k : Nat} {p e q : Int} (h : Qr m p n e) (h' : Qr n e k q) : Qr m p k q := by
  have c1 : min p (min e q) ≤ p := by omega
  have c2 : min p (min e q) ≤ e := by omega
  have c3 : min p (min e q) ≤ q := by omega
  rw [Qr_iff c1 c2] at h
  rw [Qr_iff c2 c3] at h'
  rw [Qr_iff c1 c3]
  exact Nat.le_trans h h'
theorem cut_le (s : Bool) (m d M : Nat) (h : m ≤ M * 2 ^ d) : Ieee.Toward.even.cut s m d ≤ M := by
  unfold Ieee.Toward.cut
  dsimp only
  rw [Nat.shiftLeft_eq, Nat.one_mul]
  by_cases hd : d ≤ m.log2 + 2
  · rw [Nat.min_eq_left hd]
    have hpos : 0 < 2 ^ d := Nat.two_pow_pos _
    have h1 : m / 2 ^ d ≤ M := by
      have := Nat.div_le_div_right (c := 2 ^ d) h
      rwa [Nat.mul_div_cancel _ hpos] at this
    by_cases hq : m / 2 ^ d = M
    · have h2 := Nat.div_add_mod m (2 ^ d)
      rw [hq, Nat.mul_comm] at h2
      have h3 : m % 2 ^ d = 0 := by omega
      rw [h3, hq]
      have e1 : decide (2 ^ d < 2 * 0) = false := decide_eq_false (by omega)
      have e2 : (2 ^ d == 2 * 0) = false := by rw [beq_eq_false_iff_ne]; omega
      rw [e1, e2]
      exact Nat.le_refl _
    · have : ∀ b : Bool, b.toNat ≤ 1 := by decide
      have := this (decide (2 ^ d < 2 * (m % 2 ^ d)) || 2 ^ d == 2 * (m % 2 ^ d) && m / 2 ^ d % 2 == 1)
      omega
  · rw [Nat.min_eq_right (by omega)]
    have hlt : m < 2 ^ (m.log2 + 1) := Nat.lt_log2_self
    have e4 : 2 ^ (m.log2 + 2) = 2 * 2 ^ (m.log2 + 1) := by rw [Nat.pow_succ, Nat.mul_comm]
    have hlt2 : m < 2 ^ (m.log2 + 2) := by omega
    rw [Nat.div_eq_of_lt hlt2, Nat.mod_eq_of_lt hlt2]
    have e1 : decide (2 ^ (m.log2 + 2) < 2 * m) = false := decide_eq_false (by omega)
    have e2 : (2 ^ (m.log2 + 2) == 2 * m) = false := by rw [beq_eq_false_iff_ne]; omega
    rw [e1, e2]
    exact Nat.zero_le _
/-- In size at most n times two to the power of e. -/
def QLE (k : FloatKind) (x : Nat) (n : Nat) (e : Int) : Prop := ∃ s m p, k.decode x = .number s m p ∧ Qr m p n e
theorem QLE.mono {k : FloatKind} {x n n' : Nat} {e e' : Int} (h : QLE k x n e) (h' : Qr n e n' e') : QLE k x n' e' := by
  obtain ⟨s, m, p, h1, h2⟩ := h
  exact ⟨s, m, p, h1, h2.trans h'⟩
/-- What a format must be for the bounds. -/
def Okf (k : FloatKind) (e : Int) : Prop := k.format.leastPlace ≤ e ∧ (e - k.format.leastPlace).toNat * k.format.binade + 2 * k.format.binade < k.format.infRung ∧ k.format.infRung ≤ k.format.signWeight
theorem ok64 {e : Int} (h1 : -1000 ≤ e) (h2 : e ≤ 200) : Okf .f64 e := by
  have e1 : FloatKind.f64.format.binade = 4503599627370496 := by decide
  have e2 : FloatKind.f64.format.infRung = 9218868437227405312 := by decide
  have e3 : FloatKind.f64.format.leastPlace = -1074 := by decide
  have e5 : FloatKind.f64.format.signWeight = 9223372036854775808 := by decide
  unfold Okf
  rw [e1, e2, e3, e5]
  omega
theorem ok32 {e : Int} (h1 : -140 ≤ e) (h2 : e ≤ 100) : Okf .f32 e := by
  have e1 : FloatKind.f32.format.binade = 8388608 := by decide
  have e2 : FloatKind.f32.format.infRung = 2139095040 := by decide
  have e3 : FloatKind.f32.format.leastPlace = -149 := by decide
  have e5 : FloatKind.f32.format.signWeight = 2147483648 := by decide
  unfold Okf
  rw [e1, e2, e3, e5]
  omega
theorem QLE_write (k : FloatKind) (s : Bool) (m : Nat) (p : Int) (n : Nat) (e : Int) (h : Qr m p n e) (hn : n < 2 * k.format.binade) (ho : Okf k e) :
    QLE k (k.format.write (.number s m p)) n e := by
  obtain ⟨he, hi, hsw⟩ := ho
  show ∃ s' m' p', k.format.read (k.format.nearest s m p) = .number s' m' p' ∧ Qr m' p' n e
  generalize k.format = f at *
  have hkp := fun last h0 h1 => kept_le f s m p last h0 h1
  have hkg := fun last h0 h1 => kept_ge f s m p last h0 h1
  have hb : n < 2 ^ (f.fractionBits + 1) := by rw [Nat.pow_succ, Nat.mul_comm]; exact hn
  have hbp : 0 < f.binade := Nat.two_pow_pos _
  have hinf : 2 * f.binade < f.infRung := by omega
  unfold Ieee.Format.nearest
  dsimp only
  by_cases h0 : m = 0
  · rw [if_pos h0]
    refine ⟨(f.word s 0) / f.signWeight % 2 == 1, 0, f.leastPlace, ?_, Qr.zero⟩
    unfold Ieee.Format.read
    dsimp only
    rw [word_mod _ _ _ (by omega), if_pos hbp]
  · rw [if_neg h0]
    generalize hl : max (p + (m.log2 : Int) - (f.fractionBits : Int)) f.leastPlace = last
    have hm1 : 2 ^ m.log2 ≤ m := Nat.log2_self_le h0
    have hle : last ≤ e := by
      by_cases hx : p + (m.log2 : Int) - (f.fractionBits : Int) ≤ e
      · omega
      · exfalso
        have hq := (Qr_iff (m := m) (n := n) (c := min p e) (by omega) (by omega)).1 h
        have h3 : 2 ^ (m.log2 + (p - min p e).toNat) ≤ m * 2 ^ (p - min p e).toNat := by rw [Nat.pow_add]; exact Nat.mul_le_mul_right _ hm1
        have h4 : n * 2 ^ (e - min p e).toNat < 2 ^ (f.fractionBits + 1 + (e - min p e).toNat) := by rw [Nat.pow_add]; exact Nat.mul_lt_mul_of_pos_right hb (Nat.two_pow_pos _)
        have h5 : 2 ^ (m.log2 + (p - min p e).toNat) < 2 ^ (f.fractionBits + 1 + (e - min p e).toNat) := by omega
        have h6 := (Nat.pow_lt_pow_iff_right (by decide)).1 h5
        omega
    have hlast : f.leastPlace ≤ last := by omega
    have hk := hkp last h0 (by omega)
    have hg : f.binade ≤ Ieee.Toward.even.cut s (m <<< (p - last).toNat) (last - p).toNat ∨ last = f.leastPlace := by
      by_cases hl2 : last = f.leastPlace
      · exact .inr hl2
      · exact .inl (hkg last h0 (by omega))
    have hM : Ieee.Toward.even.cut s (m <<< (p - last).toNat) (last - p).toNat ≤ n * 2 ^ (e - last).toNat := by
      refine cut_le _ _ _ _ ?_
      rw [Nat.shiftLeft_eq]
      have hq := (Qr_iff (m := m) (n := n) (c := min p last) (by omega) (by omega)).1 h
      by_cases hpl : p ≤ last
      · rw [show (p - last).toNat = 0 by omega, Nat.pow_zero, Nat.mul_one, Nat.mul_assoc, ← Nat.pow_add]
        rw [show (p - min p last).toNat = 0 by omega, Nat.pow_zero, Nat.mul_one] at hq
        rw [show (e - last).toNat + (last - p).toNat = (e - min p last).toNat by omega]
        exact hq
      · rw [show (last - p).toNat = 0 by omega, Nat.pow_zero, Nat.mul_one]
        rw [show (p - min p last).toNat = (p - last).toNat by omega, show (e - min p last).toNat = (e - last).toNat by omega] at hq
        exact hq
    clear hkp hkg
    generalize Ieee.Toward.even.cut s (m <<< (p - last).toNat) (last - p).toNat = kept at hk hM hg
    have hQ : Qr kept last n e := by
      rw [Qr_iff (c := last) (by omega) hle]
      rw [show (last - last).toNat = 0 by omega, Nat.pow_zero, Nat.mul_one]
      exact hM
    obtain ⟨A, hA⟩ : ∃ A : Nat, (A : Int) = last - f.leastPlace := ⟨(last - f.leastPlace).toNat, by omega⟩
    rw [show (last - f.leastPlace).toNat = A by omega]
    have hAe : A * f.binade ≤ (e - f.leastPlace).toNat * f.binade := Nat.mul_le_mul_right _ (by omega)
    have hr : A * f.binade + kept < f.infRung := by omega
    rw [Nat.min_eq_left (by omega)]
    unfold Ieee.Format.read
    dsimp only
    rw [word_mod _ _ _ (by omega)]
    by_cases h1 : A * f.binade + kept < f.binade
    · rw [if_pos h1]
      refine ⟨_, _, _, rfl, ?_⟩
      have a1 : A = 0 := by
        rcases Nat.eq_zero_or_pos A with h | h
        · exact h
        · have := Nat.mul_le_mul_right f.binade h
          omega
      have a2 : last = f.leastPlace := by omega
      rw [a1, Nat.zero_mul, Nat.zero_add, ← a2]
      exact hQ
    · rw [if_neg h1, if_pos hr]
      refine ⟨_, _, _, rfl, ?_⟩
      have hdiv : ∀ c, (A * f.binade + c) / f.binade = A + c / f.binade := fun c => by rw [Nat.add_comm, Nat.add_mul_div_right _ _ hbp, Nat.add_comm]
      have hmod : ∀ c, (A * f.binade + c) % f.binade = c % f.binade := fun c => by rw [Nat.add_comm, Nat.add_mul_mod_self_right]
      rw [hdiv, hmod]
      by_cases hb2 : kept = 2 * f.binade
      · have a1 : kept / f.binade = 2 := by rw [hb2]; exact Nat.mul_div_cancel _ hbp
        have a2 : kept % f.binade = 0 := by rw [hb2]; exact Nat.mul_mod_left _ _
        rw [a1, a2]
        refine Qr.trans ?_ hQ
        rw [hb2, Qr_iff (c := last) (by omega) (by omega)]
        rw [show (f.leastPlace + ((A + 2 - 1 : Nat) : Int) - last).toNat = 1 by omega, show (last - last).toNat = 0 by omega]
        omega
      · by_cases hs : kept < f.binade
        · exfalso
          rcases hg with hg | hg
          · omega
          · have : A = 0 := by omega
            subst this
            omega
        · have a1 : kept / f.binade = 1 := by
            rw [Nat.div_eq_iff hbp]
            omega
          have a2 : kept % f.binade = kept - f.binade := by
            have := Nat.div_add_mod kept f.binade
            rw [a1, Nat.mul_one] at this
            omega
          rw [a1, a2]
          rw [show f.binade + (kept - f.binade) = kept by omega, show f.leastPlace + ((A + 1 - 1 : Nat) : Int) = last by omega]
          exact hQ
end Fk
end Go.Proofs.Ytcgnmnbjgamedaa


/-
Lower bounds of results: a small number times a power of two, itself allowed. Conditions: none.
-/
import Derived.Test.YtcgnmnbjgamedaaQlo
namespace Go.Proofs.Ytcgnmnbjgamedaa
namespace Fk
open Go
set_option linter.unusedVariables false

theorem cut_ge (s : Bool) (m d M : Nat) (h : M * 2 ^ d ≤ m) : M ≤ Ieee.Toward.even.cut s m d := by
  unfold Ieee.Toward.cut
  dsimp only
  rw [Nat.shiftLeft_eq, Nat.one_mul]
  refine Nat.le_trans ?_ (Nat.le_add_right _ _)
  rw [Nat.le_div_iff_mul_le (Nat.two_pow_pos _)]
  by_cases hd : d ≤ m.log2 + 2
  · rw [Nat.min_eq_left hd]; exact h
  · rw [Nat.min_eq_right (by omega)]
    have h0 : M = 0 := by
      rcases Nat.eq_zero_or_pos M with h0 | h0
      · exact h0
      · exfalso
        have h1 : 2 ^ d ≤ M * 2 ^ d := by have := Nat.mul_le_mul_right (2 ^ d) h0; omega
        have h2 : m < 2 ^ (m.log2 + 1) := Nat.lt_log2_self
        have h3 : 2 ^ (m.log2 + 1) ≤ 2 ^ d := Nat.pow_le_pow_right (by decide) (by omega)
        omega
    rw [h0, Nat.zero_mul]
    exact Nat.zero_le _
/-- A number that is not below zero and at least n times two to the power of e, or infinity. -/
def QGE (k : FloatKind) (x : Nat) (n : Nat) (e : Int) : Prop := (∃ m p, k.decode x = .number false m p ∧ Qr n e m p) ∨ k.decode x = .infinity false
theorem QGE.mono {k : FloatKind} {x n n' : Nat} {e e' : Int} (h : QGE k x n e) (h' : Qr n' e' n e) : QGE k x n' e' := by
  rcases h with ⟨m, p, h1, h2⟩ | h
  · exact .inl ⟨m, p, h1, h'.trans h2⟩
  · exact .inr h
theorem QGE_write (k : FloatKind) (m : Nat) (p : Int) (n : Nat) (e : Int) (h : Qr n e m p) (hn : n < 2 * k.format.binade) (he : k.format.leastPlace ≤ e) (hsw : k.format.infRung < k.format.signWeight) (hbi : k.format.binade ≤ k.format.infRung) :
    QGE k (k.format.write (.number false m p)) n e := by
  show (∃ m' p', k.format.read (k.format.nearest false m p) = .number false m' p' ∧ Qr n e m' p') ∨ k.format.read (k.format.nearest false m p) = .infinity false
  generalize k.format = f at *
  have hkp := fun last h0 h1 => kept_le f false m p last h0 h1
  have hkg := fun last h0 h1 => kept_ge f false m p last h0 h1
  have hb : n < 2 ^ (f.fractionBits + 1) := by rw [Nat.pow_succ, Nat.mul_comm]; exact hn
  have hbp : 0 < f.binade := Nat.two_pow_pos _
  have sgn : ∀ r, r < f.signWeight → (f.word false r / f.signWeight % 2 == 1) = false := fun r hr => by
    show (r / f.signWeight % 2 == 1) = false
    rw [Nat.div_eq_of_lt hr]; rfl
  unfold Ieee.Format.nearest
  dsimp only
  by_cases h0 : m = 0
  · rw [if_pos h0]
    left
    refine ⟨0, f.leastPlace, ?_, ?_⟩
    · unfold Ieee.Format.read
      dsimp only
      rw [word_mod _ _ _ (by omega), if_pos hbp, sgn 0 (by omega)]
    · subst h0
      unfold Qr at h ⊢
      rw [Nat.zero_mul] at h ⊢
      have : n = 0 := by
        rcases Nat.eq_zero_or_pos n with h1 | h1
        · exact h1
        · have := Nat.mul_pos h1 (Nat.two_pow_pos (e - p).toNat); omega
      rw [this, Nat.zero_mul]; exact Nat.le_refl _
  · rw [if_neg h0]
    generalize hl : max (p + (m.log2 : Int) - (f.fractionBits : Int)) f.leastPlace = last
    have hlast : f.leastPlace ≤ last := by omega
    have hk := hkp last h0 (by omega)
    have hg : f.binade ≤ Ieee.Toward.even.cut false (m <<< (p - last).toNat) (last - p).toNat ∨ last = f.leastPlace := by
      by_cases hl2 : last = f.leastPlace
      · exact .inr hl2
      · exact .inl (hkg last h0 (by omega))
    have hM : last ≤ e → n * 2 ^ (e - last).toNat ≤ Ieee.Toward.even.cut false (m <<< (p - last).toNat) (last - p).toNat := fun hle => by
      refine cut_ge _ _ _ _ ?_
      rw [Nat.shiftLeft_eq]
      have hq := (Qr_iff (m := n) (n := m) (p := e) (e := p) (c := min p last) (by omega) (by omega)).1 h
      by_cases hpl : p ≤ last
      · rw [show (p - last).toNat = 0 by omega, Nat.pow_zero, Nat.mul_one, Nat.mul_assoc, ← Nat.pow_add]
        rw [show (p - min p last).toNat = 0 by omega, Nat.pow_zero, Nat.mul_one] at hq
        rw [show (e - last).toNat + (last - p).toNat = (e - min p last).toNat by omega]
        exact hq
      · rw [show (last - p).toNat = 0 by omega, Nat.pow_zero, Nat.mul_one]
        rw [show (p - min p last).toNat = (p - last).toNat by omega, show (e - min p last).toNat = (e - last).toNat by omega] at hq
        exact hq
    clear hkp hkg
    generalize Ieee.Toward.even.cut false (m <<< (p - last).toNat) (last - p).toNat = kept at hk hM hg
    have hQ : Qr n e kept last := by
      by_cases hle : last ≤ e
      · rw [Qr_iff (c := last) hle (by omega), show (last - last).toNat = 0 by omega, Nat.pow_zero, Nat.mul_one]
        exact hM hle
      · rw [Qr_iff (c := e) (by omega) (by omega), show (e - e).toNat = 0 by omega, Nat.pow_zero, Nat.mul_one]
        have hbk : f.binade ≤ kept := by
          rcases hg with hg | hg
          · exact hg
          · omega
        have h2 : 2 ^ 1 ≤ 2 ^ (last - e).toNat := Nat.pow_le_pow_right (by decide) (by omega)
        have h3 := Nat.mul_le_mul hbk h2
        omega
    obtain ⟨A, hA⟩ : ∃ A : Nat, (A : Int) = last - f.leastPlace := ⟨(last - f.leastPlace).toNat, by omega⟩
    rw [show (last - f.leastPlace).toNat = A by omega]
    by_cases hr : A * f.binade + kept < f.infRung
    · left
      rw [Nat.min_eq_left (by omega)]
      unfold Ieee.Format.read
      dsimp only
      rw [word_mod _ _ _ (by omega), sgn _ (by omega)]
      by_cases h1 : A * f.binade + kept < f.binade
      · rw [if_pos h1]
        refine ⟨_, _, rfl, ?_⟩
        have a1 : A = 0 := by
          rcases Nat.eq_zero_or_pos A with h | h
          · exact h
          · have := Nat.mul_le_mul_right f.binade h
            omega
        have a2 : last = f.leastPlace := by omega
        rw [a1, Nat.zero_mul, Nat.zero_add, ← a2]
        exact hQ
      · rw [if_neg h1, if_pos hr]
        refine ⟨_, _, rfl, ?_⟩
        have hdiv : ∀ c, (A * f.binade + c) / f.binade = A + c / f.binade := fun c => by rw [Nat.add_comm, Nat.add_mul_div_right _ _ hbp, Nat.add_comm]
        have hmod : ∀ c, (A * f.binade + c) % f.binade = c % f.binade := fun c => by rw [Nat.add_comm, Nat.add_mul_mod_self_right]
        rw [hdiv, hmod]
        by_cases hb2 : kept = 2 * f.binade
        · have a1 : kept / f.binade = 2 := by rw [hb2]; exact Nat.mul_div_cancel _ hbp
          have a2 : kept % f.binade = 0 := by rw [hb2]; exact Nat.mul_mod_left _ _
          rw [a1, a2]
          refine hQ.trans ?_
          rw [hb2, Qr_iff (c := last) (by omega) (by omega)]
          rw [show (f.leastPlace + ((A + 2 - 1 : Nat) : Int) - last).toNat = 1 by omega, show (last - last).toNat = 0 by omega]
          omega
        · by_cases hs : kept < f.binade
          · exfalso
            rcases hg with hg | hg
            · omega
            · have : A = 0 := by omega
              subst this
              omega
          · have a1 : kept / f.binade = 1 := by
              rw [Nat.div_eq_iff hbp]
              omega
            have a2 : kept % f.binade = kept - f.binade := by
              have := Nat.div_add_mod kept f.binade
              rw [a1, Nat.mul_one] at this
              omega
            rw [a1, a2]
            rw [show f.binade + (kept - f.binade) = kept by omega, show f.leastPlace + ((A + 1 - 1 : Nat) : Int) = last by omega]
            exact hQ
    · right
      rw [Nat.min_eq_right (by omega)]
      unfold Ieee.Format.read
      dsimp only
      rw [word_mod _ _ _ (by omega), sgn _ (by omega), if_neg (by omega), if_neg (by omega), if_pos rfl]
end Fk
end Go.Proofs.Ytcgnmnbjgamedaa

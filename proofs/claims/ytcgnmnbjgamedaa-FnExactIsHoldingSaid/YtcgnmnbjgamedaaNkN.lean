
/-
Halves and necks of films: sizes. Conditions: none.
-/
import Derived.Test.YtcgnmnbjgamedaaQgo
namespace Go.Proofs.Ytcgnmnbjgamedaa
namespace Fk
open Go
set_option linter.unusedVariables false

theorem ok32' {e : Int} (h1 : -149 ≤ e) (h2 : e ≤ 103) : Okf .f32 e := by
  have e1 : FloatKind.f32.format.binade = 8388608 := by decide
  have e2 : FloatKind.f32.format.infRung = 2139095040 := by decide
  have e3 : FloatKind.f32.format.leastPlace = -149 := by decide
  have e5 : FloatKind.f32.format.signWeight = 2147483648 := by decide
  unfold Okf
  rw [e1, e2, e3, e5]
  omega
theorem meas_dec {x : Nat} (h : x < 2139095040) : ∃ m p, FloatKind.f32.decode x = .number false m p ∧ m < 16777216 ∧ -149 ≤ p ∧ p ≤ 104 ∧ (x ≠ 0 → m ≠ 0) := by
  have e1 : FloatKind.f32.format.binade = 8388608 := by decide
  have e2 : FloatKind.f32.format.infRung = 2139095040 := by decide
  have e3 : FloatKind.f32.format.leastPlace = -149 := by decide
  have e5 : FloatKind.f32.format.signWeight = 2147483648 := by decide
  have hd : FloatKind.f32.decode x = FloatKind.f32.format.read x := rfl
  rw [hd]
  unfold Ieee.Format.read
  dsimp only
  rw [e1, e2, e3, e5, Nat.mod_eq_of_lt (by omega), Nat.div_eq_of_lt (by omega)]
  by_cases h1 : x < 8388608
  · rw [if_pos h1]; exact ⟨_, _, rfl, by omega, by omega, by omega, fun h => h⟩
  · rw [if_neg h1, if_pos h]
    exact ⟨_, _, rfl, by omega, by omega, by omega, fun _ => by omega⟩
theorem pow_log {m : Nat} {p : Int} : Qr m p 1 (p + m.log2 + 1) := by
  rw [Qr_iff (c := p) (by omega) (by omega), show (p - p).toNat = 0 by omega, Nat.pow_zero, Nat.mul_one, Nat.one_mul, show (p + (m.log2 : Int) + 1 - p).toNat = m.log2 + 1 by omega]
  exact Nat.le_of_lt Nat.lt_log2_self
theorem log_pow {m : Nat} {p : Int} (h : m ≠ 0) : Qr 1 (p + m.log2) m p := by
  rw [Qr_iff (c := p) (by omega) (by omega), show (p - p).toNat = 0 by omega, Nat.pow_zero, Nat.mul_one, Nat.one_mul, show (p + (m.log2 : Int) - p).toNat = m.log2 by omega]
  exact Nat.log2_self_le h
def halfN : Nat := 1056964608
/-- The half of a measure, and the least neck. -/
theorem neck_facts {g : Nat} (h0 : g ≠ 0) (hg : g < 2139095040) : ∃ h l E, fop .mul .f32 (some 1056964608) (some g) = some h ∧ fop .quo .f32 (some h) (some 1067028242) = some l ∧ -149 ≤ E ∧
    QLE .f32 g 1 (E + 3) ∧ QLE .f32 h 1 (E + 2) ∧ (∃ m p, FloatKind.f32.decode h = .number false m p) ∧ ((h = 0 ∧ l = 0) ∨ QGE .f32 l 1 E) := by
  obtain ⟨m, p, hd, hm, hp1, hp2, hm0⟩ := meas_dec hg
  have hm0 := hm0 h0
  have e1 : fop .mul .f32 (some 1056964608) (some g) = ((FloatKind.f32.decode 1056964608).product (FloatKind.f32.decode g)).map FloatKind.f32.format.write := rfl
  have e2 : fop .mul .f32 (some 1056964608) (some g) = some (FloatKind.f32.format.write (.number false (8388608 * m) (-24 + p))) := by rw [e1, half_dec, hd]; rfl
  have hup : QLE .f32 (FloatKind.f32.format.write (.number false (8388608 * m) (-24 + p))) 1 (p + m.log2) := by
    by_cases hp : -148 ≤ p
    · have h1 : Qr (8388608 * m) (-24 + p) m (p - 1) := by
        rw [Qr_iff (c := -24 + p) (by omega) (by omega), show (-24 + p - (-24 + p)).toNat = 0 by omega, Nat.pow_zero, Nat.mul_one, show (p - 1 - (-24 + p)).toNat = 23 by omega, Nat.mul_comm]
        exact Nat.le_refl _
      have h2 := QLE_write .f32 false _ _ m (p - 1) h1 (by rw [bin32]; omega) (ok32' (by omega) (by omega))
      refine h2.mono ?_
      have := pow_log (m := m) (p := p - 1)
      rw [show p - 1 + (m.log2 : Int) + 1 = p + m.log2 by omega] at this
      exact this
    · have hp : p = -149 := by omega
      subst hp
      have hl : m.log2 ≤ 23 := by
        have := (Nat.log2_lt hm0 (k := 24)).2 (by rw [show (2 : Nat) ^ 24 = 16777216 from by decide]; exact hm)
        omega
      refine QLE_write .f32 false _ _ 1 _ ?_ (by rw [bin32]; decide) (ok32' (by omega) (by omega))
      rw [Qr_iff (c := -173) (by omega) (by omega), show ((-24 : Int) + -149 - -173).toNat = 0 by omega, Nat.pow_zero, Nat.mul_one, Nat.one_mul, show ((-149 : Int) + (m.log2 : Int) - -173).toNat = m.log2 + 1 + 23 by omega, Nat.pow_add, Nat.mul_comm]
      exact Nat.mul_le_mul_right _ (Nat.le_of_lt Nat.lt_log2_self)
  have hgu : QLE .f32 g 1 (p + m.log2 + 1) := ⟨false, m, p, hd, pow_log⟩
  have hgl : QGE .f32 g 1 (p + m.log2) := .inl ⟨m, p, hd, log_pow hm0⟩
  generalize hh : FloatKind.f32.format.write (.number false (8388608 * m) (-24 + p)) = h at *
  obtain ⟨m', p', hd', hq'⟩ : ∃ m' p', FloatKind.f32.decode h = .number false m' p' ∧ True := by
    obtain ⟨s, a, b, k1, _⟩ := hup
    have hx := QGE_write .f32 (8388608 * m) (-24 + p) 0 0 Qr.zero (by decide) (by decide) (by decide) (by decide)
    rw [hh] at hx
    rcases hx with ⟨m', p', k2, _⟩ | k2
    · exact ⟨m', p', k2, trivial⟩
    · rw [k2] at k1; cases k1
  have up1 : ∀ a b : Int, a ≤ b → Qr 1 a 1 b := fun a b hab => by
    rw [Qr_iff (c := a) (by omega) hab, Nat.one_mul, Nat.one_mul, show (a - a).toNat = 0 by omega]
    exact Nat.pow_le_pow_right (by decide) (by omega)
  have hquo : fop .quo .f32 (some h) (some 1067028242) = ((FloatKind.f32.decode h).quotient 25 (FloatKind.f32.decode 1067028242)).map FloatKind.f32.format.write := rfl
  have hp' : -149 ≤ p' := by
    have : FloatKind.f32.decode h = FloatKind.f32.format.read h := rfl
    rw [this] at hd'
    unfold Ieee.Format.read at hd'
    dsimp only at hd'
    have e3 : FloatKind.f32.format.leastPlace = -149 := by decide
    rw [e3] at hd'
    split at hd'
    · simp only [Ieee.Datum.number.injEq] at hd'
      omega
    · split at hd'
      · simp only [Ieee.Datum.number.injEq] at hd'
        omega
      · split at hd' <;> cases hd'
  by_cases hb : p + (m.log2 : Int) = -149
  · have hl0 : m.log2 = 0 := by omega
    have hpp : p = -149 := by omega
    have hm1 : m = 1 := by
      have h3 : m < 2 ^ (m.log2 + 1) := Nat.lt_log2_self
      rw [hl0] at h3
      omega
    subst hm1 hpp
    have hh0 : h = 0 := by rw [← hh]; decide
    subst hh0
    exact ⟨0, 0, -149, e2, by decide, by decide, hgu.mono (by decide), hup.mono (by decide), ⟨_, _, hd'⟩, .inl ⟨rfl, rfl⟩⟩
  · obtain ⟨h', k1, k2⟩ := QGC_half ⟨g, rfl, hgl⟩ (by decide) (show -149 ≤ p + (m.log2 : Int) - 1 by omega)
    rw [e2] at k1
    obtain rfl : h = h' := Option.some.inj k1
    have hni : ¬ FloatKind.f32.decode h = .infinity false := by rw [hd']; intro h; cases h
    obtain ⟨x, s, m2, p2, j1, j2, j3, j4⟩ := k2.lbk hni
    cases j1
    rw [hd'] at j2
    cases j2
    by_cases ha : p' + (m'.log2 : Int) = -149
    · have hl0 : m'.log2 = 0 := by omega
      have hpp : p' = -149 := by omega
      have hm1 : m' = 1 := by
        have h3 : m' < 2 ^ (m'.log2 + 1) := Nat.lt_log2_self
        rw [hl0] at h3
        omega
      subst hm1 hpp
      refine ⟨h, 1, -149, e2, by rw [hquo, hd', K_dec]; decide, by decide, hgu.mono (up1 _ _ (by omega)), hup.mono (up1 _ _ (by omega)), ⟨_, _, hd'⟩, .inr (.inl ⟨1, -149, by decide, by decide⟩)⟩
    · obtain ⟨l, k3, k4⟩ := QGC_K hd' j3 rfl (show -149 ≤ p' + (m'.log2 : Int) - 1 by omega)
      refine ⟨h, l, max (p + (m.log2 : Int) - 2) (-149), e2, k3, by omega, hgu.mono (up1 _ _ (by omega)), hup.mono (up1 _ _ (by omega)), ⟨_, _, hd'⟩, .inr (k4.mono (up1 _ _ (by omega)))⟩
end Fk
end Go.Proofs.Ytcgnmnbjgamedaa

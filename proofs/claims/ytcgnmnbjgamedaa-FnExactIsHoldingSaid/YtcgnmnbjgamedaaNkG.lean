
/-
The least neck of a film: it is not greater than the radius where it fits. Conditions: none.
-/
import Derived.Test.YtcgnmnbjgamedaaNkF
namespace Go.Proofs.Ytcgnmnbjgamedaa
namespace Fk
open Go
set_option linter.unusedVariables false

theorem lbK : LBk .f32 (some 1067028242) 0 := ⟨_, false, 10063634, -23, rfl, K_dec, by decide, by decide⟩
theorem fit_num {h r l : Nat} {E : Int} (hh : Hgt h E) (hl : QGE .f32 l 1 E) {ml : Nat} {pl : Int} (hd : FloatKind.f32.decode l = .number false ml pl) (m0 : ml ≠ 0) (hm : ml < 16777216) (hp : -149 ≤ pl) {mh : Nat} {ph : Int} (hhd : FloatKind.f32.decode h = .number false mh ph) (hle : Qr ml pl mh ph) (hr : r < 2139095040) (hf : fitN h r l = true) :
    (FloatKind.f32.format.order l r == some .gt) = false ∧ QGE .f32 r 1 E := by
  obtain ⟨x, k1, k2, k3, k4⟩ := arg_ok hh hl
  have n1 : NGC .f32 (some x) 1 0 := by
    have hq : QLC .f32 (fop .quo .f32 (some h) (some l)) 1 6 := ⟨x, k1, k3⟩
    have := NGC_quo (n3 := 1) (e3 := 0) (n2 := mh) (e2 := ph) ⟨h, mh, ph, rfl, hhd, Qr.refl'⟩ hd m0 hle (by rw [Nat.one_mul, Int.zero_add]; exact Qr.refl') hq (by rw [bin32]; decide) (by decide) okl32
    rw [k1] at this
    exact this
  obtain ⟨y, m, p, j1, j2, j3⟩ := (q_cosh k3 k4).2 n1
  obtain ⟨mr, pr, hdr, _⟩ := meas_dec hr
  have e : fop .mul .f32 (some l) (some y) = some (FloatKind.f32.format.write (.number false (ml * m) (pl + p))) := by
    have : fop .mul .f32 (some l) (some y) = ((FloatKind.f32.decode l).product (FloatKind.f32.decode y)).map FloatKind.f32.format.write := rfl
    rw [this, hd, j2]; rfl
  have hW : fitN h r l = leW (FloatKind.f32.format.write (.number false (ml * m) (pl + p))) r := by
    unfold fitN widthC
    rw [k1]
    show leC (fop .mul .f32 (some l) (coshN x)) r = _
    rw [j1, e]
    rfl
  have hq : QGE .f32 (FloatKind.f32.format.write (.number false (ml * m) (pl + p))) ml pl := by
    refine QGE_write .f32 _ _ _ _ ?_ (by rw [bin32]; omega) hp (by decide) (by decide)
    have := (Qr_iff (c := min 0 p) (by omega) (by omega)).1 j3
    rw [Qr_iff (c := pl + min 0 p) (by omega) (by omega), show (pl + p - (pl + min 0 p)).toNat = (p - min 0 p).toNat by omega, show (pl - (pl + min 0 p)).toNat = (0 - min 0 p).toNat by omega, Nat.mul_assoc]
    refine Nat.mul_le_mul_left _ ?_
    rw [Nat.one_mul] at this
    exact this
  rw [hW] at hf
  clear hW e
  generalize FloatKind.f32.format.write (.number false (ml * m) (pl + p)) = W at *
  rcases hq with ⟨mw, pw, w1, w2⟩ | w1
  · have q1 := w2.trans (le_qr w1 hdr hf)
    refine ⟨gt_qr hd hdr q1, .inl ⟨mr, pr, hdr, ?_⟩⟩
    rcases hl with ⟨a, b, l1, l2⟩ | l1
    · rw [hd] at l1
      cases l1
      exact l2.trans q1
    · rw [hd] at l1; cases l1
  · exfalso
    unfold leW at hf
    have ho : FloatKind.f32.format.order W r = (FloatKind.f32.decode W).order (FloatKind.f32.decode r) := rfl
    rw [ho, w1, hdr] at hf
    cases hf
/-- All that is needed of a gap. -/
theorem neck_all {g : Nat} (h0 : g ≠ 0) (hg : g < 2139095040) : ∃ h l E, fop .mul .f32 (some 1056964608) (some g) = some h ∧ fop .quo .f32 (some h) (some 1067028242) = some l ∧ Hgt h E ∧ QLE .f32 g 1 (E + 3) ∧
    ((h = 0 ∧ l = 0) ∨ (QGE .f32 l 1 E ∧ l ≠ 0 ∧ l < 2139095040 ∧ ∀ r, r < 2139095040 → fitN h r l = true → (FloatKind.f32.format.order l r == some .gt) = false ∧ QGE .f32 r 1 E)) := by
  obtain ⟨h, l, E, e1, e2, hE, hgq, hq, hpos, hl⟩ := neck_facts h0 hg
  obtain ⟨hlt, mh, ph, hhd, hmh, hp1, hp2⟩ := half_word hg e1
  refine ⟨h, l, E, e1, e2, ⟨by omega, hq, hpos, hE⟩, hgq, ?_⟩
  rcases hl with hl | hl
  · exact .inl hl
  · right
    have hu : QLC .f32 (fop .quo .f32 (some h) (some 1067028242)) mh (ph - 0) := QLC_quo ⟨h, rfl, false, mh, ph, hhd, Qr.refl'⟩ lbK (by rw [bin32]; omega) (ok32' (by omega) (by omega))
    rw [e2] at hu
    obtain ⟨l', hl', s, ml, pl, hd, hle⟩ := hu
    cases hl'
    rw [show ph - 0 = ph by omega] at hle
    obtain ⟨ml', pl', hd', hq'⟩ : ∃ a b, FloatKind.f32.decode l = .number false a b ∧ Qr 1 E a b := by
      rcases hl with ⟨a, b, k1, k2⟩ | k1
      · exact ⟨a, b, k1, k2⟩
      · rw [hd] at k1; cases k1
    rw [hd] at hd'
    cases hd'
    have hlw : l < 2139095040 := by
      have hr : l < 2 ^ FloatKind.f32.format.width := (floatBits_ok (show floatBits .quo .f32 h 1067028242 = some l from e2)).2.2.2
      have hr2 : l < 4294967296 := hr
      by_cases hs : l < 2147483648
      · rcases Nat.lt_or_ge l 2139095040 with k | k
        · exact k
        · exfalso
          have h5 : FloatKind.f32.format.read l = .number false ml pl := hd
          have e1 : FloatKind.f32.format.binade = 8388608 := by decide
          have e2' : FloatKind.f32.format.infRung = 2139095040 := by decide
          have e5 : FloatKind.f32.format.signWeight = 2147483648 := by decide
          unfold Ieee.Format.read at h5
          dsimp only at h5
          rw [e1, e2', e5, Nat.mod_eq_of_lt hs, if_neg (by omega), if_neg (by omega)] at h5
          split at h5 <;> cases h5
      · exfalso
        have h5 : FloatKind.f32.format.read l = .number false ml pl := hd
        have e5 : FloatKind.f32.format.signWeight = 2147483648 := by decide
        unfold Ieee.Format.read at h5
        dsimp only at h5
        rw [e5] at h5
        have h6 : (l / 2147483648 % 2 == 1) = true := by
          have : l / 2147483648 = 1 := by omega
          rw [this]; rfl
        rw [h6] at h5
        split at h5
        · cases h5
        · split at h5
          · cases h5
          · split at h5 <;> cases h5
    obtain ⟨a, b, k1, k2, k3, _, k5⟩ := meas_dec hlw
    rw [hd] at k1
    cases k1
    have m0 : ml ≠ 0 := by
      rintro rfl
      unfold Qr at hq'
      rw [Nat.zero_mul, Nat.one_mul] at hq'
      have := Nat.two_pow_pos (E - pl).toNat
      omega
    have l0 : l ≠ 0 := by
      rintro rfl
      rw [show FloatKind.f32.decode 0 = .number false 0 (-149) by decide] at hd
      cases hd
      exact m0 rfl
    exact ⟨hl, l0, hlw, fun r hr hf => fit_num ⟨by omega, hq, hpos, hE⟩ hl hd m0 k2 k3 hhd hle hr hf⟩
end Fk
end Go.Proofs.Ytcgnmnbjgamedaa

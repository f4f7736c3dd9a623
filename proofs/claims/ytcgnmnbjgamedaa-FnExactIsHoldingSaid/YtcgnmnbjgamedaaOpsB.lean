
/-
How small a rounded number can be; sums of numbers without a minus sign. Conditions: none.
-/
import Derived.Test.YtcgnmnbjgamedaaOps
namespace Go.Proofs.Ytcgnmnbjgamedaa
namespace Fk
open Go
set_option linter.unusedVariables false

theorem kept_ge (f : Ieee.Format) (s : Bool) (m : Nat) (p last : Int) (h0 : m ≠ 0) (h1 : p + m.log2 - f.fractionBits = last) :
    f.binade ≤ Ieee.Toward.even.cut s (m <<< (p - last).toNat) (last - p).toNat := by
  have hge : 2 ^ m.log2 ≤ m := Nat.log2_self_le h0
  unfold Ieee.Format.binade
  by_cases hp : p ≤ last
  · have e : (p - last).toNat = 0 := by omega
    rw [e, Nat.shiftLeft_zero]
    generalize hd : (last - p).toNat = d
    have hd' : m.log2 = f.fractionBits + d := by omega
    unfold Ieee.Toward.cut
    dsimp only
    rw [Nat.shiftLeft_eq, Nat.one_mul, Nat.min_eq_left (by omega)]
    refine Nat.le_trans ?_ (Nat.le_add_right _ _)
    rw [Nat.le_div_iff_mul_le (Nat.two_pow_pos _), ← Nat.pow_add, ← hd']
    exact hge
  · have e : (last - p).toNat = 0 := by omega
    rw [e, even_cut_zero, Nat.shiftLeft_eq]
    have : 2 ^ m.log2 * 2 ^ (p - last).toNat ≤ m * 2 ^ (p - last).toNat := Nat.mul_le_mul_right _ hge
    rw [← Nat.pow_add] at this
    exact Nat.le_trans (Nat.pow_le_pow_right (by decide) (by omega)) this

theorem nearest_great (f : Ieee.Format) (s : Bool) (m : Nat) (p e : Int) (h0 : m ≠ 0) (h : e ≤ p + m.log2) (he : f.leastPlace + f.fractionBits ≤ e) :
    ∃ r, f.nearest s m p = f.word s r ∧ min ((e - f.fractionBits - f.leastPlace + 1).toNat * f.binade) f.infRung ≤ r := by
  unfold Ieee.Format.nearest
  dsimp only
  rw [if_neg h0]
  refine ⟨_, rfl, ?_⟩
  generalize hl : max (p + (m.log2 : Int) - f.fractionBits) f.leastPlace = last
  have hk := kept_ge f s m p last h0 (by omega)
  have hle : (e - f.fractionBits - f.leastPlace + 1).toNat ≤ (last - f.leastPlace).toNat + 1 := by omega
  have := Nat.mul_le_mul_right f.binade hle
  rw [Nat.add_mul] at this
  omega

/-- A number without a minus sign, at least two to the power of e. -/
def PB (k : FloatKind) (x : Nat) (e : Int) : Prop := ∃ m p, k.decode x = .number false m p ∧ m ≠ 0 ∧ e ≤ p + m.log2
theorem PB_write (k : FloatKind) (m : Nat) (p e e' : Int) (h0 : m ≠ 0) (h : e ≤ p + m.log2) (h' : p + m.log2 < e') (he : k.format.leastPlace + k.format.fractionBits ≤ e) (hi : e' ≤ 100) :
    PB k (k.format.write (.number false m p)) e := by
  obtain ⟨r, hr, hb, _⟩ := nearest_small k.format false m p e' (fun _ => h') (by omega)
  obtain ⟨r', hr', hb'⟩ := nearest_great k.format false m p e h0 h he
  have hB : 0 < k.format.binade := Nat.two_pow_pos _
  have hSB : k.format.infRung < k.format.signWeight := k.format.infRung_lt
  have hinf : (101 - k.format.fractionBits - k.format.leastPlace + 1).toNat * k.format.binade < k.format.infRung := by cases k <;> decide
  have hle : (e' - k.format.fractionBits - k.format.leastPlace + 1).toNat ≤ (101 - k.format.fractionBits - k.format.leastPlace + 1).toNat := by omega
  have hle' : (e - k.format.fractionBits - k.format.leastPlace + 1).toNat ≤ (101 - k.format.fractionBits - k.format.leastPlace + 1).toNat := by omega
  have hlt : r < k.format.infRung := Nat.lt_of_le_of_lt (Nat.le_trans hb (Nat.mul_le_mul_right _ hle)) hinf
  have hlt' := Nat.lt_of_le_of_lt (Nat.mul_le_mul_right k.format.binade hle') hinf
  have hrr : r' = r := by
    have : k.format.word false r' = k.format.word false r := hr'.symm.trans hr
    simpa [Ieee.Format.word] using this
  rw [hrr] at hb'
  have hlow : (e - k.format.fractionBits - k.format.leastPlace + 1).toNat * k.format.binade ≤ r := by omega
  show PB k (k.format.nearest false m p) e
  rw [hr]
  show ∃ m' p', k.format.read (k.format.word false r) = .number false m' p' ∧ _
  have hq : (e - k.format.fractionBits - k.format.leastPlace + 1).toNat ≤ r / k.format.binade := (Nat.le_div_iff_mul_le hB).2 hlow
  have h1 : ¬ r < k.format.binade := by
    have := Nat.mul_le_mul_right k.format.binade (show 1 ≤ (e - k.format.fractionBits - k.format.leastPlace + 1).toNat by omega)
    omega
  have hw : k.format.word false r = r := by simp [Ieee.Format.word]
  have hfb : k.format.binade = 2 ^ k.format.fractionBits := rfl
  unfold Ieee.Format.read
  dsimp only
  rw [word_mod _ _ _ (by omega), if_neg h1, if_pos hlt, hw, Nat.div_eq_of_lt (by omega)]
  refine ⟨_, _, rfl, by omega, ?_⟩
  have hl : k.format.fractionBits ≤ (k.format.binade + r % k.format.binade).log2 := (Nat.le_log2 (by omega)).2 (by omega)
  omega

/-- A number without a minus sign, less than two to the power of e. -/
def NB (k : FloatKind) (x : Nat) (e : Int) : Prop := ∃ m p, k.decode x = .number false m p ∧ (m ≠ 0 → p + m.log2 < e)
theorem NB.mb {k : FloatKind} {x : Nat} {e : Int} (h : NB k x e) : MB k x e := by
  obtain ⟨m, p, h1, h2⟩ := h; exact ⟨_, m, p, h1, h2⟩
theorem NB_write (k : FloatKind) (m : Nat) (p e : Int) (h : m ≠ 0 → p + m.log2 < e) (he : k.format.leastPlace + k.format.fractionBits + 1 ≤ e)
    (hi : e ≤ 100) : NB k (k.format.write (.number false m p)) (e + 1) := by
  obtain ⟨s, m', p', h1, h2⟩ := MB_write k false m p e h he hi
  obtain ⟨r, hr, hb, _⟩ := nearest_small k.format false m p e h he
  have hB : 0 < k.format.binade := Nat.two_pow_pos _
  have hSB : k.format.infRung < k.format.signWeight := k.format.infRung_lt
  have hinf : (101 - k.format.fractionBits - k.format.leastPlace + 1).toNat * k.format.binade < k.format.infRung := by cases k <;> decide
  have hle : (e - k.format.fractionBits - k.format.leastPlace + 1).toNat ≤ (101 - k.format.fractionBits - k.format.leastPlace + 1).toNat := by omega
  have hlt : r < k.format.infRung := Nat.lt_of_le_of_lt (Nat.le_trans hb (Nat.mul_le_mul_right _ hle)) hinf
  have hw : k.format.word false r = r := by simp [Ieee.Format.word]
  have hs : s = false := by
    change k.format.read (k.format.nearest false m p) = _ at h1
    rw [hr] at h1
    unfold Ieee.Format.read at h1
    dsimp only at h1
    rw [hw, Nat.div_eq_of_lt (by omega)] at h1
    split at h1
    · simp only [Ieee.Datum.number.injEq] at h1; rw [← h1.1]; rfl
    · split at h1
      · simp only [Ieee.Datum.number.injEq] at h1; rw [← h1.1]; rfl
      · split at h1 <;> cases h1
  subst hs
  exact ⟨m', p', h1, h2⟩
/-- What is multiplied by itself has no minus sign. -/
theorem NB_square {x : Nat} {e : Int} (hx : MB .f64 x e) (h1 : -1000 ≤ e + e) (h2 : e + e ≤ 100) : ∃ y, fop .mul .f64 (some x) (some x) = some y ∧ NB .f64 y (e + e + 1) := by
  obtain ⟨s, m, p, a1, a2⟩ := hx
  have hL : FloatKind.f64.format.leastPlace + FloatKind.f64.format.fractionBits + 1 = -1021 := by decide
  refine ⟨FloatKind.f64.format.write (.number false (m * m) (p + p)), ?_, NB_write .f64 _ _ _ (fun h0 => ?_) (by omega) h2⟩
  · show ((FloatKind.f64.decode x).product (FloatKind.f64.decode x)).map FloatKind.f64.format.write = _
    rw [a1]
    show some (FloatKind.f64.format.write (.number (s != s) (m * m) (p + p))) = _
    cases s <;> rfl
  · have m0 : m ≠ 0 := fun h => h0 (by rw [h, Nat.zero_mul])
    have a3 := a2 m0
    have b1 : m < 2 ^ (m.log2 + 1) := Nat.lt_log2_self
    have b3 : m * m < 2 ^ (m.log2 + 1 + (m.log2 + 1)) := by
      rw [Nat.pow_add]; exact Nat.mul_lt_mul_of_lt_of_le b1 (Nat.le_of_lt b1) (Nat.two_pow_pos _)
    have b4 := (Nat.log2_lt h0).2 b3
    omega
/-- The sum of a number of at least two to the power of e and one without a minus sign. -/
theorem PB_sum {x y : Nat} {e E : Int} (hx : PB .f64 x e) (hX : MB .f64 x E) (hy : NB .f64 y E) (h1 : -1000 ≤ e) (h0 : -1000 ≤ E) (h2 : E ≤ 99) : ∃ r, fop .add .f64 (some x) (some y) = some r ∧ PB .f64 r e ∧ NB .f64 r (E + 2) := by
  obtain ⟨m, p, a1, a0, a2⟩ := hx
  obtain ⟨n, q, b1, b2⟩ := hy
  obtain ⟨s', m', p', c1, c2, c3⟩ := hX.le (by omega)
  rw [a1] at c1
  obtain ⟨rfl, rfl, rfl⟩ : false = s' ∧ m = m' ∧ p = p' := by simpa using c1
  have hL : FloatKind.f64.format.leastPlace + FloatKind.f64.format.fractionBits = -1022 := by decide
  have d1 := lg_scale (m := m) (p := p) (base := min p q) (e := E) (by omega) (by omega) c2
  have d2 := lg_scale (m := n) (p := q) (base := min p q) (e := E) (by omega) (by omega) b2
  have m0 : m <<< (p - min p q).toNat ≠ 0 := by rw [Nat.shiftLeft_eq]; exact Nat.mul_ne_zero a0 (Nat.pos_iff_ne_zero.1 (Nat.two_pow_pos _))
  have s0 : m <<< (p - min p q).toNat + n <<< (q - min p q).toNat ≠ 0 := fun h => m0 (Nat.eq_zero_of_add_eq_zero_right h)
  have low : e ≤ min p q + ((m <<< (p - min p q).toNat + n <<< (q - min p q).toNat).log2 : Int) := by
    have hge : 2 ^ m.log2 ≤ m := Nat.log2_self_le a0
    have : 2 ^ (m.log2 + (p - min p q).toNat) ≤ m <<< (p - min p q).toNat + n <<< (q - min p q).toNat := by
      rw [Nat.pow_add, Nat.shiftLeft_eq]
      exact Nat.le_trans (Nat.mul_le_mul_right _ hge) (Nat.le_add_right _ _)
    have := (Nat.le_log2 s0).2 this
    omega
  have high : min p q + ((m <<< (p - min p q).toNat + n <<< (q - min p q).toNat).log2 : Int) < E + 1 := by
    refine lg_of s0 (by omega) ?_
    rw [show (E + 1 - min p q).toNat = (E - min p q).toNat + 1 by omega, Nat.pow_succ]
    omega
  refine ⟨FloatKind.f64.format.write (.number false (m <<< (p - min p q).toNat + n <<< (q - min p q).toNat) (min p q)), ?_, PB_write .f64 _ _ e (E + 1) s0 low high (by omega) (by omega), ?_⟩
  · show ((FloatKind.f64.decode x).sum (FloatKind.f64.decode y)).map FloatKind.f64.format.write = _
    rw [a1, b1]
    have e1 : Ieee.signed false m (p - min p q).toNat + Ieee.signed false n (q - min p q).toNat = ((m <<< (p - min p q).toNat + n <<< (q - min p q).toNat : Nat) : Int) := by
      simp [Ieee.signed]
    have e2 : ¬ ((m <<< (p - min p q).toNat + n <<< (q - min p q).toNat : Nat) : Int) = 0 := fun h => s0 (Int.ofNat_eq_zero.1 h)
    have e3 : ¬ ((m <<< (p - min p q).toNat + n <<< (q - min p q).toNat : Nat) : Int) < 0 := Int.not_lt.2 (Int.natCast_nonneg _)
    simp only [Ieee.Datum.sum, e1, if_neg e2, Option.map, Int.natAbs_natCast, decide_eq_false e3]
  · have := NB_write .f64 _ _ (E + 1) (fun _ => high) (by omega) (by omega)
    rwa [show E + 1 + 1 = E + 2 by omega] at this
theorem PB.lbc {x : Nat} {e : Int} (h : PB .f64 x e) : LBC (some x) e := by
  obtain ⟨m, p, h1, h2, h3⟩ := h; exact ⟨x, _, m, p, rfl, h1, h2, h3⟩
end Fk
end Go.Proofs.Ytcgnmnbjgamedaa

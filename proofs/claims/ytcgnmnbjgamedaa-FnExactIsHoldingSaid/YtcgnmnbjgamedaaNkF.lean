
/-
Films: how wide they are, which necks fit, and what is found between two necks. Conditions: none.
-/
import Derived.Test.YtcgnmnbjgamedaaNkE
namespace Go.Proofs.Ytcgnmnbjgamedaa
namespace Fk
open Go
set_option linter.unusedVariables false

def leW (W r : Nat) : Bool := FloatKind.f32.format.order W r == some .lt || FloatKind.f32.format.order W r == some .eq
def leC (W : Option Nat) (r : Nat) : Bool := match W with | none => false | some w => leW w r
theorem le_of {x r : Nat} {W : Option Nat} (hx : FV .f32 x W) : leW x r = leC W r := by
  cases W with
  | none =>
    show leW x r = false
    unfold leW
    have : FloatKind.f32.format.order x r = none := order_nan (.inl hx.nan)
    rw [this]; rfl
  | some w => rw [hx.num]; rfl
/-- How wide a film with the neck c is at the height h. -/
def widthC (c h : Nat) : Option Nat := (fop .quo .f32 (some h) (some c)).bind fun x => fop .mul .f32 (some c) (coshN x)
def fitN (h r c : Nat) : Bool := leC (widthC c h) r
def midN (l u : Nat) : Nat := (fop .mul .f32 (some 1056964608) (fop .add .f32 (some l) (some u))).getD 0
def stepN (h r : Nat) (s : Nat × Nat) : Nat × Nat := bif fitN h r (midN s.1 s.2) then (midN s.1 s.2, s.2) else (s.1, midN s.1 s.2)
def bisN (h r : Nat) : Nat → Nat × Nat → Nat × Nat
  | 0, s => s
  | k + 1, s => stepN h r (bisN h r k s)
/-- What is known of a height: at most four times two to the power of E, and a number. -/
def Hgt (h : Nat) (E : Int) : Prop := h < 4294967296 ∧ QLE .f32 h 1 (E + 2) ∧ (∃ m p, FloatKind.f32.decode h = .number false m p) ∧ -149 ≤ E
theorem arg_ok {h c : Nat} {E : Int} (hh : Hgt h E) (hc : QGE .f32 c 1 E) : ∃ x, fop .quo .f32 (some h) (some c) = some x ∧ x < 4294967296 ∧ QLE .f32 x 1 6 ∧ QLE .f32 (Op.negFloat .f32 x) 1 6 := by
  obtain ⟨x, h1, h2⟩ := quo_arg hh.2.1 hc hh.2.2.1 (by omega) (by omega)
  have hlt : x < 4294967296 := by
    have := (floatBits_ok (show floatBits .quo .f32 h c = some x from h1)).2.2.2
    exact this
  exact ⟨x, h1, hlt, h2, QLE_neg hlt h2⟩
theorem mid_ok {l u : Nat} {E : Int} (hl : QGE .f32 l 1 E) (hu : QGE .f32 u 1 E) (hE : -149 ≤ E) : fop .mul .f32 (some 1056964608) (fop .add .f32 (some l) (some u)) = some (midN l u) ∧ QGE .f32 (midN l u) 1 E := by
  have h1 := QGC_add ⟨l, rfl, hl⟩ ⟨u, rfl, hu⟩ (by decide) hE
  have h2 : QGC (fop .add .f32 (some l) (some u)) 1 (E + 1) := by
    obtain ⟨x, k1, k2⟩ := h1
    refine ⟨x, k1, k2.mono ?_⟩
    rw [Qr_iff (c := E) (by omega) (by omega), show (E + 1 - E).toNat = 1 by omega, show (E - E).toNat = 0 by omega]
    decide
  obtain ⟨x, k1, k2⟩ := QGC_half h2 (by decide) (by omega)
  have hm : midN l u = x := by unfold midN; rw [k1]; rfl
  rw [hm]
  refine ⟨k1, ?_⟩
  rw [show E + 1 - 1 = E by omega] at k2
  exact k2
theorem bis_ok {h r : Nat} {E : Int} (hE : -149 ≤ E) {s : Nat × Nat} (h1 : QGE .f32 s.1 1 E) (h2 : QGE .f32 s.2 1 E) : ∀ k, QGE .f32 (bisN h r k s).1 1 E ∧ QGE .f32 (bisN h r k s).2 1 E
  | 0 => ⟨h1, h2⟩
  | k + 1 => by
    obtain ⟨a, b⟩ := bis_ok hE h1 h2 k
    have hm := (mid_ok a b hE).2
    show QGE .f32 (stepN h r (bisN h r k s)).1 1 E ∧ QGE .f32 (stepN h r (bisN h r k s)).2 1 E
    unfold stepN
    cases fitN h r (midN (bisN h r k s).1 (bisN h r k s).2)
    · exact ⟨a, hm⟩
    · exact ⟨hm, b⟩
/-- A neck that is infinite does not fit. -/
theorem fit_inf {h r c : Nat} {E : Int} (hh : Hgt h E) (hc : QGE .f32 c 1 E) (hi : FloatKind.f32.decode c = .infinity false) (hr : r < 2139095040) : fitN h r c = false := by
  obtain ⟨x, k1, k2, k3, k4⟩ := arg_ok hh hc
  obtain ⟨y, m, p, j1, j2, _⟩ := (q_cosh k3 k4).1
  obtain ⟨mr, pr, hd, _⟩ := meas_dec hr
  unfold fitN widthC
  rw [k1]
  show leC (fop .mul .f32 (some c) (coshN x)) r = false
  rw [j1]
  have e : fop .mul .f32 (some c) (some y) = ((FloatKind.f32.decode c).product (FloatKind.f32.decode y)).map FloatKind.f32.format.write := rfl
  rw [e, hi, j2]
  by_cases h0 : m = 0
  · subst h0; rfl
  · have : (Ieee.Datum.infinity false).product (.number false m p) = some (.infinity false) := by
      cases m with
      | zero => exact absurd rfl h0
      | succ m => rfl
    rw [this]
    show leW (FloatKind.f32.format.write (.infinity false)) r = false
    unfold leW
    have ho : FloatKind.f32.format.order (FloatKind.f32.format.write (.infinity false)) r = (FloatKind.f32.decode (FloatKind.f32.format.write (.infinity false))).order (FloatKind.f32.decode r) := rfl
    rw [ho, inf32, hd]
    rfl
theorem ord_num {x y m n : Nat} {p q : Int} (hx : FloatKind.f32.decode x = .number false m p) (hy : FloatKind.f32.decode y = .number false n q) :
    FloatKind.f32.format.order x y = some (compare ((m * 2 ^ (p - min p q).toNat : Nat) : Int) ((n * 2 ^ (q - min p q).toNat : Nat) : Int)) := by
  have ho : FloatKind.f32.format.order x y = (FloatKind.f32.decode x).order (FloatKind.f32.decode y) := rfl
  have s0 : ∀ (a b : Nat), Ieee.signed false a b = ((a * 2 ^ b : Nat) : Int) := fun a b => by show ((a <<< b : Nat) : Int) = _; rw [Nat.shiftLeft_eq]
  rw [ho, hx, hy]
  show some (compare (Ieee.signed false m (p - min p q).toNat) (Ieee.signed false n (q - min p q).toNat)) = _
  rw [s0, s0]
theorem le_qr {x y m n : Nat} {p q : Int} (hx : FloatKind.f32.decode x = .number false m p) (hy : FloatKind.f32.decode y = .number false n q) (h : leW x y = true) : Qr m p n q := by
  unfold leW at h
  rw [ord_num hx hy] at h
  rw [Qr_iff (c := min p q) (by omega) (by omega)]
  generalize m * 2 ^ (p - min p q).toNat = A at *
  generalize n * 2 ^ (q - min p q).toNat = B at *
  rcases Nat.lt_or_ge B A with hlt | hge
  · rw [cmp_gt (by omega)] at h; cases h
  · exact hge
theorem gt_qr {x y m n : Nat} {p q : Int} (hx : FloatKind.f32.decode x = .number false m p) (hy : FloatKind.f32.decode y = .number false n q) (h : Qr m p n q) : (FloatKind.f32.format.order x y == some .gt) = false := by
  rw [ord_num hx hy]
  rw [Qr_iff (c := min p q) (by omega) (by omega)] at h
  generalize m * 2 ^ (p - min p q).toNat = A at *
  generalize n * 2 ^ (q - min p q).toNat = B at *
  rcases Nat.lt_trichotomy A B with hlt | he | hgt
  · rw [cmp_lt (by omega)]; rfl
  · rw [he]; simp
  · omega
theorem meas_top {x : Nat} (h : x < 2139095040) {m : Nat} {p : Int} (hd : FloatKind.f32.decode x = .number false m p) (hp : 104 ≤ p) : 8388608 ≤ m := by
  have e1 : FloatKind.f32.format.binade = 8388608 := by decide
  have e2 : FloatKind.f32.format.infRung = 2139095040 := by decide
  have e3 : FloatKind.f32.format.leastPlace = -149 := by decide
  have e5 : FloatKind.f32.format.signWeight = 2147483648 := by decide
  have hd' : FloatKind.f32.format.read x = .number false m p := hd
  unfold Ieee.Format.read at hd'
  dsimp only at hd'
  rw [e1, e2, e3, e5, Nat.mod_eq_of_lt (by omega), Nat.div_eq_of_lt (by omega)] at hd'
  by_cases h1 : x < 8388608
  · rw [if_pos h1] at hd'
    cases hd'
    omega
  · rw [if_neg h1, if_pos h] at hd'
    cases hd'
    omega
theorem write_top (T : Nat) (P : Int) : FloatKind.f32.format.write (.number false T P) ≤ 2139095040 := by
  have e2 : FloatKind.f32.format.infRung = 2139095040 := by decide
  have w0 : ∀ r, FloatKind.f32.format.word false r = r := fun r => rfl
  show FloatKind.f32.format.nearest false T P ≤ _
  unfold Ieee.Format.nearest
  dsimp only
  by_cases h0 : T = 0
  · rw [if_pos h0, w0]; exact Nat.zero_le _
  · rw [if_neg h0, w0, e2]
    exact Nat.min_le_right _ _
theorem inf_dec : FloatKind.f32.decode 2139095040 = .infinity false := by decide
theorem half_qr {m : Nat} {p : Int} (hp1 : -149 ≤ p) : Qr (8388608 * m) (-24 + p) m (max (p - 1) (-149)) := by
  rw [Qr_iff (c := -24 + p) (by omega) (by omega), show (-24 + p - (-24 + p)).toNat = 0 by omega, Nat.pow_zero, Nat.mul_one, Nat.mul_comm]
  refine Nat.mul_le_mul_left _ ?_
  have h := Nat.pow_le_pow_right (n := 2) (by decide) (show 23 ≤ (max (p - 1) (-149) - (-24 + p)).toNat by omega)
  have e : (2 : Nat) ^ 23 = 8388608 := by decide
  rw [e] at h
  exact h
/-- The half of a measure is a measure or nothing, of a place that is not the last. -/
theorem half_word {g h : Nat} (hg : g < 2139095040) (hh : fop .mul .f32 (some 1056964608) (some g) = some h) : h < 2139095040 ∧ ∃ m p, FloatKind.f32.decode h = .number false m p ∧ m < 16777216 ∧ -149 ≤ p ∧ p ≤ 103 := by
  obtain ⟨m, p, hd, hm, hp1, hp2, _⟩ := meas_dec hg
  have e2 : fop .mul .f32 (some 1056964608) (some g) = some (FloatKind.f32.format.write (.number false (8388608 * m) (-24 + p))) := by
    have e1 : fop .mul .f32 (some 1056964608) (some g) = ((FloatKind.f32.decode 1056964608).product (FloatKind.f32.decode g)).map FloatKind.f32.format.write := rfl
    rw [e1, half_dec, hd]; rfl
  rw [e2] at hh
  cases hh
  have h1 := half_qr (m := m) hp1
  have h2 := QLE_write .f32 false _ _ m (max (p - 1) (-149)) h1 (by rw [bin32]; omega) (ok32' (by omega) (by omega))
  have hle := write_top (8388608 * m) (-24 + p)
  generalize FloatKind.f32.format.write (.number false (8388608 * m) (-24 + p)) = h at *
  have hlt : h < 2139095040 := by
    rcases Nat.lt_or_ge h 2139095040 with k | k
    · exact k
    · exfalso
      have : h = 2139095040 := by omega
      obtain ⟨s, a, b, k1, _⟩ := h2
      rw [this, inf_dec] at k1
      cases k1
  refine ⟨hlt, ?_⟩
  obtain ⟨a, b, k1, k2, k3, k4, _⟩ := meas_dec hlt
  refine ⟨a, b, k1, k2, k3, ?_⟩
  rcases Int.lt_or_le b 104 with k5 | k5
  · omega
  · exfalso
    have k6 := meas_top hlt k1 k5
    obtain ⟨s, a', b', j1, j2⟩ := h2
    rw [k1] at j1
    cases j1
    rw [Qr_iff (c := max (p - 1) (-149)) (by omega) (by omega), show (max (p - 1) (-149) - max (p - 1) (-149)).toNat = 0 by omega, Nat.pow_zero, Nat.mul_one] at j2
    have j3 : a * 2 ^ 1 ≤ a * 2 ^ (b - max (p - 1) (-149)).toNat := Nat.mul_le_mul_left _ (Nat.pow_le_pow_right (by decide) (by omega))
    omega
end Fk
end Go.Proofs.Ytcgnmnbjgamedaa

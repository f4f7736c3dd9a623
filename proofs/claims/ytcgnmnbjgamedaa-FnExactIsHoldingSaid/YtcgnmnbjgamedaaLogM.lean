
/-
Halving and doubling a number until it is near one, and sizes of the chain that makes a logarithm. Conditions: none.
-/
import Derived.Test.YtcgnmnbjgamedaaFrac
namespace Go.Proofs.Ytcgnmnbjgamedaa
namespace Fk
open Go
set_option linter.unusedVariables false

/-- What is written of a number without a minus sign has none. -/
theorem sgn_write {m : Nat} {p : Int} {s' : Bool} {m' : Nat} {p' : Int} (h : FloatKind.f64.decode (FloatKind.f64.format.write (.number false m p)) = .number s' m' p') : s' = false := by
  obtain ⟨r, hr, he⟩ := nearest_word FloatKind.f64.format false m p
  have e5 : FloatKind.f64.format.infRung = 9218868437227405312 := by decide
  rw [e5] at hr
  have hw : FloatKind.f64.format.write (.number false m p) = r := by
    show FloatKind.f64.format.nearest false m p = r
    rw [he]; unfold Ieee.Format.word; simp
  rw [hw, dec64] at h
  have h0 : (r / 9223372036854775808 % 2 == 1) = false := by rw [beq_eq_false_iff_ne]; omega
  rw [h0] at h
  split at h
  · cases h; rfl
  · split at h
    · cases h; rfl
    · split at h <;> cases h
/-- A number without a minus sign, at most two to the power of e. -/
def NLE (x : Nat) (e : Int) : Prop := ∃ m p, FloatKind.f64.decode x = .number false m p ∧ p ≤ e ∧ m ≤ 2 ^ (e - p).toNat
theorem NLE.le {x : Nat} {e : Int} (h : NLE x e) : LE x e := by obtain ⟨m, p, h⟩ := h; exact ⟨_, m, p, h⟩
theorem NLE.mono {x : Nat} {e e' : Int} (h : NLE x e) (he : e ≤ e') : NLE x e' := by
  obtain ⟨m, p, h1, h2, h3⟩ := h
  exact ⟨m, p, h1, by omega, Nat.le_trans h3 (Nat.pow_le_pow_right (by decide) (by omega))⟩
def two64 : Nat := 4611686018427387904
theorem dec_two : FloatKind.f64.decode two64 = .number false 4503599627370496 (-51) := by decide
/-- One halving. -/
theorem NLE_half {x : Nat} {e : Int} (h : NLE x e) (h1 : -900 ≤ e) (h2 : e ≤ 200) : ∃ y, fop .quo .f64 (some x) (some two64) = some y ∧ NLE y (e - 1) := by
  obtain ⟨m, p, hd, hp, hm⟩ := h
  obtain ⟨d, hd', hl⟩ := LE_quotient (FloatKind.f64.format.fractionBits + 2) hd dec_two hp hm (by decide) (e' := 1) (by decide) (by omega) (by omega)
  refine ⟨FloatKind.f64.format.write d, ?_, ?_⟩
  · show ((FloatKind.f64.decode x).quotient (FloatKind.f64.format.fractionBits + 2) (FloatKind.f64.decode two64)).map FloatKind.f64.format.write = _
    rw [hd']; rfl
  · obtain ⟨s, m', p', k1, k2, k3⟩ := hl
    rw [hd, dec_two] at hd'
    simp only [Ieee.Datum.quotient, show (4503599627370496 : Nat) ≠ 0 by decide, if_false, Option.some.injEq] at hd'
    subst hd'
    obtain rfl := sgn_write k1
    exact ⟨m', p', k1, k2, k3⟩
/-- One doubling. -/
theorem NLE_double {x : Nat} {e : Int} (h : NLE x e) (h1 : -900 ≤ e) (h2 : e ≤ 100) : ∃ y, fop .mul .f64 (some x) (some two64) = some y ∧ NLE y (e + 1) := by
  obtain ⟨m, p, hd, hp, hm⟩ := h
  obtain ⟨d, hd', hl⟩ := LE_product hd dec_two hp hm (e' := 1) (by decide) (by decide) (by omega) (by omega)
  refine ⟨FloatKind.f64.format.write d, ?_, ?_⟩
  · show ((FloatKind.f64.decode x).product (FloatKind.f64.decode two64)).map FloatKind.f64.format.write = _
    rw [hd']; rfl
  · obtain ⟨s, m', p', k1, k2, k3⟩ := hl
    rw [hd, dec_two] at hd'
    simp only [Ieee.Datum.product, Option.some.injEq] at hd'
    subst hd'
    obtain rfl := sgn_write k1
    exact ⟨m', p', k1, k2, k3⟩
theorem PB_double {x : Nat} {e : Int} (h : PB .f64 x e) (hx : NLE x 0) (h1 : -900 ≤ e) : ∀ y, fop .mul .f64 (some x) (some two64) = some y → PB .f64 y (e + 1) := by
  obtain ⟨m, p, hd, h0, he⟩ := h
  obtain ⟨m', p', hd2, hp, hm⟩ := hx
  rw [hd] at hd2
  cases hd2
  intro y hy
  have hl : (m * 4503599627370496).log2 = m.log2 + 52 := by
    have := Nat.log2_self_le h0
    have hlt : m < 2 ^ (m.log2 + 1) := Nat.lt_log2_self
    have t52 : (4503599627370496 : Nat) = 2 ^ 52 := by decide
    have a : (m * 4503599627370496).log2 < m.log2 + 53 := (Nat.log2_lt (by omega)).2 (by
      rw [t52, show m.log2 + 53 = m.log2 + 1 + 52 by omega, Nat.pow_add]
      exact Nat.mul_lt_mul_of_pos_right hlt (Nat.two_pow_pos _))
    have b : m.log2 + 52 ≤ (m * 4503599627370496).log2 := (Nat.le_log2 (by omega)).2 (by
      rw [t52, Nat.pow_add]; exact Nat.mul_le_mul_right _ this)
    omega
  have hup : p + (m.log2 : Int) ≤ 0 := by
    have h2 : 2 ^ m.log2 ≤ 2 ^ (0 - p).toNat := Nat.le_trans (Nat.log2_self_le h0) hm
    have := (Nat.pow_le_pow_iff_right (by decide)).1 h2
    omega
  have := PB_write .f64 (m * 4503599627370496) (p + -51) (e + 1) 2 (by omega) (by rw [hl]; omega) (by rw [hl]; omega)
    (by rw [show FloatKind.f64.format.leastPlace + FloatKind.f64.format.fractionBits = -1022 by decide]; omega) (by decide)
  have hf : fop .mul .f64 (some x) (some two64) = some (FloatKind.f64.format.write (.number false (m * 4503599627370496) (p + -51))) := by
    show ((FloatKind.f64.decode x).product (FloatKind.f64.decode two64)).map FloatKind.f64.format.write = _
    rw [hd, dec_two]; rfl
  rw [hf] at hy
  cases hy
  exact this

/-- At least 1.5; less than 0.75. -/
def geB (x : Nat) : Bool := FloatKind.f64.format.order x 4609434218613702656 == some .gt || FloatKind.f64.format.order x 4609434218613702656 == some .eq
def ltB (x : Nat) : Bool := FloatKind.f64.format.order x 4604930618986332160 == some .lt
theorem NLE.word {x : Nat} {e : Int} (h : NLE x e) (hx : x < 18446744073709551616) : x < 9218868437227405312 := by
  obtain ⟨m, p, hd, _⟩ := h
  rw [dec64] at hd
  have hs : ∀ b : Bool, (x / 9223372036854775808 % 2 == 1) = b → b = false → x < 9223372036854775808 := by
    intro b hb h; subst hb; rw [beq_eq_false_iff_ne] at h; omega
  split at hd
  · simp only [Ieee.Datum.number.injEq] at hd
    have := hs _ rfl hd.1; omega
  · split at hd
    · rename_i h1
      simp only [Ieee.Datum.number.injEq] at hd
      have := hs _ rfl hd.1; omega
    · split at hd <;> cases hd
theorem NLE.fv {x : Nat} {e : Int} (h : NLE x e) (hx : x < 18446744073709551616) : FV .f64 x (some x) := by
  have := h.word hx
  refine ⟨by rw [show 2 ^ FloatKind.f64.format.width = 18446744073709551616 by decide]; exact hx, cls_num ?_⟩
  obtain ⟨m, p, hd, _⟩ := h
  rw [hd]; rfl
theorem ord_word {x c : Nat} (hx : x < 9218868437227405312) (hc : c < 9218868437227405312) : FloatKind.f64.format.order x c = some (compare (x : Int) (c : Int)) := by
  have e3 : 2 ^ FloatKind.f64.format.width = 18446744073709551616 := by decide
  have nn : ∀ z, z < 9218868437227405312 → (FloatKind.f64.decode z).isNaN = false := by
    intro z hz
    rw [isNaN_decode, show FloatKind.f64.format.infRung = 9218868437227405312 by decide, show FloatKind.f64.format.signWeight = 9223372036854775808 by decide]
    exact decide_eq_false (by omega)
  rw [order_key (by rw [e3]; omega) (by rw [e3]; omega) (nn _ hx) (nn _ hc)]
  have k : ∀ z, z < 9218868437227405312 → key .f64 z = (z : Int) := by
    intro z hz
    unfold key
    rw [show FloatKind.f64.format.signWeight = 9223372036854775808 by decide, if_pos (by omega)]
  rw [k _ hx, k _ hc]
theorem geB_eq {x : Nat} (hx : x < 9218868437227405312) : geB x = decide (4609434218613702656 ≤ x) := by
  unfold geB
  rw [ord_word hx (by decide)]
  rcases Int.lt_trichotomy (x : Int) 4609434218613702656 with h | h | h
  · rw [show ((4609434218613702656 : Nat) : Int) = 4609434218613702656 from rfl, Int.compare_eq_lt.2 h, decide_eq_false (by omega)]; rfl
  · rw [show ((4609434218613702656 : Nat) : Int) = 4609434218613702656 from rfl, Int.compare_eq_eq.2 h, decide_eq_true (by omega)]; rfl
  · rw [show ((4609434218613702656 : Nat) : Int) = 4609434218613702656 from rfl, Int.compare_eq_gt.2 h, decide_eq_true (by omega)]; rfl
theorem ltB_eq {x : Nat} (hx : x < 9218868437227405312) : ltB x = decide (x < 4604930618986332160) := by
  unfold ltB
  rw [ord_word hx (by decide)]
  rcases Int.lt_trichotomy (x : Int) 4604930618986332160 with h | h | h
  · rw [show ((4604930618986332160 : Nat) : Int) = 4604930618986332160 from rfl, Int.compare_eq_lt.2 h, decide_eq_true (by omega)]; rfl
  · rw [show ((4604930618986332160 : Nat) : Int) = 4604930618986332160 from rfl, Int.compare_eq_eq.2 h, decide_eq_false (by omega)]; rfl
  · rw [show ((4604930618986332160 : Nat) : Int) = 4604930618986332160 from rfl, Int.compare_eq_gt.2 h, decide_eq_false (by omega)]; rfl
theorem dec_pos {x : Nat} (hx : x < 9218868437227405312) : FloatKind.f64.decode x = if x < 4503599627370496 then .number false x (-1074) else .number false (4503599627370496 + x % 4503599627370496) (-1074 + (x / 4503599627370496 - 1 : Nat)) := by
  rw [dec64]
  have h1 : x % 9223372036854775808 = x := by omega
  have h2 : (x / 9223372036854775808 % 2 == 1) = false := by rw [beq_eq_false_iff_ne]; omega
  rw [h1, h2, if_pos hx]
theorem NLE_word {x : Nat} {e : Int} (h : x < 4611686018427387904) (h' : x / 4503599627370496 < (e + 1023).toNat) (he : 0 ≤ e) : NLE x e := by
  have hx : x < 9218868437227405312 := by omega
  have := dec_pos hx
  by_cases h1 : x < 4503599627370496
  · rw [if_pos h1] at this
    refine ⟨_, _, this, by omega, ?_⟩
    exact Nat.le_trans (Nat.le_of_lt h1) (Nat.le_trans (show 4503599627370496 ≤ 2 ^ 52 from by decide) (Nat.pow_le_pow_right (by decide) (by omega)))
  · rw [if_neg h1] at this
    refine ⟨_, _, this, by omega, ?_⟩
    exact Nat.le_trans (show _ ≤ 2 ^ 53 by omega) (Nat.pow_le_pow_right (by decide) (by omega))
theorem not_ge {x : Nat} (hx : x < 9218868437227405312) (h : NLE x (-1)) : geB x = false := by
  rw [geB_eq hx]
  refine decide_eq_false fun hge => ?_
  obtain ⟨m, p, hd, hp, hm⟩ := h
  rw [dec_pos hx, if_neg (by omega)] at hd
  simp only [Ieee.Datum.number.injEq, true_and] at hd
  obtain ⟨rfl, rfl⟩ := hd
  have : 2 ^ ((-1 : Int) - (-1074 + (x / 4503599627370496 - 1 : Nat))).toNat ≤ 2 ^ 51 := Nat.pow_le_pow_right (by decide) (by omega)
  have t51 : (2 : Nat) ^ 51 = 2251799813685248 := by decide
  omega
theorem not_lt {x : Nat} (hx : x < 9218868437227405312) (h : PB .f64 x 0) : ltB x = false := by
  rw [ltB_eq hx]
  refine decide_eq_false fun hlt => ?_
  obtain ⟨m, p, hd, h0, he⟩ := h
  rw [dec_pos hx] at hd
  split at hd
  · rename_i h1
    simp only [Ieee.Datum.number.injEq, true_and] at hd
    obtain ⟨rfl, rfl⟩ := hd
    have := (Nat.log2_lt (n := x) (k := 52) h0).2 h1
    omega
  · simp only [Ieee.Datum.number.injEq, true_and] at hd
    obtain ⟨rfl, rfl⟩ := hd
    have := log2_52 (m := 4503599627370496 + x % 4503599627370496) (by omega) (by omega)
    omega
theorem NLE_of_lt15 {x : Nat} (hx : x < 9218868437227405312) (h : geB x = false) : NLE x 1 := by
  rw [geB_eq hx] at h
  simp at h
  exact NLE_word (by omega) (by omega) (by decide)
theorem NLE_of_lt75 {x : Nat} (hx : x < 9218868437227405312) (h : ltB x = true) : NLE x 0 := by
  rw [ltB_eq hx] at h
  simp at h
  exact NLE_word (by omega) (by omega) (by decide)

/-- Halving while at least 1.5. -/
def down : Nat → Nat × Int → Nat × Int
  | 0, s => s
  | f + 1, s => if geB s.1 then down f ((fop .quo .f64 (some s.1) (some two64)).getD 0, s.2 + 1) else s
/-- Doubling while less than 0.75. -/
def upw : Nat → Nat × Int → Nat × Int
  | 0, s => s
  | f + 1, s => if ltB s.1 then upw f ((fop .mul .f64 (some s.1) (some two64)).getD 0, s.2 - 1) else s
theorem down_stop {f : Nat} {s : Nat × Int} (h : geB s.1 = false) : down f s = s := by cases f <;> simp [down, h]
theorem upw_stop {f : Nat} {s : Nat × Int} (h : ltB s.1 = false) : upw f s = s := by cases f <;> simp [upw, h]
theorem fop_add_comm (c d : Option Nat) : fop .add .f64 c d = fop .add .f64 d c := by
  cases c with
  | none => cases d <;> rfl
  | some x =>
    cases d with
    | none => rfl
    | some y =>
      show ((FloatKind.f64.decode x).sum (FloatKind.f64.decode y)).map FloatKind.f64.format.write = ((FloatKind.f64.decode y).sum (FloatKind.f64.decode x)).map FloatKind.f64.format.write
      congr 1
      cases FloatKind.f64.decode x with
      | nan s t => cases FloatKind.f64.decode y <;> rfl
      | infinity s =>
        cases FloatKind.f64.decode y with
        | nan => rfl
        | infinity t => cases s <;> cases t <;> rfl
        | number => rfl
      | number s m i =>
        cases FloatKind.f64.decode y with
        | nan => rfl
        | infinity => rfl
        | number t n j => simp only [Ieee.Datum.sum, Int.min_comm i j, Int.add_comm (Ieee.signed s m _), Bool.and_comm s t]
def stepsOk : Bool := (List.range 400).all fun i => (fop .add .f64 (some (floatOfInt .f64 ((i : Int) - 200))) (some one64) == some (floatOfInt .f64 ((i : Int) - 200 + 1))) && (fop .sub .f64 (some (floatOfInt .f64 ((i : Int) - 200))) (some one64) == some (floatOfInt .f64 ((i : Int) - 200 - 1)))
theorem stepsOk_true : stepsOk = true := by decide +kernel
theorem step_up {n : Int} (h1 : -200 ≤ n) (h2 : n < 200) : fop .add .f64 (some (floatOfInt .f64 n)) (some one64) = some (floatOfInt .f64 (n + 1)) := by
  have := stepsOk_true
  unfold stepsOk at this
  have := List.all_eq_true.1 this (n + 200).toNat (List.mem_range.2 (by omega))
  simp only [Bool.and_eq_true, beq_iff_eq] at this
  rw [show (((n + 200).toNat : Nat) : Int) - 200 = n by omega] at this
  exact this.1
theorem step_dn {n : Int} (h1 : -200 ≤ n) (h2 : n < 200) : fop .sub .f64 (some (floatOfInt .f64 n)) (some one64) = some (floatOfInt .f64 (n - 1)) := by
  have := stepsOk_true
  unfold stepsOk at this
  have := List.all_eq_true.1 this (n + 200).toNat (List.mem_range.2 (by omega))
  simp only [Bool.and_eq_true, beq_iff_eq] at this
  rw [show (((n + 200).toNat : Nat) : Int) - 200 = n by omega] at this
  exact this.2
def polL (u : Option Nat) : Nat → Option Nat
  | 0 => some 0
  | j + 1 => fop .add .f64 (fop .quo .f64 (some one64) (some (floatOfInt .f64 (25 - 2 * (j : Int))))) (fop .mul .f64 u (polL u j))
theorem LEC_polL {u : Option Nat} (hu : LEC u 4) : ∀ j : Nat, j ≤ 13 → LEC (polL u j) (5 * (j : Int))
  | 0, _ => ⟨0, rfl, zero_LE _ (by decide)⟩
  | j + 1, h => by
    have hj : (25 - 2 * (j : Int)) = ((25 - 2 * j : Nat) : Int) := by omega
    have hp := PB_int (n := 25 - 2 * j) (by omega) (by omega)
    have hq := LEC_quo ⟨one64, rfl, one_LE⟩ hp.lbc (by have := Nat.log2_le_self (25 - 2 * j); omega) (by omega)
    rw [← hj] at hq
    have hm := LEC_mul hu (LEC_polL hu j (by omega)) (by omega) (by omega)
    have := LEC_add (hq.mono (e' := 4 + 5 * (j : Int)) (by omega)) hm (by omega) (by omega)
    exact this.mono (by omega)
def ln64 : Nat := 4604418534313441775
def ratioL (y : Nat) : Option Nat := fop .quo .f64 (fop .sub .f64 (some y) (some one64)) (fop .add .f64 (some y) (some one64))
/-- The logarithm of a number that was brought near one by e halvings. -/
def logC (s : Nat × Int) : Option Nat :=
  fop .add .f64 (fop .mul .f64 (some two64) (fop .mul .f64 (ratioL s.1) (polL (fop .mul .f64 (ratioL s.1) (ratioL s.1)) 13))) (fop .mul .f64 (some (floatOfInt .f64 s.2)) (some ln64))
theorem LEC_log {s : Nat × Int} (h : NLE s.1 1) (h1 : -200 ≤ s.2) (h2 : s.2 ≤ 200) : LEC (logC s) 69 := by
  have hd : LEC (fop .sub .f64 (some s.1) (some one64)) 2 := LEC_sub ⟨_, rfl, h.le⟩ ⟨_, rfl, one_LE.mono (by decide)⟩ (by decide) (by decide)
  have hb : LBC (fop .add .f64 (some s.1) (some one64)) 0 := by
    rw [fop_add_comm]
    obtain ⟨m, p, k1, k2, k3⟩ := h
    have hn : NB .f64 s.1 2 := ⟨m, p, k1, fun h0 => lg_of h0 (by omega) (by
      rw [show (2 - p).toNat = (1 - p).toNat + 1 by omega, Nat.pow_succ]
      have := Nat.two_pow_pos (1 - p).toNat
      omega)⟩
    obtain ⟨r, hr, pr, _⟩ := PB_sum one_PB (E := 2) (one_LE.mb.mono (by decide)) hn (by decide) (by decide) (by decide)
    rw [hr]; exact pr.lbc
  have hs : LEC (ratioL s.1) 2 := LEC_quo hd hb (by decide) (by decide)
  have hu := LEC_mul hs hs (by decide) (by decide)
  have hq := LEC_polL hu 13 (by decide)
  have h3 := LEC_mul hs hq (by decide) (by decide)
  have h4 := LEC_mul (LEC_const 1 (x := two64) ⟨false, _, _, rfl, by decide, by decide⟩) h3 (by decide) (by decide)
  have hi : LE (floatOfInt .f64 s.2) 8 := by
    unfold floatOfInt FloatKind.nearest
    exact LE_write _ _ 0 _ (fun _ => ⟨by decide, by show s.2.natAbs ≤ 256; omega⟩) (by decide) (by decide)
  have h5 := LEC_mul (LEC_const 8 hi) (LEC_const 0 (x := ln64) ⟨false, _, _, rfl, by decide, by decide⟩) (by decide) (by decide)
  exact (LEC_add h4 (h5.mono (by decide)) (by decide) (by decide)).mono (by decide)
end Fk
end Go.Proofs.Ytcgnmnbjgamedaa

/-
Texts in one: what NormVectors stands on, part 0. Conditions: those of each.
-/
import Derived.WalkKit
import Derived.WalkLawsBesides
import Derived.Deep.Draws
import Derived.ChangeSlices
import Derived.Lib.SmallJoins
-- halved
namespace Go.Proofs.Ytkdoibglgkcbkaa
namespace Fk
open Go
def cls (k : FloatKind) (b : Nat) : Option Nat := if (k.decode b).isNaN then none else some b
def FV (k : FloatKind) (b : Nat) (c : Option Nat) : Prop := b < 2 ^ k.format.width ∧ cls k b = c
theorem FV.self {k : FloatKind} {b : Nat} (h : b < 2 ^ k.format.width) : FV k b (cls k b) := ⟨h, rfl⟩
theorem FV.num {k : FloatKind} {b x : Nat} (h : FV k b (some x)) : b = x := by
 have := h.2; unfold cls at this; split at this
 ·cases this
 ·exact Option.some.inj this
theorem FV.nan {k : FloatKind} {b : Nat} (h : FV k b none) : (k.decode b).isNaN = true := by
 have := h.2; unfold cls at this; split at this
 ·assumption
 ·cases this
theorem cls_nan {k : FloatKind} {b : Nat} (h : (k.decode b).isNaN = true) : cls k b = none := by unfold cls; rw [if_pos h]
theorem cls_num {k : FloatKind} {b : Nat} (h : (k.decode b).isNaN = false) : cls k b = some b := by unfold cls; rw [if_neg (by simp [h])]
theorem FV.notnan {k : FloatKind} {b x : Nat} (h : FV k b (some x)) : (k.decode b).isNaN = false := by
 cases hn : (k.decode b).isNaN
 ·rfl
 ·have := h.2; rw [cls_nan hn] at this; cases this
theorem isNaN_read (f : Ieee.Format) (hb : f.binade ≤ f.infRung) (b : Nat) : (f.read b).isNaN = decide (f.infRung < b % f.signWeight) := by
 unfold Ieee.Format.read
 dsimp only
 split
 ·simp [Ieee.Datum.isNaN]; omega
 ·split
  ·simp [Ieee.Datum.isNaN]; omega
  ·split
   ·simp [Ieee.Datum.isNaN]; omega
   ·simp [Ieee.Datum.isNaN]; omega
theorem isNaN_decode (k : FloatKind) (b : Nat) : (k.decode b).isNaN = decide (k.format.infRung < b % k.format.signWeight) :=
 isNaN_read _ (by cases k <;> decide) b
theorem word_mod (f : Ieee.Format) (s : Bool) (r : Nat) (h : r < f.signWeight) : f.word s r % f.signWeight = r := by
 unfold Ieee.Format.word
 split
 ·rw [Nat.add_mod_left, Nat.mod_eq_of_lt h]
 ·exact Nat.mod_eq_of_lt h
theorem nearest_word (f : Ieee.Format) (s : Bool) (m : Nat) (p : Int) : ∃ r, r ≤ f.infRung ∧ f.nearest s m p = f.word s r := by
 unfold Ieee.Format.nearest
 dsimp only
 split
 ·exact ⟨0, Nat.zero_le _, rfl⟩
 ·exact ⟨_, Nat.min_le_right _ _, rfl⟩
theorem isNaN_write (k : FloatKind) (d : Ieee.Datum) (h : d.isNaN = false) : (k.decode (k.format.write d)).isNaN = false := by
 rw [isNaN_decode]
 have hlt := k.format.infRung_lt
 cases d with
 | nan s t => simp [Ieee.Datum.isNaN] at h
 | infinity s =>
  show decide (k.format.infRung < k.format.word s k.format.infRung % k.format.signWeight) = false
  rw [word_mod _ _ _ hlt]; simp
 | number s m p =>
  obtain ⟨r, hr, he⟩ := nearest_word k.format s m p
  show decide (k.format.infRung < k.format.nearest s m p % k.format.signWeight) = false
  rw [he, word_mod _ _ _ (by omega)]; simp; omega
theorem sum_ok {x y d : Ieee.Datum} (h : x.sum y = some d) : x.isNaN = false ∧ y.isNaN = false ∧ d.isNaN = false := by
 cases x <;> cases y <;> simp_all [Ieee.Datum.sum, Ieee.Datum.isNaN] <;> first | (subst h; rfl) | (obtain ⟨_, rfl⟩ := h; rfl)
theorem product_ok {x y d : Ieee.Datum} (h : x.product y = some d) : x.isNaN = false ∧ y.isNaN = false ∧ d.isNaN = false := by
 cases x <;> cases y <;> simp_all [Ieee.Datum.product, Ieee.Datum.isNaN] <;> first | (subst h; rfl) | (obtain ⟨_, rfl⟩ := h; rfl)
theorem quotient_ok {n : Nat} {x y d : Ieee.Datum} (h : x.quotient n y = some d) : x.isNaN = false ∧ y.isNaN = false ∧ d.isNaN = false := by
 cases x <;> cases y <;> simp_all [Ieee.Datum.quotient, Ieee.Datum.isNaN] <;> first | (subst h; rfl) | skip
 split at h
 ·split at h
  ·cases h
  ·cases h; rfl
 ·cases h; rfl
theorem opposite_nan (x : Ieee.Datum) : x.opposite.isNaN = x.isNaN := by cases x <;> rfl
theorem floatBits_ok {op : BinOp} {k : FloatKind} {x y r : Nat} (h : floatBits op k x y = some r) :
  (k.decode x).isNaN = false ∧ (k.decode y).isNaN = false ∧ (k.decode r).isNaN = false ∧ r < 2 ^ k.format.width := by
 unfold floatBits at h
 split at h
 ·refine have e := h; ?_
  unfold Ieee.Format.add at h
  obtain ⟨d, hd, rfl⟩ := Option.map_eq_some_iff.1 h
  have := sum_ok hd
  exact ⟨this.1, this.2.1, isNaN_write k d this.2.2, k.format.add_lt e⟩
 ·refine have e := h; ?_
  unfold Ieee.Format.sub at h
  obtain ⟨d, hd, rfl⟩ := Option.map_eq_some_iff.1 h
  have := sum_ok hd
  exact ⟨this.1, by rw [← opposite_nan]; exact this.2.1, isNaN_write k d this.2.2, k.format.sub_lt e⟩
 ·refine have e := h; ?_
  unfold Ieee.Format.mul at h
  obtain ⟨d, hd, rfl⟩ := Option.map_eq_some_iff.1 h
  have := product_ok hd
  exact ⟨this.1, this.2.1, isNaN_write k d this.2.2, k.format.mul_lt e⟩
 ·refine have e := h; ?_
  unfold Ieee.Format.div at h
  obtain ⟨d, hd, rfl⟩ := Option.map_eq_some_iff.1 h
  have := quotient_ok hd
  exact ⟨this.1, this.2.1, isNaN_write k d this.2.2, k.format.div_lt e⟩
 ·cases h
def fop (op : BinOp) (k : FloatKind) : Option Nat → Option Nat → Option Nat
 | some x, some y => floatBits op k x y
 | _, _ => none
def fR (op : BinOp) (k : FloatKind) (x y : Nat) (w : World) : Nat :=
 match floatBits op k x y with
 | some r => r
 | none => (Question.nanBits k x y).cut (w.tape w.drawn (.nanBits k x y))
def fN (op : BinOp) (k : FloatKind) (x y : Nat) : Nat :=
 match floatBits op k x y with
 | some _ => 0
 | none => 1
theorem cut_nan (k : FloatKind) (x y t : Nat) : ((Question.nanBits k x y).cut t) < 2 ^ k.format.width ∧ (k.decode ((Question.nanBits k x y).cut t)).isNaN = true := by
 rw [isNaN_decode]
 cases k
 ·have e1 : FloatKind.f32.format.infRung = 2139095040 := by decide
  have e2 : FloatKind.f32.format.signWeight = 2147483648 := by decide
  have e3 : 2 ^ FloatKind.f32.format.width = 4294967296 := by decide
  rw [e1, e2, e3]
  have e : (Question.nanBits .f32 x y).cut t = (t % 2) * 2147483648 + 2139095041 + (t / 2) % 8388607 := by
   have e' : (Question.nanBits .f32 x y).cut t = (t % 2) * 2 ^ 31 + 0x7f800000 + 1 + (t / 2) % (2 ^ 23 - 1) := rfl
   refine e'.trans ?_
   omega
  rw [e]
  refine ⟨by omega, ?_⟩
  rw [decide_eq_true_iff, show (t % 2) * 2147483648 + 2139095041 + (t / 2) % 8388607 = (2139095041 + (t / 2) % 8388607) + 2147483648 * (t % 2) by omega, Nat.add_mul_mod_self_left, Nat.mod_eq_of_lt (by omega)]
  omega
 ·have e1 : FloatKind.f64.format.infRung = 9218868437227405312 := by decide
  have e2 : FloatKind.f64.format.signWeight = 9223372036854775808 := by decide
  have e3 : 2 ^ FloatKind.f64.format.width = 18446744073709551616 := by decide
  rw [e1, e2, e3]
  have e : (Question.nanBits .f64 x y).cut t = (t % 2) * 9223372036854775808 + 9218868437227405313 + (t / 2) % 4503599627370495 := by
   have e' : (Question.nanBits .f64 x y).cut t = (t % 2) * 2 ^ 63 + 0x7ff0000000000000 + 1 + (t / 2) % (2 ^ 52 - 1) := rfl
   refine e'.trans ?_
   omega
  rw [e]
  refine ⟨by omega, ?_⟩
  rw [decide_eq_true_iff, show (t % 2) * 9223372036854775808 + 9218868437227405313 + (t / 2) % 4503599627370495 = (9218868437227405313 + (t / 2) % 4503599627370495) + 9223372036854775808 * (t % 2) by omega, Nat.add_mul_mod_self_left, Nat.mod_eq_of_lt (by omega)]
  omega
theorem cutConv_nan (k : FloatKind) (x t : Nat) : ((Question.nanConv k x).cut t) < 2 ^ k.format.width ∧ (k.decode ((Question.nanConv k x).cut t)).isNaN = true := by
 have : (Question.nanConv k x).cut t = (Question.nanBits k 0 0).cut t := by cases k <;> rfl
 rw [this]; exact cut_nan k 0 0 t
theorem FV_fR {op : BinOp} {k : FloatKind} {x y : Nat} {w : World} {cx cy : Option Nat} (hx : FV k x cx) (hy : FV k y cy) : FV k (fR op k x y w) (fop op k cx cy) := by
 unfold fR
 cases hf : floatBits op k x y with
 | some r =>
  obtain ⟨h1, h2, h3, h4⟩ := floatBits_ok hf
  have ex : cx = some x := by rw [← hx.2, cls_num h1]
  have ey : cy = some y := by rw [← hy.2, cls_num h2]
  subst ex ey
  exact ⟨h4, by rw [cls_num h3]; exact hf.symm⟩
 | none =>
  have hc := cut_nan k x y (w.tape w.drawn (.nanBits k x y))
  refine ⟨hc.1, ?_⟩
  rw [cls_nan hc.2]
  cases cx with
  | none => rfl
  | some a =>
   cases cy with
   | none => rfl
   | some b =>
    obtain rfl := hx.num
    obtain rfl := hy.num
    exact hf.symm
section
variable {P : Program} (w : World)
theorem run_fR (op : BinOp) (t : TypeId) (k : FloatKind) (x y : Nat) (h : op = .add ∨ op = .sub ∨ op = .mul ∨ op = .quo) :
  (binOp op t (.float k x) (.float k y)).run P w = .ok (.float k (fR op k x y w)) (w.drewN (fN op k x y)) := by
 unfold fR fN
 cases hf : floatBits op k x y with
 | some r => exact run_float_arith w op t k x y r hf
 | none =>
  have hq : (Question.nanBits k x y).forced = false := rfl
  rcases h with rfl | rfl | rfl | rfl <;> simp only [floatBits] at hf <;> simp [binOp, Op.floatArith, hf, hq] <;> rfl
@[go_sem] theorem run_fR_add (t : TypeId) (k : FloatKind) (x y : Nat) : (binOp .add t (.float k x) (.float k y)).run P w = .ok (.float k (fR .add k x y w)) (w.drewN (fN .add k x y)) := run_fR w _ _ _ _ _ (by simp)
@[go_sem] theorem run_fR_sub (t : TypeId) (k : FloatKind) (x y : Nat) : (binOp .sub t (.float k x) (.float k y)).run P w = .ok (.float k (fR .sub k x y w)) (w.drewN (fN .sub k x y)) := run_fR w _ _ _ _ _ (by simp)
@[go_sem] theorem run_fR_mul (t : TypeId) (k : FloatKind) (x y : Nat) : (binOp .mul t (.float k x) (.float k y)).run P w = .ok (.float k (fR .mul k x y w)) (w.drewN (fN .mul k x y)) := run_fR w _ _ _ _ _ (by simp)
@[go_sem] theorem run_fR_quo (t : TypeId) (k : FloatKind) (x y : Nat) : (binOp .quo t (.float k x) (.float k y)).run P w = .ok (.float k (fR .quo k x y w)) (w.drewN (fN .quo k x y)) := run_fR w _ _ _ _ _ (by simp)
end
theorem order_nan {k : FloatKind} {x y : Nat} (h : (k.decode x).isNaN = true ∨ (k.decode y).isNaN = true) : k.format.order x y = none := by
 unfold Ieee.Format.order
 have hx : k.format.read x = k.decode x := rfl
 have hy : k.format.read y = k.decode y := rfl
 rw [hx, hy]
 rcases h with h | h
 ·cases hd : k.decode x <;> rw [hd] at h <;> simp [Ieee.Datum.isNaN] at h
  cases k.decode y <;> rfl
 ·cases hd : k.decode y <;> rw [hd] at h <;> simp [Ieee.Datum.isNaN] at h
  cases k.decode x <;> rfl
def ford (k : FloatKind) : Option Nat → Option Nat → Option Ordering
 | some x, some y => k.format.order x y
 | _, _ => none
theorem ford_of {k : FloatKind} {x y : Nat} {cx cy : Option Nat} (hx : FV k x cx) (hy : FV k y cy) : k.format.order x y = ford k cx cy := by
 cases cx with
 | none => exact order_nan (.inl hx.nan)
 | some a =>
  cases cy with
  | none => exact order_nan (.inr hy.nan)
  | some b =>
   obtain rfl := hx.num
   obtain rfl := hy.num
   rfl
theorem order_self {k : FloatKind} {x : Nat} (h : (k.decode x).isNaN = false) : k.format.order x x = some .eq := by
 unfold Ieee.Format.order
 have hx : k.format.read x = k.decode x := rfl
 rw [hx]
 cases hd : k.decode x with
 | nan s t => rw [hd] at h; simp [Ieee.Datum.isNaN] at h
 | infinity s => simp [Ieee.Datum.order]
 | number s m p => simp [Ieee.Datum.order]
def val (B r : Nat) : Nat := if r < B then r else (B + r % B) * 2 ^ (r / B - 1)
theorem val_succ (B r : Nat) (hB : 0 < B) : val B r < val B (r + 1) := by
 unfold val
 by_cases h1 : r + 1 < B
 ·rw [if_pos h1, if_pos (by omega)]; omega
 ·by_cases h2 : r + 1 = B
  ·rw [if_pos (by omega), if_neg (by omega), h2, Nat.mod_self, Nat.div_self hB]; simp; omega
  ·have hr : B ≤ r := by omega
   rw [if_neg (by omega), if_neg h1]
   have hq : 1 ≤ r / B := (Nat.le_div_iff_mul_le hB).2 (by omega)
   have hd := Nat.div_add_mod r B
   have ht := Nat.mod_lt r hB
   generalize r / B = q at *
   generalize r % B = t at *
   by_cases h3 : t + 1 = B
   ·have e : r + 1 = B * (q + 1) := by rw [Nat.mul_add]; omega
    rw [e, Nat.mul_div_cancel_left _ hB, Nat.mul_mod_right]
    obtain ⟨p, rfl⟩ : ∃ p, q = p + 1 := ⟨q - 1, by omega⟩
    simp only [Nat.add_sub_cancel, Nat.add_zero, Nat.pow_succ]
    have hp : 0 < 2 ^ p := Nat.two_pow_pos p
    have : B * (2 ^ p * 2) = (B + B) * 2 ^ p := by rw [Nat.mul_comm (2 ^ p) 2, ← Nat.mul_assoc, Nat.mul_two]
    rw [this]
    exact Nat.mul_lt_mul_of_pos_right (by omega) hp
   ·have e : r + 1 = t + 1 + B * q := by omega
    rw [e, Nat.add_mul_div_left _ _ hB, Nat.add_mul_mod_self_left, Nat.div_eq_of_lt (by omega), Nat.mod_eq_of_lt (by omega), Nat.zero_add]
    exact Nat.mul_lt_mul_of_pos_right (by omega) (Nat.two_pow_pos _)
theorem val_lt {B r s : Nat} (hB : 0 < B) (h : r < s) : val B r < val B s := by
 induction s with
 | zero => omega
 | succ s ih =>
  have := val_succ B s hB
  by_cases e : r = s
  ·subst e; exact this
  ·exact Nat.lt_trans (ih (by omega)) this
theorem val_zero (B : Nat) (hB : 0 < B) : val B 0 = 0 := by unfold val; rw [if_pos hB]
def key (k : FloatKind) (b : Nat) : Int := if b < k.format.signWeight then (b : Int) else (k.format.signWeight : Int) - b
def sval (k : FloatKind) (b : Nat) : Int := if b < k.format.signWeight then (val k.format.binade b : Int) else -(val k.format.binade (b - k.format.signWeight) : Int)
theorem compare_key (k : FloatKind) (x y : Nat) : compare (sval k x) (sval k y) = compare (key k x) (key k y) := by
 have hB : 0 < k.format.binade := Nat.two_pow_pos _
 have mono : ∀ r s, r < s → (val k.format.binade r : Int) < val k.format.binade s := fun r s h => by exact_mod_cast val_lt hB h
 have z := val_zero k.format.binade hB
 have pos : ∀ r, (0 : Int) ≤ val k.format.binade r := fun r => by omega
 have pos' : ∀ r, 0 < r → (0 : Int) < val k.format.binade r := fun r h => by have := mono 0 r h; rw [z] at this; exact this
 unfold sval key
 generalize k.format.signWeight = S
 by_cases hx : x < S <;> by_cases hy : y < S <;> simp only [hx, hy, if_true, if_false]
 ·rcases Nat.lt_trichotomy x y with h | h | h
  ·rw [Int.compare_eq_lt.2 (mono _ _ h), Int.compare_eq_lt.2 (by omega)]
  ·subst h; rw [Int.compare_eq_eq.2 rfl, Int.compare_eq_eq.2 rfl]
  ·rw [Int.compare_eq_gt.2 (mono _ _ h), Int.compare_eq_gt.2 (by omega)]
 ·have h1 := pos x
  have h2 := pos (y - S)
  by_cases h : x = 0 ∧ y = S
  ·obtain ⟨rfl, rfl⟩ := h
   rw [Nat.sub_self, z, Int.compare_eq_eq.2 (by omega), Int.compare_eq_eq.2 (by omega)]
  ·have : (0 : Int) < val k.format.binade x ∨ (0 : Int) < val k.format.binade (y - S) := by
    by_cases e : x = 0
    ·right; exact pos' _ (by omega)
    ·left; exact pos' _ (by omega)
   rw [Int.compare_eq_gt.2 (by omega), Int.compare_eq_gt.2 (by omega)]
 ·have h1 := pos y
  have h2 := pos (x - S)
  by_cases h : y = 0 ∧ x = S
  ·obtain ⟨rfl, rfl⟩ := h
   rw [Nat.sub_self, z, Int.compare_eq_eq.2 (by omega), Int.compare_eq_eq.2 (by omega)]
  ·have : (0 : Int) < val k.format.binade y ∨ (0 : Int) < val k.format.binade (x - S) := by
    by_cases e : y = 0
    ·right; exact pos' _ (by omega)
    ·left; exact pos' _ (by omega)
   rw [Int.compare_eq_lt.2 (by omega), Int.compare_eq_lt.2 (by omega)]
 ·rcases Nat.lt_trichotomy x y with h | h | h
  ·have := mono (x - S) (y - S) (by omega)
   rw [Int.compare_eq_gt.2 (by omega), Int.compare_eq_gt.2 (by omega)]
  ·subst h; rw [Int.compare_eq_eq.2 rfl, Int.compare_eq_eq.2 rfl]
  ·have := mono (y - S) (x - S) (by omega)
   rw [Int.compare_eq_lt.2 (by omega), Int.compare_eq_lt.2 (by omega)]
theorem decode_cases (k : FloatKind) (b : Nat) (hb : b < 2 ^ k.format.width) (hn : (k.decode b).isNaN = false) :
  (∃ s m p, k.decode b = .number s m p ∧ k.format.leastPlace ≤ p ∧ sval k b = Ieee.signed s m (p - k.format.leastPlace).toNat) ∨
  (∃ s, k.decode b = .infinity s ∧ b = k.format.word s k.format.infRung) := by
 have two : 2 ^ k.format.width = 2 * k.format.signWeight := by cases k <;> decide
 have hB : 0 < k.format.binade := Nat.two_pow_pos _
 rw [isNaN_decode] at hn
 have hn' : ¬ k.format.infRung < b % k.format.signWeight := by simpa using hn
 have hSpos : 0 < k.format.signWeight := Nat.two_pow_pos _
 have key : (b / k.format.signWeight % 2 == 1) = decide (k.format.signWeight ≤ b) := by
  by_cases h : k.format.signWeight ≤ b
  ·have : b / k.format.signWeight = 1 := by
    refine Nat.div_eq_of_lt_le (by omega) (by omega)
   rw [this]; simp [h]
  ·rw [Nat.div_eq_of_lt (by omega)]; simp; omega
 have hmod : b % k.format.signWeight = if k.format.signWeight ≤ b then b - k.format.signWeight else b := by
  split
  ·rw [Nat.mod_eq_sub_mod ‹_›, Nat.mod_eq_of_lt (by omega)]
  ·exact Nat.mod_eq_of_lt (by omega)
 have hs : ∀ (m : Nat) (e : Nat), (val k.format.binade (b % k.format.signWeight) = m * 2 ^ e) → sval k b = Ieee.signed (decide (k.format.signWeight ≤ b)) m e := by
  intro m e h
  unfold sval Ieee.signed
  rw [Nat.shiftLeft_eq, ← h, hmod]
  by_cases hlt : b < k.format.signWeight
  ·have hge : ¬ k.format.signWeight ≤ b := by omega
   simp only [hlt, hge, if_true, if_false, decide_false, Bool.false_eq_true]
  ·have hge : k.format.signWeight ≤ b := by omega
   simp only [hlt, hge, if_true, if_false, decide_true]
 show (∃ s m p, k.format.read b = .number s m p ∧ _) ∨ (∃ s, k.format.read b = .infinity s ∧ _)
 unfold Ieee.Format.read
 dsimp only
 rw [key]
 by_cases h1 : b % k.format.signWeight < k.format.binade
 ·rw [if_pos h1]
  refine .inl ⟨_, _, _, rfl, Int.le_refl _, ?_⟩
  rw [Int.sub_self]
  refine hs _ _ ?_
  unfold val; rw [if_pos h1]; simp
 ·rw [if_neg h1]
  by_cases h2 : b % k.format.signWeight < k.format.infRung
  ·rw [if_pos h2]
   refine .inl ⟨_, _, _, rfl, by omega, ?_⟩
   rw [show k.format.leastPlace + ((b % k.format.signWeight / k.format.binade - 1 : Nat) : Int) - k.format.leastPlace = ((b % k.format.signWeight / k.format.binade - 1 : Nat) : Int) by omega, Int.toNat_natCast]
   refine hs _ _ ?_
   unfold val; rw [if_neg h1]
  ·rw [if_neg h2]
   have h3 : b % k.format.signWeight = k.format.infRung := by omega
   rw [if_pos h3]
   refine .inr ⟨_, rfl, ?_⟩
   unfold Ieee.Format.word
   by_cases hge : k.format.signWeight ≤ b
   ·simp only [hge, decide_true, if_true]; rw [if_pos hge] at hmod; omega
   ·simp only [hge, decide_false]; rw [if_neg hge] at hmod; simp; omega
theorem signed_mul (s : Bool) (m a c : Nat) : Ieee.signed s m (a + c) = Ieee.signed s m a * 2 ^ c := by
 unfold Ieee.signed
 split <;> simp [Nat.shiftLeft_eq, Nat.pow_add, Int.mul_assoc, Int.neg_mul]
theorem compare_mul (a b : Int) (c : Nat) : compare (a * 2 ^ c) (b * 2 ^ c) = compare a b := by
 have h : (0 : Int) < 2 ^ c := by exact_mod_cast Nat.two_pow_pos c
 rcases Int.lt_trichotomy a b with h' | h' | h'
 ·rw [Int.compare_eq_lt.2 (Int.mul_lt_mul_of_pos_right h' h), Int.compare_eq_lt.2 h']
 ·subst h'; rw [Int.compare_eq_eq.2 rfl, Int.compare_eq_eq.2 rfl]
 ·rw [Int.compare_eq_gt.2 (Int.mul_lt_mul_of_pos_right h' h), Int.compare_eq_gt.2 h']
theorem sval_inf (k : FloatKind) (s : Bool) : sval k (k.format.word s k.format.infRung) = if s then -(val k.format.binade k.format.infRung : Int) else (val k.format.binade k.format.infRung : Int) := by
 have := k.format.infRung_lt
 unfold sval Ieee.Format.word
 cases s
 ·simp [this]
 ·simp; omega
theorem sval_lt_inf (k : FloatKind) (b : Nat) (hb : b < 2 ^ k.format.width) (s m p) (h : k.decode b = .number s m p) :
  -(val k.format.binade k.format.infRung : Int) < sval k b ∧ sval k b < (val k.format.binade k.format.infRung : Int) := by
 have two : 2 ^ k.format.width = 2 * k.format.signWeight := by cases k <;> decide
 have hB : 0 < k.format.binade := Nat.two_pow_pos _
 have hSpos : 0 < k.format.signWeight := Nat.two_pow_pos _
 have hr : b % k.format.signWeight < k.format.infRung := by
  have h' : k.format.read b = .number s m p := h
  unfold Ieee.Format.read at h'
  dsimp only at h'
  by_cases h1 : b % k.format.signWeight < k.format.binade
  ·have : k.format.binade ≤ k.format.infRung := by cases k <;> decide
   omega
  ·rw [if_neg h1] at h'
   by_cases h2 : b % k.format.signWeight < k.format.infRung
   ·exact h2
   ·rw [if_neg h2] at h'; split at h' <;> cases h'
 have hv := val_lt hB hr
 unfold sval
 by_cases hlt : b < k.format.signWeight
 ·rw [if_pos hlt]; rw [Nat.mod_eq_of_lt hlt] at hv; omega
 ·rw [if_neg hlt]; rw [Nat.mod_eq_sub_mod (by omega), Nat.mod_eq_of_lt (by omega)] at hv; omega
theorem order_key {k : FloatKind} {x y : Nat} (hx : x < 2 ^ k.format.width) (hy : y < 2 ^ k.format.width) (nx : (k.decode x).isNaN = false) (ny : (k.decode y).isNaN = false) :
  k.format.order x y = some (compare (key k x) (key k y)) := by
 rw [← compare_key]
 have hB : 0 < k.format.binade := Nat.two_pow_pos _
 have hinf : (0 : Int) < val k.format.binade k.format.infRung := by
  have := val_lt hB (show 0 < k.format.infRung by cases k <;> decide)
  rw [val_zero _ hB] at this; exact_mod_cast this
 show (k.decode x).order (k.decode y) = _
 rcases decode_cases k x hx nx with ⟨s, m, p, h1, h2, h3⟩ | ⟨s, h1, h2⟩ <;> rcases decode_cases k y hy ny with ⟨t, n, q, g1, g2, g3⟩ | ⟨t, g1, g2⟩
 ·rw [h1, g1]
  show some (compare (Ieee.signed s m (p - min p q).toNat) (Ieee.signed t n (q - min p q).toNat)) = _
  rw [h3, g3]
  have e1 : (p - k.format.leastPlace).toNat = (p - min p q).toNat + (min p q - k.format.leastPlace).toNat := by omega
  have e2 : (q - k.format.leastPlace).toNat = (q - min p q).toNat + (min p q - k.format.leastPlace).toNat := by omega
  rw [e1, e2, signed_mul, signed_mul, compare_mul]
 ·have := sval_lt_inf k x hx _ _ _ h1
  rw [h1, g1, g2, sval_inf]
  cases t
  ·show some Ordering.lt = _
   rw [if_neg (by simp), Int.compare_eq_lt.2 this.2]
  ·show some Ordering.gt = _
   rw [if_pos rfl, Int.compare_eq_gt.2 this.1]
 ·have := sval_lt_inf k y hy _ _ _ g1
  rw [h1, g1, h2, sval_inf]
  cases s
  ·show some Ordering.gt = _
   rw [if_neg (by simp), Int.compare_eq_gt.2 this.2]
  ·show some Ordering.lt = _
   rw [if_pos rfl, Int.compare_eq_lt.2 this.1]
 ·rw [h1, g1, h2, g2, sval_inf, sval_inf]
  cases s <;> cases t
  ·rw [Int.compare_eq_eq.2 rfl]; rfl
  ·rw [if_neg (by simp), if_pos rfl, Int.compare_eq_gt.2 (by omega)]; rfl
  ·rw [if_pos rfl, if_neg (by simp), Int.compare_eq_lt.2 (by omega)]; rfl
  ·rw [Int.compare_eq_eq.2 rfl]; rfl
theorem even_cut_zero (s : Bool) (n : Nat) : Ieee.Toward.even.cut s n 0 = n := by
 unfold Ieee.Toward.cut
 simp [Nat.mod_one]
theorem nearest_exact (f : Ieee.Format) (s : Bool) (m : Nat) (p : Int) (h0 : m ≠ 0) (h1 : m.log2 ≤ f.fractionBits) (h2 : f.leastPlace ≤ p) :
  f.nearest s m p = f.word s (min ((max (p + m.log2 - f.fractionBits) f.leastPlace - f.leastPlace).toNat * f.binade + m * 2 ^ (p - max (p + m.log2 - f.fractionBits) f.leastPlace).toNat) f.infRung) := by
 unfold Ieee.Format.nearest
 dsimp only
 rw [if_neg h0]
 have : (max (p + (m.log2 : Int) - f.fractionBits) f.leastPlace - p).toNat = 0 := by omega
 rw [this, even_cut_zero, Nat.shiftLeft_eq]
def wid (x : Nat) : Nat := FloatKind.f64.encode (FloatKind.f32.decode x)
theorem decode32 (x : Nat) (s : Bool) (m : Nat) (p : Int) (h : FloatKind.f32.decode x = .number s m p) : m < 16777216 ∧ -149 ≤ p ∧ p ≤ 104 := by
 have h' : Ieee.single.read x = .number s m p := h
 unfold Ieee.Format.read at h'
 dsimp only at h'
 have e1 : Ieee.single.binade = 8388608 := by decide
 have e2 : Ieee.single.infRung = 2139095040 := by decide
 have e3 : Ieee.single.leastPlace = -149 := by decide
 rw [e1, e2, e3] at h'
 split at h'
 ·cases h'; omega
 ·split at h'
  ·cases h'; omega
  ·split at h' <;> cases h'
theorem wid_aux (a M i : Nat) (ha : a ≤ 1149) (hM : M < 9007199254740992) : min (a * 4503599627370496 + M) i < 5188146770730811392 := by
 refine Nat.lt_of_le_of_lt (Nat.min_le_left _ _) ?_
 omega
theorem wid_word (x : Nat) (s : Bool) (m : Nat) (p : Int) (h : FloatKind.f32.decode x = .number s m p) : ∃ r, wid x = Ieee.double.word s r ∧ r < 5188146770730811392 := by
 obtain ⟨h1, h2, h3⟩ := decode32 x s m p h
 unfold wid
 rw [h]
 show ∃ r, Ieee.double.nearest s m p = _ ∧ _
 by_cases h0 : m = 0
 ·subst h0; exact ⟨0, by unfold Ieee.Format.nearest; rw [if_pos rfl], by omega⟩
 ·have hl : m.log2 < 24 := (Nat.log2_lt h0).2 h1
  have e1 : Ieee.double.fractionBits = 52 := rfl
  have e2 : Ieee.double.leastPlace = -1074 := by decide
  have e3 : Ieee.double.binade = 4503599627370496 := by decide
  rw [nearest_exact _ s m p h0 (by rw [e1]; omega) (by rw [e2]; omega), e1, e2, e3]
  refine ⟨_, rfl, ?_⟩
  have hk : (p - max (p + (m.log2 : Int) - (52 : Nat)) (-1074)).toNat = 52 - m.log2 := by omega
  rw [hk]
  have hlt : m < 2 ^ (m.log2 + 1) := Nat.lt_log2_self
  have : m * 2 ^ (52 - m.log2) < 9007199254740992 := by
   have : m * 2 ^ (52 - m.log2) < 2 ^ (m.log2 + 1) * 2 ^ (52 - m.log2) := Nat.mul_lt_mul_of_pos_right hlt (Nat.two_pow_pos _)
   rw [← Nat.pow_add, show m.log2 + 1 + (52 - m.log2) = 53 by omega] at this
   exact this
  exact wid_aux _ _ _ (by omega) this
theorem wid_fin (x : Nat) (s : Bool) (m : Nat) (p : Int) (h : FloatKind.f32.decode x = .number s m p) : (FloatKind.f64.decode (wid x)).isInfinity = false := by
 obtain ⟨r, he, hr⟩ := wid_word x s m p h
 rw [he]
 show (Ieee.double.read (Ieee.double.word s r)).isInfinity = false
 have e2 : Ieee.double.infRung = 9218868437227405312 := by decide
 unfold Ieee.Format.read
 dsimp only
 rw [word_mod _ _ _ (show r < Ieee.double.signWeight by rw [show Ieee.double.signWeight = 9223372036854775808 by decide]; omega)]
 split
 ·rfl
 ·rw [if_pos (by rw [e2]; omega)]; rfl
def wR (x : Nat) (w : World) : Nat := if (FloatKind.f32.decode x).isNaN then (Question.nanConv .f64 x).cut (w.tape w.drawn (.nanConv .f64 x)) else wid x
def wN (x : Nat) : Nat := if (FloatKind.f32.decode x).isNaN then 1 else 0
theorem wid_lt (x : Nat) : wid x < 2 ^ FloatKind.f64.format.width := FloatKind.f64.format.write_lt _
theorem wid_nan {x : Nat} (h : (FloatKind.f32.decode x).isNaN = false) : (FloatKind.f64.decode (wid x)).isNaN = false := isNaN_write .f64 _ h
theorem FV_wR {x : Nat} {w : World} {c : Option Nat} (h : FV .f32 x c) : FV .f64 (wR x w) (c.map wid) := by
 unfold wR
 cases c with
 | none =>
  rw [if_pos h.nan]
  have := cutConv_nan .f64 x (w.tape w.drawn (.nanConv .f64 x))
  exact ⟨this.1, cls_nan this.2⟩
 | some a =>
  obtain rfl := h.num
  have hn := h.notnan
  rw [if_neg (by simp [hn])]
  exact ⟨wid_lt x, cls_num (wid_nan hn)⟩
section
variable {P : Program} (w : World)
@[go_sem] theorem run_wR (src dst : TypeId) (x : Nat) (hs : (P.underlying src).isSome = true) (hd : P.underlying dst = some (.float .f64)) :
  (convert src dst (.float .f32 x)).run P w = .ok (.float .f64 (wR x w)) (w.drewN (wN x)) := by
 obtain ⟨u, hs'⟩ := Option.isSome_iff_exists.1 hs
 have hq : (Question.nanConv .f64 x).forced = false := rfl
 unfold wR wN
 cases hd' : FloatKind.f32.decode x with
 | nan s t =>
  have e : (Ieee.Datum.nan s t).isNaN = true := rfl
  rw [if_pos e, if_pos e]
  cases u <;> simp [convert, run_underlying hs', run_underlying hd, Conv.floatToFloat, hd', hq] <;> rfl
 | infinity s =>
  have e : ¬ (Ieee.Datum.infinity s).isNaN = true := by simp [Ieee.Datum.isNaN]
  rw [if_neg e, if_neg e]
  unfold wid; rw [hd']
  cases u <;> simp [convert, run_underlying hs', run_underlying hd, Conv.floatToFloat, hd'] <;> rfl
 | number s m p =>
  have e : ¬ (Ieee.Datum.number s m p).isNaN = true := by simp [Ieee.Datum.isNaN]
  have hf := wid_fin x s m p hd'
  unfold wid at hf; rw [hd'] at hf
  rw [if_neg e, if_neg e]
  unfold wid; rw [hd']
  cases u <;> simp [convert, run_underlying hs', run_underlying hd, Conv.floatToFloat, hd', hf] <;> rfl
@[go_sem] theorem run_same (src dst : TypeId) (k : FloatKind) (x : Nat) (hs : (P.underlying src).isSome = true) (hd : P.underlying dst = some (.float k)) :
  (convert src dst (.float k x)).run P w = .ok (.float k x) w := by
 obtain ⟨u, hs'⟩ := Option.isSome_iff_exists.1 hs
 cases u <;> simp [convert, run_underlying hs', run_underlying hd, Conv.floatToFloat]
end
theorem wf_lt {k : FloatKind} {b : Nat} (h : (Lit.float k b).wf = true) : b < 2 ^ k.format.width := by
 cases k
 ·have e : 2 ^ FloatKind.f32.format.width = 2 ^ 32 := by decide
  rw [e]; simpa [Lit.wf] using h
 ·have e : 2 ^ FloatKind.f64.format.width = 2 ^ 64 := by decide
  rw [e]; simpa [Lit.wf] using h
section
open Go.ChangeShapes Go.WideShapes Go.Deep
variable {H : Type} {enc : TypeId × Value → H} {P : Program} {w : World} {base : Nat} {spare : Nat → Bool} {held : Bool}
theorem trod_float {fuel : Nat} {t : TypeId} {k : FloatKind} {cs : List Value} {y : DataW H × List MemPlace} (ht : P.underlying t = some (.float k)) (h : DataW.trod enc P w base spare held fuel t cs = some y) :
  ∃ b, cs = [.float k b] ∧ b < 2 ^ k.format.width := by
 cases fuel with
 | zero => simp [DataW.trod] at h
 | succ n =>
  match cs, h with
  | [], h => simp [DataW.trod, ht] at h
  | [v], h =>
   cases v with
   | float k' b =>
    simp only [DataW.trod, ht] at h
    split at h
    ·rename_i hw; obtain ⟨rfl, hw⟩ := hw; exact ⟨b, rfl, wf_lt hw⟩
    ·cases h
   | _ => simp [DataW.trod, ht] at h
  | _ :: _ :: _, h => simp [DataW.trod, ht] at h
end
end Fk
end Go.Proofs.Ytkdoibglgkcbkaa
namespace Go.Proofs.Ytkdoibglgkcbkaa
namespace Fk
open Go
set_option linter.unusedVariables false
def nar (y : Nat) : Nat := FloatKind.f32.encode (FloatKind.f64.decode y)
def ovf (y : Nat) : Bool := match FloatKind.f64.decode y with
 | .number s m p => (FloatKind.f32.decode (FloatKind.f32.encode (.number s m p))).isInfinity
 | _ => false
def nR (y : Nat) (w : World) : Nat := if (FloatKind.f64.decode y).isNaN then (Question.nanConv .f32 y).cut (w.tape w.drawn (.nanConv .f32 y))
 else if ovf y then (Question.floatToFloat y).cut (w.tape w.drawn (.floatToFloat y)) else nar y
def nN (y : Nat) : Nat := if (FloatKind.f64.decode y).isNaN then 1 else if ovf y then 1 else 0
theorem nar_lt (y : Nat) : nar y < 2 ^ FloatKind.f32.format.width := FloatKind.f32.format.write_lt _
theorem FV_nR {y : Nat} {w : World} {c : Option Nat} (h : FV .f64 y c) (ho : ovf y = false) : FV .f32 (nR y w) (c.map nar) := by
 unfold nR
 cases c with
 | none =>
  rw [if_pos h.nan]
  have := cutConv_nan .f32 y (w.tape w.drawn (.nanConv .f32 y))
  exact ⟨this.1, cls_nan this.2⟩
 | some a =>
  obtain rfl := h.num
  have hn := h.notnan
  rw [if_neg (by simp [hn]), if_neg (by simp [ho])]
  exact ⟨nar_lt y, cls_num (isNaN_write .f32 _ hn)⟩
section
variable {P : Program} (w : World)
@[go_sem] theorem run_nR (src dst : TypeId) (y : Nat) (hs : (P.underlying src).isSome = true) (hd : P.underlying dst = some (.float .f32)) :
  (convert src dst (.float .f64 y)).run P w = .ok (.float .f32 (nR y w)) (w.drewN (nN y)) := by
 obtain ⟨u, hs'⟩ := Option.isSome_iff_exists.1 hs
 have hq : (Question.nanConv .f32 y).forced = false := rfl
 have hq' : (Question.floatToFloat y).forced = false := rfl
 cases hd' : FloatKind.f64.decode y with
 | nan s t =>
  have e : (FloatKind.f64.decode y).isNaN = true := by rw [hd']; rfl
  unfold nR nN
  rw [if_pos e, if_pos e]
  cases u <;> simp [convert, run_underlying hs', run_underlying hd, Conv.floatToFloat, hd', hq] <;> rfl
 | infinity s =>
  have e : (FloatKind.f64.decode y).isNaN = false := by rw [hd']; rfl
  have e' : ovf y = false := by unfold ovf; rw [hd']
  unfold nR nN
  rw [e, e', if_neg Bool.false_ne_true, if_neg Bool.false_ne_true, if_neg Bool.false_ne_true, if_neg Bool.false_ne_true]
  unfold nar; rw [hd']
  cases u <;> simp [convert, run_underlying hs', run_underlying hd, Conv.floatToFloat, hd'] <;> rfl
 | number s m p =>
  have e : (FloatKind.f64.decode y).isNaN = false := by rw [hd']; rfl
  have eo : ovf y = (FloatKind.f32.decode (FloatKind.f32.encode (.number s m p))).isInfinity := by unfold ovf; rw [hd']
  unfold nR nN
  rw [e, if_neg Bool.false_ne_true, if_neg Bool.false_ne_true]
  cases ho : ovf y
  ·rw [ho] at eo
   rw [if_neg Bool.false_ne_true, if_neg Bool.false_ne_true]
   unfold nar; rw [hd']
   cases u <;> simp [convert, run_underlying hs', run_underlying hd, Conv.floatToFloat, hd', eo.symm] <;> rfl
  ·rw [ho] at eo
   rw [if_pos rfl, if_pos rfl]
   cases u <;> simp [convert, run_underlying hs', run_underlying hd, Conv.floatToFloat, hd', eo.symm, hq'] <;> rfl
end
theorem kept_le (f : Ieee.Format) (s : Bool) (m : Nat) (p last : Int) (h0 : m ≠ 0) (h1 : p + m.log2 - f.fractionBits ≤ last) :
  Ieee.Toward.even.cut s (m <<< (p - last).toNat) (last - p).toNat ≤ 2 * f.binade := by
 have hB : 2 * f.binade = 2 ^ (f.fractionBits + 1) := by unfold Ieee.Format.binade; rw [Nat.pow_succ, Nat.mul_comm]
 rw [hB]
 have hlt : m < 2 ^ (m.log2 + 1) := Nat.lt_log2_self
 by_cases hp : p ≤ last
 ·have e : (p - last).toNat = 0 := by omega
  rw [e, Nat.shiftLeft_zero]
  generalize hd : (last - p).toNat = d
  have hd' : m.log2 ≤ f.fractionBits + d := by omega
  unfold Ieee.Toward.cut
  dsimp only
  rw [Nat.shiftLeft_eq, Nat.one_mul]
  have hlow : m / 2 ^ min d (m.log2 + 2) + 1 ≤ 2 ^ (f.fractionBits + 1) := by
   by_cases h : d ≤ m.log2 + 2
   ·rw [Nat.min_eq_left h]
    have : m / 2 ^ d < 2 ^ (f.fractionBits + 1) := by
     rw [Nat.div_lt_iff_lt_mul (Nat.two_pow_pos _), ← Nat.pow_add]
     exact Nat.lt_of_lt_of_le hlt (Nat.pow_le_pow_right (by decide) (by omega))
    omega
   ·rw [Nat.min_eq_right (by omega)]
    have : m / 2 ^ (m.log2 + 2) = 0 := Nat.div_eq_of_lt (Nat.lt_of_lt_of_le hlt (Nat.pow_le_pow_right (by decide) (by omega)))
    rw [this]
    exact Nat.two_pow_pos _
  refine Nat.le_trans (Nat.add_le_add_left ?_ _) hlow
  cases (2 ^ min d (m.log2 + 2) < 2 * (m % 2 ^ min d (m.log2 + 2)) || (2 ^ min d (m.log2 + 2) == 2 * (m % 2 ^ min d (m.log2 + 2)) && m / 2 ^ min d (m.log2 + 2) % 2 == 1)) <;> simp
 ·have e : (last - p).toNat = 0 := by omega
  rw [e, even_cut_zero, Nat.shiftLeft_eq]
  have : m * 2 ^ (p - last).toNat < 2 ^ (m.log2 + 1) * 2 ^ (p - last).toNat := Nat.mul_lt_mul_of_pos_right hlt (Nat.two_pow_pos _)
  rw [← Nat.pow_add] at this
  exact Nat.le_trans (Nat.le_of_lt this) (Nat.pow_le_pow_right (by decide) (by omega))
theorem nearest_small (f : Ieee.Format) (s : Bool) (m : Nat) (p e : Int) (h : m ≠ 0 → p + m.log2 < e) (he : f.leastPlace + f.fractionBits + 1 ≤ e) :
  ∃ r, f.nearest s m p = f.word s r ∧ r ≤ (e - f.fractionBits - f.leastPlace + 1).toNat * f.binade ∧ r ≤ f.infRung := by
 unfold Ieee.Format.nearest
 dsimp only
 by_cases h0 : m = 0
 ·rw [if_pos h0]; exact ⟨0, rfl, Nat.zero_le _, Nat.zero_le _⟩
 ·rw [if_neg h0]
  refine ⟨_, rfl, ?_, Nat.min_le_right _ _⟩
  refine Nat.le_trans (Nat.min_le_left _ _) ?_
  have h1 := h h0
  generalize hl : max (p + (m.log2 : Int) - f.fractionBits) f.leastPlace = last
  have hk := kept_le f s m p last h0 (by omega)
  have hle : (last - f.leastPlace).toNat + 2 ≤ (e - f.fractionBits - f.leastPlace + 1).toNat := by omega
  have := Nat.mul_le_mul_right f.binade hle
  rw [Nat.add_mul] at this
  omega
def MB (k : FloatKind) (x : Nat) (e : Int) : Prop := ∃ s m p, k.decode x = .number s m p ∧ (m ≠ 0 → p + m.log2 < e)
theorem MB.mono {k : FloatKind} {x : Nat} {e e' : Int} (h : MB k x e) (he : e ≤ e') : MB k x e' := by
 obtain ⟨s, m, p, h1, h2⟩ := h; exact ⟨s, m, p, h1, fun h => by have := h2 h; omega⟩
theorem ovf_small {y : Nat} (h : MB .f64 y 127) : ovf y = false := by
 obtain ⟨s, m, p, h1, h2⟩ := h
 unfold ovf
 rw [h1]
 show (FloatKind.f32.decode (FloatKind.f32.format.nearest s m p)).isInfinity = false
 obtain ⟨r, hr, hb, _⟩ := nearest_small FloatKind.f32.format s m p 127 h2 (by decide)
 have e1 : (127 - (FloatKind.f32.format.fractionBits : Int) - FloatKind.f32.format.leastPlace + 1).toNat * FloatKind.f32.format.binade = 2130706432 := by decide
 rw [e1] at hb
 rw [hr]
 show (FloatKind.f32.format.read (FloatKind.f32.format.word s r)).isInfinity = false
 have e2 : FloatKind.f32.format.infRung = 2139095040 := by decide
 unfold Ieee.Format.read
 dsimp only
 rw [word_mod _ _ _ (show r < FloatKind.f32.format.signWeight by rw [show FloatKind.f32.format.signWeight = 2147483648 by decide]; omega)]
 split
 ·rfl
 ·rw [if_pos (by rw [e2]; omega)]; rfl
end Fk
end Go.Proofs.Ytkdoibglgkcbkaa
namespace Go.Proofs.Ytkdoibglgkcbkaa
namespace Fk
open Go
set_option linter.unusedVariables false
theorem MB_write (k : FloatKind) (s : Bool) (m : Nat) (p e : Int) (h : m ≠ 0 → p + m.log2 < e) (he : k.format.leastPlace + k.format.fractionBits + 1 ≤ e)
  (hi : e ≤ 100) : MB k (k.format.write (.number s m p)) (e + 1) := by
 obtain ⟨r, hr, hb, _⟩ := nearest_small k.format s m p e h he
 have hB : 0 < k.format.binade := Nat.two_pow_pos _
 have hSB : k.format.infRung < k.format.signWeight := k.format.infRung_lt
 have hinf : (101 - k.format.fractionBits - k.format.leastPlace + 1).toNat * k.format.binade < k.format.infRung := by cases k <;> decide
 have hle : (e - k.format.fractionBits - k.format.leastPlace + 1).toNat ≤ (101 - k.format.fractionBits - k.format.leastPlace + 1).toNat := by omega
 have hlt : r < k.format.infRung := Nat.lt_of_le_of_lt (Nat.le_trans hb (Nat.mul_le_mul_right _ hle)) hinf
 show MB k (k.format.nearest s m p) (e + 1)
 rw [hr]
 unfold MB
 show ∃ s' m' p', k.format.read (k.format.word s r) = .number s' m' p' ∧ _
 unfold Ieee.Format.read
 dsimp only
 rw [word_mod _ _ _ (by omega)]
 have hfb : k.format.binade = 2 ^ k.format.fractionBits := rfl
 by_cases h1 : r < k.format.binade
 ·rw [if_pos h1]
  refine ⟨_, _, _, rfl, fun h0 => ?_⟩
  have : r.log2 < k.format.fractionBits := (Nat.log2_lt h0).2 (by rw [← hfb]; exact h1)
  omega
 ·rw [if_neg h1, if_pos hlt]
  refine ⟨_, _, _, rfl, fun h0 => ?_⟩
  have ht := Nat.mod_lt r hB
  have hl : (k.format.binade + r % k.format.binade).log2 < k.format.fractionBits + 1 := (Nat.log2_lt h0).2 (by rw [Nat.pow_succ, ← hfb]; omega)
  have hq : r / k.format.binade ≤ (e - k.format.fractionBits - k.format.leastPlace + 1).toNat := by
   have := Nat.div_le_div_right (c := k.format.binade) hb
   rwa [Nat.mul_div_cancel _ hB] at this
  have hq1 : 1 ≤ r / k.format.binade := (Nat.le_div_iff_mul_le hB).2 (by omega)
  omega
theorem rootFrom_lt (n : Nat) : ∀ (todo root : Nat), Ieee.Datum.rootFrom n todo root + 1 ≤ root + 2 ^ todo
 | 0, root => by simp [Ieee.Datum.rootFrom]
 | todo + 1, root => by
  unfold Ieee.Datum.rootFrom
  dsimp only
  have hs : (root + 1 <<< todo) = root + 2 ^ todo := by rw [Nat.shiftLeft_eq, Nat.one_mul]
  have h2 : 2 ^ (todo + 1) = 2 ^ todo + 2 ^ todo := by rw [Nat.pow_succ]; omega
  have hp := Nat.two_pow_pos todo
  rw [h2]
  split
  ·have := rootFrom_lt n todo (root + 1 <<< todo); rw [hs] at this ⊢; generalize 2 ^ todo = t at *; omega
  ·have := rootFrom_lt n todo root; generalize 2 ^ todo = t at *; omega
theorem root_ok {d : Nat} {x y : Ieee.Datum} (h : x.root d = some y) : x.isNaN = false ∧ y.isNaN = false := by
 cases x with
 | nan s t => simp [Ieee.Datum.root] at h
 | infinity s =>
  simp only [Ieee.Datum.root] at h
  split at h
  ·cases h
  ·cases h; exact ⟨rfl, rfl⟩
 | number s m i =>
  refine ⟨rfl, ?_⟩
  simp only [Ieee.Datum.root] at h
  split at h
  ·cases h; rfl
  ·split at h
   ·cases h
   ·cases h; rfl
theorem root_small (d : Nat) (x y : Ieee.Datum) (s : Bool) (m : Nat) (i : Int) (hx : x = .number s m i) (hb : m ≠ 0 → i + m.log2 < 129) (h : x.root d = some y) :
  ∃ s' m' i', y = .number s' m' i' ∧ (m' ≠ 0 → i' + m'.log2 < 67) := by
 subst hx
 simp only [Ieee.Datum.root] at h
 split at h
 ·rename_i h0; cases h; exact ⟨_, _, _, rfl, fun h => absurd h0 h⟩
 ·rename_i h0
  split at h
  ·cases h
  ·cases h
   refine ⟨_, _, _, rfl, fun _ => ?_⟩
   have hb' := hb h0
   generalize hmore : (2 * d - m.log2) + ((i - ((2 * d - m.log2 : Nat) : Int)) % 2).toNat = more
   generalize hn : m <<< more = n
   have hnl : n.log2 ≤ m.log2 + more := by
    by_cases hn0 : n = 0
    ·rw [hn0]; simp
    ·have h1 : n < 2 ^ (m.log2 + more + 1) := by
      rw [← hn, Nat.shiftLeft_eq]
      have : m * 2 ^ more < 2 ^ (m.log2 + 1) * 2 ^ more := Nat.mul_lt_mul_of_pos_right Nat.lt_log2_self (Nat.two_pow_pos _)
      rw [← Nat.pow_add] at this
      exact Nat.lt_of_lt_of_le this (Nat.pow_le_pow_right (by decide) (by omega))
     have := (Nat.log2_lt hn0).2 h1
     omega
   have hw := rootFrom_lt n (n.log2 / 2 + 1) 0
   rw [Nat.zero_add] at hw
   generalize Ieee.Datum.rootFrom n (n.log2 / 2 + 1) 0 = whole at hw ⊢
   have hbit : ((whole * whole != n).toNat) ≤ 1 := by cases (whole * whole != n) <;> simp
   generalize (whole * whole != n).toNat = b at hbit ⊢
   by_cases hz : 2 * whole + b = 0
   ·rw [hz]; simp; omega
   ·have hl : (2 * whole + b).log2 < n.log2 / 2 + 2 := (Nat.log2_lt hz).2 (by rw [Nat.pow_succ]; omega)
    omega
def fsq (c : Option Nat) : Option Nat := c.bind fun a => FloatKind.f64.format.sqrt a
def sR (x : Nat) (w : World) : Nat :=
 match FloatKind.f64.format.sqrt x with
 | some r => r
 | none => (Question.nanBits .f64 x x).cut (w.tape w.drawn (.nanBits .f64 x x))
def sN (x : Nat) : Nat :=
 match FloatKind.f64.format.sqrt x with
 | some _ => 0
 | none => 1
theorem FV_sR {x : Nat} {w : World} {c : Option Nat} (h : FV .f64 x c) : FV .f64 (sR x w) (fsq c) := by
 unfold sR fsq
 cases hs : FloatKind.f64.format.sqrt x with
 | some r =>
  refine have e := hs; ?_
  unfold Ieee.Format.sqrt at hs
  obtain ⟨d, hd, rfl⟩ := Option.map_eq_some_iff.1 hs
  have := root_ok hd
  have ec : c = some x := by rw [← h.2]; exact cls_num this.1
  subst ec
  refine ⟨FloatKind.f64.format.sqrt_lt e, ?_⟩
  rw [cls_num (isNaN_write .f64 d this.2)]
  exact e.symm
 | none =>
  have hc := cut_nan .f64 x x (w.tape w.drawn (.nanBits .f64 x x))
  refine ⟨hc.1, ?_⟩
  rw [cls_nan hc.2]
  cases c with
  | none => rfl
  | some a => obtain rfl := h.num; exact hs.symm
theorem run_sqrt {P : Program} (x : Nat) (w : World) : (Extern.MathSqrt.sqrt #[.float .f64 x]).run P w = .ok (.float .f64 (sR x w)) (w.drewN (sN x)) := by
 have hq : (Question.nanBits .f64 x x).forced = false := rfl
 unfold sR sN
 cases hs : FloatKind.f64.format.sqrt x with
 | some r =>
  show (match FloatKind.f64.format.sqrt x with | some r => (pure (.float .f64 r) : Sem Value) | none => do pure (.float .f64 (← choose (.nanBits .f64 x x)))).run P w = _
  rw [hs]; rfl
 | none =>
  show (match FloatKind.f64.format.sqrt x with | some r => (pure (.float .f64 r) : Sem Value) | none => do pure (.float .f64 (← choose (.nanBits .f64 x x)))).run P w = _
  rw [hs]; simp [hq]; rfl
theorem MB_wid {x : Nat} {s : Bool} {m : Nat} {p : Int} (h : FloatKind.f32.decode x = .number s m p) : MB .f64 (wid x) 129 := by
 obtain ⟨h1, h2, h3⟩ := decode32 x s m p h
 obtain ⟨r, he, hr⟩ := wid_word x s m p h
 unfold MB
 rw [he]
 show ∃ s' m' p', Ieee.double.read (Ieee.double.word s r) = .number s' m' p' ∧ _
 have e1 : Ieee.double.binade = 4503599627370496 := by decide
 have e2 : Ieee.double.infRung = 9218868437227405312 := by decide
 have e3 : Ieee.double.leastPlace = -1074 := by decide
 unfold Ieee.Format.read
 dsimp only
 rw [word_mod _ _ _ (show r < Ieee.double.signWeight by rw [show Ieee.double.signWeight = 9223372036854775808 by decide]; omega)]
 by_cases h1 : r < Ieee.double.binade
 ·rw [if_pos h1]
  refine ⟨_, _, _, rfl, fun h0 => ?_⟩
  have : r.log2 < 53 := (Nat.log2_lt h0).2 (by rw [e1] at h1; omega)
  rw [e3]; omega
 ·rw [if_neg h1, if_pos (by rw [e2]; omega)]
  refine ⟨_, _, _, rfl, fun h0 => ?_⟩
  rw [e1] at h0 h1 ⊢
  rw [e3]
  have hl : (4503599627370496 + r % 4503599627370496).log2 < 53 := (Nat.log2_lt h0).2 (by omega)
  omega
theorem ovf_sR {x : Nat} {w w' : World} (hx : x < 2 ^ FloatKind.f32.format.width) : ovf (sR (wR x w) w') = false := by
 cases hd : FloatKind.f64.decode (sR (wR x w) w') with
 | nan s t => unfold ovf; rw [hd]
 | infinity s => unfold ovf; rw [hd]
 | number s m p =>
  have hv := FV_sR (w := w') (FV_wR (w := w) (FV.self (k := .f32) hx))
  have hn : (FloatKind.f64.decode (sR (wR x w) w')).isNaN = false := by rw [hd]; rfl
  have hc := hv.2
  rw [cls_num hn] at hc
  unfold fsq cls at hc
  split at hc
  ·cases hc
  ·rename_i hnx
   have hc' : FloatKind.f64.format.sqrt (wid x) = some (sR (wR x w) w') := hc.symm
   unfold Ieee.Format.sqrt at hc'
   obtain ⟨d, hd', he⟩ := Option.map_eq_some_iff.1 hc'
   cases hdx : FloatKind.f32.decode x with
   | nan s t => rw [hdx] at hnx; simp [Ieee.Datum.isNaN] at hnx
   | infinity t =>
    have : FloatKind.f64.format.read (wid x) = .infinity t := by
     unfold wid; rw [hdx]; cases t <;> decide
    rw [this] at hd'
    have hdi : d = .infinity false := by
     cases t
     ·simp only [Ieee.Datum.root] at hd'; cases hd'; rfl
     ·simp [Ieee.Datum.root] at hd'
    rw [hdi] at he
    rw [← he] at hd
    have e9 : FloatKind.f64.decode (FloatKind.f64.format.write (.infinity false)) = .infinity false := by decide
    rw [e9] at hd; cases hd
   | number t n q =>
    obtain ⟨s1, m1, p1, h1, h2⟩ := MB_wid hdx
    obtain ⟨s2, m2, p2, h3, h4⟩ := root_small _ _ _ s1 m1 p1 h1 h2 hd'
    subst h3
    have := MB_write .f64 s2 m2 p2 67 h4 (by decide) (by decide)
    rw [he] at this
    exact ovf_small (this.mono (by decide))
end Fk
end Go.Proofs.Ytkdoibglgkcbkaa
namespace Go.Proofs.Ytkdoibglgkcbkaa
namespace Fk
open Go
set_option linter.unusedVariables false
end Fk
end Go.Proofs.Ytkdoibglgkcbkaa
namespace Go.Proofs.Ytkdoibglgkcbkaa
namespace Fk
open Go
set_option linter.unusedVariables false
theorem kept_ge (f : Ieee.Format) (s : Bool) (m : Nat) (p last : Int) (h0 : m ≠ 0) (h1 : p + m.log2 - f.fractionBits = last) :
  f.binade ≤ Ieee.Toward.even.cut s (m <<< (p - last).toNat) (last - p).toNat := by
 have hge : 2 ^ m.log2 ≤ m := Nat.log2_self_le h0
 unfold Ieee.Format.binade
 by_cases hp : p ≤ last
 ·have e : (p - last).toNat = 0 := by omega
  rw [e, Nat.shiftLeft_zero]
  generalize hd : (last - p).toNat = d
  have hd' : m.log2 = f.fractionBits + d := by omega
  unfold Ieee.Toward.cut
  dsimp only
  rw [Nat.shiftLeft_eq, Nat.one_mul, Nat.min_eq_left (by omega)]
  refine Nat.le_trans ?_ (Nat.le_add_right _ _)
  rw [Nat.le_div_iff_mul_le (Nat.two_pow_pos _), ← Nat.pow_add, ← hd']
  exact hge
 ·have e : (last - p).toNat = 0 := by omega
  rw [e, even_cut_zero, Nat.shiftLeft_eq]
  have : 2 ^ m.log2 * 2 ^ (p - last).toNat ≤ m * 2 ^ (p - last).toNat := Nat.mul_le_mul_right _ hge
  rw [← Nat.pow_add] at this
  exact Nat.le_trans (Nat.pow_le_pow_right (by decide) (by omega)) this
def NB (k : FloatKind) (x : Nat) (e : Int) : Prop := ∃ m p, k.decode x = .number false m p ∧ (m ≠ 0 → p + m.log2 < e)
theorem NB_write (k : FloatKind) (m : Nat) (p e : Int) (h : m ≠ 0 → p + m.log2 < e) (he : k.format.leastPlace + k.format.fractionBits + 1 ≤ e)
  (hi : e ≤ 100) : NB k (k.format.write (.number false m p)) (e + 1) := by
 obtain ⟨s, m', p', h1, h2⟩ := MB_write k false m p e h he hi
 obtain ⟨r, hr, hb, _⟩ := nearest_small k.format false m p e h he
 have hB : 0 < k.format.binade := Nat.two_pow_pos _
 have hSB : k.format.infRung < k.format.signWeight := k.format.infRung_lt
 have hinf : (101 - k.format.fractionBits - k.format.leastPlace + 1).toNat * k.format.binade < k.format.infRung := by cases k <;> decide
 have hle : (e - k.format.fractionBits - k.format.leastPlace + 1).toNat ≤ (101 - k.format.fractionBits - k.format.leastPlace + 1).toNat := by omega
 have hlt : r < k.format.infRung := Nat.lt_of_le_of_lt (Nat.le_trans hb (Nat.mul_le_mul_right _ hle)) hinf
 have hw : k.format.word false r = r := by simp [Ieee.Format.word]
 have hs : s = false := by
  change k.format.read (k.format.nearest false m p) = _ at h1
  rw [hr] at h1
  unfold Ieee.Format.read at h1
  dsimp only at h1
  rw [hw, Nat.div_eq_of_lt (by omega)] at h1
  split at h1
  ·simp only [Ieee.Datum.number.injEq] at h1; rw [← h1.1]; rfl
  ·split at h1
   ·simp only [Ieee.Datum.number.injEq] at h1; rw [← h1.1]; rfl
   ·split at h1 <;> cases h1
 subst hs
 exact ⟨m', p', h1, h2⟩
end Fk
end Go.Proofs.Ytkdoibglgkcbkaa
namespace Go.Proofs.Ytkdoibglgkcbkaa
namespace Fk
open Go
set_option linter.unusedVariables false
end Fk
end Go.Proofs.Ytkdoibglgkcbkaa
namespace Go.Proofs.Ytkdoibglgkcbkaa
namespace Fk
open Go
set_option linter.unusedVariables false
theorem NB_root {x : Nat} (h : NB .f64 x 129) : ∃ r, fsq (some x) = some r ∧ NB .f64 r 68 := by
 obtain ⟨m, i, h1, h2⟩ := h
 cases hr : (Ieee.Datum.number false m i).root (FloatKind.f64.format.fractionBits + 2) with
 | none =>
  simp only [Ieee.Datum.root] at hr
  split at hr
  ·cases hr
  ·simp at hr
 | some y =>
  obtain ⟨s', m', i', hy, hb⟩ := root_small _ _ y false m i rfl h2 hr
  have hs : s' = false := by
   subst hy
   simp only [Ieee.Datum.root] at hr
   split at hr
   ·simp only [Option.some.injEq, Ieee.Datum.number.injEq] at hr; exact hr.1.symm
   ·simp at hr; first | exact hr.1.symm | exact hr.1
  subst hs
  refine ⟨FloatKind.f64.format.write y, ?_, ?_⟩
  ·show (FloatKind.f64.format.sqrt x) = _
   unfold Ieee.Format.sqrt
   have : FloatKind.f64.format.read x = .number false m i := h1
   rw [this, hr]; rfl
  ·rw [hy]
   exact NB_write .f64 m' i' 67 hb (by decide) (by decide)
end Fk
end Go.Proofs.Ytkdoibglgkcbkaa
namespace Go.Proofs.Ytkdoibglgkcbkaa
namespace Fk
open Go
set_option linter.unusedVariables false
def Qr (m : Nat) (p : Int) (n : Nat) (e : Int) : Prop := m * 2 ^ (p - e).toNat ≤ n * 2 ^ (e - p).toNat
instance (m : Nat) (p : Int) (n : Nat) (e : Int) : Decidable (Qr m p n e) := inferInstanceAs (Decidable (_ ≤ _))
theorem Qr_iff {m n : Nat} {p e c : Int} (hp : c ≤ p) (he : c ≤ e) : Qr m p n e ↔ m * 2 ^ (p - c).toNat ≤ n * 2 ^ (e - c).toNat := by
 unfold Qr
 by_cases h : p ≤ e
 ·have e1 : (p - e).toNat = 0 := by omega
  have e2 : (e - c).toNat = (e - p).toNat + (p - c).toNat := by omega
  rw [e1, e2, Nat.pow_zero, Nat.mul_one, Nat.pow_add, ← Nat.mul_assoc]
  exact ⟨fun h => Nat.mul_le_mul_right _ h, fun h => Nat.le_of_mul_le_mul_right h (Nat.two_pow_pos _)⟩
 ·have e1 : (e - p).toNat = 0 := by omega
  have e2 : (p - c).toNat = (p - e).toNat + (e - c).toNat := by omega
  rw [e1, e2, Nat.pow_zero, Nat.mul_one, Nat.pow_add, ← Nat.mul_assoc]
  exact ⟨fun h => Nat.mul_le_mul_right _ h, fun h => Nat.le_of_mul_le_mul_right h (Nat.two_pow_pos _)⟩
theorem Qr.zero {p e : Int} {n : Nat} : Qr 0 p n e := by unfold Qr; rw [Nat.zero_mul]; exact Nat.zero_le _
theorem Qr.trans {m n k : Nat} {p e q : Int} (h : Qr m p n e) (h' : Qr n e k q) : Qr m p k q := by
 have c1 : min p (min e q) ≤ p := by omega
 have c2 : min p (min e q) ≤ e := by omega
 have c3 : min p (min e q) ≤ q := by omega
 rw [Qr_iff c1 c2] at h
 rw [Qr_iff c2 c3] at h'
 rw [Qr_iff c1 c3]
 exact Nat.le_trans h h'
theorem cut_le (s : Bool) (m d M : Nat) (h : m ≤ M * 2 ^ d) : Ieee.Toward.even.cut s m d ≤ M := by
 unfold Ieee.Toward.cut
 dsimp only
 rw [Nat.shiftLeft_eq, Nat.one_mul]
 by_cases hd : d ≤ m.log2 + 2
 ·rw [Nat.min_eq_left hd]
  have hpos : 0 < 2 ^ d := Nat.two_pow_pos _
  have h1 : m / 2 ^ d ≤ M := by
   have := Nat.div_le_div_right (c := 2 ^ d) h
   rwa [Nat.mul_div_cancel _ hpos] at this
  by_cases hq : m / 2 ^ d = M
  ·have h2 := Nat.div_add_mod m (2 ^ d)
   rw [hq, Nat.mul_comm] at h2
   have h3 : m % 2 ^ d = 0 := by omega
   rw [h3, hq]
   have e1 : decide (2 ^ d < 2 * 0) = false := decide_eq_false (by omega)
   have e2 : (2 ^ d == 2 * 0) = false := by rw [beq_eq_false_iff_ne]; omega
   rw [e1, e2]
   exact Nat.le_refl _
  ·have : ∀ b : Bool, b.toNat ≤ 1 := by decide
   have := this (decide (2 ^ d < 2 * (m % 2 ^ d)) || 2 ^ d == 2 * (m % 2 ^ d) && m / 2 ^ d % 2 == 1)
   omega
 ·rw [Nat.min_eq_right (by omega)]
  have hlt : m < 2 ^ (m.log2 + 1) := Nat.lt_log2_self
  have e4 : 2 ^ (m.log2 + 2) = 2 * 2 ^ (m.log2 + 1) := by rw [Nat.pow_succ, Nat.mul_comm]
  have hlt2 : m < 2 ^ (m.log2 + 2) := by omega
  rw [Nat.div_eq_of_lt hlt2, Nat.mod_eq_of_lt hlt2]
  have e1 : decide (2 ^ (m.log2 + 2) < 2 * m) = false := decide_eq_false (by omega)
  have e2 : (2 ^ (m.log2 + 2) == 2 * m) = false := by rw [beq_eq_false_iff_ne]; omega
  rw [e1, e2]
  exact Nat.zero_le _
def QLE (k : FloatKind) (x : Nat) (n : Nat) (e : Int) : Prop := ∃ s m p, k.decode x = .number s m p ∧ Qr m p n e
def Okf (k : FloatKind) (e : Int) : Prop := k.format.leastPlace ≤ e ∧ (e - k.format.leastPlace).toNat * k.format.binade + 2 * k.format.binade < k.format.infRung ∧ k.format.infRung ≤ k.format.signWeight
theorem ok64 {e : Int} (h1 : -1000 ≤ e) (h2 : e ≤ 200) : Okf .f64 e := by
 have e1 : FloatKind.f64.format.binade = 4503599627370496 := by decide
 have e2 : FloatKind.f64.format.infRung = 9218868437227405312 := by decide
 have e3 : FloatKind.f64.format.leastPlace = -1074 := by decide
 have e5 : FloatKind.f64.format.signWeight = 9223372036854775808 := by decide
 unfold Okf
 rw [e1, e2, e3, e5]
 omega
theorem QLE_write (k : FloatKind) (s : Bool) (m : Nat) (p : Int) (n : Nat) (e : Int) (h : Qr m p n e) (hn : n < 2 * k.format.binade) (ho : Okf k e) :
  QLE k (k.format.write (.number s m p)) n e := by
 obtain ⟨he, hi, hsw⟩ := ho
 show ∃ s' m' p', k.format.read (k.format.nearest s m p) = .number s' m' p' ∧ Qr m' p' n e
 generalize k.format = f at *
 have hkp := fun last h0 h1 => kept_le f s m p last h0 h1
 have hkg := fun last h0 h1 => kept_ge f s m p last h0 h1
 have hb : n < 2 ^ (f.fractionBits + 1) := by rw [Nat.pow_succ, Nat.mul_comm]; exact hn
 have hbp : 0 < f.binade := Nat.two_pow_pos _
 have hinf : 2 * f.binade < f.infRung := by omega
 unfold Ieee.Format.nearest
 dsimp only
 by_cases h0 : m = 0
 ·rw [if_pos h0]
  refine ⟨(f.word s 0) / f.signWeight % 2 == 1, 0, f.leastPlace, ?_, Qr.zero⟩
  unfold Ieee.Format.read
  dsimp only
  rw [word_mod _ _ _ (by omega), if_pos hbp]
 ·rw [if_neg h0]
  generalize hl : max (p + (m.log2 : Int) - (f.fractionBits : Int)) f.leastPlace = last
  have hm1 : 2 ^ m.log2 ≤ m := Nat.log2_self_le h0
  have hle : last ≤ e := by
   by_cases hx : p + (m.log2 : Int) - (f.fractionBits : Int) ≤ e
   ·omega
   ·exfalso
    have hq := (Qr_iff (m := m) (n := n) (c := min p e) (by omega) (by omega)).1 h
    have h3 : 2 ^ (m.log2 + (p - min p e).toNat) ≤ m * 2 ^ (p - min p e).toNat := by rw [Nat.pow_add]; exact Nat.mul_le_mul_right _ hm1
    have h4 : n * 2 ^ (e - min p e).toNat < 2 ^ (f.fractionBits + 1 + (e - min p e).toNat) := by rw [Nat.pow_add]; exact Nat.mul_lt_mul_of_pos_right hb (Nat.two_pow_pos _)
    have h5 : 2 ^ (m.log2 + (p - min p e).toNat) < 2 ^ (f.fractionBits + 1 + (e - min p e).toNat) := by omega
    have h6 := (Nat.pow_lt_pow_iff_right (by decide)).1 h5
    omega
  have hlast : f.leastPlace ≤ last := by omega
  have hk := hkp last h0 (by omega)
  have hg : f.binade ≤ Ieee.Toward.even.cut s (m <<< (p - last).toNat) (last - p).toNat ∨ last = f.leastPlace := by
   by_cases hl2 : last = f.leastPlace
   ·exact .inr hl2
   ·exact .inl (hkg last h0 (by omega))
  have hM : Ieee.Toward.even.cut s (m <<< (p - last).toNat) (last - p).toNat ≤ n * 2 ^ (e - last).toNat := by
   refine cut_le _ _ _ _ ?_
   rw [Nat.shiftLeft_eq]
   have hq := (Qr_iff (m := m) (n := n) (c := min p last) (by omega) (by omega)).1 h
   by_cases hpl : p ≤ last
   ·rw [show (p - last).toNat = 0 by omega, Nat.pow_zero, Nat.mul_one, Nat.mul_assoc, ← Nat.pow_add]
    rw [show (p - min p last).toNat = 0 by omega, Nat.pow_zero, Nat.mul_one] at hq
    rw [show (e - last).toNat + (last - p).toNat = (e - min p last).toNat by omega]
    exact hq
   ·rw [show (last - p).toNat = 0 by omega, Nat.pow_zero, Nat.mul_one]
    rw [show (p - min p last).toNat = (p - last).toNat by omega, show (e - min p last).toNat = (e - last).toNat by omega] at hq
    exact hq
  clear hkp hkg
  generalize Ieee.Toward.even.cut s (m <<< (p - last).toNat) (last - p).toNat = kept at hk hM hg
  have hQ : Qr kept last n e := by
   rw [Qr_iff (c := last) (by omega) hle]
   rw [show (last - last).toNat = 0 by omega, Nat.pow_zero, Nat.mul_one]
   exact hM
  obtain ⟨A, hA⟩ : ∃ A : Nat, (A : Int) = last - f.leastPlace := ⟨(last - f.leastPlace).toNat, by omega⟩
  rw [show (last - f.leastPlace).toNat = A by omega]
  have hAe : A * f.binade ≤ (e - f.leastPlace).toNat * f.binade := Nat.mul_le_mul_right _ (by omega)
  have hr : A * f.binade + kept < f.infRung := by omega
  rw [Nat.min_eq_left (by omega)]
  unfold Ieee.Format.read
  dsimp only
  rw [word_mod _ _ _ (by omega)]
  by_cases h1 : A * f.binade + kept < f.binade
  ·rw [if_pos h1]
   refine ⟨_, _, _, rfl, ?_⟩
   have a1 : A = 0 := by
    rcases Nat.eq_zero_or_pos A with h | h
    ·exact h
    ·have := Nat.mul_le_mul_right f.binade h
     omega
   have a2 : last = f.leastPlace := by omega
   rw [a1, Nat.zero_mul, Nat.zero_add, ← a2]
   exact hQ
  ·rw [if_neg h1, if_pos hr]
   refine ⟨_, _, _, rfl, ?_⟩
   have hdiv : ∀ c, (A * f.binade + c) / f.binade = A + c / f.binade := fun c => by rw [Nat.add_comm, Nat.add_mul_div_right _ _ hbp, Nat.add_comm]
   have hmod : ∀ c, (A * f.binade + c) % f.binade = c % f.binade := fun c => by rw [Nat.add_comm, Nat.add_mul_mod_self_right]
   rw [hdiv, hmod]
   by_cases hb2 : kept = 2 * f.binade
   ·have a1 : kept / f.binade = 2 := by rw [hb2]; exact Nat.mul_div_cancel _ hbp
    have a2 : kept % f.binade = 0 := by rw [hb2]; exact Nat.mul_mod_left _ _
    rw [a1, a2]
    refine Qr.trans ?_ hQ
    rw [hb2, Qr_iff (c := last) (by omega) (by omega)]
    rw [show (f.leastPlace + ((A + 2 - 1 : Nat) : Int) - last).toNat = 1 by omega, show (last - last).toNat = 0 by omega]
    omega
   ·by_cases hs : kept < f.binade
    ·exfalso
     rcases hg with hg | hg
     ·omega
     ·have : A = 0 := by omega
      subst this
      omega
    ·have a1 : kept / f.binade = 1 := by
      rw [Nat.div_eq_iff hbp]
      omega
     have a2 : kept % f.binade = kept - f.binade := by
      have := Nat.div_add_mod kept f.binade
      rw [a1, Nat.mul_one] at this
      omega
     rw [a1, a2]
     rw [show f.binade + (kept - f.binade) = kept by omega, show f.leastPlace + ((A + 1 - 1 : Nat) : Int) = last by omega]
     exact hQ
end Fk
end Go.Proofs.Ytkdoibglgkcbkaa
namespace Go.Proofs.Ytkdoibglgkcbkaa
namespace Fk
open Go
set_option linter.unusedVariables false
theorem QLE_quotient {k : FloatKind} (dg : Nat) {x y : Ieee.Datum} {s t : Bool} {m n N : Nat} {p q e e' : Int} (hx : x = .number s m p) (hy : y = .number t n q) (hm : Qr m p N e) (hn0 : n ≠ 0) (hn : e' ≤ q + n.log2) (hN : N < 2 * k.format.binade) (hdg : k.format.fractionBits + 2 ≤ dg) (ho : Okf k (e - e')) : ∃ d, x.quotient dg y = some d ∧ QLE k (k.format.write d) N (e - e') := by
 subst hx hy
 simp only [Ieee.Datum.quotient, if_neg hn0]
 refine ⟨_, rfl, QLE_write _ _ _ _ _ _ ?_ hN ho⟩
 generalize hmore : dg + n.log2 - m.log2 = more
 rw [Nat.shiftLeft_eq]
 by_cases m0 : m = 0
 ·subst m0
  rw [Nat.zero_mul, Nat.zero_mod, Nat.zero_div]
  exact Qr.zero
 have b1 : 2 ^ m.log2 ≤ m := Nat.log2_self_le m0
 have b2 : 2 ^ n.log2 ≤ n := Nat.log2_self_le hn0
 have b3 : n < 2 ^ (n.log2 + 1) := Nat.lt_log2_self
 have hD : 2 ^ (dg + n.log2) ≤ m * 2 ^ more := by
  refine Nat.le_trans ?_ (Nat.mul_le_mul_right _ b1)
  rw [← Nat.pow_add]
  exact Nat.pow_le_pow_right (by decide) (by omega)
 have hq := (Qr_iff (m := m) (n := N) (c := min p e) (by omega) (by omega)).1 hm
 have hb : N < 2 ^ (k.format.fractionBits + 1) := by rw [Nat.pow_succ, Nat.mul_comm]; exact hN
 have hu : p - q - more ≤ e - e' := by
  have h3 : 2 ^ (dg + n.log2) * 2 ^ (p - min p e).toNat ≤ m * 2 ^ (p - min p e).toNat * 2 ^ more := by
   rw [Nat.mul_assoc, Nat.mul_comm (2 ^ (p - min p e).toNat), ← Nat.mul_assoc]
   exact Nat.mul_le_mul_right _ hD
  have h4 : m * 2 ^ (p - min p e).toNat * 2 ^ more < 2 ^ (k.format.fractionBits + 1) * 2 ^ (e - min p e).toNat * 2 ^ more :=
   Nat.mul_lt_mul_of_pos_right (Nat.lt_of_le_of_lt hq (Nat.mul_lt_mul_of_pos_right hb (Nat.two_pow_pos _))) (Nat.two_pow_pos _)
  rw [← Nat.pow_add] at h3
  rw [← Nat.pow_add, ← Nat.pow_add] at h4
  have h6 := (Nat.pow_lt_pow_iff_right (by decide)).1 (Nat.lt_of_le_of_lt h3 h4)
  omega
 obtain ⟨K, hK⟩ : ∃ K : Nat, (K : Int) = e - e' - (p - q - more) := ⟨(e - e' - (p - q - more)).toNat, by omega⟩
 have hDM : m * 2 ^ more ≤ N * 2 ^ K * n := by
  have h3 : m * 2 ^ more * 2 ^ (p - min p e).toNat ≤ N * 2 ^ K * n * 2 ^ (p - min p e).toNat := by
   have h4 : m * 2 ^ (p - min p e).toNat * 2 ^ more ≤ N * 2 ^ (e - min p e).toNat * 2 ^ more := Nat.mul_le_mul_right _ hq
   rw [Nat.mul_assoc, Nat.mul_comm (2 ^ more), ← Nat.mul_assoc]
   refine Nat.le_trans h4 ?_
   rw [Nat.mul_assoc, ← Nat.pow_add, Nat.mul_assoc, Nat.mul_assoc]
   refine Nat.mul_le_mul_left _ ?_
   refine Nat.le_trans ?_ (Nat.mul_le_mul_left _ (Nat.mul_le_mul_right _ b2))
   rw [← Nat.pow_add, ← Nat.pow_add]
   exact Nat.pow_le_pow_right (by decide) (by omega)
  exact Nat.le_of_mul_le_mul_right h3 (Nat.two_pow_pos _)
 have hF : m * 2 ^ more / n ≤ N * 2 ^ K := by
  have := Nat.div_le_div_right (c := n) hDM
  rwa [Nat.mul_div_cancel _ (Nat.pos_of_ne_zero hn0)] at this
 have hst : 2 * (m * 2 ^ more / n) + (m * 2 ^ more % n != 0).toNat ≤ 2 * (N * 2 ^ K) := by
  by_cases hx : m * 2 ^ more / n = N * 2 ^ K
  ·have h5 := Nat.div_mul_le_self (m * 2 ^ more) n
   rw [hx] at h5
   have h6 : m * 2 ^ more = N * 2 ^ K * n := Nat.le_antisymm hDM h5
   rw [hx, h6, Nat.mul_mod_left]
   exact Nat.le_refl _
  ·have : ∀ b : Bool, b.toNat ≤ 1 := by decide
   have := this (m * 2 ^ more % n != 0)
   omega
 rw [Qr_iff (c := p - q - more - 1) (by omega) (by omega)]
 rw [show (p - q - (more : Int) - 1 - (p - q - more - 1)).toNat = 0 by omega, Nat.pow_zero, Nat.mul_one, show (e - e' - (p - q - (more : Int) - 1)).toNat = K + 1 by omega, Nat.pow_succ]
 refine Nat.le_trans hst ?_
 rw [Nat.mul_comm 2, Nat.mul_assoc]
 exact Nat.le_refl _
def QLC (k : FloatKind) (c : Option Nat) (n : Nat) (e : Int) : Prop := ∃ x, c = some x ∧ QLE k x n e
def LBk (k : FloatKind) (c : Option Nat) (e : Int) : Prop := ∃ x s m p, c = some x ∧ k.decode x = .number s m p ∧ m ≠ 0 ∧ e ≤ p + m.log2
theorem QLC_quo {k : FloatKind} {c d : Option Nat} {n : Nat} {e e' : Int} (hc : QLC k c n e) (hd : LBk k d e') (hN : n < 2 * k.format.binade) (ho : Okf k (e - e')) : QLC k (fop .quo k c d) n (e - e') := by
 obtain ⟨x, rfl, s, m, p, a1, a2⟩ := hc
 obtain ⟨y, t, n, q, rfl, b1, b0, b2⟩ := hd
 obtain ⟨r, hr, hm⟩ := QLE_quotient (k.format.fractionBits + 2) a1 b1 a2 b0 b2 hN (Nat.le_refl _) ho
 refine ⟨_, ?_, hm⟩
 show ((k.decode x).quotient (k.format.fractionBits + 2) (k.decode y)).map k.format.write = _
 rw [hr]; rfl
theorem QLC_nar {c : Option Nat} {n : Nat} {e : Int} (h : QLC .f64 c n e) (hn : n < 16777216) (ho : Okf .f32 e) : QLC .f32 (c.map nar) n e := by
 obtain ⟨x, rfl, s, m, p, h2, h3⟩ := h
 refine ⟨_, rfl, ?_⟩
 unfold nar
 rw [h2]
 exact QLE_write .f32 s m p n e h3 (by rw [show FloatKind.f32.format.binade = 8388608 by decide]; omega) ho
theorem QLE_wid {x n : Nat} {e : Int} (h : QLE .f32 x n e) (hn : n < 9007199254740992) (h1 : -1000 ≤ e) (h2 : e ≤ 200) : QLE .f64 (wid x) n e := by
 obtain ⟨s, m, p, h3, h4⟩ := h
 unfold wid
 rw [h3]
 exact QLE_write .f64 s m p n e h4 (by rw [show FloatKind.f64.format.binade = 4503599627370496 by decide]; omega) (ok64 h1 h2)
end Fk
end Go.Proofs.Ytkdoibglgkcbkaa
namespace Go.Proofs.Ytkdoibglgkcbkaa
namespace Fk
open Go
set_option linter.unusedVariables false
theorem cut_ge (s : Bool) (m d M : Nat) (h : M * 2 ^ d ≤ m) : M ≤ Ieee.Toward.even.cut s m d := by
 unfold Ieee.Toward.cut
 dsimp only
 rw [Nat.shiftLeft_eq, Nat.one_mul]
 refine Nat.le_trans ?_ (Nat.le_add_right _ _)
 rw [Nat.le_div_iff_mul_le (Nat.two_pow_pos _)]
 by_cases hd : d ≤ m.log2 + 2
 ·rw [Nat.min_eq_left hd]; exact h
 ·rw [Nat.min_eq_right (by omega)]
  have h0 : M = 0 := by
   rcases Nat.eq_zero_or_pos M with h0 | h0
   ·exact h0
   ·exfalso
    have h1 : 2 ^ d ≤ M * 2 ^ d := by have := Nat.mul_le_mul_right (2 ^ d) h0; omega
    have h2 : m < 2 ^ (m.log2 + 1) := Nat.lt_log2_self
    have h3 : 2 ^ (m.log2 + 1) ≤ 2 ^ d := Nat.pow_le_pow_right (by decide) (by omega)
    omega
  rw [h0, Nat.zero_mul]
  exact Nat.zero_le _
def QGE (k : FloatKind) (x : Nat) (n : Nat) (e : Int) : Prop := (∃ m p, k.decode x = .number false m p ∧ Qr n e m p) ∨ k.decode x = .infinity false
theorem QGE_write (k : FloatKind) (m : Nat) (p : Int) (n : Nat) (e : Int) (h : Qr n e m p) (hn : n < 2 * k.format.binade) (he : k.format.leastPlace ≤ e) (hsw : k.format.infRung < k.format.signWeight) (hbi : k.format.binade ≤ k.format.infRung) :
  QGE k (k.format.write (.number false m p)) n e := by
 show (∃ m' p', k.format.read (k.format.nearest false m p) = .number false m' p' ∧ Qr n e m' p') ∨ k.format.read (k.format.nearest false m p) = .infinity false
 generalize k.format = f at *
 have hkp := fun last h0 h1 => kept_le f false m p last h0 h1
 have hkg := fun last h0 h1 => kept_ge f false m p last h0 h1
 have hb : n < 2 ^ (f.fractionBits + 1) := by rw [Nat.pow_succ, Nat.mul_comm]; exact hn
 have hbp : 0 < f.binade := Nat.two_pow_pos _
 have sgn : ∀ r, r < f.signWeight → (f.word false r / f.signWeight % 2 == 1) = false := fun r hr => by
  show (r / f.signWeight % 2 == 1) = false
  rw [Nat.div_eq_of_lt hr]; rfl
 unfold Ieee.Format.nearest
 dsimp only
 by_cases h0 : m = 0
 ·rw [if_pos h0]
  left
  refine ⟨0, f.leastPlace, ?_, ?_⟩
  ·unfold Ieee.Format.read
   dsimp only
   rw [word_mod _ _ _ (by omega), if_pos hbp, sgn 0 (by omega)]
  ·subst h0
   unfold Qr at h ⊢
   rw [Nat.zero_mul] at h ⊢
   have : n = 0 := by
    rcases Nat.eq_zero_or_pos n with h1 | h1
    ·exact h1
    ·have := Nat.mul_pos h1 (Nat.two_pow_pos (e - p).toNat); omega
   rw [this, Nat.zero_mul]; exact Nat.le_refl _
 ·rw [if_neg h0]
  generalize hl : max (p + (m.log2 : Int) - (f.fractionBits : Int)) f.leastPlace = last
  have hlast : f.leastPlace ≤ last := by omega
  have hk := hkp last h0 (by omega)
  have hg : f.binade ≤ Ieee.Toward.even.cut false (m <<< (p - last).toNat) (last - p).toNat ∨ last = f.leastPlace := by
   by_cases hl2 : last = f.leastPlace
   ·exact .inr hl2
   ·exact .inl (hkg last h0 (by omega))
  have hM : last ≤ e → n * 2 ^ (e - last).toNat ≤ Ieee.Toward.even.cut false (m <<< (p - last).toNat) (last - p).toNat := fun hle => by
   refine cut_ge _ _ _ _ ?_
   rw [Nat.shiftLeft_eq]
   have hq := (Qr_iff (m := n) (n := m) (p := e) (e := p) (c := min p last) (by omega) (by omega)).1 h
   by_cases hpl : p ≤ last
   ·rw [show (p - last).toNat = 0 by omega, Nat.pow_zero, Nat.mul_one, Nat.mul_assoc, ← Nat.pow_add]
    rw [show (p - min p last).toNat = 0 by omega, Nat.pow_zero, Nat.mul_one] at hq
    rw [show (e - last).toNat + (last - p).toNat = (e - min p last).toNat by omega]
    exact hq
   ·rw [show (last - p).toNat = 0 by omega, Nat.pow_zero, Nat.mul_one]
    rw [show (p - min p last).toNat = (p - last).toNat by omega, show (e - min p last).toNat = (e - last).toNat by omega] at hq
    exact hq
  clear hkp hkg
  generalize Ieee.Toward.even.cut false (m <<< (p - last).toNat) (last - p).toNat = kept at hk hM hg
  have hQ : Qr n e kept last := by
   by_cases hle : last ≤ e
   ·rw [Qr_iff (c := last) hle (by omega), show (last - last).toNat = 0 by omega, Nat.pow_zero, Nat.mul_one]
    exact hM hle
   ·rw [Qr_iff (c := e) (by omega) (by omega), show (e - e).toNat = 0 by omega, Nat.pow_zero, Nat.mul_one]
    have hbk : f.binade ≤ kept := by
     rcases hg with hg | hg
     ·exact hg
     ·omega
    have h2 : 2 ^ 1 ≤ 2 ^ (last - e).toNat := Nat.pow_le_pow_right (by decide) (by omega)
    have h3 := Nat.mul_le_mul hbk h2
    omega
  obtain ⟨A, hA⟩ : ∃ A : Nat, (A : Int) = last - f.leastPlace := ⟨(last - f.leastPlace).toNat, by omega⟩
  rw [show (last - f.leastPlace).toNat = A by omega]
  by_cases hr : A * f.binade + kept < f.infRung
  ·left
   rw [Nat.min_eq_left (by omega)]
   unfold Ieee.Format.read
   dsimp only
   rw [word_mod _ _ _ (by omega), sgn _ (by omega)]
   by_cases h1 : A * f.binade + kept < f.binade
   ·rw [if_pos h1]
    refine ⟨_, _, rfl, ?_⟩
    have a1 : A = 0 := by
     rcases Nat.eq_zero_or_pos A with h | h
     ·exact h
     ·have := Nat.mul_le_mul_right f.binade h
      omega
    have a2 : last = f.leastPlace := by omega
    rw [a1, Nat.zero_mul, Nat.zero_add, ← a2]
    exact hQ
   ·rw [if_neg h1, if_pos hr]
    refine ⟨_, _, rfl, ?_⟩
    have hdiv : ∀ c, (A * f.binade + c) / f.binade = A + c / f.binade := fun c => by rw [Nat.add_comm, Nat.add_mul_div_right _ _ hbp, Nat.add_comm]
    have hmod : ∀ c, (A * f.binade + c) % f.binade = c % f.binade := fun c => by rw [Nat.add_comm, Nat.add_mul_mod_self_right]
    rw [hdiv, hmod]
    by_cases hb2 : kept = 2 * f.binade
    ·have a1 : kept / f.binade = 2 := by rw [hb2]; exact Nat.mul_div_cancel _ hbp
     have a2 : kept % f.binade = 0 := by rw [hb2]; exact Nat.mul_mod_left _ _
     rw [a1, a2]
     refine hQ.trans ?_
     rw [hb2, Qr_iff (c := last) (by omega) (by omega)]
     rw [show (f.leastPlace + ((A + 2 - 1 : Nat) : Int) - last).toNat = 1 by omega, show (last - last).toNat = 0 by omega]
     omega
    ·by_cases hs : kept < f.binade
     ·exfalso
      rcases hg with hg | hg
      ·omega
      ·have : A = 0 := by omega
       subst this
       omega
     ·have a1 : kept / f.binade = 1 := by
       rw [Nat.div_eq_iff hbp]
       omega
      have a2 : kept % f.binade = kept - f.binade := by
       have := Nat.div_add_mod kept f.binade
       rw [a1, Nat.mul_one] at this
       omega
      rw [a1, a2]
      rw [show f.binade + (kept - f.binade) = kept by omega, show f.leastPlace + ((A + 1 - 1 : Nat) : Int) = last by omega]
      exact hQ
  ·right
   rw [Nat.min_eq_right (by omega)]
   unfold Ieee.Format.read
   dsimp only
   rw [word_mod _ _ _ (by omega), sgn _ (by omega), if_neg (by omega), if_neg (by omega), if_pos rfl]
end Fk
end Go.Proofs.Ytkdoibglgkcbkaa
namespace Go.Proofs.Ytkdoibglgkcbkaa
namespace Fk
open Go
set_option linter.unusedVariables false
theorem bin64 : FloatKind.f64.format.binade = 4503599627370496 := by decide
theorem bin32 : FloatKind.f32.format.binade = 8388608 := by decide
end Fk
end Go.Proofs.Ytkdoibglgkcbkaa
namespace Go.Proofs.Ytkdoibglgkcbkaa
namespace Fk
open Go
set_option linter.unusedVariables false
end Fk
end Go.Proofs.Ytkdoibglgkcbkaa
namespace Go.Proofs.Ytkdoibglgkcbkaa
namespace Fk
open Go
set_option linter.unusedVariables false
theorem ok32' {e : Int} (h1 : -149 ≤ e) (h2 : e ≤ 103) : Okf .f32 e := by
 have e1 : FloatKind.f32.format.binade = 8388608 := by decide
 have e2 : FloatKind.f32.format.infRung = 2139095040 := by decide
 have e3 : FloatKind.f32.format.leastPlace = -149 := by decide
 have e5 : FloatKind.f32.format.signWeight = 2147483648 := by decide
 unfold Okf
 rw [e1, e2, e3, e5]
 omega
end Fk
end Go.Proofs.Ytkdoibglgkcbkaa
namespace Go.Proofs.Ytkdoibglgkcbkaa
namespace Fk
open Go
set_option linter.unusedVariables false
theorem write_pos (k : FloatKind) (d : Ieee.Datum) (hn : d.isNaN = false) (h : d.neg = false) : k.format.write d < k.format.signWeight := by
 have hlt := k.format.infRung_lt
 cases d with
 | nan s t => simp [Ieee.Datum.isNaN] at hn
 | infinity s =>
  obtain rfl : s = false := h
  show k.format.word false k.format.infRung < _
  unfold Ieee.Format.word; simpa using hlt
 | number s m p =>
  obtain rfl : s = false := h
  obtain ⟨r, hr, he⟩ := nearest_word k.format false m p
  show k.format.nearest false m p < _
  rw [he]
  unfold Ieee.Format.word
  rw [if_neg (by simp)]
  omega
def mxR (k : FloatKind) (x y : Nat) (w : World) : Nat :=
 match k.format.order x y with
 | none => (Question.nanMinMax k true x y).cut (w.tape w.drawn (.nanMinMax k true x y))
 | some .lt => y
 | some .gt => x
 | some .eq => if (k.decode x).neg then y else x
def mxN (k : FloatKind) (x y : Nat) : Nat := match k.format.order x y with | none => 1 | some _ => 0
@[go_sem] theorem run_max {P : Program} (w : World) (ats : Array TypeId) (ty : TypeId) (k : FloatKind) (x y : Nat) :
  (Builtin.max_ ats ty #[.float k x, .float k y]).run P w = .ok (.float k (mxR k x y w)) (w.drewN (mxN k x y)) := by
 have hq : (Question.nanMinMax k true x y).forced = false := rfl
 unfold mxR mxN
 cases ho : k.format.order x y with
 | none => simp [Builtin.max_, Builtin.max2, ho, hq]; rfl
 | some o => cases o <;> simp [Builtin.max_, Builtin.max2, ho] <;> rfl
end Fk
end Go.Proofs.Ytkdoibglgkcbkaa
namespace Go.Proofs.Ytkdoibglgkcbkaa
namespace Fk
open Go
set_option linter.unusedVariables false
def NGC (k : FloatKind) (c : Option Nat) (n : Nat) (e : Int) : Prop := ∃ x m p, c = some x ∧ k.decode x = .number false m p ∧ Qr n e m p
def Okl (k : FloatKind) : Prop := k.format.infRung < k.format.signWeight ∧ k.format.binade ≤ k.format.infRung
theorem okl64 : Okl .f64 := by unfold Okl; decide
theorem okl32 : Okl .f32 := by unfold Okl; decide
theorem ngc_of {k : FloatKind} {m : Nat} {p : Int} {n N : Nat} {e E : Int} {c : Option Nat} (hc : c = some (k.format.write (.number false m p))) (hq : QLC k c N E) (h : Qr n e m p) (hn : n < 2 * k.format.binade) (he : k.format.leastPlace ≤ e) (ho : Okl k) : NGC k c n e := by
 obtain ⟨x, h1, s, a, b, h2, _⟩ := hq
 rcases QGE_write k m p n e h hn he ho.1 ho.2 with ⟨m', p', k1, k2⟩ | k1
 ·exact ⟨_, m', p', hc, k1, k2⟩
 ·exfalso
  rw [hc] at h1
  cases h1
  rw [k1] at h2
  cases h2
end Fk
end Go.Proofs.Ytkdoibglgkcbkaa
namespace Go.Proofs.Ytkdoibglgkcbkaa
namespace Fk
open Go
set_option linter.unusedVariables false
end Fk
end Go.Proofs.Ytkdoibglgkcbkaa
namespace Go.Proofs.Ytkdoibglgkcbkaa
namespace Fk
open Go
set_option linter.unusedVariables false
theorem NGC_nar {c : Option Nat} {n N : Nat} {e E : Int} (h : NGC .f64 c n e) (hq : QLC .f32 (c.map nar) N E) (hn : n < 16777216) (he : -149 ≤ e) : NGC .f32 (c.map nar) n e := by
 obtain ⟨x, m, p, rfl, h2, h3⟩ := h
 refine ngc_of (m := m) (p := p) ?_ hq h3 (by rw [bin32]; omega) he okl32
 show some (nar x) = _
 unfold nar
 rw [h2]; rfl
theorem NGC_wid {x n N : Nat} {e E : Int} (h : NGC .f32 (some x) n e) (hq : QLE .f64 (wid x) N E) (hn : n < 9007199254740992) (he : -1000 ≤ e) : NGC .f64 (some (wid x)) n e := by
 obtain ⟨y, m, p, h1, h2, h3⟩ := h
 cases h1
 refine ngc_of (m := m) (p := p) ?_ ⟨_, rfl, hq⟩ h3 (by rw [bin64]; omega) (by rw [show FloatKind.f64.format.leastPlace = -1074 by decide]; omega) okl64
 unfold wid
 rw [h2]; rfl
end Fk
end Go.Proofs.Ytkdoibglgkcbkaa

/-
Texts in one: what StiffTimes stands on, part 0. Conditions: those of each.
-/
import Derived.WalkKit
import Derived.WalkLawsBesides
import Derived.Deep.Draws
import Derived.ChangeSlices
import Derived.Lib.SmallJoins
import Derived.Below
import Derived.Deep.Matrix
import Derived.Test.YtabccmobmppdnaaGreatChecked
import Derived.LoopTactic
import Derived.IntWalk
import Derived.Laws.MakeOwn
import Derived.Lib.Hide
-- halved
namespace Go.Proofs.YtabccmobmppdnaaGreat
namespace Fk
open Go
def cls (k : FloatKind) (b : Nat) : Option Nat := if (k.decode b).isNaN then none else some b
def FV (k : FloatKind) (b : Nat) (c : Option Nat) : Prop := b < 2 ^ k.format.width ∧ cls k b = c
theorem FV.self {k : FloatKind} {b : Nat} (h : b < 2 ^ k.format.width) : FV k b (cls k b) := ⟨h, rfl⟩
theorem FV.num {k : FloatKind} {b x : Nat} (h : FV k b (some x)) : b = x := by
 have := h.2; unfold cls at this; split at this
 ·cases this
 ·exact Option.some.inj this
theorem FV.nan {k : FloatKind} {b : Nat} (h : FV k b none) : (k.decode b).isNaN = true := by
 have := h.2; unfold cls at this; split at this
 ·assumption
 ·cases this
theorem cls_nan {k : FloatKind} {b : Nat} (h : (k.decode b).isNaN = true) : cls k b = none := by unfold cls; rw [if_pos h]
theorem cls_num {k : FloatKind} {b : Nat} (h : (k.decode b).isNaN = false) : cls k b = some b := by unfold cls; rw [if_neg (by simp [h])]
theorem FV.notnan {k : FloatKind} {b x : Nat} (h : FV k b (some x)) : (k.decode b).isNaN = false := by
 cases hn : (k.decode b).isNaN
 ·rfl
 ·have := h.2; rw [cls_nan hn] at this; cases this
theorem isNaN_read (f : Ieee.Format) (hb : f.binade ≤ f.infRung) (b : Nat) : (f.read b).isNaN = decide (f.infRung < b % f.signWeight) := by
 unfold Ieee.Format.read
 dsimp only
 split
 ·simp [Ieee.Datum.isNaN]; omega
 ·split
  ·simp [Ieee.Datum.isNaN]; omega
  ·split
   ·simp [Ieee.Datum.isNaN]; omega
   ·simp [Ieee.Datum.isNaN]; omega
theorem isNaN_decode (k : FloatKind) (b : Nat) : (k.decode b).isNaN = decide (k.format.infRung < b % k.format.signWeight) :=
 isNaN_read _ (by cases k <;> decide) b
theorem word_mod (f : Ieee.Format) (s : Bool) (r : Nat) (h : r < f.signWeight) : f.word s r % f.signWeight = r := by
 unfold Ieee.Format.word
 split
 ·rw [Nat.add_mod_left, Nat.mod_eq_of_lt h]
 ·exact Nat.mod_eq_of_lt h
theorem nearest_word (f : Ieee.Format) (s : Bool) (m : Nat) (p : Int) : ∃ r, r ≤ f.infRung ∧ f.nearest s m p = f.word s r := by
 unfold Ieee.Format.nearest
 dsimp only
 split
 ·exact ⟨0, Nat.zero_le _, rfl⟩
 ·exact ⟨_, Nat.min_le_right _ _, rfl⟩
theorem isNaN_write (k : FloatKind) (d : Ieee.Datum) (h : d.isNaN = false) : (k.decode (k.format.write d)).isNaN = false := by
 rw [isNaN_decode]
 have hlt := k.format.infRung_lt
 cases d with
 | nan s t => simp [Ieee.Datum.isNaN] at h
 | infinity s =>
  show decide (k.format.infRung < k.format.word s k.format.infRung % k.format.signWeight) = false
  rw [word_mod _ _ _ hlt]; simp
 | number s m p =>
  obtain ⟨r, hr, he⟩ := nearest_word k.format s m p
  show decide (k.format.infRung < k.format.nearest s m p % k.format.signWeight) = false
  rw [he, word_mod _ _ _ (by omega)]; simp; omega
theorem sum_ok {x y d : Ieee.Datum} (h : x.sum y = some d) : x.isNaN = false ∧ y.isNaN = false ∧ d.isNaN = false := by
 cases x <;> cases y <;> simp_all [Ieee.Datum.sum, Ieee.Datum.isNaN] <;> first | (subst h; rfl) | (obtain ⟨_, rfl⟩ := h; rfl)
theorem product_ok {x y d : Ieee.Datum} (h : x.product y = some d) : x.isNaN = false ∧ y.isNaN = false ∧ d.isNaN = false := by
 cases x <;> cases y <;> simp_all [Ieee.Datum.product, Ieee.Datum.isNaN] <;> first | (subst h; rfl) | (obtain ⟨_, rfl⟩ := h; rfl)
theorem quotient_ok {n : Nat} {x y d : Ieee.Datum} (h : x.quotient n y = some d) : x.isNaN = false ∧ y.isNaN = false ∧ d.isNaN = false := by
 cases x <;> cases y <;> simp_all [Ieee.Datum.quotient, Ieee.Datum.isNaN] <;> first | (subst h; rfl) | skip
 split at h
 ·split at h
  ·cases h
  ·cases h; rfl
 ·cases h; rfl
theorem opposite_nan (x : Ieee.Datum) : x.opposite.isNaN = x.isNaN := by cases x <;> rfl
theorem floatBits_ok {op : BinOp} {k : FloatKind} {x y r : Nat} (h : floatBits op k x y = some r) :
  (k.decode x).isNaN = false ∧ (k.decode y).isNaN = false ∧ (k.decode r).isNaN = false ∧ r < 2 ^ k.format.width := by
 unfold floatBits at h
 split at h
 ·refine have e := h; ?_
  unfold Ieee.Format.add at h
  obtain ⟨d, hd, rfl⟩ := Option.map_eq_some_iff.1 h
  have := sum_ok hd
  exact ⟨this.1, this.2.1, isNaN_write k d this.2.2, k.format.add_lt e⟩
 ·refine have e := h; ?_
  unfold Ieee.Format.sub at h
  obtain ⟨d, hd, rfl⟩ := Option.map_eq_some_iff.1 h
  have := sum_ok hd
  exact ⟨this.1, by rw [← opposite_nan]; exact this.2.1, isNaN_write k d this.2.2, k.format.sub_lt e⟩
 ·refine have e := h; ?_
  unfold Ieee.Format.mul at h
  obtain ⟨d, hd, rfl⟩ := Option.map_eq_some_iff.1 h
  have := product_ok hd
  exact ⟨this.1, this.2.1, isNaN_write k d this.2.2, k.format.mul_lt e⟩
 ·refine have e := h; ?_
  unfold Ieee.Format.div at h
  obtain ⟨d, hd, rfl⟩ := Option.map_eq_some_iff.1 h
  have := quotient_ok hd
  exact ⟨this.1, this.2.1, isNaN_write k d this.2.2, k.format.div_lt e⟩
 ·cases h
def fop (op : BinOp) (k : FloatKind) : Option Nat → Option Nat → Option Nat
 | some x, some y => floatBits op k x y
 | _, _ => none
def fR (op : BinOp) (k : FloatKind) (x y : Nat) (w : World) : Nat :=
 match floatBits op k x y with
 | some r => r
 | none => (Question.nanBits k x y).cut (w.tape w.drawn (.nanBits k x y))
def fN (op : BinOp) (k : FloatKind) (x y : Nat) : Nat :=
 match floatBits op k x y with
 | some _ => 0
 | none => 1
theorem cut_nan (k : FloatKind) (x y t : Nat) : ((Question.nanBits k x y).cut t) < 2 ^ k.format.width ∧ (k.decode ((Question.nanBits k x y).cut t)).isNaN = true := by
 rw [isNaN_decode]
 cases k
 ·have e1 : FloatKind.f32.format.infRung = 2139095040 := by decide
  have e2 : FloatKind.f32.format.signWeight = 2147483648 := by decide
  have e3 : 2 ^ FloatKind.f32.format.width = 4294967296 := by decide
  rw [e1, e2, e3]
  have e : (Question.nanBits .f32 x y).cut t = (t % 2) * 2147483648 + 2139095041 + (t / 2) % 8388607 := by
   have e' : (Question.nanBits .f32 x y).cut t = (t % 2) * 2 ^ 31 + 0x7f800000 + 1 + (t / 2) % (2 ^ 23 - 1) := rfl
   refine e'.trans ?_
   omega
  rw [e]
  refine ⟨by omega, ?_⟩
  rw [decide_eq_true_iff, show (t % 2) * 2147483648 + 2139095041 + (t / 2) % 8388607 = (2139095041 + (t / 2) % 8388607) + 2147483648 * (t % 2) by omega, Nat.add_mul_mod_self_left, Nat.mod_eq_of_lt (by omega)]
  omega
 ·have e1 : FloatKind.f64.format.infRung = 9218868437227405312 := by decide
  have e2 : FloatKind.f64.format.signWeight = 9223372036854775808 := by decide
  have e3 : 2 ^ FloatKind.f64.format.width = 18446744073709551616 := by decide
  rw [e1, e2, e3]
  have e : (Question.nanBits .f64 x y).cut t = (t % 2) * 9223372036854775808 + 9218868437227405313 + (t / 2) % 4503599627370495 := by
   have e' : (Question.nanBits .f64 x y).cut t = (t % 2) * 2 ^ 63 + 0x7ff0000000000000 + 1 + (t / 2) % (2 ^ 52 - 1) := rfl
   refine e'.trans ?_
   omega
  rw [e]
  refine ⟨by omega, ?_⟩
  rw [decide_eq_true_iff, show (t % 2) * 9223372036854775808 + 9218868437227405313 + (t / 2) % 4503599627370495 = (9218868437227405313 + (t / 2) % 4503599627370495) + 9223372036854775808 * (t % 2) by omega, Nat.add_mul_mod_self_left, Nat.mod_eq_of_lt (by omega)]
  omega
theorem cutConv_nan (k : FloatKind) (x t : Nat) : ((Question.nanConv k x).cut t) < 2 ^ k.format.width ∧ (k.decode ((Question.nanConv k x).cut t)).isNaN = true := by
 have : (Question.nanConv k x).cut t = (Question.nanBits k 0 0).cut t := by cases k <;> rfl
 rw [this]; exact cut_nan k 0 0 t
theorem FV_fR {op : BinOp} {k : FloatKind} {x y : Nat} {w : World} {cx cy : Option Nat} (hx : FV k x cx) (hy : FV k y cy) : FV k (fR op k x y w) (fop op k cx cy) := by
 unfold fR
 cases hf : floatBits op k x y with
 | some r =>
  obtain ⟨h1, h2, h3, h4⟩ := floatBits_ok hf
  have ex : cx = some x := by rw [← hx.2, cls_num h1]
  have ey : cy = some y := by rw [← hy.2, cls_num h2]
  subst ex ey
  exact ⟨h4, by rw [cls_num h3]; exact hf.symm⟩
 | none =>
  have hc := cut_nan k x y (w.tape w.drawn (.nanBits k x y))
  refine ⟨hc.1, ?_⟩
  rw [cls_nan hc.2]
  cases cx with
  | none => rfl
  | some a =>
   cases cy with
   | none => rfl
   | some b =>
    obtain rfl := hx.num
    obtain rfl := hy.num
    exact hf.symm
section
variable {P : Program} (w : World)
theorem run_fR (op : BinOp) (t : TypeId) (k : FloatKind) (x y : Nat) (h : op = .add ∨ op = .sub ∨ op = .mul ∨ op = .quo) :
  (binOp op t (.float k x) (.float k y)).run P w = .ok (.float k (fR op k x y w)) (w.drewN (fN op k x y)) := by
 unfold fR fN
 cases hf : floatBits op k x y with
 | some r => exact run_float_arith w op t k x y r hf
 | none =>
  have hq : (Question.nanBits k x y).forced = false := rfl
  rcases h with rfl | rfl | rfl | rfl <;> simp only [floatBits] at hf <;> simp [binOp, Op.floatArith, hf, hq] <;> rfl
@[go_sem] theorem run_fR_add (t : TypeId) (k : FloatKind) (x y : Nat) : (binOp .add t (.float k x) (.float k y)).run P w = .ok (.float k (fR .add k x y w)) (w.drewN (fN .add k x y)) := run_fR w _ _ _ _ _ (by simp)
@[go_sem] theorem run_fR_sub (t : TypeId) (k : FloatKind) (x y : Nat) : (binOp .sub t (.float k x) (.float k y)).run P w = .ok (.float k (fR .sub k x y w)) (w.drewN (fN .sub k x y)) := run_fR w _ _ _ _ _ (by simp)
@[go_sem] theorem run_fR_mul (t : TypeId) (k : FloatKind) (x y : Nat) : (binOp .mul t (.float k x) (.float k y)).run P w = .ok (.float k (fR .mul k x y w)) (w.drewN (fN .mul k x y)) := run_fR w _ _ _ _ _ (by simp)
@[go_sem] theorem run_fR_quo (t : TypeId) (k : FloatKind) (x y : Nat) : (binOp .quo t (.float k x) (.float k y)).run P w = .ok (.float k (fR .quo k x y w)) (w.drewN (fN .quo k x y)) := run_fR w _ _ _ _ _ (by simp)
end
theorem order_nan {k : FloatKind} {x y : Nat} (h : (k.decode x).isNaN = true ∨ (k.decode y).isNaN = true) : k.format.order x y = none := by
 unfold Ieee.Format.order
 have hx : k.format.read x = k.decode x := rfl
 have hy : k.format.read y = k.decode y := rfl
 rw [hx, hy]
 rcases h with h | h
 ·cases hd : k.decode x <;> rw [hd] at h <;> simp [Ieee.Datum.isNaN] at h
  cases k.decode y <;> rfl
 ·cases hd : k.decode y <;> rw [hd] at h <;> simp [Ieee.Datum.isNaN] at h
  cases k.decode x <;> rfl
def ford (k : FloatKind) : Option Nat → Option Nat → Option Ordering
 | some x, some y => k.format.order x y
 | _, _ => none
theorem ford_of {k : FloatKind} {x y : Nat} {cx cy : Option Nat} (hx : FV k x cx) (hy : FV k y cy) : k.format.order x y = ford k cx cy := by
 cases cx with
 | none => exact order_nan (.inl hx.nan)
 | some a =>
  cases cy with
  | none => exact order_nan (.inr hy.nan)
  | some b =>
   obtain rfl := hx.num
   obtain rfl := hy.num
   rfl
theorem order_self {k : FloatKind} {x : Nat} (h : (k.decode x).isNaN = false) : k.format.order x x = some .eq := by
 unfold Ieee.Format.order
 have hx : k.format.read x = k.decode x := rfl
 rw [hx]
 cases hd : k.decode x with
 | nan s t => rw [hd] at h; simp [Ieee.Datum.isNaN] at h
 | infinity s => simp [Ieee.Datum.order]
 | number s m p => simp [Ieee.Datum.order]
def val (B r : Nat) : Nat := if r < B then r else (B + r % B) * 2 ^ (r / B - 1)
theorem val_succ (B r : Nat) (hB : 0 < B) : val B r < val B (r + 1) := by
 unfold val
 by_cases h1 : r + 1 < B
 ·rw [if_pos h1, if_pos (by omega)]; omega
 ·by_cases h2 : r + 1 = B
  ·rw [if_pos (by omega), if_neg (by omega), h2, Nat.mod_self, Nat.div_self hB]; simp; omega
  ·have hr : B ≤ r := by omega
   rw [if_neg (by omega), if_neg h1]
   have hq : 1 ≤ r / B := (Nat.le_div_iff_mul_le hB).2 (by omega)
   have hd := Nat.div_add_mod r B
   have ht := Nat.mod_lt r hB
   generalize r / B = q at *
   generalize r % B = t at *
   by_cases h3 : t + 1 = B
   ·have e : r + 1 = B * (q + 1) := by rw [Nat.mul_add]; omega
    rw [e, Nat.mul_div_cancel_left _ hB, Nat.mul_mod_right]
    obtain ⟨p, rfl⟩ : ∃ p, q = p + 1 := ⟨q - 1, by omega⟩
    simp only [Nat.add_sub_cancel, Nat.add_zero, Nat.pow_succ]
    have hp : 0 < 2 ^ p := Nat.two_pow_pos p
    have : B * (2 ^ p * 2) = (B + B) * 2 ^ p := by rw [Nat.mul_comm (2 ^ p) 2, ← Nat.mul_assoc, Nat.mul_two]
    rw [this]
    exact Nat.mul_lt_mul_of_pos_right (by omega) hp
   ·have e : r + 1 = t + 1 + B * q := by omega
    rw [e, Nat.add_mul_div_left _ _ hB, Nat.add_mul_mod_self_left, Nat.div_eq_of_lt (by omega), Nat.mod_eq_of_lt (by omega), Nat.zero_add]
    exact Nat.mul_lt_mul_of_pos_right (by omega) (Nat.two_pow_pos _)
theorem val_lt {B r s : Nat} (hB : 0 < B) (h : r < s) : val B r < val B s := by
 induction s with
 | zero => omega
 | succ s ih =>
  have := val_succ B s hB
  by_cases e : r = s
  ·subst e; exact this
  ·exact Nat.lt_trans (ih (by omega)) this
theorem val_zero (B : Nat) (hB : 0 < B) : val B 0 = 0 := by unfold val; rw [if_pos hB]
def key (k : FloatKind) (b : Nat) : Int := if b < k.format.signWeight then (b : Int) else (k.format.signWeight : Int) - b
def sval (k : FloatKind) (b : Nat) : Int := if b < k.format.signWeight then (val k.format.binade b : Int) else -(val k.format.binade (b - k.format.signWeight) : Int)
theorem compare_key (k : FloatKind) (x y : Nat) : compare (sval k x) (sval k y) = compare (key k x) (key k y) := by
 have hB : 0 < k.format.binade := Nat.two_pow_pos _
 have mono : ∀ r s, r < s → (val k.format.binade r : Int) < val k.format.binade s := fun r s h => by exact_mod_cast val_lt hB h
 have z := val_zero k.format.binade hB
 have pos : ∀ r, (0 : Int) ≤ val k.format.binade r := fun r => by omega
 have pos' : ∀ r, 0 < r → (0 : Int) < val k.format.binade r := fun r h => by have := mono 0 r h; rw [z] at this; exact this
 unfold sval key
 generalize k.format.signWeight = S
 by_cases hx : x < S <;> by_cases hy : y < S <;> simp only [hx, hy, if_true, if_false]
 ·rcases Nat.lt_trichotomy x y with h | h | h
  ·rw [Int.compare_eq_lt.2 (mono _ _ h), Int.compare_eq_lt.2 (by omega)]
  ·subst h; rw [Int.compare_eq_eq.2 rfl, Int.compare_eq_eq.2 rfl]
  ·rw [Int.compare_eq_gt.2 (mono _ _ h), Int.compare_eq_gt.2 (by omega)]
 ·have h1 := pos x
  have h2 := pos (y - S)
  by_cases h : x = 0 ∧ y = S
  ·obtain ⟨rfl, rfl⟩ := h
   rw [Nat.sub_self, z, Int.compare_eq_eq.2 (by omega), Int.compare_eq_eq.2 (by omega)]
  ·have : (0 : Int) < val k.format.binade x ∨ (0 : Int) < val k.format.binade (y - S) := by
    by_cases e : x = 0
    ·right; exact pos' _ (by omega)
    ·left; exact pos' _ (by omega)
   rw [Int.compare_eq_gt.2 (by omega), Int.compare_eq_gt.2 (by omega)]
 ·have h1 := pos y
  have h2 := pos (x - S)
  by_cases h : y = 0 ∧ x = S
  ·obtain ⟨rfl, rfl⟩ := h
   rw [Nat.sub_self, z, Int.compare_eq_eq.2 (by omega), Int.compare_eq_eq.2 (by omega)]
  ·have : (0 : Int) < val k.format.binade y ∨ (0 : Int) < val k.format.binade (x - S) := by
    by_cases e : y = 0
    ·right; exact pos' _ (by omega)
    ·left; exact pos' _ (by omega)
   rw [Int.compare_eq_lt.2 (by omega), Int.compare_eq_lt.2 (by omega)]
 ·rcases Nat.lt_trichotomy x y with h | h | h
  ·have := mono (x - S) (y - S) (by omega)
   rw [Int.compare_eq_gt.2 (by omega), Int.compare_eq_gt.2 (by omega)]
  ·subst h; rw [Int.compare_eq_eq.2 rfl, Int.compare_eq_eq.2 rfl]
  ·have := mono (y - S) (x - S) (by omega)
   rw [Int.compare_eq_lt.2 (by omega), Int.compare_eq_lt.2 (by omega)]
theorem decode_cases (k : FloatKind) (b : Nat) (hb : b < 2 ^ k.format.width) (hn : (k.decode b).isNaN = false) :
  (∃ s m p, k.decode b = .number s m p ∧ k.format.leastPlace ≤ p ∧ sval k b = Ieee.signed s m (p - k.format.leastPlace).toNat) ∨
  (∃ s, k.decode b = .infinity s ∧ b = k.format.word s k.format.infRung) := by
 have two : 2 ^ k.format.width = 2 * k.format.signWeight := by cases k <;> decide
 have hB : 0 < k.format.binade := Nat.two_pow_pos _
 rw [isNaN_decode] at hn
 have hn' : ¬ k.format.infRung < b % k.format.signWeight := by simpa using hn
 have hSpos : 0 < k.format.signWeight := Nat.two_pow_pos _
 have key : (b / k.format.signWeight % 2 == 1) = decide (k.format.signWeight ≤ b) := by
  by_cases h : k.format.signWeight ≤ b
  ·have : b / k.format.signWeight = 1 := by
    refine Nat.div_eq_of_lt_le (by omega) (by omega)
   rw [this]; simp [h]
  ·rw [Nat.div_eq_of_lt (by omega)]; simp; omega
 have hmod : b % k.format.signWeight = if k.format.signWeight ≤ b then b - k.format.signWeight else b := by
  split
  ·rw [Nat.mod_eq_sub_mod ‹_›, Nat.mod_eq_of_lt (by omega)]
  ·exact Nat.mod_eq_of_lt (by omega)
 have hs : ∀ (m : Nat) (e : Nat), (val k.format.binade (b % k.format.signWeight) = m * 2 ^ e) → sval k b = Ieee.signed (decide (k.format.signWeight ≤ b)) m e := by
  intro m e h
  unfold sval Ieee.signed
  rw [Nat.shiftLeft_eq, ← h, hmod]
  by_cases hlt : b < k.format.signWeight
  ·have hge : ¬ k.format.signWeight ≤ b := by omega
   simp only [hlt, hge, if_true, if_false, decide_false, Bool.false_eq_true]
  ·have hge : k.format.signWeight ≤ b := by omega
   simp only [hlt, hge, if_true, if_false, decide_true]
 show (∃ s m p, k.format.read b = .number s m p ∧ _) ∨ (∃ s, k.format.read b = .infinity s ∧ _)
 unfold Ieee.Format.read
 dsimp only
 rw [key]
 by_cases h1 : b % k.format.signWeight < k.format.binade
 ·rw [if_pos h1]
  refine .inl ⟨_, _, _, rfl, Int.le_refl _, ?_⟩
  rw [Int.sub_self]
  refine hs _ _ ?_
  unfold val; rw [if_pos h1]; simp
 ·rw [if_neg h1]
  by_cases h2 : b % k.format.signWeight < k.format.infRung
  ·rw [if_pos h2]
   refine .inl ⟨_, _, _, rfl, by omega, ?_⟩
   rw [show k.format.leastPlace + ((b % k.format.signWeight / k.format.binade - 1 : Nat) : Int) - k.format.leastPlace = ((b % k.format.signWeight / k.format.binade - 1 : Nat) : Int) by omega, Int.toNat_natCast]
   refine hs _ _ ?_
   unfold val; rw [if_neg h1]
  ·rw [if_neg h2]
   have h3 : b % k.format.signWeight = k.format.infRung := by omega
   rw [if_pos h3]
   refine .inr ⟨_, rfl, ?_⟩
   unfold Ieee.Format.word
   by_cases hge : k.format.signWeight ≤ b
   ·simp only [hge, decide_true, if_true]; rw [if_pos hge] at hmod; omega
   ·simp only [hge, decide_false]; rw [if_neg hge] at hmod; simp; omega
theorem signed_mul (s : Bool) (m a c : Nat) : Ieee.signed s m (a + c) = Ieee.signed s m a * 2 ^ c := by
 unfold Ieee.signed
 split <;> simp [Nat.shiftLeft_eq, Nat.pow_add, Int.mul_assoc, Int.neg_mul]
theorem compare_mul (a b : Int) (c : Nat) : compare (a * 2 ^ c) (b * 2 ^ c) = compare a b := by
 have h : (0 : Int) < 2 ^ c := by exact_mod_cast Nat.two_pow_pos c
 rcases Int.lt_trichotomy a b with h' | h' | h'
 ·rw [Int.compare_eq_lt.2 (Int.mul_lt_mul_of_pos_right h' h), Int.compare_eq_lt.2 h']
 ·subst h'; rw [Int.compare_eq_eq.2 rfl, Int.compare_eq_eq.2 rfl]
 ·rw [Int.compare_eq_gt.2 (Int.mul_lt_mul_of_pos_right h' h), Int.compare_eq_gt.2 h']
theorem sval_inf (k : FloatKind) (s : Bool) : sval k (k.format.word s k.format.infRung) = if s then -(val k.format.binade k.format.infRung : Int) else (val k.format.binade k.format.infRung : Int) := by
 have := k.format.infRung_lt
 unfold sval Ieee.Format.word
 cases s
 ·simp [this]
 ·simp; omega
theorem sval_lt_inf (k : FloatKind) (b : Nat) (hb : b < 2 ^ k.format.width) (s m p) (h : k.decode b = .number s m p) :
  -(val k.format.binade k.format.infRung : Int) < sval k b ∧ sval k b < (val k.format.binade k.format.infRung : Int) := by
 have two : 2 ^ k.format.width = 2 * k.format.signWeight := by cases k <;> decide
 have hB : 0 < k.format.binade := Nat.two_pow_pos _
 have hSpos : 0 < k.format.signWeight := Nat.two_pow_pos _
 have hr : b % k.format.signWeight < k.format.infRung := by
  have h' : k.format.read b = .number s m p := h
  unfold Ieee.Format.read at h'
  dsimp only at h'
  by_cases h1 : b % k.format.signWeight < k.format.binade
  ·have : k.format.binade ≤ k.format.infRung := by cases k <;> decide
   omega
  ·rw [if_neg h1] at h'
   by_cases h2 : b % k.format.signWeight < k.format.infRung
   ·exact h2
   ·rw [if_neg h2] at h'; split at h' <;> cases h'
 have hv := val_lt hB hr
 unfold sval
 by_cases hlt : b < k.format.signWeight
 ·rw [if_pos hlt]; rw [Nat.mod_eq_of_lt hlt] at hv; omega
 ·rw [if_neg hlt]; rw [Nat.mod_eq_sub_mod (by omega), Nat.mod_eq_of_lt (by omega)] at hv; omega
theorem order_key {k : FloatKind} {x y : Nat} (hx : x < 2 ^ k.format.width) (hy : y < 2 ^ k.format.width) (nx : (k.decode x).isNaN = false) (ny : (k.decode y).isNaN = false) :
  k.format.order x y = some (compare (key k x) (key k y)) := by
 rw [← compare_key]
 have hB : 0 < k.format.binade := Nat.two_pow_pos _
 have hinf : (0 : Int) < val k.format.binade k.format.infRung := by
  have := val_lt hB (show 0 < k.format.infRung by cases k <;> decide)
  rw [val_zero _ hB] at this; exact_mod_cast this
 show (k.decode x).order (k.decode y) = _
 rcases decode_cases k x hx nx with ⟨s, m, p, h1, h2, h3⟩ | ⟨s, h1, h2⟩ <;> rcases decode_cases k y hy ny with ⟨t, n, q, g1, g2, g3⟩ | ⟨t, g1, g2⟩
 ·rw [h1, g1]
  show some (compare (Ieee.signed s m (p - min p q).toNat) (Ieee.signed t n (q - min p q).toNat)) = _
  rw [h3, g3]
  have e1 : (p - k.format.leastPlace).toNat = (p - min p q).toNat + (min p q - k.format.leastPlace).toNat := by omega
  have e2 : (q - k.format.leastPlace).toNat = (q - min p q).toNat + (min p q - k.format.leastPlace).toNat := by omega
  rw [e1, e2, signed_mul, signed_mul, compare_mul]
 ·have := sval_lt_inf k x hx _ _ _ h1
  rw [h1, g1, g2, sval_inf]
  cases t
  ·show some Ordering.lt = _
   rw [if_neg (by simp), Int.compare_eq_lt.2 this.2]
  ·show some Ordering.gt = _
   rw [if_pos rfl, Int.compare_eq_gt.2 this.1]
 ·have := sval_lt_inf k y hy _ _ _ g1
  rw [h1, g1, h2, sval_inf]
  cases s
  ·show some Ordering.gt = _
   rw [if_neg (by simp), Int.compare_eq_gt.2 this.2]
  ·show some Ordering.lt = _
   rw [if_pos rfl, Int.compare_eq_lt.2 this.1]
 ·rw [h1, g1, h2, g2, sval_inf, sval_inf]
  cases s <;> cases t
  ·rw [Int.compare_eq_eq.2 rfl]; rfl
  ·rw [if_neg (by simp), if_pos rfl, Int.compare_eq_gt.2 (by omega)]; rfl
  ·rw [if_pos rfl, if_neg (by simp), Int.compare_eq_lt.2 (by omega)]; rfl
  ·rw [Int.compare_eq_eq.2 rfl]; rfl
theorem even_cut_zero (s : Bool) (n : Nat) : Ieee.Toward.even.cut s n 0 = n := by
 unfold Ieee.Toward.cut
 simp [Nat.mod_one]
theorem nearest_exact (f : Ieee.Format) (s : Bool) (m : Nat) (p : Int) (h0 : m ≠ 0) (h1 : m.log2 ≤ f.fractionBits) (h2 : f.leastPlace ≤ p) :
  f.nearest s m p = f.word s (min ((max (p + m.log2 - f.fractionBits) f.leastPlace - f.leastPlace).toNat * f.binade + m * 2 ^ (p - max (p + m.log2 - f.fractionBits) f.leastPlace).toNat) f.infRung) := by
 unfold Ieee.Format.nearest
 dsimp only
 rw [if_neg h0]
 have : (max (p + (m.log2 : Int) - f.fractionBits) f.leastPlace - p).toNat = 0 := by omega
 rw [this, even_cut_zero, Nat.shiftLeft_eq]
def wid (x : Nat) : Nat := FloatKind.f64.encode (FloatKind.f32.decode x)
theorem decode32 (x : Nat) (s : Bool) (m : Nat) (p : Int) (h : FloatKind.f32.decode x = .number s m p) : m < 16777216 ∧ -149 ≤ p ∧ p ≤ 104 := by
 have h' : Ieee.single.read x = .number s m p := h
 unfold Ieee.Format.read at h'
 dsimp only at h'
 have e1 : Ieee.single.binade = 8388608 := by decide
 have e2 : Ieee.single.infRung = 2139095040 := by decide
 have e3 : Ieee.single.leastPlace = -149 := by decide
 rw [e1, e2, e3] at h'
 split at h'
 ·cases h'; omega
 ·split at h'
  ·cases h'; omega
  ·split at h' <;> cases h'
theorem wid_aux (a M i : Nat) (ha : a ≤ 1149) (hM : M < 9007199254740992) : min (a * 4503599627370496 + M) i < 5188146770730811392 := by
 refine Nat.lt_of_le_of_lt (Nat.min_le_left _ _) ?_
 omega
theorem wid_word (x : Nat) (s : Bool) (m : Nat) (p : Int) (h : FloatKind.f32.decode x = .number s m p) : ∃ r, wid x = Ieee.double.word s r ∧ r < 5188146770730811392 := by
 obtain ⟨h1, h2, h3⟩ := decode32 x s m p h
 unfold wid
 rw [h]
 show ∃ r, Ieee.double.nearest s m p = _ ∧ _
 by_cases h0 : m = 0
 ·subst h0; exact ⟨0, by unfold Ieee.Format.nearest; rw [if_pos rfl], by omega⟩
 ·have hl : m.log2 < 24 := (Nat.log2_lt h0).2 h1
  have e1 : Ieee.double.fractionBits = 52 := rfl
  have e2 : Ieee.double.leastPlace = -1074 := by decide
  have e3 : Ieee.double.binade = 4503599627370496 := by decide
  rw [nearest_exact _ s m p h0 (by rw [e1]; omega) (by rw [e2]; omega), e1, e2, e3]
  refine ⟨_, rfl, ?_⟩
  have hk : (p - max (p + (m.log2 : Int) - (52 : Nat)) (-1074)).toNat = 52 - m.log2 := by omega
  rw [hk]
  have hlt : m < 2 ^ (m.log2 + 1) := Nat.lt_log2_self
  have : m * 2 ^ (52 - m.log2) < 9007199254740992 := by
   have : m * 2 ^ (52 - m.log2) < 2 ^ (m.log2 + 1) * 2 ^ (52 - m.log2) := Nat.mul_lt_mul_of_pos_right hlt (Nat.two_pow_pos _)
   rw [← Nat.pow_add, show m.log2 + 1 + (52 - m.log2) = 53 by omega] at this
   exact this
  exact wid_aux _ _ _ (by omega) this
theorem wid_fin (x : Nat) (s : Bool) (m : Nat) (p : Int) (h : FloatKind.f32.decode x = .number s m p) : (FloatKind.f64.decode (wid x)).isInfinity = false := by
 obtain ⟨r, he, hr⟩ := wid_word x s m p h
 rw [he]
 show (Ieee.double.read (Ieee.double.word s r)).isInfinity = false
 have e2 : Ieee.double.infRung = 9218868437227405312 := by decide
 unfold Ieee.Format.read
 dsimp only
 rw [word_mod _ _ _ (show r < Ieee.double.signWeight by rw [show Ieee.double.signWeight = 9223372036854775808 by decide]; omega)]
 split
 ·rfl
 ·rw [if_pos (by rw [e2]; omega)]; rfl
def wR (x : Nat) (w : World) : Nat := if (FloatKind.f32.decode x).isNaN then (Question.nanConv .f64 x).cut (w.tape w.drawn (.nanConv .f64 x)) else wid x
def wN (x : Nat) : Nat := if (FloatKind.f32.decode x).isNaN then 1 else 0
theorem wid_lt (x : Nat) : wid x < 2 ^ FloatKind.f64.format.width := FloatKind.f64.format.write_lt _
theorem wid_nan {x : Nat} (h : (FloatKind.f32.decode x).isNaN = false) : (FloatKind.f64.decode (wid x)).isNaN = false := isNaN_write .f64 _ h
theorem FV_wR {x : Nat} {w : World} {c : Option Nat} (h : FV .f32 x c) : FV .f64 (wR x w) (c.map wid) := by
 unfold wR
 cases c with
 | none =>
  rw [if_pos h.nan]
  have := cutConv_nan .f64 x (w.tape w.drawn (.nanConv .f64 x))
  exact ⟨this.1, cls_nan this.2⟩
 | some a =>
  obtain rfl := h.num
  have hn := h.notnan
  rw [if_neg (by simp [hn])]
  exact ⟨wid_lt x, cls_num (wid_nan hn)⟩
section
variable {P : Program} (w : World)
@[go_sem] theorem run_wR (src dst : TypeId) (x : Nat) (hs : (P.underlying src).isSome = true) (hd : P.underlying dst = some (.float .f64)) :
  (convert src dst (.float .f32 x)).run P w = .ok (.float .f64 (wR x w)) (w.drewN (wN x)) := by
 obtain ⟨u, hs'⟩ := Option.isSome_iff_exists.1 hs
 have hq : (Question.nanConv .f64 x).forced = false := rfl
 unfold wR wN
 cases hd' : FloatKind.f32.decode x with
 | nan s t =>
  have e : (Ieee.Datum.nan s t).isNaN = true := rfl
  rw [if_pos e, if_pos e]
  cases u <;> simp [convert, run_underlying hs', run_underlying hd, Conv.floatToFloat, hd', hq] <;> rfl
 | infinity s =>
  have e : ¬ (Ieee.Datum.infinity s).isNaN = true := by simp [Ieee.Datum.isNaN]
  rw [if_neg e, if_neg e]
  unfold wid; rw [hd']
  cases u <;> simp [convert, run_underlying hs', run_underlying hd, Conv.floatToFloat, hd'] <;> rfl
 | number s m p =>
  have e : ¬ (Ieee.Datum.number s m p).isNaN = true := by simp [Ieee.Datum.isNaN]
  have hf := wid_fin x s m p hd'
  unfold wid at hf; rw [hd'] at hf
  rw [if_neg e, if_neg e]
  unfold wid; rw [hd']
  cases u <;> simp [convert, run_underlying hs', run_underlying hd, Conv.floatToFloat, hd', hf] <;> rfl
@[go_sem] theorem run_same (src dst : TypeId) (k : FloatKind) (x : Nat) (hs : (P.underlying src).isSome = true) (hd : P.underlying dst = some (.float k)) :
  (convert src dst (.float k x)).run P w = .ok (.float k x) w := by
 obtain ⟨u, hs'⟩ := Option.isSome_iff_exists.1 hs
 cases u <;> simp [convert, run_underlying hs', run_underlying hd, Conv.floatToFloat]
end
theorem wf_lt {k : FloatKind} {b : Nat} (h : (Lit.float k b).wf = true) : b < 2 ^ k.format.width := by
 cases k
 ·have e : 2 ^ FloatKind.f32.format.width = 2 ^ 32 := by decide
  rw [e]; simpa [Lit.wf] using h
 ·have e : 2 ^ FloatKind.f64.format.width = 2 ^ 64 := by decide
  rw [e]; simpa [Lit.wf] using h
section
open Go.ChangeShapes Go.WideShapes Go.Deep
variable {H : Type} {enc : TypeId × Value → H} {P : Program} {w : World} {base : Nat} {spare : Nat → Bool} {held : Bool}
theorem trod_float {fuel : Nat} {t : TypeId} {k : FloatKind} {cs : List Value} {y : DataW H × List MemPlace} (ht : P.underlying t = some (.float k)) (h : DataW.trod enc P w base spare held fuel t cs = some y) :
  ∃ b, cs = [.float k b] ∧ b < 2 ^ k.format.width := by
 cases fuel with
 | zero => simp [DataW.trod] at h
 | succ n =>
  match cs, h with
  | [], h => simp [DataW.trod, ht] at h
  | [v], h =>
   cases v with
   | float k' b =>
    simp only [DataW.trod, ht] at h
    split at h
    ·rename_i hw; obtain ⟨rfl, hw⟩ := hw; exact ⟨b, rfl, wf_lt hw⟩
    ·cases h
   | _ => simp [DataW.trod, ht] at h
  | _ :: _ :: _, h => simp [DataW.trod, ht] at h
def IsFs (k : FloatKind) (w : World) (a : Option Addr) (len cap : Nat) (zs : List Nat) : Prop :=
 zs.length = len ∧ len ≤ cap ∧ cap ≤ maxLen ∧ (∀ z ∈ zs, z < 2 ^ k.format.width) ∧
 (a = none → len = 0 ∧ cap = 0) ∧ (∀ x, a = some x → ∀ i, i < len → w.cell? (x.add i) = some (.float k (zs.getD i 0)))
theorem open_floats {t e : TypeId} {k : FloatKind} {a : Option Addr} {len cap : Nat} {d : DataW H} {p : List MemPlace} (ht : P.underlying t = some (.slice e)) (he : P.underlying e = some (.float k)) (hc : P.cellsOf e = 1)
  (h : DataW.Trod enc P w base spare held t (.slice a len cap) d p) : ∃ zs, IsFs k w a len cap zs := by
 obtain ⟨fuel, h⟩ := h
 rcases DataW.trod_slice ht h with ⟨h0, _⟩ | ⟨x, len', cap', elems, rest, n, _, hcs, _, hb, hl, hm, hlen, hel, _, _⟩
 ·simp [Value.cells] at h0
  obtain ⟨rfl, rfl, rfl⟩ := h0
  exact ⟨[], rfl, Nat.le_refl _, Nat.zero_le _, by simp, fun _ => ⟨rfl, rfl⟩, by simp⟩
 ·simp [Value.cells] at hcs
  obtain ⟨rfl, rfl, rfl⟩ := hcs
  have each : ∀ i, i < len → ∃ b, w.cell? (x.add i) = some (.float k b) ∧ b < 2 ^ k.format.width := by
   intro i hi
   have h1 := hel i hi
   rw [hc, Nat.mul_one, List.getElem?_eq_getElem (by omega), Option.bind_eq_some_iff] at h1
   obtain ⟨cs', hcs, hy⟩ := h1
   obtain ⟨b, rfl, hb⟩ := trod_float he hy
   exact ⟨b, cell_of_cells?_one hcs, hb⟩
  let f : Nat → Nat := fun i => match w.cell? (x.add i) with | some (.float _ b) => b | _ => 0
  refine ⟨(List.range len).map f, by simp, hl, hm, ?_, by simp, ?_⟩
  ·intro z hz
   simp only [List.mem_map, List.mem_range] at hz
   obtain ⟨i, hi, rfl⟩ := hz
   obtain ⟨b, h1, h2⟩ := each i hi
   show f i < _
   simp only [f, h1]; exact h2
  ·intro x' hx' i hi
   cases hx'
   obtain ⟨b, h1, h2⟩ := each i hi
   have : ((List.range len).map f).getD i 0 = f i := by simp [List.getD, hi]
   rw [this]
   simp only [f, h1]
end
end Fk
end Go.Proofs.YtabccmobmppdnaaGreat
namespace Go.Proofs.YtabccmobmppdnaaGreat
open Go
section
variable (P : Program) (w : World) (a : Addr) (m : Mode)
@[go_sem] theorem run_store_float (k : FloatKind) (b : Nat) : (store a (.float k b) m).run P w = stored P w a (.float k b) m := run_store P w a _ m rfl
@[go_sem] theorem alloc_drewN (n : Nat) (o : Obj) : (w.drewN n).alloc o = (w.alloc o).drewN n := rfl
@[go_sem] theorem setCell_drewN (n : Nat) (v : Value) : (w.drewN n).setCell a v = (w.setCell a v).drewN n := rfl
end
end Go.Proofs.YtabccmobmppdnaaGreat
namespace Go.Proofs.YtabccmobmppdnaaGreat
namespace Fk
open Go Go.RowKit
set_option linter.unusedVariables false
abbrev C3 := Option Nat × Option Nat × Option Nat
abbrev c0 : C3 := (none, none, none)
def IsVs (w : World) (a : Option Addr) (len cap : Nat) (cs : List C3) : Prop :=
 cs.length = len ∧ len ≤ cap ∧ cap ≤ maxLen ∧ (a = none → len = 0 ∧ cap = 0) ∧
 (∀ x, a = some x → ∀ i, i < len → ∃ p q r, w.cell? (x.add (i * 3)) = some (.float .f32 p) ∧ w.cell? (x.add (i * 3 + 1)) = some (.float .f32 q) ∧ w.cell? (x.add (i * 3 + 2)) = some (.float .f32 r) ∧
  FV .f32 p (cs.getD i c0).1 ∧ FV .f32 q (cs.getD i c0).2.1 ∧ FV .f32 r (cs.getD i c0).2.2)
def IsIs (w : World) (a : Option Addr) (len cap : Nat) (zs : List Int) : Prop :=
 zs.length = len ∧ len ≤ cap ∧ cap ≤ maxLen ∧ (∀ z ∈ zs, (Lit.int .i64 z).wf = true) ∧ (a = none → len = 0 ∧ cap = 0) ∧
 (∀ x, a = some x → ∀ i, i < len → w.cell? (x.add i) = some (.int .i64 (zs.getD i 0)))
def IsTs (w : World) (a : Option Addr) (len cap : Nat) (ts : List (List Int)) : Prop :=
 ts.length = len ∧ len ≤ cap ∧ cap ≤ maxLen ∧ (a = none → len = 0 ∧ cap = 0) ∧
 (∀ x, a = some x → ∀ i, i < len → ∃ b n c, w.cell? (x.add i) = some (.slice b n c) ∧ IsIs w b n c (ts.getD i []))
section
open Go.ChangeShapes Go.WideShapes Go.Deep
variable {H : Type} {enc : TypeId × Value → H} {P : Program} {w : World} {base : Nat} {held : Bool}
theorem cells?_three {b : Nat} {a : Addr} {cs : List Value} (h : w.cells? b a 3 = some cs) : ∃ u v t, cs = [u, v, t] ∧ w.cell? a = some u ∧ w.cell? (a.add 1) = some v ∧ w.cell? (a.add 2) = some t := by
 obtain ⟨_, hl, hc⟩ := World.cells?_some h
 match cs, hl with
 | [u, v, t], _ =>
  have k0 := hc 0 (by omega)
  have k1 := hc 1 (by omega)
  have k2 := hc 2 (by omega)
  have z : a.add 0 = a := by unfold Addr.add; rfl
  rw [z] at k0
  exact ⟨u, v, t, rfl, k0, k1, k2⟩
theorem trod_ints {t e : TypeId} {fuel : Nat} {cs : List Value} {x : DataW H × List MemPlace} (ht : P.underlying t = some (.slice e)) (he : P.underlying e = some (.int .i64)) (hc : P.cellsOf e = 1)
  (h : DataW.trod enc P w base (fun _ => true) held fuel t cs = some x) : ∃ a len cap zs, cs = [.slice a len cap] ∧ IsIs w a len cap zs := by
 rcases open_ints ht he hc h with ⟨hcs, hy⟩ | ⟨a, len, cap, zs, hcs, hb, hl, hm, hz, hy, hcell, hwz⟩
 ·exact ⟨none, 0, 0, [], hcs, rfl, Nat.le_refl _, Nat.zero_le _, by simp, fun _ => ⟨rfl, rfl⟩, fun _ h => by cases h⟩
 ·simp only [if_true] at hz
  refine ⟨some a, len, cap, zs.take len, hcs, by simp; omega, hl, hm, fun z hz' => hwz z (List.mem_of_mem_take hz'), (fun h => by cases h), fun y hy' i hi => ?_⟩
  cases hy'
  rw [hcell i (by omega)]
  simp [List.getD, hi]
theorem trod_rows {t e q : TypeId} {fuel : Nat} {cs : List Value} {x : DataW H × List MemPlace} (ht : P.underlying t = some (.slice e)) (he : P.underlying e = some (.slice q)) (hq : P.underlying q = some (.int .i64))
  (ce : P.cellsOf e = 1) (cq : P.cellsOf q = 1) (h : DataW.trod enc P w base (fun _ => true) held fuel t cs = some x) : ∃ a len cap ts, cs = [.slice a len cap] ∧ IsTs w a len cap ts := by
 rcases open_int_rows ht he hq ce cq h with ⟨hcs, hy⟩ | ⟨a, len, cap, A, L, C, Z, hcs, hb, hl, hm, hx, hr⟩
 ·exact ⟨none, 0, 0, [], hcs, rfl, Nat.le_refl _, Nat.zero_le _, fun _ => ⟨rfl, rfl⟩, fun _ h => by cases h⟩
 ·refine ⟨some a, len, cap, (List.range len).map fun r => (Z r).take (L r), hcs, by simp, hl, hm, (fun h => by cases h), fun y hy' i hi => ?_⟩
  cases hy'
  obtain ⟨r1, r2, r3, r4, r5, r6, r7⟩ := hr i (by omega)
  refine ⟨A i, L i, C i, r1, ?_⟩
  have hg : ((List.range len).map fun r => (Z r).take (L r)).getD i [] = (Z i).take (L i) := by simp [List.getD, hi]
  rw [hg]
  refine ⟨by simp; omega, r2, r3, fun z hz => r5 z (List.mem_of_mem_take hz), fun h => ⟨by have := r6 h; omega, r6 h⟩, fun a' ha' c hc' => ?_⟩
  rw [(r7 a' ha').2 c (by omega)]
  simp [List.getD, hc']
theorem trod_vecs {t e : TypeId} {f0 f1 f2 : Field} {fuel : Nat} {cs : List Value} {x : DataW H × List MemPlace} (ht : P.underlying t = some (.slice e)) (hs : P.underlying e = some (.struct #[f0, f1, f2])) (hone : oneCellFields P #[f0, f1, f2] = true) (hC : P.cellsOf e = 3)
  (he0 : P.underlying f0.type = some (.float .f32)) (he1 : P.underlying f1.type = some (.float .f32)) (he2 : P.underlying f2.type = some (.float .f32))
  (h : DataW.trod enc P w base (fun _ => true) held fuel t cs = some x) : ∃ a len cap vs, cs = [.slice a len cap] ∧ IsVs w a len cap vs := by
 rcases open_slice ht h with ⟨hcs, hy⟩ | ⟨a, len, cap, m, n, D, Pl, hcs, hb, hl, hm, hmm, hx, hr⟩
 ·exact ⟨none, 0, 0, [], hcs, rfl, Nat.le_refl _, Nat.zero_le _, fun _ => ⟨rfl, rfl⟩, fun _ h => by cases h⟩
 ·simp only [if_true] at hmm
  rw [hC] at hr
  have each : ∀ i, i < len → ∃ p q r, w.cell? (a.add (i * 3)) = some (.float .f32 p) ∧ w.cell? (a.add (i * 3 + 1)) = some (.float .f32 q) ∧ w.cell? (a.add (i * 3 + 2)) = some (.float .f32 r) ∧
    p < 2 ^ FloatKind.f32.format.width ∧ q < 2 ^ FloatKind.f32.format.width ∧ r < 2 ^ FloatKind.f32.format.width := by
   intro i hi
   obtain ⟨cs', h1, h2⟩ := hr i (by omega)
   obtain ⟨u, v, t', rfl, k0, k1, k2⟩ := cells?_three h1
   obtain ⟨y0, y1, y2, n', hx', _, h0', h1', h2'⟩ := trod_struct3 hs h2
   obtain ⟨o0, q0⟩ := hone_of hone 0 f0 rfl
   obtain ⟨o1, q1⟩ := hone_of hone 1 f1 rfl
   obtain ⟨o2, q2⟩ := hone_of hone 2 f2 rfl
   obtain ⟨p, e0, w0⟩ := trod_float he0 h0'
   obtain ⟨q, e1, w1⟩ := trod_float he1 h1'
   obtain ⟨r, e2, w2⟩ := trod_float he2 h2'
   simp [o0, q0] at e0
   simp [o1, q1] at e1
   simp [o2, q2] at e2
   subst e0 e1 e2
   rw [Addr.add_add] at k1 k2
   exact ⟨p, q, r, k0, k1, k2, w0, w1, w2⟩
  let f : Nat → Nat := fun j => match w.cell? (a.add j) with | some (.float _ b) => b | _ => 0
  refine ⟨some a, len, cap, (List.range len).map fun i => (cls .f32 (f (i * 3)), cls .f32 (f (i * 3 + 1)), cls .f32 (f (i * 3 + 2))), hcs, by simp, hl, hm, (fun h => by cases h), fun y hy' i hi => ?_⟩
  cases hy'
  obtain ⟨p, q, r, k0, k1, k2, w0, w1, w2⟩ := each i hi
  have hg : ((List.range len).map fun i => (cls .f32 (f (i * 3)), cls .f32 (f (i * 3 + 1)), cls .f32 (f (i * 3 + 2)))).getD i c0 = (cls .f32 p, cls .f32 q, cls .f32 r) := by
   simp [List.getD, hi, f, k0, k1, k2]
  rw [hg]
  exact ⟨p, q, r, k0, k1, k2, FV.self w0, FV.self w1, FV.self w2⟩
end
theorem IsIs.below {W w : World} {a : Option Addr} {len cap : Nat} {zs : List Int} (hb : Below W.heap.size W w) (h : IsIs W a len cap zs) : IsIs w a len cap zs := by
 obtain ⟨h1, h2, h3, h4, h5, h6⟩ := h
 refine ⟨h1, h2, h3, h4, h5, fun x hx i hi => ?_⟩
 have hc := h6 x hx i hi
 rw [hb.cell (p := x.add i) (World.block_lt_of_cell? W _ hc)]; exact hc
theorem IsTs.below {W w : World} {a : Option Addr} {len cap : Nat} {ts : List (List Int)} (hb : Below W.heap.size W w) (h : IsTs W a len cap ts) : IsTs w a len cap ts := by
 obtain ⟨h1, h2, h3, h5, h6⟩ := h
 refine ⟨h1, h2, h3, h5, fun x hx i hi => ?_⟩
 obtain ⟨b, n, c, hc, hi'⟩ := h6 x hx i hi
 exact ⟨b, n, c, by rw [hb.cell (p := x.add i) (World.block_lt_of_cell? W _ hc)]; exact hc, hi'.below hb⟩
theorem IsVs.below {W w : World} {a : Option Addr} {len cap : Nat} {cs : List C3} (hb : Below W.heap.size W w) (h : IsVs W a len cap cs) : IsVs w a len cap cs := by
 obtain ⟨h1, h2, h3, h5, h6⟩ := h
 refine ⟨h1, h2, h3, h5, fun x hx i hi => ?_⟩
 obtain ⟨p, q, r, k0, k1, k2, hv⟩ := h6 x hx i hi
 exact ⟨p, q, r, by rw [hb.cell (p := x.add (i * 3)) (World.block_lt_of_cell? W _ k0)]; exact k0, by rw [hb.cell (p := x.add (i * 3 + 1)) (World.block_lt_of_cell? W _ k1)]; exact k1,
  by rw [hb.cell (p := x.add (i * 3 + 2)) (World.block_lt_of_cell? W _ k2)]; exact k2, hv⟩
theorem addr_add' (b o i : Nat) : (⟨b, o, none⟩ : Addr).add i = ⟨b, o + i, none⟩ := by
 unfold Addr.add
 split
 ·rename_i h; subst h; rfl
 ·rfl
theorem IsIs.some {w : World} {a : Option Addr} {len cap : Nat} {zs : List Int} (h : IsIs w a len cap zs) (hl : 0 < len) :
  ∃ b o, a = .some ⟨b, o, none⟩ ∧ ∀ i, i < len → w.cell? ⟨b, o + i, none⟩ = .some (.int .i64 (zs.getD i 0)) := by
 obtain ⟨h1, h2, h3, h4, h5, h6⟩ := h
 cases a with
 | none => have := (h5 rfl).1; omega
 | some x =>
  obtain ⟨b, o, spot⟩ := x
  have hc := h6 _ rfl 0 hl
  have hspot : spot = none := by simpa [Addr.add] using World.cell?_spot hc
  subst hspot
  exact ⟨b, o, rfl, fun i hi => by have := h6 _ rfl i hi; rwa [addr_add'] at this⟩
theorem IsTs.some {w : World} {a : Option Addr} {len cap : Nat} {ts : List (List Int)} (h : IsTs w a len cap ts) (hl : 0 < len) :
  ∃ b o, a = .some ⟨b, o, none⟩ ∧ ∀ i, i < len → ∃ r n c, w.cell? ⟨b, o + i, none⟩ = .some (.slice r n c) ∧ IsIs w r n c (ts.getD i []) := by
 obtain ⟨h1, h2, h3, h5, h6⟩ := h
 cases a with
 | none => have := (h5 rfl).1; omega
 | some x =>
  obtain ⟨b, o, spot⟩ := x
  obtain ⟨_, _, _, hc, _⟩ := h6 _ rfl 0 hl
  have hspot : spot = none := by simpa [Addr.add] using World.cell?_spot hc
  subst hspot
  exact ⟨b, o, rfl, fun i hi => by have := h6 _ rfl i hi; rwa [addr_add'] at this⟩
theorem IsVs.some {w : World} {a : Option Addr} {len cap : Nat} {cs : List C3} (h : IsVs w a len cap cs) (hl : 0 < len) :
  ∃ b o, a = .some ⟨b, o, none⟩ ∧ ∀ i, i < len → ∃ p q r, w.cell? ⟨b, o + i * 3, none⟩ = .some (.float .f32 p) ∧ w.cell? ⟨b, o + i * 3 + 1, none⟩ = .some (.float .f32 q) ∧ w.cell? ⟨b, o + i * 3 + 2, none⟩ = .some (.float .f32 r) ∧
   FV .f32 p (cs.getD i c0).1 ∧ FV .f32 q (cs.getD i c0).2.1 ∧ FV .f32 r (cs.getD i c0).2.2 := by
 obtain ⟨h1, h2, h3, h5, h6⟩ := h
 cases a with
 | none => have := (h5 rfl).1; omega
 | some x =>
  obtain ⟨b, o, spot⟩ := x
  obtain ⟨_, _, _, hc, _⟩ := h6 _ rfl 0 hl
  have hspot : spot = none := by simpa [Addr.add] using World.cell?_spot hc
  subst hspot
  refine ⟨b, o, rfl, fun i hi => ?_⟩
  have := h6 _ rfl i hi
  rwa [addr_add', addr_add', addr_add', ← Nat.add_assoc, ← Nat.add_assoc] at this
end Fk
end Go.Proofs.YtabccmobmppdnaaGreat
namespace Go.Proofs.YtabccmobmppdnaaGreat
namespace Fk
open Go Go.RowKit
set_option linter.unusedVariables false
abbrev SC := Int × Int × Option Nat × Option Nat
abbrev s0 : SC := (0, 0, none, none)
def IsSs (w : World) (a : Option Addr) (len cap : Nat) (ss : List SC) : Prop :=
 ss.length = len ∧ len ≤ cap ∧ cap ≤ maxLen ∧ (∀ s ∈ ss, (Lit.int .i64 s.1).wf = true ∧ (Lit.int .i64 s.2.1).wf = true) ∧ (a = none → len = 0 ∧ cap = 0) ∧
 (∀ x, a = some x → ∀ i, i < len → ∃ p q, w.cell? (x.add (i * 4)) = some (.int .i64 (ss.getD i s0).1) ∧ w.cell? (x.add (i * 4 + 1)) = some (.int .i64 (ss.getD i s0).2.1) ∧ w.cell? (x.add (i * 4 + 2)) = some (.float .f32 p) ∧ w.cell? (x.add (i * 4 + 3)) = some (.float .f32 q) ∧
  FV .f32 p (ss.getD i s0).2.2.1 ∧ FV .f32 q (ss.getD i s0).2.2.2)
theorem IsSs.below {W w : World} {a : Option Addr} {len cap : Nat} {ss : List SC} (hb : Below W.heap.size W w) (h : IsSs W a len cap ss) : IsSs w a len cap ss := by
 obtain ⟨h1, h2, h3, h4, h5, h6⟩ := h
 refine ⟨h1, h2, h3, h4, h5, fun x hx i hi => ?_⟩
 obtain ⟨p, q, k0, k1, k2, k3, hv⟩ := h6 x hx i hi
 exact ⟨p, q, by rw [hb.cell (p := x.add (i * 4)) (World.block_lt_of_cell? W _ k0)]; exact k0, by rw [hb.cell (p := x.add (i * 4 + 1)) (World.block_lt_of_cell? W _ k1)]; exact k1,
  by rw [hb.cell (p := x.add (i * 4 + 2)) (World.block_lt_of_cell? W _ k2)]; exact k2, by rw [hb.cell (p := x.add (i * 4 + 3)) (World.block_lt_of_cell? W _ k3)]; exact k3, hv⟩
theorem IsSs.some {w : World} {a : Option Addr} {len cap : Nat} {ss : List SC} (h : IsSs w a len cap ss) (hl : 0 < len) :
  ∃ b o, a = .some ⟨b, o, none⟩ ∧ ∀ i, i < len → ∃ p q, w.cell? ⟨b, o + i * 4, none⟩ = .some (.int .i64 (ss.getD i s0).1) ∧ w.cell? ⟨b, o + i * 4 + 1, none⟩ = .some (.int .i64 (ss.getD i s0).2.1) ∧ w.cell? ⟨b, o + i * 4 + 2, none⟩ = .some (.float .f32 p) ∧ w.cell? ⟨b, o + i * 4 + 3, none⟩ = .some (.float .f32 q) ∧
   FV .f32 p (ss.getD i s0).2.2.1 ∧ FV .f32 q (ss.getD i s0).2.2.2 := by
 obtain ⟨h1, h2, h3, h4, h5, h6⟩ := h
 cases a with
 | none => have := (h5 rfl).1; omega
 | some x =>
  obtain ⟨b, o, spot⟩ := x
  obtain ⟨_, _, hc, _⟩ := h6 _ rfl 0 hl
  have hspot : spot = none := by simpa [Addr.add] using World.cell?_spot hc
  subst hspot
  refine ⟨b, o, rfl, fun i hi => ?_⟩
  have := h6 _ rfl i hi
  rwa [addr_add', addr_add', addr_add', addr_add', ← Nat.add_assoc, ← Nat.add_assoc, ← Nat.add_assoc] at this
section
open Go.ChangeShapes Go.WideShapes Go.Deep
variable {H : Type} {enc : TypeId × Value → H} {P : Program} {w : World} {base : Nat} {held : Bool}
theorem cells?_four {b : Nat} {a : Addr} {cs : List Value} (h : w.cells? b a 4 = some cs) : ∃ u v t s, cs = [u, v, t, s] ∧ w.cell? a = some u ∧ w.cell? (a.add 1) = some v ∧ w.cell? (a.add 2) = some t ∧ w.cell? (a.add 3) = some s := by
 obtain ⟨_, hl, hc⟩ := World.cells?_some h
 match cs, hl with
 | [u, v, t, s], _ =>
  have k0 := hc 0 (by omega)
  have k1 := hc 1 (by omega)
  have k2 := hc 2 (by omega)
  have k3 := hc 3 (by omega)
  have z : a.add 0 = a := by unfold Addr.add; rfl
  rw [z] at k0
  exact ⟨u, v, t, s, rfl, k0, k1, k2, k3⟩
theorem trod_springs {t e : TypeId} {f0 f1 f2 f3 : Field} {fuel : Nat} {cs : List Value} {x : DataW H × List MemPlace} (ht : P.underlying t = some (.slice e)) (hs : P.underlying e = some (.struct #[f0, f1, f2, f3])) (hone : oneCellFields P #[f0, f1, f2, f3] = true) (hC : P.cellsOf e = 4)
  (he0 : P.underlying f0.type = some (.int .i64)) (he1 : P.underlying f1.type = some (.int .i64)) (he2 : P.underlying f2.type = some (.float .f32)) (he3 : P.underlying f3.type = some (.float .f32))
  (h : DataW.trod enc P w base (fun _ => true) held fuel t cs = some x) : ∃ a len cap ss, cs = [.slice a len cap] ∧ IsSs w a len cap ss := by
 rcases open_slice ht h with ⟨hcs, hy⟩ | ⟨a, len, cap, m, n, D, Pl, hcs, hb, hl, hm, hmm, hx, hr⟩
 ·exact ⟨none, 0, 0, [], hcs, rfl, Nat.le_refl _, Nat.zero_le _, by simp, fun _ => ⟨rfl, rfl⟩, fun _ h => by cases h⟩
 ·simp only [if_true] at hmm
  rw [hC] at hr
  have each : ∀ i, i < len → ∃ (u v : Int) (p q : Nat), w.cell? (a.add (i * 4)) = some (.int .i64 u) ∧ w.cell? (a.add (i * 4 + 1)) = some (.int .i64 v) ∧ w.cell? (a.add (i * 4 + 2)) = some (.float .f32 p) ∧ w.cell? (a.add (i * 4 + 3)) = some (.float .f32 q) ∧
    (Lit.int .i64 u).wf = true ∧ (Lit.int .i64 v).wf = true ∧ p < 2 ^ FloatKind.f32.format.width ∧ q < 2 ^ FloatKind.f32.format.width := by
   intro i hi
   obtain ⟨cs', h1, h2⟩ := hr i (by omega)
   obtain ⟨c0, c1, c2, c3, rfl, k0, k1, k2, k3⟩ := cells?_four h1
   obtain ⟨y0, y1, y2, y3, n', hx', _, h0', h1', h2', h3'⟩ := Joins.trod_struct4 hs h2
   obtain ⟨o0, q0⟩ := hone_of hone 0 f0 rfl
   obtain ⟨o1, q1⟩ := hone_of hone 1 f1 rfl
   obtain ⟨o2, q2⟩ := hone_of hone 2 f2 rfl
   obtain ⟨o3, q3⟩ := hone_of hone 3 f3 rfl
   obtain ⟨u, e0, _, w0⟩ := DataW.trod_int he0 h0'
   obtain ⟨v, e1, _, w1⟩ := DataW.trod_int he1 h1'
   obtain ⟨p, e2, w2⟩ := trod_float he2 h2'
   obtain ⟨q, e3, w3⟩ := trod_float he3 h3'
   simp [o0, q0] at e0
   simp [o1, q1] at e1
   simp [o2, q2] at e2
   simp [o3, q3] at e3
   subst e0 e1 e2 e3
   rw [Addr.add_add] at k1 k2 k3
   exact ⟨u, v, p, q, k0, k1, k2, k3, w0, w1, w2, w3⟩
  let fi : Nat → Int := fun j => match w.cell? (a.add j) with | some (.int _ b) => b | _ => 0
  let f : Nat → Nat := fun j => match w.cell? (a.add j) with | some (.float _ b) => b | _ => 0
  have hg : ∀ i, i < len → ((List.range len).map fun i => ((fi (i * 4), fi (i * 4 + 1), cls .f32 (f (i * 4 + 2)), cls .f32 (f (i * 4 + 3))) : SC)).getD i s0 = (fi (i * 4), fi (i * 4 + 1), cls .f32 (f (i * 4 + 2)), cls .f32 (f (i * 4 + 3))) := by
   intro i hi
   simp [List.getD, hi]
  refine ⟨some a, len, cap, (List.range len).map fun i => (fi (i * 4), fi (i * 4 + 1), cls .f32 (f (i * 4 + 2)), cls .f32 (f (i * 4 + 3))), hcs, by simp, hl, hm, ?_, (fun h => by cases h), fun y hy' i hi => ?_⟩
  ·intro s hs'
   obtain ⟨i, hi, rfl⟩ := List.mem_map.1 hs'
   obtain ⟨u, v, p, q, k0, k1, k2, k3, w0, w1, w2, w3⟩ := each i (List.mem_range.1 hi)
   simp [fi, k0, k1, w0, w1]
  cases hy'
  obtain ⟨u, v, p, q, k0, k1, k2, k3, w0, w1, w2, w3⟩ := each i hi
  rw [hg i hi]
  have g0 : fi (i * 4) = u := by simp [fi, k0]
  have g1 : fi (i * 4 + 1) = v := by simp [fi, k1]
  have g2 : f (i * 4 + 2) = p := by simp [f, k2]
  have g3 : f (i * 4 + 3) = q := by simp [f, k3]
  rw [g0, g1, g2, g3]
  exact ⟨p, q, k0, k1, k2, k3, FV.self w2, FV.self w3⟩
theorem array9 {α : Type} {cs : Array α} (h : cs.size = 9) : ∃ c0 c1 c2 c3 c4 c5 c6 c7 c8, cs = #[c0, c1, c2, c3, c4, c5, c6, c7, c8] := by
 obtain ⟨l⟩ := cs
 match l, h with
 | [c0, c1, c2, c3, c4, c5, c6, c7, c8], _ => exact ⟨c0, c1, c2, c3, c4, c5, c6, c7, c8, rfl⟩
theorem trod_struct6 {t : TypeId} {f0 f1 f2 f3 f4 f5 : Field} {spare : Nat → Bool} {fuel : Nat} {cs : List Value} {x : DataW H × List MemPlace} (ht : P.underlying t = some (.struct #[f0, f1, f2, f3, f4, f5])) (h : DataW.trod enc P w base spare held fuel t cs = some x) :
  ∃ y0 y1 y2 y3 y4 y5 n, DataW.trod enc P w base spare held n f0.type ((cs.drop f0.offset).take (P.cellsOf f0.type)) = some y0 ∧
   DataW.trod enc P w base spare held n f1.type ((cs.drop f1.offset).take (P.cellsOf f1.type)) = some y1 ∧ DataW.trod enc P w base spare held n f2.type ((cs.drop f2.offset).take (P.cellsOf f2.type)) = some y2 ∧
   DataW.trod enc P w base spare held n f3.type ((cs.drop f3.offset).take (P.cellsOf f3.type)) = some y3 ∧ DataW.trod enc P w base spare held n f4.type ((cs.drop f4.offset).take (P.cellsOf f4.type)) = some y4 ∧ DataW.trod enc P w base spare held n f5.type ((cs.drop f5.offset).take (P.cellsOf f5.type)) = some y5 := by
 obtain ⟨xs, n, _, rfl, hl, hlen, hf⟩ := DataW.trod_struct ht h
 match xs, hlen with
 | [y0, y1, y2, y3, y4, y5], _ => exact ⟨y0, y1, y2, y3, y4, y5, n, by simpa using hf 0 f0 rfl, by simpa using hf 1 f1 rfl, by simpa using hf 2 f2 rfl, by simpa using hf 3 f3 rfl, by simpa using hf 4 f4 rfl, by simpa using hf 5 f5 rfl⟩
theorem trod_floats {t e : TypeId} {fuel : Nat} {cs : List Value} {x : DataW H × List MemPlace} (ht : P.underlying t = some (.slice e)) (he : P.underlying e = some (.float .f32)) (hc : P.cellsOf e = 1)
  (h : DataW.trod enc P w base (fun _ => true) held fuel t cs = some x) : ∃ a len cap zs, cs = [.slice a len cap] ∧ IsFs .f32 w a len cap zs := by
 obtain ⟨a, len, cap, rfl⟩ := Joins.slice_form ht h
 obtain ⟨zs, hz⟩ := open_floats ht he hc ⟨fuel, h⟩
 exact ⟨a, len, cap, zs, rfl, hz⟩
theorem open_body {r : Reach} {b0 : Nat} {t : TypeId} {g0 g1 g2 g3 g4 g5 : Field} {m0 m1 : Field} {ev eq : TypeId} {f0 f1 f2 : Field} {er : TypeId} {es : TypeId} {q0 q1 q2 q3 : Field} {ew : TypeId} {v0 v1 v2 : Field} {v : Value} {d : DataW H} {p : List MemPlace}
  (hs : P.underlying t = some (.struct #[g0, g1, g2, g3, g4, g5])) (hoff : [g0.offset, g1.offset, g2.offset, g3.offset, g4.offset, g5.offset] = [0, 2, 3, 4, 5, 6]) (hcl : [P.cellsOf g0.type, P.cellsOf g1.type, P.cellsOf g2.type, P.cellsOf g3.type, P.cellsOf g4.type, P.cellsOf g5.type] = [2, 1, 1, 1, 1, 3]) (hC : P.cellsOf t = 9)
  (hm : P.underlying g0.type = some (.struct #[m0, m1])) (honem : oneCellFields P #[m0, m1] = true)
  (hp : P.underlying m0.type = some (.slice ev)) (hev : P.underlying ev = some (.struct #[f0, f1, f2])) (honev : oneCellFields P #[f0, f1, f2] = true) (hCv : P.cellsOf ev = 3)
  (he0 : P.underlying f0.type = some (.float .f32)) (he1 : P.underlying f1.type = some (.float .f32)) (he2 : P.underlying f2.type = some (.float .f32))
  (ht : P.underlying m1.type = some (.slice er)) (her : P.underlying er = some (.slice eq)) (heq : P.underlying eq = some (.int .i64)) (ce : P.cellsOf er = 1) (cq : P.cellsOf eq = 1)
  (hsp : P.underlying g1.type = some (.slice es)) (hes : P.underlying es = some (.struct #[q0, q1, q2, q3])) (hones : oneCellFields P #[q0, q1, q2, q3] = true) (hCs : P.cellsOf es = 4)
  (hq0 : P.underlying q0.type = some (.int .i64)) (hq1 : P.underlying q1.type = some (.int .i64)) (hq2 : P.underlying q2.type = some (.float .f32)) (hq3 : P.underlying q3.type = some (.float .f32))
  (hf : P.underlying g2.type = some (.float .f32)) (hb : P.underlying g3.type = some (.float .f32))
  (hw : P.underlying g4.type = some (.slice ew)) (hew : P.underlying ew = some (.float .f32)) (cw : P.cellsOf ew = 1)
  (hv5 : P.underlying g5.type = some (.struct #[v0, v1, v2])) (honev5 : oneCellFields P #[v0, v1, v2] = true)
  (hv0 : P.underlying v0.type = some (.float .f32)) (hv1 : P.underlying v1.type = some (.float .f32)) (hv2 : P.underlying v2.type = some (.float .f32))
  (hv : Value.okWide P w r b0 t v) (h : DataW.Trod enc P w base (fun _ => true) held t v d p) :
  ∃ pa ta sa wa pl pc tl tc sl sc wl wc cs ts ss zs film bend x y z, v = .agg #[.slice pa pl pc, .slice ta tl tc, .slice sa sl sc, .float .f32 film, .float .f32 bend, .slice wa wl wc, .float .f32 x, .float .f32 y, .float .f32 z] ∧
   IsVs w pa pl pc cs ∧ IsTs w ta tl tc ts ∧ IsSs w sa sl sc ss ∧ IsFs .f32 w wa wl wc zs ∧ (film < 2 ^ FloatKind.f32.format.width ∧ bend < 2 ^ FloatKind.f32.format.width ∧ x < 2 ^ FloatKind.f32.format.width ∧ y < 2 ^ FloatKind.f32.format.width ∧ z < 2 ^ FloatKind.f32.format.width) := by
 obtain ⟨cs, rfl, hsz⟩ := okWide_struct hs hv
 obtain ⟨c0, c1, c2, c3, c4, c5, c6, c7, c8, rfl⟩ := array9 (hsz.trans hC)
 obtain ⟨fuel, hfu⟩ := h
 obtain ⟨y0, y1, y2, y3, y4, y5, n, h0, h1, h2, h3, h4, h5⟩ := trod_struct6 hs hfu
 simp only [List.cons.injEq, and_true] at hoff hcl
 obtain ⟨o0, o1, o2, o3, o4, o5⟩ := hoff
 obtain ⟨l0, l1, l2, l3, l4, l5⟩ := hcl
 rw [o0, l0] at h0
 rw [o1, l1] at h1
 rw [o2, l2] at h2
 rw [o3, l3] at h3
 rw [o4, l4] at h4
 rw [o5, l5] at h5
 simp [Value.cells] at h0 h1 h2 h3 h4 h5
 obtain ⟨u0, u1, n1, _, _, i0, i1⟩ := trod_struct2 hm h0
 obtain ⟨a0, b0'⟩ := hone_of honem 0 m0 rfl
 obtain ⟨a1, b1'⟩ := hone_of honem 1 m1 rfl
 rw [a0, b0'] at i0
 rw [a1, b1'] at i1
 simp at i0 i1
 obtain ⟨pa, pl, pc, cs, e0, w0⟩ := trod_vecs hp hev honev hCv he0 he1 he2 i0
 obtain ⟨ta, tl, tc, ts, e1, w1⟩ := trod_rows ht her heq ce cq i1
 obtain ⟨sa, sl, sc, ss, e2, w2⟩ := trod_springs hsp hes hones hCs hq0 hq1 hq2 hq3 h1
 obtain ⟨film, e3, w3⟩ := trod_float hf h2
 obtain ⟨bend, e4, w4⟩ := trod_float hb h3
 obtain ⟨wa, wl, wc, zs, e5, w5⟩ := trod_floats hw hew cw h4
 obtain ⟨k0, k1, k2, n2, _, _, j0, j1, j2⟩ := trod_struct3 hv5 h5
 obtain ⟨p0, r0⟩ := hone_of honev5 0 v0 rfl
 obtain ⟨p1, r1⟩ := hone_of honev5 1 v1 rfl
 obtain ⟨p2, r2⟩ := hone_of honev5 2 v2 rfl
 rw [p0, r0] at j0
 rw [p1, r1] at j1
 rw [p2, r2] at j2
 simp at j0 j1 j2
 obtain ⟨x, e6, w6⟩ := trod_float hv0 j0
 obtain ⟨y, e7, w7⟩ := trod_float hv1 j1
 obtain ⟨z, e8, w8⟩ := trod_float hv2 j2
 cases e0; cases e1; cases e2; cases e3; cases e4; cases e5; cases e6; cases e7; cases e8
 exact ⟨pa, ta, sa, wa, pl, pc, tl, tc, sl, sc, wl, wc, cs, ts, ss, zs, film, bend, x, y, z, rfl, w0, w1, w2, w5, w3, w4, w6, w7, w8⟩
end
end Fk
end Go.Proofs.YtabccmobmppdnaaGreat
namespace Go.Proofs.YtabccmobmppdnaaGreat
open Go Fk Go.RowKit
set_option linter.unusedVariables false
theorem laws_szInt64S (a : Option Addr) (len cap : Nat) (left : Int) (w : World) (h0 : 0 ≤ left) (h1 : left ≤ 1048576) (h2 : len ≤ 9223372036854775807) :
  Calls Tryz.prog 163 #[.slice a len cap, .int .i64 left] w fun e w' => (∃ r : Int, e = .returned (.int .i64 r) ∧ (r = -1 ∨ (0 ≤ r ∧ r ≤ 1048576 ∧ len ≤ 1048576))) ∧ w' = w := by
 by_cases h : left < len
 ·go_enter Tryz.func163, Tryz.ntmps163
  go_wp2
  go_ret
  exact ⟨⟨-1, rfl, .inl rfl⟩, rfl⟩
 ·go_enter Tryz.func163, Tryz.ntmps163
  go_wp2
  go_ret
  exact ⟨⟨_, rfl, .inr ⟨by omega, by omega, by omega⟩⟩, rfl⟩
theorem laws_szVectorS (a : Option Addr) (len cap : Nat) (left : Int) (w : World) (h0 : 0 ≤ left) (h1 : left ≤ 1048576) (h2 : len ≤ 9223372036854775807) :
  Calls Tryz.prog 16 #[.slice a len cap, .int .i64 left] w fun e w' => (∃ r : Int, e = .returned (.int .i64 r) ∧ (r = -1 ∨ (0 ≤ r ∧ r ≤ 1048576 ∧ len ≤ 1048576))) ∧ w' = w := by
 by_cases h : left < len
 ·go_enter Tryz.func16, Tryz.ntmps16
  go_wp2
  go_ret
  exact ⟨⟨-1, rfl, .inl rfl⟩, rfl⟩
 ·go_enter Tryz.func16, Tryz.ntmps16
  go_wp2
  go_ret
  exact ⟨⟨_, rfl, .inr ⟨by omega, by omega, by omega⟩⟩, rfl⟩
end Go.Proofs.YtabccmobmppdnaaGreat

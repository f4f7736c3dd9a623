/-
Texts in one: what StfS stands on, part 0. Conditions: those of each.
-/
import Derived.WalkKit
import Derived.WalkLawsBesides
import Derived.Deep.Draws
import Derived.ChangeSlices
import Derived.Lib.SmallJoins
import Derived.Below
import Derived.Deep.Matrix
import Derived.Test.YtabccmobmppdnaaGreatChecked
import Derived.LoopTactic
import Derived.IntWalk
import Derived.Laws.MakeOwn
import Derived.Lib.Hide
import Derived.Orders
import Derived.BigFrame
import Derived.Deep.LoopGhost
import Derived.Outline
import Derived.Laws.Externs
import Derived.Deep.RegionHeld3
import Derived.Deep.QuietTactic
import Derived.BigQuiet
-- halved
namespace Go.Proofs.YtabccmobmppdnaaGreat
namespace Fk
open Go
def cls (k : FloatKind) (b : Nat) : Option Nat := if (k.decode b).isNaN then none else some b
def FV (k : FloatKind) (b : Nat) (c : Option Nat) : Prop := b < 2 ^ k.format.width ∧ cls k b = c
theorem FV.self {k : FloatKind} {b : Nat} (h : b < 2 ^ k.format.width) : FV k b (cls k b) := ⟨h, rfl⟩
theorem FV.num {k : FloatKind} {b x : Nat} (h : FV k b (some x)) : b = x := by
 have := h.2; unfold cls at this; split at this
 ·cases this
 ·exact Option.some.inj this
theorem FV.nan {k : FloatKind} {b : Nat} (h : FV k b none) : (k.decode b).isNaN = true := by
 have := h.2; unfold cls at this; split at this
 ·assumption
 ·cases this
theorem cls_nan {k : FloatKind} {b : Nat} (h : (k.decode b).isNaN = true) : cls k b = none := by unfold cls; rw [if_pos h]
theorem cls_num {k : FloatKind} {b : Nat} (h : (k.decode b).isNaN = false) : cls k b = some b := by unfold cls; rw [if_neg (by simp [h])]
theorem FV.notnan {k : FloatKind} {b x : Nat} (h : FV k b (some x)) : (k.decode b).isNaN = false := by
 cases hn : (k.decode b).isNaN
 ·rfl
 ·have := h.2; rw [cls_nan hn] at this; cases this
theorem isNaN_read (f : Ieee.Format) (hb : f.binade ≤ f.infRung) (b : Nat) : (f.read b).isNaN = decide (f.infRung < b % f.signWeight) := by
 unfold Ieee.Format.read
 dsimp only
 split
 ·simp [Ieee.Datum.isNaN]; omega
 ·split
  ·simp [Ieee.Datum.isNaN]; omega
  ·split
   ·simp [Ieee.Datum.isNaN]; omega
   ·simp [Ieee.Datum.isNaN]; omega
theorem isNaN_decode (k : FloatKind) (b : Nat) : (k.decode b).isNaN = decide (k.format.infRung < b % k.format.signWeight) :=
 isNaN_read _ (by cases k <;> decide) b
theorem word_mod (f : Ieee.Format) (s : Bool) (r : Nat) (h : r < f.signWeight) : f.word s r % f.signWeight = r := by
 unfold Ieee.Format.word
 split
 ·rw [Nat.add_mod_left, Nat.mod_eq_of_lt h]
 ·exact Nat.mod_eq_of_lt h
theorem nearest_word (f : Ieee.Format) (s : Bool) (m : Nat) (p : Int) : ∃ r, r ≤ f.infRung ∧ f.nearest s m p = f.word s r := by
 unfold Ieee.Format.nearest
 dsimp only
 split
 ·exact ⟨0, Nat.zero_le _, rfl⟩
 ·exact ⟨_, Nat.min_le_right _ _, rfl⟩
theorem isNaN_write (k : FloatKind) (d : Ieee.Datum) (h : d.isNaN = false) : (k.decode (k.format.write d)).isNaN = false := by
 rw [isNaN_decode]
 have hlt := k.format.infRung_lt
 cases d with
 | nan s t => simp [Ieee.Datum.isNaN] at h
 | infinity s =>
  show decide (k.format.infRung < k.format.word s k.format.infRung % k.format.signWeight) = false
  rw [word_mod _ _ _ hlt]; simp
 | number s m p =>
  obtain ⟨r, hr, he⟩ := nearest_word k.format s m p
  show decide (k.format.infRung < k.format.nearest s m p % k.format.signWeight) = false
  rw [he, word_mod _ _ _ (by omega)]; simp; omega
theorem sum_ok {x y d : Ieee.Datum} (h : x.sum y = some d) : x.isNaN = false ∧ y.isNaN = false ∧ d.isNaN = false := by
 cases x <;> cases y <;> simp_all [Ieee.Datum.sum, Ieee.Datum.isNaN] <;> first | (subst h; rfl) | (obtain ⟨_, rfl⟩ := h; rfl)
theorem product_ok {x y d : Ieee.Datum} (h : x.product y = some d) : x.isNaN = false ∧ y.isNaN = false ∧ d.isNaN = false := by
 cases x <;> cases y <;> simp_all [Ieee.Datum.product, Ieee.Datum.isNaN] <;> first | (subst h; rfl) | (obtain ⟨_, rfl⟩ := h; rfl)
theorem quotient_ok {n : Nat} {x y d : Ieee.Datum} (h : x.quotient n y = some d) : x.isNaN = false ∧ y.isNaN = false ∧ d.isNaN = false := by
 cases x <;> cases y <;> simp_all [Ieee.Datum.quotient, Ieee.Datum.isNaN] <;> first | (subst h; rfl) | skip
 split at h
 ·split at h
  ·cases h
  ·cases h; rfl
 ·cases h; rfl
theorem opposite_nan (x : Ieee.Datum) : x.opposite.isNaN = x.isNaN := by cases x <;> rfl
theorem floatBits_ok {op : BinOp} {k : FloatKind} {x y r : Nat} (h : floatBits op k x y = some r) :
  (k.decode x).isNaN = false ∧ (k.decode y).isNaN = false ∧ (k.decode r).isNaN = false ∧ r < 2 ^ k.format.width := by
 unfold floatBits at h
 split at h
 ·refine have e := h; ?_
  unfold Ieee.Format.add at h
  obtain ⟨d, hd, rfl⟩ := Option.map_eq_some_iff.1 h
  have := sum_ok hd
  exact ⟨this.1, this.2.1, isNaN_write k d this.2.2, k.format.add_lt e⟩
 ·refine have e := h; ?_
  unfold Ieee.Format.sub at h
  obtain ⟨d, hd, rfl⟩ := Option.map_eq_some_iff.1 h
  have := sum_ok hd
  exact ⟨this.1, by rw [← opposite_nan]; exact this.2.1, isNaN_write k d this.2.2, k.format.sub_lt e⟩
 ·refine have e := h; ?_
  unfold Ieee.Format.mul at h
  obtain ⟨d, hd, rfl⟩ := Option.map_eq_some_iff.1 h
  have := product_ok hd
  exact ⟨this.1, this.2.1, isNaN_write k d this.2.2, k.format.mul_lt e⟩
 ·refine have e := h; ?_
  unfold Ieee.Format.div at h
  obtain ⟨d, hd, rfl⟩ := Option.map_eq_some_iff.1 h
  have := quotient_ok hd
  exact ⟨this.1, this.2.1, isNaN_write k d this.2.2, k.format.div_lt e⟩
 ·cases h
def fop (op : BinOp) (k : FloatKind) : Option Nat → Option Nat → Option Nat
 | some x, some y => floatBits op k x y
 | _, _ => none
def fR (op : BinOp) (k : FloatKind) (x y : Nat) (w : World) : Nat :=
 match floatBits op k x y with
 | some r => r
 | none => (Question.nanBits k x y).cut (w.tape w.drawn (.nanBits k x y))
def fN (op : BinOp) (k : FloatKind) (x y : Nat) : Nat :=
 match floatBits op k x y with
 | some _ => 0
 | none => 1
theorem cut_nan (k : FloatKind) (x y t : Nat) : ((Question.nanBits k x y).cut t) < 2 ^ k.format.width ∧ (k.decode ((Question.nanBits k x y).cut t)).isNaN = true := by
 rw [isNaN_decode]
 cases k
 ·have e1 : FloatKind.f32.format.infRung = 2139095040 := by decide
  have e2 : FloatKind.f32.format.signWeight = 2147483648 := by decide
  have e3 : 2 ^ FloatKind.f32.format.width = 4294967296 := by decide
  rw [e1, e2, e3]
  have e : (Question.nanBits .f32 x y).cut t = (t % 2) * 2147483648 + 2139095041 + (t / 2) % 8388607 := by
   have e' : (Question.nanBits .f32 x y).cut t = (t % 2) * 2 ^ 31 + 0x7f800000 + 1 + (t / 2) % (2 ^ 23 - 1) := rfl
   refine e'.trans ?_
   omega
  rw [e]
  refine ⟨by omega, ?_⟩
  rw [decide_eq_true_iff, show (t % 2) * 2147483648 + 2139095041 + (t / 2) % 8388607 = (2139095041 + (t / 2) % 8388607) + 2147483648 * (t % 2) by omega, Nat.add_mul_mod_self_left, Nat.mod_eq_of_lt (by omega)]
  omega
 ·have e1 : FloatKind.f64.format.infRung = 9218868437227405312 := by decide
  have e2 : FloatKind.f64.format.signWeight = 9223372036854775808 := by decide
  have e3 : 2 ^ FloatKind.f64.format.width = 18446744073709551616 := by decide
  rw [e1, e2, e3]
  have e : (Question.nanBits .f64 x y).cut t = (t % 2) * 9223372036854775808 + 9218868437227405313 + (t / 2) % 4503599627370495 := by
   have e' : (Question.nanBits .f64 x y).cut t = (t % 2) * 2 ^ 63 + 0x7ff0000000000000 + 1 + (t / 2) % (2 ^ 52 - 1) := rfl
   refine e'.trans ?_
   omega
  rw [e]
  refine ⟨by omega, ?_⟩
  rw [decide_eq_true_iff, show (t % 2) * 9223372036854775808 + 9218868437227405313 + (t / 2) % 4503599627370495 = (9218868437227405313 + (t / 2) % 4503599627370495) + 9223372036854775808 * (t % 2) by omega, Nat.add_mul_mod_self_left, Nat.mod_eq_of_lt (by omega)]
  omega
theorem cutConv_nan (k : FloatKind) (x t : Nat) : ((Question.nanConv k x).cut t) < 2 ^ k.format.width ∧ (k.decode ((Question.nanConv k x).cut t)).isNaN = true := by
 have : (Question.nanConv k x).cut t = (Question.nanBits k 0 0).cut t := by cases k <;> rfl
 rw [this]; exact cut_nan k 0 0 t
theorem FV_fR {op : BinOp} {k : FloatKind} {x y : Nat} {w : World} {cx cy : Option Nat} (hx : FV k x cx) (hy : FV k y cy) : FV k (fR op k x y w) (fop op k cx cy) := by
 unfold fR
 cases hf : floatBits op k x y with
 | some r =>
  obtain ⟨h1, h2, h3, h4⟩ := floatBits_ok hf
  have ex : cx = some x := by rw [← hx.2, cls_num h1]
  have ey : cy = some y := by rw [← hy.2, cls_num h2]
  subst ex ey
  exact ⟨h4, by rw [cls_num h3]; exact hf.symm⟩
 | none =>
  have hc := cut_nan k x y (w.tape w.drawn (.nanBits k x y))
  refine ⟨hc.1, ?_⟩
  rw [cls_nan hc.2]
  cases cx with
  | none => rfl
  | some a =>
   cases cy with
   | none => rfl
   | some b =>
    obtain rfl := hx.num
    obtain rfl := hy.num
    exact hf.symm
section
variable {P : Program} (w : World)
theorem run_fR (op : BinOp) (t : TypeId) (k : FloatKind) (x y : Nat) (h : op = .add ∨ op = .sub ∨ op = .mul ∨ op = .quo) :
  (binOp op t (.float k x) (.float k y)).run P w = .ok (.float k (fR op k x y w)) (w.drewN (fN op k x y)) := by
 unfold fR fN
 cases hf : floatBits op k x y with
 | some r => exact run_float_arith w op t k x y r hf
 | none =>
  have hq : (Question.nanBits k x y).forced = false := rfl
  rcases h with rfl | rfl | rfl | rfl <;> simp only [floatBits] at hf <;> simp [binOp, Op.floatArith, hf, hq] <;> rfl
@[go_sem] theorem run_fR_add (t : TypeId) (k : FloatKind) (x y : Nat) : (binOp .add t (.float k x) (.float k y)).run P w = .ok (.float k (fR .add k x y w)) (w.drewN (fN .add k x y)) := run_fR w _ _ _ _ _ (by simp)
@[go_sem] theorem run_fR_sub (t : TypeId) (k : FloatKind) (x y : Nat) : (binOp .sub t (.float k x) (.float k y)).run P w = .ok (.float k (fR .sub k x y w)) (w.drewN (fN .sub k x y)) := run_fR w _ _ _ _ _ (by simp)
@[go_sem] theorem run_fR_mul (t : TypeId) (k : FloatKind) (x y : Nat) : (binOp .mul t (.float k x) (.float k y)).run P w = .ok (.float k (fR .mul k x y w)) (w.drewN (fN .mul k x y)) := run_fR w _ _ _ _ _ (by simp)
@[go_sem] theorem run_fR_quo (t : TypeId) (k : FloatKind) (x y : Nat) : (binOp .quo t (.float k x) (.float k y)).run P w = .ok (.float k (fR .quo k x y w)) (w.drewN (fN .quo k x y)) := run_fR w _ _ _ _ _ (by simp)
end
theorem order_nan {k : FloatKind} {x y : Nat} (h : (k.decode x).isNaN = true ∨ (k.decode y).isNaN = true) : k.format.order x y = none := by
 unfold Ieee.Format.order
 have hx : k.format.read x = k.decode x := rfl
 have hy : k.format.read y = k.decode y := rfl
 rw [hx, hy]
 rcases h with h | h
 ·cases hd : k.decode x <;> rw [hd] at h <;> simp [Ieee.Datum.isNaN] at h
  cases k.decode y <;> rfl
 ·cases hd : k.decode y <;> rw [hd] at h <;> simp [Ieee.Datum.isNaN] at h
  cases k.decode x <;> rfl
def ford (k : FloatKind) : Option Nat → Option Nat → Option Ordering
 | some x, some y => k.format.order x y
 | _, _ => none
theorem ford_of {k : FloatKind} {x y : Nat} {cx cy : Option Nat} (hx : FV k x cx) (hy : FV k y cy) : k.format.order x y = ford k cx cy := by
 cases cx with
 | none => exact order_nan (.inl hx.nan)
 | some a =>
  cases cy with
  | none => exact order_nan (.inr hy.nan)
  | some b =>
   obtain rfl := hx.num
   obtain rfl := hy.num
   rfl
theorem order_self {k : FloatKind} {x : Nat} (h : (k.decode x).isNaN = false) : k.format.order x x = some .eq := by
 unfold Ieee.Format.order
 have hx : k.format.read x = k.decode x := rfl
 rw [hx]
 cases hd : k.decode x with
 | nan s t => rw [hd] at h; simp [Ieee.Datum.isNaN] at h
 | infinity s => simp [Ieee.Datum.order]
 | number s m p => simp [Ieee.Datum.order]
def val (B r : Nat) : Nat := if r < B then r else (B + r % B) * 2 ^ (r / B - 1)
theorem val_succ (B r : Nat) (hB : 0 < B) : val B r < val B (r + 1) := by
 unfold val
 by_cases h1 : r + 1 < B
 ·rw [if_pos h1, if_pos (by omega)]; omega
 ·by_cases h2 : r + 1 = B
  ·rw [if_pos (by omega), if_neg (by omega), h2, Nat.mod_self, Nat.div_self hB]; simp; omega
  ·have hr : B ≤ r := by omega
   rw [if_neg (by omega), if_neg h1]
   have hq : 1 ≤ r / B := (Nat.le_div_iff_mul_le hB).2 (by omega)
   have hd := Nat.div_add_mod r B
   have ht := Nat.mod_lt r hB
   generalize r / B = q at *
   generalize r % B = t at *
   by_cases h3 : t + 1 = B
   ·have e : r + 1 = B * (q + 1) := by rw [Nat.mul_add]; omega
    rw [e, Nat.mul_div_cancel_left _ hB, Nat.mul_mod_right]
    obtain ⟨p, rfl⟩ : ∃ p, q = p + 1 := ⟨q - 1, by omega⟩
    simp only [Nat.add_sub_cancel, Nat.add_zero, Nat.pow_succ]
    have hp : 0 < 2 ^ p := Nat.two_pow_pos p
    have : B * (2 ^ p * 2) = (B + B) * 2 ^ p := by rw [Nat.mul_comm (2 ^ p) 2, ← Nat.mul_assoc, Nat.mul_two]
    rw [this]
    exact Nat.mul_lt_mul_of_pos_right (by omega) hp
   ·have e : r + 1 = t + 1 + B * q := by omega
    rw [e, Nat.add_mul_div_left _ _ hB, Nat.add_mul_mod_self_left, Nat.div_eq_of_lt (by omega), Nat.mod_eq_of_lt (by omega), Nat.zero_add]
    exact Nat.mul_lt_mul_of_pos_right (by omega) (Nat.two_pow_pos _)
theorem val_lt {B r s : Nat} (hB : 0 < B) (h : r < s) : val B r < val B s := by
 induction s with
 | zero => omega
 | succ s ih =>
  have := val_succ B s hB
  by_cases e : r = s
  ·subst e; exact this
  ·exact Nat.lt_trans (ih (by omega)) this
theorem val_zero (B : Nat) (hB : 0 < B) : val B 0 = 0 := by unfold val; rw [if_pos hB]
def key (k : FloatKind) (b : Nat) : Int := if b < k.format.signWeight then (b : Int) else (k.format.signWeight : Int) - b
def sval (k : FloatKind) (b : Nat) : Int := if b < k.format.signWeight then (val k.format.binade b : Int) else -(val k.format.binade (b - k.format.signWeight) : Int)
theorem compare_key (k : FloatKind) (x y : Nat) : compare (sval k x) (sval k y) = compare (key k x) (key k y) := by
 have hB : 0 < k.format.binade := Nat.two_pow_pos _
 have mono : ∀ r s, r < s → (val k.format.binade r : Int) < val k.format.binade s := fun r s h => by exact_mod_cast val_lt hB h
 have z := val_zero k.format.binade hB
 have pos : ∀ r, (0 : Int) ≤ val k.format.binade r := fun r => by omega
 have pos' : ∀ r, 0 < r → (0 : Int) < val k.format.binade r := fun r h => by have := mono 0 r h; rw [z] at this; exact this
 unfold sval key
 generalize k.format.signWeight = S
 by_cases hx : x < S <;> by_cases hy : y < S <;> simp only [hx, hy, if_true, if_false]
 ·rcases Nat.lt_trichotomy x y with h | h | h
  ·rw [Int.compare_eq_lt.2 (mono _ _ h), Int.compare_eq_lt.2 (by omega)]
  ·subst h; rw [Int.compare_eq_eq.2 rfl, Int.compare_eq_eq.2 rfl]
  ·rw [Int.compare_eq_gt.2 (mono _ _ h), Int.compare_eq_gt.2 (by omega)]
 ·have h1 := pos x
  have h2 := pos (y - S)
  by_cases h : x = 0 ∧ y = S
  ·obtain ⟨rfl, rfl⟩ := h
   rw [Nat.sub_self, z, Int.compare_eq_eq.2 (by omega), Int.compare_eq_eq.2 (by omega)]
  ·have : (0 : Int) < val k.format.binade x ∨ (0 : Int) < val k.format.binade (y - S) := by
    by_cases e : x = 0
    ·right; exact pos' _ (by omega)
    ·left; exact pos' _ (by omega)
   rw [Int.compare_eq_gt.2 (by omega), Int.compare_eq_gt.2 (by omega)]
 ·have h1 := pos y
  have h2 := pos (x - S)
  by_cases h : y = 0 ∧ x = S
  ·obtain ⟨rfl, rfl⟩ := h
   rw [Nat.sub_self, z, Int.compare_eq_eq.2 (by omega), Int.compare_eq_eq.2 (by omega)]
  ·have : (0 : Int) < val k.format.binade y ∨ (0 : Int) < val k.format.binade (x - S) := by
    by_cases e : y = 0
    ·right; exact pos' _ (by omega)
    ·left; exact pos' _ (by omega)
   rw [Int.compare_eq_lt.2 (by omega), Int.compare_eq_lt.2 (by omega)]
 ·rcases Nat.lt_trichotomy x y with h | h | h
  ·have := mono (x - S) (y - S) (by omega)
   rw [Int.compare_eq_gt.2 (by omega), Int.compare_eq_gt.2 (by omega)]
  ·subst h; rw [Int.compare_eq_eq.2 rfl, Int.compare_eq_eq.2 rfl]
  ·have := mono (y - S) (x - S) (by omega)
   rw [Int.compare_eq_lt.2 (by omega), Int.compare_eq_lt.2 (by omega)]
theorem decode_cases (k : FloatKind) (b : Nat) (hb : b < 2 ^ k.format.width) (hn : (k.decode b).isNaN = false) :
  (∃ s m p, k.decode b = .number s m p ∧ k.format.leastPlace ≤ p ∧ sval k b = Ieee.signed s m (p - k.format.leastPlace).toNat) ∨
  (∃ s, k.decode b = .infinity s ∧ b = k.format.word s k.format.infRung) := by
 have two : 2 ^ k.format.width = 2 * k.format.signWeight := by cases k <;> decide
 have hB : 0 < k.format.binade := Nat.two_pow_pos _
 rw [isNaN_decode] at hn
 have hn' : ¬ k.format.infRung < b % k.format.signWeight := by simpa using hn
 have hSpos : 0 < k.format.signWeight := Nat.two_pow_pos _
 have key : (b / k.format.signWeight % 2 == 1) = decide (k.format.signWeight ≤ b) := by
  by_cases h : k.format.signWeight ≤ b
  ·have : b / k.format.signWeight = 1 := by
    refine Nat.div_eq_of_lt_le (by omega) (by omega)
   rw [this]; simp [h]
  ·rw [Nat.div_eq_of_lt (by omega)]; simp; omega
 have hmod : b % k.format.signWeight = if k.format.signWeight ≤ b then b - k.format.signWeight else b := by
  split
  ·rw [Nat.mod_eq_sub_mod ‹_›, Nat.mod_eq_of_lt (by omega)]
  ·exact Nat.mod_eq_of_lt (by omega)
 have hs : ∀ (m : Nat) (e : Nat), (val k.format.binade (b % k.format.signWeight) = m * 2 ^ e) → sval k b = Ieee.signed (decide (k.format.signWeight ≤ b)) m e := by
  intro m e h
  unfold sval Ieee.signed
  rw [Nat.shiftLeft_eq, ← h, hmod]
  by_cases hlt : b < k.format.signWeight
  ·have hge : ¬ k.format.signWeight ≤ b := by omega
   simp only [hlt, hge, if_true, if_false, decide_false, Bool.false_eq_true]
  ·have hge : k.format.signWeight ≤ b := by omega
   simp only [hlt, hge, if_true, if_false, decide_true]
 show (∃ s m p, k.format.read b = .number s m p ∧ _) ∨ (∃ s, k.format.read b = .infinity s ∧ _)
 unfold Ieee.Format.read
 dsimp only
 rw [key]
 by_cases h1 : b % k.format.signWeight < k.format.binade
 ·rw [if_pos h1]
  refine .inl ⟨_, _, _, rfl, Int.le_refl _, ?_⟩
  rw [Int.sub_self]
  refine hs _ _ ?_
  unfold val; rw [if_pos h1]; simp
 ·rw [if_neg h1]
  by_cases h2 : b % k.format.signWeight < k.format.infRung
  ·rw [if_pos h2]
   refine .inl ⟨_, _, _, rfl, by omega, ?_⟩
   rw [show k.format.leastPlace + ((b % k.format.signWeight / k.format.binade - 1 : Nat) : Int) - k.format.leastPlace = ((b % k.format.signWeight / k.format.binade - 1 : Nat) : Int) by omega, Int.toNat_natCast]
   refine hs _ _ ?_
   unfold val; rw [if_neg h1]
  ·rw [if_neg h2]
   have h3 : b % k.format.signWeight = k.format.infRung := by omega
   rw [if_pos h3]
   refine .inr ⟨_, rfl, ?_⟩
   unfold Ieee.Format.word
   by_cases hge : k.format.signWeight ≤ b
   ·simp only [hge, decide_true, if_true]; rw [if_pos hge] at hmod; omega
   ·simp only [hge, decide_false]; rw [if_neg hge] at hmod; simp; omega
theorem signed_mul (s : Bool) (m a c : Nat) : Ieee.signed s m (a + c) = Ieee.signed s m a * 2 ^ c := by
 unfold Ieee.signed
 split <;> simp [Nat.shiftLeft_eq, Nat.pow_add, Int.mul_assoc, Int.neg_mul]
theorem compare_mul (a b : Int) (c : Nat) : compare (a * 2 ^ c) (b * 2 ^ c) = compare a b := by
 have h : (0 : Int) < 2 ^ c := by exact_mod_cast Nat.two_pow_pos c
 rcases Int.lt_trichotomy a b with h' | h' | h'
 ·rw [Int.compare_eq_lt.2 (Int.mul_lt_mul_of_pos_right h' h), Int.compare_eq_lt.2 h']
 ·subst h'; rw [Int.compare_eq_eq.2 rfl, Int.compare_eq_eq.2 rfl]
 ·rw [Int.compare_eq_gt.2 (Int.mul_lt_mul_of_pos_right h' h), Int.compare_eq_gt.2 h']
theorem sval_inf (k : FloatKind) (s : Bool) : sval k (k.format.word s k.format.infRung) = if s then -(val k.format.binade k.format.infRung : Int) else (val k.format.binade k.format.infRung : Int) := by
 have := k.format.infRung_lt
 unfold sval Ieee.Format.word
 cases s
 ·simp [this]
 ·simp; omega
theorem sval_lt_inf (k : FloatKind) (b : Nat) (hb : b < 2 ^ k.format.width) (s m p) (h : k.decode b = .number s m p) :
  -(val k.format.binade k.format.infRung : Int) < sval k b ∧ sval k b < (val k.format.binade k.format.infRung : Int) := by
 have two : 2 ^ k.format.width = 2 * k.format.signWeight := by cases k <;> decide
 have hB : 0 < k.format.binade := Nat.two_pow_pos _
 have hSpos : 0 < k.format.signWeight := Nat.two_pow_pos _
 have hr : b % k.format.signWeight < k.format.infRung := by
  have h' : k.format.read b = .number s m p := h
  unfold Ieee.Format.read at h'
  dsimp only at h'
  by_cases h1 : b % k.format.signWeight < k.format.binade
  ·have : k.format.binade ≤ k.format.infRung := by cases k <;> decide
   omega
  ·rw [if_neg h1] at h'
   by_cases h2 : b % k.format.signWeight < k.format.infRung
   ·exact h2
   ·rw [if_neg h2] at h'; split at h' <;> cases h'
 have hv := val_lt hB hr
 unfold sval
 by_cases hlt : b < k.format.signWeight
 ·rw [if_pos hlt]; rw [Nat.mod_eq_of_lt hlt] at hv; omega
 ·rw [if_neg hlt]; rw [Nat.mod_eq_sub_mod (by omega), Nat.mod_eq_of_lt (by omega)] at hv; omega
theorem order_key {k : FloatKind} {x y : Nat} (hx : x < 2 ^ k.format.width) (hy : y < 2 ^ k.format.width) (nx : (k.decode x).isNaN = false) (ny : (k.decode y).isNaN = false) :
  k.format.order x y = some (compare (key k x) (key k y)) := by
 rw [← compare_key]
 have hB : 0 < k.format.binade := Nat.two_pow_pos _
 have hinf : (0 : Int) < val k.format.binade k.format.infRung := by
  have := val_lt hB (show 0 < k.format.infRung by cases k <;> decide)
  rw [val_zero _ hB] at this; exact_mod_cast this
 show (k.decode x).order (k.decode y) = _
 rcases decode_cases k x hx nx with ⟨s, m, p, h1, h2, h3⟩ | ⟨s, h1, h2⟩ <;> rcases decode_cases k y hy ny with ⟨t, n, q, g1, g2, g3⟩ | ⟨t, g1, g2⟩
 ·rw [h1, g1]
  show some (compare (Ieee.signed s m (p - min p q).toNat) (Ieee.signed t n (q - min p q).toNat)) = _
  rw [h3, g3]
  have e1 : (p - k.format.leastPlace).toNat = (p - min p q).toNat + (min p q - k.format.leastPlace).toNat := by omega
  have e2 : (q - k.format.leastPlace).toNat = (q - min p q).toNat + (min p q - k.format.leastPlace).toNat := by omega
  rw [e1, e2, signed_mul, signed_mul, compare_mul]
 ·have := sval_lt_inf k x hx _ _ _ h1
  rw [h1, g1, g2, sval_inf]
  cases t
  ·show some Ordering.lt = _
   rw [if_neg (by simp), Int.compare_eq_lt.2 this.2]
  ·show some Ordering.gt = _
   rw [if_pos rfl, Int.compare_eq_gt.2 this.1]
 ·have := sval_lt_inf k y hy _ _ _ g1
  rw [h1, g1, h2, sval_inf]
  cases s
  ·show some Ordering.gt = _
   rw [if_neg (by simp), Int.compare_eq_gt.2 this.2]
  ·show some Ordering.lt = _
   rw [if_pos rfl, Int.compare_eq_lt.2 this.1]
 ·rw [h1, g1, h2, g2, sval_inf, sval_inf]
  cases s <;> cases t
  ·rw [Int.compare_eq_eq.2 rfl]; rfl
  ·rw [if_neg (by simp), if_pos rfl, Int.compare_eq_gt.2 (by omega)]; rfl
  ·rw [if_pos rfl, if_neg (by simp), Int.compare_eq_lt.2 (by omega)]; rfl
  ·rw [Int.compare_eq_eq.2 rfl]; rfl
theorem even_cut_zero (s : Bool) (n : Nat) : Ieee.Toward.even.cut s n 0 = n := by
 unfold Ieee.Toward.cut
 simp [Nat.mod_one]
theorem nearest_exact (f : Ieee.Format) (s : Bool) (m : Nat) (p : Int) (h0 : m ≠ 0) (h1 : m.log2 ≤ f.fractionBits) (h2 : f.leastPlace ≤ p) :
  f.nearest s m p = f.word s (min ((max (p + m.log2 - f.fractionBits) f.leastPlace - f.leastPlace).toNat * f.binade + m * 2 ^ (p - max (p + m.log2 - f.fractionBits) f.leastPlace).toNat) f.infRung) := by
 unfold Ieee.Format.nearest
 dsimp only
 rw [if_neg h0]
 have : (max (p + (m.log2 : Int) - f.fractionBits) f.leastPlace - p).toNat = 0 := by omega
 rw [this, even_cut_zero, Nat.shiftLeft_eq]
def wid (x : Nat) : Nat := FloatKind.f64.encode (FloatKind.f32.decode x)
theorem decode32 (x : Nat) (s : Bool) (m : Nat) (p : Int) (h : FloatKind.f32.decode x = .number s m p) : m < 16777216 ∧ -149 ≤ p ∧ p ≤ 104 := by
 have h' : Ieee.single.read x = .number s m p := h
 unfold Ieee.Format.read at h'
 dsimp only at h'
 have e1 : Ieee.single.binade = 8388608 := by decide
 have e2 : Ieee.single.infRung = 2139095040 := by decide
 have e3 : Ieee.single.leastPlace = -149 := by decide
 rw [e1, e2, e3] at h'
 split at h'
 ·cases h'; omega
 ·split at h'
  ·cases h'; omega
  ·split at h' <;> cases h'
theorem wid_aux (a M i : Nat) (ha : a ≤ 1149) (hM : M < 9007199254740992) : min (a * 4503599627370496 + M) i < 5188146770730811392 := by
 refine Nat.lt_of_le_of_lt (Nat.min_le_left _ _) ?_
 omega
theorem wid_word (x : Nat) (s : Bool) (m : Nat) (p : Int) (h : FloatKind.f32.decode x = .number s m p) : ∃ r, wid x = Ieee.double.word s r ∧ r < 5188146770730811392 := by
 obtain ⟨h1, h2, h3⟩ := decode32 x s m p h
 unfold wid
 rw [h]
 show ∃ r, Ieee.double.nearest s m p = _ ∧ _
 by_cases h0 : m = 0
 ·subst h0; exact ⟨0, by unfold Ieee.Format.nearest; rw [if_pos rfl], by omega⟩
 ·have hl : m.log2 < 24 := (Nat.log2_lt h0).2 h1
  have e1 : Ieee.double.fractionBits = 52 := rfl
  have e2 : Ieee.double.leastPlace = -1074 := by decide
  have e3 : Ieee.double.binade = 4503599627370496 := by decide
  rw [nearest_exact _ s m p h0 (by rw [e1]; omega) (by rw [e2]; omega), e1, e2, e3]
  refine ⟨_, rfl, ?_⟩
  have hk : (p - max (p + (m.log2 : Int) - (52 : Nat)) (-1074)).toNat = 52 - m.log2 := by omega
  rw [hk]
  have hlt : m < 2 ^ (m.log2 + 1) := Nat.lt_log2_self
  have : m * 2 ^ (52 - m.log2) < 9007199254740992 := by
   have : m * 2 ^ (52 - m.log2) < 2 ^ (m.log2 + 1) * 2 ^ (52 - m.log2) := Nat.mul_lt_mul_of_pos_right hlt (Nat.two_pow_pos _)
   rw [← Nat.pow_add, show m.log2 + 1 + (52 - m.log2) = 53 by omega] at this
   exact this
  exact wid_aux _ _ _ (by omega) this
theorem wid_fin (x : Nat) (s : Bool) (m : Nat) (p : Int) (h : FloatKind.f32.decode x = .number s m p) : (FloatKind.f64.decode (wid x)).isInfinity = false := by
 obtain ⟨r, he, hr⟩ := wid_word x s m p h
 rw [he]
 show (Ieee.double.read (Ieee.double.word s r)).isInfinity = false
 have e2 : Ieee.double.infRung = 9218868437227405312 := by decide
 unfold Ieee.Format.read
 dsimp only
 rw [word_mod _ _ _ (show r < Ieee.double.signWeight by rw [show Ieee.double.signWeight = 9223372036854775808 by decide]; omega)]
 split
 ·rfl
 ·rw [if_pos (by rw [e2]; omega)]; rfl
def wR (x : Nat) (w : World) : Nat := if (FloatKind.f32.decode x).isNaN then (Question.nanConv .f64 x).cut (w.tape w.drawn (.nanConv .f64 x)) else wid x
def wN (x : Nat) : Nat := if (FloatKind.f32.decode x).isNaN then 1 else 0
theorem wid_lt (x : Nat) : wid x < 2 ^ FloatKind.f64.format.width := FloatKind.f64.format.write_lt _
theorem wid_nan {x : Nat} (h : (FloatKind.f32.decode x).isNaN = false) : (FloatKind.f64.decode (wid x)).isNaN = false := isNaN_write .f64 _ h
theorem FV_wR {x : Nat} {w : World} {c : Option Nat} (h : FV .f32 x c) : FV .f64 (wR x w) (c.map wid) := by
 unfold wR
 cases c with
 | none =>
  rw [if_pos h.nan]
  have := cutConv_nan .f64 x (w.tape w.drawn (.nanConv .f64 x))
  exact ⟨this.1, cls_nan this.2⟩
 | some a =>
  obtain rfl := h.num
  have hn := h.notnan
  rw [if_neg (by simp [hn])]
  exact ⟨wid_lt x, cls_num (wid_nan hn)⟩
section
variable {P : Program} (w : World)
@[go_sem] theorem run_wR (src dst : TypeId) (x : Nat) (hs : (P.underlying src).isSome = true) (hd : P.underlying dst = some (.float .f64)) :
  (convert src dst (.float .f32 x)).run P w = .ok (.float .f64 (wR x w)) (w.drewN (wN x)) := by
 obtain ⟨u, hs'⟩ := Option.isSome_iff_exists.1 hs
 have hq : (Question.nanConv .f64 x).forced = false := rfl
 unfold wR wN
 cases hd' : FloatKind.f32.decode x with
 | nan s t =>
  have e : (Ieee.Datum.nan s t).isNaN = true := rfl
  rw [if_pos e, if_pos e]
  cases u <;> simp [convert, run_underlying hs', run_underlying hd, Conv.floatToFloat, hd', hq] <;> rfl
 | infinity s =>
  have e : ¬ (Ieee.Datum.infinity s).isNaN = true := by simp [Ieee.Datum.isNaN]
  rw [if_neg e, if_neg e]
  unfold wid; rw [hd']
  cases u <;> simp [convert, run_underlying hs', run_underlying hd, Conv.floatToFloat, hd'] <;> rfl
 | number s m p =>
  have e : ¬ (Ieee.Datum.number s m p).isNaN = true := by simp [Ieee.Datum.isNaN]
  have hf := wid_fin x s m p hd'
  unfold wid at hf; rw [hd'] at hf
  rw [if_neg e, if_neg e]
  unfold wid; rw [hd']
  cases u <;> simp [convert, run_underlying hs', run_underlying hd, Conv.floatToFloat, hd', hf] <;> rfl
@[go_sem] theorem run_same (src dst : TypeId) (k : FloatKind) (x : Nat) (hs : (P.underlying src).isSome = true) (hd : P.underlying dst = some (.float k)) :
  (convert src dst (.float k x)).run P w = .ok (.float k x) w := by
 obtain ⟨u, hs'⟩ := Option.isSome_iff_exists.1 hs
 cases u <;> simp [convert, run_underlying hs', run_underlying hd, Conv.floatToFloat]
end
theorem wf_lt {k : FloatKind} {b : Nat} (h : (Lit.float k b).wf = true) : b < 2 ^ k.format.width := by
 cases k
 ·have e : 2 ^ FloatKind.f32.format.width = 2 ^ 32 := by decide
  rw [e]; simpa [Lit.wf] using h
 ·have e : 2 ^ FloatKind.f64.format.width = 2 ^ 64 := by decide
  rw [e]; simpa [Lit.wf] using h
section
open Go.ChangeShapes Go.WideShapes Go.Deep
variable {H : Type} {enc : TypeId × Value → H} {P : Program} {w : World} {base : Nat} {spare : Nat → Bool} {held : Bool}
theorem trod_float {fuel : Nat} {t : TypeId} {k : FloatKind} {cs : List Value} {y : DataW H × List MemPlace} (ht : P.underlying t = some (.float k)) (h : DataW.trod enc P w base spare held fuel t cs = some y) :
  ∃ b, cs = [.float k b] ∧ b < 2 ^ k.format.width := by
 cases fuel with
 | zero => simp [DataW.trod] at h
 | succ n =>
  match cs, h with
  | [], h => simp [DataW.trod, ht] at h
  | [v], h =>
   cases v with
   | float k' b =>
    simp only [DataW.trod, ht] at h
    split at h
    ·rename_i hw; obtain ⟨rfl, hw⟩ := hw; exact ⟨b, rfl, wf_lt hw⟩
    ·cases h
   | _ => simp [DataW.trod, ht] at h
  | _ :: _ :: _, h => simp [DataW.trod, ht] at h
def IsFs (k : FloatKind) (w : World) (a : Option Addr) (len cap : Nat) (zs : List Nat) : Prop :=
 zs.length = len ∧ len ≤ cap ∧ cap ≤ maxLen ∧ (∀ z ∈ zs, z < 2 ^ k.format.width) ∧
 (a = none → len = 0 ∧ cap = 0) ∧ (∀ x, a = some x → ∀ i, i < len → w.cell? (x.add i) = some (.float k (zs.getD i 0)))
theorem open_floats {t e : TypeId} {k : FloatKind} {a : Option Addr} {len cap : Nat} {d : DataW H} {p : List MemPlace} (ht : P.underlying t = some (.slice e)) (he : P.underlying e = some (.float k)) (hc : P.cellsOf e = 1)
  (h : DataW.Trod enc P w base spare held t (.slice a len cap) d p) : ∃ zs, IsFs k w a len cap zs := by
 obtain ⟨fuel, h⟩ := h
 rcases DataW.trod_slice ht h with ⟨h0, _⟩ | ⟨x, len', cap', elems, rest, n, _, hcs, _, hb, hl, hm, hlen, hel, _, _⟩
 ·simp [Value.cells] at h0
  obtain ⟨rfl, rfl, rfl⟩ := h0
  exact ⟨[], rfl, Nat.le_refl _, Nat.zero_le _, by simp, fun _ => ⟨rfl, rfl⟩, by simp⟩
 ·simp [Value.cells] at hcs
  obtain ⟨rfl, rfl, rfl⟩ := hcs
  have each : ∀ i, i < len → ∃ b, w.cell? (x.add i) = some (.float k b) ∧ b < 2 ^ k.format.width := by
   intro i hi
   have h1 := hel i hi
   rw [hc, Nat.mul_one, List.getElem?_eq_getElem (by omega), Option.bind_eq_some_iff] at h1
   obtain ⟨cs', hcs, hy⟩ := h1
   obtain ⟨b, rfl, hb⟩ := trod_float he hy
   exact ⟨b, cell_of_cells?_one hcs, hb⟩
  let f : Nat → Nat := fun i => match w.cell? (x.add i) with | some (.float _ b) => b | _ => 0
  refine ⟨(List.range len).map f, by simp, hl, hm, ?_, by simp, ?_⟩
  ·intro z hz
   simp only [List.mem_map, List.mem_range] at hz
   obtain ⟨i, hi, rfl⟩ := hz
   obtain ⟨b, h1, h2⟩ := each i hi
   show f i < _
   simp only [f, h1]; exact h2
  ·intro x' hx' i hi
   cases hx'
   obtain ⟨b, h1, h2⟩ := each i hi
   have : ((List.range len).map f).getD i 0 = f i := by simp [List.getD, hi]
   rw [this]
   simp only [f, h1]
end
end Fk
end Go.Proofs.YtabccmobmppdnaaGreat
namespace Go.Proofs.YtabccmobmppdnaaGreat
open Go
section
variable (P : Program) (w : World) (a : Addr) (m : Mode)
@[go_sem] theorem run_store_float (k : FloatKind) (b : Nat) : (store a (.float k b) m).run P w = stored P w a (.float k b) m := run_store P w a _ m rfl
@[go_sem] theorem alloc_drewN (n : Nat) (o : Obj) : (w.drewN n).alloc o = (w.alloc o).drewN n := rfl
@[go_sem] theorem setCell_drewN (n : Nat) (v : Value) : (w.drewN n).setCell a v = (w.setCell a v).drewN n := rfl
end
end Go.Proofs.YtabccmobmppdnaaGreat
namespace Go.Proofs.YtabccmobmppdnaaGreat
namespace Fk
open Go Go.RowKit
set_option linter.unusedVariables false
abbrev C3 := Option Nat × Option Nat × Option Nat
abbrev c0 : C3 := (none, none, none)
def IsVs (w : World) (a : Option Addr) (len cap : Nat) (cs : List C3) : Prop :=
 cs.length = len ∧ len ≤ cap ∧ cap ≤ maxLen ∧ (a = none → len = 0 ∧ cap = 0) ∧
 (∀ x, a = some x → ∀ i, i < len → ∃ p q r, w.cell? (x.add (i * 3)) = some (.float .f32 p) ∧ w.cell? (x.add (i * 3 + 1)) = some (.float .f32 q) ∧ w.cell? (x.add (i * 3 + 2)) = some (.float .f32 r) ∧
  FV .f32 p (cs.getD i c0).1 ∧ FV .f32 q (cs.getD i c0).2.1 ∧ FV .f32 r (cs.getD i c0).2.2)
def IsIs (w : World) (a : Option Addr) (len cap : Nat) (zs : List Int) : Prop :=
 zs.length = len ∧ len ≤ cap ∧ cap ≤ maxLen ∧ (∀ z ∈ zs, (Lit.int .i64 z).wf = true) ∧ (a = none → len = 0 ∧ cap = 0) ∧
 (∀ x, a = some x → ∀ i, i < len → w.cell? (x.add i) = some (.int .i64 (zs.getD i 0)))
def IsTs (w : World) (a : Option Addr) (len cap : Nat) (ts : List (List Int)) : Prop :=
 ts.length = len ∧ len ≤ cap ∧ cap ≤ maxLen ∧ (a = none → len = 0 ∧ cap = 0) ∧
 (∀ x, a = some x → ∀ i, i < len → ∃ b n c, w.cell? (x.add i) = some (.slice b n c) ∧ IsIs w b n c (ts.getD i []))
section
open Go.ChangeShapes Go.WideShapes Go.Deep
variable {H : Type} {enc : TypeId × Value → H} {P : Program} {w : World} {base : Nat} {held : Bool}
theorem cells?_three {b : Nat} {a : Addr} {cs : List Value} (h : w.cells? b a 3 = some cs) : ∃ u v t, cs = [u, v, t] ∧ w.cell? a = some u ∧ w.cell? (a.add 1) = some v ∧ w.cell? (a.add 2) = some t := by
 obtain ⟨_, hl, hc⟩ := World.cells?_some h
 match cs, hl with
 | [u, v, t], _ =>
  have k0 := hc 0 (by omega)
  have k1 := hc 1 (by omega)
  have k2 := hc 2 (by omega)
  have z : a.add 0 = a := by unfold Addr.add; rfl
  rw [z] at k0
  exact ⟨u, v, t, rfl, k0, k1, k2⟩
theorem trod_ints {t e : TypeId} {fuel : Nat} {cs : List Value} {x : DataW H × List MemPlace} (ht : P.underlying t = some (.slice e)) (he : P.underlying e = some (.int .i64)) (hc : P.cellsOf e = 1)
  (h : DataW.trod enc P w base (fun _ => true) held fuel t cs = some x) : ∃ a len cap zs, cs = [.slice a len cap] ∧ IsIs w a len cap zs := by
 rcases open_ints ht he hc h with ⟨hcs, hy⟩ | ⟨a, len, cap, zs, hcs, hb, hl, hm, hz, hy, hcell, hwz⟩
 ·exact ⟨none, 0, 0, [], hcs, rfl, Nat.le_refl _, Nat.zero_le _, by simp, fun _ => ⟨rfl, rfl⟩, fun _ h => by cases h⟩
 ·simp only [if_true] at hz
  refine ⟨some a, len, cap, zs.take len, hcs, by simp; omega, hl, hm, fun z hz' => hwz z (List.mem_of_mem_take hz'), (fun h => by cases h), fun y hy' i hi => ?_⟩
  cases hy'
  rw [hcell i (by omega)]
  simp [List.getD, hi]
theorem trod_rows {t e q : TypeId} {fuel : Nat} {cs : List Value} {x : DataW H × List MemPlace} (ht : P.underlying t = some (.slice e)) (he : P.underlying e = some (.slice q)) (hq : P.underlying q = some (.int .i64))
  (ce : P.cellsOf e = 1) (cq : P.cellsOf q = 1) (h : DataW.trod enc P w base (fun _ => true) held fuel t cs = some x) : ∃ a len cap ts, cs = [.slice a len cap] ∧ IsTs w a len cap ts := by
 rcases open_int_rows ht he hq ce cq h with ⟨hcs, hy⟩ | ⟨a, len, cap, A, L, C, Z, hcs, hb, hl, hm, hx, hr⟩
 ·exact ⟨none, 0, 0, [], hcs, rfl, Nat.le_refl _, Nat.zero_le _, fun _ => ⟨rfl, rfl⟩, fun _ h => by cases h⟩
 ·refine ⟨some a, len, cap, (List.range len).map fun r => (Z r).take (L r), hcs, by simp, hl, hm, (fun h => by cases h), fun y hy' i hi => ?_⟩
  cases hy'
  obtain ⟨r1, r2, r3, r4, r5, r6, r7⟩ := hr i (by omega)
  refine ⟨A i, L i, C i, r1, ?_⟩
  have hg : ((List.range len).map fun r => (Z r).take (L r)).getD i [] = (Z i).take (L i) := by simp [List.getD, hi]
  rw [hg]
  refine ⟨by simp; omega, r2, r3, fun z hz => r5 z (List.mem_of_mem_take hz), fun h => ⟨by have := r6 h; omega, r6 h⟩, fun a' ha' c hc' => ?_⟩
  rw [(r7 a' ha').2 c (by omega)]
  simp [List.getD, hc']
theorem trod_vecs {t e : TypeId} {f0 f1 f2 : Field} {fuel : Nat} {cs : List Value} {x : DataW H × List MemPlace} (ht : P.underlying t = some (.slice e)) (hs : P.underlying e = some (.struct #[f0, f1, f2])) (hone : oneCellFields P #[f0, f1, f2] = true) (hC : P.cellsOf e = 3)
  (he0 : P.underlying f0.type = some (.float .f32)) (he1 : P.underlying f1.type = some (.float .f32)) (he2 : P.underlying f2.type = some (.float .f32))
  (h : DataW.trod enc P w base (fun _ => true) held fuel t cs = some x) : ∃ a len cap vs, cs = [.slice a len cap] ∧ IsVs w a len cap vs := by
 rcases open_slice ht h with ⟨hcs, hy⟩ | ⟨a, len, cap, m, n, D, Pl, hcs, hb, hl, hm, hmm, hx, hr⟩
 ·exact ⟨none, 0, 0, [], hcs, rfl, Nat.le_refl _, Nat.zero_le _, fun _ => ⟨rfl, rfl⟩, fun _ h => by cases h⟩
 ·simp only [if_true] at hmm
  rw [hC] at hr
  have each : ∀ i, i < len → ∃ p q r, w.cell? (a.add (i * 3)) = some (.float .f32 p) ∧ w.cell? (a.add (i * 3 + 1)) = some (.float .f32 q) ∧ w.cell? (a.add (i * 3 + 2)) = some (.float .f32 r) ∧
    p < 2 ^ FloatKind.f32.format.width ∧ q < 2 ^ FloatKind.f32.format.width ∧ r < 2 ^ FloatKind.f32.format.width := by
   intro i hi
   obtain ⟨cs', h1, h2⟩ := hr i (by omega)
   obtain ⟨u, v, t', rfl, k0, k1, k2⟩ := cells?_three h1
   obtain ⟨y0, y1, y2, n', hx', _, h0', h1', h2'⟩ := trod_struct3 hs h2
   obtain ⟨o0, q0⟩ := hone_of hone 0 f0 rfl
   obtain ⟨o1, q1⟩ := hone_of hone 1 f1 rfl
   obtain ⟨o2, q2⟩ := hone_of hone 2 f2 rfl
   obtain ⟨p, e0, w0⟩ := trod_float he0 h0'
   obtain ⟨q, e1, w1⟩ := trod_float he1 h1'
   obtain ⟨r, e2, w2⟩ := trod_float he2 h2'
   simp [o0, q0] at e0
   simp [o1, q1] at e1
   simp [o2, q2] at e2
   subst e0 e1 e2
   rw [Addr.add_add] at k1 k2
   exact ⟨p, q, r, k0, k1, k2, w0, w1, w2⟩
  let f : Nat → Nat := fun j => match w.cell? (a.add j) with | some (.float _ b) => b | _ => 0
  refine ⟨some a, len, cap, (List.range len).map fun i => (cls .f32 (f (i * 3)), cls .f32 (f (i * 3 + 1)), cls .f32 (f (i * 3 + 2))), hcs, by simp, hl, hm, (fun h => by cases h), fun y hy' i hi => ?_⟩
  cases hy'
  obtain ⟨p, q, r, k0, k1, k2, w0, w1, w2⟩ := each i hi
  have hg : ((List.range len).map fun i => (cls .f32 (f (i * 3)), cls .f32 (f (i * 3 + 1)), cls .f32 (f (i * 3 + 2)))).getD i c0 = (cls .f32 p, cls .f32 q, cls .f32 r) := by
   simp [List.getD, hi, f, k0, k1, k2]
  rw [hg]
  exact ⟨p, q, r, k0, k1, k2, FV.self w0, FV.self w1, FV.self w2⟩
end
theorem IsIs.below {W w : World} {a : Option Addr} {len cap : Nat} {zs : List Int} (hb : Below W.heap.size W w) (h : IsIs W a len cap zs) : IsIs w a len cap zs := by
 obtain ⟨h1, h2, h3, h4, h5, h6⟩ := h
 refine ⟨h1, h2, h3, h4, h5, fun x hx i hi => ?_⟩
 have hc := h6 x hx i hi
 rw [hb.cell (p := x.add i) (World.block_lt_of_cell? W _ hc)]; exact hc
theorem IsTs.below {W w : World} {a : Option Addr} {len cap : Nat} {ts : List (List Int)} (hb : Below W.heap.size W w) (h : IsTs W a len cap ts) : IsTs w a len cap ts := by
 obtain ⟨h1, h2, h3, h5, h6⟩ := h
 refine ⟨h1, h2, h3, h5, fun x hx i hi => ?_⟩
 obtain ⟨b, n, c, hc, hi'⟩ := h6 x hx i hi
 exact ⟨b, n, c, by rw [hb.cell (p := x.add i) (World.block_lt_of_cell? W _ hc)]; exact hc, hi'.below hb⟩
theorem IsVs.below {W w : World} {a : Option Addr} {len cap : Nat} {cs : List C3} (hb : Below W.heap.size W w) (h : IsVs W a len cap cs) : IsVs w a len cap cs := by
 obtain ⟨h1, h2, h3, h5, h6⟩ := h
 refine ⟨h1, h2, h3, h5, fun x hx i hi => ?_⟩
 obtain ⟨p, q, r, k0, k1, k2, hv⟩ := h6 x hx i hi
 exact ⟨p, q, r, by rw [hb.cell (p := x.add (i * 3)) (World.block_lt_of_cell? W _ k0)]; exact k0, by rw [hb.cell (p := x.add (i * 3 + 1)) (World.block_lt_of_cell? W _ k1)]; exact k1,
  by rw [hb.cell (p := x.add (i * 3 + 2)) (World.block_lt_of_cell? W _ k2)]; exact k2, hv⟩
theorem addr_add' (b o i : Nat) : (⟨b, o, none⟩ : Addr).add i = ⟨b, o + i, none⟩ := by
 unfold Addr.add
 split
 ·rename_i h; subst h; rfl
 ·rfl
theorem IsIs.some {w : World} {a : Option Addr} {len cap : Nat} {zs : List Int} (h : IsIs w a len cap zs) (hl : 0 < len) :
  ∃ b o, a = .some ⟨b, o, none⟩ ∧ ∀ i, i < len → w.cell? ⟨b, o + i, none⟩ = .some (.int .i64 (zs.getD i 0)) := by
 obtain ⟨h1, h2, h3, h4, h5, h6⟩ := h
 cases a with
 | none => have := (h5 rfl).1; omega
 | some x =>
  obtain ⟨b, o, spot⟩ := x
  have hc := h6 _ rfl 0 hl
  have hspot : spot = none := by simpa [Addr.add] using World.cell?_spot hc
  subst hspot
  exact ⟨b, o, rfl, fun i hi => by have := h6 _ rfl i hi; rwa [addr_add'] at this⟩
theorem IsTs.some {w : World} {a : Option Addr} {len cap : Nat} {ts : List (List Int)} (h : IsTs w a len cap ts) (hl : 0 < len) :
  ∃ b o, a = .some ⟨b, o, none⟩ ∧ ∀ i, i < len → ∃ r n c, w.cell? ⟨b, o + i, none⟩ = .some (.slice r n c) ∧ IsIs w r n c (ts.getD i []) := by
 obtain ⟨h1, h2, h3, h5, h6⟩ := h
 cases a with
 | none => have := (h5 rfl).1; omega
 | some x =>
  obtain ⟨b, o, spot⟩ := x
  obtain ⟨_, _, _, hc, _⟩ := h6 _ rfl 0 hl
  have hspot : spot = none := by simpa [Addr.add] using World.cell?_spot hc
  subst hspot
  exact ⟨b, o, rfl, fun i hi => by have := h6 _ rfl i hi; rwa [addr_add'] at this⟩
theorem IsVs.some {w : World} {a : Option Addr} {len cap : Nat} {cs : List C3} (h : IsVs w a len cap cs) (hl : 0 < len) :
  ∃ b o, a = .some ⟨b, o, none⟩ ∧ ∀ i, i < len → ∃ p q r, w.cell? ⟨b, o + i * 3, none⟩ = .some (.float .f32 p) ∧ w.cell? ⟨b, o + i * 3 + 1, none⟩ = .some (.float .f32 q) ∧ w.cell? ⟨b, o + i * 3 + 2, none⟩ = .some (.float .f32 r) ∧
   FV .f32 p (cs.getD i c0).1 ∧ FV .f32 q (cs.getD i c0).2.1 ∧ FV .f32 r (cs.getD i c0).2.2 := by
 obtain ⟨h1, h2, h3, h5, h6⟩ := h
 cases a with
 | none => have := (h5 rfl).1; omega
 | some x =>
  obtain ⟨b, o, spot⟩ := x
  obtain ⟨_, _, _, hc, _⟩ := h6 _ rfl 0 hl
  have hspot : spot = none := by simpa [Addr.add] using World.cell?_spot hc
  subst hspot
  refine ⟨b, o, rfl, fun i hi => ?_⟩
  have := h6 _ rfl i hi
  rwa [addr_add', addr_add', addr_add', ← Nat.add_assoc, ← Nat.add_assoc] at this
end Fk
end Go.Proofs.YtabccmobmppdnaaGreat
namespace Go.Proofs.YtabccmobmppdnaaGreat
namespace Fk
open Go Go.RowKit
set_option linter.unusedVariables false
abbrev SC := Int × Int × Option Nat × Option Nat
abbrev s0 : SC := (0, 0, none, none)
def IsSs (w : World) (a : Option Addr) (len cap : Nat) (ss : List SC) : Prop :=
 ss.length = len ∧ len ≤ cap ∧ cap ≤ maxLen ∧ (∀ s ∈ ss, (Lit.int .i64 s.1).wf = true ∧ (Lit.int .i64 s.2.1).wf = true) ∧ (a = none → len = 0 ∧ cap = 0) ∧
 (∀ x, a = some x → ∀ i, i < len → ∃ p q, w.cell? (x.add (i * 4)) = some (.int .i64 (ss.getD i s0).1) ∧ w.cell? (x.add (i * 4 + 1)) = some (.int .i64 (ss.getD i s0).2.1) ∧ w.cell? (x.add (i * 4 + 2)) = some (.float .f32 p) ∧ w.cell? (x.add (i * 4 + 3)) = some (.float .f32 q) ∧
  FV .f32 p (ss.getD i s0).2.2.1 ∧ FV .f32 q (ss.getD i s0).2.2.2)
theorem IsSs.below {W w : World} {a : Option Addr} {len cap : Nat} {ss : List SC} (hb : Below W.heap.size W w) (h : IsSs W a len cap ss) : IsSs w a len cap ss := by
 obtain ⟨h1, h2, h3, h4, h5, h6⟩ := h
 refine ⟨h1, h2, h3, h4, h5, fun x hx i hi => ?_⟩
 obtain ⟨p, q, k0, k1, k2, k3, hv⟩ := h6 x hx i hi
 exact ⟨p, q, by rw [hb.cell (p := x.add (i * 4)) (World.block_lt_of_cell? W _ k0)]; exact k0, by rw [hb.cell (p := x.add (i * 4 + 1)) (World.block_lt_of_cell? W _ k1)]; exact k1,
  by rw [hb.cell (p := x.add (i * 4 + 2)) (World.block_lt_of_cell? W _ k2)]; exact k2, by rw [hb.cell (p := x.add (i * 4 + 3)) (World.block_lt_of_cell? W _ k3)]; exact k3, hv⟩
theorem IsSs.some {w : World} {a : Option Addr} {len cap : Nat} {ss : List SC} (h : IsSs w a len cap ss) (hl : 0 < len) :
  ∃ b o, a = .some ⟨b, o, none⟩ ∧ ∀ i, i < len → ∃ p q, w.cell? ⟨b, o + i * 4, none⟩ = .some (.int .i64 (ss.getD i s0).1) ∧ w.cell? ⟨b, o + i * 4 + 1, none⟩ = .some (.int .i64 (ss.getD i s0).2.1) ∧ w.cell? ⟨b, o + i * 4 + 2, none⟩ = .some (.float .f32 p) ∧ w.cell? ⟨b, o + i * 4 + 3, none⟩ = .some (.float .f32 q) ∧
   FV .f32 p (ss.getD i s0).2.2.1 ∧ FV .f32 q (ss.getD i s0).2.2.2 := by
 obtain ⟨h1, h2, h3, h4, h5, h6⟩ := h
 cases a with
 | none => have := (h5 rfl).1; omega
 | some x =>
  obtain ⟨b, o, spot⟩ := x
  obtain ⟨_, _, hc, _⟩ := h6 _ rfl 0 hl
  have hspot : spot = none := by simpa [Addr.add] using World.cell?_spot hc
  subst hspot
  refine ⟨b, o, rfl, fun i hi => ?_⟩
  have := h6 _ rfl i hi
  rwa [addr_add', addr_add', addr_add', addr_add', ← Nat.add_assoc, ← Nat.add_assoc, ← Nat.add_assoc] at this
section
open Go.ChangeShapes Go.WideShapes Go.Deep
variable {H : Type} {enc : TypeId × Value → H} {P : Program} {w : World} {base : Nat} {held : Bool}
theorem cells?_four {b : Nat} {a : Addr} {cs : List Value} (h : w.cells? b a 4 = some cs) : ∃ u v t s, cs = [u, v, t, s] ∧ w.cell? a = some u ∧ w.cell? (a.add 1) = some v ∧ w.cell? (a.add 2) = some t ∧ w.cell? (a.add 3) = some s := by
 obtain ⟨_, hl, hc⟩ := World.cells?_some h
 match cs, hl with
 | [u, v, t, s], _ =>
  have k0 := hc 0 (by omega)
  have k1 := hc 1 (by omega)
  have k2 := hc 2 (by omega)
  have k3 := hc 3 (by omega)
  have z : a.add 0 = a := by unfold Addr.add; rfl
  rw [z] at k0
  exact ⟨u, v, t, s, rfl, k0, k1, k2, k3⟩
theorem trod_springs {t e : TypeId} {f0 f1 f2 f3 : Field} {fuel : Nat} {cs : List Value} {x : DataW H × List MemPlace} (ht : P.underlying t = some (.slice e)) (hs : P.underlying e = some (.struct #[f0, f1, f2, f3])) (hone : oneCellFields P #[f0, f1, f2, f3] = true) (hC : P.cellsOf e = 4)
  (he0 : P.underlying f0.type = some (.int .i64)) (he1 : P.underlying f1.type = some (.int .i64)) (he2 : P.underlying f2.type = some (.float .f32)) (he3 : P.underlying f3.type = some (.float .f32))
  (h : DataW.trod enc P w base (fun _ => true) held fuel t cs = some x) : ∃ a len cap ss, cs = [.slice a len cap] ∧ IsSs w a len cap ss := by
 rcases open_slice ht h with ⟨hcs, hy⟩ | ⟨a, len, cap, m, n, D, Pl, hcs, hb, hl, hm, hmm, hx, hr⟩
 ·exact ⟨none, 0, 0, [], hcs, rfl, Nat.le_refl _, Nat.zero_le _, by simp, fun _ => ⟨rfl, rfl⟩, fun _ h => by cases h⟩
 ·simp only [if_true] at hmm
  rw [hC] at hr
  have each : ∀ i, i < len → ∃ (u v : Int) (p q : Nat), w.cell? (a.add (i * 4)) = some (.int .i64 u) ∧ w.cell? (a.add (i * 4 + 1)) = some (.int .i64 v) ∧ w.cell? (a.add (i * 4 + 2)) = some (.float .f32 p) ∧ w.cell? (a.add (i * 4 + 3)) = some (.float .f32 q) ∧
    (Lit.int .i64 u).wf = true ∧ (Lit.int .i64 v).wf = true ∧ p < 2 ^ FloatKind.f32.format.width ∧ q < 2 ^ FloatKind.f32.format.width := by
   intro i hi
   obtain ⟨cs', h1, h2⟩ := hr i (by omega)
   obtain ⟨c0, c1, c2, c3, rfl, k0, k1, k2, k3⟩ := cells?_four h1
   obtain ⟨y0, y1, y2, y3, n', hx', _, h0', h1', h2', h3'⟩ := Joins.trod_struct4 hs h2
   obtain ⟨o0, q0⟩ := hone_of hone 0 f0 rfl
   obtain ⟨o1, q1⟩ := hone_of hone 1 f1 rfl
   obtain ⟨o2, q2⟩ := hone_of hone 2 f2 rfl
   obtain ⟨o3, q3⟩ := hone_of hone 3 f3 rfl
   obtain ⟨u, e0, _, w0⟩ := DataW.trod_int he0 h0'
   obtain ⟨v, e1, _, w1⟩ := DataW.trod_int he1 h1'
   obtain ⟨p, e2, w2⟩ := trod_float he2 h2'
   obtain ⟨q, e3, w3⟩ := trod_float he3 h3'
   simp [o0, q0] at e0
   simp [o1, q1] at e1
   simp [o2, q2] at e2
   simp [o3, q3] at e3
   subst e0 e1 e2 e3
   rw [Addr.add_add] at k1 k2 k3
   exact ⟨u, v, p, q, k0, k1, k2, k3, w0, w1, w2, w3⟩
  let fi : Nat → Int := fun j => match w.cell? (a.add j) with | some (.int _ b) => b | _ => 0
  let f : Nat → Nat := fun j => match w.cell? (a.add j) with | some (.float _ b) => b | _ => 0
  have hg : ∀ i, i < len → ((List.range len).map fun i => ((fi (i * 4), fi (i * 4 + 1), cls .f32 (f (i * 4 + 2)), cls .f32 (f (i * 4 + 3))) : SC)).getD i s0 = (fi (i * 4), fi (i * 4 + 1), cls .f32 (f (i * 4 + 2)), cls .f32 (f (i * 4 + 3))) := by
   intro i hi
   simp [List.getD, hi]
  refine ⟨some a, len, cap, (List.range len).map fun i => (fi (i * 4), fi (i * 4 + 1), cls .f32 (f (i * 4 + 2)), cls .f32 (f (i * 4 + 3))), hcs, by simp, hl, hm, ?_, (fun h => by cases h), fun y hy' i hi => ?_⟩
  ·intro s hs'
   obtain ⟨i, hi, rfl⟩ := List.mem_map.1 hs'
   obtain ⟨u, v, p, q, k0, k1, k2, k3, w0, w1, w2, w3⟩ := each i (List.mem_range.1 hi)
   simp [fi, k0, k1, w0, w1]
  cases hy'
  obtain ⟨u, v, p, q, k0, k1, k2, k3, w0, w1, w2, w3⟩ := each i hi
  rw [hg i hi]
  have g0 : fi (i * 4) = u := by simp [fi, k0]
  have g1 : fi (i * 4 + 1) = v := by simp [fi, k1]
  have g2 : f (i * 4 + 2) = p := by simp [f, k2]
  have g3 : f (i * 4 + 3) = q := by simp [f, k3]
  rw [g0, g1, g2, g3]
  exact ⟨p, q, k0, k1, k2, k3, FV.self w2, FV.self w3⟩
theorem array9 {α : Type} {cs : Array α} (h : cs.size = 9) : ∃ c0 c1 c2 c3 c4 c5 c6 c7 c8, cs = #[c0, c1, c2, c3, c4, c5, c6, c7, c8] := by
 obtain ⟨l⟩ := cs
 match l, h with
 | [c0, c1, c2, c3, c4, c5, c6, c7, c8], _ => exact ⟨c0, c1, c2, c3, c4, c5, c6, c7, c8, rfl⟩
theorem trod_struct6 {t : TypeId} {f0 f1 f2 f3 f4 f5 : Field} {spare : Nat → Bool} {fuel : Nat} {cs : List Value} {x : DataW H × List MemPlace} (ht : P.underlying t = some (.struct #[f0, f1, f2, f3, f4, f5])) (h : DataW.trod enc P w base spare held fuel t cs = some x) :
  ∃ y0 y1 y2 y3 y4 y5 n, DataW.trod enc P w base spare held n f0.type ((cs.drop f0.offset).take (P.cellsOf f0.type)) = some y0 ∧
   DataW.trod enc P w base spare held n f1.type ((cs.drop f1.offset).take (P.cellsOf f1.type)) = some y1 ∧ DataW.trod enc P w base spare held n f2.type ((cs.drop f2.offset).take (P.cellsOf f2.type)) = some y2 ∧
   DataW.trod enc P w base spare held n f3.type ((cs.drop f3.offset).take (P.cellsOf f3.type)) = some y3 ∧ DataW.trod enc P w base spare held n f4.type ((cs.drop f4.offset).take (P.cellsOf f4.type)) = some y4 ∧ DataW.trod enc P w base spare held n f5.type ((cs.drop f5.offset).take (P.cellsOf f5.type)) = some y5 := by
 obtain ⟨xs, n, _, rfl, hl, hlen, hf⟩ := DataW.trod_struct ht h
 match xs, hlen with
 | [y0, y1, y2, y3, y4, y5], _ => exact ⟨y0, y1, y2, y3, y4, y5, n, by simpa using hf 0 f0 rfl, by simpa using hf 1 f1 rfl, by simpa using hf 2 f2 rfl, by simpa using hf 3 f3 rfl, by simpa using hf 4 f4 rfl, by simpa using hf 5 f5 rfl⟩
theorem trod_floats {t e : TypeId} {fuel : Nat} {cs : List Value} {x : DataW H × List MemPlace} (ht : P.underlying t = some (.slice e)) (he : P.underlying e = some (.float .f32)) (hc : P.cellsOf e = 1)
  (h : DataW.trod enc P w base (fun _ => true) held fuel t cs = some x) : ∃ a len cap zs, cs = [.slice a len cap] ∧ IsFs .f32 w a len cap zs := by
 obtain ⟨a, len, cap, rfl⟩ := Joins.slice_form ht h
 obtain ⟨zs, hz⟩ := open_floats ht he hc ⟨fuel, h⟩
 exact ⟨a, len, cap, zs, rfl, hz⟩
theorem open_body {r : Reach} {b0 : Nat} {t : TypeId} {g0 g1 g2 g3 g4 g5 : Field} {m0 m1 : Field} {ev eq : TypeId} {f0 f1 f2 : Field} {er : TypeId} {es : TypeId} {q0 q1 q2 q3 : Field} {ew : TypeId} {v0 v1 v2 : Field} {v : Value} {d : DataW H} {p : List MemPlace}
  (hs : P.underlying t = some (.struct #[g0, g1, g2, g3, g4, g5])) (hoff : [g0.offset, g1.offset, g2.offset, g3.offset, g4.offset, g5.offset] = [0, 2, 3, 4, 5, 6]) (hcl : [P.cellsOf g0.type, P.cellsOf g1.type, P.cellsOf g2.type, P.cellsOf g3.type, P.cellsOf g4.type, P.cellsOf g5.type] = [2, 1, 1, 1, 1, 3]) (hC : P.cellsOf t = 9)
  (hm : P.underlying g0.type = some (.struct #[m0, m1])) (honem : oneCellFields P #[m0, m1] = true)
  (hp : P.underlying m0.type = some (.slice ev)) (hev : P.underlying ev = some (.struct #[f0, f1, f2])) (honev : oneCellFields P #[f0, f1, f2] = true) (hCv : P.cellsOf ev = 3)
  (he0 : P.underlying f0.type = some (.float .f32)) (he1 : P.underlying f1.type = some (.float .f32)) (he2 : P.underlying f2.type = some (.float .f32))
  (ht : P.underlying m1.type = some (.slice er)) (her : P.underlying er = some (.slice eq)) (heq : P.underlying eq = some (.int .i64)) (ce : P.cellsOf er = 1) (cq : P.cellsOf eq = 1)
  (hsp : P.underlying g1.type = some (.slice es)) (hes : P.underlying es = some (.struct #[q0, q1, q2, q3])) (hones : oneCellFields P #[q0, q1, q2, q3] = true) (hCs : P.cellsOf es = 4)
  (hq0 : P.underlying q0.type = some (.int .i64)) (hq1 : P.underlying q1.type = some (.int .i64)) (hq2 : P.underlying q2.type = some (.float .f32)) (hq3 : P.underlying q3.type = some (.float .f32))
  (hf : P.underlying g2.type = some (.float .f32)) (hb : P.underlying g3.type = some (.float .f32))
  (hw : P.underlying g4.type = some (.slice ew)) (hew : P.underlying ew = some (.float .f32)) (cw : P.cellsOf ew = 1)
  (hv5 : P.underlying g5.type = some (.struct #[v0, v1, v2])) (honev5 : oneCellFields P #[v0, v1, v2] = true)
  (hv0 : P.underlying v0.type = some (.float .f32)) (hv1 : P.underlying v1.type = some (.float .f32)) (hv2 : P.underlying v2.type = some (.float .f32))
  (hv : Value.okWide P w r b0 t v) (h : DataW.Trod enc P w base (fun _ => true) held t v d p) :
  ∃ pa ta sa wa pl pc tl tc sl sc wl wc cs ts ss zs film bend x y z, v = .agg #[.slice pa pl pc, .slice ta tl tc, .slice sa sl sc, .float .f32 film, .float .f32 bend, .slice wa wl wc, .float .f32 x, .float .f32 y, .float .f32 z] ∧
   IsVs w pa pl pc cs ∧ IsTs w ta tl tc ts ∧ IsSs w sa sl sc ss ∧ IsFs .f32 w wa wl wc zs ∧ (film < 2 ^ FloatKind.f32.format.width ∧ bend < 2 ^ FloatKind.f32.format.width ∧ x < 2 ^ FloatKind.f32.format.width ∧ y < 2 ^ FloatKind.f32.format.width ∧ z < 2 ^ FloatKind.f32.format.width) := by
 obtain ⟨cs, rfl, hsz⟩ := okWide_struct hs hv
 obtain ⟨c0, c1, c2, c3, c4, c5, c6, c7, c8, rfl⟩ := array9 (hsz.trans hC)
 obtain ⟨fuel, hfu⟩ := h
 obtain ⟨y0, y1, y2, y3, y4, y5, n, h0, h1, h2, h3, h4, h5⟩ := trod_struct6 hs hfu
 simp only [List.cons.injEq, and_true] at hoff hcl
 obtain ⟨o0, o1, o2, o3, o4, o5⟩ := hoff
 obtain ⟨l0, l1, l2, l3, l4, l5⟩ := hcl
 rw [o0, l0] at h0
 rw [o1, l1] at h1
 rw [o2, l2] at h2
 rw [o3, l3] at h3
 rw [o4, l4] at h4
 rw [o5, l5] at h5
 simp [Value.cells] at h0 h1 h2 h3 h4 h5
 obtain ⟨u0, u1, n1, _, _, i0, i1⟩ := trod_struct2 hm h0
 obtain ⟨a0, b0'⟩ := hone_of honem 0 m0 rfl
 obtain ⟨a1, b1'⟩ := hone_of honem 1 m1 rfl
 rw [a0, b0'] at i0
 rw [a1, b1'] at i1
 simp at i0 i1
 obtain ⟨pa, pl, pc, cs, e0, w0⟩ := trod_vecs hp hev honev hCv he0 he1 he2 i0
 obtain ⟨ta, tl, tc, ts, e1, w1⟩ := trod_rows ht her heq ce cq i1
 obtain ⟨sa, sl, sc, ss, e2, w2⟩ := trod_springs hsp hes hones hCs hq0 hq1 hq2 hq3 h1
 obtain ⟨film, e3, w3⟩ := trod_float hf h2
 obtain ⟨bend, e4, w4⟩ := trod_float hb h3
 obtain ⟨wa, wl, wc, zs, e5, w5⟩ := trod_floats hw hew cw h4
 obtain ⟨k0, k1, k2, n2, _, _, j0, j1, j2⟩ := trod_struct3 hv5 h5
 obtain ⟨p0, r0⟩ := hone_of honev5 0 v0 rfl
 obtain ⟨p1, r1⟩ := hone_of honev5 1 v1 rfl
 obtain ⟨p2, r2⟩ := hone_of honev5 2 v2 rfl
 rw [p0, r0] at j0
 rw [p1, r1] at j1
 rw [p2, r2] at j2
 simp at j0 j1 j2
 obtain ⟨x, e6, w6⟩ := trod_float hv0 j0
 obtain ⟨y, e7, w7⟩ := trod_float hv1 j1
 obtain ⟨z, e8, w8⟩ := trod_float hv2 j2
 cases e0; cases e1; cases e2; cases e3; cases e4; cases e5; cases e6; cases e7; cases e8
 exact ⟨pa, ta, sa, wa, pl, pc, tl, tc, sl, sc, wl, wc, cs, ts, ss, zs, film, bend, x, y, z, rfl, w0, w1, w2, w5, w3, w4, w6, w7, w8⟩
end
end Fk
end Go.Proofs.YtabccmobmppdnaaGreat
namespace Go.Proofs.YtabccmobmppdnaaGreat
open Go Fk Go.RowKit
set_option linter.unusedVariables false
theorem laws_szInt64S (a : Option Addr) (len cap : Nat) (left : Int) (w : World) (h0 : 0 ≤ left) (h1 : left ≤ 1048576) (h2 : len ≤ 9223372036854775807) :
  Calls Tryz.prog 163 #[.slice a len cap, .int .i64 left] w fun e w' => (∃ r : Int, e = .returned (.int .i64 r) ∧ (r = -1 ∨ (0 ≤ r ∧ r ≤ 1048576 ∧ len ≤ 1048576))) ∧ w' = w := by
 by_cases h : left < len
 ·go_enter Tryz.func163, Tryz.ntmps163
  go_wp2
  go_ret
  exact ⟨⟨-1, rfl, .inl rfl⟩, rfl⟩
 ·go_enter Tryz.func163, Tryz.ntmps163
  go_wp2
  go_ret
  exact ⟨⟨_, rfl, .inr ⟨by omega, by omega, by omega⟩⟩, rfl⟩
theorem laws_szVectorS (a : Option Addr) (len cap : Nat) (left : Int) (w : World) (h0 : 0 ≤ left) (h1 : left ≤ 1048576) (h2 : len ≤ 9223372036854775807) :
  Calls Tryz.prog 16 #[.slice a len cap, .int .i64 left] w fun e w' => (∃ r : Int, e = .returned (.int .i64 r) ∧ (r = -1 ∨ (0 ≤ r ∧ r ≤ 1048576 ∧ len ≤ 1048576))) ∧ w' = w := by
 by_cases h : left < len
 ·go_enter Tryz.func16, Tryz.ntmps16
  go_wp2
  go_ret
  exact ⟨⟨-1, rfl, .inl rfl⟩, rfl⟩
 ·go_enter Tryz.func16, Tryz.ntmps16
  go_wp2
  go_ret
  exact ⟨⟨_, rfl, .inr ⟨by omega, by omega, by omega⟩⟩, rfl⟩
end Go.Proofs.YtabccmobmppdnaaGreat
namespace Go.Proofs.YtabccmobmppdnaaGreat
open Go Fk Go.RowKit
set_option linter.unusedVariables false
set_option maxRecDepth 8000
theorem laws_szInt64SS (a : Option Addr) (len cap : Nat) (ts : List (List Int)) (left : Int) (w : World) (ha : IsTs w a len cap ts) (h0 : 0 ≤ left) (h1 : left ≤ 1048576) :
  Calls Tryz.prog 121 #[.slice a len cap, .int .i64 left] w fun e w' => (∃ r : Int, e = .returned (.int .i64 r) ∧ (r = -1 ∨ (0 ≤ r ∧ r ≤ 1048576 ∧ len ≤ 1048576 ∧ ∀ k, k < len → (ts.getD k []).length ≤ 1048576))) ∧ w' = w := by
 have hm : len ≤ 9223372036854775807 := by have h1 := ha.2.1; have h2 := ha.2.2.1; unfold maxLen at h2; omega
 by_cases h : left < len
 ·go_enter Tryz.func121, Tryz.ntmps121
  go_wp2
  go_ret
  exact ⟨⟨-1, rfl, .inl rfl⟩, rfl⟩
 ·have hA : len ≤ 1048576 := by omega
  go_enter Tryz.func121, Tryz.ntmps121
  go_wp2
  go_loopw [1, 5] (fun l i w' => ∃ k : Nat, k ≤ len ∧ i = .int .i64 k ∧ (∃ r : Int, l = .int .i64 r ∧ 0 ≤ r ∧ r ≤ 1048576) ∧ (∀ j, j < k → (ts.getD j []).length ≤ 1048576) ∧ w' = w) (fun _ i _ => len - (intOf i).toNat)
  case atStart => exact ⟨0, Nat.zero_le _, rfl, ⟨_, rfl, by omega, by omega⟩, fun j hj => absurd hj (by omega), rfl⟩
  case round =>
   obtain ⟨k, hk, rfl, ⟨r, rfl, hr0, hr1⟩, hrows, rfl⟩ := hrel
   by_cases hlt : k < len
   ·obtain ⟨b, o, rfl, hcell⟩ := ha.some (by omega)
    obtain ⟨ra, n, c, hc, hi⟩ := hcell k hlt
    have hnl : (ts.getD k []).length = n := hi.1
    have hn : n ≤ 9223372036854775807 := by have h1 := hi.2.1; have h2 := hi.2.2.1; unfold maxLen at h2; omega
    have hk0 : (0 : Int) ≤ (k : Int) := by omega
    have hk1 : (k : Int) < (len : Int) := by omega
    have HR := Lib.hid hrows
    have HN := Lib.hid hnl
    clear hcell ha hi hrows hnl
    go_wp2_with (go_at_call 163; refine (laws_szInt64S _ _ _ _ _ hr0 hr1 hn).mono ?_; rintro e w1 ⟨⟨r', rfl, hr'⟩, hw1⟩; rw [hw1]; clear hw1 w1; rcases hr' with rfl | ⟨hr2, hr3, hn3⟩)
    ·go_ret
     exact ⟨⟨-1, rfl, .inl rfl⟩, rfl⟩
    ·go_wp2
     go_roundw
     case rel =>
      refine ⟨k + 1, by omega, by go_num, ⟨_, rfl, hr2, hr3⟩, fun j hj => ?_, (by first | trivial | rfl)⟩
      by_cases hjk : j = k
      ·subst hjk; rw [HN.out]; exact hn3
      ·exact HR.out j (by omega)
     case measure => simp [intOf]; omega
   ·have hR := Lib.hid hrows
    clear hrows ha
    go_wp2
    go_ret
    exact ⟨⟨_, rfl, .inr ⟨hr0, hr1, hA, fun j hj => hR.out j (by omega)⟩⟩, rfl⟩
def curL (vs : List Value) (d : Value) (n k : Nat) : Array Value := (vs.take k ++ List.replicate (n - k) d).toArray
theorem curL_zero (vs : List Value) (d : Value) (n : Nat) : curL vs d n 0 = madeCells #[d] n := by
 unfold curL madeCells
 apply Array.ext'
 apply List.ext_getElem?
 intro i
 by_cases hi : i < n
 ·simp [hi, Nat.mod_one]
 ·simp [hi]
theorem curL_set (vs : List Value) (d : Value) (n k : Nat) (hk : k < n) (hz : vs.length = n) : (curL vs d n k).setIfInBounds k (vs.getD k d) = curL vs d n (k + 1) := by
 unfold curL
 apply Array.ext'
 rw [Array.toList_setIfInBounds]
 apply List.ext_getElem?
 intro i
 have hk' : k < vs.length := by omega
 have hl : (vs.take k).length = k := by simp; omega
 have hl' : (vs.take (k + 1)).length = k + 1 := by simp; omega
 rw [List.getElem?_set]
 by_cases hi : k = i
 ·subst hi
  rw [if_pos rfl, if_pos (by simp; omega), List.getElem?_append_left (by omega)]
  simp [hk']
 ·rw [if_neg hi]
  by_cases h1 : i < k
  ·rw [List.getElem?_append_left (by omega), List.getElem?_append_left (by omega)]
   simp [h1, show i < k + 1 by omega]
  ·rw [List.getElem?_append_right (by omega), List.getElem?_append_right (by omega), hl, hl', List.getElem?_replicate, List.getElem?_replicate]
   by_cases h2 : i < n
   ·rw [if_pos (by omega), if_pos (by omega)]
   ·rw [if_neg (by omega), if_neg (by omega)]
theorem curL_size (vs : List Value) (d : Value) (n k : Nat) (hk : k ≤ n) (hz : vs.length = n) : (curL vs d n k).size = n := by unfold curL; simp; omega
theorem curL_end (vs : List Value) (d : Value) (n : Nat) (hz : vs.length = n) (i : Nat) (hi : i < n) : (curL vs d n n)[i]? = some (vs.getD i d) := by
 have hi' : i < vs.length := by omega
 have ht : vs.take n = vs := List.take_of_length_le (by omega)
 unfold curL
 rw [ht]
 simp [hi']
theorem info64 : (Tryz.prog.info? 2).map (fun i => (i.zero, i.size, i.bytes)) = some (some (.int .i64 0), 1, 8) := by kernel_rfl
def ints (zs : List Int) : List Value := zs.map fun z => .int .i64 z
theorem ints_getD (zs : List Int) (k : Nat) : (ints zs).getD k (.int .i64 0) = .int .i64 (zs.getD k 0) := by
 unfold ints
 by_cases h : k < zs.length
 ·simp [List.getD, h]
 ·simp [List.getD, h]
set_option maxHeartbeats 400000 in
theorem laws_toInt64S (a : Option Addr) (len cap : Nat) (zs : List Int) (w : World) (h : IsIs w a len cap zs) (hlen : len ≤ 1048576) :
  Calls Tryz.prog 19 #[.slice a len cap] w fun e w' => e = .returned (.slice (some ⟨w.heap.size, 0, none⟩) len len) ∧ IsIs w' (some ⟨w.heap.size, 0, none⟩) len len zs ∧ Below w.heap.size w w' ∧ w.heap.size < w'.heap.size := by
 obtain ⟨i0, hi, hz0, hz1, hz2⟩ := info_parts info64
 have hzl := h.1
 have hil : (ints zs).length = len := by unfold ints; simp; exact hzl
 have hzb := h.2.2.2.1
 have hmk : (Instr.makeSlice 33 (.int .i64 len) (.int .i64 len)).run Tryz.prog w = .ok (.slice (some ⟨w.heap.size, 0, none⟩) len len) (w.alloc (.cells (curL (ints zs) (.int .i64 0) len 0) 2)) := by
  have := run_make (P := Tryz.prog) w 33 2 i0 (.int .i64 0) Tryz.underlying33 hi hz0 .i64 .i64 len len (by omega) (Int.le_refl _) (by rw [hz2]; omega) (by omega)
  rw [this, hz1, curL_zero]; simp; rfl
 have hfin : IsIs (w.alloc (.cells (curL (ints zs) (.int .i64 0) len len) 2)) (some ⟨w.heap.size, 0, none⟩) len len zs := by
  refine ⟨hzl, Nat.le_refl _, by unfold maxLen; omega, hzb, by simp, fun x hx i hi => ?_⟩
  cases hx
  have := curL_end (ints zs) (.int .i64 0) len hil i hi
  rw [ints_getD] at this
  rw [addr_add', Nat.zero_add]; simp [this]
 have HF := Lib.hid hfin
 clear hfin hzb
 go_enter Tryz.func19, Tryz.ntmps19
 go_wp2
 go_loopw [4] (fun i w' => ∃ k : Nat, k ≤ len ∧ i = .int .i64 k ∧ w' = w.alloc (.cells (curL (ints zs) (.int .i64 0) len k) 2)) (fun i _ => len - (intOf i).toNat)
 case atStart => exact ⟨0, Nat.zero_le _, rfl, rfl⟩
 case round =>
  obtain ⟨k, hk, rfl, rfl⟩ := hrel
  by_cases hlt : k < len
  ·obtain ⟨b, o, rfl, hcell⟩ := h.some (by omega)
   have hc0 := hcell k hlt
   have hblt := World.block_lt_of_cell? w _ hc0
   have hc : (w.alloc (.cells (curL (ints zs) (.int .i64 0) len k) 2)).cell? ⟨b, o + k, none⟩ = some (.int .i64 (zs.getD k 0)) := by rw [World.cell?_alloc_lt (h := hblt)]; exact hc0
   have hsz := curL_size (ints zs) (.int .i64 0) len k hk hil
   have hd : (w.alloc (.cells (curL (ints zs) (.int .i64 0) len k) 2)).cell? ⟨w.heap.size, k, none⟩ = some ((curL (ints zs) (.int .i64 0) len k)[k]'(by omega)) := by simp [hsz, hlt]
   have hset2 : (curL (ints zs) (.int .i64 0) len k).setIfInBounds k (.int .i64 (zs.getD k 0)) = curL (ints zs) (.int .i64 0) len (k + 1) := by
    have := curL_set (ints zs) (.int .i64 0) len k hlt hil
    rwa [ints_getD] at this
   generalize zs.getD k 0 = z at *
   have HS := Lib.hid hset2
   clear hset2 hcell hc0 hblt
   go_wp2
   go_roundw
   case rel => exact ⟨k + 1, by omega, by go_num, by rw [HS.out]⟩
   case measure => simp [intOf]; omega
  ·obtain rfl : k = len := by omega
   go_wp2
   go_ret
   exact ⟨rfl, HF.out, (Below.refl _ _).alloc (Nat.le_refl _) _, by simp⟩
end Go.Proofs.YtabccmobmppdnaaGreat
namespace Go.Proofs.YtabccmobmppdnaaGreat
namespace Reg
open Go
set_option linter.unusedVariables false
def low (ops : Array Oper) : Bool := (List.range ops.size).all fun i => ((ops[i]?).map fun o => o.after.all fun e => decide (e.on < i)).getD true
theorem low_spec {ops : Array Oper} (h : low ops = true) {i : Nat} {o : Oper} (ho : ops[i]? = some o) : ∀ e ∈ o.after, e.on < i := by
 have hlt : i < ops.size := (Array.getElem?_eq_some_iff.1 ho).1
 unfold low at h
 rw [List.all_eq_true] at h
 have := h i (List.mem_range.2 hlt)
 rw [ho] at this
 simp only [Option.map_some, Option.getD_some, Array.all_eq_true_iff_forall_mem, decide_eq_true_eq] at this
 exact this
theorem cnt_set : ∀ (l : List Bool) (i : Nat), l[i]? = some false → (l.set i true).count false + 1 = l.count false
 | [], i, h => by simp at h
 | b :: l, 0, h => by simp at h; subst h; simp
 | b :: l, i + 1, h => by
  have ih := cnt_set l i (by simpa using h)
  simp only [List.set_cons_succ, List.count_cons]
  omega
theorem cnt_zero : ∀ (l : List Bool), l.count false = 0 → ∀ i : Nat, i < l.length → l[i]? = some true
 | [], _, i, hi => by simp at hi
 | b :: l, h, i, hi => by
  cases b
  ·simp at h
  ·cases i with
   | zero => rfl
   | succ i => simpa using cnt_zero l (by simpa using h) i (by simpa using hi)
section
variable {P : Program} {ops : Array Oper} {Q : Exit → Act → World → Prop} {md : Region.Mode}
theorem all_of_none (hlow : low ops = true) {listed : Array Bool} (hs : listed.size = ops.size) (hr : Region.ready md ops listed = []) : ∀ i, i < ops.size → listed.getD i false = true := by
 intro i
 induction i using Nat.strongRecOn with
 | _ i ih =>
  intro hi
  cases hl : listed.getD i false
  ·exfalso
   obtain ⟨o, ho⟩ : ∃ o, ops[i]? = some o := ⟨_, Array.getElem?_eq_getElem hi⟩
   have hm : i ∈ Region.ready md ops listed := by
    refine mem_ready.2 ⟨?_, o, ho, fun e he _ => ih e.on (low_spec hlow ho e he) (Nat.lt_trans (low_spec hlow ho e he) hi)⟩
    have hlt : i < listed.size := by omega
    simp [hlt] at hl ⊢; exact hl
   rw [hr] at hm; cases hm
  ·rfl
theorem wpAny_inv (hlow : low ops = true) {Inv : Array Bool → Act → World → Prop}
  (hstep : ∀ i listed a w, listed.size = ops.size → i ∈ Region.ready md ops listed → Inv listed a w → wpOp P ops Q i (Inv (listed.setIfInBounds i true)) a w)
  (hend : ∀ listed a w, (∀ i, i < ops.size → listed.getD i false = true) → Inv listed a w → Q .normal a w) :
  ∀ (fuel : Nat) (listed : Array Bool) (a : Act) (w : World), listed.size = ops.size → listed.toList.count false ≤ fuel → Inv listed a w → wpAny P md ops Q fuel listed a w
 | 0, listed, a, w, hs, hf, hI => by
  have hall : ∀ i, i < ops.size → listed.getD i false = true := by
   intro i hi
   have := cnt_zero listed.toList (by omega) i (by simp; omega)
   have hlt : i < listed.size := by omega
   simp [hlt] at this ⊢; exact this
  refine ⟨?_, hend _ _ _ hall hI⟩
  cases hr : Region.ready md ops listed with
  | nil => rfl
  | cons j l =>
   have hj : j ∈ Region.ready md ops listed := by rw [hr]; exact List.mem_cons_self
   obtain ⟨h1, o, ho, _⟩ := mem_ready.1 hj
   have hlt : j < ops.size := (Array.getElem?_eq_some_iff.1 ho).1
   have h2 := hall j hlt
   have hlt' : j < listed.size := by omega
   simp [hlt'] at h1 h2
   rw [h1] at h2; cases h2
 | fuel + 1, listed, a, w, hs, hf, hI => by
  refine ⟨fun hr => hend _ _ _ (all_of_none hlow hs hr) hI, fun i hi => ?_⟩
  refine wpOp_mono (fun a' w' h => wpAny_inv hlow hstep hend fuel _ a' w' (by simpa using hs) ?_ h) (hstep i listed a w hs hi hI)
  obtain ⟨h1, o, ho, _⟩ := mem_ready.1 hi
  have hlt : i < listed.size := by have := (Array.getElem?_eq_some_iff.1 ho).1; omega
  have hg : listed.toList[i]? = some false := by simp [hlt] at h1 ⊢; exact h1
  have := cnt_set listed.toList i hg
  rw [Array.toList_setIfInBounds]
  omega
def slotOf (ops : Array Oper) (j : Nat) : Option Tmp := (ops[j]?).bind (·.dst)
def behind (ops : Array Oper) (i j : Nat) : Bool := ((ops[j]?).map fun o => o.after.any fun e => e.on == i && Region.binds .any e).getD false
def tidy (ops : Array Oper) (n : Nat) : Bool :=
 low ops && (ops.all fun o => o.guard.isNone) && (ops.all fun o => (o.dst.map fun d => decide (d < n)).getD true) &&
 ((List.range ops.size).all fun i => (List.range ops.size).all fun j => i == j || slotOf ops i == none || slotOf ops i != slotOf ops j) &&
 (List.range ops.size).all fun j => slotOf ops j != none || (List.range ops.size).all fun i => i == j || behind ops i j
theorem slot_val {a : Act} {t : Tmp} {v : Value} (h : a.eval (.tmp t) = v) : a.tmps[t]?.getD undef = v := by simpa [Act.eval] using h
def Has (ops : Array Oper) (R : Nat → Value → World → Prop) (j : Nat) (a : Act) (w : World) : Prop := ∀ d, slotOf ops j = some d → R j (a.eval (.tmp d)) w
def HasT (ops : Array Oper) (T : Nat → Act → World → Prop) (j : Nat) (a : Act) (w : World) : Prop := slotOf ops j = none → j < ops.size → T j a w
theorem behind_spec {ops : Array Oper} {i j : Nat} {o : Oper} (h : behind ops i j = true) (ho : ops[j]? = some o) : ∃ e ∈ o.after, e.on = i ∧ Region.binds .any e = true := by
 unfold behind at h
 rw [ho] at h
 simp only [Option.map_some, Option.getD_some] at h
 obtain ⟨k, hk, hp⟩ := Array.any_eq_true.1 h
 simp only [Bool.and_eq_true, beq_iff_eq] at hp
 exact ⟨_, Array.getElem_mem hk, hp.1, hp.2⟩
def Obl (P : Program) (ops : Array Oper) (a0 : Act) (C : World → Prop) (G : World → World → Prop) (R : Nat → Value → World → Prop) (T : Nat → Act → World → Prop) (Q : Exit → Act → World → Prop) (i : Nat) (o : Oper) : Prop :=
 ∀ a w, C w → (∀ t, ((List.range ops.size).all fun j => slotOf ops j != some t || behind ops i j) = true → a.eval (.tmp t) = a0.eval (.tmp t)) →
  (∀ j, behind ops j i = true → Has ops R j a w) →
  o.wp P a w (fun a' w' => ∃ v, a' = a.put o.dst v ∧ (o.dst ≠ none → R i v w') ∧ (o.dst = none → T i a w') ∧ C w' ∧ G w w') Q
def OblAll (P : Program) (ops : Array Oper) (a0 : Act) (C : World → Prop) (G : World → World → Prop) (R : Nat → Value → World → Prop) (T : Nat → Act → World → Prop) (Q : Exit → Act → World → Prop) : Nat → List Oper → Prop
 | _, [] => True
 | i, o :: l => Obl P ops a0 C G R T Q i o ∧ OblAll P ops a0 C G R T Q (i + 1) l
theorem OblAll.get {a0 : Act} {C : World → Prop} {G : World → World → Prop} {R : Nat → Value → World → Prop} {T : Nat → Act → World → Prop} :
  ∀ {l : List Oper} {k : Nat}, OblAll P ops a0 C G R T Q k l → ∀ {i : Nat} {o : Oper}, l[i]? = some o → Obl P ops a0 C G R T Q (k + i) o
 | [], _, _, _, _, h => by simp at h
 | _ :: _, _, h, 0, _, ho => by simp at ho; subst ho; exact h.1
 | _ :: l, k, h, i + 1, _, ho => by
  have := OblAll.get h.2 (i := i) (by simpa using ho)
  rwa [Nat.add_assoc, Nat.add_comm 1 i] at this
theorem Obl.mk {a0 : Act} {C : World → Prop} {G : World → World → Prop} {R : Nat → Value → World → Prop} {T : Nat → Act → World → Prop} {i : Nat} {o : Oper}
  (h : ∀ a w, C w → (∀ t, ((List.range ops.size).all fun j => slotOf ops j != some t || behind ops i j) = true → a.eval (.tmp t) = a0.eval (.tmp t)) →
   (∀ j, behind ops j i = true → Has ops R j a w) → ∀ K : Act → World → Prop, (∀ v w', (o.dst ≠ none → R i v w') → (o.dst = none → T i a w') → C w' → G w w' → K (a.put o.dst v) w') → o.wp P a w K Q) : Obl P ops a0 C G R T Q i o :=
 fun a w hC he hd => h a w hC he hd _ fun v w' h1 h2 h3 h4 => ⟨v, rfl, h1, h2, h3, h4⟩
theorem wp_region_inv {id : Nat} {a0 : Act} {w0 : World} {C : World → Prop} {G : World → World → Prop} {R : Nat → Value → World → Prop} {T : Nat → Act → World → Prop} (hm : P.follows .mixedOrders = true) (ht : tidy ops a0.tmps.size = true)
  (hG : ∀ j v w w', C w → G w w' → R j v w → R j v w') (hC : C { w0 with drawn := w0.drawn + 1 })
  (hO : OblAll P ops a0 C G R T Q 0 ops.toList)
  (hQ : ∀ a w, C w → a.defers = a0.defers → a.tmps.size = a0.tmps.size → (∀ t, (ops.all fun o => o.dst != some t) = true → a.eval (.tmp t) = a0.eval (.tmp t)) → (∀ j, j < ops.size → Has ops R j a w) → (∀ j, HasT ops T j a w) → Q .normal a w) :
  (Code.region id ops true).wp P Q a0 w0 := by
 unfold tidy at ht
 simp only [Bool.and_eq_true] at ht
 obtain ⟨⟨⟨⟨hlow, hgd⟩, hbd⟩, hdis⟩, hlast⟩ := ht
 have slot_lt : ∀ {j d}, slotOf ops j = some d → j < ops.size := fun {j d} h => by
  unfold slotOf at h
  cases ho : ops[j]? with
  | none => rw [ho] at h; cases h
  | some o => exact (Array.getElem?_eq_some_iff.1 ho).1
 have slot_bd : ∀ {j d}, slotOf ops j = some d → d < a0.tmps.size := fun {j d} h => by
  have hj := slot_lt h
  have := Array.all_eq_true.1 hbd j hj
  unfold slotOf at h
  rw [Array.getElem?_eq_getElem hj] at h
  simp only [Option.bind_some] at h
  rw [h] at this
  simpa using this
 have slot_ne : ∀ {i j d}, slotOf ops i = some d → slotOf ops j = some d → i = j := fun {i j d} h1 h2 => by
  have a1 := slot_lt h1
  have a2 := slot_lt h2
  have := List.all_eq_true.1 (List.all_eq_true.1 hdis i (List.mem_range.2 a1)) j (List.mem_range.2 a2)
  rw [h1, h2] at this
  simpa using this
 let Inv : Array Bool → Act → World → Prop := fun listed a w => C w ∧ a.defers = a0.defers ∧ a.tmps.size = a0.tmps.size ∧
  (∀ t, (∀ j, slotOf ops j = some t → listed.getD j false = false) → a.eval (.tmp t) = a0.eval (.tmp t)) ∧
  (∀ j, listed.getD j false = true → Has ops R j a w) ∧ (∀ i j, listed.getD j false = true → behind ops i j = true → listed.getD i false = true) ∧ (∀ j, listed.getD j false = true → HasT ops T j a w)
 refine wp_region_any hm (wpAny_inv (Inv := Inv) hlow ?_ ?_ _ _ _ _ (by simp) (by simp) ⟨hC, rfl, rfl, fun _ _ => rfl, ?_, ?_, ?_⟩)
 ·intro i listed a w hs hi ⟨hCw, hd, hsz, hext, hhas, hcl, hT⟩
  obtain ⟨hun, o, ho, hdeps⟩ := mem_ready.1 hi
  have hilt : i < ops.size := (Array.getElem?_eq_some_iff.1 ho).1
  have hun' : listed.getD i false = false := by
   have : i < listed.size := by omega
   simp [this] at hun ⊢; exact hun
  have hg : o.guard = none := by
   have := Array.all_eq_true.1 hgd i hilt
   rw [Array.getElem?_eq_getElem hilt] at ho
   cases ho
   simpa using this
  have hob := OblAll.get hO (i := i) (o := o) (by simpa using ho)
  rw [Nat.zero_add] at hob
  have hwp := hob a w hCw (fun t htt => hext t fun j hj => by
    have := List.all_eq_true.1 htt j (List.mem_range.2 (slot_lt hj))
    rw [hj] at this
    simp at this
    cases hl : listed.getD j false
    ·rfl
    ·have := hcl i j hl this; rw [hun'] at this; cases this)
   (fun j hj => hhas j (by
    obtain ⟨e, he, h1, h2⟩ := behind_spec hj ho
    rw [← h1]
    exact hdeps e he h2))
  unfold wpOp
  rw [ho]
  simp only [Region.wanted, hg, if_true]
  refine .inl (Oper.wp_mono ?_ hwp)
  rintro a' w' ⟨v, rfl, hR, hTi, hC', hGw⟩
  have hdst : slotOf ops i = o.dst := by unfold slotOf; rw [ho]; rfl
  have keep : ∀ t, o.dst ≠ some t → (a.put o.dst v).eval (.tmp t) = a.eval (.tmp t) := fun t h => Act.eval_put (fun d hd he => h (by rw [hd]; cases he; rfl))
  have lst : ∀ j, (listed.setIfInBounds i true).getD j false = true → j = i ∨ listed.getD j false = true := fun j h => by
   by_cases hji : i = j
   ·exact .inl hji.symm
   ·rw [getD_set_ne false hji] at h; exact .inr h
  refine ⟨hC', ?_, ?_, ?_, ?_, ?_, ?_⟩
  ·rw [← hd]; unfold Act.put; split <;> rfl
  ·rw [← hsz]; unfold Act.put; split <;> simp
  ·intro t htt
   rw [keep t (fun h => by
    have := htt i (by rw [hdst]; exact h)
    have hlt : i < listed.size := by omega
    simp [hlt] at this)]
   refine hext t fun j hj => ?_
   have := htt j hj
   cases hl : listed.getD j false
   ·rfl
   ·rw [getD_set_true hl] at this; cases this
  ·intro j hj d hjd
   rcases lst j hj with rfl | hj'
   ·rw [hdst] at hjd
    have hb := slot_bd (j := j) (by rw [hdst]; exact hjd)
    have : (a.put o.dst v).eval (.tmp d) = v := by
     unfold Act.put Act.eval; rw [hjd]; simp; exact fun h => absurd (Nat.lt_of_lt_of_le hb (hsz ▸ h)) (Nat.lt_irrefl _)
    rw [this]; exact hR (by rw [hjd]; simp)
   ·rw [keep d (fun h => by
     have := slot_ne (show slotOf ops i = some d by rw [hdst]; exact h) hjd
     subst this; rw [hun'] at hj'; cases hj')]
    exact hG _ _ _ _ hCw hGw (hhas j hj' d hjd)
  ·intro i' j hj hb
   rcases lst j hj with rfl | hj'
   ·refine getD_set_true ?_
    obtain ⟨e, he, h1, h2⟩ := behind_spec hb ho
    rw [← h1]; exact hdeps e he h2
   ·exact getD_set_true (hcl i' j hj' hb)
  ·intro j hj hn hlt
   rcases lst j hj with rfl | hj'
   ·rw [hdst] at hn
    have : a.put o.dst v = a := by rw [hn]; rfl
    rw [this]; exact hTi hn
   ·exfalso
    have h1 := List.all_eq_true.1 hlast j (List.mem_range.2 hlt)
    rw [hn] at h1
    simp only [bne_self_eq_false, Bool.false_or] at h1
    have h2 := List.all_eq_true.1 h1 i (List.mem_range.2 hilt)
    have hne : i ≠ j := fun e => by subst e; rw [hun'] at hj'; cases hj'
    simp [hne] at h2
    have := hcl i j hj' h2
    rw [hun'] at this; cases this
 ·intro listed a w hall ⟨hCw, hd, hsz, hext, hhas, _, hT⟩
  refine hQ a w hCw hd hsz (fun t htt => hext t fun j hj => ?_) (fun j hj => hhas j (hall j hj)) (fun j hn hlt => hT j (hall j hlt) hn hlt)
  exfalso
  have hlt := slot_lt hj
  have := Array.all_eq_true.1 htt j hlt
  unfold slotOf at hj
  rw [Array.getElem?_eq_getElem hlt] at hj
  simp only [Option.bind_some] at hj
  rw [hj] at this
  simp at this
 ·intro j hj
  simp at hj
  rw [Array.getElem?_replicate] at hj; split at hj <;> simp at hj
 ·intro i j hj
  simp at hj
  rw [Array.getElem?_replicate] at hj; split at hj <;> simp at hj
 ·intro j hj
  simp at hj
  rw [Array.getElem?_replicate] at hj; split at hj <;> simp at hj
def mixL (f : Nat → Value) : List Bool → Nat → List Value → List Value
 | true :: m, k, _ :: l => f k :: mixL f m (k + 1) l
 | false :: m, k, v :: l => v :: mixL f m (k + 1) l
 | _, _, _ => []
theorem mixL_eq (f : Nat → Value) : ∀ (m : List Bool) (k : Nat) (l : List Value), m.length = l.length → (∀ i, m[i]? = some false → l[i]? = some (f (k + i))) → mixL f m k l = (List.range' k l.length).map f
 | [], k, [], _, _ => rfl
 | true :: m, k, v :: l, hl, h => by
  rw [mixL, mixL_eq f m (k + 1) l (by simpa using hl) (fun i hi => by have := h (i + 1) (by simpa using hi); rw [show k + 1 + i = k + (i + 1) by omega]; simpa using this)]
  simp [List.range'_succ]
 | false :: m, k, v :: l, hl, h => by
  have h0 := h 0 rfl
  rw [mixL, mixL_eq f m (k + 1) l (by simpa using hl) (fun i hi => by have := h (i + 1) (by simpa using hi); rw [show k + 1 + i = k + (i + 1) by omega]; simpa using this)]
  simp at h0
  simp [List.range'_succ, h0]
 | [], _, _ :: _, hl, _ => by simp at hl
 | _ :: _, _, [], hl, _ => by simp at hl
def maskOk (ops : Array Oper) (m : List Bool) (n : Nat) : Bool := (m.length == n) && (List.range n).all fun t => m.getD t false || ops.all fun o => o.dst != some t
theorem wp_region_mix {id : Nat} {a0 : Act} {w0 : World} {C : World → Prop} {G : World → World → Prop} {R : Nat → Value → World → Prop} {T : Nat → Act → World → Prop} (m : List Bool) (hm : P.follows .mixedOrders = true) (ht : tidy ops a0.tmps.size = true)
  (hk : maskOk ops m a0.tmps.size = true)
  (hG : ∀ j v w w', C w → G w w' → R j v w → R j v w') (hC : C { w0 with drawn := w0.drawn + 1 })
  (hO : OblAll P ops a0 C G R T Q 0 ops.toList)
  (hQ : ∀ (f : Nat → Value) w, C w → (∀ j d, slotOf ops j = some d → R j (f d) w) → (∀ j, HasT ops T j ⟨(mixL f m 0 a0.tmps.toList).toArray, a0.defers⟩ w) → Q .normal ⟨(mixL f m 0 a0.tmps.toList).toArray, a0.defers⟩ w) :
  (Code.region id ops true).wp P Q a0 w0 := by
 refine wp_region_inv hm ht hG hC hO fun a w hCw hd hsz hext hhas hT => ?_
 unfold maskOk at hk
 simp only [Bool.and_eq_true, beq_iff_eq] at hk
 obtain ⟨hml, hmk⟩ := hk
 have e : a = ⟨(mixL (fun t => a.eval (.tmp t)) m 0 a0.tmps.toList).toArray, a0.defers⟩ := by
  rw [mixL_eq _ _ _ _ (by simpa using hml) ?_]
  ·cases a with
   | mk tmps defers =>
    simp only [Act.mk.injEq]
    refine ⟨?_, hd⟩
    apply Array.ext'
    apply List.ext_getElem?
    intro i
    simp only at hsz
    by_cases hi : i < tmps.size
    ·have hi' : i < a0.tmps.size := by omega
     simp [hi, hi', Act.eval]
    ·have hi' : ¬ i < a0.tmps.size := by omega
     simp [hi, hi']
  ·intro i hi
   have hlt : i < a0.tmps.size := by
    have := (List.getElem?_eq_some_iff.1 hi).1; omega
   have h1 := List.all_eq_true.1 hmk i (List.mem_range.2 hlt)
   have h2 : m.getD i false = false := by simp [List.getD, hi]
   rw [h2, Bool.false_or] at h1
   have h3 := hext i h1
   rw [Nat.zero_add, h3]
   simp [Act.eval, hlt]
 have h1 : ∀ j d, slotOf ops j = some d → R j ((fun t => a.eval (.tmp t)) d) w := fun j d hj => hhas j (by
  unfold slotOf at hj
  cases ho : ops[j]? with
  | none => rw [ho] at hj; cases hj
  | some o => exact (Array.getElem?_eq_some_iff.1 ho).1) d hj
 rw [e] at hT ⊢
 exact hQ (fun t => a.eval (.tmp t)) w hCw h1 hT
end
end Reg
end Go.Proofs.YtabccmobmppdnaaGreat
namespace Go.Proofs.YtabccmobmppdnaaGreat
open Go Fk Go.RowKit
set_option linter.unusedVariables false
set_option maxRecDepth 8000
theorem _root_.Go.Proofs.YtabccmobmppdnaaGreat.Fk.IsIs.set {w : World} {a : Addr} {v : Value} {b len cap : Nat} {o : Nat} {zs : List Int} (h : IsIs w (some ⟨b, o, none⟩) len cap zs) (hne : a.block ≠ b) : IsIs (w.setCell a v) (some ⟨b, o, none⟩) len cap zs := by
 obtain ⟨h1, h2, h3, h4, h5, h6⟩ := h
 refine ⟨h1, h2, h3, h4, h5, fun x hx i hi => ?_⟩
 have hc := h6 x hx i hi
 cases hx
 rw [addr_add'] at hc ⊢
 rw [World.cell?_setCell_other _ _ _ _ (by intro h; apply hne; rw [h])]; exact hc
theorem infoS : (Tryz.prog.info? 33).map (fun i => (i.zero, i.size, i.bytes)) = some (some (.slice none 0 0), 1, 24) := by kernel_rfl
theorem made_cell (w : World) (v : Value) (n i : Nat) (t : TypeId) (hi : i < n) : (w.alloc (.cells (madeCells #[v] n) t)).cell? ⟨w.heap.size, i, none⟩ = some v := by
 have : (madeCells #[v] n)[i]? = some v := by unfold madeCells; simp [hi, Nat.mod_one]
 simp [this]
set_option maxHeartbeats 400000 in
theorem laws_toInt64SS (a : Option Addr) (len cap : Nat) (ts : List (List Int)) (w : World) (h : IsTs w a len cap ts) (hlen : len ≤ 1048576) (hrow : ∀ k, k < len → (ts.getD k []).length ≤ 1048576) :
  Calls Tryz.prog 125 #[.slice a len cap] w fun e w' => e = .returned (.slice (some ⟨w.heap.size, 0, none⟩) len len) ∧ IsTs w' (some ⟨w.heap.size, 0, none⟩) len len ts ∧ Below w.heap.size w w' ∧ w.heap.size < w'.heap.size := by
 obtain ⟨i0, hi, hz0, hz1, hz2⟩ := info_parts infoS
 have hzl := h.1
 obtain ⟨g, hg⟩ : ∃ g, g = w.heap.size := ⟨_, rfl⟩
 have hmk : (Instr.makeSlice 23 (.int .i64 len) (.int .i64 len)).run Tryz.prog w = .ok (.slice (some ⟨g, 0, none⟩) len len) (w.alloc (.cells (madeCells #[.slice none 0 0] len) 33)) := by
  have := run_make (P := Tryz.prog) w 23 33 i0 (.slice none 0 0) Tryz.underlying23 hi hz0 .i64 .i64 len len (by omega) (Int.le_refl _) (by rw [hz2]; omega) (by omega)
  rw [this, hz1, hg]; simp; rfl
 have hstart : Below w.heap.size w (w.alloc (.cells (madeCells #[.slice none 0 0] len) 33)) ∧ g < (w.alloc (.cells (madeCells #[.slice none 0 0] len) 33)).heap.size ∧
   (∀ j, j < len → ∃ v, (w.alloc (.cells (madeCells #[.slice none 0 0] len) 33)).cell? ⟨g, j, none⟩ = some v) ∧ (∀ j, (w.alloc (.cells (madeCells #[.slice none 0 0] len) 33)).frozen? ⟨g, j, none⟩ = false) := by
  subst hg
  exact ⟨(Below.refl _ _).alloc (Nat.le_refl _) _, by simp, fun j hj => ⟨_, made_cell w _ len j _ hj⟩, fun j => by simp⟩
 rw [← hg] at hstart ⊢
 have HST := Lib.hid hstart
 have HG := Lib.hid hg
 clear hstart hg
 go_enter Tryz.func125, Tryz.ntmps125
 go_wp2
 generalize hw0 : w.alloc (.cells (madeCells #[.slice none 0 0] len) 33) = w0 at HST ⊢
 go_loopw [4] (fun i w' => ∃ k : Nat, k ≤ len ∧ i = .int .i64 k ∧ Aside ((Below g w w' ∧ g < w'.heap.size ∧ (∀ j, j < len → ∃ v, w'.cell? ⟨g, j, none⟩ = some v) ∧ (∀ j, w'.frozen? ⟨g, j, none⟩ = false)) ∧
   ∀ j, j < k → ∃ G, g < G ∧ w'.cell? ⟨g, j, none⟩ = some (.slice (some ⟨G, 0, none⟩) (ts.getD j []).length (ts.getD j []).length) ∧ IsIs w' (some ⟨G, 0, none⟩) (ts.getD j []).length (ts.getD j []).length (ts.getD j []))) (fun i _ => len - (intOf i).toNat)
 case atStart => exact ⟨0, Nat.zero_le _, rfl, HST.out, fun j hj => absurd hj (by omega)⟩
 case round =>
  obtain ⟨k, hk, rfl, hA⟩ := hrel
  by_cases hlt : k < len
  ·obtain ⟨⟨hB, hgs, hce, hfz⟩, hdone⟩ := hA.out
   have h' := h.below (HG.out ▸ hB)
   obtain ⟨b, o, rfl, hcell⟩ := h'.some (by omega)
   obtain ⟨ra, n, c, hc, hi⟩ := hcell k hlt
   have hnl : (ts.getD k []).length = n := hi.1
   have hn : n ≤ 1048576 := by rw [← hnl]; exact hrow k hlt
   have hk0 : (0 : Int) ≤ (k : Int) := by omega
   have hk1 : (k : Int) < (len : Int) := by omega
   have hfk := hfz k
   obtain ⟨v0, hv0⟩ := hce k hlt
   have HI := Lib.hid hi
   have HD := Lib.hid hdone
   have HN := Lib.hid hnl
   have HC := Lib.hid hce
   have HF := Lib.hid hfz
   have HB := Lib.hid hB
   clear hA hcell h' hi hdone hnl hce hfz hB h
   go_wp2_with fail
   refine (laws_toInt64S _ _ _ _ _ HI.out hn).mono ?_
   rintro e w1 ⟨rfl, hI1, hB1, hS1⟩
   have hv1 : w1.cell? ⟨g, k, none⟩ = some v0 := by rw [hB1.cell (p := ⟨g, k, none⟩) hgs]; exact hv0
   have hf1 : w1.frozen? ⟨g, k, none⟩ = false := by rw [hB1.frozen (p := ⟨g, k, none⟩) hgs]; exact hfk
   have HI1 := Lib.hid hI1
   have HB1 := Lib.hid hB1
   clear hI1 hB1
   go_wp2
   go_roundw
   case rel =>
    have hB1 := HB1.out
    have hn' := HN.out
    refine ⟨k + 1, by omega, by go_num, ⟨⟨(HB.out.trans (hB1.mono (by omega))).setCell (Nat.le_refl _) _, by simp; omega, fun j hj => ?_, fun j => ?_⟩, fun j hj => ?_⟩⟩
    ·by_cases hjk : j = k
     ·subst hjk; exact ⟨_, World.cell?_setCell_same _ _ _ hv1⟩
     ·obtain ⟨v, hv⟩ := HC.out j hj
      exact ⟨v, by rw [World.cell?_setCell_other _ _ _ _ (by simp <;> omega), hB1.cell (p := ⟨g, j, none⟩) hgs]; exact hv⟩
    ·simp; rw [hB1.frozen (p := ⟨g, j, none⟩) hgs]; exact HF.out j
    ·by_cases hjk : j = k
     ·subst hjk
      refine ⟨wr.heap.size, hgs, ?_, ?_⟩
      ·rw [hn', World.cell?_setCell_same _ _ _ hv1]
      ·rw [hn']; exact HI1.out.set (by simp <;> omega)
     ·obtain ⟨G, hG, hcG, hiG⟩ := HD.out j (by omega)
      have := World.block_lt_of_cell? wr _ hcG
      refine ⟨G, hG, ?_, ?_⟩
      ·rw [World.cell?_setCell_other _ _ _ _ (by simp <;> omega), hB1.cell (p := ⟨g, j, none⟩) hgs]; exact hcG
      ·exact (hiG.below hB1).set (by simp <;> omega)
   case measure => simp [intOf]; omega
  ·obtain rfl : k = len := by omega
   obtain ⟨⟨hB, hgs, hce, hfz⟩, hdone⟩ := hA.out
   have hfin : IsTs wr (some ⟨g, 0, none⟩) k k ts := by
    refine ⟨hzl, Nat.le_refl _, by unfold maxLen; omega, by simp, fun x hx i hi => ?_⟩
    cases hx
    obtain ⟨G, hG, hc, hi⟩ := hdone i hi
    exact ⟨_, _, _, by rw [addr_add', Nat.zero_add]; exact hc, hi⟩
   have HF := Lib.hid hfin
   have HB := Lib.hid hB
   clear hA hB hce hfz hdone hfin h
   go_wp2
   go_ret
   exact ⟨rfl, HF.out, HB.out, hgs⟩
end Go.Proofs.YtabccmobmppdnaaGreat
namespace Go.Proofs.YtabccmobmppdnaaGreat
open Go Fk
set_option linter.unusedVariables false
abbrev nan32 (x : Nat) : Bool := (FloatKind.f32.decode x).isNaN
abbrev nan64 (x : Nat) : Bool := (FloatKind.f64.decode x).isNaN
theorem ne_self (k : FloatKind) (x : Nat) : (k.format.order x x != some .eq) = (k.decode x).isNaN := by
 cases h : (k.decode x).isNaN
 ·rw [order_self h]; rfl
 ·rw [order_nan (.inl h)]; rfl
theorem wR_nan (x : Nat) (w : World) : (FloatKind.f64.decode (wR x w)).isNaN = (FloatKind.f32.decode x).isNaN := by
 unfold wR
 cases h : (FloatKind.f32.decode x).isNaN
 ·rw [if_neg (by simp)]; exact wid_nan h
 ·rw [if_pos rfl]; exact (cutConv_nan .f64 x _).2
theorem ret_bool {a b : Bool} (h : a = b) : Ending.returned (.bool a) = .returned (.bool b) := by rw [h]
theorem math_IsNaN (x : Nat) (w : World) :
  Calls Tryz.prog 194 #[.float .f64 x] w fun e w' => e = .returned (.bool (nan64 x)) ∧ w' = w := by
 have u := Tryz.underlying58
 go_enter Tryz.func194, Tryz.ntmps194
 go_wp2
 go_ret
 exact ⟨ret_bool (ne_self .f64 x), rfl⟩
theorem impl_isNaN (x : Nat) (w : World) :
  Calls Tryz.prog 180 #[.float .f32 x] w fun e w' => e = .returned (.bool (nan32 x)) ∧ ∃ n, w' = w.drewN n := by
 have u := Tryz.underlying58
 have u' := Tryz.underlying27
 go_enter Tryz.func180, Tryz.ntmps180
 go_wp2_with (go_at_call 194; refine (math_IsNaN _ _).mono ?_; rintro e w' ⟨rfl, rfl⟩)
 go_ret
 exact ⟨ret_bool (wR_nan x w), _, rfl⟩
@[go_sem] theorem ext_Float64bits (x : Nat) (w : World) : (callFunc 204 #[.float .f64 x]).run Tryz.prog w = .ok (.value (.int .u64 x)) w :=
 (run_callFunc_extern (e := Extern.MathFloatBits.float64bits) Tryz.func204 (by kernel_rfl) (by kernel_rfl) (by kernel_rfl) (by kernel_rfl) _ _).trans rfl
@[go_sem] theorem ext_Float64frombits (n : Int) (w : World) : (callFunc 203 #[.int .u64 n]).run Tryz.prog w = .ok (.value (.float .f64 n.toNat)) w :=
 (run_callFunc_extern (e := Extern.MathFloatBits.float64frombits) Tryz.func203 (by kernel_rfl) (by kernel_rfl) (by kernel_rfl) (by kernel_rfl) _ _).trans rfl
theorem dec32 (x : Nat) : FloatKind.f32.decode x = if x % 2147483648 < 8388608 then .number (x / 2147483648 % 2 == 1) (x % 2147483648) (-149)
  else if x % 2147483648 < 2139095040 then .number (x / 2147483648 % 2 == 1) (8388608 + x % 2147483648 % 8388608) (-149 + (x % 2147483648 / 8388608 - 1 : Nat))
  else if x % 2147483648 = 2139095040 then .infinity (x / 2147483648 % 2 == 1) else .nan (x / 2147483648 % 2 == 1) (x % 2147483648 - 2139095040) := rfl
def finB (x : Nat) : Bool := decide (x % 2147483648 < 2139095040)
theorem dec32_fin {x : Nat} (h : x % 2147483648 < 2139095040) : ∃ m p, FloatKind.f32.decode x = .number (x / 2147483648 % 2 == 1) m p := by
 rw [dec32]
 split
 ·exact ⟨_, _, rfl⟩
 ·exact ⟨_, _, rfl⟩
theorem dec32_inf {x : Nat} (h : x % 2147483648 = 2139095040) : FloatKind.f32.decode x = .infinity (x / 2147483648 % 2 == 1) := by
 rw [dec32, if_neg (by omega), if_neg (by omega), if_pos h]
theorem dec32_nan {x : Nat} (h : 2139095040 < x % 2147483648) : ∃ s t, FloatKind.f32.decode x = .nan s t := by
 rw [dec32, if_neg (by omega), if_neg (by omega), if_neg (by omega)]; exact ⟨_, _, rfl⟩
theorem nan32_iff (x : Nat) : nan32 x = decide (2139095040 < x % 2147483648) := by
 rw [show nan32 x = (FloatKind.f32.decode x).isNaN from rfl, isNaN_decode]; rfl
theorem write_zero (k : FloatKind) (s : Bool) (p : Int) : k.format.write (.number s 0 p) = if s then k.format.signWeight else 0 := by
 show k.format.nearest s 0 p = _
 unfold Ieee.Format.nearest Ieee.Format.word
 simp
theorem sub_self32 (x : Nat) : floatBits .sub .f32 x x = if finB x = true then some 0 else none := by
 show ((FloatKind.f32.decode x).sum (FloatKind.f32.decode x).opposite).map FloatKind.f32.format.write = _
 unfold finB
 rcases Nat.lt_trichotomy (x % 2147483648) 2139095040 with h | h | h
 ·obtain ⟨m, p, e⟩ := dec32_fin h
  rw [e, if_pos (by simpa using h)]
  generalize (x / 2147483648 % 2 == 1) = s
  have : Ieee.signed s m (p - min p p).toNat + Ieee.signed (!s) m (p - min p p).toNat = 0 := by
   unfold Ieee.signed; cases s <;> simp <;> omega
  simp only [Ieee.Datum.opposite, Ieee.Datum.sum, this, if_true, Option.map_some]
  rw [show (s && !s) = false by cases s <;> rfl]
  rw [show (0 : Int).natAbs = 0 from rfl, write_zero]; rfl
 ·rw [dec32_inf h, if_neg (by simp; omega)]
  cases (x / 2147483648 % 2 == 1) <;> rfl
 ·obtain ⟨s, t, e⟩ := dec32_nan h
  rw [e, if_neg (by simp; omega)]; rfl
theorem l01Finite (x : Nat) (w : World) (hx : x < 4294967296) :
  Calls Tryz.prog 137 #[.float .f32 x] w fun e w' => e = .returned (.bool (finB x)) ∧ ∃ n, w' = w.drewN n := by
 have hs := sub_self32 x
 have hv : FV .f32 (fR .sub .f32 x x w) (fop .sub .f32 (cls .f32 x) (cls .f32 x)) := FV_fR (FV.self hx) (FV.self hx)
 have hv0 : FV .f32 0 (some 0) := ⟨by decide, by decide⟩
 have ho := ford_of hv hv0
 have h00 : FloatKind.f32.format.order 0 0 = some .eq := by decide
 have hgoal : (FloatKind.f32.format.order (fR .sub .f32 x x w) 0 == some .eq) = finB x := by
  rw [ho]
  cases hf : finB x
  ·rw [hf] at hs
   have : fop .sub .f32 (cls .f32 x) (cls .f32 x) = none := by
    unfold cls
    split
    ·rfl
    ·exact hs
   rw [this]; rfl
  ·rw [hf] at hs
   have hn : (FloatKind.f32.decode x).isNaN = false := (floatBits_ok (r := 0) (by rw [hs]; rfl)).1
   have : fop .sub .f32 (cls .f32 x) (cls .f32 x) = some 0 := by rw [cls_num hn]; exact hs
   rw [this]; exact (congrArg (· == some Ordering.eq) h00)
 clear hs hv hv0 ho h00
 have H := Lib.hid hgoal
 clear hgoal
 go_enter Tryz.func137, Tryz.ntmps137
 go_wp2
 go_ret
 exact ⟨ret_bool H.out, _, rfl⟩
theorem math_Abs (x : Nat) (w : World) (hx : x < 18446744073709551616) :
  Calls Tryz.prog 195 #[.float .f64 x] w fun e w' => e = .returned (.float .f64 (x % 9223372036854775808)) ∧ w' = w := by
 have u := Tryz.underlying58
 go_enter Tryz.func195, Tryz.ntmps195
 go_wp2
 go_ret
 refine ⟨?_, rfl⟩
 have e : bits .andNot .u64 (x : Int) ((9223372036854775808 : Nat) : Int) = ((x % 9223372036854775808 : Nat) : Int) := by
  rw [u64_andNot_nat x 9223372036854775808 hx (by decide)]
  rw [show (18446744073709551615 - 9223372036854775808 : Nat) = 2 ^ 63 - 1 by decide, Nat.and_two_pow_sub_one_eq_mod]
 show Ending.returned (Value.float FloatKind.f64 (bits .andNot .u64 (x : Int) ((9223372036854775808 : Nat) : Int)).toNat) = _
 rw [e, Int.toNat_natCast]
theorem quo_one (x : Nat) (hn : (FloatKind.f64.decode x).isNaN = false) : ∃ r, floatBits .quo .f64 4607182418800017408 x = some r := by
 show ∃ r, ((FloatKind.f64.decode 4607182418800017408).quotient _ (FloatKind.f64.decode x)).map FloatKind.f64.format.write = some r
 have e : FloatKind.f64.decode 4607182418800017408 = .number false 4503599627370496 (-52) := by decide
 rw [e]
 cases hd : FloatKind.f64.decode x with
 | nan s t => rw [hd] at hn; simp [Ieee.Datum.isNaN] at hn
 | infinity s => exact ⟨_, rfl⟩
 | number s m p =>
  by_cases hm : m = 0
  ·subst hm; exact ⟨_, rfl⟩
  ·simp only [Ieee.Datum.quotient, if_neg hm]; exact ⟨_, rfl⟩
theorem laws_sameFloat (a b : Nat) (c : Option Nat) (w : World) (ha : FV .f64 a c) (hb : FV .f64 b c) :
  Calls Tryz.prog 31 #[.float .f64 a, .float .f64 b] w fun e w' => e = .returned (.bool true) ∧ ∃ n, w' = w.drewN n := by
 have u := Tryz.underlying58
 cases c with
 | none =>
  have h1 : FloatKind.f64.format.order a a = none := order_nan (.inl ha.nan)
  have h2 : FloatKind.f64.format.order b b = none := order_nan (.inl hb.nan)
  clear ha hb
  go_enter Tryz.func31, Tryz.ntmps31
  go_wp2
  go_ret
  exact ⟨rfl, 0, rfl⟩
 | some x =>
  obtain rfl := ha.num
  obtain rfl := hb.num
  have h1 : FloatKind.f64.format.order b b = some .eq := order_self ha.notnan
  obtain ⟨r, hr⟩ := quo_one b ha.notnan
  have h2 : ∀ w, fR .quo .f64 4607182418800017408 b w = r := fun w => by unfold fR; rw [hr]
  clear ha hb hr
  cases h0 : (FloatKind.f64.format.order b 0 == some .eq)
  all_goals
   go_enter Tryz.func31, Tryz.ntmps31
   go_wp2
   go_ret
   first | exact ⟨rfl, 0, rfl⟩ | exact ⟨rfl, _, rfl⟩ | exact ⟨ret_bool (by simp), _, rfl⟩
theorem max64 : FloatKind.f64.decode 9218868437227405311 = .number false 9007199254740991 971 := by decide
theorem gt_max (x : Nat) (hx : x < 18446744073709551616) : (FloatKind.f64.format.order x 9218868437227405311 == some .gt) = decide (x = 9218868437227405312) := by
 have e3 : 2 ^ FloatKind.f64.format.width = 18446744073709551616 := by decide
 have nm : (FloatKind.f64.decode 9218868437227405311).isNaN = false := by rw [max64]; rfl
 cases hn : (FloatKind.f64.decode x).isNaN
 ·rw [order_key (by rw [e3]; exact hx) (by rw [e3]; decide) hn nm]
  have hn' := hn
  rw [isNaN_decode] at hn'
  have e1 : FloatKind.f64.format.infRung = 9218868437227405312 := by decide
  have e2 : FloatKind.f64.format.signWeight = 9223372036854775808 := by decide
  rw [e1, e2] at hn'
  have hn'' : ¬ 9218868437227405312 < x % 9223372036854775808 := by simpa using hn'
  have k1 : key .f64 9218868437227405311 = 9218868437227405311 := by decide
  have k2 : key .f64 x = if x < 9223372036854775808 then (x : Int) else 9223372036854775808 - x := by unfold key; rw [e2]; rfl
  rw [k1]
  by_cases h : x = 9218868437227405312
  ·rw [decide_eq_true h]
   have : key .f64 x > 9218868437227405311 := by rw [k2, if_pos (by omega)]; omega
   rw [Int.compare_eq_gt.2 this]; rfl
  ·rw [decide_eq_false h]
   have : ¬ key .f64 x > 9218868437227405311 := by rw [k2]; split <;> omega
   cases hc : compare (key .f64 x) 9218868437227405311
   ·rfl
   ·rfl
   ·exact absurd (Int.compare_eq_gt.1 hc) this
 ·rw [order_nan (.inl hn)]
  by_cases h : x = 9218868437227405312
  ·subst h; rw [isNaN_decode] at hn; exact absurd hn (by decide)
  ·rw [decide_eq_false h]; rfl
theorem math_IsInf0 (x : Nat) (w : World) (hx : x < 18446744073709551616) :
  Calls Tryz.prog 181 #[.float .f64 x, .int .i64 0] w fun e w' => e = .returned (.bool (decide (x % 9223372036854775808 = 9218868437227405312))) ∧ w' = w := by
 have u := Tryz.underlying58
 have h := gt_max (x % 9223372036854775808) (by omega)
 have H := Lib.hid h
 clear h
 go_enter Tryz.func181, Tryz.ntmps181
 go_wp2_with (go_at_call 195; refine (math_Abs _ _ (by assumption)).mono ?_; rintro e w' ⟨rfl, rfl⟩)
 go_ret
 exact ⟨ret_bool H.out, rfl⟩
theorem wid_cases {x : Nat} (hx : x < 4294967296) (hn : nan32 x = false) :
  (x % 2147483648 = 2139095040 ∧ wid x = (if x < 2147483648 then 0 else 9223372036854775808) + 9218868437227405312) ∨
  (x % 2147483648 < 2139095040 ∧ ∃ r, r < 5188146770730811392 ∧ wid x = (if x < 2147483648 then 0 else 9223372036854775808) + r) := by
 rw [nan32_iff] at hn
 have hn' : ¬ 2139095040 < x % 2147483648 := by simpa using hn
 have hs : (x / 2147483648 % 2 == 1) = decide (¬ x < 2147483648) := by
  by_cases h : x < 2147483648
  ·rw [Nat.div_eq_of_lt h]; simp [h]
  ·have h1 : x / 2147483648 = 1 := by omega
   rw [h1]; simp [h]
 have e2 : Ieee.double.signWeight = 9223372036854775808 := by decide
 by_cases h : x % 2147483648 = 2139095040
 ·refine .inl ⟨h, ?_⟩
  have e1 : Ieee.double.infRung = 9218868437227405312 := by decide
  unfold wid
  rw [dec32_inf h, hs]
  show Ieee.double.word _ Ieee.double.infRung = _
  unfold Ieee.Format.word
  rw [e1, e2]
  by_cases h2 : x < 2147483648 <;> simp [h2]
 ·refine .inr ⟨by omega, ?_⟩
  obtain ⟨m, p, e⟩ := dec32_fin (x := x) (by omega)
  obtain ⟨r, he, hr⟩ := wid_word x _ m p e
  refine ⟨r, hr, ?_⟩
  rw [he, hs]
  unfold Ieee.Format.word
  rw [e2]
  by_cases h2 : x < 2147483648 <;> simp [h2]
theorem wR_lt {x : Nat} (w : World) (hx : x < 4294967296) : wR x w < 18446744073709551616 := (FV_wR (FV.self (k := .f32) hx)).1
theorem wR_num {x : Nat} (w : World) (hn : nan32 x = false) : wR x w = wid x := by unfold wR; rw [if_neg (by simp [hn])]
theorem inf0 {x : Nat} (w : World) (hx : x < 4294967296) (hn : nan32 x = false) : decide (wR x w % 9223372036854775808 = 9218868437227405312) = !finB x := by
 rw [wR_num w hn]
 unfold finB
 rcases wid_cases hx hn with ⟨h1, h2⟩ | ⟨h1, r, hr, h2⟩
 ·rw [h2, decide_eq_true (by split <;> omega), decide_eq_false (by omega)]; rfl
 ·rw [h2, decide_eq_false (by split <;> omega), decide_eq_true h1]; rfl
theorem impl_IsFinite (x : Nat) (w : World) (hx : x < 4294967296) :
  Calls Tryz.prog 152 #[.float .f32 x] w fun e w' => e = .returned (.bool (finB x)) ∧ ∃ n, w' = w.drewN n := by
 have u := Tryz.underlying58
 have u' := Tryz.underlying27
 have hlt := fun w => wR_lt (x := x) w hx
 cases hn : nan32 x
 ·have h0 := fun w => inf0 (x := x) w hx hn
  go_enter Tryz.func152, Tryz.ntmps152
  go_wp2_with (first
   | (go_at_call 180; refine (impl_isNaN _ _).mono ?_; rintro e w' ⟨rfl, n, rfl⟩)
   | (go_at_call 181; refine (math_IsInf0 _ _ (hlt _)).mono ?_; rintro e w' ⟨rfl, rfl⟩))
  go_ret
  exact ⟨ret_bool (by simp), _, rfl⟩
 ·have hf : finB x = false := by
   rw [nan32_iff] at hn; unfold finB; simp at hn ⊢; omega
  have H := Lib.hid hf
  clear hf
  go_enter Tryz.func152, Tryz.ntmps152
  go_wp2_with (first
   | (go_at_call 180; refine (impl_isNaN _ _).mono ?_; rintro e w' ⟨rfl, n, rfl⟩))
  go_ret
  exact ⟨ret_bool H.out.symm, _, rfl⟩
end Go.Proofs.YtabccmobmppdnaaGreat
namespace Go.Proofs.YtabccmobmppdnaaGreat
namespace Fk
open Go
set_option linter.unusedVariables false
def nar (y : Nat) : Nat := FloatKind.f32.encode (FloatKind.f64.decode y)
def ovf (y : Nat) : Bool := match FloatKind.f64.decode y with
 | .number s m p => (FloatKind.f32.decode (FloatKind.f32.encode (.number s m p))).isInfinity
 | _ => false
def nR (y : Nat) (w : World) : Nat := if (FloatKind.f64.decode y).isNaN then (Question.nanConv .f32 y).cut (w.tape w.drawn (.nanConv .f32 y))
 else if ovf y then (Question.floatToFloat y).cut (w.tape w.drawn (.floatToFloat y)) else nar y
def nN (y : Nat) : Nat := if (FloatKind.f64.decode y).isNaN then 1 else if ovf y then 1 else 0
theorem nar_lt (y : Nat) : nar y < 2 ^ FloatKind.f32.format.width := FloatKind.f32.format.write_lt _
theorem FV_nR {y : Nat} {w : World} {c : Option Nat} (h : FV .f64 y c) (ho : ovf y = false) : FV .f32 (nR y w) (c.map nar) := by
 unfold nR
 cases c with
 | none =>
  rw [if_pos h.nan]
  have := cutConv_nan .f32 y (w.tape w.drawn (.nanConv .f32 y))
  exact ⟨this.1, cls_nan this.2⟩
 | some a =>
  obtain rfl := h.num
  have hn := h.notnan
  rw [if_neg (by simp [hn]), if_neg (by simp [ho])]
  exact ⟨nar_lt y, cls_num (isNaN_write .f32 _ hn)⟩
section
variable {P : Program} (w : World)
@[go_sem] theorem run_nR (src dst : TypeId) (y : Nat) (hs : (P.underlying src).isSome = true) (hd : P.underlying dst = some (.float .f32)) :
  (convert src dst (.float .f64 y)).run P w = .ok (.float .f32 (nR y w)) (w.drewN (nN y)) := by
 obtain ⟨u, hs'⟩ := Option.isSome_iff_exists.1 hs
 have hq : (Question.nanConv .f32 y).forced = false := rfl
 have hq' : (Question.floatToFloat y).forced = false := rfl
 cases hd' : FloatKind.f64.decode y with
 | nan s t =>
  have e : (FloatKind.f64.decode y).isNaN = true := by rw [hd']; rfl
  unfold nR nN
  rw [if_pos e, if_pos e]
  cases u <;> simp [convert, run_underlying hs', run_underlying hd, Conv.floatToFloat, hd', hq] <;> rfl
 | infinity s =>
  have e : (FloatKind.f64.decode y).isNaN = false := by rw [hd']; rfl
  have e' : ovf y = false := by unfold ovf; rw [hd']
  unfold nR nN
  rw [e, e', if_neg Bool.false_ne_true, if_neg Bool.false_ne_true, if_neg Bool.false_ne_true, if_neg Bool.false_ne_true]
  unfold nar; rw [hd']
  cases u <;> simp [convert, run_underlying hs', run_underlying hd, Conv.floatToFloat, hd'] <;> rfl
 | number s m p =>
  have e : (FloatKind.f64.decode y).isNaN = false := by rw [hd']; rfl
  have eo : ovf y = (FloatKind.f32.decode (FloatKind.f32.encode (.number s m p))).isInfinity := by unfold ovf; rw [hd']
  unfold nR nN
  rw [e, if_neg Bool.false_ne_true, if_neg Bool.false_ne_true]
  cases ho : ovf y
  ·rw [ho] at eo
   rw [if_neg Bool.false_ne_true, if_neg Bool.false_ne_true]
   unfold nar; rw [hd']
   cases u <;> simp [convert, run_underlying hs', run_underlying hd, Conv.floatToFloat, hd', eo.symm] <;> rfl
  ·rw [ho] at eo
   rw [if_pos rfl, if_pos rfl]
   cases u <;> simp [convert, run_underlying hs', run_underlying hd, Conv.floatToFloat, hd', eo.symm, hq'] <;> rfl
end
theorem kept_le (f : Ieee.Format) (s : Bool) (m : Nat) (p last : Int) (h0 : m ≠ 0) (h1 : p + m.log2 - f.fractionBits ≤ last) :
  Ieee.Toward.even.cut s (m <<< (p - last).toNat) (last - p).toNat ≤ 2 * f.binade := by
 have hB : 2 * f.binade = 2 ^ (f.fractionBits + 1) := by unfold Ieee.Format.binade; rw [Nat.pow_succ, Nat.mul_comm]
 rw [hB]
 have hlt : m < 2 ^ (m.log2 + 1) := Nat.lt_log2_self
 by_cases hp : p ≤ last
 ·have e : (p - last).toNat = 0 := by omega
  rw [e, Nat.shiftLeft_zero]
  generalize hd : (last - p).toNat = d
  have hd' : m.log2 ≤ f.fractionBits + d := by omega
  unfold Ieee.Toward.cut
  dsimp only
  rw [Nat.shiftLeft_eq, Nat.one_mul]
  have hlow : m / 2 ^ min d (m.log2 + 2) + 1 ≤ 2 ^ (f.fractionBits + 1) := by
   by_cases h : d ≤ m.log2 + 2
   ·rw [Nat.min_eq_left h]
    have : m / 2 ^ d < 2 ^ (f.fractionBits + 1) := by
     rw [Nat.div_lt_iff_lt_mul (Nat.two_pow_pos _), ← Nat.pow_add]
     exact Nat.lt_of_lt_of_le hlt (Nat.pow_le_pow_right (by decide) (by omega))
    omega
   ·rw [Nat.min_eq_right (by omega)]
    have : m / 2 ^ (m.log2 + 2) = 0 := Nat.div_eq_of_lt (Nat.lt_of_lt_of_le hlt (Nat.pow_le_pow_right (by decide) (by omega)))
    rw [this]
    exact Nat.two_pow_pos _
  refine Nat.le_trans (Nat.add_le_add_left ?_ _) hlow
  cases (2 ^ min d (m.log2 + 2) < 2 * (m % 2 ^ min d (m.log2 + 2)) || (2 ^ min d (m.log2 + 2) == 2 * (m % 2 ^ min d (m.log2 + 2)) && m / 2 ^ min d (m.log2 + 2) % 2 == 1)) <;> simp
 ·have e : (last - p).toNat = 0 := by omega
  rw [e, even_cut_zero, Nat.shiftLeft_eq]
  have : m * 2 ^ (p - last).toNat < 2 ^ (m.log2 + 1) * 2 ^ (p - last).toNat := Nat.mul_lt_mul_of_pos_right hlt (Nat.two_pow_pos _)
  rw [← Nat.pow_add] at this
  exact Nat.le_trans (Nat.le_of_lt this) (Nat.pow_le_pow_right (by decide) (by omega))
theorem nearest_small (f : Ieee.Format) (s : Bool) (m : Nat) (p e : Int) (h : m ≠ 0 → p + m.log2 < e) (he : f.leastPlace + f.fractionBits + 1 ≤ e) :
  ∃ r, f.nearest s m p = f.word s r ∧ r ≤ (e - f.fractionBits - f.leastPlace + 1).toNat * f.binade ∧ r ≤ f.infRung := by
 unfold Ieee.Format.nearest
 dsimp only
 by_cases h0 : m = 0
 ·rw [if_pos h0]; exact ⟨0, rfl, Nat.zero_le _, Nat.zero_le _⟩
 ·rw [if_neg h0]
  refine ⟨_, rfl, ?_, Nat.min_le_right _ _⟩
  refine Nat.le_trans (Nat.min_le_left _ _) ?_
  have h1 := h h0
  generalize hl : max (p + (m.log2 : Int) - f.fractionBits) f.leastPlace = last
  have hk := kept_le f s m p last h0 (by omega)
  have hle : (last - f.leastPlace).toNat + 2 ≤ (e - f.fractionBits - f.leastPlace + 1).toNat := by omega
  have := Nat.mul_le_mul_right f.binade hle
  rw [Nat.add_mul] at this
  omega
def MB (k : FloatKind) (x : Nat) (e : Int) : Prop := ∃ s m p, k.decode x = .number s m p ∧ (m ≠ 0 → p + m.log2 < e)
theorem MB.mono {k : FloatKind} {x : Nat} {e e' : Int} (h : MB k x e) (he : e ≤ e') : MB k x e' := by
 obtain ⟨s, m, p, h1, h2⟩ := h; exact ⟨s, m, p, h1, fun h => by have := h2 h; omega⟩
theorem ovf_small {y : Nat} (h : MB .f64 y 127) : ovf y = false := by
 obtain ⟨s, m, p, h1, h2⟩ := h
 unfold ovf
 rw [h1]
 show (FloatKind.f32.decode (FloatKind.f32.format.nearest s m p)).isInfinity = false
 obtain ⟨r, hr, hb, _⟩ := nearest_small FloatKind.f32.format s m p 127 h2 (by decide)
 have e1 : (127 - (FloatKind.f32.format.fractionBits : Int) - FloatKind.f32.format.leastPlace + 1).toNat * FloatKind.f32.format.binade = 2130706432 := by decide
 rw [e1] at hb
 rw [hr]
 show (FloatKind.f32.format.read (FloatKind.f32.format.word s r)).isInfinity = false
 have e2 : FloatKind.f32.format.infRung = 2139095040 := by decide
 unfold Ieee.Format.read
 dsimp only
 rw [word_mod _ _ _ (show r < FloatKind.f32.format.signWeight by rw [show FloatKind.f32.format.signWeight = 2147483648 by decide]; omega)]
 split
 ·rfl
 ·rw [if_pos (by rw [e2]; omega)]; rfl
end Fk
end Go.Proofs.YtabccmobmppdnaaGreat
namespace Go.Proofs.YtabccmobmppdnaaGreat
open Go Fk Go.RowKit
set_option linter.unusedVariables false
abbrev vv (x y z : Nat) : Value := .agg #[.float .f32 x, .float .f32 y, .float .f32 z]
theorem cell_alloc {w : World} {o : Obj} {b i : Nat} {v : Value} (hc : w.cell? ⟨b, i, none⟩ = some v) : (w.alloc o).cell? ⟨b, i, none⟩ = some v := by
 have h : (⟨b, i, none⟩ : Addr).block < w.heap.size := World.block_lt_of_cell? w _ hc
 rw [World.cell?_alloc_lt (h := h)]; exact hc
theorem new0 {w : World} {u v t : Value} {T : TypeId} : (w.alloc (.cells #[u, v, t] T)).cell? ⟨w.heap.size, 0, none⟩ = some u := by simp
theorem new1 {w : World} {u v t : Value} {T : TypeId} : (w.alloc (.cells #[u, v, t] T)).cell? ⟨w.heap.size, 1, none⟩ = some v := by simp
theorem new2 {w : World} {u v t : Value} {T : TypeId} : (w.alloc (.cells #[u, v, t] T)).cell? ⟨w.heap.size, 2, none⟩ = some t := by simp
theorem newf {w : World} {u v t : Value} {T : TypeId} {i : Nat} : (w.alloc (.cells #[u, v, t] T)).frozen? ⟨w.heap.size, i, none⟩ = false := by simp
theorem set3 {w : World} {n : Nat} {u v t u0 v0 t0 : Value} (h0 : w.cell? ⟨n, 0, none⟩ = some u0) (h1 : w.cell? ⟨n, 1, none⟩ = some v0) (h2 : w.cell? ⟨n, 2, none⟩ = some t0) :
  (((w.setCell ⟨n, 0, none⟩ u).setCell ⟨n, 1, none⟩ v).setCell ⟨n, 2, none⟩ t).cell? ⟨n, 0, none⟩ = some u ∧ (((w.setCell ⟨n, 0, none⟩ u).setCell ⟨n, 1, none⟩ v).setCell ⟨n, 2, none⟩ t).cell? ⟨n, 1, none⟩ = some v ∧ (((w.setCell ⟨n, 0, none⟩ u).setCell ⟨n, 1, none⟩ v).setCell ⟨n, 2, none⟩ t).cell? ⟨n, 2, none⟩ = some t := by
 have a0 := World.cell?_setCell_same w ⟨n, 0, none⟩ u h0
 have a1 : (w.setCell ⟨n, 0, none⟩ u).cell? ⟨n, 1, none⟩ = some v0 := by rw [World.cell?_setCell_other _ _ _ _ (by simp)]; exact h1
 have a2 : (w.setCell ⟨n, 0, none⟩ u).cell? ⟨n, 2, none⟩ = some t0 := by rw [World.cell?_setCell_other _ _ _ _ (by simp)]; exact h2
 have b1 := World.cell?_setCell_same (w.setCell ⟨n, 0, none⟩ u) ⟨n, 1, none⟩ v a1
 have b2 : ((w.setCell ⟨n, 0, none⟩ u).setCell ⟨n, 1, none⟩ v).cell? ⟨n, 2, none⟩ = some t0 := by rw [World.cell?_setCell_other _ _ _ _ (by simp)]; exact a2
 refine ⟨?_, ?_, World.cell?_setCell_same _ _ _ b2⟩
 ·rw [World.cell?_setCell_other _ _ _ _ (by simp), World.cell?_setCell_other _ _ _ _ (by simp)]; exact a0
 ·rw [World.cell?_setCell_other _ _ _ _ (by simp)]; exact b1
theorem frozen_below {W w : World} {b i : Nat} (hb : Below W.heap.size W w) (h : b < W.heap.size) (hf : W.frozen? ⟨b, i, none⟩ = false) : w.frozen? ⟨b, i, none⟩ = false := by
 rw [hb.frozen (p := ⟨b, i, none⟩) h]; exact hf
theorem cell_set {w : World} {a : Addr} {u v : Value} {b i : Nat} (hne : a.block ≠ b) (hc : w.cell? ⟨b, i, none⟩ = some v) : (w.setCell a u).cell? ⟨b, i, none⟩ = some v := by
 rw [World.cell?_setCell_far (h := hne)]; exact hc
theorem below_set3 {B : Nat} {w0 W : World} {n o1 o2 o3 : Nat} {u v t : Value} (hp : Below B w0 W) (hn : B ≤ n) : Below B w0 (((W.setCell ⟨n, o1, none⟩ u).setCell ⟨n, o2, none⟩ v).setCell ⟨n, o3, none⟩ t) := ((hp.setCell hn _).setCell hn _).setCell hn _
theorem below_new {B : Nat} {w0 W : World} {o : Obj} (hp : Below B w0 W) (hB : B ≤ w0.heap.size) : Below B w0 (W.alloc o) := hp.alloc (Nat.le_trans hB hp.size) _
theorem cell_below {W w : World} {b i : Nat} {v : Value} (hb : Below W.heap.size W w) (hc : W.cell? ⟨b, i, none⟩ = some v) : w.cell? ⟨b, i, none⟩ = some v := by
 have h : b < W.heap.size := World.block_lt_of_cell? W _ hc
 rw [hb.cell (p := ⟨b, i, none⟩) h]; exact hc
theorem impl_AddVectors (x y z x' y' z' : Nat) (w : World) (c d e c' d' e' : Option Nat) (h1 : FV .f32 x c) (h2 : FV .f32 y d) (h3 : FV .f32 z e) (h1' : FV .f32 x' c') (h2' : FV .f32 y' d') (h3' : FV .f32 z' e') :
  Calls Tryz.prog 143 #[vv x y z, vv x' y' z'] w fun en w' => ∃ a b g, en = .returned (vv a b g) ∧ FV .f32 a (fop .add .f32 c c') ∧ FV .f32 b (fop .add .f32 d d') ∧ FV .f32 g (fop .add .f32 e e') ∧ Below w.heap.size w w' := by
 have u := Tryz.underlying27
 have uv := Tryz.underlying42
 go_enter Tryz.func143, Tryz.ntmps143
 go_wp2
 refine bodyPost_ret (v := vv _ _ _) (by simp [results, Tryz.results143, go_sem]; exact ⟨rfl, rfl, rfl⟩) rfl ⟨_, _, _, rfl, FV_fR h1 h1', FV_fR h2 h2', FV_fR h3 h3', ?_⟩
 exact below_drewN ((((Below.refl _ _).alloc (Nat.le_refl _) _).alloc (by simp) _).alloc (by simp; omega) _) _
theorem l01Add (x y z x' y' z' : Nat) (w : World) (c d e c' d' e' : Option Nat) (h1 : FV .f32 x c) (h2 : FV .f32 y d) (h3 : FV .f32 z e) (h1' : FV .f32 x' c') (h2' : FV .f32 y' d') (h3' : FV .f32 z' e') :
  Calls Tryz.prog 141 #[vv x y z, vv x' y' z'] w fun en w' => ∃ a b g, en = .returned (vv a b g) ∧ FV .f32 a (fop .add .f32 c c') ∧ FV .f32 b (fop .add .f32 d d') ∧ FV .f32 g (fop .add .f32 e e') ∧ Below w.heap.size w w' := by
 have u := Tryz.underlying27
 have uv := Tryz.underlying42
 go_enter Tryz.func141, Tryz.ntmps141
 go_wp2
 refine bodyPost_ret (v := vv _ _ _) (by simp [results, Tryz.results141, go_sem]; exact ⟨rfl, rfl, rfl⟩) rfl ⟨_, _, _, rfl, FV_fR h1 h1', FV_fR h2 h2', FV_fR h3 h3', ?_⟩
 exact below_drewN ((((Below.refl _ _).alloc (Nat.le_refl _) _).alloc (by simp) _).alloc (by simp; omega) _) _
theorem impl_LessVectors (x y z x' y' z' : Nat) (w : World) (c d e c' d' e' : Option Nat) (h1 : FV .f32 x c) (h2 : FV .f32 y d) (h3 : FV .f32 z e) (h1' : FV .f32 x' c') (h2' : FV .f32 y' d') (h3' : FV .f32 z' e') :
  Calls Tryz.prog 129 #[vv x y z, vv x' y' z'] w fun en w' => ∃ a b g, en = .returned (vv a b g) ∧ FV .f32 a (fop .sub .f32 c c') ∧ FV .f32 b (fop .sub .f32 d d') ∧ FV .f32 g (fop .sub .f32 e e') ∧ Below w.heap.size w w' := by
 have u := Tryz.underlying27
 have uv := Tryz.underlying42
 go_enter Tryz.func129, Tryz.ntmps129
 go_wp2
 refine bodyPost_ret (v := vv _ _ _) (by simp [results, Tryz.results129, go_sem]; exact ⟨rfl, rfl, rfl⟩) rfl ⟨_, _, _, rfl, FV_fR h1 h1', FV_fR h2 h2', FV_fR h3 h3', ?_⟩
 exact below_drewN ((((Below.refl _ _).alloc (Nat.le_refl _) _).alloc (by simp) _).alloc (by simp; omega) _) _
theorem l01Less (x y z x' y' z' : Nat) (w : World) (c d e c' d' e' : Option Nat) (h1 : FV .f32 x c) (h2 : FV .f32 y d) (h3 : FV .f32 z e) (h1' : FV .f32 x' c') (h2' : FV .f32 y' d') (h3' : FV .f32 z' e') :
  Calls Tryz.prog 124 #[vv x y z, vv x' y' z'] w fun en w' => ∃ a b g, en = .returned (vv a b g) ∧ FV .f32 a (fop .sub .f32 c c') ∧ FV .f32 b (fop .sub .f32 d d') ∧ FV .f32 g (fop .sub .f32 e e') ∧ Below w.heap.size w w' := by
 have u := Tryz.underlying27
 have uv := Tryz.underlying42
 go_enter Tryz.func124, Tryz.ntmps124
 go_wp2
 refine bodyPost_ret (v := vv _ _ _) (by simp [results, Tryz.results124, go_sem]; exact ⟨rfl, rfl, rfl⟩) rfl ⟨_, _, _, rfl, FV_fR h1 h1', FV_fR h2 h2', FV_fR h3 h3', ?_⟩
 exact below_drewN ((((Below.refl _ _).alloc (Nat.le_refl _) _).alloc (by simp) _).alloc (by simp; omega) _) _
theorem laws_toVector (x y z : Nat) (w : World) :
  Calls Tryz.prog 70 #[vv x y z] w fun en w' => en = .returned (vv x y z) ∧ Below w.heap.size w w' := by
 have u := Tryz.underlying27
 have uv := Tryz.underlying42
 go_enter Tryz.func70, Tryz.ntmps70
 go_wp2
 refine bodyPost_ret (v := vv x y z) (by simp [results, Tryz.results70, go_sem]) rfl ⟨rfl, ?_⟩
 exact (((Below.refl _ _).alloc (Nat.le_refl _) _).alloc (by simp) _).alloc (by simp; omega) _
theorem laws_eqVector (x y z x' y' z' : Nat) (w : World) (c d e : Option Nat) (h1 : FV .f32 x c) (h2 : FV .f32 y d) (h3 : FV .f32 z e) (h1' : FV .f32 x' c) (h2' : FV .f32 y' d) (h3' : FV .f32 z' e) :
  Calls Tryz.prog 73 #[vv x y z, vv x' y' z'] w fun en w' => en = .returned (.bool true) ∧ Below w.heap.size w w' := by
 have u := Tryz.underlying27
 have u' := Tryz.underlying58
 have uv := Tryz.underlying42
 go_enter Tryz.func73, Tryz.ntmps73
 go_wp2_with (go_at_call 31; refine (laws_sameFloat _ _ _ _ (FV_wR (by assumption)) (FV_wR (by assumption))).mono ?_; rintro en w' ⟨rfl, n1, rfl⟩)
 go_ret
 exact ⟨rfl, below_drewN (((Below.refl _ _).alloc (Nat.le_refl _) _).alloc (by simp) _) _⟩
end Go.Proofs.YtabccmobmppdnaaGreat
namespace Go.Proofs.YtabccmobmppdnaaGreat
open Go Fk Go.RowKit
set_option linter.unusedVariables false
set_option maxRecDepth 8000
theorem infoV : (Tryz.prog.info? 42).map (fun i => (i.zero, i.size, i.bytes)) = some (some (.agg #[.float .f32 0, .float .f32 0, .float .f32 0]), 3, 12) := by kernel_rfl
theorem made_cell3 (w : World) (z : Array Value) (n i : Nat) (t : TypeId) (hi : i < n) : ∃ v, (w.alloc (.cells (madeCells z n) t)).cell? ⟨w.heap.size, i, none⟩ = some v := by
 have : (madeCells z n)[i]? = some (z[i % z.size]!) := by unfold madeCells; simp [hi]
 exact ⟨z[i % z.size]!, by simp [this]⟩
theorem set3k {w : World} {n o : Nat} {u v t u0 v0 t0 : Value} (h0 : w.cell? ⟨n, o, none⟩ = some u0) (h1 : w.cell? ⟨n, o + 1, none⟩ = some v0) (h2 : w.cell? ⟨n, o + 2, none⟩ = some t0) :
  (((w.setCell ⟨n, o, none⟩ u).setCell ⟨n, o + 1, none⟩ v).setCell ⟨n, o + 2, none⟩ t).cell? ⟨n, o, none⟩ = some u ∧ (((w.setCell ⟨n, o, none⟩ u).setCell ⟨n, o + 1, none⟩ v).setCell ⟨n, o + 2, none⟩ t).cell? ⟨n, o + 1, none⟩ = some v ∧ (((w.setCell ⟨n, o, none⟩ u).setCell ⟨n, o + 1, none⟩ v).setCell ⟨n, o + 2, none⟩ t).cell? ⟨n, o + 2, none⟩ = some t ∧
  ∀ j, j ≠ o → j ≠ o + 1 → j ≠ o + 2 → (((w.setCell ⟨n, o, none⟩ u).setCell ⟨n, o + 1, none⟩ v).setCell ⟨n, o + 2, none⟩ t).cell? ⟨n, j, none⟩ = w.cell? ⟨n, j, none⟩ := by
 have a0 := World.cell?_setCell_same w ⟨n, o, none⟩ u h0
 have a1 : (w.setCell ⟨n, o, none⟩ u).cell? ⟨n, o + 1, none⟩ = some v0 := by rw [World.cell?_setCell_other _ _ _ _ (by simp)]; exact h1
 have a2 : (w.setCell ⟨n, o, none⟩ u).cell? ⟨n, o + 2, none⟩ = some t0 := by rw [World.cell?_setCell_other _ _ _ _ (by simp)]; exact h2
 have b1 := World.cell?_setCell_same (w.setCell ⟨n, o, none⟩ u) ⟨n, o + 1, none⟩ v a1
 have b2 : ((w.setCell ⟨n, o, none⟩ u).setCell ⟨n, o + 1, none⟩ v).cell? ⟨n, o + 2, none⟩ = some t0 := by rw [World.cell?_setCell_other _ _ _ _ (by simp)]; exact a2
 refine ⟨?_, ?_, World.cell?_setCell_same _ _ _ b2, fun j j0 j1 j2 => ?_⟩
 ·rw [World.cell?_setCell_other _ _ _ _ (by simp), World.cell?_setCell_other _ _ _ _ (by simp)]; exact a0
 ·rw [World.cell?_setCell_other _ _ _ _ (by simp)]; exact b1
 ·rw [World.cell?_setCell_other _ _ _ _ (by simp <;> omega), World.cell?_setCell_other _ _ _ _ (by simp <;> omega), World.cell?_setCell_other _ _ _ _ (by simp <;> omega)]
set_option maxHeartbeats 400000 in
theorem laws_toVectorS (a : Option Addr) (len cap : Nat) (cs : List C3) (w : World) (h : IsVs w a len cap cs) (hlen : len ≤ 1048576) :
  Calls Tryz.prog 20 #[.slice a len cap] w fun e w' => e = .returned (.slice (some ⟨w.heap.size, 0, none⟩) len len) ∧ IsVs w' (some ⟨w.heap.size, 0, none⟩) len len cs ∧ Below w.heap.size w w' ∧ w.heap.size < w'.heap.size := by
 have uv := Tryz.underlying42
 have ul := Tryz.underlying30
 have u := Tryz.underlying27
 obtain ⟨i0, hi, hz0, hz1, hz2⟩ := info_parts infoV
 have hzl := h.1
 obtain ⟨g, hg⟩ : ∃ g, g = w.heap.size := ⟨_, rfl⟩
 have hmk : (Instr.makeSlice 36 (.int .i64 len) (.int .i64 len)).run Tryz.prog w = .ok (.slice (some ⟨g, 0, none⟩) len len) (w.alloc (.cells (madeCells #[.float .f32 0, .float .f32 0, .float .f32 0] (len * 3)) 42)) := by
  have := run_make (P := Tryz.prog) w 36 42 i0 (.agg #[.float .f32 0, .float .f32 0, .float .f32 0]) Tryz.underlying36 hi hz0 .i64 .i64 len len (by omega) (Int.le_refl _) (by rw [hz2]; omega) (by omega)
  rw [this, hz1, hg]; simp; rfl
 have hstart : Below w.heap.size w (w.alloc (.cells (madeCells #[.float .f32 0, .float .f32 0, .float .f32 0] (len * 3)) 42)) ∧ g < (w.alloc (.cells (madeCells #[.float .f32 0, .float .f32 0, .float .f32 0] (len * 3)) 42)).heap.size ∧
   (∀ j, j < len * 3 → ∃ v, (w.alloc (.cells (madeCells #[.float .f32 0, .float .f32 0, .float .f32 0] (len * 3)) 42)).cell? ⟨g, j, none⟩ = some v) ∧ (∀ j, (w.alloc (.cells (madeCells #[.float .f32 0, .float .f32 0, .float .f32 0] (len * 3)) 42)).frozen? ⟨g, j, none⟩ = false) := by
  subst hg
  exact ⟨(Below.refl _ _).alloc (Nat.le_refl _) _, by simp, fun j hj => made_cell3 w _ (len * 3) j _ hj, fun j => by simp⟩
 rw [← hg] at hstart ⊢
 have HST := Lib.hid hstart
 have HG := Lib.hid hg
 clear hstart hg
 go_enter Tryz.func20, Tryz.ntmps20
 go_wp2
 generalize hw0 : w.alloc (.cells (madeCells #[.float .f32 0, .float .f32 0, .float .f32 0] (len * 3)) 42) = w0 at HST ⊢
 go_loopw [4] (fun i w' => ∃ k : Nat, k ≤ len ∧ i = .int .i64 k ∧ Aside ((Below g w w' ∧ g < w'.heap.size ∧ (∀ j, j < len * 3 → ∃ v, w'.cell? ⟨g, j, none⟩ = some v) ∧ (∀ j, w'.frozen? ⟨g, j, none⟩ = false)) ∧
   ∀ j, j < k → ∃ p q r, w'.cell? ⟨g, j * 3, none⟩ = some (.float .f32 p) ∧ w'.cell? ⟨g, j * 3 + 1, none⟩ = some (.float .f32 q) ∧ w'.cell? ⟨g, j * 3 + 2, none⟩ = some (.float .f32 r) ∧ FV .f32 p (cs.getD j c0).1 ∧ FV .f32 q (cs.getD j c0).2.1 ∧ FV .f32 r (cs.getD j c0).2.2)) (fun i _ => len - (intOf i).toNat)
 case atStart => exact ⟨0, Nat.zero_le _, rfl, HST.out, fun j hj => absurd hj (by omega)⟩
 case round =>
  obtain ⟨k, hk, rfl, hA⟩ := hrel
  by_cases hlt : k < len
  ·obtain ⟨⟨hB, hgs, hce, hfz⟩, hdone⟩ := hA.out
   have h' := h.below (HG.out ▸ hB)
   obtain ⟨b, o, rfl, hcell⟩ := h'.some (by omega)
   obtain ⟨p, q, r, hp, hq, hr, fp, fq, fr⟩ := hcell k hlt
   have hk0 : (0 : Int) ≤ (k : Int) := by omega
   have hk1 : (k : Int) < (len : Int) := by omega
   have hf0 := hfz (k * 3)
   have hf1 := hfz (k * 3 + 1)
   have hf2 := hfz (k * 3 + 2)
   obtain ⟨v0, hv0⟩ := hce (k * 3) (by omega)
   obtain ⟨v1, hv1⟩ := hce (k * 3 + 1) (by omega)
   obtain ⟨v2, hv2⟩ := hce (k * 3 + 2) (by omega)
   have HD := Lib.hid hdone
   have HC := Lib.hid hce
   have HF := Lib.hid hfz
   have HB := Lib.hid hB
   clear hA hcell h' hdone hce hfz hB h
   go_wp2_with fail
   refine (laws_toVector _ _ _ _).mono ?_
   rintro e w1 ⟨rfl, hB1⟩
   have hv0' : w1.cell? ⟨g, k * 3, none⟩ = some v0 := by rw [hB1.cell (p := ⟨g, k * 3, none⟩) hgs]; exact hv0
   have hv1' : w1.cell? ⟨g, k * 3 + 1, none⟩ = some v1 := by rw [hB1.cell (p := ⟨g, k * 3 + 1, none⟩) hgs]; exact hv1
   have hv2' : w1.cell? ⟨g, k * 3 + 2, none⟩ = some v2 := by rw [hB1.cell (p := ⟨g, k * 3 + 2, none⟩) hgs]; exact hv2
   have hf0' : w1.frozen? ⟨g, k * 3, none⟩ = false := by rw [hB1.frozen (p := ⟨g, k * 3, none⟩) hgs]; exact hf0
   have hf1' : w1.frozen? ⟨g, k * 3 + 1, none⟩ = false := by rw [hB1.frozen (p := ⟨g, k * 3 + 1, none⟩) hgs]; exact hf1
   have hf2' : w1.frozen? ⟨g, k * 3 + 2, none⟩ = false := by rw [hB1.frozen (p := ⟨g, k * 3 + 2, none⟩) hgs]; exact hf2
   have HB1 := Lib.hid hB1
   clear hB1
   go_wp2
   go_roundw
   case rel =>
    have hB1 := HB1.out
    obtain ⟨e0, e1, e2, eo⟩ := set3k (u := .float .f32 p) (v := .float .f32 q) (t := .float .f32 r) hv0' hv1' hv2'
    refine ⟨k + 1, by omega, by go_num, ⟨⟨(((HB.out.trans (hB1.mono (by omega))).setCell (Nat.le_refl _) _).setCell (Nat.le_refl _) _).setCell (Nat.le_refl _) _, by simp <;> (have := hB1.size; omega), fun j hj => ?_, fun j => ?_⟩, fun j hj => ?_⟩⟩
    ·by_cases h0 : j = k * 3
     ·subst h0; exact ⟨_, e0⟩
     ·by_cases h1 : j = k * 3 + 1
      ·subst h1; exact ⟨_, e1⟩
      ·by_cases h2 : j = k * 3 + 2
       ·subst h2; exact ⟨_, e2⟩
       ·obtain ⟨v, hv⟩ := HC.out j hj
        exact ⟨v, by rw [eo j h0 h1 h2, hB1.cell (p := ⟨g, j, none⟩) hgs]; exact hv⟩
    ·simp; rw [hB1.frozen (p := ⟨g, j, none⟩) hgs]; exact HF.out j
    ·by_cases hjk : j = k
     ·subst hjk; exact ⟨p, q, r, e0, e1, e2, fp, fq, fr⟩
     ·obtain ⟨p', q', r', k0, k1, k2, hv⟩ := HD.out j (by omega)
      exact ⟨p', q', r', by rw [eo _ (by omega) (by omega) (by omega), hB1.cell (p := ⟨g, j * 3, none⟩) hgs]; exact k0, by rw [eo _ (by omega) (by omega) (by omega), hB1.cell (p := ⟨g, j * 3 + 1, none⟩) hgs]; exact k1,
       by rw [eo _ (by omega) (by omega) (by omega), hB1.cell (p := ⟨g, j * 3 + 2, none⟩) hgs]; exact k2, hv⟩
   case measure => simp [intOf]; omega
  ·obtain rfl : k = len := by omega
   obtain ⟨⟨hB, hgs, hce, hfz⟩, hdone⟩ := hA.out
   have hfin : IsVs wr (some ⟨g, 0, none⟩) k k cs := by
    refine ⟨hzl, Nat.le_refl _, by unfold maxLen; omega, by simp, fun x hx i hi => ?_⟩
    cases hx
    obtain ⟨p, q, r, k0, k1, k2, hv⟩ := hdone i hi
    exact ⟨p, q, r, by rw [addr_add', Nat.zero_add]; exact k0, by rw [addr_add', Nat.zero_add]; exact k1, by rw [addr_add', Nat.zero_add]; exact k2, hv⟩
   have HF := Lib.hid hfin
   have HB := Lib.hid hB
   clear hA hB hce hfz hdone hfin h
   go_wp2
   go_ret
   exact ⟨rfl, HF.out, HB.out, hgs⟩
theorem _root_.Go.Proofs.YtabccmobmppdnaaGreat.Fk.IsVs.set {w : World} {a : Addr} {v : Value} {b len cap : Nat} {o : Nat} {cs : List C3} (h : IsVs w (some ⟨b, o, none⟩) len cap cs) (hne : a.block ≠ b) : IsVs (w.setCell a v) (some ⟨b, o, none⟩) len cap cs := by
 obtain ⟨h1, h2, h3, h5, h6⟩ := h
 have ne : ∀ j, a ≠ ⟨b, j, none⟩ := fun j h => hne (by rw [h])
 refine ⟨h1, h2, h3, h5, fun x hx i hi => ?_⟩
 obtain ⟨p, q, r, k0, k1, k2, hv⟩ := h6 x hx i hi
 cases hx
 rw [addr_add'] at k0 k1 k2
 refine ⟨p, q, r, ?_, ?_, ?_, hv⟩
 ·rw [addr_add', World.cell?_setCell_other _ _ _ _ (ne _)]; exact k0
 ·rw [addr_add', World.cell?_setCell_other _ _ _ _ (ne _)]; exact k1
 ·rw [addr_add', World.cell?_setCell_other _ _ _ _ (ne _)]; exact k2
theorem _root_.Go.Proofs.YtabccmobmppdnaaGreat.Fk.IsIs.setN {w : World} {a : Addr} {v u : Value} {b : Option Addr} {len cap : Nat} {zs : List Int} (h : IsIs w b len cap zs) (hu : w.cell? a = some u) (hn : ∀ z, u ≠ .int .i64 z) : IsIs (w.setCell a v) b len cap zs := by
 obtain ⟨h1, h2, h3, h4, h5, h6⟩ := h
 refine ⟨h1, h2, h3, h4, h5, fun x hx i hi => ?_⟩
 have hc := h6 x hx i hi
 rw [World.cell?_setCell_other _ _ _ _ (by intro h; rw [h, hc] at hu; exact hn _ (Option.some.inj hu).symm)]; exact hc
theorem _root_.Go.Proofs.YtabccmobmppdnaaGreat.Fk.IsTs.setN {w : World} {a : Addr} {v u : Value} {b o : Nat} {len cap : Nat} {ts : List (List Int)} (h : IsTs w (some ⟨b, o, none⟩) len cap ts) (hne : a.block ≠ b) (hu : w.cell? a = some u) (hn : ∀ z, u ≠ .int .i64 z) : IsTs (w.setCell a v) (some ⟨b, o, none⟩) len cap ts := by
 obtain ⟨h1, h2, h3, h5, h6⟩ := h
 refine ⟨h1, h2, h3, h5, fun x hx i hi => ?_⟩
 obtain ⟨rb, n, c, hc, hi'⟩ := h6 x hx i hi
 cases hx
 refine ⟨rb, n, c, ?_, hi'.setN hu hn⟩
 rw [addr_add'] at hc ⊢
 rw [World.cell?_setCell_other _ _ _ _ (by intro h; apply hne; rw [h])]; exact hc
def Small (cs : List C3) (ts : List (List Int)) : Prop := cs.length ≤ 1048576 ∧ ts.length ≤ 1048576 ∧ ∀ k, k < ts.length → (ts.getD k []).length ≤ 1048576
theorem laws_toMesh (pa ta : Option Addr) (pl pc tl tc : Nat) (cs : List C3) (ts : List (List Int)) (w : World) (hp : IsVs w pa pl pc cs) (ht : IsTs w ta tl tc ts) (hs : Small cs ts) :
  Calls Tryz.prog 67 #[.agg #[.slice pa pl pc, .slice ta tl tc]] w fun e w' => (∃ b b', e = .returned (.agg #[.slice (some ⟨b, 0, none⟩) pl pl, .slice (some ⟨b', 0, none⟩) tl tl]) ∧ w.heap.size ≤ b ∧ b < b' ∧ IsVs w' (some ⟨b, 0, none⟩) pl pl cs ∧ IsTs w' (some ⟨b', 0, none⟩) tl tl ts) ∧ Below w.heap.size w w' := by
 have hpl := hp.1
 have htl := ht.1
 obtain ⟨s1, s2, s3⟩ := hs
 rw [hpl] at s1
 rw [htl] at s2 s3
 have hT := Lib.hid ht
 have hP := Lib.hid hp
 have hS3 := Lib.hid s3
 clear hp ht s3 hpl htl
 have ul := Tryz.underlying25
 have ui := Tryz.underlying40
 go_enter Tryz.func67, Tryz.ntmps67
 go_wp2_with fail
 have hB0 : Below w.heap.size w (((w.alloc (.cells #[.slice pa pl pc, .slice ta tl tc] 25)).alloc (.cells #[.slice none 0 0, .slice none 0 0] 40)).alloc (.cells #[.slice none 0 0, .slice none 0 0] 40)) :=
  (((Below.refl _ _).alloc (Nat.le_refl _) _).alloc (by simp) _).alloc (by simp <;> omega) _
 have c1 : (((w.alloc (.cells #[.slice pa pl pc, .slice ta tl tc] 25)).alloc (.cells #[.slice none 0 0, .slice none 0 0] 40)).alloc (.cells #[.slice none 0 0, .slice none 0 0] 40)).cell? ⟨w.heap.size, 1, none⟩ = some (.slice ta tl tc) := by go_simp
 have cs0 : ∀ i, i < 2 → (((w.alloc (.cells #[.slice pa pl pc, .slice ta tl tc] 25)).alloc (.cells #[.slice none 0 0, .slice none 0 0] 40)).alloc (.cells #[.slice none 0 0, .slice none 0 0] 40)).cell? ⟨w.heap.size + 1 + 1, i, none⟩ = some (.slice none 0 0) := by
  intro i hi
  have : i = 0 ∨ i = 1 := by omega
  rcases this with rfl | rfl <;> go_simp
 have cr0 : ∀ i, i < 2 → (((w.alloc (.cells #[.slice pa pl pc, .slice ta tl tc] 25)).alloc (.cells #[.slice none 0 0, .slice none 0 0] 40)).alloc (.cells #[.slice none 0 0, .slice none 0 0] 40)).cell? ⟨w.heap.size + 1, i, none⟩ = some (.slice none 0 0) := by
  intro i hi
  have : i = 0 ∨ i = 1 := by omega
  rcases this with rfl | rfl <;> go_simp
 have fs0 : ∀ i, (((w.alloc (.cells #[.slice pa pl pc, .slice ta tl tc] 25)).alloc (.cells #[.slice none 0 0, .slice none 0 0] 40)).alloc (.cells #[.slice none 0 0, .slice none 0 0] 40)).frozen? ⟨w.heap.size + 1 + 1, i, none⟩ = false := by intro i; go_simp
 have fr0 : ∀ i, (((w.alloc (.cells #[.slice pa pl pc, .slice ta tl tc] 25)).alloc (.cells #[.slice none 0 0, .slice none 0 0] 40)).alloc (.cells #[.slice none 0 0, .slice none 0 0] 40)).frozen? ⟨w.heap.size + 1, i, none⟩ = false := by intro i; go_simp
 have hsz : (((w.alloc (.cells #[.slice pa pl pc, .slice ta tl tc] 25)).alloc (.cells #[.slice none 0 0, .slice none 0 0] 40)).alloc (.cells #[.slice none 0 0, .slice none 0 0] 40)).heap.size = w.heap.size + 1 + 1 + 1 := by simp
 generalize (((w.alloc (.cells #[.slice pa pl pc, .slice ta tl tc] 25)).alloc (.cells #[.slice none 0 0, .slice none 0 0] 40)).alloc (.cells #[.slice none 0 0, .slice none 0 0] 40)) = W at *
 obtain ⟨n, hn⟩ : ∃ n, n = w.heap.size := ⟨_, rfl⟩
 refine (laws_toVectorS _ _ _ _ _ (hP.out.below hB0) s1).mono ?_
 rintro e w1 ⟨rfl, hV, hB1, hS1⟩
 have lt0 : w.heap.size < W.heap.size := by rw [hsz]; omega
 have lt1 : w.heap.size + 1 < W.heap.size := by rw [hsz]; omega
 have lt2 : w.heap.size + 1 + 1 < W.heap.size := by rw [hsz]; omega
 have d1 : w1.cell? ⟨w.heap.size, 1, none⟩ = some (.slice ta tl tc) := by rw [hB1.cell (p := ⟨w.heap.size, 1, none⟩) lt0]; exact c1
 have d2 : w1.cell? ⟨w.heap.size + 1 + 1, 0, none⟩ = some (.slice none 0 0) := by rw [hB1.cell (p := ⟨w.heap.size + 1 + 1, 0, none⟩) lt2]; exact cs0 0 (by decide)
 have d3 : w1.cell? ⟨w.heap.size + 1 + 1, 1, none⟩ = some (.slice none 0 0) := by rw [hB1.cell (p := ⟨w.heap.size + 1 + 1, 1, none⟩) lt2]; exact cs0 1 (by decide)
 have d4 : w1.cell? ⟨w.heap.size + 1, 0, none⟩ = some (.slice none 0 0) := by rw [hB1.cell (p := ⟨w.heap.size + 1, 0, none⟩) lt1]; exact cr0 0 (by decide)
 have d5 : w1.cell? ⟨w.heap.size + 1, 1, none⟩ = some (.slice none 0 0) := by rw [hB1.cell (p := ⟨w.heap.size + 1, 1, none⟩) lt1]; exact cr0 1 (by decide)
 have g2 : w1.frozen? ⟨w.heap.size + 1 + 1, 0, none⟩ = false := by rw [hB1.frozen (p := ⟨w.heap.size + 1 + 1, 0, none⟩) lt2]; exact fs0 0
 have g3 : w1.frozen? ⟨w.heap.size + 1 + 1, 1, none⟩ = false := by rw [hB1.frozen (p := ⟨w.heap.size + 1 + 1, 1, none⟩) lt2]; exact fs0 1
 have g4 : w1.frozen? ⟨w.heap.size + 1, 0, none⟩ = false := by rw [hB1.frozen (p := ⟨w.heap.size + 1, 0, none⟩) lt1]; exact fr0 0
 have g5 : w1.frozen? ⟨w.heap.size + 1, 1, none⟩ = false := by rw [hB1.frozen (p := ⟨w.heap.size + 1, 1, none⟩) lt1]; exact fr0 1
 have hBW : Below w.heap.size w w1 := hB0.trans (hB1.mono (by rw [hsz]; omega))
 have hz : w.heap.size + 1 + 1 + 1 < w1.heap.size := by rw [← hsz]; exact hS1
 have HV := Lib.hid hV
 have HBW := Lib.hid hBW
 have HSZ := Lib.hid hsz
 generalize W.heap.size = B at *
 clear c1 cs0 cr0 fs0 fr0 hB0 hB1 hV hBW hsz lt0 lt1 lt2 hn
 go_wp2_with fail
 have hB2 : Below w.heap.size w (w1.setCell ⟨w.heap.size + 1 + 1, 0, none⟩ (.slice (some ⟨B, 0, none⟩) pl pl)) := HBW.out.setCell (by show w.heap.size ≤ w.heap.size + 1 + 1; omega) _
 have e2 := World.cell?_setCell_same w1 ⟨w.heap.size + 1 + 1, 0, none⟩ (.slice (some ⟨B, 0, none⟩) pl pl) d2
 have e3 : (w1.setCell ⟨w.heap.size + 1 + 1, 0, none⟩ (.slice (some ⟨B, 0, none⟩) pl pl)).cell? ⟨w.heap.size + 1 + 1, 1, none⟩ = some (.slice none 0 0) := by rw [World.cell?_setCell_other _ _ _ _ (by simp)]; exact d3
 have e4 : (w1.setCell ⟨w.heap.size + 1 + 1, 0, none⟩ (.slice (some ⟨B, 0, none⟩) pl pl)).cell? ⟨w.heap.size + 1, 0, none⟩ = some (.slice none 0 0) := by rw [World.cell?_setCell_other _ _ _ _ (by simp)]; exact d4
 have e5 : (w1.setCell ⟨w.heap.size + 1 + 1, 0, none⟩ (.slice (some ⟨B, 0, none⟩) pl pl)).cell? ⟨w.heap.size + 1, 1, none⟩ = some (.slice none 0 0) := by rw [World.cell?_setCell_other _ _ _ _ (by simp)]; exact d5
 have k3 : (w1.setCell ⟨w.heap.size + 1 + 1, 0, none⟩ (.slice (some ⟨B, 0, none⟩) pl pl)).frozen? ⟨w.heap.size + 1 + 1, 1, none⟩ = false := by simp; exact g3
 have k4 : (w1.setCell ⟨w.heap.size + 1 + 1, 0, none⟩ (.slice (some ⟨B, 0, none⟩) pl pl)).frozen? ⟨w.heap.size + 1, 0, none⟩ = false := by simp; exact g4
 have k5 : (w1.setCell ⟨w.heap.size + 1 + 1, 0, none⟩ (.slice (some ⟨B, 0, none⟩) pl pl)).frozen? ⟨w.heap.size + 1, 1, none⟩ = false := by simp; exact g5
 have hV2 : IsVs (w1.setCell ⟨w.heap.size + 1 + 1, 0, none⟩ (.slice (some ⟨B, 0, none⟩) pl pl)) (some ⟨B, 0, none⟩) pl pl cs := HV.out.set (by rw [HSZ.out]; show w.heap.size + 1 + 1 ≠ w.heap.size + 1 + 1 + 1; omega)
 have hsz2 : (w1.setCell ⟨w.heap.size + 1 + 1, 0, none⟩ (.slice (some ⟨B, 0, none⟩) pl pl)).heap.size = w1.heap.size := by simp
 clear d1 d2 d3 d4 d5 g2 g3 g4 g5
 generalize (w1.setCell ⟨w.heap.size + 1 + 1, 0, none⟩ (.slice (some ⟨B, 0, none⟩) pl pl)) = W2 at *
 have lt1 : w.heap.size + 1 < W2.heap.size := by rw [hsz2]; omega
 have lt2 : w.heap.size + 1 + 1 < W2.heap.size := by rw [hsz2]; omega
 refine (laws_toInt64SS _ _ _ _ _ (hT.out.below hB2) s2 hS3.out).mono ?_
 rintro e w3 ⟨rfl, hT3, hB3, hS3'⟩
 have d2 : w3.cell? ⟨w.heap.size + 1 + 1, 0, none⟩ = some (.slice (some ⟨B, 0, none⟩) pl pl) := by rw [hB3.cell (p := ⟨w.heap.size + 1 + 1, 0, none⟩) lt2]; exact e2
 have d3 : w3.cell? ⟨w.heap.size + 1 + 1, 1, none⟩ = some (.slice none 0 0) := by rw [hB3.cell (p := ⟨w.heap.size + 1 + 1, 1, none⟩) lt2]; exact e3
 have d4 : w3.cell? ⟨w.heap.size + 1, 0, none⟩ = some (.slice none 0 0) := by rw [hB3.cell (p := ⟨w.heap.size + 1, 0, none⟩) lt1]; exact e4
 have d5 : w3.cell? ⟨w.heap.size + 1, 1, none⟩ = some (.slice none 0 0) := by rw [hB3.cell (p := ⟨w.heap.size + 1, 1, none⟩) lt1]; exact e5
 have g3 : w3.frozen? ⟨w.heap.size + 1 + 1, 1, none⟩ = false := by rw [hB3.frozen (p := ⟨w.heap.size + 1 + 1, 1, none⟩) lt2]; exact k3
 have g4 : w3.frozen? ⟨w.heap.size + 1, 0, none⟩ = false := by rw [hB3.frozen (p := ⟨w.heap.size + 1, 0, none⟩) lt1]; exact k4
 have g5 : w3.frozen? ⟨w.heap.size + 1, 1, none⟩ = false := by rw [hB3.frozen (p := ⟨w.heap.size + 1, 1, none⟩) lt1]; exact k5
 have HV3 := Lib.hid (hV2.below hB3)
 have HT3 := Lib.hid hT3
 have HB3 := Lib.hid (hB2.trans (hB3.mono (by rw [hsz2]; omega)))
 have HSZ2 := Lib.hid hsz2
 have HZ := Lib.hid hz
 generalize W2.heap.size = B2 at *
 clear hV2 hT3 hB3 hB2 e2 e3 e4 e5 k3 k4 k5 hsz2 lt1 lt2 hz hS1 hS3'
 go_wp2
 have x0 : ∀ u, ((w3.setCell ⟨w.heap.size + 1 + 1, 1, none⟩ u).cell? ⟨w.heap.size + 1, 0, none⟩) = some (.slice none 0 0) := fun u => by rw [World.cell?_setCell_other _ _ _ _ (by simp)]; exact d4
 have x1 : ∀ u v, (((w3.setCell ⟨w.heap.size + 1 + 1, 1, none⟩ u).setCell ⟨w.heap.size + 1, 0, none⟩ v).cell? ⟨w.heap.size + 1, 1, none⟩) = some (.slice none 0 0) := fun u v => by rw [World.cell?_setCell_other _ _ _ _ (by simp), World.cell?_setCell_other _ _ _ _ (by simp)]; exact d5
 have r1 : ∀ u v t, ((((w3.setCell ⟨w.heap.size + 1 + 1, 1, none⟩ u).setCell ⟨w.heap.size + 1, 0, none⟩ v).setCell ⟨w.heap.size + 1, 1, none⟩ t).cell? ⟨w.heap.size + 1, 1, none⟩) = some t := fun u v t => World.cell?_setCell_same _ _ _ (x1 u v)
 have r0 : ∀ u v t, ((((w3.setCell ⟨w.heap.size + 1 + 1, 1, none⟩ u).setCell ⟨w.heap.size + 1, 0, none⟩ v).setCell ⟨w.heap.size + 1, 1, none⟩ t).cell? ⟨w.heap.size + 1, 0, none⟩) = some v := fun u v t => by rw [World.cell?_setCell_other _ _ _ _ (by simp)]; exact World.cell?_setCell_same _ _ _ (x0 u)
 have hB := HSZ.out
 have hB2 := HSZ2.out
 have hz := HZ.out
 have n1 : ∀ z, (.slice none 0 0 : Value) ≠ .int .i64 z := fun z h => by cases h
 refine bodyPost_ret (v := .agg #[.slice (some ⟨B, 0, none⟩) pl pl, .slice (some ⟨B2, 0, none⟩) tl tl]) (by simp [results, Tryz.results67, go_sem, r0, r1]) rfl ⟨⟨B, B2, rfl, by omega, by omega, ?_, ?_⟩, ?_⟩
 ·exact ((HV3.out.set (by show w.heap.size + 1 + 1 ≠ B; omega)).set (by show w.heap.size + 1 ≠ B; omega)).set (by show w.heap.size + 1 ≠ B; omega)
 ·exact ((HT3.out.setN (by show w.heap.size + 1 + 1 ≠ B2; omega) d3 n1).setN (by show w.heap.size + 1 ≠ B2; omega) (x0 _) n1).setN (by show w.heap.size + 1 ≠ B2; omega) (x1 _ _) n1
 ·exact ((HB3.out.setCell (by show w.heap.size ≤ w.heap.size + 1 + 1; omega) _).setCell (by show w.heap.size ≤ w.heap.size + 1; omega) _).setCell (by show w.heap.size ≤ w.heap.size + 1; omega) _
end Go.Proofs.YtabccmobmppdnaaGreat
namespace Go.Proofs.YtabccmobmppdnaaGreat
open Go Fk Go.RowKit
set_option linter.unusedVariables false
set_option maxRecDepth 8000
theorem _root_.Go.Proofs.YtabccmobmppdnaaGreat.Fk.IsIs.drewE {w w1 : World} {n : Nat} {a : Option Addr} {len cap : Nat} {zs : List Int} (h : IsIs w a len cap zs) (hw : w1 = w.drewN n) : IsIs w1 a len cap zs := by subst hw; exact h
theorem drewn_end {w w1 : World} {n m : Nat} (h : w1 = w.drewN n) : ∃ k, w1.drewN m = w.drewN k := ⟨n + m, by rw [h, World.drewN_drewN]⟩
set_option maxHeartbeats 1000000 in
theorem laws_eqInt64S (a b : Option Addr) (len cap cap' : Nat) (zs : List Int) (w : World) (ha : IsIs w a len cap zs) (hb : IsIs w b len cap' zs) :
  Calls Tryz.prog 24 #[.slice a len cap, .slice b len cap'] w fun e w' => e = .returned (.bool true) ∧ ∃ n, w' = w.drewN n := by
 have hm : len ≤ 9223372036854775807 := by have h1 := ha.2.1; have h2 := ha.2.2.1; unfold maxLen at h2; omega
 have hzl := ha.1
 go_enter Tryz.func24, Tryz.ntmps24
 go_wp2
 go_loopw [5] (fun i w' => ∃ k : Nat, k ≤ len ∧ i = .int .i64 k ∧ ∃ n, w' = w.drewN n) (fun i _ => len - (intOf i).toNat)
 case atStart => exact ⟨0, Nat.zero_le _, rfl, 0, rfl⟩
 case round =>
  obtain ⟨k, hk, rfl, n, hw⟩ := hrel
  by_cases hlt : k < len
  ·obtain ⟨b1, o1, rfl, hcell1⟩ := (ha.drewE hw).some (by omega)
   obtain ⟨b2, o2, rfl, hcell2⟩ := (hb.drewE hw).some (by omega)
   have c1 := hcell1 k hlt
   have c2 := hcell2 k hlt
   generalize zs.getD k 0 = z at *
   have HW := Lib.hid hw
   clear hcell1 hcell2 hzl ha hb hw
   have hk0 : (0 : Int) ≤ (k : Int) := by omega
   have hk1 : (k : Int) < (len : Int) := by omega
   go_wp2_with fail
   go_quiet (fail)
   go_wp2
   go_roundw
   case rel => exact ⟨k + 1, by omega, by go_num, drewn_end HW.out⟩
   case measure => simp [intOf]; omega
  ·have HW := Lib.hid hw
   clear hw
   go_wp2
   go_ret
   exact ⟨rfl, n, HW.out⟩
theorem _root_.Go.Proofs.YtabccmobmppdnaaGreat.Fk.IsTs.drew {w w1 : World} {n : Nat} {a : Option Addr} {len cap : Nat} {ts : List (List Int)} (h : IsTs w a len cap ts) (hw : w1 = w.drewN n) : IsTs w1 a len cap ts := by subst hw; exact h
theorem _root_.Go.Proofs.YtabccmobmppdnaaGreat.Fk.IsIs.drew {w : World} {n : Nat} {a : Option Addr} {len cap : Nat} {zs : List Int} (h : IsIs w a len cap zs) : IsIs (w.drewN n) a len cap zs := h
theorem _root_.Go.Proofs.YtabccmobmppdnaaGreat.Fk.IsVs.drew {w w1 : World} {n : Nat} {a : Option Addr} {len cap : Nat} {cs : List C3} (h : IsVs w a len cap cs) (hw : w1 = w.drewN n) : IsVs w1 a len cap cs := by subst hw; exact h
set_option maxHeartbeats 1000000 in
theorem laws_eqInt64SS (a b : Option Addr) (len cap cap' : Nat) (ts : List (List Int)) (w : World) (ha : IsTs w a len cap ts) (hb : IsTs w b len cap' ts) :
  Calls Tryz.prog 131 #[.slice a len cap, .slice b len cap'] w fun e w' => e = .returned (.bool true) ∧ ∃ n, w' = w.drewN n := by
 have hm : len ≤ 9223372036854775807 := by have h1 := ha.2.1; have h2 := ha.2.2.1; unfold maxLen at h2; omega
 have hzl := ha.1
 go_enter Tryz.func131, Tryz.ntmps131
 go_wp2
 go_loopw [5] (fun i w' => ∃ k : Nat, k ≤ len ∧ i = .int .i64 k ∧ ∃ n, w' = w.drewN n) (fun i _ => len - (intOf i).toNat)
 case atStart => exact ⟨0, Nat.zero_le _, rfl, 0, rfl⟩
 case round =>
  obtain ⟨k, hk, rfl, n, hw⟩ := hrel
  by_cases hlt : k < len
  ·obtain ⟨b1, o1, rfl, hcell1⟩ := (ha.drew hw).some (by omega)
   obtain ⟨b2, o2, rfl, hcell2⟩ := (hb.drew hw).some (by omega)
   obtain ⟨r1, n1, q1, c1, i1⟩ := hcell1 k hlt
   obtain ⟨r2, n2, q2, c2, i2⟩ := hcell2 k hlt
   have hn : n2 = n1 := i2.1.symm.trans i1.1
   subst hn
   generalize ts.getD k [] = z at *
   have HW := Lib.hid hw
   have I1 := Lib.hid i1
   have I2 := Lib.hid i2
   clear hcell1 hcell2 hzl ha hb hw i1 i2
   have hk0 : (0 : Int) ≤ (k : Int) := by omega
   have hk1 : (k : Int) < (len : Int) := by omega
   go_wp2_with fail
   go_quiet ((go_at_call 24; exact Calls.quiet_of (laws_eqInt64S _ _ _ _ _ _ _ I1.out.drew I2.out.drew)))
   go_wp2
   go_roundw
   case rel => exact ⟨k + 1, by omega, by go_num, drewn_end HW.out⟩
   case measure => simp [intOf]; omega
  ·have HW := Lib.hid hw
   clear hw
   go_wp2
   go_ret
   exact ⟨rfl, n, HW.out⟩
set_option maxHeartbeats 1000000 in
theorem laws_eqVectorS (a b : Option Addr) (len cap cap' : Nat) (cs : List C3) (w : World) (ha : IsVs w a len cap cs) (hb : IsVs w b len cap' cs) :
  Calls Tryz.prog 22 #[.slice a len cap, .slice b len cap'] w fun e w' => e = .returned (.bool true) ∧ Below w.heap.size w w' := by
 have hm : len ≤ 9223372036854775807 := by have h1 := ha.2.1; have h2 := ha.2.2.1; unfold maxLen at h2; omega
 have uv := Tryz.underlying42
 have hzl := ha.1
 go_enter Tryz.func22, Tryz.ntmps22
 go_wp2
 go_loopw [5] (fun i w' => ∃ k : Nat, k ≤ len ∧ i = .int .i64 k ∧ Below w.heap.size w w') (fun i _ => len - (intOf i).toNat)
 case atStart => exact ⟨0, Nat.zero_le _, rfl, Below.refl _ _⟩
 case round =>
  obtain ⟨k, hk, rfl, hB⟩ := hrel
  by_cases hlt : k < len
  ·obtain ⟨b1, o1, rfl, hcell1⟩ := (ha.below hB).some (by omega)
   obtain ⟨b2, o2, rfl, hcell2⟩ := (hb.below hB).some (by omega)
   obtain ⟨p1, q1, r1, c11, c12, c13, f11, f12, f13⟩ := hcell1 k hlt
   obtain ⟨p2, q2, r2, c21, c22, c23, f21, f22, f23⟩ := hcell2 k hlt
   generalize cs.getD k c0 = z at *
   have HB := Lib.hid hB
   clear hcell1 hcell2 hzl ha hb hB
   have hk0 : (0 : Int) ≤ (k : Int) := by omega
   have hk1 : (k : Int) < (len : Int) := by omega
   go_wp2_with fail
   refine Reg.wp_region_mix (C := fun w' => (w'.cell? ⟨b1, o1 + k * 3, none⟩ = some (.float .f32 p1) ∧ w'.cell? ⟨b1, o1 + k * 3 + 1, none⟩ = some (.float .f32 q1) ∧ w'.cell? ⟨b1, o1 + k * 3 + 2, none⟩ = some (.float .f32 r1) ∧ w'.cell? ⟨b2, o2 + k * 3, none⟩ = some (.float .f32 p2) ∧ w'.cell? ⟨b2, o2 + k * 3 + 1, none⟩ = some (.float .f32 q2) ∧ w'.cell? ⟨b2, o2 + k * 3 + 2, none⟩ = some (.float .f32 r2)) ∧ Below wr.heap.size wr w') (G := fun _ _ => True) (R := fun i v _ => match i with | 0 => v = .slice (some ⟨b1, o1, none⟩) len cap | 1 => v = .int .i64 k | 2 => v = .pointer (some ⟨b1, o1 + k * 3, none⟩) | 3 => v = vv p1 q1 r1 | 4 => v = .slice (some ⟨b2, o2, none⟩) len cap' | 5 => v = .int .i64 k | 6 => v = .pointer (some ⟨b2, o2 + k * 3, none⟩) | 7 => v = vv p2 q2 r2 | 8 => v = .bool true | 9 => v = .bool false | _ => True) (T := fun _ _ _ => True) [false, false, false, false, false, false, false, false, false, false, false, false, false, false, false, false, false, true, true, true, true, true, true, true, true, true, true]
    (by kernel_rfl) (by kernel_rfl) (by kernel_rfl) (fun _ _ _ _ _ _ h => h) ⟨⟨c11, c12, c13, c21, c22, c23⟩, below_drewN (Below.refl _ _) 1⟩ ?_ ?_
   ·refine ⟨Reg.Obl.mk ?_, Reg.Obl.mk ?_, Reg.Obl.mk ?_, Reg.Obl.mk ?_, Reg.Obl.mk ?_, Reg.Obl.mk ?_, Reg.Obl.mk ?_, Reg.Obl.mk ?_, Reg.Obl.mk ?_, Reg.Obl.mk ?_, trivial⟩
    ·rintro a w1 ⟨⟨d11, d12, d13, d21, d22, d23⟩, hB⟩ hx hd K hK
     have t0 : a.tmps[0]?.getD undef = .slice (some ⟨b1, o1, none⟩) len cap := Reg.slot_val (hx 0 (by kernel_rfl))
     go_simp
     exact hK _ _ (fun _ => rfl) (fun h => by cases h) ⟨⟨d11, d12, d13, d21, d22, d23⟩, hB⟩ trivial
    ·rintro a w1 ⟨⟨d11, d12, d13, d21, d22, d23⟩, hB⟩ hx hd K hK
     have t5 : a.tmps[5]?.getD undef = .int .i64 k := Reg.slot_val (hx 5 (by kernel_rfl))
     go_simp
     exact hK _ _ (fun _ => rfl) (fun h => by cases h) ⟨⟨d11, d12, d13, d21, d22, d23⟩, hB⟩ trivial
    ·rintro a w1 ⟨⟨d11, d12, d13, d21, d22, d23⟩, hB⟩ hx hd K hK
     have t17 : a.tmps[17]?.getD undef = .slice (some ⟨b1, o1, none⟩) len cap := Reg.slot_val (hd 0 (by kernel_rfl) 17 rfl)
     have t18 : a.tmps[18]?.getD undef = .int .i64 k := Reg.slot_val (hd 1 (by kernel_rfl) 18 rfl)
     go_simp
     exact hK _ _ (fun _ => rfl) (fun h => by cases h) ⟨⟨d11, d12, d13, d21, d22, d23⟩, hB⟩ trivial
    ·rintro a w1 ⟨⟨d11, d12, d13, d21, d22, d23⟩, hB⟩ hx hd K hK
     have t19 : a.tmps[19]?.getD undef = .pointer (some ⟨b1, o1 + k * 3, none⟩) := Reg.slot_val (hd 2 (by kernel_rfl) 19 rfl)
     go_simp
     exact hK _ _ (fun _ => rfl) (fun h => by cases h) ⟨⟨d11, d12, d13, d21, d22, d23⟩, hB⟩ trivial
    ·rintro a w1 ⟨⟨d11, d12, d13, d21, d22, d23⟩, hB⟩ hx hd K hK
     have t1 : a.tmps[1]?.getD undef = .slice (some ⟨b2, o2, none⟩) len cap' := Reg.slot_val (hx 1 (by kernel_rfl))
     go_simp
     exact hK _ _ (fun _ => rfl) (fun h => by cases h) ⟨⟨d11, d12, d13, d21, d22, d23⟩, hB⟩ trivial
    ·rintro a w1 ⟨⟨d11, d12, d13, d21, d22, d23⟩, hB⟩ hx hd K hK
     have t5 : a.tmps[5]?.getD undef = .int .i64 k := Reg.slot_val (hx 5 (by kernel_rfl))
     go_simp
     exact hK _ _ (fun _ => rfl) (fun h => by cases h) ⟨⟨d11, d12, d13, d21, d22, d23⟩, hB⟩ trivial
    ·rintro a w1 ⟨⟨d11, d12, d13, d21, d22, d23⟩, hB⟩ hx hd K hK
     have t21 : a.tmps[21]?.getD undef = .slice (some ⟨b2, o2, none⟩) len cap' := Reg.slot_val (hd 4 (by kernel_rfl) 21 rfl)
     have t22 : a.tmps[22]?.getD undef = .int .i64 k := Reg.slot_val (hd 5 (by kernel_rfl) 22 rfl)
     go_simp
     exact hK _ _ (fun _ => rfl) (fun h => by cases h) ⟨⟨d11, d12, d13, d21, d22, d23⟩, hB⟩ trivial
    ·rintro a w1 ⟨⟨d11, d12, d13, d21, d22, d23⟩, hB⟩ hx hd K hK
     have t23 : a.tmps[23]?.getD undef = .pointer (some ⟨b2, o2 + k * 3, none⟩) := Reg.slot_val (hd 6 (by kernel_rfl) 23 rfl)
     go_simp
     exact hK _ _ (fun _ => rfl) (fun h => by cases h) ⟨⟨d11, d12, d13, d21, d22, d23⟩, hB⟩ trivial
    ·rintro a w1 ⟨⟨d11, d12, d13, d21, d22, d23⟩, hB⟩ hx hd K hK
     have t20 : a.tmps[20]?.getD undef = vv p1 q1 r1 := Reg.slot_val (hd 3 (by kernel_rfl) 20 rfl)
     have t24 : a.tmps[24]?.getD undef = vv p2 q2 r2 := Reg.slot_val (hd 7 (by kernel_rfl) 24 rfl)
     go_simp
     refine (laws_eqVector _ _ _ _ _ _ _ _ _ _ f11 f12 f13 f21 f22 f23).mono ?_
     rintro en w2 ⟨rfl, hB2⟩
     exact hK _ _ (fun _ => rfl) (fun h => by cases h) ⟨⟨cell_below hB2 d11, cell_below hB2 d12, cell_below hB2 d13, cell_below hB2 d21, cell_below hB2 d22, cell_below hB2 d23⟩, hB.trans (hB2.mono hB.size)⟩ trivial
    ·rintro a w1 ⟨⟨d11, d12, d13, d21, d22, d23⟩, hB⟩ hx hd K hK
     have t25 : a.tmps[25]?.getD undef = .bool true := Reg.slot_val (hd 8 (by kernel_rfl) 25 rfl)
     go_simp
     exact hK _ _ (fun _ => rfl) (fun h => by cases h) ⟨⟨d11, d12, d13, d21, d22, d23⟩, hB⟩ trivial
   ·rintro f w1 ⟨_, hB⟩ hd hT
    have g26 : f 26 = .bool false := hd 9 26 rfl
    simp only [Reg.mixL, g26]
    have HB1 := Lib.hid hB
    clear hB
    go_wp2
    go_roundw
    case rel => exact ⟨k + 1, by omega, by go_num, HB.out.trans (HB1.out.mono HB.out.size)⟩
    case measure => simp [intOf]; omega
  ·have HB := Lib.hid hB
   clear hB
   go_wp2
   go_ret
   exact ⟨rfl, HB.out⟩
end Go.Proofs.YtabccmobmppdnaaGreat

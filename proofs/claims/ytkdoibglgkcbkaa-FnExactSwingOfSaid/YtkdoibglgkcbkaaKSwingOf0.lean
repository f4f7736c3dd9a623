/-
Texts in one: what SwingOf stands on, part 0. Conditions: those of each.
-/
import Derived.WalkKit
import Derived.WalkLawsBesides
import Derived.Deep.Draws
import Derived.ChangeSlices
import Derived.Lib.SmallJoins
import Derived.Test.YtkdoibglgkcbkaaChecked
import Derived.Outline
import Derived.Lib.Hide
import Derived.Laws.Externs

/-
Floats as data: the class of a word (all not-a-numbers are one), and what each operation of the program makes of classes, whatever is drawn. Conditions: none.
-/
namespace Go.Proofs.Ytkdoibglgkcbkaa
namespace Fk
open Go

def cls (k : FloatKind) (b : Nat) : Option Nat := if (k.decode b).isNaN then none else some b
/-- The word b of kind k has the class c. -/
def FV (k : FloatKind) (b : Nat) (c : Option Nat) : Prop := b < 2 ^ k.format.width ∧ cls k b = c

theorem FV.lt {k : FloatKind} {b : Nat} {c : Option Nat} (h : FV k b c) : b < 2 ^ k.format.width := h.1
theorem FV.eq {k : FloatKind} {b : Nat} {c : Option Nat} (h : FV k b c) : cls k b = c := h.2
theorem FV.self {k : FloatKind} {b : Nat} (h : b < 2 ^ k.format.width) : FV k b (cls k b) := ⟨h, rfl⟩
theorem FV.num {k : FloatKind} {b x : Nat} (h : FV k b (some x)) : b = x := by
  have := h.2; unfold cls at this; split at this
  · cases this
  · exact Option.some.inj this
theorem FV.nan {k : FloatKind} {b : Nat} (h : FV k b none) : (k.decode b).isNaN = true := by
  have := h.2; unfold cls at this; split at this
  · assumption
  · cases this
theorem cls_nan {k : FloatKind} {b : Nat} (h : (k.decode b).isNaN = true) : cls k b = none := by unfold cls; rw [if_pos h]
theorem cls_num {k : FloatKind} {b : Nat} (h : (k.decode b).isNaN = false) : cls k b = some b := by unfold cls; rw [if_neg (by simp [h])]
theorem FV.notnan {k : FloatKind} {b x : Nat} (h : FV k b (some x)) : (k.decode b).isNaN = false := by
  cases hn : (k.decode b).isNaN
  · rfl
  · have := h.2; rw [cls_nan hn] at this; cases this

theorem isNaN_read (f : Ieee.Format) (hb : f.binade ≤ f.infRung) (b : Nat) : (f.read b).isNaN = decide (f.infRung < b % f.signWeight) := by
  unfold Ieee.Format.read
  dsimp only
  split
  · simp [Ieee.Datum.isNaN]; omega
  · split
    · simp [Ieee.Datum.isNaN]; omega
    · split
      · simp [Ieee.Datum.isNaN]; omega
      · simp [Ieee.Datum.isNaN]; omega

theorem isNaN_decode (k : FloatKind) (b : Nat) : (k.decode b).isNaN = decide (k.format.infRung < b % k.format.signWeight) :=
  isNaN_read _ (by cases k <;> decide) b

theorem word_mod (f : Ieee.Format) (s : Bool) (r : Nat) (h : r < f.signWeight) : f.word s r % f.signWeight = r := by
  unfold Ieee.Format.word
  split
  · rw [Nat.add_mod_left, Nat.mod_eq_of_lt h]
  · exact Nat.mod_eq_of_lt h

theorem nearest_word (f : Ieee.Format) (s : Bool) (m : Nat) (p : Int) : ∃ r, r ≤ f.infRung ∧ f.nearest s m p = f.word s r := by
  unfold Ieee.Format.nearest
  dsimp only
  split
  · exact ⟨0, Nat.zero_le _, rfl⟩
  · exact ⟨_, Nat.min_le_right _ _, rfl⟩

theorem isNaN_write (k : FloatKind) (d : Ieee.Datum) (h : d.isNaN = false) : (k.decode (k.format.write d)).isNaN = false := by
  rw [isNaN_decode]
  have hlt := k.format.infRung_lt
  cases d with
  | nan s t => simp [Ieee.Datum.isNaN] at h
  | infinity s =>
    show decide (k.format.infRung < k.format.word s k.format.infRung % k.format.signWeight) = false
    rw [word_mod _ _ _ hlt]; simp
  | number s m p =>
    obtain ⟨r, hr, he⟩ := nearest_word k.format s m p
    show decide (k.format.infRung < k.format.nearest s m p % k.format.signWeight) = false
    rw [he, word_mod _ _ _ (by omega)]; simp; omega

theorem sum_ok {x y d : Ieee.Datum} (h : x.sum y = some d) : x.isNaN = false ∧ y.isNaN = false ∧ d.isNaN = false := by
  cases x <;> cases y <;> simp_all [Ieee.Datum.sum, Ieee.Datum.isNaN] <;> first | (subst h; rfl) | (obtain ⟨_, rfl⟩ := h; rfl)
theorem product_ok {x y d : Ieee.Datum} (h : x.product y = some d) : x.isNaN = false ∧ y.isNaN = false ∧ d.isNaN = false := by
  cases x <;> cases y <;> simp_all [Ieee.Datum.product, Ieee.Datum.isNaN] <;> first | (subst h; rfl) | (obtain ⟨_, rfl⟩ := h; rfl)
theorem quotient_ok {n : Nat} {x y d : Ieee.Datum} (h : x.quotient n y = some d) : x.isNaN = false ∧ y.isNaN = false ∧ d.isNaN = false := by
  cases x <;> cases y <;> simp_all [Ieee.Datum.quotient, Ieee.Datum.isNaN] <;> first | (subst h; rfl) | skip
  split at h
  · split at h
    · cases h
    · cases h; rfl
  · cases h; rfl
theorem opposite_nan (x : Ieee.Datum) : x.opposite.isNaN = x.isNaN := by cases x <;> rfl

theorem floatBits_ok {op : BinOp} {k : FloatKind} {x y r : Nat} (h : floatBits op k x y = some r) :
    (k.decode x).isNaN = false ∧ (k.decode y).isNaN = false ∧ (k.decode r).isNaN = false ∧ r < 2 ^ k.format.width := by
  unfold floatBits at h
  split at h
  · refine have e := h; ?_
    unfold Ieee.Format.add at h
    obtain ⟨d, hd, rfl⟩ := Option.map_eq_some_iff.1 h
    have := sum_ok hd
    exact ⟨this.1, this.2.1, isNaN_write k d this.2.2, k.format.add_lt e⟩
  · refine have e := h; ?_
    unfold Ieee.Format.sub at h
    obtain ⟨d, hd, rfl⟩ := Option.map_eq_some_iff.1 h
    have := sum_ok hd
    exact ⟨this.1, by rw [← opposite_nan]; exact this.2.1, isNaN_write k d this.2.2, k.format.sub_lt e⟩
  · refine have e := h; ?_
    unfold Ieee.Format.mul at h
    obtain ⟨d, hd, rfl⟩ := Option.map_eq_some_iff.1 h
    have := product_ok hd
    exact ⟨this.1, this.2.1, isNaN_write k d this.2.2, k.format.mul_lt e⟩
  · refine have e := h; ?_
    unfold Ieee.Format.div at h
    obtain ⟨d, hd, rfl⟩ := Option.map_eq_some_iff.1 h
    have := quotient_ok hd
    exact ⟨this.1, this.2.1, isNaN_write k d this.2.2, k.format.div_lt e⟩
  · cases h

/-- An operation on classes. -/
def fop (op : BinOp) (k : FloatKind) : Option Nat → Option Nat → Option Nat
  | some x, some y => floatBits op k x y
  | _, _ => none

/-- The word that comes of an operation in a world. -/
def fR (op : BinOp) (k : FloatKind) (x y : Nat) (w : World) : Nat :=
  match floatBits op k x y with
  | some r => r
  | none => (Question.nanBits k x y).cut (w.tape w.drawn (.nanBits k x y))
/-- How often is drawn for it. -/
def fN (op : BinOp) (k : FloatKind) (x y : Nat) : Nat :=
  match floatBits op k x y with
  | some _ => 0
  | none => 1

theorem cut_nan (k : FloatKind) (x y t : Nat) : ((Question.nanBits k x y).cut t) < 2 ^ k.format.width ∧ (k.decode ((Question.nanBits k x y).cut t)).isNaN = true := by
  rw [isNaN_decode]
  cases k
  · have e1 : FloatKind.f32.format.infRung = 2139095040 := by decide
    have e2 : FloatKind.f32.format.signWeight = 2147483648 := by decide
    have e3 : 2 ^ FloatKind.f32.format.width = 4294967296 := by decide
    rw [e1, e2, e3]
    have e : (Question.nanBits .f32 x y).cut t = (t % 2) * 2147483648 + 2139095041 + (t / 2) % 8388607 := by
      have e' : (Question.nanBits .f32 x y).cut t = (t % 2) * 2 ^ 31 + 0x7f800000 + 1 + (t / 2) % (2 ^ 23 - 1) := rfl
      refine e'.trans ?_
      omega
    rw [e]
    refine ⟨by omega, ?_⟩
    rw [decide_eq_true_iff, show (t % 2) * 2147483648 + 2139095041 + (t / 2) % 8388607 = (2139095041 + (t / 2) % 8388607) + 2147483648 * (t % 2) by omega, Nat.add_mul_mod_self_left, Nat.mod_eq_of_lt (by omega)]
    omega
  · have e1 : FloatKind.f64.format.infRung = 9218868437227405312 := by decide
    have e2 : FloatKind.f64.format.signWeight = 9223372036854775808 := by decide
    have e3 : 2 ^ FloatKind.f64.format.width = 18446744073709551616 := by decide
    rw [e1, e2, e3]
    have e : (Question.nanBits .f64 x y).cut t = (t % 2) * 9223372036854775808 + 9218868437227405313 + (t / 2) % 4503599627370495 := by
      have e' : (Question.nanBits .f64 x y).cut t = (t % 2) * 2 ^ 63 + 0x7ff0000000000000 + 1 + (t / 2) % (2 ^ 52 - 1) := rfl
      refine e'.trans ?_
      omega
    rw [e]
    refine ⟨by omega, ?_⟩
    rw [decide_eq_true_iff, show (t % 2) * 9223372036854775808 + 9218868437227405313 + (t / 2) % 4503599627370495 = (9218868437227405313 + (t / 2) % 4503599627370495) + 9223372036854775808 * (t % 2) by omega, Nat.add_mul_mod_self_left, Nat.mod_eq_of_lt (by omega)]
    omega
theorem cutConv_nan (k : FloatKind) (x t : Nat) : ((Question.nanConv k x).cut t) < 2 ^ k.format.width ∧ (k.decode ((Question.nanConv k x).cut t)).isNaN = true := by
  have : (Question.nanConv k x).cut t = (Question.nanBits k 0 0).cut t := by cases k <;> rfl
  rw [this]; exact cut_nan k 0 0 t

theorem FV_fR {op : BinOp} {k : FloatKind} {x y : Nat} {w : World} {cx cy : Option Nat} (hx : FV k x cx) (hy : FV k y cy) : FV k (fR op k x y w) (fop op k cx cy) := by
  unfold fR
  cases hf : floatBits op k x y with
  | some r =>
    obtain ⟨h1, h2, h3, h4⟩ := floatBits_ok hf
    have ex : cx = some x := by rw [← hx.2, cls_num h1]
    have ey : cy = some y := by rw [← hy.2, cls_num h2]
    subst ex ey
    exact ⟨h4, by rw [cls_num h3]; exact hf.symm⟩
  | none =>
    have hc := cut_nan k x y (w.tape w.drawn (.nanBits k x y))
    refine ⟨hc.1, ?_⟩
    rw [cls_nan hc.2]
    cases cx with
    | none => rfl
    | some a =>
      cases cy with
      | none => rfl
      | some b =>
        obtain rfl := hx.num
        obtain rfl := hy.num
        exact hf.symm

section
variable {P : Program} (w : World)
theorem run_fR (op : BinOp) (t : TypeId) (k : FloatKind) (x y : Nat) (h : op = .add ∨ op = .sub ∨ op = .mul ∨ op = .quo) :
    (binOp op t (.float k x) (.float k y)).run P w = .ok (.float k (fR op k x y w)) (w.drewN (fN op k x y)) := by
  unfold fR fN
  cases hf : floatBits op k x y with
  | some r => exact run_float_arith w op t k x y r hf
  | none =>
    have hq : (Question.nanBits k x y).forced = false := rfl
    rcases h with rfl | rfl | rfl | rfl <;> simp only [floatBits] at hf <;> simp [binOp, Op.floatArith, hf, hq] <;> rfl
@[go_sem] theorem run_fR_add (t : TypeId) (k : FloatKind) (x y : Nat) : (binOp .add t (.float k x) (.float k y)).run P w = .ok (.float k (fR .add k x y w)) (w.drewN (fN .add k x y)) := run_fR w _ _ _ _ _ (by simp)
@[go_sem] theorem run_fR_sub (t : TypeId) (k : FloatKind) (x y : Nat) : (binOp .sub t (.float k x) (.float k y)).run P w = .ok (.float k (fR .sub k x y w)) (w.drewN (fN .sub k x y)) := run_fR w _ _ _ _ _ (by simp)
@[go_sem] theorem run_fR_mul (t : TypeId) (k : FloatKind) (x y : Nat) : (binOp .mul t (.float k x) (.float k y)).run P w = .ok (.float k (fR .mul k x y w)) (w.drewN (fN .mul k x y)) := run_fR w _ _ _ _ _ (by simp)
@[go_sem] theorem run_fR_quo (t : TypeId) (k : FloatKind) (x y : Nat) : (binOp .quo t (.float k x) (.float k y)).run P w = .ok (.float k (fR .quo k x y w)) (w.drewN (fN .quo k x y)) := run_fR w _ _ _ _ _ (by simp)
end

/-! Comparisons -/
theorem order_nan {k : FloatKind} {x y : Nat} (h : (k.decode x).isNaN = true ∨ (k.decode y).isNaN = true) : k.format.order x y = none := by
  unfold Ieee.Format.order
  have hx : k.format.read x = k.decode x := rfl
  have hy : k.format.read y = k.decode y := rfl
  rw [hx, hy]
  rcases h with h | h
  · cases hd : k.decode x <;> rw [hd] at h <;> simp [Ieee.Datum.isNaN] at h
    cases k.decode y <;> rfl
  · cases hd : k.decode y <;> rw [hd] at h <;> simp [Ieee.Datum.isNaN] at h
    cases k.decode x <;> rfl
/-- A comparison on classes. -/
def ford (k : FloatKind) : Option Nat → Option Nat → Option Ordering
  | some x, some y => k.format.order x y
  | _, _ => none
theorem ford_of {k : FloatKind} {x y : Nat} {cx cy : Option Nat} (hx : FV k x cx) (hy : FV k y cy) : k.format.order x y = ford k cx cy := by
  cases cx with
  | none => exact order_nan (.inl hx.nan)
  | some a =>
    cases cy with
    | none => exact order_nan (.inr hy.nan)
    | some b =>
      obtain rfl := hx.num
      obtain rfl := hy.num
      rfl
theorem order_self {k : FloatKind} {x : Nat} (h : (k.decode x).isNaN = false) : k.format.order x x = some .eq := by
  unfold Ieee.Format.order
  have hx : k.format.read x = k.decode x := rfl
  rw [hx]
  cases hd : k.decode x with
  | nan s t => rw [hd] at h; simp [Ieee.Datum.isNaN] at h
  | infinity s => simp [Ieee.Datum.order]
  | number s m p => simp [Ieee.Datum.order]

/-! The order of words is the order of integers -/
/-- A rung in units of the least place. -/
def val (B r : Nat) : Nat := if r < B then r else (B + r % B) * 2 ^ (r / B - 1)
theorem val_succ (B r : Nat) (hB : 0 < B) : val B r < val B (r + 1) := by
  unfold val
  by_cases h1 : r + 1 < B
  · rw [if_pos h1, if_pos (by omega)]; omega
  · by_cases h2 : r + 1 = B
    · rw [if_pos (by omega), if_neg (by omega), h2, Nat.mod_self, Nat.div_self hB]; simp; omega
    · have hr : B ≤ r := by omega
      rw [if_neg (by omega), if_neg h1]
      have hq : 1 ≤ r / B := (Nat.le_div_iff_mul_le hB).2 (by omega)
      have hd := Nat.div_add_mod r B
      have ht := Nat.mod_lt r hB
      generalize r / B = q at *
      generalize r % B = t at *
      by_cases h3 : t + 1 = B
      · have e : r + 1 = B * (q + 1) := by rw [Nat.mul_add]; omega
        rw [e, Nat.mul_div_cancel_left _ hB, Nat.mul_mod_right]
        obtain ⟨p, rfl⟩ : ∃ p, q = p + 1 := ⟨q - 1, by omega⟩
        simp only [Nat.add_sub_cancel, Nat.add_zero, Nat.pow_succ]
        have hp : 0 < 2 ^ p := Nat.two_pow_pos p
        have : B * (2 ^ p * 2) = (B + B) * 2 ^ p := by rw [Nat.mul_comm (2 ^ p) 2, ← Nat.mul_assoc, Nat.mul_two]
        rw [this]
        exact Nat.mul_lt_mul_of_pos_right (by omega) hp
      · have e : r + 1 = t + 1 + B * q := by omega
        rw [e, Nat.add_mul_div_left _ _ hB, Nat.add_mul_mod_self_left, Nat.div_eq_of_lt (by omega), Nat.mod_eq_of_lt (by omega), Nat.zero_add]
        exact Nat.mul_lt_mul_of_pos_right (by omega) (Nat.two_pow_pos _)
theorem val_lt {B r s : Nat} (hB : 0 < B) (h : r < s) : val B r < val B s := by
  induction s with
  | zero => omega
  | succ s ih =>
    have := val_succ B s hB
    by_cases e : r = s
    · subst e; exact this
    · exact Nat.lt_trans (ih (by omega)) this
theorem val_zero (B : Nat) (hB : 0 < B) : val B 0 = 0 := by unfold val; rw [if_pos hB]

/-- The integer whose order is that of a word. -/
def key (k : FloatKind) (b : Nat) : Int := if b < k.format.signWeight then (b : Int) else (k.format.signWeight : Int) - b
def sval (k : FloatKind) (b : Nat) : Int := if b < k.format.signWeight then (val k.format.binade b : Int) else -(val k.format.binade (b - k.format.signWeight) : Int)

theorem compare_key (k : FloatKind) (x y : Nat) : compare (sval k x) (sval k y) = compare (key k x) (key k y) := by
  have hB : 0 < k.format.binade := Nat.two_pow_pos _
  have mono : ∀ r s, r < s → (val k.format.binade r : Int) < val k.format.binade s := fun r s h => by exact_mod_cast val_lt hB h
  have z := val_zero k.format.binade hB
  have pos : ∀ r, (0 : Int) ≤ val k.format.binade r := fun r => by omega
  have pos' : ∀ r, 0 < r → (0 : Int) < val k.format.binade r := fun r h => by have := mono 0 r h; rw [z] at this; exact this
  unfold sval key
  generalize k.format.signWeight = S
  by_cases hx : x < S <;> by_cases hy : y < S <;> simp only [hx, hy, if_true, if_false]
  · rcases Nat.lt_trichotomy x y with h | h | h
    · rw [Int.compare_eq_lt.2 (mono _ _ h), Int.compare_eq_lt.2 (by omega)]
    · subst h; rw [Int.compare_eq_eq.2 rfl, Int.compare_eq_eq.2 rfl]
    · rw [Int.compare_eq_gt.2 (mono _ _ h), Int.compare_eq_gt.2 (by omega)]
  · have h1 := pos x
    have h2 := pos (y - S)
    by_cases h : x = 0 ∧ y = S
    · obtain ⟨rfl, rfl⟩ := h
      rw [Nat.sub_self, z, Int.compare_eq_eq.2 (by omega), Int.compare_eq_eq.2 (by omega)]
    · have : (0 : Int) < val k.format.binade x ∨ (0 : Int) < val k.format.binade (y - S) := by
        by_cases e : x = 0
        · right; exact pos' _ (by omega)
        · left; exact pos' _ (by omega)
      rw [Int.compare_eq_gt.2 (by omega), Int.compare_eq_gt.2 (by omega)]
  · have h1 := pos y
    have h2 := pos (x - S)
    by_cases h : y = 0 ∧ x = S
    · obtain ⟨rfl, rfl⟩ := h
      rw [Nat.sub_self, z, Int.compare_eq_eq.2 (by omega), Int.compare_eq_eq.2 (by omega)]
    · have : (0 : Int) < val k.format.binade y ∨ (0 : Int) < val k.format.binade (x - S) := by
        by_cases e : y = 0
        · right; exact pos' _ (by omega)
        · left; exact pos' _ (by omega)
      rw [Int.compare_eq_lt.2 (by omega), Int.compare_eq_lt.2 (by omega)]
  · rcases Nat.lt_trichotomy x y with h | h | h
    · have := mono (x - S) (y - S) (by omega)
      rw [Int.compare_eq_gt.2 (by omega), Int.compare_eq_gt.2 (by omega)]
    · subst h; rw [Int.compare_eq_eq.2 rfl, Int.compare_eq_eq.2 rfl]
    · have := mono (y - S) (x - S) (by omega)
      rw [Int.compare_eq_lt.2 (by omega), Int.compare_eq_lt.2 (by omega)]

/-- What a word that is no not-a-number reads as. -/
theorem decode_cases (k : FloatKind) (b : Nat) (hb : b < 2 ^ k.format.width) (hn : (k.decode b).isNaN = false) :
    (∃ s m p, k.decode b = .number s m p ∧ k.format.leastPlace ≤ p ∧ sval k b = Ieee.signed s m (p - k.format.leastPlace).toNat) ∨
    (∃ s, k.decode b = .infinity s ∧ b = k.format.word s k.format.infRung) := by
  have two : 2 ^ k.format.width = 2 * k.format.signWeight := by cases k <;> decide
  have hB : 0 < k.format.binade := Nat.two_pow_pos _
  rw [isNaN_decode] at hn
  have hn' : ¬ k.format.infRung < b % k.format.signWeight := by simpa using hn
  have hSpos : 0 < k.format.signWeight := Nat.two_pow_pos _
  have key : (b / k.format.signWeight % 2 == 1) = decide (k.format.signWeight ≤ b) := by
    by_cases h : k.format.signWeight ≤ b
    · have : b / k.format.signWeight = 1 := by
        refine Nat.div_eq_of_lt_le (by omega) (by omega)
      rw [this]; simp [h]
    · rw [Nat.div_eq_of_lt (by omega)]; simp; omega
  have hmod : b % k.format.signWeight = if k.format.signWeight ≤ b then b - k.format.signWeight else b := by
    split
    · rw [Nat.mod_eq_sub_mod ‹_›, Nat.mod_eq_of_lt (by omega)]
    · exact Nat.mod_eq_of_lt (by omega)
  have hs : ∀ (m : Nat) (e : Nat), (val k.format.binade (b % k.format.signWeight) = m * 2 ^ e) → sval k b = Ieee.signed (decide (k.format.signWeight ≤ b)) m e := by
    intro m e h
    unfold sval Ieee.signed
    rw [Nat.shiftLeft_eq, ← h, hmod]
    by_cases hlt : b < k.format.signWeight
    · have hge : ¬ k.format.signWeight ≤ b := by omega
      simp only [hlt, hge, if_true, if_false, decide_false, Bool.false_eq_true]
    · have hge : k.format.signWeight ≤ b := by omega
      simp only [hlt, hge, if_true, if_false, decide_true]
  show (∃ s m p, k.format.read b = .number s m p ∧ _) ∨ (∃ s, k.format.read b = .infinity s ∧ _)
  unfold Ieee.Format.read
  dsimp only
  rw [key]
  by_cases h1 : b % k.format.signWeight < k.format.binade
  · rw [if_pos h1]
    refine .inl ⟨_, _, _, rfl, Int.le_refl _, ?_⟩
    rw [Int.sub_self]
    refine hs _ _ ?_
    unfold val; rw [if_pos h1]; simp
  · rw [if_neg h1]
    by_cases h2 : b % k.format.signWeight < k.format.infRung
    · rw [if_pos h2]
      refine .inl ⟨_, _, _, rfl, by omega, ?_⟩
      rw [show k.format.leastPlace + ((b % k.format.signWeight / k.format.binade - 1 : Nat) : Int) - k.format.leastPlace = ((b % k.format.signWeight / k.format.binade - 1 : Nat) : Int) by omega, Int.toNat_natCast]
      refine hs _ _ ?_
      unfold val; rw [if_neg h1]
    · rw [if_neg h2]
      have h3 : b % k.format.signWeight = k.format.infRung := by omega
      rw [if_pos h3]
      refine .inr ⟨_, rfl, ?_⟩
      unfold Ieee.Format.word
      by_cases hge : k.format.signWeight ≤ b
      · simp only [hge, decide_true, if_true]; rw [if_pos hge] at hmod; omega
      · simp only [hge, decide_false]; rw [if_neg hge] at hmod; simp; omega

theorem signed_mul (s : Bool) (m a c : Nat) : Ieee.signed s m (a + c) = Ieee.signed s m a * 2 ^ c := by
  unfold Ieee.signed
  split <;> simp [Nat.shiftLeft_eq, Nat.pow_add, Int.mul_assoc, Int.neg_mul]

theorem compare_mul (a b : Int) (c : Nat) : compare (a * 2 ^ c) (b * 2 ^ c) = compare a b := by
  have h : (0 : Int) < 2 ^ c := by exact_mod_cast Nat.two_pow_pos c
  rcases Int.lt_trichotomy a b with h' | h' | h'
  · rw [Int.compare_eq_lt.2 (Int.mul_lt_mul_of_pos_right h' h), Int.compare_eq_lt.2 h']
  · subst h'; rw [Int.compare_eq_eq.2 rfl, Int.compare_eq_eq.2 rfl]
  · rw [Int.compare_eq_gt.2 (Int.mul_lt_mul_of_pos_right h' h), Int.compare_eq_gt.2 h']

theorem sval_inf (k : FloatKind) (s : Bool) : sval k (k.format.word s k.format.infRung) = if s then -(val k.format.binade k.format.infRung : Int) else (val k.format.binade k.format.infRung : Int) := by
  have := k.format.infRung_lt
  unfold sval Ieee.Format.word
  cases s
  · simp [this]
  · simp; omega

theorem sval_lt_inf (k : FloatKind) (b : Nat) (hb : b < 2 ^ k.format.width) (s m p) (h : k.decode b = .number s m p) :
    -(val k.format.binade k.format.infRung : Int) < sval k b ∧ sval k b < (val k.format.binade k.format.infRung : Int) := by
  have two : 2 ^ k.format.width = 2 * k.format.signWeight := by cases k <;> decide
  have hB : 0 < k.format.binade := Nat.two_pow_pos _
  have hSpos : 0 < k.format.signWeight := Nat.two_pow_pos _
  have hr : b % k.format.signWeight < k.format.infRung := by
    have h' : k.format.read b = .number s m p := h
    unfold Ieee.Format.read at h'
    dsimp only at h'
    by_cases h1 : b % k.format.signWeight < k.format.binade
    · have : k.format.binade ≤ k.format.infRung := by cases k <;> decide
      omega
    · rw [if_neg h1] at h'
      by_cases h2 : b % k.format.signWeight < k.format.infRung
      · exact h2
      · rw [if_neg h2] at h'; split at h' <;> cases h'
  have hv := val_lt hB hr
  unfold sval
  by_cases hlt : b < k.format.signWeight
  · rw [if_pos hlt]; rw [Nat.mod_eq_of_lt hlt] at hv; omega
  · rw [if_neg hlt]; rw [Nat.mod_eq_sub_mod (by omega), Nat.mod_eq_of_lt (by omega)] at hv; omega

/-- THE ORDER OF FLOATS IS THAT OF THEIR KEYS. -/
theorem order_key {k : FloatKind} {x y : Nat} (hx : x < 2 ^ k.format.width) (hy : y < 2 ^ k.format.width) (nx : (k.decode x).isNaN = false) (ny : (k.decode y).isNaN = false) :
    k.format.order x y = some (compare (key k x) (key k y)) := by
  rw [← compare_key]
  have hB : 0 < k.format.binade := Nat.two_pow_pos _
  have hinf : (0 : Int) < val k.format.binade k.format.infRung := by
    have := val_lt hB (show 0 < k.format.infRung by cases k <;> decide)
    rw [val_zero _ hB] at this; exact_mod_cast this
  show (k.decode x).order (k.decode y) = _
  rcases decode_cases k x hx nx with ⟨s, m, p, h1, h2, h3⟩ | ⟨s, h1, h2⟩ <;> rcases decode_cases k y hy ny with ⟨t, n, q, g1, g2, g3⟩ | ⟨t, g1, g2⟩
  · rw [h1, g1]
    show some (compare (Ieee.signed s m (p - min p q).toNat) (Ieee.signed t n (q - min p q).toNat)) = _
    rw [h3, g3]
    have e1 : (p - k.format.leastPlace).toNat = (p - min p q).toNat + (min p q - k.format.leastPlace).toNat := by omega
    have e2 : (q - k.format.leastPlace).toNat = (q - min p q).toNat + (min p q - k.format.leastPlace).toNat := by omega
    rw [e1, e2, signed_mul, signed_mul, compare_mul]
  · have := sval_lt_inf k x hx _ _ _ h1
    rw [h1, g1, g2, sval_inf]
    cases t
    · show some Ordering.lt = _
      rw [if_neg (by simp), Int.compare_eq_lt.2 this.2]
    · show some Ordering.gt = _
      rw [if_pos rfl, Int.compare_eq_gt.2 this.1]
  · have := sval_lt_inf k y hy _ _ _ g1
    rw [h1, g1, h2, sval_inf]
    cases s
    · show some Ordering.gt = _
      rw [if_neg (by simp), Int.compare_eq_gt.2 this.2]
    · show some Ordering.lt = _
      rw [if_pos rfl, Int.compare_eq_lt.2 this.1]
  · rw [h1, g1, h2, g2, sval_inf, sval_inf]
    cases s <;> cases t
    · rw [Int.compare_eq_eq.2 rfl]; rfl
    · rw [if_neg (by simp), if_pos rfl, Int.compare_eq_gt.2 (by omega)]; rfl
    · rw [if_pos rfl, if_neg (by simp), Int.compare_eq_lt.2 (by omega)]; rfl
    · rw [Int.compare_eq_eq.2 rfl]; rfl

/-! Conversions between the kinds, and the opposite -/
theorem even_cut_zero (s : Bool) (n : Nat) : Ieee.Toward.even.cut s n 0 = n := by
  unfold Ieee.Toward.cut
  simp [Nat.mod_one]
theorem nearest_exact (f : Ieee.Format) (s : Bool) (m : Nat) (p : Int) (h0 : m ≠ 0) (h1 : m.log2 ≤ f.fractionBits) (h2 : f.leastPlace ≤ p) :
    f.nearest s m p = f.word s (min ((max (p + m.log2 - f.fractionBits) f.leastPlace - f.leastPlace).toNat * f.binade + m * 2 ^ (p - max (p + m.log2 - f.fractionBits) f.leastPlace).toNat) f.infRung) := by
  unfold Ieee.Format.nearest
  dsimp only
  rw [if_neg h0]
  have : (max (p + (m.log2 : Int) - f.fractionBits) f.leastPlace - p).toNat = 0 := by omega
  rw [this, even_cut_zero, Nat.shiftLeft_eq]

/-- The 64-bit word of a 32-bit one that is no not-a-number. -/
def wid (x : Nat) : Nat := FloatKind.f64.encode (FloatKind.f32.decode x)
/-- How a finite 32-bit word reads. -/
theorem decode32 (x : Nat) (s : Bool) (m : Nat) (p : Int) (h : FloatKind.f32.decode x = .number s m p) : m < 16777216 ∧ -149 ≤ p ∧ p ≤ 104 := by
  have h' : Ieee.single.read x = .number s m p := h
  unfold Ieee.Format.read at h'
  dsimp only at h'
  have e1 : Ieee.single.binade = 8388608 := by decide
  have e2 : Ieee.single.infRung = 2139095040 := by decide
  have e3 : Ieee.single.leastPlace = -149 := by decide
  rw [e1, e2, e3] at h'
  split at h'
  · cases h'; omega
  · split at h'
    · cases h'; omega
    · split at h' <;> cases h'
theorem wid_aux (a M i : Nat) (ha : a ≤ 1149) (hM : M < 9007199254740992) : min (a * 4503599627370496 + M) i < 5188146770730811392 := by
  refine Nat.lt_of_le_of_lt (Nat.min_le_left _ _) ?_
  omega
theorem wid_word (x : Nat) (s : Bool) (m : Nat) (p : Int) (h : FloatKind.f32.decode x = .number s m p) : ∃ r, wid x = Ieee.double.word s r ∧ r < 5188146770730811392 := by
  obtain ⟨h1, h2, h3⟩ := decode32 x s m p h
  unfold wid
  rw [h]
  show ∃ r, Ieee.double.nearest s m p = _ ∧ _
  by_cases h0 : m = 0
  · subst h0; exact ⟨0, by unfold Ieee.Format.nearest; rw [if_pos rfl], by omega⟩
  · have hl : m.log2 < 24 := (Nat.log2_lt h0).2 h1
    have e1 : Ieee.double.fractionBits = 52 := rfl
    have e2 : Ieee.double.leastPlace = -1074 := by decide
    have e3 : Ieee.double.binade = 4503599627370496 := by decide
    rw [nearest_exact _ s m p h0 (by rw [e1]; omega) (by rw [e2]; omega), e1, e2, e3]
    refine ⟨_, rfl, ?_⟩
    have hk : (p - max (p + (m.log2 : Int) - (52 : Nat)) (-1074)).toNat = 52 - m.log2 := by omega
    rw [hk]
    have hlt : m < 2 ^ (m.log2 + 1) := Nat.lt_log2_self
    have : m * 2 ^ (52 - m.log2) < 9007199254740992 := by
      have : m * 2 ^ (52 - m.log2) < 2 ^ (m.log2 + 1) * 2 ^ (52 - m.log2) := Nat.mul_lt_mul_of_pos_right hlt (Nat.two_pow_pos _)
      rw [← Nat.pow_add, show m.log2 + 1 + (52 - m.log2) = 53 by omega] at this
      exact this
    exact wid_aux _ _ _ (by omega) this
theorem wid_fin (x : Nat) (s : Bool) (m : Nat) (p : Int) (h : FloatKind.f32.decode x = .number s m p) : (FloatKind.f64.decode (wid x)).isInfinity = false := by
  obtain ⟨r, he, hr⟩ := wid_word x s m p h
  rw [he]
  show (Ieee.double.read (Ieee.double.word s r)).isInfinity = false
  have e2 : Ieee.double.infRung = 9218868437227405312 := by decide
  unfold Ieee.Format.read
  dsimp only
  rw [word_mod _ _ _ (show r < Ieee.double.signWeight by rw [show Ieee.double.signWeight = 9223372036854775808 by decide]; omega)]
  split
  · rfl
  · rw [if_pos (by rw [e2]; omega)]; rfl

/-- What comes of 'float64(x)' in a world, and how often is drawn. -/
def wR (x : Nat) (w : World) : Nat := if (FloatKind.f32.decode x).isNaN then (Question.nanConv .f64 x).cut (w.tape w.drawn (.nanConv .f64 x)) else wid x
def wN (x : Nat) : Nat := if (FloatKind.f32.decode x).isNaN then 1 else 0
theorem wid_lt (x : Nat) : wid x < 2 ^ FloatKind.f64.format.width := FloatKind.f64.format.write_lt _
theorem wid_nan {x : Nat} (h : (FloatKind.f32.decode x).isNaN = false) : (FloatKind.f64.decode (wid x)).isNaN = false := isNaN_write .f64 _ h
theorem FV_wR {x : Nat} {w : World} {c : Option Nat} (h : FV .f32 x c) : FV .f64 (wR x w) (c.map wid) := by
  unfold wR
  cases c with
  | none =>
    rw [if_pos h.nan]
    have := cutConv_nan .f64 x (w.tape w.drawn (.nanConv .f64 x))
    exact ⟨this.1, cls_nan this.2⟩
  | some a =>
    obtain rfl := h.num
    have hn := h.notnan
    rw [if_neg (by simp [hn])]
    exact ⟨wid_lt x, cls_num (wid_nan hn)⟩
section
variable {P : Program} (w : World)
@[go_sem] theorem run_wR (src dst : TypeId) (x : Nat) (hs : (P.underlying src).isSome = true) (hd : P.underlying dst = some (.float .f64)) :
    (convert src dst (.float .f32 x)).run P w = .ok (.float .f64 (wR x w)) (w.drewN (wN x)) := by
  obtain ⟨u, hs'⟩ := Option.isSome_iff_exists.1 hs
  have hq : (Question.nanConv .f64 x).forced = false := rfl
  unfold wR wN
  cases hd' : FloatKind.f32.decode x with
  | nan s t =>
    have e : (Ieee.Datum.nan s t).isNaN = true := rfl
    rw [if_pos e, if_pos e]
    cases u <;> simp [convert, run_underlying hs', run_underlying hd, Conv.floatToFloat, hd', hq] <;> rfl
  | infinity s =>
    have e : ¬ (Ieee.Datum.infinity s).isNaN = true := by simp [Ieee.Datum.isNaN]
    rw [if_neg e, if_neg e]
    unfold wid; rw [hd']
    cases u <;> simp [convert, run_underlying hs', run_underlying hd, Conv.floatToFloat, hd'] <;> rfl
  | number s m p =>
    have e : ¬ (Ieee.Datum.number s m p).isNaN = true := by simp [Ieee.Datum.isNaN]
    have hf := wid_fin x s m p hd'
    unfold wid at hf; rw [hd'] at hf
    rw [if_neg e, if_neg e]
    unfold wid; rw [hd']
    cases u <;> simp [convert, run_underlying hs', run_underlying hd, Conv.floatToFloat, hd', hf] <;> rfl
/-- A conversion to the same kind. -/
@[go_sem] theorem run_same (src dst : TypeId) (k : FloatKind) (x : Nat) (hs : (P.underlying src).isSome = true) (hd : P.underlying dst = some (.float k)) :
    (convert src dst (.float k x)).run P w = .ok (.float k x) w := by
  obtain ⟨u, hs'⟩ := Option.isSome_iff_exists.1 hs
  cases u <;> simp [convert, run_underlying hs', run_underlying hd, Conv.floatToFloat]
end

/-! Arguments that came in -/
theorem wf_lt {k : FloatKind} {b : Nat} (h : (Lit.float k b).wf = true) : b < 2 ^ k.format.width := by
  cases k
  · have e : 2 ^ FloatKind.f32.format.width = 2 ^ 32 := by decide
    rw [e]; simpa [Lit.wf] using h
  · have e : 2 ^ FloatKind.f64.format.width = 2 ^ 64 := by decide
    rw [e]; simpa [Lit.wf] using h

section
open Go.ChangeShapes Go.WideShapes Go.Deep
variable {H : Type} {enc : TypeId × Value → H} {P : Program} {w : World} {base : Nat} {spare : Nat → Bool} {held : Bool}
theorem trod_float {fuel : Nat} {t : TypeId} {k : FloatKind} {cs : List Value} {y : DataW H × List MemPlace} (ht : P.underlying t = some (.float k)) (h : DataW.trod enc P w base spare held fuel t cs = some y) :
    ∃ b, cs = [.float k b] ∧ b < 2 ^ k.format.width := by
  cases fuel with
  | zero => simp [DataW.trod] at h
  | succ n =>
    match cs, h with
    | [], h => simp [DataW.trod, ht] at h
    | [v], h =>
      cases v with
      | float k' b =>
        simp only [DataW.trod, ht] at h
        split at h
        · rename_i hw; obtain ⟨rfl, hw⟩ := hw; exact ⟨b, rfl, wf_lt hw⟩
        · cases h
      | _ => simp [DataW.trod, ht] at h
    | _ :: _ :: _, h => simp [DataW.trod, ht] at h

/-- A slice of floats that came in: its elements are the words zs. -/
def IsFs (k : FloatKind) (w : World) (a : Option Addr) (len cap : Nat) (zs : List Nat) : Prop :=
  zs.length = len ∧ len ≤ cap ∧ cap ≤ maxLen ∧ (∀ z ∈ zs, z < 2 ^ k.format.width) ∧
  (a = none → len = 0 ∧ cap = 0) ∧ (∀ x, a = some x → ∀ i, i < len → w.cell? (x.add i) = some (.float k (zs.getD i 0)))

theorem open_floats {t e : TypeId} {k : FloatKind} {a : Option Addr} {len cap : Nat} {d : DataW H} {p : List MemPlace} (ht : P.underlying t = some (.slice e)) (he : P.underlying e = some (.float k)) (hc : P.cellsOf e = 1)
    (h : DataW.Trod enc P w base spare held t (.slice a len cap) d p) : ∃ zs, IsFs k w a len cap zs := by
  obtain ⟨fuel, h⟩ := h
  rcases DataW.trod_slice ht h with ⟨h0, _⟩ | ⟨x, len', cap', elems, rest, n, _, hcs, _, hb, hl, hm, hlen, hel, _, _⟩
  · simp [Value.cells] at h0
    obtain ⟨rfl, rfl, rfl⟩ := h0
    exact ⟨[], rfl, Nat.le_refl _, Nat.zero_le _, by simp, fun _ => ⟨rfl, rfl⟩, by simp⟩
  · simp [Value.cells] at hcs
    obtain ⟨rfl, rfl, rfl⟩ := hcs
    have each : ∀ i, i < len → ∃ b, w.cell? (x.add i) = some (.float k b) ∧ b < 2 ^ k.format.width := by
      intro i hi
      have h1 := hel i hi
      rw [hc, Nat.mul_one, List.getElem?_eq_getElem (by omega), Option.bind_eq_some_iff] at h1
      obtain ⟨cs', hcs, hy⟩ := h1
      obtain ⟨b, rfl, hb⟩ := trod_float he hy
      exact ⟨b, cell_of_cells?_one hcs, hb⟩
    let f : Nat → Nat := fun i => match w.cell? (x.add i) with | some (.float _ b) => b | _ => 0
    refine ⟨(List.range len).map f, by simp, hl, hm, ?_, by simp, ?_⟩
    · intro z hz
      simp only [List.mem_map, List.mem_range] at hz
      obtain ⟨i, hi, rfl⟩ := hz
      obtain ⟨b, h1, h2⟩ := each i hi
      show f i < _
      simp only [f, h1]; exact h2
    · intro x' hx' i hi
      cases hx'
      obtain ⟨b, h1, h2⟩ := each i hi
      have : ((List.range len).map f).getD i 0 = f i := by simp [List.getD, hi]
      rw [this]
      simp only [f, h1]

theorem open_vec {r : Reach} {b0 : Nat} {t : TypeId} {f0 f1 f2 : Field} {k : FloatKind} {v : Value} {d : DataW H} {p : List MemPlace} (hs : P.underlying t = some (.struct #[f0, f1, f2])) (hone : oneCellFields P #[f0, f1, f2] = true) (hC : P.cellsOf t = 3)
    (he0 : P.underlying f0.type = some (.float k)) (he1 : P.underlying f1.type = some (.float k)) (he2 : P.underlying f2.type = some (.float k))
    (hv : Value.okWide P w r b0 t v) (h : DataW.Trod enc P w base spare held t v d p) :
    ∃ x y z, v = .agg #[.float k x, .float k y, .float k z] ∧ (x < 2 ^ k.format.width ∧ y < 2 ^ k.format.width ∧ z < 2 ^ k.format.width) := by
  obtain ⟨v0, v1, v2, y0, y1, y2, n, rfl, _, _, h0, h1, h2⟩ := Joins.open_agg3 hs hone hC hv h
  obtain ⟨x, e0, w0⟩ := trod_float he0 h0
  obtain ⟨y, e1, w1⟩ := trod_float he1 h1
  obtain ⟨z, e2, w2⟩ := trod_float he2 h2
  cases e0; cases e1; cases e2
  exact ⟨x, y, z, rfl, w0, w1, w2⟩
end
end Fk
end Go.Proofs.Ytkdoibglgkcbkaa


/-
What the small functions on single numbers return, of the program and of its model. Conditions: none beyond that the words fit.
-/
namespace Go.Proofs.Ytkdoibglgkcbkaa
open Go Fk
set_option linter.unusedVariables false

abbrev nan32 (x : Nat) : Bool := (FloatKind.f32.decode x).isNaN
abbrev nan64 (x : Nat) : Bool := (FloatKind.f64.decode x).isNaN
def bitsZ (x : Nat) : Int := if nan32 x = true then 2143289344 else x

theorem ne_self (k : FloatKind) (x : Nat) : (k.format.order x x != some .eq) = (k.decode x).isNaN := by
  cases h : (k.decode x).isNaN
  · rw [order_self h]; rfl
  · rw [order_nan (.inl h)]; rfl
theorem wR_nan (x : Nat) (w : World) : (FloatKind.f64.decode (wR x w)).isNaN = (FloatKind.f32.decode x).isNaN := by
  unfold wR
  cases h : (FloatKind.f32.decode x).isNaN
  · rw [if_neg (by simp)]; exact wid_nan h
  · rw [if_pos rfl]; exact (cutConv_nan .f64 x _).2
theorem ret_bool {a b : Bool} (h : a = b) : Ending.returned (.bool a) = .returned (.bool b) := by rw [h]
theorem ret_i64 {a b : Int} (h : a = b) : Ending.returned (.int .i64 a) = .returned (.int .i64 b) := by rw [h]

theorem math_IsNaN (x : Nat) (w : World) :
    Calls Try.prog 184 #[.float .f64 x] w fun e w' => e = .returned (.bool (nan64 x)) ∧ w' = w := by
  have u := Try.underlying26
  go_enter Try.func184, Try.ntmps184
  go_wp2
  go_ret
  exact ⟨ret_bool (ne_self .f64 x), rfl⟩

theorem impl_isNaN (x : Nat) (w : World) :
    Calls Try.prog 160 #[.float .f32 x] w fun e w' => e = .returned (.bool (nan32 x)) ∧ ∃ n, w' = w.drewN n := by
  have u := Try.underlying26
  have u' := Try.underlying22
  go_enter Try.func160, Try.ntmps160
  go_wp2_with (go_at_call 184; refine (math_IsNaN _ _).mono ?_; rintro e w' ⟨rfl, rfl⟩)
  go_ret
  exact ⟨ret_bool (wR_nan x w), _, rfl⟩


@[go_sem] theorem ext_Float64bits (x : Nat) (w : World) : (callFunc 174 #[.float .f64 x]).run Try.prog w = .ok (.value (.int .u64 x)) w :=
  (run_callFunc_extern (e := Extern.MathFloatBits.float64bits) Try.func174 (by kernel_rfl) (by kernel_rfl) (by kernel_rfl) (by kernel_rfl) _ _).trans rfl
@[go_sem] theorem ext_Float64frombits (n : Int) (w : World) : (callFunc 173 #[.int .u64 n]).run Try.prog w = .ok (.value (.float .f64 n.toNat)) w :=
  (run_callFunc_extern (e := Extern.MathFloatBits.float64frombits) Try.func173 (by kernel_rfl) (by kernel_rfl) (by kernel_rfl) (by kernel_rfl) _ _).trans rfl

theorem dec32 (x : Nat) : FloatKind.f32.decode x = if x % 2147483648 < 8388608 then .number (x / 2147483648 % 2 == 1) (x % 2147483648) (-149)
    else if x % 2147483648 < 2139095040 then .number (x / 2147483648 % 2 == 1) (8388608 + x % 2147483648 % 8388608) (-149 + (x % 2147483648 / 8388608 - 1 : Nat))
    else if x % 2147483648 = 2139095040 then .infinity (x / 2147483648 % 2 == 1) else .nan (x / 2147483648 % 2 == 1) (x % 2147483648 - 2139095040) := rfl
def finB (x : Nat) : Bool := decide (x % 2147483648 < 2139095040)
theorem dec32_fin {x : Nat} (h : x % 2147483648 < 2139095040) : ∃ m p, FloatKind.f32.decode x = .number (x / 2147483648 % 2 == 1) m p := by
  rw [dec32]
  split
  · exact ⟨_, _, rfl⟩
  · exact ⟨_, _, rfl⟩
theorem dec32_inf {x : Nat} (h : x % 2147483648 = 2139095040) : FloatKind.f32.decode x = .infinity (x / 2147483648 % 2 == 1) := by
  rw [dec32, if_neg (by omega), if_neg (by omega), if_pos h]
theorem dec32_nan {x : Nat} (h : 2139095040 < x % 2147483648) : ∃ s t, FloatKind.f32.decode x = .nan s t := by
  rw [dec32, if_neg (by omega), if_neg (by omega), if_neg (by omega)]; exact ⟨_, _, rfl⟩
theorem nan32_iff (x : Nat) : nan32 x = decide (2139095040 < x % 2147483648) := by
  rw [show nan32 x = (FloatKind.f32.decode x).isNaN from rfl, isNaN_decode]; rfl
theorem write_zero (k : FloatKind) (s : Bool) (p : Int) : k.format.write (.number s 0 p) = if s then k.format.signWeight else 0 := by
  show k.format.nearest s 0 p = _
  unfold Ieee.Format.nearest Ieee.Format.word
  simp
theorem sub_self32 (x : Nat) : floatBits .sub .f32 x x = if finB x = true then some 0 else none := by
  show ((FloatKind.f32.decode x).sum (FloatKind.f32.decode x).opposite).map FloatKind.f32.format.write = _
  unfold finB
  rcases Nat.lt_trichotomy (x % 2147483648) 2139095040 with h | h | h
  · obtain ⟨m, p, e⟩ := dec32_fin h
    rw [e, if_pos (by simpa using h)]
    generalize (x / 2147483648 % 2 == 1) = s
    have : Ieee.signed s m (p - min p p).toNat + Ieee.signed (!s) m (p - min p p).toNat = 0 := by
      unfold Ieee.signed; cases s <;> simp <;> omega
    simp only [Ieee.Datum.opposite, Ieee.Datum.sum, this, if_true, Option.map_some]
    rw [show (s && !s) = false by cases s <;> rfl]
    rw [show (0 : Int).natAbs = 0 from rfl, write_zero]; rfl
  · rw [dec32_inf h, if_neg (by simp; omega)]
    cases (x / 2147483648 % 2 == 1) <;> rfl
  · obtain ⟨s, t, e⟩ := dec32_nan h
    rw [e, if_neg (by simp; omega)]; rfl

theorem l01Finite (x : Nat) (w : World) (hx : x < 4294967296) :
    Calls Try.prog 83 #[.float .f32 x] w fun e w' => e = .returned (.bool (finB x)) ∧ ∃ n, w' = w.drewN n := by
  have hs := sub_self32 x
  have hv : FV .f32 (fR .sub .f32 x x w) (fop .sub .f32 (cls .f32 x) (cls .f32 x)) := FV_fR (FV.self hx) (FV.self hx)
  have hv0 : FV .f32 0 (some 0) := ⟨by decide, by decide⟩
  have ho := ford_of hv hv0
  have h00 : FloatKind.f32.format.order 0 0 = some .eq := by decide
  have hgoal : (FloatKind.f32.format.order (fR .sub .f32 x x w) 0 == some .eq) = finB x := by
    rw [ho]
    cases hf : finB x
    · rw [hf] at hs
      have : fop .sub .f32 (cls .f32 x) (cls .f32 x) = none := by
        unfold cls
        split
        · rfl
        · exact hs
      rw [this]; rfl
    · rw [hf] at hs
      have hn : (FloatKind.f32.decode x).isNaN = false := (floatBits_ok (r := 0) (by rw [hs]; rfl)).1
      have : fop .sub .f32 (cls .f32 x) (cls .f32 x) = some 0 := by rw [cls_num hn]; exact hs
      rw [this]; exact (congrArg (· == some Ordering.eq) h00)
  clear hs hv hv0 ho h00
  have H := Lib.hid hgoal
  clear hgoal
  go_enter Try.func83, Try.ntmps83
  go_wp2
  go_ret
  exact ⟨ret_bool H.out, _, rfl⟩

theorem math_Abs (x : Nat) (w : World) (hx : x < 18446744073709551616) :
    Calls Try.prog 115 #[.float .f64 x] w fun e w' => e = .returned (.float .f64 (x % 9223372036854775808)) ∧ w' = w := by
  have u := Try.underlying26
  go_enter Try.func115, Try.ntmps115
  go_wp2
  go_ret
  refine ⟨?_, rfl⟩
  have e : bits .andNot .u64 (x : Int) ((9223372036854775808 : Nat) : Int) = ((x % 9223372036854775808 : Nat) : Int) := by
    rw [u64_andNot_nat x 9223372036854775808 hx (by decide)]
    rw [show (18446744073709551615 - 9223372036854775808 : Nat) = 2 ^ 63 - 1 by decide, Nat.and_two_pow_sub_one_eq_mod]
  show Ending.returned (Value.float FloatKind.f64 (bits .andNot .u64 (x : Int) ((9223372036854775808 : Nat) : Int)).toNat) = _
  rw [e, Int.toNat_natCast]

theorem quo_one (x : Nat) (hn : (FloatKind.f64.decode x).isNaN = false) : ∃ r, floatBits .quo .f64 4607182418800017408 x = some r := by
  show ∃ r, ((FloatKind.f64.decode 4607182418800017408).quotient _ (FloatKind.f64.decode x)).map FloatKind.f64.format.write = some r
  have e : FloatKind.f64.decode 4607182418800017408 = .number false 4503599627370496 (-52) := by decide
  rw [e]
  cases hd : FloatKind.f64.decode x with
  | nan s t => rw [hd] at hn; simp [Ieee.Datum.isNaN] at hn
  | infinity s => exact ⟨_, rfl⟩
  | number s m p =>
    by_cases hm : m = 0
    · subst hm; exact ⟨_, rfl⟩
    · simp only [Ieee.Datum.quotient, if_neg hm]; exact ⟨_, rfl⟩

theorem laws_sameFloat (a b : Nat) (c : Option Nat) (w : World) (ha : FV .f64 a c) (hb : FV .f64 b c) :
    Calls Try.prog 15 #[.float .f64 a, .float .f64 b] w fun e w' => e = .returned (.bool true) ∧ ∃ n, w' = w.drewN n := by
  have u := Try.underlying26
  cases c with
  | none =>
    have h1 : FloatKind.f64.format.order a a = none := order_nan (.inl ha.nan)
    have h2 : FloatKind.f64.format.order b b = none := order_nan (.inl hb.nan)
    clear ha hb
    go_enter Try.func15, Try.ntmps15
    go_wp2
    go_ret
    exact ⟨rfl, 0, rfl⟩
  | some x =>
    obtain rfl := ha.num
    obtain rfl := hb.num
    have h1 : FloatKind.f64.format.order b b = some .eq := order_self ha.notnan
    obtain ⟨r, hr⟩ := quo_one b ha.notnan
    have h2 : ∀ w, fR .quo .f64 4607182418800017408 b w = r := fun w => by unfold fR; rw [hr]
    clear ha hb hr
    cases h0 : (FloatKind.f64.format.order b 0 == some .eq)
    all_goals
      go_enter Try.func15, Try.ntmps15
      go_wp2
      go_ret
      first | exact ⟨rfl, 0, rfl⟩ | exact ⟨rfl, _, rfl⟩ | exact ⟨ret_bool (by simp), _, rfl⟩

/-! Infinities -/
theorem max64 : FloatKind.f64.decode 9218868437227405311 = .number false 9007199254740991 971 := by decide
/-- Is greater than the greatest number: the positive infinity alone. -/
theorem gt_max (x : Nat) (hx : x < 18446744073709551616) : (FloatKind.f64.format.order x 9218868437227405311 == some .gt) = decide (x = 9218868437227405312) := by
  have e3 : 2 ^ FloatKind.f64.format.width = 18446744073709551616 := by decide
  have nm : (FloatKind.f64.decode 9218868437227405311).isNaN = false := by rw [max64]; rfl
  cases hn : (FloatKind.f64.decode x).isNaN
  · rw [order_key (by rw [e3]; exact hx) (by rw [e3]; decide) hn nm]
    have hn' := hn
    rw [isNaN_decode] at hn'
    have e1 : FloatKind.f64.format.infRung = 9218868437227405312 := by decide
    have e2 : FloatKind.f64.format.signWeight = 9223372036854775808 := by decide
    rw [e1, e2] at hn'
    have hn'' : ¬ 9218868437227405312 < x % 9223372036854775808 := by simpa using hn'
    have k1 : key .f64 9218868437227405311 = 9218868437227405311 := by decide
    have k2 : key .f64 x = if x < 9223372036854775808 then (x : Int) else 9223372036854775808 - x := by unfold key; rw [e2]; rfl
    rw [k1]
    by_cases h : x = 9218868437227405312
    · rw [decide_eq_true h]
      have : key .f64 x > 9218868437227405311 := by rw [k2, if_pos (by omega)]; omega
      rw [Int.compare_eq_gt.2 this]; rfl
    · rw [decide_eq_false h]
      have : ¬ key .f64 x > 9218868437227405311 := by rw [k2]; split <;> omega
      cases hc : compare (key .f64 x) 9218868437227405311
      · rfl
      · rfl
      · exact absurd (Int.compare_eq_gt.1 hc) this
  · rw [order_nan (.inl hn)]
    by_cases h : x = 9218868437227405312
    · subst h; rw [isNaN_decode] at hn; exact absurd hn (by decide)
    · rw [decide_eq_false h]; rfl

theorem math_IsInf0 (x : Nat) (w : World) (hx : x < 18446744073709551616) :
    Calls Try.prog 162 #[.float .f64 x, .int .i64 0] w fun e w' => e = .returned (.bool (decide (x % 9223372036854775808 = 9218868437227405312))) ∧ w' = w := by
  have u := Try.underlying26
  have h := gt_max (x % 9223372036854775808) (by omega)
  have H := Lib.hid h
  clear h
  go_enter Try.func162, Try.ntmps162
  go_wp2_with (go_at_call 115; refine (math_Abs _ _ (by assumption)).mono ?_; rintro e w' ⟨rfl, rfl⟩)
  go_ret
  exact ⟨ret_bool H.out, rfl⟩
theorem math_IsInf1 (x : Nat) (w : World) (hx : x < 18446744073709551616) :
    Calls Try.prog 162 #[.float .f64 x, .int .i64 1] w fun e w' => e = .returned (.bool (decide (x = 9218868437227405312))) ∧ w' = w := by
  have u := Try.underlying26
  have h := gt_max x hx
  have H := Lib.hid h
  clear h
  go_enter Try.func162, Try.ntmps162
  go_wp2
  go_ret
  exact ⟨ret_bool H.out, rfl⟩

/-- The 64-bit words of 32-bit ones. -/
theorem wid_cases {x : Nat} (hx : x < 4294967296) (hn : nan32 x = false) :
    (x % 2147483648 = 2139095040 ∧ wid x = (if x < 2147483648 then 0 else 9223372036854775808) + 9218868437227405312) ∨
    (x % 2147483648 < 2139095040 ∧ ∃ r, r < 5188146770730811392 ∧ wid x = (if x < 2147483648 then 0 else 9223372036854775808) + r) := by
  rw [nan32_iff] at hn
  have hn' : ¬ 2139095040 < x % 2147483648 := by simpa using hn
  have hs : (x / 2147483648 % 2 == 1) = decide (¬ x < 2147483648) := by
    by_cases h : x < 2147483648
    · rw [Nat.div_eq_of_lt h]; simp [h]
    · have h1 : x / 2147483648 = 1 := by omega
      rw [h1]; simp [h]
  have e2 : Ieee.double.signWeight = 9223372036854775808 := by decide
  by_cases h : x % 2147483648 = 2139095040
  · refine .inl ⟨h, ?_⟩
    have e1 : Ieee.double.infRung = 9218868437227405312 := by decide
    unfold wid
    rw [dec32_inf h, hs]
    show Ieee.double.word _ Ieee.double.infRung = _
    unfold Ieee.Format.word
    rw [e1, e2]
    by_cases h2 : x < 2147483648 <;> simp [h2]
  · refine .inr ⟨by omega, ?_⟩
    obtain ⟨m, p, e⟩ := dec32_fin (x := x) (by omega)
    obtain ⟨r, he, hr⟩ := wid_word x _ m p e
    refine ⟨r, hr, ?_⟩
    rw [he, hs]
    unfold Ieee.Format.word
    rw [e2]
    by_cases h2 : x < 2147483648 <;> simp [h2]
theorem wR_lt {x : Nat} (w : World) (hx : x < 4294967296) : wR x w < 18446744073709551616 := (FV_wR (FV.self (k := .f32) hx)).1
theorem wR_num {x : Nat} (w : World) (hn : nan32 x = false) : wR x w = wid x := by unfold wR; rw [if_neg (by simp [hn])]
theorem inf0 {x : Nat} (w : World) (hx : x < 4294967296) (hn : nan32 x = false) : decide (wR x w % 9223372036854775808 = 9218868437227405312) = !finB x := by
  rw [wR_num w hn]
  unfold finB
  rcases wid_cases hx hn with ⟨h1, h2⟩ | ⟨h1, r, hr, h2⟩
  · rw [h2, decide_eq_true (by split <;> omega), decide_eq_false (by omega)]; rfl
  · rw [h2, decide_eq_false (by split <;> omega), decide_eq_true h1]; rfl
theorem inf1 {x : Nat} (w : World) (hx : x < 4294967296) : decide (wR x w = 9218868437227405312) = decide (x = 2139095040) := by
  cases hn : nan32 x
  · rw [wR_num w hn]
    rcases wid_cases hx hn with ⟨h1, h2⟩ | ⟨h1, r, hr, h2⟩
    · rw [h2]; congr 1; apply propext; split <;> omega
    · rw [h2]; congr 1; apply propext; split <;> omega
  · have h : (FloatKind.f64.decode (wR x w)).isNaN = true := by rw [wR_nan]; exact hn
    have a : ¬ wR x w = 9218868437227405312 := fun e => by rw [e, isNaN_decode] at h; exact absurd h (by decide)
    have b : ¬ x = 2139095040 := fun e => by rw [e] at hn; rw [nan32_iff] at hn; exact absurd hn (by decide)
    rw [decide_eq_false a, decide_eq_false b]

theorem impl_IsFinite (x : Nat) (w : World) (hx : x < 4294967296) :
    Calls Try.prog 94 #[.float .f32 x] w fun e w' => e = .returned (.bool (finB x)) ∧ ∃ n, w' = w.drewN n := by
  have u := Try.underlying26
  have u' := Try.underlying22
  have hlt := fun w => wR_lt (x := x) w hx
  cases hn : nan32 x
  · have h0 := fun w => inf0 (x := x) w hx hn
    go_enter Try.func94, Try.ntmps94
    go_wp2_with (first
      | (go_at_call 160; refine (impl_isNaN _ _).mono ?_; rintro e w' ⟨rfl, n, rfl⟩)
      | (go_at_call 162; refine (math_IsInf0 _ _ (hlt _)).mono ?_; rintro e w' ⟨rfl, rfl⟩))
    go_ret
    exact ⟨ret_bool (by simp), _, rfl⟩
  · have hf : finB x = false := by
      rw [nan32_iff] at hn; unfold finB; simp at hn ⊢; omega
    have H := Lib.hid hf
    clear hf
    go_enter Try.func94, Try.ntmps94
    go_wp2_with (first
      | (go_at_call 160; refine (impl_isNaN _ _).mono ?_; rintro e w' ⟨rfl, n, rfl⟩))
    go_ret
    exact ⟨ret_bool H.out.symm, _, rfl⟩
end Go.Proofs.Ytkdoibglgkcbkaa

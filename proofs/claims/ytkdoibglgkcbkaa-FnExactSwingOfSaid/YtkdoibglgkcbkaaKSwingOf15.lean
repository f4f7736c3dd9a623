/-
Texts in one: what SwingOf stands on, part 15. Conditions: those of each.
-/
import Derived.Test.YtkdoibglgkcbkaaKSwingOf14

/-
Numbers whose sign is not set: sums of squares and their roots are such; and the greater one of two numbers. Conditions: none.
-/
namespace Go.Proofs.Ytkdoibglgkcbkaa
namespace Fk
open Go
set_option linter.unusedVariables false

/-- The sign is not set. -/
def Pos (k : FloatKind) (c : Option Nat) : Prop := ∀ r, c = some r → r < k.format.signWeight
theorem Pos_none (k : FloatKind) : Pos k none := fun _ h => by cases h
theorem neg_read (f : Ieee.Format) (b : Nat) (h : b < f.signWeight) : (f.read b).neg = false := by
  have h0 : b / f.signWeight = 0 := Nat.div_eq_of_lt h
  unfold Ieee.Format.read
  dsimp only
  rw [h0]
  split
  · rfl
  · split
    · rfl
    · split <;> rfl
theorem neg_decode {k : FloatKind} {b : Nat} (h : b < k.format.signWeight) : (k.decode b).neg = false := neg_read _ b h
theorem write_pos (k : FloatKind) (d : Ieee.Datum) (hn : d.isNaN = false) (h : d.neg = false) : k.format.write d < k.format.signWeight := by
  have hlt := k.format.infRung_lt
  cases d with
  | nan s t => simp [Ieee.Datum.isNaN] at hn
  | infinity s =>
    obtain rfl : s = false := h
    show k.format.word false k.format.infRung < _
    unfold Ieee.Format.word; simpa using hlt
  | number s m p =>
    obtain rfl : s = false := h
    obtain ⟨r, hr, he⟩ := nearest_word k.format false m p
    show k.format.nearest false m p < _
    rw [he]
    unfold Ieee.Format.word
    rw [if_neg (by simp)]
    omega
theorem sum_neg {x y d : Ieee.Datum} (h : x.sum y = some d) (hx : x.neg = false) (hy : y.neg = false) : d.neg = false := by
  cases x <;> cases y <;> simp only [Ieee.Datum.neg] at hx hy <;> subst hx <;> subst hy <;> simp [Ieee.Datum.sum, Ieee.signed] at h
  · subst h
    simp only [Ieee.Datum.neg]
    rw [Bool.and_eq_false_iff]
    right
    rw [decide_eq_false_iff_not]
    rename_i m1 i1 m2 i2
    rw [Int.shiftLeft_eq, Int.shiftLeft_eq]
    have h1 : (0 : Int) ≤ (m1 : Int) * 2 ^ (i1 - min i1 i2).toNat := by exact_mod_cast Nat.zero_le _
    have h2 : (0 : Int) ≤ (m2 : Int) * 2 ^ (i2 - min i1 i2).toNat := by exact_mod_cast Nat.zero_le _
    omega
  all_goals (subst h; rfl)
theorem product_neg {x d : Ieee.Datum} (h : x.product x = some d) : d.neg = false := by
  cases x <;> simp [Ieee.Datum.product] at h
  all_goals (subst h; simp [Ieee.Datum.neg])
theorem root_neg {n : Nat} {x d : Ieee.Datum} (h : x.root n = some d) (hx : x.neg = false) : d.neg = false := by
  cases x with
  | nan s t => simp [Ieee.Datum.root] at h
  | infinity s =>
    obtain rfl : s = false := hx
    simp [Ieee.Datum.root] at h; subst h; rfl
  | number s m i =>
    obtain rfl : s = false := hx
    simp only [Ieee.Datum.root] at h
    split at h
    · cases h; rfl
    · split at h
      · cases h
      · cases h; rfl
theorem Pos_add {k : FloatKind} {a b : Option Nat} (ha : Pos k a) (hb : Pos k b) : Pos k (fop .add k a b) := by
  intro r h
  cases a with
  | none => cases h
  | some x =>
    cases b with
    | none => cases h
    | some y =>
      have h' : k.format.add x y = some r := h
      unfold Ieee.Format.add at h'
      obtain ⟨d, hd, rfl⟩ := Option.map_eq_some_iff.1 h'
      exact write_pos k d (sum_ok hd).2.2 (sum_neg hd (neg_decode (ha x rfl)) (neg_decode (hb y rfl)))
theorem Pos_square {k : FloatKind} (a : Option Nat) : Pos k (fop .mul k a a) := by
  intro r h
  cases a with
  | none => cases h
  | some x =>
    have h' : k.format.mul x x = some r := h
    unfold Ieee.Format.mul at h'
    obtain ⟨d, hd, rfl⟩ := Option.map_eq_some_iff.1 h'
    exact write_pos k d (product_ok hd).2.2 (product_neg hd)
/-- What has no class. -/
def Num (k : FloatKind) (c : Option Nat) : Prop := ∀ r, c = some r → (k.decode r).isNaN = false
theorem Pos_wid {c : Option Nat} (h : Pos .f32 c) (hn : Num .f32 c) : Pos .f64 (c.map wid) := by
  intro r hr
  cases c with
  | none => cases hr
  | some x =>
    cases hr
    exact write_pos .f64 _ (hn x rfl) (neg_decode (h x rfl))
theorem fsq_ok {c : Option Nat} {r : Nat} (h : fsq c = some r) (hc : Pos .f64 c) : r < FloatKind.f64.format.signWeight ∧ (FloatKind.f64.decode r).isNaN = false := by
  cases c with
  | none => cases h
  | some x =>
    have h' : FloatKind.f64.format.sqrt x = some r := h
    unfold Ieee.Format.sqrt at h'
    obtain ⟨d, hd, rfl⟩ := Option.map_eq_some_iff.1 h'
    exact ⟨write_pos .f64 d (root_ok hd).2 (root_neg hd (neg_decode (hc x rfl))), isNaN_write .f64 d (root_ok hd).2⟩
theorem Pos_root {c : Option Nat} (h : Pos .f32 c) (hn : Num .f32 c) : Pos .f32 ((fsq (c.map wid)).map nar) := by
  intro r hr
  cases hq : fsq (c.map wid) with
  | none => rw [hq] at hr; cases hr
  | some y =>
    rw [hq] at hr
    obtain ⟨h1, h2⟩ := fsq_ok hq (Pos_wid h hn)
    cases hr
    exact write_pos .f32 _ h2 (neg_decode h1)
theorem Num_fop {op : BinOp} {k : FloatKind} {a b : Option Nat} : Num k (fop op k a b) := by
  intro r h
  cases a with
  | none => cases h
  | some x =>
    cases b with
    | none => cases h
    | some y => exact (floatBits_ok h).2.2.1

/-! The greater one -/
def mxR (k : FloatKind) (x y : Nat) (w : World) : Nat :=
  match k.format.order x y with
  | none => (Question.nanMinMax k true x y).cut (w.tape w.drawn (.nanMinMax k true x y))
  | some .lt => y
  | some .gt => x
  | some .eq => if (k.decode x).neg then y else x
def mxN (k : FloatKind) (x y : Nat) : Nat := match k.format.order x y with | none => 1 | some _ => 0
def mxC (k : FloatKind) (a b : Option Nat) : Option Nat := match ford k a b with | none => none | some .lt => b | some _ => a
@[go_sem] theorem run_max {P : Program} (w : World) (ats : Array TypeId) (ty : TypeId) (k : FloatKind) (x y : Nat) :
    (Builtin.max_ ats ty #[.float k x, .float k y]).run P w = .ok (.float k (mxR k x y w)) (w.drewN (mxN k x y)) := by
  have hq : (Question.nanMinMax k true x y).forced = false := rfl
  unfold mxR mxN
  cases ho : k.format.order x y with
  | none => simp [Builtin.max_, Builtin.max2, ho, hq]; rfl
  | some o => cases o <;> simp [Builtin.max_, Builtin.max2, ho] <;> rfl
theorem FV_mx {k : FloatKind} {x y : Nat} {a b : Option Nat} {w : World} (hx : FV k x a) (hy : FV k y b) (hp : Pos k a) : FV k (mxR k x y w) (mxC k a b) := by
  have ho := ford_of hx hy
  unfold mxR mxC
  rw [← ho]
  cases h : k.format.order x y with
  | none =>
    have : (Question.nanMinMax k true x y).cut (w.tape w.drawn (.nanMinMax k true x y)) = (Question.nanBits k 0 0).cut (w.tape w.drawn (.nanMinMax k true x y)) := by cases k <;> rfl
    show FV k ((Question.nanMinMax k true x y).cut _) none
    rw [this]
    have := cut_nan k 0 0 (w.tape w.drawn (.nanMinMax k true x y))
    exact ⟨this.1, cls_nan this.2⟩
  | some o =>
    cases o with
    | lt => exact hy
    | gt => exact hx
    | eq =>
      cases a with
      | none => rw [order_nan (.inl hx.nan)] at h; cases h
      | some z =>
        obtain rfl := hx.num
        show FV k (if (k.decode x).neg then y else x) _
        rw [neg_decode (hp x rfl)]
        exact hx
theorem Pos_mx {k : FloatKind} {a b : Option Nat} (ha : Pos k a) (hb : Pos k b) : Pos k (mxC k a b) := by
  unfold mxC
  split
  · exact Pos_none k
  · exact hb
  · exact ha
theorem mx_none {k : FloatKind} (b : Option Nat) : mxC k none b = none := rfl
theorem foldl_none {α : Type} {k : FloatKind} (f : α → Option Nat) (l : List α) : l.foldl (fun m v => mxC k m (f v)) none = none := by
  induction l with
  | nil => rfl
  | cons v l ih => exact ih
/-- Both ways of comparing. -/
theorem ford_both {k : FloatKind} {x y : Nat} {a b : Option Nat} (hx : FV k x a) (hy : FV k y b) :
    (ford k a b = none ∧ ford k b a = none ∧ (a = none ∨ b = none)) ∨ (∃ o : Ordering, ford k a b = some o ∧ ford k b a = some o.swap ∧ a = some x ∧ b = some y) := by
  cases a with
  | none => exact .inl ⟨rfl, by cases b <;> rfl, .inl rfl⟩
  | some p =>
    cases b with
    | none => exact .inl ⟨rfl, rfl, .inr rfl⟩
    | some q =>
      obtain rfl := hx.num
      obtain rfl := hy.num
      refine .inr ⟨compare (key k x) (key k y), order_key hx.1 hy.1 hx.notnan hy.notnan, ?_, rfl, rfl⟩
      show k.format.order y x = _
      rw [order_key hy.1 hx.1 hy.notnan hx.notnan]
      congr 1
      exact (Std.OrientedCmp.eq_swap (cmp := compare) (a := key k y) (b := key k x))
end Fk
end Go.Proofs.Ytkdoibglgkcbkaa


/-
The greatest length of a list of vectors: what the program and its model return. Conditions: none.
-/
namespace Go.Proofs.Ytkdoibglgkcbkaa
open Go Fk Go.RowKit
set_option linter.unusedVariables false
set_option maxRecDepth 8000

def longC (c : C3) : Option Nat := rootC (fop .add .f32 (fop .add .f32 (fop .mul .f32 c.1 c.1) (fop .mul .f32 c.2.1 c.2.1)) (fop .mul .f32 c.2.2 c.2.2))
theorem Pos_longC (c : C3) : Pos .f32 (longC c) := Pos_root (Pos_add (Pos_add (Pos_square _) (Pos_square _)) (Pos_square _)) Num_fop
def lonF (m : Option Nat) (cs : List C3) : Option Nat := cs.foldl (fun m v => mxC .f32 m (longC v)) m
abbrev lonC (cs : List C3) : Option Nat := lonF (some 0) cs
theorem Pos_zero : Pos .f32 (some 0) := by intro r h; cases h; decide
theorem Pos_lonF (cs : List C3) : ∀ m, Pos .f32 m → Pos .f32 (lonF m cs) := by
  induction cs with
  | nil => exact fun m h => h
  | cons c cs ih => exact fun m h => ih _ (Pos_mx h (Pos_longC c))
theorem lonC_snoc (cs : List C3) (k : Nat) (hk : k < cs.length) : lonC (cs.take (k + 1)) = mxC .f32 (lonC (cs.take k)) (longC (cs.getD k c0)) := by
  rw [List.take_succ_eq_append_getElem hk]
  unfold lonC lonF
  rw [List.foldl_append]
  simp [List.getD, hk]
theorem lonC_stop (cs : List C3) (k : Nat) (h : lonC (cs.take k) = none) : lonC cs = none := by
  have e : cs = cs.take k ++ cs.drop k := (List.take_append_drop k cs).symm
  rw [e]
  unfold lonC lonF at h ⊢
  rw [List.foldl_append, h]
  exact foldl_none _ _
def lonB (n : Nat) (cs : List C3) : Option Nat := if n ≤ 256 then lonC cs else some 0
theorem FV_00 : FV .f32 0 (some 0) := ⟨by decide, by decide⟩
theorem lon_step {x o : Nat} {m v : Option Nat} (ho : FV .f32 o m) (hx : FV .f32 x v) (hm : m = some o) :
    ((FloatKind.f32.format.order x o == some .gt) = true ∧ FV .f32 x (mxC .f32 m v) ∧ mxC .f32 m v = some x ∧ (FloatKind.f32.format.order x x != some .eq) = false) ∨
    ((FloatKind.f32.format.order x o == some .gt) = false ∧ (FloatKind.f32.format.order x x != some .eq) = true ∧ FV .f32 x none ∧ mxC .f32 m v = none) ∨
    ((FloatKind.f32.format.order x o == some .gt) = false ∧ (FloatKind.f32.format.order x x != some .eq) = false ∧ FV .f32 o (mxC .f32 m v) ∧ mxC .f32 m v = some o ∧ (FloatKind.f32.format.order o o != some .eq) = false) := by
  subst hm
  have oo : (FloatKind.f32.format.order o o != some .eq) = false := by rw [order_self ho.notnan]; rfl
  rcases ford_both ho hx with ⟨e1, e2, h⟩ | ⟨c, e1, e2, _, rfl⟩
  · rcases h with h | rfl
    · cases h
    · have h1 : FloatKind.f32.format.order x o = none := order_nan (.inl hx.nan)
      have h2 : FloatKind.f32.format.order x x = none := order_nan (.inl hx.nan)
      refine .inr (.inl ⟨by rw [h1]; rfl, by rw [h2]; rfl, hx, rfl⟩)
  · have xx : (FloatKind.f32.format.order x x != some .eq) = false := by rw [order_self hx.notnan]; rfl
    have h1 : FloatKind.f32.format.order x o = some c.swap := e2
    cases c with
    | lt => exact .inl ⟨by rw [h1]; rfl, by unfold mxC; rw [e1]; exact hx, by unfold mxC; rw [e1], xx⟩
    | eq => exact .inr (.inr ⟨by rw [h1]; rfl, xx, by unfold mxC; rw [e1]; exact ho, by unfold mxC; rw [e1], oo⟩)
    | gt => exact .inr (.inr ⟨by rw [h1]; rfl, xx, by unfold mxC; rw [e1]; exact ho, by unfold mxC; rw [e1], oo⟩)

end Go.Proofs.Ytkdoibglgkcbkaa

/-
Texts in one: what StretchesOf stands on, part 9. Conditions: those of each.
-/
import Derived.Test.YtmbekamnogbgaabKStretchesOf8
import Derived.Below

/-
The square root of 32-bit numbers: what the program and its model return. Conditions: none beyond that the words fit.
-/
namespace Go.Proofs.Ytmbekamnogbgaab
open Go Fk Go.RowKit
set_option linter.unusedVariables false

def rootC (c : Option Nat) : Option Nat := (fsq (c.map wid)).map nar
@[go_sem] theorem ext_sqrt (x : Nat) (w : World) : (callFunc 163 #[.float .f64 x]).run Try.prog w = .ok (.value (.float .f64 (sR x w))) (w.drewN (sN x)) := by
  rw [run_callFunc_extern (e := Extern.MathSqrt.sqrt) Try.func163 (by kernel_rfl) (by kernel_rfl) (by kernel_rfl) (by kernel_rfl), run_sqrt]; rfl
theorem math_Sqrt (x : Nat) (w : World) :
    Calls Try.prog 152 #[.float .f64 x] w fun e w' => e = .returned (.float .f64 (sR x w)) ∧ ∃ n, w' = w.drewN n := by
  go_enter Try.func152, Try.ntmps152
  go_wp2
  go_ret
  exact ⟨rfl, _, rfl⟩
theorem impl_Narrow (y : Nat) (w : World) :
    Calls Try.prog 153 #[.float .f64 y] w fun e w' => e = .returned (.float .f32 (nR y w)) ∧ ∃ n, w' = w.drewN n := by
  have u := Try.underlying127
  have u' := Try.underlying52
  go_enter Try.func153, Try.ntmps153
  go_wp2
  go_ret
  exact ⟨rfl, _, rfl⟩
theorem spec_Narrow (y : Nat) (w : World) :
    Calls Try.prog 151 #[.float .f64 y] w fun e w' => e = .returned (.float .f32 (nR y w)) ∧ ∃ n, w' = w.drewN n := by
  have u := Try.underlying127
  have u' := Try.underlying52
  go_enter Try.func151, Try.ntmps151
  go_wp2
  go_ret
  exact ⟨rfl, _, rfl⟩
theorem FV_root {x : Nat} {c : Option Nat} {w w' w'' : World} (h : FV .f32 x c) : FV .f32 (nR (sR (wR x w) w') w'') (rootC c) :=
  FV_nR (FV_sR (FV_wR h)) (ovf_sR h.1)
theorem impl_RootNumber (x : Nat) (c : Option Nat) (w : World) (h : FV .f32 x c) :
    Calls Try.prog 127 #[.float .f32 x] w fun e w' => ∃ r, e = .returned (.float .f32 r) ∧ FV .f32 r (rootC c) ∧ ∃ n, w' = w.drewN n := by
  have u := Try.underlying127
  have u' := Try.underlying52
  go_enter Try.func127, Try.ntmps127
  go_wp2_with (first
    | (go_at_call 152; refine (math_Sqrt _ _).mono ?_; rintro e w' ⟨rfl, n, rfl⟩)
    | (go_at_call 153; refine (impl_Narrow _ _).mono ?_; rintro e w' ⟨rfl, n, rfl⟩))
  go_ret
  exact ⟨_, rfl, FV_root h, _, rfl⟩
theorem l01Sqrt (x : Nat) (c : Option Nat) (w : World) (h : FV .f32 x c) :
    Calls Try.prog 123 #[.float .f32 x] w fun e w' => ∃ r, e = .returned (.float .f32 r) ∧ FV .f32 r (rootC c) ∧ ∃ n, w' = w.drewN n := by
  have u := Try.underlying127
  have u' := Try.underlying52
  go_enter Try.func123, Try.ntmps123
  go_wp2_with (first
    | (go_at_call 152; refine (math_Sqrt _ _).mono ?_; rintro e w' ⟨rfl, n, rfl⟩)
    | (go_at_call 151; refine (spec_Narrow _ _).mono ?_; rintro e w' ⟨rfl, n, rfl⟩))
  go_ret
  exact ⟨_, rfl, FV_root h, _, rfl⟩
end Go.Proofs.Ytmbekamnogbgaab


/-
Between two vectors, and lengths: what the program and its model return. Conditions: none beyond that the words fit.
-/
namespace Go.Proofs.Ytmbekamnogbgaab
open Go Fk Go.RowKit
set_option linter.unusedVariables false

theorem impl_LongOf (x y z : Nat) (w : World) (c d e : Option Nat) (h1 : FV .f32 x c) (h2 : FV .f32 y d) (h3 : FV .f32 z e) :
    Calls Try.prog 92 #[vv x y z] w fun en w' => ∃ a, en = .returned (.float .f32 a) ∧ FV .f32 a (rootC (fop .add .f32 (fop .add .f32 (fop .mul .f32 c c) (fop .mul .f32 d d)) (fop .mul .f32 e e))) ∧ Below w.heap.size w w' := by
  have u := Try.underlying52
  have uv := Try.underlying62
  go_enter Try.func92, Try.ntmps92
  go_wp2_with (first
    | (go_at_call 128; refine (impl_InnerOf _ _ _ _ _ _ _ _ _ _ _ _ _ h1 h2 h3 h1 h2 h3).mono ?_; rintro en w1 ⟨a, rfl, ha, hb1⟩)
    | (go_at_call 127; refine (impl_RootNumber _ _ _ ha).mono ?_; rintro en w2 ⟨r, rfl, hr, n, rfl⟩))
  go_ret
  exact ⟨_, rfl, hr, below_drewN (((Below.refl _ _).alloc (Nat.le_refl _) _).trans (hb1.mono (by simp))) _⟩
theorem l01Long (x y z : Nat) (w : World) (c d e : Option Nat) (h1 : FV .f32 x c) (h2 : FV .f32 y d) (h3 : FV .f32 z e) :
    Calls Try.prog 85 #[vv x y z] w fun en w' => ∃ a, en = .returned (.float .f32 a) ∧ FV .f32 a (rootC (fop .add .f32 (fop .add .f32 (fop .mul .f32 c c) (fop .mul .f32 d d)) (fop .mul .f32 e e))) ∧ Below w.heap.size w w' := by
  have u := Try.underlying52
  have uv := Try.underlying62
  go_enter Try.func85, Try.ntmps85
  go_wp2_with (first
    | (go_at_call 124; refine (l01Inner _ _ _ _ _ _ _ _ _ _ _ _ _ h1 h2 h3 h1 h2 h3).mono ?_; rintro en w1 ⟨a, rfl, ha, hb1⟩)
    | (go_at_call 123; refine (l01Sqrt _ _ _ ha).mono ?_; rintro en w2 ⟨r, rfl, hr, n, rfl⟩))
  go_ret
  exact ⟨_, rfl, hr, below_drewN (((Below.refl _ _).alloc (Nat.le_refl _) _).trans (hb1.mono (by simp))) _⟩
end Go.Proofs.Ytmbekamnogbgaab


/-
Numbers whose sign is not set: sums of squares and their roots are such; and the greater one of two numbers. Conditions: none.
-/
namespace Go.Proofs.Ytmbekamnogbgaab
namespace Fk
open Go
set_option linter.unusedVariables false

/-- The sign is not set. -/
def Pos (k : FloatKind) (c : Option Nat) : Prop := ∀ r, c = some r → r < k.format.signWeight
theorem Pos_none (k : FloatKind) : Pos k none := fun _ h => by cases h
theorem neg_read (f : Ieee.Format) (b : Nat) (h : b < f.signWeight) : (f.read b).neg = false := by
  have h0 : b / f.signWeight = 0 := Nat.div_eq_of_lt h
  unfold Ieee.Format.read
  dsimp only
  rw [h0]
  split
  · rfl
  · split
    · rfl
    · split <;> rfl
theorem neg_decode {k : FloatKind} {b : Nat} (h : b < k.format.signWeight) : (k.decode b).neg = false := neg_read _ b h
theorem write_pos (k : FloatKind) (d : Ieee.Datum) (hn : d.isNaN = false) (h : d.neg = false) : k.format.write d < k.format.signWeight := by
  have hlt := k.format.infRung_lt
  cases d with
  | nan s t => simp [Ieee.Datum.isNaN] at hn
  | infinity s =>
    obtain rfl : s = false := h
    show k.format.word false k.format.infRung < _
    unfold Ieee.Format.word; simpa using hlt
  | number s m p =>
    obtain rfl : s = false := h
    obtain ⟨r, hr, he⟩ := nearest_word k.format false m p
    show k.format.nearest false m p < _
    rw [he]
    unfold Ieee.Format.word
    rw [if_neg (by simp)]
    omega
theorem sum_neg {x y d : Ieee.Datum} (h : x.sum y = some d) (hx : x.neg = false) (hy : y.neg = false) : d.neg = false := by
  cases x <;> cases y <;> simp only [Ieee.Datum.neg] at hx hy <;> subst hx <;> subst hy <;> simp [Ieee.Datum.sum, Ieee.signed] at h
  · subst h
    simp only [Ieee.Datum.neg]
    rw [Bool.and_eq_false_iff]
    right
    rw [decide_eq_false_iff_not]
    rename_i m1 i1 m2 i2
    rw [Int.shiftLeft_eq, Int.shiftLeft_eq]
    have h1 : (0 : Int) ≤ (m1 : Int) * 2 ^ (i1 - min i1 i2).toNat := by exact_mod_cast Nat.zero_le _
    have h2 : (0 : Int) ≤ (m2 : Int) * 2 ^ (i2 - min i1 i2).toNat := by exact_mod_cast Nat.zero_le _
    omega
  all_goals (subst h; rfl)
theorem product_neg {x d : Ieee.Datum} (h : x.product x = some d) : d.neg = false := by
  cases x <;> simp [Ieee.Datum.product] at h
  all_goals (subst h; simp [Ieee.Datum.neg])
theorem root_neg {n : Nat} {x d : Ieee.Datum} (h : x.root n = some d) (hx : x.neg = false) : d.neg = false := by
  cases x with
  | nan s t => simp [Ieee.Datum.root] at h
  | infinity s =>
    obtain rfl : s = false := hx
    simp [Ieee.Datum.root] at h; subst h; rfl
  | number s m i =>
    obtain rfl : s = false := hx
    simp only [Ieee.Datum.root] at h
    split at h
    · cases h; rfl
    · split at h
      · cases h
      · cases h; rfl
theorem Pos_add {k : FloatKind} {a b : Option Nat} (ha : Pos k a) (hb : Pos k b) : Pos k (fop .add k a b) := by
  intro r h
  cases a with
  | none => cases h
  | some x =>
    cases b with
    | none => cases h
    | some y =>
      have h' : k.format.add x y = some r := h
      unfold Ieee.Format.add at h'
      obtain ⟨d, hd, rfl⟩ := Option.map_eq_some_iff.1 h'
      exact write_pos k d (sum_ok hd).2.2 (sum_neg hd (neg_decode (ha x rfl)) (neg_decode (hb y rfl)))
theorem Pos_square {k : FloatKind} (a : Option Nat) : Pos k (fop .mul k a a) := by
  intro r h
  cases a with
  | none => cases h
  | some x =>
    have h' : k.format.mul x x = some r := h
    unfold Ieee.Format.mul at h'
    obtain ⟨d, hd, rfl⟩ := Option.map_eq_some_iff.1 h'
    exact write_pos k d (product_ok hd).2.2 (product_neg hd)
/-- What has no class. -/
def Num (k : FloatKind) (c : Option Nat) : Prop := ∀ r, c = some r → (k.decode r).isNaN = false
theorem Pos_wid {c : Option Nat} (h : Pos .f32 c) (hn : Num .f32 c) : Pos .f64 (c.map wid) := by
  intro r hr
  cases c with
  | none => cases hr
  | some x =>
    cases hr
    exact write_pos .f64 _ (hn x rfl) (neg_decode (h x rfl))
theorem fsq_ok {c : Option Nat} {r : Nat} (h : fsq c = some r) (hc : Pos .f64 c) : r < FloatKind.f64.format.signWeight ∧ (FloatKind.f64.decode r).isNaN = false := by
  cases c with
  | none => cases h
  | some x =>
    have h' : FloatKind.f64.format.sqrt x = some r := h
    unfold Ieee.Format.sqrt at h'
    obtain ⟨d, hd, rfl⟩ := Option.map_eq_some_iff.1 h'
    exact ⟨write_pos .f64 d (root_ok hd).2 (root_neg hd (neg_decode (hc x rfl))), isNaN_write .f64 d (root_ok hd).2⟩
theorem Pos_root {c : Option Nat} (h : Pos .f32 c) (hn : Num .f32 c) : Pos .f32 ((fsq (c.map wid)).map nar) := by
  intro r hr
  cases hq : fsq (c.map wid) with
  | none => rw [hq] at hr; cases hr
  | some y =>
    rw [hq] at hr
    obtain ⟨h1, h2⟩ := fsq_ok hq (Pos_wid h hn)
    cases hr
    exact write_pos .f32 _ h2 (neg_decode h1)
theorem Num_fop {op : BinOp} {k : FloatKind} {a b : Option Nat} : Num k (fop op k a b) := by
  intro r h
  cases a with
  | none => cases h
  | some x =>
    cases b with
    | none => cases h
    | some y => exact (floatBits_ok h).2.2.1

/-! The greater one -/
def mxR (k : FloatKind) (x y : Nat) (w : World) : Nat :=
  match k.format.order x y with
  | none => (Question.nanMinMax k true x y).cut (w.tape w.drawn (.nanMinMax k true x y))
  | some .lt => y
  | some .gt => x
  | some .eq => if (k.decode x).neg then y else x
def mxN (k : FloatKind) (x y : Nat) : Nat := match k.format.order x y with | none => 1 | some _ => 0
def mxC (k : FloatKind) (a b : Option Nat) : Option Nat := match ford k a b with | none => none | some .lt => b | some _ => a
@[go_sem] theorem run_max {P : Program} (w : World) (ats : Array TypeId) (ty : TypeId) (k : FloatKind) (x y : Nat) :
    (Builtin.max_ ats ty #[.float k x, .float k y]).run P w = .ok (.float k (mxR k x y w)) (w.drewN (mxN k x y)) := by
  have hq : (Question.nanMinMax k true x y).forced = false := rfl
  unfold mxR mxN
  cases ho : k.format.order x y with
  | none => simp [Builtin.max_, Builtin.max2, ho, hq]; rfl
  | some o => cases o <;> simp [Builtin.max_, Builtin.max2, ho] <;> rfl
theorem FV_mx {k : FloatKind} {x y : Nat} {a b : Option Nat} {w : World} (hx : FV k x a) (hy : FV k y b) (hp : Pos k a) : FV k (mxR k x y w) (mxC k a b) := by
  have ho := ford_of hx hy
  unfold mxR mxC
  rw [← ho]
  cases h : k.format.order x y with
  | none =>
    have : (Question.nanMinMax k true x y).cut (w.tape w.drawn (.nanMinMax k true x y)) = (Question.nanBits k 0 0).cut (w.tape w.drawn (.nanMinMax k true x y)) := by cases k <;> rfl
    show FV k ((Question.nanMinMax k true x y).cut _) none
    rw [this]
    have := cut_nan k 0 0 (w.tape w.drawn (.nanMinMax k true x y))
    exact ⟨this.1, cls_nan this.2⟩
  | some o =>
    cases o with
    | lt => exact hy
    | gt => exact hx
    | eq =>
      cases a with
      | none => rw [order_nan (.inl hx.nan)] at h; cases h
      | some z =>
        obtain rfl := hx.num
        show FV k (if (k.decode x).neg then y else x) _
        rw [neg_decode (hp x rfl)]
        exact hx
theorem Pos_mx {k : FloatKind} {a b : Option Nat} (ha : Pos k a) (hb : Pos k b) : Pos k (mxC k a b) := by
  unfold mxC
  split
  · exact Pos_none k
  · exact hb
  · exact ha
theorem mx_none {k : FloatKind} (b : Option Nat) : mxC k none b = none := rfl
theorem foldl_none {α : Type} {k : FloatKind} (f : α → Option Nat) (l : List α) : l.foldl (fun m v => mxC k m (f v)) none = none := by
  induction l with
  | nil => rfl
  | cons v l ih => exact ih
/-- Both ways of comparing. -/
theorem ford_both {k : FloatKind} {x y : Nat} {a b : Option Nat} (hx : FV k x a) (hy : FV k y b) :
    (ford k a b = none ∧ ford k b a = none ∧ (a = none ∨ b = none)) ∨ (∃ o : Ordering, ford k a b = some o ∧ ford k b a = some o.swap ∧ a = some x ∧ b = some y) := by
  cases a with
  | none => exact .inl ⟨rfl, by cases b <;> rfl, .inl rfl⟩
  | some p =>
    cases b with
    | none => exact .inl ⟨rfl, rfl, .inr rfl⟩
    | some q =>
      obtain rfl := hx.num
      obtain rfl := hy.num
      refine .inr ⟨compare (key k x) (key k y), order_key hx.1 hy.1 hx.notnan hy.notnan, ?_, rfl, rfl⟩
      show k.format.order y x = _
      rw [order_key hy.1 hx.1 hy.notnan hx.notnan]
      congr 1
      exact (Std.OrientedCmp.eq_swap (cmp := compare) (a := key k y) (b := key k x))
end Fk
end Go.Proofs.Ytmbekamnogbgaab

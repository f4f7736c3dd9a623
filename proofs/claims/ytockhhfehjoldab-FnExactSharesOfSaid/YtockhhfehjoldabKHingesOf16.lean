/-
Texts in one: what HingesOf stands on, part 16. Conditions: those of each.
-/
import Derived.Test.YtockhhfehjoldabKHingesOf15
import Derived.Below

/-
How great a rounded number is, and square roots. Conditions: none.
-/
namespace Go.Proofs.Ytockhhfehjoldab
namespace Fk
open Go
set_option linter.unusedVariables false

/-- What is written of a number less than two to the power of e in size reads as one less than twice this. -/
theorem MB_write (k : FloatKind) (s : Bool) (m : Nat) (p e : Int) (h : m ≠ 0 → p + m.log2 < e) (he : k.format.leastPlace + k.format.fractionBits + 1 ≤ e)
    (hi : e ≤ 100) : MB k (k.format.write (.number s m p)) (e + 1) := by
  obtain ⟨r, hr, hb, _⟩ := nearest_small k.format s m p e h he
  have hB : 0 < k.format.binade := Nat.two_pow_pos _
  have hSB : k.format.infRung < k.format.signWeight := k.format.infRung_lt
  have hinf : (101 - k.format.fractionBits - k.format.leastPlace + 1).toNat * k.format.binade < k.format.infRung := by cases k <;> decide
  have hle : (e - k.format.fractionBits - k.format.leastPlace + 1).toNat ≤ (101 - k.format.fractionBits - k.format.leastPlace + 1).toNat := by omega
  have hlt : r < k.format.infRung := Nat.lt_of_le_of_lt (Nat.le_trans hb (Nat.mul_le_mul_right _ hle)) hinf
  show MB k (k.format.nearest s m p) (e + 1)
  rw [hr]
  unfold MB
  show ∃ s' m' p', k.format.read (k.format.word s r) = .number s' m' p' ∧ _
  unfold Ieee.Format.read
  dsimp only
  rw [word_mod _ _ _ (by omega)]
  have hfb : k.format.binade = 2 ^ k.format.fractionBits := rfl
  by_cases h1 : r < k.format.binade
  · rw [if_pos h1]
    refine ⟨_, _, _, rfl, fun h0 => ?_⟩
    have : r.log2 < k.format.fractionBits := (Nat.log2_lt h0).2 (by rw [← hfb]; exact h1)
    omega
  · rw [if_neg h1, if_pos hlt]
    refine ⟨_, _, _, rfl, fun h0 => ?_⟩
    have ht := Nat.mod_lt r hB
    have hl : (k.format.binade + r % k.format.binade).log2 < k.format.fractionBits + 1 := (Nat.log2_lt h0).2 (by rw [Nat.pow_succ, ← hfb]; omega)
    have hq : r / k.format.binade ≤ (e - k.format.fractionBits - k.format.leastPlace + 1).toNat := by
      have := Nat.div_le_div_right (c := k.format.binade) hb
      rwa [Nat.mul_div_cancel _ hB] at this
    have hq1 : 1 ≤ r / k.format.binade := (Nat.le_div_iff_mul_le hB).2 (by omega)
    omega

theorem rootFrom_lt (n : Nat) : ∀ (todo root : Nat), Ieee.Datum.rootFrom n todo root + 1 ≤ root + 2 ^ todo
  | 0, root => by simp [Ieee.Datum.rootFrom]
  | todo + 1, root => by
    unfold Ieee.Datum.rootFrom
    dsimp only
    have hs : (root + 1 <<< todo) = root + 2 ^ todo := by rw [Nat.shiftLeft_eq, Nat.one_mul]
    have h2 : 2 ^ (todo + 1) = 2 ^ todo + 2 ^ todo := by rw [Nat.pow_succ]; omega
    have hp := Nat.two_pow_pos todo
    rw [h2]
    split
    · have := rootFrom_lt n todo (root + 1 <<< todo); rw [hs] at this ⊢; generalize 2 ^ todo = t at *; omega
    · have := rootFrom_lt n todo root; generalize 2 ^ todo = t at *; omega

theorem root_ok {d : Nat} {x y : Ieee.Datum} (h : x.root d = some y) : x.isNaN = false ∧ y.isNaN = false := by
  cases x with
  | nan s t => simp [Ieee.Datum.root] at h
  | infinity s =>
    simp only [Ieee.Datum.root] at h
    split at h
    · cases h
    · cases h; exact ⟨rfl, rfl⟩
  | number s m i =>
    refine ⟨rfl, ?_⟩
    simp only [Ieee.Datum.root] at h
    split at h
    · cases h; rfl
    · split at h
      · cases h
      · cases h; rfl

/-- A root of a number of the size of 32-bit ones is in range. -/
theorem root_small (d : Nat) (x y : Ieee.Datum) (s : Bool) (m : Nat) (i : Int) (hx : x = .number s m i) (hb : m ≠ 0 → i + m.log2 < 129) (h : x.root d = some y) :
    ∃ s' m' i', y = .number s' m' i' ∧ (m' ≠ 0 → i' + m'.log2 < 67) := by
  subst hx
  simp only [Ieee.Datum.root] at h
  split at h
  · rename_i h0; cases h; exact ⟨_, _, _, rfl, fun h => absurd h0 h⟩
  · rename_i h0
    split at h
    · cases h
    · cases h
      refine ⟨_, _, _, rfl, fun _ => ?_⟩
      have hb' := hb h0
      generalize hmore : (2 * d - m.log2) + ((i - ((2 * d - m.log2 : Nat) : Int)) % 2).toNat = more
      generalize hn : m <<< more = n
      have hnl : n.log2 ≤ m.log2 + more := by
        by_cases hn0 : n = 0
        · rw [hn0]; simp
        · have h1 : n < 2 ^ (m.log2 + more + 1) := by
            rw [← hn, Nat.shiftLeft_eq]
            have : m * 2 ^ more < 2 ^ (m.log2 + 1) * 2 ^ more := Nat.mul_lt_mul_of_pos_right Nat.lt_log2_self (Nat.two_pow_pos _)
            rw [← Nat.pow_add] at this
            exact Nat.lt_of_lt_of_le this (Nat.pow_le_pow_right (by decide) (by omega))
          have := (Nat.log2_lt hn0).2 h1
          omega
      have hw := rootFrom_lt n (n.log2 / 2 + 1) 0
      rw [Nat.zero_add] at hw
      generalize Ieee.Datum.rootFrom n (n.log2 / 2 + 1) 0 = whole at hw ⊢
      have hbit : ((whole * whole != n).toNat) ≤ 1 := by cases (whole * whole != n) <;> simp
      generalize (whole * whole != n).toNat = b at hbit ⊢
      by_cases hz : 2 * whole + b = 0
      · rw [hz]; simp; omega
      · have hl : (2 * whole + b).log2 < n.log2 / 2 + 2 := (Nat.log2_lt hz).2 (by rw [Nat.pow_succ]; omega)
        omega

/-- The square root on classes. -/
def fsq (c : Option Nat) : Option Nat := c.bind fun a => FloatKind.f64.format.sqrt a
def sR (x : Nat) (w : World) : Nat :=
  match FloatKind.f64.format.sqrt x with
  | some r => r
  | none => (Question.nanBits .f64 x x).cut (w.tape w.drawn (.nanBits .f64 x x))
def sN (x : Nat) : Nat :=
  match FloatKind.f64.format.sqrt x with
  | some _ => 0
  | none => 1
theorem FV_sR {x : Nat} {w : World} {c : Option Nat} (h : FV .f64 x c) : FV .f64 (sR x w) (fsq c) := by
  unfold sR fsq
  cases hs : FloatKind.f64.format.sqrt x with
  | some r =>
    refine have e := hs; ?_
    unfold Ieee.Format.sqrt at hs
    obtain ⟨d, hd, rfl⟩ := Option.map_eq_some_iff.1 hs
    have := root_ok hd
    have ec : c = some x := by rw [← h.2]; exact cls_num this.1
    subst ec
    refine ⟨FloatKind.f64.format.sqrt_lt e, ?_⟩
    rw [cls_num (isNaN_write .f64 d this.2)]
    exact e.symm
  | none =>
    have hc := cut_nan .f64 x x (w.tape w.drawn (.nanBits .f64 x x))
    refine ⟨hc.1, ?_⟩
    rw [cls_nan hc.2]
    cases c with
    | none => rfl
    | some a => obtain rfl := h.num; exact hs.symm
theorem run_sqrt {P : Program} (x : Nat) (w : World) : (Extern.MathSqrt.sqrt #[.float .f64 x]).run P w = .ok (.float .f64 (sR x w)) (w.drewN (sN x)) := by
  have hq : (Question.nanBits .f64 x x).forced = false := rfl
  unfold sR sN
  cases hs : FloatKind.f64.format.sqrt x with
  | some r =>
    show (match FloatKind.f64.format.sqrt x with | some r => (pure (.float .f64 r) : Sem Value) | none => do pure (.float .f64 (← choose (.nanBits .f64 x x)))).run P w = _
    rw [hs]; rfl
  | none =>
    show (match FloatKind.f64.format.sqrt x with | some r => (pure (.float .f64 r) : Sem Value) | none => do pure (.float .f64 (← choose (.nanBits .f64 x x)))).run P w = _
    rw [hs]; simp [hq]; rfl

theorem MB_wid {x : Nat} {s : Bool} {m : Nat} {p : Int} (h : FloatKind.f32.decode x = .number s m p) : MB .f64 (wid x) 129 := by
  obtain ⟨h1, h2, h3⟩ := decode32 x s m p h
  obtain ⟨r, he, hr⟩ := wid_word x s m p h
  unfold MB
  rw [he]
  show ∃ s' m' p', Ieee.double.read (Ieee.double.word s r) = .number s' m' p' ∧ _
  have e1 : Ieee.double.binade = 4503599627370496 := by decide
  have e2 : Ieee.double.infRung = 9218868437227405312 := by decide
  have e3 : Ieee.double.leastPlace = -1074 := by decide
  unfold Ieee.Format.read
  dsimp only
  rw [word_mod _ _ _ (show r < Ieee.double.signWeight by rw [show Ieee.double.signWeight = 9223372036854775808 by decide]; omega)]
  by_cases h1 : r < Ieee.double.binade
  · rw [if_pos h1]
    refine ⟨_, _, _, rfl, fun h0 => ?_⟩
    have : r.log2 < 53 := (Nat.log2_lt h0).2 (by rw [e1] at h1; omega)
    rw [e3]; omega
  · rw [if_neg h1, if_pos (by rw [e2]; omega)]
    refine ⟨_, _, _, rfl, fun h0 => ?_⟩
    rw [e1] at h0 h1 ⊢
    rw [e3]
    have hl : (4503599627370496 + r % 4503599627370496).log2 < 53 := (Nat.log2_lt h0).2 (by omega)
    omega
/-- The root of a 32-bit number is in range of 32 bits. -/
theorem ovf_sR {x : Nat} {w w' : World} (hx : x < 2 ^ FloatKind.f32.format.width) : ovf (sR (wR x w) w') = false := by
  cases hd : FloatKind.f64.decode (sR (wR x w) w') with
  | nan s t => unfold ovf; rw [hd]
  | infinity s => unfold ovf; rw [hd]
  | number s m p =>
    have hv := FV_sR (w := w') (FV_wR (w := w) (FV.self (k := .f32) hx))
    have hn : (FloatKind.f64.decode (sR (wR x w) w')).isNaN = false := by rw [hd]; rfl
    have hc := hv.2
    rw [cls_num hn] at hc
    unfold fsq cls at hc
    split at hc
    · cases hc
    · rename_i hnx
      have hc' : FloatKind.f64.format.sqrt (wid x) = some (sR (wR x w) w') := hc.symm
      unfold Ieee.Format.sqrt at hc'
      obtain ⟨d, hd', he⟩ := Option.map_eq_some_iff.1 hc'
      cases hdx : FloatKind.f32.decode x with
      | nan s t => rw [hdx] at hnx; simp [Ieee.Datum.isNaN] at hnx
      | infinity t =>
        have : FloatKind.f64.format.read (wid x) = .infinity t := by
          unfold wid; rw [hdx]; cases t <;> decide
        rw [this] at hd'
        have hdi : d = .infinity false := by
          cases t
          · simp only [Ieee.Datum.root] at hd'; cases hd'; rfl
          · simp [Ieee.Datum.root] at hd'
        rw [hdi] at he
        rw [← he] at hd
        have e9 : FloatKind.f64.decode (FloatKind.f64.format.write (.infinity false)) = .infinity false := by decide
        rw [e9] at hd; cases hd
      | number t n q =>
        obtain ⟨s1, m1, p1, h1, h2⟩ := MB_wid hdx
        obtain ⟨s2, m2, p2, h3, h4⟩ := root_small _ _ _ s1 m1 p1 h1 h2 hd'
        subst h3
        have := MB_write .f64 s2 m2 p2 67 h4 (by decide) (by decide)
        rw [he] at this
        exact ovf_small (this.mono (by decide))
end Fk
end Go.Proofs.Ytockhhfehjoldab


/-
The square root of 32-bit numbers: what the program and its model return. Conditions: none beyond that the words fit.
-/
namespace Go.Proofs.Ytockhhfehjoldab
open Go Fk Go.RowKit
set_option linter.unusedVariables false

def rootC (c : Option Nat) : Option Nat := (fsq (c.map wid)).map nar
@[go_sem] theorem ext_sqrt (x : Nat) (w : World) : (callFunc 127 #[.float .f64 x]).run Try.prog w = .ok (.value (.float .f64 (sR x w))) (w.drewN (sN x)) := by
  rw [run_callFunc_extern (e := Extern.MathSqrt.sqrt) Try.func127 (by kernel_rfl) (by kernel_rfl) (by kernel_rfl) (by kernel_rfl), run_sqrt]; rfl
theorem math_Sqrt (x : Nat) (w : World) :
    Calls Try.prog 117 #[.float .f64 x] w fun e w' => e = .returned (.float .f64 (sR x w)) ∧ ∃ n, w' = w.drewN n := by
  go_enter Try.func117, Try.ntmps117
  go_wp2
  go_ret
  exact ⟨rfl, _, rfl⟩
theorem impl_Narrow (y : Nat) (w : World) :
    Calls Try.prog 77 #[.float .f64 y] w fun e w' => e = .returned (.float .f32 (nR y w)) ∧ ∃ n, w' = w.drewN n := by
  have u := Try.underlying71
  have u' := Try.underlying32
  go_enter Try.func77, Try.ntmps77
  go_wp2
  go_ret
  exact ⟨rfl, _, rfl⟩
theorem spec_Narrow (y : Nat) (w : World) :
    Calls Try.prog 116 #[.float .f64 y] w fun e w' => e = .returned (.float .f32 (nR y w)) ∧ ∃ n, w' = w.drewN n := by
  have u := Try.underlying71
  have u' := Try.underlying32
  go_enter Try.func116, Try.ntmps116
  go_wp2
  go_ret
  exact ⟨rfl, _, rfl⟩
theorem FV_root {x : Nat} {c : Option Nat} {w w' w'' : World} (h : FV .f32 x c) : FV .f32 (nR (sR (wR x w) w') w'') (rootC c) :=
  FV_nR (FV_sR (FV_wR h)) (ovf_sR h.1)
theorem impl_RootNumber (x : Nat) (c : Option Nat) (w : World) (h : FV .f32 x c) :
    Calls Try.prog 105 #[.float .f32 x] w fun e w' => ∃ r, e = .returned (.float .f32 r) ∧ FV .f32 r (rootC c) ∧ ∃ n, w' = w.drewN n := by
  have u := Try.underlying71
  have u' := Try.underlying32
  go_enter Try.func105, Try.ntmps105
  go_wp2_with (first
    | (go_at_call 117; refine (math_Sqrt _ _).mono ?_; rintro e w' ⟨rfl, n, rfl⟩)
    | (go_at_call 77; refine (impl_Narrow _ _).mono ?_; rintro e w' ⟨rfl, n, rfl⟩))
  go_ret
  exact ⟨_, rfl, FV_root h, _, rfl⟩
theorem l01Sqrt (x : Nat) (c : Option Nat) (w : World) (h : FV .f32 x c) :
    Calls Try.prog 101 #[.float .f32 x] w fun e w' => ∃ r, e = .returned (.float .f32 r) ∧ FV .f32 r (rootC c) ∧ ∃ n, w' = w.drewN n := by
  have u := Try.underlying71
  have u' := Try.underlying32
  go_enter Try.func101, Try.ntmps101
  go_wp2_with (first
    | (go_at_call 117; refine (math_Sqrt _ _).mono ?_; rintro e w' ⟨rfl, n, rfl⟩)
    | (go_at_call 116; refine (spec_Narrow _ _).mono ?_; rintro e w' ⟨rfl, n, rfl⟩))
  go_ret
  exact ⟨_, rfl, FV_root h, _, rfl⟩
end Go.Proofs.Ytockhhfehjoldab


/-
Between two vectors, and lengths: what the program and its model return. Conditions: none beyond that the words fit.
-/
namespace Go.Proofs.Ytockhhfehjoldab
open Go Fk Go.RowKit
set_option linter.unusedVariables false

theorem impl_LongOf (x y z : Nat) (w : World) (c d e : Option Nat) (h1 : FV .f32 x c) (h2 : FV .f32 y d) (h3 : FV .f32 z e) :
    Calls Try.prog 79 #[vv x y z] w fun en w' => ∃ a, en = .returned (.float .f32 a) ∧ FV .f32 a (rootC (fop .add .f32 (fop .add .f32 (fop .mul .f32 c c) (fop .mul .f32 d d)) (fop .mul .f32 e e))) ∧ Below w.heap.size w w' := by
  have u := Try.underlying32
  have uv := Try.underlying46
  go_enter Try.func79, Try.ntmps79
  go_wp2_with (first
    | (go_at_call 106; refine (impl_InnerOf _ _ _ _ _ _ _ _ _ _ _ _ _ h1 h2 h3 h1 h2 h3).mono ?_; rintro en w1 ⟨a, rfl, ha, hb1⟩)
    | (go_at_call 105; refine (impl_RootNumber _ _ _ ha).mono ?_; rintro en w2 ⟨r, rfl, hr, n, rfl⟩))
  go_ret
  exact ⟨_, rfl, hr, below_drewN (((Below.refl _ _).alloc (Nat.le_refl _) _).trans (hb1.mono (by simp))) _⟩
theorem l01Long (x y z : Nat) (w : World) (c d e : Option Nat) (h1 : FV .f32 x c) (h2 : FV .f32 y d) (h3 : FV .f32 z e) :
    Calls Try.prog 74 #[vv x y z] w fun en w' => ∃ a, en = .returned (.float .f32 a) ∧ FV .f32 a (rootC (fop .add .f32 (fop .add .f32 (fop .mul .f32 c c) (fop .mul .f32 d d)) (fop .mul .f32 e e))) ∧ Below w.heap.size w w' := by
  have u := Try.underlying32
  have uv := Try.underlying46
  go_enter Try.func74, Try.ntmps74
  go_wp2_with (first
    | (go_at_call 102; refine (l01Inner _ _ _ _ _ _ _ _ _ _ _ _ _ h1 h2 h3 h1 h2 h3).mono ?_; rintro en w1 ⟨a, rfl, ha, hb1⟩)
    | (go_at_call 101; refine (l01Sqrt _ _ _ ha).mono ?_; rintro en w2 ⟨r, rfl, hr, n, rfl⟩))
  go_ret
  exact ⟨_, rfl, hr, below_drewN (((Below.refl _ _).alloc (Nat.le_refl _) _).trans (hb1.mono (by simp))) _⟩
end Go.Proofs.Ytockhhfehjoldab


/-
Numbers whose sign is not set: sums of squares and their roots are such; and the greater one of two numbers. Conditions: none.
-/
namespace Go.Proofs.Ytockhhfehjoldab
namespace Fk
open Go
set_option linter.unusedVariables false

/-- The sign is not set. -/
def Pos (k : FloatKind) (c : Option Nat) : Prop := ∀ r, c = some r → r < k.format.signWeight
theorem Pos_none (k : FloatKind) : Pos k none := fun _ h => by cases h
theorem neg_read (f : Ieee.Format) (b : Nat) (h : b < f.signWeight) : (f.read b).neg = false := by
  have h0 : b / f.signWeight = 0 := Nat.div_eq_of_lt h
  unfold Ieee.Format.read
  dsimp only
  rw [h0]
  split
  · rfl
  · split
    · rfl
    · split <;> rfl
theorem neg_decode {k : FloatKind} {b : Nat} (h : b < k.format.signWeight) : (k.decode b).neg = false := neg_read _ b h
theorem write_pos (k : FloatKind) (d : Ieee.Datum) (hn : d.isNaN = false) (h : d.neg = false) : k.format.write d < k.format.signWeight := by
  have hlt := k.format.infRung_lt
  cases d with
  | nan s t => simp [Ieee.Datum.isNaN] at hn
  | infinity s =>
    obtain rfl : s = false := h
    show k.format.word false k.format.infRung < _
    unfold Ieee.Format.word; simpa using hlt
  | number s m p =>
    obtain rfl : s = false := h
    obtain ⟨r, hr, he⟩ := nearest_word k.format false m p
    show k.format.nearest false m p < _
    rw [he]
    unfold Ieee.Format.word
    rw [if_neg (by simp)]
    omega
theorem sum_neg {x y d : Ieee.Datum} (h : x.sum y = some d) (hx : x.neg = false) (hy : y.neg = false) : d.neg = false := by
  cases x <;> cases y <;> simp only [Ieee.Datum.neg] at hx hy <;> subst hx <;> subst hy <;> simp [Ieee.Datum.sum, Ieee.signed] at h
  · subst h
    simp only [Ieee.Datum.neg]
    rw [Bool.and_eq_false_iff]
    right
    rw [decide_eq_false_iff_not]
    rename_i m1 i1 m2 i2
    rw [Int.shiftLeft_eq, Int.shiftLeft_eq]
    have h1 : (0 : Int) ≤ (m1 : Int) * 2 ^ (i1 - min i1 i2).toNat := by exact_mod_cast Nat.zero_le _
    have h2 : (0 : Int) ≤ (m2 : Int) * 2 ^ (i2 - min i1 i2).toNat := by exact_mod_cast Nat.zero_le _
    omega
  all_goals (subst h; rfl)
theorem product_neg {x d : Ieee.Datum} (h : x.product x = some d) : d.neg = false := by
  cases x <;> simp [Ieee.Datum.product] at h
  all_goals (subst h; simp [Ieee.Datum.neg])
theorem root_neg {n : Nat} {x d : Ieee.Datum} (h : x.root n = some d) (hx : x.neg = false) : d.neg = false := by
  cases x with
  | nan s t => simp [Ieee.Datum.root] at h
  | infinity s =>
    obtain rfl : s = false := hx
    simp [Ieee.Datum.root] at h; subst h; rfl
  | number s m i =>
    obtain rfl : s = false := hx
    simp only [Ieee.Datum.root] at h
    split at h
    · cases h; rfl
    · split at h
      · cases h
      · cases h; rfl
theorem Pos_add {k : FloatKind} {a b : Option Nat} (ha : Pos k a) (hb : Pos k b) : Pos k (fop .add k a b) := by
  intro r h
  cases a with
  | none => cases h
  | some x =>
    cases b with
    | none => cases h
    | some y =>
      have h' : k.format.add x y = some r := h
      unfold Ieee.Format.add at h'
      obtain ⟨d, hd, rfl⟩ := Option.map_eq_some_iff.1 h'
      exact write_pos k d (sum_ok hd).2.2 (sum_neg hd (neg_decode (ha x rfl)) (neg_decode (hb y rfl)))
theorem Pos_square {k : FloatKind} (a : Option Nat) : Pos k (fop .mul k a a) := by
  intro r h
  cases a with
  | none => cases h
  | some x =>
    have h' : k.format.mul x x = some r := h
    unfold Ieee.Format.mul at h'
    obtain ⟨d, hd, rfl⟩ := Option.map_eq_some_iff.1 h'
    exact write_pos k d (product_ok hd).2.2 (product_neg hd)
/-- What has no class. -/
def Num (k : FloatKind) (c : Option Nat) : Prop := ∀ r, c = some r → (k.decode r).isNaN = false
theorem Pos_wid {c : Option Nat} (h : Pos .f32 c) (hn : Num .f32 c) : Pos .f64 (c.map wid) := by
  intro r hr
  cases c with
  | none => cases hr
  | some x =>
    cases hr
    exact write_pos .f64 _ (hn x rfl) (neg_decode (h x rfl))
theorem fsq_ok {c : Option Nat} {r : Nat} (h : fsq c = some r) (hc : Pos .f64 c) : r < FloatKind.f64.format.signWeight ∧ (FloatKind.f64.decode r).isNaN = false := by
  cases c with
  | none => cases h
  | some x =>
    have h' : FloatKind.f64.format.sqrt x = some r := h
    unfold Ieee.Format.sqrt at h'
    obtain ⟨d, hd, rfl⟩ := Option.map_eq_some_iff.1 h'
    exact ⟨write_pos .f64 d (root_ok hd).2 (root_neg hd (neg_decode (hc x rfl))), isNaN_write .f64 d (root_ok hd).2⟩
theorem Pos_root {c : Option Nat} (h : Pos .f32 c) (hn : Num .f32 c) : Pos .f32 ((fsq (c.map wid)).map nar) := by
  intro r hr
  cases hq : fsq (c.map wid) with
  | none => rw [hq] at hr; cases hr
  | some y =>
    rw [hq] at hr
    obtain ⟨h1, h2⟩ := fsq_ok hq (Pos_wid h hn)
    cases hr
    exact write_pos .f32 _ h2 (neg_decode h1)
theorem Num_fop {op : BinOp} {k : FloatKind} {a b : Option Nat} : Num k (fop op k a b) := by
  intro r h
  cases a with
  | none => cases h
  | some x =>
    cases b with
    | none => cases h
    | some y => exact (floatBits_ok h).2.2.1

/-! The greater one -/
def mxR (k : FloatKind) (x y : Nat) (w : World) : Nat :=
  match k.format.order x y with
  | none => (Question.nanMinMax k true x y).cut (w.tape w.drawn (.nanMinMax k true x y))
  | some .lt => y
  | some .gt => x
  | some .eq => if (k.decode x).neg then y else x
def mxN (k : FloatKind) (x y : Nat) : Nat := match k.format.order x y with | none => 1 | some _ => 0
def mxC (k : FloatKind) (a b : Option Nat) : Option Nat := match ford k a b with | none => none | some .lt => b | some _ => a
@[go_sem] theorem run_max {P : Program} (w : World) (ats : Array TypeId) (ty : TypeId) (k : FloatKind) (x y : Nat) :
    (Builtin.max_ ats ty #[.float k x, .float k y]).run P w = .ok (.float k (mxR k x y w)) (w.drewN (mxN k x y)) := by
  have hq : (Question.nanMinMax k true x y).forced = false := rfl
  unfold mxR mxN
  cases ho : k.format.order x y with
  | none => simp [Builtin.max_, Builtin.max2, ho, hq]; rfl
  | some o => cases o <;> simp [Builtin.max_, Builtin.max2, ho] <;> rfl
theorem FV_mx {k : FloatKind} {x y : Nat} {a b : Option Nat} {w : World} (hx : FV k x a) (hy : FV k y b) (hp : Pos k a) : FV k (mxR k x y w) (mxC k a b) := by
  have ho := ford_of hx hy
  unfold mxR mxC
  rw [← ho]
  cases h : k.format.order x y with
  | none =>
    have : (Question.nanMinMax k true x y).cut (w.tape w.drawn (.nanMinMax k true x y)) = (Question.nanBits k 0 0).cut (w.tape w.drawn (.nanMinMax k true x y)) := by cases k <;> rfl
    show FV k ((Question.nanMinMax k true x y).cut _) none
    rw [this]
    have := cut_nan k 0 0 (w.tape w.drawn (.nanMinMax k true x y))
    exact ⟨this.1, cls_nan this.2⟩
  | some o =>
    cases o with
    | lt => exact hy
    | gt => exact hx
    | eq =>
      cases a with
      | none => rw [order_nan (.inl hx.nan)] at h; cases h
      | some z =>
        obtain rfl := hx.num
        show FV k (if (k.decode x).neg then y else x) _
        rw [neg_decode (hp x rfl)]
        exact hx
theorem Pos_mx {k : FloatKind} {a b : Option Nat} (ha : Pos k a) (hb : Pos k b) : Pos k (mxC k a b) := by
  unfold mxC
  split
  · exact Pos_none k
  · exact hb
  · exact ha
theorem mx_none {k : FloatKind} (b : Option Nat) : mxC k none b = none := rfl
theorem foldl_none {α : Type} {k : FloatKind} (f : α → Option Nat) (l : List α) : l.foldl (fun m v => mxC k m (f v)) none = none := by
  induction l with
  | nil => rfl
  | cons v l ih => exact ih
/-- Both ways of comparing. -/
theorem ford_both {k : FloatKind} {x y : Nat} {a b : Option Nat} (hx : FV k x a) (hy : FV k y b) :
    (ford k a b = none ∧ ford k b a = none ∧ (a = none ∨ b = none)) ∨ (∃ o : Ordering, ford k a b = some o ∧ ford k b a = some o.swap ∧ a = some x ∧ b = some y) := by
  cases a with
  | none => exact .inl ⟨rfl, by cases b <;> rfl, .inl rfl⟩
  | some p =>
    cases b with
    | none => exact .inl ⟨rfl, rfl, .inr rfl⟩
    | some q =>
      obtain rfl := hx.num
      obtain rfl := hy.num
      refine .inr ⟨compare (key k x) (key k y), order_key hx.1 hy.1 hx.notnan hy.notnan, ?_, rfl, rfl⟩
      show k.format.order y x = _
      rw [order_key hy.1 hx.1 hy.notnan hx.notnan]
      congr 1
      exact (Std.OrientedCmp.eq_swap (cmp := compare) (a := key k y) (b := key k x))
end Fk
end Go.Proofs.Ytockhhfehjoldab

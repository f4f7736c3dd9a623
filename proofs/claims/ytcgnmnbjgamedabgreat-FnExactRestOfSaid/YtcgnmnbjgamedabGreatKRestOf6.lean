/-
Texts in one: what RestOf stands on, part 6. Conditions: those of each.
-/
import Derived.Test.YtcgnmnbjgamedabGreatKRestOf5

/-
Numbers whose sign is not set: sums of squares and their roots are such; and the greater one of two numbers. Conditions: none.
-/
namespace Go.Proofs.YtcgnmnbjgamedabGreat
namespace Fk
open Go
set_option linter.unusedVariables false

/-- The sign is not set. -/
def Pos (k : FloatKind) (c : Option Nat) : Prop := ∀ r, c = some r → r < k.format.signWeight
theorem Pos_none (k : FloatKind) : Pos k none := fun _ h => by cases h
theorem neg_read (f : Ieee.Format) (b : Nat) (h : b < f.signWeight) : (f.read b).neg = false := by
  have h0 : b / f.signWeight = 0 := Nat.div_eq_of_lt h
  unfold Ieee.Format.read
  dsimp only
  rw [h0]
  split
  · rfl
  · split
    · rfl
    · split <;> rfl
theorem neg_decode {k : FloatKind} {b : Nat} (h : b < k.format.signWeight) : (k.decode b).neg = false := neg_read _ b h
theorem write_pos (k : FloatKind) (d : Ieee.Datum) (hn : d.isNaN = false) (h : d.neg = false) : k.format.write d < k.format.signWeight := by
  have hlt := k.format.infRung_lt
  cases d with
  | nan s t => simp [Ieee.Datum.isNaN] at hn
  | infinity s =>
    obtain rfl : s = false := h
    show k.format.word false k.format.infRung < _
    unfold Ieee.Format.word; simpa using hlt
  | number s m p =>
    obtain rfl : s = false := h
    obtain ⟨r, hr, he⟩ := nearest_word k.format false m p
    show k.format.nearest false m p < _
    rw [he]
    unfold Ieee.Format.word
    rw [if_neg (by simp)]
    omega
theorem sum_neg {x y d : Ieee.Datum} (h : x.sum y = some d) (hx : x.neg = false) (hy : y.neg = false) : d.neg = false := by
  cases x <;> cases y <;> simp only [Ieee.Datum.neg] at hx hy <;> subst hx <;> subst hy <;> simp [Ieee.Datum.sum, Ieee.signed] at h
  · subst h
    simp only [Ieee.Datum.neg]
    rw [Bool.and_eq_false_iff]
    right
    rw [decide_eq_false_iff_not]
    rename_i m1 i1 m2 i2
    rw [Int.shiftLeft_eq, Int.shiftLeft_eq]
    have h1 : (0 : Int) ≤ (m1 : Int) * 2 ^ (i1 - min i1 i2).toNat := by exact_mod_cast Nat.zero_le _
    have h2 : (0 : Int) ≤ (m2 : Int) * 2 ^ (i2 - min i1 i2).toNat := by exact_mod_cast Nat.zero_le _
    omega
  all_goals (subst h; rfl)
theorem product_neg {x d : Ieee.Datum} (h : x.product x = some d) : d.neg = false := by
  cases x <;> simp [Ieee.Datum.product] at h
  all_goals (subst h; simp [Ieee.Datum.neg])
theorem root_neg {n : Nat} {x d : Ieee.Datum} (h : x.root n = some d) (hx : x.neg = false) : d.neg = false := by
  cases x with
  | nan s t => simp [Ieee.Datum.root] at h
  | infinity s =>
    obtain rfl : s = false := hx
    simp [Ieee.Datum.root] at h; subst h; rfl
  | number s m i =>
    obtain rfl : s = false := hx
    simp only [Ieee.Datum.root] at h
    split at h
    · cases h; rfl
    · split at h
      · cases h
      · cases h; rfl
theorem Pos_add {k : FloatKind} {a b : Option Nat} (ha : Pos k a) (hb : Pos k b) : Pos k (fop .add k a b) := by
  intro r h
  cases a with
  | none => cases h
  | some x =>
    cases b with
    | none => cases h
    | some y =>
      have h' : k.format.add x y = some r := h
      unfold Ieee.Format.add at h'
      obtain ⟨d, hd, rfl⟩ := Option.map_eq_some_iff.1 h'
      exact write_pos k d (sum_ok hd).2.2 (sum_neg hd (neg_decode (ha x rfl)) (neg_decode (hb y rfl)))
theorem Pos_square {k : FloatKind} (a : Option Nat) : Pos k (fop .mul k a a) := by
  intro r h
  cases a with
  | none => cases h
  | some x =>
    have h' : k.format.mul x x = some r := h
    unfold Ieee.Format.mul at h'
    obtain ⟨d, hd, rfl⟩ := Option.map_eq_some_iff.1 h'
    exact write_pos k d (product_ok hd).2.2 (product_neg hd)
/-- What has no class. -/
def Num (k : FloatKind) (c : Option Nat) : Prop := ∀ r, c = some r → (k.decode r).isNaN = false
theorem Pos_wid {c : Option Nat} (h : Pos .f32 c) (hn : Num .f32 c) : Pos .f64 (c.map wid) := by
  intro r hr
  cases c with
  | none => cases hr
  | some x =>
    cases hr
    exact write_pos .f64 _ (hn x rfl) (neg_decode (h x rfl))
theorem fsq_ok {c : Option Nat} {r : Nat} (h : fsq c = some r) (hc : Pos .f64 c) : r < FloatKind.f64.format.signWeight ∧ (FloatKind.f64.decode r).isNaN = false := by
  cases c with
  | none => cases h
  | some x =>
    have h' : FloatKind.f64.format.sqrt x = some r := h
    unfold Ieee.Format.sqrt at h'
    obtain ⟨d, hd, rfl⟩ := Option.map_eq_some_iff.1 h'
    exact ⟨write_pos .f64 d (root_ok hd).2 (root_neg hd (neg_decode (hc x rfl))), isNaN_write .f64 d (root_ok hd).2⟩
theorem Pos_root {c : Option Nat} (h : Pos .f32 c) (hn : Num .f32 c) : Pos .f32 ((fsq (c.map wid)).map nar) := by
  intro r hr
  cases hq : fsq (c.map wid) with
  | none => rw [hq] at hr; cases hr
  | some y =>
    rw [hq] at hr
    obtain ⟨h1, h2⟩ := fsq_ok hq (Pos_wid h hn)
    cases hr
    exact write_pos .f32 _ h2 (neg_decode h1)
theorem Num_fop {op : BinOp} {k : FloatKind} {a b : Option Nat} : Num k (fop op k a b) := by
  intro r h
  cases a with
  | none => cases h
  | some x =>
    cases b with
    | none => cases h
    | some y => exact (floatBits_ok h).2.2.1

/-! The greater one -/
def mxR (k : FloatKind) (x y : Nat) (w : World) : Nat :=
  match k.format.order x y with
  | none => (Question.nanMinMax k true x y).cut (w.tape w.drawn (.nanMinMax k true x y))
  | some .lt => y
  | some .gt => x
  | some .eq => if (k.decode x).neg then y else x
def mxN (k : FloatKind) (x y : Nat) : Nat := match k.format.order x y with | none => 1 | some _ => 0
def mxC (k : FloatKind) (a b : Option Nat) : Option Nat := match ford k a b with | none => none | some .lt => b | some _ => a
@[go_sem] theorem run_max {P : Program} (w : World) (ats : Array TypeId) (ty : TypeId) (k : FloatKind) (x y : Nat) :
    (Builtin.max_ ats ty #[.float k x, .float k y]).run P w = .ok (.float k (mxR k x y w)) (w.drewN (mxN k x y)) := by
  have hq : (Question.nanMinMax k true x y).forced = false := rfl
  unfold mxR mxN
  cases ho : k.format.order x y with
  | none => simp [Builtin.max_, Builtin.max2, ho, hq]; rfl
  | some o => cases o <;> simp [Builtin.max_, Builtin.max2, ho] <;> rfl
theorem FV_mx {k : FloatKind} {x y : Nat} {a b : Option Nat} {w : World} (hx : FV k x a) (hy : FV k y b) (hp : Pos k a) : FV k (mxR k x y w) (mxC k a b) := by
  have ho := ford_of hx hy
  unfold mxR mxC
  rw [← ho]
  cases h : k.format.order x y with
  | none =>
    have : (Question.nanMinMax k true x y).cut (w.tape w.drawn (.nanMinMax k true x y)) = (Question.nanBits k 0 0).cut (w.tape w.drawn (.nanMinMax k true x y)) := by cases k <;> rfl
    show FV k ((Question.nanMinMax k true x y).cut _) none
    rw [this]
    have := cut_nan k 0 0 (w.tape w.drawn (.nanMinMax k true x y))
    exact ⟨this.1, cls_nan this.2⟩
  | some o =>
    cases o with
    | lt => exact hy
    | gt => exact hx
    | eq =>
      cases a with
      | none => rw [order_nan (.inl hx.nan)] at h; cases h
      | some z =>
        obtain rfl := hx.num
        show FV k (if (k.decode x).neg then y else x) _
        rw [neg_decode (hp x rfl)]
        exact hx
theorem Pos_mx {k : FloatKind} {a b : Option Nat} (ha : Pos k a) (hb : Pos k b) : Pos k (mxC k a b) := by
  unfold mxC
  split
  · exact Pos_none k
  · exact hb
  · exact ha
theorem foldl_none {α : Type} {k : FloatKind} (f : α → Option Nat) (l : List α) : l.foldl (fun m v => mxC k m (f v)) none = none := by
  induction l with
  | nil => rfl
  | cons v l ih => exact ih
/-- Both ways of comparing. -/
theorem ford_both {k : FloatKind} {x y : Nat} {a b : Option Nat} (hx : FV k x a) (hy : FV k y b) :
    (ford k a b = none ∧ ford k b a = none ∧ (a = none ∨ b = none)) ∨ (∃ o : Ordering, ford k a b = some o ∧ ford k b a = some o.swap ∧ a = some x ∧ b = some y) := by
  cases a with
  | none => exact .inl ⟨rfl, by cases b <;> rfl, .inl rfl⟩
  | some p =>
    cases b with
    | none => exact .inl ⟨rfl, rfl, .inr rfl⟩
    | some q =>
      obtain rfl := hx.num
      obtain rfl := hy.num
      refine .inr ⟨compare (key k x) (key k y), order_key hx.1 hy.1 hx.notnan hy.notnan, ?_, rfl, rfl⟩
      show k.format.order y x = _
      rw [order_key hy.1 hx.1 hy.notnan hx.notnan]
      congr 1
      exact (Std.OrientedCmp.eq_swap (cmp := compare) (a := key k y) (b := key k x))
end Fk
end Go.Proofs.YtcgnmnbjgamedabGreat

/-
The greatest length of a list of vectors: what the program and its model return. Conditions: none.
-/
namespace Go.Proofs.YtcgnmnbjgamedabGreat
open Go Fk Go.RowKit
set_option linter.unusedVariables false
set_option maxRecDepth 8000

def longC (c : C3) : Option Nat := rootC (fop .add .f32 (fop .add .f32 (fop .mul .f32 c.1 c.1) (fop .mul .f32 c.2.1 c.2.1)) (fop .mul .f32 c.2.2 c.2.2))
theorem Pos_longC (c : C3) : Pos .f32 (longC c) := Pos_root (Pos_add (Pos_add (Pos_square _) (Pos_square _)) (Pos_square _)) Num_fop
def lonF (m : Option Nat) (cs : List C3) : Option Nat := cs.foldl (fun m v => mxC .f32 m (longC v)) m
abbrev lonC (cs : List C3) : Option Nat := lonF (some 0) cs
theorem Pos_zero : Pos .f32 (some 0) := by intro r h; cases h; decide
theorem Pos_lonF (cs : List C3) : ∀ m, Pos .f32 m → Pos .f32 (lonF m cs) := by
  induction cs with
  | nil => exact fun m h => h
  | cons c cs ih => exact fun m h => ih _ (Pos_mx h (Pos_longC c))
theorem lonC_snoc (cs : List C3) (k : Nat) (hk : k < cs.length) : lonC (cs.take (k + 1)) = mxC .f32 (lonC (cs.take k)) (longC (cs.getD k c0)) := by
  rw [List.take_succ_eq_append_getElem hk]
  unfold lonC lonF
  rw [List.foldl_append]
  simp [List.getD, hk]
theorem lonC_stop (cs : List C3) (k : Nat) (h : lonC (cs.take k) = none) : lonC cs = none := by
  have e : cs = cs.take k ++ cs.drop k := (List.take_append_drop k cs).symm
  rw [e]
  unfold lonC lonF at h ⊢
  rw [List.foldl_append, h]
  exact foldl_none _ _
def lonB (n : Nat) (cs : List C3) : Option Nat := if n ≤ 256 then lonC cs else some 0
theorem FV_00 : FV .f32 0 (some 0) := ⟨by decide, by decide⟩
theorem lon_step {x o : Nat} {m v : Option Nat} (ho : FV .f32 o m) (hx : FV .f32 x v) (hm : m = some o) :
    ((FloatKind.f32.format.order x o == some .gt) = true ∧ FV .f32 x (mxC .f32 m v) ∧ mxC .f32 m v = some x ∧ (FloatKind.f32.format.order x x != some .eq) = false) ∨
    ((FloatKind.f32.format.order x o == some .gt) = false ∧ (FloatKind.f32.format.order x x != some .eq) = true ∧ FV .f32 x none ∧ mxC .f32 m v = none) ∨
    ((FloatKind.f32.format.order x o == some .gt) = false ∧ (FloatKind.f32.format.order x x != some .eq) = false ∧ FV .f32 o (mxC .f32 m v) ∧ mxC .f32 m v = some o ∧ (FloatKind.f32.format.order o o != some .eq) = false) := by
  subst hm
  have oo : (FloatKind.f32.format.order o o != some .eq) = false := by rw [order_self ho.notnan]; rfl
  rcases ford_both ho hx with ⟨e1, e2, h⟩ | ⟨c, e1, e2, _, rfl⟩
  · rcases h with h | rfl
    · cases h
    · have h1 : FloatKind.f32.format.order x o = none := order_nan (.inl hx.nan)
      have h2 : FloatKind.f32.format.order x x = none := order_nan (.inl hx.nan)
      refine .inr (.inl ⟨by rw [h1]; rfl, by rw [h2]; rfl, hx, rfl⟩)
  · have xx : (FloatKind.f32.format.order x x != some .eq) = false := by rw [order_self hx.notnan]; rfl
    have h1 : FloatKind.f32.format.order x o = some c.swap := e2
    cases c with
    | lt => exact .inl ⟨by rw [h1]; rfl, by unfold mxC; rw [e1]; exact hx, by unfold mxC; rw [e1], xx⟩
    | eq => exact .inr (.inr ⟨by rw [h1]; rfl, xx, by unfold mxC; rw [e1]; exact ho, by unfold mxC; rw [e1], oo⟩)
    | gt => exact .inr (.inr ⟨by rw [h1]; rfl, xx, by unfold mxC; rw [e1]; exact ho, by unfold mxC; rw [e1], oo⟩)

set_option maxHeartbeats 1000000 in
theorem impl_LongestOf (a : Option Addr) (len cap : Nat) (cs : List C3) (w : World) (h : IsVs w a len cap cs) :
    Calls Tryz.prog 56 #[.slice a len cap] w fun e w' => ∃ r, e = .returned (.tuple #[.float .f32 r, .bool (decide (len ≤ 256))]) ∧ FV .f32 r (lonB len cs) ∧ Below w.heap.size w w' := by
  have uv := Tryz.underlying40
  have u := Tryz.underlying27
  have hm : len ≤ 9223372036854775807 := by have h1 := h.2.1; have h2 := h.2.2.1; unfold maxLen at h2; omega
  have hzl := h.1
  have H := Lib.hid h
  have HZ := Lib.hid hzl
  clear h hzl
  by_cases hl : len ≤ 256
  · have HL := Lib.hid hl
    go_enter Tryz.func56, Tryz.ntmps56
    go_wp2
    go_loopw [4, 12] (fun m i w' => ∃ k : Nat, k ≤ len ∧ i = .int .i64 k ∧ (∃ r, m = .float .f32 r ∧ FV .f32 r (lonC (cs.take k))) ∧ Aside (Below w.heap.size w w')) (fun _ i _ => len - (intOf i).toNat)
    case atStart => exact ⟨0, Nat.zero_le _, rfl, ⟨0, rfl, FV_00⟩, Below.refl _ _⟩
    case round =>
      obtain ⟨k, hk, rfl, ⟨m, rfl, hF⟩, hA⟩ := hrel
      have hB := hA.out
      clear hA
      by_cases hlt : k < len
      · obtain ⟨b, o, rfl, hcell⟩ := (H.out.below hB).some (by omega)
        obtain ⟨p, q, r, k0, k1, k2, f0, f1, f2⟩ := hcell k hlt
        have hsn := lonC_snoc cs k (by rw [HZ.out]; exact hlt)
        have HP := Lib.hid (Pos_lonF (cs.take k) (some 0) Pos_zero)
        have HSN := Lib.hid hsn
        have hk0 : (0 : Int) ≤ (k : Int) := by omega
        have hk1 : (k : Int) < (len : Int) := by omega
        have HB := Lib.hid hB
        have HF := Lib.hid hF
        clear hcell hB hF hsn
        go_wp2_with fail
        refine (impl_LongOf _ _ _ _ _ _ _ f0 f1 f2).mono ?_
        rintro e w1 ⟨g, rfl, fg, hB1⟩
        have HB2 := Lib.hid ((below_new HB.out (Nat.le_refl _)).trans (hB1.mono (below_new HB.out (Nat.le_refl _)).size))
        have HG : RowKit.Hid (∀ w2, FV .f32 (mxR .f32 m g w2) (lonC (cs.take (k + 1)))) := Lib.hid (fun w2 => by rw [HSN.out]; exact FV_mx HF.out fg HP.out)
        clear hB1 k0 k1 k2
        go_wp2
        go_roundw
        case rel => exact ⟨k + 1, by omega, by go_num, ⟨_, rfl, HG.out _⟩, below_drewN HB2.out _⟩
        case measure => simp [intOf]; omega
      · obtain rfl : k = len := by omega
        have hF' : FV .f32 m (lonB k cs) := by unfold lonB; rw [if_pos HL.out]; rwa [List.take_of_length_le (by rw [HZ.out]; omega)] at hF
        have HB := Lib.hid hB
        have HF := Lib.hid hF'
        clear hB hF hF'
        go_wp2
        go_ret2
        exact ⟨m, by rw [decide_eq_true HL.out]; rfl, HF.out, HB.out⟩
  · have HL := Lib.hid hl
    go_enter Tryz.func56, Tryz.ntmps56
    go_wp2
    go_ret2
    exact ⟨0, by rw [decide_eq_false HL.out]; rfl, by unfold lonB; rw [if_neg HL.out]; exact FV_00, Below.refl _ _⟩
set_option maxHeartbeats 1000000 in
theorem l03Longest (a : Option Addr) (len cap : Nat) (cs : List C3) (w : World) (h : IsVs w a len cap cs) :
    Calls Tryz.prog 55 #[.slice a len cap] w fun e w' => ∃ r, e = .returned (.float .f32 r) ∧ FV .f32 r (lonC cs) ∧ Below w.heap.size w w' := by
  have uv := Tryz.underlying40
  have u := Tryz.underlying27
  have hm : len ≤ 9223372036854775807 := by have h1 := h.2.1; have h2 := h.2.2.1; unfold maxLen at h2; omega
  have hzl := h.1
  have H := Lib.hid h
  have HZ := Lib.hid hzl
  clear h hzl
  go_enter Tryz.func55, Tryz.ntmps55
  go_wp2
  go_loopw [3, 8] (fun m i w' => ∃ k : Nat, k ≤ len ∧ i = .int .i64 k ∧ (∃ r, m = .float .f32 r ∧ FV .f32 r (lonC (cs.take k)) ∧ lonC (cs.take k) = some r) ∧ Aside (Below w.heap.size w w')) (fun _ i _ => len - (intOf i).toNat)
  case atStart => exact ⟨0, Nat.zero_le _, rfl, ⟨0, rfl, FV_00, rfl⟩, Below.refl _ _⟩
  case round =>
    obtain ⟨k, hk, rfl, ⟨m, rfl, hF, hN⟩, hA⟩ := hrel
    have hB := hA.out
    clear hA
    by_cases hlt : k < len
    · obtain ⟨b, o, rfl, hcell⟩ := (H.out.below hB).some (by omega)
      obtain ⟨p, q, r, k0, k1, k2, f0, f1, f2⟩ := hcell k hlt
      have HSN := Lib.hid (lonC_snoc cs k (by rw [HZ.out]; exact hlt))
      have hk0 : (0 : Int) ≤ (k : Int) := by omega
      have hk1 : (k : Int) < (len : Int) := by omega
      have HB := Lib.hid hB
      have HF := Lib.hid (And.intro hF hN)
      clear hcell hB hF hN
      go_wp2_with fail
      refine (l01Long _ _ _ _ _ _ _ f0 f1 f2).mono ?_
      rintro e w1 ⟨g, rfl, fg, hB1⟩
      have HB2 := Lib.hid (HB.out.trans (hB1.mono HB.out.size))
      clear hB1 k0 k1 k2
      have hst := lon_step HF.out.1 fg HF.out.2
      rw [show rootC (fop .add .f32 (fop .add .f32 (fop .mul .f32 (cs.getD k c0).1 (cs.getD k c0).1) (fop .mul .f32 (cs.getD k c0).2.1 (cs.getD k c0).2.1)) (fop .mul .f32 (cs.getD k c0).2.2 (cs.getD k c0).2.2)) = longC (cs.getD k c0) from rfl, ← HSN.out] at hst
      rcases hst with ⟨c1, hf, hs, c2⟩ | ⟨c1, c2, hf, hs⟩ | ⟨c1, c2, hf, hs, c3⟩
      · have HS := Lib.hid (And.intro hf hs)
        clear hf hs
        go_wp2
        go_roundw
        case rel => exact ⟨k + 1, by omega, by go_num, ⟨g, rfl, HS.out.1, HS.out.2⟩, HB2.out⟩
        case measure => simp [intOf]; omega
      · have HS := Lib.hid (And.intro hf (lonC_stop cs (k + 1) hs))
        clear hf hs
        go_wp2
        go_ret
        exact ⟨g, rfl, by rw [HS.out.2]; exact HS.out.1, HB2.out⟩
      · have HS := Lib.hid (And.intro hf hs)
        clear hf hs
        go_wp2
        go_roundw
        case rel => exact ⟨k + 1, by omega, by go_num, ⟨m, rfl, HS.out.1, HS.out.2⟩, HB2.out⟩
        case measure => simp [intOf]; omega
    · obtain rfl : k = len := by omega
      have hF' : FV .f32 m (lonC cs) := by rwa [List.take_of_length_le (by rw [HZ.out]; omega)] at hF
      have HB := Lib.hid hB
      have HF := Lib.hid hF'
      clear hB hF hF' hN
      go_wp2
      go_ret
      exact ⟨m, rfl, HF.out, HB.out⟩
end Go.Proofs.YtcgnmnbjgamedabGreat

/-
Which springs and which bodies are valid: what the program and its model return. Conditions: none.
-/
namespace Go.Proofs.YtcgnmnbjgamedabGreat
open Go Fk Go.RowKit
set_option linter.unusedVariables false
set_option maxRecDepth 8000

/-- At least 0. -/
def geB (c : Option Nat) : Bool := ford .f32 c (some 0) == some .gt || ford .f32 c (some 0) == some .eq
def springB (n : Nat) (s : SC) : Bool := inB n s.1 && inB n s.2.1 && decide (s.1 ≠ s.2.1) && geB s.2.2.1
def bodyB (c : Bc) : Bool := validB c.cs c.ts && decide (c.ss.length ≤ 200) && decide (c.zs.length = c.cs.length) && c.ss.all (springB c.cs.length)
theorem geB_order {p : Nat} {c : Option Nat} (h : FV .f32 p c) : (FloatKind.f32.format.order p 0 == some .gt || FloatKind.f32.format.order p 0 == some .eq) = geB c := by
  rw [ford_of h FV_00]; rfl
theorem impl_isBetween (a b : Int) (x y n : Nat) (c d : Option Nat) (w : World) (hx : FV .f32 x c) :
    Calls Tryz.prog 92 #[sv a b x y, .int .i64 n] w fun e w' => e = .returned (.bool (springB n (a, b, c, d))) ∧ Below w.heap.size w w' := by
  have us := Tryz.underlying116
  have u := Tryz.underlying27
  have ui := Tryz.underlying2
  have hg := geB_order hx
  show Calls _ _ _ w fun e w' => e = .returned (.bool (inB n a && inB n b && decide (a ≠ b) && geB c)) ∧ Below w.heap.size w w'
  have J0 := Lib.hid (fun w => impl_isIndex a n w)
  have J1 := Lib.hid (fun w => impl_isIndex b n w)
  generalize geB c = g at *
  generalize inB n a = i0 at *
  generalize inB n b = i1 at *
  have B0 := Lib.hid ((Below.refl w.heap.size w).alloc (Nat.le_refl _) (.cells #[.int .i64 a, .int .i64 b, .float .f32 x, .float .f32 y] 116))
  clear hx
  cases i0
  · go_enter Tryz.func92, Tryz.ntmps92
    go_wp2_with fail
    refine (J0.out _).mono ?_
    rintro e w1 ⟨rfl, hw1⟩
    rw [hw1]; clear hw1 w1
    go_wp2
    go_ret
    exact ⟨rfl, B0.out⟩
  · cases i1
    · go_enter Tryz.func92, Tryz.ntmps92
      go_wp2_with fail
      refine (J0.out _).mono ?_
      rintro e w1 ⟨rfl, hw1⟩
      rw [hw1]; clear hw1 w1
      go_wp2_with fail
      refine (J1.out _).mono ?_
      rintro e w1 ⟨rfl, hw1⟩
      rw [hw1]; clear hw1 w1
      go_wp2
      go_ret
      exact ⟨rfl, B0.out⟩
    · by_cases hab : a = b
      · have hd : decide (a ≠ b) = false := decide_eq_false (fun h => h hab)
        rw [hd]
        clear hd
        subst hab
        go_enter Tryz.func92, Tryz.ntmps92
        go_wp2_with fail
        refine (J0.out _).mono ?_
        rintro e w1 ⟨rfl, hw1⟩
        rw [hw1]; clear hw1 w1
        go_wp2_with fail
        refine (J1.out _).mono ?_
        rintro e w1 ⟨rfl, hw1⟩
        rw [hw1]; clear hw1 w1
        go_wp2
        go_ret
        exact ⟨rfl, B0.out⟩
      · have hd : decide (a ≠ b) = true := decide_eq_true hab
        have hq : (a == b) = false := beq_eq_false_iff_ne.2 hab
        rw [hd]
        clear hd
        cases g
        all_goals
          go_enter Tryz.func92, Tryz.ntmps92
          go_wp2_with fail
          refine (J0.out _).mono ?_
          rintro e w1 ⟨rfl, hw1⟩
          rw [hw1]; clear hw1 w1
          go_wp2_with fail
          refine (J1.out _).mono ?_
          rintro e w1 ⟨rfl, hw1⟩
          rw [hw1]; clear hw1 w1
          go_wp2
          go_ret
          exact ⟨ret_bool (by simp [hg, hab]), B0.out⟩
set_option maxHeartbeats 8000000 in
theorem l03Spring (b o : Nat) (u v : Int) (p n : Nat) (c d : Option Nat) (w : World) (c0 : w.cell? ⟨b, o, none⟩ = some (.int .i64 u)) (c1 : w.cell? ⟨b, o + 1, none⟩ = some (.int .i64 v)) (c2 : w.cell? ⟨b, o + 2, none⟩ = some (.float .f32 p)) (hp : FV .f32 p c) (hn : (n : Int) ≤ 9223372036854775807) :
    Calls Tryz.prog 77 #[.pointer (some ⟨b, o, none⟩), .int .i64 n] w fun e w' => e = .returned (.bool (springB n (u, v, c, d))) ∧ ∃ m, w' = w.drewN m := by
  have us := Tryz.underlying116
  have uf := Tryz.underlying27
  have ui := Tryz.underlying2
  have hg := geB_order hp
  have e1 : IntKind.i64.wrap ((n : Int) - 1) = (n : Int) - 1 := IntWalk.i64_in _ (by omega)
  show Calls _ _ _ w fun e w' => e = .returned (.bool (inB n u && inB n v && decide (u ≠ v) && geB c)) ∧ ∃ m, w' = w.drewN m
  have J0 := Lib.hid (fun w => (l00In u n w).mono (R' := fun e w' => e = .returned (.bool (inB n u)) ∧ ∃ m, w' = w.drewN m) (fun _ _ h => ⟨h.1, 0, h.2⟩))
  have J1 := Lib.hid (fun w => (l00In v n w).mono (R' := fun e w' => e = .returned (.bool (inB n v)) ∧ ∃ m, w' = w.drewN m) (fun _ _ h => ⟨h.1, 0, h.2⟩))
  generalize geB c = g at *
  generalize inB n u = i0 at *
  generalize inB n v = i1 at *
  clear hp hn
  by_cases huv : u = v
  · have hd : decide (u ≠ v) = false := decide_eq_false (fun h => h huv)
    rw [hd]
    clear hd
    subst huv
    cases i0 <;> cases i1
    all_goals
      go_enter Tryz.func77, Tryz.ntmps77
      go_wp2_with fail
      go_quiet ((go_at_call 57; first | with_reducible exact Calls.quiet_of (J0.out _) | with_reducible exact Calls.quiet_of (J1.out _)))
      go_wp2
      go_ret
      exact ⟨ret_bool (by simp), _, rfl⟩
  · have hd : decide (u ≠ v) = true := decide_eq_true huv
    have hq : (u == v) = false := beq_eq_false_iff_ne.2 huv
    rw [hd]
    clear hd
    cases i0 <;> cases i1 <;> cases g
    all_goals
      go_enter Tryz.func77, Tryz.ntmps77
      go_wp2_with fail
      go_quiet ((go_at_call 57; first | with_reducible exact Calls.quiet_of (J0.out _) | with_reducible exact Calls.quiet_of (J1.out _)))
      go_wp2
      go_ret
      exact ⟨ret_bool (by simp [hg, huv]), _, rfl⟩
end Go.Proofs.YtcgnmnbjgamedabGreat

/-
Normals of triangles: what the program and its model return. Conditions: the mesh is valid and has the triangle.
-/
namespace Go.Proofs.YtcgnmnbjgamedabGreat
open Go Fk Go.RowKit
set_option linter.unusedVariables false
set_option maxRecDepth 8000

def lessC (a b : C3) : C3 := (fop .sub .f32 a.1 b.1, fop .sub .f32 a.2.1 b.2.1, fop .sub .f32 a.2.2 b.2.2)
def crossC (a b : C3) : C3 := (fop .sub .f32 (fop .mul .f32 a.2.1 b.2.2) (fop .mul .f32 a.2.2 b.2.1), fop .sub .f32 (fop .mul .f32 a.2.2 b.1) (fop .mul .f32 a.1 b.2.2), fop .sub .f32 (fop .mul .f32 a.1 b.2.1) (fop .mul .f32 a.2.1 b.1))
def cornerC (cs : List C3) (t : List Int) (i : Nat) : C3 := cs.getD (t.getD i 0).toNat c0
def normalC (cs : List C3) (t : List Int) : C3 := crossC (lessC (cornerC cs t 1) (cornerC cs t 0)) (lessC (cornerC cs t 2) (cornerC cs t 0))
theorem tri_parts {n : Nat} {t : List Int} (h : triB n t = true) : t.length = 3 ∧ (∀ i, i < 3 → 0 ≤ t.getD i 0 ∧ (t.getD i 0).toNat < n) := by
  unfold triB at h
  simp only [Bool.and_eq_true, decide_eq_true_eq] at h
  obtain ⟨⟨h3, ⟨h0, h1⟩, h2⟩, _⟩ := h
  refine ⟨h3, fun i hi => ?_⟩
  have a0 := of_decide_eq_true h0
  have a1 := of_decide_eq_true h1
  have a2 := of_decide_eq_true h2
  have : i = 0 ∨ i = 1 ∨ i = 2 := by omega
  rcases this with rfl | rfl | rfl <;> omega
/-- A corner of a triangle of a valid mesh lies in memory. -/
theorem corner_cell {w : World} {pa : Option Addr} {pl pc : Nat} {cs : List C3} {t : List Int} (hp : IsVs w pa pl pc cs) (ht : triB pl t = true) : ∃ b o, pa = some ⟨b, o, none⟩ ∧ ∀ i, i < 3 → ∃ p q r, w.cell? ⟨b, o + (t.getD i 0).toNat * 3, none⟩ = some (.float .f32 p) ∧ w.cell? ⟨b, o + (t.getD i 0).toNat * 3 + 1, none⟩ = some (.float .f32 q) ∧ w.cell? ⟨b, o + (t.getD i 0).toNat * 3 + 2, none⟩ = some (.float .f32 r) ∧
    FV .f32 p (cornerC cs t i).1 ∧ FV .f32 q (cornerC cs t i).2.1 ∧ FV .f32 r (cornerC cs t i).2.2 := by
  obtain ⟨h3, hi⟩ := tri_parts ht
  obtain ⟨b, o, e, hc⟩ := hp.some (by have := (hi 0 (by decide)).2; omega)
  exact ⟨b, o, e, fun i hi' => hc _ (hi i hi').2⟩
/-- What one operation keeps that makes a box or fills one. -/
def Keep (B : Nat) (w1 w2 : World) : Prop := Below B w1 w2 ∧ w1.heap.size ≤ w2.heap.size ∧ (∀ n i, (∃ v, w1.cell? ⟨n, i, none⟩ = some v) → ∃ v, w2.cell? ⟨n, i, none⟩ = some v) ∧ (∀ n i, n < w1.heap.size → w2.frozen? ⟨n, i, none⟩ = w1.frozen? ⟨n, i, none⟩)
theorem Keep.refl (B : Nat) (w : World) : Keep B w w := ⟨Below.refl _ _, Nat.le_refl _, fun _ _ h => h, fun _ _ _ => rfl⟩
theorem Keep.alloc {B : Nat} {w : World} (hB : B ≤ w.heap.size) (o : Obj) : Keep B w (w.alloc o) :=
  ⟨(Below.refl _ _).alloc hB _, by simp, fun n i ⟨v, hv⟩ => ⟨v, cell_alloc hv⟩, fun n i hn => by
    have hb : Below w.heap.size w (w.alloc o) := (Below.refl _ _).alloc (Nat.le_refl _) _
    exact hb.frozen (p := ⟨n, i, none⟩) hn⟩
theorem Keep.set {B : Nat} {w : World} {n o : Nat} {u : Value} (hB : B ≤ n) : Keep B w (w.setCell ⟨n, o, none⟩ u) :=
  ⟨(Below.refl _ _).setCell hB _, by simp, fun m i ⟨v, hv⟩ => by
    by_cases h : (⟨n, o, none⟩ : Addr) = ⟨m, i, none⟩
    · rw [h]; exact ⟨u, World.cell?_setCell_same _ _ _ hv⟩
    · exact ⟨v, by rw [World.cell?_setCell_other _ _ _ _ h]; exact hv⟩, fun m i _ => by simp⟩
theorem Keep.trans {B : Nat} {w1 w2 w3 : World} (h : Keep B w1 w2) (h' : Keep B w2 w3) : Keep B w1 w3 :=
  ⟨h.1.trans h'.1, Nat.le_trans h.2.1 h'.2.1, fun n i hv => h'.2.2.1 n i (h.2.2.1 n i hv), fun n i hn => (h'.2.2.2 n i (Nat.lt_of_lt_of_le hn h.2.1)).trans (h.2.2.2 n i hn)⟩
/-- A box of three cells that can be written. -/
def Box (B n : Nat) (w : World) : Prop := B ≤ n ∧ n < w.heap.size ∧ (∃ u0 u1 u2, w.cell? ⟨n, 0, none⟩ = some u0 ∧ w.cell? ⟨n, 1, none⟩ = some u1 ∧ w.cell? ⟨n, 2, none⟩ = some u2) ∧ (w.frozen? ⟨n, 0, none⟩ = false ∧ w.frozen? ⟨n, 1, none⟩ = false ∧ w.frozen? ⟨n, 2, none⟩ = false)
theorem Box.keep {B n : Nat} {w1 w2 : World} (h : Box B n w1) (k : Keep B w1 w2) : Box B n w2 := by
  obtain ⟨h1, h2, ⟨u0, u1, u2, e0, e1, e2⟩, f0, f1, f2⟩ := h
  obtain ⟨k1, k2, k3, k4⟩ := k
  obtain ⟨v0, e0⟩ := k3 n 0 ⟨_, e0⟩
  obtain ⟨v1, e1⟩ := k3 n 1 ⟨_, e1⟩
  obtain ⟨v2, e2⟩ := k3 n 2 ⟨_, e2⟩
  exact ⟨h1, Nat.lt_of_lt_of_le h2 k2, ⟨v0, v1, v2, e0, e1, e2⟩, by rw [k4 n 0 h2]; exact f0, by rw [k4 n 1 h2]; exact f1, by rw [k4 n 2 h2]; exact f2⟩
end Go.Proofs.YtcgnmnbjgamedabGreat

/-
A region whose order is open, with a store that need not come last: what the store leaves is kept by all that comes behind it. Conditions: no operation is guarded, every edge leads to an earlier operation, no slot is written twice.
-/
namespace Go.Proofs.YtcgnmnbjgamedabGreat
namespace Reg2
open Go Reg
set_option linter.unusedVariables false
section
variable {P : Program} {ops : Array Oper} {Q : Exit → Act → World → Prop} {md : Region.Mode}
def tidy (ops : Array Oper) (n : Nat) : Bool :=
  low ops && (ops.all fun o => o.guard.isNone) && (ops.all fun o => (o.dst.map fun d => decide (d < n)).getD true) &&
  ((List.range ops.size).all fun i => (List.range ops.size).all fun j => i == j || slotOf ops i == none || slotOf ops i != slotOf ops j)
/-- What is known of the world behind an operation without a slot. -/
def HasT (ops : Array Oper) (T : Nat → World → Prop) (j : Nat) (w : World) : Prop := slotOf ops j = none → j < ops.size → T j w
/-- What is asked of operation i. -/
def Obl (P : Program) (ops : Array Oper) (a0 : Act) (C : World → Prop) (G : World → World → Prop) (R : Nat → Value → World → Prop) (T : Nat → World → Prop) (Q : Exit → Act → World → Prop) (i : Nat) (o : Oper) : Prop :=
  ∀ a w, C w → (∀ t, ((List.range ops.size).all fun j => slotOf ops j != some t || behind ops i j) = true → a.eval (.tmp t) = a0.eval (.tmp t)) →
    (∀ j, behind ops j i = true → Has ops R j a w) →
    o.wp P a w (fun a' w' => ∃ v, a' = a.put o.dst v ∧ (o.dst ≠ none → R i v w') ∧ (o.dst = none → T i w') ∧ C w' ∧ G w w') Q
def OblAll (P : Program) (ops : Array Oper) (a0 : Act) (C : World → Prop) (G : World → World → Prop) (R : Nat → Value → World → Prop) (T : Nat → World → Prop) (Q : Exit → Act → World → Prop) : Nat → List Oper → Prop
  | _, [] => True
  | i, o :: l => Obl P ops a0 C G R T Q i o ∧ OblAll P ops a0 C G R T Q (i + 1) l
theorem OblAll.get {a0 : Act} {C : World → Prop} {G : World → World → Prop} {R : Nat → Value → World → Prop} {T : Nat → World → Prop} :
    ∀ {l : List Oper} {k : Nat}, OblAll P ops a0 C G R T Q k l → ∀ {i : Nat} {o : Oper}, l[i]? = some o → Obl P ops a0 C G R T Q (k + i) o
  | [], _, _, _, _, h => by simp at h
  | _ :: _, _, h, 0, _, ho => by simp at ho; subst ho; exact h.1
  | _ :: l, k, h, i + 1, _, ho => by
    have := OblAll.get h.2 (i := i) (by simpa using ho)
    rwa [Nat.add_assoc, Nat.add_comm 1 i] at this

theorem Obl.mk {a0 : Act} {C : World → Prop} {G : World → World → Prop} {R : Nat → Value → World → Prop} {T : Nat → World → Prop} {i : Nat} {o : Oper}
    (h : ∀ a w, C w → (∀ t, ((List.range ops.size).all fun j => slotOf ops j != some t || behind ops i j) = true → a.eval (.tmp t) = a0.eval (.tmp t)) →
      (∀ j, behind ops j i = true → Has ops R j a w) → ∀ K : Act → World → Prop, (∀ v w', (o.dst ≠ none → R i v w') → (o.dst = none → T i w') → C w' → G w w' → K (a.put o.dst v) w') → o.wp P a w K Q) : Obl P ops a0 C G R T Q i o :=
  fun a w hC he hd => h a w hC he hd _ fun v w' h1 h2 h3 h4 => ⟨v, rfl, h1, h2, h3, h4⟩

theorem wp_region_inv {id : Nat} {a0 : Act} {w0 : World} {C : World → Prop} {G : World → World → Prop} {R : Nat → Value → World → Prop} {T : Nat → World → Prop} (hm : P.follows .mixedOrders = true) (ht : tidy ops a0.tmps.size = true)
    (hG : ∀ j v w w', C w → G w w' → R j v w → R j v w') (hGT : ∀ j w w', C w → G w w' → T j w → T j w') (hC : C { w0 with drawn := w0.drawn + 1 })
    (hO : OblAll P ops a0 C G R T Q 0 ops.toList)
    (hQ : ∀ a w, C w → a.defers = a0.defers → a.tmps.size = a0.tmps.size → (∀ t, (ops.all fun o => o.dst != some t) = true → a.eval (.tmp t) = a0.eval (.tmp t)) → (∀ j, j < ops.size → Has ops R j a w) → (∀ j, HasT ops T j w) → Q .normal a w) :
    (Code.region id ops true).wp P Q a0 w0 := by
  unfold tidy at ht
  simp only [Bool.and_eq_true] at ht
  obtain ⟨⟨⟨hlow, hgd⟩, hbd⟩, hdis⟩ := ht
  have slot_lt : ∀ {j d}, slotOf ops j = some d → j < ops.size := fun {j d} h => by
    unfold slotOf at h
    cases ho : ops[j]? with
    | none => rw [ho] at h; cases h
    | some o => exact (Array.getElem?_eq_some_iff.1 ho).1
  have slot_bd : ∀ {j d}, slotOf ops j = some d → d < a0.tmps.size := fun {j d} h => by
    have hj := slot_lt h
    have := Array.all_eq_true.1 hbd j hj
    unfold slotOf at h
    rw [Array.getElem?_eq_getElem hj] at h
    simp only [Option.bind_some] at h
    rw [h] at this
    simpa using this
  have slot_ne : ∀ {i j d}, slotOf ops i = some d → slotOf ops j = some d → i = j := fun {i j d} h1 h2 => by
    have a1 := slot_lt h1
    have a2 := slot_lt h2
    have := List.all_eq_true.1 (List.all_eq_true.1 hdis i (List.mem_range.2 a1)) j (List.mem_range.2 a2)
    rw [h1, h2] at this
    simpa using this
  let Inv : Array Bool → Act → World → Prop := fun listed a w => C w ∧ a.defers = a0.defers ∧ a.tmps.size = a0.tmps.size ∧
    (∀ t, (∀ j, slotOf ops j = some t → listed.getD j false = false) → a.eval (.tmp t) = a0.eval (.tmp t)) ∧
    (∀ j, listed.getD j false = true → Has ops R j a w) ∧ (∀ i j, listed.getD j false = true → behind ops i j = true → listed.getD i false = true) ∧ (∀ j, listed.getD j false = true → HasT ops T j w)
  refine wp_region_any hm (wpAny_inv (Inv := Inv) hlow ?_ ?_ _ _ _ _ (by simp) (by simp) ⟨hC, rfl, rfl, fun _ _ => rfl, ?_, ?_, ?_⟩)
  · intro i listed a w hs hi ⟨hCw, hd, hsz, hext, hhas, hcl, hT⟩
    obtain ⟨hun, o, ho, hdeps⟩ := mem_ready.1 hi
    have hilt : i < ops.size := (Array.getElem?_eq_some_iff.1 ho).1
    have hun' : listed.getD i false = false := by
      have : i < listed.size := by omega
      simp [this] at hun ⊢; exact hun
    have hg : o.guard = none := by
      have := Array.all_eq_true.1 hgd i hilt
      rw [Array.getElem?_eq_getElem hilt] at ho
      cases ho
      simpa using this
    have hob := OblAll.get hO (i := i) (o := o) (by simpa using ho)
    rw [Nat.zero_add] at hob
    have hwp := hob a w hCw (fun t htt => hext t fun j hj => by
        have := List.all_eq_true.1 htt j (List.mem_range.2 (slot_lt hj))
        rw [hj] at this
        simp at this
        cases hl : listed.getD j false
        · rfl
        · have := hcl i j hl this; rw [hun'] at this; cases this)
      (fun j hj => hhas j (by
        obtain ⟨e, he, h1, h2⟩ := behind_spec hj ho
        rw [← h1]
        exact hdeps e he h2))
    unfold wpOp
    rw [ho]
    simp only [Region.wanted, hg, if_true]
    refine .inl (Oper.wp_mono ?_ hwp)
    rintro a' w' ⟨v, rfl, hR, hTi, hC', hGw⟩
    have hdst : slotOf ops i = o.dst := by unfold slotOf; rw [ho]; rfl
    have keep : ∀ t, o.dst ≠ some t → (a.put o.dst v).eval (.tmp t) = a.eval (.tmp t) := fun t h => Act.eval_put (fun d hd he => h (by rw [hd]; cases he; rfl))
    have lst : ∀ j, (listed.setIfInBounds i true).getD j false = true → j = i ∨ listed.getD j false = true := fun j h => by
      by_cases hji : i = j
      · exact .inl hji.symm
      · rw [getD_set_ne false hji] at h; exact .inr h
    refine ⟨hC', ?_, ?_, ?_, ?_, ?_, ?_⟩
    · rw [← hd]; unfold Act.put; split <;> rfl
    · rw [← hsz]; unfold Act.put; split <;> simp
    · intro t htt
      rw [keep t (fun h => by
        have := htt i (by rw [hdst]; exact h)
        have hlt : i < listed.size := by omega
        simp [hlt] at this)]
      refine hext t fun j hj => ?_
      have := htt j hj
      cases hl : listed.getD j false
      · rfl
      · rw [getD_set_true hl] at this; cases this
    · intro j hj d hjd
      rcases lst j hj with rfl | hj'
      · rw [hdst] at hjd
        have hb := slot_bd (j := j) (by rw [hdst]; exact hjd)
        have : (a.put o.dst v).eval (.tmp d) = v := by
          unfold Act.put Act.eval; rw [hjd]; simp; exact fun h => absurd (Nat.lt_of_lt_of_le hb (hsz ▸ h)) (Nat.lt_irrefl _)
        rw [this]; exact hR (by rw [hjd]; simp)
      · rw [keep d (fun h => by
          have := slot_ne (show slotOf ops i = some d by rw [hdst]; exact h) hjd
          subst this; rw [hun'] at hj'; cases hj')]
        exact hG _ _ _ _ hCw hGw (hhas j hj' d hjd)
    · intro i' j hj hb
      rcases lst j hj with rfl | hj'
      · refine getD_set_true ?_
        obtain ⟨e, he, h1, h2⟩ := behind_spec hb ho
        rw [← h1]; exact hdeps e he h2
      · exact getD_set_true (hcl i' j hj' hb)
    · intro j hj hn hlt
      rcases lst j hj with rfl | hj'
      · rw [hdst] at hn
        exact hTi hn
      · exact hGT _ _ _ hCw hGw (hT j hj' hn hlt)
  · intro listed a w hall ⟨hCw, hd, hsz, hext, hhas, _, hT⟩
    refine hQ a w hCw hd hsz (fun t htt => hext t fun j hj => ?_) (fun j hj => hhas j (hall j hj)) (fun j hn hlt => hT j (hall j hlt) hn hlt)
    exfalso
    have hlt := slot_lt hj
    have := Array.all_eq_true.1 htt j hlt
    unfold slotOf at hj
    rw [Array.getElem?_eq_getElem hlt] at hj
    simp only [Option.bind_some] at hj
    rw [hj] at this
    simp at this
  · intro j hj
    simp at hj
    rw [Array.getElem?_replicate] at hj; split at hj <;> simp at hj
  · intro i j hj
    simp at hj
    rw [Array.getElem?_replicate] at hj; split at hj <;> simp at hj
  · intro j hj
    simp at hj
    rw [Array.getElem?_replicate] at hj; split at hj <;> simp at hj

theorem wp_region_mix {id : Nat} {a0 : Act} {w0 : World} {C : World → Prop} {G : World → World → Prop} {R : Nat → Value → World → Prop} {T : Nat → World → Prop} (m : List Bool) (hm : P.follows .mixedOrders = true) (ht : tidy ops a0.tmps.size = true)
    (hk : maskOk ops m a0.tmps.size = true)
    (hG : ∀ j v w w', C w → G w w' → R j v w → R j v w') (hGT : ∀ j w w', C w → G w w' → T j w → T j w') (hC : C { w0 with drawn := w0.drawn + 1 })
    (hO : OblAll P ops a0 C G R T Q 0 ops.toList)
    (hQ : ∀ (f : Nat → Value) w, C w → (∀ j d, slotOf ops j = some d → R j (f d) w) → (∀ j, HasT ops T j w) → Q .normal ⟨(mixL f m 0 a0.tmps.toList).toArray, a0.defers⟩ w) :
    (Code.region id ops true).wp P Q a0 w0 := by
  refine wp_region_inv hm ht hG hGT hC hO fun a w hCw hd hsz hext hhas hT => ?_
  unfold maskOk at hk
  simp only [Bool.and_eq_true, beq_iff_eq] at hk
  obtain ⟨hml, hmk⟩ := hk
  have e : a = ⟨(mixL (fun t => a.eval (.tmp t)) m 0 a0.tmps.toList).toArray, a0.defers⟩ := by
    rw [mixL_eq _ _ _ _ (by simpa using hml) ?_]
    · cases a with
      | mk tmps defers =>
        simp only [Act.mk.injEq]
        refine ⟨?_, hd⟩
        apply Array.ext'
        apply List.ext_getElem?
        intro i
        simp only at hsz
        by_cases hi : i < tmps.size
        · have hi' : i < a0.tmps.size := by omega
          simp [hi, hi', Act.eval]
        · have hi' : ¬ i < a0.tmps.size := by omega
          simp [hi, hi']
    · intro i hi
      have hlt : i < a0.tmps.size := by
        have := (List.getElem?_eq_some_iff.1 hi).1; omega
      have h1 := List.all_eq_true.1 hmk i (List.mem_range.2 hlt)
      have h2 : m.getD i false = false := by simp [List.getD, hi]
      rw [h2, Bool.false_or] at h1
      have h3 := hext i h1
      rw [Nat.zero_add, h3]
      simp [Act.eval, hlt]
  have h1 : ∀ j d, slotOf ops j = some d → R j ((fun t => a.eval (.tmp t)) d) w := fun j d hj => hhas j (by
    unfold slotOf at hj
    cases ho : ops[j]? with
    | none => rw [ho] at hj; cases hj
    | some o => exact (Array.getElem?_eq_some_iff.1 ho).1) d hj
  rw [e]
  exact hQ (fun t => a.eval (.tmp t)) w hCw h1 hT
end
end Reg2
end Go.Proofs.YtcgnmnbjgamedabGreat

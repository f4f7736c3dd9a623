/-
Texts in one: what NormVectors stands on, part 1. Conditions: those of each.
-/
import Derived.Test.YtkdoibglgkcbkaaKNormVectors0
import Derived.Test.YtkdoibglgkcbkaaChecked
import Derived.Outline
import Derived.Lib.Hide
import Derived.Laws.Externs
import Derived.Below
import Derived.Deep.RegionHeld3
import Derived.Deep.Matrix
import Derived.LoopTactic
import Derived.IntWalk
import Derived.Laws.MakeOwn
import Derived.Orders
import Derived.BigFrame
import Derived.Deep.Draws
import Derived.Deep.LoopGhost
import Derived.Deep.QuietTactic
import Derived.BigQuiet
-- halved
namespace Go.Proofs.Ytkdoibglgkcbkaa
open Go Fk
set_option linter.unusedVariables false
abbrev nan32 (x : Nat) : Bool := (FloatKind.f32.decode x).isNaN
abbrev nan64 (x : Nat) : Bool := (FloatKind.f64.decode x).isNaN
theorem ne_self (k : FloatKind) (x : Nat) : (k.format.order x x != some .eq) = (k.decode x).isNaN := by
 cases h : (k.decode x).isNaN
 ·rw [order_self h]; rfl
 ·rw [order_nan (.inl h)]; rfl
theorem wR_nan (x : Nat) (w : World) : (FloatKind.f64.decode (wR x w)).isNaN = (FloatKind.f32.decode x).isNaN := by
 unfold wR
 cases h : (FloatKind.f32.decode x).isNaN
 ·rw [if_neg (by simp)]; exact wid_nan h
 ·rw [if_pos rfl]; exact (cutConv_nan .f64 x _).2
theorem ret_bool {a b : Bool} (h : a = b) : Ending.returned (.bool a) = .returned (.bool b) := by rw [h]
theorem math_IsNaN (x : Nat) (w : World) :
  Calls Try.prog 184 #[.float .f64 x] w fun e w' => e = .returned (.bool (nan64 x)) ∧ w' = w := by
 have u := Try.underlying26
 go_enter Try.func184, Try.ntmps184
 go_wp2
 go_ret
 exact ⟨ret_bool (ne_self .f64 x), rfl⟩
theorem impl_isNaN (x : Nat) (w : World) :
  Calls Try.prog 160 #[.float .f32 x] w fun e w' => e = .returned (.bool (nan32 x)) ∧ ∃ n, w' = w.drewN n := by
 have u := Try.underlying26
 have u' := Try.underlying22
 go_enter Try.func160, Try.ntmps160
 go_wp2_with (go_at_call 184; refine (math_IsNaN _ _).mono ?_; rintro e w' ⟨rfl, rfl⟩)
 go_ret
 exact ⟨ret_bool (wR_nan x w), _, rfl⟩
@[go_sem] theorem ext_Float64bits (x : Nat) (w : World) : (callFunc 174 #[.float .f64 x]).run Try.prog w = .ok (.value (.int .u64 x)) w :=
 (run_callFunc_extern (e := Extern.MathFloatBits.float64bits) Try.func174 (by kernel_rfl) (by kernel_rfl) (by kernel_rfl) (by kernel_rfl) _ _).trans rfl
@[go_sem] theorem ext_Float64frombits (n : Int) (w : World) : (callFunc 173 #[.int .u64 n]).run Try.prog w = .ok (.value (.float .f64 n.toNat)) w :=
 (run_callFunc_extern (e := Extern.MathFloatBits.float64frombits) Try.func173 (by kernel_rfl) (by kernel_rfl) (by kernel_rfl) (by kernel_rfl) _ _).trans rfl
theorem dec32 (x : Nat) : FloatKind.f32.decode x = if x % 2147483648 < 8388608 then .number (x / 2147483648 % 2 == 1) (x % 2147483648) (-149)
  else if x % 2147483648 < 2139095040 then .number (x / 2147483648 % 2 == 1) (8388608 + x % 2147483648 % 8388608) (-149 + (x % 2147483648 / 8388608 - 1 : Nat))
  else if x % 2147483648 = 2139095040 then .infinity (x / 2147483648 % 2 == 1) else .nan (x / 2147483648 % 2 == 1) (x % 2147483648 - 2139095040) := rfl
def finB (x : Nat) : Bool := decide (x % 2147483648 < 2139095040)
theorem dec32_fin {x : Nat} (h : x % 2147483648 < 2139095040) : ∃ m p, FloatKind.f32.decode x = .number (x / 2147483648 % 2 == 1) m p := by
 rw [dec32]
 split
 ·exact ⟨_, _, rfl⟩
 ·exact ⟨_, _, rfl⟩
theorem dec32_inf {x : Nat} (h : x % 2147483648 = 2139095040) : FloatKind.f32.decode x = .infinity (x / 2147483648 % 2 == 1) := by
 rw [dec32, if_neg (by omega), if_neg (by omega), if_pos h]
theorem dec32_nan {x : Nat} (h : 2139095040 < x % 2147483648) : ∃ s t, FloatKind.f32.decode x = .nan s t := by
 rw [dec32, if_neg (by omega), if_neg (by omega), if_neg (by omega)]; exact ⟨_, _, rfl⟩
theorem nan32_iff (x : Nat) : nan32 x = decide (2139095040 < x % 2147483648) := by
 rw [show nan32 x = (FloatKind.f32.decode x).isNaN from rfl, isNaN_decode]; rfl
theorem write_zero (k : FloatKind) (s : Bool) (p : Int) : k.format.write (.number s 0 p) = if s then k.format.signWeight else 0 := by
 show k.format.nearest s 0 p = _
 unfold Ieee.Format.nearest Ieee.Format.word
 simp
theorem sub_self32 (x : Nat) : floatBits .sub .f32 x x = if finB x = true then some 0 else none := by
 show ((FloatKind.f32.decode x).sum (FloatKind.f32.decode x).opposite).map FloatKind.f32.format.write = _
 unfold finB
 rcases Nat.lt_trichotomy (x % 2147483648) 2139095040 with h | h | h
 ·obtain ⟨m, p, e⟩ := dec32_fin h
  rw [e, if_pos (by simpa using h)]
  generalize (x / 2147483648 % 2 == 1) = s
  have : Ieee.signed s m (p - min p p).toNat + Ieee.signed (!s) m (p - min p p).toNat = 0 := by
   unfold Ieee.signed; cases s <;> simp <;> omega
  simp only [Ieee.Datum.opposite, Ieee.Datum.sum, this, if_true, Option.map_some]
  rw [show (s && !s) = false by cases s <;> rfl]
  rw [show (0 : Int).natAbs = 0 from rfl, write_zero]; rfl
 ·rw [dec32_inf h, if_neg (by simp; omega)]
  cases (x / 2147483648 % 2 == 1) <;> rfl
 ·obtain ⟨s, t, e⟩ := dec32_nan h
  rw [e, if_neg (by simp; omega)]; rfl
theorem l01Finite (x : Nat) (w : World) (hx : x < 4294967296) :
  Calls Try.prog 83 #[.float .f32 x] w fun e w' => e = .returned (.bool (finB x)) ∧ ∃ n, w' = w.drewN n := by
 have hs := sub_self32 x
 have hv : FV .f32 (fR .sub .f32 x x w) (fop .sub .f32 (cls .f32 x) (cls .f32 x)) := FV_fR (FV.self hx) (FV.self hx)
 have hv0 : FV .f32 0 (some 0) := ⟨by decide, by decide⟩
 have ho := ford_of hv hv0
 have h00 : FloatKind.f32.format.order 0 0 = some .eq := by decide
 have hgoal : (FloatKind.f32.format.order (fR .sub .f32 x x w) 0 == some .eq) = finB x := by
  rw [ho]
  cases hf : finB x
  ·rw [hf] at hs
   have : fop .sub .f32 (cls .f32 x) (cls .f32 x) = none := by
    unfold cls
    split
    ·rfl
    ·exact hs
   rw [this]; rfl
  ·rw [hf] at hs
   have hn : (FloatKind.f32.decode x).isNaN = false := (floatBits_ok (r := 0) (by rw [hs]; rfl)).1
   have : fop .sub .f32 (cls .f32 x) (cls .f32 x) = some 0 := by rw [cls_num hn]; exact hs
   rw [this]; exact (congrArg (· == some Ordering.eq) h00)
 clear hs hv hv0 ho h00
 have H := Lib.hid hgoal
 clear hgoal
 go_enter Try.func83, Try.ntmps83
 go_wp2
 go_ret
 exact ⟨ret_bool H.out, _, rfl⟩
theorem math_Abs (x : Nat) (w : World) (hx : x < 18446744073709551616) :
  Calls Try.prog 115 #[.float .f64 x] w fun e w' => e = .returned (.float .f64 (x % 9223372036854775808)) ∧ w' = w := by
 have u := Try.underlying26
 go_enter Try.func115, Try.ntmps115
 go_wp2
 go_ret
 refine ⟨?_, rfl⟩
 have e : bits .andNot .u64 (x : Int) ((9223372036854775808 : Nat) : Int) = ((x % 9223372036854775808 : Nat) : Int) := by
  rw [u64_andNot_nat x 9223372036854775808 hx (by decide)]
  rw [show (18446744073709551615 - 9223372036854775808 : Nat) = 2 ^ 63 - 1 by decide, Nat.and_two_pow_sub_one_eq_mod]
 show Ending.returned (Value.float FloatKind.f64 (bits .andNot .u64 (x : Int) ((9223372036854775808 : Nat) : Int)).toNat) = _
 rw [e, Int.toNat_natCast]
theorem quo_one (x : Nat) (hn : (FloatKind.f64.decode x).isNaN = false) : ∃ r, floatBits .quo .f64 4607182418800017408 x = some r := by
 show ∃ r, ((FloatKind.f64.decode 4607182418800017408).quotient _ (FloatKind.f64.decode x)).map FloatKind.f64.format.write = some r
 have e : FloatKind.f64.decode 4607182418800017408 = .number false 4503599627370496 (-52) := by decide
 rw [e]
 cases hd : FloatKind.f64.decode x with
 | nan s t => rw [hd] at hn; simp [Ieee.Datum.isNaN] at hn
 | infinity s => exact ⟨_, rfl⟩
 | number s m p =>
  by_cases hm : m = 0
  ·subst hm; exact ⟨_, rfl⟩
  ·simp only [Ieee.Datum.quotient, if_neg hm]; exact ⟨_, rfl⟩
theorem laws_sameFloat (a b : Nat) (c : Option Nat) (w : World) (ha : FV .f64 a c) (hb : FV .f64 b c) :
  Calls Try.prog 15 #[.float .f64 a, .float .f64 b] w fun e w' => e = .returned (.bool true) ∧ ∃ n, w' = w.drewN n := by
 have u := Try.underlying26
 cases c with
 | none =>
  have h1 : FloatKind.f64.format.order a a = none := order_nan (.inl ha.nan)
  have h2 : FloatKind.f64.format.order b b = none := order_nan (.inl hb.nan)
  clear ha hb
  go_enter Try.func15, Try.ntmps15
  go_wp2
  go_ret
  exact ⟨rfl, 0, rfl⟩
 | some x =>
  obtain rfl := ha.num
  obtain rfl := hb.num
  have h1 : FloatKind.f64.format.order b b = some .eq := order_self ha.notnan
  obtain ⟨r, hr⟩ := quo_one b ha.notnan
  have h2 : ∀ w, fR .quo .f64 4607182418800017408 b w = r := fun w => by unfold fR; rw [hr]
  clear ha hb hr
  cases h0 : (FloatKind.f64.format.order b 0 == some .eq)
  all_goals
   go_enter Try.func15, Try.ntmps15
   go_wp2
   go_ret
   first | exact ⟨rfl, 0, rfl⟩ | exact ⟨rfl, _, rfl⟩ | exact ⟨ret_bool (by simp), _, rfl⟩
theorem max64 : FloatKind.f64.decode 9218868437227405311 = .number false 9007199254740991 971 := by decide
theorem gt_max (x : Nat) (hx : x < 18446744073709551616) : (FloatKind.f64.format.order x 9218868437227405311 == some .gt) = decide (x = 9218868437227405312) := by
 have e3 : 2 ^ FloatKind.f64.format.width = 18446744073709551616 := by decide
 have nm : (FloatKind.f64.decode 9218868437227405311).isNaN = false := by rw [max64]; rfl
 cases hn : (FloatKind.f64.decode x).isNaN
 ·rw [order_key (by rw [e3]; exact hx) (by rw [e3]; decide) hn nm]
  have hn' := hn
  rw [isNaN_decode] at hn'
  have e1 : FloatKind.f64.format.infRung = 9218868437227405312 := by decide
  have e2 : FloatKind.f64.format.signWeight = 9223372036854775808 := by decide
  rw [e1, e2] at hn'
  have hn'' : ¬ 9218868437227405312 < x % 9223372036854775808 := by simpa using hn'
  have k1 : key .f64 9218868437227405311 = 9218868437227405311 := by decide
  have k2 : key .f64 x = if x < 9223372036854775808 then (x : Int) else 9223372036854775808 - x := by unfold key; rw [e2]; rfl
  rw [k1]
  by_cases h : x = 9218868437227405312
  ·rw [decide_eq_true h]
   have : key .f64 x > 9218868437227405311 := by rw [k2, if_pos (by omega)]; omega
   rw [Int.compare_eq_gt.2 this]; rfl
  ·rw [decide_eq_false h]
   have : ¬ key .f64 x > 9218868437227405311 := by rw [k2]; split <;> omega
   cases hc : compare (key .f64 x) 9218868437227405311
   ·rfl
   ·rfl
   ·exact absurd (Int.compare_eq_gt.1 hc) this
 ·rw [order_nan (.inl hn)]
  by_cases h : x = 9218868437227405312
  ·subst h; rw [isNaN_decode] at hn; exact absurd hn (by decide)
  ·rw [decide_eq_false h]; rfl
theorem math_IsInf0 (x : Nat) (w : World) (hx : x < 18446744073709551616) :
  Calls Try.prog 162 #[.float .f64 x, .int .i64 0] w fun e w' => e = .returned (.bool (decide (x % 9223372036854775808 = 9218868437227405312))) ∧ w' = w := by
 have u := Try.underlying26
 have h := gt_max (x % 9223372036854775808) (by omega)
 have H := Lib.hid h
 clear h
 go_enter Try.func162, Try.ntmps162
 go_wp2_with (go_at_call 115; refine (math_Abs _ _ (by assumption)).mono ?_; rintro e w' ⟨rfl, rfl⟩)
 go_ret
 exact ⟨ret_bool H.out, rfl⟩
theorem wid_cases {x : Nat} (hx : x < 4294967296) (hn : nan32 x = false) :
  (x % 2147483648 = 2139095040 ∧ wid x = (if x < 2147483648 then 0 else 9223372036854775808) + 9218868437227405312) ∨
  (x % 2147483648 < 2139095040 ∧ ∃ r, r < 5188146770730811392 ∧ wid x = (if x < 2147483648 then 0 else 9223372036854775808) + r) := by
 rw [nan32_iff] at hn
 have hn' : ¬ 2139095040 < x % 2147483648 := by simpa using hn
 have hs : (x / 2147483648 % 2 == 1) = decide (¬ x < 2147483648) := by
  by_cases h : x < 2147483648
  ·rw [Nat.div_eq_of_lt h]; simp [h]
  ·have h1 : x / 2147483648 = 1 := by omega
   rw [h1]; simp [h]
 have e2 : Ieee.double.signWeight = 9223372036854775808 := by decide
 by_cases h : x % 2147483648 = 2139095040
 ·refine .inl ⟨h, ?_⟩
  have e1 : Ieee.double.infRung = 9218868437227405312 := by decide
  unfold wid
  rw [dec32_inf h, hs]
  show Ieee.double.word _ Ieee.double.infRung = _
  unfold Ieee.Format.word
  rw [e1, e2]
  by_cases h2 : x < 2147483648 <;> simp [h2]
 ·refine .inr ⟨by omega, ?_⟩
  obtain ⟨m, p, e⟩ := dec32_fin (x := x) (by omega)
  obtain ⟨r, he, hr⟩ := wid_word x _ m p e
  refine ⟨r, hr, ?_⟩
  rw [he, hs]
  unfold Ieee.Format.word
  rw [e2]
  by_cases h2 : x < 2147483648 <;> simp [h2]
theorem wR_lt {x : Nat} (w : World) (hx : x < 4294967296) : wR x w < 18446744073709551616 := (FV_wR (FV.self (k := .f32) hx)).1
theorem wR_num {x : Nat} (w : World) (hn : nan32 x = false) : wR x w = wid x := by unfold wR; rw [if_neg (by simp [hn])]
theorem inf0 {x : Nat} (w : World) (hx : x < 4294967296) (hn : nan32 x = false) : decide (wR x w % 9223372036854775808 = 9218868437227405312) = !finB x := by
 rw [wR_num w hn]
 unfold finB
 rcases wid_cases hx hn with ⟨h1, h2⟩ | ⟨h1, r, hr, h2⟩
 ·rw [h2, decide_eq_true (by split <;> omega), decide_eq_false (by omega)]; rfl
 ·rw [h2, decide_eq_false (by split <;> omega), decide_eq_true h1]; rfl
theorem impl_IsFinite (x : Nat) (w : World) (hx : x < 4294967296) :
  Calls Try.prog 94 #[.float .f32 x] w fun e w' => e = .returned (.bool (finB x)) ∧ ∃ n, w' = w.drewN n := by
 have u := Try.underlying26
 have u' := Try.underlying22
 have hlt := fun w => wR_lt (x := x) w hx
 cases hn : nan32 x
 ·have h0 := fun w => inf0 (x := x) w hx hn
  go_enter Try.func94, Try.ntmps94
  go_wp2_with (first
   | (go_at_call 160; refine (impl_isNaN _ _).mono ?_; rintro e w' ⟨rfl, n, rfl⟩)
   | (go_at_call 162; refine (math_IsInf0 _ _ (hlt _)).mono ?_; rintro e w' ⟨rfl, rfl⟩))
  go_ret
  exact ⟨ret_bool (by simp), _, rfl⟩
 ·have hf : finB x = false := by
   rw [nan32_iff] at hn; unfold finB; simp at hn ⊢; omega
  have H := Lib.hid hf
  clear hf
  go_enter Try.func94, Try.ntmps94
  go_wp2_with (first
   | (go_at_call 160; refine (impl_isNaN _ _).mono ?_; rintro e w' ⟨rfl, n, rfl⟩))
  go_ret
  exact ⟨ret_bool H.out.symm, _, rfl⟩
end Go.Proofs.Ytkdoibglgkcbkaa
namespace Go.Proofs.Ytkdoibglgkcbkaa
open Go Fk Go.RowKit
set_option linter.unusedVariables false
def rootC (c : Option Nat) : Option Nat := (fsq (c.map wid)).map nar
@[go_sem] theorem ext_sqrt (x : Nat) (w : World) : (callFunc 176 #[.float .f64 x]).run Try.prog w = .ok (.value (.float .f64 (sR x w))) (w.drewN (sN x)) := by
 rw [run_callFunc_extern (e := Extern.MathSqrt.sqrt) Try.func176 (by kernel_rfl) (by kernel_rfl) (by kernel_rfl) (by kernel_rfl), run_sqrt]; rfl
theorem math_Sqrt (x : Nat) (w : World) :
  Calls Try.prog 127 #[.float .f64 x] w fun e w' => e = .returned (.float .f64 (sR x w)) ∧ ∃ n, w' = w.drewN n := by
 go_enter Try.func127, Try.ntmps127
 go_wp2
 go_ret
 exact ⟨rfl, _, rfl⟩
theorem impl_Narrow (y : Nat) (w : World) :
  Calls Try.prog 114 #[.float .f64 y] w fun e w' => e = .returned (.float .f32 (nR y w)) ∧ ∃ n, w' = w.drewN n := by
 have u := Try.underlying26
 have u' := Try.underlying22
 go_enter Try.func114, Try.ntmps114
 go_wp2
 go_ret
 exact ⟨rfl, _, rfl⟩
theorem spec_Narrow (y : Nat) (w : World) :
  Calls Try.prog 126 #[.float .f64 y] w fun e w' => e = .returned (.float .f32 (nR y w)) ∧ ∃ n, w' = w.drewN n := by
 have u := Try.underlying26
 have u' := Try.underlying22
 go_enter Try.func126, Try.ntmps126
 go_wp2
 go_ret
 exact ⟨rfl, _, rfl⟩
theorem FV_root {x : Nat} {c : Option Nat} {w w' w'' : World} (h : FV .f32 x c) : FV .f32 (nR (sR (wR x w) w') w'') (rootC c) :=
 FV_nR (FV_sR (FV_wR h)) (ovf_sR h.1)
theorem impl_RootNumber (x : Nat) (c : Option Nat) (w : World) (h : FV .f32 x c) :
  Calls Try.prog 53 #[.float .f32 x] w fun e w' => ∃ r, e = .returned (.float .f32 r) ∧ FV .f32 r (rootC c) ∧ ∃ n, w' = w.drewN n := by
 have u := Try.underlying26
 have u' := Try.underlying22
 go_enter Try.func53, Try.ntmps53
 go_wp2_with (first
  | (go_at_call 127; refine (math_Sqrt _ _).mono ?_; rintro e w' ⟨rfl, n, rfl⟩)
  | (go_at_call 114; refine (impl_Narrow _ _).mono ?_; rintro e w' ⟨rfl, n, rfl⟩))
 go_ret
 exact ⟨_, rfl, FV_root h, _, rfl⟩
theorem l01Sqrt (x : Nat) (c : Option Nat) (w : World) (h : FV .f32 x c) :
  Calls Try.prog 51 #[.float .f32 x] w fun e w' => ∃ r, e = .returned (.float .f32 r) ∧ FV .f32 r (rootC c) ∧ ∃ n, w' = w.drewN n := by
 have u := Try.underlying26
 have u' := Try.underlying22
 go_enter Try.func51, Try.ntmps51
 go_wp2_with (first
  | (go_at_call 127; refine (math_Sqrt _ _).mono ?_; rintro e w' ⟨rfl, n, rfl⟩)
  | (go_at_call 126; refine (spec_Narrow _ _).mono ?_; rintro e w' ⟨rfl, n, rfl⟩))
 go_ret
 exact ⟨_, rfl, FV_root h, _, rfl⟩
end Go.Proofs.Ytkdoibglgkcbkaa
namespace Go.Proofs.Ytkdoibglgkcbkaa
open Go
section
variable (P : Program) (w : World) (a : Addr) (m : Mode)
@[go_sem] theorem run_store_float (k : FloatKind) (b : Nat) : (store a (.float k b) m).run P w = stored P w a (.float k b) m := run_store P w a _ m rfl
@[go_sem] theorem alloc_drewN (n : Nat) (o : Obj) : (w.drewN n).alloc o = (w.alloc o).drewN n := rfl
@[go_sem] theorem setCell_drewN (n : Nat) (v : Value) : (w.drewN n).setCell a v = (w.setCell a v).drewN n := rfl
end
end Go.Proofs.Ytkdoibglgkcbkaa
namespace Go.Proofs.Ytkdoibglgkcbkaa
open Go Fk Go.RowKit
set_option linter.unusedVariables false
abbrev vv (x y z : Nat) : Value := .agg #[.float .f32 x, .float .f32 y, .float .f32 z]
theorem new0 {w : World} {u v t : Value} {T : TypeId} : (w.alloc (.cells #[u, v, t] T)).cell? ⟨w.heap.size, 0, none⟩ = some u := by simp
theorem new1 {w : World} {u v t : Value} {T : TypeId} : (w.alloc (.cells #[u, v, t] T)).cell? ⟨w.heap.size, 1, none⟩ = some v := by simp
theorem new2 {w : World} {u v t : Value} {T : TypeId} : (w.alloc (.cells #[u, v, t] T)).cell? ⟨w.heap.size, 2, none⟩ = some t := by simp
theorem newf {w : World} {u v t : Value} {T : TypeId} {i : Nat} : (w.alloc (.cells #[u, v, t] T)).frozen? ⟨w.heap.size, i, none⟩ = false := by simp
theorem frozen_below {W w : World} {b i : Nat} (hb : Below W.heap.size W w) (h : b < W.heap.size) (hf : W.frozen? ⟨b, i, none⟩ = false) : w.frozen? ⟨b, i, none⟩ = false := by
 rw [hb.frozen (p := ⟨b, i, none⟩) h]; exact hf
theorem cell_set {w : World} {a : Addr} {u v : Value} {b i : Nat} (hne : a.block ≠ b) (hc : w.cell? ⟨b, i, none⟩ = some v) : (w.setCell a u).cell? ⟨b, i, none⟩ = some v := by
 rw [World.cell?_setCell_far (h := hne)]; exact hc
theorem cell_below {W w : World} {b i : Nat} {v : Value} (hb : Below W.heap.size W w) (hc : W.cell? ⟨b, i, none⟩ = some v) : w.cell? ⟨b, i, none⟩ = some v := by
 have h : b < W.heap.size := World.block_lt_of_cell? W _ hc
 rw [hb.cell (p := ⟨b, i, none⟩) h]; exact hc
theorem laws_toVector (x y z : Nat) (w : World) :
  Calls Try.prog 55 #[vv x y z] w fun en w' => en = .returned (vv x y z) ∧ Below w.heap.size w w' := by
 have u := Try.underlying22
 have uv := Try.underlying67
 go_enter Try.func55, Try.ntmps55
 go_wp2
 refine bodyPost_ret (v := vv x y z) (by simp [results, Try.results55, go_sem]) rfl ⟨rfl, ?_⟩
 exact (((Below.refl _ _).alloc (Nat.le_refl _) _).alloc (by simp) _).alloc (by simp; omega) _
theorem laws_eqVector (x y z x' y' z' : Nat) (w : World) (c d e : Option Nat) (h1 : FV .f32 x c) (h2 : FV .f32 y d) (h3 : FV .f32 z e) (h1' : FV .f32 x' c) (h2' : FV .f32 y' d) (h3' : FV .f32 z' e) :
  Calls Try.prog 59 #[vv x y z, vv x' y' z'] w fun en w' => en = .returned (.bool true) ∧ Below w.heap.size w w' := by
 have u := Try.underlying22
 have u' := Try.underlying26
 have uv := Try.underlying67
 go_enter Try.func59, Try.ntmps59
 go_wp2_with (go_at_call 15; refine (laws_sameFloat _ _ _ _ (FV_wR (by assumption)) (FV_wR (by assumption))).mono ?_; rintro en w' ⟨rfl, n1, rfl⟩)
 go_ret
 exact ⟨rfl, below_drewN (((Below.refl _ _).alloc (Nat.le_refl _) _).alloc (by simp) _) _⟩
end Go.Proofs.Ytkdoibglgkcbkaa
namespace Go.Proofs.Ytkdoibglgkcbkaa
open Go Fk Go.RowKit
set_option linter.unusedVariables false
set_option maxRecDepth 8000
def sizeB (x : Nat) : Bool := finB x && (FloatKind.f32.format.order x 0 == some .gt)
def finC (c : Option Nat) : Bool := match c with | none => false | some x => finB x
def sizeC (c : Option Nat) : Bool := match c with | none => false | some x => sizeB x
theorem Fk.FV.fin {x : Nat} {c : Option Nat} (h : FV .f32 x c) : finB x = finC c := by
 cases c with
 | none =>
  have := h.nan
  have h2 : nan32 x = true := this
  rw [nan32_iff, decide_eq_true_eq] at h2
  show finB x = false
  unfold finB
  exact decide_eq_false (by omega)
 | some y => rw [h.num]; rfl
theorem Fk.FV.size {x : Nat} {c : Option Nat} (h : FV .f32 x c) : sizeB x = sizeC c := by
 cases c with
 | none =>
  show sizeB x = false
  unfold sizeB
  rw [Fk.FV.fin h]; rfl
 | some y => rw [h.num]; rfl
theorem impl_isMeasure (x : Nat) (w : World) (hx : x < 4294967296) :
  Calls Try.prog 52 #[.float .f32 x] w fun e w' => e = .returned (.bool (sizeB x)) ∧ ∃ n, w' = w.drewN n := by
 have u := Try.underlying22
 unfold sizeB
 have HJ := Lib.hid (fun w => impl_IsFinite x w hx)
 generalize finB x = f at *
 cases f
 ·go_enter Try.func52, Try.ntmps52
  go_wp2_with (go_at_call 94; refine (HJ.out _).mono ?_; rintro e w1 ⟨rfl, n, hw⟩; rw [hw]; clear hw w1)
  go_ret
  exact ⟨rfl, _, rfl⟩
 ·go_enter Try.func52, Try.ntmps52
  go_wp2_with (go_at_call 94; refine (HJ.out _).mono ?_; rintro e w1 ⟨rfl, n, hw⟩; rw [hw]; clear hw w1)
  go_ret
  exact ⟨rfl, _, rfl⟩
end Go.Proofs.Ytkdoibglgkcbkaa
namespace Go.Proofs.Ytkdoibglgkcbkaa
open Go Fk
set_option linter.unusedVariables false
theorem rootFrom_ge (n : Nat) : ∀ (todo root : Nat), root ≤ Ieee.Datum.rootFrom n todo root
 | 0, root => by simp [Ieee.Datum.rootFrom]
 | todo + 1, root => by
  unfold Ieee.Datum.rootFrom
  dsimp only
  split
  ·exact Nat.le_trans (Nat.le_add_right _ _) (rootFrom_ge n todo _)
  ·exact rootFrom_ge n todo root
theorem rootFrom_top (n t : Nat) (h : 2 ^ t * 2 ^ t ≤ n) : 2 ^ t ≤ Ieee.Datum.rootFrom n (t + 1) 0 := by
 unfold Ieee.Datum.rootFrom
 dsimp only
 have hs : (0 + 1 <<< t) = 2 ^ t := by rw [Nat.shiftLeft_eq, Nat.one_mul, Nat.zero_add]
 rw [hs, if_pos h]
 exact rootFrom_ge n t _
theorem root_low (d m : Nat) (i : Int) (hm : m ≠ 0) (hb : -149 ≤ i + m.log2) : ∃ m' i', (Ieee.Datum.number false m i).root d = some (.number false m' i') ∧ m' ≠ 0 ∧ -75 ≤ i' + m'.log2 := by
 simp only [Ieee.Datum.root, if_neg hm, Bool.false_eq_true, if_false]
 refine ⟨_, _, rfl, ?_⟩
 generalize hmore : (2 * d - m.log2) + ((i - ((2 * d - m.log2 : Nat) : Int)) % 2).toNat = more
 have hev : (i - (more : Int)) % 2 = 0 := by omega
 generalize hn : m <<< more = n
 have hn1 : 2 ^ (m.log2 + more) ≤ n := by
  rw [← hn, Nat.shiftLeft_eq, Nat.pow_add]
  exact Nat.mul_le_mul_right _ (Nat.log2_self_le hm)
 have hn0 : n ≠ 0 := by have := Nat.two_pow_pos (m.log2 + more); omega
 have hl : m.log2 + more ≤ n.log2 := (Nat.le_log2 hn0).2 hn1
 have hsq : 2 ^ (n.log2 / 2) * 2 ^ (n.log2 / 2) ≤ n := by
  rw [← Nat.pow_add]
  exact Nat.le_trans (Nat.pow_le_pow_right (by decide) (by omega)) (Nat.log2_self_le hn0)
 have hw := rootFrom_top n (n.log2 / 2) hsq
 generalize Ieee.Datum.rootFrom n (n.log2 / 2 + 1) 0 = whole at hw ⊢
 generalize (whole * whole != n).toNat = b
 have hp := Nat.two_pow_pos (n.log2 / 2)
 have hz : 2 * whole + b ≠ 0 := by omega
 have hL : n.log2 / 2 + 1 ≤ (2 * whole + b).log2 := (Nat.le_log2 hz).2 (by rw [Nat.pow_succ]; omega)
 exact ⟨hz, by omega⟩
theorem low_qr {m : Nat} {p e : Int} (h : m ≠ 0) (hb : e ≤ p + m.log2) : Qr 1 e m p := by
 have hl := Nat.log2_self_le h
 by_cases hp : p ≤ e
 ·rw [Qr_iff (c := p) hp (by omega), show (p - p).toNat = 0 by omega, Nat.pow_zero, Nat.mul_one, Nat.one_mul]
  exact Nat.le_trans (Nat.pow_le_pow_right (by decide) (by omega)) hl
 ·rw [Qr_iff (c := e) (by omega) (by omega), show (e - e).toNat = 0 by omega, Nat.pow_zero, Nat.mul_one]
  exact Nat.mul_pos (Nat.pos_of_ne_zero h) (Nat.two_pow_pos _)
theorem qr_low {m : Nat} {p e : Int} (h : Qr 1 e m p) : m ≠ 0 ∧ e ≤ p + m.log2 := by
 have h0 : m ≠ 0 := by
  rintro rfl
  unfold Qr at h
  rw [Nat.zero_mul, Nat.one_mul] at h
  have := Nat.two_pow_pos (e - p).toNat
  omega
 refine ⟨h0, ?_⟩
 by_cases hp : p ≤ e
 ·rw [Qr_iff (c := p) hp (by omega), show (p - p).toNat = 0 by omega, Nat.pow_zero, Nat.mul_one, Nat.one_mul] at h
  have := (Nat.le_log2 h0).2 h
  omega
 ·omega
theorem qr_up {m : Nat} {p : Int} {e : Int} (h : Qr m p 1 e) (h0 : m ≠ 0) : p + m.log2 ≤ e := by
 by_cases hp : p ≤ e
 ·rw [Qr_iff (c := p) (by omega) hp, show (p - p).toNat = 0 by omega, Nat.pow_zero, Nat.mul_one, Nat.one_mul] at h
  have : m < 2 ^ ((e - p).toNat + 1) := Nat.lt_of_le_of_lt h (Nat.pow_lt_pow_right (by decide) (by omega))
  have := (Nat.log2_lt h0).2 this
  omega
 ·exfalso
  rw [Qr_iff (c := e) (by omega) (by omega), show (e - e).toNat = 0 by omega, Nat.pow_zero, Nat.mul_one] at h
  have : 2 ^ 1 ≤ 2 ^ (p - e).toNat := Nat.pow_le_pow_right (by decide) (by omega)
  have := Nat.mul_le_mul (Nat.pos_of_ne_zero h0) this
  omega
theorem NB.qlc {x : Nat} {e : Int} (h : NB .f64 x e) : QLC .f64 (some x) 1 e := by
 obtain ⟨m, p, h1, h2⟩ := h
 refine ⟨x, rfl, false, m, p, h1, ?_⟩
 by_cases h0 : m = 0
 ·rw [h0]; exact Qr.zero
 ·have hb := h2 h0
  rw [Qr_iff (c := p) (by omega) (by omega), show (p - p).toNat = 0 by omega, Nat.pow_zero, Nat.mul_one, Nat.one_mul]
  have : m < 2 ^ (m.log2 + 1) := Nat.lt_log2_self
  exact Nat.le_of_lt (Nat.lt_of_lt_of_le this (Nat.pow_le_pow_right (by decide) (by omega)))
theorem key32' (x : Nat) : key .f32 x = if x < 2147483648 then (x : Int) else 2147483648 - x := by
 have e2 : FloatKind.f32.format.signWeight = 2147483648 := by decide
 unfold key; rw [e2]; rfl
theorem ord0' {x : Nat} (hx : x < 4294967296) (hn : nan32 x = false) : FloatKind.f32.format.order x 0 = some (compare (key .f32 x) 0) := by
 rw [order_key (k := .f32) (show x < 2 ^ FloatKind.f32.format.width from hx) (by decide) hn (by decide)]; rfl
theorem ord0_lt' {x : Nat} (hx : x < 4294967296) (hn : nan32 x = false) (h : 2147483648 < x) : FloatKind.f32.format.order x 0 = some .lt := by
 rw [ord0' hx hn, Int.compare_eq_lt.2 (by rw [key32']; split <;> omega)]
theorem sz_lt {v : Nat} (hlt : v < 4294967296) (hs : sizeB v = true) : v < 2139095040 ∧ v ≠ 0 := by
 have h0 : v ≠ 0 := by rintro rfl; exact absurd hs (by decide)
 unfold sizeB at hs
 simp only [Bool.and_eq_true] at hs
 have hf := hs.1
 unfold finB at hf
 have hf2 := of_decide_eq_true hf
 have hn : nan32 v = false := by rw [nan32_iff]; exact decide_eq_false (by omega)
 refine ⟨?_, h0⟩
 rcases Nat.lt_or_ge v 2147483648 with h | h
 ·omega
 ·exfalso
  have h2 := hs.2
  by_cases h0 : v = 2147483648
  ·subst h0; exact absurd h2 (by decide)
  ·rw [ord0_lt' hlt hn (by omega)] at h2
   cases h2
theorem word_ngc {x : Nat} (h : x < 2139095040) (h0 : x ≠ 0) : NGC .f32 (some x) 1 (-149) ∧ QLE .f32 x 1 128 := by
 have hs : (x / 2147483648 % 2 == 1) = false := by rw [Nat.div_eq_of_lt (by omega)]; rfl
 have hm : x % 2147483648 = x := Nat.mod_eq_of_lt (by omega)
 by_cases h1 : x < 8388608
 ·have hd : FloatKind.f32.decode x = .number false x (-149) := by rw [dec32, hm, if_pos h1, hs]
  refine ⟨⟨x, x, -149, rfl, hd, low_qr h0 (by omega)⟩, false, x, -149, hd, ?_⟩
  rw [Qr_iff (c := -149) (by omega) (by omega)]
  have : (8388608 : Nat) ≤ 2 ^ ((128 : Int) - -149).toNat := by
   rw [show (8388608 : Nat) = 2 ^ 23 by decide]
   exact Nat.pow_le_pow_right (by decide) (by omega)
  rw [show ((-149 : Int) - -149).toNat = 0 by omega, Nat.pow_zero, Nat.mul_one, Nat.one_mul]
  omega
 ·have hd : FloatKind.f32.decode x = .number false (8388608 + x % 8388608) (-149 + (x / 8388608 - 1 : Nat)) := by rw [dec32, hm, if_neg h1, if_pos h, hs]
  have hq : x / 8388608 < 255 := by omega
  have hq1 : 1 ≤ x / 8388608 := by omega
  generalize x / 8388608 = q at *
  have hr : x % 8388608 < 8388608 := Nat.mod_lt _ (by decide)
  generalize x % 8388608 = r at *
  refine ⟨⟨x, _, _, rfl, hd, low_qr (by omega) (by omega)⟩, false, _, _, hd, ?_⟩
  rw [Qr_iff (c := -149 + ((q - 1 : Nat) : Int)) (by omega) (by omega), show (-149 + ((q - 1 : Nat) : Int) - (-149 + ((q - 1 : Nat) : Int))).toNat = 0 by omega, Nat.pow_zero, Nat.mul_one, Nat.one_mul]
  have : (16777216 : Nat) ≤ 2 ^ ((128 : Int) - (-149 + ((q - 1 : Nat) : Int))).toNat := by
   rw [show (16777216 : Nat) = 2 ^ 24 by decide]
   exact Nat.pow_le_pow_right (by decide) (by omega)
  omega
theorem qone : QLC .f32 (some 1065353216) 1 0 := ⟨_, rfl, false, 8388608, -23, by decide, by decide⟩
theorem share_ok {x : Nat} (hx : x < 4294967296) (hs : sizeB x = true) : ∃ b m p, fop .quo .f32 (some 1065353216) (rootC (some x)) = some b ∧ b < 2139095040 ∧ FloatKind.f32.decode b = .number false m p := by
 obtain ⟨h1, h0⟩ := sz_lt hx hs
 obtain ⟨hn, hq⟩ := word_ngc h1 h0
 have hq64 := QLE_wid hq (by decide) (by decide) (by decide)
 obtain ⟨y, m, p, hy, hd, hl⟩ := NGC_wid hn hq64 (by decide) (by decide)
 cases hy
 obtain ⟨m0, hlow⟩ := qr_low hl
 have hnb : NB .f64 (wid x) 129 := ⟨m, p, hd, fun _ => by
  obtain ⟨s, m', p', hd', hu⟩ := hq64
  rw [hd] at hd'
  cases hd'
  have := qr_up hu m0
  omega⟩
 obtain ⟨r, hr, hb⟩ := NB_root hnb
 have hqr : QLC .f64 (fsq (some (wid x))) 1 68 := by rw [hr]; exact NB.qlc hb
 obtain ⟨m', i', hroot, hm', hi'⟩ := root_low (FloatKind.f64.format.fractionBits + 2) m p m0 hlow
 have hsq : fsq (some (wid x)) = some (FloatKind.f64.format.write (.number false m' i')) := by
  show FloatKind.f64.format.sqrt (wid x) = _
  unfold Ieee.Format.sqrt
  have : FloatKind.f64.format.read (wid x) = .number false m p := hd
  rw [this, hroot]; rfl
 have hng := ngc_of hsq hqr (low_qr hm' hi') (by decide) (by decide) okl64
 have hqn : QLC .f32 (rootC (some x)) 1 68 := QLC_nar hqr (by decide) (ok32' (by decide) (by decide))
 have hnn : NGC .f32 (rootC (some x)) 1 (-75) := NGC_nar hng hqn (by decide) (by decide)
 obtain ⟨z, mz, pz, hz, hdz, hlz⟩ := hnn
 obtain ⟨z0, hlowz⟩ := qr_low hlz
 have hquo : QLC .f32 (fop .quo .f32 (some 1065353216) (rootC (some x))) 1 75 := QLC_quo (e := 0) (e' := -75) qone ⟨z, false, mz, pz, hz, hdz, z0, hlowz⟩ (by decide) (ok32' (by decide) (by decide))
 have hpos : ∀ b, fop .quo .f32 (some 1065353216) (rootC (some x)) = some b → b < FloatKind.f32.format.signWeight := by
  intro b hb
  rw [hz] at hb
  have hr' : ((FloatKind.f32.decode 1065353216).quotient (FloatKind.f32.format.fractionBits + 2) (FloatKind.f32.decode z)).map FloatKind.f32.format.write = some b := hb
  have d1 : FloatKind.f32.decode 1065353216 = .number false 8388608 (-23) := by decide
  rw [d1, hdz] at hr'
  simp only [Ieee.Datum.quotient, if_neg z0] at hr'
  obtain ⟨d, hd', rfl⟩ := Option.map_eq_some_iff.1 hr'
  cases hd'
  exact write_pos .f32 _ (by rfl) (by rfl)
 obtain ⟨b, hb, s, mb, pb, hdb, _⟩ := hquo
 have hb31 := hpos b hb
 have hbs : b < 2147483648 := hb31
 have hlt : b < 2139095040 := by
  rcases Nat.lt_or_ge b 2139095040 with h | h
  ·exact h
  ·exfalso
   rw [dec32, Nat.mod_eq_of_lt hbs, if_neg (by omega), if_neg (by omega)] at hdb
   split at hdb <;> cases hdb
 refine ⟨b, mb, pb, hb, hlt, ?_⟩
 obtain ⟨m2, p2, h2⟩ := dec32_fin (x := b) (by rw [Nat.mod_eq_of_lt hbs]; exact hlt)
 rw [hdb] at h2
 cases h2
 rw [hdb, Nat.div_eq_of_lt hbs]
 rfl
end Go.Proofs.Ytkdoibglgkcbkaa
namespace Go.Proofs.Ytkdoibglgkcbkaa
namespace Fk
open Go Go.RowKit
set_option linter.unusedVariables false
abbrev C3 := Option Nat × Option Nat × Option Nat
abbrev c0 : C3 := (none, none, none)
def IsVs (w : World) (a : Option Addr) (len cap : Nat) (cs : List C3) : Prop :=
 cs.length = len ∧ len ≤ cap ∧ cap ≤ maxLen ∧ (a = none → len = 0 ∧ cap = 0) ∧
 (∀ x, a = some x → ∀ i, i < len → ∃ p q r, w.cell? (x.add (i * 3)) = some (.float .f32 p) ∧ w.cell? (x.add (i * 3 + 1)) = some (.float .f32 q) ∧ w.cell? (x.add (i * 3 + 2)) = some (.float .f32 r) ∧
  FV .f32 p (cs.getD i c0).1 ∧ FV .f32 q (cs.getD i c0).2.1 ∧ FV .f32 r (cs.getD i c0).2.2)
section
open Go.ChangeShapes Go.WideShapes Go.Deep
variable {H : Type} {enc : TypeId × Value → H} {P : Program} {w : World} {base : Nat} {held : Bool}
theorem cells?_three {b : Nat} {a : Addr} {cs : List Value} (h : w.cells? b a 3 = some cs) : ∃ u v t, cs = [u, v, t] ∧ w.cell? a = some u ∧ w.cell? (a.add 1) = some v ∧ w.cell? (a.add 2) = some t := by
 obtain ⟨_, hl, hc⟩ := World.cells?_some h
 match cs, hl with
 | [u, v, t], _ =>
  have k0 := hc 0 (by omega)
  have k1 := hc 1 (by omega)
  have k2 := hc 2 (by omega)
  have z : a.add 0 = a := by unfold Addr.add; rfl
  rw [z] at k0
  exact ⟨u, v, t, rfl, k0, k1, k2⟩
theorem trod_vecs {t e : TypeId} {f0 f1 f2 : Field} {fuel : Nat} {cs : List Value} {x : DataW H × List MemPlace} (ht : P.underlying t = some (.slice e)) (hs : P.underlying e = some (.struct #[f0, f1, f2])) (hone : oneCellFields P #[f0, f1, f2] = true) (hC : P.cellsOf e = 3)
  (he0 : P.underlying f0.type = some (.float .f32)) (he1 : P.underlying f1.type = some (.float .f32)) (he2 : P.underlying f2.type = some (.float .f32))
  (h : DataW.trod enc P w base (fun _ => true) held fuel t cs = some x) : ∃ a len cap vs, cs = [.slice a len cap] ∧ IsVs w a len cap vs := by
 rcases open_slice ht h with ⟨hcs, hy⟩ | ⟨a, len, cap, m, n, D, Pl, hcs, hb, hl, hm, hmm, hx, hr⟩
 ·exact ⟨none, 0, 0, [], hcs, rfl, Nat.le_refl _, Nat.zero_le _, fun _ => ⟨rfl, rfl⟩, fun _ h => by cases h⟩
 ·simp only [if_true] at hmm
  rw [hC] at hr
  have each : ∀ i, i < len → ∃ p q r, w.cell? (a.add (i * 3)) = some (.float .f32 p) ∧ w.cell? (a.add (i * 3 + 1)) = some (.float .f32 q) ∧ w.cell? (a.add (i * 3 + 2)) = some (.float .f32 r) ∧
    p < 2 ^ FloatKind.f32.format.width ∧ q < 2 ^ FloatKind.f32.format.width ∧ r < 2 ^ FloatKind.f32.format.width := by
   intro i hi
   obtain ⟨cs', h1, h2⟩ := hr i (by omega)
   obtain ⟨u, v, t', rfl, k0, k1, k2⟩ := cells?_three h1
   obtain ⟨y0, y1, y2, n', hx', _, h0', h1', h2'⟩ := trod_struct3 hs h2
   obtain ⟨o0, q0⟩ := hone_of hone 0 f0 rfl
   obtain ⟨o1, q1⟩ := hone_of hone 1 f1 rfl
   obtain ⟨o2, q2⟩ := hone_of hone 2 f2 rfl
   obtain ⟨p, e0, w0⟩ := trod_float he0 h0'
   obtain ⟨q, e1, w1⟩ := trod_float he1 h1'
   obtain ⟨r, e2, w2⟩ := trod_float he2 h2'
   simp [o0, q0] at e0
   simp [o1, q1] at e1
   simp [o2, q2] at e2
   subst e0 e1 e2
   rw [Addr.add_add] at k1 k2
   exact ⟨p, q, r, k0, k1, k2, w0, w1, w2⟩
  let f : Nat → Nat := fun j => match w.cell? (a.add j) with | some (.float _ b) => b | _ => 0
  refine ⟨some a, len, cap, (List.range len).map fun i => (cls .f32 (f (i * 3)), cls .f32 (f (i * 3 + 1)), cls .f32 (f (i * 3 + 2))), hcs, by simp, hl, hm, (fun h => by cases h), fun y hy' i hi => ?_⟩
  cases hy'
  obtain ⟨p, q, r, k0, k1, k2, w0, w1, w2⟩ := each i hi
  have hg : ((List.range len).map fun i => (cls .f32 (f (i * 3)), cls .f32 (f (i * 3 + 1)), cls .f32 (f (i * 3 + 2)))).getD i c0 = (cls .f32 p, cls .f32 q, cls .f32 r) := by
   simp [List.getD, hi, f, k0, k1, k2]
  rw [hg]
  exact ⟨p, q, r, k0, k1, k2, FV.self w0, FV.self w1, FV.self w2⟩
end
theorem IsVs.below {W w : World} {a : Option Addr} {len cap : Nat} {cs : List C3} (hb : Below W.heap.size W w) (h : IsVs W a len cap cs) : IsVs w a len cap cs := by
 obtain ⟨h1, h2, h3, h5, h6⟩ := h
 refine ⟨h1, h2, h3, h5, fun x hx i hi => ?_⟩
 obtain ⟨p, q, r, k0, k1, k2, hv⟩ := h6 x hx i hi
 exact ⟨p, q, r, by rw [hb.cell (p := x.add (i * 3)) (World.block_lt_of_cell? W _ k0)]; exact k0, by rw [hb.cell (p := x.add (i * 3 + 1)) (World.block_lt_of_cell? W _ k1)]; exact k1,
  by rw [hb.cell (p := x.add (i * 3 + 2)) (World.block_lt_of_cell? W _ k2)]; exact k2, hv⟩
theorem addr_add' (b o i : Nat) : (⟨b, o, none⟩ : Addr).add i = ⟨b, o + i, none⟩ := by
 unfold Addr.add
 split
 ·rename_i h; subst h; rfl
 ·rfl
theorem IsVs.some {w : World} {a : Option Addr} {len cap : Nat} {cs : List C3} (h : IsVs w a len cap cs) (hl : 0 < len) :
  ∃ b o, a = .some ⟨b, o, none⟩ ∧ ∀ i, i < len → ∃ p q r, w.cell? ⟨b, o + i * 3, none⟩ = .some (.float .f32 p) ∧ w.cell? ⟨b, o + i * 3 + 1, none⟩ = .some (.float .f32 q) ∧ w.cell? ⟨b, o + i * 3 + 2, none⟩ = .some (.float .f32 r) ∧
   FV .f32 p (cs.getD i c0).1 ∧ FV .f32 q (cs.getD i c0).2.1 ∧ FV .f32 r (cs.getD i c0).2.2 := by
 obtain ⟨h1, h2, h3, h5, h6⟩ := h
 cases a with
 | none => have := (h5 rfl).1; omega
 | some x =>
  obtain ⟨b, o, spot⟩ := x
  obtain ⟨_, _, _, hc, _⟩ := h6 _ rfl 0 hl
  have hspot : spot = none := by simpa [Addr.add] using World.cell?_spot hc
  subst hspot
  refine ⟨b, o, rfl, fun i hi => ?_⟩
  have := h6 _ rfl i hi
  rwa [addr_add', addr_add', addr_add', ← Nat.add_assoc, ← Nat.add_assoc] at this
end Fk
end Go.Proofs.Ytkdoibglgkcbkaa
namespace Go.Proofs.Ytkdoibglgkcbkaa
open Go Fk Go.RowKit
set_option linter.unusedVariables false
theorem laws_szVectorS (a : Option Addr) (len cap : Nat) (left : Int) (w : World) (h0 : 0 ≤ left) (h1 : left ≤ 1048576) (h2 : len ≤ 9223372036854775807) :
  Calls Try.prog 16 #[.slice a len cap, .int .i64 left] w fun e w' => (∃ r : Int, e = .returned (.int .i64 r) ∧ (r = -1 ∨ (0 ≤ r ∧ r ≤ 1048576 ∧ len ≤ 1048576))) ∧ w' = w := by
 by_cases h : left < len
 ·go_enter Try.func16, Try.ntmps16
  go_wp2
  go_ret
  exact ⟨⟨-1, rfl, .inl rfl⟩, rfl⟩
 ·go_enter Try.func16, Try.ntmps16
  go_wp2
  go_ret
  exact ⟨⟨_, rfl, .inr ⟨by omega, by omega, by omega⟩⟩, rfl⟩
end Go.Proofs.Ytkdoibglgkcbkaa
namespace Go.Proofs.Ytkdoibglgkcbkaa
open Go Fk Go.RowKit
set_option linter.unusedVariables false
set_option maxRecDepth 8000
end Go.Proofs.Ytkdoibglgkcbkaa
namespace Go.Proofs.Ytkdoibglgkcbkaa
namespace Reg
open Go
set_option linter.unusedVariables false
def low (ops : Array Oper) : Bool := (List.range ops.size).all fun i => ((ops[i]?).map fun o => o.after.all fun e => decide (e.on < i)).getD true
theorem low_spec {ops : Array Oper} (h : low ops = true) {i : Nat} {o : Oper} (ho : ops[i]? = some o) : ∀ e ∈ o.after, e.on < i := by
 have hlt : i < ops.size := (Array.getElem?_eq_some_iff.1 ho).1
 unfold low at h
 rw [List.all_eq_true] at h
 have := h i (List.mem_range.2 hlt)
 rw [ho] at this
 simp only [Option.map_some, Option.getD_some, Array.all_eq_true_iff_forall_mem, decide_eq_true_eq] at this
 exact this
theorem cnt_set : ∀ (l : List Bool) (i : Nat), l[i]? = some false → (l.set i true).count false + 1 = l.count false
 | [], i, h => by simp at h
 | b :: l, 0, h => by simp at h; subst h; simp
 | b :: l, i + 1, h => by
  have ih := cnt_set l i (by simpa using h)
  simp only [List.set_cons_succ, List.count_cons]
  omega
theorem cnt_zero : ∀ (l : List Bool), l.count false = 0 → ∀ i : Nat, i < l.length → l[i]? = some true
 | [], _, i, hi => by simp at hi
 | b :: l, h, i, hi => by
  cases b
  ·simp at h
  ·cases i with
   | zero => rfl
   | succ i => simpa using cnt_zero l (by simpa using h) i (by simpa using hi)
section
variable {P : Program} {ops : Array Oper} {Q : Exit → Act → World → Prop} {md : Region.Mode}
theorem all_of_none (hlow : low ops = true) {listed : Array Bool} (hs : listed.size = ops.size) (hr : Region.ready md ops listed = []) : ∀ i, i < ops.size → listed.getD i false = true := by
 intro i
 induction i using Nat.strongRecOn with
 | _ i ih =>
  intro hi
  cases hl : listed.getD i false
  ·exfalso
   obtain ⟨o, ho⟩ : ∃ o, ops[i]? = some o := ⟨_, Array.getElem?_eq_getElem hi⟩
   have hm : i ∈ Region.ready md ops listed := by
    refine mem_ready.2 ⟨?_, o, ho, fun e he _ => ih e.on (low_spec hlow ho e he) (Nat.lt_trans (low_spec hlow ho e he) hi)⟩
    have hlt : i < listed.size := by omega
    simp [hlt] at hl ⊢; exact hl
   rw [hr] at hm; cases hm
  ·rfl
theorem wpAny_inv (hlow : low ops = true) {Inv : Array Bool → Act → World → Prop}
  (hstep : ∀ i listed a w, listed.size = ops.size → i ∈ Region.ready md ops listed → Inv listed a w → wpOp P ops Q i (Inv (listed.setIfInBounds i true)) a w)
  (hend : ∀ listed a w, (∀ i, i < ops.size → listed.getD i false = true) → Inv listed a w → Q .normal a w) :
  ∀ (fuel : Nat) (listed : Array Bool) (a : Act) (w : World), listed.size = ops.size → listed.toList.count false ≤ fuel → Inv listed a w → wpAny P md ops Q fuel listed a w
 | 0, listed, a, w, hs, hf, hI => by
  have hall : ∀ i, i < ops.size → listed.getD i false = true := by
   intro i hi
   have := cnt_zero listed.toList (by omega) i (by simp; omega)
   have hlt : i < listed.size := by omega
   simp [hlt] at this ⊢; exact this
  refine ⟨?_, hend _ _ _ hall hI⟩
  cases hr : Region.ready md ops listed with
  | nil => rfl
  | cons j l =>
   have hj : j ∈ Region.ready md ops listed := by rw [hr]; exact List.mem_cons_self
   obtain ⟨h1, o, ho, _⟩ := mem_ready.1 hj
   have hlt : j < ops.size := (Array.getElem?_eq_some_iff.1 ho).1
   have h2 := hall j hlt
   have hlt' : j < listed.size := by omega
   simp [hlt'] at h1 h2
   rw [h1] at h2; cases h2
 | fuel + 1, listed, a, w, hs, hf, hI => by
  refine ⟨fun hr => hend _ _ _ (all_of_none hlow hs hr) hI, fun i hi => ?_⟩
  refine wpOp_mono (fun a' w' h => wpAny_inv hlow hstep hend fuel _ a' w' (by simpa using hs) ?_ h) (hstep i listed a w hs hi hI)
  obtain ⟨h1, o, ho, _⟩ := mem_ready.1 hi
  have hlt : i < listed.size := by have := (Array.getElem?_eq_some_iff.1 ho).1; omega
  have hg : listed.toList[i]? = some false := by simp [hlt] at h1 ⊢; exact h1
  have := cnt_set listed.toList i hg
  rw [Array.toList_setIfInBounds]
  omega
def slotOf (ops : Array Oper) (j : Nat) : Option Tmp := (ops[j]?).bind (·.dst)
def behind (ops : Array Oper) (i j : Nat) : Bool := ((ops[j]?).map fun o => o.after.any fun e => e.on == i && Region.binds .any e).getD false
def tidy (ops : Array Oper) (n : Nat) : Bool :=
 low ops && (ops.all fun o => o.guard.isNone) && (ops.all fun o => (o.dst.map fun d => decide (d < n)).getD true) &&
 ((List.range ops.size).all fun i => (List.range ops.size).all fun j => i == j || slotOf ops i == none || slotOf ops i != slotOf ops j) &&
 (List.range ops.size).all fun j => slotOf ops j != none || (List.range ops.size).all fun i => i == j || behind ops i j
theorem slot_val {a : Act} {t : Tmp} {v : Value} (h : a.eval (.tmp t) = v) : a.tmps[t]?.getD undef = v := by simpa [Act.eval] using h
def Has (ops : Array Oper) (R : Nat → Value → World → Prop) (j : Nat) (a : Act) (w : World) : Prop := ∀ d, slotOf ops j = some d → R j (a.eval (.tmp d)) w
def HasT (ops : Array Oper) (T : Nat → Act → World → Prop) (j : Nat) (a : Act) (w : World) : Prop := slotOf ops j = none → j < ops.size → T j a w
theorem behind_spec {ops : Array Oper} {i j : Nat} {o : Oper} (h : behind ops i j = true) (ho : ops[j]? = some o) : ∃ e ∈ o.after, e.on = i ∧ Region.binds .any e = true := by
 unfold behind at h
 rw [ho] at h
 simp only [Option.map_some, Option.getD_some] at h
 obtain ⟨k, hk, hp⟩ := Array.any_eq_true.1 h
 simp only [Bool.and_eq_true, beq_iff_eq] at hp
 exact ⟨_, Array.getElem_mem hk, hp.1, hp.2⟩
def Obl (P : Program) (ops : Array Oper) (a0 : Act) (C : World → Prop) (G : World → World → Prop) (R : Nat → Value → World → Prop) (T : Nat → Act → World → Prop) (Q : Exit → Act → World → Prop) (i : Nat) (o : Oper) : Prop :=
 ∀ a w, C w → (∀ t, ((List.range ops.size).all fun j => slotOf ops j != some t || behind ops i j) = true → a.eval (.tmp t) = a0.eval (.tmp t)) →
  (∀ j, behind ops j i = true → Has ops R j a w) →
  o.wp P a w (fun a' w' => ∃ v, a' = a.put o.dst v ∧ (o.dst ≠ none → R i v w') ∧ (o.dst = none → T i a w') ∧ C w' ∧ G w w') Q
def OblAll (P : Program) (ops : Array Oper) (a0 : Act) (C : World → Prop) (G : World → World → Prop) (R : Nat → Value → World → Prop) (T : Nat → Act → World → Prop) (Q : Exit → Act → World → Prop) : Nat → List Oper → Prop
 | _, [] => True
 | i, o :: l => Obl P ops a0 C G R T Q i o ∧ OblAll P ops a0 C G R T Q (i + 1) l
theorem OblAll.get {a0 : Act} {C : World → Prop} {G : World → World → Prop} {R : Nat → Value → World → Prop} {T : Nat → Act → World → Prop} :
  ∀ {l : List Oper} {k : Nat}, OblAll P ops a0 C G R T Q k l → ∀ {i : Nat} {o : Oper}, l[i]? = some o → Obl P ops a0 C G R T Q (k + i) o
 | [], _, _, _, _, h => by simp at h
 | _ :: _, _, h, 0, _, ho => by simp at ho; subst ho; exact h.1
 | _ :: l, k, h, i + 1, _, ho => by
  have := OblAll.get h.2 (i := i) (by simpa using ho)
  rwa [Nat.add_assoc, Nat.add_comm 1 i] at this
theorem Obl.mk {a0 : Act} {C : World → Prop} {G : World → World → Prop} {R : Nat → Value → World → Prop} {T : Nat → Act → World → Prop} {i : Nat} {o : Oper}
  (h : ∀ a w, C w → (∀ t, ((List.range ops.size).all fun j => slotOf ops j != some t || behind ops i j) = true → a.eval (.tmp t) = a0.eval (.tmp t)) →
   (∀ j, behind ops j i = true → Has ops R j a w) → ∀ K : Act → World → Prop, (∀ v w', (o.dst ≠ none → R i v w') → (o.dst = none → T i a w') → C w' → G w w' → K (a.put o.dst v) w') → o.wp P a w K Q) : Obl P ops a0 C G R T Q i o :=
 fun a w hC he hd => h a w hC he hd _ fun v w' h1 h2 h3 h4 => ⟨v, rfl, h1, h2, h3, h4⟩
theorem wp_region_inv {id : Nat} {a0 : Act} {w0 : World} {C : World → Prop} {G : World → World → Prop} {R : Nat → Value → World → Prop} {T : Nat → Act → World → Prop} (hm : P.follows .mixedOrders = true) (ht : tidy ops a0.tmps.size = true)
  (hG : ∀ j v w w', C w → G w w' → R j v w → R j v w') (hC : C { w0 with drawn := w0.drawn + 1 })
  (hO : OblAll P ops a0 C G R T Q 0 ops.toList)
  (hQ : ∀ a w, C w → a.defers = a0.defers → a.tmps.size = a0.tmps.size → (∀ t, (ops.all fun o => o.dst != some t) = true → a.eval (.tmp t) = a0.eval (.tmp t)) → (∀ j, j < ops.size → Has ops R j a w) → (∀ j, HasT ops T j a w) → Q .normal a w) :
  (Code.region id ops true).wp P Q a0 w0 := by
 unfold tidy at ht
 simp only [Bool.and_eq_true] at ht
 obtain ⟨⟨⟨⟨hlow, hgd⟩, hbd⟩, hdis⟩, hlast⟩ := ht
 have slot_lt : ∀ {j d}, slotOf ops j = some d → j < ops.size := fun {j d} h => by
  unfold slotOf at h
  cases ho : ops[j]? with
  | none => rw [ho] at h; cases h
  | some o => exact (Array.getElem?_eq_some_iff.1 ho).1
 have slot_bd : ∀ {j d}, slotOf ops j = some d → d < a0.tmps.size := fun {j d} h => by
  have hj := slot_lt h
  have := Array.all_eq_true.1 hbd j hj
  unfold slotOf at h
  rw [Array.getElem?_eq_getElem hj] at h
  simp only [Option.bind_some] at h
  rw [h] at this
  simpa using this
 have slot_ne : ∀ {i j d}, slotOf ops i = some d → slotOf ops j = some d → i = j := fun {i j d} h1 h2 => by
  have a1 := slot_lt h1
  have a2 := slot_lt h2
  have := List.all_eq_true.1 (List.all_eq_true.1 hdis i (List.mem_range.2 a1)) j (List.mem_range.2 a2)
  rw [h1, h2] at this
  simpa using this
 let Inv : Array Bool → Act → World → Prop := fun listed a w => C w ∧ a.defers = a0.defers ∧ a.tmps.size = a0.tmps.size ∧
  (∀ t, (∀ j, slotOf ops j = some t → listed.getD j false = false) → a.eval (.tmp t) = a0.eval (.tmp t)) ∧
  (∀ j, listed.getD j false = true → Has ops R j a w) ∧ (∀ i j, listed.getD j false = true → behind ops i j = true → listed.getD i false = true) ∧ (∀ j, listed.getD j false = true → HasT ops T j a w)
 refine wp_region_any hm (wpAny_inv (Inv := Inv) hlow ?_ ?_ _ _ _ _ (by simp) (by simp) ⟨hC, rfl, rfl, fun _ _ => rfl, ?_, ?_, ?_⟩)
 ·intro i listed a w hs hi ⟨hCw, hd, hsz, hext, hhas, hcl, hT⟩
  obtain ⟨hun, o, ho, hdeps⟩ := mem_ready.1 hi
  have hilt : i < ops.size := (Array.getElem?_eq_some_iff.1 ho).1
  have hun' : listed.getD i false = false := by
   have : i < listed.size := by omega
   simp [this] at hun ⊢; exact hun
  have hg : o.guard = none := by
   have := Array.all_eq_true.1 hgd i hilt
   rw [Array.getElem?_eq_getElem hilt] at ho
   cases ho
   simpa using this
  have hob := OblAll.get hO (i := i) (o := o) (by simpa using ho)
  rw [Nat.zero_add] at hob
  have hwp := hob a w hCw (fun t htt => hext t fun j hj => by
    have := List.all_eq_true.1 htt j (List.mem_range.2 (slot_lt hj))
    rw [hj] at this
    simp at this
    cases hl : listed.getD j false
    ·rfl
    ·have := hcl i j hl this; rw [hun'] at this; cases this)
   (fun j hj => hhas j (by
    obtain ⟨e, he, h1, h2⟩ := behind_spec hj ho
    rw [← h1]
    exact hdeps e he h2))
  unfold wpOp
  rw [ho]
  simp only [Region.wanted, hg, if_true]
  refine .inl (Oper.wp_mono ?_ hwp)
  rintro a' w' ⟨v, rfl, hR, hTi, hC', hGw⟩
  have hdst : slotOf ops i = o.dst := by unfold slotOf; rw [ho]; rfl
  have keep : ∀ t, o.dst ≠ some t → (a.put o.dst v).eval (.tmp t) = a.eval (.tmp t) := fun t h => Act.eval_put (fun d hd he => h (by rw [hd]; cases he; rfl))
  have lst : ∀ j, (listed.setIfInBounds i true).getD j false = true → j = i ∨ listed.getD j false = true := fun j h => by
   by_cases hji : i = j
   ·exact .inl hji.symm
   ·rw [getD_set_ne false hji] at h; exact .inr h
  refine ⟨hC', ?_, ?_, ?_, ?_, ?_, ?_⟩
  ·rw [← hd]; unfold Act.put; split <;> rfl
  ·rw [← hsz]; unfold Act.put; split <;> simp
  ·intro t htt
   rw [keep t (fun h => by
    have := htt i (by rw [hdst]; exact h)
    have hlt : i < listed.size := by omega
    simp [hlt] at this)]
   refine hext t fun j hj => ?_
   have := htt j hj
   cases hl : listed.getD j false
   ·rfl
   ·rw [getD_set_true hl] at this; cases this
  ·intro j hj d hjd
   rcases lst j hj with rfl | hj'
   ·rw [hdst] at hjd
    have hb := slot_bd (j := j) (by rw [hdst]; exact hjd)
    have : (a.put o.dst v).eval (.tmp d) = v := by
     unfold Act.put Act.eval; rw [hjd]; simp; exact fun h => absurd (Nat.lt_of_lt_of_le hb (hsz ▸ h)) (Nat.lt_irrefl _)
    rw [this]; exact hR (by rw [hjd]; simp)
   ·rw [keep d (fun h => by
     have := slot_ne (show slotOf ops i = some d by rw [hdst]; exact h) hjd
     subst this; rw [hun'] at hj'; cases hj')]
    exact hG _ _ _ _ hCw hGw (hhas j hj' d hjd)
  ·intro i' j hj hb
   rcases lst j hj with rfl | hj'
   ·refine getD_set_true ?_
    obtain ⟨e, he, h1, h2⟩ := behind_spec hb ho
    rw [← h1]; exact hdeps e he h2
   ·exact getD_set_true (hcl i' j hj' hb)
  ·intro j hj hn hlt
   rcases lst j hj with rfl | hj'
   ·rw [hdst] at hn
    have : a.put o.dst v = a := by rw [hn]; rfl
    rw [this]; exact hTi hn
   ·exfalso
    have h1 := List.all_eq_true.1 hlast j (List.mem_range.2 hlt)
    rw [hn] at h1
    simp only [bne_self_eq_false, Bool.false_or] at h1
    have h2 := List.all_eq_true.1 h1 i (List.mem_range.2 hilt)
    have hne : i ≠ j := fun e => by subst e; rw [hun'] at hj'; cases hj'
    simp [hne] at h2
    have := hcl i j hj' h2
    rw [hun'] at this; cases this
 ·intro listed a w hall ⟨hCw, hd, hsz, hext, hhas, _, hT⟩
  refine hQ a w hCw hd hsz (fun t htt => hext t fun j hj => ?_) (fun j hj => hhas j (hall j hj)) (fun j hn hlt => hT j (hall j hlt) hn hlt)
  exfalso
  have hlt := slot_lt hj
  have := Array.all_eq_true.1 htt j hlt
  unfold slotOf at hj
  rw [Array.getElem?_eq_getElem hlt] at hj
  simp only [Option.bind_some] at hj
  rw [hj] at this
  simp at this
 ·intro j hj
  simp at hj
  rw [Array.getElem?_replicate] at hj; split at hj <;> simp at hj
 ·intro i j hj
  simp at hj
  rw [Array.getElem?_replicate] at hj; split at hj <;> simp at hj
 ·intro j hj
  simp at hj
  rw [Array.getElem?_replicate] at hj; split at hj <;> simp at hj
def mixL (f : Nat → Value) : List Bool → Nat → List Value → List Value
 | true :: m, k, _ :: l => f k :: mixL f m (k + 1) l
 | false :: m, k, v :: l => v :: mixL f m (k + 1) l
 | _, _, _ => []
theorem mixL_eq (f : Nat → Value) : ∀ (m : List Bool) (k : Nat) (l : List Value), m.length = l.length → (∀ i, m[i]? = some false → l[i]? = some (f (k + i))) → mixL f m k l = (List.range' k l.length).map f
 | [], k, [], _, _ => rfl
 | true :: m, k, v :: l, hl, h => by
  rw [mixL, mixL_eq f m (k + 1) l (by simpa using hl) (fun i hi => by have := h (i + 1) (by simpa using hi); rw [show k + 1 + i = k + (i + 1) by omega]; simpa using this)]
  simp [List.range'_succ]
 | false :: m, k, v :: l, hl, h => by
  have h0 := h 0 rfl
  rw [mixL, mixL_eq f m (k + 1) l (by simpa using hl) (fun i hi => by have := h (i + 1) (by simpa using hi); rw [show k + 1 + i = k + (i + 1) by omega]; simpa using this)]
  simp at h0
  simp [List.range'_succ, h0]
 | [], _, _ :: _, hl, _ => by simp at hl
 | _ :: _, _, [], hl, _ => by simp at hl
def maskOk (ops : Array Oper) (m : List Bool) (n : Nat) : Bool := (m.length == n) && (List.range n).all fun t => m.getD t false || ops.all fun o => o.dst != some t
theorem wp_region_mix {id : Nat} {a0 : Act} {w0 : World} {C : World → Prop} {G : World → World → Prop} {R : Nat → Value → World → Prop} {T : Nat → Act → World → Prop} (m : List Bool) (hm : P.follows .mixedOrders = true) (ht : tidy ops a0.tmps.size = true)
  (hk : maskOk ops m a0.tmps.size = true)
  (hG : ∀ j v w w', C w → G w w' → R j v w → R j v w') (hC : C { w0 with drawn := w0.drawn + 1 })
  (hO : OblAll P ops a0 C G R T Q 0 ops.toList)
  (hQ : ∀ (f : Nat → Value) w, C w → (∀ j d, slotOf ops j = some d → R j (f d) w) → (∀ j, HasT ops T j ⟨(mixL f m 0 a0.tmps.toList).toArray, a0.defers⟩ w) → Q .normal ⟨(mixL f m 0 a0.tmps.toList).toArray, a0.defers⟩ w) :
  (Code.region id ops true).wp P Q a0 w0 := by
 refine wp_region_inv hm ht hG hC hO fun a w hCw hd hsz hext hhas hT => ?_
 unfold maskOk at hk
 simp only [Bool.and_eq_true, beq_iff_eq] at hk
 obtain ⟨hml, hmk⟩ := hk
 have e : a = ⟨(mixL (fun t => a.eval (.tmp t)) m 0 a0.tmps.toList).toArray, a0.defers⟩ := by
  rw [mixL_eq _ _ _ _ (by simpa using hml) ?_]
  ·cases a with
   | mk tmps defers =>
    simp only [Act.mk.injEq]
    refine ⟨?_, hd⟩
    apply Array.ext'
    apply List.ext_getElem?
    intro i
    simp only at hsz
    by_cases hi : i < tmps.size
    ·have hi' : i < a0.tmps.size := by omega
     simp [hi, hi', Act.eval]
    ·have hi' : ¬ i < a0.tmps.size := by omega
     simp [hi, hi']
  ·intro i hi
   have hlt : i < a0.tmps.size := by
    have := (List.getElem?_eq_some_iff.1 hi).1; omega
   have h1 := List.all_eq_true.1 hmk i (List.mem_range.2 hlt)
   have h2 : m.getD i false = false := by simp [List.getD, hi]
   rw [h2, Bool.false_or] at h1
   have h3 := hext i h1
   rw [Nat.zero_add, h3]
   simp [Act.eval, hlt]
 have h1 : ∀ j d, slotOf ops j = some d → R j ((fun t => a.eval (.tmp t)) d) w := fun j d hj => hhas j (by
  unfold slotOf at hj
  cases ho : ops[j]? with
  | none => rw [ho] at hj; cases hj
  | some o => exact (Array.getElem?_eq_some_iff.1 ho).1) d hj
 rw [e] at hT ⊢
 exact hQ (fun t => a.eval (.tmp t)) w hCw h1 hT
end
end Reg
end Go.Proofs.Ytkdoibglgkcbkaa
namespace Go.Proofs.Ytkdoibglgkcbkaa
open Go Fk Go.RowKit
set_option linter.unusedVariables false
set_option maxRecDepth 8000
end Go.Proofs.Ytkdoibglgkcbkaa
namespace Go.Proofs.Ytkdoibglgkcbkaa
open Go Fk Go.RowKit
set_option linter.unusedVariables false
set_option maxRecDepth 8000
theorem infoV : (Try.prog.info? 67).map (fun i => (i.zero, i.size, i.bytes)) = some (some (.agg #[.float .f32 0, .float .f32 0, .float .f32 0]), 3, 12) := by kernel_rfl
theorem made_cell3 (w : World) (z : Array Value) (n i : Nat) (t : TypeId) (hi : i < n) : ∃ v, (w.alloc (.cells (madeCells z n) t)).cell? ⟨w.heap.size, i, none⟩ = some v := by
 have : (madeCells z n)[i]? = some (z[i % z.size]!) := by unfold madeCells; simp [hi]
 exact ⟨z[i % z.size]!, by simp [this]⟩
theorem set3k {w : World} {n o : Nat} {u v t u0 v0 t0 : Value} (h0 : w.cell? ⟨n, o, none⟩ = some u0) (h1 : w.cell? ⟨n, o + 1, none⟩ = some v0) (h2 : w.cell? ⟨n, o + 2, none⟩ = some t0) :
  (((w.setCell ⟨n, o, none⟩ u).setCell ⟨n, o + 1, none⟩ v).setCell ⟨n, o + 2, none⟩ t).cell? ⟨n, o, none⟩ = some u ∧ (((w.setCell ⟨n, o, none⟩ u).setCell ⟨n, o + 1, none⟩ v).setCell ⟨n, o + 2, none⟩ t).cell? ⟨n, o + 1, none⟩ = some v ∧ (((w.setCell ⟨n, o, none⟩ u).setCell ⟨n, o + 1, none⟩ v).setCell ⟨n, o + 2, none⟩ t).cell? ⟨n, o + 2, none⟩ = some t ∧
  ∀ j, j ≠ o → j ≠ o + 1 → j ≠ o + 2 → (((w.setCell ⟨n, o, none⟩ u).setCell ⟨n, o + 1, none⟩ v).setCell ⟨n, o + 2, none⟩ t).cell? ⟨n, j, none⟩ = w.cell? ⟨n, j, none⟩ := by
 have a0 := World.cell?_setCell_same w ⟨n, o, none⟩ u h0
 have a1 : (w.setCell ⟨n, o, none⟩ u).cell? ⟨n, o + 1, none⟩ = some v0 := by rw [World.cell?_setCell_other _ _ _ _ (by simp)]; exact h1
 have a2 : (w.setCell ⟨n, o, none⟩ u).cell? ⟨n, o + 2, none⟩ = some t0 := by rw [World.cell?_setCell_other _ _ _ _ (by simp)]; exact h2
 have b1 := World.cell?_setCell_same (w.setCell ⟨n, o, none⟩ u) ⟨n, o + 1, none⟩ v a1
 have b2 : ((w.setCell ⟨n, o, none⟩ u).setCell ⟨n, o + 1, none⟩ v).cell? ⟨n, o + 2, none⟩ = some t0 := by rw [World.cell?_setCell_other _ _ _ _ (by simp)]; exact a2
 refine ⟨?_, ?_, World.cell?_setCell_same _ _ _ b2, fun j j0 j1 j2 => ?_⟩
 ·rw [World.cell?_setCell_other _ _ _ _ (by simp), World.cell?_setCell_other _ _ _ _ (by simp)]; exact a0
 ·rw [World.cell?_setCell_other _ _ _ _ (by simp)]; exact b1
 ·rw [World.cell?_setCell_other _ _ _ _ (by simp <;> omega), World.cell?_setCell_other _ _ _ _ (by simp <;> omega), World.cell?_setCell_other _ _ _ _ (by simp <;> omega)]
set_option maxHeartbeats 400000 in
theorem laws_toVectorS (a : Option Addr) (len cap : Nat) (cs : List C3) (w : World) (h : IsVs w a len cap cs) (hlen : len ≤ 1048576) :
  Calls Try.prog 18 #[.slice a len cap] w fun e w' => e = .returned (.slice (some ⟨w.heap.size, 0, none⟩) len len) ∧ IsVs w' (some ⟨w.heap.size, 0, none⟩) len len cs ∧ Below w.heap.size w w' ∧ w.heap.size < w'.heap.size := by
 have uv := Try.underlying67
 have ul := Try.underlying60
 have u := Try.underlying22
 obtain ⟨i0, hi, hz0, hz1, hz2⟩ := info_parts infoV
 have hzl := h.1
 obtain ⟨g, hg⟩ : ∃ g, g = w.heap.size := ⟨_, rfl⟩
 have hmk : (Instr.makeSlice 30 (.int .i64 len) (.int .i64 len)).run Try.prog w = .ok (.slice (some ⟨g, 0, none⟩) len len) (w.alloc (.cells (madeCells #[.float .f32 0, .float .f32 0, .float .f32 0] (len * 3)) 67)) := by
  have := run_make (P := Try.prog) w 30 67 i0 (.agg #[.float .f32 0, .float .f32 0, .float .f32 0]) Try.underlying30 hi hz0 .i64 .i64 len len (by omega) (Int.le_refl _) (by rw [hz2]; omega) (by omega)
  rw [this, hz1, hg]; simp; rfl
 have hstart : Below w.heap.size w (w.alloc (.cells (madeCells #[.float .f32 0, .float .f32 0, .float .f32 0] (len * 3)) 67)) ∧ g < (w.alloc (.cells (madeCells #[.float .f32 0, .float .f32 0, .float .f32 0] (len * 3)) 67)).heap.size ∧
   (∀ j, j < len * 3 → ∃ v, (w.alloc (.cells (madeCells #[.float .f32 0, .float .f32 0, .float .f32 0] (len * 3)) 67)).cell? ⟨g, j, none⟩ = some v) ∧ (∀ j, (w.alloc (.cells (madeCells #[.float .f32 0, .float .f32 0, .float .f32 0] (len * 3)) 67)).frozen? ⟨g, j, none⟩ = false) := by
  subst hg
  exact ⟨(Below.refl _ _).alloc (Nat.le_refl _) _, by simp, fun j hj => made_cell3 w _ (len * 3) j _ hj, fun j => by simp⟩
 rw [← hg] at hstart ⊢
 have HST := Lib.hid hstart
 have HG := Lib.hid hg
 clear hstart hg
 go_enter Try.func18, Try.ntmps18
 go_wp2
 generalize hw0 : w.alloc (.cells (madeCells #[.float .f32 0, .float .f32 0, .float .f32 0] (len * 3)) 67) = w0 at HST ⊢
 go_loopw [4] (fun i w' => ∃ k : Nat, k ≤ len ∧ i = .int .i64 k ∧ Aside ((Below g w w' ∧ g < w'.heap.size ∧ (∀ j, j < len * 3 → ∃ v, w'.cell? ⟨g, j, none⟩ = some v) ∧ (∀ j, w'.frozen? ⟨g, j, none⟩ = false)) ∧
   ∀ j, j < k → ∃ p q r, w'.cell? ⟨g, j * 3, none⟩ = some (.float .f32 p) ∧ w'.cell? ⟨g, j * 3 + 1, none⟩ = some (.float .f32 q) ∧ w'.cell? ⟨g, j * 3 + 2, none⟩ = some (.float .f32 r) ∧ FV .f32 p (cs.getD j c0).1 ∧ FV .f32 q (cs.getD j c0).2.1 ∧ FV .f32 r (cs.getD j c0).2.2)) (fun i _ => len - (intOf i).toNat)
 case atStart => exact ⟨0, Nat.zero_le _, rfl, HST.out, fun j hj => absurd hj (by omega)⟩
 case round =>
  obtain ⟨k, hk, rfl, hA⟩ := hrel
  by_cases hlt : k < len
  ·obtain ⟨⟨hB, hgs, hce, hfz⟩, hdone⟩ := hA.out
   have h' := h.below (HG.out ▸ hB)
   obtain ⟨b, o, rfl, hcell⟩ := h'.some (by omega)
   obtain ⟨p, q, r, hp, hq, hr, fp, fq, fr⟩ := hcell k hlt
   have hk0 : (0 : Int) ≤ (k : Int) := by omega
   have hk1 : (k : Int) < (len : Int) := by omega
   have hf0 := hfz (k * 3)
   have hf1 := hfz (k * 3 + 1)
   have hf2 := hfz (k * 3 + 2)
   obtain ⟨v0, hv0⟩ := hce (k * 3) (by omega)
   obtain ⟨v1, hv1⟩ := hce (k * 3 + 1) (by omega)
   obtain ⟨v2, hv2⟩ := hce (k * 3 + 2) (by omega)
   have HD := Lib.hid hdone
   have HC := Lib.hid hce
   have HF := Lib.hid hfz
   have HB := Lib.hid hB
   clear hA hcell h' hdone hce hfz hB h
   go_wp2_with fail
   refine (laws_toVector _ _ _ _).mono ?_
   rintro e w1 ⟨rfl, hB1⟩
   have hv0' : w1.cell? ⟨g, k * 3, none⟩ = some v0 := by rw [hB1.cell (p := ⟨g, k * 3, none⟩) hgs]; exact hv0
   have hv1' : w1.cell? ⟨g, k * 3 + 1, none⟩ = some v1 := by rw [hB1.cell (p := ⟨g, k * 3 + 1, none⟩) hgs]; exact hv1
   have hv2' : w1.cell? ⟨g, k * 3 + 2, none⟩ = some v2 := by rw [hB1.cell (p := ⟨g, k * 3 + 2, none⟩) hgs]; exact hv2
   have hf0' : w1.frozen? ⟨g, k * 3, none⟩ = false := by rw [hB1.frozen (p := ⟨g, k * 3, none⟩) hgs]; exact hf0
   have hf1' : w1.frozen? ⟨g, k * 3 + 1, none⟩ = false := by rw [hB1.frozen (p := ⟨g, k * 3 + 1, none⟩) hgs]; exact hf1
   have hf2' : w1.frozen? ⟨g, k * 3 + 2, none⟩ = false := by rw [hB1.frozen (p := ⟨g, k * 3 + 2, none⟩) hgs]; exact hf2
   have HB1 := Lib.hid hB1
   clear hB1
   go_wp2
   go_roundw
   case rel =>
    have hB1 := HB1.out
    obtain ⟨e0, e1, e2, eo⟩ := set3k (u := .float .f32 p) (v := .float .f32 q) (t := .float .f32 r) hv0' hv1' hv2'
    refine ⟨k + 1, by omega, by go_num, ⟨⟨(((HB.out.trans (hB1.mono (by omega))).setCell (Nat.le_refl _) _).setCell (Nat.le_refl _) _).setCell (Nat.le_refl _) _, by simp <;> (have := hB1.size; omega), fun j hj => ?_, fun j => ?_⟩, fun j hj => ?_⟩⟩
    ·by_cases h0 : j = k * 3
     ·subst h0; exact ⟨_, e0⟩
     ·by_cases h1 : j = k * 3 + 1
      ·subst h1; exact ⟨_, e1⟩
      ·by_cases h2 : j = k * 3 + 2
       ·subst h2; exact ⟨_, e2⟩
       ·obtain ⟨v, hv⟩ := HC.out j hj
        exact ⟨v, by rw [eo j h0 h1 h2, hB1.cell (p := ⟨g, j, none⟩) hgs]; exact hv⟩
    ·simp; rw [hB1.frozen (p := ⟨g, j, none⟩) hgs]; exact HF.out j
    ·by_cases hjk : j = k
     ·subst hjk; exact ⟨p, q, r, e0, e1, e2, fp, fq, fr⟩
     ·obtain ⟨p', q', r', k0, k1, k2, hv⟩ := HD.out j (by omega)
      exact ⟨p', q', r', by rw [eo _ (by omega) (by omega) (by omega), hB1.cell (p := ⟨g, j * 3, none⟩) hgs]; exact k0, by rw [eo _ (by omega) (by omega) (by omega), hB1.cell (p := ⟨g, j * 3 + 1, none⟩) hgs]; exact k1,
       by rw [eo _ (by omega) (by omega) (by omega), hB1.cell (p := ⟨g, j * 3 + 2, none⟩) hgs]; exact k2, hv⟩
   case measure => simp [intOf]; omega
  ·obtain rfl : k = len := by omega
   obtain ⟨⟨hB, hgs, hce, hfz⟩, hdone⟩ := hA.out
   have hfin : IsVs wr (some ⟨g, 0, none⟩) k k cs := by
    refine ⟨hzl, Nat.le_refl _, by unfold maxLen; omega, by simp, fun x hx i hi => ?_⟩
    cases hx
    obtain ⟨p, q, r, k0, k1, k2, hv⟩ := hdone i hi
    exact ⟨p, q, r, by rw [addr_add', Nat.zero_add]; exact k0, by rw [addr_add', Nat.zero_add]; exact k1, by rw [addr_add', Nat.zero_add]; exact k2, hv⟩
   have HF := Lib.hid hfin
   have HB := Lib.hid hB
   clear hA hB hce hfz hdone hfin h
   go_wp2
   go_ret
   exact ⟨rfl, HF.out, HB.out, hgs⟩
end Go.Proofs.Ytkdoibglgkcbkaa
namespace Go.Proofs.Ytkdoibglgkcbkaa
open Go Fk Go.RowKit
set_option linter.unusedVariables false
theorem impl_product32 (x y : Nat) (w : World) (c d : Option Nat) (h1 : FV .f32 x c) (h2 : FV .f32 y d) :
  Calls Try.prog 70 #[.float .f32 x, .float .f32 y] w fun en w' => ∃ r, en = .returned (.float .f32 r) ∧ FV .f32 r (fop .mul .f32 c d) ∧ ∃ n, w' = w.drewN n := by
 have u := Try.underlying22
 go_enter Try.func70, Try.ntmps70
 go_wp2
 go_ret
 exact ⟨_, rfl, FV_fR h1 h2, _, rfl⟩
theorem l01Scale (x y z r : Nat) (w : World) (c d e q : Option Nat) (h1 : FV .f32 x c) (h2 : FV .f32 y d) (h3 : FV .f32 z e) (hr : FV .f32 r q) :
  Calls Try.prog 87 #[vv x y z, .float .f32 r] w fun en w' => ∃ a b g, en = .returned (vv a b g) ∧ FV .f32 a (fop .mul .f32 c q) ∧ FV .f32 b (fop .mul .f32 d q) ∧ FV .f32 g (fop .mul .f32 e q) ∧ Below w.heap.size w w' := by
 have u := Try.underlying22
 have uv := Try.underlying67
 go_enter Try.func87, Try.ntmps87
 go_wp2
 refine bodyPost_ret (v := vv _ _ _) (by simp [results, Try.results87, go_sem] <;> exact ⟨rfl, rfl, rfl⟩) rfl ⟨_, _, _, rfl, FV_fR h1 hr, FV_fR h2 hr, FV_fR h3 hr, ?_⟩
 exact below_drewN (((Below.refl _ _).alloc (Nat.le_refl _) _).alloc (by simp) _) _
set_option maxHeartbeats 2000000 in
theorem impl_ScaleVector (x y z r : Nat) (w : World) (c d e q : Option Nat) (h1 : FV .f32 x c) (h2 : FV .f32 y d) (h3 : FV .f32 z e) (hr : FV .f32 r q) :
  Calls Try.prog 58 #[vv x y z, .float .f32 r] w fun en w' => ∃ a b g, en = .returned (vv a b g) ∧ FV .f32 a (fop .mul .f32 c q) ∧ FV .f32 b (fop .mul .f32 d q) ∧ FV .f32 g (fop .mul .f32 e q) ∧ Below w.heap.size w w' := by
 have u := Try.underlying22
 have uv := Try.underlying67
 go_enter Try.func58, Try.ntmps58
 go_wp2_with fail
 go_region_held3 (fun w' => w'.cell? ⟨w.heap.size, 0, none⟩ = some (.float .f32 x) ∧ w'.cell? ⟨w.heap.size, 1, none⟩ = some (.float .f32 y) ∧ w'.cell? ⟨w.heap.size, 2, none⟩ = some (.float .f32 z)) (go_keep) ((go_at_call 70; refine (impl_product32 _ _ _ _ _ (by assumption) (by assumption)).mono ?_; rintro en w1 ⟨r1, rfl, hr1, n1, rfl⟩))
 all_goals
  go_wp2
  refine bodyPost_ret (v := vv _ _ _) (by simp [results, Try.results58, go_sem] <;> exact ⟨rfl, rfl, rfl⟩) rfl ⟨_, _, _, rfl, (by first | assumption | exact FV_fR (by assumption) (by assumption)), (by first | assumption | exact FV_fR (by assumption) (by assumption)), (by first | assumption | exact FV_fR (by assumption) (by assumption)), below_drewN (((Below.refl _ _).alloc (Nat.le_refl _) _).alloc (by simp) _) _⟩
theorem l01Inner (x y z x' y' z' : Nat) (w : World) (c d e c' d' e' : Option Nat) (h1 : FV .f32 x c) (h2 : FV .f32 y d) (h3 : FV .f32 z e) (h1' : FV .f32 x' c') (h2' : FV .f32 y' d') (h3' : FV .f32 z' e') :
  Calls Try.prog 147 #[vv x y z, vv x' y' z'] w fun en w' => ∃ a, en = .returned (.float .f32 a) ∧ FV .f32 a (fop .add .f32 (fop .add .f32 (fop .mul .f32 c c') (fop .mul .f32 d d')) (fop .mul .f32 e e')) ∧ Below w.heap.size w w' := by
 have u := Try.underlying22
 have uv := Try.underlying67
 go_enter Try.func147, Try.ntmps147
 go_wp2
 go_ret
 exact ⟨_, rfl, FV_fR (FV_fR (FV_fR h1 h1') (FV_fR h2 h2')) (FV_fR h3 h3'), below_drewN (((Below.refl _ _).alloc (Nat.le_refl _) _).alloc (by simp) _) _⟩
end Go.Proofs.Ytkdoibglgkcbkaa
namespace Go.Proofs.Ytkdoibglgkcbkaa
namespace Reg3
open Go Reg
set_option linter.unusedVariables false
section
variable {P : Program} {ops : Array Oper} {Q : Exit → Act → World → Prop} {md : Region.Mode}
end
end Reg3
end Go.Proofs.Ytkdoibglgkcbkaa
namespace Go.Proofs.Ytkdoibglgkcbkaa
open Go Fk Go.RowKit
set_option linter.unusedVariables false
set_option maxRecDepth 8000
abbrev z3 : C3 := (some 0, some 0, some 0)
def V3 (w : World) (b x y z : Nat) : Prop :=
 (w.cell? ⟨b, 0, none⟩ = some (.float .f32 x) ∧ w.cell? ⟨b, 1, none⟩ = some (.float .f32 y) ∧ w.cell? ⟨b, 2, none⟩ = some (.float .f32 z)) ∧ ∀ i, w.frozen? ⟨b, i, none⟩ = false
theorem V3.new {w : World} {x y z : Nat} {t : TypeId} : V3 (w.alloc (.cells #[.float .f32 x, .float .f32 y, .float .f32 z] t)) w.heap.size x y z := ⟨⟨new0, new1, new2⟩, fun i => newf⟩
end Go.Proofs.Ytkdoibglgkcbkaa
namespace Go.Proofs.Ytkdoibglgkcbkaa
open Go Fk Go.RowKit
set_option linter.unusedVariables false
set_option maxRecDepth 8000
set_option maxHeartbeats 1000000 in
theorem laws_eqVectorS (a b : Option Addr) (len cap cap' : Nat) (cs : List C3) (w : World) (ha : IsVs w a len cap cs) (hb : IsVs w b len cap' cs) :
  Calls Try.prog 20 #[.slice a len cap, .slice b len cap'] w fun e w' => e = .returned (.bool true) ∧ Below w.heap.size w w' := by
 have hm : len ≤ 9223372036854775807 := by have h1 := ha.2.1; have h2 := ha.2.2.1; unfold maxLen at h2; omega
 have uv := Try.underlying67
 have hzl := ha.1
 go_enter Try.func20, Try.ntmps20
 go_wp2
 go_loopw [5] (fun i w' => ∃ k : Nat, k ≤ len ∧ i = .int .i64 k ∧ Below w.heap.size w w') (fun i _ => len - (intOf i).toNat)
 case atStart => exact ⟨0, Nat.zero_le _, rfl, Below.refl _ _⟩
 case round =>
  obtain ⟨k, hk, rfl, hB⟩ := hrel
  by_cases hlt : k < len
  ·obtain ⟨b1, o1, rfl, hcell1⟩ := (ha.below hB).some (by omega)
   obtain ⟨b2, o2, rfl, hcell2⟩ := (hb.below hB).some (by omega)
   obtain ⟨p1, q1, r1, c11, c12, c13, f11, f12, f13⟩ := hcell1 k hlt
   obtain ⟨p2, q2, r2, c21, c22, c23, f21, f22, f23⟩ := hcell2 k hlt
   generalize cs.getD k c0 = z at *
   have HB := Lib.hid hB
   clear hcell1 hcell2 hzl ha hb hB
   have hk0 : (0 : Int) ≤ (k : Int) := by omega
   have hk1 : (k : Int) < (len : Int) := by omega
   go_wp2_with fail
   refine Reg.wp_region_mix (C := fun w' => (w'.cell? ⟨b1, o1 + k * 3, none⟩ = some (.float .f32 p1) ∧ w'.cell? ⟨b1, o1 + k * 3 + 1, none⟩ = some (.float .f32 q1) ∧ w'.cell? ⟨b1, o1 + k * 3 + 2, none⟩ = some (.float .f32 r1) ∧ w'.cell? ⟨b2, o2 + k * 3, none⟩ = some (.float .f32 p2) ∧ w'.cell? ⟨b2, o2 + k * 3 + 1, none⟩ = some (.float .f32 q2) ∧ w'.cell? ⟨b2, o2 + k * 3 + 2, none⟩ = some (.float .f32 r2)) ∧ Below wr.heap.size wr w') (G := fun _ _ => True) (R := fun i v _ => match i with | 0 => v = .slice (some ⟨b1, o1, none⟩) len cap | 1 => v = .int .i64 k | 2 => v = .pointer (some ⟨b1, o1 + k * 3, none⟩) | 3 => v = vv p1 q1 r1 | 4 => v = .slice (some ⟨b2, o2, none⟩) len cap' | 5 => v = .int .i64 k | 6 => v = .pointer (some ⟨b2, o2 + k * 3, none⟩) | 7 => v = vv p2 q2 r2 | 8 => v = .bool true | 9 => v = .bool false | _ => True) (T := fun _ _ _ => True) [false, false, false, false, false, false, false, false, false, false, false, false, false, false, false, false, false, true, true, true, true, true, true, true, true, true, true]
    (by kernel_rfl) (by kernel_rfl) (by kernel_rfl) (fun _ _ _ _ _ _ h => h) ⟨⟨c11, c12, c13, c21, c22, c23⟩, below_drewN (Below.refl _ _) 1⟩ ?_ ?_
   ·refine ⟨Reg.Obl.mk ?_, Reg.Obl.mk ?_, Reg.Obl.mk ?_, Reg.Obl.mk ?_, Reg.Obl.mk ?_, Reg.Obl.mk ?_, Reg.Obl.mk ?_, Reg.Obl.mk ?_, Reg.Obl.mk ?_, Reg.Obl.mk ?_, trivial⟩
    ·rintro a w1 ⟨⟨d11, d12, d13, d21, d22, d23⟩, hB⟩ hx hd K hK
     have t0 : a.tmps[0]?.getD undef = .slice (some ⟨b1, o1, none⟩) len cap := Reg.slot_val (hx 0 (by kernel_rfl))
     go_simp
     exact hK _ _ (fun _ => rfl) (fun h => by cases h) ⟨⟨d11, d12, d13, d21, d22, d23⟩, hB⟩ trivial
    ·rintro a w1 ⟨⟨d11, d12, d13, d21, d22, d23⟩, hB⟩ hx hd K hK
     have t5 : a.tmps[5]?.getD undef = .int .i64 k := Reg.slot_val (hx 5 (by kernel_rfl))
     go_simp
     exact hK _ _ (fun _ => rfl) (fun h => by cases h) ⟨⟨d11, d12, d13, d21, d22, d23⟩, hB⟩ trivial
    ·rintro a w1 ⟨⟨d11, d12, d13, d21, d22, d23⟩, hB⟩ hx hd K hK
     have t17 : a.tmps[17]?.getD undef = .slice (some ⟨b1, o1, none⟩) len cap := Reg.slot_val (hd 0 (by kernel_rfl) 17 rfl)
     have t18 : a.tmps[18]?.getD undef = .int .i64 k := Reg.slot_val (hd 1 (by kernel_rfl) 18 rfl)
     go_simp
     exact hK _ _ (fun _ => rfl) (fun h => by cases h) ⟨⟨d11, d12, d13, d21, d22, d23⟩, hB⟩ trivial
    ·rintro a w1 ⟨⟨d11, d12, d13, d21, d22, d23⟩, hB⟩ hx hd K hK
     have t19 : a.tmps[19]?.getD undef = .pointer (some ⟨b1, o1 + k * 3, none⟩) := Reg.slot_val (hd 2 (by kernel_rfl) 19 rfl)
     go_simp
     exact hK _ _ (fun _ => rfl) (fun h => by cases h) ⟨⟨d11, d12, d13, d21, d22, d23⟩, hB⟩ trivial
    ·rintro a w1 ⟨⟨d11, d12, d13, d21, d22, d23⟩, hB⟩ hx hd K hK
     have t1 : a.tmps[1]?.getD undef = .slice (some ⟨b2, o2, none⟩) len cap' := Reg.slot_val (hx 1 (by kernel_rfl))
     go_simp
     exact hK _ _ (fun _ => rfl) (fun h => by cases h) ⟨⟨d11, d12, d13, d21, d22, d23⟩, hB⟩ trivial
    ·rintro a w1 ⟨⟨d11, d12, d13, d21, d22, d23⟩, hB⟩ hx hd K hK
     have t5 : a.tmps[5]?.getD undef = .int .i64 k := Reg.slot_val (hx 5 (by kernel_rfl))
     go_simp
     exact hK _ _ (fun _ => rfl) (fun h => by cases h) ⟨⟨d11, d12, d13, d21, d22, d23⟩, hB⟩ trivial
    ·rintro a w1 ⟨⟨d11, d12, d13, d21, d22, d23⟩, hB⟩ hx hd K hK
     have t21 : a.tmps[21]?.getD undef = .slice (some ⟨b2, o2, none⟩) len cap' := Reg.slot_val (hd 4 (by kernel_rfl) 21 rfl)
     have t22 : a.tmps[22]?.getD undef = .int .i64 k := Reg.slot_val (hd 5 (by kernel_rfl) 22 rfl)
     go_simp
     exact hK _ _ (fun _ => rfl) (fun h => by cases h) ⟨⟨d11, d12, d13, d21, d22, d23⟩, hB⟩ trivial
    ·rintro a w1 ⟨⟨d11, d12, d13, d21, d22, d23⟩, hB⟩ hx hd K hK
     have t23 : a.tmps[23]?.getD undef = .pointer (some ⟨b2, o2 + k * 3, none⟩) := Reg.slot_val (hd 6 (by kernel_rfl) 23 rfl)
     go_simp
     exact hK _ _ (fun _ => rfl) (fun h => by cases h) ⟨⟨d11, d12, d13, d21, d22, d23⟩, hB⟩ trivial
    ·rintro a w1 ⟨⟨d11, d12, d13, d21, d22, d23⟩, hB⟩ hx hd K hK
     have t20 : a.tmps[20]?.getD undef = vv p1 q1 r1 := Reg.slot_val (hd 3 (by kernel_rfl) 20 rfl)
     have t24 : a.tmps[24]?.getD undef = vv p2 q2 r2 := Reg.slot_val (hd 7 (by kernel_rfl) 24 rfl)
     go_simp
     refine (laws_eqVector _ _ _ _ _ _ _ _ _ _ f11 f12 f13 f21 f22 f23).mono ?_
     rintro en w2 ⟨rfl, hB2⟩
     exact hK _ _ (fun _ => rfl) (fun h => by cases h) ⟨⟨cell_below hB2 d11, cell_below hB2 d12, cell_below hB2 d13, cell_below hB2 d21, cell_below hB2 d22, cell_below hB2 d23⟩, hB.trans (hB2.mono hB.size)⟩ trivial
    ·rintro a w1 ⟨⟨d11, d12, d13, d21, d22, d23⟩, hB⟩ hx hd K hK
     have t25 : a.tmps[25]?.getD undef = .bool true := Reg.slot_val (hd 8 (by kernel_rfl) 25 rfl)
     go_simp
     exact hK _ _ (fun _ => rfl) (fun h => by cases h) ⟨⟨d11, d12, d13, d21, d22, d23⟩, hB⟩ trivial
   ·rintro f w1 ⟨_, hB⟩ hd hT
    have g26 : f 26 = .bool false := hd 9 26 rfl
    simp only [Reg.mixL, g26]
    have HB1 := Lib.hid hB
    clear hB
    go_wp2
    go_roundw
    case rel => exact ⟨k + 1, by omega, by go_num, HB.out.trans (HB1.out.mono HB.out.size)⟩
    case measure => simp [intOf]; omega
  ·have HB := Lib.hid hB
   clear hB
   go_wp2
   go_ret
   exact ⟨rfl, HB.out⟩
end Go.Proofs.Ytkdoibglgkcbkaa

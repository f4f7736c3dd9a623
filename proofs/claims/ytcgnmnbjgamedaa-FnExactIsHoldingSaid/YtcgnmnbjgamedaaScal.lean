
/-
What the small functions on single numbers return, of the program and of its model. Conditions: none beyond that the words fit.
-/
import Derived.Test.YtcgnmnbjgamedaaChecked
import Derived.Test.YtcgnmnbjgamedaaFk
import Derived.Outline
import Derived.Lib.Hide
import Derived.Laws.Externs
namespace Go.Proofs.Ytcgnmnbjgamedaa
open Go Fk
set_option linter.unusedVariables false

abbrev nan32 (x : Nat) : Bool := (FloatKind.f32.decode x).isNaN
abbrev nan64 (x : Nat) : Bool := (FloatKind.f64.decode x).isNaN
def bitsZ (x : Nat) : Int := if nan32 x = true then 2143289344 else x

theorem ne_self (k : FloatKind) (x : Nat) : (k.format.order x x != some .eq) = (k.decode x).isNaN := by
  cases h : (k.decode x).isNaN
  · rw [order_self h]; rfl
  · rw [order_nan (.inl h)]; rfl
theorem wR_nan (x : Nat) (w : World) : (FloatKind.f64.decode (wR x w)).isNaN = (FloatKind.f32.decode x).isNaN := by
  unfold wR
  cases h : (FloatKind.f32.decode x).isNaN
  · rw [if_neg (by simp)]; exact wid_nan h
  · rw [if_pos rfl]; exact (cutConv_nan .f64 x _).2
theorem ret_bool {a b : Bool} (h : a = b) : Ending.returned (.bool a) = .returned (.bool b) := by rw [h]
theorem ret_i64 {a b : Int} (h : a = b) : Ending.returned (.int .i64 a) = .returned (.int .i64 b) := by rw [h]

theorem math_IsNaN (x : Nat) (w : World) :
    Calls Try.prog 135 #[.float .f64 x] w fun e w' => e = .returned (.bool (nan64 x)) ∧ w' = w := by
  have u := Try.underlying26
  go_enter Try.func135, Try.ntmps135
  go_wp2
  go_ret
  exact ⟨ret_bool (ne_self .f64 x), rfl⟩

theorem impl_isNaN (x : Nat) (w : World) :
    Calls Try.prog 98 #[.float .f32 x] w fun e w' => e = .returned (.bool (nan32 x)) ∧ ∃ n, w' = w.drewN n := by
  have u := Try.underlying26
  have u' := Try.underlying22
  go_enter Try.func98, Try.ntmps98
  go_wp2_with (go_at_call 135; refine (math_IsNaN _ _).mono ?_; rintro e w' ⟨rfl, rfl⟩)
  go_ret
  exact ⟨ret_bool (wR_nan x w), _, rfl⟩


@[go_sem] theorem ext_Float64bits (x : Nat) (w : World) : (callFunc 145 #[.float .f64 x]).run Try.prog w = .ok (.value (.int .u64 x)) w :=
  (run_callFunc_extern (e := Extern.MathFloatBits.float64bits) Try.func145 (by kernel_rfl) (by kernel_rfl) (by kernel_rfl) (by kernel_rfl) _ _).trans rfl
@[go_sem] theorem ext_Float64frombits (n : Int) (w : World) : (callFunc 144 #[.int .u64 n]).run Try.prog w = .ok (.value (.float .f64 n.toNat)) w :=
  (run_callFunc_extern (e := Extern.MathFloatBits.float64frombits) Try.func144 (by kernel_rfl) (by kernel_rfl) (by kernel_rfl) (by kernel_rfl) _ _).trans rfl

theorem dec32 (x : Nat) : FloatKind.f32.decode x = if x % 2147483648 < 8388608 then .number (x / 2147483648 % 2 == 1) (x % 2147483648) (-149)
    else if x % 2147483648 < 2139095040 then .number (x / 2147483648 % 2 == 1) (8388608 + x % 2147483648 % 8388608) (-149 + (x % 2147483648 / 8388608 - 1 : Nat))
    else if x % 2147483648 = 2139095040 then .infinity (x / 2147483648 % 2 == 1) else .nan (x / 2147483648 % 2 == 1) (x % 2147483648 - 2139095040) := rfl
def finB (x : Nat) : Bool := decide (x % 2147483648 < 2139095040)
theorem dec32_fin {x : Nat} (h : x % 2147483648 < 2139095040) : ∃ m p, FloatKind.f32.decode x = .number (x / 2147483648 % 2 == 1) m p := by
  rw [dec32]
  split
  · exact ⟨_, _, rfl⟩
  · exact ⟨_, _, rfl⟩
theorem dec32_inf {x : Nat} (h : x % 2147483648 = 2139095040) : FloatKind.f32.decode x = .infinity (x / 2147483648 % 2 == 1) := by
  rw [dec32, if_neg (by omega), if_neg (by omega), if_pos h]
theorem dec32_nan {x : Nat} (h : 2139095040 < x % 2147483648) : ∃ s t, FloatKind.f32.decode x = .nan s t := by
  rw [dec32, if_neg (by omega), if_neg (by omega), if_neg (by omega)]; exact ⟨_, _, rfl⟩
theorem nan32_iff (x : Nat) : nan32 x = decide (2139095040 < x % 2147483648) := by
  rw [show nan32 x = (FloatKind.f32.decode x).isNaN from rfl, isNaN_decode]; rfl
theorem write_zero (k : FloatKind) (s : Bool) (p : Int) : k.format.write (.number s 0 p) = if s then k.format.signWeight else 0 := by
  show k.format.nearest s 0 p = _
  unfold Ieee.Format.nearest Ieee.Format.word
  simp
theorem sub_self32 (x : Nat) : floatBits .sub .f32 x x = if finB x = true then some 0 else none := by
  show ((FloatKind.f32.decode x).sum (FloatKind.f32.decode x).opposite).map FloatKind.f32.format.write = _
  unfold finB
  rcases Nat.lt_trichotomy (x % 2147483648) 2139095040 with h | h | h
  · obtain ⟨m, p, e⟩ := dec32_fin h
    rw [e, if_pos (by simpa using h)]
    generalize (x / 2147483648 % 2 == 1) = s
    have : Ieee.signed s m (p - min p p).toNat + Ieee.signed (!s) m (p - min p p).toNat = 0 := by
      unfold Ieee.signed; cases s <;> simp <;> omega
    simp only [Ieee.Datum.opposite, Ieee.Datum.sum, this, if_true, Option.map_some]
    rw [show (s && !s) = false by cases s <;> rfl]
    rw [show (0 : Int).natAbs = 0 from rfl, write_zero]; rfl
  · rw [dec32_inf h, if_neg (by simp; omega)]
    cases (x / 2147483648 % 2 == 1) <;> rfl
  · obtain ⟨s, t, e⟩ := dec32_nan h
    rw [e, if_neg (by simp; omega)]; rfl

theorem l01Finite (x : Nat) (w : World) (hx : x < 4294967296) :
    Calls Try.prog 51 #[.float .f32 x] w fun e w' => e = .returned (.bool (finB x)) ∧ ∃ n, w' = w.drewN n := by
  have hs := sub_self32 x
  have hv : FV .f32 (fR .sub .f32 x x w) (fop .sub .f32 (cls .f32 x) (cls .f32 x)) := FV_fR (FV.self hx) (FV.self hx)
  have hv0 : FV .f32 0 (some 0) := ⟨by decide, by decide⟩
  have ho := ford_of hv hv0
  have h00 : FloatKind.f32.format.order 0 0 = some .eq := by decide
  have hgoal : (FloatKind.f32.format.order (fR .sub .f32 x x w) 0 == some .eq) = finB x := by
    rw [ho]
    cases hf : finB x
    · rw [hf] at hs
      have : fop .sub .f32 (cls .f32 x) (cls .f32 x) = none := by
        unfold cls
        split
        · rfl
        · exact hs
      rw [this]; rfl
    · rw [hf] at hs
      have hn : (FloatKind.f32.decode x).isNaN = false := (floatBits_ok (r := 0) (by rw [hs]; rfl)).1
      have : fop .sub .f32 (cls .f32 x) (cls .f32 x) = some 0 := by rw [cls_num hn]; exact hs
      rw [this]; exact (congrArg (· == some Ordering.eq) h00)
  clear hs hv hv0 ho h00
  have H := Lib.hid hgoal
  clear hgoal
  go_enter Try.func51, Try.ntmps51
  go_wp2
  go_ret
  exact ⟨ret_bool H.out, _, rfl⟩

theorem math_Abs (x : Nat) (w : World) (hx : x < 18446744073709551616) :
    Calls Try.prog 136 #[.float .f64 x] w fun e w' => e = .returned (.float .f64 (x % 9223372036854775808)) ∧ w' = w := by
  have u := Try.underlying26
  go_enter Try.func136, Try.ntmps136
  go_wp2
  go_ret
  refine ⟨?_, rfl⟩
  have e : bits .andNot .u64 (x : Int) ((9223372036854775808 : Nat) : Int) = ((x % 9223372036854775808 : Nat) : Int) := by
    rw [u64_andNot_nat x 9223372036854775808 hx (by decide)]
    rw [show (18446744073709551615 - 9223372036854775808 : Nat) = 2 ^ 63 - 1 by decide, Nat.and_two_pow_sub_one_eq_mod]
  show Ending.returned (Value.float FloatKind.f64 (bits .andNot .u64 (x : Int) ((9223372036854775808 : Nat) : Int)).toNat) = _
  rw [e, Int.toNat_natCast]

theorem quo_one (x : Nat) (hn : (FloatKind.f64.decode x).isNaN = false) : ∃ r, floatBits .quo .f64 4607182418800017408 x = some r := by
  show ∃ r, ((FloatKind.f64.decode 4607182418800017408).quotient _ (FloatKind.f64.decode x)).map FloatKind.f64.format.write = some r
  have e : FloatKind.f64.decode 4607182418800017408 = .number false 4503599627370496 (-52) := by decide
  rw [e]
  cases hd : FloatKind.f64.decode x with
  | nan s t => rw [hd] at hn; simp [Ieee.Datum.isNaN] at hn
  | infinity s => exact ⟨_, rfl⟩
  | number s m p =>
    by_cases hm : m = 0
    · subst hm; exact ⟨_, rfl⟩
    · simp only [Ieee.Datum.quotient, if_neg hm]; exact ⟨_, rfl⟩

theorem laws_sameFloat (a b : Nat) (c : Option Nat) (w : World) (ha : FV .f64 a c) (hb : FV .f64 b c) :
    Calls Try.prog 17 #[.float .f64 a, .float .f64 b] w fun e w' => e = .returned (.bool true) ∧ ∃ n, w' = w.drewN n := by
  have u := Try.underlying26
  cases c with
  | none =>
    have h1 : FloatKind.f64.format.order a a = none := order_nan (.inl ha.nan)
    have h2 : FloatKind.f64.format.order b b = none := order_nan (.inl hb.nan)
    clear ha hb
    go_enter Try.func17, Try.ntmps17
    go_wp2
    go_ret
    exact ⟨rfl, 0, rfl⟩
  | some x =>
    obtain rfl := ha.num
    obtain rfl := hb.num
    have h1 : FloatKind.f64.format.order b b = some .eq := order_self ha.notnan
    obtain ⟨r, hr⟩ := quo_one b ha.notnan
    have h2 : ∀ w, fR .quo .f64 4607182418800017408 b w = r := fun w => by unfold fR; rw [hr]
    clear ha hb hr
    cases h0 : (FloatKind.f64.format.order b 0 == some .eq)
    all_goals
      go_enter Try.func17, Try.ntmps17
      go_wp2
      go_ret
      first | exact ⟨rfl, 0, rfl⟩ | exact ⟨rfl, _, rfl⟩ | exact ⟨ret_bool (by simp), _, rfl⟩

/-! Infinities -/
theorem max64 : FloatKind.f64.decode 9218868437227405311 = .number false 9007199254740991 971 := by decide
/-- Is greater than the greatest number: the positive infinity alone. -/
theorem gt_max (x : Nat) (hx : x < 18446744073709551616) : (FloatKind.f64.format.order x 9218868437227405311 == some .gt) = decide (x = 9218868437227405312) := by
  have e3 : 2 ^ FloatKind.f64.format.width = 18446744073709551616 := by decide
  have nm : (FloatKind.f64.decode 9218868437227405311).isNaN = false := by rw [max64]; rfl
  cases hn : (FloatKind.f64.decode x).isNaN
  · rw [order_key (by rw [e3]; exact hx) (by rw [e3]; decide) hn nm]
    have hn' := hn
    rw [isNaN_decode] at hn'
    have e1 : FloatKind.f64.format.infRung = 9218868437227405312 := by decide
    have e2 : FloatKind.f64.format.signWeight = 9223372036854775808 := by decide
    rw [e1, e2] at hn'
    have hn'' : ¬ 9218868437227405312 < x % 9223372036854775808 := by simpa using hn'
    have k1 : key .f64 9218868437227405311 = 9218868437227405311 := by decide
    have k2 : key .f64 x = if x < 9223372036854775808 then (x : Int) else 9223372036854775808 - x := by unfold key; rw [e2]; rfl
    rw [k1]
    by_cases h : x = 9218868437227405312
    · rw [decide_eq_true h]
      have : key .f64 x > 9218868437227405311 := by rw [k2, if_pos (by omega)]; omega
      rw [Int.compare_eq_gt.2 this]; rfl
    · rw [decide_eq_false h]
      have : ¬ key .f64 x > 9218868437227405311 := by rw [k2]; split <;> omega
      cases hc : compare (key .f64 x) 9218868437227405311
      · rfl
      · rfl
      · exact absurd (Int.compare_eq_gt.1 hc) this
  · rw [order_nan (.inl hn)]
    by_cases h : x = 9218868437227405312
    · subst h; rw [isNaN_decode] at hn; exact absurd hn (by decide)
    · rw [decide_eq_false h]; rfl

theorem math_IsInf0 (x : Nat) (w : World) (hx : x < 18446744073709551616) :
    Calls Try.prog 99 #[.float .f64 x, .int .i64 0] w fun e w' => e = .returned (.bool (decide (x % 9223372036854775808 = 9218868437227405312))) ∧ w' = w := by
  have u := Try.underlying26
  have h := gt_max (x % 9223372036854775808) (by omega)
  have H := Lib.hid h
  clear h
  go_enter Try.func99, Try.ntmps99
  go_wp2_with (go_at_call 136; refine (math_Abs _ _ (by assumption)).mono ?_; rintro e w' ⟨rfl, rfl⟩)
  go_ret
  exact ⟨ret_bool H.out, rfl⟩
theorem math_IsInf1 (x : Nat) (w : World) (hx : x < 18446744073709551616) :
    Calls Try.prog 99 #[.float .f64 x, .int .i64 1] w fun e w' => e = .returned (.bool (decide (x = 9218868437227405312))) ∧ w' = w := by
  have u := Try.underlying26
  have h := gt_max x hx
  have H := Lib.hid h
  clear h
  go_enter Try.func99, Try.ntmps99
  go_wp2
  go_ret
  exact ⟨ret_bool H.out, rfl⟩

/-- The 64-bit words of 32-bit ones. -/
theorem wid_cases {x : Nat} (hx : x < 4294967296) (hn : nan32 x = false) :
    (x % 2147483648 = 2139095040 ∧ wid x = (if x < 2147483648 then 0 else 9223372036854775808) + 9218868437227405312) ∨
    (x % 2147483648 < 2139095040 ∧ ∃ r, r < 5188146770730811392 ∧ wid x = (if x < 2147483648 then 0 else 9223372036854775808) + r) := by
  rw [nan32_iff] at hn
  have hn' : ¬ 2139095040 < x % 2147483648 := by simpa using hn
  have hs : (x / 2147483648 % 2 == 1) = decide (¬ x < 2147483648) := by
    by_cases h : x < 2147483648
    · rw [Nat.div_eq_of_lt h]; simp [h]
    · have h1 : x / 2147483648 = 1 := by omega
      rw [h1]; simp [h]
  have e2 : Ieee.double.signWeight = 9223372036854775808 := by decide
  by_cases h : x % 2147483648 = 2139095040
  · refine .inl ⟨h, ?_⟩
    have e1 : Ieee.double.infRung = 9218868437227405312 := by decide
    unfold wid
    rw [dec32_inf h, hs]
    show Ieee.double.word _ Ieee.double.infRung = _
    unfold Ieee.Format.word
    rw [e1, e2]
    by_cases h2 : x < 2147483648 <;> simp [h2]
  · refine .inr ⟨by omega, ?_⟩
    obtain ⟨m, p, e⟩ := dec32_fin (x := x) (by omega)
    obtain ⟨r, he, hr⟩ := wid_word x _ m p e
    refine ⟨r, hr, ?_⟩
    rw [he, hs]
    unfold Ieee.Format.word
    rw [e2]
    by_cases h2 : x < 2147483648 <;> simp [h2]
theorem wR_lt {x : Nat} (w : World) (hx : x < 4294967296) : wR x w < 18446744073709551616 := (FV_wR (FV.self (k := .f32) hx)).1
theorem wR_num {x : Nat} (w : World) (hn : nan32 x = false) : wR x w = wid x := by unfold wR; rw [if_neg (by simp [hn])]
theorem inf0 {x : Nat} (w : World) (hx : x < 4294967296) (hn : nan32 x = false) : decide (wR x w % 9223372036854775808 = 9218868437227405312) = !finB x := by
  rw [wR_num w hn]
  unfold finB
  rcases wid_cases hx hn with ⟨h1, h2⟩ | ⟨h1, r, hr, h2⟩
  · rw [h2, decide_eq_true (by split <;> omega), decide_eq_false (by omega)]; rfl
  · rw [h2, decide_eq_false (by split <;> omega), decide_eq_true h1]; rfl
theorem inf1 {x : Nat} (w : World) (hx : x < 4294967296) : decide (wR x w = 9218868437227405312) = decide (x = 2139095040) := by
  cases hn : nan32 x
  · rw [wR_num w hn]
    rcases wid_cases hx hn with ⟨h1, h2⟩ | ⟨h1, r, hr, h2⟩
    · rw [h2]; congr 1; apply propext; split <;> omega
    · rw [h2]; congr 1; apply propext; split <;> omega
  · have h : (FloatKind.f64.decode (wR x w)).isNaN = true := by rw [wR_nan]; exact hn
    have a : ¬ wR x w = 9218868437227405312 := fun e => by rw [e, isNaN_decode] at h; exact absurd h (by decide)
    have b : ¬ x = 2139095040 := fun e => by rw [e] at hn; rw [nan32_iff] at hn; exact absurd hn (by decide)
    rw [decide_eq_false a, decide_eq_false b]

theorem impl_IsFinite (x : Nat) (w : World) (hx : x < 4294967296) :
    Calls Try.prog 52 #[.float .f32 x] w fun e w' => e = .returned (.bool (finB x)) ∧ ∃ n, w' = w.drewN n := by
  have u := Try.underlying26
  have u' := Try.underlying22
  have hlt := fun w => wR_lt (x := x) w hx
  cases hn : nan32 x
  · have h0 := fun w => inf0 (x := x) w hx hn
    go_enter Try.func52, Try.ntmps52
    go_wp2_with (first
      | (go_at_call 98; refine (impl_isNaN _ _).mono ?_; rintro e w' ⟨rfl, n, rfl⟩)
      | (go_at_call 99; refine (math_IsInf0 _ _ (hlt _)).mono ?_; rintro e w' ⟨rfl, rfl⟩))
    go_ret
    exact ⟨ret_bool (by simp), _, rfl⟩
  · have hf : finB x = false := by
      rw [nan32_iff] at hn; unfold finB; simp at hn ⊢; omega
    have H := Lib.hid hf
    clear hf
    go_enter Try.func52, Try.ntmps52
    go_wp2_with (first
      | (go_at_call 98; refine (impl_isNaN _ _).mono ?_; rintro e w' ⟨rfl, n, rfl⟩))
    go_ret
    exact ⟨ret_bool H.out.symm, _, rfl⟩
end Go.Proofs.Ytcgnmnbjgamedaa

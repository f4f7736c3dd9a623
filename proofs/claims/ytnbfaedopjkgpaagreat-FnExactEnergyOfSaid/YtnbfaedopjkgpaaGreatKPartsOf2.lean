/-
Texts in one: what PartsOf stands on, part 2. Conditions: those of each.
-/
import Derived.Test.YtnbfaedopjkgpaaGreatKPartsOf1
import Derived.Deep.LoopGhost
import Derived.Test.YtnbfaedopjkgpaaGreatChecked
import Derived.Outline
import Derived.Lib.Hide
import Derived.Laws.Externs
import Derived.Below
import Derived.Deep.RegionHeld3

/-
Copies of lists of lists and of lists of vectors: what the law's own functions return. Conditions: at most 2^20 of each.
-/
namespace Go.Proofs.YtnbfaedopjkgpaaGreat
open Go Fk Go.RowKit
set_option linter.unusedVariables false
set_option maxRecDepth 8000

theorem _root_.Go.Proofs.YtnbfaedopjkgpaaGreat.Fk.IsIs.set {w : World} {a : Addr} {v : Value} {b len cap : Nat} {o : Nat} {zs : List Int} (h : IsIs w (some ⟨b, o, none⟩) len cap zs) (hne : a.block ≠ b) : IsIs (w.setCell a v) (some ⟨b, o, none⟩) len cap zs := by
  obtain ⟨h1, h2, h3, h4, h5, h6⟩ := h
  refine ⟨h1, h2, h3, h4, h5, fun x hx i hi => ?_⟩
  have hc := h6 x hx i hi
  cases hx
  rw [addr_add'] at hc ⊢
  rw [World.cell?_setCell_other _ _ _ _ (by intro h; apply hne; rw [h])]; exact hc
theorem infoS : (Tryz.prog.info? 61).map (fun i => (i.zero, i.size, i.bytes)) = some (some (.slice none 0 0), 1, 24) := by kernel_rfl
theorem made_cell (w : World) (v : Value) (n i : Nat) (t : TypeId) (hi : i < n) : (w.alloc (.cells (madeCells #[v] n) t)).cell? ⟨w.heap.size, i, none⟩ = some v := by
  have : (madeCells #[v] n)[i]? = some v := by unfold madeCells; simp [hi, Nat.mod_one]
  simp [this]
set_option maxHeartbeats 400000 in
theorem laws_toInt64SS (a : Option Addr) (len cap : Nat) (ts : List (List Int)) (w : World) (h : IsTs w a len cap ts) (hlen : len ≤ 1048576) (hrow : ∀ k, k < len → (ts.getD k []).length ≤ 1048576) :
    Calls Tryz.prog 94 #[.slice a len cap] w fun e w' => e = .returned (.slice (some ⟨w.heap.size, 0, none⟩) len len) ∧ IsTs w' (some ⟨w.heap.size, 0, none⟩) len len ts ∧ Below w.heap.size w w' ∧ w.heap.size < w'.heap.size := by
  obtain ⟨i0, hi, hz0, hz1, hz2⟩ := info_parts infoS
  have hzl := h.1
  obtain ⟨g, hg⟩ : ∃ g, g = w.heap.size := ⟨_, rfl⟩
  have hmk : (Instr.makeSlice 23 (.int .i64 len) (.int .i64 len)).run Tryz.prog w = .ok (.slice (some ⟨g, 0, none⟩) len len) (w.alloc (.cells (madeCells #[.slice none 0 0] len) 61)) := by
    have := run_make (P := Tryz.prog) w 23 61 i0 (.slice none 0 0) Tryz.underlying23 hi hz0 .i64 .i64 len len (by omega) (Int.le_refl _) (by rw [hz2]; omega) (by omega)
    rw [this, hz1, hg]; simp; rfl
  have hstart : Below w.heap.size w (w.alloc (.cells (madeCells #[.slice none 0 0] len) 61)) ∧ g < (w.alloc (.cells (madeCells #[.slice none 0 0] len) 61)).heap.size ∧
      (∀ j, j < len → ∃ v, (w.alloc (.cells (madeCells #[.slice none 0 0] len) 61)).cell? ⟨g, j, none⟩ = some v) ∧ (∀ j, (w.alloc (.cells (madeCells #[.slice none 0 0] len) 61)).frozen? ⟨g, j, none⟩ = false) := by
    subst hg
    exact ⟨(Below.refl _ _).alloc (Nat.le_refl _) _, by simp, fun j hj => ⟨_, made_cell w _ len j _ hj⟩, fun j => by simp⟩
  rw [← hg] at hstart ⊢
  have HST := Lib.hid hstart
  have HG := Lib.hid hg
  clear hstart hg
  go_enter Tryz.func94, Tryz.ntmps94
  go_wp2
  generalize hw0 : w.alloc (.cells (madeCells #[.slice none 0 0] len) 61) = w0 at HST ⊢
  go_loopw [4] (fun i w' => ∃ k : Nat, k ≤ len ∧ i = .int .i64 k ∧ Aside ((Below g w w' ∧ g < w'.heap.size ∧ (∀ j, j < len → ∃ v, w'.cell? ⟨g, j, none⟩ = some v) ∧ (∀ j, w'.frozen? ⟨g, j, none⟩ = false)) ∧
      ∀ j, j < k → ∃ G, g < G ∧ w'.cell? ⟨g, j, none⟩ = some (.slice (some ⟨G, 0, none⟩) (ts.getD j []).length (ts.getD j []).length) ∧ IsIs w' (some ⟨G, 0, none⟩) (ts.getD j []).length (ts.getD j []).length (ts.getD j []))) (fun i _ => len - (intOf i).toNat)
  case atStart => exact ⟨0, Nat.zero_le _, rfl, HST.out, fun j hj => absurd hj (by omega)⟩
  case round =>
    obtain ⟨k, hk, rfl, hA⟩ := hrel
    by_cases hlt : k < len
    · obtain ⟨⟨hB, hgs, hce, hfz⟩, hdone⟩ := hA.out
      have h' := h.below (HG.out ▸ hB)
      obtain ⟨b, o, rfl, hcell⟩ := h'.some (by omega)
      obtain ⟨ra, n, c, hc, hi⟩ := hcell k hlt
      have hnl : (ts.getD k []).length = n := hi.1
      have hn : n ≤ 1048576 := by rw [← hnl]; exact hrow k hlt
      have hk0 : (0 : Int) ≤ (k : Int) := by omega
      have hk1 : (k : Int) < (len : Int) := by omega
      have hfk := hfz k
      obtain ⟨v0, hv0⟩ := hce k hlt
      have HI := Lib.hid hi
      have HD := Lib.hid hdone
      have HN := Lib.hid hnl
      have HC := Lib.hid hce
      have HF := Lib.hid hfz
      have HB := Lib.hid hB
      clear hA hcell h' hi hdone hnl hce hfz hB h
      go_wp2_with fail
      refine (laws_toInt64S _ _ _ _ _ HI.out hn).mono ?_
      rintro e w1 ⟨rfl, hI1, hB1, hS1⟩
      have hv1 : w1.cell? ⟨g, k, none⟩ = some v0 := by rw [hB1.cell (p := ⟨g, k, none⟩) hgs]; exact hv0
      have hf1 : w1.frozen? ⟨g, k, none⟩ = false := by rw [hB1.frozen (p := ⟨g, k, none⟩) hgs]; exact hfk
      have HI1 := Lib.hid hI1
      have HB1 := Lib.hid hB1
      clear hI1 hB1
      go_wp2
      go_roundw
      case rel =>
        have hB1 := HB1.out
        have hn' := HN.out
        refine ⟨k + 1, by omega, by go_num, ⟨⟨(HB.out.trans (hB1.mono (by omega))).setCell (Nat.le_refl _) _, by simp; omega, fun j hj => ?_, fun j => ?_⟩, fun j hj => ?_⟩⟩
        · by_cases hjk : j = k
          · subst hjk; exact ⟨_, World.cell?_setCell_same _ _ _ hv1⟩
          · obtain ⟨v, hv⟩ := HC.out j hj
            exact ⟨v, by rw [World.cell?_setCell_other _ _ _ _ (by simp <;> omega), hB1.cell (p := ⟨g, j, none⟩) hgs]; exact hv⟩
        · simp; rw [hB1.frozen (p := ⟨g, j, none⟩) hgs]; exact HF.out j
        · by_cases hjk : j = k
          · subst hjk
            refine ⟨wr.heap.size, hgs, ?_, ?_⟩
            · rw [hn', World.cell?_setCell_same _ _ _ hv1]
            · rw [hn']; exact HI1.out.set (by simp <;> omega)
          · obtain ⟨G, hG, hcG, hiG⟩ := HD.out j (by omega)
            have := World.block_lt_of_cell? wr _ hcG
            refine ⟨G, hG, ?_, ?_⟩
            · rw [World.cell?_setCell_other _ _ _ _ (by simp <;> omega), hB1.cell (p := ⟨g, j, none⟩) hgs]; exact hcG
            · exact (hiG.below hB1).set (by simp <;> omega)
      case measure => simp [intOf]; omega
    · obtain rfl : k = len := by omega
      obtain ⟨⟨hB, hgs, hce, hfz⟩, hdone⟩ := hA.out
      have hfin : IsTs wr (some ⟨g, 0, none⟩) k k ts := by
        refine ⟨hzl, Nat.le_refl _, by unfold maxLen; omega, by simp, fun x hx i hi => ?_⟩
        cases hx
        obtain ⟨G, hG, hc, hi⟩ := hdone i hi
        exact ⟨_, _, _, by rw [addr_add', Nat.zero_add]; exact hc, hi⟩
      have HF := Lib.hid hfin
      have HB := Lib.hid hB
      clear hA hB hce hfz hdone hfin h
      go_wp2
      go_ret
      exact ⟨rfl, HF.out, HB.out, hgs⟩
end Go.Proofs.YtnbfaedopjkgpaaGreat


/-
What the small functions on single numbers return, of the program and of its model. Conditions: none beyond that the words fit.
-/
namespace Go.Proofs.YtnbfaedopjkgpaaGreat
open Go Fk
set_option linter.unusedVariables false

abbrev nan32 (x : Nat) : Bool := (FloatKind.f32.decode x).isNaN
abbrev nan64 (x : Nat) : Bool := (FloatKind.f64.decode x).isNaN
def bitsZ (x : Nat) : Int := if nan32 x = true then 2143289344 else x

theorem ne_self (k : FloatKind) (x : Nat) : (k.format.order x x != some .eq) = (k.decode x).isNaN := by
  cases h : (k.decode x).isNaN
  · rw [order_self h]; rfl
  · rw [order_nan (.inl h)]; rfl
theorem wR_nan (x : Nat) (w : World) : (FloatKind.f64.decode (wR x w)).isNaN = (FloatKind.f32.decode x).isNaN := by
  unfold wR
  cases h : (FloatKind.f32.decode x).isNaN
  · rw [if_neg (by simp)]; exact wid_nan h
  · rw [if_pos rfl]; exact (cutConv_nan .f64 x _).2
theorem ret_bool {a b : Bool} (h : a = b) : Ending.returned (.bool a) = .returned (.bool b) := by rw [h]
theorem ret_i64 {a b : Int} (h : a = b) : Ending.returned (.int .i64 a) = .returned (.int .i64 b) := by rw [h]

theorem math_IsNaN (x : Nat) (w : World) :
    Calls Tryz.prog 166 #[.float .f64 x] w fun e w' => e = .returned (.bool (nan64 x)) ∧ w' = w := by
  have u := Tryz.underlying52
  go_enter Tryz.func166, Tryz.ntmps166
  go_wp2
  go_ret
  exact ⟨ret_bool (ne_self .f64 x), rfl⟩

theorem impl_isNaN (x : Nat) (w : World) :
    Calls Tryz.prog 133 #[.float .f32 x] w fun e w' => e = .returned (.bool (nan32 x)) ∧ ∃ n, w' = w.drewN n := by
  have u := Tryz.underlying52
  have u' := Tryz.underlying27
  go_enter Tryz.func133, Tryz.ntmps133
  go_wp2_with (go_at_call 166; refine (math_IsNaN _ _).mono ?_; rintro e w' ⟨rfl, rfl⟩)
  go_ret
  exact ⟨ret_bool (wR_nan x w), _, rfl⟩


@[go_sem] theorem ext_Float64bits (x : Nat) (w : World) : (callFunc 182 #[.float .f64 x]).run Tryz.prog w = .ok (.value (.int .u64 x)) w :=
  (run_callFunc_extern (e := Extern.MathFloatBits.float64bits) Tryz.func182 (by kernel_rfl) (by kernel_rfl) (by kernel_rfl) (by kernel_rfl) _ _).trans rfl
@[go_sem] theorem ext_Float64frombits (n : Int) (w : World) : (callFunc 181 #[.int .u64 n]).run Tryz.prog w = .ok (.value (.float .f64 n.toNat)) w :=
  (run_callFunc_extern (e := Extern.MathFloatBits.float64frombits) Tryz.func181 (by kernel_rfl) (by kernel_rfl) (by kernel_rfl) (by kernel_rfl) _ _).trans rfl

theorem dec32 (x : Nat) : FloatKind.f32.decode x = if x % 2147483648 < 8388608 then .number (x / 2147483648 % 2 == 1) (x % 2147483648) (-149)
    else if x % 2147483648 < 2139095040 then .number (x / 2147483648 % 2 == 1) (8388608 + x % 2147483648 % 8388608) (-149 + (x % 2147483648 / 8388608 - 1 : Nat))
    else if x % 2147483648 = 2139095040 then .infinity (x / 2147483648 % 2 == 1) else .nan (x / 2147483648 % 2 == 1) (x % 2147483648 - 2139095040) := rfl
def finB (x : Nat) : Bool := decide (x % 2147483648 < 2139095040)
theorem dec32_fin {x : Nat} (h : x % 2147483648 < 2139095040) : ∃ m p, FloatKind.f32.decode x = .number (x / 2147483648 % 2 == 1) m p := by
  rw [dec32]
  split
  · exact ⟨_, _, rfl⟩
  · exact ⟨_, _, rfl⟩
theorem dec32_inf {x : Nat} (h : x % 2147483648 = 2139095040) : FloatKind.f32.decode x = .infinity (x / 2147483648 % 2 == 1) := by
  rw [dec32, if_neg (by omega), if_neg (by omega), if_pos h]
theorem dec32_nan {x : Nat} (h : 2139095040 < x % 2147483648) : ∃ s t, FloatKind.f32.decode x = .nan s t := by
  rw [dec32, if_neg (by omega), if_neg (by omega), if_neg (by omega)]; exact ⟨_, _, rfl⟩
theorem nan32_iff (x : Nat) : nan32 x = decide (2139095040 < x % 2147483648) := by
  rw [show nan32 x = (FloatKind.f32.decode x).isNaN from rfl, isNaN_decode]; rfl
theorem write_zero (k : FloatKind) (s : Bool) (p : Int) : k.format.write (.number s 0 p) = if s then k.format.signWeight else 0 := by
  show k.format.nearest s 0 p = _
  unfold Ieee.Format.nearest Ieee.Format.word
  simp
theorem sub_self32 (x : Nat) : floatBits .sub .f32 x x = if finB x = true then some 0 else none := by
  show ((FloatKind.f32.decode x).sum (FloatKind.f32.decode x).opposite).map FloatKind.f32.format.write = _
  unfold finB
  rcases Nat.lt_trichotomy (x % 2147483648) 2139095040 with h | h | h
  · obtain ⟨m, p, e⟩ := dec32_fin h
    rw [e, if_pos (by simpa using h)]
    generalize (x / 2147483648 % 2 == 1) = s
    have : Ieee.signed s m (p - min p p).toNat + Ieee.signed (!s) m (p - min p p).toNat = 0 := by
      unfold Ieee.signed; cases s <;> simp <;> omega
    simp only [Ieee.Datum.opposite, Ieee.Datum.sum, this, if_true, Option.map_some]
    rw [show (s && !s) = false by cases s <;> rfl]
    rw [show (0 : Int).natAbs = 0 from rfl, write_zero]; rfl
  · rw [dec32_inf h, if_neg (by simp; omega)]
    cases (x / 2147483648 % 2 == 1) <;> rfl
  · obtain ⟨s, t, e⟩ := dec32_nan h
    rw [e, if_neg (by simp; omega)]; rfl

theorem l01Finite (x : Nat) (w : World) (hx : x < 4294967296) :
    Calls Tryz.prog 111 #[.float .f32 x] w fun e w' => e = .returned (.bool (finB x)) ∧ ∃ n, w' = w.drewN n := by
  have hs := sub_self32 x
  have hv : FV .f32 (fR .sub .f32 x x w) (fop .sub .f32 (cls .f32 x) (cls .f32 x)) := FV_fR (FV.self hx) (FV.self hx)
  have hv0 : FV .f32 0 (some 0) := ⟨by decide, by decide⟩
  have ho := ford_of hv hv0
  have h00 : FloatKind.f32.format.order 0 0 = some .eq := by decide
  have hgoal : (FloatKind.f32.format.order (fR .sub .f32 x x w) 0 == some .eq) = finB x := by
    rw [ho]
    cases hf : finB x
    · rw [hf] at hs
      have : fop .sub .f32 (cls .f32 x) (cls .f32 x) = none := by
        unfold cls
        split
        · rfl
        · exact hs
      rw [this]; rfl
    · rw [hf] at hs
      have hn : (FloatKind.f32.decode x).isNaN = false := (floatBits_ok (r := 0) (by rw [hs]; rfl)).1
      have : fop .sub .f32 (cls .f32 x) (cls .f32 x) = some 0 := by rw [cls_num hn]; exact hs
      rw [this]; exact (congrArg (· == some Ordering.eq) h00)
  clear hs hv hv0 ho h00
  have H := Lib.hid hgoal
  clear hgoal
  go_enter Tryz.func111, Tryz.ntmps111
  go_wp2
  go_ret
  exact ⟨ret_bool H.out, _, rfl⟩

theorem math_Abs (x : Nat) (w : World) (hx : x < 18446744073709551616) :
    Calls Tryz.prog 167 #[.float .f64 x] w fun e w' => e = .returned (.float .f64 (x % 9223372036854775808)) ∧ w' = w := by
  have u := Tryz.underlying52
  go_enter Tryz.func167, Tryz.ntmps167
  go_wp2
  go_ret
  refine ⟨?_, rfl⟩
  have e : bits .andNot .u64 (x : Int) ((9223372036854775808 : Nat) : Int) = ((x % 9223372036854775808 : Nat) : Int) := by
    rw [u64_andNot_nat x 9223372036854775808 hx (by decide)]
    rw [show (18446744073709551615 - 9223372036854775808 : Nat) = 2 ^ 63 - 1 by decide, Nat.and_two_pow_sub_one_eq_mod]
  show Ending.returned (Value.float FloatKind.f64 (bits .andNot .u64 (x : Int) ((9223372036854775808 : Nat) : Int)).toNat) = _
  rw [e, Int.toNat_natCast]

theorem quo_one (x : Nat) (hn : (FloatKind.f64.decode x).isNaN = false) : ∃ r, floatBits .quo .f64 4607182418800017408 x = some r := by
  show ∃ r, ((FloatKind.f64.decode 4607182418800017408).quotient _ (FloatKind.f64.decode x)).map FloatKind.f64.format.write = some r
  have e : FloatKind.f64.decode 4607182418800017408 = .number false 4503599627370496 (-52) := by decide
  rw [e]
  cases hd : FloatKind.f64.decode x with
  | nan s t => rw [hd] at hn; simp [Ieee.Datum.isNaN] at hn
  | infinity s => exact ⟨_, rfl⟩
  | number s m p =>
    by_cases hm : m = 0
    · subst hm; exact ⟨_, rfl⟩
    · simp only [Ieee.Datum.quotient, if_neg hm]; exact ⟨_, rfl⟩

theorem laws_sameFloat (a b : Nat) (c : Option Nat) (w : World) (ha : FV .f64 a c) (hb : FV .f64 b c) :
    Calls Tryz.prog 22 #[.float .f64 a, .float .f64 b] w fun e w' => e = .returned (.bool true) ∧ ∃ n, w' = w.drewN n := by
  have u := Tryz.underlying52
  cases c with
  | none =>
    have h1 : FloatKind.f64.format.order a a = none := order_nan (.inl ha.nan)
    have h2 : FloatKind.f64.format.order b b = none := order_nan (.inl hb.nan)
    clear ha hb
    go_enter Tryz.func22, Tryz.ntmps22
    go_wp2
    go_ret
    exact ⟨rfl, 0, rfl⟩
  | some x =>
    obtain rfl := ha.num
    obtain rfl := hb.num
    have h1 : FloatKind.f64.format.order b b = some .eq := order_self ha.notnan
    obtain ⟨r, hr⟩ := quo_one b ha.notnan
    have h2 : ∀ w, fR .quo .f64 4607182418800017408 b w = r := fun w => by unfold fR; rw [hr]
    clear ha hb hr
    cases h0 : (FloatKind.f64.format.order b 0 == some .eq)
    all_goals
      go_enter Tryz.func22, Tryz.ntmps22
      go_wp2
      go_ret
      first | exact ⟨rfl, 0, rfl⟩ | exact ⟨rfl, _, rfl⟩ | exact ⟨ret_bool (by simp), _, rfl⟩

/-! Infinities -/
theorem max64 : FloatKind.f64.decode 9218868437227405311 = .number false 9007199254740991 971 := by decide
/-- Is greater than the greatest number: the positive infinity alone. -/
theorem gt_max (x : Nat) (hx : x < 18446744073709551616) : (FloatKind.f64.format.order x 9218868437227405311 == some .gt) = decide (x = 9218868437227405312) := by
  have e3 : 2 ^ FloatKind.f64.format.width = 18446744073709551616 := by decide
  have nm : (FloatKind.f64.decode 9218868437227405311).isNaN = false := by rw [max64]; rfl
  cases hn : (FloatKind.f64.decode x).isNaN
  · rw [order_key (by rw [e3]; exact hx) (by rw [e3]; decide) hn nm]
    have hn' := hn
    rw [isNaN_decode] at hn'
    have e1 : FloatKind.f64.format.infRung = 9218868437227405312 := by decide
    have e2 : FloatKind.f64.format.signWeight = 9223372036854775808 := by decide
    rw [e1, e2] at hn'
    have hn'' : ¬ 9218868437227405312 < x % 9223372036854775808 := by simpa using hn'
    have k1 : key .f64 9218868437227405311 = 9218868437227405311 := by decide
    have k2 : key .f64 x = if x < 9223372036854775808 then (x : Int) else 9223372036854775808 - x := by unfold key; rw [e2]; rfl
    rw [k1]
    by_cases h : x = 9218868437227405312
    · rw [decide_eq_true h]
      have : key .f64 x > 9218868437227405311 := by rw [k2, if_pos (by omega)]; omega
      rw [Int.compare_eq_gt.2 this]; rfl
    · rw [decide_eq_false h]
      have : ¬ key .f64 x > 9218868437227405311 := by rw [k2]; split <;> omega
      cases hc : compare (key .f64 x) 9218868437227405311
      · rfl
      · rfl
      · exact absurd (Int.compare_eq_gt.1 hc) this
  · rw [order_nan (.inl hn)]
    by_cases h : x = 9218868437227405312
    · subst h; rw [isNaN_decode] at hn; exact absurd hn (by decide)
    · rw [decide_eq_false h]; rfl

theorem math_IsInf0 (x : Nat) (w : World) (hx : x < 18446744073709551616) :
    Calls Tryz.prog 134 #[.float .f64 x, .int .i64 0] w fun e w' => e = .returned (.bool (decide (x % 9223372036854775808 = 9218868437227405312))) ∧ w' = w := by
  have u := Tryz.underlying52
  have h := gt_max (x % 9223372036854775808) (by omega)
  have H := Lib.hid h
  clear h
  go_enter Tryz.func134, Tryz.ntmps134
  go_wp2_with (go_at_call 167; refine (math_Abs _ _ (by assumption)).mono ?_; rintro e w' ⟨rfl, rfl⟩)
  go_ret
  exact ⟨ret_bool H.out, rfl⟩
theorem math_IsInf1 (x : Nat) (w : World) (hx : x < 18446744073709551616) :
    Calls Tryz.prog 134 #[.float .f64 x, .int .i64 1] w fun e w' => e = .returned (.bool (decide (x = 9218868437227405312))) ∧ w' = w := by
  have u := Tryz.underlying52
  have h := gt_max x hx
  have H := Lib.hid h
  clear h
  go_enter Tryz.func134, Tryz.ntmps134
  go_wp2
  go_ret
  exact ⟨ret_bool H.out, rfl⟩

/-- The 64-bit words of 32-bit ones. -/
theorem wid_cases {x : Nat} (hx : x < 4294967296) (hn : nan32 x = false) :
    (x % 2147483648 = 2139095040 ∧ wid x = (if x < 2147483648 then 0 else 9223372036854775808) + 9218868437227405312) ∨
    (x % 2147483648 < 2139095040 ∧ ∃ r, r < 5188146770730811392 ∧ wid x = (if x < 2147483648 then 0 else 9223372036854775808) + r) := by
  rw [nan32_iff] at hn
  have hn' : ¬ 2139095040 < x % 2147483648 := by simpa using hn
  have hs : (x / 2147483648 % 2 == 1) = decide (¬ x < 2147483648) := by
    by_cases h : x < 2147483648
    · rw [Nat.div_eq_of_lt h]; simp [h]
    · have h1 : x / 2147483648 = 1 := by omega
      rw [h1]; simp [h]
  have e2 : Ieee.double.signWeight = 9223372036854775808 := by decide
  by_cases h : x % 2147483648 = 2139095040
  · refine .inl ⟨h, ?_⟩
    have e1 : Ieee.double.infRung = 9218868437227405312 := by decide
    unfold wid
    rw [dec32_inf h, hs]
    show Ieee.double.word _ Ieee.double.infRung = _
    unfold Ieee.Format.word
    rw [e1, e2]
    by_cases h2 : x < 2147483648 <;> simp [h2]
  · refine .inr ⟨by omega, ?_⟩
    obtain ⟨m, p, e⟩ := dec32_fin (x := x) (by omega)
    obtain ⟨r, he, hr⟩ := wid_word x _ m p e
    refine ⟨r, hr, ?_⟩
    rw [he, hs]
    unfold Ieee.Format.word
    rw [e2]
    by_cases h2 : x < 2147483648 <;> simp [h2]
theorem wR_lt {x : Nat} (w : World) (hx : x < 4294967296) : wR x w < 18446744073709551616 := (FV_wR (FV.self (k := .f32) hx)).1
theorem wR_num {x : Nat} (w : World) (hn : nan32 x = false) : wR x w = wid x := by unfold wR; rw [if_neg (by simp [hn])]
theorem inf0 {x : Nat} (w : World) (hx : x < 4294967296) (hn : nan32 x = false) : decide (wR x w % 9223372036854775808 = 9218868437227405312) = !finB x := by
  rw [wR_num w hn]
  unfold finB
  rcases wid_cases hx hn with ⟨h1, h2⟩ | ⟨h1, r, hr, h2⟩
  · rw [h2, decide_eq_true (by split <;> omega), decide_eq_false (by omega)]; rfl
  · rw [h2, decide_eq_false (by split <;> omega), decide_eq_true h1]; rfl
theorem inf1 {x : Nat} (w : World) (hx : x < 4294967296) : decide (wR x w = 9218868437227405312) = decide (x = 2139095040) := by
  cases hn : nan32 x
  · rw [wR_num w hn]
    rcases wid_cases hx hn with ⟨h1, h2⟩ | ⟨h1, r, hr, h2⟩
    · rw [h2]; congr 1; apply propext; split <;> omega
    · rw [h2]; congr 1; apply propext; split <;> omega
  · have h : (FloatKind.f64.decode (wR x w)).isNaN = true := by rw [wR_nan]; exact hn
    have a : ¬ wR x w = 9218868437227405312 := fun e => by rw [e, isNaN_decode] at h; exact absurd h (by decide)
    have b : ¬ x = 2139095040 := fun e => by rw [e] at hn; rw [nan32_iff] at hn; exact absurd hn (by decide)
    rw [decide_eq_false a, decide_eq_false b]

theorem impl_IsFinite (x : Nat) (w : World) (hx : x < 4294967296) :
    Calls Tryz.prog 113 #[.float .f32 x] w fun e w' => e = .returned (.bool (finB x)) ∧ ∃ n, w' = w.drewN n := by
  have u := Tryz.underlying52
  have u' := Tryz.underlying27
  have hlt := fun w => wR_lt (x := x) w hx
  cases hn : nan32 x
  · have h0 := fun w => inf0 (x := x) w hx hn
    go_enter Tryz.func113, Tryz.ntmps113
    go_wp2_with (first
      | (go_at_call 133; refine (impl_isNaN _ _).mono ?_; rintro e w' ⟨rfl, n, rfl⟩)
      | (go_at_call 134; refine (math_IsInf0 _ _ (hlt _)).mono ?_; rintro e w' ⟨rfl, rfl⟩))
    go_ret
    exact ⟨ret_bool (by simp), _, rfl⟩
  · have hf : finB x = false := by
      rw [nan32_iff] at hn; unfold finB; simp at hn ⊢; omega
    have H := Lib.hid hf
    clear hf
    go_enter Tryz.func113, Tryz.ntmps113
    go_wp2_with (first
      | (go_at_call 133; refine (impl_isNaN _ _).mono ?_; rintro e w' ⟨rfl, n, rfl⟩))
    go_ret
    exact ⟨ret_bool H.out.symm, _, rfl⟩
end Go.Proofs.YtnbfaedopjkgpaaGreat


/-
From 64 bits to 32, roots, and how great results of operations are at most. Conditions: none; where a conversion would leave its range, its result is left open.
-/
namespace Go.Proofs.YtnbfaedopjkgpaaGreat
namespace Fk
open Go
set_option linter.unusedVariables false

/-- The 32-bit word of a 64-bit one that is no not-a-number and in range. -/
def nar (y : Nat) : Nat := FloatKind.f32.encode (FloatKind.f64.decode y)
/-- Is out of range. -/
def ovf (y : Nat) : Bool := match FloatKind.f64.decode y with
  | .number s m p => (FloatKind.f32.decode (FloatKind.f32.encode (.number s m p))).isInfinity
  | _ => false
def nR (y : Nat) (w : World) : Nat := if (FloatKind.f64.decode y).isNaN then (Question.nanConv .f32 y).cut (w.tape w.drawn (.nanConv .f32 y))
  else if ovf y then (Question.floatToFloat y).cut (w.tape w.drawn (.floatToFloat y)) else nar y
def nN (y : Nat) : Nat := if (FloatKind.f64.decode y).isNaN then 1 else if ovf y then 1 else 0
theorem nar_lt (y : Nat) : nar y < 2 ^ FloatKind.f32.format.width := FloatKind.f32.format.write_lt _
theorem FV_nR {y : Nat} {w : World} {c : Option Nat} (h : FV .f64 y c) (ho : ovf y = false) : FV .f32 (nR y w) (c.map nar) := by
  unfold nR
  cases c with
  | none =>
    rw [if_pos h.nan]
    have := cutConv_nan .f32 y (w.tape w.drawn (.nanConv .f32 y))
    exact ⟨this.1, cls_nan this.2⟩
  | some a =>
    obtain rfl := h.num
    have hn := h.notnan
    rw [if_neg (by simp [hn]), if_neg (by simp [ho])]
    exact ⟨nar_lt y, cls_num (isNaN_write .f32 _ hn)⟩
section
variable {P : Program} (w : World)
@[go_sem] theorem run_nR (src dst : TypeId) (y : Nat) (hs : (P.underlying src).isSome = true) (hd : P.underlying dst = some (.float .f32)) :
    (convert src dst (.float .f64 y)).run P w = .ok (.float .f32 (nR y w)) (w.drewN (nN y)) := by
  obtain ⟨u, hs'⟩ := Option.isSome_iff_exists.1 hs
  have hq : (Question.nanConv .f32 y).forced = false := rfl
  have hq' : (Question.floatToFloat y).forced = false := rfl
  cases hd' : FloatKind.f64.decode y with
  | nan s t =>
    have e : (FloatKind.f64.decode y).isNaN = true := by rw [hd']; rfl
    unfold nR nN
    rw [if_pos e, if_pos e]
    cases u <;> simp [convert, run_underlying hs', run_underlying hd, Conv.floatToFloat, hd', hq] <;> rfl
  | infinity s =>
    have e : (FloatKind.f64.decode y).isNaN = false := by rw [hd']; rfl
    have e' : ovf y = false := by unfold ovf; rw [hd']
    unfold nR nN
    rw [e, e', if_neg Bool.false_ne_true, if_neg Bool.false_ne_true, if_neg Bool.false_ne_true, if_neg Bool.false_ne_true]
    unfold nar; rw [hd']
    cases u <;> simp [convert, run_underlying hs', run_underlying hd, Conv.floatToFloat, hd'] <;> rfl
  | number s m p =>
    have e : (FloatKind.f64.decode y).isNaN = false := by rw [hd']; rfl
    have eo : ovf y = (FloatKind.f32.decode (FloatKind.f32.encode (.number s m p))).isInfinity := by unfold ovf; rw [hd']
    unfold nR nN
    rw [e, if_neg Bool.false_ne_true, if_neg Bool.false_ne_true]
    cases ho : ovf y
    · rw [ho] at eo
      rw [if_neg Bool.false_ne_true, if_neg Bool.false_ne_true]
      unfold nar; rw [hd']
      cases u <;> simp [convert, run_underlying hs', run_underlying hd, Conv.floatToFloat, hd', eo.symm] <;> rfl
    · rw [ho] at eo
      rw [if_pos rfl, if_pos rfl]
      cases u <;> simp [convert, run_underlying hs', run_underlying hd, Conv.floatToFloat, hd', eo.symm, hq'] <;> rfl
end

/-! The greatest size of what is rounded -/
theorem kept_le (f : Ieee.Format) (s : Bool) (m : Nat) (p last : Int) (h0 : m ≠ 0) (h1 : p + m.log2 - f.fractionBits ≤ last) :
    Ieee.Toward.even.cut s (m <<< (p - last).toNat) (last - p).toNat ≤ 2 * f.binade := by
  have hB : 2 * f.binade = 2 ^ (f.fractionBits + 1) := by unfold Ieee.Format.binade; rw [Nat.pow_succ, Nat.mul_comm]
  rw [hB]
  have hlt : m < 2 ^ (m.log2 + 1) := Nat.lt_log2_self
  by_cases hp : p ≤ last
  · have e : (p - last).toNat = 0 := by omega
    rw [e, Nat.shiftLeft_zero]
    generalize hd : (last - p).toNat = d
    have hd' : m.log2 ≤ f.fractionBits + d := by omega
    unfold Ieee.Toward.cut
    dsimp only
    rw [Nat.shiftLeft_eq, Nat.one_mul]
    have hlow : m / 2 ^ min d (m.log2 + 2) + 1 ≤ 2 ^ (f.fractionBits + 1) := by
      by_cases h : d ≤ m.log2 + 2
      · rw [Nat.min_eq_left h]
        have : m / 2 ^ d < 2 ^ (f.fractionBits + 1) := by
          rw [Nat.div_lt_iff_lt_mul (Nat.two_pow_pos _), ← Nat.pow_add]
          exact Nat.lt_of_lt_of_le hlt (Nat.pow_le_pow_right (by decide) (by omega))
        omega
      · rw [Nat.min_eq_right (by omega)]
        have : m / 2 ^ (m.log2 + 2) = 0 := Nat.div_eq_of_lt (Nat.lt_of_lt_of_le hlt (Nat.pow_le_pow_right (by decide) (by omega)))
        rw [this]
        exact Nat.two_pow_pos _
    refine Nat.le_trans (Nat.add_le_add_left ?_ _) hlow
    cases (2 ^ min d (m.log2 + 2) < 2 * (m % 2 ^ min d (m.log2 + 2)) || (2 ^ min d (m.log2 + 2) == 2 * (m % 2 ^ min d (m.log2 + 2)) && m / 2 ^ min d (m.log2 + 2) % 2 == 1)) <;> simp
  · have e : (last - p).toNat = 0 := by omega
    rw [e, even_cut_zero, Nat.shiftLeft_eq]
    have : m * 2 ^ (p - last).toNat < 2 ^ (m.log2 + 1) * 2 ^ (p - last).toNat := Nat.mul_lt_mul_of_pos_right hlt (Nat.two_pow_pos _)
    rw [← Nat.pow_add] at this
    exact Nat.le_trans (Nat.le_of_lt this) (Nat.pow_le_pow_right (by decide) (by omega))

/-- The rung of a number less than two to the power of e in size is at most that of this power. -/
theorem nearest_small (f : Ieee.Format) (s : Bool) (m : Nat) (p e : Int) (h : m ≠ 0 → p + m.log2 < e) (he : f.leastPlace + f.fractionBits + 1 ≤ e) :
    ∃ r, f.nearest s m p = f.word s r ∧ r ≤ (e - f.fractionBits - f.leastPlace + 1).toNat * f.binade ∧ r ≤ f.infRung := by
  unfold Ieee.Format.nearest
  dsimp only
  by_cases h0 : m = 0
  · rw [if_pos h0]; exact ⟨0, rfl, Nat.zero_le _, Nat.zero_le _⟩
  · rw [if_neg h0]
    refine ⟨_, rfl, ?_, Nat.min_le_right _ _⟩
    refine Nat.le_trans (Nat.min_le_left _ _) ?_
    have h1 := h h0
    generalize hl : max (p + (m.log2 : Int) - f.fractionBits) f.leastPlace = last
    have hk := kept_le f s m p last h0 (by omega)
    have hle : (last - f.leastPlace).toNat + 2 ≤ (e - f.fractionBits - f.leastPlace + 1).toNat := by omega
    have := Nat.mul_le_mul_right f.binade hle
    rw [Nat.add_mul] at this
    omega

/-- In size less than two to the power of e. -/
def MB (k : FloatKind) (x : Nat) (e : Int) : Prop := ∃ s m p, k.decode x = .number s m p ∧ (m ≠ 0 → p + m.log2 < e)
theorem MB.notnan {k : FloatKind} {x : Nat} {e : Int} (h : MB k x e) : (k.decode x).isNaN = false := by
  obtain ⟨s, m, p, h1, _⟩ := h; rw [h1]; rfl
theorem MB.mono {k : FloatKind} {x : Nat} {e e' : Int} (h : MB k x e) (he : e ≤ e') : MB k x e' := by
  obtain ⟨s, m, p, h1, h2⟩ := h; exact ⟨s, m, p, h1, fun h => by have := h2 h; omega⟩
/-- A 64-bit number of the size of the 32-bit ones is in range. -/
theorem ovf_small {y : Nat} (h : MB .f64 y 127) : ovf y = false := by
  obtain ⟨s, m, p, h1, h2⟩ := h
  unfold ovf
  rw [h1]
  show (FloatKind.f32.decode (FloatKind.f32.format.nearest s m p)).isInfinity = false
  obtain ⟨r, hr, hb, _⟩ := nearest_small FloatKind.f32.format s m p 127 h2 (by decide)
  have e1 : (127 - (FloatKind.f32.format.fractionBits : Int) - FloatKind.f32.format.leastPlace + 1).toNat * FloatKind.f32.format.binade = 2130706432 := by decide
  rw [e1] at hb
  rw [hr]
  show (FloatKind.f32.format.read (FloatKind.f32.format.word s r)).isInfinity = false
  have e2 : FloatKind.f32.format.infRung = 2139095040 := by decide
  unfold Ieee.Format.read
  dsimp only
  rw [word_mod _ _ _ (show r < FloatKind.f32.format.signWeight by rw [show FloatKind.f32.format.signWeight = 2147483648 by decide]; omega)]
  split
  · rfl
  · rw [if_pos (by rw [e2]; omega)]; rfl
end Fk
end Go.Proofs.YtnbfaedopjkgpaaGreat


/-
What the functions on vectors return, of the program and of its model. Conditions: none beyond that the words fit.
-/
namespace Go.Proofs.YtnbfaedopjkgpaaGreat
open Go Fk Go.RowKit
set_option linter.unusedVariables false

abbrev vv (x y z : Nat) : Value := .agg #[.float .f32 x, .float .f32 y, .float .f32 z]
theorem bcell {W w1 : World} (hb : Below W.heap.size W w1) : (∀ b o, b < W.heap.size → w1.cell? ⟨b, o, none⟩ = W.cell? ⟨b, o, none⟩) ∧ (∀ b o, b < W.heap.size → w1.frozen? ⟨b, o, none⟩ = W.frozen? ⟨b, o, none⟩) :=
  ⟨fun b o h => hb.cell (p := ⟨b, o, none⟩) h, fun b o h => hb.frozen (p := ⟨b, o, none⟩) h⟩
theorem cell_alloc {w : World} {o : Obj} {b i : Nat} {v : Value} (hc : w.cell? ⟨b, i, none⟩ = some v) : (w.alloc o).cell? ⟨b, i, none⟩ = some v := by
  have h : (⟨b, i, none⟩ : Addr).block < w.heap.size := World.block_lt_of_cell? w _ hc
  rw [World.cell?_alloc_lt (h := h)]; exact hc
theorem new0 {w : World} {u v t : Value} {T : TypeId} : (w.alloc (.cells #[u, v, t] T)).cell? ⟨w.heap.size, 0, none⟩ = some u := by simp
theorem new1 {w : World} {u v t : Value} {T : TypeId} : (w.alloc (.cells #[u, v, t] T)).cell? ⟨w.heap.size, 1, none⟩ = some v := by simp
theorem new2 {w : World} {u v t : Value} {T : TypeId} : (w.alloc (.cells #[u, v, t] T)).cell? ⟨w.heap.size, 2, none⟩ = some t := by simp
theorem newf {w : World} {u v t : Value} {T : TypeId} {i : Nat} : (w.alloc (.cells #[u, v, t] T)).frozen? ⟨w.heap.size, i, none⟩ = false := by simp
theorem frz_drew {w : World} {a : Addr} {b : Bool} (h : w.frozen? a = b) : w.drew.frozen? a = b := h
theorem frz_drewN {w : World} {n : Nat} {a : Addr} {b : Bool} (h : w.frozen? a = b) : (w.drewN n).frozen? a = b := h
theorem set3 {w : World} {n : Nat} {u v t u0 v0 t0 : Value} (h0 : w.cell? ⟨n, 0, none⟩ = some u0) (h1 : w.cell? ⟨n, 1, none⟩ = some v0) (h2 : w.cell? ⟨n, 2, none⟩ = some t0) :
    (((w.setCell ⟨n, 0, none⟩ u).setCell ⟨n, 1, none⟩ v).setCell ⟨n, 2, none⟩ t).cell? ⟨n, 0, none⟩ = some u ∧ (((w.setCell ⟨n, 0, none⟩ u).setCell ⟨n, 1, none⟩ v).setCell ⟨n, 2, none⟩ t).cell? ⟨n, 1, none⟩ = some v ∧ (((w.setCell ⟨n, 0, none⟩ u).setCell ⟨n, 1, none⟩ v).setCell ⟨n, 2, none⟩ t).cell? ⟨n, 2, none⟩ = some t := by
  have a0 := World.cell?_setCell_same w ⟨n, 0, none⟩ u h0
  have a1 : (w.setCell ⟨n, 0, none⟩ u).cell? ⟨n, 1, none⟩ = some v0 := by rw [World.cell?_setCell_other _ _ _ _ (by simp)]; exact h1
  have a2 : (w.setCell ⟨n, 0, none⟩ u).cell? ⟨n, 2, none⟩ = some t0 := by rw [World.cell?_setCell_other _ _ _ _ (by simp)]; exact h2
  have b1 := World.cell?_setCell_same (w.setCell ⟨n, 0, none⟩ u) ⟨n, 1, none⟩ v a1
  have b2 : ((w.setCell ⟨n, 0, none⟩ u).setCell ⟨n, 1, none⟩ v).cell? ⟨n, 2, none⟩ = some t0 := by rw [World.cell?_setCell_other _ _ _ _ (by simp)]; exact a2
  refine ⟨?_, ?_, World.cell?_setCell_same _ _ _ b2⟩
  · rw [World.cell?_setCell_other _ _ _ _ (by simp), World.cell?_setCell_other _ _ _ _ (by simp)]; exact a0
  · rw [World.cell?_setCell_other _ _ _ _ (by simp)]; exact b1
theorem frozen_below {W w : World} {b i : Nat} (hb : Below W.heap.size W w) (h : b < W.heap.size) (hf : W.frozen? ⟨b, i, none⟩ = false) : w.frozen? ⟨b, i, none⟩ = false := by
  rw [hb.frozen (p := ⟨b, i, none⟩) h]; exact hf
theorem cell_drew {w : World} {a : Addr} {v : Value} (hc : w.cell? a = some v) : w.drew.cell? a = some v := hc
theorem cell_drewN {w : World} {n : Nat} {a : Addr} {v : Value} (hc : w.cell? a = some v) : (w.drewN n).cell? a = some v := hc
theorem cell_set {w : World} {a : Addr} {u v : Value} {b i : Nat} (hne : a.block ≠ b) (hc : w.cell? ⟨b, i, none⟩ = some v) : (w.setCell a u).cell? ⟨b, i, none⟩ = some v := by
  rw [World.cell?_setCell_far (h := hne)]; exact hc
theorem below_call {B : Nat} {w0 W w1 : World} (hp : Below B w0 W) (hB : B ≤ w0.heap.size) (hb : Below W.heap.size W w1) : Below B w0 w1 := hp.trans (hb.mono (Nat.le_trans hB hp.size))
theorem below_set3 {B : Nat} {w0 W : World} {n o1 o2 o3 : Nat} {u v t : Value} (hp : Below B w0 W) (hn : B ≤ n) : Below B w0 (((W.setCell ⟨n, o1, none⟩ u).setCell ⟨n, o2, none⟩ v).setCell ⟨n, o3, none⟩ t) := ((hp.setCell hn _).setCell hn _).setCell hn _
theorem below_new {B : Nat} {w0 W : World} {o : Obj} (hp : Below B w0 W) (hB : B ≤ w0.heap.size) : Below B w0 (W.alloc o) := hp.alloc (Nat.le_trans hB hp.size) _
theorem cell_below {W w : World} {b i : Nat} {v : Value} (hb : Below W.heap.size W w) (hc : W.cell? ⟨b, i, none⟩ = some v) : w.cell? ⟨b, i, none⟩ = some v := by
  have h : b < W.heap.size := World.block_lt_of_cell? W _ hc
  rw [hb.cell (p := ⟨b, i, none⟩) h]; exact hc

theorem impl_AddVectors (x y z x' y' z' : Nat) (w : World) (c d e c' d' e' : Option Nat) (h1 : FV .f32 x c) (h2 : FV .f32 y d) (h3 : FV .f32 z e) (h1' : FV .f32 x' c') (h2' : FV .f32 y' d') (h3' : FV .f32 z' e') :
    Calls Tryz.prog 110 #[vv x y z, vv x' y' z'] w fun en w' => ∃ a b g, en = .returned (vv a b g) ∧ FV .f32 a (fop .add .f32 c c') ∧ FV .f32 b (fop .add .f32 d d') ∧ FV .f32 g (fop .add .f32 e e') ∧ Below w.heap.size w w' := by
  have u := Tryz.underlying27
  have uv := Tryz.underlying40
  go_enter Tryz.func110, Tryz.ntmps110
  go_wp2
  refine bodyPost_ret (v := vv _ _ _) (by simp [results, Tryz.results110, go_sem]; exact ⟨rfl, rfl, rfl⟩) rfl ⟨_, _, _, rfl, FV_fR h1 h1', FV_fR h2 h2', FV_fR h3 h3', ?_⟩
  exact below_drewN ((((Below.refl _ _).alloc (Nat.le_refl _) _).alloc (by simp) _).alloc (by simp; omega) _) _
theorem l01Add (x y z x' y' z' : Nat) (w : World) (c d e c' d' e' : Option Nat) (h1 : FV .f32 x c) (h2 : FV .f32 y d) (h3 : FV .f32 z e) (h1' : FV .f32 x' c') (h2' : FV .f32 y' d') (h3' : FV .f32 z' e') :
    Calls Tryz.prog 105 #[vv x y z, vv x' y' z'] w fun en w' => ∃ a b g, en = .returned (vv a b g) ∧ FV .f32 a (fop .add .f32 c c') ∧ FV .f32 b (fop .add .f32 d d') ∧ FV .f32 g (fop .add .f32 e e') ∧ Below w.heap.size w w' := by
  have u := Tryz.underlying27
  have uv := Tryz.underlying40
  go_enter Tryz.func105, Tryz.ntmps105
  go_wp2
  refine bodyPost_ret (v := vv _ _ _) (by simp [results, Tryz.results105, go_sem]; exact ⟨rfl, rfl, rfl⟩) rfl ⟨_, _, _, rfl, FV_fR h1 h1', FV_fR h2 h2', FV_fR h3 h3', ?_⟩
  exact below_drewN ((((Below.refl _ _).alloc (Nat.le_refl _) _).alloc (by simp) _).alloc (by simp; omega) _) _
theorem impl_LessVectors (x y z x' y' z' : Nat) (w : World) (c d e c' d' e' : Option Nat) (h1 : FV .f32 x c) (h2 : FV .f32 y d) (h3 : FV .f32 z e) (h1' : FV .f32 x' c') (h2' : FV .f32 y' d') (h3' : FV .f32 z' e') :
    Calls Tryz.prog 224 #[vv x y z, vv x' y' z'] w fun en w' => ∃ a b g, en = .returned (vv a b g) ∧ FV .f32 a (fop .sub .f32 c c') ∧ FV .f32 b (fop .sub .f32 d d') ∧ FV .f32 g (fop .sub .f32 e e') ∧ Below w.heap.size w w' := by
  have u := Tryz.underlying27
  have uv := Tryz.underlying40
  go_enter Tryz.func224, Tryz.ntmps224
  go_wp2
  refine bodyPost_ret (v := vv _ _ _) (by simp [results, Tryz.results224, go_sem]; exact ⟨rfl, rfl, rfl⟩) rfl ⟨_, _, _, rfl, FV_fR h1 h1', FV_fR h2 h2', FV_fR h3 h3', ?_⟩
  exact below_drewN ((((Below.refl _ _).alloc (Nat.le_refl _) _).alloc (by simp) _).alloc (by simp; omega) _) _
theorem l01Less (x y z x' y' z' : Nat) (w : World) (c d e c' d' e' : Option Nat) (h1 : FV .f32 x c) (h2 : FV .f32 y d) (h3 : FV .f32 z e) (h1' : FV .f32 x' c') (h2' : FV .f32 y' d') (h3' : FV .f32 z' e') :
    Calls Tryz.prog 88 #[vv x y z, vv x' y' z'] w fun en w' => ∃ a b g, en = .returned (vv a b g) ∧ FV .f32 a (fop .sub .f32 c c') ∧ FV .f32 b (fop .sub .f32 d d') ∧ FV .f32 g (fop .sub .f32 e e') ∧ Below w.heap.size w w' := by
  have u := Tryz.underlying27
  have uv := Tryz.underlying40
  go_enter Tryz.func88, Tryz.ntmps88
  go_wp2
  refine bodyPost_ret (v := vv _ _ _) (by simp [results, Tryz.results88, go_sem]; exact ⟨rfl, rfl, rfl⟩) rfl ⟨_, _, _, rfl, FV_fR h1 h1', FV_fR h2 h2', FV_fR h3 h3', ?_⟩
  exact below_drewN ((((Below.refl _ _).alloc (Nat.le_refl _) _).alloc (by simp) _).alloc (by simp; omega) _) _
theorem laws_toVector (x y z : Nat) (w : World) :
    Calls Tryz.prog 49 #[vv x y z] w fun en w' => en = .returned (vv x y z) ∧ Below w.heap.size w w' := by
  have u := Tryz.underlying27
  have uv := Tryz.underlying40
  go_enter Tryz.func49, Tryz.ntmps49
  go_wp2
  refine bodyPost_ret (v := vv x y z) (by simp [results, Tryz.results49, go_sem]) rfl ⟨rfl, ?_⟩
  exact (((Below.refl _ _).alloc (Nat.le_refl _) _).alloc (by simp) _).alloc (by simp; omega) _
theorem laws_eqVector (x y z x' y' z' : Nat) (w : World) (c d e : Option Nat) (h1 : FV .f32 x c) (h2 : FV .f32 y d) (h3 : FV .f32 z e) (h1' : FV .f32 x' c) (h2' : FV .f32 y' d) (h3' : FV .f32 z' e) :
    Calls Tryz.prog 55 #[vv x y z, vv x' y' z'] w fun en w' => en = .returned (.bool true) ∧ Below w.heap.size w w' := by
  have u := Tryz.underlying27
  have u' := Tryz.underlying52
  have uv := Tryz.underlying40
  go_enter Tryz.func55, Tryz.ntmps55
  go_wp2_with (go_at_call 22; refine (laws_sameFloat _ _ _ _ (FV_wR (by assumption)) (FV_wR (by assumption))).mono ?_; rintro en w' ⟨rfl, n1, rfl⟩)
  go_ret
  exact ⟨rfl, below_drewN (((Below.refl _ _).alloc (Nat.le_refl _) _).alloc (by simp) _) _⟩

end Go.Proofs.YtnbfaedopjkgpaaGreat

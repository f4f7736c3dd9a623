
/-
Angles: what the program and its model return. Conditions: none beyond that the words fit.
-/
import Derived.Test.YtcgnmnbjgamedaaAngM
import Derived.Test.YtcgnmnbjgamedaaRoot
import Derived.Test.YtcgnmnbjgamedaaFs
import Derived.LoopTactic
import Derived.IntWalk
import Derived.Lib.Hide
namespace Go.Proofs.Ytcgnmnbjgamedaa
open Go Fk Go.RowKit
set_option linter.unusedVariables false

theorem math_NaN (w : World) : Calls Try.prog 141 #[] w fun e w' => e = .returned (.float .f64 9221120237041090561) ∧ w' = w := by
  go_enter Try.func141, Try.ntmps141
  go_wp2
  go_ret
  exact ⟨rfl, rfl⟩
theorem fv_nan : FV .f64 9221120237041090561 none := ⟨by decide, by decide⟩
theorem ovf_nan : ovf 9221120237041090561 = false := by decide
theorem impl_notANumber (w : World) : Calls Try.prog 121 #[] w fun e w' => ∃ r, e = .returned (.float .f32 r) ∧ FV .f32 r none ∧ ∃ n, w' = w.drewN n := by
  go_enter Try.func121, Try.ntmps121
  go_wp2_with (first
    | (go_at_call 141; refine (math_NaN _).mono ?_; rintro e w' ⟨rfl, rfl⟩)
    | (go_at_call 120; refine (impl_Narrow _ _).mono ?_; rintro e w' ⟨rfl, n, rfl⟩))
  go_ret
  exact ⟨_, rfl, FV_nR fv_nan ovf_nan, _, rfl⟩
theorem impl_product64 (x y : Nat) (w : World) (c d : Option Nat) (h1 : FV .f64 x c) (h2 : FV .f64 y d) :
    Calls Try.prog 119 #[.float .f64 x, .float .f64 y] w fun en w' => ∃ r, en = .returned (.float .f64 r) ∧ FV .f64 r (fop .mul .f64 c d) ∧ ∃ n, w' = w.drewN n := by
  have u := Try.underlying26
  go_enter Try.func119, Try.ntmps119
  go_wp2
  go_ret
  exact ⟨_, rfl, FV_fR h1 h2, _, rfl⟩
theorem fv_one : FV .f64 4607182418800017408 (some one64) := ⟨by decide, by decide⟩
theorem fv_eight : FV .f64 4620693217682128896 (some eight64) := ⟨by decide, by decide⟩
theorem fv_turn : FV .f64 4618760256179416344 (some turn64) := ⟨by decide, by decide⟩
theorem fv_half : FV .f64 4602678819172646912 (some half64) := ⟨by decide, by decide⟩
theorem fv_quarter : FV .f64 4598175219545276416 (some quarter64) := ⟨by decide, by decide⟩
theorem fv_zero64 : FV .f64 0 (some 0) := ⟨by decide, by decide⟩
theorem fv_num64 (x : Nat) (h1 : x < 18446744073709551616) (h2 : (FloatKind.f64.decode x).isNaN = false) : FV .f64 x (some x) :=
  ⟨by rw [show 2 ^ FloatKind.f64.format.width = 18446744073709551616 by decide]; exact h1, cls_num h2⟩
theorem sub_self64 {x : Nat} {s : Bool} {m : Nat} {p : Int} (e : FloatKind.f64.decode x = .number s m p) : floatBits .sub .f64 x x = some 0 := by
  show ((FloatKind.f64.decode x).sum (FloatKind.f64.decode x).opposite).map FloatKind.f64.format.write = _
  rw [e]
  have : Ieee.signed s m (p - min p p).toNat + Ieee.signed (!s) m (p - min p p).toNat = 0 := by
    unfold Ieee.signed; cases s <;> simp <;> omega
  simp only [Ieee.Datum.opposite, Ieee.Datum.sum, this, if_true, Option.map_some]
  rw [show (s && !s) = false by cases s <;> rfl]
  rw [show (0 : Int).natAbs = 0 from rfl, write_zero]; rfl
theorem wid_dec {x : Nat} (hx : x < 4294967296) (hf : finB x = true) : ∃ s m p, FloatKind.f64.decode (wid x) = .number s m p := by
  have hlt := (AbsW_of hx hf).lt
  rw [dec64]
  by_cases h1 : wid x % 9223372036854775808 < 4503599627370496
  · rw [if_pos h1]; exact ⟨_, _, _, rfl⟩
  · rw [if_neg h1, if_pos hlt]; exact ⟨_, _, _, rfl⟩
theorem fin_num {x : Nat} (hf : finB x = true) : nan32 x = false := by
  rw [nan32_iff]; have : x % 2147483648 < 2139095040 := by simpa [finB] using hf
  exact decide_eq_false (by omega)
theorem sub_wid {x : Nat} (hx : x < 4294967296) (hf : finB x = true) (w : World) : fR .sub .f64 (wid x) (wid x) w = 0 := by
  obtain ⟨s, m, p, h⟩ := wid_dec hx hf
  unfold fR
  rw [sub_self64 h]
/-- What is not finite, less itself, is a not-a-number. -/
theorem sub_inf {x : Nat} {w w' : World} (hx : x < 4294967296) (hf : finB x = false) : (FloatKind.f64.format.order (fR .sub .f64 (wR x w) (wR x w) w') 0 != some .eq) = true := by
  have hv := FV_wR (w := w) (FV.self (k := .f32) hx)
  have hd : FV .f64 (fR .sub .f64 (wR x w) (wR x w) w') (fop .sub .f64 ((cls .f32 x).map wid) ((cls .f32 x).map wid)) := FV_fR hv hv
  rw [ford_of hd fv_zero64]
  have hn : fop .sub .f64 ((cls .f32 x).map wid) ((cls .f32 x).map wid) = none := by
    cases hn : nan32 x
    · have hf' : ¬ x % 2147483648 < 2139095040 := by simpa [finB] using hf
      rw [nan32_iff] at hn
      have hi : x % 2147483648 = 2139095040 := by have := of_decide_eq_false hn; omega
      have hw : wid x = FloatKind.f64.encode (.infinity (x / 2147483648 % 2 == 1)) := by unfold wid; rw [dec32_inf hi]
      rw [cls_num (by rw [dec32_inf hi]; rfl)]
      show floatBits .sub .f64 (wid x) (wid x) = none
      rw [hw]
      cases (x / 2147483648 % 2 == 1) <;> decide
    · rw [cls_nan hn]; rfl
  rw [hn]
  rfl

def angF (a b : Nat) (xn yn : Bool) : Option Nat := if yn then negC (angB a b xn) else angB a b xn
abbrev eq0 (x : Nat) : Bool := FloatKind.f32.format.order x 0 == some .eq
abbrev lt0 (x : Nat) : Bool := FloatKind.f32.format.order x 0 == some .lt
theorem eq0_iff {x : Nat} (hx : x < 4294967296) (hf : finB x = true) : eq0 x = decide (x % 2147483648 = 0) := by
  unfold eq0
  have e3 : 2 ^ FloatKind.f32.format.width = 4294967296 := by decide
  rw [order_key (by rw [e3]; exact hx) (by rw [e3]; decide) (fin_num hf) (by decide)]
  have k2 : key .f32 x = if x < 2147483648 then (x : Int) else 2147483648 - x := by
    unfold key; rw [show FloatKind.f32.format.signWeight = 2147483648 by decide]; rfl
  rw [k2, show key .f32 0 = 0 by decide]
  by_cases h0 : x % 2147483648 = 0
  · rw [decide_eq_true h0, Int.compare_eq_eq.2 (by split <;> omega)]; rfl
  · rw [decide_eq_false h0]
    have hne : ¬ (if x < 2147483648 then (x : Int) else 2147483648 - x) = 0 := by split <;> omega
    cases hc : compare (if x < 2147483648 then (x : Int) else 2147483648 - x) 0
    · rfl
    · exact absurd (Int.compare_eq_eq.1 hc) hne
    · rfl
/-- The sizes of a point that is not zero. -/
theorem point_ne {x y : Nat} (hx : x < 4294967296) (hy : y < 4294967296) (fx : finB x = true) (fy : finB y = true) (h : (eq0 x && eq0 y) = false) : wid y % 9223372036854775808 ≠ 0 ∨ wid x % 9223372036854775808 ≠ 0 := by
  rw [eq0_iff hx fx, eq0_iff hy fy] at h
  by_cases h0 : wid y % 9223372036854775808 = 0
  · right
    intro h1
    have a := (AbsW_zero hy fy).1 h0
    have b := (AbsW_zero hx fx).1 h1
    simp [a, b] at h
  · exact .inl h0
@[go_sem] theorem run_neg64 {P : Program} (k : FloatKind) (x : Nat) (w : World) : (Op.unary .neg (.float k x)).run P w = .ok (.float k (Op.negFloat k x)) w := rfl
theorem ang_end {y : Nat} {c : Option Nat} {w : World} (hv : FV .f64 y c) (h : LEC c 28) : FV .f32 (nR y w) (c.map nar) := FV_nR hv (LEC_ovf hv h (by decide))
theorem ang_endN {y : Nat} {c : Option Nat} {w : World} (hv : FV .f64 y c) (h : LEC c 28) : FV .f32 (nR (Op.negFloat .f64 y) w) ((negC c).map nar) := by
  obtain ⟨h1, h2⟩ := FV_neg hv h
  exact FV_nR h1 (LEC_ovf h1 h2 (by decide))
theorem ang_wide {y : Nat} {c : Option Nat} (hv : FV .f64 y c) (h : LEC c 28) : FV .f64 y c ∧ ovf y = false := ⟨hv, LEC_ovf hv h (by decide)⟩
theorem ang_wideN {y : Nat} {c : Option Nat} (hv : FV .f64 y c) (h : LEC c 28) : FV .f64 (Op.negFloat .f64 y) (negC c) ∧ ovf (Op.negFloat .f64 y) = false := by
  obtain ⟨h1, h2⟩ := FV_neg hv h
  exact ⟨h1, LEC_ovf h1 h2 (by decide)⟩
end Go.Proofs.Ytcgnmnbjgamedaa


/-
Sines: what the program and its model return. Conditions: none beyond that the words fit.
-/
import Derived.Test.YtejgenjafajpnaaAng
import Derived.Test.YtejgenjafajpnaaLogM
import Derived.Below
namespace Go.Proofs.Ytejgenjafajpnaa
open Go Fk Go.RowKit
set_option linter.unusedVariables false
set_option maxRecDepth 8000

theorem o_eq {r k : Nat} {c d : Option Nat} (o : Ordering) (hr : FV .f64 r c) (hk : FV .f64 k d) : (FloatKind.f64.format.order r k == some o) = (ford .f64 c d == some o) := by rw [ford_of hr hk]
def negB (f : Option Nat) : Bool := ford .f64 f (some 0) == some .lt
def lowB (f : Option Nat) : Bool := ford .f64 f (some half64) == some .gt || ford .f64 f (some half64) == some .eq
def quaB (f : Option Nat) : Bool := ford .f64 f (some quarter64) == some .gt
def shr (f : Option Nat) : Option Nat := if negB f then fop .add .f64 f (some one64) else f
def low (f : Option Nat) : Option Nat := if lowB f then fop .sub .f64 f (some half64) else f
def qua (f : Option Nat) : Option Nat := if quaB f then fop .sub .f64 (some half64) f else f
theorem LEC_qua {f : Option Nat} (h : LEC f 0) : LEC (qua (low (shr f))) 3 := by
  have h1 : LEC (shr f) 1 := by
    unfold shr; split
    · exact LEC_add h ⟨_, rfl, one_LE⟩ (by decide) (by decide)
    · exact h.mono (by decide)
  have h2 : LEC (low (shr f)) 2 := by
    unfold low; split
    · exact LEC_sub h1 (LEC_const 1 (x := half64) ⟨false, _, _, rfl, by decide, by decide⟩) (by decide) (by decide)
    · exact h1.mono (by decide)
  unfold qua; split
  · exact LEC_sub (LEC_const 2 (x := half64) ⟨false, _, _, rfl, by decide, by decide⟩) h2 (by decide) (by decide)
  · exact h2.mono (by decide)

theorem impl_shareOfTurn (x : Nat) (n : Int) (w : World) (hx : FV .f64 x (some x)) (hn : floatToIntVal .f64 x .i64 = some n) :
    Calls Try.prog 55 #[.float .f64 x] w fun e w' => ∃ r, e = .returned (.float .f64 r) ∧ FV .f64 r (shr (fop .sub .f64 (some x) (some (floatOfInt .f64 n)))) ∧ ∃ n, w' = w.drewN n := by
  have u := Try.underlying25
  have u' := Try.underlying2
  have hc : ∀ w, (convert 25 2 (.float .f64 x)).run Try.prog w = .ok (.int .i64 n) w := fun w => run_convert_float_int w 25 2 .f64 .i64 x n (by rw [u]; rfl) u' hn
  have hv : ∀ w, FV .f64 (fR .sub .f64 x (floatOfInt .f64 n) w) (fop .sub .f64 (some x) (some (floatOfInt .f64 n))) := fun w => FV_fR hx (fv_int n)
  have ho : ∀ w, (FloatKind.f64.format.order (fR .sub .f64 x (floatOfInt .f64 n) w) 0 == some .lt) = negB (fop .sub .f64 (some x) (some (floatOfInt .f64 n))) := fun w => o_eq _ (hv w) fv_zero64
  unfold shr
  cases hb : negB (fop .sub .f64 (some x) (some (floatOfInt .f64 n))) <;> rw [hb] at ho <;> clear hb
  all_goals
    go_enter Try.func55, Try.ntmps55
    go_wp2_with (simp only [hc])
    go_ret
    first | exact ⟨_, rfl, hv _, _, rfl⟩ | exact ⟨_, rfl, FV_fR (hv _) fv_one, _, rfl⟩
theorem impl_firstQuarter (f : Nat) (c : Option Nat) (w : World) (hf : FV .f64 f c) :
    Calls Try.prog 54 #[.float .f64 f] w fun e w' => (∃ r, e = .returned (.tuple #[.float .f64 r, .bool (lowB c)]) ∧ FV .f64 r (qua (low c))) ∧ ∃ n, w' = w.drewN n := by
  have u := Try.underlying25
  have ho : (FloatKind.f64.format.order f 4602678819172646912 == some .gt || FloatKind.f64.format.order f 4602678819172646912 == some .eq) = lowB c := by unfold lowB; rw [o_eq _ hf fv_half, o_eq _ hf fv_half]
  have hv : ∀ w, FV .f64 (fR .sub .f64 f 4602678819172646912 w) (fop .sub .f64 c (some half64)) := fun w => FV_fR hf fv_half
  have hq1 : ∀ w, (FloatKind.f64.format.order (fR .sub .f64 f 4602678819172646912 w) 4598175219545276416 == some .gt) = quaB (fop .sub .f64 c (some half64)) := fun w => o_eq _ (hv w) fv_quarter
  have hq2 : (FloatKind.f64.format.order f 4598175219545276416 == some .gt) = quaB c := o_eq _ hf fv_quarter
  unfold low
  cases hb : lowB c <;> rw [hb] at ho <;> clear hb <;> simp only [if_true, if_false, Bool.false_eq_true]
  all_goals
    unfold qua
    first
      | (cases hb1 : quaB (fop .sub .f64 c (some half64)) <;> rw [hb1] at hq1 <;> clear hb1 hq2; done)
      | skip
  · cases hb1 : quaB c <;> rw [hb1] at hq2 <;> clear hb1 hq1
    all_goals
      go_enter Try.func54, Try.ntmps54
      go_wp2
      go_ret2
      first | exact ⟨⟨_, rfl, hf⟩, 0, rfl⟩ | exact ⟨⟨_, rfl, FV_fR fv_half hf⟩, _, rfl⟩
  · cases hb1 : quaB (fop .sub .f64 c (some half64)) <;> rw [hb1] at hq1 <;> clear hb1 hq2
    all_goals
      go_enter Try.func54, Try.ntmps54
      go_wp2
      go_ret2
      first | exact ⟨⟨_, rfl, hv _⟩, _, rfl⟩ | exact ⟨⟨_, rfl, FV_fR fv_half (hv _)⟩, _, rfl⟩

def bigB (x : Nat) : Bool := decide (4841369599423283200 ≤ wid x % 9223372036854775808)
theorem big_abs {x : Nat} (hx : x < 4294967296) (hf : finB x = true) :
    (FloatKind.f64.format.order (wid x % 9223372036854775808) 4841369599423283200 == some .gt || FloatKind.f64.format.order (wid x % 9223372036854775808) 4841369599423283200 == some .eq) = bigB x := by
  have hlt := (AbsW_of hx hf).lt
  unfold bigB
  rw [ord_word hlt (by decide)]
  generalize wid x % 9223372036854775808 = a at hlt ⊢
  rcases Int.lt_trichotomy (a : Int) 4841369599423283200 with h | h | h
  · rw [show ((4841369599423283200 : Nat) : Int) = 4841369599423283200 from rfl, Int.compare_eq_lt.2 h, decide_eq_false (by omega)]; rfl
  · rw [show ((4841369599423283200 : Nat) : Int) = 4841369599423283200 from rfl, Int.compare_eq_eq.2 h, decide_eq_true (by omega)]; rfl
  · rw [show ((4841369599423283200 : Nat) : Int) = 4841369599423283200 from rfl, Int.compare_eq_gt.2 h, decide_eq_true (by omega)]; rfl
theorem big_signed {x : Nat} (hx : x < 4294967296) (hf : finB x = true) :
    (bigB x = false → (FloatKind.f64.format.order (wid x) 4841369599423283200 == some .gt || FloatKind.f64.format.order (wid x) 4841369599423283200 == some .eq) = false ∧ (FloatKind.f64.format.order (wid x) 14064741636278059008 == some .lt || FloatKind.f64.format.order (wid x) 14064741636278059008 == some .eq) = false) ∧
    (bigB x = true → (FloatKind.f64.format.order (wid x) 4841369599423283200 == some .gt || FloatKind.f64.format.order (wid x) 4841369599423283200 == some .eq) = true ∨ ((FloatKind.f64.format.order (wid x) 4841369599423283200 == some .gt || FloatKind.f64.format.order (wid x) 4841369599423283200 == some .eq) = false ∧ (FloatKind.f64.format.order (wid x) 14064741636278059008 == some .lt || FloatKind.f64.format.order (wid x) 14064741636278059008 == some .eq) = true)) := by
  have e3 : 2 ^ FloatKind.f64.format.width = 18446744073709551616 := by decide
  have hlt := (AbsW_of hx hf).lt
  have hW : wid x < 18446744073709551616 := wid_lt x
  rw [order_key (wid_lt x) (by rw [e3]; decide) (wid_nan (fin_num hf)) (by decide), order_key (wid_lt x) (by rw [e3]; decide) (wid_nan (fin_num hf)) (by decide)]
  unfold bigB
  have k1 : key .f64 (wid x) = if wid x < 9223372036854775808 then (wid x : Int) else 9223372036854775808 - wid x := by
    unfold key; rw [show FloatKind.f64.format.signWeight = 9223372036854775808 by decide]; rfl
  have z1 : key .f64 4841369599423283200 = 4841369599423283200 := by decide
  have z2 : key .f64 14064741636278059008 = -4841369599423283200 := by decide
  rw [k1, z1, z2]
  generalize wid x = W at hlt hW ⊢
  have gt_eq : ∀ a b : Int, ((some (compare a b) == some Ordering.gt) || (some (compare a b) == some Ordering.eq)) = decide (b ≤ a) := by
    intro a b
    rcases Int.lt_trichotomy a b with h | h | h
    · rw [Int.compare_eq_lt.2 h, decide_eq_false (by omega)]; rfl
    · rw [Int.compare_eq_eq.2 h, decide_eq_true (by omega)]; rfl
    · rw [Int.compare_eq_gt.2 h, decide_eq_true (by omega)]; rfl
  have lt_eq : ∀ a b : Int, ((some (compare a b) == some Ordering.lt) || (some (compare a b) == some Ordering.eq)) = decide (a ≤ b) := by
    intro a b
    rcases Int.lt_trichotomy a b with h | h | h
    · rw [Int.compare_eq_lt.2 h, decide_eq_true (by omega)]; rfl
    · rw [Int.compare_eq_eq.2 h, decide_eq_true (by omega)]; rfl
    · rw [Int.compare_eq_gt.2 h, decide_eq_false (by omega)]; rfl
  rw [gt_eq, lt_eq]
  refine ⟨fun h => ?_, fun h => ?_⟩
  · have h' : ¬ 4841369599423283200 ≤ W % 9223372036854775808 := of_decide_eq_false h
    exact ⟨decide_eq_false (by split <;> omega), decide_eq_false (by split <;> omega)⟩
  · have h' : 4841369599423283200 ≤ W % 9223372036854775808 := of_decide_eq_true h
    by_cases hs : W < 9223372036854775808
    · rw [if_pos hs]; exact .inl (decide_eq_true (by omega))
    · rw [if_neg hs]; exact .inr ⟨decide_eq_false (by omega), decide_eq_true (by omega)⟩
/-- What is left of a number when its whole part is taken away. -/
def leftC (x : Nat) : Option Nat := match floatToIntVal .f64 (wid x) .i64 with
  | some n => fop .sub .f64 (some (wid x)) (some (floatOfInt .f64 n))
  | none => none
def sinZ (f : Option Nat) : Option Nat := fop .mul .f64 f (some turn64)
def sinQ (f : Option Nat) : Option Nat := fop .mul .f64 (sinZ f) (polS (fop .mul .f64 (sinZ f) (sinZ f)) 8)
theorem LEC_sinQ {f : Option Nat} (h : LEC f 3) : LEC (sinQ f) 94 := by
  have hz := LEC_mul h (LEC_const 3 (x := turn64) ⟨false, _, _, rfl, by decide, by decide⟩) (by decide) (by decide)
  have hp := LEC_polS (LEC_mul hz hz (by decide) (by decide)) 8 (by decide)
  exact (LEC_mul hz hp (by decide) (by decide)).mono (by decide)
def sinF (x : Nat) : Option Nat := if lowB (shr (leftC x)) then negC (sinQ (qua (low (shr (leftC x))))) else sinQ (qua (low (shr (leftC x))))
def sinT (x : Nat) : Option Nat := if finB x then (if bigB x then some 0 else (sinF x).map nar) else none
theorem left_of {x : Nat} (hx : x < 4294967296) (hf : finB x = true) (hb : bigB x = false) : ∃ n : Int, floatToIntVal .f64 (wid x) .i64 = some n ∧ leftC x = fop .sub .f64 (some (wid x)) (some (floatOfInt .f64 n)) ∧ LEC (leftC x) 0 := by
  obtain ⟨n, h1, h2⟩ := whole_of hx hf (by have := of_decide_eq_false hb; omega)
  have : leftC x = fop .sub .f64 (some (wid x)) (some (floatOfInt .f64 n)) := by unfold leftC; rw [h1]
  exact ⟨n, h1, this, by rw [this]; exact h2⟩
theorem sin_end {y : Nat} {c : Option Nat} {w : World} (hv : FV .f64 y c) (h : LEC c 94) : FV .f32 (nR y w) (c.map nar) := FV_nR hv (LEC_ovf hv h (by decide))
theorem sin_endN {y : Nat} {c : Option Nat} {w : World} (hv : FV .f64 y c) (h : LEC c 94) : FV .f32 (nR (Op.negFloat .f64 y) w) ((negC c).map nar) := by
  obtain ⟨h1, h2⟩ := FV_neg hv h
  exact FV_nR h1 (LEC_ovf h1 h2 (by decide))
theorem sin_wide {y : Nat} {c : Option Nat} (hv : FV .f64 y c) (h : LEC c 94) : FV .f64 y c ∧ ovf y = false := ⟨hv, LEC_ovf hv h (by decide)⟩
theorem sin_wideN {y : Nat} {c : Option Nat} (hv : FV .f64 y c) (h : LEC c 94) : FV .f64 (Op.negFloat .f64 y) (negC c) ∧ ovf (Op.negFloat .f64 y) = false := by
  obtain ⟨h1, h2⟩ := FV_neg hv h
  exact ⟨h1, LEC_ovf h1 h2 (by decide)⟩
end Go.Proofs.Ytejgenjafajpnaa

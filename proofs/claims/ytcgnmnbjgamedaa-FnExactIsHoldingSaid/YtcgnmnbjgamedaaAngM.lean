
/-
The angle and the sine of finite numbers, as functions on words. Conditions: none.
-/
import Derived.Test.YtcgnmnbjgamedaaFrac
import Derived.Test.YtcgnmnbjgamedaaNeg
import Derived.Test.YtcgnmnbjgamedaaMag
namespace Go.Proofs.Ytcgnmnbjgamedaa
namespace Fk
open Go
set_option linter.unusedVariables false

def negC (c : Option Nat) : Option Nat := c.map (Op.negFloat .f64)
theorem FV_neg {y : Nat} {c : Option Nat} {e : Int} (hv : FV .f64 y c) (h : LEC c e) : FV .f64 (Op.negFloat .f64 y) (negC c) ∧ LEC (negC c) e := by
  obtain ⟨z, rfl, hz⟩ := h
  obtain rfl := hv.num
  have e3 : 2 ^ FloatKind.f64.format.width = 18446744073709551616 := by decide
  have hlt := hv.1
  rw [e3] at hlt
  obtain ⟨h1, h2⟩ := LE_neg hlt hz
  refine ⟨⟨by rw [e3]; exact h2, cls_num ?_⟩, _, rfl, h1⟩
  obtain ⟨s, m, p, hd, _⟩ := h1
  rw [hd]; rfl
def quoAB (a b : Nat) : Option Nat := if b < a then fop .quo .f64 (some b) (some a) else fop .quo .f64 (some a) (some b)
/-- The angle of a point by the sizes of its coordinates and the sign of the second one. -/
def angB (a b : Nat) (xn : Bool) : Option Nat :=
  let t := flatC (quoAB a b)
  let t1 := if b < a then fop .sub .f64 (some quarter64) t else t
  if xn then fop .sub .f64 (some half64) t1 else t1
theorem LEC_quoAB {a b : Nat} (ha : AbsW a) (hb : AbsW b) (h : a ≠ 0 ∨ b ≠ 0) : LEC (quoAB a b) 1 := by
  unfold quoAB
  by_cases hlt : b < a
  · rw [if_pos hlt]; exact LEC_ratio hb ha (by omega) (by omega)
  · rw [if_neg hlt]; exact LEC_ratio ha hb (by omega) (by omega)
theorem LEC_ang {a b : Nat} (ha : AbsW a) (hb : AbsW b) (h : a ≠ 0 ∨ b ≠ 0) (xn : Bool) : LEC (angB a b xn) 28 := by
  have h0 := LEC_flat (LEC_quoAB ha hb h)
  have h1 : LEC (if b < a then fop .sub .f64 (some quarter64) (flatC (quoAB a b)) else flatC (quoAB a b)) 27 := by
    split
    · exact LEC_quarter h0
    · exact h0.mono (by decide)
  unfold angB
  cases xn
  · exact h1.mono (by decide)
  · exact LEC_half h1

/-- A share of a turn that was brought into the first turn: one more if it is less than zero. -/
def shareC (f : Option Nat) : Option Nat := if ford .f64 f (some 0) = some .lt then fop .add .f64 f (some one64) else f
def belowC (f : Option Nat) : Bool := ford .f64 f (some half64) == some .gt || ford .f64 f (some half64) == some .eq
def lowerC (f : Option Nat) : Option Nat := if belowC f then fop .sub .f64 f (some half64) else f
def quartC (f : Option Nat) : Option Nat := if ford .f64 f (some quarter64) = some .gt then fop .sub .f64 (some half64) f else f
/-- The sine of an angle in turns, up to its sign. -/
def sinP (f : Option Nat) : Option Nat :=
  let z := fop .mul .f64 f (some turn64)
  fop .mul .f64 z (polS (fop .mul .f64 z z) 8)
theorem LEC_share {f : Option Nat} (h : LEC f 0) : LEC (quartC (lowerC (shareC f))) 3 := by
  have h1 : LEC (shareC f) 1 := by
    unfold shareC; split
    · exact LEC_add h ⟨_, rfl, one_LE⟩ (by decide) (by decide)
    · exact h.mono (by decide)
  have h2 : LEC (lowerC (shareC f)) 2 := by
    unfold lowerC; split
    · exact LEC_sub h1 (LEC_const 1 (x := half64) ⟨false, _, _, rfl, by decide, by decide⟩) (by decide) (by decide)
    · exact h1.mono (by decide)
  unfold quartC; split
  · exact LEC_sub (LEC_const 2 (x := half64) ⟨false, _, _, rfl, by decide, by decide⟩) h2 (by decide) (by decide)
  · exact h2.mono (by decide)
theorem LEC_sin {f : Option Nat} (h : LEC f 3) : LEC (sinP f) 94 := by
  have hz := LEC_mul h (LEC_const 3 (x := turn64) ⟨false, _, _, rfl, by decide, by decide⟩) (by decide) (by decide)
  have hp := LEC_polS (LEC_mul hz hz (by decide) (by decide)) 8 (by decide)
  exact (LEC_mul hz hp (by decide) (by decide)).mono (by decide)
end Fk
end Go.Proofs.Ytcgnmnbjgamedaa

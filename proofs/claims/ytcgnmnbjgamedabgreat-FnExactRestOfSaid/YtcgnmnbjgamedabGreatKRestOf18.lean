/-
Texts in one: what RestOf stands on, part 18. Conditions: those of each.
-/
import Derived.Test.YtcgnmnbjgamedabGreatKRestOf17

/-
Finite numbers and measures, by the program and by its model. Conditions: none beyond that the words fit.
-/
namespace Go.Proofs.YtcgnmnbjgamedabGreat
open Go Fk Go.RowKit
set_option linter.unusedVariables false
set_option maxRecDepth 8000
def sizeB (x : Nat) : Bool := finB x && (FloatKind.f32.format.order x 0 == some .gt)
def finC (c : Option Nat) : Bool := match c with | none => false | some x => finB x
def sizeC (c : Option Nat) : Bool := match c with | none => false | some x => sizeB x
theorem Fk.FV.fin {x : Nat} {c : Option Nat} (h : FV .f32 x c) : finB x = finC c := by
  cases c with
  | none =>
    have := h.nan
    have h2 : nan32 x = true := this
    rw [nan32_iff, decide_eq_true_eq] at h2
    show finB x = false
    unfold finB
    exact decide_eq_false (by omega)
  | some y => rw [h.num]; rfl
theorem Fk.FV.size {x : Nat} {c : Option Nat} (h : FV .f32 x c) : sizeB x = sizeC c := by
  cases c with
  | none =>
    show sizeB x = false
    unfold sizeB
    rw [Fk.FV.fin h]; rfl
  | some y => rw [h.num]; rfl
theorem Fk.FV.zero : FV .f32 0 (some 0) := ⟨by decide, by decide⟩
end Go.Proofs.YtcgnmnbjgamedabGreat

/-
Holds: what is asked of them, and what they leave, by classes of numbers; and which numbers are finite. Conditions: none beyond that the words fit.
-/
namespace Go.Proofs.YtcgnmnbjgamedabGreat
open Go Fk Go.RowKit
set_option linter.unusedVariables false
set_option maxRecDepth 8000

end Go.Proofs.YtcgnmnbjgamedabGreat

/-
One hold: copies, that two are the same, and which have the form of one: what the program, its model and the law's own functions return. Conditions: none beyond that the words fit.
-/
namespace Go.Proofs.YtcgnmnbjgamedabGreat
open Go Fk Go.RowKit
set_option linter.unusedVariables false
set_option maxRecDepth 8000

end Go.Proofs.YtcgnmnbjgamedabGreat

/-
Lists of holds: copies, and that two are the same: what the law's own functions return. Conditions: at most 2^20 of them.
-/
namespace Go.Proofs.YtcgnmnbjgamedabGreat
open Go Fk Go.RowKit
set_option linter.unusedVariables false
set_option maxRecDepth 8000

end Go.Proofs.YtcgnmnbjgamedabGreat

/-
Which holds have the form of one: the model. Conditions: none beyond that the words fit.
-/
namespace Go.Proofs.YtcgnmnbjgamedabGreat
open Go Fk Go.RowKit
set_option linter.unusedVariables false
set_option maxRecDepth 8000

theorem Fk.HW.At.c0 {w : World} {b o : Nat} {h : HW} (a : h.At w b o) : w.cell? ⟨b, o, none⟩ = some (.int .i64 h.p) := a 0 (by omega)
theorem Fk.HW.At.c1 {w : World} {b o : Nat} {h : HW} (a : h.At w b o) : w.cell? ⟨b, o + 1, none⟩ = some (.int .i64 h.k) := a 1 (by omega)
theorem Fk.HW.At.c2 {w : World} {b o : Nat} {h : HW} (a : h.At w b o) : w.cell? ⟨b, o + 2, none⟩ = some (.float .f32 h.x) := a 2 (by omega)
theorem Fk.HW.At.c3 {w : World} {b o : Nat} {h : HW} (a : h.At w b o) : w.cell? ⟨b, o + 2 + 1, none⟩ = some (.float .f32 h.y) := a 3 (by omega)
theorem Fk.HW.At.c4 {w : World} {b o : Nat} {h : HW} (a : h.At w b o) : w.cell? ⟨b, o + 2 + 2, none⟩ = some (.float .f32 h.z) := a 4 (by omega)
theorem Fk.HW.At.c5 {w : World} {b o : Nat} {h : HW} (a : h.At w b o) : w.cell? ⟨b, o + 5, none⟩ = some (.float .f32 h.s) := a 5 (by omega)
theorem Fk.HW.At.c6 {w : World} {b o : Nat} {h : HW} (a : h.At w b o) : w.cell? ⟨b, o + 5 + 1, none⟩ = some (.float .f32 h.t) := a 6 (by omega)
theorem Fk.HW.At.c7 {w : World} {b o : Nat} {h : HW} (a : h.At w b o) : w.cell? ⟨b, o + 5 + 2, none⟩ = some (.float .f32 h.u) := a 7 (by omega)
theorem Fk.HW.At.own {w : World} {b : Nat} {h : HW} (a : Go.Proofs.YtcgnmnbjgamedabGreat.At w b h.l) : h.At w b 0 := fun i hi => by
  rw [Nat.zero_add]
  have hl : i < h.l.length := hi
  rw [List.getElem?_eq_getElem hl]
  exact a i _ (List.getElem?_eq_getElem hl)
end Go.Proofs.YtcgnmnbjgamedabGreat


/-
The greatest length of a list of vectors: what the program and its model return. Conditions: none.
-/
import Derived.Test.YtajglpkeojaelaaMwD
import Derived.Test.YtajglpkeojaelaaBet
import Derived.Test.YtajglpkeojaelaaNn
import Derived.Test.YtajglpkeojaelaaTo
namespace Go.Proofs.Ytajglpkeojaelaa
open Go Fk Go.RowKit
set_option linter.unusedVariables false
set_option maxRecDepth 8000

def longC (c : C3) : Option Nat := rootC (fop .add .f32 (fop .add .f32 (fop .mul .f32 c.1 c.1) (fop .mul .f32 c.2.1 c.2.1)) (fop .mul .f32 c.2.2 c.2.2))
theorem Pos_longC (c : C3) : Pos .f32 (longC c) := Pos_root (Pos_add (Pos_add (Pos_square _) (Pos_square _)) (Pos_square _)) Num_fop
def lonF (m : Option Nat) (cs : List C3) : Option Nat := cs.foldl (fun m v => mxC .f32 m (longC v)) m
abbrev lonC (cs : List C3) : Option Nat := lonF (some 0) cs
theorem Pos_zero : Pos .f32 (some 0) := by intro r h; cases h; decide
theorem Pos_lonF (cs : List C3) : ∀ m, Pos .f32 m → Pos .f32 (lonF m cs) := by
  induction cs with
  | nil => exact fun m h => h
  | cons c cs ih => exact fun m h => ih _ (Pos_mx h (Pos_longC c))
theorem lonC_snoc (cs : List C3) (k : Nat) (hk : k < cs.length) : lonC (cs.take (k + 1)) = mxC .f32 (lonC (cs.take k)) (longC (cs.getD k c0)) := by
  rw [List.take_succ_eq_append_getElem hk]
  unfold lonC lonF
  rw [List.foldl_append]
  simp [List.getD, hk]
theorem lonC_stop (cs : List C3) (k : Nat) (h : lonC (cs.take k) = none) : lonC cs = none := by
  have e : cs = cs.take k ++ cs.drop k := (List.take_append_drop k cs).symm
  rw [e]
  unfold lonC lonF at h ⊢
  rw [List.foldl_append, h]
  exact foldl_none _ _
def lonB (n : Nat) (cs : List C3) : Option Nat := if n ≤ 256 then lonC cs else some 0
theorem FV_00 : FV .f32 0 (some 0) := ⟨by decide, by decide⟩
theorem lon_step {x o : Nat} {m v : Option Nat} (ho : FV .f32 o m) (hx : FV .f32 x v) (hm : m = some o) :
    ((FloatKind.f32.format.order x o == some .gt) = true ∧ FV .f32 x (mxC .f32 m v) ∧ mxC .f32 m v = some x ∧ (FloatKind.f32.format.order x x != some .eq) = false) ∨
    ((FloatKind.f32.format.order x o == some .gt) = false ∧ (FloatKind.f32.format.order x x != some .eq) = true ∧ FV .f32 x none ∧ mxC .f32 m v = none) ∨
    ((FloatKind.f32.format.order x o == some .gt) = false ∧ (FloatKind.f32.format.order x x != some .eq) = false ∧ FV .f32 o (mxC .f32 m v) ∧ mxC .f32 m v = some o ∧ (FloatKind.f32.format.order o o != some .eq) = false) := by
  subst hm
  have oo : (FloatKind.f32.format.order o o != some .eq) = false := by rw [order_self ho.notnan]; rfl
  rcases ford_both ho hx with ⟨e1, e2, h⟩ | ⟨c, e1, e2, _, rfl⟩
  · rcases h with h | rfl
    · cases h
    · have h1 : FloatKind.f32.format.order x o = none := order_nan (.inl hx.nan)
      have h2 : FloatKind.f32.format.order x x = none := order_nan (.inl hx.nan)
      refine .inr (.inl ⟨by rw [h1]; rfl, by rw [h2]; rfl, hx, rfl⟩)
  · have xx : (FloatKind.f32.format.order x x != some .eq) = false := by rw [order_self hx.notnan]; rfl
    have h1 : FloatKind.f32.format.order x o = some c.swap := e2
    cases c with
    | lt => exact .inl ⟨by rw [h1]; rfl, by unfold mxC; rw [e1]; exact hx, by unfold mxC; rw [e1], xx⟩
    | eq => exact .inr (.inr ⟨by rw [h1]; rfl, xx, by unfold mxC; rw [e1]; exact ho, by unfold mxC; rw [e1], oo⟩)
    | gt => exact .inr (.inr ⟨by rw [h1]; rfl, xx, by unfold mxC; rw [e1]; exact ho, by unfold mxC; rw [e1], oo⟩)

end Go.Proofs.Ytajglpkeojaelaa

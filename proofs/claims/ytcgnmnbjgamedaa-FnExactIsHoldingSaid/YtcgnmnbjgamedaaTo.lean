
/-
Sums of lists of vectors: what the program and its model return. Conditions: none.
-/
import Derived.Test.YtcgnmnbjgamedaaMwD
import Derived.Test.YtcgnmnbjgamedaaVecB
import Derived.Test.YtcgnmnbjgamedaaReg3
namespace Go.Proofs.Ytcgnmnbjgamedaa
open Go Fk Go.RowKit
set_option linter.unusedVariables false
set_option maxRecDepth 8000

def addC (a b : C3) : C3 := (fop .add .f32 a.1 b.1, fop .add .f32 a.2.1 b.2.1, fop .add .f32 a.2.2 b.2.2)
abbrev z3 : C3 := (some 0, some 0, some 0)
def totC (cs : List C3) : C3 := cs.foldl addC z3
theorem totC_snoc (cs : List C3) (k : Nat) (hk : k < cs.length) : totC (cs.take (k + 1)) = addC (totC (cs.take k)) (cs.getD k c0) := by
  rw [List.take_succ_eq_append_getElem hk]
  unfold totC
  rw [List.foldl_append]
  simp [List.getD, hk]
def FV3 (x y z : Nat) (c : C3) : Prop := FV .f32 x c.1 ∧ FV .f32 y c.2.1 ∧ FV .f32 z c.2.2
/-- A vector of one's own in memory. -/
def V3 (w : World) (b x y z : Nat) : Prop :=
  (w.cell? ⟨b, 0, none⟩ = some (.float .f32 x) ∧ w.cell? ⟨b, 1, none⟩ = some (.float .f32 y) ∧ w.cell? ⟨b, 2, none⟩ = some (.float .f32 z)) ∧ ∀ i, w.frozen? ⟨b, i, none⟩ = false
theorem V3.lt {w : World} {b x y z : Nat} (h : V3 w b x y z) : b < w.heap.size := World.block_lt_of_cell? w _ h.1.1
theorem V3.below {W w : World} {b x y z : Nat} (hb : Below W.heap.size W w) (h : V3 W b x y z) : V3 w b x y z :=
  ⟨⟨cell_below hb h.1.1, cell_below hb h.1.2.1, cell_below hb h.1.2.2⟩, fun i => frozen_below hb h.lt (h.2 i)⟩
theorem V3.drew {w : World} {n b x y z : Nat} (h : V3 w b x y z) : V3 (w.drewN n) b x y z := h
theorem V3.new {w : World} {x y z : Nat} {t : TypeId} : V3 (w.alloc (.cells #[.float .f32 x, .float .f32 y, .float .f32 z] t)) w.heap.size x y z := ⟨⟨new0, new1, new2⟩, fun i => newf⟩
theorem V3.alloc {w : World} {b x y z : Nat} {o : Obj} (h : V3 w b x y z) : V3 (w.alloc o) b x y z :=
  h.below ((Below.refl _ _).alloc (Nat.le_refl _) _)
theorem V3.put {w : World} {b x y z p q r : Nat} (h : V3 w b x y z) : V3 (((w.setCell ⟨b, 0, none⟩ (.float .f32 p)).setCell ⟨b, 1, none⟩ (.float .f32 q)).setCell ⟨b, 2, none⟩ (.float .f32 r)) b p q r := by
  obtain ⟨k0, k1, k2, _⟩ := set3k (u := .float .f32 p) (v := .float .f32 q) (t := .float .f32 r) (n := b) (o := 0) h.1.1 h.1.2.1 h.1.2.2
  exact ⟨⟨k0, k1, k2⟩, fun i => by simp; exact h.2 i⟩
theorem V3.far {w : World} {b x y z n : Nat} {u v t : Value} (h : V3 w b x y z) (hne : n ≠ b) : V3 (((w.setCell ⟨n, 0, none⟩ u).setCell ⟨n, 1, none⟩ v).setCell ⟨n, 2, none⟩ t) b x y z := by
  refine ⟨⟨?_, ?_, ?_⟩, fun i => by simp; exact h.2 i⟩
  · exact cell_set hne (cell_set hne (cell_set hne h.1.1))
  · exact cell_set hne (cell_set hne (cell_set hne h.1.2.1))
  · exact cell_set hne (cell_set hne (cell_set hne h.1.2.2))
def totB (n : Nat) (cs : List C3) : C3 := if n ≤ 256 then totC cs else z3
theorem FV3_zero : FV3 0 0 0 z3 := ⟨⟨by decide, by decide⟩, ⟨by decide, by decide⟩, ⟨by decide, by decide⟩⟩

end Go.Proofs.Ytcgnmnbjgamedaa

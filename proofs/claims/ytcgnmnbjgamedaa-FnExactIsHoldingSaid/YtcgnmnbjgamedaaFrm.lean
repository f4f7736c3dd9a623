
/-
What a region keeps that fills one new block of three cells: what lay before the call, boxes of the call's own, and that block. Conditions: none.
-/
import Derived.Test.YtcgnmnbjgamedaaAtm
import Derived.Test.YtcgnmnbjgamedaaMsh
import Derived.Test.YtcgnmnbjgamedaaReg2
namespace Go.Proofs.Ytcgnmnbjgamedaa
open Go Fk Go.RowKit
set_option linter.unusedVariables false

/-- What is kept: w's own memory, boxes with known cells, and a block of three cells that may be written. -/
def Frm (w : World) (L : List (Nat × List Value)) (R : Nat) (w' : World) : Prop :=
  Below w.heap.size w w' ∧ (∀ b l, (b, l) ∈ L → At w' b l ∧ b ≠ R) ∧ w.heap.size ≤ R ∧ (∃ u v t, w'.cell? ⟨R, 0, none⟩ = some u ∧ w'.cell? ⟨R, 1, none⟩ = some v ∧ w'.cell? ⟨R, 2, none⟩ = some t) ∧ Fr w' R
/-- The block holds a vector of these classes. -/
def TV (R : Nat) (c : C3) (w : World) : Prop := ∃ x y z, (w.cell? ⟨R, 0, none⟩ = some (.float .f32 x) ∧ w.cell? ⟨R, 1, none⟩ = some (.float .f32 y) ∧ w.cell? ⟨R, 2, none⟩ = some (.float .f32 z)) ∧ FV .f32 x c.1 ∧ FV .f32 y c.2.1 ∧ FV .f32 z c.2.2
def F3 (x y z : Nat) (c : C3) : Prop := FV .f32 x c.1 ∧ FV .f32 y c.2.1 ∧ FV .f32 z c.2.2
theorem Frm.bel {w w' : World} {L : List (Nat × List Value)} {R : Nat} (h : Frm w L R w') : Below w.heap.size w w' := h.1
theorem Frm.mem {w w' : World} {L : List (Nat × List Value)} {R b : Nat} {l : List Value} (h : Frm w L R w') (hm : (b, l) ∈ L) : At w' b l := (h.2.1 b l hm).1
theorem Frm.lt {w w' : World} {L : List (Nat × List Value)} {R : Nat} (h : Frm w L R w') : R < w'.heap.size := by
  obtain ⟨u, v, t, e, _⟩ := h.2.2.2.1
  exact World.block_lt_of_cell? w' _ e
theorem Frm.call {w w1 w2 : World} {L : List (Nat × List Value)} {R : Nat} (h : Frm w L R w1) (hb : Below w1.heap.size w1 w2) : Frm w L R w2 := by
  have hl := h.lt
  obtain ⟨h1, h2, h3, ⟨u, v, t, e0, e1, e2⟩, h5⟩ := h
  exact ⟨h1.trans (hb.mono h1.size), fun b l hm => ⟨(h2 b l hm).1.below hb, (h2 b l hm).2⟩, h3, ⟨u, v, t, cell_below hb e0, cell_below hb e1, cell_below hb e2⟩, h5.below hb hl⟩
theorem Frm.drewN {w w1 : World} {L : List (Nat × List Value)} {R : Nat} (h : Frm w L R w1) (n : Nat) : Frm w L R (w1.drewN n) := h.call (below_drewN (Below.refl _ _) n)
theorem Frm.put {w w1 : World} {L : List (Nat × List Value)} {R : Nat} (h : Frm w L R w1) (p q r : Value) : Frm w L R (((w1.setCell ⟨R, 0, none⟩ p).setCell ⟨R, 1, none⟩ q).setCell ⟨R, 2, none⟩ r) := by
  obtain ⟨h1, h2, h3, ⟨u, v, t, e0, e1, e2⟩, h5⟩ := h
  have s := set3 (u := p) (v := q) (t := r) e0 e1 e2
  exact ⟨below_set3 h1 h3, fun b l hm => ⟨(((h2 b l hm).1.far (Ne.symm (h2 b l hm).2)).far (Ne.symm (h2 b l hm).2)).far (Ne.symm (h2 b l hm).2), (h2 b l hm).2⟩, h3, ⟨p, q, r, s⟩, ((h5.setC).setC).setC⟩
theorem TV.call {w1 w2 : World} {R : Nat} {c : C3} (hb : Below w1.heap.size w1 w2) (h : TV R c w1) : TV R c w2 := by
  obtain ⟨x, y, z, ⟨e0, e1, e2⟩, f⟩ := h
  exact ⟨x, y, z, ⟨cell_below hb e0, cell_below hb e1, cell_below hb e2⟩, f⟩
theorem TV.drewN {w1 : World} {R : Nat} {c : C3} (n : Nat) (h : TV R c w1) : TV R c (w1.drewN n) := h
theorem TV.put {w w1 : World} {L : List (Nat × List Value)} {R p q r : Nat} {c : C3} (h : Frm w L R w1) (f : F3 p q r c) : TV R c (((w1.setCell ⟨R, 0, none⟩ (.float .f32 p)).setCell ⟨R, 1, none⟩ (.float .f32 q)).setCell ⟨R, 2, none⟩ (.float .f32 r)) := by
  obtain ⟨u, v, t, e0, e1, e2⟩ := h.2.2.2.1
  exact ⟨p, q, r, set3 e0 e1 e2, f⟩
theorem Frm.cells {w w' : World} {L : List (Nat × List Value)} {R : Nat} (h : Frm w L R w') : ∃ u v t, w'.cell? ⟨R, 0, none⟩ = some u ∧ w'.cell? ⟨R, 1, none⟩ = some v ∧ w'.cell? ⟨R, 2, none⟩ = some t := h.2.2.2.1
theorem Frm.free {w w' : World} {L : List (Nat × List Value)} {R : Nat} (h : Frm w L R w') (i : Nat) : w'.frozen? ⟨R, i, none⟩ = false := h.2.2.2.2 i
end Go.Proofs.Ytcgnmnbjgamedaa

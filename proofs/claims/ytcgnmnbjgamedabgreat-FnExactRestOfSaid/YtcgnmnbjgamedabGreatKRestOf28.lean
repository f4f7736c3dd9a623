/-
Texts in one: what RestOf stands on, part 28. Conditions: those of each.
-/
import Derived.Test.YtcgnmnbjgamedabGreatKRestOf27

/-
Places that are moved one by one, the rest of the body as it was. Conditions: the body lies in blocks of its own.
-/
namespace Go.Proofs.YtcgnmnbjgamedabGreat
open Go Fk Go.RowKit
set_option linter.unusedVariables false
set_option maxRecDepth 8000

theorem LTs.and {S T : Nat → Prop} {w : World} {a : Option Addr} {n : Nat} (h : LTs S w a n) (k : LTs T w a n) : LTs (fun b => S b ∧ T b) w a n := fun x hx => by
  obtain ⟨g, e, h1, h2⟩ := h x hx
  obtain ⟨g', e', k1, k2⟩ := k x hx
  subst e
  cases e'
  refine ⟨g, rfl, ⟨h1, k1⟩, fun i hi => ?_⟩
  obtain ⟨b, m, c, hc, hb⟩ := h2 i hi
  obtain ⟨b', m', c', hc', hb'⟩ := k2 i hi
  rw [hc] at hc'
  cases hc'
  refine ⟨b, m, c, hc, fun y hy => ?_⟩
  obtain ⟨q, o, e, z⟩ := hb y hy
  obtain ⟨q', o', e', z'⟩ := hb' y hy
  subst e
  cases e'
  exact ⟨q, o, rfl, z, z'⟩
end Go.Proofs.YtcgnmnbjgamedabGreat

/-
A body whose places are moved: what the model makes. Conditions: all lie in memory, of one length.
-/
namespace Go.Proofs.YtcgnmnbjgamedabGreat
open Go Fk Go.RowKit
set_option linter.unusedVariables false
set_option maxRecDepth 8000

end Go.Proofs.YtcgnmnbjgamedabGreat

/-
A body whose places are moved: what the model returns. Conditions: all lie in memory.
-/
namespace Go.Proofs.YtcgnmnbjgamedabGreat
open Go Fk Go.RowKit
set_option linter.unusedVariables false
set_option maxRecDepth 8000

end Go.Proofs.YtcgnmnbjgamedabGreat

/-
The law of bare bodies returns true: its walk. Conditions: none beyond that the mesh lies in memory.
-/
namespace Go.Proofs.YtcgnmnbjgamedabGreat
open Go Fk Go.RowKit
set_option linter.unusedVariables false
set_option maxRecDepth 16000

theorem Bx.lt {w w' : World} {L : List (Nat × List Value)} {b : Nat} {l : List Value} (h : Bx w L w') (hm : (b, l) ∈ L) : b < w'.heap.size := (h.2 b l hm).2.2.1
end Go.Proofs.YtcgnmnbjgamedabGreat

/-
Marks in a body and in a list of vectors that follow. Conditions: the lists may be written.
-/
namespace Go.Proofs.YtcgnmnbjgamedabGreat
open Go Fk Go.RowKit
set_option linter.unusedVariables false
set_option maxRecDepth 8000

end Go.Proofs.YtcgnmnbjgamedabGreat

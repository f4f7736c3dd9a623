
/-
Lists that a function made, and that stay. Conditions: none.
-/
import Derived.Test.YtcgnmnbjgamedaaMkE
namespace Go.Proofs.Ytcgnmnbjgamedaa
open Go Fk Go.RowKit
set_option linter.unusedVariables false
set_option maxRecDepth 8000
/-- A list of n integers that may be written: none, or at the head of a block from lo to hi. -/
def Lst (lo hi : Nat) (w : World) (a : Option Addr) (n : Nat) : Prop := (a = none ∧ n = 0) ∨ ∃ b, a = some ⟨b, 0, none⟩ ∧ Own lo hi w b 0 n
theorem Own.below {lo hi : Nat} {w w' : World} {b o n : Nat} (h : Own lo hi w b o n) (hB : Below w.heap.size w w') : Own lo hi w' b o n :=
  ⟨h.1, h.2.1, Nat.lt_of_lt_of_le h.2.2.1 hB.size, fun j hj => by
    obtain ⟨⟨v, hv⟩, hf⟩ := h.2.2.2 j hj
    exact ⟨⟨v, cell_below hB hv⟩, by rw [hB.frozen (p := ⟨b, o + j, none⟩) h.2.2.1]; exact hf⟩⟩
theorem Lst.below {lo hi : Nat} {w w' : World} {a : Option Addr} {n : Nat} (h : Lst lo hi w a n) (hB : Below w.heap.size w w') : Lst lo hi w' a n :=
  h.imp id fun ⟨b, e, ho⟩ => ⟨b, e, ho.below hB⟩
theorem Lst.mark {lo hi lo' hi' : Nat} {w w' : World} {a : Option Addr} {n : Nat} (h : Lst lo hi w a n) (hM : Mark lo' hi' w w') : Lst lo hi w' a n :=
  h.imp id fun ⟨b, e, ho⟩ => ⟨b, e, ho.mark hM⟩
theorem OwnM.below {lo hi b o b' o' pl tl : Nat} {ts : List (List Int)} {w w' : World} (h : OwnM lo hi w b o b' o' pl tl ts) (hB : Below w.heap.size w w') : OwnM lo hi w' b o b' o' pl tl ts := by
  obtain ⟨h1, h2, h3, h4⟩ := h
  refine ⟨h1.below hB, fun j hj => ?_, h3, Nat.lt_of_lt_of_le h4 hB.size⟩
  obtain ⟨G, O, c, e1, e2, e3⟩ := h2 j hj
  exact ⟨G, O, c, e1, cell_below hB e2, e3.below hB⟩
end Go.Proofs.Ytcgnmnbjgamedaa

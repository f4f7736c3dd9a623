
/-
Boxes of a call's own that are written whole. Conditions: none.
-/
import Derived.Test.YtcgnmnbjgamedaaOv
import Derived.Test.YtcgnmnbjgamedaaSetL
namespace Go.Proofs.Ytcgnmnbjgamedaa
open Go Fk Go.RowKit
set_option linter.unusedVariables false
set_option maxRecDepth 8000

theorem Bx.setA {w w1 : World} {L : List (Nat × List Value)} {b : Nat} {l : List Value} (h : Bx w ((b, l) :: L) w1) (hd : ∀ b' l', (b', l') ∈ L → b ≠ b') (vs : List Value) (hl : vs.length = l.length) : Bx w ((b, vs) :: L) (setL w1 b 0 vs) := by
  have hb := h.low (.head _)
  refine ⟨setL_below b hb vs w1 0 h.1, fun b' l' hm => ?_⟩
  rcases List.mem_cons.1 hm with e | hm
  · cases e
    have hh := h.2 b l (.head _)
    refine ⟨fun i v hi => ?_, fun i => by rw [setL_frozen]; exact hh.2.1 i, by rw [setL_size]; exact hh.2.2.1, hb⟩
    have hlt : i < vs.length := (List.getElem?_eq_some_iff.1 hi).1
    have := setL_in b vs w1 0 (fun j hj => ⟨l.getD j undef, by
      rw [Nat.zero_add]
      exact hh.1 j _ (by rw [List.getD, List.getElem?_eq_getElem (by omega)]; rfl)⟩) i hlt
    rw [Nat.zero_add] at this
    rw [this]; exact hi
  · have hh := h.2 b' l' (.tail _ hm)
    refine ⟨fun i v hi => by rw [setL_far b b' i (hd b' l' hm)]; exact hh.1 i v hi, fun i => by rw [setL_frozen]; exact hh.2.1 i, by rw [setL_size]; exact hh.2.2.1, hh.2.2.2⟩
theorem Bx.put3 {w w1 : World} {L : List (Nat × List Value)} {b : Nat} {x y z : Value} (h : Bx w ((b, [x, y, z]) :: L) w1) (hd : ∀ b' l', (b', l') ∈ L → b ≠ b') (p q r : Value) : Bx w ((b, [p, q, r]) :: L) (((w1.setCell ⟨b, 0, none⟩ p).setCell ⟨b, 1, none⟩ q).setCell ⟨b, 2, none⟩ r) := h.setA hd [p, q, r] rfl
end Go.Proofs.Ytcgnmnbjgamedaa

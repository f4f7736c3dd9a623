
/-
Writing a list of values beside one another into one block. Conditions: none.
-/
import Derived.Test.YtcgnmnbjgamedaaAtm
namespace Go.Proofs.Ytcgnmnbjgamedaa
open Go Fk Go.RowKit
set_option linter.unusedVariables false
set_option maxRecDepth 8000

/-- Cells that are written one behind another. -/
def setL (w : World) (g : Nat) : Nat → List Value → World
  | _, [] => w
  | o, v :: vs => setL (w.setCell ⟨g, o, none⟩ v) g (o + 1) vs
theorem setL_size (g : Nat) : ∀ (vs : List Value) (w : World) (o : Nat), (setL w g o vs).heap.size = w.heap.size
  | [], w, o => rfl
  | v :: vs, w, o => by rw [setL, setL_size g vs]; simp
theorem setL_frozen (g : Nat) (a : Addr) : ∀ (vs : List Value) (w : World) (o : Nat), (setL w g o vs).frozen? a = w.frozen? a
  | [], w, o => rfl
  | v :: vs, w, o => by rw [setL, setL_frozen g a vs]; simp
theorem setL_out (g m : Nat) : ∀ (vs : List Value) (w : World) (o : Nat), (m < o ∨ o + vs.length ≤ m) → (setL w g o vs).cell? ⟨g, m, none⟩ = w.cell? ⟨g, m, none⟩
  | [], w, o, h => rfl
  | v :: vs, w, o, h => by
    simp only [List.length_cons] at h
    rw [setL, setL_out g m vs _ _ (by omega), World.cell?_setCell_other _ _ _ _ (by simp <;> omega)]
theorem setL_far (g b i : Nat) (hne : g ≠ b) : ∀ (vs : List Value) (w : World) (o : Nat), (setL w g o vs).cell? ⟨b, i, none⟩ = w.cell? ⟨b, i, none⟩
  | [], w, o => rfl
  | v :: vs, w, o => by rw [setL, setL_far g b i hne vs, World.cell?_setCell_far (h := hne)]
theorem setL_in (g : Nat) : ∀ (vs : List Value) (w : World) (o : Nat), (∀ j, j < vs.length → ∃ u, w.cell? ⟨g, o + j, none⟩ = some u) → ∀ j, j < vs.length → (setL w g o vs).cell? ⟨g, o + j, none⟩ = vs[j]?
  | [], w, o, h, j, hj => by simp at hj
  | v :: vs, w, o, h, 0, hj => by
    rw [setL, setL_out g _ vs _ _ (by omega)]
    obtain ⟨u, hu⟩ := h 0 (by simp)
    simpa using World.cell?_setCell_same w ⟨g, o + 0, none⟩ v hu
  | v :: vs, w, o, h, j + 1, hj => by
    rw [setL, show o + (j + 1) = o + 1 + j by omega]
    rw [setL_in g vs _ (o + 1) (fun i hi => by
      obtain ⟨u, hu⟩ := h (i + 1) (by simp; omega)
      exact ⟨u, by rw [World.cell?_setCell_other _ _ _ _ (by simp <;> omega), show o + 1 + i = o + (i + 1) by omega]; exact hu⟩) j (by simpa using hj)]
    simp
theorem setL_below {B : Nat} {W : World} (g : Nat) (hB : B ≤ g) : ∀ (vs : List Value) (w : World) (o : Nat), Below B W w → Below B W (setL w g o vs)
  | [], w, o, h => h
  | v :: vs, w, o, h => setL_below g hB vs _ _ (h.setCell (p := ⟨g, o, none⟩) hB v)
end Go.Proofs.Ytcgnmnbjgamedaa


/-
Blocks of memory whose cells are known. Conditions: none.
-/
import Derived.Test.YtcgnmnbjgamedaaVec
namespace Go.Proofs.Ytcgnmnbjgamedaa
open Go Fk Go.RowKit
set_option linter.unusedVariables false

/-- A block whose cells hold these values. -/
def At (w : World) (b : Nat) (vs : List Value) : Prop := ∀ i v, vs[i]? = some v → w.cell? ⟨b, i, none⟩ = some v
theorem At.below {W w : World} {b : Nat} {vs : List Value} (hb : Below W.heap.size W w) (h : At W b vs) : At w b vs := fun i v hv => cell_below hb (h i v hv)
theorem At.alloc {w : World} {b : Nat} {vs : List Value} {o : Obj} (h : At w b vs) : At (w.alloc o) b vs := fun i v hv => cell_alloc (h i v hv)
theorem At.drew {w : World} {b n : Nat} {vs : List Value} (h : At w b vs) : At (w.drewN n) b vs := h
theorem At.new {w : World} {vs : List Value} {t : TypeId} : At (w.alloc (.cells vs.toArray t)) w.heap.size vs := by
  intro i v hv
  simp [hv]
theorem At.far {w : World} {b : Nat} {vs : List Value} {a : Addr} {u : Value} (hne : a.block ≠ b) (h : At w b vs) : At (w.setCell a u) b vs := fun i v hv => cell_set hne (h i v hv)
theorem At.set {w : World} {b : Nat} {vs : List Value} (h : At w b vs) (i : Nat) (u : Value) : At (w.setCell ⟨b, i, none⟩ u) b (vs.set i u) := by
  intro j v hv
  rw [List.getElem?_set] at hv
  by_cases hij : i = j
  · subst hij
    rw [if_pos rfl] at hv
    split at hv
    · rename_i hlt
      cases hv
      exact World.cell?_setCell_same _ _ _ (h i vs[i] (List.getElem?_eq_getElem hlt))
    · cases hv
  · rw [if_neg hij] at hv
    rw [World.cell?_setCell_other _ _ _ _ (by simp <;> omega)]
    exact h j v hv
theorem At.lt {w : World} {b : Nat} {v : Value} {vs : List Value} (h : At w b (v :: vs)) : b < w.heap.size := World.block_lt_of_cell? w _ (h 0 v rfl)
/-- A block that may be written. -/
def Fr (w : World) (b : Nat) : Prop := ∀ i, w.frozen? ⟨b, i, none⟩ = false
theorem Fr.below {W w : World} {b : Nat} (hb : Below W.heap.size W w) (hlt : b < W.heap.size) (h : Fr W b) : Fr w b := fun i => frozen_below hb hlt (h i)
theorem Fr.setC {w : World} {b : Nat} {a : Addr} {u : Value} (h : Fr w b) : Fr (w.setCell a u) b := fun i => by simp; exact h i
theorem Fr.new {w : World} {vs : Array Value} {t : TypeId} : Fr (w.alloc (.cells vs t)) w.heap.size := fun i => by simp
theorem Fr.alloc {w : World} {b : Nat} {o : Obj} (hlt : b < w.heap.size) (h : Fr w b) : Fr (w.alloc o) b := h.below ((Below.refl _ _).alloc (Nat.le_refl _) _) hlt

end Go.Proofs.Ytcgnmnbjgamedaa

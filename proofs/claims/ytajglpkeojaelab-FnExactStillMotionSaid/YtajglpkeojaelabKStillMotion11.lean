/-
Texts in one: what StillMotion stands on, part 11. Conditions: those of each.
-/
import Derived.Test.YtajglpkeojaelabKStillMotion10

/-
Sums of lists of vectors: what the program and its model return. Conditions: none.
-/
namespace Go.Proofs.Ytajglpkeojaelab
open Go Fk Go.RowKit
set_option linter.unusedVariables false
set_option maxRecDepth 8000

def addC (a b : C3) : C3 := (fop .add .f32 a.1 b.1, fop .add .f32 a.2.1 b.2.1, fop .add .f32 a.2.2 b.2.2)
abbrev z3 : C3 := (some 0, some 0, some 0)
def totC (cs : List C3) : C3 := cs.foldl addC z3
theorem totC_snoc (cs : List C3) (k : Nat) (hk : k < cs.length) : totC (cs.take (k + 1)) = addC (totC (cs.take k)) (cs.getD k c0) := by
  rw [List.take_succ_eq_append_getElem hk]
  unfold totC
  rw [List.foldl_append]
  simp [List.getD, hk]
def FV3 (x y z : Nat) (c : C3) : Prop := FV .f32 x c.1 ∧ FV .f32 y c.2.1 ∧ FV .f32 z c.2.2
/-- A vector of one's own in memory. -/
def V3 (w : World) (b x y z : Nat) : Prop :=
  (w.cell? ⟨b, 0, none⟩ = some (.float .f32 x) ∧ w.cell? ⟨b, 1, none⟩ = some (.float .f32 y) ∧ w.cell? ⟨b, 2, none⟩ = some (.float .f32 z)) ∧ ∀ i, w.frozen? ⟨b, i, none⟩ = false
theorem V3.lt {w : World} {b x y z : Nat} (h : V3 w b x y z) : b < w.heap.size := World.block_lt_of_cell? w _ h.1.1
theorem V3.below {W w : World} {b x y z : Nat} (hb : Below W.heap.size W w) (h : V3 W b x y z) : V3 w b x y z :=
  ⟨⟨cell_below hb h.1.1, cell_below hb h.1.2.1, cell_below hb h.1.2.2⟩, fun i => frozen_below hb h.lt (h.2 i)⟩
theorem V3.drew {w : World} {n b x y z : Nat} (h : V3 w b x y z) : V3 (w.drewN n) b x y z := h
theorem V3.new {w : World} {x y z : Nat} {t : TypeId} : V3 (w.alloc (.cells #[.float .f32 x, .float .f32 y, .float .f32 z] t)) w.heap.size x y z := ⟨⟨new0, new1, new2⟩, fun i => newf⟩
theorem V3.alloc {w : World} {b x y z : Nat} {o : Obj} (h : V3 w b x y z) : V3 (w.alloc o) b x y z :=
  h.below ((Below.refl _ _).alloc (Nat.le_refl _) _)
theorem V3.put {w : World} {b x y z p q r : Nat} (h : V3 w b x y z) : V3 (((w.setCell ⟨b, 0, none⟩ (.float .f32 p)).setCell ⟨b, 1, none⟩ (.float .f32 q)).setCell ⟨b, 2, none⟩ (.float .f32 r)) b p q r := by
  obtain ⟨k0, k1, k2, _⟩ := set3k (u := .float .f32 p) (v := .float .f32 q) (t := .float .f32 r) (n := b) (o := 0) h.1.1 h.1.2.1 h.1.2.2
  exact ⟨⟨k0, k1, k2⟩, fun i => by simp; exact h.2 i⟩
theorem V3.far {w : World} {b x y z n : Nat} {u v t : Value} (h : V3 w b x y z) (hne : n ≠ b) : V3 (((w.setCell ⟨n, 0, none⟩ u).setCell ⟨n, 1, none⟩ v).setCell ⟨n, 2, none⟩ t) b x y z := by
  refine ⟨⟨?_, ?_, ?_⟩, fun i => by simp; exact h.2 i⟩
  · exact cell_set hne (cell_set hne (cell_set hne h.1.1))
  · exact cell_set hne (cell_set hne (cell_set hne h.1.2.1))
  · exact cell_set hne (cell_set hne (cell_set hne h.1.2.2))
def totB (n : Nat) (cs : List C3) : C3 := if n ≤ 256 then totC cs else z3
theorem FV3_zero : FV3 0 0 0 z3 := ⟨⟨by decide, by decide⟩, ⟨by decide, by decide⟩, ⟨by decide, by decide⟩⟩

end Go.Proofs.Ytajglpkeojaelab


/-
Blocks of memory whose cells are known. Conditions: none.
-/
namespace Go.Proofs.Ytajglpkeojaelab
open Go Fk Go.RowKit
set_option linter.unusedVariables false

/-- A block whose cells hold these values. -/
def At (w : World) (b : Nat) (vs : List Value) : Prop := ∀ i v, vs[i]? = some v → w.cell? ⟨b, i, none⟩ = some v
theorem At.below {W w : World} {b : Nat} {vs : List Value} (hb : Below W.heap.size W w) (h : At W b vs) : At w b vs := fun i v hv => cell_below hb (h i v hv)
theorem At.alloc {w : World} {b : Nat} {vs : List Value} {o : Obj} (h : At w b vs) : At (w.alloc o) b vs := fun i v hv => cell_alloc (h i v hv)
theorem At.drew {w : World} {b n : Nat} {vs : List Value} (h : At w b vs) : At (w.drewN n) b vs := h
theorem At.new {w : World} {vs : List Value} {t : TypeId} : At (w.alloc (.cells vs.toArray t)) w.heap.size vs := by
  intro i v hv
  simp [hv]
theorem At.far {w : World} {b : Nat} {vs : List Value} {a : Addr} {u : Value} (hne : a.block ≠ b) (h : At w b vs) : At (w.setCell a u) b vs := fun i v hv => cell_set hne (h i v hv)
theorem At.set {w : World} {b : Nat} {vs : List Value} (h : At w b vs) (i : Nat) (u : Value) : At (w.setCell ⟨b, i, none⟩ u) b (vs.set i u) := by
  intro j v hv
  rw [List.getElem?_set] at hv
  by_cases hij : i = j
  · subst hij
    rw [if_pos rfl] at hv
    split at hv
    · rename_i hlt
      cases hv
      exact World.cell?_setCell_same _ _ _ (h i vs[i] (List.getElem?_eq_getElem hlt))
    · cases hv
  · rw [if_neg hij] at hv
    rw [World.cell?_setCell_other _ _ _ _ (by simp <;> omega)]
    exact h j v hv
theorem At.lt {w : World} {b : Nat} {v : Value} {vs : List Value} (h : At w b (v :: vs)) : b < w.heap.size := World.block_lt_of_cell? w _ (h 0 v rfl)
/-- A block that may be written. -/
def Fr (w : World) (b : Nat) : Prop := ∀ i, w.frozen? ⟨b, i, none⟩ = false
theorem Fr.below {W w : World} {b : Nat} (hb : Below W.heap.size W w) (hlt : b < W.heap.size) (h : Fr W b) : Fr w b := fun i => frozen_below hb hlt (h i)
theorem Fr.setC {w : World} {b : Nat} {a : Addr} {u : Value} (h : Fr w b) : Fr (w.setCell a u) b := fun i => by simp; exact h i
theorem Fr.new {w : World} {vs : Array Value} {t : TypeId} : Fr (w.alloc (.cells vs t)) w.heap.size := fun i => by simp
theorem Fr.alloc {w : World} {b : Nat} {o : Obj} (hlt : b < w.heap.size) (h : Fr w b) : Fr (w.alloc o) b := h.below ((Below.refl _ _).alloc (Nat.le_refl _) _) hlt

end Go.Proofs.Ytajglpkeojaelab

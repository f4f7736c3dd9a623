/-
Texts in one: what RestOf stands on, part 9. Conditions: those of each.
-/
import Derived.Test.YtcgnmnbjgamedabGreatKRestOf8
import Derived.WalkKit

/-
Marks in lists of springs and of numbers: they are written where the list lies, and nowhere else, and they are held. Conditions: the list's cells may be written.
-/
namespace Go.Proofs.YtcgnmnbjgamedabGreat
open Go Fk Go.RowKit
set_option linter.unusedVariables false
set_option maxRecDepth 8000

/-- What the mark of a cell of a list of springs is. -/
def spV (z : Int) (j : Nat) : Value := if j % 4 < 2 then .int .i64 z else .float .f32 (floatOfInt .f32 z)
end Go.Proofs.YtcgnmnbjgamedabGreat

/-
Marks in meshes: they are written where the mesh's lists lie, and nowhere else. Conditions: the lists' cells may be written, no row lies where the list of rows lies.
-/
namespace Go.Proofs.YtcgnmnbjgamedabGreat
open Go Fk Go.RowKit
set_option linter.unusedVariables false
set_option maxRecDepth 8000

/-- Rows of integers that may be written, none of them where the list of rows lies. -/
def Rows (lo hi : Nat) (w : World) (g o len : Nat) (ts : List (List Int)) : Prop :=
  ∀ j, j < len → ∃ G O c, G ≠ g ∧ w.cell? ⟨g, o + j, none⟩ = some (.slice (some ⟨G, O, none⟩) (ts.getD j []).length c) ∧ Own lo hi w G O (ts.getD j []).length
theorem Rows.mark {lo hi g o len : Nat} {ts : List (List Int)} {w w' : World} (h : Rows lo hi w g o len ts) (hs : ∀ i, w'.cell? ⟨g, i, none⟩ = w.cell? ⟨g, i, none⟩) {lo' hi' : Nat} (hM : Mark lo' hi' w w') : Rows lo hi w' g o len ts := by
  intro j hj
  obtain ⟨G, O, c, h1, h2, h3⟩ := h j hj
  exact ⟨G, O, c, h1, (hs _).trans h2, h3.mark hM⟩
/-- A mesh whose lists may be written. -/
def OwnM (lo hi : Nat) (w : World) (b o b' o' pl tl : Nat) (ts : List (List Int)) : Prop := Own lo hi w b o (pl * 3) ∧ Rows lo hi w b' o' tl ts ∧ b ≠ b' ∧ b' < w.heap.size
end Go.Proofs.YtcgnmnbjgamedabGreat

/-
Copies of meshes: where they lie, and that they may be written. Conditions: none beyond their sizes.
-/
namespace Go.Proofs.YtcgnmnbjgamedabGreat
open Go Fk Go.RowKit
set_option linter.unusedVariables false
set_option maxRecDepth 8000

theorem Rows.wide {lo hi lo' g o len : Nat} {w : World} {ts : List (List Int)} (h : Rows lo hi w g o len ts) (hl : lo' ≤ lo) : Rows lo' hi w g o len ts := by
  intro j hj
  obtain ⟨G, O, c, h1, h2, h3⟩ := h j hj
  exact ⟨G, O, c, h1, h2, Nat.le_trans hl h3.1, h3.2⟩
theorem OwnM.mark {lo hi lo' hi' b o b' o' pl tl : Nat} {ts : List (List Int)} {w w' : World} (h : OwnM lo hi w b o b' o' pl tl ts) (hM : Mark lo' hi' w w') (hs : ∀ i, w'.cell? ⟨b', i, none⟩ = w.cell? ⟨b', i, none⟩) : OwnM lo hi w' b o b' o' pl tl ts :=
  ⟨h.1.mark hM, h.2.1.mark hs hM, h.2.2.1, Nat.lt_of_lt_of_le h.2.2.2 hM.below.size⟩
end Go.Proofs.YtcgnmnbjgamedabGreat

/-
Lists that a function made, and that stay. Conditions: none.
-/
namespace Go.Proofs.YtcgnmnbjgamedabGreat
open Go Fk Go.RowKit
set_option linter.unusedVariables false
set_option maxRecDepth 8000
/-- A list of n integers that may be written: none, or at the head of a block from lo to hi. -/
def Lst (lo hi : Nat) (w : World) (a : Option Addr) (n : Nat) : Prop := (a = none ∧ n = 0) ∨ ∃ b, a = some ⟨b, 0, none⟩ ∧ Own lo hi w b 0 n
theorem Own.below {lo hi : Nat} {w w' : World} {b o n : Nat} (h : Own lo hi w b o n) (hB : Below w.heap.size w w') : Own lo hi w' b o n :=
  ⟨h.1, h.2.1, Nat.lt_of_lt_of_le h.2.2.1 hB.size, fun j hj => by
    obtain ⟨⟨v, hv⟩, hf⟩ := h.2.2.2 j hj
    exact ⟨⟨v, cell_below hB hv⟩, by rw [hB.frozen (p := ⟨b, o + j, none⟩) h.2.2.1]; exact hf⟩⟩
theorem Lst.below {lo hi : Nat} {w w' : World} {a : Option Addr} {n : Nat} (h : Lst lo hi w a n) (hB : Below w.heap.size w w') : Lst lo hi w' a n :=
  h.imp id fun ⟨b, e, ho⟩ => ⟨b, e, ho.below hB⟩
theorem Lst.mark {lo hi lo' hi' : Nat} {w w' : World} {a : Option Addr} {n : Nat} (h : Lst lo hi w a n) (hM : Mark lo' hi' w w') : Lst lo hi w' a n :=
  h.imp id fun ⟨b, e, ho⟩ => ⟨b, e, ho.mark hM⟩
theorem OwnM.below {lo hi b o b' o' pl tl : Nat} {ts : List (List Int)} {w w' : World} (h : OwnM lo hi w b o b' o' pl tl ts) (hB : Below w.heap.size w w') : OwnM lo hi w' b o b' o' pl tl ts := by
  obtain ⟨h1, h2, h3, h4⟩ := h
  refine ⟨h1.below hB, fun j hj => ?_, h3, Nat.lt_of_lt_of_le h4 hB.size⟩
  obtain ⟨G, O, c, e1, e2, e3⟩ := h2 j hj
  exact ⟨G, O, c, e1, cell_below hB e2, e3.below hB⟩
end Go.Proofs.YtcgnmnbjgamedabGreat

/-
Lists that are appended to a list of one's own, and the model's copy of a list of integers. Conditions: none beyond their sizes.
-/
namespace Go.Proofs.YtcgnmnbjgamedabGreat
open Go Fk Go.RowKit
set_option linter.unusedVariables false
set_option maxRecDepth 8000
section
variable {P : Program} (w : World)
end
/-- A row of one's own is a list of integers. -/
theorem is_of_owns {w : World} {base n : Nat} {v : Value} {zs : List Int} (h : w.ownsRow base 2 1 v n (ints zs)) (hn : zs.length = n) (hz : ∀ z ∈ zs, (Lit.int .i64 z).wf = true) :
    ∃ a cap, v = .slice a n cap ∧ IsIs w a n cap zs ∧ ∀ x, a = some x → base ≤ x.block ∧ x.block < w.heap.size := by
  have h' := h
  obtain ⟨h1, h2⟩ := h
  rcases h2 with ⟨rfl, hn0⟩ | ⟨g, cap, cur, rfl, hb, hh, hc1, hc2, hs, ht⟩
  · refine ⟨none, 0, by rw [hn0], ⟨hn, by omega, by unfold maxLen; omega, hz, fun _ => ⟨hn0, rfl⟩, fun x hx => by cases hx⟩, fun x hx => by cases hx⟩
  · have hg := h'.lt g rfl
    refine ⟨_, cap, rfl, ⟨hn, hc1, hc2, hz, by simp, fun x hx i hi => ?_⟩, fun x hx => by cases hx; exact hg⟩
    cases hx
    rw [addr_add', Nat.zero_add, h'.cellAt i (by omega)]
    unfold ints
    simp [List.getD, hn, hi]
end Go.Proofs.YtcgnmnbjgamedabGreat

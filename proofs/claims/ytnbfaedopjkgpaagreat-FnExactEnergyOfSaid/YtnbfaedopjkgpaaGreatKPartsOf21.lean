/-
Texts in one: what PartsOf stands on, part 21. Conditions: those of each.
-/
import Derived.Test.YtnbfaedopjkgpaaGreatKPartsOf20
import Derived.WalkKit
import Derived.Lib.SliceRun

/-
Rows of two numbers: what the program divides a list into. Conditions: a list of whole rows at the head of a block.
-/
namespace Go.Proofs.YtnbfaedopjkgpaaGreat
open Go Fk Go.RowKit
set_option linter.unusedVariables false
set_option maxRecDepth 8000

def rowVs2 (fb : Nat) (k : Nat) : List Value := (List.range k).map fun j => Value.slice (some ⟨fb, j * 2, none⟩) 2 2
theorem rowVs2_snoc (fb k : Nat) : rowVs2 fb (k + 1) = rowVs2 fb k ++ [Value.slice (some ⟨fb, k * 2, none⟩) 2 2] := by
  unfold rowVs2; rw [List.range_succ, List.map_append]; rfl
end Go.Proofs.YtnbfaedopjkgpaaGreat


/-
Edges in the form in which callers get them: what the program makes. Conditions: edges that lie in memory.
-/
namespace Go.Proofs.YtnbfaedopjkgpaaGreat
open Go Fk Go.RowKit
set_option linter.unusedVariables false
set_option maxRecDepth 8000

def flatW (es : List (Int × Int)) : Nat → List Value
  | 0 => []
  | k + 1 => flatW es k ++ [.int .i64 (es.getD k (0, 0)).1, .int .i64 (es.getD k (0, 0)).2]
theorem flatW_len (es : List (Int × Int)) (k : Nat) : (flatW es k).length = k * 2 := by
  induction k with
  | zero => rfl
  | succ k ih => unfold flatW; rw [List.length_append, ih]; simp; omega
/-- A list of edges that lies in memory. -/
def EdgesAt (w : World) (a : Option Addr) (n : Nat) (es : List (Int × Int)) : Prop := ∀ k, k < n → ∃ g, a = some ⟨g, 0, none⟩ ∧ w.cell? ⟨g, k * 2, none⟩ = some (.int .i64 (es.getD k (0, 0)).1) ∧ w.cell? ⟨g, k * 2 + 1, none⟩ = some (.int .i64 (es.getD k (0, 0)).2)
theorem EdgesAt.below {w w' : World} {a : Option Addr} {n : Nat} {es : List (Int × Int)} (h : EdgesAt w a n es) (hB : Below w.heap.size w w') : EdgesAt w' a n es := fun k hk => by
  obtain ⟨g, e, h1, h2⟩ := h k hk
  exact ⟨g, e, cell_below hB h1, cell_below hB h2⟩
end Go.Proofs.YtnbfaedopjkgpaaGreat


/-
The first edge of a list that is inside; clearing edges. Conditions: the list and the map of lists lie in memory.
-/
namespace Go.Proofs.YtnbfaedopjkgpaaGreat
open Go Fk Go.RowKit Go.Maps
set_option linter.unusedVariables false
set_option maxRecDepth 16000

/-- What is inside, by the list of pairs. -/
def inE (L : List ((Int × Int) × Int)) (x : Int × Int) : Bool := decide ((grp L x).length ≠ 1)
/-- The map of lists and the box in which the program has it, in a world from which all that comes behind grows. -/
structure Tab (w0 : World) (tb B n : Nat) (D : DataW Unit) (L : List ((Int × Int) × Int)) : Prop where
  box : w0.cell? ⟨tb, 0, none⟩ = some (.map (some B))
  own : w0.ownsGroups Tryz.prog 185 (B + 1) 2 .i64 B n D
  is : GroupsOf D L
  few : n < 4096
  short : ∀ x, (grp L x).length < 4096
/-- 'clear' of edges. -/
theorem run_clear2 (w : World) (ty : TypeId) (b o n c : Nat) (hn : 0 < n)
    (hc : ∀ j, j < n * 2 → (w.cell? ⟨b, o + j, none⟩).isSome = true) (hf : ∀ j, j < n * 2 → w.frozen? ⟨b, o + j, none⟩ = false) :
    (Builtin.clear_ #[182] ty #[.slice (some ⟨b, o, none⟩) n c]).run Tryz.prog w = .ok (.tuple #[]) (w.setCells b o (List.replicate (n * 2) (.int .i64 0))) := by
  have hzc : (Builtin.zeroCells #[.int .i64 0, .int .i64 0] n).toList = List.replicate (n * 2) (.int .i64 0) := by
    simp [Builtin.zeroCells]
    apply List.ext_getElem
    · simp
    · intro i h1 h2
      have : i % 2 = 0 ∨ i % 2 = 1 := by omega
      rcases this with h | h <;> simp [h]
  have hst := run_storeCells_cells (P := Tryz.prog) b o (List.replicate (n * 2) (.int .i64 0)) 0 w (by simpa using hc) (by simpa using hf) (by intro v hv'; rw [List.eq_of_mem_replicate hv']; rfl)
  simp only [Nat.add_zero] at hst
  obtain ⟨m, rfl⟩ : ∃ m, n = m + 1 := ⟨n - 1, by omega⟩
  simp [Builtin.clear_, run_underlying Tryz.underlying182, Tryz.zeroValue185, Value.cells, hzc, hst]
end Go.Proofs.YtnbfaedopjkgpaaGreat


/-
slices.DeleteFunc of the edges that are inside: what is left, in its order. Conditions: the list is the call's own; the map of lists lies below it.
-/
namespace Go.Proofs.YtnbfaedopjkgpaaGreat
open Go Fk Go.RowKit Go.Maps
set_option linter.unusedVariables false
set_option maxRecDepth 16000

/-- What is kept of the first j edges. -/
def keptE (L : List ((Int × Int) × Int)) (es : List (Int × Int)) (j : Nat) : List (Int × Int) := (es.take j).filter fun x => !inE L x
theorem keptE_next {L : List ((Int × Int) × Int)} {es : List (Int × Int)} {j : Nat} (hj : j < es.length) : keptE L es (j + 1) = keptE L es j ++ (if inE L (es.getD j (0, 0)) then [] else [es.getD j (0, 0)]) := by
  unfold keptE
  rw [List.take_add_one, List.filter_append, List.getElem?_eq_getElem hj]
  have : es.getD j (0, 0) = es[j] := by simp [List.getD, hj]
  rw [this]
  cases h : inE L es[j] <;> simp [h]
theorem keptE_len (L : List ((Int × Int) × Int)) (es : List (Int × Int)) (j : Nat) : (keptE L es j).length ≤ j := by
  unfold keptE
  exact Nat.le_trans (List.length_filter_le _ _) (List.length_take_le _ _)
/-- The row while edges are struck: what is kept lies ahead, what is to come lies where it lay. -/
structure RowI (w0 : World) (g n j : Nat) (es ks : List (Int × Int)) (W : World) : Prop where
  below : Below w0.heap.size w0 W
  lo : w0.heap.size ≤ g
  lt : g < W.heap.size
  alive : ∀ q, q < n * 2 → ∃ v, W.cell? ⟨g, q, none⟩ = some v
  free : ∀ q, W.frozen? ⟨g, q, none⟩ = false
  kept : ∀ t, t < ks.length → W.cell? ⟨g, t * 2, none⟩ = some (.int .i64 (ks.getD t (0, 0)).1) ∧ W.cell? ⟨g, t * 2 + 1, none⟩ = some (.int .i64 (ks.getD t (0, 0)).2)
  rest : ∀ t, j ≤ t → t < n → W.cell? ⟨g, t * 2, none⟩ = some (.int .i64 (es.getD t (0, 0)).1) ∧ W.cell? ⟨g, t * 2 + 1, none⟩ = some (.int .i64 (es.getD t (0, 0)).2)
theorem RowI.call {w0 : World} {g n j : Nat} {es ks : List (Int × Int)} {W W' : World} (h : RowI w0 g n j es ks W) (hB : Below W.heap.size W W') : RowI w0 g n j es ks W' :=
  ⟨h.below.trans (hB.mono h.below.size), h.lo, Nat.lt_of_lt_of_le h.lt hB.size, fun q hq => by obtain ⟨v, hv⟩ := h.alive q hq; exact ⟨v, cell_below hB hv⟩, fun q => (hB.frozen (p := ⟨g, q, none⟩) h.lt).trans (h.free q),
    fun t ht => ⟨cell_below hB (h.kept t ht).1, cell_below hB (h.kept t ht).2⟩, fun t h1 h2 => ⟨cell_below hB (h.rest t h1 h2).1, cell_below hB (h.rest t h1 h2).2⟩⟩
theorem RowI.skip {w0 : World} {g n j : Nat} {es ks : List (Int × Int)} {W : World} (h : RowI w0 g n j es ks W) : RowI w0 g n (j + 1) es ks W :=
  { h with rest := fun t h1 h2 => h.rest t (by omega) h2 }
/-- An edge is kept: two stores. -/
theorem RowI.put {w0 : World} {g n j : Nat} {es ks : List (Int × Int)} {W : World} (h : RowI w0 g n j es ks W) (hk : ks.length < j) (hj : j < n) (x : Int × Int) :
    RowI w0 g n (j + 1) es (ks ++ [x]) ((W.setCell ⟨g, ks.length * 2, none⟩ (.int .i64 x.1)).setCell ⟨g, ks.length * 2 + 1, none⟩ (.int .i64 x.2)) := by
  have hne : ∀ q, q ≠ ks.length * 2 → q ≠ ks.length * 2 + 1 → ((W.setCell ⟨g, ks.length * 2, none⟩ (.int .i64 x.1)).setCell ⟨g, ks.length * 2 + 1, none⟩ (.int .i64 x.2)).cell? ⟨g, q, none⟩ = W.cell? ⟨g, q, none⟩ := fun q h1 h2 => by
    rw [World.cell?_setCell_other _ _ _ _ (by first | (simp; done) | (simp; omega)), World.cell?_setCell_other _ _ _ _ (by first | (simp; done) | (simp; omega))]
  obtain ⟨v0, hv0⟩ := h.alive (ks.length * 2) (by omega)
  obtain ⟨v1, hv1⟩ := h.alive (ks.length * 2 + 1) (by omega)
  have hv1' : (W.setCell ⟨g, ks.length * 2, none⟩ (.int .i64 x.1)).cell? ⟨g, ks.length * 2 + 1, none⟩ = some v1 := by rw [World.cell?_setCell_other _ _ _ _ (by simp)]; exact hv1
  have e0 : ((W.setCell ⟨g, ks.length * 2, none⟩ (.int .i64 x.1)).setCell ⟨g, ks.length * 2 + 1, none⟩ (.int .i64 x.2)).cell? ⟨g, ks.length * 2, none⟩ = some (.int .i64 x.1) := by
    rw [World.cell?_setCell_other _ _ _ _ (by simp)]; exact World.cell?_setCell_same _ _ _ hv0
  have e1 : ((W.setCell ⟨g, ks.length * 2, none⟩ (.int .i64 x.1)).setCell ⟨g, ks.length * 2 + 1, none⟩ (.int .i64 x.2)).cell? ⟨g, ks.length * 2 + 1, none⟩ = some (.int .i64 x.2) := World.cell?_setCell_same _ _ _ hv1'
  refine ⟨(h.below.setCell h.lo _).setCell h.lo _, h.lo, by simpa using h.lt, fun q hq => ?_, fun q => by simpa using h.free q, fun t ht => ?_, fun t h1 h2 => ?_⟩
  · by_cases a : q = ks.length * 2
    · rw [a]; exact ⟨_, e0⟩
    · by_cases b : q = ks.length * 2 + 1
      · rw [b]; exact ⟨_, e1⟩
      · rw [hne q a b]; exact h.alive q hq
  · by_cases a : t = ks.length
    · have : (ks ++ [x]).getD t (0, 0) = x := by simp [List.getD, a]
      rw [this, a]; exact ⟨e0, e1⟩
    · have ht' : t < ks.length := by simp at ht; omega
      have : (ks ++ [x]).getD t (0, 0) = ks.getD t (0, 0) := by simp [List.getD, List.getElem?_append_left ht']
      rw [this, hne _ (by omega) (by omega), hne _ (by omega) (by omega)]
      exact h.kept t ht'
  · rw [hne _ (by omega) (by omega), hne _ (by omega) (by omega)]
    exact h.rest t (by omega) h2
theorem below_cells {B b : Nat} (hb : B ≤ b) : ∀ (vs : List Value) (o : Nat) {a w : World}, Below B a w → Below B a (w.setCells b o vs)
  | [], _, _, _, h => h
  | v :: r, o, _, _, h => below_cells hb r (o + 1) (h.setCell hb v)
end Go.Proofs.YtnbfaedopjkgpaaGreat

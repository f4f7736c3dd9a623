/-
Texts in one: what RestOf stands on, part 17. Conditions: those of each.
-/
import Derived.Test.YtcgnmnbjgamedabGreatKRestOf16
import Derived.Lib.SliceRun
import Derived.Lib.SmallJoins
import Derived.ChangeSlices

/-
Edges in the form in which callers get them: what the program makes. Conditions: edges that lie in memory.
-/
namespace Go.Proofs.YtcgnmnbjgamedabGreat
open Go Fk Go.RowKit
set_option linter.unusedVariables false
set_option maxRecDepth 8000

/-- A list of edges that lies in memory. -/
def EdgesAt (w : World) (a : Option Addr) (n : Nat) (es : List (Int × Int)) : Prop := ∀ k, k < n → ∃ g, a = some ⟨g, 0, none⟩ ∧ w.cell? ⟨g, k * 2, none⟩ = some (.int .i64 (es.getD k (0, 0)).1) ∧ w.cell? ⟨g, k * 2 + 1, none⟩ = some (.int .i64 (es.getD k (0, 0)).2)
theorem EdgesAt.below {w w' : World} {a : Option Addr} {n : Nat} {es : List (Int × Int)} (h : EdgesAt w a n es) (hB : Below w.heap.size w w') : EdgesAt w' a n es := fun k hk => by
  obtain ⟨g, e, h1, h2⟩ := h k hk
  exact ⟨g, e, cell_below hB h1, cell_below hB h2⟩
end Go.Proofs.YtcgnmnbjgamedabGreat

/-
The first edge of a list that is inside; clearing edges. Conditions: the list and the map of lists lie in memory.
-/
namespace Go.Proofs.YtcgnmnbjgamedabGreat
open Go Fk Go.RowKit Go.Maps
set_option linter.unusedVariables false
set_option maxRecDepth 16000

/-- The map of lists and the box in which the program has it, in a world from which all that comes behind grows. -/
structure Tab (w0 : World) (tb B n : Nat) (D : DataW Unit) (L : List ((Int × Int) × Int)) : Prop where
  box : w0.cell? ⟨tb, 0, none⟩ = some (.map (some B))
  own : w0.ownsGroups Tryz.prog 181 (B + 1) 2 .i64 B n D
  is : GroupsOf D L
  few : n < 4096
  short : ∀ x, (grp L x).length < 4096
end Go.Proofs.YtcgnmnbjgamedabGreat

/-
slices.DeleteFunc of the edges that are inside: what is left, in its order. Conditions: the list is the call's own; the map of lists lies below it.
-/
namespace Go.Proofs.YtcgnmnbjgamedabGreat
open Go Fk Go.RowKit Go.Maps
set_option linter.unusedVariables false
set_option maxRecDepth 16000

/-- The row while edges are struck: what is kept lies ahead, what is to come lies where it lay. -/
structure RowI (w0 : World) (g n j : Nat) (es ks : List (Int × Int)) (W : World) : Prop where
  below : Below w0.heap.size w0 W
  lo : w0.heap.size ≤ g
  lt : g < W.heap.size
  alive : ∀ q, q < n * 2 → ∃ v, W.cell? ⟨g, q, none⟩ = some v
  free : ∀ q, W.frozen? ⟨g, q, none⟩ = false
  kept : ∀ t, t < ks.length → W.cell? ⟨g, t * 2, none⟩ = some (.int .i64 (ks.getD t (0, 0)).1) ∧ W.cell? ⟨g, t * 2 + 1, none⟩ = some (.int .i64 (ks.getD t (0, 0)).2)
  rest : ∀ t, j ≤ t → t < n → W.cell? ⟨g, t * 2, none⟩ = some (.int .i64 (es.getD t (0, 0)).1) ∧ W.cell? ⟨g, t * 2 + 1, none⟩ = some (.int .i64 (es.getD t (0, 0)).2)
theorem RowI.call {w0 : World} {g n j : Nat} {es ks : List (Int × Int)} {W W' : World} (h : RowI w0 g n j es ks W) (hB : Below W.heap.size W W') : RowI w0 g n j es ks W' :=
  ⟨h.below.trans (hB.mono h.below.size), h.lo, Nat.lt_of_lt_of_le h.lt hB.size, fun q hq => by obtain ⟨v, hv⟩ := h.alive q hq; exact ⟨v, cell_below hB hv⟩, fun q => (hB.frozen (p := ⟨g, q, none⟩) h.lt).trans (h.free q),
    fun t ht => ⟨cell_below hB (h.kept t ht).1, cell_below hB (h.kept t ht).2⟩, fun t h1 h2 => ⟨cell_below hB (h.rest t h1 h2).1, cell_below hB (h.rest t h1 h2).2⟩⟩
theorem RowI.skip {w0 : World} {g n j : Nat} {es ks : List (Int × Int)} {W : World} (h : RowI w0 g n j es ks W) : RowI w0 g n (j + 1) es ks W :=
  { h with rest := fun t h1 h2 => h.rest t (by omega) h2 }
/-- An edge is kept: two stores. -/
theorem RowI.put {w0 : World} {g n j : Nat} {es ks : List (Int × Int)} {W : World} (h : RowI w0 g n j es ks W) (hk : ks.length < j) (hj : j < n) (x : Int × Int) :
    RowI w0 g n (j + 1) es (ks ++ [x]) ((W.setCell ⟨g, ks.length * 2, none⟩ (.int .i64 x.1)).setCell ⟨g, ks.length * 2 + 1, none⟩ (.int .i64 x.2)) := by
  have hne : ∀ q, q ≠ ks.length * 2 → q ≠ ks.length * 2 + 1 → ((W.setCell ⟨g, ks.length * 2, none⟩ (.int .i64 x.1)).setCell ⟨g, ks.length * 2 + 1, none⟩ (.int .i64 x.2)).cell? ⟨g, q, none⟩ = W.cell? ⟨g, q, none⟩ := fun q h1 h2 => by
    rw [World.cell?_setCell_other _ _ _ _ (by first | (simp; done) | (simp; omega)), World.cell?_setCell_other _ _ _ _ (by first | (simp; done) | (simp; omega))]
  obtain ⟨v0, hv0⟩ := h.alive (ks.length * 2) (by omega)
  obtain ⟨v1, hv1⟩ := h.alive (ks.length * 2 + 1) (by omega)
  have hv1' : (W.setCell ⟨g, ks.length * 2, none⟩ (.int .i64 x.1)).cell? ⟨g, ks.length * 2 + 1, none⟩ = some v1 := by rw [World.cell?_setCell_other _ _ _ _ (by simp)]; exact hv1
  have e0 : ((W.setCell ⟨g, ks.length * 2, none⟩ (.int .i64 x.1)).setCell ⟨g, ks.length * 2 + 1, none⟩ (.int .i64 x.2)).cell? ⟨g, ks.length * 2, none⟩ = some (.int .i64 x.1) := by
    rw [World.cell?_setCell_other _ _ _ _ (by simp)]; exact World.cell?_setCell_same _ _ _ hv0
  have e1 : ((W.setCell ⟨g, ks.length * 2, none⟩ (.int .i64 x.1)).setCell ⟨g, ks.length * 2 + 1, none⟩ (.int .i64 x.2)).cell? ⟨g, ks.length * 2 + 1, none⟩ = some (.int .i64 x.2) := World.cell?_setCell_same _ _ _ hv1'
  refine ⟨(h.below.setCell h.lo _).setCell h.lo _, h.lo, by simpa using h.lt, fun q hq => ?_, fun q => by simpa using h.free q, fun t ht => ?_, fun t h1 h2 => ?_⟩
  · by_cases a : q = ks.length * 2
    · rw [a]; exact ⟨_, e0⟩
    · by_cases b : q = ks.length * 2 + 1
      · rw [b]; exact ⟨_, e1⟩
      · rw [hne q a b]; exact h.alive q hq
  · by_cases a : t = ks.length
    · have : (ks ++ [x]).getD t (0, 0) = x := by simp [List.getD, a]
      rw [this, a]; exact ⟨e0, e1⟩
    · have ht' : t < ks.length := by simp at ht; omega
      have : (ks ++ [x]).getD t (0, 0) = ks.getD t (0, 0) := by simp [List.getD, List.getElem?_append_left ht']
      rw [this, hne _ (by omega) (by omega), hne _ (by omega) (by omega)]
      exact h.kept t ht'
  · rw [hne _ (by omega) (by omega), hne _ (by omega) (by omega)]
    exact h.rest t (by omega) h2
end Go.Proofs.YtcgnmnbjgamedabGreat

/-
Marks in rows of two numbers that lie beside one another. Conditions: none beyond their sizes.
-/
namespace Go.Proofs.YtcgnmnbjgamedabGreat
open Go Fk Go.RowKit
set_option linter.unusedVariables false
set_option maxRecDepth 8000
/-- The block R has n rows, which lie beside one another in the block F. -/
def FlatRows2 (w : World) (R F n : Nat) : Prop := ∀ j, j < n → ∃ c, w.cell? ⟨R, j, none⟩ = some (.slice (some ⟨F, j * 2, none⟩) 2 c)
theorem FlatRows2.same {w w' : World} {R F n : Nat} (h : FlatRows2 w R F n) (hs : ∀ i v, w.cell? ⟨R, i, none⟩ = some v → w'.cell? ⟨R, i, none⟩ = some v) : FlatRows2 w' R F n := fun j hj => by
  obtain ⟨c, hc⟩ := h j hj
  exact ⟨c, hs _ _ hc⟩
def Flat2 (lo hi : Nat) (w : World) (ta : Option Addr) (n F : Nat) : Prop := (ta = none ∧ n = 0) ∨ ∃ R, ta = some ⟨R, 0, none⟩ ∧ lo ≤ R ∧ R < hi ∧ R < w.heap.size ∧ R ≠ F ∧ FlatRows2 w R F n ∧ Own lo hi w F 0 (n * 2)
theorem Flat2.mark {lo hi lo' hi' : Nat} {w w' : World} {a : Option Addr} {n F : Nat} (h : Flat2 lo hi w a n F) (hM : Mark lo' hi' w w') (hs : ∀ R, a = some R → ∀ i v, w.cell? ⟨R.block, i, none⟩ = some v → w'.cell? ⟨R.block, i, none⟩ = some v) : Flat2 lo hi w' a n F :=
  h.imp id fun ⟨R, e, h1, h2, h3, h4, h5, h6⟩ => ⟨R, e, h1, h2, Nat.lt_of_lt_of_le h3 hM.below.size, h4, h5.same (hs _ e), h6.mark hM⟩
theorem Flat2.below {lo hi : Nat} {w w' : World} {ta : Option Addr} {n F : Nat} (h : Flat2 lo hi w ta n F) (hB : Below w.heap.size w w') : Flat2 lo hi w' ta n F :=
  h.imp id fun ⟨R, e, h1, h2, h3, h4, h5, h6⟩ => ⟨R, e, h1, h2, Nat.lt_of_lt_of_le h3 hB.size, h4, h5.same (fun i v hv => cell_below hB hv), h6.below hB⟩
/-- The marks that were written are there. -/
def MrkR (w : World) (a : Option Addr) (n F : Nat) : Prop := (a = none ∧ n = 0) ∨ ∃ R, a = some ⟨R, 0, none⟩ ∧ FlatRows2 w R F n ∧ ∀ j, j < n * 2 → w.cell? ⟨F, j, none⟩ = some (.int .i64 ((1 + j : Nat) : Int))
theorem MrkR.below {w w' : World} {a : Option Addr} {n F : Nat} (h : MrkR w a n F) (hB : Below w.heap.size w w') : MrkR w' a n F :=
  h.imp id fun ⟨R, e, h1, h2⟩ => ⟨R, e, h1.same (fun i v hv => cell_below hB hv), fun j hj => cell_below hB (h2 j hj)⟩
end Go.Proofs.YtcgnmnbjgamedabGreat

/-
Holds in memory: one and lists of them, and how they come in. Conditions: none.
-/
namespace Go.Proofs.YtcgnmnbjgamedabGreat
namespace Fk
open Go Go.RowKit
set_option linter.unusedVariables false

/-- A hold: its place and kind, and the classes of its two vectors. -/
abbrev HC := Int × Int × C3 × C3
abbrev hd0 : HC := (0, 0, c0, c0)
/-- The words of a hold's numbers. -/
structure HW where
  p : Int
  k : Int
  x : Nat
  y : Nat
  z : Nat
  s : Nat
  t : Nat
  u : Nat
def HW.v (h : HW) : Value := .agg #[.int .i64 h.p, .int .i64 h.k, .float .f32 h.x, .float .f32 h.y, .float .f32 h.z, .float .f32 h.s, .float .f32 h.t, .float .f32 h.u]
def HW.l (h : HW) : List Value := [.int .i64 h.p, .int .i64 h.k, .float .f32 h.x, .float .f32 h.y, .float .f32 h.z, .float .f32 h.s, .float .f32 h.t, .float .f32 h.u]
/-- What the words stand for. -/
def HW.Is (h : HW) (c : HC) : Prop := h.p = c.1 ∧ h.k = c.2.1 ∧ (FV .f32 h.x c.2.2.1.1 ∧ FV .f32 h.y c.2.2.1.2.1 ∧ FV .f32 h.z c.2.2.1.2.2) ∧ FV .f32 h.s c.2.2.2.1 ∧ FV .f32 h.t c.2.2.2.2.1 ∧ FV .f32 h.u c.2.2.2.2.2
def HW.fit (h : HW) : Prop := ((Lit.int .i64 h.p).wf = true ∧ (Lit.int .i64 h.k).wf = true) ∧ (h.x < 2 ^ FloatKind.f32.format.width ∧ h.y < 2 ^ FloatKind.f32.format.width ∧ h.z < 2 ^ FloatKind.f32.format.width) ∧ h.s < 2 ^ FloatKind.f32.format.width ∧ h.t < 2 ^ FloatKind.f32.format.width ∧ h.u < 2 ^ FloatKind.f32.format.width
def HW.cls (h : HW) : HC := (h.p, h.k, (Fk.cls .f32 h.x, Fk.cls .f32 h.y, Fk.cls .f32 h.z), Fk.cls .f32 h.s, Fk.cls .f32 h.t, Fk.cls .f32 h.u)
theorem HW.fit.is {h : HW} (f : h.fit) : h.Is h.cls := ⟨rfl, rfl, ⟨FV.self f.2.1.1, FV.self f.2.1.2.1, FV.self f.2.1.2.2⟩, FV.self f.2.2.1, FV.self f.2.2.2.1, FV.self f.2.2.2.2⟩
theorem HW.Is.fit {h : HW} {c : HC} (i : h.Is c) (hp : (Lit.int .i64 c.1).wf = true) (hk : (Lit.int .i64 c.2.1).wf = true) : h.fit := ⟨⟨i.1 ▸ hp, i.2.1 ▸ hk⟩, ⟨i.2.2.1.1.1, i.2.2.1.2.1.1, i.2.2.1.2.2.1⟩, i.2.2.2.1.1, i.2.2.2.2.1.1, i.2.2.2.2.2.1⟩
/-- The eight cells of a hold. -/
def HW.At (w : World) (b o : Nat) (h : HW) : Prop := ∀ i, i < 8 → w.cell? ⟨b, o + i, none⟩ = h.l[i]?
theorem HW.At.below {W w : World} {b o : Nat} {h : HW} (hb : Below W.heap.size W w) (a : h.At W b o) : h.At w b o := by
  intro i hi
  have h0 := a i hi
  have hl : i < h.l.length := hi
  rw [List.getElem?_eq_getElem hl] at h0 ⊢
  rw [hb.cell (p := ⟨b, o + i, none⟩) (World.block_lt_of_cell? W _ h0)]
  exact h0
/-- A list of holds that lies in memory. -/
def IsHs (w : World) (a : Option Addr) (len cap : Nat) (hs : List HC) : Prop :=
  hs.length = len ∧ len ≤ cap ∧ cap ≤ maxLen ∧ (∀ s ∈ hs, (Lit.int .i64 s.1).wf = true ∧ (Lit.int .i64 s.2.1).wf = true) ∧ (a = none → len = 0 ∧ cap = 0) ∧
  (∀ x, a = some x → ∀ i, i < len → x.spot = none ∧ ∃ h : HW, h.At w x.block (x.off + i * 8) ∧ h.Is (hs.getD i hd0))
theorem IsHs.below {W w : World} {a : Option Addr} {len cap : Nat} {hs : List HC} (hb : Below W.heap.size W w) (h : IsHs W a len cap hs) : IsHs w a len cap hs := by
  obtain ⟨h1, h2, h3, h4, h5, h6⟩ := h
  refine ⟨h1, h2, h3, h4, h5, fun x hx i hi => ?_⟩
  obtain ⟨hs, q, k, hv⟩ := h6 x hx i hi
  exact ⟨hs, q, k.below hb, hv⟩
theorem IsHs.some {w : World} {a : Option Addr} {len cap : Nat} {hs : List HC} (h : IsHs w a len cap hs) (hl : 0 < len) :
    ∃ b o, a = .some ⟨b, o, none⟩ ∧ ∀ i, i < len → ∃ q : HW, q.At w b (o + i * 8) ∧ q.Is (hs.getD i hd0) := by
  obtain ⟨h1, h2, h3, h4, h5, h6⟩ := h
  cases a with
  | none => have := (h5 rfl).1; omega
  | some x =>
    obtain ⟨b, o, spot⟩ := x
    have hc := h6 _ rfl
    have hs := (hc 0 hl).1
    simp only at hs hc
    subst hs
    exact ⟨b, o, rfl, fun i hi => (hc i hi).2⟩

section
open Go.ChangeShapes Go.WideShapes Go.Deep
variable {H : Type} {enc : TypeId × Value → H} {P : Program} {w : World} {base : Nat} {held : Bool}
theorem cells?_eight {b : Nat} {a : Addr} {cs : List Value} (h : w.cells? b a 8 = some cs) : ∃ c0 c1 c2 c3 c4 c5 c6 c7, cs = [c0, c1, c2, c3, c4, c5, c6, c7] ∧ ∀ i, i < 8 → w.cell? (a.add i) = [c0, c1, c2, c3, c4, c5, c6, c7][i]? := by
  obtain ⟨_, hl, hc⟩ := World.cells?_some h
  match cs, hl with
  | [c0, c1, c2, c3, c4, c5, c6, c7], _ =>
    refine ⟨c0, c1, c2, c3, c4, c5, c6, c7, rfl, fun i hi => ?_⟩
    exact hc i (by omega)
end
end Fk
end Go.Proofs.YtcgnmnbjgamedabGreat

/-
Texts in one: what HoldMesh stands on, part 1. Conditions: those of each.
-/
import Derived.Test.YtmbekamnogbgaaaKHoldMesh0
import Derived.Lib.SmallJoins
import Derived.ChangeSlices
import Derived.Test.YtmbekamnogbgaaaChecked
import Derived.Outline
import Derived.Lib.Hide
import Derived.Laws.Externs

/-
Holds in memory: one and lists of them, and how they come in. Conditions: none.
-/
namespace Go.Proofs.Ytmbekamnogbgaaa
namespace Fk
open Go Go.RowKit
set_option linter.unusedVariables false

/-- A hold: its place and kind, and the classes of its two vectors. -/
abbrev HC := Int × Int × C3 × C3
abbrev hd0 : HC := (0, 0, c0, c0)
/-- The words of a hold's numbers. -/
structure HW where
  p : Int
  k : Int
  x : Nat
  y : Nat
  z : Nat
  s : Nat
  t : Nat
  u : Nat
def HW.v (h : HW) : Value := .agg #[.int .i64 h.p, .int .i64 h.k, .float .f32 h.x, .float .f32 h.y, .float .f32 h.z, .float .f32 h.s, .float .f32 h.t, .float .f32 h.u]
def HW.l (h : HW) : List Value := [.int .i64 h.p, .int .i64 h.k, .float .f32 h.x, .float .f32 h.y, .float .f32 h.z, .float .f32 h.s, .float .f32 h.t, .float .f32 h.u]
/-- What the words stand for. -/
def HW.Is (h : HW) (c : HC) : Prop := h.p = c.1 ∧ h.k = c.2.1 ∧ (FV .f32 h.x c.2.2.1.1 ∧ FV .f32 h.y c.2.2.1.2.1 ∧ FV .f32 h.z c.2.2.1.2.2) ∧ FV .f32 h.s c.2.2.2.1 ∧ FV .f32 h.t c.2.2.2.2.1 ∧ FV .f32 h.u c.2.2.2.2.2
def HW.fit (h : HW) : Prop := ((Lit.int .i64 h.p).wf = true ∧ (Lit.int .i64 h.k).wf = true) ∧ (h.x < 2 ^ FloatKind.f32.format.width ∧ h.y < 2 ^ FloatKind.f32.format.width ∧ h.z < 2 ^ FloatKind.f32.format.width) ∧ h.s < 2 ^ FloatKind.f32.format.width ∧ h.t < 2 ^ FloatKind.f32.format.width ∧ h.u < 2 ^ FloatKind.f32.format.width
def HW.cls (h : HW) : HC := (h.p, h.k, (Fk.cls .f32 h.x, Fk.cls .f32 h.y, Fk.cls .f32 h.z), Fk.cls .f32 h.s, Fk.cls .f32 h.t, Fk.cls .f32 h.u)
theorem HW.fit.is {h : HW} (f : h.fit) : h.Is h.cls := ⟨rfl, rfl, ⟨FV.self f.2.1.1, FV.self f.2.1.2.1, FV.self f.2.1.2.2⟩, FV.self f.2.2.1, FV.self f.2.2.2.1, FV.self f.2.2.2.2⟩
theorem HW.Is.fit {h : HW} {c : HC} (i : h.Is c) (hp : (Lit.int .i64 c.1).wf = true) (hk : (Lit.int .i64 c.2.1).wf = true) : h.fit := ⟨⟨i.1 ▸ hp, i.2.1 ▸ hk⟩, ⟨i.2.2.1.1.1, i.2.2.1.2.1.1, i.2.2.1.2.2.1⟩, i.2.2.2.1.1, i.2.2.2.2.1.1, i.2.2.2.2.2.1⟩
/-- The eight cells of a hold. -/
def HW.At (w : World) (b o : Nat) (h : HW) : Prop := ∀ i, i < 8 → w.cell? ⟨b, o + i, none⟩ = h.l[i]?
theorem HW.At.below {W w : World} {b o : Nat} {h : HW} (hb : Below W.heap.size W w) (a : h.At W b o) : h.At w b o := by
  intro i hi
  have h0 := a i hi
  have hl : i < h.l.length := hi
  rw [List.getElem?_eq_getElem hl] at h0 ⊢
  rw [hb.cell (p := ⟨b, o + i, none⟩) (World.block_lt_of_cell? W _ h0)]
  exact h0
/-- A list of holds that lies in memory. -/
def IsHs (w : World) (a : Option Addr) (len cap : Nat) (hs : List HC) : Prop :=
  hs.length = len ∧ len ≤ cap ∧ cap ≤ maxLen ∧ (∀ s ∈ hs, (Lit.int .i64 s.1).wf = true ∧ (Lit.int .i64 s.2.1).wf = true) ∧ (a = none → len = 0 ∧ cap = 0) ∧
  (∀ x, a = some x → ∀ i, i < len → x.spot = none ∧ ∃ h : HW, h.At w x.block (x.off + i * 8) ∧ h.Is (hs.getD i hd0))
theorem IsHs.below {W w : World} {a : Option Addr} {len cap : Nat} {hs : List HC} (hb : Below W.heap.size W w) (h : IsHs W a len cap hs) : IsHs w a len cap hs := by
  obtain ⟨h1, h2, h3, h4, h5, h6⟩ := h
  refine ⟨h1, h2, h3, h4, h5, fun x hx i hi => ?_⟩
  obtain ⟨hs, q, k, hv⟩ := h6 x hx i hi
  exact ⟨hs, q, k.below hb, hv⟩
theorem IsHs.some {w : World} {a : Option Addr} {len cap : Nat} {hs : List HC} (h : IsHs w a len cap hs) (hl : 0 < len) :
    ∃ b o, a = .some ⟨b, o, none⟩ ∧ ∀ i, i < len → ∃ q : HW, q.At w b (o + i * 8) ∧ q.Is (hs.getD i hd0) := by
  obtain ⟨h1, h2, h3, h4, h5, h6⟩ := h
  cases a with
  | none => have := (h5 rfl).1; omega
  | some x =>
    obtain ⟨b, o, spot⟩ := x
    have hc := h6 _ rfl
    have hs := (hc 0 hl).1
    simp only at hs hc
    subst hs
    exact ⟨b, o, rfl, fun i hi => (hc i hi).2⟩

section
open Go.ChangeShapes Go.WideShapes Go.Deep
variable {H : Type} {enc : TypeId × Value → H} {P : Program} {w : World} {base : Nat} {held : Bool}
theorem cells?_eight {b : Nat} {a : Addr} {cs : List Value} (h : w.cells? b a 8 = some cs) : ∃ c0 c1 c2 c3 c4 c5 c6 c7, cs = [c0, c1, c2, c3, c4, c5, c6, c7] ∧ ∀ i, i < 8 → w.cell? (a.add i) = [c0, c1, c2, c3, c4, c5, c6, c7][i]? := by
  obtain ⟨_, hl, hc⟩ := World.cells?_some h
  match cs, hl with
  | [c0, c1, c2, c3, c4, c5, c6, c7], _ =>
    refine ⟨c0, c1, c2, c3, c4, c5, c6, c7, rfl, fun i hi => ?_⟩
    exact hc i (by omega)
theorem array8 {α : Type} {cs : Array α} (h : cs.size = 8) : ∃ c0 c1 c2 c3 c4 c5 c6 c7, cs = #[c0, c1, c2, c3, c4, c5, c6, c7] := by
  obtain ⟨l⟩ := cs
  match l, h with
  | [c0, c1, c2, c3, c4, c5, c6, c7], _ => exact ⟨c0, c1, c2, c3, c4, c5, c6, c7, rfl⟩
theorem trod_vec3 {t : TypeId} {f0 f1 f2 : Field} {fuel : Nat} {c0 c1 c2 : Value} {x : DataW H × List MemPlace} (hs : P.underlying t = some (.struct #[f0, f1, f2])) (hone : oneCellFields P #[f0, f1, f2] = true)
    (he0 : P.underlying f0.type = some (.float .f32)) (he1 : P.underlying f1.type = some (.float .f32)) (he2 : P.underlying f2.type = some (.float .f32))
    (h : DataW.trod enc P w base (fun _ => true) held fuel t [c0, c1, c2] = some x) : ∃ p q r, c0 = .float .f32 p ∧ c1 = .float .f32 q ∧ c2 = .float .f32 r ∧ p < 2 ^ FloatKind.f32.format.width ∧ q < 2 ^ FloatKind.f32.format.width ∧ r < 2 ^ FloatKind.f32.format.width := by
  obtain ⟨k0, k1, k2, n2, _, _, j0, j1, j2⟩ := trod_struct3 hs h
  obtain ⟨p0, r0⟩ := hone_of hone 0 f0 rfl
  obtain ⟨p1, r1⟩ := hone_of hone 1 f1 rfl
  obtain ⟨p2, r2⟩ := hone_of hone 2 f2 rfl
  rw [p0, r0] at j0
  rw [p1, r1] at j1
  rw [p2, r2] at j2
  simp at j0 j1 j2
  obtain ⟨x, e6, w6⟩ := trod_float he0 j0
  obtain ⟨y, e7, w7⟩ := trod_float he1 j1
  obtain ⟨z, e8, w8⟩ := trod_float he2 j2
  cases e6; cases e7; cases e8
  exact ⟨x, y, z, rfl, rfl, rfl, w6, w7, w8⟩
theorem trod_hold {t : TypeId} {g0 g1 g2 g3 f0 f1 f2 h0 h1 h2 : Field} {fuel : Nat} {c0 c1 c2 c3 c4 c5 c6 c7 : Value} {x : DataW H × List MemPlace}
    (hs : P.underlying t = some (.struct #[g0, g1, g2, g3])) (hoff : [g0.offset, g1.offset, g2.offset, g3.offset] = [0, 1, 2, 5]) (hcl : [P.cellsOf g0.type, P.cellsOf g1.type, P.cellsOf g2.type, P.cellsOf g3.type] = [1, 1, 3, 3])
    (hi0 : P.underlying g0.type = some (.int .i64)) (hi1 : P.underlying g1.type = some (.int .i64))
    (hv2 : P.underlying g2.type = some (.struct #[f0, f1, f2])) (hone : oneCellFields P #[f0, f1, f2] = true) (he0 : P.underlying f0.type = some (.float .f32)) (he1 : P.underlying f1.type = some (.float .f32)) (he2 : P.underlying f2.type = some (.float .f32))
    (hv3 : P.underlying g3.type = some (.struct #[h0, h1, h2])) (hone' : oneCellFields P #[h0, h1, h2] = true) (hx0 : P.underlying h0.type = some (.float .f32)) (hx1 : P.underlying h1.type = some (.float .f32)) (hx2 : P.underlying h2.type = some (.float .f32))
    (h : DataW.trod enc P w base (fun _ => true) held fuel t [c0, c1, c2, c3, c4, c5, c6, c7] = some x) : ∃ h : HW, h.fit ∧ [c0, c1, c2, c3, c4, c5, c6, c7] = h.l := by
  obtain ⟨y0, y1, y2, y3, n, _, _, j0, j1, j2, j3⟩ := Joins.trod_struct4 hs h
  simp only [List.cons.injEq, and_true] at hoff hcl
  obtain ⟨o0, o1, o2, o3⟩ := hoff
  obtain ⟨l0, l1, l2, l3⟩ := hcl
  rw [o0, l0] at j0
  rw [o1, l1] at j1
  rw [o2, l2] at j2
  rw [o3, l3] at j3
  simp at j0 j1 j2 j3
  obtain ⟨p, e0, _, w0⟩ := DataW.trod_int hi0 j0
  obtain ⟨k, e1, _, w1⟩ := DataW.trod_int hi1 j1
  obtain ⟨a, b, c, e2, e3, e4, w2, w3, w4⟩ := trod_vec3 hv2 hone he0 he1 he2 j2
  obtain ⟨a', b', c', e5, e6, e7, w5, w6, w7⟩ := trod_vec3 hv3 hone' hx0 hx1 hx2 j3
  cases e0; cases e1; subst e2 e3 e4 e5 e6 e7
  exact ⟨⟨p, k, a, b, c, a', b', c'⟩, ⟨⟨w0, w1⟩, ⟨w2, w3, w4⟩, w5, w6, w7⟩, rfl⟩
/-- A hold that came in. -/
theorem open_hold {r : Reach} {b0 : Nat} {t : TypeId} {g0 g1 g2 g3 f0 f1 f2 h0 h1 h2 : Field} {v : Value} {d : DataW H} {p : List MemPlace}
    (hs : P.underlying t = some (.struct #[g0, g1, g2, g3])) (hoff : [g0.offset, g1.offset, g2.offset, g3.offset] = [0, 1, 2, 5]) (hcl : [P.cellsOf g0.type, P.cellsOf g1.type, P.cellsOf g2.type, P.cellsOf g3.type] = [1, 1, 3, 3]) (hC : P.cellsOf t = 8)
    (hi0 : P.underlying g0.type = some (.int .i64)) (hi1 : P.underlying g1.type = some (.int .i64))
    (hv2 : P.underlying g2.type = some (.struct #[f0, f1, f2])) (hone : oneCellFields P #[f0, f1, f2] = true) (he0 : P.underlying f0.type = some (.float .f32)) (he1 : P.underlying f1.type = some (.float .f32)) (he2 : P.underlying f2.type = some (.float .f32))
    (hv3 : P.underlying g3.type = some (.struct #[h0, h1, h2])) (hone' : oneCellFields P #[h0, h1, h2] = true) (hx0 : P.underlying h0.type = some (.float .f32)) (hx1 : P.underlying h1.type = some (.float .f32)) (hx2 : P.underlying h2.type = some (.float .f32))
    (hv : Value.okWide P w r b0 t v) (h : DataW.Trod enc P w base (fun _ => true) held t v d p) : ∃ h : HW, v = h.v ∧ h.fit := by
  obtain ⟨cs, rfl, hsz⟩ := okWide_struct hs hv
  obtain ⟨c0, c1, c2, c3, c4, c5, c6, c7, rfl⟩ := array8 (hsz.trans hC)
  obtain ⟨fuel, hfu⟩ := h
  obtain ⟨q, hf, e⟩ := trod_hold hs hoff hcl hi0 hi1 hv2 hone he0 he1 he2 hv3 hone' hx0 hx1 hx2 (by simpa [Value.cells] using hfu)
  refine ⟨q, ?_, hf⟩
  unfold HW.l at e
  unfold HW.v
  simp only [List.cons.injEq, and_true] at e
  obtain ⟨e0, e1, e2, e3, e4, e5, e6, e7⟩ := e
  rw [e0, e1, e2, e3, e4, e5, e6, e7]
theorem trod_holds {t e : TypeId} {g0 g1 g2 g3 f0 f1 f2 h0 h1 h2 : Field} {fuel : Nat} {cs : List Value} {x : DataW H × List MemPlace} (ht : P.underlying t = some (.slice e))
    (hs : P.underlying e = some (.struct #[g0, g1, g2, g3])) (hoff : [g0.offset, g1.offset, g2.offset, g3.offset] = [0, 1, 2, 5]) (hcl : [P.cellsOf g0.type, P.cellsOf g1.type, P.cellsOf g2.type, P.cellsOf g3.type] = [1, 1, 3, 3]) (hC : P.cellsOf e = 8)
    (hi0 : P.underlying g0.type = some (.int .i64)) (hi1 : P.underlying g1.type = some (.int .i64))
    (hv2 : P.underlying g2.type = some (.struct #[f0, f1, f2])) (hone : oneCellFields P #[f0, f1, f2] = true) (he0 : P.underlying f0.type = some (.float .f32)) (he1 : P.underlying f1.type = some (.float .f32)) (he2 : P.underlying f2.type = some (.float .f32))
    (hv3 : P.underlying g3.type = some (.struct #[h0, h1, h2])) (hone' : oneCellFields P #[h0, h1, h2] = true) (hx0 : P.underlying h0.type = some (.float .f32)) (hx1 : P.underlying h1.type = some (.float .f32)) (hx2 : P.underlying h2.type = some (.float .f32))
    (h : DataW.trod enc P w base (fun _ => true) held fuel t cs = some x) : ∃ a len cap hs, cs = [.slice a len cap] ∧ IsHs w a len cap hs := by
  rcases open_slice ht h with ⟨hcs, hy⟩ | ⟨a, len, cap, m, n, D, Pl, hcs, hb, hl, hm, hmm, hx, hr⟩
  · exact ⟨none, 0, 0, [], hcs, rfl, Nat.le_refl _, Nat.zero_le _, by simp, fun _ => ⟨rfl, rfl⟩, fun _ h => by cases h⟩
  · simp only [if_true] at hmm
    rw [hC] at hr
    have each : ∀ i, i < len → ∃ q : HW, q.fit ∧ ∀ j, j < 8 → w.cell? ((a.add (i * 8)).add j) = q.l[j]? := by
      intro i hi
      obtain ⟨cs', h1, h2⟩ := hr i (by omega)
      obtain ⟨c0, c1, c2, c3, c4, c5, c6, c7, rfl, hk⟩ := cells?_eight h1
      obtain ⟨q, hf, e⟩ := trod_hold hs hoff hcl hi0 hi1 hv2 hone he0 he1 he2 hv3 hone' hx0 hx1 hx2 h2
      exact ⟨q, hf, fun j hj => by rw [hk j hj, e]⟩
    let g : Nat → HW := fun i => if h : i < len then (each i h).choose else ⟨0, 0, 0, 0, 0, 0, 0, 0⟩
    have hgs : ∀ i, i < len → (g i).fit ∧ ∀ j, j < 8 → w.cell? ((a.add (i * 8)).add j) = (g i).l[j]? := by
      intro i hi
      have : g i = (each i hi).choose := by simp [g, hi]
      rw [this]; exact (each i hi).choose_spec
    refine ⟨some a, len, cap, (List.range len).map fun i => (g i).cls, hcs, by simp, hl, hm, ?_, (fun h => by cases h), fun y hy' => ?_⟩
    · intro s hs'
      obtain ⟨i, hi, rfl⟩ := List.mem_map.1 hs'
      exact (hgs i (List.mem_range.1 hi)).1.1
    cases hy'
    have hsp : 0 < len → a.spot = none := fun h0 => by
      have := (hgs 0 h0).2 0 (by omega)
      rw [show (g 0).l[0]? = some (.int .i64 (g 0).p) from rfl] at this
      simpa [Addr.add] using World.cell?_spot this
    intro i hi
    have h0 : 0 < len := by omega
    refine ⟨hsp h0, g i, fun j hj => ?_, ?_⟩
    · have h1 := (hgs i hi).2 j hj
      rw [Addr.add_add] at h1
      rw [← h1]
      have h2 := hsp h0
      clear_value g
      obtain ⟨b, o, sp⟩ := a
      simp only at h2
      subst h2
      rw [addr_add', Nat.add_assoc]
    · have : ((List.range len).map fun i => (g i).cls).getD i hd0 = (g i).cls := by simp [List.getD, hi]
      rw [this]; exact (hgs i hi).1.is
theorem open_holds {t e : TypeId} {g0 g1 g2 g3 f0 f1 f2 h0 h1 h2 : Field} {a : Option Addr} {len cap : Nat} {d : DataW H} {p : List MemPlace} (ht : P.underlying t = some (.slice e))
    (hs : P.underlying e = some (.struct #[g0, g1, g2, g3])) (hoff : [g0.offset, g1.offset, g2.offset, g3.offset] = [0, 1, 2, 5]) (hcl : [P.cellsOf g0.type, P.cellsOf g1.type, P.cellsOf g2.type, P.cellsOf g3.type] = [1, 1, 3, 3]) (hC : P.cellsOf e = 8)
    (hi0 : P.underlying g0.type = some (.int .i64)) (hi1 : P.underlying g1.type = some (.int .i64))
    (hv2 : P.underlying g2.type = some (.struct #[f0, f1, f2])) (hone : oneCellFields P #[f0, f1, f2] = true) (he0 : P.underlying f0.type = some (.float .f32)) (he1 : P.underlying f1.type = some (.float .f32)) (he2 : P.underlying f2.type = some (.float .f32))
    (hv3 : P.underlying g3.type = some (.struct #[h0, h1, h2])) (hone' : oneCellFields P #[h0, h1, h2] = true) (hx0 : P.underlying h0.type = some (.float .f32)) (hx1 : P.underlying h1.type = some (.float .f32)) (hx2 : P.underlying h2.type = some (.float .f32))
    (h : DataW.Trod enc P w base (fun _ => true) held t (.slice a len cap) d p) : ∃ hs, IsHs w a len cap hs := by
  obtain ⟨fuel, hf⟩ := h
  obtain ⟨a', len', cap', cs, e, hv⟩ := trod_holds ht hs hoff hcl hC hi0 hi1 hv2 hone he0 he1 he2 hv3 hone' hx0 hx1 hx2 (by simpa [Value.cells] using hf)
  cases e
  exact ⟨cs, hv⟩
end
end Fk
end Go.Proofs.Ytmbekamnogbgaaa


/-
What the small functions on single numbers return, of the program and of its model. Conditions: none beyond that the words fit.
-/
namespace Go.Proofs.Ytmbekamnogbgaaa
open Go Fk
set_option linter.unusedVariables false

abbrev nan32 (x : Nat) : Bool := (FloatKind.f32.decode x).isNaN
abbrev nan64 (x : Nat) : Bool := (FloatKind.f64.decode x).isNaN
def bitsZ (x : Nat) : Int := if nan32 x = true then 2143289344 else x

theorem ne_self (k : FloatKind) (x : Nat) : (k.format.order x x != some .eq) = (k.decode x).isNaN := by
  cases h : (k.decode x).isNaN
  · rw [order_self h]; rfl
  · rw [order_nan (.inl h)]; rfl
theorem wR_nan (x : Nat) (w : World) : (FloatKind.f64.decode (wR x w)).isNaN = (FloatKind.f32.decode x).isNaN := by
  unfold wR
  cases h : (FloatKind.f32.decode x).isNaN
  · rw [if_neg (by simp)]; exact wid_nan h
  · rw [if_pos rfl]; exact (cutConv_nan .f64 x _).2
theorem ret_bool {a b : Bool} (h : a = b) : Ending.returned (.bool a) = .returned (.bool b) := by rw [h]
theorem ret_i64 {a b : Int} (h : a = b) : Ending.returned (.int .i64 a) = .returned (.int .i64 b) := by rw [h]

theorem math_IsNaN (x : Nat) (w : World) :
    Calls Try.prog 201 #[.float .f64 x] w fun e w' => e = .returned (.bool (nan64 x)) ∧ w' = w := by
  have u := Try.underlying80
  go_enter Try.func201, Try.ntmps201
  go_wp2
  go_ret
  exact ⟨ret_bool (ne_self .f64 x), rfl⟩

theorem impl_isNaN (x : Nat) (w : World) :
    Calls Try.prog 180 #[.float .f32 x] w fun e w' => e = .returned (.bool (nan32 x)) ∧ ∃ n, w' = w.drewN n := by
  have u := Try.underlying80
  have u' := Try.underlying31
  go_enter Try.func180, Try.ntmps180
  go_wp2_with (go_at_call 201; refine (math_IsNaN _ _).mono ?_; rintro e w' ⟨rfl, rfl⟩)
  go_ret
  exact ⟨ret_bool (wR_nan x w), _, rfl⟩


@[go_sem] theorem ext_Float64bits (x : Nat) (w : World) : (callFunc 211 #[.float .f64 x]).run Try.prog w = .ok (.value (.int .u64 x)) w :=
  (run_callFunc_extern (e := Extern.MathFloatBits.float64bits) Try.func211 (by kernel_rfl) (by kernel_rfl) (by kernel_rfl) (by kernel_rfl) _ _).trans rfl
@[go_sem] theorem ext_Float64frombits (n : Int) (w : World) : (callFunc 210 #[.int .u64 n]).run Try.prog w = .ok (.value (.float .f64 n.toNat)) w :=
  (run_callFunc_extern (e := Extern.MathFloatBits.float64frombits) Try.func210 (by kernel_rfl) (by kernel_rfl) (by kernel_rfl) (by kernel_rfl) _ _).trans rfl

theorem dec32 (x : Nat) : FloatKind.f32.decode x = if x % 2147483648 < 8388608 then .number (x / 2147483648 % 2 == 1) (x % 2147483648) (-149)
    else if x % 2147483648 < 2139095040 then .number (x / 2147483648 % 2 == 1) (8388608 + x % 2147483648 % 8388608) (-149 + (x % 2147483648 / 8388608 - 1 : Nat))
    else if x % 2147483648 = 2139095040 then .infinity (x / 2147483648 % 2 == 1) else .nan (x / 2147483648 % 2 == 1) (x % 2147483648 - 2139095040) := rfl
def finB (x : Nat) : Bool := decide (x % 2147483648 < 2139095040)
theorem dec32_fin {x : Nat} (h : x % 2147483648 < 2139095040) : ∃ m p, FloatKind.f32.decode x = .number (x / 2147483648 % 2 == 1) m p := by
  rw [dec32]
  split
  · exact ⟨_, _, rfl⟩
  · exact ⟨_, _, rfl⟩
theorem dec32_inf {x : Nat} (h : x % 2147483648 = 2139095040) : FloatKind.f32.decode x = .infinity (x / 2147483648 % 2 == 1) := by
  rw [dec32, if_neg (by omega), if_neg (by omega), if_pos h]
theorem dec32_nan {x : Nat} (h : 2139095040 < x % 2147483648) : ∃ s t, FloatKind.f32.decode x = .nan s t := by
  rw [dec32, if_neg (by omega), if_neg (by omega), if_neg (by omega)]; exact ⟨_, _, rfl⟩
theorem nan32_iff (x : Nat) : nan32 x = decide (2139095040 < x % 2147483648) := by
  rw [show nan32 x = (FloatKind.f32.decode x).isNaN from rfl, isNaN_decode]; rfl
theorem write_zero (k : FloatKind) (s : Bool) (p : Int) : k.format.write (.number s 0 p) = if s then k.format.signWeight else 0 := by
  show k.format.nearest s 0 p = _
  unfold Ieee.Format.nearest Ieee.Format.word
  simp
theorem sub_self32 (x : Nat) : floatBits .sub .f32 x x = if finB x = true then some 0 else none := by
  show ((FloatKind.f32.decode x).sum (FloatKind.f32.decode x).opposite).map FloatKind.f32.format.write = _
  unfold finB
  rcases Nat.lt_trichotomy (x % 2147483648) 2139095040 with h | h | h
  · obtain ⟨m, p, e⟩ := dec32_fin h
    rw [e, if_pos (by simpa using h)]
    generalize (x / 2147483648 % 2 == 1) = s
    have : Ieee.signed s m (p - min p p).toNat + Ieee.signed (!s) m (p - min p p).toNat = 0 := by
      unfold Ieee.signed; cases s <;> simp <;> omega
    simp only [Ieee.Datum.opposite, Ieee.Datum.sum, this, if_true, Option.map_some]
    rw [show (s && !s) = false by cases s <;> rfl]
    rw [show (0 : Int).natAbs = 0 from rfl, write_zero]; rfl
  · rw [dec32_inf h, if_neg (by simp; omega)]
    cases (x / 2147483648 % 2 == 1) <;> rfl
  · obtain ⟨s, t, e⟩ := dec32_nan h
    rw [e, if_neg (by simp; omega)]; rfl

theorem l01Finite (x : Nat) (w : World) (hx : x < 4294967296) :
    Calls Try.prog 118 #[.float .f32 x] w fun e w' => e = .returned (.bool (finB x)) ∧ ∃ n, w' = w.drewN n := by
  have hs := sub_self32 x
  have hv : FV .f32 (fR .sub .f32 x x w) (fop .sub .f32 (cls .f32 x) (cls .f32 x)) := FV_fR (FV.self hx) (FV.self hx)
  have hv0 : FV .f32 0 (some 0) := ⟨by decide, by decide⟩
  have ho := ford_of hv hv0
  have h00 : FloatKind.f32.format.order 0 0 = some .eq := by decide
  have hgoal : (FloatKind.f32.format.order (fR .sub .f32 x x w) 0 == some .eq) = finB x := by
    rw [ho]
    cases hf : finB x
    · rw [hf] at hs
      have : fop .sub .f32 (cls .f32 x) (cls .f32 x) = none := by
        unfold cls
        split
        · rfl
        · exact hs
      rw [this]; rfl
    · rw [hf] at hs
      have hn : (FloatKind.f32.decode x).isNaN = false := (floatBits_ok (r := 0) (by rw [hs]; rfl)).1
      have : fop .sub .f32 (cls .f32 x) (cls .f32 x) = some 0 := by rw [cls_num hn]; exact hs
      rw [this]; exact (congrArg (· == some Ordering.eq) h00)
  clear hs hv hv0 ho h00
  have H := Lib.hid hgoal
  clear hgoal
  go_enter Try.func118, Try.ntmps118
  go_wp2
  go_ret
  exact ⟨ret_bool H.out, _, rfl⟩

theorem math_Abs (x : Nat) (w : World) (hx : x < 18446744073709551616) :
    Calls Try.prog 202 #[.float .f64 x] w fun e w' => e = .returned (.float .f64 (x % 9223372036854775808)) ∧ w' = w := by
  have u := Try.underlying80
  go_enter Try.func202, Try.ntmps202
  go_wp2
  go_ret
  refine ⟨?_, rfl⟩
  have e : bits .andNot .u64 (x : Int) ((9223372036854775808 : Nat) : Int) = ((x % 9223372036854775808 : Nat) : Int) := by
    rw [u64_andNot_nat x 9223372036854775808 hx (by decide)]
    rw [show (18446744073709551615 - 9223372036854775808 : Nat) = 2 ^ 63 - 1 by decide, Nat.and_two_pow_sub_one_eq_mod]
  show Ending.returned (Value.float FloatKind.f64 (bits .andNot .u64 (x : Int) ((9223372036854775808 : Nat) : Int)).toNat) = _
  rw [e, Int.toNat_natCast]

theorem quo_one (x : Nat) (hn : (FloatKind.f64.decode x).isNaN = false) : ∃ r, floatBits .quo .f64 4607182418800017408 x = some r := by
  show ∃ r, ((FloatKind.f64.decode 4607182418800017408).quotient _ (FloatKind.f64.decode x)).map FloatKind.f64.format.write = some r
  have e : FloatKind.f64.decode 4607182418800017408 = .number false 4503599627370496 (-52) := by decide
  rw [e]
  cases hd : FloatKind.f64.decode x with
  | nan s t => rw [hd] at hn; simp [Ieee.Datum.isNaN] at hn
  | infinity s => exact ⟨_, rfl⟩
  | number s m p =>
    by_cases hm : m = 0
    · subst hm; exact ⟨_, rfl⟩
    · simp only [Ieee.Datum.quotient, if_neg hm]; exact ⟨_, rfl⟩

theorem laws_sameFloat (a b : Nat) (c : Option Nat) (w : World) (ha : FV .f64 a c) (hb : FV .f64 b c) :
    Calls Try.prog 52 #[.float .f64 a, .float .f64 b] w fun e w' => e = .returned (.bool true) ∧ ∃ n, w' = w.drewN n := by
  have u := Try.underlying80
  cases c with
  | none =>
    have h1 : FloatKind.f64.format.order a a = none := order_nan (.inl ha.nan)
    have h2 : FloatKind.f64.format.order b b = none := order_nan (.inl hb.nan)
    clear ha hb
    go_enter Try.func52, Try.ntmps52
    go_wp2
    go_ret
    exact ⟨rfl, 0, rfl⟩
  | some x =>
    obtain rfl := ha.num
    obtain rfl := hb.num
    have h1 : FloatKind.f64.format.order b b = some .eq := order_self ha.notnan
    obtain ⟨r, hr⟩ := quo_one b ha.notnan
    have h2 : ∀ w, fR .quo .f64 4607182418800017408 b w = r := fun w => by unfold fR; rw [hr]
    clear ha hb hr
    cases h0 : (FloatKind.f64.format.order b 0 == some .eq)
    all_goals
      go_enter Try.func52, Try.ntmps52
      go_wp2
      go_ret
      first | exact ⟨rfl, 0, rfl⟩ | exact ⟨rfl, _, rfl⟩ | exact ⟨ret_bool (by simp), _, rfl⟩

/-! Infinities -/
theorem max64 : FloatKind.f64.decode 9218868437227405311 = .number false 9007199254740991 971 := by decide
/-- Is greater than the greatest number: the positive infinity alone. -/
theorem gt_max (x : Nat) (hx : x < 18446744073709551616) : (FloatKind.f64.format.order x 9218868437227405311 == some .gt) = decide (x = 9218868437227405312) := by
  have e3 : 2 ^ FloatKind.f64.format.width = 18446744073709551616 := by decide
  have nm : (FloatKind.f64.decode 9218868437227405311).isNaN = false := by rw [max64]; rfl
  cases hn : (FloatKind.f64.decode x).isNaN
  · rw [order_key (by rw [e3]; exact hx) (by rw [e3]; decide) hn nm]
    have hn' := hn
    rw [isNaN_decode] at hn'
    have e1 : FloatKind.f64.format.infRung = 9218868437227405312 := by decide
    have e2 : FloatKind.f64.format.signWeight = 9223372036854775808 := by decide
    rw [e1, e2] at hn'
    have hn'' : ¬ 9218868437227405312 < x % 9223372036854775808 := by simpa using hn'
    have k1 : key .f64 9218868437227405311 = 9218868437227405311 := by decide
    have k2 : key .f64 x = if x < 9223372036854775808 then (x : Int) else 9223372036854775808 - x := by unfold key; rw [e2]; rfl
    rw [k1]
    by_cases h : x = 9218868437227405312
    · rw [decide_eq_true h]
      have : key .f64 x > 9218868437227405311 := by rw [k2, if_pos (by omega)]; omega
      rw [Int.compare_eq_gt.2 this]; rfl
    · rw [decide_eq_false h]
      have : ¬ key .f64 x > 9218868437227405311 := by rw [k2]; split <;> omega
      cases hc : compare (key .f64 x) 9218868437227405311
      · rfl
      · rfl
      · exact absurd (Int.compare_eq_gt.1 hc) this
  · rw [order_nan (.inl hn)]
    by_cases h : x = 9218868437227405312
    · subst h; rw [isNaN_decode] at hn; exact absurd hn (by decide)
    · rw [decide_eq_false h]; rfl

theorem math_IsInf0 (x : Nat) (w : World) (hx : x < 18446744073709551616) :
    Calls Try.prog 182 #[.float .f64 x, .int .i64 0] w fun e w' => e = .returned (.bool (decide (x % 9223372036854775808 = 9218868437227405312))) ∧ w' = w := by
  have u := Try.underlying80
  have h := gt_max (x % 9223372036854775808) (by omega)
  have H := Lib.hid h
  clear h
  go_enter Try.func182, Try.ntmps182
  go_wp2_with (go_at_call 202; refine (math_Abs _ _ (by assumption)).mono ?_; rintro e w' ⟨rfl, rfl⟩)
  go_ret
  exact ⟨ret_bool H.out, rfl⟩
theorem math_IsInf1 (x : Nat) (w : World) (hx : x < 18446744073709551616) :
    Calls Try.prog 182 #[.float .f64 x, .int .i64 1] w fun e w' => e = .returned (.bool (decide (x = 9218868437227405312))) ∧ w' = w := by
  have u := Try.underlying80
  have h := gt_max x hx
  have H := Lib.hid h
  clear h
  go_enter Try.func182, Try.ntmps182
  go_wp2
  go_ret
  exact ⟨ret_bool H.out, rfl⟩

/-- The 64-bit words of 32-bit ones. -/
theorem wid_cases {x : Nat} (hx : x < 4294967296) (hn : nan32 x = false) :
    (x % 2147483648 = 2139095040 ∧ wid x = (if x < 2147483648 then 0 else 9223372036854775808) + 9218868437227405312) ∨
    (x % 2147483648 < 2139095040 ∧ ∃ r, r < 5188146770730811392 ∧ wid x = (if x < 2147483648 then 0 else 9223372036854775808) + r) := by
  rw [nan32_iff] at hn
  have hn' : ¬ 2139095040 < x % 2147483648 := by simpa using hn
  have hs : (x / 2147483648 % 2 == 1) = decide (¬ x < 2147483648) := by
    by_cases h : x < 2147483648
    · rw [Nat.div_eq_of_lt h]; simp [h]
    · have h1 : x / 2147483648 = 1 := by omega
      rw [h1]; simp [h]
  have e2 : Ieee.double.signWeight = 9223372036854775808 := by decide
  by_cases h : x % 2147483648 = 2139095040
  · refine .inl ⟨h, ?_⟩
    have e1 : Ieee.double.infRung = 9218868437227405312 := by decide
    unfold wid
    rw [dec32_inf h, hs]
    show Ieee.double.word _ Ieee.double.infRung = _
    unfold Ieee.Format.word
    rw [e1, e2]
    by_cases h2 : x < 2147483648 <;> simp [h2]
  · refine .inr ⟨by omega, ?_⟩
    obtain ⟨m, p, e⟩ := dec32_fin (x := x) (by omega)
    obtain ⟨r, he, hr⟩ := wid_word x _ m p e
    refine ⟨r, hr, ?_⟩
    rw [he, hs]
    unfold Ieee.Format.word
    rw [e2]
    by_cases h2 : x < 2147483648 <;> simp [h2]
theorem wR_lt {x : Nat} (w : World) (hx : x < 4294967296) : wR x w < 18446744073709551616 := (FV_wR (FV.self (k := .f32) hx)).1
theorem wR_num {x : Nat} (w : World) (hn : nan32 x = false) : wR x w = wid x := by unfold wR; rw [if_neg (by simp [hn])]
theorem inf0 {x : Nat} (w : World) (hx : x < 4294967296) (hn : nan32 x = false) : decide (wR x w % 9223372036854775808 = 9218868437227405312) = !finB x := by
  rw [wR_num w hn]
  unfold finB
  rcases wid_cases hx hn with ⟨h1, h2⟩ | ⟨h1, r, hr, h2⟩
  · rw [h2, decide_eq_true (by split <;> omega), decide_eq_false (by omega)]; rfl
  · rw [h2, decide_eq_false (by split <;> omega), decide_eq_true h1]; rfl
theorem inf1 {x : Nat} (w : World) (hx : x < 4294967296) : decide (wR x w = 9218868437227405312) = decide (x = 2139095040) := by
  cases hn : nan32 x
  · rw [wR_num w hn]
    rcases wid_cases hx hn with ⟨h1, h2⟩ | ⟨h1, r, hr, h2⟩
    · rw [h2]; congr 1; apply propext; split <;> omega
    · rw [h2]; congr 1; apply propext; split <;> omega
  · have h : (FloatKind.f64.decode (wR x w)).isNaN = true := by rw [wR_nan]; exact hn
    have a : ¬ wR x w = 9218868437227405312 := fun e => by rw [e, isNaN_decode] at h; exact absurd h (by decide)
    have b : ¬ x = 2139095040 := fun e => by rw [e] at hn; rw [nan32_iff] at hn; exact absurd hn (by decide)
    rw [decide_eq_false a, decide_eq_false b]

theorem impl_IsFinite (x : Nat) (w : World) (hx : x < 4294967296) :
    Calls Try.prog 128 #[.float .f32 x] w fun e w' => e = .returned (.bool (finB x)) ∧ ∃ n, w' = w.drewN n := by
  have u := Try.underlying80
  have u' := Try.underlying31
  have hlt := fun w => wR_lt (x := x) w hx
  cases hn : nan32 x
  · have h0 := fun w => inf0 (x := x) w hx hn
    go_enter Try.func128, Try.ntmps128
    go_wp2_with (first
      | (go_at_call 180; refine (impl_isNaN _ _).mono ?_; rintro e w' ⟨rfl, n, rfl⟩)
      | (go_at_call 182; refine (math_IsInf0 _ _ (hlt _)).mono ?_; rintro e w' ⟨rfl, rfl⟩))
    go_ret
    exact ⟨ret_bool (by simp), _, rfl⟩
  · have hf : finB x = false := by
      rw [nan32_iff] at hn; unfold finB; simp at hn ⊢; omega
    have H := Lib.hid hf
    clear hf
    go_enter Try.func128, Try.ntmps128
    go_wp2_with (first
      | (go_at_call 180; refine (impl_isNaN _ _).mono ?_; rintro e w' ⟨rfl, n, rfl⟩))
    go_ret
    exact ⟨ret_bool H.out.symm, _, rfl⟩
end Go.Proofs.Ytmbekamnogbgaaa


/-
From 64 bits to 32, roots, and how great results of operations are at most. Conditions: none; where a conversion would leave its range, its result is left open.
-/
namespace Go.Proofs.Ytmbekamnogbgaaa
namespace Fk
open Go
set_option linter.unusedVariables false

/-- The 32-bit word of a 64-bit one that is no not-a-number and in range. -/
def nar (y : Nat) : Nat := FloatKind.f32.encode (FloatKind.f64.decode y)
/-- Is out of range. -/
def ovf (y : Nat) : Bool := match FloatKind.f64.decode y with
  | .number s m p => (FloatKind.f32.decode (FloatKind.f32.encode (.number s m p))).isInfinity
  | _ => false
def nR (y : Nat) (w : World) : Nat := if (FloatKind.f64.decode y).isNaN then (Question.nanConv .f32 y).cut (w.tape w.drawn (.nanConv .f32 y))
  else if ovf y then (Question.floatToFloat y).cut (w.tape w.drawn (.floatToFloat y)) else nar y
def nN (y : Nat) : Nat := if (FloatKind.f64.decode y).isNaN then 1 else if ovf y then 1 else 0
theorem nar_lt (y : Nat) : nar y < 2 ^ FloatKind.f32.format.width := FloatKind.f32.format.write_lt _
theorem FV_nR {y : Nat} {w : World} {c : Option Nat} (h : FV .f64 y c) (ho : ovf y = false) : FV .f32 (nR y w) (c.map nar) := by
  unfold nR
  cases c with
  | none =>
    rw [if_pos h.nan]
    have := cutConv_nan .f32 y (w.tape w.drawn (.nanConv .f32 y))
    exact ⟨this.1, cls_nan this.2⟩
  | some a =>
    obtain rfl := h.num
    have hn := h.notnan
    rw [if_neg (by simp [hn]), if_neg (by simp [ho])]
    exact ⟨nar_lt y, cls_num (isNaN_write .f32 _ hn)⟩
section
variable {P : Program} (w : World)
@[go_sem] theorem run_nR (src dst : TypeId) (y : Nat) (hs : (P.underlying src).isSome = true) (hd : P.underlying dst = some (.float .f32)) :
    (convert src dst (.float .f64 y)).run P w = .ok (.float .f32 (nR y w)) (w.drewN (nN y)) := by
  obtain ⟨u, hs'⟩ := Option.isSome_iff_exists.1 hs
  have hq : (Question.nanConv .f32 y).forced = false := rfl
  have hq' : (Question.floatToFloat y).forced = false := rfl
  cases hd' : FloatKind.f64.decode y with
  | nan s t =>
    have e : (FloatKind.f64.decode y).isNaN = true := by rw [hd']; rfl
    unfold nR nN
    rw [if_pos e, if_pos e]
    cases u <;> simp [convert, run_underlying hs', run_underlying hd, Conv.floatToFloat, hd', hq] <;> rfl
  | infinity s =>
    have e : (FloatKind.f64.decode y).isNaN = false := by rw [hd']; rfl
    have e' : ovf y = false := by unfold ovf; rw [hd']
    unfold nR nN
    rw [e, e', if_neg Bool.false_ne_true, if_neg Bool.false_ne_true, if_neg Bool.false_ne_true, if_neg Bool.false_ne_true]
    unfold nar; rw [hd']
    cases u <;> simp [convert, run_underlying hs', run_underlying hd, Conv.floatToFloat, hd'] <;> rfl
  | number s m p =>
    have e : (FloatKind.f64.decode y).isNaN = false := by rw [hd']; rfl
    have eo : ovf y = (FloatKind.f32.decode (FloatKind.f32.encode (.number s m p))).isInfinity := by unfold ovf; rw [hd']
    unfold nR nN
    rw [e, if_neg Bool.false_ne_true, if_neg Bool.false_ne_true]
    cases ho : ovf y
    · rw [ho] at eo
      rw [if_neg Bool.false_ne_true, if_neg Bool.false_ne_true]
      unfold nar; rw [hd']
      cases u <;> simp [convert, run_underlying hs', run_underlying hd, Conv.floatToFloat, hd', eo.symm] <;> rfl
    · rw [ho] at eo
      rw [if_pos rfl, if_pos rfl]
      cases u <;> simp [convert, run_underlying hs', run_underlying hd, Conv.floatToFloat, hd', eo.symm, hq'] <;> rfl
end

/-! The greatest size of what is rounded -/
theorem kept_le (f : Ieee.Format) (s : Bool) (m : Nat) (p last : Int) (h0 : m ≠ 0) (h1 : p + m.log2 - f.fractionBits ≤ last) :
    Ieee.Toward.even.cut s (m <<< (p - last).toNat) (last - p).toNat ≤ 2 * f.binade := by
  have hB : 2 * f.binade = 2 ^ (f.fractionBits + 1) := by unfold Ieee.Format.binade; rw [Nat.pow_succ, Nat.mul_comm]
  rw [hB]
  have hlt : m < 2 ^ (m.log2 + 1) := Nat.lt_log2_self
  by_cases hp : p ≤ last
  · have e : (p - last).toNat = 0 := by omega
    rw [e, Nat.shiftLeft_zero]
    generalize hd : (last - p).toNat = d
    have hd' : m.log2 ≤ f.fractionBits + d := by omega
    unfold Ieee.Toward.cut
    dsimp only
    rw [Nat.shiftLeft_eq, Nat.one_mul]
    have hlow : m / 2 ^ min d (m.log2 + 2) + 1 ≤ 2 ^ (f.fractionBits + 1) := by
      by_cases h : d ≤ m.log2 + 2
      · rw [Nat.min_eq_left h]
        have : m / 2 ^ d < 2 ^ (f.fractionBits + 1) := by
          rw [Nat.div_lt_iff_lt_mul (Nat.two_pow_pos _), ← Nat.pow_add]
          exact Nat.lt_of_lt_of_le hlt (Nat.pow_le_pow_right (by decide) (by omega))
        omega
      · rw [Nat.min_eq_right (by omega)]
        have : m / 2 ^ (m.log2 + 2) = 0 := Nat.div_eq_of_lt (Nat.lt_of_lt_of_le hlt (Nat.pow_le_pow_right (by decide) (by omega)))
        rw [this]
        exact Nat.two_pow_pos _
    refine Nat.le_trans (Nat.add_le_add_left ?_ _) hlow
    cases (2 ^ min d (m.log2 + 2) < 2 * (m % 2 ^ min d (m.log2 + 2)) || (2 ^ min d (m.log2 + 2) == 2 * (m % 2 ^ min d (m.log2 + 2)) && m / 2 ^ min d (m.log2 + 2) % 2 == 1)) <;> simp
  · have e : (last - p).toNat = 0 := by omega
    rw [e, even_cut_zero, Nat.shiftLeft_eq]
    have : m * 2 ^ (p - last).toNat < 2 ^ (m.log2 + 1) * 2 ^ (p - last).toNat := Nat.mul_lt_mul_of_pos_right hlt (Nat.two_pow_pos _)
    rw [← Nat.pow_add] at this
    exact Nat.le_trans (Nat.le_of_lt this) (Nat.pow_le_pow_right (by decide) (by omega))

/-- The rung of a number less than two to the power of e in size is at most that of this power. -/
theorem nearest_small (f : Ieee.Format) (s : Bool) (m : Nat) (p e : Int) (h : m ≠ 0 → p + m.log2 < e) (he : f.leastPlace + f.fractionBits + 1 ≤ e) :
    ∃ r, f.nearest s m p = f.word s r ∧ r ≤ (e - f.fractionBits - f.leastPlace + 1).toNat * f.binade ∧ r ≤ f.infRung := by
  unfold Ieee.Format.nearest
  dsimp only
  by_cases h0 : m = 0
  · rw [if_pos h0]; exact ⟨0, rfl, Nat.zero_le _, Nat.zero_le _⟩
  · rw [if_neg h0]
    refine ⟨_, rfl, ?_, Nat.min_le_right _ _⟩
    refine Nat.le_trans (Nat.min_le_left _ _) ?_
    have h1 := h h0
    generalize hl : max (p + (m.log2 : Int) - f.fractionBits) f.leastPlace = last
    have hk := kept_le f s m p last h0 (by omega)
    have hle : (last - f.leastPlace).toNat + 2 ≤ (e - f.fractionBits - f.leastPlace + 1).toNat := by omega
    have := Nat.mul_le_mul_right f.binade hle
    rw [Nat.add_mul] at this
    omega

/-- In size less than two to the power of e. -/
def MB (k : FloatKind) (x : Nat) (e : Int) : Prop := ∃ s m p, k.decode x = .number s m p ∧ (m ≠ 0 → p + m.log2 < e)
theorem MB.notnan {k : FloatKind} {x : Nat} {e : Int} (h : MB k x e) : (k.decode x).isNaN = false := by
  obtain ⟨s, m, p, h1, _⟩ := h; rw [h1]; rfl
theorem MB.mono {k : FloatKind} {x : Nat} {e e' : Int} (h : MB k x e) (he : e ≤ e') : MB k x e' := by
  obtain ⟨s, m, p, h1, h2⟩ := h; exact ⟨s, m, p, h1, fun h => by have := h2 h; omega⟩
/-- A 64-bit number of the size of the 32-bit ones is in range. -/
theorem ovf_small {y : Nat} (h : MB .f64 y 127) : ovf y = false := by
  obtain ⟨s, m, p, h1, h2⟩ := h
  unfold ovf
  rw [h1]
  show (FloatKind.f32.decode (FloatKind.f32.format.nearest s m p)).isInfinity = false
  obtain ⟨r, hr, hb, _⟩ := nearest_small FloatKind.f32.format s m p 127 h2 (by decide)
  have e1 : (127 - (FloatKind.f32.format.fractionBits : Int) - FloatKind.f32.format.leastPlace + 1).toNat * FloatKind.f32.format.binade = 2130706432 := by decide
  rw [e1] at hb
  rw [hr]
  show (FloatKind.f32.format.read (FloatKind.f32.format.word s r)).isInfinity = false
  have e2 : FloatKind.f32.format.infRung = 2139095040 := by decide
  unfold Ieee.Format.read
  dsimp only
  rw [word_mod _ _ _ (show r < FloatKind.f32.format.signWeight by rw [show FloatKind.f32.format.signWeight = 2147483648 by decide]; omega)]
  split
  · rfl
  · rw [if_pos (by rw [e2]; omega)]; rfl
end Fk
end Go.Proofs.Ytmbekamnogbgaaa

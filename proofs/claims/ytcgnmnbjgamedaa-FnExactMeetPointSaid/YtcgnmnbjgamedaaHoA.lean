
/-
Holds in memory: one and lists of them, and how they come in. Conditions: none.
-/
import Derived.Test.YtcgnmnbjgamedaaMsh
import Derived.Test.YtcgnmnbjgamedaaFs
import Derived.Lib.SmallJoins
import Derived.ChangeSlices
namespace Go.Proofs.Ytcgnmnbjgamedaa
namespace Fk
open Go Go.RowKit
set_option linter.unusedVariables false

/-- A hold: its place and kind, and the classes of its two vectors. -/
abbrev HC := Int × Int × C3 × C3
abbrev hd0 : HC := (0, 0, c0, c0)
/-- The words of a hold's numbers. -/
structure HW where
  p : Int
  k : Int
  x : Nat
  y : Nat
  z : Nat
  s : Nat
  t : Nat
  u : Nat
def HW.v (h : HW) : Value := .agg #[.int .i64 h.p, .int .i64 h.k, .float .f32 h.x, .float .f32 h.y, .float .f32 h.z, .float .f32 h.s, .float .f32 h.t, .float .f32 h.u]
def HW.l (h : HW) : List Value := [.int .i64 h.p, .int .i64 h.k, .float .f32 h.x, .float .f32 h.y, .float .f32 h.z, .float .f32 h.s, .float .f32 h.t, .float .f32 h.u]
/-- What the words stand for. -/
def HW.Is (h : HW) (c : HC) : Prop := h.p = c.1 ∧ h.k = c.2.1 ∧ (FV .f32 h.x c.2.2.1.1 ∧ FV .f32 h.y c.2.2.1.2.1 ∧ FV .f32 h.z c.2.2.1.2.2) ∧ FV .f32 h.s c.2.2.2.1 ∧ FV .f32 h.t c.2.2.2.2.1 ∧ FV .f32 h.u c.2.2.2.2.2
def HW.fit (h : HW) : Prop := ((Lit.int .i64 h.p).wf = true ∧ (Lit.int .i64 h.k).wf = true) ∧ (h.x < 2 ^ FloatKind.f32.format.width ∧ h.y < 2 ^ FloatKind.f32.format.width ∧ h.z < 2 ^ FloatKind.f32.format.width) ∧ h.s < 2 ^ FloatKind.f32.format.width ∧ h.t < 2 ^ FloatKind.f32.format.width ∧ h.u < 2 ^ FloatKind.f32.format.width
def HW.cls (h : HW) : HC := (h.p, h.k, (Fk.cls .f32 h.x, Fk.cls .f32 h.y, Fk.cls .f32 h.z), Fk.cls .f32 h.s, Fk.cls .f32 h.t, Fk.cls .f32 h.u)
theorem HW.fit.is {h : HW} (f : h.fit) : h.Is h.cls := ⟨rfl, rfl, ⟨FV.self f.2.1.1, FV.self f.2.1.2.1, FV.self f.2.1.2.2⟩, FV.self f.2.2.1, FV.self f.2.2.2.1, FV.self f.2.2.2.2⟩
theorem HW.Is.fit {h : HW} {c : HC} (i : h.Is c) (hp : (Lit.int .i64 c.1).wf = true) (hk : (Lit.int .i64 c.2.1).wf = true) : h.fit := ⟨⟨i.1 ▸ hp, i.2.1 ▸ hk⟩, ⟨i.2.2.1.1.1, i.2.2.1.2.1.1, i.2.2.1.2.2.1⟩, i.2.2.2.1.1, i.2.2.2.2.1.1, i.2.2.2.2.2.1⟩
/-- The eight cells of a hold. -/
def HW.At (w : World) (b o : Nat) (h : HW) : Prop := ∀ i, i < 8 → w.cell? ⟨b, o + i, none⟩ = h.l[i]?
theorem HW.At.below {W w : World} {b o : Nat} {h : HW} (hb : Below W.heap.size W w) (a : h.At W b o) : h.At w b o := by
  intro i hi
  have h0 := a i hi
  have hl : i < h.l.length := hi
  rw [List.getElem?_eq_getElem hl] at h0 ⊢
  rw [hb.cell (p := ⟨b, o + i, none⟩) (World.block_lt_of_cell? W _ h0)]
  exact h0
/-- A list of holds that lies in memory. -/
def IsHs (w : World) (a : Option Addr) (len cap : Nat) (hs : List HC) : Prop :=
  hs.length = len ∧ len ≤ cap ∧ cap ≤ maxLen ∧ (∀ s ∈ hs, (Lit.int .i64 s.1).wf = true ∧ (Lit.int .i64 s.2.1).wf = true) ∧ (a = none → len = 0 ∧ cap = 0) ∧
  (∀ x, a = some x → ∀ i, i < len → x.spot = none ∧ ∃ h : HW, h.At w x.block (x.off + i * 8) ∧ h.Is (hs.getD i hd0))
theorem IsHs.below {W w : World} {a : Option Addr} {len cap : Nat} {hs : List HC} (hb : Below W.heap.size W w) (h : IsHs W a len cap hs) : IsHs w a len cap hs := by
  obtain ⟨h1, h2, h3, h4, h5, h6⟩ := h
  refine ⟨h1, h2, h3, h4, h5, fun x hx i hi => ?_⟩
  obtain ⟨hs, q, k, hv⟩ := h6 x hx i hi
  exact ⟨hs, q, k.below hb, hv⟩
theorem IsHs.some {w : World} {a : Option Addr} {len cap : Nat} {hs : List HC} (h : IsHs w a len cap hs) (hl : 0 < len) :
    ∃ b o, a = .some ⟨b, o, none⟩ ∧ ∀ i, i < len → ∃ q : HW, q.At w b (o + i * 8) ∧ q.Is (hs.getD i hd0) := by
  obtain ⟨h1, h2, h3, h4, h5, h6⟩ := h
  cases a with
  | none => have := (h5 rfl).1; omega
  | some x =>
    obtain ⟨b, o, spot⟩ := x
    have hc := h6 _ rfl
    have hs := (hc 0 hl).1
    simp only at hs hc
    subst hs
    exact ⟨b, o, rfl, fun i hi => (hc i hi).2⟩

section
open Go.ChangeShapes Go.WideShapes Go.Deep
variable {H : Type} {enc : TypeId × Value → H} {P : Program} {w : World} {base : Nat} {held : Bool}
theorem cells?_eight {b : Nat} {a : Addr} {cs : List Value} (h : w.cells? b a 8 = some cs) : ∃ c0 c1 c2 c3 c4 c5 c6 c7, cs = [c0, c1, c2, c3, c4, c5, c6, c7] ∧ ∀ i, i < 8 → w.cell? (a.add i) = [c0, c1, c2, c3, c4, c5, c6, c7][i]? := by
  obtain ⟨_, hl, hc⟩ := World.cells?_some h
  match cs, hl with
  | [c0, c1, c2, c3, c4, c5, c6, c7], _ =>
    refine ⟨c0, c1, c2, c3, c4, c5, c6, c7, rfl, fun i hi => ?_⟩
    exact hc i (by omega)
theorem array8 {α : Type} {cs : Array α} (h : cs.size = 8) : ∃ c0 c1 c2 c3 c4 c5 c6 c7, cs = #[c0, c1, c2, c3, c4, c5, c6, c7] := by
  obtain ⟨l⟩ := cs
  match l, h with
  | [c0, c1, c2, c3, c4, c5, c6, c7], _ => exact ⟨c0, c1, c2, c3, c4, c5, c6, c7, rfl⟩
theorem trod_vec3 {t : TypeId} {f0 f1 f2 : Field} {fuel : Nat} {c0 c1 c2 : Value} {x : DataW H × List MemPlace} (hs : P.underlying t = some (.struct #[f0, f1, f2])) (hone : oneCellFields P #[f0, f1, f2] = true)
    (he0 : P.underlying f0.type = some (.float .f32)) (he1 : P.underlying f1.type = some (.float .f32)) (he2 : P.underlying f2.type = some (.float .f32))
    (h : DataW.trod enc P w base (fun _ => true) held fuel t [c0, c1, c2] = some x) : ∃ p q r, c0 = .float .f32 p ∧ c1 = .float .f32 q ∧ c2 = .float .f32 r ∧ p < 2 ^ FloatKind.f32.format.width ∧ q < 2 ^ FloatKind.f32.format.width ∧ r < 2 ^ FloatKind.f32.format.width := by
  obtain ⟨k0, k1, k2, n2, _, _, j0, j1, j2⟩ := trod_struct3 hs h
  obtain ⟨p0, r0⟩ := hone_of hone 0 f0 rfl
  obtain ⟨p1, r1⟩ := hone_of hone 1 f1 rfl
  obtain ⟨p2, r2⟩ := hone_of hone 2 f2 rfl
  rw [p0, r0] at j0
  rw [p1, r1] at j1
  rw [p2, r2] at j2
  simp at j0 j1 j2
  obtain ⟨x, e6, w6⟩ := trod_float he0 j0
  obtain ⟨y, e7, w7⟩ := trod_float he1 j1
  obtain ⟨z, e8, w8⟩ := trod_float he2 j2
  cases e6; cases e7; cases e8
  exact ⟨x, y, z, rfl, rfl, rfl, w6, w7, w8⟩
theorem trod_hold {t : TypeId} {g0 g1 g2 g3 f0 f1 f2 h0 h1 h2 : Field} {fuel : Nat} {c0 c1 c2 c3 c4 c5 c6 c7 : Value} {x : DataW H × List MemPlace}
    (hs : P.underlying t = some (.struct #[g0, g1, g2, g3])) (hoff : [g0.offset, g1.offset, g2.offset, g3.offset] = [0, 1, 2, 5]) (hcl : [P.cellsOf g0.type, P.cellsOf g1.type, P.cellsOf g2.type, P.cellsOf g3.type] = [1, 1, 3, 3])
    (hi0 : P.underlying g0.type = some (.int .i64)) (hi1 : P.underlying g1.type = some (.int .i64))
    (hv2 : P.underlying g2.type = some (.struct #[f0, f1, f2])) (hone : oneCellFields P #[f0, f1, f2] = true) (he0 : P.underlying f0.type = some (.float .f32)) (he1 : P.underlying f1.type = some (.float .f32)) (he2 : P.underlying f2.type = some (.float .f32))
    (hv3 : P.underlying g3.type = some (.struct #[h0, h1, h2])) (hone' : oneCellFields P #[h0, h1, h2] = true) (hx0 : P.underlying h0.type = some (.float .f32)) (hx1 : P.underlying h1.type = some (.float .f32)) (hx2 : P.underlying h2.type = some (.float .f32))
    (h : DataW.trod enc P w base (fun _ => true) held fuel t [c0, c1, c2, c3, c4, c5, c6, c7] = some x) : ∃ h : HW, h.fit ∧ [c0, c1, c2, c3, c4, c5, c6, c7] = h.l := by
  obtain ⟨y0, y1, y2, y3, n, _, _, j0, j1, j2, j3⟩ := Joins.trod_struct4 hs h
  simp only [List.cons.injEq, and_true] at hoff hcl
  obtain ⟨o0, o1, o2, o3⟩ := hoff
  obtain ⟨l0, l1, l2, l3⟩ := hcl
  rw [o0, l0] at j0
  rw [o1, l1] at j1
  rw [o2, l2] at j2
  rw [o3, l3] at j3
  simp at j0 j1 j2 j3
  obtain ⟨p, e0, _, w0⟩ := DataW.trod_int hi0 j0
  obtain ⟨k, e1, _, w1⟩ := DataW.trod_int hi1 j1
  obtain ⟨a, b, c, e2, e3, e4, w2, w3, w4⟩ := trod_vec3 hv2 hone he0 he1 he2 j2
  obtain ⟨a', b', c', e5, e6, e7, w5, w6, w7⟩ := trod_vec3 hv3 hone' hx0 hx1 hx2 j3
  cases e0; cases e1; subst e2 e3 e4 e5 e6 e7
  exact ⟨⟨p, k, a, b, c, a', b', c'⟩, ⟨⟨w0, w1⟩, ⟨w2, w3, w4⟩, w5, w6, w7⟩, rfl⟩
/-- A hold that came in. -/
theorem open_hold {r : Reach} {b0 : Nat} {t : TypeId} {g0 g1 g2 g3 f0 f1 f2 h0 h1 h2 : Field} {v : Value} {d : DataW H} {p : List MemPlace}
    (hs : P.underlying t = some (.struct #[g0, g1, g2, g3])) (hoff : [g0.offset, g1.offset, g2.offset, g3.offset] = [0, 1, 2, 5]) (hcl : [P.cellsOf g0.type, P.cellsOf g1.type, P.cellsOf g2.type, P.cellsOf g3.type] = [1, 1, 3, 3]) (hC : P.cellsOf t = 8)
    (hi0 : P.underlying g0.type = some (.int .i64)) (hi1 : P.underlying g1.type = some (.int .i64))
    (hv2 : P.underlying g2.type = some (.struct #[f0, f1, f2])) (hone : oneCellFields P #[f0, f1, f2] = true) (he0 : P.underlying f0.type = some (.float .f32)) (he1 : P.underlying f1.type = some (.float .f32)) (he2 : P.underlying f2.type = some (.float .f32))
    (hv3 : P.underlying g3.type = some (.struct #[h0, h1, h2])) (hone' : oneCellFields P #[h0, h1, h2] = true) (hx0 : P.underlying h0.type = some (.float .f32)) (hx1 : P.underlying h1.type = some (.float .f32)) (hx2 : P.underlying h2.type = some (.float .f32))
    (hv : Value.okWide P w r b0 t v) (h : DataW.Trod enc P w base (fun _ => true) held t v d p) : ∃ h : HW, v = h.v ∧ h.fit := by
  obtain ⟨cs, rfl, hsz⟩ := okWide_struct hs hv
  obtain ⟨c0, c1, c2, c3, c4, c5, c6, c7, rfl⟩ := array8 (hsz.trans hC)
  obtain ⟨fuel, hfu⟩ := h
  obtain ⟨q, hf, e⟩ := trod_hold hs hoff hcl hi0 hi1 hv2 hone he0 he1 he2 hv3 hone' hx0 hx1 hx2 (by simpa [Value.cells] using hfu)
  refine ⟨q, ?_, hf⟩
  unfold HW.l at e
  unfold HW.v
  simp only [List.cons.injEq, and_true] at e
  obtain ⟨e0, e1, e2, e3, e4, e5, e6, e7⟩ := e
  rw [e0, e1, e2, e3, e4, e5, e6, e7]
theorem trod_holds {t e : TypeId} {g0 g1 g2 g3 f0 f1 f2 h0 h1 h2 : Field} {fuel : Nat} {cs : List Value} {x : DataW H × List MemPlace} (ht : P.underlying t = some (.slice e))
    (hs : P.underlying e = some (.struct #[g0, g1, g2, g3])) (hoff : [g0.offset, g1.offset, g2.offset, g3.offset] = [0, 1, 2, 5]) (hcl : [P.cellsOf g0.type, P.cellsOf g1.type, P.cellsOf g2.type, P.cellsOf g3.type] = [1, 1, 3, 3]) (hC : P.cellsOf e = 8)
    (hi0 : P.underlying g0.type = some (.int .i64)) (hi1 : P.underlying g1.type = some (.int .i64))
    (hv2 : P.underlying g2.type = some (.struct #[f0, f1, f2])) (hone : oneCellFields P #[f0, f1, f2] = true) (he0 : P.underlying f0.type = some (.float .f32)) (he1 : P.underlying f1.type = some (.float .f32)) (he2 : P.underlying f2.type = some (.float .f32))
    (hv3 : P.underlying g3.type = some (.struct #[h0, h1, h2])) (hone' : oneCellFields P #[h0, h1, h2] = true) (hx0 : P.underlying h0.type = some (.float .f32)) (hx1 : P.underlying h1.type = some (.float .f32)) (hx2 : P.underlying h2.type = some (.float .f32))
    (h : DataW.trod enc P w base (fun _ => true) held fuel t cs = some x) : ∃ a len cap hs, cs = [.slice a len cap] ∧ IsHs w a len cap hs := by
  rcases open_slice ht h with ⟨hcs, hy⟩ | ⟨a, len, cap, m, n, D, Pl, hcs, hb, hl, hm, hmm, hx, hr⟩
  · exact ⟨none, 0, 0, [], hcs, rfl, Nat.le_refl _, Nat.zero_le _, by simp, fun _ => ⟨rfl, rfl⟩, fun _ h => by cases h⟩
  · simp only [if_true] at hmm
    rw [hC] at hr
    have each : ∀ i, i < len → ∃ q : HW, q.fit ∧ ∀ j, j < 8 → w.cell? ((a.add (i * 8)).add j) = q.l[j]? := by
      intro i hi
      obtain ⟨cs', h1, h2⟩ := hr i (by omega)
      obtain ⟨c0, c1, c2, c3, c4, c5, c6, c7, rfl, hk⟩ := cells?_eight h1
      obtain ⟨q, hf, e⟩ := trod_hold hs hoff hcl hi0 hi1 hv2 hone he0 he1 he2 hv3 hone' hx0 hx1 hx2 h2
      exact ⟨q, hf, fun j hj => by rw [hk j hj, e]⟩
    let g : Nat → HW := fun i => if h : i < len then (each i h).choose else ⟨0, 0, 0, 0, 0, 0, 0, 0⟩
    have hgs : ∀ i, i < len → (g i).fit ∧ ∀ j, j < 8 → w.cell? ((a.add (i * 8)).add j) = (g i).l[j]? := by
      intro i hi
      have : g i = (each i hi).choose := by simp [g, hi]
      rw [this]; exact (each i hi).choose_spec
    refine ⟨some a, len, cap, (List.range len).map fun i => (g i).cls, hcs, by simp, hl, hm, ?_, (fun h => by cases h), fun y hy' => ?_⟩
    · intro s hs'
      obtain ⟨i, hi, rfl⟩ := List.mem_map.1 hs'
      exact (hgs i (List.mem_range.1 hi)).1.1
    cases hy'
    have hsp : 0 < len → a.spot = none := fun h0 => by
      have := (hgs 0 h0).2 0 (by omega)
      rw [show (g 0).l[0]? = some (.int .i64 (g 0).p) from rfl] at this
      simpa [Addr.add] using World.cell?_spot this
    intro i hi
    have h0 : 0 < len := by omega
    refine ⟨hsp h0, g i, fun j hj => ?_, ?_⟩
    · have h1 := (hgs i hi).2 j hj
      rw [Addr.add_add] at h1
      rw [← h1]
      have h2 := hsp h0
      clear_value g
      obtain ⟨b, o, sp⟩ := a
      simp only at h2
      subst h2
      rw [addr_add', Nat.add_assoc]
    · have : ((List.range len).map fun i => (g i).cls).getD i hd0 = (g i).cls := by simp [List.getD, hi]
      rw [this]; exact (hgs i hi).1.is
theorem open_holds {t e : TypeId} {g0 g1 g2 g3 f0 f1 f2 h0 h1 h2 : Field} {a : Option Addr} {len cap : Nat} {d : DataW H} {p : List MemPlace} (ht : P.underlying t = some (.slice e))
    (hs : P.underlying e = some (.struct #[g0, g1, g2, g3])) (hoff : [g0.offset, g1.offset, g2.offset, g3.offset] = [0, 1, 2, 5]) (hcl : [P.cellsOf g0.type, P.cellsOf g1.type, P.cellsOf g2.type, P.cellsOf g3.type] = [1, 1, 3, 3]) (hC : P.cellsOf e = 8)
    (hi0 : P.underlying g0.type = some (.int .i64)) (hi1 : P.underlying g1.type = some (.int .i64))
    (hv2 : P.underlying g2.type = some (.struct #[f0, f1, f2])) (hone : oneCellFields P #[f0, f1, f2] = true) (he0 : P.underlying f0.type = some (.float .f32)) (he1 : P.underlying f1.type = some (.float .f32)) (he2 : P.underlying f2.type = some (.float .f32))
    (hv3 : P.underlying g3.type = some (.struct #[h0, h1, h2])) (hone' : oneCellFields P #[h0, h1, h2] = true) (hx0 : P.underlying h0.type = some (.float .f32)) (hx1 : P.underlying h1.type = some (.float .f32)) (hx2 : P.underlying h2.type = some (.float .f32))
    (h : DataW.Trod enc P w base (fun _ => true) held t (.slice a len cap) d p) : ∃ hs, IsHs w a len cap hs := by
  obtain ⟨fuel, hf⟩ := h
  obtain ⟨a', len', cap', cs, e, hv⟩ := trod_holds ht hs hoff hcl hC hi0 hi1 hv2 hone he0 he1 he2 hv3 hone' hx0 hx1 hx2 (by simpa [Value.cells] using hf)
  cases e
  exact ⟨cs, hv⟩
end
end Fk
end Go.Proofs.Ytcgnmnbjgamedaa

/-
Texts in one: what SwingOf stands on, part 4. Conditions: those of each.
-/
import Derived.Test.YtkdoibglgkcbkaaKSwingOf3
import Derived.Below
import Derived.Deep.Matrix
import Derived.Lib.SmallJoins
import Derived.ChangeSlices

/-
Meshes in memory: lists of vectors, lists of lists of integers, and how they come in. Conditions: none.
-/
namespace Go.Proofs.Ytkdoibglgkcbkaa
namespace Fk
open Go Go.RowKit
set_option linter.unusedVariables false

abbrev C3 := Option Nat × Option Nat × Option Nat
abbrev c0 : C3 := (none, none, none)
/-- A list of vectors that lies in memory, by the classes of its numbers. -/
def IsVs (w : World) (a : Option Addr) (len cap : Nat) (cs : List C3) : Prop :=
  cs.length = len ∧ len ≤ cap ∧ cap ≤ maxLen ∧ (a = none → len = 0 ∧ cap = 0) ∧
  (∀ x, a = some x → ∀ i, i < len → ∃ p q r, w.cell? (x.add (i * 3)) = some (.float .f32 p) ∧ w.cell? (x.add (i * 3 + 1)) = some (.float .f32 q) ∧ w.cell? (x.add (i * 3 + 2)) = some (.float .f32 r) ∧
    FV .f32 p (cs.getD i c0).1 ∧ FV .f32 q (cs.getD i c0).2.1 ∧ FV .f32 r (cs.getD i c0).2.2)
/-- A list of integers that lies in memory. -/
def IsIs (w : World) (a : Option Addr) (len cap : Nat) (zs : List Int) : Prop :=
  zs.length = len ∧ len ≤ cap ∧ cap ≤ maxLen ∧ (∀ z ∈ zs, (Lit.int .i64 z).wf = true) ∧ (a = none → len = 0 ∧ cap = 0) ∧
  (∀ x, a = some x → ∀ i, i < len → w.cell? (x.add i) = some (.int .i64 (zs.getD i 0)))
/-- A list of lists of integers that lies in memory. -/
def IsTs (w : World) (a : Option Addr) (len cap : Nat) (ts : List (List Int)) : Prop :=
  ts.length = len ∧ len ≤ cap ∧ cap ≤ maxLen ∧ (a = none → len = 0 ∧ cap = 0) ∧
  (∀ x, a = some x → ∀ i, i < len → ∃ b n c, w.cell? (x.add i) = some (.slice b n c) ∧ IsIs w b n c (ts.getD i []))

section
open Go.ChangeShapes Go.WideShapes Go.Deep
variable {H : Type} {enc : TypeId × Value → H} {P : Program} {w : World} {base : Nat} {held : Bool}

theorem cells?_three {b : Nat} {a : Addr} {cs : List Value} (h : w.cells? b a 3 = some cs) : ∃ u v t, cs = [u, v, t] ∧ w.cell? a = some u ∧ w.cell? (a.add 1) = some v ∧ w.cell? (a.add 2) = some t := by
  obtain ⟨_, hl, hc⟩ := World.cells?_some h
  match cs, hl with
  | [u, v, t], _ =>
    have k0 := hc 0 (by omega)
    have k1 := hc 1 (by omega)
    have k2 := hc 2 (by omega)
    have z : a.add 0 = a := by unfold Addr.add; rfl
    rw [z] at k0
    exact ⟨u, v, t, rfl, k0, k1, k2⟩
theorem trod_ints {t e : TypeId} {fuel : Nat} {cs : List Value} {x : DataW H × List MemPlace} (ht : P.underlying t = some (.slice e)) (he : P.underlying e = some (.int .i64)) (hc : P.cellsOf e = 1)
    (h : DataW.trod enc P w base (fun _ => true) held fuel t cs = some x) : ∃ a len cap zs, cs = [.slice a len cap] ∧ IsIs w a len cap zs := by
  rcases open_ints ht he hc h with ⟨hcs, hy⟩ | ⟨a, len, cap, zs, hcs, hb, hl, hm, hz, hy, hcell, hwz⟩
  · exact ⟨none, 0, 0, [], hcs, rfl, Nat.le_refl _, Nat.zero_le _, by simp, fun _ => ⟨rfl, rfl⟩, fun _ h => by cases h⟩
  · simp only [if_true] at hz
    refine ⟨some a, len, cap, zs.take len, hcs, by simp; omega, hl, hm, fun z hz' => hwz z (List.mem_of_mem_take hz'), (fun h => by cases h), fun y hy' i hi => ?_⟩
    cases hy'
    rw [hcell i (by omega)]
    simp [List.getD, hi]
theorem trod_rows {t e q : TypeId} {fuel : Nat} {cs : List Value} {x : DataW H × List MemPlace} (ht : P.underlying t = some (.slice e)) (he : P.underlying e = some (.slice q)) (hq : P.underlying q = some (.int .i64))
    (ce : P.cellsOf e = 1) (cq : P.cellsOf q = 1) (h : DataW.trod enc P w base (fun _ => true) held fuel t cs = some x) : ∃ a len cap ts, cs = [.slice a len cap] ∧ IsTs w a len cap ts := by
  rcases open_int_rows ht he hq ce cq h with ⟨hcs, hy⟩ | ⟨a, len, cap, A, L, C, Z, hcs, hb, hl, hm, hx, hr⟩
  · exact ⟨none, 0, 0, [], hcs, rfl, Nat.le_refl _, Nat.zero_le _, fun _ => ⟨rfl, rfl⟩, fun _ h => by cases h⟩
  · refine ⟨some a, len, cap, (List.range len).map fun r => (Z r).take (L r), hcs, by simp, hl, hm, (fun h => by cases h), fun y hy' i hi => ?_⟩
    cases hy'
    obtain ⟨r1, r2, r3, r4, r5, r6, r7⟩ := hr i (by omega)
    refine ⟨A i, L i, C i, r1, ?_⟩
    have hg : ((List.range len).map fun r => (Z r).take (L r)).getD i [] = (Z i).take (L i) := by simp [List.getD, hi]
    rw [hg]
    refine ⟨by simp; omega, r2, r3, fun z hz => r5 z (List.mem_of_mem_take hz), fun h => ⟨by have := r6 h; omega, r6 h⟩, fun a' ha' c hc' => ?_⟩
    rw [(r7 a' ha').2 c (by omega)]
    simp [List.getD, hc']
theorem trod_vecs {t e : TypeId} {f0 f1 f2 : Field} {fuel : Nat} {cs : List Value} {x : DataW H × List MemPlace} (ht : P.underlying t = some (.slice e)) (hs : P.underlying e = some (.struct #[f0, f1, f2])) (hone : oneCellFields P #[f0, f1, f2] = true) (hC : P.cellsOf e = 3)
    (he0 : P.underlying f0.type = some (.float .f32)) (he1 : P.underlying f1.type = some (.float .f32)) (he2 : P.underlying f2.type = some (.float .f32))
    (h : DataW.trod enc P w base (fun _ => true) held fuel t cs = some x) : ∃ a len cap vs, cs = [.slice a len cap] ∧ IsVs w a len cap vs := by
  rcases open_slice ht h with ⟨hcs, hy⟩ | ⟨a, len, cap, m, n, D, Pl, hcs, hb, hl, hm, hmm, hx, hr⟩
  · exact ⟨none, 0, 0, [], hcs, rfl, Nat.le_refl _, Nat.zero_le _, fun _ => ⟨rfl, rfl⟩, fun _ h => by cases h⟩
  · simp only [if_true] at hmm
    rw [hC] at hr
    have each : ∀ i, i < len → ∃ p q r, w.cell? (a.add (i * 3)) = some (.float .f32 p) ∧ w.cell? (a.add (i * 3 + 1)) = some (.float .f32 q) ∧ w.cell? (a.add (i * 3 + 2)) = some (.float .f32 r) ∧
        p < 2 ^ FloatKind.f32.format.width ∧ q < 2 ^ FloatKind.f32.format.width ∧ r < 2 ^ FloatKind.f32.format.width := by
      intro i hi
      obtain ⟨cs', h1, h2⟩ := hr i (by omega)
      obtain ⟨u, v, t', rfl, k0, k1, k2⟩ := cells?_three h1
      obtain ⟨y0, y1, y2, n', hx', _, h0', h1', h2'⟩ := trod_struct3 hs h2
      obtain ⟨o0, q0⟩ := hone_of hone 0 f0 rfl
      obtain ⟨o1, q1⟩ := hone_of hone 1 f1 rfl
      obtain ⟨o2, q2⟩ := hone_of hone 2 f2 rfl
      obtain ⟨p, e0, w0⟩ := trod_float he0 h0'
      obtain ⟨q, e1, w1⟩ := trod_float he1 h1'
      obtain ⟨r, e2, w2⟩ := trod_float he2 h2'
      simp [o0, q0] at e0
      simp [o1, q1] at e1
      simp [o2, q2] at e2
      subst e0 e1 e2
      rw [Addr.add_add] at k1 k2
      exact ⟨p, q, r, k0, k1, k2, w0, w1, w2⟩
    let f : Nat → Nat := fun j => match w.cell? (a.add j) with | some (.float _ b) => b | _ => 0
    refine ⟨some a, len, cap, (List.range len).map fun i => (cls .f32 (f (i * 3)), cls .f32 (f (i * 3 + 1)), cls .f32 (f (i * 3 + 2))), hcs, by simp, hl, hm, (fun h => by cases h), fun y hy' i hi => ?_⟩
    cases hy'
    obtain ⟨p, q, r, k0, k1, k2, w0, w1, w2⟩ := each i hi
    have hg : ((List.range len).map fun i => (cls .f32 (f (i * 3)), cls .f32 (f (i * 3 + 1)), cls .f32 (f (i * 3 + 2)))).getD i c0 = (cls .f32 p, cls .f32 q, cls .f32 r) := by
      simp [List.getD, hi, f, k0, k1, k2]
    rw [hg]
    exact ⟨p, q, r, k0, k1, k2, FV.self w0, FV.self w1, FV.self w2⟩
end

theorem IsIs.below {W w : World} {a : Option Addr} {len cap : Nat} {zs : List Int} (hb : Below W.heap.size W w) (h : IsIs W a len cap zs) : IsIs w a len cap zs := by
  obtain ⟨h1, h2, h3, h4, h5, h6⟩ := h
  refine ⟨h1, h2, h3, h4, h5, fun x hx i hi => ?_⟩
  have hc := h6 x hx i hi
  rw [hb.cell (p := x.add i) (World.block_lt_of_cell? W _ hc)]; exact hc
theorem IsTs.below {W w : World} {a : Option Addr} {len cap : Nat} {ts : List (List Int)} (hb : Below W.heap.size W w) (h : IsTs W a len cap ts) : IsTs w a len cap ts := by
  obtain ⟨h1, h2, h3, h5, h6⟩ := h
  refine ⟨h1, h2, h3, h5, fun x hx i hi => ?_⟩
  obtain ⟨b, n, c, hc, hi'⟩ := h6 x hx i hi
  exact ⟨b, n, c, by rw [hb.cell (p := x.add i) (World.block_lt_of_cell? W _ hc)]; exact hc, hi'.below hb⟩
theorem IsVs.below {W w : World} {a : Option Addr} {len cap : Nat} {cs : List C3} (hb : Below W.heap.size W w) (h : IsVs W a len cap cs) : IsVs w a len cap cs := by
  obtain ⟨h1, h2, h3, h5, h6⟩ := h
  refine ⟨h1, h2, h3, h5, fun x hx i hi => ?_⟩
  obtain ⟨p, q, r, k0, k1, k2, hv⟩ := h6 x hx i hi
  exact ⟨p, q, r, by rw [hb.cell (p := x.add (i * 3)) (World.block_lt_of_cell? W _ k0)]; exact k0, by rw [hb.cell (p := x.add (i * 3 + 1)) (World.block_lt_of_cell? W _ k1)]; exact k1,
    by rw [hb.cell (p := x.add (i * 3 + 2)) (World.block_lt_of_cell? W _ k2)]; exact k2, hv⟩
theorem addr_add' (b o i : Nat) : (⟨b, o, none⟩ : Addr).add i = ⟨b, o + i, none⟩ := by
  unfold Addr.add
  split
  · rename_i h; subst h; rfl
  · rfl
/-- A list that is not empty lies somewhere. -/
theorem IsIs.some {w : World} {a : Option Addr} {len cap : Nat} {zs : List Int} (h : IsIs w a len cap zs) (hl : 0 < len) :
    ∃ b o, a = .some ⟨b, o, none⟩ ∧ ∀ i, i < len → w.cell? ⟨b, o + i, none⟩ = .some (.int .i64 (zs.getD i 0)) := by
  obtain ⟨h1, h2, h3, h4, h5, h6⟩ := h
  cases a with
  | none => have := (h5 rfl).1; omega
  | some x =>
    obtain ⟨b, o, spot⟩ := x
    have hc := h6 _ rfl 0 hl
    have hspot : spot = none := by simpa [Addr.add] using World.cell?_spot hc
    subst hspot
    exact ⟨b, o, rfl, fun i hi => by have := h6 _ rfl i hi; rwa [addr_add'] at this⟩
theorem IsTs.some {w : World} {a : Option Addr} {len cap : Nat} {ts : List (List Int)} (h : IsTs w a len cap ts) (hl : 0 < len) :
    ∃ b o, a = .some ⟨b, o, none⟩ ∧ ∀ i, i < len → ∃ r n c, w.cell? ⟨b, o + i, none⟩ = .some (.slice r n c) ∧ IsIs w r n c (ts.getD i []) := by
  obtain ⟨h1, h2, h3, h5, h6⟩ := h
  cases a with
  | none => have := (h5 rfl).1; omega
  | some x =>
    obtain ⟨b, o, spot⟩ := x
    obtain ⟨_, _, _, hc, _⟩ := h6 _ rfl 0 hl
    have hspot : spot = none := by simpa [Addr.add] using World.cell?_spot hc
    subst hspot
    exact ⟨b, o, rfl, fun i hi => by have := h6 _ rfl i hi; rwa [addr_add'] at this⟩
theorem IsVs.some {w : World} {a : Option Addr} {len cap : Nat} {cs : List C3} (h : IsVs w a len cap cs) (hl : 0 < len) :
    ∃ b o, a = .some ⟨b, o, none⟩ ∧ ∀ i, i < len → ∃ p q r, w.cell? ⟨b, o + i * 3, none⟩ = .some (.float .f32 p) ∧ w.cell? ⟨b, o + i * 3 + 1, none⟩ = .some (.float .f32 q) ∧ w.cell? ⟨b, o + i * 3 + 2, none⟩ = .some (.float .f32 r) ∧
      FV .f32 p (cs.getD i c0).1 ∧ FV .f32 q (cs.getD i c0).2.1 ∧ FV .f32 r (cs.getD i c0).2.2 := by
  obtain ⟨h1, h2, h3, h5, h6⟩ := h
  cases a with
  | none => have := (h5 rfl).1; omega
  | some x =>
    obtain ⟨b, o, spot⟩ := x
    obtain ⟨_, _, _, hc, _⟩ := h6 _ rfl 0 hl
    have hspot : spot = none := by simpa [Addr.add] using World.cell?_spot hc
    subst hspot
    refine ⟨b, o, rfl, fun i hi => ?_⟩
    have := h6 _ rfl i hi
    rwa [addr_add', addr_add', addr_add', ← Nat.add_assoc, ← Nat.add_assoc] at this
end Fk
end Go.Proofs.Ytkdoibglgkcbkaa


/-
Bodies in memory: lists of springs, and how a body comes in. Conditions: none.
-/
namespace Go.Proofs.Ytkdoibglgkcbkaa
namespace Fk
open Go Go.RowKit
set_option linter.unusedVariables false

/-- A spring: its two places, and the classes of its two numbers. -/
abbrev SC := Int × Int × Option Nat × Option Nat
abbrev s0 : SC := (0, 0, none, none)
/-- A list of springs that lies in memory. -/
def IsSs (w : World) (a : Option Addr) (len cap : Nat) (ss : List SC) : Prop :=
  ss.length = len ∧ len ≤ cap ∧ cap ≤ maxLen ∧ (∀ s ∈ ss, (Lit.int .i64 s.1).wf = true ∧ (Lit.int .i64 s.2.1).wf = true) ∧ (a = none → len = 0 ∧ cap = 0) ∧
  (∀ x, a = some x → ∀ i, i < len → ∃ p q, w.cell? (x.add (i * 4)) = some (.int .i64 (ss.getD i s0).1) ∧ w.cell? (x.add (i * 4 + 1)) = some (.int .i64 (ss.getD i s0).2.1) ∧ w.cell? (x.add (i * 4 + 2)) = some (.float .f32 p) ∧ w.cell? (x.add (i * 4 + 3)) = some (.float .f32 q) ∧
    FV .f32 p (ss.getD i s0).2.2.1 ∧ FV .f32 q (ss.getD i s0).2.2.2)
theorem IsSs.below {W w : World} {a : Option Addr} {len cap : Nat} {ss : List SC} (hb : Below W.heap.size W w) (h : IsSs W a len cap ss) : IsSs w a len cap ss := by
  obtain ⟨h1, h2, h3, h4, h5, h6⟩ := h
  refine ⟨h1, h2, h3, h4, h5, fun x hx i hi => ?_⟩
  obtain ⟨p, q, k0, k1, k2, k3, hv⟩ := h6 x hx i hi
  exact ⟨p, q, by rw [hb.cell (p := x.add (i * 4)) (World.block_lt_of_cell? W _ k0)]; exact k0, by rw [hb.cell (p := x.add (i * 4 + 1)) (World.block_lt_of_cell? W _ k1)]; exact k1,
    by rw [hb.cell (p := x.add (i * 4 + 2)) (World.block_lt_of_cell? W _ k2)]; exact k2, by rw [hb.cell (p := x.add (i * 4 + 3)) (World.block_lt_of_cell? W _ k3)]; exact k3, hv⟩
theorem IsSs.some {w : World} {a : Option Addr} {len cap : Nat} {ss : List SC} (h : IsSs w a len cap ss) (hl : 0 < len) :
    ∃ b o, a = .some ⟨b, o, none⟩ ∧ ∀ i, i < len → ∃ p q, w.cell? ⟨b, o + i * 4, none⟩ = .some (.int .i64 (ss.getD i s0).1) ∧ w.cell? ⟨b, o + i * 4 + 1, none⟩ = .some (.int .i64 (ss.getD i s0).2.1) ∧ w.cell? ⟨b, o + i * 4 + 2, none⟩ = .some (.float .f32 p) ∧ w.cell? ⟨b, o + i * 4 + 3, none⟩ = .some (.float .f32 q) ∧
      FV .f32 p (ss.getD i s0).2.2.1 ∧ FV .f32 q (ss.getD i s0).2.2.2 := by
  obtain ⟨h1, h2, h3, h4, h5, h6⟩ := h
  cases a with
  | none => have := (h5 rfl).1; omega
  | some x =>
    obtain ⟨b, o, spot⟩ := x
    obtain ⟨_, _, hc, _⟩ := h6 _ rfl 0 hl
    have hspot : spot = none := by simpa [Addr.add] using World.cell?_spot hc
    subst hspot
    refine ⟨b, o, rfl, fun i hi => ?_⟩
    have := h6 _ rfl i hi
    rwa [addr_add', addr_add', addr_add', addr_add', ← Nat.add_assoc, ← Nat.add_assoc, ← Nat.add_assoc] at this

section
open Go.ChangeShapes Go.WideShapes Go.Deep
variable {H : Type} {enc : TypeId × Value → H} {P : Program} {w : World} {base : Nat} {held : Bool}
theorem cells?_four {b : Nat} {a : Addr} {cs : List Value} (h : w.cells? b a 4 = some cs) : ∃ u v t s, cs = [u, v, t, s] ∧ w.cell? a = some u ∧ w.cell? (a.add 1) = some v ∧ w.cell? (a.add 2) = some t ∧ w.cell? (a.add 3) = some s := by
  obtain ⟨_, hl, hc⟩ := World.cells?_some h
  match cs, hl with
  | [u, v, t, s], _ =>
    have k0 := hc 0 (by omega)
    have k1 := hc 1 (by omega)
    have k2 := hc 2 (by omega)
    have k3 := hc 3 (by omega)
    have z : a.add 0 = a := by unfold Addr.add; rfl
    rw [z] at k0
    exact ⟨u, v, t, s, rfl, k0, k1, k2, k3⟩
theorem trod_springs {t e : TypeId} {f0 f1 f2 f3 : Field} {fuel : Nat} {cs : List Value} {x : DataW H × List MemPlace} (ht : P.underlying t = some (.slice e)) (hs : P.underlying e = some (.struct #[f0, f1, f2, f3])) (hone : oneCellFields P #[f0, f1, f2, f3] = true) (hC : P.cellsOf e = 4)
    (he0 : P.underlying f0.type = some (.int .i64)) (he1 : P.underlying f1.type = some (.int .i64)) (he2 : P.underlying f2.type = some (.float .f32)) (he3 : P.underlying f3.type = some (.float .f32))
    (h : DataW.trod enc P w base (fun _ => true) held fuel t cs = some x) : ∃ a len cap ss, cs = [.slice a len cap] ∧ IsSs w a len cap ss := by
  rcases open_slice ht h with ⟨hcs, hy⟩ | ⟨a, len, cap, m, n, D, Pl, hcs, hb, hl, hm, hmm, hx, hr⟩
  · exact ⟨none, 0, 0, [], hcs, rfl, Nat.le_refl _, Nat.zero_le _, by simp, fun _ => ⟨rfl, rfl⟩, fun _ h => by cases h⟩
  · simp only [if_true] at hmm
    rw [hC] at hr
    have each : ∀ i, i < len → ∃ (u v : Int) (p q : Nat), w.cell? (a.add (i * 4)) = some (.int .i64 u) ∧ w.cell? (a.add (i * 4 + 1)) = some (.int .i64 v) ∧ w.cell? (a.add (i * 4 + 2)) = some (.float .f32 p) ∧ w.cell? (a.add (i * 4 + 3)) = some (.float .f32 q) ∧
        (Lit.int .i64 u).wf = true ∧ (Lit.int .i64 v).wf = true ∧ p < 2 ^ FloatKind.f32.format.width ∧ q < 2 ^ FloatKind.f32.format.width := by
      intro i hi
      obtain ⟨cs', h1, h2⟩ := hr i (by omega)
      obtain ⟨c0, c1, c2, c3, rfl, k0, k1, k2, k3⟩ := cells?_four h1
      obtain ⟨y0, y1, y2, y3, n', hx', _, h0', h1', h2', h3'⟩ := Joins.trod_struct4 hs h2
      obtain ⟨o0, q0⟩ := hone_of hone 0 f0 rfl
      obtain ⟨o1, q1⟩ := hone_of hone 1 f1 rfl
      obtain ⟨o2, q2⟩ := hone_of hone 2 f2 rfl
      obtain ⟨o3, q3⟩ := hone_of hone 3 f3 rfl
      obtain ⟨u, e0, _, w0⟩ := DataW.trod_int he0 h0'
      obtain ⟨v, e1, _, w1⟩ := DataW.trod_int he1 h1'
      obtain ⟨p, e2, w2⟩ := trod_float he2 h2'
      obtain ⟨q, e3, w3⟩ := trod_float he3 h3'
      simp [o0, q0] at e0
      simp [o1, q1] at e1
      simp [o2, q2] at e2
      simp [o3, q3] at e3
      subst e0 e1 e2 e3
      rw [Addr.add_add] at k1 k2 k3
      exact ⟨u, v, p, q, k0, k1, k2, k3, w0, w1, w2, w3⟩
    let fi : Nat → Int := fun j => match w.cell? (a.add j) with | some (.int _ b) => b | _ => 0
    let f : Nat → Nat := fun j => match w.cell? (a.add j) with | some (.float _ b) => b | _ => 0
    have hg : ∀ i, i < len → ((List.range len).map fun i => ((fi (i * 4), fi (i * 4 + 1), cls .f32 (f (i * 4 + 2)), cls .f32 (f (i * 4 + 3))) : SC)).getD i s0 = (fi (i * 4), fi (i * 4 + 1), cls .f32 (f (i * 4 + 2)), cls .f32 (f (i * 4 + 3))) := by
      intro i hi
      simp [List.getD, hi]
    refine ⟨some a, len, cap, (List.range len).map fun i => (fi (i * 4), fi (i * 4 + 1), cls .f32 (f (i * 4 + 2)), cls .f32 (f (i * 4 + 3))), hcs, by simp, hl, hm, ?_, (fun h => by cases h), fun y hy' i hi => ?_⟩
    · intro s hs'
      obtain ⟨i, hi, rfl⟩ := List.mem_map.1 hs'
      obtain ⟨u, v, p, q, k0, k1, k2, k3, w0, w1, w2, w3⟩ := each i (List.mem_range.1 hi)
      simp [fi, k0, k1, w0, w1]
    cases hy'
    obtain ⟨u, v, p, q, k0, k1, k2, k3, w0, w1, w2, w3⟩ := each i hi
    rw [hg i hi]
    have g0 : fi (i * 4) = u := by simp [fi, k0]
    have g1 : fi (i * 4 + 1) = v := by simp [fi, k1]
    have g2 : f (i * 4 + 2) = p := by simp [f, k2]
    have g3 : f (i * 4 + 3) = q := by simp [f, k3]
    rw [g0, g1, g2, g3]
    exact ⟨p, q, k0, k1, k2, k3, FV.self w2, FV.self w3⟩
theorem array9 {α : Type} {cs : Array α} (h : cs.size = 9) : ∃ c0 c1 c2 c3 c4 c5 c6 c7 c8, cs = #[c0, c1, c2, c3, c4, c5, c6, c7, c8] := by
  obtain ⟨l⟩ := cs
  match l, h with
  | [c0, c1, c2, c3, c4, c5, c6, c7, c8], _ => exact ⟨c0, c1, c2, c3, c4, c5, c6, c7, c8, rfl⟩
theorem trod_struct6 {t : TypeId} {f0 f1 f2 f3 f4 f5 : Field} {spare : Nat → Bool} {fuel : Nat} {cs : List Value} {x : DataW H × List MemPlace} (ht : P.underlying t = some (.struct #[f0, f1, f2, f3, f4, f5])) (h : DataW.trod enc P w base spare held fuel t cs = some x) :
    ∃ y0 y1 y2 y3 y4 y5 n, DataW.trod enc P w base spare held n f0.type ((cs.drop f0.offset).take (P.cellsOf f0.type)) = some y0 ∧
      DataW.trod enc P w base spare held n f1.type ((cs.drop f1.offset).take (P.cellsOf f1.type)) = some y1 ∧ DataW.trod enc P w base spare held n f2.type ((cs.drop f2.offset).take (P.cellsOf f2.type)) = some y2 ∧
      DataW.trod enc P w base spare held n f3.type ((cs.drop f3.offset).take (P.cellsOf f3.type)) = some y3 ∧ DataW.trod enc P w base spare held n f4.type ((cs.drop f4.offset).take (P.cellsOf f4.type)) = some y4 ∧ DataW.trod enc P w base spare held n f5.type ((cs.drop f5.offset).take (P.cellsOf f5.type)) = some y5 := by
  obtain ⟨xs, n, _, rfl, hl, hlen, hf⟩ := DataW.trod_struct ht h
  match xs, hlen with
  | [y0, y1, y2, y3, y4, y5], _ => exact ⟨y0, y1, y2, y3, y4, y5, n, by simpa using hf 0 f0 rfl, by simpa using hf 1 f1 rfl, by simpa using hf 2 f2 rfl, by simpa using hf 3 f3 rfl, by simpa using hf 4 f4 rfl, by simpa using hf 5 f5 rfl⟩
theorem trod_floats {t e : TypeId} {fuel : Nat} {cs : List Value} {x : DataW H × List MemPlace} (ht : P.underlying t = some (.slice e)) (he : P.underlying e = some (.float .f32)) (hc : P.cellsOf e = 1)
    (h : DataW.trod enc P w base (fun _ => true) held fuel t cs = some x) : ∃ a len cap zs, cs = [.slice a len cap] ∧ IsFs .f32 w a len cap zs := by
  obtain ⟨a, len, cap, rfl⟩ := Joins.slice_form ht h
  obtain ⟨zs, hz⟩ := open_floats ht he hc ⟨fuel, h⟩
  exact ⟨a, len, cap, zs, rfl, hz⟩
/-- A body that came in. -/
theorem open_body {r : Reach} {b0 : Nat} {t : TypeId} {g0 g1 g2 g3 g4 g5 : Field} {m0 m1 : Field} {ev eq : TypeId} {f0 f1 f2 : Field} {er : TypeId} {es : TypeId} {q0 q1 q2 q3 : Field} {ew : TypeId} {v0 v1 v2 : Field} {v : Value} {d : DataW H} {p : List MemPlace}
    (hs : P.underlying t = some (.struct #[g0, g1, g2, g3, g4, g5])) (hoff : [g0.offset, g1.offset, g2.offset, g3.offset, g4.offset, g5.offset] = [0, 2, 3, 4, 5, 6]) (hcl : [P.cellsOf g0.type, P.cellsOf g1.type, P.cellsOf g2.type, P.cellsOf g3.type, P.cellsOf g4.type, P.cellsOf g5.type] = [2, 1, 1, 1, 1, 3]) (hC : P.cellsOf t = 9)
    (hm : P.underlying g0.type = some (.struct #[m0, m1])) (honem : oneCellFields P #[m0, m1] = true)
    (hp : P.underlying m0.type = some (.slice ev)) (hev : P.underlying ev = some (.struct #[f0, f1, f2])) (honev : oneCellFields P #[f0, f1, f2] = true) (hCv : P.cellsOf ev = 3)
    (he0 : P.underlying f0.type = some (.float .f32)) (he1 : P.underlying f1.type = some (.float .f32)) (he2 : P.underlying f2.type = some (.float .f32))
    (ht : P.underlying m1.type = some (.slice er)) (her : P.underlying er = some (.slice eq)) (heq : P.underlying eq = some (.int .i64)) (ce : P.cellsOf er = 1) (cq : P.cellsOf eq = 1)
    (hsp : P.underlying g1.type = some (.slice es)) (hes : P.underlying es = some (.struct #[q0, q1, q2, q3])) (hones : oneCellFields P #[q0, q1, q2, q3] = true) (hCs : P.cellsOf es = 4)
    (hq0 : P.underlying q0.type = some (.int .i64)) (hq1 : P.underlying q1.type = some (.int .i64)) (hq2 : P.underlying q2.type = some (.float .f32)) (hq3 : P.underlying q3.type = some (.float .f32))
    (hf : P.underlying g2.type = some (.float .f32)) (hb : P.underlying g3.type = some (.float .f32))
    (hw : P.underlying g4.type = some (.slice ew)) (hew : P.underlying ew = some (.float .f32)) (cw : P.cellsOf ew = 1)
    (hv5 : P.underlying g5.type = some (.struct #[v0, v1, v2])) (honev5 : oneCellFields P #[v0, v1, v2] = true)
    (hv0 : P.underlying v0.type = some (.float .f32)) (hv1 : P.underlying v1.type = some (.float .f32)) (hv2 : P.underlying v2.type = some (.float .f32))
    (hv : Value.okWide P w r b0 t v) (h : DataW.Trod enc P w base (fun _ => true) held t v d p) :
    ∃ pa ta sa wa pl pc tl tc sl sc wl wc cs ts ss zs film bend x y z, v = .agg #[.slice pa pl pc, .slice ta tl tc, .slice sa sl sc, .float .f32 film, .float .f32 bend, .slice wa wl wc, .float .f32 x, .float .f32 y, .float .f32 z] ∧
      IsVs w pa pl pc cs ∧ IsTs w ta tl tc ts ∧ IsSs w sa sl sc ss ∧ IsFs .f32 w wa wl wc zs ∧ (film < 2 ^ FloatKind.f32.format.width ∧ bend < 2 ^ FloatKind.f32.format.width ∧ x < 2 ^ FloatKind.f32.format.width ∧ y < 2 ^ FloatKind.f32.format.width ∧ z < 2 ^ FloatKind.f32.format.width) := by
  obtain ⟨cs, rfl, hsz⟩ := okWide_struct hs hv
  obtain ⟨c0, c1, c2, c3, c4, c5, c6, c7, c8, rfl⟩ := array9 (hsz.trans hC)
  obtain ⟨fuel, hfu⟩ := h
  obtain ⟨y0, y1, y2, y3, y4, y5, n, h0, h1, h2, h3, h4, h5⟩ := trod_struct6 hs hfu
  simp only [List.cons.injEq, and_true] at hoff hcl
  obtain ⟨o0, o1, o2, o3, o4, o5⟩ := hoff
  obtain ⟨l0, l1, l2, l3, l4, l5⟩ := hcl
  rw [o0, l0] at h0
  rw [o1, l1] at h1
  rw [o2, l2] at h2
  rw [o3, l3] at h3
  rw [o4, l4] at h4
  rw [o5, l5] at h5
  simp [Value.cells] at h0 h1 h2 h3 h4 h5
  obtain ⟨u0, u1, n1, _, _, i0, i1⟩ := trod_struct2 hm h0
  obtain ⟨a0, b0'⟩ := hone_of honem 0 m0 rfl
  obtain ⟨a1, b1'⟩ := hone_of honem 1 m1 rfl
  rw [a0, b0'] at i0
  rw [a1, b1'] at i1
  simp at i0 i1
  obtain ⟨pa, pl, pc, cs, e0, w0⟩ := trod_vecs hp hev honev hCv he0 he1 he2 i0
  obtain ⟨ta, tl, tc, ts, e1, w1⟩ := trod_rows ht her heq ce cq i1
  obtain ⟨sa, sl, sc, ss, e2, w2⟩ := trod_springs hsp hes hones hCs hq0 hq1 hq2 hq3 h1
  obtain ⟨film, e3, w3⟩ := trod_float hf h2
  obtain ⟨bend, e4, w4⟩ := trod_float hb h3
  obtain ⟨wa, wl, wc, zs, e5, w5⟩ := trod_floats hw hew cw h4
  obtain ⟨k0, k1, k2, n2, _, _, j0, j1, j2⟩ := trod_struct3 hv5 h5
  obtain ⟨p0, r0⟩ := hone_of honev5 0 v0 rfl
  obtain ⟨p1, r1⟩ := hone_of honev5 1 v1 rfl
  obtain ⟨p2, r2⟩ := hone_of honev5 2 v2 rfl
  rw [p0, r0] at j0
  rw [p1, r1] at j1
  rw [p2, r2] at j2
  simp at j0 j1 j2
  obtain ⟨x, e6, w6⟩ := trod_float hv0 j0
  obtain ⟨y, e7, w7⟩ := trod_float hv1 j1
  obtain ⟨z, e8, w8⟩ := trod_float hv2 j2
  cases e0; cases e1; cases e2; cases e3; cases e4; cases e5; cases e6; cases e7; cases e8
  exact ⟨pa, ta, sa, wa, pl, pc, tl, tc, sl, sc, wl, wc, cs, ts, ss, zs, film, bend, x, y, z, rfl, w0, w1, w2, w5, w3, w4, w6, w7, w8⟩
end
end Fk
end Go.Proofs.Ytkdoibglgkcbkaa

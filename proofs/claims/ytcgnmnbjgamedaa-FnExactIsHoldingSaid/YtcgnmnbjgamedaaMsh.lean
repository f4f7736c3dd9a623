
/-
Meshes in memory: lists of vectors, lists of lists of integers, and how they come in. Conditions: none.
-/
import Derived.Test.YtcgnmnbjgamedaaFk
import Derived.Test.YtcgnmnbjgamedaaFs
import Derived.Below
import Derived.Deep.Matrix
namespace Go.Proofs.Ytcgnmnbjgamedaa
namespace Fk
open Go Go.RowKit
set_option linter.unusedVariables false

abbrev C3 := Option Nat × Option Nat × Option Nat
abbrev c0 : C3 := (none, none, none)
/-- A list of vectors that lies in memory, by the classes of its numbers. -/
def IsVs (w : World) (a : Option Addr) (len cap : Nat) (cs : List C3) : Prop :=
  cs.length = len ∧ len ≤ cap ∧ cap ≤ maxLen ∧ (a = none → len = 0 ∧ cap = 0) ∧
  (∀ x, a = some x → ∀ i, i < len → ∃ p q r, w.cell? (x.add (i * 3)) = some (.float .f32 p) ∧ w.cell? (x.add (i * 3 + 1)) = some (.float .f32 q) ∧ w.cell? (x.add (i * 3 + 2)) = some (.float .f32 r) ∧
    FV .f32 p (cs.getD i c0).1 ∧ FV .f32 q (cs.getD i c0).2.1 ∧ FV .f32 r (cs.getD i c0).2.2)
/-- A list of integers that lies in memory. -/
def IsIs (w : World) (a : Option Addr) (len cap : Nat) (zs : List Int) : Prop :=
  zs.length = len ∧ len ≤ cap ∧ cap ≤ maxLen ∧ (∀ z ∈ zs, (Lit.int .i64 z).wf = true) ∧ (a = none → len = 0 ∧ cap = 0) ∧
  (∀ x, a = some x → ∀ i, i < len → w.cell? (x.add i) = some (.int .i64 (zs.getD i 0)))
/-- A list of lists of integers that lies in memory. -/
def IsTs (w : World) (a : Option Addr) (len cap : Nat) (ts : List (List Int)) : Prop :=
  ts.length = len ∧ len ≤ cap ∧ cap ≤ maxLen ∧ (a = none → len = 0 ∧ cap = 0) ∧
  (∀ x, a = some x → ∀ i, i < len → ∃ b n c, w.cell? (x.add i) = some (.slice b n c) ∧ IsIs w b n c (ts.getD i []))

section
open Go.ChangeShapes Go.WideShapes Go.Deep
variable {H : Type} {enc : TypeId × Value → H} {P : Program} {w : World} {base : Nat} {held : Bool}

theorem cells?_three {b : Nat} {a : Addr} {cs : List Value} (h : w.cells? b a 3 = some cs) : ∃ u v t, cs = [u, v, t] ∧ w.cell? a = some u ∧ w.cell? (a.add 1) = some v ∧ w.cell? (a.add 2) = some t := by
  obtain ⟨_, hl, hc⟩ := World.cells?_some h
  match cs, hl with
  | [u, v, t], _ =>
    have k0 := hc 0 (by omega)
    have k1 := hc 1 (by omega)
    have k2 := hc 2 (by omega)
    have z : a.add 0 = a := by unfold Addr.add; rfl
    rw [z] at k0
    exact ⟨u, v, t, rfl, k0, k1, k2⟩
theorem trod_ints {t e : TypeId} {fuel : Nat} {cs : List Value} {x : DataW H × List MemPlace} (ht : P.underlying t = some (.slice e)) (he : P.underlying e = some (.int .i64)) (hc : P.cellsOf e = 1)
    (h : DataW.trod enc P w base (fun _ => true) held fuel t cs = some x) : ∃ a len cap zs, cs = [.slice a len cap] ∧ IsIs w a len cap zs := by
  rcases open_ints ht he hc h with ⟨hcs, hy⟩ | ⟨a, len, cap, zs, hcs, hb, hl, hm, hz, hy, hcell, hwz⟩
  · exact ⟨none, 0, 0, [], hcs, rfl, Nat.le_refl _, Nat.zero_le _, by simp, fun _ => ⟨rfl, rfl⟩, fun _ h => by cases h⟩
  · simp only [if_true] at hz
    refine ⟨some a, len, cap, zs.take len, hcs, by simp; omega, hl, hm, fun z hz' => hwz z (List.mem_of_mem_take hz'), (fun h => by cases h), fun y hy' i hi => ?_⟩
    cases hy'
    rw [hcell i (by omega)]
    simp [List.getD, hi]
theorem trod_rows {t e q : TypeId} {fuel : Nat} {cs : List Value} {x : DataW H × List MemPlace} (ht : P.underlying t = some (.slice e)) (he : P.underlying e = some (.slice q)) (hq : P.underlying q = some (.int .i64))
    (ce : P.cellsOf e = 1) (cq : P.cellsOf q = 1) (h : DataW.trod enc P w base (fun _ => true) held fuel t cs = some x) : ∃ a len cap ts, cs = [.slice a len cap] ∧ IsTs w a len cap ts := by
  rcases open_int_rows ht he hq ce cq h with ⟨hcs, hy⟩ | ⟨a, len, cap, A, L, C, Z, hcs, hb, hl, hm, hx, hr⟩
  · exact ⟨none, 0, 0, [], hcs, rfl, Nat.le_refl _, Nat.zero_le _, fun _ => ⟨rfl, rfl⟩, fun _ h => by cases h⟩
  · refine ⟨some a, len, cap, (List.range len).map fun r => (Z r).take (L r), hcs, by simp, hl, hm, (fun h => by cases h), fun y hy' i hi => ?_⟩
    cases hy'
    obtain ⟨r1, r2, r3, r4, r5, r6, r7⟩ := hr i (by omega)
    refine ⟨A i, L i, C i, r1, ?_⟩
    have hg : ((List.range len).map fun r => (Z r).take (L r)).getD i [] = (Z i).take (L i) := by simp [List.getD, hi]
    rw [hg]
    refine ⟨by simp; omega, r2, r3, fun z hz => r5 z (List.mem_of_mem_take hz), fun h => ⟨by have := r6 h; omega, r6 h⟩, fun a' ha' c hc' => ?_⟩
    rw [(r7 a' ha').2 c (by omega)]
    simp [List.getD, hc']
theorem trod_vecs {t e : TypeId} {f0 f1 f2 : Field} {fuel : Nat} {cs : List Value} {x : DataW H × List MemPlace} (ht : P.underlying t = some (.slice e)) (hs : P.underlying e = some (.struct #[f0, f1, f2])) (hone : oneCellFields P #[f0, f1, f2] = true) (hC : P.cellsOf e = 3)
    (he0 : P.underlying f0.type = some (.float .f32)) (he1 : P.underlying f1.type = some (.float .f32)) (he2 : P.underlying f2.type = some (.float .f32))
    (h : DataW.trod enc P w base (fun _ => true) held fuel t cs = some x) : ∃ a len cap vs, cs = [.slice a len cap] ∧ IsVs w a len cap vs := by
  rcases open_slice ht h with ⟨hcs, hy⟩ | ⟨a, len, cap, m, n, D, Pl, hcs, hb, hl, hm, hmm, hx, hr⟩
  · exact ⟨none, 0, 0, [], hcs, rfl, Nat.le_refl _, Nat.zero_le _, fun _ => ⟨rfl, rfl⟩, fun _ h => by cases h⟩
  · simp only [if_true] at hmm
    rw [hC] at hr
    have each : ∀ i, i < len → ∃ p q r, w.cell? (a.add (i * 3)) = some (.float .f32 p) ∧ w.cell? (a.add (i * 3 + 1)) = some (.float .f32 q) ∧ w.cell? (a.add (i * 3 + 2)) = some (.float .f32 r) ∧
        p < 2 ^ FloatKind.f32.format.width ∧ q < 2 ^ FloatKind.f32.format.width ∧ r < 2 ^ FloatKind.f32.format.width := by
      intro i hi
      obtain ⟨cs', h1, h2⟩ := hr i (by omega)
      obtain ⟨u, v, t', rfl, k0, k1, k2⟩ := cells?_three h1
      obtain ⟨y0, y1, y2, n', hx', _, h0', h1', h2'⟩ := trod_struct3 hs h2
      obtain ⟨o0, q0⟩ := hone_of hone 0 f0 rfl
      obtain ⟨o1, q1⟩ := hone_of hone 1 f1 rfl
      obtain ⟨o2, q2⟩ := hone_of hone 2 f2 rfl
      obtain ⟨p, e0, w0⟩ := trod_float he0 h0'
      obtain ⟨q, e1, w1⟩ := trod_float he1 h1'
      obtain ⟨r, e2, w2⟩ := trod_float he2 h2'
      simp [o0, q0] at e0
      simp [o1, q1] at e1
      simp [o2, q2] at e2
      subst e0 e1 e2
      rw [Addr.add_add] at k1 k2
      exact ⟨p, q, r, k0, k1, k2, w0, w1, w2⟩
    let f : Nat → Nat := fun j => match w.cell? (a.add j) with | some (.float _ b) => b | _ => 0
    refine ⟨some a, len, cap, (List.range len).map fun i => (cls .f32 (f (i * 3)), cls .f32 (f (i * 3 + 1)), cls .f32 (f (i * 3 + 2))), hcs, by simp, hl, hm, (fun h => by cases h), fun y hy' i hi => ?_⟩
    cases hy'
    obtain ⟨p, q, r, k0, k1, k2, w0, w1, w2⟩ := each i hi
    have hg : ((List.range len).map fun i => (cls .f32 (f (i * 3)), cls .f32 (f (i * 3 + 1)), cls .f32 (f (i * 3 + 2)))).getD i c0 = (cls .f32 p, cls .f32 q, cls .f32 r) := by
      simp [List.getD, hi, f, k0, k1, k2]
    rw [hg]
    exact ⟨p, q, r, k0, k1, k2, FV.self w0, FV.self w1, FV.self w2⟩
end

theorem IsIs.below {W w : World} {a : Option Addr} {len cap : Nat} {zs : List Int} (hb : Below W.heap.size W w) (h : IsIs W a len cap zs) : IsIs w a len cap zs := by
  obtain ⟨h1, h2, h3, h4, h5, h6⟩ := h
  refine ⟨h1, h2, h3, h4, h5, fun x hx i hi => ?_⟩
  have hc := h6 x hx i hi
  rw [hb.cell (p := x.add i) (World.block_lt_of_cell? W _ hc)]; exact hc
theorem IsTs.below {W w : World} {a : Option Addr} {len cap : Nat} {ts : List (List Int)} (hb : Below W.heap.size W w) (h : IsTs W a len cap ts) : IsTs w a len cap ts := by
  obtain ⟨h1, h2, h3, h5, h6⟩ := h
  refine ⟨h1, h2, h3, h5, fun x hx i hi => ?_⟩
  obtain ⟨b, n, c, hc, hi'⟩ := h6 x hx i hi
  exact ⟨b, n, c, by rw [hb.cell (p := x.add i) (World.block_lt_of_cell? W _ hc)]; exact hc, hi'.below hb⟩
theorem IsVs.below {W w : World} {a : Option Addr} {len cap : Nat} {cs : List C3} (hb : Below W.heap.size W w) (h : IsVs W a len cap cs) : IsVs w a len cap cs := by
  obtain ⟨h1, h2, h3, h5, h6⟩ := h
  refine ⟨h1, h2, h3, h5, fun x hx i hi => ?_⟩
  obtain ⟨p, q, r, k0, k1, k2, hv⟩ := h6 x hx i hi
  exact ⟨p, q, r, by rw [hb.cell (p := x.add (i * 3)) (World.block_lt_of_cell? W _ k0)]; exact k0, by rw [hb.cell (p := x.add (i * 3 + 1)) (World.block_lt_of_cell? W _ k1)]; exact k1,
    by rw [hb.cell (p := x.add (i * 3 + 2)) (World.block_lt_of_cell? W _ k2)]; exact k2, hv⟩
theorem addr_add' (b o i : Nat) : (⟨b, o, none⟩ : Addr).add i = ⟨b, o + i, none⟩ := by
  unfold Addr.add
  split
  · rename_i h; subst h; rfl
  · rfl
/-- A list that is not empty lies somewhere. -/
theorem IsIs.some {w : World} {a : Option Addr} {len cap : Nat} {zs : List Int} (h : IsIs w a len cap zs) (hl : 0 < len) :
    ∃ b o, a = .some ⟨b, o, none⟩ ∧ ∀ i, i < len → w.cell? ⟨b, o + i, none⟩ = .some (.int .i64 (zs.getD i 0)) := by
  obtain ⟨h1, h2, h3, h4, h5, h6⟩ := h
  cases a with
  | none => have := (h5 rfl).1; omega
  | some x =>
    obtain ⟨b, o, spot⟩ := x
    have hc := h6 _ rfl 0 hl
    have hspot : spot = none := by simpa [Addr.add] using World.cell?_spot hc
    subst hspot
    exact ⟨b, o, rfl, fun i hi => by have := h6 _ rfl i hi; rwa [addr_add'] at this⟩
theorem IsTs.some {w : World} {a : Option Addr} {len cap : Nat} {ts : List (List Int)} (h : IsTs w a len cap ts) (hl : 0 < len) :
    ∃ b o, a = .some ⟨b, o, none⟩ ∧ ∀ i, i < len → ∃ r n c, w.cell? ⟨b, o + i, none⟩ = .some (.slice r n c) ∧ IsIs w r n c (ts.getD i []) := by
  obtain ⟨h1, h2, h3, h5, h6⟩ := h
  cases a with
  | none => have := (h5 rfl).1; omega
  | some x =>
    obtain ⟨b, o, spot⟩ := x
    obtain ⟨_, _, _, hc, _⟩ := h6 _ rfl 0 hl
    have hspot : spot = none := by simpa [Addr.add] using World.cell?_spot hc
    subst hspot
    exact ⟨b, o, rfl, fun i hi => by have := h6 _ rfl i hi; rwa [addr_add'] at this⟩
theorem IsVs.some {w : World} {a : Option Addr} {len cap : Nat} {cs : List C3} (h : IsVs w a len cap cs) (hl : 0 < len) :
    ∃ b o, a = .some ⟨b, o, none⟩ ∧ ∀ i, i < len → ∃ p q r, w.cell? ⟨b, o + i * 3, none⟩ = .some (.float .f32 p) ∧ w.cell? ⟨b, o + i * 3 + 1, none⟩ = .some (.float .f32 q) ∧ w.cell? ⟨b, o + i * 3 + 2, none⟩ = .some (.float .f32 r) ∧
      FV .f32 p (cs.getD i c0).1 ∧ FV .f32 q (cs.getD i c0).2.1 ∧ FV .f32 r (cs.getD i c0).2.2 := by
  obtain ⟨h1, h2, h3, h5, h6⟩ := h
  cases a with
  | none => have := (h5 rfl).1; omega
  | some x =>
    obtain ⟨b, o, spot⟩ := x
    obtain ⟨_, _, _, hc, _⟩ := h6 _ rfl 0 hl
    have hspot : spot = none := by simpa [Addr.add] using World.cell?_spot hc
    subst hspot
    refine ⟨b, o, rfl, fun i hi => ?_⟩
    have := h6 _ rfl i hi
    rwa [addr_add', addr_add', addr_add', ← Nat.add_assoc, ← Nat.add_assoc] at this
end Fk
end Go.Proofs.Ytcgnmnbjgamedaa

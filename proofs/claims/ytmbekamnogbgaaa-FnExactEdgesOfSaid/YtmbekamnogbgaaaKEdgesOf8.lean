/-
Texts in one: what EdgesOf stands on, part 8. Conditions: those of each.
-/
import Derived.Test.YtmbekamnogbgaaaKEdgesOf7
import Derived.Lib.SmallJoins
import Derived.ChangeSlices
import Derived.Deep.QuietTactic
import Derived.BigQuiet

/-
Bodies in memory: lists of springs, and how a body comes in. Conditions: none.
-/
namespace Go.Proofs.Ytmbekamnogbgaaa
namespace Fk
open Go Go.RowKit
set_option linter.unusedVariables false

/-- A spring: its two places, and the classes of its two numbers. -/
abbrev SC := Int × Int × Option Nat × Option Nat
abbrev s0 : SC := (0, 0, none, none)
/-- A list of springs that lies in memory. -/
def IsSs (w : World) (a : Option Addr) (len cap : Nat) (ss : List SC) : Prop :=
  ss.length = len ∧ len ≤ cap ∧ cap ≤ maxLen ∧ (∀ s ∈ ss, (Lit.int .i64 s.1).wf = true ∧ (Lit.int .i64 s.2.1).wf = true) ∧ (a = none → len = 0 ∧ cap = 0) ∧
  (∀ x, a = some x → ∀ i, i < len → ∃ p q, w.cell? (x.add (i * 4)) = some (.int .i64 (ss.getD i s0).1) ∧ w.cell? (x.add (i * 4 + 1)) = some (.int .i64 (ss.getD i s0).2.1) ∧ w.cell? (x.add (i * 4 + 2)) = some (.float .f32 p) ∧ w.cell? (x.add (i * 4 + 3)) = some (.float .f32 q) ∧
    FV .f32 p (ss.getD i s0).2.2.1 ∧ FV .f32 q (ss.getD i s0).2.2.2)
theorem IsSs.below {W w : World} {a : Option Addr} {len cap : Nat} {ss : List SC} (hb : Below W.heap.size W w) (h : IsSs W a len cap ss) : IsSs w a len cap ss := by
  obtain ⟨h1, h2, h3, h4, h5, h6⟩ := h
  refine ⟨h1, h2, h3, h4, h5, fun x hx i hi => ?_⟩
  obtain ⟨p, q, k0, k1, k2, k3, hv⟩ := h6 x hx i hi
  exact ⟨p, q, by rw [hb.cell (p := x.add (i * 4)) (World.block_lt_of_cell? W _ k0)]; exact k0, by rw [hb.cell (p := x.add (i * 4 + 1)) (World.block_lt_of_cell? W _ k1)]; exact k1,
    by rw [hb.cell (p := x.add (i * 4 + 2)) (World.block_lt_of_cell? W _ k2)]; exact k2, by rw [hb.cell (p := x.add (i * 4 + 3)) (World.block_lt_of_cell? W _ k3)]; exact k3, hv⟩
theorem IsSs.some {w : World} {a : Option Addr} {len cap : Nat} {ss : List SC} (h : IsSs w a len cap ss) (hl : 0 < len) :
    ∃ b o, a = .some ⟨b, o, none⟩ ∧ ∀ i, i < len → ∃ p q, w.cell? ⟨b, o + i * 4, none⟩ = .some (.int .i64 (ss.getD i s0).1) ∧ w.cell? ⟨b, o + i * 4 + 1, none⟩ = .some (.int .i64 (ss.getD i s0).2.1) ∧ w.cell? ⟨b, o + i * 4 + 2, none⟩ = .some (.float .f32 p) ∧ w.cell? ⟨b, o + i * 4 + 3, none⟩ = .some (.float .f32 q) ∧
      FV .f32 p (ss.getD i s0).2.2.1 ∧ FV .f32 q (ss.getD i s0).2.2.2 := by
  obtain ⟨h1, h2, h3, h4, h5, h6⟩ := h
  cases a with
  | none => have := (h5 rfl).1; omega
  | some x =>
    obtain ⟨b, o, spot⟩ := x
    obtain ⟨_, _, hc, _⟩ := h6 _ rfl 0 hl
    have hspot : spot = none := by simpa [Addr.add] using World.cell?_spot hc
    subst hspot
    refine ⟨b, o, rfl, fun i hi => ?_⟩
    have := h6 _ rfl i hi
    rwa [addr_add', addr_add', addr_add', addr_add', ← Nat.add_assoc, ← Nat.add_assoc, ← Nat.add_assoc] at this

section
open Go.ChangeShapes Go.WideShapes Go.Deep
variable {H : Type} {enc : TypeId × Value → H} {P : Program} {w : World} {base : Nat} {held : Bool}
theorem cells?_four {b : Nat} {a : Addr} {cs : List Value} (h : w.cells? b a 4 = some cs) : ∃ u v t s, cs = [u, v, t, s] ∧ w.cell? a = some u ∧ w.cell? (a.add 1) = some v ∧ w.cell? (a.add 2) = some t ∧ w.cell? (a.add 3) = some s := by
  obtain ⟨_, hl, hc⟩ := World.cells?_some h
  match cs, hl with
  | [u, v, t, s], _ =>
    have k0 := hc 0 (by omega)
    have k1 := hc 1 (by omega)
    have k2 := hc 2 (by omega)
    have k3 := hc 3 (by omega)
    have z : a.add 0 = a := by unfold Addr.add; rfl
    rw [z] at k0
    exact ⟨u, v, t, s, rfl, k0, k1, k2, k3⟩
theorem trod_springs {t e : TypeId} {f0 f1 f2 f3 : Field} {fuel : Nat} {cs : List Value} {x : DataW H × List MemPlace} (ht : P.underlying t = some (.slice e)) (hs : P.underlying e = some (.struct #[f0, f1, f2, f3])) (hone : oneCellFields P #[f0, f1, f2, f3] = true) (hC : P.cellsOf e = 4)
    (he0 : P.underlying f0.type = some (.int .i64)) (he1 : P.underlying f1.type = some (.int .i64)) (he2 : P.underlying f2.type = some (.float .f32)) (he3 : P.underlying f3.type = some (.float .f32))
    (h : DataW.trod enc P w base (fun _ => true) held fuel t cs = some x) : ∃ a len cap ss, cs = [.slice a len cap] ∧ IsSs w a len cap ss := by
  rcases open_slice ht h with ⟨hcs, hy⟩ | ⟨a, len, cap, m, n, D, Pl, hcs, hb, hl, hm, hmm, hx, hr⟩
  · exact ⟨none, 0, 0, [], hcs, rfl, Nat.le_refl _, Nat.zero_le _, by simp, fun _ => ⟨rfl, rfl⟩, fun _ h => by cases h⟩
  · simp only [if_true] at hmm
    rw [hC] at hr
    have each : ∀ i, i < len → ∃ (u v : Int) (p q : Nat), w.cell? (a.add (i * 4)) = some (.int .i64 u) ∧ w.cell? (a.add (i * 4 + 1)) = some (.int .i64 v) ∧ w.cell? (a.add (i * 4 + 2)) = some (.float .f32 p) ∧ w.cell? (a.add (i * 4 + 3)) = some (.float .f32 q) ∧
        (Lit.int .i64 u).wf = true ∧ (Lit.int .i64 v).wf = true ∧ p < 2 ^ FloatKind.f32.format.width ∧ q < 2 ^ FloatKind.f32.format.width := by
      intro i hi
      obtain ⟨cs', h1, h2⟩ := hr i (by omega)
      obtain ⟨c0, c1, c2, c3, rfl, k0, k1, k2, k3⟩ := cells?_four h1
      obtain ⟨y0, y1, y2, y3, n', hx', _, h0', h1', h2', h3'⟩ := Joins.trod_struct4 hs h2
      obtain ⟨o0, q0⟩ := hone_of hone 0 f0 rfl
      obtain ⟨o1, q1⟩ := hone_of hone 1 f1 rfl
      obtain ⟨o2, q2⟩ := hone_of hone 2 f2 rfl
      obtain ⟨o3, q3⟩ := hone_of hone 3 f3 rfl
      obtain ⟨u, e0, _, w0⟩ := DataW.trod_int he0 h0'
      obtain ⟨v, e1, _, w1⟩ := DataW.trod_int he1 h1'
      obtain ⟨p, e2, w2⟩ := trod_float he2 h2'
      obtain ⟨q, e3, w3⟩ := trod_float he3 h3'
      simp [o0, q0] at e0
      simp [o1, q1] at e1
      simp [o2, q2] at e2
      simp [o3, q3] at e3
      subst e0 e1 e2 e3
      rw [Addr.add_add] at k1 k2 k3
      exact ⟨u, v, p, q, k0, k1, k2, k3, w0, w1, w2, w3⟩
    let fi : Nat → Int := fun j => match w.cell? (a.add j) with | some (.int _ b) => b | _ => 0
    let f : Nat → Nat := fun j => match w.cell? (a.add j) with | some (.float _ b) => b | _ => 0
    have hg : ∀ i, i < len → ((List.range len).map fun i => ((fi (i * 4), fi (i * 4 + 1), cls .f32 (f (i * 4 + 2)), cls .f32 (f (i * 4 + 3))) : SC)).getD i s0 = (fi (i * 4), fi (i * 4 + 1), cls .f32 (f (i * 4 + 2)), cls .f32 (f (i * 4 + 3))) := by
      intro i hi
      simp [List.getD, hi]
    refine ⟨some a, len, cap, (List.range len).map fun i => (fi (i * 4), fi (i * 4 + 1), cls .f32 (f (i * 4 + 2)), cls .f32 (f (i * 4 + 3))), hcs, by simp, hl, hm, ?_, (fun h => by cases h), fun y hy' i hi => ?_⟩
    · intro s hs'
      obtain ⟨i, hi, rfl⟩ := List.mem_map.1 hs'
      obtain ⟨u, v, p, q, k0, k1, k2, k3, w0, w1, w2, w3⟩ := each i (List.mem_range.1 hi)
      simp [fi, k0, k1, w0, w1]
    cases hy'
    obtain ⟨u, v, p, q, k0, k1, k2, k3, w0, w1, w2, w3⟩ := each i hi
    rw [hg i hi]
    have g0 : fi (i * 4) = u := by simp [fi, k0]
    have g1 : fi (i * 4 + 1) = v := by simp [fi, k1]
    have g2 : f (i * 4 + 2) = p := by simp [f, k2]
    have g3 : f (i * 4 + 3) = q := by simp [f, k3]
    rw [g0, g1, g2, g3]
    exact ⟨p, q, k0, k1, k2, k3, FV.self w2, FV.self w3⟩
theorem array9 {α : Type} {cs : Array α} (h : cs.size = 9) : ∃ c0 c1 c2 c3 c4 c5 c6 c7 c8, cs = #[c0, c1, c2, c3, c4, c5, c6, c7, c8] := by
  obtain ⟨l⟩ := cs
  match l, h with
  | [c0, c1, c2, c3, c4, c5, c6, c7, c8], _ => exact ⟨c0, c1, c2, c3, c4, c5, c6, c7, c8, rfl⟩
theorem trod_struct6 {t : TypeId} {f0 f1 f2 f3 f4 f5 : Field} {spare : Nat → Bool} {fuel : Nat} {cs : List Value} {x : DataW H × List MemPlace} (ht : P.underlying t = some (.struct #[f0, f1, f2, f3, f4, f5])) (h : DataW.trod enc P w base spare held fuel t cs = some x) :
    ∃ y0 y1 y2 y3 y4 y5 n, DataW.trod enc P w base spare held n f0.type ((cs.drop f0.offset).take (P.cellsOf f0.type)) = some y0 ∧
      DataW.trod enc P w base spare held n f1.type ((cs.drop f1.offset).take (P.cellsOf f1.type)) = some y1 ∧ DataW.trod enc P w base spare held n f2.type ((cs.drop f2.offset).take (P.cellsOf f2.type)) = some y2 ∧
      DataW.trod enc P w base spare held n f3.type ((cs.drop f3.offset).take (P.cellsOf f3.type)) = some y3 ∧ DataW.trod enc P w base spare held n f4.type ((cs.drop f4.offset).take (P.cellsOf f4.type)) = some y4 ∧ DataW.trod enc P w base spare held n f5.type ((cs.drop f5.offset).take (P.cellsOf f5.type)) = some y5 := by
  obtain ⟨xs, n, _, rfl, hl, hlen, hf⟩ := DataW.trod_struct ht h
  match xs, hlen with
  | [y0, y1, y2, y3, y4, y5], _ => exact ⟨y0, y1, y2, y3, y4, y5, n, by simpa using hf 0 f0 rfl, by simpa using hf 1 f1 rfl, by simpa using hf 2 f2 rfl, by simpa using hf 3 f3 rfl, by simpa using hf 4 f4 rfl, by simpa using hf 5 f5 rfl⟩
theorem trod_floats {t e : TypeId} {fuel : Nat} {cs : List Value} {x : DataW H × List MemPlace} (ht : P.underlying t = some (.slice e)) (he : P.underlying e = some (.float .f32)) (hc : P.cellsOf e = 1)
    (h : DataW.trod enc P w base (fun _ => true) held fuel t cs = some x) : ∃ a len cap zs, cs = [.slice a len cap] ∧ IsFs .f32 w a len cap zs := by
  obtain ⟨a, len, cap, rfl⟩ := Joins.slice_form ht h
  obtain ⟨zs, hz⟩ := open_floats ht he hc ⟨fuel, h⟩
  exact ⟨a, len, cap, zs, rfl, hz⟩
/-- A body that came in. -/
theorem open_body {r : Reach} {b0 : Nat} {t : TypeId} {g0 g1 g2 g3 g4 g5 : Field} {m0 m1 : Field} {ev eq : TypeId} {f0 f1 f2 : Field} {er : TypeId} {es : TypeId} {q0 q1 q2 q3 : Field} {ew : TypeId} {v0 v1 v2 : Field} {v : Value} {d : DataW H} {p : List MemPlace}
    (hs : P.underlying t = some (.struct #[g0, g1, g2, g3, g4, g5])) (hoff : [g0.offset, g1.offset, g2.offset, g3.offset, g4.offset, g5.offset] = [0, 2, 3, 4, 5, 6]) (hcl : [P.cellsOf g0.type, P.cellsOf g1.type, P.cellsOf g2.type, P.cellsOf g3.type, P.cellsOf g4.type, P.cellsOf g5.type] = [2, 1, 1, 1, 1, 3]) (hC : P.cellsOf t = 9)
    (hm : P.underlying g0.type = some (.struct #[m0, m1])) (honem : oneCellFields P #[m0, m1] = true)
    (hp : P.underlying m0.type = some (.slice ev)) (hev : P.underlying ev = some (.struct #[f0, f1, f2])) (honev : oneCellFields P #[f0, f1, f2] = true) (hCv : P.cellsOf ev = 3)
    (he0 : P.underlying f0.type = some (.float .f32)) (he1 : P.underlying f1.type = some (.float .f32)) (he2 : P.underlying f2.type = some (.float .f32))
    (ht : P.underlying m1.type = some (.slice er)) (her : P.underlying er = some (.slice eq)) (heq : P.underlying eq = some (.int .i64)) (ce : P.cellsOf er = 1) (cq : P.cellsOf eq = 1)
    (hsp : P.underlying g1.type = some (.slice es)) (hes : P.underlying es = some (.struct #[q0, q1, q2, q3])) (hones : oneCellFields P #[q0, q1, q2, q3] = true) (hCs : P.cellsOf es = 4)
    (hq0 : P.underlying q0.type = some (.int .i64)) (hq1 : P.underlying q1.type = some (.int .i64)) (hq2 : P.underlying q2.type = some (.float .f32)) (hq3 : P.underlying q3.type = some (.float .f32))
    (hf : P.underlying g2.type = some (.float .f32)) (hb : P.underlying g3.type = some (.float .f32))
    (hw : P.underlying g4.type = some (.slice ew)) (hew : P.underlying ew = some (.float .f32)) (cw : P.cellsOf ew = 1)
    (hv5 : P.underlying g5.type = some (.struct #[v0, v1, v2])) (honev5 : oneCellFields P #[v0, v1, v2] = true)
    (hv0 : P.underlying v0.type = some (.float .f32)) (hv1 : P.underlying v1.type = some (.float .f32)) (hv2 : P.underlying v2.type = some (.float .f32))
    (hv : Value.okWide P w r b0 t v) (h : DataW.Trod enc P w base (fun _ => true) held t v d p) :
    ∃ pa ta sa wa pl pc tl tc sl sc wl wc cs ts ss zs film bend x y z, v = .agg #[.slice pa pl pc, .slice ta tl tc, .slice sa sl sc, .float .f32 film, .float .f32 bend, .slice wa wl wc, .float .f32 x, .float .f32 y, .float .f32 z] ∧
      IsVs w pa pl pc cs ∧ IsTs w ta tl tc ts ∧ IsSs w sa sl sc ss ∧ IsFs .f32 w wa wl wc zs ∧ (film < 2 ^ FloatKind.f32.format.width ∧ bend < 2 ^ FloatKind.f32.format.width ∧ x < 2 ^ FloatKind.f32.format.width ∧ y < 2 ^ FloatKind.f32.format.width ∧ z < 2 ^ FloatKind.f32.format.width) := by
  obtain ⟨cs, rfl, hsz⟩ := okWide_struct hs hv
  obtain ⟨c0, c1, c2, c3, c4, c5, c6, c7, c8, rfl⟩ := array9 (hsz.trans hC)
  obtain ⟨fuel, hfu⟩ := h
  obtain ⟨y0, y1, y2, y3, y4, y5, n, h0, h1, h2, h3, h4, h5⟩ := trod_struct6 hs hfu
  simp only [List.cons.injEq, and_true] at hoff hcl
  obtain ⟨o0, o1, o2, o3, o4, o5⟩ := hoff
  obtain ⟨l0, l1, l2, l3, l4, l5⟩ := hcl
  rw [o0, l0] at h0
  rw [o1, l1] at h1
  rw [o2, l2] at h2
  rw [o3, l3] at h3
  rw [o4, l4] at h4
  rw [o5, l5] at h5
  simp [Value.cells] at h0 h1 h2 h3 h4 h5
  obtain ⟨u0, u1, n1, _, _, i0, i1⟩ := trod_struct2 hm h0
  obtain ⟨a0, b0'⟩ := hone_of honem 0 m0 rfl
  obtain ⟨a1, b1'⟩ := hone_of honem 1 m1 rfl
  rw [a0, b0'] at i0
  rw [a1, b1'] at i1
  simp at i0 i1
  obtain ⟨pa, pl, pc, cs, e0, w0⟩ := trod_vecs hp hev honev hCv he0 he1 he2 i0
  obtain ⟨ta, tl, tc, ts, e1, w1⟩ := trod_rows ht her heq ce cq i1
  obtain ⟨sa, sl, sc, ss, e2, w2⟩ := trod_springs hsp hes hones hCs hq0 hq1 hq2 hq3 h1
  obtain ⟨film, e3, w3⟩ := trod_float hf h2
  obtain ⟨bend, e4, w4⟩ := trod_float hb h3
  obtain ⟨wa, wl, wc, zs, e5, w5⟩ := trod_floats hw hew cw h4
  obtain ⟨k0, k1, k2, n2, _, _, j0, j1, j2⟩ := trod_struct3 hv5 h5
  obtain ⟨p0, r0⟩ := hone_of honev5 0 v0 rfl
  obtain ⟨p1, r1⟩ := hone_of honev5 1 v1 rfl
  obtain ⟨p2, r2⟩ := hone_of honev5 2 v2 rfl
  rw [p0, r0] at j0
  rw [p1, r1] at j1
  rw [p2, r2] at j2
  simp at j0 j1 j2
  obtain ⟨x, e6, w6⟩ := trod_float hv0 j0
  obtain ⟨y, e7, w7⟩ := trod_float hv1 j1
  obtain ⟨z, e8, w8⟩ := trod_float hv2 j2
  cases e0; cases e1; cases e2; cases e3; cases e4; cases e5; cases e6; cases e7; cases e8
  exact ⟨pa, ta, sa, wa, pl, pc, tl, tc, sl, sc, wl, wc, cs, ts, ss, zs, film, bend, x, y, z, rfl, w0, w1, w2, w5, w3, w4, w6, w7, w8⟩
end
end Fk
end Go.Proofs.Ytmbekamnogbgaaa


/-
Meshes are the same as their copies: what the law's own functions return. Conditions: at most 2^20 of each.
-/
namespace Go.Proofs.Ytmbekamnogbgaaa
open Go Fk Go.RowKit
set_option linter.unusedVariables false
set_option maxRecDepth 8000

theorem _root_.Go.Proofs.Ytmbekamnogbgaaa.Fk.IsIs.drewE {w w1 : World} {n : Nat} {a : Option Addr} {len cap : Nat} {zs : List Int} (h : IsIs w a len cap zs) (hw : w1 = w.drewN n) : IsIs w1 a len cap zs := by subst hw; exact h
theorem drewn_end {w w1 : World} {n m : Nat} (h : w1 = w.drewN n) : ∃ k, w1.drewN m = w.drewN k := ⟨n + m, by rw [h, World.drewN_drewN]⟩
set_option maxHeartbeats 1000000 in
theorem laws_eqInt64S (a b : Option Addr) (len cap cap' : Nat) (zs : List Int) (w : World) (ha : IsIs w a len cap zs) (hb : IsIs w b len cap' zs) :
    Calls Try.prog 55 #[.slice a len cap, .slice b len cap'] w fun e w' => e = .returned (.bool true) ∧ ∃ n, w' = w.drewN n := by
  have hm : len ≤ 9223372036854775807 := by have h1 := ha.2.1; have h2 := ha.2.2.1; unfold maxLen at h2; omega
  have hzl := ha.1
  go_enter Try.func55, Try.ntmps55
  go_wp2
  go_loopw [5] (fun i w' => ∃ k : Nat, k ≤ len ∧ i = .int .i64 k ∧ ∃ n, w' = w.drewN n) (fun i _ => len - (intOf i).toNat)
  case atStart => exact ⟨0, Nat.zero_le _, rfl, 0, rfl⟩
  case round =>
    obtain ⟨k, hk, rfl, n, hw⟩ := hrel
    by_cases hlt : k < len
    · obtain ⟨b1, o1, rfl, hcell1⟩ := (ha.drewE hw).some (by omega)
      obtain ⟨b2, o2, rfl, hcell2⟩ := (hb.drewE hw).some (by omega)
      have c1 := hcell1 k hlt
      have c2 := hcell2 k hlt
      generalize zs.getD k 0 = z at *
      have HW := Lib.hid hw
      clear hcell1 hcell2 hzl ha hb hw
      have hk0 : (0 : Int) ≤ (k : Int) := by omega
      have hk1 : (k : Int) < (len : Int) := by omega
      go_wp2_with fail
      go_quiet (fail)
      go_wp2
      go_roundw
      case rel => exact ⟨k + 1, by omega, by go_num, drewn_end HW.out⟩
      case measure => simp [intOf]; omega
    · have HW := Lib.hid hw
      clear hw
      go_wp2
      go_ret
      exact ⟨rfl, n, HW.out⟩
theorem _root_.Go.Proofs.Ytmbekamnogbgaaa.Fk.IsTs.drew {w w1 : World} {n : Nat} {a : Option Addr} {len cap : Nat} {ts : List (List Int)} (h : IsTs w a len cap ts) (hw : w1 = w.drewN n) : IsTs w1 a len cap ts := by subst hw; exact h
theorem _root_.Go.Proofs.Ytmbekamnogbgaaa.Fk.IsIs.drew {w : World} {n : Nat} {a : Option Addr} {len cap : Nat} {zs : List Int} (h : IsIs w a len cap zs) : IsIs (w.drewN n) a len cap zs := h
theorem _root_.Go.Proofs.Ytmbekamnogbgaaa.Fk.IsVs.drew {w w1 : World} {n : Nat} {a : Option Addr} {len cap : Nat} {cs : List C3} (h : IsVs w a len cap cs) (hw : w1 = w.drewN n) : IsVs w1 a len cap cs := by subst hw; exact h
set_option maxHeartbeats 1000000 in
theorem laws_eqInt64SS (a b : Option Addr) (len cap cap' : Nat) (ts : List (List Int)) (w : World) (ha : IsTs w a len cap ts) (hb : IsTs w b len cap' ts) :
    Calls Try.prog 62 #[.slice a len cap, .slice b len cap'] w fun e w' => e = .returned (.bool true) ∧ ∃ n, w' = w.drewN n := by
  have hm : len ≤ 9223372036854775807 := by have h1 := ha.2.1; have h2 := ha.2.2.1; unfold maxLen at h2; omega
  have hzl := ha.1
  go_enter Try.func62, Try.ntmps62
  go_wp2
  go_loopw [5] (fun i w' => ∃ k : Nat, k ≤ len ∧ i = .int .i64 k ∧ ∃ n, w' = w.drewN n) (fun i _ => len - (intOf i).toNat)
  case atStart => exact ⟨0, Nat.zero_le _, rfl, 0, rfl⟩
  case round =>
    obtain ⟨k, hk, rfl, n, hw⟩ := hrel
    by_cases hlt : k < len
    · obtain ⟨b1, o1, rfl, hcell1⟩ := (ha.drew hw).some (by omega)
      obtain ⟨b2, o2, rfl, hcell2⟩ := (hb.drew hw).some (by omega)
      obtain ⟨r1, n1, q1, c1, i1⟩ := hcell1 k hlt
      obtain ⟨r2, n2, q2, c2, i2⟩ := hcell2 k hlt
      have hn : n2 = n1 := i2.1.symm.trans i1.1
      subst hn
      generalize ts.getD k [] = z at *
      have HW := Lib.hid hw
      have I1 := Lib.hid i1
      have I2 := Lib.hid i2
      clear hcell1 hcell2 hzl ha hb hw i1 i2
      have hk0 : (0 : Int) ≤ (k : Int) := by omega
      have hk1 : (k : Int) < (len : Int) := by omega
      go_wp2_with fail
      go_quiet ((go_at_call 55; exact Calls.quiet_of (laws_eqInt64S _ _ _ _ _ _ _ I1.out.drew I2.out.drew)))
      go_wp2
      go_roundw
      case rel => exact ⟨k + 1, by omega, by go_num, drewn_end HW.out⟩
      case measure => simp [intOf]; omega
    · have HW := Lib.hid hw
      clear hw
      go_wp2
      go_ret
      exact ⟨rfl, n, HW.out⟩
set_option maxHeartbeats 1000000 in
theorem laws_eqVectorS (a b : Option Addr) (len cap cap' : Nat) (cs : List C3) (w : World) (ha : IsVs w a len cap cs) (hb : IsVs w b len cap' cs) :
    Calls Try.prog 30 #[.slice a len cap, .slice b len cap'] w fun e w' => e = .returned (.bool true) ∧ Below w.heap.size w w' := by
  have hm : len ≤ 9223372036854775807 := by have h1 := ha.2.1; have h2 := ha.2.2.1; unfold maxLen at h2; omega
  have uv := Try.underlying34
  have hzl := ha.1
  go_enter Try.func30, Try.ntmps30
  go_wp2
  go_loopw [5] (fun i w' => ∃ k : Nat, k ≤ len ∧ i = .int .i64 k ∧ Below w.heap.size w w') (fun i _ => len - (intOf i).toNat)
  case atStart => exact ⟨0, Nat.zero_le _, rfl, Below.refl _ _⟩
  case round =>
    obtain ⟨k, hk, rfl, hB⟩ := hrel
    by_cases hlt : k < len
    · obtain ⟨b1, o1, rfl, hcell1⟩ := (ha.below hB).some (by omega)
      obtain ⟨b2, o2, rfl, hcell2⟩ := (hb.below hB).some (by omega)
      obtain ⟨p1, q1, r1, c11, c12, c13, f11, f12, f13⟩ := hcell1 k hlt
      obtain ⟨p2, q2, r2, c21, c22, c23, f21, f22, f23⟩ := hcell2 k hlt
      generalize cs.getD k c0 = z at *
      have HB := Lib.hid hB
      clear hcell1 hcell2 hzl ha hb hB
      have hk0 : (0 : Int) ≤ (k : Int) := by omega
      have hk1 : (k : Int) < (len : Int) := by omega
      go_wp2_with fail
      refine Reg.wp_region_mix (C := fun w' => (w'.cell? ⟨b1, o1 + k * 3, none⟩ = some (.float .f32 p1) ∧ w'.cell? ⟨b1, o1 + k * 3 + 1, none⟩ = some (.float .f32 q1) ∧ w'.cell? ⟨b1, o1 + k * 3 + 2, none⟩ = some (.float .f32 r1) ∧ w'.cell? ⟨b2, o2 + k * 3, none⟩ = some (.float .f32 p2) ∧ w'.cell? ⟨b2, o2 + k * 3 + 1, none⟩ = some (.float .f32 q2) ∧ w'.cell? ⟨b2, o2 + k * 3 + 2, none⟩ = some (.float .f32 r2)) ∧ Below wr.heap.size wr w') (G := fun _ _ => True) (R := fun i v _ => match i with | 0 => v = .slice (some ⟨b1, o1, none⟩) len cap | 1 => v = .int .i64 k | 2 => v = .pointer (some ⟨b1, o1 + k * 3, none⟩) | 3 => v = vv p1 q1 r1 | 4 => v = .slice (some ⟨b2, o2, none⟩) len cap' | 5 => v = .int .i64 k | 6 => v = .pointer (some ⟨b2, o2 + k * 3, none⟩) | 7 => v = vv p2 q2 r2 | 8 => v = .bool true | 9 => v = .bool false | _ => True) (T := fun _ _ _ => True) [false, false, false, false, false, false, false, false, false, false, false, false, false, false, false, false, false, true, true, true, true, true, true, true, true, true, true]
        (by kernel_rfl) (by kernel_rfl) (by kernel_rfl) (fun _ _ _ _ _ _ h => h) ⟨⟨c11, c12, c13, c21, c22, c23⟩, below_drewN (Below.refl _ _) 1⟩ ?_ ?_
      · refine ⟨Reg.Obl.mk ?_, Reg.Obl.mk ?_, Reg.Obl.mk ?_, Reg.Obl.mk ?_, Reg.Obl.mk ?_, Reg.Obl.mk ?_, Reg.Obl.mk ?_, Reg.Obl.mk ?_, Reg.Obl.mk ?_, Reg.Obl.mk ?_, trivial⟩
        · rintro a w1 ⟨⟨d11, d12, d13, d21, d22, d23⟩, hB⟩ hx hd K hK
          have t0 : a.tmps[0]?.getD undef = .slice (some ⟨b1, o1, none⟩) len cap := Reg.slot_val (hx 0 (by kernel_rfl))
          go_simp
          exact hK _ _ (fun _ => rfl) (fun h => by cases h) ⟨⟨d11, d12, d13, d21, d22, d23⟩, hB⟩ trivial
        · rintro a w1 ⟨⟨d11, d12, d13, d21, d22, d23⟩, hB⟩ hx hd K hK
          have t5 : a.tmps[5]?.getD undef = .int .i64 k := Reg.slot_val (hx 5 (by kernel_rfl))
          go_simp
          exact hK _ _ (fun _ => rfl) (fun h => by cases h) ⟨⟨d11, d12, d13, d21, d22, d23⟩, hB⟩ trivial
        · rintro a w1 ⟨⟨d11, d12, d13, d21, d22, d23⟩, hB⟩ hx hd K hK
          have t17 : a.tmps[17]?.getD undef = .slice (some ⟨b1, o1, none⟩) len cap := Reg.slot_val (hd 0 (by kernel_rfl) 17 rfl)
          have t18 : a.tmps[18]?.getD undef = .int .i64 k := Reg.slot_val (hd 1 (by kernel_rfl) 18 rfl)
          go_simp
          exact hK _ _ (fun _ => rfl) (fun h => by cases h) ⟨⟨d11, d12, d13, d21, d22, d23⟩, hB⟩ trivial
        · rintro a w1 ⟨⟨d11, d12, d13, d21, d22, d23⟩, hB⟩ hx hd K hK
          have t19 : a.tmps[19]?.getD undef = .pointer (some ⟨b1, o1 + k * 3, none⟩) := Reg.slot_val (hd 2 (by kernel_rfl) 19 rfl)
          go_simp
          exact hK _ _ (fun _ => rfl) (fun h => by cases h) ⟨⟨d11, d12, d13, d21, d22, d23⟩, hB⟩ trivial
        · rintro a w1 ⟨⟨d11, d12, d13, d21, d22, d23⟩, hB⟩ hx hd K hK
          have t1 : a.tmps[1]?.getD undef = .slice (some ⟨b2, o2, none⟩) len cap' := Reg.slot_val (hx 1 (by kernel_rfl))
          go_simp
          exact hK _ _ (fun _ => rfl) (fun h => by cases h) ⟨⟨d11, d12, d13, d21, d22, d23⟩, hB⟩ trivial
        · rintro a w1 ⟨⟨d11, d12, d13, d21, d22, d23⟩, hB⟩ hx hd K hK
          have t5 : a.tmps[5]?.getD undef = .int .i64 k := Reg.slot_val (hx 5 (by kernel_rfl))
          go_simp
          exact hK _ _ (fun _ => rfl) (fun h => by cases h) ⟨⟨d11, d12, d13, d21, d22, d23⟩, hB⟩ trivial
        · rintro a w1 ⟨⟨d11, d12, d13, d21, d22, d23⟩, hB⟩ hx hd K hK
          have t21 : a.tmps[21]?.getD undef = .slice (some ⟨b2, o2, none⟩) len cap' := Reg.slot_val (hd 4 (by kernel_rfl) 21 rfl)
          have t22 : a.tmps[22]?.getD undef = .int .i64 k := Reg.slot_val (hd 5 (by kernel_rfl) 22 rfl)
          go_simp
          exact hK _ _ (fun _ => rfl) (fun h => by cases h) ⟨⟨d11, d12, d13, d21, d22, d23⟩, hB⟩ trivial
        · rintro a w1 ⟨⟨d11, d12, d13, d21, d22, d23⟩, hB⟩ hx hd K hK
          have t23 : a.tmps[23]?.getD undef = .pointer (some ⟨b2, o2 + k * 3, none⟩) := Reg.slot_val (hd 6 (by kernel_rfl) 23 rfl)
          go_simp
          exact hK _ _ (fun _ => rfl) (fun h => by cases h) ⟨⟨d11, d12, d13, d21, d22, d23⟩, hB⟩ trivial
        · rintro a w1 ⟨⟨d11, d12, d13, d21, d22, d23⟩, hB⟩ hx hd K hK
          have t20 : a.tmps[20]?.getD undef = vv p1 q1 r1 := Reg.slot_val (hd 3 (by kernel_rfl) 20 rfl)
          have t24 : a.tmps[24]?.getD undef = vv p2 q2 r2 := Reg.slot_val (hd 7 (by kernel_rfl) 24 rfl)
          go_simp
          refine (laws_eqVector _ _ _ _ _ _ _ _ _ _ f11 f12 f13 f21 f22 f23).mono ?_
          rintro en w2 ⟨rfl, hB2⟩
          exact hK _ _ (fun _ => rfl) (fun h => by cases h) ⟨⟨cell_below hB2 d11, cell_below hB2 d12, cell_below hB2 d13, cell_below hB2 d21, cell_below hB2 d22, cell_below hB2 d23⟩, hB.trans (hB2.mono hB.size)⟩ trivial
        · rintro a w1 ⟨⟨d11, d12, d13, d21, d22, d23⟩, hB⟩ hx hd K hK
          have t25 : a.tmps[25]?.getD undef = .bool true := Reg.slot_val (hd 8 (by kernel_rfl) 25 rfl)
          go_simp
          exact hK _ _ (fun _ => rfl) (fun h => by cases h) ⟨⟨d11, d12, d13, d21, d22, d23⟩, hB⟩ trivial
      · rintro f w1 ⟨_, hB⟩ hd hT
        have g26 : f 26 = .bool false := hd 9 26 rfl
        simp only [Reg.mixL, g26]
        have HB1 := Lib.hid hB
        clear hB
        go_wp2
        go_roundw
        case rel => exact ⟨k + 1, by omega, by go_num, HB.out.trans (HB1.out.mono HB.out.size)⟩
        case measure => simp [intOf]; omega
    · have HB := Lib.hid hB
      clear hB
      go_wp2
      go_ret
      exact ⟨rfl, HB.out⟩
end Go.Proofs.Ytmbekamnogbgaaa


/-
How great a body is; copies of springs and of lists of them, and that they are the same: what the law's own functions return. Conditions: at most 2^20 of each.
-/
namespace Go.Proofs.Ytmbekamnogbgaaa
open Go Fk Go.RowKit
set_option linter.unusedVariables false
set_option maxRecDepth 8000

abbrev sv (a b : Int) (x y : Nat) : Value := .agg #[.int .i64 a, .int .i64 b, .float .f32 x, .float .f32 y]
theorem laws_szSpringS (a : Option Addr) (len cap : Nat) (left : Int) (w : World) (h0 : 0 ≤ left) (h1 : left ≤ 1048576) (h2 : len ≤ 9223372036854775807) :
    Calls Try.prog 80 #[.slice a len cap, .int .i64 left] w fun e w' => (∃ r : Int, e = .returned (.int .i64 r) ∧ (r = -1 ∨ (0 ≤ r ∧ r ≤ 1048576 ∧ len ≤ 1048576))) ∧ w' = w := by
  by_cases h : left < len
  · go_enter Try.func80, Try.ntmps80
    go_wp2
    go_ret
    exact ⟨⟨-1, rfl, .inl rfl⟩, rfl⟩
  · go_enter Try.func80, Try.ntmps80
    go_wp2
    go_ret
    exact ⟨⟨_, rfl, .inr ⟨by omega, by omega, by omega⟩⟩, rfl⟩
theorem laws_szFloat32S (a : Option Addr) (len cap : Nat) (left : Int) (w : World) (h0 : 0 ≤ left) (h1 : left ≤ 1048576) (h2 : len ≤ 9223372036854775807) :
    Calls Try.prog 81 #[.slice a len cap, .int .i64 left] w fun e w' => (∃ r : Int, e = .returned (.int .i64 r) ∧ (r = -1 ∨ (0 ≤ r ∧ r ≤ 1048576 ∧ len ≤ 1048576))) ∧ w' = w := by
  by_cases h : left < len
  · go_enter Try.func81, Try.ntmps81
    go_wp2
    go_ret
    exact ⟨⟨-1, rfl, .inl rfl⟩, rfl⟩
  · go_enter Try.func81, Try.ntmps81
    go_wp2
    go_ret
    exact ⟨⟨_, rfl, .inr ⟨by omega, by omega, by omega⟩⟩, rfl⟩
theorem laws_szMesh' (pa ta : Option Addr) (pl pc tl tc : Nat) (cs : List C3) (ts : List (List Int)) (left : Int) (w : World) (hp : IsVs w pa pl pc cs) (ht : IsTs w ta tl tc ts) (h0 : 0 ≤ left) (h1 : left ≤ 1048576) :
    Calls Try.prog 15 #[.agg #[.slice pa pl pc, .slice ta tl tc], .int .i64 left] w fun e w' => (∃ r : Int, e = .returned (.int .i64 r) ∧ (r = -1 ∨ (0 ≤ r ∧ r ≤ 1048576 ∧ pl ≤ 1048576 ∧ tl ≤ 1048576 ∧ ∀ k, k < tl → (ts.getD k []).length ≤ 1048576))) ∧ Below w.heap.size w w' := by
  have hpm : pl ≤ 9223372036854775807 := by have h1 := hp.2.1; have h2 := hp.2.2.1; unfold maxLen at h2; omega
  have u := Try.underlying25
  go_enter Try.func15, Try.ntmps15
  go_wp2_with (go_at_call 25; refine (laws_szVectorS _ _ _ _ _ h0 h1 hpm).mono ?_; rintro e w1 ⟨⟨r, rfl, hr⟩, hw1⟩; rw [hw1]; clear hw1 w1; rcases hr with rfl | ⟨hr2, hr3, hn3⟩)
  · go_ret
    exact ⟨⟨-1, rfl, .inl rfl⟩, (Below.refl _ _).alloc (Nat.le_refl _) _⟩
  · have hb : Below w.heap.size w (w.alloc (.cells #[.slice pa pl pc, .slice ta tl tc] 25)) := (Below.refl _ _).alloc (Nat.le_refl _) _
    have ht' := ht.below hb
    go_wp2_with (go_at_call 70; refine (laws_szInt64SS _ _ _ _ _ _ ht' hr2 hr3).mono ?_; rintro e w1 ⟨⟨r', rfl, hr'⟩, hw1⟩; rw [hw1]; clear hw1 w1; rcases hr' with rfl | ⟨hr4, hr5, hn5, hn6⟩)
    · go_ret
      exact ⟨⟨-1, rfl, .inl rfl⟩, hb⟩
    · have HN := Lib.hid hn6
      clear hn6
      go_wp2
      go_ret
      exact ⟨⟨_, rfl, .inr ⟨hr4, hr5, hn3, hn5, HN.out⟩⟩, hb⟩

theorem laws_toSpring (a b : Int) (x y : Nat) (w : World) :
    Calls Try.prog 147 #[sv a b x y] w fun en w' => en = .returned (sv a b x y) ∧ Below w.heap.size w w' := by
  have u := Try.underlying31
  have ui := Try.underlying2
  have ul := Try.underlying176
  have uv := Try.underlying171
  go_enter Try.func147, Try.ntmps147
  go_wp2
  refine bodyPost_ret (v := sv a b x y) (by simp [results, Try.results147, go_sem]) rfl ⟨rfl, ?_⟩
  exact (((Below.refl _ _).alloc (Nat.le_refl _) _).alloc (by simp) _).alloc (by simp; omega) _
theorem laws_eqSpring (a b : Int) (x y x' y' : Nat) (w : World) (c d : Option Nat) (h1 : FV .f32 x c) (h2 : FV .f32 y d) (h1' : FV .f32 x' c) (h2' : FV .f32 y' d) :
    Calls Try.prog 145 #[sv a b x y, sv a b x' y'] w fun en w' => en = .returned (.bool true) ∧ Below w.heap.size w w' := by
  have u := Try.underlying31
  have u' := Try.underlying80
  have ui := Try.underlying2
  have uv := Try.underlying171
  go_enter Try.func145, Try.ntmps145
  go_wp2_with (go_at_call 52; refine (laws_sameFloat _ _ _ _ (FV_wR (by assumption)) (FV_wR (by assumption))).mono ?_; rintro en w' ⟨rfl, n1, rfl⟩)
  go_ret
  exact ⟨rfl, below_drewN (((Below.refl _ _).alloc (Nat.le_refl _) _).alloc (by simp) _) _⟩
theorem infoSp : (Try.prog.info? 171).map (fun i => (i.zero, i.size, i.bytes)) = some (some (.agg #[.int .i64 0, .int .i64 0, .float .f32 0, .float .f32 0]), 4, 24) := by kernel_rfl
theorem set4k {w : World} {n o : Nat} {u v t s u0 v0 t0 s0 : Value} (h0 : w.cell? ⟨n, o, none⟩ = some u0) (h1 : w.cell? ⟨n, o + 1, none⟩ = some v0) (h2 : w.cell? ⟨n, o + 2, none⟩ = some t0) (h3 : w.cell? ⟨n, o + 3, none⟩ = some s0) :
    ((((w.setCell ⟨n, o, none⟩ u).setCell ⟨n, o + 1, none⟩ v).setCell ⟨n, o + 2, none⟩ t).setCell ⟨n, o + 3, none⟩ s).cell? ⟨n, o, none⟩ = some u ∧ ((((w.setCell ⟨n, o, none⟩ u).setCell ⟨n, o + 1, none⟩ v).setCell ⟨n, o + 2, none⟩ t).setCell ⟨n, o + 3, none⟩ s).cell? ⟨n, o + 1, none⟩ = some v ∧
    ((((w.setCell ⟨n, o, none⟩ u).setCell ⟨n, o + 1, none⟩ v).setCell ⟨n, o + 2, none⟩ t).setCell ⟨n, o + 3, none⟩ s).cell? ⟨n, o + 2, none⟩ = some t ∧ ((((w.setCell ⟨n, o, none⟩ u).setCell ⟨n, o + 1, none⟩ v).setCell ⟨n, o + 2, none⟩ t).setCell ⟨n, o + 3, none⟩ s).cell? ⟨n, o + 3, none⟩ = some s ∧
    ∀ j, j ≠ o → j ≠ o + 1 → j ≠ o + 2 → j ≠ o + 3 → ((((w.setCell ⟨n, o, none⟩ u).setCell ⟨n, o + 1, none⟩ v).setCell ⟨n, o + 2, none⟩ t).setCell ⟨n, o + 3, none⟩ s).cell? ⟨n, j, none⟩ = w.cell? ⟨n, j, none⟩ := by
  obtain ⟨e0, e1, e2, eo⟩ := set3k (u := u) (v := v) (t := t) h0 h1 h2
  have e3 := (eo (o + 3) (by omega) (by omega) (by omega)).trans h3
  refine ⟨?_, ?_, ?_, World.cell?_setCell_same _ _ _ e3, fun j j0 j1 j2 j3 => ?_⟩
  · rw [World.cell?_setCell_other _ _ _ _ (by simp)]; exact e0
  · rw [World.cell?_setCell_other _ _ _ _ (by simp)]; exact e1
  · rw [World.cell?_setCell_other _ _ _ _ (by simp)]; exact e2
  · rw [World.cell?_setCell_other _ _ _ _ (by simp <;> omega)]; exact eo j j0 j1 j2
set_option maxHeartbeats 400000 in
theorem laws_toSpringSO (a : Option Addr) (len cap : Nat) (ss : List SC) (w : World) (h : IsSs w a len cap ss) (hlen : len ≤ 1048576) :
    Calls Try.prog 84 #[.slice a len cap] w fun e w' => e = .returned (.slice (some ⟨w.heap.size, 0, none⟩) len len) ∧ IsSs w' (some ⟨w.heap.size, 0, none⟩) len len ss ∧ Below w.heap.size w w' ∧ w.heap.size < w'.heap.size ∧ ∀ i, w'.frozen? ⟨w.heap.size, i, none⟩ = false := by
  have uv := Try.underlying171
  have ul := Try.underlying176
  have u := Try.underlying31
  have ui := Try.underlying2
  obtain ⟨i0, hi, hz0, hz1, hz2⟩ := info_parts infoSp
  have hzl := h.1
  have hwf := h.2.2.2.1
  obtain ⟨g, hg⟩ : ∃ g, g = w.heap.size := ⟨_, rfl⟩
  have hmk : (Instr.makeSlice 30 (.int .i64 len) (.int .i64 len)).run Try.prog w = .ok (.slice (some ⟨g, 0, none⟩) len len) (w.alloc (.cells (madeCells #[.int .i64 0, .int .i64 0, .float .f32 0, .float .f32 0] (len * 4)) 171)) := by
    have := run_make (P := Try.prog) w 30 171 i0 (.agg #[.int .i64 0, .int .i64 0, .float .f32 0, .float .f32 0]) Try.underlying30 hi hz0 .i64 .i64 len len (by omega) (Int.le_refl _) (by rw [hz2]; omega) (by omega)
    rw [this, hz1, hg]; simp; rfl
  have hstart : Below w.heap.size w (w.alloc (.cells (madeCells #[.int .i64 0, .int .i64 0, .float .f32 0, .float .f32 0] (len * 4)) 171)) ∧ g < (w.alloc (.cells (madeCells #[.int .i64 0, .int .i64 0, .float .f32 0, .float .f32 0] (len * 4)) 171)).heap.size ∧
      (∀ j, j < len * 4 → ∃ v, (w.alloc (.cells (madeCells #[.int .i64 0, .int .i64 0, .float .f32 0, .float .f32 0] (len * 4)) 171)).cell? ⟨g, j, none⟩ = some v) ∧ (∀ j, (w.alloc (.cells (madeCells #[.int .i64 0, .int .i64 0, .float .f32 0, .float .f32 0] (len * 4)) 171)).frozen? ⟨g, j, none⟩ = false) := by
    subst hg
    exact ⟨(Below.refl _ _).alloc (Nat.le_refl _) _, by simp, fun j hj => made_cell3 w _ (len * 4) j _ hj, fun j => by simp⟩
  rw [← hg] at hstart ⊢
  have HST := Lib.hid hstart
  have HG := Lib.hid hg
  have HWF := Lib.hid hwf
  clear hstart hg hwf
  go_enter Try.func84, Try.ntmps84
  go_wp2
  generalize hw0 : w.alloc (.cells (madeCells #[.int .i64 0, .int .i64 0, .float .f32 0, .float .f32 0] (len * 4)) 171) = w0 at HST ⊢
  go_loopw [4] (fun i w' => ∃ k : Nat, k ≤ len ∧ i = .int .i64 k ∧ Aside ((Below g w w' ∧ g < w'.heap.size ∧ (∀ j, j < len * 4 → ∃ v, w'.cell? ⟨g, j, none⟩ = some v) ∧ (∀ j, w'.frozen? ⟨g, j, none⟩ = false)) ∧
      ∀ j, j < k → ∃ p q, w'.cell? ⟨g, j * 4, none⟩ = some (.int .i64 (ss.getD j s0).1) ∧ w'.cell? ⟨g, j * 4 + 1, none⟩ = some (.int .i64 (ss.getD j s0).2.1) ∧ w'.cell? ⟨g, j * 4 + 2, none⟩ = some (.float .f32 p) ∧ w'.cell? ⟨g, j * 4 + 3, none⟩ = some (.float .f32 q) ∧ FV .f32 p (ss.getD j s0).2.2.1 ∧ FV .f32 q (ss.getD j s0).2.2.2)) (fun i _ => len - (intOf i).toNat)
  case atStart => exact ⟨0, Nat.zero_le _, rfl, HST.out, fun j hj => absurd hj (by omega)⟩
  case round =>
    obtain ⟨k, hk, rfl, hA⟩ := hrel
    by_cases hlt : k < len
    · obtain ⟨⟨hB, hgs, hce, hfz⟩, hdone⟩ := hA.out
      have h' := h.below (HG.out ▸ hB)
      obtain ⟨b, o, rfl, hcell⟩ := h'.some (by omega)
      obtain ⟨p, q, hp0, hp1, hp, hq, fp, fq⟩ := hcell k hlt
      obtain ⟨ua, hua⟩ : ∃ ua, ua = (ss.getD k s0).1 := ⟨_, rfl⟩
      obtain ⟨ub, hub⟩ : ∃ ub, ub = (ss.getD k s0).2.1 := ⟨_, rfl⟩
      rw [← hua] at hp0
      rw [← hub] at hp1
      have HU := Lib.hid (And.intro hua hub)
      have HFP := Lib.hid (And.intro fp fq)
      clear hua hub fp fq
      have hk0 : (0 : Int) ≤ (k : Int) := by omega
      have hk1 : (k : Int) < (len : Int) := by omega
      have hf0 := hfz (k * 4)
      have hf1 := hfz (k * 4 + 1)
      have hf2 := hfz (k * 4 + 2)
      have hf3 := hfz (k * 4 + 3)
      obtain ⟨v0, hv0⟩ := hce (k * 4) (by omega)
      obtain ⟨v1, hv1⟩ := hce (k * 4 + 1) (by omega)
      obtain ⟨v2, hv2⟩ := hce (k * 4 + 2) (by omega)
      obtain ⟨v3, hv3⟩ := hce (k * 4 + 3) (by omega)
      have HD := Lib.hid hdone
      have HC := Lib.hid hce
      have HF := Lib.hid hfz
      have HB := Lib.hid hB
      clear hA hcell h' hdone hce hfz hB h
      go_wp2_with fail
      refine (laws_toSpring _ _ _ _ _).mono ?_
      rintro e w1 ⟨rfl, hB1⟩
      have hv0' : w1.cell? ⟨g, k * 4, none⟩ = some v0 := by rw [hB1.cell (p := ⟨g, k * 4, none⟩) hgs]; exact hv0
      have hv1' : w1.cell? ⟨g, k * 4 + 1, none⟩ = some v1 := by rw [hB1.cell (p := ⟨g, k * 4 + 1, none⟩) hgs]; exact hv1
      have hv2' : w1.cell? ⟨g, k * 4 + 2, none⟩ = some v2 := by rw [hB1.cell (p := ⟨g, k * 4 + 2, none⟩) hgs]; exact hv2
      have hv3' : w1.cell? ⟨g, k * 4 + 3, none⟩ = some v3 := by rw [hB1.cell (p := ⟨g, k * 4 + 3, none⟩) hgs]; exact hv3
      have hf0' : w1.frozen? ⟨g, k * 4, none⟩ = false := by rw [hB1.frozen (p := ⟨g, k * 4, none⟩) hgs]; exact hf0
      have hf1' : w1.frozen? ⟨g, k * 4 + 1, none⟩ = false := by rw [hB1.frozen (p := ⟨g, k * 4 + 1, none⟩) hgs]; exact hf1
      have hf2' : w1.frozen? ⟨g, k * 4 + 2, none⟩ = false := by rw [hB1.frozen (p := ⟨g, k * 4 + 2, none⟩) hgs]; exact hf2
      have hf3' : w1.frozen? ⟨g, k * 4 + 3, none⟩ = false := by rw [hB1.frozen (p := ⟨g, k * 4 + 3, none⟩) hgs]; exact hf3
      have HB1 := Lib.hid hB1
      clear hB1
      go_wp2
      go_roundw
      case rel =>
        have hB1 := HB1.out
        obtain ⟨e0, e1, e2, e3, eo⟩ := set4k (u := .int .i64 ua) (v := .int .i64 ub) (t := .float .f32 p) (s := .float .f32 q) hv0' hv1' hv2' hv3'
        refine ⟨k + 1, by omega, by go_num, ⟨⟨((((HB.out.trans (hB1.mono (by omega))).setCell (Nat.le_refl _) _).setCell (Nat.le_refl _) _).setCell (Nat.le_refl _) _).setCell (Nat.le_refl _) _, by simp <;> (have := hB1.size; omega), fun j hj => ?_, fun j => ?_⟩, fun j hj => ?_⟩⟩
        · by_cases h0 : j = k * 4
          · subst h0; exact ⟨_, e0⟩
          · by_cases h1 : j = k * 4 + 1
            · subst h1; exact ⟨_, e1⟩
            · by_cases h2 : j = k * 4 + 2
              · subst h2; exact ⟨_, e2⟩
              · by_cases h3 : j = k * 4 + 3
                · subst h3; exact ⟨_, e3⟩
                · obtain ⟨v, hv⟩ := HC.out j hj
                  exact ⟨v, by rw [eo j h0 h1 h2 h3, hB1.cell (p := ⟨g, j, none⟩) hgs]; exact hv⟩
        · simp; rw [hB1.frozen (p := ⟨g, j, none⟩) hgs]; exact HF.out j
        · by_cases hjk : j = k
          · subst hjk; rw [← HU.out.1, ← HU.out.2]; exact ⟨p, q, e0, e1, e2, e3, HFP.out.1, HFP.out.2⟩
          · obtain ⟨p', q', k0, k1, k2, k3, hv⟩ := HD.out j (by omega)
            exact ⟨p', q', by rw [eo _ (by omega) (by omega) (by omega) (by omega), hB1.cell (p := ⟨g, j * 4, none⟩) hgs]; exact k0, by rw [eo _ (by omega) (by omega) (by omega) (by omega), hB1.cell (p := ⟨g, j * 4 + 1, none⟩) hgs]; exact k1,
              by rw [eo _ (by omega) (by omega) (by omega) (by omega), hB1.cell (p := ⟨g, j * 4 + 2, none⟩) hgs]; exact k2, by rw [eo _ (by omega) (by omega) (by omega) (by omega), hB1.cell (p := ⟨g, j * 4 + 3, none⟩) hgs]; exact k3, hv⟩
      case measure => simp [intOf]; omega
    · obtain rfl : k = len := by omega
      obtain ⟨⟨hB, hgs, hce, hfz⟩, hdone⟩ := hA.out
      have hfin : IsSs wr (some ⟨g, 0, none⟩) k k ss := by
        refine ⟨hzl, Nat.le_refl _, by unfold maxLen; omega, HWF.out, by simp, fun x hx i hi => ?_⟩
        cases hx
        obtain ⟨p, q, k0, k1, k2, k3, hv⟩ := hdone i hi
        exact ⟨p, q, by rw [addr_add', Nat.zero_add]; exact k0, by rw [addr_add', Nat.zero_add]; exact k1, by rw [addr_add', Nat.zero_add]; exact k2, by rw [addr_add', Nat.zero_add]; exact k3, hv⟩
      have HF := Lib.hid hfin
      have HB := Lib.hid hB
      have HFZ := Lib.hid hfz
      clear hA hB hce hfz hdone hfin h
      go_wp2
      go_ret
      exact ⟨rfl, HF.out, HB.out, hgs, HFZ.out⟩
theorem laws_toSpringS (a : Option Addr) (len cap : Nat) (ss : List SC) (w : World) (h : IsSs w a len cap ss) (hlen : len ≤ 1048576) :
    Calls Try.prog 84 #[.slice a len cap] w fun e w' => e = .returned (.slice (some ⟨w.heap.size, 0, none⟩) len len) ∧ IsSs w' (some ⟨w.heap.size, 0, none⟩) len len ss ∧ Below w.heap.size w w' ∧ w.heap.size < w'.heap.size :=
  (laws_toSpringSO a len cap ss w h hlen).mono fun _ _ h => ⟨h.1, h.2.1, h.2.2.1, h.2.2.2.1⟩
theorem _root_.Go.Proofs.Ytmbekamnogbgaaa.Fk.IsSs.set {w : World} {a : Addr} {v : Value} {b len cap : Nat} {o : Nat} {ss : List SC} (h : IsSs w (some ⟨b, o, none⟩) len cap ss) (hne : a.block ≠ b) : IsSs (w.setCell a v) (some ⟨b, o, none⟩) len cap ss := by
  obtain ⟨h1, h2, h3, h4, h5, h6⟩ := h
  have ne : ∀ j, a ≠ ⟨b, j, none⟩ := fun j h => hne (by rw [h])
  refine ⟨h1, h2, h3, h4, h5, fun x hx i hi => ?_⟩
  obtain ⟨p, q, k0, k1, k2, k3, hv⟩ := h6 x hx i hi
  cases hx
  rw [addr_add'] at k0 k1 k2 k3
  refine ⟨p, q, ?_, ?_, ?_, ?_, hv⟩
  · rw [addr_add', World.cell?_setCell_other _ _ _ _ (ne _)]; exact k0
  · rw [addr_add', World.cell?_setCell_other _ _ _ _ (ne _)]; exact k1
  · rw [addr_add', World.cell?_setCell_other _ _ _ _ (ne _)]; exact k2
  · rw [addr_add', World.cell?_setCell_other _ _ _ _ (ne _)]; exact k3
set_option maxHeartbeats 1000000 in
theorem laws_eqSpringS (a b : Option Addr) (len cap cap' : Nat) (ss : List SC) (w : World) (ha : IsSs w a len cap ss) (hb : IsSs w b len cap' ss) :
    Calls Try.prog 76 #[.slice a len cap, .slice b len cap'] w fun e w' => e = .returned (.bool true) ∧ Below w.heap.size w w' := by
  have hm : len ≤ 9223372036854775807 := by have h1 := ha.2.1; have h2 := ha.2.2.1; unfold maxLen at h2; omega
  have uv := Try.underlying171
  have hzl := ha.1
  go_enter Try.func76, Try.ntmps76
  go_wp2
  go_loopw [5] (fun i w' => ∃ k : Nat, k ≤ len ∧ i = .int .i64 k ∧ Below w.heap.size w w') (fun i _ => len - (intOf i).toNat)
  case atStart => exact ⟨0, Nat.zero_le _, rfl, Below.refl _ _⟩
  case round =>
    obtain ⟨k, hk, rfl, hB⟩ := hrel
    by_cases hlt : k < len
    · obtain ⟨b1, o1, rfl, hcell1⟩ := (ha.below hB).some (by omega)
      obtain ⟨b2, o2, rfl, hcell2⟩ := (hb.below hB).some (by omega)
      obtain ⟨p1, q1, c11, c12, c13, c14, f11, f12⟩ := hcell1 k hlt
      obtain ⟨p2, q2, c21, c22, c23, c24, f21, f22⟩ := hcell2 k hlt
      generalize ss.getD k s0 = z at *
      have HB := Lib.hid hB
      clear hcell1 hcell2 hzl ha hb hB
      have hk0 : (0 : Int) ≤ (k : Int) := by omega
      have hk1 : (k : Int) < (len : Int) := by omega
      go_wp2_with fail
      refine Reg.wp_region_mix (C := fun w' => (w'.cell? ⟨b1, o1 + k * 4, none⟩ = some (.int .i64 z.1) ∧ w'.cell? ⟨b1, o1 + k * 4 + 1, none⟩ = some (.int .i64 z.2.1) ∧ w'.cell? ⟨b1, o1 + k * 4 + 2, none⟩ = some (.float .f32 p1) ∧ w'.cell? ⟨b1, o1 + k * 4 + 3, none⟩ = some (.float .f32 q1) ∧ w'.cell? ⟨b2, o2 + k * 4, none⟩ = some (.int .i64 z.1) ∧ w'.cell? ⟨b2, o2 + k * 4 + 1, none⟩ = some (.int .i64 z.2.1) ∧ w'.cell? ⟨b2, o2 + k * 4 + 2, none⟩ = some (.float .f32 p2) ∧ w'.cell? ⟨b2, o2 + k * 4 + 3, none⟩ = some (.float .f32 q2)) ∧ Below wr.heap.size wr w') (G := fun _ _ => True) (R := fun i v _ => match i with | 0 => v = .slice (some ⟨b1, o1, none⟩) len cap | 1 => v = .int .i64 k | 2 => v = .pointer (some ⟨b1, o1 + k * 4, none⟩) | 3 => v = sv z.1 z.2.1 p1 q1 | 4 => v = .slice (some ⟨b2, o2, none⟩) len cap' | 5 => v = .int .i64 k | 6 => v = .pointer (some ⟨b2, o2 + k * 4, none⟩) | 7 => v = sv z.1 z.2.1 p2 q2 | 8 => v = .bool true | 9 => v = .bool false | _ => True) (T := fun _ _ _ => True) [false, false, false, false, false, false, false, false, false, false, false, false, false, false, false, false, false, true, true, true, true, true, true, true, true, true, true]
        (by kernel_rfl) (by kernel_rfl) (by kernel_rfl) (fun _ _ _ _ _ _ h => h) ⟨⟨c11, c12, c13, c14, c21, c22, c23, c24⟩, below_drewN (Below.refl _ _) 1⟩ ?_ ?_
      · refine ⟨Reg.Obl.mk ?_, Reg.Obl.mk ?_, Reg.Obl.mk ?_, Reg.Obl.mk ?_, Reg.Obl.mk ?_, Reg.Obl.mk ?_, Reg.Obl.mk ?_, Reg.Obl.mk ?_, Reg.Obl.mk ?_, Reg.Obl.mk ?_, trivial⟩
        · rintro a w1 ⟨⟨d11, d12, d13, d14, d21, d22, d23, d24⟩, hB⟩ hx hd K hK
          have t0 : a.tmps[0]?.getD undef = .slice (some ⟨b1, o1, none⟩) len cap := Reg.slot_val (hx 0 (by kernel_rfl))
          go_simp
          exact hK _ _ (fun _ => rfl) (fun h => by cases h) ⟨⟨d11, d12, d13, d14, d21, d22, d23, d24⟩, hB⟩ trivial
        · rintro a w1 ⟨⟨d11, d12, d13, d14, d21, d22, d23, d24⟩, hB⟩ hx hd K hK
          have t5 : a.tmps[5]?.getD undef = .int .i64 k := Reg.slot_val (hx 5 (by kernel_rfl))
          go_simp
          exact hK _ _ (fun _ => rfl) (fun h => by cases h) ⟨⟨d11, d12, d13, d14, d21, d22, d23, d24⟩, hB⟩ trivial
        · rintro a w1 ⟨⟨d11, d12, d13, d14, d21, d22, d23, d24⟩, hB⟩ hx hd K hK
          have t17 : a.tmps[17]?.getD undef = .slice (some ⟨b1, o1, none⟩) len cap := Reg.slot_val (hd 0 (by kernel_rfl) 17 rfl)
          have t18 : a.tmps[18]?.getD undef = .int .i64 k := Reg.slot_val (hd 1 (by kernel_rfl) 18 rfl)
          go_simp
          exact hK _ _ (fun _ => rfl) (fun h => by cases h) ⟨⟨d11, d12, d13, d14, d21, d22, d23, d24⟩, hB⟩ trivial
        · rintro a w1 ⟨⟨d11, d12, d13, d14, d21, d22, d23, d24⟩, hB⟩ hx hd K hK
          have t19 : a.tmps[19]?.getD undef = .pointer (some ⟨b1, o1 + k * 4, none⟩) := Reg.slot_val (hd 2 (by kernel_rfl) 19 rfl)
          go_simp
          exact hK _ _ (fun _ => rfl) (fun h => by cases h) ⟨⟨d11, d12, d13, d14, d21, d22, d23, d24⟩, hB⟩ trivial
        · rintro a w1 ⟨⟨d11, d12, d13, d14, d21, d22, d23, d24⟩, hB⟩ hx hd K hK
          have t1 : a.tmps[1]?.getD undef = .slice (some ⟨b2, o2, none⟩) len cap' := Reg.slot_val (hx 1 (by kernel_rfl))
          go_simp
          exact hK _ _ (fun _ => rfl) (fun h => by cases h) ⟨⟨d11, d12, d13, d14, d21, d22, d23, d24⟩, hB⟩ trivial
        · rintro a w1 ⟨⟨d11, d12, d13, d14, d21, d22, d23, d24⟩, hB⟩ hx hd K hK
          have t5 : a.tmps[5]?.getD undef = .int .i64 k := Reg.slot_val (hx 5 (by kernel_rfl))
          go_simp
          exact hK _ _ (fun _ => rfl) (fun h => by cases h) ⟨⟨d11, d12, d13, d14, d21, d22, d23, d24⟩, hB⟩ trivial
        · rintro a w1 ⟨⟨d11, d12, d13, d14, d21, d22, d23, d24⟩, hB⟩ hx hd K hK
          have t21 : a.tmps[21]?.getD undef = .slice (some ⟨b2, o2, none⟩) len cap' := Reg.slot_val (hd 4 (by kernel_rfl) 21 rfl)
          have t22 : a.tmps[22]?.getD undef = .int .i64 k := Reg.slot_val (hd 5 (by kernel_rfl) 22 rfl)
          go_simp
          exact hK _ _ (fun _ => rfl) (fun h => by cases h) ⟨⟨d11, d12, d13, d14, d21, d22, d23, d24⟩, hB⟩ trivial
        · rintro a w1 ⟨⟨d11, d12, d13, d14, d21, d22, d23, d24⟩, hB⟩ hx hd K hK
          have t23 : a.tmps[23]?.getD undef = .pointer (some ⟨b2, o2 + k * 4, none⟩) := Reg.slot_val (hd 6 (by kernel_rfl) 23 rfl)
          go_simp
          exact hK _ _ (fun _ => rfl) (fun h => by cases h) ⟨⟨d11, d12, d13, d14, d21, d22, d23, d24⟩, hB⟩ trivial
        · rintro a w1 ⟨⟨d11, d12, d13, d14, d21, d22, d23, d24⟩, hB⟩ hx hd K hK
          have t20 : a.tmps[20]?.getD undef = sv z.1 z.2.1 p1 q1 := Reg.slot_val (hd 3 (by kernel_rfl) 20 rfl)
          have t24 : a.tmps[24]?.getD undef = sv z.1 z.2.1 p2 q2 := Reg.slot_val (hd 7 (by kernel_rfl) 24 rfl)
          go_simp
          refine (laws_eqSpring _ _ _ _ _ _ _ _ _ f11 f12 f21 f22).mono ?_
          rintro en w2 ⟨rfl, hB2⟩
          exact hK _ _ (fun _ => rfl) (fun h => by cases h) ⟨⟨cell_below hB2 d11, cell_below hB2 d12, cell_below hB2 d13, cell_below hB2 d14, cell_below hB2 d21, cell_below hB2 d22, cell_below hB2 d23, cell_below hB2 d24⟩, hB.trans (hB2.mono hB.size)⟩ trivial
        · rintro a w1 ⟨⟨d11, d12, d13, d14, d21, d22, d23, d24⟩, hB⟩ hx hd K hK
          have t25 : a.tmps[25]?.getD undef = .bool true := Reg.slot_val (hd 8 (by kernel_rfl) 25 rfl)
          go_simp
          exact hK _ _ (fun _ => rfl) (fun h => by cases h) ⟨⟨d11, d12, d13, d14, d21, d22, d23, d24⟩, hB⟩ trivial
      · rintro f w1 ⟨_, hB⟩ hd hT
        have g26 : f 26 = .bool false := hd 9 26 rfl
        simp only [Reg.mixL, g26]
        have HB1 := Lib.hid hB
        clear hB
        go_wp2
        go_roundw
        case rel => exact ⟨k + 1, by omega, by go_num, HB.out.trans (HB1.out.mono HB.out.size)⟩
        case measure => simp [intOf]; omega
    · have HB := Lib.hid hB
      clear hB
      go_wp2
      go_ret
      exact ⟨rfl, HB.out⟩
end Go.Proofs.Ytmbekamnogbgaaa

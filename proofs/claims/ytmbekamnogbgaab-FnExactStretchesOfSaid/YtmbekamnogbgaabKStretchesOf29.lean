/-
Texts in one: what StretchesOf stands on, part 29. Conditions: those of each.
-/
import Derived.Test.YtmbekamnogbgaabKStretchesOf28
import Derived.Lib.SmallJoins

/-
A mesh that comes in as an argument. Conditions: none.
-/
namespace Go.Proofs.Ytmbekamnogbgaab
namespace Fk
open Go Go.RowKit
set_option linter.unusedVariables false
section
open Go.ChangeShapes Go.WideShapes Go.Deep
variable {H : Type} {enc : TypeId × Value → H} {P : Program} {w : World} {base : Nat} {held : Bool}
/-- A mesh that came in. -/
theorem open_mesh {r : Reach} {b0 : Nat} {t : TypeId} {g0 g1 : Field} {ev eq : TypeId} {f0 f1 f2 : Field} {er : TypeId} {v : Value} {d : DataW H} {p : List MemPlace} (hs : P.underlying t = some (.struct #[g0, g1])) (hone : oneCellFields P #[g0, g1] = true) (hC : P.cellsOf t = 2)
    (hp : P.underlying g0.type = some (.slice ev)) (hev : P.underlying ev = some (.struct #[f0, f1, f2])) (honev : oneCellFields P #[f0, f1, f2] = true) (hCv : P.cellsOf ev = 3)
    (he0 : P.underlying f0.type = some (.float .f32)) (he1 : P.underlying f1.type = some (.float .f32)) (he2 : P.underlying f2.type = some (.float .f32))
    (ht : P.underlying g1.type = some (.slice er)) (her : P.underlying er = some (.slice eq)) (heq : P.underlying eq = some (.int .i64)) (ce : P.cellsOf er = 1) (cq : P.cellsOf eq = 1)
    (hv : Value.okWide P w r b0 t v) (h : DataW.Trod enc P w base (fun _ => true) held t v d p) :
    ∃ pa ta pl pc tl tc cs ts, v = .agg #[.slice pa pl pc, .slice ta tl tc] ∧ IsVs w pa pl pc cs ∧ IsTs w ta tl tc ts := by
  obtain ⟨v0, v1, y0, y1, n, rfl, _, _, h0, h1⟩ := Joins.open_agg2 hs hone hC hv h
  obtain ⟨pa, pl, pc, cs, e0, w0⟩ := trod_vecs hp hev honev hCv he0 he1 he2 h0
  obtain ⟨ta, tl, tc, ts, e1, w1⟩ := trod_rows ht her heq ce cq h1
  cases e0; cases e1
  exact ⟨pa, ta, pl, pc, tl, tc, cs, ts, rfl, w0, w1⟩
end
end Fk
end Go.Proofs.Ytmbekamnogbgaab


/-
The law of bare bodies returns true: its walk. Conditions: none beyond that the mesh lies in memory.
-/
namespace Go.Proofs.Ytmbekamnogbgaab
open Go Fk Go.RowKit
set_option linter.unusedVariables false
set_option maxRecDepth 16000

/-- Boxes outside what is marked stay. -/
theorem Bx.away {w w1 w2 : World} {L : List (Nat × List Value)} {lo hi : Nat} (h : Bx w L w1) (hM : Mark lo hi w1 w2) (hl : w.heap.size ≤ lo) (ho : ∀ b l, (b, l) ∈ L → b < lo ∨ hi ≤ b) : Bx w L w2 :=
  ⟨h.1.trans (hM.below.mono hl), fun b l hm => ⟨fun i v hv => hM.cell (ho b l hm) ((h.2 b l hm).1 i v hv), fun i => by rw [hM.frozen _ _ (h.2 b l hm).2.2.1]; exact (h.2 b l hm).2.1 i, Nat.lt_of_lt_of_le (h.2 b l hm).2.2.1 hM.below.size, (h.2 b l hm).2.2.2⟩⟩
theorem Bx.lt {w w' : World} {L : List (Nat × List Value)} {b : Nat} {l : List Value} (h : Bx w L w') (hm : (b, l) ∈ L) : b < w'.heap.size := (h.2 b l hm).2.2.1
end Go.Proofs.Ytmbekamnogbgaab


/-
Marks in a body and in a list of vectors that follow. Conditions: the lists may be written.
-/
namespace Go.Proofs.Ytmbekamnogbgaab
open Go Fk Go.RowKit
set_option linter.unusedVariables false
set_option maxRecDepth 8000

set_option maxHeartbeats 1000000 in
theorem laws_markBodyZ (lo hi : Nat) (B : Bd) (c : Bc) (w : World) (h : OwnB lo hi w B c.ts) (hI : IsB w B c) (hs : SmallB c) (hlo : lo ≤ w.heap.size) (hhi : hi ≤ w.heap.size) :
    Calls Try.prog 42 #[B.v, .int .i64 1] w fun e w' => ∃ z : Nat, z ≤ 3000000000000000000 ∧ e = .returned (.int .i64 z) ∧ Mark lo hi w w' := by
  have ui := Try.underlying64
  have uim := Try.underlying32
  have A0 : Hid (At (w.alloc (BoxB B 64)) w.heap.size B.l) := Lib.hid At.new
  have B0 : Hid (Below w.heap.size w (w.alloc (BoxB B 64))) := Lib.hid ((Below.refl _ _).alloc (Nat.le_refl _) _)
  have M0 : Hid (Mark lo hi w (w.alloc (BoxB B 64))) := Lib.hid (Mark.alloc hlo _)
  have hz : lo ≤ (w.alloc (BoxB B 64)).heap.size := by simp; omega
  have ln := hI.lens
  have h1 : B.pl ≤ 1048576 := by rw [← ln.1]; exact hs.1.1
  have h2 : B.tl ≤ 1048576 := by rw [← ln.2.1]; exact hs.1.2.1
  have h3 : ∀ j, j < B.tl → (c.ts.getD j []).length ≤ 1048576 := fun j hj => hs.1.2.2 j (by rw [ln.2.1]; exact hj)
  have h4 : B.sl ≤ 1048576 := by rw [← ln.2.2.1]; exact hs.2.1
  have h5 : B.wl ≤ 1048576 := by rw [← ln.2.2.2]; exact hs.2.2
  obtain ⟨P, R, T, G, e1, e2, e3, e4, m, r, s, g⟩ := h.below B0.out
  have J := Lib.hid (laws_markMeshB lo hi P 0 R 0 B.pl B.pc B.tl B.tc c.ts 1 _ m hz h1 h2 h3 (by decide))
  have SG := Lib.hid (And.intro s g)
  have HHI := Lib.hid hhi
  clear hI hs m s g h h3
  rw [← e1, ← e2] at J
  have ES := Lib.hid (And.intro e3 e4)
  clear e1 e2 e3 e4 r
  go_enter Try.func42, Try.ntmps42
  go_wp2_with fail
  change Calls _ _ _ (w.alloc (BoxB B 64)) _
  generalize (w.alloc (BoxB B 64)) = W at *
  refine J.out.mono ?_
  rintro e w1 ⟨z, hzb, rfl, hM1⟩
  have k2 := hM1.cell (.inr HHI.out) (A0.out 2 _ rfl)
  have k5 := hM1.cell (.inr HHI.out) (A0.out 5 _ rfl)
  have X1 := Lib.hid (M0.out.trans hM1)
  have J2 := Lib.hid (laws_markSpringS lo hi T 0 B.sl B.sc z w1 (SG.out.1.mark hM1) (by omega))
  rw [← ES.out.1] at J2
  have L2 := Lib.hid (SG.out.2.mark hM1)
  clear hM1
  go_wp2_with fail
  refine J2.out.mono ?_
  rintro e w2 ⟨rfl, _, _, hM2⟩
  have k5' := hM2.cell (.inr HHI.out) k5
  have X2 := Lib.hid (X1.out.trans hM2)
  have J3 := Lib.hid (laws_markFloat32S lo hi G 0 B.wl B.wc (z + B.sl * 4) w2 (L2.out.mark hM2) (by omega))
  rw [← ES.out.2] at J3
  clear hM2 k2 k5
  obtain ⟨y, hy⟩ : ∃ y, y = z + B.sl * 4 := ⟨_, rfl⟩
  rw [← hy] at J3 ⊢
  have hyb : y + B.wl ≤ 3000000000000000000 := by omega
  clear hy
  go_wp2_with fail
  refine J3.out.mono ?_
  rintro e w3 ⟨rfl, _, _, hM3⟩
  have X3 := Lib.hid (X2.out.trans hM3)
  clear hM3
  go_wp2
  go_ret
  exact ⟨y + B.wl, hyb, by first | rfl | simp, X3.out⟩
theorem vec_own {lo hi Q n cap : Nat} {w : World} {ys : List C3} (h : IsVs w (some ⟨Q, 0, none⟩) n cap ys) (hf : ∀ i, w.frozen? ⟨Q, i, none⟩ = false) (h1 : lo ≤ Q) (h2 : Q < hi) (h3 : Q < w.heap.size) : Own lo hi w Q 0 (n * 3) := by
  refine ⟨h1, h2, h3, fun j hj => ⟨?_, hf _⟩⟩
  obtain ⟨p, q, r, k0, k1, k2, _⟩ := h.2.2.2.2 _ rfl (j / 3) (by omega)
  rw [addr_add', Nat.zero_add] at k0 k1 k2
  rw [Nat.zero_add]
  rcases (show j % 3 = 0 ∨ j % 3 = 1 ∨ j % 3 = 2 by omega) with e | e | e
  · rw [show j / 3 * 3 = j by omega] at k0; exact ⟨_, k0⟩
  · rw [show j / 3 * 3 + 1 = j by omega] at k1; exact ⟨_, k1⟩
  · rw [show j / 3 * 3 + 2 = j by omega] at k2; exact ⟨_, k2⟩
end Go.Proofs.Ytmbekamnogbgaab

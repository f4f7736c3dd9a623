/-
Texts in one: what HingesOf stands on, part 23. Conditions: those of each.
-/
import Derived.Test.YtockhhfehjoldabKHingesOf22

/-
Normals of triangles: what the program and its model return. Conditions: the mesh is valid and has the triangle.
-/
namespace Go.Proofs.Ytockhhfehjoldab
open Go Fk Go.RowKit
set_option linter.unusedVariables false
set_option maxRecDepth 8000

def lessC (a b : C3) : C3 := (fop .sub .f32 a.1 b.1, fop .sub .f32 a.2.1 b.2.1, fop .sub .f32 a.2.2 b.2.2)
def crossC (a b : C3) : C3 := (fop .sub .f32 (fop .mul .f32 a.2.1 b.2.2) (fop .mul .f32 a.2.2 b.2.1), fop .sub .f32 (fop .mul .f32 a.2.2 b.1) (fop .mul .f32 a.1 b.2.2), fop .sub .f32 (fop .mul .f32 a.1 b.2.1) (fop .mul .f32 a.2.1 b.1))
def cornerC (cs : List C3) (t : List Int) (i : Nat) : C3 := cs.getD (t.getD i 0).toNat c0
def normalC (cs : List C3) (t : List Int) : C3 := crossC (lessC (cornerC cs t 1) (cornerC cs t 0)) (lessC (cornerC cs t 2) (cornerC cs t 0))
theorem tri_parts {n : Nat} {t : List Int} (h : triB n t = true) : t.length = 3 ∧ (∀ i, i < 3 → 0 ≤ t.getD i 0 ∧ (t.getD i 0).toNat < n) := by
  unfold triB at h
  simp only [Bool.and_eq_true, decide_eq_true_eq] at h
  obtain ⟨⟨h3, ⟨h0, h1⟩, h2⟩, _⟩ := h
  refine ⟨h3, fun i hi => ?_⟩
  have a0 := of_decide_eq_true h0
  have a1 := of_decide_eq_true h1
  have a2 := of_decide_eq_true h2
  have : i = 0 ∨ i = 1 ∨ i = 2 := by omega
  rcases this with rfl | rfl | rfl <;> omega
theorem valid_row {cs : List C3} {ts : List (List Int)} {k : Nat} (h : validB cs ts = true) (hk : k < ts.length) : triB cs.length (ts.getD k []) = true := by
  unfold validB at h
  simp only [Bool.and_eq_true] at h
  have := List.all_eq_true.1 h.2 (ts[k]) (List.getElem_mem hk)
  simpa [List.getD, hk] using this
/-- A corner of a triangle of a valid mesh lies in memory. -/
theorem corner_cell {w : World} {pa : Option Addr} {pl pc : Nat} {cs : List C3} {t : List Int} (hp : IsVs w pa pl pc cs) (ht : triB pl t = true) : ∃ b o, pa = some ⟨b, o, none⟩ ∧ ∀ i, i < 3 → ∃ p q r, w.cell? ⟨b, o + (t.getD i 0).toNat * 3, none⟩ = some (.float .f32 p) ∧ w.cell? ⟨b, o + (t.getD i 0).toNat * 3 + 1, none⟩ = some (.float .f32 q) ∧ w.cell? ⟨b, o + (t.getD i 0).toNat * 3 + 2, none⟩ = some (.float .f32 r) ∧
    FV .f32 p (cornerC cs t i).1 ∧ FV .f32 q (cornerC cs t i).2.1 ∧ FV .f32 r (cornerC cs t i).2.2 := by
  obtain ⟨h3, hi⟩ := tri_parts ht
  obtain ⟨b, o, e, hc⟩ := hp.some (by have := (hi 0 (by decide)).2; omega)
  exact ⟨b, o, e, fun i hi' => hc _ (hi i hi').2⟩
/-- What one operation keeps that makes a box or fills one. -/
def Keep (B : Nat) (w1 w2 : World) : Prop := Below B w1 w2 ∧ w1.heap.size ≤ w2.heap.size ∧ (∀ n i, (∃ v, w1.cell? ⟨n, i, none⟩ = some v) → ∃ v, w2.cell? ⟨n, i, none⟩ = some v) ∧ (∀ n i, n < w1.heap.size → w2.frozen? ⟨n, i, none⟩ = w1.frozen? ⟨n, i, none⟩)
theorem Keep.refl (B : Nat) (w : World) : Keep B w w := ⟨Below.refl _ _, Nat.le_refl _, fun _ _ h => h, fun _ _ _ => rfl⟩
theorem Keep.alloc {B : Nat} {w : World} (hB : B ≤ w.heap.size) (o : Obj) : Keep B w (w.alloc o) :=
  ⟨(Below.refl _ _).alloc hB _, by simp, fun n i ⟨v, hv⟩ => ⟨v, cell_alloc hv⟩, fun n i hn => by
    have hb : Below w.heap.size w (w.alloc o) := (Below.refl _ _).alloc (Nat.le_refl _) _
    exact hb.frozen (p := ⟨n, i, none⟩) hn⟩
theorem Keep.set {B : Nat} {w : World} {n o : Nat} {u : Value} (hB : B ≤ n) : Keep B w (w.setCell ⟨n, o, none⟩ u) :=
  ⟨(Below.refl _ _).setCell hB _, by simp, fun m i ⟨v, hv⟩ => by
    by_cases h : (⟨n, o, none⟩ : Addr) = ⟨m, i, none⟩
    · rw [h]; exact ⟨u, World.cell?_setCell_same _ _ _ hv⟩
    · exact ⟨v, by rw [World.cell?_setCell_other _ _ _ _ h]; exact hv⟩, fun m i _ => by simp⟩
theorem Keep.trans {B : Nat} {w1 w2 w3 : World} (h : Keep B w1 w2) (h' : Keep B w2 w3) : Keep B w1 w3 :=
  ⟨h.1.trans h'.1, Nat.le_trans h.2.1 h'.2.1, fun n i hv => h'.2.2.1 n i (h.2.2.1 n i hv), fun n i hn => (h'.2.2.2 n i (Nat.lt_of_lt_of_le hn h.2.1)).trans (h.2.2.2 n i hn)⟩
/-- A box of three cells that can be written. -/
def Box (B n : Nat) (w : World) : Prop := B ≤ n ∧ n < w.heap.size ∧ (∃ u0 u1 u2, w.cell? ⟨n, 0, none⟩ = some u0 ∧ w.cell? ⟨n, 1, none⟩ = some u1 ∧ w.cell? ⟨n, 2, none⟩ = some u2) ∧ (w.frozen? ⟨n, 0, none⟩ = false ∧ w.frozen? ⟨n, 1, none⟩ = false ∧ w.frozen? ⟨n, 2, none⟩ = false)
theorem Box.keep {B n : Nat} {w1 w2 : World} (h : Box B n w1) (k : Keep B w1 w2) : Box B n w2 := by
  obtain ⟨h1, h2, ⟨u0, u1, u2, e0, e1, e2⟩, f0, f1, f2⟩ := h
  obtain ⟨k1, k2, k3, k4⟩ := k
  obtain ⟨v0, e0⟩ := k3 n 0 ⟨_, e0⟩
  obtain ⟨v1, e1⟩ := k3 n 1 ⟨_, e1⟩
  obtain ⟨v2, e2⟩ := k3 n 2 ⟨_, e2⟩
  exact ⟨h1, Nat.lt_of_lt_of_le h2 k2, ⟨v0, v1, v2, e0, e1, e2⟩, by rw [k4 n 0 h2]; exact f0, by rw [k4 n 1 h2]; exact f1, by rw [k4 n 2 h2]; exact f2⟩
end Go.Proofs.Ytockhhfehjoldab


/-
Normals of triangles: what the program returns. Conditions: the mesh is valid and has the triangle.
-/
namespace Go.Proofs.Ytockhhfehjoldab
open Go Fk Go.RowKit
set_option linter.unusedVariables false
set_option maxRecDepth 8000

end Go.Proofs.Ytockhhfehjoldab


/-
Normals: all arguments, of the program and of its model. Conditions: none beyond that the mesh lies in memory.
-/
namespace Go.Proofs.Ytockhhfehjoldab
open Go Fk Go.RowKit
set_option linter.unusedVariables false
set_option maxRecDepth 8000

end Go.Proofs.Ytockhhfehjoldab


/-
Normals: all arguments, of the model. Conditions: none beyond that the mesh lies in memory.
-/
namespace Go.Proofs.Ytockhhfehjoldab
open Go Fk Go.RowKit
set_option linter.unusedVariables false
set_option maxRecDepth 8000

theorem l02IsB (pb : Nat) (pa ta : Option Addr) (pl pc tl tc : Nat) (cs : List C3) (ts : List (List Int)) (w : World) (c0 : w.cell? ⟨pb, 0, none⟩ = some (.slice pa pl pc)) (c1 : w.cell? ⟨pb, 1, none⟩ = some (.slice ta tl tc)) (hp : IsVs w pa pl pc cs) (ht : IsTs w ta tl tc ts) :
    Calls Try.prog 65 #[.pointer (some ⟨pb, 0, none⟩)] w fun e w' => e = .returned (.bool (validB cs ts)) ∧ Below w.heap.size w w' :=
  (l02Is pb pa ta pl pc tl tc cs ts w c0 c1 hp ht).mono fun _ _ ⟨he, n, hw⟩ => ⟨he, by rw [hw]; exact below_drewN (Below.refl _ _) n⟩
end Go.Proofs.Ytockhhfehjoldab

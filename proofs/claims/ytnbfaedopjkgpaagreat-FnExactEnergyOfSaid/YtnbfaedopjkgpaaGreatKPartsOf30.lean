/-
Texts in one: what PartsOf stands on, part 30. Conditions: those of each.
-/
import Derived.Test.YtnbfaedopjkgpaaGreatKPartsOf29
import Derived.Maps.OwnSet

/-
The edges of a mesh: the program and the model. Conditions: none beyond that the mesh lies in memory.
-/
namespace Go.Proofs.YtnbfaedopjkgpaaGreat
open Go Fk Go.RowKit Go.Maps
set_option linter.unusedVariables false
set_option maxRecDepth 16000

/-- What is answered: the edges in ascending order, if the mesh is valid. -/
def edT (cs : List C3) (ts : List (List Int)) : List (List Int) := bif validB cs ts then edgesT cs.length ts else []
theorem edT_wf (cs : List C3) (ts : List (List Int)) : ∀ j, j < (edT cs ts).length → ∀ z ∈ (edT cs ts).getD j [], (Lit.int .i64 z).wf = true := by
  unfold edT
  cases hv : validB cs ts
  · intro j hj
    simp at hj
  · exact edge_wf (valid_pl hv).1
theorem edT_len (cs : List C3) (ts : List (List Int)) : (edT cs ts).length ≤ 4096 := by
  unfold edT
  cases hv : validB cs ts
  · simp
  · exact edges_len (valid_pl hv).1
end Go.Proofs.YtnbfaedopjkgpaaGreat


/-
The border of a mesh: what the program returns. Conditions: none beyond that the mesh lies in memory.
-/
namespace Go.Proofs.YtnbfaedopjkgpaaGreat
open Go Fk Go.RowKit Go.Maps
set_option linter.unusedVariables false
set_option maxRecDepth 16000

/-- The edges that just one triangle has, in ascending order. -/
def bdP (n : Nat) (ts : List (List Int)) : List (Int × Int) := (pairsL (keysE ts) n).filter fun x => !inE (preI ts ts.length 0) x
def bdT (cs : List C3) (ts : List (List Int)) : List (List Int) := bif validB cs ts then (bdP cs.length ts).map rowP else []
theorem bdT_len (cs : List C3) (ts : List (List Int)) : (bdT cs ts).length ≤ 4096 := by
  have h := edT_len cs ts
  unfold edT at h
  unfold bdT
  cases hv : validB cs ts
  · simp
  · rw [hv] at h
    simp only [cond_true] at h ⊢
    rw [edgesT_pairs, List.length_map] at h
    rw [List.length_map]
    unfold bdP
    exact Nat.le_trans (List.length_filter_le _ _) h
theorem bdT_wf (cs : List C3) (ts : List (List Int)) : ∀ j, j < (bdT cs ts).length → ∀ z ∈ (bdT cs ts).getD j [], (Lit.int .i64 z).wf = true := by
  unfold bdT
  cases hv : validB cs ts
  · intro j hj
    simp at hj
  · intro j hj z hz
    simp only [cond_true] at hj hz
    have hj' : j < (bdP cs.length ts).length := by simpa using hj
    have e : ((bdP cs.length ts).map rowP).getD j [] = rowP ((bdP cs.length ts)[j]) := by simp [List.getD, hj']
    rw [e] at hz
    have hm : (bdP cs.length ts)[j] ∈ bdP cs.length ts := List.getElem_mem _
    obtain ⟨a, b, ha, hb, _, _, e2⟩ := mem_pairsL.1 (List.mem_filter.1 hm).1
    rw [e2] at hz
    have h64 := (valid_pl hv).1
    simp only [rowP, List.mem_cons, List.not_mem_nil, or_false] at hz
    rcases hz with rfl | rfl <;> exact WalkArith.wf_i64 (by omega)
theorem grp_le (L : List ((Int × Int) × Int)) (x : Int × Int) : (grp L x).length ≤ L.length := by
  unfold grp
  rw [List.length_map]
  exact List.length_filter_le _ _
theorem preI_len (ts : List (List Int)) : ∀ k, (preI ts k 0).length = 3 * k
  | 0 => by rw [preI_zero]; rfl
  | k + 1 => by
    have h := preI_len ts k
    rw [← preI_next]
    unfold preI at h ⊢
    rw [List.length_append] at h ⊢
    have : ((pairsT (ts.getD k []) k).take 3).length = 3 := by simp [pairsT, triE]
    simp only [List.take_zero, List.length_nil] at h
    omega
/-- A row of one's own, as the striking of edges asks. -/
theorem rowI_of {w0 w : World} {base g n cap : Nat} {es : List (Int × Int)} (hb : w0.heap.size ≤ base) (hB : Below w0.heap.size w0 w) (h : w.ownsRow base 185 2 (.slice (some ⟨g, 0, none⟩) n cap) n (flatE es)) (hn : es.length = n) : RowI w0 g n 0 es [] w := by
  obtain ⟨h1, h2⟩ := h.lt g rfl
  obtain ⟨a, c, e, hE⟩ := edges_at h hn
  cases e
  refine ⟨hB, by omega, h2, fun q hq => ?_, fun q => h.frozenAt q, fun t ht => absurd ht (by simp), fun t _ ht => ?_⟩
  · rw [h.cellAt q (by omega), flatE_get es q (by omega)]
    exact ⟨_, rfl⟩
  · obtain ⟨g', e', k0, k1⟩ := hE t ht
    cases e'
    exact ⟨k0, k1⟩
end Go.Proofs.YtnbfaedopjkgpaaGreat


/-
The border of a mesh: the program. Conditions: none beyond that the mesh lies in memory.
-/
namespace Go.Proofs.YtnbfaedopjkgpaaGreat
open Go Fk Go.RowKit Go.Maps
set_option linter.unusedVariables false
set_option maxRecDepth 16000

end Go.Proofs.YtnbfaedopjkgpaaGreat


/-
How many triangles an edge has: the map of lists and the model count alike. Conditions: the triangles are a valid mesh's.
-/
namespace Go.Proofs.YtnbfaedopjkgpaaGreat
open Go Fk Go.RowKit Go.Maps
set_option linter.unusedVariables false
set_option maxRecDepth 16000

theorem grp_append (A B : List ((Int × Int) × Int)) (e : Int × Int) : (grp (A ++ B) e).length = (grp A e).length + (grp B e).length := by
  unfold grp
  rw [List.filter_append, List.map_append, List.length_append]
theorem key_is {u v a b : Int} (hab : a < b) : (eKey u v = (a, b)) ↔ ((u = a ∧ v = b) ∨ (u = b ∧ v = a)) := by
  unfold eKey
  rw [Prod.mk.injEq]
  omega
theorem grp_tri {n k : Nat} {t : List Int} (h : Tri3 n t) {a b : Int} (hab : a < b) : (grp (pairsT t k) (a, b)).length = if hasB t a && hasB t b then 1 else 0 := by
  obtain ⟨h1, h2, h3, _, _, _⟩ := h
  unfold pairsT triE grp hasB
  generalize t.getD 0 0 = x at *
  generalize t.getD 1 0 = y at *
  generalize t.getD 2 0 = z at *
  have e1 := key_is (u := x) (v := y) hab
  have e2 := key_is (u := y) (v := z) hab
  have e3 := key_is (u := z) (v := x) hab
  rw [List.length_map]
  by_cases c1 : eKey x y = (a, b)
  · have c2 : ¬ eKey y z = (a, b) := fun c => by rw [e1] at c1; rw [e2] at c; omega
    have c3 : ¬ eKey z x = (a, b) := fun c => by rw [e1] at c1; rw [e3] at c; omega
    have hc := e1.1 c1
    simp only [List.map_cons, List.map_nil, List.filter_cons, List.filter_nil, c1, c2, c3, decide_true, decide_false, if_true, Bool.false_eq_true, if_false]
    rcases hc with ⟨r1, r2⟩ | ⟨r1, r2⟩ <;> simp [r1, r2]
  · by_cases c2 : eKey y z = (a, b)
    · have c3 : ¬ eKey z x = (a, b) := fun c => by rw [e2] at c2; rw [e3] at c; omega
      have hc := e2.1 c2
      simp only [List.map_cons, List.map_nil, List.filter_cons, List.filter_nil, c1, c2, c3, decide_true, decide_false, if_true, Bool.false_eq_true, if_false]
      rcases hc with ⟨r1, r2⟩ | ⟨r1, r2⟩ <;> simp [r1, r2]
    · by_cases c3 : eKey z x = (a, b)
      · have hc := e3.1 c3
        simp only [List.map_cons, List.map_nil, List.filter_cons, List.filter_nil, c1, c2, c3, decide_true, decide_false, if_true, Bool.false_eq_true, if_false]
        rcases hc with ⟨r1, r2⟩ | ⟨r1, r2⟩ <;> simp [r1, r2]
      · simp only [List.map_cons, List.map_nil, List.filter_cons, List.filter_nil, c1, c2, c3, decide_false, Bool.false_eq_true, if_false, List.length_nil]
        rw [e1] at c1
        rw [e2] at c2
        rw [e3] at c3
        rw [if_neg]
        simp only [Bool.and_eq_true, Bool.or_eq_true, decide_eq_true_eq]
        omega
theorem grp_at {ts : List (List Int)} {n : Nat} (hT : ∀ i, i < ts.length → Tri3 n (ts.getD i [])) {a b : Int} (hab : a < b) : ∀ k, k ≤ ts.length → (grp (preI ts k 0) (a, b)).length = (atL ts a b k).length
  | 0, _ => by rw [preI_zero]; rfl
  | k + 1, hk => by
    have ih := grp_at hT hab k (by omega)
    have e : preI ts (k + 1) 0 = preI ts k 0 ++ pairsT (ts.getD k []) k := by
      rw [← preI_next]
      unfold preI
      rw [List.take_zero, List.append_nil]
      congr 1
    rw [e, grp_append, ih, grp_tri (hT k (by omega)) hab]
    show _ = (atL ts a b k ++ (bif hasB (ts.getD k []) a && hasB (ts.getD k []) b then [(k : Int)] else [])).length
    rw [List.length_append]
    cases hasB (ts.getD k []) a && hasB (ts.getD k []) b <;> rfl
end Go.Proofs.YtnbfaedopjkgpaaGreat

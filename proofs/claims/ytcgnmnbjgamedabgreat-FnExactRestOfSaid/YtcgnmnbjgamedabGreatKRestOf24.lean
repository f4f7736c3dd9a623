/-
Texts in one: what RestOf stands on, part 24. Conditions: those of each.
-/
import Derived.Test.YtcgnmnbjgamedabGreatKRestOf23
import Derived.Maps.OwnSet

/-
The edges of a mesh: the program and the model. Conditions: none beyond that the mesh lies in memory.
-/
namespace Go.Proofs.YtcgnmnbjgamedabGreat
open Go Fk Go.RowKit Go.Maps
set_option linter.unusedVariables false
set_option maxRecDepth 16000

/-- What is answered: the edges in ascending order, if the mesh is valid. -/
def edT (cs : List C3) (ts : List (List Int)) : List (List Int) := bif validB cs ts then edgesT cs.length ts else []
theorem edT_len (cs : List C3) (ts : List (List Int)) : (edT cs ts).length ≤ 4096 := by
  unfold edT
  cases hv : validB cs ts
  · simp
  · exact edges_len (valid_pl hv).1
end Go.Proofs.YtcgnmnbjgamedabGreat

/-
The border of a mesh: what the program returns. Conditions: none beyond that the mesh lies in memory.
-/
namespace Go.Proofs.YtcgnmnbjgamedabGreat
open Go Fk Go.RowKit Go.Maps
set_option linter.unusedVariables false
set_option maxRecDepth 16000

end Go.Proofs.YtcgnmnbjgamedabGreat

/-
The border of a mesh: the program. Conditions: none beyond that the mesh lies in memory.
-/
namespace Go.Proofs.YtcgnmnbjgamedabGreat
open Go Fk Go.RowKit Go.Maps
set_option linter.unusedVariables false
set_option maxRecDepth 16000

end Go.Proofs.YtcgnmnbjgamedabGreat

/-
How many triangles an edge has: the map of lists and the model count alike. Conditions: the triangles are a valid mesh's.
-/
namespace Go.Proofs.YtcgnmnbjgamedabGreat
open Go Fk Go.RowKit Go.Maps
set_option linter.unusedVariables false
set_option maxRecDepth 16000

theorem key_is {u v a b : Int} (hab : a < b) : (eKey u v = (a, b)) ↔ ((u = a ∧ v = b) ∨ (u = b ∧ v = a)) := by
  unfold eKey
  rw [Prod.mk.injEq]
  omega
theorem grp_tri {n k : Nat} {t : List Int} (h : Tri3 n t) {a b : Int} (hab : a < b) : (grp (pairsT t k) (a, b)).length = if hasB t a && hasB t b then 1 else 0 := by
  obtain ⟨h1, h2, h3, _, _, _⟩ := h
  unfold pairsT triE grp hasB
  generalize t.getD 0 0 = x at *
  generalize t.getD 1 0 = y at *
  generalize t.getD 2 0 = z at *
  have e1 := key_is (u := x) (v := y) hab
  have e2 := key_is (u := y) (v := z) hab
  have e3 := key_is (u := z) (v := x) hab
  rw [List.length_map]
  by_cases c1 : eKey x y = (a, b)
  · have c2 : ¬ eKey y z = (a, b) := fun c => by rw [e1] at c1; rw [e2] at c; omega
    have c3 : ¬ eKey z x = (a, b) := fun c => by rw [e1] at c1; rw [e3] at c; omega
    have hc := e1.1 c1
    simp only [List.map_cons, List.map_nil, List.filter_cons, List.filter_nil, c1, c2, c3, decide_true, decide_false, if_true, Bool.false_eq_true, if_false]
    rcases hc with ⟨r1, r2⟩ | ⟨r1, r2⟩ <;> simp [r1, r2]
  · by_cases c2 : eKey y z = (a, b)
    · have c3 : ¬ eKey z x = (a, b) := fun c => by rw [e2] at c2; rw [e3] at c; omega
      have hc := e2.1 c2
      simp only [List.map_cons, List.map_nil, List.filter_cons, List.filter_nil, c1, c2, c3, decide_true, decide_false, if_true, Bool.false_eq_true, if_false]
      rcases hc with ⟨r1, r2⟩ | ⟨r1, r2⟩ <;> simp [r1, r2]
    · by_cases c3 : eKey z x = (a, b)
      · have hc := e3.1 c3
        simp only [List.map_cons, List.map_nil, List.filter_cons, List.filter_nil, c1, c2, c3, decide_true, decide_false, if_true, Bool.false_eq_true, if_false]
        rcases hc with ⟨r1, r2⟩ | ⟨r1, r2⟩ <;> simp [r1, r2]
      · simp only [List.map_cons, List.map_nil, List.filter_cons, List.filter_nil, c1, c2, c3, decide_false, Bool.false_eq_true, if_false, List.length_nil]
        rw [e1] at c1
        rw [e2] at c2
        rw [e3] at c3
        rw [if_neg]
        simp only [Bool.and_eq_true, Bool.or_eq_true, decide_eq_true_eq]
        omega
end Go.Proofs.YtcgnmnbjgamedabGreat

/-
Hinges, as lists. Conditions: the triangles are a valid mesh's.
-/
namespace Go.Proofs.YtcgnmnbjgamedabGreat
open Go Fk Go.RowKit Go.Maps Go.Sort
set_option linter.unusedVariables false
set_option maxRecDepth 8000

/-- The third place of a triangle. -/
def thN (t : List Int) (i j : Int) : Int := t.getD 0 0 + t.getD 1 0 + t.getD 2 0 - i - j
def thirds (ts : List (List Int)) (i j : Int) (L : List Int) : List Int := L.map fun k => thN (ts.getD k.toNat []) i j
def hrow (ts : List (List Int)) (e : Int × Int) : List Int := e.1 :: e.2 :: thirds ts e.1 e.2 (atL ts e.1 e.2 ts.length)
def isH (ts : List (List Int)) (e : Int × Int) : Bool := decide ((atL ts e.1 e.2 ts.length).length = 2)
def hgK (ts : List (List Int)) (ps : List (Int × Int)) (k : Nat) : List (List Int) := ((ps.take k).filter (isH ts)).map (hrow ts)
theorem hgK_s {ts : List (List Int)} {ps : List (Int × Int)} {k : Nat} (hk : k < ps.length) : hgK ts ps (k + 1) = hgK ts ps k ++ (bif isH ts (ps.getD k (0, 0)) then [hrow ts (ps.getD k (0, 0))] else []) := by
  have e : ps.take (k + 1) = ps.take k ++ [ps.getD k (0, 0)] := by
    rw [List.take_add_one, List.getElem?_eq_getElem hk]
    simp [List.getD, List.getElem?_eq_getElem hk]
  unfold hgK
  rw [e, List.filter_append, List.map_append]
  cases h : isH ts (ps.getD k (0, 0))
  · simp only [List.filter_cons, List.filter_nil, h, cond_false, Bool.false_eq_true, if_false, List.map_nil]
  · simp only [List.filter_cons, List.filter_nil, h, cond_true, if_true, List.map_cons, List.map_nil]
theorem hgK_len (ts : List (List Int)) (ps : List (Int × Int)) (k : Nat) : (hgK ts ps k).length ≤ k := by
  unfold hgK
  rw [List.length_map]
  exact Nat.le_trans (List.length_filter_le _ _) (List.length_take_le _ _)
/-- What is answered: the hinges in ascending order of their edges, if the mesh is valid. -/
def hgT (cs : List C3) (ts : List (List Int)) : List (List Int) := bif validB cs ts then hgK ts (pairsL (keysE ts) cs.length) (pairsL (keysE ts) cs.length).length else []
theorem grp_tri_is {n k : Nat} {t : List Int} (h : Tri3 n t) {a b : Int} (hab : a < b) : grp (pairsT t k) (a, b) = bif hasB t a && hasB t b then [(k : Int)] else [] := by
  have hl := grp_tri (k := k) h hab
  have hall : ∀ z ∈ grp (pairsT t k) (a, b), z = (k : Int) := fun z hz => by
    unfold grp pairsT at hz
    obtain ⟨p, hp, rfl⟩ := List.mem_map.1 hz
    obtain ⟨e, _, rfl⟩ := List.mem_map.1 (List.mem_filter.1 hp).1
    rfl
  generalize grp (pairsT t k) (a, b) = G at *
  cases hc : (hasB t a && hasB t b)
  · rw [hc] at hl
    simp only [Bool.false_eq_true, if_false] at hl
    exact List.eq_nil_of_length_eq_zero hl
  · rw [hc] at hl
    simp only [if_true] at hl
    obtain ⟨z, rfl⟩ := List.length_eq_one_iff.1 hl
    have := hall z (by simp)
    subst this
    rfl
theorem grp_is {ts : List (List Int)} {n : Nat} (hT : ∀ i, i < ts.length → Tri3 n (ts.getD i [])) {a b : Int} (hab : a < b) : ∀ k, k ≤ ts.length → grp (preI ts k 0) (a, b) = atL ts a b k
  | 0, _ => by rw [preI_zero]; rfl
  | k + 1, hk => by
    have ih := grp_is hT hab k (by omega)
    have e : preI ts (k + 1) 0 = preI ts k 0 ++ pairsT (ts.getD k []) k := by
      rw [← preI_next]
      unfold preI
      rw [List.take_zero, List.append_nil]
      congr 1
    have hs : grp (preI ts k 0 ++ pairsT (ts.getD k []) k) (a, b) = grp (preI ts k 0) (a, b) ++ grp (pairsT (ts.getD k []) k) (a, b) := by
      unfold grp
      rw [List.filter_append, List.map_append]
    rw [e, hs, ih, grp_tri_is (hT k (by omega)) hab]
    rfl
/-- What the model finds for one triangle. -/
def thS (t : List Int) (i j : Int) : Int := bif hasB t i && hasB t j then thN t i j else -1
theorem thS_yes {n : Nat} {t : List Int} (h : Tri3 n t) {i j : Int} (hij : i ≠ j) (h1 : hasB t i = true) (h2 : hasB t j = true) : 0 ≤ thN t i j ∧ thN t i j < n ∧ thN t i j ≠ i ∧ thN t i j ≠ j := by
  obtain ⟨n1, n2, n3, ⟨p0, q0⟩, ⟨p1, q1⟩, ⟨p2, q2⟩⟩ := h
  unfold hasB at h1 h2
  unfold thN
  simp only [Bool.or_eq_true, decide_eq_true_eq] at h1 h2
  omega
theorem th_at {n : Nat} {t : List Int} (h : Tri3 n t) {i j : Int} (hij : i ≠ j) (h1 : hasB t i = true) (h2 : hasB t j = true) {k : Nat} (hk : k < 3) (hi : t.getD k 0 ≠ i) (hj : t.getD k 0 ≠ j) : t.getD k 0 = thN t i j := by
  obtain ⟨n1, n2, n3, _, _, _⟩ := h
  unfold hasB at h1 h2
  unfold thN
  simp only [Bool.or_eq_true, decide_eq_true_eq] at h1 h2
  match k, hk with
  | 0, _ => omega
  | 1, _ => omega
  | 2, _ => omega
theorem th_has {n : Nat} {t : List Int} (h : Tri3 n t) {i j : Int} (hij : i ≠ j) (h1 : hasB t i = true) (h2 : hasB t j = true) (hall : ∀ k, k < 3 → t.getD k 0 = i ∨ t.getD k 0 = j) : False := by
  obtain ⟨n1, n2, n3, _, _, _⟩ := h
  have a0 := hall 0 (by omega)
  have a1 := hall 1 (by omega)
  have a2 := hall 2 (by omega)
  omega
theorem mem_at2 {ts : List (List Int)} {p q z : Int} : ∀ {k}, z ∈ atL ts p q k → ∃ i : Nat, i < k ∧ hasB (ts.getD i []) p = true ∧ hasB (ts.getD i []) q = true ∧ z = (i : Int)
  | 0, h => by simp [atL] at h
  | k + 1, h => by
    have hs : atL ts p q (k + 1) = atL ts p q k ++ (bif hasB (ts.getD k []) p && hasB (ts.getD k []) q then [(k : Int)] else []) := rfl
    rw [hs, List.mem_append] at h
    rcases h with h | h
    · obtain ⟨i, hi, r⟩ := mem_at2 h
      exact ⟨i, by omega, r⟩
    · cases hc : (hasB (ts.getD k []) p && hasB (ts.getD k []) q)
      · rw [hc] at h; cases h
      · rw [hc] at h
        simp only [Bool.and_eq_true] at hc
        exact ⟨k, by omega, hc.1, hc.2, by simpa using h⟩
/-- The numbers of a hinge are places. -/
theorem hrow_in {ts : List (List Int)} {n : Nat} (hT : ∀ i, i < ts.length → Tri3 n (ts.getD i [])) {a b : Nat} (hab : a < b) (hb : b < n) : ∀ z ∈ hrow ts ((a : Int), (b : Int)), 0 ≤ z ∧ z < n := fun z hz => by
  unfold hrow thirds at hz
  rcases List.mem_cons.1 hz with rfl | hz
  · show 0 ≤ (a : Int) ∧ (a : Int) < n
    omega
  rcases List.mem_cons.1 hz with rfl | hz
  · show 0 ≤ (b : Int) ∧ (b : Int) < n
    omega
  obtain ⟨y, hy, rfl⟩ := List.mem_map.1 hz
  obtain ⟨i, hi, h1, h2, rfl⟩ := mem_at2 hy
  have := thS_yes (hT i hi) (i := (a : Int)) (j := (b : Int)) (by omega) h1 h2
  rw [Int.toNat_natCast]
  exact ⟨this.1, this.2.1⟩
theorem hgK_mem {ts : List (List Int)} {n k : Nat} {r : List Int} (h : r ∈ hgK ts (pairsL (keysE ts) n) k) : ∃ a b : Nat, a < b ∧ b < n ∧ r = hrow ts ((a : Int), (b : Int)) ∧ isH ts ((a : Int), (b : Int)) = true := by
  unfold hgK at h
  obtain ⟨e, he, rfl⟩ := List.mem_map.1 h
  obtain ⟨h1, h2⟩ := List.mem_filter.1 he
  obtain ⟨a, b, _, hb, hab, _, rfl⟩ := mem_pairsL.1 (List.mem_of_mem_take h1)
  exact ⟨a, b, hab, hb, rfl, h2⟩
theorem hrow_four {ts : List (List Int)} {e : Int × Int} (h : isH ts e = true) : (hrow ts e).length = 4 := by
  unfold isH at h
  have := of_decide_eq_true h
  unfold hrow thirds
  simp [this]
end Go.Proofs.YtcgnmnbjgamedabGreat

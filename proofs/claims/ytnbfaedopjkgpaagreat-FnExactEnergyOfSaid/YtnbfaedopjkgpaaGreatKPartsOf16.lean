/-
Texts in one: what PartsOf stands on, part 16. Conditions: those of each.
-/
import Derived.Test.YtnbfaedopjkgpaaGreatKPartsOf15
import Derived.WalkKit
import Derived.Maps.OwnOps
import Derived.Maps.OwnSet
import Derived.DeepKeys4
import Derived.Lib.Hide

/-
The triangles that have two places: what the model gathers. Conditions: each triangle has three places.
-/
namespace Go.Proofs.YtnbfaedopjkgpaaGreat
open Go Fk Go.RowKit
set_option linter.unusedVariables false
set_option maxRecDepth 8000

def hasB (t : List Int) (p : Int) : Bool := decide (t.getD 0 0 = p) || (decide (t.getD 1 0 = p) || decide (t.getD 2 0 = p))
/-- The indices below k of the triangles with two places. -/
def atL (ts : List (List Int)) (p q : Int) : Nat → List Int
  | 0 => []
  | k + 1 => atL ts p q k ++ (bif hasB (ts.getD k []) p && hasB (ts.getD k []) q then [(k : Int)] else [])
theorem atL_len (ts : List (List Int)) (p q : Int) (k : Nat) : (atL ts p q k).length ≤ k := by
  induction k with
  | zero => simp [atL]
  | succ k ih => unfold atL; rw [List.length_append]; cases (hasB (ts.getD k []) p && hasB (ts.getD k []) q) <;> simp <;> omega
end Go.Proofs.YtnbfaedopjkgpaaGreat


/-
The triangles that have two places: what the model gathers, in a list of its own. Conditions: each triangle has three places.
-/
namespace Go.Proofs.YtnbfaedopjkgpaaGreat
open Go Fk Go.RowKit
set_option linter.unusedVariables false
set_option maxRecDepth 8000

theorem atL_yes {ts : List (List Int)} {p q : Int} {k : Nat} (h1 : hasB (ts.getD k []) p = true) (h2 : hasB (ts.getD k []) q = true) : atL ts p q (k + 1) = atL ts p q k ++ [(k : Int)] := by
  show atL ts p q k ++ _ = _; rw [h1, h2]; rfl
theorem atL_no {ts : List (List Int)} {p q : Int} {k : Nat} (h : (hasB (ts.getD k []) p && hasB (ts.getD k []) q) = false) : atL ts p q (k + 1) = atL ts p q k := by
  show atL ts p q k ++ _ = _; rw [h]; simp
theorem grown_below {W w w' : World} {base : Nat} {e : TypeId} {size : Nat} {v : Value} {n : Nat} {xs : List Value} (hB : Below W.heap.size W w) (hown : w.ownsRow W.heap.size e size v n xs) (hg : w.grownBy w' v.ownBlock) : Below W.heap.size W w' :=
  hB.grown hg hB.size (fun k hk => (hown.lt k hk).1)
end Go.Proofs.YtnbfaedopjkgpaaGreat


/-
When a mesh is a sheet: by its edges, and by its sides. Conditions: the mesh is valid.
-/
namespace Go.Proofs.YtnbfaedopjkgpaaGreat
open Go Fk Go.RowKit
set_option linter.unusedVariables false
set_option maxRecDepth 8000

def sideT (t : List Int) : List (Int × Int) := [(t.getD 0 0, t.getD 1 0), (t.getD 1 0, t.getD 2 0), (t.getD 2 0, t.getD 0 0)]
def sidesL (ts : List (List Int)) : List (Int × Int) := ts.flatMap sideT
def goesB (t : List Int) (a b : Int) : Bool := (decide (t.getD 0 0 = a) && decide (t.getD 1 0 = b)) || ((decide (t.getD 1 0 = a) && decide (t.getD 2 0 = b)) || (decide (t.getD 2 0 = a) && decide (t.getD 0 0 = b)))
/-- What the model asks of an edge. -/
def okE (ts : List (List Int)) (a b : Int) : Bool :=
  !(decide (2 < (atL ts a b ts.length).length) || (decide ((atL ts a b ts.length).length = 2) && (goesB (ts.getD ((atL ts a b ts.length).getD 0 0).toNat []) a b == goesB (ts.getD ((atL ts a b ts.length).getD 1 0).toNat []) a b)))
def sheetB (n : Nat) (ts : List (List Int)) : Bool := (edgesT n ts).all fun r => okE ts (r.getD 0 0) (r.getD 1 0)
theorem goes_mem {t : List Int} {a b : Int} : goesB t a b = true ↔ (a, b) ∈ sideT t := by
  unfold goesB sideT
  simp only [Bool.or_eq_true, Bool.and_eq_true, decide_eq_true_eq, List.mem_cons, Prod.mk.injEq, List.not_mem_nil, or_false]
  constructor
  · rintro (⟨h, k⟩ | ⟨h, k⟩ | ⟨h, k⟩)
    · exact .inl ⟨h.symm, k.symm⟩
    · exact .inr (.inl ⟨h.symm, k.symm⟩)
    · exact .inr (.inr ⟨h.symm, k.symm⟩)
  · rintro (⟨h, k⟩ | ⟨h, k⟩ | ⟨h, k⟩)
    · exact .inl ⟨h.symm, k.symm⟩
    · exact .inr (.inl ⟨h.symm, k.symm⟩)
    · exact .inr (.inr ⟨h.symm, k.symm⟩)
structure Tri3 (n : Nat) (t : List Int) : Prop where
  d01 : t.getD 0 0 ≠ t.getD 1 0
  d12 : t.getD 1 0 ≠ t.getD 2 0
  d02 : t.getD 0 0 ≠ t.getD 2 0
  r0 : 0 ≤ t.getD 0 0 ∧ t.getD 0 0 < (n : Int)
  r1 : 0 ≤ t.getD 1 0 ∧ t.getD 1 0 < (n : Int)
  r2 : 0 ≤ t.getD 2 0 ∧ t.getD 2 0 < (n : Int)
theorem tri3_of {n : Nat} {t : List Int} (h : triB n t = true) : Tri3 n t := by
  have hp := (tri_partsh h).2
  unfold triB at h
  simp only [Bool.and_eq_true, decide_eq_true_eq] at h
  obtain ⟨_, ⟨h1, h2⟩, h3⟩ := h
  have k0 := hp 0 (by decide)
  have k1 := hp 1 (by decide)
  have k2 := hp 2 (by decide)
  exact ⟨h1, h2, h3, ⟨k0.1, by omega⟩, ⟨k1.1, by omega⟩, ⟨k2.1, by omega⟩⟩
theorem goes_both {n : Nat} {t : List Int} {p q : Int} (h : Tri3 n t) (hpq : p ≠ q) : (hasB t p && hasB t q) = (goesB t p q || goesB t q p) := by
  obtain ⟨h1, h2, h3, _, _, _⟩ := h
  unfold hasB goesB
  generalize t.getD 0 0 = x at *
  generalize t.getD 1 0 = y at *
  generalize t.getD 2 0 = z at *
  rw [Bool.eq_iff_iff]
  simp only [Bool.or_eq_true, Bool.and_eq_true, decide_eq_true_eq]
  omega
theorem goes_one {n : Nat} {t : List Int} {p q : Int} (h : Tri3 n t) (hg : goesB t p q = true) : goesB t q p = false := by
  obtain ⟨h1, h2, h3, _, _, _⟩ := h
  rw [Bool.eq_false_iff]
  unfold goesB at *
  generalize t.getD 0 0 = x at *
  generalize t.getD 1 0 = y at *
  generalize t.getD 2 0 = z at *
  simp only [ne_eq, Bool.or_eq_true, Bool.and_eq_true, decide_eq_true_eq] at *
  omega
theorem goes_ne {n : Nat} {t : List Int} {p q : Int} (h : Tri3 n t) (hg : goesB t p q = true) : p ≠ q ∧ (0 ≤ p ∧ p < n) ∧ (0 ≤ q ∧ q < n) := by
  obtain ⟨h1, h2, h3, _, _, _⟩ := h
  unfold goesB at *
  generalize t.getD 0 0 = x at *
  generalize t.getD 1 0 = y at *
  generalize t.getD 2 0 = z at *
  simp only [ne_eq, Bool.or_eq_true, Bool.and_eq_true, decide_eq_true_eq] at *
  omega
theorem atL_filter (ts : List (List Int)) (p q : Int) : ∀ k, atL ts p q k = ((List.range k).filter fun i => hasB (ts.getD i []) p && hasB (ts.getD i []) q).map fun i : Nat => (i : Int)
  | 0 => rfl
  | k + 1 => by
    rw [List.range_succ, List.filter_append, List.map_append, ← atL_filter ts p q k]
    cases h : (hasB (ts.getD k []) p && hasB (ts.getD k []) q)
    · rw [atL_no h, List.filter_cons, if_neg (by rw [h]; exact Bool.false_ne_true)]; simp
    · have h' := h
      rw [Bool.and_eq_true] at h'
      rw [atL_yes h'.1 h'.2]; simp only [List.filter_cons, h, if_true, List.filter_nil, List.map_cons, List.map_nil]
theorem mem_rowsE {L : List (Int × Int)} {n m : Nat} {r : List Int} : r ∈ rowsE L n m ↔ ∃ a b : Nat, a < m ∧ b < n ∧ a < b ∧ ((a : Int), (b : Int)) ∈ L ∧ r = [(a : Int), (b : Int)] := by
  unfold rowsE rowE
  simp only [List.mem_flatMap, List.mem_range, List.mem_map, List.mem_filter, Bool.and_eq_true, decide_eq_true_eq]
  constructor
  · rintro ⟨a, ha, b, ⟨hb, hab, hm⟩, rfl⟩
    exact ⟨a, b, ha, hb, hab, hm, rfl⟩
  · rintro ⟨a, b, ha, hb, hab, hm, rfl⟩
    exact ⟨a, ha, b, ⟨hb, hab, hm⟩, rfl⟩
/-- An edge is in the list just if a triangle goes along it. -/
theorem mem_keysE {ts : List (List Int)} {a b : Int} (hab : a < b) : (a, b) ∈ keysE ts ↔ ∃ t ∈ ts, goesB t a b = true ∨ goesB t b a = true := by
  unfold keysE
  rw [List.mem_flatMap]
  refine exists_congr fun t => and_congr_right fun _ => ?_
  unfold triE eKey goesB
  generalize t.getD 0 0 = x at *
  generalize t.getD 1 0 = y at *
  generalize t.getD 2 0 = z at *
  simp only [List.mem_cons, Prod.mk.injEq, List.not_mem_nil, or_false, Bool.or_eq_true, Bool.and_eq_true, decide_eq_true_eq]
  omega
theorem okE_false {ts : List (List Int)} {n : Nat} {p q : Int} (hT : ∀ i, i < ts.length → Tri3 n (ts.getD i [])) (hpq : p < q) (h : okE ts p q = false) : ∃ i j a b, i < j ∧ j < ts.length ∧ goesB (ts.getD i []) a b = true ∧ goesB (ts.getD j []) a b = true := by
  have hl := atL_filter ts p q ts.length
  have hm : ∀ i ∈ (List.range ts.length).filter (fun i => hasB (ts.getD i []) p && hasB (ts.getD i []) q), i < ts.length ∧ (goesB (ts.getD i []) p q = true ∨ goesB (ts.getD i []) q p = true) := fun i hi => by
    obtain ⟨h1, h2⟩ := List.mem_filter.1 hi
    have h1 := List.mem_range.1 h1
    rw [goes_both (hT i h1) (by omega), Bool.or_eq_true] at h2
    exact ⟨h1, h2⟩
  have hs : ((List.range ts.length).filter (fun i => hasB (ts.getD i []) p && hasB (ts.getD i []) q)).Pairwise (· < ·) := List.Pairwise.sublist List.filter_sublist List.pairwise_lt_range
  have hg : ∀ i, i < ts.length → (goesB (ts.getD i []) p q = true ∨ goesB (ts.getD i []) q p = true) → ∀ j, j < ts.length → (goesB (ts.getD j []) p q = true ∨ goesB (ts.getD j []) q p = true) → goesB (ts.getD i []) p q = goesB (ts.getD j []) p q → i < j → ∃ i j a b, i < j ∧ j < ts.length ∧ goesB (ts.getD i []) a b = true ∧ goesB (ts.getD j []) a b = true := fun i hi h1 j hj h2 he hij => by
    cases hc : goesB (ts.getD i []) p q
    · rw [hc] at he h1
      rw [← he] at h2
      exact ⟨i, j, q, p, hij, hj, by simpa using h1, by simpa using h2⟩
    · exact ⟨i, j, p, q, hij, hj, hc, by rw [← he]; exact hc⟩
  unfold okE at h
  rw [hl] at h
  generalize (List.range ts.length).filter (fun i => hasB (ts.getD i []) p && hasB (ts.getD i []) q) = l at *
  match l, hm, hs, h with
  | [], _, _, h => simp at h
  | [_], _, _, h => simp at h
  | [i, j], hm, hs, h =>
    obtain ⟨hi, gi⟩ := hm i (by simp)
    obtain ⟨hj, gj⟩ := hm j (by simp)
    have hij : i < j := (List.pairwise_cons.1 hs).1 j (by simp)
    simp only [List.map_cons, List.map_nil, List.length_cons, List.length_nil, Nat.reduceAdd, Nat.lt_irrefl, decide_false, Bool.false_or, decide_true, Bool.true_and, List.getD_cons_zero, List.getD_cons_succ, Int.toNat_natCast, Bool.not_eq_false', beq_iff_eq] at h
    exact hg i hi gi j hj gj h hij
  | i :: j :: k :: r, hm, hs, _ =>
    obtain ⟨hi, gi⟩ := hm i (by simp)
    obtain ⟨hj, gj⟩ := hm j (by simp)
    obtain ⟨hk, gk⟩ := hm k (by simp)
    obtain ⟨s1, s2⟩ := List.pairwise_cons.1 hs
    have hij := s1 j (by simp)
    have hik := s1 k (by simp)
    have hjk := (List.pairwise_cons.1 s2).1 k (by simp)
    by_cases e1 : goesB (ts.getD i []) p q = goesB (ts.getD j []) p q
    · exact hg i hi gi j hj gj e1 hij
    · by_cases e2 : goesB (ts.getD i []) p q = goesB (ts.getD k []) p q
      · exact hg i hi gi k hk gk e2 hik
      · refine hg j hj gj k hk gk ?_ hjk
        cases h1 : goesB (ts.getD i []) p q <;> cases h2 : goesB (ts.getD j []) p q <;> cases h3 : goesB (ts.getD k []) p q <;> simp_all
theorem okE_true {ts : List (List Int)} {n : Nat} {p q : Int} (hT : ∀ i, i < ts.length → Tri3 n (ts.getD i [])) (hpq : p < q) (h : okE ts p q = true) {i j : Nat} (hij : i < j) (hj : j < ts.length) (gi : goesB (ts.getD i []) p q = true ∨ goesB (ts.getD i []) q p = true) (gj : goesB (ts.getD j []) p q = true ∨ goesB (ts.getD j []) q p = true) : goesB (ts.getD i []) p q ≠ goesB (ts.getD j []) p q := by
  have hl := atL_filter ts p q ts.length
  have hmem : ∀ i, i < ts.length → (goesB (ts.getD i []) p q = true ∨ goesB (ts.getD i []) q p = true) → i ∈ (List.range ts.length).filter (fun i => hasB (ts.getD i []) p && hasB (ts.getD i []) q) := fun i hi g => by
    refine List.mem_filter.2 ⟨List.mem_range.2 hi, ?_⟩
    rw [goes_both (hT i hi) (by omega), Bool.or_eq_true]
    exact g
  have mi := hmem i (by omega) gi
  have mj := hmem j hj gj
  have hs : ((List.range ts.length).filter (fun i => hasB (ts.getD i []) p && hasB (ts.getD i []) q)).Pairwise (· < ·) := List.Pairwise.sublist List.filter_sublist List.pairwise_lt_range
  unfold okE at h
  rw [hl] at h
  generalize (List.range ts.length).filter (fun i => hasB (ts.getD i []) p && hasB (ts.getD i []) q) = l at *
  match l, mi, mj, hs, h with
  | [], mi, _, _, _ => simp at mi
  | [x], mi, mj, _, _ => simp at mi mj; omega
  | [x, y], mi, mj, hs, h =>
    have hxy : x < y := (List.pairwise_cons.1 hs).1 y (by simp)
    simp only [List.mem_cons, List.not_mem_nil, or_false] at mi mj
    obtain ⟨rfl, rfl⟩ : i = x ∧ j = y := by omega
    simp only [List.map_cons, List.map_nil, List.length_cons, List.length_nil, Nat.reduceAdd, Nat.lt_irrefl, decide_false, Bool.false_or, decide_true, Bool.true_and, List.getD_cons_zero, List.getD_cons_succ, Int.toNat_natCast, Bool.not_eq_true', beq_eq_false_iff_ne] at h
    exact h
  | x :: y :: z :: r, _, _, _, h => simp at h
theorem sheet_iff {cs : List C3} {ts : List (List Int)} (hv : validB cs ts = true) : sheetB cs.length ts = decide (sidesL ts).Nodup := by
  have hT : ∀ i, i < ts.length → Tri3 cs.length (ts.getD i []) := fun i hi => tri3_of (valid_rowh hv hi)
  have hnd : (sidesL ts).Nodup ↔ ∀ i j a b, i < j → j < ts.length → goesB (ts.getD i []) a b = true → goesB (ts.getD j []) a b = true → False := by
    unfold sidesL List.Nodup
    rw [List.pairwise_flatMap]
    constructor
    · rintro ⟨_, h⟩ i j a b hij hj gi gj
      rw [List.pairwise_iff_getElem] at h
      have := h i j (by omega) hj hij (a, b) (by have := goes_mem.1 gi; simpa [List.getD, show i < ts.length by omega] using this) (a, b) (by have := goes_mem.1 gj; simpa [List.getD, hj] using this)
      exact this rfl
    · intro h
      refine ⟨fun t ht => ?_, ?_⟩
      · obtain ⟨i, hi, rfl⟩ := List.mem_iff_getElem.1 ht
        obtain ⟨h1, h2, h3, _, _, _⟩ := hT i hi
        have e : ts.getD i [] = ts[i] := by simp [List.getD, hi]
        rw [e] at h1 h2 h3
        unfold sideT
        simp only [List.pairwise_cons, List.mem_cons, List.not_mem_nil, or_false, forall_eq_or_imp, forall_eq, ne_eq, Prod.mk.injEq, not_and, List.Pairwise.nil, and_true, false_imp_iff, implies_true]
        refine ⟨⟨fun e => absurd e h1, fun e => absurd e h3⟩, fun e => absurd e h2⟩
      · rw [List.pairwise_iff_getElem]
        intro i j hi hj hij x hx y hy e
        subst e
        refine h i j x.1 x.2 hij hj (goes_mem.2 (by simpa [List.getD, hi] using hx)) (goes_mem.2 (by simpa [List.getD, hj] using hy))
  cases hs : sheetB cs.length ts
  · refine (decide_eq_false fun hn => ?_).symm
    rw [hnd] at hn
    unfold sheetB at hs
    rw [← Bool.not_eq_true, List.all_eq_true] at hs
    apply hs
    intro r hr
    obtain ⟨a, b, ha, hb, hab, hm, rfl⟩ := mem_rowsE.1 hr
    cases ho : okE ts (a : Int) (b : Int)
    · obtain ⟨i, j, x, y, hij, hj, gi, gj⟩ := okE_false hT (by omega) ho
      exact absurd (hn i j x y hij hj gi gj) id
    · exact ho
  · refine (decide_eq_true ?_).symm
    rw [hnd]
    intro i j a b hij hj gi gj
    unfold sheetB at hs
    rw [List.all_eq_true] at hs
    obtain ⟨hne, ra, rb⟩ := goes_ne (hT i (by omega)) gi
    have key : ∀ p q : Int, p < q → (0 ≤ p ∧ p < cs.length) → (0 ≤ q ∧ q < cs.length) → (goesB (ts.getD i []) p q = true ∨ goesB (ts.getD i []) q p = true) → (goesB (ts.getD j []) p q = true ∨ goesB (ts.getD j []) q p = true) → goesB (ts.getD i []) p q = goesB (ts.getD j []) p q → False := fun p q hpq hp hq g1 g2 e => by
      have hmk : (p, q) ∈ keysE ts := (mem_keysE hpq).2 ⟨ts.getD i [], by rw [List.getD, List.getElem?_eq_getElem (show i < ts.length by omega)]; exact List.getElem_mem _, g1⟩
      have hr : [p, q] ∈ edgesT cs.length ts := mem_rowsE.2 ⟨p.toNat, q.toNat, by omega, by omega, by omega, by rw [Int.toNat_of_nonneg hp.1, Int.toNat_of_nonneg hq.1]; exact hmk, by rw [Int.toNat_of_nonneg hp.1, Int.toNat_of_nonneg hq.1]⟩
      exact okE_true hT hpq (hs _ hr) hij hj g1 g2 e
    by_cases hlt : a < b
    · exact key a b hlt ra rb (.inl gi) (.inl gj) (by rw [gi, gj])
    · exact key b a (by omega) rb ra (.inr gi) (.inr gj) (by rw [goes_one (hT i (by omega)) gi, goes_one (hT j hj) gj])
end Go.Proofs.YtnbfaedopjkgpaaGreat


/-
Maps whose keys are sides: how a key reads, and what a map of flags holds. Conditions: none.
-/
namespace Go.Proofs.YtnbfaedopjkgpaaGreat
open Go Fk Go.RowKit Go.Maps
set_option linter.unusedVariables false
set_option maxRecDepth 8000

theorem laidOutP : laidOutB Tryz.prog = true := by kernel_rfl
theorem sizeP : ∃ m, Tryz.prog.types.size = m + 1 := ⟨Tryz.prog.types.size - 1, by kernel_rfl⟩
theorem sideWide : (match Tryz.prog.underlying 210 with | some (.array _ _) | some (.struct _) => true | _ => false) = true := by kernel_rfl
theorem sideType : Tryz.prog.keyTypeAt 2 210 = true := by kernel_rfl
theorem sideKey : Tryz.prog.keyType 210 = true := by kernel_rfl
theorem sideCells : Tryz.prog.cellsOf 210 = 2 := by kernel_rfl
theorem intCells : Tryz.prog.cellsOf 2 = 1 := by kernel_rfl
theorem sideTiled : Tryz.prog.tiled 2 210 = true := tiled_of_laidOut laidOutP 2 _ (by kernel_rfl) sideType
theorem sideKeyed : Keyed Tryz.prog 210 := Keyed.of_law (deep_law_laid laidOutP (m := 2) (by omega) (of_decide_eq_true (by kernel_rfl)) sideType sideWide)
/-- What a pair of numbers reads as. -/
def kS (s : Int × Int) : Lit := .string (keyBytes [.int .i64 s.1, .int .i64 s.2])
theorem keyOf_side {a b : Int} (wa : (Lit.int .i64 a).wf = true) (wb : (Lit.int .i64 b).wf = true) : keyOf Tryz.prog 210 (.agg #[.int .i64 a, .int .i64 b]) = some (kS (a, b)) := by
  have us := Tryz.underlying210
  have ui := Tryz.underlying2
  obtain ⟨m, hm⟩ := sizeP
  unfold keyOf
  simp only [us]
  rw [if_pos (by simp [sideKey, Value.formed, us, sideCells]), hm]
  unfold Program.keyLits
  simp only [us, Value.cells]
  rw [if_pos (by rw [sideCells]; exact ⟨rfl, by kernel_rfl⟩)]
  simp [Program.keyLits, ui, intCells, wa, wb, kS]
theorem kS_inj {a b c d : Int} (wa : (Lit.int .i64 a).wf = true) (wb : (Lit.int .i64 b).wf = true) (wc : (Lit.int .i64 c).wf = true) (wd : (Lit.int .i64 d).wf = true) (h : kS (a, b) = kS (c, d)) : (a, b) = (c, d) := by
  have h1 := keyOf_side wa wb
  have h2 := keyOf_side wc wd
  rw [h] at h1
  have := keyOf_inj_deep sideTiled sideWide h1 h2
  simpa using this
theorem kS_key (s : Int × Int) : WideAt.IsKeyLit (kS s) := by
  unfold kS
  exact trivial
end Go.Proofs.YtnbfaedopjkgpaaGreat

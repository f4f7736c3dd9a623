/-
Texts in one: what BorderOf stands on, part 12. Conditions: those of each.
-/
import Derived.Test.YtockhhfehjoldaaKBorderOf11
import Derived.Maps.OwnOps
import Derived.Maps.OwnSet
import Derived.DeepKeys4
import Derived.Lib.Hide
import Derived.WalkKit

/-
When a mesh is a sheet: by its edges, and by its sides. Conditions: the mesh is valid.
-/
namespace Go.Proofs.Ytockhhfehjoldaa
open Go Fk Go.RowKit
set_option linter.unusedVariables false
set_option maxRecDepth 8000

def sideT (t : List Int) : List (Int × Int) := [(t.getD 0 0, t.getD 1 0), (t.getD 1 0, t.getD 2 0), (t.getD 2 0, t.getD 0 0)]
def sidesL (ts : List (List Int)) : List (Int × Int) := ts.flatMap sideT
def goesB (t : List Int) (a b : Int) : Bool := (decide (t.getD 0 0 = a) && decide (t.getD 1 0 = b)) || ((decide (t.getD 1 0 = a) && decide (t.getD 2 0 = b)) || (decide (t.getD 2 0 = a) && decide (t.getD 0 0 = b)))
/-- What the model asks of an edge. -/
def okE (ts : List (List Int)) (a b : Int) : Bool :=
  !(decide (2 < (atL ts a b ts.length).length) || (decide ((atL ts a b ts.length).length = 2) && (goesB (ts.getD ((atL ts a b ts.length).getD 0 0).toNat []) a b == goesB (ts.getD ((atL ts a b ts.length).getD 1 0).toNat []) a b)))
def sheetB (n : Nat) (ts : List (List Int)) : Bool := (edgesT n ts).all fun r => okE ts (r.getD 0 0) (r.getD 1 0)
theorem goes_mem {t : List Int} {a b : Int} : goesB t a b = true ↔ (a, b) ∈ sideT t := by
  unfold goesB sideT
  simp only [Bool.or_eq_true, Bool.and_eq_true, decide_eq_true_eq, List.mem_cons, Prod.mk.injEq, List.not_mem_nil, or_false]
  constructor
  · rintro (⟨h, k⟩ | ⟨h, k⟩ | ⟨h, k⟩)
    · exact .inl ⟨h.symm, k.symm⟩
    · exact .inr (.inl ⟨h.symm, k.symm⟩)
    · exact .inr (.inr ⟨h.symm, k.symm⟩)
  · rintro (⟨h, k⟩ | ⟨h, k⟩ | ⟨h, k⟩)
    · exact .inl ⟨h.symm, k.symm⟩
    · exact .inr (.inl ⟨h.symm, k.symm⟩)
    · exact .inr (.inr ⟨h.symm, k.symm⟩)
structure Tri3 (n : Nat) (t : List Int) : Prop where
  d01 : t.getD 0 0 ≠ t.getD 1 0
  d12 : t.getD 1 0 ≠ t.getD 2 0
  d02 : t.getD 0 0 ≠ t.getD 2 0
  r0 : 0 ≤ t.getD 0 0 ∧ t.getD 0 0 < (n : Int)
  r1 : 0 ≤ t.getD 1 0 ∧ t.getD 1 0 < (n : Int)
  r2 : 0 ≤ t.getD 2 0 ∧ t.getD 2 0 < (n : Int)
theorem tri3_of {n : Nat} {t : List Int} (h : triB n t = true) : Tri3 n t := by
  have hp := (tri_partsh h).2
  unfold triB at h
  simp only [Bool.and_eq_true, decide_eq_true_eq] at h
  obtain ⟨_, ⟨h1, h2⟩, h3⟩ := h
  have k0 := hp 0 (by decide)
  have k1 := hp 1 (by decide)
  have k2 := hp 2 (by decide)
  exact ⟨h1, h2, h3, ⟨k0.1, by omega⟩, ⟨k1.1, by omega⟩, ⟨k2.1, by omega⟩⟩
theorem goes_both {n : Nat} {t : List Int} {p q : Int} (h : Tri3 n t) (hpq : p ≠ q) : (hasB t p && hasB t q) = (goesB t p q || goesB t q p) := by
  obtain ⟨h1, h2, h3, _, _, _⟩ := h
  unfold hasB goesB
  generalize t.getD 0 0 = x at *
  generalize t.getD 1 0 = y at *
  generalize t.getD 2 0 = z at *
  rw [Bool.eq_iff_iff]
  simp only [Bool.or_eq_true, Bool.and_eq_true, decide_eq_true_eq]
  omega
theorem goes_one {n : Nat} {t : List Int} {p q : Int} (h : Tri3 n t) (hg : goesB t p q = true) : goesB t q p = false := by
  obtain ⟨h1, h2, h3, _, _, _⟩ := h
  rw [Bool.eq_false_iff]
  unfold goesB at *
  generalize t.getD 0 0 = x at *
  generalize t.getD 1 0 = y at *
  generalize t.getD 2 0 = z at *
  simp only [ne_eq, Bool.or_eq_true, Bool.and_eq_true, decide_eq_true_eq] at *
  omega
theorem goes_ne {n : Nat} {t : List Int} {p q : Int} (h : Tri3 n t) (hg : goesB t p q = true) : p ≠ q ∧ (0 ≤ p ∧ p < n) ∧ (0 ≤ q ∧ q < n) := by
  obtain ⟨h1, h2, h3, _, _, _⟩ := h
  unfold goesB at *
  generalize t.getD 0 0 = x at *
  generalize t.getD 1 0 = y at *
  generalize t.getD 2 0 = z at *
  simp only [ne_eq, Bool.or_eq_true, Bool.and_eq_true, decide_eq_true_eq] at *
  omega
theorem atL_filter (ts : List (List Int)) (p q : Int) : ∀ k, atL ts p q k = ((List.range k).filter fun i => hasB (ts.getD i []) p && hasB (ts.getD i []) q).map fun i : Nat => (i : Int)
  | 0 => rfl
  | k + 1 => by
    rw [List.range_succ, List.filter_append, List.map_append, ← atL_filter ts p q k]
    cases h : (hasB (ts.getD k []) p && hasB (ts.getD k []) q)
    · rw [atL_no h, List.filter_cons, if_neg (by rw [h]; exact Bool.false_ne_true)]; simp
    · have h' := h
      rw [Bool.and_eq_true] at h'
      rw [atL_yes h'.1 h'.2]; simp only [List.filter_cons, h, if_true, List.filter_nil, List.map_cons, List.map_nil]
theorem mem_rowsE {L : List (Int × Int)} {n m : Nat} {r : List Int} : r ∈ rowsE L n m ↔ ∃ a b : Nat, a < m ∧ b < n ∧ a < b ∧ ((a : Int), (b : Int)) ∈ L ∧ r = [(a : Int), (b : Int)] := by
  unfold rowsE rowE
  simp only [List.mem_flatMap, List.mem_range, List.mem_map, List.mem_filter, Bool.and_eq_true, decide_eq_true_eq]
  constructor
  · rintro ⟨a, ha, b, ⟨hb, hab, hm⟩, rfl⟩
    exact ⟨a, b, ha, hb, hab, hm, rfl⟩
  · rintro ⟨a, b, ha, hb, hab, hm, rfl⟩
    exact ⟨a, ha, b, ⟨hb, hab, hm⟩, rfl⟩
/-- An edge is in the list just if a triangle goes along it. -/
theorem mem_keysE {ts : List (List Int)} {a b : Int} (hab : a < b) : (a, b) ∈ keysE ts ↔ ∃ t ∈ ts, goesB t a b = true ∨ goesB t b a = true := by
  unfold keysE
  rw [List.mem_flatMap]
  refine exists_congr fun t => and_congr_right fun _ => ?_
  unfold triE eKey goesB
  generalize t.getD 0 0 = x at *
  generalize t.getD 1 0 = y at *
  generalize t.getD 2 0 = z at *
  simp only [List.mem_cons, Prod.mk.injEq, List.not_mem_nil, or_false, Bool.or_eq_true, Bool.and_eq_true, decide_eq_true_eq]
  omega
theorem okE_false {ts : List (List Int)} {n : Nat} {p q : Int} (hT : ∀ i, i < ts.length → Tri3 n (ts.getD i [])) (hpq : p < q) (h : okE ts p q = false) : ∃ i j a b, i < j ∧ j < ts.length ∧ goesB (ts.getD i []) a b = true ∧ goesB (ts.getD j []) a b = true := by
  have hl := atL_filter ts p q ts.length
  have hm : ∀ i ∈ (List.range ts.length).filter (fun i => hasB (ts.getD i []) p && hasB (ts.getD i []) q), i < ts.length ∧ (goesB (ts.getD i []) p q = true ∨ goesB (ts.getD i []) q p = true) := fun i hi => by
    obtain ⟨h1, h2⟩ := List.mem_filter.1 hi
    have h1 := List.mem_range.1 h1
    rw [goes_both (hT i h1) (by omega), Bool.or_eq_true] at h2
    exact ⟨h1, h2⟩
  have hs : ((List.range ts.length).filter (fun i => hasB (ts.getD i []) p && hasB (ts.getD i []) q)).Pairwise (· < ·) := List.Pairwise.sublist List.filter_sublist List.pairwise_lt_range
  have hg : ∀ i, i < ts.length → (goesB (ts.getD i []) p q = true ∨ goesB (ts.getD i []) q p = true) → ∀ j, j < ts.length → (goesB (ts.getD j []) p q = true ∨ goesB (ts.getD j []) q p = true) → goesB (ts.getD i []) p q = goesB (ts.getD j []) p q → i < j → ∃ i j a b, i < j ∧ j < ts.length ∧ goesB (ts.getD i []) a b = true ∧ goesB (ts.getD j []) a b = true := fun i hi h1 j hj h2 he hij => by
    cases hc : goesB (ts.getD i []) p q
    · rw [hc] at he h1
      rw [← he] at h2
      exact ⟨i, j, q, p, hij, hj, by simpa using h1, by simpa using h2⟩
    · exact ⟨i, j, p, q, hij, hj, hc, by rw [← he]; exact hc⟩
  unfold okE at h
  rw [hl] at h
  generalize (List.range ts.length).filter (fun i => hasB (ts.getD i []) p && hasB (ts.getD i []) q) = l at *
  match l, hm, hs, h with
  | [], _, _, h => simp at h
  | [_], _, _, h => simp at h
  | [i, j], hm, hs, h =>
    obtain ⟨hi, gi⟩ := hm i (by simp)
    obtain ⟨hj, gj⟩ := hm j (by simp)
    have hij : i < j := (List.pairwise_cons.1 hs).1 j (by simp)
    simp only [List.map_cons, List.map_nil, List.length_cons, List.length_nil, Nat.reduceAdd, Nat.lt_irrefl, decide_false, Bool.false_or, decide_true, Bool.true_and, List.getD_cons_zero, List.getD_cons_succ, Int.toNat_natCast, Bool.not_eq_false', beq_iff_eq] at h
    exact hg i hi gi j hj gj h hij
  | i :: j :: k :: r, hm, hs, _ =>
    obtain ⟨hi, gi⟩ := hm i (by simp)
    obtain ⟨hj, gj⟩ := hm j (by simp)
    obtain ⟨hk, gk⟩ := hm k (by simp)
    obtain ⟨s1, s2⟩ := List.pairwise_cons.1 hs
    have hij := s1 j (by simp)
    have hik := s1 k (by simp)
    have hjk := (List.pairwise_cons.1 s2).1 k (by simp)
    by_cases e1 : goesB (ts.getD i []) p q = goesB (ts.getD j []) p q
    · exact hg i hi gi j hj gj e1 hij
    · by_cases e2 : goesB (ts.getD i []) p q = goesB (ts.getD k []) p q
      · exact hg i hi gi k hk gk e2 hik
      · refine hg j hj gj k hk gk ?_ hjk
        cases h1 : goesB (ts.getD i []) p q <;> cases h2 : goesB (ts.getD j []) p q <;> cases h3 : goesB (ts.getD k []) p q <;> simp_all
theorem okE_true {ts : List (List Int)} {n : Nat} {p q : Int} (hT : ∀ i, i < ts.length → Tri3 n (ts.getD i [])) (hpq : p < q) (h : okE ts p q = true) {i j : Nat} (hij : i < j) (hj : j < ts.length) (gi : goesB (ts.getD i []) p q = true ∨ goesB (ts.getD i []) q p = true) (gj : goesB (ts.getD j []) p q = true ∨ goesB (ts.getD j []) q p = true) : goesB (ts.getD i []) p q ≠ goesB (ts.getD j []) p q := by
  have hl := atL_filter ts p q ts.length
  have hmem : ∀ i, i < ts.length → (goesB (ts.getD i []) p q = true ∨ goesB (ts.getD i []) q p = true) → i ∈ (List.range ts.length).filter (fun i => hasB (ts.getD i []) p && hasB (ts.getD i []) q) := fun i hi g => by
    refine List.mem_filter.2 ⟨List.mem_range.2 hi, ?_⟩
    rw [goes_both (hT i hi) (by omega), Bool.or_eq_true]
    exact g
  have mi := hmem i (by omega) gi
  have mj := hmem j hj gj
  have hs : ((List.range ts.length).filter (fun i => hasB (ts.getD i []) p && hasB (ts.getD i []) q)).Pairwise (· < ·) := List.Pairwise.sublist List.filter_sublist List.pairwise_lt_range
  unfold okE at h
  rw [hl] at h
  generalize (List.range ts.length).filter (fun i => hasB (ts.getD i []) p && hasB (ts.getD i []) q) = l at *
  match l, mi, mj, hs, h with
  | [], mi, _, _, _ => simp at mi
  | [x], mi, mj, _, _ => simp at mi mj; omega
  | [x, y], mi, mj, hs, h =>
    have hxy : x < y := (List.pairwise_cons.1 hs).1 y (by simp)
    simp only [List.mem_cons, List.not_mem_nil, or_false] at mi mj
    obtain ⟨rfl, rfl⟩ : i = x ∧ j = y := by omega
    simp only [List.map_cons, List.map_nil, List.length_cons, List.length_nil, Nat.reduceAdd, Nat.lt_irrefl, decide_false, Bool.false_or, decide_true, Bool.true_and, List.getD_cons_zero, List.getD_cons_succ, Int.toNat_natCast, Bool.not_eq_true', beq_eq_false_iff_ne] at h
    exact h
  | x :: y :: z :: r, _, _, _, h => simp at h
theorem sheet_iff {cs : List C3} {ts : List (List Int)} (hv : validB cs ts = true) : sheetB cs.length ts = decide (sidesL ts).Nodup := by
  have hT : ∀ i, i < ts.length → Tri3 cs.length (ts.getD i []) := fun i hi => tri3_of (valid_rowh hv hi)
  have hnd : (sidesL ts).Nodup ↔ ∀ i j a b, i < j → j < ts.length → goesB (ts.getD i []) a b = true → goesB (ts.getD j []) a b = true → False := by
    unfold sidesL List.Nodup
    rw [List.pairwise_flatMap]
    constructor
    · rintro ⟨_, h⟩ i j a b hij hj gi gj
      rw [List.pairwise_iff_getElem] at h
      have := h i j (by omega) hj hij (a, b) (by have := goes_mem.1 gi; simpa [List.getD, show i < ts.length by omega] using this) (a, b) (by have := goes_mem.1 gj; simpa [List.getD, hj] using this)
      exact this rfl
    · intro h
      refine ⟨fun t ht => ?_, ?_⟩
      · obtain ⟨i, hi, rfl⟩ := List.mem_iff_getElem.1 ht
        obtain ⟨h1, h2, h3, _, _, _⟩ := hT i hi
        have e : ts.getD i [] = ts[i] := by simp [List.getD, hi]
        rw [e] at h1 h2 h3
        unfold sideT
        simp only [List.pairwise_cons, List.mem_cons, List.not_mem_nil, or_false, forall_eq_or_imp, forall_eq, ne_eq, Prod.mk.injEq, not_and, List.Pairwise.nil, and_true, false_imp_iff, implies_true]
        refine ⟨⟨fun e => absurd e h1, fun e => absurd e h3⟩, fun e => absurd e h2⟩
      · rw [List.pairwise_iff_getElem]
        intro i j hi hj hij x hx y hy e
        subst e
        refine h i j x.1 x.2 hij hj (goes_mem.2 (by simpa [List.getD, hi] using hx)) (goes_mem.2 (by simpa [List.getD, hj] using hy))
  cases hs : sheetB cs.length ts
  · refine (decide_eq_false fun hn => ?_).symm
    rw [hnd] at hn
    unfold sheetB at hs
    rw [← Bool.not_eq_true, List.all_eq_true] at hs
    apply hs
    intro r hr
    obtain ⟨a, b, ha, hb, hab, hm, rfl⟩ := mem_rowsE.1 hr
    cases ho : okE ts (a : Int) (b : Int)
    · obtain ⟨i, j, x, y, hij, hj, gi, gj⟩ := okE_false hT (by omega) ho
      exact absurd (hn i j x y hij hj gi gj) id
    · exact ho
  · refine (decide_eq_true ?_).symm
    rw [hnd]
    intro i j a b hij hj gi gj
    unfold sheetB at hs
    rw [List.all_eq_true] at hs
    obtain ⟨hne, ra, rb⟩ := goes_ne (hT i (by omega)) gi
    have key : ∀ p q : Int, p < q → (0 ≤ p ∧ p < cs.length) → (0 ≤ q ∧ q < cs.length) → (goesB (ts.getD i []) p q = true ∨ goesB (ts.getD i []) q p = true) → (goesB (ts.getD j []) p q = true ∨ goesB (ts.getD j []) q p = true) → goesB (ts.getD i []) p q = goesB (ts.getD j []) p q → False := fun p q hpq hp hq g1 g2 e => by
      have hmk : (p, q) ∈ keysE ts := (mem_keysE hpq).2 ⟨ts.getD i [], by rw [List.getD, List.getElem?_eq_getElem (show i < ts.length by omega)]; exact List.getElem_mem _, g1⟩
      have hr : [p, q] ∈ edgesT cs.length ts := mem_rowsE.2 ⟨p.toNat, q.toNat, by omega, by omega, by omega, by rw [Int.toNat_of_nonneg hp.1, Int.toNat_of_nonneg hq.1]; exact hmk, by rw [Int.toNat_of_nonneg hp.1, Int.toNat_of_nonneg hq.1]⟩
      exact okE_true hT hpq (hs _ hr) hij hj g1 g2 e
    by_cases hlt : a < b
    · exact key a b hlt ra rb (.inl gi) (.inl gj) (by rw [gi, gj])
    · exact key b a (by omega) rb ra (.inr gi) (.inr gj) (by rw [goes_one (hT i (by omega)) gi, goes_one (hT j hj) gj])
end Go.Proofs.Ytockhhfehjoldaa


/-
Maps whose keys are sides: how a key reads, and what a map of flags holds. Conditions: none.
-/
namespace Go.Proofs.Ytockhhfehjoldaa
open Go Fk Go.RowKit Go.Maps
set_option linter.unusedVariables false
set_option maxRecDepth 8000

theorem laidOutP : laidOutB Try.prog = true := by kernel_rfl
theorem sizeP : ∃ m, Try.prog.types.size = m + 1 := ⟨Try.prog.types.size - 1, by kernel_rfl⟩
theorem sideWide : (match Try.prog.underlying 96 with | some (.array _ _) | some (.struct _) => true | _ => false) = true := by kernel_rfl
theorem sideType : Try.prog.keyTypeAt 2 96 = true := by kernel_rfl
theorem sideKey : Try.prog.keyType 96 = true := by kernel_rfl
theorem sideCells : Try.prog.cellsOf 96 = 2 := by kernel_rfl
theorem intCells : Try.prog.cellsOf 2 = 1 := by kernel_rfl
theorem sideTiled : Try.prog.tiled 2 96 = true := tiled_of_laidOut laidOutP 2 _ (by kernel_rfl) sideType
theorem sideKeyed : Keyed Try.prog 96 := Keyed.of_law (deep_law_laid laidOutP (m := 2) (by omega) (of_decide_eq_true (by kernel_rfl)) sideType sideWide)
/-- What a pair of numbers reads as. -/
def kS (s : Int × Int) : Lit := .string (keyBytes [.int .i64 s.1, .int .i64 s.2])
theorem keyOf_side {a b : Int} (wa : (Lit.int .i64 a).wf = true) (wb : (Lit.int .i64 b).wf = true) : keyOf Try.prog 96 (.agg #[.int .i64 a, .int .i64 b]) = some (kS (a, b)) := by
  have us := Try.underlying96
  have ui := Try.underlying2
  obtain ⟨m, hm⟩ := sizeP
  unfold keyOf
  simp only [us]
  rw [if_pos (by simp [sideKey, Value.formed, us, sideCells]), hm]
  unfold Program.keyLits
  simp only [us, Value.cells]
  rw [if_pos (by rw [sideCells]; exact ⟨rfl, by kernel_rfl⟩)]
  simp [Program.keyLits, ui, intCells, wa, wb, kS]
theorem kS_inj {a b c d : Int} (wa : (Lit.int .i64 a).wf = true) (wb : (Lit.int .i64 b).wf = true) (wc : (Lit.int .i64 c).wf = true) (wd : (Lit.int .i64 d).wf = true) (h : kS (a, b) = kS (c, d)) : (a, b) = (c, d) := by
  have h1 := keyOf_side wa wb
  have h2 := keyOf_side wc wd
  rw [h] at h1
  have := keyOf_inj_deep sideTiled sideWide h1 h2
  simpa using this
theorem kS_key (s : Int × Int) : WideAt.IsKeyLit (kS s) := by
  unfold kS
  exact trivial
end Go.Proofs.Ytockhhfehjoldaa


/-
The triangles of a mesh as arrays: what the program makes of them. Conditions: each has three places.
-/
namespace Go.Proofs.Ytockhhfehjoldaa
open Go Fk Go.RowKit
set_option linter.unusedVariables false
set_option maxRecDepth 8000

def IsCs (w : World) (b n : Nat) (ts : List (List Int)) : Prop := ∀ k, k < n → w.cell? ⟨b, k * 3, none⟩ = some (.int .i64 ((ts.getD k []).getD 0 0)) ∧ w.cell? ⟨b, k * 3 + 1, none⟩ = some (.int .i64 ((ts.getD k []).getD 1 0)) ∧ w.cell? ⟨b, k * 3 + 2, none⟩ = some (.int .i64 ((ts.getD k []).getD 2 0))
theorem IsCs.below {W w : World} {b n : Nat} {ts : List (List Int)} (hb : Below W.heap.size W w) (h : IsCs W b n ts) : IsCs w b n ts := fun k hk => ⟨cell_below hb (h k hk).1, cell_below hb (h k hk).2.1, cell_below hb (h k hk).2.2⟩
theorem infoC : (Try.prog.info? 83).map (fun i => (i.zero, i.size, i.bytes)) = some (some (.agg #[.int .i64 0, .int .i64 0, .int .i64 0]), 3, 24) := by kernel_rfl
theorem all_corners' (pa ta : Option Addr) (pl pc tl tc : Nat) (ts : List (List Int)) (w : World) (h : IsTs w ta tl tc ts) (h3 : ∀ k, k < tl → (ts.getD k []).length = 3) (hlen : tl ≤ 128) :
    Calls Try.prog 63 #[.agg #[.slice pa pl pc, .slice ta tl tc]] w fun e w' => e = .returned (.slice (some ⟨w.heap.size + 1, 0, none⟩) tl tl) ∧ IsCs w' (w.heap.size + 1) tl ts ∧ Below w.heap.size w w' ∧ w.heap.size + 1 < w'.heap.size ∧ ∀ i, w'.frozen? ⟨w.heap.size + 1, i, none⟩ = false := by
  have ui := Try.underlying31
  have uc := Try.underlying83
  obtain ⟨i0, hi, hz0, hz1, hz2⟩ := info_parts infoC
  have hmk : (Instr.makeSlice 80 (.int .i64 tl) (.int .i64 tl)).run Try.prog (w.alloc (.cells #[.slice pa pl pc, .slice ta tl tc] 31)) = .ok (.slice (some ⟨w.heap.size + 1, 0, none⟩) tl tl) ((w.alloc (.cells #[.slice pa pl pc, .slice ta tl tc] 31)).alloc (.cells (madeCells #[.int .i64 0, .int .i64 0, .int .i64 0] (tl * 3)) 83)) := by
    have := run_make (P := Try.prog) (w.alloc (.cells #[.slice pa pl pc, .slice ta tl tc] 31)) 80 83 i0 (.agg #[.int .i64 0, .int .i64 0, .int .i64 0]) Try.underlying80 hi hz0 .i64 .i64 tl tl (by omega) (Int.le_refl _) (by rw [hz2]; omega) (by omega)
    rw [this, hz1]; simp; rfl
  have hstart : Below w.heap.size w ((w.alloc (.cells #[.slice pa pl pc, .slice ta tl tc] 31)).alloc (.cells (madeCells #[.int .i64 0, .int .i64 0, .int .i64 0] (tl * 3)) 83)) ∧ w.heap.size + 1 < ((w.alloc (.cells #[.slice pa pl pc, .slice ta tl tc] 31)).alloc (.cells (madeCells #[.int .i64 0, .int .i64 0, .int .i64 0] (tl * 3)) 83)).heap.size ∧
      (∀ j, j < tl * 3 → ∃ v, ((w.alloc (.cells #[.slice pa pl pc, .slice ta tl tc] 31)).alloc (.cells (madeCells #[.int .i64 0, .int .i64 0, .int .i64 0] (tl * 3)) 83)).cell? ⟨w.heap.size + 1, j, none⟩ = some v) ∧ (∀ j, ((w.alloc (.cells #[.slice pa pl pc, .slice ta tl tc] 31)).alloc (.cells (madeCells #[.int .i64 0, .int .i64 0, .int .i64 0] (tl * 3)) 83)).frozen? ⟨w.heap.size + 1, j, none⟩ = false) := by
    refine ⟨((Below.refl _ _).alloc (Nat.le_refl _) _).alloc (by simp) _, by simp, fun j hj => ?_, fun j => by simp⟩
    have := made_cell3 (w.alloc (.cells #[.slice pa pl pc, .slice ta tl tc] 31)) #[.int .i64 0, .int .i64 0, .int .i64 0] (tl * 3) j 83 hj
    simpa using this
  have HST := Lib.hid hstart
  clear hstart
  go_enter Try.func63, Try.ntmps63
  go_wp2
  generalize hw0 : (w.alloc (.cells #[.slice pa pl pc, .slice ta tl tc] 31)).alloc (.cells (madeCells #[.int .i64 0, .int .i64 0, .int .i64 0] (tl * 3)) 83) = w0 at HST ⊢
  go_loopw [13] (fun i w' => ∃ k : Nat, k ≤ tl ∧ i = .int .i64 k ∧ Aside ((Below w.heap.size w w' ∧ w.heap.size + 1 < w'.heap.size ∧ (∀ j, j < tl * 3 → ∃ v, w'.cell? ⟨w.heap.size + 1, j, none⟩ = some v) ∧ (∀ j, w'.frozen? ⟨w.heap.size + 1, j, none⟩ = false)) ∧ IsCs w' (w.heap.size + 1) k ts)) (fun i _ => tl - (intOf i).toNat)
  case atStart => exact ⟨0, Nat.zero_le _, rfl, HST.out, fun j hj => absurd hj (by omega)⟩
  case round =>
    obtain ⟨k, hk, rfl, hA⟩ := hrel
    by_cases hlt : k < tl
    · obtain ⟨⟨hB, hgs, hce, hfz⟩, hdone⟩ := hA.out
      have h' := h.below hB
      obtain ⟨bt, ot, rfl, hrow⟩ := h'.some (by omega)
      obtain ⟨r1, n1, q1, cr, ir⟩ := hrow k hlt
      have hn1 : n1 = 3 := ir.1.symm.trans (h3 k hlt)
      subst hn1
      obtain ⟨br, or, rfl, hz⟩ := ir.some (by decide)
      have z0 := hz 0 (by decide)
      have z1 := hz 1 (by decide)
      have z2 := hz 2 (by decide)
      rw [Nat.add_zero] at z0
      have hk0 : (0 : Int) ≤ (k : Int) := by omega
      have hk1 : (k : Int) < (tl : Int) := by omega
      have hf0 := hfz (k * 3)
      have hf1 := hfz (k * 3 + 1)
      have hf2 := hfz (k * 3 + 2)
      obtain ⟨v0, hv0⟩ := hce (k * 3) (by omega)
      obtain ⟨v1, hv1⟩ := hce (k * 3 + 1) (by omega)
      obtain ⟨v2, hv2⟩ := hce (k * 3 + 2) (by omega)
      have HD := Lib.hid hdone
      have HC := Lib.hid hce
      have HF := Lib.hid hfz
      have HB := Lib.hid hB
      generalize hj0 : (ts.getD k []).getD 0 0 = j0 at *
      generalize hj1 : (ts.getD k []).getD 1 0 = j1 at *
      generalize hj2 : (ts.getD k []).getD 2 0 = j2 at *
      have HJ := Lib.hid (And.intro hj0 (And.intro hj1 hj2))
      clear hA hrow h' hdone hce hfz hB h hw0 HST hmk ir hz hj0 hj1 hj2 h3 hi
      go_wp2
      rename_i hKc
      refine hKc _ _ ?_
      go_wp2
      go_roundw
      case rel =>
        obtain ⟨e0, e1, e2, eo⟩ := set3k (u := .int .i64 j0) (v := .int .i64 j1) (t := .int .i64 j2) hv0 hv1 hv2
        refine ⟨k + 1, by omega, by go_num, ⟨⟨((HB.out.setCell (Nat.le_succ _) _).setCell (Nat.le_succ _) _).setCell (Nat.le_succ _) _, by simp <;> omega, fun j hj => ?_, fun j => ?_⟩, fun j hj => ?_⟩⟩
        · by_cases h0 : j = k * 3
          · subst h0; exact ⟨_, e0⟩
          · by_cases h1 : j = k * 3 + 1
            · subst h1; exact ⟨_, e1⟩
            · by_cases h2 : j = k * 3 + 2
              · subst h2; exact ⟨_, e2⟩
              · obtain ⟨v, hv⟩ := HC.out j hj
                exact ⟨v, by rw [eo j h0 h1 h2]; exact hv⟩
        · simp; exact HF.out j
        · by_cases hjk : j = k
          · subst hjk; rw [HJ.out.1, HJ.out.2.1, HJ.out.2.2]; exact ⟨e0, e1, e2⟩
          · obtain ⟨k0, k1, k2⟩ := HD.out j (by omega)
            exact ⟨by rw [eo _ (by omega) (by omega) (by omega)]; exact k0, by rw [eo _ (by omega) (by omega) (by omega)]; exact k1, by rw [eo _ (by omega) (by omega) (by omega)]; exact k2⟩
      case measure => simp [intOf]; omega
    · obtain rfl : k = tl := by omega
      obtain ⟨⟨hB, hgs, hce, hfz⟩, hdone⟩ := hA.out
      have HF := Lib.hid hdone
      have HB := Lib.hid hB
      have HZ := Lib.hid hfz
      clear hA hB hce hfz hdone h h3 hmk hw0 HST
      go_wp2
      go_ret
      exact ⟨rfl, HF.out, HB.out, hgs, HZ.out⟩
theorem all_corners (pa ta : Option Addr) (pl pc tl tc : Nat) (ts : List (List Int)) (w : World) (h : IsTs w ta tl tc ts) (h3 : ∀ k, k < tl → (ts.getD k []).length = 3) (hlen : tl ≤ 128) :
    Calls Try.prog 63 #[.agg #[.slice pa pl pc, .slice ta tl tc]] w fun e w' => e = .returned (.slice (some ⟨w.heap.size + 1, 0, none⟩) tl tl) ∧ IsCs w' (w.heap.size + 1) tl ts ∧ Below w.heap.size w w' ∧ w.heap.size + 1 < w'.heap.size :=
  (all_corners' pa ta pl pc tl tc ts w h h3 hlen).mono fun _ _ ⟨h1, h2, h3, h4, _⟩ => ⟨h1, h2, h3, h4⟩
end Go.Proofs.Ytockhhfehjoldaa


/-
Whether a mesh is a sheet: what the program returns. Conditions: the mesh lies in memory.
-/
namespace Go.Proofs.Ytockhhfehjoldaa
open Go Fk Go.RowKit Go.Maps
set_option linter.unusedVariables false
set_option maxRecDepth 16000

theorem Agree.of_grown {W w : World} {b : Nat} (hg : W.grownBy w (some b)) : Agree (fun q => q ≠ b) W w :=
  ⟨fun x i v hx hv => hg.cell hv (by simpa using hx), fun x i hx hl => by
    have := hg.block x hl (by simpa using hx)
    simp [World.frozen?, this], hg.size⟩
theorem IsCs.agree {S : Nat → Prop} {W w : World} {b n : Nat} {ts : List (List Int)} (h : IsCs W b n ts) (hb : S b) (hA : Agree S W w) : IsCs w b n ts := fun k hk =>
  ⟨hA.cell _ _ _ hb (h k hk).1, hA.cell _ _ _ hb (h k hk).2.1, hA.cell _ _ _ hb (h k hk).2.2⟩
theorem ownsMap_below {W V : World} {P : Program} {k : TypeId} {R : Value → Option (DataW Unit × List MemPlace)} {b n : Nat} {D : DataW Unit} (h : W.ownsMap P k R b n D) (hB : Below W.heap.size W V) : V.ownsMap P k R b n D := by
  have hbl := h.lt
  obtain ⟨es, clock, hb, F, hs, hD⟩ := h
  exact ⟨es, clock, (hB.block b hbl).trans hb, F, hs, hD⟩
/-- A map of flags that are set at these sides. -/
def FlagsOf (D : DataW Unit) (L : List (Int × Int)) : Prop := IsMap D ∧ ∀ a b, (Lit.int .i64 a).wf = true → (Lit.int .i64 b).wf = true → D.atKey (kS (a, b)) (.lit (.bool false)) = .lit (.bool (decide ((a, b) ∈ L)))
theorem FlagsOf.nil : FlagsOf (.map []) [] := ⟨isMap_empty, fun a b _ _ => by simp [DataW.atKey]⟩
theorem FlagsOf.put {D : DataW Unit} {L : List (Int × Int)} {x y : Int} (h : FlagsOf D L) (wx : (Lit.int .i64 x).wf = true) (wy : (Lit.int .i64 y).wf = true) : FlagsOf (D.put (kS (x, y)) (.lit (.bool true))) (L ++ [(x, y)]) := by
  refine ⟨h.1.put _ _, fun a b wa wb => ?_⟩
  by_cases e : (a, b) = (x, y)
  · rw [e, atKey_put_same h.1 (kS_key _)]
    simp
  · rw [atKey_put_other (fun e' => e (kS_inj wa wb wx wy e')), h.2 a b wa wb]
    simp only [List.mem_append, List.mem_singleton, e, or_false]
theorem flag_look {W : World} {b n : Nat} {D : DataW Unit} {L : List (Int × Int)} {x y : Int} (h : W.ownsMap Try.prog 96 (plainElem Try.prog 4) b n D) (hF : FlagsOf D L) (wx : (Lit.int .i64 x).wf = true) (wy : (Lit.int .i64 y).wf = true) :
    (Instr.lookup 114 (.map (some b)) (.agg #[.int .i64 x, .int .i64 y]) false).run Try.prog W = .ok (.bool (decide ((x, y) ∈ L))) W := by
  have ub := Try.underlying4
  obtain ⟨v, ps, hrun, hR⟩ := h.lookup sideKeyed Try.underlying114 (z := .bool false) (by kernel_rfl) (plainElem_bool ub false) (keyOf_side wx wy)
  rw [hF.2 x y wx wy] at hR
  have : v = .bool (decide ((x, y) ∈ L)) := by
    unfold plainElem at hR
    rw [ub] at hR
    cases v <;> simp_all
  rw [hrun, this]
def preS (ts : List (List Int)) (k j : Nat) : List (Int × Int) := (ts.take k).flatMap sideT ++ (sideT (ts.getD k [])).take j
theorem preS_zero (ts : List (List Int)) : preS ts 0 0 = [] := by simp [preS]
theorem preS_end (ts : List (List Int)) : preS ts ts.length 0 = sidesL ts := by simp [preS, sidesL]
theorem preS_next {ts : List (List Int)} {k : Nat} (hk : k < ts.length) : preS ts k 3 = preS ts (k + 1) 0 := by
  have e : ts.take (k + 1) = ts.take k ++ [ts.getD k []] := by
    rw [List.take_add_one, List.getElem?_eq_getElem hk]
    simp [List.getD, List.getElem?_eq_getElem hk]
  unfold preS
  rw [e, List.flatMap_append, List.flatMap_cons, List.flatMap_nil, List.append_nil, List.take_zero, List.append_nil]
  rfl
theorem preS_step {ts : List (List Int)} {k j : Nat} (hj : j < 3) : preS ts k (j + 1) = preS ts k j ++ [(sideT (ts.getD k [])).getD j (0, 0)] := by
  match j, hj with
  | 0, _ => simp [preS, sideT]
  | 1, _ => simp [preS, sideT]
  | 2, _ => simp [preS, sideT]
theorem preS_sub {ts : List (List Int)} {k j : Nat} (hk : k < ts.length) (hj : j ≤ 3) : (preS ts k j).Sublist (sidesL ts) := by
  have h3 : preS ts k 3 = (ts.take (k + 1)).flatMap sideT := by rw [preS_next hk]; simp [preS]
  have h1 : (preS ts k j).Sublist (preS ts k 3) := by
    unfold preS
    exact List.Sublist.append_left (by rw [show (sideT (ts.getD k [])).take 3 = sideT (ts.getD k []) from rfl]; exact List.take_sublist _ _) _
  refine h1.trans ?_
  rw [h3]
  unfold sidesL
  conv => rhs; rw [← List.take_append_drop (k + 1) ts]
  rw [List.flatMap_append]
  exact List.sublist_append_left _ _
theorem preS_twice {ts : List (List Int)} {k j : Nat} (hk : k < ts.length) (hj : j < 3) (h : (sideT (ts.getD k [])).getD j (0, 0) ∈ preS ts k j) : decide (sidesL ts).Nodup = false := by
  refine decide_eq_false fun hn => ?_
  have := hn.sublist (preS_sub hk (show j + 1 ≤ 3 by omega))
  rw [preS_step hj, List.nodup_append] at this
  exact this.2.2 _ h _ (by simp) rfl
theorem preS_once {ts : List (List Int)} {k j : Nat} (hj : j < 3) (hn : (preS ts k j).Nodup) (h : ¬ (sideT (ts.getD k [])).getD j (0, 0) ∈ preS ts k j) : (preS ts k (j + 1)).Nodup := by
  rw [preS_step hj, List.nodup_append]
  refine ⟨hn, by simp, fun a ha b hb e => ?_⟩
  simp only [List.mem_singleton] at hb
  rw [← hb, ← e] at h
  exact h ha
theorem side_ix (a b c d e f : Int) (j : Nat) (hj : j < 3) : ∀ w, (Instr.index 97 (.agg #[.int .i64 a, .int .i64 b, .int .i64 c, .int .i64 d, .int .i64 e, .int .i64 f]) (.int .i64 (j : Int))).run Try.prog w = .ok (.agg #[.int .i64 ([a, c, e].getD j 0), .int .i64 ([b, d, f].getD j 0)]) w := by
  have u := Try.underlying96
  have ua := Try.underlying97
  intro w
  have : j = 0 ∨ j = 1 ∨ j = 2 := by omega
  rcases this with rfl | rfl | rfl
  all_goals
    first
      | rfl
      | (simp [Instr.index, u, ua, go_sem]; done)
theorem impl_sides (a b c : Int) (w : World) : Calls Try.prog 73 #[.agg #[.int .i64 a, .int .i64 b, .int .i64 c]] w fun e w' => e = .returned (.agg #[.int .i64 a, .int .i64 b, .int .i64 b, .int .i64 c, .int .i64 c, .int .i64 a]) ∧ Below w.heap.size w w' := by
  have uc := Try.underlying83
  have us := Try.underlying96
  have ua := Try.underlying97
  go_enter Try.func73, Try.ntmps73
  go_wp2
  refine bodyPost_ret (v := .agg #[.int .i64 a, .int .i64 b, .int .i64 b, .int .i64 c, .int .i64 c, .int .i64 a]) (by simp [results, Try.results73, go_sem]) rfl ?_
  exact ⟨rfl, ((Below.refl _ _).alloc (Nat.le_refl _) _).alloc (by simp) _⟩
end Go.Proofs.Ytockhhfehjoldaa

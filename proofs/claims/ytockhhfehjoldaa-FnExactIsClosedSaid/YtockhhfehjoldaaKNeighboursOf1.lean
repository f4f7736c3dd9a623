/-
Texts in one: what NeighboursOf stands on, part 1. Conditions: those of each.
-/
import Derived.Test.YtockhhfehjoldaaKNeighboursOf0

/-
The neighbours of a place, as lists: by edges in order, and by triangles. Conditions: the triangles are a valid mesh's.
-/
namespace Go.Proofs.Ytockhhfehjoldaa
open Go Fk Go.RowKit Go.Maps Go.Sort
set_option linter.unusedVariables false
set_option maxRecDepth 8000

def nbF (e : Int × Int) (p : Int) : List Int := (bif decide (e.1 = p) then [e.2] else []) ++ (bif decide (e.2 = p) then [e.1] else [])
/-- What the first k edges give a place. -/
def nbL (ps : List (Int × Int)) (p : Int) : Nat → List Int
  | 0 => []
  | k + 1 => nbL ps p k ++ nbF (ps.getD k (0, 0)) p
theorem nbL_s (ps : List (Int × Int)) (p : Int) (k : Nat) : nbL ps p (k + 1) = nbL ps p k ++ nbF (ps.getD k (0, 0)) p := rfl
theorem mem_nbF {e : Int × Int} {p z : Int} : z ∈ nbF e p ↔ (e.1 = p ∧ z = e.2) ∨ (e.2 = p ∧ z = e.1) := by
  unfold nbF
  by_cases h1 : e.1 = p <;> by_cases h2 : e.2 = p <;> simp [h1, h2]
theorem nbL_flat (ps : List (Int × Int)) (p : Int) : ∀ {k}, k ≤ ps.length → nbL ps p k = (ps.take k).flatMap fun e => nbF e p
  | 0, _ => by simp [nbL]
  | k + 1, hk => by
    have ih := nbL_flat ps p (k := k) (by omega)
    have e : ps.take (k + 1) = ps.take k ++ [ps.getD k (0, 0)] := by
      rw [List.take_add_one, List.getElem?_eq_getElem (by omega)]
      simp [List.getD, List.getElem?_eq_getElem (show k < ps.length by omega)]
    rw [nbL_s, e, List.flatMap_append, ih, List.flatMap_cons, List.flatMap_nil, List.append_nil]
theorem nbF_len (e : Int × Int) (p : Int) : (nbF e p).length ≤ 2 := by
  unfold nbF
  by_cases h1 : e.1 = p <;> by_cases h2 : e.2 = p <;> simp [h1, h2]
theorem nbL_len (ps : List (Int × Int)) (p : Int) : ∀ k, (nbL ps p k).length ≤ 2 * k
  | 0 => by simp [nbL]
  | k + 1 => by
    have ih := nbL_len ps p k
    have := nbF_len (ps.getD k (0, 0)) p
    rw [nbL_s, List.length_append]
    omega
theorem mem_nbL {ps : List (Int × Int)} {p z : Int} : z ∈ nbL ps p ps.length ↔ ∃ e ∈ ps, (e.1 = p ∧ z = e.2) ∨ (e.2 = p ∧ z = e.1) := by
  rw [nbL_flat ps p (Nat.le_refl _), List.take_length, List.mem_flatMap]
  simp only [mem_nbF]
theorem nbL_rises (L : List (Int × Int)) (n : Nat) (p : Int) : Rises (nbL (pairsL L n) p (pairsL L n).length) := by
  have hlt : ∀ e ∈ pairsL L n, e.1 < e.2 := fun e he => by
    obtain ⟨a, b, _, _, hab, _, rfl⟩ := mem_pairsL.1 he
    show (a : Int) < (b : Int)
    omega
  rw [nbL_flat _ p (Nat.le_refl _), List.take_length]
  unfold Rises
  rw [List.pairwise_flatMap]
  refine ⟨fun e he => ?_, ?_⟩
  · have := hlt e he
    unfold nbF
    by_cases h1 : e.1 = p
    · have h2 : ¬ e.2 = p := by omega
      simp [h1, h2]
    · by_cases h2 : e.2 = p <;> simp [h1, h2]
  · refine List.Pairwise.imp_of_mem (fun {a b} ha hb h x hx y hy => ?_) (pairsL_sorted L n)
    have h1 := hlt a ha
    have h2 := hlt b hb
    rw [mem_nbF] at hx hy
    unfold ltE at h
    simp at h
    omega
/-- What the corners of a triangle put beside a place. -/
def putsT (L : List Int) (t : List Int) (p : Int) : Nat → List Int
  | 0 => L
  | j + 1 => bif decide (t.getD j 0 = p) then putsT L t p j else putL (putsT L t p j) (t.getD j 0)
theorem putsT_s (L t : List Int) (p : Int) (j : Nat) : putsT L t p (j + 1) = bif decide (t.getD j 0 = p) then putsT L t p j else putL (putsT L t p j) (t.getD j 0) := rfl
def nearL (ts : List (List Int)) (p : Int) : Nat → List Int
  | 0 => []
  | k + 1 => bif hasB (ts.getD k []) p then putsT (nearL ts p k) (ts.getD k []) p 3 else nearL ts p k
theorem nearL_s (ts : List (List Int)) (p : Int) (k : Nat) : nearL ts p (k + 1) = bif hasB (ts.getD k []) p then putsT (nearL ts p k) (ts.getD k []) p 3 else nearL ts p k := rfl
theorem putsT_len (L t : List Int) (p : Int) : ∀ j, (putsT L t p j).length ≤ L.length + j
  | 0 => by simp [putsT]
  | j + 1 => by
    have ih := putsT_len L t p j
    have := putL_len (putsT L t p j) (t.getD j 0)
    rw [putsT_s]
    cases decide (t.getD j 0 = p)
    · simp only [cond_false]; omega
    · simp only [cond_true]; omega
theorem nearL_len (ts : List (List Int)) (p : Int) : ∀ k, (nearL ts p k).length ≤ 3 * k
  | 0 => by simp [nearL]
  | k + 1 => by
    have ih := nearL_len ts p k
    have := putsT_len (nearL ts p k) (ts.getD k []) p 3
    rw [nearL_s]
    cases hasB (ts.getD k []) p
    · simp only [cond_false]; omega
    · simp only [cond_true]; omega
theorem mem_putsT {L t : List Int} {p z : Int} : ∀ {j}, z ∈ putsT L t p j ↔ z ∈ L ∨ (z ≠ p ∧ ∃ i, i < j ∧ z = t.getD i 0)
  | 0 => by simp [putsT]
  | j + 1 => by
    have ih := mem_putsT (L := L) (t := t) (p := p) (z := z) (j := j)
    rw [putsT_s]
    by_cases h : t.getD j 0 = p
    · rw [decide_eq_true h, cond_true, ih]
      constructor
      · rintro (h1 | ⟨h1, i, hi, e⟩)
        · exact .inl h1
        · exact .inr ⟨h1, i, by omega, e⟩
      · rintro (h1 | ⟨h1, i, hi, e⟩)
        · exact .inl h1
        · refine .inr ⟨h1, i, ?_, e⟩
          by_cases hij : i = j
          · subst hij; exact absurd (e.trans h) h1
          · omega
    · rw [decide_eq_false h, cond_false, mem_putL, ih]
      constructor
      · rintro ((h1 | ⟨h1, i, hi, e⟩) | e)
        · exact .inl h1
        · exact .inr ⟨h1, i, by omega, e⟩
        · exact .inr ⟨by rw [e]; exact h, j, by omega, e⟩
      · rintro (h1 | ⟨h1, i, hi, e⟩)
        · exact .inl (.inl h1)
        · by_cases hij : i = j
          · subst hij; exact .inr e
          · exact .inl (.inr ⟨h1, i, by omega, e⟩)
theorem putsT_rises {L t : List Int} {p : Int} (hL : Rises L) : ∀ j, Rises (putsT L t p j)
  | 0 => hL
  | j + 1 => by
    have ih := putsT_rises (t := t) (p := p) hL j
    rw [putsT_s]
    cases decide (t.getD j 0 = p)
    · exact putL_rises ih
    · exact ih
theorem nearL_rises (ts : List (List Int)) (p : Int) : ∀ k, Rises (nearL ts p k)
  | 0 => List.Pairwise.nil
  | k + 1 => by
    have ih := nearL_rises ts p k
    rw [nearL_s]
    cases hasB (ts.getD k []) p
    · exact ih
    · exact putsT_rises ih 3
theorem mem_nearL {ts : List (List Int)} {p z : Int} : ∀ {k}, z ∈ nearL ts p k ↔ ∃ i, i < k ∧ hasB (ts.getD i []) p = true ∧ z ≠ p ∧ ∃ j, j < 3 ∧ z = (ts.getD i []).getD j 0
  | 0 => by simp [nearL]
  | k + 1 => by
    have ih := mem_nearL (ts := ts) (p := p) (z := z) (k := k)
    rw [nearL_s]
    cases h : hasB (ts.getD k []) p
    · rw [cond_false, ih]
      constructor
      · rintro ⟨i, hi, r⟩
        exact ⟨i, by omega, r⟩
      · rintro ⟨i, hi, h1, r⟩
        refine ⟨i, ?_, h1, r⟩
        by_cases hik : i = k
        · subst hik; rw [h] at h1; cases h1
        · omega
    · rw [cond_true, mem_putsT, ih]
      constructor
      · rintro (⟨i, hi, r⟩ | ⟨h1, j, hj, e⟩)
        · exact ⟨i, by omega, r⟩
        · exact ⟨k, by omega, h, h1, j, hj, e⟩
      · rintro ⟨i, hi, h1, h2, j, hj, e⟩
        by_cases hik : i = k
        · subst hik; exact .inr ⟨h2, j, hj, e⟩
        · exact .inl ⟨i, by omega, h1, h2, j, hj, e⟩
theorem near_is {ts : List (List Int)} {n : Nat} (hT : ∀ i, i < ts.length → Tri3 n (ts.getD i [])) (p : Int) : nearL ts p ts.length = nbL (pairsL (keysE ts) n) p (pairsL (keysE ts) n).length := by
  refine rises_ext (nearL_rises _ _ _) (nbL_rises _ _ _) fun z => ?_
  rw [mem_nearL, mem_nbL]
  constructor
  · rintro ⟨i, hi, h1, h2, j, hj, e⟩
    have hk : eKey p z ∈ keysE ts := by
      unfold keysE
      refine List.mem_flatMap.2 ⟨ts.getD i [], by rw [List.getD, List.getElem?_eq_getElem hi]; exact List.getElem_mem _, ?_⟩
      obtain ⟨n1, n2, n3, _, _, _⟩ := hT i hi
      unfold hasB at h1
      simp only [Bool.or_eq_true, decide_eq_true_eq] at h1
      unfold triE eKey
      generalize (ts.getD i []) = t at *
      simp only [List.mem_cons, Prod.mk.injEq, List.not_mem_nil, or_false]
      match j, hj with
      | 0, _ => subst e; omega
      | 1, _ => subst e; omega
      | 2, _ => subst e; omega
    obtain ⟨a, b, hab, hb, hke⟩ := keys_in hT hk
    refine ⟨eKey p z, mem_pairsL.2 ⟨a, b, by omega, hb, hab, by rw [← hke]; exact hk, hke⟩, ?_⟩
    unfold eKey
    simp only
    omega
  · rintro ⟨e, he, hz⟩
    obtain ⟨a, b, _, _, hab, hm, rfl⟩ := mem_pairsL.1 he
    simp only at hz
    unfold keysE at hm
    obtain ⟨t, ht, hm⟩ := List.mem_flatMap.1 hm
    obtain ⟨i, hi, rfl⟩ := List.getElem_of_mem ht
    have et : ts.getD i [] = ts[i] := by rw [List.getD, List.getElem?_eq_getElem hi]; rfl
    refine ⟨i, hi, ?_⟩
    rw [et]
    generalize ts[i] = t at *
    unfold triE eKey at hm
    unfold hasB
    simp only [List.mem_cons, Prod.mk.injEq, List.not_mem_nil, or_false] at hm
    simp only [Bool.or_eq_true, decide_eq_true_eq]
    generalize hx : t.getD 0 0 = x at *
    generalize hy : t.getD 1 0 = y at *
    generalize hu : t.getD 2 0 = u at *
    have f1 : x = p ∨ (y = p ∨ u = p) := by omega
    have f2 : z ≠ p := by omega
    have f3 : z = x ∨ z = y ∨ z = u := by omega
    have main : z = x ∨ z = y ∨ z = u → ∃ j, j < 3 ∧ z = t.getD j 0 := fun h => by
      rcases h with h | h | h
      · exact ⟨0, by omega, by rw [hx]; exact h⟩
      · exact ⟨1, by omega, by rw [hy]; exact h⟩
      · exact ⟨2, by omega, by rw [hu]; exact h⟩
    exact ⟨f1, f2, main f3⟩
end Go.Proofs.Ytockhhfehjoldaa

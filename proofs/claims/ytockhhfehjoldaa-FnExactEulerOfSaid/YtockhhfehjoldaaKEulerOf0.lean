/-
Texts in one: what EulerOf stands on, part 0. Conditions: those of each.
-/
import Derived.Test.YtockhhfehjoldaaKNeighboursOf6

/-
How many keys the map of the edges has, and which places have triangles: pure facts. Conditions: the triangles are a valid mesh's.
-/
namespace Go.Proofs.Ytockhhfehjoldaa
open Go Fk Go.RowKit Go.Maps Go.WideElems
set_option linter.unusedVariables false
set_option maxRecDepth 8000

theorem map_len {w : World} {R : Value → Option (DataW Unit × List MemPlace)} {b n : Nat} {D : DataW Unit} {ps : List (Int × Int)} (h : w.ownsMap Try.prog 62 R b n D) (hnd : ps.Nodup) (hwf : ∀ x ∈ ps, wfE x) (hK : ∀ x, wfE x → (has D (kE x) = true ↔ x ∈ ps)) : Maps.size D = ps.length := by
  obtain ⟨l, hl, hp⟩ := h.tidy edgeKeyed
  have hk : ∀ p ∈ l, ∃ x, wfE x ∧ p.1 = kE x := fun p hp => by
    obtain ⟨es, clock, hb, F, hs, hD⟩ := h
    rw [hl] at hD
    cases hD
    obtain ⟨y, hy, rfl⟩ := List.mem_map.1 (mem_sorted.1 hp)
    obtain ⟨z, hz⟩ := F.reads y hy
    rw [rg_of hz]
    obtain ⟨a, b, _, wa, wb, e⟩ := keyOf_edge_inv (rd_key hz)
    exact ⟨(a, b), ⟨wa, wb⟩, e⟩
  subst hl
  have hnk : (l.map (·.1)).Nodup := by
    rw [List.nodup_iff_pairwise_ne, List.pairwise_map]
    exact hp
  have hns : (ps.map kE).Nodup := by
    rw [List.nodup_iff_pairwise_ne, List.pairwise_map]
    refine List.Pairwise.imp_of_mem (fun {a b} ha hb hab e => hab (kE_inj2 (hwf a ha) (hwf b hb) e)) hnd
  have hm : ∀ z, z ∈ l.map (·.1) ↔ z ∈ ps.map kE := fun z => by
    rw [List.mem_map, List.mem_map]
    constructor
    · rintro ⟨p, hp, rfl⟩
      obtain ⟨x, wx, e⟩ := hk p hp
      refine ⟨x, (hK x wx).1 ?_, e.symm⟩
      rw [has_eq]
      exact List.any_eq_true.2 ⟨p, hp, by rw [e]; exact kE_self x⟩
    · rintro ⟨x, hx, rfl⟩
      have hh := (hK x (hwf x hx)).2 hx
      rw [has_eq] at hh
      obtain ⟨p, hp, e⟩ := List.any_eq_true.1 hh
      exact ⟨p, hp, WideAt.sameKey_eq e⟩
  have hlen := ((List.perm_ext_iff_of_nodup hnk hns).2 hm).length_eq
  rw [List.length_map, List.length_map] at hlen
  exact hlen
theorem edges_size {w : World} {R : Value → Option (DataW Unit × List MemPlace)} {b m n : Nat} {D : DataW Unit} {ts : List (List Int)} (h : w.ownsMap Try.prog 62 R b m D) (hG : GroupsOf D (preI ts ts.length 0)) (hT : ∀ i, i < ts.length → Tri3 n (ts.getD i [])) (hn : n ≤ 64) : Maps.size D = (pairsL (keysE ts) n).length := by
  refine map_len h ((pairsL_sorted _ _).imp fun h e => by subst e; unfold ltE at h; simp at h) (fun x hx => ?_) (fun x wx => ⟨fun hh => ?_, fun hx => ?_⟩)
  · obtain ⟨a, b, ha, hb, _, _, rfl⟩ := mem_pairsL.1 hx
    exact ⟨WalkArith.wf_i64 (by omega), WalkArith.wf_i64 (by omega)⟩
  · have := (mem_preI ts _).1 (hG.2.2 x.1 x.2 wx.1 wx.2 hh)
    obtain ⟨a, b, hab, hb, e⟩ := keys_in hT this
    exact mem_pairsL.2 ⟨a, b, by omega, hb, hab, by rw [← e]; exact this, e⟩
  · obtain ⟨a, b, ha, hb, hab, hm, rfl⟩ := mem_pairsL.1 hx
    exact hG.has_of wx.1 wx.2 ((mem_preI ts _).2 hm)
/-- How many of the first k places f holds of. -/
def cntN (f : Nat → Bool) : Nat → Nat
  | 0 => 0
  | k + 1 => cntN f k + (bif f k then 1 else 0)
theorem cntN_s (f : Nat → Bool) (k : Nat) : cntN f (k + 1) = cntN f k + (bif f k then 1 else 0) := rfl
theorem cntN_le (f : Nat → Bool) : ∀ k, cntN f k ≤ k
  | 0 => Nat.le_refl _
  | k + 1 => by
    have := cntN_le f k
    rw [cntN_s]
    cases f k
    · simp only [cond_false]; omega
    · simp only [cond_true]; omega
theorem cntN_congr {f g : Nat → Bool} : ∀ {k}, (∀ j, j < k → f j = g j) → cntN f k = cntN g k
  | 0, _ => rfl
  | k + 1, h => by
    rw [cntN_s, cntN_s, cntN_congr (fun j hj => h j (by omega)), h k (by omega)]
theorem mem_atL {ts : List (List Int)} {p : Int} {z : Int} : ∀ {k}, z ∈ atL ts p p k ↔ ∃ i : Nat, i < k ∧ hasB (ts.getD i []) p = true ∧ z = (i : Int)
  | 0 => by simp [atL]
  | k + 1 => by
    have ih := mem_atL (ts := ts) (p := p) (z := z) (k := k)
    have hs : atL ts p p (k + 1) = atL ts p p k ++ (bif hasB (ts.getD k []) p && hasB (ts.getD k []) p then [(k : Int)] else []) := rfl
    rw [hs, List.mem_append, ih, Bool.and_self]
    cases h : hasB (ts.getD k []) p
    · simp only [cond_false, List.not_mem_nil, or_false]
      constructor
      · rintro ⟨i, hi, r⟩
        exact ⟨i, by omega, r⟩
      · rintro ⟨i, hi, h1, e⟩
        refine ⟨i, ?_, h1, e⟩
        by_cases hik : i = k
        · subst hik; rw [h] at h1; cases h1
        · omega
    · simp only [cond_true, List.mem_singleton]
      constructor
      · rintro (⟨i, hi, r⟩ | e)
        · exact ⟨i, by omega, r⟩
        · exact ⟨k, by omega, h, e⟩
      · rintro ⟨i, hi, h1, e⟩
        by_cases hik : i = k
        · subst hik; exact .inr e
        · exact .inl ⟨i, by omega, h1, e⟩
/-- A place has neighbours just if it has triangles. -/
theorem near_at {ts : List (List Int)} {n : Nat} (hT : ∀ i, i < ts.length → Tri3 n (ts.getD i [])) (p : Int) : decide (0 < (nbL (pairsL (keysE ts) n) p (pairsL (keysE ts) n).length).length) = decide (0 < (atL ts p p ts.length).length) := by
  rw [← near_is hT p]
  rw [decide_eq_decide]
  constructor
  · intro h
    obtain ⟨z, hz⟩ := List.exists_mem_of_length_pos h
    obtain ⟨i, hi, h1, _⟩ := mem_nearL.1 hz
    exact List.length_pos_of_mem (mem_atL.2 ⟨i, hi, h1, rfl⟩)
  · intro h
    obtain ⟨z, hz⟩ := List.exists_mem_of_length_pos h
    obtain ⟨i, hi, h1, _⟩ := mem_atL.1 hz
    obtain ⟨n1, n2, n3, _⟩ := hT i hi
    by_cases h0 : (ts.getD i []).getD 0 0 = p
    · exact List.length_pos_of_mem (mem_nearL.2 ⟨i, hi, h1, fun e => n1 (h0.trans e.symm), 1, by omega, rfl⟩)
    · exact List.length_pos_of_mem (mem_nearL.2 ⟨i, hi, h1, h0, 0, by omega, rfl⟩)
/-- The number of Euler, and what is answered. -/
def eulN (n : Nat) (ts : List (List Int)) : Int := (cntN (fun j => decide (0 < (atL ts (j : Int) (j : Int) ts.length).length)) n : Int) - ((pairsL (keysE ts) n).length : Int) + (ts.length : Int)
def eulT (cs : List C3) (ts : List (List Int)) : Int := bif validB cs ts then eulN cs.length ts else 0
end Go.Proofs.Ytockhhfehjoldaa

/-
Texts in one: what NeighboursOf stands on, part 4. Conditions: those of each.
-/
import Derived.Test.YtockhhfehjoldaaKNeighboursOf3

/-
The neighbours of a place: what the program and the model return. Conditions: none beyond that the mesh lies in memory.
-/
namespace Go.Proofs.Ytockhhfehjoldaa
open Go Fk Go.RowKit
set_option linter.unusedVariables false
set_option maxRecDepth 16000

theorem nbO_is {cs : List C3} {ts : List (List Int)} {i : Int} (hv : validB cs ts = true) (hin : inB cs.length i = true) : nbO cs ts i = nbL (pairsL (keysE ts) cs.length) i (pairsL (keysE ts) cs.length).length := by
  unfold nbO ofB
  rw [hv, hin]
  exact near_is (fun i hi => tri3_of (valid_rowh hv hi)) i
set_option maxHeartbeats 2000000 in
theorem impl_NeighboursOf (pa ta : Option Addr) (pl pc tl tc : Nat) (cs : List C3) (ts : List (List Int)) (i : Int) (w : World) (hp : IsVs w pa pl pc cs) (ht : IsTs w ta tl tc ts) :
    Calls Try.prog 20 #[.agg #[.slice pa pl pc, .slice ta tl tc], .int .i64 i] w fun e w' => ∃ v, e = .returned (.tuple #[v, .bool (ofB cs ts i)]) ∧ w'.ownsRow w.heap.size 2 1 v (nbO cs ts i).length ((nbO cs ts i).map (Value.int .i64)) ∧ Below w.heap.size w w' := by
  have ui := Try.underlying31
  have hB0 : Below w.heap.size w (w.alloc (.cells #[.slice pa pl pc, .slice ta tl tc] 31)) := (Below.refl _ _).alloc (Nat.le_refl _) _
  have kb1 : (w.alloc (.cells #[.slice pa pl pc, .slice ta tl tc] 31)).cell? ⟨w.heap.size, 1, none⟩ = some (.slice ta tl tc) := by go_simp
  have kb0 : (w.alloc (.cells #[.slice pa pl pc, .slice ta tl tc] 31)).cell? ⟨w.heap.size, 0, none⟩ = some (.slice pa pl pc) := by go_simp
  have J := Lib.hid (impl_ValidMesh _ _ _ _ _ _ cs ts _ (hp.below hB0) (ht.below hB0))
  have hpl := hp.1
  have HP := Lib.hid hp
  have HT := Lib.hid ht
  cases hv : validB cs ts
  · have hb : ofB cs ts i = false := by unfold ofB; rw [hv]; rfl
    have hn : nbO cs ts i = [] := by unfold nbO; rw [hb]; rfl
    rw [hn, hb]
    rw [hv] at J
    have HB0 := Lib.hid hB0
    clear hv hB0 hp ht hpl hb hn
    go_enter Try.func20, Try.ntmps20
    go_wp2_with fail
    generalize (w.alloc (.cells #[.slice pa pl pc, .slice ta tl tc] 31)) = W at *
    refine J.out.mono ?_
    rintro e w1 ⟨rfl, hB1⟩
    have HB1 := Lib.hid (HB0.out.trans (hB1.mono HB0.out.size))
    clear hB1
    go_wp2
    go_ret2
    exact ⟨_, rfl, World.ownsRow_nil _ _ _ _, HB1.out⟩
  · rw [hv] at J
    cases hin : inB pl i
    · have hb : ofB cs ts i = false := by unfold ofB; rw [hv, hpl, hin]; rfl
      have hn : nbO cs ts i = [] := by unfold nbO; rw [hb]; rfl
      rw [hn, hb]
      have HB0 := Lib.hid hB0
      clear hv hB0 hp ht hpl hb hn
      go_enter Try.func20, Try.ntmps20
      go_wp2_with fail
      generalize (w.alloc (.cells #[.slice pa pl pc, .slice ta tl tc] 31)) = W at *
      refine J.out.mono ?_
      rintro e w1 ⟨rfl, hB1⟩
      replace kb0 := cell_below hB1 kb0
      have HB1 := Lib.hid (HB0.out.trans (hB1.mono HB0.out.size))
      clear hB1
      go_wp2_with fail
      refine (impl_isIndex _ _ _).mono ?_
      rintro e w2 ⟨rfl, hw2⟩
      rw [hw2, hin]
      clear hw2
      go_wp2
      go_ret2
      exact ⟨_, rfl, World.ownsRow_nil _ _ _ _, HB1.out⟩
    · have hb : ofB cs ts i = true := by unfold ofB; rw [hv, hpl, hin]; rfl
      have hn := nbO_is (i := i) hv (by rw [hpl]; exact hin)
      rw [hn, hb]
      have HNB := Lib.hid (fun (w : World) (hp : IsVs w pa pl pc cs) (ht : IsTs w ta tl tc ts) => impl_neighbours pa ta pl pc tl tc cs ts w hp ht hv)
      have hi0 : 0 ≤ i ∧ i < pl := by unfold inB at hin; simpa using hin
      obtain ⟨x, rfl⟩ : ∃ x : Nat, i = (x : Int) := ⟨i.toNat, by omega⟩
      have x0 : (0 : Int) ≤ (x : Int) := by omega
      have x1 : (x : Int) < (pl : Int) := by omega
      have HB0 := Lib.hid hB0
      have hpm : pl ≤ 9223372036854775807 := by have h1 := hp.2.1; have h2 := hp.2.2.1; unfold maxLen at h2; omega
      clear hv hB0 hp ht hpl hb hn hi0
      generalize pairsL (keysE ts) cs.length = ps at *
      go_enter Try.func20, Try.ntmps20
      go_wp2_with fail
      generalize (w.alloc (.cells #[.slice pa pl pc, .slice ta tl tc] 31)) = W at *
      refine J.out.mono ?_
      rintro e w1 ⟨rfl, hB1⟩
      replace kb0 := cell_below hB1 kb0
      replace kb1 := cell_below hB1 kb1
      have HB1 := Lib.hid (HB0.out.trans (hB1.mono HB0.out.size))
      clear hB1
      go_wp2_with fail
      refine (impl_isIndex _ _ _).mono ?_
      rintro e w2 ⟨rfl, hw2⟩
      rw [hw2, hin]
      clear hw2
      go_wp2_with fail
      refine (HNB.out w1 (HP.out.below HB1.out) (HT.out.below HB1.out)).mono ?_
      rintro e w3 ⟨R, vs, rfl, hR, hN, hB3⟩
      obtain ⟨q0, q1⟩ := hN.1 x (by omega)
      have HO := Lib.hid (owns_mono q1 (show w.heap.size ≤ R + 1 by have := HB1.out.size; omega))
      have HB3 := Lib.hid (HB1.out.trans (hB3.mono HB1.out.size))
      clear hR hN hB3 q1
      generalize vs x = v at *
      go_wp2
      go_ret2
      exact ⟨_, rfl, HO.out, HB3.out⟩
set_option maxHeartbeats 400000 in
theorem spec_NeighboursOf (pa ta : Option Addr) (pl pc tl tc : Nat) (cs : List C3) (ts : List (List Int)) (i : Int) (w : World) (hp : IsVs w pa pl pc cs) (ht : IsTs w ta tl tc ts) :
    Calls Try.prog 19 #[.agg #[.slice pa pl pc, .slice ta tl tc], .int .i64 i] w fun e w' => ∃ v, e = .returned (.tuple #[v, .bool (ofB cs ts i)]) ∧ w'.ownsRow w.heap.size 2 1 v (nbO cs ts i).length ((nbO cs ts i).map (Value.int .i64)) ∧ Below w.heap.size w w' := by
  have ui := Try.underlying31
  have hB0 : Below w.heap.size w (w.alloc (.cells #[.slice pa pl pc, .slice ta tl tc] 31)) := (Below.refl _ _).alloc (Nat.le_refl _) _
  have kb1 : (w.alloc (.cells #[.slice pa pl pc, .slice ta tl tc] 31)).cell? ⟨w.heap.size, 1, none⟩ = some (.slice ta tl tc) := by go_simp
  have kb0 : (w.alloc (.cells #[.slice pa pl pc, .slice ta tl tc] 31)).cell? ⟨w.heap.size, 0, none⟩ = some (.slice pa pl pc) := by go_simp
  have hJ := (l02Is w.heap.size pa ta pl pc tl tc cs ts _ kb0 kb1 (hp.below hB0) (ht.below hB0)).mono (R' := fun e w' => e = .returned (.bool (validB cs ts)) ∧ Below (w.alloc (.cells #[.slice pa pl pc, .slice ta tl tc] 31)).heap.size (w.alloc (.cells #[.slice pa pl pc, .slice ta tl tc] 31)) w') fun _ _ ⟨he, n, hw⟩ => ⟨he, by rw [hw]; exact below_drewN (Below.refl _ _) n⟩
  have hpm : pl ≤ 9223372036854775807 := by have h1 := hp.2.1; have h2 := hp.2.2.1; unfold maxLen at h2; omega
  have hpl := hp.1
  have htl := ht.1
  unfold nbO ofB
  rw [hpl, htl]
  have HT := Lib.hid ht
  cases hv : validB cs ts
  · rw [hv] at hJ
    have HJ := Lib.hid hJ
    have HB0 := Lib.hid hB0
    clear hJ hv hB0 hp ht hpl htl
    generalize hCH : (w.alloc (.cells #[.slice pa pl pc, .slice ta tl tc] 31)) = W at *
    go_enter Try.func19, Try.ntmps19
    go_wp2_with (go_at_call 37; refine HJ.out.mono ?_; rintro e w1 ⟨rfl, hB1⟩; have HB := Lib.hid (HB0.out.trans (hB1.mono HB0.out.size)); clear hB1)
    go_ret2
    exact ⟨_, rfl, World.ownsRow_nil _ _ _ _, HB.out⟩
  · rw [hv] at hJ
    have hlen : tl ≤ 128 := by have := valid_len' hv; omega
    have H3 := Lib.hid (fun k (hk : k < tl) => rows3 hv k (by rw [htl]; exact hk))
    have HIN : Hid (∀ k, k < tl → ∀ i, i < 3 → 0 ≤ (ts.getD k []).getD i 0 ∧ ((ts.getD k []).getD i 0).toNat < 64) := Lib.hid (fun k hk i hi => by
      have := (tri_partsh (valid_rowh hv (show k < ts.length by omega))).2 i hi
      have := (valid_pl hv).1
      omega)
    have HJ := Lib.hid hJ
    have HB0 := Lib.hid hB0
    cases hin : inB pl i
    · clear hJ hv hB0 hp ht hpl htl
      generalize hCH : (w.alloc (.cells #[.slice pa pl pc, .slice ta tl tc] 31)) = W at *
      go_enter Try.func19, Try.ntmps19
      go_wp2_with (first
        | (go_at_call 37; refine HJ.out.mono ?_; rintro e w1 ⟨rfl, hB1⟩; replace kb0 := cell_below hB1 kb0; have HB := Lib.hid (HB0.out.trans (hB1.mono HB0.out.size)); clear hB1)
        | (go_at_call 50; refine (l02Place _ _ _ _ _ _ kb0 hpm).mono ?_; rintro e w2 ⟨rfl, hw2⟩; rw [hw2, hin]))
      go_ret2
      exact ⟨_, rfl, World.ownsRow_nil _ _ _ _, HB.out⟩
    · clear hJ hv hB0 hp ht hpl htl
      generalize hCH : (w.alloc (.cells #[.slice pa pl pc, .slice ta tl tc] 31)) = W at *
      go_enter Try.func19, Try.ntmps19
      go_wp2_with (first
        | (go_at_call 37; refine HJ.out.mono ?_; rintro e w1 ⟨rfl, hB1⟩; replace kb0 := cell_below hB1 kb0; replace kb1 := cell_below hB1 kb1; have HB := Lib.hid (HB0.out.trans (hB1.mono HB0.out.size)); clear hB1)
        | (go_at_call 50; refine (l02Place _ _ _ _ _ _ kb0 hpm).mono ?_; rintro e w2 ⟨rfl, hw2⟩; rw [hw2, hin])
        | (go_at_call 51; refine (l02Near w.heap.size pl pc tl tc pa ta ts i w1 kb0 kb1 (HT.out.below HB.out) H3.out HIN.out hlen).mono ?_; rintro e w3 ⟨v, rfl, hown, hB3⟩; have HO := Lib.hid hown; have HB3 := Lib.hid (HB.out.trans (hB3.mono HB.out.size)); clear hown hB3))
      go_ret2
      exact ⟨v, rfl, owns_mono HO.out HB.out.size, HB3.out⟩
theorem nbO_wf (cs : List C3) (ts : List (List Int)) (i : Int) : ∀ z ∈ nbO cs ts i, (Lit.int .i64 z).wf = true := by
  unfold nbO ofB
  cases hb : (validB cs ts && inB cs.length i)
  · simp
  · have hv : validB cs ts = true := by simp at hb; exact hb.1
    intro z hz
    rw [cond_true, mem_nearL] at hz
    obtain ⟨k, hk, _, _, j, hj, rfl⟩ := hz
    have := (tri_partsh (valid_rowh hv hk)).2 j hj
    have := (valid_pl hv).1
    exact WalkArith.wf_i64 (by omega)
theorem nbO_len (cs : List C3) (ts : List (List Int)) (i : Int) : (nbO cs ts i).length ≤ 400 := by
  unfold nbO ofB
  cases hb : (validB cs ts && inB cs.length i)
  · simp
  · have hv : validB cs ts = true := by simp at hb; exact hb.1
    have h1 := nearL_len ts i ts.length
    have h2 := (valid_pl hv).2
    rw [cond_true]
    omega
end Go.Proofs.Ytockhhfehjoldaa

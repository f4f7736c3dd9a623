/-
Texts in one: what EulerOf stands on, part 1. Conditions: those of each.
-/
import Derived.Test.YtockhhfehjoldaaKEulerOf0

/-
The number of Euler: the program and the model. Conditions: none beyond that the mesh lies in memory.
-/
namespace Go.Proofs.Ytockhhfehjoldaa
open Go Fk Go.RowKit Go.Maps
set_option linter.unusedVariables false
set_option maxRecDepth 16000

set_option maxHeartbeats 4000000 in
theorem impl_EulerOf (pa ta : Option Addr) (pl pc tl tc : Nat) (cs : List C3) (ts : List (List Int)) (w : World) (hp : IsVs w pa pl pc cs) (ht : IsTs w ta tl tc ts) :
    Calls Try.prog 25 #[.agg #[.slice pa pl pc, .slice ta tl tc]] w fun e w' => e = .returned (.tuple #[.int .i64 (eulT cs ts), .bool (validB cs ts)]) ∧ Below w.heap.size w w' := by
  have ui := Try.underlying31
  have hpl := hp.1
  have htl := ht.1
  have hB0 : Below w.heap.size w (w.alloc (.cells #[.slice pa pl pc, .slice ta tl tc] 31)) := (Below.refl _ _).alloc (Nat.le_refl _) _
  have a0 : (w.alloc (.cells #[.slice pa pl pc, .slice ta tl tc] 31)).cell? ⟨w.heap.size, 0, none⟩ = some (.slice pa pl pc) := by go_simp
  have a1 : (w.alloc (.cells #[.slice pa pl pc, .slice ta tl tc] 31)).cell? ⟨w.heap.size, 1, none⟩ = some (.slice ta tl tc) := by go_simp
  have J := Lib.hid (impl_ValidMesh _ _ _ _ _ _ cs ts _ (hp.below hB0) (ht.below hB0))
  have HP := Lib.hid hp
  have HT := Lib.hid ht
  cases hv : validB cs ts
  · have he : eulT cs ts = 0 := by unfold eulT; rw [hv]; rfl
    rw [he]
    rw [hv] at J
    have HB0 := Lib.hid hB0
    clear hv hB0 hp ht hpl htl he
    go_enter Try.func25, Try.ntmps25
    go_wp2_with fail
    generalize (w.alloc (.cells #[.slice pa pl pc, .slice ta tl tc] 31)) = W at *
    refine J.out.mono ?_
    rintro e w1 ⟨rfl, hB1⟩
    have HB1 := Lib.hid (HB0.out.trans (hB1.mono HB0.out.size))
    clear hB1
    go_wp2
    go_ret2
    exact ⟨rfl, HB1.out⟩
  · rw [hv] at J
    obtain ⟨v1, v2⟩ := valid_pl hv
    have hpl64 : pl ≤ 64 := by omega
    have ht128 : tl ≤ 128 := by omega
    have HNB := Lib.hid (fun (w : World) (hp : IsVs w pa pl pc cs) (ht : IsTs w ta tl tc ts) => impl_neighbours pa ta pl pc tl tc cs ts w hp ht hv)
    have HV := fun k (hk : k < tl) => tri_partsh (valid_rowh hv (show k < ts.length by omega))
    have HT3 : Hid (∀ i, i < ts.length → Tri3 pl (ts.getD i [])) := Lib.hid (fun i (hi : i < ts.length) => by rw [← hpl]; exact tri3_of (valid_rowh hv hi))
    have H3 := Lib.hid (fun k (hk : k < tl) => (HV k hk).1)
    have HIN : Hid (∀ k, k < tl → ∀ i, i < 3 → 0 ≤ (ts.getD k []).getD i 0 ∧ ((ts.getD k []).getD i 0).toNat < 64) := Lib.hid (fun k hk i hi => by
      have := (HV k hk).2 i hi
      omega)
    have HF : Hid (∀ j : Nat, decide (0 < (nbL (pairsL (keysE ts) pl) (j : Int) (pairsL (keysE ts) pl).length).length) = decide (0 < (atL ts (j : Int) (j : Int) ts.length).length)) := Lib.hid (fun j => near_at HT3.out (j : Int))
    have he : eulT cs ts = eulN pl ts := by unfold eulT; rw [hv, hpl]; rfl
    have HLEN : Hid ((pairsL (keysE ts) pl).length ≤ 4096) := by
      have h := edT_len cs ts
      unfold edT at h
      rw [hv] at h
      simp only [cond_true] at h
      rw [edgesT_pairs, List.length_map, hpl] at h
      exact Lib.hid h
    rw [he]
    unfold eulN
    rw [hpl] at HNB
    have HTL := Lib.hid htl
    rw [htl] at HF ⊢
    have HB0 := Lib.hid hB0
    have HV1 := Lib.hid hpl64
    clear hv hB0 hp ht hpl htl he HV v1 v2
    obtain ⟨f, hf⟩ : ∃ f : Nat → Bool, (fun j : Nat => decide (0 < (atL ts (j : Int) (j : Int) tl).length)) = f := ⟨_, rfl⟩
    rw [hf]
    have HFF : Hid (∀ j : Nat, decide (0 < (nbL (pairsL (keysE ts) pl) (j : Int) (pairsL (keysE ts) pl).length).length) = f j) := Lib.hid (fun j => by rw [HF.out, ← hf])
    clear hf HF
    obtain ⟨E, hE⟩ : ∃ E, (pairsL (keysE ts) pl).length = E := ⟨_, rfl⟩
    rw [hE] at HLEN ⊢
    have HE := Lib.hid hE
    clear hE
    go_enter Try.func25, Try.ntmps25
    go_wp2_with fail
    generalize (w.alloc (.cells #[.slice pa pl pc, .slice ta tl tc] 31)) = W at *
    refine J.out.mono ?_
    rintro e w1 ⟨rfl, hB1⟩
    replace a0 := cell_below hB1 a0
    replace a1 := cell_below hB1 a1
    have HB1 := Lib.hid (HB0.out.trans (hB1.mono HB0.out.size))
    clear hB1
    go_wp2_with fail
    refine (HNB.out w1 (HP.out.below HB1.out) (HT.out.below HB1.out)).mono ?_
    rintro e w2 ⟨R, vs, rfl, hR, hN, hB2⟩
    have HN := Lib.hid hN
    have A01 := Lib.hid (And.intro (cell_below hB2 a0) (cell_below hB2 a1))
    have HB2 := Lib.hid (HB1.out.trans (hB2.mono HB1.out.size))
    clear hR hN hB2 a0 a1
    go_wp2
    go_loopw [4, 6, 13] (fun u y i w' => ∃ k : Nat, k ≤ pl ∧ i = .int .i64 k ∧ u = .int .i64 (cntN f k : Int) ∧ w' = w2) (fun _ _ i _ => pl - (intOf i).toNat)
    case atStart => exact ⟨0, Nat.zero_le _, rfl, rfl, by first | rfl | trivial⟩
    case round =>
      obtain ⟨k, hk, rfl, rfl, rfl⟩ := hrel
      have hcl := cntN_le f k
      by_cases hlt : k < pl
      · obtain ⟨q0, q1⟩ := HN.out.1 k hlt
        have hFk := HFF.out k
        have hCS := cntN_s f k
        have HCS := Lib.hid hCS
        have hk0 : (0 : Int) ≤ (k : Int) := by omega
        have hk1 : (k : Int) < (pl : Int) := by omega
        obtain ⟨nn, hnn⟩ : ∃ nn, (nbL (pairsL (keysE ts) pl) (k : Int) (pairsL (keysE ts) pl).length).length = nn := ⟨_, rfl⟩
        rw [hnn] at hFk
        have hsl : ∃ a c, vs k = .slice a nn c := by
          rcases q1.2 with ⟨e, h0⟩ | ⟨g, cap, cur, e, _⟩
          · exact ⟨none, 0, by rw [e, ← hnn, h0]⟩
          · exact ⟨_, _, by rw [e, hnn]⟩
        obtain ⟨va, vc, hva⟩ := hsl
        rw [hva] at q0
        clear q1 hCS hnn hva
        cases hfk : f k
        · rw [hfk] at hFk HCS
          have h0 : nn = 0 := by have := of_decide_eq_false hFk; omega
          subst h0
          clear hFk
          go_wp2
          go_roundw
          case rel => exact ⟨k + 1, by omega, by go_num, by rw [HCS.out]; simp, by first | rfl | trivial⟩
          case measure => simp [intOf]; omega
        · rw [hfk] at hFk HCS
          have h0 : 0 < nn := of_decide_eq_true hFk
          have h0' : (0 : Int) < (nn : Int) := by omega
          clear hFk
          have hw : IntKind.i64.wrap ((cntN f k : Int) + 1) = (cntN f k : Int) + 1 := IntWalk.i64_in _ (by omega)
          go_wp2
          go_roundw
          case rel => exact ⟨k + 1, by omega, by go_num, by rw [HCS.out]; simp, by first | rfl | trivial⟩
          case measure => simp [intOf]; omega
      · obtain rfl : k = pl := by omega
        have hlen4 := HLEN.out
        have hw1 : IntKind.i64.wrap (((cntN f k : Nat) : Int) - (E : Int)) = ((cntN f k : Nat) : Int) - (E : Int) := IntWalk.i64_in _ (by omega)
        have hw2 : IntKind.i64.wrap (((cntN f k : Nat) : Int) - (E : Int) + (tl : Int)) = ((cntN f k : Nat) : Int) - (E : Int) + (tl : Int) := IntWalk.i64_in _ (by omega)
        go_wp2_with fail
        refine Reg.wp_region_mix (C := fun w' => Below wr.heap.size wr w') (G := fun w1 w2 => Below w1.heap.size w1 w2) (R := fun i v w' => match i with
          | 0 => v = .int .i64 ((cntN f k : Nat) : Int)
          | 1 => v = .agg #[.slice pa k pc, .slice ta tl tc]
          | 2 => ∃ B, v = .map (some B) ∧ ∃ D : DataW Unit, w'.ownsGroups Try.prog 62 (B + 1) 2 .i64 B (3 * tl) D ∧ GroupsOf D (preI ts tl 0)
          | 3 => v = .int .i64 (E : Int)
          | 4 => v = .int .i64 (((cntN f k : Nat) : Int) - (E : Int))
          | 5 => v = .pointer (some ⟨w.heap.size, 1, none⟩)
          | 6 => v = .slice ta tl tc
          | 7 => v = .int .i64 (tl : Int)
          | 8 => v = .int .i64 (((cntN f k : Nat) : Int) - (E : Int) + (tl : Int))
          | 9 => v = .int .i64 (((cntN f k : Nat) : Int) - (E : Int) + (tl : Int))
          | 10 => v = .bool true
          | _ => True) (T := fun _ _ _ => True) [false, false, true, true, false, false, false, false, false, false, false, false, false, false, false, false, false, false, false, false, false, false, false, true, true, true, true, true, true, true, true, true]
          (by kernel_rfl) (by kernel_rfl) (by kernel_rfl) ?_ (below_drewN (Below.refl _ _) 1) ?_ ?_
        · intro j v wa wb _ hG hR
          match j with
          | 0 => exact hR
          | 1 => exact hR
          | 2 => obtain ⟨B, e, D, h1, h2⟩ := hR; exact ⟨B, e, D, groups_below h1 hG, h2⟩
          | 3 => exact hR
          | 4 => exact hR
          | 5 => exact hR
          | 6 => exact hR
          | 7 => exact hR
          | 8 => exact hR
          | 9 => exact hR
          | 10 => exact hR
          | _ + 11 => trivial
        · refine ⟨Reg.Obl.mk ?_, Reg.Obl.mk ?_, Reg.Obl.mk ?_, Reg.Obl.mk ?_, Reg.Obl.mk ?_, Reg.Obl.mk ?_, Reg.Obl.mk ?_, Reg.Obl.mk ?_, Reg.Obl.mk ?_, Reg.Obl.mk ?_, Reg.Obl.mk ?_, trivial⟩
          · rintro av wq hC hx hd K hK
            have HC := Lib.hid hC
            clear hC
            have t4 : av.tmps[4]?.getD undef = .int .i64 ((cntN f k : Nat) : Int) := Reg.slot_val (hx 4 (by kernel_rfl))
            go_simp
            exact hK _ _ (fun _ => rfl) (fun h => by cases h) HC.out (Below.refl _ _)
          · rintro av wq hC hx hd K hK
            have HC := Lib.hid hC
            clear hC
            have t1 : av.tmps[1]?.getD undef = .pointer (some ⟨w.heap.size, 0, none⟩) := Reg.slot_val (hx 1 (by kernel_rfl))
            have y0 := cell_below HC.out A01.out.1
            have y1 := cell_below HC.out A01.out.2
            go_simp
            exact hK _ _ (fun _ => rfl) (fun h => by cases h) HC.out (Below.refl _ _)
          · rintro av wq hC hx hd K hK
            have HC := Lib.hid hC
            clear hC
            have t24 : av.tmps[24]?.getD undef = .agg #[.slice pa k pc, .slice ta tl tc] := Reg.slot_val (hd 1 (by kernel_rfl) 24 rfl)
            go_simp
            refine (impl_edges pa ta k pc tl tc ts wq (HT.out.below (HB2.out.trans (HC.out.mono HB2.out.size))) H3.out HIN.out ht128).mono ?_
            rintro en w3 ⟨B, D, rfl, hlo, hO, hG, hB3⟩
            exact hK _ _ (fun _ => ⟨B, rfl, D, hO, hG⟩) (fun h => by cases h) (HC.out.trans (hB3.mono HC.out.size)) hB3
          · rintro av wq hC hx hd K hK
            have HC := Lib.hid hC
            clear hC
            obtain ⟨B, g2, D, hO, hG⟩ := hd 2 (by kernel_rfl) 25 rfl
            have t25 := Reg.slot_val g2
            clear g2
            have hsz : Maps.size D = E := by rw [← HE.out]; exact edges_size (map_of_groups hO) (by rw [HTL.out]; exact hG) HT3.out HV1.out
            have hl := fun ty => (map_of_groups hO).len (t := 59) Try.underlying59 ty
            rw [hsz] at hl
            clear hO hG hsz
            go_simp
            exact hK _ _ (fun _ => rfl) (fun h => by cases h) HC.out (Below.refl _ _)
          · rintro av wq hC hx hd K hK
            have HC := Lib.hid hC
            clear hC
            have t23 : av.tmps[23]?.getD undef = .int .i64 ((cntN f k : Nat) : Int) := Reg.slot_val (hd 0 (by kernel_rfl) 23 rfl)
            have t26 : av.tmps[26]?.getD undef = .int .i64 (E : Int) := Reg.slot_val (hd 3 (by kernel_rfl) 26 rfl)
            go_simp
            exact hK _ _ (fun _ => rfl) (fun h => by cases h) HC.out (Below.refl _ _)
          · rintro av wq hC hx hd K hK
            have HC := Lib.hid hC
            clear hC
            have t1 : av.tmps[1]?.getD undef = .pointer (some ⟨w.heap.size, 0, none⟩) := Reg.slot_val (hx 1 (by kernel_rfl))
            go_simp
            exact hK _ _ (fun _ => rfl) (fun h => by cases h) HC.out (Below.refl _ _)
          · rintro av wq hC hx hd K hK
            have HC := Lib.hid hC
            clear hC
            have t28 : av.tmps[28]?.getD undef = .pointer (some ⟨w.heap.size, 1, none⟩) := Reg.slot_val (hd 5 (by kernel_rfl) 28 rfl)
            have y1 := cell_below HC.out A01.out.2
            go_simp
            exact hK _ _ (fun _ => rfl) (fun h => by cases h) HC.out (Below.refl _ _)
          · rintro av wq hC hx hd K hK
            have HC := Lib.hid hC
            clear hC
            have t29 : av.tmps[29]?.getD undef = .slice ta tl tc := Reg.slot_val (hd 6 (by kernel_rfl) 29 rfl)
            go_simp
            exact hK _ _ (fun _ => rfl) (fun h => by cases h) HC.out (Below.refl _ _)
          · rintro av wq hC hx hd K hK
            have HC := Lib.hid hC
            clear hC
            have t27 : av.tmps[27]?.getD undef = .int .i64 (((cntN f k : Nat) : Int) - (E : Int)) := Reg.slot_val (hd 4 (by kernel_rfl) 27 rfl)
            have t30 : av.tmps[30]?.getD undef = .int .i64 (tl : Int) := Reg.slot_val (hd 7 (by kernel_rfl) 30 rfl)
            go_simp
            exact hK _ _ (fun _ => rfl) (fun h => by cases h) HC.out (Below.refl _ _)
          · rintro av wq hC hx hd K hK
            have HC := Lib.hid hC
            clear hC
            have t31 : av.tmps[31]?.getD undef = .int .i64 (((cntN f k : Nat) : Int) - (E : Int) + (tl : Int)) := Reg.slot_val (hd 8 (by kernel_rfl) 31 rfl)
            go_simp
            exact hK _ _ (fun _ => rfl) (fun h => by cases h) HC.out (Below.refl _ _)
          · rintro av wq hC hx hd K hK
            have HC := Lib.hid hC
            clear hC
            go_simp
            exact hK _ _ (fun _ => rfl) (fun h => by cases h) HC.out (Below.refl _ _)
        · rintro ff w6 hB6 hd hT
          have g2 : ff 2 = .int .i64 (((cntN f k : Nat) : Int) - (E : Int) + (tl : Int)) := hd 9 2 rfl
          have g3 : ff 3 = .bool true := hd 10 3 rfl
          simp only [Reg.mixL, Nat.zero_add, Nat.reduceAdd, g2, g3]
          have HB6 := Lib.hid (HB2.out.trans (hB6.mono HB2.out.size))
          clear hB6 hd hT
          go_wp2
          go_ret2
          exact ⟨rfl, HB6.out⟩
set_option maxHeartbeats 4000000 in
theorem l02Euler (pb : Nat) (pa ta : Option Addr) (pl pc tl tc : Nat) (cs : List C3) (ts : List (List Int)) (w : World) (c0' : w.cell? ⟨pb, 0, none⟩ = some (.slice pa pl pc)) (c1' : w.cell? ⟨pb, 1, none⟩ = some (.slice ta tl tc)) (hp : IsVs w pa pl pc cs) (ht : IsTs w ta tl tc ts) (hv : validB cs ts = true) :
    Calls Try.prog 54 #[.pointer (some ⟨pb, 0, none⟩)] w fun e w' => e = .returned (.int .i64 (eulN pl ts)) ∧ Below w.heap.size w w' := by
  have ui := Try.underlying31
  have hpl := hp.1
  have htl := ht.1
  obtain ⟨v1, v2⟩ := valid_pl hv
  have hpl64 : pl ≤ 64 := by omega
  have ht128 : tl ≤ 128 := by omega
  have H3 := Lib.hid (fun k (hk : k < tl) => (tri_partsh (valid_rowh hv (show k < ts.length by omega))).1)
  have HED := Lib.hid (fun (w : World) c0 c1 hp ht => l02Edges pb pa ta pl pc tl tc cs ts w c0 c1 hp ht hv)
  have hed : (edgesT pl ts).length = (pairsL (keysE ts) pl).length := by rw [edgesT_pairs, List.length_map]
  have HWF : Hid (∀ j, j < (edgesT pl ts).length → ∀ z ∈ (edgesT pl ts).getD j [], (Lit.int .i64 z).wf = true) := Lib.hid (edge_wf hpl64)
  have HLEN : Hid ((pairsL (keysE ts) pl).length ≤ 4096) := by
    have h := edT_len cs ts
    unfold edT at h
    rw [hv] at h
    simp only [cond_true] at h
    rw [edgesT_pairs, List.length_map, hpl] at h
    exact Lib.hid h
  unfold eulN
  rw [htl]
  have HP := Lib.hid hp
  have HT := Lib.hid ht
  have C01 := Lib.hid (And.intro c0' c1')
  clear hv hp ht hpl htl v1 v2 c0' c1'
  obtain ⟨f, hf⟩ : ∃ f : Nat → Bool, (fun j : Nat => decide (0 < (atL ts (j : Int) (j : Int) tl).length)) = f := ⟨_, rfl⟩
  rw [hf]
  have HFF : Hid (∀ j : Nat, decide (0 < (atL ts (j : Int) (j : Int) tl).length) = f j) := Lib.hid (fun j => by rw [← hf])
  obtain ⟨E, hE⟩ : ∃ E, (pairsL (keysE ts) pl).length = E := ⟨_, rfl⟩
  rw [hE] at HLEN hed ⊢
  have HED2 := Lib.hid hed
  clear hf hE hed
  go_enter Try.func54, Try.ntmps54
  go_wp2
  go_loopw [3, 4] (fun u i w' => ∃ k : Nat, k ≤ pl ∧ i = .int .i64 k ∧ u = .int .i64 (cntN f k : Int) ∧ Aside (Below w.heap.size w w')) (fun _ i _ => pl - (intOf i).toNat)
  case atStart => exact ⟨0, Nat.zero_le _, rfl, rfl, Below.refl _ _⟩
  case round =>
    obtain ⟨k, hk, rfl, rfl, hA⟩ := hrel
    have HB := Lib.hid hA.out
    have kb0 := cell_below hA.out C01.out.1
    have kb1 := cell_below hA.out C01.out.2
    clear hA
    have hcl := cntN_le f k
    by_cases hlt : k < pl
    · have hFk := HFF.out k
      have HCS := Lib.hid (cntN_s f k)
      have HA := Lib.hid (l02At pb pl pc tl tc pa ta ts (k : Int) (k : Int) wr kb0 kb1 (HT.out.below HB.out) H3.out ht128)
      have hal := atL_len ts (k : Int) (k : Int) tl
      have hk0 : (0 : Int) ≤ (k : Int) := by omega
      have hk1 : (k : Int) < (pl : Int) := by omega
      go_wp2_with fail
      refine HA.out.mono ?_
      rintro e w1 ⟨v, rfl, hown, hB1⟩
      obtain ⟨nn, hnn⟩ : ∃ nn, (atL ts (k : Int) (k : Int) tl).length = nn := ⟨_, rfl⟩
      rw [hnn] at hFk hal
      have hsl : ∃ a c, v = .slice a nn c := by
        rcases hown.2 with ⟨e, h0⟩ | ⟨g, cap, cur, e, _⟩
        · exact ⟨none, 0, by rw [e, ← hnn, h0]⟩
        · exact ⟨_, _, by rw [e, hnn]⟩
      obtain ⟨va, vc, rfl⟩ := hsl
      have HB1 := Lib.hid (HB.out.trans (hB1.mono HB.out.size))
      clear hown hnn hB1 kb0 kb1 HA
      cases hfk : f k
      · rw [hfk] at hFk HCS
        have h0 : nn = 0 := by have := of_decide_eq_false hFk; omega
        subst h0
        clear hFk
        go_wp2
        go_roundw
        case rel => exact ⟨k + 1, by omega, by go_num, by rw [HCS.out]; simp, HB1.out⟩
        case measure => simp [intOf]; omega
      · rw [hfk] at hFk HCS
        have h0 : 0 < nn := of_decide_eq_true hFk
        have h0' : (0 : Int) < (nn : Int) := by omega
        clear hFk
        have hw : IntKind.i64.wrap ((cntN f k : Int) + 1) = (cntN f k : Int) + 1 := IntWalk.i64_in _ (by omega)
        go_wp2
        go_roundw
        case rel => exact ⟨k + 1, by omega, by go_num, by rw [HCS.out]; simp, HB1.out⟩
        case measure => simp [intOf]; omega
    · obtain rfl : k = pl := by omega
      have hlen4 := HLEN.out
      have K01 := Lib.hid (And.intro kb0 kb1)
      clear kb0 kb1
      have hw1 : IntKind.i64.wrap (((cntN f k : Nat) : Int) - (E : Int)) = ((cntN f k : Nat) : Int) - (E : Int) := IntWalk.i64_in _ (by omega)
      have hw2 : IntKind.i64.wrap (((cntN f k : Nat) : Int) - (E : Int) + (tl : Int)) = ((cntN f k : Nat) : Int) - (E : Int) + (tl : Int) := IntWalk.i64_in _ (by omega)
      have kk1 := K01.out.2
      have kk0 := K01.out.1
      go_wp2_with fail
      clear kk0 kk1
      refine Reg.wp_region_mix (C := fun w' => Below wr.heap.size wr w') (G := fun w1 w2 => Below w1.heap.size w1 w2) (R := fun i v w' => match i with
        | 0 => v = .int .i64 ((cntN f k : Nat) : Int)
        | 1 => v = .pointer (some ⟨pb, 0, none⟩)
        | 2 => ∃ a c, v = .slice a E c
        | 3 => v = .int .i64 (E : Int)
        | 4 => v = .int .i64 (((cntN f k : Nat) : Int) - (E : Int))
        | 5 => v = .pointer (some ⟨pb, 0, none⟩)
        | 6 => v = .pointer (some ⟨pb, 0, none⟩)
        | 7 => v = .pointer (some ⟨pb, 1, none⟩)
        | 8 => v = .slice ta tl tc
        | 9 => v = .int .i64 (tl : Int)
        | 10 => v = .int .i64 (((cntN f k : Nat) : Int) - (E : Int) + (tl : Int))
        | 11 => v = .int .i64 (((cntN f k : Nat) : Int) - (E : Int) + (tl : Int))
        | _ => True) (T := fun _ _ _ => True) [false, false, true, false, false, false, false, false, false, false, false, false, false, false, false, false, false, false, false, false, false, false, true, true, true, true, true, true, true, true, true, true, true]
        (by kernel_rfl) (by kernel_rfl) (by kernel_rfl) ?_ (below_drewN (Below.refl _ _) 1) ?_ ?_
      · intro j v wa wb _ hG hR
        match j with
        | 0 => exact hR
        | 1 => exact hR
        | 2 => obtain ⟨a, c, e⟩ := hR; exact ⟨a, c, e⟩
        | 3 => exact hR
        | 4 => exact hR
        | 5 => exact hR
        | 6 => exact hR
        | 7 => exact hR
        | 8 => exact hR
        | 9 => exact hR
        | 10 => exact hR
        | 11 => exact hR
        | _ + 12 => trivial
      · refine ⟨Reg.Obl.mk ?_, Reg.Obl.mk ?_, Reg.Obl.mk ?_, Reg.Obl.mk ?_, Reg.Obl.mk ?_, Reg.Obl.mk ?_, Reg.Obl.mk ?_, Reg.Obl.mk ?_, Reg.Obl.mk ?_, Reg.Obl.mk ?_, Reg.Obl.mk ?_, Reg.Obl.mk ?_, trivial⟩
        · rintro av wq hC hx hd K hK
          have HC := Lib.hid hC
          clear hC
          have t3 : av.tmps[3]?.getD undef = .int .i64 ((cntN f k : Nat) : Int) := Reg.slot_val (hx 3 (by kernel_rfl))
          go_simp
          exact hK _ _ (fun _ => rfl) (fun h => by cases h) HC.out (Below.refl _ _)
        · rintro av wq hC hx hd K hK
          have HC := Lib.hid hC
          clear hC
          have t0 : av.tmps[0]?.getD undef = .pointer (some ⟨pb, 0, none⟩) := Reg.slot_val (hx 0 (by kernel_rfl))
          go_simp
          exact hK _ _ (fun _ => rfl) (fun h => by cases h) HC.out (Below.refl _ _)
        · rintro av wq hC hx hd K hK
          have HC := Lib.hid hC
          clear hC
          have t23 : av.tmps[23]?.getD undef = .pointer (some ⟨pb, 0, none⟩) := Reg.slot_val (hd 1 (by kernel_rfl) 23 rfl)
          go_simp
          have hbb := HB.out.trans (HC.out.mono HB.out.size)
          refine (HED.out wq (cell_below HC.out K01.out.1) (cell_below HC.out K01.out.2) (HP.out.below hbb) (HT.out.below hbb)).mono ?_
          rintro en w3 ⟨⟨v, rfl, hO⟩, hB3⟩
          obtain ⟨ea, ec, rfl, _⟩ := hO.is rfl HWF.out
          exact hK _ _ (fun _ => ⟨ea, ec, by rw [HED2.out]⟩) (fun h => by cases h) (HC.out.trans (hB3.mono HC.out.size)) hB3
        · rintro av wq hC hx hd K hK
          have HC := Lib.hid hC
          clear hC
          obtain ⟨ea, ec, g2⟩ := hd 2 (by kernel_rfl) 24 rfl
          have t24 := Reg.slot_val g2
          clear g2
          go_simp
          exact hK _ _ (fun _ => rfl) (fun h => by cases h) HC.out (Below.refl _ _)
        · rintro av wq hC hx hd K hK
          have HC := Lib.hid hC
          clear hC
          have t22 : av.tmps[22]?.getD undef = .int .i64 ((cntN f k : Nat) : Int) := Reg.slot_val (hd 0 (by kernel_rfl) 22 rfl)
          have t25 : av.tmps[25]?.getD undef = .int .i64 (E : Int) := Reg.slot_val (hd 3 (by kernel_rfl) 25 rfl)
          go_simp
          exact hK _ _ (fun _ => rfl) (fun h => by cases h) HC.out (Below.refl _ _)
        · rintro av wq hC hx hd K hK
          have HC := Lib.hid hC
          clear hC
          have t0 : av.tmps[0]?.getD undef = .pointer (some ⟨pb, 0, none⟩) := Reg.slot_val (hx 0 (by kernel_rfl))
          go_simp
          exact hK _ _ (fun _ => rfl) (fun h => by cases h) HC.out (Below.refl _ _)
        · rintro av wq hC hx hd K hK
          have HC := Lib.hid hC
          clear hC
          have t27 : av.tmps[27]?.getD undef = .pointer (some ⟨pb, 0, none⟩) := Reg.slot_val (hd 5 (by kernel_rfl) 27 rfl)
          go_simp
          exact hK _ _ (fun _ => rfl) (fun h => by cases h) HC.out (Below.refl _ _)
        · rintro av wq hC hx hd K hK
          have HC := Lib.hid hC
          clear hC
          have t28 : av.tmps[28]?.getD undef = .pointer (some ⟨pb, 0, none⟩) := Reg.slot_val (hd 6 (by kernel_rfl) 28 rfl)
          go_simp
          exact hK _ _ (fun _ => rfl) (fun h => by cases h) HC.out (Below.refl _ _)
        · rintro av wq hC hx hd K hK
          have HC := Lib.hid hC
          clear hC
          have t29 : av.tmps[29]?.getD undef = .pointer (some ⟨pb, 1, none⟩) := Reg.slot_val (hd 7 (by kernel_rfl) 29 rfl)
          have y1 := cell_below HC.out K01.out.2
          go_simp
          exact hK _ _ (fun _ => rfl) (fun h => by cases h) HC.out (Below.refl _ _)
        · rintro av wq hC hx hd K hK
          have HC := Lib.hid hC
          clear hC
          have t30 : av.tmps[30]?.getD undef = .slice ta tl tc := Reg.slot_val (hd 8 (by kernel_rfl) 30 rfl)
          go_simp
          exact hK _ _ (fun _ => rfl) (fun h => by cases h) HC.out (Below.refl _ _)
        · rintro av wq hC hx hd K hK
          have HC := Lib.hid hC
          clear hC
          have t26 : av.tmps[26]?.getD undef = .int .i64 (((cntN f k : Nat) : Int) - (E : Int)) := Reg.slot_val (hd 4 (by kernel_rfl) 26 rfl)
          have t31 : av.tmps[31]?.getD undef = .int .i64 (tl : Int) := Reg.slot_val (hd 9 (by kernel_rfl) 31 rfl)
          go_simp
          exact hK _ _ (fun _ => rfl) (fun h => by cases h) HC.out (Below.refl _ _)
        · rintro av wq hC hx hd K hK
          have HC := Lib.hid hC
          clear hC
          have t32 : av.tmps[32]?.getD undef = .int .i64 (((cntN f k : Nat) : Int) - (E : Int) + (tl : Int)) := Reg.slot_val (hd 10 (by kernel_rfl) 32 rfl)
          go_simp
          exact hK _ _ (fun _ => rfl) (fun h => by cases h) HC.out (Below.refl _ _)
      · rintro ff w6 hB6 hd hT
        have g2 : ff 2 = .int .i64 (((cntN f k : Nat) : Int) - (E : Int) + (tl : Int)) := hd 11 2 rfl
        simp only [Reg.mixL, Nat.zero_add, Nat.reduceAdd, g2]
        have HB6 := Lib.hid (HB.out.trans (hB6.mono HB.out.size))
        clear hB6 hd hT
        go_wp2
        go_ret
        exact ⟨rfl, HB6.out⟩
set_option maxHeartbeats 1000000 in
theorem spec_EulerOf (pa ta : Option Addr) (pl pc tl tc : Nat) (cs : List C3) (ts : List (List Int)) (w : World) (hp : IsVs w pa pl pc cs) (ht : IsTs w ta tl tc ts) :
    Calls Try.prog 24 #[.agg #[.slice pa pl pc, .slice ta tl tc]] w fun e w' => e = .returned (.tuple #[.int .i64 (eulT cs ts), .bool (validB cs ts)]) ∧ Below w.heap.size w w' := by
  have ui := Try.underlying31
  have hpl := hp.1
  have hB0 : Below w.heap.size w (w.alloc (.cells #[.slice pa pl pc, .slice ta tl tc] 31)) := (Below.refl _ _).alloc (Nat.le_refl _) _
  have a0 : (w.alloc (.cells #[.slice pa pl pc, .slice ta tl tc] 31)).cell? ⟨w.heap.size, 0, none⟩ = some (.slice pa pl pc) := by go_simp
  have a1 : (w.alloc (.cells #[.slice pa pl pc, .slice ta tl tc] 31)).cell? ⟨w.heap.size, 1, none⟩ = some (.slice ta tl tc) := by go_simp
  have J := Lib.hid (l02Is w.heap.size pa ta pl pc tl tc cs ts _ a0 a1 (hp.below hB0) (ht.below hB0))
  cases hv : validB cs ts
  · rw [hv] at J
    have he : eulT cs ts = 0 := by unfold eulT; rw [hv]; rfl
    rw [he]
    have HB0 := Lib.hid hB0
    clear hv hB0 a0 a1 hp ht he
    go_enter Try.func24, Try.ntmps24
    go_wp2_with fail
    generalize (w.alloc (.cells #[.slice pa pl pc, .slice ta tl tc] 31)) = W at *
    refine J.out.mono ?_
    rintro e w1 ⟨rfl, n, hw⟩
    have HB := Lib.hid (below_drewN HB0.out n)
    rw [hw]
    clear hw
    go_wp2
    go_ret2
    exact ⟨rfl, HB.out⟩
  · rw [hv] at J
    have he : eulT cs ts = eulN pl ts := by unfold eulT; rw [hv, hpl]; rfl
    rw [he]
    have J2 := Lib.hid (fun n => l02Euler w.heap.size pa ta pl pc tl tc cs ts (World.drewN (w.alloc (.cells #[.slice pa pl pc, .slice ta tl tc] 31)) n) a0 a1 ((hp.below hB0).below (below_drewN (Below.refl _ _) n)) ((ht.below hB0).below (below_drewN (Below.refl _ _) n)) hv)
    generalize eulN pl ts = z at *
    have HB0 := Lib.hid hB0
    clear hv hB0 a0 a1 hp ht he
    go_enter Try.func24, Try.ntmps24
    go_wp2_with fail
    generalize (w.alloc (.cells #[.slice pa pl pc, .slice ta tl tc] 31)) = W at *
    refine J.out.mono ?_
    rintro e w1 ⟨rfl, n, hw⟩
    rw [hw]
    clear hw
    go_wp2_with fail
    refine (J2.out n).mono ?_
    rintro e w2 ⟨rfl, hB2⟩
    have HB := Lib.hid ((below_drewN HB0.out n).trans (hB2.mono (below_drewN HB0.out n).size))
    clear hB2
    go_wp2
    go_ret2
    exact ⟨rfl, HB.out⟩
end Go.Proofs.Ytockhhfehjoldaa

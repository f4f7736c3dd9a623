
/-
Meshes that are turned over: what the program returns. Conditions: none.
-/
import Derived.Test.YthneddaiidimnaaHmL
namespace Go.Proofs.Ythneddaiidimnaa
open Go Fk Go.RowKit
set_option linter.unusedVariables false
set_option maxRecDepth 8000
set_option maxHeartbeats 1000000 in
theorem impl_TurnMesh (pa ta : Option Addr) (pl pc tl tc : Nat) (cs : List C3) (ts : List (List Int)) (w : World) (hp : IsVs w pa pl pc cs) (ht : IsTs w ta tl tc ts) :
    Calls Try.prog 50 #[.agg #[.slice pa pl pc, .slice ta tl tc]] w fun e w' => MadeG w w' e (validB cs ts) (rV (fun c => c) cs ts) (rTt cs ts) := by
  have ui := Try.underlying49
  have uv := Try.underlying26
  have u := Try.underlying24
  obtain ⟨i0, hi, hz0, hz1, hz2⟩ := info_parts infoV
  have hB0 : Below w.heap.size w ((w.alloc (.cells #[.slice pa pl pc, .slice ta tl tc] 49)).alloc (.cells #[.slice none 0 0, .slice none 0 0] 49)) := (((Below.refl _ _).alloc (Nat.le_refl _) _).alloc (by simp) _)
  have k1 : ((w.alloc (.cells #[.slice pa pl pc, .slice ta tl tc] 49)).alloc (.cells #[.slice none 0 0, .slice none 0 0] 49)).cell? ⟨w.heap.size, 1, none⟩ = some (.slice ta tl tc) := by go_simp
  have k0 : ((w.alloc (.cells #[.slice pa pl pc, .slice ta tl tc] 49)).alloc (.cells #[.slice none 0 0, .slice none 0 0] 49)).cell? ⟨w.heap.size, 0, none⟩ = some (.slice pa pl pc) := by go_simp
  have zr : ((w.alloc (.cells #[.slice pa pl pc, .slice ta tl tc] 49)).alloc (.cells #[.slice none 0 0, .slice none 0 0] 49)).ownsRow w.heap.size 49 2 (.slice (some ⟨w.heap.size + 1, 0, none⟩) 1 1) 1 [.slice none 0 0, .slice none 0 0] := by
    have := World.ownsRow_lit (base := w.heap.size) (e := 49) (size := 2) (w.alloc (.cells #[.slice pa pl pc, .slice ta tl tc] 49)) #[.slice none 0 0, .slice none 0 0] 1 (by simp) (by decide) rfl
    simpa using this
  have hsz : ((w.alloc (.cells #[.slice pa pl pc, .slice ta tl tc] 49)).alloc (.cells #[.slice none 0 0, .slice none 0 0] 49)).heap.size = w.heap.size + 1 + 1 := by simp
  have hJ := impl_ValidMesh pa ta pl pc tl tc cs ts _ (hp.below hB0) (ht.below hB0)
  have hpl := hp.1
  have htl := ht.1
  have HT := Lib.hid ht
  have HP := Lib.hid hp
  have ZR := Lib.hid zr
  have HSZ := Lib.hid hsz
  cases hv : validB cs ts
  · rw [rV_no hv, rTt_no hv]
    rw [hv] at hJ
    have HJ := Lib.hid hJ
    have HB0 := Lib.hid hB0
    clear hJ hv hB0 hp ht hpl htl zr hsz
    generalize hCH : ((w.alloc (.cells #[.slice pa pl pc, .slice ta tl tc] 49)).alloc (.cells #[.slice none 0 0, .slice none 0 0] 49)) = W at *
    go_enter Try.func50, Try.ntmps50
    go_wp2_with fail
    refine HJ.out.mono ?_
    rintro e w1 ⟨rfl, hB1⟩
    have HBE := Lib.hid (HB0.out.trans (hB1.mono HB0.out.size))
    have ZR1 := Lib.hid (owns_up ZR.out hB1)
    clear hB1
    have z0 := cell0_of ZR1.out
    have z1 := cell1_of ZR1.out
    have f0 := ZR1.out.frozenAt 0
    have f1 := ZR1.out.frozenAt 1
    go_wp2
    have x0 : ∀ u, (w1.setCell ⟨w.heap.size + 1, 0, none⟩ u).cell? ⟨w.heap.size + 1, 1, none⟩ = some (.slice none 0 0) := fun u => by rw [World.cell?_setCell_other _ _ _ _ (by simp)]; exact z1
    have r1 : ∀ u v, ((w1.setCell ⟨w.heap.size + 1, 0, none⟩ u).setCell ⟨w.heap.size + 1, 1, none⟩ v).cell? ⟨w.heap.size + 1, 1, none⟩ = some v := fun u v => World.cell?_setCell_same _ _ _ (x0 u)
    have r0 : ∀ u v, ((w1.setCell ⟨w.heap.size + 1, 0, none⟩ u).setCell ⟨w.heap.size + 1, 1, none⟩ v).cell? ⟨w.heap.size + 1, 0, none⟩ = some u := fun u v => by rw [World.cell?_setCell_other _ _ _ _ (by simp)]; exact World.cell?_setCell_same _ _ _ z0
    refine bodyPost_ret (v := .tuple #[.agg #[.slice none 0 0, .slice none 0 0], .bool false]) (by simp [results, Try.results50, go_sem, r0, r1]) rfl (madeG_none ?_)
    exact (HBE.out.setCell (by show w.heap.size ≤ w.heap.size + 1; omega) _).setCell (by show w.heap.size ≤ w.heap.size + 1; omega) _
  · rw [rV_yes hv, rTt_yes hv, show cs.map (fun c => c) = cs by simp]
    rw [hv] at hJ
    obtain ⟨q1, q2⟩ := valid_pl hv
    rw [hpl] at q1
    rw [htl] at q2
    have H3 := Lib.hid (fun k (hk : k < tl) => rows3h hv k (by rw [htl]; exact hk))
    have HJ := Lib.hid hJ
    have HB0 := Lib.hid hB0
    clear hJ hv hB0 hp ht zr hsz
    generalize hCH : ((w.alloc (.cells #[.slice pa pl pc, .slice ta tl tc] 49)).alloc (.cells #[.slice none 0 0, .slice none 0 0] 49)) = W at *
    go_enter Try.func50, Try.ntmps50
    go_wp2_with fail
    refine HJ.out.mono ?_
    rintro e w1 ⟨rfl, hB1⟩
    replace k0 := cell_below hB1 k0
    replace k1 := cell_below hB1 k1
    have HB1 := Lib.hid (HB0.out.trans (hB1.mono HB0.out.size))
    have ZR1 := Lib.hid (owns_up ZR.out hB1)
    have hlw1 : w.heap.size < w1.heap.size := World.block_lt_of_cell? _ _ k0
    clear hB1 hCH
    go_wp2_with fail
    refine (all_corners' pa ta pl pc tl tc ts w1 (HT.out.below HB1.out) H3.out q2).mono ?_
    rintro e w2 ⟨rfl, hC, hB2, hlt2, hfz⟩
    have HC := Lib.hid hC
    have HB2 := Lib.hid hB2
    have HFZ := Lib.hid hfz
    obtain ⟨cb, hcb⟩ : ∃ cb, cb = w1.heap.size + 1 := ⟨_, rfl⟩
    rw [← hcb] at HC HFZ hlt2
    clear hC hB2 hfz
    rw [← hcb]
    have HCB := Lib.hid hcb
    clear hcb
    go_wp2
    go_loopw [15] (fun i w' => ∃ k : Nat, k ≤ tl ∧ i = .int .i64 k ∧ Aside (IsCs w' cb tl (mixT ts k) ∧ (∀ j, w'.frozen? ⟨cb, j, none⟩ = false) ∧ Below w1.heap.size w1 w' ∧ cb < w'.heap.size)) (fun i _ => tl - (intOf i).toNat)
    case atStart => exact ⟨0, Nat.zero_le _, rfl, by rw [mixT_zero]; exact HC.out, HFZ.out, HB2.out, hlt2⟩
    case round =>
      obtain ⟨k, hk, hik, hA⟩ := hrel
      subst hik
      obtain ⟨hC, hfz, hB, hcs⟩ := hA.out
      have HCK := Lib.hid hC
      have HB := Lib.hid hB
      have HFK := Lib.hid hfz
      by_cases hlt : k < tl
      · obtain ⟨y0, y1, y2⟩ := hC k hlt
        have hme := mixT_get ts k k (by omega) (by omega)
        rw [if_neg (by omega)] at hme
        rw [hme] at y0 y1 y2
        have hmg := mixT_get ts (k + 1) k (by omega) (by omega)
        rw [if_pos (by omega)] at hmg
        have HMG := Lib.hid hmg
        have HMO := Lib.hid (fun j (hj : j < tl) (hne : j ≠ k) => show (mixT ts (k + 1)).getD j [] = (mixT ts k).getD j [] by
          rw [mixT_get ts (k + 1) j (by omega) (by omega), mixT_get ts k j (by omega) (by omega)]
          by_cases h : j < k
          · rw [if_pos h, if_pos (by omega)]
          · rw [if_neg h, if_neg (by omega)])
        have HTR : Hid (turnRow (ts.getD k []) = [(ts.getD k []).getD 0 0, (ts.getD k []).getD 2 0, (ts.getD k []).getD 1 0]) := rfl
        generalize (ts.getD k []).getD 0 0 = j0 at *
        generalize (ts.getD k []).getD 1 0 = j1 at *
        generalize (ts.getD k []).getD 2 0 = j2 at *
        have hk0 : (0 : Int) ≤ (k : Int) := by omega
        have hk1 : (k : Int) < (tl : Int) := by omega
        have f0 := hfz (k * 3)
        have f1 := hfz (k * 3 + 1)
        have f2 := hfz (k * 3 + 2)
        have Y := Lib.hid (And.intro y0 (And.intro y1 y2))
        have l0 := fun (o : Obj) => cell_alloc (o := o) y0
        have l1 := fun (o : Obj) => cell_alloc (o := o) y1
        have l2 := fun (o : Obj) => cell_alloc (o := o) y2
        clear hA hC hfz hB hmg hme
        go_wp2
        go_roundw
        case rel =>
          obtain ⟨y0, y1, y2⟩ := Y.out
          obtain ⟨e0, e1, e2, eo⟩ := set3k (u := .int .i64 j0) (v := .int .i64 j2) (t := .int .i64 j1) y0 y1 y2
          have hcb := HCB.out
          have hbb : Below w1.heap.size w1 (((wr.setCell ⟨cb, k * 3, none⟩ (.int .i64 j0)).setCell ⟨cb, k * 3 + 1, none⟩ (.int .i64 j2)).setCell ⟨cb, k * 3 + 2, none⟩ (.int .i64 j1)) := ((HB.out.setCell (by show w1.heap.size ≤ cb; omega) _).setCell (by show w1.heap.size ≤ cb; omega) _).setCell (by show w1.heap.size ≤ cb; omega) _
          refine ⟨k + 1, by omega, by go_num, fun j hj => ?_, fun j => ?_, hbb.alloc hbb.size _, by simp; omega⟩
          · by_cases hjk : j = k
            · subst hjk
              rw [HMG.out, HTR.out]
              exact ⟨cell_alloc e0, cell_alloc e1, cell_alloc e2⟩
            · rw [HMO.out j hj hjk]
              obtain ⟨k0, k1, k2⟩ := HCK.out j hj
              exact ⟨cell_alloc (by rw [eo _ (by omega) (by omega) (by omega)]; exact k0), cell_alloc (by rw [eo _ (by omega) (by omega) (by omega)]; exact k1), cell_alloc (by rw [eo _ (by omega) (by omega) (by omega)]; exact k2)⟩
          · rw [World.frozen?_of_block (Below.heap_alloc _ _ _ (by simp; exact hcs))]
            simp
            exact HFK.out j
        case measure => simp [intOf]; omega
      · obtain rfl : k = tl := by omega
        have k0' := cell_below hB k0
        have k1' := cell_below hB k1
        have ZR2 := Lib.hid (owns_up ZR1.out hB)
        have HBW := Lib.hid (HB1.out.trans (hB.mono HB1.out.size))
        clear hA hC hfz hB k0 k1
        go_wp2_with fail
        refine (slices_clone pa pl pc cs wr (HP.out.below HBW.out) (by omega)).mono ?_
        rintro e w3 ⟨⟨v, xs, rfl, hown, hpv⟩, hB3⟩
        obtain ⟨qa, qc, rfl⟩ := owns_slice hown
        have HB3 := Lib.hid hB3
        have HV3 := Lib.hid hown
        have HPV := Lib.hid hpv
        have HC3 := Lib.hid (HCK.out.below hB3)
        clear hB3 hown hpv k0' k1'
        go_wp2_with fail
        refine (triangle_lists cb k (mixT ts k) w3 HC3.out (by omega)).mono ?_
        rintro e w4 ⟨v, fb, fc, rfl, hfb, hrow, hflat, hB4⟩
        obtain ⟨ra, rc, rfl⟩ := owns_slice hrow
        have hB34 := HB3.out.trans (hB4.mono HB3.out.size)
        have ZR4 := Lib.hid (owns_up ZR2.out hB34)
        have z0 := cell0_of ZR4.out
        have z1 := cell1_of ZR4.out
        have f0 := ZR4.out.frozenAt 0
        have f1 := ZR4.out.frozenAt 1
        have hs3 := HB3.out.size
        have HO4 := Lib.hid (owns_up HV3.out hB4)
        have HR := Lib.hid hrow
        have HFL := Lib.hid hflat
        have HB4 := Lib.hid (HBW.out.trans (hB34.mono HBW.out.size))
        clear hrow hflat hB4 hB34
        go_wp2
        have x0 : ∀ u, (w4.setCell ⟨w.heap.size + 1, 0, none⟩ u).cell? ⟨w.heap.size + 1, 1, none⟩ = some (.slice none 0 0) := fun u => by rw [World.cell?_setCell_other _ _ _ _ (by simp)]; exact z1
        have r1 : ∀ u v, ((w4.setCell ⟨w.heap.size + 1, 0, none⟩ u).setCell ⟨w.heap.size + 1, 1, none⟩ v).cell? ⟨w.heap.size + 1, 1, none⟩ = some v := fun u v => World.cell?_setCell_same _ _ _ (x0 u)
        have r0 : ∀ u v, ((w4.setCell ⟨w.heap.size + 1, 0, none⟩ u).setCell ⟨w.heap.size + 1, 1, none⟩ v).cell? ⟨w.heap.size + 1, 0, none⟩ = some u := fun u v => by rw [World.cell?_setCell_other _ _ _ _ (by simp)]; exact World.cell?_setCell_same _ _ _ z0
        have hZ := ZR4.out.stored 0 (.slice qa pl qc)
        have hZ2 := hZ.1.stored 1 (.slice ra k rc)
        have hv := owns_side (owns_side HO4.out ZR4.out (by decide) hZ.2) hZ.1 (by decide) hZ2.2
        have hr := owns_side (owns_side HR.out ZR4.out (by decide) hZ.2) hZ.1 (by decide) hZ2.2
        have hl := owns_side (owns_side HFL.out ZR4.out (by decide) hZ.2) hZ.1 (by decide) hZ2.2
        have hbw := HBW.out.size
        have hl' := owns_low hl (base' := w.heap.size) (by omega)
        have hv' := owns_low hv (base' := w.heap.size) (by omega)
        have hmx : mixT ts k = ts.map turnRow := by rw [← htl]; exact mixT_all ts
        obtain ⟨ra', rc', e, hI, hF⟩ := rows_mesh hr hl' (by rw [mixT_len, htl]) (mixT_3 htl (Nat.le_refl _) H3.out) (mixT_wf htl (Nat.le_refl _) H3.out (ts_wf HT.out))
        cases e
        rw [← hmx]
        refine bodyPost_ret (v := .tuple #[.agg #[.slice qa pl qc, .slice ra k rc], .bool true]) (by simp [results, Try.results50, go_sem, r0, r1]) rfl ⟨⟨qa, qc, ra, rc, fb, ?_, ?_, ?_, ?_⟩, ?_⟩
        · rw [mixT_len, hpl, htl]
        · rw [hpl]
          exact vs_owned hv' hpl HPV.out
        · rw [mixT_len, htl]; exact hI
        · rw [mixT_len, hpl, htl]
          refine gm_of hv' (Nat.le_refl _) hF (fun P e => ?_)
          obtain ⟨g, e', _, hg2⟩ := lv_of_owns HV3.out P e
          rw [e']
          refine ⟨by show g ≠ fb; omega, fun R e => ?_⟩
          obtain ⟨h, e', h1, _⟩ := lv_of_owns hr R e
          rw [e']
          show g ≠ h
          omega
        · exact (HB4.out.setCell (by show w.heap.size ≤ w.heap.size + 1; omega) _).setCell (by show w.heap.size ≤ w.heap.size + 1; omega) _
end Go.Proofs.Ythneddaiidimnaa


/-
Meshes that are turned over: what the model returns. Conditions: none.
-/
import Derived.Test.YthneddaiidimnaaHmL
import Derived.Test.YthneddaiidimnaaReg3
namespace Go.Proofs.Ythneddaiidimnaa
open Go Fk Go.RowKit
set_option linter.unusedVariables false
set_option maxRecDepth 8000
theorem OwnT.cell {base n c k R : Nat} {w : World} {ts : List (List Int)} (h : OwnT base w (.slice (some ⟨R, 0, none⟩) n c) n ts) (hk : k < n) : ∃ u, w.cell? ⟨R, k, none⟩ = some u := by
  obtain ⟨rows, h1, h2⟩ := h
  obtain ⟨u, e, _⟩ := h2 k hk
  exact ⟨u, by rw [h1.cellAt k (by omega)]; exact e⟩
theorem OwnT.free {base n c R : Nat} {w : World} {ts : List (List Int)} (h : OwnT base w (.slice (some ⟨R, 0, none⟩) n c) n ts) (k : Nat) : w.frozen? ⟨R, k, none⟩ = false := h.choose_spec.1.frozenAt k
theorem turn_put {w0 w : World} {X Z pl R n c k : Nat} {va u : Value} {xs : List Value} {t1 t2 : List (List Int)} (h : OwnT w0.heap.size w (.slice (some ⟨R, 0, none⟩) n c) n t1) (hD : LD w0 X Z va (.slice (some ⟨R, 0, none⟩) n c) pl xs w) (hk : k < n)
    (hu : w.ownsRow w0.heap.size 2 1 u (t2.getD k []).length (ints (t2.getD k []))) (he : ∀ j, j < n → j ≠ k → t2.getD j [] = t1.getD j []) :
    LD w0 X Z va (.slice (some ⟨R, 0, none⟩) n c) pl xs (w.setCell ⟨R, k, none⟩ u) ∧ OwnT w0.heap.size (w.setCell ⟨R, k, none⟩ u) (.slice (some ⟨R, 0, none⟩) n c) n t2 ∧ ∃ rows : List Value, w.grownBy (w.setCell ⟨R, k, none⟩ u) (Value.ownBlock (.slice (some ⟨R, 0, none⟩) n c)) ∧ w.ownsRow w0.heap.size 121 1 (.slice (some ⟨R, 0, none⟩) n c) n rows := by
  obtain ⟨rows, h1, h2⟩ := h
  have hs := h1.stored k u
  refine ⟨hD.grow h1 (Nat.le_refl _) hs.2, ⟨_, hs.1, fun j hj => ?_⟩, rows, hs.2, h1⟩
  have hl : rows.length = n := by rw [h1.1]; omega
  by_cases hjk : j = k
  · subst hjk
    exact ⟨u, List.getElem?_set_self (by omega), owns_side hu h1 (by decide) hs.2⟩
  · obtain ⟨u', e1, e2⟩ := h2 j hj
    refine ⟨u', by rw [List.getElem?_set_ne (by omega)]; exact e1, ?_⟩
    rw [he j hj hjk]
    exact owns_side e2 h1 (by decide) hs.2
set_option maxHeartbeats 1000000 in
theorem spec_TurnMesh (pa ta : Option Addr) (pl pc tl tc : Nat) (cs : List C3) (ts : List (List Int)) (w : World) (hp : IsVs w pa pl pc cs) (ht : IsTs w ta tl tc ts) :
    Calls Try.prog 49 #[.agg #[.slice pa pl pc, .slice ta tl tc]] w fun e w' => Made w w' e (validB cs ts) (rV (fun c => c) cs ts) (rTt cs ts) := by
  have ui := Try.underlying49
  have uv := Try.underlying26
  have u := Try.underlying24
  have hB0 : Below w.heap.size w ((w.alloc (.cells #[.slice pa pl pc, .slice ta tl tc] 49)).alloc (.cells #[.slice none 0 0, .slice none 0 0] 49)) := (((Below.refl _ _).alloc (Nat.le_refl _) _).alloc (by simp) _)
  have kb1 : ((w.alloc (.cells #[.slice pa pl pc, .slice ta tl tc] 49)).alloc (.cells #[.slice none 0 0, .slice none 0 0] 49)).cell? ⟨w.heap.size, 1, none⟩ = some (.slice ta tl tc) := by go_simp
  have kb0 : ((w.alloc (.cells #[.slice pa pl pc, .slice ta tl tc] 49)).alloc (.cells #[.slice none 0 0, .slice none 0 0] 49)).cell? ⟨w.heap.size, 0, none⟩ = some (.slice pa pl pc) := by go_simp
  have zr : ((w.alloc (.cells #[.slice pa pl pc, .slice ta tl tc] 49)).alloc (.cells #[.slice none 0 0, .slice none 0 0] 49)).ownsRow w.heap.size 49 2 (.slice (some ⟨w.heap.size + 1, 0, none⟩) 1 1) 1 [.slice none 0 0, .slice none 0 0] := by
    have := World.ownsRow_lit (base := w.heap.size) (e := 49) (size := 2) (w.alloc (.cells #[.slice pa pl pc, .slice ta tl tc] 49)) #[.slice none 0 0, .slice none 0 0] 1 (by simp <;> omega) (by decide) rfl
    simpa using this
  have mr : ((w.alloc (.cells #[.slice pa pl pc, .slice ta tl tc] 49)).alloc (.cells #[.slice none 0 0, .slice none 0 0] 49)).ownsRow w.heap.size 49 2 (.slice (some ⟨w.heap.size, 0, none⟩) 1 1) 1 [.slice pa pl pc, .slice ta tl tc] := (World.ownsRow_lit (base := w.heap.size) (e := 49) (size := 2) w #[.slice pa pl pc, .slice ta tl tc] 1 (Nat.le_refl _) (by decide) rfl).alloc _
  have MR := Lib.hid mr
  clear mr
  have hJ := (l02Is w.heap.size pa ta pl pc tl tc cs ts _ kb0 kb1 (hp.below hB0) (ht.below hB0)).mono (R' := fun e w' => e = .returned (.bool (validB cs ts)) ∧ Below ((w.alloc (.cells #[.slice pa pl pc, .slice ta tl tc] 49)).alloc (.cells #[.slice none 0 0, .slice none 0 0] 49)).heap.size ((w.alloc (.cells #[.slice pa pl pc, .slice ta tl tc] 49)).alloc (.cells #[.slice none 0 0, .slice none 0 0] 49)) w') fun _ _ ⟨he, n, hw⟩ => ⟨he, by rw [hw]; exact below_drewN (Below.refl _ _) n⟩
  have hsz : ((w.alloc (.cells #[.slice pa pl pc, .slice ta tl tc] 49)).alloc (.cells #[.slice none 0 0, .slice none 0 0] 49)).heap.size = w.heap.size + 1 + 1 := by simp
  have hpl := hp.1
  have htl := ht.1
  have HT := Lib.hid ht
  have HP := Lib.hid hp
  have ZR := Lib.hid zr
  have HSZ := Lib.hid hsz
  cases hv : validB cs ts
  · rw [rV_no hv, rTt_no hv]
    rw [hv] at hJ
    have HJ := Lib.hid hJ
    have HB0 := Lib.hid hB0
    clear hJ hv hB0 hp ht hpl htl zr hsz
    generalize hCH : ((w.alloc (.cells #[.slice pa pl pc, .slice ta tl tc] 49)).alloc (.cells #[.slice none 0 0, .slice none 0 0] 49)) = W at *
    go_enter Try.func49, Try.ntmps49
    go_wp2_with fail
    refine HJ.out.mono ?_
    rintro e w1 ⟨rfl, hB1⟩
    have HB1 := Lib.hid (HB0.out.trans (hB1.mono HB0.out.size))
    have ZR1 := Lib.hid (owns_up ZR.out hB1)
    clear hB1
    have HBE := Lib.hid (HB1.out)
    have z0 := cell0_of (ZR1.out)
    have z1 := cell1_of (ZR1.out)
    have f0 := (ZR1.out).frozenAt 0
    have f1 := (ZR1.out).frozenAt 1
    go_wp2
    have x0 : ∀ u, (w1.setCell ⟨w.heap.size + 1, 0, none⟩ u).cell? ⟨w.heap.size + 1, 1, none⟩ = some (.slice none 0 0) := fun u => by rw [World.cell?_setCell_other _ _ _ _ (by simp)]; exact z1
    have r1 : ∀ u v, ((w1.setCell ⟨w.heap.size + 1, 0, none⟩ u).setCell ⟨w.heap.size + 1, 1, none⟩ v).cell? ⟨w.heap.size + 1, 1, none⟩ = some v := fun u v => World.cell?_setCell_same _ _ _ (x0 u)
    have r0 : ∀ u v, ((w1.setCell ⟨w.heap.size + 1, 0, none⟩ u).setCell ⟨w.heap.size + 1, 1, none⟩ v).cell? ⟨w.heap.size + 1, 0, none⟩ = some u := fun u v => by rw [World.cell?_setCell_other _ _ _ _ (by simp)]; exact World.cell?_setCell_same _ _ _ z0
    refine bodyPost_ret (v := .tuple #[.agg #[.slice none 0 0, .slice none 0 0], .bool false]) (by simp [results, Try.results49, go_sem, r0, r1]) rfl (made_none ?_)
    exact (HBE.out.setCell (by show w.heap.size ≤ w.heap.size + 1; omega) _).setCell (by show w.heap.size ≤ w.heap.size + 1; omega) _
  · rw [rV_yes hv, rTt_yes hv, show cs.map (fun c => c) = cs by simp]
    rw [hv] at hJ
    obtain ⟨q1, q2⟩ := valid_pl hv
    rw [hpl] at q1
    rw [htl] at q2
    have H3 := Lib.hid (fun k (hk : k < tl) => rows3h hv k (by rw [htl]; exact hk))
    have HJ := Lib.hid hJ
    have HB0 := Lib.hid hB0
    clear hJ hv hB0 hp ht zr hsz
    generalize hCH : ((w.alloc (.cells #[.slice pa pl pc, .slice ta tl tc] 49)).alloc (.cells #[.slice none 0 0, .slice none 0 0] 49)) = W at *
    go_enter Try.func49, Try.ntmps49
    go_wp2_with fail
    refine HJ.out.mono ?_
    rintro e w1 ⟨rfl, hB1⟩
    replace kb0 := cell_below hB1 kb0
    replace kb1 := cell_below hB1 kb1
    have HB1 := Lib.hid (HB0.out.trans (hB1.mono HB0.out.size))
    have ZR1 := Lib.hid (owns_up ZR.out hB1)
    have MR1 := Lib.hid (owns_up MR.out hB1)
    clear hB1 hCH
    go_wp2_with fail
    have KB0 := Lib.hid kb0
    refine (l02Own w.heap.size pa ta pl pc tl tc cs ts w1 kb0 kb1 (HP.out.below HB1.out) (HT.out.below HB1.out) (by omega) (by omega) (fun j hj => by rw [H3.out j hj]; omega)).mono ?_
    rintro e w2 ⟨⟨va, vt, xs, rfl, hown, hpv, hT⟩, hB2⟩
    obtain ⟨qa, qc, rfl⟩ := owns_slice hown
    obtain ⟨ra, rc, rfl⟩ := OwnT.slice hT
    have hxz : w2.heap.size ≠ w.heap.size + 1 := by have := ((owns_up ZR1.out hB2).lt (w.heap.size + 1) rfl).2; omega
    have hX : LD w w2.heap.size (w.heap.size + 1) (.slice qa pl qc) (.slice ra tl rc) pl xs (w2.alloc (.cells #[.slice qa pl qc, .slice ra tl rc] 49)) := by
      have hB := HB1.out.trans (hB2.mono HB1.out.size)
      have r := World.ownsRow_lit (base := w.heap.size) (e := 49) (size := 2) w2 #[.slice qa pl qc, .slice ra tl rc] 1 hB.size (by decide) rfl
      exact ⟨hB.alloc hB.size _, r, (owns_up ZR1.out hB2).alloc _, owns_low (hown.alloc _) HB1.out.size⟩
    have hT2 : OwnT w.heap.size (w2.alloc (.cells #[.slice qa pl qc, .slice ra tl rc] 49)) (.slice ra tl rc) tl ts := (hT.up ((Below.refl _ _).alloc (Nat.le_refl _) _)).low HB1.out.size
    have HX := Lib.hid hX
    have MR2 := Lib.hid ((owns_up MR1.out hB2).alloc (.cells #[.slice qa pl qc, .slice ra tl rc] 49))
    have HTT := Lib.hid hT2
    have HPV := Lib.hid hpv
    have HXZ : Hid (w2.heap.size ≠ w.heap.size + 1) := Lib.hid hxz
    clear hX hT hT2 hown hpv hB2 kb0 kb1 hxz
    go_wp2
    generalize (w2.alloc (.cells #[.slice qa pl qc, .slice ra tl rc] 49)) = W2 at *
    generalize w2.heap.size = X at *
    go_loopw [5] (fun i w' => ∃ k : Nat, k ≤ tl ∧ i = .int .i64 k ∧ Aside (Below W2.heap.size W2 W2 ∧ LD w X (w.heap.size + 1) (.slice qa pl qc) (.slice ra tl rc) pl xs w' ∧ OwnT w.heap.size w' (.slice ra tl rc) tl (mixT ts k) ∧ w'.ownsRow w.heap.size 49 2 (.slice (some ⟨w.heap.size, 0, none⟩) 1 1) 1 [.slice pa pl pc, .slice ta tl tc])) (fun i _ => tl - (intOf i).toNat)
    case atStart => exact ⟨0, Nat.zero_le _, rfl, Below.refl _ _, HX.out, by rw [mixT_zero]; exact HTT.out, MR2.out⟩
    case round =>
      obtain ⟨k, hk, hik, hA⟩ := hrel
      subst hik
      obtain ⟨_, hD, hTk, hMX⟩ := hA.out
      have l1 := hD.cell1
      have HD := Lib.hid hD
      have HTK := Lib.hid hTk
      have HMX := Lib.hid hMX
      by_cases hlt : k < tl
      · obtain ⟨R, rfl⟩ : ∃ g, ra = some ⟨g, 0, none⟩ := by
          obtain ⟨rows, h1, _⟩ := hTk
          rcases h1.2 with ⟨_, e⟩ | ⟨g, c, _, e, _⟩
          · omega
          · cases e; exact ⟨g, rfl⟩
        have kb1 := cell1_of hMX
        clear hMX
        obtain ⟨bt, ot, rfl, hrow⟩ := (HT.out.below hD.1).some (by omega)
        obtain ⟨r1, n1, q1', cr, ir⟩ := hrow k hlt
        have hn1 : n1 = 3 := ir.1.symm.trans (H3.out k hlt)
        subst hn1
        obtain ⟨br, or, rfl, hz⟩ := ir.some (by decide)
        have y0 := hz 0 (by decide)
        have y1 := hz 1 (by decide)
        have y2 := hz 2 (by decide)
        rw [Nat.add_zero] at y0
        have hk0 : (0 : Int) ≤ (k : Int) := by omega
        have hk1 : (k : Int) < (tl : Int) := by omega
        have hmg := mixT_get ts (k + 1) k (by omega) (by omega)
        rw [if_pos (by omega)] at hmg
        have HMG := Lib.hid hmg
        have HMO := Lib.hid (fun j (hj : j < tl) (hne : j ≠ k) => show (mixT ts (k + 1)).getD j [] = (mixT ts k).getD j [] by
          rw [mixT_get ts (k + 1) j (by omega) (by omega), mixT_get ts k j (by omega) (by omega)]
          by_cases h : j < k
          · rw [if_pos h, if_pos (by omega)]
          · rw [if_neg h, if_neg (by omega)])
        have HTR : Hid (turnRow (ts.getD k []) = [(ts.getD k []).getD 0 0, (ts.getD k []).getD 2 0, (ts.getD k []).getD 1 0]) := rfl
        generalize (ts.getD k []).getD 0 0 = j0 at *
        generalize (ts.getD k []).getD 1 0 = j1 at *
        generalize (ts.getD k []).getD 2 0 = j2 at *
        have Y0 := Lib.hid y0
        have Y1 := Lib.hid y1
        have Y2 := Lib.hid y2
        clear hA hD hTk hrow ir hz hmg
        go_wp2_with fail
        refine Reg3.wp_region_mix (C := fun w' => Below wr.heap.size wr w') (G := fun w1 w2 => ∀ v, w1.ownsRow w.heap.size 2 1 v 3 (ints [j0, j2, j1]) → w2.ownsRow w.heap.size 2 1 v 3 (ints [j0, j2, j1])) (R := fun i v w' => match i with | 0 => v = .pointer (some ⟨X, 1, none⟩) | 1 => v = .slice (some ⟨R, 0, none⟩) tl rc | 2 => v = .int .i64 (k : Int) | 3 => v = .slice (some ⟨br, or, none⟩) 3 q1' | 4 => v = .pointer (some ⟨br, or, none⟩) | 5 => v = .int .i64 j0 | 6 => v = .slice (some ⟨br, or, none⟩) 3 q1' | 7 => v = .pointer (some ⟨br, or + 2, none⟩) | 8 => v = .int .i64 j2 | 9 => v = .slice (some ⟨br, or, none⟩) 3 q1' | 10 => v = .pointer (some ⟨br, or + 1, none⟩) | 11 => v = .int .i64 j1 | 12 => ∃ b, v = .slice (some ⟨b, 0, none⟩) 3 3 ∧ w'.ownsRow w.heap.size 2 1 v 3 (ints [j0, j2, j1]) | 13 => v = .pointer (some ⟨R, k, none⟩) | _ => True) (T := fun i _ w' => match i with | 14 => LD w X (w.heap.size + 1) (.slice qa pl qc) (.slice (some ⟨R, 0, none⟩) tl rc) pl xs w' ∧ OwnT w.heap.size w' (.slice (some ⟨R, 0, none⟩) tl rc) tl (mixT ts (k + 1)) ∧ w'.ownsRow w.heap.size 49 2 (.slice (some ⟨w.heap.size, 0, none⟩) 1 1) 1 [.slice pa pl pc, .slice (some ⟨bt, ot, none⟩) tl tc] | _ => True) [false, false, false, false, false, false, false, false, false, false, false, false, false, false, false, false, false, false, false, false, false, false, false, true, true, true, true, true, true, true, true, true, true, true, true, true, true, false]
          (by kernel_rfl) (by kernel_rfl) (by kernel_rfl) ?_ (below_drewN (Below.refl _ _) 1) ?_ ?_
        · intro j v w1 w2 _ hG hR
          match j with
          | 0 => exact hR
          | 1 => exact hR
          | 2 => exact hR
          | 3 => exact hR
          | 4 => exact hR
          | 5 => exact hR
          | 6 => exact hR
          | 7 => exact hR
          | 8 => exact hR
          | 9 => exact hR
          | 10 => exact hR
          | 11 => exact hR
          | 12 => obtain ⟨b, e, h⟩ := hR; exact ⟨b, e, hG _ h⟩
          | 13 => exact hR
          | _ + 14 => trivial
        · refine ⟨Reg3.Obl.mk ?_, Reg3.Obl.mk ?_, Reg3.Obl.mk ?_, Reg3.Obl.mk ?_, Reg3.Obl.mk ?_, Reg3.Obl.mk ?_, Reg3.Obl.mk ?_, Reg3.Obl.mk ?_, Reg3.Obl.mk ?_, Reg3.Obl.mk ?_, Reg3.Obl.mk ?_, Reg3.Obl.mk ?_, Reg3.Obl.mk ?_, Reg3.Obl.mk ?_, Reg3.Obl.mk ?_, trivial⟩
          · rintro a w1 hC hx hd K hK
            have HC := Lib.hid hC
            clear hC
            have t4 : a.tmps[4]?.getD undef = .pointer (some ⟨X, 0, none⟩) := Reg.slot_val (hx 4 (by kernel_rfl))
            go_simp
            exact hK _ _ (fun _ => rfl) (fun h => by cases h) (fun _ => HC.out) (fun _ h => h)
          · rintro a w1 hC hx hd K hK
            have HC := Lib.hid hC
            clear hC
            have t23 : a.tmps[23]?.getD undef = .pointer (some ⟨X, 1, none⟩) := Reg.slot_val (hd 0 (by kernel_rfl) 23 rfl)
            have y1 := (HD.out.up HC.out).cell1
            go_simp
            exact hK _ _ (fun _ => rfl) (fun h => by cases h) (fun _ => HC.out) (fun _ h => h)
          · rintro a w1 hC hx hd K hK
            have HC := Lib.hid hC
            clear hC
            have t5 : a.tmps[5]?.getD undef = .int .i64 (k : Int) := Reg.slot_val (hx 5 (by kernel_rfl))
            go_simp
            exact hK _ _ (fun _ => rfl) (fun h => by cases h) (fun _ => HC.out) (fun _ h => h)
          · rintro a w1 hC hx hd K hK
            have HC := Lib.hid hC
            clear hC
            have t6 : a.tmps[6]?.getD undef = .slice (some ⟨br, or, none⟩) 3 q1' := Reg.slot_val (hx 6 (by kernel_rfl))
            go_simp
            exact hK _ _ (fun _ => rfl) (fun h => by cases h) (fun _ => HC.out) (fun _ h => h)
          · rintro a w1 hC hx hd K hK
            have HC := Lib.hid hC
            clear hC
            have t26 : a.tmps[26]?.getD undef = .slice (some ⟨br, or, none⟩) 3 q1' := Reg.slot_val (hd 3 (by kernel_rfl) 26 rfl)
            go_simp
            exact hK _ _ (fun _ => rfl) (fun h => by cases h) (fun _ => HC.out) (fun _ h => h)
          · rintro a w1 hC hx hd K hK
            have HC := Lib.hid hC
            clear hC
            have t27 : a.tmps[27]?.getD undef = .pointer (some ⟨br, or, none⟩) := Reg.slot_val (hd 4 (by kernel_rfl) 27 rfl)
            have y0 := cell_below HC.out Y0.out
            go_simp
            exact hK _ _ (fun _ => rfl) (fun h => by cases h) (fun _ => HC.out) (fun _ h => h)
          · rintro a w1 hC hx hd K hK
            have HC := Lib.hid hC
            clear hC
            have t6 : a.tmps[6]?.getD undef = .slice (some ⟨br, or, none⟩) 3 q1' := Reg.slot_val (hx 6 (by kernel_rfl))
            go_simp
            exact hK _ _ (fun _ => rfl) (fun h => by cases h) (fun _ => HC.out) (fun _ h => h)
          · rintro a w1 hC hx hd K hK
            have HC := Lib.hid hC
            clear hC
            have t29 : a.tmps[29]?.getD undef = .slice (some ⟨br, or, none⟩) 3 q1' := Reg.slot_val (hd 6 (by kernel_rfl) 29 rfl)
            go_simp
            exact hK _ _ (fun _ => rfl) (fun h => by cases h) (fun _ => HC.out) (fun _ h => h)
          · rintro a w1 hC hx hd K hK
            have HC := Lib.hid hC
            clear hC
            have t30 : a.tmps[30]?.getD undef = .pointer (some ⟨br, or + 2, none⟩) := Reg.slot_val (hd 7 (by kernel_rfl) 30 rfl)
            have y0 := cell_below HC.out Y2.out
            go_simp
            exact hK _ _ (fun _ => rfl) (fun h => by cases h) (fun _ => HC.out) (fun _ h => h)
          · rintro a w1 hC hx hd K hK
            have HC := Lib.hid hC
            clear hC
            have t6 : a.tmps[6]?.getD undef = .slice (some ⟨br, or, none⟩) 3 q1' := Reg.slot_val (hx 6 (by kernel_rfl))
            go_simp
            exact hK _ _ (fun _ => rfl) (fun h => by cases h) (fun _ => HC.out) (fun _ h => h)
          · rintro a w1 hC hx hd K hK
            have HC := Lib.hid hC
            clear hC
            have t32 : a.tmps[32]?.getD undef = .slice (some ⟨br, or, none⟩) 3 q1' := Reg.slot_val (hd 9 (by kernel_rfl) 32 rfl)
            go_simp
            exact hK _ _ (fun _ => rfl) (fun h => by cases h) (fun _ => HC.out) (fun _ h => h)
          · rintro a w1 hC hx hd K hK
            have HC := Lib.hid hC
            clear hC
            have t33 : a.tmps[33]?.getD undef = .pointer (some ⟨br, or + 1, none⟩) := Reg.slot_val (hd 10 (by kernel_rfl) 33 rfl)
            have y0 := cell_below HC.out Y1.out
            go_simp
            exact hK _ _ (fun _ => rfl) (fun h => by cases h) (fun _ => HC.out) (fun _ h => h)
          · rintro a w1 hC hx hd K hK
            have HC := Lib.hid hC
            clear hC
            have t28 : a.tmps[28]?.getD undef = .int .i64 j0 := Reg.slot_val (hd 5 (by kernel_rfl) 28 rfl)
            have t31 : a.tmps[31]?.getD undef = .int .i64 j2 := Reg.slot_val (hd 8 (by kernel_rfl) 31 rfl)
            have t34 : a.tmps[34]?.getD undef = .int .i64 j1 := Reg.slot_val (hd 11 (by kernel_rfl) 34 rfl)
            have ro := World.ownsRow_lit (base := w.heap.size) (e := 2) (size := 1) w1 #[.int .i64 j0, .int .i64 j2, .int .i64 j1] 3 (HD.out.up HC.out).1.size (by decide) rfl
            have RO := Lib.hid ro
            clear ro
            go_simp
            exact hK _ _ (fun _ => ⟨_, rfl, RO.out⟩) (fun h => by cases h) (fun _ => HC.out.alloc HC.out.size _) (fun _ h => h.alloc _)
          · rintro a w1 hC hx hd K hK
            have HC := Lib.hid hC
            clear hC
            have t24 : a.tmps[24]?.getD undef = .slice (some ⟨R, 0, none⟩) tl rc := Reg.slot_val (hd 1 (by kernel_rfl) 24 rfl)
            have t25 : a.tmps[25]?.getD undef = .int .i64 (k : Int) := Reg.slot_val (hd 2 (by kernel_rfl) 25 rfl)
            go_simp
            exact hK _ _ (fun _ => rfl) (fun h => by cases h) (fun _ => HC.out) (fun _ h => h)
          · rintro a w1 hC hx hd K hK
            have HC := Lib.hid hC
            clear hC
            have t36 : a.tmps[36]?.getD undef = .pointer (some ⟨R, k, none⟩) := Reg.slot_val (hd 13 (by kernel_rfl) 36 rfl)
            obtain ⟨b, g35, ho⟩ := hd 12 (by kernel_rfl) 35 rfl
            rw [g35] at ho
            have t35 := Reg.slot_val g35
            clear g35
            have hT1 := HTK.out.up HC.out
            obtain ⟨u, y0⟩ := hT1.cell hlt
            have f0 := hT1.free k
            have HT1 := Lib.hid hT1
            have HO := Lib.hid ho
            clear hT1 ho
            go_simp
            obtain ⟨hD2, hT2, hg⟩ := turn_put HT1.out (HD.out.up HC.out) hlt (u := .slice (some ⟨b, 0, none⟩) 3 3) (t2 := mixT ts (k + 1)) (by rw [HMG.out, HTR.out]; exact HO.out) HMO.out
            exact hK undef _ (fun h => absurd rfl h) (fun _ => ⟨hD2, hT2, owns_side (owns_up HMX.out HC.out) hg.choose_spec.2 (by decide) hg.choose_spec.1⟩) (fun h => absurd rfl h) (fun v h => owns_side h hg.choose_spec.2 (by decide) hg.choose_spec.1)
        · rintro f wz _ hT
          obtain ⟨hD2, hT2, hM2⟩ := hT 14 (by kernel_rfl) (by decide)
          have HD2 := Lib.hid hD2
          have HT2 := Lib.hid hT2
          have HM2 := Lib.hid hM2
          clear hD2 hT2 hM2 hT
          simp only [Reg.mixL]
          go_wp2
          go_roundw
          case rel => exact ⟨k + 1, by omega, by go_num, Below.refl _ _, HD2.out, HT2.out, HM2.out⟩
          case measure => simp [intOf]; omega
      · obtain rfl : k = tl := by omega
        have l0 := hD.cell0
        clear hA hD hTk hMX
        have HBE := Lib.hid (HD.out.1)
        have z0 := cell0_of (HD.out.2.2.1)
        have z1 := cell1_of (HD.out.2.2.1)
        have f0 := (HD.out.2.2.1).frozenAt 0
        have f1 := (HD.out.2.2.1).frozenAt 1
        go_wp2
        have x0 : ∀ u, (wr.setCell ⟨w.heap.size + 1, 0, none⟩ u).cell? ⟨w.heap.size + 1, 1, none⟩ = some (.slice none 0 0) := fun u => by rw [World.cell?_setCell_other _ _ _ _ (by simp)]; exact z1
        have r1 : ∀ u v, ((wr.setCell ⟨w.heap.size + 1, 0, none⟩ u).setCell ⟨w.heap.size + 1, 1, none⟩ v).cell? ⟨w.heap.size + 1, 1, none⟩ = some v := fun u v => World.cell?_setCell_same _ _ _ (x0 u)
        have r0 : ∀ u v, ((wr.setCell ⟨w.heap.size + 1, 0, none⟩ u).setCell ⟨w.heap.size + 1, 1, none⟩ v).cell? ⟨w.heap.size + 1, 0, none⟩ = some u := fun u v => by rw [World.cell?_setCell_other _ _ _ _ (by simp)]; exact World.cell?_setCell_same _ _ _ z0
        have hZ := HD.out.2.2.1.stored 0 (.slice qa pl qc)
        have hZ2 := hZ.1.stored 1 (.slice ra k rc)
        have hv2 := owns_side (owns_side HD.out.2.2.2 HD.out.2.2.1 (by decide) hZ.2) hZ.1 (by decide) hZ2.2
        have ht2 := (HTK.out.side HD.out.2.2.1 hZ.2 (by decide) (by decide)).side hZ.1 hZ2.2 (by decide) (by decide)
        have hmx : mixT ts k = ts.map turnRow := by rw [← htl]; exact mixT_all ts
        refine bodyPost_ret (v := .tuple #[.agg #[.slice qa pl qc, .slice ra k rc], .bool true]) (by simp [results, Try.results49, go_sem, r0, r1]) rfl (⟨⟨qa, qc, ra, rc, ?_, ?_, ?_, ?_, ?_⟩, ?_⟩)
        · rw [List.length_map, hpl, htl]
        · rw [hpl]
          exact vs_owned hv2 hpl HPV.out
        · rw [List.length_map, htl, ← hmx]; exact ts_owned ht2 (by rw [mixT_len, htl]) (mixT_wf htl (Nat.le_refl _) H3.out (ts_wf HT.out))
        · exact lv_of_owns hv2
        · rw [List.length_map, htl]; exact lt_of_owns ht2
        · exact (HBE.out.setCell (by show w.heap.size ≤ w.heap.size + 1; omega) _).setCell (by show w.heap.size ≤ w.heap.size + 1; omega) _
end Go.Proofs.Ythneddaiidimnaa

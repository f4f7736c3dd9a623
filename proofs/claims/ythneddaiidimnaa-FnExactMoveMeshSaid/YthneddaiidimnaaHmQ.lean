
/-
Meshes that are moved, or of another size: what the model returns. Conditions: none.
-/
import Derived.Test.YthneddaiidimnaaHmF
import Derived.Test.YthneddaiidimnaaReg3
namespace Go.Proofs.Ythneddaiidimnaa
open Go Fk Go.RowKit
set_option linter.unusedVariables false
set_option maxRecDepth 8000
set_option maxHeartbeats 1000000 in
theorem spec_MoveMesh (pa ta : Option Addr) (pl pc tl tc : Nat) (cs : List C3) (ts : List (List Int)) (bx by' bz : Nat) (d : C3) (w : World) (hp : IsVs w pa pl pc cs) (ht : IsTs w ta tl tc ts) (hb : FV .f32 bx d.1 ∧ FV .f32 by' d.2.1 ∧ FV .f32 bz d.2.2) :
    Calls Try.prog 52 #[.agg #[.slice pa pl pc, .slice ta tl tc], vv bx by' bz] w fun e w' => Made w w' e (validB cs ts) (rV (fun c => addC c d) cs ts) (rT cs ts) := by
  have ui := Try.underlying49
  have uv := Try.underlying26
  have u := Try.underlying24
  have hB0 : Below w.heap.size w (((w.alloc (.cells #[.slice pa pl pc, .slice ta tl tc] 49)).alloc (.cells #[.float .f32 bx, .float .f32 by', .float .f32 bz] 26)).alloc (.cells #[.slice none 0 0, .slice none 0 0] 49)) := ((((Below.refl _ _).alloc (Nat.le_refl _) _).alloc (by simp) _).alloc (by simp <;> omega) _)
  have kb1 : (((w.alloc (.cells #[.slice pa pl pc, .slice ta tl tc] 49)).alloc (.cells #[.float .f32 bx, .float .f32 by', .float .f32 bz] 26)).alloc (.cells #[.slice none 0 0, .slice none 0 0] 49)).cell? ⟨w.heap.size, 1, none⟩ = some (.slice ta tl tc) := by go_simp
  have kb0 : (((w.alloc (.cells #[.slice pa pl pc, .slice ta tl tc] 49)).alloc (.cells #[.float .f32 bx, .float .f32 by', .float .f32 bz] 26)).alloc (.cells #[.slice none 0 0, .slice none 0 0] 49)).cell? ⟨w.heap.size, 0, none⟩ = some (.slice pa pl pc) := by go_simp
  have vb0 : (((w.alloc (.cells #[.slice pa pl pc, .slice ta tl tc] 49)).alloc (.cells #[.float .f32 bx, .float .f32 by', .float .f32 bz] 26)).alloc (.cells #[.slice none 0 0, .slice none 0 0] 49)).cell? ⟨w.heap.size + 1, 0, none⟩ = some (.float .f32 bx) := by go_simp
  have vb1 : (((w.alloc (.cells #[.slice pa pl pc, .slice ta tl tc] 49)).alloc (.cells #[.float .f32 bx, .float .f32 by', .float .f32 bz] 26)).alloc (.cells #[.slice none 0 0, .slice none 0 0] 49)).cell? ⟨w.heap.size + 1, 1, none⟩ = some (.float .f32 by') := by go_simp
  have vb2 : (((w.alloc (.cells #[.slice pa pl pc, .slice ta tl tc] 49)).alloc (.cells #[.float .f32 bx, .float .f32 by', .float .f32 bz] 26)).alloc (.cells #[.slice none 0 0, .slice none 0 0] 49)).cell? ⟨w.heap.size + 1, 2, none⟩ = some (.float .f32 bz) := by go_simp
  have zr : (((w.alloc (.cells #[.slice pa pl pc, .slice ta tl tc] 49)).alloc (.cells #[.float .f32 bx, .float .f32 by', .float .f32 bz] 26)).alloc (.cells #[.slice none 0 0, .slice none 0 0] 49)).ownsRow w.heap.size 49 2 (.slice (some ⟨w.heap.size + 1 + 1, 0, none⟩) 1 1) 1 [.slice none 0 0, .slice none 0 0] := by
    have := World.ownsRow_lit (base := w.heap.size) (e := 49) (size := 2) ((w.alloc (.cells #[.slice pa pl pc, .slice ta tl tc] 49)).alloc (.cells #[.float .f32 bx, .float .f32 by', .float .f32 bz] 26)) #[.slice none 0 0, .slice none 0 0] 1 (by simp <;> omega) (by decide) rfl
    simpa using this
  have hJ := (l02Is w.heap.size pa ta pl pc tl tc cs ts _ kb0 kb1 (hp.below hB0) (ht.below hB0)).mono (R' := fun e w' => e = .returned (.bool (validB cs ts)) ∧ Below (((w.alloc (.cells #[.slice pa pl pc, .slice ta tl tc] 49)).alloc (.cells #[.float .f32 bx, .float .f32 by', .float .f32 bz] 26)).alloc (.cells #[.slice none 0 0, .slice none 0 0] 49)).heap.size (((w.alloc (.cells #[.slice pa pl pc, .slice ta tl tc] 49)).alloc (.cells #[.float .f32 bx, .float .f32 by', .float .f32 bz] 26)).alloc (.cells #[.slice none 0 0, .slice none 0 0] 49)) w') fun _ _ ⟨he, n, hw⟩ => ⟨he, by rw [hw]; exact below_drewN (Below.refl _ _) n⟩
  have hsz : (((w.alloc (.cells #[.slice pa pl pc, .slice ta tl tc] 49)).alloc (.cells #[.float .f32 bx, .float .f32 by', .float .f32 bz] 26)).alloc (.cells #[.slice none 0 0, .slice none 0 0] 49)).heap.size = w.heap.size + 1 + 1 + 1 := by simp
  have hpl := hp.1
  have htl := ht.1
  have HT := Lib.hid ht
  have HP := Lib.hid hp
  have HB := Lib.hid hb
  have ZR := Lib.hid zr
  have HSZ := Lib.hid hsz
  cases hv : validB cs ts
  · rw [rV_no hv, rT_no hv]
    rw [hv] at hJ
    have HJ := Lib.hid hJ
    have HB0 := Lib.hid hB0
    clear hJ hv hB0 hp ht hpl htl hb zr hsz
    generalize hCH : (((w.alloc (.cells #[.slice pa pl pc, .slice ta tl tc] 49)).alloc (.cells #[.float .f32 bx, .float .f32 by', .float .f32 bz] 26)).alloc (.cells #[.slice none 0 0, .slice none 0 0] 49)) = W at *
    go_enter Try.func52, Try.ntmps52
    go_wp2_with fail
    refine HJ.out.mono ?_
    rintro e w1 ⟨rfl, hB1⟩
    have HB1 := Lib.hid (HB0.out.trans (hB1.mono HB0.out.size))
    have ZR1 := Lib.hid (owns_up ZR.out hB1)
    clear hB1
    have HBE := Lib.hid (HB1.out)
    have z0 := cell0_of (ZR1.out)
    have z1 := cell1_of (ZR1.out)
    have f0 := (ZR1.out).frozenAt 0
    have f1 := (ZR1.out).frozenAt 1
    go_wp2
    have x0 : ∀ u, (w1.setCell ⟨w.heap.size + 1 + 1, 0, none⟩ u).cell? ⟨w.heap.size + 1 + 1, 1, none⟩ = some (.slice none 0 0) := fun u => by rw [World.cell?_setCell_other _ _ _ _ (by simp)]; exact z1
    have r1 : ∀ u v, ((w1.setCell ⟨w.heap.size + 1 + 1, 0, none⟩ u).setCell ⟨w.heap.size + 1 + 1, 1, none⟩ v).cell? ⟨w.heap.size + 1 + 1, 1, none⟩ = some v := fun u v => World.cell?_setCell_same _ _ _ (x0 u)
    have r0 : ∀ u v, ((w1.setCell ⟨w.heap.size + 1 + 1, 0, none⟩ u).setCell ⟨w.heap.size + 1 + 1, 1, none⟩ v).cell? ⟨w.heap.size + 1 + 1, 0, none⟩ = some u := fun u v => by rw [World.cell?_setCell_other _ _ _ _ (by simp)]; exact World.cell?_setCell_same _ _ _ z0
    refine bodyPost_ret (v := .tuple #[.agg #[.slice none 0 0, .slice none 0 0], .bool false]) (by simp [results, Try.results52, go_sem, r0, r1]) rfl (made_none ?_)
    exact (HBE.out.setCell (by show w.heap.size ≤ w.heap.size + 1 + 1; omega) _).setCell (by show w.heap.size ≤ w.heap.size + 1 + 1; omega) _
  · rw [rV_yes hv, rT_yes hv]
    rw [hv] at hJ
    obtain ⟨q1, q2⟩ := valid_pl hv
    rw [hpl] at q1
    rw [htl] at q2
    have H3 := Lib.hid (fun k (hk : k < tl) => rows3h hv k (by rw [htl]; exact hk))
    have HJ := Lib.hid hJ
    have HB0 := Lib.hid hB0
    clear hJ hv hB0 hp ht hb zr hsz
    generalize hCH : (((w.alloc (.cells #[.slice pa pl pc, .slice ta tl tc] 49)).alloc (.cells #[.float .f32 bx, .float .f32 by', .float .f32 bz] 26)).alloc (.cells #[.slice none 0 0, .slice none 0 0] 49)) = W at *
    go_enter Try.func52, Try.ntmps52
    go_wp2_with fail
    refine HJ.out.mono ?_
    rintro e w1 ⟨rfl, hB1⟩
    replace kb0 := cell_below hB1 kb0
    replace kb1 := cell_below hB1 kb1
    replace vb0 := cell_below hB1 vb0
    replace vb1 := cell_below hB1 vb1
    replace vb2 := cell_below hB1 vb2
    have HB1 := Lib.hid (HB0.out.trans (hB1.mono HB0.out.size))
    have ZR1 := Lib.hid (owns_up ZR.out hB1)
    clear hB1 hCH
    go_wp2_with fail
    have KB0 := Lib.hid kb0
    refine (l02Own w.heap.size pa ta pl pc tl tc cs ts w1 kb0 kb1 (HP.out.below HB1.out) (HT.out.below HB1.out) (by omega) (by omega) (fun j hj => by rw [H3.out j hj]; omega)).mono ?_
    rintro e w2 ⟨⟨va, vt, xs, rfl, hown, hpv, hT⟩, hB2⟩
    obtain ⟨qa, qc, rfl⟩ := owns_slice hown
    obtain ⟨ra, rc, rfl⟩ := OwnT.slice hT
    replace vb0 := cell_below hB2 vb0
    replace vb1 := cell_below hB2 vb1
    replace vb2 := cell_below hB2 vb2
    have hxz : w2.heap.size ≠ w.heap.size + 1 + 1 := by have := ((owns_up ZR1.out hB2).lt (w.heap.size + 1 + 1) rfl).2; omega
    have hX : LD w w2.heap.size (w.heap.size + 1 + 1) (.slice qa pl qc) (.slice ra tl rc) pl xs (w2.alloc (.cells #[.slice qa pl qc, .slice ra tl rc] 49)) := by
      have hB := HB1.out.trans (hB2.mono HB1.out.size)
      have r := World.ownsRow_lit (base := w.heap.size) (e := 49) (size := 2) w2 #[.slice qa pl qc, .slice ra tl rc] 1 hB.size (by decide) rfl
      exact ⟨hB.alloc hB.size _, r, (owns_up ZR1.out hB2).alloc _, owns_low (hown.alloc _) HB1.out.size⟩
    have hT2 : OwnT w.heap.size (w2.alloc (.cells #[.slice qa pl qc, .slice ra tl rc] 49)) (.slice ra tl rc) tl ts := (hT.up ((Below.refl _ _).alloc (Nat.le_refl _) _)).low HB1.out.size
    have HX := Lib.hid hX
    have HQ := Lib.hid (lv_of_owns hown)
    have hw1 : w.heap.size + 1 < w1.heap.size := by have := (ZR1.out.lt (w.heap.size + 1 + 1) rfl).2; omega
    have HW1 := Lib.hid hw1
    clear hw1
    have HTT := Lib.hid hT2
    have HPV := Lib.hid hpv
    have HXZ : Hid (w2.heap.size ≠ w.heap.size + 1 + 1) := Lib.hid hxz
    replace vb0 := cell_alloc (o := (.cells #[.slice qa pl qc, .slice ra tl rc] 49)) vb0
    replace vb1 := cell_alloc (o := (.cells #[.slice qa pl qc, .slice ra tl rc] 49)) vb1
    replace vb2 := cell_alloc (o := (.cells #[.slice qa pl qc, .slice ra tl rc] 49)) vb2
    have HVB := Lib.hid (And.intro vb0 (And.intro vb1 vb2))
    clear vb0 vb1 vb2
    clear hX hT hT2 hown hpv hB2 kb0 kb1 hxz
    go_wp2
    generalize (w2.alloc (.cells #[.slice qa pl qc, .slice ra tl rc] 49)) = W2 at *
    generalize w2.heap.size = X at *
    go_loopw [7] (fun i w' => ∃ k : Nat, k ≤ pl ∧ i = .int .i64 k ∧ Aside (Below W2.heap.size W2 W2 ∧ ∃ xs', LD w X (w.heap.size + 1 + 1) (.slice qa pl qc) (.slice ra tl rc) pl xs' w' ∧ PVf pl xs' (upto (fun c => addC c d) cs k) ∧ OwnT w.heap.size w' (.slice ra tl rc) tl ts ∧ VB w' (w.heap.size + 1) bx by' bz)) (fun i _ => pl - (intOf i).toNat)
    case atStart => exact ⟨0, Nat.zero_le _, rfl, Below.refl _ _, _, HX.out, PVf.start _ HPV.out, HTT.out, HVB.out⟩
    case round =>
      obtain ⟨k, hk, hik, hA⟩ := hrel
      subst hik
      obtain ⟨_, xs', hD, hP, hTk, hvb⟩ := hA.out
      have l0 := hD.cell0
      have HD := Lib.hid hD
      have HPK := Lib.hid hP
      have HTK := Lib.hid hTk
      have HVK := Lib.hid hvb
      by_cases hlt : k < pl
      · obtain ⟨g, rfl⟩ : ∃ g, qa = some ⟨g, 0, none⟩ := by
          rcases hD.2.2.2.2 with ⟨_, e⟩ | ⟨g, c, _, e, _⟩
          · omega
          · cases e; exact ⟨g, rfl⟩
        have hxl := hD.2.2.2.1
        obtain ⟨p, q, r, e0, e1, e2, hf0, hf1, hf2⟩ := hP k hlt
        have eu : upto (fun c => addC c d) cs k k = cs.getD k c0 := by unfold upto; rw [if_neg (by omega)]
        rw [eu] at hf0 hf1 hf2
        have F := Lib.hid (And.intro hf0 (And.intro hf1 hf2))
        have y0 : wr.cell? ⟨g, k * 3, none⟩ = some (.float .f32 p) := by rw [hD.2.2.2.cellAt _ (by omega)]; exact e0
        have y1 : wr.cell? ⟨g, k * 3 + 1, none⟩ = some (.float .f32 q) := by rw [hD.2.2.2.cellAt _ (by omega)]; exact e1
        have y2 : wr.cell? ⟨g, k * 3 + 2, none⟩ = some (.float .f32 r) := by rw [hD.2.2.2.cellAt _ (by omega)]; exact e2
        have hk0 : (0 : Int) ≤ (k : Int) := by omega
        have hk1 : (k : Int) < (pl : Int) := by omega
        have HXL := Lib.hid hxl
        have Y0 := Lib.hid y0
        have Y1 := Lib.hid y1
        have Y2 := Lib.hid y2
        clear hA hD hP hTk e0 e1 e2 hf0 hf1 hf2 hxl eu y0 y1 y2 hvb
        go_wp2_with fail
        refine Reg3.wp_region_mix (C := fun w' => Below wr.heap.size wr w') (G := fun _ _ => True) (R := fun i v _ => match i with | 0 => v = .pointer (some ⟨X, 0, none⟩) | 1 => v = .slice (some ⟨g, 0, none⟩) pl qc | 2 => v = .int .i64 (k : Int) | 3 => v = .pointer (some ⟨X, 0, none⟩) | 4 => v = .slice (some ⟨g, 0, none⟩) pl qc | 5 => v = .int .i64 (k : Int) | 6 => v = .pointer (some ⟨g, k * 3, none⟩) | 7 => v = vv p q r | 8 => v = vv bx by' bz | 9 => ∃ a b t, v = vv a b t ∧ FV .f32 a ((fun c => addC c d) (cs.getD k c0)).1 ∧ FV .f32 b ((fun c => addC c d) (cs.getD k c0)).2.1 ∧ FV .f32 t ((fun c => addC c d) (cs.getD k c0)).2.2 | 10 => v = .pointer (some ⟨g, k * 3, none⟩) | _ => True) (T := fun i _ w' => match i with | 11 => ∃ xs', LD w X (w.heap.size + 1 + 1) (.slice (some ⟨g, 0, none⟩) pl qc) (.slice ra tl rc) pl xs' w' ∧ PVf pl xs' (upto (fun c => addC c d) cs (k + 1)) ∧ OwnT w.heap.size w' (.slice ra tl rc) tl ts ∧ VB w' (w.heap.size + 1) bx by' bz | _ => True) [false, false, false, false, false, false, false, false, false, false, false, false, false, false, false, false, false, false, false, true, true, true, true, true, true, true, true, true, true, true, false]
          (by kernel_rfl) (by kernel_rfl) (by kernel_rfl) (fun _ _ _ _ _ _ h => h) (below_drewN (Below.refl _ _) 1) ?_ ?_
        · refine ⟨Reg3.Obl.mk ?_, Reg3.Obl.mk ?_, Reg3.Obl.mk ?_, Reg3.Obl.mk ?_, Reg3.Obl.mk ?_, Reg3.Obl.mk ?_, Reg3.Obl.mk ?_, Reg3.Obl.mk ?_, Reg3.Obl.mk ?_, Reg3.Obl.mk ?_, Reg3.Obl.mk ?_, Reg3.Obl.mk ?_, trivial⟩
          · rintro a w1 hC hx hd K hK
            have HC := Lib.hid hC
            clear hC
            have t6 : a.tmps[6]?.getD undef = .pointer (some ⟨X, 0, none⟩) := Reg.slot_val (hx 6 (by kernel_rfl))
            go_simp
            exact hK _ _ (fun _ => rfl) (fun h => by cases h) (fun _ => HC.out) trivial
          · rintro a w1 hC hx hd K hK
            have HC := Lib.hid hC
            clear hC
            have t19 : a.tmps[19]?.getD undef = .pointer (some ⟨X, 0, none⟩) := Reg.slot_val (hd 0 (by kernel_rfl) 19 rfl)
            have y1 := (HD.out.up HC.out).cell0
            go_simp
            exact hK _ _ (fun _ => rfl) (fun h => by cases h) (fun _ => HC.out) trivial
          · rintro a w1 hC hx hd K hK
            have HC := Lib.hid hC
            clear hC
            have t7 : a.tmps[7]?.getD undef = .int .i64 (k : Int) := Reg.slot_val (hx 7 (by kernel_rfl))
            go_simp
            exact hK _ _ (fun _ => rfl) (fun h => by cases h) (fun _ => HC.out) trivial
          · rintro a w1 hC hx hd K hK
            have HC := Lib.hid hC
            clear hC
            have t6 : a.tmps[6]?.getD undef = .pointer (some ⟨X, 0, none⟩) := Reg.slot_val (hx 6 (by kernel_rfl))
            go_simp
            exact hK _ _ (fun _ => rfl) (fun h => by cases h) (fun _ => HC.out) trivial
          · rintro a w1 hC hx hd K hK
            have HC := Lib.hid hC
            clear hC
            have t22 : a.tmps[22]?.getD undef = .pointer (some ⟨X, 0, none⟩) := Reg.slot_val (hd 3 (by kernel_rfl) 22 rfl)
            have y1 := (HD.out.up HC.out).cell0
            go_simp
            exact hK _ _ (fun _ => rfl) (fun h => by cases h) (fun _ => HC.out) trivial
          · rintro a w1 hC hx hd K hK
            have HC := Lib.hid hC
            clear hC
            have t7 : a.tmps[7]?.getD undef = .int .i64 (k : Int) := Reg.slot_val (hx 7 (by kernel_rfl))
            go_simp
            exact hK _ _ (fun _ => rfl) (fun h => by cases h) (fun _ => HC.out) trivial
          · rintro a w1 hC hx hd K hK
            have HC := Lib.hid hC
            clear hC
            have t23 : a.tmps[23]?.getD undef = .slice (some ⟨g, 0, none⟩) pl qc := Reg.slot_val (hd 4 (by kernel_rfl) 23 rfl)
            have t24 : a.tmps[24]?.getD undef = .int .i64 (k : Int) := Reg.slot_val (hd 5 (by kernel_rfl) 24 rfl)
            go_simp
            exact hK _ _ (fun _ => rfl) (fun h => by cases h) (fun _ => HC.out) trivial
          · rintro a w1 hC hx hd K hK
            have HC := Lib.hid hC
            clear hC
            have t25 : a.tmps[25]?.getD undef = .pointer (some ⟨g, k * 3, none⟩) := Reg.slot_val (hd 6 (by kernel_rfl) 25 rfl)
            have y0 := cell_below HC.out Y0.out
            have y1 := cell_below HC.out Y1.out
            have y2 := cell_below HC.out Y2.out
            go_simp
            exact hK _ _ (fun _ => rfl) (fun h => by cases h) (fun _ => HC.out) trivial
          · rintro a w1 hC hx hd K hK
            have HC := Lib.hid hC
            clear hC
            have t3 : a.tmps[3]?.getD undef = .pointer (some ⟨w.heap.size + 1, 0, none⟩) := Reg.slot_val (hx 3 (by kernel_rfl))
            obtain ⟨y0, y1, y2⟩ := HVK.out.below HC.out
            go_simp
            exact hK _ _ (fun _ => rfl) (fun h => by cases h) (fun _ => HC.out) trivial
          · rintro a w1 hC hx hd K hK
            have HC := Lib.hid hC
            clear hC
            have t26 : a.tmps[26]?.getD undef = vv p q r := Reg.slot_val (hd 7 (by kernel_rfl) 26 rfl)
            have t27 : a.tmps[27]?.getD undef = vv bx by' bz := Reg.slot_val (hd 8 (by kernel_rfl) 27 rfl)
            go_simp
            refine (l01Add p q r bx by' bz w1 _ _ _ _ _ _ F.out.1 F.out.2.1 F.out.2.2 HB.out.1 HB.out.2.1 HB.out.2.2).mono ?_
            rintro en w2 ⟨a', b', t', rfl, h1, h2, h3, hB2⟩
            exact hK _ _ (fun _ => ⟨a', b', t', rfl, h1, h2, h3⟩) (fun h => by cases h) (fun _ => HC.out.trans (hB2.mono HC.out.size)) trivial
          · rintro a w1 hC hx hd K hK
            have HC := Lib.hid hC
            clear hC
            have t20 : a.tmps[20]?.getD undef = .slice (some ⟨g, 0, none⟩) pl qc := Reg.slot_val (hd 1 (by kernel_rfl) 20 rfl)
            have t21 : a.tmps[21]?.getD undef = .int .i64 (k : Int) := Reg.slot_val (hd 2 (by kernel_rfl) 21 rfl)
            go_simp
            exact hK _ _ (fun _ => rfl) (fun h => by cases h) (fun _ => HC.out) trivial
          · rintro a w1 hC hx hd K hK
            have HC := Lib.hid hC
            clear hC
            have t29 : a.tmps[29]?.getD undef = .pointer (some ⟨g, k * 3, none⟩) := Reg.slot_val (hd 10 (by kernel_rfl) 29 rfl)
            obtain ⟨a', b', t', g28, h1, h2, h3⟩ := hd 9 (by kernel_rfl) 28 rfl
            have t28 := Reg.slot_val g28
            clear g28
            have FF := Lib.hid (And.intro h1 (And.intro h2 h3))
            clear h1 h2 h3
            have y0 := cell_below HC.out Y0.out
            have y1 := cell_below HC.out Y1.out
            have y2 := cell_below HC.out Y2.out
            have hD1 := HD.out.up HC.out
            have f0 := hD1.2.2.2.frozenAt (k * 3)
            have f1 := hD1.2.2.2.frozenAt (k * 3 + 1)
            have f2 := hD1.2.2.2.frozenAt (k * 3 + 2)
            have HD1 := Lib.hid hD1
            have HVK1 := Lib.hid (HVK.out.below HC.out)
            clear hD1
            go_simp
            have d0 := HD1.out.setV (j := k * 3) (.float .f32 a')
            have d1 := d0.setV (j := k * 3 + 1) (.float .f32 b')
            have d2 := d1.setV (j := k * 3 + 2) (.float .f32 t')
            have o0 := (HTK.out.up HC.out).setV HD1.out (j := k * 3) (.float .f32 a')
            have o1 := o0.setV d0 (j := k * 3 + 1) (.float .f32 b')
            have o2 := o1.setV d1 (j := k * 3 + 2) (.float .f32 t')
            obtain ⟨g', e', hg1, _⟩ := HQ.out _ rfl
            have hw1 := HW1.out
            have hgv : g ≠ w.heap.size + 1 := by cases e'; omega
            exact hK undef _ (fun h => absurd rfl h) (fun _ => ⟨_, d2, HPK.out.step HXL.out hlt FF.out, o2, ((HVK1.out.set hgv).set hgv).set hgv⟩) (fun h => absurd rfl h) trivial
        · rintro f wz _ hT
          obtain ⟨xs2, hD2, hP2, hT2, hV2⟩ := hT 11 (by kernel_rfl) (by decide)
          have HD2 := Lib.hid hD2
          have HP2 := Lib.hid hP2
          have HT2 := Lib.hid hT2
          have HV2 := Lib.hid hV2
          clear hD2 hP2 hT2 hT hV2
          simp only [Reg.mixL]
          go_wp2
          go_roundw
          case rel => exact ⟨k + 1, by omega, by go_num, Below.refl _ _, xs2, HD2.out, HP2.out, HT2.out, HV2.out⟩
          case measure => simp [intOf]; omega
      · obtain rfl : k = pl := by omega
        have l1 := hD.cell1
        clear hA hD hP hTk hvb
        have HBE := Lib.hid (HD.out.1)
        have z0 := cell0_of (HD.out.2.2.1)
        have z1 := cell1_of (HD.out.2.2.1)
        have f0 := (HD.out.2.2.1).frozenAt 0
        have f1 := (HD.out.2.2.1).frozenAt 1
        go_wp2
        have x0 : ∀ u, (wr.setCell ⟨w.heap.size + 1 + 1, 0, none⟩ u).cell? ⟨w.heap.size + 1 + 1, 1, none⟩ = some (.slice none 0 0) := fun u => by rw [World.cell?_setCell_other _ _ _ _ (by simp)]; exact z1
        have r1 : ∀ u v, ((wr.setCell ⟨w.heap.size + 1 + 1, 0, none⟩ u).setCell ⟨w.heap.size + 1 + 1, 1, none⟩ v).cell? ⟨w.heap.size + 1 + 1, 1, none⟩ = some v := fun u v => World.cell?_setCell_same _ _ _ (x0 u)
        have r0 : ∀ u v, ((wr.setCell ⟨w.heap.size + 1 + 1, 0, none⟩ u).setCell ⟨w.heap.size + 1 + 1, 1, none⟩ v).cell? ⟨w.heap.size + 1 + 1, 0, none⟩ = some u := fun u v => by rw [World.cell?_setCell_other _ _ _ _ (by simp)]; exact World.cell?_setCell_same _ _ _ z0
        have hZ := HD.out.2.2.1.stored 0 (.slice qa k qc)
        have hZ2 := hZ.1.stored 1 (.slice ra tl rc)
        have hv2 := owns_side (owns_side HD.out.2.2.2 HD.out.2.2.1 (by decide) hZ.2) hZ.1 (by decide) hZ2.2
        have ht2 := (HTK.out.side HD.out.2.2.1 hZ.2 (by decide) (by decide)).side hZ.1 hZ2.2 (by decide) (by decide)
        refine bodyPost_ret (v := .tuple #[.agg #[.slice qa k qc, .slice ra tl rc], .bool true]) (by simp [results, Try.results52, go_sem, r0, r1]) rfl (⟨⟨qa, qc, ra, rc, ?_, ?_, ?_, ?_, ?_⟩, ?_⟩)
        · rw [List.length_map, hpl, htl]
        · rw [List.length_map, hpl]
          exact vs_owned hv2 (by rw [List.length_map, hpl]) (HPK.out.done hpl)
        · rw [htl]; exact ts_owned ht2 htl (ts_wf HT.out)
        · exact lv_of_owns hv2
        · rw [htl]; exact lt_of_owns ht2
        · exact (HBE.out.setCell (by show w.heap.size ≤ w.heap.size + 1 + 1; omega) _).setCell (by show w.heap.size ≤ w.heap.size + 1 + 1; omega) _
end Go.Proofs.Ythneddaiidimnaa

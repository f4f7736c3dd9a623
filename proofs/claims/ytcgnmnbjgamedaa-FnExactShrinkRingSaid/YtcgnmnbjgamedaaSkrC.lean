
/-
Meshes that are moved, or of another size: what the model returns. Conditions: none.
-/
import Derived.Test.YtcgnmnbjgamedaaHmF
import Derived.Test.YtcgnmnbjgamedaaSkrA
namespace Go.Proofs.Ytcgnmnbjgamedaa
open Go Fk Go.RowKit
set_option linter.unusedVariables false
set_option maxRecDepth 8000
set_option maxHeartbeats 1000000 in
theorem spec_ShrinkRing (pa ta : Option Addr) (pl pc tl tc : Nat) (cs : List C3) (ts : List (List Int)) (z : Nat) (d : Option Nat) (w : World) (hp : IsVs w pa pl pc cs) (ht : IsTs w ta tl tc ts) (hb : FV .f32 z d) :
    Calls Try.prog 33 #[.agg #[.slice pa pl pc, .slice ta tl tc], .float .f32 z] w fun e w' => Made w w' e (validB cs ts) (rV (fun c => shrC c d) cs ts) (rT cs ts) := by
  have ui := Try.underlying49
  have uv := Try.underlying33
  have u := Try.underlying22
  have hB0 : Below w.heap.size w ((w.alloc (.cells #[.slice pa pl pc, .slice ta tl tc] 49)).alloc (.cells #[.slice none 0 0, .slice none 0 0] 49)) := (((Below.refl _ _).alloc (Nat.le_refl _) _).alloc (by simp) _)
  have kb1 : ((w.alloc (.cells #[.slice pa pl pc, .slice ta tl tc] 49)).alloc (.cells #[.slice none 0 0, .slice none 0 0] 49)).cell? ⟨w.heap.size, 1, none⟩ = some (.slice ta tl tc) := by go_simp
  have kb0 : ((w.alloc (.cells #[.slice pa pl pc, .slice ta tl tc] 49)).alloc (.cells #[.slice none 0 0, .slice none 0 0] 49)).cell? ⟨w.heap.size, 0, none⟩ = some (.slice pa pl pc) := by go_simp
  have zr : ((w.alloc (.cells #[.slice pa pl pc, .slice ta tl tc] 49)).alloc (.cells #[.slice none 0 0, .slice none 0 0] 49)).ownsRow w.heap.size 49 2 (.slice (some ⟨w.heap.size + 1, 0, none⟩) 1 1) 1 [.slice none 0 0, .slice none 0 0] := by
    have := World.ownsRow_lit (base := w.heap.size) (e := 49) (size := 2) (w.alloc (.cells #[.slice pa pl pc, .slice ta tl tc] 49)) #[.slice none 0 0, .slice none 0 0] 1 (by simp <;> omega) (by decide) rfl
    simpa using this
  have hJ := (l02Is w.heap.size pa ta pl pc tl tc cs ts _ kb0 kb1 (hp.below hB0) (ht.below hB0)).mono (R' := fun e w' => e = .returned (.bool (validB cs ts)) ∧ Below ((w.alloc (.cells #[.slice pa pl pc, .slice ta tl tc] 49)).alloc (.cells #[.slice none 0 0, .slice none 0 0] 49)).heap.size ((w.alloc (.cells #[.slice pa pl pc, .slice ta tl tc] 49)).alloc (.cells #[.slice none 0 0, .slice none 0 0] 49)) w') fun _ _ ⟨he, n, hw⟩ => ⟨he, by rw [hw]; exact below_drewN (Below.refl _ _) n⟩
  have hsz : ((w.alloc (.cells #[.slice pa pl pc, .slice ta tl tc] 49)).alloc (.cells #[.slice none 0 0, .slice none 0 0] 49)).heap.size = w.heap.size + 1 + 1 := by simp
  have hpl := hp.1
  have htl := ht.1
  have HT := Lib.hid ht
  have HP := Lib.hid hp
  have HB := Lib.hid hb
  have ZR := Lib.hid zr
  have HSZ := Lib.hid hsz
  cases hv : validB cs ts
  · rw [rV_no hv, rT_no hv]
    rw [hv] at hJ
    have HJ := Lib.hid hJ
    have HB0 := Lib.hid hB0
    clear hJ hv hB0 hp ht hpl htl hb zr hsz
    generalize hCH : ((w.alloc (.cells #[.slice pa pl pc, .slice ta tl tc] 49)).alloc (.cells #[.slice none 0 0, .slice none 0 0] 49)) = W at *
    go_enter Try.func33, Try.ntmps33
    go_wp2_with fail
    refine HJ.out.mono ?_
    rintro e w1 ⟨rfl, hB1⟩
    have HB1 := Lib.hid (HB0.out.trans (hB1.mono HB0.out.size))
    have ZR1 := Lib.hid (owns_up ZR.out hB1)
    clear hB1
    have HBE := Lib.hid (HB1.out)
    have z0 := cell0_of (ZR1.out)
    have z1 := cell1_of (ZR1.out)
    have f0 := (ZR1.out).frozenAt 0
    have f1 := (ZR1.out).frozenAt 1
    go_wp2
    have x0 : ∀ u, (w1.setCell ⟨w.heap.size + 1, 0, none⟩ u).cell? ⟨w.heap.size + 1, 1, none⟩ = some (.slice none 0 0) := fun u => by rw [World.cell?_setCell_other _ _ _ _ (by simp)]; exact z1
    have r1 : ∀ u v, ((w1.setCell ⟨w.heap.size + 1, 0, none⟩ u).setCell ⟨w.heap.size + 1, 1, none⟩ v).cell? ⟨w.heap.size + 1, 1, none⟩ = some v := fun u v => World.cell?_setCell_same _ _ _ (x0 u)
    have r0 : ∀ u v, ((w1.setCell ⟨w.heap.size + 1, 0, none⟩ u).setCell ⟨w.heap.size + 1, 1, none⟩ v).cell? ⟨w.heap.size + 1, 0, none⟩ = some u := fun u v => by rw [World.cell?_setCell_other _ _ _ _ (by simp)]; exact World.cell?_setCell_same _ _ _ z0
    refine bodyPost_ret (v := .tuple #[.agg #[.slice none 0 0, .slice none 0 0], .bool false]) (by simp [results, Try.results33, go_sem, r0, r1]) rfl (made_none ?_)
    exact (HBE.out.setCell (by show w.heap.size ≤ w.heap.size + 1; omega) _).setCell (by show w.heap.size ≤ w.heap.size + 1; omega) _
  · rw [rV_yes hv, rT_yes hv]
    rw [hv] at hJ
    obtain ⟨q1, q2⟩ := valid_pl hv
    rw [hpl] at q1
    rw [htl] at q2
    have H3 := Lib.hid (fun k (hk : k < tl) => rows3h hv k (by rw [htl]; exact hk))
    have HJ := Lib.hid hJ
    have HB0 := Lib.hid hB0
    clear hJ hv hB0 hp ht hb zr hsz
    generalize hCH : ((w.alloc (.cells #[.slice pa pl pc, .slice ta tl tc] 49)).alloc (.cells #[.slice none 0 0, .slice none 0 0] 49)) = W at *
    go_enter Try.func33, Try.ntmps33
    go_wp2_with fail
    refine HJ.out.mono ?_
    rintro e w1 ⟨rfl, hB1⟩
    replace kb0 := cell_below hB1 kb0
    replace kb1 := cell_below hB1 kb1
    have HB1 := Lib.hid (HB0.out.trans (hB1.mono HB0.out.size))
    have ZR1 := Lib.hid (owns_up ZR.out hB1)
    clear hB1 hCH
    go_wp2_with fail
    have KB0 := Lib.hid kb0
    refine (l02Own w.heap.size pa ta pl pc tl tc cs ts w1 kb0 kb1 (HP.out.below HB1.out) (HT.out.below HB1.out) (by omega) (by omega) (fun j hj => by rw [H3.out j hj]; omega)).mono ?_
    rintro e w2 ⟨⟨va, vt, xs, rfl, hown, hpv, hT⟩, hB2⟩
    obtain ⟨qa, qc, rfl⟩ := owns_slice hown
    obtain ⟨ra, rc, rfl⟩ := OwnT.slice hT
    have hxz : w2.heap.size ≠ w.heap.size + 1 := by have := ((owns_up ZR1.out hB2).lt (w.heap.size + 1) rfl).2; omega
    have hX : LD w w2.heap.size (w.heap.size + 1) (.slice qa pl qc) (.slice ra tl rc) pl xs (w2.alloc (.cells #[.slice qa pl qc, .slice ra tl rc] 49)) := by
      have hB := HB1.out.trans (hB2.mono HB1.out.size)
      have r := World.ownsRow_lit (base := w.heap.size) (e := 49) (size := 2) w2 #[.slice qa pl qc, .slice ra tl rc] 1 hB.size (by decide) rfl
      exact ⟨hB.alloc hB.size _, r, (owns_up ZR1.out hB2).alloc _, owns_low (hown.alloc _) HB1.out.size⟩
    have hT2 : OwnT w.heap.size (w2.alloc (.cells #[.slice qa pl qc, .slice ra tl rc] 49)) (.slice ra tl rc) tl ts := (hT.up ((Below.refl _ _).alloc (Nat.le_refl _) _)).low HB1.out.size
    have HX := Lib.hid hX
    have HTT := Lib.hid hT2
    have HPV := Lib.hid hpv
    have HXZ : Hid (w2.heap.size ≠ w.heap.size + 1) := Lib.hid hxz
    clear hX hT hT2 hown hpv hB2 kb0 kb1 hxz
    go_wp2
    generalize (w2.alloc (.cells #[.slice qa pl qc, .slice ra tl rc] 49)) = W2 at *
    generalize w2.heap.size = X at *
    go_loopw [7] (fun i w' => ∃ k : Nat, k ≤ pl ∧ i = .int .i64 k ∧ Aside (Below W2.heap.size W2 W2 ∧ ∃ xs', LD w X (w.heap.size + 1) (.slice qa pl qc) (.slice ra tl rc) pl xs' w' ∧ PVf pl xs' (upto (fun c => shrC c d) cs k) ∧ OwnT w.heap.size w' (.slice ra tl rc) tl ts)) (fun i _ => pl - (intOf i).toNat)
    case atStart => exact ⟨0, Nat.zero_le _, rfl, Below.refl _ _, _, HX.out, PVf.start _ HPV.out, HTT.out⟩
    case round =>
      obtain ⟨k, hk, hik, hA⟩ := hrel
      subst hik
      obtain ⟨_, xs', hD, hP, hTk⟩ := hA.out
      have l0 := hD.cell0
      have HD := Lib.hid hD
      have HPK := Lib.hid hP
      have HTK := Lib.hid hTk
      by_cases hlt : k < pl
      · obtain ⟨g, rfl⟩ : ∃ g, qa = some ⟨g, 0, none⟩ := by
          rcases hD.2.2.2.2 with ⟨_, e⟩ | ⟨g, c, _, e, _⟩
          · omega
          · cases e; exact ⟨g, rfl⟩
        have hxl := hD.2.2.2.1
        obtain ⟨p, q, r, e0, e1, e2, hf0, hf1, hf2⟩ := hP k hlt
        have eu : upto (fun c => shrC c d) cs k k = cs.getD k c0 := by unfold upto; rw [if_neg (by omega)]
        rw [eu] at hf0 hf1 hf2
        have F := Lib.hid (And.intro hf0 (And.intro hf1 hf2))
        have y0 : wr.cell? ⟨g, k * 3, none⟩ = some (.float .f32 p) := by rw [hD.2.2.2.cellAt _ (by omega)]; exact e0
        have y1 : wr.cell? ⟨g, k * 3 + 1, none⟩ = some (.float .f32 q) := by rw [hD.2.2.2.cellAt _ (by omega)]; exact e1
        have y2 : wr.cell? ⟨g, k * 3 + 2, none⟩ = some (.float .f32 r) := by rw [hD.2.2.2.cellAt _ (by omega)]; exact e2
        have hk0 : (0 : Int) ≤ (k : Int) := by omega
        have hk1 : (k : Int) < (pl : Int) := by omega
        have HXL := Lib.hid hxl
        have Y0 := Lib.hid y0
        have Y1 := Lib.hid y1
        have Y2 := Lib.hid y2
        clear hA hD hP hTk e0 e1 e2 hf0 hf1 hf2 hxl eu y0 y1 y2
        have lg := World.block_lt_of_cell? _ _ Y0.out
        have lX := World.block_lt_of_cell? _ _ l0
        have f0 := HD.out.2.2.2.frozenAt (k * 3)
        have f1 := HD.out.2.2.2.frozenAt (k * 3 + 1)
        have f2 := HD.out.2.2.2.frozenAt (k * 3 + 2)
        have q0 := Y0.out
        have q1 := Y1.out
        have q2 := Y2.out
        have HDS := Lib.hid (fun (A E R : Value) (o : Obj) (n : Nat) => (((HD.out.setV (j := k * 3) A).setV (j := k * 3 + 1) E).setV (j := k * 3 + 2) R).up (below_drewN ((Below.refl _ _).alloc (Nat.le_refl _) o) n))
        have HOS := Lib.hid (fun (A E R : Value) (o : Obj) (n : Nat) => (((HTK.out.setV HD.out (j := k * 3) A).setV (HD.out.setV (j := k * 3) A) (j := k * 3 + 1) E).setV ((HD.out.setV (j := k * 3) A).setV (j := k * 3 + 1) E) (j := k * 3 + 2) R).up (below_drewN ((Below.refl _ _).alloc (Nat.le_refl _) o) n))
        have HF := Lib.hid (fun (w1 w2 : World) => (show FV .f32 (fR .mul .f32 p z w1) (shrC (cs.getD k c0) d).1 ∧ FV .f32 (fR .mul .f32 q z w2) (shrC (cs.getD k c0) d).2.1 ∧ FV .f32 r (shrC (cs.getD k c0) d).2.2 from ⟨FV_fR F.out.1 HB.out, FV_fR F.out.2.1 HB.out, F.out.2.2⟩))
        go_wp2
        go_roundw
        case rel => exact ⟨k + 1, by omega, by go_num, Below.refl _ _, _, HDS.out _ _ _ _ _, HPK.out.step HXL.out hlt (HF.out _ _), HOS.out _ _ _ _ _⟩
        case measure => simp [intOf]; omega
      · obtain rfl : k = pl := by omega
        have l1 := hD.cell1
        clear hA hD hP hTk
        have HBE := Lib.hid (HD.out.1)
        have z0 := cell0_of (HD.out.2.2.1)
        have z1 := cell1_of (HD.out.2.2.1)
        have f0 := (HD.out.2.2.1).frozenAt 0
        have f1 := (HD.out.2.2.1).frozenAt 1
        go_wp2
        have x0 : ∀ u, (wr.setCell ⟨w.heap.size + 1, 0, none⟩ u).cell? ⟨w.heap.size + 1, 1, none⟩ = some (.slice none 0 0) := fun u => by rw [World.cell?_setCell_other _ _ _ _ (by simp)]; exact z1
        have r1 : ∀ u v, ((wr.setCell ⟨w.heap.size + 1, 0, none⟩ u).setCell ⟨w.heap.size + 1, 1, none⟩ v).cell? ⟨w.heap.size + 1, 1, none⟩ = some v := fun u v => World.cell?_setCell_same _ _ _ (x0 u)
        have r0 : ∀ u v, ((wr.setCell ⟨w.heap.size + 1, 0, none⟩ u).setCell ⟨w.heap.size + 1, 1, none⟩ v).cell? ⟨w.heap.size + 1, 0, none⟩ = some u := fun u v => by rw [World.cell?_setCell_other _ _ _ _ (by simp)]; exact World.cell?_setCell_same _ _ _ z0
        have hZ := HD.out.2.2.1.stored 0 (.slice qa k qc)
        have hZ2 := hZ.1.stored 1 (.slice ra tl rc)
        have hv2 := owns_side (owns_side HD.out.2.2.2 HD.out.2.2.1 (by decide) hZ.2) hZ.1 (by decide) hZ2.2
        have ht2 := (HTK.out.side HD.out.2.2.1 hZ.2 (by decide) (by decide)).side hZ.1 hZ2.2 (by decide) (by decide)
        refine bodyPost_ret (v := .tuple #[.agg #[.slice qa k qc, .slice ra tl rc], .bool true]) (by simp [results, Try.results33, go_sem, r0, r1]) rfl (⟨⟨qa, qc, ra, rc, ?_, ?_, ?_, ?_, ?_⟩, ?_⟩)
        · rw [List.length_map, hpl, htl]
        · rw [List.length_map, hpl]
          exact vs_owned hv2 (by rw [List.length_map, hpl]) (HPK.out.done hpl)
        · rw [htl]; exact ts_owned ht2 htl (ts_wf HT.out)
        · exact lv_of_owns hv2
        · rw [htl]; exact lt_of_owns ht2
        · exact (HBE.out.setCell (by show w.heap.size ≤ w.heap.size + 1; omega) _).setCell (by show w.heap.size ≤ w.heap.size + 1; omega) _
end Go.Proofs.Ytcgnmnbjgamedaa

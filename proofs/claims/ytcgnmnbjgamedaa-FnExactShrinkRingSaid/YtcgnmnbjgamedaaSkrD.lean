
/-
The law of ShrinkRing returns true: its walk. Conditions: none beyond that the mesh lies in memory.
-/
import Derived.Test.YtcgnmnbjgamedaaSkrC
import Derived.Test.YtcgnmnbjgamedaaSkrB
import Derived.Test.YtcgnmnbjgamedaaMshO
namespace Go.Proofs.Ytcgnmnbjgamedaa
open Go Fk Go.RowKit
set_option linter.unusedVariables false
set_option maxRecDepth 16000
theorem rV_len (f : C3 → C3) (cs : List C3) (ts : List (List Int)) : (rV f cs ts).length ≤ 64 ∧ (rT cs ts).length ≤ 128 := by
  cases hv : validB cs ts
  · rw [rV_no hv, rT_no hv]; simp
  · rw [rV_yes hv, rT_yes hv, List.length_map]; exact valid_pl hv
set_option maxHeartbeats 4000000 in
theorem shrinkRing_law (pa ta : Option Addr) (pl pc tl tc : Nat) (cs : List C3) (ts : List (List Int)) (z : Nat) (d : Option Nat) (w : World) (hp : IsVs w pa pl pc cs) (ht : IsTs w ta tl tc ts) (hb : FV .f32 z d) :
    Calls Try.prog 10 #[.agg #[.slice pa pl pc, .slice ta tl tc], .float .f32 z] w fun e w' => e = .returned (.bool true) ∧ Below w.heap.size w w' := by
  have hpl := hp.1
  have htl := ht.1
  have HP := Lib.hid hp
  have HT := Lib.hid ht
  have HPL := Lib.hid hpl
  have HTL := Lib.hid htl
  clear hp ht hpl htl
  have HSP := Lib.hid (fun (pa ta : Option Addr) (pc tc : Nat) (w : World) (hp : IsVs w pa pl pc cs) (ht : IsTs w ta tl tc ts) => spec_ShrinkRing pa ta pl pc tl tc cs ts z d w hp ht hb)
  have HIM := Lib.hid (fun (pa ta : Option Addr) (pc tc : Nat) (w : World) (hp : IsVs w pa pl pc cs) (ht : IsTs w ta tl tc ts) => impl_ShrinkRing pa ta pl pc tl tc cs ts z d w hp ht hb)
  obtain ⟨len1, len2⟩ := rV_len (fun c => shrC c d) cs ts
  generalize rV (fun c => shrC c d) cs ts = rcs at *
  generalize rT cs ts = rts at *
  generalize validB cs ts = ok at *
  have hvb : (ok == ok) = true := by cases ok <;> rfl
  have hvb' : (ok != ok) = false := by cases ok <;> rfl
  clear hb
  go_enter Try.func10, Try.ntmps10
  go_wp2_with fail
  have hB0 : Below w.heap.size w (w.alloc (.cells #[.slice pa pl pc, .slice ta tl tc] 45)) := (Below.refl _ _).alloc (Nat.le_refl _) _
  have a0 : (w.alloc (.cells #[.slice pa pl pc, .slice ta tl tc] 45)).cell? ⟨w.heap.size, 0, none⟩ = some (.slice pa pl pc) := by go_simp
  have a1 : (w.alloc (.cells #[.slice pa pl pc, .slice ta tl tc] 45)).cell? ⟨w.heap.size, 1, none⟩ = some (.slice ta tl tc) := by go_simp
  generalize w.alloc (.cells #[.slice pa pl pc, .slice ta tl tc] 45) = W at *
  refine (laws_szMesh _ _ _ _ _ _ _ _ 1048576 _ (HP.out.below hB0) (HT.out.below hB0) (by decide) (by decide)).mono ?_
  rintro e w1 ⟨⟨r, rfl, hr⟩, hB1⟩
  replace a0 := cell_below hB1 a0
  replace a1 := cell_below hB1 a1
  replace hB1 : Below w.heap.size w w1 := hB0.trans (hB1.mono hB0.size)
  clear hB0
  rcases hr with rfl | ⟨hr0, s1, s2, s3⟩
  · have HB := Lib.hid hB1
    clear hB1
    go_wp2
    go_ret
    exact ⟨rfl, HB.out⟩
  · have hS : Small cs ts := ⟨by rw [HPL.out]; exact s1, by rw [HTL.out]; exact s2, by rw [HTL.out]; exact s3⟩
    have HS := Lib.hid hS
    have HB1 := Lib.hid hB1
    clear s1 s2 s3 hS hB1
    go_wp2_with fail
    refine (laws_toMesh _ _ _ _ _ _ _ _ _ (HP.out.below HB1.out) (HT.out.below HB1.out) HS.out).mono ?_
    rintro e w2 ⟨⟨b, b', rfl, hb1, hb', hV2, hT2⟩, hB2⟩
    replace a0 := cell_below hB2 a0
    replace a1 := cell_below hB2 a1
    have HB2 := Lib.hid (HB1.out.trans (hB2.mono HB1.out.size))
    have HV2 := Lib.hid hV2
    have HT2 := Lib.hid hT2
    clear hB2 hV2 hT2 hb1 hb'
    go_wp2_with fail
    refine (HSP.out _ _ _ _ _ HV2.out HT2.out).mono ?_
    rintro e w3 ⟨⟨sa, sc, sa', sc', rfl, hSV, hST, hLV, hLT⟩, hB3⟩
    replace a0 := cell_below hB3 a0
    replace a1 := cell_below hB3 a1
    have lt3 := World.block_lt_of_cell? _ _ a0
    have HB3 := Lib.hid (HB2.out.trans (hB3.mono HB2.out.size))
    have hX : Below w3.heap.size w3 (w3.alloc (.cells #[.slice sa rcs.length sc, .slice sa' rts.length sc'] 49)) := (Below.refl _ _).alloc (Nat.le_refl _) _
    have s0 : (w3.alloc (.cells #[.slice sa rcs.length sc, .slice sa' rts.length sc'] 49)).cell? ⟨w3.heap.size, 0, none⟩ = some (.slice sa rcs.length sc) := by go_simp
    have s1 : (w3.alloc (.cells #[.slice sa rcs.length sc, .slice sa' rts.length sc'] 49)).cell? ⟨w3.heap.size, 1, none⟩ = some (.slice sa' rts.length sc') := by go_simp
    have hs3 : (w3.alloc (.cells #[.slice sa rcs.length sc, .slice sa' rts.length sc'] 49)).heap.size = w3.heap.size + 1 := by simp
    have HS3 := Lib.hid hs3
    have SV := Lib.hid (hSV.below hX)
    have ST := Lib.hid (hST.below hX)
    have LV3 := Lib.hid hLV
    have LT3 := Lib.hid (hLT.below hX)
    have HB3' := Lib.hid (HB3.out.trans (hX.mono HB3.out.size))
    have b0 := fun (o : Obj) => cell_alloc (o := o) a0
    have b1 := fun (o : Obj) => cell_alloc (o := o) a1
    replace a0 := cell_below hX a0
    replace a1 := cell_below hX a1
    clear hB3 hSV hST hLV hLT hX hs3
    go_wp2_with fail
    generalize (w3.alloc (.cells #[.slice sa rcs.length sc, .slice sa' rts.length sc'] 49)) = W3 at *
    clear b0 b1
    generalize w3.heap.size = S at *
    refine (laws_toMesh' _ _ _ _ _ _ _ _ _ (HP.out.below HB3'.out) (HT.out.below HB3'.out) HS.out).mono ?_
    rintro e w4 ⟨⟨c, c', rfl, hc, hc', hV4, hT4, hi4, hi4', hO4⟩, hB4⟩
    replace a0 := cell_below hB4 a0
    replace a1 := cell_below hB4 a1
    replace s0 := cell_below hB4 s0
    replace s1 := cell_below hB4 s1
    have SV := Lib.hid (SV.out.below hB4)
    have ST := Lib.hid (ST.out.below hB4)
    have LT4 := Lib.hid (LT3.out.below hB4)
    have HB4 := Lib.hid (HB3'.out.trans (hB4.mono HB3'.out.size))
    have HS34 := Lib.hid hB4.size
    have HV4 := Lib.hid hV4
    have HT4 := Lib.hid hT4
    have HO4 := Lib.hid hO4
    have HI4 := Lib.hid hi4'
    clear hB4 hV4 hT4 hc hc' hO4 hi4'
    go_wp2_with fail
    have hX : Below w4.heap.size w4 (w4.alloc (.cells #[.slice (some ⟨c, 0, none⟩) pl pl, .slice (some ⟨c', 0, none⟩) tl tl] 49)) := (Below.refl _ _).alloc (Nat.le_refl _) _
    have x0 : (w4.alloc (.cells #[.slice (some ⟨c, 0, none⟩) pl pl, .slice (some ⟨c', 0, none⟩) tl tl] 49)).cell? ⟨w4.heap.size, 0, none⟩ = some (.slice (some ⟨c, 0, none⟩) pl pl) := by go_simp
    have x1 : (w4.alloc (.cells #[.slice (some ⟨c, 0, none⟩) pl pl, .slice (some ⟨c', 0, none⟩) tl tl] 49)).cell? ⟨w4.heap.size, 1, none⟩ = some (.slice (some ⟨c', 0, none⟩) tl tl) := by go_simp
    replace a0 := cell_below hX a0
    replace a1 := cell_below hX a1
    replace s0 := cell_below hX s0
    replace s1 := cell_below hX s1
    have SV := Lib.hid (SV.out.below hX)
    have ST := Lib.hid (ST.out.below hX)
    have LT4 := Lib.hid (LT4.out.below hX)
    have HV4 := Lib.hid (HV4.out.below hX)
    have HT4 := Lib.hid (HT4.out.below hX)
    have HO4 := Lib.hid (HO4.out.below hX)
    have HB4 := Lib.hid (HB4.out.trans (hX.mono HB4.out.size))
    have hxs : (w4.alloc (.cells #[.slice (some ⟨c, 0, none⟩) pl pl, .slice (some ⟨c', 0, none⟩) tl tl] 49)).heap.size = w4.heap.size + 1 := by simp
    have HXS := Lib.hid hxs
    generalize (w4.alloc (.cells #[.slice (some ⟨c, 0, none⟩) pl pl, .slice (some ⟨c', 0, none⟩) tl tl] 49)) = W4 at *
    clear hX hxs
    generalize w4.heap.size = X at *
    go_wp2_with fail
    refine (HIM.out _ _ _ _ _ HV4.out HT4.out).mono ?_
    rintro e w5 ⟨⟨ga, gc, ga', gc', F, rfl, hGV, hGT, hGM⟩, hB5⟩
    replace a0 := cell_below hB5 a0
    replace a1 := cell_below hB5 a1
    replace s0 := cell_below hB5 s0
    replace s1 := cell_below hB5 s1
    replace x0 := cell_below hB5 x0
    replace x1 := cell_below hB5 x1
    have SV := Lib.hid (SV.out.below hB5)
    have ST := Lib.hid (ST.out.below hB5)
    have LT5 := Lib.hid (LT4.out.below hB5)
    have HV5 := Lib.hid (HV4.out.below hB5)
    have HT5 := Lib.hid (HT4.out.below hB5)
    have HO5 := Lib.hid (HO4.out.below hB5)
    have HB5 := Lib.hid (HB4.out.trans (hB5.mono HB4.out.size))
    have HS45 := Lib.hid hB5.size
    have GV := Lib.hid hGV
    have GT := Lib.hid hGT
    have GM5 := Lib.hid hGM
    clear hB5 hGV hGT hGM
    have hX : Below w5.heap.size w5 (w5.alloc (.cells #[.slice ga rcs.length gc, .slice ga' rts.length gc'] 49)) := (Below.refl _ _).alloc (Nat.le_refl _) _
    have g0 : (w5.alloc (.cells #[.slice ga rcs.length gc, .slice ga' rts.length gc'] 49)).cell? ⟨w5.heap.size, 0, none⟩ = some (.slice ga rcs.length gc) := by go_simp
    have g1 : (w5.alloc (.cells #[.slice ga rcs.length gc, .slice ga' rts.length gc'] 49)).cell? ⟨w5.heap.size, 1, none⟩ = some (.slice ga' rts.length gc') := by go_simp
    have hls : S < w5.heap.size := World.block_lt_of_cell? _ _ s0
    have hs5 : (w5.alloc (.cells #[.slice ga rcs.length gc, .slice ga' rts.length gc'] 49)).heap.size = w5.heap.size + 1 := by simp
    have HS5 := Lib.hid hs5
    replace a0 := cell_below hX a0
    replace a1 := cell_below hX a1
    replace x0 := cell_below hX x0
    replace x1 := cell_below hX x1
    have S0 := Lib.hid (cell_below hX s0)
    have S1 := Lib.hid (cell_below hX s1)
    have SV := Lib.hid (SV.out.below hX)
    have ST := Lib.hid (ST.out.below hX)
    have LT5 := Lib.hid (LT5.out.below hX)
    have HV5 := Lib.hid (HV5.out.below hX)
    have HT5 := Lib.hid (HT5.out.below hX)
    have HO5 := Lib.hid (HO5.out.below hX)
    have GV := Lib.hid (GV.out.below hX)
    have GT := Lib.hid (GT.out.below hX)
    have GM5' := Lib.hid (GM5.out.below hX)
    have HB5 := Lib.hid (HB5.out.trans (hX.mono HB5.out.size))
    clear hX hs5
    have lv0 := fun (o : Obj) => cell_alloc (o := o) s0
    have lv1 := fun (o : Obj) => cell_alloc (o := o) s1
    go_wp2_with fail
    clear lv0 lv1
    generalize (w5.alloc (.cells #[.slice ga rcs.length gc, .slice ga' rts.length gc'] 49)) = W5 at *
    clear hls
    generalize w5.heap.size = G at *
    replace s0 := S0.out
    replace s1 := S1.out
    refine (laws_eqMesh _ _ _ _ _ _ _ _ _ _ rcs rts _ GV.out GT.out SV.out ST.out).mono ?_
    rintro e w6 ⟨rfl, hB6⟩
    replace a0 := cell_below hB6 a0
    replace a1 := cell_below hB6 a1
    replace s0 := cell_below hB6 s0
    replace s1 := cell_below hB6 s1
    replace x0 := cell_below hB6 x0
    replace x1 := cell_below hB6 x1
    replace g0 := cell_below hB6 g0
    replace g1 := cell_below hB6 g1
    have SV := Lib.hid (SV.out.below hB6)
    have ST := Lib.hid (ST.out.below hB6)
    have LT6 := Lib.hid (LT5.out.below hB6)
    have HV6 := Lib.hid (HV5.out.below hB6)
    have HT6 := Lib.hid (HT5.out.below hB6)
    have HO6 := Lib.hid (HO5.out.below hB6)
    have GV := Lib.hid (GV.out.below hB6)
    have GT := Lib.hid (GT.out.below hB6)
    have GM6 := Lib.hid (GM5'.out.below hB6)
    have HS56 := Lib.hid hB6.size
    have HB6 := Lib.hid (HB5.out.trans (hB6.mono HB5.out.size))
    clear hB6
    go_wp2_with fail
    refine Reg.wp_region_mix (C := fun w' => Below w6.heap.size w6 w') (G := fun w1 w2 => Below w1.heap.size w1 w2) (R := fun i v w' => match i with | 0 => v = .agg #[.slice (some ⟨c, 0, none⟩) pl pl, .slice (some ⟨c', 0, none⟩) tl tl] | 1 => v = .agg #[.slice pa pl pc, .slice ta tl tc] | 2 => ∃ d d', v = .agg #[.slice (some ⟨d, 0, none⟩) pl pl, .slice (some ⟨d', 0, none⟩) tl tl] ∧ IsVs w' (some ⟨d, 0, none⟩) pl pl cs ∧ IsTs w' (some ⟨d', 0, none⟩) tl tl ts | 3 => v = .bool true | 4 => v = .bool false | _ => True) (T := fun _ _ _ => True) [false, false, false, false, false, false, false, false, false, false, false, false, false, false, false, false, false, false, false, false, false, false, false, false, false, false, false, false, false, false, false, false, false, false, false, false, false, false, false, false, false, false, false, false, false, true, true, true, true, true, false, false, false, false, false, false, false, false, false, false, false, false, false, false, false, false, false, false, false, false, false, false, false, false, false, false, false, false, false, false, false, false, false, false, false, false, false, false, false, false, false, false, false, false, false, false, false, false, false, false, false]
      (by kernel_rfl) (by kernel_rfl) (by kernel_rfl) ?_ (below_drewN (Below.refl _ _) 1) ?_ ?_
    · intro j v w1 w2 _ hG hR
      match j with
      | 0 => exact hR
      | 1 => exact hR
      | 2 => obtain ⟨d, d', e, h1, h2⟩ := hR; exact ⟨d, d', e, h1.below hG, h2.below hG⟩
      | 3 => exact hR
      | 4 => exact hR
      | _ + 5 => trivial
    · refine ⟨Reg.Obl.mk ?_, Reg.Obl.mk ?_, Reg.Obl.mk ?_, Reg.Obl.mk ?_, Reg.Obl.mk ?_, trivial⟩
      · rintro a w1 hB hx hd K hK
        have t8 : a.tmps[8]?.getD undef = .pointer (some ⟨X, 0, none⟩) := Reg.slot_val (hx 8 (by kernel_rfl))
        have y0 := cell_below hB x0
        have y1 := cell_below hB x1
        go_simp
        exact hK _ _ (fun _ => rfl) (fun h => by cases h) hB (Below.refl _ _)
      · rintro a w1 hB hx hd K hK
        have t2 : a.tmps[2]?.getD undef = .pointer (some ⟨w.heap.size, 0, none⟩) := Reg.slot_val (hx 2 (by kernel_rfl))
        have y0 := cell_below hB a0
        have y1 := cell_below hB a1
        go_simp
        exact hK _ _ (fun _ => rfl) (fun h => by cases h) hB (Below.refl _ _)
      · rintro a w1 hB hx hd K hK
        have t46 : a.tmps[46]?.getD undef = .agg #[.slice pa pl pc, .slice ta tl tc] := Reg.slot_val (hd 1 (by kernel_rfl) 46 rfl)
        go_simp
        have hW1 : Below w.heap.size w w1 := HB6.out.trans (hB.mono HB6.out.size)
        refine (laws_toMesh _ _ _ _ _ _ _ _ _ (HP.out.below hW1) (HT.out.below hW1) HS.out).mono ?_
        rintro en w2 ⟨⟨d, d', rfl, hd1, hd2, hV, hT⟩, hB2⟩
        exact hK _ _ (fun _ => ⟨d, d', rfl, hV, hT⟩) (fun h => by cases h) (hB.trans (hB2.mono hB.size)) hB2
      · rintro a w1 hB hx hd K hK
        have t45 : a.tmps[45]?.getD undef = .agg #[.slice (some ⟨c, 0, none⟩) pl pl, .slice (some ⟨c', 0, none⟩) tl tl] := Reg.slot_val (hd 0 (by kernel_rfl) 45 rfl)
        obtain ⟨e, e', g2, hV, hT⟩ := hd 2 (by kernel_rfl) 47 rfl
        have t47 := Reg.slot_val g2
        clear g2
        have HVe := Lib.hid hV
        have HTe := Lib.hid hT
        clear hV hT
        go_simp
        refine (laws_eqMesh _ _ _ _ _ _ _ _ _ _ cs ts _ (HV6.out.below hB) (HT6.out.below hB) HVe.out HTe.out).mono ?_
        rintro en w2 ⟨rfl, hB2⟩
        exact hK _ _ (fun _ => rfl) (fun h => by cases h) (hB.trans (hB2.mono hB.size)) hB2
      · rintro a w1 hB hx hd K hK
        have t48 : a.tmps[48]?.getD undef = .bool true := Reg.slot_val (hd 3 (by kernel_rfl) 48 rfl)
        go_simp
        exact hK _ _ (fun _ => rfl) (fun h => by cases h) hB (Below.refl _ _)
    · rintro f wz hB6 hd hT
      have g49 : f 49 = .bool false := hd 4 49 rfl
      simp only [Reg.mixL, g49]
      have HS6z := Lib.hid hB6.size
      have y0 := cell_below hB6 x0
      have y1 := cell_below hB6 x1
      have b0 := cell_below hB6 a0
      have b1 := cell_below hB6 a1
      have t0 := cell_below hB6 s0
      have t1 := cell_below hB6 s1
      have u0 := cell_below hB6 g0
      have u1 := cell_below hB6 g1
      have SVz := Lib.hid (SV.out.below hB6)
      have STz := Lib.hid (ST.out.below hB6)
      have LTz := Lib.hid (LT6.out.below hB6)
      have GVz := Lib.hid (GV.out.below hB6)
      have GTz := Lib.hid (GT.out.below hB6)
      have GMz := Lib.hid (GM6.out.below hB6)
      have HOz := Lib.hid (HO6.out.below hB6)
      have HBz := Lib.hid (HB6.out.trans (hB6.mono HB6.out.size))
      clear hB6 x0 x1 a0 a1 s0 s1 g0 g1 hd hT
      have lo3 : w.heap.size < S := lt3
      have z3 := HS3.out
      have z34 := HS34.out
      have zi := HI4.out
      have zx := HXS.out
      have z45 := HS45.out
      have z5 := HS5.out
      have z56 := HS56.out
      have z6z := HS6z.out
      have SM := Lib.hid HS.out
      go_wp2_with fail
      refine (laws_markMesh W3.heap.size hi4 c 0 c' 0 pl pl tl tl ts 1 wz HOz.out (by omega) (by rw [← HPL.out]; exact SM.out.1) (by rw [← HTL.out]; exact SM.out.2.1) (fun j hj => SM.out.2.2 j (by rw [HTL.out]; exact hj)) (by decide)).mono ?_
      rintro e w7 ⟨z7, rfl, hM⟩
      have hz0 : ¬ ((z7 : Int) < 0) := by omega
      have a0 := hM.cell (.inl (by omega)) b0
      have a1 := hM.cell (.inl (by omega)) b1
      have s0 := hM.cell (.inl (by omega)) t0
      have s1 := hM.cell (.inl (by omega)) t1
      have g0 := hM.cell (.inr (by omega)) u0
      have g1 := hM.cell (.inr (by omega)) u1
      have SV7 := Lib.hid (vs_away SVz.out LV3.out hM (.inl (by omega)))
      have hst := ts_away STz.out LTz.out hM (.inl (by omega))
      have ST7 := Lib.hid hst.1
      have LT7 := Lib.hid hst.2
      have GV7 := Lib.hid (GMz.out.vs GVz.out hM (.inl (by omega)))
      have GT7 := Lib.hid (GMz.out.ts GTz.out hM (.inl (by omega)))
      have GM7 := Lib.hid (GMz.out.mark hM (.inl (by omega)))
      have HB7 := Lib.hid (HBz.out.trans (hM.below.mono (by omega)))
      have z7s := hM.below.size
      clear hM b0 b1 y0 y1 t0 t1 u0 u1 hst
      go_wp2_with fail
      refine (laws_eqMesh _ _ _ _ _ _ _ _ _ _ rcs rts _ GV7.out GT7.out SV7.out ST7.out).mono ?_
      rintro e w8 ⟨rfl, hB8⟩
      replace a0 := cell_below hB8 a0
      replace a1 := cell_below hB8 a1
      replace s0 := cell_below hB8 s0
      replace s1 := cell_below hB8 s1
      replace g0 := cell_below hB8 g0
      replace g1 := cell_below hB8 g1
      have SV8 := Lib.hid (SV7.out.below hB8)
      have ST8 := Lib.hid (ST7.out.below hB8)
      have LT8 := Lib.hid (LT7.out.below hB8)
      have GM8 := Lib.hid (GM7.out.below hB8)
      have z78 := hB8.size
      have HB8 := Lib.hid (HB7.out.trans (hB8.mono HB7.out.size))
      clear hB8
      go_wp2_with fail
      refine (mark_gm W4.heap.size G ga ga' rcs.length gc rts.length gc' F w8 GM8.out (by omega) (by omega) (by omega)).mono ?_
      rintro e w9 ⟨rfl, hmk, hM9⟩
      have a0 := hM9.cell (.inl (by omega)) a0
      have a1 := hM9.cell (.inl (by omega)) a1
      have s0 := hM9.cell (.inl (by omega)) s0
      have s1 := hM9.cell (.inl (by omega)) s1
      have g0 := hM9.cell (.inr (by omega)) g0
      have g1 := hM9.cell (.inr (by omega)) g1
      have SV9 := Lib.hid (vs_away SV8.out LV3.out hM9 (.inl (by omega)))
      have hst := ts_away ST8.out LT8.out hM9 (.inl (by omega))
      have ST9 := Lib.hid hst.1
      have HB9 := Lib.hid (HB8.out.trans (hM9.below.mono (by omega)))
      have HMK := Lib.hid hmk
      have l1 := len1
      have l2 := len2
      clear hmk hM9 hst
      have HHG := Lib.hid (fun (w : World) (h : MrkM w ga ga' rcs.length rts.length F) => held_gm ga ga' rcs.length gc rts.length gc' F w h (by omega) (by omega))
      generalize 1 + rcs.length * 3 + rts.length * 3 = N at *
      have hn0 : ¬ ((N : Int) < 0) := by omega
      go_wp2_with fail
      refine (HHG.out w9 HMK.out).mono ?_
      rintro e w10 ⟨rfl, hB10⟩
      replace a0 := cell_below hB10 a0
      replace a1 := cell_below hB10 a1
      replace s0 := cell_below hB10 s0
      replace s1 := cell_below hB10 s1
      replace g0 := cell_below hB10 g0
      replace g1 := cell_below hB10 g1
      have SV10 := Lib.hid (SV9.out.below hB10)
      have ST10 := Lib.hid (ST9.out.below hB10)
      have MK10 := Lib.hid (HMK.out.below hB10)
      have HB10 := Lib.hid (HB9.out.trans (hB10.mono HB9.out.size))
      clear hB10
      go_wp2_with fail
      refine (laws_toMesh _ _ _ _ _ _ _ _ _ (HP.out.below HB10.out) (HT.out.below HB10.out) HS.out).mono ?_
      rintro e w11 ⟨⟨d1, d2, rfl, _, _, hV11, hT11⟩, hB11⟩
      replace s0 := cell_below hB11 s0
      replace s1 := cell_below hB11 s1
      replace g0 := cell_below hB11 g0
      replace g1 := cell_below hB11 g1
      have SV11 := Lib.hid (SV10.out.below hB11)
      have ST11 := Lib.hid (ST10.out.below hB11)
      have MK11 := Lib.hid (MK10.out.below hB11)
      have HB11 := Lib.hid (HB10.out.trans (hB11.mono HB10.out.size))
      have HV11 := Lib.hid hV11
      have HT11 := Lib.hid hT11
      clear hB11 hV11 hT11 a0 a1
      go_wp2_with fail
      refine (HIM.out _ _ _ _ _ HV11.out HT11.out).mono ?_
      rintro e w12 ⟨⟨ha, hc, ha', hc', F', rfl, hHV, hHT, _⟩, hB12⟩
      replace s0 := cell_below hB12 s0
      replace s1 := cell_below hB12 s1
      replace g0 := cell_below hB12 g0
      replace g1 := cell_below hB12 g1
      have hX : Below w12.heap.size w12 (w12.alloc (.cells #[.slice ha rcs.length hc, .slice ha' rts.length hc'] 49)) := (Below.refl _ _).alloc (Nat.le_refl _) _
      have hls : S < w12.heap.size := World.block_lt_of_cell? _ _ s0
      have S0 := Lib.hid (cell_below hX s0)
      have S1 := Lib.hid (cell_below hX s1)
      have G0 := Lib.hid (cell_below hX g0)
      have G1 := Lib.hid (cell_below hX g1)
      have SV12 := Lib.hid ((SV11.out.below hB12).below hX)
      have ST12 := Lib.hid ((ST11.out.below hB12).below hX)
      have HV12 := Lib.hid (hHV.below hX)
      have HT12 := Lib.hid (hHT.below hX)
      have MK12 := Lib.hid ((MK11.out.below hB12).below hX)
      have HB12' := HB11.out.trans (hB12.mono HB11.out.size)
      have HB12 := Lib.hid (HB12'.trans (hX.mono HB12'.size))
      have lv0 := fun (o : Obj) => cell_alloc (o := o) s0
      have lv1 := fun (o : Obj) => cell_alloc (o := o) s1
      clear hB12 hHV hHT HB12' hX
      go_wp2_with fail
      clear lv0 lv1 hls s0 s1 g0 g1
      generalize (w12.alloc (.cells #[.slice ha rcs.length hc, .slice ha' rts.length hc'] 49)) = W12 at *
      have g0 := G0.out
      have g1 := G1.out
      refine (laws_eqMesh _ _ _ _ _ _ _ _ _ _ rcs rts _ HV12.out HT12.out SV12.out ST12.out).mono ?_
      rintro e w13 ⟨rfl, hB13⟩
      replace g0 := cell_below hB13 g0
      replace g1 := cell_below hB13 g1
      have MK13 := Lib.hid (MK12.out.below hB13)
      have HB13 := Lib.hid (HB12.out.trans (hB13.mono HB12.out.size))
      clear hB13
      go_wp2_with fail
      refine (HHG.out w13 MK13.out).mono ?_
      rintro e w14 ⟨rfl, hB14⟩
      have HB14 := Lib.hid (HB13.out.trans (hB14.mono HB13.out.size))
      clear hB14
      go_wp2
      go_ret
      exact ⟨rfl, HB14.out⟩
theorem FnExactShrinkRing_law (pa ta : Option Addr) (pl pc tl tc : Nat) (cs : List C3) (ts : List (List Int)) (z : Nat) (w : World) (hp : IsVs w pa pl pc cs) (ht : IsTs w ta tl tc ts) (hz : z < 2 ^ FloatKind.f32.format.width) :
    Calls Try.prog 10 #[.agg #[.slice pa pl pc, .slice ta tl tc], .float .f32 z] w fun e w' => e = .returned (.bool true) ∧ Below w.heap.size w w' :=
  shrinkRing_law pa ta pl pc tl tc cs ts z (cls .f32 z) w hp ht (FV.self hz)
end Go.Proofs.Ytcgnmnbjgamedaa

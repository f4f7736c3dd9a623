/-
Texts in one: what NeighboursOf stands on, part 5. Conditions: those of each.
-/
import Derived.Test.YtockhhfehjoldaaKNeighboursOf4

/-
The neighbours of a place: the law returns true. Conditions: none beyond that the mesh lies in memory.
-/
namespace Go.Proofs.Ytockhhfehjoldaa
open Go Fk Go.RowKit
set_option linter.unusedVariables false
set_option maxRecDepth 16000

set_option maxHeartbeats 4000000 in
theorem FnExactNeighboursOf_law (pa ta : Option Addr) (pl pc tl tc : Nat) (cs : List C3) (ts : List (List Int)) (i : Int) (w : World) (hp : IsVs w pa pl pc cs) (ht : IsTs w ta tl tc ts) (hi0 : (Lit.int .i64 i).wf = true) :
    Calls Try.prog 4 #[.agg #[.slice pa pl pc, .slice ta tl tc], .int .i64 i] w fun e w' => e = .returned (.bool true) ∧ Below w.heap.size w w' := by
  have hpl := hp.1
  have htl := ht.1
  have HP := Lib.hid hp
  have HT := Lib.hid ht
  have HPL := Lib.hid hpl
  have HTL := Lib.hid htl
  clear hp ht hpl htl
  obtain ⟨L, hL⟩ : ∃ L : List Int, L = nbO cs ts i := ⟨_, rfl⟩
  obtain ⟨nb, hnb⟩ : ∃ nb : Bool, nb = ofB cs ts i := ⟨_, rfl⟩
  have HSP := Lib.hid (fun (pa ta : Option Addr) (pc tc : Nat) (w : World) (hp : IsVs w pa pl pc cs) (ht : IsTs w ta tl tc ts) => spec_NeighboursOf pa ta pl pc tl tc cs ts i w hp ht)
  have HIM := Lib.hid (fun (pa ta : Option Addr) (pc tc : Nat) (w : World) (hp : IsVs w pa pl pc cs) (ht : IsTs w ta tl tc ts) => impl_NeighboursOf pa ta pl pc tl tc cs ts i w hp ht)
  have hwf := nbO_wf cs ts i
  have hll := nbO_len cs ts i
  rw [← hL, ← hnb] at HSP HIM
  rw [← hL] at hwf hll
  have HWF := Lib.hid hwf
  clear hL hnb hwf
  go_enter Try.func4, Try.ntmps4
  go_wp2_with fail
  have hB0 : Below w.heap.size w (w.alloc (.cells #[.slice pa pl pc, .slice ta tl tc] 25)) := (Below.refl _ _).alloc (Nat.le_refl _) _
  have a0 : (w.alloc (.cells #[.slice pa pl pc, .slice ta tl tc] 25)).cell? ⟨w.heap.size, 0, none⟩ = some (.slice pa pl pc) := by go_simp
  have a1 : (w.alloc (.cells #[.slice pa pl pc, .slice ta tl tc] 25)).cell? ⟨w.heap.size, 1, none⟩ = some (.slice ta tl tc) := by go_simp
  generalize w.alloc (.cells #[.slice pa pl pc, .slice ta tl tc] 25) = W at *
  refine (laws_szMesh _ _ _ _ _ _ _ _ 1048576 _ (HP.out.below hB0) (HT.out.below hB0) (by decide) (by decide)).mono ?_
  rintro e w1 ⟨⟨r, rfl, hr⟩, hB1⟩
  replace a0 := cell_below hB1 a0
  replace a1 := cell_below hB1 a1
  replace hB1 : Below w.heap.size w w1 := hB0.trans (hB1.mono hB0.size)
  clear hB0
  rcases hr with rfl | ⟨hr0, s1, s2, s3⟩
  · have HB := Lib.hid hB1
    clear hB1
    go_wp2
    go_ret
    exact ⟨rfl, HB.out⟩
  · have hS : Small cs ts := ⟨by rw [HPL.out]; exact s1, by rw [HTL.out]; exact s2, by rw [HTL.out]; exact s3⟩
    have HS := Lib.hid hS
    have HB1 := Lib.hid hB1
    clear s1 s2 s3 hS hB1
    go_wp2_with fail
    refine (laws_toMesh _ _ _ _ _ _ _ _ _ (HP.out.below HB1.out) (HT.out.below HB1.out) HS.out).mono ?_
    rintro e w2 ⟨⟨b, b', rfl, hb, hb', hV2, hT2⟩, hB2⟩
    replace a0 := cell_below hB2 a0
    replace a1 := cell_below hB2 a1
    have HB2 := Lib.hid (HB1.out.trans (hB2.mono HB1.out.size))
    have HV2 := Lib.hid hV2
    have HT2 := Lib.hid hT2
    clear hB2 hV2 hT2 hb hb'
    go_wp2_with fail
    refine (HSP.out _ _ _ _ _ HV2.out HT2.out).mono ?_
    rintro e w3 ⟨sv, rfl, hso, hB3⟩
    obtain ⟨sa, sc, rfl, hsi, hsl⟩ := owns_list hso HWF.out
    have SI := Lib.hid hsi
    have SL := Lib.hid hsl
    replace a0 := cell_below hB3 a0
    replace a1 := cell_below hB3 a1
    have LT3 := Lib.hid (World.block_lt_of_cell? _ _ a0)
    have HB3 := Lib.hid (HB2.out.trans (hB3.mono HB2.out.size))
    clear hB3 hso hsi hsl
    generalize hn : L.length = n at *
    have HLN := Lib.hid hn
    clear hn
    go_wp2_with fail
    refine (laws_toMesh' _ _ _ _ _ _ _ _ _ (HP.out.below HB3.out) (HT.out.below HB3.out) HS.out).mono ?_
    rintro e w4 ⟨⟨c, c', rfl, hc, hc', hV4, hT4, hi4, hi4', hO4⟩, hB4⟩
    replace a0 := cell_below hB4 a0
    replace a1 := cell_below hB4 a1
    have SI := Lib.hid (SI.out.below hB4)
    have HB4 := Lib.hid (HB3.out.trans (hB4.mono HB3.out.size))
    have HV4 := Lib.hid hV4
    have HT4 := Lib.hid hT4
    have HO4 := Lib.hid hO4
    have HI4 := Lib.hid hi4'
    have HS34 := Lib.hid hB4.size
    clear hB4 hV4 hT4 hc hc' hO4 hi4'
    go_wp2_with fail
    have hX : Below w4.heap.size w4 (w4.alloc (.cells #[.slice (some ⟨c, 0, none⟩) pl pl, .slice (some ⟨c', 0, none⟩) tl tl] 31)) := (Below.refl _ _).alloc (Nat.le_refl _) _
    have x0 : (w4.alloc (.cells #[.slice (some ⟨c, 0, none⟩) pl pl, .slice (some ⟨c', 0, none⟩) tl tl] 31)).cell? ⟨w4.heap.size, 0, none⟩ = some (.slice (some ⟨c, 0, none⟩) pl pl) := by go_simp
    have x1 : (w4.alloc (.cells #[.slice (some ⟨c, 0, none⟩) pl pl, .slice (some ⟨c', 0, none⟩) tl tl] 31)).cell? ⟨w4.heap.size, 1, none⟩ = some (.slice (some ⟨c', 0, none⟩) tl tl) := by go_simp
    replace a0 := cell_below hX a0
    replace a1 := cell_below hX a1
    have SI := Lib.hid (SI.out.below hX)
    have HV4 := Lib.hid (HV4.out.below hX)
    have HT4 := Lib.hid (HT4.out.below hX)
    have HO4 := Lib.hid (HO4.out.below hX)
    have HB4 := Lib.hid (HB4.out.trans (hX.mono HB4.out.size))
    have HXS := Lib.hid hX.size
    generalize (w4.alloc (.cells #[.slice (some ⟨c, 0, none⟩) pl pl, .slice (some ⟨c', 0, none⟩) tl tl] 31)) = W4 at *
    clear hX
    generalize w4.heap.size = X at *
    go_wp2_with fail
    refine (HIM.out _ _ _ _ _ HV4.out HT4.out).mono ?_
    rintro e w5 ⟨gv, rfl, hgo, hB5⟩
    rw [← HLN.out] at hgo
    obtain ⟨ga, gc, rfl, hgi, hgl⟩ := owns_list hgo HWF.out
    rw [HLN.out] at hgi hgl ⊢
    have GI := Lib.hid hgi
    have GL := Lib.hid hgl
    have GL0 := Lib.hid hgl
    replace a0 := cell_below hB5 a0
    replace a1 := cell_below hB5 a1
    replace x0 := cell_below hB5 x0
    replace x1 := cell_below hB5 x1
    have SI := Lib.hid (SI.out.below hB5)
    have HV5 := Lib.hid (HV4.out.below hB5)
    have HT5 := Lib.hid (HT4.out.below hB5)
    have HO5 := Lib.hid (HO4.out.below hB5)
    have HB5 := Lib.hid (HB4.out.trans (hB5.mono HB4.out.size))
    have HS45 := Lib.hid hB5.size
    clear hB5 hgo hgi hgl
    go_wp2_with fail
    refine (laws_eqInt64S _ _ _ _ _ _ _ GI.out SI.out).mono ?_
    rintro en w6 ⟨rfl, n5, hw6⟩
    have hB6 : Below w5.heap.size w5 w6 := by rw [hw6]; exact below_drewN (Below.refl _ _) _
    replace a0 := cell_below hB6 a0
    replace a1 := cell_below hB6 a1
    replace x0 := cell_below hB6 x0
    replace x1 := cell_below hB6 x1
    have SI := Lib.hid (SI.out.below hB6)
    have GI := Lib.hid (GI.out.below hB6)
    have GL := Lib.hid (GL.out.below hB6)
    have HO6 := Lib.hid (HO5.out.below hB6)
    have HV6 := Lib.hid (HV5.out.below hB6)
    have HT6 := Lib.hid (HT5.out.below hB6)
    have HB6 := Lib.hid (HB5.out.trans (hB6.mono HB5.out.size))
    have HS56 := Lib.hid hB6.size
    clear hB6 hw6
    go_wp2_with fail
    refine Reg.wp_region_mix (C := fun w' => Below w6.heap.size w6 w') (G := fun w1 w2 => Below w1.heap.size w1 w2) (R := fun i v w' => match i with | 0 => v = .agg #[.slice (some ⟨c, 0, none⟩) pl pl, .slice (some ⟨c', 0, none⟩) tl tl] | 1 => v = .agg #[.slice pa pl pc, .slice ta tl tc] | 2 => ∃ d d', v = .agg #[.slice (some ⟨d, 0, none⟩) pl pl, .slice (some ⟨d', 0, none⟩) tl tl] ∧ IsVs w' (some ⟨d, 0, none⟩) pl pl cs ∧ IsTs w' (some ⟨d', 0, none⟩) tl tl ts | 3 => v = .bool true | 4 => v = .bool false | _ => True) (T := fun _ _ _ => True) [false, false, false, false, false, false, false, false, false, false, false, false, false, false, false, false, false, false, false, false, false, false, false, false, false, false, false, false, false, false, false, false, false, false, false, false, false, false, false, false, false, false, false, false, false, true, true, true, true, true, false, false, false, false, false, false, false, false, false, false, false, false, false, false, false, false, false, false, false, false, false, false, false, false, false, false, false, false, false, false, false, false, false, false, false, false, false, false, false, false, false, false, false, false, false, false, false, false, false, false, false]
      (by kernel_rfl) (by kernel_rfl) (by kernel_rfl) ?_ (below_drewN (Below.refl _ _) 1) ?_ ?_
    · intro j v w1 w2 _ hG hR
      match j with
      | 0 => exact hR
      | 1 => exact hR
      | 2 => obtain ⟨d, d', e, h1, h2⟩ := hR; exact ⟨d, d', e, h1.below hG, h2.below hG⟩
      | 3 => exact hR
      | 4 => exact hR
      | _ + 5 => trivial
    · refine ⟨Reg.Obl.mk ?_, Reg.Obl.mk ?_, Reg.Obl.mk ?_, Reg.Obl.mk ?_, Reg.Obl.mk ?_, trivial⟩
      · rintro a w1 hB hx hd K hK
        have t8 : a.tmps[8]?.getD undef = .pointer (some ⟨X, 0, none⟩) := Reg.slot_val (hx 8 (by kernel_rfl))
        have y0 := cell_below hB x0
        have y1 := cell_below hB x1
        go_simp
        exact hK _ _ (fun _ => rfl) (fun h => by cases h) hB (Below.refl _ _)
      · rintro a w1 hB hx hd K hK
        have t2 : a.tmps[2]?.getD undef = .pointer (some ⟨w.heap.size, 0, none⟩) := Reg.slot_val (hx 2 (by kernel_rfl))
        have y0 := cell_below hB a0
        have y1 := cell_below hB a1
        go_simp
        exact hK _ _ (fun _ => rfl) (fun h => by cases h) hB (Below.refl _ _)
      · rintro a w1 hB hx hd K hK
        have t46 : a.tmps[46]?.getD undef = .agg #[.slice pa pl pc, .slice ta tl tc] := Reg.slot_val (hd 1 (by kernel_rfl) 46 rfl)
        go_simp
        have hW1 : Below w.heap.size w w1 := HB6.out.trans (hB.mono HB6.out.size)
        refine (laws_toMesh _ _ _ _ _ _ _ _ _ (HP.out.below hW1) (HT.out.below hW1) HS.out).mono ?_
        rintro en w2 ⟨⟨d, d', rfl, hd1, hd2, hV, hT⟩, hB2⟩
        exact hK _ _ (fun _ => ⟨d, d', rfl, hV, hT⟩) (fun h => by cases h) (hB.trans (hB2.mono hB.size)) hB2
      · rintro a w1 hB hx hd K hK
        have t45 : a.tmps[45]?.getD undef = .agg #[.slice (some ⟨c, 0, none⟩) pl pl, .slice (some ⟨c', 0, none⟩) tl tl] := Reg.slot_val (hd 0 (by kernel_rfl) 45 rfl)
        obtain ⟨e, e', g2, hV, hT⟩ := hd 2 (by kernel_rfl) 47 rfl
        have t47 := Reg.slot_val g2
        clear g2
        have HVe := Lib.hid hV
        have HTe := Lib.hid hT
        clear hV hT
        go_simp
        refine (laws_eqMesh _ _ _ _ _ _ _ _ _ _ cs ts _ (HV6.out.below hB) (HT6.out.below hB) HVe.out HTe.out).mono ?_
        rintro en w2 ⟨rfl, hB2⟩
        exact hK _ _ (fun _ => rfl) (fun h => by cases h) (hB.trans (hB2.mono hB.size)) hB2
      · rintro a w1 hB hx hd K hK
        have t48 : a.tmps[48]?.getD undef = .bool true := Reg.slot_val (hd 3 (by kernel_rfl) 48 rfl)
        go_simp
        exact hK _ _ (fun _ => rfl) (fun h => by cases h) hB (Below.refl _ _)
    · rintro f wz hB6 hd hT
      have g49 : f 49 = .bool false := hd 4 49 rfl
      simp only [Reg.mixL, g49]
      have HS6z := Lib.hid hB6.size
      have y0 := cell_below hB6 x0
      have y1 := cell_below hB6 x1
      have b0 := cell_below hB6 a0
      have b1 := cell_below hB6 a1
      have SIz := Lib.hid (SI.out.below hB6)
      have GIz := Lib.hid (GI.out.below hB6)
      have GLz := Lib.hid (GL.out.below hB6)
      have HOz := Lib.hid (HO6.out.below hB6)
      have HBz := Lib.hid (HB6.out.trans (hB6.mono HB6.out.size))
      clear hB6 x0 x1 a0 a1 hd hT
      have lo3 : w.heap.size < w3.heap.size := LT3.out
      have sz34 := HS34.out
      have sz45 := HS45.out
      have szx := HXS.out
      have sz56 := HS56.out
      have sz6z := HS6z.out
      have szi := HI4.out
      have SZ := Lib.hid (And.intro lo3 (And.intro sz34 (And.intro sz45 (And.intro szx (And.intro sz56 (And.intro sz6z szi))))))
      have SM := Lib.hid HS.out
      clear sz34 sz45 szx sz56 sz6z szi lo3
      go_wp2_with fail
      refine (laws_markMesh w3.heap.size hi4 c 0 c' 0 pl pl tl tl ts 1 wz HOz.out (by have h := SZ.out; omega) (by rw [← HPL.out]; exact SM.out.1) (by rw [← HTL.out]; exact SM.out.2.1) (fun j hj => SM.out.2.2 j (by rw [HTL.out]; exact hj)) (by decide)).mono ?_
      rintro e w7 ⟨z, rfl, hM⟩
      have hz0 : ¬ ((z : Int) < 0) := by omega
      have a0 := hM.cell (.inl LT3.out) b0
      have a1 := hM.cell (.inl LT3.out) b1
      have SI7 := Lib.hid (is_mark SIz.out SL.out hM (.inl (Nat.le_refl _)))
      have GI7 := Lib.hid (is_mark GIz.out GL0.out hM (.inr (by have h := SZ.out; omega)))
      have GL7 := Lib.hid (GLz.out.mark hM)
      have HB7 := Lib.hid (HBz.out.trans (hM.below.mono (by have h := SZ.out; omega)))
      clear hM b0 b1 y0 y1
      go_wp2_with fail
      refine (laws_eqInt64S _ _ _ _ _ _ _ GI7.out SI7.out).mono ?_
      rintro en w8 ⟨rfl, n8, hw8⟩
      have hB8 : Below w7.heap.size w7 w8 := by rw [hw8]; exact below_drewN (Below.refl _ _) _
      replace a0 := cell_below hB8 a0
      replace a1 := cell_below hB8 a1
      have SI8 := Lib.hid (SI7.out.below hB8)
      have GL8 := Lib.hid (GL7.out.below hB8)
      have HB8 := Lib.hid (HB7.out.trans (hB8.mono HB7.out.size))
      clear hB8 hw8
      go_wp2_with fail
      refine (mark_any W4.heap.size w5.heap.size ga n gc w8 GL8.out (by omega)).mono ?_
      rintro e w9 ⟨rfl, hmk, hM9⟩
      have lt4 : w.heap.size < W4.heap.size := by have h := SZ.out; omega
      replace a0 := hM9.cell (.inl lt4) a0
      replace a1 := hM9.cell (.inl lt4) a1
      have SI9 := Lib.hid (is_mark SI8.out SL.out hM9 (.inl (by have h := SZ.out; omega)))
      have HB9 := Lib.hid (HB8.out.trans (hM9.below.mono (by omega)))
      have HMK := Lib.hid hmk
      clear hmk hM9 lt4
      go_wp2_with fail
      refine (held_any ga n gc w9 HMK.out (by omega)).mono ?_
      rintro e w10 ⟨rfl, hw10⟩
      rw [hw10]
      clear hw10
      go_wp2_with fail
      refine (laws_toMesh _ _ _ _ _ _ _ _ _ (HP.out.below HB9.out) (HT.out.below HB9.out) HS.out).mono ?_
      rintro e w11 ⟨⟨d, d', rfl, hd, hd', hV11, hT11⟩, hB11⟩
      replace a0 := cell_below hB11 a0
      replace a1 := cell_below hB11 a1
      have SI11 := Lib.hid (SI9.out.below hB11)
      have MK11 := Lib.hid (HMK.out.below hB11)
      have HB11 := Lib.hid (HB9.out.trans (hB11.mono HB9.out.size))
      have HV11 := Lib.hid hV11
      have HT11 := Lib.hid hT11
      clear hB11 hV11 hT11 hd hd'
      go_wp2_with fail
      refine (HIM.out _ _ _ _ _ HV11.out HT11.out).mono ?_
      rintro e w12 ⟨hv, rfl, hho, hB12⟩
      rw [← HLN.out] at hho
      obtain ⟨ha, hc, rfl, hhi, _⟩ := owns_list hho HWF.out
      rw [HLN.out] at hhi ⊢
      have HI12 := Lib.hid hhi
      have SI12 := Lib.hid (SI11.out.below hB12)
      have MK12 := Lib.hid (MK11.out.below hB12)
      have HB12 := Lib.hid (HB11.out.trans (hB12.mono HB11.out.size))
      clear hB12 hho hhi a0 a1
      go_wp2_with fail
      refine (laws_eqInt64S _ _ _ _ _ _ _ HI12.out SI12.out).mono ?_
      rintro en w13 ⟨rfl, n13, hw13⟩
      have hB13 : Below w12.heap.size w12 w13 := by rw [hw13]; exact below_drewN (Below.refl _ _) _
      have MK13 := Lib.hid (MK12.out.below hB13)
      have HB13 := Lib.hid (HB12.out.trans (hB13.mono HB12.out.size))
      clear hB13 hw13
      go_wp2_with fail
      refine (held_any ga n gc w13 MK13.out (by omega)).mono ?_
      rintro e w14 ⟨rfl, hw14⟩
      rw [hw14]
      clear hw14
      go_wp2
      go_ret
      exact ⟨rfl, HB13.out⟩
end Go.Proofs.Ytockhhfehjoldaa

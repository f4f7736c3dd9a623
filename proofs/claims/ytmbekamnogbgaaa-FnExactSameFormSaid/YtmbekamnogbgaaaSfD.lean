
/-
The law of meshes that are the same returns true: its walk. Conditions: none beyond that the meshes lie in memory.
-/
import Derived.Test.YtmbekamnogbgaaaSfA
namespace Go.Proofs.Ytmbekamnogbgaaa
open Go Fk Go.RowKit
set_option linter.unusedVariables false
set_option maxRecDepth 8000

theorem laws_szMesh2 (pa ta : Option Addr) (pl pc tl tc : Nat) (cs : List C3) (ts : List (List Int)) (left : Int) (w : World) (hp : IsVs w pa pl pc cs) (ht : IsTs w ta tl tc ts) (h0 : 0 ≤ left) (h1 : left ≤ 1048576) :
    Calls Try.prog 15 #[.agg #[.slice pa pl pc, .slice ta tl tc], .int .i64 left] w fun e w' => (∃ r : Int, e = .returned (.int .i64 r) ∧ (r = -1 ∨ (0 ≤ r ∧ r ≤ 1048576 ∧ pl ≤ 1048576 ∧ tl ≤ 1048576 ∧ ∀ k, k < tl → (ts.getD k []).length ≤ 1048576))) ∧ Below w.heap.size w w' := by
  have hpm : pl ≤ 9223372036854775807 := by have h1 := hp.2.1; have h2 := hp.2.2.1; unfold maxLen at h2; omega
  have u := Try.underlying25
  go_enter Try.func15, Try.ntmps15
  go_wp2_with (go_at_call 25; refine (laws_szVectorS _ _ _ _ _ h0 h1 hpm).mono ?_; rintro e w1 ⟨⟨r, rfl, hr⟩, hw1⟩; rw [hw1]; clear hw1 w1; rcases hr with rfl | ⟨hr2, hr3, hn3⟩)
  · go_ret
    exact ⟨⟨-1, rfl, .inl rfl⟩, (Below.refl _ _).alloc (Nat.le_refl _) _⟩
  · have hb : Below w.heap.size w (w.alloc (.cells #[.slice pa pl pc, .slice ta tl tc] 25)) := (Below.refl _ _).alloc (Nat.le_refl _) _
    have ht' := ht.below hb
    go_wp2_with (go_at_call 70; refine (laws_szInt64SS _ _ _ _ _ _ ht' hr2 hr3).mono ?_; rintro e w1 ⟨⟨r', rfl, hr'⟩, hw1⟩; rw [hw1]; clear hw1 w1; rcases hr' with rfl | ⟨hr4, hr5, hn5, hn6⟩)
    · go_ret
      exact ⟨⟨-1, rfl, .inl rfl⟩, hb⟩
    · have HN := Lib.hid hn6
      clear hn6
      go_wp2
      go_ret
      exact ⟨⟨_, rfl, .inr ⟨hr4, hr5, hn3, hn5, HN.out⟩⟩, hb⟩


set_option maxHeartbeats 2000000 in
theorem FnExactSameForm_law (pa ta : Option Addr) (pl pc tl tc : Nat) (cs : List C3) (ts : List (List Int)) (pa' ta' : Option Addr) (pl' pc' tl' tc' : Nat) (cs' : List C3) (ts' : List (List Int)) (w : World) (hp : IsVs w pa pl pc cs) (ht : IsTs w ta tl tc ts) (hp' : IsVs w pa' pl' pc' cs') (ht' : IsTs w ta' tl' tc' ts') :
    Calls Try.prog 8 #[.agg #[.slice pa pl pc, .slice ta tl tc], .agg #[.slice pa' pl' pc', .slice ta' tl' tc']] w fun e w' => e = .returned (.bool true) ∧ Below w.heap.size w w' := by
  have hpl := hp.1
  have htl := ht.1
  have hpl' := hp'.1
  have htl' := ht'.1
  have HP := Lib.hid hp
  have HT := Lib.hid ht
  have HP' := Lib.hid hp'
  have HT' := Lib.hid ht'
  have HPL := Lib.hid hpl
  have HTL := Lib.hid htl
  have HPL' := Lib.hid hpl'
  have HTL' := Lib.hid htl'
  clear hp ht hpl htl hp' ht' hpl' htl'
  generalize hv : (sameF cs cs' ts ts') = v
  have HV := Lib.hid hv
  clear hv
  go_enter Try.func8, Try.ntmps8
  go_wp2_with fail
  have hB0 : Below w.heap.size w ((w.alloc (.cells #[.slice pa pl pc, .slice ta tl tc] 25)).alloc (.cells #[.slice pa' pl' pc', .slice ta' tl' tc'] 25)) := ((Below.refl _ _).alloc (Nat.le_refl _) _).alloc (by simp) _
  have a0 : ((w.alloc (.cells #[.slice pa pl pc, .slice ta tl tc] 25)).alloc (.cells #[.slice pa' pl' pc', .slice ta' tl' tc'] 25)).cell? ⟨w.heap.size, 0, none⟩ = some (.slice pa pl pc) := by go_simp
  have a1 : ((w.alloc (.cells #[.slice pa pl pc, .slice ta tl tc] 25)).alloc (.cells #[.slice pa' pl' pc', .slice ta' tl' tc'] 25)).cell? ⟨w.heap.size, 1, none⟩ = some (.slice ta tl tc) := by go_simp
  have b0 : ((w.alloc (.cells #[.slice pa pl pc, .slice ta tl tc] 25)).alloc (.cells #[.slice pa' pl' pc', .slice ta' tl' tc'] 25)).cell? ⟨w.heap.size + 1, 0, none⟩ = some (.slice pa' pl' pc') := by go_simp
  have b1 : ((w.alloc (.cells #[.slice pa pl pc, .slice ta tl tc] 25)).alloc (.cells #[.slice pa' pl' pc', .slice ta' tl' tc'] 25)).cell? ⟨w.heap.size + 1, 1, none⟩ = some (.slice ta' tl' tc') := by go_simp
  generalize (w.alloc (.cells #[.slice pa pl pc, .slice ta tl tc] 25)).alloc (.cells #[.slice pa' pl' pc', .slice ta' tl' tc'] 25) = W at *
  refine (laws_szMesh2 _ _ _ _ _ _ _ _ 1048576 _ (HP.out.below hB0) (HT.out.below hB0) (by decide) (by decide)).mono ?_
  rintro e w1 ⟨⟨r, rfl, hr⟩, hB1⟩
  replace a0 := cell_below hB1 a0
  replace a1 := cell_below hB1 a1
  replace b0 := cell_below hB1 b0
  replace b1 := cell_below hB1 b1
  replace hB1 : Below w.heap.size w w1 := hB0.trans (hB1.mono hB0.size)
  clear hB0
  rcases hr with rfl | ⟨hr0, hr1, s1, s2, s3⟩
  · have HB := Lib.hid hB1
    clear hB1
    go_wp2
    go_ret
    exact ⟨rfl, HB.out⟩
  · have hS : Small cs ts := ⟨by rw [HPL.out]; exact s1, by rw [HTL.out]; exact s2, by rw [HTL.out]; exact s3⟩
    have HS := Lib.hid hS
    have HB1 := Lib.hid hB1
    clear s1 s2 s3 hS hB1
    go_wp2_with fail
    refine (laws_szMesh2 _ _ _ _ _ _ _ _ r _ (HP'.out.below HB1.out) (HT'.out.below HB1.out) hr0 hr1).mono ?_
    rintro e w2 ⟨⟨r', rfl, hr'⟩, hB2⟩
    replace a0 := cell_below hB2 a0
    replace a1 := cell_below hB2 a1
    replace b0 := cell_below hB2 b0
    replace b1 := cell_below hB2 b1
    have HB2 := Lib.hid (HB1.out.trans (hB2.mono HB1.out.size))
    clear hB2
    rcases hr' with rfl | ⟨hr0', hr1', s1, s2, s3⟩
    · go_wp2
      go_ret
      exact ⟨rfl, HB2.out⟩
    · have hS : Small cs' ts' := ⟨by rw [HPL'.out]; exact s1, by rw [HTL'.out]; exact s2, by rw [HTL'.out]; exact s3⟩
      have HS' := Lib.hid hS
      clear s1 s2 s3 hS
      go_wp2_with fail
      refine Reg.wp_region_mix (C := fun w' => Below w2.heap.size w2 w') (G := fun w1 w2 => Below w1.heap.size w1 w2) (R := fun i v' w' => match i with | 0 => v' = .agg #[.slice pa pl pc, .slice ta tl tc] | 1 => ∃ d d', v' = .agg #[.slice (some ⟨d, 0, none⟩) pl pl, .slice (some ⟨d', 0, none⟩) tl tl] ∧ IsVs w' (some ⟨d, 0, none⟩) pl pl cs ∧ IsTs w' (some ⟨d', 0, none⟩) tl tl ts | 2 => v' = .agg #[.slice pa' pl' pc', .slice ta' tl' tc'] | 3 => ∃ d d', v' = .agg #[.slice (some ⟨d, 0, none⟩) pl' pl', .slice (some ⟨d', 0, none⟩) tl' tl'] ∧ IsVs w' (some ⟨d, 0, none⟩) pl' pl' cs' ∧ IsTs w' (some ⟨d', 0, none⟩) tl' tl' ts' | 4 => v' = .bool v | 5 => v' = .bool v | _ => True) (T := fun _ _ _ => True) [false, false, false, false, false, false, true, false, false, false, false, false, false, false, false, false, false, false, false, false, true, true, true, true, true, false, false, false, false, false, false, false, false, false, false, false, false, false, false, false, false, false, false, false, false]
        (by kernel_rfl) (by kernel_rfl) (by kernel_rfl) ?_ (below_drewN (Below.refl _ _) 1) ?_ ?_
      · intro j v' w1 w2 _ hG hR
        match j with
        | 0 => exact hR
        | 1 => obtain ⟨d, d', e, h1, h2⟩ := hR; exact ⟨d, d', e, h1.below hG, h2.below hG⟩
        | 2 => exact hR
        | 3 => obtain ⟨d, d', e, h1, h2⟩ := hR; exact ⟨d, d', e, h1.below hG, h2.below hG⟩
        | 4 => exact hR
        | 5 => exact hR
        | _ + 6 => trivial
      · refine ⟨Reg.Obl.mk ?_, Reg.Obl.mk ?_, Reg.Obl.mk ?_, Reg.Obl.mk ?_, Reg.Obl.mk ?_, Reg.Obl.mk ?_, trivial⟩
        · rintro a w3 hB hx hd K hK
          have t2 : a.tmps[2]?.getD undef = .pointer (some ⟨w.heap.size, 0, none⟩) := Reg.slot_val (hx 2 (by kernel_rfl))
          have y0 := cell_below hB a0
          have y1 := cell_below hB a1
          go_simp
          exact hK _ _ (fun _ => rfl) (fun h => by cases h) hB (Below.refl _ _)
        · rintro a w3 hB hx hd K hK
          have t20 : a.tmps[20]?.getD undef = .agg #[.slice pa pl pc, .slice ta tl tc] := Reg.slot_val (hd 0 (by kernel_rfl) 20 rfl)
          go_simp
          have hW1 : Below w.heap.size w w3 := HB2.out.trans (hB.mono HB2.out.size)
          refine (laws_toMesh _ _ _ _ _ _ _ _ _ (HP.out.below hW1) (HT.out.below hW1) HS.out).mono ?_
          rintro en w4 ⟨⟨d, d', rfl, hd1, hd2, hV, hT⟩, hB4⟩
          exact hK _ _ (fun _ => ⟨d, d', rfl, hV, hT⟩) (fun h => by cases h) (hB.trans (hB4.mono hB.size)) hB4
        · rintro a w3 hB hx hd K hK
          have t3 : a.tmps[3]?.getD undef = .pointer (some ⟨w.heap.size + 1, 0, none⟩) := Reg.slot_val (hx 3 (by kernel_rfl))
          have y0 := cell_below hB b0
          have y1 := cell_below hB b1
          go_simp
          exact hK _ _ (fun _ => rfl) (fun h => by cases h) hB (Below.refl _ _)
        · rintro a w3 hB hx hd K hK
          have t22 : a.tmps[22]?.getD undef = .agg #[.slice pa' pl' pc', .slice ta' tl' tc'] := Reg.slot_val (hd 2 (by kernel_rfl) 22 rfl)
          go_simp
          have hW1 : Below w.heap.size w w3 := HB2.out.trans (hB.mono HB2.out.size)
          refine (laws_toMesh _ _ _ _ _ _ _ _ _ (HP'.out.below hW1) (HT'.out.below hW1) HS'.out).mono ?_
          rintro en w4 ⟨⟨d, d', rfl, hd1, hd2, hV, hT⟩, hB4⟩
          exact hK _ _ (fun _ => ⟨d, d', rfl, hV, hT⟩) (fun h => by cases h) (hB.trans (hB4.mono hB.size)) hB4
        · rintro a w3 hB hx hd K hK
          obtain ⟨e, e', g1, hV1, hT1⟩ := hd 1 (by kernel_rfl) 21 rfl
          have t21 := Reg.slot_val g1
          clear g1
          obtain ⟨e2, e2', g2, hV2, hT2⟩ := hd 3 (by kernel_rfl) 23 rfl
          have t23 := Reg.slot_val g2
          clear g2
          have hJ := spec_SameForm _ _ _ _ _ _ _ _ _ _ _ _ cs cs' ts ts' w3 hV1 hT1 hV2 hT2
          rw [HV.out] at hJ
          have HJ := Lib.hid hJ
          clear hJ hV1 hT1 hV2 hT2
          go_simp
          refine HJ.out.mono ?_
          rintro en w4 ⟨rfl, hB4⟩
          exact hK _ _ (fun _ => rfl) (fun h => by cases h) (hB.trans (hB4.mono hB.size)) hB4
        · rintro a w3 hB hx hd K hK
          have t24 : a.tmps[24]?.getD undef = .bool v := Reg.slot_val (hd 4 (by kernel_rfl) 24 rfl)
          go_simp
          exact hK _ _ (fun _ => rfl) (fun h => by cases h) hB (Below.refl _ _)
      · rintro f w3 hB3 hd hT
        have g6 : f 6 = .bool v := hd 5 6 rfl
        simp only [Reg.mixL, g6]
        replace a0 := cell_below hB3 a0
        replace a1 := cell_below hB3 a1
        replace b0 := cell_below hB3 b0
        replace b1 := cell_below hB3 b1
        have HB3 := Lib.hid (HB2.out.trans (hB3.mono HB2.out.size))
        clear hB3 hd hT
        go_wp2_with fail
        refine (laws_toMesh _ _ _ _ _ _ _ _ _ (HP.out.below HB3.out) (HT.out.below HB3.out) HS.out).mono ?_
        rintro e w4 ⟨⟨c, c', rfl, hc, hc', hV4, hT4⟩, hB4⟩
        replace a0 := cell_below hB4 a0
        replace a1 := cell_below hB4 a1
        replace b0 := cell_below hB4 b0
        replace b1 := cell_below hB4 b1
        have HB4 := Lib.hid (HB3.out.trans (hB4.mono HB3.out.size))
        have HV4 := Lib.hid hV4
        have HT4 := Lib.hid hT4
        clear hB4 hV4 hT4 hc hc'
        have lb0 := fun ob => cell_alloc (o := ob) b0
        have lb1 := fun ob => cell_alloc (o := ob) b1
        go_wp2_with fail
        clear lb0 lb1
        have hX : Below w4.heap.size w4 (w4.alloc (.cells #[.slice (some ⟨c, 0, none⟩) pl pl, .slice (some ⟨c', 0, none⟩) tl tl] 29)) := (Below.refl _ _).alloc (Nat.le_refl _) _
        have x0 : (w4.alloc (.cells #[.slice (some ⟨c, 0, none⟩) pl pl, .slice (some ⟨c', 0, none⟩) tl tl] 29)).cell? ⟨w4.heap.size, 0, none⟩ = some (.slice (some ⟨c, 0, none⟩) pl pl) := by go_simp
        have x1 : (w4.alloc (.cells #[.slice (some ⟨c, 0, none⟩) pl pl, .slice (some ⟨c', 0, none⟩) tl tl] 29)).cell? ⟨w4.heap.size, 1, none⟩ = some (.slice (some ⟨c', 0, none⟩) tl tl) := by go_simp
        replace a0 := cell_below hX a0
        replace a1 := cell_below hX a1
        replace b0 := cell_below hX b0
        replace b1 := cell_below hX b1
        have HV4 := Lib.hid (HV4.out.below hX)
        have HT4 := Lib.hid (HT4.out.below hX)
        have HB4 := Lib.hid (HB4.out.trans (hX.mono HB4.out.size))
        generalize (w4.alloc (.cells #[.slice (some ⟨c, 0, none⟩) pl pl, .slice (some ⟨c', 0, none⟩) tl tl] 29)) = W4 at *
        clear hX
        generalize w4.heap.size = X at *
        refine (laws_toMesh _ _ _ _ _ _ _ _ _ (HP'.out.below HB4.out) (HT'.out.below HB4.out) HS'.out).mono ?_
        rintro e w5 ⟨⟨g, g', rfl, hg, hg', hV5, hT5⟩, hB5⟩
        replace a0 := cell_below hB5 a0
        replace a1 := cell_below hB5 a1
        replace b0 := cell_below hB5 b0
        replace b1 := cell_below hB5 b1
        replace x0 := cell_below hB5 x0
        replace x1 := cell_below hB5 x1
        have HV4 := Lib.hid (HV4.out.below hB5)
        have HT4 := Lib.hid (HT4.out.below hB5)
        have HB5 := Lib.hid (HB4.out.trans (hB5.mono HB4.out.size))
        have HV5 := Lib.hid hV5
        have HT5 := Lib.hid hT5
        clear hB5 hV5 hT5 hg hg'
        have lx0 := fun ob => cell_alloc (o := ob) x0
        have lx1 := fun ob => cell_alloc (o := ob) x1
        go_wp2_with fail
        clear lx0 lx1
        have hY : Below w5.heap.size w5 (w5.alloc (.cells #[.slice (some ⟨g, 0, none⟩) pl' pl', .slice (some ⟨g', 0, none⟩) tl' tl'] 29)) := (Below.refl _ _).alloc (Nat.le_refl _) _
        have y0 : (w5.alloc (.cells #[.slice (some ⟨g, 0, none⟩) pl' pl', .slice (some ⟨g', 0, none⟩) tl' tl'] 29)).cell? ⟨w5.heap.size, 0, none⟩ = some (.slice (some ⟨g, 0, none⟩) pl' pl') := by go_simp
        have y1 : (w5.alloc (.cells #[.slice (some ⟨g, 0, none⟩) pl' pl', .slice (some ⟨g', 0, none⟩) tl' tl'] 29)).cell? ⟨w5.heap.size, 1, none⟩ = some (.slice (some ⟨g', 0, none⟩) tl' tl') := by go_simp
        replace a0 := cell_below hY a0
        replace a1 := cell_below hY a1
        replace b0 := cell_below hY b0
        replace b1 := cell_below hY b1
        replace x0 := cell_below hY x0
        replace x1 := cell_below hY x1
        have HV4 := Lib.hid (HV4.out.below hY)
        have HT4 := Lib.hid (HT4.out.below hY)
        have HV5 := Lib.hid (HV5.out.below hY)
        have HT5 := Lib.hid (HT5.out.below hY)
        have HB5 := Lib.hid (HB5.out.trans (hY.mono HB5.out.size))
        generalize (w5.alloc (.cells #[.slice (some ⟨g, 0, none⟩) pl' pl', .slice (some ⟨g', 0, none⟩) tl' tl'] 29)) = W5 at *
        clear hY
        generalize w5.heap.size = Y at *
        have hJ := impl_SameForm _ _ _ _ _ _ _ _ _ _ _ _ cs cs' ts ts' W5 HV4.out HT4.out HV5.out HT5.out
        rw [HV.out] at hJ
        have HJ := Lib.hid hJ
        clear hJ
        refine HJ.out.mono ?_
        rintro e w6 ⟨rfl, hB6⟩
        replace a0 := cell_below hB6 a0
        replace a1 := cell_below hB6 a1
        replace b0 := cell_below hB6 b0
        replace b1 := cell_below hB6 b1
        replace x0 := cell_below hB6 x0
        replace x1 := cell_below hB6 x1
        replace y0 := cell_below hB6 y0
        replace y1 := cell_below hB6 y1
        have HV4 := Lib.hid (HV4.out.below hB6)
        have HT4 := Lib.hid (HT4.out.below hB6)
        have HV5 := Lib.hid (HV5.out.below hB6)
        have HT5 := Lib.hid (HT5.out.below hB6)
        have HB6 := Lib.hid (HB5.out.trans (hB6.mono HB5.out.size))
        clear hB6 HJ
        go_wp2_with fail
        refine Reg.wp_region_mix (C := fun w' => Below w6.heap.size w6 w') (G := fun w1 w2 => Below w1.heap.size w1 w2) (R := fun i v w' => match i with | 0 => v = .agg #[.slice (some ⟨c, 0, none⟩) pl pl, .slice (some ⟨c', 0, none⟩) tl tl] | 1 => v = .agg #[.slice pa pl pc, .slice ta tl tc] | 2 => ∃ d d', v = .agg #[.slice (some ⟨d, 0, none⟩) pl pl, .slice (some ⟨d', 0, none⟩) tl tl] ∧ IsVs w' (some ⟨d, 0, none⟩) pl pl cs ∧ IsTs w' (some ⟨d', 0, none⟩) tl tl ts | 3 => v = .bool true | 4 => v = .bool false | _ => True) (T := fun _ _ _ => True) [false, false, false, false, false, false, false, false, false, false, false, false, false, false, false, false, false, false, false, false, false, false, false, false, false, false, false, false, false, false, false, false, false, false, false, true, true, true, true, true, false, false, false, false, false]
          (by kernel_rfl) (by kernel_rfl) (by kernel_rfl) ?_ (below_drewN (Below.refl _ _) 1) ?_ ?_
        · intro j v w1 w2 _ hG hR
          match j with
          | 0 => exact hR
          | 1 => exact hR
          | 2 => obtain ⟨d, d', e, h1, h2⟩ := hR; exact ⟨d, d', e, h1.below hG, h2.below hG⟩
          | 3 => exact hR
          | 4 => exact hR
          | _ + 5 => trivial
        · refine ⟨Reg.Obl.mk ?_, Reg.Obl.mk ?_, Reg.Obl.mk ?_, Reg.Obl.mk ?_, Reg.Obl.mk ?_, trivial⟩
          · rintro a w1 hB hx hd K hK
            have t7 : a.tmps[7]?.getD undef = .pointer (some ⟨X, 0, none⟩) := Reg.slot_val (hx 7 (by kernel_rfl))
            have y0 := cell_below hB x0
            have y1 := cell_below hB x1
            go_simp
            exact hK _ _ (fun _ => rfl) (fun h => by cases h) hB (Below.refl _ _)
          · rintro a w1 hB hx hd K hK
            have t2 : a.tmps[2]?.getD undef = .pointer (some ⟨w.heap.size, 0, none⟩) := Reg.slot_val (hx 2 (by kernel_rfl))
            have y0 := cell_below hB a0
            have y1 := cell_below hB a1
            go_simp
            exact hK _ _ (fun _ => rfl) (fun h => by cases h) hB (Below.refl _ _)
          · rintro a w1 hB hx hd K hK
            have t36 : a.tmps[36]?.getD undef = .agg #[.slice pa pl pc, .slice ta tl tc] := Reg.slot_val (hd 1 (by kernel_rfl) 36 rfl)
            go_simp
            have hW1 : Below w.heap.size w w1 := HB6.out.trans (hB.mono HB6.out.size)
            refine (laws_toMesh _ _ _ _ _ _ _ _ _ (HP.out.below hW1) (HT.out.below hW1) HS.out).mono ?_
            rintro en w2 ⟨⟨d, d', rfl, hd1, hd2, hV, hT⟩, hB2⟩
            exact hK _ _ (fun _ => ⟨d, d', rfl, hV, hT⟩) (fun h => by cases h) (hB.trans (hB2.mono hB.size)) hB2
          · rintro a w1 hB hx hd K hK
            have t35 : a.tmps[35]?.getD undef = .agg #[.slice (some ⟨c, 0, none⟩) pl pl, .slice (some ⟨c', 0, none⟩) tl tl] := Reg.slot_val (hd 0 (by kernel_rfl) 35 rfl)
            obtain ⟨e, e', g2, hV, hT⟩ := hd 2 (by kernel_rfl) 37 rfl
            have t37 := Reg.slot_val g2
            clear g2
            have HVe := Lib.hid hV
            have HTe := Lib.hid hT
            clear hV hT
            go_simp
            refine (laws_eqMesh _ _ _ _ _ _ _ _ _ _ cs ts _ (HV4.out.below hB) (HT4.out.below hB) HVe.out HTe.out).mono ?_
            rintro en w2 ⟨rfl, hB2⟩
            exact hK _ _ (fun _ => rfl) (fun h => by cases h) (hB.trans (hB2.mono hB.size)) hB2
          · rintro a w1 hB hx hd K hK
            have t38 : a.tmps[38]?.getD undef = .bool true := Reg.slot_val (hd 3 (by kernel_rfl) 38 rfl)
            go_simp
            exact hK _ _ (fun _ => rfl) (fun h => by cases h) hB (Below.refl _ _)
        · rintro f w7 hB6 hd hT
          have g39 : f 39 = .bool false := hd 4 39 rfl
          simp only [Reg.mixL, g39]
          replace b0 := cell_below hB6 b0
          replace b1 := cell_below hB6 b1
          replace y0 := cell_below hB6 y0
          replace y1 := cell_below hB6 y1
          have HV5 := Lib.hid (HV5.out.below hB6)
          have HT5 := Lib.hid (HT5.out.below hB6)
          have HB7 := Lib.hid (HB6.out.trans (hB6.mono HB6.out.size))
          clear hB6 hd hT
          go_wp2_with fail
          refine Reg.wp_region_mix (C := fun w' => Below w7.heap.size w7 w') (G := fun w1 w2 => Below w1.heap.size w1 w2) (R := fun i v w' => match i with | 0 => v = .agg #[.slice (some ⟨g, 0, none⟩) pl' pl', .slice (some ⟨g', 0, none⟩) tl' tl'] | 1 => v = .agg #[.slice pa' pl' pc', .slice ta' tl' tc'] | 2 => ∃ d d', v = .agg #[.slice (some ⟨d, 0, none⟩) pl' pl', .slice (some ⟨d', 0, none⟩) tl' tl'] ∧ IsVs w' (some ⟨d, 0, none⟩) pl' pl' cs' ∧ IsTs w' (some ⟨d', 0, none⟩) tl' tl' ts' | 3 => v = .bool true | 4 => v = .bool false | _ => True) (T := fun _ _ _ => True) [false, false, false, false, false, false, false, false, false, false, false, false, false, false, false, false, false, false, false, false, false, false, false, false, false, false, false, false, false, false, false, false, false, false, false, false, false, false, false, false, true, true, true, true, true]
            (by kernel_rfl) (by kernel_rfl) (by kernel_rfl) ?_ (below_drewN (Below.refl _ _) 1) ?_ ?_
          · intro j v w1 w2 _ hG hR
            match j with
            | 0 => exact hR
            | 1 => exact hR
            | 2 => obtain ⟨d, d', e, h1, h2⟩ := hR; exact ⟨d, d', e, h1.below hG, h2.below hG⟩
            | 3 => exact hR
            | 4 => exact hR
            | _ + 5 => trivial
          · refine ⟨Reg.Obl.mk ?_, Reg.Obl.mk ?_, Reg.Obl.mk ?_, Reg.Obl.mk ?_, Reg.Obl.mk ?_, trivial⟩
            · rintro a w1 hB hx hd K hK
              have t8 : a.tmps[8]?.getD undef = .pointer (some ⟨Y, 0, none⟩) := Reg.slot_val (hx 8 (by kernel_rfl))
              have y0 := cell_below hB y0
              have y1 := cell_below hB y1
              go_simp
              exact hK _ _ (fun _ => rfl) (fun h => by cases h) hB (Below.refl _ _)
            · rintro a w1 hB hx hd K hK
              have t3 : a.tmps[3]?.getD undef = .pointer (some ⟨w.heap.size + 1, 0, none⟩) := Reg.slot_val (hx 3 (by kernel_rfl))
              have y0 := cell_below hB b0
              have y1 := cell_below hB b1
              go_simp
              exact hK _ _ (fun _ => rfl) (fun h => by cases h) hB (Below.refl _ _)
            · rintro a w1 hB hx hd K hK
              have t41 : a.tmps[41]?.getD undef = .agg #[.slice pa' pl' pc', .slice ta' tl' tc'] := Reg.slot_val (hd 1 (by kernel_rfl) 41 rfl)
              go_simp
              have hW1 : Below w.heap.size w w1 := HB7.out.trans (hB.mono HB7.out.size)
              refine (laws_toMesh _ _ _ _ _ _ _ _ _ (HP'.out.below hW1) (HT'.out.below hW1) HS'.out).mono ?_
              rintro en w2 ⟨⟨d, d', rfl, hd1, hd2, hV, hT⟩, hB2⟩
              exact hK _ _ (fun _ => ⟨d, d', rfl, hV, hT⟩) (fun h => by cases h) (hB.trans (hB2.mono hB.size)) hB2
            · rintro a w1 hB hx hd K hK
              have t40 : a.tmps[40]?.getD undef = .agg #[.slice (some ⟨g, 0, none⟩) pl' pl', .slice (some ⟨g', 0, none⟩) tl' tl'] := Reg.slot_val (hd 0 (by kernel_rfl) 40 rfl)
              obtain ⟨e, e', g2, hV, hT⟩ := hd 2 (by kernel_rfl) 42 rfl
              have t42 := Reg.slot_val g2
              clear g2
              have HVe := Lib.hid hV
              have HTe := Lib.hid hT
              clear hV hT
              go_simp
              refine (laws_eqMesh _ _ _ _ _ _ _ _ _ _ cs' ts' _ (HV5.out.below hB) (HT5.out.below hB) HVe.out HTe.out).mono ?_
              rintro en w2 ⟨rfl, hB2⟩
              exact hK _ _ (fun _ => rfl) (fun h => by cases h) (hB.trans (hB2.mono hB.size)) hB2
            · rintro a w1 hB hx hd K hK
              have t43 : a.tmps[43]?.getD undef = .bool true := Reg.slot_val (hd 3 (by kernel_rfl) 43 rfl)
              go_simp
              exact hK _ _ (fun _ => rfl) (fun h => by cases h) hB (Below.refl _ _)
          · rintro f w8 hB6 hd hT
            have g44 : f 44 = .bool false := hd 4 44 rfl
            simp only [Reg.mixL, g44]
            have HB8 := Lib.hid (HB7.out.trans (hB6.mono HB7.out.size))
            clear hB6
            go_wp2
            go_ret
            exact ⟨rfl, HB8.out⟩
end Go.Proofs.Ytmbekamnogbgaaa

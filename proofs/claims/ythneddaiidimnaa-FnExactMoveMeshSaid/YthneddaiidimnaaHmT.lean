
/-
The law of MoveMesh returns true: its walk. Conditions: none beyond that the mesh lies in memory.
-/
import Derived.Test.YthneddaiidimnaaHmQ
import Derived.Test.YthneddaiidimnaaHmR
import Derived.Test.YthneddaiidimnaaHmS
import Derived.Test.YthneddaiidimnaaMshO
namespace Go.Proofs.Ythneddaiidimnaa
open Go Fk Go.RowKit
set_option linter.unusedVariables false
set_option maxRecDepth 16000
theorem rV_lenm (f : C3 → C3) (cs : List C3) (ts : List (List Int)) : (rV f cs ts).length ≤ 64 ∧ (rT cs ts).length ≤ 128 := by
  cases hv : validB cs ts
  · rw [rV_no hv, rT_no hv]; simp
  · rw [rV_yes hv, rT_yes hv, List.length_map]; exact valid_pl hv
theorem rT_3 (cs : List C3) (ts : List (List Int)) : ∀ j, j < (rT cs ts).length → ((rT cs ts).getD j []).length = 3 := by
  cases hv : validB cs ts
  · rw [rT_no hv]; intro j hj; simp at hj
  · rw [rT_yes hv]; exact rows3h hv
set_option maxHeartbeats 4000000 in
theorem moveMesh_law (pa ta : Option Addr) (pl pc tl tc : Nat) (cs : List C3) (ts : List (List Int)) (bx by' bz : Nat) (d : C3) (w : World) (hp : IsVs w pa pl pc cs) (ht : IsTs w ta tl tc ts) (hb : FV .f32 bx d.1 ∧ FV .f32 by' d.2.1 ∧ FV .f32 bz d.2.2) :
    Calls Try.prog 12 #[.agg #[.slice pa pl pc, .slice ta tl tc], vv bx by' bz] w fun e w' => e = .returned (.bool true) ∧ Below w.heap.size w w' := by
  have uvl := Try.underlying43
  have u := Try.underlying24
  have hpl := hp.1
  have htl := ht.1
  have HP := Lib.hid hp
  have HT := Lib.hid ht
  have HPL := Lib.hid hpl
  have HTL := Lib.hid htl
  clear hp ht hpl htl
  have HSP := Lib.hid (fun (pa ta : Option Addr) (pc tc : Nat) (w : World) (hp : IsVs w pa pl pc cs) (ht : IsTs w ta tl tc ts) => spec_MoveMesh pa ta pl pc tl tc cs ts bx by' bz d w hp ht hb)
  have HIM := Lib.hid (fun (pa ta : Option Addr) (pc tc : Nat) (w : World) (hp : IsVs w pa pl pc cs) (ht : IsTs w ta tl tc ts) => impl_MoveMesh pa ta pl pc tl tc cs ts bx by' bz d w hp ht hb)
  obtain ⟨len1, len2⟩ := rV_lenm (fun c => addC c d) cs ts
  have HR3 := Lib.hid (rT_3 cs ts)
  generalize rV (fun c => addC c d) cs ts = rcs at *
  generalize rT cs ts = rts at *
  generalize validB cs ts = ok at *
  have hvb : (ok == ok) = true := by cases ok <;> rfl
  have hvb' : (ok != ok) = false := by cases ok <;> rfl
  clear hb
  go_enter Try.func12, Try.ntmps12
  go_wp2_with fail
  have hB0 : Below w.heap.size w ((w.alloc (.cells #[.slice pa pl pc, .slice ta tl tc] 40)).alloc (.cells #[.float .f32 bx, .float .f32 by', .float .f32 bz] 43)) := ((Below.refl _ _).alloc (Nat.le_refl _) _).alloc (by simp) _
  have a0 : ((w.alloc (.cells #[.slice pa pl pc, .slice ta tl tc] 40)).alloc (.cells #[.float .f32 bx, .float .f32 by', .float .f32 bz] 43)).cell? ⟨w.heap.size, 0, none⟩ = some (.slice pa pl pc) := by go_simp
  have a1 : ((w.alloc (.cells #[.slice pa pl pc, .slice ta tl tc] 40)).alloc (.cells #[.float .f32 bx, .float .f32 by', .float .f32 bz] 43)).cell? ⟨w.heap.size, 1, none⟩ = some (.slice ta tl tc) := by go_simp
  have vb0 : ((w.alloc (.cells #[.slice pa pl pc, .slice ta tl tc] 40)).alloc (.cells #[.float .f32 bx, .float .f32 by', .float .f32 bz] 43)).cell? ⟨w.heap.size + 1, 0, none⟩ = some (.float .f32 bx) := by go_simp
  have vb1 : ((w.alloc (.cells #[.slice pa pl pc, .slice ta tl tc] 40)).alloc (.cells #[.float .f32 bx, .float .f32 by', .float .f32 bz] 43)).cell? ⟨w.heap.size + 1, 1, none⟩ = some (.float .f32 by') := by go_simp
  have vb2 : ((w.alloc (.cells #[.slice pa pl pc, .slice ta tl tc] 40)).alloc (.cells #[.float .f32 bx, .float .f32 by', .float .f32 bz] 43)).cell? ⟨w.heap.size + 1, 2, none⟩ = some (.float .f32 bz) := by go_simp
  have HVB : Hid (VB ((w.alloc (.cells #[.slice pa pl pc, .slice ta tl tc] 40)).alloc (.cells #[.float .f32 bx, .float .f32 by', .float .f32 bz] 43)) (w.heap.size + 1) bx by' bz) := Lib.hid ⟨vb0, vb1, vb2⟩
  clear vb0 vb1 vb2
  generalize ((w.alloc (.cells #[.slice pa pl pc, .slice ta tl tc] 40)).alloc (.cells #[.float .f32 bx, .float .f32 by', .float .f32 bz] 43)) = W at *
  refine (laws_szMesh _ _ _ _ _ _ _ _ 1048576 _ (HP.out.below hB0) (HT.out.below hB0) (by decide) (by decide)).mono ?_
  rintro e w1 ⟨⟨r, rfl, hr⟩, hB1⟩
  replace a0 := cell_below hB1 a0
  replace a1 := cell_below hB1 a1
  have HVB := Lib.hid (HVB.out.below hB1)
  replace hB1 : Below w.heap.size w w1 := hB0.trans (hB1.mono hB0.size)
  clear hB0
  rcases hr with rfl | ⟨hr0, s1, s2, s3⟩
  · have HB := Lib.hid hB1
    clear hB1
    go_wp2
    go_ret
    exact ⟨rfl, HB.out⟩
  · have hS : Small cs ts := ⟨by rw [HPL.out]; exact s1, by rw [HTL.out]; exact s2, by rw [HTL.out]; exact s3⟩
    have HS := Lib.hid hS
    have HBR := Lib.hid hB1
    clear s1 s2 s3 hS hB1
    go_wp2_with fail
    refine Reg6.wp_region_mix (s := 9) (C := fun w' => Below w1.heap.size w1 w') (D := fun a w' => ∃ b sa sc sa' sc', a.eval (.tmp 6) = .pointer (some ⟨b, 0, none⟩) ∧ w1.heap.size ≤ b ∧ Below w1.heap.size w1 w' ∧ w'.cell? ⟨b, 0, none⟩ = some (.slice sa rcs.length sc) ∧ w'.cell? ⟨b, 1, none⟩ = some (.slice sa' rts.length sc') ∧ TupS w1.heap.size rcs rts sa sc sa' sc' w') (G := fun w1 w2 => Below w1.heap.size w1 w2) (Rv := fun i v => match i with | 0 => v = .agg #[.slice pa pl pc, .slice ta tl tc] | 2 => v = vv bx by' bz | 3 => v = vv bx by' bz | 4 => ∃ sa sc sa' sc', v = .tuple #[.agg #[.slice sa rcs.length sc, .slice sa' rts.length sc'], .bool ok] | 5 => ∃ sa sc sa' sc', v = .tuple #[.agg #[.slice sa rcs.length sc, .slice sa' rts.length sc'], .bool ok] | 7 => v = .bool ok | 10 => v = .bool ok | _ => True) (Rw := fun i v w' => match i with | 1 => ∃ d d', v = .agg #[.slice (some ⟨d, 0, none⟩) pl pl, .slice (some ⟨d', 0, none⟩) tl tl] ∧ IsVs w' (some ⟨d, 0, none⟩) pl pl cs ∧ IsTs w' (some ⟨d', 0, none⟩) tl tl ts | 4 => ∃ sa sc sa' sc', v = .tuple #[.agg #[.slice sa rcs.length sc, .slice sa' rts.length sc'], .bool ok] ∧ TupS w1.heap.size rcs rts sa sc sa' sc' w' | 5 => ∃ sa sc sa' sc', v = .tuple #[.agg #[.slice sa rcs.length sc, .slice sa' rts.length sc'], .bool ok] ∧ TupS w1.heap.size rcs rts sa sc sa' sc' w' | 6 => ∃ sa sc sa' sc', v = .agg #[.slice sa rcs.length sc, .slice sa' rts.length sc'] ∧ TupS w1.heap.size rcs rts sa sc sa' sc' w' | 8 => ∃ b, v = .pointer (some ⟨b, 0, none⟩) ∧ w1.heap.size ≤ b ∧ NilBox w' b | _ => True) [false, false, false, false, false, false, true, true, false, false, false, false, false, false, false, false, false, false, false, false, false, true, true, true, true, true, true, true, true, false, false, false, false, false, false, false, false, false, false, false, false, false, false, false, false, false, false, false, false, false, false, false, false, false, false, false, false, false, false, false, false, false, false, false, false, false, false, false, false, false, false, false, false, false, false, false, false, false, false, false, false, false, false, false, false, false, false, false, false, false, false, false, false, false, false, false, false, false, false, false, false, false, false, false]
      (by kernel_rfl) (by kernel_rfl) (by kernel_rfl) ?_ (below_drewN (Below.refl _ _) 1) ?_ ?_
    · intro j v w1 w2 hC hG hR
      match j with
      | 0 => trivial
      | 1 => obtain ⟨d, d', e, h1, h2⟩ := hR; exact ⟨d, d', e, h1.below hG, h2.below hG⟩
      | 2 => trivial
      | 3 => trivial
      | 4 => obtain ⟨sa, sc, sa', sc', e, h⟩ := hR; exact ⟨sa, sc, sa', sc', e, h.below hG⟩
      | 5 => obtain ⟨sa, sc, sa', sc', e, h⟩ := hR; exact ⟨sa, sc, sa', sc', e, h.below hG⟩
      | 6 => obtain ⟨sa, sc, sa', sc', e, h⟩ := hR; exact ⟨sa, sc, sa', sc', e, h.below hG⟩
      | 7 => trivial
      | 8 => obtain ⟨b, e, h1, h2⟩ := hR; exact ⟨b, e, h1, h2.below hG⟩
      | 9 => trivial
      | 10 => trivial
      | _ + 11 => trivial
    · refine ⟨?_, ?_, ?_, ?_, ?_, ?_, ?_, ?_, ?_, ?_, ?_, trivial⟩
      · refine Reg6.Obl.early rfl (by kernel_rfl) ?_
        rintro a w1 hC hx hd K hK
        have HC := Lib.hid hC
        clear hC
        have t2 : a.tmps[2]?.getD undef = .pointer (some ⟨w.heap.size, 0, none⟩) := Reg.slot_val (hx 2 (by kernel_rfl))
        have y0 := cell_below HC.out a0
        have y1 := cell_below HC.out a1
        go_simp
        exact hK _ _ rfl trivial (HC.out) (Below.refl _ _)
      · refine Reg6.Obl.early rfl (by kernel_rfl) ?_
        rintro a w1 hC hx hd K hK
        have HC := Lib.hid hC
        clear hC
        have t22 : a.tmps[22]?.getD undef = .agg #[.slice pa pl pc, .slice ta tl tc] := Reg.slot_val (hd 0 22 (by kernel_rfl) rfl).1
        go_simp
        refine (laws_toMesh _ _ _ _ _ _ _ _ _ (HP.out.below (HBR.out.trans (HC.out.mono HBR.out.size))) (HT.out.below (HBR.out.trans (HC.out.mono HBR.out.size))) HS.out).mono ?_
        rintro en w2 ⟨⟨d, d', rfl, hd1, hd2, hV, hT⟩, hB2⟩
        exact hK _ _ trivial ⟨d, d', rfl, hV, hT⟩ (HC.out.trans (hB2.mono HC.out.size)) hB2
      · refine Reg6.Obl.early rfl (by kernel_rfl) ?_
        rintro a w1 hC hx hd K hK
        have HC := Lib.hid hC
        clear hC
        have t3 : a.tmps[3]?.getD undef = .pointer (some ⟨w.heap.size + 1, 0, none⟩) := Reg.slot_val (hx 3 (by kernel_rfl))
        obtain ⟨y0, y1, y2⟩ := HVB.out.below HC.out
        go_simp
        exact hK _ _ rfl trivial (HC.out) (Below.refl _ _)
      · refine Reg6.Obl.early rfl (by kernel_rfl) ?_
        rintro a w1 hC hx hd K hK
        have HC := Lib.hid hC
        clear hC
        have t24 : a.tmps[24]?.getD undef = vv bx by' bz := Reg.slot_val (hd 2 24 (by kernel_rfl) rfl).1
        go_simp
        refine (laws_toVector bx by' bz _).mono ?_
        rintro en w2 ⟨rfl, hB2⟩
        exact hK _ _ rfl trivial (HC.out.trans (hB2.mono HC.out.size)) hB2
      · refine Reg6.Obl.early rfl (by kernel_rfl) ?_
        rintro a w1 hC hx hd K hK
        have HC := Lib.hid hC
        clear hC
        have t25 : a.tmps[25]?.getD undef = vv bx by' bz := Reg.slot_val (hd 3 25 (by kernel_rfl) rfl).1
        obtain ⟨d, d', g1, hV, hT⟩ := (hd 1 23 (by kernel_rfl) rfl).2
        have tm := Reg.slot_val g1
        clear g1
        have HVe := Lib.hid hV
        have HTe := Lib.hid hT
        clear hV hT
        go_simp
        refine (HSP.out _ _ _ _ _ HVe.out HTe.out).mono ?_
        intro en w2 hm
        obtain ⟨⟨sa, sc, sa', sc', rfl, hT⟩, hB2⟩ := hm.tup
        exact hK _ _ ⟨sa, sc, sa', sc', rfl⟩ ⟨sa, sc, sa', sc', rfl, hT.low HC.out.size⟩ (HC.out.trans (hB2.mono HC.out.size)) hB2
      · refine Reg6.Obl.early rfl (by kernel_rfl) ?_
        rintro a w1 hC hx hd K hK
        have HC := Lib.hid hC
        clear hC
        obtain ⟨sa, sc, sa', sc', g1, hT⟩ := (hd 4 26 (by kernel_rfl) rfl).2
        have tt := Reg.slot_val g1
        clear g1
        have HTp := Lib.hid hT
        clear hT
        go_simp
        exact hK _ _ ⟨sa, sc, sa', sc', rfl⟩ ⟨sa, sc, sa', sc', rfl, HTp.out⟩ HC.out (Below.refl _ _)
      · refine Reg6.Obl.early rfl (by kernel_rfl) ?_
        rintro a w1 hC hx hd K hK
        have HC := Lib.hid hC
        clear hC
        obtain ⟨sa, sc, sa', sc', g1, hT⟩ := (hd 5 21 (by kernel_rfl) rfl).2
        have tt := Reg.slot_val g1
        clear g1
        have HTp := Lib.hid hT
        clear hT
        go_simp
        exact hK _ _ trivial ⟨sa, sc, sa', sc', rfl, HTp.out⟩ HC.out (Below.refl _ _)
      · refine Reg6.Obl.late rfl (by kernel_rfl) ?_
        rintro a w1 hx hd K hK
        obtain ⟨sa, sc, sa', sc', g1⟩ := hd 5 21 (by kernel_rfl) rfl
        have tt := Reg.slot_val g1
        clear g1
        go_simp
        exact hK _ rfl (fun w hD => by obtain ⟨b, sa, sc, sa', sc', e, h⟩ := hD; exact ⟨b, sa, sc, sa', sc', (eval_put_ne (by decide)).trans e, h⟩)
      · refine Reg6.Obl.early rfl (by kernel_rfl) ?_
        rintro a w1 hC hx hd K hK
        have HC := Lib.hid hC
        clear hC
        go_simp
        exact hK _ _ trivial ⟨w1.heap.size, rfl, HC.out.size, NilBox.new⟩ (HC.out.alloc HC.out.size _) ((Below.refl _ _).alloc (Nat.le_refl _) _)
      · refine Reg6.Obl.store rfl ?_
        rintro a w1 hC hx hd K hK
        have HC := Lib.hid hC
        clear hC
        obtain ⟨b, gb, hbl, hNB⟩ := (hd 8 6 (by kernel_rfl) rfl).2
        have tb := Reg.slot_val gb
        obtain ⟨sa, sc, sa', sc', g1, hT⟩ := (hd 6 27 (by kernel_rfl) rfl).2
        have tt := Reg.slot_val g1
        clear g1
        have HTp := Lib.hid hT
        clear hT
        have GB := Lib.hid gb
        have HNB := Lib.hid hNB
        obtain ⟨y0, y1, _, yf⟩ := hNB
        have f0 := yf 0
        have f1 := yf 1
        clear yf gb
        go_simp
        refine hK _ ⟨b, sa, sc, sa', sc', GB.out, hbl, (HC.out.setCell hbl _).setCell hbl _, ?_, ?_, HTp.out.keep HR3.out HNB.out _ _⟩
        · rw [World.cell?_setCell_other _ _ _ _ (by simp)]; exact World.cell?_setCell_same _ _ _ HNB.out.1
        · exact World.cell?_setCell_same _ _ _ (by rw [World.cell?_setCell_other _ _ _ _ (by simp)]; exact HNB.out.2.1)
      · refine Reg6.Obl.late rfl (by kernel_rfl) ?_
        rintro a w1 hx hd K hK
        have t28 : a.tmps[28]?.getD undef = .bool ok := Reg.slot_val (hd 7 28 (by kernel_rfl) rfl)
        go_simp
        exact hK _ rfl (fun w hD => by obtain ⟨b, sa, sc, sa', sc', e, h⟩ := hD; exact ⟨b, sa, sc, sa', sc', (eval_put_ne (by decide)).trans e, h⟩)
    · rintro f w3 hD hv
      obtain ⟨S, sa, sc, sa', sc', e6, hbl, hB, s0, s1, hT⟩ := hD
      have g6 : f 6 = .pointer (some ⟨S, 0, none⟩) := e6
      have g7 : f 7 = .bool ok := hv 10 7 rfl
      clear e6 hv
      simp only [Reg.mixL, g6, g7]
      have lv1 : w.heap.size < w1.heap.size := World.block_lt_of_cell? _ _ a0
      replace a0 := cell_below hB a0
      replace a1 := cell_below hB a1
      have lv2 : w.heap.size + 1 < w1.heap.size := World.block_lt_of_cell? _ _ HVB.out.1
      have HVB := Lib.hid (HVB.out.below hB)
      have SV := Lib.hid hT.1
      have ST := Lib.hid hT.2.1
      have LV3 := Lib.hid hT.2.2.1
      have LT3 := Lib.hid hT.2.2.2
      have HB3' := Lib.hid (HBR.out.trans (hB.mono HBR.out.size))
      have hsl : S < w3.heap.size := World.block_lt_of_cell? _ _ s0
      have lv3 := hB.size
      clear hB hT HBR
      go_wp2_with fail
      refine (laws_toMesh' _ _ _ _ _ _ _ _ _ (HP.out.below HB3'.out) (HT.out.below HB3'.out) HS.out).mono ?_
      rintro e w4 ⟨⟨c, c', rfl, hc, hc', hV4, hT4, hi4, hi4', hO4⟩, hB4⟩
      replace a0 := cell_below hB4 a0
      replace a1 := cell_below hB4 a1
      replace s0 := cell_below hB4 s0
      replace s1 := cell_below hB4 s1
      have HVB := Lib.hid (HVB.out.below hB4)
      have SV := Lib.hid (SV.out.below hB4)
      have ST := Lib.hid (ST.out.below hB4)
      have LT4 := Lib.hid (LT3.out.below hB4)
      have HB4 := Lib.hid (HB3'.out.trans (hB4.mono HB3'.out.size))
      have z34 := hB4.size
      have HV4 := Lib.hid hV4
      have HT4 := Lib.hid hT4
      have HO4 := Lib.hid hO4
      have zi := hi4'
      clear hB4 hV4 hT4 hc hc' hO4 hi4'
      go_wp2_with fail
      have hX : Below w4.heap.size w4 (w4.alloc (.cells #[.slice (some ⟨c, 0, none⟩) pl pl, .slice (some ⟨c', 0, none⟩) tl tl] 49)) := (Below.refl _ _).alloc (Nat.le_refl _) _
      have x0 : (w4.alloc (.cells #[.slice (some ⟨c, 0, none⟩) pl pl, .slice (some ⟨c', 0, none⟩) tl tl] 49)).cell? ⟨w4.heap.size, 0, none⟩ = some (.slice (some ⟨c, 0, none⟩) pl pl) := by go_simp
      have x1 : (w4.alloc (.cells #[.slice (some ⟨c, 0, none⟩) pl pl, .slice (some ⟨c', 0, none⟩) tl tl] 49)).cell? ⟨w4.heap.size, 1, none⟩ = some (.slice (some ⟨c', 0, none⟩) tl tl) := by go_simp
      replace a0 := cell_below hX a0
      replace a1 := cell_below hX a1
      replace s0 := cell_below hX s0
      replace s1 := cell_below hX s1
      have HVB := Lib.hid (HVB.out.below hX)
      have SV := Lib.hid (SV.out.below hX)
      have ST := Lib.hid (ST.out.below hX)
      have LT4 := Lib.hid (LT4.out.below hX)
      have HV4 := Lib.hid (HV4.out.below hX)
      have HT4 := Lib.hid (HT4.out.below hX)
      have HO4 := Lib.hid (HO4.out.below hX)
      have HB4 := Lib.hid (HB4.out.trans (hX.mono HB4.out.size))
      have zx : (w4.alloc (.cells #[.slice (some ⟨c, 0, none⟩) pl pl, .slice (some ⟨c', 0, none⟩) tl tl] 49)).heap.size = w4.heap.size + 1 := by simp
      generalize (w4.alloc (.cells #[.slice (some ⟨c, 0, none⟩) pl pl, .slice (some ⟨c', 0, none⟩) tl tl] 49)) = W4 at *
      clear hX
      have ZZ := Lib.hid (And.intro zx (And.intro zi (And.intro z34 (And.intro hsl (And.intro lv1 (And.intro lv2 lv3))))))
      clear zx zi z34 hsl lv1 lv2 lv3
      generalize w4.heap.size = X at *
      refine Reg6.wp_region_mix (s := 8) (C := fun w' => Below W4.heap.size W4 w') (D := fun a w' => ∃ b sa sc sa' sc', a.eval (.tmp 9) = .pointer (some ⟨b, 0, none⟩) ∧ W4.heap.size ≤ b ∧ Below W4.heap.size W4 w' ∧ w'.cell? ⟨b, 0, none⟩ = some (.slice sa rcs.length sc) ∧ w'.cell? ⟨b, 1, none⟩ = some (.slice sa' rts.length sc') ∧ TupG W4.heap.size rcs rts sa sc sa' sc' w') (G := fun w1 w2 => Below w1.heap.size w1 w2) (Rv := fun i v => match i with | 0 => v = .agg #[.slice (some ⟨c, 0, none⟩) pl pl, .slice (some ⟨c', 0, none⟩) tl tl] | 1 => v = vv bx by' bz | 2 => v = vv bx by' bz | 3 => ∃ sa sc sa' sc', v = .tuple #[.agg #[.slice sa rcs.length sc, .slice sa' rts.length sc'], .bool ok] | 4 => ∃ sa sc sa' sc', v = .tuple #[.agg #[.slice sa rcs.length sc, .slice sa' rts.length sc'], .bool ok] | 6 => v = .bool ok | 9 => v = .bool ok | _ => True) (Rw := fun i v w' => match i with | 3 => ∃ sa sc sa' sc', v = .tuple #[.agg #[.slice sa rcs.length sc, .slice sa' rts.length sc'], .bool ok] ∧ TupG W4.heap.size rcs rts sa sc sa' sc' w' | 4 => ∃ sa sc sa' sc', v = .tuple #[.agg #[.slice sa rcs.length sc, .slice sa' rts.length sc'], .bool ok] ∧ TupG W4.heap.size rcs rts sa sc sa' sc' w' | 5 => ∃ sa sc sa' sc', v = .agg #[.slice sa rcs.length sc, .slice sa' rts.length sc'] ∧ TupG W4.heap.size rcs rts sa sc sa' sc' w' | 7 => ∃ b, v = .pointer (some ⟨b, 0, none⟩) ∧ W4.heap.size ≤ b ∧ NilBox w' b | _ => True) [false, false, false, false, false, false, false, false, false, true, true, false, false, false, false, false, false, false, false, false, false, false, false, false, false, false, false, false, false, false, false, true, true, true, true, true, true, true, false, false, false, false, false, false, false, false, false, false, false, false, false, false, false, false, false, false, false, false, false, false, false, false, false, false, false, false, false, false, false, false, false, false, false, false, false, false, false, false, false, false, false, false, false, false, false, false, false, false, false, false, false, false, false, false, false, false, false, false, false, false, false, false, false, false]
        (by kernel_rfl) (by kernel_rfl) (by kernel_rfl) ?_ (below_drewN (Below.refl _ _) 1) ?_ ?_
      · intro j v w1 w2 hC hG hR
        match j with
        | 0 => trivial
        | 1 => trivial
        | 2 => trivial
        | 3 => obtain ⟨sa, sc, sa', sc', e, h⟩ := hR; exact ⟨sa, sc, sa', sc', e, h.below hG⟩
        | 4 => obtain ⟨sa, sc, sa', sc', e, h⟩ := hR; exact ⟨sa, sc, sa', sc', e, h.below hG⟩
        | 5 => obtain ⟨sa, sc, sa', sc', e, h⟩ := hR; exact ⟨sa, sc, sa', sc', e, h.below hG⟩
        | 6 => trivial
        | 7 => obtain ⟨b, e, h1, h2⟩ := hR; exact ⟨b, e, h1, h2.below hG⟩
        | 8 => trivial
        | 9 => trivial
        | _ + 10 => trivial
      · refine ⟨?_, ?_, ?_, ?_, ?_, ?_, ?_, ?_, ?_, ?_, trivial⟩
        · refine Reg6.Obl.early rfl (by kernel_rfl) ?_
          rintro a w1 hC hx hd K hK
          have HC := Lib.hid hC
          clear hC
          have t8 : a.tmps[8]?.getD undef = .pointer (some ⟨X, 0, none⟩) := Reg.slot_val (hx 8 (by kernel_rfl))
          have y0 := cell_below HC.out x0
          have y1 := cell_below HC.out x1
          go_simp
          exact hK _ _ rfl trivial (HC.out) (Below.refl _ _)
        · refine Reg6.Obl.early rfl (by kernel_rfl) ?_
          rintro a w1 hC hx hd K hK
          have HC := Lib.hid hC
          clear hC
          have t3 : a.tmps[3]?.getD undef = .pointer (some ⟨w.heap.size + 1, 0, none⟩) := Reg.slot_val (hx 3 (by kernel_rfl))
          obtain ⟨y0, y1, y2⟩ := HVB.out.below HC.out
          go_simp
          exact hK _ _ rfl trivial (HC.out) (Below.refl _ _)
        · refine Reg6.Obl.early rfl (by kernel_rfl) ?_
          rintro a w1 hC hx hd K hK
          have HC := Lib.hid hC
          clear hC
          have t33 : a.tmps[33]?.getD undef = vv bx by' bz := Reg.slot_val (hd 1 33 (by kernel_rfl) rfl).1
          go_simp
          refine (laws_toVector bx by' bz _).mono ?_
          rintro en w2 ⟨rfl, hB2⟩
          exact hK _ _ rfl trivial (HC.out.trans (hB2.mono HC.out.size)) hB2
        · refine Reg6.Obl.early rfl (by kernel_rfl) ?_
          rintro a w1 hC hx hd K hK
          have HC := Lib.hid hC
          clear hC
          have t34 : a.tmps[34]?.getD undef = vv bx by' bz := Reg.slot_val (hd 2 34 (by kernel_rfl) rfl).1
          have t32 : a.tmps[32]?.getD undef = .agg #[.slice (some ⟨c, 0, none⟩) pl pl, .slice (some ⟨c', 0, none⟩) tl tl] := Reg.slot_val (hd 0 32 (by kernel_rfl) rfl).1
          go_simp
          refine (HIM.out _ _ _ _ _ (HV4.out.below HC.out) (HT4.out.below HC.out)).mono ?_
          intro en w2 hm
          obtain ⟨⟨sa, sc, sa', sc', rfl, hT⟩, hB2⟩ := hm.tup
          exact hK _ _ ⟨sa, sc, sa', sc', rfl⟩ ⟨sa, sc, sa', sc', rfl, hT.low HC.out.size⟩ (HC.out.trans (hB2.mono HC.out.size)) hB2
        · refine Reg6.Obl.early rfl (by kernel_rfl) ?_
          rintro a w1 hC hx hd K hK
          have HC := Lib.hid hC
          clear hC
          obtain ⟨sa, sc, sa', sc', g1, hT⟩ := (hd 3 35 (by kernel_rfl) rfl).2
          have tt := Reg.slot_val g1
          clear g1
          have HTp := Lib.hid hT
          clear hT
          go_simp
          exact hK _ _ ⟨sa, sc, sa', sc', rfl⟩ ⟨sa, sc, sa', sc', rfl, HTp.out⟩ HC.out (Below.refl _ _)
        · refine Reg6.Obl.early rfl (by kernel_rfl) ?_
          rintro a w1 hC hx hd K hK
          have HC := Lib.hid hC
          clear hC
          obtain ⟨sa, sc, sa', sc', g1, hT⟩ := (hd 4 31 (by kernel_rfl) rfl).2
          have tt := Reg.slot_val g1
          clear g1
          have HTp := Lib.hid hT
          clear hT
          go_simp
          exact hK _ _ trivial ⟨sa, sc, sa', sc', rfl, HTp.out⟩ HC.out (Below.refl _ _)
        · refine Reg6.Obl.late rfl (by kernel_rfl) ?_
          rintro a w1 hx hd K hK
          obtain ⟨sa, sc, sa', sc', g1⟩ := hd 4 31 (by kernel_rfl) rfl
          have tt := Reg.slot_val g1
          clear g1
          go_simp
          exact hK _ rfl (fun w hD => by obtain ⟨b, sa, sc, sa', sc', e, h⟩ := hD; exact ⟨b, sa, sc, sa', sc', (eval_put_ne (by decide)).trans e, h⟩)
        · refine Reg6.Obl.early rfl (by kernel_rfl) ?_
          rintro a w1 hC hx hd K hK
          have HC := Lib.hid hC
          clear hC
          go_simp
          exact hK _ _ trivial ⟨w1.heap.size, rfl, HC.out.size, NilBox.new⟩ (HC.out.alloc HC.out.size _) ((Below.refl _ _).alloc (Nat.le_refl _) _)
        · refine Reg6.Obl.store rfl ?_
          rintro a w1 hC hx hd K hK
          have HC := Lib.hid hC
          clear hC
          obtain ⟨b, gb, hbl, hNB⟩ := (hd 7 9 (by kernel_rfl) rfl).2
          have tb := Reg.slot_val gb
          obtain ⟨sa, sc, sa', sc', g1, hT⟩ := (hd 5 36 (by kernel_rfl) rfl).2
          have tt := Reg.slot_val g1
          clear g1
          have HTp := Lib.hid hT
          clear hT
          have GB := Lib.hid gb
          have HNB := Lib.hid hNB
          obtain ⟨y0, y1, _, yf⟩ := hNB
          have f0 := yf 0
          have f1 := yf 1
          clear yf gb
          go_simp
          refine hK _ ⟨b, sa, sc, sa', sc', GB.out, hbl, (HC.out.setCell hbl _).setCell hbl _, ?_, ?_, HTp.out.keep HR3.out HNB.out _ _⟩
          · rw [World.cell?_setCell_other _ _ _ _ (by simp)]; exact World.cell?_setCell_same _ _ _ HNB.out.1
          · exact World.cell?_setCell_same _ _ _ (by rw [World.cell?_setCell_other _ _ _ _ (by simp)]; exact HNB.out.2.1)
        · refine Reg6.Obl.late rfl (by kernel_rfl) ?_
          rintro a w1 hx hd K hK
          have t37 : a.tmps[37]?.getD undef = .bool ok := Reg.slot_val (hd 6 37 (by kernel_rfl) rfl)
          go_simp
          exact hK _ rfl (fun w hD => by obtain ⟨b, sa, sc, sa', sc', e, h⟩ := hD; exact ⟨b, sa, sc, sa', sc', (eval_put_ne (by decide)).trans e, h⟩)
      · rintro f2 w5 hD hv
        obtain ⟨G, ga, gc, ga', gc', e6, hbl, hB, g0, g1, hT⟩ := hD
        have q9 : f2 9 = .pointer (some ⟨G, 0, none⟩) := e6
        have q10 : f2 10 = .bool ok := hv 9 10 rfl
        clear e6 hv
        simp only [Reg.mixL, q9, q10]
        replace a0 := cell_below hB a0
        replace a1 := cell_below hB a1
        replace s0 := cell_below hB s0
        replace s1 := cell_below hB s1
        replace x0 := cell_below hB x0
        replace x1 := cell_below hB x1
        have HVB := Lib.hid (HVB.out.below hB)
        have SV := Lib.hid (SV.out.below hB)
        have ST := Lib.hid (ST.out.below hB)
        have LT5 := Lib.hid (LT4.out.below hB)
        have HV5 := Lib.hid (HV4.out.below hB)
        have HT5 := Lib.hid (HT4.out.below hB)
        have HO5 := Lib.hid (HO4.out.below hB)
        have HB5 := Lib.hid (HB4.out.trans (hB.mono HB4.out.size))
        obtain ⟨F, hGV, hGT, hGM⟩ := hT
        have GV := Lib.hid hGV
        have GT := Lib.hid hGT
        have GM5 := Lib.hid hGM
        have Z5 := Lib.hid (And.intro hbl hB.size)
        clear hB hGV hGT hGM hbl
        go_wp2_with fail
        refine (laws_eqMesh _ _ _ _ _ _ _ _ _ _ rcs rts _ GV.out GT.out SV.out ST.out).mono ?_
        rintro e w6 ⟨rfl, hB6⟩
        replace a0 := cell_below hB6 a0
        replace a1 := cell_below hB6 a1
        replace s0 := cell_below hB6 s0
        replace s1 := cell_below hB6 s1
        replace x0 := cell_below hB6 x0
        replace x1 := cell_below hB6 x1
        replace g0 := cell_below hB6 g0
        replace g1 := cell_below hB6 g1
        have HVB := Lib.hid (HVB.out.below hB6)
        have SV := Lib.hid (SV.out.below hB6)
        have ST := Lib.hid (ST.out.below hB6)
        have LT6 := Lib.hid (LT5.out.below hB6)
        have HV6 := Lib.hid (HV5.out.below hB6)
        have HT6 := Lib.hid (HT5.out.below hB6)
        have HO6 := Lib.hid (HO5.out.below hB6)
        have GV := Lib.hid (GV.out.below hB6)
        have GT := Lib.hid (GT.out.below hB6)
        have GM6 := Lib.hid (GM5.out.below hB6)
        have HS56 := Lib.hid hB6.size
        have HB6 := Lib.hid (HB5.out.trans (hB6.mono HB5.out.size))
        clear hB6
        go_wp2_with fail
        refine Reg.wp_region_mix (C := fun w' => Below w6.heap.size w6 w') (G := fun w1 w2 => Below w1.heap.size w1 w2) (R := fun i v w' => match i with | 0 => v = .agg #[.slice (some ⟨c, 0, none⟩) pl pl, .slice (some ⟨c', 0, none⟩) tl tl] | 1 => v = .agg #[.slice pa pl pc, .slice ta tl tc] | 2 => ∃ d d', v = .agg #[.slice (some ⟨d, 0, none⟩) pl pl, .slice (some ⟨d', 0, none⟩) tl tl] ∧ IsVs w' (some ⟨d, 0, none⟩) pl pl cs ∧ IsTs w' (some ⟨d', 0, none⟩) tl tl ts | 3 => v = .bool true | 4 => v = .bool false | _ => True) (T := fun _ _ _ => True) [false, false, false, false, false, false, false, false, false, false, false, false, false, false, false, false, false, false, false, false, false, false, false, false, false, false, false, false, false, false, false, false, false, false, false, false, false, false, false, false, false, false, false, false, false, false, false, true, true, true, true, true, false, false, false, false, false, false, false, false, false, false, false, false, false, false, false, false, false, false, false, false, false, false, false, false, false, false, false, false, false, false, false, false, false, false, false, false, false, false, false, false, false, false, false, false, false, false, false, false, false, false, false, false]
          (by kernel_rfl) (by kernel_rfl) (by kernel_rfl) ?_ (below_drewN (Below.refl _ _) 1) ?_ ?_
        · intro j v w1 w2 _ hG hR
          match j with
          | 0 => exact hR
          | 1 => exact hR
          | 2 => obtain ⟨d, d', e, h1, h2⟩ := hR; exact ⟨d, d', e, h1.below hG, h2.below hG⟩
          | 3 => exact hR
          | 4 => exact hR
          | _ + 5 => trivial
        · refine ⟨Reg.Obl.mk ?_, Reg.Obl.mk ?_, Reg.Obl.mk ?_, Reg.Obl.mk ?_, Reg.Obl.mk ?_, trivial⟩
          · rintro a w1 hB hx hd K hK
            have t8 : a.tmps[8]?.getD undef = .pointer (some ⟨X, 0, none⟩) := Reg.slot_val (hx 8 (by kernel_rfl))
            have y0 := cell_below hB x0
            have y1 := cell_below hB x1
            go_simp
            exact hK _ _ (fun _ => rfl) (fun h => by cases h) hB (Below.refl _ _)
          · rintro a w1 hB hx hd K hK
            have t2 : a.tmps[2]?.getD undef = .pointer (some ⟨w.heap.size, 0, none⟩) := Reg.slot_val (hx 2 (by kernel_rfl))
            have y0 := cell_below hB a0
            have y1 := cell_below hB a1
            go_simp
            exact hK _ _ (fun _ => rfl) (fun h => by cases h) hB (Below.refl _ _)
          · rintro a w1 hB hx hd K hK
            have t48 : a.tmps[48]?.getD undef = .agg #[.slice pa pl pc, .slice ta tl tc] := Reg.slot_val (hd 1 (by kernel_rfl) 48 rfl)
            go_simp
            have hW1 : Below w.heap.size w w1 := HB6.out.trans (hB.mono HB6.out.size)
            refine (laws_toMesh _ _ _ _ _ _ _ _ _ (HP.out.below hW1) (HT.out.below hW1) HS.out).mono ?_
            rintro en w2 ⟨⟨d, d', rfl, hd1, hd2, hV, hT⟩, hB2⟩
            exact hK _ _ (fun _ => ⟨d, d', rfl, hV, hT⟩) (fun h => by cases h) (hB.trans (hB2.mono hB.size)) hB2
          · rintro a w1 hB hx hd K hK
            have t47 : a.tmps[47]?.getD undef = .agg #[.slice (some ⟨c, 0, none⟩) pl pl, .slice (some ⟨c', 0, none⟩) tl tl] := Reg.slot_val (hd 0 (by kernel_rfl) 47 rfl)
            obtain ⟨e, e', g2, hV, hT⟩ := hd 2 (by kernel_rfl) 49 rfl
            have t49 := Reg.slot_val g2
            clear g2
            have HVe := Lib.hid hV
            have HTe := Lib.hid hT
            clear hV hT
            go_simp
            refine (laws_eqMesh _ _ _ _ _ _ _ _ _ _ cs ts _ (HV6.out.below hB) (HT6.out.below hB) HVe.out HTe.out).mono ?_
            rintro en w2 ⟨rfl, hB2⟩
            exact hK _ _ (fun _ => rfl) (fun h => by cases h) (hB.trans (hB2.mono hB.size)) hB2
          · rintro a w1 hB hx hd K hK
            have t50 : a.tmps[50]?.getD undef = .bool true := Reg.slot_val (hd 3 (by kernel_rfl) 50 rfl)
            go_simp
            exact hK _ _ (fun _ => rfl) (fun h => by cases h) hB (Below.refl _ _)
        · rintro f4 wz hB6 hd hT
          have g51 : f4 51 = .bool false := hd 4 51 rfl
          simp only [Reg.mixL, g51]
          have HS6z := Lib.hid hB6.size
          have y0 := cell_below hB6 x0
          have y1 := cell_below hB6 x1
          have b0 := cell_below hB6 a0
          have b1 := cell_below hB6 a1
          have t0 := cell_below hB6 s0
          have t1 := cell_below hB6 s1
          have u0 := cell_below hB6 g0
          have u1 := cell_below hB6 g1
          have VBz := Lib.hid (HVB.out.below hB6)
          have SVz := Lib.hid (SV.out.below hB6)
          have STz := Lib.hid (ST.out.below hB6)
          have LTz := Lib.hid (LT6.out.below hB6)
          have GVz := Lib.hid (GV.out.below hB6)
          have GTz := Lib.hid (GT.out.below hB6)
          have GMz := Lib.hid (GM6.out.below hB6)
          have HOz := Lib.hid (HO6.out.below hB6)
          have HBz := Lib.hid (HB6.out.trans (hB6.mono HB6.out.size))
          clear hB6 x0 x1 a0 a1 s0 s1 g0 g1 hd hT
          obtain ⟨zx, zi, z34, zs, zl1, zl2, zl3⟩ := ZZ.out
          obtain ⟨zG, z45⟩ := Z5.out
          have z56 := HS56.out
          have z6z := HS6z.out
          have SM := Lib.hid HS.out
          go_wp2_with fail
          refine (laws_markMesh w3.heap.size hi4 c 0 c' 0 pl pl tl tl ts 1 wz HOz.out (by omega) (by rw [← HPL.out]; exact SM.out.1) (by rw [← HTL.out]; exact SM.out.2.1) (fun j hj => SM.out.2.2 j (by rw [HTL.out]; exact hj)) (by decide)).mono ?_
          rintro e w7 ⟨z7, rfl, hM⟩
          have hz0 : ¬ ((z7 : Int) < 0) := by omega
          have a0 := hM.cell (.inl (by omega)) b0
          have a1 := hM.cell (.inl (by omega)) b1
          have s0 := hM.cell (.inl (by omega)) t0
          have s1 := hM.cell (.inl (by omega)) t1
          have g0 := hM.cell (.inr (by omega)) u0
          have g1 := hM.cell (.inr (by omega)) u1
          have hvb7 : VB w7 (w.heap.size + 1) bx by' bz := ⟨hM.cell (.inl (by omega)) VBz.out.1, hM.cell (.inl (by omega)) VBz.out.2.1, hM.cell (.inl (by omega)) VBz.out.2.2⟩
          have VB7 := Lib.hid hvb7
          have SV7 := Lib.hid (vs_away SVz.out LV3.out hM (.inl (by omega)))
          have hst := ts_away STz.out LTz.out hM (.inl (by omega))
          have ST7 := Lib.hid hst.1
          have LT7 := Lib.hid hst.2
          have GV7 := Lib.hid (GMz.out.vs GVz.out hM (.inl (by omega)))
          have GT7 := Lib.hid (GMz.out.ts GTz.out hM (.inl (by omega)))
          have GM7 := Lib.hid (GMz.out.mark hM (.inl (by omega)))
          have HB7 := Lib.hid (HBz.out.trans (hM.below.mono (by omega)))
          have z7s := hM.below.size
          clear hM b0 b1 y0 y1 t0 t1 u0 u1 hst hvb7
          go_wp2_with fail
          refine (laws_eqMesh _ _ _ _ _ _ _ _ _ _ rcs rts _ GV7.out GT7.out SV7.out ST7.out).mono ?_
          rintro e w8 ⟨rfl, hB8⟩
          replace a0 := cell_below hB8 a0
          replace a1 := cell_below hB8 a1
          replace s0 := cell_below hB8 s0
          replace s1 := cell_below hB8 s1
          replace g0 := cell_below hB8 g0
          replace g1 := cell_below hB8 g1
          have VB8 := Lib.hid (VB7.out.below hB8)
          have SV8 := Lib.hid (SV7.out.below hB8)
          have ST8 := Lib.hid (ST7.out.below hB8)
          have LT8 := Lib.hid (LT7.out.below hB8)
          have GM8 := Lib.hid (GM7.out.below hB8)
          have hgb := gm_box (GV7.out.below hB8) (GT7.out.below hB8) GM8.out HR3.out g0
          have HGB := Lib.hid hgb
          clear hgb
          have z78 := hB8.size
          have HB8 := Lib.hid (HB7.out.trans (hB8.mono HB7.out.size))
          clear hB8
          go_wp2_with fail
          refine (mark_gm' W4.heap.size w5.heap.size ga ga' rcs.length gc rts.length gc' F w8 GM8.out (by omega) (by omega) (by omega)).mono ?_
          rintro e w9 ⟨rfl, hmk, hM9, hfine⟩
          have a0 := hM9.cell (.inl (by omega)) a0
          have a1 := hM9.cell (.inl (by omega)) a1
          have s0 := hM9.cell (.inl (by omega)) s0
          have s1 := hM9.cell (.inl (by omega)) s1
          have g0 := hfine _ _ _ g0 HGB.out.1 HGB.out.2
          have g1 := hfine _ _ _ g1 HGB.out.1 HGB.out.2
          have hvb9 : VB w9 (w.heap.size + 1) bx by' bz := ⟨hM9.cell (.inl (by omega)) VB8.out.1, hM9.cell (.inl (by omega)) VB8.out.2.1, hM9.cell (.inl (by omega)) VB8.out.2.2⟩
          have VB9 := Lib.hid hvb9
          have SV9 := Lib.hid (vs_away SV8.out LV3.out hM9 (.inl (by omega)))
          have hst := ts_away ST8.out LT8.out hM9 (.inl (by omega))
          have ST9 := Lib.hid hst.1
          have HB9 := Lib.hid (HB8.out.trans (hM9.below.mono (by omega)))
          have HMK := Lib.hid hmk
          have l1 := len1
          have l2 := len2
          clear hmk hM9 hst hfine hvb9
          have HHG := Lib.hid (fun (w : World) (h : MrkM w ga ga' rcs.length rts.length F) => held_gm ga ga' rcs.length gc rts.length gc' F w h (by omega) (by omega))
          generalize 1 + rcs.length * 3 + rts.length * 3 = N at *
          have hn0 : ¬ ((N : Int) < 0) := by omega
          go_wp2_with fail
          refine (HHG.out w9 HMK.out).mono ?_
          rintro e w10 ⟨rfl, hB10⟩
          replace a0 := cell_below hB10 a0
          replace a1 := cell_below hB10 a1
          replace s0 := cell_below hB10 s0
          replace s1 := cell_below hB10 s1
          replace g0 := cell_below hB10 g0
          replace g1 := cell_below hB10 g1
          have HVB := Lib.hid (VB9.out.below hB10)
          have SV10 := Lib.hid (SV9.out.below hB10)
          have ST10 := Lib.hid (ST9.out.below hB10)
          have MK10 := Lib.hid (HMK.out.below hB10)
          have HBR := Lib.hid (HB9.out.trans (hB10.mono HB9.out.size))
          clear hB10
          go_wp2_with fail
          refine Reg6.wp_region_mix (s := 9) (C := fun w' => Below w10.heap.size w10 w') (D := fun a w' => ∃ b sa sc sa' sc', a.eval (.tmp 14) = .pointer (some ⟨b, 0, none⟩) ∧ w10.heap.size ≤ b ∧ Below w10.heap.size w10 w' ∧ w'.cell? ⟨b, 0, none⟩ = some (.slice sa rcs.length sc) ∧ w'.cell? ⟨b, 1, none⟩ = some (.slice sa' rts.length sc') ∧ TupG w10.heap.size rcs rts sa sc sa' sc' w') (G := fun w1 w2 => Below w1.heap.size w1 w2) (Rv := fun i v => match i with | 0 => v = .agg #[.slice pa pl pc, .slice ta tl tc] | 2 => v = vv bx by' bz | 3 => v = vv bx by' bz | 4 => ∃ sa sc sa' sc', v = .tuple #[.agg #[.slice sa rcs.length sc, .slice sa' rts.length sc'], .bool ok] | 5 => ∃ sa sc sa' sc', v = .tuple #[.agg #[.slice sa rcs.length sc, .slice sa' rts.length sc'], .bool ok] | 7 => v = .bool ok | 10 => v = .bool ok | _ => True) (Rw := fun i v w' => match i with | 1 => ∃ d d', v = .agg #[.slice (some ⟨d, 0, none⟩) pl pl, .slice (some ⟨d', 0, none⟩) tl tl] ∧ IsVs w' (some ⟨d, 0, none⟩) pl pl cs ∧ IsTs w' (some ⟨d', 0, none⟩) tl tl ts | 4 => ∃ sa sc sa' sc', v = .tuple #[.agg #[.slice sa rcs.length sc, .slice sa' rts.length sc'], .bool ok] ∧ TupG w10.heap.size rcs rts sa sc sa' sc' w' | 5 => ∃ sa sc sa' sc', v = .tuple #[.agg #[.slice sa rcs.length sc, .slice sa' rts.length sc'], .bool ok] ∧ TupG w10.heap.size rcs rts sa sc sa' sc' w' | 6 => ∃ sa sc sa' sc', v = .agg #[.slice sa rcs.length sc, .slice sa' rts.length sc'] ∧ TupG w10.heap.size rcs rts sa sc sa' sc' w' | 8 => ∃ b, v = .pointer (some ⟨b, 0, none⟩) ∧ w10.heap.size ≤ b ∧ NilBox w' b | _ => True) [false, false, false, false, false, false, false, false, false, false, false, false, false, false, true, true, false, false, false, false, false, false, false, false, false, false, false, false, false, false, false, false, false, false, false, false, false, false, false, false, false, false, false, false, false, false, false, false, false, false, false, false, false, false, false, false, false, false, false, false, false, false, false, false, false, false, false, false, false, false, false, false, false, false, false, false, false, false, false, true, true, true, true, true, true, true, true, false, false, false, false, false, false, false, false, false, false, false, false, false, false, false, false, false]
            (by kernel_rfl) (by kernel_rfl) (by kernel_rfl) ?_ (below_drewN (Below.refl _ _) 1) ?_ ?_
          · intro j v w1 w2 hC hG hR
            match j with
            | 0 => trivial
            | 1 => obtain ⟨d, d', e, h1, h2⟩ := hR; exact ⟨d, d', e, h1.below hG, h2.below hG⟩
            | 2 => trivial
            | 3 => trivial
            | 4 => obtain ⟨sa, sc, sa', sc', e, h⟩ := hR; exact ⟨sa, sc, sa', sc', e, h.below hG⟩
            | 5 => obtain ⟨sa, sc, sa', sc', e, h⟩ := hR; exact ⟨sa, sc, sa', sc', e, h.below hG⟩
            | 6 => obtain ⟨sa, sc, sa', sc', e, h⟩ := hR; exact ⟨sa, sc, sa', sc', e, h.below hG⟩
            | 7 => trivial
            | 8 => obtain ⟨b, e, h1, h2⟩ := hR; exact ⟨b, e, h1, h2.below hG⟩
            | 9 => trivial
            | 10 => trivial
            | _ + 11 => trivial
          · refine ⟨?_, ?_, ?_, ?_, ?_, ?_, ?_, ?_, ?_, ?_, ?_, trivial⟩
            · refine Reg6.Obl.early rfl (by kernel_rfl) ?_
              rintro a w1 hC hx hd K hK
              have HC := Lib.hid hC
              clear hC
              have t2 : a.tmps[2]?.getD undef = .pointer (some ⟨w.heap.size, 0, none⟩) := Reg.slot_val (hx 2 (by kernel_rfl))
              have y0 := cell_below HC.out a0
              have y1 := cell_below HC.out a1
              go_simp
              exact hK _ _ rfl trivial (HC.out) (Below.refl _ _)
            · refine Reg6.Obl.early rfl (by kernel_rfl) ?_
              rintro a w1 hC hx hd K hK
              have HC := Lib.hid hC
              clear hC
              have t80 : a.tmps[80]?.getD undef = .agg #[.slice pa pl pc, .slice ta tl tc] := Reg.slot_val (hd 0 80 (by kernel_rfl) rfl).1
              go_simp
              refine (laws_toMesh _ _ _ _ _ _ _ _ _ (HP.out.below (HBR.out.trans (HC.out.mono HBR.out.size))) (HT.out.below (HBR.out.trans (HC.out.mono HBR.out.size))) HS.out).mono ?_
              rintro en w2 ⟨⟨d, d', rfl, hd1, hd2, hV, hT⟩, hB2⟩
              exact hK _ _ trivial ⟨d, d', rfl, hV, hT⟩ (HC.out.trans (hB2.mono HC.out.size)) hB2
            · refine Reg6.Obl.early rfl (by kernel_rfl) ?_
              rintro a w1 hC hx hd K hK
              have HC := Lib.hid hC
              clear hC
              have t3 : a.tmps[3]?.getD undef = .pointer (some ⟨w.heap.size + 1, 0, none⟩) := Reg.slot_val (hx 3 (by kernel_rfl))
              obtain ⟨y0, y1, y2⟩ := HVB.out.below HC.out
              go_simp
              exact hK _ _ rfl trivial (HC.out) (Below.refl _ _)
            · refine Reg6.Obl.early rfl (by kernel_rfl) ?_
              rintro a w1 hC hx hd K hK
              have HC := Lib.hid hC
              clear hC
              have t82 : a.tmps[82]?.getD undef = vv bx by' bz := Reg.slot_val (hd 2 82 (by kernel_rfl) rfl).1
              go_simp
              refine (laws_toVector bx by' bz _).mono ?_
              rintro en w2 ⟨rfl, hB2⟩
              exact hK _ _ rfl trivial (HC.out.trans (hB2.mono HC.out.size)) hB2
            · refine Reg6.Obl.early rfl (by kernel_rfl) ?_
              rintro a w1 hC hx hd K hK
              have HC := Lib.hid hC
              clear hC
              have t83 : a.tmps[83]?.getD undef = vv bx by' bz := Reg.slot_val (hd 3 83 (by kernel_rfl) rfl).1
              obtain ⟨d, d', g1, hV, hT⟩ := (hd 1 81 (by kernel_rfl) rfl).2
              have tm := Reg.slot_val g1
              clear g1
              have HVe := Lib.hid hV
              have HTe := Lib.hid hT
              clear hV hT
              go_simp
              refine (HIM.out _ _ _ _ _ HVe.out HTe.out).mono ?_
              intro en w2 hm
              obtain ⟨⟨sa, sc, sa', sc', rfl, hT⟩, hB2⟩ := hm.tup
              exact hK _ _ ⟨sa, sc, sa', sc', rfl⟩ ⟨sa, sc, sa', sc', rfl, hT.low HC.out.size⟩ (HC.out.trans (hB2.mono HC.out.size)) hB2
            · refine Reg6.Obl.early rfl (by kernel_rfl) ?_
              rintro a w1 hC hx hd K hK
              have HC := Lib.hid hC
              clear hC
              obtain ⟨sa, sc, sa', sc', g1, hT⟩ := (hd 4 84 (by kernel_rfl) rfl).2
              have tt := Reg.slot_val g1
              clear g1
              have HTp := Lib.hid hT
              clear hT
              go_simp
              exact hK _ _ ⟨sa, sc, sa', sc', rfl⟩ ⟨sa, sc, sa', sc', rfl, HTp.out⟩ HC.out (Below.refl _ _)
            · refine Reg6.Obl.early rfl (by kernel_rfl) ?_
              rintro a w1 hC hx hd K hK
              have HC := Lib.hid hC
              clear hC
              obtain ⟨sa, sc, sa', sc', g1, hT⟩ := (hd 5 79 (by kernel_rfl) rfl).2
              have tt := Reg.slot_val g1
              clear g1
              have HTp := Lib.hid hT
              clear hT
              go_simp
              exact hK _ _ trivial ⟨sa, sc, sa', sc', rfl, HTp.out⟩ HC.out (Below.refl _ _)
            · refine Reg6.Obl.late rfl (by kernel_rfl) ?_
              rintro a w1 hx hd K hK
              obtain ⟨sa, sc, sa', sc', g1⟩ := hd 5 79 (by kernel_rfl) rfl
              have tt := Reg.slot_val g1
              clear g1
              go_simp
              exact hK _ rfl (fun w hD => by obtain ⟨b, sa, sc, sa', sc', e, h⟩ := hD; exact ⟨b, sa, sc, sa', sc', (eval_put_ne (by decide)).trans e, h⟩)
            · refine Reg6.Obl.early rfl (by kernel_rfl) ?_
              rintro a w1 hC hx hd K hK
              have HC := Lib.hid hC
              clear hC
              go_simp
              exact hK _ _ trivial ⟨w1.heap.size, rfl, HC.out.size, NilBox.new⟩ (HC.out.alloc HC.out.size _) ((Below.refl _ _).alloc (Nat.le_refl _) _)
            · refine Reg6.Obl.store rfl ?_
              rintro a w1 hC hx hd K hK
              have HC := Lib.hid hC
              clear hC
              obtain ⟨b, gb, hbl, hNB⟩ := (hd 8 14 (by kernel_rfl) rfl).2
              have tb := Reg.slot_val gb
              obtain ⟨sa, sc, sa', sc', g1, hT⟩ := (hd 6 85 (by kernel_rfl) rfl).2
              have tt := Reg.slot_val g1
              clear g1
              have HTp := Lib.hid hT
              clear hT
              have GB := Lib.hid gb
              have HNB := Lib.hid hNB
              obtain ⟨y0, y1, _, yf⟩ := hNB
              have f0 := yf 0
              have f1 := yf 1
              clear yf gb
              go_simp
              refine hK _ ⟨b, sa, sc, sa', sc', GB.out, hbl, (HC.out.setCell hbl _).setCell hbl _, ?_, ?_, HTp.out.keep HR3.out HNB.out _ _⟩
              · rw [World.cell?_setCell_other _ _ _ _ (by simp)]; exact World.cell?_setCell_same _ _ _ HNB.out.1
              · exact World.cell?_setCell_same _ _ _ (by rw [World.cell?_setCell_other _ _ _ _ (by simp)]; exact HNB.out.2.1)
            · refine Reg6.Obl.late rfl (by kernel_rfl) ?_
              rintro a w1 hx hd K hK
              have t86 : a.tmps[86]?.getD undef = .bool ok := Reg.slot_val (hd 7 86 (by kernel_rfl) rfl)
              go_simp
              exact hK _ rfl (fun w hD => by obtain ⟨b, sa, sc, sa', sc', e, h⟩ := hD; exact ⟨b, sa, sc, sa', sc', (eval_put_ne (by decide)).trans e, h⟩)
          · rintro f3 w12 hD hv
            obtain ⟨H, ha, hc, ha', hc', e6, hbl, hB, h0, h1, hT⟩ := hD
            have q14 : f3 14 = .pointer (some ⟨H, 0, none⟩) := e6
            have q15 : f3 15 = .bool ok := hv 10 15 rfl
            clear e6 hv
            simp only [Reg.mixL, q14, q15]
            replace s0 := cell_below hB s0
            replace s1 := cell_below hB s1
            replace g0 := cell_below hB g0
            replace g1 := cell_below hB g1
            have SV12 := Lib.hid (SV10.out.below hB)
            have ST12 := Lib.hid (ST10.out.below hB)
            have MK12 := Lib.hid (MK10.out.below hB)
            have HB12 := Lib.hid (HBR.out.trans (hB.mono HBR.out.size))
            obtain ⟨F', hGV, hGT, _⟩ := hT
            have HV12 := Lib.hid hGV
            have HT12 := Lib.hid hGT
            clear hB hGV hGT hbl a0 a1
            go_wp2_with fail
            refine (laws_eqMesh _ _ _ _ _ _ _ _ _ _ rcs rts _ HV12.out HT12.out SV12.out ST12.out).mono ?_
            rintro e w13 ⟨rfl, hB13⟩
            replace g0 := cell_below hB13 g0
            replace g1 := cell_below hB13 g1
            have MK13 := Lib.hid (MK12.out.below hB13)
            have HB13 := Lib.hid (HB12.out.trans (hB13.mono HB12.out.size))
            clear hB13
            go_wp2_with fail
            refine (HHG.out w13 MK13.out).mono ?_
            rintro e w14 ⟨rfl, hB14⟩
            have HB14 := Lib.hid (HB13.out.trans (hB14.mono HB13.out.size))
            clear hB14
            go_wp2
            go_ret
            exact ⟨rfl, HB14.out⟩
theorem FnExactMoveMesh_law (pa ta : Option Addr) (pl pc tl tc : Nat) (cs : List C3) (ts : List (List Int)) (x y z : Nat) (w : World) (hp : IsVs w pa pl pc cs) (ht : IsTs w ta tl tc ts) (hv : x < 2 ^ FloatKind.f32.format.width ∧ y < 2 ^ FloatKind.f32.format.width ∧ z < 2 ^ FloatKind.f32.format.width) :
    Calls Try.prog 12 #[.agg #[.slice pa pl pc, .slice ta tl tc], vv x y z] w fun e w' => e = .returned (.bool true) ∧ Below w.heap.size w w' :=
  moveMesh_law pa ta pl pc tl tc cs ts x y z (cls .f32 x, cls .f32 y, cls .f32 z) w hp ht ⟨FV.self hv.1, FV.self hv.2.1, FV.self hv.2.2⟩
end Go.Proofs.Ythneddaiidimnaa

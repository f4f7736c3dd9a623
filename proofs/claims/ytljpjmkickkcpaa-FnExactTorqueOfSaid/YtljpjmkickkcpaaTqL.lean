
/-
The torque of forces: the law returns true. Conditions: none beyond that the mesh and the list lie in memory.
-/
import Derived.Test.YtljpjmkickkcpaaTqA
import Derived.Test.YtljpjmkickkcpaaSzm
import Derived.Test.YtljpjmkickkcpaaMshO
namespace Go.Proofs.Ytljpjmkickkcpaa
open Go Fk Go.RowKit
set_option linter.unusedVariables false
set_option maxRecDepth 8000

set_option maxHeartbeats 4000000 in
theorem FnExactTorqueOf_law (pa ta : Option Addr) (pl pc tl tc : Nat) (cs : List C3) (ts : List (List Int)) (fa : Option Addr) (fl fc : Nat) (ds : List C3) (w : World) (hp : IsVs w pa pl pc cs) (ht : IsTs w ta tl tc ts) (hf : IsVs w fa fl fc ds) :
    Calls Try.prog 13 #[.agg #[.slice pa pl pc, .slice ta tl tc], .slice fa fl fc] w fun e w' => e = .returned (.bool true) ∧ Below w.heap.size w w' := by
  have u := Try.underlying22
  have um := Try.underlying43
  have uv := Try.underlying28
  have HPL := Lib.hid hp.1
  have HTL := Lib.hid ht.1
  have hfm : fl ≤ 9223372036854775807 := by have h1 := hf.2.1; have h2 := hf.2.2.1; unfold maxLen at h2; omega
  have HP := Lib.hid hp
  have HT := Lib.hid ht
  have HF := Lib.hid hf
  have BX : Hid (Bx w [(w.heap.size, [.slice pa pl pc, .slice ta tl tc])] (w.alloc (.cells #[.slice pa pl pc, .slice ta tl tc] 36))) := Lib.hid ((Bx.nil w).box (vs := [.slice pa pl pc, .slice ta tl tc]) (t := 36))
  clear hp ht hf
  obtain ⟨NC, hNC⟩ : ∃ NC : C3, NC = torC cs ts ds fl := ⟨_, rfl⟩
  obtain ⟨nb, hnb⟩ : ∃ nb : Bool, nb = torB cs ts fl := ⟨_, rfl⟩
  have HSP := Lib.hid (fun (pa ta fa : Option Addr) (pc tc fc : Nat) (w : World) (hp : IsVs w pa pl pc cs) (ht : IsTs w ta tl tc ts) (hf : IsVs w fa fl fc ds) => spec_TorqueOf pa ta fa pl pc tl tc fl fc cs ts ds w hp ht hf)
  have HIM := Lib.hid (fun (pa ta fa : Option Addr) (pc tc fc : Nat) (w : World) (hp : IsVs w pa pl pc cs) (ht : IsTs w ta tl tc ts) (hf : IsVs w fa fl fc ds) => impl_TorqueOf pa ta fa pl pc tl tc fl fc cs ts ds w hp ht hf)
  rw [← hNC, ← hnb] at HSP HIM
  clear hNC hnb
  go_enter Try.func13, Try.ntmps13
  go_wp2_with fail
  generalize (w.alloc (.cells #[.slice pa pl pc, .slice ta tl tc] 36)) = W at *
  refine (laws_szMeshR _ _ _ _ _ _ _ _ 1048576 _ (HP.out.below BX.out.bel) (HT.out.below BX.out.bel) (by decide) (by decide)).mono ?_
  rintro e w1 ⟨⟨r, rfl, hr⟩, hB1⟩
  have BX1 := Lib.hid (BX.out.call hB1)
  clear hB1
  rcases hr with rfl | ⟨hr0, hr1, s1, s2, s3⟩
  · go_wp2
    go_ret
    exact ⟨rfl, BX1.out.bel⟩
  have hS : Small cs ts := ⟨by rw [HPL.out]; exact s1, by rw [HTL.out]; exact s2, by rw [HTL.out]; exact s3⟩
  have HS := Lib.hid hS
  clear s1 s2 s3 hS
  go_wp2_with fail
  refine (laws_szVectorS _ _ _ _ _ hr0 hr1 hfm).mono ?_
  rintro e w2 ⟨⟨r', rfl, hr'⟩, hw2⟩
  rw [hw2]
  clear hw2 w2
  rcases hr' with rfl | ⟨hr2, hr3, hlen⟩
  · go_wp2
    go_ret
    exact ⟨rfl, BX1.out.bel⟩
  have a0 := (BX1.out.mem (.head _)) 0 _ rfl
  have a1 := (BX1.out.mem (.head _)) 1 _ rfl
  go_wp2_with fail
  clear a0 a1
  refine (laws_toMesh _ _ _ _ _ _ _ _ _ (HP.out.below BX1.out.bel) (HT.out.below BX1.out.bel) HS.out).mono ?_
  rintro e w3 ⟨⟨b, b', rfl, hb, hb', hV, hT⟩, hB3⟩
  have BX3 := Lib.hid (BX1.out.call hB3)
  have HV3 := Lib.hid hV
  have HT3 := Lib.hid hT
  clear hV hT hB3 hb hb'
  go_wp2_with fail
  refine (laws_toVectorS _ _ _ _ _ (HF.out.below BX3.out.bel) hlen).mono ?_
  rintro e w4 ⟨rfl, hV, hB4, -⟩
  have BX4 := Lib.hid (BX3.out.call hB4)
  have HV4 := Lib.hid (HV3.out.below hB4)
  have HT4 := Lib.hid (HT3.out.below hB4)
  have HF4 := Lib.hid hV
  clear hV hB4
  go_wp2_with fail
  refine (HSP.out _ _ _ _ _ _ _ HV4.out HT4.out HF4.out).mono ?_
  rintro e w5 ⟨sx, sy, sz, rfl, hs, hB5⟩
  have HSS := Lib.hid hs
  have BX5 := Lib.hid (BX4.out.call hB5)
  clear hs hB5
  have a0 := (BX5.out.mem (.head _)) 0 _ rfl
  have a1 := (BX5.out.mem (.head _)) 1 _ rfl
  have la0 := fun ob => cell_alloc (o := ob) a0
  have la1 := fun ob => cell_alloc (o := ob) a1
  go_wp2_with fail
  clear a0 a1 la0 la1
  have BX6 := Lib.hid (BX5.out.box (vs := [.float .f32 sx, .float .f32 sy, .float .f32 sz]) (t := 28))
  change Hid (Bx w _ (w5.alloc (.cells #[.float .f32 sx, .float .f32 sy, .float .f32 sz] 28))) at BX6
  generalize (w5.alloc (.cells #[.float .f32 sx, .float .f32 sy, .float .f32 sz] 28)) = W6 at *
  generalize w5.heap.size = S at *
  refine (laws_toMesh _ _ _ _ _ _ _ _ _ (HP.out.below BX6.out.bel) (HT.out.below BX6.out.bel) HS.out).mono ?_
  rintro e w7 ⟨⟨c, c', rfl, hc, hc', hV, hT⟩, hB7⟩
  have BX7 := Lib.hid (BX6.out.call hB7)
  have hA7 : Below w7.heap.size w7 (w7.alloc (.cells #[.slice (some ⟨c, 0, none⟩) pl pl, .slice (some ⟨c', 0, none⟩) tl tl] 43)) := (Below.refl _ _).alloc (Nat.le_refl _) _
  have HV7 := Lib.hid (hV.below hA7)
  have HT7 := Lib.hid (hT.below hA7)
  have BX8 := Lib.hid (BX7.out.box (vs := [.slice (some ⟨c, 0, none⟩) pl pl, .slice (some ⟨c', 0, none⟩) tl tl]) (t := 43))
  clear hV hT hB7 hc hc' hA7
  go_wp2_with fail
  change Hid (Bx w _ (w7.alloc (.cells #[.slice (some ⟨c, 0, none⟩) pl pl, .slice (some ⟨c', 0, none⟩) tl tl] 43))) at BX8
  generalize (w7.alloc (.cells #[.slice (some ⟨c, 0, none⟩) pl pl, .slice (some ⟨c', 0, none⟩) tl tl] 43)) = W8 at *
  generalize w7.heap.size = X at *
  refine (laws_toVectorS _ _ _ _ _ (HF.out.below BX8.out.bel) hlen).mono ?_
  rintro e w9 ⟨rfl, hV, hB9, -⟩
  have BX9 := Lib.hid (BX8.out.call hB9)
  have HV9 := Lib.hid (HV7.out.below hB9)
  have HT9 := Lib.hid (HT7.out.below hB9)
  have HF9 := Lib.hid hV
  clear hV hB9
  generalize W8.heap.size = Y at *
  have x0 := (BX9.out.mem (.head _)) 0 _ rfl
  have x1 := (BX9.out.mem (.head _)) 1 _ rfl
  go_wp2_with fail
  clear x0 x1
  refine (HIM.out _ _ _ _ _ _ _ HV9.out HT9.out HF9.out).mono ?_
  rintro e w10 ⟨gx, gy, gz, rfl, hg, hB10⟩
  have HG := Lib.hid hg
  have BX10 := Lib.hid (BX9.out.call hB10)
  have HV10 := Lib.hid (HV9.out.below hB10)
  have HT10 := Lib.hid (HT9.out.below hB10)
  have HF10 := Lib.hid (HF9.out.below hB10)
  clear hg hB10
  have s0 := (BX10.out.mem (.tail _ (.head _))) 0 _ rfl
  have s1 := (BX10.out.mem (.tail _ (.head _))) 1 _ rfl
  have s2 := (BX10.out.mem (.tail _ (.head _))) 2 _ rfl
  have ls0 := fun ob => cell_alloc (o := ob) s0
  have ls1 := fun ob => cell_alloc (o := ob) s1
  have ls2 := fun ob => cell_alloc (o := ob) s2
  go_wp2_with fail
  clear s0 s1 s2 ls0 ls1 ls2
  have hA11 : Below w10.heap.size w10 (w10.alloc (.cells #[.float .f32 gx, .float .f32 gy, .float .f32 gz] 28)) := (Below.refl _ _).alloc (Nat.le_refl _) _
  have BX11 := Lib.hid (BX10.out.call hA11)
  have HV11 := Lib.hid (HV10.out.below hA11)
  have HT11 := Lib.hid (HT10.out.below hA11)
  have HF11 := Lib.hid (HF10.out.below hA11)
  clear hA11
  generalize (w10.alloc (.cells #[.float .f32 gx, .float .f32 gy, .float .f32 gz] 28)) = W11 at *
  refine (laws_eqVector _ _ _ _ _ _ _ _ _ _ HG.out.1 HG.out.2.1 HG.out.2.2 HSS.out.1 HSS.out.2.1 HSS.out.2.2).mono ?_
  rintro e w12 ⟨rfl, hB12⟩
  have BX12 := Lib.hid (BX11.out.call hB12)
  have HV12 := Lib.hid (HV11.out.below hB12)
  have HT12 := Lib.hid (HT11.out.below hB12)
  have HF12 := Lib.hid (HF11.out.below hB12)
  clear hB12
  go_wp2_with fail
  refine Reg.wp_region_mix (C := fun w' => Below w12.heap.size w12 w') (G := fun w1 w2 => Below w1.heap.size w1 w2) (R := fun i v w' => match i with | 0 => v = .agg #[.slice (some ⟨c, 0, none⟩) pl pl, .slice (some ⟨c', 0, none⟩) tl tl] | 1 => v = .agg #[.slice pa pl pc, .slice ta tl tc] | 2 => ∃ d d', v = .agg #[.slice (some ⟨d, 0, none⟩) pl pl, .slice (some ⟨d', 0, none⟩) tl tl] ∧ IsVs w' (some ⟨d, 0, none⟩) pl pl cs ∧ IsTs w' (some ⟨d', 0, none⟩) tl tl ts | 3 => v = .bool true | 4 => v = .bool false | _ => True) (T := fun _ _ _ => True) [false, false, false, false, false, false, false, false, false, false, false, false, false, false, false, false, false, false, false, false, false, false, false, false, false, false, false, false, false, false, false, false, false, false, false, false, false, false, false, false, false, false, false, false, false, false, false, false, false, true, true, true, true, true, false, false, false, false, false]
    (by kernel_rfl) (by kernel_rfl) (by kernel_rfl) ?_ (below_drewN (Below.refl _ _) 1) ?_ ?_
  · intro j v w1 w2 _ hG hR
    match j with
    | 0 => exact hR
    | 1 => exact hR
    | 2 => obtain ⟨d, d', e, h1, h2⟩ := hR; exact ⟨d, d', e, h1.below hG, h2.below hG⟩
    | 3 => exact hR
    | 4 => exact hR
    | _ + 5 => trivial
  · refine ⟨Reg.Obl.mk ?_, Reg.Obl.mk ?_, Reg.Obl.mk ?_, Reg.Obl.mk ?_, Reg.Obl.mk ?_, trivial⟩
    · rintro a w1 hC hx hd K hK
      have HC := Lib.hid hC
      clear hC
      have y0 := (BX12.out.call HC.out).mem (.head _) 0 _ rfl
      have y1 := (BX12.out.call HC.out).mem (.head _) 1 _ rfl
      have t8 : a.tmps[8]?.getD undef = .pointer (some ⟨X, 0, none⟩) := Reg.slot_val (hx 8 (by kernel_rfl))
      go_simp
      exact hK _ _ (fun _ => rfl) (fun h => by cases h) HC.out (Below.refl _ _)
    · rintro a w1 hC hx hd K hK
      have HC := Lib.hid hC
      clear hC
      have y0 := (BX12.out.call HC.out).mem (.tail _ (.tail _ (.head _))) 0 _ rfl
      have y1 := (BX12.out.call HC.out).mem (.tail _ (.tail _ (.head _))) 1 _ rfl
      have t2 : a.tmps[2]?.getD undef = .pointer (some ⟨w.heap.size, 0, none⟩) := Reg.slot_val (hx 2 (by kernel_rfl))
      go_simp
      exact hK _ _ (fun _ => rfl) (fun h => by cases h) HC.out (Below.refl _ _)
    · rintro a w1 hC hx hd K hK
      have HC := Lib.hid hC
      clear hC
      have t50 : a.tmps[50]?.getD undef = .agg #[.slice pa pl pc, .slice ta tl tc] := Reg.slot_val (hd 1 (by kernel_rfl) 50 rfl)
      go_simp
      refine (laws_toMesh _ _ _ _ _ _ _ _ _ (HP.out.below (BX12.out.call HC.out).bel) (HT.out.below (BX12.out.call HC.out).bel) HS.out).mono ?_
      rintro en w2 ⟨⟨d, d', rfl, hd1, hd2, hV, hT⟩, hB2⟩
      exact hK _ _ (fun _ => ⟨d, d', rfl, hV, hT⟩) (fun h => by cases h) (HC.out.trans (hB2.mono HC.out.size)) hB2
    · rintro a w1 hC hx hd K hK
      have HC := Lib.hid hC
      clear hC
      have t49 : a.tmps[49]?.getD undef = .agg #[.slice (some ⟨c, 0, none⟩) pl pl, .slice (some ⟨c', 0, none⟩) tl tl] := Reg.slot_val (hd 0 (by kernel_rfl) 49 rfl)
      obtain ⟨e, e', g51, hV, hT⟩ := hd 2 (by kernel_rfl) 51 rfl
      have t51 := Reg.slot_val g51
      clear g51
      have HVe := Lib.hid hV
      have HTe := Lib.hid hT
      clear hV hT
      go_simp
      refine (laws_eqMesh _ _ _ _ _ _ _ _ _ _ cs ts _ (HV12.out.below HC.out) (HT12.out.below HC.out) HVe.out HTe.out).mono ?_
      rintro en w2 ⟨rfl, hB2⟩
      exact hK _ _ (fun _ => rfl) (fun h => by cases h) (HC.out.trans (hB2.mono HC.out.size)) hB2
    · rintro a w1 hC hx hd K hK
      have HC := Lib.hid hC
      clear hC
      have t52 : a.tmps[52]?.getD undef = .bool true := Reg.slot_val (hd 3 (by kernel_rfl) 52 rfl)
      go_simp
      exact hK _ _ (fun _ => rfl) (fun h => by cases h) HC.out (Below.refl _ _)
  rintro f w13 hC hd hT
  have g53 : f 53 = .bool false := hd 4 53 rfl
  simp only [Reg.mixL, g53]
  have BX13 := Lib.hid (BX12.out.call hC)
  have HF13 := Lib.hid (HF12.out.below hC)
  clear hC hd hT
  go_wp2_with fail
  refine (laws_toVectorS _ _ _ _ _ (HF.out.below BX13.out.bel) hlen).mono ?_
  rintro e w14 ⟨rfl, hV, hB14, -⟩
  have BX14 := Lib.hid (BX13.out.call hB14)
  have HF14 := Lib.hid (HF13.out.below hB14)
  have HY := Lib.hid hV
  clear hV hB14
  go_wp2_with fail
  refine (laws_eqVectorS _ _ _ _ _ ds _ HF14.out HY.out).mono ?_
  rintro e w15 ⟨rfl, hB15⟩
  have BX15 := Lib.hid (BX14.out.call hB15)
  clear hB15
  go_wp2
  go_ret
  exact ⟨rfl, BX15.out.bel⟩
end Go.Proofs.Ytljpjmkickkcpaa

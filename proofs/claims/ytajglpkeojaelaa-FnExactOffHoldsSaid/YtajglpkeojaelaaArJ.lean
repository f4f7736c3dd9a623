
/-
Which lists are holds of a mesh: the law returns true. Conditions: none beyond that both lie in memory.
-/
import Derived.Test.YtajglpkeojaelaaArI
import Derived.Test.YtajglpkeojaelaaSzm
import Derived.Test.YtajglpkeojaelaaMshO
namespace Go.Proofs.Ytajglpkeojaelaa
open Go Fk Go.RowKit
set_option linter.unusedVariables false
set_option maxRecDepth 8000

theorem spec_AreHolds (pa ta ha : Option Addr) (pl pc tl tc hl hc : Nat) (cs : List C3) (ts : List (List Int)) (hs : List HC) (w : World) (hp : IsVs w pa pl pc cs) (ht : IsTs w ta tl tc ts) (hh : IsHs w ha hl hc hs) :
    Calls Try.prog 37 #[.agg #[.slice pa pl pc, .slice ta tl tc], .slice ha hl hc] w fun e w' => e = .returned (.bool (areB cs ts hs)) ∧ Below w.heap.size w w' := by
  have ui := Try.underlying38
  have BX : Hid (Bx w [(w.heap.size, [.slice pa pl pc, .slice ta tl tc])] (w.alloc (.cells #[.slice pa pl pc, .slice ta tl tc] 38))) := Lib.hid ((Bx.nil w).box (vs := [.slice pa pl pc, .slice ta tl tc]) (t := 38))
  have J := Lib.hid (l04Are w.heap.size pa ta ha pl pc tl tc hl hc cs ts hs (w.alloc (.cells #[.slice pa pl pc, .slice ta tl tc] 38)) ((BX.out.mem (.head _)) 0 _ rfl) ((BX.out.mem (.head _)) 1 _ rfl) (hp.below BX.out.bel) (ht.below BX.out.bel) (hh.below BX.out.bel))
  clear hp ht hh
  generalize areB cs ts hs = v at *
  go_enter Try.func37, Try.ntmps37
  go_wp2_with fail
  refine J.out.mono ?_
  rintro e w1 ⟨rfl, hB1⟩
  have BX1 := Lib.hid (BX.out.call hB1)
  clear hB1
  go_wp2
  go_ret
  exact ⟨rfl, BX1.out.bel⟩
set_option maxHeartbeats 4000000 in
theorem FnExactAreHolds_law (pa ta : Option Addr) (pl pc tl tc : Nat) (cs : List C3) (ts : List (List Int)) (ha : Option Addr) (hl hc : Nat) (hs : List HC) (w : World) (hp : IsVs w pa pl pc cs) (ht : IsTs w ta tl tc ts) (hh : IsHs w ha hl hc hs) :
    Calls Try.prog 7 #[.agg #[.slice pa pl pc, .slice ta tl tc], .slice ha hl hc] w fun e w' => e = .returned (.bool true) ∧ Below w.heap.size w w' := by
  have u := Try.underlying27
  have um := Try.underlying38
  have HPL := Lib.hid hp.1
  have HTL := Lib.hid ht.1
  have hfm : hl ≤ 9223372036854775807 := by have h1 := hh.2.1; have h2 := hh.2.2.1; unfold maxLen at h2; omega
  have HP := Lib.hid hp
  have HT := Lib.hid ht
  have HF := Lib.hid hh
  have BX : Hid (Bx w [(w.heap.size, [.slice pa pl pc, .slice ta tl tc])] (w.alloc (.cells #[.slice pa pl pc, .slice ta tl tc] 25))) := Lib.hid ((Bx.nil w).box (vs := [.slice pa pl pc, .slice ta tl tc]) (t := 25))
  clear hp ht hh
  obtain ⟨nb, hnb⟩ : ∃ nb : Bool, nb = areB cs ts hs := ⟨_, rfl⟩
  have HSP := Lib.hid (fun (pa ta ha : Option Addr) (pc tc hc : Nat) (w : World) (hp : IsVs w pa pl pc cs) (ht : IsTs w ta tl tc ts) (hh : IsHs w ha hl hc hs) => spec_AreHolds pa ta ha pl pc tl tc hl hc cs ts hs w hp ht hh)
  have HIM := Lib.hid (fun (pa ta ha : Option Addr) (pc tc hc : Nat) (w : World) (hp : IsVs w pa pl pc cs) (ht : IsTs w ta tl tc ts) (hh : IsHs w ha hl hc hs) (hsm : hl ≤ 1048576) => impl_AreHolds pa ta ha pl pc tl tc hl hc cs ts hs w hp ht hh hsm)
  rw [← hnb] at HSP HIM
  clear hnb
  go_enter Try.func7, Try.ntmps7
  go_wp2_with fail
  generalize (w.alloc (.cells #[.slice pa pl pc, .slice ta tl tc] 25)) = W at *
  refine (laws_szMeshR _ _ _ _ _ _ _ _ 1048576 _ (HP.out.below BX.out.bel) (HT.out.below BX.out.bel) (by decide) (by decide)).mono ?_
  rintro e w1 ⟨⟨r, rfl, hr⟩, hB1⟩
  have BX1 := Lib.hid (BX.out.call hB1)
  clear hB1
  rcases hr with rfl | ⟨hr0, hr1, s1, s2, s3⟩
  · go_wp2
    go_ret
    exact ⟨rfl, BX1.out.bel⟩
  have hS : Small cs ts := ⟨by rw [HPL.out]; exact s1, by rw [HTL.out]; exact s2, by rw [HTL.out]; exact s3⟩
  have HS := Lib.hid hS
  clear s1 s2 s3 hS
  go_wp2_with fail
  refine (laws_szHoldS _ _ _ _ _ hr0 hr1 hfm).mono ?_
  rintro e w2 ⟨⟨r', rfl, hr'⟩, hw2⟩
  rw [hw2]
  clear hw2 w2
  rcases hr' with rfl | ⟨hr2, hr3, hlen⟩
  · go_wp2
    go_ret
    exact ⟨rfl, BX1.out.bel⟩
  have a0 := (BX1.out.mem (.head _)) 0 _ rfl
  have a1 := (BX1.out.mem (.head _)) 1 _ rfl
  go_wp2_with fail
  clear a0 a1
  refine (laws_toMesh _ _ _ _ _ _ _ _ _ (HP.out.below BX1.out.bel) (HT.out.below BX1.out.bel) HS.out).mono ?_
  rintro e w3 ⟨⟨b, b', rfl, hb, hb', hV, hT⟩, hB3⟩
  have BX3 := Lib.hid (BX1.out.call hB3)
  have HV3 := Lib.hid hV
  have HT3 := Lib.hid hT
  clear hV hT hB3 hb hb'
  go_wp2_with fail
  refine (laws_toHoldS _ _ _ _ _ (HF.out.below BX3.out.bel) hlen).mono ?_
  rintro e w4 ⟨rfl, hV, hB4⟩
  have BX4 := Lib.hid (BX3.out.call hB4)
  have HV4 := Lib.hid (HV3.out.below hB4)
  have HT4 := Lib.hid (HT3.out.below hB4)
  have HF4 := Lib.hid hV
  clear hV hB4
  go_wp2_with fail
  refine (HSP.out _ _ _ _ _ _ _ HV4.out HT4.out HF4.out).mono ?_
  rintro e w5 ⟨rfl, hB5⟩
  have BX6 := Lib.hid (BX4.out.call hB5)
  clear hB5
  have a0 := (BX6.out.mem (.head _)) 0 _ rfl
  have a1 := (BX6.out.mem (.head _)) 1 _ rfl
  go_wp2_with fail
  clear a0 a1
  refine (laws_toMesh _ _ _ _ _ _ _ _ _ (HP.out.below BX6.out.bel) (HT.out.below BX6.out.bel) HS.out).mono ?_
  rintro e w7 ⟨⟨c, c', rfl, hc, hc', hV, hT⟩, hB7⟩
  have BX7 := Lib.hid (BX6.out.call hB7)
  have hA7 : Below w7.heap.size w7 (w7.alloc (.cells #[.slice (some ⟨c, 0, none⟩) pl pl, .slice (some ⟨c', 0, none⟩) tl tl] 38)) := (Below.refl _ _).alloc (Nat.le_refl _) _
  have HV7 := Lib.hid (hV.below hA7)
  have HT7 := Lib.hid (hT.below hA7)
  have BX8 := Lib.hid (BX7.out.box (vs := [.slice (some ⟨c, 0, none⟩) pl pl, .slice (some ⟨c', 0, none⟩) tl tl]) (t := 38))
  clear hV hT hB7 hc hc' hA7
  go_wp2_with fail
  change Hid (Bx w _ (w7.alloc (.cells #[.slice (some ⟨c, 0, none⟩) pl pl, .slice (some ⟨c', 0, none⟩) tl tl] 38))) at BX8
  generalize (w7.alloc (.cells #[.slice (some ⟨c, 0, none⟩) pl pl, .slice (some ⟨c', 0, none⟩) tl tl] 38)) = W8 at *
  generalize w7.heap.size = X at *
  refine (laws_toHoldS _ _ _ _ _ (HF.out.below BX8.out.bel) hlen).mono ?_
  rintro e w9 ⟨rfl, hV, hB9⟩
  have BX9 := Lib.hid (BX8.out.call hB9)
  have HV9 := Lib.hid (HV7.out.below hB9)
  have HT9 := Lib.hid (HT7.out.below hB9)
  have HF9 := Lib.hid hV
  clear hV hB9
  generalize W8.heap.size = Y at *
  have x0 := (BX9.out.mem (.head _)) 0 _ rfl
  have x1 := (BX9.out.mem (.head _)) 1 _ rfl
  go_wp2_with fail
  clear x0 x1
  refine (HIM.out _ _ _ _ _ _ _ HV9.out HT9.out HF9.out hlen).mono ?_
  rintro e w10 ⟨rfl, hB10⟩
  have BX10 := Lib.hid (BX9.out.call hB10)
  have HV10 := Lib.hid (HV9.out.below hB10)
  have HT10 := Lib.hid (HT9.out.below hB10)
  have HF10 := Lib.hid (HF9.out.below hB10)
  clear hB10
  have hb1 : (nb == nb) = true := by simp
  have hb2 : (nb != nb) = false := by simp
  go_wp2_with fail
  have BX12 := BX10
  have HV12 := HV10
  have HT12 := HT10
  have HF12 := HF10
  refine Reg.wp_region_mix (C := fun w' => Below w10.heap.size w10 w') (G := fun w1 w2 => Below w1.heap.size w1 w2) (R := fun i v w' => match i with | 0 => v = .agg #[.slice (some ⟨c, 0, none⟩) pl pl, .slice (some ⟨c', 0, none⟩) tl tl] | 1 => v = .agg #[.slice pa pl pc, .slice ta tl tc] | 2 => ∃ d d', v = .agg #[.slice (some ⟨d, 0, none⟩) pl pl, .slice (some ⟨d', 0, none⟩) tl tl] ∧ IsVs w' (some ⟨d, 0, none⟩) pl pl cs ∧ IsTs w' (some ⟨d', 0, none⟩) tl tl ts | 3 => v = .bool true | 4 => v = .bool false | _ => True) (T := fun _ _ _ => True) [false, false, false, false, false, false, false, false, false, false, false, false, false, false, false, false, false, false, false, false, false, false, false, false, false, false, false, false, false, false, false, false, false, false, false, true, true, true, true, true, false, false, false, false, false]
    (by kernel_rfl) (by kernel_rfl) (by kernel_rfl) ?_ (below_drewN (Below.refl _ _) 1) ?_ ?_
  · intro j v w1 w2 _ hG hR
    match j with
    | 0 => exact hR
    | 1 => exact hR
    | 2 => obtain ⟨d, d', e, h1, h2⟩ := hR; exact ⟨d, d', e, h1.below hG, h2.below hG⟩
    | 3 => exact hR
    | 4 => exact hR
    | _ + 5 => trivial
  · refine ⟨Reg.Obl.mk ?_, Reg.Obl.mk ?_, Reg.Obl.mk ?_, Reg.Obl.mk ?_, Reg.Obl.mk ?_, trivial⟩
    · rintro a w1 hC hx hd K hK
      have HC := Lib.hid hC
      clear hC
      have y0 := (BX12.out.call HC.out).mem (.head _) 0 _ rfl
      have y1 := (BX12.out.call HC.out).mem (.head _) 1 _ rfl
      have t7 : a.tmps[7]?.getD undef = .pointer (some ⟨X, 0, none⟩) := Reg.slot_val (hx 7 (by kernel_rfl))
      go_simp
      exact hK _ _ (fun _ => rfl) (fun h => by cases h) HC.out (Below.refl _ _)
    · rintro a w1 hC hx hd K hK
      have HC := Lib.hid hC
      clear hC
      have y0 := (BX12.out.call HC.out).mem (.tail _ (.head _)) 0 _ rfl
      have y1 := (BX12.out.call HC.out).mem (.tail _ (.head _)) 1 _ rfl
      have t2 : a.tmps[2]?.getD undef = .pointer (some ⟨w.heap.size, 0, none⟩) := Reg.slot_val (hx 2 (by kernel_rfl))
      go_simp
      exact hK _ _ (fun _ => rfl) (fun h => by cases h) HC.out (Below.refl _ _)
    · rintro a w1 hC hx hd K hK
      have HC := Lib.hid hC
      clear hC
      have t36 : a.tmps[36]?.getD undef = .agg #[.slice pa pl pc, .slice ta tl tc] := Reg.slot_val (hd 1 (by kernel_rfl) 36 rfl)
      go_simp
      refine (laws_toMesh _ _ _ _ _ _ _ _ _ (HP.out.below (BX12.out.call HC.out).bel) (HT.out.below (BX12.out.call HC.out).bel) HS.out).mono ?_
      rintro en w2 ⟨⟨d, d', rfl, hd1, hd2, hV, hT⟩, hB2⟩
      exact hK _ _ (fun _ => ⟨d, d', rfl, hV, hT⟩) (fun h => by cases h) (HC.out.trans (hB2.mono HC.out.size)) hB2
    · rintro a w1 hC hx hd K hK
      have HC := Lib.hid hC
      clear hC
      have t35 : a.tmps[35]?.getD undef = .agg #[.slice (some ⟨c, 0, none⟩) pl pl, .slice (some ⟨c', 0, none⟩) tl tl] := Reg.slot_val (hd 0 (by kernel_rfl) 35 rfl)
      obtain ⟨e, e', g37, hV, hT⟩ := hd 2 (by kernel_rfl) 37 rfl
      have t37 := Reg.slot_val g37
      clear g37
      have HVe := Lib.hid hV
      have HTe := Lib.hid hT
      clear hV hT
      go_simp
      refine (laws_eqMesh _ _ _ _ _ _ _ _ _ _ cs ts _ (HV12.out.below HC.out) (HT12.out.below HC.out) HVe.out HTe.out).mono ?_
      rintro en w2 ⟨rfl, hB2⟩
      exact hK _ _ (fun _ => rfl) (fun h => by cases h) (HC.out.trans (hB2.mono HC.out.size)) hB2
    · rintro a w1 hC hx hd K hK
      have HC := Lib.hid hC
      clear hC
      have t38 : a.tmps[38]?.getD undef = .bool true := Reg.slot_val (hd 3 (by kernel_rfl) 38 rfl)
      go_simp
      exact hK _ _ (fun _ => rfl) (fun h => by cases h) HC.out (Below.refl _ _)
  rintro f w13 hC hd hT
  have g39 : f 39 = .bool false := hd 4 39 rfl
  simp only [Reg.mixL, g39]
  have BX13 := Lib.hid (BX12.out.call hC)
  have HF13 := Lib.hid (HF12.out.below hC)
  clear hC hd hT
  go_wp2_with fail
  refine (laws_toHoldS _ _ _ _ _ (HF.out.below BX13.out.bel) hlen).mono ?_
  rintro e w14 ⟨rfl, hV, hB14⟩
  have BX14 := Lib.hid (BX13.out.call hB14)
  have HF14 := Lib.hid (HF13.out.below hB14)
  have HY := Lib.hid hV
  clear hV hB14
  go_wp2_with fail
  refine (laws_eqHoldS _ _ _ _ _ hs _ HF14.out HY.out).mono ?_
  rintro e w15 ⟨rfl, hB15⟩
  have BX15 := Lib.hid (BX14.out.call hB15)
  clear hB15
  go_wp2
  go_ret
  exact ⟨rfl, BX15.out.bel⟩
end Go.Proofs.Ytajglpkeojaelaa


/-
The places that are not held: the law returns true. Conditions: none beyond that both lie in memory.
-/
import Derived.Test.YtajglpkeojaelaaFpB
import Derived.Test.YtajglpkeojaelaaFpC
import Derived.Test.YtajglpkeojaelaaSzm
import Derived.Test.YtajglpkeojaelaaMshO
namespace Go.Proofs.Ytajglpkeojaelaa
open Go Fk Go.RowKit
set_option linter.unusedVariables false
set_option maxRecDepth 16000

theorem frO_len (cs : List C3) (ts : List (List Int)) (hs : List HC) : (frO cs ts hs).length ≤ cs.length := by
  unfold frO
  cases areB cs ts hs
  · exact Nat.zero_le _
  · exact frL_len _ _
theorem frO_wf (cs : List C3) (ts : List (List Int)) (hs : List HC) (h : cs.length ≤ 1048576) : ∀ z ∈ frO cs ts hs, (Lit.int .i64 z).wf = true := by
  unfold frO
  cases areB cs ts hs
  · intro z hz; cases hz
  · exact frL_wf _ _ h
theorem Bx.mem_lt {w w' : World} {L : List (Nat × List Value)} {b : Nat} {l : List Value} (h : Bx w L w') (hm : (b, l) ∈ L) : b < w'.heap.size := (h.2 b l hm).2.2.1
/-- Boxes below what is marked stay. -/
theorem Bx.mark {w w1 w2 : World} {L : List (Nat × List Value)} {lo hi : Nat} (h : Bx w L w1) (hM : Mark lo hi w1 w2) (hl : w.heap.size ≤ lo) (ho : ∀ b l, (b, l) ∈ L → b < lo) : Bx w L w2 :=
  ⟨h.1.trans (hM.below.mono hl), fun b l hm => ⟨fun i v hv => hM.cell (.inl (ho b l hm)) ((h.2 b l hm).1 i v hv), fun i => by rw [hM.frozen _ _ (h.2 b l hm).2.2.1]; exact (h.2 b l hm).2.1 i, Nat.lt_of_lt_of_le (h.2 b l hm).2.2.1 hM.below.size, (h.2 b l hm).2.2.2⟩⟩
theorem hold_lt {w w' : World} {len : Nat} {hs : List HC} (ho : ∀ lo hi, lo ≤ w.heap.size → w.heap.size < hi → Own lo hi w' w.heap.size 0 (len * 8)) (hh : IsHs w' (some ⟨w.heap.size, 0, none⟩) len len hs) : w.heap.size < w'.heap.size := (ho 0 (w.heap.size + 1) (Nat.zero_le _) (Nat.lt_succ_self _)).2.2.1
set_option maxHeartbeats 8000000 in
theorem FnExactFreePlaces_law (pa ta : Option Addr) (pl pc tl tc : Nat) (cs : List C3) (ts : List (List Int)) (ha : Option Addr) (hl hc : Nat) (hs : List HC) (w : World) (hp : IsVs w pa pl pc cs) (ht : IsTs w ta tl tc ts) (hh : IsHs w ha hl hc hs) :
    Calls Try.prog 9 #[.agg #[.slice pa pl pc, .slice ta tl tc], .slice ha hl hc] w fun e w' => e = .returned (.bool true) ∧ Below w.heap.size w w' := by
  have u := Try.underlying27
  have um := Try.underlying38
  have HPL := Lib.hid hp.1
  have HTL := Lib.hid ht.1
  have hfm : hl ≤ 9223372036854775807 := by have h1 := hh.2.1; have h2 := hh.2.2.1; unfold maxLen at h2; omega
  have HP := Lib.hid hp
  have HT := Lib.hid ht
  have HF := Lib.hid hh
  have BX : Hid (Bx w [(w.heap.size, [.slice pa pl pc, .slice ta tl tc])] (w.alloc (.cells #[.slice pa pl pc, .slice ta tl tc] 25))) := Lib.hid ((Bx.nil w).box (vs := [.slice pa pl pc, .slice ta tl tc]) (t := 25))
  clear hp ht hh
  obtain ⟨nb, hnb⟩ : ∃ nb : Bool, nb = areB cs ts hs := ⟨_, rfl⟩
  have HSP := Lib.hid (fun (pa ta ha : Option Addr) (pc tc hc : Nat) (w : World) (hp : IsVs w pa pl pc cs) (ht : IsTs w ta tl tc ts) (hh : IsHs w ha hl hc hs) (hb : hl ≤ 1048576 ∧ pl ≤ 1048576) => spec_FreePlaces pa ta ha pl pc tl tc hl hc cs ts hs w hp ht hh hb)
  have HIM := Lib.hid (fun (pa ta ha : Option Addr) (pc tc hc : Nat) (w : World) (hp : IsVs w pa pl pc cs) (ht : IsTs w ta tl tc ts) (hh : IsHs w ha hl hc hs) (hb : hl ≤ 1048576 ∧ pl ≤ 1048576) => impl_FreePlaces pa ta ha pl pc tl tc hl hc cs ts hs w hp ht hh hb)
  obtain ⟨LL, hLL⟩ : ∃ L : List Int, L = frO cs ts hs := ⟨_, rfl⟩
  have hwf : (cs.length ≤ 1048576) → ∀ z ∈ LL, (Lit.int .i64 z).wf = true := fun h => by rw [hLL]; exact frO_wf cs ts hs h
  have hll : LL.length ≤ cs.length := by rw [hLL]; exact frO_len cs ts hs
  rw [← hnb, ← hLL] at HSP HIM
  clear hnb hLL
  go_enter Try.func9, Try.ntmps9
  go_wp2_with fail
  generalize (w.alloc (.cells #[.slice pa pl pc, .slice ta tl tc] 25)) = W at *
  refine (laws_szMeshR _ _ _ _ _ _ _ _ 1048576 _ (HP.out.below BX.out.bel) (HT.out.below BX.out.bel) (by decide) (by decide)).mono ?_
  rintro e w1 ⟨⟨r, rfl, hr⟩, hB1⟩
  have BX1 := Lib.hid (BX.out.call hB1)
  clear hB1
  rcases hr with rfl | ⟨hr0, hr1, s1, s2, s3⟩
  · go_wp2
    go_ret
    exact ⟨rfl, BX1.out.bel⟩
  have hS : Small cs ts := ⟨by rw [HPL.out]; exact s1, by rw [HTL.out]; exact s2, by rw [HTL.out]; exact s3⟩
  have HS := Lib.hid hS
  have HWF := Lib.hid (hwf (by rw [HPL.out]; exact s1))
  have hln : LL.length ≤ 1048576 := by have h := HPL.out; omega
  have hs1 := s1
  clear s1 s2 s3 hS hwf hll
  go_wp2_with fail
  refine (laws_szHoldS _ _ _ _ _ hr0 hr1 hfm).mono ?_
  rintro e w2 ⟨⟨r', rfl, hr'⟩, hw2⟩
  rw [hw2]
  clear hw2 w2
  rcases hr' with rfl | ⟨hr2, hr3, hlen⟩
  · go_wp2
    go_ret
    exact ⟨rfl, BX1.out.bel⟩
  have a0 := (BX1.out.mem (.head _)) 0 _ rfl
  have a1 := (BX1.out.mem (.head _)) 1 _ rfl
  go_wp2_with fail
  clear a0 a1
  refine (laws_toMesh _ _ _ _ _ _ _ _ _ (HP.out.below BX1.out.bel) (HT.out.below BX1.out.bel) HS.out).mono ?_
  rintro e w3 ⟨⟨b, b', rfl, hb, hb', hV, hT⟩, hB3⟩
  have BX3 := Lib.hid (BX1.out.call hB3)
  have HV3 := Lib.hid hV
  have HT3 := Lib.hid hT
  clear hV hT hB3 hb hb'
  go_wp2_with fail
  refine (laws_toHoldS _ _ _ _ _ (HF.out.below BX3.out.bel) hlen).mono ?_
  rintro e w4 ⟨rfl, hV, hB4⟩
  have BX4 := Lib.hid (BX3.out.call hB4)
  have HV4 := Lib.hid (HV3.out.below hB4)
  have HT4 := Lib.hid (HT3.out.below hB4)
  have HF4 := Lib.hid hV
  clear hV hB4
  go_wp2_with fail
  refine (HSP.out _ _ _ _ _ _ _ HV4.out HT4.out HF4.out ⟨hlen, hs1⟩).mono ?_
  rintro e w5 ⟨sv, rfl, hso, hB5⟩
  obtain ⟨sa, sc, rfl, hsi, hsl⟩ := owns_list hso HWF.out
  have SI5 := Lib.hid hsi
  have SL := Lib.hid hsl
  have BX6 := Lib.hid (BX4.out.call hB5)
  have LT5 := Lib.hid (BX6.out.mem_lt (.head _))
  clear hB5 hso hsi hsl
  generalize hn : LL.length = n at *
  have HLN := Lib.hid hn
  clear hn
  have a0 := (BX6.out.mem (.head _)) 0 _ rfl
  have a1 := (BX6.out.mem (.head _)) 1 _ rfl
  go_wp2_with fail
  clear a0 a1
  refine (laws_toMesh' _ _ _ _ _ _ _ _ _ (HP.out.below BX6.out.bel) (HT.out.below BX6.out.bel) HS.out).mono ?_
  rintro e w7 ⟨⟨c, c', rfl, hc, hc', hV, hT, hi7, hhi7, hO7⟩, hB7⟩
  have BX7 := Lib.hid (BX6.out.call hB7)
  have HI7 := Lib.hid hhi7
  have S57 := Lib.hid hB7.size
  have SI7 := Lib.hid (SI5.out.below hB7)
  clear hhi7
  have hA7 : Below w7.heap.size w7 (w7.alloc (.cells #[.slice (some ⟨c, 0, none⟩) pl pl, .slice (some ⟨c', 0, none⟩) tl tl] 38)) := (Below.refl _ _).alloc (Nat.le_refl _) _
  have HV7 := Lib.hid (hV.below hA7)
  have HT7 := Lib.hid (hT.below hA7)
  have HO8 := Lib.hid (hO7.below hA7)
  have SI8 := Lib.hid (SI7.out.below hA7)
  have S78 := Lib.hid hA7.size
  have BX8 := Lib.hid (BX7.out.box (vs := [.slice (some ⟨c, 0, none⟩) pl pl, .slice (some ⟨c', 0, none⟩) tl tl]) (t := 38))
  clear hV hT hB7 hc hc' hA7 hO7
  go_wp2_with fail
  change Hid (Bx w _ (w7.alloc (.cells #[.slice (some ⟨c, 0, none⟩) pl pl, .slice (some ⟨c', 0, none⟩) tl tl] 38))) at BX8
  generalize (w7.alloc (.cells #[.slice (some ⟨c, 0, none⟩) pl pl, .slice (some ⟨c', 0, none⟩) tl tl] 38)) = W8 at *
  generalize w7.heap.size = X at *
  refine (laws_toHoldSO _ _ _ _ _ (HF.out.below BX8.out.bel) hlen).mono ?_
  rintro e w9 ⟨rfl, hV, hB9, hOH⟩
  have HOH9 := Lib.hid hOH
  have HO9 := Lib.hid (HO8.out.below hB9)
  have SI9 := Lib.hid (SI8.out.below hB9)
  have S89 := Lib.hid hB9.size
  have LT89 : Hid (W8.heap.size < w9.heap.size) := Lib.hid (hold_lt hOH hV)
  clear hOH
  have BX9 := Lib.hid (BX8.out.call hB9)
  have HV9 := Lib.hid (HV7.out.below hB9)
  have HT9 := Lib.hid (HT7.out.below hB9)
  have HF9 := Lib.hid hV
  clear hV hB9
  generalize W8.heap.size = Y at *
  have x0 := (BX9.out.mem (.head _)) 0 _ rfl
  have x1 := (BX9.out.mem (.head _)) 1 _ rfl
  go_wp2_with fail
  clear x0 x1
  refine (HIM.out _ _ _ _ _ _ _ HV9.out HT9.out HF9.out ⟨hlen, hs1⟩).mono ?_
  rintro e w10 ⟨gv, rfl, hgo, hB10⟩
  rw [← HLN.out] at hgo
  obtain ⟨ga, gc, rfl, hgi, hgl⟩ := owns_list hgo HWF.out
  rw [HLN.out] at hgi hgl ⊢
  have GI := Lib.hid hgi
  have GL := Lib.hid hgl
  have SI10 := Lib.hid (SI9.out.below hB10)
  have HO10 := Lib.hid (HO9.out.below hB10)
  have HOH10 : Hid (∀ lo hi, lo ≤ Y → Y < hi → Own lo hi w10 Y 0 (hl * 8)) := Lib.hid (fun lo hi h1 h2 => (HOH9.out lo hi h1 h2).below hB10)
  have S910 := Lib.hid hB10.size
  clear hgo hgi hgl
  have BX10 := Lib.hid (BX9.out.call hB10)
  have HV10 := Lib.hid (HV9.out.below hB10)
  have HT10 := Lib.hid (HT9.out.below hB10)
  have HF10 := Lib.hid (HF9.out.below hB10)
  clear hB10
  have hb1 : (nb == nb) = true := by simp
  have hb2 : (nb != nb) = false := by simp
  go_wp2_with fail
  refine (laws_eqInt64S _ _ _ _ _ _ _ GI.out SI10.out).mono ?_
  rintro en w12 ⟨rfl, n12, hw12⟩
  have hB12 : Below w10.heap.size w10 w12 := by rw [hw12]; exact below_drewN (Below.refl _ _) _
  have BX12 := Lib.hid (BX10.out.call hB12)
  have HV12 := Lib.hid (HV10.out.below hB12)
  have HT12 := Lib.hid (HT10.out.below hB12)
  have HF12 := Lib.hid (HF10.out.below hB12)
  have SI12 := Lib.hid (SI10.out.below hB12)
  have GI12 := Lib.hid (GI.out.below hB12)
  have GL12 := Lib.hid (GL.out.below hB12)
  have HO12 := Lib.hid (HO10.out.below hB12)
  have HOH12 : Hid (∀ lo hi, lo ≤ Y → Y < hi → Own lo hi w12 Y 0 (hl * 8)) := Lib.hid (fun lo hi h1 h2 => (HOH10.out lo hi h1 h2).below hB12)
  have S1012 := Lib.hid hB12.size
  clear hB12 hw12
  go_wp2_with fail
  refine Reg.wp_region_mix (C := fun w' => Below w12.heap.size w12 w') (G := fun w1 w2 => Below w1.heap.size w1 w2) (R := fun i v w' => match i with | 0 => v = .agg #[.slice (some ⟨c, 0, none⟩) pl pl, .slice (some ⟨c', 0, none⟩) tl tl] | 1 => v = .agg #[.slice pa pl pc, .slice ta tl tc] | 2 => ∃ d d', v = .agg #[.slice (some ⟨d, 0, none⟩) pl pl, .slice (some ⟨d', 0, none⟩) tl tl] ∧ IsVs w' (some ⟨d, 0, none⟩) pl pl cs ∧ IsTs w' (some ⟨d', 0, none⟩) tl tl ts | 3 => v = .bool true | 4 => v = .bool false | _ => True) (T := fun _ _ _ => True) [false, false, false, false, false, false, false, false, false, false, false, false, false, false, false, false, false, false, false, false, false, false, false, false, false, false, false, false, false, false, false, false, false, false, false, false, false, false, false, false, false, false, false, false, false, false, false, false, false, false, false, false, false, false, true, true, true, true, true, false, false, false, false, false, false, false, false, false, false, false, false, false, false, false, false, false, false, false, false, false, false, false, false, false, false, false, false, false, false, false, false, false, false, false, false, false, false, false, false, false, false, false, false, false, false, false, false, false, false, false, false, false, false, false, false, false, false, false, false]
    (by kernel_rfl) (by kernel_rfl) (by kernel_rfl) ?_ (below_drewN (Below.refl _ _) 1) ?_ ?_
  · intro j v w1 w2 _ hG hR
    match j with
    | 0 => exact hR
    | 1 => exact hR
    | 2 => obtain ⟨d, d', e, h1, h2⟩ := hR; exact ⟨d, d', e, h1.below hG, h2.below hG⟩
    | 3 => exact hR
    | 4 => exact hR
    | _ + 5 => trivial
  · refine ⟨Reg.Obl.mk ?_, Reg.Obl.mk ?_, Reg.Obl.mk ?_, Reg.Obl.mk ?_, Reg.Obl.mk ?_, trivial⟩
    · rintro a w1 hC hx hd K hK
      have HC := Lib.hid hC
      clear hC
      have y0 := (BX12.out.call HC.out).mem (.head _) 0 _ rfl
      have y1 := (BX12.out.call HC.out).mem (.head _) 1 _ rfl
      have t8 : a.tmps[8]?.getD undef = .pointer (some ⟨X, 0, none⟩) := Reg.slot_val (hx 8 (by kernel_rfl))
      go_simp
      exact hK _ _ (fun _ => rfl) (fun h => by cases h) HC.out (Below.refl _ _)
    · rintro a w1 hC hx hd K hK
      have HC := Lib.hid hC
      clear hC
      have y0 := (BX12.out.call HC.out).mem (.tail _ (.head _)) 0 _ rfl
      have y1 := (BX12.out.call HC.out).mem (.tail _ (.head _)) 1 _ rfl
      have t2 : a.tmps[2]?.getD undef = .pointer (some ⟨w.heap.size, 0, none⟩) := Reg.slot_val (hx 2 (by kernel_rfl))
      go_simp
      exact hK _ _ (fun _ => rfl) (fun h => by cases h) HC.out (Below.refl _ _)
    · rintro a w1 hC hx hd K hK
      have HC := Lib.hid hC
      clear hC
      have t55 : a.tmps[55]?.getD undef = .agg #[.slice pa pl pc, .slice ta tl tc] := Reg.slot_val (hd 1 (by kernel_rfl) 55 rfl)
      go_simp
      refine (laws_toMesh _ _ _ _ _ _ _ _ _ (HP.out.below (BX12.out.call HC.out).bel) (HT.out.below (BX12.out.call HC.out).bel) HS.out).mono ?_
      rintro en w2 ⟨⟨d, d', rfl, hd1, hd2, hV, hT⟩, hB2⟩
      exact hK _ _ (fun _ => ⟨d, d', rfl, hV, hT⟩) (fun h => by cases h) (HC.out.trans (hB2.mono HC.out.size)) hB2
    · rintro a w1 hC hx hd K hK
      have HC := Lib.hid hC
      clear hC
      have t54 : a.tmps[54]?.getD undef = .agg #[.slice (some ⟨c, 0, none⟩) pl pl, .slice (some ⟨c', 0, none⟩) tl tl] := Reg.slot_val (hd 0 (by kernel_rfl) 54 rfl)
      obtain ⟨e, e', g56, hV, hT⟩ := hd 2 (by kernel_rfl) 56 rfl
      have t56 := Reg.slot_val g56
      clear g56
      have HVe := Lib.hid hV
      have HTe := Lib.hid hT
      clear hV hT
      go_simp
      refine (laws_eqMesh _ _ _ _ _ _ _ _ _ _ cs ts _ (HV12.out.below HC.out) (HT12.out.below HC.out) HVe.out HTe.out).mono ?_
      rintro en w2 ⟨rfl, hB2⟩
      exact hK _ _ (fun _ => rfl) (fun h => by cases h) (HC.out.trans (hB2.mono HC.out.size)) hB2
    · rintro a w1 hC hx hd K hK
      have HC := Lib.hid hC
      clear hC
      have t57 : a.tmps[57]?.getD undef = .bool true := Reg.slot_val (hd 3 (by kernel_rfl) 57 rfl)
      go_simp
      exact hK _ _ (fun _ => rfl) (fun h => by cases h) HC.out (Below.refl _ _)
  rintro f w13 hC hd hT
  have g58 : f 58 = .bool false := hd 4 58 rfl
  simp only [Reg.mixL, g58]
  have BX13 := Lib.hid (BX12.out.call hC)
  have HF13 := Lib.hid (HF12.out.below hC)
  have SI13 := Lib.hid (SI12.out.below hC)
  have GI13 := Lib.hid (GI12.out.below hC)
  have GL13 := Lib.hid (GL12.out.below hC)
  have HO13 := Lib.hid (HO12.out.below hC)
  have HOH13 : Hid (∀ lo hi, lo ≤ Y → Y < hi → Own lo hi w13 Y 0 (hl * 8)) := Lib.hid (fun lo hi h1 h2 => (HOH12.out lo hi h1 h2).below hC)
  have S1213 := Lib.hid hC.size
  clear hC hd hT
  go_wp2_with fail
  refine (laws_toHoldS _ _ _ _ _ (HF.out.below BX13.out.bel) hlen).mono ?_
  rintro e w14 ⟨rfl, hV, hB14⟩
  have BX14 := Lib.hid (BX13.out.call hB14)
  have HF14 := Lib.hid (HF13.out.below hB14)
  have SI14 := Lib.hid (SI13.out.below hB14)
  have GI14 := Lib.hid (GI13.out.below hB14)
  have GL14 := Lib.hid (GL13.out.below hB14)
  have HO14 := Lib.hid (HO13.out.below hB14)
  have HOH14 : Hid (∀ lo hi, lo ≤ Y → Y < hi → Own lo hi w14 Y 0 (hl * 8)) := Lib.hid (fun lo hi h1 h2 => (HOH13.out lo hi h1 h2).below hB14)
  have S1314 := Lib.hid hB14.size
  have HY := Lib.hid hV
  clear hV hB14
  go_wp2_with fail
  refine (laws_eqHoldS _ _ _ _ _ hs _ HF14.out HY.out).mono ?_
  rintro e w15 ⟨rfl, hB15⟩
  have BX15 := Lib.hid (BX14.out.call hB15)
  have SI15 := Lib.hid (SI14.out.below hB15)
  have GI15 := Lib.hid (GI14.out.below hB15)
  have GL15 := Lib.hid (GL14.out.below hB15)
  have HO15 := Lib.hid (HO14.out.below hB15)
  have HOH15 : Hid (∀ lo hi, lo ≤ Y → Y < hi → Own lo hi w15 Y 0 (hl * 8)) := Lib.hid (fun lo hi h1 h2 => (HOH14.out lo hi h1 h2).below hB15)
  have S1415 := Lib.hid hB15.size
  clear hB15
  have LT5 := LT5.out
  have s57 := S57.out
  have s78 := S78.out
  have s89 := S89.out
  have s910 := S910.out
  have s1012 := S1012.out
  have s1213 := S1213.out
  have s1314 := S1314.out
  have s1415 := S1415.out
  have shi := HI7.out
  have lt89 := LT89.out
  have SZ := Lib.hid (And.intro LT5 (And.intro s57 (And.intro s78 (And.intro s89 (And.intro s910 (And.intro s1012 (And.intro s1213 (And.intro s1314 (And.intro s1415 (And.intro shi lt89))))))))))
  have SM := Lib.hid HS.out
  clear s57 s78 s89 s910 s1012 s1213 s1314 s1415 shi LT5 lt89
  have x0 := (BX15.out.mem (.head _)) 0 _ rfl
  have x1 := (BX15.out.mem (.head _)) 1 _ rfl
  go_wp2_with fail
  clear x0 x1
  refine (laws_markMeshR w5.heap.size hi7 c 0 c' 0 pl pl tl tl ts 1 w15 HO15.out (by have h := SZ.out; omega) (by rw [← HPL.out]; exact SM.out.1) (by rw [← HTL.out]; exact SM.out.2.1) (fun j hj => SM.out.2.2 j (by rw [HTL.out]; exact hj)) (by decide)).mono ?_
  rintro e w16 ⟨z, hz, rfl, hM⟩
  have BX16 := Lib.hid (BX15.out.drop.mark hM (by have h := SZ.out; omega) (fun b l hm => by simp at hm; have h := SZ.out; omega))
  have SI16 := Lib.hid (is_mark SI15.out SL.out hM (.inl (Nat.le_refl _)))
  have GI16 := Lib.hid (is_mark GI15.out GL.out hM (.inr (by have h := SZ.out; omega)))
  have GL16 := Lib.hid (GL15.out.mark hM)
  have HOH16 := Lib.hid ((HOH15.out Y w9.heap.size (Nat.le_refl _) (by have h := SZ.out; omega)).mark hM)
  clear hM
  go_wp2_with fail
  refine (laws_markHoldS Y w9.heap.size Y 0 hl hl z w16 HOH16.out (by omega)).mono ?_
  rintro e w17 ⟨rfl, hM⟩
  have hz0 : ¬ (((z + hl * 8 : Nat) : Int) < 0) := by omega
  have BX17 := Lib.hid (BX16.out.mark hM (by have h := SZ.out; omega) (fun b l hm => by simp at hm; have h := SZ.out; omega))
  have SI17 := Lib.hid (is_mark SI16.out SL.out hM (.inl (by have h := SZ.out; omega)))
  have GI17 := Lib.hid (is_mark GI16.out GL.out hM (.inr (Nat.le_refl _)))
  have GL17 := Lib.hid (GL16.out.mark hM)
  clear hM
  generalize z + hl * 8 = zz at *
  go_wp2_with fail
  refine (laws_eqInt64S _ _ _ _ _ _ _ GI17.out SI17.out).mono ?_
  rintro en w18 ⟨rfl, n18, hw18⟩
  have hB18 : Below w17.heap.size w17 w18 := by rw [hw18]; exact below_drewN (Below.refl _ _) _
  have BX18 := Lib.hid (BX17.out.call hB18)
  have SI18 := Lib.hid (SI17.out.below hB18)
  have GL18 := Lib.hid (GL17.out.below hB18)
  clear hB18 hw18
  go_wp2_with fail
  refine (mark_any w9.heap.size w10.heap.size ga n gc w18 GL18.out (by omega)).mono ?_
  rintro e w19 ⟨rfl, hmk, hM⟩
  have BX19 := Lib.hid (BX18.out.mark hM (by have h := SZ.out; omega) (fun b l hm => by simp at hm; have h := SZ.out; omega))
  have SI19 := Lib.hid (is_mark SI18.out SL.out hM (.inl (by have h := SZ.out; omega)))
  have MK19 := Lib.hid hmk
  clear hmk hM
  go_wp2_with fail
  refine (held_any ga n gc w19 MK19.out (by omega)).mono ?_
  rintro e w20 ⟨rfl, hw20⟩
  rw [hw20]
  clear hw20
  have a0 := (BX19.out.mem (.head _)) 0 _ rfl
  have a1 := (BX19.out.mem (.head _)) 1 _ rfl
  go_wp2_with fail
  clear a0 a1
  refine (laws_toMesh _ _ _ _ _ _ _ _ _ (HP.out.below BX19.out.bel) (HT.out.below BX19.out.bel) HS.out).mono ?_
  rintro e w21 ⟨⟨d, d', rfl, hd, hd', hV, hT⟩, hB21⟩
  have BX21 := Lib.hid (BX19.out.call hB21)
  have SI21 := Lib.hid (SI19.out.below hB21)
  have MK21 := Lib.hid (MK19.out.below hB21)
  have HV21 := Lib.hid hV
  have HT21 := Lib.hid hT
  clear hV hT hd hd' hB21
  go_wp2_with fail
  refine (laws_toHoldS _ _ _ _ _ (HF.out.below BX21.out.bel) hlen).mono ?_
  rintro e w22 ⟨rfl, hV, hB22⟩
  have BX22 := Lib.hid (BX21.out.call hB22)
  have SI22 := Lib.hid (SI21.out.below hB22)
  have MK22 := Lib.hid (MK21.out.below hB22)
  have HV22 := Lib.hid (HV21.out.below hB22)
  have HT22 := Lib.hid (HT21.out.below hB22)
  have HF22 := Lib.hid hV
  clear hV hB22
  go_wp2_with fail
  refine (HIM.out _ _ _ _ _ _ _ HV22.out HT22.out HF22.out ⟨hlen, hs1⟩).mono ?_
  rintro e w23 ⟨hv, rfl, hho, hB23⟩
  rw [← HLN.out] at hho
  obtain ⟨hra, hrc, rfl, hhi, _⟩ := owns_list hho HWF.out
  rw [HLN.out] at hhi ⊢
  have HI23 := Lib.hid hhi
  have BX23 := Lib.hid (BX22.out.call hB23)
  have SI23 := Lib.hid (SI22.out.below hB23)
  have MK23 := Lib.hid (MK22.out.below hB23)
  clear hB23 hho hhi
  go_wp2_with fail
  refine (laws_eqInt64S _ _ _ _ _ _ _ HI23.out SI23.out).mono ?_
  rintro en w24 ⟨rfl, n24, hw24⟩
  have hB24 : Below w23.heap.size w23 w24 := by rw [hw24]; exact below_drewN (Below.refl _ _) _
  have BX24 := Lib.hid (BX23.out.call hB24)
  have MK24 := Lib.hid (MK23.out.below hB24)
  clear hB24 hw24
  go_wp2_with fail
  refine (held_any ga n gc w24 MK24.out (by omega)).mono ?_
  rintro e w25 ⟨rfl, hw25⟩
  rw [hw25]
  clear hw25
  go_wp2
  go_ret
  exact ⟨rfl, BX24.out.bel⟩
end Go.Proofs.Ytajglpkeojaelaa

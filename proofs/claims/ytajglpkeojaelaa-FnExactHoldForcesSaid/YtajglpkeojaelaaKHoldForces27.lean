/-
Texts in one: what HoldForces stands on, part 27. Conditions: those of each.
-/
import Derived.Test.YtajglpkeojaelaaKHoldForces26
import Derived.Lib.SmallJoins

/-
What holds leave of forces: the law returns true. Conditions: none beyond that all lie in memory.
-/
namespace Go.Proofs.Ytajglpkeojaelaa
open Go Fk Go.RowKit
set_option linter.unusedVariables false
set_option maxRecDepth 16000

theorem hofL_len (cs : List C3) (ts : List (List Int)) (hs : List HC) (fs : List C3) (fl : Nat) : (hofL cs ts hs fs fl).length ≤ fs.length := by
  unfold hofL
  cases hofB cs ts hs fl
  · exact Nat.zero_le _
  · show (leaveF hs fs).length ≤ _; rw [leaveF_len]; exact Nat.le_refl _
/-- The marks that were written are there. -/
def MrkV (w : World) (a : Option Addr) (n : Nat) : Prop := (a = none → n = 0) ∧ ∀ b o s, a = some ⟨b, o, s⟩ → s = none ∧ ∀ j, j < n * 3 → w.cell? ⟨b, o + j, none⟩ = some (.float .f32 (floatOfInt .f32 ((1 + j : Nat) : Int)))
theorem mark_anyV (lo hi : Nat) (a : Option Addr) (n cap : Nat) (w : World) (h : Lst lo hi w a (n * 3)) (hn : n ≤ 2000000) :
    Calls Try.prog 47 #[.slice a n cap, .int .i64 1] w fun e w' => e = .returned (.int .i64 ((1 + n * 3 : Nat) : Int)) ∧ MrkV w' a n ∧ Mark lo hi w w' := by
  rcases h with ⟨rfl, h0⟩ | ⟨b, rfl, hown⟩
  · obtain rfl : n = 0 := by omega
    go_enter Try.func47, Try.ntmps47
    go_wp2
    refine wp_loop_rounds 1 ?_
    rw [rounds_succ]
    go_wp2
    go_ret
    exact ⟨rfl, ⟨fun _ => rfl, fun _ _ _ h => by cases h⟩, Mark.refl _ _ _⟩
  · refine (laws_markVectorS lo hi b 0 n cap 1 w hown (by omega)).mono ?_
    rintro e w' ⟨he, hd, _, hM⟩
    exact ⟨he, ⟨fun h => by (cases h), fun b' o s h => by cases h; exact ⟨rfl, hd⟩⟩, hM⟩
theorem held_anyV (a : Option Addr) (n cap : Nat) (w : World) (h : MrkV w a n) (hn : n ≤ 2000000) :
    Calls Try.prog 48 #[.slice a n cap, .int .i64 1] w fun e w' => e = .returned (.int .i64 ((1 + n * 3 : Nat) : Int)) ∧ w' = w := by
  cases a with
  | none =>
    obtain rfl := h.1 rfl
    go_enter Try.func48, Try.ntmps48
    go_wp2
    refine wp_loop_rounds 1 ?_
    rw [rounds_succ]
    go_wp2
    go_ret
    exact ⟨rfl, by first | rfl | trivial⟩
  | some x =>
    obtain ⟨b, o, s⟩ := x
    obtain ⟨rfl, hd⟩ := h.2 b o s rfl
    exact laws_heldVectorS b o n cap 1 w hd (by omega)
theorem MrkV.below {w w' : World} {a : Option Addr} {n : Nat} (h : MrkV w a n) (hB : Below w.heap.size w w') : MrkV w' a n :=
  ⟨h.1, fun b o s e => ⟨(h.2 b o s e).1, fun j hj => cell_below hB ((h.2 b o s e).2 j hj)⟩⟩
/-- A list of vectors outside the blocks that are marked is as it was. -/
theorem isv_mark {lo hi lo' hi' : Nat} {w0 w w' : World} {a : Option Addr} {n cap : Nat} {L : List C3} (h : IsVs w a n cap L) (hl : Lst lo' hi' w0 a (n * 3)) (hM : Mark lo hi w w') (ho : hi' ≤ lo ∨ hi ≤ lo') : IsVs w' a n cap L := by
  obtain ⟨h1, h2, h3, h5, h6⟩ := h
  refine ⟨h1, h2, h3, h5, fun x hx i hi => ?_⟩
  rcases hl with ⟨e, _⟩ | ⟨b, e, hown⟩
  · rw [e] at hx; cases hx
  · rw [e] at hx; cases hx
    obtain ⟨p, q, r, k0, k1, k2, hf⟩ := h6 _ e i hi
    rw [addr_add'] at k0 k1 k2
    have u1 := hown.1
    have u2 := hown.2.1
    exact ⟨p, q, r, by rw [addr_add']; exact hM.cell (by omega) k0, by rw [addr_add']; exact hM.cell (by omega) k1, by rw [addr_add']; exact hM.cell (by omega) k2, hf⟩
theorem Bx.mem_lt {w w' : World} {L : List (Nat × List Value)} {b : Nat} {l : List Value} (h : Bx w L w') (hm : (b, l) ∈ L) : b < w'.heap.size := (h.2 b l hm).2.2.1
/-- Boxes below what is marked stay. -/
theorem Bx.mark {w w1 w2 : World} {L : List (Nat × List Value)} {lo hi : Nat} (h : Bx w L w1) (hM : Mark lo hi w1 w2) (hl : w.heap.size ≤ lo) (ho : ∀ b l, (b, l) ∈ L → b < lo) : Bx w L w2 :=
  ⟨h.1.trans (hM.below.mono hl), fun b l hm => ⟨fun i v hv => hM.cell (.inl (ho b l hm)) ((h.2 b l hm).1 i v hv), fun i => by rw [hM.frozen _ _ (h.2 b l hm).2.2.1]; exact (h.2 b l hm).2.1 i, Nat.lt_of_lt_of_le (h.2 b l hm).2.2.1 hM.below.size, (h.2 b l hm).2.2.2⟩⟩
theorem hold_lt {w w' : World} {len : Nat} {hs : List HC} (ho : ∀ lo hi, lo ≤ w.heap.size → w.heap.size < hi → Own lo hi w' w.heap.size 0 (len * 8)) (hh : IsHs w' (some ⟨w.heap.size, 0, none⟩) len len hs) : w.heap.size < w'.heap.size := (ho 0 (w.heap.size + 1) (Nat.zero_le _) (Nat.lt_succ_self _)).2.2.1
set_option maxHeartbeats 4000000 in
theorem FnExactHoldForces_law (pa ta : Option Addr) (pl pc tl tc : Nat) (cs : List C3) (ts : List (List Int)) (ha : Option Addr) (hl hc : Nat) (hs : List HC) (fa : Option Addr) (fl fc : Nat) (fs : List C3) (w : World) (hp : IsVs w pa pl pc cs) (ht : IsTs w ta tl tc ts) (hh : IsHs w ha hl hc hs) (hf : IsVs w fa fl fc fs) :
    Calls Try.prog 8 #[.agg #[.slice pa pl pc, .slice ta tl tc], .slice ha hl hc, .slice fa fl fc] w fun e w' => e = .returned (.bool true) ∧ Below w.heap.size w w' := by
  have u := Try.underlying27
  have um := Try.underlying38
  have HPL := Lib.hid hp.1
  have HTL := Lib.hid ht.1
  have hfm : hl ≤ 9223372036854775807 := by have h1 := hh.2.1; have h2 := hh.2.2.1; unfold maxLen at h2; omega
  have HP := Lib.hid hp
  have HT := Lib.hid ht
  have HF := Lib.hid hh
  have HE := Lib.hid hf
  have hfl := hf.1
  have hem : fl ≤ 9223372036854775807 := by have h1 := hf.2.1; have h2 := hf.2.2.1; unfold maxLen at h2; omega
  have BX : Hid (Bx w [(w.heap.size, [.slice pa pl pc, .slice ta tl tc])] (w.alloc (.cells #[.slice pa pl pc, .slice ta tl tc] 25))) := Lib.hid ((Bx.nil w).box (vs := [.slice pa pl pc, .slice ta tl tc]) (t := 25))
  clear hp ht hh hf
  obtain ⟨nb, hnb⟩ : ∃ nb : Bool, nb = hofB cs ts hs fl := ⟨_, rfl⟩
  obtain ⟨LL, hLL⟩ : ∃ L : List C3, L = hofL cs ts hs fs fl := ⟨_, rfl⟩
  have hll : LL.length ≤ fl := by rw [hLL, ← hfl]; exact hofL_len cs ts hs fs _
  have HSP := Lib.hid (fun (pa ta ha fa : Option Addr) (pc tc hc fc : Nat) (w : World) (hp : IsVs w pa pl pc cs) (ht : IsTs w ta tl tc ts) (hh : IsHs w ha hl hc hs) (hf : IsVs w fa fl fc fs) (hb : fl ≤ 1048576) => spec_HoldForces pa ta ha fa pl pc tl tc hl hc fl fc cs ts hs fs w hp ht hh hf hb)
  have HIM := Lib.hid (fun (pa ta ha fa : Option Addr) (pc tc hc fc : Nat) (w : World) (hp : IsVs w pa pl pc cs) (ht : IsTs w ta tl tc ts) (hh : IsHs w ha hl hc hs) (hf : IsVs w fa fl fc fs) (hb : fl ≤ 1048576) (hb' : hl ≤ 1048576) => impl_HoldForces pa ta ha fa pl pc tl tc hl hc fl fc cs ts hs fs w hp ht hh hf hb hb')
  rw [← hnb, ← hLL] at HSP HIM
  clear hnb hLL
  go_enter Try.func8, Try.ntmps8
  go_wp2_with fail
  generalize (w.alloc (.cells #[.slice pa pl pc, .slice ta tl tc] 25)) = W at *
  refine (laws_szMeshR _ _ _ _ _ _ _ _ 1048576 _ (HP.out.below BX.out.bel) (HT.out.below BX.out.bel) (by decide) (by decide)).mono ?_
  rintro e w1 ⟨⟨r, rfl, hr⟩, hB1⟩
  have BX1 := Lib.hid (BX.out.call hB1)
  clear hB1
  rcases hr with rfl | ⟨hr0, hr1, s1, s2, s3⟩
  · go_wp2
    go_ret
    exact ⟨rfl, BX1.out.bel⟩
  have hS : Small cs ts := ⟨by rw [HPL.out]; exact s1, by rw [HTL.out]; exact s2, by rw [HTL.out]; exact s3⟩
  have HS := Lib.hid hS
  clear s1 s2 s3 hS
  go_wp2_with fail
  refine (laws_szHoldS _ _ _ _ _ hr0 hr1 hfm).mono ?_
  rintro e w2 ⟨⟨r', rfl, hr'⟩, hw2⟩
  rw [hw2]
  clear hw2 w2
  rcases hr' with rfl | ⟨hr2, hr3, hlen⟩
  · go_wp2
    go_ret
    exact ⟨rfl, BX1.out.bel⟩
  go_wp2_with fail
  refine (laws_szVectorS _ _ _ _ _ hr2 hr3 hem).mono ?_
  rintro e w2 ⟨⟨r'', rfl, hr''⟩, hw2⟩
  rw [hw2]
  clear hw2 w2
  rcases hr'' with rfl | ⟨hr4, hr5, hlen2⟩
  · go_wp2
    go_ret
    exact ⟨rfl, BX1.out.bel⟩
  have hln : LL.length ≤ 1048576 := by omega
  clear hll
  have a0 := (BX1.out.mem (.head _)) 0 _ rfl
  have a1 := (BX1.out.mem (.head _)) 1 _ rfl
  go_wp2_with fail
  clear a0 a1
  refine (laws_toMesh _ _ _ _ _ _ _ _ _ (HP.out.below BX1.out.bel) (HT.out.below BX1.out.bel) HS.out).mono ?_
  rintro e w3 ⟨⟨b, b', rfl, hb, hb', hV, hT⟩, hB3⟩
  have BX3 := Lib.hid (BX1.out.call hB3)
  have HV3 := Lib.hid hV
  have HT3 := Lib.hid hT
  clear hV hT hB3 hb hb'
  go_wp2_with fail
  refine (laws_toHoldS _ _ _ _ _ (HF.out.below BX3.out.bel) hlen).mono ?_
  rintro e w4 ⟨rfl, hV, hB4⟩
  have BX4 := Lib.hid (BX3.out.call hB4)
  have HV4 := Lib.hid (HV3.out.below hB4)
  have HT4 := Lib.hid (HT3.out.below hB4)
  have HF4 := Lib.hid hV
  clear hV hB4
  go_wp2_with fail
  refine (laws_toVectorS _ _ _ _ _ (HE.out.below BX4.out.bel) hlen2).mono ?_
  rintro e w4e ⟨rfl, hV, hB4e, _⟩
  have BX4e := Lib.hid (BX4.out.call hB4e)
  have HV4e := Lib.hid (HV4.out.below hB4e)
  have HT4e := Lib.hid (HT4.out.below hB4e)
  have HF4e := Lib.hid (HF4.out.below hB4e)
  have HE4e := Lib.hid hV
  clear hV hB4e
  go_wp2_with fail
  refine (HSP.out _ _ _ _ _ _ _ _ _ HV4e.out HT4e.out HF4e.out HE4e.out hlen2).mono ?_
  rintro e w5 ⟨sv, rfl, hR, hB5⟩
  obtain ⟨sa, sc, rfl, hsi, hsl⟩ := hR
  have SI5 := Lib.hid hsi
  have SL := Lib.hid hsl
  have BX6 := Lib.hid (BX4e.out.call hB5)
  have LT5 := Lib.hid (BX6.out.mem_lt (.head _))
  clear hB5 hsi hsl
  generalize hn : LL.length = n at *
  have HLN := Lib.hid hn
  clear hn
  have a0 := (BX6.out.mem (.head _)) 0 _ rfl
  have a1 := (BX6.out.mem (.head _)) 1 _ rfl
  go_wp2_with fail
  clear a0 a1
  refine (laws_toMesh' _ _ _ _ _ _ _ _ _ (HP.out.below BX6.out.bel) (HT.out.below BX6.out.bel) HS.out).mono ?_
  rintro e w7 ⟨⟨c, c', rfl, hc, hc', hV, hT, hi7, hhi7, hO7⟩, hB7⟩
  have BX7 := Lib.hid (BX6.out.call hB7)
  have HI7 := Lib.hid hhi7
  have S57 := Lib.hid hB7.size
  have SI7 := Lib.hid (SI5.out.below hB7)
  clear hhi7
  have hA7 : Below w7.heap.size w7 (w7.alloc (.cells #[.slice (some ⟨c, 0, none⟩) pl pl, .slice (some ⟨c', 0, none⟩) tl tl] 38)) := (Below.refl _ _).alloc (Nat.le_refl _) _
  have HV7 := Lib.hid (hV.below hA7)
  have HT7 := Lib.hid (hT.below hA7)
  have HO8 := Lib.hid (hO7.below hA7)
  have SI8 := Lib.hid (SI7.out.below hA7)
  have S78 := Lib.hid hA7.size
  have BX8 := Lib.hid (BX7.out.box (vs := [.slice (some ⟨c, 0, none⟩) pl pl, .slice (some ⟨c', 0, none⟩) tl tl]) (t := 38))
  clear hV hT hB7 hc hc' hA7 hO7
  go_wp2_with fail
  change Hid (Bx w _ (w7.alloc (.cells #[.slice (some ⟨c, 0, none⟩) pl pl, .slice (some ⟨c', 0, none⟩) tl tl] 38))) at BX8
  generalize (w7.alloc (.cells #[.slice (some ⟨c, 0, none⟩) pl pl, .slice (some ⟨c', 0, none⟩) tl tl] 38)) = W8 at *
  generalize w7.heap.size = X at *
  refine (laws_toHoldSO _ _ _ _ _ (HF.out.below BX8.out.bel) hlen).mono ?_
  rintro e w9 ⟨rfl, hV, hB9, hOH⟩
  have BX9 := Lib.hid (BX8.out.call hB9)
  have HV9 := Lib.hid (HV7.out.below hB9)
  have HT9 := Lib.hid (HT7.out.below hB9)
  have HF9 := Lib.hid hV
  have HOH9 := Lib.hid hOH
  have HO9 := Lib.hid (HO8.out.below hB9)
  have SI9 := Lib.hid (SI8.out.below hB9)
  have S89 := Lib.hid hB9.size
  have LT89 : Hid (W8.heap.size < w9.heap.size) := Lib.hid (hold_lt hOH hV)
  clear hOH hV hB9
  generalize W8.heap.size = Y at *
  go_wp2_with fail
  refine (laws_toVectorS' _ _ _ _ _ (HE.out.below BX9.out.bel) hlen2).mono ?_
  rintro e w9e ⟨rfl, hV, hB9e, hSe, hFe⟩
  have BX9e := Lib.hid (BX9.out.call hB9e)
  have HV9e := Lib.hid (HV9.out.below hB9e)
  have HT9e := Lib.hid (HT9.out.below hB9e)
  have HF9e := Lib.hid (HF9.out.below hB9e)
  have HE9e := Lib.hid hV
  have HO9e := Lib.hid (HO9.out.below hB9e)
  have HOH9e : Hid (∀ lo hi, lo ≤ Y → Y < hi → Own lo hi w9e Y 0 (hl * 8)) := Lib.hid (fun lo hi h1 h2 => (HOH9.out lo hi h1 h2).below hB9e)
  have HOE9e : Hid (∀ lo hi, lo ≤ w9.heap.size → w9.heap.size < hi → Own lo hi w9e w9.heap.size 0 (fl * 3)) := Lib.hid (fun lo hi h1 h2 => ⟨h1, h2, hSe, fun j hj => ⟨cells_of hV j hj, by rw [Nat.zero_add]; exact hFe j⟩⟩)
  have SI9e := Lib.hid (SI9.out.below hB9e)
  have LT99 := Lib.hid hSe
  clear hV hB9e hSe hFe
  generalize w9.heap.size = YE at *
  have x0 := (BX9e.out.mem (.head _)) 0 _ rfl
  have x1 := (BX9e.out.mem (.head _)) 1 _ rfl
  go_wp2_with fail
  clear x0 x1
  refine (HIM.out _ _ _ _ _ _ _ _ _ HV9e.out HT9e.out HF9e.out HE9e.out hlen2 hlen).mono ?_
  rintro e w10 ⟨gv, rfl, hR, hB10⟩
  obtain ⟨ga, gc, rfl, hgi, hgl⟩ := hR
  rw [HLN.out] at hgi hgl ⊢
  have GI := Lib.hid hgi
  have GL := Lib.hid hgl
  have SI10 := Lib.hid (SI9e.out.below hB10)
  have HO10 := Lib.hid (HO9e.out.below hB10)
  have HOH10 : Hid (∀ lo hi, lo ≤ Y → Y < hi → Own lo hi w10 Y 0 (hl * 8)) := Lib.hid (fun lo hi h1 h2 => (HOH9e.out lo hi h1 h2).below hB10)
  have HOE10 : Hid (∀ lo hi, lo ≤ YE → YE < hi → Own lo hi w10 YE 0 (fl * 3)) := Lib.hid (fun lo hi h1 h2 => (HOE9e.out lo hi h1 h2).below hB10)
  have S910 := Lib.hid hB10.size
  have BX10 := Lib.hid (BX9e.out.call hB10)
  have HV10 := Lib.hid (HV9e.out.below hB10)
  have HT10 := Lib.hid (HT9e.out.below hB10)
  have HF10 := Lib.hid (HF9e.out.below hB10)
  have HE10 := Lib.hid (HE9e.out.below hB10)
  clear hgi hgl hB10
  have hb1 : (nb == nb) = true := by simp
  have hb2 : (nb != nb) = false := by simp
  go_wp2_with fail
  refine (laws_eqVectorS _ _ _ _ _ _ _ GI.out SI10.out).mono ?_
  rintro en w12 ⟨rfl, hB12⟩
  have BX12 := Lib.hid (BX10.out.call hB12)
  have HV12 := Lib.hid (HV10.out.below hB12)
  have HT12 := Lib.hid (HT10.out.below hB12)
  have HF12 := Lib.hid (HF10.out.below hB12)
  have HE12 := Lib.hid (HE10.out.below hB12)
  have GI10 := GI
  have GL10 := GL
  have SI12 := Lib.hid (SI10.out.below hB12)
  have GI12 := Lib.hid (GI10.out.below hB12)
  have GL12 := Lib.hid (GL10.out.below hB12)
  have HO12 := Lib.hid (HO10.out.below hB12)
  have HOH12 : Hid (∀ lo hi, lo ≤ Y → Y < hi → Own lo hi w12 Y 0 (hl * 8)) := Lib.hid (fun lo hi h1 h2 => (HOH10.out lo hi h1 h2).below hB12)
  have HOE12 : Hid (∀ lo hi, lo ≤ YE → YE < hi → Own lo hi w12 YE 0 (fl * 3)) := Lib.hid (fun lo hi h1 h2 => (HOE10.out lo hi h1 h2).below hB12)
  have S10_12 := Lib.hid hB12.size
  clear hB12
  go_wp2_with fail
  refine Reg.wp_region_mix (C := fun w' => Below w12.heap.size w12 w') (G := fun w1 w2 => Below w1.heap.size w1 w2) (R := fun i v w' => match i with | 0 => v = .agg #[.slice (some ⟨c, 0, none⟩) pl pl, .slice (some ⟨c', 0, none⟩) tl tl] | 1 => v = .agg #[.slice pa pl pc, .slice ta tl tc] | 2 => ∃ d d', v = .agg #[.slice (some ⟨d, 0, none⟩) pl pl, .slice (some ⟨d', 0, none⟩) tl tl] ∧ IsVs w' (some ⟨d, 0, none⟩) pl pl cs ∧ IsTs w' (some ⟨d', 0, none⟩) tl tl ts | 3 => v = .bool true | 4 => v = .bool false | _ => True) (T := fun _ _ _ => True) [false, false, false, false, false, false, false, false, false, false, false, false, false, false, false, false, false, false, false, false, false, false, false, false, false, false, false, false, false, false, false, false, false, false, false, false, false, false, false, false, false, false, false, false, false, false, false, false, false, false, false, false, false, false, false, false, false, false, false, false, false, false, false, false, false, false, false, true, true, true, true, true, false, false, false, false, false, false, false, false, false, false, false, false, false, false, false, false, false, false, false, false, false, false, false, false, false, false, false, false, false, false, false, false, false, false, false, false, false, false, false, false, false, false, false, false, false, false, false, false, false, false, false, false, false, false, false, false, false, false, false, false, false, false, false, false, false, false, false, false, false, false]
    (by kernel_rfl) (by kernel_rfl) (by kernel_rfl) ?_ (below_drewN (Below.refl _ _) 1) ?_ ?_
  · intro j v w1 w2 _ hG hR
    match j with
    | 0 => exact hR
    | 1 => exact hR
    | 2 => obtain ⟨d, d', e, h1, h2⟩ := hR; exact ⟨d, d', e, h1.below hG, h2.below hG⟩
    | 3 => exact hR
    | 4 => exact hR
    | _ + 5 => trivial
  · refine ⟨Reg.Obl.mk ?_, Reg.Obl.mk ?_, Reg.Obl.mk ?_, Reg.Obl.mk ?_, Reg.Obl.mk ?_, trivial⟩
    · rintro a w1 hC hx hd K hK
      have HC := Lib.hid hC
      clear hC
      have y0 := (BX12.out.call HC.out).mem (.head _) 0 _ rfl
      have y1 := (BX12.out.call HC.out).mem (.head _) 1 _ rfl
      have t10 : a.tmps[10]?.getD undef = .pointer (some ⟨X, 0, none⟩) := Reg.slot_val (hx 10 (by kernel_rfl))
      go_simp
      exact hK _ _ (fun _ => rfl) (fun h => by cases h) HC.out (Below.refl _ _)
    · rintro a w1 hC hx hd K hK
      have HC := Lib.hid hC
      clear hC
      have y0 := (BX12.out.call HC.out).mem (.tail _ (.head _)) 0 _ rfl
      have y1 := (BX12.out.call HC.out).mem (.tail _ (.head _)) 1 _ rfl
      have t3 : a.tmps[3]?.getD undef = .pointer (some ⟨w.heap.size, 0, none⟩) := Reg.slot_val (hx 3 (by kernel_rfl))
      go_simp
      exact hK _ _ (fun _ => rfl) (fun h => by cases h) HC.out (Below.refl _ _)
    · rintro a w1 hC hx hd K hK
      have HC := Lib.hid hC
      clear hC
      have t68 : a.tmps[68]?.getD undef = .agg #[.slice pa pl pc, .slice ta tl tc] := Reg.slot_val (hd 1 (by kernel_rfl) 68 rfl)
      go_simp
      refine (laws_toMesh _ _ _ _ _ _ _ _ _ (HP.out.below (BX12.out.call HC.out).bel) (HT.out.below (BX12.out.call HC.out).bel) HS.out).mono ?_
      rintro en w2 ⟨⟨d, d', rfl, hd1, hd2, hV, hT⟩, hB2⟩
      exact hK _ _ (fun _ => ⟨d, d', rfl, hV, hT⟩) (fun h => by cases h) (HC.out.trans (hB2.mono HC.out.size)) hB2
    · rintro a w1 hC hx hd K hK
      have HC := Lib.hid hC
      clear hC
      have t67 : a.tmps[67]?.getD undef = .agg #[.slice (some ⟨c, 0, none⟩) pl pl, .slice (some ⟨c', 0, none⟩) tl tl] := Reg.slot_val (hd 0 (by kernel_rfl) 67 rfl)
      obtain ⟨e, e', g69, hV, hT⟩ := hd 2 (by kernel_rfl) 69 rfl
      have t69 := Reg.slot_val g69
      clear g69
      have HVe := Lib.hid hV
      have HTe := Lib.hid hT
      clear hV hT
      go_simp
      refine (laws_eqMesh _ _ _ _ _ _ _ _ _ _ cs ts _ (HV12.out.below HC.out) (HT12.out.below HC.out) HVe.out HTe.out).mono ?_
      rintro en w2 ⟨rfl, hB2⟩
      exact hK _ _ (fun _ => rfl) (fun h => by cases h) (HC.out.trans (hB2.mono HC.out.size)) hB2
    · rintro a w1 hC hx hd K hK
      have HC := Lib.hid hC
      clear hC
      have t70 : a.tmps[70]?.getD undef = .bool true := Reg.slot_val (hd 3 (by kernel_rfl) 70 rfl)
      go_simp
      exact hK _ _ (fun _ => rfl) (fun h => by cases h) HC.out (Below.refl _ _)
  rintro f w13 hC hd hT
  have g71 : f 71 = .bool false := hd 4 71 rfl
  simp only [Reg.mixL, g71]
  have BX13 := Lib.hid (BX12.out.call hC)
  have HF13 := Lib.hid (HF12.out.below hC)
  have HE13 := Lib.hid (HE12.out.below hC)
  have SI13 := Lib.hid (SI12.out.below hC)
  have GI13 := Lib.hid (GI12.out.below hC)
  have GL13 := Lib.hid (GL12.out.below hC)
  have HO13 := Lib.hid (HO12.out.below hC)
  have HOH13 : Hid (∀ lo hi, lo ≤ Y → Y < hi → Own lo hi w13 Y 0 (hl * 8)) := Lib.hid (fun lo hi h1 h2 => (HOH12.out lo hi h1 h2).below hC)
  have HOE13 : Hid (∀ lo hi, lo ≤ YE → YE < hi → Own lo hi w13 YE 0 (fl * 3)) := Lib.hid (fun lo hi h1 h2 => (HOE12.out lo hi h1 h2).below hC)
  have S12_13 := Lib.hid hC.size
  clear hC hd hT
  go_wp2_with fail
  refine (laws_toHoldS _ _ _ _ _ (HF.out.below BX13.out.bel) hlen).mono ?_
  rintro e w14 ⟨rfl, hV, hB14⟩
  have BX14 := Lib.hid (BX13.out.call hB14)
  have HF14 := Lib.hid (HF13.out.below hB14)
  have HE14 := Lib.hid (HE13.out.below hB14)
  have SI14 := Lib.hid (SI13.out.below hB14)
  have GI14 := Lib.hid (GI13.out.below hB14)
  have GL14 := Lib.hid (GL13.out.below hB14)
  have HO14 := Lib.hid (HO13.out.below hB14)
  have HOH14 : Hid (∀ lo hi, lo ≤ Y → Y < hi → Own lo hi w14 Y 0 (hl * 8)) := Lib.hid (fun lo hi h1 h2 => (HOH13.out lo hi h1 h2).below hB14)
  have HOE14 : Hid (∀ lo hi, lo ≤ YE → YE < hi → Own lo hi w14 YE 0 (fl * 3)) := Lib.hid (fun lo hi h1 h2 => (HOE13.out lo hi h1 h2).below hB14)
  have S13_14 := Lib.hid hB14.size
  have HY := Lib.hid hV
  clear hV hB14
  go_wp2_with fail
  refine (laws_eqHoldS _ _ _ _ _ hs _ HF14.out HY.out).mono ?_
  rintro e w15 ⟨rfl, hB15⟩
  have BX15 := Lib.hid (BX14.out.call hB15)
  have HE15 := Lib.hid (HE14.out.below hB15)
  have SI15 := Lib.hid (SI14.out.below hB15)
  have GI15 := Lib.hid (GI14.out.below hB15)
  have GL15 := Lib.hid (GL14.out.below hB15)
  have HO15 := Lib.hid (HO14.out.below hB15)
  have HOH15 : Hid (∀ lo hi, lo ≤ Y → Y < hi → Own lo hi w15 Y 0 (hl * 8)) := Lib.hid (fun lo hi h1 h2 => (HOH14.out lo hi h1 h2).below hB15)
  have HOE15 : Hid (∀ lo hi, lo ≤ YE → YE < hi → Own lo hi w15 YE 0 (fl * 3)) := Lib.hid (fun lo hi h1 h2 => (HOE14.out lo hi h1 h2).below hB15)
  have S14_15 := Lib.hid hB15.size
  clear hB15
  go_wp2_with fail
  refine (laws_toVectorS _ _ _ _ _ (HE.out.below BX15.out.bel) hlen2).mono ?_
  rintro e w15e ⟨rfl, hV, hB15e, _⟩
  have BXe := Lib.hid (BX15.out.call hB15e)
  have HEe := Lib.hid (HE15.out.below hB15e)
  have HEy := Lib.hid hV
  have SIe := Lib.hid (SI15.out.below hB15e)
  have GIe := Lib.hid (GI15.out.below hB15e)
  have GLe := Lib.hid (GL15.out.below hB15e)
  have HOe := Lib.hid (HO15.out.below hB15e)
  have HOHe : Hid (∀ lo hi, lo ≤ Y → Y < hi → Own lo hi w15e Y 0 (hl * 8)) := Lib.hid (fun lo hi h1 h2 => (HOH15.out lo hi h1 h2).below hB15e)
  have HOEe : Hid (∀ lo hi, lo ≤ YE → YE < hi → Own lo hi w15e YE 0 (fl * 3)) := Lib.hid (fun lo hi h1 h2 => (HOE15.out lo hi h1 h2).below hB15e)
  have S15_e := Lib.hid hB15e.size
  clear hV hB15e
  go_wp2_with fail
  refine (laws_eqVectorS _ _ _ _ _ _ _ HEe.out HEy.out).mono ?_
  rintro en w15f ⟨rfl, hB15f⟩
  have BXf := Lib.hid (BXe.out.call hB15f)
  have SIf := Lib.hid (SIe.out.below hB15f)
  have GIf := Lib.hid (GIe.out.below hB15f)
  have GLf := Lib.hid (GLe.out.below hB15f)
  have HOf := Lib.hid (HOe.out.below hB15f)
  have HOHf : Hid (∀ lo hi, lo ≤ Y → Y < hi → Own lo hi w15f Y 0 (hl * 8)) := Lib.hid (fun lo hi h1 h2 => (HOHe.out lo hi h1 h2).below hB15f)
  have HOEf : Hid (∀ lo hi, lo ≤ YE → YE < hi → Own lo hi w15f YE 0 (fl * 3)) := Lib.hid (fun lo hi h1 h2 => (HOEe.out lo hi h1 h2).below hB15f)
  have Se_f := Lib.hid hB15f.size
  clear hB15f
  have zz0 := LT5.out
  have zz1 := S57.out
  have zz2 := S78.out
  have zz3 := S89.out
  have zz4 := LT99.out
  have zz5 := S910.out
  have zz6 := S10_12.out
  have zz7 := S12_13.out
  have zz8 := S13_14.out
  have zz9 := S14_15.out
  have zz10 := S15_e.out
  have zz11 := Se_f.out
  have zz12 := HI7.out
  have zz13 := LT89.out
  have SZ := Lib.hid (And.intro zz0 (And.intro zz1 (And.intro zz2 (And.intro zz3 (And.intro zz4 (And.intro zz5 (And.intro zz6 (And.intro zz7 (And.intro zz8 (And.intro zz9 (And.intro zz10 (And.intro zz11 (And.intro zz12 (zz13))))))))))))))
  have SM := Lib.hid HS.out
  clear zz0 zz1 zz2 zz3 zz4 zz5 zz6 zz7 zz8 zz9 zz10 zz11 zz12 zz13
  have x0 := (BXf.out.mem (.head _)) 0 _ rfl
  have x1 := (BXf.out.mem (.head _)) 1 _ rfl
  go_wp2_with fail
  clear x0 x1
  refine (laws_markMeshR w5.heap.size hi7 c 0 c' 0 pl pl tl tl ts 1 w15f HOf.out (by have h := SZ.out; omega) (by rw [← HPL.out]; exact SM.out.1) (by rw [← HTL.out]; exact SM.out.2.1) (fun j hj => SM.out.2.2 j (by rw [HTL.out]; exact hj)) (by decide)).mono ?_
  rintro e w16 ⟨z, hz, rfl, hM⟩
  have BX16 := Lib.hid (BXf.out.drop.mark hM (by have h := SZ.out; omega) (fun b l hm => by simp at hm; have h := SZ.out; omega))
  have SI16 := Lib.hid (isv_mark SIf.out SL.out hM (.inl (Nat.le_refl _)))
  have GI16 := Lib.hid (isv_mark GIf.out GL.out hM (.inr (by have h := SZ.out; omega)))
  have GL16 := Lib.hid (GLf.out.mark hM)
  have HOH16 := Lib.hid ((HOHf.out Y YE (Nat.le_refl _) (by have h := SZ.out; omega)).mark hM)
  have HOE16 := Lib.hid ((HOEf.out YE w9e.heap.size (Nat.le_refl _) (by have h := SZ.out; omega)).mark hM)
  clear hM
  go_wp2_with fail
  refine (laws_markHoldS Y YE Y 0 hl hl z w16 HOH16.out (by omega)).mono ?_
  rintro e w17 ⟨rfl, hM⟩
  have BX17 := Lib.hid (BX16.out.mark hM (by have h := SZ.out; omega) (fun b l hm => by simp at hm; have h := SZ.out; omega))
  have SI17 := Lib.hid (isv_mark SI16.out SL.out hM (.inl (by have h := SZ.out; omega)))
  have GI17 := Lib.hid (isv_mark GI16.out GL.out hM (.inr (by have h := SZ.out; omega)))
  have GL17 := Lib.hid (GL16.out.mark hM)
  have HOE17 := Lib.hid (HOE16.out.mark hM)
  clear hM
  have hzz : z + hl * 8 ≤ 3000000000000000000 := by omega
  generalize z + hl * 8 = zz at *
  go_wp2_with fail
  refine (laws_markVectorS YE w9e.heap.size YE 0 fl fl zz w17 HOE17.out (by omega)).mono ?_
  rintro e w17e ⟨rfl, _, _, hM⟩
  have hz0 : ¬ (((zz + fl * 3 : Nat) : Int) < 0) := by omega
  have BX17e := Lib.hid (BX17.out.mark hM (by have h := SZ.out; omega) (fun b l hm => by simp at hm; have h := SZ.out; omega))
  have SI17e := Lib.hid (isv_mark SI17.out SL.out hM (.inl (by have h := SZ.out; omega)))
  have GI17e := Lib.hid (isv_mark GI17.out GL.out hM (.inr (Nat.le_refl _)))
  have GL17e := Lib.hid (GL17.out.mark hM)
  clear hM
  generalize zz + fl * 3 = zy at *
  go_wp2_with fail
  refine (laws_eqVectorS _ _ _ _ _ _ _ GI17e.out SI17e.out).mono ?_
  rintro en w18 ⟨rfl, hB18⟩
  have BX18 := Lib.hid (BX17e.out.call hB18)
  have SI18 := Lib.hid (SI17e.out.below hB18)
  have GL18 := Lib.hid (GL17e.out.below hB18)
  clear hB18
  go_wp2_with fail
  refine (mark_anyV w9e.heap.size w10.heap.size ga n gc w18 GL18.out (by omega)).mono ?_
  rintro e w19 ⟨rfl, hmk, hM⟩
  have BX19 := Lib.hid (BX18.out.mark hM (by have h := SZ.out; omega) (fun b l hm => by simp at hm; have h := SZ.out; omega))
  have SI19 := Lib.hid (isv_mark SI18.out SL.out hM (.inl (by have h := SZ.out; omega)))
  have MK19 := Lib.hid hmk
  clear hmk hM
  go_wp2_with fail
  refine (held_anyV ga n gc w19 MK19.out (by omega)).mono ?_
  rintro e w20 ⟨rfl, hw20⟩
  rw [hw20]
  clear hw20
  have a0 := (BX19.out.mem (.head _)) 0 _ rfl
  have a1 := (BX19.out.mem (.head _)) 1 _ rfl
  go_wp2_with fail
  clear a0 a1
  refine (laws_toMesh _ _ _ _ _ _ _ _ _ (HP.out.below BX19.out.bel) (HT.out.below BX19.out.bel) HS.out).mono ?_
  rintro e w21 ⟨⟨d, d', rfl, hd, hd', hV, hT⟩, hB21⟩
  have BX21 := Lib.hid (BX19.out.call hB21)
  have SI21 := Lib.hid (SI19.out.below hB21)
  have MK21 := Lib.hid (MK19.out.below hB21)
  have HV21 := Lib.hid hV
  have HT21 := Lib.hid hT
  clear hV hT hd hd' hB21
  go_wp2_with fail
  refine (laws_toHoldS _ _ _ _ _ (HF.out.below BX21.out.bel) hlen).mono ?_
  rintro e w22 ⟨rfl, hV, hB22⟩
  have BX22 := Lib.hid (BX21.out.call hB22)
  have SI22 := Lib.hid (SI21.out.below hB22)
  have MK22 := Lib.hid (MK21.out.below hB22)
  have HV22 := Lib.hid (HV21.out.below hB22)
  have HT22 := Lib.hid (HT21.out.below hB22)
  have HF22 := Lib.hid hV
  clear hV hB22
  go_wp2_with fail
  refine (laws_toVectorS _ _ _ _ _ (HE.out.below BX22.out.bel) hlen2).mono ?_
  rintro e w22e ⟨rfl, hV, hB22e, _⟩
  have BX22e := Lib.hid (BX22.out.call hB22e)
  have SI22e := Lib.hid (SI22.out.below hB22e)
  have MK22e := Lib.hid (MK22.out.below hB22e)
  have HV22e := Lib.hid (HV22.out.below hB22e)
  have HT22e := Lib.hid (HT22.out.below hB22e)
  have HF22e := Lib.hid (HF22.out.below hB22e)
  have HE22e := Lib.hid hV
  clear hV hB22e
  go_wp2_with fail
  refine (HIM.out _ _ _ _ _ _ _ _ _ HV22e.out HT22e.out HF22e.out HE22e.out hlen2 hlen).mono ?_
  rintro e w23 ⟨hv, rfl, hR, hB23⟩
  obtain ⟨hra, hrc, rfl, hhi, _⟩ := hR
  rw [HLN.out] at hhi ⊢
  have HI23 := Lib.hid hhi
  have BX23 := Lib.hid (BX22e.out.call hB23)
  have SI23 := Lib.hid (SI22e.out.below hB23)
  have MK23 := Lib.hid (MK22e.out.below hB23)
  clear hB23 hhi
  go_wp2_with fail
  refine (laws_eqVectorS _ _ _ _ _ _ _ HI23.out SI23.out).mono ?_
  rintro en w24 ⟨rfl, hB24⟩
  have BX24 := Lib.hid (BX23.out.call hB24)
  have MK24 := Lib.hid (MK23.out.below hB24)
  clear hB24
  go_wp2_with fail
  refine (held_anyV ga n gc w24 MK24.out (by omega)).mono ?_
  rintro e w25 ⟨rfl, hw25⟩
  rw [hw25]
  clear hw25
  go_wp2
  go_ret
  exact ⟨rfl, BX24.out.bel⟩
end Go.Proofs.Ytajglpkeojaelaa


/-
A list of vectors that comes in as an argument. Conditions: none.
-/
namespace Go.Proofs.Ytajglpkeojaelaa
namespace Fk
open Go Go.RowKit
set_option linter.unusedVariables false
section
open Go.ChangeShapes Go.WideShapes Go.Deep
variable {H : Type} {enc : TypeId × Value → H} {P : Program} {w : World} {base : Nat} {held : Bool}
theorem open_vecs {t ev : TypeId} {f0 f1 f2 : Field} {a : Option Addr} {len cap : Nat} {d : DataW H} {p : List MemPlace}
    (hp : P.underlying t = some (.slice ev)) (hev : P.underlying ev = some (.struct #[f0, f1, f2])) (honev : oneCellFields P #[f0, f1, f2] = true) (hCv : P.cellsOf ev = 3)
    (he0 : P.underlying f0.type = some (.float .f32)) (he1 : P.underlying f1.type = some (.float .f32)) (he2 : P.underlying f2.type = some (.float .f32))
    (h : DataW.Trod enc P w base (fun _ => true) held t (.slice a len cap) d p) : ∃ cs, IsVs w a len cap cs := by
  obtain ⟨fuel, hf⟩ := h
  obtain ⟨a', len', cap', cs, e, hv⟩ := trod_vecs hp hev honev hCv he0 he1 he2 (by simpa [Value.cells] using hf)
  cases e
  exact ⟨cs, hv⟩
end
end Fk
end Go.Proofs.Ytajglpkeojaelaa

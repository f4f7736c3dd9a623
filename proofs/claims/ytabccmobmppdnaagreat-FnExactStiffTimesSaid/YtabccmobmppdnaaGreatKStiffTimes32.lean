/-
Texts in one: what StiffTimes stands on, part 32. Conditions: those of each.
-/
import Derived.Test.YtabccmobmppdnaaGreatKStiffTimes31
-- halved
namespace Go.Proofs.YtabccmobmppdnaaGreat
open Go Fk Go.RowKit Go.Maps
set_option linter.unusedVariables false
set_option maxRecDepth 16000
set_option maxHeartbeats 4000000 in
theorem l03Third (r : Option Addr) (q n : Nat) (t : List Int) (i j : Int) (w : World) (h : IsIs w r 3 q t) (hT : Tri3 n t) (hij : i ≠ j) :
  Calls Tryz.prog 190 #[.slice r 3 q, .int .i64 i, .int .i64 j] w fun e w' => e = .returned (.int .i64 (thS t i j)) ∧ w' = w := by
 have hl := h.1
 have J := Lib.hid (fun p => (by have := l00HasQ r 3 q t p w h; rw [hasQ3 hl] at this; exact this : Calls Tryz.prog 157 #[.slice r 3 q, .int .i64 p] w fun e w' => e = .returned (.bool (hasB t p)) ∧ w' = w))
 have H := Lib.hid h
 have HT := Lib.hid hT
 unfold thS
 clear h hl hT
 cases h1 : hasB t i
 ·go_enter Tryz.func190, Tryz.ntmps190
  go_wp2_with fail
  refine (J.out i).mono ?_
  rintro e w1 ⟨rfl, hw1⟩
  rw [hw1, h1]
  clear hw1
  go_wp2
  go_ret
  exact ⟨rfl, by first | rfl | trivial⟩
 ·cases h2 : hasB t j
  ·go_enter Tryz.func190, Tryz.ntmps190
   go_wp2_with fail
   refine (J.out i).mono ?_
   rintro e w1 ⟨rfl, hw1⟩
   rw [hw1, h1]
   clear hw1
   go_wp2_with fail
   refine (J.out j).mono ?_
   rintro e w2 ⟨rfl, hw2⟩
   rw [hw2, h2]
   clear hw2
   go_wp2
   go_ret
   exact ⟨rfl, by first | rfl | trivial⟩
  ·have HTA := Lib.hid (fun k (hk : k < 3) h3 h4 => th_at HT.out hij h1 h2 (k := k) hk h3 h4)
   have HTH := Lib.hid (th_has HT.out hij h1 h2)
   go_enter Tryz.func190, Tryz.ntmps190
   go_wp2_with fail
   refine (J.out i).mono ?_
   rintro e w1 ⟨rfl, hw1⟩
   rw [hw1, h1]
   clear hw1
   go_wp2_with fail
   refine (J.out j).mono ?_
   rintro e w2 ⟨rfl, hw2⟩
   rw [hw2, h2]
   clear hw2 h1 h2
   go_wp2
   go_loopw [20] (fun x w' => ∃ k : Nat, k ≤ 3 ∧ x = .int .i64 k ∧ w' = w ∧ Aside (∀ m, m < k → t.getD m 0 = i ∨ t.getD m 0 = j)) (fun x _ => 3 - (intOf x).toNat)
   case atStart => exact ⟨0, by omega, rfl, rfl, fun m hm => absurd hm (by omega)⟩
   case round =>
    obtain ⟨k, hk, rfl, rfl, hA⟩ := hrel
    have HA := Lib.hid hA.out
    clear hA
    by_cases hlt : k < 3
    ·obtain ⟨b, o, rfl, hcell⟩ := H.out.some (by decide)
     have hc0 := hcell k hlt
     have hk0 : (0 : Int) ≤ (k : Int) := by omega
     have hk1 : (k : Int) < (3 : Int) := by omega
     have HX := Lib.hid (HTA.out k hlt)
     have HN : Hid (t.getD k 0 = i ∨ t.getD k 0 = j → ∀ m, m < k + 1 → t.getD m 0 = i ∨ t.getD m 0 = j) := Lib.hid (fun e m hm => by
      by_cases hmk : m = k
      ·subst hmk; exact e
      ·exact HA.out m (by omega))
     clear hcell
     generalize t.getD k 0 = z at *
     by_cases hi : z = i
     ·have hne : (z != i) = false := by simp [hi]
      have HR := Lib.hid (HN.out (.inl hi))
      subst hi
      go_wp2
      go_roundw
      case rel => exact ⟨k + 1, by omega, by go_num, by first | rfl | trivial, HR.out⟩
      case measure => simp [intOf]; omega
     ·have hne : (z != i) = true := by simp [hi]
      by_cases hj : z = j
      ·have hne2 : (z != j) = false := by simp [hj]
       have HR := Lib.hid (HN.out (.inr hj))
       subst hj
       go_wp2
       go_roundw
       case rel => exact ⟨k + 1, by omega, by go_num, by first | rfl | trivial, HR.out⟩
       case measure => simp [intOf]; omega
      ·have hne2 : (z != j) = true := by simp [hj]
       have HZ := Lib.hid (HX.out hi hj)
       go_wp2
       go_ret
       exact ⟨by rw [HZ.out]; rfl, by first | rfl | trivial⟩
    ·obtain rfl : k = 3 := by omega
     exact (HTH.out HA.out).elim
theorem ts_grown {lo hi : Nat} {w w' : World} {a : Option Addr} {n cap : Nat} {ts : List (List Int)} {row : Option Nat} (h : IsTs w a n cap ts) (hl : LT lo hi w a n) (hg : w.grownBy w' row) (ho : ∀ g, row = some g → g < lo ∨ hi ≤ g) : IsTs w' a n cap ts ∧ LT lo hi w' a n := by
 have hne : ∀ b, lo ≤ b → b < hi → some b ≠ row := fun b h1 h2 e => by have := ho b e.symm; omega
 obtain ⟨h1, h2, h3, h4, h5⟩ := h
 refine ⟨⟨h1, h2, h3, h4, fun x hx i hlt => ?_⟩, fun x hx => ?_⟩
 ·obtain ⟨R, e, u1, u2, u3⟩ := hl x hx
  obtain ⟨G, c, c', hc, hI⟩ := h5 x hx i hlt
  obtain ⟨b, m, c2, hc2, hb⟩ := u3 i hlt
  subst e
  rw [addr_add', Nat.zero_add] at hc
  rw [hc2] at hc
  cases hc
  refine ⟨_, _, _, by rw [addr_add', Nat.zero_add]; exact hg.cell hc2 (hne R u1 u2), ?_⟩
  obtain ⟨i1, i2, i3, i4, i5, i6⟩ := hI
  refine ⟨i1, i2, i3, i4, i5, fun y hy j hj => ?_⟩
  obtain ⟨F, o, e, v1, v2⟩ := hb y hy
  have := i6 y hy j hj
  subst e
  rw [addr_add'] at this ⊢
  exact hg.cell this (hne F v1 v2)
 ·obtain ⟨R, e, u1, u2, u3⟩ := hl x hx
  refine ⟨R, e, u1, u2, fun i hlt => ?_⟩
  obtain ⟨b, m, c2, hc2, hb⟩ := u3 i hlt
  exact ⟨b, m, c2, hg.cell hc2 (hne R u1 u2), hb⟩
set_option maxHeartbeats 8000000 in
theorem l03Hinges (pb : Nat) (pa ta : Option Addr) (pl pc tl tc : Nat) (cs : List C3) (ts : List (List Int)) (w : World) (a0 : w.cell? ⟨pb, 0, none⟩ = some (.slice pa pl pc)) (a1 : w.cell? ⟨pb, 1, none⟩ = some (.slice ta tl tc)) (hp : IsVs w pa pl pc cs) (ht : IsTs w ta tl tc ts) (hv : validB cs ts = true) :
  Calls Tryz.prog 168 #[.pointer (some ⟨pb, 0, none⟩)] w fun e w' => (∃ v, e = .returned v ∧ OwnT w.heap.size w' v (hgT cs ts).length (hgT cs ts)) ∧ Below w.heap.size w w' := by
 have ui := Tryz.underlying40
 obtain ⟨i0, hi, hz0, hz1, hz2⟩ := info_parts info64
 obtain ⟨j0, hj, hy0, hy1, hy2⟩ := info_parts infoS
 have hpl := hp.1
 have hll := edT_len cs ts
 obtain ⟨v1, v2⟩ := valid_pl hv
 have HT3 : Hid (∀ i, i < ts.length → Tri3 cs.length (ts.getD i [])) := Lib.hid (fun i (hi : i < ts.length) => tri3_of (valid_rowh hv hi))
 have h3 : ∀ k, k < tl → (ts.getD k []).length = 3 := fun k hk => (tri_partsh (valid_rowh hv (show k < ts.length by have := ht.1; omega))).1
 have H3 := Lib.hid h3
 have HTL := Lib.hid ht.1
 have HTS := Lib.hid ht
 have HL : Hid (tl ≤ 128) := Lib.hid (by have := ht.1; omega)
 have hed : edgesT pl ts = (pairsL (keysE ts) cs.length).map rowP := by rw [hpl]; exact edgesT_pairs _ _
 have J2 := Lib.hid (fun (w : World) a0 a1 hp ht => l02Edges pb pa ta pl pc tl tc cs ts w a0 a1 hp ht hv)
 have hwf : ∀ j, j < (edgesT pl ts).length → ∀ z ∈ (edgesT pl ts).getD j [], (Lit.int .i64 z).wf = true := edge_wf (by have := (valid_pl hv).1; omega)
 have HIM : Hid (∀ k, k < (pairsL (keysE ts) cs.length).length → ∃ m n : Nat, m < n ∧ n < 64 ∧ (pairsL (keysE ts) cs.length).getD k (0, 0) = ((m : Int), (n : Int))) := Lib.hid (fun k hk => by
  have hm : (pairsL (keysE ts) cs.length).getD k (0, 0) ∈ pairsL (keysE ts) cs.length := by
   rw [List.getD, List.getElem?_eq_getElem hk]
   exact List.getElem_mem _
  obtain ⟨a, b, _, hb, hab, _, e⟩ := mem_pairsL.1 hm
  exact ⟨a, b, hab, by omega, e⟩)
 unfold edT at hll
 rw [hv] at hll
 simp only [cond_true] at hll
 rw [edgesT_pairs, List.length_map] at hll
 rw [hed] at J2 hwf
 unfold hgT
 rw [hv, cond_true]
 generalize pairsL (keysE ts) cs.length = ps at *
 have HWF := Lib.hid hwf
 have HLEN := Lib.hid hll
 have HP := Lib.hid hp
 have C01 := Lib.hid (And.intro a0 a1)
 clear h3 v1 v2 hv hp ht hwf hed hll a0 a1
 have hst0 : (w.alloc (.cells #[] 33)).ownsRow w.heap.size 33 1 (.slice (some ⟨w.heap.size, 0, none⟩) 0 0) 0 [] :=
  World.ownsRow_lit (base := w.heap.size) (e := 33) (size := 1) w #[] 0 (Nat.le_refl _) (by decide) rfl
 have hbw0 : Below w.heap.size w (w.alloc (.cells #[] 33)) := (Below.refl _ _).alloc (Nat.le_refl _) _
 have HST0 : Hid (OwnT w.heap.size (w.alloc (.cells #[] 33)) (.slice (some ⟨w.heap.size, 0, none⟩) 0 0) 0 (hgK ts ps 0)) := Lib.hid ⟨[], hst0, fun j hj => absurd hj (by omega)⟩
 have HBW0 := Lib.hid hbw0
 clear hst0 hbw0
 go_enter Tryz.func168, Tryz.ntmps168
 go_wp2_with fail
 have HW0 : Hid (w.heap.size < (w.alloc (.cells #[] 33)).heap.size) := Lib.hid (by simp)
 have HV0 : Hid (∀ g, (Value.slice (some ⟨w.heap.size, 0, none⟩) 0 0).ownBlock = some g → g = w.heap.size) := Lib.hid (fun g h => by simp [Value.ownBlock] at h; exact h.symm)
 generalize w.alloc (.cells #[] 33) = W0 at *
 generalize (.slice (some ⟨w.heap.size, 0, none⟩) 0 0 : Value) = v0 at *
 refine (J2.out W0 (cell_below HBW0.out C01.out.1) (cell_below HBW0.out C01.out.2) (HP.out.below HBW0.out) (HTS.out.below HBW0.out)).mono ?_
 rintro e w2 ⟨⟨v, rfl, hvo⟩, hB2⟩
 obtain ⟨ea, ec, rfl, hI⟩ := hvo.is rfl HWF.out
 have hLT := lt_of_owns hvo
 have HI := Lib.hid hI
 have HST := Lib.hid (HST0.out.up hB2)
 have HB2 := Lib.hid (HBW0.out.trans (hB2.mono HBW0.out.size))
 have hlm : (List.map rowP ps).length = ps.length := by simp
 rw [hlm] at HI hLT ⊢
 have HLT := Lib.hid hLT
 have HB22 := Lib.hid hB2.size
 clear hvo hI hB2 hlm J2 HST0 HBW0 hLT
 go_wp2
 go_loopw [3, 16] (fun v i w' => ∃ k : Nat, k ≤ ps.length ∧ i = .int .i64 k ∧ Aside (OwnT w.heap.size w' v (hgK ts ps k).length (hgK ts ps k) ∧ Below w.heap.size w w' ∧ IsTs w' ea ps.length ec (List.map rowP ps) ∧ LT W0.heap.size w2.heap.size w' ea ps.length ∧ (∀ g, v.ownBlock = some g → g < W0.heap.size ∨ w2.heap.size ≤ g) ∧ w2.heap.size ≤ w'.heap.size)) (fun _ i _ => ps.length - (intOf i).toNat)
 case atStart => exact ⟨0, Nat.zero_le _, rfl, HST.out, HB2.out, HI.out, HLT.out, fun g h => .inl (by have := HV0.out g h; have := HW0.out; omega), Nat.le_refl _⟩
 case round =>
  obtain ⟨k, hk, hik, hA⟩ := hrel
  subst hik
  obtain ⟨hO, hB', hE, hEL, hOB, hS2⟩ := hA.out
  have HEL := Lib.hid hEL
  have HOB := Lib.hid hOB
  have HS2 := Lib.hid hS2
  have HO := Lib.hid hO
  have HC' := Lib.hid hB'
  have HE := Lib.hid hE
  by_cases hlt : k < ps.length
  ·obtain ⟨bt, ot, rfl, hrow⟩ := HE.out.some (by omega)
   obtain ⟨r1, n1, q1, cr, ir⟩ := hrow k hlt
   obtain ⟨m, n, hmn, hn64, hek⟩ := HIM.out k hlt
   have hrk : (List.map rowP ps).getD k [] = rowP (ps.getD k (0, 0)) := by simp [List.getD, hlt]
   rw [hrk] at ir
   have hn1 : n1 = 2 := by have := ir.1; simpa [rowP] using this.symm
   subst hn1
   obtain ⟨br, orr, rfl, hcell⟩ := ir.some (by omega)
   have e0 := hcell 0 (by omega)
   have e1 := hcell 1 (by omega)
   rw [hek] at e0 e1
   simp only [rowP, List.getD_cons_zero, List.getD_cons_succ, Nat.add_zero] at e0 e1
   have hk0 : (0 : Int) ≤ (k : Int) := by omega
   have hk1 : (k : Int) < (ps.length : Int) := by omega
   have kb0 := cell_below hB' C01.out.1
   have kb1 := cell_below hB' C01.out.2
   have lpb := World.block_lt_of_cell? _ _ kb0
   have HKS := Lib.hid (hgK_s (ts := ts) hlt)
   have HKL := Lib.hid (hgK_len ts ps k)
   have HEK := Lib.hid hek
   have HIJ : Hid ((m : Int) ≠ (n : Int)) := Lib.hid (by omega)
   have hr1 : (wr.alloc (.cells #[.int .i64 (m : Int), .int .i64 (n : Int)] 2)).ownsRow wr.heap.size 2 1 (.slice (some ⟨wr.heap.size, 0, none⟩) 2 2) 2 (ints [(m : Int), (n : Int)]) :=
    World.ownsRow_lit (base := wr.heap.size) (e := 2) (size := 1) wr #[.int .i64 (m : Int), .int .i64 (n : Int)] 2 (Nat.le_refl _) (by decide) rfl
   have HR1 := Lib.hid hr1
   have HBR : Hid (Below wr.heap.size wr (wr.alloc (.cells #[.int .i64 (m : Int), .int .i64 (n : Int)] 2))) := Lib.hid ((Below.refl _ _).alloc (Nat.le_refl _) _)
   clear hA hO hB' hE hrow ir hcell hek hrk hr1 hEL hOB hS2
   go_wp2
   clear cr e0 e1
   have KB := Lib.hid (And.intro kb0 kb1)
   clear kb0 kb1 lpb
   obtain ⟨V, hV⟩ : ∃ V, V = wr := ⟨_, rfl⟩
   subst hV
   go_loopw [8, 39] (fun v i w' => ∃ y : Nat, y ≤ tl ∧ i = .int .i64 y ∧ Aside (w'.ownsRow V.heap.size 2 1 v (2 + (atL ts (m : Int) (n : Int) y).length) (ints ((m : Int) :: (n : Int) :: thirds ts (m : Int) (n : Int) (atL ts (m : Int) (n : Int) y))) ∧ Below V.heap.size V w')) (fun _ i _ => tl - (intOf i).toNat)
   case atStart => exact ⟨0, Nat.zero_le _, rfl, HR1.out, HBR.out⟩
   case round =>
    obtain ⟨y, hy, hiy, hA⟩ := hrel
    subst hiy
    obtain ⟨hO5, hB5⟩ := hA.out
    have HO5 := Lib.hid hO5
    have HB5 := Lib.hid hB5
    have HBW := Lib.hid (HC'.out.trans (hB5.mono HC'.out.size))
    have hsz5 := hB5.size
    have hal := atL_len ts (m : Int) (n : Int) y
    by_cases hly : y < tl
    ·obtain ⟨tb, to, rfl, hrow2⟩ := (HTS.out.below HBW.out).some (by omega)
     obtain ⟨r2, n2, q2, cr2, ir2⟩ := hrow2 y hly
     have hn2 : n2 = 3 := ir2.1.symm.trans (H3.out y hly)
     subst hn2
     have hy0' : (0 : Int) ≤ (y : Int) := by omega
     have hy1' : (y : Int) < (tl : Int) := by omega
     have kb1 := cell_below hB5 KB.out.2
     have hTy := HT3.out y (by have := HTL.out; omega)
     have HTR := Lib.hid (fun w' h => l03Third r2 q2 cs.length (ts.getD y []) (m : Int) (n : Int) w' h hTy HIJ.out)
     have HIR2 := Lib.hid ir2
     have HAS : Hid (atL ts (m : Int) (n : Int) (y + 1) = atL ts (m : Int) (n : Int) y ++ (bif hasB (ts.getD y []) (m : Int) && hasB (ts.getD y []) (n : Int) then [(y : Int)] else [])) := rfl
     have HYS := Lib.hid (thS_yes hTy HIJ.out)
     clear hA hO5 hB5 hrow2 ir2 hTy
     go_wp2_with fail
     refine (HTR.out _ HIR2.out).mono ?_
     rintro e w6 ⟨rfl, hw6⟩
     rw [hw6]
     clear hw6 kb1 cr2
     unfold thS
     cases hb : (hasB (ts.getD y []) (m : Int) && hasB (ts.getD y []) (n : Int))
     ·rw [hb] at HAS
      have HAS2 : Hid (atL ts (m : Int) (n : Int) (y + 1) = atL ts (m : Int) (n : Int) y) := Lib.hid (by rw [HAS.out]; simp)
      have hng : ¬ (0 : Int) ≤ (-1 : Int) := by decide
      simp only [cond_false]
      have hL128 := HL.out
      go_wp2
      go_roundw
      case rel => exact ⟨y + 1, by omega, by go_num, by rw [HAS2.out]; exact HO5.out, HB5.out⟩
      case measure => simp [intOf]; omega
     ·rw [hb] at HAS
      simp only [Bool.and_eq_true] at hb
      have hth := HYS.out hb.1 hb.2
      have HAS2 : Hid (atL ts (m : Int) (n : Int) (y + 1) = atL ts (m : Int) (n : Int) y ++ [(y : Int)]) := Lib.hid (by rw [HAS.out]; rfl)
      have HTH : Hid (thirds ts (m : Int) (n : Int) (atL ts (m : Int) (n : Int) (y + 1)) = thirds ts (m : Int) (n : Int) (atL ts (m : Int) (n : Int) y) ++ [thN (ts.getD y []) (m : Int) (n : Int)]) := Lib.hid (by rw [HAS2.out]; unfold thirds; rw [List.map_append, List.map_cons, List.map_nil, Int.toNat_natCast])
      simp only [cond_true]
      generalize thN (ts.getD y []) (m : Int) (n : Int) = z at *
      obtain ⟨hth0, _⟩ := hth
      clear hb HYS
      go_wp2_with (at_builtin; refine wpList_append_own _ rfl _ _ 33 rfl V.heap.size 2 i0 (.int .i64 0) 1 8 Tryz.underlying33 hi hz0 hz1 hz2 rfl (by decide) _ _ _ rfl (HO5.out.alloc _) ⟨wr.heap.size, 0, none⟩ 1 1 [.int .i64 z] rfl rfl ?c1 ?c2 ?c3 ?c4 ?c5 ?_)
      try (case c1 =>
       intro j u hj
       match j, hj with
       | 0, hj => simp at hj; subst hj; simp [Addr.add])
      case c2 => first | rfl | (intro u hu; simp at hu; subst hu; rfl)
      case c3 => have := HL.out; unfold maxLen; omega
      case c4 => have := HL.out; omega
      case c5 => simp; omega
      ·intro v' w7 hown' hgrow _
       have hB7 : Below V.heap.size V (wr.alloc (.cells #[.int .i64 z] 2)) := HB5.out.alloc hsz5 _
       have HB7 := Lib.hid (hB7.grown hgrow hB7.size (fun q hq => (HO5.out.lt q hq).1))
       have HO7 : Hid (w7.ownsRow V.heap.size 2 1 v' (2 + (atL ts (m : Int) (n : Int) (y + 1)).length) (ints ((m : Int) :: (n : Int) :: thirds ts (m : Int) (n : Int) (atL ts (m : Int) (n : Int) (y + 1))))) := Lib.hid (by
        rw [HTH.out, HAS2.out]
        have e : ints ((m : Int) :: (n : Int) :: (thirds ts (m : Int) (n : Int) (atL ts (m : Int) (n : Int) y) ++ [z])) = ints ((m : Int) :: (n : Int) :: thirds ts (m : Int) (n : Int) (atL ts (m : Int) (n : Int) y)) ++ [.int .i64 z] := by simp [ints]
        rw [e, List.length_append, List.length_singleton, ← Nat.add_assoc]
        exact hown')
       clear hown' hgrow hB7
       have hL128 := HL.out
       go_wp2
       go_roundw
       case rel => exact ⟨y + 1, by omega, by go_num, HO7.out, HB7.out⟩
       case measure => simp [intOf]; omega
    ·obtain rfl : y = tl := by omega
     have htl := HTL.out
     have hIE := HE.out.below HB5.out
     have HIE := Lib.hid hIE
     obtain ⟨va, vc, hva⟩ := owns_slice hO5
     obtain ⟨sz, hsz⟩ : ∃ sz, (atL ts (m : Int) (n : Int) y).length = sz := ⟨_, rfl⟩
     rw [hsz] at hva hal
     have hH : isH ts ((m : Int), (n : Int)) = decide (sz = 2) := by unfold isH; rw [htl, hsz]
     have hrw : hrow ts ((m : Int), (n : Int)) = (m : Int) :: (n : Int) :: thirds ts (m : Int) (n : Int) (atL ts (m : Int) (n : Int) y) := by unfold hrow; rw [htl]
     have hK := HKS.out
     rw [HEK.out, hH] at hK
     have HK := Lib.hid hK
     have HRW := Lib.hid hrw
     have HSZ := Lib.hid hsz
     have hOT := HO.out.up HB5.out
     have HOT := Lib.hid hOT
     have HELY := Lib.hid (HEL.out.below hB5)
     have HSY : Hid (w2.heap.size ≤ wr.heap.size) := Lib.hid (Nat.le_trans HS2.out hB5.size)
     clear hA hIE hsz hH hrw hK hOT hB5
     have hL128 := HL.out
     by_cases h4 : sz = 2
     ·have h4' : (((2 + sz : Nat) : Int) == 4) = true := by simp [h4]
      subst hva
      subst h4
      have hl4 : ((m : Int) :: (n : Int) :: thirds ts (m : Int) (n : Int) (atL ts (m : Int) (n : Int) y)).length = 4 := by simp [thirds, HSZ.out]
      have ho5 : wr.ownsRow V.heap.size 2 1 (.slice va 4 vc) ((m : Int) :: (n : Int) :: thirds ts (m : Int) (n : Int) (atL ts (m : Int) (n : Int) y)).length (ints ((m : Int) :: (n : Int) :: thirds ts (m : Int) (n : Int) (atL ts (m : Int) (n : Int) y))) := by
       rw [HSZ.out] at hO5
       rw [hl4]
       exact hO5
      have HO5 := Lib.hid ho5
      clear hO5 ho5 hl4
      have HKY : Hid (hgK ts ps (k + 1) = hgK ts ps k ++ [(m : Int) :: (n : Int) :: thirds ts (m : Int) (n : Int) (atL ts (m : Int) (n : Int) y)]) := Lib.hid (by rw [HK.out, ← HRW.out]; rfl)
      obtain ⟨rows, hrow, hrows⟩ := HOT.out.congr (us := hgK ts ps k ++ [(m : Int) :: (n : Int) :: thirds ts (m : Int) (n : Int) (atL ts (m : Int) (n : Int) y)]) (fun j hj => getD_app hj)
      have HROW := Lib.hid hrow
      have HROWS := Lib.hid hrows
      have hkl := HKL.out
      have hps := HLEN.out
      have hbw := HBW.out.size
      clear hrow hrows
      go_wp2_with (at_builtin; refine wpList_append_own_at _ rfl _ _ 23 rfl w.heap.size 33 j0 (.slice none 0 0) 1 24 Tryz.underlying23 hj hy0 hy1 hy2 rfl (by decide) _ _ _ rfl (HROW.out.alloc _) ⟨wr.heap.size, 0, none⟩ 1 1 [.slice va 4 vc] rfl rfl ?d1 ?d2 ?d3 ?d4 ?d5 ?_)
      try (case d1 =>
       intro j u hj
       match j, hj with
       | 0, hj => simp at hj; subst hj; simp [Addr.add])
      case d2 => first | rfl | (intro u hu; simp at hu; subst hu; rfl)
      case d3 => unfold maxLen; omega
      case d4 => omega
      case d5 => first | omega | (simp; omega)
      ·intro v' w7 hown' hgrow _ hat
       have hAL : Below wr.heap.size wr (wr.alloc (.cells #[.slice va 4 vc] 33)) := (Below.refl _ _).alloc (Nat.le_refl _) _
       have HT7 : Hid (OwnT w.heap.size w7 v' (hgK ts ps (k + 1)).length (hgK ts ps (k + 1))) := Lib.hid (by
        rw [HKY.out, List.length_append, List.length_singleton]
        refine OwnT.snoc (HROW.out.alloc _) (fun j hj => ?_) (by rw [getD_end]; exact owns_low (owns_up HO5.out hAL) HC'.out.size) hgrow hown'
        obtain ⟨u, e1, e2⟩ := HROWS.out j hj
        exact ⟨u, e1, owns_up e2 hAL⟩)
       have hB7 : Below w.heap.size w (wr.alloc (.cells #[.slice va 4 vc] 33)) := HBW.out.alloc HBW.out.size _
       have HB7 := Lib.hid (hB7.grown hgrow hB7.size (fun q hq => (HROW.out.lt q hq).1))
       have hE7 := ts_grown (HIE.out.below hAL) (HELY.out.below hAL) hgrow HOB.out
       have HE7 := Lib.hid hE7
       have HOB7 : Hid (∀ g, v'.ownBlock = some g → g < W0.heap.size ∨ w2.heap.size ≤ g) := Lib.hid (fun g h => by
        rcases hat with hat | hat
        ·exact HOB.out g (by rw [← hat]; exact h)
        ·rw [hat] at h
         cases h
         have := HSY.out
         exact .inr (by first | omega | (simp; omega)))
       have HS7 : Hid (w2.heap.size ≤ w7.heap.size) := Lib.hid (by have h1 := HSY.out; have h2 := hgrow.size; simp at h2; omega)
       clear hown' hgrow hat hE7 hB7 hAL
       go_wp2
       go_roundw
       case rel => exact ⟨k + 1, by omega, by go_num, HT7.out, HB7.out, HE7.out.1, HE7.out.2, HOB7.out, HS7.out⟩
       case measure => simp [intOf]; omega
     ·have h4' : (((2 + sz : Nat) : Int) == 4) = false := beq_eq_false_iff_ne.2 (by omega)
      subst hva
      have HKY : Hid (hgK ts ps (k + 1) = hgK ts ps k) := Lib.hid (by rw [HK.out, decide_eq_false h4]; simp)
      have hps := HLEN.out
      clear hO5
      go_wp2
      go_roundw
      case rel => exact ⟨k + 1, by omega, by go_num, by rw [HKY.out]; exact HOT.out, HBW.out, HIE.out, HELY.out, HOB.out, HSY.out⟩
      case measure => simp [intOf]; omega
  ·obtain rfl : k = ps.length := by omega
   clear hA hO hB' hE hEL hOB hS2
   go_wp2
   go_ret
   exact ⟨⟨_, rfl, HO.out⟩, HC'.out⟩
end Go.Proofs.YtabccmobmppdnaaGreat
namespace Go.Proofs.YtabccmobmppdnaaGreat
open Go Fk Go.RowKit
set_option linter.unusedVariables false
set_option maxRecDepth 16000
theorem getD_app1 {A B : List En} {k : Nat} {d : En} (h : k < A.length) : (A ++ B).getD k d = A.getD k d := by
 rw [List.getD, List.getElem?_append_left h, List.getD]
theorem getD_app2 {A B : List En} {n k : Nat} {d : En} (h : A.length = n) : (A ++ B).getD (n + k) d = B.getD k d := by
 rw [List.getD, List.getElem?_append_right (by omega), h, Nat.add_sub_cancel_left, List.getD]
theorem ens_parts {c : Bc} {sl tl pl : Nat} {hs : List (List Int)} (h1 : c.ss.length = sl) (h2 : c.ts.length = tl) (h3 : c.zs.length = pl) (h4 : hgT c.cs c.ts = hs) :
  (ens c).length = sl + tl + hs.length + pl ∧ (∀ k, k < sl → (ens c).getD k (.sp s0) = .sp (c.ss.getD k s0)) ∧ (∀ k, k < tl → (ens c).getD (sl + k) (.sp s0) = .fi (c.ts.getD k []) c.film) ∧ (∀ k, k < hs.length → (ens c).getD (sl + tl + k) (.sp s0) = .hi (hs.getD k []) c.bend) ∧ ∀ k, k < pl → (ens c).getD (sl + tl + hs.length + k) (.sp s0) = .we (k : Int) (cls .f32 (c.zs.getD k 0)) c.fall := by
 subst h1 h2 h3 h4
 unfold ens
 have hw : ∀ n, (ensW c.zs c.fall n).length = n := fun n => by simp [ensW]
 refine ⟨by simp [hw]; omega, fun k hk => ?_, fun k hk => ?_, fun k hk => ?_, fun k hk => ?_⟩
 ·rw [getD_app1 (by simp; omega), getD_app1 (by simp; omega), getD_app1 (by simpa using hk)]
  simp [List.getD, hk]
 ·rw [getD_app1 (by simp; omega), getD_app1 (by simp; omega), getD_app2 (by simp)]
  simp [List.getD, hk]
 ·rw [getD_app1 (by simp; omega), getD_app2 (by simp)]
  simp [List.getD, hk]
 ·rw [getD_app2 (by simp; omega)]
  exact ensW_get _ _ _ _ hk
end Go.Proofs.YtabccmobmppdnaaGreat
namespace Go.Proofs.YtabccmobmppdnaaGreat
open Go Fk Go.RowKit
set_option linter.unusedVariables false
set_option maxRecDepth 8000
set_option maxHeartbeats 4000000 in
theorem l03Way (bb xb xo : Nat) (a b : Int) (lo st : Nat) (cl ce : Option Nat) (pa : Option Addr) (pl pc : Nat) (cs : List C3) (w : World) (h : IsVs w pa pl pc cs) (hbb : w.cell? ⟨bb, 0, none⟩ = some (.slice pa pl pc))
  (x0 : w.cell? ⟨xb, xo, none⟩ = some (.int .i64 a)) (x1 : w.cell? ⟨xb, xo + 1, none⟩ = some (.int .i64 b)) (x2 : w.cell? ⟨xb, xo + 2, none⟩ = some (.float .f32 lo)) (x3 : w.cell? ⟨xb, xo + 3, none⟩ = some (.float .f32 st)) (hlo : FV .f32 lo cl) (hst : FV .f32 st ce) (ha : inB pl a = true) (hb : inB pl b = true) :
  Calls Tryz.prog 164 #[.pointer (some ⟨bb, 0, none⟩), .pointer (some ⟨xb, xo, none⟩)] w fun e w' => ∃ s t u g, e = .returned (.tuple #[vv s t u, .float .f32 g]) ∧ FV3 s t u (wayC cs a b) ∧ FV .f32 g (perC (wayC cs a b) cl ce) ∧ Below w.heap.size w w' := by
 obtain ⟨i, rfl, hi⟩ := inB_nat ha
 obtain ⟨j, rfl, hj⟩ := inB_nat hb
 have uf := Tryz.underlying27
 have ui := Tryz.underlying2
 have us := Tryz.underlying166
 have ub := Tryz.underlying44
 have um := Tryz.underlying40
 have uv := Tryz.underlying42
 have hm : pl ≤ 9223372036854775807 := by have h1 := h.2.1; have h2 := h.2.2.1; unfold maxLen at h2; omega
 obtain ⟨pb, po, rfl, hcell⟩ := h.some (by omega)
 obtain ⟨p, q, r, i0, i1, i2, fi⟩ := hcell i hi
 obtain ⟨p', q', r', j0, j1, j2, fj⟩ := hcell j hj
 have r0 : V3 (w.alloc (.cells #[.float .f32 0, .float .f32 0, .float .f32 0] 42)) w.heap.size 0 0 0 := V3.new
 have b0 : Below w.heap.size w (w.alloc (.cells #[.float .f32 0, .float .f32 0, .float .f32 0] 42)) := (Below.refl _ _).alloc (Nat.le_refl _) _
 have HK := Lib.hid (And.intro b0 (And.intro r0 (And.intro (cell_below b0 hbb) (And.intro (And.intro (cell_below b0 x0) (cell_below b0 x1)) (And.intro (And.intro (cell_below b0 j0) (And.intro (cell_below b0 j1) (cell_below b0 j2))) (And.intro (cell_below b0 i0) (And.intro (cell_below b0 i1) (cell_below b0 i2))))))))
 have X2 := Lib.hid x2
 have X3 := Lib.hid x3
 have hi0 : (0 : Int) ≤ (i : Int) := by omega
 have hi1 : (i : Int) < (pl : Int) := by omega
 have hj0 : (0 : Int) ≤ (j : Int) := by omega
 have hj1 : (j : Int) < (pl : Int) := by omega
 clear h hcell r0 b0 i0 i1 i2 j0 j1 j2 hbb x0 x1 x2 x3
 go_enter Tryz.func164, Tryz.ntmps164
 go_wp2_with fail
 generalize (w.alloc (.cells #[.float .f32 0, .float .f32 0, .float .f32 0] 42)) = W at *
 refine Reg3.wp_region_mix (C := fun w' => Below w.heap.size w w' ∧ V3 w' w.heap.size 0 0 0 ∧ w'.cell? ⟨bb, 0, none⟩ = some (.slice (some ⟨pb, po, none⟩) pl pc) ∧ (w'.cell? ⟨xb, xo, none⟩ = some (.int .i64 (i : Int)) ∧ w'.cell? ⟨xb, xo + 1, none⟩ = some (.int .i64 (j : Int))) ∧ (w'.cell? ⟨pb, po + j * 3, none⟩ = some (.float .f32 p') ∧ w'.cell? ⟨pb, po + j * 3 + 1, none⟩ = some (.float .f32 q') ∧ w'.cell? ⟨pb, po + j * 3 + 2, none⟩ = some (.float .f32 r')) ∧ w'.cell? ⟨pb, po + i * 3, none⟩ = some (.float .f32 p) ∧ w'.cell? ⟨pb, po + i * 3 + 1, none⟩ = some (.float .f32 q) ∧ w'.cell? ⟨pb, po + i * 3 + 2, none⟩ = some (.float .f32 r)) (G := fun w1 w2 => ∀ nb, (∃ s t u, V3 w1 nb s t u) → ∃ s t u, V3 w2 nb s t u)
  (R := fun k v w' => match k with | 0 => v = .pointer (some ⟨bb, 0, none⟩) | 1 => v = .pointer (some ⟨bb, 0, none⟩) | 2 => v = .pointer (some ⟨bb, 0, none⟩) | 3 => v = .pointer (some ⟨bb, 0, none⟩) | 4 => v = (.slice (some ⟨pb, po, none⟩) pl pc) | 5 => v = .pointer (some ⟨xb, xo, none⟩) | 6 => v = .pointer (some ⟨xb, xo, none⟩) | 7 => v = .pointer (some ⟨xb, xo + 1, none⟩) | 8 => v = .int .i64 (j : Int) | 9 => v = .pointer (some ⟨pb, po + j * 3, none⟩) | 10 => v = vv p' q' r' | 11 => v = .pointer (some ⟨bb, 0, none⟩) | 12 => v = .pointer (some ⟨bb, 0, none⟩) | 13 => v = .pointer (some ⟨bb, 0, none⟩) | 14 => v = .pointer (some ⟨bb, 0, none⟩) | 15 => v = (.slice (some ⟨pb, po, none⟩) pl pc) | 16 => v = .pointer (some ⟨xb, xo, none⟩) | 17 => v = .pointer (some ⟨xb, xo, none⟩) | 18 => v = .pointer (some ⟨xb, xo, none⟩) | 19 => v = .int .i64 (i : Int) | 20 => v = .pointer (some ⟨pb, po + i * 3, none⟩) | 21 => v = vv p q r | 22 => ∃ s t u, v = vv s t u ∧ FV3 s t u (lessC (cs.getD j c0) (cs.getD i c0)) | 23 => ∃ nb, v = .pointer (some ⟨nb, 0, none⟩) ∧ nb ≠ w.heap.size ∧ w.heap.size ≤ nb ∧ ∃ s t u, V3 w' nb s t u | _ => True)
  (T := fun _ a w' => ∃ nb s t u, a.tmps[6]?.getD undef = .pointer (some ⟨nb, 0, none⟩) ∧ V3 w' nb s t u ∧ FV3 s t u (lessC (cs.getD j c0) (cs.getD i c0)) ∧ Below w.heap.size w w' ∧ V3 w' w.heap.size 0 0 0 ∧ nb ≠ w.heap.size) [false, false, false, false, false, false, true, false, true, true, true, true, true, true, true, true, true, true, true, true, true, true, true, true, true, true, true, true, true, true, true, false, false, false, false, false, false, false, false, false, false, false, false, false, false, false, false]
  (by kernel_rfl) (by kernel_rfl) (by kernel_rfl) ?_ ⟨below_drewN HK.out.1 1, HK.out.2⟩ ?_ ?_
 ·intro k v w1 w2 _ hG hR
  match k with
  | 0 => exact hR
  | 1 => exact hR
  | 2 => exact hR
  | 3 => exact hR
  | 4 => exact hR
  | 5 => exact hR
  | 6 => exact hR
  | 7 => exact hR
  | 8 => exact hR
  | 9 => exact hR
  | 10 => exact hR
  | 11 => exact hR
  | 12 => exact hR
  | 13 => exact hR
  | 14 => exact hR
  | 15 => exact hR
  | 16 => exact hR
  | 17 => exact hR
  | 18 => exact hR
  | 19 => exact hR
  | 20 => exact hR
  | 21 => exact hR
  | 22 => exact hR
  | 23 => obtain ⟨nb, h1, h2, h3, h4⟩ := hR; exact ⟨nb, h1, h2, h3, hG nb h4⟩
  | _ + 24 => trivial
 ·refine ⟨Reg3.Obl.mk ?_, Reg3.Obl.mk ?_, Reg3.Obl.mk ?_, Reg3.Obl.mk ?_, Reg3.Obl.mk ?_, Reg3.Obl.mk ?_, Reg3.Obl.mk ?_, Reg3.Obl.mk ?_, Reg3.Obl.mk ?_, Reg3.Obl.mk ?_, Reg3.Obl.mk ?_, Reg3.Obl.mk ?_, Reg3.Obl.mk ?_, Reg3.Obl.mk ?_, Reg3.Obl.mk ?_, Reg3.Obl.mk ?_, Reg3.Obl.mk ?_, Reg3.Obl.mk ?_, Reg3.Obl.mk ?_, Reg3.Obl.mk ?_, Reg3.Obl.mk ?_, Reg3.Obl.mk ?_, Reg3.Obl.mk ?_, Reg3.Obl.mk ?_, Reg3.Obl.mk ?_, trivial⟩
  ·rintro a w1 HC hx hd K hK
   replace HC := Lib.hid HC
   have t0 : a.tmps[0]?.getD undef = .pointer (some ⟨bb, 0, none⟩) := Reg.slot_val (hx 0 (by kernel_rfl))
   go_simp
   exact hK _ _ (fun _ => rfl) (fun h => by cases h) (fun _ => HC.out) (fun _ h => h)
  ·rintro a w1 HC hx hd K hK
   replace HC := Lib.hid HC
   have t8 : a.tmps[8]?.getD undef = .pointer (some ⟨bb, 0, none⟩) := Reg.slot_val (hd 0 (by kernel_rfl) 8 rfl)
   go_simp
   exact hK _ _ (fun _ => rfl) (fun h => by cases h) (fun _ => HC.out) (fun _ h => h)
  ·rintro a w1 HC hx hd K hK
   replace HC := Lib.hid HC
   have t9 : a.tmps[9]?.getD undef = .pointer (some ⟨bb, 0, none⟩) := Reg.slot_val (hd 1 (by kernel_rfl) 9 rfl)
   go_simp
   exact hK _ _ (fun _ => rfl) (fun h => by cases h) (fun _ => HC.out) (fun _ h => h)
  ·rintro a w1 HC hx hd K hK
   replace HC := Lib.hid HC
   have t10 : a.tmps[10]?.getD undef = .pointer (some ⟨bb, 0, none⟩) := Reg.slot_val (hd 2 (by kernel_rfl) 10 rfl)
   go_simp
   exact hK _ _ (fun _ => rfl) (fun h => by cases h) (fun _ => HC.out) (fun _ h => h)
  ·rintro a w1 HC hx hd K hK
   replace HC := Lib.hid HC
   have y := HC.out.2.2.1
   have t11 : a.tmps[11]?.getD undef = .pointer (some ⟨bb, 0, none⟩) := Reg.slot_val (hd 3 (by kernel_rfl) 11 rfl)
   go_simp
   exact hK _ _ (fun _ => rfl) (fun h => by cases h) (fun _ => HC.out) (fun _ h => h)
  ·rintro a w1 HC hx hd K hK
   replace HC := Lib.hid HC
   have t1 : a.tmps[1]?.getD undef = .pointer (some ⟨xb, xo, none⟩) := Reg.slot_val (hx 1 (by kernel_rfl))
   go_simp
   exact hK _ _ (fun _ => rfl) (fun h => by cases h) (fun _ => HC.out) (fun _ h => h)
  ·rintro a w1 HC hx hd K hK
   replace HC := Lib.hid HC
   have t13 : a.tmps[13]?.getD undef = .pointer (some ⟨xb, xo, none⟩) := Reg.slot_val (hd 5 (by kernel_rfl) 13 rfl)
   go_simp
   exact hK _ _ (fun _ => rfl) (fun h => by cases h) (fun _ => HC.out) (fun _ h => h)
  ·rintro a w1 HC hx hd K hK
   replace HC := Lib.hid HC
   have t14 : a.tmps[14]?.getD undef = .pointer (some ⟨xb, xo, none⟩) := Reg.slot_val (hd 6 (by kernel_rfl) 14 rfl)
   go_simp
   exact hK _ _ (fun _ => rfl) (fun h => by cases h) (fun _ => HC.out) (fun _ h => h)
  ·rintro a w1 HC hx hd K hK
   replace HC := Lib.hid HC
   have y := HC.out.2.2.2.1.2
   have t15 : a.tmps[15]?.getD undef = .pointer (some ⟨xb, xo + 1, none⟩) := Reg.slot_val (hd 7 (by kernel_rfl) 15 rfl)
   go_simp
   exact hK _ _ (fun _ => rfl) (fun h => by cases h) (fun _ => HC.out) (fun _ h => h)
  ·rintro a w1 HC hx hd K hK
   replace HC := Lib.hid HC
   have t12 : a.tmps[12]?.getD undef = (.slice (some ⟨pb, po, none⟩) pl pc) := Reg.slot_val (hd 4 (by kernel_rfl) 12 rfl)
   have t16 : a.tmps[16]?.getD undef = .int .i64 (j : Int) := Reg.slot_val (hd 8 (by kernel_rfl) 16 rfl)
   go_simp
   exact hK _ _ (fun _ => rfl) (fun h => by cases h) (fun _ => HC.out) (fun _ h => h)
  ·rintro a w1 HC hx hd K hK
   replace HC := Lib.hid HC
   obtain ⟨y0, y1, y2⟩ := HC.out.2.2.2.2.1
   have t17 : a.tmps[17]?.getD undef = .pointer (some ⟨pb, po + j * 3, none⟩) := Reg.slot_val (hd 9 (by kernel_rfl) 17 rfl)
   go_simp
   exact hK _ _ (fun _ => rfl) (fun h => by cases h) (fun _ => HC.out) (fun _ h => h)
  ·rintro a w1 HC hx hd K hK
   replace HC := Lib.hid HC
   have t0 : a.tmps[0]?.getD undef = .pointer (some ⟨bb, 0, none⟩) := Reg.slot_val (hx 0 (by kernel_rfl))
   go_simp
   exact hK _ _ (fun _ => rfl) (fun h => by cases h) (fun _ => HC.out) (fun _ h => h)
  ·rintro a w1 HC hx hd K hK
   replace HC := Lib.hid HC
   have t19 : a.tmps[19]?.getD undef = .pointer (some ⟨bb, 0, none⟩) := Reg.slot_val (hd 11 (by kernel_rfl) 19 rfl)
   go_simp
   exact hK _ _ (fun _ => rfl) (fun h => by cases h) (fun _ => HC.out) (fun _ h => h)
  ·rintro a w1 HC hx hd K hK
   replace HC := Lib.hid HC
   have t20 : a.tmps[20]?.getD undef = .pointer (some ⟨bb, 0, none⟩) := Reg.slot_val (hd 12 (by kernel_rfl) 20 rfl)
   go_simp
   exact hK _ _ (fun _ => rfl) (fun h => by cases h) (fun _ => HC.out) (fun _ h => h)
  ·rintro a w1 HC hx hd K hK
   replace HC := Lib.hid HC
   have t21 : a.tmps[21]?.getD undef = .pointer (some ⟨bb, 0, none⟩) := Reg.slot_val (hd 13 (by kernel_rfl) 21 rfl)
   go_simp
   exact hK _ _ (fun _ => rfl) (fun h => by cases h) (fun _ => HC.out) (fun _ h => h)
  ·rintro a w1 HC hx hd K hK
   replace HC := Lib.hid HC
   have y := HC.out.2.2.1
   have t22 : a.tmps[22]?.getD undef = .pointer (some ⟨bb, 0, none⟩) := Reg.slot_val (hd 14 (by kernel_rfl) 22 rfl)
   go_simp
   exact hK _ _ (fun _ => rfl) (fun h => by cases h) (fun _ => HC.out) (fun _ h => h)
  ·rintro a w1 HC hx hd K hK
   replace HC := Lib.hid HC
   have t1 : a.tmps[1]?.getD undef = .pointer (some ⟨xb, xo, none⟩) := Reg.slot_val (hx 1 (by kernel_rfl))
   go_simp
   exact hK _ _ (fun _ => rfl) (fun h => by cases h) (fun _ => HC.out) (fun _ h => h)
  ·rintro a w1 HC hx hd K hK
   replace HC := Lib.hid HC
   have t24 : a.tmps[24]?.getD undef = .pointer (some ⟨xb, xo, none⟩) := Reg.slot_val (hd 16 (by kernel_rfl) 24 rfl)
   go_simp
   exact hK _ _ (fun _ => rfl) (fun h => by cases h) (fun _ => HC.out) (fun _ h => h)
  ·rintro a w1 HC hx hd K hK
   replace HC := Lib.hid HC
   have t25 : a.tmps[25]?.getD undef = .pointer (some ⟨xb, xo, none⟩) := Reg.slot_val (hd 17 (by kernel_rfl) 25 rfl)
   go_simp
   exact hK _ _ (fun _ => rfl) (fun h => by cases h) (fun _ => HC.out) (fun _ h => h)
  ·rintro a w1 HC hx hd K hK
   replace HC := Lib.hid HC
   have y := HC.out.2.2.2.1.1
   have t26 : a.tmps[26]?.getD undef = .pointer (some ⟨xb, xo, none⟩) := Reg.slot_val (hd 18 (by kernel_rfl) 26 rfl)
   go_simp
   exact hK _ _ (fun _ => rfl) (fun h => by cases h) (fun _ => HC.out) (fun _ h => h)
  ·rintro a w1 HC hx hd K hK
   replace HC := Lib.hid HC
   have t23 : a.tmps[23]?.getD undef = (.slice (some ⟨pb, po, none⟩) pl pc) := Reg.slot_val (hd 15 (by kernel_rfl) 23 rfl)
   have t27 : a.tmps[27]?.getD undef = .int .i64 (i : Int) := Reg.slot_val (hd 19 (by kernel_rfl) 27 rfl)
   go_simp
   exact hK _ _ (fun _ => rfl) (fun h => by cases h) (fun _ => HC.out) (fun _ h => h)
  ·rintro a w1 HC hx hd K hK
   replace HC := Lib.hid HC
   obtain ⟨y0, y1, y2⟩ := HC.out.2.2.2.2.2
   have t28 : a.tmps[28]?.getD undef = .pointer (some ⟨pb, po + i * 3, none⟩) := Reg.slot_val (hd 20 (by kernel_rfl) 28 rfl)
   go_simp
   exact hK _ _ (fun _ => rfl) (fun h => by cases h) (fun _ => HC.out) (fun _ h => h)
  ·rintro a w1 HC hx hd K hK
   replace HC := Lib.hid HC
   have t18 : a.tmps[18]?.getD undef = vv p' q' r' := Reg.slot_val (hd 10 (by kernel_rfl) 18 rfl)
   have t29 : a.tmps[29]?.getD undef = vv p q r := Reg.slot_val (hd 21 (by kernel_rfl) 29 rfl)
   go_simp
   refine (l01Less _ _ _ _ _ _ _ _ _ _ _ _ _ fj.1 fj.2.1 fj.2.2 fi.1 fi.2.1 fi.2.2).mono ?_
   rintro e w2 ⟨ax, ay, az, rfl, fx, fy, fz, hB1⟩
   obtain ⟨hB, hR, c0, ⟨c1, c2⟩, ⟨z0, z1, z2⟩, z3, z4, z5⟩ := HC.out
   exact hK _ _ (fun _ => ⟨ax, ay, az, rfl, fx, fy, fz⟩) (fun h => by cases h) (fun _ => ⟨hB.trans (hB1.mono hB.size), hR.below hB1, cell_below hB1 c0, ⟨cell_below hB1 c1, cell_below hB1 c2⟩, ⟨cell_below hB1 z0, cell_below hB1 z1, cell_below hB1 z2⟩, cell_below hB1 z3, cell_below hB1 z4, cell_below hB1 z5⟩) (fun nb ⟨s, t, u, h⟩ => ⟨s, t, u, h.below hB1⟩)
  ·rintro a w1 HC hx hd K hK
   replace HC := Lib.hid HC
   go_simp
   obtain ⟨hB, hR, c0, ⟨c1, c2⟩, ⟨z0, z1, z2⟩, z3, z4, z5⟩ := HC.out
   exact hK _ _ (fun _ => ⟨_, rfl, Nat.ne_of_gt (Nat.lt_of_lt_of_le hR.lt (Nat.le_refl _)), Nat.le_trans (Nat.le_refl _) hB.size, 0, 0, 0, V3.new⟩) (fun h => by cases h) (fun _ => ⟨below_new hB (Nat.le_refl _), hR.alloc, cell_alloc c0, ⟨cell_alloc c1, cell_alloc c2⟩, ⟨cell_alloc z0, cell_alloc z1, cell_alloc z2⟩, cell_alloc z3, cell_alloc z4, cell_alloc z5⟩) (fun nb ⟨s, t, u, h⟩ => ⟨s, t, u, h.alloc⟩)
  ·rintro a w1 HC hx hd K hK
   replace HC := Lib.hid HC
   obtain ⟨nb, gA, hne, hge, v0, v1, v2, hV⟩ := hd 23 (by kernel_rfl) 6 rfl
   have t6 := Reg.slot_val gA
   obtain ⟨s, t, u, g5, hG⟩ := hd 22 (by kernel_rfl) 30 rfl
   have t30 := Reg.slot_val g5
   clear g5 gA
   have HP := Lib.hid (hV.put (p := s) (q := t) (r := u))
   have HR := Lib.hid (HC.out.2.1.far (n := nb) (u := .float .f32 s) (v := .float .f32 t) (t := .float .f32 u) hne)
   have HB2 := Lib.hid (below_set3 (n := nb) (o1 := 0) (o2 := 1) (o3 := 2) (u := .float .f32 s) (v := .float .f32 t) (t := .float .f32 u) HC.out.1 hge)
   have HV := Lib.hid hV
   have hlt := hV.lt
   obtain ⟨⟨u0, u1, u2⟩, uf⟩ := hV
   have uf0 := uf 0
   have uf1 := uf 1
   have uf2 := uf 2
   have HG := Lib.hid hG
   have HNE := Lib.hid hne
   clear uf hG hne hge
   go_simp
   refine hK undef _ (fun h => absurd rfl h) (fun _ => ⟨nb, s, t, u, t6, HP.out, HG.out, HB2.out, HR.out, HNE.out⟩) (fun h => absurd rfl h) ?_
   rintro nb' ⟨s', t', u', h⟩
   by_cases hb : nb = nb'
   ·subst hb; exact ⟨s, t, u, HP.out⟩
   ·exact ⟨s', t', u', h.far hb⟩
 ·rintro f w1 hd hT
  obtain ⟨nb, s, t, u, h6, hV, hG, hB, hR, hne⟩ := hT 24 (by kernel_rfl) (by decide)
  have h6' : f 6 = .pointer (some ⟨nb, 0, none⟩) := h6
  simp only [Reg.mixL, h6']
  have X2' := Lib.hid (cell_below hB X2.out)
  have X3' := Lib.hid (cell_below hB X3.out)
  have HB := Lib.hid hB
  have HG := Lib.hid hG
  have HV := Lib.hid hV
  have HR := Lib.hid hR
  have HNE := Lib.hid hne
  obtain ⟨⟨v0, v1, v2⟩, -⟩ := hV
  clear hB hG hR hne hd hT h6 h6'
  go_wp2_with fail
  refine (l01Long _ _ _ _ _ _ _ HG.out.1 HG.out.2.1 HG.out.2.2).mono ?_
  rintro e w2 ⟨l, rfl, hl, hB2⟩
  have XLT : RowKit.Hid (xb < w.heap.size) := Lib.hid (World.block_lt_of_cell? _ _ X2.out)
  have HK2 := Lib.hid (And.intro (HB.out.trans (hB2.mono HB.out.size)) (And.intro (HV.out.below hB2) (And.intro (HR.out.below hB2) (And.intro (cell_below hB2 X2'.out) (cell_below hB2 X3'.out)))))
  clear hB2 v0 v1 v2
  go_wp2_with fail
  refine Reg2.wp_region_mix (C := fun w' => Below w.heap.size w w' ∧ V3 w' nb s t u ∧ (∃ a b c, V3 w' w.heap.size a b c) ∧ w'.cell? ⟨xb, xo + 2, none⟩ = some (.float .f32 lo) ∧ w'.cell? ⟨xb, xo + 3, none⟩ = some (.float .f32 st)) (G := fun w1 w2 => V3 w1 w.heap.size s t u → V3 w2 w.heap.size s t u)
   (R := fun k v w' => match k with | 0 => v = vv s t u | 1 => v = .pointer (some ⟨xb, xo, none⟩) | 2 => v = .pointer (some ⟨xb, xo, none⟩) | 3 => v = .pointer (some ⟨xb, xo + 3, none⟩) | 4 => v = .float .f32 st | 5 => v = .float .f32 l | 6 => v = .pointer (some ⟨xb, xo, none⟩) | 7 => v = .pointer (some ⟨xb, xo, none⟩) | 8 => v = .pointer (some ⟨xb, xo + 2, none⟩) | 9 => v = .float .f32 lo | 12 => v = .float .f32 l | 10 => isF (fop .sub .f32 (longC (lessC (cs.getD j c0) (cs.getD i c0))) cl) v | 11 => isF (fop .mul .f32 ce (fop .sub .f32 (longC (lessC (cs.getD j c0) (cs.getD i c0))) cl)) v | 13 => isF (gainC (fop .mul .f32 ce (fop .sub .f32 (longC (lessC (cs.getD j c0) (cs.getD i c0))) cl)) (longC (lessC (cs.getD j c0) (cs.getD i c0)))) v | 15 => isF (gainC (fop .mul .f32 ce (fop .sub .f32 (longC (lessC (cs.getD j c0) (cs.getD i c0))) cl)) (longC (lessC (cs.getD j c0) (cs.getD i c0)))) v | _ => True)
   (T := fun _ w' => V3 w' w.heap.size s t u) [false, false, false, false, false, true, false, false, false, false, false, false, false, false, false, false, false, false, false, false, false, false, false, false, false, false, false, false, false, false, false, false, false, true, true, true, true, true, true, true, true, true, true, true, true, true, true]
   (by kernel_rfl) (by kernel_rfl) (by kernel_rfl) (fun _ _ _ _ _ _ h => h) (fun _ _ _ _ hG hT => hG hT) ⟨below_drewN HK2.out.1 1, HK2.out.2.1, ⟨0, 0, 0, HK2.out.2.2.1⟩, HK2.out.2.2.2⟩ ?_ ?_
  ·refine ⟨Reg2.Obl.mk ?_, Reg2.Obl.mk ?_, Reg2.Obl.mk ?_, Reg2.Obl.mk ?_, Reg2.Obl.mk ?_, Reg2.Obl.mk ?_, Reg2.Obl.mk ?_, Reg2.Obl.mk ?_, Reg2.Obl.mk ?_, Reg2.Obl.mk ?_, Reg2.Obl.mk ?_, Reg2.Obl.mk ?_, Reg2.Obl.mk ?_, Reg2.Obl.mk ?_, Reg2.Obl.mk ?_, Reg2.Obl.mk ?_, trivial⟩
   ·rintro a w1 HC hx hd K hK
    replace HC := Lib.hid HC
    obtain ⟨⟨y0, y1, y2⟩, -⟩ := HC.out.2.1
    have t6 : a.tmps[6]?.getD undef = .pointer (some ⟨nb, 0, none⟩) := Reg.slot_val (hx 6 (by kernel_rfl))
    go_simp
    exact hK _ _ (fun _ => rfl) (fun h => by cases h) HC.out (fun h => h)
   ·rintro a w1 HC hx hd K hK
    replace HC := Lib.hid HC
    have t1 : a.tmps[1]?.getD undef = .pointer (some ⟨xb, xo, none⟩) := Reg.slot_val (hx 1 (by kernel_rfl))
    go_simp
    exact hK _ _ (fun _ => rfl) (fun h => by cases h) HC.out (fun h => h)
   ·rintro a w1 HC hx hd K hK
    replace HC := Lib.hid HC
    have t34 : a.tmps[34]?.getD undef = .pointer (some ⟨xb, xo, none⟩) := Reg.slot_val (hd 1 (by kernel_rfl) 34 rfl)
    go_simp
    exact hK _ _ (fun _ => rfl) (fun h => by cases h) HC.out (fun h => h)
   ·rintro a w1 HC hx hd K hK
    replace HC := Lib.hid HC
    have t35 : a.tmps[35]?.getD undef = .pointer (some ⟨xb, xo, none⟩) := Reg.slot_val (hd 2 (by kernel_rfl) 35 rfl)
    go_simp
    exact hK _ _ (fun _ => rfl) (fun h => by cases h) HC.out (fun h => h)
   ·rintro a w1 HC hx hd K hK
    replace HC := Lib.hid HC
    have y := HC.out.2.2.2.2
    have t36 : a.tmps[36]?.getD undef = .pointer (some ⟨xb, xo + 3, none⟩) := Reg.slot_val (hd 3 (by kernel_rfl) 36 rfl)
    go_simp
    exact hK _ _ (fun _ => rfl) (fun h => by cases h) HC.out (fun h => h)
   ·rintro a w1 HC hx hd K hK
    replace HC := Lib.hid HC
    have t7 : a.tmps[7]?.getD undef = .float .f32 l := Reg.slot_val (hx 7 (by kernel_rfl))
    go_simp
    exact hK _ _ (fun _ => rfl) (fun h => by cases h) HC.out (fun h => h)
   ·rintro a w1 HC hx hd K hK
    replace HC := Lib.hid HC
    have t1 : a.tmps[1]?.getD undef = .pointer (some ⟨xb, xo, none⟩) := Reg.slot_val (hx 1 (by kernel_rfl))
    go_simp
    exact hK _ _ (fun _ => rfl) (fun h => by cases h) HC.out (fun h => h)
   ·rintro a w1 HC hx hd K hK
    replace HC := Lib.hid HC
    have t39 : a.tmps[39]?.getD undef = .pointer (some ⟨xb, xo, none⟩) := Reg.slot_val (hd 6 (by kernel_rfl) 39 rfl)
    go_simp
    exact hK _ _ (fun _ => rfl) (fun h => by cases h) HC.out (fun h => h)
   ·rintro a w1 HC hx hd K hK
    replace HC := Lib.hid HC
    have t40 : a.tmps[40]?.getD undef = .pointer (some ⟨xb, xo, none⟩) := Reg.slot_val (hd 7 (by kernel_rfl) 40 rfl)
    go_simp
    exact hK _ _ (fun _ => rfl) (fun h => by cases h) HC.out (fun h => h)
   ·rintro a w1 HC hx hd K hK
    replace HC := Lib.hid HC
    have y := HC.out.2.2.2.1
    have t41 : a.tmps[41]?.getD undef = .pointer (some ⟨xb, xo + 2, none⟩) := Reg.slot_val (hd 8 (by kernel_rfl) 41 rfl)
    go_simp
    exact hK _ _ (fun _ => rfl) (fun h => by cases h) HC.out (fun h => h)
   ·rintro a w1 HC hx hd K hK
    replace HC := Lib.hid HC
    have t38 : a.tmps[38]?.getD undef = .float .f32 l := Reg.slot_val (hd 5 (by kernel_rfl) 38 rfl)
    have t42 : a.tmps[42]?.getD undef = .float .f32 lo := Reg.slot_val (hd 9 (by kernel_rfl) 42 rfl)
    go_simp
    exact hK _ _ (fun _ => ⟨_, rfl, FV_fR hl hlo⟩) (fun h => by cases h) ⟨below_drewN HC.out.1 _, HC.out.2⟩ (fun h => h)
   ·rintro a w1 HC hx hd K hK
    replace HC := Lib.hid HC
    have t37 : a.tmps[37]?.getD undef = .float .f32 st := Reg.slot_val (hd 4 (by kernel_rfl) 37 rfl)
    obtain ⟨r43, g43, f43⟩ := hd 10 (by kernel_rfl) 43 rfl
    have t43 := Reg.slot_val g43
    clear g43
    go_simp
    exact hK _ _ (fun _ => ⟨_, rfl, FV_fR hst f43⟩) (fun h => by cases h) ⟨below_drewN HC.out.1 _, HC.out.2⟩ (fun h => h)
   ·rintro a w1 HC hx hd K hK
    replace HC := Lib.hid HC
    have t7 : a.tmps[7]?.getD undef = .float .f32 l := Reg.slot_val (hx 7 (by kernel_rfl))
    go_simp
    exact hK _ _ (fun _ => rfl) (fun h => by cases h) HC.out (fun h => h)
   ·rintro a w1 HC hx hd K hK
    replace HC := Lib.hid HC
    have t45 : a.tmps[45]?.getD undef = .float .f32 l := Reg.slot_val (hd 12 (by kernel_rfl) 45 rfl)
    obtain ⟨r44, g44, f44⟩ := hd 11 (by kernel_rfl) 44 rfl
    have t44 := Reg.slot_val g44
    clear g44
    go_simp
    refine (l03Gain _ _ _ _ _ f44 hl).mono ?_
    rintro e w3 ⟨z, rfl, hz, n3, hw3⟩
    exact hK _ _ (fun _ => ⟨z, rfl, hz⟩) (fun h => by cases h) (by rw [hw3]; exact ⟨below_drewN HC.out.1 _, HC.out.2⟩) (by rw [hw3]; exact fun h => h)
   ·rintro a w1 HC hx hd K hK
    replace HC := Lib.hid HC
    have t4 : a.tmps[4]?.getD undef = .pointer (some ⟨w.heap.size, 0, none⟩) := Reg.slot_val (hx 4 (by kernel_rfl))
    have t33 : a.tmps[33]?.getD undef = vv s t u := Reg.slot_val (hd 0 (by kernel_rfl) 33 rfl)
    obtain ⟨hB, hV, ⟨r0, r1, r2, hR⟩, c2, c3⟩ := HC.out
    have HP := Lib.hid (hR.put (p := s) (q := t) (r := u))
    have HB2 := Lib.hid (below_set3 (n := w.heap.size) (o1 := 0) (o2 := 1) (o3 := 2) (u := .float .f32 s) (v := .float .f32 t) (t := .float .f32 u) hB (Nat.le_refl _))
    have HV2 := Lib.hid (hV.far (n := w.heap.size) (u := .float .f32 s) (v := .float .f32 t) (t := .float .f32 u) (Ne.symm HNE.out))
    have HC2 := Lib.hid (And.intro (cell_set (a := ⟨w.heap.size, 2, none⟩) (u := .float .f32 u) (Ne.symm (Nat.ne_of_lt XLT.out)) (cell_set (a := ⟨w.heap.size, 1, none⟩) (u := .float .f32 t) (Ne.symm (Nat.ne_of_lt XLT.out)) (cell_set (a := ⟨w.heap.size, 0, none⟩) (u := .float .f32 s) (Ne.symm (Nat.ne_of_lt XLT.out)) c2))) (cell_set (a := ⟨w.heap.size, 2, none⟩) (u := .float .f32 u) (Ne.symm (Nat.ne_of_lt XLT.out)) (cell_set (a := ⟨w.heap.size, 1, none⟩) (u := .float .f32 t) (Ne.symm (Nat.ne_of_lt XLT.out)) (cell_set (a := ⟨w.heap.size, 0, none⟩) (u := .float .f32 s) (Ne.symm (Nat.ne_of_lt XLT.out)) c3))))
    obtain ⟨⟨u0, u1, u2⟩, uf⟩ := hR
    have uf0 := uf 0
    have uf1 := uf 1
    have uf2 := uf 2
    clear uf hB hV c2 c3
    go_simp
    exact hK undef _ (fun h => absurd rfl h) (fun _ => HP.out) ⟨HB2.out, HV2.out, ⟨_, _, _, HP.out⟩, HC2.out⟩ (fun _ => HP.out)
   ·rintro a w1 HC hx hd K hK
    replace HC := Lib.hid HC
    obtain ⟨r46, g46, f46⟩ := hd 13 (by kernel_rfl) 46 rfl
    have t46 := Reg.slot_val g46
    clear g46
    go_simp
    exact hK _ _ (fun _ => ⟨_, rfl, f46⟩) (fun h => by cases h) HC.out (fun h => h)
  ·rintro f w3 hC hd hT
   have hV3 := hT 14 rfl (by decide)
   obtain ⟨g, h5, hg⟩ := hd 15 5 rfl
   simp only [Reg.mixL, h5]
   obtain ⟨⟨m0, m1, m2⟩, -⟩ := hV3
   have HB3 := Lib.hid hC.1
   clear hC hd hT
   go_wp2
   refine bodyPost_ret (v := .tuple #[vv s t u, .float .f32 g]) (by simp [results, Tryz.results164, go_sem, m0, m1, m2]) rfl ⟨s, t, u, g, rfl, HG.out, hg, HB3.out⟩
end Go.Proofs.YtabccmobmppdnaaGreat
namespace Go.Proofs.YtabccmobmppdnaaGreat
open Go Fk Go.RowKit
set_option linter.unusedVariables false
set_option maxRecDepth 16000
def filmJ (cs X : List C3) (t : List Int) (P : Option Nat) : Nat → List C3
 | 0 => X
 | j + 1 => addAt (filmJ cs X t P j) (t.getD j 0).toNat (scaleC (crossC (normalC cs t) (lessC (placeC cs (t.getD ((j + 2) % 3) 0)) (placeC cs (t.getD ((j + 1) % 3) 0)))) P)
theorem filmJ_len (cs X : List C3) (t : List Int) (P : Option Nat) : ∀ j, (filmJ cs X t P j).length = X.length
 | 0 => rfl
 | j + 1 => by unfold filmJ; rw [addAt_len, filmJ_len cs X t P j]
theorem filmJ_3 (cs X : List C3) (t : List Int) (f : Option Nat) : filmJ cs X t (gainC (negC32 (fop .mul .f32 halfC f)) (longC (normalC cs t))) 3 = (En.fi t f).add cs X := rfl
set_option maxHeartbeats 16000000 in
theorem l03Forces (pb : Nat) (B : Bd) (c : Bc) (w : World) (A : At w pb B.l) (h : IsB w B c) (hb : bodyB c = true) :
  Calls Tryz.prog 122 #[.pointer (some ⟨pb, 0, none⟩)] w fun e w' => ∃ g, e = .returned (.slice (some ⟨g, 0, none⟩) B.pl B.pl) ∧ St w [] g (addsF c.cs (List.replicate B.pl (some 0, some 0, some 0)) (ens c)) w' := by
 have uib := Tryz.underlying44
 have um := Tryz.underlying40
 have uv := Tryz.underlying42
 have us := Tryz.underlying166
 have u32 := Tryz.underlying27
 obtain ⟨hvb, hzl⟩ := body_valid hb
 obtain ⟨v1, v2⟩ := body_ss hb
 obtain ⟨w1, w2⟩ := valid_pl hvb
 have hh4 := hgT_len hvb
 obtain ⟨k1, k2, k3, k4⟩ := h.lens
 have hpl : c.cs.length = B.pl := k1
 rw [hpl, k3] at v2
 have V2 := Lib.hid v2
 have HWR : Hid (∀ k, k < B.tl → triB B.pl (c.ts.getD k []) = true) := Lib.hid (fun k hk => by
  have h1 : k < c.ts.length := by omega
  have := valid_rowh hvb h1
  rwa [hpl] at this)
 have HRH : Hid (∀ k, k < (hgT c.cs c.ts).length → ((hgT c.cs c.ts).getD k []).length = 4 ∧ (∀ z ∈ (hgT c.cs c.ts).getD k [], (Lit.int .i64 z).wf = true) ∧ ∀ i, i < 4 → inB B.pl (((hgT c.cs c.ts).getD k []).getD i 0) = true) := Lib.hid (fun k hk => by
  have hm : (hgT c.cs c.ts).getD k [] ∈ hgT c.cs c.ts := by
   rw [List.getD, List.getElem?_eq_getElem hk]
   exact List.getElem_mem _
  generalize (hgT c.cs c.ts).getD k [] = r at *
  unfold hgT at hm
  rw [hvb, cond_true] at hm
  obtain ⟨a, b, hab, hbn, rfl, h4⟩ := hgK_mem hm
  have hl := hrow_four h4
  have hin := hrow_in (n := c.cs.length) (fun i (hi : i < c.ts.length) => tri3_of (valid_rowh hvb hi)) hab hbn
  refine ⟨hl, fun z hz => WalkArith.wf_i64 (by have := hin z hz; omega), fun i hi => ?_⟩
  generalize hrow c.ts ((a : Int), (b : Int)) = r at *
  have hm2 : r.getD i 0 ∈ r := by
   have hir : i < r.length := by omega
   rw [List.getD, List.getElem?_eq_getElem hir]
   exact List.getElem_mem _
  have := hin _ hm2
  unfold inB
  exact decide_eq_true ⟨this.1, by omega⟩)
 have HHG : Hid (∀ w1 : World, Below w.heap.size w w1 → Calls Tryz.prog 168 #[.pointer (some ⟨pb, 0, none⟩)] w1 fun e w' => (∃ v, e = .returned v ∧ OwnT w1.heap.size w' v (hgT c.cs c.ts).length (hgT c.cs c.ts)) ∧ Below w1.heap.size w1 w') := Lib.hid (fun w1 hB => l03Hinges pb B.pa B.ta B.pl B.pc B.tl B.tc c.cs c.ts w1 (cell_below hB (A 0 _ rfl)) (cell_below hB (A 1 _ rfl)) (h.below hB).1 (h.below hB).2.1 hvb)
 generalize hhs : hgT c.cs c.ts = hs at *
 obtain ⟨e0, e1, e2, e3, e4⟩ := ens_parts k3 k2 (k4.trans (k4.symm.trans (hzl.trans hpl))) hhs
 generalize ens c = es at *
 have EL := Lib.hid e0
 have E1 := Lib.hid e1
 have E2 := Lib.hid e2
 have E3 := Lib.hid e3
 have E4 := Lib.hid e4
 have HWL : Hid (B.wl = B.pl) := Lib.hid (by omega)
 have HLEN : Hid (B.sl ≤ 200 ∧ B.tl ≤ 128 ∧ B.pl ≤ 64 ∧ hs.length ≤ 4096) := Lib.hid (by omega)
 have HA := Lib.hid A
 have H := Lib.hid h
 have hmk := make_vecs w B.pl (by have := HLEN.out; omega)
 have hS0 : St w [] w.heap.size (List.replicate B.pl (some 0, some 0, some 0)) (w.alloc (.cells (madeCells #[.float .f32 0, .float .f32 0, .float .f32 0] (B.pl * 3)) 42)) := St.of (Bx.nil w) ((Below.refl _ _).alloc (Nat.le_refl _) _) (Nat.le_refl _) (OwnVs.made (by have := HLEN.out; omega))
 have S0 := Lib.hid hS0
 have a0 := A 0 _ rfl
 have a2 := cell_below S0.out.bel (A 2 _ rfl)
 clear v1 v2 w1 w2 hh4 k1 k2 k3 k4 hpl e0 e1 e2 e3 e4 h A hb hvb hzl hhs hS0
 go_enter Tryz.func122, Tryz.ntmps122
 go_wp2
 clear a0 a2 hmk
 generalize (w.alloc (.cells (madeCells #[.float .f32 0, .float .f32 0, .float .f32 0] (B.pl * 3)) 42)) = W at *
 have hz : (List.replicate B.pl ((some 0, some 0, some 0) : C3)).length = B.pl := by simp
 generalize hX0 : List.replicate B.pl ((some 0, some 0, some 0) : C3) = X0 at S0 hz
 have HX0 := Lib.hid hX0
 have HZ := Lib.hid hz
 generalize hg : w.heap.size = g at S0 ⊢
 clear hX0 hz hg
 go_loopw [34] (fun i w' => ∃ k : Nat, k ≤ B.sl ∧ i = .int .i64 k ∧ Aside (St w [] g (addsF c.cs X0 (es.take k)) w')) (fun i _ => B.sl - (intOf i).toNat)
 case atStart => exact ⟨0, Nat.zero_le _, rfl, S0.out⟩
 case round =>
  obtain ⟨k, hk, rfl, hA⟩ := hrel
  have S1 := Lib.hid hA.out
  clear hA S0
  by_cases hlt : k < B.sl
  ·have hIB := H.out
   obtain ⟨bs, os, hbs, hsp⟩ := hIB.2.2.1.some (by omega)
   obtain ⟨x, y, e0, e1, e2, e3, fx, fy⟩ := hsp k hlt
   obtain ⟨hi1, hi2⟩ := V2.out k hlt
   have HE := Lib.hid (E1.out k hlt)
   have HXL : Hid ((addsF c.cs X0 (List.take k es)).length = B.pl) := Lib.hid (by rw [addsF_len]; exact HZ.out)
   have HKS := Lib.hid (addsF_s c.cs X0 es (show k < es.length by have := EL.out; omega))
   have HB2 : Hid (w.cell? ⟨pb, 2, none⟩ = some (.slice (some ⟨bs, os, none⟩) B.sl B.sc)) := Lib.hid (by rw [← hbs]; exact HA.out 2 _ rfl)
   have b2 := cell_below S1.out.bel HB2.out
   generalize hX : addsF c.cs X0 (List.take k es) = X at *
   obtain ⟨m, hm', hm⟩ := inB_nat hi1
   obtain ⟨n, hn', hn⟩ := inB_nat hi2
   have HAD := Lib.hid (add_sp (cs := c.cs) (X := X) hm' hn')
   rw [hm'] at e0
   rw [hn'] at e1
   have HEC := Lib.hid (And.intro e0 (And.intro e1 (And.intro e2 e3)))
   have FX := Lib.hid (And.intro fx fy)
   have m0 : (0 : Int) ≤ (m : Int) := by omega
   have m1 : (m : Int) < (B.pl : Int) := by omega
   have n0 : (0 : Int) ≤ (n : Int) := by omega
   have n1 : (n : Int) < (B.pl : Int) := by omega
   have hk0 : (0 : Int) ≤ (k : Int) := by omega
   have hk1 : (k : Int) < (B.sl : Int) := by omega
   have HM := Lib.hid (And.intro hm hn)
   clear hsp hIB hbs fx fy e0 e1 e2 e3
   go_wp2_with fail
   clear b2
   generalize hD9 : wayC c.cs (m : Int) (n : Int) = D at *
   refine (l03Way pb bs (os + k * 4) (m : Int) (n : Int) x y (c.ss.getD k s0).2.2.1 (c.ss.getD k s0).2.2.2 B.pa B.pl B.pc c.cs wr (H.out.below S1.out.bel).1 (cell_below S1.out.bel (HA.out 0 _ rfl)) (cell_below S1.out.bel HEC.out.1) (cell_below S1.out.bel HEC.out.2.1) (cell_below S1.out.bel HEC.out.2.2.1) (cell_below S1.out.bel HEC.out.2.2.2) FX.out.1 FX.out.2 (decide_eq_true ⟨by omega, by omega⟩) (decide_eq_true ⟨by omega, by omega⟩)).mono ?_
   rintro e w2 ⟨dx, dy, dz, gv, rfl, hD, hG, hB2⟩
   rw [hD9] at hD hG
   generalize hPC : perC D (c.ss.getD k s0).2.2.1 (c.ss.getD k s0).2.2.2 = PC at *
   have S2' : St w [(w2.heap.size, [.float .f32 dx, .float .f32 dy, .float .f32 dz])] g X (w2.alloc (.cells #[.float .f32 dx, .float .f32 dy, .float .f32 dz] 42)) := (S1.out.call hB2).box
   have S2 := Lib.hid S2'
   have HDV : Hid (F3 dx dy dz D) := Lib.hid hD
   have HG := Lib.hid hG
   clear hB2 S2' hD hG S1
   go_wp2_with fail
   generalize (w2.alloc (.cells #[.float .f32 dx, .float .f32 dy, .float .f32 dz] 42)) = W2 at *
   generalize w2.heap.size = V at *
   have HMX : Hid (m < X.length) := Lib.hid (by have := HXL.out; omega)
   refine Reg3.wp_region_mix (C := St w [(V, [.float .f32 dx, .float .f32 dy, .float .f32 dz])] g X) (G := fun _ _ => True) (R := fun i v w' => match i with | 0 => v = .slice (some ⟨g, 0, none⟩) B.pl B.pl | 1 => v = .pointer (some ⟨bs, os + k * 4, none⟩) | 2 => v = .pointer (some ⟨bs, os + k * 4, none⟩) | 3 => v = .pointer (some ⟨bs, os + k * 4, none⟩) | 4 => v = .int .i64 (m : Int) | 5 => v = .slice (some ⟨g, 0, none⟩) B.pl B.pl | 6 => v = .pointer (some ⟨bs, os + k * 4, none⟩) | 7 => v = .pointer (some ⟨bs, os + k * 4, none⟩) | 8 => v = .pointer (some ⟨bs, os + k * 4, none⟩) | 9 => v = .int .i64 (m : Int) | 10 => v = .pointer (some ⟨g, m * 3, none⟩) | 11 => ∃ p q r, v = vv p q r ∧ F3 p q r (X.getD m c0) | 12 => v = vv dx dy dz | 13 => v = .float .f32 gv | 14 => ∃ p q r, v = vv p q r ∧ F3 p q r (scaleC D PC) | 15 => ∃ p q r, v = vv p q r ∧ F3 p q r (plusC (X.getD m c0) (scaleC D PC)) | 16 => v = .pointer (some ⟨g, m * 3, none⟩) | _ => True) (T := fun _ _ w' => St w [(V, [.float .f32 dx, .float .f32 dy, .float .f32 dz])] g (addAt X m (scaleC D PC)) w') [false, false, false, false, false, false, false, false, false, false, false, false, false, false, false, false, false, false, false, false, false, false, false, false, false, false, false, false, false, false, false, false, false, false, false, false, false, false, false, false, false, false, false, false, false, false, false, false, false, true, true, true, true, true, true, true, true, true, true, true, true, true, true, true, true, true, false, false, false, false, false, false, false, false, false, false, false, false, false, false, false, false, false, false, false, false, false, false, false, false, false, false, false, false, false, false, false, false, false, false, false, false, false, false, false, false, false, false, false, false, false, false, false, false, false, false, false, false, false, false, false, false, false, false, false, false, false, false, false, false, false, false, false, false, false, false, false, false, false, false, false, false, false, false, false, false, false, false, false, false, false, false, false, false, false, false, false, false, false, false, false, false, false, false, false, false, false, false, false, false, false, false, false, false, false, false, false, false, false, false, false, false, false, false, false, false, false, false, false, false, false, false, false, false, false, false, false, false, false, false, false, false, false, false, false, false, false, false, false, false, false, false, false, false, false, false, false, false, false, false, false, false, false, false, false, false, false, false, false, false, false, false, false, false, false, false, false, false, false, false, false, false, false, false, false, false, false, false, false, false, false, false, false, false, false, false, false, false, false, false, false, false, false, false, false, false, false, false, false, false, false, false, false, false, false, false, false, false, false, false]
    (by kernel_rfl) (by kernel_rfl) (by kernel_rfl) (fun _ _ _ _ _ _ h => h) (S2.out.drewN 1) ?_ ?_
   ·refine ⟨Reg3.Obl.mk ?_, Reg3.Obl.mk ?_, Reg3.Obl.mk ?_, Reg3.Obl.mk ?_, Reg3.Obl.mk ?_, Reg3.Obl.mk ?_, Reg3.Obl.mk ?_, Reg3.Obl.mk ?_, Reg3.Obl.mk ?_, Reg3.Obl.mk ?_, Reg3.Obl.mk ?_, Reg3.Obl.mk ?_, Reg3.Obl.mk ?_, Reg3.Obl.mk ?_, Reg3.Obl.mk ?_, Reg3.Obl.mk ?_, Reg3.Obl.mk ?_, Reg3.Obl.mk ?_, trivial⟩
    ·rintro a w1 HC hx hd K hK
     replace HC := Lib.hid HC
     have t4 : a.tmps[4]?.getD undef = .slice (some ⟨g, 0, none⟩) B.pl B.pl := Reg.slot_val (hx 4 (by kernel_rfl))
     go_simp
     exact hK _ _ (fun _ => rfl) (fun h => by cases h) (fun _ => HC.out) trivial
    ·rintro a w1 HC hx hd K hK
     replace HC := Lib.hid HC
     have t6 : a.tmps[6]?.getD undef = .pointer (some ⟨bs, os + k * 4, none⟩) := Reg.slot_val (hx 6 (by kernel_rfl))
     go_simp
     exact hK _ _ (fun _ => rfl) (fun h => by cases h) (fun _ => HC.out) trivial
    ·rintro a w1 HC hx hd K hK
     replace HC := Lib.hid HC
     have t50 : a.tmps[50]?.getD undef = .pointer (some ⟨bs, os + k * 4, none⟩) := Reg.slot_val (hd 1 (by kernel_rfl) 50 rfl)
     go_simp
     exact hK _ _ (fun _ => rfl) (fun h => by cases h) (fun _ => HC.out) trivial
    ·rintro a w1 HC hx hd K hK
     replace HC := Lib.hid HC
     have t51 : a.tmps[51]?.getD undef = .pointer (some ⟨bs, os + k * 4, none⟩) := Reg.slot_val (hd 2 (by kernel_rfl) 51 rfl)
     go_simp
     exact hK _ _ (fun _ => rfl) (fun h => by cases h) (fun _ => HC.out) trivial
    ·rintro a w1 HC hx hd K hK
     replace HC := Lib.hid HC
     have y9 := cell_below HC.out.bel HEC.out.1
     have t52 : a.tmps[52]?.getD undef = .pointer (some ⟨bs, os + k * 4, none⟩) := Reg.slot_val (hd 3 (by kernel_rfl) 52 rfl)
     go_simp
     exact hK _ _ (fun _ => rfl) (fun h => by cases h) (fun _ => HC.out) trivial
    ·rintro a w1 HC hx hd K hK
     replace HC := Lib.hid HC
     have t4 : a.tmps[4]?.getD undef = .slice (some ⟨g, 0, none⟩) B.pl B.pl := Reg.slot_val (hx 4 (by kernel_rfl))
     go_simp
     exact hK _ _ (fun _ => rfl) (fun h => by cases h) (fun _ => HC.out) trivial
    ·rintro a w1 HC hx hd K hK
     replace HC := Lib.hid HC
     have t6 : a.tmps[6]?.getD undef = .pointer (some ⟨bs, os + k * 4, none⟩) := Reg.slot_val (hx 6 (by kernel_rfl))
     go_simp
     exact hK _ _ (fun _ => rfl) (fun h => by cases h) (fun _ => HC.out) trivial
    ·rintro a w1 HC hx hd K hK
     replace HC := Lib.hid HC
     have t55 : a.tmps[55]?.getD undef = .pointer (some ⟨bs, os + k * 4, none⟩) := Reg.slot_val (hd 6 (by kernel_rfl) 55 rfl)
     go_simp
     exact hK _ _ (fun _ => rfl) (fun h => by cases h) (fun _ => HC.out) trivial
    ·rintro a w1 HC hx hd K hK
     replace HC := Lib.hid HC
     have t56 : a.tmps[56]?.getD undef = .pointer (some ⟨bs, os + k * 4, none⟩) := Reg.slot_val (hd 7 (by kernel_rfl) 56 rfl)
     go_simp
     exact hK _ _ (fun _ => rfl) (fun h => by cases h) (fun _ => HC.out) trivial
    ·rintro a w1 HC hx hd K hK
     replace HC := Lib.hid HC
     have y9 := cell_below HC.out.bel HEC.out.1
     have t57 : a.tmps[57]?.getD undef = .pointer (some ⟨bs, os + k * 4, none⟩) := Reg.slot_val (hd 8 (by kernel_rfl) 57 rfl)
     go_simp
     exact hK _ _ (fun _ => rfl) (fun h => by cases h) (fun _ => HC.out) trivial
    ·rintro a w1 HC hx hd K hK
     replace HC := Lib.hid HC
     have t54 : a.tmps[54]?.getD undef = .slice (some ⟨g, 0, none⟩) B.pl B.pl := Reg.slot_val (hd 5 (by kernel_rfl) 54 rfl)
     have t58 : a.tmps[58]?.getD undef = .int .i64 (m : Int) := Reg.slot_val (hd 9 (by kernel_rfl) 58 rfl)
     go_simp
     exact hK _ _ (fun _ => rfl) (fun h => by cases h) (fun _ => HC.out) trivial
    ·rintro a w1 HC hx hd K hK
     replace HC := Lib.hid HC
     obtain ⟨u0, u1, u2, ⟨z0, z1, z2⟩, fu⟩ := HC.out.own.at HMX.out
     have t59 : a.tmps[59]?.getD undef = .pointer (some ⟨g, m * 3, none⟩) := Reg.slot_val (hd 10 (by kernel_rfl) 59 rfl)
     go_simp
     exact hK _ _ (fun _ => ⟨u0, u1, u2, rfl, fu⟩) (fun h => by cases h) (fun _ => HC.out) trivial
    ·rintro a w1 HC hx hd K hK
     replace HC := Lib.hid HC
     have x0 := (HC.out.mem (.head _)) 0 _ rfl
     have x1 := (HC.out.mem (.head _)) 1 _ rfl
     have x2 := (HC.out.mem (.head _)) 2 _ rfl
     have t7 : a.tmps[7]?.getD undef = .pointer (some ⟨V, 0, none⟩) := Reg.slot_val (hx 7 (by kernel_rfl))
     go_simp
     exact hK _ _ (fun _ => rfl) (fun h => by cases h) (fun _ => HC.out) trivial
    ·rintro a w1 HC hx hd K hK
     replace HC := Lib.hid HC
     have t8 : a.tmps[8]?.getD undef = .float .f32 gv := Reg.slot_val (hx 8 (by kernel_rfl))
     go_simp
     exact hK _ _ (fun _ => rfl) (fun h => by cases h) (fun _ => HC.out) trivial
    ·rintro a w1 HC hx hd K hK
     replace HC := Lib.hid HC
     have t61 : a.tmps[61]?.getD undef = vv dx dy dz := Reg.slot_val (hd 12 (by kernel_rfl) 61 rfl)
     have t62 : a.tmps[62]?.getD undef = .float .f32 gv := Reg.slot_val (hd 13 (by kernel_rfl) 62 rfl)
     go_simp
     refine (l01Scale _ _ _ _ _ _ _ _ _ HDV.out.1 HDV.out.2.1 HDV.out.2.2 HG.out).mono ?_
     rintro en w2 ⟨p', q', r', rfl, fp', fq', fr', hB2⟩
     exact hK _ _ (fun _ => ⟨p', q', r', rfl, fp', fq', fr'⟩) (fun h => by cases h) (fun _ => HC.out.call hB2) trivial
    ·rintro a w1 HC hx hd K hK
     replace HC := Lib.hid HC
     obtain ⟨p60, q60, r60, g60, f60⟩ := hd 11 (by kernel_rfl) 60 rfl
     have t60 := Reg.slot_val g60
     clear g60
     obtain ⟨p63, q63, r63, g63, f63⟩ := hd 14 (by kernel_rfl) 63 rfl
     have t63 := Reg.slot_val g63
     clear g63
     go_simp
     refine (l01Add _ _ _ _ _ _ _ _ _ _ _ _ _ f60.1 f60.2.1 f60.2.2 f63.1 f63.2.1 f63.2.2).mono ?_
     rintro en w2 ⟨p', q', r', rfl, fp', fq', fr', hB2⟩
     exact hK _ _ (fun _ => ⟨p', q', r', rfl, fp', fq', fr'⟩) (fun h => by cases h) (fun _ => HC.out.call hB2) trivial
    ·rintro a w1 HC hx hd K hK
     replace HC := Lib.hid HC
     have t49 : a.tmps[49]?.getD undef = .slice (some ⟨g, 0, none⟩) B.pl B.pl := Reg.slot_val (hd 0 (by kernel_rfl) 49 rfl)
     have t53 : a.tmps[53]?.getD undef = .int .i64 (m : Int) := Reg.slot_val (hd 4 (by kernel_rfl) 53 rfl)
     go_simp
     exact hK _ _ (fun _ => rfl) (fun h => by cases h) (fun _ => HC.out) trivial
    ·rintro a w1 HC hx hd K hK
     replace HC := Lib.hid HC
     obtain ⟨u0, u1, u2, ⟨z0, z1, z2⟩, fu⟩ := HC.out.own.at HMX.out
     have k0 := HC.out.own.2.1 (m * 3)
     have k1 := HC.out.own.2.1 (m * 3 + 1)
     have k2 := HC.out.own.2.1 (m * 3 + 2)
     have t65 : a.tmps[65]?.getD undef = .pointer (some ⟨g, m * 3, none⟩) := Reg.slot_val (hd 16 (by kernel_rfl) 65 rfl)
     obtain ⟨p64, q64, r64, g64, f64⟩ := hd 15 (by kernel_rfl) 64 rfl
     have t64 := Reg.slot_val g64
     clear g64
     go_simp
     exact hK undef _ (fun h => absurd rfl h) (fun _ => HC.out.put HMX.out f64) (fun h => absurd rfl h) trivial
   ·rintro f W3 hR hT
    have h3 := hT 17 rfl (Nat.le_of_ble_eq_true rfl)
    simp only [Reg.mixL, Nat.zero_add, Nat.reduceAdd]
    have S3 := Lib.hid h3
    generalize hX4 : addAt X m (scaleC D PC) = X4 at *
    have HNX : Hid (n < X4.length) := Lib.hid (by rw [← hX4, addAt_len]; have := HXL.out; omega)
    clear hR hT h3 S2
    go_wp2_with fail
    refine Reg3.wp_region_mix (C := St w [(V, [.float .f32 dx, .float .f32 dy, .float .f32 dz])] g X4) (G := fun _ _ => True) (R := fun i v w' => match i with | 0 => v = .slice (some ⟨g, 0, none⟩) B.pl B.pl | 1 => v = .pointer (some ⟨bs, os + k * 4, none⟩) | 2 => v = .pointer (some ⟨bs, os + k * 4, none⟩) | 3 => v = .pointer (some ⟨bs, os + k * 4 + 1, none⟩) | 4 => v = .int .i64 (n : Int) | 5 => v = .slice (some ⟨g, 0, none⟩) B.pl B.pl | 6 => v = .pointer (some ⟨bs, os + k * 4, none⟩) | 7 => v = .pointer (some ⟨bs, os + k * 4, none⟩) | 8 => v = .pointer (some ⟨bs, os + k * 4 + 1, none⟩) | 9 => v = .int .i64 (n : Int) | 10 => v = .pointer (some ⟨g, n * 3, none⟩) | 11 => ∃ p q r, v = vv p q r ∧ F3 p q r (X4.getD n c0) | 12 => v = vv dx dy dz | 13 => v = .float .f32 gv | 14 => ∃ r, v = .float .f32 r ∧ FV .f32 r (negC32 PC) | 15 => ∃ p q r, v = vv p q r ∧ F3 p q r (scaleC D (negC32 PC)) | 16 => ∃ p q r, v = vv p q r ∧ F3 p q r (plusC (X4.getD n c0) (scaleC D (negC32 PC))) | 17 => v = .pointer (some ⟨g, n * 3, none⟩) | _ => True) (T := fun _ _ w' => St w [(V, [.float .f32 dx, .float .f32 dy, .float .f32 dz])] g (addAt X4 n (scaleC D (negC32 PC))) w') [false, false, false, false, false, false, false, false, false, false, false, false, false, false, false, false, false, false, false, false, false, false, false, false, false, false, false, false, false, false, false, false, false, false, false, false, false, false, false, false, false, false, false, false, false, false, false, false, false, false, false, false, false, false, false, false, false, false, false, false, false, false, false, false, false, false, true, true, true, true, true, true, true, true, true, true, true, true, true, true, true, true, true, true, false, false, false, false, false, false, false, false, false, false, false, false, false, false, false, false, false, false, false, false, false, false, false, false, false, false, false, false, false, false, false, false, false, false, false, false, false, false, false, false, false, false, false, false, false, false, false, false, false, false, false, false, false, false, false, false, false, false, false, false, false, false, false, false, false, false, false, false, false, false, false, false, false, false, false, false, false, false, false, false, false, false, false, false, false, false, false, false, false, false, false, false, false, false, false, false, false, false, false, false, false, false, false, false, false, false, false, false, false, false, false, false, false, false, false, false, false, false, false, false, false, false, false, false, false, false, false, false, false, false, false, false, false, false, false, false, false, false, false, false, false, false, false, false, false, false, false, false, false, false, false, false, false, false, false, false, false, false, false, false, false, false, false, false, false, false, false, false, false, false, false, false, false, false, false, false, false, false, false, false, false, false, false, false, false, false, false, false, false, false, false, false, false, false, false, false]
     (by kernel_rfl) (by kernel_rfl) (by kernel_rfl) (fun _ _ _ _ _ _ h => h) (S3.out.drewN 1) ?_ ?_
    ·refine ⟨Reg3.Obl.mk ?_, Reg3.Obl.mk ?_, Reg3.Obl.mk ?_, Reg3.Obl.mk ?_, Reg3.Obl.mk ?_, Reg3.Obl.mk ?_, Reg3.Obl.mk ?_, Reg3.Obl.mk ?_, Reg3.Obl.mk ?_, Reg3.Obl.mk ?_, Reg3.Obl.mk ?_, Reg3.Obl.mk ?_, Reg3.Obl.mk ?_, Reg3.Obl.mk ?_, Reg3.Obl.mk ?_, Reg3.Obl.mk ?_, Reg3.Obl.mk ?_, Reg3.Obl.mk ?_, Reg3.Obl.mk ?_, trivial⟩
     ·rintro a w1 HC hx hd K hK
      replace HC := Lib.hid HC
      have t4 : a.tmps[4]?.getD undef = .slice (some ⟨g, 0, none⟩) B.pl B.pl := Reg.slot_val (hx 4 (by kernel_rfl))
      go_simp
      exact hK _ _ (fun _ => rfl) (fun h => by cases h) (fun _ => HC.out) trivial
     ·rintro a w1 HC hx hd K hK
      replace HC := Lib.hid HC
      have t6 : a.tmps[6]?.getD undef = .pointer (some ⟨bs, os + k * 4, none⟩) := Reg.slot_val (hx 6 (by kernel_rfl))
      go_simp
      exact hK _ _ (fun _ => rfl) (fun h => by cases h) (fun _ => HC.out) trivial
     ·rintro a w1 HC hx hd K hK
      replace HC := Lib.hid HC
      have t67 : a.tmps[67]?.getD undef = .pointer (some ⟨bs, os + k * 4, none⟩) := Reg.slot_val (hd 1 (by kernel_rfl) 67 rfl)
      go_simp
      exact hK _ _ (fun _ => rfl) (fun h => by cases h) (fun _ => HC.out) trivial
     ·rintro a w1 HC hx hd K hK
      replace HC := Lib.hid HC
      have t68 : a.tmps[68]?.getD undef = .pointer (some ⟨bs, os + k * 4, none⟩) := Reg.slot_val (hd 2 (by kernel_rfl) 68 rfl)
      go_simp
      exact hK _ _ (fun _ => rfl) (fun h => by cases h) (fun _ => HC.out) trivial
     ·rintro a w1 HC hx hd K hK
      replace HC := Lib.hid HC
      have y9 := cell_below HC.out.bel HEC.out.2.1
      have t69 : a.tmps[69]?.getD undef = .pointer (some ⟨bs, os + k * 4 + 1, none⟩) := Reg.slot_val (hd 3 (by kernel_rfl) 69 rfl)
      go_simp
      exact hK _ _ (fun _ => rfl) (fun h => by cases h) (fun _ => HC.out) trivial
     ·rintro a w1 HC hx hd K hK
      replace HC := Lib.hid HC
      have t4 : a.tmps[4]?.getD undef = .slice (some ⟨g, 0, none⟩) B.pl B.pl := Reg.slot_val (hx 4 (by kernel_rfl))
      go_simp
      exact hK _ _ (fun _ => rfl) (fun h => by cases h) (fun _ => HC.out) trivial
     ·rintro a w1 HC hx hd K hK
      replace HC := Lib.hid HC
      have t6 : a.tmps[6]?.getD undef = .pointer (some ⟨bs, os + k * 4, none⟩) := Reg.slot_val (hx 6 (by kernel_rfl))
      go_simp
      exact hK _ _ (fun _ => rfl) (fun h => by cases h) (fun _ => HC.out) trivial
     ·rintro a w1 HC hx hd K hK
      replace HC := Lib.hid HC
      have t72 : a.tmps[72]?.getD undef = .pointer (some ⟨bs, os + k * 4, none⟩) := Reg.slot_val (hd 6 (by kernel_rfl) 72 rfl)
      go_simp
      exact hK _ _ (fun _ => rfl) (fun h => by cases h) (fun _ => HC.out) trivial
     ·rintro a w1 HC hx hd K hK
      replace HC := Lib.hid HC
      have t73 : a.tmps[73]?.getD undef = .pointer (some ⟨bs, os + k * 4, none⟩) := Reg.slot_val (hd 7 (by kernel_rfl) 73 rfl)
      go_simp
      exact hK _ _ (fun _ => rfl) (fun h => by cases h) (fun _ => HC.out) trivial
     ·rintro a w1 HC hx hd K hK
      replace HC := Lib.hid HC
      have y9 := cell_below HC.out.bel HEC.out.2.1
      have t74 : a.tmps[74]?.getD undef = .pointer (some ⟨bs, os + k * 4 + 1, none⟩) := Reg.slot_val (hd 8 (by kernel_rfl) 74 rfl)
      go_simp
      exact hK _ _ (fun _ => rfl) (fun h => by cases h) (fun _ => HC.out) trivial
     ·rintro a w1 HC hx hd K hK
      replace HC := Lib.hid HC
      have t71 : a.tmps[71]?.getD undef = .slice (some ⟨g, 0, none⟩) B.pl B.pl := Reg.slot_val (hd 5 (by kernel_rfl) 71 rfl)
      have t75 : a.tmps[75]?.getD undef = .int .i64 (n : Int) := Reg.slot_val (hd 9 (by kernel_rfl) 75 rfl)
      go_simp
      exact hK _ _ (fun _ => rfl) (fun h => by cases h) (fun _ => HC.out) trivial
     ·rintro a w1 HC hx hd K hK
      replace HC := Lib.hid HC
      obtain ⟨u0, u1, u2, ⟨z0, z1, z2⟩, fu⟩ := HC.out.own.at HNX.out
      have t76 : a.tmps[76]?.getD undef = .pointer (some ⟨g, n * 3, none⟩) := Reg.slot_val (hd 10 (by kernel_rfl) 76 rfl)
      go_simp
      exact hK _ _ (fun _ => ⟨u0, u1, u2, rfl, fu⟩) (fun h => by cases h) (fun _ => HC.out) trivial
     ·rintro a w1 HC hx hd K hK
      replace HC := Lib.hid HC
      have x0 := (HC.out.mem (.head _)) 0 _ rfl
      have x1 := (HC.out.mem (.head _)) 1 _ rfl
      have x2 := (HC.out.mem (.head _)) 2 _ rfl
      have t7 : a.tmps[7]?.getD undef = .pointer (some ⟨V, 0, none⟩) := Reg.slot_val (hx 7 (by kernel_rfl))
      go_simp
      exact hK _ _ (fun _ => rfl) (fun h => by cases h) (fun _ => HC.out) trivial
     ·rintro a w1 HC hx hd K hK
      replace HC := Lib.hid HC
      have t8 : a.tmps[8]?.getD undef = .float .f32 gv := Reg.slot_val (hx 8 (by kernel_rfl))
      go_simp
      exact hK _ _ (fun _ => rfl) (fun h => by cases h) (fun _ => HC.out) trivial
     ·rintro a w1 HC hx hd K hK
      replace HC := Lib.hid HC
      have t79 : a.tmps[79]?.getD undef = .float .f32 gv := Reg.slot_val (hd 13 (by kernel_rfl) 79 rfl)
      go_simp
      exact hK _ _ (fun _ => ⟨_, rfl, FV_neg32 HG.out⟩) (fun h => by cases h) (fun _ => HC.out) trivial
     ·rintro a w1 HC hx hd K hK
      replace HC := Lib.hid HC
      have t78 : a.tmps[78]?.getD undef = vv dx dy dz := Reg.slot_val (hd 12 (by kernel_rfl) 78 rfl)
      obtain ⟨r80, g80, f80⟩ := hd 14 (by kernel_rfl) 80 rfl
      have t80 := Reg.slot_val g80
      clear g80
      go_simp
      refine (l01Scale _ _ _ _ _ _ _ _ _ HDV.out.1 HDV.out.2.1 HDV.out.2.2 f80).mono ?_
      rintro en w2 ⟨p', q', r', rfl, fp', fq', fr', hB2⟩
      exact hK _ _ (fun _ => ⟨p', q', r', rfl, fp', fq', fr'⟩) (fun h => by cases h) (fun _ => HC.out.call hB2) trivial
     ·rintro a w1 HC hx hd K hK
      replace HC := Lib.hid HC
      obtain ⟨p77, q77, r77, g77, f77⟩ := hd 11 (by kernel_rfl) 77 rfl
      have t77 := Reg.slot_val g77
      clear g77
      obtain ⟨p81, q81, r81, g81, f81⟩ := hd 15 (by kernel_rfl) 81 rfl
      have t81 := Reg.slot_val g81
      clear g81
      go_simp
      refine (l01Add _ _ _ _ _ _ _ _ _ _ _ _ _ f77.1 f77.2.1 f77.2.2 f81.1 f81.2.1 f81.2.2).mono ?_
      rintro en w2 ⟨p', q', r', rfl, fp', fq', fr', hB2⟩
      exact hK _ _ (fun _ => ⟨p', q', r', rfl, fp', fq', fr'⟩) (fun h => by cases h) (fun _ => HC.out.call hB2) trivial
     ·rintro a w1 HC hx hd K hK
      replace HC := Lib.hid HC
      have t66 : a.tmps[66]?.getD undef = .slice (some ⟨g, 0, none⟩) B.pl B.pl := Reg.slot_val (hd 0 (by kernel_rfl) 66 rfl)
      have t70 : a.tmps[70]?.getD undef = .int .i64 (n : Int) := Reg.slot_val (hd 4 (by kernel_rfl) 70 rfl)
      go_simp
      exact hK _ _ (fun _ => rfl) (fun h => by cases h) (fun _ => HC.out) trivial
     ·rintro a w1 HC hx hd K hK
      replace HC := Lib.hid HC
      obtain ⟨u0, u1, u2, ⟨z0, z1, z2⟩, fu⟩ := HC.out.own.at HNX.out
      have k0 := HC.out.own.2.1 (n * 3)
      have k1 := HC.out.own.2.1 (n * 3 + 1)
      have k2 := HC.out.own.2.1 (n * 3 + 2)
      have t83 : a.tmps[83]?.getD undef = .pointer (some ⟨g, n * 3, none⟩) := Reg.slot_val (hd 17 (by kernel_rfl) 83 rfl)
      obtain ⟨p82, q82, r82, g82, f82⟩ := hd 16 (by kernel_rfl) 82 rfl
      have t82 := Reg.slot_val g82
      clear g82
      go_simp
      exact hK undef _ (fun h => absurd rfl h) (fun _ => HC.out.put HNX.out f82) (fun h => absurd rfl h) trivial
    ·rintro f W5 hR hT
     have h5 := hT 18 rfl (Nat.le_of_ble_eq_true rfl)
     simp only [Reg.mixL, Nat.zero_add, Nat.reduceAdd]
     have S6 : Hid (St w [] g (addsF c.cs X0 (es.take (k + 1))) W5) := Lib.hid (by
      rw [HKS.out, HE.out, HAD.out]
      exact h5.drop)
     have HLE := HLEN.out
     clear hR hT h5
     go_wp2
     go_roundw
     case rel => exact ⟨k + 1, by omega, by go_num, S6.out⟩
     case measure => simp [intOf]; omega
  ·obtain rfl : k = B.sl := by omega
   have b1 := cell_below S1.out.bel (HA.out 1 _ rfl)
   go_wp2
   clear b1
   go_loopw [90] (fun i w' => ∃ k : Nat, k ≤ B.tl ∧ i = .int .i64 k ∧ Aside (St w [] g (addsF c.cs X0 (es.take (B.sl + k))) w')) (fun i _ => B.tl - (intOf i).toNat)
   case atStart => exact ⟨0, Nat.zero_le _, rfl, S1.out⟩
   case round =>
    clear S1
    obtain ⟨k, hk, rfl, hA⟩ := hrel
    have S1 := Lib.hid hA.out
    clear hA
    by_cases hlt2 : k < B.tl
    ·obtain ⟨bt, ot, hbt, hrow⟩ := H.out.2.1.some (by omega)
     obtain ⟨r1, n1, q1, cr, ir⟩ := hrow k hlt2
     have htri := HWR.out k hlt2
     obtain ⟨h3, hin⟩ := tri_parts htri
     have hn1 : n1 = 3 := ir.1.symm.trans h3
     subst hn1
     obtain ⟨br, orr, rfl, hcell⟩ := ir.some (by omega)
     have HE := Lib.hid (E2.out k hlt2)
     have HXL : Hid ((addsF c.cs X0 (List.take (B.sl + k) es)).length = B.pl) := Lib.hid (by rw [addsF_len]; exact HZ.out)
     have HKS := Lib.hid (addsF_s c.cs X0 es (show B.sl + k < es.length by have := EL.out; omega))
     generalize hX : addsF c.cs X0 (List.take (B.sl + k) es) = X at *
     generalize htk : c.ts.getD k [] = tk at *
     have HTN : Hid (∀ j, j < 3 → ∃ m : Nat, tk.getD j 0 = m ∧ m < B.pl ∧ w.cell? ⟨br, orr + j, none⟩ = some (.int .i64 (m : Int))) := Lib.hid (fun j hj => by
      obtain ⟨t0, l0⟩ := hin j hj
      refine ⟨(tk.getD j 0).toNat, (Int.toNat_of_nonneg t0).symm, l0, ?_⟩
      have := hcell j (by omega)
      rw [Int.toNat_of_nonneg t0]
      exact this)
     obtain ⟨m0, hm0, hm0', R0'⟩ := HTN.out 0 (by decide)
     obtain ⟨m1, hm1, hm1', R1'⟩ := HTN.out 1 (by decide)
     obtain ⟨m2, hm2, hm2', R2'⟩ := HTN.out 2 (by decide)
     rw [Nat.add_zero] at R0'
     have HRS := Lib.hid (And.intro R0' (And.intro R1' R2'))
     have HA1 : Hid (w.cell? ⟨pb, 1, none⟩ = some (.slice (some ⟨bt, ot, none⟩) B.tl B.tc)) := Lib.hid (by rw [← hbt]; exact HA.out 1 _ rfl)
     have HNC : Hid (normalC c.cs tk = crossC (lessC (c.cs.getD m1 c0) (c.cs.getD m0 c0)) (lessC (c.cs.getD m2 c0) (c.cs.getD m0 c0))) := Lib.hid (by
      unfold normalC cornerC
      rw [hm0, hm1, hm2]
      rfl)
     have hk0 : (0 : Int) ≤ (k : Int) := by omega
     have hk1 : (k : Int) < (B.tl : Int) := by omega
     have HFI := Lib.hid H.out.2.2.2.2.1
     have y1 := cell_below S1.out.bel HA1.out
     have y2 := cell_below S1.out.bel cr
     clear hrow cr ir hcell hin htri h3 hm0 hm1 hm2 R0' R1' R2' hbt
     go_wp2_with fail
     clear y1 y2
     refine (l03Normal pb br orr q1 m0 m1 m2 B.pa B.pl B.pc c.cs wr (cell_below S1.out.bel (HA.out 0 _ rfl)) (cell_below S1.out.bel HRS.out.1) (cell_below S1.out.bel HRS.out.2.1) (cell_below S1.out.bel HRS.out.2.2) (H.out.below S1.out.bel).1 hm0' hm1' hm2').mono ?_
     rintro e w2 ⟨nx, ny, nz, rfl, hN, hB2⟩
     rw [← HNC.out] at hN
     generalize hNN : normalC c.cs tk = N at *
     have S2' : St w [(w2.heap.size, [.float .f32 nx, .float .f32 ny, .float .f32 nz])] g X (w2.alloc (.cells #[.float .f32 nx, .float .f32 ny, .float .f32 nz] 42)) := (S1.out.call hB2).box
     have S2 := Lib.hid S2'
     have HN := Lib.hid hN
     clear hB2 S2' hN S1
     go_wp2_with fail
     generalize (w2.alloc (.cells #[.float .f32 nx, .float .f32 ny, .float .f32 nz] 42)) = W2 at *
     generalize w2.heap.size = V at *
     refine Reg.wp_region_mix (C := St w [(V, [.float .f32 nx, .float .f32 ny, .float .f32 nz])] g X) (G := fun _ _ => True) (R := fun i v w' => match i with | 0 => v = .pointer (some ⟨pb, 0, none⟩) | 1 => v = .pointer (some ⟨pb, 0, none⟩) | 2 => v = .pointer (some ⟨pb, 3, none⟩) | 3 => v = .float .f32 B.film | 4 => ∃ r, v = .float .f32 r ∧ FV .f32 r (fop .mul .f32 halfC c.film) | 5 => ∃ r, v = .float .f32 r ∧ FV .f32 r (negC32 (fop .mul .f32 halfC c.film)) | 6 => v = vv nx ny nz | 7 => ∃ r, v = .float .f32 r ∧ FV .f32 r (longC N) | 8 => ∃ r, v = .float .f32 r ∧ FV .f32 r (gainC (negC32 (fop .mul .f32 halfC c.film)) (longC N)) | 9 => ∃ r, v = .float .f32 r ∧ FV .f32 r (gainC (negC32 (fop .mul .f32 halfC c.film)) (longC N)) | _ => True) (T := fun _ _ _ => True) [false, false, false, false, false, false, false, false, false, false, false, false, true, false, false, false, false, false, false, false, false, false, false, false, false, false, false, false, false, false, false, false, false, false, false, false, false, false, false, false, false, false, false, false, false, false, false, false, false, false, false, false, false, false, false, false, false, false, false, false, false, false, false, false, false, false, false, false, false, false, false, false, false, false, false, false, false, false, false, false, false, false, false, false, false, false, false, false, false, false, false, false, false, false, false, false, false, false, false, false, false, false, false, true, true, true, true, true, true, true, true, true, false, false, false, false, false, false, false, false, false, false, false, false, false, false, false, false, false, false, false, false, false, false, false, false, false, false, false, false, false, false, false, false, false, false, false, false, false, false, false, false, false, false, false, false, false, false, false, false, false, false, false, false, false, false, false, false, false, false, false, false, false, false, false, false, false, false, false, false, false, false, false, false, false, false, false, false, false, false, false, false, false, false, false, false, false, false, false, false, false, false, false, false, false, false, false, false, false, false, false, false, false, false, false, false, false, false, false, false, false, false, false, false, false, false, false, false, false, false, false, false, false, false, false, false, false, false, false, false, false, false, false, false, false, false, false, false, false, false, false, false, false, false, false, false, false, false, false, false, false, false, false, false, false, false, false, false, false, false, false, false, false, false, false, false, false, false, false, false]
      (by kernel_rfl) (by kernel_rfl) (by kernel_rfl) (fun _ _ _ _ _ _ h => h) (S2.out.drewN 1) ?_ ?_
     ·refine ⟨Reg.Obl.mk ?_, Reg.Obl.mk ?_, Reg.Obl.mk ?_, Reg.Obl.mk ?_, Reg.Obl.mk ?_, Reg.Obl.mk ?_, Reg.Obl.mk ?_, Reg.Obl.mk ?_, Reg.Obl.mk ?_, Reg.Obl.mk ?_, trivial⟩
      ·rintro a w1 HC hx hd K hK
       replace HC := Lib.hid HC
       have t0 : a.tmps[0]?.getD undef = .pointer (some ⟨pb, 0, none⟩) := Reg.slot_val (hx 0 (by kernel_rfl))
       go_simp
       exact hK _ _ (fun _ => rfl) (fun h => by cases h) HC.out trivial
      ·rintro a w1 HC hx hd K hK
       replace HC := Lib.hid HC
       have t103 : a.tmps[103]?.getD undef = .pointer (some ⟨pb, 0, none⟩) := Reg.slot_val (hd 0 (by kernel_rfl) 103 rfl)
       go_simp
       exact hK _ _ (fun _ => rfl) (fun h => by cases h) HC.out trivial
      ·rintro a w1 HC hx hd K hK
       replace HC := Lib.hid HC
       have t104 : a.tmps[104]?.getD undef = .pointer (some ⟨pb, 0, none⟩) := Reg.slot_val (hd 1 (by kernel_rfl) 104 rfl)
       go_simp
       exact hK _ _ (fun _ => rfl) (fun h => by cases h) HC.out trivial
      ·rintro a w1 HC hx hd K hK
       replace HC := Lib.hid HC
       have y9 := cell_below HC.out.bel (HA.out 3 _ rfl)
       have t105 : a.tmps[105]?.getD undef = .pointer (some ⟨pb, 3, none⟩) := Reg.slot_val (hd 2 (by kernel_rfl) 105 rfl)
       go_simp
       exact hK _ _ (fun _ => rfl) (fun h => by cases h) HC.out trivial
      ·rintro a w1 HC hx hd K hK
       replace HC := Lib.hid HC
       have t106 : a.tmps[106]?.getD undef = .float .f32 B.film := Reg.slot_val (hd 3 (by kernel_rfl) 106 rfl)
       go_simp
       exact hK _ _ (fun _ => ⟨_, rfl, FV_fR half_FV HFI.out⟩) (fun h => by cases h) (HC.out.drewN _) trivial
      ·rintro a w1 HC hx hd K hK
       replace HC := Lib.hid HC
       obtain ⟨r107, g107, f107⟩ := hd 4 (by kernel_rfl) 107 rfl
       have t107 := Reg.slot_val g107
       clear g107
       go_simp
       exact hK _ _ (fun _ => ⟨_, rfl, FV_neg32 f107⟩) (fun h => by cases h) HC.out trivial
      ·rintro a w1 HC hx hd K hK
       replace HC := Lib.hid HC
       have x0 := (HC.out.mem (.head _)) 0 _ rfl
       have x1 := (HC.out.mem (.head _)) 1 _ rfl
       have x2 := (HC.out.mem (.head _)) 2 _ rfl
       have t11 : a.tmps[11]?.getD undef = .pointer (some ⟨V, 0, none⟩) := Reg.slot_val (hx 11 (by kernel_rfl))
       go_simp
       exact hK _ _ (fun _ => rfl) (fun h => by cases h) HC.out trivial
      ·rintro a w1 HC hx hd K hK
       replace HC := Lib.hid HC
       have t109 : a.tmps[109]?.getD undef = vv nx ny nz := Reg.slot_val (hd 6 (by kernel_rfl) 109 rfl)
       go_simp
       refine (l01Long _ _ _ _ _ _ _ HN.out.1 HN.out.2.1 HN.out.2.2).mono ?_
       rintro en w2 ⟨r, rfl, hr, hB2⟩
       exact hK _ _ (fun _ => ⟨r, rfl, hr⟩) (fun h => by cases h) (HC.out.call hB2) trivial
      ·rintro a w1 HC hx hd K hK
       replace HC := Lib.hid HC
       obtain ⟨r108, g108, f108⟩ := hd 5 (by kernel_rfl) 108 rfl
       have t108 := Reg.slot_val g108
       clear g108
       obtain ⟨r110, g110, f110⟩ := hd 7 (by kernel_rfl) 110 rfl
       have t110 := Reg.slot_val g110
       clear g110
       go_simp
       refine (l03Gain _ _ _ _ w1 f108 f110).mono ?_
       rintro en w2 ⟨r, rfl, hr, n9, hw9⟩
       have hB2 : Below w1.heap.size w1 w2 := by rw [hw9]; exact below_drewN (Below.refl _ _) _
       clear hw9
       exact hK _ _ (fun _ => ⟨r, rfl, hr⟩) (fun h => by cases h) (HC.out.call hB2) trivial
      ·rintro a w1 HC hx hd K hK
       replace HC := Lib.hid HC
       obtain ⟨r111, g111, f111⟩ := hd 8 (by kernel_rfl) 111 rfl
       have t111 := Reg.slot_val g111
       clear g111
       go_simp
       exact hK _ _ (fun _ => ⟨_, rfl, f111⟩) (fun h => by cases h) HC.out trivial
     ·rintro f W3 hC hR hT
      obtain ⟨pv, e12, hpv⟩ := hR 9 12 rfl
      simp only [Reg.mixL, Nat.zero_add, Nat.reduceAdd, e12]
      have S3 := Lib.hid hC
      have HPV := Lib.hid hpv
      generalize hGA : gainC (negC32 (fop .mul .f32 halfC c.film)) (longC N) = PV at *
      clear hC hR hT hpv e12 S2
      go_wp2
      go_loopw [13] (fun i w' => ∃ j : Nat, j ≤ 3 ∧ i = .int .i64 j ∧ Aside (St w [(V, [.float .f32 nx, .float .f32 ny, .float .f32 nz])] g (filmJ c.cs X tk PV j) w')) (fun i _ => 3 - (intOf i).toNat)
      case atStart => exact ⟨0, by omega, rfl, S3.out⟩
      case round =>
       clear S3
       obtain ⟨j, hj, rfl, hA⟩ := hrel
       have S4 := Lib.hid hA.out
       clear hA
       by_cases hj3 : j < 3
       ·obtain ⟨ma, hma, hma', ra⟩ := HTN.out j hj3
        obtain ⟨mb, hmb, hmb', rb⟩ := HTN.out ((j + 1) % 3) (Nat.mod_lt _ (by decide))
        obtain ⟨mc, hmc, hmc', rc⟩ := HTN.out ((j + 2) % 3) (Nat.mod_lt _ (by decide))
        have HST : Hid (filmJ c.cs X tk PV (j + 1) = addAt (filmJ c.cs X tk PV j) ma (scaleC (crossC N (lessC (c.cs.getD mc c0) (c.cs.getD mb c0))) PV)) := Lib.hid (by
         simp only [filmJ, placeC]
         rw [hma, hmb, hmc, hNN]
         simp only [Int.toNat_natCast])
        have HLJ : Hid ((filmJ c.cs X tk PV j).length = B.pl) := Lib.hid (by rw [filmJ_len]; exact HXL.out)
        have hmod1 : ((j : Int) + 1).tmod 3 = (((j + 1) % 3 : Nat) : Int) := by
         have := (Int.ofNat_tmod (j + 1) 3).symm
         simpa using this
        have hmod2 : ((j : Int) + 2).tmod 3 = (((j + 2) % 3 : Nat) : Int) := by
         have := (Int.ofNat_tmod (j + 2) 3).symm
         simpa using this
        have hw1 : IntKind.i64.wrap ((j : Int) + 1) = (j : Int) + 1 := IntWalk.i64_in _ (by omega)
        have hw2 : IntKind.i64.wrap ((j : Int) + 2) = (j : Int) + 2 := IntWalk.i64_in _ (by omega)
        have hb1 : (j + 1) % 3 < 3 := Nat.mod_lt _ (by decide)
        have hb2 : (j + 2) % 3 < 3 := Nat.mod_lt _ (by decide)
        generalize (j + 1) % 3 = a1 at *
        generalize (j + 2) % 3 = a2 at *
        generalize filmJ c.cs X tk PV j = XJ at *
        have hw3 : IntKind.i64.wrap (a1 : Int) = (a1 : Int) := IntWalk.i64_in _ (by omega)
        have hw4 : IntKind.i64.wrap (a2 : Int) = (a2 : Int) := IntWalk.i64_in _ (by omega)
        obtain ⟨bp, op, hbp, hcp⟩ := H.out.1.some (by omega)
        obtain ⟨pB, qB, rB, d00, d01, d02, f00, f01, f02⟩ := hcp mb hmb'
        obtain ⟨pC, qC, rC, d10, d11, d12, f10, f11, f12⟩ := hcp mc hmc'
        have DB := Lib.hid (And.intro d00 (And.intro d01 d02))
        have DC := Lib.hid (And.intro d10 (And.intro d11 d12))
        have FB := Lib.hid (And.intro f00 (And.intro f01 f02))
        have FC := Lib.hid (And.intro f10 (And.intro f11 f12))
        have HA0 : Hid (w.cell? ⟨pb, 0, none⟩ = some (.slice (some ⟨bp, op, none⟩) B.pl B.pc)) := Lib.hid (by rw [← hbp]; exact HA.out 0 _ rfl)
        have RA := Lib.hid ra
        have RB := Lib.hid rb
        have RC := Lib.hid rc
        have hj0 : (0 : Int) ≤ (j : Int) ∧ (j : Int) < 3 := by omega
        have ha0 : (0 : Int) ≤ (a1 : Int) ∧ (a1 : Int) < 3 := by omega
        have hc0' : (0 : Int) ≤ (a2 : Int) ∧ (a2 : Int) < 3 := by omega
        have hna : (0 : Int) ≤ (ma : Int) ∧ (ma : Int) < (B.pl : Int) := by omega
        have hnb : (0 : Int) ≤ (mb : Int) ∧ (mb : Int) < (B.pl : Int) := by omega
        have hnc : (0 : Int) ≤ (mc : Int) ∧ (mc : Int) < (B.pl : Int) := by omega
        have HMX : Hid (ma < XJ.length) := Lib.hid (by have := HLJ.out; omega)
        clear hma hmb hmc ra rb rc hcp d00 d01 d02 d10 d11 d12 f00 f01 f02 f10 f11 f12 hbp
        go_wp2_with fail
        refine Reg5.wp_region_mix (m := 26) (C := St w ([(V, [Value.float .f32 nx, Value.float .f32 ny, Value.float .f32 nz])]) g XJ) (D := fun _ => True) (G := fun w1 w2 => Below w1.heap.size w1 w2) (G' := fun w1 w2 => w2 = w1) (R := fun i' v w' => match i' with | 0 => v = .pointer (some ⟨pb, 0, none⟩) | 1 => v = .pointer (some ⟨pb, 0, none⟩) | 2 => v = .pointer (some ⟨pb, 0, none⟩) | 3 => v = .slice (some ⟨bp, op, none⟩) B.pl B.pc | 4 => v = .slice (some ⟨br, orr, none⟩) 3 q1 | 5 => v = .int .i64 (j : Int) | 6 => v = .int .i64 ((j : Int) + 2) | 7 => v = .int .i64 (a2 : Int) | 8 => v = .pointer (some ⟨br, orr + a2, none⟩) | 9 => v = .int .i64 (mc : Int) | 10 => v = .pointer (some ⟨bp, op + mc * 3, none⟩) | 11 => v = vv pC qC rC | 12 => v = .pointer (some ⟨pb, 0, none⟩) | 13 => v = .pointer (some ⟨pb, 0, none⟩) | 14 => v = .pointer (some ⟨pb, 0, none⟩) | 15 => v = .slice (some ⟨bp, op, none⟩) B.pl B.pc | 16 => v = .slice (some ⟨br, orr, none⟩) 3 q1 | 17 => v = .int .i64 (j : Int) | 18 => v = .int .i64 ((j : Int) + 1) | 19 => v = .int .i64 (a1 : Int) | 20 => v = .pointer (some ⟨br, orr + a1, none⟩) | 21 => v = .int .i64 (mb : Int) | 22 => v = .pointer (some ⟨bp, op + mb * 3, none⟩) | 23 => v = vv pB qB rB | 24 => ∃ p q r, v = vv p q r ∧ F3 p q r (lessC (c.cs.getD mc c0) (c.cs.getD mb c0)) | 25 => ∃ b9, v = .pointer (some ⟨b9, 0, none⟩) ∧ St w ((b9, [.float .f32 0, .float .f32 0, .float .f32 0]) :: [(V, [Value.float .f32 nx, Value.float .f32 ny, Value.float .f32 nz])]) g XJ w' ∧ w.heap.size ≤ b9 ∧ ∀ x9 ∈ ([(V, [Value.float .f32 nx, Value.float .f32 ny, Value.float .f32 nz])]), x9.1 < b9 | _ => True) (T := fun _ a w' => ∃ b9 x9 y9 z9, a.tmps[14]?.getD undef = .pointer (some ⟨b9, 0, none⟩) ∧ F3 x9 y9 z9 (lessC (c.cs.getD mc c0) (c.cs.getD mb c0)) ∧ St w ((b9, [.float .f32 x9, .float .f32 y9, .float .f32 z9]) :: [(V, [.float .f32 nx, .float .f32 ny, .float .f32 nz])]) g XJ w') [false, false, false, false, false, false, false, false, false, false, false, false, false, false, true, false, false, false, false, false, false, false, false, false, false, false, false, false, false, false, false, false, false, false, false, false, false, false, false, false, false, false, false, false, false, false, false, false, false, false, false, false, false, false, false, false, false, false, false, false, false, false, false, false, false, false, false, false, false, false, false, false, false, false, false, false, false, false, false, false, false, false, false, false, false, false, false, false, false, false, false, false, false, false, false, false, false, false, false, false, false, false, false, false, false, false, false, false, false, false, false, false, false, false, false, false, true, true, true, true, true, true, true, true, true, true, true, true, true, true, true, true, true, true, true, true, true, true, true, true, true, false, false, false, false, false, false, false, false, false, false, false, false, false, false, false, false, false, false, false, false, false, false, false, false, false, false, false, false, false, false, false, false, false, false, false, false, false, false, false, false, false, false, false, false, false, false, false, false, false, false, false, false, false, false, false, false, false, false, false, false, false, false, false, false, false, false, false, false, false, false, false, false, false, false, false, false, false, false, false, false, false, false, false, false, false, false, false, false, false, false, false, false, false, false, false, false, false, false, false, false, false, false, false, false, false, false, false, false, false, false, false, false, false, false, false, false, false, false, false, false, false, false, false, false, false, false, false, false, false, false, false, false, false, false, false, false, false, false, false]
         (by kernel_rfl) (by kernel_rfl) (by kernel_rfl) (by kernel_rfl) ?_ (fun _ _ _ _ _ _ hG hR => by rw [hG]; exact hR) (S4.out.drewN 1) ?_ ?_
        ·intro j9 v9 wa wb hj9 _ hG hR
         match j9 with
         | 0 => exact hR
         | 1 => exact hR
         | 2 => exact hR
         | 3 => exact hR
         | 4 => exact hR
         | 5 => exact hR
         | 6 => exact hR
         | 7 => exact hR
         | 8 => exact hR
         | 9 => exact hR
         | 10 => exact hR
         | 11 => exact hR
         | 12 => exact hR
         | 13 => exact hR
         | 14 => exact hR
         | 15 => exact hR
         | 16 => exact hR
         | 17 => exact hR
         | 18 => exact hR
         | 19 => exact hR
         | 20 => exact hR
         | 21 => exact hR
         | 22 => exact hR
         | 23 => exact hR
         | 24 => exact hR
         | 25 => obtain ⟨b9, e9, h1, h2, h3⟩ := hR; exact ⟨b9, e9, h1.call hG, h2, h3⟩
         | _ + 26 => exact absurd hj9 (by omega)
        ·refine ⟨Reg5.Obl.early rfl rfl ?_, Reg5.Obl.early rfl rfl ?_, Reg5.Obl.early rfl rfl ?_, Reg5.Obl.early rfl rfl ?_, Reg5.Obl.early rfl rfl ?_, Reg5.Obl.early rfl rfl ?_, Reg5.Obl.early rfl rfl ?_, Reg5.Obl.early rfl rfl ?_, Reg5.Obl.early rfl rfl ?_, Reg5.Obl.early rfl rfl ?_, Reg5.Obl.early rfl rfl ?_, Reg5.Obl.early rfl rfl ?_, Reg5.Obl.early rfl rfl ?_, Reg5.Obl.early rfl rfl ?_, Reg5.Obl.early rfl rfl ?_, Reg5.Obl.early rfl rfl ?_, Reg5.Obl.early rfl rfl ?_, Reg5.Obl.early rfl rfl ?_, Reg5.Obl.early rfl rfl ?_, Reg5.Obl.early rfl rfl ?_, Reg5.Obl.early rfl rfl ?_, Reg5.Obl.early rfl rfl ?_, Reg5.Obl.early rfl rfl ?_, Reg5.Obl.early rfl rfl ?_, Reg5.Obl.early rfl rfl ?_, Reg5.Obl.early rfl rfl ?_, Reg5.Obl.fin rfl rfl ?_, trivial⟩
         ·rintro a w1 HC hx hd K hK
          replace HC := Lib.hid HC
          have t3 : a.tmps[3]?.getD undef = .pointer (some ⟨pb, 0, none⟩) := Reg.slot_val (hx 3 (by kernel_rfl))
          go_simp
          exact hK _ _ rfl HC.out (Below.refl _ _)
         ·rintro a w1 HC hx hd K hK
          replace HC := Lib.hid HC
          have t116 : a.tmps[116]?.getD undef = .pointer (some ⟨pb, 0, none⟩) := Reg.slot_val (hd 0 (by kernel_rfl) 116 rfl)
          go_simp
          exact hK _ _ rfl HC.out (Below.refl _ _)
         ·rintro a w1 HC hx hd K hK
          replace HC := Lib.hid HC
          have t117 : a.tmps[117]?.getD undef = .pointer (some ⟨pb, 0, none⟩) := Reg.slot_val (hd 1 (by kernel_rfl) 117 rfl)
          go_simp
          exact hK _ _ rfl HC.out (Below.refl _ _)
         ·rintro a w1 HC hx hd K hK
          replace HC := Lib.hid HC
          have y9 := cell_below HC.out.bel HA0.out
          have t118 : a.tmps[118]?.getD undef = .pointer (some ⟨pb, 0, none⟩) := Reg.slot_val (hd 2 (by kernel_rfl) 118 rfl)
          go_simp
          exact hK _ _ rfl HC.out (Below.refl _ _)
         ·rintro a w1 HC hx hd K hK
          replace HC := Lib.hid HC
          have t10 : a.tmps[10]?.getD undef = .slice (some ⟨br, orr, none⟩) 3 q1 := Reg.slot_val (hx 10 (by kernel_rfl))
          go_simp
          exact hK _ _ rfl HC.out (Below.refl _ _)
         ·rintro a w1 HC hx hd K hK
          replace HC := Lib.hid HC
          have t13 : a.tmps[13]?.getD undef = .int .i64 (j : Int) := Reg.slot_val (hx 13 (by kernel_rfl))
          go_simp
          exact hK _ _ rfl HC.out (Below.refl _ _)
         ·rintro a w1 HC hx hd K hK
          replace HC := Lib.hid HC
          have t121 : a.tmps[121]?.getD undef = .int .i64 (j : Int) := Reg.slot_val (hd 5 (by kernel_rfl) 121 rfl)
          go_simp
          exact hK _ _ rfl HC.out (Below.refl _ _)
         ·rintro a w1 HC hx hd K hK
          replace HC := Lib.hid HC
          have t122 : a.tmps[122]?.getD undef = .int .i64 ((j : Int) + 2) := Reg.slot_val (hd 6 (by kernel_rfl) 122 rfl)
          go_simp
          exact hK _ _ rfl HC.out (Below.refl _ _)
         ·rintro a w1 HC hx hd K hK
          replace HC := Lib.hid HC
          have t120 : a.tmps[120]?.getD undef = .slice (some ⟨br, orr, none⟩) 3 q1 := Reg.slot_val (hd 4 (by kernel_rfl) 120 rfl)
          have t123 : a.tmps[123]?.getD undef = .int .i64 (a2 : Int) := Reg.slot_val (hd 7 (by kernel_rfl) 123 rfl)
          go_simp
          exact hK _ _ rfl HC.out (Below.refl _ _)
         ·rintro a w1 HC hx hd K hK
          replace HC := Lib.hid HC
          have y9 := cell_below HC.out.bel RC.out
          have t124 : a.tmps[124]?.getD undef = .pointer (some ⟨br, orr + a2, none⟩) := Reg.slot_val (hd 8 (by kernel_rfl) 124 rfl)
          go_simp
          exact hK _ _ rfl HC.out (Below.refl _ _)
         ·rintro a w1 HC hx hd K hK
          replace HC := Lib.hid HC
          have t119 : a.tmps[119]?.getD undef = .slice (some ⟨bp, op, none⟩) B.pl B.pc := Reg.slot_val (hd 3 (by kernel_rfl) 119 rfl)
          have t125 : a.tmps[125]?.getD undef = .int .i64 (mc : Int) := Reg.slot_val (hd 9 (by kernel_rfl) 125 rfl)
          go_simp
          exact hK _ _ rfl HC.out (Below.refl _ _)
         ·rintro a w1 HC hx hd K hK
          replace HC := Lib.hid HC
          have y0 := cell_below HC.out.bel DC.out.1
          have y1 := cell_below HC.out.bel DC.out.2.1
          have y2 := cell_below HC.out.bel DC.out.2.2
          have t126 : a.tmps[126]?.getD undef = .pointer (some ⟨bp, op + mc * 3, none⟩) := Reg.slot_val (hd 10 (by kernel_rfl) 126 rfl)
          go_simp
          exact hK _ _ rfl HC.out (Below.refl _ _)
         ·rintro a w1 HC hx hd K hK
          replace HC := Lib.hid HC
          have t3 : a.tmps[3]?.getD undef = .pointer (some ⟨pb, 0, none⟩) := Reg.slot_val (hx 3 (by kernel_rfl))
          go_simp
          exact hK _ _ rfl HC.out (Below.refl _ _)
         ·rintro a w1 HC hx hd K hK
          replace HC := Lib.hid HC
          have t128 : a.tmps[128]?.getD undef = .pointer (some ⟨pb, 0, none⟩) := Reg.slot_val (hd 12 (by kernel_rfl) 128 rfl)
          go_simp
          exact hK _ _ rfl HC.out (Below.refl _ _)
         ·rintro a w1 HC hx hd K hK
          replace HC := Lib.hid HC
          have t129 : a.tmps[129]?.getD undef = .pointer (some ⟨pb, 0, none⟩) := Reg.slot_val (hd 13 (by kernel_rfl) 129 rfl)
          go_simp
          exact hK _ _ rfl HC.out (Below.refl _ _)
         ·rintro a w1 HC hx hd K hK
          replace HC := Lib.hid HC
          have y9 := cell_below HC.out.bel HA0.out
          have t130 : a.tmps[130]?.getD undef = .pointer (some ⟨pb, 0, none⟩) := Reg.slot_val (hd 14 (by kernel_rfl) 130 rfl)
          go_simp
          exact hK _ _ rfl HC.out (Below.refl _ _)
         ·rintro a w1 HC hx hd K hK
          replace HC := Lib.hid HC
          have t10 : a.tmps[10]?.getD undef = .slice (some ⟨br, orr, none⟩) 3 q1 := Reg.slot_val (hx 10 (by kernel_rfl))
          go_simp
          exact hK _ _ rfl HC.out (Below.refl _ _)
         ·rintro a w1 HC hx hd K hK
          replace HC := Lib.hid HC
          have t13 : a.tmps[13]?.getD undef = .int .i64 (j : Int) := Reg.slot_val (hx 13 (by kernel_rfl))
          go_simp
          exact hK _ _ rfl HC.out (Below.refl _ _)
         ·rintro a w1 HC hx hd K hK
          replace HC := Lib.hid HC
          have t133 : a.tmps[133]?.getD undef = .int .i64 (j : Int) := Reg.slot_val (hd 17 (by kernel_rfl) 133 rfl)
          go_simp
          exact hK _ _ rfl HC.out (Below.refl _ _)
         ·rintro a w1 HC hx hd K hK
          replace HC := Lib.hid HC
          have t134 : a.tmps[134]?.getD undef = .int .i64 ((j : Int) + 1) := Reg.slot_val (hd 18 (by kernel_rfl) 134 rfl)
          go_simp
          exact hK _ _ rfl HC.out (Below.refl _ _)
         ·rintro a w1 HC hx hd K hK
          replace HC := Lib.hid HC
          have t132 : a.tmps[132]?.getD undef = .slice (some ⟨br, orr, none⟩) 3 q1 := Reg.slot_val (hd 16 (by kernel_rfl) 132 rfl)
          have t135 : a.tmps[135]?.getD undef = .int .i64 (a1 : Int) := Reg.slot_val (hd 19 (by kernel_rfl) 135 rfl)
          go_simp
          exact hK _ _ rfl HC.out (Below.refl _ _)
         ·rintro a w1 HC hx hd K hK
          replace HC := Lib.hid HC
          have y9 := cell_below HC.out.bel RB.out
          have t136 : a.tmps[136]?.getD undef = .pointer (some ⟨br, orr + a1, none⟩) := Reg.slot_val (hd 20 (by kernel_rfl) 136 rfl)
          go_simp
          exact hK _ _ rfl HC.out (Below.refl _ _)
         ·rintro a w1 HC hx hd K hK
          replace HC := Lib.hid HC
          have t131 : a.tmps[131]?.getD undef = .slice (some ⟨bp, op, none⟩) B.pl B.pc := Reg.slot_val (hd 15 (by kernel_rfl) 131 rfl)
          have t137 : a.tmps[137]?.getD undef = .int .i64 (mb : Int) := Reg.slot_val (hd 21 (by kernel_rfl) 137 rfl)
          go_simp
          exact hK _ _ rfl HC.out (Below.refl _ _)
         ·rintro a w1 HC hx hd K hK
          replace HC := Lib.hid HC
          have y0 := cell_below HC.out.bel DB.out.1
          have y1 := cell_below HC.out.bel DB.out.2.1
          have y2 := cell_below HC.out.bel DB.out.2.2
          have t138 : a.tmps[138]?.getD undef = .pointer (some ⟨bp, op + mb * 3, none⟩) := Reg.slot_val (hd 22 (by kernel_rfl) 138 rfl)
          go_simp
          exact hK _ _ rfl HC.out (Below.refl _ _)
         ·rintro a w1 HC hx hd K hK
          replace HC := Lib.hid HC
          have t127 : a.tmps[127]?.getD undef = vv pC qC rC := Reg.slot_val (hd 11 (by kernel_rfl) 127 rfl)
          have t139 : a.tmps[139]?.getD undef = vv pB qB rB := Reg.slot_val (hd 23 (by kernel_rfl) 139 rfl)
          go_simp
          refine (l01Less _ _ _ _ _ _ _ _ _ _ _ _ _ FC.out.1 FC.out.2.1 FC.out.2.2 FB.out.1 FB.out.2.1 FB.out.2.2).mono ?_
          rintro en w2 ⟨p', q', r', rfl, fp', fq', fr', hB2⟩
          exact hK _ _ ⟨p', q', r', rfl, fp', fq', fr'⟩ (HC.out.call hB2) hB2
         ·rintro a w1 HC hx hd K hK
          replace HC := Lib.hid HC
          go_simp
          have hB2 : Below w1.heap.size w1 (w1.alloc (.cells #[.float .f32 0, .float .f32 0, .float .f32 0] 42)) := (Below.refl _ _).alloc (Nat.le_refl _) _
          exact hK _ _ ⟨w1.heap.size, rfl, HC.out.box, HC.out.bel.size, fun x9 hx9 => (HC.out.2.1 x9.1 x9.2 hx9).2.2.1⟩ (HC.out.call hB2) hB2
         ·rintro a w1 HC hx hd K hK
          replace HC := Lib.hid HC
          obtain ⟨b9, g14, hS9, hb9, hl9⟩ := hd 25 (by kernel_rfl) 14 rfl
          have t14 := Reg.slot_val g14
          clear g14
          have z0 := (hS9.mem (.head _)) 0 _ rfl
          have z1 := (hS9.mem (.head _)) 1 _ rfl
          have z2 := (hS9.mem (.head _)) 2 _ rfl
          have k0 := hS9.free (.head _) 0
          have k1 := hS9.free (.head _) 1
          have k2 := hS9.free (.head _) 2
          have HS9 := Lib.hid (And.intro hS9 (And.intro hb9 hl9))
          clear hS9 hb9 hl9
          obtain ⟨p140, q140, r140, g140, f140⟩ := hd 24 (by kernel_rfl) 140 rfl
          have t140 := Reg.slot_val g140
          clear g140
          go_simp
          exact hK undef _ ⟨b9, _, _, _, t14, f140, ((HS9.out.1.setB HS9.out.2.1 HS9.out.2.2 0 _).setB HS9.out.2.1 HS9.out.2.2 1 _).setB HS9.out.2.1 HS9.out.2.2 2 _⟩
        ·rintro f' W5 hD hT
         obtain ⟨U, sx, sy, sz, e14, hF8, hS⟩ := hT 26 rfl (Nat.le_of_ble_eq_true rfl)
         have g14 : f' 14 = .pointer (some ⟨U, 0, none⟩) := e14
         simp only [Reg.mixL, Nat.zero_add, Nat.reduceAdd, g14]
         have S5 := Lib.hid hS
         have HSI := Lib.hid hF8
         clear hD hT e14 hF8 hS g14 S4
         go_wp2_with fail
         refine Reg3.wp_region_mix (C := St w ((U, [.float .f32 sx, .float .f32 sy, .float .f32 sz]) :: [(V, [.float .f32 nx, .float .f32 ny, .float .f32 nz])]) g XJ) (G := fun _ _ => True) (R := fun i v w' => match i with | 0 => v = .slice (some ⟨g, 0, none⟩) B.pl B.pl | 1 => v = .slice (some ⟨br, orr, none⟩) 3 q1 | 2 => v = .int .i64 (j : Int) | 3 => v = .pointer (some ⟨br, orr + j, none⟩) | 4 => v = .int .i64 (ma : Int) | 5 => v = .slice (some ⟨g, 0, none⟩) B.pl B.pl | 6 => v = .slice (some ⟨br, orr, none⟩) 3 q1 | 7 => v = .int .i64 (j : Int) | 8 => v = .pointer (some ⟨br, orr + j, none⟩) | 9 => v = .int .i64 (ma : Int) | 10 => v = .pointer (some ⟨g, ma * 3, none⟩) | 11 => ∃ p q r, v = vv p q r ∧ F3 p q r (XJ.getD ma c0) | 12 => v = vv nx ny nz | 13 => v = vv sx sy sz | 14 => ∃ p q r, v = vv p q r ∧ F3 p q r (crossC N (lessC (c.cs.getD mc c0) (c.cs.getD mb c0))) | 15 => v = .float .f32 pv | 16 => ∃ p q r, v = vv p q r ∧ F3 p q r (scaleC (crossC N (lessC (c.cs.getD mc c0) (c.cs.getD mb c0))) PV) | 17 => ∃ p q r, v = vv p q r ∧ F3 p q r (plusC (XJ.getD ma c0) (scaleC (crossC N (lessC (c.cs.getD mc c0) (c.cs.getD mb c0))) PV)) | 18 => v = .pointer (some ⟨g, ma * 3, none⟩) | _ => True) (T := fun _ _ w' => St w ((U, [.float .f32 sx, .float .f32 sy, .float .f32 sz]) :: [(V, [.float .f32 nx, .float .f32 ny, .float .f32 nz])]) g (addAt XJ ma (scaleC (crossC N (lessC (c.cs.getD mc c0) (c.cs.getD mb c0))) PV)) w') [false, false, false, false, false, false, false, false, false, false, false, false, false, false, false, false, false, false, false, false, false, false, false, false, false, false, false, false, false, false, false, false, false, false, false, false, false, false, false, false, false, false, false, false, false, false, false, false, false, false, false, false, false, false, false, false, false, false, false, false, false, false, false, false, false, false, false, false, false, false, false, false, false, false, false, false, false, false, false, false, false, false, false, false, false, false, false, false, false, false, false, false, false, false, false, false, false, false, false, false, false, false, false, false, false, false, false, false, false, false, false, false, false, false, false, false, false, false, false, false, false, false, false, false, false, false, false, false, false, false, false, false, false, false, false, false, false, false, false, false, false, true, true, true, true, true, true, true, true, true, true, true, true, true, true, true, true, true, true, true, false, false, false, false, false, false, false, false, false, false, false, false, false, false, false, false, false, false, false, false, false, false, false, false, false, false, false, false, false, false, false, false, false, false, false, false, false, false, false, false, false, false, false, false, false, false, false, false, false, false, false, false, false, false, false, false, false, false, false, false, false, false, false, false, false, false, false, false, false, false, false, false, false, false, false, false, false, false, false, false, false, false, false, false, false, false, false, false, false, false, false, false, false, false, false, false, false, false, false, false, false, false, false, false, false, false, false, false, false, false, false, false, false, false, false, false, false, false, false, false]
          (by kernel_rfl) (by kernel_rfl) (by kernel_rfl) (fun _ _ _ _ _ _ h => h) (S5.out.drewN 1) ?_ ?_
         ·refine ⟨Reg3.Obl.mk ?_, Reg3.Obl.mk ?_, Reg3.Obl.mk ?_, Reg3.Obl.mk ?_, Reg3.Obl.mk ?_, Reg3.Obl.mk ?_, Reg3.Obl.mk ?_, Reg3.Obl.mk ?_, Reg3.Obl.mk ?_, Reg3.Obl.mk ?_, Reg3.Obl.mk ?_, Reg3.Obl.mk ?_, Reg3.Obl.mk ?_, Reg3.Obl.mk ?_, Reg3.Obl.mk ?_, Reg3.Obl.mk ?_, Reg3.Obl.mk ?_, Reg3.Obl.mk ?_, Reg3.Obl.mk ?_, Reg3.Obl.mk ?_, trivial⟩
          ·rintro a w1 HC hx hd K hK
           replace HC := Lib.hid HC
           have t4 : a.tmps[4]?.getD undef = .slice (some ⟨g, 0, none⟩) B.pl B.pl := Reg.slot_val (hx 4 (by kernel_rfl))
           go_simp
           exact hK _ _ (fun _ => rfl) (fun h => by cases h) (fun _ => HC.out) trivial
          ·rintro a w1 HC hx hd K hK
           replace HC := Lib.hid HC
           have t10 : a.tmps[10]?.getD undef = .slice (some ⟨br, orr, none⟩) 3 q1 := Reg.slot_val (hx 10 (by kernel_rfl))
           go_simp
           exact hK _ _ (fun _ => rfl) (fun h => by cases h) (fun _ => HC.out) trivial
          ·rintro a w1 HC hx hd K hK
           replace HC := Lib.hid HC
           have t13 : a.tmps[13]?.getD undef = .int .i64 (j : Int) := Reg.slot_val (hx 13 (by kernel_rfl))
           go_simp
           exact hK _ _ (fun _ => rfl) (fun h => by cases h) (fun _ => HC.out) trivial
          ·rintro a w1 HC hx hd K hK
           replace HC := Lib.hid HC
           have t142 : a.tmps[142]?.getD undef = .slice (some ⟨br, orr, none⟩) 3 q1 := Reg.slot_val (hd 1 (by kernel_rfl) 142 rfl)
           have t143 : a.tmps[143]?.getD undef = .int .i64 (j : Int) := Reg.slot_val (hd 2 (by kernel_rfl) 143 rfl)
           go_simp
           exact hK _ _ (fun _ => rfl) (fun h => by cases h) (fun _ => HC.out) trivial
          ·rintro a w1 HC hx hd K hK
           replace HC := Lib.hid HC
           have y9 := cell_below HC.out.bel RA.out
           have t144 : a.tmps[144]?.getD undef = .pointer (some ⟨br, orr + j, none⟩) := Reg.slot_val (hd 3 (by kernel_rfl) 144 rfl)
           go_simp
           exact hK _ _ (fun _ => rfl) (fun h => by cases h) (fun _ => HC.out) trivial
          ·rintro a w1 HC hx hd K hK
           replace HC := Lib.hid HC
           have t4 : a.tmps[4]?.getD undef = .slice (some ⟨g, 0, none⟩) B.pl B.pl := Reg.slot_val (hx 4 (by kernel_rfl))
           go_simp
           exact hK _ _ (fun _ => rfl) (fun h => by cases h) (fun _ => HC.out) trivial
          ·rintro a w1 HC hx hd K hK
           replace HC := Lib.hid HC
           have t10 : a.tmps[10]?.getD undef = .slice (some ⟨br, orr, none⟩) 3 q1 := Reg.slot_val (hx 10 (by kernel_rfl))
           go_simp
           exact hK _ _ (fun _ => rfl) (fun h => by cases h) (fun _ => HC.out) trivial
          ·rintro a w1 HC hx hd K hK
           replace HC := Lib.hid HC
           have t13 : a.tmps[13]?.getD undef = .int .i64 (j : Int) := Reg.slot_val (hx 13 (by kernel_rfl))
           go_simp
           exact hK _ _ (fun _ => rfl) (fun h => by cases h) (fun _ => HC.out) trivial
          ·rintro a w1 HC hx hd K hK
           replace HC := Lib.hid HC
           have t147 : a.tmps[147]?.getD undef = .slice (some ⟨br, orr, none⟩) 3 q1 := Reg.slot_val (hd 6 (by kernel_rfl) 147 rfl)
           have t148 : a.tmps[148]?.getD undef = .int .i64 (j : Int) := Reg.slot_val (hd 7 (by kernel_rfl) 148 rfl)
           go_simp
           exact hK _ _ (fun _ => rfl) (fun h => by cases h) (fun _ => HC.out) trivial
          ·rintro a w1 HC hx hd K hK
           replace HC := Lib.hid HC
           have y9 := cell_below HC.out.bel RA.out
           have t149 : a.tmps[149]?.getD undef = .pointer (some ⟨br, orr + j, none⟩) := Reg.slot_val (hd 8 (by kernel_rfl) 149 rfl)
           go_simp
           exact hK _ _ (fun _ => rfl) (fun h => by cases h) (fun _ => HC.out) trivial
          ·rintro a w1 HC hx hd K hK
           replace HC := Lib.hid HC
           have t146 : a.tmps[146]?.getD undef = .slice (some ⟨g, 0, none⟩) B.pl B.pl := Reg.slot_val (hd 5 (by kernel_rfl) 146 rfl)
           have t150 : a.tmps[150]?.getD undef = .int .i64 (ma : Int) := Reg.slot_val (hd 9 (by kernel_rfl) 150 rfl)
           go_simp
           exact hK _ _ (fun _ => rfl) (fun h => by cases h) (fun _ => HC.out) trivial
          ·rintro a w1 HC hx hd K hK
           replace HC := Lib.hid HC
           obtain ⟨u0, u1, u2, ⟨z0, z1, z2⟩, fu⟩ := HC.out.own.at HMX.out
           have t151 : a.tmps[151]?.getD undef = .pointer (some ⟨g, ma * 3, none⟩) := Reg.slot_val (hd 10 (by kernel_rfl) 151 rfl)
           go_simp
           exact hK _ _ (fun _ => ⟨u0, u1, u2, rfl, fu⟩) (fun h => by cases h) (fun _ => HC.out) trivial
          ·rintro a w1 HC hx hd K hK
           replace HC := Lib.hid HC
           have x0 := (HC.out.mem (.tail _ (.head _))) 0 _ rfl
           have x1 := (HC.out.mem (.tail _ (.head _))) 1 _ rfl
           have x2 := (HC.out.mem (.tail _ (.head _))) 2 _ rfl
           have t11 : a.tmps[11]?.getD undef = .pointer (some ⟨V, 0, none⟩) := Reg.slot_val (hx 11 (by kernel_rfl))
           go_simp
           exact hK _ _ (fun _ => rfl) (fun h => by cases h) (fun _ => HC.out) trivial
          ·rintro a w1 HC hx hd K hK
           replace HC := Lib.hid HC
           have x0 := (HC.out.mem (.head _)) 0 _ rfl
           have x1 := (HC.out.mem (.head _)) 1 _ rfl
           have x2 := (HC.out.mem (.head _)) 2 _ rfl
           have t14 : a.tmps[14]?.getD undef = .pointer (some ⟨U, 0, none⟩) := Reg.slot_val (hx 14 (by kernel_rfl))
           go_simp
           exact hK _ _ (fun _ => rfl) (fun h => by cases h) (fun _ => HC.out) trivial
          ·rintro a w1 HC hx hd K hK
           replace HC := Lib.hid HC
           have t153 : a.tmps[153]?.getD undef = vv nx ny nz := Reg.slot_val (hd 12 (by kernel_rfl) 153 rfl)
           have t154 : a.tmps[154]?.getD undef = vv sx sy sz := Reg.slot_val (hd 13 (by kernel_rfl) 154 rfl)
           go_simp
           refine (l01Cross _ _ _ _ _ _ _ _ _ _ _ _ _ HN.out.1 HN.out.2.1 HN.out.2.2 HSI.out.1 HSI.out.2.1 HSI.out.2.2).mono ?_
           rintro en w2 ⟨p', q', r', rfl, fp', fq', fr', hB2⟩
           exact hK _ _ (fun _ => ⟨p', q', r', rfl, fp', fq', fr'⟩) (fun h => by cases h) (fun _ => HC.out.call hB2) trivial
          ·rintro a w1 HC hx hd K hK
           replace HC := Lib.hid HC
           have t12 : a.tmps[12]?.getD undef = .float .f32 pv := Reg.slot_val (hx 12 (by kernel_rfl))
           go_simp
           exact hK _ _ (fun _ => rfl) (fun h => by cases h) (fun _ => HC.out) trivial
          ·rintro a w1 HC hx hd K hK
           replace HC := Lib.hid HC
           obtain ⟨p155, q155, r155, g155, f155⟩ := hd 14 (by kernel_rfl) 155 rfl
           have t155 := Reg.slot_val g155
           clear g155
           have t156 : a.tmps[156]?.getD undef = .float .f32 pv := Reg.slot_val (hd 15 (by kernel_rfl) 156 rfl)
           go_simp
           refine (l01Scale _ _ _ _ _ _ _ _ _ f155.1 f155.2.1 f155.2.2 HPV.out).mono ?_
           rintro en w2 ⟨p', q', r', rfl, fp', fq', fr', hB2⟩
           exact hK _ _ (fun _ => ⟨p', q', r', rfl, fp', fq', fr'⟩) (fun h => by cases h) (fun _ => HC.out.call hB2) trivial
          ·rintro a w1 HC hx hd K hK
           replace HC := Lib.hid HC
           obtain ⟨p152, q152, r152, g152, f152⟩ := hd 11 (by kernel_rfl) 152 rfl
           have t152 := Reg.slot_val g152
           clear g152
           obtain ⟨p157, q157, r157, g157, f157⟩ := hd 16 (by kernel_rfl) 157 rfl
           have t157 := Reg.slot_val g157
           clear g157
           go_simp
           refine (l01Add _ _ _ _ _ _ _ _ _ _ _ _ _ f152.1 f152.2.1 f152.2.2 f157.1 f157.2.1 f157.2.2).mono ?_
           rintro en w2 ⟨p', q', r', rfl, fp', fq', fr', hB2⟩
           exact hK _ _ (fun _ => ⟨p', q', r', rfl, fp', fq', fr'⟩) (fun h => by cases h) (fun _ => HC.out.call hB2) trivial
          ·rintro a w1 HC hx hd K hK
           replace HC := Lib.hid HC
           have t141 : a.tmps[141]?.getD undef = .slice (some ⟨g, 0, none⟩) B.pl B.pl := Reg.slot_val (hd 0 (by kernel_rfl) 141 rfl)
           have t145 : a.tmps[145]?.getD undef = .int .i64 (ma : Int) := Reg.slot_val (hd 4 (by kernel_rfl) 145 rfl)
           go_simp
           exact hK _ _ (fun _ => rfl) (fun h => by cases h) (fun _ => HC.out) trivial
          ·rintro a w1 HC hx hd K hK
           replace HC := Lib.hid HC
           obtain ⟨u0, u1, u2, ⟨z0, z1, z2⟩, fu⟩ := HC.out.own.at HMX.out
           have k0 := HC.out.own.2.1 (ma * 3)
           have k1 := HC.out.own.2.1 (ma * 3 + 1)
           have k2 := HC.out.own.2.1 (ma * 3 + 2)
           have t159 : a.tmps[159]?.getD undef = .pointer (some ⟨g, ma * 3, none⟩) := Reg.slot_val (hd 18 (by kernel_rfl) 159 rfl)
           obtain ⟨p158, q158, r158, g158, f158⟩ := hd 17 (by kernel_rfl) 158 rfl
           have t158 := Reg.slot_val g158
           clear g158
           go_simp
           exact hK undef _ (fun h => absurd rfl h) (fun _ => HC.out.put HMX.out f158) (fun h => absurd rfl h) trivial
         ·rintro f' W6 hR hT
          have h6 := hT 19 rfl (Nat.le_of_ble_eq_true rfl)
          simp only [Reg.mixL, Nat.zero_add, Nat.reduceAdd]
          have S6 : Hid (St w [(V, [.float .f32 nx, .float .f32 ny, .float .f32 nz])] g (filmJ c.cs X tk PV (j + 1)) W6) := Lib.hid (by rw [HST.out]; exact h6.drop)
          clear hR hT h6 S5
          go_wp2
          go_roundw
          case rel => exact ⟨j + 1, by omega, by go_num, S6.out⟩
          case measure => simp [intOf]; omega
       ·obtain rfl : j = 3 := by omega
        have S6 : Hid (St w [] g (addsF c.cs X0 (es.take (B.sl + (k + 1)))) wr) := Lib.hid (by
         have h5 := S4.out.drop
         rw [show B.sl + (k + 1) = B.sl + k + 1 by omega, HKS.out, HE.out, ← filmJ_3, hNN, hGA]
         exact h5)
        have HLE := HLEN.out
        clear S4
        go_wp2
        go_roundw
        case rel => exact ⟨k + 1, by omega, by go_num, S6.out⟩
        case measure => simp [intOf]; omega
    ·obtain rfl : k = B.tl := by omega
     go_wp2_with fail
     refine (HHG.out wr S1.out.bel).mono ?_
     rintro e V0 ⟨⟨v, rfl, hO⟩, hBV⟩
     obtain ⟨ha, hc, rfl, hI⟩ := hO.is rfl (fun j hj => (HRH.out j hj).2.1)
     have hLT := lt_of_owns hO
     have HI := Lib.hid hI
     have HLT := Lib.hid hLT
     have hsl := S1.out.own.2.2
     have SV := Lib.hid (S1.out.call hBV)
     generalize hlo : wr.heap.size = lo at *
     obtain ⟨S, hS⟩ : ∃ S : Nat → Prop, S = fun b => lo ≤ b ∧ b < V0.heap.size := ⟨_, rfl⟩
     have HSL : Hid (¬ S g) := Lib.hid (by rw [hS]; show ¬ (lo ≤ g ∧ g < V0.heap.size); omega)
     have HSS : Hid (∀ b, lo ≤ b → b < V0.heap.size → S b) := Lib.hid (fun b h1 h2 => by rw [hS]; exact ⟨h1, h2⟩)
     clear hO hI hLT hBV hS hsl S1 hlo
     go_wp2
     go_loopw [165] (fun i w' => ∃ k : Nat, k ≤ hs.length ∧ i = .int .i64 k ∧ Aside (St w [] g (addsF c.cs X0 (es.take (B.sl + B.tl + k))) w' ∧ Agree S V0 w')) (fun i _ => hs.length - (intOf i).toNat)
     case atStart => exact ⟨0, Nat.zero_le _, rfl, SV.out, Agree.refl _ _⟩
     case round =>
      clear SV
      obtain ⟨k, hk, rfl, hA⟩ := hrel
      obtain ⟨hA1, hA2⟩ := hA.out
      have S1 := Lib.hid hA1
      have HAG := Lib.hid hA2
      clear hA hA1 hA2
      by_cases hlt3 : k < hs.length
      ·obtain ⟨bt, ot, rfl, hrow⟩ := HI.out.some (by omega)
       obtain ⟨r1, n1, q1, cr, ir⟩ := hrow k hlt3
       obtain ⟨h4, _, hin⟩ := HRH.out k hlt3
       have hn1 : n1 = 4 := ir.1.symm.trans h4
       subst hn1
       obtain ⟨br, orr, rfl, hcell⟩ := ir.some (by omega)
       obtain ⟨R, eR, u1, u2, u3⟩ := HLT.out _ rfl
       cases eR
       obtain ⟨b', m', c', hc', hb'⟩ := u3 k hlt3
       have cr' := cr
       rw [Nat.zero_add, hc'] at cr'
       cases cr'
       obtain ⟨F', o', eF, v1', v2'⟩ := hb' _ rfl
       cases eF
       have HSB := Lib.hid (HSS.out _ v1' v2')
       have HSR := Lib.hid (HSS.out _ u1 u2)
       obtain ⟨m0, hm0, hm0'⟩ := inB_nat (hin 0 (by decide))
       obtain ⟨m1, hm1, hm1'⟩ := inB_nat (hin 1 (by decide))
       obtain ⟨m2, hm2, hm2'⟩ := inB_nat (hin 2 (by decide))
       obtain ⟨m3, hm3, hm3'⟩ := inB_nat (hin 3 (by decide))
       have R0' := hcell 0 (by omega)
       have R1' := hcell 1 (by omega)
       have R2' := hcell 2 (by omega)
       have R3' := hcell 3 (by omega)
       rw [hm0, Nat.add_zero] at R0'
       rw [hm1] at R1'
       rw [hm2] at R2'
       rw [hm3] at R3'
       have HR0 := Lib.hid R0'
       have HR1 := Lib.hid R1'
       have HR2 := Lib.hid R2'
       have HR3 := Lib.hid R3'
       have HE := Lib.hid (E3.out k hlt3)
       have HXL : Hid ((addsF c.cs X0 (List.take (B.sl + B.tl + k) es)).length = B.pl) := Lib.hid (by rw [addsF_len]; exact HZ.out)
       have HKS := Lib.hid (addsF_s c.cs X0 es (show B.sl + B.tl + k < es.length by have := EL.out; omega))
       generalize hX : addsF c.cs X0 (List.take (B.sl + B.tl + k) es) = X at *
       have HAD := Lib.hid (add_hi (cs := c.cs) (X := X) (b := c.bend) hm0 hm1 hm2 hm3)
       have HBE := Lib.hid H.out.2.2.2.2.2.1
       have hk0 : (0 : Int) ≤ (k : Int) := by omega
       have hk1 : (k : Int) < (hs.length : Int) := by omega
       have hn0 : (0 : Int) ≤ (m0 : Int) ∧ (m0 : Int) < (B.pl : Int) := by omega
       have hn1' : (0 : Int) ≤ (m1 : Int) ∧ (m1 : Int) < (B.pl : Int) := by omega
       have hn2 : (0 : Int) ≤ (m2 : Int) ∧ (m2 : Int) < (B.pl : Int) := by omega
       have hn3 : (0 : Int) ≤ (m3 : Int) ∧ (m3 : Int) < (B.pl : Int) := by omega
       rw [Nat.zero_add] at cr
       have cw := HAG.out.cell _ _ _ HSR.out cr
       clear hrow ir hcell hin h4 hm0 hm1 hm2 hm3 R0' R1' R2' R3' u3 hc' hb' cr
       go_wp2_with fail
       clear cw
       refine (l03Bent pb br orr q1 m0 m1 m2 m3 B.pa B.pl B.pc c.cs wr (cell_below S1.out.bel (HA.out 0 _ rfl)) (HAG.out.cell _ _ _ HSB.out HR0.out) (HAG.out.cell _ _ _ HSB.out HR1.out) (HAG.out.cell _ _ _ HSB.out HR2.out) (HAG.out.cell _ _ _ HSB.out HR3.out) (H.out.below S1.out.bel).1 hm0' hm1' hm2' hm3').mono ?_
       rintro e w2 ⟨nx, ny, nz, rfl, hN, hB2⟩
       generalize lessC (plusC (c.cs.getD m2 c0) (c.cs.getD m3 c0)) (plusC (c.cs.getD m0 c0) (c.cs.getD m1 c0)) = N at *
       have S2' : St w [(w2.heap.size, [.float .f32 nx, .float .f32 ny, .float .f32 nz])] g X (w2.alloc (.cells #[.float .f32 nx, .float .f32 ny, .float .f32 nz] 42)) := (S1.out.call hB2).box
       have S2 := Lib.hid S2'
       have A2 : Hid (Agree S V0 (w2.alloc (.cells #[.float .f32 nx, .float .f32 ny, .float .f32 nz] 42))) := Lib.hid ((HAG.out.trans (Agree.of_below hB2)).trans (Agree.of_below ((Below.refl _ _).alloc (Nat.le_refl _) _)))
       have HN := Lib.hid hN
       have HM0 : Hid (m0 < X.length) := Lib.hid (by have := HXL.out; omega)
       clear hB2 S2' hN S1 HAG
       go_wp2_with fail
       generalize (w2.alloc (.cells #[.float .f32 nx, .float .f32 ny, .float .f32 nz] 42)) = W2 at *
       generalize w2.heap.size = V at *
       refine Reg3.wp_region_mix (C := fun w' => St w [(V, [.float .f32 nx, .float .f32 ny, .float .f32 nz])] g X w' ∧ Agree S V0 w') (G := fun _ _ => True) (R := fun i v w' => match i with | 0 => v = .slice (some ⟨g, 0, none⟩) B.pl B.pl | 1 => v = .slice (some ⟨br, orr, none⟩) 4 q1 | 2 => v = .pointer (some ⟨br, orr, none⟩) | 3 => v = .int .i64 (m0 : Int) | 4 => v = .slice (some ⟨g, 0, none⟩) B.pl B.pl | 5 => v = .slice (some ⟨br, orr, none⟩) 4 q1 | 6 => v = .pointer (some ⟨br, orr, none⟩) | 7 => v = .int .i64 (m0 : Int) | 8 => v = .pointer (some ⟨g, m0 * 3, none⟩) | 9 => ∃ p q r, v = vv p q r ∧ F3 p q r (X.getD m0 c0) | 10 => v = vv nx ny nz | 11 => v = .pointer (some ⟨pb, 0, none⟩) | 12 => v = .pointer (some ⟨pb, 0, none⟩) | 13 => v = .pointer (some ⟨pb, 4, none⟩) | 14 => v = .float .f32 B.bend | 15 => ∃ p q r, v = vv p q r ∧ F3 p q r (scaleC N c.bend) | 16 => ∃ p q r, v = vv p q r ∧ F3 p q r (plusC (X.getD m0 c0) (scaleC N c.bend)) | 17 => v = .pointer (some ⟨g, m0 * 3, none⟩) | _ => True) (T := fun _ _ w' => St w [(V, [.float .f32 nx, .float .f32 ny, .float .f32 nz])] g (addAt X m0 (scaleC N c.bend)) w' ∧ Agree S V0 w') [false, false, false, false, false, false, false, false, false, false, false, false, false, false, false, false, false, false, false, false, false, false, false, false, false, false, false, false, false, false, false, false, false, false, false, false, false, false, false, false, false, false, false, false, false, false, false, false, false, false, false, false, false, false, false, false, false, false, false, false, false, false, false, false, false, false, false, false, false, false, false, false, false, false, false, false, false, false, false, false, false, false, false, false, false, false, false, false, false, false, false, false, false, false, false, false, false, false, false, false, false, false, false, false, false, false, false, false, false, false, false, false, false, false, false, false, false, false, false, false, false, false, false, false, false, false, false, false, false, false, false, false, false, false, false, false, false, false, false, false, false, false, false, false, false, false, false, false, false, false, false, false, false, false, false, false, false, false, false, false, false, false, false, false, false, false, false, false, false, false, false, false, false, false, false, true, true, true, true, true, true, true, true, true, true, true, true, true, true, true, true, true, true, false, false, false, false, false, false, false, false, false, false, false, false, false, false, false, false, false, false, false, false, false, false, false, false, false, false, false, false, false, false, false, false, false, false, false, false, false, false, false, false, false, false, false, false, false, false, false, false, false, false, false, false, false, false, false, false, false, false, false, false, false, false, false, false, false, false, false, false, false, false, false, false, false, false, false, false, false, false, false, false, false, false, false, false, false, false, false]
        (by kernel_rfl) (by kernel_rfl) (by kernel_rfl) (fun _ _ _ _ _ _ h => h) (⟨S2.out.drewN 1, A2.out.trans (Agree.of_below (below_drewN (Below.refl _ _) 1))⟩) ?_ ?_
       ·refine ⟨Reg3.Obl.mk ?_, Reg3.Obl.mk ?_, Reg3.Obl.mk ?_, Reg3.Obl.mk ?_, Reg3.Obl.mk ?_, Reg3.Obl.mk ?_, Reg3.Obl.mk ?_, Reg3.Obl.mk ?_, Reg3.Obl.mk ?_, Reg3.Obl.mk ?_, Reg3.Obl.mk ?_, Reg3.Obl.mk ?_, Reg3.Obl.mk ?_, Reg3.Obl.mk ?_, Reg3.Obl.mk ?_, Reg3.Obl.mk ?_, Reg3.Obl.mk ?_, Reg3.Obl.mk ?_, Reg3.Obl.mk ?_, trivial⟩
        ·rintro a w1 HC hx hd K hK
         replace HC := Lib.hid HC
         have t4 : a.tmps[4]?.getD undef = .slice (some ⟨g, 0, none⟩) B.pl B.pl := Reg.slot_val (hx 4 (by kernel_rfl))
         go_simp
         exact hK _ _ (fun _ => rfl) (fun h => by cases h) (fun _ => HC.out) trivial
        ·rintro a w1 HC hx hd K hK
         replace HC := Lib.hid HC
         have t17 : a.tmps[17]?.getD undef = .slice (some ⟨br, orr, none⟩) 4 q1 := Reg.slot_val (hx 17 (by kernel_rfl))
         go_simp
         exact hK _ _ (fun _ => rfl) (fun h => by cases h) (fun _ => HC.out) trivial
        ·rintro a w1 HC hx hd K hK
         replace HC := Lib.hid HC
         have t176 : a.tmps[176]?.getD undef = .slice (some ⟨br, orr, none⟩) 4 q1 := Reg.slot_val (hd 1 (by kernel_rfl) 176 rfl)
         go_simp
         exact hK _ _ (fun _ => rfl) (fun h => by cases h) (fun _ => HC.out) trivial
        ·rintro a w1 HC hx hd K hK
         replace HC := Lib.hid HC
         have x9 := HC.out.2.cell _ _ _ HSB.out HR0.out
         have t177 : a.tmps[177]?.getD undef = .pointer (some ⟨br, orr, none⟩) := Reg.slot_val (hd 2 (by kernel_rfl) 177 rfl)
         go_simp
         exact hK _ _ (fun _ => rfl) (fun h => by cases h) (fun _ => HC.out) trivial
        ·rintro a w1 HC hx hd K hK
         replace HC := Lib.hid HC
         have t4 : a.tmps[4]?.getD undef = .slice (some ⟨g, 0, none⟩) B.pl B.pl := Reg.slot_val (hx 4 (by kernel_rfl))
         go_simp
         exact hK _ _ (fun _ => rfl) (fun h => by cases h) (fun _ => HC.out) trivial
        ·rintro a w1 HC hx hd K hK
         replace HC := Lib.hid HC
         have t17 : a.tmps[17]?.getD undef = .slice (some ⟨br, orr, none⟩) 4 q1 := Reg.slot_val (hx 17 (by kernel_rfl))
         go_simp
         exact hK _ _ (fun _ => rfl) (fun h => by cases h) (fun _ => HC.out) trivial
        ·rintro a w1 HC hx hd K hK
         replace HC := Lib.hid HC
         have t180 : a.tmps[180]?.getD undef = .slice (some ⟨br, orr, none⟩) 4 q1 := Reg.slot_val (hd 5 (by kernel_rfl) 180 rfl)
         go_simp
         exact hK _ _ (fun _ => rfl) (fun h => by cases h) (fun _ => HC.out) trivial
        ·rintro a w1 HC hx hd K hK
         replace HC := Lib.hid HC
         have x9 := HC.out.2.cell _ _ _ HSB.out HR0.out
         have t181 : a.tmps[181]?.getD undef = .pointer (some ⟨br, orr, none⟩) := Reg.slot_val (hd 6 (by kernel_rfl) 181 rfl)
         go_simp
         exact hK _ _ (fun _ => rfl) (fun h => by cases h) (fun _ => HC.out) trivial
        ·rintro a w1 HC hx hd K hK
         replace HC := Lib.hid HC
         have t179 : a.tmps[179]?.getD undef = .slice (some ⟨g, 0, none⟩) B.pl B.pl := Reg.slot_val (hd 4 (by kernel_rfl) 179 rfl)
         have t182 : a.tmps[182]?.getD undef = .int .i64 (m0 : Int) := Reg.slot_val (hd 7 (by kernel_rfl) 182 rfl)
         go_simp
         exact hK _ _ (fun _ => rfl) (fun h => by cases h) (fun _ => HC.out) trivial
        ·rintro a w1 HC hx hd K hK
         replace HC := Lib.hid HC
         obtain ⟨u0, u1, u2, ⟨z0, z1, z2⟩, fu⟩ := HC.out.1.own.at HM0.out
         have t183 : a.tmps[183]?.getD undef = .pointer (some ⟨g, m0 * 3, none⟩) := Reg.slot_val (hd 8 (by kernel_rfl) 183 rfl)
         go_simp
         exact hK _ _ (fun _ => ⟨u0, u1, u2, rfl, fu⟩) (fun h => by cases h) (fun _ => HC.out) trivial
        ·rintro a w1 HC hx hd K hK
         replace HC := Lib.hid HC
         have x0 := (HC.out.1.mem (.head _)) 0 _ rfl
         have x1 := (HC.out.1.mem (.head _)) 1 _ rfl
         have x2 := (HC.out.1.mem (.head _)) 2 _ rfl
         have t18 : a.tmps[18]?.getD undef = .pointer (some ⟨V, 0, none⟩) := Reg.slot_val (hx 18 (by kernel_rfl))
         go_simp
         exact hK _ _ (fun _ => rfl) (fun h => by cases h) (fun _ => HC.out) trivial
        ·rintro a w1 HC hx hd K hK
         replace HC := Lib.hid HC
         have t0 : a.tmps[0]?.getD undef = .pointer (some ⟨pb, 0, none⟩) := Reg.slot_val (hx 0 (by kernel_rfl))
         go_simp
         exact hK _ _ (fun _ => rfl) (fun h => by cases h) (fun _ => HC.out) trivial
        ·rintro a w1 HC hx hd K hK
         replace HC := Lib.hid HC
         have t186 : a.tmps[186]?.getD undef = .pointer (some ⟨pb, 0, none⟩) := Reg.slot_val (hd 11 (by kernel_rfl) 186 rfl)
         go_simp
         exact hK _ _ (fun _ => rfl) (fun h => by cases h) (fun _ => HC.out) trivial
        ·rintro a w1 HC hx hd K hK
         replace HC := Lib.hid HC
         have t187 : a.tmps[187]?.getD undef = .pointer (some ⟨pb, 0, none⟩) := Reg.slot_val (hd 12 (by kernel_rfl) 187 rfl)
         go_simp
         exact hK _ _ (fun _ => rfl) (fun h => by cases h) (fun _ => HC.out) trivial
        ·rintro a w1 HC hx hd K hK
         replace HC := Lib.hid HC
         have y9 := cell_below HC.out.1.bel (HA.out 4 _ rfl)
         have t188 : a.tmps[188]?.getD undef = .pointer (some ⟨pb, 4, none⟩) := Reg.slot_val (hd 13 (by kernel_rfl) 188 rfl)
         go_simp
         exact hK _ _ (fun _ => rfl) (fun h => by cases h) (fun _ => HC.out) trivial
        ·rintro a w1 HC hx hd K hK
         replace HC := Lib.hid HC
         have t185 : a.tmps[185]?.getD undef = vv nx ny nz := Reg.slot_val (hd 10 (by kernel_rfl) 185 rfl)
         have t189 : a.tmps[189]?.getD undef = .float .f32 B.bend := Reg.slot_val (hd 14 (by kernel_rfl) 189 rfl)
         go_simp
         refine (l01Scale _ _ _ _ _ _ _ _ _ HN.out.1 HN.out.2.1 HN.out.2.2 HBE.out).mono ?_
         rintro en w2 ⟨p', q', r', rfl, fp', fq', fr', hB2⟩
         exact hK _ _ (fun _ => ⟨p', q', r', rfl, fp', fq', fr'⟩) (fun h => by cases h) (fun _ => ⟨HC.out.1.call hB2, HC.out.2.trans (Agree.of_below hB2)⟩) trivial
        ·rintro a w1 HC hx hd K hK
         replace HC := Lib.hid HC
         obtain ⟨p184, q184, r184, g184, f184⟩ := hd 9 (by kernel_rfl) 184 rfl
         have t184 := Reg.slot_val g184
         clear g184
         obtain ⟨p190, q190, r190, g190, f190⟩ := hd 15 (by kernel_rfl) 190 rfl
         have t190 := Reg.slot_val g190
         clear g190
         go_simp
         refine (l01Add _ _ _ _ _ _ _ _ _ _ _ _ _ f184.1 f184.2.1 f184.2.2 f190.1 f190.2.1 f190.2.2).mono ?_
         rintro en w2 ⟨p', q', r', rfl, fp', fq', fr', hB2⟩
         exact hK _ _ (fun _ => ⟨p', q', r', rfl, fp', fq', fr'⟩) (fun h => by cases h) (fun _ => ⟨HC.out.1.call hB2, HC.out.2.trans (Agree.of_below hB2)⟩) trivial
        ·rintro a w1 HC hx hd K hK
         replace HC := Lib.hid HC
         have t175 : a.tmps[175]?.getD undef = .slice (some ⟨g, 0, none⟩) B.pl B.pl := Reg.slot_val (hd 0 (by kernel_rfl) 175 rfl)
         have t178 : a.tmps[178]?.getD undef = .int .i64 (m0 : Int) := Reg.slot_val (hd 3 (by kernel_rfl) 178 rfl)
         go_simp
         exact hK _ _ (fun _ => rfl) (fun h => by cases h) (fun _ => HC.out) trivial
        ·rintro a w1 HC hx hd K hK
         replace HC := Lib.hid HC
         obtain ⟨u0, u1, u2, ⟨z0, z1, z2⟩, fu⟩ := HC.out.1.own.at HM0.out
         have k0 := HC.out.1.own.2.1 (m0 * 3)
         have k1 := HC.out.1.own.2.1 (m0 * 3 + 1)
         have k2 := HC.out.1.own.2.1 (m0 * 3 + 2)
         have t192 : a.tmps[192]?.getD undef = .pointer (some ⟨g, m0 * 3, none⟩) := Reg.slot_val (hd 17 (by kernel_rfl) 192 rfl)
         obtain ⟨p191, q191, r191, g191, f191⟩ := hd 16 (by kernel_rfl) 191 rfl
         have t191 := Reg.slot_val g191
         clear g191
         go_simp
         exact hK undef _ (fun h => absurd rfl h) (fun _ => ⟨HC.out.1.put HM0.out f191, ((HC.out.2.set HSL.out).set HSL.out).set HSL.out⟩) (fun h => absurd rfl h) trivial
       ·rintro f0 W5 hR hT
        obtain ⟨h6, h7⟩ := hT 18 rfl (Nat.le_of_ble_eq_true rfl)
        simp only [Reg.mixL, Nat.zero_add, Nat.reduceAdd]
        have T0 := Lib.hid h6
        have B0 := Lib.hid h7
        generalize hX6 : addAt X m0 (scaleC N c.bend) = X6 at *
        have HL0 : Hid (m1 < X6.length) := Lib.hid (by rw [← hX6, addAt_len]; have := HM0.out; have := HXL.out; omega)
        have H91 : Hid (X6.length = B.pl) := Lib.hid (by rw [← hX6, addAt_len]; exact HXL.out)
        clear hR hT h6 h7 S2 A2
        go_wp2_with fail
        refine Reg3.wp_region_mix (C := fun w' => St w [(V, [.float .f32 nx, .float .f32 ny, .float .f32 nz])] g X6 w' ∧ Agree S V0 w') (G := fun _ _ => True) (R := fun i v w' => match i with | 0 => v = .slice (some ⟨g, 0, none⟩) B.pl B.pl | 1 => v = .slice (some ⟨br, orr, none⟩) 4 q1 | 2 => v = .pointer (some ⟨br, orr + 1, none⟩) | 3 => v = .int .i64 (m1 : Int) | 4 => v = .slice (some ⟨g, 0, none⟩) B.pl B.pl | 5 => v = .slice (some ⟨br, orr, none⟩) 4 q1 | 6 => v = .pointer (some ⟨br, orr + 1, none⟩) | 7 => v = .int .i64 (m1 : Int) | 8 => v = .pointer (some ⟨g, m1 * 3, none⟩) | 9 => ∃ p q r, v = vv p q r ∧ F3 p q r (X6.getD m1 c0) | 10 => v = vv nx ny nz | 11 => v = .pointer (some ⟨pb, 0, none⟩) | 12 => v = .pointer (some ⟨pb, 0, none⟩) | 13 => v = .pointer (some ⟨pb, 4, none⟩) | 14 => v = .float .f32 B.bend | 15 => ∃ p q r, v = vv p q r ∧ F3 p q r (scaleC N c.bend) | 16 => ∃ p q r, v = vv p q r ∧ F3 p q r (plusC (X6.getD m1 c0) (scaleC N c.bend)) | 17 => v = .pointer (some ⟨g, m1 * 3, none⟩) | _ => True) (T := fun _ _ w' => St w [(V, [.float .f32 nx, .float .f32 ny, .float .f32 nz])] g (addAt X6 m1 (scaleC N c.bend)) w' ∧ Agree S V0 w') [false, false, false, false, false, false, false, false, false, false, false, false, false, false, false, false, false, false, false, false, false, false, false, false, false, false, false, false, false, false, false, false, false, false, false, false, false, false, false, false, false, false, false, false, false, false, false, false, false, false, false, false, false, false, false, false, false, false, false, false, false, false, false, false, false, false, false, false, false, false, false, false, false, false, false, false, false, false, false, false, false, false, false, false, false, false, false, false, false, false, false, false, false, false, false, false, false, false, false, false, false, false, false, false, false, false, false, false, false, false, false, false, false, false, false, false, false, false, false, false, false, false, false, false, false, false, false, false, false, false, false, false, false, false, false, false, false, false, false, false, false, false, false, false, false, false, false, false, false, false, false, false, false, false, false, false, false, false, false, false, false, false, false, false, false, false, false, false, false, false, false, false, false, false, false, false, false, false, false, false, false, false, false, false, false, false, false, false, false, false, false, false, false, true, true, true, true, true, true, true, true, true, true, true, true, true, true, true, true, true, true, false, false, false, false, false, false, false, false, false, false, false, false, false, false, false, false, false, false, false, false, false, false, false, false, false, false, false, false, false, false, false, false, false, false, false, false, false, false, false, false, false, false, false, false, false, false, false, false, false, false, false, false, false, false, false, false, false, false, false, false, false, false, false, false, false, false, false, false, false]
         (by kernel_rfl) (by kernel_rfl) (by kernel_rfl) (fun _ _ _ _ _ _ h => h) (⟨T0.out.drewN 1, B0.out.trans (Agree.of_below (below_drewN (Below.refl _ _) 1))⟩) ?_ ?_
        ·refine ⟨Reg3.Obl.mk ?_, Reg3.Obl.mk ?_, Reg3.Obl.mk ?_, Reg3.Obl.mk ?_, Reg3.Obl.mk ?_, Reg3.Obl.mk ?_, Reg3.Obl.mk ?_, Reg3.Obl.mk ?_, Reg3.Obl.mk ?_, Reg3.Obl.mk ?_, Reg3.Obl.mk ?_, Reg3.Obl.mk ?_, Reg3.Obl.mk ?_, Reg3.Obl.mk ?_, Reg3.Obl.mk ?_, Reg3.Obl.mk ?_, Reg3.Obl.mk ?_, Reg3.Obl.mk ?_, Reg3.Obl.mk ?_, trivial⟩
         ·rintro a w1 HC hx hd K hK
          replace HC := Lib.hid HC
          have t4 : a.tmps[4]?.getD undef = .slice (some ⟨g, 0, none⟩) B.pl B.pl := Reg.slot_val (hx 4 (by kernel_rfl))
          go_simp
          exact hK _ _ (fun _ => rfl) (fun h => by cases h) (fun _ => HC.out) trivial
         ·rintro a w1 HC hx hd K hK
          replace HC := Lib.hid HC
          have t17 : a.tmps[17]?.getD undef = .slice (some ⟨br, orr, none⟩) 4 q1 := Reg.slot_val (hx 17 (by kernel_rfl))
          go_simp
          exact hK _ _ (fun _ => rfl) (fun h => by cases h) (fun _ => HC.out) trivial
         ·rintro a w1 HC hx hd K hK
          replace HC := Lib.hid HC
          have t194 : a.tmps[194]?.getD undef = .slice (some ⟨br, orr, none⟩) 4 q1 := Reg.slot_val (hd 1 (by kernel_rfl) 194 rfl)
          go_simp
          exact hK _ _ (fun _ => rfl) (fun h => by cases h) (fun _ => HC.out) trivial
         ·rintro a w1 HC hx hd K hK
          replace HC := Lib.hid HC
          have x9 := HC.out.2.cell _ _ _ HSB.out HR1.out
          have t195 : a.tmps[195]?.getD undef = .pointer (some ⟨br, orr + 1, none⟩) := Reg.slot_val (hd 2 (by kernel_rfl) 195 rfl)
          go_simp
          exact hK _ _ (fun _ => rfl) (fun h => by cases h) (fun _ => HC.out) trivial
         ·rintro a w1 HC hx hd K hK
          replace HC := Lib.hid HC
          have t4 : a.tmps[4]?.getD undef = .slice (some ⟨g, 0, none⟩) B.pl B.pl := Reg.slot_val (hx 4 (by kernel_rfl))
          go_simp
          exact hK _ _ (fun _ => rfl) (fun h => by cases h) (fun _ => HC.out) trivial
         ·rintro a w1 HC hx hd K hK
          replace HC := Lib.hid HC
          have t17 : a.tmps[17]?.getD undef = .slice (some ⟨br, orr, none⟩) 4 q1 := Reg.slot_val (hx 17 (by kernel_rfl))
          go_simp
          exact hK _ _ (fun _ => rfl) (fun h => by cases h) (fun _ => HC.out) trivial
         ·rintro a w1 HC hx hd K hK
          replace HC := Lib.hid HC
          have t198 : a.tmps[198]?.getD undef = .slice (some ⟨br, orr, none⟩) 4 q1 := Reg.slot_val (hd 5 (by kernel_rfl) 198 rfl)
          go_simp
          exact hK _ _ (fun _ => rfl) (fun h => by cases h) (fun _ => HC.out) trivial
         ·rintro a w1 HC hx hd K hK
          replace HC := Lib.hid HC
          have x9 := HC.out.2.cell _ _ _ HSB.out HR1.out
          have t199 : a.tmps[199]?.getD undef = .pointer (some ⟨br, orr + 1, none⟩) := Reg.slot_val (hd 6 (by kernel_rfl) 199 rfl)
          go_simp
          exact hK _ _ (fun _ => rfl) (fun h => by cases h) (fun _ => HC.out) trivial
         ·rintro a w1 HC hx hd K hK
          replace HC := Lib.hid HC
          have t197 : a.tmps[197]?.getD undef = .slice (some ⟨g, 0, none⟩) B.pl B.pl := Reg.slot_val (hd 4 (by kernel_rfl) 197 rfl)
          have t200 : a.tmps[200]?.getD undef = .int .i64 (m1 : Int) := Reg.slot_val (hd 7 (by kernel_rfl) 200 rfl)
          go_simp
          exact hK _ _ (fun _ => rfl) (fun h => by cases h) (fun _ => HC.out) trivial
         ·rintro a w1 HC hx hd K hK
          replace HC := Lib.hid HC
          obtain ⟨u0, u1, u2, ⟨z0, z1, z2⟩, fu⟩ := HC.out.1.own.at HL0.out
          have t201 : a.tmps[201]?.getD undef = .pointer (some ⟨g, m1 * 3, none⟩) := Reg.slot_val (hd 8 (by kernel_rfl) 201 rfl)
          go_simp
          exact hK _ _ (fun _ => ⟨u0, u1, u2, rfl, fu⟩) (fun h => by cases h) (fun _ => HC.out) trivial
         ·rintro a w1 HC hx hd K hK
          replace HC := Lib.hid HC
          have x0 := (HC.out.1.mem (.head _)) 0 _ rfl
          have x1 := (HC.out.1.mem (.head _)) 1 _ rfl
          have x2 := (HC.out.1.mem (.head _)) 2 _ rfl
          have t18 : a.tmps[18]?.getD undef = .pointer (some ⟨V, 0, none⟩) := Reg.slot_val (hx 18 (by kernel_rfl))
          go_simp
          exact hK _ _ (fun _ => rfl) (fun h => by cases h) (fun _ => HC.out) trivial
         ·rintro a w1 HC hx hd K hK
          replace HC := Lib.hid HC
          have t0 : a.tmps[0]?.getD undef = .pointer (some ⟨pb, 0, none⟩) := Reg.slot_val (hx 0 (by kernel_rfl))
          go_simp
          exact hK _ _ (fun _ => rfl) (fun h => by cases h) (fun _ => HC.out) trivial
         ·rintro a w1 HC hx hd K hK
          replace HC := Lib.hid HC
          have t204 : a.tmps[204]?.getD undef = .pointer (some ⟨pb, 0, none⟩) := Reg.slot_val (hd 11 (by kernel_rfl) 204 rfl)
          go_simp
          exact hK _ _ (fun _ => rfl) (fun h => by cases h) (fun _ => HC.out) trivial
         ·rintro a w1 HC hx hd K hK
          replace HC := Lib.hid HC
          have t205 : a.tmps[205]?.getD undef = .pointer (some ⟨pb, 0, none⟩) := Reg.slot_val (hd 12 (by kernel_rfl) 205 rfl)
          go_simp
          exact hK _ _ (fun _ => rfl) (fun h => by cases h) (fun _ => HC.out) trivial
         ·rintro a w1 HC hx hd K hK
          replace HC := Lib.hid HC
          have y9 := cell_below HC.out.1.bel (HA.out 4 _ rfl)
          have t206 : a.tmps[206]?.getD undef = .pointer (some ⟨pb, 4, none⟩) := Reg.slot_val (hd 13 (by kernel_rfl) 206 rfl)
          go_simp
          exact hK _ _ (fun _ => rfl) (fun h => by cases h) (fun _ => HC.out) trivial
         ·rintro a w1 HC hx hd K hK
          replace HC := Lib.hid HC
          have t203 : a.tmps[203]?.getD undef = vv nx ny nz := Reg.slot_val (hd 10 (by kernel_rfl) 203 rfl)
          have t207 : a.tmps[207]?.getD undef = .float .f32 B.bend := Reg.slot_val (hd 14 (by kernel_rfl) 207 rfl)
          go_simp
          refine (l01Scale _ _ _ _ _ _ _ _ _ HN.out.1 HN.out.2.1 HN.out.2.2 HBE.out).mono ?_
          rintro en w2 ⟨p', q', r', rfl, fp', fq', fr', hB2⟩
          exact hK _ _ (fun _ => ⟨p', q', r', rfl, fp', fq', fr'⟩) (fun h => by cases h) (fun _ => ⟨HC.out.1.call hB2, HC.out.2.trans (Agree.of_below hB2)⟩) trivial
         ·rintro a w1 HC hx hd K hK
          replace HC := Lib.hid HC
          obtain ⟨p202, q202, r202, g202, f202⟩ := hd 9 (by kernel_rfl) 202 rfl
          have t202 := Reg.slot_val g202
          clear g202
          obtain ⟨p208, q208, r208, g208, f208⟩ := hd 15 (by kernel_rfl) 208 rfl
          have t208 := Reg.slot_val g208
          clear g208
          go_simp
          refine (l01Add _ _ _ _ _ _ _ _ _ _ _ _ _ f202.1 f202.2.1 f202.2.2 f208.1 f208.2.1 f208.2.2).mono ?_
          rintro en w2 ⟨p', q', r', rfl, fp', fq', fr', hB2⟩
          exact hK _ _ (fun _ => ⟨p', q', r', rfl, fp', fq', fr'⟩) (fun h => by cases h) (fun _ => ⟨HC.out.1.call hB2, HC.out.2.trans (Agree.of_below hB2)⟩) trivial
         ·rintro a w1 HC hx hd K hK
          replace HC := Lib.hid HC
          have t193 : a.tmps[193]?.getD undef = .slice (some ⟨g, 0, none⟩) B.pl B.pl := Reg.slot_val (hd 0 (by kernel_rfl) 193 rfl)
          have t196 : a.tmps[196]?.getD undef = .int .i64 (m1 : Int) := Reg.slot_val (hd 3 (by kernel_rfl) 196 rfl)
          go_simp
          exact hK _ _ (fun _ => rfl) (fun h => by cases h) (fun _ => HC.out) trivial
         ·rintro a w1 HC hx hd K hK
          replace HC := Lib.hid HC
          obtain ⟨u0, u1, u2, ⟨z0, z1, z2⟩, fu⟩ := HC.out.1.own.at HL0.out
          have k0 := HC.out.1.own.2.1 (m1 * 3)
          have k1 := HC.out.1.own.2.1 (m1 * 3 + 1)
          have k2 := HC.out.1.own.2.1 (m1 * 3 + 2)
          have t210 : a.tmps[210]?.getD undef = .pointer (some ⟨g, m1 * 3, none⟩) := Reg.slot_val (hd 17 (by kernel_rfl) 210 rfl)
          obtain ⟨p209, q209, r209, g209, f209⟩ := hd 16 (by kernel_rfl) 209 rfl
          have t209 := Reg.slot_val g209
          clear g209
          go_simp
          exact hK undef _ (fun h => absurd rfl h) (fun _ => ⟨HC.out.1.put HL0.out f209, ((HC.out.2.set HSL.out).set HSL.out).set HSL.out⟩) (fun h => absurd rfl h) trivial
        ·rintro f1 W6 hR hT
         obtain ⟨h6, h7⟩ := hT 18 rfl (Nat.le_of_ble_eq_true rfl)
         simp only [Reg.mixL, Nat.zero_add, Nat.reduceAdd]
         have T1 := Lib.hid h6
         have B1 := Lib.hid h7
         generalize hX7 : addAt X6 m1 (scaleC N c.bend) = X7 at *
         have HL1 : Hid (m2 < X7.length) := Lib.hid (by rw [← hX7, addAt_len]; have := HL0.out; have := HXL.out; have := H91.out; omega)
         have H92 : Hid (X7.length = B.pl) := Lib.hid (by rw [← hX7, addAt_len]; exact H91.out)
         clear hR hT h6 h7 T0 B0
         go_wp2_with fail
         refine Reg3.wp_region_mix (C := fun w' => St w [(V, [.float .f32 nx, .float .f32 ny, .float .f32 nz])] g X7 w' ∧ Agree S V0 w') (G := fun _ _ => True) (R := fun i v w' => match i with | 0 => v = .slice (some ⟨g, 0, none⟩) B.pl B.pl | 1 => v = .slice (some ⟨br, orr, none⟩) 4 q1 | 2 => v = .pointer (some ⟨br, orr + 2, none⟩) | 3 => v = .int .i64 (m2 : Int) | 4 => v = .slice (some ⟨g, 0, none⟩) B.pl B.pl | 5 => v = .slice (some ⟨br, orr, none⟩) 4 q1 | 6 => v = .pointer (some ⟨br, orr + 2, none⟩) | 7 => v = .int .i64 (m2 : Int) | 8 => v = .pointer (some ⟨g, m2 * 3, none⟩) | 9 => ∃ p q r, v = vv p q r ∧ F3 p q r (X7.getD m2 c0) | 10 => v = vv nx ny nz | 11 => v = .pointer (some ⟨pb, 0, none⟩) | 12 => v = .pointer (some ⟨pb, 0, none⟩) | 13 => v = .pointer (some ⟨pb, 4, none⟩) | 14 => v = .float .f32 B.bend | 15 => ∃ r, v = .float .f32 r ∧ FV .f32 r (negC32 c.bend) | 16 => ∃ p q r, v = vv p q r ∧ F3 p q r (scaleC N (negC32 c.bend)) | 17 => ∃ p q r, v = vv p q r ∧ F3 p q r (plusC (X7.getD m2 c0) (scaleC N (negC32 c.bend))) | 18 => v = .pointer (some ⟨g, m2 * 3, none⟩) | _ => True) (T := fun _ _ w' => St w [(V, [.float .f32 nx, .float .f32 ny, .float .f32 nz])] g (addAt X7 m2 (scaleC N (negC32 c.bend))) w' ∧ Agree S V0 w') [false, false, false, false, false, false, false, false, false, false, false, false, false, false, false, false, false, false, false, false, false, false, false, false, false, false, false, false, false, false, false, false, false, false, false, false, false, false, false, false, false, false, false, false, false, false, false, false, false, false, false, false, false, false, false, false, false, false, false, false, false, false, false, false, false, false, false, false, false, false, false, false, false, false, false, false, false, false, false, false, false, false, false, false, false, false, false, false, false, false, false, false, false, false, false, false, false, false, false, false, false, false, false, false, false, false, false, false, false, false, false, false, false, false, false, false, false, false, false, false, false, false, false, false, false, false, false, false, false, false, false, false, false, false, false, false, false, false, false, false, false, false, false, false, false, false, false, false, false, false, false, false, false, false, false, false, false, false, false, false, false, false, false, false, false, false, false, false, false, false, false, false, false, false, false, false, false, false, false, false, false, false, false, false, false, false, false, false, false, false, false, false, false, false, false, false, false, false, false, false, false, false, false, false, false, false, false, false, false, false, false, true, true, true, true, true, true, true, true, true, true, true, true, true, true, true, true, true, true, true, false, false, false, false, false, false, false, false, false, false, false, false, false, false, false, false, false, false, false, false, false, false, false, false, false, false, false, false, false, false, false, false, false, false, false, false, false, false, false, false, false, false, false, false, false, false, false, false, false, false]
          (by kernel_rfl) (by kernel_rfl) (by kernel_rfl) (fun _ _ _ _ _ _ h => h) (⟨T1.out.drewN 1, B1.out.trans (Agree.of_below (below_drewN (Below.refl _ _) 1))⟩) ?_ ?_
         ·refine ⟨Reg3.Obl.mk ?_, Reg3.Obl.mk ?_, Reg3.Obl.mk ?_, Reg3.Obl.mk ?_, Reg3.Obl.mk ?_, Reg3.Obl.mk ?_, Reg3.Obl.mk ?_, Reg3.Obl.mk ?_, Reg3.Obl.mk ?_, Reg3.Obl.mk ?_, Reg3.Obl.mk ?_, Reg3.Obl.mk ?_, Reg3.Obl.mk ?_, Reg3.Obl.mk ?_, Reg3.Obl.mk ?_, Reg3.Obl.mk ?_, Reg3.Obl.mk ?_, Reg3.Obl.mk ?_, Reg3.Obl.mk ?_, Reg3.Obl.mk ?_, trivial⟩
          ·rintro a w1 HC hx hd K hK
           replace HC := Lib.hid HC
           have t4 : a.tmps[4]?.getD undef = .slice (some ⟨g, 0, none⟩) B.pl B.pl := Reg.slot_val (hx 4 (by kernel_rfl))
           go_simp
           exact hK _ _ (fun _ => rfl) (fun h => by cases h) (fun _ => HC.out) trivial
          ·rintro a w1 HC hx hd K hK
           replace HC := Lib.hid HC
           have t17 : a.tmps[17]?.getD undef = .slice (some ⟨br, orr, none⟩) 4 q1 := Reg.slot_val (hx 17 (by kernel_rfl))
           go_simp
           exact hK _ _ (fun _ => rfl) (fun h => by cases h) (fun _ => HC.out) trivial
          ·rintro a w1 HC hx hd K hK
           replace HC := Lib.hid HC
           have t212 : a.tmps[212]?.getD undef = .slice (some ⟨br, orr, none⟩) 4 q1 := Reg.slot_val (hd 1 (by kernel_rfl) 212 rfl)
           go_simp
           exact hK _ _ (fun _ => rfl) (fun h => by cases h) (fun _ => HC.out) trivial
          ·rintro a w1 HC hx hd K hK
           replace HC := Lib.hid HC
           have x9 := HC.out.2.cell _ _ _ HSB.out HR2.out
           have t213 : a.tmps[213]?.getD undef = .pointer (some ⟨br, orr + 2, none⟩) := Reg.slot_val (hd 2 (by kernel_rfl) 213 rfl)
           go_simp
           exact hK _ _ (fun _ => rfl) (fun h => by cases h) (fun _ => HC.out) trivial
          ·rintro a w1 HC hx hd K hK
           replace HC := Lib.hid HC
           have t4 : a.tmps[4]?.getD undef = .slice (some ⟨g, 0, none⟩) B.pl B.pl := Reg.slot_val (hx 4 (by kernel_rfl))
           go_simp
           exact hK _ _ (fun _ => rfl) (fun h => by cases h) (fun _ => HC.out) trivial
          ·rintro a w1 HC hx hd K hK
           replace HC := Lib.hid HC
           have t17 : a.tmps[17]?.getD undef = .slice (some ⟨br, orr, none⟩) 4 q1 := Reg.slot_val (hx 17 (by kernel_rfl))
           go_simp
           exact hK _ _ (fun _ => rfl) (fun h => by cases h) (fun _ => HC.out) trivial
          ·rintro a w1 HC hx hd K hK
           replace HC := Lib.hid HC
           have t216 : a.tmps[216]?.getD undef = .slice (some ⟨br, orr, none⟩) 4 q1 := Reg.slot_val (hd 5 (by kernel_rfl) 216 rfl)
           go_simp
           exact hK _ _ (fun _ => rfl) (fun h => by cases h) (fun _ => HC.out) trivial
          ·rintro a w1 HC hx hd K hK
           replace HC := Lib.hid HC
           have x9 := HC.out.2.cell _ _ _ HSB.out HR2.out
           have t217 : a.tmps[217]?.getD undef = .pointer (some ⟨br, orr + 2, none⟩) := Reg.slot_val (hd 6 (by kernel_rfl) 217 rfl)
           go_simp
           exact hK _ _ (fun _ => rfl) (fun h => by cases h) (fun _ => HC.out) trivial
          ·rintro a w1 HC hx hd K hK
           replace HC := Lib.hid HC
           have t215 : a.tmps[215]?.getD undef = .slice (some ⟨g, 0, none⟩) B.pl B.pl := Reg.slot_val (hd 4 (by kernel_rfl) 215 rfl)
           have t218 : a.tmps[218]?.getD undef = .int .i64 (m2 : Int) := Reg.slot_val (hd 7 (by kernel_rfl) 218 rfl)
           go_simp
           exact hK _ _ (fun _ => rfl) (fun h => by cases h) (fun _ => HC.out) trivial
          ·rintro a w1 HC hx hd K hK
           replace HC := Lib.hid HC
           obtain ⟨u0, u1, u2, ⟨z0, z1, z2⟩, fu⟩ := HC.out.1.own.at HL1.out
           have t219 : a.tmps[219]?.getD undef = .pointer (some ⟨g, m2 * 3, none⟩) := Reg.slot_val (hd 8 (by kernel_rfl) 219 rfl)
           go_simp
           exact hK _ _ (fun _ => ⟨u0, u1, u2, rfl, fu⟩) (fun h => by cases h) (fun _ => HC.out) trivial
          ·rintro a w1 HC hx hd K hK
           replace HC := Lib.hid HC
           have x0 := (HC.out.1.mem (.head _)) 0 _ rfl
           have x1 := (HC.out.1.mem (.head _)) 1 _ rfl
           have x2 := (HC.out.1.mem (.head _)) 2 _ rfl
           have t18 : a.tmps[18]?.getD undef = .pointer (some ⟨V, 0, none⟩) := Reg.slot_val (hx 18 (by kernel_rfl))
           go_simp
           exact hK _ _ (fun _ => rfl) (fun h => by cases h) (fun _ => HC.out) trivial
          ·rintro a w1 HC hx hd K hK
           replace HC := Lib.hid HC
           have t0 : a.tmps[0]?.getD undef = .pointer (some ⟨pb, 0, none⟩) := Reg.slot_val (hx 0 (by kernel_rfl))
           go_simp
           exact hK _ _ (fun _ => rfl) (fun h => by cases h) (fun _ => HC.out) trivial
          ·rintro a w1 HC hx hd K hK
           replace HC := Lib.hid HC
           have t222 : a.tmps[222]?.getD undef = .pointer (some ⟨pb, 0, none⟩) := Reg.slot_val (hd 11 (by kernel_rfl) 222 rfl)
           go_simp
           exact hK _ _ (fun _ => rfl) (fun h => by cases h) (fun _ => HC.out) trivial
          ·rintro a w1 HC hx hd K hK
           replace HC := Lib.hid HC
           have t223 : a.tmps[223]?.getD undef = .pointer (some ⟨pb, 0, none⟩) := Reg.slot_val (hd 12 (by kernel_rfl) 223 rfl)
           go_simp
           exact hK _ _ (fun _ => rfl) (fun h => by cases h) (fun _ => HC.out) trivial
          ·rintro a w1 HC hx hd K hK
           replace HC := Lib.hid HC
           have y9 := cell_below HC.out.1.bel (HA.out 4 _ rfl)
           have t224 : a.tmps[224]?.getD undef = .pointer (some ⟨pb, 4, none⟩) := Reg.slot_val (hd 13 (by kernel_rfl) 224 rfl)
           go_simp
           exact hK _ _ (fun _ => rfl) (fun h => by cases h) (fun _ => HC.out) trivial
          ·rintro a w1 HC hx hd K hK
           replace HC := Lib.hid HC
           have t225 : a.tmps[225]?.getD undef = .float .f32 B.bend := Reg.slot_val (hd 14 (by kernel_rfl) 225 rfl)
           go_simp
           exact hK _ _ (fun _ => ⟨_, rfl, FV_neg32 HBE.out⟩) (fun h => by cases h) (fun _ => HC.out) trivial
          ·rintro a w1 HC hx hd K hK
           replace HC := Lib.hid HC
           have t221 : a.tmps[221]?.getD undef = vv nx ny nz := Reg.slot_val (hd 10 (by kernel_rfl) 221 rfl)
           obtain ⟨r226, g226, f226⟩ := hd 15 (by kernel_rfl) 226 rfl
           have t226 := Reg.slot_val g226
           clear g226
           go_simp
           refine (l01Scale _ _ _ _ _ _ _ _ _ HN.out.1 HN.out.2.1 HN.out.2.2 f226).mono ?_
           rintro en w2 ⟨p', q', r', rfl, fp', fq', fr', hB2⟩
           exact hK _ _ (fun _ => ⟨p', q', r', rfl, fp', fq', fr'⟩) (fun h => by cases h) (fun _ => ⟨HC.out.1.call hB2, HC.out.2.trans (Agree.of_below hB2)⟩) trivial
          ·rintro a w1 HC hx hd K hK
           replace HC := Lib.hid HC
           obtain ⟨p220, q220, r220, g220, f220⟩ := hd 9 (by kernel_rfl) 220 rfl
           have t220 := Reg.slot_val g220
           clear g220
           obtain ⟨p227, q227, r227, g227, f227⟩ := hd 16 (by kernel_rfl) 227 rfl
           have t227 := Reg.slot_val g227
           clear g227
           go_simp
           refine (l01Add _ _ _ _ _ _ _ _ _ _ _ _ _ f220.1 f220.2.1 f220.2.2 f227.1 f227.2.1 f227.2.2).mono ?_
           rintro en w2 ⟨p', q', r', rfl, fp', fq', fr', hB2⟩
           exact hK _ _ (fun _ => ⟨p', q', r', rfl, fp', fq', fr'⟩) (fun h => by cases h) (fun _ => ⟨HC.out.1.call hB2, HC.out.2.trans (Agree.of_below hB2)⟩) trivial
          ·rintro a w1 HC hx hd K hK
           replace HC := Lib.hid HC
           have t211 : a.tmps[211]?.getD undef = .slice (some ⟨g, 0, none⟩) B.pl B.pl := Reg.slot_val (hd 0 (by kernel_rfl) 211 rfl)
           have t214 : a.tmps[214]?.getD undef = .int .i64 (m2 : Int) := Reg.slot_val (hd 3 (by kernel_rfl) 214 rfl)
           go_simp
           exact hK _ _ (fun _ => rfl) (fun h => by cases h) (fun _ => HC.out) trivial
          ·rintro a w1 HC hx hd K hK
           replace HC := Lib.hid HC
           obtain ⟨u0, u1, u2, ⟨z0, z1, z2⟩, fu⟩ := HC.out.1.own.at HL1.out
           have k0 := HC.out.1.own.2.1 (m2 * 3)
           have k1 := HC.out.1.own.2.1 (m2 * 3 + 1)
           have k2 := HC.out.1.own.2.1 (m2 * 3 + 2)
           have t229 : a.tmps[229]?.getD undef = .pointer (some ⟨g, m2 * 3, none⟩) := Reg.slot_val (hd 18 (by kernel_rfl) 229 rfl)
           obtain ⟨p228, q228, r228, g228, f228⟩ := hd 17 (by kernel_rfl) 228 rfl
           have t228 := Reg.slot_val g228
           clear g228
           go_simp
           exact hK undef _ (fun h => absurd rfl h) (fun _ => ⟨HC.out.1.put HL1.out f228, ((HC.out.2.set HSL.out).set HSL.out).set HSL.out⟩) (fun h => absurd rfl h) trivial
         ·rintro f2 W7 hR hT
          obtain ⟨h6, h7⟩ := hT 19 rfl (Nat.le_of_ble_eq_true rfl)
          simp only [Reg.mixL, Nat.zero_add, Nat.reduceAdd]
          have T2 := Lib.hid h6
          have B2 := Lib.hid h7
          generalize hX8 : addAt X7 m2 (scaleC N (negC32 c.bend)) = X8 at *
          have HL2 : Hid (m3 < X8.length) := Lib.hid (by rw [← hX8, addAt_len]; have := HL1.out; have := HXL.out; have := H92.out; omega)
          have H93 : Hid (X8.length = B.pl) := Lib.hid (by rw [← hX8, addAt_len]; exact H92.out)
          clear hR hT h6 h7 T1 B1
          go_wp2_with fail
          refine Reg3.wp_region_mix (C := fun w' => St w [(V, [.float .f32 nx, .float .f32 ny, .float .f32 nz])] g X8 w' ∧ Agree S V0 w') (G := fun _ _ => True) (R := fun i v w' => match i with | 0 => v = .slice (some ⟨g, 0, none⟩) B.pl B.pl | 1 => v = .slice (some ⟨br, orr, none⟩) 4 q1 | 2 => v = .pointer (some ⟨br, orr + 3, none⟩) | 3 => v = .int .i64 (m3 : Int) | 4 => v = .slice (some ⟨g, 0, none⟩) B.pl B.pl | 5 => v = .slice (some ⟨br, orr, none⟩) 4 q1 | 6 => v = .pointer (some ⟨br, orr + 3, none⟩) | 7 => v = .int .i64 (m3 : Int) | 8 => v = .pointer (some ⟨g, m3 * 3, none⟩) | 9 => ∃ p q r, v = vv p q r ∧ F3 p q r (X8.getD m3 c0) | 10 => v = vv nx ny nz | 11 => v = .pointer (some ⟨pb, 0, none⟩) | 12 => v = .pointer (some ⟨pb, 0, none⟩) | 13 => v = .pointer (some ⟨pb, 4, none⟩) | 14 => v = .float .f32 B.bend | 15 => ∃ r, v = .float .f32 r ∧ FV .f32 r (negC32 c.bend) | 16 => ∃ p q r, v = vv p q r ∧ F3 p q r (scaleC N (negC32 c.bend)) | 17 => ∃ p q r, v = vv p q r ∧ F3 p q r (plusC (X8.getD m3 c0) (scaleC N (negC32 c.bend))) | 18 => v = .pointer (some ⟨g, m3 * 3, none⟩) | _ => True) (T := fun _ _ w' => St w [(V, [.float .f32 nx, .float .f32 ny, .float .f32 nz])] g (addAt X8 m3 (scaleC N (negC32 c.bend))) w' ∧ Agree S V0 w') [false, false, false, false, false, false, false, false, false, false, false, false, false, false, false, false, false, false, false, false, false, false, false, false, false, false, false, false, false, false, false, false, false, false, false, false, false, false, false, false, false, false, false, false, false, false, false, false, false, false, false, false, false, false, false, false, false, false, false, false, false, false, false, false, false, false, false, false, false, false, false, false, false, false, false, false, false, false, false, false, false, false, false, false, false, false, false, false, false, false, false, false, false, false, false, false, false, false, false, false, false, false, false, false, false, false, false, false, false, false, false, false, false, false, false, false, false, false, false, false, false, false, false, false, false, false, false, false, false, false, false, false, false, false, false, false, false, false, false, false, false, false, false, false, false, false, false, false, false, false, false, false, false, false, false, false, false, false, false, false, false, false, false, false, false, false, false, false, false, false, false, false, false, false, false, false, false, false, false, false, false, false, false, false, false, false, false, false, false, false, false, false, false, false, false, false, false, false, false, false, false, false, false, false, false, false, false, false, false, false, false, false, false, false, false, false, false, false, false, false, false, false, false, false, false, false, false, false, false, false, true, true, true, true, true, true, true, true, true, true, true, true, true, true, true, true, true, true, true, false, false, false, false, false, false, false, false, false, false, false, false, false, false, false, false, false, false, false, false, false, false, false, false, false, false, false, false, false, false, false]
           (by kernel_rfl) (by kernel_rfl) (by kernel_rfl) (fun _ _ _ _ _ _ h => h) (⟨T2.out.drewN 1, B2.out.trans (Agree.of_below (below_drewN (Below.refl _ _) 1))⟩) ?_ ?_
          ·refine ⟨Reg3.Obl.mk ?_, Reg3.Obl.mk ?_, Reg3.Obl.mk ?_, Reg3.Obl.mk ?_, Reg3.Obl.mk ?_, Reg3.Obl.mk ?_, Reg3.Obl.mk ?_, Reg3.Obl.mk ?_, Reg3.Obl.mk ?_, Reg3.Obl.mk ?_, Reg3.Obl.mk ?_, Reg3.Obl.mk ?_, Reg3.Obl.mk ?_, Reg3.Obl.mk ?_, Reg3.Obl.mk ?_, Reg3.Obl.mk ?_, Reg3.Obl.mk ?_, Reg3.Obl.mk ?_, Reg3.Obl.mk ?_, Reg3.Obl.mk ?_, trivial⟩
           ·rintro a w1 HC hx hd K hK
            replace HC := Lib.hid HC
            have t4 : a.tmps[4]?.getD undef = .slice (some ⟨g, 0, none⟩) B.pl B.pl := Reg.slot_val (hx 4 (by kernel_rfl))
            go_simp
            exact hK _ _ (fun _ => rfl) (fun h => by cases h) (fun _ => HC.out) trivial
           ·rintro a w1 HC hx hd K hK
            replace HC := Lib.hid HC
            have t17 : a.tmps[17]?.getD undef = .slice (some ⟨br, orr, none⟩) 4 q1 := Reg.slot_val (hx 17 (by kernel_rfl))
            go_simp
            exact hK _ _ (fun _ => rfl) (fun h => by cases h) (fun _ => HC.out) trivial
           ·rintro a w1 HC hx hd K hK
            replace HC := Lib.hid HC
            have t231 : a.tmps[231]?.getD undef = .slice (some ⟨br, orr, none⟩) 4 q1 := Reg.slot_val (hd 1 (by kernel_rfl) 231 rfl)
            go_simp
            exact hK _ _ (fun _ => rfl) (fun h => by cases h) (fun _ => HC.out) trivial
           ·rintro a w1 HC hx hd K hK
            replace HC := Lib.hid HC
            have x9 := HC.out.2.cell _ _ _ HSB.out HR3.out
            have t232 : a.tmps[232]?.getD undef = .pointer (some ⟨br, orr + 3, none⟩) := Reg.slot_val (hd 2 (by kernel_rfl) 232 rfl)
            go_simp
            exact hK _ _ (fun _ => rfl) (fun h => by cases h) (fun _ => HC.out) trivial
           ·rintro a w1 HC hx hd K hK
            replace HC := Lib.hid HC
            have t4 : a.tmps[4]?.getD undef = .slice (some ⟨g, 0, none⟩) B.pl B.pl := Reg.slot_val (hx 4 (by kernel_rfl))
            go_simp
            exact hK _ _ (fun _ => rfl) (fun h => by cases h) (fun _ => HC.out) trivial
           ·rintro a w1 HC hx hd K hK
            replace HC := Lib.hid HC
            have t17 : a.tmps[17]?.getD undef = .slice (some ⟨br, orr, none⟩) 4 q1 := Reg.slot_val (hx 17 (by kernel_rfl))
            go_simp
            exact hK _ _ (fun _ => rfl) (fun h => by cases h) (fun _ => HC.out) trivial
           ·rintro a w1 HC hx hd K hK
            replace HC := Lib.hid HC
            have t235 : a.tmps[235]?.getD undef = .slice (some ⟨br, orr, none⟩) 4 q1 := Reg.slot_val (hd 5 (by kernel_rfl) 235 rfl)
            go_simp
            exact hK _ _ (fun _ => rfl) (fun h => by cases h) (fun _ => HC.out) trivial
           ·rintro a w1 HC hx hd K hK
            replace HC := Lib.hid HC
            have x9 := HC.out.2.cell _ _ _ HSB.out HR3.out
            have t236 : a.tmps[236]?.getD undef = .pointer (some ⟨br, orr + 3, none⟩) := Reg.slot_val (hd 6 (by kernel_rfl) 236 rfl)
            go_simp
            exact hK _ _ (fun _ => rfl) (fun h => by cases h) (fun _ => HC.out) trivial
           ·rintro a w1 HC hx hd K hK
            replace HC := Lib.hid HC
            have t234 : a.tmps[234]?.getD undef = .slice (some ⟨g, 0, none⟩) B.pl B.pl := Reg.slot_val (hd 4 (by kernel_rfl) 234 rfl)
            have t237 : a.tmps[237]?.getD undef = .int .i64 (m3 : Int) := Reg.slot_val (hd 7 (by kernel_rfl) 237 rfl)
            go_simp
            exact hK _ _ (fun _ => rfl) (fun h => by cases h) (fun _ => HC.out) trivial
           ·rintro a w1 HC hx hd K hK
            replace HC := Lib.hid HC
            obtain ⟨u0, u1, u2, ⟨z0, z1, z2⟩, fu⟩ := HC.out.1.own.at HL2.out
            have t238 : a.tmps[238]?.getD undef = .pointer (some ⟨g, m3 * 3, none⟩) := Reg.slot_val (hd 8 (by kernel_rfl) 238 rfl)
            go_simp
            exact hK _ _ (fun _ => ⟨u0, u1, u2, rfl, fu⟩) (fun h => by cases h) (fun _ => HC.out) trivial
           ·rintro a w1 HC hx hd K hK
            replace HC := Lib.hid HC
            have x0 := (HC.out.1.mem (.head _)) 0 _ rfl
            have x1 := (HC.out.1.mem (.head _)) 1 _ rfl
            have x2 := (HC.out.1.mem (.head _)) 2 _ rfl
            have t18 : a.tmps[18]?.getD undef = .pointer (some ⟨V, 0, none⟩) := Reg.slot_val (hx 18 (by kernel_rfl))
            go_simp
            exact hK _ _ (fun _ => rfl) (fun h => by cases h) (fun _ => HC.out) trivial
           ·rintro a w1 HC hx hd K hK
            replace HC := Lib.hid HC
            have t0 : a.tmps[0]?.getD undef = .pointer (some ⟨pb, 0, none⟩) := Reg.slot_val (hx 0 (by kernel_rfl))
            go_simp
            exact hK _ _ (fun _ => rfl) (fun h => by cases h) (fun _ => HC.out) trivial
           ·rintro a w1 HC hx hd K hK
            replace HC := Lib.hid HC
            have t241 : a.tmps[241]?.getD undef = .pointer (some ⟨pb, 0, none⟩) := Reg.slot_val (hd 11 (by kernel_rfl) 241 rfl)
            go_simp
            exact hK _ _ (fun _ => rfl) (fun h => by cases h) (fun _ => HC.out) trivial
           ·rintro a w1 HC hx hd K hK
            replace HC := Lib.hid HC
            have t242 : a.tmps[242]?.getD undef = .pointer (some ⟨pb, 0, none⟩) := Reg.slot_val (hd 12 (by kernel_rfl) 242 rfl)
            go_simp
            exact hK _ _ (fun _ => rfl) (fun h => by cases h) (fun _ => HC.out) trivial
           ·rintro a w1 HC hx hd K hK
            replace HC := Lib.hid HC
            have y9 := cell_below HC.out.1.bel (HA.out 4 _ rfl)
            have t243 : a.tmps[243]?.getD undef = .pointer (some ⟨pb, 4, none⟩) := Reg.slot_val (hd 13 (by kernel_rfl) 243 rfl)
            go_simp
            exact hK _ _ (fun _ => rfl) (fun h => by cases h) (fun _ => HC.out) trivial
           ·rintro a w1 HC hx hd K hK
            replace HC := Lib.hid HC
            have t244 : a.tmps[244]?.getD undef = .float .f32 B.bend := Reg.slot_val (hd 14 (by kernel_rfl) 244 rfl)
            go_simp
            exact hK _ _ (fun _ => ⟨_, rfl, FV_neg32 HBE.out⟩) (fun h => by cases h) (fun _ => HC.out) trivial
           ·rintro a w1 HC hx hd K hK
            replace HC := Lib.hid HC
            have t240 : a.tmps[240]?.getD undef = vv nx ny nz := Reg.slot_val (hd 10 (by kernel_rfl) 240 rfl)
            obtain ⟨r245, g245, f245⟩ := hd 15 (by kernel_rfl) 245 rfl
            have t245 := Reg.slot_val g245
            clear g245
            go_simp
            refine (l01Scale _ _ _ _ _ _ _ _ _ HN.out.1 HN.out.2.1 HN.out.2.2 f245).mono ?_
            rintro en w2 ⟨p', q', r', rfl, fp', fq', fr', hB2⟩
            exact hK _ _ (fun _ => ⟨p', q', r', rfl, fp', fq', fr'⟩) (fun h => by cases h) (fun _ => ⟨HC.out.1.call hB2, HC.out.2.trans (Agree.of_below hB2)⟩) trivial
           ·rintro a w1 HC hx hd K hK
            replace HC := Lib.hid HC
            obtain ⟨p239, q239, r239, g239, f239⟩ := hd 9 (by kernel_rfl) 239 rfl
            have t239 := Reg.slot_val g239
            clear g239
            obtain ⟨p246, q246, r246, g246, f246⟩ := hd 16 (by kernel_rfl) 246 rfl
            have t246 := Reg.slot_val g246
            clear g246
            go_simp
            refine (l01Add _ _ _ _ _ _ _ _ _ _ _ _ _ f239.1 f239.2.1 f239.2.2 f246.1 f246.2.1 f246.2.2).mono ?_
            rintro en w2 ⟨p', q', r', rfl, fp', fq', fr', hB2⟩
            exact hK _ _ (fun _ => ⟨p', q', r', rfl, fp', fq', fr'⟩) (fun h => by cases h) (fun _ => ⟨HC.out.1.call hB2, HC.out.2.trans (Agree.of_below hB2)⟩) trivial
           ·rintro a w1 HC hx hd K hK
            replace HC := Lib.hid HC
            have t230 : a.tmps[230]?.getD undef = .slice (some ⟨g, 0, none⟩) B.pl B.pl := Reg.slot_val (hd 0 (by kernel_rfl) 230 rfl)
            have t233 : a.tmps[233]?.getD undef = .int .i64 (m3 : Int) := Reg.slot_val (hd 3 (by kernel_rfl) 233 rfl)
            go_simp
            exact hK _ _ (fun _ => rfl) (fun h => by cases h) (fun _ => HC.out) trivial
           ·rintro a w1 HC hx hd K hK
            replace HC := Lib.hid HC
            obtain ⟨u0, u1, u2, ⟨z0, z1, z2⟩, fu⟩ := HC.out.1.own.at HL2.out
            have k0 := HC.out.1.own.2.1 (m3 * 3)
            have k1 := HC.out.1.own.2.1 (m3 * 3 + 1)
            have k2 := HC.out.1.own.2.1 (m3 * 3 + 2)
            have t248 : a.tmps[248]?.getD undef = .pointer (some ⟨g, m3 * 3, none⟩) := Reg.slot_val (hd 18 (by kernel_rfl) 248 rfl)
            obtain ⟨p247, q247, r247, g247, f247⟩ := hd 17 (by kernel_rfl) 247 rfl
            have t247 := Reg.slot_val g247
            clear g247
            go_simp
            exact hK undef _ (fun h => absurd rfl h) (fun _ => ⟨HC.out.1.put HL2.out f247, ((HC.out.2.set HSL.out).set HSL.out).set HSL.out⟩) (fun h => absurd rfl h) trivial
          ·rintro f3 W9 hR hT
           obtain ⟨h6, h7⟩ := hT 19 rfl (Nat.le_of_ble_eq_true rfl)
           simp only [Reg.mixL, Nat.zero_add, Nat.reduceAdd]
           have S9 : Hid (St w [] g (addsF c.cs X0 (es.take (B.sl + B.tl + (k + 1)))) W9) := Lib.hid (by
            rw [show B.sl + B.tl + (k + 1) = B.sl + B.tl + k + 1 by omega, HKS.out, HE.out, HAD.out]
            exact h6.drop)
           have A9 := Lib.hid h7
           have HLE := HLEN.out
           clear hR hT h6 h7
           go_wp2
           go_roundw
           case rel => exact ⟨k + 1, by omega, by go_num, S9.out, A9.out⟩
           case measure => simp [intOf]; omega
      ·obtain rfl : k = hs.length := by omega
       have b0 := cell_below S1.out.bel (HA.out 0 _ rfl)
       clear HI HLT HAG HSS HSL
       go_wp2
       clear b0
       go_loopw [255] (fun i w' => ∃ k : Nat, k ≤ B.pl ∧ i = .int .i64 k ∧ Aside (St w [] g (addsF c.cs X0 (es.take (B.sl + B.tl + hs.length + k))) w')) (fun i _ => B.pl - (intOf i).toNat)
       case atStart => exact ⟨0, Nat.zero_le _, rfl, S1.out⟩
       case round =>
        clear S1
        obtain ⟨k, hk, rfl, hA⟩ := hrel
        have S1 := Lib.hid hA.out
        clear hA
        by_cases hlt4 : k < B.pl
        ·obtain ⟨wb, wo, hwb, hwc⟩ := fs_at H.out.2.2.2.1 (show k < B.wl by rw [HWL.out]; exact hlt4)
         have hzk : c.zs.getD k 0 < 2 ^ FloatKind.f32.format.width := by
          have hkz : k < c.zs.length := by have h1 := H.out.2.2.2.1.1; have h2 := HWL.out; omega
          have e : c.zs.getD k 0 = c.zs[k] := by simp [List.getD, hkz]
          rw [e]
          exact H.out.2.2.2.1.2.2.2.1 _ (List.getElem_mem hkz)
         have HZK := Lib.hid (FV.self hzk)
         have HA5 : Hid (w.cell? ⟨pb, 5, none⟩ = some (.slice (some ⟨wb, wo, none⟩) B.wl B.wc)) := Lib.hid (by rw [← hwb]; exact HA.out 5 _ rfl)
         have WC := Lib.hid hwc
         have HE := Lib.hid (E4.out k hlt4)
         have HXL : Hid ((addsF c.cs X0 (List.take (B.sl + B.tl + hs.length + k) es)).length = B.pl) := Lib.hid (by rw [addsF_len]; exact HZ.out)
         have HKS := Lib.hid (addsF_s c.cs X0 es (show B.sl + B.tl + hs.length + k < es.length by have := EL.out; omega))
         generalize hX : addsF c.cs X0 (List.take (B.sl + B.tl + hs.length + k) es) = X at *
         have HAD := Lib.hid (add_we (cs := c.cs) (X := X) (w := cls .f32 (c.zs.getD k 0)) (f := c.fall) (rfl : (k : Int) = (k : Int)))
         have hk0 : (0 : Int) ≤ (k : Int) := by omega
         have hk1 : (k : Int) < (B.pl : Int) := by omega
         have hk2 : (k : Int) < (B.wl : Int) := by have := HWL.out; omega
         have HFF := Lib.hid H.out.2.2.2.2.2.2
         have HMX : Hid (k < X.length) := Lib.hid (by have := HXL.out; omega)
         clear hwb hwc hzk
         generalize c.zs.getD k 0 = zk at *
         go_wp2_with fail
         refine Reg3.wp_region_mix (C := St w [] g X) (G := fun _ _ => True) (R := fun i v w' => match i with | 0 => v = .slice (some ⟨g, 0, none⟩) B.pl B.pl | 1 => v = .int .i64 (k : Int) | 2 => v = .slice (some ⟨g, 0, none⟩) B.pl B.pl | 3 => v = .int .i64 (k : Int) | 4 => v = .pointer (some ⟨g, k * 3, none⟩) | 5 => ∃ p q r, v = vv p q r ∧ F3 p q r (X.getD k c0) | 6 => v = .pointer (some ⟨pb, 0, none⟩) | 7 => v = .pointer (some ⟨pb, 0, none⟩) | 8 => v = .pointer (some ⟨pb, 6, none⟩) | 9 => v = vv B.x B.y B.z | 10 => v = .pointer (some ⟨pb, 0, none⟩) | 11 => v = .pointer (some ⟨pb, 0, none⟩) | 12 => v = .pointer (some ⟨pb, 5, none⟩) | 13 => v = .slice (some ⟨wb, wo, none⟩) B.wl B.wc | 14 => v = .int .i64 (k : Int) | 15 => v = .pointer (some ⟨wb, wo + k, none⟩) | 16 => v = .float .f32 zk | 17 => ∃ p q r, v = vv p q r ∧ F3 p q r (scaleC c.fall (cls .f32 zk)) | 18 => ∃ p q r, v = vv p q r ∧ F3 p q r (plusC (X.getD k c0) (scaleC c.fall (cls .f32 zk))) | 19 => v = .pointer (some ⟨g, k * 3, none⟩) | _ => True) (T := fun _ _ w' => St w [] g (addAt X k (scaleC c.fall (cls .f32 zk))) w') [false, false, false, false, false, false, false, false, false, false, false, false, false, false, false, false, false, false, false, false, false, false, false, false, false, false, false, false, false, false, false, false, false, false, false, false, false, false, false, false, false, false, false, false, false, false, false, false, false, false, false, false, false, false, false, false, false, false, false, false, false, false, false, false, false, false, false, false, false, false, false, false, false, false, false, false, false, false, false, false, false, false, false, false, false, false, false, false, false, false, false, false, false, false, false, false, false, false, false, false, false, false, false, false, false, false, false, false, false, false, false, false, false, false, false, false, false, false, false, false, false, false, false, false, false, false, false, false, false, false, false, false, false, false, false, false, false, false, false, false, false, false, false, false, false, false, false, false, false, false, false, false, false, false, false, false, false, false, false, false, false, false, false, false, false, false, false, false, false, false, false, false, false, false, false, false, false, false, false, false, false, false, false, false, false, false, false, false, false, false, false, false, false, false, false, false, false, false, false, false, false, false, false, false, false, false, false, false, false, false, false, false, false, false, false, false, false, false, false, false, false, false, false, false, false, false, false, false, false, false, false, false, false, false, false, false, false, false, false, false, false, false, false, false, false, false, false, false, false, false, false, false, false, false, false, false, false, false, true, true, true, true, true, true, true, true, true, true, true, true, true, true, true, true, true, true, true, true, false, false]
          (by kernel_rfl) (by kernel_rfl) (by kernel_rfl) (fun _ _ _ _ _ _ h => h) (S1.out.drewN 1) ?_ ?_
         ·refine ⟨Reg3.Obl.mk ?_, Reg3.Obl.mk ?_, Reg3.Obl.mk ?_, Reg3.Obl.mk ?_, Reg3.Obl.mk ?_, Reg3.Obl.mk ?_, Reg3.Obl.mk ?_, Reg3.Obl.mk ?_, Reg3.Obl.mk ?_, Reg3.Obl.mk ?_, Reg3.Obl.mk ?_, Reg3.Obl.mk ?_, Reg3.Obl.mk ?_, Reg3.Obl.mk ?_, Reg3.Obl.mk ?_, Reg3.Obl.mk ?_, Reg3.Obl.mk ?_, Reg3.Obl.mk ?_, Reg3.Obl.mk ?_, Reg3.Obl.mk ?_, Reg3.Obl.mk ?_, trivial⟩
          ·rintro a w1 HC hx hd K hK
           replace HC := Lib.hid HC
           have t4 : a.tmps[4]?.getD undef = .slice (some ⟨g, 0, none⟩) B.pl B.pl := Reg.slot_val (hx 4 (by kernel_rfl))
           go_simp
           exact hK _ _ (fun _ => rfl) (fun h => by cases h) (fun _ => HC.out) trivial
          ·rintro a w1 HC hx hd K hK
           replace HC := Lib.hid HC
           have t19 : a.tmps[19]?.getD undef = .int .i64 (k : Int) := Reg.slot_val (hx 19 (by kernel_rfl))
           go_simp
           exact hK _ _ (fun _ => rfl) (fun h => by cases h) (fun _ => HC.out) trivial
          ·rintro a w1 HC hx hd K hK
           replace HC := Lib.hid HC
           have t4 : a.tmps[4]?.getD undef = .slice (some ⟨g, 0, none⟩) B.pl B.pl := Reg.slot_val (hx 4 (by kernel_rfl))
           go_simp
           exact hK _ _ (fun _ => rfl) (fun h => by cases h) (fun _ => HC.out) trivial
          ·rintro a w1 HC hx hd K hK
           replace HC := Lib.hid HC
           have t19 : a.tmps[19]?.getD undef = .int .i64 (k : Int) := Reg.slot_val (hx 19 (by kernel_rfl))
           go_simp
           exact hK _ _ (fun _ => rfl) (fun h => by cases h) (fun _ => HC.out) trivial
          ·rintro a w1 HC hx hd K hK
           replace HC := Lib.hid HC
           have t260 : a.tmps[260]?.getD undef = .slice (some ⟨g, 0, none⟩) B.pl B.pl := Reg.slot_val (hd 2 (by kernel_rfl) 260 rfl)
           have t261 : a.tmps[261]?.getD undef = .int .i64 (k : Int) := Reg.slot_val (hd 3 (by kernel_rfl) 261 rfl)
           go_simp
           exact hK _ _ (fun _ => rfl) (fun h => by cases h) (fun _ => HC.out) trivial
          ·rintro a w1 HC hx hd K hK
           replace HC := Lib.hid HC
           obtain ⟨u0, u1, u2, ⟨z0, z1, z2⟩, fu⟩ := HC.out.own.at HMX.out
           have t262 : a.tmps[262]?.getD undef = .pointer (some ⟨g, k * 3, none⟩) := Reg.slot_val (hd 4 (by kernel_rfl) 262 rfl)
           go_simp
           exact hK _ _ (fun _ => ⟨u0, u1, u2, rfl, fu⟩) (fun h => by cases h) (fun _ => HC.out) trivial
          ·rintro a w1 HC hx hd K hK
           replace HC := Lib.hid HC
           have t0 : a.tmps[0]?.getD undef = .pointer (some ⟨pb, 0, none⟩) := Reg.slot_val (hx 0 (by kernel_rfl))
           go_simp
           exact hK _ _ (fun _ => rfl) (fun h => by cases h) (fun _ => HC.out) trivial
          ·rintro a w1 HC hx hd K hK
           replace HC := Lib.hid HC
           have t264 : a.tmps[264]?.getD undef = .pointer (some ⟨pb, 0, none⟩) := Reg.slot_val (hd 6 (by kernel_rfl) 264 rfl)
           go_simp
           exact hK _ _ (fun _ => rfl) (fun h => by cases h) (fun _ => HC.out) trivial
          ·rintro a w1 HC hx hd K hK
           replace HC := Lib.hid HC
           have t265 : a.tmps[265]?.getD undef = .pointer (some ⟨pb, 0, none⟩) := Reg.slot_val (hd 7 (by kernel_rfl) 265 rfl)
           go_simp
           exact hK _ _ (fun _ => rfl) (fun h => by cases h) (fun _ => HC.out) trivial
          ·rintro a w1 HC hx hd K hK
           replace HC := Lib.hid HC
           have y0 := cell_below HC.out.bel (HA.out 6 _ rfl)
           have y1 := cell_below HC.out.bel (HA.out 7 _ rfl)
           have y2 := cell_below HC.out.bel (HA.out 8 _ rfl)
           have t266 : a.tmps[266]?.getD undef = .pointer (some ⟨pb, 6, none⟩) := Reg.slot_val (hd 8 (by kernel_rfl) 266 rfl)
           go_simp
           exact hK _ _ (fun _ => rfl) (fun h => by cases h) (fun _ => HC.out) trivial
          ·rintro a w1 HC hx hd K hK
           replace HC := Lib.hid HC
           have t0 : a.tmps[0]?.getD undef = .pointer (some ⟨pb, 0, none⟩) := Reg.slot_val (hx 0 (by kernel_rfl))
           go_simp
           exact hK _ _ (fun _ => rfl) (fun h => by cases h) (fun _ => HC.out) trivial
          ·rintro a w1 HC hx hd K hK
           replace HC := Lib.hid HC
           have t268 : a.tmps[268]?.getD undef = .pointer (some ⟨pb, 0, none⟩) := Reg.slot_val (hd 10 (by kernel_rfl) 268 rfl)
           go_simp
           exact hK _ _ (fun _ => rfl) (fun h => by cases h) (fun _ => HC.out) trivial
          ·rintro a w1 HC hx hd K hK
           replace HC := Lib.hid HC
           have t269 : a.tmps[269]?.getD undef = .pointer (some ⟨pb, 0, none⟩) := Reg.slot_val (hd 11 (by kernel_rfl) 269 rfl)
           go_simp
           exact hK _ _ (fun _ => rfl) (fun h => by cases h) (fun _ => HC.out) trivial
          ·rintro a w1 HC hx hd K hK
           replace HC := Lib.hid HC
           have y9 := cell_below HC.out.bel HA5.out
           have t270 : a.tmps[270]?.getD undef = .pointer (some ⟨pb, 5, none⟩) := Reg.slot_val (hd 12 (by kernel_rfl) 270 rfl)
           go_simp
           exact hK _ _ (fun _ => rfl) (fun h => by cases h) (fun _ => HC.out) trivial
          ·rintro a w1 HC hx hd K hK
           replace HC := Lib.hid HC
           have t19 : a.tmps[19]?.getD undef = .int .i64 (k : Int) := Reg.slot_val (hx 19 (by kernel_rfl))
           go_simp
           exact hK _ _ (fun _ => rfl) (fun h => by cases h) (fun _ => HC.out) trivial
          ·rintro a w1 HC hx hd K hK
           replace HC := Lib.hid HC
           have t271 : a.tmps[271]?.getD undef = .slice (some ⟨wb, wo, none⟩) B.wl B.wc := Reg.slot_val (hd 13 (by kernel_rfl) 271 rfl)
           have t272 : a.tmps[272]?.getD undef = .int .i64 (k : Int) := Reg.slot_val (hd 14 (by kernel_rfl) 272 rfl)
           go_simp
           exact hK _ _ (fun _ => rfl) (fun h => by cases h) (fun _ => HC.out) trivial
          ·rintro a w1 HC hx hd K hK
           replace HC := Lib.hid HC
           have y9 := cell_below HC.out.bel WC.out
           have t273 : a.tmps[273]?.getD undef = .pointer (some ⟨wb, wo + k, none⟩) := Reg.slot_val (hd 15 (by kernel_rfl) 273 rfl)
           go_simp
           exact hK _ _ (fun _ => rfl) (fun h => by cases h) (fun _ => HC.out) trivial
          ·rintro a w1 HC hx hd K hK
           replace HC := Lib.hid HC
           have t267 : a.tmps[267]?.getD undef = vv B.x B.y B.z := Reg.slot_val (hd 9 (by kernel_rfl) 267 rfl)
           have t274 : a.tmps[274]?.getD undef = .float .f32 zk := Reg.slot_val (hd 16 (by kernel_rfl) 274 rfl)
           go_simp
           refine (l01Scale _ _ _ _ _ _ _ _ _ HFF.out.1 HFF.out.2.1 HFF.out.2.2 HZK.out).mono ?_
           rintro en w2 ⟨p', q', r', rfl, fp', fq', fr', hB2⟩
           exact hK _ _ (fun _ => ⟨p', q', r', rfl, fp', fq', fr'⟩) (fun h => by cases h) (fun _ => HC.out.call hB2) trivial
          ·rintro a w1 HC hx hd K hK
           replace HC := Lib.hid HC
           obtain ⟨p263, q263, r263, g263, f263⟩ := hd 5 (by kernel_rfl) 263 rfl
           have t263 := Reg.slot_val g263
           clear g263
           obtain ⟨p275, q275, r275, g275, f275⟩ := hd 17 (by kernel_rfl) 275 rfl
           have t275 := Reg.slot_val g275
           clear g275
           go_simp
           refine (l01Add _ _ _ _ _ _ _ _ _ _ _ _ _ f263.1 f263.2.1 f263.2.2 f275.1 f275.2.1 f275.2.2).mono ?_
           rintro en w2 ⟨p', q', r', rfl, fp', fq', fr', hB2⟩
           exact hK _ _ (fun _ => ⟨p', q', r', rfl, fp', fq', fr'⟩) (fun h => by cases h) (fun _ => HC.out.call hB2) trivial
          ·rintro a w1 HC hx hd K hK
           replace HC := Lib.hid HC
           have t258 : a.tmps[258]?.getD undef = .slice (some ⟨g, 0, none⟩) B.pl B.pl := Reg.slot_val (hd 0 (by kernel_rfl) 258 rfl)
           have t259 : a.tmps[259]?.getD undef = .int .i64 (k : Int) := Reg.slot_val (hd 1 (by kernel_rfl) 259 rfl)
           go_simp
           exact hK _ _ (fun _ => rfl) (fun h => by cases h) (fun _ => HC.out) trivial
          ·rintro a w1 HC hx hd K hK
           replace HC := Lib.hid HC
           obtain ⟨u0, u1, u2, ⟨z0, z1, z2⟩, fu⟩ := HC.out.own.at HMX.out
           have k0' := HC.out.own.2.1 (k * 3)
           have k1' := HC.out.own.2.1 (k * 3 + 1)
           have k2' := HC.out.own.2.1 (k * 3 + 2)
           have t277 : a.tmps[277]?.getD undef = .pointer (some ⟨g, k * 3, none⟩) := Reg.slot_val (hd 19 (by kernel_rfl) 277 rfl)
           obtain ⟨p276, q276, r276, g276, f276⟩ := hd 18 (by kernel_rfl) 276 rfl
           have t276 := Reg.slot_val g276
           clear g276
           go_simp
           exact hK undef _ (fun h => absurd rfl h) (fun _ => HC.out.put HMX.out f276) (fun h => absurd rfl h) trivial
         ·rintro f4 W9 hR hT
          have h6 := hT 20 rfl (Nat.le_of_ble_eq_true rfl)
          simp only [Reg.mixL, Nat.zero_add, Nat.reduceAdd]
          have S9 : Hid (St w [] g (addsF c.cs X0 (es.take (B.sl + B.tl + hs.length + (k + 1)))) W9) := Lib.hid (by
           rw [show B.sl + B.tl + hs.length + (k + 1) = B.sl + B.tl + hs.length + k + 1 by omega, HKS.out, HE.out, HAD.out]
           exact h6)
          have HLE := HLEN.out
          clear hR hT h6
          go_wp2
          go_roundw
          case rel => exact ⟨k + 1, by omega, by go_num, S9.out⟩
          case measure => simp [intOf]; omega
        ·obtain rfl : k = B.pl := by omega
         have S9 : Hid (St w [] g (addsF c.cs X0 es) wr) := Lib.hid (by have := S1.out; rwa [List.take_of_length_le (by have := EL.out; omega)] at this)
         go_wp2
         go_ret
         exact ⟨g, rfl, by rw [HX0.out]; exact S9.out⟩
end Go.Proofs.YtabccmobmppdnaaGreat
namespace Go.Proofs.YtabccmobmppdnaaGreat
open Go Fk Go.RowKit
set_option linter.unusedVariables false
set_option maxRecDepth 16000
end Go.Proofs.YtabccmobmppdnaaGreat

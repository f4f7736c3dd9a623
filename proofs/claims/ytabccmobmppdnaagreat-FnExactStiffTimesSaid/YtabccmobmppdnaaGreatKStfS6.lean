/-
Texts in one: what StfS stands on, part 6. Conditions: those of each.
-/
import Derived.Test.YtabccmobmppdnaaGreatKStfS5
import Derived.WalkKit
import Derived.BigQuiet
import Derived.Maps.OwnSet
-- halved
namespace Go.Proofs.YtabccmobmppdnaaGreat
open Go Fk Go.RowKit Go.Maps
open Go.ChangeShapes (lits)
set_option linter.unusedVariables false
set_option maxRecDepth 16000
def pairsT (t : List Int) (i : Nat) : List ((Int × Int) × Int) := (triE t).map fun e => (e, (i : Int))
def preI (ts : List (List Int)) (k j : Nat) : List ((Int × Int) × Int) := ((List.range k).flatMap fun i => pairsT (ts.getD i []) i) ++ (pairsT (ts.getD k []) k).take j
theorem preI_zero (ts : List (List Int)) : preI ts 0 0 = [] := by simp [preI]
theorem preI_next (ts : List (List Int)) (k : Nat) : preI ts k 3 = preI ts (k + 1) 0 := by
 unfold preI
 rw [List.range_succ, List.flatMap_append, List.flatMap_cons, List.flatMap_nil, List.append_nil, List.take_zero, List.append_nil]
 rfl
theorem preI_step {ts : List (List Int)} {k j : Nat} (hj : j < 3) : preI ts k (j + 1) = preI ts k j ++ [((triE (ts.getD k [])).getD j (0, 0), (k : Int))] := by
 match j, hj with
 | 0, _ => simp [preI, pairsT, triE]
 | 1, _ => simp [preI, pairsT, triE]
 | 2, _ => simp [preI, pairsT, triE]
set_option maxHeartbeats 8000000 in
theorem impl_edges (pa ta : Option Addr) (pl pc tl tc : Nat) (ts : List (List Int)) (w : World) (ht : IsTs w ta tl tc ts) (h3 : ∀ k, k < tl → (ts.getD k []).length = 3) (hin : ∀ k, k < tl → ∀ i, i < 3 → 0 ≤ (ts.getD k []).getD i 0 ∧ ((ts.getD k []).getD i 0).toNat < 64) (hlen : tl ≤ 128) :
  Calls Tryz.prog 182 #[.agg #[.slice pa pl pc, .slice ta tl tc]] w fun e w' => ∃ (B : Nat) (D : DataW Unit), e = .returned (.map (some B)) ∧ w.heap.size ≤ B ∧ w'.ownsGroups Tryz.prog 234 (B + 1) 2 .i64 B (3 * tl) D ∧ GroupsOf D (preI ts tl 0) ∧ Below w.heap.size w w' := by
 have ui := Tryz.underlying40
 have uc := Tryz.underlying190
 have us := Tryz.underlying241
 have ue := Tryz.underlying234
 obtain ⟨i0, hi, hz0, hz1, hz2⟩ := info_parts info64
 have htl := ht.1
 have hB0 : Below w.heap.size w (w.alloc (.cells #[.slice pa pl pc, .slice ta tl tc] 40)) := (Below.refl _ _).alloc (Nat.le_refl _) _
 have d0' : ((w.alloc (.cells #[.slice pa pl pc, .slice ta tl tc] 40)).alloc (.map #[] 0)).cell? ⟨w.heap.size, 0, none⟩ = some (.slice pa pl pc) := by go_simp
 have d1' : ((w.alloc (.cells #[.slice pa pl pc, .slice ta tl tc] 40)).alloc (.map #[] 0)).cell? ⟨w.heap.size, 1, none⟩ = some (.slice ta tl tc) := by go_simp
 have hBM : Below w.heap.size w ((w.alloc (.cells #[.slice pa pl pc, .slice ta tl tc] 40)).alloc (.map #[] 0)) := hB0.alloc hB0.size _
 have HBM := Lib.hid hBM
 have J2 := Lib.hid (all_cornersO pa ta pl pc tl tc ts ((w.alloc (.cells #[.slice pa pl pc, .slice ta tl tc] 40)).alloc (.map #[] 0)) (ht.below hBM) h3 hlen)
 have HO0 := Lib.hid (World.ownsGroups_made (H := Unit) (w.alloc (.cells #[.slice pa pl pc, .slice ta tl tc] 40)) Tryz.prog 234 2 .i64)
 have HV := Lib.hid hin
 rw [World.size_alloc] at HO0
 have hBle : w.heap.size ≤ w.heap.size + 1 := Nat.le_succ _
 have hBlt : w.heap.size + 1 < ((w.alloc (.cells #[.slice pa pl pc, .slice ta tl tc] 40)).alloc (.map #[] 0)).heap.size := by simp
 have hmm := @run_makeMap Tryz.prog
 have lt0 : w.heap.size < (w.alloc (.cells #[.slice pa pl pc, .slice ta tl tc] 40)).heap.size := by simp
 clear hB0 hBM ht hin h3
 go_enter Tryz.func182, Tryz.ntmps182
 go_wp2_with fail
 generalize ((w.alloc (.cells #[.slice pa pl pc, .slice ta tl tc] 40)).alloc (.map #[] 0)) = W at *
 clear d0' d1' lt0
 generalize w.heap.size + 1 = B at *
 refine J2.out.mono ?_
 rintro e V ⟨rfl, hC, hBV, hcV, _, hCB⟩
 generalize hcb : W.heap.size + 1 = cb at *
 have hne : cb ≠ B := by omega
 have HCO := Lib.hid (owns_of_cs hCB hC (Nat.le_refl cb) (by unfold maxLen; omega))
 have HOV := Lib.hid (groups_below HO0.out hBV)
 have HBV := Lib.hid (HBM.out.trans (hBV.mono HBM.out.size))
 clear hC hCB hBV hcV hcb HO0 HBM J2
 go_wp2
 go_loopw [12] (fun i w' => ∃ k : Nat, k ≤ tl ∧ i = .int .i64 k ∧ Aside (∃ D : DataW Unit, w'.ownsGroups Tryz.prog 234 (B + 1) 2 .i64 B (3 * k) D ∧ GroupsOf D (preI ts k 0) ∧ w'.ownsRow cb 190 3 (.slice (some ⟨cb, 0, none⟩) tl tl) tl (flatV ts tl) ∧ Below w.heap.size w w')) (fun i _ => tl - (intOf i).toNat)
 case atStart => exact ⟨0, Nat.zero_le _, rfl, _, HOV.out, by rw [preI_zero]; exact GroupsOf.nil, HCO.out, HBV.out⟩
 case round =>
  obtain ⟨k, hk, rfl, hA⟩ := hrel
  obtain ⟨D0, hO, hF, hCR, hB⟩ := hA.out
  by_cases hlt : k < tl
  ·obtain ⟨c0, c1, c2⟩ := cs_of_owns hCR k hlt
   have hx := HV.out k hlt
   obtain ⟨p0, q0⟩ := hx 0 (by decide)
   obtain ⟨p1, q1⟩ := hx 1 (by decide)
   obtain ⟨p2, q2⟩ := hx 2 (by decide)
   generalize hx0 : (ts.getD k []).getD 0 0 = x0 at *
   generalize hx1 : (ts.getD k []).getD 1 0 = x1 at *
   generalize hx2 : (ts.getD k []).getD 2 0 = x2 at *
   have X0 := Lib.hid hx0
   have X1 := Lib.hid hx1
   have X2 := Lib.hid hx2
   have wk : (Lit.int .i64 (k : Int)).wf = true := WalkArith.wf_i64 (by omega)
   have hk0 : (0 : Int) ≤ (k : Int) := by omega
   have hk1 : (k : Int) < (tl : Int) := by omega
   have lcb : cb < wr.heap.size := (hCR.lt cb rfl).2
   have hBox : Below wr.heap.size wr (wr.alloc (.cells #[.int .i64 x0, .int .i64 x1, .int .i64 x2] 190)) := (Below.refl _ _).alloc (Nat.le_refl _) _
   have HO1 := Lib.hid (groups_below hO hBox)
   have HF := Lib.hid hF
   have HC1 := Lib.hid (owns_up hCR hBox)
   have HB0' := Lib.hid (hB.trans (hBox.mono hB.size))
   clear hA hO hF hCR hB hx hx0 hx1 hx2 hBox
   go_wp2_with (go_at_call 196; refine (impl_sides _ _ _ _).mono ?_; rintro e w3 ⟨rfl, hB3⟩; have HB3 := Lib.hid hB3; clear hB3)
   have HO2 := Lib.hid (groups_below HO1.out HB3.out)
   have HC2 := Lib.hid (owns_up HC1.out HB3.out)
   have HB2 := Lib.hid (HB0'.out.trans (HB3.out.mono HB0'.out.size))
   clear c0 c1 c2 lcb HO1 HC1 HB0' HB3
   go_loopw [19] (fun i w' => ∃ j : Nat, j ≤ 3 ∧ i = .int .i64 j ∧ Aside (∃ D : DataW Unit, w'.ownsGroups Tryz.prog 234 (B + 1) 2 .i64 B (3 * k + j) D ∧ GroupsOf D (preI ts k j) ∧ w'.ownsRow cb 190 3 (.slice (some ⟨cb, 0, none⟩) tl tl) tl (flatV ts tl) ∧ Below w.heap.size w w')) (fun i _ => 3 - (intOf i).toNat)
   case atStart => exact ⟨0, by omega, rfl, D0, HO2.out, HF.out, HC2.out, HB2.out⟩
   case round =>
    obtain ⟨j, hj, rfl, hA⟩ := hrel
    obtain ⟨D, hO, hF, hCR, hB⟩ := hA.out
    have HO := Lib.hid hO
    have HF := Lib.hid hF
    have HCR := Lib.hid hCR
    have HB1 := Lib.hid hB
    clear hA hO hF hCR hB HO2 HC2 HB2
    by_cases hlj : j < 3
    ·obtain rfl | rfl | rfl : j = 0 ∨ j = 1 ∨ j = 2 := by omega
     ·have hs : (triE (ts.getD k [])).getD 0 (0, 0) = (min x0 x1, max x0 x1) := by
       show eKey ((ts.getD k []).getD 0 0) ((ts.getD k []).getD 1 0) = _
       rw [X0.out, X1.out]; rfl
      have hix : ∀ w, (Instr.index 242 (.agg #[.int .i64 x0, .int .i64 x1, .int .i64 x1, .int .i64 x2, .int .i64 x2, .int .i64 x0]) (.int .i64 0)).run Tryz.prog w = .ok (.agg #[.int .i64 x0, .int .i64 x1]) w := side_ix x0 x1 x1 x2 x2 x0 0 (by decide)
      obtain ⟨p, hp⟩ : ∃ p, min x0 x1 = p := ⟨_, rfl⟩
      obtain ⟨q, hq⟩ : ∃ q, max x0 x1 = q := ⟨_, rfl⟩
      rw [hp, hq] at hs
      have wp : (Lit.int .i64 p).wf = true := WalkArith.wf_i64 (by omega)
      have wq : (Lit.int .i64 q).wf = true := WalkArith.wf_i64 (by omega)
      have HS := Lib.hid hs
      have HPQ := Lib.hid (And.intro hp hq)
      clear hs
      have HBX : Hid (Below wr.heap.size wr (wr.alloc (.cells #[.int .i64 x0, .int .i64 x1] 241))) := Lib.hid ((Below.refl _ _).alloc (Nat.le_refl _) _)
      have BX : Hid ((wr.alloc (.cells #[.int .i64 x0, .int .i64 x1] 241)).ownsRow wr.heap.size 241 2 (.slice (some ⟨wr.heap.size, 0, none⟩) 1 1) 1 [.int .i64 x0, .int .i64 x1]) := Lib.hid (by
       have := World.ownsRow_lit (base := wr.heap.size) (e := 241) (size := 2) wr #[.int .i64 x0, .int .i64 x1] 1 (Nat.le_refl _) (by decide) rfl
       simpa using this)
      have GR := Lib.hid (groups_below HO.out HBX.out)
      have hBw : B < wr.heap.size := by
       obtain ⟨es, clock, hb, _⟩ := HO.out
       exact (Array.getElem?_eq_some_iff.1 hb).1
      clear hp hq
      go_wp2_with fail
      have hp := HPQ.out.1
      have hq := HPQ.out.2
      refine Reg8.wp_region_mix (m := 9) (z := 10) (C := fun w' => Below (wr.alloc (.cells #[.int .i64 x0, .int .i64 x1] 241)).heap.size (wr.alloc (.cells #[.int .i64 x0, .int .i64 x1] 241)) w') (D := fun u w' => Ap (wr.alloc (.cells #[.int .i64 x0, .int .i64 x1] 241)) B (3 * k + 0) D (p, q) (grp (preI ts k 0) (p, q)) (k : Int) u w')
       (T := fun w' => w'.ownsGroups Tryz.prog 234 (B + 1) 2 .i64 B (3 * k + (0 + 1)) (D.put (kE (p, q)) (.slice (lits .i64 (grp (preI ts k 0) (p, q) ++ [(k : Int)])) [])) ∧ w'.ownsRow cb 190 3 (.slice (some ⟨cb, 0, none⟩) tl tl) tl (flatV ts tl) ∧ Below w.heap.size w w')
       (G := fun w1 w2 => Below w1.heap.size w1 w2)
       (Rv := fun i v => match i with | 0 => v = .map (some B) | 1 => v = .agg #[.int .i64 x0, .int .i64 x1] | 2 => v = .agg #[.int .i64 p, .int .i64 q] | 3 => v = .map (some B) | 4 => v = .agg #[.int .i64 x0, .int .i64 x1] | 5 => v = .agg #[.int .i64 p, .int .i64 q] | 7 => v = .int .i64 (k : Int) | _ => True)
       (Rw := fun i v w' => match i with | 6 => Lk B (3 * k + 0) D (p, q) (grp (preI ts k 0) (p, q)) v w' | 8 => ∃ g, v = .slice (some ⟨g, 0, none⟩) 1 1 ∧ w'.cell? ⟨g, 0, none⟩ = some (.int .i64 (k : Int)) | _ => True) [false, false, false, false, false, false, false, false, false, false, false, false, false, false, false, false, false, false, false, false, false, false, true, true, true, true, true, true, true, true, true, true, false, false, false]
       (by kernel_rfl) (by kernel_rfl) (by kernel_rfl) ?_ (below_drewN (Below.refl _ _) 1) ?_ ?_
      ·intro j v w1 w2 hC hG hR
       match j with
       | 0 => trivial
       | 1 => trivial
       | 2 => trivial
       | 3 => trivial
       | 4 => trivial
       | 5 => trivial
       | 6 => exact hR.below hG
       | 7 => trivial
       | 8 => obtain ⟨g, e, hg⟩ := hR; exact ⟨g, e, cell_below hG hg⟩
       | _ + 9 => trivial
      ·refine ⟨?_, ?_, ?_, ?_, ?_, ?_, ?_, ?_, ?_, ?_, ?_, trivial⟩
       ·refine Reg8.Obl.any (by kernel_rfl) (by kernel_rfl) ?_ ?_
        ·rintro a' w5 HC hx hd K hK
         replace HC := Lib.hid HC
         have t3 : a'.tmps[3]?.getD undef = .map (some B) := Reg.slot_val (hx 3 (by kernel_rfl))
         go_simp
         exact hK _ _ rfl trivial HC.out (Below.refl _ _)
        ·rintro a' w5 u5 hD hx hd K hK
         have HD := Lib.hid hD
         clear hD
         have t3 : a'.tmps[3]?.getD undef = .map (some B) := Reg.slot_val (hx 3 (by kernel_rfl))
         go_simp
         exact hK _ _ rfl HD.out
       ·refine Reg8.Obl.any (by kernel_rfl) (by kernel_rfl) ?_ ?_
        ·rintro a' w5 HC hx hd K hK
         replace HC := Lib.hid HC
         have t7 : a'.tmps[7]?.getD undef = .pointer (some ⟨wr.heap.size, 0, none⟩) := Reg.slot_val (hx 7 (by kernel_rfl))
         have r5 := owns_up BX.out HC.out
         have y0 := cell0_of r5
         have y1 := cell1_of r5
         clear r5
         go_simp
         exact hK _ _ rfl trivial HC.out (Below.refl _ _)
        ·rintro a' w5 u5 hD hx hd K hK
         have HD := Lib.hid hD
         clear hD
         have t7 : a'.tmps[7]?.getD undef = .pointer (some ⟨wr.heap.size, 0, none⟩) := Reg.slot_val (hx 7 (by kernel_rfl))
         have r5 := HD.out.row BX.out (by decide)
         have y0 := cell0_of r5
         have y1 := cell1_of r5
         clear r5
         go_simp
         exact hK _ _ rfl HD.out
       ·refine Reg8.Obl.any (by kernel_rfl) (by kernel_rfl) ?_ ?_
        ·rintro a' w5 HC hx hd K hK
         replace HC := Lib.hid HC
         have t23 : a'.tmps[23]?.getD undef = .agg #[.int .i64 x0, .int .i64 x1] := Reg.slot_val (hd 1 23 (by kernel_rfl) rfl)
         go_simp
         refine (side_edge x0 x1 w5).mono ?_
         rintro en w6 ⟨rfl, hB6⟩
         rw [hp, hq]
         exact hK _ _ rfl trivial (HC.out.trans (hB6.mono HC.out.size)) hB6
        ·rintro a' w5 u5 hD hx hd K hK
         have HD := Lib.hid hD
         clear hD
         have t23 : a'.tmps[23]?.getD undef = .agg #[.int .i64 x0, .int .i64 x1] := Reg.slot_val (hd 1 23 (by kernel_rfl) rfl)
         go_simp
         refine (side_edge x0 x1 w5).mono ?_
         rintro en w6 ⟨rfl, hB6⟩
         rw [hp, hq]
         exact hK _ _ rfl (HD.out.below hB6)
       ·refine Reg8.Obl.early (by kernel_rfl) (by kernel_rfl) (by kernel_rfl) ?_
        rintro a' w5 HC hx hd K hK
        replace HC := Lib.hid HC
        have t3 : a'.tmps[3]?.getD undef = .map (some B) := Reg.slot_val (hx 3 (by kernel_rfl))
        go_simp
        exact hK _ _ rfl trivial HC.out (Below.refl _ _)
       ·refine Reg8.Obl.early (by kernel_rfl) (by kernel_rfl) (by kernel_rfl) ?_
        rintro a' w5 HC hx hd K hK
        replace HC := Lib.hid HC
        have t7 : a'.tmps[7]?.getD undef = .pointer (some ⟨wr.heap.size, 0, none⟩) := Reg.slot_val (hx 7 (by kernel_rfl))
        have r5 := owns_up BX.out HC.out
        have y0 := cell0_of r5
        have y1 := cell1_of r5
        clear r5
        go_simp
        exact hK _ _ rfl trivial HC.out (Below.refl _ _)
       ·refine Reg8.Obl.early (by kernel_rfl) (by kernel_rfl) (by kernel_rfl) ?_
        rintro a' w5 HC hx hd K hK
        replace HC := Lib.hid HC
        have t26 : a'.tmps[26]?.getD undef = .agg #[.int .i64 x0, .int .i64 x1] := Reg.slot_val (hd 4 26 (by kernel_rfl) rfl).1
        go_simp
        refine (side_edge x0 x1 w5).mono ?_
        rintro en w6 ⟨rfl, hB6⟩
        rw [hp, hq]
        exact hK _ _ rfl trivial (HC.out.trans (hB6.mono HC.out.size)) hB6
       ·refine Reg8.Obl.early (by kernel_rfl) (by kernel_rfl) (by kernel_rfl) ?_
        rintro a' w5 HC hx hd K hK
        replace HC := Lib.hid HC
        have t25 : a'.tmps[25]?.getD undef = .map (some B) := Reg.slot_val (hd 3 25 (by kernel_rfl) rfl).1
        have t27 : a'.tmps[27]?.getD undef = .agg #[.int .i64 p, .int .i64 q] := Reg.slot_val (hd 5 27 (by kernel_rfl) rfl).1
        obtain ⟨v5, zs, hrun, hat, hoi, hzl, hback⟩ := (groups_below GR.out HC.out).at edgeKeyed Tryz.underlying229 (by kernel_rfl) (by unfold maxLen; omega) (keyOf_edge wp wq)
        obtain rfl := group_is HF.out wp wq hat hoi
        have LK : Hid (Lk B (3 * k + 0) D (p, q) (grp (preI ts k 0) (p, q)) v5 w5) := Lib.hid ⟨hoi, hzl, hback⟩
        clear hat hoi hzl hback
        go_simp
        exact hK _ _ trivial LK.out HC.out (Below.refl _ _)
       ·refine Reg8.Obl.early (by kernel_rfl) (by kernel_rfl) (by kernel_rfl) ?_
        rintro a' w5 HC hx hd K hK
        replace HC := Lib.hid HC
        have t4 : a'.tmps[4]?.getD undef = .int .i64 (k : Int) := Reg.slot_val (hx 4 (by kernel_rfl))
        go_simp
        exact hK _ _ rfl trivial HC.out (Below.refl _ _)
       ·refine Reg8.Obl.early (by kernel_rfl) (by kernel_rfl) (by kernel_rfl) ?_
        rintro a' w5 HC hx hd K hK
        replace HC := Lib.hid HC
        have t29 : a'.tmps[29]?.getD undef = .int .i64 (k : Int) := Reg.slot_val (hd 7 29 (by kernel_rfl) rfl).1
        have e0 := cell_one_new w5 (.int .i64 (k : Int)) 2 0 _ rfl
        have E0 := Lib.hid e0
        clear e0
        go_simp
        exact hK _ _ trivial ⟨_, rfl, by first | (simp; done) | exact E0.out⟩ (HC.out.alloc HC.out.size _) ((Below.refl _ _).alloc (Nat.le_refl _) _)
       ·refine Reg8.Obl.turn (by kernel_rfl) (by kernel_rfl) ?_
        rintro a' w5 hC hx hd K hK
        have hLK := (hd 6 28 (by kernel_rfl) rfl).2
        obtain ⟨g, t30, hg30⟩ := (hd 8 30 (by kernel_rfl) rfl).2
        have hBw5 : wr.heap.size ≤ w5.heap.size := Nat.le_trans (by simp) hC.size
        refine wp_append_own_at w5 _ _ 33 rfl (B + 1) 2 i0 (.int .i64 0) 1 8 Tryz.underlying33 hi hz0 hz1 hz2 rfl (by decide) _ _ _ rfl hLK.1.1 ⟨g, 0, none⟩ 1 1 [.int .i64 (k : Int)] t30 rfl (fun j u hj => ?_) (fun u hu => by simp at hu; subst hu; rfl) (by have := hLK.2.1; unfold maxLen; omega) (by have := hLK.2.1; omega) (by omega) ?_
        ·match j, hj with
         | 0, hj => simp at hj; subst hj; first | (simp [Addr.add]; done) | (simp [Addr.add]; exact hg30)
         | j + 1, hj => simp at hj
        ·intro v6 w6 ho hgr hloc
         exact hK _ _ trivial ⟨_, w5, hLK, hC, hgr, hLK.1.appended ho wk, hloc.imp id (fun h => ⟨_, h, Nat.le_refl _⟩)⟩
       ·refine Reg8.Obl.store (by kernel_rfl) ?_
        rintro a' w5 u5 hu hD hx hd K hK
        have t22 : a'.tmps[22]?.getD undef = .map (some B) := Reg.slot_val (hd 0 22 rfl)
        have t24 : a'.tmps[24]?.getD undef = .agg #[.int .i64 p, .int .i64 q] := Reg.slot_val (hd 2 24 rfl)
        have t31 : a'.tmps[31]?.getD undef = u5 := Reg.slot_val (hu 31 rfl)
        have HCR5 := Lib.hid (hD.row (owns_up HCR.out HBX.out) (by decide))
        obtain ⟨v5, wl, hLK, hBl, hgr, hoi, hloc⟩ := hD
        obtain ⟨w6, hrun, hG6, hg6⟩ := hLK.2.2 w5 u5 _ hgr hoi (by have := hLK.2.1; simp; omega) hloc
        rw [← hoi.datum_pos (by simp)] at *
        have HT6 : Hid (w6.ownsGroups Tryz.prog 234 (B + 1) 2 .i64 B (3 * k + (0 + 1)) (D.put (kE (p, q)) (rowDatum .i64 u5 (grp (preI ts k 0) (p, q) ++ [(k : Int)]))) ∧ w6.ownsRow cb 190 3 (.slice (some ⟨cb, 0, none⟩) tl tl) tl (flatV ts tl) ∧ Below w.heap.size w w6) := Lib.hid
         ⟨hG6, HCR5.out.kept hg6 (.inr (by simp [Value.ownBlock]; exact hne)), Below.groups ((HB1.out.trans (HBX.out.mono HB1.out.size)).trans (hBl.mono (HB1.out.trans (HBX.out.mono HB1.out.size)).size)) hLK.1 hgr hg6 ((HB1.out.trans (HBX.out.mono HB1.out.size)).trans (hBl.mono (HB1.out.trans (HBX.out.mono HB1.out.size)).size)).size (by omega) hBle⟩
        clear hG6 hg6 hgr hoi hloc hLK hBl
        go_simp
        exact hK _ HT6.out
      ·rintro f w6 ⟨hG6, hC6, hB6⟩ hd
       have HG6 := Lib.hid hG6
       have HC6 := Lib.hid hC6
       have HB6 := Lib.hid hB6
       have HF6 : Hid (GroupsOf (D.put (kE (p, q)) (.slice (lits .i64 (grp (preI ts k 0) (p, q) ++ [(k : Int)])) [])) (preI ts k (0 + 1))) := Lib.hid (by
        rw [preI_step (j := 0) (by decide), HS.out]; exact HF.out.put wp wq)
       clear hG6 hC6 hB6 hd hix hp hq
       simp only [Reg.mixL]
       go_wp2
       go_roundw
       case rel => exact ⟨0 + 1, by omega, by go_num, _, HG6.out, HF6.out, HC6.out, HB6.out⟩
       case measure => simp [intOf]
     ·have hs : (triE (ts.getD k [])).getD 1 (0, 0) = (min x1 x2, max x1 x2) := by
       show eKey ((ts.getD k []).getD 1 0) ((ts.getD k []).getD 2 0) = _
       rw [X1.out, X2.out]; rfl
      have hix : ∀ w, (Instr.index 242 (.agg #[.int .i64 x0, .int .i64 x1, .int .i64 x1, .int .i64 x2, .int .i64 x2, .int .i64 x0]) (.int .i64 1)).run Tryz.prog w = .ok (.agg #[.int .i64 x1, .int .i64 x2]) w := side_ix x0 x1 x1 x2 x2 x0 1 (by decide)
      obtain ⟨p, hp⟩ : ∃ p, min x1 x2 = p := ⟨_, rfl⟩
      obtain ⟨q, hq⟩ : ∃ q, max x1 x2 = q := ⟨_, rfl⟩
      rw [hp, hq] at hs
      have wp : (Lit.int .i64 p).wf = true := WalkArith.wf_i64 (by omega)
      have wq : (Lit.int .i64 q).wf = true := WalkArith.wf_i64 (by omega)
      have HS := Lib.hid hs
      have HPQ := Lib.hid (And.intro hp hq)
      clear hs
      have HBX : Hid (Below wr.heap.size wr (wr.alloc (.cells #[.int .i64 x1, .int .i64 x2] 241))) := Lib.hid ((Below.refl _ _).alloc (Nat.le_refl _) _)
      have BX : Hid ((wr.alloc (.cells #[.int .i64 x1, .int .i64 x2] 241)).ownsRow wr.heap.size 241 2 (.slice (some ⟨wr.heap.size, 0, none⟩) 1 1) 1 [.int .i64 x1, .int .i64 x2]) := Lib.hid (by
       have := World.ownsRow_lit (base := wr.heap.size) (e := 241) (size := 2) wr #[.int .i64 x1, .int .i64 x2] 1 (Nat.le_refl _) (by decide) rfl
       simpa using this)
      have GR := Lib.hid (groups_below HO.out HBX.out)
      have hBw : B < wr.heap.size := by
       obtain ⟨es, clock, hb, _⟩ := HO.out
       exact (Array.getElem?_eq_some_iff.1 hb).1
      clear hp hq
      go_wp2_with fail
      have hp := HPQ.out.1
      have hq := HPQ.out.2
      refine Reg8.wp_region_mix (m := 9) (z := 10) (C := fun w' => Below (wr.alloc (.cells #[.int .i64 x1, .int .i64 x2] 241)).heap.size (wr.alloc (.cells #[.int .i64 x1, .int .i64 x2] 241)) w') (D := fun u w' => Ap (wr.alloc (.cells #[.int .i64 x1, .int .i64 x2] 241)) B (3 * k + 1) D (p, q) (grp (preI ts k 1) (p, q)) (k : Int) u w')
       (T := fun w' => w'.ownsGroups Tryz.prog 234 (B + 1) 2 .i64 B (3 * k + (1 + 1)) (D.put (kE (p, q)) (.slice (lits .i64 (grp (preI ts k 1) (p, q) ++ [(k : Int)])) [])) ∧ w'.ownsRow cb 190 3 (.slice (some ⟨cb, 0, none⟩) tl tl) tl (flatV ts tl) ∧ Below w.heap.size w w')
       (G := fun w1 w2 => Below w1.heap.size w1 w2)
       (Rv := fun i v => match i with | 0 => v = .map (some B) | 1 => v = .agg #[.int .i64 x1, .int .i64 x2] | 2 => v = .agg #[.int .i64 p, .int .i64 q] | 3 => v = .map (some B) | 4 => v = .agg #[.int .i64 x1, .int .i64 x2] | 5 => v = .agg #[.int .i64 p, .int .i64 q] | 7 => v = .int .i64 (k : Int) | _ => True)
       (Rw := fun i v w' => match i with | 6 => Lk B (3 * k + 1) D (p, q) (grp (preI ts k 1) (p, q)) v w' | 8 => ∃ g, v = .slice (some ⟨g, 0, none⟩) 1 1 ∧ w'.cell? ⟨g, 0, none⟩ = some (.int .i64 (k : Int)) | _ => True) [false, false, false, false, false, false, false, false, false, false, false, false, false, false, false, false, false, false, false, false, false, false, true, true, true, true, true, true, true, true, true, true, false, false, false]
       (by kernel_rfl) (by kernel_rfl) (by kernel_rfl) ?_ (below_drewN (Below.refl _ _) 1) ?_ ?_
      ·intro j v w1 w2 hC hG hR
       match j with
       | 0 => trivial
       | 1 => trivial
       | 2 => trivial
       | 3 => trivial
       | 4 => trivial
       | 5 => trivial
       | 6 => exact hR.below hG
       | 7 => trivial
       | 8 => obtain ⟨g, e, hg⟩ := hR; exact ⟨g, e, cell_below hG hg⟩
       | _ + 9 => trivial
      ·refine ⟨?_, ?_, ?_, ?_, ?_, ?_, ?_, ?_, ?_, ?_, ?_, trivial⟩
       ·refine Reg8.Obl.any (by kernel_rfl) (by kernel_rfl) ?_ ?_
        ·rintro a' w5 HC hx hd K hK
         replace HC := Lib.hid HC
         have t3 : a'.tmps[3]?.getD undef = .map (some B) := Reg.slot_val (hx 3 (by kernel_rfl))
         go_simp
         exact hK _ _ rfl trivial HC.out (Below.refl _ _)
        ·rintro a' w5 u5 hD hx hd K hK
         have HD := Lib.hid hD
         clear hD
         have t3 : a'.tmps[3]?.getD undef = .map (some B) := Reg.slot_val (hx 3 (by kernel_rfl))
         go_simp
         exact hK _ _ rfl HD.out
       ·refine Reg8.Obl.any (by kernel_rfl) (by kernel_rfl) ?_ ?_
        ·rintro a' w5 HC hx hd K hK
         replace HC := Lib.hid HC
         have t7 : a'.tmps[7]?.getD undef = .pointer (some ⟨wr.heap.size, 0, none⟩) := Reg.slot_val (hx 7 (by kernel_rfl))
         have r5 := owns_up BX.out HC.out
         have y0 := cell0_of r5
         have y1 := cell1_of r5
         clear r5
         go_simp
         exact hK _ _ rfl trivial HC.out (Below.refl _ _)
        ·rintro a' w5 u5 hD hx hd K hK
         have HD := Lib.hid hD
         clear hD
         have t7 : a'.tmps[7]?.getD undef = .pointer (some ⟨wr.heap.size, 0, none⟩) := Reg.slot_val (hx 7 (by kernel_rfl))
         have r5 := HD.out.row BX.out (by decide)
         have y0 := cell0_of r5
         have y1 := cell1_of r5
         clear r5
         go_simp
         exact hK _ _ rfl HD.out
       ·refine Reg8.Obl.any (by kernel_rfl) (by kernel_rfl) ?_ ?_
        ·rintro a' w5 HC hx hd K hK
         replace HC := Lib.hid HC
         have t23 : a'.tmps[23]?.getD undef = .agg #[.int .i64 x1, .int .i64 x2] := Reg.slot_val (hd 1 23 (by kernel_rfl) rfl)
         go_simp
         refine (side_edge x1 x2 w5).mono ?_
         rintro en w6 ⟨rfl, hB6⟩
         rw [hp, hq]
         exact hK _ _ rfl trivial (HC.out.trans (hB6.mono HC.out.size)) hB6
        ·rintro a' w5 u5 hD hx hd K hK
         have HD := Lib.hid hD
         clear hD
         have t23 : a'.tmps[23]?.getD undef = .agg #[.int .i64 x1, .int .i64 x2] := Reg.slot_val (hd 1 23 (by kernel_rfl) rfl)
         go_simp
         refine (side_edge x1 x2 w5).mono ?_
         rintro en w6 ⟨rfl, hB6⟩
         rw [hp, hq]
         exact hK _ _ rfl (HD.out.below hB6)
       ·refine Reg8.Obl.early (by kernel_rfl) (by kernel_rfl) (by kernel_rfl) ?_
        rintro a' w5 HC hx hd K hK
        replace HC := Lib.hid HC
        have t3 : a'.tmps[3]?.getD undef = .map (some B) := Reg.slot_val (hx 3 (by kernel_rfl))
        go_simp
        exact hK _ _ rfl trivial HC.out (Below.refl _ _)
       ·refine Reg8.Obl.early (by kernel_rfl) (by kernel_rfl) (by kernel_rfl) ?_
        rintro a' w5 HC hx hd K hK
        replace HC := Lib.hid HC
        have t7 : a'.tmps[7]?.getD undef = .pointer (some ⟨wr.heap.size, 0, none⟩) := Reg.slot_val (hx 7 (by kernel_rfl))
        have r5 := owns_up BX.out HC.out
        have y0 := cell0_of r5
        have y1 := cell1_of r5
        clear r5
        go_simp
        exact hK _ _ rfl trivial HC.out (Below.refl _ _)
       ·refine Reg8.Obl.early (by kernel_rfl) (by kernel_rfl) (by kernel_rfl) ?_
        rintro a' w5 HC hx hd K hK
        replace HC := Lib.hid HC
        have t26 : a'.tmps[26]?.getD undef = .agg #[.int .i64 x1, .int .i64 x2] := Reg.slot_val (hd 4 26 (by kernel_rfl) rfl).1
        go_simp
        refine (side_edge x1 x2 w5).mono ?_
        rintro en w6 ⟨rfl, hB6⟩
        rw [hp, hq]
        exact hK _ _ rfl trivial (HC.out.trans (hB6.mono HC.out.size)) hB6
       ·refine Reg8.Obl.early (by kernel_rfl) (by kernel_rfl) (by kernel_rfl) ?_
        rintro a' w5 HC hx hd K hK
        replace HC := Lib.hid HC
        have t25 : a'.tmps[25]?.getD undef = .map (some B) := Reg.slot_val (hd 3 25 (by kernel_rfl) rfl).1
        have t27 : a'.tmps[27]?.getD undef = .agg #[.int .i64 p, .int .i64 q] := Reg.slot_val (hd 5 27 (by kernel_rfl) rfl).1
        obtain ⟨v5, zs, hrun, hat, hoi, hzl, hback⟩ := (groups_below GR.out HC.out).at edgeKeyed Tryz.underlying229 (by kernel_rfl) (by unfold maxLen; omega) (keyOf_edge wp wq)
        obtain rfl := group_is HF.out wp wq hat hoi
        have LK : Hid (Lk B (3 * k + 1) D (p, q) (grp (preI ts k 1) (p, q)) v5 w5) := Lib.hid ⟨hoi, hzl, hback⟩
        clear hat hoi hzl hback
        go_simp
        exact hK _ _ trivial LK.out HC.out (Below.refl _ _)
       ·refine Reg8.Obl.early (by kernel_rfl) (by kernel_rfl) (by kernel_rfl) ?_
        rintro a' w5 HC hx hd K hK
        replace HC := Lib.hid HC
        have t4 : a'.tmps[4]?.getD undef = .int .i64 (k : Int) := Reg.slot_val (hx 4 (by kernel_rfl))
        go_simp
        exact hK _ _ rfl trivial HC.out (Below.refl _ _)
       ·refine Reg8.Obl.early (by kernel_rfl) (by kernel_rfl) (by kernel_rfl) ?_
        rintro a' w5 HC hx hd K hK
        replace HC := Lib.hid HC
        have t29 : a'.tmps[29]?.getD undef = .int .i64 (k : Int) := Reg.slot_val (hd 7 29 (by kernel_rfl) rfl).1
        have e0 := cell_one_new w5 (.int .i64 (k : Int)) 2 0 _ rfl
        have E0 := Lib.hid e0
        clear e0
        go_simp
        exact hK _ _ trivial ⟨_, rfl, by first | (simp; done) | exact E0.out⟩ (HC.out.alloc HC.out.size _) ((Below.refl _ _).alloc (Nat.le_refl _) _)
       ·refine Reg8.Obl.turn (by kernel_rfl) (by kernel_rfl) ?_
        rintro a' w5 hC hx hd K hK
        have hLK := (hd 6 28 (by kernel_rfl) rfl).2
        obtain ⟨g, t30, hg30⟩ := (hd 8 30 (by kernel_rfl) rfl).2
        have hBw5 : wr.heap.size ≤ w5.heap.size := Nat.le_trans (by simp) hC.size
        refine wp_append_own_at w5 _ _ 33 rfl (B + 1) 2 i0 (.int .i64 0) 1 8 Tryz.underlying33 hi hz0 hz1 hz2 rfl (by decide) _ _ _ rfl hLK.1.1 ⟨g, 0, none⟩ 1 1 [.int .i64 (k : Int)] t30 rfl (fun j u hj => ?_) (fun u hu => by simp at hu; subst hu; rfl) (by have := hLK.2.1; unfold maxLen; omega) (by have := hLK.2.1; omega) (by omega) ?_
        ·match j, hj with
         | 0, hj => simp at hj; subst hj; first | (simp [Addr.add]; done) | (simp [Addr.add]; exact hg30)
         | j + 1, hj => simp at hj
        ·intro v6 w6 ho hgr hloc
         exact hK _ _ trivial ⟨_, w5, hLK, hC, hgr, hLK.1.appended ho wk, hloc.imp id (fun h => ⟨_, h, Nat.le_refl _⟩)⟩
       ·refine Reg8.Obl.store (by kernel_rfl) ?_
        rintro a' w5 u5 hu hD hx hd K hK
        have t22 : a'.tmps[22]?.getD undef = .map (some B) := Reg.slot_val (hd 0 22 rfl)
        have t24 : a'.tmps[24]?.getD undef = .agg #[.int .i64 p, .int .i64 q] := Reg.slot_val (hd 2 24 rfl)
        have t31 : a'.tmps[31]?.getD undef = u5 := Reg.slot_val (hu 31 rfl)
        have HCR5 := Lib.hid (hD.row (owns_up HCR.out HBX.out) (by decide))
        obtain ⟨v5, wl, hLK, hBl, hgr, hoi, hloc⟩ := hD
        obtain ⟨w6, hrun, hG6, hg6⟩ := hLK.2.2 w5 u5 _ hgr hoi (by have := hLK.2.1; simp; omega) hloc
        rw [← hoi.datum_pos (by simp)] at *
        have HT6 : Hid (w6.ownsGroups Tryz.prog 234 (B + 1) 2 .i64 B (3 * k + (1 + 1)) (D.put (kE (p, q)) (rowDatum .i64 u5 (grp (preI ts k 1) (p, q) ++ [(k : Int)]))) ∧ w6.ownsRow cb 190 3 (.slice (some ⟨cb, 0, none⟩) tl tl) tl (flatV ts tl) ∧ Below w.heap.size w w6) := Lib.hid
         ⟨hG6, HCR5.out.kept hg6 (.inr (by simp [Value.ownBlock]; exact hne)), Below.groups ((HB1.out.trans (HBX.out.mono HB1.out.size)).trans (hBl.mono (HB1.out.trans (HBX.out.mono HB1.out.size)).size)) hLK.1 hgr hg6 ((HB1.out.trans (HBX.out.mono HB1.out.size)).trans (hBl.mono (HB1.out.trans (HBX.out.mono HB1.out.size)).size)).size (by omega) hBle⟩
        clear hG6 hg6 hgr hoi hloc hLK hBl
        go_simp
        exact hK _ HT6.out
      ·rintro f w6 ⟨hG6, hC6, hB6⟩ hd
       have HG6 := Lib.hid hG6
       have HC6 := Lib.hid hC6
       have HB6 := Lib.hid hB6
       have HF6 : Hid (GroupsOf (D.put (kE (p, q)) (.slice (lits .i64 (grp (preI ts k 1) (p, q) ++ [(k : Int)])) [])) (preI ts k (1 + 1))) := Lib.hid (by
        rw [preI_step (j := 1) (by decide), HS.out]; exact HF.out.put wp wq)
       clear hG6 hC6 hB6 hd hix hp hq
       simp only [Reg.mixL]
       go_wp2
       go_roundw
       case rel => exact ⟨1 + 1, by omega, by go_num, _, HG6.out, HF6.out, HC6.out, HB6.out⟩
       case measure => simp [intOf]
     ·have hs : (triE (ts.getD k [])).getD 2 (0, 0) = (min x2 x0, max x2 x0) := by
       show eKey ((ts.getD k []).getD 2 0) ((ts.getD k []).getD 0 0) = _
       rw [X2.out, X0.out]; rfl
      have hix : ∀ w, (Instr.index 242 (.agg #[.int .i64 x0, .int .i64 x1, .int .i64 x1, .int .i64 x2, .int .i64 x2, .int .i64 x0]) (.int .i64 2)).run Tryz.prog w = .ok (.agg #[.int .i64 x2, .int .i64 x0]) w := side_ix x0 x1 x1 x2 x2 x0 2 (by decide)
      obtain ⟨p, hp⟩ : ∃ p, min x2 x0 = p := ⟨_, rfl⟩
      obtain ⟨q, hq⟩ : ∃ q, max x2 x0 = q := ⟨_, rfl⟩
      rw [hp, hq] at hs
      have wp : (Lit.int .i64 p).wf = true := WalkArith.wf_i64 (by omega)
      have wq : (Lit.int .i64 q).wf = true := WalkArith.wf_i64 (by omega)
      have HS := Lib.hid hs
      have HPQ := Lib.hid (And.intro hp hq)
      clear hs
      have HBX : Hid (Below wr.heap.size wr (wr.alloc (.cells #[.int .i64 x2, .int .i64 x0] 241))) := Lib.hid ((Below.refl _ _).alloc (Nat.le_refl _) _)
      have BX : Hid ((wr.alloc (.cells #[.int .i64 x2, .int .i64 x0] 241)).ownsRow wr.heap.size 241 2 (.slice (some ⟨wr.heap.size, 0, none⟩) 1 1) 1 [.int .i64 x2, .int .i64 x0]) := Lib.hid (by
       have := World.ownsRow_lit (base := wr.heap.size) (e := 241) (size := 2) wr #[.int .i64 x2, .int .i64 x0] 1 (Nat.le_refl _) (by decide) rfl
       simpa using this)
      have GR := Lib.hid (groups_below HO.out HBX.out)
      have hBw : B < wr.heap.size := by
       obtain ⟨es, clock, hb, _⟩ := HO.out
       exact (Array.getElem?_eq_some_iff.1 hb).1
      clear hp hq
      go_wp2_with fail
      have hp := HPQ.out.1
      have hq := HPQ.out.2
      refine Reg8.wp_region_mix (m := 9) (z := 10) (C := fun w' => Below (wr.alloc (.cells #[.int .i64 x2, .int .i64 x0] 241)).heap.size (wr.alloc (.cells #[.int .i64 x2, .int .i64 x0] 241)) w') (D := fun u w' => Ap (wr.alloc (.cells #[.int .i64 x2, .int .i64 x0] 241)) B (3 * k + 2) D (p, q) (grp (preI ts k 2) (p, q)) (k : Int) u w')
       (T := fun w' => w'.ownsGroups Tryz.prog 234 (B + 1) 2 .i64 B (3 * k + (2 + 1)) (D.put (kE (p, q)) (.slice (lits .i64 (grp (preI ts k 2) (p, q) ++ [(k : Int)])) [])) ∧ w'.ownsRow cb 190 3 (.slice (some ⟨cb, 0, none⟩) tl tl) tl (flatV ts tl) ∧ Below w.heap.size w w')
       (G := fun w1 w2 => Below w1.heap.size w1 w2)
       (Rv := fun i v => match i with | 0 => v = .map (some B) | 1 => v = .agg #[.int .i64 x2, .int .i64 x0] | 2 => v = .agg #[.int .i64 p, .int .i64 q] | 3 => v = .map (some B) | 4 => v = .agg #[.int .i64 x2, .int .i64 x0] | 5 => v = .agg #[.int .i64 p, .int .i64 q] | 7 => v = .int .i64 (k : Int) | _ => True)
       (Rw := fun i v w' => match i with | 6 => Lk B (3 * k + 2) D (p, q) (grp (preI ts k 2) (p, q)) v w' | 8 => ∃ g, v = .slice (some ⟨g, 0, none⟩) 1 1 ∧ w'.cell? ⟨g, 0, none⟩ = some (.int .i64 (k : Int)) | _ => True) [false, false, false, false, false, false, false, false, false, false, false, false, false, false, false, false, false, false, false, false, false, false, true, true, true, true, true, true, true, true, true, true, false, false, false]
       (by kernel_rfl) (by kernel_rfl) (by kernel_rfl) ?_ (below_drewN (Below.refl _ _) 1) ?_ ?_
      ·intro j v w1 w2 hC hG hR
       match j with
       | 0 => trivial
       | 1 => trivial
       | 2 => trivial
       | 3 => trivial
       | 4 => trivial
       | 5 => trivial
       | 6 => exact hR.below hG
       | 7 => trivial
       | 8 => obtain ⟨g, e, hg⟩ := hR; exact ⟨g, e, cell_below hG hg⟩
       | _ + 9 => trivial
      ·refine ⟨?_, ?_, ?_, ?_, ?_, ?_, ?_, ?_, ?_, ?_, ?_, trivial⟩
       ·refine Reg8.Obl.any (by kernel_rfl) (by kernel_rfl) ?_ ?_
        ·rintro a' w5 HC hx hd K hK
         replace HC := Lib.hid HC
         have t3 : a'.tmps[3]?.getD undef = .map (some B) := Reg.slot_val (hx 3 (by kernel_rfl))
         go_simp
         exact hK _ _ rfl trivial HC.out (Below.refl _ _)
        ·rintro a' w5 u5 hD hx hd K hK
         have HD := Lib.hid hD
         clear hD
         have t3 : a'.tmps[3]?.getD undef = .map (some B) := Reg.slot_val (hx 3 (by kernel_rfl))
         go_simp
         exact hK _ _ rfl HD.out
       ·refine Reg8.Obl.any (by kernel_rfl) (by kernel_rfl) ?_ ?_
        ·rintro a' w5 HC hx hd K hK
         replace HC := Lib.hid HC
         have t7 : a'.tmps[7]?.getD undef = .pointer (some ⟨wr.heap.size, 0, none⟩) := Reg.slot_val (hx 7 (by kernel_rfl))
         have r5 := owns_up BX.out HC.out
         have y0 := cell0_of r5
         have y1 := cell1_of r5
         clear r5
         go_simp
         exact hK _ _ rfl trivial HC.out (Below.refl _ _)
        ·rintro a' w5 u5 hD hx hd K hK
         have HD := Lib.hid hD
         clear hD
         have t7 : a'.tmps[7]?.getD undef = .pointer (some ⟨wr.heap.size, 0, none⟩) := Reg.slot_val (hx 7 (by kernel_rfl))
         have r5 := HD.out.row BX.out (by decide)
         have y0 := cell0_of r5
         have y1 := cell1_of r5
         clear r5
         go_simp
         exact hK _ _ rfl HD.out
       ·refine Reg8.Obl.any (by kernel_rfl) (by kernel_rfl) ?_ ?_
        ·rintro a' w5 HC hx hd K hK
         replace HC := Lib.hid HC
         have t23 : a'.tmps[23]?.getD undef = .agg #[.int .i64 x2, .int .i64 x0] := Reg.slot_val (hd 1 23 (by kernel_rfl) rfl)
         go_simp
         refine (side_edge x2 x0 w5).mono ?_
         rintro en w6 ⟨rfl, hB6⟩
         rw [hp, hq]
         exact hK _ _ rfl trivial (HC.out.trans (hB6.mono HC.out.size)) hB6
        ·rintro a' w5 u5 hD hx hd K hK
         have HD := Lib.hid hD
         clear hD
         have t23 : a'.tmps[23]?.getD undef = .agg #[.int .i64 x2, .int .i64 x0] := Reg.slot_val (hd 1 23 (by kernel_rfl) rfl)
         go_simp
         refine (side_edge x2 x0 w5).mono ?_
         rintro en w6 ⟨rfl, hB6⟩
         rw [hp, hq]
         exact hK _ _ rfl (HD.out.below hB6)
       ·refine Reg8.Obl.early (by kernel_rfl) (by kernel_rfl) (by kernel_rfl) ?_
        rintro a' w5 HC hx hd K hK
        replace HC := Lib.hid HC
        have t3 : a'.tmps[3]?.getD undef = .map (some B) := Reg.slot_val (hx 3 (by kernel_rfl))
        go_simp
        exact hK _ _ rfl trivial HC.out (Below.refl _ _)
       ·refine Reg8.Obl.early (by kernel_rfl) (by kernel_rfl) (by kernel_rfl) ?_
        rintro a' w5 HC hx hd K hK
        replace HC := Lib.hid HC
        have t7 : a'.tmps[7]?.getD undef = .pointer (some ⟨wr.heap.size, 0, none⟩) := Reg.slot_val (hx 7 (by kernel_rfl))
        have r5 := owns_up BX.out HC.out
        have y0 := cell0_of r5
        have y1 := cell1_of r5
        clear r5
        go_simp
        exact hK _ _ rfl trivial HC.out (Below.refl _ _)
       ·refine Reg8.Obl.early (by kernel_rfl) (by kernel_rfl) (by kernel_rfl) ?_
        rintro a' w5 HC hx hd K hK
        replace HC := Lib.hid HC
        have t26 : a'.tmps[26]?.getD undef = .agg #[.int .i64 x2, .int .i64 x0] := Reg.slot_val (hd 4 26 (by kernel_rfl) rfl).1
        go_simp
        refine (side_edge x2 x0 w5).mono ?_
        rintro en w6 ⟨rfl, hB6⟩
        rw [hp, hq]
        exact hK _ _ rfl trivial (HC.out.trans (hB6.mono HC.out.size)) hB6
       ·refine Reg8.Obl.early (by kernel_rfl) (by kernel_rfl) (by kernel_rfl) ?_
        rintro a' w5 HC hx hd K hK
        replace HC := Lib.hid HC
        have t25 : a'.tmps[25]?.getD undef = .map (some B) := Reg.slot_val (hd 3 25 (by kernel_rfl) rfl).1
        have t27 : a'.tmps[27]?.getD undef = .agg #[.int .i64 p, .int .i64 q] := Reg.slot_val (hd 5 27 (by kernel_rfl) rfl).1
        obtain ⟨v5, zs, hrun, hat, hoi, hzl, hback⟩ := (groups_below GR.out HC.out).at edgeKeyed Tryz.underlying229 (by kernel_rfl) (by unfold maxLen; omega) (keyOf_edge wp wq)
        obtain rfl := group_is HF.out wp wq hat hoi
        have LK : Hid (Lk B (3 * k + 2) D (p, q) (grp (preI ts k 2) (p, q)) v5 w5) := Lib.hid ⟨hoi, hzl, hback⟩
        clear hat hoi hzl hback
        go_simp
        exact hK _ _ trivial LK.out HC.out (Below.refl _ _)
       ·refine Reg8.Obl.early (by kernel_rfl) (by kernel_rfl) (by kernel_rfl) ?_
        rintro a' w5 HC hx hd K hK
        replace HC := Lib.hid HC
        have t4 : a'.tmps[4]?.getD undef = .int .i64 (k : Int) := Reg.slot_val (hx 4 (by kernel_rfl))
        go_simp
        exact hK _ _ rfl trivial HC.out (Below.refl _ _)
       ·refine Reg8.Obl.early (by kernel_rfl) (by kernel_rfl) (by kernel_rfl) ?_
        rintro a' w5 HC hx hd K hK
        replace HC := Lib.hid HC
        have t29 : a'.tmps[29]?.getD undef = .int .i64 (k : Int) := Reg.slot_val (hd 7 29 (by kernel_rfl) rfl).1
        have e0 := cell_one_new w5 (.int .i64 (k : Int)) 2 0 _ rfl
        have E0 := Lib.hid e0
        clear e0
        go_simp
        exact hK _ _ trivial ⟨_, rfl, by first | (simp; done) | exact E0.out⟩ (HC.out.alloc HC.out.size _) ((Below.refl _ _).alloc (Nat.le_refl _) _)
       ·refine Reg8.Obl.turn (by kernel_rfl) (by kernel_rfl) ?_
        rintro a' w5 hC hx hd K hK
        have hLK := (hd 6 28 (by kernel_rfl) rfl).2
        obtain ⟨g, t30, hg30⟩ := (hd 8 30 (by kernel_rfl) rfl).2
        have hBw5 : wr.heap.size ≤ w5.heap.size := Nat.le_trans (by simp) hC.size
        refine wp_append_own_at w5 _ _ 33 rfl (B + 1) 2 i0 (.int .i64 0) 1 8 Tryz.underlying33 hi hz0 hz1 hz2 rfl (by decide) _ _ _ rfl hLK.1.1 ⟨g, 0, none⟩ 1 1 [.int .i64 (k : Int)] t30 rfl (fun j u hj => ?_) (fun u hu => by simp at hu; subst hu; rfl) (by have := hLK.2.1; unfold maxLen; omega) (by have := hLK.2.1; omega) (by omega) ?_
        ·match j, hj with
         | 0, hj => simp at hj; subst hj; first | (simp [Addr.add]; done) | (simp [Addr.add]; exact hg30)
         | j + 1, hj => simp at hj
        ·intro v6 w6 ho hgr hloc
         exact hK _ _ trivial ⟨_, w5, hLK, hC, hgr, hLK.1.appended ho wk, hloc.imp id (fun h => ⟨_, h, Nat.le_refl _⟩)⟩
       ·refine Reg8.Obl.store (by kernel_rfl) ?_
        rintro a' w5 u5 hu hD hx hd K hK
        have t22 : a'.tmps[22]?.getD undef = .map (some B) := Reg.slot_val (hd 0 22 rfl)
        have t24 : a'.tmps[24]?.getD undef = .agg #[.int .i64 p, .int .i64 q] := Reg.slot_val (hd 2 24 rfl)
        have t31 : a'.tmps[31]?.getD undef = u5 := Reg.slot_val (hu 31 rfl)
        have HCR5 := Lib.hid (hD.row (owns_up HCR.out HBX.out) (by decide))
        obtain ⟨v5, wl, hLK, hBl, hgr, hoi, hloc⟩ := hD
        obtain ⟨w6, hrun, hG6, hg6⟩ := hLK.2.2 w5 u5 _ hgr hoi (by have := hLK.2.1; simp; omega) hloc
        rw [← hoi.datum_pos (by simp)] at *
        have HT6 : Hid (w6.ownsGroups Tryz.prog 234 (B + 1) 2 .i64 B (3 * k + (2 + 1)) (D.put (kE (p, q)) (rowDatum .i64 u5 (grp (preI ts k 2) (p, q) ++ [(k : Int)]))) ∧ w6.ownsRow cb 190 3 (.slice (some ⟨cb, 0, none⟩) tl tl) tl (flatV ts tl) ∧ Below w.heap.size w w6) := Lib.hid
         ⟨hG6, HCR5.out.kept hg6 (.inr (by simp [Value.ownBlock]; exact hne)), Below.groups ((HB1.out.trans (HBX.out.mono HB1.out.size)).trans (hBl.mono (HB1.out.trans (HBX.out.mono HB1.out.size)).size)) hLK.1 hgr hg6 ((HB1.out.trans (HBX.out.mono HB1.out.size)).trans (hBl.mono (HB1.out.trans (HBX.out.mono HB1.out.size)).size)).size (by omega) hBle⟩
        clear hG6 hg6 hgr hoi hloc hLK hBl
        go_simp
        exact hK _ HT6.out
      ·rintro f w6 ⟨hG6, hC6, hB6⟩ hd
       have HG6 := Lib.hid hG6
       have HC6 := Lib.hid hC6
       have HB6 := Lib.hid hB6
       have HF6 : Hid (GroupsOf (D.put (kE (p, q)) (.slice (lits .i64 (grp (preI ts k 2) (p, q) ++ [(k : Int)])) [])) (preI ts k (2 + 1))) := Lib.hid (by
        rw [preI_step (j := 2) (by decide), HS.out]; exact HF.out.put wp wq)
       clear hG6 hC6 hB6 hd hix hp hq
       simp only [Reg.mixL]
       go_wp2
       go_roundw
       case rel => exact ⟨2 + 1, by omega, by go_num, _, HG6.out, HF6.out, HC6.out, HB6.out⟩
       case measure => simp [intOf]
    ·obtain rfl : j = 3 := by omega
     have hf := HF.out
     rw [preI_next] at hf
     have HF1 := Lib.hid hf
     clear hf
     go_wp2
     go_roundw
     case rel => exact ⟨k + 1, by omega, by go_num, D, HO.out, HF1.out, HCR.out, HB1.out⟩
     case measure => simp [intOf]; omega
  ·obtain rfl : k = tl := by omega
   have HE := Lib.hid (And.intro hO (And.intro hF hB))
   clear hA hO hF hCR hB
   go_wp2
   go_ret
   exact ⟨B, D0, rfl, Nat.le_trans (Nat.le_of_lt_succ (by omega)) (Nat.le_refl B), HE.out.1, HE.out.2.1, HE.out.2.2⟩
end Go.Proofs.YtabccmobmppdnaaGreat
namespace Go.Proofs.YtabccmobmppdnaaGreat
open Go Fk Go.RowKit Go.Maps Go.Sort
set_option linter.unusedVariables false
set_option maxRecDepth 8000
def pairsL (L : List (Int × Int)) (n : Nat) : List (Int × Int) := (List.range n).flatMap fun x : Nat => ((List.range n).filter fun y : Nat => decide (x < y) && decide (((x : Int), (y : Int)) ∈ L)).map fun y : Nat => ((x : Int), (y : Int))
def rowP (e : Int × Int) : List Int := [e.1, e.2]
theorem edgesT_pairs (n : Nat) (ts : List (List Int)) : edgesT n ts = (pairsL (keysE ts) n).map rowP := by
 unfold edgesT rowsE rowE pairsL
 rw [List.map_flatMap]
 simp only [List.map_map]
 rfl
theorem mem_pairsL {L : List (Int × Int)} {n : Nat} {e : Int × Int} : e ∈ pairsL L n ↔ ∃ a b : Nat, a < n ∧ b < n ∧ a < b ∧ ((a : Int), (b : Int)) ∈ L ∧ e = ((a : Int), (b : Int)) := by
 unfold pairsL
 simp only [List.mem_flatMap, List.mem_range, List.mem_map, List.mem_filter, Bool.and_eq_true, decide_eq_true_eq]
 constructor
 ·rintro ⟨a, ha, b, ⟨hb, hab, hm⟩, rfl⟩
  exact ⟨a, b, ha, hb, hab, hm, rfl⟩
 ·rintro ⟨a, b, ha, hb, hab, hm, rfl⟩
  exact ⟨a, ha, b, ⟨hb, hab, hm⟩, rfl⟩
theorem pairsL_sorted (L : List (Int × Int)) (n : Nat) : (pairsL L n).Pairwise fun x y => ltE x y = true := by
 unfold pairsL
 rw [List.pairwise_flatMap]
 refine ⟨fun a ha => ?_, ?_⟩
 ·rw [List.pairwise_map]
  refine (List.Pairwise.filter _ List.pairwise_lt_range).imp fun h => ?_
  unfold ltE
  simp
  omega
 ·refine List.pairwise_lt_range.imp fun {a b} h x hx y hy => ?_
  obtain ⟨c, _, rfl⟩ := List.mem_map.1 hx
  obtain ⟨d, _, rfl⟩ := List.mem_map.1 hy
  unfold ltE
  simp
  omega
theorem sortE_eq {ss ps : List (Int × Int)} (hnd : ss.Nodup) (hm : ∀ x, x ∈ ss ↔ x ∈ ps) (hp : ps.Pairwise fun x y => ltE x y = true) : sortE ss = ps := by
 have hpn : ps.Nodup := hp.imp fun h e => by subst e; unfold ltE at h; simp at h
 have hperm : ss.Perm ps := (List.perm_ext_iff_of_nodup hnd hpn).2 hm
 have e : ∀ a b, (!(ltOf cfE) b a) = !(ltE b a) := fun a b => by rw [ltOf_cfE]
 have tr : ∀ a b c : Int × Int, (!(ltOf cfE) b a) = true → (!(ltOf cfE) c b) = true → (!(ltOf cfE) c a) = true := fun a b c h1 h2 => by
  rw [e] at *
  unfold ltE at *
  simp at *
  omega
 have to : ∀ a b : Int × Int, ((!(ltOf cfE) b a) || !(ltOf cfE) a b) = true := fun a b => by
  rw [e, e]
  unfold ltE
  simp
  omega
 unfold sortE
 refine List.Perm.eq_of_pairwise (le := fun a b => (!(ltOf cfE) b a) = true) (fun a b _ _ h1 h2 => ?_) (List.pairwise_mergeSort tr to ss) (hp.imp fun {a b} h => ?_) ((List.mergeSort_perm ss _).trans hperm)
 ·exact totE a b (by simpa using h2) (by simpa using h1)
 ·rw [e]
  unfold ltE at *
  simp at *
  omega
theorem keys_in {ts : List (List Int)} {n : Nat} (hT : ∀ i, i < ts.length → Tri3 n (ts.getD i [])) {e : Int × Int} (he : e ∈ keysE ts) : ∃ a b : Nat, a < b ∧ b < n ∧ e = ((a : Int), (b : Int)) := by
 unfold keysE at he
 obtain ⟨t, ht, he⟩ := List.mem_flatMap.1 he
 obtain ⟨i, hi, rfl⟩ := List.getElem_of_mem ht
 have h := hT i hi
 rw [List.getD, List.getElem?_eq_getElem hi, Option.getD_some] at h
 obtain ⟨h1, h2, h3, ⟨p0, q0⟩, ⟨p1, q1⟩, ⟨p2, q2⟩⟩ := h
 unfold triE eKey at he
 generalize (ts[i]).getD 0 0 = x at *
 generalize (ts[i]).getD 1 0 = y at *
 generalize (ts[i]).getD 2 0 = z at *
 have main : ∀ u v : Int, 0 ≤ u → u < n → 0 ≤ v → v < n → u ≠ v → ∃ a b : Nat, a < b ∧ b < n ∧ (min u v, max u v) = ((a : Int), (b : Int)) := fun u v a1 a2 b1 b2 hne =>
  ⟨(min u v).toNat, (max u v).toNat, by omega, by omega, by rw [Int.toNat_of_nonneg (by omega), Int.toNat_of_nonneg (by omega)]⟩
 simp only [List.mem_cons, List.not_mem_nil, or_false] at he
 rcases he with rfl | rfl | rfl
 ·exact main _ _ (by omega) (by omega) (by omega) (by omega) (by omega)
 ·exact main _ _ (by omega) (by omega) (by omega) (by omega) (by omega)
 ·exact main _ _ (by omega) (by omega) (by omega) (by omega) (by omega)
theorem mem_preI (ts : List (List Int)) (e : Int × Int) : e ∈ (preI ts ts.length 0).map (·.1) ↔ e ∈ keysE ts := by
 unfold preI keysE pairsT
 rw [List.take_zero, List.append_nil]
 simp only [List.mem_map, List.mem_flatMap, List.mem_range]
 constructor
 ·rintro ⟨p, ⟨i, hi, e', he', rfl⟩, rfl⟩
  exact ⟨ts.getD i [], by rw [List.getD, List.getElem?_eq_getElem hi]; exact List.getElem_mem _, he'⟩
 ·rintro ⟨t, ht, he⟩
  obtain ⟨i, hi, rfl⟩ := List.getElem_of_mem ht
  exact ⟨(e, (i : Int)), ⟨i, hi, e, by rw [List.getD, List.getElem?_eq_getElem hi]; exact he, rfl⟩, rfl⟩
theorem sorted_edges {D : DataW Unit} {ts : List (List Int)} {n : Nat} {ss : List (Int × Int)} (hG : GroupsOf D (preI ts ts.length 0)) (hK : KeysE D ss) (hT : ∀ i, i < ts.length → Tri3 n (ts.getD i [])) (hn : n ≤ 64) : sortE ss = pairsL (keysE ts) n := by
 refine sortE_eq hK.1 (fun x => (hK.2 x).trans ⟨fun ⟨⟨wa, wb⟩, hh⟩ => ?_, fun h => ?_⟩) (pairsL_sorted _ _)
 ·have := (mem_preI ts _).1 (hG.2.2 x.1 x.2 wa wb hh)
  obtain ⟨a, b, hab, hb, e⟩ := keys_in hT this
  exact mem_pairsL.2 ⟨a, b, by omega, hb, hab, by rw [← e]; exact this, e⟩
 ·obtain ⟨a, b, ha, hb, hab, hm, rfl⟩ := mem_pairsL.1 h
  have wa : (Lit.int .i64 (a : Int)).wf = true := WalkArith.wf_i64 (by omega)
  have wb : (Lit.int .i64 (b : Int)).wf = true := WalkArith.wf_i64 (by omega)
  exact ⟨⟨wa, wb⟩, hG.has_of wa wb ((mem_preI ts _).2 hm)⟩
theorem edges_at {w : World} {base n : Nat} {v : Value} {es : List (Int × Int)} (h : w.ownsRow base 234 2 v n (flatE es)) (hn : es.length = n) : ∃ a c, v = .slice a n c ∧ EdgesAt w a n es := by
 have h' := h
 rcases h.2 with ⟨rfl, h0⟩ | ⟨g, cap, cur, rfl, _⟩
 ·exact ⟨none, 0, by rw [h0], fun k hk => absurd hk (by omega)⟩
 ·refine ⟨_, _, rfl, fun k hk => ⟨g, rfl, ?_, ?_⟩⟩
  ·rw [h'.cellAt _ (by omega), flatE_get _ _ (by omega), show k * 2 / 2 = k by omega, show k * 2 % 2 = 0 by omega]
   simp [cellsE, List.getD, hn, hk]
  ·rw [h'.cellAt _ (by omega), flatE_get _ _ (by omega), show (k * 2 + 1) / 2 = k by omega, show (k * 2 + 1) % 2 = 1 by omega]
   simp [cellsE, List.getD, hn, hk]
end Go.Proofs.YtabccmobmppdnaaGreat
namespace Go.Proofs.YtabccmobmppdnaaGreat
open Go Fk Go.RowKit
set_option linter.unusedVariables false
set_option maxRecDepth 64000
theorem OwnT.congr {base n : Nat} {w : World} {v : Value} {ts us : List (List Int)} (h : OwnT base w v n ts) (he : ∀ j, j < n → ts.getD j [] = us.getD j []) : OwnT base w v n us := by
 obtain ⟨rows, h1, h2⟩ := h
 refine ⟨rows, h1, fun j hj => ?_⟩
 rw [← he j hj]
 exact h2 j hj
theorem getD_app {ts us : List (List Int)} {j : Nat} (h : j < ts.length) : ts.getD j [] = (ts ++ us).getD j [] := by
 simp [List.getD, List.getElem?_append_left h]
theorem getD_end {ts : List (List Int)} {u : List Int} : (ts ++ [u]).getD ts.length [] = u := by simp [List.getD]
set_option maxHeartbeats 4000000 in
theorem l02Edges (pb : Nat) (pa ta : Option Addr) (pl pc tl tc : Nat) (cs : List C3) (ts : List (List Int)) (w : World) (c0' : w.cell? ⟨pb, 0, none⟩ = some (.slice pa pl pc)) (c1' : w.cell? ⟨pb, 1, none⟩ = some (.slice ta tl tc)) (hp' : IsVs w pa pl pc cs) (ht : IsTs w ta tl tc ts) (hv : validB cs ts = true) :
  Calls Tryz.prog 189 #[.pointer (some ⟨pb, 0, none⟩)] w fun e w' => (∃ v, e = .returned v ∧ OwnT w.heap.size w' v (edgesT pl ts).length (edgesT pl ts)) ∧ Below w.heap.size w w' := by
 have hpl := hp'.1
 have htl := ht.1
 obtain ⟨v1, v2⟩ := valid_pl hv
 rw [hpl] at v1
 rw [htl] at v2
 obtain ⟨i0, hi, hz0, hz1, hz2⟩ := info_parts infoBool
 obtain ⟨j0, hj, hq0, hq1, hq2⟩ := info_parts infoS
 have HV := Lib.hid (fun k (hk : k < tl) => tri_partsh (valid_rowh hv (show k < ts.length by omega)))
 rw [hpl] at HV
 have C0 := Lib.hid c0'
 have C1 := Lib.hid c1'
 have HT := Lib.hid ht
 have lpb := World.block_lt_of_cell? _ _ c0'
 obtain ⟨N, hN⟩ : ∃ N : Nat, N = pl * pl := ⟨_, rfl⟩
 have hNm : (pl : Int) * (pl : Int) = (N : Int) := by rw [hN]; push_cast; rfl
 have hNb : N ≤ 4096 := by
  have : pl * pl ≤ 64 * 64 := Nat.mul_le_mul v1 v1
  omega
 have hmk : (Instr.makeSlice 250 (.int .i64 N) (.int .i64 N)).run Tryz.prog w = .ok (.slice (some ⟨w.heap.size, 0, none⟩) N N) (w.alloc (.cells (madeCells #[.bool false] N) 4)) := by
  have := run_make (P := Tryz.prog) w 250 4 i0 (.bool false) Tryz.underlying250 hi hz0 .i64 .i64 N N (by omega) (Int.le_refl _) (by rw [hz2]; omega) (by omega)
  rw [this, hz1]; simp; rfl
 have hs0 : SeenT (w.alloc (.cells (madeCells #[.bool false] N) 4)) w.heap.size pl (preE ts 0 0) := by
  refine ⟨fun x y hx hy => ?_, fun i => by simp, by simp⟩
  rw [preE_zero]
  have hlt := flat_lt hx hy
  rw [← hN] at hlt
  exact made_cell w (.bool false) N _ _ hlt
 have HS0 := Lib.hid hs0
 obtain ⟨L, hL⟩ : ∃ L, L = keysE ts := ⟨_, rfl⟩
 have hPE : preE ts tl 0 = L := by rw [hL, ← htl]; exact preE_end ts
 have HPE := Lib.hid hPE
 unfold edgesT
 rw [← hL]
 clear hL hPE
 have HN := Lib.hid hN
 clear hs0 c0' c1' ht hp' hv hN
 go_enter Tryz.func189, Tryz.ntmps189
 have kb0 := C0.out
 go_wp2
 clear kb0
 have HB0 : Hid (Below w.heap.size w (w.alloc (.cells (madeCells #[.bool false] N) 4))) := Lib.hid ((Below.refl _ _).alloc (Nat.le_refl _) _)
 generalize (w.alloc (.cells (madeCells #[.bool false] N) 4)) = W at *
 go_loopw [5] (fun i w' => ∃ k : Nat, k ≤ tl ∧ i = .int .i64 k ∧ Aside (Below w.heap.size w w' ∧ SeenT w' w.heap.size pl (preE ts k 0))) (fun i _ => tl - (intOf i).toNat)
 case atStart => exact ⟨0, Nat.zero_le _, rfl, HB0.out, HS0.out⟩
 case round =>
  obtain ⟨k, hk, rfl, hA⟩ := hrel
  obtain ⟨hB, hS⟩ := hA.out
  have HB := Lib.hid hB
  have HS := Lib.hid hS
  have kb0 := cell_below hB C0.out
  have kb1 := cell_below hB C1.out
  clear hA hS
  by_cases hlt : k < tl
  ·obtain ⟨bt, ot, rfl, hrow⟩ := HT.out.some (by omega)
   obtain ⟨r1, n1, q1, cr', ir⟩ := hrow k hlt
   obtain ⟨hn3, hx⟩ := HV.out k hlt
   have hn1 : n1 = 3 := ir.1.symm.trans hn3
   subst hn1
   have cr := cell_below hB cr'
   have hk0 : (0 : Int) ≤ (k : Int) := by omega
   have hk1 : (k : Int) < (tl : Int) := by omega
   obtain ⟨a0, b0⟩ := hx 0 (by decide)
   obtain ⟨a1, b1⟩ := hx 1 (by decide)
   obtain ⟨a2, b2⟩ := hx 2 (by decide)
   obtain ⟨x0, hx0⟩ : ∃ x : Nat, (ts.getD k []).getD 0 0 = (x : Int) := ⟨_, (Int.toNat_of_nonneg a0).symm⟩
   obtain ⟨x1, hx1⟩ : ∃ x : Nat, (ts.getD k []).getD 1 0 = (x : Int) := ⟨_, (Int.toNat_of_nonneg a1).symm⟩
   obtain ⟨x2, hx2⟩ : ∃ x : Nat, (ts.getD k []).getD 2 0 = (x : Int) := ⟨_, (Int.toNat_of_nonneg a2).symm⟩
   rw [hx0] at b0
   rw [hx1] at b1
   rw [hx2] at b2
   have b0' : x0 < pl := by omega
   have b1' : x1 < pl := by omega
   have b2' : x2 < pl := by omega
   obtain ⟨br, or, rfl, hz⟩ := ir.some (by decide)
   have z0 := hz 0 (by decide)
   have z1 := hz 1 (by decide)
   have z2 := hz 2 (by decide)
   rw [hx0, Nat.add_zero] at z0
   rw [hx1] at z1
   rw [hx2] at z2
   have X0 := Lib.hid hx0
   have X1 := Lib.hid hx1
   have X2 := Lib.hid hx2
   have Z0 := Lib.hid z0
   have Z1 := Lib.hid z1
   have Z2 := Lib.hid z2
   clear hB hrow cr' ir hn3 hx a0 a1 a2 b0 b1 b2 hx0 hx1 hx2 hz z0 z1 z2 HS0 HB0
   go_wp2
   clear cr kb0 kb1
   go_loopw [7] (fun i w' => ∃ m : Nat, m ≤ 3 ∧ i = .int .i64 m ∧ Aside (Below w.heap.size w w' ∧ SeenT w' w.heap.size pl (preE ts k m))) (fun i _ => 3 - (intOf i).toNat)
   case atStart => exact ⟨0, by omega, rfl, HB.out, HS.out⟩
   case round =>
    obtain ⟨m, hm, rfl, hA⟩ := hrel
    obtain ⟨hB, hS⟩ := hA.out
    have HB1 := Lib.hid hB
    have HS1 := Lib.hid hS
    have z0 := cell_below hB Z0.out
    have z1 := cell_below hB Z1.out
    have z2 := cell_below hB Z2.out
    clear hA hB hS
    by_cases hlm : m < 3
    ·obtain rfl | rfl | rfl : m = 0 ∨ m = 1 ∨ m = 2 := by omega
     ·have hm0 : ((min (x0 : Int) (x1 : Int)) : Int) = ((min x0 x1 : Nat) : Int) := by omega
      have hm1 : ((max (x0 : Int) (x1 : Int)) : Int) = ((max x0 x1 : Nat) : Int) := by omega
      have HK := Lib.hid (show (triE (ts.getD k [])).getD 0 (0, 0) = (((min x0 x1 : Nat) : Int), ((max x0 x1 : Nat) : Int)) by
       show eKey ((ts.getD k []).getD 0 0) ((ts.getD k []).getD 1 0) = _
       rw [X0.out, X1.out]; unfold eKey; rw [hm0, hm1])
      have hp : min x0 x1 < pl := by omega
      have hq : max x0 x1 < pl := by omega
      have M0 := Lib.hid hm0
      have M1 := Lib.hid hm1
      clear hm0 hm1
      generalize min x0 x1 = p at *
      generalize max x0 x1 = q at *
      obtain ⟨I, hI⟩ : ∃ I : Nat, I = p * pl + q := ⟨_, rfl⟩
      obtain ⟨P, hP⟩ : ∃ P : Nat, P = p * pl := ⟨_, rfl⟩
      have hlt2 := flat_lt hp hq
      rw [← HN.out] at hlt2
      have hPm : (p : Int) * (pl : Int) = (P : Int) := by rw [hP]; push_cast; rfl
      have hIm : (P : Int) + (q : Int) = (I : Int) := by rw [hI, hP]; push_cast; rfl
      have i0 : (0 : Int) ≤ (I : Int) := by omega
      have i1 : (I : Int) < (N : Int) := by rw [hI]; omega
      have hPb : P ≤ 4096 := by omega
      have cI : wr.cell? ⟨w.heap.size, I, none⟩ = some (.bool (decide (((p : Int), (q : Int)) ∈ preE ts k 0))) := by rw [hI]; exact HS1.out.1 p q hp hq
      have fI : wr.frozen? ⟨w.heap.size, I, none⟩ = false := HS1.out.2.1 I
      have HS2 : Hid (SeenT (wr.setCell ⟨w.heap.size, I, none⟩ (.bool true)) w.heap.size pl (preE ts k (0 + 1))) := Lib.hid (by
       rw [preE_step (by decide), HK.out, hI]; exact HS1.out.set hp hq)
      generalize (decide (((p : Int), (q : Int)) ∈ preE ts k 0)) = u at *
      have HI := Lib.hid hI
      clear hI hP hlt2
      go_wp2_with (first
       | (go_at_call 201; refine (l00Min _ _ _).mono ?_; rintro e w1 ⟨rfl, hw1⟩; rw [hw1, M0.out]; clear hw1)
       | (go_at_call 202; refine (l00Max _ _ _).mono ?_; rintro e w1 ⟨rfl, hw1⟩; rw [hw1, M1.out]; clear hw1))
      go_roundw
      case rel => exact ⟨0 + 1, by omega, by go_num, HB1.out.setCell (Nat.le_refl _) _, HS2.out⟩
      case measure => simp [intOf]
     ·have hm0 : ((min (x1 : Int) (x2 : Int)) : Int) = ((min x1 x2 : Nat) : Int) := by omega
      have hm1 : ((max (x1 : Int) (x2 : Int)) : Int) = ((max x1 x2 : Nat) : Int) := by omega
      have HK := Lib.hid (show (triE (ts.getD k [])).getD 1 (0, 0) = (((min x1 x2 : Nat) : Int), ((max x1 x2 : Nat) : Int)) by
       show eKey ((ts.getD k []).getD 1 0) ((ts.getD k []).getD 2 0) = _
       rw [X1.out, X2.out]; unfold eKey; rw [hm0, hm1])
      have hp : min x1 x2 < pl := by omega
      have hq : max x1 x2 < pl := by omega
      have M0 := Lib.hid hm0
      have M1 := Lib.hid hm1
      clear hm0 hm1
      generalize min x1 x2 = p at *
      generalize max x1 x2 = q at *
      obtain ⟨I, hI⟩ : ∃ I : Nat, I = p * pl + q := ⟨_, rfl⟩
      obtain ⟨P, hP⟩ : ∃ P : Nat, P = p * pl := ⟨_, rfl⟩
      have hlt2 := flat_lt hp hq
      rw [← HN.out] at hlt2
      have hPm : (p : Int) * (pl : Int) = (P : Int) := by rw [hP]; push_cast; rfl
      have hIm : (P : Int) + (q : Int) = (I : Int) := by rw [hI, hP]; push_cast; rfl
      have i0 : (0 : Int) ≤ (I : Int) := by omega
      have i1 : (I : Int) < (N : Int) := by rw [hI]; omega
      have hPb : P ≤ 4096 := by omega
      have cI : wr.cell? ⟨w.heap.size, I, none⟩ = some (.bool (decide (((p : Int), (q : Int)) ∈ preE ts k 1))) := by rw [hI]; exact HS1.out.1 p q hp hq
      have fI : wr.frozen? ⟨w.heap.size, I, none⟩ = false := HS1.out.2.1 I
      have HS2 : Hid (SeenT (wr.setCell ⟨w.heap.size, I, none⟩ (.bool true)) w.heap.size pl (preE ts k (1 + 1))) := Lib.hid (by
       rw [preE_step (by decide), HK.out, hI]; exact HS1.out.set hp hq)
      generalize (decide (((p : Int), (q : Int)) ∈ preE ts k 1)) = u at *
      have HI := Lib.hid hI
      clear hI hP hlt2
      go_wp2_with (first
       | (go_at_call 201; refine (l00Min _ _ _).mono ?_; rintro e w1 ⟨rfl, hw1⟩; rw [hw1, M0.out]; clear hw1)
       | (go_at_call 202; refine (l00Max _ _ _).mono ?_; rintro e w1 ⟨rfl, hw1⟩; rw [hw1, M1.out]; clear hw1))
      go_roundw
      case rel => exact ⟨1 + 1, by omega, by go_num, HB1.out.setCell (Nat.le_refl _) _, HS2.out⟩
      case measure => simp [intOf]
     ·have hm0 : ((min (x2 : Int) (x0 : Int)) : Int) = ((min x2 x0 : Nat) : Int) := by omega
      have hm1 : ((max (x2 : Int) (x0 : Int)) : Int) = ((max x2 x0 : Nat) : Int) := by omega
      have HK := Lib.hid (show (triE (ts.getD k [])).getD 2 (0, 0) = (((min x2 x0 : Nat) : Int), ((max x2 x0 : Nat) : Int)) by
       show eKey ((ts.getD k []).getD 2 0) ((ts.getD k []).getD 0 0) = _
       rw [X2.out, X0.out]; unfold eKey; rw [hm0, hm1])
      have hp : min x2 x0 < pl := by omega
      have hq : max x2 x0 < pl := by omega
      have M0 := Lib.hid hm0
      have M1 := Lib.hid hm1
      clear hm0 hm1
      generalize min x2 x0 = p at *
      generalize max x2 x0 = q at *
      obtain ⟨I, hI⟩ : ∃ I : Nat, I = p * pl + q := ⟨_, rfl⟩
      obtain ⟨P, hP⟩ : ∃ P : Nat, P = p * pl := ⟨_, rfl⟩
      have hlt2 := flat_lt hp hq
      rw [← HN.out] at hlt2
      have hPm : (p : Int) * (pl : Int) = (P : Int) := by rw [hP]; push_cast; rfl
      have hIm : (P : Int) + (q : Int) = (I : Int) := by rw [hI, hP]; push_cast; rfl
      have i0 : (0 : Int) ≤ (I : Int) := by omega
      have i1 : (I : Int) < (N : Int) := by rw [hI]; omega
      have hPb : P ≤ 4096 := by omega
      have cI : wr.cell? ⟨w.heap.size, I, none⟩ = some (.bool (decide (((p : Int), (q : Int)) ∈ preE ts k 2))) := by rw [hI]; exact HS1.out.1 p q hp hq
      have fI : wr.frozen? ⟨w.heap.size, I, none⟩ = false := HS1.out.2.1 I
      have HS2 : Hid (SeenT (wr.setCell ⟨w.heap.size, I, none⟩ (.bool true)) w.heap.size pl (preE ts k (2 + 1))) := Lib.hid (by
       rw [preE_step (by decide), HK.out, hI]; exact HS1.out.set hp hq)
      generalize (decide (((p : Int), (q : Int)) ∈ preE ts k 2)) = u at *
      have HI := Lib.hid hI
      clear hI hP hlt2
      go_wp2_with (first
       | (go_at_call 201; refine (l00Min _ _ _).mono ?_; rintro e w1 ⟨rfl, hw1⟩; rw [hw1, M0.out]; clear hw1)
       | (go_at_call 202; refine (l00Max _ _ _).mono ?_; rintro e w1 ⟨rfl, hw1⟩; rw [hw1, M1.out]; clear hw1))
      go_roundw
      case rel => exact ⟨2 + 1, by omega, by go_num, HB1.out.setCell (Nat.le_refl _) _, HS2.out⟩
      case measure => simp [intOf]
    ·obtain rfl : m = 3 := by omega
     have HS2 := HS1.out
     rw [preE_next (by omega)] at HS2
     have HS3 := Lib.hid HS2
     clear HS2
     go_wp2
     go_roundw
     case rel => exact ⟨k + 1, by omega, by go_num, HB1.out, HS3.out⟩
     case measure => simp [intOf]; omega
  ·obtain rfl : k = tl := by omega
   rw [HPE.out] at HS
   have hbz := hB.size
   clear kb0 HS0 HB0
   obtain ⟨V, hVe⟩ : ∃ V, V = wr := ⟨_, rfl⟩
   subst hVe
   have hT0 : OwnT V.heap.size (V.alloc (.cells #[] 33)) (.slice (some ⟨V.heap.size, 0, none⟩) 0 0) (rowsE L pl 0).length (rowsE L pl 0) :=
    ⟨[], World.ownsRow_lit (base := V.heap.size) (e := 33) (size := 1) V #[] 0 (Nat.le_refl _) (by decide) rfl, fun j hj => absurd hj (by simp [rowsE])⟩
   have HT0 := Lib.hid hT0
   have HBV : Hid (Below V.heap.size V (V.alloc (.cells #[] 33))) := Lib.hid ((Below.refl _ _).alloc (Nat.le_refl _) _)
   clear hT0 hB
   go_wp2
   clear kb1
   generalize (V.alloc (.cells #[] 33)) = V1 at *
   generalize (.slice (some ⟨V.heap.size, 0, none⟩) 0 0 : Value) = v0 at *
   go_loopw [10, 11] (fun v i w' => ∃ a : Nat, a ≤ pl ∧ i = .int .i64 a ∧ Aside (OwnT V.heap.size w' v (rowsE L pl a).length (rowsE L pl a) ∧ Below V.heap.size V w')) (fun _ i _ => pl - (intOf i).toNat)
   case atStart => exact ⟨0, Nat.zero_le _, rfl, HT0.out, HBV.out⟩
   case round =>
    obtain ⟨a, ha, hia, hA⟩ := hrel
    subst hia
    obtain ⟨hT, hBV⟩ := hA.out
    have HT1 := Lib.hid hT
    have HB1 := Lib.hid hBV
    clear hA hT hBV
    by_cases hla : a < pl
    ·have hla' : (a : Int) < (pl : Int) := by omega
     go_wp2
     go_loopw [10, 12] (fun v i w' => ∃ y : Nat, a + 1 ≤ y ∧ y ≤ pl ∧ i = .int .i64 y ∧ Aside (OwnT V.heap.size w' v (rowsE L pl a ++ rowE L y a).length (rowsE L pl a ++ rowE L y a) ∧ Below V.heap.size V w')) (fun _ i _ => pl - (intOf i).toNat)
     case atStart => exact ⟨a + 1, Nat.le_refl _, hla, by go_num, by rw [rowE_start, List.append_nil]; exact HT1.out, HB1.out⟩
     case round =>
      obtain ⟨y, hy0, hy1, hiy, hA⟩ := hrel
      subst hiy
      obtain ⟨hT, hBV⟩ := hA.out
      have HT2 := Lib.hid hT
      have HB2 := Lib.hid hBV
      clear hA
      by_cases hly : y < pl
      ·have hly' : (y : Int) < (pl : Int) := by omega
       obtain ⟨I, hI⟩ : ∃ I : Nat, I = a * pl + y := ⟨_, rfl⟩
       obtain ⟨P, hP⟩ : ∃ P : Nat, P = a * pl := ⟨_, rfl⟩
       have hlt2 := flat_lt hla hly
       rw [← HN.out] at hlt2
       have hPm : (a : Int) * (pl : Int) = (P : Int) := by rw [hP]; push_cast; rfl
       have hIm : (P : Int) + (y : Int) = (I : Int) := by rw [hI, hP]; push_cast; rfl
       have i0 : (0 : Int) ≤ (I : Int) := by omega
       have i1 : (I : Int) < (N : Int) := by rw [hI]; omega
       have hPb : P ≤ 4096 := by omega
       have cI : wr.cell? ⟨w.heap.size, I, none⟩ = some (.bool (decide (((a : Int), (y : Int)) ∈ L))) := by rw [hI]; exact (HS.out.below hBV).1 a y hla hly
       have hlen : (rowsE L pl a ++ rowE L y a).length ≤ 8192 := by
        rw [List.length_append]
        have e1 := rowsE_len L pl a
        have e2 := rowE_len L y a
        have e3 : a * pl ≤ 64 * 64 := Nat.mul_le_mul (by omega) v1
        omega
       have HI := Lib.hid hI
       clear hI hP hlt2 hT hBV
       cases hd : decide (((a : Int), (y : Int)) ∈ L)
       ·rw [hd] at cI
        have HR := Lib.hid (rowE_no hd)
        clear hd
        go_wp2
        go_roundw
        case rel => exact ⟨y + 1, by omega, by omega, by go_num, by rw [HR.out]; exact HT2.out, HB2.out⟩
        case measure => simp [intOf]; omega
       ·rw [hd] at cI
        have HR := Lib.hid (rowE_yes (show a < y by omega) hd)
        clear hd
        have hbz2 := HB2.out.size
        have hB1 : Below wr.heap.size wr ((wr.alloc (.cells #[.int .i64 (a : Int), .int .i64 (y : Int)] 2)).alloc (.cells #[.slice (some ⟨wr.heap.size, 0, none⟩) 2 2] 33)) := ((Below.refl _ _).alloc (Nat.le_refl _) _).alloc (by simp) _
        have hr1 : ((wr.alloc (.cells #[.int .i64 (a : Int), .int .i64 (y : Int)] 2)).alloc (.cells #[.slice (some ⟨wr.heap.size, 0, none⟩) 2 2] 33)).ownsRow V.heap.size 2 1 (.slice (some ⟨wr.heap.size, 0, none⟩) 2 2) 2 (ints [(a : Int), (y : Int)]) :=
         (World.ownsRow_lit (base := V.heap.size) (e := 2) (size := 1) wr #[.int .i64 (a : Int), .int .i64 (y : Int)] 2 hbz2 (by decide) rfl).alloc _
        have hrw := World.ownsRow_lit (base := V.heap.size) (e := 33) (size := 1) (wr.alloc (.cells #[.int .i64 (a : Int), .int .i64 (y : Int)] 2)) #[.slice (some ⟨wr.heap.size, 0, none⟩) 2 2] 1 (by simp; omega) (by decide) rfl
        have e0 := hrw.cellAt 0 (by decide)
        simp only [World.size_alloc, List.getElem?_cons_zero] at e0
        have E0 := Lib.hid e0
        obtain ⟨rows, hrow, hrows⟩ := (HT2.out.up hB1).congr (us := (rowsE L pl a ++ rowE L y a) ++ [[(a : Int), (y : Int)]]) (fun j hj => getD_app hj)
        have HROW := Lib.hid hrow
        have HROWS := Lib.hid hrows
        have HR1 := Lib.hid hr1
        have HB3 := Lib.hid (HB2.out.trans (hB1.mono hbz2))
        clear hB1 hr1 hrw e0 hrow hrows
        go_wp2_with (at_builtin; go_loud (refine wpList_append_own _ rfl _ _ 23 rfl V.heap.size 33 j0 (.slice none 0 0) 1 24 Tryz.underlying23 hj hq0 hq1 hq2 rfl (by decide) _ _ _ rfl HROW.out ⟨wr.heap.size + 1, 0, none⟩ 1 1 [.slice (some ⟨wr.heap.size, 0, none⟩) 2 2] rfl rfl ?c1 ?c2 ?c3 ?c4 ?c5 ?_))
        case c1 =>
         intro j u hj
         match j, hj with
         | 0, hj => simp at hj; subst hj; first | (simp [Addr.add]; done) | exact E0.out
         | j + 1, hj => simp at hj
        case c2 => first | (intro u hu; simp at hu; subst hu; rfl) | exact rfl
        case c3 => unfold maxLen; omega
        case c4 => omega
        case c5 => simp; omega
        ·intro v' w1 hown' hgrow hnil
         have HT3 : Hid (OwnT V.heap.size w1 v' (rowsE L pl a ++ rowE L (y + 1) a).length (rowsE L pl a ++ rowE L (y + 1) a)) := Lib.hid (by
          rw [HR.out, ← List.append_assoc, List.length_append, List.length_singleton]
          exact OwnT.snoc HROW.out HROWS.out (by rw [getD_end]; exact HR1.out) hgrow (by rw [List.length_append]; exact hown'))
         have HB4 := Lib.hid (HB3.out.grown hgrow HB3.out.size (fun k hk => (HROW.out.lt k hk).1))
         clear hown' hgrow hnil HROW HROWS HR1
         go_wp2
         go_roundw
         case rel => exact ⟨y + 1, by omega, by omega, by go_num, HT3.out, HB4.out⟩
         case measure => simp [intOf]; omega
      ·obtain rfl : y = pl := by omega
       clear hT hBV
       go_wp2
       go_roundw
       case rel => exact ⟨a + 1, by omega, by go_num, by rw [rowsE_next]; exact HT2.out, HB2.out⟩
       case measure => simp [intOf]; omega
    ·obtain rfl : a = pl := by omega
     go_wp2
     go_ret
     exact ⟨⟨_, rfl, HT1.out.low hbz⟩, HB.out.trans (HB1.out.mono hbz)⟩
end Go.Proofs.YtabccmobmppdnaaGreat
namespace Go.Proofs.YtabccmobmppdnaaGreat
open Go Fk Go.RowKit
set_option linter.unusedVariables false
set_option maxRecDepth 16000
end Go.Proofs.YtabccmobmppdnaaGreat
namespace Go.Proofs.YtabccmobmppdnaaGreat
open Go Fk Go.RowKit
set_option linter.unusedVariables false
set_option maxRecDepth 16000
theorem edge_row {n : Nat} {ts : List (List Int)} {m : Nat} (hm : m < (edgesT n ts).length) : ∃ a b : Nat, a < n ∧ b < n ∧ a < b ∧ ((a : Int), (b : Int)) ∈ keysE ts ∧ (edgesT n ts).getD m [] = [(a : Int), (b : Int)] := by
 have h : (edgesT n ts).getD m [] ∈ edgesT n ts := by
  rw [List.getD, List.getElem?_eq_getElem hm]
  exact List.getElem_mem _
 obtain ⟨a, b, ha, hb, hab, hk, e⟩ := mem_rowsE.1 h
 exact ⟨a, b, ha, hb, hab, hk, e⟩
theorem edge_wf {n : Nat} {ts : List (List Int)} (hn : n ≤ 64) : ∀ j, j < (edgesT n ts).length → ∀ z ∈ (edgesT n ts).getD j [], (Lit.int .i64 z).wf = true := fun j hj z hz => by
 obtain ⟨a, b, ha, hb, _, _, e⟩ := edge_row hj
 rw [e] at hz
 simp only [List.mem_cons, List.not_mem_nil, or_false] at hz
 rcases hz with rfl | rfl <;> exact WalkArith.wf_i64 (by omega)
theorem edges_len {n : Nat} {ts : List (List Int)} (hn : n ≤ 64) : (edgesT n ts).length ≤ 4096 := by
 have := rowsE_len (keysE ts) n n
 have h2 : n * n ≤ 64 * 64 := Nat.mul_le_mul hn hn
 unfold edgesT
 omega
end Go.Proofs.YtabccmobmppdnaaGreat
namespace Go.Proofs.YtabccmobmppdnaaGreat
open Go Fk Go.RowKit Go.Maps
set_option linter.unusedVariables false
set_option maxRecDepth 16000
def edT (cs : List C3) (ts : List (List Int)) : List (List Int) := bif validB cs ts then edgesT cs.length ts else []
theorem edT_len (cs : List C3) (ts : List (List Int)) : (edT cs ts).length ≤ 4096 := by
 unfold edT
 cases hv : validB cs ts
 ·simp
 ·exact edges_len (valid_pl hv).1
end Go.Proofs.YtabccmobmppdnaaGreat
namespace Go.Proofs.YtabccmobmppdnaaGreat
open Go Fk Go.RowKit Go.Maps
set_option linter.unusedVariables false
set_option maxRecDepth 16000
end Go.Proofs.YtabccmobmppdnaaGreat
namespace Go.Proofs.YtabccmobmppdnaaGreat
open Go Fk Go.RowKit Go.Maps
set_option linter.unusedVariables false
set_option maxRecDepth 16000
end Go.Proofs.YtabccmobmppdnaaGreat
namespace Go.Proofs.YtabccmobmppdnaaGreat
open Go Fk Go.RowKit Go.Maps
set_option linter.unusedVariables false
set_option maxRecDepth 16000
theorem key_is {u v a b : Int} (hab : a < b) : (eKey u v = (a, b)) ↔ ((u = a ∧ v = b) ∨ (u = b ∧ v = a)) := by
 unfold eKey
 rw [Prod.mk.injEq]
 omega
theorem grp_tri {n k : Nat} {t : List Int} (h : Tri3 n t) {a b : Int} (hab : a < b) : (grp (pairsT t k) (a, b)).length = if hasB t a && hasB t b then 1 else 0 := by
 obtain ⟨h1, h2, h3, _, _, _⟩ := h
 unfold pairsT triE grp hasB
 generalize t.getD 0 0 = x at *
 generalize t.getD 1 0 = y at *
 generalize t.getD 2 0 = z at *
 have e1 := key_is (u := x) (v := y) hab
 have e2 := key_is (u := y) (v := z) hab
 have e3 := key_is (u := z) (v := x) hab
 rw [List.length_map]
 by_cases c1 : eKey x y = (a, b)
 ·have c2 : ¬ eKey y z = (a, b) := fun c => by rw [e1] at c1; rw [e2] at c; omega
  have c3 : ¬ eKey z x = (a, b) := fun c => by rw [e1] at c1; rw [e3] at c; omega
  have hc := e1.1 c1
  simp only [List.map_cons, List.map_nil, List.filter_cons, List.filter_nil, c1, c2, c3, decide_true, decide_false, if_true, Bool.false_eq_true, if_false]
  rcases hc with ⟨r1, r2⟩ | ⟨r1, r2⟩ <;> simp [r1, r2]
 ·by_cases c2 : eKey y z = (a, b)
  ·have c3 : ¬ eKey z x = (a, b) := fun c => by rw [e2] at c2; rw [e3] at c; omega
   have hc := e2.1 c2
   simp only [List.map_cons, List.map_nil, List.filter_cons, List.filter_nil, c1, c2, c3, decide_true, decide_false, if_true, Bool.false_eq_true, if_false]
   rcases hc with ⟨r1, r2⟩ | ⟨r1, r2⟩ <;> simp [r1, r2]
  ·by_cases c3 : eKey z x = (a, b)
   ·have hc := e3.1 c3
    simp only [List.map_cons, List.map_nil, List.filter_cons, List.filter_nil, c1, c2, c3, decide_true, decide_false, if_true, Bool.false_eq_true, if_false]
    rcases hc with ⟨r1, r2⟩ | ⟨r1, r2⟩ <;> simp [r1, r2]
   ·simp only [List.map_cons, List.map_nil, List.filter_cons, List.filter_nil, c1, c2, c3, decide_false, Bool.false_eq_true, if_false, List.length_nil]
    rw [e1] at c1
    rw [e2] at c2
    rw [e3] at c3
    rw [if_neg]
    simp only [Bool.and_eq_true, Bool.or_eq_true, decide_eq_true_eq]
    omega
end Go.Proofs.YtabccmobmppdnaaGreat
namespace Go.Proofs.YtabccmobmppdnaaGreat
open Go Fk Go.RowKit Go.Maps Go.Sort
set_option linter.unusedVariables false
set_option maxRecDepth 8000
def thN (t : List Int) (i j : Int) : Int := t.getD 0 0 + t.getD 1 0 + t.getD 2 0 - i - j
def thirds (ts : List (List Int)) (i j : Int) (L : List Int) : List Int := L.map fun k => thN (ts.getD k.toNat []) i j
def hrow (ts : List (List Int)) (e : Int × Int) : List Int := e.1 :: e.2 :: thirds ts e.1 e.2 (atL ts e.1 e.2 ts.length)
def isH (ts : List (List Int)) (e : Int × Int) : Bool := decide ((atL ts e.1 e.2 ts.length).length = 2)
def hgK (ts : List (List Int)) (ps : List (Int × Int)) (k : Nat) : List (List Int) := ((ps.take k).filter (isH ts)).map (hrow ts)
theorem hgK_s {ts : List (List Int)} {ps : List (Int × Int)} {k : Nat} (hk : k < ps.length) : hgK ts ps (k + 1) = hgK ts ps k ++ (bif isH ts (ps.getD k (0, 0)) then [hrow ts (ps.getD k (0, 0))] else []) := by
 have e : ps.take (k + 1) = ps.take k ++ [ps.getD k (0, 0)] := by
  rw [List.take_add_one, List.getElem?_eq_getElem hk]
  simp [List.getD, List.getElem?_eq_getElem hk]
 unfold hgK
 rw [e, List.filter_append, List.map_append]
 cases h : isH ts (ps.getD k (0, 0))
 ·simp only [List.filter_cons, List.filter_nil, h, cond_false, Bool.false_eq_true, if_false, List.map_nil]
 ·simp only [List.filter_cons, List.filter_nil, h, cond_true, if_true, List.map_cons, List.map_nil]
theorem hgK_len (ts : List (List Int)) (ps : List (Int × Int)) (k : Nat) : (hgK ts ps k).length ≤ k := by
 unfold hgK
 rw [List.length_map]
 exact Nat.le_trans (List.length_filter_le _ _) (List.length_take_le _ _)
def hgT (cs : List C3) (ts : List (List Int)) : List (List Int) := bif validB cs ts then hgK ts (pairsL (keysE ts) cs.length) (pairsL (keysE ts) cs.length).length else []
theorem grp_tri_is {n k : Nat} {t : List Int} (h : Tri3 n t) {a b : Int} (hab : a < b) : grp (pairsT t k) (a, b) = bif hasB t a && hasB t b then [(k : Int)] else [] := by
 have hl := grp_tri (k := k) h hab
 have hall : ∀ z ∈ grp (pairsT t k) (a, b), z = (k : Int) := fun z hz => by
  unfold grp pairsT at hz
  obtain ⟨p, hp, rfl⟩ := List.mem_map.1 hz
  obtain ⟨e, _, rfl⟩ := List.mem_map.1 (List.mem_filter.1 hp).1
  rfl
 generalize grp (pairsT t k) (a, b) = G at *
 cases hc : (hasB t a && hasB t b)
 ·rw [hc] at hl
  simp only [Bool.false_eq_true, if_false] at hl
  exact List.eq_nil_of_length_eq_zero hl
 ·rw [hc] at hl
  simp only [if_true] at hl
  obtain ⟨z, rfl⟩ := List.length_eq_one_iff.1 hl
  have := hall z (by simp)
  subst this
  rfl
theorem grp_is {ts : List (List Int)} {n : Nat} (hT : ∀ i, i < ts.length → Tri3 n (ts.getD i [])) {a b : Int} (hab : a < b) : ∀ k, k ≤ ts.length → grp (preI ts k 0) (a, b) = atL ts a b k
 | 0, _ => by rw [preI_zero]; rfl
 | k + 1, hk => by
  have ih := grp_is hT hab k (by omega)
  have e : preI ts (k + 1) 0 = preI ts k 0 ++ pairsT (ts.getD k []) k := by
   rw [← preI_next]
   unfold preI
   rw [List.take_zero, List.append_nil]
   congr 1
  have hs : grp (preI ts k 0 ++ pairsT (ts.getD k []) k) (a, b) = grp (preI ts k 0) (a, b) ++ grp (pairsT (ts.getD k []) k) (a, b) := by
   unfold grp
   rw [List.filter_append, List.map_append]
  rw [e, hs, ih, grp_tri_is (hT k (by omega)) hab]
  rfl
def thS (t : List Int) (i j : Int) : Int := bif hasB t i && hasB t j then thN t i j else -1
theorem thS_yes {n : Nat} {t : List Int} (h : Tri3 n t) {i j : Int} (hij : i ≠ j) (h1 : hasB t i = true) (h2 : hasB t j = true) : 0 ≤ thN t i j ∧ thN t i j < n ∧ thN t i j ≠ i ∧ thN t i j ≠ j := by
 obtain ⟨n1, n2, n3, ⟨p0, q0⟩, ⟨p1, q1⟩, ⟨p2, q2⟩⟩ := h
 unfold hasB at h1 h2
 unfold thN
 simp only [Bool.or_eq_true, decide_eq_true_eq] at h1 h2
 omega
theorem th_at {n : Nat} {t : List Int} (h : Tri3 n t) {i j : Int} (hij : i ≠ j) (h1 : hasB t i = true) (h2 : hasB t j = true) {k : Nat} (hk : k < 3) (hi : t.getD k 0 ≠ i) (hj : t.getD k 0 ≠ j) : t.getD k 0 = thN t i j := by
 obtain ⟨n1, n2, n3, _, _, _⟩ := h
 unfold hasB at h1 h2
 unfold thN
 simp only [Bool.or_eq_true, decide_eq_true_eq] at h1 h2
 match k, hk with
 | 0, _ => omega
 | 1, _ => omega
 | 2, _ => omega
theorem th_has {n : Nat} {t : List Int} (h : Tri3 n t) {i j : Int} (hij : i ≠ j) (h1 : hasB t i = true) (h2 : hasB t j = true) (hall : ∀ k, k < 3 → t.getD k 0 = i ∨ t.getD k 0 = j) : False := by
 obtain ⟨n1, n2, n3, _, _, _⟩ := h
 have a0 := hall 0 (by omega)
 have a1 := hall 1 (by omega)
 have a2 := hall 2 (by omega)
 omega
theorem mem_at2 {ts : List (List Int)} {p q z : Int} : ∀ {k}, z ∈ atL ts p q k → ∃ i : Nat, i < k ∧ hasB (ts.getD i []) p = true ∧ hasB (ts.getD i []) q = true ∧ z = (i : Int)
 | 0, h => by simp [atL] at h
 | k + 1, h => by
  have hs : atL ts p q (k + 1) = atL ts p q k ++ (bif hasB (ts.getD k []) p && hasB (ts.getD k []) q then [(k : Int)] else []) := rfl
  rw [hs, List.mem_append] at h
  rcases h with h | h
  ·obtain ⟨i, hi, r⟩ := mem_at2 h
   exact ⟨i, by omega, r⟩
  ·cases hc : (hasB (ts.getD k []) p && hasB (ts.getD k []) q)
   ·rw [hc] at h; cases h
   ·rw [hc] at h
    simp only [Bool.and_eq_true] at hc
    exact ⟨k, by omega, hc.1, hc.2, by simpa using h⟩
theorem hrow_in {ts : List (List Int)} {n : Nat} (hT : ∀ i, i < ts.length → Tri3 n (ts.getD i [])) {a b : Nat} (hab : a < b) (hb : b < n) : ∀ z ∈ hrow ts ((a : Int), (b : Int)), 0 ≤ z ∧ z < n := fun z hz => by
 unfold hrow thirds at hz
 rcases List.mem_cons.1 hz with rfl | hz
 ·show 0 ≤ (a : Int) ∧ (a : Int) < n
  omega
 rcases List.mem_cons.1 hz with rfl | hz
 ·show 0 ≤ (b : Int) ∧ (b : Int) < n
  omega
 obtain ⟨y, hy, rfl⟩ := List.mem_map.1 hz
 obtain ⟨i, hi, h1, h2, rfl⟩ := mem_at2 hy
 have := thS_yes (hT i hi) (i := (a : Int)) (j := (b : Int)) (by omega) h1 h2
 rw [Int.toNat_natCast]
 exact ⟨this.1, this.2.1⟩
theorem hgK_mem {ts : List (List Int)} {n k : Nat} {r : List Int} (h : r ∈ hgK ts (pairsL (keysE ts) n) k) : ∃ a b : Nat, a < b ∧ b < n ∧ r = hrow ts ((a : Int), (b : Int)) ∧ isH ts ((a : Int), (b : Int)) = true := by
 unfold hgK at h
 obtain ⟨e, he, rfl⟩ := List.mem_map.1 h
 obtain ⟨h1, h2⟩ := List.mem_filter.1 he
 obtain ⟨a, b, _, hb, hab, _, rfl⟩ := mem_pairsL.1 (List.mem_of_mem_take h1)
 exact ⟨a, b, hab, hb, rfl, h2⟩
theorem hrow_four {ts : List (List Int)} {e : Int × Int} (h : isH ts e = true) : (hrow ts e).length = 4 := by
 unfold isH at h
 have := of_decide_eq_true h
 unfold hrow thirds
 simp [this]
end Go.Proofs.YtabccmobmppdnaaGreat
namespace Go.Proofs.YtabccmobmppdnaaGreat
open Go Fk Go.RowKit Go.Maps
set_option linter.unusedVariables false
set_option maxRecDepth 16000
def flatH (rs : List (List Int)) : List Value := rs.flatMap fun r => [.int .i64 (r.getD 0 0), .int .i64 (r.getD 1 0), .int .i64 (r.getD 2 0), .int .i64 (r.getD 3 0)]
theorem flatH_snoc (rs : List (List Int)) (r : List Int) : flatH (rs ++ [r]) = flatH rs ++ [.int .i64 (r.getD 0 0), .int .i64 (r.getD 1 0), .int .i64 (r.getD 2 0), .int .i64 (r.getD 3 0)] := by simp [flatH]
theorem groups_look2 {W : World} {B n : Nat} {D : DataW Unit} {L : List ((Int × Int) × Int)} {x : Int × Int} (hO : W.ownsGroups Tryz.prog 234 (B + 1) 2 .i64 B n D) (hF : GroupsOf D L) (hn : n < maxLen) (wx : wfE x) :
  ∃ a c, (Instr.lookup 229 (.map (some B)) (.agg #[.int .i64 x.1, .int .i64 x.2]) false).run Tryz.prog W = .ok (.slice a (grp L x).length c) W ∧ W.ownsRow (B + 1) 2 1 (.slice a (grp L x).length c) (grp L x).length ((grp L x).map (Value.int .i64)) := by
 obtain ⟨v, zs, hrun, hat, ho, _, _⟩ := hO.at edgeKeyed Tryz.underlying229 (Tryz.zeroValue33 W) hn (keyOf_edge wx.1 wx.2)
 have hz := group_is hF wx.1 wx.2 hat ho
 have h1 := ho.1
 obtain ⟨a, c, rfl⟩ := owns_slice ho.1
 rw [hz] at hrun h1
 exact ⟨a, c, hrun, h1⟩
theorem two_of {L : List Int} (h : L.length = 2) : ∃ a b, L = [a, b] := by
 match L, h with
 | [a, b], _ => exact ⟨a, b, rfl⟩
theorem i64_small {z : Int} (h0 : -4096 ≤ z) (h1 : z ≤ 4096) : IntKind.i64.wrap z = z := IntWalk.i64_in _ (by omega)
set_option maxHeartbeats 2000000 in
theorem clo_third (tb eb cb tl k : Nat) (m n : Int) (ts : List (List Int)) (w : World) (hb : w.cell? ⟨tb, 0, none⟩ = some (.slice (some ⟨cb, 0, none⟩) tl tl)) (he0 : w.cell? ⟨eb, 0, none⟩ = some (.int .i64 m)) (he1 : w.cell? ⟨eb, 1, none⟩ = some (.int .i64 n)) (hc : IsCs w cb tl ts) (hk : k < tl) (hin : ∀ i, i < 3 → 0 ≤ (ts.getD k []).getD i 0 ∧ ((ts.getD k []).getD i 0).toNat < 64) (hm : 0 ≤ m ∧ m < 64) (hn : 0 ≤ n ∧ n < 64) :
  Calls Tryz.prog 184 #[.int .i64 (k : Int), .pointer (some ⟨tb, 0, none⟩), .pointer (some ⟨eb, 0, none⟩)] w fun e w' => e = .returned (.int .i64 (thN (ts.getD k []) m n)) ∧ Below w.heap.size w w' := by
 have uc := Tryz.underlying190
 have ue := Tryz.underlying234
 obtain ⟨z0, z1, z2⟩ := hc k hk
 obtain ⟨p0, q0⟩ := hin 0 (by decide)
 obtain ⟨p1, q1⟩ := hin 1 (by decide)
 obtain ⟨p2, q2⟩ := hin 2 (by decide)
 unfold thN
 generalize (ts.getD k []).getD 0 0 = x at *
 generalize (ts.getD k []).getD 1 0 = y at *
 generalize (ts.getD k []).getD 2 0 = z at *
 have hk0 : (0 : Int) ≤ (k : Int) := by omega
 have hk1 : (k : Int) < (tl : Int) := by omega
 have lt1 := World.block_lt_of_cell? _ _ hb
 have lt2 := World.block_lt_of_cell? _ _ he0
 have lt3 := World.block_lt_of_cell? _ _ z0
 have w1 : IntKind.i64.wrap (x + y) = x + y := i64_small (by omega) (by omega)
 have w2 : IntKind.i64.wrap (x + y + z) = x + y + z := i64_small (by omega) (by omega)
 have w3 : IntKind.i64.wrap (x + y + z - m) = x + y + z - m := i64_small (by omega) (by omega)
 have w4 : IntKind.i64.wrap (x + y + z - m - n) = x + y + z - m - n := i64_small (by omega) (by omega)
 have HB := Lib.hid ((Below.refl w.heap.size w).alloc (Nat.le_refl _) (.cells #[.int .i64 x, .int .i64 y, .int .i64 z] 190))
 clear hc hin
 go_enter Tryz.func184, Tryz.ntmps184
 go_wp2
 go_ret
 exact ⟨rfl, HB.out⟩
theorem infoHg : (Tryz.prog.info? 196).map (fun i => (i.zero, i.size, i.bytes)) = some (some (.agg #[.int .i64 0, .int .i64 0, .int .i64 0, .int .i64 0]), 4, 32) := by kernel_rfl
set_option maxHeartbeats 8000000 in
theorem impl_hinges (pa ta : Option Addr) (pl pc tl tc : Nat) (cs : List C3) (ts : List (List Int)) (w : World) (hp : IsVs w pa pl pc cs) (ht : IsTs w ta tl tc ts) (hv : validB cs ts = true) :
  Calls Tryz.prog 154 #[.agg #[.slice pa pl pc, .slice ta tl tc]] w fun e w' => ∃ v, e = .returned v ∧ w'.ownsRow w.heap.size 196 4 v (hgT cs ts).length (flatH (hgT cs ts)) ∧ Below w.heap.size w w' := by
 have ui := Tryz.underlying40
 have ue := Tryz.underlying234
 have uh := Tryz.underlying196
 have um := Tryz.underlying229
 obtain ⟨i0, hi, hz0, hz1, hz2⟩ := info_parts infoHg
 have hpl := hp.1
 have htl := ht.1
 obtain ⟨v1, v2⟩ := valid_pl hv
 have hpl64 : pl ≤ 64 := by omega
 have hB0 : Below w.heap.size w (w.alloc (.cells #[.slice pa pl pc, .slice ta tl tc] 40)) := (Below.refl _ _).alloc (Nat.le_refl _) _
 have a0 : (w.alloc (.cells #[.slice pa pl pc, .slice ta tl tc] 40)).cell? ⟨w.heap.size, 0, none⟩ = some (.slice pa pl pc) := by go_simp
 have a1 : (w.alloc (.cells #[.slice pa pl pc, .slice ta tl tc] 40)).cell? ⟨w.heap.size, 1, none⟩ = some (.slice ta tl tc) := by go_simp
 have HV := fun k (hk : k < tl) => tri_partsh (valid_rowh hv (show k < ts.length by omega))
 have HT3 : Hid (∀ i, i < ts.length → Tri3 cs.length (ts.getD i [])) := Lib.hid (fun i (hi : i < ts.length) => tri3_of (valid_rowh hv hi))
 have h3 : ∀ k, k < tl → (ts.getD k []).length = 3 := fun k hk => (HV k hk).1
 have hin : ∀ k, k < tl → ∀ i, i < 3 → 0 ≤ (ts.getD k []).getD i 0 ∧ ((ts.getD k []).getD i 0).toNat < 64 := fun k hk i hi => by
  have := (HV k hk).2 i hi
  omega
 have HLEN : Hid ((pairsL (keysE ts) cs.length).length ≤ 4096) := by
  have h := edT_len cs ts
  unfold edT at h
  rw [hv] at h
  simp only [cond_true] at h
  rw [edgesT_pairs, List.length_map] at h
  exact Lib.hid h
 have HPN : Hid (∀ k, k < (pairsL (keysE ts) cs.length).length → ∃ m n : Nat, m < n ∧ n < 64 ∧ (pairsL (keysE ts) cs.length).getD k (0, 0) = ((m : Int), (n : Int))) := Lib.hid (fun k hk => by
  have hm : (pairsL (keysE ts) cs.length).getD k (0, 0) ∈ pairsL (keysE ts) cs.length := by
   rw [List.getD, List.getElem?_eq_getElem hk]
   exact List.getElem_mem _
  obtain ⟨a, b, _, hb, hab, _, e⟩ := mem_pairsL.1 hm
  exact ⟨a, b, hab, by omega, e⟩)
 unfold hgT
 rw [hv, cond_true]
 have HN := Lib.hid v1
 have H3 := Lib.hid h3
 have HIN := Lib.hid hin
 have HT := Lib.hid ht
 have HTL := Lib.hid htl
 have HB0 := Lib.hid hB0
 have ht128 : tl ≤ 128 := by omega
 have HL := Lib.hid ht128
 clear hv hp ht hB0 v1 v2 h3 hin HV ht128 htl hpl
 generalize hps : pairsL (keysE ts) cs.length = ps at *
 have HPS := Lib.hid hps
 clear hps
 go_enter Tryz.func154, Tryz.ntmps154
 go_wp2_with fail
 generalize (w.alloc (.cells #[.slice pa pl pc, .slice ta tl tc] 40)) = W at *
 refine (impl_edges pa ta pl pc tl tc ts W (HT.out.below HB0.out) H3.out HIN.out HL.out).mono ?_
 rintro e w2 ⟨B, D, rfl, hlo, hO, hG, hB2⟩
 have HG2 := Lib.hid hO
 have HGO := Lib.hid hG
 have b0 := cell_below hB2 a0
 have b1 := cell_below hB2 a1
 have HB2 := Lib.hid (HB0.out.trans (hB2.mono HB0.out.size))
 clear hO hG hB2 hlo a0 a1
 go_wp2_with fail
 refine (all_cornersO pa ta pl pc tl tc ts w2 (HT.out.below HB2.out) H3.out HL.out).mono ?_
 rintro e w3 ⟨rfl, hC, hB3, hcV, _, hCB⟩
 generalize hcb : w2.heap.size + 1 = cb at *
 have HC3 := Lib.hid hC
 have HG3 := Lib.hid (groups_below HG2.out hB3)
 have HB3 := Lib.hid (HB2.out.trans (hB3.mono HB2.out.size))
 clear hC hB3 hCB hcV hcb b0 b1
 go_wp2_with fail
 have hBT : Below w3.heap.size w3 (w3.alloc (.cells #[.slice (some ⟨cb, 0, none⟩) tl tl] 187)) := (Below.refl _ _).alloc (Nat.le_refl _) _
 have hct : (w3.alloc (.cells #[.slice (some ⟨cb, 0, none⟩) tl tl] 187)).cell? ⟨w3.heap.size, 0, none⟩ = some (.slice (some ⟨cb, 0, none⟩) tl tl) := by simp
 have HC4 := Lib.hid (HC3.out.below hBT)
 have HG4 := Lib.hid (groups_below HG3.out hBT)
 have HB4 := Lib.hid (HB3.out.trans (hBT.mono HB3.out.size))
 have HCT := Lib.hid hct
 clear hBT hct
 generalize (w3.alloc (.cells #[.slice (some ⟨cb, 0, none⟩) tl tl] 187)) = W4 at *
 generalize w3.heap.size = tb at *
 have hm := map_of_groups HG4.out
 have hsz := hm.size_le
 have HO := Lib.hid hm
 have HS := Lib.hid hsz
 clear hm hsz
 refine (impl_sortedEdges B _ D _ W4 HO.out (by have := HS.out; have := HL.out; unfold maxLen; omega) (by have := HS.out; have := HL.out; omega)).mono ?_
 rintro e w5 ⟨v, ss, rfl, hK, hrow, hnil, hB5⟩
 have hse : sortE ss = ps := by
  rw [← HPS.out]
  refine sorted_edges ?_ hK HT3.out HN.out
  rw [HTL.out]
  exact HGO.out
 have hln : ss.length = ps.length := by rw [← hse]; unfold sortE; simp
 rw [hse, hln] at hrow
 obtain ⟨a, c, rfl, hat⟩ := edges_at hrow rfl
 have HAT := Lib.hid hat
 have HC5 := Lib.hid (HC4.out.below hB5)
 have HG5 := Lib.hid (groups_below HG4.out hB5)
 have HCT5 := Lib.hid (cell_below hB5 HCT.out)
 have HB5 := Lib.hid (HB4.out.trans (hB5.mono HB4.out.size))
 clear hK hrow hse hln hat hB5 hnil HO HS
 go_wp2
 go_loopw [5, 17] (fun v i w' => ∃ k : Nat, k ≤ ps.length ∧ i = .int .i64 k ∧ Aside (w'.ownsRow w5.heap.size 196 4 v (hgK ts ps k).length (flatH (hgK ts ps k)) ∧ Below w5.heap.size w5 w')) (fun _ i _ => ps.length - (intOf i).toNat)
 case atStart => exact ⟨0, Nat.zero_le _, rfl, World.ownsRow_nil _ _ _ _, Below.refl _ _⟩
 case round =>
  obtain ⟨k, hk, rfl, hA⟩ := hrel
  obtain ⟨hO, hB⟩ := hA.out
  have HO1 := Lib.hid hO
  have HB1 := Lib.hid hB
  by_cases hlt : k < ps.length
  ·obtain ⟨m, n, hmn, hn64, hek⟩ := HPN.out k hlt
   obtain ⟨g, rfl, z0, z1⟩ := (HAT.out.below hB) k hlt
   rw [hek] at z0 z1
   simp only at z0 z1
   have HKS := Lib.hid (hgK_s (ts := ts) hlt)
   have HKL := Lib.hid (hgK_len ts ps k)
   have HEK := Lib.hid hek
   have lg := World.block_lt_of_cell? _ _ z0
   have hk0 : (0 : Int) ≤ (k : Int) := by omega
   have hk1 : (k : Int) < (ps.length : Int) := by omega
   have hBX : Below wr.heap.size wr (wr.alloc (.cells #[.int .i64 (m : Int), .int .i64 (n : Int)] 234)) := (Below.refl _ _).alloc (Nat.le_refl _) _
   have x0 : (wr.alloc (.cells #[.int .i64 (m : Int), .int .i64 (n : Int)] 234)).cell? ⟨wr.heap.size, 0, none⟩ = some (.int .i64 (m : Int)) := by simp
   have x1 : (wr.alloc (.cells #[.int .i64 (m : Int), .int .i64 (n : Int)] 234)).cell? ⟨wr.heap.size, 1, none⟩ = some (.int .i64 (n : Int)) := by simp
   have X01 := Lib.hid (And.intro x0 x1)
   have HBX := Lib.hid hBX
   have HBW := Lib.hid (hB.trans (hBX.mono hB.size))
   have hmf : ∀ (fn : Fn) (first cap : Array Value) (w : World), (Instr.makeFunc fn first cap).run Tryz.prog w = .ok (.func fn first cap) w := fun _ _ _ _ => rfl
   have wm : (Lit.int .i64 (m : Int)).wf = true := WalkArith.wf_i64 (by omega)
   have wn : (Lit.int .i64 (n : Int)).wf = true := WalkArith.wf_i64 (by omega)
   obtain ⟨la, lc, hlk, hlo⟩ := groups_look2 (x := ((m : Int), (n : Int))) (groups_below HG5.out HBW.out) HGO.out (by have := HL.out; unfold maxLen; omega) ⟨wm, wn⟩
   have hgi : grp (preI ts tl 0) ((m : Int), (n : Int)) = atL ts (m : Int) (n : Int) tl := by
    rw [← HTL.out]
    exact grp_is HT3.out (by omega) ts.length (Nat.le_refl _)
   rw [hgi] at hlk hlo
   have hal := atL_len ts (m : Int) (n : Int) tl
   obtain ⟨sz, hsz⟩ : ∃ sz, (atL ts (m : Int) (n : Int) tl).length = sz := ⟨_, rfl⟩
   rw [hsz] at hlk hal
   have hH : isH ts ((m : Int), (n : Int)) = decide (sz = 2) := by unfold isH; rw [HTL.out, hsz]
   have hK := HKS.out
   rw [HEK.out, hH] at hK
   have HK := Lib.hid hK
   have HSZ := Lib.hid hsz
   have HLO := Lib.hid hlo
   clear hA hO hB hek hBX hgi hsz hH hK hlo wm wn
   have hL128 := HL.out
   have hps := HLEN.out
   by_cases h4 : sz = 2
   ·subst h4
    have h4' : (((2 : Nat) : Int) == 2) = true := by decide
    obtain ⟨k0, k1, hk2⟩ : ∃ k0 k1 : Nat, (k0 < tl ∧ k1 < tl) ∧ atL ts (m : Int) (n : Int) tl = [(k0 : Int), (k1 : Int)] := by
     obtain ⟨u0, u1, he⟩ := two_of HSZ.out
     obtain ⟨y0, q0, _, _, e0⟩ := mem_at2 (show u0 ∈ atL ts (m : Int) (n : Int) tl by rw [he]; simp)
     obtain ⟨y1, q1, _, _, e1⟩ := mem_at2 (show u1 ∈ atL ts (m : Int) (n : Int) tl by rw [he]; simp)
     exact ⟨y0, y1, ⟨q0, q1⟩, by rw [he, e0, e1]⟩
    obtain ⟨⟨hk0l, hk1l⟩, hat2⟩ := hk2
    have hlo := HLO.out
    rw [hat2] at hlo
    obtain ⟨lg2, rfl⟩ : ∃ lg2, la = some ⟨lg2, 0, none⟩ := by
     rcases hlo.2 with ⟨_, h0⟩ | ⟨g2, cap, cur, e, _⟩
     ·simp at h0
     ·simp at e
      exact ⟨g2, e.1⟩
    have l0 : (wr.alloc (.cells #[.int .i64 (m : Int), .int .i64 (n : Int)] 234)).cell? ⟨lg2, 0, none⟩ = some (.int .i64 (k0 : Int)) := by rw [hlo.cellAt 0 (by simp)]; rfl
    have l1 : (wr.alloc (.cells #[.int .i64 (m : Int), .int .i64 (n : Int)] 234)).cell? ⟨lg2, 1, none⟩ = some (.int .i64 (k1 : Int)) := by rw [hlo.cellAt 1 (by simp)]; rfl
    have L01 := Lib.hid (And.intro l0 l1)
    have HKY : Hid (hgK ts ps (k + 1) = hgK ts ps k ++ [[(m : Int), (n : Int), thN (ts.getD k0 []) (m : Int) (n : Int), thN (ts.getD k1 []) (m : Int) (n : Int)]]) := Lib.hid (by
     rw [HK.out]
     unfold hrow thirds
     rw [HTL.out, hat2]
     simp)
    have HCL := Lib.hid (fun (kk : Nat) (hkk : kk < tl) (wq : World) (hq : Below (wr.alloc (.cells #[.int .i64 (m : Int), .int .i64 (n : Int)] 234)).heap.size (wr.alloc (.cells #[.int .i64 (m : Int), .int .i64 (n : Int)] 234)) wq) =>
     clo_third tb wr.heap.size cb tl kk (m : Int) (n : Int) ts wq (cell_below (HBW.out.trans (hq.mono HBW.out.size)) HCT5.out) (cell_below hq X01.out.1) (cell_below hq X01.out.2) (HC5.out.below (HBW.out.trans (hq.mono HBW.out.size))) hkk (HIN.out kk hkk) (by omega) (by omega))
    clear hlo l0 l1 hat2 hal HLO
    go_wp2_with fail
    have HCL0 := Lib.hid (HCL.out k0 hk0l)
    have HCL1 := Lib.hid (HCL.out k1 hk1l)
    clear HCL
    have hwrE : wr.heap.size ≤ (wr.alloc (.cells #[.int .i64 (m : Int), .int .i64 (n : Int)] 234)).heap.size := by simp
    generalize thN (ts.getD k0 []) (m : Int) (n : Int) = y0 at *
    generalize thN (ts.getD k1 []) (m : Int) (n : Int) = y1 at *
    generalize (wr.alloc (.cells #[.int .i64 (m : Int), .int .i64 (n : Int)] 234)) = W7 at *
    generalize hE : wr.heap.size = E at *
    refine Reg5.wp_region_mix (m := 17) (C := fun w' => Below W7.heap.size W7 w') (D := fun w' => Below w5.heap.size w5 w') (G := fun w1 w2 => Below w1.heap.size w1 w2) (G' := fun w1 w2 => w2 = w1)
     (R := fun i v w' => match i with
      | 0 => v = u5
      | 1 => v = .pointer (some ⟨E, 0, none⟩)
      | 2 => v = .int .i64 (m : Int)
      | 3 => v = .pointer (some ⟨E, 1, none⟩)
      | 4 => v = .int .i64 (n : Int)
      | 5 => v = .func (.func 184) #[] #[.pointer (some ⟨tb, 0, none⟩), .pointer (some ⟨E, 0, none⟩)]
      | 6 => v = .slice (some ⟨lg2, 0, none⟩) 2 lc
      | 7 => v = .pointer (some ⟨lg2, 0, none⟩)
      | 8 => v = .int .i64 (k0 : Int)
      | 9 => v = .int .i64 y0
      | 10 => v = .func (.func 184) #[] #[.pointer (some ⟨tb, 0, none⟩), .pointer (some ⟨E, 0, none⟩)]
      | 11 => v = .slice (some ⟨lg2, 0, none⟩) 2 lc
      | 12 => v = .pointer (some ⟨lg2, 1, none⟩)
      | 13 => v = .int .i64 (k1 : Int)
      | 14 => v = .int .i64 y1
      | 15 => v = .agg #[.int .i64 (m : Int), .int .i64 (n : Int), .int .i64 y0, .int .i64 y1]
      | 16 => ∃ g, v = .slice (some ⟨g, 0, none⟩) 1 1 ∧ (w'.cell? ⟨g, 0, none⟩ = some (.int .i64 (m : Int)) ∧ w'.cell? ⟨g, 1, none⟩ = some (.int .i64 (n : Int)) ∧ w'.cell? ⟨g, 2, none⟩ = some (.int .i64 y0) ∧ w'.cell? ⟨g, 3, none⟩ = some (.int .i64 y1))
      | 17 => w'.ownsRow w5.heap.size 196 4 v (hgK ts ps (k + 1)).length (flatH (hgK ts ps (k + 1)))
      | 18 => w'.ownsRow w5.heap.size 196 4 v (hgK ts ps (k + 1)).length (flatH (hgK ts ps (k + 1)))
      | _ => True) (T := fun _ _ _ => True) [false, false, false, false, false, true, false, false, false, false, false, false, false, false, false, false, false, false, false, false, false, false, false, false, false, false, false, false, true, true, true, true, true, true, true, true, true, true, true, true, true, true, true, true, true, true, false, false]
     (by kernel_rfl) (by kernel_rfl) (by kernel_rfl) (by kernel_rfl) ?_ ?_ (below_drewN (Below.refl _ _) 1) ?_ ?_
    ·intro j v wa wb hjm _ hG hR
     match j with
     | 0 => exact hR
     | 1 => exact hR
     | 2 => exact hR
     | 3 => exact hR
     | 4 => exact hR
     | 5 => exact hR
     | 6 => exact hR
     | 7 => exact hR
     | 8 => exact hR
     | 9 => exact hR
     | 10 => exact hR
     | 11 => exact hR
     | 12 => exact hR
     | 13 => exact hR
     | 14 => exact hR
     | 15 => exact hR
     | 16 => obtain ⟨g, e, h0, h1, h2, h3⟩ := hR; exact ⟨g, e, cell_below hG h0, cell_below hG h1, cell_below hG h2, cell_below hG h3⟩
     | j + 17 => exact absurd hjm (by omega)
    ·intro j v wa wb _ _ hG hR
     rw [hG]; exact hR
    ·refine ⟨?_, ?_, ?_, ?_, ?_, ?_, ?_, ?_, ?_, ?_, ?_, ?_, ?_, ?_, ?_, ?_, ?_, ?_, ?_, trivial⟩
     ·refine Reg5.Obl.early rfl rfl ?_
      rintro av wq HC hx hd K hK
      replace HC := Lib.hid HC
      have t5 : av.tmps[5]?.getD undef = u5 := Reg.slot_val (hx 5 (by kernel_rfl))
      go_simp
      exact hK _ _ rfl HC.out (Below.refl _ _)
     ·refine Reg5.Obl.early rfl rfl ?_
      rintro av wq HC hx hd K hK
      replace HC := Lib.hid HC
      have t7 : av.tmps[7]?.getD undef = .pointer (some ⟨E, 0, none⟩) := Reg.slot_val (hx 7 (by kernel_rfl))
      go_simp
      exact hK _ _ rfl HC.out (Below.refl _ _)
     ·refine Reg5.Obl.early rfl rfl ?_
      rintro av wq HC hx hd K hK
      replace HC := Lib.hid HC
      have t29 : av.tmps[29]?.getD undef = .pointer (some ⟨E, 0, none⟩) := Reg.slot_val (hd 1 (by kernel_rfl) 29 rfl)
      have q0 := cell_below HC.out X01.out.1
      go_simp
      exact hK _ _ rfl HC.out (Below.refl _ _)
     ·refine Reg5.Obl.early rfl rfl ?_
      rintro av wq HC hx hd K hK
      replace HC := Lib.hid HC
      have t7 : av.tmps[7]?.getD undef = .pointer (some ⟨E, 0, none⟩) := Reg.slot_val (hx 7 (by kernel_rfl))
      go_simp
      exact hK _ _ rfl HC.out (Below.refl _ _)
     ·refine Reg5.Obl.early rfl rfl ?_
      rintro av wq HC hx hd K hK
      replace HC := Lib.hid HC
      have t31 : av.tmps[31]?.getD undef = .pointer (some ⟨E, 1, none⟩) := Reg.slot_val (hd 3 (by kernel_rfl) 31 rfl)
      have q1 := cell_below HC.out X01.out.2
      go_simp
      exact hK _ _ rfl HC.out (Below.refl _ _)
     ·refine Reg5.Obl.early rfl rfl ?_
      rintro av wq HC hx hd K hK
      replace HC := Lib.hid HC
      have t8 : av.tmps[8]?.getD undef = .func (.func 184) #[] #[.pointer (some ⟨tb, 0, none⟩), .pointer (some ⟨E, 0, none⟩)] := Reg.slot_val (hx 8 (by kernel_rfl))
      go_simp
      exact hK _ _ rfl HC.out (Below.refl _ _)
     ·refine Reg5.Obl.early rfl rfl ?_
      rintro av wq HC hx hd K hK
      replace HC := Lib.hid HC
      have t9 : av.tmps[9]?.getD undef = .slice (some ⟨lg2, 0, none⟩) 2 lc := Reg.slot_val (hx 9 (by kernel_rfl))
      go_simp
      exact hK _ _ rfl HC.out (Below.refl _ _)
     ·refine Reg5.Obl.early rfl rfl ?_
      rintro av wq HC hx hd K hK
      replace HC := Lib.hid HC
      have t34 : av.tmps[34]?.getD undef = .slice (some ⟨lg2, 0, none⟩) 2 lc := Reg.slot_val (hd 6 (by kernel_rfl) 34 rfl)
      go_simp
      exact hK _ _ rfl HC.out (Below.refl _ _)
     ·refine Reg5.Obl.early rfl rfl ?_
      rintro av wq HC hx hd K hK
      replace HC := Lib.hid HC
      have t35 : av.tmps[35]?.getD undef = .pointer (some ⟨lg2, 0, none⟩) := Reg.slot_val (hd 7 (by kernel_rfl) 35 rfl)
      have q0 := cell_below HC.out L01.out.1
      go_simp
      exact hK _ _ rfl HC.out (Below.refl _ _)
     ·refine Reg5.Obl.early rfl rfl ?_
      rintro av wq HC hx hd K hK
      replace HC := Lib.hid HC
      have t33 : av.tmps[33]?.getD undef = .func (.func 184) #[] #[.pointer (some ⟨tb, 0, none⟩), .pointer (some ⟨E, 0, none⟩)] := Reg.slot_val (hd 5 (by kernel_rfl) 33 rfl)
      have t36 : av.tmps[36]?.getD undef = .int .i64 (k0 : Int) := Reg.slot_val (hd 8 (by kernel_rfl) 36 rfl)
      go_simp
      refine (HCL0.out wq HC.out).mono ?_
      rintro en w9 ⟨rfl, hB9⟩
      exact hK _ _ rfl (HC.out.trans (hB9.mono HC.out.size)) hB9
     ·refine Reg5.Obl.early rfl rfl ?_
      rintro av wq HC hx hd K hK
      replace HC := Lib.hid HC
      have t8 : av.tmps[8]?.getD undef = .func (.func 184) #[] #[.pointer (some ⟨tb, 0, none⟩), .pointer (some ⟨E, 0, none⟩)] := Reg.slot_val (hx 8 (by kernel_rfl))
      go_simp
      exact hK _ _ rfl HC.out (Below.refl _ _)
     ·refine Reg5.Obl.early rfl rfl ?_
      rintro av wq HC hx hd K hK
      replace HC := Lib.hid HC
      have t9 : av.tmps[9]?.getD undef = .slice (some ⟨lg2, 0, none⟩) 2 lc := Reg.slot_val (hx 9 (by kernel_rfl))
      go_simp
      exact hK _ _ rfl HC.out (Below.refl _ _)
     ·refine Reg5.Obl.early rfl rfl ?_
      rintro av wq HC hx hd K hK
      replace HC := Lib.hid HC
      have t39 : av.tmps[39]?.getD undef = .slice (some ⟨lg2, 0, none⟩) 2 lc := Reg.slot_val (hd 11 (by kernel_rfl) 39 rfl)
      go_simp
      exact hK _ _ rfl HC.out (Below.refl _ _)
     ·refine Reg5.Obl.early rfl rfl ?_
      rintro av wq HC hx hd K hK
      replace HC := Lib.hid HC
      have t40 : av.tmps[40]?.getD undef = .pointer (some ⟨lg2, 1, none⟩) := Reg.slot_val (hd 12 (by kernel_rfl) 40 rfl)
      have q0 := cell_below HC.out L01.out.2
      go_simp
      exact hK _ _ rfl HC.out (Below.refl _ _)
     ·refine Reg5.Obl.early rfl rfl ?_
      rintro av wq HC hx hd K hK
      replace HC := Lib.hid HC
      have t38 : av.tmps[38]?.getD undef = .func (.func 184) #[] #[.pointer (some ⟨tb, 0, none⟩), .pointer (some ⟨E, 0, none⟩)] := Reg.slot_val (hd 10 (by kernel_rfl) 38 rfl)
      have t41 : av.tmps[41]?.getD undef = .int .i64 (k1 : Int) := Reg.slot_val (hd 13 (by kernel_rfl) 41 rfl)
      go_simp
      refine (HCL1.out wq HC.out).mono ?_
      rintro en w9 ⟨rfl, hB9⟩
      exact hK _ _ rfl (HC.out.trans (hB9.mono HC.out.size)) hB9
     ·refine Reg5.Obl.early rfl rfl ?_
      rintro av wq HC hx hd K hK
      replace HC := Lib.hid HC
      have t30 : av.tmps[30]?.getD undef = .int .i64 (m : Int) := Reg.slot_val (hd 2 (by kernel_rfl) 30 rfl)
      have t32 : av.tmps[32]?.getD undef = .int .i64 (n : Int) := Reg.slot_val (hd 4 (by kernel_rfl) 32 rfl)
      have t37 : av.tmps[37]?.getD undef = .int .i64 y0 := Reg.slot_val (hd 9 (by kernel_rfl) 37 rfl)
      have t42 : av.tmps[42]?.getD undef = .int .i64 y1 := Reg.slot_val (hd 14 (by kernel_rfl) 42 rfl)
      go_simp
      exact hK _ _ rfl HC.out (Below.refl _ _)
     ·refine Reg5.Obl.early rfl rfl ?_
      rintro av wq HC hx hd K hK
      replace HC := Lib.hid HC
      have t43 : av.tmps[43]?.getD undef = .agg #[.int .i64 (m : Int), .int .i64 (n : Int), .int .i64 y0, .int .i64 y1] := Reg.slot_val (hd 15 (by kernel_rfl) 43 rfl)
      go_simp
      exact hK _ _ ⟨wq.heap.size, rfl, by simp, by simp, by simp, by simp⟩ (HC.out.alloc HC.out.size _) ((Below.refl _ _).alloc (Nat.le_refl _) _)
     ·refine Reg5.Obl.mid rfl rfl ?_
      rintro av wq hC hx hd K hK
      have t28 : av.eval (.tmp 28) = u5 := hd 0 (by kernel_rfl) 28 rfl
      obtain ⟨b, t44, c0', c1', c2', c3'⟩ := hd 16 (by kernel_rfl) 44 rfl
      have hBw : Below w5.heap.size w5 wq := HBW.out.trans (hC.mono HBW.out.size)
      have hbx := HBX.out
      rw [← hE] at hbx
      have hr := owns_up HO1.out (hbx.trans (hC.mono hbx.size))
      have hkl := HKL.out
      have hsz5 := hBw.size
      refine wp_append_own wq _ _ 193 rfl w5.heap.size 196 i0 (.agg #[.int .i64 0, .int .i64 0, .int .i64 0, .int .i64 0]) 4 32 Tryz.underlying193 hi hz0 hz1 hz2 rfl (by decide) u5 _ _ t28 hr ⟨b, 0, none⟩ 1 1 [.int .i64 (m : Int), .int .i64 (n : Int), .int .i64 y0, .int .i64 y1] t44 rfl (fun j u' hj => ?_) (fun u' hu' => ?_) (by unfold maxLen; omega) (by omega) hsz5 ?_
      ·match j, hj with
       | 0, hj => simp at hj; subst hj; rw [addr_add']; exact c0'
       | 1, hj => simp at hj; subst hj; rw [addr_add']; exact c1'
       | 2, hj => simp at hj; subst hj; rw [addr_add']; exact c2'
       | 3, hj => simp at hj; subst hj; rw [addr_add']; exact c3'
       | j + 4, hj => simp at hj
      ·simp at hu'; rcases hu' with rfl | rfl | rfl | rfl <;> rfl
      ·intro v' w2' ho hg _
       refine hK _ _ ?_ (hBw.grown hg hsz5 (fun q hq => (hr.lt q hq).1))
       show w2'.ownsRow w5.heap.size 196 4 v' (hgK ts ps (k + 1)).length (flatH (hgK ts ps (k + 1)))
       rw [HKY.out, flatH_snoc, List.length_append]
       exact ho
     ·refine Reg5.Obl.late rfl ?_
      rintro av wq hD1 hx hd K hK
      have HC := Lib.hid hD1; clear hD1
      have g := hd 17 (by kernel_rfl) (by omega) 45 rfl
      obtain ⟨u, hu⟩ : ∃ u, u = av.eval (.tmp 45) := ⟨_, rfl⟩
      have t45 : av.tmps[45]?.getD undef = u := Reg.slot_val hu.symm
      have g' : wq.ownsRow w5.heap.size 196 4 u (hgK ts ps (k + 1)).length (flatH (hgK ts ps (k + 1))) := by rw [hu]; exact g
      have G := Lib.hid g'
      clear g hu g'
      go_simp
      exact hK _ _ (fun _ => G.out) (fun h => by cases h) (fun _ => HC.out) (fun _ => rfl)
    ·rintro f wz hDR hT
     obtain ⟨hDD, hR⟩ := hDR (by decide)
     have g5 := hR 18 5 (by omega) rfl
     clear hDR
     have HG := Lib.hid g5
     have HDD := Lib.hid hDD
     clear g5 hDD hR hT
     simp only [Reg.mixL, Nat.zero_add, Nat.reduceAdd]
     go_wp2
     go_roundw
     case rel => exact ⟨k + 1, by omega, by go_num, HG.out, HDD.out⟩
     case measure => simp [intOf]; omega
   ·have h4' : ((sz : Int) == 2) = false := beq_eq_false_iff_ne.2 (by omega)
    have HKY : Hid (hgK ts ps (k + 1) = hgK ts ps k) := Lib.hid (by rw [HK.out, decide_eq_false h4]; simp)
    clear HLO
    go_wp2
    go_roundw
    case rel => exact ⟨k + 1, by omega, by go_num, by rw [HKY.out]; exact owns_up HO1.out HBX.out, HBW.out⟩
    case measure => simp [intOf]; omega
  ·obtain rfl : k = ps.length := by omega
   have HOF := Lib.hid (owns_low HO1.out HB5.out.size)
   have HBF := Lib.hid (HB5.out.trans (HB1.out.mono HB5.out.size))
   clear hA hO hB
   go_wp2
   go_ret
   exact ⟨_, rfl, HOF.out, HBF.out⟩
end Go.Proofs.YtabccmobmppdnaaGreat
namespace Go.Proofs.YtabccmobmppdnaaGreat
open Go Fk Go.RowKit
set_option linter.unusedVariables false
set_option maxRecDepth 8000
end Go.Proofs.YtabccmobmppdnaaGreat
namespace Go.Proofs.YtabccmobmppdnaaGreat
open Go Fk Go.RowKit
set_option linter.unusedVariables false
set_option maxRecDepth 16000
end Go.Proofs.YtabccmobmppdnaaGreat
namespace Go.Proofs.YtabccmobmppdnaaGreat
open Go Fk Go.RowKit
set_option linter.unusedVariables false
set_option maxRecDepth 8000
theorem owns_apart {w : World} {b1 b2 : Nat} {e1 e2 : TypeId} {s1 s2 n1 n2 c1 c2 : Nat} {a1 a2 : Option Addr} {x1 x2 : List Value} (h1 : w.ownsRow b1 e1 s1 (.slice a1 n1 c1) n1 x1) (h2 : w.ownsRow b2 e2 s2 (.slice a2 n2 c2) n2 x2) (he : e1 ≠ e2) : ∀ P R, a1 = some P → a2 = some R → P.block ≠ R.block := by
 intro P R hP hR hb
 subst hP
 subst hR
 rcases h1.2 with ⟨e, _⟩ | ⟨g, cap, cur, e, _, hh, _⟩
 ·cases e
 rcases h2.2 with ⟨e', _⟩ | ⟨g', cap', cur', e', _, hh', _⟩
 ·cases e'
 cases e
 cases e'
 have hb' : g = g' := hb
 subst hb'
 rw [hh] at hh'
 cases hh'
 exact he rfl
end Go.Proofs.YtabccmobmppdnaaGreat
namespace Go.Proofs.YtabccmobmppdnaaGreat
open Go Fk Go.RowKit
set_option linter.unusedVariables false
set_option maxRecDepth 8000
end Go.Proofs.YtabccmobmppdnaaGreat
namespace Go.Proofs.YtabccmobmppdnaaGreat
open Go Fk Go.RowKit
set_option linter.unusedVariables false
set_option maxRecDepth 8000
set_option maxHeartbeats 4000000 in
theorem l03Is (pb : Nat) (B : Bd) (c : Bc) (w : World) (A : At w pb B.l) (h : IsB w B c) :
  Calls Tryz.prog 99 #[.pointer (some ⟨pb, 0, none⟩)] w fun e w' => e = .returned (.bool (bodyB c)) ∧ ∃ n, w' = w.drewN n := by
 have ui := Tryz.underlying44
 have um := Tryz.underlying40
 have us := Tryz.underlying166
 obtain ⟨lp, lt, ls, lw⟩ := h.lens
 have hpm : B.pl ≤ 9223372036854775807 := by have h1 := h.1.2.1; have h2 := h.1.2.2.1; unfold maxLen at h2; omega
 have hJ := fun n => l02Is pb B.pa B.ta B.pl B.pc B.tl B.tc c.cs c.ts (w.drewN n) (A 0 _ rfl) (A 1 _ rfl) (h.1.drew rfl) (h.2.1.drew rfl)
 have k0 := A 0 _ rfl
 have k1 := A 1 _ rfl
 have k2 := A 2 _ rfl
 have k5 := A 5 _ rfl
 have LS := Lib.hid ls
 have H := Lib.hid h
 have HA := Lib.hid A
 unfold bodyB
 rw [ls, lw, lp]
 clear h A lp lt lw ls
 cases hv : validB c.cs c.ts
 ·simp only [hv] at hJ
  have HJ := Lib.hid hJ
  clear hJ hv
  by_cases h1 : B.sl ≤ 200
  ·have g1 : ¬ (200 : Int) < B.sl := by omega
   by_cases h2 : B.wl = B.pl
   ·have g2 : ((B.wl : Int) == (B.pl : Int)) = true := by simp [h2]
    have g2' : ((B.wl : Int) != (B.pl : Int)) = false := by simp [h2]
    clear h2
    go_enter Tryz.func99, Tryz.ntmps99
    go_wp2_with fail
    go_quiet ((go_at_call 148; exact Calls.quiet_of (HJ.out _)))
    go_wp2
    go_ret
    exact ⟨rfl, _, rfl⟩
   ·have g2 : ((B.wl : Int) == (B.pl : Int)) = false := beq_eq_false_iff_ne.2 (by omega)
    have g2' : ((B.wl : Int) != (B.pl : Int)) = true := by simp; omega
    clear h2
    go_enter Tryz.func99, Tryz.ntmps99
    go_wp2_with fail
    go_quiet ((go_at_call 148; exact Calls.quiet_of (HJ.out _)))
    go_wp2
    go_ret
    exact ⟨rfl, _, rfl⟩
  ·have g1 : (200 : Int) < B.sl := by omega
   go_enter Tryz.func99, Tryz.ntmps99
   go_wp2_with fail
   go_quiet ((go_at_call 148; exact Calls.quiet_of (HJ.out _)))
   go_wp2
   go_ret
   exact ⟨rfl, _, rfl⟩
 ·simp only [hv] at hJ
  have HJ := Lib.hid hJ
  clear hJ hv
  by_cases h1 : B.sl ≤ 200
  ·have g1 : ¬ (200 : Int) < B.sl := by omega
   rw [decide_eq_true h1]
   by_cases h2 : B.wl = B.pl
   ·have g2 : ((B.wl : Int) == (B.pl : Int)) = true := by simp [h2]
    have g2' : ((B.wl : Int) != (B.pl : Int)) = false := by simp [h2]
    rw [decide_eq_true h2]
    clear h2
    go_enter Tryz.func99, Tryz.ntmps99
    go_wp2_with fail
    go_quiet ((go_at_call 148; exact Calls.quiet_of (HJ.out _)))
    go_wp2
    have hm : B.sl ≤ 9223372036854775807 := by omega
    go_loopw [36] (fun i w' => ∃ k : Nat, k ≤ B.sl ∧ i = .int .i64 k ∧ Aside (∀ j, j < k → springB B.pl (c.ss.getD j s0) = true) ∧ ∃ n, w' = w.drewN n) (fun i _ => B.sl - (intOf i).toNat)
    case atStart => exact ⟨0, Nat.zero_le _, rfl, (fun j hj => absurd hj (by omega)), _, rfl⟩
    case round =>
     obtain ⟨k, hk, rfl, hall, n, hw⟩ := hrel
     have c0' : wr.cell? ⟨pb, 0, none⟩ = some (.slice B.pa B.pl B.pc) := by rw [hw]; exact k0
     have c2' : wr.cell? ⟨pb, 2, none⟩ = some (.slice B.sa B.sl B.sc) := by rw [hw]; exact k2
     clear k0 k1 k2 k5
     by_cases hlt : k < B.sl
     ·obtain ⟨b, o, hsa, hcell⟩ := H.out.2.2.1.some (by omega)
      obtain ⟨p, q, d0, d1, d2, d3, fp, fq⟩ := hcell k hlt
      have hJ := fun m => l03Spring b (o + k * 4) (c.ss.getD k s0).1 (c.ss.getD k s0).2.1 p B.pl (c.ss.getD k s0).2.2.1 (c.ss.getD k s0).2.2.2 (wr.drewN m) (by rw [hw]; exact d0) (by rw [hw]; exact d1) (by rw [hw]; exact d2) fp (by omega)
      have hsp : springB B.pl ((c.ss.getD k s0).1, (c.ss.getD k s0).2.1, (c.ss.getD k s0).2.2.1, (c.ss.getD k s0).2.2.2) = springB B.pl (c.ss.getD k s0) := rfl
      rw [hsp] at hJ
      have hk0 : (0 : Int) ≤ (k : Int) := by omega
      have hk1 : (k : Int) < (B.sl : Int) := by omega
      rw [hsa] at c2' 
      have HW := Lib.hid hw
      clear hcell hsp hsa fp fq d0 d1 d2 d3 hw
      cases hb : springB B.pl (c.ss.getD k s0)
      ·have hres : Aside ((true && true && true && c.ss.all (springB B.pl)) = false) := by show (true && true && true && c.ss.all (springB B.pl)) = false; rw [ss_not (by rw [LS.out]; exact hlt) hb]; rfl
       rw [hb] at hJ
       have HJ2 := Lib.hid hJ
       clear hJ hall hb
       go_wp2_with fail
       go_quiet ((go_at_call 149; exact Calls.quiet_of (HJ2.out _)))
       go_wp2
       go_ret
       exact ⟨ret_bool hres.out.symm, drewn_end HW.out⟩
      ·have hall' : Aside (∀ j, j < k + 1 → springB B.pl (c.ss.getD j s0) = true) := by
        intro j hj
        by_cases hjk : j = k
        ·subst hjk; exact hb
        ·exact hall.out j (by omega)
       rw [hb] at hJ
       have HJ2 := Lib.hid hJ
       clear hJ hall hb
       go_wp2_with fail
       go_quiet ((go_at_call 149; exact Calls.quiet_of (HJ2.out _)))
       go_wp2
       go_roundw
       case rel => exact ⟨k + 1, by omega, by go_num, hall', drewn_end HW.out⟩
       case measure => simp [intOf]; omega
     ·have hkl : k = B.sl := by omega
      have hres : Aside ((true && true && true && c.ss.all (springB B.pl)) = true) := by show (true && true && true && c.ss.all (springB B.pl)) = true; rw [ss_all (by rw [LS.out, ← hkl]; exact hall.out)]; rfl
      have g3 : ¬ (k : Int) < (B.sl : Int) := by omega
      have HW := Lib.hid hw
      clear hall hkl hw
      go_wp2
      go_ret
      exact ⟨ret_bool hres.out.symm, n, HW.out⟩
   ·have g2 : ((B.wl : Int) == (B.pl : Int)) = false := beq_eq_false_iff_ne.2 (by omega)
    have g2' : ((B.wl : Int) != (B.pl : Int)) = true := by simp; omega
    rw [decide_eq_false h2]
    clear h2
    go_enter Tryz.func99, Tryz.ntmps99
    go_wp2_with fail
    go_quiet ((go_at_call 148; exact Calls.quiet_of (HJ.out _)))
    go_wp2
    go_ret
    exact ⟨rfl, _, rfl⟩
  ·have g1 : (200 : Int) < B.sl := by omega
   rw [decide_eq_false h1]
   go_enter Tryz.func99, Tryz.ntmps99
   go_wp2_with fail
   go_quiet ((go_at_call 148; exact Calls.quiet_of (HJ.out _)))
   go_wp2
   go_ret
   exact ⟨rfl, _, rfl⟩
end Go.Proofs.YtabccmobmppdnaaGreat
namespace Go.Proofs.YtabccmobmppdnaaGreat
open Go Fk Go.RowKit
set_option linter.unusedVariables false
set_option maxRecDepth 8000
end Go.Proofs.YtabccmobmppdnaaGreat
namespace Go.Proofs.YtabccmobmppdnaaGreat
open Go Fk Go.RowKit
set_option linter.unusedVariables false
set_option maxRecDepth 8000
def movC (a b : C3) (d : Option Nat) : C3 := addC a (scaleC' b d)
def mkM (xs ys : List C3) (d : Option Nat) (n k : Nat) : List C3 := (List.range n).map fun j => if j < k then movC (xs.getD j c0) (ys.getD j c0) d else z3
theorem mkM_len (xs ys : List C3) (d : Option Nat) (n k : Nat) : (mkM xs ys d n k).length = n := by simp [mkM]
theorem mkM_zero (xs ys : List C3) (d : Option Nat) (n : Nat) : mkM xs ys d n 0 = List.replicate n z3 := by
 apply List.ext_getElem (by simp [mkM])
 intro i h1 h2
 simp [mkM]
theorem mkM_set {xs ys : List C3} {d : Option Nat} {n k : Nat} (hk : k < n) : (mkM xs ys d n k).set k (movC (xs.getD k c0) (ys.getD k c0) d) = mkM xs ys d n (k + 1) := by
 apply List.ext_getElem (by simp [mkM])
 intro i h1 h2
 simp only [mkM, List.getElem_set, List.getElem_map, List.getElem_range]
 by_cases hik : k = i
 ·subst hik; simp
 ·rw [if_neg hik]
  by_cases h : i < k
  ·rw [if_pos h, if_pos (by omega)]
  ·rw [if_neg h, if_neg (by omega)]
def put3 (w : World) (g k p q r : Nat) : World := ((w.setCell ⟨g, k * 3, none⟩ (.float .f32 p)).setCell ⟨g, k * 3 + 1, none⟩ (.float .f32 q)).setCell ⟨g, k * 3 + 2, none⟩ (.float .f32 r)
set_option maxHeartbeats 4000000 in
theorem impl_addScaled (a b : Option Addr) (n cap cap' : Nat) (xs ys : List C3) (x : Nat) (d : Option Nat) (w : World) (h : IsVs w a n cap xs) (h' : IsVs w b n cap' ys) (hx : FV .f32 x d) (hn : n ≤ 1048576) :
  Calls Tryz.prog 94 #[.slice a n cap, .slice b n cap', .float .f32 x] w fun e w' => ∃ g, e = .returned (.slice (some ⟨g, 0, none⟩) n n) ∧ OwnVs w' g (mkM xs ys d n n) ∧ w.heap.size ≤ g ∧ Below w.heap.size w w' := by
 have uv := Tryz.underlying42
 have u := Tryz.underlying27
 have hm : n ≤ 9223372036854775807 := by omega
 have hmk := make_vecs w n hn
 have hO0 : OwnVs (w.alloc (.cells (madeCells #[.float .f32 0, .float .f32 0, .float .f32 0] (n * 3)) 42)) w.heap.size (mkM xs ys d n 0) := by rw [mkM_zero]; exact OwnVs.made hn
 have O0 := Lib.hid hO0
 have B0 : Hid (Below w.heap.size w (w.alloc (.cells (madeCells #[.float .f32 0, .float .f32 0, .float .f32 0] (n * 3)) 42))) := Lib.hid ((Below.refl _ _).alloc (Nat.le_refl _) _)
 have H := Lib.hid h
 have H' := Lib.hid h'
 have HX := Lib.hid hx
 clear h h' hx hO0
 go_enter Tryz.func94, Tryz.ntmps94
 go_wp2
 generalize (w.alloc (.cells (madeCells #[.float .f32 0, .float .f32 0, .float .f32 0] (n * 3)) 42)) = W0 at *
 obtain ⟨g, hg⟩ : ∃ g, g = w.heap.size := ⟨_, rfl⟩
 rw [← hg] at O0 ⊢
 have HGS := Lib.hid hg
 clear hg hmk
 go_loopw [15] (fun i w' => ∃ k : Nat, k ≤ n ∧ i = .int .i64 k ∧ Aside (OwnVs w' g (mkM xs ys d n k) ∧ Below w.heap.size w w')) (fun i _ => n - (intOf i).toNat)
 case atStart => exact ⟨0, Nat.zero_le _, rfl, O0.out, B0.out⟩
 case round =>
  obtain ⟨k, hk, rfl, hA⟩ := hrel
  have OK := Lib.hid hA.out.1
  have BK := Lib.hid hA.out.2
  clear hA
  by_cases hlt : k < n
  ·obtain ⟨b1, o1, rfl, hcell1⟩ := (H.out.below BK.out).some (by omega)
   obtain ⟨b2, o2, rfl, hcell2⟩ := (H'.out.below BK.out).some (by omega)
   obtain ⟨p, q, t, c0', c1', c2', e0, e1, e2⟩ := hcell1 k hlt
   obtain ⟨p', q', t', d0', d1', d2', g0, g1, g2⟩ := hcell2 k hlt
   have hk0 : (0 : Int) ≤ (k : Int) := by omega
   have hk1 : (k : Int) < (n : Int) := by omega
   have HSN := Lib.hid (mkM_set (xs := xs) (ys := ys) (d := d) hlt)
   have FA := Lib.hid (And.intro e0 (And.intro e1 e2))
   have FB := Lib.hid (And.intro g0 (And.intro g1 g2))
   clear hcell1 hcell2 e0 e1 e2 g0 g1 g2
   go_wp2_with fail
   have hG : Below wr.heap.size wr (wr.alloc (.cells #[.float .f32 p, .float .f32 q, .float .f32 t] 42)) := (Below.refl _ _).alloc (Nat.le_refl _) _
   have V : Hid (V3 (wr.alloc (.cells #[.float .f32 p, .float .f32 q, .float .f32 t] 42)) wr.heap.size p q t) := Lib.hid V3.new
   have D0 := Lib.hid (And.intro (cell_below hG d0') (And.intro (cell_below hG d1') (cell_below hG d2')))
   have O1 := Lib.hid (OK.out.below hG)
   have B1 := Lib.hid (BK.out.trans (hG.mono BK.out.size))
   clear hG c0' c1' c2' d0' d1' d2'
   generalize (wr.alloc (.cells #[.float .f32 p, .float .f32 q, .float .f32 t] 42)) = W1 at *
   generalize wr.heap.size = BX at *
   refine Reg6.wp_region_mix (s := 11) (C := fun w' => Below W1.heap.size W1 w') (D := fun _ w' => ∃ wp y z v, Below W1.heap.size W1 wp ∧ F3 y z v (movC (xs.getD k c0) (ys.getD k c0) d) ∧ w' = put3 wp g k y z v) (G := fun w1 w2 => Below w1.heap.size w1 w2)
    (Rv := fun i v => match i with | 0 => v = .slice (some ⟨g, 0, none⟩) n n | 1 => v = .int .i64 k | 2 => v = vv p q t | 3 => v = .slice (some ⟨b2, o2, none⟩) n cap' | 4 => v = .int .i64 k | 5 => v = .pointer (some ⟨b2, o2 + k * 3, none⟩) | 6 => v = vv p' q' t' | 7 => v = .float .f32 x | 8 => ∃ y z u, v = vv y z u ∧ F3 y z u (scaleC' (ys.getD k c0) d) | 9 => ∃ y z u, v = vv y z u ∧ F3 y z u (movC (xs.getD k c0) (ys.getD k c0) d) | 10 => v = .pointer (some ⟨g, k * 3, none⟩) | _ => True)
    (Rw := fun _ _ _ => True) [false, false, false, false, false, false, false, false, false, false, false, false, false, false, false, false, false, false, false, false, true, true, true, true, true, true, true, true, true, true, true, false, false]
    (by kernel_rfl) (by kernel_rfl) (by kernel_rfl) (fun _ _ _ _ _ _ _ => trivial) (below_drewN (Below.refl _ _) 1) ?_ ?_
   ·refine ⟨?_, ?_, ?_, ?_, ?_, ?_, ?_, ?_, ?_, ?_, ?_, ?_, trivial⟩
    ·refine Reg6.Obl.early rfl (by kernel_rfl) ?_
     rintro a wq hC hx hd K hK
     have t7 : a.tmps[7]?.getD undef = .slice (some ⟨g, 0, none⟩) n n := Reg.slot_val (hx 7 (by kernel_rfl))
     go_simp
     exact hK _ _ rfl trivial hC (Below.refl _ _)
    ·refine Reg6.Obl.early rfl (by kernel_rfl) ?_
     rintro a wq hC hx hd K hK
     have t8 : a.tmps[8]?.getD undef = .int .i64 k := Reg.slot_val (hx 8 (by kernel_rfl))
     go_simp
     exact hK _ _ rfl trivial hC (Below.refl _ _)
    ·refine Reg6.Obl.early rfl (by kernel_rfl) ?_
     rintro a wq HC hx hd K hK
     replace HC := Lib.hid HC
     have t9 : a.tmps[9]?.getD undef = .pointer (some ⟨BX, 0, none⟩) := Reg.slot_val (hx 9 (by kernel_rfl))
     obtain ⟨⟨y0, y1, y2⟩, -⟩ := V.out.below HC.out
     go_simp
     exact hK _ _ rfl trivial HC.out (Below.refl _ _)
    ·refine Reg6.Obl.early rfl (by kernel_rfl) ?_
     rintro a wq hC hx hd K hK
     have t1 : a.tmps[1]?.getD undef = .slice (some ⟨b2, o2, none⟩) n cap' := Reg.slot_val (hx 1 (by kernel_rfl))
     go_simp
     exact hK _ _ rfl trivial hC (Below.refl _ _)
    ·refine Reg6.Obl.early rfl (by kernel_rfl) ?_
     rintro a wq hC hx hd K hK
     have t8 : a.tmps[8]?.getD undef = .int .i64 k := Reg.slot_val (hx 8 (by kernel_rfl))
     go_simp
     exact hK _ _ rfl trivial hC (Below.refl _ _)
    ·refine Reg6.Obl.early rfl (by kernel_rfl) ?_
     rintro a wq HC hx hd K hK
     replace HC := Lib.hid HC
     have t23 : a.tmps[23]?.getD undef = .slice (some ⟨b2, o2, none⟩) n cap' := Reg.slot_val (hd 3 23 (by kernel_rfl) rfl).1
     have t24 : a.tmps[24]?.getD undef = .int .i64 k := Reg.slot_val (hd 4 24 (by kernel_rfl) rfl).1
     go_simp
     exact hK _ _ rfl trivial HC.out (Below.refl _ _)
    ·refine Reg6.Obl.early rfl (by kernel_rfl) ?_
     rintro a wq HC hx hd K hK
     replace HC := Lib.hid HC
     have t25 : a.tmps[25]?.getD undef = .pointer (some ⟨b2, o2 + k * 3, none⟩) := Reg.slot_val (hd 5 25 (by kernel_rfl) rfl).1
     have y0 := cell_below HC.out D0.out.1
     have y1 := cell_below HC.out D0.out.2.1
     have y2 := cell_below HC.out D0.out.2.2
     go_simp
     exact hK _ _ rfl trivial HC.out (Below.refl _ _)
    ·refine Reg6.Obl.early rfl (by kernel_rfl) ?_
     rintro a wq hC hx hd K hK
     have t2 : a.tmps[2]?.getD undef = .float .f32 x := Reg.slot_val (hx 2 (by kernel_rfl))
     go_simp
     exact hK _ _ rfl trivial hC (Below.refl _ _)
    ·refine Reg6.Obl.early rfl (by kernel_rfl) ?_
     rintro a wq HC hx hd K hK
     replace HC := Lib.hid HC
     have t26 : a.tmps[26]?.getD undef = vv p' q' t' := Reg.slot_val (hd 6 26 (by kernel_rfl) rfl).1
     have t27 : a.tmps[27]?.getD undef = .float .f32 x := Reg.slot_val (hd 7 27 (by kernel_rfl) rfl).1
     go_simp
     refine (impl_ScaleVector _ _ _ _ _ _ _ _ _ FB.out.1 FB.out.2.1 FB.out.2.2 HX.out).mono ?_
     rintro en w2 ⟨y, z, u, rfl, f0, f1, f2, hB2⟩
     exact hK _ _ ⟨y, z, u, rfl, f0, f1, f2⟩ trivial (HC.out.trans (hB2.mono HC.out.size)) hB2
    ·refine Reg6.Obl.early rfl (by kernel_rfl) ?_
     rintro a wq HC hx hd K hK
     replace HC := Lib.hid HC
     have t22 : a.tmps[22]?.getD undef = vv p q t := Reg.slot_val (hd 2 22 (by kernel_rfl) rfl).1
     obtain ⟨y, z, u, g28, f28⟩ := (hd 8 28 (by kernel_rfl) rfl).1
     have t28 := Reg.slot_val g28
     have F28 := Lib.hid f28
     clear g28 f28
     go_simp
     refine (impl_AddVectors _ _ _ _ _ _ _ _ _ _ _ _ _ FA.out.1 FA.out.2.1 FA.out.2.2 F28.out.1 F28.out.2.1 F28.out.2.2).mono ?_
     rintro en w2 ⟨y', z', u', rfl, f0, f1, f2, hB2⟩
     exact hK _ _ ⟨y', z', u', rfl, f0, f1, f2⟩ trivial (HC.out.trans (hB2.mono HC.out.size)) hB2
    ·refine Reg6.Obl.early rfl (by kernel_rfl) ?_
     rintro a wq HC hx hd K hK
     replace HC := Lib.hid HC
     have t20 : a.tmps[20]?.getD undef = .slice (some ⟨g, 0, none⟩) n n := Reg.slot_val (hd 0 20 (by kernel_rfl) rfl).1
     have t21 : a.tmps[21]?.getD undef = .int .i64 k := Reg.slot_val (hd 1 21 (by kernel_rfl) rfl).1
     go_simp
     exact hK _ _ (by first | rfl | simp) trivial HC.out (Below.refl _ _)
    ·refine Reg6.Obl.store rfl ?_
     rintro a wq HC hx hd K hK
     replace HC := Lib.hid HC
     have t30 : a.tmps[30]?.getD undef = .pointer (some ⟨g, k * 3, none⟩) := Reg.slot_val (hd 10 30 (by kernel_rfl) rfl).1
     obtain ⟨y, z, v, g29, f29⟩ := (hd 9 29 (by kernel_rfl) rfl).1
     have t29 := Reg.slot_val g29
     have HP : Hid (∃ wp y' z' v', Below W1.heap.size W1 wp ∧ F3 y' z' v' (movC (xs.getD k c0) (ys.getD k c0) d) ∧ put3 wq g k y z v = put3 wp g k y' z' v') := Lib.hid ⟨wq, y, z, v, HC.out, f29, rfl⟩
     obtain ⟨p0, q0, r0, ⟨y0, y1, y2⟩, -⟩ := (O1.out.below HC.out).at (k := k) (by rw [mkM_len]; exact hlt)
     have f0 := (O1.out.below HC.out).2.1 (k * 3)
     have f1 := (O1.out.below HC.out).2.1 (k * 3 + 1)
     have f2 := (O1.out.below HC.out).2.1 (k * 3 + 2)
     clear g29 f29
     go_simp
     exact hK _ HP.out
   ·rintro f w2 hD hd
    obtain ⟨wp, y, z, v, hB, hF, rfl⟩ := hD
    simp only [Reg.mixL]
    have O2 := Lib.hid ((O1.out.below hB).put (k := k) (by rw [mkM_len]; exact hlt) hF)
    have B2 := Lib.hid (B1.out.trans (hB.mono B1.out.size))
    have B3 := Lib.hid (below_set3 (o1 := k * 3) (o2 := k * 3 + 1) (o3 := k * 3 + 2) (u := .float .f32 y) (v := .float .f32 z) (t := .float .f32 v) B2.out (show w.heap.size ≤ g by rw [HGS.out]; exact Nat.le_refl _))
    clear hB hF hd
    unfold put3
    go_wp2
    go_roundw
    case rel => exact ⟨k + 1, by omega, by go_num, by rw [← HSN.out]; exact O2.out, B3.out⟩
    case measure => simp [intOf]; omega
  ·obtain rfl : k = n := by omega
   go_wp2
   go_ret
   exact ⟨g, rfl, OK.out, by rw [HGS.out]; exact Nat.le_refl _, BK.out⟩
end Go.Proofs.YtabccmobmppdnaaGreat

/-
Texts in one: what RestOf stands on, part 23. Conditions: those of each.
-/
import Derived.Test.YtcgnmnbjgamedabGreatKRestOf22
import Derived.WalkKit
import Derived.BigQuiet

/-
The edges of a mesh, each with its triangles: what the program gathers. Conditions: the mesh is valid and lies in memory.
-/
namespace Go.Proofs.YtcgnmnbjgamedabGreat
open Go Fk Go.RowKit Go.Maps
open Go.ChangeShapes (lits)
set_option linter.unusedVariables false
set_option maxRecDepth 16000

def pairsT (t : List Int) (i : Nat) : List ((Int × Int) × Int) := (triE t).map fun e => (e, (i : Int))
def preI (ts : List (List Int)) (k j : Nat) : List ((Int × Int) × Int) := ((List.range k).flatMap fun i => pairsT (ts.getD i []) i) ++ (pairsT (ts.getD k []) k).take j
theorem preI_zero (ts : List (List Int)) : preI ts 0 0 = [] := by simp [preI]
theorem preI_next (ts : List (List Int)) (k : Nat) : preI ts k 3 = preI ts (k + 1) 0 := by
  unfold preI
  rw [List.range_succ, List.flatMap_append, List.flatMap_cons, List.flatMap_nil, List.append_nil, List.take_zero, List.append_nil]
  rfl
theorem preI_step {ts : List (List Int)} {k j : Nat} (hj : j < 3) : preI ts k (j + 1) = preI ts k j ++ [((triE (ts.getD k [])).getD j (0, 0), (k : Int))] := by
  match j, hj with
  | 0, _ => simp [preI, pairsT, triE]
  | 1, _ => simp [preI, pairsT, triE]
  | 2, _ => simp [preI, pairsT, triE]
set_option maxHeartbeats 8000000 in
theorem impl_edges (pa ta : Option Addr) (pl pc tl tc : Nat) (ts : List (List Int)) (w : World) (ht : IsTs w ta tl tc ts) (h3 : ∀ k, k < tl → (ts.getD k []).length = 3) (hin : ∀ k, k < tl → ∀ i, i < 3 → 0 ≤ (ts.getD k []).getD i 0 ∧ ((ts.getD k []).getD i 0).toNat < 64) (hlen : tl ≤ 128) :
    Calls Tryz.prog 121 #[.agg #[.slice pa pl pc, .slice ta tl tc]] w fun e w' => ∃ (B : Nat) (D : DataW Unit), e = .returned (.map (some B)) ∧ w.heap.size ≤ B ∧ w'.ownsGroups Tryz.prog 181 (B + 1) 2 .i64 B (3 * tl) D ∧ GroupsOf D (preI ts tl 0) ∧ Below w.heap.size w w' := by
  have ui := Tryz.underlying38
  have uc := Tryz.underlying137
  have us := Tryz.underlying207
  have ue := Tryz.underlying181
  obtain ⟨i0, hi, hz0, hz1, hz2⟩ := info_parts info64
  have htl := ht.1
  have hB0 : Below w.heap.size w (w.alloc (.cells #[.slice pa pl pc, .slice ta tl tc] 38)) := (Below.refl _ _).alloc (Nat.le_refl _) _
  have d0' : ((w.alloc (.cells #[.slice pa pl pc, .slice ta tl tc] 38)).alloc (.map #[] 0)).cell? ⟨w.heap.size, 0, none⟩ = some (.slice pa pl pc) := by go_simp
  have d1' : ((w.alloc (.cells #[.slice pa pl pc, .slice ta tl tc] 38)).alloc (.map #[] 0)).cell? ⟨w.heap.size, 1, none⟩ = some (.slice ta tl tc) := by go_simp
  have hBM : Below w.heap.size w ((w.alloc (.cells #[.slice pa pl pc, .slice ta tl tc] 38)).alloc (.map #[] 0)) := hB0.alloc hB0.size _
  have HBM := Lib.hid hBM
  have J2 := Lib.hid (all_cornersO pa ta pl pc tl tc ts ((w.alloc (.cells #[.slice pa pl pc, .slice ta tl tc] 38)).alloc (.map #[] 0)) (ht.below hBM) h3 hlen)
  have HO0 := Lib.hid (World.ownsGroups_made (H := Unit) (w.alloc (.cells #[.slice pa pl pc, .slice ta tl tc] 38)) Tryz.prog 181 2 .i64)
  have HV := Lib.hid hin
  rw [World.size_alloc] at HO0
  have hBle : w.heap.size ≤ w.heap.size + 1 := Nat.le_succ _
  have hBlt : w.heap.size + 1 < ((w.alloc (.cells #[.slice pa pl pc, .slice ta tl tc] 38)).alloc (.map #[] 0)).heap.size := by simp
  have hmm := @run_makeMap Tryz.prog
  have lt0 : w.heap.size < (w.alloc (.cells #[.slice pa pl pc, .slice ta tl tc] 38)).heap.size := by simp
  clear hB0 hBM ht hin h3
  go_enter Tryz.func121, Tryz.ntmps121
  go_wp2_with fail
  generalize ((w.alloc (.cells #[.slice pa pl pc, .slice ta tl tc] 38)).alloc (.map #[] 0)) = W at *
  clear d0' d1' lt0
  generalize w.heap.size + 1 = B at *
  refine J2.out.mono ?_
  rintro e V ⟨rfl, hC, hBV, hcV, _, hCB⟩
  generalize hcb : W.heap.size + 1 = cb at *
  have hne : cb ≠ B := by omega
  have HCO := Lib.hid (owns_of_cs hCB hC (Nat.le_refl cb) (by unfold maxLen; omega))
  have HOV := Lib.hid (groups_below HO0.out hBV)
  have HBV := Lib.hid (HBM.out.trans (hBV.mono HBM.out.size))
  clear hC hCB hBV hcV hcb HO0 HBM J2
  go_wp2
  go_loopw [12] (fun i w' => ∃ k : Nat, k ≤ tl ∧ i = .int .i64 k ∧ Aside (∃ D : DataW Unit, w'.ownsGroups Tryz.prog 181 (B + 1) 2 .i64 B (3 * k) D ∧ GroupsOf D (preI ts k 0) ∧ w'.ownsRow cb 137 3 (.slice (some ⟨cb, 0, none⟩) tl tl) tl (flatV ts tl) ∧ Below w.heap.size w w')) (fun i _ => tl - (intOf i).toNat)
  case atStart => exact ⟨0, Nat.zero_le _, rfl, _, HOV.out, by rw [preI_zero]; exact GroupsOf.nil, HCO.out, HBV.out⟩
  case round =>
    obtain ⟨k, hk, rfl, hA⟩ := hrel
    obtain ⟨D0, hO, hF, hCR, hB⟩ := hA.out
    by_cases hlt : k < tl
    · obtain ⟨c0, c1, c2⟩ := cs_of_owns hCR k hlt
      have hx := HV.out k hlt
      obtain ⟨p0, q0⟩ := hx 0 (by decide)
      obtain ⟨p1, q1⟩ := hx 1 (by decide)
      obtain ⟨p2, q2⟩ := hx 2 (by decide)
      generalize hx0 : (ts.getD k []).getD 0 0 = x0 at *
      generalize hx1 : (ts.getD k []).getD 1 0 = x1 at *
      generalize hx2 : (ts.getD k []).getD 2 0 = x2 at *
      have X0 := Lib.hid hx0
      have X1 := Lib.hid hx1
      have X2 := Lib.hid hx2
      have wk : (Lit.int .i64 (k : Int)).wf = true := WalkArith.wf_i64 (by omega)
      have hk0 : (0 : Int) ≤ (k : Int) := by omega
      have hk1 : (k : Int) < (tl : Int) := by omega
      have lcb : cb < wr.heap.size := (hCR.lt cb rfl).2
      have hBox : Below wr.heap.size wr (wr.alloc (.cells #[.int .i64 x0, .int .i64 x1, .int .i64 x2] 137)) := (Below.refl _ _).alloc (Nat.le_refl _) _
      have HO1 := Lib.hid (groups_below hO hBox)
      have HF := Lib.hid hF
      have HC1 := Lib.hid (owns_up hCR hBox)
      have HB0' := Lib.hid (hB.trans (hBox.mono hB.size))
      clear hA hO hF hCR hB hx hx0 hx1 hx2 hBox
      go_wp2_with (go_at_call 153; refine (impl_sides _ _ _ _).mono ?_; rintro e w3 ⟨rfl, hB3⟩; have HB3 := Lib.hid hB3; clear hB3)
      have HO2 := Lib.hid (groups_below HO1.out HB3.out)
      have HC2 := Lib.hid (owns_up HC1.out HB3.out)
      have HB2 := Lib.hid (HB0'.out.trans (HB3.out.mono HB0'.out.size))
      clear c0 c1 c2 lcb HO1 HC1 HB0' HB3
      go_loopw [19] (fun i w' => ∃ j : Nat, j ≤ 3 ∧ i = .int .i64 j ∧ Aside (∃ D : DataW Unit, w'.ownsGroups Tryz.prog 181 (B + 1) 2 .i64 B (3 * k + j) D ∧ GroupsOf D (preI ts k j) ∧ w'.ownsRow cb 137 3 (.slice (some ⟨cb, 0, none⟩) tl tl) tl (flatV ts tl) ∧ Below w.heap.size w w')) (fun i _ => 3 - (intOf i).toNat)
      case atStart => exact ⟨0, by omega, rfl, D0, HO2.out, HF.out, HC2.out, HB2.out⟩
      case round =>
        obtain ⟨j, hj, rfl, hA⟩ := hrel
        obtain ⟨D, hO, hF, hCR, hB⟩ := hA.out
        have HO := Lib.hid hO
        have HF := Lib.hid hF
        have HCR := Lib.hid hCR
        have HB1 := Lib.hid hB
        clear hA hO hF hCR hB HO2 HC2 HB2
        by_cases hlj : j < 3
        · obtain rfl | rfl | rfl : j = 0 ∨ j = 1 ∨ j = 2 := by omega
          · have hs : (triE (ts.getD k [])).getD 0 (0, 0) = (min x0 x1, max x0 x1) := by
              show eKey ((ts.getD k []).getD 0 0) ((ts.getD k []).getD 1 0) = _
              rw [X0.out, X1.out]; rfl
            have hix : ∀ w, (Instr.index 208 (.agg #[.int .i64 x0, .int .i64 x1, .int .i64 x1, .int .i64 x2, .int .i64 x2, .int .i64 x0]) (.int .i64 0)).run Tryz.prog w = .ok (.agg #[.int .i64 x0, .int .i64 x1]) w := side_ix x0 x1 x1 x2 x2 x0 0 (by decide)
            obtain ⟨p, hp⟩ : ∃ p, min x0 x1 = p := ⟨_, rfl⟩
            obtain ⟨q, hq⟩ : ∃ q, max x0 x1 = q := ⟨_, rfl⟩
            rw [hp, hq] at hs
            have wp : (Lit.int .i64 p).wf = true := WalkArith.wf_i64 (by omega)
            have wq : (Lit.int .i64 q).wf = true := WalkArith.wf_i64 (by omega)
            have HS := Lib.hid hs
            have HPQ := Lib.hid (And.intro hp hq)
            clear hs
            have HBX : Hid (Below wr.heap.size wr (wr.alloc (.cells #[.int .i64 x0, .int .i64 x1] 207))) := Lib.hid ((Below.refl _ _).alloc (Nat.le_refl _) _)
            have BX : Hid ((wr.alloc (.cells #[.int .i64 x0, .int .i64 x1] 207)).ownsRow wr.heap.size 207 2 (.slice (some ⟨wr.heap.size, 0, none⟩) 1 1) 1 [.int .i64 x0, .int .i64 x1]) := Lib.hid (by
              have := World.ownsRow_lit (base := wr.heap.size) (e := 207) (size := 2) wr #[.int .i64 x0, .int .i64 x1] 1 (Nat.le_refl _) (by decide) rfl
              simpa using this)
            have GR := Lib.hid (groups_below HO.out HBX.out)
            have hBw : B < wr.heap.size := by
              obtain ⟨es, clock, hb, _⟩ := HO.out
              exact (Array.getElem?_eq_some_iff.1 hb).1
            clear hp hq
            go_wp2_with fail
            have hp := HPQ.out.1
            have hq := HPQ.out.2
            refine Reg8.wp_region_mix (m := 9) (z := 10) (C := fun w' => Below (wr.alloc (.cells #[.int .i64 x0, .int .i64 x1] 207)).heap.size (wr.alloc (.cells #[.int .i64 x0, .int .i64 x1] 207)) w') (D := fun u w' => Ap (wr.alloc (.cells #[.int .i64 x0, .int .i64 x1] 207)) B (3 * k + 0) D (p, q) (grp (preI ts k 0) (p, q)) (k : Int) u w')
              (T := fun w' => w'.ownsGroups Tryz.prog 181 (B + 1) 2 .i64 B (3 * k + (0 + 1)) (D.put (kE (p, q)) (.slice (lits .i64 (grp (preI ts k 0) (p, q) ++ [(k : Int)])) [])) ∧ w'.ownsRow cb 137 3 (.slice (some ⟨cb, 0, none⟩) tl tl) tl (flatV ts tl) ∧ Below w.heap.size w w')
              (G := fun w1 w2 => Below w1.heap.size w1 w2)
              (Rv := fun i v => match i with | 0 => v = .map (some B) | 1 => v = .agg #[.int .i64 x0, .int .i64 x1] | 2 => v = .agg #[.int .i64 p, .int .i64 q] | 3 => v = .map (some B) | 4 => v = .agg #[.int .i64 x0, .int .i64 x1] | 5 => v = .agg #[.int .i64 p, .int .i64 q] | 7 => v = .int .i64 (k : Int) | _ => True)
              (Rw := fun i v w' => match i with | 6 => Lk B (3 * k + 0) D (p, q) (grp (preI ts k 0) (p, q)) v w' | 8 => ∃ g, v = .slice (some ⟨g, 0, none⟩) 1 1 ∧ w'.cell? ⟨g, 0, none⟩ = some (.int .i64 (k : Int)) | _ => True) [false, false, false, false, false, false, false, false, false, false, false, false, false, false, false, false, false, false, false, false, false, false, true, true, true, true, true, true, true, true, true, true, false, false, false]
              (by kernel_rfl) (by kernel_rfl) (by kernel_rfl) ?_ (below_drewN (Below.refl _ _) 1) ?_ ?_
            · intro j v w1 w2 hC hG hR
              match j with
              | 0 => trivial
              | 1 => trivial
              | 2 => trivial
              | 3 => trivial
              | 4 => trivial
              | 5 => trivial
              | 6 => exact hR.below hG
              | 7 => trivial
              | 8 => obtain ⟨g, e, hg⟩ := hR; exact ⟨g, e, cell_below hG hg⟩
              | _ + 9 => trivial
            · refine ⟨?_, ?_, ?_, ?_, ?_, ?_, ?_, ?_, ?_, ?_, ?_, trivial⟩
              · refine Reg8.Obl.any (by kernel_rfl) (by kernel_rfl) ?_ ?_
                · rintro a' w5 hC hx hd K hK
                  have HC := Lib.hid hC
                  clear hC
                  have t3 : a'.tmps[3]?.getD undef = .map (some B) := Reg.slot_val (hx 3 (by kernel_rfl))
                  go_simp
                  exact hK _ _ rfl trivial HC.out (Below.refl _ _)
                · rintro a' w5 u5 hD hx hd K hK
                  have HD := Lib.hid hD
                  clear hD
                  have t3 : a'.tmps[3]?.getD undef = .map (some B) := Reg.slot_val (hx 3 (by kernel_rfl))
                  go_simp
                  exact hK _ _ rfl HD.out
              · refine Reg8.Obl.any (by kernel_rfl) (by kernel_rfl) ?_ ?_
                · rintro a' w5 hC hx hd K hK
                  have HC := Lib.hid hC
                  clear hC
                  have t7 : a'.tmps[7]?.getD undef = .pointer (some ⟨wr.heap.size, 0, none⟩) := Reg.slot_val (hx 7 (by kernel_rfl))
                  have r5 := owns_up BX.out HC.out
                  have y0 := cell0_of r5
                  have y1 := cell1_of r5
                  clear r5
                  go_simp
                  exact hK _ _ rfl trivial HC.out (Below.refl _ _)
                · rintro a' w5 u5 hD hx hd K hK
                  have HD := Lib.hid hD
                  clear hD
                  have t7 : a'.tmps[7]?.getD undef = .pointer (some ⟨wr.heap.size, 0, none⟩) := Reg.slot_val (hx 7 (by kernel_rfl))
                  have r5 := HD.out.row BX.out (by decide)
                  have y0 := cell0_of r5
                  have y1 := cell1_of r5
                  clear r5
                  go_simp
                  exact hK _ _ rfl HD.out
              · refine Reg8.Obl.any (by kernel_rfl) (by kernel_rfl) ?_ ?_
                · rintro a' w5 hC hx hd K hK
                  have HC := Lib.hid hC
                  clear hC
                  have t23 : a'.tmps[23]?.getD undef = .agg #[.int .i64 x0, .int .i64 x1] := Reg.slot_val (hd 1 23 (by kernel_rfl) rfl)
                  go_simp
                  refine (side_edge x0 x1 w5).mono ?_
                  rintro en w6 ⟨rfl, hB6⟩
                  rw [hp, hq]
                  exact hK _ _ rfl trivial (HC.out.trans (hB6.mono HC.out.size)) hB6
                · rintro a' w5 u5 hD hx hd K hK
                  have HD := Lib.hid hD
                  clear hD
                  have t23 : a'.tmps[23]?.getD undef = .agg #[.int .i64 x0, .int .i64 x1] := Reg.slot_val (hd 1 23 (by kernel_rfl) rfl)
                  go_simp
                  refine (side_edge x0 x1 w5).mono ?_
                  rintro en w6 ⟨rfl, hB6⟩
                  rw [hp, hq]
                  exact hK _ _ rfl (HD.out.below hB6)
              · refine Reg8.Obl.early (by kernel_rfl) (by kernel_rfl) (by kernel_rfl) ?_
                rintro a' w5 hC hx hd K hK
                have HC := Lib.hid hC
                clear hC
                have t3 : a'.tmps[3]?.getD undef = .map (some B) := Reg.slot_val (hx 3 (by kernel_rfl))
                go_simp
                exact hK _ _ rfl trivial HC.out (Below.refl _ _)
              · refine Reg8.Obl.early (by kernel_rfl) (by kernel_rfl) (by kernel_rfl) ?_
                rintro a' w5 hC hx hd K hK
                have HC := Lib.hid hC
                clear hC
                have t7 : a'.tmps[7]?.getD undef = .pointer (some ⟨wr.heap.size, 0, none⟩) := Reg.slot_val (hx 7 (by kernel_rfl))
                have r5 := owns_up BX.out HC.out
                have y0 := cell0_of r5
                have y1 := cell1_of r5
                clear r5
                go_simp
                exact hK _ _ rfl trivial HC.out (Below.refl _ _)
              · refine Reg8.Obl.early (by kernel_rfl) (by kernel_rfl) (by kernel_rfl) ?_
                rintro a' w5 hC hx hd K hK
                have HC := Lib.hid hC
                clear hC
                have t26 : a'.tmps[26]?.getD undef = .agg #[.int .i64 x0, .int .i64 x1] := Reg.slot_val (hd 4 26 (by kernel_rfl) rfl).1
                go_simp
                refine (side_edge x0 x1 w5).mono ?_
                rintro en w6 ⟨rfl, hB6⟩
                rw [hp, hq]
                exact hK _ _ rfl trivial (HC.out.trans (hB6.mono HC.out.size)) hB6
              · refine Reg8.Obl.early (by kernel_rfl) (by kernel_rfl) (by kernel_rfl) ?_
                rintro a' w5 hC hx hd K hK
                have HC := Lib.hid hC
                clear hC
                have t25 : a'.tmps[25]?.getD undef = .map (some B) := Reg.slot_val (hd 3 25 (by kernel_rfl) rfl).1
                have t27 : a'.tmps[27]?.getD undef = .agg #[.int .i64 p, .int .i64 q] := Reg.slot_val (hd 5 27 (by kernel_rfl) rfl).1
                obtain ⟨v5, zs, hrun, hat, hoi, hzl, hback⟩ := (groups_below GR.out HC.out).at edgeKeyed Tryz.underlying176 (by kernel_rfl) (by unfold maxLen; omega) (keyOf_edge wp wq)
                obtain rfl := group_is HF.out wp wq hat hoi
                have LK : Hid (Lk B (3 * k + 0) D (p, q) (grp (preI ts k 0) (p, q)) v5 w5) := Lib.hid ⟨hoi, hzl, hback⟩
                clear hat hoi hzl hback
                go_simp
                exact hK _ _ trivial LK.out HC.out (Below.refl _ _)
              · refine Reg8.Obl.early (by kernel_rfl) (by kernel_rfl) (by kernel_rfl) ?_
                rintro a' w5 hC hx hd K hK
                have HC := Lib.hid hC
                clear hC
                have t4 : a'.tmps[4]?.getD undef = .int .i64 (k : Int) := Reg.slot_val (hx 4 (by kernel_rfl))
                go_simp
                exact hK _ _ rfl trivial HC.out (Below.refl _ _)
              · refine Reg8.Obl.early (by kernel_rfl) (by kernel_rfl) (by kernel_rfl) ?_
                rintro a' w5 hC hx hd K hK
                have HC := Lib.hid hC
                clear hC
                have t29 : a'.tmps[29]?.getD undef = .int .i64 (k : Int) := Reg.slot_val (hd 7 29 (by kernel_rfl) rfl).1
                have e0 := cell_one_new w5 (.int .i64 (k : Int)) 2 0 _ rfl
                have E0 := Lib.hid e0
                clear e0
                go_simp
                exact hK _ _ trivial ⟨_, rfl, by first | (simp; done) | exact E0.out⟩ (HC.out.alloc HC.out.size _) ((Below.refl _ _).alloc (Nat.le_refl _) _)
              · refine Reg8.Obl.turn (by kernel_rfl) (by kernel_rfl) ?_
                rintro a' w5 hC hx hd K hK
                have hLK := (hd 6 28 (by kernel_rfl) rfl).2
                obtain ⟨g, t30, hg30⟩ := (hd 8 30 (by kernel_rfl) rfl).2
                have hBw5 : wr.heap.size ≤ w5.heap.size := Nat.le_trans (by simp) hC.size
                refine wp_append_own_at w5 _ _ 49 rfl (B + 1) 2 i0 (.int .i64 0) 1 8 Tryz.underlying49 hi hz0 hz1 hz2 rfl (by decide) _ _ _ rfl hLK.1.1 ⟨g, 0, none⟩ 1 1 [.int .i64 (k : Int)] t30 rfl (fun j u hj => ?_) (fun u hu => by simp at hu; subst hu; rfl) (by have := hLK.2.1; unfold maxLen; omega) (by have := hLK.2.1; omega) (by omega) ?_
                · match j, hj with
                  | 0, hj => simp at hj; subst hj; first | (simp [Addr.add]; done) | (simp [Addr.add]; exact hg30)
                  | j + 1, hj => simp at hj
                · intro v6 w6 ho hgr hloc
                  exact hK _ _ trivial ⟨_, w5, hLK, hC, hgr, hLK.1.appended ho wk, hloc.imp id (fun h => ⟨_, h, Nat.le_refl _⟩)⟩
              · refine Reg8.Obl.store (by kernel_rfl) ?_
                rintro a' w5 u5 hu hD hx hd K hK
                have t22 : a'.tmps[22]?.getD undef = .map (some B) := Reg.slot_val (hd 0 22 rfl)
                have t24 : a'.tmps[24]?.getD undef = .agg #[.int .i64 p, .int .i64 q] := Reg.slot_val (hd 2 24 rfl)
                have t31 : a'.tmps[31]?.getD undef = u5 := Reg.slot_val (hu 31 rfl)
                have HCR5 := Lib.hid (hD.row (owns_up HCR.out HBX.out) (by decide))
                obtain ⟨v5, wl, hLK, hBl, hgr, hoi, hloc⟩ := hD
                obtain ⟨w6, hrun, hG6, hg6⟩ := hLK.2.2 w5 u5 _ hgr hoi (by have := hLK.2.1; simp; omega) hloc
                rw [← hoi.datum_pos (by simp)] at *
                have HT6 : Hid (w6.ownsGroups Tryz.prog 181 (B + 1) 2 .i64 B (3 * k + (0 + 1)) (D.put (kE (p, q)) (rowDatum .i64 u5 (grp (preI ts k 0) (p, q) ++ [(k : Int)]))) ∧ w6.ownsRow cb 137 3 (.slice (some ⟨cb, 0, none⟩) tl tl) tl (flatV ts tl) ∧ Below w.heap.size w w6) := Lib.hid
                  ⟨hG6, HCR5.out.kept hg6 (.inr (by simp [Value.ownBlock]; exact hne)), Below.groups ((HB1.out.trans (HBX.out.mono HB1.out.size)).trans (hBl.mono (HB1.out.trans (HBX.out.mono HB1.out.size)).size)) hLK.1 hgr hg6 ((HB1.out.trans (HBX.out.mono HB1.out.size)).trans (hBl.mono (HB1.out.trans (HBX.out.mono HB1.out.size)).size)).size (by omega) hBle⟩
                clear hG6 hg6 hgr hoi hloc hLK hBl
                go_simp
                exact hK _ HT6.out
            · rintro f w6 ⟨hG6, hC6, hB6⟩ hd
              have HG6 := Lib.hid hG6
              have HC6 := Lib.hid hC6
              have HB6 := Lib.hid hB6
              have HF6 : Hid (GroupsOf (D.put (kE (p, q)) (.slice (lits .i64 (grp (preI ts k 0) (p, q) ++ [(k : Int)])) [])) (preI ts k (0 + 1))) := Lib.hid (by
                rw [preI_step (j := 0) (by decide), HS.out]; exact HF.out.put wp wq)
              clear hG6 hC6 hB6 hd hix hp hq
              simp only [Reg.mixL]
              go_wp2
              go_roundw
              case rel => exact ⟨0 + 1, by omega, by go_num, _, HG6.out, HF6.out, HC6.out, HB6.out⟩
              case measure => simp [intOf]
          · have hs : (triE (ts.getD k [])).getD 1 (0, 0) = (min x1 x2, max x1 x2) := by
              show eKey ((ts.getD k []).getD 1 0) ((ts.getD k []).getD 2 0) = _
              rw [X1.out, X2.out]; rfl
            have hix : ∀ w, (Instr.index 208 (.agg #[.int .i64 x0, .int .i64 x1, .int .i64 x1, .int .i64 x2, .int .i64 x2, .int .i64 x0]) (.int .i64 1)).run Tryz.prog w = .ok (.agg #[.int .i64 x1, .int .i64 x2]) w := side_ix x0 x1 x1 x2 x2 x0 1 (by decide)
            obtain ⟨p, hp⟩ : ∃ p, min x1 x2 = p := ⟨_, rfl⟩
            obtain ⟨q, hq⟩ : ∃ q, max x1 x2 = q := ⟨_, rfl⟩
            rw [hp, hq] at hs
            have wp : (Lit.int .i64 p).wf = true := WalkArith.wf_i64 (by omega)
            have wq : (Lit.int .i64 q).wf = true := WalkArith.wf_i64 (by omega)
            have HS := Lib.hid hs
            have HPQ := Lib.hid (And.intro hp hq)
            clear hs
            have HBX : Hid (Below wr.heap.size wr (wr.alloc (.cells #[.int .i64 x1, .int .i64 x2] 207))) := Lib.hid ((Below.refl _ _).alloc (Nat.le_refl _) _)
            have BX : Hid ((wr.alloc (.cells #[.int .i64 x1, .int .i64 x2] 207)).ownsRow wr.heap.size 207 2 (.slice (some ⟨wr.heap.size, 0, none⟩) 1 1) 1 [.int .i64 x1, .int .i64 x2]) := Lib.hid (by
              have := World.ownsRow_lit (base := wr.heap.size) (e := 207) (size := 2) wr #[.int .i64 x1, .int .i64 x2] 1 (Nat.le_refl _) (by decide) rfl
              simpa using this)
            have GR := Lib.hid (groups_below HO.out HBX.out)
            have hBw : B < wr.heap.size := by
              obtain ⟨es, clock, hb, _⟩ := HO.out
              exact (Array.getElem?_eq_some_iff.1 hb).1
            clear hp hq
            go_wp2_with fail
            have hp := HPQ.out.1
            have hq := HPQ.out.2
            refine Reg8.wp_region_mix (m := 9) (z := 10) (C := fun w' => Below (wr.alloc (.cells #[.int .i64 x1, .int .i64 x2] 207)).heap.size (wr.alloc (.cells #[.int .i64 x1, .int .i64 x2] 207)) w') (D := fun u w' => Ap (wr.alloc (.cells #[.int .i64 x1, .int .i64 x2] 207)) B (3 * k + 1) D (p, q) (grp (preI ts k 1) (p, q)) (k : Int) u w')
              (T := fun w' => w'.ownsGroups Tryz.prog 181 (B + 1) 2 .i64 B (3 * k + (1 + 1)) (D.put (kE (p, q)) (.slice (lits .i64 (grp (preI ts k 1) (p, q) ++ [(k : Int)])) [])) ∧ w'.ownsRow cb 137 3 (.slice (some ⟨cb, 0, none⟩) tl tl) tl (flatV ts tl) ∧ Below w.heap.size w w')
              (G := fun w1 w2 => Below w1.heap.size w1 w2)
              (Rv := fun i v => match i with | 0 => v = .map (some B) | 1 => v = .agg #[.int .i64 x1, .int .i64 x2] | 2 => v = .agg #[.int .i64 p, .int .i64 q] | 3 => v = .map (some B) | 4 => v = .agg #[.int .i64 x1, .int .i64 x2] | 5 => v = .agg #[.int .i64 p, .int .i64 q] | 7 => v = .int .i64 (k : Int) | _ => True)
              (Rw := fun i v w' => match i with | 6 => Lk B (3 * k + 1) D (p, q) (grp (preI ts k 1) (p, q)) v w' | 8 => ∃ g, v = .slice (some ⟨g, 0, none⟩) 1 1 ∧ w'.cell? ⟨g, 0, none⟩ = some (.int .i64 (k : Int)) | _ => True) [false, false, false, false, false, false, false, false, false, false, false, false, false, false, false, false, false, false, false, false, false, false, true, true, true, true, true, true, true, true, true, true, false, false, false]
              (by kernel_rfl) (by kernel_rfl) (by kernel_rfl) ?_ (below_drewN (Below.refl _ _) 1) ?_ ?_
            · intro j v w1 w2 hC hG hR
              match j with
              | 0 => trivial
              | 1 => trivial
              | 2 => trivial
              | 3 => trivial
              | 4 => trivial
              | 5 => trivial
              | 6 => exact hR.below hG
              | 7 => trivial
              | 8 => obtain ⟨g, e, hg⟩ := hR; exact ⟨g, e, cell_below hG hg⟩
              | _ + 9 => trivial
            · refine ⟨?_, ?_, ?_, ?_, ?_, ?_, ?_, ?_, ?_, ?_, ?_, trivial⟩
              · refine Reg8.Obl.any (by kernel_rfl) (by kernel_rfl) ?_ ?_
                · rintro a' w5 hC hx hd K hK
                  have HC := Lib.hid hC
                  clear hC
                  have t3 : a'.tmps[3]?.getD undef = .map (some B) := Reg.slot_val (hx 3 (by kernel_rfl))
                  go_simp
                  exact hK _ _ rfl trivial HC.out (Below.refl _ _)
                · rintro a' w5 u5 hD hx hd K hK
                  have HD := Lib.hid hD
                  clear hD
                  have t3 : a'.tmps[3]?.getD undef = .map (some B) := Reg.slot_val (hx 3 (by kernel_rfl))
                  go_simp
                  exact hK _ _ rfl HD.out
              · refine Reg8.Obl.any (by kernel_rfl) (by kernel_rfl) ?_ ?_
                · rintro a' w5 hC hx hd K hK
                  have HC := Lib.hid hC
                  clear hC
                  have t7 : a'.tmps[7]?.getD undef = .pointer (some ⟨wr.heap.size, 0, none⟩) := Reg.slot_val (hx 7 (by kernel_rfl))
                  have r5 := owns_up BX.out HC.out
                  have y0 := cell0_of r5
                  have y1 := cell1_of r5
                  clear r5
                  go_simp
                  exact hK _ _ rfl trivial HC.out (Below.refl _ _)
                · rintro a' w5 u5 hD hx hd K hK
                  have HD := Lib.hid hD
                  clear hD
                  have t7 : a'.tmps[7]?.getD undef = .pointer (some ⟨wr.heap.size, 0, none⟩) := Reg.slot_val (hx 7 (by kernel_rfl))
                  have r5 := HD.out.row BX.out (by decide)
                  have y0 := cell0_of r5
                  have y1 := cell1_of r5
                  clear r5
                  go_simp
                  exact hK _ _ rfl HD.out
              · refine Reg8.Obl.any (by kernel_rfl) (by kernel_rfl) ?_ ?_
                · rintro a' w5 hC hx hd K hK
                  have HC := Lib.hid hC
                  clear hC
                  have t23 : a'.tmps[23]?.getD undef = .agg #[.int .i64 x1, .int .i64 x2] := Reg.slot_val (hd 1 23 (by kernel_rfl) rfl)
                  go_simp
                  refine (side_edge x1 x2 w5).mono ?_
                  rintro en w6 ⟨rfl, hB6⟩
                  rw [hp, hq]
                  exact hK _ _ rfl trivial (HC.out.trans (hB6.mono HC.out.size)) hB6
                · rintro a' w5 u5 hD hx hd K hK
                  have HD := Lib.hid hD
                  clear hD
                  have t23 : a'.tmps[23]?.getD undef = .agg #[.int .i64 x1, .int .i64 x2] := Reg.slot_val (hd 1 23 (by kernel_rfl) rfl)
                  go_simp
                  refine (side_edge x1 x2 w5).mono ?_
                  rintro en w6 ⟨rfl, hB6⟩
                  rw [hp, hq]
                  exact hK _ _ rfl (HD.out.below hB6)
              · refine Reg8.Obl.early (by kernel_rfl) (by kernel_rfl) (by kernel_rfl) ?_
                rintro a' w5 hC hx hd K hK
                have HC := Lib.hid hC
                clear hC
                have t3 : a'.tmps[3]?.getD undef = .map (some B) := Reg.slot_val (hx 3 (by kernel_rfl))
                go_simp
                exact hK _ _ rfl trivial HC.out (Below.refl _ _)
              · refine Reg8.Obl.early (by kernel_rfl) (by kernel_rfl) (by kernel_rfl) ?_
                rintro a' w5 hC hx hd K hK
                have HC := Lib.hid hC
                clear hC
                have t7 : a'.tmps[7]?.getD undef = .pointer (some ⟨wr.heap.size, 0, none⟩) := Reg.slot_val (hx 7 (by kernel_rfl))
                have r5 := owns_up BX.out HC.out
                have y0 := cell0_of r5
                have y1 := cell1_of r5
                clear r5
                go_simp
                exact hK _ _ rfl trivial HC.out (Below.refl _ _)
              · refine Reg8.Obl.early (by kernel_rfl) (by kernel_rfl) (by kernel_rfl) ?_
                rintro a' w5 hC hx hd K hK
                have HC := Lib.hid hC
                clear hC
                have t26 : a'.tmps[26]?.getD undef = .agg #[.int .i64 x1, .int .i64 x2] := Reg.slot_val (hd 4 26 (by kernel_rfl) rfl).1
                go_simp
                refine (side_edge x1 x2 w5).mono ?_
                rintro en w6 ⟨rfl, hB6⟩
                rw [hp, hq]
                exact hK _ _ rfl trivial (HC.out.trans (hB6.mono HC.out.size)) hB6
              · refine Reg8.Obl.early (by kernel_rfl) (by kernel_rfl) (by kernel_rfl) ?_
                rintro a' w5 hC hx hd K hK
                have HC := Lib.hid hC
                clear hC
                have t25 : a'.tmps[25]?.getD undef = .map (some B) := Reg.slot_val (hd 3 25 (by kernel_rfl) rfl).1
                have t27 : a'.tmps[27]?.getD undef = .agg #[.int .i64 p, .int .i64 q] := Reg.slot_val (hd 5 27 (by kernel_rfl) rfl).1
                obtain ⟨v5, zs, hrun, hat, hoi, hzl, hback⟩ := (groups_below GR.out HC.out).at edgeKeyed Tryz.underlying176 (by kernel_rfl) (by unfold maxLen; omega) (keyOf_edge wp wq)
                obtain rfl := group_is HF.out wp wq hat hoi
                have LK : Hid (Lk B (3 * k + 1) D (p, q) (grp (preI ts k 1) (p, q)) v5 w5) := Lib.hid ⟨hoi, hzl, hback⟩
                clear hat hoi hzl hback
                go_simp
                exact hK _ _ trivial LK.out HC.out (Below.refl _ _)
              · refine Reg8.Obl.early (by kernel_rfl) (by kernel_rfl) (by kernel_rfl) ?_
                rintro a' w5 hC hx hd K hK
                have HC := Lib.hid hC
                clear hC
                have t4 : a'.tmps[4]?.getD undef = .int .i64 (k : Int) := Reg.slot_val (hx 4 (by kernel_rfl))
                go_simp
                exact hK _ _ rfl trivial HC.out (Below.refl _ _)
              · refine Reg8.Obl.early (by kernel_rfl) (by kernel_rfl) (by kernel_rfl) ?_
                rintro a' w5 hC hx hd K hK
                have HC := Lib.hid hC
                clear hC
                have t29 : a'.tmps[29]?.getD undef = .int .i64 (k : Int) := Reg.slot_val (hd 7 29 (by kernel_rfl) rfl).1
                have e0 := cell_one_new w5 (.int .i64 (k : Int)) 2 0 _ rfl
                have E0 := Lib.hid e0
                clear e0
                go_simp
                exact hK _ _ trivial ⟨_, rfl, by first | (simp; done) | exact E0.out⟩ (HC.out.alloc HC.out.size _) ((Below.refl _ _).alloc (Nat.le_refl _) _)
              · refine Reg8.Obl.turn (by kernel_rfl) (by kernel_rfl) ?_
                rintro a' w5 hC hx hd K hK
                have hLK := (hd 6 28 (by kernel_rfl) rfl).2
                obtain ⟨g, t30, hg30⟩ := (hd 8 30 (by kernel_rfl) rfl).2
                have hBw5 : wr.heap.size ≤ w5.heap.size := Nat.le_trans (by simp) hC.size
                refine wp_append_own_at w5 _ _ 49 rfl (B + 1) 2 i0 (.int .i64 0) 1 8 Tryz.underlying49 hi hz0 hz1 hz2 rfl (by decide) _ _ _ rfl hLK.1.1 ⟨g, 0, none⟩ 1 1 [.int .i64 (k : Int)] t30 rfl (fun j u hj => ?_) (fun u hu => by simp at hu; subst hu; rfl) (by have := hLK.2.1; unfold maxLen; omega) (by have := hLK.2.1; omega) (by omega) ?_
                · match j, hj with
                  | 0, hj => simp at hj; subst hj; first | (simp [Addr.add]; done) | (simp [Addr.add]; exact hg30)
                  | j + 1, hj => simp at hj
                · intro v6 w6 ho hgr hloc
                  exact hK _ _ trivial ⟨_, w5, hLK, hC, hgr, hLK.1.appended ho wk, hloc.imp id (fun h => ⟨_, h, Nat.le_refl _⟩)⟩
              · refine Reg8.Obl.store (by kernel_rfl) ?_
                rintro a' w5 u5 hu hD hx hd K hK
                have t22 : a'.tmps[22]?.getD undef = .map (some B) := Reg.slot_val (hd 0 22 rfl)
                have t24 : a'.tmps[24]?.getD undef = .agg #[.int .i64 p, .int .i64 q] := Reg.slot_val (hd 2 24 rfl)
                have t31 : a'.tmps[31]?.getD undef = u5 := Reg.slot_val (hu 31 rfl)
                have HCR5 := Lib.hid (hD.row (owns_up HCR.out HBX.out) (by decide))
                obtain ⟨v5, wl, hLK, hBl, hgr, hoi, hloc⟩ := hD
                obtain ⟨w6, hrun, hG6, hg6⟩ := hLK.2.2 w5 u5 _ hgr hoi (by have := hLK.2.1; simp; omega) hloc
                rw [← hoi.datum_pos (by simp)] at *
                have HT6 : Hid (w6.ownsGroups Tryz.prog 181 (B + 1) 2 .i64 B (3 * k + (1 + 1)) (D.put (kE (p, q)) (rowDatum .i64 u5 (grp (preI ts k 1) (p, q) ++ [(k : Int)]))) ∧ w6.ownsRow cb 137 3 (.slice (some ⟨cb, 0, none⟩) tl tl) tl (flatV ts tl) ∧ Below w.heap.size w w6) := Lib.hid
                  ⟨hG6, HCR5.out.kept hg6 (.inr (by simp [Value.ownBlock]; exact hne)), Below.groups ((HB1.out.trans (HBX.out.mono HB1.out.size)).trans (hBl.mono (HB1.out.trans (HBX.out.mono HB1.out.size)).size)) hLK.1 hgr hg6 ((HB1.out.trans (HBX.out.mono HB1.out.size)).trans (hBl.mono (HB1.out.trans (HBX.out.mono HB1.out.size)).size)).size (by omega) hBle⟩
                clear hG6 hg6 hgr hoi hloc hLK hBl
                go_simp
                exact hK _ HT6.out
            · rintro f w6 ⟨hG6, hC6, hB6⟩ hd
              have HG6 := Lib.hid hG6
              have HC6 := Lib.hid hC6
              have HB6 := Lib.hid hB6
              have HF6 : Hid (GroupsOf (D.put (kE (p, q)) (.slice (lits .i64 (grp (preI ts k 1) (p, q) ++ [(k : Int)])) [])) (preI ts k (1 + 1))) := Lib.hid (by
                rw [preI_step (j := 1) (by decide), HS.out]; exact HF.out.put wp wq)
              clear hG6 hC6 hB6 hd hix hp hq
              simp only [Reg.mixL]
              go_wp2
              go_roundw
              case rel => exact ⟨1 + 1, by omega, by go_num, _, HG6.out, HF6.out, HC6.out, HB6.out⟩
              case measure => simp [intOf]
          · have hs : (triE (ts.getD k [])).getD 2 (0, 0) = (min x2 x0, max x2 x0) := by
              show eKey ((ts.getD k []).getD 2 0) ((ts.getD k []).getD 0 0) = _
              rw [X2.out, X0.out]; rfl
            have hix : ∀ w, (Instr.index 208 (.agg #[.int .i64 x0, .int .i64 x1, .int .i64 x1, .int .i64 x2, .int .i64 x2, .int .i64 x0]) (.int .i64 2)).run Tryz.prog w = .ok (.agg #[.int .i64 x2, .int .i64 x0]) w := side_ix x0 x1 x1 x2 x2 x0 2 (by decide)
            obtain ⟨p, hp⟩ : ∃ p, min x2 x0 = p := ⟨_, rfl⟩
            obtain ⟨q, hq⟩ : ∃ q, max x2 x0 = q := ⟨_, rfl⟩
            rw [hp, hq] at hs
            have wp : (Lit.int .i64 p).wf = true := WalkArith.wf_i64 (by omega)
            have wq : (Lit.int .i64 q).wf = true := WalkArith.wf_i64 (by omega)
            have HS := Lib.hid hs
            have HPQ := Lib.hid (And.intro hp hq)
            clear hs
            have HBX : Hid (Below wr.heap.size wr (wr.alloc (.cells #[.int .i64 x2, .int .i64 x0] 207))) := Lib.hid ((Below.refl _ _).alloc (Nat.le_refl _) _)
            have BX : Hid ((wr.alloc (.cells #[.int .i64 x2, .int .i64 x0] 207)).ownsRow wr.heap.size 207 2 (.slice (some ⟨wr.heap.size, 0, none⟩) 1 1) 1 [.int .i64 x2, .int .i64 x0]) := Lib.hid (by
              have := World.ownsRow_lit (base := wr.heap.size) (e := 207) (size := 2) wr #[.int .i64 x2, .int .i64 x0] 1 (Nat.le_refl _) (by decide) rfl
              simpa using this)
            have GR := Lib.hid (groups_below HO.out HBX.out)
            have hBw : B < wr.heap.size := by
              obtain ⟨es, clock, hb, _⟩ := HO.out
              exact (Array.getElem?_eq_some_iff.1 hb).1
            clear hp hq
            go_wp2_with fail
            have hp := HPQ.out.1
            have hq := HPQ.out.2
            refine Reg8.wp_region_mix (m := 9) (z := 10) (C := fun w' => Below (wr.alloc (.cells #[.int .i64 x2, .int .i64 x0] 207)).heap.size (wr.alloc (.cells #[.int .i64 x2, .int .i64 x0] 207)) w') (D := fun u w' => Ap (wr.alloc (.cells #[.int .i64 x2, .int .i64 x0] 207)) B (3 * k + 2) D (p, q) (grp (preI ts k 2) (p, q)) (k : Int) u w')
              (T := fun w' => w'.ownsGroups Tryz.prog 181 (B + 1) 2 .i64 B (3 * k + (2 + 1)) (D.put (kE (p, q)) (.slice (lits .i64 (grp (preI ts k 2) (p, q) ++ [(k : Int)])) [])) ∧ w'.ownsRow cb 137 3 (.slice (some ⟨cb, 0, none⟩) tl tl) tl (flatV ts tl) ∧ Below w.heap.size w w')
              (G := fun w1 w2 => Below w1.heap.size w1 w2)
              (Rv := fun i v => match i with | 0 => v = .map (some B) | 1 => v = .agg #[.int .i64 x2, .int .i64 x0] | 2 => v = .agg #[.int .i64 p, .int .i64 q] | 3 => v = .map (some B) | 4 => v = .agg #[.int .i64 x2, .int .i64 x0] | 5 => v = .agg #[.int .i64 p, .int .i64 q] | 7 => v = .int .i64 (k : Int) | _ => True)
              (Rw := fun i v w' => match i with | 6 => Lk B (3 * k + 2) D (p, q) (grp (preI ts k 2) (p, q)) v w' | 8 => ∃ g, v = .slice (some ⟨g, 0, none⟩) 1 1 ∧ w'.cell? ⟨g, 0, none⟩ = some (.int .i64 (k : Int)) | _ => True) [false, false, false, false, false, false, false, false, false, false, false, false, false, false, false, false, false, false, false, false, false, false, true, true, true, true, true, true, true, true, true, true, false, false, false]
              (by kernel_rfl) (by kernel_rfl) (by kernel_rfl) ?_ (below_drewN (Below.refl _ _) 1) ?_ ?_
            · intro j v w1 w2 hC hG hR
              match j with
              | 0 => trivial
              | 1 => trivial
              | 2 => trivial
              | 3 => trivial
              | 4 => trivial
              | 5 => trivial
              | 6 => exact hR.below hG
              | 7 => trivial
              | 8 => obtain ⟨g, e, hg⟩ := hR; exact ⟨g, e, cell_below hG hg⟩
              | _ + 9 => trivial
            · refine ⟨?_, ?_, ?_, ?_, ?_, ?_, ?_, ?_, ?_, ?_, ?_, trivial⟩
              · refine Reg8.Obl.any (by kernel_rfl) (by kernel_rfl) ?_ ?_
                · rintro a' w5 hC hx hd K hK
                  have HC := Lib.hid hC
                  clear hC
                  have t3 : a'.tmps[3]?.getD undef = .map (some B) := Reg.slot_val (hx 3 (by kernel_rfl))
                  go_simp
                  exact hK _ _ rfl trivial HC.out (Below.refl _ _)
                · rintro a' w5 u5 hD hx hd K hK
                  have HD := Lib.hid hD
                  clear hD
                  have t3 : a'.tmps[3]?.getD undef = .map (some B) := Reg.slot_val (hx 3 (by kernel_rfl))
                  go_simp
                  exact hK _ _ rfl HD.out
              · refine Reg8.Obl.any (by kernel_rfl) (by kernel_rfl) ?_ ?_
                · rintro a' w5 hC hx hd K hK
                  have HC := Lib.hid hC
                  clear hC
                  have t7 : a'.tmps[7]?.getD undef = .pointer (some ⟨wr.heap.size, 0, none⟩) := Reg.slot_val (hx 7 (by kernel_rfl))
                  have r5 := owns_up BX.out HC.out
                  have y0 := cell0_of r5
                  have y1 := cell1_of r5
                  clear r5
                  go_simp
                  exact hK _ _ rfl trivial HC.out (Below.refl _ _)
                · rintro a' w5 u5 hD hx hd K hK
                  have HD := Lib.hid hD
                  clear hD
                  have t7 : a'.tmps[7]?.getD undef = .pointer (some ⟨wr.heap.size, 0, none⟩) := Reg.slot_val (hx 7 (by kernel_rfl))
                  have r5 := HD.out.row BX.out (by decide)
                  have y0 := cell0_of r5
                  have y1 := cell1_of r5
                  clear r5
                  go_simp
                  exact hK _ _ rfl HD.out
              · refine Reg8.Obl.any (by kernel_rfl) (by kernel_rfl) ?_ ?_
                · rintro a' w5 hC hx hd K hK
                  have HC := Lib.hid hC
                  clear hC
                  have t23 : a'.tmps[23]?.getD undef = .agg #[.int .i64 x2, .int .i64 x0] := Reg.slot_val (hd 1 23 (by kernel_rfl) rfl)
                  go_simp
                  refine (side_edge x2 x0 w5).mono ?_
                  rintro en w6 ⟨rfl, hB6⟩
                  rw [hp, hq]
                  exact hK _ _ rfl trivial (HC.out.trans (hB6.mono HC.out.size)) hB6
                · rintro a' w5 u5 hD hx hd K hK
                  have HD := Lib.hid hD
                  clear hD
                  have t23 : a'.tmps[23]?.getD undef = .agg #[.int .i64 x2, .int .i64 x0] := Reg.slot_val (hd 1 23 (by kernel_rfl) rfl)
                  go_simp
                  refine (side_edge x2 x0 w5).mono ?_
                  rintro en w6 ⟨rfl, hB6⟩
                  rw [hp, hq]
                  exact hK _ _ rfl (HD.out.below hB6)
              · refine Reg8.Obl.early (by kernel_rfl) (by kernel_rfl) (by kernel_rfl) ?_
                rintro a' w5 hC hx hd K hK
                have HC := Lib.hid hC
                clear hC
                have t3 : a'.tmps[3]?.getD undef = .map (some B) := Reg.slot_val (hx 3 (by kernel_rfl))
                go_simp
                exact hK _ _ rfl trivial HC.out (Below.refl _ _)
              · refine Reg8.Obl.early (by kernel_rfl) (by kernel_rfl) (by kernel_rfl) ?_
                rintro a' w5 hC hx hd K hK
                have HC := Lib.hid hC
                clear hC
                have t7 : a'.tmps[7]?.getD undef = .pointer (some ⟨wr.heap.size, 0, none⟩) := Reg.slot_val (hx 7 (by kernel_rfl))
                have r5 := owns_up BX.out HC.out
                have y0 := cell0_of r5
                have y1 := cell1_of r5
                clear r5
                go_simp
                exact hK _ _ rfl trivial HC.out (Below.refl _ _)
              · refine Reg8.Obl.early (by kernel_rfl) (by kernel_rfl) (by kernel_rfl) ?_
                rintro a' w5 hC hx hd K hK
                have HC := Lib.hid hC
                clear hC
                have t26 : a'.tmps[26]?.getD undef = .agg #[.int .i64 x2, .int .i64 x0] := Reg.slot_val (hd 4 26 (by kernel_rfl) rfl).1
                go_simp
                refine (side_edge x2 x0 w5).mono ?_
                rintro en w6 ⟨rfl, hB6⟩
                rw [hp, hq]
                exact hK _ _ rfl trivial (HC.out.trans (hB6.mono HC.out.size)) hB6
              · refine Reg8.Obl.early (by kernel_rfl) (by kernel_rfl) (by kernel_rfl) ?_
                rintro a' w5 hC hx hd K hK
                have HC := Lib.hid hC
                clear hC
                have t25 : a'.tmps[25]?.getD undef = .map (some B) := Reg.slot_val (hd 3 25 (by kernel_rfl) rfl).1
                have t27 : a'.tmps[27]?.getD undef = .agg #[.int .i64 p, .int .i64 q] := Reg.slot_val (hd 5 27 (by kernel_rfl) rfl).1
                obtain ⟨v5, zs, hrun, hat, hoi, hzl, hback⟩ := (groups_below GR.out HC.out).at edgeKeyed Tryz.underlying176 (by kernel_rfl) (by unfold maxLen; omega) (keyOf_edge wp wq)
                obtain rfl := group_is HF.out wp wq hat hoi
                have LK : Hid (Lk B (3 * k + 2) D (p, q) (grp (preI ts k 2) (p, q)) v5 w5) := Lib.hid ⟨hoi, hzl, hback⟩
                clear hat hoi hzl hback
                go_simp
                exact hK _ _ trivial LK.out HC.out (Below.refl _ _)
              · refine Reg8.Obl.early (by kernel_rfl) (by kernel_rfl) (by kernel_rfl) ?_
                rintro a' w5 hC hx hd K hK
                have HC := Lib.hid hC
                clear hC
                have t4 : a'.tmps[4]?.getD undef = .int .i64 (k : Int) := Reg.slot_val (hx 4 (by kernel_rfl))
                go_simp
                exact hK _ _ rfl trivial HC.out (Below.refl _ _)
              · refine Reg8.Obl.early (by kernel_rfl) (by kernel_rfl) (by kernel_rfl) ?_
                rintro a' w5 hC hx hd K hK
                have HC := Lib.hid hC
                clear hC
                have t29 : a'.tmps[29]?.getD undef = .int .i64 (k : Int) := Reg.slot_val (hd 7 29 (by kernel_rfl) rfl).1
                have e0 := cell_one_new w5 (.int .i64 (k : Int)) 2 0 _ rfl
                have E0 := Lib.hid e0
                clear e0
                go_simp
                exact hK _ _ trivial ⟨_, rfl, by first | (simp; done) | exact E0.out⟩ (HC.out.alloc HC.out.size _) ((Below.refl _ _).alloc (Nat.le_refl _) _)
              · refine Reg8.Obl.turn (by kernel_rfl) (by kernel_rfl) ?_
                rintro a' w5 hC hx hd K hK
                have hLK := (hd 6 28 (by kernel_rfl) rfl).2
                obtain ⟨g, t30, hg30⟩ := (hd 8 30 (by kernel_rfl) rfl).2
                have hBw5 : wr.heap.size ≤ w5.heap.size := Nat.le_trans (by simp) hC.size
                refine wp_append_own_at w5 _ _ 49 rfl (B + 1) 2 i0 (.int .i64 0) 1 8 Tryz.underlying49 hi hz0 hz1 hz2 rfl (by decide) _ _ _ rfl hLK.1.1 ⟨g, 0, none⟩ 1 1 [.int .i64 (k : Int)] t30 rfl (fun j u hj => ?_) (fun u hu => by simp at hu; subst hu; rfl) (by have := hLK.2.1; unfold maxLen; omega) (by have := hLK.2.1; omega) (by omega) ?_
                · match j, hj with
                  | 0, hj => simp at hj; subst hj; first | (simp [Addr.add]; done) | (simp [Addr.add]; exact hg30)
                  | j + 1, hj => simp at hj
                · intro v6 w6 ho hgr hloc
                  exact hK _ _ trivial ⟨_, w5, hLK, hC, hgr, hLK.1.appended ho wk, hloc.imp id (fun h => ⟨_, h, Nat.le_refl _⟩)⟩
              · refine Reg8.Obl.store (by kernel_rfl) ?_
                rintro a' w5 u5 hu hD hx hd K hK
                have t22 : a'.tmps[22]?.getD undef = .map (some B) := Reg.slot_val (hd 0 22 rfl)
                have t24 : a'.tmps[24]?.getD undef = .agg #[.int .i64 p, .int .i64 q] := Reg.slot_val (hd 2 24 rfl)
                have t31 : a'.tmps[31]?.getD undef = u5 := Reg.slot_val (hu 31 rfl)
                have HCR5 := Lib.hid (hD.row (owns_up HCR.out HBX.out) (by decide))
                obtain ⟨v5, wl, hLK, hBl, hgr, hoi, hloc⟩ := hD
                obtain ⟨w6, hrun, hG6, hg6⟩ := hLK.2.2 w5 u5 _ hgr hoi (by have := hLK.2.1; simp; omega) hloc
                rw [← hoi.datum_pos (by simp)] at *
                have HT6 : Hid (w6.ownsGroups Tryz.prog 181 (B + 1) 2 .i64 B (3 * k + (2 + 1)) (D.put (kE (p, q)) (rowDatum .i64 u5 (grp (preI ts k 2) (p, q) ++ [(k : Int)]))) ∧ w6.ownsRow cb 137 3 (.slice (some ⟨cb, 0, none⟩) tl tl) tl (flatV ts tl) ∧ Below w.heap.size w w6) := Lib.hid
                  ⟨hG6, HCR5.out.kept hg6 (.inr (by simp [Value.ownBlock]; exact hne)), Below.groups ((HB1.out.trans (HBX.out.mono HB1.out.size)).trans (hBl.mono (HB1.out.trans (HBX.out.mono HB1.out.size)).size)) hLK.1 hgr hg6 ((HB1.out.trans (HBX.out.mono HB1.out.size)).trans (hBl.mono (HB1.out.trans (HBX.out.mono HB1.out.size)).size)).size (by omega) hBle⟩
                clear hG6 hg6 hgr hoi hloc hLK hBl
                go_simp
                exact hK _ HT6.out
            · rintro f w6 ⟨hG6, hC6, hB6⟩ hd
              have HG6 := Lib.hid hG6
              have HC6 := Lib.hid hC6
              have HB6 := Lib.hid hB6
              have HF6 : Hid (GroupsOf (D.put (kE (p, q)) (.slice (lits .i64 (grp (preI ts k 2) (p, q) ++ [(k : Int)])) [])) (preI ts k (2 + 1))) := Lib.hid (by
                rw [preI_step (j := 2) (by decide), HS.out]; exact HF.out.put wp wq)
              clear hG6 hC6 hB6 hd hix hp hq
              simp only [Reg.mixL]
              go_wp2
              go_roundw
              case rel => exact ⟨2 + 1, by omega, by go_num, _, HG6.out, HF6.out, HC6.out, HB6.out⟩
              case measure => simp [intOf]
        · obtain rfl : j = 3 := by omega
          have hf := HF.out
          rw [preI_next] at hf
          have HF1 := Lib.hid hf
          clear hf
          go_wp2
          go_roundw
          case rel => exact ⟨k + 1, by omega, by go_num, D, HO.out, HF1.out, HCR.out, HB1.out⟩
          case measure => simp [intOf]; omega
    · obtain rfl : k = tl := by omega
      have HE := Lib.hid (And.intro hO (And.intro hF hB))
      clear hA hO hF hCR hB
      go_wp2
      go_ret
      exact ⟨B, D0, rfl, Nat.le_trans (Nat.le_of_lt_succ (by omega)) (Nat.le_refl B), HE.out.1, HE.out.2.1, HE.out.2.2⟩
end Go.Proofs.YtcgnmnbjgamedabGreat

/-
The edges of a mesh in order, as pairs and as rows. Conditions: none.
-/
namespace Go.Proofs.YtcgnmnbjgamedabGreat
open Go Fk Go.RowKit Go.Maps Go.Sort
set_option linter.unusedVariables false
set_option maxRecDepth 8000

def pairsL (L : List (Int × Int)) (n : Nat) : List (Int × Int) := (List.range n).flatMap fun x : Nat => ((List.range n).filter fun y : Nat => decide (x < y) && decide (((x : Int), (y : Int)) ∈ L)).map fun y : Nat => ((x : Int), (y : Int))
def rowP (e : Int × Int) : List Int := [e.1, e.2]
theorem edgesT_pairs (n : Nat) (ts : List (List Int)) : edgesT n ts = (pairsL (keysE ts) n).map rowP := by
  unfold edgesT rowsE rowE pairsL
  rw [List.map_flatMap]
  simp only [List.map_map]
  rfl
theorem mem_pairsL {L : List (Int × Int)} {n : Nat} {e : Int × Int} : e ∈ pairsL L n ↔ ∃ a b : Nat, a < n ∧ b < n ∧ a < b ∧ ((a : Int), (b : Int)) ∈ L ∧ e = ((a : Int), (b : Int)) := by
  unfold pairsL
  simp only [List.mem_flatMap, List.mem_range, List.mem_map, List.mem_filter, Bool.and_eq_true, decide_eq_true_eq]
  constructor
  · rintro ⟨a, ha, b, ⟨hb, hab, hm⟩, rfl⟩
    exact ⟨a, b, ha, hb, hab, hm, rfl⟩
  · rintro ⟨a, b, ha, hb, hab, hm, rfl⟩
    exact ⟨a, ha, b, ⟨hb, hab, hm⟩, rfl⟩
theorem pairsL_sorted (L : List (Int × Int)) (n : Nat) : (pairsL L n).Pairwise fun x y => ltE x y = true := by
  unfold pairsL
  rw [List.pairwise_flatMap]
  refine ⟨fun a ha => ?_, ?_⟩
  · rw [List.pairwise_map]
    refine (List.Pairwise.filter _ List.pairwise_lt_range).imp fun h => ?_
    unfold ltE
    simp
    omega
  · refine List.pairwise_lt_range.imp fun {a b} h x hx y hy => ?_
    obtain ⟨c, _, rfl⟩ := List.mem_map.1 hx
    obtain ⟨d, _, rfl⟩ := List.mem_map.1 hy
    unfold ltE
    simp
    omega
theorem sortE_eq {ss ps : List (Int × Int)} (hnd : ss.Nodup) (hm : ∀ x, x ∈ ss ↔ x ∈ ps) (hp : ps.Pairwise fun x y => ltE x y = true) : sortE ss = ps := by
  have hpn : ps.Nodup := hp.imp fun h e => by subst e; unfold ltE at h; simp at h
  have hperm : ss.Perm ps := (List.perm_ext_iff_of_nodup hnd hpn).2 hm
  have e : ∀ a b, (!(ltOf cfE) b a) = !(ltE b a) := fun a b => by rw [ltOf_cfE]
  have tr : ∀ a b c : Int × Int, (!(ltOf cfE) b a) = true → (!(ltOf cfE) c b) = true → (!(ltOf cfE) c a) = true := fun a b c h1 h2 => by
    rw [e] at *
    unfold ltE at *
    simp at *
    omega
  have to : ∀ a b : Int × Int, ((!(ltOf cfE) b a) || !(ltOf cfE) a b) = true := fun a b => by
    rw [e, e]
    unfold ltE
    simp
    omega
  unfold sortE
  refine List.Perm.eq_of_pairwise (le := fun a b => (!(ltOf cfE) b a) = true) (fun a b _ _ h1 h2 => ?_) (List.pairwise_mergeSort tr to ss) (hp.imp fun {a b} h => ?_) ((List.mergeSort_perm ss _).trans hperm)
  · exact totE a b (by simpa using h2) (by simpa using h1)
  · rw [e]
    unfold ltE at *
    simp at *
    omega
theorem keys_in {ts : List (List Int)} {n : Nat} (hT : ∀ i, i < ts.length → Tri3 n (ts.getD i [])) {e : Int × Int} (he : e ∈ keysE ts) : ∃ a b : Nat, a < b ∧ b < n ∧ e = ((a : Int), (b : Int)) := by
  unfold keysE at he
  obtain ⟨t, ht, he⟩ := List.mem_flatMap.1 he
  obtain ⟨i, hi, rfl⟩ := List.getElem_of_mem ht
  have h := hT i hi
  rw [List.getD, List.getElem?_eq_getElem hi, Option.getD_some] at h
  obtain ⟨h1, h2, h3, ⟨p0, q0⟩, ⟨p1, q1⟩, ⟨p2, q2⟩⟩ := h
  unfold triE eKey at he
  generalize (ts[i]).getD 0 0 = x at *
  generalize (ts[i]).getD 1 0 = y at *
  generalize (ts[i]).getD 2 0 = z at *
  have main : ∀ u v : Int, 0 ≤ u → u < n → 0 ≤ v → v < n → u ≠ v → ∃ a b : Nat, a < b ∧ b < n ∧ (min u v, max u v) = ((a : Int), (b : Int)) := fun u v a1 a2 b1 b2 hne =>
    ⟨(min u v).toNat, (max u v).toNat, by omega, by omega, by rw [Int.toNat_of_nonneg (by omega), Int.toNat_of_nonneg (by omega)]⟩
  simp only [List.mem_cons, List.not_mem_nil, or_false] at he
  rcases he with rfl | rfl | rfl
  · exact main _ _ (by omega) (by omega) (by omega) (by omega) (by omega)
  · exact main _ _ (by omega) (by omega) (by omega) (by omega) (by omega)
  · exact main _ _ (by omega) (by omega) (by omega) (by omega) (by omega)
theorem mem_preI (ts : List (List Int)) (e : Int × Int) : e ∈ (preI ts ts.length 0).map (·.1) ↔ e ∈ keysE ts := by
  unfold preI keysE pairsT
  rw [List.take_zero, List.append_nil]
  simp only [List.mem_map, List.mem_flatMap, List.mem_range]
  constructor
  · rintro ⟨p, ⟨i, hi, e', he', rfl⟩, rfl⟩
    exact ⟨ts.getD i [], by rw [List.getD, List.getElem?_eq_getElem hi]; exact List.getElem_mem _, he'⟩
  · rintro ⟨t, ht, he⟩
    obtain ⟨i, hi, rfl⟩ := List.getElem_of_mem ht
    exact ⟨(e, (i : Int)), ⟨i, hi, e, by rw [List.getD, List.getElem?_eq_getElem hi]; exact he, rfl⟩, rfl⟩
theorem sorted_edges {D : DataW Unit} {ts : List (List Int)} {n : Nat} {ss : List (Int × Int)} (hG : GroupsOf D (preI ts ts.length 0)) (hK : KeysE D ss) (hT : ∀ i, i < ts.length → Tri3 n (ts.getD i [])) (hn : n ≤ 64) : sortE ss = pairsL (keysE ts) n := by
  refine sortE_eq hK.1 (fun x => (hK.2 x).trans ⟨fun ⟨⟨wa, wb⟩, hh⟩ => ?_, fun h => ?_⟩) (pairsL_sorted _ _)
  · have := (mem_preI ts _).1 (hG.2.2 x.1 x.2 wa wb hh)
    obtain ⟨a, b, hab, hb, e⟩ := keys_in hT this
    exact mem_pairsL.2 ⟨a, b, by omega, hb, hab, by rw [← e]; exact this, e⟩
  · obtain ⟨a, b, ha, hb, hab, hm, rfl⟩ := mem_pairsL.1 h
    have wa : (Lit.int .i64 (a : Int)).wf = true := WalkArith.wf_i64 (by omega)
    have wb : (Lit.int .i64 (b : Int)).wf = true := WalkArith.wf_i64 (by omega)
    exact ⟨⟨wa, wb⟩, hG.has_of wa wb ((mem_preI ts _).2 hm)⟩
/-- A row of edges, cell by cell. -/
theorem edges_at {w : World} {base n : Nat} {v : Value} {es : List (Int × Int)} (h : w.ownsRow base 181 2 v n (flatE es)) (hn : es.length = n) : ∃ a c, v = .slice a n c ∧ EdgesAt w a n es := by
  have h' := h
  rcases h.2 with ⟨rfl, h0⟩ | ⟨g, cap, cur, rfl, _⟩
  · exact ⟨none, 0, by rw [h0], fun k hk => absurd hk (by omega)⟩
  · refine ⟨_, _, rfl, fun k hk => ⟨g, rfl, ?_, ?_⟩⟩
    · rw [h'.cellAt _ (by omega), flatE_get _ _ (by omega), show k * 2 / 2 = k by omega, show k * 2 % 2 = 0 by omega]
      simp [cellsE, List.getD, hn, hk]
    · rw [h'.cellAt _ (by omega), flatE_get _ _ (by omega), show (k * 2 + 1) / 2 = k by omega, show (k * 2 + 1) % 2 = 1 by omega]
      simp [cellsE, List.getD, hn, hk]
end Go.Proofs.YtcgnmnbjgamedabGreat

/-
All edges of a mesh, in order: what the model returns. Conditions: the mesh is valid and lies in memory.
-/
namespace Go.Proofs.YtcgnmnbjgamedabGreat
open Go Fk Go.RowKit
set_option linter.unusedVariables false
set_option maxRecDepth 64000

theorem OwnT.congr {base n : Nat} {w : World} {v : Value} {ts us : List (List Int)} (h : OwnT base w v n ts) (he : ∀ j, j < n → ts.getD j [] = us.getD j []) : OwnT base w v n us := by
  obtain ⟨rows, h1, h2⟩ := h
  refine ⟨rows, h1, fun j hj => ?_⟩
  rw [← he j hj]
  exact h2 j hj
theorem getD_app {ts us : List (List Int)} {j : Nat} (h : j < ts.length) : ts.getD j [] = (ts ++ us).getD j [] := by
  simp [List.getD, List.getElem?_append_left h]
theorem getD_end {ts : List (List Int)} {u : List Int} : (ts ++ [u]).getD ts.length [] = u := by simp [List.getD]
set_option maxHeartbeats 4000000 in
theorem l02Edges (pb : Nat) (pa ta : Option Addr) (pl pc tl tc : Nat) (cs : List C3) (ts : List (List Int)) (w : World) (c0' : w.cell? ⟨pb, 0, none⟩ = some (.slice pa pl pc)) (c1' : w.cell? ⟨pb, 1, none⟩ = some (.slice ta tl tc)) (hp' : IsVs w pa pl pc cs) (ht : IsTs w ta tl tc ts) (hv : validB cs ts = true) :
    Calls Tryz.prog 118 #[.pointer (some ⟨pb, 0, none⟩)] w fun e w' => (∃ v, e = .returned v ∧ OwnT w.heap.size w' v (edgesT pl ts).length (edgesT pl ts)) ∧ Below w.heap.size w w' := by
  have hpl := hp'.1
  have htl := ht.1
  obtain ⟨v1, v2⟩ := valid_pl hv
  rw [hpl] at v1
  rw [htl] at v2
  obtain ⟨i0, hi, hz0, hz1, hz2⟩ := info_parts infoBool
  obtain ⟨j0, hj, hq0, hq1, hq2⟩ := info_parts infoS
  have HV := Lib.hid (fun k (hk : k < tl) => tri_partsh (valid_rowh hv (show k < ts.length by omega)))
  rw [hpl] at HV
  have C0 := Lib.hid c0'
  have C1 := Lib.hid c1'
  have HT := Lib.hid ht
  have lpb := World.block_lt_of_cell? _ _ c0'
  obtain ⟨N, hN⟩ : ∃ N : Nat, N = pl * pl := ⟨_, rfl⟩
  have hNm : (pl : Int) * (pl : Int) = (N : Int) := by rw [hN]; push_cast; rfl
  have hNb : N ≤ 4096 := by
    have : pl * pl ≤ 64 * 64 := Nat.mul_le_mul v1 v1
    omega
  have hmk : (Instr.makeSlice 205 (.int .i64 N) (.int .i64 N)).run Tryz.prog w = .ok (.slice (some ⟨w.heap.size, 0, none⟩) N N) (w.alloc (.cells (madeCells #[.bool false] N) 4)) := by
    have := run_make (P := Tryz.prog) w 205 4 i0 (.bool false) Tryz.underlying205 hi hz0 .i64 .i64 N N (by omega) (Int.le_refl _) (by rw [hz2]; omega) (by omega)
    rw [this, hz1]; simp; rfl
  have hs0 : SeenT (w.alloc (.cells (madeCells #[.bool false] N) 4)) w.heap.size pl (preE ts 0 0) := by
    refine ⟨fun x y hx hy => ?_, fun i => by simp, by simp⟩
    rw [preE_zero]
    have hlt := flat_lt hx hy
    rw [← hN] at hlt
    exact made_cell w (.bool false) N _ _ hlt
  have HS0 := Lib.hid hs0
  obtain ⟨L, hL⟩ : ∃ L, L = keysE ts := ⟨_, rfl⟩
  have hPE : preE ts tl 0 = L := by rw [hL, ← htl]; exact preE_end ts
  have HPE := Lib.hid hPE
  unfold edgesT
  rw [← hL]
  clear hL hPE
  have HN := Lib.hid hN
  clear hs0 c0' c1' ht hp' hv hN
  go_enter Tryz.func118, Tryz.ntmps118
  have kb0 := C0.out
  go_wp2
  clear kb0
  have HB0 : Hid (Below w.heap.size w (w.alloc (.cells (madeCells #[.bool false] N) 4))) := Lib.hid ((Below.refl _ _).alloc (Nat.le_refl _) _)
  generalize (w.alloc (.cells (madeCells #[.bool false] N) 4)) = W at *
  go_loopw [5] (fun i w' => ∃ k : Nat, k ≤ tl ∧ i = .int .i64 k ∧ Aside (Below w.heap.size w w' ∧ SeenT w' w.heap.size pl (preE ts k 0))) (fun i _ => tl - (intOf i).toNat)
  case atStart => exact ⟨0, Nat.zero_le _, rfl, HB0.out, HS0.out⟩
  case round =>
    obtain ⟨k, hk, rfl, hA⟩ := hrel
    obtain ⟨hB, hS⟩ := hA.out
    have HB := Lib.hid hB
    have HS := Lib.hid hS
    have kb0 := cell_below hB C0.out
    have kb1 := cell_below hB C1.out
    clear hA hS
    by_cases hlt : k < tl
    · obtain ⟨bt, ot, rfl, hrow⟩ := HT.out.some (by omega)
      obtain ⟨r1, n1, q1, cr', ir⟩ := hrow k hlt
      obtain ⟨hn3, hx⟩ := HV.out k hlt
      have hn1 : n1 = 3 := ir.1.symm.trans hn3
      subst hn1
      have cr := cell_below hB cr'
      have hk0 : (0 : Int) ≤ (k : Int) := by omega
      have hk1 : (k : Int) < (tl : Int) := by omega
      obtain ⟨a0, b0⟩ := hx 0 (by decide)
      obtain ⟨a1, b1⟩ := hx 1 (by decide)
      obtain ⟨a2, b2⟩ := hx 2 (by decide)
      obtain ⟨x0, hx0⟩ : ∃ x : Nat, (ts.getD k []).getD 0 0 = (x : Int) := ⟨_, (Int.toNat_of_nonneg a0).symm⟩
      obtain ⟨x1, hx1⟩ : ∃ x : Nat, (ts.getD k []).getD 1 0 = (x : Int) := ⟨_, (Int.toNat_of_nonneg a1).symm⟩
      obtain ⟨x2, hx2⟩ : ∃ x : Nat, (ts.getD k []).getD 2 0 = (x : Int) := ⟨_, (Int.toNat_of_nonneg a2).symm⟩
      rw [hx0] at b0
      rw [hx1] at b1
      rw [hx2] at b2
      have b0' : x0 < pl := by omega
      have b1' : x1 < pl := by omega
      have b2' : x2 < pl := by omega
      obtain ⟨br, or, rfl, hz⟩ := ir.some (by decide)
      have z0 := hz 0 (by decide)
      have z1 := hz 1 (by decide)
      have z2 := hz 2 (by decide)
      rw [hx0, Nat.add_zero] at z0
      rw [hx1] at z1
      rw [hx2] at z2
      have X0 := Lib.hid hx0
      have X1 := Lib.hid hx1
      have X2 := Lib.hid hx2
      have Z0 := Lib.hid z0
      have Z1 := Lib.hid z1
      have Z2 := Lib.hid z2
      clear hB hrow cr' ir hn3 hx a0 a1 a2 b0 b1 b2 hx0 hx1 hx2 hz z0 z1 z2 HS0 HB0
      go_wp2
      clear cr kb0 kb1
      go_loopw [7] (fun i w' => ∃ m : Nat, m ≤ 3 ∧ i = .int .i64 m ∧ Aside (Below w.heap.size w w' ∧ SeenT w' w.heap.size pl (preE ts k m))) (fun i _ => 3 - (intOf i).toNat)
      case atStart => exact ⟨0, by omega, rfl, HB.out, HS.out⟩
      case round =>
        obtain ⟨m, hm, rfl, hA⟩ := hrel
        obtain ⟨hB, hS⟩ := hA.out
        have HB1 := Lib.hid hB
        have HS1 := Lib.hid hS
        have z0 := cell_below hB Z0.out
        have z1 := cell_below hB Z1.out
        have z2 := cell_below hB Z2.out
        clear hA hB hS
        by_cases hlm : m < 3
        · obtain rfl | rfl | rfl : m = 0 ∨ m = 1 ∨ m = 2 := by omega
          · have hm0 : ((min (x0 : Int) (x1 : Int)) : Int) = ((min x0 x1 : Nat) : Int) := by omega
            have hm1 : ((max (x0 : Int) (x1 : Int)) : Int) = ((max x0 x1 : Nat) : Int) := by omega
            have HK := Lib.hid (show (triE (ts.getD k [])).getD 0 (0, 0) = (((min x0 x1 : Nat) : Int), ((max x0 x1 : Nat) : Int)) by
              show eKey ((ts.getD k []).getD 0 0) ((ts.getD k []).getD 1 0) = _
              rw [X0.out, X1.out]; unfold eKey; rw [hm0, hm1])
            have hp : min x0 x1 < pl := by omega
            have hq : max x0 x1 < pl := by omega
            have M0 := Lib.hid hm0
            have M1 := Lib.hid hm1
            clear hm0 hm1
            generalize min x0 x1 = p at *
            generalize max x0 x1 = q at *
            obtain ⟨I, hI⟩ : ∃ I : Nat, I = p * pl + q := ⟨_, rfl⟩
            obtain ⟨P, hP⟩ : ∃ P : Nat, P = p * pl := ⟨_, rfl⟩
            have hlt2 := flat_lt hp hq
            rw [← HN.out] at hlt2
            have hPm : (p : Int) * (pl : Int) = (P : Int) := by rw [hP]; push_cast; rfl
            have hIm : (P : Int) + (q : Int) = (I : Int) := by rw [hI, hP]; push_cast; rfl
            have i0 : (0 : Int) ≤ (I : Int) := by omega
            have i1 : (I : Int) < (N : Int) := by rw [hI]; omega
            have hPb : P ≤ 4096 := by omega
            have cI : wr.cell? ⟨w.heap.size, I, none⟩ = some (.bool (decide (((p : Int), (q : Int)) ∈ preE ts k 0))) := by rw [hI]; exact HS1.out.1 p q hp hq
            have fI : wr.frozen? ⟨w.heap.size, I, none⟩ = false := HS1.out.2.1 I
            have HS2 : Hid (SeenT (wr.setCell ⟨w.heap.size, I, none⟩ (.bool true)) w.heap.size pl (preE ts k (0 + 1))) := Lib.hid (by
              rw [preE_step (by decide), HK.out, hI]; exact HS1.out.set hp hq)
            generalize (decide (((p : Int), (q : Int)) ∈ preE ts k 0)) = u at *
            have HI := Lib.hid hI
            clear hI hP hlt2
            go_wp2_with (first
              | (go_at_call 68; refine (l00Min _ _ _).mono ?_; rintro e w1 ⟨rfl, hw1⟩; rw [hw1, M0.out]; clear hw1)
              | (go_at_call 151; refine (l00Max _ _ _).mono ?_; rintro e w1 ⟨rfl, hw1⟩; rw [hw1, M1.out]; clear hw1))
            go_roundw
            case rel => exact ⟨0 + 1, by omega, by go_num, HB1.out.setCell (Nat.le_refl _) _, HS2.out⟩
            case measure => simp [intOf]
          · have hm0 : ((min (x1 : Int) (x2 : Int)) : Int) = ((min x1 x2 : Nat) : Int) := by omega
            have hm1 : ((max (x1 : Int) (x2 : Int)) : Int) = ((max x1 x2 : Nat) : Int) := by omega
            have HK := Lib.hid (show (triE (ts.getD k [])).getD 1 (0, 0) = (((min x1 x2 : Nat) : Int), ((max x1 x2 : Nat) : Int)) by
              show eKey ((ts.getD k []).getD 1 0) ((ts.getD k []).getD 2 0) = _
              rw [X1.out, X2.out]; unfold eKey; rw [hm0, hm1])
            have hp : min x1 x2 < pl := by omega
            have hq : max x1 x2 < pl := by omega
            have M0 := Lib.hid hm0
            have M1 := Lib.hid hm1
            clear hm0 hm1
            generalize min x1 x2 = p at *
            generalize max x1 x2 = q at *
            obtain ⟨I, hI⟩ : ∃ I : Nat, I = p * pl + q := ⟨_, rfl⟩
            obtain ⟨P, hP⟩ : ∃ P : Nat, P = p * pl := ⟨_, rfl⟩
            have hlt2 := flat_lt hp hq
            rw [← HN.out] at hlt2
            have hPm : (p : Int) * (pl : Int) = (P : Int) := by rw [hP]; push_cast; rfl
            have hIm : (P : Int) + (q : Int) = (I : Int) := by rw [hI, hP]; push_cast; rfl
            have i0 : (0 : Int) ≤ (I : Int) := by omega
            have i1 : (I : Int) < (N : Int) := by rw [hI]; omega
            have hPb : P ≤ 4096 := by omega
            have cI : wr.cell? ⟨w.heap.size, I, none⟩ = some (.bool (decide (((p : Int), (q : Int)) ∈ preE ts k 1))) := by rw [hI]; exact HS1.out.1 p q hp hq
            have fI : wr.frozen? ⟨w.heap.size, I, none⟩ = false := HS1.out.2.1 I
            have HS2 : Hid (SeenT (wr.setCell ⟨w.heap.size, I, none⟩ (.bool true)) w.heap.size pl (preE ts k (1 + 1))) := Lib.hid (by
              rw [preE_step (by decide), HK.out, hI]; exact HS1.out.set hp hq)
            generalize (decide (((p : Int), (q : Int)) ∈ preE ts k 1)) = u at *
            have HI := Lib.hid hI
            clear hI hP hlt2
            go_wp2_with (first
              | (go_at_call 68; refine (l00Min _ _ _).mono ?_; rintro e w1 ⟨rfl, hw1⟩; rw [hw1, M0.out]; clear hw1)
              | (go_at_call 151; refine (l00Max _ _ _).mono ?_; rintro e w1 ⟨rfl, hw1⟩; rw [hw1, M1.out]; clear hw1))
            go_roundw
            case rel => exact ⟨1 + 1, by omega, by go_num, HB1.out.setCell (Nat.le_refl _) _, HS2.out⟩
            case measure => simp [intOf]
          · have hm0 : ((min (x2 : Int) (x0 : Int)) : Int) = ((min x2 x0 : Nat) : Int) := by omega
            have hm1 : ((max (x2 : Int) (x0 : Int)) : Int) = ((max x2 x0 : Nat) : Int) := by omega
            have HK := Lib.hid (show (triE (ts.getD k [])).getD 2 (0, 0) = (((min x2 x0 : Nat) : Int), ((max x2 x0 : Nat) : Int)) by
              show eKey ((ts.getD k []).getD 2 0) ((ts.getD k []).getD 0 0) = _
              rw [X2.out, X0.out]; unfold eKey; rw [hm0, hm1])
            have hp : min x2 x0 < pl := by omega
            have hq : max x2 x0 < pl := by omega
            have M0 := Lib.hid hm0
            have M1 := Lib.hid hm1
            clear hm0 hm1
            generalize min x2 x0 = p at *
            generalize max x2 x0 = q at *
            obtain ⟨I, hI⟩ : ∃ I : Nat, I = p * pl + q := ⟨_, rfl⟩
            obtain ⟨P, hP⟩ : ∃ P : Nat, P = p * pl := ⟨_, rfl⟩
            have hlt2 := flat_lt hp hq
            rw [← HN.out] at hlt2
            have hPm : (p : Int) * (pl : Int) = (P : Int) := by rw [hP]; push_cast; rfl
            have hIm : (P : Int) + (q : Int) = (I : Int) := by rw [hI, hP]; push_cast; rfl
            have i0 : (0 : Int) ≤ (I : Int) := by omega
            have i1 : (I : Int) < (N : Int) := by rw [hI]; omega
            have hPb : P ≤ 4096 := by omega
            have cI : wr.cell? ⟨w.heap.size, I, none⟩ = some (.bool (decide (((p : Int), (q : Int)) ∈ preE ts k 2))) := by rw [hI]; exact HS1.out.1 p q hp hq
            have fI : wr.frozen? ⟨w.heap.size, I, none⟩ = false := HS1.out.2.1 I
            have HS2 : Hid (SeenT (wr.setCell ⟨w.heap.size, I, none⟩ (.bool true)) w.heap.size pl (preE ts k (2 + 1))) := Lib.hid (by
              rw [preE_step (by decide), HK.out, hI]; exact HS1.out.set hp hq)
            generalize (decide (((p : Int), (q : Int)) ∈ preE ts k 2)) = u at *
            have HI := Lib.hid hI
            clear hI hP hlt2
            go_wp2_with (first
              | (go_at_call 68; refine (l00Min _ _ _).mono ?_; rintro e w1 ⟨rfl, hw1⟩; rw [hw1, M0.out]; clear hw1)
              | (go_at_call 151; refine (l00Max _ _ _).mono ?_; rintro e w1 ⟨rfl, hw1⟩; rw [hw1, M1.out]; clear hw1))
            go_roundw
            case rel => exact ⟨2 + 1, by omega, by go_num, HB1.out.setCell (Nat.le_refl _) _, HS2.out⟩
            case measure => simp [intOf]
        · obtain rfl : m = 3 := by omega
          have HS2 := HS1.out
          rw [preE_next (by omega)] at HS2
          have HS3 := Lib.hid HS2
          clear HS2
          go_wp2
          go_roundw
          case rel => exact ⟨k + 1, by omega, by go_num, HB1.out, HS3.out⟩
          case measure => simp [intOf]; omega
    · obtain rfl : k = tl := by omega
      rw [HPE.out] at HS
      have hbz := hB.size
      clear kb0 HS0 HB0
      obtain ⟨V, hVe⟩ : ∃ V, V = wr := ⟨_, rfl⟩
      subst hVe
      have hT0 : OwnT V.heap.size (V.alloc (.cells #[] 49)) (.slice (some ⟨V.heap.size, 0, none⟩) 0 0) (rowsE L pl 0).length (rowsE L pl 0) :=
        ⟨[], World.ownsRow_lit (base := V.heap.size) (e := 49) (size := 1) V #[] 0 (Nat.le_refl _) (by decide) rfl, fun j hj => absurd hj (by simp [rowsE])⟩
      have HT0 := Lib.hid hT0
      have HBV : Hid (Below V.heap.size V (V.alloc (.cells #[] 49))) := Lib.hid ((Below.refl _ _).alloc (Nat.le_refl _) _)
      clear hT0 hB
      go_wp2
      clear kb1
      generalize (V.alloc (.cells #[] 49)) = V1 at *
      generalize (.slice (some ⟨V.heap.size, 0, none⟩) 0 0 : Value) = v0 at *
      go_loopw [10, 11] (fun v i w' => ∃ a : Nat, a ≤ pl ∧ i = .int .i64 a ∧ Aside (OwnT V.heap.size w' v (rowsE L pl a).length (rowsE L pl a) ∧ Below V.heap.size V w')) (fun _ i _ => pl - (intOf i).toNat)
      case atStart => exact ⟨0, Nat.zero_le _, rfl, HT0.out, HBV.out⟩
      case round =>
        obtain ⟨a, ha, hia, hA⟩ := hrel
        subst hia
        obtain ⟨hT, hBV⟩ := hA.out
        have HT1 := Lib.hid hT
        have HB1 := Lib.hid hBV
        clear hA hT hBV
        by_cases hla : a < pl
        · have hla' : (a : Int) < (pl : Int) := by omega
          go_wp2
          go_loopw [10, 12] (fun v i w' => ∃ y : Nat, a + 1 ≤ y ∧ y ≤ pl ∧ i = .int .i64 y ∧ Aside (OwnT V.heap.size w' v (rowsE L pl a ++ rowE L y a).length (rowsE L pl a ++ rowE L y a) ∧ Below V.heap.size V w')) (fun _ i _ => pl - (intOf i).toNat)
          case atStart => exact ⟨a + 1, Nat.le_refl _, hla, by go_num, by rw [rowE_start, List.append_nil]; exact HT1.out, HB1.out⟩
          case round =>
            obtain ⟨y, hy0, hy1, hiy, hA⟩ := hrel
            subst hiy
            obtain ⟨hT, hBV⟩ := hA.out
            have HT2 := Lib.hid hT
            have HB2 := Lib.hid hBV
            clear hA
            by_cases hly : y < pl
            · have hly' : (y : Int) < (pl : Int) := by omega
              obtain ⟨I, hI⟩ : ∃ I : Nat, I = a * pl + y := ⟨_, rfl⟩
              obtain ⟨P, hP⟩ : ∃ P : Nat, P = a * pl := ⟨_, rfl⟩
              have hlt2 := flat_lt hla hly
              rw [← HN.out] at hlt2
              have hPm : (a : Int) * (pl : Int) = (P : Int) := by rw [hP]; push_cast; rfl
              have hIm : (P : Int) + (y : Int) = (I : Int) := by rw [hI, hP]; push_cast; rfl
              have i0 : (0 : Int) ≤ (I : Int) := by omega
              have i1 : (I : Int) < (N : Int) := by rw [hI]; omega
              have hPb : P ≤ 4096 := by omega
              have cI : wr.cell? ⟨w.heap.size, I, none⟩ = some (.bool (decide (((a : Int), (y : Int)) ∈ L))) := by rw [hI]; exact (HS.out.below hBV).1 a y hla hly
              have hlen : (rowsE L pl a ++ rowE L y a).length ≤ 8192 := by
                rw [List.length_append]
                have e1 := rowsE_len L pl a
                have e2 := rowE_len L y a
                have e3 : a * pl ≤ 64 * 64 := Nat.mul_le_mul (by omega) v1
                omega
              have HI := Lib.hid hI
              clear hI hP hlt2 hT hBV
              cases hd : decide (((a : Int), (y : Int)) ∈ L)
              · rw [hd] at cI
                have HR := Lib.hid (rowE_no hd)
                clear hd
                go_wp2
                go_roundw
                case rel => exact ⟨y + 1, by omega, by omega, by go_num, by rw [HR.out]; exact HT2.out, HB2.out⟩
                case measure => simp [intOf]; omega
              · rw [hd] at cI
                have HR := Lib.hid (rowE_yes (show a < y by omega) hd)
                clear hd
                have hbz2 := HB2.out.size
                have hB1 : Below wr.heap.size wr ((wr.alloc (.cells #[.int .i64 (a : Int), .int .i64 (y : Int)] 2)).alloc (.cells #[.slice (some ⟨wr.heap.size, 0, none⟩) 2 2] 49)) := ((Below.refl _ _).alloc (Nat.le_refl _) _).alloc (by simp) _
                have hr1 : ((wr.alloc (.cells #[.int .i64 (a : Int), .int .i64 (y : Int)] 2)).alloc (.cells #[.slice (some ⟨wr.heap.size, 0, none⟩) 2 2] 49)).ownsRow V.heap.size 2 1 (.slice (some ⟨wr.heap.size, 0, none⟩) 2 2) 2 (ints [(a : Int), (y : Int)]) :=
                  (World.ownsRow_lit (base := V.heap.size) (e := 2) (size := 1) wr #[.int .i64 (a : Int), .int .i64 (y : Int)] 2 hbz2 (by decide) rfl).alloc _
                have hrw := World.ownsRow_lit (base := V.heap.size) (e := 49) (size := 1) (wr.alloc (.cells #[.int .i64 (a : Int), .int .i64 (y : Int)] 2)) #[.slice (some ⟨wr.heap.size, 0, none⟩) 2 2] 1 (by simp; omega) (by decide) rfl
                have e0 := hrw.cellAt 0 (by decide)
                simp only [World.size_alloc, List.getElem?_cons_zero] at e0
                have E0 := Lib.hid e0
                obtain ⟨rows, hrow, hrows⟩ := (HT2.out.up hB1).congr (us := (rowsE L pl a ++ rowE L y a) ++ [[(a : Int), (y : Int)]]) (fun j hj => getD_app hj)
                have HROW := Lib.hid hrow
                have HROWS := Lib.hid hrows
                have HR1 := Lib.hid hr1
                have HB3 := Lib.hid (HB2.out.trans (hB1.mono hbz2))
                clear hB1 hr1 hrw e0 hrow hrows
                go_wp2_with (at_builtin; go_loud (refine wpList_append_own _ rfl _ _ 23 rfl V.heap.size 49 j0 (.slice none 0 0) 1 24 Tryz.underlying23 hj hq0 hq1 hq2 rfl (by decide) _ _ _ rfl HROW.out ⟨wr.heap.size + 1, 0, none⟩ 1 1 [.slice (some ⟨wr.heap.size, 0, none⟩) 2 2] rfl rfl ?c1 ?c2 ?c3 ?c4 ?c5 ?_))
                case c1 =>
                  intro j u hj
                  match j, hj with
                  | 0, hj => simp at hj; subst hj; first | (simp [Addr.add]; done) | exact E0.out
                  | j + 1, hj => simp at hj
                case c2 => first | (intro u hu; simp at hu; subst hu; rfl) | exact rfl
                case c3 => unfold maxLen; omega
                case c4 => omega
                case c5 => simp; omega
                · intro v' w1 hown' hgrow hnil
                  have HT3 : Hid (OwnT V.heap.size w1 v' (rowsE L pl a ++ rowE L (y + 1) a).length (rowsE L pl a ++ rowE L (y + 1) a)) := Lib.hid (by
                    rw [HR.out, ← List.append_assoc, List.length_append, List.length_singleton]
                    exact OwnT.snoc HROW.out HROWS.out (by rw [getD_end]; exact HR1.out) hgrow (by rw [List.length_append]; exact hown'))
                  have HB4 := Lib.hid (HB3.out.grown hgrow HB3.out.size (fun k hk => (HROW.out.lt k hk).1))
                  clear hown' hgrow hnil HROW HROWS HR1
                  go_wp2
                  go_roundw
                  case rel => exact ⟨y + 1, by omega, by omega, by go_num, HT3.out, HB4.out⟩
                  case measure => simp [intOf]; omega
            · obtain rfl : y = pl := by omega
              clear hT hBV
              go_wp2
              go_roundw
              case rel => exact ⟨a + 1, by omega, by go_num, by rw [rowsE_next]; exact HT2.out, HB2.out⟩
              case measure => simp [intOf]; omega
        · obtain rfl : a = pl := by omega
          go_wp2
          go_ret
          exact ⟨⟨_, rfl, HT1.out.low hbz⟩, HB.out.trans (HB1.out.mono hbz)⟩
end Go.Proofs.YtcgnmnbjgamedabGreat

/-
Whether a triangle goes from a place to another: what the model returns. Conditions: it has three places.
-/
namespace Go.Proofs.YtcgnmnbjgamedabGreat
open Go Fk Go.RowKit
set_option linter.unusedVariables false
set_option maxRecDepth 16000

end Go.Proofs.YtcgnmnbjgamedabGreat

/-
Whether a mesh is a sheet: what the model returns. Conditions: the mesh is valid and lies in memory.
-/
namespace Go.Proofs.YtcgnmnbjgamedabGreat
open Go Fk Go.RowKit
set_option linter.unusedVariables false
set_option maxRecDepth 16000

theorem edge_row {n : Nat} {ts : List (List Int)} {m : Nat} (hm : m < (edgesT n ts).length) : ∃ a b : Nat, a < n ∧ b < n ∧ a < b ∧ ((a : Int), (b : Int)) ∈ keysE ts ∧ (edgesT n ts).getD m [] = [(a : Int), (b : Int)] := by
  have h : (edgesT n ts).getD m [] ∈ edgesT n ts := by
    rw [List.getD, List.getElem?_eq_getElem hm]
    exact List.getElem_mem _
  obtain ⟨a, b, ha, hb, hab, hk, e⟩ := mem_rowsE.1 h
  exact ⟨a, b, ha, hb, hab, hk, e⟩
theorem edge_wf {n : Nat} {ts : List (List Int)} (hn : n ≤ 64) : ∀ j, j < (edgesT n ts).length → ∀ z ∈ (edgesT n ts).getD j [], (Lit.int .i64 z).wf = true := fun j hj z hz => by
  obtain ⟨a, b, ha, hb, _, _, e⟩ := edge_row hj
  rw [e] at hz
  simp only [List.mem_cons, List.not_mem_nil, or_false] at hz
  rcases hz with rfl | rfl <;> exact WalkArith.wf_i64 (by omega)
theorem edges_len {n : Nat} {ts : List (List Int)} (hn : n ≤ 64) : (edgesT n ts).length ≤ 4096 := by
  have := rowsE_len (keysE ts) n n
  have h2 : n * n ≤ 64 * 64 := Nat.mul_le_mul hn hn
  unfold edgesT
  omega
end Go.Proofs.YtcgnmnbjgamedabGreat

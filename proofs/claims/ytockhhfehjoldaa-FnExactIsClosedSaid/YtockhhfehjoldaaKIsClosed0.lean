/-
Texts in one: what IsClosed stands on, part 0. Conditions: those of each.
-/
import Derived.Test.YtockhhfehjoldaaKNeighboursOf6

/-
The places of the border: what the model gathers. Conditions: the mesh is valid and lies in memory.
-/
namespace Go.Proofs.Ytockhhfehjoldaa
open Go Fk Go.RowKit Go.Maps
set_option linter.unusedVariables false
set_option maxRecDepth 16000

def bpL (es : List (Int × Int)) : List Int := es.foldl (fun acc e => putL (putL acc e.1) e.2) []
theorem bpL_snoc (es : List (Int × Int)) (e : Int × Int) : bpL (es ++ [e]) = putL (putL (bpL es) e.1) e.2 := by unfold bpL; rw [List.foldl_append]; rfl
theorem bp_len (es : List (Int × Int)) : ∀ acc : List Int, (es.foldl (fun acc e => putL (putL acc e.1) e.2) acc).length ≤ acc.length + 2 * es.length := by
  induction es with
  | nil => intro acc; simp
  | cons e es ih =>
    intro acc
    have h1 := ih (putL (putL acc e.1) e.2)
    have h2 := putL_len (putL acc e.1) e.2
    have h3 := putL_len acc e.1
    simp only [List.foldl_cons, List.length_cons]
    omega
theorem bpL_len (es : List (Int × Int)) : (bpL es).length ≤ 2 * es.length := by
  have := bp_len es []
  unfold bpL
  simpa using this
theorem bp_pos : ∀ (es : List (Int × Int)) (acc : List Int), 0 < acc.length → 0 < (es.foldl (fun acc e => putL (putL acc e.1) e.2) acc).length
  | [], acc, h => h
  | e :: es, acc, h => bp_pos es _ (putL_pos _ _)
theorem bpL_nil (es : List (Int × Int)) : decide ((bpL es).length = 0) = decide (es.length = 0) := by
  cases es with
  | nil => rfl
  | cons e es =>
    have := bp_pos es (putL (putL [] e.1) e.2) (putL_pos _ _)
    rw [decide_eq_decide]
    have h2 : (bpL (e :: es)).length = (es.foldl (fun acc e => putL (putL acc e.1) e.2) (putL (putL [] e.1) e.2)).length := rfl
    simp only [List.length_cons]
    omega
theorem mem_bp : ∀ (es : List (Int × Int)) (acc : List Int) (z : Int), z ∈ es.foldl (fun acc e => putL (putL acc e.1) e.2) acc ↔ z ∈ acc ∨ ∃ e ∈ es, z = e.1 ∨ z = e.2
  | [], acc, z => by simp
  | e :: es, acc, z => by
    rw [List.foldl_cons, mem_bp es, mem_putL, mem_putL]
    constructor
    · rintro (((h | h) | h) | ⟨x, hx, h⟩)
      · exact .inl h
      · exact .inr ⟨e, List.mem_cons_self, .inl h⟩
      · exact .inr ⟨e, List.mem_cons_self, .inr h⟩
      · exact .inr ⟨x, List.mem_cons_of_mem _ hx, h⟩
    · rintro (h | ⟨x, hx, h⟩)
      · exact .inl (.inl (.inl h))
      · rcases List.mem_cons.1 hx with rfl | hx
        · rcases h with h | h
          · exact .inl (.inl (.inr h))
          · exact .inl (.inr h)
        · exact .inr ⟨x, hx, h⟩
theorem mem_bpL {es : List (Int × Int)} {z : Int} : z ∈ bpL es ↔ ∃ e ∈ es, z = e.1 ∨ z = e.2 := by
  unfold bpL
  rw [mem_bp]
  simp
theorem bp_rises : ∀ (es : List (Int × Int)) (acc : List Int), Rises acc → Rises (es.foldl (fun acc e => putL (putL acc e.1) e.2) acc)
  | [], acc, h => h
  | e :: es, acc, h => bp_rises es _ (putL_rises (putL_rises h))
theorem bpL_rises (es : List (Int × Int)) : Rises (bpL es) := bp_rises es [] List.Pairwise.nil
set_option maxHeartbeats 8000000 in
theorem l04Border (pb : Nat) (pa ta : Option Addr) (pl pc tl tc : Nat) (cs : List C3) (ts : List (List Int)) (w : World) (a0 : w.cell? ⟨pb, 0, none⟩ = some (.slice pa pl pc)) (a1 : w.cell? ⟨pb, 1, none⟩ = some (.slice ta tl tc)) (hp : IsVs w pa pl pc cs) (ht : IsTs w ta tl tc ts) (hv : validB cs ts = true) :
    Calls Try.prog 85 #[.pointer (some ⟨pb, 0, none⟩)] w fun e w' => ∃ v, e = .returned v ∧ w'.ownsRow w.heap.size 2 1 v (bpL (bdP cs.length ts)).length ((bpL (bdP cs.length ts)).map (Value.int .i64)) ∧ Below w.heap.size w w' := by
  have ui := Try.underlying31
  have hpl := hp.1
  have hll := edT_len cs ts
  obtain ⟨v1, v2⟩ := valid_pl hv
  have HT3 := Lib.hid (fun i (hi : i < ts.length) => tri3_of (valid_rowh hv hi))
  have h3 : ∀ k, k < tl → (ts.getD k []).length = 3 := fun k hk => (tri_partsh (valid_rowh hv (show k < ts.length by have := ht.1; omega))).1
  have H3 := Lib.hid h3
  have HTL := Lib.hid ht.1
  have HTS := Lib.hid ht
  have HL : Hid (tl ≤ 128) := Lib.hid (by have := ht.1; omega)
  have hed : edgesT pl ts = (pairsL (keysE ts) cs.length).map rowP := by rw [hpl]; exact edgesT_pairs _ _
  have J2 := Lib.hid (l02Edges pb pa ta pl pc tl tc cs ts w a0 a1 hp ht hv)
  have hwf : ∀ j, j < (edgesT pl ts).length → ∀ z ∈ (edgesT pl ts).getD j [], (Lit.int .i64 z).wf = true := edge_wf (by have := (valid_pl hv).1; omega)
  have HIM : Hid (∀ k, k < (pairsL (keysE ts) cs.length).length → ∃ m n : Nat, m < n ∧ n < 64 ∧ (pairsL (keysE ts) cs.length).getD k (0, 0) = ((m : Int), (n : Int))) := Lib.hid (fun k hk => by
    have hm : (pairsL (keysE ts) cs.length).getD k (0, 0) ∈ pairsL (keysE ts) cs.length := by
      rw [List.getD, List.getElem?_eq_getElem hk]
      exact List.getElem_mem _
    obtain ⟨a, b, _, hb, hab, _, e⟩ := mem_pairsL.1 hm
    exact ⟨a, b, hab, by omega, e⟩)
  unfold edT at hll
  rw [hv] at hll
  simp only [cond_true] at hll
  rw [edgesT_pairs, List.length_map] at hll
  rw [hed] at J2 hwf
  unfold bdP
  generalize pairsL (keysE ts) cs.length = ps at *
  obtain ⟨L, hL⟩ : ∃ L, preI ts ts.length 0 = L := ⟨_, rfl⟩
  rw [hL]
  have HLI := Lib.hid hL
  have hfin : (ps.filter fun x => !inE L x) = keptE L ps ps.length := by unfold keptE; rw [List.take_length]
  rw [hfin]
  clear hL hfin
  have HWF := Lib.hid hwf
  have HLEN := Lib.hid hll
  have HP := Lib.hid hp
  have C01 := Lib.hid (And.intro a0 a1)
  clear h3 v1 v2 hv hp ht hwf hed hll a0 a1
  go_enter Try.func85, Try.ntmps85
  go_wp2_with fail
  refine J2.out.mono ?_
  rintro e w2 ⟨⟨v, rfl, hvo⟩, hB2⟩
  obtain ⟨ea, ec, rfl, hI⟩ := hvo.is rfl HWF.out
  have HI := Lib.hid hI
  have CB := Lib.hid (And.intro (cell_below hB2 C01.out.1) (cell_below hB2 C01.out.2))
  have HB2 := Lib.hid hB2
  have hlm : (List.map rowP ps).length = ps.length := by simp
  rw [hlm] at HI ⊢
  clear hvo hI hB2 hlm J2 C01
  have hst : (w2.alloc (.cells #[] 2)).ownsRow w2.heap.size 2 1 (.slice (some ⟨w2.heap.size, 0, none⟩) 0 0) 0 [] :=
    World.ownsRow_lit (base := w2.heap.size) (e := 2) (size := 1) w2 #[] 0 (Nat.le_refl _) (by decide) rfl
  have HST := Lib.hid hst
  have HB3 := Lib.hid ((Below.refl w2.heap.size w2).alloc (Nat.le_refl _) (.cells #[] 2))
  clear hst
  go_wp2
  generalize w2.alloc (.cells #[] 2) = W3 at *
  generalize (.slice (some ⟨w2.heap.size, 0, none⟩) 0 0 : Value) = v0 at *
  go_loopw [4, 5] (fun v i w' => ∃ k : Nat, k ≤ ps.length ∧ i = .int .i64 k ∧ Aside (w'.ownsRow w2.heap.size 2 1 v (bpL (keptE L ps k)).length ((bpL (keptE L ps k)).map (Value.int .i64)) ∧ (∀ z ∈ bpL (keptE L ps k), (Lit.int .i64 z).wf = true) ∧ Below w2.heap.size w2 w')) (fun _ i _ => ps.length - (intOf i).toNat)
  case atStart => exact ⟨0, Nat.zero_le _, rfl, HST.out, fun z hz => by simp [keptE, bpL] at hz, HB3.out⟩
  case round =>
    obtain ⟨k, hk, hik, hA⟩ := hrel
    subst hik
    obtain ⟨hO, hwf, hB'⟩ := hA.out
    have HO := Lib.hid hO
    have HW := Lib.hid hwf
    have HBB := Lib.hid (HB2.out.trans (hB'.mono HB2.out.size))
    have HC' := Lib.hid hB'
    by_cases hlt : k < ps.length
    · obtain ⟨bt, ot, rfl, hrow⟩ := HI.out.some (by omega)
      obtain ⟨r1, n1, q1, cr0, ir⟩ := hrow k hlt
      obtain ⟨m, n, hmn, hn64, hek⟩ := HIM.out k hlt
      have hrk : (List.map rowP ps).getD k [] = rowP (ps.getD k (0, 0)) := by simp [List.getD, hlt]
      rw [hrk] at ir
      have hn1 : n1 = 2 := by have := ir.1; simpa [rowP] using this.symm
      subst hn1
      obtain ⟨br, orr, rfl, hcell⟩ := ir.some (by omega)
      have e0 := cell_below hB' (hcell 0 (by omega))
      have e1 := cell_below hB' (hcell 1 (by omega))
      rw [hek] at e0 e1
      simp only [rowP, List.getD_cons_zero, List.getD_cons_succ, Nat.add_zero] at e0 e1
      have cr := cell_below hB' cr0
      have kb0 := cell_below hB' CB.out.1
      have kb1 := cell_below hB' CB.out.2
      have hk0 : (0 : Int) ≤ (k : Int) := by omega
      have hk1 : (k : Int) < (ps.length : Int) := by omega
      have HKLEN : Hid ((bpL (keptE L ps k)).length ≤ 2 * 4096) := Lib.hid (by have := keptE_len L ps k; have := bpL_len (keptE L ps k); have := HLEN.out; omega)
      have hga : (grp L (ps.getD k (0, 0))).length = (atL ts (m : Int) (n : Int) tl).length := by
        rw [hek, ← HLI.out, ← HTL.out]
        exact grp_at HT3.out (by omega) ts.length (Nat.le_refl _)
      have hnx := keptE_next (L := L) (es := ps) (j := k) hlt
      have hmm8 : (atL ts (m : Int) (n : Int) tl).length ≤ 128 := Nat.le_trans (atL_len _ _ _ _) HL.out
      obtain ⟨mm, hmm⟩ : ∃ mm, (atL ts (m : Int) (n : Int) tl).length = mm := ⟨_, rfl⟩
      rw [hmm] at hga hmm8
      have HMM := Lib.hid hmm
      have wm : (Lit.int .i64 (m : Int)).wf = true := WalkArith.wf_i64 (by omega)
      have wn : (Lit.int .i64 (n : Int)).wf = true := WalkArith.wf_i64 (by omega)
      have WMN := Lib.hid (And.intro wm wn)
      clear wm wn
      by_cases h1 : mm = 1
      · have hin : inE L (ps.getD k (0, 0)) = false := by unfold inE; rw [hga, h1]; rfl
        rw [hin] at hnx
        have HNX : Hid (bpL (keptE L ps (k + 1)) = putL (putL (bpL (keptE L ps k)) (m : Int)) (n : Int)) := Lib.hid (by
          have e : keptE L ps (k + 1) = keptE L ps k ++ [ps.getD k (0, 0)] := hnx
          rw [e, bpL_snoc, hek])
        clear hA hO hB' hrow ir hcell hek hrk hlt hmn cr0 hga hnx hmm hin hwf
        subst h1
        go_wp2_with fail
        refine Reg.wp_region_mix (C := fun w' => Below wr.heap.size wr w') (G := fun _ _ => True) (R := fun i v w' => match i with
          | 0 => v = .pointer (some ⟨pb, 0, none⟩)
          | 1 => v = .slice (some ⟨bt, ot, none⟩) ps.length ec
          | 2 => v = .int .i64 (k : Int)
          | 3 => v = .pointer (some ⟨bt, ot + k, none⟩)
          | 4 => v = .slice (some ⟨br, orr, none⟩) 2 q1
          | 5 => v = .pointer (some ⟨br, orr, none⟩)
          | 6 => v = .int .i64 (m : Int)
          | 7 => v = .slice (some ⟨bt, ot, none⟩) ps.length ec
          | 8 => v = .int .i64 (k : Int)
          | 9 => v = .pointer (some ⟨bt, ot + k, none⟩)
          | 10 => v = .slice (some ⟨br, orr, none⟩) 2 q1
          | 11 => v = .pointer (some ⟨br, orr + 1, none⟩)
          | 12 => v = .int .i64 (n : Int)
          | 13 => ∃ r c, v = .slice r 1 c
          | 14 => v = .int .i64 ((1 : Nat) : Int)
          | 15 => v = .bool true
          | _ => True) (T := fun _ _ _ => True) [false, false, false, false, false, false, false, false, false, false, false, false, false, false, false, true, true, true, true, true, true, true, true, true, true, true, true, true, true, true, true, false, false, false, false, false, false, false, false, false, false, false, false, false, false, false, false]
          (by kernel_rfl) (by kernel_rfl) (by kernel_rfl) ?_ (below_drewN (Below.refl _ _) 1) ?_ ?_
        · intro j v wa wb _ hG hR
          match j with
          | 0 => exact hR
          | 1 => exact hR
          | 2 => exact hR
          | 3 => exact hR
          | 4 => exact hR
          | 5 => exact hR
          | 6 => exact hR
          | 7 => exact hR
          | 8 => exact hR
          | 9 => exact hR
          | 10 => exact hR
          | 11 => exact hR
          | 12 => exact hR
          | 13 => exact hR
          | 14 => exact hR
          | 15 => exact hR
          | _ + 16 => trivial
        · refine ⟨Reg.Obl.mk ?_, Reg.Obl.mk ?_, Reg.Obl.mk ?_, Reg.Obl.mk ?_, Reg.Obl.mk ?_, Reg.Obl.mk ?_, Reg.Obl.mk ?_, Reg.Obl.mk ?_, Reg.Obl.mk ?_, Reg.Obl.mk ?_, Reg.Obl.mk ?_, Reg.Obl.mk ?_, Reg.Obl.mk ?_, Reg.Obl.mk ?_, Reg.Obl.mk ?_, Reg.Obl.mk ?_, trivial⟩
          · rintro av wq hC hx hd K hK
            have HC := Lib.hid hC
            clear hC
            have t0 : av.tmps[0]?.getD undef = .pointer (some ⟨pb, 0, none⟩) := Reg.slot_val (hx 0 (by kernel_rfl))
            go_simp
            exact hK _ _ (fun _ => rfl) (fun h => by cases h) HC.out trivial
          · rintro av wq hC hx hd K hK
            have HC := Lib.hid hC
            clear hC
            have t3 : av.tmps[3]?.getD undef = .slice (some ⟨bt, ot, none⟩) ps.length ec := Reg.slot_val (hx 3 (by kernel_rfl))
            go_simp
            exact hK _ _ (fun _ => rfl) (fun h => by cases h) HC.out trivial
          · rintro av wq hC hx hd K hK
            have HC := Lib.hid hC
            clear hC
            have t5 : av.tmps[5]?.getD undef = .int .i64 (k : Int) := Reg.slot_val (hx 5 (by kernel_rfl))
            go_simp
            exact hK _ _ (fun _ => rfl) (fun h => by cases h) HC.out trivial
          · rintro av wq hC hx hd K hK
            have HC := Lib.hid hC
            clear hC
            have t16 : av.tmps[16]?.getD undef = .slice (some ⟨bt, ot, none⟩) ps.length ec := Reg.slot_val (hd 1 (by kernel_rfl) 16 rfl)
            have t17 : av.tmps[17]?.getD undef = .int .i64 (k : Int) := Reg.slot_val (hd 2 (by kernel_rfl) 17 rfl)
            go_simp
            exact hK _ _ (fun _ => rfl) (fun h => by cases h) HC.out trivial
          · rintro av wq hC hx hd K hK
            have HC := Lib.hid hC
            clear hC
            have t18 : av.tmps[18]?.getD undef = .pointer (some ⟨bt, ot + k, none⟩) := Reg.slot_val (hd 3 (by kernel_rfl) 18 rfl)
            have y0 := cell_below HC.out cr
            go_simp
            exact hK _ _ (fun _ => rfl) (fun h => by cases h) HC.out trivial
          · rintro av wq hC hx hd K hK
            have HC := Lib.hid hC
            clear hC
            have t19 : av.tmps[19]?.getD undef = .slice (some ⟨br, orr, none⟩) 2 q1 := Reg.slot_val (hd 4 (by kernel_rfl) 19 rfl)
            go_simp
            exact hK _ _ (fun _ => rfl) (fun h => by cases h) HC.out trivial
          · rintro av wq hC hx hd K hK
            have HC := Lib.hid hC
            clear hC
            have t20 : av.tmps[20]?.getD undef = .pointer (some ⟨br, orr, none⟩) := Reg.slot_val (hd 5 (by kernel_rfl) 20 rfl)
            have y0 := cell_below HC.out e0
            go_simp
            exact hK _ _ (fun _ => rfl) (fun h => by cases h) HC.out trivial
          · rintro av wq hC hx hd K hK
            have HC := Lib.hid hC
            clear hC
            have t3 : av.tmps[3]?.getD undef = .slice (some ⟨bt, ot, none⟩) ps.length ec := Reg.slot_val (hx 3 (by kernel_rfl))
            go_simp
            exact hK _ _ (fun _ => rfl) (fun h => by cases h) HC.out trivial
          · rintro av wq hC hx hd K hK
            have HC := Lib.hid hC
            clear hC
            have t5 : av.tmps[5]?.getD undef = .int .i64 (k : Int) := Reg.slot_val (hx 5 (by kernel_rfl))
            go_simp
            exact hK _ _ (fun _ => rfl) (fun h => by cases h) HC.out trivial
          · rintro av wq hC hx hd K hK
            have HC := Lib.hid hC
            clear hC
            have t22 : av.tmps[22]?.getD undef = .slice (some ⟨bt, ot, none⟩) ps.length ec := Reg.slot_val (hd 7 (by kernel_rfl) 22 rfl)
            have t23 : av.tmps[23]?.getD undef = .int .i64 (k : Int) := Reg.slot_val (hd 8 (by kernel_rfl) 23 rfl)
            go_simp
            exact hK _ _ (fun _ => rfl) (fun h => by cases h) HC.out trivial
          · rintro av wq hC hx hd K hK
            have HC := Lib.hid hC
            clear hC
            have t24 : av.tmps[24]?.getD undef = .pointer (some ⟨bt, ot + k, none⟩) := Reg.slot_val (hd 9 (by kernel_rfl) 24 rfl)
            have y0 := cell_below HC.out cr
            go_simp
            exact hK _ _ (fun _ => rfl) (fun h => by cases h) HC.out trivial
          · rintro av wq hC hx hd K hK
            have HC := Lib.hid hC
            clear hC
            have t25 : av.tmps[25]?.getD undef = .slice (some ⟨br, orr, none⟩) 2 q1 := Reg.slot_val (hd 10 (by kernel_rfl) 25 rfl)
            go_simp
            exact hK _ _ (fun _ => rfl) (fun h => by cases h) HC.out trivial
          · rintro av wq hC hx hd K hK
            have HC := Lib.hid hC
            clear hC
            have t26 : av.tmps[26]?.getD undef = .pointer (some ⟨br, orr + 1, none⟩) := Reg.slot_val (hd 11 (by kernel_rfl) 26 rfl)
            have y0 := cell_below HC.out e1
            go_simp
            exact hK _ _ (fun _ => rfl) (fun h => by cases h) HC.out trivial
          · rintro av wq hC hx hd K hK
            have HC := Lib.hid hC
            clear hC
            have t15 : av.tmps[15]?.getD undef = .pointer (some ⟨pb, 0, none⟩) := Reg.slot_val (hd 0 (by kernel_rfl) 15 rfl)
            have t21 : av.tmps[21]?.getD undef = .int .i64 (m : Int) := Reg.slot_val (hd 6 (by kernel_rfl) 21 rfl)
            have t27 : av.tmps[27]?.getD undef = .int .i64 (n : Int) := Reg.slot_val (hd 12 (by kernel_rfl) 27 rfl)
            go_simp
            refine (l02At pb pl pc tl tc pa ta ts (m : Int) (n : Int) wq (cell_below HC.out kb0) (cell_below HC.out kb1) (HTS.out.below (HBB.out.trans (HC.out.mono HBB.out.size))) H3.out HL.out).mono ?_
            rintro en w2' ⟨v, rfl, ho, hB2⟩
            obtain ⟨r, c, rfl⟩ := owns_slice ho
            rw [HMM.out]
            exact hK _ _ (fun _ => ⟨r, c, rfl⟩) (fun h => by cases h) (HC.out.trans (hB2.mono HC.out.size)) trivial
          · rintro av wq hC hx hd K hK
            have HC := Lib.hid hC
            clear hC
            obtain ⟨r, c, g28⟩ := hd 13 (by kernel_rfl) 28 rfl
            have t28 := Reg.slot_val g28
            clear g28
            go_simp
            exact hK _ _ (fun _ => rfl) (fun h => by cases h) HC.out trivial
          · rintro av wq hC hx hd K hK
            have HC := Lib.hid hC
            clear hC
            have t29 : av.tmps[29]?.getD undef = .int .i64 ((1 : Nat) : Int) := Reg.slot_val (hd 14 (by kernel_rfl) 29 rfl)
            go_simp
            exact hK _ _ (fun _ => rfl) (fun h => by cases h) HC.out trivial
        · rintro f wz hBz hR hT
          have g30 : f 30 = .bool true := hR 15 30 rfl
          simp only [Reg.mixL, Nat.zero_add, Nat.reduceAdd, g30]
          have zr := cell_below hBz cr
          have z0 := cell_below hBz e0
          have z1 := cell_below hBz e1
          have HBZ := Lib.hid hBz
          obtain ⟨va, vc, hva, hvi, _⟩ := owns_list (owns_up HO.out hBz) HW.out
          subst hva
          have HVI := Lib.hid hvi
          have hsz := hBz.size
          have hsz2 := HC'.out.size
          clear hBz hR hT g30 cr e0 e1 kb0 kb1 hvi
          go_wp2_with fail
          refine Reg.wp_region_mix (C := fun w' => Below wz.heap.size wz w') (G := fun w1 w2 => Below w1.heap.size w1 w2) (R := fun i v w' => match i with
            | 0 => v = .slice va (bpL (keptE L ps k)).length vc
            | 1 => v = .slice (some ⟨bt, ot, none⟩) ps.length ec
            | 2 => v = .int .i64 (k : Int)
            | 3 => v = .pointer (some ⟨bt, ot + k, none⟩)
            | 4 => v = .slice (some ⟨br, orr, none⟩) 2 q1
            | 5 => v = .pointer (some ⟨br, orr, none⟩)
            | 6 => v = .int .i64 (m : Int)
            | 7 => ∃ a c, v = .slice a (putL (bpL (keptE L ps k)) (m : Int)).length c ∧ IsIs w' a (putL (bpL (keptE L ps k)) (m : Int)).length c (putL (bpL (keptE L ps k)) (m : Int))
            | 8 => v = .slice (some ⟨bt, ot, none⟩) ps.length ec
            | 9 => v = .int .i64 (k : Int)
            | 10 => v = .pointer (some ⟨bt, ot + k, none⟩)
            | 11 => v = .slice (some ⟨br, orr, none⟩) 2 q1
            | 12 => v = .pointer (some ⟨br, orr + 1, none⟩)
            | 13 => v = .int .i64 (n : Int)
            | 14 => w'.ownsRow wz.heap.size 2 1 v (putL (putL (bpL (keptE L ps k)) (m : Int)) (n : Int)).length ((putL (putL (bpL (keptE L ps k)) (m : Int)) (n : Int)).map (Value.int .i64))
            | 15 => w'.ownsRow wz.heap.size 2 1 v (putL (putL (bpL (keptE L ps k)) (m : Int)) (n : Int)).length ((putL (putL (bpL (keptE L ps k)) (m : Int)) (n : Int)).map (Value.int .i64))
            | _ => True) (T := fun _ _ _ => True) [false, false, false, false, true, false, false, false, false, false, false, false, false, false, false, false, false, false, false, false, false, false, false, false, false, false, false, false, false, false, false, true, true, true, true, true, true, true, true, true, true, true, true, true, true, true, false]
            (by kernel_rfl) (by kernel_rfl) (by kernel_rfl) ?_ (below_drewN (Below.refl _ _) 1) ?_ ?_
          · intro j v wa wb _ hG hR
            match j with
            | 0 => exact hR
            | 1 => exact hR
            | 2 => exact hR
            | 3 => exact hR
            | 4 => exact hR
            | 5 => exact hR
            | 6 => exact hR
            | 7 => obtain ⟨a, c, e, h⟩ := hR; exact ⟨a, c, e, h.below hG⟩
            | 8 => exact hR
            | 9 => exact hR
            | 10 => exact hR
            | 11 => exact hR
            | 12 => exact hR
            | 13 => exact hR
            | 14 => exact owns_up hR hG
            | 15 => exact owns_up hR hG
            | _ + 16 => trivial
          · refine ⟨Reg.Obl.mk ?_, Reg.Obl.mk ?_, Reg.Obl.mk ?_, Reg.Obl.mk ?_, Reg.Obl.mk ?_, Reg.Obl.mk ?_, Reg.Obl.mk ?_, Reg.Obl.mk ?_, Reg.Obl.mk ?_, Reg.Obl.mk ?_, Reg.Obl.mk ?_, Reg.Obl.mk ?_, Reg.Obl.mk ?_, Reg.Obl.mk ?_, Reg.Obl.mk ?_, Reg.Obl.mk ?_, trivial⟩
            · rintro av wq hC hx hd K hK
              have HC := Lib.hid hC
              clear hC
              have t4 : av.tmps[4]?.getD undef = .slice va (bpL (keptE L ps k)).length vc := Reg.slot_val (hx 4 (by kernel_rfl))
              go_simp
              exact hK _ _ (fun _ => rfl) (fun h => by cases h) HC.out (Below.refl _ _)
            · rintro av wq hC hx hd K hK
              have HC := Lib.hid hC
              clear hC
              have t3 : av.tmps[3]?.getD undef = .slice (some ⟨bt, ot, none⟩) ps.length ec := Reg.slot_val (hx 3 (by kernel_rfl))
              go_simp
              exact hK _ _ (fun _ => rfl) (fun h => by cases h) HC.out (Below.refl _ _)
            · rintro av wq hC hx hd K hK
              have HC := Lib.hid hC
              clear hC
              have t5 : av.tmps[5]?.getD undef = .int .i64 (k : Int) := Reg.slot_val (hx 5 (by kernel_rfl))
              go_simp
              exact hK _ _ (fun _ => rfl) (fun h => by cases h) HC.out (Below.refl _ _)
            · rintro av wq hC hx hd K hK
              have HC := Lib.hid hC
              clear hC
              have t32 : av.tmps[32]?.getD undef = .slice (some ⟨bt, ot, none⟩) ps.length ec := Reg.slot_val (hd 1 (by kernel_rfl) 32 rfl)
              have t33 : av.tmps[33]?.getD undef = .int .i64 (k : Int) := Reg.slot_val (hd 2 (by kernel_rfl) 33 rfl)
              go_simp
              exact hK _ _ (fun _ => rfl) (fun h => by cases h) HC.out (Below.refl _ _)
            · rintro av wq hC hx hd K hK
              have HC := Lib.hid hC
              clear hC
              have t34 : av.tmps[34]?.getD undef = .pointer (some ⟨bt, ot + k, none⟩) := Reg.slot_val (hd 3 (by kernel_rfl) 34 rfl)
              have y0 := cell_below HC.out zr
              go_simp
              exact hK _ _ (fun _ => rfl) (fun h => by cases h) HC.out (Below.refl _ _)
            · rintro av wq hC hx hd K hK
              have HC := Lib.hid hC
              clear hC
              have t35 : av.tmps[35]?.getD undef = .slice (some ⟨br, orr, none⟩) 2 q1 := Reg.slot_val (hd 4 (by kernel_rfl) 35 rfl)
              go_simp
              exact hK _ _ (fun _ => rfl) (fun h => by cases h) HC.out (Below.refl _ _)
            · rintro av wq hC hx hd K hK
              have HC := Lib.hid hC
              clear hC
              have t36 : av.tmps[36]?.getD undef = .pointer (some ⟨br, orr, none⟩) := Reg.slot_val (hd 5 (by kernel_rfl) 36 rfl)
              have y0 := cell_below HC.out z0
              go_simp
              exact hK _ _ (fun _ => rfl) (fun h => by cases h) HC.out (Below.refl _ _)
            · rintro av wq hC hx hd K hK
              have HC := Lib.hid hC
              clear hC
              have t31 : av.tmps[31]?.getD undef = .slice va (bpL (keptE L ps k)).length vc := Reg.slot_val (hd 0 (by kernel_rfl) 31 rfl)
              have t37 : av.tmps[37]?.getD undef = .int .i64 (m : Int) := Reg.slot_val (hd 6 (by kernel_rfl) 37 rfl)
              have hV := HVI.out.below HC.out
              go_simp
              refine (l00Put _ _ _ _ (m : Int) wq hV (by have := HKLEN.out; omega)).mono ?_
              rintro en w9 ⟨v, rfl, ho, hB9⟩
              obtain ⟨a9, c9, rfl, hI9, _⟩ := owns_list ho (putL_wf HW.out WMN.out.1)
              exact hK _ _ (fun _ => ⟨a9, c9, rfl, hI9⟩) (fun h => by cases h) (HC.out.trans (hB9.mono HC.out.size)) hB9
            · rintro av wq hC hx hd K hK
              have HC := Lib.hid hC
              clear hC
              have t3 : av.tmps[3]?.getD undef = .slice (some ⟨bt, ot, none⟩) ps.length ec := Reg.slot_val (hx 3 (by kernel_rfl))
              go_simp
              exact hK _ _ (fun _ => rfl) (fun h => by cases h) HC.out (Below.refl _ _)
            · rintro av wq hC hx hd K hK
              have HC := Lib.hid hC
              clear hC
              have t5 : av.tmps[5]?.getD undef = .int .i64 (k : Int) := Reg.slot_val (hx 5 (by kernel_rfl))
              go_simp
              exact hK _ _ (fun _ => rfl) (fun h => by cases h) HC.out (Below.refl _ _)
            · rintro av wq hC hx hd K hK
              have HC := Lib.hid hC
              clear hC
              have t39 : av.tmps[39]?.getD undef = .slice (some ⟨bt, ot, none⟩) ps.length ec := Reg.slot_val (hd 8 (by kernel_rfl) 39 rfl)
              have t40 : av.tmps[40]?.getD undef = .int .i64 (k : Int) := Reg.slot_val (hd 9 (by kernel_rfl) 40 rfl)
              go_simp
              exact hK _ _ (fun _ => rfl) (fun h => by cases h) HC.out (Below.refl _ _)
            · rintro av wq hC hx hd K hK
              have HC := Lib.hid hC
              clear hC
              have t41 : av.tmps[41]?.getD undef = .pointer (some ⟨bt, ot + k, none⟩) := Reg.slot_val (hd 10 (by kernel_rfl) 41 rfl)
              have y0 := cell_below HC.out zr
              go_simp
              exact hK _ _ (fun _ => rfl) (fun h => by cases h) HC.out (Below.refl _ _)
            · rintro av wq hC hx hd K hK
              have HC := Lib.hid hC
              clear hC
              have t42 : av.tmps[42]?.getD undef = .slice (some ⟨br, orr, none⟩) 2 q1 := Reg.slot_val (hd 11 (by kernel_rfl) 42 rfl)
              go_simp
              exact hK _ _ (fun _ => rfl) (fun h => by cases h) HC.out (Below.refl _ _)
            · rintro av wq hC hx hd K hK
              have HC := Lib.hid hC
              clear hC
              have t43 : av.tmps[43]?.getD undef = .pointer (some ⟨br, orr + 1, none⟩) := Reg.slot_val (hd 12 (by kernel_rfl) 43 rfl)
              have y0 := cell_below HC.out z1
              go_simp
              exact hK _ _ (fun _ => rfl) (fun h => by cases h) HC.out (Below.refl _ _)
            · rintro av wq hC hx hd K hK
              have HC := Lib.hid hC
              clear hC
              have t44 : av.tmps[44]?.getD undef = .int .i64 (n : Int) := Reg.slot_val (hd 13 (by kernel_rfl) 44 rfl)
              obtain ⟨a8, c8, g38, hV⟩ := hd 7 (by kernel_rfl) 38 rfl
              have t38 := Reg.slot_val g38
              clear g38
              go_simp
              refine (l00Put _ _ _ _ (n : Int) wq hV (by have := HKLEN.out; have := putL_len (bpL (keptE L ps k)) (m : Int); omega)).mono ?_
              rintro en w9 ⟨v, rfl, ho, hB9⟩
              exact hK _ _ (fun _ => owns_mono ho HC.out.size) (fun h => by cases h) (HC.out.trans (hB9.mono HC.out.size)) hB9
            · rintro av wq hC hx hd K hK
              have HC := Lib.hid hC
              clear hC
              have h45 := hd 14 (by kernel_rfl) 45 rfl
              obtain ⟨u, hu⟩ : ∃ u, av.eval (.tmp 45) = u := ⟨_, rfl⟩
              rw [hu] at h45
              have t45 := Reg.slot_val hu
              have HO45 := Lib.hid h45
              clear h45 hu
              go_simp
              exact hK _ _ (fun _ => HO45.out) (fun h => by cases h) HC.out (Below.refl _ _)
          · rintro ff w9 hB9 hd hT
            have g4 := hd 15 4 rfl
            obtain ⟨u, hu⟩ : ∃ u, ff 4 = u := ⟨_, rfl⟩
            rw [hu] at g4
            have HO9 := Lib.hid (owns_mono g4 (show w2.heap.size ≤ wz.heap.size by omega))
            have HB9 := Lib.hid ((HC'.out.trans (HBZ.out.mono HC'.out.size)).trans (hB9.mono (HC'.out.trans (HBZ.out.mono HC'.out.size)).size))
            have hlen4 := HLEN.out
            simp only [Reg.mixL, Nat.zero_add, Nat.reduceAdd, hu]
            clear hB9 hd hT g4 hu
            go_wp2
            go_roundw
            case rel => exact ⟨k + 1, by omega, by go_num, by rw [HNX.out]; exact HO9.out, by rw [HNX.out]; exact putL_wf (putL_wf HW.out WMN.out.1) WMN.out.2, HB9.out⟩
            case measure => simp [intOf]; omega
      · have hin : inE L (ps.getD k (0, 0)) = true := by unfold inE; rw [hga]; exact decide_eq_true h1
        rw [hin] at hnx
        have HNX : Hid (keptE L ps (k + 1) = keptE L ps k) := Lib.hid (by
          have e : keptE L ps (k + 1) = keptE L ps k ++ [] := hnx
          rw [e, List.append_nil])
        have h2 : ((mm : Int) == 1) = false := beq_eq_false_iff_ne.2 (by omega)
        clear hA hO hB' hrow ir hcell hek hrk hlt hmn cr0 hga hnx hmm hin hwf
        go_wp2_with fail
        refine Reg.wp_region_mix (C := fun w' => Below wr.heap.size wr w') (G := fun _ _ => True) (R := fun i v w' => match i with
          | 0 => v = .pointer (some ⟨pb, 0, none⟩)
          | 1 => v = .slice (some ⟨bt, ot, none⟩) ps.length ec
          | 2 => v = .int .i64 (k : Int)
          | 3 => v = .pointer (some ⟨bt, ot + k, none⟩)
          | 4 => v = .slice (some ⟨br, orr, none⟩) 2 q1
          | 5 => v = .pointer (some ⟨br, orr, none⟩)
          | 6 => v = .int .i64 (m : Int)
          | 7 => v = .slice (some ⟨bt, ot, none⟩) ps.length ec
          | 8 => v = .int .i64 (k : Int)
          | 9 => v = .pointer (some ⟨bt, ot + k, none⟩)
          | 10 => v = .slice (some ⟨br, orr, none⟩) 2 q1
          | 11 => v = .pointer (some ⟨br, orr + 1, none⟩)
          | 12 => v = .int .i64 (n : Int)
          | 13 => ∃ r c, v = .slice r mm c
          | 14 => v = .int .i64 (mm : Int)
          | 15 => v = .bool false
          | _ => True) (T := fun _ _ _ => True) [false, false, false, false, false, false, false, false, false, false, false, false, false, false, false, true, true, true, true, true, true, true, true, true, true, true, true, true, true, true, true, false, false, false, false, false, false, false, false, false, false, false, false, false, false, false, false]
          (by kernel_rfl) (by kernel_rfl) (by kernel_rfl) ?_ (below_drewN (Below.refl _ _) 1) ?_ ?_
        · intro j v wa wb _ hG hR
          match j with
          | 0 => exact hR
          | 1 => exact hR
          | 2 => exact hR
          | 3 => exact hR
          | 4 => exact hR
          | 5 => exact hR
          | 6 => exact hR
          | 7 => exact hR
          | 8 => exact hR
          | 9 => exact hR
          | 10 => exact hR
          | 11 => exact hR
          | 12 => exact hR
          | 13 => exact hR
          | 14 => exact hR
          | 15 => exact hR
          | _ + 16 => trivial
        · refine ⟨Reg.Obl.mk ?_, Reg.Obl.mk ?_, Reg.Obl.mk ?_, Reg.Obl.mk ?_, Reg.Obl.mk ?_, Reg.Obl.mk ?_, Reg.Obl.mk ?_, Reg.Obl.mk ?_, Reg.Obl.mk ?_, Reg.Obl.mk ?_, Reg.Obl.mk ?_, Reg.Obl.mk ?_, Reg.Obl.mk ?_, Reg.Obl.mk ?_, Reg.Obl.mk ?_, Reg.Obl.mk ?_, trivial⟩
          · rintro av wq hC hx hd K hK
            have HC := Lib.hid hC
            clear hC
            have t0 : av.tmps[0]?.getD undef = .pointer (some ⟨pb, 0, none⟩) := Reg.slot_val (hx 0 (by kernel_rfl))
            go_simp
            exact hK _ _ (fun _ => rfl) (fun h => by cases h) HC.out trivial
          · rintro av wq hC hx hd K hK
            have HC := Lib.hid hC
            clear hC
            have t3 : av.tmps[3]?.getD undef = .slice (some ⟨bt, ot, none⟩) ps.length ec := Reg.slot_val (hx 3 (by kernel_rfl))
            go_simp
            exact hK _ _ (fun _ => rfl) (fun h => by cases h) HC.out trivial
          · rintro av wq hC hx hd K hK
            have HC := Lib.hid hC
            clear hC
            have t5 : av.tmps[5]?.getD undef = .int .i64 (k : Int) := Reg.slot_val (hx 5 (by kernel_rfl))
            go_simp
            exact hK _ _ (fun _ => rfl) (fun h => by cases h) HC.out trivial
          · rintro av wq hC hx hd K hK
            have HC := Lib.hid hC
            clear hC
            have t16 : av.tmps[16]?.getD undef = .slice (some ⟨bt, ot, none⟩) ps.length ec := Reg.slot_val (hd 1 (by kernel_rfl) 16 rfl)
            have t17 : av.tmps[17]?.getD undef = .int .i64 (k : Int) := Reg.slot_val (hd 2 (by kernel_rfl) 17 rfl)
            go_simp
            exact hK _ _ (fun _ => rfl) (fun h => by cases h) HC.out trivial
          · rintro av wq hC hx hd K hK
            have HC := Lib.hid hC
            clear hC
            have t18 : av.tmps[18]?.getD undef = .pointer (some ⟨bt, ot + k, none⟩) := Reg.slot_val (hd 3 (by kernel_rfl) 18 rfl)
            have y0 := cell_below HC.out cr
            go_simp
            exact hK _ _ (fun _ => rfl) (fun h => by cases h) HC.out trivial
          · rintro av wq hC hx hd K hK
            have HC := Lib.hid hC
            clear hC
            have t19 : av.tmps[19]?.getD undef = .slice (some ⟨br, orr, none⟩) 2 q1 := Reg.slot_val (hd 4 (by kernel_rfl) 19 rfl)
            go_simp
            exact hK _ _ (fun _ => rfl) (fun h => by cases h) HC.out trivial
          · rintro av wq hC hx hd K hK
            have HC := Lib.hid hC
            clear hC
            have t20 : av.tmps[20]?.getD undef = .pointer (some ⟨br, orr, none⟩) := Reg.slot_val (hd 5 (by kernel_rfl) 20 rfl)
            have y0 := cell_below HC.out e0
            go_simp
            exact hK _ _ (fun _ => rfl) (fun h => by cases h) HC.out trivial
          · rintro av wq hC hx hd K hK
            have HC := Lib.hid hC
            clear hC
            have t3 : av.tmps[3]?.getD undef = .slice (some ⟨bt, ot, none⟩) ps.length ec := Reg.slot_val (hx 3 (by kernel_rfl))
            go_simp
            exact hK _ _ (fun _ => rfl) (fun h => by cases h) HC.out trivial
          · rintro av wq hC hx hd K hK
            have HC := Lib.hid hC
            clear hC
            have t5 : av.tmps[5]?.getD undef = .int .i64 (k : Int) := Reg.slot_val (hx 5 (by kernel_rfl))
            go_simp
            exact hK _ _ (fun _ => rfl) (fun h => by cases h) HC.out trivial
          · rintro av wq hC hx hd K hK
            have HC := Lib.hid hC
            clear hC
            have t22 : av.tmps[22]?.getD undef = .slice (some ⟨bt, ot, none⟩) ps.length ec := Reg.slot_val (hd 7 (by kernel_rfl) 22 rfl)
            have t23 : av.tmps[23]?.getD undef = .int .i64 (k : Int) := Reg.slot_val (hd 8 (by kernel_rfl) 23 rfl)
            go_simp
            exact hK _ _ (fun _ => rfl) (fun h => by cases h) HC.out trivial
          · rintro av wq hC hx hd K hK
            have HC := Lib.hid hC
            clear hC
            have t24 : av.tmps[24]?.getD undef = .pointer (some ⟨bt, ot + k, none⟩) := Reg.slot_val (hd 9 (by kernel_rfl) 24 rfl)
            have y0 := cell_below HC.out cr
            go_simp
            exact hK _ _ (fun _ => rfl) (fun h => by cases h) HC.out trivial
          · rintro av wq hC hx hd K hK
            have HC := Lib.hid hC
            clear hC
            have t25 : av.tmps[25]?.getD undef = .slice (some ⟨br, orr, none⟩) 2 q1 := Reg.slot_val (hd 10 (by kernel_rfl) 25 rfl)
            go_simp
            exact hK _ _ (fun _ => rfl) (fun h => by cases h) HC.out trivial
          · rintro av wq hC hx hd K hK
            have HC := Lib.hid hC
            clear hC
            have t26 : av.tmps[26]?.getD undef = .pointer (some ⟨br, orr + 1, none⟩) := Reg.slot_val (hd 11 (by kernel_rfl) 26 rfl)
            have y0 := cell_below HC.out e1
            go_simp
            exact hK _ _ (fun _ => rfl) (fun h => by cases h) HC.out trivial
          · rintro av wq hC hx hd K hK
            have HC := Lib.hid hC
            clear hC
            have t15 : av.tmps[15]?.getD undef = .pointer (some ⟨pb, 0, none⟩) := Reg.slot_val (hd 0 (by kernel_rfl) 15 rfl)
            have t21 : av.tmps[21]?.getD undef = .int .i64 (m : Int) := Reg.slot_val (hd 6 (by kernel_rfl) 21 rfl)
            have t27 : av.tmps[27]?.getD undef = .int .i64 (n : Int) := Reg.slot_val (hd 12 (by kernel_rfl) 27 rfl)
            go_simp
            refine (l02At pb pl pc tl tc pa ta ts (m : Int) (n : Int) wq (cell_below HC.out kb0) (cell_below HC.out kb1) (HTS.out.below (HBB.out.trans (HC.out.mono HBB.out.size))) H3.out HL.out).mono ?_
            rintro en w2' ⟨v, rfl, ho, hB2⟩
            obtain ⟨r, c, rfl⟩ := owns_slice ho
            rw [HMM.out]
            exact hK _ _ (fun _ => ⟨r, c, rfl⟩) (fun h => by cases h) (HC.out.trans (hB2.mono HC.out.size)) trivial
          · rintro av wq hC hx hd K hK
            have HC := Lib.hid hC
            clear hC
            obtain ⟨r, c, g28⟩ := hd 13 (by kernel_rfl) 28 rfl
            have t28 := Reg.slot_val g28
            clear g28
            go_simp
            exact hK _ _ (fun _ => rfl) (fun h => by cases h) HC.out trivial
          · rintro av wq hC hx hd K hK
            have HC := Lib.hid hC
            clear hC
            have t29 : av.tmps[29]?.getD undef = .int .i64 (mm : Int) := Reg.slot_val (hd 14 (by kernel_rfl) 29 rfl)
            go_simp
            exact hK _ _ (fun _ => rfl) (fun h => by cases h) HC.out trivial
        · rintro f wz hBz hR hT
          have g30 : f 30 = .bool false := hR 15 30 rfl
          simp only [Reg.mixL, Nat.zero_add, Nat.reduceAdd, g30]
          have HBZ := Lib.hid hBz
          have hsz := HC'.out.size
          have hlen4 := HLEN.out
          clear hBz hR hT g30
          go_wp2
          go_roundw
          case rel => exact ⟨k + 1, by omega, by go_num, by rw [HNX.out]; exact owns_up HO.out HBZ.out, by rw [HNX.out]; exact HW.out, HC'.out.trans (HBZ.out.mono HC'.out.size)⟩
          case measure => simp [intOf]; omega
    · obtain rfl : k = ps.length := by omega
      have HOF := Lib.hid (owns_mono HO.out HB2.out.size)
      clear hA hO hwf hB'
      go_wp2
      go_ret
      exact ⟨_, rfl, HOF.out, HBB.out⟩
end Go.Proofs.Ytockhhfehjoldaa


/-
Whether a mesh is a sheet: what the program returns. Conditions: the mesh lies in memory.
-/
namespace Go.Proofs.Ytockhhfehjoldaa
open Go Fk Go.RowKit Go.Maps
set_option linter.unusedVariables false
set_option maxRecDepth 16000

set_option maxHeartbeats 4000000 in
theorem impl_IsSheet (pa ta : Option Addr) (pl pc tl tc : Nat) (cs : List C3) (ts : List (List Int)) (w : World) (hp : IsVs w pa pl pc cs) (ht : IsTs w ta tl tc ts) :
    Calls Try.prog 60 #[.agg #[.slice pa pl pc, .slice ta tl tc]] w fun e w' => e = .returned (.bool (validB cs ts && decide (sidesL ts).Nodup)) ∧ Below w.heap.size w w' := by
  have ui := Try.underlying31
  have uc := Try.underlying83
  have us := Try.underlying96
  have hpl := hp.1
  have htl := ht.1
  have hB0 : Below w.heap.size w (w.alloc (.cells #[.slice pa pl pc, .slice ta tl tc] 31)) := (Below.refl _ _).alloc (Nat.le_refl _) _
  have a0 : (w.alloc (.cells #[.slice pa pl pc, .slice ta tl tc] 31)).cell? ⟨w.heap.size, 0, none⟩ = some (.slice pa pl pc) := by go_simp
  have a1 : (w.alloc (.cells #[.slice pa pl pc, .slice ta tl tc] 31)).cell? ⟨w.heap.size, 1, none⟩ = some (.slice ta tl tc) := by go_simp
  have J := Lib.hid (impl_ValidMesh pa ta pl pc tl tc cs ts _ (hp.below hB0) (ht.below hB0))
  have HT := Lib.hid ht
  have HB0 := Lib.hid hB0
  have A0 := Lib.hid a0
  have A1 := Lib.hid a1
  clear hp ht hB0 a0 a1
  cases hv : validB cs ts
  · rw [hv] at J
    clear hv
    go_enter Try.func60, Try.ntmps60
    go_wp2_with fail
    refine J.out.mono ?_
    rintro e w1 ⟨rfl, hB1⟩
    have HB := Lib.hid (HB0.out.trans (hB1.mono HB0.out.size))
    clear hB1
    go_wp2
    go_ret
    exact ⟨rfl, HB.out⟩
  · rw [hv] at J
    obtain ⟨v1, v2⟩ := valid_pl hv
    rw [htl] at v2
    have H3 := Lib.hid (fun k (hk : k < tl) => rows3h hv k (by rw [htl]; exact hk))
    have HV := Lib.hid (fun k (hk : k < tl) => (tri_partsh (valid_rowh hv (show k < ts.length by omega))).2)
    clear hv
    go_enter Try.func60, Try.ntmps60
    go_wp2_with fail
    refine J.out.mono ?_
    rintro e w1 ⟨rfl, hB1⟩
    have d0 := cell_below hB1 A0.out
    have d1 := cell_below hB1 A1.out
    have HB1 := Lib.hid (HB0.out.trans (hB1.mono HB0.out.size))
    have hmm := @run_makeMap Try.prog
    clear hB1
    have hBM : Below w.heap.size w (w1.alloc (.map #[] 0)) := HB1.out.alloc HB1.out.size _
    have HBM := Lib.hid hBM
    have J2 := Lib.hid (all_corners' pa ta pl pc tl tc ts (w1.alloc (.map #[] 0)) (HT.out.below hBM) H3.out v2)
    have HO0 := Lib.hid (World.ownsMap_made (H := Unit) w1 Try.prog 96 (plainElem Try.prog 4))
    have hBle : w.heap.size ≤ w1.heap.size := HB1.out.size
    have lt0 : w.heap.size < w1.heap.size := World.block_lt_of_cell? _ _ d0
    have d0' := cell_alloc (o := .map #[] 0) d0
    have d1' := cell_alloc (o := .map #[] 0) d1
    clear hBM d0 d1
    go_wp2_with fail
    generalize (w1.alloc (.map #[] 0)) = W at *
    have hBlt := HO0.out.lt
    clear d0' d1' lt0
    generalize w1.heap.size = B at *
    refine J2.out.mono ?_
    rintro e V ⟨rfl, hC, hBV, hcV, _⟩
    generalize hcb : W.heap.size + 1 = cb at *
    have hne : cb ≠ B := by omega
    have HC := Lib.hid hC
    have HOV := Lib.hid (ownsMap_below HO0.out hBV)
    have HBV := Lib.hid (HBM.out.trans (hBV.mono HBM.out.size))
    clear hC hBV hcb HO0 HBM HB1 J J2
    go_wp2
    go_loopw [15] (fun i w' => ∃ k : Nat, k ≤ tl ∧ i = .int .i64 k ∧ Aside (∃ D : DataW Unit, w'.ownsMap Try.prog 96 (plainElem Try.prog 4) B (3 * k) D ∧ FlagsOf D (preS ts k 0) ∧ Agree (fun q => q ≠ B) V w' ∧ Below w.heap.size w w' ∧ (preS ts k 0).Nodup)) (fun i _ => tl - (intOf i).toNat)
    case atStart => exact ⟨0, Nat.zero_le _, rfl, _, HOV.out, by rw [preS_zero]; exact FlagsOf.nil, Agree.refl _ _, HBV.out, by rw [preS_zero]; exact List.nodup_nil⟩
    case round =>
      obtain ⟨k, hk, rfl, hA⟩ := hrel
      obtain ⟨D0, hO, hF, hAg, hB, hN⟩ := hA.out
      have HN := Lib.hid hN
      by_cases hlt : k < tl
      · obtain ⟨c0, c1, c2⟩ := (HC.out.agree hne hAg) k hlt
        have hx := HV.out k hlt
        obtain ⟨p0, q0⟩ := hx 0 (by decide)
        obtain ⟨p1, q1⟩ := hx 1 (by decide)
        obtain ⟨p2, q2⟩ := hx 2 (by decide)
        generalize hx0 : (ts.getD k []).getD 0 0 = x0 at *
        generalize hx1 : (ts.getD k []).getD 1 0 = x1 at *
        generalize hx2 : (ts.getD k []).getD 2 0 = x2 at *
        have w0 : (Lit.int .i64 x0).wf = true := WalkArith.wf_i64 (by omega)
        have w1' : (Lit.int .i64 x1).wf = true := WalkArith.wf_i64 (by omega)
        have w2' : (Lit.int .i64 x2).wf = true := WalkArith.wf_i64 (by omega)
        have X0 := Lib.hid hx0
        have X1 := Lib.hid hx1
        have X2 := Lib.hid hx2
        have hk0 : (0 : Int) ≤ (k : Int) := by omega
        have hk1 : (k : Int) < (tl : Int) := by omega
        have lcb : cb < wr.heap.size := Nat.lt_of_lt_of_le hcV hAg.size
        have hBox : Below wr.heap.size wr (wr.alloc (.cells #[.int .i64 x0, .int .i64 x1, .int .i64 x2] 83)) := (Below.refl _ _).alloc (Nat.le_refl _) _
        have HO1 := Lib.hid (ownsMap_below hO hBox)
        have HF := Lib.hid hF
        have HA0 := Lib.hid (hAg.trans (Agree.of_below hBox))
        have HB0' := Lib.hid (hB.trans (hBox.mono hB.size))
        clear hA hO hF hAg hB hN hx p0 p1 p2 q0 q1 q2 hx0 hx1 hx2 hBox
        go_wp2_with (go_at_call 73; refine (impl_sides _ _ _ _).mono ?_; rintro e w3 ⟨rfl, hB3⟩; have HB3 := Lib.hid hB3; clear hB3)
        have HO2 := Lib.hid (ownsMap_below HO1.out HB3.out)
        have HA2 := Lib.hid (HA0.out.trans (Agree.of_below HB3.out))
        have HB2 := Lib.hid (HB0'.out.trans (HB3.out.mono HB0'.out.size))
        clear c0 c1 c2 lcb HO1 HA0 HB0' HB3
        go_loopw [21] (fun i w' => ∃ j : Nat, j ≤ 3 ∧ i = .int .i64 j ∧ Aside (∃ D : DataW Unit, w'.ownsMap Try.prog 96 (plainElem Try.prog 4) B (3 * k + j) D ∧ FlagsOf D (preS ts k j) ∧ Agree (fun q => q ≠ B) V w' ∧ Below w.heap.size w w' ∧ (preS ts k j).Nodup)) (fun i _ => 3 - (intOf i).toNat)
        case atStart => exact ⟨0, by omega, rfl, D0, HO2.out, HF.out, HA2.out, HB2.out, HN.out⟩
        case round =>
          obtain ⟨j, hj, rfl, hA⟩ := hrel
          obtain ⟨D, hO, hF, hAg, hB, hN⟩ := hA.out
          have HO := Lib.hid hO
          have HF := Lib.hid hF
          have HA1 := Lib.hid hAg
          have HB1 := Lib.hid hB
          have HN0 := Lib.hid hN
          clear hA hO hF hAg hB hN HO2 HA2 HB2
          by_cases hlj : j < 3
          · obtain rfl | rfl | rfl : j = 0 ∨ j = 1 ∨ j = 2 := by omega
            · have hs : (sideT (ts.getD k [])).getD 0 (0, 0) = (x0, x1) := by
                show ((ts.getD k []).getD 0 0, (ts.getD k []).getD 1 0) = _
                rw [X0.out, X1.out]
              have hix : ∀ w, (Instr.index 97 (.agg #[.int .i64 x0, .int .i64 x1, .int .i64 x1, .int .i64 x2, .int .i64 x2, .int .i64 x0]) (.int .i64 0)).run Try.prog w = .ok (.agg #[.int .i64 x0, .int .i64 x1]) w := side_ix x0 x1 x1 x2 x2 x0 0 (by decide)
              have HS := Lib.hid hs
              have hown1 := HO.out.alloc (.cells #[.int .i64 x0, .int .i64 x1] 96)
              have hlk := flag_look hown1 HF.out w0 w1'
              have HO1 := Lib.hid hown1
              clear hs hown1
              cases hc : decide ((x0, x1) ∈ preS ts k 0)
              · rw [hc] at hlk
                have HN : Hid ((preS ts k (0 + 1)).Nodup) := Lib.hid (preS_once (by decide) HN0.out (by rw [HS.out]; exact of_decide_eq_false hc))
                have HF1 : Hid (FlagsOf (D.put (kS (x0, x1)) (.lit (.bool true))) (preS ts k (0 + 1))) := Lib.hid (by
                  rw [preS_step (by decide), HS.out]; exact HF.out.put w0 w1')
                clear hc
                go_wp2_with (first
                  | (at_mapUpdate; refine wpList_mapUpdate_own _ rfl _ _ _ 114 rfl 96 4 sideKeyed Try.underlying114 _ B (3 * k + 0) _ rfl HO1.out (by unfold maxLen; omega) _ _ _ rfl rfl (keyOf_side w0 w1') _ [] (plainElem_bool Try.underlying4 true) ?_; intro w5 hown5 hgrow5)
                  | go_in)
                have HA5 := Lib.hid (HA1.out.trans ((Agree.of_below ((Below.refl _ _).alloc (Nat.le_refl _) _)).trans (Agree.of_grown hgrow5)))
                have HB5 := Lib.hid ((HB1.out.alloc HB1.out.size _).grown hgrow5 (by have := HB1.out.size; simp; omega) (fun j e => by cases e; exact hBle))
                have HO5 := Lib.hid hown5
                clear hown5 hgrow5 hlk hix
                go_wp2
                go_roundw
                case rel => exact ⟨0 + 1, by omega, by go_num, _, HO5.out.mono (by omega), HF1.out, HA5.out, HB5.out, HN.out⟩
                case measure => simp [intOf]
              · rw [hc] at hlk
                have HT2 : Hid (decide (sidesL ts).Nodup = false) := Lib.hid (preS_twice (k := k) (j := 0) (by omega) (by decide) (by rw [HS.out]; exact of_decide_eq_true hc))
                clear hc
                go_wp2
                go_ret
                exact ⟨ret_bool (by rw [HT2.out]; rfl), HB1.out.alloc HB1.out.size _⟩
            · have hs : (sideT (ts.getD k [])).getD 1 (0, 0) = (x1, x2) := by
                show ((ts.getD k []).getD 1 0, (ts.getD k []).getD 2 0) = _
                rw [X1.out, X2.out]
              have hix : ∀ w, (Instr.index 97 (.agg #[.int .i64 x0, .int .i64 x1, .int .i64 x1, .int .i64 x2, .int .i64 x2, .int .i64 x0]) (.int .i64 1)).run Try.prog w = .ok (.agg #[.int .i64 x1, .int .i64 x2]) w := side_ix x0 x1 x1 x2 x2 x0 1 (by decide)
              have HS := Lib.hid hs
              have hown1 := HO.out.alloc (.cells #[.int .i64 x1, .int .i64 x2] 96)
              have hlk := flag_look hown1 HF.out w1' w2'
              have HO1 := Lib.hid hown1
              clear hs hown1
              cases hc : decide ((x1, x2) ∈ preS ts k 1)
              · rw [hc] at hlk
                have HN : Hid ((preS ts k (1 + 1)).Nodup) := Lib.hid (preS_once (by decide) HN0.out (by rw [HS.out]; exact of_decide_eq_false hc))
                have HF1 : Hid (FlagsOf (D.put (kS (x1, x2)) (.lit (.bool true))) (preS ts k (1 + 1))) := Lib.hid (by
                  rw [preS_step (by decide), HS.out]; exact HF.out.put w1' w2')
                clear hc
                go_wp2_with (first
                  | (at_mapUpdate; refine wpList_mapUpdate_own _ rfl _ _ _ 114 rfl 96 4 sideKeyed Try.underlying114 _ B (3 * k + 1) _ rfl HO1.out (by unfold maxLen; omega) _ _ _ rfl rfl (keyOf_side w1' w2') _ [] (plainElem_bool Try.underlying4 true) ?_; intro w5 hown5 hgrow5)
                  | go_in)
                have HA5 := Lib.hid (HA1.out.trans ((Agree.of_below ((Below.refl _ _).alloc (Nat.le_refl _) _)).trans (Agree.of_grown hgrow5)))
                have HB5 := Lib.hid ((HB1.out.alloc HB1.out.size _).grown hgrow5 (by have := HB1.out.size; simp; omega) (fun j e => by cases e; exact hBle))
                have HO5 := Lib.hid hown5
                clear hown5 hgrow5 hlk hix
                go_wp2
                go_roundw
                case rel => exact ⟨1 + 1, by omega, by go_num, _, HO5.out.mono (by omega), HF1.out, HA5.out, HB5.out, HN.out⟩
                case measure => simp [intOf]
              · rw [hc] at hlk
                have HT2 : Hid (decide (sidesL ts).Nodup = false) := Lib.hid (preS_twice (k := k) (j := 1) (by omega) (by decide) (by rw [HS.out]; exact of_decide_eq_true hc))
                clear hc
                go_wp2
                go_ret
                exact ⟨ret_bool (by rw [HT2.out]; rfl), HB1.out.alloc HB1.out.size _⟩
            · have hs : (sideT (ts.getD k [])).getD 2 (0, 0) = (x2, x0) := by
                show ((ts.getD k []).getD 2 0, (ts.getD k []).getD 0 0) = _
                rw [X2.out, X0.out]
              have hix : ∀ w, (Instr.index 97 (.agg #[.int .i64 x0, .int .i64 x1, .int .i64 x1, .int .i64 x2, .int .i64 x2, .int .i64 x0]) (.int .i64 2)).run Try.prog w = .ok (.agg #[.int .i64 x2, .int .i64 x0]) w := side_ix x0 x1 x1 x2 x2 x0 2 (by decide)
              have HS := Lib.hid hs
              have hown1 := HO.out.alloc (.cells #[.int .i64 x2, .int .i64 x0] 96)
              have hlk := flag_look hown1 HF.out w2' w0
              have HO1 := Lib.hid hown1
              clear hs hown1
              cases hc : decide ((x2, x0) ∈ preS ts k 2)
              · rw [hc] at hlk
                have HN : Hid ((preS ts k (2 + 1)).Nodup) := Lib.hid (preS_once (by decide) HN0.out (by rw [HS.out]; exact of_decide_eq_false hc))
                have HF1 : Hid (FlagsOf (D.put (kS (x2, x0)) (.lit (.bool true))) (preS ts k (2 + 1))) := Lib.hid (by
                  rw [preS_step (by decide), HS.out]; exact HF.out.put w2' w0)
                clear hc
                go_wp2_with (first
                  | (at_mapUpdate; refine wpList_mapUpdate_own _ rfl _ _ _ 114 rfl 96 4 sideKeyed Try.underlying114 _ B (3 * k + 2) _ rfl HO1.out (by unfold maxLen; omega) _ _ _ rfl rfl (keyOf_side w2' w0) _ [] (plainElem_bool Try.underlying4 true) ?_; intro w5 hown5 hgrow5)
                  | go_in)
                have HA5 := Lib.hid (HA1.out.trans ((Agree.of_below ((Below.refl _ _).alloc (Nat.le_refl _) _)).trans (Agree.of_grown hgrow5)))
                have HB5 := Lib.hid ((HB1.out.alloc HB1.out.size _).grown hgrow5 (by have := HB1.out.size; simp; omega) (fun j e => by cases e; exact hBle))
                have HO5 := Lib.hid hown5
                clear hown5 hgrow5 hlk hix
                go_wp2
                go_roundw
                case rel => exact ⟨2 + 1, by omega, by go_num, _, HO5.out.mono (by omega), HF1.out, HA5.out, HB5.out, HN.out⟩
                case measure => simp [intOf]
              · rw [hc] at hlk
                have HT2 : Hid (decide (sidesL ts).Nodup = false) := Lib.hid (preS_twice (k := k) (j := 2) (by omega) (by decide) (by rw [HS.out]; exact of_decide_eq_true hc))
                clear hc
                go_wp2
                go_ret
                exact ⟨ret_bool (by rw [HT2.out]; rfl), HB1.out.alloc HB1.out.size _⟩
          · obtain rfl : j = 3 := by omega
            have hn := HN0.out
            have hf := HF.out
            rw [preS_next (by omega)] at hn hf
            have HN1 := Lib.hid hn
            have HF1 := Lib.hid hf
            clear hn hf
            go_wp2
            go_roundw
            case rel => exact ⟨k + 1, by omega, by go_num, D, HO.out.mono (by omega), HF1.out, HA1.out, HB1.out, HN1.out⟩
            case measure => simp [intOf]; omega
      · obtain rfl : k = tl := by omega
        have hn : decide (sidesL ts).Nodup = true := decide_eq_true (by rw [← preS_end, htl]; exact HN.out)
        have HR := Lib.hid hn
        have HBE := Lib.hid hB
        clear hA hO hF hAg hB hN hn
        go_wp2
        go_ret
        exact ⟨ret_bool (by rw [HR.out]; rfl), HBE.out⟩
end Go.Proofs.Ytockhhfehjoldaa

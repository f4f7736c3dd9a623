/-
Texts in one: what IsSheet stands on, part 25. Conditions: those of each.
-/
import Derived.Test.YtmbekamnogbgaabKIsSheet24
import Derived.BigQuiet

/-
Whether a mesh is a sheet: what the model returns. Conditions: the mesh is valid and lies in memory.
-/
namespace Go.Proofs.Ytmbekamnogbgaab
open Go Fk Go.RowKit
set_option linter.unusedVariables false
set_option maxRecDepth 16000

theorem atL_in {ts : List (List Int)} {p q : Int} {k : Nat} : ∀ z ∈ atL ts p q k, ∃ i : Nat, z = (i : Int) ∧ i < k := fun z hz => by
  rw [atL_filter] at hz
  obtain ⟨i, hi, rfl⟩ := List.mem_map.1 hz
  exact ⟨i, rfl, List.mem_range.1 (List.mem_filter.1 hi).1⟩
theorem edge_row {n : Nat} {ts : List (List Int)} {m : Nat} (hm : m < (edgesT n ts).length) : ∃ a b : Nat, a < n ∧ b < n ∧ a < b ∧ ((a : Int), (b : Int)) ∈ keysE ts ∧ (edgesT n ts).getD m [] = [(a : Int), (b : Int)] := by
  have h : (edgesT n ts).getD m [] ∈ edgesT n ts := by
    rw [List.getD, List.getElem?_eq_getElem hm]
    exact List.getElem_mem _
  obtain ⟨a, b, ha, hb, hab, hk, e⟩ := mem_rowsE.1 h
  exact ⟨a, b, ha, hb, hab, hk, e⟩
theorem edge_wf {n : Nat} {ts : List (List Int)} (hn : n ≤ 64) : ∀ j, j < (edgesT n ts).length → ∀ z ∈ (edgesT n ts).getD j [], (Lit.int .i64 z).wf = true := fun j hj z hz => by
  obtain ⟨a, b, ha, hb, _, _, e⟩ := edge_row hj
  rw [e] at hz
  simp only [List.mem_cons, List.not_mem_nil, or_false] at hz
  rcases hz with rfl | rfl <;> exact WalkArith.wf_i64 (by omega)
theorem edges_len {n : Nat} {ts : List (List Int)} (hn : n ≤ 64) : (edgesT n ts).length ≤ 4096 := by
  have := rowsE_len (keysE ts) n n
  have h2 : n * n ≤ 64 * 64 := Nat.mul_le_mul hn hn
  unfold edgesT
  omega
theorem sheetB_no {n : Nat} {ts : List (List Int)} {m : Nat} (hm : m < (edgesT n ts).length) (h : okE ts (((edgesT n ts).getD m []).getD 0 0) (((edgesT n ts).getD m []).getD 1 0) = false) : sheetB n ts = false := by
  unfold sheetB
  rw [← Bool.not_eq_true, List.all_eq_true]
  intro hh
  have := hh ((edgesT n ts).getD m []) (by rw [List.getD, List.getElem?_eq_getElem hm]; exact List.getElem_mem _)
  rw [h] at this
  cases this
theorem sheetB_yes {n : Nat} {ts : List (List Int)} (h : ∀ m, m < (edgesT n ts).length → okE ts (((edgesT n ts).getD m []).getD 0 0) (((edgesT n ts).getD m []).getD 1 0) = true) : sheetB n ts = true := by
  unfold sheetB
  rw [List.all_eq_true]
  intro r hr
  obtain ⟨i, hi, rfl⟩ := List.mem_iff_getElem.1 hr
  have := h i hi
  have e : (edgesT n ts).getD i [] = (edgesT n ts)[i] := by rw [List.getD, List.getElem?_eq_getElem hi]; rfl
  rwa [e] at this
set_option maxHeartbeats 4000000 in
theorem l02Sheet (pb : Nat) (pa ta : Option Addr) (pl pc tl tc : Nat) (cs : List C3) (ts : List (List Int)) (w : World) (c0' : w.cell? ⟨pb, 0, none⟩ = some (.slice pa pl pc)) (c1' : w.cell? ⟨pb, 1, none⟩ = some (.slice ta tl tc)) (hp : IsVs w pa pl pc cs) (ht : IsTs w ta tl tc ts) (hv : validB cs ts = true) :
    Calls Try.prog 70 #[.pointer (some ⟨pb, 0, none⟩)] w fun e w' => e = .returned (.bool (sheetB pl ts)) ∧ Below w.heap.size w w' := by
  have hpl := hp.1
  have htl := ht.1
  obtain ⟨v1, v2⟩ := valid_pl hv
  rw [hpl] at v1
  rw [htl] at v2
  have H3 := Lib.hid (fun k (hk : k < tl) => rows3h hv k (by rw [htl]; exact hk))
  have JE := Lib.hid (l02Edges pb pa ta pl pc tl tc cs ts w c0' c1' hp ht hv)
  have HT := Lib.hid ht
  have C0 := Lib.hid c0'
  have C1 := Lib.hid c1'
  have lpb := World.block_lt_of_cell? _ _ c0'
  have HLe := Lib.hid (edges_len (ts := ts) v1)
  have HRow := Lib.hid (fun m => @edge_row pl ts m)
  have HWf := Lib.hid (edge_wf (ts := ts) v1)
  have HNo := Lib.hid (fun m => @sheetB_no pl ts m)
  have HYes := Lib.hid (@sheetB_yes pl ts)
  have ok_eq : ∀ a b : Int, okE ts a b = !(decide (2 < (atL ts a b tl).length) || (decide ((atL ts a b tl).length = 2) && (goesB (ts.getD ((atL ts a b tl).getD 0 0).toNat []) a b == goesB (ts.getD ((atL ts a b tl).getD 1 0).toNat []) a b))) := fun a b => by
    unfold okE; rw [htl]
  have HOk := Lib.hid ok_eq
  clear ok_eq
  generalize hbb : sheetB pl ts = bb at *
  clear hbb
  generalize edgesT pl ts = L at *
  clear c0' c1' hp ht hv
  go_enter Try.func70, Try.ntmps70
  go_wp2_with fail
  refine JE.out.mono ?_
  rintro e W ⟨⟨v, rfl, hT⟩, hBW⟩
  obtain ⟨ra, cap, rfl, hI⟩ := hT.is rfl HWf.out
  have HBW := Lib.hid hBW
  have HL := Lib.hid hI
  have HLn := HLe.out
  clear hT hBW hI
  go_wp2
  generalize hn : L.length = n at *
  go_loopw [4] (fun i w' => ∃ m : Nat, m ≤ n ∧ i = .int .i64 m ∧ Aside ((∀ j, j < m → okE ts ((L.getD j []).getD 0 0) ((L.getD j []).getD 1 0) = true) ∧ Below W.heap.size W w')) (fun i _ => n - (intOf i).toNat)
  case atStart => exact ⟨0, Nat.zero_le _, rfl, (fun j hj => absurd hj (by omega)), Below.refl _ _⟩
  case round =>
    obtain ⟨m, hm, rfl, hA⟩ := hrel
    obtain ⟨hok, hB⟩ := hA.out
    have HOK := Lib.hid hok
    have HB := Lib.hid hB
    by_cases hlt : m < n
    · obtain ⟨a, b, ha, hb, hab, _, hrow⟩ := HRow.out m hlt
      obtain ⟨bt, ot, rfl, hrows⟩ := (HL.out.below hB).some (by omega)
      obtain ⟨r1, n1, q1, cr, ir⟩ := hrows m hlt
      have hn1 : n1 = 2 := by rw [← ir.1, hrow]; rfl
      subst hn1
      obtain ⟨br, or, rfl, hz⟩ := ir.some (by decide)
      have z0 := hz 0 (by decide)
      have z1 := hz 1 (by decide)
      rw [hrow] at z0 z1
      rw [Nat.add_zero] at z0
      simp only [List.getD_cons_zero, List.getD_cons_succ] at z0 z1
      have hk0 : (0 : Int) ≤ (m : Int) := by omega
      have hk1 : (m : Int) < (n : Int) := by omega
      have HR := Lib.hid hrow
      have hBw := HBW.out.trans (hB.mono HBW.out.size)
      have JA := Lib.hid (l02At pb pl pc tl tc pa ta ts (a : Int) (b : Int) wr (cell_below hBw C0.out) (cell_below hBw C1.out) (HT.out.below hBw) H3.out v2)
      have HBw := Lib.hid hBw
      clear hA hok hB hrows ir hz hrow hBw
      go_wp2_with fail
      refine JA.out.mono ?_
      rintro e w3 ⟨v3, rfl, hown, hB3⟩
      obtain ⟨rz, cz, rfl, hz, _⟩ := is_of_owns hown rfl (fun z hz => by obtain ⟨i, rfl, hi⟩ := atL_in z hz; exact WalkArith.wf_i64 (by omega))
      have hBw3 := HBw.out.trans (hB3.mono HBw.out.size)
      have y1 := cell_below hBw3 C1.out
      have HBw3 := Lib.hid hBw3
      have HB3 := Lib.hid (HB.out.trans (hB3.mono HB.out.size))
      have HIn := Lib.hid (@atL_in ts (a : Int) (b : Int) tl)
      have hOkE := HOk.out (a : Int) (b : Int)
      have HZ := Lib.hid hz
      clear hown hB3 z0 z1 cr JA
      have hzl := hz.1
      generalize atL ts (a : Int) (b : Int) tl = zs at *
      clear hz hBw3
      by_cases hl2 : 2 < zs.length
      · have hl2' : (2 : Int) < (zs.length : Int) := by omega
        have hf : okE ts (a : Int) (b : Int) = false := by rw [hOkE, decide_eq_true hl2]; rfl
        have HF : Hid (bb = false) := Lib.hid (HNo.out m hlt (by rw [HR.out]; exact hf))
        clear hf hOkE
        generalize zs.length = zn at *
        go_wp2_with fail
        go_quiet (fail)
        go_wp2
        go_ret
        exact ⟨ret_bool HF.out.symm, below_drewN (HBw3.out) _⟩
      · have hl2' : ¬ (2 : Int) < (zs.length : Int) := by omega
        by_cases hl3 : zs.length = 2
        · obtain ⟨bz, oz, rfl, hc⟩ := HZ.out.some (by omega)
          have e0 := hc 0 (by omega)
          have e1 := hc 1 (by omega)
          rw [Nat.add_zero] at e0
          obtain ⟨i, hi0, hi⟩ := HIn.out (zs.getD 0 0) (by rw [List.getD, List.getElem?_eq_getElem (show 0 < zs.length by omega)]; exact List.getElem_mem _)
          obtain ⟨j, hj0, hj⟩ := HIn.out (zs.getD 1 0) (by rw [List.getD, List.getElem?_eq_getElem (show 1 < zs.length by omega)]; exact List.getElem_mem _)
          rw [hi0] at e0
          rw [hj0] at e1
          have hkf : okE ts (a : Int) (b : Int) = !(goesB (ts.getD i []) (a : Int) (b : Int) == goesB (ts.getD j []) (a : Int) (b : Int)) := by
            rw [hOkE, decide_eq_false hl2, decide_eq_true hl3, hi0, hj0, Int.toNat_natCast, Int.toNat_natCast]; rfl
          have HK := Lib.hid hkf
          have hzz : (zs.length : Int) = 2 := by omega
          obtain ⟨bx, ox, rfl, hrowx⟩ := (HT.out.below HBw3.out).some (by omega)
          obtain ⟨s1, k1, u1, f1, g1⟩ := hrowx i hi
          obtain ⟨s2, k2, u2, f2, g2⟩ := hrowx j hj
          have hk1' : k1 = 3 := g1.1.symm.trans (H3.out i hi)
          have hk2' : k2 = 3 := g2.1.symm.trans (H3.out j hj)
          subst hk1' hk2'
          have i0 : (0 : Int) ≤ (i : Int) := by omega
          have i1 : (i : Int) < (tl : Int) := by omega
          have j0 : (0 : Int) ≤ (j : Int) := by omega
          have j1 : (j : Int) < (tl : Int) := by omega
          have hq1 : ∀ n, Calls Try.prog 119 #[.slice s1 3 u1, .int .i64 (a : Int), .int .i64 (b : Int)] (w3.drewN n) fun e w' => e = .returned (.bool (goesB (ts.getD i []) (a : Int) (b : Int))) ∧ ∃ m, w' = (w3.drewN n).drewN m := fun n => (l02Goes s1 u1 (ts.getD i []) (a : Int) (b : Int) (w3.drewN n) g1.drew).mono fun e w' ⟨h1, h2⟩ => ⟨h1, 0, by rw [h2]; rfl⟩
          have hq2 : ∀ n, Calls Try.prog 119 #[.slice s2 3 u2, .int .i64 (a : Int), .int .i64 (b : Int)] (w3.drewN n) fun e w' => e = .returned (.bool (goesB (ts.getD j []) (a : Int) (b : Int))) ∧ ∃ m, w' = (w3.drewN n).drewN m := fun n => (l02Goes s2 u2 (ts.getD j []) (a : Int) (b : Int) (w3.drewN n) g2.drew).mono fun e w' ⟨h1, h2⟩ => ⟨h1, 0, by rw [h2]; rfl⟩
          have HQ1 := Lib.hid hq1
          have HQ2 := Lib.hid hq2
          clear hOkE hkf hc hi0 hj0 hrowx g1 g2 hl2 hl2' hzz hq1 hq2
          generalize goesB (ts.getD i []) (a : Int) (b : Int) = x1 at *
          generalize goesB (ts.getD j []) (a : Int) (b : Int) = x2 at *
          generalize zs.length = zn at *
          subst hl3
          rcases x1 <;> rcases x2
          · have HF : Hid (bb = false) := Lib.hid (HNo.out m hlt (by rw [HR.out]; exact HK.out))
            go_wp2_with fail
            go_quiet ((first | (go_at_call 119; with_reducible exact Calls.quiet_of (HQ1.out _)) | (go_at_call 119; with_reducible exact Calls.quiet_of (HQ2.out _))))
            go_wp2
            go_ret
            exact ⟨ret_bool HF.out.symm, below_drewN (HBw3.out) _⟩
          · have HF : Aside (∀ j, j < m + 1 → okE ts ((L.getD j []).getD 0 0) ((L.getD j []).getD 1 0) = true) := by
              intro j hj
              by_cases hjm : j = m
              · subst hjm; rw [HR.out]; exact HK.out
              · exact HOK.out j (by omega)
            go_wp2_with fail
            go_quiet ((first | (go_at_call 119; with_reducible exact Calls.quiet_of (HQ1.out _)) | (go_at_call 119; with_reducible exact Calls.quiet_of (HQ2.out _))))
            go_wp2
            go_roundw
            case rel => exact ⟨m + 1, by omega, by go_num, HF, below_drewN HB3.out _⟩
            case measure => simp [intOf]; omega
          · have HF : Aside (∀ j, j < m + 1 → okE ts ((L.getD j []).getD 0 0) ((L.getD j []).getD 1 0) = true) := by
              intro j hj
              by_cases hjm : j = m
              · subst hjm; rw [HR.out]; exact HK.out
              · exact HOK.out j (by omega)
            go_wp2_with fail
            go_quiet ((first | (go_at_call 119; with_reducible exact Calls.quiet_of (HQ1.out _)) | (go_at_call 119; with_reducible exact Calls.quiet_of (HQ2.out _))))
            go_wp2
            go_roundw
            case rel => exact ⟨m + 1, by omega, by go_num, HF, below_drewN HB3.out _⟩
            case measure => simp [intOf]; omega
          · have HF : Hid (bb = false) := Lib.hid (HNo.out m hlt (by rw [HR.out]; exact HK.out))
            go_wp2_with fail
            go_quiet ((first | (go_at_call 119; with_reducible exact Calls.quiet_of (HQ1.out _)) | (go_at_call 119; with_reducible exact Calls.quiet_of (HQ2.out _))))
            go_wp2
            go_ret
            exact ⟨ret_bool HF.out.symm, below_drewN (HBw3.out) _⟩
        · have hl3' : ¬ (zs.length : Int) = 2 := by omega
          have hf : okE ts (a : Int) (b : Int) = true := by rw [hOkE, decide_eq_false hl2, decide_eq_false hl3]; rfl
          have HF : Aside (∀ j, j < m + 1 → okE ts ((L.getD j []).getD 0 0) ((L.getD j []).getD 1 0) = true) := by
            intro j hj
            by_cases hjm : j = m
            · subst hjm; rw [HR.out]; exact hf
            · exact HOK.out j (by omega)
          clear hf hOkE hl2 hl3
          rw [hzl] at hl3' hl2'
          generalize zs.length = zn at *
          go_wp2_with fail
          go_quiet (fail)
          go_wp2
          go_roundw
          case rel => exact ⟨m + 1, by omega, by go_num, HF, below_drewN HB3.out _⟩
          case measure => simp [intOf]; omega
    · obtain rfl : m = n := by omega
      have HY := Lib.hid (HYes.out (fun j hj => hok j (by omega)))
      have HBe := Lib.hid (HBW.out.trans (hB.mono HBW.out.size))
      clear hA hok hB
      go_wp2
      go_ret
      exact ⟨ret_bool HY.out.symm, HBe.out⟩
end Go.Proofs.Ytmbekamnogbgaab


/-
The law of sheets returns true: its walk. Conditions: none beyond that the mesh lies in memory.
-/
namespace Go.Proofs.Ytmbekamnogbgaab
open Go Fk Go.RowKit
set_option linter.unusedVariables false
set_option maxRecDepth 8000

set_option maxHeartbeats 1000000 in
theorem spec_IsSheet (pa ta : Option Addr) (pl pc tl tc : Nat) (cs : List C3) (ts : List (List Int)) (w : World) (hp : IsVs w pa pl pc cs) (ht : IsTs w ta tl tc ts) :
    Calls Try.prog 27 #[.agg #[.slice pa pl pc, .slice ta tl tc]] w fun e w' => e = .returned (.bool (validB cs ts && decide (sidesL ts).Nodup)) ∧ Below w.heap.size w w' := by
  have ui := Try.underlying32
  have hpl := hp.1
  have hB0 : Below w.heap.size w (w.alloc (.cells #[.slice pa pl pc, .slice ta tl tc] 32)) := (Below.refl _ _).alloc (Nat.le_refl _) _
  have a0 : (w.alloc (.cells #[.slice pa pl pc, .slice ta tl tc] 32)).cell? ⟨w.heap.size, 0, none⟩ = some (.slice pa pl pc) := by go_simp
  have a1 : (w.alloc (.cells #[.slice pa pl pc, .slice ta tl tc] 32)).cell? ⟨w.heap.size, 1, none⟩ = some (.slice ta tl tc) := by go_simp
  have J := Lib.hid (l02Is w.heap.size pa ta pl pc tl tc cs ts _ a0 a1 (hp.below hB0) (ht.below hB0))
  cases hv : validB cs ts
  · rw [hv] at J
    have HB0 := Lib.hid hB0
    clear hv hB0 a0 a1 hp ht
    go_enter Try.func27, Try.ntmps27
    go_wp2_with fail
    generalize (w.alloc (.cells #[.slice pa pl pc, .slice ta tl tc] 32)) = W at *
    refine J.out.mono ?_
    rintro e w1 ⟨rfl, n, hw⟩
    have HB := Lib.hid (below_drewN HB0.out n)
    rw [hw]
    clear hw
    go_wp2
    go_ret
    exact ⟨rfl, HB.out⟩
  · rw [hv] at J
    have J2 := Lib.hid (fun n => l02Sheet w.heap.size pa ta pl pc tl tc cs ts (World.drewN (w.alloc (.cells #[.slice pa pl pc, .slice ta tl tc] 32)) n) a0 a1 ((hp.below hB0).below (below_drewN (Below.refl _ _) n)) ((ht.below hB0).below (below_drewN (Below.refl _ _) n)) hv)
    have hs := sheet_iff hv
    rw [hpl] at hs
    rw [hs] at J2
    generalize decide (sidesL ts).Nodup = nd at *
    have HB0 := Lib.hid hB0
    clear hv hB0 a0 a1 hs hp ht
    go_enter Try.func27, Try.ntmps27
    go_wp2_with fail
    generalize (w.alloc (.cells #[.slice pa pl pc, .slice ta tl tc] 32)) = W at *
    refine J.out.mono ?_
    rintro e w1 ⟨rfl, n, hw⟩
    rw [hw]
    clear hw
    go_wp2_with fail
    refine (J2.out n).mono ?_
    rintro e w2 ⟨rfl, hB2⟩
    have HB := Lib.hid ((below_drewN HB0.out n).trans (hB2.mono (below_drewN HB0.out n).size))
    clear hB2
    go_wp2
    go_ret
    exact ⟨rfl, HB.out⟩
set_option maxHeartbeats 1000000 in
theorem FnExactIsSheet_law (pa ta : Option Addr) (pl pc tl tc : Nat) (cs : List C3) (ts : List (List Int)) (w : World) (hp : IsVs w pa pl pc cs) (ht : IsTs w ta tl tc ts) :
    Calls Try.prog 5 #[.agg #[.slice pa pl pc, .slice ta tl tc]] w fun e w' => e = .returned (.bool true) ∧ Below w.heap.size w w' := by
  have hpl := hp.1
  have htl := ht.1
  have HP := Lib.hid hp
  have HT := Lib.hid ht
  have HPL := Lib.hid hpl
  have HTL := Lib.hid htl
  clear hp ht hpl htl
  generalize hv : (validB cs ts && decide (sidesL ts).Nodup) = v
  have HV := Lib.hid hv
  clear hv
  go_enter Try.func5, Try.ntmps5
  go_wp2_with fail
  have hB0 : Below w.heap.size w (w.alloc (.cells #[.slice pa pl pc, .slice ta tl tc] 25)) := (Below.refl _ _).alloc (Nat.le_refl _) _
  have a0 : (w.alloc (.cells #[.slice pa pl pc, .slice ta tl tc] 25)).cell? ⟨w.heap.size, 0, none⟩ = some (.slice pa pl pc) := by go_simp
  have a1 : (w.alloc (.cells #[.slice pa pl pc, .slice ta tl tc] 25)).cell? ⟨w.heap.size, 1, none⟩ = some (.slice ta tl tc) := by go_simp
  generalize w.alloc (.cells #[.slice pa pl pc, .slice ta tl tc] 25) = W at *
  refine (laws_szMesh _ _ _ _ _ _ _ _ 1048576 _ (HP.out.below hB0) (HT.out.below hB0) (by decide) (by decide)).mono ?_
  rintro e w1 ⟨⟨r, rfl, hr⟩, hB1⟩
  replace a0 := cell_below hB1 a0
  replace a1 := cell_below hB1 a1
  replace hB1 : Below w.heap.size w w1 := hB0.trans (hB1.mono hB0.size)
  clear hB0
  rcases hr with rfl | ⟨hr0, s1, s2, s3⟩
  · have HB := Lib.hid hB1
    clear hB1
    go_wp2
    go_ret
    exact ⟨rfl, HB.out⟩
  · have hS : Small cs ts := ⟨by rw [HPL.out]; exact s1, by rw [HTL.out]; exact s2, by rw [HTL.out]; exact s3⟩
    have HS := Lib.hid hS
    have HB1 := Lib.hid hB1
    clear s1 s2 s3 hS hB1
    go_wp2_with fail
    refine (laws_toMesh _ _ _ _ _ _ _ _ _ (HP.out.below HB1.out) (HT.out.below HB1.out) HS.out).mono ?_
    rintro e w2 ⟨⟨b, b', rfl, hb, hb', hV2, hT2⟩, hB2⟩
    replace a0 := cell_below hB2 a0
    replace a1 := cell_below hB2 a1
    have HB2 := Lib.hid (HB1.out.trans (hB2.mono HB1.out.size))
    have HV2 := Lib.hid hV2
    have HT2 := Lib.hid hT2
    clear hB2 hV2 hT2 hb hb'
    go_wp2_with fail
    refine (spec_IsSheet _ _ _ _ _ _ cs ts _ HV2.out HT2.out).mono ?_
    rintro e w3 ⟨rfl, hB3⟩
    replace a0 := cell_below hB3 a0
    replace a1 := cell_below hB3 a1
    rw [HV.out]
    have HB3 := Lib.hid (HB2.out.trans (hB3.mono HB2.out.size))
    clear hB3
    go_wp2_with fail
    refine (laws_toMesh _ _ _ _ _ _ _ _ _ (HP.out.below HB3.out) (HT.out.below HB3.out) HS.out).mono ?_
    rintro e w4 ⟨⟨c, c', rfl, hc, hc', hV4, hT4⟩, hB4⟩
    replace a0 := cell_below hB4 a0
    replace a1 := cell_below hB4 a1
    have HB4 := Lib.hid (HB3.out.trans (hB4.mono HB3.out.size))
    have HV4 := Lib.hid hV4
    have HT4 := Lib.hid hT4
    clear hB4 hV4 hT4 hc hc'
    go_wp2_with fail
    have hX : Below w4.heap.size w4 (w4.alloc (.cells #[.slice (some ⟨c, 0, none⟩) pl pl, .slice (some ⟨c', 0, none⟩) tl tl] 32)) := (Below.refl _ _).alloc (Nat.le_refl _) _
    have x0 : (w4.alloc (.cells #[.slice (some ⟨c, 0, none⟩) pl pl, .slice (some ⟨c', 0, none⟩) tl tl] 32)).cell? ⟨w4.heap.size, 0, none⟩ = some (.slice (some ⟨c, 0, none⟩) pl pl) := by go_simp
    have x1 : (w4.alloc (.cells #[.slice (some ⟨c, 0, none⟩) pl pl, .slice (some ⟨c', 0, none⟩) tl tl] 32)).cell? ⟨w4.heap.size, 1, none⟩ = some (.slice (some ⟨c', 0, none⟩) tl tl) := by go_simp
    replace a0 := cell_below hX a0
    replace a1 := cell_below hX a1
    have HV4 := Lib.hid (HV4.out.below hX)
    have HT4 := Lib.hid (HT4.out.below hX)
    have HB4 := Lib.hid (HB4.out.trans (hX.mono HB4.out.size))
    generalize (w4.alloc (.cells #[.slice (some ⟨c, 0, none⟩) pl pl, .slice (some ⟨c', 0, none⟩) tl tl] 32)) = W4 at *
    clear hX
    generalize w4.heap.size = X at *
    refine (impl_IsSheet _ _ _ _ _ _ cs ts _ HV4.out HT4.out).mono ?_
    rintro e w5 ⟨rfl, hB5⟩
    replace a0 := cell_below hB5 a0
    replace a1 := cell_below hB5 a1
    replace x0 := cell_below hB5 x0
    replace x1 := cell_below hB5 x1
    rw [HV.out]
    have HV5 := Lib.hid (HV4.out.below hB5)
    have HT5 := Lib.hid (HT4.out.below hB5)
    have HB5 := Lib.hid (HB4.out.trans (hB5.mono HB4.out.size))
    clear hB5
    go_wp2_with fail
    refine Reg.wp_region_mix (C := fun w' => Below w5.heap.size w5 w') (G := fun w1 w2 => Below w1.heap.size w1 w2) (R := fun i v w' => match i with | 0 => v = .agg #[.slice (some ⟨c, 0, none⟩) pl pl, .slice (some ⟨c', 0, none⟩) tl tl] | 1 => v = .agg #[.slice pa pl pc, .slice ta tl tc] | 2 => ∃ d d', v = .agg #[.slice (some ⟨d, 0, none⟩) pl pl, .slice (some ⟨d', 0, none⟩) tl tl] ∧ IsVs w' (some ⟨d, 0, none⟩) pl pl cs ∧ IsTs w' (some ⟨d', 0, none⟩) tl tl ts | 3 => v = .bool true | 4 => v = .bool false | _ => True) (T := fun _ _ _ => True) [false, false, false, false, false, false, false, false, false, false, false, false, false, false, false, false, false, false, false, false, false, false, true, true, true, true, true]
      (by kernel_rfl) (by kernel_rfl) (by kernel_rfl) ?_ (below_drewN (Below.refl _ _) 1) ?_ ?_
    · intro j v w1 w2 _ hG hR
      match j with
      | 0 => exact hR
      | 1 => exact hR
      | 2 => obtain ⟨d, d', e, h1, h2⟩ := hR; exact ⟨d, d', e, h1.below hG, h2.below hG⟩
      | 3 => exact hR
      | 4 => exact hR
      | _ + 5 => trivial
    · refine ⟨Reg.Obl.mk ?_, Reg.Obl.mk ?_, Reg.Obl.mk ?_, Reg.Obl.mk ?_, Reg.Obl.mk ?_, trivial⟩
      · rintro a w1 hB hx hd K hK
        have t5 : a.tmps[5]?.getD undef = .pointer (some ⟨X, 0, none⟩) := Reg.slot_val (hx 5 (by kernel_rfl))
        have y0 := cell_below hB x0
        have y1 := cell_below hB x1
        go_simp
        exact hK _ _ (fun _ => rfl) (fun h => by cases h) hB (Below.refl _ _)
      · rintro a w1 hB hx hd K hK
        have t1 : a.tmps[1]?.getD undef = .pointer (some ⟨w.heap.size, 0, none⟩) := Reg.slot_val (hx 1 (by kernel_rfl))
        have y0 := cell_below hB a0
        have y1 := cell_below hB a1
        go_simp
        exact hK _ _ (fun _ => rfl) (fun h => by cases h) hB (Below.refl _ _)
      · rintro a w1 hB hx hd K hK
        have t23 : a.tmps[23]?.getD undef = .agg #[.slice pa pl pc, .slice ta tl tc] := Reg.slot_val (hd 1 (by kernel_rfl) 23 rfl)
        go_simp
        have hW1 : Below w.heap.size w w1 := HB5.out.trans (hB.mono HB5.out.size)
        refine (laws_toMesh _ _ _ _ _ _ _ _ _ (HP.out.below hW1) (HT.out.below hW1) HS.out).mono ?_
        rintro en w2 ⟨⟨d, d', rfl, hd1, hd2, hV, hT⟩, hB2⟩
        exact hK _ _ (fun _ => ⟨d, d', rfl, hV, hT⟩) (fun h => by cases h) (hB.trans (hB2.mono hB.size)) hB2
      · rintro a w1 hB hx hd K hK
        have t22 : a.tmps[22]?.getD undef = .agg #[.slice (some ⟨c, 0, none⟩) pl pl, .slice (some ⟨c', 0, none⟩) tl tl] := Reg.slot_val (hd 0 (by kernel_rfl) 22 rfl)
        obtain ⟨e, e', g2, hV, hT⟩ := hd 2 (by kernel_rfl) 24 rfl
        have t24 := Reg.slot_val g2
        clear g2
        have HVe := Lib.hid hV
        have HTe := Lib.hid hT
        clear hV hT
        go_simp
        refine (laws_eqMesh _ _ _ _ _ _ _ _ _ _ cs ts _ (HV5.out.below hB) (HT5.out.below hB) HVe.out HTe.out).mono ?_
        rintro en w2 ⟨rfl, hB2⟩
        exact hK _ _ (fun _ => rfl) (fun h => by cases h) (hB.trans (hB2.mono hB.size)) hB2
      · rintro a w1 hB hx hd K hK
        have t25 : a.tmps[25]?.getD undef = .bool true := Reg.slot_val (hd 3 (by kernel_rfl) 25 rfl)
        go_simp
        exact hK _ _ (fun _ => rfl) (fun h => by cases h) hB (Below.refl _ _)
    · rintro f w6 hB6 hd hT
      have g26 : f 26 = .bool false := hd 4 26 rfl
      simp only [Reg.mixL, g26]
      have HB6 := Lib.hid (HB5.out.trans (hB6.mono HB5.out.size))
      clear hB6
      go_wp2
      go_ret
      exact ⟨rfl, HB6.out⟩
end Go.Proofs.Ytmbekamnogbgaab

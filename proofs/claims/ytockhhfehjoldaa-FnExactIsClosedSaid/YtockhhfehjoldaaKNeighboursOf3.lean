/-
Texts in one: what NeighboursOf stands on, part 3. Conditions: those of each.
-/
import Derived.Test.YtockhhfehjoldaaKNeighboursOf2

/-
The neighbours of each place: rows that grow. What the program makes. Conditions: the mesh is valid and lies in memory.
-/
namespace Go.Proofs.Ytockhhfehjoldaa
open Go Fk Go.RowKit Go.Maps
set_option linter.unusedVariables false
set_option maxRecDepth 16000

/-- The block R has n rows of numbers, each in a block of its own above R. -/
def NearT (w : World) (R n : Nat) (f : Nat → List Int) (vs : Nat → Value) : Prop :=
  (∀ j, j < n → w.cell? ⟨R, j, none⟩ = some (vs j) ∧ w.ownsRow (R + 1) 2 1 (vs j) (f j).length ((f j).map (Value.int .i64))) ∧ (∀ i j, i < n → j < n → i ≠ j → (vs i).ownBlock = (vs j).ownBlock → (vs i).ownBlock = none) ∧ (∀ i, w.frozen? ⟨R, i, none⟩ = false) ∧ R < w.heap.size
theorem NearT.below {w w' : World} {R n : Nat} {f : Nat → List Int} {vs : Nat → Value} (h : NearT w R n f vs) (hB : Below w.heap.size w w') : NearT w' R n f vs :=
  ⟨fun j hj => ⟨cell_below hB (h.1 j hj).1, owns_up (h.1 j hj).2 hB⟩, h.2.1, fun i => by rw [hB.frozen (p := ⟨R, i, none⟩) h.2.2.2]; exact h.2.2.1 i, Nat.lt_of_lt_of_le h.2.2.2 hB.size⟩
theorem NearT.congr {w : World} {R n : Nat} {f g : Nat → List Int} {vs : Nat → Value} (h : NearT w R n f vs) (he : ∀ j, j < n → f j = g j) : NearT w R n g vs :=
  ⟨fun j hj => by rw [← he j hj]; exact h.1 j hj, h.2⟩
/-- A row has been grown by x, and lies at u. -/
def NearU (W : World) (R : Nat) (v0 : Value) (L : List Int) (x : Int) (u : Value) (w : World) : Prop :=
  ∃ wl, Below W.heap.size W wl ∧ wl.ownsRow (R + 1) 2 1 v0 L.length (L.map (Value.int .i64)) ∧ wl.grownBy w v0.ownBlock ∧ w.ownsRow (R + 1) 2 1 u (L.length + 1) (L.map (Value.int .i64) ++ [.int .i64 x]) ∧ (u.ownBlock = v0.ownBlock ∨ u.ownBlock = some wl.heap.size)
theorem NearU.row {W w : World} {R : Nat} {v0 u : Value} {L : List Int} {x : Int} {b1 : Nat} {e1 : TypeId} {s1 n1 : Nat} {v1 : Value} {x1 : List Value} (h : NearU W R v0 L x u w) (hr : W.ownsRow b1 e1 s1 v1 n1 x1) (he : e1 ≠ 2) : w.ownsRow b1 e1 s1 v1 n1 x1 := by
  obtain ⟨wl, h2, h1, h3, _, _⟩ := h
  exact owns_side (owns_up hr h2) h1 he h3
theorem NearU.cell {W w : World} {R : Nat} {v0 u : Value} {L : List Int} {x : Int} {j : Nat} {z : Value} (h : NearU W R v0 L x u w) (hc : W.cell? ⟨R, j, none⟩ = some z) : w.cell? ⟨R, j, none⟩ = some z := by
  obtain ⟨wl, h2, h1, h3, _, _⟩ := h
  refine h3.cell (cell_below h2 hc) (fun e => ?_)
  have := (h1.lt R e.symm).1
  omega
theorem NearU.put {W w : World} {R n m : Nat} {f : Nat → List Int} {vs : Nat → Value} {x : Int} {u : Value} (h : NearT W R n f vs) (hm : m < n) (hu : NearU W R (vs m) (f m) x u w) :
    NearT (w.setCell ⟨R, m, none⟩ u) R n (fun j => if j = m then f m ++ [x] else f j) (fun j => if j = m then u else vs j) := by
  have hu' := hu
  obtain ⟨wl, h2, h1, h3, h4, h5⟩ := hu
  have hsz := h2.size
  have hlt : ∀ j, j < n → ∀ k, (vs j).ownBlock = some k → R + 1 ≤ k ∧ k < W.heap.size := fun j hj k hk => (h.1 j hj).2.lt k hk
  have hfr : ∀ i, w.frozen? ⟨R, i, none⟩ = false := fun i => by
    have e1 : wl.frozen? ⟨R, i, none⟩ = false := by rw [h2.frozen (p := ⟨R, i, none⟩) h.2.2.2]; exact h.2.2.1 i
    rw [World.frozen?_of_block (w := wl) (w' := w) (h3.block R (Nat.lt_of_lt_of_le h.2.2.2 hsz) (fun e => by have := (h1.lt R e.symm).1; omega))]
    exact e1
  refine ⟨fun j hj => ?_, fun i j hi hj hne he => ?_, fun i => by rw [World.frozen?_setCell]; exact hfr i, by
    have := h3.size
    have := h.2.2.2
    simp only [World.size_setCell]
    omega⟩
  · by_cases hjm : j = m
    · subst hjm
      simp only [if_true]
      refine ⟨World.cell?_setCell_same _ _ _ (hu'.cell (h.1 j hj).1), ?_⟩
      have := ownsRow_setCell_below h4 (a := ⟨R, j, none⟩) (Nat.lt_succ_self R) u
      simpa using this
    · simp only [if_neg hjm]
      refine ⟨by rw [World.cell?_setCell_other _ _ _ _ (by first | (simp; done) | (simp; omega))]; exact hu'.cell (h.1 j hj).1, ?_⟩
      have hk := (owns_up (h.1 j hj).2 h2).kept h3 (by
        by_cases e : (vs j).ownBlock = (vs m).ownBlock
        · exact .inl (h.2.1 j m hj hm hjm e)
        · exact .inr e)
      exact ownsRow_setCell_below hk (a := ⟨R, m, none⟩) (Nat.lt_succ_self R) u
  · by_cases him : i = m
    · subst him
      have hjm : j ≠ i := fun e => hne e.symm
      simp only [if_true, if_neg hjm] at he ⊢
      rcases h5 with h5 | h5
      · rw [h5] at he ⊢
        exact h.2.1 i j hi hj hne he
      · rw [h5] at he
        have := (hlt j hj _ he.symm).2
        omega
    · simp only [if_neg him] at he ⊢
      by_cases hjm : j = m
      · subst hjm
        simp only [if_true] at he
        rcases h5 with h5 | h5
        · rw [h5] at he
          exact h.2.1 i j hi hj hne he
        · rw [h5] at he
          have := (hlt i hi _ he).2
          omega
      · simp only [if_neg hjm] at he
        exact h.2.1 i j hi hj hne he
theorem NearU.of_below {W w w' : World} {R : Nat} {v0 u : Value} {L : List Int} {x : Int} (h : NearU W R v0 L x u w) (hB : Below w.heap.size w w') : NearU W R v0 L x u w' := by
  obtain ⟨wl, h2, h1, h3, h4, h5⟩ := h
  exact ⟨wl, h2, h1, grown_below' h3 hB, owns_up h4 hB, h5⟩
theorem below_of_near {w W w5 : World} {R : Nat} {v0 u : Value} {L : List Int} {x : Int} (hB : Below w.heap.size w W) (h : NearU W R v0 L x u w5) (hR : w.heap.size ≤ R) : Below w.heap.size w w5 := by
  obtain ⟨wl, h2, h1, h3, _, _⟩ := h
  have hb := hB.trans (h2.mono hB.size)
  exact hb.grown h3 hb.size (fun k hk => by have := (h1.lt k hk).1; omega)
theorem frozen_of_near {W w5 : World} {R n : Nat} {f : Nat → List Int} {vs : Nat → Value} {v0 u : Value} {L : List Int} {x : Int} (hN : NearT W R n f vs) (h : NearU W R v0 L x u w5) (i : Nat) : w5.frozen? ⟨R, i, none⟩ = false := by
  obtain ⟨wl, h2, h1, h3, _, _⟩ := h
  have e1 : wl.frozen? ⟨R, i, none⟩ = false := by rw [h2.frozen (p := ⟨R, i, none⟩) hN.2.2.2]; exact hN.2.2.1 i
  rw [World.frozen?_of_block (w := wl) (w' := w5) (h3.block R (Nat.lt_of_lt_of_le hN.2.2.2 h2.size) (fun e => by have := (h1.lt R e.symm).1; omega))]
  exact e1
theorem slice_of_near {W w5 : World} {R : Nat} {v0 u : Value} {L : List Int} {x : Int} (h : NearU W R v0 L x u w5) : ∃ a n c, u = .slice a n c := by
  obtain ⟨wl, _, _, _, h4, _⟩ := h
  rcases h4.2 with ⟨e, _⟩ | ⟨g, cap, cur, e, _⟩
  · exact ⟨_, _, _, e⟩
  · exact ⟨_, _, _, e⟩
theorem near_step {A : Nat → List Int} {m n : Nat} (h : m < n) (j : Nat) : (if j = n then ((if n = m then A m ++ [(n : Int)] else A n) ++ [(m : Int)]) else (if j = m then A m ++ [(n : Int)] else A j)) = A j ++ nbF ((m : Int), (n : Int)) (j : Int) := by
  have hnm : ¬ n = m := by omega
  unfold nbF
  by_cases h1 : j = n
  · subst h1
    have h3 : ¬ ((m : Int) = (j : Int)) := by omega
    simp [hnm, h3]
  · by_cases h2 : j = m
    · subst h2
      have h3 : ¬ ((n : Int) = (j : Int)) := by omega
      simp [h1, h3]
    · have h3 : ¬ ((m : Int) = (j : Int)) := by omega
      have h4 : ¬ ((n : Int) = (j : Int)) := by omega
      simp [h1, h2, h3, h4]
set_option maxHeartbeats 8000000 in
theorem impl_neighbours (pa ta : Option Addr) (pl pc tl tc : Nat) (cs : List C3) (ts : List (List Int)) (w : World) (hp : IsVs w pa pl pc cs) (ht : IsTs w ta tl tc ts) (hv : validB cs ts = true) :
    Calls Try.prog 53 #[.agg #[.slice pa pl pc, .slice ta tl tc]] w fun e w' => ∃ R vs, e = .returned (.slice (some ⟨R, 0, none⟩) pl pl) ∧ w.heap.size ≤ R ∧ NearT w' R pl (fun j => nbL (pairsL (keysE ts) cs.length) (j : Int) (pairsL (keysE ts) cs.length).length) vs ∧ Below w.heap.size w w' := by
  have ui := Try.underlying31
  have ue := Try.underlying62
  have hpl := hp.1
  have htl := ht.1
  obtain ⟨i0, hi, hz0, hz1, hz2⟩ := info_parts info64
  obtain ⟨j0, hj, hy0, hy1, hy2⟩ := info_parts infoS
  obtain ⟨v1, v2⟩ := valid_pl hv
  have hpl64 : pl ≤ 64 := by omega
  have hB0 : Below w.heap.size w (w.alloc (.cells #[.slice pa pl pc, .slice ta tl tc] 31)) := (Below.refl _ _).alloc (Nat.le_refl _) _
  have a0 : (w.alloc (.cells #[.slice pa pl pc, .slice ta tl tc] 31)).cell? ⟨w.heap.size, 0, none⟩ = some (.slice pa pl pc) := by go_simp
  have a1 : (w.alloc (.cells #[.slice pa pl pc, .slice ta tl tc] 31)).cell? ⟨w.heap.size, 1, none⟩ = some (.slice ta tl tc) := by go_simp
  have hmk : ∀ W : World, (Instr.makeSlice 23 (.int .i64 (pl : Int)) (.int .i64 (pl : Int))).run Try.prog W = .ok (.slice (some ⟨W.heap.size, 0, none⟩) pl pl) (W.alloc (.cells (madeCells #[.slice none 0 0] pl) 38)) := fun W => by
    have := run_make (P := Try.prog) W 23 38 j0 (.slice none 0 0) Try.underlying23 hj hy0 .i64 .i64 pl pl (by omega) (Int.le_refl _) (by rw [hy2]; omega) (by omega)
    rw [this, hy1]; simp; rfl
  have HV := fun k (hk : k < tl) => tri_partsh (valid_rowh hv (show k < ts.length by omega))
  have HT3 := Lib.hid (fun i (hi : i < ts.length) => tri3_of (valid_rowh hv hi))
  have h3 : ∀ k, k < tl → (ts.getD k []).length = 3 := fun k hk => (HV k hk).1
  have hin : ∀ k, k < tl → ∀ i, i < 3 → 0 ≤ (ts.getD k []).getD i 0 ∧ ((ts.getD k []).getD i 0).toNat < 64 := fun k hk i hi => by
    have := (HV k hk).2 i hi
    omega
  have HLEN : Hid ((pairsL (keysE ts) cs.length).length ≤ 4096) := by
    have h := edT_len cs ts
    unfold edT at h
    rw [hv] at h
    simp only [cond_true] at h
    rw [edgesT_pairs, List.length_map] at h
    exact Lib.hid h
  have HPN : Hid (∀ k, k < (pairsL (keysE ts) cs.length).length → ∃ m n : Nat, m < n ∧ n < pl ∧ (pairsL (keysE ts) cs.length).getD k (0, 0) = ((m : Int), (n : Int))) := Lib.hid (fun k hk => by
    have hm : (pairsL (keysE ts) cs.length).getD k (0, 0) ∈ pairsL (keysE ts) cs.length := by
      rw [List.getD, List.getElem?_eq_getElem hk]
      exact List.getElem_mem _
    obtain ⟨a, b, _, hb, hab, _, e⟩ := mem_pairsL.1 hm
    exact ⟨a, b, hab, by omega, e⟩)
  have HN := Lib.hid v1
  have H3 := Lib.hid h3
  have HIN := Lib.hid hin
  have HT := Lib.hid ht
  have HTL := Lib.hid htl
  have HB0 := Lib.hid hB0
  have ht128 : tl ≤ 128 := by omega
  have HL := Lib.hid ht128
  clear hv hp ht hB0 v1 v2 h3 hin HV ht128 htl hpl
  generalize hps : pairsL (keysE ts) cs.length = ps at *
  have HPS := Lib.hid hps
  clear hps
  go_enter Try.func53, Try.ntmps53
  go_wp2_with fail
  have hWs : (w.alloc (.cells #[.slice pa pl pc, .slice ta tl tc] 31)).heap.size = w.heap.size + 1 := by simp
  generalize hW : (w.alloc (.cells #[.slice pa pl pc, .slice ta tl tc] 31)) = W at *
  clear hW
  generalize hR0 : w.heap.size + 1 = R at *
  clear hR0
  have hWR : W.heap.size = R := hWs
  clear hWs
  have hBM : Below W.heap.size W (W.alloc (.cells (madeCells #[.slice none 0 0] pl) 38)) := (Below.refl _ _).alloc (Nat.le_refl _) _
  have b0 := cell_below hBM a0
  have b1 := cell_below hBM a1
  have HBM := Lib.hid (HB0.out.trans (hBM.mono HB0.out.size))
  have HN0 : Hid (NearT (W.alloc (.cells (madeCells #[.slice none 0 0] pl) 38)) R pl (fun j => nbL ps (j : Int) 0) (fun _ => .slice none 0 0)) := Lib.hid ⟨fun j hj => ⟨by rw [← hWR]; exact made_cell W (.slice none 0 0) pl _ _ hj, World.ownsRow_nil _ _ _ _⟩, fun _ _ _ _ _ _ => rfl, fun i => by rw [← hWR]; simp, by rw [← hWR]; simp⟩
  have HR : Hid (w.heap.size ≤ R ∧ R < (W.alloc (.cells (madeCells #[.slice none 0 0] pl) 38)).heap.size) := Lib.hid ⟨by rw [← hWR]; exact HB0.out.size, by rw [← hWR]; simp⟩
  clear a0 a1 hBM
  generalize W.alloc (.cells (madeCells #[.slice none 0 0] pl) 38) = W1 at *
  clear hWR
  go_wp2_with fail
  refine (impl_edges pa ta pl pc tl tc ts W1 (HT.out.below HBM.out) H3.out HIN.out HL.out).mono ?_
  rintro e w2 ⟨B, D, rfl, hlo, hO, hG, hB2⟩
  have hm := map_of_groups hO
  have hsz := hm.size_le
  have HO := Lib.hid hm
  have HS := Lib.hid hsz
  have HG := Lib.hid hG
  have HN2 := Lib.hid (HN0.out.below hB2)
  have HB2 := Lib.hid (HBM.out.trans (hB2.mono HBM.out.size))
  clear hO hm hsz hG hB2 hlo b0 b1
  go_wp2_with fail
  refine (impl_sortedEdges B _ D _ w2 HO.out (by have := HS.out; have := HL.out; unfold maxLen; omega) (by have := HS.out; have := HL.out; omega)).mono ?_
  rintro e w3 ⟨v, ss, rfl, hK, hrow, hnil, hB3⟩
  have hse : sortE ss = ps := by
    rw [← HPS.out]
    refine sorted_edges ?_ hK HT3.out HN.out
    rw [HTL.out]
    exact HG.out
  have hln : ss.length = ps.length := by rw [← hse]; unfold sortE; simp
  rw [hse, hln] at hrow
  have HRW := Lib.hid hrow
  obtain ⟨a, c, rfl, hat⟩ := edges_at hrow rfl
  have HN3 := Lib.hid (HN2.out.below hB3)
  have HB3 := Lib.hid (HB2.out.trans (hB3.mono HB2.out.size))
  have HRb : Hid (R < w2.heap.size) := Lib.hid HN2.out.2.2.2
  generalize w2.heap.size = b3 at *
  clear hK hrow hse hln hat hB3 hnil
  go_wp2
  go_loopw [14] (fun i w' => ∃ k : Nat, k ≤ ps.length ∧ i = .int .i64 k ∧ Aside (∃ vs, NearT w' R pl (fun j => nbL ps (j : Int) k) vs ∧ w'.ownsRow b3 62 2 (.slice a ps.length c) ps.length (flatE ps) ∧ Below w.heap.size w w')) (fun i _ => ps.length - (intOf i).toNat)
  case atStart => exact ⟨0, Nat.zero_le _, rfl, _, HN3.out, HRW.out, HB3.out⟩
  case round =>
    obtain ⟨k, hk, rfl, hA⟩ := hrel
    obtain ⟨vs, hN, hO, hB⟩ := hA.out
    have HN1 := Lib.hid hN
    have HO1 := Lib.hid hO
    have HB1 := Lib.hid hB
    clear hA HN2 HN3 HRW HB3 HN0
    by_cases hlt : k < ps.length
    · obtain ⟨m, n, hmn, hnp, hek⟩ := HPN.out k hlt
      obtain ⟨a2, c2, he2, hat⟩ := edges_at hO rfl
      cases he2
      obtain ⟨g, rfl, z0, z1⟩ := hat k hlt
      rw [hek] at z0 z1
      simp only at z0 z1
      have HEK := Lib.hid hek
      have lg := World.block_lt_of_cell? _ _ z0
      have hk0 : (0 : Int) ≤ (k : Int) := by omega
      have hk1 : (k : Int) < (ps.length : Int) := by omega
      have m0 : (0 : Int) ≤ (m : Int) := by omega
      have m1 : (m : Int) < (pl : Int) := by omega
      have n0 : (0 : Int) ≤ (n : Int) := by omega
      have n1 : (n : Int) < (pl : Int) := by omega
      have HBX : Hid (Below wr.heap.size wr (wr.alloc (.cells #[.int .i64 (m : Int), .int .i64 (n : Int)] 62))) := Lib.hid ((Below.refl _ _).alloc (Nat.le_refl _) _)
      have BX : Hid ((wr.alloc (.cells #[.int .i64 (m : Int), .int .i64 (n : Int)] 62)).ownsRow wr.heap.size 62 2 (.slice (some ⟨wr.heap.size, 0, none⟩) 1 1) 1 [.int .i64 (m : Int), .int .i64 (n : Int)]) := Lib.hid (by
        have := World.ownsRow_lit (base := wr.heap.size) (e := 62) (size := 2) wr #[.int .i64 (m : Int), .int .i64 (n : Int)] 1 (Nat.le_refl _) (by decide) rfl
        simpa using this)
      have LRw : Hid (R < wr.heap.size) := Lib.hid hN.2.2.2
      clear hN hO hB hek hat
      go_wp2_with fail
      clear z0 z1 lg
      have HN4 := Lib.hid (HN1.out.below HBX.out)
      have HO4 := Lib.hid (owns_up HO1.out HBX.out)
      have HB4 := Lib.hid (HB1.out.trans (HBX.out.mono HB1.out.size))
      have HRS : Hid (w.heap.size ≤ R) := Lib.hid HR.out.1
      generalize hE : wr.heap.size = E at *
      clear hE
      generalize (wr.alloc (.cells #[.int .i64 (m : Int), .int .i64 (n : Int)] 62)) = W5 at *
      clear HBX HN1 HO1 HB1
      have LRE : Hid (R ≠ E) := Lib.hid (by have := LRw.out; omega)
      have LRG : Hid (R ≠ g) := Lib.hid (by have h1 := (HO4.out.lt g rfl).1; have h2 := HRb.out; omega)
      obtain ⟨f0, hf0⟩ : ∃ f0 : Nat → List Int, (fun j : Nat => nbL ps (j : Int) k) = f0 := ⟨_, rfl⟩
      have HF0 := Lib.hid hf0
      rw [hf0] at HN4
      clear hf0
      have HNw := Lib.hid HN4.out
      have HLl : Hid ((f0 m).length ≤ 8192) := Lib.hid (by
          rw [← HF0.out]; have := nbL_len ps (m : Int) k; have := HLEN.out; show (nbL ps (m : Int) k).length ≤ 8192; omega)
      refine Reg8.wp_region_mix (m := 11) (z := 13) (C := fun w' => Below W5.heap.size W5 w') (D := fun u w' => NearU W5 R (vs m) (f0 m) (n : Int) u w')
        (T := fun w' => (∃ vs', NearT w' R pl (fun j => if j = m then f0 m ++ [(n : Int)] else f0 j) vs') ∧ w'.ownsRow E 62 2 (.slice (some ⟨E, 0, none⟩) 1 1) 1 [.int .i64 (m : Int), .int .i64 (n : Int)] ∧ w'.ownsRow b3 62 2 (.slice (some ⟨g, 0, none⟩) ps.length c) ps.length (flatE ps) ∧ Below w.heap.size w w')
        (G := fun w1 w2 => Below w1.heap.size w1 w2)
        (Rv := fun i v => match i with | 0 => v = .slice (some ⟨R, 0, none⟩) pl pl | 1 => v = .pointer (some ⟨E, 0, none⟩) | 2 => v = .int .i64 (m : Int) | 3 => v = .slice (some ⟨R, 0, none⟩) pl pl | 4 => v = .pointer (some ⟨E, 0, none⟩) | 5 => v = .int .i64 (m : Int) | 6 => v = .pointer (some ⟨R, m, none⟩) | 7 => v = vs m | 8 => v = .pointer (some ⟨E, 1, none⟩) | 9 => v = .int .i64 (n : Int) | 12 => v = .pointer (some ⟨R, m, none⟩) | _ => True)
        (Rw := fun i v w' => match i with | 10 => ∃ g, v = .slice (some ⟨g, 0, none⟩) 1 1 ∧ w'.cell? ⟨g, 0, none⟩ = some (.int .i64 (n : Int)) | _ => True) [false, false, false, false, false, false, false, false, false, false, false, false, false, false, false, false, false, false, true, true, true, true, true, true, true, true, true, true, true, true, true, false, false, false, false, false, false, false, false, false, false, false, false, false, false, false]
        (by kernel_rfl) (by kernel_rfl) (by kernel_rfl) ?_ (below_drewN (Below.refl _ _) 1) ?_ ?_
      · intro j v w1 w2 hC hG hR
        match j with
        | 0 => trivial
        | 1 => trivial
        | 2 => trivial
        | 3 => trivial
        | 4 => trivial
        | 5 => trivial
        | 6 => trivial
        | 7 => trivial
        | 8 => trivial
        | 9 => trivial
        | 10 => obtain ⟨g, e, hg⟩ := hR; exact ⟨g, e, cell_below hG hg⟩
        | _ + 11 => trivial
      · refine ⟨?_, ?_, ?_, ?_, ?_, ?_, ?_, ?_, ?_, ?_, ?_, ?_, ?_, ?_, trivial⟩
        · refine Reg8.Obl.any (by kernel_rfl) (by kernel_rfl) ?_ ?_
          · rintro a' w5 hC hx hd K hK
            have HC := Lib.hid hC
            clear hC
            have t3 : a'.tmps[3]?.getD undef = .slice (some ⟨R, 0, none⟩) pl pl := Reg.slot_val (hx 3 (by kernel_rfl))
            go_simp
            exact hK _ _ rfl trivial HC.out (Below.refl _ _)
          · rintro a' w5 u5 hD hx hd K hK
            have HD := Lib.hid hD
            clear hD
            have t3 : a'.tmps[3]?.getD undef = .slice (some ⟨R, 0, none⟩) pl pl := Reg.slot_val (hx 3 (by kernel_rfl))
            go_simp
            exact hK _ _ rfl HD.out
        · refine Reg8.Obl.any (by kernel_rfl) (by kernel_rfl) ?_ ?_
          · rintro a' w5 hC hx hd K hK
            have HC := Lib.hid hC
            clear hC
            have t5 : a'.tmps[5]?.getD undef = .pointer (some ⟨E, 0, none⟩) := Reg.slot_val (hx 5 (by kernel_rfl))
            go_simp
            exact hK _ _ rfl trivial HC.out (Below.refl _ _)
          · rintro a' w5 u5 hD hx hd K hK
            have HD := Lib.hid hD
            clear hD
            have t5 : a'.tmps[5]?.getD undef = .pointer (some ⟨E, 0, none⟩) := Reg.slot_val (hx 5 (by kernel_rfl))
            go_simp
            exact hK _ _ rfl HD.out
        · refine Reg8.Obl.any (by kernel_rfl) (by kernel_rfl) ?_ ?_
          · rintro a' w5 hC hx hd K hK
            have HC := Lib.hid hC
            clear hC
            have t19 : a'.tmps[19]?.getD undef = .pointer (some ⟨E, 0, none⟩) := Reg.slot_val (hd 1 19 (by kernel_rfl) rfl)
            have r5 := owns_up BX.out HC.out
            have y0 := cell0_of r5
            have y1 := cell1_of r5
            clear r5
            go_simp
            exact hK _ _ rfl trivial HC.out (Below.refl _ _)
          · rintro a' w5 u5 hD hx hd K hK
            have HD := Lib.hid hD
            clear hD
            have t19 : a'.tmps[19]?.getD undef = .pointer (some ⟨E, 0, none⟩) := Reg.slot_val (hd 1 19 (by kernel_rfl) rfl)
            have r5 := HD.out.row BX.out (by decide)
            have y0 := cell0_of r5
            have y1 := cell1_of r5
            clear r5
            go_simp
            exact hK _ _ rfl HD.out
        · refine Reg8.Obl.early (by kernel_rfl) (by kernel_rfl) (by kernel_rfl) ?_
          rintro a' w5 hC hx hd K hK
          have HC := Lib.hid hC
          clear hC
          have t3 : a'.tmps[3]?.getD undef = .slice (some ⟨R, 0, none⟩) pl pl := Reg.slot_val (hx 3 (by kernel_rfl))
          go_simp
          exact hK _ _ rfl trivial HC.out (Below.refl _ _)
        · refine Reg8.Obl.early (by kernel_rfl) (by kernel_rfl) (by kernel_rfl) ?_
          rintro a' w5 hC hx hd K hK
          have HC := Lib.hid hC
          clear hC
          have t5 : a'.tmps[5]?.getD undef = .pointer (some ⟨E, 0, none⟩) := Reg.slot_val (hx 5 (by kernel_rfl))
          go_simp
          exact hK _ _ rfl trivial HC.out (Below.refl _ _)
        · refine Reg8.Obl.early (by kernel_rfl) (by kernel_rfl) (by kernel_rfl) ?_
          rintro a' w5 hC hx hd K hK
          have HC := Lib.hid hC
          clear hC
          have t22 : a'.tmps[22]?.getD undef = .pointer (some ⟨E, 0, none⟩) := Reg.slot_val (hd 4 22 (by kernel_rfl) rfl).1
          have r5 := owns_up BX.out HC.out
          have y0 := cell0_of r5
          have y1 := cell1_of r5
          clear r5
          go_simp
          exact hK _ _ rfl trivial HC.out (Below.refl _ _)
        · refine Reg8.Obl.early (by kernel_rfl) (by kernel_rfl) (by kernel_rfl) ?_
          rintro a' w5 hC hx hd K hK
          have HC := Lib.hid hC
          clear hC
          have t21 : a'.tmps[21]?.getD undef = .slice (some ⟨R, 0, none⟩) pl pl := Reg.slot_val (hd 3 21 (by kernel_rfl) rfl).1
          have t23 : a'.tmps[23]?.getD undef = .int .i64 (m : Int) := Reg.slot_val (hd 5 23 (by kernel_rfl) rfl).1
          go_simp
          exact hK _ _ rfl trivial HC.out (Below.refl _ _)
        · refine Reg8.Obl.early (by kernel_rfl) (by kernel_rfl) (by kernel_rfl) ?_
          rintro a' w5 hC hx hd K hK
          have HC := Lib.hid hC
          clear hC
          have t24 : a'.tmps[24]?.getD undef = .pointer (some ⟨R, m, none⟩) := Reg.slot_val (hd 6 24 (by kernel_rfl) rfl).1
          have y0 := cell_below HC.out (HNw.out.1 m (by omega)).1
          go_simp
          exact hK _ _ rfl trivial HC.out (Below.refl _ _)
        · refine Reg8.Obl.early (by kernel_rfl) (by kernel_rfl) (by kernel_rfl) ?_
          rintro a' w5 hC hx hd K hK
          have HC := Lib.hid hC
          clear hC
          have t5 : a'.tmps[5]?.getD undef = .pointer (some ⟨E, 0, none⟩) := Reg.slot_val (hx 5 (by kernel_rfl))
          go_simp
          exact hK _ _ rfl trivial HC.out (Below.refl _ _)
        · refine Reg8.Obl.early (by kernel_rfl) (by kernel_rfl) (by kernel_rfl) ?_
          rintro a' w5 hC hx hd K hK
          have HC := Lib.hid hC
          clear hC
          have t26 : a'.tmps[26]?.getD undef = .pointer (some ⟨E, 1, none⟩) := Reg.slot_val (hd 8 26 (by kernel_rfl) rfl).1
          have r5 := owns_up BX.out HC.out
          have y0 := cell0_of r5
          have y1 := cell1_of r5
          clear r5
          go_simp
          exact hK _ _ rfl trivial HC.out (Below.refl _ _)
        · refine Reg8.Obl.early (by kernel_rfl) (by kernel_rfl) (by kernel_rfl) ?_
          rintro a' w5 hC hx hd K hK
          have HC := Lib.hid hC
          clear hC
          have t27 : a'.tmps[27]?.getD undef = .int .i64 (n : Int) := Reg.slot_val (hd 9 27 (by kernel_rfl) rfl).1
          have e0 : (w5.alloc (.cells #[.int .i64 (n : Int)] 2)).cell? ⟨w5.heap.size, 0, none⟩ = some (.int .i64 (n : Int)) := by simp
          have E0 := Lib.hid e0
          clear e0
          go_simp
          exact hK _ _ trivial ⟨_, rfl, by first | (simp; done) | exact E0.out⟩ (HC.out.alloc HC.out.size _) ((Below.refl _ _).alloc (Nat.le_refl _) _)
        · refine Reg8.Obl.turn (by kernel_rfl) (by kernel_rfl) ?_
          rintro a' w5 hC hx hd K hK
          have t25 := (hd 7 25 (by kernel_rfl) rfl).1
          obtain ⟨g', t28, hg28⟩ := (hd 10 28 (by kernel_rfl) rfl).2
          have hown := owns_up (HNw.out.1 m (by omega)).2 hC
          have hsz5 := hC.size
          have hlR := HNw.out.2.2.2
          have hll := HLl.out
          refine wp_append_own_at w5 _ _ 38 rfl (R + 1) 2 i0 (.int .i64 0) 1 8 Try.underlying38 hi hz0 hz1 hz2 rfl (by decide) _ _ _ t25 hown ⟨g', 0, none⟩ 1 1 [.int .i64 (n : Int)] t28 rfl (fun j u hj => ?_) (fun u hu => by simp at hu; subst hu; rfl) (by unfold maxLen; omega) (by omega) (by omega) ?_
          · match j, hj with
            | 0, hj => simp at hj; subst hj; first | (simp [Addr.add]; done) | (simp [Addr.add]; exact hg28)
            | j + 1, hj => simp at hj
          · intro v6 w6 ho hgr hloc
            exact hK _ _ trivial ⟨w5, hC, hown, hgr, ho, hloc.imp id (fun h => by first | exact h | (rw [h]))⟩
        · refine Reg8.Obl.any (by kernel_rfl) (by kernel_rfl) ?_ ?_
          · rintro a' w5 hC hx hd K hK
            have HC := Lib.hid hC
            clear hC
            have t18 : a'.tmps[18]?.getD undef = .slice (some ⟨R, 0, none⟩) pl pl := Reg.slot_val (hd 0 18 (by kernel_rfl) rfl)
            have t20 : a'.tmps[20]?.getD undef = .int .i64 (m : Int) := Reg.slot_val (hd 2 20 (by kernel_rfl) rfl)
            go_simp
            exact hK _ _ rfl trivial HC.out (Below.refl _ _)
          · rintro a' w5 u5 hD hx hd K hK
            have HD := Lib.hid hD
            clear hD
            have t18 : a'.tmps[18]?.getD undef = .slice (some ⟨R, 0, none⟩) pl pl := Reg.slot_val (hd 0 18 (by kernel_rfl) rfl)
            have t20 : a'.tmps[20]?.getD undef = .int .i64 (m : Int) := Reg.slot_val (hd 2 20 (by kernel_rfl) rfl)
            go_simp
            exact hK _ _ rfl HD.out
        · refine Reg8.Obl.store (by kernel_rfl) ?_
          rintro a' w5 u5 hu hD hx hd K hK
          obtain ⟨ua, ul, uc, rfl⟩ := slice_of_near hD
          have t30 : a'.tmps[30]?.getD undef = .pointer (some ⟨R, m, none⟩) := Reg.slot_val (hd 12 30 rfl)
          have t29 : a'.tmps[29]?.getD undef = .slice ua ul uc := Reg.slot_val (hu 29 rfl)
          have c5 := hD.cell (HNw.out.1 m (by omega)).1
          have HD := Lib.hid hD
          have HBw := Lib.hid (below_of_near HB4.out hD HRS.out)
          have hf5 : w5.frozen? ⟨R, m, none⟩ = false := frozen_of_near HNw.out hD _
          have HT6 : Hid ((∃ vs', NearT (w5.setCell ⟨R, m, none⟩ (.slice ua ul uc)) R pl (fun j => if j = m then f0 m ++ [(n : Int)] else f0 j) vs') ∧ (w5.setCell ⟨R, m, none⟩ (.slice ua ul uc)).ownsRow E 62 2 (.slice (some ⟨E, 0, none⟩) 1 1) 1 [.int .i64 (m : Int), .int .i64 (n : Int)] ∧ (w5.setCell ⟨R, m, none⟩ (.slice ua ul uc)).ownsRow b3 62 2 (.slice (some ⟨g, 0, none⟩) ps.length c) ps.length (flatE ps) ∧ Below w.heap.size w (w5.setCell ⟨R, m, none⟩ (.slice ua ul uc))) := Lib.hid ⟨⟨_, NearU.put HNw.out (by omega) hD⟩, ownsRow_setCell_other (hD.row BX.out (by decide)) (by simp [Value.ownBlock]; have := LRE.out; omega) _, ownsRow_setCell_other (hD.row HO4.out (by decide)) (by simp [Value.ownBlock]; have := LRG.out; omega) _, HBw.out.setCell (p := ⟨R, m, none⟩) HRS.out _⟩
          clear hD
          go_simp
          exact hK _ HT6.out
      · rintro ff w6 ⟨hN6, hE6, hO6, hB6⟩ hd
        obtain ⟨vs6, hN6⟩ := hN6
        have HN5 := Lib.hid hN6
        have BX5 := Lib.hid hE6
        have HO5 := Lib.hid hO6
        have HB5 := Lib.hid hB6
        clear hN6 hE6 hO6 hB6 hd
        simp only [Reg.mixL, Nat.zero_add, Nat.reduceAdd]
        try go_wp2_with fail
        obtain ⟨f1, hf1⟩ : ∃ f1 : Nat → List Int, (fun j : Nat => if j = m then f0 m ++ [(n : Int)] else f0 j) = f1 := ⟨_, rfl⟩
        have HF1 := Lib.hid hf1
        have HN5 := Lib.hid (show NearT w6 R pl f1 vs6 by rw [← hf1]; exact HN5.out)
        clear hf1
        have HNw := Lib.hid HN5.out
        have HLl : Hid ((f1 n).length ≤ 8192) := Lib.hid (by
            have e : f1 n = f0 n := by rw [← HF1.out]; exact if_neg (by omega)
            rw [e]
            rw [← HF0.out]; have := nbL_len ps (n : Int) k; have := HLEN.out; show (nbL ps (n : Int) k).length ≤ 8192; omega)
        refine Reg8.wp_region_mix (m := 11) (z := 13) (C := fun w' => Below w6.heap.size w6 w') (D := fun u w' => NearU w6 R (vs6 n) (f1 n) (m : Int) u w')
          (T := fun w' => (∃ vs', NearT w' R pl (fun j => if j = n then f1 n ++ [(m : Int)] else f1 j) vs') ∧ w'.ownsRow E 62 2 (.slice (some ⟨E, 0, none⟩) 1 1) 1 [.int .i64 (m : Int), .int .i64 (n : Int)] ∧ w'.ownsRow b3 62 2 (.slice (some ⟨g, 0, none⟩) ps.length c) ps.length (flatE ps) ∧ Below w.heap.size w w')
          (G := fun w1 w2 => Below w1.heap.size w1 w2)
          (Rv := fun i v => match i with | 0 => v = .slice (some ⟨R, 0, none⟩) pl pl | 1 => v = .pointer (some ⟨E, 1, none⟩) | 2 => v = .int .i64 (n : Int) | 3 => v = .slice (some ⟨R, 0, none⟩) pl pl | 4 => v = .pointer (some ⟨E, 1, none⟩) | 5 => v = .int .i64 (n : Int) | 6 => v = .pointer (some ⟨R, n, none⟩) | 7 => v = vs6 n | 8 => v = .pointer (some ⟨E, 0, none⟩) | 9 => v = .int .i64 (m : Int) | 12 => v = .pointer (some ⟨R, n, none⟩) | _ => True)
          (Rw := fun i v w' => match i with | 10 => ∃ g, v = .slice (some ⟨g, 0, none⟩) 1 1 ∧ w'.cell? ⟨g, 0, none⟩ = some (.int .i64 (m : Int)) | _ => True) [false, false, false, false, false, false, false, false, false, false, false, false, false, false, false, false, false, false, false, false, false, false, false, false, false, false, false, false, false, false, false, true, true, true, true, true, true, true, true, true, true, true, true, true, false, false]
          (by kernel_rfl) (by kernel_rfl) (by kernel_rfl) ?_ (below_drewN (Below.refl _ _) 1) ?_ ?_
        · intro j v w1 w2 hC hG hR
          match j with
          | 0 => trivial
          | 1 => trivial
          | 2 => trivial
          | 3 => trivial
          | 4 => trivial
          | 5 => trivial
          | 6 => trivial
          | 7 => trivial
          | 8 => trivial
          | 9 => trivial
          | 10 => obtain ⟨g, e, hg⟩ := hR; exact ⟨g, e, cell_below hG hg⟩
          | _ + 11 => trivial
        · refine ⟨?_, ?_, ?_, ?_, ?_, ?_, ?_, ?_, ?_, ?_, ?_, ?_, ?_, ?_, trivial⟩
          · refine Reg8.Obl.any (by kernel_rfl) (by kernel_rfl) ?_ ?_
            · rintro a' w5 hC hx hd K hK
              have HC := Lib.hid hC
              clear hC
              have t3 : a'.tmps[3]?.getD undef = .slice (some ⟨R, 0, none⟩) pl pl := Reg.slot_val (hx 3 (by kernel_rfl))
              go_simp
              exact hK _ _ rfl trivial HC.out (Below.refl _ _)
            · rintro a' w5 u5 hD hx hd K hK
              have HD := Lib.hid hD
              clear hD
              have t3 : a'.tmps[3]?.getD undef = .slice (some ⟨R, 0, none⟩) pl pl := Reg.slot_val (hx 3 (by kernel_rfl))
              go_simp
              exact hK _ _ rfl HD.out
          · refine Reg8.Obl.any (by kernel_rfl) (by kernel_rfl) ?_ ?_
            · rintro a' w5 hC hx hd K hK
              have HC := Lib.hid hC
              clear hC
              have t5 : a'.tmps[5]?.getD undef = .pointer (some ⟨E, 0, none⟩) := Reg.slot_val (hx 5 (by kernel_rfl))
              go_simp
              exact hK _ _ rfl trivial HC.out (Below.refl _ _)
            · rintro a' w5 u5 hD hx hd K hK
              have HD := Lib.hid hD
              clear hD
              have t5 : a'.tmps[5]?.getD undef = .pointer (some ⟨E, 0, none⟩) := Reg.slot_val (hx 5 (by kernel_rfl))
              go_simp
              exact hK _ _ rfl HD.out
          · refine Reg8.Obl.any (by kernel_rfl) (by kernel_rfl) ?_ ?_
            · rintro a' w5 hC hx hd K hK
              have HC := Lib.hid hC
              clear hC
              have t32 : a'.tmps[32]?.getD undef = .pointer (some ⟨E, 1, none⟩) := Reg.slot_val (hd 1 32 (by kernel_rfl) rfl)
              have r5 := owns_up BX5.out HC.out
              have y0 := cell0_of r5
              have y1 := cell1_of r5
              clear r5
              go_simp
              exact hK _ _ rfl trivial HC.out (Below.refl _ _)
            · rintro a' w5 u5 hD hx hd K hK
              have HD := Lib.hid hD
              clear hD
              have t32 : a'.tmps[32]?.getD undef = .pointer (some ⟨E, 1, none⟩) := Reg.slot_val (hd 1 32 (by kernel_rfl) rfl)
              have r5 := HD.out.row BX5.out (by decide)
              have y0 := cell0_of r5
              have y1 := cell1_of r5
              clear r5
              go_simp
              exact hK _ _ rfl HD.out
          · refine Reg8.Obl.early (by kernel_rfl) (by kernel_rfl) (by kernel_rfl) ?_
            rintro a' w5 hC hx hd K hK
            have HC := Lib.hid hC
            clear hC
            have t3 : a'.tmps[3]?.getD undef = .slice (some ⟨R, 0, none⟩) pl pl := Reg.slot_val (hx 3 (by kernel_rfl))
            go_simp
            exact hK _ _ rfl trivial HC.out (Below.refl _ _)
          · refine Reg8.Obl.early (by kernel_rfl) (by kernel_rfl) (by kernel_rfl) ?_
            rintro a' w5 hC hx hd K hK
            have HC := Lib.hid hC
            clear hC
            have t5 : a'.tmps[5]?.getD undef = .pointer (some ⟨E, 0, none⟩) := Reg.slot_val (hx 5 (by kernel_rfl))
            go_simp
            exact hK _ _ rfl trivial HC.out (Below.refl _ _)
          · refine Reg8.Obl.early (by kernel_rfl) (by kernel_rfl) (by kernel_rfl) ?_
            rintro a' w5 hC hx hd K hK
            have HC := Lib.hid hC
            clear hC
            have t35 : a'.tmps[35]?.getD undef = .pointer (some ⟨E, 1, none⟩) := Reg.slot_val (hd 4 35 (by kernel_rfl) rfl).1
            have r5 := owns_up BX5.out HC.out
            have y0 := cell0_of r5
            have y1 := cell1_of r5
            clear r5
            go_simp
            exact hK _ _ rfl trivial HC.out (Below.refl _ _)
          · refine Reg8.Obl.early (by kernel_rfl) (by kernel_rfl) (by kernel_rfl) ?_
            rintro a' w5 hC hx hd K hK
            have HC := Lib.hid hC
            clear hC
            have t34 : a'.tmps[34]?.getD undef = .slice (some ⟨R, 0, none⟩) pl pl := Reg.slot_val (hd 3 34 (by kernel_rfl) rfl).1
            have t36 : a'.tmps[36]?.getD undef = .int .i64 (n : Int) := Reg.slot_val (hd 5 36 (by kernel_rfl) rfl).1
            go_simp
            exact hK _ _ rfl trivial HC.out (Below.refl _ _)
          · refine Reg8.Obl.early (by kernel_rfl) (by kernel_rfl) (by kernel_rfl) ?_
            rintro a' w5 hC hx hd K hK
            have HC := Lib.hid hC
            clear hC
            have t37 : a'.tmps[37]?.getD undef = .pointer (some ⟨R, n, none⟩) := Reg.slot_val (hd 6 37 (by kernel_rfl) rfl).1
            have y0 := cell_below HC.out (HNw.out.1 n (by omega)).1
            go_simp
            exact hK _ _ rfl trivial HC.out (Below.refl _ _)
          · refine Reg8.Obl.early (by kernel_rfl) (by kernel_rfl) (by kernel_rfl) ?_
            rintro a' w5 hC hx hd K hK
            have HC := Lib.hid hC
            clear hC
            have t5 : a'.tmps[5]?.getD undef = .pointer (some ⟨E, 0, none⟩) := Reg.slot_val (hx 5 (by kernel_rfl))
            go_simp
            exact hK _ _ rfl trivial HC.out (Below.refl _ _)
          · refine Reg8.Obl.early (by kernel_rfl) (by kernel_rfl) (by kernel_rfl) ?_
            rintro a' w5 hC hx hd K hK
            have HC := Lib.hid hC
            clear hC
            have t39 : a'.tmps[39]?.getD undef = .pointer (some ⟨E, 0, none⟩) := Reg.slot_val (hd 8 39 (by kernel_rfl) rfl).1
            have r5 := owns_up BX5.out HC.out
            have y0 := cell0_of r5
            have y1 := cell1_of r5
            clear r5
            go_simp
            exact hK _ _ rfl trivial HC.out (Below.refl _ _)
          · refine Reg8.Obl.early (by kernel_rfl) (by kernel_rfl) (by kernel_rfl) ?_
            rintro a' w5 hC hx hd K hK
            have HC := Lib.hid hC
            clear hC
            have t40 : a'.tmps[40]?.getD undef = .int .i64 (m : Int) := Reg.slot_val (hd 9 40 (by kernel_rfl) rfl).1
            have e0 : (w5.alloc (.cells #[.int .i64 (m : Int)] 2)).cell? ⟨w5.heap.size, 0, none⟩ = some (.int .i64 (m : Int)) := by simp
            have E0 := Lib.hid e0
            clear e0
            go_simp
            exact hK _ _ trivial ⟨_, rfl, by first | (simp; done) | exact E0.out⟩ (HC.out.alloc HC.out.size _) ((Below.refl _ _).alloc (Nat.le_refl _) _)
          · refine Reg8.Obl.turn (by kernel_rfl) (by kernel_rfl) ?_
            rintro a' w5 hC hx hd K hK
            have t38 := (hd 7 38 (by kernel_rfl) rfl).1
            obtain ⟨g', t41, hg41⟩ := (hd 10 41 (by kernel_rfl) rfl).2
            have hown := owns_up (HNw.out.1 n (by omega)).2 hC
            have hsz5 := hC.size
            have hlR := HNw.out.2.2.2
            have hll := HLl.out
            refine wp_append_own_at w5 _ _ 38 rfl (R + 1) 2 i0 (.int .i64 0) 1 8 Try.underlying38 hi hz0 hz1 hz2 rfl (by decide) _ _ _ t38 hown ⟨g', 0, none⟩ 1 1 [.int .i64 (m : Int)] t41 rfl (fun j u hj => ?_) (fun u hu => by simp at hu; subst hu; rfl) (by unfold maxLen; omega) (by omega) (by omega) ?_
            · match j, hj with
              | 0, hj => simp at hj; subst hj; first | (simp [Addr.add]; done) | (simp [Addr.add]; exact hg41)
              | j + 1, hj => simp at hj
            · intro v6 w6 ho hgr hloc
              exact hK _ _ trivial ⟨w5, hC, hown, hgr, ho, hloc.imp id (fun h => by first | exact h | (rw [h]))⟩
          · refine Reg8.Obl.any (by kernel_rfl) (by kernel_rfl) ?_ ?_
            · rintro a' w5 hC hx hd K hK
              have HC := Lib.hid hC
              clear hC
              have t31 : a'.tmps[31]?.getD undef = .slice (some ⟨R, 0, none⟩) pl pl := Reg.slot_val (hd 0 31 (by kernel_rfl) rfl)
              have t33 : a'.tmps[33]?.getD undef = .int .i64 (n : Int) := Reg.slot_val (hd 2 33 (by kernel_rfl) rfl)
              go_simp
              exact hK _ _ rfl trivial HC.out (Below.refl _ _)
            · rintro a' w5 u5 hD hx hd K hK
              have HD := Lib.hid hD
              clear hD
              have t31 : a'.tmps[31]?.getD undef = .slice (some ⟨R, 0, none⟩) pl pl := Reg.slot_val (hd 0 31 (by kernel_rfl) rfl)
              have t33 : a'.tmps[33]?.getD undef = .int .i64 (n : Int) := Reg.slot_val (hd 2 33 (by kernel_rfl) rfl)
              go_simp
              exact hK _ _ rfl HD.out
          · refine Reg8.Obl.store (by kernel_rfl) ?_
            rintro a' w5 u5 hu hD hx hd K hK
            obtain ⟨ua, ul, uc, rfl⟩ := slice_of_near hD
            have t43 : a'.tmps[43]?.getD undef = .pointer (some ⟨R, n, none⟩) := Reg.slot_val (hd 12 43 rfl)
            have t42 : a'.tmps[42]?.getD undef = .slice ua ul uc := Reg.slot_val (hu 42 rfl)
            have c5 := hD.cell (HNw.out.1 n (by omega)).1
            have HD := Lib.hid hD
            have HBw := Lib.hid (below_of_near HB5.out hD HRS.out)
            have hf5 : w5.frozen? ⟨R, n, none⟩ = false := frozen_of_near HNw.out hD _
            have HT6 : Hid ((∃ vs', NearT (w5.setCell ⟨R, n, none⟩ (.slice ua ul uc)) R pl (fun j => if j = n then f1 n ++ [(m : Int)] else f1 j) vs') ∧ (w5.setCell ⟨R, n, none⟩ (.slice ua ul uc)).ownsRow E 62 2 (.slice (some ⟨E, 0, none⟩) 1 1) 1 [.int .i64 (m : Int), .int .i64 (n : Int)] ∧ (w5.setCell ⟨R, n, none⟩ (.slice ua ul uc)).ownsRow b3 62 2 (.slice (some ⟨g, 0, none⟩) ps.length c) ps.length (flatE ps) ∧ Below w.heap.size w (w5.setCell ⟨R, n, none⟩ (.slice ua ul uc))) := Lib.hid ⟨⟨_, NearU.put HNw.out (by omega) hD⟩, ownsRow_setCell_other (hD.row BX5.out (by decide)) (by simp [Value.ownBlock]; have := LRE.out; omega) _, ownsRow_setCell_other (hD.row HO5.out (by decide)) (by simp [Value.ownBlock]; have := LRG.out; omega) _, HBw.out.setCell (p := ⟨R, n, none⟩) HRS.out _⟩
            clear hD
            go_simp
            exact hK _ HT6.out
        · rintro ff w6 ⟨hN6, hE6, hO6, hB6⟩ hd
          obtain ⟨vs6, hN6⟩ := hN6
          have HN6 := Lib.hid hN6
          have BX6 := Lib.hid hE6
          have HO6 := Lib.hid hO6
          have HB6 := Lib.hid hB6
          clear hN6 hE6 hO6 hB6 hd
          simp only [Reg.mixL, Nat.zero_add, Nat.reduceAdd]
          have hps := HLEN.out
          go_wp2
          go_roundw
          case rel => exact ⟨k + 1, by omega, by go_num, _, HN6.out.congr (fun j hj => by show _ = nbL ps (j : Int) (k + 1); rw [nbL_s, HEK.out, show nbL ps (j : Int) k = f0 j by rw [← HF0.out], ← HF1.out]; exact near_step hmn j), HO6.out, HB6.out⟩
          case measure => simp [intOf]; omega
    · obtain rfl : k = ps.length := by omega
      go_wp2
      go_ret
      exact ⟨R, vs, rfl, HR.out.1, HN1.out, HB1.out⟩
end Go.Proofs.Ytockhhfehjoldaa
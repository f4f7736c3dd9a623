/-
Texts in one: what EdgesOf stands on, part 37. Conditions: those of each.
-/
import Derived.Test.YtmbekamnogbgaaaKEdgesOf36
import Derived.BigQuiet
import Derived.Maps.OwnSet

/-
Whether a mesh is a sheet: what the model returns. Conditions: the mesh is valid and lies in memory.
-/
namespace Go.Proofs.Ytmbekamnogbgaaa
open Go Fk Go.RowKit
set_option linter.unusedVariables false
set_option maxRecDepth 16000

theorem atL_in {ts : List (List Int)} {p q : Int} {k : Nat} : ∀ z ∈ atL ts p q k, ∃ i : Nat, z = (i : Int) ∧ i < k := fun z hz => by
  rw [atL_filter] at hz
  obtain ⟨i, hi, rfl⟩ := List.mem_map.1 hz
  exact ⟨i, rfl, List.mem_range.1 (List.mem_filter.1 hi).1⟩
theorem edge_row {n : Nat} {ts : List (List Int)} {m : Nat} (hm : m < (edgesT n ts).length) : ∃ a b : Nat, a < n ∧ b < n ∧ a < b ∧ ((a : Int), (b : Int)) ∈ keysE ts ∧ (edgesT n ts).getD m [] = [(a : Int), (b : Int)] := by
  have h : (edgesT n ts).getD m [] ∈ edgesT n ts := by
    rw [List.getD, List.getElem?_eq_getElem hm]
    exact List.getElem_mem _
  obtain ⟨a, b, ha, hb, hab, hk, e⟩ := mem_rowsE.1 h
  exact ⟨a, b, ha, hb, hab, hk, e⟩
theorem edge_wf {n : Nat} {ts : List (List Int)} (hn : n ≤ 64) : ∀ j, j < (edgesT n ts).length → ∀ z ∈ (edgesT n ts).getD j [], (Lit.int .i64 z).wf = true := fun j hj z hz => by
  obtain ⟨a, b, ha, hb, _, _, e⟩ := edge_row hj
  rw [e] at hz
  simp only [List.mem_cons, List.not_mem_nil, or_false] at hz
  rcases hz with rfl | rfl <;> exact WalkArith.wf_i64 (by omega)
theorem edges_len {n : Nat} {ts : List (List Int)} (hn : n ≤ 64) : (edgesT n ts).length ≤ 4096 := by
  have := rowsE_len (keysE ts) n n
  have h2 : n * n ≤ 64 * 64 := Nat.mul_le_mul hn hn
  unfold edgesT
  omega
theorem sheetB_no {n : Nat} {ts : List (List Int)} {m : Nat} (hm : m < (edgesT n ts).length) (h : okE ts (((edgesT n ts).getD m []).getD 0 0) (((edgesT n ts).getD m []).getD 1 0) = false) : sheetB n ts = false := by
  unfold sheetB
  rw [← Bool.not_eq_true, List.all_eq_true]
  intro hh
  have := hh ((edgesT n ts).getD m []) (by rw [List.getD, List.getElem?_eq_getElem hm]; exact List.getElem_mem _)
  rw [h] at this
  cases this
theorem sheetB_yes {n : Nat} {ts : List (List Int)} (h : ∀ m, m < (edgesT n ts).length → okE ts (((edgesT n ts).getD m []).getD 0 0) (((edgesT n ts).getD m []).getD 1 0) = true) : sheetB n ts = true := by
  unfold sheetB
  rw [List.all_eq_true]
  intro r hr
  obtain ⟨i, hi, rfl⟩ := List.mem_iff_getElem.1 hr
  have := h i hi
  have e : (edgesT n ts).getD i [] = (edgesT n ts)[i] := by rw [List.getD, List.getElem?_eq_getElem hi]; rfl
  rwa [e] at this
end Go.Proofs.Ytmbekamnogbgaaa


/-
The edges of a mesh: the program and the model. Conditions: none beyond that the mesh lies in memory.
-/
namespace Go.Proofs.Ytmbekamnogbgaaa
open Go Fk Go.RowKit Go.Maps
set_option linter.unusedVariables false
set_option maxRecDepth 16000

/-- What is answered: the edges in ascending order, if the mesh is valid. -/
def edT (cs : List C3) (ts : List (List Int)) : List (List Int) := bif validB cs ts then edgesT cs.length ts else []
theorem edT_wf (cs : List C3) (ts : List (List Int)) : ∀ j, j < (edT cs ts).length → ∀ z ∈ (edT cs ts).getD j [], (Lit.int .i64 z).wf = true := by
  unfold edT
  cases hv : validB cs ts
  · intro j hj
    simp at hj
  · exact edge_wf (valid_pl hv).1
theorem edT_len (cs : List C3) (ts : List (List Int)) : (edT cs ts).length ≤ 4096 := by
  unfold edT
  cases hv : validB cs ts
  · simp
  · exact edges_len (valid_pl hv).1
set_option maxHeartbeats 2000000 in
theorem impl_EdgesOf (pa ta : Option Addr) (pl pc tl tc : Nat) (cs : List C3) (ts : List (List Int)) (w : World) (hp : IsVs w pa pl pc cs) (ht : IsTs w ta tl tc ts) :
    Calls Try.prog 61 #[.agg #[.slice pa pl pc, .slice ta tl tc]] w fun e w' => (∃ a c F, e = .returned (.tuple #[.slice a (edT cs ts).length c, .bool (validB cs ts)]) ∧ IsTs w' a (edT cs ts).length c (edT cs ts) ∧ Flat2 w.heap.size w'.heap.size w' a (edT cs ts).length F) ∧ Below w.heap.size w w' := by
  have ui := Try.underlying29
  have hpl := hp.1
  have htl := ht.1
  have hB0 : Below w.heap.size w (w.alloc (.cells #[.slice pa pl pc, .slice ta tl tc] 29)) := (Below.refl _ _).alloc (Nat.le_refl _) _
  have a0 : (w.alloc (.cells #[.slice pa pl pc, .slice ta tl tc] 29)).cell? ⟨w.heap.size, 0, none⟩ = some (.slice pa pl pc) := by go_simp
  have a1 : (w.alloc (.cells #[.slice pa pl pc, .slice ta tl tc] 29)).cell? ⟨w.heap.size, 1, none⟩ = some (.slice ta tl tc) := by go_simp
  have J := Lib.hid (impl_ValidMesh _ _ _ _ _ _ cs ts _ (hp.below hB0) (ht.below hB0))
  have hwf := edT_wf cs ts
  cases hv : validB cs ts
  · rw [hv] at J
    have he : edT cs ts = [] := by unfold edT; rw [hv]; rfl
    rw [he]
    have HB0 := Lib.hid hB0
    clear hv hp ht hB0 hwf he
    go_enter Try.func61, Try.ntmps61
    go_wp2_with fail
    generalize (w.alloc (.cells #[.slice pa pl pc, .slice ta tl tc] 29)) = W at *
    refine J.out.mono ?_
    rintro e w1 ⟨rfl, hB1⟩
    have HB1 := Lib.hid (HB0.out.trans (hB1.mono HB0.out.size))
    clear hB1
    go_wp2
    go_ret2
    exact ⟨⟨none, 0, 0, rfl, ⟨rfl, Nat.le_refl _, by unfold maxLen; omega, fun _ => ⟨rfl, rfl⟩, fun x hx => (by cases hx)⟩, .inl ⟨rfl, rfl⟩⟩, HB1.out⟩
  · rw [hv] at J
    obtain ⟨v1, v2⟩ := valid_pl hv
    have he : edT cs ts = (pairsL (keysE ts) cs.length).map rowP := by unfold edT; rw [hv]; exact edgesT_pairs _ _
    have HV := fun k (hk : k < tl) => tri_partsh (valid_rowh hv (show k < ts.length by omega))
    have HT3 := Lib.hid (fun i (hi : i < ts.length) => tri3_of (valid_rowh hv hi))
    have h3 : ∀ k, k < tl → (ts.getD k []).length = 3 := fun k hk => (HV k hk).1
    have hin : ∀ k, k < tl → ∀ i, i < 3 → 0 ≤ (ts.getD k []).getD i 0 ∧ ((ts.getD k []).getD i 0).toNat < 64 := fun k hk i hi => by
      have := (HV k hk).2 i hi
      omega
    have HLEN : Hid ((pairsL (keysE ts) cs.length).length ≤ 4096) := by
      have := edT_len cs ts
      rw [he, List.length_map] at this
      exact Lib.hid this
    have HN := Lib.hid v1
    have H3 := Lib.hid h3
    have HIN := Lib.hid hin
    have HT := Lib.hid ht
    have HTL := Lib.hid htl
    have HWF := Lib.hid hwf
    have HB0 := Lib.hid hB0
    have ht128 : tl ≤ 128 := by omega
    have HL := Lib.hid ht128
    rw [he] at HWF ⊢
    clear hv hp ht hB0 hwf he v1 v2 h3 hin HV ht128 htl hpl
    generalize hps : pairsL (keysE ts) cs.length = ps at *
    have HPS := Lib.hid hps
    clear hps
    go_enter Try.func61, Try.ntmps61
    go_wp2_with fail
    generalize (w.alloc (.cells #[.slice pa pl pc, .slice ta tl tc] 29)) = W at *
    refine J.out.mono ?_
    rintro e w1 ⟨rfl, hB1⟩
    replace a0 := cell_below hB1 a0
    replace a1 := cell_below hB1 a1
    have HB1 := Lib.hid (HB0.out.trans (hB1.mono HB0.out.size))
    clear hB1
    go_wp2_with fail
    refine (impl_edges pa ta pl pc tl tc ts w1 (HT.out.below HB1.out) H3.out HIN.out HL.out).mono ?_
    rintro e w2 ⟨B, D, rfl, hlo, hO, hG, hB2⟩
    have hm := map_of_groups hO
    have hsz := hm.size_le
    have HO := Lib.hid hm
    have HS := Lib.hid hsz
    have HG := Lib.hid hG
    have HB2 := Lib.hid (HB1.out.trans (hB2.mono HB1.out.size))
    clear hO hm hsz hG hB2 hlo
    go_wp2_with fail
    refine (impl_sortedEdges B _ D _ w2 HO.out (by have := HS.out; have := HL.out; unfold maxLen; omega) (by have := HS.out; have := HL.out; omega)).mono ?_
    rintro e w3 ⟨v, ss, rfl, hK, hrow, hnil, hB3⟩
    have hse : sortE ss = ps := by
      rw [← HPS.out]
      refine sorted_edges ?_ hK HT3.out HN.out
      rw [HTL.out]
      exact HG.out
    have hln : ss.length = ps.length := by rw [← hse]; unfold sortE; simp
    rw [hse, hln] at hrow
    obtain ⟨a, c, rfl, hat⟩ := edges_at hrow rfl
    have HA := Lib.hid hat
    have HB3 := Lib.hid (HB2.out.trans (hB3.mono HB2.out.size))
    clear hK hrow hse hln hat hB3 hnil
    go_wp2_with fail
    refine (edge_lists a ps.length c ps w3 HA.out (by have := HLEN.out; omega)).mono ?_
    rintro e w4 ⟨v, fb, fc, rfl, hfb, hr, hf, hB4⟩
    obtain ⟨a', c', rfl, hI, hF⟩ := rows_edges hr hf rfl (fun j hj => HWF.out j (by simpa using hj))
    have HI := Lib.hid hI
    have HF := Lib.hid hF
    have HB4 := Lib.hid (HB3.out.trans (hB4.mono HB3.out.size))
    have HZ := Lib.hid HB3.out.size
    clear hfb hr hf hI hF hB4
    go_wp2
    go_ret2
    refine ⟨⟨a', c', fb, by simp, by simpa using HI.out, ?_⟩, HB4.out⟩
    rw [List.length_map]
    exact HF.out.imp id fun ⟨R, e, h1, h2, h3, h4, h5, h6⟩ => ⟨R, e, by have := HZ.out; omega, h2, h3, h4, h5, by have := h6.1; have := HZ.out; omega, h6.2⟩
set_option maxHeartbeats 2000000 in
theorem spec_EdgesOf (pa ta : Option Addr) (pl pc tl tc : Nat) (cs : List C3) (ts : List (List Int)) (w : World) (hp : IsVs w pa pl pc cs) (ht : IsTs w ta tl tc ts) :
    Calls Try.prog 60 #[.agg #[.slice pa pl pc, .slice ta tl tc]] w fun e w' => (∃ a c, e = .returned (.tuple #[.slice a (edT cs ts).length c, .bool (validB cs ts)]) ∧ IsTs w' a (edT cs ts).length c (edT cs ts)) ∧ Below w.heap.size w w' := by
  have ui := Try.underlying29
  have hpl := hp.1
  have hB0 : Below w.heap.size w (w.alloc (.cells #[.slice pa pl pc, .slice ta tl tc] 29)) := (Below.refl _ _).alloc (Nat.le_refl _) _
  have a0 : (w.alloc (.cells #[.slice pa pl pc, .slice ta tl tc] 29)).cell? ⟨w.heap.size, 0, none⟩ = some (.slice pa pl pc) := by go_simp
  have a1 : (w.alloc (.cells #[.slice pa pl pc, .slice ta tl tc] 29)).cell? ⟨w.heap.size, 1, none⟩ = some (.slice ta tl tc) := by go_simp
  have J := Lib.hid (l02Is w.heap.size pa ta pl pc tl tc cs ts _ a0 a1 (hp.below hB0) (ht.below hB0))
  have hwf := edT_wf cs ts
  cases hv : validB cs ts
  · rw [hv] at J
    have he : edT cs ts = [] := by unfold edT; rw [hv]; rfl
    rw [he]
    have HB0 := Lib.hid hB0
    clear hv hB0 a0 a1 hp ht hwf he
    go_enter Try.func60, Try.ntmps60
    go_wp2_with fail
    generalize (w.alloc (.cells #[.slice pa pl pc, .slice ta tl tc] 29)) = W at *
    refine J.out.mono ?_
    rintro e w1 ⟨rfl, n, hw⟩
    have HB := Lib.hid (below_drewN HB0.out n)
    rw [hw]
    clear hw
    go_wp2
    go_ret2
    exact ⟨⟨none, 0, rfl, rfl, Nat.le_refl _, by unfold maxLen; omega, fun _ => ⟨rfl, rfl⟩, fun x hx => (by cases hx)⟩, HB.out⟩
  · rw [hv] at J
    have he : edT cs ts = edgesT pl ts := by unfold edT; rw [hv, hpl]; rfl
    have J2 := Lib.hid (fun n => l02Edges w.heap.size pa ta pl pc tl tc cs ts (World.drewN (w.alloc (.cells #[.slice pa pl pc, .slice ta tl tc] 29)) n) a0 a1 ((hp.below hB0).below (below_drewN (Below.refl _ _) n)) ((ht.below hB0).below (below_drewN (Below.refl _ _) n)) hv)
    rw [he] at hwf ⊢
    generalize edgesT pl ts = T at *
    have HWF := Lib.hid hwf
    have HB0 := Lib.hid hB0
    clear hv hB0 a0 a1 hp ht he hwf
    go_enter Try.func60, Try.ntmps60
    go_wp2_with fail
    generalize (w.alloc (.cells #[.slice pa pl pc, .slice ta tl tc] 29)) = W at *
    refine J.out.mono ?_
    rintro e w1 ⟨rfl, n, hw⟩
    rw [hw]
    clear hw
    go_wp2_with fail
    refine (J2.out n).mono ?_
    rintro e w2 ⟨⟨v, rfl, hv⟩, hB2⟩
    obtain ⟨a, c, rfl, hI⟩ := hv.is rfl HWF.out
    have HI := Lib.hid hI
    have HB := Lib.hid ((below_drewN HB0.out n).trans (hB2.mono (below_drewN HB0.out n).size))
    clear hB2 hv hI
    go_wp2
    go_ret2
    exact ⟨⟨a, c, rfl, HI.out⟩, HB.out⟩
end Go.Proofs.Ytmbekamnogbgaaa


/-
The triangles that have a place: what the program asks of each. Conditions: none.
-/
namespace Go.Proofs.Ytmbekamnogbgaaa
open Go Fk Go.RowKit
set_option linter.unusedVariables false
set_option maxRecDepth 8000

end Go.Proofs.Ytmbekamnogbgaaa

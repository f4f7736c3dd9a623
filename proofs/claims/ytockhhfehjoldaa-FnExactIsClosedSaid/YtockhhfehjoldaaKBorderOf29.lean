/-
Texts in one: what BorderOf stands on, part 29. Conditions: those of each.
-/
import Derived.Test.YtockhhfehjoldaaKBorderOf28

/-
The border of a mesh: what the program returns. Conditions: none beyond that the mesh lies in memory.
-/
namespace Go.Proofs.Ytockhhfehjoldaa
open Go Fk Go.RowKit Go.Maps
set_option linter.unusedVariables false
set_option maxRecDepth 16000

/-- The edges that just one triangle has, in ascending order. -/
def bdP (n : Nat) (ts : List (List Int)) : List (Int × Int) := (pairsL (keysE ts) n).filter fun x => !inE (preI ts ts.length 0) x
def bdT (cs : List C3) (ts : List (List Int)) : List (List Int) := bif validB cs ts then (bdP cs.length ts).map rowP else []
theorem bdT_len (cs : List C3) (ts : List (List Int)) : (bdT cs ts).length ≤ 4096 := by
  have h := edT_len cs ts
  unfold edT at h
  unfold bdT
  cases hv : validB cs ts
  · simp
  · rw [hv] at h
    simp only [cond_true] at h ⊢
    rw [edgesT_pairs, List.length_map] at h
    rw [List.length_map]
    unfold bdP
    exact Nat.le_trans (List.length_filter_le _ _) h
theorem bdT_wf (cs : List C3) (ts : List (List Int)) : ∀ j, j < (bdT cs ts).length → ∀ z ∈ (bdT cs ts).getD j [], (Lit.int .i64 z).wf = true := by
  unfold bdT
  cases hv : validB cs ts
  · intro j hj
    simp at hj
  · intro j hj z hz
    simp only [cond_true] at hj hz
    have hj' : j < (bdP cs.length ts).length := by simpa using hj
    have e : ((bdP cs.length ts).map rowP).getD j [] = rowP ((bdP cs.length ts)[j]) := by simp [List.getD, hj']
    rw [e] at hz
    have hm : (bdP cs.length ts)[j] ∈ bdP cs.length ts := List.getElem_mem _
    obtain ⟨a, b, ha, hb, _, _, e2⟩ := mem_pairsL.1 (List.mem_filter.1 hm).1
    rw [e2] at hz
    have h64 := (valid_pl hv).1
    simp only [rowP, List.mem_cons, List.not_mem_nil, or_false] at hz
    rcases hz with rfl | rfl <;> exact WalkArith.wf_i64 (by omega)
theorem grp_le (L : List ((Int × Int) × Int)) (x : Int × Int) : (grp L x).length ≤ L.length := by
  unfold grp
  rw [List.length_map]
  exact List.length_filter_le _ _
theorem preI_len (ts : List (List Int)) : ∀ k, (preI ts k 0).length = 3 * k
  | 0 => by rw [preI_zero]; rfl
  | k + 1 => by
    have h := preI_len ts k
    rw [← preI_next]
    unfold preI at h ⊢
    rw [List.length_append] at h ⊢
    have : ((pairsT (ts.getD k []) k).take 3).length = 3 := by simp [pairsT, triE]
    simp only [List.take_zero, List.length_nil] at h
    omega
/-- A row of one's own, as the striking of edges asks. -/
theorem rowI_of {w0 w : World} {base g n cap : Nat} {es : List (Int × Int)} (hb : w0.heap.size ≤ base) (hB : Below w0.heap.size w0 w) (h : w.ownsRow base 62 2 (.slice (some ⟨g, 0, none⟩) n cap) n (flatE es)) (hn : es.length = n) : RowI w0 g n 0 es [] w := by
  obtain ⟨h1, h2⟩ := h.lt g rfl
  obtain ⟨a, c, e, hE⟩ := edges_at h hn
  cases e
  refine ⟨hB, by omega, h2, fun q hq => ?_, fun q => h.frozenAt q, fun t ht => absurd ht (by simp), fun t _ ht => ?_⟩
  · rw [h.cellAt q (by omega), flatE_get es q (by omega)]
    exact ⟨_, rfl⟩
  · obtain ⟨g', e', k0, k1⟩ := hE t ht
    cases e'
    exact ⟨k0, k1⟩
/-- slices.DeleteFunc of nothing. -/
theorem delete_nil (w0 : World) (tb B nn : Nat) (D : DataW Unit) (L : List ((Int × Int) × Int)) (hT : Tab w0 tb B nn D L) (w : World) (hB : Below w0.heap.size w0 w) :
    Calls Try.prog 46 #[.slice none 0 0, .func (.func 44) #[] #[.pointer (some ⟨tb, 0, none⟩)]] w fun e w' =>
      e = .returned (.slice none 0 0) ∧ Below w0.heap.size w0 w' := by
  have J := Lib.hid (index_border w0 tb B nn D L hT none 0 0 [] w (fun k hk => absurd hk (by omega)) (fun k hk => absurd hk (by omega)) hB (by omega))
  have HB := Lib.hid hB
  clear hT hB
  go_enter Try.func46, Try.ntmps46
  go_wp2_with fail
  refine J.out.mono ?_
  rintro e w1 ⟨⟨rfl, _⟩ | ⟨k0, hk0, _⟩, hB1⟩
  · have HB1 := Lib.hid (HB.out.trans (hB1.mono HB.out.size))
    clear hB1
    go_wp2
    go_ret
    exact ⟨rfl, HB1.out⟩
  · omega
end Go.Proofs.Ytockhhfehjoldaa


/-
The border of a mesh: the program. Conditions: none beyond that the mesh lies in memory.
-/
namespace Go.Proofs.Ytockhhfehjoldaa
open Go Fk Go.RowKit Go.Maps
set_option linter.unusedVariables false
set_option maxRecDepth 16000

set_option maxHeartbeats 2000000 in
theorem impl_BorderOf (pa ta : Option Addr) (pl pc tl tc : Nat) (cs : List C3) (ts : List (List Int)) (w : World) (hp : IsVs w pa pl pc cs) (ht : IsTs w ta tl tc ts) :
    Calls Try.prog 13 #[.agg #[.slice pa pl pc, .slice ta tl tc]] w fun e w' => (∃ a c F, e = .returned (.tuple #[.slice a (bdT cs ts).length c, .bool (validB cs ts)]) ∧ IsTs w' a (bdT cs ts).length c (bdT cs ts) ∧ Flat2 w.heap.size w'.heap.size w' a (bdT cs ts).length F) ∧ Below w.heap.size w w' := by
  have ui := Try.underlying31
  have hpl := hp.1
  have htl := ht.1
  have hB0 : Below w.heap.size w (w.alloc (.cells #[.slice pa pl pc, .slice ta tl tc] 31)) := (Below.refl _ _).alloc (Nat.le_refl _) _
  have a0 : (w.alloc (.cells #[.slice pa pl pc, .slice ta tl tc] 31)).cell? ⟨w.heap.size, 0, none⟩ = some (.slice pa pl pc) := by go_simp
  have a1 : (w.alloc (.cells #[.slice pa pl pc, .slice ta tl tc] 31)).cell? ⟨w.heap.size, 1, none⟩ = some (.slice ta tl tc) := by go_simp
  have J := Lib.hid (impl_ValidMesh _ _ _ _ _ _ cs ts _ (hp.below hB0) (ht.below hB0))
  have hwf := bdT_wf cs ts
  cases hv : validB cs ts
  · rw [hv] at J
    have he : bdT cs ts = [] := by unfold bdT; rw [hv]; rfl
    rw [he]
    have HB0 := Lib.hid hB0
    clear hv hp ht hB0 hwf he
    go_enter Try.func13, Try.ntmps13
    go_wp2_with fail
    generalize (w.alloc (.cells #[.slice pa pl pc, .slice ta tl tc] 31)) = W at *
    refine J.out.mono ?_
    rintro e w1 ⟨rfl, hB1⟩
    have HB1 := Lib.hid (HB0.out.trans (hB1.mono HB0.out.size))
    clear hB1
    go_wp2
    go_ret2
    exact ⟨⟨none, 0, 0, rfl, ⟨rfl, Nat.le_refl _, by unfold maxLen; omega, fun _ => ⟨rfl, rfl⟩, fun x hx => (by cases hx)⟩, .inl ⟨rfl, rfl⟩⟩, HB1.out⟩
  · rw [hv] at J
    obtain ⟨v1, v2⟩ := valid_pl hv
    have he : bdT cs ts = (bdP cs.length ts).map rowP := by unfold bdT; rw [hv]; rfl
    have hpl4 : (pairsL (keysE ts) cs.length).length ≤ 4096 := by
      have h := edT_len cs ts
      unfold edT at h
      rw [hv] at h
      simp only [cond_true] at h
      rw [edgesT_pairs, List.length_map] at h
      exact h
    have hwfp : ∀ k, k < (pairsL (keysE ts) cs.length).length → wfE ((pairsL (keysE ts) cs.length).getD k (0, 0)) := fun k hk => by
      have hm : (pairsL (keysE ts) cs.length).getD k (0, 0) ∈ pairsL (keysE ts) cs.length := by
        rw [List.getD, List.getElem?_eq_getElem hk]
        exact List.getElem_mem _
      obtain ⟨a, b, ha, hb, _, _, e⟩ := mem_pairsL.1 hm
      rw [e]
      exact ⟨WalkArith.wf_i64 (by omega), WalkArith.wf_i64 (by omega)⟩
    have HV := fun k (hk : k < tl) => tri_partsh (valid_rowh hv (show k < ts.length by omega))
    have HT3 := Lib.hid (fun i (hi : i < ts.length) => tri3_of (valid_rowh hv hi))
    have h3 : ∀ k, k < tl → (ts.getD k []).length = 3 := fun k hk => (HV k hk).1
    have hin : ∀ k, k < tl → ∀ i, i < 3 → 0 ≤ (ts.getD k []).getD i 0 ∧ ((ts.getD k []).getD i 0).toNat < 64 := fun k hk i hi => by
      have := (HV k hk).2 i hi
      omega
    have HLEN := Lib.hid hpl4
    have HWP := Lib.hid hwfp
    have HN := Lib.hid v1
    have H3 := Lib.hid h3
    have HIN := Lib.hid hin
    have HT := Lib.hid ht
    have HTL := Lib.hid htl
    have HWF := Lib.hid hwf
    have HB0 := Lib.hid hB0
    have ht128 : tl ≤ 128 := by omega
    have HL := Lib.hid ht128
    rw [he] at HWF ⊢
    clear hv hp ht hB0 hwf he v1 v2 h3 hin HV ht128 htl hpl hpl4 hwfp
    unfold bdP at HWF ⊢
    generalize hps : pairsL (keysE ts) cs.length = ps at *
    have HPS := Lib.hid hps
    obtain ⟨L, hL⟩ : ∃ L, preI ts ts.length 0 = L := ⟨_, rfl⟩
    have hLl : L.length ≤ 384 := by rw [← hL, preI_len]; have := HTL.out; have := HL.out; omega
    rw [hL] at HWF ⊢
    have HLL := Lib.hid hLl
    have HLI := Lib.hid hL
    have hmf : ∀ (fn : Fn) (first cap : Array Value) (w : World), (Instr.makeFunc fn first cap).run Try.prog w = .ok (.func fn first cap) w := fun _ _ _ _ => rfl
    clear hps hLl hL
    go_enter Try.func13, Try.ntmps13
    go_wp2_with fail
    generalize (w.alloc (.cells #[.slice pa pl pc, .slice ta tl tc] 31)) = W at *
    refine J.out.mono ?_
    rintro e w1 ⟨rfl, hB1⟩
    replace a0 := cell_below hB1 a0
    replace a1 := cell_below hB1 a1
    have HB1 := Lib.hid (HB0.out.trans (hB1.mono HB0.out.size))
    clear hB1
    go_wp2_with fail
    refine (impl_edges pa ta pl pc tl tc ts w1 (HT.out.below HB1.out) H3.out HIN.out HL.out).mono ?_
    rintro e w2 ⟨B, D, rfl, hlo, hO, hG, hB2⟩
    rw [← HTL.out, HLI.out] at hG
    have hX : Below w2.heap.size w2 (w2.alloc (.cells #[.map (some B)] 59)) := (Below.refl _ _).alloc (Nat.le_refl _) _
    have hTab : Tab (w2.alloc (.cells #[.map (some B)] 59)) w2.heap.size B (3 * tl) D L :=
      ⟨by go_simp, groups_below hO hX, hG, by have := HL.out; omega, fun x => by have h1 := grp_le L x; have h2 := HLL.out; omega⟩
    have hm := map_of_groups hTab.own
    have HS := Lib.hid hm.size_le
    have HO := Lib.hid hm
    have HTB := Lib.hid hTab
    have HB2 := Lib.hid (HB1.out.trans ((hB2.trans (hX.mono hB2.size)).mono HB1.out.size))
    clear hO hm hG hB2 hlo hTab hX
    go_wp2_with fail
    generalize (w2.alloc (.cells #[.map (some B)] 59)) = W2 at *
    generalize w2.heap.size = tb at *
    refine (impl_sortedEdges B _ D _ W2 HO.out (by have := HS.out; have := HL.out; unfold maxLen; omega) (by have := HS.out; have := HL.out; omega)).mono ?_
    rintro e w3 ⟨v, ss, rfl, hK, hrow, hnil, hB3⟩
    have hse : sortE ss = ps := by
      rw [← HPS.out]
      refine sorted_edges ?_ hK HT3.out HN.out
      rw [HLI.out]
      exact HTB.out.is
    have hln : ss.length = ps.length := by rw [← hse]; unfold sortE; simp
    rw [hse, hln] at hrow
    have HB3 := Lib.hid hB3
    have hrow2 := hrow.2
    rcases hrow2 with ⟨rfl, h0⟩ | ⟨g, cap, cur, rfl, hg0, hgc, hg1, hg2, _⟩
    · have hps0 : ps = [] := List.eq_nil_of_length_eq_zero h0
      subst hps0
      clear hK hrow hse hln hnil hB3 h0
      go_wp2_with fail
      refine (delete_nil W2 tb B (3 * tl) D L HTB.out w3 HB3.out).mono ?_
      rintro e w4 ⟨rfl, hB4⟩
      have HB4 := Lib.hid hB4
      clear hB4
      go_wp2_with fail
      refine (edge_lists none 0 0 [] w4 (fun k hk => absurd hk (by omega)) (by omega)).mono ?_
      rintro e w5 ⟨v, fb, fc, rfl, hfb, hr, hf, hB5⟩
      obtain ⟨a', c', rfl, hI, hF⟩ := rows_edges hr hf rfl (fun j hj => absurd hj (by omega))
      have HI := Lib.hid hI
      have HF := Lib.hid hF
      have hW : Below w.heap.size w w4 := HB2.out.trans (HB4.out.mono HB2.out.size)
      have HB5 := Lib.hid (hW.trans (hB5.mono hW.size))
      have HZ := Lib.hid hW.size
      clear hfb hr hf hI hF hB5 hW
      go_wp2
      go_ret2
      refine ⟨⟨a', c', fb, rfl, HI.out, ?_⟩, HB5.out⟩
      exact HF.out.imp id fun ⟨R, e, h1, h2, h3, h4, h5, h6⟩ => ⟨R, e, by have := HZ.out; omega, h2, h3, h4, h5, by have := h6.1; have := HZ.out; omega, h6.2⟩
    · have hRI := rowI_of (Nat.le_refl _) hB3 hrow rfl
      have HRI := Lib.hid hRI
      have HG := Lib.hid (And.intro hg1 hg2)
      clear hK hrow hse hln hnil hB3 hRI hg0 hgc hg1 hg2 ss
      go_wp2_with fail
      refine (delete_border W2 tb B (3 * tl) D L HTB.out g ps.length cap ps w3 rfl HRI.out HWP.out HLEN.out HG.out.1 HG.out.2).mono ?_
      rintro e w4 ⟨rfl, hE4, hB4⟩
      have hke : keptE L ps ps.length = ps.filter fun x => !inE L x := by unfold keptE; rw [List.take_length]
      rw [hke] at hE4 ⊢
      have hkl : (ps.filter fun x => !inE L x).length ≤ 4096 := Nat.le_trans (List.length_filter_le _ _) HLEN.out
      have HE4 := Lib.hid hE4
      have HB4 := Lib.hid hB4
      obtain ⟨qs, hqs⟩ : ∃ qs, (ps.filter fun x => !inE L x) = qs := ⟨_, rfl⟩
      rw [hqs] at HE4 hkl HWF ⊢
      have HQ := Lib.hid hqs
      clear hE4 hB4 hke hqs
      go_wp2_with fail
      refine (edge_lists (some ⟨g, 0, none⟩) qs.length cap qs w4 HE4.out (by omega)).mono ?_
      rintro e w5 ⟨v, fb, fc, rfl, hfb, hr, hf, hB5⟩
      obtain ⟨a', c', rfl, hI, hF⟩ := rows_edges hr hf rfl (fun j hj => HWF.out j (by simpa using hj))
      have HI := Lib.hid hI
      have HF := Lib.hid hF
      have hW : Below w.heap.size w w4 := HB2.out.trans (HB4.out.mono HB2.out.size)
      have HB5 := Lib.hid (hW.trans (hB5.mono hW.size))
      have HZ := Lib.hid hW.size
      clear hfb hr hf hI hF hB5 hW
      go_wp2
      go_ret2
      rw [HQ.out]
      refine ⟨⟨a', c', fb, by simp, by simpa using HI.out, ?_⟩, HB5.out⟩
      rw [List.length_map]
      exact HF.out.imp id fun ⟨R, e, h1, h2, h3, h4, h5, h6⟩ => ⟨R, e, by have := HZ.out; omega, h2, h3, h4, h5, by have := h6.1; have := HZ.out; omega, h6.2⟩
end Go.Proofs.Ytockhhfehjoldaa


/-
How many triangles an edge has: the map of lists and the model count alike. Conditions: the triangles are a valid mesh's.
-/
namespace Go.Proofs.Ytockhhfehjoldaa
open Go Fk Go.RowKit Go.Maps
set_option linter.unusedVariables false
set_option maxRecDepth 16000

theorem grp_append (A B : List ((Int × Int) × Int)) (e : Int × Int) : (grp (A ++ B) e).length = (grp A e).length + (grp B e).length := by
  unfold grp
  rw [List.filter_append, List.map_append, List.length_append]
theorem key_is {u v a b : Int} (hab : a < b) : (eKey u v = (a, b)) ↔ ((u = a ∧ v = b) ∨ (u = b ∧ v = a)) := by
  unfold eKey
  rw [Prod.mk.injEq]
  omega
theorem grp_tri {n k : Nat} {t : List Int} (h : Tri3 n t) {a b : Int} (hab : a < b) : (grp (pairsT t k) (a, b)).length = if hasB t a && hasB t b then 1 else 0 := by
  obtain ⟨h1, h2, h3, _, _, _⟩ := h
  unfold pairsT triE grp hasB
  generalize t.getD 0 0 = x at *
  generalize t.getD 1 0 = y at *
  generalize t.getD 2 0 = z at *
  have e1 := key_is (u := x) (v := y) hab
  have e2 := key_is (u := y) (v := z) hab
  have e3 := key_is (u := z) (v := x) hab
  rw [List.length_map]
  by_cases c1 : eKey x y = (a, b)
  · have c2 : ¬ eKey y z = (a, b) := fun c => by rw [e1] at c1; rw [e2] at c; omega
    have c3 : ¬ eKey z x = (a, b) := fun c => by rw [e1] at c1; rw [e3] at c; omega
    have hc := e1.1 c1
    simp only [List.map_cons, List.map_nil, List.filter_cons, List.filter_nil, c1, c2, c3, decide_true, decide_false, if_true, Bool.false_eq_true, if_false]
    rcases hc with ⟨r1, r2⟩ | ⟨r1, r2⟩ <;> simp [r1, r2]
  · by_cases c2 : eKey y z = (a, b)
    · have c3 : ¬ eKey z x = (a, b) := fun c => by rw [e2] at c2; rw [e3] at c; omega
      have hc := e2.1 c2
      simp only [List.map_cons, List.map_nil, List.filter_cons, List.filter_nil, c1, c2, c3, decide_true, decide_false, if_true, Bool.false_eq_true, if_false]
      rcases hc with ⟨r1, r2⟩ | ⟨r1, r2⟩ <;> simp [r1, r2]
    · by_cases c3 : eKey z x = (a, b)
      · have hc := e3.1 c3
        simp only [List.map_cons, List.map_nil, List.filter_cons, List.filter_nil, c1, c2, c3, decide_true, decide_false, if_true, Bool.false_eq_true, if_false]
        rcases hc with ⟨r1, r2⟩ | ⟨r1, r2⟩ <;> simp [r1, r2]
      · simp only [List.map_cons, List.map_nil, List.filter_cons, List.filter_nil, c1, c2, c3, decide_false, Bool.false_eq_true, if_false, List.length_nil]
        rw [e1] at c1
        rw [e2] at c2
        rw [e3] at c3
        rw [if_neg]
        simp only [Bool.and_eq_true, Bool.or_eq_true, decide_eq_true_eq]
        omega
theorem grp_at {ts : List (List Int)} {n : Nat} (hT : ∀ i, i < ts.length → Tri3 n (ts.getD i [])) {a b : Int} (hab : a < b) : ∀ k, k ≤ ts.length → (grp (preI ts k 0) (a, b)).length = (atL ts a b k).length
  | 0, _ => by rw [preI_zero]; rfl
  | k + 1, hk => by
    have ih := grp_at hT hab k (by omega)
    have e : preI ts (k + 1) 0 = preI ts k 0 ++ pairsT (ts.getD k []) k := by
      rw [← preI_next]
      unfold preI
      rw [List.take_zero, List.append_nil]
      congr 1
    rw [e, grp_append, ih, grp_tri (hT k (by omega)) hab]
    show _ = (atL ts a b k ++ (bif hasB (ts.getD k []) a && hasB (ts.getD k []) b then [(k : Int)] else [])).length
    rw [List.length_append]
    cases hasB (ts.getD k []) a && hasB (ts.getD k []) b <;> rfl
end Go.Proofs.Ytockhhfehjoldaa


/-
The border of a mesh: the model. Conditions: none beyond that the mesh lies in memory.
-/
namespace Go.Proofs.Ytockhhfehjoldaa
open Go Fk Go.RowKit Go.Maps
set_option linter.unusedVariables false
set_option maxRecDepth 16000

/-- A list of a call's own whose rows lay there before. -/
def BrT (w2 w' : World) (v : Value) (T : List (List Int)) : Prop := ∃ rows : List Value, w'.ownsRow w2.heap.size 38 1 v T.length rows ∧ ∀ j, j < T.length → ∃ r n c, rows[j]? = some (.slice r n c) ∧ IsIs w2 r n c (T.getD j [])
theorem BrT.up {w2 w w' : World} {v : Value} {T : List (List Int)} (h : BrT w2 w v T) (hB : Below w.heap.size w w') : BrT w2 w' v T := by
  obtain ⟨rows, h1, h2⟩ := h
  exact ⟨rows, owns_up h1 hB, h2⟩
theorem BrT.is {w2 w' : World} {v : Value} {T : List (List Int)} (h : BrT w2 w' v T) (hB : Below w2.heap.size w2 w') : ∃ a c, v = .slice a T.length c ∧ IsTs w' a T.length c T := by
  obtain ⟨rows, h1, h2⟩ := h
  have h1' := h1
  rcases h1.2 with ⟨rfl, h0⟩ | ⟨g, cap, cur, rfl, hb', hh, hc1, hc2, hs, ht⟩
  · exact ⟨none, 0, by rw [h0], rfl, by omega, by unfold maxLen; omega, fun _ => ⟨h0, rfl⟩, fun x hx => (by cases hx)⟩
  · refine ⟨_, cap, rfl, rfl, hc1, hc2, by simp, fun x hx i hi => ?_⟩
    cases hx
    obtain ⟨r, n, c, e, hI⟩ := h2 i hi
    exact ⟨r, n, c, by rw [addr_add', Nat.zero_add, h1'.cellAt i (by omega)]; exact e, hI.below hB⟩
set_option maxHeartbeats 4000000 in
theorem spec_BorderOf (pa ta : Option Addr) (pl pc tl tc : Nat) (cs : List C3) (ts : List (List Int)) (w : World) (hp : IsVs w pa pl pc cs) (ht : IsTs w ta tl tc ts) :
    Calls Try.prog 11 #[.agg #[.slice pa pl pc, .slice ta tl tc]] w fun e w' => (∃ a c, e = .returned (.tuple #[.slice a (bdT cs ts).length c, .bool (validB cs ts)]) ∧ IsTs w' a (bdT cs ts).length c (bdT cs ts)) ∧ Below w.heap.size w w' := by
  have ui := Try.underlying31
  have uv := Try.underlying88
  have hpl := hp.1
  have hB0 : Below w.heap.size w (w.alloc (.cells #[.slice pa pl pc, .slice ta tl tc] 31)) := (Below.refl _ _).alloc (Nat.le_refl _) _
  have a0 : (w.alloc (.cells #[.slice pa pl pc, .slice ta tl tc] 31)).cell? ⟨w.heap.size, 0, none⟩ = some (.slice pa pl pc) := by go_simp
  have a1 : (w.alloc (.cells #[.slice pa pl pc, .slice ta tl tc] 31)).cell? ⟨w.heap.size, 1, none⟩ = some (.slice ta tl tc) := by go_simp
  have J := Lib.hid (l02Is w.heap.size pa ta pl pc tl tc cs ts _ a0 a1 (hp.below hB0) (ht.below hB0))
  have hll := edT_len cs ts
  cases hv : validB cs ts
  · rw [hv] at J
    have he : bdT cs ts = [] := by unfold bdT; rw [hv]; rfl
    rw [he]
    have HB0 := Lib.hid hB0
    clear hv hB0 a0 a1 hp ht he
    go_enter Try.func11, Try.ntmps11
    go_wp2_with fail
    generalize (w.alloc (.cells #[.slice pa pl pc, .slice ta tl tc] 31)) = W at *
    refine J.out.mono ?_
    rintro e w1 ⟨rfl, n, hw⟩
    have HB := Lib.hid (below_drewN HB0.out n)
    rw [hw]
    clear hw
    go_wp2
    go_ret2
    exact ⟨⟨none, 0, rfl, rfl, Nat.le_refl _, by unfold maxLen; omega, fun _ => ⟨rfl, rfl⟩, fun x hx => (by cases hx)⟩, HB.out⟩
  · rw [hv] at J
    obtain ⟨j0, hj, hy0, hy1, hy2⟩ := info_parts infoS
    have he : bdT cs ts = (bdP cs.length ts).map rowP := by unfold bdT; rw [hv]; rfl
    obtain ⟨v1, v2⟩ := valid_pl hv
    have HT3 := Lib.hid (fun i (hi : i < ts.length) => tri3_of (valid_rowh hv hi))
    have h3 : ∀ k, k < tl → (ts.getD k []).length = 3 := fun k hk => (tri_partsh (valid_rowh hv (show k < ts.length by have := ht.1; omega))).1
    have H3 := Lib.hid h3
    have HTL := Lib.hid ht.1
    have HTS := Lib.hid ht
    have HL : Hid (tl ≤ 128) := Lib.hid (by have := ht.1; omega)
    have hed : edgesT pl ts = (pairsL (keysE ts) cs.length).map rowP := by rw [hpl]; exact edgesT_pairs _ _
    have J2 := Lib.hid (fun n => l02Edges w.heap.size pa ta pl pc tl tc cs ts (World.drewN (w.alloc (.cells #[.slice pa pl pc, .slice ta tl tc] 31)) n) a0 a1 ((hp.below hB0).below (below_drewN (Below.refl _ _) n)) ((ht.below hB0).below (below_drewN (Below.refl _ _) n)) hv)
    have hwf : ∀ j, j < (edgesT pl ts).length → ∀ z ∈ (edgesT pl ts).getD j [], (Lit.int .i64 z).wf = true := edge_wf (by have := (valid_pl hv).1; omega)
    have HIM : Hid (∀ k, k < (pairsL (keysE ts) cs.length).length → ∃ m n : Nat, m < n ∧ (pairsL (keysE ts) cs.length).getD k (0, 0) = ((m : Int), (n : Int))) := Lib.hid (fun k hk => by
      have hm : (pairsL (keysE ts) cs.length).getD k (0, 0) ∈ pairsL (keysE ts) cs.length := by
        rw [List.getD, List.getElem?_eq_getElem hk]
        exact List.getElem_mem _
      obtain ⟨a, b, _, _, hab, _, e⟩ := mem_pairsL.1 hm
      exact ⟨a, b, hab, e⟩)
    unfold edT at hll
    rw [hv] at hll
    simp only [cond_true] at hll
    rw [edgesT_pairs, List.length_map] at hll
    rw [hed] at J2 hwf
    rw [he]
    unfold bdP
    generalize pairsL (keysE ts) cs.length = ps at *
    obtain ⟨L, hL⟩ : ∃ L, preI ts ts.length 0 = L := ⟨_, rfl⟩
    rw [hL]
    have HLI := Lib.hid hL
    have hfin : (ps.filter fun x => !inE L x) = keptE L ps ps.length := by unfold keptE; rw [List.take_length]
    rw [hfin]
    clear hL hfin
    have HWF := Lib.hid hwf
    have HLEN := Lib.hid hll
    have HP := Lib.hid hp
    clear h3 v1 v2
    have HB0 := Lib.hid hB0
    clear hv hB0 hp ht he hwf hed hll
    go_enter Try.func11, Try.ntmps11
    go_wp2_with fail
    generalize (w.alloc (.cells #[.slice pa pl pc, .slice ta tl tc] 31)) = W at *
    refine J.out.mono ?_
    rintro e w1 ⟨rfl, n, hw⟩
    rw [hw]
    clear hw
    have HB1 := Lib.hid (below_drewN HB0.out n)
    have b0 : (W.drewN n).cell? ⟨w.heap.size, 0, none⟩ = some (.slice pa pl pc) := a0
    have J3 := Lib.hid (J2.out n)
    have b1 : (W.drewN n).cell? ⟨w.heap.size, 1, none⟩ = some (.slice ta tl tc) := a1
    clear a0 a1 J2 J
    generalize W.drewN n = W1 at *
    go_wp2_with fail
    refine J3.out.mono ?_
    rintro e w2 ⟨⟨v, rfl, hvo⟩, hB2⟩
    obtain ⟨ea, ec, rfl, hI⟩ := hvo.is rfl HWF.out
    replace b0 := cell_below hB2 b0
    replace b1 := cell_below hB2 b1
    have HI := Lib.hid hI
    have HB2 := Lib.hid (HB1.out.trans (hB2.mono HB1.out.size))
    have hlm : (List.map rowP ps).length = ps.length := by simp
    rw [hlm] at HI ⊢
    clear hvo hI hB2 hlm J3 HB1 HB0
    have hst : (w2.alloc (.cells #[] 38)).ownsRow w2.heap.size 38 1 (.slice (some ⟨w2.heap.size, 0, none⟩) 0 0) 0 [] :=
      World.ownsRow_lit (base := w2.heap.size) (e := 38) (size := 1) w2 #[] 0 (Nat.le_refl _) (by decide) rfl
    have HST : Hid (BrT w2 (w2.alloc (.cells #[] 38)) (.slice (some ⟨w2.heap.size, 0, none⟩) 0 0) (List.map rowP (keptE L ps 0))) := Lib.hid ⟨[], hst, fun j hj => absurd hj (by simp [keptE])⟩
    have HB3 := Lib.hid ((Below.refl w2.heap.size w2).alloc (Nat.le_refl _) (.cells #[] 38))
    have CB := Lib.hid (And.intro b0 b1)
    clear hst b0 b1
    go_wp2
    generalize w2.alloc (.cells #[] 38) = W3 at *
    generalize (.slice (some ⟨w2.heap.size, 0, none⟩) 0 0 : Value) = v0 at *
    go_loopw [5, 6] (fun v i w' => ∃ k : Nat, k ≤ ps.length ∧ i = .int .i64 k ∧ Aside (BrT w2 w' v (List.map rowP (keptE L ps k)) ∧ Below w2.heap.size w2 w')) (fun _ i _ => ps.length - (intOf i).toNat)
    case atStart => exact ⟨0, Nat.zero_le _, rfl, HST.out, HB3.out⟩
    case round =>
      obtain ⟨k, hk, hik, hA⟩ := hrel
      subst hik
      obtain ⟨hO, hB'⟩ := hA.out
      have HO := Lib.hid hO
      have HBB := Lib.hid (HB2.out.trans (hB'.mono HB2.out.size))
      have HC' := Lib.hid hB'
      by_cases hlt : k < ps.length
      · obtain ⟨bt, ot, rfl, hrow⟩ := HI.out.some (by omega)
        obtain ⟨r1, n1, q1, cr0, ir⟩ := hrow k hlt
        obtain ⟨m, n, hmn, hek⟩ := HIM.out k hlt
        have hrk : (List.map rowP ps).getD k [] = rowP (ps.getD k (0, 0)) := by simp [List.getD, hlt]
        rw [hrk] at ir
        have hn1 : n1 = 2 := by have := ir.1; simpa [rowP] using this.symm
        subst hn1
        have HIR := Lib.hid ir
        obtain ⟨br, orr, rfl, hcell⟩ := ir.some (by omega)
        have e0 := cell_below hB' (hcell 0 (by omega))
        have e1 := cell_below hB' (hcell 1 (by omega))
        rw [hek] at e0 e1
        simp only [rowP, List.getD_cons_zero, List.getD_cons_succ, Nat.add_zero] at e0 e1
        have cr := cell_below hB' cr0
        have kb0 := cell_below hB' CB.out.1
        have kb1 := cell_below hB' CB.out.2
        have hk0 : (0 : Int) ≤ (k : Int) := by omega
        have hk1 : (k : Int) < (ps.length : Int) := by omega
        have HKLEN : Hid ((List.map rowP (keptE L ps k)).length < ps.length) := Lib.hid (by have := keptE_len L ps k; rw [List.length_map]; omega)
        have hga : (grp L (ps.getD k (0, 0))).length = (atL ts (m : Int) (n : Int) tl).length := by
          rw [hek, ← HLI.out, ← HTL.out]
          exact grp_at HT3.out (by omega) ts.length (Nat.le_refl _)
        have hnx := keptE_next (L := L) (es := ps) (j := k) hlt
        have hmm8 : (atL ts (m : Int) (n : Int) tl).length ≤ 128 := Nat.le_trans (atL_len _ _ _ _) HL.out
        obtain ⟨mm, hmm⟩ : ∃ mm, (atL ts (m : Int) (n : Int) tl).length = mm := ⟨_, rfl⟩
        rw [hmm] at hga hmm8
        have HMM := Lib.hid hmm
        by_cases h1 : mm = 1
        · have hin : inE L (ps.getD k (0, 0)) = false := by unfold inE; rw [hga, h1]; rfl
          rw [hin] at hnx
          have HNX := Lib.hid (show keptE L ps (k + 1) = keptE L ps k ++ [ps.getD k (0, 0)] from hnx)
          clear hA hO hB' hrow ir hcell hek hrk hlt hmn cr0 hga hnx hmm hin
          subst h1
          go_wp2_with fail
          refine Reg.wp_region_mix (C := fun w' => Below wr.heap.size wr w') (G := fun _ _ => True)
            (R := fun i v _ => match i with
              | 0 => v = .slice (some ⟨bt, ot, none⟩) ps.length ec
              | 1 => v = .int .i64 (k : Int)
              | 2 => v = .pointer (some ⟨bt, ot + k, none⟩)
              | 3 => v = .slice (some ⟨br, orr, none⟩) 2 q1
              | 4 => v = .pointer (some ⟨br, orr, none⟩)
              | 5 => v = .int .i64 (m : Int)
              | 6 => v = .slice (some ⟨bt, ot, none⟩) ps.length ec
              | 7 => v = .int .i64 (k : Int)
              | 8 => v = .pointer (some ⟨bt, ot + k, none⟩)
              | 9 => v = .slice (some ⟨br, orr, none⟩) 2 q1
              | 10 => v = .pointer (some ⟨br, orr + 1, none⟩)
              | 11 => v = .int .i64 (n : Int)
              | 12 => ∃ r c, v = .slice r 1 c
              | 13 => v = .int .i64 ((1 : Nat) : Int)
              | 14 => v = .bool true
              | _ => True) (T := fun _ _ _ => True) [false, false, false, false, false, false, false, false, false, false, false, false, false, false, false, false, false, true, true, true, true, true, true, true, true, true, true, true, true, true, true, true, false, false, false, false, false, false, false, false]
            (by kernel_rfl) (by kernel_rfl) (by kernel_rfl) (fun _ _ _ _ _ _ h => h) (below_drewN (Below.refl _ _) 1) ?_ ?_
          · refine ⟨Reg.Obl.mk ?_, Reg.Obl.mk ?_, Reg.Obl.mk ?_, Reg.Obl.mk ?_, Reg.Obl.mk ?_, Reg.Obl.mk ?_, Reg.Obl.mk ?_, Reg.Obl.mk ?_, Reg.Obl.mk ?_, Reg.Obl.mk ?_, Reg.Obl.mk ?_, Reg.Obl.mk ?_, Reg.Obl.mk ?_, Reg.Obl.mk ?_, Reg.Obl.mk ?_, trivial⟩
            · rintro av wq hC hx hd K hK
              have HC := Lib.hid hC
              clear hC
              have t4 : av.tmps[4]?.getD undef = .slice (some ⟨bt, ot, none⟩) ps.length ec := Reg.slot_val (hx 4 (by kernel_rfl))
              go_simp
              exact hK _ _ (fun _ => rfl) (fun h => by cases h) HC.out trivial
            · rintro av wq hC hx hd K hK
              have HC := Lib.hid hC
              clear hC
              have t6 : av.tmps[6]?.getD undef = .int .i64 (k : Int) := Reg.slot_val (hx 6 (by kernel_rfl))
              go_simp
              exact hK _ _ (fun _ => rfl) (fun h => by cases h) HC.out trivial
            · rintro av wq hC hx hd K hK
              have HC := Lib.hid hC
              clear hC
              have t17 : av.tmps[17]?.getD undef = .slice (some ⟨bt, ot, none⟩) ps.length ec := Reg.slot_val (hd 0 (by kernel_rfl) 17 rfl)
              have t18 : av.tmps[18]?.getD undef = .int .i64 (k : Int) := Reg.slot_val (hd 1 (by kernel_rfl) 18 rfl)
              go_simp
              exact hK _ _ (fun _ => rfl) (fun h => by cases h) HC.out trivial
            · rintro av wq hC hx hd K hK
              have HC := Lib.hid hC
              clear hC
              have t19 : av.tmps[19]?.getD undef = .pointer (some ⟨bt, ot + k, none⟩) := Reg.slot_val (hd 2 (by kernel_rfl) 19 rfl)
              have y0 := cell_below HC.out cr
              go_simp
              exact hK _ _ (fun _ => rfl) (fun h => by cases h) HC.out trivial
            · rintro av wq hC hx hd K hK
              have HC := Lib.hid hC
              clear hC
              have t20 : av.tmps[20]?.getD undef = .slice (some ⟨br, orr, none⟩) 2 q1 := Reg.slot_val (hd 3 (by kernel_rfl) 20 rfl)
              go_simp
              exact hK _ _ (fun _ => rfl) (fun h => by cases h) HC.out trivial
            · rintro av wq hC hx hd K hK
              have HC := Lib.hid hC
              clear hC
              have t21 : av.tmps[21]?.getD undef = .pointer (some ⟨br, orr, none⟩) := Reg.slot_val (hd 4 (by kernel_rfl) 21 rfl)
              have y0 := cell_below HC.out e0
              go_simp
              exact hK _ _ (fun _ => rfl) (fun h => by cases h) HC.out trivial
            · rintro av wq hC hx hd K hK
              have HC := Lib.hid hC
              clear hC
              have t4 : av.tmps[4]?.getD undef = .slice (some ⟨bt, ot, none⟩) ps.length ec := Reg.slot_val (hx 4 (by kernel_rfl))
              go_simp
              exact hK _ _ (fun _ => rfl) (fun h => by cases h) HC.out trivial
            · rintro av wq hC hx hd K hK
              have HC := Lib.hid hC
              clear hC
              have t6 : av.tmps[6]?.getD undef = .int .i64 (k : Int) := Reg.slot_val (hx 6 (by kernel_rfl))
              go_simp
              exact hK _ _ (fun _ => rfl) (fun h => by cases h) HC.out trivial
            · rintro av wq hC hx hd K hK
              have HC := Lib.hid hC
              clear hC
              have t23 : av.tmps[23]?.getD undef = .slice (some ⟨bt, ot, none⟩) ps.length ec := Reg.slot_val (hd 6 (by kernel_rfl) 23 rfl)
              have t24 : av.tmps[24]?.getD undef = .int .i64 (k : Int) := Reg.slot_val (hd 7 (by kernel_rfl) 24 rfl)
              go_simp
              exact hK _ _ (fun _ => rfl) (fun h => by cases h) HC.out trivial
            · rintro av wq hC hx hd K hK
              have HC := Lib.hid hC
              clear hC
              have t25 : av.tmps[25]?.getD undef = .pointer (some ⟨bt, ot + k, none⟩) := Reg.slot_val (hd 8 (by kernel_rfl) 25 rfl)
              have y0 := cell_below HC.out cr
              go_simp
              exact hK _ _ (fun _ => rfl) (fun h => by cases h) HC.out trivial
            · rintro av wq hC hx hd K hK
              have HC := Lib.hid hC
              clear hC
              have t26 : av.tmps[26]?.getD undef = .slice (some ⟨br, orr, none⟩) 2 q1 := Reg.slot_val (hd 9 (by kernel_rfl) 26 rfl)
              go_simp
              exact hK _ _ (fun _ => rfl) (fun h => by cases h) HC.out trivial
            · rintro av wq hC hx hd K hK
              have HC := Lib.hid hC
              clear hC
              have t27 : av.tmps[27]?.getD undef = .pointer (some ⟨br, orr + 1, none⟩) := Reg.slot_val (hd 10 (by kernel_rfl) 27 rfl)
              have y0 := cell_below HC.out e1
              go_simp
              exact hK _ _ (fun _ => rfl) (fun h => by cases h) HC.out trivial
            · rintro av wq hC hx hd K hK
              have HC := Lib.hid hC
              clear hC
              have t1 : av.tmps[1]?.getD undef = .pointer (some ⟨w.heap.size, 0, none⟩) := Reg.slot_val (hx 1 (by kernel_rfl))
              have t22 : av.tmps[22]?.getD undef = .int .i64 (m : Int) := Reg.slot_val (hd 5 (by kernel_rfl) 22 rfl)
              have t28 : av.tmps[28]?.getD undef = .int .i64 (n : Int) := Reg.slot_val (hd 11 (by kernel_rfl) 28 rfl)
              go_simp
              refine (l02At w.heap.size pl pc tl tc pa ta ts (m : Int) (n : Int) wq (cell_below HC.out kb0) (cell_below HC.out kb1) (HTS.out.below (HBB.out.trans (HC.out.mono HBB.out.size))) H3.out HL.out).mono ?_
              rintro en w2' ⟨v, rfl, ho, hB2⟩
              obtain ⟨r, c, rfl⟩ := owns_slice ho
              rw [HMM.out]
              exact hK _ _ (fun _ => ⟨r, c, rfl⟩) (fun h => by cases h) (HC.out.trans (hB2.mono HC.out.size)) trivial
            · rintro av wq hC hx hd K hK
              have HC := Lib.hid hC
              clear hC
              obtain ⟨r, c, g29⟩ := hd 12 (by kernel_rfl) 29 rfl
              have t29 := Reg.slot_val g29
              clear g29
              go_simp
              exact hK _ _ (fun _ => rfl) (fun h => by cases h) HC.out trivial
            · rintro av wq hC hx hd K hK
              have HC := Lib.hid hC
              clear hC
              have t30 : av.tmps[30]?.getD undef = .int .i64 ((1 : Nat) : Int) := Reg.slot_val (hd 13 (by kernel_rfl) 30 rfl)
              go_simp
              exact hK _ _ (fun _ => rfl) (fun h => by cases h) HC.out trivial
          · rintro f wz hBz hR hT
            have g31 : f 31 = .bool true := hR 14 31 rfl
            simp only [Reg.mixL, g31]
            have zr := cell_below hBz cr
            have HBZ := Lib.hid hBz
            have hsz := hBz.size
            clear hBz hR hT g31 cr e0 e1 kb0 kb1
            obtain ⟨rows, hr, hrs⟩ := HO.out
            have hr2 := owns_up hr HBZ.out
            have HR2 := Lib.hid hr2
            have HRS := Lib.hid hrs
            clear hr hrs hr2
            go_wp2_with (at_builtin; refine wpList_append_own _ rfl _ _ 23 rfl w2.heap.size 38 j0 (.slice none 0 0) 1 24 Try.underlying23 hj hy0 hy1 hy2 rfl (by decide) _ _ _ rfl (HR2.out.alloc _) ⟨wz.heap.size, 0, none⟩ 1 1 [.slice (some ⟨br, orr, none⟩) 2 q1] rfl rfl (cell_one_new _ _ _) ?c2 ?c3 ?c4 ?c5 ?_)
            case c2 => intro u hu; simp at hu; subst hu; rfl
            case c3 => have := HKLEN.out; have := HLEN.out; unfold maxLen; omega
            case c4 => have := HKLEN.out; have := HLEN.out; omega
            case c5 => have := HC'.out.size; simp; omega
            · intro v' w4 hown' hgrow _
              have hB4 : Below w2.heap.size w2 (wz.alloc (.cells #[.slice (some ⟨br, orr, none⟩) 2 q1] 38)) := (HC'.out.trans (HBZ.out.mono HC'.out.size)).alloc (by have := HC'.out.size; omega) _
              have HB4 := Lib.hid (hB4.grown hgrow hB4.size (fun q hq => (HR2.out.lt q hq).1))
              have HO4 := Lib.hid hown'
              have hlen4 := HLEN.out
              clear hown' hgrow hB4
              go_wp2
              go_roundw
              case rel =>
                refine ⟨k + 1, by omega, by go_num, ?_, HB4.out⟩
                rw [HNX.out, List.map_append]
                refine ⟨rows ++ [.slice (some ⟨br, orr, none⟩) 2 q1], by simpa using HO4.out, fun j hj' => ?_⟩
                have hrl : rows.length = (List.map rowP (keptE L ps k)).length := by rw [HR2.out.1]; omega
                by_cases h : j < (List.map rowP (keptE L ps k)).length
                · obtain ⟨r, n', c, e', h'⟩ := HRS.out j h
                  refine ⟨r, n', c, by rw [List.getElem?_append_left (by omega)]; exact e', ?_⟩
                  have : (List.map rowP (keptE L ps k) ++ List.map rowP [ps.getD k (0, 0)]).getD j [] = (List.map rowP (keptE L ps k)).getD j [] := by rw [List.getD, List.getElem?_append_left h]; rfl
                  rw [this]; exact h'
                · have hj2 : j = (List.map rowP (keptE L ps k)).length := by simp at hj' h ⊢; omega
                  refine ⟨some ⟨br, orr, none⟩, 2, q1, by rw [hj2, ← hrl]; simp, ?_⟩
                  have : (List.map rowP (keptE L ps k) ++ List.map rowP [ps.getD k (0, 0)]).getD j [] = rowP (ps.getD k (0, 0)) := by rw [hj2, List.getD, List.getElem?_append_right (Nat.le_refl _)]; simp
                  rw [this]; exact HIR.out
              case measure => simp [intOf]; omega
        · have hin : inE L (ps.getD k (0, 0)) = true := by unfold inE; rw [hga]; exact decide_eq_true h1
          rw [hin] at hnx
          have HNX := Lib.hid (show keptE L ps (k + 1) = keptE L ps k ++ [] from hnx)
          have h2 : ((mm : Int) == 1) = false := beq_eq_false_iff_ne.2 (by omega)
          clear hA hO hB' hrow ir hcell hek hrk hlt hmn cr0 hga hnx hmm hin
          go_wp2_with fail
          refine Reg.wp_region_mix (C := fun w' => Below wr.heap.size wr w') (G := fun _ _ => True)
            (R := fun i v _ => match i with
              | 0 => v = .slice (some ⟨bt, ot, none⟩) ps.length ec
              | 1 => v = .int .i64 (k : Int)
              | 2 => v = .pointer (some ⟨bt, ot + k, none⟩)
              | 3 => v = .slice (some ⟨br, orr, none⟩) 2 q1
              | 4 => v = .pointer (some ⟨br, orr, none⟩)
              | 5 => v = .int .i64 (m : Int)
              | 6 => v = .slice (some ⟨bt, ot, none⟩) ps.length ec
              | 7 => v = .int .i64 (k : Int)
              | 8 => v = .pointer (some ⟨bt, ot + k, none⟩)
              | 9 => v = .slice (some ⟨br, orr, none⟩) 2 q1
              | 10 => v = .pointer (some ⟨br, orr + 1, none⟩)
              | 11 => v = .int .i64 (n : Int)
              | 12 => ∃ r c, v = .slice r mm c
              | 13 => v = .int .i64 (mm : Int)
              | 14 => v = .bool false
              | _ => True) (T := fun _ _ _ => True) [false, false, false, false, false, false, false, false, false, false, false, false, false, false, false, false, false, true, true, true, true, true, true, true, true, true, true, true, true, true, true, true, false, false, false, false, false, false, false, false]
            (by kernel_rfl) (by kernel_rfl) (by kernel_rfl) (fun _ _ _ _ _ _ h => h) (below_drewN (Below.refl _ _) 1) ?_ ?_
          · refine ⟨Reg.Obl.mk ?_, Reg.Obl.mk ?_, Reg.Obl.mk ?_, Reg.Obl.mk ?_, Reg.Obl.mk ?_, Reg.Obl.mk ?_, Reg.Obl.mk ?_, Reg.Obl.mk ?_, Reg.Obl.mk ?_, Reg.Obl.mk ?_, Reg.Obl.mk ?_, Reg.Obl.mk ?_, Reg.Obl.mk ?_, Reg.Obl.mk ?_, Reg.Obl.mk ?_, trivial⟩
            · rintro av wq hC hx hd K hK
              have HC := Lib.hid hC
              clear hC
              have t4 : av.tmps[4]?.getD undef = .slice (some ⟨bt, ot, none⟩) ps.length ec := Reg.slot_val (hx 4 (by kernel_rfl))
              go_simp
              exact hK _ _ (fun _ => rfl) (fun h => by cases h) HC.out trivial
            · rintro av wq hC hx hd K hK
              have HC := Lib.hid hC
              clear hC
              have t6 : av.tmps[6]?.getD undef = .int .i64 (k : Int) := Reg.slot_val (hx 6 (by kernel_rfl))
              go_simp
              exact hK _ _ (fun _ => rfl) (fun h => by cases h) HC.out trivial
            · rintro av wq hC hx hd K hK
              have HC := Lib.hid hC
              clear hC
              have t17 : av.tmps[17]?.getD undef = .slice (some ⟨bt, ot, none⟩) ps.length ec := Reg.slot_val (hd 0 (by kernel_rfl) 17 rfl)
              have t18 : av.tmps[18]?.getD undef = .int .i64 (k : Int) := Reg.slot_val (hd 1 (by kernel_rfl) 18 rfl)
              go_simp
              exact hK _ _ (fun _ => rfl) (fun h => by cases h) HC.out trivial
            · rintro av wq hC hx hd K hK
              have HC := Lib.hid hC
              clear hC
              have t19 : av.tmps[19]?.getD undef = .pointer (some ⟨bt, ot + k, none⟩) := Reg.slot_val (hd 2 (by kernel_rfl) 19 rfl)
              have y0 := cell_below HC.out cr
              go_simp
              exact hK _ _ (fun _ => rfl) (fun h => by cases h) HC.out trivial
            · rintro av wq hC hx hd K hK
              have HC := Lib.hid hC
              clear hC
              have t20 : av.tmps[20]?.getD undef = .slice (some ⟨br, orr, none⟩) 2 q1 := Reg.slot_val (hd 3 (by kernel_rfl) 20 rfl)
              go_simp
              exact hK _ _ (fun _ => rfl) (fun h => by cases h) HC.out trivial
            · rintro av wq hC hx hd K hK
              have HC := Lib.hid hC
              clear hC
              have t21 : av.tmps[21]?.getD undef = .pointer (some ⟨br, orr, none⟩) := Reg.slot_val (hd 4 (by kernel_rfl) 21 rfl)
              have y0 := cell_below HC.out e0
              go_simp
              exact hK _ _ (fun _ => rfl) (fun h => by cases h) HC.out trivial
            · rintro av wq hC hx hd K hK
              have HC := Lib.hid hC
              clear hC
              have t4 : av.tmps[4]?.getD undef = .slice (some ⟨bt, ot, none⟩) ps.length ec := Reg.slot_val (hx 4 (by kernel_rfl))
              go_simp
              exact hK _ _ (fun _ => rfl) (fun h => by cases h) HC.out trivial
            · rintro av wq hC hx hd K hK
              have HC := Lib.hid hC
              clear hC
              have t6 : av.tmps[6]?.getD undef = .int .i64 (k : Int) := Reg.slot_val (hx 6 (by kernel_rfl))
              go_simp
              exact hK _ _ (fun _ => rfl) (fun h => by cases h) HC.out trivial
            · rintro av wq hC hx hd K hK
              have HC := Lib.hid hC
              clear hC
              have t23 : av.tmps[23]?.getD undef = .slice (some ⟨bt, ot, none⟩) ps.length ec := Reg.slot_val (hd 6 (by kernel_rfl) 23 rfl)
              have t24 : av.tmps[24]?.getD undef = .int .i64 (k : Int) := Reg.slot_val (hd 7 (by kernel_rfl) 24 rfl)
              go_simp
              exact hK _ _ (fun _ => rfl) (fun h => by cases h) HC.out trivial
            · rintro av wq hC hx hd K hK
              have HC := Lib.hid hC
              clear hC
              have t25 : av.tmps[25]?.getD undef = .pointer (some ⟨bt, ot + k, none⟩) := Reg.slot_val (hd 8 (by kernel_rfl) 25 rfl)
              have y0 := cell_below HC.out cr
              go_simp
              exact hK _ _ (fun _ => rfl) (fun h => by cases h) HC.out trivial
            · rintro av wq hC hx hd K hK
              have HC := Lib.hid hC
              clear hC
              have t26 : av.tmps[26]?.getD undef = .slice (some ⟨br, orr, none⟩) 2 q1 := Reg.slot_val (hd 9 (by kernel_rfl) 26 rfl)
              go_simp
              exact hK _ _ (fun _ => rfl) (fun h => by cases h) HC.out trivial
            · rintro av wq hC hx hd K hK
              have HC := Lib.hid hC
              clear hC
              have t27 : av.tmps[27]?.getD undef = .pointer (some ⟨br, orr + 1, none⟩) := Reg.slot_val (hd 10 (by kernel_rfl) 27 rfl)
              have y0 := cell_below HC.out e1
              go_simp
              exact hK _ _ (fun _ => rfl) (fun h => by cases h) HC.out trivial
            · rintro av wq hC hx hd K hK
              have HC := Lib.hid hC
              clear hC
              have t1 : av.tmps[1]?.getD undef = .pointer (some ⟨w.heap.size, 0, none⟩) := Reg.slot_val (hx 1 (by kernel_rfl))
              have t22 : av.tmps[22]?.getD undef = .int .i64 (m : Int) := Reg.slot_val (hd 5 (by kernel_rfl) 22 rfl)
              have t28 : av.tmps[28]?.getD undef = .int .i64 (n : Int) := Reg.slot_val (hd 11 (by kernel_rfl) 28 rfl)
              go_simp
              refine (l02At w.heap.size pl pc tl tc pa ta ts (m : Int) (n : Int) wq (cell_below HC.out kb0) (cell_below HC.out kb1) (HTS.out.below (HBB.out.trans (HC.out.mono HBB.out.size))) H3.out HL.out).mono ?_
              rintro en w2' ⟨v, rfl, ho, hB2⟩
              obtain ⟨r, c, rfl⟩ := owns_slice ho
              rw [HMM.out]
              exact hK _ _ (fun _ => ⟨r, c, rfl⟩) (fun h => by cases h) (HC.out.trans (hB2.mono HC.out.size)) trivial
            · rintro av wq hC hx hd K hK
              have HC := Lib.hid hC
              clear hC
              obtain ⟨r, c, g29⟩ := hd 12 (by kernel_rfl) 29 rfl
              have t29 := Reg.slot_val g29
              clear g29
              go_simp
              exact hK _ _ (fun _ => rfl) (fun h => by cases h) HC.out trivial
            · rintro av wq hC hx hd K hK
              have HC := Lib.hid hC
              clear hC
              have t30 : av.tmps[30]?.getD undef = .int .i64 (mm : Int) := Reg.slot_val (hd 13 (by kernel_rfl) 30 rfl)
              go_simp
              exact hK _ _ (fun _ => rfl) (fun h => by cases h) HC.out trivial
          · rintro f wz hBz hR hT
            have g31 : f 31 = .bool false := hR 14 31 rfl
            simp only [Reg.mixL, g31]
            have zr := cell_below hBz cr
            have HBZ := Lib.hid hBz
            have hsz := hBz.size
            clear hBz hR hT g31 cr e0 e1 kb0 kb1
            have HB4 := Lib.hid (HC'.out.trans (HBZ.out.mono HC'.out.size))
            have HO4 := Lib.hid (HO.out.up HBZ.out)
            have hlen4 := HLEN.out
            go_wp2
            go_roundw
            case rel => exact ⟨k + 1, by omega, by go_num, by rw [HNX.out, List.append_nil]; exact HO4.out, HB4.out⟩
            case measure => simp [intOf]; omega
      · obtain rfl : k = ps.length := by omega
        obtain ⟨ga, gc, rfl, hI⟩ := hO.is hB'
        have HI2 := Lib.hid hI
        clear hA hO hB' hI HI HP HIM HWF
        go_wp2
        go_ret2
        exact ⟨⟨ga, gc, rfl, HI2.out⟩, HBB.out⟩
end Go.Proofs.Ytockhhfehjoldaa

/-
Texts in one: what LongsOf stands on, part 29. Conditions: those of each.
-/
import Derived.Test.YtmbekamnogbgaaaKLongsOf28

/-
Lists of floats that are the same as classes: the law's comparison says so. Conditions: none.
-/
namespace Go.Proofs.Ytmbekamnogbgaaa
open Go Fk Go.RowKit
set_option linter.unusedVariables false
set_option maxRecDepth 8000
/-- A list of floats that lies in memory, as classes. -/
def IsCs32 (w : World) (a : Option Addr) (n cap : Nat) (fs : List (Option Nat)) : Prop := ∃ zs, IsFs .f32 w a n cap zs ∧ (∀ k, k < n → FV .f32 (zs.getD k 0) (fs.getD k none)) ∧ fs.length = n
theorem IsCs32.below {w w' : World} {a : Option Addr} {n cap : Nat} {fs : List (Option Nat)} (h : IsCs32 w a n cap fs) (hB : Below w.heap.size w w') : IsCs32 w' a n cap fs := by
  obtain ⟨zs, h1, h2, h3⟩ := h
  exact ⟨zs, IsFs_below hB h1, h2, h3⟩
set_option maxHeartbeats 1000000 in
theorem laws_eqFloatC (a b : Option Addr) (len cap cap' : Nat) (zs ys : List Nat) (fs : List (Option Nat)) (w : World) (ha : IsFs .f32 w a len cap zs) (hb : IsFs .f32 w b len cap' ys) (hz : ∀ k, k < len → FV .f32 (zs.getD k 0) (fs.getD k none)) (hy : ∀ k, k < len → FV .f32 (ys.getD k 0) (fs.getD k none)) (hlen : len ≤ 1048576) :
    Calls Try.prog 67 #[.slice a len cap, .slice b len cap'] w fun e w' => e = .returned (.bool true) ∧ ∃ n, w' = w.drewN n := by
  have u := Try.underlying31
  have u' := Try.underlying80
  go_enter Try.func67, Try.ntmps67
  go_wp2
  go_loopw [5] (fun i w' => ∃ k : Nat, k ≤ len ∧ i = .int .i64 k ∧ ∃ n, w' = w.drewN n) (fun i _ => len - (intOf i).toNat)
  case atStart => exact ⟨0, Nat.zero_le _, rfl, 0, rfl⟩
  case round =>
    obtain ⟨k, hk, rfl, n, rfl⟩ := hrel
    by_cases hlt : k < len
    · obtain ⟨b1, o1, rfl, hcell1⟩ := IsFs_some ha (by omega)
      obtain ⟨b2, o2, rfl, hcell2⟩ := IsFs_some hb (by omega)
      have c1 := hcell1 k hlt
      have c2 := hcell2 k hlt
      have hv := hz k hlt
      have hv' := hy k hlt
      generalize zs.getD k 0 = z at *
      generalize ys.getD k 0 = y at *
      generalize fs.getD k none = fc at *
      clear hcell1 hcell2 hz hy ha hb
      have hk0 : (0 : Int) ≤ (k : Int) := by omega
      have hk1 : (k : Int) < (len : Int) := by omega
      go_wp2_with fail
      refine Reg.wp_region_mix (C := fun w' => ∃ n, w' = w.drewN n) (G := fun _ _ => True) (R := fun i v _ => match i with | 0 => v = .slice (some ⟨b1, o1, none⟩) len cap | 1 => v = .int .i64 k | 2 => v = .pointer (some ⟨b1, o1 + k, none⟩) | 3 => v = .float .f32 z | 4 => isF64 (fc.map wid) v | 5 => v = .slice (some ⟨b2, o2, none⟩) len cap' | 6 => v = .int .i64 k | 7 => v = .pointer (some ⟨b2, o2 + k, none⟩) | 8 => v = .float .f32 y | 9 => isF64 (fc.map wid) v | 10 => v = .bool true | 11 => v = .bool false | _ => True) (T := fun _ _ _ => True) [false, false, false, false, false, false, false, false, false, false, false, false, false, false, false, false, false, true, true, true, true, true, true, true, true, true, true, true, true]
        (by kernel_rfl) (by kernel_rfl) (by kernel_rfl) (fun _ _ _ _ _ _ h => h) ⟨n + 1, rfl⟩ ?_ ?_
      · refine ⟨Reg.Obl.mk ?_, Reg.Obl.mk ?_, Reg.Obl.mk ?_, Reg.Obl.mk ?_, Reg.Obl.mk ?_, Reg.Obl.mk ?_, Reg.Obl.mk ?_, Reg.Obl.mk ?_, Reg.Obl.mk ?_, Reg.Obl.mk ?_, Reg.Obl.mk ?_, Reg.Obl.mk ?_, trivial⟩
        · rintro a w1 ⟨n1, rfl⟩ hx hd K hK
          have t0 : a.tmps[0]?.getD undef = .slice (some ⟨b1, o1, none⟩) len cap := Reg.slot_val (hx 0 (by kernel_rfl))
          go_simp
          exact hK _ _ (fun _ => rfl) (fun h => by cases h) ⟨_, rfl⟩ trivial
        · rintro a w1 ⟨n1, rfl⟩ hx hd K hK
          have t5 : a.tmps[5]?.getD undef = .int .i64 k := Reg.slot_val (hx 5 (by kernel_rfl))
          go_simp
          exact hK _ _ (fun _ => rfl) (fun h => by cases h) ⟨_, rfl⟩ trivial
        · rintro a w1 ⟨n1, rfl⟩ hx hd K hK
          have t17 : a.tmps[17]?.getD undef = .slice (some ⟨b1, o1, none⟩) len cap := Reg.slot_val (hd 0 (by kernel_rfl) 17 rfl)
          have t18 : a.tmps[18]?.getD undef = .int .i64 k := Reg.slot_val (hd 1 (by kernel_rfl) 18 rfl)
          go_simp
          exact hK _ _ (fun _ => rfl) (fun h => by cases h) ⟨_, rfl⟩ trivial
        · rintro a w1 ⟨n1, rfl⟩ hx hd K hK
          have t19 : a.tmps[19]?.getD undef = .pointer (some ⟨b1, o1 + k, none⟩) := Reg.slot_val (hd 2 (by kernel_rfl) 19 rfl)
          go_simp
          exact hK _ _ (fun _ => rfl) (fun h => by cases h) ⟨_, rfl⟩ trivial
        · rintro a w1 ⟨n1, rfl⟩ hx hd K hK
          have t20 : a.tmps[20]?.getD undef = .float .f32 z := Reg.slot_val (hd 3 (by kernel_rfl) 20 rfl)
          go_simp
          exact hK _ _ (fun _ => ⟨_, rfl, FV_wR hv⟩) (fun h => by cases h) ⟨_, rfl⟩ trivial
        · rintro a w1 ⟨n1, rfl⟩ hx hd K hK
          have t1 : a.tmps[1]?.getD undef = .slice (some ⟨b2, o2, none⟩) len cap' := Reg.slot_val (hx 1 (by kernel_rfl))
          go_simp
          exact hK _ _ (fun _ => rfl) (fun h => by cases h) ⟨_, rfl⟩ trivial
        · rintro a w1 ⟨n1, rfl⟩ hx hd K hK
          have t5 : a.tmps[5]?.getD undef = .int .i64 k := Reg.slot_val (hx 5 (by kernel_rfl))
          go_simp
          exact hK _ _ (fun _ => rfl) (fun h => by cases h) ⟨_, rfl⟩ trivial
        · rintro a w1 ⟨n1, rfl⟩ hx hd K hK
          have t22 : a.tmps[22]?.getD undef = .slice (some ⟨b2, o2, none⟩) len cap' := Reg.slot_val (hd 5 (by kernel_rfl) 22 rfl)
          have t23 : a.tmps[23]?.getD undef = .int .i64 k := Reg.slot_val (hd 6 (by kernel_rfl) 23 rfl)
          go_simp
          exact hK _ _ (fun _ => rfl) (fun h => by cases h) ⟨_, rfl⟩ trivial
        · rintro a w1 ⟨n1, rfl⟩ hx hd K hK
          have t24 : a.tmps[24]?.getD undef = .pointer (some ⟨b2, o2 + k, none⟩) := Reg.slot_val (hd 7 (by kernel_rfl) 24 rfl)
          go_simp
          exact hK _ _ (fun _ => rfl) (fun h => by cases h) ⟨_, rfl⟩ trivial
        · rintro a w1 ⟨n1, rfl⟩ hx hd K hK
          have t25 : a.tmps[25]?.getD undef = .float .f32 y := Reg.slot_val (hd 8 (by kernel_rfl) 25 rfl)
          go_simp
          exact hK _ _ (fun _ => ⟨_, rfl, FV_wR hv'⟩) (fun h => by cases h) ⟨_, rfl⟩ trivial
        · rintro a w1 ⟨n1, rfl⟩ hx hd K hK
          obtain ⟨r21, g21, f21⟩ := hd 4 (by kernel_rfl) 21 rfl
          have t21 := Reg.slot_val g21
          clear g21
          obtain ⟨r26, g26, f26⟩ := hd 9 (by kernel_rfl) 26 rfl
          have t26 := Reg.slot_val g26
          clear g26
          go_simp
          refine (laws_sameFloat _ _ _ _ f21 f26).mono ?_
          rintro en w2 ⟨rfl, n2, rfl⟩
          exact hK _ _ (fun _ => rfl) (fun h => by cases h) ⟨_, World.drewN_drewN ..⟩ trivial
        · rintro a w1 ⟨n1, rfl⟩ hx hd K hK
          have t27 : a.tmps[27]?.getD undef = .bool true := Reg.slot_val (hd 10 (by kernel_rfl) 27 rfl)
          go_simp
          exact hK _ _ (fun _ => rfl) (fun h => by cases h) ⟨_, rfl⟩ trivial
      · rintro f w1 ⟨n1, rfl⟩ hd hT
        have g28 : f 28 = .bool false := hd 11 28 rfl
        simp only [Reg.mixL, g28]
        go_wp2
        go_roundw
        case rel => exact ⟨k + 1, by omega, by go_num, _, rfl⟩
        case measure => simp [intOf]; omega
    · go_wp2
      go_ret
      exact ⟨rfl, _, rfl⟩
theorem eq_floats (a b : Option Addr) (n cap cap' : Nat) (fs : List (Option Nat)) (w : World) (ha : IsCs32 w a n cap fs) (hb : IsCs32 w b n cap' fs) (hlen : n ≤ 1048576) :
    Calls Try.prog 67 #[.slice a n cap, .slice b n cap'] w fun e w' => e = .returned (.bool true) ∧ ∃ n, w' = w.drewN n := by
  obtain ⟨zs, h1, h2, _⟩ := ha
  obtain ⟨ys, k1, k2, _⟩ := hb
  exact laws_eqFloatC a b n cap cap' zs ys fs w h1 k1 h2 k2 hlen
/-- A list outside the blocks that are marked is as it was. -/
theorem cs32_mark {lo hi lo' hi' : Nat} {w0 w w' : World} {a : Option Addr} {n cap : Nat} {fs : List (Option Nat)} (h : IsCs32 w a n cap fs) (hl : Lst lo' hi' w0 a n) (hM : Mark lo hi w w') (ho : hi' ≤ lo ∨ hi ≤ lo') : IsCs32 w' a n cap fs := by
  obtain ⟨zs, ⟨h1, h2, h3, h4, h5, h6⟩, k2, k3⟩ := h
  refine ⟨zs, ⟨h1, h2, h3, h4, h5, fun x hx i hlt => ?_⟩, k2, k3⟩
  rcases hl with ⟨e, _⟩ | ⟨b, e, hown⟩
  · rw [e] at hx; cases hx
  · rw [e] at hx; cases hx
    have := h6 _ e i hlt
    rw [addr_add'] at this ⊢
    have k1 := hown.1
    have k2 := hown.2.1
    exact hM.cell (by omega) this
end Go.Proofs.Ytmbekamnogbgaaa


/-
The lengths of a mesh's edges: what the program returns. Conditions: none beyond that the mesh lies in memory.
-/
namespace Go.Proofs.Ytmbekamnogbgaaa
open Go Fk Go.RowKit Go.Maps Go.Sort
set_option linter.unusedVariables false
set_option maxRecDepth 16000

/-- What is answered: the lengths of the edges in ascending order, if the mesh is valid. -/
def lgT (cs : List C3) (ts : List (List Int)) : List (Option Nat) := bif validB cs ts then (pairsL (keysE ts) cs.length).map (longOf cs) else []
theorem lgT_len (cs : List C3) (ts : List (List Int)) : (lgT cs ts).length ≤ 4096 := by
  have h := edT_len cs ts
  unfold edT at h
  unfold lgT
  cases hv : validB cs ts
  · simp
  · rw [hv] at h
    simp only [cond_true] at h ⊢
    rw [edgesT_pairs, List.length_map] at h
    rw [List.length_map]
    exact h
set_option maxHeartbeats 4000000 in
theorem impl_LongsOf (pa ta : Option Addr) (pl pc tl tc : Nat) (cs : List C3) (ts : List (List Int)) (w : World) (hp : IsVs w pa pl pc cs) (ht : IsTs w ta tl tc ts) :
    Calls Try.prog 66 #[.agg #[.slice pa pl pc, .slice ta tl tc]] w fun e w' => (∃ a c, e = .returned (.tuple #[.slice a (lgT cs ts).length c, .bool (validB cs ts)]) ∧ IsCs32 w' a (lgT cs ts).length c (lgT cs ts) ∧ Lst w.heap.size w'.heap.size w' a (lgT cs ts).length) ∧ Below w.heap.size w w' := by
  have ui := Try.underlying29
  have hpl := hp.1
  have htl := ht.1
  have hB0 : Below w.heap.size w (w.alloc (.cells #[.slice pa pl pc, .slice ta tl tc] 29)) := (Below.refl _ _).alloc (Nat.le_refl _) _
  have a0 : (w.alloc (.cells #[.slice pa pl pc, .slice ta tl tc] 29)).cell? ⟨w.heap.size, 0, none⟩ = some (.slice pa pl pc) := by go_simp
  have a1 : (w.alloc (.cells #[.slice pa pl pc, .slice ta tl tc] 29)).cell? ⟨w.heap.size, 1, none⟩ = some (.slice ta tl tc) := by go_simp
  have J := Lib.hid (impl_ValidMesh _ _ _ _ _ _ cs ts _ (hp.below hB0) (ht.below hB0))
  cases hv : validB cs ts
  · rw [hv] at J
    have he : lgT cs ts = [] := by unfold lgT; rw [hv]; rfl
    rw [he]
    have HB0 := Lib.hid hB0
    clear hv hp ht hB0 he
    go_enter Try.func66, Try.ntmps66
    go_wp2_with fail
    generalize (w.alloc (.cells #[.slice pa pl pc, .slice ta tl tc] 29)) = W at *
    refine J.out.mono ?_
    rintro e w1 ⟨rfl, hB1⟩
    have HB1 := Lib.hid (HB0.out.trans (hB1.mono HB0.out.size))
    clear hB1
    go_wp2
    go_ret2
    exact ⟨⟨none, 0, rfl, ⟨[], ⟨rfl, Nat.le_refl _, by unfold maxLen; omega, fun z hz => (by cases hz), fun _ => ⟨rfl, rfl⟩, fun x hx => (by cases hx)⟩, fun k hk => absurd hk (by simp), rfl⟩, .inl ⟨rfl, rfl⟩⟩, HB1.out⟩
  · rw [hv] at J
    obtain ⟨v1, v2⟩ := valid_pl hv
    have hll := lgT_len cs ts
    have he : lgT cs ts = (pairsL (keysE ts) cs.length).map (longOf cs) := by unfold lgT; rw [hv]; rfl
    have HV := fun k (hk : k < tl) => tri_partsh (valid_rowh hv (show k < ts.length by omega))
    have HT3 := Lib.hid (fun i (hi : i < ts.length) => tri3_of (valid_rowh hv hi))
    have h3 : ∀ k, k < tl → (ts.getD k []).length = 3 := fun k hk => (HV k hk).1
    have hin : ∀ k, k < tl → ∀ i, i < 3 → 0 ≤ (ts.getD k []).getD i 0 ∧ ((ts.getD k []).getD i 0).toNat < 64 := fun k hk i hi => by
      have := (HV k hk).2 i hi
      omega
    rw [he, List.length_map] at hll
    have HIM : Hid (∀ k, k < (pairsL (keysE ts) cs.length).length → ∃ m n : Nat, m < pl ∧ n < pl ∧ (pairsL (keysE ts) cs.length).getD k (0, 0) = ((m : Int), (n : Int))) := Lib.hid (fun k hk => by
      have hm : (pairsL (keysE ts) cs.length).getD k (0, 0) ∈ pairsL (keysE ts) cs.length := by
        rw [List.getD, List.getElem?_eq_getElem hk]
        exact List.getElem_mem _
      obtain ⟨a, b, ha, hb, _, _, e⟩ := mem_pairsL.1 hm
      exact ⟨a, b, by omega, by omega, e⟩)
    have HLEN := Lib.hid hll
    have HN := Lib.hid v1
    have H3 := Lib.hid h3
    have HIN := Lib.hid hin
    have HP := Lib.hid hp
    have HT := Lib.hid ht
    have HTL := Lib.hid htl
    have HB0 := Lib.hid hB0
    have ht128 : tl ≤ 128 := by omega
    have HL := Lib.hid ht128
    rw [he]
    clear hv hp ht hB0 he v1 v2 h3 hin HV ht128 htl hpl hll
    generalize hps : pairsL (keysE ts) cs.length = ps at *
    have HPS := Lib.hid hps
    clear hps
    go_enter Try.func66, Try.ntmps66
    go_wp2_with fail
    generalize (w.alloc (.cells #[.slice pa pl pc, .slice ta tl tc] 29)) = W at *
    refine J.out.mono ?_
    rintro e w1 ⟨rfl, hB1⟩
    replace a0 := cell_below hB1 a0
    replace a1 := cell_below hB1 a1
    have HB1 := Lib.hid (HB0.out.trans (hB1.mono HB0.out.size))
    clear hB1 HB0 J
    go_wp2_with fail
    refine Reg.wp_region_mix (C := fun w' => (w'.cell? ⟨w.heap.size, 0, none⟩ = some (.slice pa pl pc) ∧ w'.cell? ⟨w.heap.size, 1, none⟩ = some (.slice ta tl tc)) ∧ Below w.heap.size w w') (G := fun w1 w2 => Below w1.heap.size w1 w2)
      (R := fun i v w' => match i with
        | 0 => v = .agg #[.slice pa pl pc, .slice ta tl tc]
        | 1 => ∃ (B : Nat) (D : DataW Unit), v = .map (some B) ∧ w'.ownsGroups Try.prog 164 (B + 1) 2 .i64 B (3 * tl) D ∧ GroupsOf D (preI ts tl 0)
        | 2 => ∃ a c, v = .slice a ps.length c ∧ EdgesAt w' a ps.length ps
        | 3 => v = .agg #[.slice pa pl pc, .slice ta tl tc]
        | 4 => v = .func (.func 138) #[.agg #[.slice pa pl pc, .slice ta tl tc]] #[]
        | 5 => ∃ g zs, v = .slice (some ⟨g, 0, none⟩) ps.length ps.length ∧ IsFs .f32 w' (some ⟨g, 0, none⟩) ps.length ps.length zs ∧ (∀ k, k < ps.length → FV .f32 (zs.getD k 0) (longOf cs (ps.getD k (0, 0)))) ∧ Own w.heap.size (g + 1) w' g 0 ps.length
        | 6 => ∃ g zs, v = .slice (some ⟨g, 0, none⟩) ps.length ps.length ∧ IsFs .f32 w' (some ⟨g, 0, none⟩) ps.length ps.length zs ∧ (∀ k, k < ps.length → FV .f32 (zs.getD k 0) (longOf cs (ps.getD k (0, 0)))) ∧ Own w.heap.size (g + 1) w' g 0 ps.length
        | 7 => v = .bool true
        | _ => True) (T := fun _ _ _ => True) [false, false, true, true, false, false, false, true, true, true, true, true, true]
      (by kernel_rfl) (by kernel_rfl) (by kernel_rfl) ?_ ⟨⟨a0, a1⟩, below_drewN HB1.out 1⟩ ?_ ?_
    · intro j v w1 w2 _ hG hR
      match j with
      | 0 => exact hR
      | 1 => obtain ⟨B, D, e, h1, h2⟩ := hR; exact ⟨B, D, e, groups_below h1 hG, h2⟩
      | 2 => obtain ⟨a, c, e, h1⟩ := hR; exact ⟨a, c, e, h1.below hG⟩
      | 3 => exact hR
      | 4 => exact hR
      | 5 => obtain ⟨g, zs, e, h1, h2, h3⟩ := hR; exact ⟨g, zs, e, IsFs_below hG h1, h2, h3.below hG⟩
      | 6 => obtain ⟨g, zs, e, h1, h2, h3⟩ := hR; exact ⟨g, zs, e, IsFs_below hG h1, h2, h3.below hG⟩
      | 7 => exact hR
      | _ + 8 => trivial
    · refine ⟨Reg.Obl.mk ?_, Reg.Obl.mk ?_, Reg.Obl.mk ?_, Reg.Obl.mk ?_, Reg.Obl.mk ?_, Reg.Obl.mk ?_, Reg.Obl.mk ?_, Reg.Obl.mk ?_, trivial⟩
      · rintro a w1 ⟨⟨y0, y1⟩, hB⟩ hx hd K hK
        have t1 : a.tmps[1]?.getD undef = .pointer (some ⟨w.heap.size, 0, none⟩) := Reg.slot_val (hx 1 (by kernel_rfl))
        go_simp
        exact hK _ _ (fun _ => rfl) (fun h => by cases h) ⟨⟨y0, y1⟩, hB⟩ (Below.refl _ _)
      · rintro a w1 ⟨⟨y0, y1⟩, hB⟩ hx hd K hK
        have t7 : a.tmps[7]?.getD undef = .agg #[.slice pa pl pc, .slice ta tl tc] := Reg.slot_val (hd 0 (by kernel_rfl) 7 rfl)
        go_simp
        refine (impl_edges pa ta pl pc tl tc ts w1 (HT.out.below hB) H3.out HIN.out HL.out).mono ?_
        rintro en w2 ⟨B, D, rfl, hlo, hO, hG, hB2⟩
        exact hK _ _ (fun _ => ⟨B, D, rfl, hO, hG⟩) (fun h => by cases h) ⟨⟨cell_below hB2 y0, cell_below hB2 y1⟩, hB.trans (hB2.mono hB.size)⟩ hB2
      · rintro a w1 ⟨⟨y0, y1⟩, hB⟩ hx hd K hK
        obtain ⟨B, D, g8, hO, hG⟩ := hd 1 (by kernel_rfl) 8 rfl
        have t8 := Reg.slot_val g8
        clear g8
        have hm := map_of_groups hO
        have HO := Lib.hid hm
        have HS := Lib.hid hm.size_le
        have HG := Lib.hid hG
        clear hO hm hG
        go_simp
        refine (impl_sortedEdges B _ D _ w1 HO.out (by have := HS.out; have := HL.out; unfold maxLen; omega) (by have := HS.out; have := HL.out; omega)).mono ?_
        rintro en w2 ⟨v, ss, rfl, hK2, hrow, hnil, hB2⟩
        have hse : sortE ss = ps := by
          rw [← HPS.out]
          refine sorted_edges ?_ hK2 HT3.out HN.out
          rw [HTL.out]
          exact HG.out
        have hln : ss.length = ps.length := by rw [← hse]; unfold sortE; simp
        rw [hse, hln] at hrow
        obtain ⟨a', c, rfl, hat⟩ := edges_at hrow rfl
        exact hK _ _ (fun _ => ⟨a', c, rfl, hat⟩) (fun h => by cases h) ⟨⟨cell_below hB2 y0, cell_below hB2 y1⟩, hB.trans (hB2.mono hB.size)⟩ hB2
      · rintro a w1 ⟨⟨y0, y1⟩, hB⟩ hx hd K hK
        have t1 : a.tmps[1]?.getD undef = .pointer (some ⟨w.heap.size, 0, none⟩) := Reg.slot_val (hx 1 (by kernel_rfl))
        go_simp
        exact hK _ _ (fun _ => rfl) (fun h => by cases h) ⟨⟨y0, y1⟩, hB⟩ (Below.refl _ _)
      · rintro a w1 ⟨⟨y0, y1⟩, hB⟩ hx hd K hK
        have t10 : a.tmps[10]?.getD undef = .agg #[.slice pa pl pc, .slice ta tl tc] := Reg.slot_val (hd 3 (by kernel_rfl) 10 rfl)
        have hmf : ∀ (fn : Fn) (first cap : Array Value) (w : World), (Instr.makeFunc fn first cap).run Try.prog w = .ok (.func fn first cap) w := fun _ _ _ _ => rfl
        go_simp
        exact hK _ _ (fun _ => rfl) (fun h => by cases h) ⟨⟨y0, y1⟩, hB⟩ (Below.refl _ _)
      · rintro a w1 ⟨⟨y0, y1⟩, hB⟩ hx hd K hK
        obtain ⟨a', c, g9, hat⟩ := hd 2 (by kernel_rfl) 9 rfl
        have t9 := Reg.slot_val g9
        clear g9
        have t11 : a.tmps[11]?.getD undef = .func (.func 138) #[.agg #[.slice pa pl pc, .slice ta tl tc]] #[] := Reg.slot_val (hd 4 (by kernel_rfl) 11 rfl)
        have HA := Lib.hid hat
        clear hat
        go_simp
        refine (measured_long a' c pa ta pl pc tl tc cs ps ps.length w1 (HP.out.below hB) HA.out HIM.out HLEN.out).mono ?_
        rintro en w2 ⟨zs, rfl, hzs, hfv, hown, hB2⟩
        exact hK _ _ (fun _ => ⟨_, zs, rfl, hzs, hfv, Nat.le_trans hB.size hown.1, Nat.lt_succ_self _, hown.2.2⟩) (fun h => by cases h) ⟨⟨cell_below hB2 y0, cell_below hB2 y1⟩, hB.trans (hB2.mono hB.size)⟩ hB2
      · rintro a w1 ⟨⟨y0, y1⟩, hB⟩ hx hd K hK
        obtain ⟨g, zs, g12, h1, h2, h3⟩ := hd 5 (by kernel_rfl) 12 rfl
        have t12 := Reg.slot_val g12
        clear g12
        have K1 := Lib.hid h1
        have K2 := Lib.hid h2
        have K3 := Lib.hid h3
        clear h1 h2 h3
        go_simp
        exact hK _ _ (fun _ => ⟨g, zs, rfl, K1.out, K2.out, K3.out⟩) (fun h => by cases h) ⟨⟨y0, y1⟩, hB⟩ (Below.refl _ _)
      · rintro a w1 ⟨⟨y0, y1⟩, hB⟩ hx hd K hK
        go_simp
        exact hK _ _ (fun _ => rfl) (fun h => by cases h) ⟨⟨y0, y1⟩, hB⟩ (Below.refl _ _)
    · rintro f w2 ⟨⟨y0, y1⟩, hB⟩ hd hT
      obtain ⟨g, zs, g2, h1, h2, h3⟩ := hd 6 2 rfl
      have g3 : f 3 = .bool true := hd 7 3 rfl
      simp only [Reg.mixL, g2, g3]
      have HBB := Lib.hid hB
      have K1 := Lib.hid h1
      have K2 := Lib.hid h2
      have K3 := Lib.hid h3
      clear hB hd hT h1 h2 h3
      go_wp2
      go_ret2
      have hl : (List.map (longOf cs) ps).length = ps.length := by simp
      rw [hl]
      refine ⟨⟨_, _, rfl, ⟨zs, K1.out, fun k hk => ?_, hl⟩, .inr ⟨g, rfl, K3.out.1, K3.out.2.2.1, K3.out.2.2⟩⟩, HBB.out⟩
      have := K2.out k hk
      simpa [List.getD, hk] using this
end Go.Proofs.Ytmbekamnogbgaaa


/-
The lengths of a mesh's edges: the model. Conditions: none beyond that the mesh lies in memory.
-/
namespace Go.Proofs.Ytmbekamnogbgaaa
open Go Fk Go.RowKit Go.Maps Go.Sort
set_option linter.unusedVariables false
set_option maxRecDepth 16000

/-- A list of floats of a call's own, as classes. -/
def OwnC (base : Nat) (w : World) (v : Value) (n : Nat) (F : Nat → Option Nat) : Prop := ∃ zs : List Nat, w.ownsRow base 31 1 v n (zs.map (Value.float .f32)) ∧ zs.length = n ∧ ∀ k, k < n → FV .f32 (zs.getD k 0) (F k)
theorem OwnC.up {base n : Nat} {w w' : World} {v : Value} {F : Nat → Option Nat} (h : OwnC base w v n F) (hB : Below w.heap.size w w') : OwnC base w' v n F := by
  obtain ⟨zs, h1, h2, h3⟩ := h
  exact ⟨zs, owns_up h1 hB, h2, h3⟩
theorem OwnC.is {base n : Nat} {w : World} {v : Value} {fs : List (Option Nat)} (h : OwnC base w v n fun k => fs.getD k none) (hn : fs.length = n) : ∃ a c, v = .slice a n c ∧ IsCs32 w a n c fs := by
  obtain ⟨zs, h1, h2, h3⟩ := h
  have h1' := h1
  have hb : ∀ z ∈ zs, z < 2 ^ FloatKind.f32.format.width := fun z hz => by
    obtain ⟨i, hi, rfl⟩ := List.mem_iff_getElem.1 hz
    have := (h3 i (by omega)).1
    simpa [List.getD, hi] using this
  rcases h1.2 with ⟨rfl, h0⟩ | ⟨g, cap, cur, rfl, hb', hh, hc1, hc2, hs, ht⟩
  · exact ⟨none, 0, by rw [h0], zs, ⟨h2, by omega, by unfold maxLen; omega, hb, fun _ => ⟨h0, rfl⟩, fun x hx => (by cases hx)⟩, h3, hn⟩
  · refine ⟨_, cap, rfl, zs, ⟨h2, hc1, hc2, hb, by simp, fun x hx i hi => ?_⟩, h3, hn⟩
    cases hx
    have hi' : i < zs.length := by omega
    rw [addr_add', Nat.zero_add, h1'.cellAt i (by omega)]
    simp [List.getD, hi']
set_option maxHeartbeats 4000000 in
theorem spec_LongsOf (pa ta : Option Addr) (pl pc tl tc : Nat) (cs : List C3) (ts : List (List Int)) (w : World) (hp : IsVs w pa pl pc cs) (ht : IsTs w ta tl tc ts) :
    Calls Try.prog 65 #[.agg #[.slice pa pl pc, .slice ta tl tc]] w fun e w' => (∃ a c, e = .returned (.tuple #[.slice a (lgT cs ts).length c, .bool (validB cs ts)]) ∧ IsCs32 w' a (lgT cs ts).length c (lgT cs ts)) ∧ Below w.heap.size w w' := by
  have ui := Try.underlying29
  have uv := Try.underlying34
  have hpl := hp.1
  have hB0 : Below w.heap.size w (w.alloc (.cells #[.slice pa pl pc, .slice ta tl tc] 29)) := (Below.refl _ _).alloc (Nat.le_refl _) _
  have a0 : (w.alloc (.cells #[.slice pa pl pc, .slice ta tl tc] 29)).cell? ⟨w.heap.size, 0, none⟩ = some (.slice pa pl pc) := by go_simp
  have a1 : (w.alloc (.cells #[.slice pa pl pc, .slice ta tl tc] 29)).cell? ⟨w.heap.size, 1, none⟩ = some (.slice ta tl tc) := by go_simp
  have J := Lib.hid (l02Is w.heap.size pa ta pl pc tl tc cs ts _ a0 a1 (hp.below hB0) (ht.below hB0))
  have hll := lgT_len cs ts
  cases hv : validB cs ts
  · rw [hv] at J
    have he : lgT cs ts = [] := by unfold lgT; rw [hv]; rfl
    rw [he]
    have HB0 := Lib.hid hB0
    clear hv hB0 a0 a1 hp ht he
    go_enter Try.func65, Try.ntmps65
    go_wp2_with fail
    generalize (w.alloc (.cells #[.slice pa pl pc, .slice ta tl tc] 29)) = W at *
    refine J.out.mono ?_
    rintro e w1 ⟨rfl, n, hw⟩
    have HB := Lib.hid (below_drewN HB0.out n)
    rw [hw]
    clear hw
    go_wp2
    go_ret2
    exact ⟨⟨none, 0, rfl, ⟨[], ⟨rfl, Nat.le_refl _, by unfold maxLen; omega, fun z hz => (by cases hz), fun _ => ⟨rfl, rfl⟩, fun x hx => (by cases hx)⟩, fun k hk => absurd hk (by simp), rfl⟩⟩, HB.out⟩
  · rw [hv] at J
    obtain ⟨i0, hi, hz0, hz1, hz2⟩ := info_parts info32
    have he : lgT cs ts = (pairsL (keysE ts) cs.length).map (longOf cs) := by unfold lgT; rw [hv]; rfl
    have hed : edgesT pl ts = (pairsL (keysE ts) cs.length).map rowP := by rw [hpl]; exact edgesT_pairs _ _
    have J2 := Lib.hid (fun n => l02Edges w.heap.size pa ta pl pc tl tc cs ts (World.drewN (w.alloc (.cells #[.slice pa pl pc, .slice ta tl tc] 29)) n) a0 a1 ((hp.below hB0).below (below_drewN (Below.refl _ _) n)) ((ht.below hB0).below (below_drewN (Below.refl _ _) n)) hv)
    have hwf : ∀ j, j < (edgesT pl ts).length → ∀ z ∈ (edgesT pl ts).getD j [], (Lit.int .i64 z).wf = true := edge_wf (by have := (valid_pl hv).1; omega)
    have HIM : Hid (∀ k, k < (pairsL (keysE ts) cs.length).length → ∃ m n : Nat, m < pl ∧ n < pl ∧ (pairsL (keysE ts) cs.length).getD k (0, 0) = ((m : Int), (n : Int))) := Lib.hid (fun k hk => by
      have hm : (pairsL (keysE ts) cs.length).getD k (0, 0) ∈ pairsL (keysE ts) cs.length := by
        rw [List.getD, List.getElem?_eq_getElem hk]
        exact List.getElem_mem _
      obtain ⟨a, b, ha, hb, _, _, e⟩ := mem_pairsL.1 hm
      exact ⟨a, b, by omega, by omega, e⟩)
    rw [he, List.length_map] at hll
    rw [hed] at J2 hwf
    rw [he]
    generalize pairsL (keysE ts) cs.length = ps at *
    have HWF := Lib.hid hwf
    have HLEN := Lib.hid hll
    have HP := Lib.hid hp
    have HB0 := Lib.hid hB0
    clear hv hB0 hp ht he hwf hed hll
    go_enter Try.func65, Try.ntmps65
    go_wp2_with fail
    generalize (w.alloc (.cells #[.slice pa pl pc, .slice ta tl tc] 29)) = W at *
    refine J.out.mono ?_
    rintro e w1 ⟨rfl, n, hw⟩
    rw [hw]
    clear hw
    have HB1 := Lib.hid (below_drewN HB0.out n)
    have b0 : (W.drewN n).cell? ⟨w.heap.size, 0, none⟩ = some (.slice pa pl pc) := a0
    have J3 := Lib.hid (J2.out n)
    clear a0 a1 J2 J
    generalize W.drewN n = W1 at *
    go_wp2_with fail
    refine J3.out.mono ?_
    rintro e w2 ⟨⟨v, rfl, hvo⟩, hB2⟩
    obtain ⟨ea, ec, rfl, hI⟩ := hvo.is rfl HWF.out
    replace b0 := cell_below hB2 b0
    have HI := Lib.hid hI
    have HB2 := Lib.hid (HB1.out.trans (hB2.mono HB1.out.size))
    have hlm : (List.map rowP ps).length = ps.length := by simp
    rw [hlm] at HI ⊢
    clear hvo hI hB2 hlm J3 HB1 HB0
    have hst : (w2.alloc (.cells #[] 31)).ownsRow w2.heap.size 31 1 (.slice (some ⟨w2.heap.size, 0, none⟩) 0 0) 0 [] :=
      World.ownsRow_lit (base := w2.heap.size) (e := 31) (size := 1) w2 #[] 0 (Nat.le_refl _) (by decide) rfl
    have HST : Hid (OwnC w2.heap.size (w2.alloc (.cells #[] 31)) (.slice (some ⟨w2.heap.size, 0, none⟩) 0 0) 0 fun k => longOf cs (ps.getD k (0, 0))) := Lib.hid ⟨[], hst, rfl, fun k hk => absurd hk (by omega)⟩
    have HB3 := Lib.hid ((Below.refl w2.heap.size w2).alloc (Nat.le_refl _) (.cells #[] 31))
    have CB := Lib.hid b0
    have HX := Lib.hid HI.out
    clear hst b0
    go_wp2
    generalize w2.alloc (.cells #[] 31) = W3 at *
    generalize (.slice (some ⟨w2.heap.size, 0, none⟩) 0 0 : Value) = v0 at *
    go_loopw [5, 6] (fun v i w' => ∃ k : Nat, k ≤ ps.length ∧ i = .int .i64 k ∧ Aside (OwnC w2.heap.size w' v k (fun k => longOf cs (ps.getD k (0, 0))) ∧ Below w2.heap.size w2 w')) (fun _ i _ => ps.length - (intOf i).toNat)
    case atStart => exact ⟨0, Nat.zero_le _, rfl, HST.out, HB3.out⟩
    case round =>
      obtain ⟨k, hk, hik, hA⟩ := hrel
      subst hik
      obtain ⟨hO, hB'⟩ := hA.out
      have HO := Lib.hid hO
      have hB := HB2.out.trans (hB'.mono HB2.out.size)
      have HB := Lib.hid hB
      have HC' := Lib.hid hB'
      by_cases hlt : k < ps.length
      · obtain ⟨bt, ot, rfl, hrow⟩ := (HX.out.below hB').some (by omega)
        obtain ⟨r1, n1, q1, cr, ir⟩ := hrow k hlt
        obtain ⟨m, n, hm, hn, hek⟩ := HIM.out k hlt
        have hrk : (List.map rowP ps).getD k [] = [(m : Int), (n : Int)] := by
          have : (List.map rowP ps).getD k [] = rowP (ps.getD k (0, 0)) := by simp [List.getD, hlt]
          rw [this, hek]; rfl
        rw [hrk] at ir
        have hn1 : n1 = 2 := by have := ir.1; simpa using this.symm
        subst hn1
        obtain ⟨br, orr, rfl, hcell⟩ := ir.some (by omega)
        have e0 := hcell 0 (by omega)
        have e1 := hcell 1 (by omega)
        simp only [List.getD_cons_zero, List.getD_cons_succ, Nat.add_zero] at e0 e1
        obtain ⟨bp, op, rfl, hcp⟩ := (HP.out.below hB).some (by omega)
        obtain ⟨p0, q0, s0, d00, d01, d02, f00, f01, f02⟩ := hcp m hm
        obtain ⟨p1, q1', s1, d10, d11, d12, f10, f11, f12⟩ := hcp n hn
        have kb := cell_below hB' CB.out
        have HLO : Hid (longOf cs (ps.getD k (0, 0)) = longE (cs.getD m c0) (cs.getD n c0)) := Lib.hid (by rw [hek]; rfl)
        unfold longE at HLO
        generalize cs.getD m c0 = C0 at *
        generalize cs.getD n c0 = C1 at *
        have m0 : (0 : Int) ≤ (m : Int) := by omega
        have m1 : (m : Int) < (pl : Int) := by omega
        have n0 : (0 : Int) ≤ (n : Int) := by omega
        have n1 : (n : Int) < (pl : Int) := by omega
        have hk0 : (0 : Int) ≤ (k : Int) := by omega
        have hk1 : (k : Int) < (ps.length : Int) := by omega
        have HLK := Lib.hid hlt
        clear hA hO hB hB' hrow ir hcell hcp hek hrk HX HI HP HIM HWF hlt hm hn hpl
        go_wp2_with fail
        refine Reg5.wp_region_mix (m := 24) (C := fun w' => Below wr.heap.size wr w') (D := fun w' => Below w2.heap.size w2 w') (G := fun w1 w2 => Below w1.heap.size w1 w2) (G' := fun w1 w2 => w2 = w1)
          (R := fun i v w' => match i with
            | 0 => v = u5
            | 1 => v = .pointer (some ⟨w.heap.size, 0, none⟩)
            | 2 => v = .slice (some ⟨bp, op, none⟩) pl pc
            | 3 => v = .slice (some ⟨bt, ot, none⟩) ps.length ec
            | 4 => v = .int .i64 (k : Int)
            | 5 => v = .pointer (some ⟨bt, ot + k, none⟩)
            | 6 => v = .slice (some ⟨br, orr, none⟩) 2 q1
            | 7 => v = .pointer (some ⟨br, orr, none⟩)
            | 8 => v = .int .i64 (m : Int)
            | 9 => v = .pointer (some ⟨bp, op + m * 3, none⟩)
            | 10 => v = vv p0 q0 s0
            | 11 => v = .pointer (some ⟨w.heap.size, 0, none⟩)
            | 12 => v = .slice (some ⟨bp, op, none⟩) pl pc
            | 13 => v = .slice (some ⟨bt, ot, none⟩) ps.length ec
            | 14 => v = .int .i64 (k : Int)
            | 15 => v = .pointer (some ⟨bt, ot + k, none⟩)
            | 16 => v = .slice (some ⟨br, orr, none⟩) 2 q1
            | 17 => v = .pointer (some ⟨br, orr + 1, none⟩)
            | 18 => v = .int .i64 (n : Int)
            | 19 => v = .pointer (some ⟨bp, op + n * 3, none⟩)
            | 20 => v = vv p1 q1' s1
            | 21 => ∃ x y z, v = vv x y z ∧ FV .f32 x (fop .sub .f32 C0.1 C1.1) ∧ FV .f32 y (fop .sub .f32 C0.2.1 C1.2.1) ∧ FV .f32 z (fop .sub .f32 C0.2.2 C1.2.2)
            | 22 => ∃ x, v = .float .f32 x ∧ FV .f32 x (rootC (fop .add .f32 (fop .add .f32 (fop .mul .f32 (fop .sub .f32 C0.1 C1.1) (fop .sub .f32 C0.1 C1.1)) (fop .mul .f32 (fop .sub .f32 C0.2.1 C1.2.1) (fop .sub .f32 C0.2.1 C1.2.1))) (fop .mul .f32 (fop .sub .f32 C0.2.2 C1.2.2) (fop .sub .f32 C0.2.2 C1.2.2))))
            | 23 => ∃ g x, v = .slice (some ⟨g, 0, none⟩) 1 1 ∧ w'.cell? ⟨g, 0, none⟩ = some (.float .f32 x) ∧ FV .f32 x (rootC (fop .add .f32 (fop .add .f32 (fop .mul .f32 (fop .sub .f32 C0.1 C1.1) (fop .sub .f32 C0.1 C1.1)) (fop .mul .f32 (fop .sub .f32 C0.2.1 C1.2.1) (fop .sub .f32 C0.2.1 C1.2.1))) (fop .mul .f32 (fop .sub .f32 C0.2.2 C1.2.2) (fop .sub .f32 C0.2.2 C1.2.2))))
            | 24 => OwnC w2.heap.size w' v (k + 1) (fun k => longOf cs (ps.getD k (0, 0)))
            | 25 => OwnC w2.heap.size w' v (k + 1) (fun k => longOf cs (ps.getD k (0, 0)))
            | _ => True) (T := fun _ _ _ => True) [false, false, false, false, false, true, false, false, false, false, false, false, false, false, false, false, false, true, true, true, true, true, true, true, true, true, true, true, true, true, true, true, true, true, true, true, true, true, true, true, true, true, false]
          (by kernel_rfl) (by kernel_rfl) (by kernel_rfl) (by kernel_rfl) ?_ ?_ (below_drewN (Below.refl _ _) 1) ?_ ?_
        · intro j v w1 w2 _ _ hG hR
          match j with
          | 0 => exact hR
          | 1 => exact hR
          | 2 => exact hR
          | 3 => exact hR
          | 4 => exact hR
          | 5 => exact hR
          | 6 => exact hR
          | 7 => exact hR
          | 8 => exact hR
          | 9 => exact hR
          | 10 => exact hR
          | 11 => exact hR
          | 12 => exact hR
          | 13 => exact hR
          | 14 => exact hR
          | 15 => exact hR
          | 16 => exact hR
          | 17 => exact hR
          | 18 => exact hR
          | 19 => exact hR
          | 20 => exact hR
          | 21 => exact hR
          | 22 => exact hR
          | 23 => obtain ⟨g, x, e, h1, h2⟩ := hR; exact ⟨g, x, e, cell_below hG h1, h2⟩
          | 24 => exact OwnC.up hR hG
          | 25 => exact OwnC.up hR hG
          | _ + 26 => trivial
        · intro j v w1 w2 _ _ hG hR
          rw [hG]; exact hR
        · refine ⟨?_, ?_, ?_, ?_, ?_, ?_, ?_, ?_, ?_, ?_, ?_, ?_, ?_, ?_, ?_, ?_, ?_, ?_, ?_, ?_, ?_, ?_, ?_, ?_, ?_, ?_, trivial⟩
          · refine Reg5.Obl.early rfl rfl ?_
            rintro a w1 hC hx hd K hK
            have HC := Lib.hid hC
            clear hC
            have t5 : a.tmps[5]?.getD undef = u5 := Reg.slot_val (hx 5 (by kernel_rfl))
            go_simp
            exact hK _ _ rfl HC.out (Below.refl _ _)
          · refine Reg5.Obl.early rfl rfl ?_
            rintro a w1 hC hx hd K hK
            have HC := Lib.hid hC
            clear hC
            have t1 : a.tmps[1]?.getD undef = .pointer (some ⟨w.heap.size, 0, none⟩) := Reg.slot_val (hx 1 (by kernel_rfl))
            go_simp
            exact hK _ _ rfl HC.out (Below.refl _ _)
          · refine Reg5.Obl.early rfl rfl ?_
            rintro a w1 hC hx hd K hK
            have HC := Lib.hid hC
            clear hC
            have t18 : a.tmps[18]?.getD undef = .pointer (some ⟨w.heap.size, 0, none⟩) := Reg.slot_val (hd 1 (by kernel_rfl) 18 rfl)
            have y0 := cell_below HC.out kb
            go_simp
            exact hK _ _ rfl HC.out (Below.refl _ _)
          · refine Reg5.Obl.early rfl rfl ?_
            rintro a w1 hC hx hd K hK
            have HC := Lib.hid hC
            clear hC
            have t4 : a.tmps[4]?.getD undef = .slice (some ⟨bt, ot, none⟩) ps.length ec := Reg.slot_val (hx 4 (by kernel_rfl))
            go_simp
            exact hK _ _ rfl HC.out (Below.refl _ _)
          · refine Reg5.Obl.early rfl rfl ?_
            rintro a w1 hC hx hd K hK
            have HC := Lib.hid hC
            clear hC
            have t6 : a.tmps[6]?.getD undef = .int .i64 (k : Int) := Reg.slot_val (hx 6 (by kernel_rfl))
            go_simp
            exact hK _ _ rfl HC.out (Below.refl _ _)
          · refine Reg5.Obl.early rfl rfl ?_
            rintro a w1 hC hx hd K hK
            have HC := Lib.hid hC
            clear hC
            have t20 : a.tmps[20]?.getD undef = .slice (some ⟨bt, ot, none⟩) ps.length ec := Reg.slot_val (hd 3 (by kernel_rfl) 20 rfl)
            have t21 : a.tmps[21]?.getD undef = .int .i64 (k : Int) := Reg.slot_val (hd 4 (by kernel_rfl) 21 rfl)
            go_simp
            exact hK _ _ rfl HC.out (Below.refl _ _)
          · refine Reg5.Obl.early rfl rfl ?_
            rintro a w1 hC hx hd K hK
            have HC := Lib.hid hC
            clear hC
            have t22 : a.tmps[22]?.getD undef = .pointer (some ⟨bt, ot + k, none⟩) := Reg.slot_val (hd 5 (by kernel_rfl) 22 rfl)
            have y0 := cell_below HC.out cr
            go_simp
            exact hK _ _ rfl HC.out (Below.refl _ _)
          · refine Reg5.Obl.early rfl rfl ?_
            rintro a w1 hC hx hd K hK
            have HC := Lib.hid hC
            clear hC
            have t23 : a.tmps[23]?.getD undef = .slice (some ⟨br, orr, none⟩) 2 q1 := Reg.slot_val (hd 6 (by kernel_rfl) 23 rfl)
            go_simp
            exact hK _ _ rfl HC.out (Below.refl _ _)
          · refine Reg5.Obl.early rfl rfl ?_
            rintro a w1 hC hx hd K hK
            have HC := Lib.hid hC
            clear hC
            have t24 : a.tmps[24]?.getD undef = .pointer (some ⟨br, orr, none⟩) := Reg.slot_val (hd 7 (by kernel_rfl) 24 rfl)
            have y0 := cell_below HC.out e0
            go_simp
            exact hK _ _ rfl HC.out (Below.refl _ _)
          · refine Reg5.Obl.early rfl rfl ?_
            rintro a w1 hC hx hd K hK
            have HC := Lib.hid hC
            clear hC
            have t19 : a.tmps[19]?.getD undef = .slice (some ⟨bp, op, none⟩) pl pc := Reg.slot_val (hd 2 (by kernel_rfl) 19 rfl)
            have t25 : a.tmps[25]?.getD undef = .int .i64 (m : Int) := Reg.slot_val (hd 8 (by kernel_rfl) 25 rfl)
            go_simp
            exact hK _ _ rfl HC.out (Below.refl _ _)
          · refine Reg5.Obl.early rfl rfl ?_
            rintro a w1 hC hx hd K hK
            have HC := Lib.hid hC
            clear hC
            have t26 : a.tmps[26]?.getD undef = .pointer (some ⟨bp, op + m * 3, none⟩) := Reg.slot_val (hd 9 (by kernel_rfl) 26 rfl)
            have y0 := cell_below HC.out d00
            have y1 := cell_below HC.out d01
            have y2 := cell_below HC.out d02
            go_simp
            exact hK _ _ rfl HC.out (Below.refl _ _)
          · refine Reg5.Obl.early rfl rfl ?_
            rintro a w1 hC hx hd K hK
            have HC := Lib.hid hC
            clear hC
            have t1 : a.tmps[1]?.getD undef = .pointer (some ⟨w.heap.size, 0, none⟩) := Reg.slot_val (hx 1 (by kernel_rfl))
            go_simp
            exact hK _ _ rfl HC.out (Below.refl _ _)
          · refine Reg5.Obl.early rfl rfl ?_
            rintro a w1 hC hx hd K hK
            have HC := Lib.hid hC
            clear hC
            have t28 : a.tmps[28]?.getD undef = .pointer (some ⟨w.heap.size, 0, none⟩) := Reg.slot_val (hd 11 (by kernel_rfl) 28 rfl)
            have y0 := cell_below HC.out kb
            go_simp
            exact hK _ _ rfl HC.out (Below.refl _ _)
          · refine Reg5.Obl.early rfl rfl ?_
            rintro a w1 hC hx hd K hK
            have HC := Lib.hid hC
            clear hC
            have t4 : a.tmps[4]?.getD undef = .slice (some ⟨bt, ot, none⟩) ps.length ec := Reg.slot_val (hx 4 (by kernel_rfl))
            go_simp
            exact hK _ _ rfl HC.out (Below.refl _ _)
          · refine Reg5.Obl.early rfl rfl ?_
            rintro a w1 hC hx hd K hK
            have HC := Lib.hid hC
            clear hC
            have t6 : a.tmps[6]?.getD undef = .int .i64 (k : Int) := Reg.slot_val (hx 6 (by kernel_rfl))
            go_simp
            exact hK _ _ rfl HC.out (Below.refl _ _)
          · refine Reg5.Obl.early rfl rfl ?_
            rintro a w1 hC hx hd K hK
            have HC := Lib.hid hC
            clear hC
            have t30 : a.tmps[30]?.getD undef = .slice (some ⟨bt, ot, none⟩) ps.length ec := Reg.slot_val (hd 13 (by kernel_rfl) 30 rfl)
            have t31 : a.tmps[31]?.getD undef = .int .i64 (k : Int) := Reg.slot_val (hd 14 (by kernel_rfl) 31 rfl)
            go_simp
            exact hK _ _ rfl HC.out (Below.refl _ _)
          · refine Reg5.Obl.early rfl rfl ?_
            rintro a w1 hC hx hd K hK
            have HC := Lib.hid hC
            clear hC
            have t32 : a.tmps[32]?.getD undef = .pointer (some ⟨bt, ot + k, none⟩) := Reg.slot_val (hd 15 (by kernel_rfl) 32 rfl)
            have y0 := cell_below HC.out cr
            go_simp
            exact hK _ _ rfl HC.out (Below.refl _ _)
          · refine Reg5.Obl.early rfl rfl ?_
            rintro a w1 hC hx hd K hK
            have HC := Lib.hid hC
            clear hC
            have t33 : a.tmps[33]?.getD undef = .slice (some ⟨br, orr, none⟩) 2 q1 := Reg.slot_val (hd 16 (by kernel_rfl) 33 rfl)
            go_simp
            exact hK _ _ rfl HC.out (Below.refl _ _)
          · refine Reg5.Obl.early rfl rfl ?_
            rintro a w1 hC hx hd K hK
            have HC := Lib.hid hC
            clear hC
            have t34 : a.tmps[34]?.getD undef = .pointer (some ⟨br, orr + 1, none⟩) := Reg.slot_val (hd 17 (by kernel_rfl) 34 rfl)
            have y0 := cell_below HC.out e1
            go_simp
            exact hK _ _ rfl HC.out (Below.refl _ _)
          · refine Reg5.Obl.early rfl rfl ?_
            rintro a w1 hC hx hd K hK
            have HC := Lib.hid hC
            clear hC
            have t29 : a.tmps[29]?.getD undef = .slice (some ⟨bp, op, none⟩) pl pc := Reg.slot_val (hd 12 (by kernel_rfl) 29 rfl)
            have t35 : a.tmps[35]?.getD undef = .int .i64 (n : Int) := Reg.slot_val (hd 18 (by kernel_rfl) 35 rfl)
            go_simp
            exact hK _ _ rfl HC.out (Below.refl _ _)
          · refine Reg5.Obl.early rfl rfl ?_
            rintro a w1 hC hx hd K hK
            have HC := Lib.hid hC
            clear hC
            have t36 : a.tmps[36]?.getD undef = .pointer (some ⟨bp, op + n * 3, none⟩) := Reg.slot_val (hd 19 (by kernel_rfl) 36 rfl)
            have y0 := cell_below HC.out d10
            have y1 := cell_below HC.out d11
            have y2 := cell_below HC.out d12
            go_simp
            exact hK _ _ rfl HC.out (Below.refl _ _)
          · refine Reg5.Obl.early rfl rfl ?_
            rintro a w1 hC hx hd K hK
            have HC := Lib.hid hC
            clear hC
            have t27 : a.tmps[27]?.getD undef = vv p0 q0 s0 := Reg.slot_val (hd 10 (by kernel_rfl) 27 rfl)
            have t37 : a.tmps[37]?.getD undef = vv p1 q1' s1 := Reg.slot_val (hd 20 (by kernel_rfl) 37 rfl)
            go_simp
            refine (l01Less _ _ _ _ _ _ w1 _ _ _ _ _ _ f00 f01 f02 f10 f11 f12).mono ?_
            rintro en w2' ⟨ra, rb, rc, rfl, ha, hb, hc, hB2⟩
            exact hK _ _ ⟨ra, rb, rc, rfl, ha, hb, hc⟩ (HC.out.trans (hB2.mono HC.out.size)) hB2
          · refine Reg5.Obl.early rfl rfl ?_
            rintro a w1 hC hx hd K hK
            have HC := Lib.hid hC
            clear hC
            obtain ⟨x, y, z, g38, h1, h2, h3⟩ := hd 21 (by kernel_rfl) 38 rfl
            have t38 := Reg.slot_val g38
            clear g38
            go_simp
            refine (l01Long _ _ _ w1 _ _ _ h1 h2 h3).mono ?_
            rintro en w2' ⟨r, rfl, hr, hB2⟩
            exact hK _ _ ⟨r, rfl, hr⟩ (HC.out.trans (hB2.mono HC.out.size)) hB2
          · refine Reg5.Obl.early rfl rfl ?_
            rintro a w1 hC hx hd K hK
            have HC := Lib.hid hC
            clear hC
            obtain ⟨x, g39, h1⟩ := hd 22 (by kernel_rfl) 39 rfl
            have t39 := Reg.slot_val g39
            clear g39
            go_simp
            exact hK _ _ ⟨w1.heap.size, x, rfl, by simp, h1⟩ (HC.out.alloc HC.out.size _) ((Below.refl _ _).alloc (Nat.le_refl _) _)
          · refine Reg5.Obl.mid rfl rfl ?_
            rintro a w1 hC hx hd K hK
            have t17 : a.eval (.tmp 17) = u5 := hd 0 (by kernel_rfl) 17 rfl
            obtain ⟨b, x, t40, hc, hx'⟩ := hd 23 (by kernel_rfl) 40 rfl
            obtain ⟨zs, hr, hzl, hzf⟩ := HO.out.up hC
            refine wp_append_own w1 _ _ 32 rfl w2.heap.size 31 i0 (.float .f32 0) 1 4 Try.underlying32 hi hz0 hz1 hz2 rfl (by decide) u5 k (zs.map (Value.float .f32)) t17 hr ⟨b, 0, none⟩ 1 1 [.float .f32 x] t40 rfl (fun j u' hj => ?_) (fun u' hu' => ?_) (by have := HLK.out; have := HLEN.out; unfold maxLen; omega) (by have := HLK.out; have := HLEN.out; omega) (Nat.le_trans HC'.out.size hC.size) ?_
            · match j, hj with
              | 0, hj => simp at hj; subst hj; rw [addr_add']; exact hc
            · simp at hu'; subst hu'; rfl
            · intro v' w2' ho hg _
              have hsz : w2.heap.size ≤ w1.heap.size := Nat.le_trans HC'.out.size hC.size
              refine hK _ _ ⟨zs ++ [x], by simpa using ho, by simp [hzl], fun j hj => ?_⟩ ((HC'.out.trans (hC.mono HC'.out.size)).grown hg hsz (fun q hq => (hr.lt q hq).1))
              by_cases hjk : j = k
              · have : (zs ++ [x]).getD j 0 = x := by simp [List.getD, hjk, ← hzl]
                rw [this, hjk]
                show FV .f32 x (longOf cs (ps.getD k (0, 0)))
                rw [HLO.out]
                exact hx'
              · have hjz : j < zs.length := by omega
                have : (zs ++ [x]).getD j 0 = zs.getD j 0 := by simp [List.getD, List.getElem?_append_left hjz]
                rw [this]; exact hzf j (by omega)
          · refine Reg5.Obl.late rfl ?_
            rintro a w1 hD1 hx hd K hK
            have HC := Lib.hid hD1
            clear hD1
            have g := hd 24 (by kernel_rfl) (by omega) 41 rfl
            obtain ⟨u, hu⟩ : ∃ u, u = a.eval (.tmp 41) := ⟨_, rfl⟩
            have t41 : a.tmps[41]?.getD undef = u := Reg.slot_val hu.symm
            have g' : OwnC w2.heap.size w1 u (k + 1) (fun k => longOf cs (ps.getD k (0, 0))) := by rw [hu]; exact g
            have G := Lib.hid g'
            clear g hu g'
            go_simp
            exact hK _ _ (fun _ => G.out) (fun h => by cases h) (fun _ => HC.out) (fun _ => rfl)
        · rintro f wz hDR hT
          obtain ⟨hDD, hR⟩ := hDR (by decide)
          have g5 := hR 25 5 (by omega) rfl
          clear hDR
          have HG := Lib.hid g5
          have HDD := Lib.hid hDD
          have hlen4 := HLEN.out
          clear g5 hDD hR hT
          simp only [Reg.mixL]
          go_wp2
          go_roundw
          case rel => exact ⟨k + 1, by omega, by go_num, HG.out, HDD.out⟩
          case measure => simp [intOf]; omega
      · obtain rfl : k = ps.length := by omega
        have hO2 : OwnC w2.heap.size wr u5 ps.length (fun k => (ps.map (longOf cs)).getD k none) := by
          obtain ⟨zs, h1, h2, h3⟩ := hO
          exact ⟨zs, h1, h2, fun j hj => by simpa [List.getD, hj] using h3 j hj⟩
        obtain ⟨ga, gc, rfl, hI⟩ := hO2.is (by simp)
        have HI2 := Lib.hid hI
        clear hA hO hB hB' hO2 hI HX HI HP HIM HWF
        go_wp2
        go_ret2
        exact ⟨⟨ga, gc, by simp, by simpa using HI2.out⟩, HB.out⟩
end Go.Proofs.Ytmbekamnogbgaaa


/-
The triangles that have a place: what the program asks of each. Conditions: none.
-/
namespace Go.Proofs.Ytmbekamnogbgaaa
open Go Fk Go.RowKit
set_option linter.unusedVariables false
set_option maxRecDepth 8000

end Go.Proofs.Ytmbekamnogbgaaa

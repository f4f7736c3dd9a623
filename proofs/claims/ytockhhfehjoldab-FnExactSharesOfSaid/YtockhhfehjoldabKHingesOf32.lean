/-
Texts in one: what HingesOf stands on, part 32. Conditions: those of each.
-/
import Derived.Test.YtockhhfehjoldabKHingesOf31
import Derived.Test.YtockhhfehjoldabRows
import Derived.WalkKit
import Derived.ProofKit
import Derived.OpenShut
import Derived.ShutString
import Derived.ChangeOld
import Derived.Below
import Derived.Lib.SmallJoins

/-
The triangles of a place: what the program and its model return. Conditions: none beyond that the mesh lies in memory.
-/
namespace Go.Proofs.Ytockhhfehjoldab
open Go Fk Go.RowKit
set_option linter.unusedVariables false
set_option maxRecDepth 8000

theorem tri_parts' {n : Nat} {t : List Int} (h : triB n t = true) : t.length = 3 ∧ (∀ i, i < 3 → 0 ≤ t.getD i 0 ∧ (t.getD i 0).toNat < n) := by
  unfold triB at h
  simp only [Bool.and_eq_true, decide_eq_true_eq] at h
  obtain ⟨⟨h3, ⟨h0, h1⟩, h2⟩, _⟩ := h
  refine ⟨h3, fun i hi => ?_⟩
  have a0 := of_decide_eq_true h0
  have a1 := of_decide_eq_true h1
  have a2 := of_decide_eq_true h2
  have : i = 0 ∨ i = 1 ∨ i = 2 := by omega
  rcases this with rfl | rfl | rfl <;> omega
theorem valid_row' {cs : List C3} {ts : List (List Int)} {k : Nat} (h : validB cs ts = true) (hk : k < ts.length) : triB cs.length (ts.getD k []) = true := by
  unfold validB at h
  simp only [Bool.and_eq_true] at h
  have := List.all_eq_true.1 h.2 (ts[k]) (List.getElem_mem hk)
  simpa [List.getD, hk] using this
/-- A corner of a triangle of a valid mesh lies in memory. -/

theorem valid_len' {cs : List C3} {ts : List (List Int)} (h : validB cs ts = true) : ts.length ≤ 128 := by
  unfold validB at h; simp at h; exact h.1.2
theorem rows3 {cs : List C3} {ts : List (List Int)} (h : validB cs ts = true) : ∀ k, k < ts.length → (ts.getD k []).length = 3 := fun k hk => (tri_parts' (valid_row' h hk)).1
/-- What is answered: the triangles of a place, if the mesh is valid and has it. -/
def ofB (cs : List C3) (ts : List (List Int)) (i : Int) : Bool := validB cs ts && inB cs.length i
def ofL (cs : List C3) (ts : List (List Int)) (i : Int) : List Int := bif ofB cs ts i then atL ts i i ts.length else []
end Go.Proofs.Ytockhhfehjoldab


/-
Lists of integers that a function made: they may be marked. Conditions: none.
-/
namespace Go.Proofs.Ytockhhfehjoldab
open Go Fk Go.RowKit
set_option linter.unusedVariables false
set_option maxRecDepth 8000

theorem owns_list {w : World} {base : Nat} {v : Value} {L : List Int} (h : w.ownsRow base 2 1 v L.length (L.map (Value.int .i64))) (hL : ∀ z ∈ L, (Lit.int .i64 z).wf = true) :
    ∃ a cap, v = .slice a L.length cap ∧ IsIs w a L.length cap L ∧ Lst base w.heap.size w a L.length := by
  have h' := h
  obtain ⟨h1, h2⟩ := h
  rcases h2 with ⟨rfl, hn⟩ | ⟨g, cap, cur, rfl, hb, hh, hc1, hc2, hs, ht⟩
  · refine ⟨none, 0, by rw [hn], ⟨rfl, by omega, by unfold maxLen; omega, hL, fun _ => ⟨hn, rfl⟩, fun x hx => by cases hx⟩, .inl ⟨rfl, hn⟩⟩
  · have hg := h'.lt g rfl
    have hcell : ∀ j, j < L.length → w.cell? ⟨g, j, none⟩ = some (.int .i64 (L.getD j 0)) := by
      intro j hj
      rw [h'.cellAt j (by omega)]
      simp [List.getD, hj]
    refine ⟨_, cap, rfl, ⟨rfl, hc1, hc2, hL, by simp, fun x hx i hi => ?_⟩, .inr ⟨g, rfl, hb, hg.2, hg.2, fun j hj => ⟨⟨_, by rw [Nat.zero_add]; exact hcell j hj⟩, by rw [Nat.zero_add]; exact h'.frozenAt j⟩⟩⟩
    cases hx
    rw [addr_add', Nat.zero_add]; exact hcell i hi
theorem atL_wf (ts : List (List Int)) (p q : Int) (k : Nat) (hk : k ≤ 128) : ∀ z ∈ atL ts p q k, (Lit.int .i64 z).wf = true := by
  induction k with
  | zero => simp [atL]
  | succ k ih =>
    intro z hz
    unfold atL at hz
    rcases List.mem_append.1 hz with h | h
    · exact ih (by omega) z h
    · cases hb : (hasB (ts.getD k []) p && hasB (ts.getD k []) q) <;> rw [hb] at h <;> simp at h
      subst h
      show (decide (IntKind.i64.min ≤ (k : Int)) && decide ((k : Int) ≤ IntKind.i64.max)) = true
      rw [show IntKind.i64.min = -9223372036854775808 by decide, show IntKind.i64.max = 9223372036854775807 by decide]
      simp; omega
/-- The marks that were written are there. -/
def Mrk (w : World) (a : Option Addr) (n : Nat) : Prop := (a = none → n = 0) ∧ ∀ b o s, a = some ⟨b, o, s⟩ → s = none ∧ ∀ j, j < n → w.cell? ⟨b, o + j, none⟩ = some (.int .i64 ((1 + j : Nat) : Int))
theorem mark_any (lo hi : Nat) (a : Option Addr) (n cap : Nat) (w : World) (h : Lst lo hi w a n) (hn : n ≤ 1000000) :
    Calls Try.prog 22 #[.slice a n cap, .int .i64 1] w fun e w' => e = .returned (.int .i64 ((1 + n : Nat) : Int)) ∧ Mrk w' a n ∧ Mark lo hi w w' := by
  rcases h with ⟨rfl, rfl⟩ | ⟨b, rfl, hown⟩
  · go_enter Try.func22, Try.ntmps22
    go_wp2
    refine wp_loop_rounds 1 ?_
    rw [rounds_succ]
    go_wp2
    go_ret
    exact ⟨rfl, ⟨fun _ => rfl, fun _ _ _ h => by cases h⟩, Mark.refl _ _ _⟩
  · refine (laws_markInt64S lo hi b 0 n cap 1 w hown (by omega)).mono ?_
    rintro e w' ⟨he, hd, _, hM⟩
    exact ⟨he, ⟨fun h => by (cases h), fun b' o s h => by cases h; exact ⟨rfl, hd⟩⟩, hM⟩
theorem held_any (a : Option Addr) (n cap : Nat) (w : World) (h : Mrk w a n) (hn : n ≤ 1000000) :
    Calls Try.prog 23 #[.slice a n cap, .int .i64 1] w fun e w' => e = .returned (.int .i64 ((1 + n : Nat) : Int)) ∧ w' = w := by
  cases a with
  | none =>
    obtain rfl := h.1 rfl
    go_enter Try.func23, Try.ntmps23
    go_wp2
    refine wp_loop_rounds 1 ?_
    rw [rounds_succ]
    go_wp2
    go_ret
    exact ⟨rfl, by first | rfl | trivial⟩
  | some x =>
    obtain ⟨b, o, s⟩ := x
    obtain ⟨rfl, hd⟩ := h.2 b o s rfl
    exact laws_heldInt64S b o n cap 1 w hd (by omega)
theorem Mrk.below {w w' : World} {a : Option Addr} {n : Nat} (h : Mrk w a n) (hB : Below w.heap.size w w') : Mrk w' a n :=
  ⟨h.1, fun b o s e => ⟨(h.2 b o s e).1, fun j hj => cell_below hB ((h.2 b o s e).2 j hj)⟩⟩
/-- A list outside the blocks that are marked is as it was. -/
theorem is_mark {lo hi lo' hi' : Nat} {w0 w w' : World} {a : Option Addr} {n cap : Nat} {L : List Int} (h : IsIs w a n cap L) (hl : Lst lo' hi' w0 a n) (hM : Mark lo hi w w') (ho : hi' ≤ lo ∨ hi ≤ lo') : IsIs w' a n cap L := by
  obtain ⟨h1, h2, h3, h4, h5, h6⟩ := h
  refine ⟨h1, h2, h3, h4, h5, fun x hx i hi => ?_⟩
  rcases hl with ⟨e, _⟩ | ⟨b, e, hown⟩
  · rw [e] at hx; cases hx
  · rw [e] at hx; cases hx
    have := h6 _ e i hi
    rw [addr_add'] at this ⊢
    have u1 := hown.1
    have u2 := hown.2.1
    exact hM.cell (by omega) this
end Go.Proofs.Ytockhhfehjoldab


/-
The hinges of a mesh: the law returns true. Conditions: none beyond that the mesh lies in memory.
-/
namespace Go.Proofs.Ytockhhfehjoldab
open Go Fk Go.RowKit
set_option linter.unusedVariables false
set_option maxRecDepth 16000

set_option maxHeartbeats 4000000 in
theorem FnExactHingesOf_law (pa ta : Option Addr) (pl pc tl tc : Nat) (cs : List C3) (ts : List (List Int)) (w : World) (hp : IsVs w pa pl pc cs) (ht : IsTs w ta tl tc ts) :
    Calls Try.prog 8 #[.agg #[.slice pa pl pc, .slice ta tl tc]] w fun e w' => e = .returned (.bool true) ∧ Below w.heap.size w w' := by
  have hpl := hp.1
  have htl := ht.1
  have HP := Lib.hid hp
  have HT := Lib.hid ht
  have HPL := Lib.hid hpl
  have HTL := Lib.hid htl
  clear hp ht hpl htl
  have HSP := Lib.hid (fun (pa ta : Option Addr) (pc tc : Nat) (w : World) (hp : IsVs w pa pl pc cs) (ht : IsTs w ta tl tc ts) => spec_HingesOf pa ta pl pc tl tc cs ts w hp ht)
  have HIM := Lib.hid (fun (pa ta : Option Addr) (pc tc : Nat) (w : World) (hp : IsVs w pa pl pc cs) (ht : IsTs w ta tl tc ts) => impl_HingesOf pa ta pl pc tl tc cs ts w hp ht)
  have hll := hgT_len (cs := cs) (ts := ts)
  generalize hgT cs ts = L at *
  generalize validB cs ts = nb at *
  go_enter Try.func8, Try.ntmps8
  go_wp2_with fail
  have hB0 : Below w.heap.size w (w.alloc (.cells #[.slice pa pl pc, .slice ta tl tc] 30)) := (Below.refl _ _).alloc (Nat.le_refl _) _
  have a0 : (w.alloc (.cells #[.slice pa pl pc, .slice ta tl tc] 30)).cell? ⟨w.heap.size, 0, none⟩ = some (.slice pa pl pc) := by go_simp
  have a1 : (w.alloc (.cells #[.slice pa pl pc, .slice ta tl tc] 30)).cell? ⟨w.heap.size, 1, none⟩ = some (.slice ta tl tc) := by go_simp
  generalize w.alloc (.cells #[.slice pa pl pc, .slice ta tl tc] 30) = W at *
  refine (laws_szMesh _ _ _ _ _ _ _ _ 1048576 _ (HP.out.below hB0) (HT.out.below hB0) (by decide) (by decide)).mono ?_
  rintro e w1 ⟨⟨r, rfl, hr⟩, hB1⟩
  replace a0 := cell_below hB1 a0
  replace a1 := cell_below hB1 a1
  replace hB1 : Below w.heap.size w w1 := hB0.trans (hB1.mono hB0.size)
  clear hB0
  rcases hr with rfl | ⟨hr0, s1, s2, s3⟩
  · have HB := Lib.hid hB1
    clear hB1
    go_wp2
    go_ret
    exact ⟨rfl, HB.out⟩
  · have hS : Small cs ts := ⟨by rw [HPL.out]; exact s1, by rw [HTL.out]; exact s2, by rw [HTL.out]; exact s3⟩
    have HS := Lib.hid hS
    have HB1 := Lib.hid hB1
    clear s1 s2 s3 hS hB1
    go_wp2_with fail
    refine (laws_toMesh _ _ _ _ _ _ _ _ _ (HP.out.below HB1.out) (HT.out.below HB1.out) HS.out).mono ?_
    rintro e w2 ⟨⟨b, b', rfl, hb, hb', hV2, hT2⟩, hB2⟩
    replace a0 := cell_below hB2 a0
    replace a1 := cell_below hB2 a1
    have HB2 := Lib.hid (HB1.out.trans (hB2.mono HB1.out.size))
    have HV2 := Lib.hid hV2
    have HT2 := Lib.hid hT2
    clear hB2 hV2 hT2 hb hb'
    go_wp2_with fail
    refine (HSP.out _ _ _ _ _ HV2.out HT2.out).mono ?_
    rintro e w3 ⟨⟨sa, sc, rfl, hsi⟩, hB3⟩
    have SI := Lib.hid hsi
    have SX := Lib.hid (Below.refl w3.heap.size w3)
    replace a0 := cell_below hB3 a0
    replace a1 := cell_below hB3 a1
    have LT3 := Lib.hid (World.block_lt_of_cell? _ _ a0)
    have HB3 := Lib.hid (HB2.out.trans (hB3.mono HB2.out.size))
    clear hB3 hsi
    generalize hn : L.length = n at *
    have HLN := Lib.hid hn
    clear hn
    go_wp2_with fail
    refine (laws_toMesh' _ _ _ _ _ _ _ _ _ (HP.out.below HB3.out) (HT.out.below HB3.out) HS.out).mono ?_
    rintro e w4 ⟨⟨c, c', rfl, hc, hc', hV4, hT4, hi4, hi4', hO4⟩, hB4⟩
    replace a0 := cell_below hB4 a0
    replace a1 := cell_below hB4 a1
    have SX := Lib.hid (SX.out.trans (hB4.mono SX.out.size))
    have HB4 := Lib.hid (HB3.out.trans (hB4.mono HB3.out.size))
    have HV4 := Lib.hid hV4
    have HT4 := Lib.hid hT4
    have HO4 := Lib.hid hO4
    have HI4 := Lib.hid hi4'
    have HS34 := Lib.hid hB4.size
    clear hB4 hV4 hT4 hc hc' hO4 hi4'
    go_wp2_with fail
    have hX : Below w4.heap.size w4 (w4.alloc (.cells #[.slice (some ⟨c, 0, none⟩) pl pl, .slice (some ⟨c', 0, none⟩) tl tl] 44)) := (Below.refl _ _).alloc (Nat.le_refl _) _
    have x0 : (w4.alloc (.cells #[.slice (some ⟨c, 0, none⟩) pl pl, .slice (some ⟨c', 0, none⟩) tl tl] 44)).cell? ⟨w4.heap.size, 0, none⟩ = some (.slice (some ⟨c, 0, none⟩) pl pl) := by go_simp
    have x1 : (w4.alloc (.cells #[.slice (some ⟨c, 0, none⟩) pl pl, .slice (some ⟨c', 0, none⟩) tl tl] 44)).cell? ⟨w4.heap.size, 1, none⟩ = some (.slice (some ⟨c', 0, none⟩) tl tl) := by go_simp
    replace a0 := cell_below hX a0
    replace a1 := cell_below hX a1
    have SX := Lib.hid (SX.out.trans (hX.mono SX.out.size))
    have HV4 := Lib.hid (HV4.out.below hX)
    have HT4 := Lib.hid (HT4.out.below hX)
    have HO4 := Lib.hid (HO4.out.below hX)
    have HB4 := Lib.hid (HB4.out.trans (hX.mono HB4.out.size))
    have HXS := Lib.hid hX.size
    generalize (w4.alloc (.cells #[.slice (some ⟨c, 0, none⟩) pl pl, .slice (some ⟨c', 0, none⟩) tl tl] 44)) = W4 at *
    clear hX
    generalize w4.heap.size = X at *
    go_wp2_with fail
    refine (HIM.out _ _ _ _ _ HV4.out HT4.out).mono ?_
    rintro e w5 ⟨⟨ga, gc, F, rfl, hgi, hgl⟩, hB5⟩
    have GI := Lib.hid hgi
    have GL := Lib.hid hgl
    have GL0 := Lib.hid hgl
    replace a0 := cell_below hB5 a0
    replace a1 := cell_below hB5 a1
    replace x0 := cell_below hB5 x0
    replace x1 := cell_below hB5 x1
    have SX := Lib.hid (SX.out.trans (hB5.mono SX.out.size))
    have HV5 := Lib.hid (HV4.out.below hB5)
    have HT5 := Lib.hid (HT4.out.below hB5)
    have HO5 := Lib.hid (HO4.out.below hB5)
    have HB5 := Lib.hid (HB4.out.trans (hB5.mono HB4.out.size))
    have HS45 := Lib.hid hB5.size
    clear hB5 hgi hgl
    go_wp2_with fail
    refine (laws_eqInt64SS _ _ _ _ _ _ _ GI.out (SI.out.below SX.out)).mono ?_
    rintro en w6 ⟨rfl, n5, hw6⟩
    have hB6 : Below w5.heap.size w5 w6 := by rw [hw6]; exact below_drewN (Below.refl _ _) _
    replace a0 := cell_below hB6 a0
    replace a1 := cell_below hB6 a1
    replace x0 := cell_below hB6 x0
    replace x1 := cell_below hB6 x1
    have SX := Lib.hid (SX.out.trans (hB6.mono SX.out.size))
    have GI := Lib.hid (GI.out.below hB6)
    have GL := Lib.hid (GL.out.below hB6)
    have HO6 := Lib.hid (HO5.out.below hB6)
    have HV6 := Lib.hid (HV5.out.below hB6)
    have HT6 := Lib.hid (HT5.out.below hB6)
    have HB6 := Lib.hid (HB5.out.trans (hB6.mono HB5.out.size))
    have HS56 := Lib.hid hB6.size
    clear hB6 hw6
    go_wp2_with fail
    refine Reg.wp_region_mix (C := fun w' => Below w6.heap.size w6 w') (G := fun w1 w2 => Below w1.heap.size w1 w2) (R := fun i v w' => match i with | 0 => v = .agg #[.slice (some ⟨c, 0, none⟩) pl pl, .slice (some ⟨c', 0, none⟩) tl tl] | 1 => v = .agg #[.slice pa pl pc, .slice ta tl tc] | 2 => ∃ d d', v = .agg #[.slice (some ⟨d, 0, none⟩) pl pl, .slice (some ⟨d', 0, none⟩) tl tl] ∧ IsVs w' (some ⟨d, 0, none⟩) pl pl cs ∧ IsTs w' (some ⟨d', 0, none⟩) tl tl ts | 3 => v = .bool true | 4 => v = .bool false | _ => True) (T := fun _ _ _ => True) [false, false, false, false, false, false, false, false, false, false, false, false, false, false, false, false, false, false, false, false, false, false, false, false, false, false, false, false, false, false, false, false, false, false, false, false, false, false, false, false, false, true, true, true, true, true, false, false, false, false, false, false, false, false, false, false, false, false, false, false, false, false, false, false, false, false, false, false, false, false, false, false, false, false, false, false, false, false, false, false, false, false, false, false, false, false, false, false, false, false, false, false, false, false, false, false]
      (by kernel_rfl) (by kernel_rfl) (by kernel_rfl) ?_ (below_drewN (Below.refl _ _) 1) ?_ ?_
    · intro j v w1 w2 _ hG hR
      match j with
      | 0 => exact hR
      | 1 => exact hR
      | 2 => obtain ⟨d, d', e, h1, h2⟩ := hR; exact ⟨d, d', e, h1.below hG, h2.below hG⟩
      | 3 => exact hR
      | 4 => exact hR
      | _ + 5 => trivial
    · refine ⟨Reg.Obl.mk ?_, Reg.Obl.mk ?_, Reg.Obl.mk ?_, Reg.Obl.mk ?_, Reg.Obl.mk ?_, trivial⟩
      · rintro a w1 hB hx hd K hK
        have t6 : a.tmps[6]?.getD undef = .pointer (some ⟨X, 0, none⟩) := Reg.slot_val (hx 6 (by kernel_rfl))
        have y0 := cell_below hB x0
        have y1 := cell_below hB x1
        go_simp
        exact hK _ _ (fun _ => rfl) (fun h => by cases h) hB (Below.refl _ _)
      · rintro a w1 hB hx hd K hK
        have t1 : a.tmps[1]?.getD undef = .pointer (some ⟨w.heap.size, 0, none⟩) := Reg.slot_val (hx 1 (by kernel_rfl))
        have y0 := cell_below hB a0
        have y1 := cell_below hB a1
        go_simp
        exact hK _ _ (fun _ => rfl) (fun h => by cases h) hB (Below.refl _ _)
      · rintro a w1 hB hx hd K hK
        have t42 : a.tmps[42]?.getD undef = .agg #[.slice pa pl pc, .slice ta tl tc] := Reg.slot_val (hd 1 (by kernel_rfl) 42 rfl)
        go_simp
        have hW1 : Below w.heap.size w w1 := HB6.out.trans (hB.mono HB6.out.size)
        refine (laws_toMesh _ _ _ _ _ _ _ _ _ (HP.out.below hW1) (HT.out.below hW1) HS.out).mono ?_
        rintro en w2 ⟨⟨d, d', rfl, hd1, hd2, hV, hT⟩, hB2⟩
        exact hK _ _ (fun _ => ⟨d, d', rfl, hV, hT⟩) (fun h => by cases h) (hB.trans (hB2.mono hB.size)) hB2
      · rintro a w1 hB hx hd K hK
        have t41 : a.tmps[41]?.getD undef = .agg #[.slice (some ⟨c, 0, none⟩) pl pl, .slice (some ⟨c', 0, none⟩) tl tl] := Reg.slot_val (hd 0 (by kernel_rfl) 41 rfl)
        obtain ⟨e, e', g2, hV, hT⟩ := hd 2 (by kernel_rfl) 43 rfl
        have t43 := Reg.slot_val g2
        clear g2
        have HVe := Lib.hid hV
        have HTe := Lib.hid hT
        clear hV hT
        go_simp
        refine (laws_eqMesh _ _ _ _ _ _ _ _ _ _ cs ts _ (HV6.out.below hB) (HT6.out.below hB) HVe.out HTe.out).mono ?_
        rintro en w2 ⟨rfl, hB2⟩
        exact hK _ _ (fun _ => rfl) (fun h => by cases h) (hB.trans (hB2.mono hB.size)) hB2
      · rintro a w1 hB hx hd K hK
        have t44 : a.tmps[44]?.getD undef = .bool true := Reg.slot_val (hd 3 (by kernel_rfl) 44 rfl)
        go_simp
        exact hK _ _ (fun _ => rfl) (fun h => by cases h) hB (Below.refl _ _)
    · rintro f wz hB6 hd hT
      have g45 : f 45 = .bool false := hd 4 45 rfl
      simp only [Reg.mixL, g45]
      have HS6z := Lib.hid hB6.size
      have y0 := cell_below hB6 x0
      have y1 := cell_below hB6 x1
      have b0 := cell_below hB6 a0
      have b1 := cell_below hB6 a1
      have SXz := Lib.hid (SX.out.trans (hB6.mono SX.out.size))
      have GIz := Lib.hid (GI.out.below hB6)
      have GLz := Lib.hid (GL.out.below hB6)
      have HOz := Lib.hid (HO6.out.below hB6)
      have HBz := Lib.hid (HB6.out.trans (hB6.mono HB6.out.size))
      clear hB6 x0 x1 a0 a1 hd hT
      have lo3 : w.heap.size < w3.heap.size := LT3.out
      have sz34 := HS34.out
      have sz45 := HS45.out
      have szx := HXS.out
      have sz56 := HS56.out
      have sz6z := HS6z.out
      have szi := HI4.out
      have SZ := Lib.hid (And.intro lo3 (And.intro sz34 (And.intro sz45 (And.intro szx (And.intro sz56 (And.intro sz6z szi))))))
      have SM := Lib.hid HS.out
      clear sz34 sz45 szx sz56 sz6z szi lo3
      go_wp2_with fail
      refine (laws_markMesh w3.heap.size hi4 c 0 c' 0 pl pl tl tl ts 1 wz HOz.out (by have h := SZ.out; omega) (by rw [← HPL.out]; exact SM.out.1) (by rw [← HTL.out]; exact SM.out.2.1) (fun j hj => SM.out.2.2 j (by rw [HTL.out]; exact hj)) (by decide)).mono ?_
      rintro e w7 ⟨z, rfl, hM⟩
      have hz0 : ¬ ((z : Int) < 0) := by omega
      have a0 := hM.cell (.inl LT3.out) b0
      have a1 := hM.cell (.inl LT3.out) b1
      have SX7 := Lib.hid (SXz.out.trans (hM.below.mono (Nat.le_refl _)))
      have GI7 := Lib.hid (ts_mark4 GIz.out GLz.out hM (.inr (by have h := SZ.out; omega)))
      have GL7 := Lib.hid (GLz.out.mark hM (fun R hR i v hv => hM.cell (.inr (Nat.le_trans (by have h := SZ.out; omega) (GLz.out.lo hR))) hv))
      have HB7 := Lib.hid (HBz.out.trans (hM.below.mono (by have h := SZ.out; omega)))
      clear hM b0 b1 y0 y1
      go_wp2_with fail
      refine (laws_eqInt64SS _ _ _ _ _ _ _ GI7.out (SI.out.below SX7.out)).mono ?_
      rintro en w8 ⟨rfl, n8, hw8⟩
      have hB8 : Below w7.heap.size w7 w8 := by rw [hw8]; exact below_drewN (Below.refl _ _) _
      replace a0 := cell_below hB8 a0
      replace a1 := cell_below hB8 a1
      have SX8 := Lib.hid (SX7.out.trans (hB8.mono SX7.out.size))
      have GL8 := Lib.hid (GL7.out.below hB8)
      have HB8 := Lib.hid (HB7.out.trans (hB8.mono HB7.out.size))
      clear hB8 hw8
      go_wp2_with fail
      refine (flat_any4 W4.heap.size w5.heap.size ga n gc F 1 w8 GL8.out (by omega) (by omega)).mono ?_
      rintro e w9 ⟨rfl, hmk, _, hM9⟩
      have lt4 : w.heap.size < W4.heap.size := by have h := SZ.out; omega
      replace a0 := hM9.cell (.inl lt4) a0
      replace a1 := hM9.cell (.inl lt4) a1
      have SX9 := Lib.hid (SX8.out.trans (hM9.below.mono (by have h := SZ.out; omega)))
      have HB9 := Lib.hid (HB8.out.trans (hM9.below.mono (by omega)))
      have HMK := Lib.hid (show MrkR4 w9 ga n F from hmk)
      clear hmk hM9 lt4
      go_wp2_with fail
      refine (flat_held4 ga n gc F 1 w9 HMK.out (by omega) (by omega)).mono ?_
      rintro e w10 ⟨rfl, hw10⟩
      rw [hw10]
      clear hw10
      go_wp2_with fail
      refine (laws_toMesh _ _ _ _ _ _ _ _ _ (HP.out.below HB9.out) (HT.out.below HB9.out) HS.out).mono ?_
      rintro e w11 ⟨⟨d, d', rfl, hd, hd', hV11, hT11⟩, hB11⟩
      replace a0 := cell_below hB11 a0
      replace a1 := cell_below hB11 a1
      have SX11 := Lib.hid (SX9.out.trans (hB11.mono SX9.out.size))
      have MK11 := Lib.hid (HMK.out.below hB11)
      have HB11 := Lib.hid (HB9.out.trans (hB11.mono HB9.out.size))
      have HV11 := Lib.hid hV11
      have HT11 := Lib.hid hT11
      clear hB11 hV11 hT11 hd hd'
      go_wp2_with fail
      refine (HIM.out _ _ _ _ _ HV11.out HT11.out).mono ?_
      rintro e w12 ⟨⟨ha, hc, F', rfl, hhi, _⟩, hB12⟩
      have HI12 := Lib.hid hhi
      have SX12 := Lib.hid (SX11.out.trans (hB12.mono SX11.out.size))
      have MK12 := Lib.hid (MK11.out.below hB12)
      have HB12 := Lib.hid (HB11.out.trans (hB12.mono HB11.out.size))
      clear hB12 hhi a0 a1
      go_wp2_with fail
      refine (laws_eqInt64SS _ _ _ _ _ _ _ HI12.out (SI.out.below SX12.out)).mono ?_
      rintro en w13 ⟨rfl, n13, hw13⟩
      have hB13 : Below w12.heap.size w12 w13 := by rw [hw13]; exact below_drewN (Below.refl _ _) _
      have MK13 := Lib.hid (MK12.out.below hB13)
      have HB13 := Lib.hid (HB12.out.trans (hB13.mono HB12.out.size))
      clear hB13 hw13
      go_wp2_with fail
      refine (flat_held4 ga n gc F 1 w13 MK13.out (by omega) (by omega)).mono ?_
      rintro e w14 ⟨rfl, hw14⟩
      rw [hw14]
      clear hw14
      go_wp2
      go_ret
      exact ⟨rfl, HB13.out⟩
end Go.Proofs.Ytockhhfehjoldab


/-
The law FnExactHingesOf holds at every input: its frame. Conditions: none.
-/
namespace Go.Proofs.Ytockhhfehjoldab.fnExactHingesOfDone
open Go.ChangeShapes Go.WideShapes Go.ChangeAt Go.RowKit
open Go.ChangeMaps (open_string shut_string)
set_option linter.unusedVariables false

theorem own : ownKnob Try.prog.godebug = none := by kernel_rfl
theorem laidOut : laidOutB Try.prog = true := by kernel_rfl

set_option maxRecDepth 100000 in
theorem lifted (os : Os) (started : os.Started) (H : Type) (enc : TypeId × Value → H) :
    ReturnsInHanded {} Try.checked os 8 .any (Rows.fnExactHingesOfSpec.pre6 enc Try.prog Try.f8 Rows.fnExactHingesOfRow.domain false) (Rows.fnExactHingesOfSpec.post enc Try.prog Try.f8 false true false false) := by
  refine returnsInHanded_of_change (C := Try.checked) own started (by kernel_rfl) Try.func8
    (ChangeSpec.witness6 (enc := enc) (C := Try.checked) false ⟨#[], #[.agg #[.slice none 0 0, .slice none 0 0]], []⟩ 8 (by kernel_rfl) (by kernel_rfl) (by kernel_rfl) (by kernel_rfl)) ?_
  intro W base args ds gs before hval0 hW hcnd _
  have hval : ∀ (j : Nat) t v, Try.f8.params[j]? = some t → args[j]? = some v → Value.okWide Try.prog W .any base t v := hval0
  have hW' := hW
  obtain ⟨p, q, hA0, hV, rfl, hfz, hnd⟩ := hW
  have hA : DataW.TrodAll enc Try.prog W 0 (fun _ => true) true Try.f8.params.toList args.toList ds p := hA0
  rw [Try.params8] at hA hval
  obtain ⟨v0, vs0, d0, ds0, p0, q0, hargs, rfl, rfl, h0, r0⟩ := trodAll_cons hA
  obtain ⟨rfl, rfl, rfl⟩ := trodAll_nil r0
  obtain rfl : args = #[v0] := by cases args; simp_all
  obtain ⟨rfl, rfl⟩ := trodVars_none hV
  have k0 := h0
  have lt0 : ∀ x ∈ p0, x.block < W.heap.size := by obtain ⟨m, hm⟩ := k0; exact DataW.trod_lt m _ _ _ hm
  obtain ⟨pa0, ta0, pl0, pc0, tl0, tc0, cs0, ts0, e0, wp0, wt0⟩ := Fk.open_mesh Try.underlying30 (by kernel_rfl) (by kernel_rfl) Try.underlying28 Try.underlying35 (by kernel_rfl) (by kernel_rfl) Try.underlying32 Try.underlying32 Try.underlying32 Try.underlying22 Try.underlying39 Try.underlying2 (by kernel_rfl) (by kernel_rfl) (hval 0 30 v0 rfl rfl) h0
  subst e0
  clear hA0 hval0
  refine (FnExactHingesOf_law pa0 ta0 pl0 pc0 tl0 tc0 cs0 ts0 W wp0 wt0).mono fun e W' ⟨he, bel⟩ => ?_
  subst he
  exact ⟨_, rfl, _, _, _, [], _, [], hW', trodAll_mk1 (shut_bool Try.underlying4 _), (trodAll_cons_mk (Below.trod laidOut (by kernel_rfl) (of_decide_eq_true (by kernel_rfl)) k0 bel lt0) trodAll_mk0), rfl, bel.frame _, fun h => by cases h⟩
end Go.Proofs.Ytockhhfehjoldab.fnExactHingesOfDone

/-
Texts in one: what IsClosed stands on, part 2. Conditions: those of each.
-/
import Derived.Test.YtockhhfehjoldaaKIsClosed1
import Derived.Test.YtockhhfehjoldaaRows
import Derived.WalkKit
import Derived.ProofKit
import Derived.OpenShut
import Derived.ShutString
import Derived.ChangeOld
import Derived.Below
import Derived.Lib.SmallJoins

/-
The law of closed meshes returns true: its walk. Conditions: none beyond that the mesh lies in memory.
-/
namespace Go.Proofs.Ytockhhfehjoldaa
open Go Fk Go.RowKit
set_option linter.unusedVariables false
set_option maxRecDepth 8000

set_option maxHeartbeats 1000000 in
theorem FnExactIsClosed_law (pa ta : Option Addr) (pl pc tl tc : Nat) (cs : List C3) (ts : List (List Int)) (w : World) (hp : IsVs w pa pl pc cs) (ht : IsTs w ta tl tc ts) :
    Calls Try.prog 7 #[.agg #[.slice pa pl pc, .slice ta tl tc]] w fun e w' => e = .returned (.bool true) ∧ Below w.heap.size w w' := by
  have hpl := hp.1
  have htl := ht.1
  have HP := Lib.hid hp
  have HT := Lib.hid ht
  have HPL := Lib.hid hpl
  have HTL := Lib.hid htl
  clear hp ht hpl htl
  generalize hv : closedB cs ts = v
  have HV := Lib.hid hv
  clear hv
  go_enter Try.func7, Try.ntmps7
  go_wp2_with fail
  have hB0 : Below w.heap.size w (w.alloc (.cells #[.slice pa pl pc, .slice ta tl tc] 25)) := (Below.refl _ _).alloc (Nat.le_refl _) _
  have a0 : (w.alloc (.cells #[.slice pa pl pc, .slice ta tl tc] 25)).cell? ⟨w.heap.size, 0, none⟩ = some (.slice pa pl pc) := by go_simp
  have a1 : (w.alloc (.cells #[.slice pa pl pc, .slice ta tl tc] 25)).cell? ⟨w.heap.size, 1, none⟩ = some (.slice ta tl tc) := by go_simp
  generalize w.alloc (.cells #[.slice pa pl pc, .slice ta tl tc] 25) = W at *
  refine (laws_szMesh _ _ _ _ _ _ _ _ 1048576 _ (HP.out.below hB0) (HT.out.below hB0) (by decide) (by decide)).mono ?_
  rintro e w1 ⟨⟨r, rfl, hr⟩, hB1⟩
  replace a0 := cell_below hB1 a0
  replace a1 := cell_below hB1 a1
  replace hB1 : Below w.heap.size w w1 := hB0.trans (hB1.mono hB0.size)
  clear hB0
  rcases hr with rfl | ⟨hr0, s1, s2, s3⟩
  · have HB := Lib.hid hB1
    clear hB1
    go_wp2
    go_ret
    exact ⟨rfl, HB.out⟩
  · have hS : Small cs ts := ⟨by rw [HPL.out]; exact s1, by rw [HTL.out]; exact s2, by rw [HTL.out]; exact s3⟩
    have HS := Lib.hid hS
    have HB1 := Lib.hid hB1
    clear s1 s2 s3 hS hB1
    go_wp2_with fail
    refine (laws_toMesh _ _ _ _ _ _ _ _ _ (HP.out.below HB1.out) (HT.out.below HB1.out) HS.out).mono ?_
    rintro e w2 ⟨⟨b, b', rfl, hb, hb', hV2, hT2⟩, hB2⟩
    replace a0 := cell_below hB2 a0
    replace a1 := cell_below hB2 a1
    have HB2 := Lib.hid (HB1.out.trans (hB2.mono HB1.out.size))
    have HV2 := Lib.hid hV2
    have HT2 := Lib.hid hT2
    clear hB2 hV2 hT2 hb hb'
    go_wp2_with fail
    refine (spec_IsClosed _ _ _ _ _ _ cs ts _ HV2.out HT2.out).mono ?_
    rintro e w3 ⟨rfl, hB3⟩
    replace a0 := cell_below hB3 a0
    replace a1 := cell_below hB3 a1
    rw [HV.out]
    have HB3 := Lib.hid (HB2.out.trans (hB3.mono HB2.out.size))
    clear hB3
    go_wp2_with fail
    refine (laws_toMesh _ _ _ _ _ _ _ _ _ (HP.out.below HB3.out) (HT.out.below HB3.out) HS.out).mono ?_
    rintro e w4 ⟨⟨c, c', rfl, hc, hc', hV4, hT4⟩, hB4⟩
    replace a0 := cell_below hB4 a0
    replace a1 := cell_below hB4 a1
    have HB4 := Lib.hid (HB3.out.trans (hB4.mono HB3.out.size))
    have HV4 := Lib.hid hV4
    have HT4 := Lib.hid hT4
    clear hB4 hV4 hT4 hc hc'
    go_wp2_with fail
    have hX : Below w4.heap.size w4 (w4.alloc (.cells #[.slice (some ⟨c, 0, none⟩) pl pl, .slice (some ⟨c', 0, none⟩) tl tl] 31)) := (Below.refl _ _).alloc (Nat.le_refl _) _
    have x0 : (w4.alloc (.cells #[.slice (some ⟨c, 0, none⟩) pl pl, .slice (some ⟨c', 0, none⟩) tl tl] 31)).cell? ⟨w4.heap.size, 0, none⟩ = some (.slice (some ⟨c, 0, none⟩) pl pl) := by go_simp
    have x1 : (w4.alloc (.cells #[.slice (some ⟨c, 0, none⟩) pl pl, .slice (some ⟨c', 0, none⟩) tl tl] 31)).cell? ⟨w4.heap.size, 1, none⟩ = some (.slice (some ⟨c', 0, none⟩) tl tl) := by go_simp
    replace a0 := cell_below hX a0
    replace a1 := cell_below hX a1
    have HV4 := Lib.hid (HV4.out.below hX)
    have HT4 := Lib.hid (HT4.out.below hX)
    have HB4 := Lib.hid (HB4.out.trans (hX.mono HB4.out.size))
    generalize (w4.alloc (.cells #[.slice (some ⟨c, 0, none⟩) pl pl, .slice (some ⟨c', 0, none⟩) tl tl] 31)) = W4 at *
    clear hX
    generalize w4.heap.size = X at *
    refine (impl_IsClosed _ _ _ _ _ _ cs ts _ HV4.out HT4.out).mono ?_
    rintro e w5 ⟨rfl, hB5⟩
    replace a0 := cell_below hB5 a0
    replace a1 := cell_below hB5 a1
    replace x0 := cell_below hB5 x0
    replace x1 := cell_below hB5 x1
    rw [HV.out]
    have HV5 := Lib.hid (HV4.out.below hB5)
    have HT5 := Lib.hid (HT4.out.below hB5)
    have HB5 := Lib.hid (HB4.out.trans (hB5.mono HB4.out.size))
    clear hB5
    go_wp2_with fail
    refine Reg.wp_region_mix (C := fun w' => Below w5.heap.size w5 w') (G := fun w1 w2 => Below w1.heap.size w1 w2) (R := fun i v w' => match i with | 0 => v = .agg #[.slice (some ⟨c, 0, none⟩) pl pl, .slice (some ⟨c', 0, none⟩) tl tl] | 1 => v = .agg #[.slice pa pl pc, .slice ta tl tc] | 2 => ∃ d d', v = .agg #[.slice (some ⟨d, 0, none⟩) pl pl, .slice (some ⟨d', 0, none⟩) tl tl] ∧ IsVs w' (some ⟨d, 0, none⟩) pl pl cs ∧ IsTs w' (some ⟨d', 0, none⟩) tl tl ts | 3 => v = .bool true | 4 => v = .bool false | _ => True) (T := fun _ _ _ => True) [false, false, false, false, false, false, false, false, false, false, false, false, false, false, false, false, false, false, false, false, false, false, true, true, true, true, true]
      (by kernel_rfl) (by kernel_rfl) (by kernel_rfl) ?_ (below_drewN (Below.refl _ _) 1) ?_ ?_
    · intro j v w1 w2 _ hG hR
      match j with
      | 0 => exact hR
      | 1 => exact hR
      | 2 => obtain ⟨d, d', e, h1, h2⟩ := hR; exact ⟨d, d', e, h1.below hG, h2.below hG⟩
      | 3 => exact hR
      | 4 => exact hR
      | _ + 5 => trivial
    · refine ⟨Reg.Obl.mk ?_, Reg.Obl.mk ?_, Reg.Obl.mk ?_, Reg.Obl.mk ?_, Reg.Obl.mk ?_, trivial⟩
      · rintro a w1 hB hx hd K hK
        have t5 : a.tmps[5]?.getD undef = .pointer (some ⟨X, 0, none⟩) := Reg.slot_val (hx 5 (by kernel_rfl))
        have y0 := cell_below hB x0
        have y1 := cell_below hB x1
        go_simp
        exact hK _ _ (fun _ => rfl) (fun h => by cases h) hB (Below.refl _ _)
      · rintro a w1 hB hx hd K hK
        have t1 : a.tmps[1]?.getD undef = .pointer (some ⟨w.heap.size, 0, none⟩) := Reg.slot_val (hx 1 (by kernel_rfl))
        have y0 := cell_below hB a0
        have y1 := cell_below hB a1
        go_simp
        exact hK _ _ (fun _ => rfl) (fun h => by cases h) hB (Below.refl _ _)
      · rintro a w1 hB hx hd K hK
        have t23 : a.tmps[23]?.getD undef = .agg #[.slice pa pl pc, .slice ta tl tc] := Reg.slot_val (hd 1 (by kernel_rfl) 23 rfl)
        go_simp
        have hW1 : Below w.heap.size w w1 := HB5.out.trans (hB.mono HB5.out.size)
        refine (laws_toMesh _ _ _ _ _ _ _ _ _ (HP.out.below hW1) (HT.out.below hW1) HS.out).mono ?_
        rintro en w2 ⟨⟨d, d', rfl, hd1, hd2, hV, hT⟩, hB2⟩
        exact hK _ _ (fun _ => ⟨d, d', rfl, hV, hT⟩) (fun h => by cases h) (hB.trans (hB2.mono hB.size)) hB2
      · rintro a w1 hB hx hd K hK
        have t22 : a.tmps[22]?.getD undef = .agg #[.slice (some ⟨c, 0, none⟩) pl pl, .slice (some ⟨c', 0, none⟩) tl tl] := Reg.slot_val (hd 0 (by kernel_rfl) 22 rfl)
        obtain ⟨e, e', g2, hV, hT⟩ := hd 2 (by kernel_rfl) 24 rfl
        have t24 := Reg.slot_val g2
        clear g2
        have HVe := Lib.hid hV
        have HTe := Lib.hid hT
        clear hV hT
        go_simp
        refine (laws_eqMesh _ _ _ _ _ _ _ _ _ _ cs ts _ (HV5.out.below hB) (HT5.out.below hB) HVe.out HTe.out).mono ?_
        rintro en w2 ⟨rfl, hB2⟩
        exact hK _ _ (fun _ => rfl) (fun h => by cases h) (hB.trans (hB2.mono hB.size)) hB2
      · rintro a w1 hB hx hd K hK
        have t25 : a.tmps[25]?.getD undef = .bool true := Reg.slot_val (hd 3 (by kernel_rfl) 25 rfl)
        go_simp
        exact hK _ _ (fun _ => rfl) (fun h => by cases h) hB (Below.refl _ _)
    · rintro f w6 hB6 hd hT
      have g26 : f 26 = .bool false := hd 4 26 rfl
      simp only [Reg.mixL, g26]
      have HB6 := Lib.hid (HB5.out.trans (hB6.mono HB5.out.size))
      clear hB6
      go_wp2
      go_ret
      exact ⟨rfl, HB6.out⟩
end Go.Proofs.Ytockhhfehjoldaa


/-
The law FnExactIsClosed holds at every input: its frame. Conditions: none.
-/
namespace Go.Proofs.Ytockhhfehjoldaa.fnExactIsClosedDone
open Go.ChangeShapes Go.WideShapes Go.ChangeAt Go.RowKit
open Go.ChangeMaps (open_string shut_string)
set_option linter.unusedVariables false

theorem own : ownKnob Try.prog.godebug = none := by kernel_rfl
theorem laidOut : laidOutB Try.prog = true := by kernel_rfl

set_option maxRecDepth 100000 in
theorem lifted (os : Os) (started : os.Started) (H : Type) (enc : TypeId × Value → H) :
    ReturnsInHanded {} Try.checked os 7 .any (Rows.fnExactIsClosedSpec.pre6 enc Try.prog Try.f7 Rows.fnExactIsClosedRow.domain false) (Rows.fnExactIsClosedSpec.post enc Try.prog Try.f7 false true false false) := by
  refine returnsInHanded_of_change (C := Try.checked) own started (by kernel_rfl) Try.func7
    (ChangeSpec.witness6 (enc := enc) (C := Try.checked) false ⟨#[], #[.agg #[.slice none 0 0, .slice none 0 0]], []⟩ 8 (by kernel_rfl) (by kernel_rfl) (by kernel_rfl) (by kernel_rfl)) ?_
  intro W base args ds gs before hval0 hW hcnd _
  have hval : ∀ (j : Nat) t v, Try.f7.params[j]? = some t → args[j]? = some v → Value.okWide Try.prog W .any base t v := hval0
  have hW' := hW
  obtain ⟨p, q, hA0, hV, rfl, hfz, hnd⟩ := hW
  have hA : DataW.TrodAll enc Try.prog W 0 (fun _ => true) true Try.f7.params.toList args.toList ds p := hA0
  rw [Try.params7] at hA hval
  obtain ⟨v0, vs0, d0, ds0, p0, q0, hargs, rfl, rfl, h0, r0⟩ := trodAll_cons hA
  obtain ⟨rfl, rfl, rfl⟩ := trodAll_nil r0
  obtain rfl : args = #[v0] := by cases args; simp_all
  obtain ⟨rfl, rfl⟩ := trodVars_none hV
  have k0 := h0
  have lt0 : ∀ x ∈ p0, x.block < W.heap.size := by obtain ⟨m, hm⟩ := k0; exact DataW.trod_lt m _ _ _ hm
  obtain ⟨pa0, ta0, pl0, pc0, tl0, tc0, cs0, ts0, e0, wp0, wt0⟩ := Fk.open_mesh Try.underlying25 (by kernel_rfl) (by kernel_rfl) Try.underlying22 Try.underlying92 (by kernel_rfl) (by kernel_rfl) Try.underlying86 Try.underlying86 Try.underlying86 Try.underlying23 Try.underlying38 Try.underlying2 (by kernel_rfl) (by kernel_rfl) (hval 0 25 v0 rfl rfl) h0
  subst e0
  clear hA0 hval0
  refine (FnExactIsClosed_law pa0 ta0 pl0 pc0 tl0 tc0 cs0 ts0 W wp0 wt0).mono fun e W' ⟨he, bel⟩ => ?_
  subst he
  exact ⟨_, rfl, _, _, _, [], _, [], hW', trodAll_mk1 (shut_bool Try.underlying4 _), (trodAll_cons_mk (Below.trod laidOut (by kernel_rfl) (of_decide_eq_true (by kernel_rfl)) k0 bel lt0) trodAll_mk0), rfl, bel.frame _, fun h => by cases h⟩
end Go.Proofs.Ytockhhfehjoldaa.fnExactIsClosedDone

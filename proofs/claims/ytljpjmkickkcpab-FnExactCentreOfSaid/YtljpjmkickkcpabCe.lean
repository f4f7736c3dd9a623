
/-
The centre of a mesh: what the program, its model and the law return. Conditions: none beyond that the mesh lies in memory.
-/
import Derived.Test.YtljpjmkickkcpabNe
import Derived.Test.YtljpjmkickkcpabFrm
import Derived.Test.YtljpjmkickkcpabMwI
import Derived.Test.YtljpjmkickkcpabInn
import Derived.Test.YtljpjmkickkcpabMshO
import Derived.Test.YtljpjmkickkcpabNrD
namespace Go.Proofs.Ytljpjmkickkcpab
open Go Fk Go.RowKit
set_option linter.unusedVariables false
set_option maxRecDepth 8000

theorem fvInt (n : Int) : FV .f32 (floatOfInt .f32 n) (some (floatOfInt .f32 n)) :=
  ⟨FloatKind.f32.format.write_lt (.number (n < 0) n.natAbs 0), cls_num (isNaN_write .f32 (.number (n < 0) n.natAbs 0) rfl)⟩
def oneC : Option Nat := cls .f32 1065353216
theorem one_FV : FV .f32 1065353216 oneC := ⟨by decide, rfl⟩
def scV (a : C3) (q : Option Nat) : C3 := (fop .mul .f32 a.1 q, fop .mul .f32 a.2.1 q, fop .mul .f32 a.2.2 q)
def cenC (n : Nat) (cs : List C3) : C3 := scV (totC cs) (fop .quo .f32 oneC (some (floatOfInt .f32 (n : Int))))
theorem FV_00' : FV .f32 0 (some 0) := ⟨by decide, by decide⟩
def cenB (n : Nat) (cs : List C3) (ts : List (List Int)) : Bool := validB cs ts && !decide (n = 0)
def cenR (n : Nat) (cs : List C3) (ts : List (List Int)) : C3 := bif cenB n cs ts then cenC n cs else z3
theorem valid_places {cs : List C3} {ts : List (List Int)} (h : validB cs ts = true) : cs.length ≤ 64 := by
  unfold validB at h; simp at h; exact h.1.1
set_option maxHeartbeats 1000000 in
theorem l04Centre (pb : Nat) (pa ta : Option Addr) (pl pc tl tc : Nat) (cs : List C3) (w : World) (c0' : w.cell? ⟨pb, 0, none⟩ = some (.slice pa pl pc)) (hp : IsVs w pa pl pc cs) :
    Calls Try.prog 65 #[.pointer (some ⟨pb, 0, none⟩)] w fun e w' => ∃ x y z, e = .returned (vv x y z) ∧ F3 x y z (cenC pl cs) ∧ Below w.heap.size w w' := by
  have ui := Try.underlying32
  have u := Try.underlying27
  have uv := Try.underlying39
  have HP := Lib.hid hp
  have C0 := Lib.hid c0'
  have FR : Hid (Frm w ([] : List (Nat × List Value)) w.heap.size (w.alloc (.cells #[.float .f32 0, .float .f32 0, .float .f32 0] 39))) := Lib.hid ⟨(Below.refl _ _).alloc (Nat.le_refl _) _, fun b l hm => absurd hm (by simp), Nat.le_refl _, ⟨.float .f32 0, .float .f32 0, .float .f32 0, by go_simp, by go_simp, by go_simp⟩, fun i => by go_simp⟩
  clear hp c0'
  go_enter Try.func65, Try.ntmps65
  go_wp2_with fail
  change (Code.region _ _ _).wp _ _ _ (w.alloc (.cells #[.float .f32 0, .float .f32 0, .float .f32 0] 39))
  generalize (w.alloc (.cells #[.float .f32 0, .float .f32 0, .float .f32 0] 39)) = W at *
  refine Reg2.wp_region_mix (C := Frm w ([] : List (Nat × List Value)) (w.heap.size)) (G := fun w1 w2 => TV (w.heap.size) (cenC pl cs) w1 → TV (w.heap.size) (cenC pl cs) w2) (R := fun i v w' => match i with | 0 => v = .pointer (some ⟨pb, 0, none⟩) | 1 => v = .pointer (some ⟨pb, 0, none⟩) | 2 => v = .pointer (some ⟨pb, 0, none⟩) | 3 => v = .slice pa pl pc | 4 => ∃ p q r, v = vv p q r ∧ F3 p q r (totC cs) | 5 => v = .pointer (some ⟨pb, 0, none⟩) | 6 => v = .pointer (some ⟨pb, 0, none⟩) | 7 => v = .pointer (some ⟨pb, 0, none⟩) | 8 => v = .slice pa pl pc | 9 => v = .int .i64 pl | 10 => v = .float .f32 (floatOfInt .f32 (pl : Int)) | 11 => ∃ r, v = .float .f32 r ∧ FV .f32 r (fop .quo .f32 oneC (some (floatOfInt .f32 (pl : Int)))) | 12 => ∃ p q r, v = vv p q r ∧ F3 p q r (cenC pl cs) | _ => True) (T := fun _ w' => TV (w.heap.size) (cenC pl cs) w') [false, false, false, true, true, true, true, true, true, true, true, true, true, true, true, true]
    (by kernel_rfl) (by kernel_rfl) (by kernel_rfl) (fun _ _ _ _ _ _ h => h) (fun _ _ _ _ hG hT => hG hT) (Frm.drewN FR.out 1) ?_ ?_
  · refine ⟨Reg2.Obl.mk ?_, Reg2.Obl.mk ?_, Reg2.Obl.mk ?_, Reg2.Obl.mk ?_, Reg2.Obl.mk ?_, Reg2.Obl.mk ?_, Reg2.Obl.mk ?_, Reg2.Obl.mk ?_, Reg2.Obl.mk ?_, Reg2.Obl.mk ?_, Reg2.Obl.mk ?_, Reg2.Obl.mk ?_, Reg2.Obl.mk ?_, Reg2.Obl.mk ?_, trivial⟩
    · rintro a w1 hC hx hd K hK
      have HC := Lib.hid hC
      clear hC
      have t0 : a.tmps[0]?.getD undef = .pointer (some ⟨pb, 0, none⟩) := Reg.slot_val (hx 0 (by kernel_rfl))
      go_simp
      exact hK _ _ (fun _ => rfl) (fun h => by cases h) HC.out (fun h => h)
    · rintro a w1 hC hx hd K hK
      have HC := Lib.hid hC
      clear hC
      have t3 : a.tmps[3]?.getD undef = .pointer (some ⟨pb, 0, none⟩) := Reg.slot_val (hd 0 (by kernel_rfl) 3 rfl)
      go_simp
      exact hK _ _ (fun _ => rfl) (fun h => by cases h) HC.out (fun h => h)
    · rintro a w1 hC hx hd K hK
      have HC := Lib.hid hC
      clear hC
      have t4 : a.tmps[4]?.getD undef = .pointer (some ⟨pb, 0, none⟩) := Reg.slot_val (hd 1 (by kernel_rfl) 4 rfl)
      go_simp
      exact hK _ _ (fun _ => rfl) (fun h => by cases h) HC.out (fun h => h)
    · rintro a w1 hC hx hd K hK
      have HC := Lib.hid hC
      clear hC
      have y0 := cell_below HC.out.bel C0.out
      have t5 : a.tmps[5]?.getD undef = .pointer (some ⟨pb, 0, none⟩) := Reg.slot_val (hd 2 (by kernel_rfl) 5 rfl)
      go_simp
      exact hK _ _ (fun _ => rfl) (fun h => by cases h) HC.out (fun h => h)
    · rintro a w1 hC hx hd K hK
      have HC := Lib.hid hC
      clear hC
      have t6 : a.tmps[6]?.getD undef = .slice pa pl pc := Reg.slot_val (hd 3 (by kernel_rfl) 6 rfl)
      go_simp
      refine (l04Sum pa pl pc cs _ (HP.out.below HC.out.bel)).mono ?_
      rintro en w2 ⟨p', q', r', rfl, hF, hB2⟩
      exact hK _ _ (fun _ => ⟨p', q', r', rfl, hF⟩) (fun h => by cases h) (HC.out.call hB2) (TV.call hB2)
    · rintro a w1 hC hx hd K hK
      have HC := Lib.hid hC
      clear hC
      have t0 : a.tmps[0]?.getD undef = .pointer (some ⟨pb, 0, none⟩) := Reg.slot_val (hx 0 (by kernel_rfl))
      go_simp
      exact hK _ _ (fun _ => rfl) (fun h => by cases h) HC.out (fun h => h)
    · rintro a w1 hC hx hd K hK
      have HC := Lib.hid hC
      clear hC
      have t8 : a.tmps[8]?.getD undef = .pointer (some ⟨pb, 0, none⟩) := Reg.slot_val (hd 5 (by kernel_rfl) 8 rfl)
      go_simp
      exact hK _ _ (fun _ => rfl) (fun h => by cases h) HC.out (fun h => h)
    · rintro a w1 hC hx hd K hK
      have HC := Lib.hid hC
      clear hC
      have t9 : a.tmps[9]?.getD undef = .pointer (some ⟨pb, 0, none⟩) := Reg.slot_val (hd 6 (by kernel_rfl) 9 rfl)
      go_simp
      exact hK _ _ (fun _ => rfl) (fun h => by cases h) HC.out (fun h => h)
    · rintro a w1 hC hx hd K hK
      have HC := Lib.hid hC
      clear hC
      have y0 := cell_below HC.out.bel C0.out
      have t10 : a.tmps[10]?.getD undef = .pointer (some ⟨pb, 0, none⟩) := Reg.slot_val (hd 7 (by kernel_rfl) 10 rfl)
      go_simp
      exact hK _ _ (fun _ => rfl) (fun h => by cases h) HC.out (fun h => h)
    · rintro a w1 hC hx hd K hK
      have HC := Lib.hid hC
      clear hC
      have t11 : a.tmps[11]?.getD undef = .slice pa pl pc := Reg.slot_val (hd 8 (by kernel_rfl) 11 rfl)
      go_simp
      exact hK _ _ (fun _ => rfl) (fun h => by cases h) HC.out (fun h => h)
    · rintro a w1 hC hx hd K hK
      have HC := Lib.hid hC
      clear hC
      have t12 : a.tmps[12]?.getD undef = .int .i64 pl := Reg.slot_val (hd 9 (by kernel_rfl) 12 rfl)
      go_simp
      exact hK _ _ (fun _ => rfl) (fun h => by cases h) HC.out (fun h => h)
    · rintro a w1 hC hx hd K hK
      have HC := Lib.hid hC
      clear hC
      have t13 : a.tmps[13]?.getD undef = .float .f32 (floatOfInt .f32 (pl : Int)) := Reg.slot_val (hd 10 (by kernel_rfl) 13 rfl)
      go_simp
      exact hK _ _ (fun _ => ⟨_, rfl, FV_fR one_FV (fvInt _)⟩) (fun h => by cases h) (HC.out.drewN _) (TV.drewN _)
    · rintro a w1 hC hx hd K hK
      have HC := Lib.hid hC
      clear hC
      obtain ⟨p7, q7, r7, g7, f7⟩ := hd 4 (by kernel_rfl) 7 rfl
      have t7 := Reg.slot_val g7
      clear g7
      obtain ⟨r14, g14, f14⟩ := hd 11 (by kernel_rfl) 14 rfl
      have t14 := Reg.slot_val g14
      clear g14
      go_simp
      refine (l01Scale _ _ _ _ _ _ _ _ _ f7.1 f7.2.1 f7.2.2 f14).mono ?_
      rintro en w2 ⟨p', q', r', rfl, fp', fq', fr', hB2⟩
      exact hK _ _ (fun _ => ⟨p', q', r', rfl, fp', fq', fr'⟩) (fun h => by cases h) (HC.out.call hB2) (TV.call hB2)
    · rintro a w1 hC hx hd K hK
      have HC := Lib.hid hC
      clear hC
      have t2 : a.tmps[2]?.getD undef = .pointer (some ⟨w.heap.size, 0, none⟩) := Reg.slot_val (hx 2 (by kernel_rfl))
      obtain ⟨p15, q15, r15, g15, f15⟩ := hd 12 (by kernel_rfl) 15 rfl
      have t15 := Reg.slot_val g15
      clear g15
      obtain ⟨u0, u1, u2, x0, x1, x2⟩ := HC.out.cells
      have k0 := HC.out.free 0
      have k1 := HC.out.free 1
      have k2 := HC.out.free 2
      go_simp
      exact hK undef _ (fun h => absurd rfl h) (fun _ => TV.put HC.out f15) (HC.out.put _ _ _) (fun _ => TV.put HC.out f15)
  rintro f w1 hC hd hT
  obtain ⟨x, y, z, ⟨x0, x1, x2⟩, hf⟩ := hT 13 rfl (by decide)
  simp only [Reg.mixL]
  have HC := Lib.hid hC
  clear hC hd hT
  go_wp2
  refine bodyPost_ret (v := vv x y z) (by simp [results, Try.results65, go_sem, x0, x1, x2]) rfl ⟨x, y, z, rfl, hf, HC.out.bel⟩
set_option maxHeartbeats 1000000 in
theorem impl_CentreOf (pa ta : Option Addr) (pl pc tl tc : Nat) (cs : List C3) (ts : List (List Int)) (w : World) (hp : IsVs w pa pl pc cs) (ht : IsTs w ta tl tc ts) :
    Calls Try.prog 21 #[.agg #[.slice pa pl pc, .slice ta tl tc]] w fun e w' => ∃ x y z, e = .returned (.tuple #[vv x y z, .bool (cenB pl cs ts)]) ∧ F3 x y z (cenR pl cs ts) ∧ Below w.heap.size w w' := by
  have ui := Try.underlying32
  have u := Try.underlying27
  have uv := Try.underlying39
  have FR : Hid (Frm w [(w.heap.size, [.slice pa pl pc, .slice ta tl tc])] (w.heap.size + 1) ((w.alloc (.cells #[.slice pa pl pc, .slice ta tl tc] 32)).alloc (.cells #[.float .f32 0, .float .f32 0, .float .f32 0] 39))) := Lib.hid (by
    refine ⟨((Below.refl _ _).alloc (Nat.le_refl _) _).alloc (by simp) _, ?_, by omega, ⟨.float .f32 0, .float .f32 0, .float .f32 0, by go_simp, by go_simp, by go_simp⟩, fun i => by go_simp⟩
    intro b l hm
    rcases List.mem_cons.1 hm with e | hm
    · cases e; exact ⟨At.new.alloc, by omega⟩
    · cases hm)
  have hpl := hp.1
  have hm : pl ≤ 9223372036854775807 := by have h1 := hp.2.1; have h2 := hp.2.2.1; unfold maxLen at h2; omega
  have JV := impl_ValidMesh _ _ _ _ _ _ cs ts ((w.alloc (.cells #[.slice pa pl pc, .slice ta tl tc] 32)).alloc (.cells #[.float .f32 0, .float .f32 0, .float .f32 0] 39)) (hp.below FR.out.bel) (ht.below FR.out.bel)
  have HP := Lib.hid hp
  unfold cenR cenB
  clear hp ht
  cases hv : validB cs ts
  · rw [hv] at JV
    have JV := Lib.hid JV
    clear hv hpl
    go_enter Try.func21, Try.ntmps21
    go_wp2_with fail
    generalize ((w.alloc (.cells #[.slice pa pl pc, .slice ta tl tc] 32)).alloc (.cells #[.float .f32 0, .float .f32 0, .float .f32 0] 39)) = W at *
    refine JV.out.mono ?_
    rintro e w1 ⟨rfl, hB1⟩
    have FR1 := FR.out.call hB1
    clear hB1
    obtain ⟨u0, u1, u2, x0, x1, x2⟩ := FR1.cells
    have k0 := FR1.free 0
    have k1 := FR1.free 1
    have k2 := FR1.free 2
    have HF := Lib.hid (FR1.put (.float .f32 0) (.float .f32 0) (.float .f32 0))
    have HT := Lib.hid (TV.put FR1 (p := 0) (q := 0) (r := 0) (c := z3) ⟨FV_00', FV_00', FV_00'⟩)
    go_wp2
    clear x0 x1 x2
    obtain ⟨x, y, z, ⟨x0, x1, x2⟩, hf⟩ := HT.out
    refine bodyPost_ret (v := .tuple #[vv x y z, .bool false]) (by simp [results, Try.results21, go_sem, x0, x1, x2]) rfl ⟨x, y, z, rfl, hf, HF.out.bel⟩
  · rw [hv] at JV
    have JV := Lib.hid JV
    have h64 : pl ≤ 64 := by have := valid_places hv; omega
    clear hv hpl
    by_cases h0 : pl = 0
    · have e0 : ((pl : Int) == 0) = true := by rw [h0]; rfl
      rw [decide_eq_true h0]
      clear h0
      go_enter Try.func21, Try.ntmps21
      go_wp2_with fail
      generalize ((w.alloc (.cells #[.slice pa pl pc, .slice ta tl tc] 32)).alloc (.cells #[.float .f32 0, .float .f32 0, .float .f32 0] 39)) = W at *
      refine JV.out.mono ?_
      rintro e w1 ⟨rfl, hB1⟩
      have FR1 := FR.out.call hB1
      have m0 := (FR1.mem (.head _)) 0 _ rfl
      clear hB1
      obtain ⟨u0, u1, u2, x0, x1, x2⟩ := FR1.cells
      have k0 := FR1.free 0
      have k1 := FR1.free 1
      have k2 := FR1.free 2
      have HF := Lib.hid (FR1.put (.float .f32 0) (.float .f32 0) (.float .f32 0))
      have HT := Lib.hid (TV.put FR1 (p := 0) (q := 0) (r := 0) (c := z3) ⟨FV_00', FV_00', FV_00'⟩)
      go_wp2
      clear x0 x1 x2
      obtain ⟨x, y, z, ⟨x0, x1, x2⟩, hf⟩ := HT.out
      refine bodyPost_ret (v := .tuple #[vv x y z, .bool false]) (by simp [results, Try.results21, go_sem, x0, x1, x2]) rfl ⟨x, y, z, rfl, hf, HF.out.bel⟩
    · have e0 : ((pl : Int) == 0) = false := beq_eq_false_iff_ne.2 (by omega)
      rw [decide_eq_false h0]
      show Calls _ _ _ _ fun e w' => ∃ x y z, e = .returned (.tuple #[vv x y z, .bool true]) ∧ F3 x y z (cenC pl cs) ∧ Below w.heap.size w w'
      clear h0
      go_enter Try.func21, Try.ntmps21
      go_wp2_with fail
      generalize ((w.alloc (.cells #[.slice pa pl pc, .slice ta tl tc] 32)).alloc (.cells #[.float .f32 0, .float .f32 0, .float .f32 0] 39)) = W at *
      refine JV.out.mono ?_
      rintro e w1 ⟨rfl, hB1⟩
      have FR1 := Lib.hid (FR.out.call hB1)
      have m0 := (FR1.out.mem (.head _)) 0 _ rfl
      clear hB1
      go_wp2_with fail
      have JT := impl_TotalOf pa pl pc cs w1 (HP.out.below FR1.out.bel)
      rw [decide_eq_true (show pl ≤ 256 by omega)] at JT
      unfold totB at JT
      rw [if_pos (show pl ≤ 256 by omega)] at JT
      refine JT.mono ?_
      clear JT
      rintro e w2 ⟨tx, ty, tz, rfl, hT2, hB2⟩
      have HT2 := Lib.hid hT2
      have FR2a := FR1.out.call hB2
      have FR2 := Lib.hid (FR2a.call ((Below.refl _ _).alloc (Nat.le_refl _) (.cells #[.float .f32 tx, .float .f32 ty, .float .f32 tz] 39)))
      clear m0
      have m1 := ((FR2a.mem (.head _)).alloc (o := .cells #[.float .f32 tx, .float .f32 ty, .float .f32 tz] 39)) 0 _ rfl
      clear hT2 hB2 FR2a
      go_wp2_with fail
      refine (impl_ScaleVector _ _ _ _ _ _ _ _ _ HT2.out.1 HT2.out.2.1 HT2.out.2.2 (FV_fR one_FV (fvInt _))).mono ?_
      rintro e w3 ⟨xx, yy, zz, rfl, hfx, hfy, hfz, hB3⟩
      have hF : F3 xx yy zz (cenC pl cs) := ⟨hfx, hfy, hfz⟩
      clear m1
      have FR3 := (FR2.out.drewN _).call hB3
      obtain ⟨u0, u1, u2, x0, x1, x2⟩ := FR3.cells
      have k0 := FR3.free 0
      have k1 := FR3.free 1
      have k2 := FR3.free 2
      have HF := Lib.hid (FR3.put (.float .f32 xx) (.float .f32 yy) (.float .f32 zz))
      have HT := Lib.hid (TV.put FR3 (p := xx) (q := yy) (r := zz) hF)
      clear hB3 FR3
      go_wp2
      clear x0 x1 x2
      obtain ⟨x, y, z, ⟨x0, x1, x2⟩, hf⟩ := HT.out
      refine bodyPost_ret (v := .tuple #[vv x y z, .bool true]) (by simp [results, Try.results21, go_sem, x0, x1, x2]) rfl ⟨x, y, z, rfl, hf, HF.out.bel⟩
set_option maxHeartbeats 1000000 in
theorem spec_CentreOf (pa ta : Option Addr) (pl pc tl tc : Nat) (cs : List C3) (ts : List (List Int)) (w : World) (hp : IsVs w pa pl pc cs) (ht : IsTs w ta tl tc ts) :
    Calls Try.prog 20 #[.agg #[.slice pa pl pc, .slice ta tl tc]] w fun e w' => ∃ x y z, e = .returned (.tuple #[vv x y z, .bool (cenB pl cs ts)]) ∧ F3 x y z (cenR pl cs ts) ∧ Below w.heap.size w w' := by
  have ui := Try.underlying32
  have u := Try.underlying27
  have uv := Try.underlying39
  have FR : Hid (Frm w [(w.heap.size, [.slice pa pl pc, .slice ta tl tc])] (w.heap.size + 1) ((w.alloc (.cells #[.slice pa pl pc, .slice ta tl tc] 32)).alloc (.cells #[.float .f32 0, .float .f32 0, .float .f32 0] 39))) := Lib.hid (by
    refine ⟨((Below.refl _ _).alloc (Nat.le_refl _) _).alloc (by simp) _, ?_, by omega, ⟨.float .f32 0, .float .f32 0, .float .f32 0, by go_simp, by go_simp, by go_simp⟩, fun i => by go_simp⟩
    intro b l hm
    rcases List.mem_cons.1 hm with e | hm
    · cases e; exact ⟨At.new.alloc, by omega⟩
    · cases hm)
  have hpl := hp.1
  have hm : pl ≤ 9223372036854775807 := by have h1 := hp.2.1; have h2 := hp.2.2.1; unfold maxLen at h2; omega
  have JV := l02IsB w.heap.size pa ta pl pc tl tc cs ts ((w.alloc (.cells #[.slice pa pl pc, .slice ta tl tc] 32)).alloc (.cells #[.float .f32 0, .float .f32 0, .float .f32 0] 39)) ((FR.out.mem (.head _)) 0 _ rfl) ((FR.out.mem (.head _)) 1 _ rfl) (hp.below FR.out.bel) (ht.below FR.out.bel)
  have HP := Lib.hid hp
  unfold cenR cenB
  clear hp ht
  cases hv : validB cs ts
  · rw [hv] at JV
    have JV := Lib.hid JV
    clear hv hpl
    go_enter Try.func20, Try.ntmps20
    go_wp2_with fail
    generalize ((w.alloc (.cells #[.slice pa pl pc, .slice ta tl tc] 32)).alloc (.cells #[.float .f32 0, .float .f32 0, .float .f32 0] 39)) = W at *
    refine JV.out.mono ?_
    rintro e w1 ⟨rfl, hB1⟩
    have FR1 := FR.out.call hB1
    clear hB1
    obtain ⟨u0, u1, u2, x0, x1, x2⟩ := FR1.cells
    have k0 := FR1.free 0
    have k1 := FR1.free 1
    have k2 := FR1.free 2
    have HF := Lib.hid (FR1.put (.float .f32 0) (.float .f32 0) (.float .f32 0))
    have HT := Lib.hid (TV.put FR1 (p := 0) (q := 0) (r := 0) (c := z3) ⟨FV_00', FV_00', FV_00'⟩)
    go_wp2
    clear x0 x1 x2
    obtain ⟨x, y, z, ⟨x0, x1, x2⟩, hf⟩ := HT.out
    refine bodyPost_ret (v := .tuple #[vv x y z, .bool false]) (by simp [results, Try.results20, go_sem, x0, x1, x2]) rfl ⟨x, y, z, rfl, hf, HF.out.bel⟩
  · rw [hv] at JV
    have JV := Lib.hid JV
    have h64 : pl ≤ 64 := by have := valid_places hv; omega
    clear hv hpl
    by_cases h0 : pl = 0
    · have e0 : ((pl : Int) == 0) = true := by rw [h0]; rfl
      rw [decide_eq_true h0]
      clear h0
      go_enter Try.func20, Try.ntmps20
      go_wp2_with fail
      generalize ((w.alloc (.cells #[.slice pa pl pc, .slice ta tl tc] 32)).alloc (.cells #[.float .f32 0, .float .f32 0, .float .f32 0] 39)) = W at *
      refine JV.out.mono ?_
      rintro e w1 ⟨rfl, hB1⟩
      have FR1 := FR.out.call hB1
      have m0 := (FR1.mem (.head _)) 0 _ rfl
      clear hB1
      obtain ⟨u0, u1, u2, x0, x1, x2⟩ := FR1.cells
      have k0 := FR1.free 0
      have k1 := FR1.free 1
      have k2 := FR1.free 2
      have HF := Lib.hid (FR1.put (.float .f32 0) (.float .f32 0) (.float .f32 0))
      have HT := Lib.hid (TV.put FR1 (p := 0) (q := 0) (r := 0) (c := z3) ⟨FV_00', FV_00', FV_00'⟩)
      go_wp2
      clear x0 x1 x2
      obtain ⟨x, y, z, ⟨x0, x1, x2⟩, hf⟩ := HT.out
      refine bodyPost_ret (v := .tuple #[vv x y z, .bool false]) (by simp [results, Try.results20, go_sem, x0, x1, x2]) rfl ⟨x, y, z, rfl, hf, HF.out.bel⟩
    · have e0 : ((pl : Int) == 0) = false := beq_eq_false_iff_ne.2 (by omega)
      rw [decide_eq_false h0]
      show Calls _ _ _ _ fun e w' => ∃ x y z, e = .returned (.tuple #[vv x y z, .bool true]) ∧ F3 x y z (cenC pl cs) ∧ Below w.heap.size w w'
      clear h0
      go_enter Try.func20, Try.ntmps20
      go_wp2_with fail
      generalize ((w.alloc (.cells #[.slice pa pl pc, .slice ta tl tc] 32)).alloc (.cells #[.float .f32 0, .float .f32 0, .float .f32 0] 39)) = W at *
      refine JV.out.mono ?_
      rintro e w1 ⟨rfl, hB1⟩
      have FR1 := Lib.hid (FR.out.call hB1)
      have m0 := (FR1.out.mem (.head _)) 0 _ rfl
      clear hB1
      go_wp2_with fail
      refine (l04Centre w.heap.size pa ta pl pc tl tc cs w1 m0 (HP.out.below FR1.out.bel)).mono ?_
      rintro e w3 ⟨xx, yy, zz, rfl, hF, hB3⟩
      have FR2 := FR1
      clear m0
      have FR3 := FR2.out.call hB3
      obtain ⟨u0, u1, u2, x0, x1, x2⟩ := FR3.cells
      have k0 := FR3.free 0
      have k1 := FR3.free 1
      have k2 := FR3.free 2
      have HF := Lib.hid (FR3.put (.float .f32 xx) (.float .f32 yy) (.float .f32 zz))
      have HT := Lib.hid (TV.put FR3 (p := xx) (q := yy) (r := zz) hF)
      clear hB3 FR3
      go_wp2
      clear x0 x1 x2
      obtain ⟨x, y, z, ⟨x0, x1, x2⟩, hf⟩ := HT.out
      refine bodyPost_ret (v := .tuple #[vv x y z, .bool true]) (by simp [results, Try.results20, go_sem, x0, x1, x2]) rfl ⟨x, y, z, rfl, hf, HF.out.bel⟩
set_option maxHeartbeats 2000000 in
theorem FnExactCentreOf_law (pa ta : Option Addr) (pl pc tl tc : Nat) (cs : List C3) (ts : List (List Int)) (w : World) (hp : IsVs w pa pl pc cs) (ht : IsTs w ta tl tc ts) :
    Calls Try.prog 4 #[.agg #[.slice pa pl pc, .slice ta tl tc]] w fun e w' => e = .returned (.bool true) ∧ Below w.heap.size w w' := by
  have hpl := hp.1
  have htl := ht.1
  have HP := Lib.hid hp
  have HT := Lib.hid ht
  have HPL := Lib.hid hpl
  have HTL := Lib.hid htl
  clear hp ht hpl htl
  obtain ⟨NC, hNC⟩ : ∃ NC : C3, NC = cenR pl cs ts := ⟨_, rfl⟩
  obtain ⟨nb, hnb⟩ : ∃ nb : Bool, nb = cenB pl cs ts := ⟨_, rfl⟩
  have HSP := Lib.hid (fun (pa ta : Option Addr) (pc tc : Nat) (w : World) (hp : IsVs w pa pl pc cs) (ht : IsTs w ta tl tc ts) => spec_CentreOf pa ta pl pc tl tc cs ts w hp ht)
  have HIM := Lib.hid (fun (pa ta : Option Addr) (pc tc : Nat) (w : World) (hp : IsVs w pa pl pc cs) (ht : IsTs w ta tl tc ts) => impl_CentreOf pa ta pl pc tl tc cs ts w hp ht)
  rw [← hNC, ← hnb] at HSP HIM
  clear hNC hnb
  go_enter Try.func4, Try.ntmps4
  go_wp2_with fail
  have hB0 : Below w.heap.size w (w.alloc (.cells #[.slice pa pl pc, .slice ta tl tc] 25)) := (Below.refl _ _).alloc (Nat.le_refl _) _
  have a0 : (w.alloc (.cells #[.slice pa pl pc, .slice ta tl tc] 25)).cell? ⟨w.heap.size, 0, none⟩ = some (.slice pa pl pc) := by go_simp
  have a1 : (w.alloc (.cells #[.slice pa pl pc, .slice ta tl tc] 25)).cell? ⟨w.heap.size, 1, none⟩ = some (.slice ta tl tc) := by go_simp
  generalize w.alloc (.cells #[.slice pa pl pc, .slice ta tl tc] 25) = W at *
  refine (laws_szMesh _ _ _ _ _ _ _ _ 1048576 _ (HP.out.below hB0) (HT.out.below hB0) (by decide) (by decide)).mono ?_
  rintro e w1 ⟨⟨r, rfl, hr⟩, hB1⟩
  replace a0 := cell_below hB1 a0
  replace a1 := cell_below hB1 a1
  replace hB1 : Below w.heap.size w w1 := hB0.trans (hB1.mono hB0.size)
  clear hB0
  rcases hr with rfl | ⟨hr0, s1, s2, s3⟩
  · have HB := Lib.hid hB1
    clear hB1
    go_wp2
    go_ret
    exact ⟨rfl, HB.out⟩
  · have hS : Small cs ts := ⟨by rw [HPL.out]; exact s1, by rw [HTL.out]; exact s2, by rw [HTL.out]; exact s3⟩
    have HS := Lib.hid hS
    have HB1 := Lib.hid hB1
    clear s1 s2 s3 hS hB1
    go_wp2_with fail
    refine (laws_toMesh _ _ _ _ _ _ _ _ _ (HP.out.below HB1.out) (HT.out.below HB1.out) HS.out).mono ?_
    rintro e w2 ⟨⟨b, b', rfl, hb, hb', hV2, hT2⟩, hB2⟩
    replace a0 := cell_below hB2 a0
    replace a1 := cell_below hB2 a1
    have HB2 := Lib.hid (HB1.out.trans (hB2.mono HB1.out.size))
    have HV2 := Lib.hid hV2
    have HT2 := Lib.hid hT2
    clear hB2 hV2 hT2 hb hb'
    go_wp2_with fail
    refine (HSP.out _ _ _ _ _ HV2.out HT2.out).mono ?_
    rintro e w3 ⟨sx, sy, sz, rfl, ⟨sfx, sfy, sfz⟩, hB3⟩
    replace a0 := cell_below hB3 a0
    replace a1 := cell_below hB3 a1
    have HB3 := Lib.hid (HB2.out.trans (hB3.mono HB2.out.size))
    clear hB3
    have la0 := fun ob => cell_alloc (o := ob) a0
    have la1 := fun ob => cell_alloc (o := ob) a1
    go_wp2_with fail
    clear la0 la1
    have hS3 : Below w3.heap.size w3 (w3.alloc (.cells #[.float .f32 sx, .float .f32 sy, .float .f32 sz] 39)) := (Below.refl _ _).alloc (Nat.le_refl _) _
    have v0 : (w3.alloc (.cells #[.float .f32 sx, .float .f32 sy, .float .f32 sz] 39)).cell? ⟨w3.heap.size, 0, none⟩ = some (.float .f32 sx) := by go_simp
    have v1 : (w3.alloc (.cells #[.float .f32 sx, .float .f32 sy, .float .f32 sz] 39)).cell? ⟨w3.heap.size, 1, none⟩ = some (.float .f32 sy) := by go_simp
    have v2 : (w3.alloc (.cells #[.float .f32 sx, .float .f32 sy, .float .f32 sz] 39)).cell? ⟨w3.heap.size, 2, none⟩ = some (.float .f32 sz) := by go_simp
    replace a0 := cell_below hS3 a0
    replace a1 := cell_below hS3 a1
    have HB3 := Lib.hid (HB3.out.trans (hS3.mono HB3.out.size))
    generalize (w3.alloc (.cells #[.float .f32 sx, .float .f32 sy, .float .f32 sz] 39)) = W3 at *
    clear hS3
    generalize w3.heap.size = S at *
    refine (laws_toMesh _ _ _ _ _ _ _ _ _ (HP.out.below HB3.out) (HT.out.below HB3.out) HS.out).mono ?_
    rintro e w4 ⟨⟨c, c', rfl, hc, hc', hV4, hT4⟩, hB4⟩
    replace a0 := cell_below hB4 a0
    replace a1 := cell_below hB4 a1
    replace v0 := cell_below hB4 v0
    replace v1 := cell_below hB4 v1
    replace v2 := cell_below hB4 v2
    have HB4 := Lib.hid (HB3.out.trans (hB4.mono HB3.out.size))
    have HV4 := Lib.hid hV4
    have HT4 := Lib.hid hT4
    clear hB4 hV4 hT4 hc hc'
    go_wp2_with fail
    have hX : Below w4.heap.size w4 (w4.alloc (.cells #[.slice (some ⟨c, 0, none⟩) pl pl, .slice (some ⟨c', 0, none⟩) tl tl] 32)) := (Below.refl _ _).alloc (Nat.le_refl _) _
    have x0 : (w4.alloc (.cells #[.slice (some ⟨c, 0, none⟩) pl pl, .slice (some ⟨c', 0, none⟩) tl tl] 32)).cell? ⟨w4.heap.size, 0, none⟩ = some (.slice (some ⟨c, 0, none⟩) pl pl) := by go_simp
    have x1 : (w4.alloc (.cells #[.slice (some ⟨c, 0, none⟩) pl pl, .slice (some ⟨c', 0, none⟩) tl tl] 32)).cell? ⟨w4.heap.size, 1, none⟩ = some (.slice (some ⟨c', 0, none⟩) tl tl) := by go_simp
    replace a0 := cell_below hX a0
    replace a1 := cell_below hX a1
    replace v0 := cell_below hX v0
    replace v1 := cell_below hX v1
    replace v2 := cell_below hX v2
    have HV4 := Lib.hid (HV4.out.below hX)
    have HT4 := Lib.hid (HT4.out.below hX)
    have HB4 := Lib.hid (HB4.out.trans (hX.mono HB4.out.size))
    generalize (w4.alloc (.cells #[.slice (some ⟨c, 0, none⟩) pl pl, .slice (some ⟨c', 0, none⟩) tl tl] 32)) = W4 at *
    clear hX
    generalize w4.heap.size = X at *
    refine (HIM.out _ _ _ _ _ HV4.out HT4.out).mono ?_
    rintro e w5 ⟨gx, gy, gz, rfl, ⟨gfx, gfy, gfz⟩, hB5⟩
    replace a0 := cell_below hB5 a0
    replace a1 := cell_below hB5 a1
    replace v0 := cell_below hB5 v0
    replace v1 := cell_below hB5 v1
    replace v2 := cell_below hB5 v2
    replace x0 := cell_below hB5 x0
    replace x1 := cell_below hB5 x1
    have HV5 := Lib.hid (HV4.out.below hB5)
    have HT5 := Lib.hid (HT4.out.below hB5)
    have HB5 := Lib.hid (HB4.out.trans (hB5.mono HB4.out.size))
    clear hB5
    have lv0 := fun ob => cell_alloc (o := ob) v0
    have lv1 := fun ob => cell_alloc (o := ob) v1
    have lv2 := fun ob => cell_alloc (o := ob) v2
    go_wp2_with fail
    clear lv0 lv1 lv2
    have hG : Below w5.heap.size w5 (w5.alloc (.cells #[.float .f32 gx, .float .f32 gy, .float .f32 gz] 39)) := (Below.refl _ _).alloc (Nat.le_refl _) _
    replace a0 := cell_below hG a0
    replace a1 := cell_below hG a1
    replace x0 := cell_below hG x0
    replace x1 := cell_below hG x1
    have HV5 := Lib.hid (HV5.out.below hG)
    have HT5 := Lib.hid (HT5.out.below hG)
    have HB5 := Lib.hid (HB5.out.trans (hG.mono HB5.out.size))
    generalize (w5.alloc (.cells #[.float .f32 gx, .float .f32 gy, .float .f32 gz] 39)) = W5 at *
    clear hG v0 v1 v2
    refine (laws_eqVector _ _ _ _ _ _ _ _ _ _ gfx gfy gfz sfx sfy sfz).mono ?_
    rintro e w6 ⟨rfl, hB6⟩
    replace a0 := cell_below hB6 a0
    replace a1 := cell_below hB6 a1
    replace x0 := cell_below hB6 x0
    replace x1 := cell_below hB6 x1
    have HV6 := Lib.hid (HV5.out.below hB6)
    have HT6 := Lib.hid (HT5.out.below hB6)
    have HB6 := Lib.hid (HB5.out.trans (hB6.mono HB5.out.size))
    clear hB6 gfx gfy gfz sfx sfy sfz
    go_wp2_with fail
    refine Reg.wp_region_mix (C := fun w' => Below w6.heap.size w6 w') (G := fun w1 w2 => Below w1.heap.size w1 w2) (R := fun i v w' => match i with | 0 => v = .agg #[.slice (some ⟨c, 0, none⟩) pl pl, .slice (some ⟨c', 0, none⟩) tl tl] | 1 => v = .agg #[.slice pa pl pc, .slice ta tl tc] | 2 => ∃ d d', v = .agg #[.slice (some ⟨d, 0, none⟩) pl pl, .slice (some ⟨d', 0, none⟩) tl tl] ∧ IsVs w' (some ⟨d, 0, none⟩) pl pl cs ∧ IsTs w' (some ⟨d', 0, none⟩) tl tl ts | 3 => v = .bool true | 4 => v = .bool false | _ => True) (T := fun _ _ _ => True) [false, false, false, false, false, false, false, false, false, false, false, false, false, false, false, false, false, false, false, false, false, false, false, false, false, false, false, false, false, false, false, false, false, false, false, false, true, true, true, true, true]
      (by kernel_rfl) (by kernel_rfl) (by kernel_rfl) ?_ (below_drewN (Below.refl _ _) 1) ?_ ?_
    · intro j v w1 w2 _ hG hR
      match j with
      | 0 => exact hR
      | 1 => exact hR
      | 2 => obtain ⟨d, d', e, h1, h2⟩ := hR; exact ⟨d, d', e, h1.below hG, h2.below hG⟩
      | 3 => exact hR
      | 4 => exact hR
      | _ + 5 => trivial
    · refine ⟨Reg.Obl.mk ?_, Reg.Obl.mk ?_, Reg.Obl.mk ?_, Reg.Obl.mk ?_, Reg.Obl.mk ?_, trivial⟩
      · rintro a w1 hB hx hd K hK
        have t6 : a.tmps[6]?.getD undef = .pointer (some ⟨X, 0, none⟩) := Reg.slot_val (hx 6 (by kernel_rfl))
        have y0 := cell_below hB x0
        have y1 := cell_below hB x1
        go_simp
        exact hK _ _ (fun _ => rfl) (fun h => by cases h) hB (Below.refl _ _)
      · rintro a w1 hB hx hd K hK
        have t1 : a.tmps[1]?.getD undef = .pointer (some ⟨w.heap.size, 0, none⟩) := Reg.slot_val (hx 1 (by kernel_rfl))
        have y0 := cell_below hB a0
        have y1 := cell_below hB a1
        go_simp
        exact hK _ _ (fun _ => rfl) (fun h => by cases h) hB (Below.refl _ _)
      · rintro a w1 hB hx hd K hK
        have t37 : a.tmps[37]?.getD undef = .agg #[.slice pa pl pc, .slice ta tl tc] := Reg.slot_val (hd 1 (by kernel_rfl) 37 rfl)
        go_simp
        have hW1 : Below w.heap.size w w1 := HB6.out.trans (hB.mono HB6.out.size)
        refine (laws_toMesh _ _ _ _ _ _ _ _ _ (HP.out.below hW1) (HT.out.below hW1) HS.out).mono ?_
        rintro en w2 ⟨⟨d, d', rfl, hd1, hd2, hV, hT⟩, hB2⟩
        exact hK _ _ (fun _ => ⟨d, d', rfl, hV, hT⟩) (fun h => by cases h) (hB.trans (hB2.mono hB.size)) hB2
      · rintro a w1 hB hx hd K hK
        have t36 : a.tmps[36]?.getD undef = .agg #[.slice (some ⟨c, 0, none⟩) pl pl, .slice (some ⟨c', 0, none⟩) tl tl] := Reg.slot_val (hd 0 (by kernel_rfl) 36 rfl)
        obtain ⟨e, e', g2, hV, hT⟩ := hd 2 (by kernel_rfl) 38 rfl
        have t38 := Reg.slot_val g2
        clear g2
        have HVe := Lib.hid hV
        have HTe := Lib.hid hT
        clear hV hT
        go_simp
        refine (laws_eqMesh _ _ _ _ _ _ _ _ _ _ cs ts _ (HV6.out.below hB) (HT6.out.below hB) HVe.out HTe.out).mono ?_
        rintro en w2 ⟨rfl, hB2⟩
        exact hK _ _ (fun _ => rfl) (fun h => by cases h) (hB.trans (hB2.mono hB.size)) hB2
      · rintro a w1 hB hx hd K hK
        have t39 : a.tmps[39]?.getD undef = .bool true := Reg.slot_val (hd 3 (by kernel_rfl) 39 rfl)
        go_simp
        exact hK _ _ (fun _ => rfl) (fun h => by cases h) hB (Below.refl _ _)
    · rintro f wz hB6 hd hT
      have g40 : f 40 = .bool false := hd 4 40 rfl
      simp only [Reg.mixL, g40]
      have HB7 := Lib.hid (HB6.out.trans (hB6.mono HB6.out.size))
      clear hB6
      go_wp2
      go_ret
      exact ⟨rfl, HB7.out⟩
end Go.Proofs.Ytljpjmkickkcpab

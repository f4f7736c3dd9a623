/-
Texts in one: what EdgesOf stands on, part 32. Conditions: those of each.
-/
import Derived.Test.YtmbekamnogbgaaaKEdgesOf31
import Derived.Handy

/-
What a hold leaves of a force along its way: the program and the model. Conditions: none beyond that the words fit.
-/
namespace Go.Proofs.Ytmbekamnogbgaaa
open Go Fk Go.RowKit
set_option linter.unusedVariables false
set_option maxRecDepth 8000

set_option maxHeartbeats 1000000 in
theorem impl_line (h : HW) (c : HC) (p q r : Nat) (F : C3) (w : World) (i : h.Is c) (f : F3 p q r F) :
    Calls Try.prog 196 #[h.v, vv p q r] w fun e w' => ∃ x y z, e = .returned (vv x y z) ∧ F3 x y z (alongC c F) ∧ Below w.heap.size w w' := by
  have u := Try.underlying31
  have uh := Try.underlying117
  have uv := Try.underlying34
  have ul := Try.underlying221
  have I := Lib.hid i
  have FF := Lib.hid f
  clear i f
  have fr : Frm w [(w.heap.size, h.l), (w.heap.size + 1, [.float .f32 p, .float .f32 q, .float .f32 r])] (w.heap.size + 1 + 1) (((w.alloc (HBox h 221)).alloc (.cells #[.float .f32 p, .float .f32 q, .float .f32 r] 34)).alloc (.cells #[.float .f32 0, .float .f32 0, .float .f32 0] 34)) := by
    refine ⟨(((Below.refl _ _).alloc (Nat.le_refl _) _).alloc (by simp) _).alloc (by simp; omega) _, ?_, by omega, ⟨.float .f32 0, .float .f32 0, .float .f32 0, by go_simp, by go_simp, by go_simp⟩, fun i => by go_simp⟩
    intro b l hm
    rcases List.mem_cons.1 hm with e | hm
    · cases e; exact ⟨At.new.alloc.alloc, by omega⟩
    · rcases List.mem_cons.1 hm with e | hm
      · cases e
        refine ⟨?_, by omega⟩
        have := (At.new (w := w.alloc (HBox h 221)) (vs := [.float .f32 p, .float .f32 q, .float .f32 r]) (t := 34)).alloc (o := .cells #[.float .f32 0, .float .f32 0, .float .f32 0] 34)
        rw [World.size_alloc] at this
        exact this
      · cases hm
  have FR := Lib.hid fr
  clear fr
  unfold HW.v
  go_enter Try.func196, Try.ntmps196
  go_wp2_with fail
  change (Code.region _ _ _).wp _ _ _ (((w.alloc (HBox h 221)).alloc (.cells #[.float .f32 p, .float .f32 q, .float .f32 r] 34)).alloc (.cells #[.float .f32 0, .float .f32 0, .float .f32 0] 34))
  generalize (((w.alloc (HBox h 221)).alloc (.cells #[.float .f32 p, .float .f32 q, .float .f32 r] 34)).alloc (.cells #[.float .f32 0, .float .f32 0, .float .f32 0] 34)) = W at *
  refine Reg2.wp_region_mix (C := Frm w [(w.heap.size, h.l), (w.heap.size + 1, [.float .f32 p, .float .f32 q, .float .f32 r])] (w.heap.size + 1 + 1)) (G := fun w1 w2 => TV (w.heap.size + 1 + 1) (alongC c F) w1 → TV (w.heap.size + 1 + 1) (alongC c F) w2) (R := fun i v w' => match i with | 0 => v = .pointer (some ⟨w.heap.size, 0, none⟩) | 1 => v = .pointer (some ⟨w.heap.size, 5, none⟩) | 2 => v = .agg #[.float .f32 h.s, .float .f32 h.t, .float .f32 h.u] | 3 => v = .agg #[.float .f32 p, .float .f32 q, .float .f32 r] | 4 => v = .pointer (some ⟨w.heap.size, 0, none⟩) | 5 => v = .pointer (some ⟨w.heap.size, 5, none⟩) | 6 => v = .agg #[.float .f32 h.s, .float .f32 h.t, .float .f32 h.u] | 7 => ∃ r, v = .float .f32 r ∧ FV .f32 r (innC F c.2.2.2) | 8 => v = .pointer (some ⟨w.heap.size, 0, none⟩) | 9 => v = .pointer (some ⟨w.heap.size, 5, none⟩) | 10 => v = .agg #[.float .f32 h.s, .float .f32 h.t, .float .f32 h.u] | 11 => v = .pointer (some ⟨w.heap.size, 0, none⟩) | 12 => v = .pointer (some ⟨w.heap.size, 5, none⟩) | 13 => v = .agg #[.float .f32 h.s, .float .f32 h.t, .float .f32 h.u] | 14 => ∃ r, v = .float .f32 r ∧ FV .f32 r (innC c.2.2.2 c.2.2.2) | 15 => ∃ r, v = .float .f32 r ∧ FV .f32 r (fop .quo .f32 (innC F c.2.2.2) (innC c.2.2.2 c.2.2.2)) | 16 => ∃ p q r, v = vv p q r ∧ F3 p q r (alongC c F) | _ => True) (T := fun _ w' => TV (w.heap.size + 1 + 1) (alongC c F) w') [false, false, false, false, false, true, true, true, true, true, true, true, true, true, true, true, true, true, true, true, true, true]
    (by kernel_rfl) (by kernel_rfl) (by kernel_rfl) (fun _ _ _ _ _ _ h => h) (fun _ _ _ _ hG hT => hG hT) (Frm.drewN FR.out 1) ?_ ?_
  · refine ⟨Reg2.Obl.mk ?_, Reg2.Obl.mk ?_, Reg2.Obl.mk ?_, Reg2.Obl.mk ?_, Reg2.Obl.mk ?_, Reg2.Obl.mk ?_, Reg2.Obl.mk ?_, Reg2.Obl.mk ?_, Reg2.Obl.mk ?_, Reg2.Obl.mk ?_, Reg2.Obl.mk ?_, Reg2.Obl.mk ?_, Reg2.Obl.mk ?_, Reg2.Obl.mk ?_, Reg2.Obl.mk ?_, Reg2.Obl.mk ?_, Reg2.Obl.mk ?_, Reg2.Obl.mk ?_, trivial⟩
    · rintro a w1 hC hx hd K hK
      have HC := Lib.hid hC
      clear hC
      have t2 : a.tmps[2]?.getD undef = .pointer (some ⟨w.heap.size, 0, none⟩) := Reg.slot_val (hx 2 (by kernel_rfl))
      go_simp
      exact hK _ _ (fun _ => rfl) (fun h => by cases h) HC.out (fun h => h)
    · rintro a w1 hC hx hd K hK
      have HC := Lib.hid hC
      clear hC
      have t5 : a.tmps[5]?.getD undef = .pointer (some ⟨w.heap.size, 0, none⟩) := Reg.slot_val (hd 0 (by kernel_rfl) 5 rfl)
      go_simp
      exact hK _ _ (fun _ => rfl) (fun h => by cases h) HC.out (fun h => h)
    · rintro a w1 hC hx hd K hK
      have HC := Lib.hid hC
      clear hC
      have y5 := (HC.out.mem (.head _)) 5 _ rfl
      have y6 := (HC.out.mem (.head _)) 6 _ rfl
      have y7 := (HC.out.mem (.head _)) 7 _ rfl
      have t6 : a.tmps[6]?.getD undef = .pointer (some ⟨w.heap.size, 5, none⟩) := Reg.slot_val (hd 1 (by kernel_rfl) 6 rfl)
      go_simp
      exact hK _ _ (fun _ => rfl) (fun h => by cases h) HC.out (fun h => h)
    · rintro a w1 hC hx hd K hK
      have HC := Lib.hid hC
      clear hC
      have z0 := (HC.out.mem (.tail _ (.head _))) 0 _ rfl
      have z1 := (HC.out.mem (.tail _ (.head _))) 1 _ rfl
      have z2 := (HC.out.mem (.tail _ (.head _))) 2 _ rfl
      have t3 : a.tmps[3]?.getD undef = .pointer (some ⟨w.heap.size + 1, 0, none⟩) := Reg.slot_val (hx 3 (by kernel_rfl))
      go_simp
      exact hK _ _ (fun _ => rfl) (fun h => by cases h) HC.out (fun h => h)
    · rintro a w1 hC hx hd K hK
      have HC := Lib.hid hC
      clear hC
      have t2 : a.tmps[2]?.getD undef = .pointer (some ⟨w.heap.size, 0, none⟩) := Reg.slot_val (hx 2 (by kernel_rfl))
      go_simp
      exact hK _ _ (fun _ => rfl) (fun h => by cases h) HC.out (fun h => h)
    · rintro a w1 hC hx hd K hK
      have HC := Lib.hid hC
      clear hC
      have t9 : a.tmps[9]?.getD undef = .pointer (some ⟨w.heap.size, 0, none⟩) := Reg.slot_val (hd 4 (by kernel_rfl) 9 rfl)
      go_simp
      exact hK _ _ (fun _ => rfl) (fun h => by cases h) HC.out (fun h => h)
    · rintro a w1 hC hx hd K hK
      have HC := Lib.hid hC
      clear hC
      have y5 := (HC.out.mem (.head _)) 5 _ rfl
      have y6 := (HC.out.mem (.head _)) 6 _ rfl
      have y7 := (HC.out.mem (.head _)) 7 _ rfl
      have t10 : a.tmps[10]?.getD undef = .pointer (some ⟨w.heap.size, 5, none⟩) := Reg.slot_val (hd 5 (by kernel_rfl) 10 rfl)
      go_simp
      exact hK _ _ (fun _ => rfl) (fun h => by cases h) HC.out (fun h => h)
    · rintro a w1 hC hx hd K hK
      have HC := Lib.hid hC
      clear hC
      have t8 : a.tmps[8]?.getD undef = .agg #[.float .f32 p, .float .f32 q, .float .f32 r] := Reg.slot_val (hd 3 (by kernel_rfl) 8 rfl)
      have t11 : a.tmps[11]?.getD undef = .agg #[.float .f32 h.s, .float .f32 h.t, .float .f32 h.u] := Reg.slot_val (hd 6 (by kernel_rfl) 11 rfl)
      go_simp
      refine (impl_InnerOf _ _ _ _ _ _ _ _ _ _ _ _ _ FF.out.1 FF.out.2.1 FF.out.2.2 I.out.2.2.2.1 I.out.2.2.2.2.1 I.out.2.2.2.2.2).mono ?_
      rintro en w2 ⟨r, rfl, hr, hB2⟩
      exact hK _ _ (fun _ => ⟨r, rfl, hr⟩) (fun h => by cases h) (HC.out.call hB2) (TV.call hB2)
    · rintro a w1 hC hx hd K hK
      have HC := Lib.hid hC
      clear hC
      have t2 : a.tmps[2]?.getD undef = .pointer (some ⟨w.heap.size, 0, none⟩) := Reg.slot_val (hx 2 (by kernel_rfl))
      go_simp
      exact hK _ _ (fun _ => rfl) (fun h => by cases h) HC.out (fun h => h)
    · rintro a w1 hC hx hd K hK
      have HC := Lib.hid hC
      clear hC
      have t13 : a.tmps[13]?.getD undef = .pointer (some ⟨w.heap.size, 0, none⟩) := Reg.slot_val (hd 8 (by kernel_rfl) 13 rfl)
      go_simp
      exact hK _ _ (fun _ => rfl) (fun h => by cases h) HC.out (fun h => h)
    · rintro a w1 hC hx hd K hK
      have HC := Lib.hid hC
      clear hC
      have y5 := (HC.out.mem (.head _)) 5 _ rfl
      have y6 := (HC.out.mem (.head _)) 6 _ rfl
      have y7 := (HC.out.mem (.head _)) 7 _ rfl
      have t14 : a.tmps[14]?.getD undef = .pointer (some ⟨w.heap.size, 5, none⟩) := Reg.slot_val (hd 9 (by kernel_rfl) 14 rfl)
      go_simp
      exact hK _ _ (fun _ => rfl) (fun h => by cases h) HC.out (fun h => h)
    · rintro a w1 hC hx hd K hK
      have HC := Lib.hid hC
      clear hC
      have t2 : a.tmps[2]?.getD undef = .pointer (some ⟨w.heap.size, 0, none⟩) := Reg.slot_val (hx 2 (by kernel_rfl))
      go_simp
      exact hK _ _ (fun _ => rfl) (fun h => by cases h) HC.out (fun h => h)
    · rintro a w1 hC hx hd K hK
      have HC := Lib.hid hC
      clear hC
      have t16 : a.tmps[16]?.getD undef = .pointer (some ⟨w.heap.size, 0, none⟩) := Reg.slot_val (hd 11 (by kernel_rfl) 16 rfl)
      go_simp
      exact hK _ _ (fun _ => rfl) (fun h => by cases h) HC.out (fun h => h)
    · rintro a w1 hC hx hd K hK
      have HC := Lib.hid hC
      clear hC
      have y5 := (HC.out.mem (.head _)) 5 _ rfl
      have y6 := (HC.out.mem (.head _)) 6 _ rfl
      have y7 := (HC.out.mem (.head _)) 7 _ rfl
      have t17 : a.tmps[17]?.getD undef = .pointer (some ⟨w.heap.size, 5, none⟩) := Reg.slot_val (hd 12 (by kernel_rfl) 17 rfl)
      go_simp
      exact hK _ _ (fun _ => rfl) (fun h => by cases h) HC.out (fun h => h)
    · rintro a w1 hC hx hd K hK
      have HC := Lib.hid hC
      clear hC
      have t15 : a.tmps[15]?.getD undef = .agg #[.float .f32 h.s, .float .f32 h.t, .float .f32 h.u] := Reg.slot_val (hd 10 (by kernel_rfl) 15 rfl)
      have t18 : a.tmps[18]?.getD undef = .agg #[.float .f32 h.s, .float .f32 h.t, .float .f32 h.u] := Reg.slot_val (hd 13 (by kernel_rfl) 18 rfl)
      go_simp
      refine (impl_InnerOf _ _ _ _ _ _ _ _ _ _ _ _ _ I.out.2.2.2.1 I.out.2.2.2.2.1 I.out.2.2.2.2.2 I.out.2.2.2.1 I.out.2.2.2.2.1 I.out.2.2.2.2.2).mono ?_
      rintro en w2 ⟨r, rfl, hr, hB2⟩
      exact hK _ _ (fun _ => ⟨r, rfl, hr⟩) (fun h => by cases h) (HC.out.call hB2) (TV.call hB2)
    · rintro a w1 hC hx hd K hK
      have HC := Lib.hid hC
      clear hC
      obtain ⟨r12, g12, f12⟩ := hd 7 (by kernel_rfl) 12 rfl
      have t12 := Reg.slot_val g12
      clear g12
      obtain ⟨r19, g19, f19⟩ := hd 14 (by kernel_rfl) 19 rfl
      have t19 := Reg.slot_val g19
      clear g19
      go_simp
      exact hK _ _ (fun _ => ⟨_, rfl, FV_fR f12 f19⟩) (fun h => by cases h) (HC.out.drewN _) (TV.drewN _)
    · rintro a w1 hC hx hd K hK
      have HC := Lib.hid hC
      clear hC
      have t7 : a.tmps[7]?.getD undef = .agg #[.float .f32 h.s, .float .f32 h.t, .float .f32 h.u] := Reg.slot_val (hd 2 (by kernel_rfl) 7 rfl)
      obtain ⟨r20, g20, f20⟩ := hd 15 (by kernel_rfl) 20 rfl
      have t20 := Reg.slot_val g20
      clear g20
      go_simp
      refine (impl_ScaleVector _ _ _ _ _ _ _ _ _ I.out.2.2.2.1 I.out.2.2.2.2.1 I.out.2.2.2.2.2 f20).mono ?_
      rintro en w2 ⟨p', q', r', rfl, fp', fq', fr', hB2⟩
      exact hK _ _ (fun _ => ⟨p', q', r', rfl, fp', fq', fr'⟩) (fun h => by cases h) (HC.out.call hB2) (TV.call hB2)
    · rintro a w1 hC hx hd K hK
      have HC := Lib.hid hC
      clear hC
      have t4 : a.tmps[4]?.getD undef = .pointer (some ⟨w.heap.size + 1 + 1, 0, none⟩) := Reg.slot_val (hx 4 (by kernel_rfl))
      obtain ⟨p21, q21, r21, g21, f21⟩ := hd 16 (by kernel_rfl) 21 rfl
      have t21 := Reg.slot_val g21
      clear g21
      obtain ⟨u0, u1, u2, x0, x1, x2⟩ := HC.out.cells
      have k0 := HC.out.free 0
      have k1 := HC.out.free 1
      have k2 := HC.out.free 2
      go_simp
      exact hK undef _ (fun h => absurd rfl h) (fun _ => TV.put HC.out f21) (HC.out.put _ _ _) (fun _ => TV.put HC.out f21)
  rintro f w1 hC hd hT
  obtain ⟨x, y, z, ⟨x0, x1, x2⟩, hf⟩ := hT 17 rfl (by decide)
  simp only [Reg.mixL]
  have HC := Lib.hid hC
  clear hC hd hT
  go_wp2
  refine bodyPost_ret (v := vv x y z) (by simp [results, Try.results196, go_sem, x0, x1, x2]) rfl ⟨x, y, z, rfl, hf, HC.out.bel⟩
set_option maxHeartbeats 1000000 in
theorem l04Along (b o : Nat) (h : HW) (c : HC) (p q r : Nat) (F : C3) (w : World) (a : h.At w b o) (i : h.Is c) (f : F3 p q r F) :
    Calls Try.prog 193 #[.pointer (some ⟨b, o, none⟩), vv p q r] w fun e w' => ∃ x y z, e = .returned (vv x y z) ∧ F3 x y z (alongC c F) ∧ Below w.heap.size w w' := by
  have u := Try.underlying31
  have uh := Try.underlying117
  have uv := Try.underlying34
  have A := Lib.hid a
  clear a
  have I := Lib.hid i
  have FF := Lib.hid f
  clear i f
  have fr : Frm w [(w.heap.size, [.float .f32 p, .float .f32 q, .float .f32 r])] (w.heap.size + 1) ((w.alloc (.cells #[.float .f32 p, .float .f32 q, .float .f32 r] 34)).alloc (.cells #[.float .f32 0, .float .f32 0, .float .f32 0] 34)) := by
    refine ⟨((Below.refl _ _).alloc (Nat.le_refl _) _).alloc (by simp) _, ?_, by omega, ⟨.float .f32 0, .float .f32 0, .float .f32 0, by go_simp, by go_simp, by go_simp⟩, fun i => by go_simp⟩
    intro b l hm
    rcases List.mem_cons.1 hm with e | hm
    · cases e
      refine ⟨?_, by omega⟩
      exact At.new.alloc
    · cases hm
  have FR := Lib.hid fr
  clear fr
  go_enter Try.func193, Try.ntmps193
  go_wp2_with fail
  change (Code.region _ _ _).wp _ _ _ ((w.alloc (.cells #[.float .f32 p, .float .f32 q, .float .f32 r] 34)).alloc (.cells #[.float .f32 0, .float .f32 0, .float .f32 0] 34))
  generalize ((w.alloc (.cells #[.float .f32 p, .float .f32 q, .float .f32 r] 34)).alloc (.cells #[.float .f32 0, .float .f32 0, .float .f32 0] 34)) = W at *
  refine Reg2.wp_region_mix (C := Frm w [(w.heap.size, [.float .f32 p, .float .f32 q, .float .f32 r])] (w.heap.size + 1)) (G := fun w1 w2 => TV (w.heap.size + 1) (alongC c F) w1 → TV (w.heap.size + 1) (alongC c F) w2) (R := fun i v w' => match i with | 0 => v = .pointer (some ⟨b, o, none⟩) | 1 => v = .pointer (some ⟨b, o, none⟩) | 2 => v = .pointer (some ⟨b, o + 5, none⟩) | 3 => v = .agg #[.float .f32 h.s, .float .f32 h.t, .float .f32 h.u] | 4 => v = .agg #[.float .f32 p, .float .f32 q, .float .f32 r] | 5 => v = .pointer (some ⟨b, o, none⟩) | 6 => v = .pointer (some ⟨b, o, none⟩) | 7 => v = .pointer (some ⟨b, o + 5, none⟩) | 8 => v = .agg #[.float .f32 h.s, .float .f32 h.t, .float .f32 h.u] | 9 => ∃ r, v = .float .f32 r ∧ FV .f32 r (innC F c.2.2.2) | 10 => v = .pointer (some ⟨b, o, none⟩) | 11 => v = .pointer (some ⟨b, o, none⟩) | 12 => v = .pointer (some ⟨b, o + 5, none⟩) | 13 => v = .agg #[.float .f32 h.s, .float .f32 h.t, .float .f32 h.u] | 14 => v = .pointer (some ⟨b, o, none⟩) | 15 => v = .pointer (some ⟨b, o, none⟩) | 16 => v = .pointer (some ⟨b, o + 5, none⟩) | 17 => v = .agg #[.float .f32 h.s, .float .f32 h.t, .float .f32 h.u] | 18 => ∃ r, v = .float .f32 r ∧ FV .f32 r (innC c.2.2.2 c.2.2.2) | 19 => ∃ r, v = .float .f32 r ∧ FV .f32 r (fop .quo .f32 (innC F c.2.2.2) (innC c.2.2.2 c.2.2.2)) | 20 => ∃ p q r, v = vv p q r ∧ F3 p q r (alongC c F) | _ => True) (T := fun _ w' => TV (w.heap.size + 1) (alongC c F) w') [false, false, false, false, false, true, true, true, true, true, true, true, true, true, true, true, true, true, true, true, true, true, true, true, true, true]
    (by kernel_rfl) (by kernel_rfl) (by kernel_rfl) (fun _ _ _ _ _ _ h => h) (fun _ _ _ _ hG hT => hG hT) (Frm.drewN FR.out 1) ?_ ?_
  · refine ⟨Reg2.Obl.mk ?_, Reg2.Obl.mk ?_, Reg2.Obl.mk ?_, Reg2.Obl.mk ?_, Reg2.Obl.mk ?_, Reg2.Obl.mk ?_, Reg2.Obl.mk ?_, Reg2.Obl.mk ?_, Reg2.Obl.mk ?_, Reg2.Obl.mk ?_, Reg2.Obl.mk ?_, Reg2.Obl.mk ?_, Reg2.Obl.mk ?_, Reg2.Obl.mk ?_, Reg2.Obl.mk ?_, Reg2.Obl.mk ?_, Reg2.Obl.mk ?_, Reg2.Obl.mk ?_, Reg2.Obl.mk ?_, Reg2.Obl.mk ?_, Reg2.Obl.mk ?_, Reg2.Obl.mk ?_, trivial⟩
    · rintro a w1 hC hx hd K hK
      have HC := Lib.hid hC
      clear hC
      have t0 : a.tmps[0]?.getD undef = .pointer (some ⟨b, o, none⟩) := Reg.slot_val (hx 0 (by kernel_rfl))
      go_simp
      exact hK _ _ (fun _ => rfl) (fun h => by cases h) HC.out (fun h => h)
    · rintro a w1 hC hx hd K hK
      have HC := Lib.hid hC
      clear hC
      have t5 : a.tmps[5]?.getD undef = .pointer (some ⟨b, o, none⟩) := Reg.slot_val (hd 0 (by kernel_rfl) 5 rfl)
      go_simp
      exact hK _ _ (fun _ => rfl) (fun h => by cases h) HC.out (fun h => h)
    · rintro a w1 hC hx hd K hK
      have HC := Lib.hid hC
      clear hC
      have t6 : a.tmps[6]?.getD undef = .pointer (some ⟨b, o, none⟩) := Reg.slot_val (hd 1 (by kernel_rfl) 6 rfl)
      go_simp
      exact hK _ _ (fun _ => rfl) (fun h => by cases h) HC.out (fun h => h)
    · rintro a w1 hC hx hd K hK
      have HC := Lib.hid hC
      clear hC
      have y5 := (A.out.below HC.out.bel).c5
      have y6 := (A.out.below HC.out.bel).c6
      have y7 := (A.out.below HC.out.bel).c7
      have t7 : a.tmps[7]?.getD undef = .pointer (some ⟨b, o + 5, none⟩) := Reg.slot_val (hd 2 (by kernel_rfl) 7 rfl)
      go_simp
      exact hK _ _ (fun _ => rfl) (fun h => by cases h) HC.out (fun h => h)
    · rintro a w1 hC hx hd K hK
      have HC := Lib.hid hC
      clear hC
      have z0 := (HC.out.mem (.head _)) 0 _ rfl
      have z1 := (HC.out.mem (.head _)) 1 _ rfl
      have z2 := (HC.out.mem (.head _)) 2 _ rfl
      have t3 : a.tmps[3]?.getD undef = .pointer (some ⟨w.heap.size, 0, none⟩) := Reg.slot_val (hx 3 (by kernel_rfl))
      go_simp
      exact hK _ _ (fun _ => rfl) (fun h => by cases h) HC.out (fun h => h)
    · rintro a w1 hC hx hd K hK
      have HC := Lib.hid hC
      clear hC
      have t0 : a.tmps[0]?.getD undef = .pointer (some ⟨b, o, none⟩) := Reg.slot_val (hx 0 (by kernel_rfl))
      go_simp
      exact hK _ _ (fun _ => rfl) (fun h => by cases h) HC.out (fun h => h)
    · rintro a w1 hC hx hd K hK
      have HC := Lib.hid hC
      clear hC
      have t10 : a.tmps[10]?.getD undef = .pointer (some ⟨b, o, none⟩) := Reg.slot_val (hd 5 (by kernel_rfl) 10 rfl)
      go_simp
      exact hK _ _ (fun _ => rfl) (fun h => by cases h) HC.out (fun h => h)
    · rintro a w1 hC hx hd K hK
      have HC := Lib.hid hC
      clear hC
      have t11 : a.tmps[11]?.getD undef = .pointer (some ⟨b, o, none⟩) := Reg.slot_val (hd 6 (by kernel_rfl) 11 rfl)
      go_simp
      exact hK _ _ (fun _ => rfl) (fun h => by cases h) HC.out (fun h => h)
    · rintro a w1 hC hx hd K hK
      have HC := Lib.hid hC
      clear hC
      have y5 := (A.out.below HC.out.bel).c5
      have y6 := (A.out.below HC.out.bel).c6
      have y7 := (A.out.below HC.out.bel).c7
      have t12 : a.tmps[12]?.getD undef = .pointer (some ⟨b, o + 5, none⟩) := Reg.slot_val (hd 7 (by kernel_rfl) 12 rfl)
      go_simp
      exact hK _ _ (fun _ => rfl) (fun h => by cases h) HC.out (fun h => h)
    · rintro a w1 hC hx hd K hK
      have HC := Lib.hid hC
      clear hC
      have t9 : a.tmps[9]?.getD undef = .agg #[.float .f32 p, .float .f32 q, .float .f32 r] := Reg.slot_val (hd 4 (by kernel_rfl) 9 rfl)
      have t13 : a.tmps[13]?.getD undef = .agg #[.float .f32 h.s, .float .f32 h.t, .float .f32 h.u] := Reg.slot_val (hd 8 (by kernel_rfl) 13 rfl)
      go_simp
      refine (l01Inner _ _ _ _ _ _ _ _ _ _ _ _ _ FF.out.1 FF.out.2.1 FF.out.2.2 I.out.2.2.2.1 I.out.2.2.2.2.1 I.out.2.2.2.2.2).mono ?_
      rintro en w2 ⟨r, rfl, hr, hB2⟩
      exact hK _ _ (fun _ => ⟨r, rfl, hr⟩) (fun h => by cases h) (HC.out.call hB2) (TV.call hB2)
    · rintro a w1 hC hx hd K hK
      have HC := Lib.hid hC
      clear hC
      have t0 : a.tmps[0]?.getD undef = .pointer (some ⟨b, o, none⟩) := Reg.slot_val (hx 0 (by kernel_rfl))
      go_simp
      exact hK _ _ (fun _ => rfl) (fun h => by cases h) HC.out (fun h => h)
    · rintro a w1 hC hx hd K hK
      have HC := Lib.hid hC
      clear hC
      have t15 : a.tmps[15]?.getD undef = .pointer (some ⟨b, o, none⟩) := Reg.slot_val (hd 10 (by kernel_rfl) 15 rfl)
      go_simp
      exact hK _ _ (fun _ => rfl) (fun h => by cases h) HC.out (fun h => h)
    · rintro a w1 hC hx hd K hK
      have HC := Lib.hid hC
      clear hC
      have t16 : a.tmps[16]?.getD undef = .pointer (some ⟨b, o, none⟩) := Reg.slot_val (hd 11 (by kernel_rfl) 16 rfl)
      go_simp
      exact hK _ _ (fun _ => rfl) (fun h => by cases h) HC.out (fun h => h)
    · rintro a w1 hC hx hd K hK
      have HC := Lib.hid hC
      clear hC
      have y5 := (A.out.below HC.out.bel).c5
      have y6 := (A.out.below HC.out.bel).c6
      have y7 := (A.out.below HC.out.bel).c7
      have t17 : a.tmps[17]?.getD undef = .pointer (some ⟨b, o + 5, none⟩) := Reg.slot_val (hd 12 (by kernel_rfl) 17 rfl)
      go_simp
      exact hK _ _ (fun _ => rfl) (fun h => by cases h) HC.out (fun h => h)
    · rintro a w1 hC hx hd K hK
      have HC := Lib.hid hC
      clear hC
      have t0 : a.tmps[0]?.getD undef = .pointer (some ⟨b, o, none⟩) := Reg.slot_val (hx 0 (by kernel_rfl))
      go_simp
      exact hK _ _ (fun _ => rfl) (fun h => by cases h) HC.out (fun h => h)
    · rintro a w1 hC hx hd K hK
      have HC := Lib.hid hC
      clear hC
      have t19 : a.tmps[19]?.getD undef = .pointer (some ⟨b, o, none⟩) := Reg.slot_val (hd 14 (by kernel_rfl) 19 rfl)
      go_simp
      exact hK _ _ (fun _ => rfl) (fun h => by cases h) HC.out (fun h => h)
    · rintro a w1 hC hx hd K hK
      have HC := Lib.hid hC
      clear hC
      have t20 : a.tmps[20]?.getD undef = .pointer (some ⟨b, o, none⟩) := Reg.slot_val (hd 15 (by kernel_rfl) 20 rfl)
      go_simp
      exact hK _ _ (fun _ => rfl) (fun h => by cases h) HC.out (fun h => h)
    · rintro a w1 hC hx hd K hK
      have HC := Lib.hid hC
      clear hC
      have y5 := (A.out.below HC.out.bel).c5
      have y6 := (A.out.below HC.out.bel).c6
      have y7 := (A.out.below HC.out.bel).c7
      have t21 : a.tmps[21]?.getD undef = .pointer (some ⟨b, o + 5, none⟩) := Reg.slot_val (hd 16 (by kernel_rfl) 21 rfl)
      go_simp
      exact hK _ _ (fun _ => rfl) (fun h => by cases h) HC.out (fun h => h)
    · rintro a w1 hC hx hd K hK
      have HC := Lib.hid hC
      clear hC
      have t18 : a.tmps[18]?.getD undef = .agg #[.float .f32 h.s, .float .f32 h.t, .float .f32 h.u] := Reg.slot_val (hd 13 (by kernel_rfl) 18 rfl)
      have t22 : a.tmps[22]?.getD undef = .agg #[.float .f32 h.s, .float .f32 h.t, .float .f32 h.u] := Reg.slot_val (hd 17 (by kernel_rfl) 22 rfl)
      go_simp
      refine (l01Inner _ _ _ _ _ _ _ _ _ _ _ _ _ I.out.2.2.2.1 I.out.2.2.2.2.1 I.out.2.2.2.2.2 I.out.2.2.2.1 I.out.2.2.2.2.1 I.out.2.2.2.2.2).mono ?_
      rintro en w2 ⟨r, rfl, hr, hB2⟩
      exact hK _ _ (fun _ => ⟨r, rfl, hr⟩) (fun h => by cases h) (HC.out.call hB2) (TV.call hB2)
    · rintro a w1 hC hx hd K hK
      have HC := Lib.hid hC
      clear hC
      obtain ⟨r14, g14, f14⟩ := hd 9 (by kernel_rfl) 14 rfl
      have t14 := Reg.slot_val g14
      clear g14
      obtain ⟨r23, g23, f23⟩ := hd 18 (by kernel_rfl) 23 rfl
      have t23 := Reg.slot_val g23
      clear g23
      go_simp
      exact hK _ _ (fun _ => ⟨_, rfl, FV_fR f14 f23⟩) (fun h => by cases h) (HC.out.drewN _) (TV.drewN _)
    · rintro a w1 hC hx hd K hK
      have HC := Lib.hid hC
      clear hC
      have t8 : a.tmps[8]?.getD undef = .agg #[.float .f32 h.s, .float .f32 h.t, .float .f32 h.u] := Reg.slot_val (hd 3 (by kernel_rfl) 8 rfl)
      obtain ⟨r24, g24, f24⟩ := hd 19 (by kernel_rfl) 24 rfl
      have t24 := Reg.slot_val g24
      clear g24
      go_simp
      refine (l01Scale _ _ _ _ _ _ _ _ _ I.out.2.2.2.1 I.out.2.2.2.2.1 I.out.2.2.2.2.2 f24).mono ?_
      rintro en w2 ⟨p', q', r', rfl, fp', fq', fr', hB2⟩
      exact hK _ _ (fun _ => ⟨p', q', r', rfl, fp', fq', fr'⟩) (fun h => by cases h) (HC.out.call hB2) (TV.call hB2)
    · rintro a w1 hC hx hd K hK
      have HC := Lib.hid hC
      clear hC
      have t4 : a.tmps[4]?.getD undef = .pointer (some ⟨w.heap.size + 1, 0, none⟩) := Reg.slot_val (hx 4 (by kernel_rfl))
      obtain ⟨p25, q25, r25, g25, f25⟩ := hd 20 (by kernel_rfl) 25 rfl
      have t25 := Reg.slot_val g25
      clear g25
      obtain ⟨u0, u1, u2, x0, x1, x2⟩ := HC.out.cells
      have k0 := HC.out.free 0
      have k1 := HC.out.free 1
      have k2 := HC.out.free 2
      go_simp
      exact hK undef _ (fun h => absurd rfl h) (fun _ => TV.put HC.out f25) (HC.out.put _ _ _) (fun _ => TV.put HC.out f25)
  rintro f w1 hC hd hT
  obtain ⟨x, y, z, ⟨x0, x1, x2⟩, hf⟩ := hT 21 rfl (by decide)
  simp only [Reg.mixL]
  have HC := Lib.hid hC
  clear hC hd hT
  go_wp2
  refine bodyPost_ret (v := vv x y z) (by simp [results, Try.results193, go_sem, x0, x1, x2]) rfl ⟨x, y, z, rfl, hf, HC.out.bel⟩
end Go.Proofs.Ytmbekamnogbgaaa


/-
What a hold leaves of a force: the program and the model. Conditions: none beyond that the words fit.
-/
namespace Go.Proofs.Ytmbekamnogbgaaa
open Go Fk Go.RowKit
set_option linter.unusedVariables false
set_option maxRecDepth 8000

/-- The hold as a value of the interface. -/
def ifV (h : HW) : Value := if h.k = 1 then .iface 221 h.v else if h.k = 2 then .iface 223 h.v else .iface 233 h.v
theorem impl_restraint (h : HW) (w : World) :
    Calls Try.prog 195 #[h.v] w fun e w' => e = .returned (ifV h) ∧ Below w.heap.size w w' := by
  have ui := Try.underlying2
  have uh := Try.underlying117
  have u1 := Try.underlying221
  have u2 := Try.underlying223
  have u3 := Try.underlying233
  unfold ifV
  by_cases h1 : h.k = 1
  · have e1 : (h.k == 1) = true := by rw [h1]; rfl
    rw [if_pos h1]
    clear h1
    unfold HW.v
    go_enter Try.func195, Try.ntmps195
    go_wp2
    go_ret
    exact ⟨rfl, (Below.refl _ _).alloc (Nat.le_refl _) _⟩
  · have e1 : (h.k == 1) = false := beq_eq_false_iff_ne.2 h1
    rw [if_neg h1]
    by_cases h2 : h.k = 2
    · have e2 : (h.k == 2) = true := by rw [h2]; rfl
      rw [if_pos h2]
      clear h1 h2
      unfold HW.v
      go_enter Try.func195, Try.ntmps195
      go_wp2
      go_ret
      exact ⟨rfl, (Below.refl _ _).alloc (Nat.le_refl _) _⟩
    · have e2 : (h.k == 2) = false := beq_eq_false_iff_ne.2 h2
      rw [if_neg h2]
      clear h1 h2
      unfold HW.v
      go_enter Try.func195, Try.ntmps195
      go_wp2
      go_ret
      exact ⟨rfl, (Below.refl _ _).alloc (Nat.le_refl _) _⟩
def forceC (c : HC) (F : C3) : C3 := bif holdB c then leaveC c F else (some 0, some 0, some 0)
end Go.Proofs.Ytmbekamnogbgaaa


/-
What a hold leaves of a force: the model. Conditions: none beyond that the words fit.
-/
namespace Go.Proofs.Ytmbekamnogbgaaa
open Go Fk Go.RowKit
set_option linter.unusedVariables false
set_option maxRecDepth 8000

end Go.Proofs.Ytmbekamnogbgaaa

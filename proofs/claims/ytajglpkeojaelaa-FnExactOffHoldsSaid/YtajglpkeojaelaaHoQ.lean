
/-
Where a hold puts a place: the model, and both functions. Conditions: none beyond that the words fit.
-/
import Derived.Test.YtajglpkeojaelaaHoP
namespace Go.Proofs.Ytajglpkeojaelaa
open Go Fk Go.RowKit
set_option linter.unusedVariables false
set_option maxRecDepth 8000

set_option maxHeartbeats 1000000 in
theorem l04Put_1 (b o : Nat) (h : HW) (c : HC) (p q r : Nat) (F : C3) (w : World) (a : h.At w b o) (i : h.Is c) (f : F3 p q r F) (hk : h.k = 1) :
    Calls Try.prog 97 #[.pointer (some ⟨b, o, none⟩), vv p q r] w fun e w' => ∃ x y z, e = .returned (vv x y z) ∧ F3 x y z (sumV c.2.2.1 (alongC c (subC F c.2.2.1))) ∧ Below w.heap.size w w' := by
  have u := Try.underlying27
  have uh := Try.underlying119
  have uv := Try.underlying40
  have ui := Try.underlying2
  have e1 : (h.k == 1) = true := by rw [hk]; rfl
  clear hk
  have A := Lib.hid a
  clear a
  have I := Lib.hid i
  have FF := Lib.hid f
  clear i f
  have fr : Frm w [(w.heap.size, [.float .f32 p, .float .f32 q, .float .f32 r])] (w.heap.size + 1) ((w.alloc (.cells #[.float .f32 p, .float .f32 q, .float .f32 r] 40)).alloc (.cells #[.float .f32 0, .float .f32 0, .float .f32 0] 40)) := by
    refine ⟨((Below.refl _ _).alloc (Nat.le_refl _) _).alloc (by simp) _, ?_, by omega, ⟨.float .f32 0, .float .f32 0, .float .f32 0, by go_simp, by go_simp, by go_simp⟩, fun i => by go_simp⟩
    intro b l hm
    rcases List.mem_cons.1 hm with e | hm
    · cases e
      refine ⟨?_, by omega⟩
      exact At.new.alloc
    · cases hm
  have FR := Lib.hid fr
  clear fr
  have m1 : ((w.alloc (.cells #[.float .f32 p, .float .f32 q, .float .f32 r] 40)).alloc (.cells #[.float .f32 0, .float .f32 0, .float .f32 0] 40)).cell? ⟨b, o + 1, none⟩ = some (.int .i64 h.k) := (A.out.below FR.out.bel).c1
  go_enter Try.func97, Try.ntmps97
  go_wp2_with fail
  clear m1
  change (Code.region _ _ _).wp _ _ _ ((w.alloc (.cells #[.float .f32 p, .float .f32 q, .float .f32 r] 40)).alloc (.cells #[.float .f32 0, .float .f32 0, .float .f32 0] 40))
  generalize ((w.alloc (.cells #[.float .f32 p, .float .f32 q, .float .f32 r] 40)).alloc (.cells #[.float .f32 0, .float .f32 0, .float .f32 0] 40)) = W at *
  refine Reg2.wp_region_mix (C := Frm w [(w.heap.size, [.float .f32 p, .float .f32 q, .float .f32 r])] (w.heap.size + 1)) (G := fun w1 w2 => TV (w.heap.size + 1) (sumV c.2.2.1 (alongC c (subC F c.2.2.1))) w1 → TV (w.heap.size + 1) (sumV c.2.2.1 (alongC c (subC F c.2.2.1))) w2) (R := fun i v w' => match i with | 0 => v = .pointer (some ⟨b, o, none⟩) | 1 => v = .pointer (some ⟨b, o, none⟩) | 2 => v = .pointer (some ⟨b, o + 2, none⟩) | 3 => v = .agg #[.float .f32 h.x, .float .f32 h.y, .float .f32 h.z] | 4 => v = .pointer (some ⟨b, o, none⟩) | 5 => v = .agg #[.float .f32 p, .float .f32 q, .float .f32 r] | 6 => v = .pointer (some ⟨b, o, none⟩) | 7 => v = .pointer (some ⟨b, o, none⟩) | 8 => v = .pointer (some ⟨b, o + 2, none⟩) | 9 => v = .agg #[.float .f32 h.x, .float .f32 h.y, .float .f32 h.z] | 10 => ∃ p q r, v = vv p q r ∧ F3 p q r (subC F c.2.2.1) | 11 => ∃ p q r, v = vv p q r ∧ F3 p q r (alongC c (subC F c.2.2.1)) | 12 => ∃ p q r, v = vv p q r ∧ F3 p q r (sumV c.2.2.1 (alongC c (subC F c.2.2.1))) | _ => True) (T := fun _ w' => TV (w.heap.size + 1) (sumV c.2.2.1 (alongC c (subC F c.2.2.1))) w') [false, false, false, false, false, false, false, false, false, false, false, true, true, true, true, true, true, true, true, true, true, true, true, true, false, false, false, false, false, false, false, false, false, false, false, false, false, false, false, false]
    (by kernel_rfl) (by kernel_rfl) (by kernel_rfl) (fun _ _ _ _ _ _ h => h) (fun _ _ _ _ hG hT => hG hT) (Frm.drewN FR.out 1) ?_ ?_
  · refine ⟨Reg2.Obl.mk ?_, Reg2.Obl.mk ?_, Reg2.Obl.mk ?_, Reg2.Obl.mk ?_, Reg2.Obl.mk ?_, Reg2.Obl.mk ?_, Reg2.Obl.mk ?_, Reg2.Obl.mk ?_, Reg2.Obl.mk ?_, Reg2.Obl.mk ?_, Reg2.Obl.mk ?_, Reg2.Obl.mk ?_, Reg2.Obl.mk ?_, Reg2.Obl.mk ?_, trivial⟩
    · rintro a w1 hC hx hd K hK
      have HC := Lib.hid hC
      clear hC
      have t0 : a.tmps[0]?.getD undef = .pointer (some ⟨b, o, none⟩) := Reg.slot_val (hx 0 (by kernel_rfl))
      go_simp
      exact hK _ _ (fun _ => rfl) (fun h => by cases h) HC.out (fun h => h)
    · rintro a w1 hC hx hd K hK
      have HC := Lib.hid hC
      clear hC
      have t11 : a.tmps[11]?.getD undef = .pointer (some ⟨b, o, none⟩) := Reg.slot_val (hd 0 (by kernel_rfl) 11 rfl)
      go_simp
      exact hK _ _ (fun _ => rfl) (fun h => by cases h) HC.out (fun h => h)
    · rintro a w1 hC hx hd K hK
      have HC := Lib.hid hC
      clear hC
      have t12 : a.tmps[12]?.getD undef = .pointer (some ⟨b, o, none⟩) := Reg.slot_val (hd 1 (by kernel_rfl) 12 rfl)
      go_simp
      exact hK _ _ (fun _ => rfl) (fun h => by cases h) HC.out (fun h => h)
    · rintro a w1 hC hx hd K hK
      have HC := Lib.hid hC
      clear hC
      have y2 := (A.out.below HC.out.bel).c2
      have y3 := (A.out.below HC.out.bel).c3
      have y4 := (A.out.below HC.out.bel).c4
      have t13 : a.tmps[13]?.getD undef = .pointer (some ⟨b, o + 2, none⟩) := Reg.slot_val (hd 2 (by kernel_rfl) 13 rfl)
      go_simp
      exact hK _ _ (fun _ => rfl) (fun h => by cases h) HC.out (fun h => h)
    · rintro a w1 hC hx hd K hK
      have HC := Lib.hid hC
      clear hC
      have t0 : a.tmps[0]?.getD undef = .pointer (some ⟨b, o, none⟩) := Reg.slot_val (hx 0 (by kernel_rfl))
      go_simp
      exact hK _ _ (fun _ => rfl) (fun h => by cases h) HC.out (fun h => h)
    · rintro a w1 hC hx hd K hK
      have HC := Lib.hid hC
      clear hC
      have z0 := (HC.out.mem (.head _)) 0 _ rfl
      have z1 := (HC.out.mem (.head _)) 1 _ rfl
      have z2 := (HC.out.mem (.head _)) 2 _ rfl
      have t3 : a.tmps[3]?.getD undef = .pointer (some ⟨w.heap.size, 0, none⟩) := Reg.slot_val (hx 3 (by kernel_rfl))
      go_simp
      exact hK _ _ (fun _ => rfl) (fun h => by cases h) HC.out (fun h => h)
    · rintro a w1 hC hx hd K hK
      have HC := Lib.hid hC
      clear hC
      have t0 : a.tmps[0]?.getD undef = .pointer (some ⟨b, o, none⟩) := Reg.slot_val (hx 0 (by kernel_rfl))
      go_simp
      exact hK _ _ (fun _ => rfl) (fun h => by cases h) HC.out (fun h => h)
    · rintro a w1 hC hx hd K hK
      have HC := Lib.hid hC
      clear hC
      have t17 : a.tmps[17]?.getD undef = .pointer (some ⟨b, o, none⟩) := Reg.slot_val (hd 6 (by kernel_rfl) 17 rfl)
      go_simp
      exact hK _ _ (fun _ => rfl) (fun h => by cases h) HC.out (fun h => h)
    · rintro a w1 hC hx hd K hK
      have HC := Lib.hid hC
      clear hC
      have t18 : a.tmps[18]?.getD undef = .pointer (some ⟨b, o, none⟩) := Reg.slot_val (hd 7 (by kernel_rfl) 18 rfl)
      go_simp
      exact hK _ _ (fun _ => rfl) (fun h => by cases h) HC.out (fun h => h)
    · rintro a w1 hC hx hd K hK
      have HC := Lib.hid hC
      clear hC
      have y2 := (A.out.below HC.out.bel).c2
      have y3 := (A.out.below HC.out.bel).c3
      have y4 := (A.out.below HC.out.bel).c4
      have t19 : a.tmps[19]?.getD undef = .pointer (some ⟨b, o + 2, none⟩) := Reg.slot_val (hd 8 (by kernel_rfl) 19 rfl)
      go_simp
      exact hK _ _ (fun _ => rfl) (fun h => by cases h) HC.out (fun h => h)
    · rintro a w1 hC hx hd K hK
      have HC := Lib.hid hC
      clear hC
      have t16 : a.tmps[16]?.getD undef = .agg #[.float .f32 p, .float .f32 q, .float .f32 r] := Reg.slot_val (hd 5 (by kernel_rfl) 16 rfl)
      have t20 : a.tmps[20]?.getD undef = .agg #[.float .f32 h.x, .float .f32 h.y, .float .f32 h.z] := Reg.slot_val (hd 9 (by kernel_rfl) 20 rfl)
      go_simp
      refine (l01Less _ _ _ _ _ _ _ _ _ _ _ _ _ FF.out.1 FF.out.2.1 FF.out.2.2 I.out.2.2.1.1 I.out.2.2.1.2.1 I.out.2.2.1.2.2).mono ?_
      rintro en w2 ⟨p', q', r', rfl, fp', fq', fr', hB2⟩
      exact hK _ _ (fun _ => ⟨p', q', r', rfl, fp', fq', fr'⟩) (fun h => by cases h) (HC.out.call hB2) (TV.call hB2)
    · rintro a w1 hC hx hd K hK
      have HC := Lib.hid hC
      clear hC
      have t15 : a.tmps[15]?.getD undef = .pointer (some ⟨b, o, none⟩) := Reg.slot_val (hd 4 (by kernel_rfl) 15 rfl)
      obtain ⟨p21, q21, r21, g21, f21⟩ := hd 10 (by kernel_rfl) 21 rfl
      have t21 := Reg.slot_val g21
      clear g21
      go_simp
      refine (l04Along b o h c p21 q21 r21 (subC F c.2.2.1) _ (A.out.below HC.out.bel) I.out f21).mono ?_
      rintro en w2 ⟨p', q', r', rfl, hF, hB2⟩
      exact hK _ _ (fun _ => ⟨p', q', r', rfl, hF⟩) (fun h => by cases h) (HC.out.call hB2) (TV.call hB2)
    · rintro a w1 hC hx hd K hK
      have HC := Lib.hid hC
      clear hC
      have t14 : a.tmps[14]?.getD undef = .agg #[.float .f32 h.x, .float .f32 h.y, .float .f32 h.z] := Reg.slot_val (hd 3 (by kernel_rfl) 14 rfl)
      obtain ⟨p22, q22, r22, g22, f22⟩ := hd 11 (by kernel_rfl) 22 rfl
      have t22 := Reg.slot_val g22
      clear g22
      go_simp
      refine (l01Add _ _ _ _ _ _ _ _ _ _ _ _ _ I.out.2.2.1.1 I.out.2.2.1.2.1 I.out.2.2.1.2.2 f22.1 f22.2.1 f22.2.2).mono ?_
      rintro en w2 ⟨p', q', r', rfl, fp', fq', fr', hB2⟩
      exact hK _ _ (fun _ => ⟨p', q', r', rfl, fp', fq', fr'⟩) (fun h => by cases h) (HC.out.call hB2) (TV.call hB2)
    · rintro a w1 hC hx hd K hK
      have HC := Lib.hid hC
      clear hC
      have t4 : a.tmps[4]?.getD undef = .pointer (some ⟨w.heap.size + 1, 0, none⟩) := Reg.slot_val (hx 4 (by kernel_rfl))
      obtain ⟨p23, q23, r23, g23, f23⟩ := hd 12 (by kernel_rfl) 23 rfl
      have t23 := Reg.slot_val g23
      clear g23
      obtain ⟨u0, u1, u2, x0, x1, x2⟩ := HC.out.cells
      have k0 := HC.out.free 0
      have k1 := HC.out.free 1
      have k2 := HC.out.free 2
      go_simp
      exact hK undef _ (fun h => absurd rfl h) (fun _ => TV.put HC.out f23) (HC.out.put _ _ _) (fun _ => TV.put HC.out f23)
  rintro f w1 hC hd hT
  obtain ⟨x, y, z, ⟨x0, x1, x2⟩, hf⟩ := hT 13 rfl (by decide)
  simp only [Reg.mixL]
  have HC := Lib.hid hC
  clear hC hd hT
  go_wp2
  refine bodyPost_ret (v := vv x y z) (by simp [results, Try.results97, go_sem, x0, x1, x2]) rfl ⟨x, y, z, rfl, hf, HC.out.bel⟩
set_option maxHeartbeats 1000000 in
theorem l04Put_2 (b o : Nat) (h : HW) (c : HC) (p q r : Nat) (F : C3) (w : World) (a : h.At w b o) (i : h.Is c) (f : F3 p q r F) (hk : h.k = 2) :
    Calls Try.prog 97 #[.pointer (some ⟨b, o, none⟩), vv p q r] w fun e w' => ∃ x y z, e = .returned (vv x y z) ∧ F3 x y z (subC F (alongC c (subC F c.2.2.1))) ∧ Below w.heap.size w w' := by
  have u := Try.underlying27
  have uh := Try.underlying119
  have uv := Try.underlying40
  have ui := Try.underlying2
  have e1 : (h.k == 1) = false := by rw [hk]; rfl
  have e2 : (h.k == 2) = true := by rw [hk]; rfl
  clear hk
  have A := Lib.hid a
  clear a
  have I := Lib.hid i
  have FF := Lib.hid f
  clear i f
  have fr : Frm w [(w.heap.size, [.float .f32 p, .float .f32 q, .float .f32 r])] (w.heap.size + 1) ((w.alloc (.cells #[.float .f32 p, .float .f32 q, .float .f32 r] 40)).alloc (.cells #[.float .f32 0, .float .f32 0, .float .f32 0] 40)) := by
    refine ⟨((Below.refl _ _).alloc (Nat.le_refl _) _).alloc (by simp) _, ?_, by omega, ⟨.float .f32 0, .float .f32 0, .float .f32 0, by go_simp, by go_simp, by go_simp⟩, fun i => by go_simp⟩
    intro b l hm
    rcases List.mem_cons.1 hm with e | hm
    · cases e
      refine ⟨?_, by omega⟩
      exact At.new.alloc
    · cases hm
  have FR := Lib.hid fr
  clear fr
  have m1 : ((w.alloc (.cells #[.float .f32 p, .float .f32 q, .float .f32 r] 40)).alloc (.cells #[.float .f32 0, .float .f32 0, .float .f32 0] 40)).cell? ⟨b, o + 1, none⟩ = some (.int .i64 h.k) := (A.out.below FR.out.bel).c1
  go_enter Try.func97, Try.ntmps97
  go_wp2_with fail
  clear m1
  change (Code.region _ _ _).wp _ _ _ ((w.alloc (.cells #[.float .f32 p, .float .f32 q, .float .f32 r] 40)).alloc (.cells #[.float .f32 0, .float .f32 0, .float .f32 0] 40))
  generalize ((w.alloc (.cells #[.float .f32 p, .float .f32 q, .float .f32 r] 40)).alloc (.cells #[.float .f32 0, .float .f32 0, .float .f32 0] 40)) = W at *
  refine Reg2.wp_region_mix (C := Frm w [(w.heap.size, [.float .f32 p, .float .f32 q, .float .f32 r])] (w.heap.size + 1)) (G := fun w1 w2 => TV (w.heap.size + 1) (subC F (alongC c (subC F c.2.2.1))) w1 → TV (w.heap.size + 1) (subC F (alongC c (subC F c.2.2.1))) w2) (R := fun i v w' => match i with | 0 => v = .agg #[.float .f32 p, .float .f32 q, .float .f32 r] | 1 => v = .pointer (some ⟨b, o, none⟩) | 2 => v = .agg #[.float .f32 p, .float .f32 q, .float .f32 r] | 3 => v = .pointer (some ⟨b, o, none⟩) | 4 => v = .pointer (some ⟨b, o, none⟩) | 5 => v = .pointer (some ⟨b, o + 2, none⟩) | 6 => v = .agg #[.float .f32 h.x, .float .f32 h.y, .float .f32 h.z] | 7 => ∃ p q r, v = vv p q r ∧ F3 p q r (subC F c.2.2.1) | 8 => ∃ p q r, v = vv p q r ∧ F3 p q r (alongC c (subC F c.2.2.1)) | 9 => ∃ p q r, v = vv p q r ∧ F3 p q r (subC F (alongC c (subC F c.2.2.1))) | _ => True) (T := fun _ w' => TV (w.heap.size + 1) (subC F (alongC c (subC F c.2.2.1))) w') [false, false, false, false, false, false, false, false, false, false, false, false, false, false, false, false, false, false, false, false, false, false, false, false, false, false, true, true, true, true, true, true, true, true, true, true, false, false, false, false]
    (by kernel_rfl) (by kernel_rfl) (by kernel_rfl) (fun _ _ _ _ _ _ h => h) (fun _ _ _ _ hG hT => hG hT) (Frm.drewN FR.out 1) ?_ ?_
  · refine ⟨Reg2.Obl.mk ?_, Reg2.Obl.mk ?_, Reg2.Obl.mk ?_, Reg2.Obl.mk ?_, Reg2.Obl.mk ?_, Reg2.Obl.mk ?_, Reg2.Obl.mk ?_, Reg2.Obl.mk ?_, Reg2.Obl.mk ?_, Reg2.Obl.mk ?_, Reg2.Obl.mk ?_, trivial⟩
    · rintro a w1 hC hx hd K hK
      have HC := Lib.hid hC
      clear hC
      have z0 := (HC.out.mem (.head _)) 0 _ rfl
      have z1 := (HC.out.mem (.head _)) 1 _ rfl
      have z2 := (HC.out.mem (.head _)) 2 _ rfl
      have t3 : a.tmps[3]?.getD undef = .pointer (some ⟨w.heap.size, 0, none⟩) := Reg.slot_val (hx 3 (by kernel_rfl))
      go_simp
      exact hK _ _ (fun _ => rfl) (fun h => by cases h) HC.out (fun h => h)
    · rintro a w1 hC hx hd K hK
      have HC := Lib.hid hC
      clear hC
      have t0 : a.tmps[0]?.getD undef = .pointer (some ⟨b, o, none⟩) := Reg.slot_val (hx 0 (by kernel_rfl))
      go_simp
      exact hK _ _ (fun _ => rfl) (fun h => by cases h) HC.out (fun h => h)
    · rintro a w1 hC hx hd K hK
      have HC := Lib.hid hC
      clear hC
      have z0 := (HC.out.mem (.head _)) 0 _ rfl
      have z1 := (HC.out.mem (.head _)) 1 _ rfl
      have z2 := (HC.out.mem (.head _)) 2 _ rfl
      have t3 : a.tmps[3]?.getD undef = .pointer (some ⟨w.heap.size, 0, none⟩) := Reg.slot_val (hx 3 (by kernel_rfl))
      go_simp
      exact hK _ _ (fun _ => rfl) (fun h => by cases h) HC.out (fun h => h)
    · rintro a w1 hC hx hd K hK
      have HC := Lib.hid hC
      clear hC
      have t0 : a.tmps[0]?.getD undef = .pointer (some ⟨b, o, none⟩) := Reg.slot_val (hx 0 (by kernel_rfl))
      go_simp
      exact hK _ _ (fun _ => rfl) (fun h => by cases h) HC.out (fun h => h)
    · rintro a w1 hC hx hd K hK
      have HC := Lib.hid hC
      clear hC
      have t29 : a.tmps[29]?.getD undef = .pointer (some ⟨b, o, none⟩) := Reg.slot_val (hd 3 (by kernel_rfl) 29 rfl)
      go_simp
      exact hK _ _ (fun _ => rfl) (fun h => by cases h) HC.out (fun h => h)
    · rintro a w1 hC hx hd K hK
      have HC := Lib.hid hC
      clear hC
      have t30 : a.tmps[30]?.getD undef = .pointer (some ⟨b, o, none⟩) := Reg.slot_val (hd 4 (by kernel_rfl) 30 rfl)
      go_simp
      exact hK _ _ (fun _ => rfl) (fun h => by cases h) HC.out (fun h => h)
    · rintro a w1 hC hx hd K hK
      have HC := Lib.hid hC
      clear hC
      have y2 := (A.out.below HC.out.bel).c2
      have y3 := (A.out.below HC.out.bel).c3
      have y4 := (A.out.below HC.out.bel).c4
      have t31 : a.tmps[31]?.getD undef = .pointer (some ⟨b, o + 2, none⟩) := Reg.slot_val (hd 5 (by kernel_rfl) 31 rfl)
      go_simp
      exact hK _ _ (fun _ => rfl) (fun h => by cases h) HC.out (fun h => h)
    · rintro a w1 hC hx hd K hK
      have HC := Lib.hid hC
      clear hC
      have t28 : a.tmps[28]?.getD undef = .agg #[.float .f32 p, .float .f32 q, .float .f32 r] := Reg.slot_val (hd 2 (by kernel_rfl) 28 rfl)
      have t32 : a.tmps[32]?.getD undef = .agg #[.float .f32 h.x, .float .f32 h.y, .float .f32 h.z] := Reg.slot_val (hd 6 (by kernel_rfl) 32 rfl)
      go_simp
      refine (l01Less _ _ _ _ _ _ _ _ _ _ _ _ _ FF.out.1 FF.out.2.1 FF.out.2.2 I.out.2.2.1.1 I.out.2.2.1.2.1 I.out.2.2.1.2.2).mono ?_
      rintro en w2 ⟨p', q', r', rfl, fp', fq', fr', hB2⟩
      exact hK _ _ (fun _ => ⟨p', q', r', rfl, fp', fq', fr'⟩) (fun h => by cases h) (HC.out.call hB2) (TV.call hB2)
    · rintro a w1 hC hx hd K hK
      have HC := Lib.hid hC
      clear hC
      have t27 : a.tmps[27]?.getD undef = .pointer (some ⟨b, o, none⟩) := Reg.slot_val (hd 1 (by kernel_rfl) 27 rfl)
      obtain ⟨p33, q33, r33, g33, f33⟩ := hd 7 (by kernel_rfl) 33 rfl
      have t33 := Reg.slot_val g33
      clear g33
      go_simp
      refine (l04Along b o h c p33 q33 r33 (subC F c.2.2.1) _ (A.out.below HC.out.bel) I.out f33).mono ?_
      rintro en w2 ⟨p', q', r', rfl, hF, hB2⟩
      exact hK _ _ (fun _ => ⟨p', q', r', rfl, hF⟩) (fun h => by cases h) (HC.out.call hB2) (TV.call hB2)
    · rintro a w1 hC hx hd K hK
      have HC := Lib.hid hC
      clear hC
      have t26 : a.tmps[26]?.getD undef = .agg #[.float .f32 p, .float .f32 q, .float .f32 r] := Reg.slot_val (hd 0 (by kernel_rfl) 26 rfl)
      obtain ⟨p34, q34, r34, g34, f34⟩ := hd 8 (by kernel_rfl) 34 rfl
      have t34 := Reg.slot_val g34
      clear g34
      go_simp
      refine (l01Less _ _ _ _ _ _ _ _ _ _ _ _ _ FF.out.1 FF.out.2.1 FF.out.2.2 f34.1 f34.2.1 f34.2.2).mono ?_
      rintro en w2 ⟨p', q', r', rfl, fp', fq', fr', hB2⟩
      exact hK _ _ (fun _ => ⟨p', q', r', rfl, fp', fq', fr'⟩) (fun h => by cases h) (HC.out.call hB2) (TV.call hB2)
    · rintro a w1 hC hx hd K hK
      have HC := Lib.hid hC
      clear hC
      have t4 : a.tmps[4]?.getD undef = .pointer (some ⟨w.heap.size + 1, 0, none⟩) := Reg.slot_val (hx 4 (by kernel_rfl))
      obtain ⟨p35, q35, r35, g35, f35⟩ := hd 9 (by kernel_rfl) 35 rfl
      have t35 := Reg.slot_val g35
      clear g35
      obtain ⟨u0, u1, u2, x0, x1, x2⟩ := HC.out.cells
      have k0 := HC.out.free 0
      have k1 := HC.out.free 1
      have k2 := HC.out.free 2
      go_simp
      exact hK undef _ (fun h => absurd rfl h) (fun _ => TV.put HC.out f35) (HC.out.put _ _ _) (fun _ => TV.put HC.out f35)
  rintro f w1 hC hd hT
  obtain ⟨x, y, z, ⟨x0, x1, x2⟩, hf⟩ := hT 10 rfl (by decide)
  simp only [Reg.mixL]
  have HC := Lib.hid hC
  clear hC hd hT
  go_wp2
  refine bodyPost_ret (v := vv x y z) (by simp [results, Try.results97, go_sem, x0, x1, x2]) rfl ⟨x, y, z, rfl, hf, HC.out.bel⟩
set_option maxHeartbeats 1000000 in
theorem l04Put_0 (b o : Nat) (h : HW) (c : HC) (p q r : Nat) (F : C3) (w : World) (a : h.At w b o) (i : h.Is c) (f : F3 p q r F) (hk1 : h.k ≠ 1) (hk2 : h.k ≠ 2) :
    Calls Try.prog 97 #[.pointer (some ⟨b, o, none⟩), vv p q r] w fun e w' => ∃ x y z, e = .returned (vv x y z) ∧ F3 x y z (c.2.2.1) ∧ Below w.heap.size w w' := by
  have u := Try.underlying27
  have uh := Try.underlying119
  have uv := Try.underlying40
  have ui := Try.underlying2
  have e1 : (h.k == 1) = false := beq_eq_false_iff_ne.2 hk1
  have e2 : (h.k == 2) = false := beq_eq_false_iff_ne.2 hk2
  clear hk1 hk2
  have A := Lib.hid a
  clear a
  have I := Lib.hid i
  have FF := Lib.hid f
  clear i f
  have fr : Frm w [(w.heap.size, [.float .f32 p, .float .f32 q, .float .f32 r])] (w.heap.size + 1) ((w.alloc (.cells #[.float .f32 p, .float .f32 q, .float .f32 r] 40)).alloc (.cells #[.float .f32 0, .float .f32 0, .float .f32 0] 40)) := by
    refine ⟨((Below.refl _ _).alloc (Nat.le_refl _) _).alloc (by simp) _, ?_, by omega, ⟨.float .f32 0, .float .f32 0, .float .f32 0, by go_simp, by go_simp, by go_simp⟩, fun i => by go_simp⟩
    intro b l hm
    rcases List.mem_cons.1 hm with e | hm
    · cases e
      refine ⟨?_, by omega⟩
      exact At.new.alloc
    · cases hm
  have FR := Lib.hid fr
  clear fr
  have m1 : ((w.alloc (.cells #[.float .f32 p, .float .f32 q, .float .f32 r] 40)).alloc (.cells #[.float .f32 0, .float .f32 0, .float .f32 0] 40)).cell? ⟨b, o + 1, none⟩ = some (.int .i64 h.k) := (A.out.below FR.out.bel).c1
  have m2 : ((w.alloc (.cells #[.float .f32 p, .float .f32 q, .float .f32 r] 40)).alloc (.cells #[.float .f32 0, .float .f32 0, .float .f32 0] 40)).cell? ⟨b, o + 2, none⟩ = some (.float .f32 h.x) := (A.out.below FR.out.bel).c2
  have m3 : ((w.alloc (.cells #[.float .f32 p, .float .f32 q, .float .f32 r] 40)).alloc (.cells #[.float .f32 0, .float .f32 0, .float .f32 0] 40)).cell? ⟨b, o + 2 + 1, none⟩ = some (.float .f32 h.y) := (A.out.below FR.out.bel).c3
  have m4 : ((w.alloc (.cells #[.float .f32 p, .float .f32 q, .float .f32 r] 40)).alloc (.cells #[.float .f32 0, .float .f32 0, .float .f32 0] 40)).cell? ⟨b, o + 2 + 2, none⟩ = some (.float .f32 h.z) := (A.out.below FR.out.bel).c4
  obtain ⟨u0, u1, u2, x0, x1, x2⟩ := FR.out.cells
  have g0 := FR.out.free 0
  have g1 := FR.out.free 1
  have g2 := FR.out.free 2
  have HF := Lib.hid (FR.out.put (.float .f32 h.x) (.float .f32 h.y) (.float .f32 h.z))
  have HT := Lib.hid (TV.put FR.out (p := h.x) (q := h.y) (r := h.z) (c := c.2.2.1) (show F3 _ _ _ _ from ⟨I.out.2.2.1.1, I.out.2.2.1.2.1, I.out.2.2.1.2.2⟩))
  go_enter Try.func97, Try.ntmps97
  go_wp2_with fail
  clear x0 x1 x2 m1 m2 m3 m4
  first
    | (obtain ⟨x, y, z, ⟨x0, x1, x2⟩, hf⟩ := HT.out
       refine bodyPost_ret (v := vv x y z) (by simp [results, Try.results97, go_sem, x0, x1, x2]) rfl ⟨x, y, z, rfl, hf, HF.out.bel⟩)
    | (refine bodyPost_ret (v := vv h.x h.y h.z) (by simp [results, Try.results97, go_sem]) rfl ⟨h.x, h.y, h.z, rfl, ⟨I.out.2.2.1.1, I.out.2.2.1.2.1, I.out.2.2.1.2.2⟩, ?_⟩
       exact ((Below.refl _ _).alloc (Nat.le_refl _) _).alloc (by simp) _)
theorem l04Put (b o : Nat) (h : HW) (c : HC) (p q r : Nat) (F : C3) (w : World) (a : h.At w b o) (i : h.Is c) (f : F3 p q r F) :
    Calls Try.prog 97 #[.pointer (some ⟨b, o, none⟩), vv p q r] w fun e w' => ∃ x y z, e = .returned (vv x y z) ∧ F3 x y z (putC c F) ∧ Below w.heap.size w w' := by
  unfold putC
  by_cases h1 : c.2.1 = 1
  · rw [if_pos h1]; exact l04Put_1 b o h c p q r F w a i f (i.2.1.trans h1)
  · rw [if_neg h1]
    by_cases h2 : c.2.1 = 2
    · rw [if_pos h2]; exact l04Put_2 b o h c p q r F w a i f (i.2.1.trans h2)
    · rw [if_neg h2]; exact l04Put_0 b o h c p q r F w a i f (fun e => h1 (i.2.1.symm.trans e)) (fun e => h2 (i.2.1.symm.trans e))
def placeC (c : HC) (F : C3) : C3 := bif holdB c then putC c F else (some 0, some 0, some 0)
end Go.Proofs.Ytajglpkeojaelaa


/-
What a hold leaves of a force: the program and the model. Conditions: none beyond that the words fit.
-/
import Derived.Test.YtljpjmkickkcpaaHoE
import Derived.Handy
namespace Go.Proofs.Ytljpjmkickkcpaa
open Go Fk Go.RowKit
set_option linter.unusedVariables false
set_option maxRecDepth 8000

/-- The hold as a value of the interface. -/
def ifV (h : HW) : Value := if h.k = 1 then .iface 125 h.v else if h.k = 2 then .iface 127 h.v else .iface 128 h.v
theorem impl_restraint (h : HW) (w : World) :
    Calls Try.prog 72 #[h.v] w fun e w' => e = .returned (ifV h) ∧ Below w.heap.size w w' := by
  have ui := Try.underlying2
  have uh := Try.underlying30
  have u1 := Try.underlying125
  have u2 := Try.underlying127
  have u3 := Try.underlying128
  unfold ifV
  by_cases h1 : h.k = 1
  · have e1 : (h.k == 1) = true := by rw [h1]; rfl
    rw [if_pos h1]
    clear h1
    unfold HW.v
    go_enter Try.func72, Try.ntmps72
    go_wp2
    go_ret
    exact ⟨rfl, (Below.refl _ _).alloc (Nat.le_refl _) _⟩
  · have e1 : (h.k == 1) = false := beq_eq_false_iff_ne.2 h1
    rw [if_neg h1]
    by_cases h2 : h.k = 2
    · have e2 : (h.k == 2) = true := by rw [h2]; rfl
      rw [if_pos h2]
      clear h1 h2
      unfold HW.v
      go_enter Try.func72, Try.ntmps72
      go_wp2
      go_ret
      exact ⟨rfl, (Below.refl _ _).alloc (Nat.le_refl _) _⟩
    · have e2 : (h.k == 2) = false := beq_eq_false_iff_ne.2 h2
      rw [if_neg h2]
      clear h1 h2
      unfold HW.v
      go_enter Try.func72, Try.ntmps72
      go_wp2
      go_ret
      exact ⟨rfl, (Below.refl _ _).alloc (Nat.le_refl _) _⟩
theorem impl_fixed (h : HW) (p q r : Nat) (w : World) :
    Calls Try.prog 147 #[h.v, vv p q r] w fun e w' => ∃ x y z, e = .returned (vv x y z) ∧ F3 x y z (some 0, some 0, some 0) ∧ Below w.heap.size w w' := by
  have u := Try.underlying22
  have uv := Try.underlying28
  have u3 := Try.underlying128
  unfold HW.v
  go_enter Try.func147, Try.ntmps147
  go_wp2
  refine bodyPost_ret (v := vv 0 0 0) (by simp [results, Try.results147, go_sem]) rfl ⟨0, 0, 0, rfl, ⟨Fk.FV.zero, Fk.FV.zero, Fk.FV.zero⟩, ?_⟩
  go_grown
set_option maxHeartbeats 1000000 in
theorem impl_HoldForce_line (h : HW) (c : HC) (p q r : Nat) (F : C3) (w : World) (i : h.Is c) (f : F3 p q r F) (hb : holdB c = true) (hk : h.k = 1) :
    Calls Try.prog 28 #[h.v, vv p q r] w fun e w' => ∃ x y z, e = .returned (.tuple #[vv x y z, .bool true]) ∧ F3 x y z (alongC c F) ∧ Below w.heap.size w w' := by
  have u := Try.underlying22
  have uh := Try.underlying30
  have uv := Try.underlying28
  have ul := Try.underlying125
  have JR := fun w => impl_restraint h w
  unfold ifV at JR
  rw [if_pos hk] at JR
  have JR := Lib.hid JR
  have JH := fun w => impl_IsHold h c w i
  rw [hb] at JH
  have JH := Lib.hid JH
  clear hk hb
  have I := Lib.hid i
  have FF := Lib.hid f
  clear i f
  have fr : Frm w [(w.heap.size, h.l), (w.heap.size + 1, [.float .f32 p, .float .f32 q, .float .f32 r])] (w.heap.size + 1 + 1) (((w.alloc (HBox h 30)).alloc (.cells #[.float .f32 p, .float .f32 q, .float .f32 r] 28)).alloc (.cells #[.float .f32 0, .float .f32 0, .float .f32 0] 28)) := by
    refine ⟨(((Below.refl _ _).alloc (Nat.le_refl _) _).alloc (by simp) _).alloc (by simp; omega) _, ?_, by omega, ⟨.float .f32 0, .float .f32 0, .float .f32 0, by go_simp, by go_simp, by go_simp⟩, fun i => by go_simp⟩
    intro b l hm
    rcases List.mem_cons.1 hm with e | hm
    · cases e
      refine ⟨?_, by omega⟩
      exact At.new.alloc.alloc
    · skip
      rcases List.mem_cons.1 hm with e | hm
      · cases e
        refine ⟨?_, by omega⟩
        have := (At.new (w := w.alloc (HBox h 30)) (vs := [.float .f32 p, .float .f32 q, .float .f32 r]) (t := 28)).alloc (o := .cells #[.float .f32 0, .float .f32 0, .float .f32 0] 28)
        rw [World.size_alloc] at this
        exact this
      · cases hm
  have FR := Lib.hid fr
  clear fr
  unfold HW.v
  go_enter Try.func28, Try.ntmps28
  go_wp2_with fail
  change Calls _ _ _ (((w.alloc (HBox h 30)).alloc (.cells #[.float .f32 p, .float .f32 q, .float .f32 r] 28)).alloc (.cells #[.float .f32 0, .float .f32 0, .float .f32 0] 28)) _
  generalize (((w.alloc (HBox h 30)).alloc (.cells #[.float .f32 p, .float .f32 q, .float .f32 r] 28)).alloc (.cells #[.float .f32 0, .float .f32 0, .float .f32 0] 28)) = W at *
  refine (JH.out _).mono ?_
  rintro e w1 ⟨rfl, hB1⟩
  have FR1 := Lib.hid (FR.out.call hB1)
  clear hB1
  go_wp2_with fail
  refine Reg2.wp_region_mix (C := Frm w [(w.heap.size, h.l), (w.heap.size + 1, [.float .f32 p, .float .f32 q, .float .f32 r])] (w.heap.size + 1 + 1)) (G := fun w1 w2 => TV (w.heap.size + 1 + 1) (alongC c F) w1 → TV (w.heap.size + 1 + 1) (alongC c F) w2) (R := fun i v w' => match i with | 0 => v = .agg #[.int .i64 h.p, .int .i64 h.k, .float .f32 h.x, .float .f32 h.y, .float .f32 h.z, .float .f32 h.s, .float .f32 h.t, .float .f32 h.u] | 1 => v = .iface 125 (.agg #[.int .i64 h.p, .int .i64 h.k, .float .f32 h.x, .float .f32 h.y, .float .f32 h.z, .float .f32 h.s, .float .f32 h.t, .float .f32 h.u]) | 2 => v = .agg #[.float .f32 p, .float .f32 q, .float .f32 r] | 3 => ∃ p q r, v = vv p q r ∧ F3 p q r (alongC c F) | 5 => v = .bool true | _ => True) (T := fun _ w' => TV (w.heap.size + 1 + 1) (alongC c F) w') [false, false, false, false, false, true, false, false, false, false, true, true, true, true]
    (by kernel_rfl) (by kernel_rfl) (by kernel_rfl) (fun _ _ _ _ _ _ h => h) (fun _ _ _ _ hG hT => hG hT) (Frm.drewN FR1.out 1) ?_ ?_
  · refine ⟨Reg2.Obl.mk ?_, Reg2.Obl.mk ?_, Reg2.Obl.mk ?_, Reg2.Obl.mk ?_, Reg2.Obl.mk ?_, Reg2.Obl.mk ?_, trivial⟩
    · rintro a w1 hC hx hd K hK
      have HC := Lib.hid hC
      clear hC
      have y0 := (HC.out.mem (.head _)) 0 _ rfl
      have y1 := (HC.out.mem (.head _)) 1 _ rfl
      have y2 := (HC.out.mem (.head _)) 2 _ rfl
      have y3 := (HC.out.mem (.head _)) 3 _ rfl
      have y4 := (HC.out.mem (.head _)) 4 _ rfl
      have y5 := (HC.out.mem (.head _)) 5 _ rfl
      have y6 := (HC.out.mem (.head _)) 6 _ rfl
      have y7 := (HC.out.mem (.head _)) 7 _ rfl
      have t2 : a.tmps[2]?.getD undef = .pointer (some ⟨w.heap.size, 0, none⟩) := Reg.slot_val (hx 2 (by kernel_rfl))
      go_simp
      exact hK _ _ (fun _ => rfl) (fun h => by cases h) HC.out (fun h => h)
    · rintro a w1 hC hx hd K hK
      have HC := Lib.hid hC
      clear hC
      have t10 : a.tmps[10]?.getD undef = .agg #[.int .i64 h.p, .int .i64 h.k, .float .f32 h.x, .float .f32 h.y, .float .f32 h.z, .float .f32 h.s, .float .f32 h.t, .float .f32 h.u] := Reg.slot_val (hd 0 (by kernel_rfl) 10 rfl)
      go_simp
      refine (JR.out _).mono ?_
      rintro en w2 ⟨rfl, hB2⟩
      exact hK _ _ (fun _ => rfl) (fun h => by cases h) (HC.out.call hB2) (TV.call hB2)
    · rintro a w1 hC hx hd K hK
      have HC := Lib.hid hC
      clear hC
      have z0 := (HC.out.mem (.tail _ (.head _))) 0 _ rfl
      have z1 := (HC.out.mem (.tail _ (.head _))) 1 _ rfl
      have z2 := (HC.out.mem (.tail _ (.head _))) 2 _ rfl
      have t3 : a.tmps[3]?.getD undef = .pointer (some ⟨w.heap.size + 1, 0, none⟩) := Reg.slot_val (hx 3 (by kernel_rfl))
      go_simp
      exact hK _ _ (fun _ => rfl) (fun h => by cases h) HC.out (fun h => h)
    · rintro a w1 hC hx hd K hK
      have HC := Lib.hid hC
      clear hC
      have t11 : a.tmps[11]?.getD undef = .iface 125 (.agg #[.int .i64 h.p, .int .i64 h.k, .float .f32 h.x, .float .f32 h.y, .float .f32 h.z, .float .f32 h.s, .float .f32 h.t, .float .f32 h.u]) := Reg.slot_val (hd 1 (by kernel_rfl) 11 rfl)
      have t12 : a.tmps[12]?.getD undef = .agg #[.float .f32 p, .float .f32 q, .float .f32 r] := Reg.slot_val (hd 2 (by kernel_rfl) 12 rfl)
      go_simp
      try go_invoke
      refine (impl_line h c p q r F _ I.out FF.out).mono ?_
      rintro en w2 ⟨p', q', r', rfl, hF, hB2⟩
      exact hK _ _ (fun _ => ⟨p', q', r', rfl, hF⟩) (fun h => by cases h) (HC.out.call hB2) (TV.call hB2)
    · rintro a w1 hC hx hd K hK
      have HC := Lib.hid hC
      clear hC
      have t4 : a.tmps[4]?.getD undef = .pointer (some ⟨w.heap.size + 1 + 1, 0, none⟩) := Reg.slot_val (hx 4 (by kernel_rfl))
      obtain ⟨p13, q13, r13, g13, f13⟩ := hd 3 (by kernel_rfl) 13 rfl
      have t13 := Reg.slot_val g13
      clear g13
      obtain ⟨u0, u1, u2, x0, x1, x2⟩ := HC.out.cells
      have k0 := HC.out.free 0
      have k1 := HC.out.free 1
      have k2 := HC.out.free 2
      go_simp
      exact hK undef _ (fun h => absurd rfl h) (fun _ => TV.put HC.out f13) (HC.out.put _ _ _) (fun _ => TV.put HC.out f13)
    · rintro a w1 hC hx hd K hK
      have HC := Lib.hid hC
      clear hC
      go_simp
      exact hK _ _ (fun _ => rfl) (fun h => by cases h) HC.out (fun h => h)
  rintro f w1 hC hd hT
  obtain ⟨x, y, z, ⟨x0, x1, x2⟩, hf⟩ := hT 4 rfl (by decide)
  have g5 : f 5 = .bool true := hd 5 5 rfl
  simp only [Reg.mixL, g5]
  have HC := Lib.hid hC
  clear hC hd hT
  go_wp2
  refine bodyPost_ret (v := .tuple #[vv x y z, .bool true]) (by simp [results, Try.results28, go_sem, x0, x1, x2]) rfl ⟨x, y, z, rfl, hf, HC.out.bel⟩
set_option maxHeartbeats 1000000 in
theorem impl_HoldForce_plane (h : HW) (c : HC) (p q r : Nat) (F : C3) (w : World) (i : h.Is c) (f : F3 p q r F) (hb : holdB c = true) (hk : h.k = 2) :
    Calls Try.prog 28 #[h.v, vv p q r] w fun e w' => ∃ x y z, e = .returned (.tuple #[vv x y z, .bool true]) ∧ F3 x y z (subC F (alongC c F)) ∧ Below w.heap.size w w' := by
  have u := Try.underlying22
  have uh := Try.underlying30
  have uv := Try.underlying28
  have ul := Try.underlying127
  have JR := fun w => impl_restraint h w
  unfold ifV at JR
  rw [if_neg (by omega), if_pos hk] at JR
  have JR := Lib.hid JR
  have JH := fun w => impl_IsHold h c w i
  rw [hb] at JH
  have JH := Lib.hid JH
  clear hk hb
  have I := Lib.hid i
  have FF := Lib.hid f
  clear i f
  have fr : Frm w [(w.heap.size, h.l), (w.heap.size + 1, [.float .f32 p, .float .f32 q, .float .f32 r])] (w.heap.size + 1 + 1) (((w.alloc (HBox h 30)).alloc (.cells #[.float .f32 p, .float .f32 q, .float .f32 r] 28)).alloc (.cells #[.float .f32 0, .float .f32 0, .float .f32 0] 28)) := by
    refine ⟨(((Below.refl _ _).alloc (Nat.le_refl _) _).alloc (by simp) _).alloc (by simp; omega) _, ?_, by omega, ⟨.float .f32 0, .float .f32 0, .float .f32 0, by go_simp, by go_simp, by go_simp⟩, fun i => by go_simp⟩
    intro b l hm
    rcases List.mem_cons.1 hm with e | hm
    · cases e
      refine ⟨?_, by omega⟩
      exact At.new.alloc.alloc
    · skip
      rcases List.mem_cons.1 hm with e | hm
      · cases e
        refine ⟨?_, by omega⟩
        have := (At.new (w := w.alloc (HBox h 30)) (vs := [.float .f32 p, .float .f32 q, .float .f32 r]) (t := 28)).alloc (o := .cells #[.float .f32 0, .float .f32 0, .float .f32 0] 28)
        rw [World.size_alloc] at this
        exact this
      · cases hm
  have FR := Lib.hid fr
  clear fr
  unfold HW.v
  go_enter Try.func28, Try.ntmps28
  go_wp2_with fail
  change Calls _ _ _ (((w.alloc (HBox h 30)).alloc (.cells #[.float .f32 p, .float .f32 q, .float .f32 r] 28)).alloc (.cells #[.float .f32 0, .float .f32 0, .float .f32 0] 28)) _
  generalize (((w.alloc (HBox h 30)).alloc (.cells #[.float .f32 p, .float .f32 q, .float .f32 r] 28)).alloc (.cells #[.float .f32 0, .float .f32 0, .float .f32 0] 28)) = W at *
  refine (JH.out _).mono ?_
  rintro e w1 ⟨rfl, hB1⟩
  have FR1 := Lib.hid (FR.out.call hB1)
  clear hB1
  go_wp2_with fail
  refine Reg2.wp_region_mix (C := Frm w [(w.heap.size, h.l), (w.heap.size + 1, [.float .f32 p, .float .f32 q, .float .f32 r])] (w.heap.size + 1 + 1)) (G := fun w1 w2 => TV (w.heap.size + 1 + 1) (subC F (alongC c F)) w1 → TV (w.heap.size + 1 + 1) (subC F (alongC c F)) w2) (R := fun i v w' => match i with | 0 => v = .agg #[.int .i64 h.p, .int .i64 h.k, .float .f32 h.x, .float .f32 h.y, .float .f32 h.z, .float .f32 h.s, .float .f32 h.t, .float .f32 h.u] | 1 => v = .iface 127 (.agg #[.int .i64 h.p, .int .i64 h.k, .float .f32 h.x, .float .f32 h.y, .float .f32 h.z, .float .f32 h.s, .float .f32 h.t, .float .f32 h.u]) | 2 => v = .agg #[.float .f32 p, .float .f32 q, .float .f32 r] | 3 => ∃ p q r, v = vv p q r ∧ F3 p q r (subC F (alongC c F)) | 5 => v = .bool true | _ => True) (T := fun _ w' => TV (w.heap.size + 1 + 1) (subC F (alongC c F)) w') [false, false, false, false, false, true, false, false, false, false, true, true, true, true]
    (by kernel_rfl) (by kernel_rfl) (by kernel_rfl) (fun _ _ _ _ _ _ h => h) (fun _ _ _ _ hG hT => hG hT) (Frm.drewN FR1.out 1) ?_ ?_
  · refine ⟨Reg2.Obl.mk ?_, Reg2.Obl.mk ?_, Reg2.Obl.mk ?_, Reg2.Obl.mk ?_, Reg2.Obl.mk ?_, Reg2.Obl.mk ?_, trivial⟩
    · rintro a w1 hC hx hd K hK
      have HC := Lib.hid hC
      clear hC
      have y0 := (HC.out.mem (.head _)) 0 _ rfl
      have y1 := (HC.out.mem (.head _)) 1 _ rfl
      have y2 := (HC.out.mem (.head _)) 2 _ rfl
      have y3 := (HC.out.mem (.head _)) 3 _ rfl
      have y4 := (HC.out.mem (.head _)) 4 _ rfl
      have y5 := (HC.out.mem (.head _)) 5 _ rfl
      have y6 := (HC.out.mem (.head _)) 6 _ rfl
      have y7 := (HC.out.mem (.head _)) 7 _ rfl
      have t2 : a.tmps[2]?.getD undef = .pointer (some ⟨w.heap.size, 0, none⟩) := Reg.slot_val (hx 2 (by kernel_rfl))
      go_simp
      exact hK _ _ (fun _ => rfl) (fun h => by cases h) HC.out (fun h => h)
    · rintro a w1 hC hx hd K hK
      have HC := Lib.hid hC
      clear hC
      have t10 : a.tmps[10]?.getD undef = .agg #[.int .i64 h.p, .int .i64 h.k, .float .f32 h.x, .float .f32 h.y, .float .f32 h.z, .float .f32 h.s, .float .f32 h.t, .float .f32 h.u] := Reg.slot_val (hd 0 (by kernel_rfl) 10 rfl)
      go_simp
      refine (JR.out _).mono ?_
      rintro en w2 ⟨rfl, hB2⟩
      exact hK _ _ (fun _ => rfl) (fun h => by cases h) (HC.out.call hB2) (TV.call hB2)
    · rintro a w1 hC hx hd K hK
      have HC := Lib.hid hC
      clear hC
      have z0 := (HC.out.mem (.tail _ (.head _))) 0 _ rfl
      have z1 := (HC.out.mem (.tail _ (.head _))) 1 _ rfl
      have z2 := (HC.out.mem (.tail _ (.head _))) 2 _ rfl
      have t3 : a.tmps[3]?.getD undef = .pointer (some ⟨w.heap.size + 1, 0, none⟩) := Reg.slot_val (hx 3 (by kernel_rfl))
      go_simp
      exact hK _ _ (fun _ => rfl) (fun h => by cases h) HC.out (fun h => h)
    · rintro a w1 hC hx hd K hK
      have HC := Lib.hid hC
      clear hC
      have t11 : a.tmps[11]?.getD undef = .iface 127 (.agg #[.int .i64 h.p, .int .i64 h.k, .float .f32 h.x, .float .f32 h.y, .float .f32 h.z, .float .f32 h.s, .float .f32 h.t, .float .f32 h.u]) := Reg.slot_val (hd 1 (by kernel_rfl) 11 rfl)
      have t12 : a.tmps[12]?.getD undef = .agg #[.float .f32 p, .float .f32 q, .float .f32 r] := Reg.slot_val (hd 2 (by kernel_rfl) 12 rfl)
      go_simp
      try go_invoke
      refine (impl_plane h c p q r F _ I.out FF.out).mono ?_
      rintro en w2 ⟨p', q', r', rfl, hF, hB2⟩
      exact hK _ _ (fun _ => ⟨p', q', r', rfl, hF⟩) (fun h => by cases h) (HC.out.call hB2) (TV.call hB2)
    · rintro a w1 hC hx hd K hK
      have HC := Lib.hid hC
      clear hC
      have t4 : a.tmps[4]?.getD undef = .pointer (some ⟨w.heap.size + 1 + 1, 0, none⟩) := Reg.slot_val (hx 4 (by kernel_rfl))
      obtain ⟨p13, q13, r13, g13, f13⟩ := hd 3 (by kernel_rfl) 13 rfl
      have t13 := Reg.slot_val g13
      clear g13
      obtain ⟨u0, u1, u2, x0, x1, x2⟩ := HC.out.cells
      have k0 := HC.out.free 0
      have k1 := HC.out.free 1
      have k2 := HC.out.free 2
      go_simp
      exact hK undef _ (fun h => absurd rfl h) (fun _ => TV.put HC.out f13) (HC.out.put _ _ _) (fun _ => TV.put HC.out f13)
    · rintro a w1 hC hx hd K hK
      have HC := Lib.hid hC
      clear hC
      go_simp
      exact hK _ _ (fun _ => rfl) (fun h => by cases h) HC.out (fun h => h)
  rintro f w1 hC hd hT
  obtain ⟨x, y, z, ⟨x0, x1, x2⟩, hf⟩ := hT 4 rfl (by decide)
  have g5 : f 5 = .bool true := hd 5 5 rfl
  simp only [Reg.mixL, g5]
  have HC := Lib.hid hC
  clear hC hd hT
  go_wp2
  refine bodyPost_ret (v := .tuple #[vv x y z, .bool true]) (by simp [results, Try.results28, go_sem, x0, x1, x2]) rfl ⟨x, y, z, rfl, hf, HC.out.bel⟩
set_option maxHeartbeats 1000000 in
theorem impl_HoldForce_fixed (h : HW) (c : HC) (p q r : Nat) (F : C3) (w : World) (i : h.Is c) (f : F3 p q r F) (hb : holdB c = true) (hk1 : h.k ≠ 1) (hk2 : h.k ≠ 2) :
    Calls Try.prog 28 #[h.v, vv p q r] w fun e w' => ∃ x y z, e = .returned (.tuple #[vv x y z, .bool true]) ∧ F3 x y z ((some 0, some 0, some 0)) ∧ Below w.heap.size w w' := by
  have u := Try.underlying22
  have uh := Try.underlying30
  have uv := Try.underlying28
  have ul := Try.underlying128
  have JR := fun w => impl_restraint h w
  unfold ifV at JR
  rw [if_neg hk1, if_neg hk2] at JR
  have JR := Lib.hid JR
  have JH := fun w => impl_IsHold h c w i
  rw [hb] at JH
  have JH := Lib.hid JH
  clear hk1 hk2 hb
  have I := Lib.hid i
  have FF := Lib.hid f
  clear i f
  have fr : Frm w [(w.heap.size, h.l), (w.heap.size + 1, [.float .f32 p, .float .f32 q, .float .f32 r])] (w.heap.size + 1 + 1) (((w.alloc (HBox h 30)).alloc (.cells #[.float .f32 p, .float .f32 q, .float .f32 r] 28)).alloc (.cells #[.float .f32 0, .float .f32 0, .float .f32 0] 28)) := by
    refine ⟨(((Below.refl _ _).alloc (Nat.le_refl _) _).alloc (by simp) _).alloc (by simp; omega) _, ?_, by omega, ⟨.float .f32 0, .float .f32 0, .float .f32 0, by go_simp, by go_simp, by go_simp⟩, fun i => by go_simp⟩
    intro b l hm
    rcases List.mem_cons.1 hm with e | hm
    · cases e
      refine ⟨?_, by omega⟩
      exact At.new.alloc.alloc
    · skip
      rcases List.mem_cons.1 hm with e | hm
      · cases e
        refine ⟨?_, by omega⟩
        have := (At.new (w := w.alloc (HBox h 30)) (vs := [.float .f32 p, .float .f32 q, .float .f32 r]) (t := 28)).alloc (o := .cells #[.float .f32 0, .float .f32 0, .float .f32 0] 28)
        rw [World.size_alloc] at this
        exact this
      · cases hm
  have FR := Lib.hid fr
  clear fr
  unfold HW.v
  go_enter Try.func28, Try.ntmps28
  go_wp2_with fail
  change Calls _ _ _ (((w.alloc (HBox h 30)).alloc (.cells #[.float .f32 p, .float .f32 q, .float .f32 r] 28)).alloc (.cells #[.float .f32 0, .float .f32 0, .float .f32 0] 28)) _
  generalize (((w.alloc (HBox h 30)).alloc (.cells #[.float .f32 p, .float .f32 q, .float .f32 r] 28)).alloc (.cells #[.float .f32 0, .float .f32 0, .float .f32 0] 28)) = W at *
  refine (JH.out _).mono ?_
  rintro e w1 ⟨rfl, hB1⟩
  have FR1 := Lib.hid (FR.out.call hB1)
  clear hB1
  go_wp2_with fail
  refine Reg2.wp_region_mix (C := Frm w [(w.heap.size, h.l), (w.heap.size + 1, [.float .f32 p, .float .f32 q, .float .f32 r])] (w.heap.size + 1 + 1)) (G := fun w1 w2 => TV (w.heap.size + 1 + 1) ((some 0, some 0, some 0)) w1 → TV (w.heap.size + 1 + 1) ((some 0, some 0, some 0)) w2) (R := fun i v w' => match i with | 0 => v = .agg #[.int .i64 h.p, .int .i64 h.k, .float .f32 h.x, .float .f32 h.y, .float .f32 h.z, .float .f32 h.s, .float .f32 h.t, .float .f32 h.u] | 1 => v = .iface 128 (.agg #[.int .i64 h.p, .int .i64 h.k, .float .f32 h.x, .float .f32 h.y, .float .f32 h.z, .float .f32 h.s, .float .f32 h.t, .float .f32 h.u]) | 2 => v = .agg #[.float .f32 p, .float .f32 q, .float .f32 r] | 3 => ∃ p q r, v = vv p q r ∧ F3 p q r ((some 0, some 0, some 0)) | 5 => v = .bool true | _ => True) (T := fun _ w' => TV (w.heap.size + 1 + 1) ((some 0, some 0, some 0)) w') [false, false, false, false, false, true, false, false, false, false, true, true, true, true]
    (by kernel_rfl) (by kernel_rfl) (by kernel_rfl) (fun _ _ _ _ _ _ h => h) (fun _ _ _ _ hG hT => hG hT) (Frm.drewN FR1.out 1) ?_ ?_
  · refine ⟨Reg2.Obl.mk ?_, Reg2.Obl.mk ?_, Reg2.Obl.mk ?_, Reg2.Obl.mk ?_, Reg2.Obl.mk ?_, Reg2.Obl.mk ?_, trivial⟩
    · rintro a w1 hC hx hd K hK
      have HC := Lib.hid hC
      clear hC
      have y0 := (HC.out.mem (.head _)) 0 _ rfl
      have y1 := (HC.out.mem (.head _)) 1 _ rfl
      have y2 := (HC.out.mem (.head _)) 2 _ rfl
      have y3 := (HC.out.mem (.head _)) 3 _ rfl
      have y4 := (HC.out.mem (.head _)) 4 _ rfl
      have y5 := (HC.out.mem (.head _)) 5 _ rfl
      have y6 := (HC.out.mem (.head _)) 6 _ rfl
      have y7 := (HC.out.mem (.head _)) 7 _ rfl
      have t2 : a.tmps[2]?.getD undef = .pointer (some ⟨w.heap.size, 0, none⟩) := Reg.slot_val (hx 2 (by kernel_rfl))
      go_simp
      exact hK _ _ (fun _ => rfl) (fun h => by cases h) HC.out (fun h => h)
    · rintro a w1 hC hx hd K hK
      have HC := Lib.hid hC
      clear hC
      have t10 : a.tmps[10]?.getD undef = .agg #[.int .i64 h.p, .int .i64 h.k, .float .f32 h.x, .float .f32 h.y, .float .f32 h.z, .float .f32 h.s, .float .f32 h.t, .float .f32 h.u] := Reg.slot_val (hd 0 (by kernel_rfl) 10 rfl)
      go_simp
      refine (JR.out _).mono ?_
      rintro en w2 ⟨rfl, hB2⟩
      exact hK _ _ (fun _ => rfl) (fun h => by cases h) (HC.out.call hB2) (TV.call hB2)
    · rintro a w1 hC hx hd K hK
      have HC := Lib.hid hC
      clear hC
      have z0 := (HC.out.mem (.tail _ (.head _))) 0 _ rfl
      have z1 := (HC.out.mem (.tail _ (.head _))) 1 _ rfl
      have z2 := (HC.out.mem (.tail _ (.head _))) 2 _ rfl
      have t3 : a.tmps[3]?.getD undef = .pointer (some ⟨w.heap.size + 1, 0, none⟩) := Reg.slot_val (hx 3 (by kernel_rfl))
      go_simp
      exact hK _ _ (fun _ => rfl) (fun h => by cases h) HC.out (fun h => h)
    · rintro a w1 hC hx hd K hK
      have HC := Lib.hid hC
      clear hC
      have t11 : a.tmps[11]?.getD undef = .iface 128 (.agg #[.int .i64 h.p, .int .i64 h.k, .float .f32 h.x, .float .f32 h.y, .float .f32 h.z, .float .f32 h.s, .float .f32 h.t, .float .f32 h.u]) := Reg.slot_val (hd 1 (by kernel_rfl) 11 rfl)
      have t12 : a.tmps[12]?.getD undef = .agg #[.float .f32 p, .float .f32 q, .float .f32 r] := Reg.slot_val (hd 2 (by kernel_rfl) 12 rfl)
      go_simp
      try go_invoke
      refine (impl_fixed h p q r _).mono ?_
      rintro en w2 ⟨p', q', r', rfl, hF, hB2⟩
      exact hK _ _ (fun _ => ⟨p', q', r', rfl, hF⟩) (fun h => by cases h) (HC.out.call hB2) (TV.call hB2)
    · rintro a w1 hC hx hd K hK
      have HC := Lib.hid hC
      clear hC
      have t4 : a.tmps[4]?.getD undef = .pointer (some ⟨w.heap.size + 1 + 1, 0, none⟩) := Reg.slot_val (hx 4 (by kernel_rfl))
      obtain ⟨p13, q13, r13, g13, f13⟩ := hd 3 (by kernel_rfl) 13 rfl
      have t13 := Reg.slot_val g13
      clear g13
      obtain ⟨u0, u1, u2, x0, x1, x2⟩ := HC.out.cells
      have k0 := HC.out.free 0
      have k1 := HC.out.free 1
      have k2 := HC.out.free 2
      go_simp
      exact hK undef _ (fun h => absurd rfl h) (fun _ => TV.put HC.out f13) (HC.out.put _ _ _) (fun _ => TV.put HC.out f13)
    · rintro a w1 hC hx hd K hK
      have HC := Lib.hid hC
      clear hC
      go_simp
      exact hK _ _ (fun _ => rfl) (fun h => by cases h) HC.out (fun h => h)
  rintro f w1 hC hd hT
  obtain ⟨x, y, z, ⟨x0, x1, x2⟩, hf⟩ := hT 4 rfl (by decide)
  have g5 : f 5 = .bool true := hd 5 5 rfl
  simp only [Reg.mixL, g5]
  have HC := Lib.hid hC
  clear hC hd hT
  go_wp2
  refine bodyPost_ret (v := .tuple #[vv x y z, .bool true]) (by simp [results, Try.results28, go_sem, x0, x1, x2]) rfl ⟨x, y, z, rfl, hf, HC.out.bel⟩
def forceC (c : HC) (F : C3) : C3 := bif holdB c then leaveC c F else (some 0, some 0, some 0)
theorem impl_HoldForce (h : HW) (c : HC) (p q r : Nat) (F : C3) (w : World) (i : h.Is c) (f : F3 p q r F) :
    Calls Try.prog 28 #[h.v, vv p q r] w fun e w' => ∃ x y z, e = .returned (.tuple #[vv x y z, .bool (holdB c)]) ∧ F3 x y z (forceC c F) ∧ Below w.heap.size w w' := by
  unfold forceC
  cases hb : holdB c
  · have uh := Try.underlying30
    have uv := Try.underlying28
    have JH := fun w => impl_IsHold h c w i
    rw [hb] at JH
    have JH := Lib.hid JH
    clear hb
    have I := Lib.hid i
    have FF := Lib.hid f
    clear i f
    have fr : Frm w [(w.heap.size, h.l), (w.heap.size + 1, [.float .f32 p, .float .f32 q, .float .f32 r])] (w.heap.size + 1 + 1) (((w.alloc (HBox h 30)).alloc (.cells #[.float .f32 p, .float .f32 q, .float .f32 r] 28)).alloc (.cells #[.float .f32 0, .float .f32 0, .float .f32 0] 28)) := by
      refine ⟨(((Below.refl _ _).alloc (Nat.le_refl _) _).alloc (by simp) _).alloc (by simp; omega) _, ?_, by omega, ⟨.float .f32 0, .float .f32 0, .float .f32 0, by go_simp, by go_simp, by go_simp⟩, fun i => by go_simp⟩
      intro b l hm
      rcases List.mem_cons.1 hm with e | hm
      · cases e
        refine ⟨?_, by omega⟩
        exact At.new.alloc.alloc
      · skip
        rcases List.mem_cons.1 hm with e | hm
        · cases e
          refine ⟨?_, by omega⟩
          have := (At.new (w := w.alloc (HBox h 30)) (vs := [.float .f32 p, .float .f32 q, .float .f32 r]) (t := 28)).alloc (o := .cells #[.float .f32 0, .float .f32 0, .float .f32 0] 28)
          rw [World.size_alloc] at this
          exact this
        · cases hm
    have FR := Lib.hid fr
    clear fr
    unfold HW.v
    go_enter Try.func28, Try.ntmps28
    go_wp2_with fail
    change Calls _ _ _ (((w.alloc (HBox h 30)).alloc (.cells #[.float .f32 p, .float .f32 q, .float .f32 r] 28)).alloc (.cells #[.float .f32 0, .float .f32 0, .float .f32 0] 28)) _
    generalize (((w.alloc (HBox h 30)).alloc (.cells #[.float .f32 p, .float .f32 q, .float .f32 r] 28)).alloc (.cells #[.float .f32 0, .float .f32 0, .float .f32 0] 28)) = W at *
    refine (JH.out _).mono ?_
    rintro e w1 ⟨rfl, hB1⟩
    have FR1 := FR.out.call hB1
    obtain ⟨u0, u1, u2, x0, x1, x2⟩ := FR1.cells
    have k0 := FR1.free 0
    have k1 := FR1.free 1
    have k2 := FR1.free 2
    have HF := Lib.hid (FR1.put (.float .f32 0) (.float .f32 0) (.float .f32 0))
    have HT := Lib.hid (TV.put FR1 (p := 0) (q := 0) (r := 0) (c := (some 0, some 0, some 0)) ⟨Fk.FV.zero, Fk.FV.zero, Fk.FV.zero⟩)
    clear hB1 FR1
    go_wp2
    clear x0 x1 x2
    obtain ⟨x, y, z, ⟨x0, x1, x2⟩, hf⟩ := HT.out
    refine bodyPost_ret (v := .tuple #[vv x y z, .bool false]) (by simp [results, Try.results28, go_sem, x0, x1, x2]) rfl ⟨x, y, z, rfl, hf, HF.out.bel⟩
  · show Calls _ _ _ _ fun e w' => ∃ x y z, e = .returned (.tuple #[vv x y z, .bool true]) ∧ F3 x y z (leaveC c F) ∧ Below w.heap.size w w'
    unfold leaveC
    by_cases h1 : c.2.1 = 1
    · rw [if_pos h1]; exact impl_HoldForce_line h c p q r F w i f hb (i.2.1.trans h1)
    · rw [if_neg h1]
      by_cases h2 : c.2.1 = 2
      · rw [if_pos h2]; exact impl_HoldForce_plane h c p q r F w i f hb (i.2.1.trans h2)
      · rw [if_neg h2]; exact impl_HoldForce_fixed h c p q r F w i f hb (fun e => h1 (i.2.1.symm.trans e)) (fun e => h2 (i.2.1.symm.trans e))
end Go.Proofs.Ytljpjmkickkcpaa

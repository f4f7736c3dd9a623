
/-
Where a hold puts a place: the program and the model. Conditions: none beyond that the words fit.
-/
import Derived.Test.YtajglpkeojaelaaHoG
namespace Go.Proofs.Ytajglpkeojaelaa
open Go Fk Go.RowKit
set_option linter.unusedVariables false
set_option maxRecDepth 8000

set_option maxHeartbeats 1000000 in
theorem impl_puts_line (h : HW) (c : HC) (p q r : Nat) (F : C3) (w : World) (i : h.Is c) (f : F3 p q r F) (hk : h.k = 1) :
    Calls Try.prog 100 #[h.v, vv p q r] w fun e w' => ∃ x y z, e = .returned (vv x y z) ∧ F3 x y z (sumV c.2.2.1 (alongC c (subC F c.2.2.1))) ∧ Below w.heap.size w w' := by
  have u := Try.underlying27
  have uh := Try.underlying119
  have uv := Try.underlying40
  have ul1 := Try.underlying178
  have ul2 := Try.underlying180
  have ul3 := Try.underlying181
  have JR := fun w => impl_restraint h w
  unfold ifV at JR
  rw [if_pos hk] at JR
  unfold HW.v at JR
  have JR := Lib.hid JR
  have tA : ∀ (v : Value) (w : World), (Instr.typeAssert (.iface 178 v) 130 178 true).run Try.prog w = .ok (.tuple #[v, .bool true]) w := fun v w => by kernel_rfl
  have tB : ∀ (v : Value) (w : World), (Instr.typeAssert (.iface 178 v) 130 180 true).run Try.prog w = .ok (.tuple #[.agg #[.int .i64 0, .int .i64 0, .float .f32 0, .float .f32 0, .float .f32 0, .float .f32 0, .float .f32 0, .float .f32 0], .bool false]) w := fun v w => by kernel_rfl
  clear hk
  have I := Lib.hid i
  have FF := Lib.hid f
  clear i f
  have fr : Frm w [(w.heap.size, h.l), (w.heap.size + 1, [.float .f32 p, .float .f32 q, .float .f32 r])] (w.heap.size + 1 + 1) (((w.alloc (HBox h 119)).alloc (.cells #[.float .f32 p, .float .f32 q, .float .f32 r] 40)).alloc (.cells #[.float .f32 0, .float .f32 0, .float .f32 0] 40)) := by
    refine ⟨(((Below.refl _ _).alloc (Nat.le_refl _) _).alloc (by simp) _).alloc (by simp; omega) _, ?_, by omega, ⟨.float .f32 0, .float .f32 0, .float .f32 0, by go_simp, by go_simp, by go_simp⟩, fun i => by go_simp⟩
    intro b l hm
    rcases List.mem_cons.1 hm with e | hm
    · cases e
      refine ⟨?_, by omega⟩
      exact At.new.alloc.alloc
    · skip
      rcases List.mem_cons.1 hm with e | hm
      · cases e
        refine ⟨?_, by omega⟩
        have := (At.new (w := w.alloc (HBox h 119)) (vs := [.float .f32 p, .float .f32 q, .float .f32 r]) (t := 40)).alloc (o := .cells #[.float .f32 0, .float .f32 0, .float .f32 0] 40)
        rw [World.size_alloc] at this
        exact this
      · cases hm
  have FR := Lib.hid fr
  clear fr
  unfold HW.v
  go_enter Try.func100, Try.ntmps100
  go_wp2_with fail
  change Calls _ _ _ (((w.alloc (HBox h 119)).alloc (.cells #[.float .f32 p, .float .f32 q, .float .f32 r] 40)).alloc (.cells #[.float .f32 0, .float .f32 0, .float .f32 0] 40)) _
  generalize hWW : (((w.alloc (HBox h 119)).alloc (.cells #[.float .f32 p, .float .f32 q, .float .f32 r] 40)).alloc (.cells #[.float .f32 0, .float .f32 0, .float .f32 0] 40)) = W at *
  have hws : W.heap.size = w.heap.size + 1 + 1 + 1 := by rw [← hWW]; simp
  clear hWW
  refine (impl_LessVectors _ _ _ _ _ _ _ _ _ _ _ _ _ FF.out.1 FF.out.2.1 FF.out.2.2 I.out.2.2.1.1 I.out.2.2.1.2.1 I.out.2.2.1.2.2).mono ?_
  rintro e w1 ⟨dx, dy, dz, rfl, fdx, fdy, fdz, hB1⟩
  have hz1 := hB1.size
  have FD : Hid (F3 dx dy dz (subC F c.2.2.1)) := Lib.hid ⟨fdx, fdy, fdz⟩
  have FR1 := Lib.hid (FR.out.call hB1)
  clear hB1 fdx fdy fdz
  have k0 := ((FR1.out.mem (.head _)).alloc (o := .cells #[.float .f32 dx, .float .f32 dy, .float .f32 dz] 40)) 0 _ rfl
  have k1 := ((FR1.out.mem (.head _)).alloc (o := .cells #[.float .f32 dx, .float .f32 dy, .float .f32 dz] 40)) 1 _ rfl
  have k2 := ((FR1.out.mem (.head _)).alloc (o := .cells #[.float .f32 dx, .float .f32 dy, .float .f32 dz] 40)) 2 _ rfl
  have k3 := ((FR1.out.mem (.head _)).alloc (o := .cells #[.float .f32 dx, .float .f32 dy, .float .f32 dz] 40)) 3 _ rfl
  have k4 := ((FR1.out.mem (.head _)).alloc (o := .cells #[.float .f32 dx, .float .f32 dy, .float .f32 dz] 40)) 4 _ rfl
  have k5 := ((FR1.out.mem (.head _)).alloc (o := .cells #[.float .f32 dx, .float .f32 dy, .float .f32 dz] 40)) 5 _ rfl
  have k6 := ((FR1.out.mem (.head _)).alloc (o := .cells #[.float .f32 dx, .float .f32 dy, .float .f32 dz] 40)) 6 _ rfl
  have k7 := ((FR1.out.mem (.head _)).alloc (o := .cells #[.float .f32 dx, .float .f32 dy, .float .f32 dz] 40)) 7 _ rfl
  go_wp2_with fail
  clear k0 k1 k2 k3 k4 k5 k6 k7
  have hDn : Go.Proofs.Ytajglpkeojaelaa.At (w1.alloc (.cells #[.float .f32 dx, .float .f32 dy, .float .f32 dz] 40)) w1.heap.size [.float .f32 dx, .float .f32 dy, .float .f32 dz] := At.new
  have FR2 := Lib.hid (FR1.out.call ((Below.refl _ _).alloc (Nat.le_refl _) (.cells #[.float .f32 dx, .float .f32 dy, .float .f32 dz] 40)))
  have hz2 : (w1.alloc (.cells #[.float .f32 dx, .float .f32 dy, .float .f32 dz] 40)).heap.size = w1.heap.size + 1 := by simp
  generalize (w1.alloc (.cells #[.float .f32 dx, .float .f32 dy, .float .f32 dz] 40)) = W1 at *
  generalize hDB : w1.heap.size = DB at *
  refine (JR.out _).mono ?_
  rintro e w2 ⟨rfl, hB2⟩
  have hz3 := hB2.size
  have HD := Lib.hid (hDn.below hB2)
  have FR3 := Lib.hid (FR2.out.call hB2)
  clear hB2 hDn hDB
  go_wp2_with fail
  change (Code.region _ _ _).wp _ _ _ (w2.alloc (HBox h 178))
  have hLn : Go.Proofs.Ytajglpkeojaelaa.At (w2.alloc (HBox h 178)) w2.heap.size h.l := At.new
  have HD2 := Lib.hid (HD.out.alloc (o := HBox h 178))
  have FR4 := Lib.hid (FR3.out.call ((Below.refl _ _).alloc (Nat.le_refl _) (HBox h 178)))
  generalize hWB : (w2.alloc (HBox h 178)) = W2 at *
  generalize hLB : w2.heap.size = LB at *
  have FR5 : Hid (Frm w [(w.heap.size, h.l), (w.heap.size + 1, [.float .f32 p, .float .f32 q, .float .f32 r]), (DB, [.float .f32 dx, .float .f32 dy, .float .f32 dz]), (LB, h.l)] (w.heap.size + 1 + 1) W2) := Lib.hid (by
    refine ⟨FR4.out.1, ?_, FR4.out.2.2.1, FR4.out.2.2.2.1, FR4.out.2.2.2.2⟩
    intro b l hm
    rcases List.mem_cons.1 hm with e | hm
    · exact FR4.out.2.1 b l (by rw [e]; exact .head _)
    · rcases List.mem_cons.1 hm with e | hm
      · exact FR4.out.2.1 b l (by rw [e]; exact .tail _ (.head _))
      · rcases List.mem_cons.1 hm with e | hm
        · cases e; exact ⟨HD2.out, by omega⟩
        · rcases List.mem_cons.1 hm with e | hm
          · cases e; exact ⟨hLn, by omega⟩
          · cases hm)
  clear hWB hLn
  refine Reg2.wp_region_mix (C := Frm w [(w.heap.size, h.l), (w.heap.size + 1, [.float .f32 p, .float .f32 q, .float .f32 r]), (DB, [.float .f32 dx, .float .f32 dy, .float .f32 dz]), (LB, h.l)] (w.heap.size + 1 + 1)) (G := fun w1 w2 => TV (w.heap.size + 1 + 1) (sumV c.2.2.1 (alongC c (subC F c.2.2.1))) w1 → TV (w.heap.size + 1 + 1) (sumV c.2.2.1 (alongC c (subC F c.2.2.1))) w2) (R := fun i v w' => match i with | 0 => v = .pointer (some ⟨w.heap.size, 2, none⟩) | 1 => v = .agg #[.float .f32 h.x, .float .f32 h.y, .float .f32 h.z] | 2 => v = .agg #[.int .i64 h.p, .int .i64 h.k, .float .f32 h.x, .float .f32 h.y, .float .f32 h.z, .float .f32 h.s, .float .f32 h.t, .float .f32 h.u] | 3 => v = .agg #[.float .f32 dx, .float .f32 dy, .float .f32 dz] | 4 => ∃ p q r, v = vv p q r ∧ F3 p q r (alongC c (subC F c.2.2.1)) | 5 => ∃ p q r, v = vv p q r ∧ F3 p q r (sumV c.2.2.1 (alongC c (subC F c.2.2.1))) | _ => True) (T := fun _ w' => TV (w.heap.size + 1 + 1) (sumV c.2.2.1 (alongC c (subC F c.2.2.1))) w') [false, false, false, false, false, false, false, false, false, false, false, false, false, false, false, false, false, true, true, true, true, true, true, false, false, false, false, false, false, false, false, false, false, false]
    (by kernel_rfl) (by kernel_rfl) (by kernel_rfl) (fun _ _ _ _ _ _ h => h) (fun _ _ _ _ hG hT => hG hT) (Frm.drewN FR5.out 1) ?_ ?_
  · refine ⟨Reg2.Obl.mk ?_, Reg2.Obl.mk ?_, Reg2.Obl.mk ?_, Reg2.Obl.mk ?_, Reg2.Obl.mk ?_, Reg2.Obl.mk ?_, Reg2.Obl.mk ?_, trivial⟩
    · rintro a w1 hC hx hd K hK
      have HC := Lib.hid hC
      clear hC
      have t2 : a.tmps[2]?.getD undef = .pointer (some ⟨w.heap.size, 0, none⟩) := Reg.slot_val (hx 2 (by kernel_rfl))
      go_simp
      exact hK _ _ (fun _ => rfl) (fun h => by cases h) HC.out (fun h => h)
    · rintro a w1 hC hx hd K hK
      have HC := Lib.hid hC
      clear hC
      have y2 := (HC.out.mem (.head _)) 2 _ rfl
      have y3 := (HC.out.mem (.head _)) 3 _ rfl
      have y4 := (HC.out.mem (.head _)) 4 _ rfl
      have t17 : a.tmps[17]?.getD undef = .pointer (some ⟨w.heap.size, 2, none⟩) := Reg.slot_val (hd 0 (by kernel_rfl) 17 rfl)
      go_simp
      exact hK _ _ (fun _ => rfl) (fun h => by cases h) HC.out (fun h => h)
    · rintro a w1 hC hx hd K hK
      have HC := Lib.hid hC
      clear hC
      have l0 := (HC.out.mem (.tail _ (.tail _ (.tail _ (.head _))))) 0 _ rfl
      have l1 := (HC.out.mem (.tail _ (.tail _ (.tail _ (.head _))))) 1 _ rfl
      have l2 := (HC.out.mem (.tail _ (.tail _ (.tail _ (.head _))))) 2 _ rfl
      have l3 := (HC.out.mem (.tail _ (.tail _ (.tail _ (.head _))))) 3 _ rfl
      have l4 := (HC.out.mem (.tail _ (.tail _ (.tail _ (.head _))))) 4 _ rfl
      have l5 := (HC.out.mem (.tail _ (.tail _ (.tail _ (.head _))))) 5 _ rfl
      have l6 := (HC.out.mem (.tail _ (.tail _ (.tail _ (.head _))))) 6 _ rfl
      have l7 := (HC.out.mem (.tail _ (.tail _ (.tail _ (.head _))))) 7 _ rfl
      have t6 : a.tmps[6]?.getD undef = .pointer (some ⟨LB, 0, none⟩) := Reg.slot_val (hx 6 (by kernel_rfl))
      go_simp
      exact hK _ _ (fun _ => rfl) (fun h => by cases h) HC.out (fun h => h)
    · rintro a w1 hC hx hd K hK
      have HC := Lib.hid hC
      clear hC
      have d0 := (HC.out.mem (.tail _ (.tail _ (.head _)))) 0 _ rfl
      have d1 := (HC.out.mem (.tail _ (.tail _ (.head _)))) 1 _ rfl
      have d2 := (HC.out.mem (.tail _ (.tail _ (.head _)))) 2 _ rfl
      have t5 : a.tmps[5]?.getD undef = .pointer (some ⟨DB, 0, none⟩) := Reg.slot_val (hx 5 (by kernel_rfl))
      go_simp
      exact hK _ _ (fun _ => rfl) (fun h => by cases h) HC.out (fun h => h)
    · rintro a w1 hC hx hd K hK
      have HC := Lib.hid hC
      clear hC
      have t19 : a.tmps[19]?.getD undef = .agg #[.int .i64 h.p, .int .i64 h.k, .float .f32 h.x, .float .f32 h.y, .float .f32 h.z, .float .f32 h.s, .float .f32 h.t, .float .f32 h.u] := Reg.slot_val (hd 2 (by kernel_rfl) 19 rfl)
      have t20 : a.tmps[20]?.getD undef = .agg #[.float .f32 dx, .float .f32 dy, .float .f32 dz] := Reg.slot_val (hd 3 (by kernel_rfl) 20 rfl)
      go_simp
      refine (impl_line h c dx dy dz (subC F c.2.2.1) _ I.out FD.out).mono ?_
      rintro en w2 ⟨p', q', r', rfl, hF, hB2⟩
      exact hK _ _ (fun _ => ⟨p', q', r', rfl, hF⟩) (fun h => by cases h) (HC.out.call hB2) (TV.call hB2)
    · rintro a w1 hC hx hd K hK
      have HC := Lib.hid hC
      clear hC
      have t18 : a.tmps[18]?.getD undef = .agg #[.float .f32 h.x, .float .f32 h.y, .float .f32 h.z] := Reg.slot_val (hd 1 (by kernel_rfl) 18 rfl)
      obtain ⟨p21, q21, r21, g21, f21⟩ := hd 4 (by kernel_rfl) 21 rfl
      have t21 := Reg.slot_val g21
      clear g21
      go_simp
      refine (impl_AddVectors _ _ _ _ _ _ _ _ _ _ _ _ _ I.out.2.2.1.1 I.out.2.2.1.2.1 I.out.2.2.1.2.2 f21.1 f21.2.1 f21.2.2).mono ?_
      rintro en w2 ⟨p', q', r', rfl, fp', fq', fr', hB2⟩
      exact hK _ _ (fun _ => ⟨p', q', r', rfl, fp', fq', fr'⟩) (fun h => by cases h) (HC.out.call hB2) (TV.call hB2)
    · rintro a w1 hC hx hd K hK
      have HC := Lib.hid hC
      clear hC
      have t4 : a.tmps[4]?.getD undef = .pointer (some ⟨w.heap.size + 1 + 1, 0, none⟩) := Reg.slot_val (hx 4 (by kernel_rfl))
      obtain ⟨p22, q22, r22, g22, f22⟩ := hd 5 (by kernel_rfl) 22 rfl
      have t22 := Reg.slot_val g22
      clear g22
      obtain ⟨u0, u1, u2, x0, x1, x2⟩ := HC.out.cells
      have k0 := HC.out.free 0
      have k1 := HC.out.free 1
      have k2 := HC.out.free 2
      go_simp
      exact hK undef _ (fun h => absurd rfl h) (fun _ => TV.put HC.out f22) (HC.out.put _ _ _) (fun _ => TV.put HC.out f22)
  rintro f w1 hC hd hT
  obtain ⟨x, y, z, ⟨x0, x1, x2⟩, hf⟩ := hT 6 rfl (by decide)
  simp only [Reg.mixL]
  have HC := Lib.hid hC
  clear hC hd hT
  go_wp2
  refine bodyPost_ret (v := vv x y z) (by simp [results, Try.results100, go_sem, x0, x1, x2]) rfl ⟨x, y, z, rfl, hf, HC.out.bel⟩
set_option maxHeartbeats 1000000 in
theorem impl_puts_plane (h : HW) (c : HC) (p q r : Nat) (F : C3) (w : World) (i : h.Is c) (f : F3 p q r F) (hk : h.k = 2) :
    Calls Try.prog 100 #[h.v, vv p q r] w fun e w' => ∃ x y z, e = .returned (vv x y z) ∧ F3 x y z (subC F (alongC c (subC F c.2.2.1))) ∧ Below w.heap.size w w' := by
  have u := Try.underlying27
  have uh := Try.underlying119
  have uv := Try.underlying40
  have ul1 := Try.underlying178
  have ul2 := Try.underlying180
  have ul3 := Try.underlying181
  have JR := fun w => impl_restraint h w
  unfold ifV at JR
  rw [if_neg (by omega), if_pos hk] at JR
  unfold HW.v at JR
  have JR := Lib.hid JR
  have tA : ∀ (v : Value) (w : World), (Instr.typeAssert (.iface 180 v) 130 178 true).run Try.prog w = .ok (.tuple #[.agg #[.int .i64 0, .int .i64 0, .float .f32 0, .float .f32 0, .float .f32 0, .float .f32 0, .float .f32 0, .float .f32 0], .bool false]) w := fun v w => by kernel_rfl
  have tB : ∀ (v : Value) (w : World), (Instr.typeAssert (.iface 180 v) 130 180 true).run Try.prog w = .ok (.tuple #[v, .bool true]) w := fun v w => by kernel_rfl
  clear hk
  have I := Lib.hid i
  have FF := Lib.hid f
  clear i f
  have fr : Frm w [(w.heap.size, h.l), (w.heap.size + 1, [.float .f32 p, .float .f32 q, .float .f32 r])] (w.heap.size + 1 + 1) (((w.alloc (HBox h 119)).alloc (.cells #[.float .f32 p, .float .f32 q, .float .f32 r] 40)).alloc (.cells #[.float .f32 0, .float .f32 0, .float .f32 0] 40)) := by
    refine ⟨(((Below.refl _ _).alloc (Nat.le_refl _) _).alloc (by simp) _).alloc (by simp; omega) _, ?_, by omega, ⟨.float .f32 0, .float .f32 0, .float .f32 0, by go_simp, by go_simp, by go_simp⟩, fun i => by go_simp⟩
    intro b l hm
    rcases List.mem_cons.1 hm with e | hm
    · cases e
      refine ⟨?_, by omega⟩
      exact At.new.alloc.alloc
    · skip
      rcases List.mem_cons.1 hm with e | hm
      · cases e
        refine ⟨?_, by omega⟩
        have := (At.new (w := w.alloc (HBox h 119)) (vs := [.float .f32 p, .float .f32 q, .float .f32 r]) (t := 40)).alloc (o := .cells #[.float .f32 0, .float .f32 0, .float .f32 0] 40)
        rw [World.size_alloc] at this
        exact this
      · cases hm
  have FR := Lib.hid fr
  clear fr
  unfold HW.v
  go_enter Try.func100, Try.ntmps100
  go_wp2_with fail
  change Calls _ _ _ (((w.alloc (HBox h 119)).alloc (.cells #[.float .f32 p, .float .f32 q, .float .f32 r] 40)).alloc (.cells #[.float .f32 0, .float .f32 0, .float .f32 0] 40)) _
  generalize hWW : (((w.alloc (HBox h 119)).alloc (.cells #[.float .f32 p, .float .f32 q, .float .f32 r] 40)).alloc (.cells #[.float .f32 0, .float .f32 0, .float .f32 0] 40)) = W at *
  have hws : W.heap.size = w.heap.size + 1 + 1 + 1 := by rw [← hWW]; simp
  clear hWW
  refine (impl_LessVectors _ _ _ _ _ _ _ _ _ _ _ _ _ FF.out.1 FF.out.2.1 FF.out.2.2 I.out.2.2.1.1 I.out.2.2.1.2.1 I.out.2.2.1.2.2).mono ?_
  rintro e w1 ⟨dx, dy, dz, rfl, fdx, fdy, fdz, hB1⟩
  have hz1 := hB1.size
  have FD : Hid (F3 dx dy dz (subC F c.2.2.1)) := Lib.hid ⟨fdx, fdy, fdz⟩
  have FR1 := Lib.hid (FR.out.call hB1)
  clear hB1 fdx fdy fdz
  have k0 := ((FR1.out.mem (.head _)).alloc (o := .cells #[.float .f32 dx, .float .f32 dy, .float .f32 dz] 40)) 0 _ rfl
  have k1 := ((FR1.out.mem (.head _)).alloc (o := .cells #[.float .f32 dx, .float .f32 dy, .float .f32 dz] 40)) 1 _ rfl
  have k2 := ((FR1.out.mem (.head _)).alloc (o := .cells #[.float .f32 dx, .float .f32 dy, .float .f32 dz] 40)) 2 _ rfl
  have k3 := ((FR1.out.mem (.head _)).alloc (o := .cells #[.float .f32 dx, .float .f32 dy, .float .f32 dz] 40)) 3 _ rfl
  have k4 := ((FR1.out.mem (.head _)).alloc (o := .cells #[.float .f32 dx, .float .f32 dy, .float .f32 dz] 40)) 4 _ rfl
  have k5 := ((FR1.out.mem (.head _)).alloc (o := .cells #[.float .f32 dx, .float .f32 dy, .float .f32 dz] 40)) 5 _ rfl
  have k6 := ((FR1.out.mem (.head _)).alloc (o := .cells #[.float .f32 dx, .float .f32 dy, .float .f32 dz] 40)) 6 _ rfl
  have k7 := ((FR1.out.mem (.head _)).alloc (o := .cells #[.float .f32 dx, .float .f32 dy, .float .f32 dz] 40)) 7 _ rfl
  go_wp2_with fail
  clear k0 k1 k2 k3 k4 k5 k6 k7
  have hDn : Go.Proofs.Ytajglpkeojaelaa.At (w1.alloc (.cells #[.float .f32 dx, .float .f32 dy, .float .f32 dz] 40)) w1.heap.size [.float .f32 dx, .float .f32 dy, .float .f32 dz] := At.new
  have FR2 := Lib.hid (FR1.out.call ((Below.refl _ _).alloc (Nat.le_refl _) (.cells #[.float .f32 dx, .float .f32 dy, .float .f32 dz] 40)))
  have hz2 : (w1.alloc (.cells #[.float .f32 dx, .float .f32 dy, .float .f32 dz] 40)).heap.size = w1.heap.size + 1 := by simp
  generalize (w1.alloc (.cells #[.float .f32 dx, .float .f32 dy, .float .f32 dz] 40)) = W1 at *
  generalize hDB : w1.heap.size = DB at *
  refine (JR.out _).mono ?_
  rintro e w2 ⟨rfl, hB2⟩
  have hz3 := hB2.size
  have HD := Lib.hid (hDn.below hB2)
  have FR3 := Lib.hid (FR2.out.call hB2)
  clear hB2 hDn hDB
  go_wp2_with fail
  change (Code.region _ _ _).wp _ _ _ (w2.alloc (HBox h 180))
  have hLn : Go.Proofs.Ytajglpkeojaelaa.At (w2.alloc (HBox h 180)) w2.heap.size h.l := At.new
  have HD2 := Lib.hid (HD.out.alloc (o := HBox h 180))
  have FR4 := Lib.hid (FR3.out.call ((Below.refl _ _).alloc (Nat.le_refl _) (HBox h 180)))
  generalize hWB : (w2.alloc (HBox h 180)) = W2 at *
  generalize hLB : w2.heap.size = LB at *
  have FR5 : Hid (Frm w [(w.heap.size, h.l), (w.heap.size + 1, [.float .f32 p, .float .f32 q, .float .f32 r]), (DB, [.float .f32 dx, .float .f32 dy, .float .f32 dz]), (LB, h.l)] (w.heap.size + 1 + 1) W2) := Lib.hid (by
    refine ⟨FR4.out.1, ?_, FR4.out.2.2.1, FR4.out.2.2.2.1, FR4.out.2.2.2.2⟩
    intro b l hm
    rcases List.mem_cons.1 hm with e | hm
    · exact FR4.out.2.1 b l (by rw [e]; exact .head _)
    · rcases List.mem_cons.1 hm with e | hm
      · exact FR4.out.2.1 b l (by rw [e]; exact .tail _ (.head _))
      · rcases List.mem_cons.1 hm with e | hm
        · cases e; exact ⟨HD2.out, by omega⟩
        · rcases List.mem_cons.1 hm with e | hm
          · cases e; exact ⟨hLn, by omega⟩
          · cases hm)
  clear hWB hLn
  refine Reg2.wp_region_mix (C := Frm w [(w.heap.size, h.l), (w.heap.size + 1, [.float .f32 p, .float .f32 q, .float .f32 r]), (DB, [.float .f32 dx, .float .f32 dy, .float .f32 dz]), (LB, h.l)] (w.heap.size + 1 + 1)) (G := fun w1 w2 => TV (w.heap.size + 1 + 1) (subC F (alongC c (subC F c.2.2.1))) w1 → TV (w.heap.size + 1 + 1) (subC F (alongC c (subC F c.2.2.1))) w2) (R := fun i v w' => match i with | 0 => v = .agg #[.float .f32 p, .float .f32 q, .float .f32 r] | 1 => v = .pointer (some ⟨LB, 0, none⟩) | 2 => v = .agg #[.int .i64 h.p, .int .i64 h.k, .float .f32 h.x, .float .f32 h.y, .float .f32 h.z, .float .f32 h.s, .float .f32 h.t, .float .f32 h.u] | 3 => v = .agg #[.float .f32 dx, .float .f32 dy, .float .f32 dz] | 4 => ∃ p q r, v = vv p q r ∧ F3 p q r (alongC c (subC F c.2.2.1)) | 5 => ∃ p q r, v = vv p q r ∧ F3 p q r (subC F (alongC c (subC F c.2.2.1))) | _ => True) (T := fun _ w' => TV (w.heap.size + 1 + 1) (subC F (alongC c (subC F c.2.2.1))) w') [false, false, false, false, false, false, false, false, false, false, false, false, false, false, false, false, false, false, false, false, false, false, false, false, false, false, true, true, true, true, true, true, false, false]
    (by kernel_rfl) (by kernel_rfl) (by kernel_rfl) (fun _ _ _ _ _ _ h => h) (fun _ _ _ _ hG hT => hG hT) (Frm.drewN FR5.out 1) ?_ ?_
  · refine ⟨Reg2.Obl.mk ?_, Reg2.Obl.mk ?_, Reg2.Obl.mk ?_, Reg2.Obl.mk ?_, Reg2.Obl.mk ?_, Reg2.Obl.mk ?_, Reg2.Obl.mk ?_, trivial⟩
    · rintro a w1 hC hx hd K hK
      have HC := Lib.hid hC
      clear hC
      have z0 := (HC.out.mem (.tail _ (.head _))) 0 _ rfl
      have z1 := (HC.out.mem (.tail _ (.head _))) 1 _ rfl
      have z2 := (HC.out.mem (.tail _ (.head _))) 2 _ rfl
      have t3 : a.tmps[3]?.getD undef = .pointer (some ⟨w.heap.size + 1, 0, none⟩) := Reg.slot_val (hx 3 (by kernel_rfl))
      go_simp
      exact hK _ _ (fun _ => rfl) (fun h => by cases h) HC.out (fun h => h)
    · rintro a w1 hC hx hd K hK
      have HC := Lib.hid hC
      clear hC
      have t7 : a.tmps[7]?.getD undef = .pointer (some ⟨LB, 0, none⟩) := Reg.slot_val (hx 7 (by kernel_rfl))
      go_simp
      exact hK _ _ (fun _ => rfl) (fun h => by cases h) HC.out (fun h => h)
    · rintro a w1 hC hx hd K hK
      have HC := Lib.hid hC
      clear hC
      have l0 := (HC.out.mem (.tail _ (.tail _ (.tail _ (.head _))))) 0 _ rfl
      have l1 := (HC.out.mem (.tail _ (.tail _ (.tail _ (.head _))))) 1 _ rfl
      have l2 := (HC.out.mem (.tail _ (.tail _ (.tail _ (.head _))))) 2 _ rfl
      have l3 := (HC.out.mem (.tail _ (.tail _ (.tail _ (.head _))))) 3 _ rfl
      have l4 := (HC.out.mem (.tail _ (.tail _ (.tail _ (.head _))))) 4 _ rfl
      have l5 := (HC.out.mem (.tail _ (.tail _ (.tail _ (.head _))))) 5 _ rfl
      have l6 := (HC.out.mem (.tail _ (.tail _ (.tail _ (.head _))))) 6 _ rfl
      have l7 := (HC.out.mem (.tail _ (.tail _ (.tail _ (.head _))))) 7 _ rfl
      have t27 : a.tmps[27]?.getD undef = .pointer (some ⟨LB, 0, none⟩) := Reg.slot_val (hd 1 (by kernel_rfl) 27 rfl)
      go_simp
      exact hK _ _ (fun _ => rfl) (fun h => by cases h) HC.out (fun h => h)
    · rintro a w1 hC hx hd K hK
      have HC := Lib.hid hC
      clear hC
      have d0 := (HC.out.mem (.tail _ (.tail _ (.head _)))) 0 _ rfl
      have d1 := (HC.out.mem (.tail _ (.tail _ (.head _)))) 1 _ rfl
      have d2 := (HC.out.mem (.tail _ (.tail _ (.head _)))) 2 _ rfl
      have t5 : a.tmps[5]?.getD undef = .pointer (some ⟨DB, 0, none⟩) := Reg.slot_val (hx 5 (by kernel_rfl))
      go_simp
      exact hK _ _ (fun _ => rfl) (fun h => by cases h) HC.out (fun h => h)
    · rintro a w1 hC hx hd K hK
      have HC := Lib.hid hC
      clear hC
      have t28 : a.tmps[28]?.getD undef = .agg #[.int .i64 h.p, .int .i64 h.k, .float .f32 h.x, .float .f32 h.y, .float .f32 h.z, .float .f32 h.s, .float .f32 h.t, .float .f32 h.u] := Reg.slot_val (hd 2 (by kernel_rfl) 28 rfl)
      have t29 : a.tmps[29]?.getD undef = .agg #[.float .f32 dx, .float .f32 dy, .float .f32 dz] := Reg.slot_val (hd 3 (by kernel_rfl) 29 rfl)
      go_simp
      refine (impl_line h c dx dy dz (subC F c.2.2.1) _ I.out FD.out).mono ?_
      rintro en w2 ⟨p', q', r', rfl, hF, hB2⟩
      exact hK _ _ (fun _ => ⟨p', q', r', rfl, hF⟩) (fun h => by cases h) (HC.out.call hB2) (TV.call hB2)
    · rintro a w1 hC hx hd K hK
      have HC := Lib.hid hC
      clear hC
      have t26 : a.tmps[26]?.getD undef = .agg #[.float .f32 p, .float .f32 q, .float .f32 r] := Reg.slot_val (hd 0 (by kernel_rfl) 26 rfl)
      obtain ⟨p30, q30, r30, g30, f30⟩ := hd 4 (by kernel_rfl) 30 rfl
      have t30 := Reg.slot_val g30
      clear g30
      go_simp
      refine (impl_LessVectors _ _ _ _ _ _ _ _ _ _ _ _ _ FF.out.1 FF.out.2.1 FF.out.2.2 f30.1 f30.2.1 f30.2.2).mono ?_
      rintro en w2 ⟨p', q', r', rfl, fp', fq', fr', hB2⟩
      exact hK _ _ (fun _ => ⟨p', q', r', rfl, fp', fq', fr'⟩) (fun h => by cases h) (HC.out.call hB2) (TV.call hB2)
    · rintro a w1 hC hx hd K hK
      have HC := Lib.hid hC
      clear hC
      have t4 : a.tmps[4]?.getD undef = .pointer (some ⟨w.heap.size + 1 + 1, 0, none⟩) := Reg.slot_val (hx 4 (by kernel_rfl))
      obtain ⟨p31, q31, r31, g31, f31⟩ := hd 5 (by kernel_rfl) 31 rfl
      have t31 := Reg.slot_val g31
      clear g31
      obtain ⟨u0, u1, u2, x0, x1, x2⟩ := HC.out.cells
      have k0 := HC.out.free 0
      have k1 := HC.out.free 1
      have k2 := HC.out.free 2
      go_simp
      exact hK undef _ (fun h => absurd rfl h) (fun _ => TV.put HC.out f31) (HC.out.put _ _ _) (fun _ => TV.put HC.out f31)
  rintro f w1 hC hd hT
  obtain ⟨x, y, z, ⟨x0, x1, x2⟩, hf⟩ := hT 6 rfl (by decide)
  simp only [Reg.mixL]
  have HC := Lib.hid hC
  clear hC hd hT
  go_wp2
  refine bodyPost_ret (v := vv x y z) (by simp [results, Try.results100, go_sem, x0, x1, x2]) rfl ⟨x, y, z, rfl, hf, HC.out.bel⟩
set_option maxHeartbeats 1000000 in
theorem impl_puts_fixed (h : HW) (c : HC) (p q r : Nat) (F : C3) (w : World) (i : h.Is c) (f : F3 p q r F) (hk1 : h.k ≠ 1) (hk2 : h.k ≠ 2) :
    Calls Try.prog 100 #[h.v, vv p q r] w fun e w' => ∃ x y z, e = .returned (vv x y z) ∧ F3 x y z (c.2.2.1) ∧ Below w.heap.size w w' := by
  have u := Try.underlying27
  have uh := Try.underlying119
  have uv := Try.underlying40
  have ul1 := Try.underlying178
  have ul2 := Try.underlying180
  have ul3 := Try.underlying181
  have JR := fun w => impl_restraint h w
  unfold ifV at JR
  rw [if_neg hk1, if_neg hk2] at JR
  unfold HW.v at JR
  have JR := Lib.hid JR
  have tA : ∀ (v : Value) (w : World), (Instr.typeAssert (.iface 181 v) 130 178 true).run Try.prog w = .ok (.tuple #[.agg #[.int .i64 0, .int .i64 0, .float .f32 0, .float .f32 0, .float .f32 0, .float .f32 0, .float .f32 0, .float .f32 0], .bool false]) w := fun v w => by kernel_rfl
  have tB : ∀ (v : Value) (w : World), (Instr.typeAssert (.iface 181 v) 130 180 true).run Try.prog w = .ok (.tuple #[.agg #[.int .i64 0, .int .i64 0, .float .f32 0, .float .f32 0, .float .f32 0, .float .f32 0, .float .f32 0, .float .f32 0], .bool false]) w := fun v w => by kernel_rfl
  clear hk1 hk2
  have I := Lib.hid i
  have FF := Lib.hid f
  clear i f
  have fr : Frm w [(w.heap.size, h.l), (w.heap.size + 1, [.float .f32 p, .float .f32 q, .float .f32 r])] (w.heap.size + 1 + 1) (((w.alloc (HBox h 119)).alloc (.cells #[.float .f32 p, .float .f32 q, .float .f32 r] 40)).alloc (.cells #[.float .f32 0, .float .f32 0, .float .f32 0] 40)) := by
    refine ⟨(((Below.refl _ _).alloc (Nat.le_refl _) _).alloc (by simp) _).alloc (by simp; omega) _, ?_, by omega, ⟨.float .f32 0, .float .f32 0, .float .f32 0, by go_simp, by go_simp, by go_simp⟩, fun i => by go_simp⟩
    intro b l hm
    rcases List.mem_cons.1 hm with e | hm
    · cases e
      refine ⟨?_, by omega⟩
      exact At.new.alloc.alloc
    · skip
      rcases List.mem_cons.1 hm with e | hm
      · cases e
        refine ⟨?_, by omega⟩
        have := (At.new (w := w.alloc (HBox h 119)) (vs := [.float .f32 p, .float .f32 q, .float .f32 r]) (t := 40)).alloc (o := .cells #[.float .f32 0, .float .f32 0, .float .f32 0] 40)
        rw [World.size_alloc] at this
        exact this
      · cases hm
  have FR := Lib.hid fr
  clear fr
  unfold HW.v
  go_enter Try.func100, Try.ntmps100
  go_wp2_with fail
  change Calls _ _ _ (((w.alloc (HBox h 119)).alloc (.cells #[.float .f32 p, .float .f32 q, .float .f32 r] 40)).alloc (.cells #[.float .f32 0, .float .f32 0, .float .f32 0] 40)) _
  generalize hWW : (((w.alloc (HBox h 119)).alloc (.cells #[.float .f32 p, .float .f32 q, .float .f32 r] 40)).alloc (.cells #[.float .f32 0, .float .f32 0, .float .f32 0] 40)) = W at *
  have hws : W.heap.size = w.heap.size + 1 + 1 + 1 := by rw [← hWW]; simp
  clear hWW
  refine (impl_LessVectors _ _ _ _ _ _ _ _ _ _ _ _ _ FF.out.1 FF.out.2.1 FF.out.2.2 I.out.2.2.1.1 I.out.2.2.1.2.1 I.out.2.2.1.2.2).mono ?_
  rintro e w1 ⟨dx, dy, dz, rfl, fdx, fdy, fdz, hB1⟩
  have hz1 := hB1.size
  have FD : Hid (F3 dx dy dz (subC F c.2.2.1)) := Lib.hid ⟨fdx, fdy, fdz⟩
  have FR1 := Lib.hid (FR.out.call hB1)
  clear hB1 fdx fdy fdz
  have k0 := ((FR1.out.mem (.head _)).alloc (o := .cells #[.float .f32 dx, .float .f32 dy, .float .f32 dz] 40)) 0 _ rfl
  have k1 := ((FR1.out.mem (.head _)).alloc (o := .cells #[.float .f32 dx, .float .f32 dy, .float .f32 dz] 40)) 1 _ rfl
  have k2 := ((FR1.out.mem (.head _)).alloc (o := .cells #[.float .f32 dx, .float .f32 dy, .float .f32 dz] 40)) 2 _ rfl
  have k3 := ((FR1.out.mem (.head _)).alloc (o := .cells #[.float .f32 dx, .float .f32 dy, .float .f32 dz] 40)) 3 _ rfl
  have k4 := ((FR1.out.mem (.head _)).alloc (o := .cells #[.float .f32 dx, .float .f32 dy, .float .f32 dz] 40)) 4 _ rfl
  have k5 := ((FR1.out.mem (.head _)).alloc (o := .cells #[.float .f32 dx, .float .f32 dy, .float .f32 dz] 40)) 5 _ rfl
  have k6 := ((FR1.out.mem (.head _)).alloc (o := .cells #[.float .f32 dx, .float .f32 dy, .float .f32 dz] 40)) 6 _ rfl
  have k7 := ((FR1.out.mem (.head _)).alloc (o := .cells #[.float .f32 dx, .float .f32 dy, .float .f32 dz] 40)) 7 _ rfl
  go_wp2_with fail
  clear k0 k1 k2 k3 k4 k5 k6 k7
  have hDn : Go.Proofs.Ytajglpkeojaelaa.At (w1.alloc (.cells #[.float .f32 dx, .float .f32 dy, .float .f32 dz] 40)) w1.heap.size [.float .f32 dx, .float .f32 dy, .float .f32 dz] := At.new
  have FR2 := Lib.hid (FR1.out.call ((Below.refl _ _).alloc (Nat.le_refl _) (.cells #[.float .f32 dx, .float .f32 dy, .float .f32 dz] 40)))
  have hz2 : (w1.alloc (.cells #[.float .f32 dx, .float .f32 dy, .float .f32 dz] 40)).heap.size = w1.heap.size + 1 := by simp
  generalize (w1.alloc (.cells #[.float .f32 dx, .float .f32 dy, .float .f32 dz] 40)) = W1 at *
  generalize hDB : w1.heap.size = DB at *
  refine (JR.out _).mono ?_
  rintro e w2 ⟨rfl, hB2⟩
  have hz3 := hB2.size
  have HD := Lib.hid (hDn.below hB2)
  have FR3 := Lib.hid (FR2.out.call hB2)
  clear hB2 hDn hDB
  have k2 := (FR3.out.mem (.head _)) 2 _ rfl
  have k3 := (FR3.out.mem (.head _)) 3 _ rfl
  have k4 := (FR3.out.mem (.head _)) 4 _ rfl
  obtain ⟨u0, u1, u2, x0, x1, x2⟩ := FR3.out.cells
  have g0 := FR3.out.free 0
  have g1 := FR3.out.free 1
  have g2 := FR3.out.free 2
  have HF := Lib.hid (FR3.out.put (.float .f32 h.x) (.float .f32 h.y) (.float .f32 h.z))
  have HT := Lib.hid (TV.put FR3.out (p := h.x) (q := h.y) (r := h.z) (c := c.2.2.1) (show F3 _ _ _ _ from ⟨I.out.2.2.1.1, I.out.2.2.1.2.1, I.out.2.2.1.2.2⟩))
  go_wp2
  clear x0 x1 x2
  obtain ⟨x, y, z, ⟨x0, x1, x2⟩, hf⟩ := HT.out
  refine bodyPost_ret (v := vv x y z) (by simp [results, Try.results100, go_sem, x0, x1, x2]) rfl ⟨x, y, z, rfl, hf, HF.out.bel⟩
theorem impl_puts (h : HW) (c : HC) (p q r : Nat) (F : C3) (w : World) (i : h.Is c) (f : F3 p q r F) :
    Calls Try.prog 100 #[h.v, vv p q r] w fun e w' => ∃ x y z, e = .returned (vv x y z) ∧ F3 x y z (putC c F) ∧ Below w.heap.size w w' := by
  unfold putC
  by_cases h1 : c.2.1 = 1
  · rw [if_pos h1]; exact impl_puts_line h c p q r F w i f (i.2.1.trans h1)
  · rw [if_neg h1]
    by_cases h2 : c.2.1 = 2
    · rw [if_pos h2]; exact impl_puts_plane h c p q r F w i f (i.2.1.trans h2)
    · rw [if_neg h2]; exact impl_puts_fixed h c p q r F w i f (fun e => h1 (i.2.1.symm.trans e)) (fun e => h2 (i.2.1.symm.trans e))
end Go.Proofs.Ytajglpkeojaelaa

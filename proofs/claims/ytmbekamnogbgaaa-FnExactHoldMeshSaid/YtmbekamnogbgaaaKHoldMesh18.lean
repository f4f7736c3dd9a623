/-
Texts in one: what HoldMesh stands on, part 18. Conditions: those of each.
-/
import Derived.Test.YtmbekamnogbgaaaKHoldMesh17

/-
Where a hold puts a place: the program and the model. Conditions: none beyond that the words fit.
-/
namespace Go.Proofs.Ytmbekamnogbgaaa
open Go Fk Go.RowKit
set_option linter.unusedVariables false
set_option maxRecDepth 8000

set_option maxHeartbeats 1000000 in
theorem impl_puts_line (h : HW) (c : HC) (p q r : Nat) (F : C3) (w : World) (i : h.Is c) (f : F3 p q r F) (hk : h.k = 1) :
    Calls Try.prog 157 #[h.v, vv p q r] w fun e w' => ∃ x y z, e = .returned (vv x y z) ∧ F3 x y z (sumV c.2.2.1 (alongC c (subC F c.2.2.1))) ∧ Below w.heap.size w w' := by
  have u := Try.underlying31
  have uh := Try.underlying117
  have uv := Try.underlying34
  have ul1 := Try.underlying221
  have ul2 := Try.underlying223
  have ul3 := Try.underlying233
  have JR := fun w => impl_restraint h w
  unfold ifV at JR
  rw [if_pos hk] at JR
  unfold HW.v at JR
  have JR := Lib.hid JR
  have tA : ∀ (v : Value) (w : World), (Instr.typeAssert (.iface 221 v) 218 221 true).run Try.prog w = .ok (.tuple #[v, .bool true]) w := fun v w => by kernel_rfl
  have tB : ∀ (v : Value) (w : World), (Instr.typeAssert (.iface 221 v) 218 223 true).run Try.prog w = .ok (.tuple #[.agg #[.int .i64 0, .int .i64 0, .float .f32 0, .float .f32 0, .float .f32 0, .float .f32 0, .float .f32 0, .float .f32 0], .bool false]) w := fun v w => by kernel_rfl
  clear hk
  have I := Lib.hid i
  have FF := Lib.hid f
  clear i f
  have fr : Frm w [(w.heap.size, h.l), (w.heap.size + 1, [.float .f32 p, .float .f32 q, .float .f32 r])] (w.heap.size + 1 + 1) (((w.alloc (HBox h 117)).alloc (.cells #[.float .f32 p, .float .f32 q, .float .f32 r] 34)).alloc (.cells #[.float .f32 0, .float .f32 0, .float .f32 0] 34)) := by
    refine ⟨(((Below.refl _ _).alloc (Nat.le_refl _) _).alloc (by simp) _).alloc (by simp; omega) _, ?_, by omega, ⟨.float .f32 0, .float .f32 0, .float .f32 0, by go_simp, by go_simp, by go_simp⟩, fun i => by go_simp⟩
    intro b l hm
    rcases List.mem_cons.1 hm with e | hm
    · cases e
      refine ⟨?_, by omega⟩
      exact At.new.alloc.alloc
    · skip
      rcases List.mem_cons.1 hm with e | hm
      · cases e
        refine ⟨?_, by omega⟩
        have := (At.new (w := w.alloc (HBox h 117)) (vs := [.float .f32 p, .float .f32 q, .float .f32 r]) (t := 34)).alloc (o := .cells #[.float .f32 0, .float .f32 0, .float .f32 0] 34)
        rw [World.size_alloc] at this
        exact this
      · cases hm
  have FR := Lib.hid fr
  clear fr
  unfold HW.v
  go_enter Try.func157, Try.ntmps157
  go_wp2_with fail
  change Calls _ _ _ (((w.alloc (HBox h 117)).alloc (.cells #[.float .f32 p, .float .f32 q, .float .f32 r] 34)).alloc (.cells #[.float .f32 0, .float .f32 0, .float .f32 0] 34)) _
  generalize hWW : (((w.alloc (HBox h 117)).alloc (.cells #[.float .f32 p, .float .f32 q, .float .f32 r] 34)).alloc (.cells #[.float .f32 0, .float .f32 0, .float .f32 0] 34)) = W at *
  have hws : W.heap.size = w.heap.size + 1 + 1 + 1 := by rw [← hWW]; simp
  clear hWW
  refine (impl_LessVectors _ _ _ _ _ _ _ _ _ _ _ _ _ FF.out.1 FF.out.2.1 FF.out.2.2 I.out.2.2.1.1 I.out.2.2.1.2.1 I.out.2.2.1.2.2).mono ?_
  rintro e w1 ⟨dx, dy, dz, rfl, fdx, fdy, fdz, hB1⟩
  have hz1 := hB1.size
  have FD : Hid (F3 dx dy dz (subC F c.2.2.1)) := Lib.hid ⟨fdx, fdy, fdz⟩
  have FR1 := Lib.hid (FR.out.call hB1)
  clear hB1 fdx fdy fdz
  have k0 := ((FR1.out.mem (.head _)).alloc (o := .cells #[.float .f32 dx, .float .f32 dy, .float .f32 dz] 34)) 0 _ rfl
  have k1 := ((FR1.out.mem (.head _)).alloc (o := .cells #[.float .f32 dx, .float .f32 dy, .float .f32 dz] 34)) 1 _ rfl
  have k2 := ((FR1.out.mem (.head _)).alloc (o := .cells #[.float .f32 dx, .float .f32 dy, .float .f32 dz] 34)) 2 _ rfl
  have k3 := ((FR1.out.mem (.head _)).alloc (o := .cells #[.float .f32 dx, .float .f32 dy, .float .f32 dz] 34)) 3 _ rfl
  have k4 := ((FR1.out.mem (.head _)).alloc (o := .cells #[.float .f32 dx, .float .f32 dy, .float .f32 dz] 34)) 4 _ rfl
  have k5 := ((FR1.out.mem (.head _)).alloc (o := .cells #[.float .f32 dx, .float .f32 dy, .float .f32 dz] 34)) 5 _ rfl
  have k6 := ((FR1.out.mem (.head _)).alloc (o := .cells #[.float .f32 dx, .float .f32 dy, .float .f32 dz] 34)) 6 _ rfl
  have k7 := ((FR1.out.mem (.head _)).alloc (o := .cells #[.float .f32 dx, .float .f32 dy, .float .f32 dz] 34)) 7 _ rfl
  go_wp2_with fail
  clear k0 k1 k2 k3 k4 k5 k6 k7
  have hDn : Go.Proofs.Ytmbekamnogbgaaa.At (w1.alloc (.cells #[.float .f32 dx, .float .f32 dy, .float .f32 dz] 34)) w1.heap.size [.float .f32 dx, .float .f32 dy, .float .f32 dz] := At.new
  have FR2 := Lib.hid (FR1.out.call ((Below.refl _ _).alloc (Nat.le_refl _) (.cells #[.float .f32 dx, .float .f32 dy, .float .f32 dz] 34)))
  have hz2 : (w1.alloc (.cells #[.float .f32 dx, .float .f32 dy, .float .f32 dz] 34)).heap.size = w1.heap.size + 1 := by simp
  generalize (w1.alloc (.cells #[.float .f32 dx, .float .f32 dy, .float .f32 dz] 34)) = W1 at *
  generalize hDB : w1.heap.size = DB at *
  refine (JR.out _).mono ?_
  rintro e w2 ⟨rfl, hB2⟩
  have hz3 := hB2.size
  have HD := Lib.hid (hDn.below hB2)
  have FR3 := Lib.hid (FR2.out.call hB2)
  clear hB2 hDn hDB
  go_wp2_with fail
  change (Code.region _ _ _).wp _ _ _ (w2.alloc (HBox h 221))
  have hLn : Go.Proofs.Ytmbekamnogbgaaa.At (w2.alloc (HBox h 221)) w2.heap.size h.l := At.new
  have HD2 := Lib.hid (HD.out.alloc (o := HBox h 221))
  have FR4 := Lib.hid (FR3.out.call ((Below.refl _ _).alloc (Nat.le_refl _) (HBox h 221)))
  generalize hWB : (w2.alloc (HBox h 221)) = W2 at *
  generalize hLB : w2.heap.size = LB at *
  have FR5 : Hid (Frm w [(w.heap.size, h.l), (w.heap.size + 1, [.float .f32 p, .float .f32 q, .float .f32 r]), (DB, [.float .f32 dx, .float .f32 dy, .float .f32 dz]), (LB, h.l)] (w.heap.size + 1 + 1) W2) := Lib.hid (by
    refine ⟨FR4.out.1, ?_, FR4.out.2.2.1, FR4.out.2.2.2.1, FR4.out.2.2.2.2⟩
    intro b l hm
    rcases List.mem_cons.1 hm with e | hm
    · exact FR4.out.2.1 b l (by rw [e]; exact .head _)
    · rcases List.mem_cons.1 hm with e | hm
      · exact FR4.out.2.1 b l (by rw [e]; exact .tail _ (.head _))
      · rcases List.mem_cons.1 hm with e | hm
        · cases e; exact ⟨HD2.out, by omega⟩
        · rcases List.mem_cons.1 hm with e | hm
          · cases e; exact ⟨hLn, by omega⟩
          · cases hm)
  clear hWB hLn
  refine Reg2.wp_region_mix (C := Frm w [(w.heap.size, h.l), (w.heap.size + 1, [.float .f32 p, .float .f32 q, .float .f32 r]), (DB, [.float .f32 dx, .float .f32 dy, .float .f32 dz]), (LB, h.l)] (w.heap.size + 1 + 1)) (G := fun w1 w2 => TV (w.heap.size + 1 + 1) (sumV c.2.2.1 (alongC c (subC F c.2.2.1))) w1 → TV (w.heap.size + 1 + 1) (sumV c.2.2.1 (alongC c (subC F c.2.2.1))) w2) (R := fun i v w' => match i with | 0 => v = .pointer (some ⟨w.heap.size, 2, none⟩) | 1 => v = .agg #[.float .f32 h.x, .float .f32 h.y, .float .f32 h.z] | 2 => v = .agg #[.int .i64 h.p, .int .i64 h.k, .float .f32 h.x, .float .f32 h.y, .float .f32 h.z, .float .f32 h.s, .float .f32 h.t, .float .f32 h.u] | 3 => v = .agg #[.float .f32 dx, .float .f32 dy, .float .f32 dz] | 4 => ∃ p q r, v = vv p q r ∧ F3 p q r (alongC c (subC F c.2.2.1)) | 5 => ∃ p q r, v = vv p q r ∧ F3 p q r (sumV c.2.2.1 (alongC c (subC F c.2.2.1))) | _ => True) (T := fun _ w' => TV (w.heap.size + 1 + 1) (sumV c.2.2.1 (alongC c (subC F c.2.2.1))) w') [false, false, false, false, false, false, false, false, false, false, false, false, false, false, false, false, false, true, true, true, true, true, true, false, false, false, false, false, false, false, false, false, false, false]
    (by kernel_rfl) (by kernel_rfl) (by kernel_rfl) (fun _ _ _ _ _ _ h => h) (fun _ _ _ _ hG hT => hG hT) (Frm.drewN FR5.out 1) ?_ ?_
  · refine ⟨Reg2.Obl.mk ?_, Reg2.Obl.mk ?_, Reg2.Obl.mk ?_, Reg2.Obl.mk ?_, Reg2.Obl.mk ?_, Reg2.Obl.mk ?_, Reg2.Obl.mk ?_, trivial⟩
    · rintro a w1 hC hx hd K hK
      have HC := Lib.hid hC
      clear hC
      have t2 : a.tmps[2]?.getD undef = .pointer (some ⟨w.heap.size, 0, none⟩) := Reg.slot_val (hx 2 (by kernel_rfl))
      go_simp
      exact hK _ _ (fun _ => rfl) (fun h => by cases h) HC.out (fun h => h)
    · rintro a w1 hC hx hd K hK
      have HC := Lib.hid hC
      clear hC
      have y2 := (HC.out.mem (.head _)) 2 _ rfl
      have y3 := (HC.out.mem (.head _)) 3 _ rfl
      have y4 := (HC.out.mem (.head _)) 4 _ rfl
      have t17 : a.tmps[17]?.getD undef = .pointer (some ⟨w.heap.size, 2, none⟩) := Reg.slot_val (hd 0 (by kernel_rfl) 17 rfl)
      go_simp
      exact hK _ _ (fun _ => rfl) (fun h => by cases h) HC.out (fun h => h)
    · rintro a w1 hC hx hd K hK
      have HC := Lib.hid hC
      clear hC
      have l0 := (HC.out.mem (.tail _ (.tail _ (.tail _ (.head _))))) 0 _ rfl
      have l1 := (HC.out.mem (.tail _ (.tail _ (.tail _ (.head _))))) 1 _ rfl
      have l2 := (HC.out.mem (.tail _ (.tail _ (.tail _ (.head _))))) 2 _ rfl
      have l3 := (HC.out.mem (.tail _ (.tail _ (.tail _ (.head _))))) 3 _ rfl
      have l4 := (HC.out.mem (.tail _ (.tail _ (.tail _ (.head _))))) 4 _ rfl
      have l5 := (HC.out.mem (.tail _ (.tail _ (.tail _ (.head _))))) 5 _ rfl
      have l6 := (HC.out.mem (.tail _ (.tail _ (.tail _ (.head _))))) 6 _ rfl
      have l7 := (HC.out.mem (.tail _ (.tail _ (.tail _ (.head _))))) 7 _ rfl
      have t6 : a.tmps[6]?.getD undef = .pointer (some ⟨LB, 0, none⟩) := Reg.slot_val (hx 6 (by kernel_rfl))
      go_simp
      exact hK _ _ (fun _ => rfl) (fun h => by cases h) HC.out (fun h => h)
    · rintro a w1 hC hx hd K hK
      have HC := Lib.hid hC
      clear hC
      have d0 := (HC.out.mem (.tail _ (.tail _ (.head _)))) 0 _ rfl
      have d1 := (HC.out.mem (.tail _ (.tail _ (.head _)))) 1 _ rfl
      have d2 := (HC.out.mem (.tail _ (.tail _ (.head _)))) 2 _ rfl
      have t5 : a.tmps[5]?.getD undef = .pointer (some ⟨DB, 0, none⟩) := Reg.slot_val (hx 5 (by kernel_rfl))
      go_simp
      exact hK _ _ (fun _ => rfl) (fun h => by cases h) HC.out (fun h => h)
    · rintro a w1 hC hx hd K hK
      have HC := Lib.hid hC
      clear hC
      have t19 : a.tmps[19]?.getD undef = .agg #[.int .i64 h.p, .int .i64 h.k, .float .f32 h.x, .float .f32 h.y, .float .f32 h.z, .float .f32 h.s, .float .f32 h.t, .float .f32 h.u] := Reg.slot_val (hd 2 (by kernel_rfl) 19 rfl)
      have t20 : a.tmps[20]?.getD undef = .agg #[.float .f32 dx, .float .f32 dy, .float .f32 dz] := Reg.slot_val (hd 3 (by kernel_rfl) 20 rfl)
      go_simp
      refine (impl_line h c dx dy dz (subC F c.2.2.1) _ I.out FD.out).mono ?_
      rintro en w2 ⟨p', q', r', rfl, hF, hB2⟩
      exact hK _ _ (fun _ => ⟨p', q', r', rfl, hF⟩) (fun h => by cases h) (HC.out.call hB2) (TV.call hB2)
    · rintro a w1 hC hx hd K hK
      have HC := Lib.hid hC
      clear hC
      have t18 : a.tmps[18]?.getD undef = .agg #[.float .f32 h.x, .float .f32 h.y, .float .f32 h.z] := Reg.slot_val (hd 1 (by kernel_rfl) 18 rfl)
      obtain ⟨p21, q21, r21, g21, f21⟩ := hd 4 (by kernel_rfl) 21 rfl
      have t21 := Reg.slot_val g21
      clear g21
      go_simp
      refine (impl_AddVectors _ _ _ _ _ _ _ _ _ _ _ _ _ I.out.2.2.1.1 I.out.2.2.1.2.1 I.out.2.2.1.2.2 f21.1 f21.2.1 f21.2.2).mono ?_
      rintro en w2 ⟨p', q', r', rfl, fp', fq', fr', hB2⟩
      exact hK _ _ (fun _ => ⟨p', q', r', rfl, fp', fq', fr'⟩) (fun h => by cases h) (HC.out.call hB2) (TV.call hB2)
    · rintro a w1 hC hx hd K hK
      have HC := Lib.hid hC
      clear hC
      have t4 : a.tmps[4]?.getD undef = .pointer (some ⟨w.heap.size + 1 + 1, 0, none⟩) := Reg.slot_val (hx 4 (by kernel_rfl))
      obtain ⟨p22, q22, r22, g22, f22⟩ := hd 5 (by kernel_rfl) 22 rfl
      have t22 := Reg.slot_val g22
      clear g22
      obtain ⟨u0, u1, u2, x0, x1, x2⟩ := HC.out.cells
      have k0 := HC.out.free 0
      have k1 := HC.out.free 1
      have k2 := HC.out.free 2
      go_simp
      exact hK undef _ (fun h => absurd rfl h) (fun _ => TV.put HC.out f22) (HC.out.put _ _ _) (fun _ => TV.put HC.out f22)
  rintro f w1 hC hd hT
  obtain ⟨x, y, z, ⟨x0, x1, x2⟩, hf⟩ := hT 6 rfl (by decide)
  simp only [Reg.mixL]
  have HC := Lib.hid hC
  clear hC hd hT
  go_wp2
  refine bodyPost_ret (v := vv x y z) (by simp [results, Try.results157, go_sem, x0, x1, x2]) rfl ⟨x, y, z, rfl, hf, HC.out.bel⟩
set_option maxHeartbeats 1000000 in
theorem impl_puts_plane (h : HW) (c : HC) (p q r : Nat) (F : C3) (w : World) (i : h.Is c) (f : F3 p q r F) (hk : h.k = 2) :
    Calls Try.prog 157 #[h.v, vv p q r] w fun e w' => ∃ x y z, e = .returned (vv x y z) ∧ F3 x y z (subC F (alongC c (subC F c.2.2.1))) ∧ Below w.heap.size w w' := by
  have u := Try.underlying31
  have uh := Try.underlying117
  have uv := Try.underlying34
  have ul1 := Try.underlying221
  have ul2 := Try.underlying223
  have ul3 := Try.underlying233
  have JR := fun w => impl_restraint h w
  unfold ifV at JR
  rw [if_neg (by omega), if_pos hk] at JR
  unfold HW.v at JR
  have JR := Lib.hid JR
  have tA : ∀ (v : Value) (w : World), (Instr.typeAssert (.iface 223 v) 218 221 true).run Try.prog w = .ok (.tuple #[.agg #[.int .i64 0, .int .i64 0, .float .f32 0, .float .f32 0, .float .f32 0, .float .f32 0, .float .f32 0, .float .f32 0], .bool false]) w := fun v w => by kernel_rfl
  have tB : ∀ (v : Value) (w : World), (Instr.typeAssert (.iface 223 v) 218 223 true).run Try.prog w = .ok (.tuple #[v, .bool true]) w := fun v w => by kernel_rfl
  clear hk
  have I := Lib.hid i
  have FF := Lib.hid f
  clear i f
  have fr : Frm w [(w.heap.size, h.l), (w.heap.size + 1, [.float .f32 p, .float .f32 q, .float .f32 r])] (w.heap.size + 1 + 1) (((w.alloc (HBox h 117)).alloc (.cells #[.float .f32 p, .float .f32 q, .float .f32 r] 34)).alloc (.cells #[.float .f32 0, .float .f32 0, .float .f32 0] 34)) := by
    refine ⟨(((Below.refl _ _).alloc (Nat.le_refl _) _).alloc (by simp) _).alloc (by simp; omega) _, ?_, by omega, ⟨.float .f32 0, .float .f32 0, .float .f32 0, by go_simp, by go_simp, by go_simp⟩, fun i => by go_simp⟩
    intro b l hm
    rcases List.mem_cons.1 hm with e | hm
    · cases e
      refine ⟨?_, by omega⟩
      exact At.new.alloc.alloc
    · skip
      rcases List.mem_cons.1 hm with e | hm
      · cases e
        refine ⟨?_, by omega⟩
        have := (At.new (w := w.alloc (HBox h 117)) (vs := [.float .f32 p, .float .f32 q, .float .f32 r]) (t := 34)).alloc (o := .cells #[.float .f32 0, .float .f32 0, .float .f32 0] 34)
        rw [World.size_alloc] at this
        exact this
      · cases hm
  have FR := Lib.hid fr
  clear fr
  unfold HW.v
  go_enter Try.func157, Try.ntmps157
  go_wp2_with fail
  change Calls _ _ _ (((w.alloc (HBox h 117)).alloc (.cells #[.float .f32 p, .float .f32 q, .float .f32 r] 34)).alloc (.cells #[.float .f32 0, .float .f32 0, .float .f32 0] 34)) _
  generalize hWW : (((w.alloc (HBox h 117)).alloc (.cells #[.float .f32 p, .float .f32 q, .float .f32 r] 34)).alloc (.cells #[.float .f32 0, .float .f32 0, .float .f32 0] 34)) = W at *
  have hws : W.heap.size = w.heap.size + 1 + 1 + 1 := by rw [← hWW]; simp
  clear hWW
  refine (impl_LessVectors _ _ _ _ _ _ _ _ _ _ _ _ _ FF.out.1 FF.out.2.1 FF.out.2.2 I.out.2.2.1.1 I.out.2.2.1.2.1 I.out.2.2.1.2.2).mono ?_
  rintro e w1 ⟨dx, dy, dz, rfl, fdx, fdy, fdz, hB1⟩
  have hz1 := hB1.size
  have FD : Hid (F3 dx dy dz (subC F c.2.2.1)) := Lib.hid ⟨fdx, fdy, fdz⟩
  have FR1 := Lib.hid (FR.out.call hB1)
  clear hB1 fdx fdy fdz
  have k0 := ((FR1.out.mem (.head _)).alloc (o := .cells #[.float .f32 dx, .float .f32 dy, .float .f32 dz] 34)) 0 _ rfl
  have k1 := ((FR1.out.mem (.head _)).alloc (o := .cells #[.float .f32 dx, .float .f32 dy, .float .f32 dz] 34)) 1 _ rfl
  have k2 := ((FR1.out.mem (.head _)).alloc (o := .cells #[.float .f32 dx, .float .f32 dy, .float .f32 dz] 34)) 2 _ rfl
  have k3 := ((FR1.out.mem (.head _)).alloc (o := .cells #[.float .f32 dx, .float .f32 dy, .float .f32 dz] 34)) 3 _ rfl
  have k4 := ((FR1.out.mem (.head _)).alloc (o := .cells #[.float .f32 dx, .float .f32 dy, .float .f32 dz] 34)) 4 _ rfl
  have k5 := ((FR1.out.mem (.head _)).alloc (o := .cells #[.float .f32 dx, .float .f32 dy, .float .f32 dz] 34)) 5 _ rfl
  have k6 := ((FR1.out.mem (.head _)).alloc (o := .cells #[.float .f32 dx, .float .f32 dy, .float .f32 dz] 34)) 6 _ rfl
  have k7 := ((FR1.out.mem (.head _)).alloc (o := .cells #[.float .f32 dx, .float .f32 dy, .float .f32 dz] 34)) 7 _ rfl
  go_wp2_with fail
  clear k0 k1 k2 k3 k4 k5 k6 k7
  have hDn : Go.Proofs.Ytmbekamnogbgaaa.At (w1.alloc (.cells #[.float .f32 dx, .float .f32 dy, .float .f32 dz] 34)) w1.heap.size [.float .f32 dx, .float .f32 dy, .float .f32 dz] := At.new
  have FR2 := Lib.hid (FR1.out.call ((Below.refl _ _).alloc (Nat.le_refl _) (.cells #[.float .f32 dx, .float .f32 dy, .float .f32 dz] 34)))
  have hz2 : (w1.alloc (.cells #[.float .f32 dx, .float .f32 dy, .float .f32 dz] 34)).heap.size = w1.heap.size + 1 := by simp
  generalize (w1.alloc (.cells #[.float .f32 dx, .float .f32 dy, .float .f32 dz] 34)) = W1 at *
  generalize hDB : w1.heap.size = DB at *
  refine (JR.out _).mono ?_
  rintro e w2 ⟨rfl, hB2⟩
  have hz3 := hB2.size
  have HD := Lib.hid (hDn.below hB2)
  have FR3 := Lib.hid (FR2.out.call hB2)
  clear hB2 hDn hDB
  go_wp2_with fail
  change (Code.region _ _ _).wp _ _ _ (w2.alloc (HBox h 223))
  have hLn : Go.Proofs.Ytmbekamnogbgaaa.At (w2.alloc (HBox h 223)) w2.heap.size h.l := At.new
  have HD2 := Lib.hid (HD.out.alloc (o := HBox h 223))
  have FR4 := Lib.hid (FR3.out.call ((Below.refl _ _).alloc (Nat.le_refl _) (HBox h 223)))
  generalize hWB : (w2.alloc (HBox h 223)) = W2 at *
  generalize hLB : w2.heap.size = LB at *
  have FR5 : Hid (Frm w [(w.heap.size, h.l), (w.heap.size + 1, [.float .f32 p, .float .f32 q, .float .f32 r]), (DB, [.float .f32 dx, .float .f32 dy, .float .f32 dz]), (LB, h.l)] (w.heap.size + 1 + 1) W2) := Lib.hid (by
    refine ⟨FR4.out.1, ?_, FR4.out.2.2.1, FR4.out.2.2.2.1, FR4.out.2.2.2.2⟩
    intro b l hm
    rcases List.mem_cons.1 hm with e | hm
    · exact FR4.out.2.1 b l (by rw [e]; exact .head _)
    · rcases List.mem_cons.1 hm with e | hm
      · exact FR4.out.2.1 b l (by rw [e]; exact .tail _ (.head _))
      · rcases List.mem_cons.1 hm with e | hm
        · cases e; exact ⟨HD2.out, by omega⟩
        · rcases List.mem_cons.1 hm with e | hm
          · cases e; exact ⟨hLn, by omega⟩
          · cases hm)
  clear hWB hLn
  refine Reg2.wp_region_mix (C := Frm w [(w.heap.size, h.l), (w.heap.size + 1, [.float .f32 p, .float .f32 q, .float .f32 r]), (DB, [.float .f32 dx, .float .f32 dy, .float .f32 dz]), (LB, h.l)] (w.heap.size + 1 + 1)) (G := fun w1 w2 => TV (w.heap.size + 1 + 1) (subC F (alongC c (subC F c.2.2.1))) w1 → TV (w.heap.size + 1 + 1) (subC F (alongC c (subC F c.2.2.1))) w2) (R := fun i v w' => match i with | 0 => v = .agg #[.float .f32 p, .float .f32 q, .float .f32 r] | 1 => v = .pointer (some ⟨LB, 0, none⟩) | 2 => v = .agg #[.int .i64 h.p, .int .i64 h.k, .float .f32 h.x, .float .f32 h.y, .float .f32 h.z, .float .f32 h.s, .float .f32 h.t, .float .f32 h.u] | 3 => v = .agg #[.float .f32 dx, .float .f32 dy, .float .f32 dz] | 4 => ∃ p q r, v = vv p q r ∧ F3 p q r (alongC c (subC F c.2.2.1)) | 5 => ∃ p q r, v = vv p q r ∧ F3 p q r (subC F (alongC c (subC F c.2.2.1))) | _ => True) (T := fun _ w' => TV (w.heap.size + 1 + 1) (subC F (alongC c (subC F c.2.2.1))) w') [false, false, false, false, false, false, false, false, false, false, false, false, false, false, false, false, false, false, false, false, false, false, false, false, false, false, true, true, true, true, true, true, false, false]
    (by kernel_rfl) (by kernel_rfl) (by kernel_rfl) (fun _ _ _ _ _ _ h => h) (fun _ _ _ _ hG hT => hG hT) (Frm.drewN FR5.out 1) ?_ ?_
  · refine ⟨Reg2.Obl.mk ?_, Reg2.Obl.mk ?_, Reg2.Obl.mk ?_, Reg2.Obl.mk ?_, Reg2.Obl.mk ?_, Reg2.Obl.mk ?_, Reg2.Obl.mk ?_, trivial⟩
    · rintro a w1 hC hx hd K hK
      have HC := Lib.hid hC
      clear hC
      have z0 := (HC.out.mem (.tail _ (.head _))) 0 _ rfl
      have z1 := (HC.out.mem (.tail _ (.head _))) 1 _ rfl
      have z2 := (HC.out.mem (.tail _ (.head _))) 2 _ rfl
      have t3 : a.tmps[3]?.getD undef = .pointer (some ⟨w.heap.size + 1, 0, none⟩) := Reg.slot_val (hx 3 (by kernel_rfl))
      go_simp
      exact hK _ _ (fun _ => rfl) (fun h => by cases h) HC.out (fun h => h)
    · rintro a w1 hC hx hd K hK
      have HC := Lib.hid hC
      clear hC
      have t7 : a.tmps[7]?.getD undef = .pointer (some ⟨LB, 0, none⟩) := Reg.slot_val (hx 7 (by kernel_rfl))
      go_simp
      exact hK _ _ (fun _ => rfl) (fun h => by cases h) HC.out (fun h => h)
    · rintro a w1 hC hx hd K hK
      have HC := Lib.hid hC
      clear hC
      have l0 := (HC.out.mem (.tail _ (.tail _ (.tail _ (.head _))))) 0 _ rfl
      have l1 := (HC.out.mem (.tail _ (.tail _ (.tail _ (.head _))))) 1 _ rfl
      have l2 := (HC.out.mem (.tail _ (.tail _ (.tail _ (.head _))))) 2 _ rfl
      have l3 := (HC.out.mem (.tail _ (.tail _ (.tail _ (.head _))))) 3 _ rfl
      have l4 := (HC.out.mem (.tail _ (.tail _ (.tail _ (.head _))))) 4 _ rfl
      have l5 := (HC.out.mem (.tail _ (.tail _ (.tail _ (.head _))))) 5 _ rfl
      have l6 := (HC.out.mem (.tail _ (.tail _ (.tail _ (.head _))))) 6 _ rfl
      have l7 := (HC.out.mem (.tail _ (.tail _ (.tail _ (.head _))))) 7 _ rfl
      have t27 : a.tmps[27]?.getD undef = .pointer (some ⟨LB, 0, none⟩) := Reg.slot_val (hd 1 (by kernel_rfl) 27 rfl)
      go_simp
      exact hK _ _ (fun _ => rfl) (fun h => by cases h) HC.out (fun h => h)
    · rintro a w1 hC hx hd K hK
      have HC := Lib.hid hC
      clear hC
      have d0 := (HC.out.mem (.tail _ (.tail _ (.head _)))) 0 _ rfl
      have d1 := (HC.out.mem (.tail _ (.tail _ (.head _)))) 1 _ rfl
      have d2 := (HC.out.mem (.tail _ (.tail _ (.head _)))) 2 _ rfl
      have t5 : a.tmps[5]?.getD undef = .pointer (some ⟨DB, 0, none⟩) := Reg.slot_val (hx 5 (by kernel_rfl))
      go_simp
      exact hK _ _ (fun _ => rfl) (fun h => by cases h) HC.out (fun h => h)
    · rintro a w1 hC hx hd K hK
      have HC := Lib.hid hC
      clear hC
      have t28 : a.tmps[28]?.getD undef = .agg #[.int .i64 h.p, .int .i64 h.k, .float .f32 h.x, .float .f32 h.y, .float .f32 h.z, .float .f32 h.s, .float .f32 h.t, .float .f32 h.u] := Reg.slot_val (hd 2 (by kernel_rfl) 28 rfl)
      have t29 : a.tmps[29]?.getD undef = .agg #[.float .f32 dx, .float .f32 dy, .float .f32 dz] := Reg.slot_val (hd 3 (by kernel_rfl) 29 rfl)
      go_simp
      refine (impl_line h c dx dy dz (subC F c.2.2.1) _ I.out FD.out).mono ?_
      rintro en w2 ⟨p', q', r', rfl, hF, hB2⟩
      exact hK _ _ (fun _ => ⟨p', q', r', rfl, hF⟩) (fun h => by cases h) (HC.out.call hB2) (TV.call hB2)
    · rintro a w1 hC hx hd K hK
      have HC := Lib.hid hC
      clear hC
      have t26 : a.tmps[26]?.getD undef = .agg #[.float .f32 p, .float .f32 q, .float .f32 r] := Reg.slot_val (hd 0 (by kernel_rfl) 26 rfl)
      obtain ⟨p30, q30, r30, g30, f30⟩ := hd 4 (by kernel_rfl) 30 rfl
      have t30 := Reg.slot_val g30
      clear g30
      go_simp
      refine (impl_LessVectors _ _ _ _ _ _ _ _ _ _ _ _ _ FF.out.1 FF.out.2.1 FF.out.2.2 f30.1 f30.2.1 f30.2.2).mono ?_
      rintro en w2 ⟨p', q', r', rfl, fp', fq', fr', hB2⟩
      exact hK _ _ (fun _ => ⟨p', q', r', rfl, fp', fq', fr'⟩) (fun h => by cases h) (HC.out.call hB2) (TV.call hB2)
    · rintro a w1 hC hx hd K hK
      have HC := Lib.hid hC
      clear hC
      have t4 : a.tmps[4]?.getD undef = .pointer (some ⟨w.heap.size + 1 + 1, 0, none⟩) := Reg.slot_val (hx 4 (by kernel_rfl))
      obtain ⟨p31, q31, r31, g31, f31⟩ := hd 5 (by kernel_rfl) 31 rfl
      have t31 := Reg.slot_val g31
      clear g31
      obtain ⟨u0, u1, u2, x0, x1, x2⟩ := HC.out.cells
      have k0 := HC.out.free 0
      have k1 := HC.out.free 1
      have k2 := HC.out.free 2
      go_simp
      exact hK undef _ (fun h => absurd rfl h) (fun _ => TV.put HC.out f31) (HC.out.put _ _ _) (fun _ => TV.put HC.out f31)
  rintro f w1 hC hd hT
  obtain ⟨x, y, z, ⟨x0, x1, x2⟩, hf⟩ := hT 6 rfl (by decide)
  simp only [Reg.mixL]
  have HC := Lib.hid hC
  clear hC hd hT
  go_wp2
  refine bodyPost_ret (v := vv x y z) (by simp [results, Try.results157, go_sem, x0, x1, x2]) rfl ⟨x, y, z, rfl, hf, HC.out.bel⟩
set_option maxHeartbeats 1000000 in
theorem impl_puts_fixed (h : HW) (c : HC) (p q r : Nat) (F : C3) (w : World) (i : h.Is c) (f : F3 p q r F) (hk1 : h.k ≠ 1) (hk2 : h.k ≠ 2) :
    Calls Try.prog 157 #[h.v, vv p q r] w fun e w' => ∃ x y z, e = .returned (vv x y z) ∧ F3 x y z (c.2.2.1) ∧ Below w.heap.size w w' := by
  have u := Try.underlying31
  have uh := Try.underlying117
  have uv := Try.underlying34
  have ul1 := Try.underlying221
  have ul2 := Try.underlying223
  have ul3 := Try.underlying233
  have JR := fun w => impl_restraint h w
  unfold ifV at JR
  rw [if_neg hk1, if_neg hk2] at JR
  unfold HW.v at JR
  have JR := Lib.hid JR
  have tA : ∀ (v : Value) (w : World), (Instr.typeAssert (.iface 233 v) 218 221 true).run Try.prog w = .ok (.tuple #[.agg #[.int .i64 0, .int .i64 0, .float .f32 0, .float .f32 0, .float .f32 0, .float .f32 0, .float .f32 0, .float .f32 0], .bool false]) w := fun v w => by kernel_rfl
  have tB : ∀ (v : Value) (w : World), (Instr.typeAssert (.iface 233 v) 218 223 true).run Try.prog w = .ok (.tuple #[.agg #[.int .i64 0, .int .i64 0, .float .f32 0, .float .f32 0, .float .f32 0, .float .f32 0, .float .f32 0, .float .f32 0], .bool false]) w := fun v w => by kernel_rfl
  clear hk1 hk2
  have I := Lib.hid i
  have FF := Lib.hid f
  clear i f
  have fr : Frm w [(w.heap.size, h.l), (w.heap.size + 1, [.float .f32 p, .float .f32 q, .float .f32 r])] (w.heap.size + 1 + 1) (((w.alloc (HBox h 117)).alloc (.cells #[.float .f32 p, .float .f32 q, .float .f32 r] 34)).alloc (.cells #[.float .f32 0, .float .f32 0, .float .f32 0] 34)) := by
    refine ⟨(((Below.refl _ _).alloc (Nat.le_refl _) _).alloc (by simp) _).alloc (by simp; omega) _, ?_, by omega, ⟨.float .f32 0, .float .f32 0, .float .f32 0, by go_simp, by go_simp, by go_simp⟩, fun i => by go_simp⟩
    intro b l hm
    rcases List.mem_cons.1 hm with e | hm
    · cases e
      refine ⟨?_, by omega⟩
      exact At.new.alloc.alloc
    · skip
      rcases List.mem_cons.1 hm with e | hm
      · cases e
        refine ⟨?_, by omega⟩
        have := (At.new (w := w.alloc (HBox h 117)) (vs := [.float .f32 p, .float .f32 q, .float .f32 r]) (t := 34)).alloc (o := .cells #[.float .f32 0, .float .f32 0, .float .f32 0] 34)
        rw [World.size_alloc] at this
        exact this
      · cases hm
  have FR := Lib.hid fr
  clear fr
  unfold HW.v
  go_enter Try.func157, Try.ntmps157
  go_wp2_with fail
  change Calls _ _ _ (((w.alloc (HBox h 117)).alloc (.cells #[.float .f32 p, .float .f32 q, .float .f32 r] 34)).alloc (.cells #[.float .f32 0, .float .f32 0, .float .f32 0] 34)) _
  generalize hWW : (((w.alloc (HBox h 117)).alloc (.cells #[.float .f32 p, .float .f32 q, .float .f32 r] 34)).alloc (.cells #[.float .f32 0, .float .f32 0, .float .f32 0] 34)) = W at *
  have hws : W.heap.size = w.heap.size + 1 + 1 + 1 := by rw [← hWW]; simp
  clear hWW
  refine (impl_LessVectors _ _ _ _ _ _ _ _ _ _ _ _ _ FF.out.1 FF.out.2.1 FF.out.2.2 I.out.2.2.1.1 I.out.2.2.1.2.1 I.out.2.2.1.2.2).mono ?_
  rintro e w1 ⟨dx, dy, dz, rfl, fdx, fdy, fdz, hB1⟩
  have hz1 := hB1.size
  have FD : Hid (F3 dx dy dz (subC F c.2.2.1)) := Lib.hid ⟨fdx, fdy, fdz⟩
  have FR1 := Lib.hid (FR.out.call hB1)
  clear hB1 fdx fdy fdz
  have k0 := ((FR1.out.mem (.head _)).alloc (o := .cells #[.float .f32 dx, .float .f32 dy, .float .f32 dz] 34)) 0 _ rfl
  have k1 := ((FR1.out.mem (.head _)).alloc (o := .cells #[.float .f32 dx, .float .f32 dy, .float .f32 dz] 34)) 1 _ rfl
  have k2 := ((FR1.out.mem (.head _)).alloc (o := .cells #[.float .f32 dx, .float .f32 dy, .float .f32 dz] 34)) 2 _ rfl
  have k3 := ((FR1.out.mem (.head _)).alloc (o := .cells #[.float .f32 dx, .float .f32 dy, .float .f32 dz] 34)) 3 _ rfl
  have k4 := ((FR1.out.mem (.head _)).alloc (o := .cells #[.float .f32 dx, .float .f32 dy, .float .f32 dz] 34)) 4 _ rfl
  have k5 := ((FR1.out.mem (.head _)).alloc (o := .cells #[.float .f32 dx, .float .f32 dy, .float .f32 dz] 34)) 5 _ rfl
  have k6 := ((FR1.out.mem (.head _)).alloc (o := .cells #[.float .f32 dx, .float .f32 dy, .float .f32 dz] 34)) 6 _ rfl
  have k7 := ((FR1.out.mem (.head _)).alloc (o := .cells #[.float .f32 dx, .float .f32 dy, .float .f32 dz] 34)) 7 _ rfl
  go_wp2_with fail
  clear k0 k1 k2 k3 k4 k5 k6 k7
  have hDn : Go.Proofs.Ytmbekamnogbgaaa.At (w1.alloc (.cells #[.float .f32 dx, .float .f32 dy, .float .f32 dz] 34)) w1.heap.size [.float .f32 dx, .float .f32 dy, .float .f32 dz] := At.new
  have FR2 := Lib.hid (FR1.out.call ((Below.refl _ _).alloc (Nat.le_refl _) (.cells #[.float .f32 dx, .float .f32 dy, .float .f32 dz] 34)))
  have hz2 : (w1.alloc (.cells #[.float .f32 dx, .float .f32 dy, .float .f32 dz] 34)).heap.size = w1.heap.size + 1 := by simp
  generalize (w1.alloc (.cells #[.float .f32 dx, .float .f32 dy, .float .f32 dz] 34)) = W1 at *
  generalize hDB : w1.heap.size = DB at *
  refine (JR.out _).mono ?_
  rintro e w2 ⟨rfl, hB2⟩
  have hz3 := hB2.size
  have HD := Lib.hid (hDn.below hB2)
  have FR3 := Lib.hid (FR2.out.call hB2)
  clear hB2 hDn hDB
  have k2 := (FR3.out.mem (.head _)) 2 _ rfl
  have k3 := (FR3.out.mem (.head _)) 3 _ rfl
  have k4 := (FR3.out.mem (.head _)) 4 _ rfl
  obtain ⟨u0, u1, u2, x0, x1, x2⟩ := FR3.out.cells
  have g0 := FR3.out.free 0
  have g1 := FR3.out.free 1
  have g2 := FR3.out.free 2
  have HF := Lib.hid (FR3.out.put (.float .f32 h.x) (.float .f32 h.y) (.float .f32 h.z))
  have HT := Lib.hid (TV.put FR3.out (p := h.x) (q := h.y) (r := h.z) (c := c.2.2.1) (show F3 _ _ _ _ from ⟨I.out.2.2.1.1, I.out.2.2.1.2.1, I.out.2.2.1.2.2⟩))
  go_wp2
  clear x0 x1 x2
  obtain ⟨x, y, z, ⟨x0, x1, x2⟩, hf⟩ := HT.out
  refine bodyPost_ret (v := vv x y z) (by simp [results, Try.results157, go_sem, x0, x1, x2]) rfl ⟨x, y, z, rfl, hf, HF.out.bel⟩
theorem impl_puts (h : HW) (c : HC) (p q r : Nat) (F : C3) (w : World) (i : h.Is c) (f : F3 p q r F) :
    Calls Try.prog 157 #[h.v, vv p q r] w fun e w' => ∃ x y z, e = .returned (vv x y z) ∧ F3 x y z (putC c F) ∧ Below w.heap.size w w' := by
  unfold putC
  by_cases h1 : c.2.1 = 1
  · rw [if_pos h1]; exact impl_puts_line h c p q r F w i f (i.2.1.trans h1)
  · rw [if_neg h1]
    by_cases h2 : c.2.1 = 2
    · rw [if_pos h2]; exact impl_puts_plane h c p q r F w i f (i.2.1.trans h2)
    · rw [if_neg h2]; exact impl_puts_fixed h c p q r F w i f (fun e => h1 (i.2.1.symm.trans e)) (fun e => h2 (i.2.1.symm.trans e))
end Go.Proofs.Ytmbekamnogbgaaa


/-
Where a hold puts a place: the model, and both functions. Conditions: none beyond that the words fit.
-/
namespace Go.Proofs.Ytmbekamnogbgaaa
open Go Fk Go.RowKit
set_option linter.unusedVariables false
set_option maxRecDepth 8000

set_option maxHeartbeats 1000000 in
theorem l04Put_1 (b o : Nat) (h : HW) (c : HC) (p q r : Nat) (F : C3) (w : World) (a : h.At w b o) (i : h.Is c) (f : F3 p q r F) (hk : h.k = 1) :
    Calls Try.prog 153 #[.pointer (some ⟨b, o, none⟩), vv p q r] w fun e w' => ∃ x y z, e = .returned (vv x y z) ∧ F3 x y z (sumV c.2.2.1 (alongC c (subC F c.2.2.1))) ∧ Below w.heap.size w w' := by
  have u := Try.underlying31
  have uh := Try.underlying117
  have uv := Try.underlying34
  have ui := Try.underlying2
  have e1 : (h.k == 1) = true := by rw [hk]; rfl
  clear hk
  have A := Lib.hid a
  clear a
  have I := Lib.hid i
  have FF := Lib.hid f
  clear i f
  have fr : Frm w [(w.heap.size, [.float .f32 p, .float .f32 q, .float .f32 r])] (w.heap.size + 1) ((w.alloc (.cells #[.float .f32 p, .float .f32 q, .float .f32 r] 34)).alloc (.cells #[.float .f32 0, .float .f32 0, .float .f32 0] 34)) := by
    refine ⟨((Below.refl _ _).alloc (Nat.le_refl _) _).alloc (by simp) _, ?_, by omega, ⟨.float .f32 0, .float .f32 0, .float .f32 0, by go_simp, by go_simp, by go_simp⟩, fun i => by go_simp⟩
    intro b l hm
    rcases List.mem_cons.1 hm with e | hm
    · cases e
      refine ⟨?_, by omega⟩
      exact At.new.alloc
    · cases hm
  have FR := Lib.hid fr
  clear fr
  have m1 : ((w.alloc (.cells #[.float .f32 p, .float .f32 q, .float .f32 r] 34)).alloc (.cells #[.float .f32 0, .float .f32 0, .float .f32 0] 34)).cell? ⟨b, o + 1, none⟩ = some (.int .i64 h.k) := (A.out.below FR.out.bel).c1
  go_enter Try.func153, Try.ntmps153
  go_wp2_with fail
  clear m1
  change (Code.region _ _ _).wp _ _ _ ((w.alloc (.cells #[.float .f32 p, .float .f32 q, .float .f32 r] 34)).alloc (.cells #[.float .f32 0, .float .f32 0, .float .f32 0] 34))
  generalize ((w.alloc (.cells #[.float .f32 p, .float .f32 q, .float .f32 r] 34)).alloc (.cells #[.float .f32 0, .float .f32 0, .float .f32 0] 34)) = W at *
  refine Reg2.wp_region_mix (C := Frm w [(w.heap.size, [.float .f32 p, .float .f32 q, .float .f32 r])] (w.heap.size + 1)) (G := fun w1 w2 => TV (w.heap.size + 1) (sumV c.2.2.1 (alongC c (subC F c.2.2.1))) w1 → TV (w.heap.size + 1) (sumV c.2.2.1 (alongC c (subC F c.2.2.1))) w2) (R := fun i v w' => match i with | 0 => v = .pointer (some ⟨b, o, none⟩) | 1 => v = .pointer (some ⟨b, o, none⟩) | 2 => v = .pointer (some ⟨b, o + 2, none⟩) | 3 => v = .agg #[.float .f32 h.x, .float .f32 h.y, .float .f32 h.z] | 4 => v = .pointer (some ⟨b, o, none⟩) | 5 => v = .agg #[.float .f32 p, .float .f32 q, .float .f32 r] | 6 => v = .pointer (some ⟨b, o, none⟩) | 7 => v = .pointer (some ⟨b, o, none⟩) | 8 => v = .pointer (some ⟨b, o + 2, none⟩) | 9 => v = .agg #[.float .f32 h.x, .float .f32 h.y, .float .f32 h.z] | 10 => ∃ p q r, v = vv p q r ∧ F3 p q r (subC F c.2.2.1) | 11 => ∃ p q r, v = vv p q r ∧ F3 p q r (alongC c (subC F c.2.2.1)) | 12 => ∃ p q r, v = vv p q r ∧ F3 p q r (sumV c.2.2.1 (alongC c (subC F c.2.2.1))) | _ => True) (T := fun _ w' => TV (w.heap.size + 1) (sumV c.2.2.1 (alongC c (subC F c.2.2.1))) w') [false, false, false, false, false, false, false, false, false, false, false, true, true, true, true, true, true, true, true, true, true, true, true, true, false, false, false, false, false, false, false, false, false, false, false, false, false, false, false, false]
    (by kernel_rfl) (by kernel_rfl) (by kernel_rfl) (fun _ _ _ _ _ _ h => h) (fun _ _ _ _ hG hT => hG hT) (Frm.drewN FR.out 1) ?_ ?_
  · refine ⟨Reg2.Obl.mk ?_, Reg2.Obl.mk ?_, Reg2.Obl.mk ?_, Reg2.Obl.mk ?_, Reg2.Obl.mk ?_, Reg2.Obl.mk ?_, Reg2.Obl.mk ?_, Reg2.Obl.mk ?_, Reg2.Obl.mk ?_, Reg2.Obl.mk ?_, Reg2.Obl.mk ?_, Reg2.Obl.mk ?_, Reg2.Obl.mk ?_, Reg2.Obl.mk ?_, trivial⟩
    · rintro a w1 hC hx hd K hK
      have HC := Lib.hid hC
      clear hC
      have t0 : a.tmps[0]?.getD undef = .pointer (some ⟨b, o, none⟩) := Reg.slot_val (hx 0 (by kernel_rfl))
      go_simp
      exact hK _ _ (fun _ => rfl) (fun h => by cases h) HC.out (fun h => h)
    · rintro a w1 hC hx hd K hK
      have HC := Lib.hid hC
      clear hC
      have t11 : a.tmps[11]?.getD undef = .pointer (some ⟨b, o, none⟩) := Reg.slot_val (hd 0 (by kernel_rfl) 11 rfl)
      go_simp
      exact hK _ _ (fun _ => rfl) (fun h => by cases h) HC.out (fun h => h)
    · rintro a w1 hC hx hd K hK
      have HC := Lib.hid hC
      clear hC
      have t12 : a.tmps[12]?.getD undef = .pointer (some ⟨b, o, none⟩) := Reg.slot_val (hd 1 (by kernel_rfl) 12 rfl)
      go_simp
      exact hK _ _ (fun _ => rfl) (fun h => by cases h) HC.out (fun h => h)
    · rintro a w1 hC hx hd K hK
      have HC := Lib.hid hC
      clear hC
      have y2 := (A.out.below HC.out.bel).c2
      have y3 := (A.out.below HC.out.bel).c3
      have y4 := (A.out.below HC.out.bel).c4
      have t13 : a.tmps[13]?.getD undef = .pointer (some ⟨b, o + 2, none⟩) := Reg.slot_val (hd 2 (by kernel_rfl) 13 rfl)
      go_simp
      exact hK _ _ (fun _ => rfl) (fun h => by cases h) HC.out (fun h => h)
    · rintro a w1 hC hx hd K hK
      have HC := Lib.hid hC
      clear hC
      have t0 : a.tmps[0]?.getD undef = .pointer (some ⟨b, o, none⟩) := Reg.slot_val (hx 0 (by kernel_rfl))
      go_simp
      exact hK _ _ (fun _ => rfl) (fun h => by cases h) HC.out (fun h => h)
    · rintro a w1 hC hx hd K hK
      have HC := Lib.hid hC
      clear hC
      have z0 := (HC.out.mem (.head _)) 0 _ rfl
      have z1 := (HC.out.mem (.head _)) 1 _ rfl
      have z2 := (HC.out.mem (.head _)) 2 _ rfl
      have t3 : a.tmps[3]?.getD undef = .pointer (some ⟨w.heap.size, 0, none⟩) := Reg.slot_val (hx 3 (by kernel_rfl))
      go_simp
      exact hK _ _ (fun _ => rfl) (fun h => by cases h) HC.out (fun h => h)
    · rintro a w1 hC hx hd K hK
      have HC := Lib.hid hC
      clear hC
      have t0 : a.tmps[0]?.getD undef = .pointer (some ⟨b, o, none⟩) := Reg.slot_val (hx 0 (by kernel_rfl))
      go_simp
      exact hK _ _ (fun _ => rfl) (fun h => by cases h) HC.out (fun h => h)
    · rintro a w1 hC hx hd K hK
      have HC := Lib.hid hC
      clear hC
      have t17 : a.tmps[17]?.getD undef = .pointer (some ⟨b, o, none⟩) := Reg.slot_val (hd 6 (by kernel_rfl) 17 rfl)
      go_simp
      exact hK _ _ (fun _ => rfl) (fun h => by cases h) HC.out (fun h => h)
    · rintro a w1 hC hx hd K hK
      have HC := Lib.hid hC
      clear hC
      have t18 : a.tmps[18]?.getD undef = .pointer (some ⟨b, o, none⟩) := Reg.slot_val (hd 7 (by kernel_rfl) 18 rfl)
      go_simp
      exact hK _ _ (fun _ => rfl) (fun h => by cases h) HC.out (fun h => h)
    · rintro a w1 hC hx hd K hK
      have HC := Lib.hid hC
      clear hC
      have y2 := (A.out.below HC.out.bel).c2
      have y3 := (A.out.below HC.out.bel).c3
      have y4 := (A.out.below HC.out.bel).c4
      have t19 : a.tmps[19]?.getD undef = .pointer (some ⟨b, o + 2, none⟩) := Reg.slot_val (hd 8 (by kernel_rfl) 19 rfl)
      go_simp
      exact hK _ _ (fun _ => rfl) (fun h => by cases h) HC.out (fun h => h)
    · rintro a w1 hC hx hd K hK
      have HC := Lib.hid hC
      clear hC
      have t16 : a.tmps[16]?.getD undef = .agg #[.float .f32 p, .float .f32 q, .float .f32 r] := Reg.slot_val (hd 5 (by kernel_rfl) 16 rfl)
      have t20 : a.tmps[20]?.getD undef = .agg #[.float .f32 h.x, .float .f32 h.y, .float .f32 h.z] := Reg.slot_val (hd 9 (by kernel_rfl) 20 rfl)
      go_simp
      refine (l01Less _ _ _ _ _ _ _ _ _ _ _ _ _ FF.out.1 FF.out.2.1 FF.out.2.2 I.out.2.2.1.1 I.out.2.2.1.2.1 I.out.2.2.1.2.2).mono ?_
      rintro en w2 ⟨p', q', r', rfl, fp', fq', fr', hB2⟩
      exact hK _ _ (fun _ => ⟨p', q', r', rfl, fp', fq', fr'⟩) (fun h => by cases h) (HC.out.call hB2) (TV.call hB2)
    · rintro a w1 hC hx hd K hK
      have HC := Lib.hid hC
      clear hC
      have t15 : a.tmps[15]?.getD undef = .pointer (some ⟨b, o, none⟩) := Reg.slot_val (hd 4 (by kernel_rfl) 15 rfl)
      obtain ⟨p21, q21, r21, g21, f21⟩ := hd 10 (by kernel_rfl) 21 rfl
      have t21 := Reg.slot_val g21
      clear g21
      go_simp
      refine (l04Along b o h c p21 q21 r21 (subC F c.2.2.1) _ (A.out.below HC.out.bel) I.out f21).mono ?_
      rintro en w2 ⟨p', q', r', rfl, hF, hB2⟩
      exact hK _ _ (fun _ => ⟨p', q', r', rfl, hF⟩) (fun h => by cases h) (HC.out.call hB2) (TV.call hB2)
    · rintro a w1 hC hx hd K hK
      have HC := Lib.hid hC
      clear hC
      have t14 : a.tmps[14]?.getD undef = .agg #[.float .f32 h.x, .float .f32 h.y, .float .f32 h.z] := Reg.slot_val (hd 3 (by kernel_rfl) 14 rfl)
      obtain ⟨p22, q22, r22, g22, f22⟩ := hd 11 (by kernel_rfl) 22 rfl
      have t22 := Reg.slot_val g22
      clear g22
      go_simp
      refine (l01Add _ _ _ _ _ _ _ _ _ _ _ _ _ I.out.2.2.1.1 I.out.2.2.1.2.1 I.out.2.2.1.2.2 f22.1 f22.2.1 f22.2.2).mono ?_
      rintro en w2 ⟨p', q', r', rfl, fp', fq', fr', hB2⟩
      exact hK _ _ (fun _ => ⟨p', q', r', rfl, fp', fq', fr'⟩) (fun h => by cases h) (HC.out.call hB2) (TV.call hB2)
    · rintro a w1 hC hx hd K hK
      have HC := Lib.hid hC
      clear hC
      have t4 : a.tmps[4]?.getD undef = .pointer (some ⟨w.heap.size + 1, 0, none⟩) := Reg.slot_val (hx 4 (by kernel_rfl))
      obtain ⟨p23, q23, r23, g23, f23⟩ := hd 12 (by kernel_rfl) 23 rfl
      have t23 := Reg.slot_val g23
      clear g23
      obtain ⟨u0, u1, u2, x0, x1, x2⟩ := HC.out.cells
      have k0 := HC.out.free 0
      have k1 := HC.out.free 1
      have k2 := HC.out.free 2
      go_simp
      exact hK undef _ (fun h => absurd rfl h) (fun _ => TV.put HC.out f23) (HC.out.put _ _ _) (fun _ => TV.put HC.out f23)
  rintro f w1 hC hd hT
  obtain ⟨x, y, z, ⟨x0, x1, x2⟩, hf⟩ := hT 13 rfl (by decide)
  simp only [Reg.mixL]
  have HC := Lib.hid hC
  clear hC hd hT
  go_wp2
  refine bodyPost_ret (v := vv x y z) (by simp [results, Try.results153, go_sem, x0, x1, x2]) rfl ⟨x, y, z, rfl, hf, HC.out.bel⟩
set_option maxHeartbeats 1000000 in
theorem l04Put_2 (b o : Nat) (h : HW) (c : HC) (p q r : Nat) (F : C3) (w : World) (a : h.At w b o) (i : h.Is c) (f : F3 p q r F) (hk : h.k = 2) :
    Calls Try.prog 153 #[.pointer (some ⟨b, o, none⟩), vv p q r] w fun e w' => ∃ x y z, e = .returned (vv x y z) ∧ F3 x y z (subC F (alongC c (subC F c.2.2.1))) ∧ Below w.heap.size w w' := by
  have u := Try.underlying31
  have uh := Try.underlying117
  have uv := Try.underlying34
  have ui := Try.underlying2
  have e1 : (h.k == 1) = false := by rw [hk]; rfl
  have e2 : (h.k == 2) = true := by rw [hk]; rfl
  clear hk
  have A := Lib.hid a
  clear a
  have I := Lib.hid i
  have FF := Lib.hid f
  clear i f
  have fr : Frm w [(w.heap.size, [.float .f32 p, .float .f32 q, .float .f32 r])] (w.heap.size + 1) ((w.alloc (.cells #[.float .f32 p, .float .f32 q, .float .f32 r] 34)).alloc (.cells #[.float .f32 0, .float .f32 0, .float .f32 0] 34)) := by
    refine ⟨((Below.refl _ _).alloc (Nat.le_refl _) _).alloc (by simp) _, ?_, by omega, ⟨.float .f32 0, .float .f32 0, .float .f32 0, by go_simp, by go_simp, by go_simp⟩, fun i => by go_simp⟩
    intro b l hm
    rcases List.mem_cons.1 hm with e | hm
    · cases e
      refine ⟨?_, by omega⟩
      exact At.new.alloc
    · cases hm
  have FR := Lib.hid fr
  clear fr
  have m1 : ((w.alloc (.cells #[.float .f32 p, .float .f32 q, .float .f32 r] 34)).alloc (.cells #[.float .f32 0, .float .f32 0, .float .f32 0] 34)).cell? ⟨b, o + 1, none⟩ = some (.int .i64 h.k) := (A.out.below FR.out.bel).c1
  go_enter Try.func153, Try.ntmps153
  go_wp2_with fail
  clear m1
  change (Code.region _ _ _).wp _ _ _ ((w.alloc (.cells #[.float .f32 p, .float .f32 q, .float .f32 r] 34)).alloc (.cells #[.float .f32 0, .float .f32 0, .float .f32 0] 34))
  generalize ((w.alloc (.cells #[.float .f32 p, .float .f32 q, .float .f32 r] 34)).alloc (.cells #[.float .f32 0, .float .f32 0, .float .f32 0] 34)) = W at *
  refine Reg2.wp_region_mix (C := Frm w [(w.heap.size, [.float .f32 p, .float .f32 q, .float .f32 r])] (w.heap.size + 1)) (G := fun w1 w2 => TV (w.heap.size + 1) (subC F (alongC c (subC F c.2.2.1))) w1 → TV (w.heap.size + 1) (subC F (alongC c (subC F c.2.2.1))) w2) (R := fun i v w' => match i with | 0 => v = .agg #[.float .f32 p, .float .f32 q, .float .f32 r] | 1 => v = .pointer (some ⟨b, o, none⟩) | 2 => v = .agg #[.float .f32 p, .float .f32 q, .float .f32 r] | 3 => v = .pointer (some ⟨b, o, none⟩) | 4 => v = .pointer (some ⟨b, o, none⟩) | 5 => v = .pointer (some ⟨b, o + 2, none⟩) | 6 => v = .agg #[.float .f32 h.x, .float .f32 h.y, .float .f32 h.z] | 7 => ∃ p q r, v = vv p q r ∧ F3 p q r (subC F c.2.2.1) | 8 => ∃ p q r, v = vv p q r ∧ F3 p q r (alongC c (subC F c.2.2.1)) | 9 => ∃ p q r, v = vv p q r ∧ F3 p q r (subC F (alongC c (subC F c.2.2.1))) | _ => True) (T := fun _ w' => TV (w.heap.size + 1) (subC F (alongC c (subC F c.2.2.1))) w') [false, false, false, false, false, false, false, false, false, false, false, false, false, false, false, false, false, false, false, false, false, false, false, false, false, false, true, true, true, true, true, true, true, true, true, true, false, false, false, false]
    (by kernel_rfl) (by kernel_rfl) (by kernel_rfl) (fun _ _ _ _ _ _ h => h) (fun _ _ _ _ hG hT => hG hT) (Frm.drewN FR.out 1) ?_ ?_
  · refine ⟨Reg2.Obl.mk ?_, Reg2.Obl.mk ?_, Reg2.Obl.mk ?_, Reg2.Obl.mk ?_, Reg2.Obl.mk ?_, Reg2.Obl.mk ?_, Reg2.Obl.mk ?_, Reg2.Obl.mk ?_, Reg2.Obl.mk ?_, Reg2.Obl.mk ?_, Reg2.Obl.mk ?_, trivial⟩
    · rintro a w1 hC hx hd K hK
      have HC := Lib.hid hC
      clear hC
      have z0 := (HC.out.mem (.head _)) 0 _ rfl
      have z1 := (HC.out.mem (.head _)) 1 _ rfl
      have z2 := (HC.out.mem (.head _)) 2 _ rfl
      have t3 : a.tmps[3]?.getD undef = .pointer (some ⟨w.heap.size, 0, none⟩) := Reg.slot_val (hx 3 (by kernel_rfl))
      go_simp
      exact hK _ _ (fun _ => rfl) (fun h => by cases h) HC.out (fun h => h)
    · rintro a w1 hC hx hd K hK
      have HC := Lib.hid hC
      clear hC
      have t0 : a.tmps[0]?.getD undef = .pointer (some ⟨b, o, none⟩) := Reg.slot_val (hx 0 (by kernel_rfl))
      go_simp
      exact hK _ _ (fun _ => rfl) (fun h => by cases h) HC.out (fun h => h)
    · rintro a w1 hC hx hd K hK
      have HC := Lib.hid hC
      clear hC
      have z0 := (HC.out.mem (.head _)) 0 _ rfl
      have z1 := (HC.out.mem (.head _)) 1 _ rfl
      have z2 := (HC.out.mem (.head _)) 2 _ rfl
      have t3 : a.tmps[3]?.getD undef = .pointer (some ⟨w.heap.size, 0, none⟩) := Reg.slot_val (hx 3 (by kernel_rfl))
      go_simp
      exact hK _ _ (fun _ => rfl) (fun h => by cases h) HC.out (fun h => h)
    · rintro a w1 hC hx hd K hK
      have HC := Lib.hid hC
      clear hC
      have t0 : a.tmps[0]?.getD undef = .pointer (some ⟨b, o, none⟩) := Reg.slot_val (hx 0 (by kernel_rfl))
      go_simp
      exact hK _ _ (fun _ => rfl) (fun h => by cases h) HC.out (fun h => h)
    · rintro a w1 hC hx hd K hK
      have HC := Lib.hid hC
      clear hC
      have t29 : a.tmps[29]?.getD undef = .pointer (some ⟨b, o, none⟩) := Reg.slot_val (hd 3 (by kernel_rfl) 29 rfl)
      go_simp
      exact hK _ _ (fun _ => rfl) (fun h => by cases h) HC.out (fun h => h)
    · rintro a w1 hC hx hd K hK
      have HC := Lib.hid hC
      clear hC
      have t30 : a.tmps[30]?.getD undef = .pointer (some ⟨b, o, none⟩) := Reg.slot_val (hd 4 (by kernel_rfl) 30 rfl)
      go_simp
      exact hK _ _ (fun _ => rfl) (fun h => by cases h) HC.out (fun h => h)
    · rintro a w1 hC hx hd K hK
      have HC := Lib.hid hC
      clear hC
      have y2 := (A.out.below HC.out.bel).c2
      have y3 := (A.out.below HC.out.bel).c3
      have y4 := (A.out.below HC.out.bel).c4
      have t31 : a.tmps[31]?.getD undef = .pointer (some ⟨b, o + 2, none⟩) := Reg.slot_val (hd 5 (by kernel_rfl) 31 rfl)
      go_simp
      exact hK _ _ (fun _ => rfl) (fun h => by cases h) HC.out (fun h => h)
    · rintro a w1 hC hx hd K hK
      have HC := Lib.hid hC
      clear hC
      have t28 : a.tmps[28]?.getD undef = .agg #[.float .f32 p, .float .f32 q, .float .f32 r] := Reg.slot_val (hd 2 (by kernel_rfl) 28 rfl)
      have t32 : a.tmps[32]?.getD undef = .agg #[.float .f32 h.x, .float .f32 h.y, .float .f32 h.z] := Reg.slot_val (hd 6 (by kernel_rfl) 32 rfl)
      go_simp
      refine (l01Less _ _ _ _ _ _ _ _ _ _ _ _ _ FF.out.1 FF.out.2.1 FF.out.2.2 I.out.2.2.1.1 I.out.2.2.1.2.1 I.out.2.2.1.2.2).mono ?_
      rintro en w2 ⟨p', q', r', rfl, fp', fq', fr', hB2⟩
      exact hK _ _ (fun _ => ⟨p', q', r', rfl, fp', fq', fr'⟩) (fun h => by cases h) (HC.out.call hB2) (TV.call hB2)
    · rintro a w1 hC hx hd K hK
      have HC := Lib.hid hC
      clear hC
      have t27 : a.tmps[27]?.getD undef = .pointer (some ⟨b, o, none⟩) := Reg.slot_val (hd 1 (by kernel_rfl) 27 rfl)
      obtain ⟨p33, q33, r33, g33, f33⟩ := hd 7 (by kernel_rfl) 33 rfl
      have t33 := Reg.slot_val g33
      clear g33
      go_simp
      refine (l04Along b o h c p33 q33 r33 (subC F c.2.2.1) _ (A.out.below HC.out.bel) I.out f33).mono ?_
      rintro en w2 ⟨p', q', r', rfl, hF, hB2⟩
      exact hK _ _ (fun _ => ⟨p', q', r', rfl, hF⟩) (fun h => by cases h) (HC.out.call hB2) (TV.call hB2)
    · rintro a w1 hC hx hd K hK
      have HC := Lib.hid hC
      clear hC
      have t26 : a.tmps[26]?.getD undef = .agg #[.float .f32 p, .float .f32 q, .float .f32 r] := Reg.slot_val (hd 0 (by kernel_rfl) 26 rfl)
      obtain ⟨p34, q34, r34, g34, f34⟩ := hd 8 (by kernel_rfl) 34 rfl
      have t34 := Reg.slot_val g34
      clear g34
      go_simp
      refine (l01Less _ _ _ _ _ _ _ _ _ _ _ _ _ FF.out.1 FF.out.2.1 FF.out.2.2 f34.1 f34.2.1 f34.2.2).mono ?_
      rintro en w2 ⟨p', q', r', rfl, fp', fq', fr', hB2⟩
      exact hK _ _ (fun _ => ⟨p', q', r', rfl, fp', fq', fr'⟩) (fun h => by cases h) (HC.out.call hB2) (TV.call hB2)
    · rintro a w1 hC hx hd K hK
      have HC := Lib.hid hC
      clear hC
      have t4 : a.tmps[4]?.getD undef = .pointer (some ⟨w.heap.size + 1, 0, none⟩) := Reg.slot_val (hx 4 (by kernel_rfl))
      obtain ⟨p35, q35, r35, g35, f35⟩ := hd 9 (by kernel_rfl) 35 rfl
      have t35 := Reg.slot_val g35
      clear g35
      obtain ⟨u0, u1, u2, x0, x1, x2⟩ := HC.out.cells
      have k0 := HC.out.free 0
      have k1 := HC.out.free 1
      have k2 := HC.out.free 2
      go_simp
      exact hK undef _ (fun h => absurd rfl h) (fun _ => TV.put HC.out f35) (HC.out.put _ _ _) (fun _ => TV.put HC.out f35)
  rintro f w1 hC hd hT
  obtain ⟨x, y, z, ⟨x0, x1, x2⟩, hf⟩ := hT 10 rfl (by decide)
  simp only [Reg.mixL]
  have HC := Lib.hid hC
  clear hC hd hT
  go_wp2
  refine bodyPost_ret (v := vv x y z) (by simp [results, Try.results153, go_sem, x0, x1, x2]) rfl ⟨x, y, z, rfl, hf, HC.out.bel⟩
set_option maxHeartbeats 1000000 in
theorem l04Put_0 (b o : Nat) (h : HW) (c : HC) (p q r : Nat) (F : C3) (w : World) (a : h.At w b o) (i : h.Is c) (f : F3 p q r F) (hk1 : h.k ≠ 1) (hk2 : h.k ≠ 2) :
    Calls Try.prog 153 #[.pointer (some ⟨b, o, none⟩), vv p q r] w fun e w' => ∃ x y z, e = .returned (vv x y z) ∧ F3 x y z (c.2.2.1) ∧ Below w.heap.size w w' := by
  have u := Try.underlying31
  have uh := Try.underlying117
  have uv := Try.underlying34
  have ui := Try.underlying2
  have e1 : (h.k == 1) = false := beq_eq_false_iff_ne.2 hk1
  have e2 : (h.k == 2) = false := beq_eq_false_iff_ne.2 hk2
  clear hk1 hk2
  have A := Lib.hid a
  clear a
  have I := Lib.hid i
  have FF := Lib.hid f
  clear i f
  have fr : Frm w [(w.heap.size, [.float .f32 p, .float .f32 q, .float .f32 r])] (w.heap.size + 1) ((w.alloc (.cells #[.float .f32 p, .float .f32 q, .float .f32 r] 34)).alloc (.cells #[.float .f32 0, .float .f32 0, .float .f32 0] 34)) := by
    refine ⟨((Below.refl _ _).alloc (Nat.le_refl _) _).alloc (by simp) _, ?_, by omega, ⟨.float .f32 0, .float .f32 0, .float .f32 0, by go_simp, by go_simp, by go_simp⟩, fun i => by go_simp⟩
    intro b l hm
    rcases List.mem_cons.1 hm with e | hm
    · cases e
      refine ⟨?_, by omega⟩
      exact At.new.alloc
    · cases hm
  have FR := Lib.hid fr
  clear fr
  have m1 : ((w.alloc (.cells #[.float .f32 p, .float .f32 q, .float .f32 r] 34)).alloc (.cells #[.float .f32 0, .float .f32 0, .float .f32 0] 34)).cell? ⟨b, o + 1, none⟩ = some (.int .i64 h.k) := (A.out.below FR.out.bel).c1
  have m2 : ((w.alloc (.cells #[.float .f32 p, .float .f32 q, .float .f32 r] 34)).alloc (.cells #[.float .f32 0, .float .f32 0, .float .f32 0] 34)).cell? ⟨b, o + 2, none⟩ = some (.float .f32 h.x) := (A.out.below FR.out.bel).c2
  have m3 : ((w.alloc (.cells #[.float .f32 p, .float .f32 q, .float .f32 r] 34)).alloc (.cells #[.float .f32 0, .float .f32 0, .float .f32 0] 34)).cell? ⟨b, o + 2 + 1, none⟩ = some (.float .f32 h.y) := (A.out.below FR.out.bel).c3
  have m4 : ((w.alloc (.cells #[.float .f32 p, .float .f32 q, .float .f32 r] 34)).alloc (.cells #[.float .f32 0, .float .f32 0, .float .f32 0] 34)).cell? ⟨b, o + 2 + 2, none⟩ = some (.float .f32 h.z) := (A.out.below FR.out.bel).c4
  obtain ⟨u0, u1, u2, x0, x1, x2⟩ := FR.out.cells
  have g0 := FR.out.free 0
  have g1 := FR.out.free 1
  have g2 := FR.out.free 2
  have HF := Lib.hid (FR.out.put (.float .f32 h.x) (.float .f32 h.y) (.float .f32 h.z))
  have HT := Lib.hid (TV.put FR.out (p := h.x) (q := h.y) (r := h.z) (c := c.2.2.1) (show F3 _ _ _ _ from ⟨I.out.2.2.1.1, I.out.2.2.1.2.1, I.out.2.2.1.2.2⟩))
  go_enter Try.func153, Try.ntmps153
  go_wp2_with fail
  clear x0 x1 x2 m1 m2 m3 m4
  first
    | (obtain ⟨x, y, z, ⟨x0, x1, x2⟩, hf⟩ := HT.out
       refine bodyPost_ret (v := vv x y z) (by simp [results, Try.results153, go_sem, x0, x1, x2]) rfl ⟨x, y, z, rfl, hf, HF.out.bel⟩)
    | (refine bodyPost_ret (v := vv h.x h.y h.z) (by simp [results, Try.results153, go_sem]) rfl ⟨h.x, h.y, h.z, rfl, ⟨I.out.2.2.1.1, I.out.2.2.1.2.1, I.out.2.2.1.2.2⟩, ?_⟩
       exact ((Below.refl _ _).alloc (Nat.le_refl _) _).alloc (by simp) _)
theorem l04Put (b o : Nat) (h : HW) (c : HC) (p q r : Nat) (F : C3) (w : World) (a : h.At w b o) (i : h.Is c) (f : F3 p q r F) :
    Calls Try.prog 153 #[.pointer (some ⟨b, o, none⟩), vv p q r] w fun e w' => ∃ x y z, e = .returned (vv x y z) ∧ F3 x y z (putC c F) ∧ Below w.heap.size w w' := by
  unfold putC
  by_cases h1 : c.2.1 = 1
  · rw [if_pos h1]; exact l04Put_1 b o h c p q r F w a i f (i.2.1.trans h1)
  · rw [if_neg h1]
    by_cases h2 : c.2.1 = 2
    · rw [if_pos h2]; exact l04Put_2 b o h c p q r F w a i f (i.2.1.trans h2)
    · rw [if_neg h2]; exact l04Put_0 b o h c p q r F w a i f (fun e => h1 (i.2.1.symm.trans e)) (fun e => h2 (i.2.1.symm.trans e))
def placeC (c : HC) (F : C3) : C3 := bif holdB c then putC c F else (some 0, some 0, some 0)
end Go.Proofs.Ytmbekamnogbgaaa


/-
Meshes that are held: the program puts the places. Conditions: the places are a list of the call's own, the mesh lies in a box of its own.
-/
namespace Go.Proofs.Ytmbekamnogbgaaa
open Go Fk Go.RowKit
set_option linter.unusedVariables false
set_option maxRecDepth 16000

def put1 (X : List C3) (h : HC) : List C3 := X.set h.1.toNat (putC h (X.getD h.1.toNat c0))
def putF (hs : List HC) (fs : List C3) : List C3 := hs.foldl put1 fs
theorem putF_snoc (hs : List HC) (fs : List C3) (k : Nat) (hk : k < hs.length) : putF (hs.take (k + 1)) fs = put1 (putF (hs.take k) fs) (hs.getD k hd0) := by
  rw [List.take_succ_eq_append_getElem hk]
  unfold putF
  rw [List.foldl_append]
  simp [List.getD, hk]
theorem putF_len (hs : List HC) (fs : List C3) : (putF hs fs).length = fs.length := by
  induction hs generalizing fs with
  | nil => rfl
  | cons h t ih => show (putF t (put1 fs h)).length = _; rw [ih]; simp [put1]
set_option maxHeartbeats 2000000 in
theorem put_places (ha : Option Addr) (hl hc B g fl cap : Nat) (tv : Value) (hs : List HC) (fs : List C3) (L : List (Nat × List Value)) (w W : World) (hh : IsHs w ha hl hc hs) (hS : St w L g fs W) (hm : (B, [.slice (some ⟨g, 0, none⟩) fl cap, tv]) ∈ L) (hg : ∀ k, k < hl → inB fl (hs.getD k hd0).1 = true) (hfl : fs.length = fl) (hb : fl ≤ 1048576) :
    Calls Try.prog 94 #[.pointer (some ⟨B, 0, none⟩), .slice ha hl hc] W fun e w' => e = .returned (.tuple #[]) ∧ St w L g (putF hs fs) w' := by
  have ui := Try.underlying29
  have uh := Try.underlying117
  have uv := Try.underlying34
  have hhl := hh.1
  have hM : hl ≤ 9223372036854775807 := by have h1 := hh.2.1; have h2 := hh.2.2.1; unfold maxLen at h2; omega
  have HH := Lib.hid hh
  have HG := Lib.hid hg
  have HM := Lib.hid hm
  have HS0 := Lib.hid hS
  clear hh hg hm hS
  go_enter Try.func94, Try.ntmps94
  go_wp2
  go_loopw [9] (fun i w' => ∃ k : Nat, k ≤ hl ∧ i = .int .i64 k ∧ Aside (St w L g (putF (hs.take k) fs) w')) (fun i _ => hl - (intOf i).toNat)
  case atStart => exact ⟨0, Nat.zero_le _, rfl, HS0.out⟩
  case round =>
    obtain ⟨k, hk, rfl, hA⟩ := hrel
    have ST := Lib.hid hA.out
    clear hA
    by_cases hlt : k < hl
    · skip
      obtain ⟨b, o, hha, hcell⟩ := HH.out.some (by omega)
      obtain ⟨h, hq, hi⟩ := hcell k hlt
      have hlk : k < hs.length := by omega
      have hk0 : (0 : Int) ≤ (k : Int) := by omega
      have hk1 : (k : Int) < (hl : Int) := by omega
      have hin := of_decide_eq_true (HG.out k hlt)
      have hpz : h.p = (hs.getD k hd0).1 := hi.1
      rw [← hpz] at hin
      have p0 : (0 : Int) ≤ h.p := hin.1
      have p1 : h.p < (fl : Int) := by omega
      have LT : Hid (h.p.toNat < (putF (hs.take k) fs).length) := Lib.hid (by rw [putF_len]; omega)
      have hsn := putF_snoc hs fs k hlk
      unfold put1 at hsn
      rw [← hpz] at hsn
      have hnl := putF_len (hs.take k) fs
      have HSN := Lib.hid hsn
      have HNL := Lib.hid hnl
      have HI := Lib.hid hi
      obtain ⟨NP, hNP⟩ : ∃ NP, (putF (hs.take k) fs).getD h.p.toNat c0 = NP := ⟨_, rfl⟩
      rw [hNP] at HSN
      generalize hs.getD k hd0 = HCk at *
      generalize putF (hs.take k) fs = NX at *
      have HNP := Lib.hid hNP
      have QH := Lib.hid hq
      clear hcell hin hpz hsn hnl hi hNP
      rw [hha]
      have HPA := Lib.hid hha
      clear hha
      have HQW := QH.out.below ST.out.bel
      have c0 := HQW 0 (by omega)
      have c1 := HQW 1 (by omega)
      have c2 := HQW 2 (by omega)
      have c3 := HQW 3 (by omega)
      have c4 := HQW 4 (by omega)
      have c5 := HQW 5 (by omega)
      have c6 := HQW 6 (by omega)
      have c7 := HQW 7 (by omega)
      simp only [HW.l, List.getElem?_cons_zero, List.getElem?_cons_succ, Nat.add_zero] at c0 c1 c2 c3 c4 c5 c6 c7
      have ST1 := Lib.hid (ST.out.box (vs := h.l) (t := 117))
      clear hq HQW
      go_wp2_with fail
      clear c0 c1 c2 c3 c4 c5 c6 c7
      change Hid (St w _ g _ (wr.alloc (HBox h 117))) at ST1
      change (Code.region _ _ _).wp _ _ _ (wr.alloc (HBox h 117))
      generalize (wr.alloc (HBox h 117)) = W3 at *
      generalize wr.heap.size = PB at *
      refine Reg.wp_region_mix (C := St w ((PB, h.l) :: L) g NX) (G := fun _ _ => True) (R := fun i v w' => match i with | 0 => v = .pointer (some ⟨B, 0, none⟩) | 1 => v = .pointer (some ⟨B, 0, none⟩) | 2 => v = .pointer (some ⟨B, 0, none⟩) | 3 => v = .slice (some ⟨g, 0, none⟩) fl cap | 4 => v = .pointer (some ⟨PB, 0, none⟩) | 5 => v = .int .i64 h.p | 6 => v = .pointer (some ⟨g, h.p.toNat * 3, none⟩) | 7 => v = .pointer (some ⟨g, h.p.toNat * 3, none⟩) | _ => True) (T := fun _ _ _ => True) [false, false, false, false, false, false, true, false, false, false, false, false, false, true, true, true, true, true, true, true, false, false, false, false, false, false, false, false]
        (by kernel_rfl) (by kernel_rfl) (by kernel_rfl) (fun _ _ _ _ _ _ h => h) (ST1.out.drewN 1) ?_ ?_
      · refine ⟨Reg.Obl.mk ?_, Reg.Obl.mk ?_, Reg.Obl.mk ?_, Reg.Obl.mk ?_, Reg.Obl.mk ?_, Reg.Obl.mk ?_, Reg.Obl.mk ?_, Reg.Obl.mk ?_, trivial⟩
        · rintro a w1 hC hx hd K hK
          have HC := Lib.hid hC
          clear hC
          have t0 : a.tmps[0]?.getD undef = .pointer (some ⟨B, 0, none⟩) := Reg.slot_val (hx 0 (by kernel_rfl))
          go_simp
          exact hK _ _ (fun _ => rfl) (fun h => by cases h) HC.out trivial
        · rintro a w1 hC hx hd K hK
          have HC := Lib.hid hC
          clear hC
          have t13 : a.tmps[13]?.getD undef = .pointer (some ⟨B, 0, none⟩) := Reg.slot_val (hd 0 (by kernel_rfl) 13 rfl)
          go_simp
          exact hK _ _ (fun _ => rfl) (fun h => by cases h) HC.out trivial
        · rintro a w1 hC hx hd K hK
          have HC := Lib.hid hC
          clear hC
          have t14 : a.tmps[14]?.getD undef = .pointer (some ⟨B, 0, none⟩) := Reg.slot_val (hd 1 (by kernel_rfl) 14 rfl)
          go_simp
          exact hK _ _ (fun _ => rfl) (fun h => by cases h) HC.out trivial
        · rintro a w1 hC hx hd K hK
          have HC := Lib.hid hC
          clear hC
          have y0 := (HC.out.mem (.tail _ HM.out)) 0 _ rfl
          have t15 : a.tmps[15]?.getD undef = .pointer (some ⟨B, 0, none⟩) := Reg.slot_val (hd 2 (by kernel_rfl) 15 rfl)
          go_simp
          exact hK _ _ (fun _ => rfl) (fun h => by cases h) HC.out trivial
        · rintro a w1 hC hx hd K hK
          have HC := Lib.hid hC
          clear hC
          have t5 : a.tmps[5]?.getD undef = .pointer (some ⟨PB, 0, none⟩) := Reg.slot_val (hx 5 (by kernel_rfl))
          go_simp
          exact hK _ _ (fun _ => rfl) (fun h => by cases h) HC.out trivial
        · rintro a w1 hC hx hd K hK
          have HC := Lib.hid hC
          clear hC
          have y0 := (HC.out.mem (.head _)) 0 _ rfl
          have t17 : a.tmps[17]?.getD undef = .pointer (some ⟨PB, 0, none⟩) := Reg.slot_val (hd 4 (by kernel_rfl) 17 rfl)
          go_simp
          exact hK _ _ (fun _ => rfl) (fun h => by cases h) HC.out trivial
        · rintro a w1 hC hx hd K hK
          have HC := Lib.hid hC
          clear hC
          have t16 : a.tmps[16]?.getD undef = .slice (some ⟨g, 0, none⟩) fl cap := Reg.slot_val (hd 3 (by kernel_rfl) 16 rfl)
          have t18 : a.tmps[18]?.getD undef = .int .i64 h.p := Reg.slot_val (hd 5 (by kernel_rfl) 18 rfl)
          go_simp
          exact hK _ _ (fun _ => rfl) (fun h => by cases h) HC.out trivial
        · rintro a w1 hC hx hd K hK
          have HC := Lib.hid hC
          clear hC
          have t19 : a.tmps[19]?.getD undef = .pointer (some ⟨g, h.p.toNat * 3, none⟩) := Reg.slot_val (hd 6 (by kernel_rfl) 19 rfl)
          go_simp
          exact hK _ _ (fun _ => rfl) (fun h => by cases h) HC.out trivial
      rintro f w4 hC hd hT
      have g6 : f 6 = .pointer (some ⟨g, h.p.toNat * 3, none⟩) := hd 7 6 rfl
      simp only [Reg.mixL, g6]
      have ST4 := Lib.hid hC
      clear hC hd hT g6
      go_wp2_with fail
      refine Reg3.wp_region_mix (C := St w ((PB, h.l) :: L) g NX) (G := fun _ _ => True) (R := fun i v w' => match i with | 0 => v = .pointer (some ⟨g, h.p.toNat * 3, none⟩) | 1 => v = .agg #[.int .i64 h.p, .int .i64 h.k, .float .f32 h.x, .float .f32 h.y, .float .f32 h.z, .float .f32 h.s, .float .f32 h.t, .float .f32 h.u] | 2 => v = .pointer (some ⟨g, h.p.toNat * 3, none⟩) | 3 => v = .pointer (some ⟨g, h.p.toNat * 3, none⟩) | 4 => ∃ p q r, v = vv p q r ∧ F3 p q r NP | 5 => ∃ p q r, v = vv p q r ∧ F3 p q r (putC HCk NP) | 6 => v = .pointer (some ⟨g, h.p.toNat * 3, none⟩) | _ => True) (T := fun _ _ w' => St w ((PB, h.l) :: L) g (NX.set h.p.toNat (putC HCk NP)) w') [false, false, false, false, false, false, false, false, false, false, false, false, false, false, false, false, false, false, false, false, true, true, true, true, true, true, true, false]
        (by kernel_rfl) (by kernel_rfl) (by kernel_rfl) (fun _ _ _ _ _ _ h => h) (ST4.out.drewN 1) ?_ ?_
      · refine ⟨Reg3.Obl.mk ?_, Reg3.Obl.mk ?_, Reg3.Obl.mk ?_, Reg3.Obl.mk ?_, Reg3.Obl.mk ?_, Reg3.Obl.mk ?_, Reg3.Obl.mk ?_, Reg3.Obl.mk ?_, trivial⟩
        · rintro a w1 hC hx hd K hK
          have HC := Lib.hid hC
          clear hC
          have t6 : a.tmps[6]?.getD undef = .pointer (some ⟨g, h.p.toNat * 3, none⟩) := Reg.slot_val (hx 6 (by kernel_rfl))
          go_simp
          exact hK _ _ (fun _ => rfl) (fun h => by cases h) (fun _ => HC.out) trivial
        · rintro a w1 hC hx hd K hK
          have HC := Lib.hid hC
          clear hC
          have y0 := (HC.out.mem (.head _)) 0 _ rfl
          have y1 := (HC.out.mem (.head _)) 1 _ rfl
          have y2 := (HC.out.mem (.head _)) 2 _ rfl
          have y3 := (HC.out.mem (.head _)) 3 _ rfl
          have y4 := (HC.out.mem (.head _)) 4 _ rfl
          have y5 := (HC.out.mem (.head _)) 5 _ rfl
          have y6 := (HC.out.mem (.head _)) 6 _ rfl
          have y7 := (HC.out.mem (.head _)) 7 _ rfl
          have t5 : a.tmps[5]?.getD undef = .pointer (some ⟨PB, 0, none⟩) := Reg.slot_val (hx 5 (by kernel_rfl))
          go_simp
          exact hK _ _ (fun _ => rfl) (fun h => by cases h) (fun _ => HC.out) trivial
        · rintro a w1 hC hx hd K hK
          have HC := Lib.hid hC
          clear hC
          have t6 : a.tmps[6]?.getD undef = .pointer (some ⟨g, h.p.toNat * 3, none⟩) := Reg.slot_val (hx 6 (by kernel_rfl))
          go_simp
          exact hK _ _ (fun _ => rfl) (fun h => by cases h) (fun _ => HC.out) trivial
        · rintro a w1 hC hx hd K hK
          have HC := Lib.hid hC
          clear hC
          have t22 : a.tmps[22]?.getD undef = .pointer (some ⟨g, h.p.toNat * 3, none⟩) := Reg.slot_val (hd 2 (by kernel_rfl) 22 rfl)
          go_simp
          exact hK _ _ (fun _ => rfl) (fun h => by cases h) (fun _ => HC.out) trivial
        · rintro a w1 hC hx hd K hK
          have HC := Lib.hid hC
          clear hC
          obtain ⟨pp, qq, rr, ⟨y0, y1, y2⟩, hf⟩ := HC.out.own.at (k := h.p.toNat) LT.out
          rw [HNP.out] at hf
          have t23 : a.tmps[23]?.getD undef = .pointer (some ⟨g, h.p.toNat * 3, none⟩) := Reg.slot_val (hd 3 (by kernel_rfl) 23 rfl)
          go_simp
          exact hK _ _ (fun _ => ⟨pp, qq, rr, rfl, hf⟩) (fun h => by cases h) (fun _ => HC.out) trivial
        · rintro a w1 hC hx hd K hK
          have HC := Lib.hid hC
          clear hC
          have t21 : a.tmps[21]?.getD undef = .agg #[.int .i64 h.p, .int .i64 h.k, .float .f32 h.x, .float .f32 h.y, .float .f32 h.z, .float .f32 h.s, .float .f32 h.t, .float .f32 h.u] := Reg.slot_val (hd 1 (by kernel_rfl) 21 rfl)
          obtain ⟨p24, q24, r24, g24, f24⟩ := hd 4 (by kernel_rfl) 24 rfl
          have t24 := Reg.slot_val g24
          clear g24
          go_simp
          refine (impl_puts h HCk _ _ _ _ _ HI.out f24).mono ?_
          rintro en w2 ⟨p', q', r', rfl, hF, hB2⟩
          exact hK _ _ (fun _ => ⟨p', q', r', rfl, hF⟩) (fun h => by cases h) (fun _ => HC.out.call hB2) trivial
        · rintro a w1 hC hx hd K hK
          have HC := Lib.hid hC
          clear hC
          have t20 : a.tmps[20]?.getD undef = .pointer (some ⟨g, h.p.toNat * 3, none⟩) := Reg.slot_val (hd 0 (by kernel_rfl) 20 rfl)
          go_simp
          exact hK _ _ (fun _ => rfl) (fun h => by cases h) (fun _ => HC.out) trivial
        · rintro a w1 hC hx hd K hK
          have HC := Lib.hid hC
          clear hC
          have t26 : a.tmps[26]?.getD undef = .pointer (some ⟨g, h.p.toNat * 3, none⟩) := Reg.slot_val (hd 6 (by kernel_rfl) 26 rfl)
          obtain ⟨p25, q25, r25, g25, f25⟩ := hd 5 (by kernel_rfl) 25 rfl
          have t25 := Reg.slot_val g25
          clear g25
          obtain ⟨u0, u1, u2, ⟨x0, x1, x2⟩, _⟩ := HC.out.own.at (k := h.p.toNat) LT.out
          have k0 := HC.out.own.2.1 (h.p.toNat * 3)
          have k1 := HC.out.own.2.1 (h.p.toNat * 3 + 1)
          have k2 := HC.out.own.2.1 (h.p.toNat * 3 + 2)
          go_simp
          exact hK undef _ (fun h => absurd rfl h) (fun _ => HC.out.put LT.out f25) (fun h => absurd rfl h) trivial
      rintro f w5 hd hT
      have hS := hT 7 (by kernel_rfl) (by decide)
      simp only [Reg.mixL]
      have ST2 := Lib.hid hS.drop
      clear hd hT hS
      go_wp2
      go_roundw
      case rel => exact ⟨k + 1, by omega, by go_num, by rw [HSN.out]; exact ST2.out⟩
      case measure => simp [intOf]; omega
    · obtain rfl : k = hl := by omega
      have hall : hs.take k = hs := by rw [← hhl]; exact List.take_length
      rw [hall] at ST
      go_wp2
      (try simp only [Exit.inBlock, Exit.then]); refine bodyPost_end (results_none rfl _ _ _) rfl ?_; exact ⟨rfl, ST.out⟩
end Go.Proofs.Ytmbekamnogbgaaa

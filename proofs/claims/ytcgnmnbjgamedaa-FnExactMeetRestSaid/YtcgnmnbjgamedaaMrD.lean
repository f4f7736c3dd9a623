
/-
How far films are from meeting well: the law returns true. Conditions: none beyond that the words fit.
-/
import Derived.Test.YtcgnmnbjgamedaaMrC
import Derived.Test.YtcgnmnbjgamedaaRegl
namespace Go.Proofs.Ytcgnmnbjgamedaa
open Go Fk Go.RowKit
set_option linter.unusedVariables false
set_option maxRecDepth 16000

set_option maxHeartbeats 4000000 in
theorem FnExactMeetRest_law (ax ay az bx by' bz cx cy cz : Nat) (w : World) (va : ax < 2 ^ FloatKind.f32.format.width ∧ ay < 2 ^ FloatKind.f32.format.width ∧ az < 2 ^ FloatKind.f32.format.width) (vb : bx < 2 ^ FloatKind.f32.format.width ∧ by' < 2 ^ FloatKind.f32.format.width ∧ bz < 2 ^ FloatKind.f32.format.width) (vc : cx < 2 ^ FloatKind.f32.format.width ∧ cy < 2 ^ FloatKind.f32.format.width ∧ cz < 2 ^ FloatKind.f32.format.width) :
    Calls Try.prog 8 #[vv ax ay az, vv bx by' bz, vv cx cy cz] w fun e w' => e = .returned (.bool true) ∧ Below w.heap.size w w' := by
  have u := Try.underlying22
  have u' := Try.underlying26
  have uv := Try.underlying33
  have ul := Try.underlying31
  have ha : F3 ax ay az (cls .f32 ax, cls .f32 ay, cls .f32 az) := ⟨FV.self va.1, FV.self va.2.1, FV.self va.2.2⟩
  have hb : F3 bx by' bz (cls .f32 bx, cls .f32 by', cls .f32 bz) := ⟨FV.self vb.1, FV.self vb.2.1, FV.self vb.2.2⟩
  have hc : F3 cx cy cz (cls .f32 cx, cls .f32 cy, cls .f32 cz) := ⟨FV.self vc.1, FV.self vc.2.1, FV.self vc.2.2⟩
  have JS := Lib.hid (fun w => spec_MeetRest ax ay az bx by' bz cx cy cz _ _ _ w ha hb hc)
  have JI := Lib.hid (fun w => impl_MeetRest ax ay az bx by' bz cx cy cz _ _ _ w ha hb hc)
  have bx1 := (Bx.nil w).box (vs := [.float .f32 ax, .float .f32 ay, .float .f32 az]) (t := 31)
  have bx2 := bx1.box (vs := [.float .f32 bx, .float .f32 by', .float .f32 bz]) (t := 31)
  have bx3 := bx2.box (vs := [.float .f32 cx, .float .f32 cy, .float .f32 cz]) (t := 31)
  have BX := Lib.hid bx3
  simp at BX
  clear bx1 bx2 bx3 va vb vc ha hb hc
  generalize meetC (cls .f32 ax, cls .f32 ay, cls .f32 az) (cls .f32 bx, cls .f32 by', cls .f32 bz) (cls .f32 cx, cls .f32 cy, cls .f32 cz) = E at *
  generalize okM3 (cls .f32 ax, cls .f32 ay, cls .f32 az) (cls .f32 bx, cls .f32 by', cls .f32 bz) (cls .f32 cx, cls .f32 cy, cls .f32 cz) = O at *
  have ho1 : (O == O) = true := by cases O <;> rfl
  have ho2 : (O != O) = false := by cases O <;> rfl
  go_enter Try.func8, Try.ntmps8
  go_wp2_with fail
  generalize ((w.alloc (.cells #[.float .f32 ax, .float .f32 ay, .float .f32 az] 31)).alloc (.cells #[.float .f32 bx, .float .f32 by', .float .f32 bz] 31)).alloc (.cells #[.float .f32 cx, .float .f32 cy, .float .f32 cz] 31) = W at *
  refine Regl.wp_region_mix (C := Bx w [(w.heap.size + 1 + 1, [.float .f32 cx, .float .f32 cy, .float .f32 cz]), (w.heap.size + 1, [.float .f32 bx, .float .f32 by', .float .f32 bz]), (w.heap.size, [.float .f32 ax, .float .f32 ay, .float .f32 az])]) (G := fun _ _ => True) (R := fun i v w' => match i with | 0 => v = .agg #[.float .f32 ax, .float .f32 ay, .float .f32 az] | 1 => v = vv ax ay az | 2 => v = .agg #[.float .f32 bx, .float .f32 by', .float .f32 bz] | 3 => v = vv bx by' bz | 4 => v = .agg #[.float .f32 cx, .float .f32 cy, .float .f32 cz] | 5 => v = vv cx cy cz | 6 => ∃ r, v = .tuple #[.float .f32 r, .bool O] ∧ FV .f32 r (E) | 7 => ∃ r, v = .tuple #[.float .f32 r, .bool O] ∧ FV .f32 r (E) | 8 => ∃ r, v = .float .f32 r ∧ FV .f32 r (E) | 9 => v = .bool O | 10 => ∃ r, v = .float .f32 r ∧ FV .f32 r (E) | 11 => v = .bool O | _ => True) (T := fun _ _ _ => True) [false, false, false, false, false, false, false, true, true, false, false, true, true, true, true, true, true, true, true, true, true, false, false, false, false, false, false, false, false, false, false, false, false, false, false, false, false, false, false, false, false, false]
    (by kernel_rfl) (by kernel_rfl) (by kernel_rfl) (fun _ _ _ _ _ _ h => h) (BX.out.drewN 1) ?_ ?_
  · refine ⟨Regl.Obl.mk ?_, Regl.Obl.mk ?_, Regl.Obl.mk ?_, Regl.Obl.mk ?_, Regl.Obl.mk ?_, Regl.Obl.mk ?_, Regl.Obl.mk ?_, Regl.Obl.mk ?_, Regl.Obl.mk ?_, Regl.Obl.mk ?_, Regl.Obl.mk ?_, Regl.Obl.mk ?_, trivial⟩
    · rintro a w1 hC hx hd K hK
      have HC := Lib.hid hC
      clear hC
      have y20 := (HC.out.mem (.tail _ (.tail _ (.head _)))) 0 _ rfl
      have y21 := (HC.out.mem (.tail _ (.tail _ (.head _)))) 1 _ rfl
      have y22 := (HC.out.mem (.tail _ (.tail _ (.head _)))) 2 _ rfl
      have t3 : a.tmps[3]?.getD undef = .pointer (some ⟨w.heap.size, 0, none⟩) := Reg.slot_val (hx 3 (by kernel_rfl))
      go_simp
      exact hK _ _ (fun _ => rfl) (fun h => by cases h) HC.out trivial
    · rintro a w1 hC hx hd K hK
      have HC := Lib.hid hC
      clear hC
      have t12 : a.tmps[12]?.getD undef = .agg #[.float .f32 ax, .float .f32 ay, .float .f32 az] := Reg.slot_val (hd 0 (by kernel_rfl) 12 rfl)
      go_simp
      refine (laws_toVector _ _ _ _).mono ?_
      rintro en w2 ⟨rfl, hB2⟩
      exact hK _ _ (fun _ => rfl) (fun h => by cases h) (HC.out.call hB2) trivial
    · rintro a w1 hC hx hd K hK
      have HC := Lib.hid hC
      clear hC
      have y10 := (HC.out.mem (.tail _ (.head _))) 0 _ rfl
      have y11 := (HC.out.mem (.tail _ (.head _))) 1 _ rfl
      have y12 := (HC.out.mem (.tail _ (.head _))) 2 _ rfl
      have t4 : a.tmps[4]?.getD undef = .pointer (some ⟨w.heap.size + 1, 0, none⟩) := Reg.slot_val (hx 4 (by kernel_rfl))
      go_simp
      exact hK _ _ (fun _ => rfl) (fun h => by cases h) HC.out trivial
    · rintro a w1 hC hx hd K hK
      have HC := Lib.hid hC
      clear hC
      have t14 : a.tmps[14]?.getD undef = .agg #[.float .f32 bx, .float .f32 by', .float .f32 bz] := Reg.slot_val (hd 2 (by kernel_rfl) 14 rfl)
      go_simp
      refine (laws_toVector _ _ _ _).mono ?_
      rintro en w2 ⟨rfl, hB2⟩
      exact hK _ _ (fun _ => rfl) (fun h => by cases h) (HC.out.call hB2) trivial
    · rintro a w1 hC hx hd K hK
      have HC := Lib.hid hC
      clear hC
      have y00 := (HC.out.mem (.head _)) 0 _ rfl
      have y01 := (HC.out.mem (.head _)) 1 _ rfl
      have y02 := (HC.out.mem (.head _)) 2 _ rfl
      have t5 : a.tmps[5]?.getD undef = .pointer (some ⟨w.heap.size + 1 + 1, 0, none⟩) := Reg.slot_val (hx 5 (by kernel_rfl))
      go_simp
      exact hK _ _ (fun _ => rfl) (fun h => by cases h) HC.out trivial
    · rintro a w1 hC hx hd K hK
      have HC := Lib.hid hC
      clear hC
      have t16 : a.tmps[16]?.getD undef = .agg #[.float .f32 cx, .float .f32 cy, .float .f32 cz] := Reg.slot_val (hd 4 (by kernel_rfl) 16 rfl)
      go_simp
      refine (laws_toVector _ _ _ _).mono ?_
      rintro en w2 ⟨rfl, hB2⟩
      exact hK _ _ (fun _ => rfl) (fun h => by cases h) (HC.out.call hB2) trivial
    · rintro a w1 hC hx hd K hK
      have HC := Lib.hid hC
      clear hC
      have t13 : a.tmps[13]?.getD undef = vv ax ay az := Reg.slot_val (hd 1 (by kernel_rfl) 13 rfl)
      have t15 : a.tmps[15]?.getD undef = vv bx by' bz := Reg.slot_val (hd 3 (by kernel_rfl) 15 rfl)
      have t17 : a.tmps[17]?.getD undef = vv cx cy cz := Reg.slot_val (hd 5 (by kernel_rfl) 17 rfl)
      go_simp
      refine (JS.out _).mono ?_
      rintro en w2 ⟨⟨r, rfl, hr⟩, hB2⟩
      exact hK _ _ (fun _ => ⟨r, rfl, hr⟩) (fun h => by cases h) (HC.out.call hB2) trivial
    · rintro a w1 hC hx hd K hK
      have HC := Lib.hid hC
      clear hC
      obtain ⟨r18, g18, f18⟩ := hd 6 (by kernel_rfl) 18 rfl
      have t18 := Reg.slot_val g18
      clear g18
      go_simp
      exact hK _ _ (fun _ => ⟨r18, rfl, f18⟩) (fun h => by cases h) HC.out trivial
    · rintro a w1 hC hx hd K hK
      have HC := Lib.hid hC
      clear hC
      obtain ⟨r11, g11, f11⟩ := hd 7 (by kernel_rfl) 11 rfl
      have t11 := Reg.slot_val g11
      clear g11
      go_simp
      exact hK _ _ (fun _ => ⟨r11, rfl, f11⟩) (fun h => by cases h) HC.out trivial
    · rintro a w1 hC hx hd K hK
      have HC := Lib.hid hC
      clear hC
      obtain ⟨r11, g11, f11⟩ := hd 7 (by kernel_rfl) 11 rfl
      have t11 := Reg.slot_val g11
      clear g11
      go_simp
      exact hK _ _ (fun _ => rfl) (fun h => by cases h) HC.out trivial
    · rintro a w1 hC hx hd K hK
      have HC := Lib.hid hC
      clear hC
      obtain ⟨r19, g19, f19⟩ := hd 8 (by kernel_rfl) 19 rfl
      have t19 := Reg.slot_val g19
      clear g19
      go_simp
      exact hK _ _ (fun _ => ⟨_, rfl, f19⟩) (fun h => by cases h) HC.out trivial
    · rintro a w1 hC hx hd K hK
      have HC := Lib.hid hC
      clear hC
      have t20 : a.tmps[20]?.getD undef = .bool O := Reg.slot_val (hd 9 (by kernel_rfl) 20 rfl)
      go_simp
      exact hK _ _ (fun _ => rfl) (fun h => by cases h) HC.out trivial
  · rintro f wz hBz hR hT
    obtain ⟨r, g7, f7⟩ := hR 10 7 rfl
    have g8 : f 8 = .bool O := hR 11 8 rfl
    simp only [Regl.mixL, Nat.zero_add, Nat.reduceAdd, g7, g8]
    have BXz := Lib.hid hBz
    have H7 := Lib.hid f7
    clear hR hT hBz f7 BX g8 g7
    go_wp2_with fail
    refine Regl.wp_region_mix (C := Bx w [(w.heap.size + 1 + 1, [.float .f32 cx, .float .f32 cy, .float .f32 cz]), (w.heap.size + 1, [.float .f32 bx, .float .f32 by', .float .f32 bz]), (w.heap.size, [.float .f32 ax, .float .f32 ay, .float .f32 az])]) (G := fun _ _ => True) (R := fun i v w' => match i with | 0 => v = .agg #[.float .f32 ax, .float .f32 ay, .float .f32 az] | 1 => v = vv ax ay az | 2 => v = .agg #[.float .f32 bx, .float .f32 by', .float .f32 bz] | 3 => v = vv bx by' bz | 4 => v = .agg #[.float .f32 cx, .float .f32 cy, .float .f32 cz] | 5 => v = vv cx cy cz | 6 => ∃ r, v = .tuple #[.float .f32 r, .bool O] ∧ FV .f32 r (E) | 7 => ∃ r, v = .tuple #[.float .f32 r, .bool O] ∧ FV .f32 r (E) | 8 => ∃ r, v = .float .f32 r ∧ FV .f32 r (E) | 9 => v = .bool O | 10 => ∃ r, v = .float .f32 r ∧ FV .f32 r (E) | 11 => v = .bool O | _ => True) (T := fun _ _ _ => True) [false, false, false, false, false, false, false, false, false, true, true, false, false, false, false, false, false, false, false, false, false, true, true, true, true, true, true, true, true, true, true, false, false, false, false, false, false, false, false, false, false, false]
      (by kernel_rfl) (by kernel_rfl) (by kernel_rfl) (fun _ _ _ _ _ _ h => h) (BXz.out.drewN 1) ?_ ?_
    · refine ⟨Regl.Obl.mk ?_, Regl.Obl.mk ?_, Regl.Obl.mk ?_, Regl.Obl.mk ?_, Regl.Obl.mk ?_, Regl.Obl.mk ?_, Regl.Obl.mk ?_, Regl.Obl.mk ?_, Regl.Obl.mk ?_, Regl.Obl.mk ?_, Regl.Obl.mk ?_, Regl.Obl.mk ?_, trivial⟩
      · rintro a w1 hC hx hd K hK
        have HC := Lib.hid hC
        clear hC
        have y20 := (HC.out.mem (.tail _ (.tail _ (.head _)))) 0 _ rfl
        have y21 := (HC.out.mem (.tail _ (.tail _ (.head _)))) 1 _ rfl
        have y22 := (HC.out.mem (.tail _ (.tail _ (.head _)))) 2 _ rfl
        have t3 : a.tmps[3]?.getD undef = .pointer (some ⟨w.heap.size, 0, none⟩) := Reg.slot_val (hx 3 (by kernel_rfl))
        go_simp
        exact hK _ _ (fun _ => rfl) (fun h => by cases h) HC.out trivial
      · rintro a w1 hC hx hd K hK
        have HC := Lib.hid hC
        clear hC
        have t22 : a.tmps[22]?.getD undef = .agg #[.float .f32 ax, .float .f32 ay, .float .f32 az] := Reg.slot_val (hd 0 (by kernel_rfl) 22 rfl)
        go_simp
        refine (laws_toVector _ _ _ _).mono ?_
        rintro en w2 ⟨rfl, hB2⟩
        exact hK _ _ (fun _ => rfl) (fun h => by cases h) (HC.out.call hB2) trivial
      · rintro a w1 hC hx hd K hK
        have HC := Lib.hid hC
        clear hC
        have y10 := (HC.out.mem (.tail _ (.head _))) 0 _ rfl
        have y11 := (HC.out.mem (.tail _ (.head _))) 1 _ rfl
        have y12 := (HC.out.mem (.tail _ (.head _))) 2 _ rfl
        have t4 : a.tmps[4]?.getD undef = .pointer (some ⟨w.heap.size + 1, 0, none⟩) := Reg.slot_val (hx 4 (by kernel_rfl))
        go_simp
        exact hK _ _ (fun _ => rfl) (fun h => by cases h) HC.out trivial
      · rintro a w1 hC hx hd K hK
        have HC := Lib.hid hC
        clear hC
        have t24 : a.tmps[24]?.getD undef = .agg #[.float .f32 bx, .float .f32 by', .float .f32 bz] := Reg.slot_val (hd 2 (by kernel_rfl) 24 rfl)
        go_simp
        refine (laws_toVector _ _ _ _).mono ?_
        rintro en w2 ⟨rfl, hB2⟩
        exact hK _ _ (fun _ => rfl) (fun h => by cases h) (HC.out.call hB2) trivial
      · rintro a w1 hC hx hd K hK
        have HC := Lib.hid hC
        clear hC
        have y00 := (HC.out.mem (.head _)) 0 _ rfl
        have y01 := (HC.out.mem (.head _)) 1 _ rfl
        have y02 := (HC.out.mem (.head _)) 2 _ rfl
        have t5 : a.tmps[5]?.getD undef = .pointer (some ⟨w.heap.size + 1 + 1, 0, none⟩) := Reg.slot_val (hx 5 (by kernel_rfl))
        go_simp
        exact hK _ _ (fun _ => rfl) (fun h => by cases h) HC.out trivial
      · rintro a w1 hC hx hd K hK
        have HC := Lib.hid hC
        clear hC
        have t26 : a.tmps[26]?.getD undef = .agg #[.float .f32 cx, .float .f32 cy, .float .f32 cz] := Reg.slot_val (hd 4 (by kernel_rfl) 26 rfl)
        go_simp
        refine (laws_toVector _ _ _ _).mono ?_
        rintro en w2 ⟨rfl, hB2⟩
        exact hK _ _ (fun _ => rfl) (fun h => by cases h) (HC.out.call hB2) trivial
      · rintro a w1 hC hx hd K hK
        have HC := Lib.hid hC
        clear hC
        have t23 : a.tmps[23]?.getD undef = vv ax ay az := Reg.slot_val (hd 1 (by kernel_rfl) 23 rfl)
        have t25 : a.tmps[25]?.getD undef = vv bx by' bz := Reg.slot_val (hd 3 (by kernel_rfl) 25 rfl)
        have t27 : a.tmps[27]?.getD undef = vv cx cy cz := Reg.slot_val (hd 5 (by kernel_rfl) 27 rfl)
        go_simp
        refine (JI.out _).mono ?_
        rintro en w2 ⟨⟨r, rfl, hr⟩, hB2⟩
        exact hK _ _ (fun _ => ⟨r, rfl, hr⟩) (fun h => by cases h) (HC.out.call hB2) trivial
      · rintro a w1 hC hx hd K hK
        have HC := Lib.hid hC
        clear hC
        obtain ⟨r28, g28, f28⟩ := hd 6 (by kernel_rfl) 28 rfl
        have t28 := Reg.slot_val g28
        clear g28
        go_simp
        exact hK _ _ (fun _ => ⟨r28, rfl, f28⟩) (fun h => by cases h) HC.out trivial
      · rintro a w1 hC hx hd K hK
        have HC := Lib.hid hC
        clear hC
        obtain ⟨r21, g21, f21⟩ := hd 7 (by kernel_rfl) 21 rfl
        have t21 := Reg.slot_val g21
        clear g21
        go_simp
        exact hK _ _ (fun _ => ⟨r21, rfl, f21⟩) (fun h => by cases h) HC.out trivial
      · rintro a w1 hC hx hd K hK
        have HC := Lib.hid hC
        clear hC
        obtain ⟨r21, g21, f21⟩ := hd 7 (by kernel_rfl) 21 rfl
        have t21 := Reg.slot_val g21
        clear g21
        go_simp
        exact hK _ _ (fun _ => rfl) (fun h => by cases h) HC.out trivial
      · rintro a w1 hC hx hd K hK
        have HC := Lib.hid hC
        clear hC
        obtain ⟨r29, g29, f29⟩ := hd 8 (by kernel_rfl) 29 rfl
        have t29 := Reg.slot_val g29
        clear g29
        go_simp
        exact hK _ _ (fun _ => ⟨_, rfl, f29⟩) (fun h => by cases h) HC.out trivial
      · rintro a w1 hC hx hd K hK
        have HC := Lib.hid hC
        clear hC
        have t30 : a.tmps[30]?.getD undef = .bool O := Reg.slot_val (hd 9 (by kernel_rfl) 30 rfl)
        go_simp
        exact hK _ _ (fun _ => rfl) (fun h => by cases h) HC.out trivial
    · rintro f2 wy hBy hR hT
      obtain ⟨s, g9, f9⟩ := hR 10 9 rfl
      have g10 : f2 10 = .bool O := hR 11 10 rfl
      simp only [Regl.mixL, Nat.zero_add, Nat.reduceAdd, g9, g10]
      have BXy := Lib.hid hBy
      clear hR hT hBy g9 g10
      have h7 := H7.out
      go_wp2_with (go_at_call 17; refine (laws_sameFloat _ _ _ _ (FV_wR f9) (FV_wR h7)).mono ?_; rintro en w' ⟨rfl, n1, hw⟩; rw [hw]; clear hw)
      go_ret
      exact ⟨rfl, below_drewN BXy.out.bel _⟩
end Go.Proofs.Ytcgnmnbjgamedaa

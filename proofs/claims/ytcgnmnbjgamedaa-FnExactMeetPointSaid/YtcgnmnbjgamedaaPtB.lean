
/-
The length of three paths: the model, and the law returns true. Conditions: none beyond that the words fit.
-/
import Derived.Test.YtcgnmnbjgamedaaPtA
import Derived.Test.YtcgnmnbjgamedaaNn
namespace Go.Proofs.Ytcgnmnbjgamedaa
open Go Fk Go.RowKit
set_option linter.unusedVariables false
set_option maxRecDepth 16000

theorem Num_root {c : Option Nat} (h : Pos .f32 c) (hn : Num .f32 c) : Num .f32 ((fsq (c.map wid)).map nar) := by
  intro r hr
  cases hq : fsq (c.map wid) with
  | none => rw [hq] at hr; cases hr
  | some y =>
    rw [hq] at hr
    obtain ⟨h1, h2⟩ := fsq_ok hq (Pos_wid h hn)
    cases hr
    exact isNaN_write .f32 _ h2
theorem sq_pos {a : Option Nat} : ∀ r, fop .mul .f32 a a = some r → r < 2147483648 := fun r h => (Pos_square a) r h
theorem len_pos (c : C3) : ∀ r, lenC c = some r → r < 2147483648 := fun r h => (Pos_root (Pos_add (Pos_add (Pos_square _) (Pos_square _)) (Pos_square _)) Num_fop) r h
/-- The sum of the program is that of the model. -/
theorem path_same (cp ca cb cc : C3) : pathC cp ca cb cc 3 = fop .add .f32 (fop .add .f32 (lenC (difC cp ca)) (lenC (difC cp cb))) (lenC (difC cp cc)) := by
  unfold pathC
  have h : fop .add .f32 (some 0) (lenC (difC cp ca)) = lenC (difC cp ca) := by
    rw [zero_plus (len_pos _)]
    have hn : Num .f32 (lenC (difC cp ca)) := Num_root (Pos_add (Pos_add (Pos_square _) (Pos_square _)) (Pos_square _)) Num_fop
    generalize lenC (difC cp ca) = x at *
    cases x with
    | none => rfl
    | some y => exact if_neg (by rw [hn y rfl]; decide)
  rw [h]
  rfl
set_option maxHeartbeats 4000000 in
theorem spec_PathLong (px py pz ax ay az bx by' bz cx cy cz : Nat) (cp ca cb cc : C3) (w : World) (hp : F3 px py pz cp) (ha : F3 ax ay az ca) (hb : F3 bx by' bz cb) (hc : F3 cx cy cz cc) :
    Calls Try.prog 24 #[vv px py pz, vv ax ay az, vv bx by' bz, vv cx cy cz] w fun e w' => ∃ r, e = .returned (.float .f32 r) ∧ FV .f32 r (fop .add .f32 (fop .add .f32 (lenC (difC cp ca)) (lenC (difC cp cb))) (lenC (difC cp cc))) ∧ Below w.heap.size w w' := by
  have u := Try.underlying22
  have uv := Try.underlying33
  have HP := Lib.hid hp
  have HA := Lib.hid ha
  have HB := Lib.hid hb
  have HC' := Lib.hid hc
  have bx1 := (Bx.nil w).box (vs := [.float .f32 px, .float .f32 py, .float .f32 pz]) (t := 33)
  have bx2 := bx1.box (vs := [.float .f32 ax, .float .f32 ay, .float .f32 az]) (t := 33)
  have bx3 := bx2.box (vs := [.float .f32 bx, .float .f32 by', .float .f32 bz]) (t := 33)
  have bx4 := bx3.box (vs := [.float .f32 cx, .float .f32 cy, .float .f32 cz]) (t := 33)
  have BX := Lib.hid bx4
  clear bx1 bx2 bx3 bx4
  clear hp ha hb hc
  simp at BX
  go_enter Try.func24, Try.ntmps24
  go_wp2_with fail
  generalize (((w.alloc (.cells #[.float .f32 px, .float .f32 py, .float .f32 pz] 33)).alloc (.cells #[.float .f32 ax, .float .f32 ay, .float .f32 az] 33)).alloc (.cells #[.float .f32 bx, .float .f32 by', .float .f32 bz] 33)).alloc (.cells #[.float .f32 cx, .float .f32 cy, .float .f32 cz] 33) = W at *
  refine Reg.wp_region_mix (C := Bx w [(w.heap.size + 1 + 1 + 1, [.float .f32 cx, .float .f32 cy, .float .f32 cz]), (w.heap.size + 1 + 1, [.float .f32 bx, .float .f32 by', .float .f32 bz]), (w.heap.size + 1, [.float .f32 ax, .float .f32 ay, .float .f32 az]), (w.heap.size, [.float .f32 px, .float .f32 py, .float .f32 pz])]) (G := fun _ _ => True) (R := fun i v w' => match i with | 0 => v = .agg #[.float .f32 px, .float .f32 py, .float .f32 pz] | 1 => v = .agg #[.float .f32 ax, .float .f32 ay, .float .f32 az] | 2 => ∃ p q r, v = vv p q r ∧ F3 p q r (difC cp ca) | 3 => ∃ r, v = .float .f32 r ∧ FV .f32 r (lenC (difC cp ca)) | 4 => v = .agg #[.float .f32 px, .float .f32 py, .float .f32 pz] | 5 => v = .agg #[.float .f32 bx, .float .f32 by', .float .f32 bz] | 6 => ∃ p q r, v = vv p q r ∧ F3 p q r (difC cp cb) | 7 => ∃ r, v = .float .f32 r ∧ FV .f32 r (lenC (difC cp cb)) | 8 => ∃ r, v = .float .f32 r ∧ FV .f32 r (fop .add .f32 (lenC (difC cp ca)) (lenC (difC cp cb))) | 9 => v = .agg #[.float .f32 px, .float .f32 py, .float .f32 pz] | 10 => v = .agg #[.float .f32 cx, .float .f32 cy, .float .f32 cz] | 11 => ∃ p q r, v = vv p q r ∧ F3 p q r (difC cp cc) | 12 => ∃ r, v = .float .f32 r ∧ FV .f32 r (lenC (difC cp cc)) | 13 => ∃ r, v = .float .f32 r ∧ FV .f32 r (fop .add .f32 (fop .add .f32 (lenC (difC cp ca)) (lenC (difC cp cb))) (lenC (difC cp cc))) | 14 => ∃ r, v = .float .f32 r ∧ FV .f32 r (fop .add .f32 (fop .add .f32 (lenC (difC cp ca)) (lenC (difC cp cb))) (lenC (difC cp cc))) | _ => True) (T := fun _ _ _ => True) [false, false, false, false, false, false, false, false, true, true, true, true, true, true, true, true, true, true, true, true, true, true, true]
    (by kernel_rfl) (by kernel_rfl) (by kernel_rfl) (fun _ _ _ _ _ _ h => h) (BX.out.drewN 1) ?_ ?_
  · refine ⟨Reg.Obl.mk ?_, Reg.Obl.mk ?_, Reg.Obl.mk ?_, Reg.Obl.mk ?_, Reg.Obl.mk ?_, Reg.Obl.mk ?_, Reg.Obl.mk ?_, Reg.Obl.mk ?_, Reg.Obl.mk ?_, Reg.Obl.mk ?_, Reg.Obl.mk ?_, Reg.Obl.mk ?_, Reg.Obl.mk ?_, Reg.Obl.mk ?_, Reg.Obl.mk ?_, trivial⟩
    · rintro a w1 hC hx hd K hK
      have HC := Lib.hid hC
      clear hC
      have y30 := (HC.out.mem (.tail _ (.tail _ (.tail _ (.head _))))) 0 _ rfl
      have y31 := (HC.out.mem (.tail _ (.tail _ (.tail _ (.head _))))) 1 _ rfl
      have y32 := (HC.out.mem (.tail _ (.tail _ (.tail _ (.head _))))) 2 _ rfl
      have t4 : a.tmps[4]?.getD undef = .pointer (some ⟨w.heap.size, 0, none⟩) := Reg.slot_val (hx 4 (by kernel_rfl))
      go_simp
      exact hK _ _ (fun _ => rfl) (fun h => by cases h) HC.out trivial
    · rintro a w1 hC hx hd K hK
      have HC := Lib.hid hC
      clear hC
      have y20 := (HC.out.mem (.tail _ (.tail _ (.head _)))) 0 _ rfl
      have y21 := (HC.out.mem (.tail _ (.tail _ (.head _)))) 1 _ rfl
      have y22 := (HC.out.mem (.tail _ (.tail _ (.head _)))) 2 _ rfl
      have t5 : a.tmps[5]?.getD undef = .pointer (some ⟨w.heap.size + 1, 0, none⟩) := Reg.slot_val (hx 5 (by kernel_rfl))
      go_simp
      exact hK _ _ (fun _ => rfl) (fun h => by cases h) HC.out trivial
    · rintro a w1 hC hx hd K hK
      have HC := Lib.hid hC
      clear hC
      have t9 : a.tmps[9]?.getD undef = .agg #[.float .f32 px, .float .f32 py, .float .f32 pz] := Reg.slot_val (hd 0 (by kernel_rfl) 9 rfl)
      have t10 : a.tmps[10]?.getD undef = .agg #[.float .f32 ax, .float .f32 ay, .float .f32 az] := Reg.slot_val (hd 1 (by kernel_rfl) 10 rfl)
      go_simp
      refine (l01Less _ _ _ _ _ _ _ _ _ _ _ _ _ HP.out.1 HP.out.2.1 HP.out.2.2 HA.out.1 HA.out.2.1 HA.out.2.2).mono ?_
      rintro en w2 ⟨p', q', r', rfl, fp', fq', fr', hB2⟩
      exact hK _ _ (fun _ => ⟨p', q', r', rfl, fp', fq', fr'⟩) (fun h => by cases h) (HC.out.call hB2) trivial
    · rintro a w1 hC hx hd K hK
      have HC := Lib.hid hC
      clear hC
      obtain ⟨p11, q11, r11, g11, f11⟩ := hd 2 (by kernel_rfl) 11 rfl
      have t11 := Reg.slot_val g11
      clear g11
      go_simp
      refine (l01Long _ _ _ _ _ _ _ f11.1 f11.2.1 f11.2.2).mono ?_
      rintro en w2 ⟨r, rfl, hr, hB2⟩
      exact hK _ _ (fun _ => ⟨r, rfl, hr⟩) (fun h => by cases h) (HC.out.call hB2) trivial
    · rintro a w1 hC hx hd K hK
      have HC := Lib.hid hC
      clear hC
      have y30 := (HC.out.mem (.tail _ (.tail _ (.tail _ (.head _))))) 0 _ rfl
      have y31 := (HC.out.mem (.tail _ (.tail _ (.tail _ (.head _))))) 1 _ rfl
      have y32 := (HC.out.mem (.tail _ (.tail _ (.tail _ (.head _))))) 2 _ rfl
      have t4 : a.tmps[4]?.getD undef = .pointer (some ⟨w.heap.size, 0, none⟩) := Reg.slot_val (hx 4 (by kernel_rfl))
      go_simp
      exact hK _ _ (fun _ => rfl) (fun h => by cases h) HC.out trivial
    · rintro a w1 hC hx hd K hK
      have HC := Lib.hid hC
      clear hC
      have y10 := (HC.out.mem (.tail _ (.head _))) 0 _ rfl
      have y11 := (HC.out.mem (.tail _ (.head _))) 1 _ rfl
      have y12 := (HC.out.mem (.tail _ (.head _))) 2 _ rfl
      have t6 : a.tmps[6]?.getD undef = .pointer (some ⟨w.heap.size + 1 + 1, 0, none⟩) := Reg.slot_val (hx 6 (by kernel_rfl))
      go_simp
      exact hK _ _ (fun _ => rfl) (fun h => by cases h) HC.out trivial
    · rintro a w1 hC hx hd K hK
      have HC := Lib.hid hC
      clear hC
      have t13 : a.tmps[13]?.getD undef = .agg #[.float .f32 px, .float .f32 py, .float .f32 pz] := Reg.slot_val (hd 4 (by kernel_rfl) 13 rfl)
      have t14 : a.tmps[14]?.getD undef = .agg #[.float .f32 bx, .float .f32 by', .float .f32 bz] := Reg.slot_val (hd 5 (by kernel_rfl) 14 rfl)
      go_simp
      refine (l01Less _ _ _ _ _ _ _ _ _ _ _ _ _ HP.out.1 HP.out.2.1 HP.out.2.2 HB.out.1 HB.out.2.1 HB.out.2.2).mono ?_
      rintro en w2 ⟨p', q', r', rfl, fp', fq', fr', hB2⟩
      exact hK _ _ (fun _ => ⟨p', q', r', rfl, fp', fq', fr'⟩) (fun h => by cases h) (HC.out.call hB2) trivial
    · rintro a w1 hC hx hd K hK
      have HC := Lib.hid hC
      clear hC
      obtain ⟨p15, q15, r15, g15, f15⟩ := hd 6 (by kernel_rfl) 15 rfl
      have t15 := Reg.slot_val g15
      clear g15
      go_simp
      refine (l01Long _ _ _ _ _ _ _ f15.1 f15.2.1 f15.2.2).mono ?_
      rintro en w2 ⟨r, rfl, hr, hB2⟩
      exact hK _ _ (fun _ => ⟨r, rfl, hr⟩) (fun h => by cases h) (HC.out.call hB2) trivial
    · rintro a w1 hC hx hd K hK
      have HC := Lib.hid hC
      clear hC
      obtain ⟨r12, g12, f12⟩ := hd 3 (by kernel_rfl) 12 rfl
      have t12 := Reg.slot_val g12
      clear g12
      obtain ⟨r16, g16, f16⟩ := hd 7 (by kernel_rfl) 16 rfl
      have t16 := Reg.slot_val g16
      clear g16
      go_simp
      exact hK _ _ (fun _ => ⟨_, rfl, FV_fR f12 f16⟩) (fun h => by cases h) (HC.out.drewN _) trivial
    · rintro a w1 hC hx hd K hK
      have HC := Lib.hid hC
      clear hC
      have y30 := (HC.out.mem (.tail _ (.tail _ (.tail _ (.head _))))) 0 _ rfl
      have y31 := (HC.out.mem (.tail _ (.tail _ (.tail _ (.head _))))) 1 _ rfl
      have y32 := (HC.out.mem (.tail _ (.tail _ (.tail _ (.head _))))) 2 _ rfl
      have t4 : a.tmps[4]?.getD undef = .pointer (some ⟨w.heap.size, 0, none⟩) := Reg.slot_val (hx 4 (by kernel_rfl))
      go_simp
      exact hK _ _ (fun _ => rfl) (fun h => by cases h) HC.out trivial
    · rintro a w1 hC hx hd K hK
      have HC := Lib.hid hC
      clear hC
      have y00 := (HC.out.mem (.head _)) 0 _ rfl
      have y01 := (HC.out.mem (.head _)) 1 _ rfl
      have y02 := (HC.out.mem (.head _)) 2 _ rfl
      have t7 : a.tmps[7]?.getD undef = .pointer (some ⟨w.heap.size + 1 + 1 + 1, 0, none⟩) := Reg.slot_val (hx 7 (by kernel_rfl))
      go_simp
      exact hK _ _ (fun _ => rfl) (fun h => by cases h) HC.out trivial
    · rintro a w1 hC hx hd K hK
      have HC := Lib.hid hC
      clear hC
      have t18 : a.tmps[18]?.getD undef = .agg #[.float .f32 px, .float .f32 py, .float .f32 pz] := Reg.slot_val (hd 9 (by kernel_rfl) 18 rfl)
      have t19 : a.tmps[19]?.getD undef = .agg #[.float .f32 cx, .float .f32 cy, .float .f32 cz] := Reg.slot_val (hd 10 (by kernel_rfl) 19 rfl)
      go_simp
      refine (l01Less _ _ _ _ _ _ _ _ _ _ _ _ _ HP.out.1 HP.out.2.1 HP.out.2.2 HC'.out.1 HC'.out.2.1 HC'.out.2.2).mono ?_
      rintro en w2 ⟨p', q', r', rfl, fp', fq', fr', hB2⟩
      exact hK _ _ (fun _ => ⟨p', q', r', rfl, fp', fq', fr'⟩) (fun h => by cases h) (HC.out.call hB2) trivial
    · rintro a w1 hC hx hd K hK
      have HC := Lib.hid hC
      clear hC
      obtain ⟨p20, q20, r20, g20, f20⟩ := hd 11 (by kernel_rfl) 20 rfl
      have t20 := Reg.slot_val g20
      clear g20
      go_simp
      refine (l01Long _ _ _ _ _ _ _ f20.1 f20.2.1 f20.2.2).mono ?_
      rintro en w2 ⟨r, rfl, hr, hB2⟩
      exact hK _ _ (fun _ => ⟨r, rfl, hr⟩) (fun h => by cases h) (HC.out.call hB2) trivial
    · rintro a w1 hC hx hd K hK
      have HC := Lib.hid hC
      clear hC
      obtain ⟨r17, g17, f17⟩ := hd 8 (by kernel_rfl) 17 rfl
      have t17 := Reg.slot_val g17
      clear g17
      obtain ⟨r21, g21, f21⟩ := hd 12 (by kernel_rfl) 21 rfl
      have t21 := Reg.slot_val g21
      clear g21
      go_simp
      exact hK _ _ (fun _ => ⟨_, rfl, FV_fR f17 f21⟩) (fun h => by cases h) (HC.out.drewN _) trivial
    · rintro a w1 hC hx hd K hK
      have HC := Lib.hid hC
      clear hC
      obtain ⟨r22, g22, f22⟩ := hd 13 (by kernel_rfl) 22 rfl
      have t22 := Reg.slot_val g22
      clear g22
      go_simp
      exact hK _ _ (fun _ => ⟨_, rfl, f22⟩) (fun h => by cases h) HC.out trivial
  · rintro f wz hBz hR hT
    obtain ⟨r, g8, f8⟩ := hR 14 8 rfl
    simp only [Reg.mixL, Nat.zero_add, Nat.reduceAdd, g8]
    have HBz := Lib.hid hBz
    have H8 := Lib.hid f8
    clear hR hT hBz f8
    go_wp2
    go_ret
    exact ⟨r, rfl, H8.out, HBz.out.bel⟩
set_option maxHeartbeats 4000000 in
theorem FnExactPathLong_law (px py pz ax ay az bx by' bz cx cy cz : Nat) (w : World) (vp : px < 2 ^ FloatKind.f32.format.width ∧ py < 2 ^ FloatKind.f32.format.width ∧ pz < 2 ^ FloatKind.f32.format.width) (va : ax < 2 ^ FloatKind.f32.format.width ∧ ay < 2 ^ FloatKind.f32.format.width ∧ az < 2 ^ FloatKind.f32.format.width) (vb : bx < 2 ^ FloatKind.f32.format.width ∧ by' < 2 ^ FloatKind.f32.format.width ∧ bz < 2 ^ FloatKind.f32.format.width) (vc : cx < 2 ^ FloatKind.f32.format.width ∧ cy < 2 ^ FloatKind.f32.format.width ∧ cz < 2 ^ FloatKind.f32.format.width) :
    Calls Try.prog 7 #[vv px py pz, vv ax ay az, vv bx by' bz, vv cx cy cz] w fun e w' => e = .returned (.bool true) ∧ Below w.heap.size w w' := by
  have u := Try.underlying22
  have u' := Try.underlying26
  have uv := Try.underlying33
  have ul := Try.underlying31
  have hp : F3 px py pz (cls .f32 px, cls .f32 py, cls .f32 pz) := ⟨FV.self vp.1, FV.self vp.2.1, FV.self vp.2.2⟩
  have ha : F3 ax ay az (cls .f32 ax, cls .f32 ay, cls .f32 az) := ⟨FV.self va.1, FV.self va.2.1, FV.self va.2.2⟩
  have hb : F3 bx by' bz (cls .f32 bx, cls .f32 by', cls .f32 bz) := ⟨FV.self vb.1, FV.self vb.2.1, FV.self vb.2.2⟩
  have hc : F3 cx cy cz (cls .f32 cx, cls .f32 cy, cls .f32 cz) := ⟨FV.self vc.1, FV.self vc.2.1, FV.self vc.2.2⟩
  have JS := Lib.hid (fun w => spec_PathLong px py pz ax ay az bx by' bz cx cy cz _ _ _ _ w hp ha hb hc)
  have JI := Lib.hid (fun w => impl_PathLong px py pz ax ay az bx by' bz cx cy cz _ _ _ _ w hp ha hb hc)
  rw [path_same] at JI
  clear vp va vb vc
  generalize fop .add .f32 (fop .add .f32 (lenC (difC (cls .f32 px, cls .f32 py, cls .f32 pz) (cls .f32 ax, cls .f32 ay, cls .f32 az))) (lenC (difC (cls .f32 px, cls .f32 py, cls .f32 pz) (cls .f32 bx, cls .f32 by', cls .f32 bz)))) (lenC (difC (cls .f32 px, cls .f32 py, cls .f32 pz) (cls .f32 cx, cls .f32 cy, cls .f32 cz))) = E at *
  have bx1 := (Bx.nil w).box (vs := [.float .f32 px, .float .f32 py, .float .f32 pz]) (t := 31)
  have bx2 := bx1.box (vs := [.float .f32 ax, .float .f32 ay, .float .f32 az]) (t := 31)
  have bx3 := bx2.box (vs := [.float .f32 bx, .float .f32 by', .float .f32 bz]) (t := 31)
  have bx4 := bx3.box (vs := [.float .f32 cx, .float .f32 cy, .float .f32 cz]) (t := 31)
  have BX := Lib.hid bx4
  clear bx1 bx2 bx3 bx4
  clear hp ha hb hc
  simp at BX
  go_enter Try.func7, Try.ntmps7
  go_wp2_with fail
  generalize (((w.alloc (.cells #[.float .f32 px, .float .f32 py, .float .f32 pz] 31)).alloc (.cells #[.float .f32 ax, .float .f32 ay, .float .f32 az] 31)).alloc (.cells #[.float .f32 bx, .float .f32 by', .float .f32 bz] 31)).alloc (.cells #[.float .f32 cx, .float .f32 cy, .float .f32 cz] 31) = W at *
  refine Reg.wp_region_mix (C := Bx w [(w.heap.size + 1 + 1 + 1, [.float .f32 cx, .float .f32 cy, .float .f32 cz]), (w.heap.size + 1 + 1, [.float .f32 bx, .float .f32 by', .float .f32 bz]), (w.heap.size + 1, [.float .f32 ax, .float .f32 ay, .float .f32 az]), (w.heap.size, [.float .f32 px, .float .f32 py, .float .f32 pz])]) (G := fun _ _ => True) (R := fun i v w' => match i with | 0 => v = .agg #[.float .f32 px, .float .f32 py, .float .f32 pz] | 1 => v = vv px py pz | 2 => v = .agg #[.float .f32 ax, .float .f32 ay, .float .f32 az] | 3 => v = vv ax ay az | 4 => v = .agg #[.float .f32 bx, .float .f32 by', .float .f32 bz] | 5 => v = vv bx by' bz | 6 => v = .agg #[.float .f32 cx, .float .f32 cy, .float .f32 cz] | 7 => v = vv cx cy cz | 8 => ∃ r, v = .float .f32 r ∧ FV .f32 r (E) | 9 => ∃ r, v = .float .f32 r ∧ FV .f32 r (E) | _ => True) (T := fun _ _ _ => True) [false, false, false, false, false, false, false, false, false, true, false, true, true, true, true, true, true, true, true, true, false, false, false, false, false, false, false, false, false, false, false, false, false, false, false]
    (by kernel_rfl) (by kernel_rfl) (by kernel_rfl) (fun _ _ _ _ _ _ h => h) (BX.out.drewN 1) ?_ ?_
  · refine ⟨Reg.Obl.mk ?_, Reg.Obl.mk ?_, Reg.Obl.mk ?_, Reg.Obl.mk ?_, Reg.Obl.mk ?_, Reg.Obl.mk ?_, Reg.Obl.mk ?_, Reg.Obl.mk ?_, Reg.Obl.mk ?_, Reg.Obl.mk ?_, trivial⟩
    · rintro a w1 hC hx hd K hK
      have HC := Lib.hid hC
      clear hC
      have y30 := (HC.out.mem (.tail _ (.tail _ (.tail _ (.head _))))) 0 _ rfl
      have y31 := (HC.out.mem (.tail _ (.tail _ (.tail _ (.head _))))) 1 _ rfl
      have y32 := (HC.out.mem (.tail _ (.tail _ (.tail _ (.head _))))) 2 _ rfl
      have t4 : a.tmps[4]?.getD undef = .pointer (some ⟨w.heap.size, 0, none⟩) := Reg.slot_val (hx 4 (by kernel_rfl))
      go_simp
      exact hK _ _ (fun _ => rfl) (fun h => by cases h) HC.out trivial
    · rintro a w1 hC hx hd K hK
      have HC := Lib.hid hC
      clear hC
      have t11 : a.tmps[11]?.getD undef = .agg #[.float .f32 px, .float .f32 py, .float .f32 pz] := Reg.slot_val (hd 0 (by kernel_rfl) 11 rfl)
      go_simp
      refine (laws_toVector _ _ _ _).mono ?_
      rintro en w2 ⟨rfl, hB2⟩
      exact hK _ _ (fun _ => rfl) (fun h => by cases h) (HC.out.call hB2) trivial
    · rintro a w1 hC hx hd K hK
      have HC := Lib.hid hC
      clear hC
      have y20 := (HC.out.mem (.tail _ (.tail _ (.head _)))) 0 _ rfl
      have y21 := (HC.out.mem (.tail _ (.tail _ (.head _)))) 1 _ rfl
      have y22 := (HC.out.mem (.tail _ (.tail _ (.head _)))) 2 _ rfl
      have t5 : a.tmps[5]?.getD undef = .pointer (some ⟨w.heap.size + 1, 0, none⟩) := Reg.slot_val (hx 5 (by kernel_rfl))
      go_simp
      exact hK _ _ (fun _ => rfl) (fun h => by cases h) HC.out trivial
    · rintro a w1 hC hx hd K hK
      have HC := Lib.hid hC
      clear hC
      have t13 : a.tmps[13]?.getD undef = .agg #[.float .f32 ax, .float .f32 ay, .float .f32 az] := Reg.slot_val (hd 2 (by kernel_rfl) 13 rfl)
      go_simp
      refine (laws_toVector _ _ _ _).mono ?_
      rintro en w2 ⟨rfl, hB2⟩
      exact hK _ _ (fun _ => rfl) (fun h => by cases h) (HC.out.call hB2) trivial
    · rintro a w1 hC hx hd K hK
      have HC := Lib.hid hC
      clear hC
      have y10 := (HC.out.mem (.tail _ (.head _))) 0 _ rfl
      have y11 := (HC.out.mem (.tail _ (.head _))) 1 _ rfl
      have y12 := (HC.out.mem (.tail _ (.head _))) 2 _ rfl
      have t6 : a.tmps[6]?.getD undef = .pointer (some ⟨w.heap.size + 1 + 1, 0, none⟩) := Reg.slot_val (hx 6 (by kernel_rfl))
      go_simp
      exact hK _ _ (fun _ => rfl) (fun h => by cases h) HC.out trivial
    · rintro a w1 hC hx hd K hK
      have HC := Lib.hid hC
      clear hC
      have t15 : a.tmps[15]?.getD undef = .agg #[.float .f32 bx, .float .f32 by', .float .f32 bz] := Reg.slot_val (hd 4 (by kernel_rfl) 15 rfl)
      go_simp
      refine (laws_toVector _ _ _ _).mono ?_
      rintro en w2 ⟨rfl, hB2⟩
      exact hK _ _ (fun _ => rfl) (fun h => by cases h) (HC.out.call hB2) trivial
    · rintro a w1 hC hx hd K hK
      have HC := Lib.hid hC
      clear hC
      have y00 := (HC.out.mem (.head _)) 0 _ rfl
      have y01 := (HC.out.mem (.head _)) 1 _ rfl
      have y02 := (HC.out.mem (.head _)) 2 _ rfl
      have t7 : a.tmps[7]?.getD undef = .pointer (some ⟨w.heap.size + 1 + 1 + 1, 0, none⟩) := Reg.slot_val (hx 7 (by kernel_rfl))
      go_simp
      exact hK _ _ (fun _ => rfl) (fun h => by cases h) HC.out trivial
    · rintro a w1 hC hx hd K hK
      have HC := Lib.hid hC
      clear hC
      have t17 : a.tmps[17]?.getD undef = .agg #[.float .f32 cx, .float .f32 cy, .float .f32 cz] := Reg.slot_val (hd 6 (by kernel_rfl) 17 rfl)
      go_simp
      refine (laws_toVector _ _ _ _).mono ?_
      rintro en w2 ⟨rfl, hB2⟩
      exact hK _ _ (fun _ => rfl) (fun h => by cases h) (HC.out.call hB2) trivial
    · rintro a w1 hC hx hd K hK
      have HC := Lib.hid hC
      clear hC
      have t12 : a.tmps[12]?.getD undef = vv px py pz := Reg.slot_val (hd 1 (by kernel_rfl) 12 rfl)
      have t14 : a.tmps[14]?.getD undef = vv ax ay az := Reg.slot_val (hd 3 (by kernel_rfl) 14 rfl)
      have t16 : a.tmps[16]?.getD undef = vv bx by' bz := Reg.slot_val (hd 5 (by kernel_rfl) 16 rfl)
      have t18 : a.tmps[18]?.getD undef = vv cx cy cz := Reg.slot_val (hd 7 (by kernel_rfl) 18 rfl)
      go_simp
      refine (JS.out _).mono ?_
      rintro en w2 ⟨r, rfl, hr, hB2⟩
      exact hK _ _ (fun _ => ⟨r, rfl, hr⟩) (fun h => by cases h) (HC.out.call hB2) trivial
    · rintro a w1 hC hx hd K hK
      have HC := Lib.hid hC
      clear hC
      obtain ⟨r19, g19, f19⟩ := hd 8 (by kernel_rfl) 19 rfl
      have t19 := Reg.slot_val g19
      clear g19
      go_simp
      exact hK _ _ (fun _ => ⟨_, rfl, f19⟩) (fun h => by cases h) HC.out trivial
  · rintro f wz hBz hR hT
    obtain ⟨r, g9, f9⟩ := hR 9 9 rfl
    simp only [Reg.mixL, Nat.zero_add, Nat.reduceAdd, g9]
    have BXz := Lib.hid hBz
    have H9 := Lib.hid f9
    clear hR hT hBz f9 BX
    go_wp2_with fail
    refine Reg.wp_region_mix (C := Bx w [(w.heap.size + 1 + 1 + 1, [.float .f32 cx, .float .f32 cy, .float .f32 cz]), (w.heap.size + 1 + 1, [.float .f32 bx, .float .f32 by', .float .f32 bz]), (w.heap.size + 1, [.float .f32 ax, .float .f32 ay, .float .f32 az]), (w.heap.size, [.float .f32 px, .float .f32 py, .float .f32 pz])]) (G := fun _ _ => True) (R := fun i v w' => match i with | 0 => v = .agg #[.float .f32 px, .float .f32 py, .float .f32 pz] | 1 => v = vv px py pz | 2 => v = .agg #[.float .f32 ax, .float .f32 ay, .float .f32 az] | 3 => v = vv ax ay az | 4 => v = .agg #[.float .f32 bx, .float .f32 by', .float .f32 bz] | 5 => v = vv bx by' bz | 6 => v = .agg #[.float .f32 cx, .float .f32 cy, .float .f32 cz] | 7 => v = vv cx cy cz | 8 => ∃ r, v = .float .f32 r ∧ FV .f32 r (E) | 9 => ∃ r, v = .float .f32 r ∧ FV .f32 r (E) | _ => True) (T := fun _ _ _ => True) [false, false, false, false, false, false, false, false, false, false, true, false, false, false, false, false, false, false, false, false, true, true, true, true, true, true, true, true, true, false, false, false, false, false, false]
      (by kernel_rfl) (by kernel_rfl) (by kernel_rfl) (fun _ _ _ _ _ _ h => h) (BXz.out.drewN 1) ?_ ?_
    · refine ⟨Reg.Obl.mk ?_, Reg.Obl.mk ?_, Reg.Obl.mk ?_, Reg.Obl.mk ?_, Reg.Obl.mk ?_, Reg.Obl.mk ?_, Reg.Obl.mk ?_, Reg.Obl.mk ?_, Reg.Obl.mk ?_, Reg.Obl.mk ?_, trivial⟩
      · rintro a w1 hC hx hd K hK
        have HC := Lib.hid hC
        clear hC
        have y30 := (HC.out.mem (.tail _ (.tail _ (.tail _ (.head _))))) 0 _ rfl
        have y31 := (HC.out.mem (.tail _ (.tail _ (.tail _ (.head _))))) 1 _ rfl
        have y32 := (HC.out.mem (.tail _ (.tail _ (.tail _ (.head _))))) 2 _ rfl
        have t4 : a.tmps[4]?.getD undef = .pointer (some ⟨w.heap.size, 0, none⟩) := Reg.slot_val (hx 4 (by kernel_rfl))
        go_simp
        exact hK _ _ (fun _ => rfl) (fun h => by cases h) HC.out trivial
      · rintro a w1 hC hx hd K hK
        have HC := Lib.hid hC
        clear hC
        have t20 : a.tmps[20]?.getD undef = .agg #[.float .f32 px, .float .f32 py, .float .f32 pz] := Reg.slot_val (hd 0 (by kernel_rfl) 20 rfl)
        go_simp
        refine (laws_toVector _ _ _ _).mono ?_
        rintro en w2 ⟨rfl, hB2⟩
        exact hK _ _ (fun _ => rfl) (fun h => by cases h) (HC.out.call hB2) trivial
      · rintro a w1 hC hx hd K hK
        have HC := Lib.hid hC
        clear hC
        have y20 := (HC.out.mem (.tail _ (.tail _ (.head _)))) 0 _ rfl
        have y21 := (HC.out.mem (.tail _ (.tail _ (.head _)))) 1 _ rfl
        have y22 := (HC.out.mem (.tail _ (.tail _ (.head _)))) 2 _ rfl
        have t5 : a.tmps[5]?.getD undef = .pointer (some ⟨w.heap.size + 1, 0, none⟩) := Reg.slot_val (hx 5 (by kernel_rfl))
        go_simp
        exact hK _ _ (fun _ => rfl) (fun h => by cases h) HC.out trivial
      · rintro a w1 hC hx hd K hK
        have HC := Lib.hid hC
        clear hC
        have t22 : a.tmps[22]?.getD undef = .agg #[.float .f32 ax, .float .f32 ay, .float .f32 az] := Reg.slot_val (hd 2 (by kernel_rfl) 22 rfl)
        go_simp
        refine (laws_toVector _ _ _ _).mono ?_
        rintro en w2 ⟨rfl, hB2⟩
        exact hK _ _ (fun _ => rfl) (fun h => by cases h) (HC.out.call hB2) trivial
      · rintro a w1 hC hx hd K hK
        have HC := Lib.hid hC
        clear hC
        have y10 := (HC.out.mem (.tail _ (.head _))) 0 _ rfl
        have y11 := (HC.out.mem (.tail _ (.head _))) 1 _ rfl
        have y12 := (HC.out.mem (.tail _ (.head _))) 2 _ rfl
        have t6 : a.tmps[6]?.getD undef = .pointer (some ⟨w.heap.size + 1 + 1, 0, none⟩) := Reg.slot_val (hx 6 (by kernel_rfl))
        go_simp
        exact hK _ _ (fun _ => rfl) (fun h => by cases h) HC.out trivial
      · rintro a w1 hC hx hd K hK
        have HC := Lib.hid hC
        clear hC
        have t24 : a.tmps[24]?.getD undef = .agg #[.float .f32 bx, .float .f32 by', .float .f32 bz] := Reg.slot_val (hd 4 (by kernel_rfl) 24 rfl)
        go_simp
        refine (laws_toVector _ _ _ _).mono ?_
        rintro en w2 ⟨rfl, hB2⟩
        exact hK _ _ (fun _ => rfl) (fun h => by cases h) (HC.out.call hB2) trivial
      · rintro a w1 hC hx hd K hK
        have HC := Lib.hid hC
        clear hC
        have y00 := (HC.out.mem (.head _)) 0 _ rfl
        have y01 := (HC.out.mem (.head _)) 1 _ rfl
        have y02 := (HC.out.mem (.head _)) 2 _ rfl
        have t7 : a.tmps[7]?.getD undef = .pointer (some ⟨w.heap.size + 1 + 1 + 1, 0, none⟩) := Reg.slot_val (hx 7 (by kernel_rfl))
        go_simp
        exact hK _ _ (fun _ => rfl) (fun h => by cases h) HC.out trivial
      · rintro a w1 hC hx hd K hK
        have HC := Lib.hid hC
        clear hC
        have t26 : a.tmps[26]?.getD undef = .agg #[.float .f32 cx, .float .f32 cy, .float .f32 cz] := Reg.slot_val (hd 6 (by kernel_rfl) 26 rfl)
        go_simp
        refine (laws_toVector _ _ _ _).mono ?_
        rintro en w2 ⟨rfl, hB2⟩
        exact hK _ _ (fun _ => rfl) (fun h => by cases h) (HC.out.call hB2) trivial
      · rintro a w1 hC hx hd K hK
        have HC := Lib.hid hC
        clear hC
        have t21 : a.tmps[21]?.getD undef = vv px py pz := Reg.slot_val (hd 1 (by kernel_rfl) 21 rfl)
        have t23 : a.tmps[23]?.getD undef = vv ax ay az := Reg.slot_val (hd 3 (by kernel_rfl) 23 rfl)
        have t25 : a.tmps[25]?.getD undef = vv bx by' bz := Reg.slot_val (hd 5 (by kernel_rfl) 25 rfl)
        have t27 : a.tmps[27]?.getD undef = vv cx cy cz := Reg.slot_val (hd 7 (by kernel_rfl) 27 rfl)
        go_simp
        refine (JI.out _).mono ?_
        rintro en w2 ⟨r, rfl, hr, hB2⟩
        exact hK _ _ (fun _ => ⟨r, rfl, hr⟩) (fun h => by cases h) (HC.out.call hB2) trivial
      · rintro a w1 hC hx hd K hK
        have HC := Lib.hid hC
        clear hC
        obtain ⟨r28, g28, f28⟩ := hd 8 (by kernel_rfl) 28 rfl
        have t28 := Reg.slot_val g28
        clear g28
        go_simp
        exact hK _ _ (fun _ => ⟨_, rfl, f28⟩) (fun h => by cases h) HC.out trivial
    · rintro f2 wy hBy hR hT
      obtain ⟨s, g10, f10⟩ := hR 9 10 rfl
      simp only [Reg.mixL, Nat.zero_add, Nat.reduceAdd, g10]
      have BXy := Lib.hid hBy
      clear hR hT hBy
      have h9 := H9.out
      go_wp2_with (go_at_call 17; refine (laws_sameFloat _ _ _ _ (FV_wR f10) (FV_wR h9)).mono ?_; rintro en w' ⟨rfl, n1, hw⟩; rw [hw]; clear hw)
      go_ret
      exact ⟨rfl, below_drewN BXy.out.bel _⟩
end Go.Proofs.Ytcgnmnbjgamedaa

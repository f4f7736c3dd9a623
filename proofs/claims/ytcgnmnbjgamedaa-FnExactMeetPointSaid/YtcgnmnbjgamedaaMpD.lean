
/-
Where three paths meet: the law returns true. Conditions: none beyond that the words fit.
-/
import Derived.Test.YtcgnmnbjgamedaaMpC
namespace Go.Proofs.Ytcgnmnbjgamedaa
open Go Fk Go.RowKit
set_option linter.unusedVariables false
set_option maxRecDepth 16000

set_option maxHeartbeats 4000000 in
theorem FnExactMeetPoint_law (ax ay az bx by' bz cx cy cz : Nat) (z : Int) (w : World) (va : ax < 2 ^ FloatKind.f32.format.width ∧ ay < 2 ^ FloatKind.f32.format.width ∧ az < 2 ^ FloatKind.f32.format.width) (vb : bx < 2 ^ FloatKind.f32.format.width ∧ by' < 2 ^ FloatKind.f32.format.width ∧ bz < 2 ^ FloatKind.f32.format.width) (vc : cx < 2 ^ FloatKind.f32.format.width ∧ cy < 2 ^ FloatKind.f32.format.width ∧ cz < 2 ^ FloatKind.f32.format.width) (_hz : (Lit.int .i64 z).wf = true) :
    Calls Try.prog 9 #[vv ax ay az, vv bx by' bz, vv cx cy cz, .int .i64 z] w fun e w' => e = .returned (.bool true) ∧ Below w.heap.size w w' := by
  have u := Try.underlying22
  have uv := Try.underlying33
  have ul := Try.underlying31
  have ha : F3 ax ay az (cls .f32 ax, cls .f32 ay, cls .f32 az) := ⟨FV.self va.1, FV.self va.2.1, FV.self va.2.2⟩
  have hb : F3 bx by' bz (cls .f32 bx, cls .f32 by', cls .f32 bz) := ⟨FV.self vb.1, FV.self vb.2.1, FV.self vb.2.2⟩
  have hc : F3 cx cy cz (cls .f32 cx, cls .f32 cy, cls .f32 cz) := ⟨FV.self vc.1, FV.self vc.2.1, FV.self vc.2.2⟩
  have JS := Lib.hid (fun w => spec_MeetPoint ax ay az bx by' bz cx cy cz z _ _ _ w ha hb hc)
  have JI := Lib.hid (fun w => impl_MeetPoint ax ay az bx by' bz cx cy cz z _ _ _ w ha hb hc)
  have bx1 := (Bx.nil w).box (vs := [.float .f32 ax, .float .f32 ay, .float .f32 az]) (t := 31)
  have bx2 := bx1.box (vs := [.float .f32 bx, .float .f32 by', .float .f32 bz]) (t := 31)
  have bx3 := bx2.box (vs := [.float .f32 cx, .float .f32 cy, .float .f32 cz]) (t := 31)
  have BX := Lib.hid bx3
  simp at BX
  clear bx1 bx2 bx3 va vb vc ha hb hc
  generalize pointC (cls .f32 ax, cls .f32 ay, cls .f32 az) (cls .f32 bx, cls .f32 by', cls .f32 bz) (cls .f32 cx, cls .f32 cy, cls .f32 cz) z = E at *
  generalize okMP (cls .f32 ax, cls .f32 ay, cls .f32 az) (cls .f32 bx, cls .f32 by', cls .f32 bz) (cls .f32 cx, cls .f32 cy, cls .f32 cz) z = O at *
  have ho1 : (O == O) = true := by cases O <;> rfl
  have ho2 : (O != O) = false := by cases O <;> rfl
  go_enter Try.func9, Try.ntmps9
  go_wp2_with fail
  generalize ((w.alloc (.cells #[.float .f32 ax, .float .f32 ay, .float .f32 az] 31)).alloc (.cells #[.float .f32 bx, .float .f32 by', .float .f32 bz] 31)).alloc (.cells #[.float .f32 cx, .float .f32 cy, .float .f32 cz] 31) = W at *
  refine Reg6.wp_region_mix (s := 12) (C := Bx w [(w.heap.size + 1 + 1, [.float .f32 cx, .float .f32 cy, .float .f32 cz]), (w.heap.size + 1, [.float .f32 bx, .float .f32 by', .float .f32 bz]), (w.heap.size, [.float .f32 ax, .float .f32 ay, .float .f32 az])]) (D := fun aa w' => ∃ bb xx yy tt, aa.eval (.tmp 9) = .pointer (some ⟨bb, 0, none⟩) ∧ (∀ b' l', (b', l') ∈ ([(w.heap.size + 1 + 1, [.float .f32 cx, .float .f32 cy, .float .f32 cz]), (w.heap.size + 1, [.float .f32 bx, .float .f32 by', .float .f32 bz]), (w.heap.size, [.float .f32 ax, .float .f32 ay, .float .f32 az])] : List (Nat × List Value)) → bb ≠ b') ∧ F3 xx yy tt (E) ∧ Bx w ((bb, [.float .f32 xx, .float .f32 yy, .float .f32 tt]) :: [(w.heap.size + 1 + 1, [.float .f32 cx, .float .f32 cy, .float .f32 cz]), (w.heap.size + 1, [.float .f32 bx, .float .f32 by', .float .f32 bz]), (w.heap.size, [.float .f32 ax, .float .f32 ay, .float .f32 az])]) w') (G := fun w1 w2 => Below w1.heap.size w1 w2) (Rv := fun i v => match i with | 0 => v = .agg #[.float .f32 ax, .float .f32 ay, .float .f32 az] | 1 => v = vv ax ay az | 2 => v = .agg #[.float .f32 bx, .float .f32 by', .float .f32 bz] | 3 => v = vv bx by' bz | 4 => v = .agg #[.float .f32 cx, .float .f32 cy, .float .f32 cz] | 5 => v = vv cx cy cz | 6 => v = .int .i64 z | 7 => ∃ p q r, v = .tuple #[vv p q r, .bool O] ∧ F3 p q r (E) | 8 => ∃ p q r, v = .tuple #[vv p q r, .bool O] ∧ F3 p q r (E) | 9 => ∃ p q r, v = vv p q r ∧ F3 p q r (E) | 10 => v = .bool O | 13 => v = .bool O | _ => True) (Rw := fun i v w' => match i with | 11 => ∃ bb, v = .pointer (some ⟨bb, 0, none⟩) ∧ (∀ b' l', (b', l') ∈ ([(w.heap.size + 1 + 1, [.float .f32 cx, .float .f32 cy, .float .f32 cz]), (w.heap.size + 1, [.float .f32 bx, .float .f32 by', .float .f32 bz]), (w.heap.size, [.float .f32 ax, .float .f32 ay, .float .f32 az])] : List (Nat × List Value)) → bb ≠ b') ∧ w.heap.size ≤ bb ∧ Z3 w' bb | _ => True) [false, false, false, false, false, false, false, false, false, true, true, false, false, true, true, true, true, true, true, true, true, true, true, true, false, false, false, false, false, false, false, false, false, false, false, false, false, false, false, false, false, false, false, false]
    (by kernel_rfl) (by kernel_rfl) (by kernel_rfl) ?_ (BX.out.drewN 1) ?_ ?_
  · intro j v w1 w2 hC hG hR
    match j with
    | 0 => trivial
    | 1 => trivial
    | 2 => trivial
    | 3 => trivial
    | 4 => trivial
    | 5 => trivial
    | 6 => trivial
    | 7 => trivial
    | 8 => trivial
    | 9 => trivial
    | 10 => trivial
    | 11 => obtain ⟨b, e, h0, h1, h2⟩ := hR; exact ⟨b, e, h0, h1, h2.below hG⟩
    | 12 => trivial
    | 13 => trivial
    | _ + 14 => trivial
  · refine ⟨?_, ?_, ?_, ?_, ?_, ?_, ?_, ?_, ?_, ?_, ?_, ?_, ?_, ?_, trivial⟩
    · refine Reg6.Obl.early rfl (by kernel_rfl) ?_
      rintro a w1 hC hx hd K hK
      have HC := Lib.hid hC
      clear hC
      have y20 := (HC.out.mem (.tail _ (.tail _ (.head _)))) 0 _ rfl
      have y21 := (HC.out.mem (.tail _ (.tail _ (.head _)))) 1 _ rfl
      have y22 := (HC.out.mem (.tail _ (.tail _ (.head _)))) 2 _ rfl
      have t4 : a.tmps[4]?.getD undef = .pointer (some ⟨w.heap.size, 0, none⟩) := Reg.slot_val (hx 4 (by kernel_rfl))
      go_simp
      exact hK _ _ rfl trivial HC.out (Below.refl _ _)
    · refine Reg6.Obl.early rfl (by kernel_rfl) ?_
      rintro a w1 hC hx hd K hK
      have HC := Lib.hid hC
      clear hC
      have t14 : a.tmps[14]?.getD undef = .agg #[.float .f32 ax, .float .f32 ay, .float .f32 az] := Reg.slot_val ((hd 0 14 (by kernel_rfl) rfl).1)
      go_simp
      refine (laws_toVector _ _ _ _).mono ?_
      rintro en w2 ⟨rfl, hB2⟩
      exact hK _ _ rfl trivial (HC.out.call hB2) hB2
    · refine Reg6.Obl.early rfl (by kernel_rfl) ?_
      rintro a w1 hC hx hd K hK
      have HC := Lib.hid hC
      clear hC
      have y10 := (HC.out.mem (.tail _ (.head _))) 0 _ rfl
      have y11 := (HC.out.mem (.tail _ (.head _))) 1 _ rfl
      have y12 := (HC.out.mem (.tail _ (.head _))) 2 _ rfl
      have t5 : a.tmps[5]?.getD undef = .pointer (some ⟨w.heap.size + 1, 0, none⟩) := Reg.slot_val (hx 5 (by kernel_rfl))
      go_simp
      exact hK _ _ rfl trivial HC.out (Below.refl _ _)
    · refine Reg6.Obl.early rfl (by kernel_rfl) ?_
      rintro a w1 hC hx hd K hK
      have HC := Lib.hid hC
      clear hC
      have t16 : a.tmps[16]?.getD undef = .agg #[.float .f32 bx, .float .f32 by', .float .f32 bz] := Reg.slot_val ((hd 2 16 (by kernel_rfl) rfl).1)
      go_simp
      refine (laws_toVector _ _ _ _).mono ?_
      rintro en w2 ⟨rfl, hB2⟩
      exact hK _ _ rfl trivial (HC.out.call hB2) hB2
    · refine Reg6.Obl.early rfl (by kernel_rfl) ?_
      rintro a w1 hC hx hd K hK
      have HC := Lib.hid hC
      clear hC
      have y00 := (HC.out.mem (.head _)) 0 _ rfl
      have y01 := (HC.out.mem (.head _)) 1 _ rfl
      have y02 := (HC.out.mem (.head _)) 2 _ rfl
      have t6 : a.tmps[6]?.getD undef = .pointer (some ⟨w.heap.size + 1 + 1, 0, none⟩) := Reg.slot_val (hx 6 (by kernel_rfl))
      go_simp
      exact hK _ _ rfl trivial HC.out (Below.refl _ _)
    · refine Reg6.Obl.early rfl (by kernel_rfl) ?_
      rintro a w1 hC hx hd K hK
      have HC := Lib.hid hC
      clear hC
      have t18 : a.tmps[18]?.getD undef = .agg #[.float .f32 cx, .float .f32 cy, .float .f32 cz] := Reg.slot_val ((hd 4 18 (by kernel_rfl) rfl).1)
      go_simp
      refine (laws_toVector _ _ _ _).mono ?_
      rintro en w2 ⟨rfl, hB2⟩
      exact hK _ _ rfl trivial (HC.out.call hB2) hB2
    · refine Reg6.Obl.early rfl (by kernel_rfl) ?_
      rintro a w1 hC hx hd K hK
      have HC := Lib.hid hC
      clear hC
      have t3 : a.tmps[3]?.getD undef = .int .i64 z := Reg.slot_val (hx 3 (by kernel_rfl))
      go_simp
      exact hK _ _ rfl trivial HC.out (Below.refl _ _)
    · refine Reg6.Obl.early rfl (by kernel_rfl) ?_
      rintro a w1 hC hx hd K hK
      have HC := Lib.hid hC
      clear hC
      have t15 : a.tmps[15]?.getD undef = vv ax ay az := Reg.slot_val ((hd 1 15 (by kernel_rfl) rfl).1)
      have t17 : a.tmps[17]?.getD undef = vv bx by' bz := Reg.slot_val ((hd 3 17 (by kernel_rfl) rfl).1)
      have t19 : a.tmps[19]?.getD undef = vv cx cy cz := Reg.slot_val ((hd 5 19 (by kernel_rfl) rfl).1)
      have t20 : a.tmps[20]?.getD undef = .int .i64 z := Reg.slot_val ((hd 6 20 (by kernel_rfl) rfl).1)
      go_simp
      refine (JS.out _).mono ?_
      rintro en w2 ⟨⟨x, y, z, rfl, hF⟩, hB2⟩
      exact hK _ _ ⟨x, y, z, rfl, hF⟩ trivial (HC.out.call hB2) hB2
    · refine Reg6.Obl.early rfl (by kernel_rfl) ?_
      rintro a w1 hC hx hd K hK
      have HC := Lib.hid hC
      clear hC
      obtain ⟨p21, q21, r21, g21, f21⟩ := (hd 7 21 (by kernel_rfl) rfl).1
      have t21 := Reg.slot_val g21
      clear g21
      go_simp
      exact hK _ _ ⟨p21, q21, r21, rfl, f21⟩ trivial HC.out (Below.refl _ _)
    · refine Reg6.Obl.early rfl (by kernel_rfl) ?_
      rintro a w1 hC hx hd K hK
      have HC := Lib.hid hC
      clear hC
      obtain ⟨p13, q13, r13, g13, f13⟩ := (hd 8 13 (by kernel_rfl) rfl).1
      have t13 := Reg.slot_val g13
      clear g13
      go_simp
      exact hK _ _ ⟨p13, q13, r13, rfl, f13⟩ trivial HC.out (Below.refl _ _)
    · refine Reg6.Obl.late rfl (by kernel_rfl) ?_
      rintro a w1 hx hd K hK
      obtain ⟨p13, q13, r13, g13, f13⟩ := hd 8 13 (by kernel_rfl) rfl
      have t13 := Reg.slot_val g13
      clear g13
      go_simp
      exact hK _ rfl (fun w hD => by obtain ⟨b, x, y, t, e, h⟩ := hD; exact ⟨b, x, y, t, (evalPutNe (by decide)).trans e, h⟩)
    · refine Reg6.Obl.early rfl (by kernel_rfl) ?_
      rintro a w1 hC hx hd K hK
      have HC := Lib.hid hC
      clear hC
      go_simp
      exact hK _ _ trivial ⟨w1.heap.size, rfl, fun b' l' hm => (Nat.ne_of_lt (HC.out.2 b' l' hm).2.2.1).symm, HC.out.1.size, Z3.new⟩ (HC.out.call ((Below.refl _ _).alloc (Nat.le_refl _) _)) ((Below.refl _ _).alloc (Nat.le_refl _) _)
    · refine Reg6.Obl.store rfl ?_
      rintro a w1 hC hx hd K hK
      have HC := Lib.hid hC
      clear hC
      obtain ⟨b, gb, hbl, hlo, hZ⟩ := (hd 11 9 (by kernel_rfl) rfl).2
      have tb := Reg.slot_val gb
      obtain ⟨x, y, t, g1, hF⟩ := (hd 9 22 (by kernel_rfl) rfl).1
      have tt := Reg.slot_val g1
      clear g1
      have GB := Lib.hid gb
      have HZ := Lib.hid hZ
      have HF := Lib.hid hF
      have HBL := Lib.hid hbl
      obtain ⟨⟨y0, y1, y2⟩, yf⟩ := hZ
      have f0 := yf 0
      have f1 := yf 1
      have f2 := yf 2
      clear yf gb hF hbl
      go_simp
      exact hK _ ⟨b, x, y, t, GB.out, HBL.out, HF.out, (HC.out.z3 HZ.out hlo).put3 HBL.out _ _ _⟩
    · refine Reg6.Obl.late rfl (by kernel_rfl) ?_
      rintro a w1 hx hd K hK
      have t23 : a.tmps[23]?.getD undef = .bool O := Reg.slot_val (hd 10 23 (by kernel_rfl) rfl)
      go_simp
      exact hK _ rfl (fun w hD => by obtain ⟨b, x, y, t, e, h⟩ := hD; exact ⟨b, x, y, t, (evalPutNe (by decide)).trans e, h⟩)
  · rintro f W1 hD hv
    obtain ⟨sb, s1, s2, s3, e6, hne, hF, hB⟩ := hD
    have g9 : f 9 = .pointer (some ⟨sb, 0, none⟩) := e6
    have g10 : f 10 = .bool O := hv 13 10 rfl
    clear e6 hv hne
    simp only [Reg.mixL, Nat.zero_add, Nat.reduceAdd, g9, g10]
    have BY0 := Lib.hid hB
    have FS := Lib.hid hF
    clear hB hF g9 g10
    have BY : Hid (Bx w [(w.heap.size + 1 + 1, [.float .f32 cx, .float .f32 cy, .float .f32 cz]), (w.heap.size + 1, [.float .f32 bx, .float .f32 by', .float .f32 bz]), (w.heap.size, [.float .f32 ax, .float .f32 ay, .float .f32 az]), (sb, [.float .f32 s1, .float .f32 s2, .float .f32 s3])] W1) := Lib.hid ⟨BY0.out.1, fun b l hm => BY0.out.2 b l (by
      rcases List.mem_cons.1 hm with e | hm
      · exact e ▸ .tail _ (.head _)
      · rcases List.mem_cons.1 hm with e | hm
        · exact e ▸ .tail _ (.tail _ (.head _))
        · rcases List.mem_cons.1 hm with e | hm
          · exact e ▸ .tail _ (.tail _ (.tail _ (.head _)))
          · rcases List.mem_cons.1 hm with e | hm
            · exact e ▸ .head _
            · cases hm)⟩
    clear BY0
    go_wp2_with fail
    refine Reg6.wp_region_mix (s := 12) (C := Bx w [(w.heap.size + 1 + 1, [.float .f32 cx, .float .f32 cy, .float .f32 cz]), (w.heap.size + 1, [.float .f32 bx, .float .f32 by', .float .f32 bz]), (w.heap.size, [.float .f32 ax, .float .f32 ay, .float .f32 az]), (sb, [.float .f32 s1, .float .f32 s2, .float .f32 s3])]) (D := fun aa w' => ∃ bb xx yy tt, aa.eval (.tmp 11) = .pointer (some ⟨bb, 0, none⟩) ∧ (∀ b' l', (b', l') ∈ ([(w.heap.size + 1 + 1, [.float .f32 cx, .float .f32 cy, .float .f32 cz]), (w.heap.size + 1, [.float .f32 bx, .float .f32 by', .float .f32 bz]), (w.heap.size, [.float .f32 ax, .float .f32 ay, .float .f32 az]), (sb, [.float .f32 s1, .float .f32 s2, .float .f32 s3])] : List (Nat × List Value)) → bb ≠ b') ∧ F3 xx yy tt (E) ∧ Bx w ((bb, [.float .f32 xx, .float .f32 yy, .float .f32 tt]) :: [(w.heap.size + 1 + 1, [.float .f32 cx, .float .f32 cy, .float .f32 cz]), (w.heap.size + 1, [.float .f32 bx, .float .f32 by', .float .f32 bz]), (w.heap.size, [.float .f32 ax, .float .f32 ay, .float .f32 az]), (sb, [.float .f32 s1, .float .f32 s2, .float .f32 s3])]) w') (G := fun w1 w2 => Below w1.heap.size w1 w2) (Rv := fun i v => match i with | 0 => v = .agg #[.float .f32 ax, .float .f32 ay, .float .f32 az] | 1 => v = vv ax ay az | 2 => v = .agg #[.float .f32 bx, .float .f32 by', .float .f32 bz] | 3 => v = vv bx by' bz | 4 => v = .agg #[.float .f32 cx, .float .f32 cy, .float .f32 cz] | 5 => v = vv cx cy cz | 6 => v = .int .i64 z | 7 => ∃ p q r, v = .tuple #[vv p q r, .bool O] ∧ F3 p q r (E) | 8 => ∃ p q r, v = .tuple #[vv p q r, .bool O] ∧ F3 p q r (E) | 9 => ∃ p q r, v = vv p q r ∧ F3 p q r (E) | 10 => v = .bool O | 13 => v = .bool O | _ => True) (Rw := fun i v w' => match i with | 11 => ∃ bb, v = .pointer (some ⟨bb, 0, none⟩) ∧ (∀ b' l', (b', l') ∈ ([(w.heap.size + 1 + 1, [.float .f32 cx, .float .f32 cy, .float .f32 cz]), (w.heap.size + 1, [.float .f32 bx, .float .f32 by', .float .f32 bz]), (w.heap.size, [.float .f32 ax, .float .f32 ay, .float .f32 az]), (sb, [.float .f32 s1, .float .f32 s2, .float .f32 s3])] : List (Nat × List Value)) → bb ≠ b') ∧ w.heap.size ≤ bb ∧ Z3 w' bb | _ => True) [false, false, false, false, false, false, false, false, false, false, false, true, true, false, false, false, false, false, false, false, false, false, false, false, true, true, true, true, true, true, true, true, true, true, true, false, false, false, false, false, false, false, false, false]
      (by kernel_rfl) (by kernel_rfl) (by kernel_rfl) ?_ (BY.out.drewN 1) ?_ ?_
    · intro j v w1 w2 hC hG hR
      match j with
      | 0 => trivial
      | 1 => trivial
      | 2 => trivial
      | 3 => trivial
      | 4 => trivial
      | 5 => trivial
      | 6 => trivial
      | 7 => trivial
      | 8 => trivial
      | 9 => trivial
      | 10 => trivial
      | 11 => obtain ⟨b, e, h0, h1, h2⟩ := hR; exact ⟨b, e, h0, h1, h2.below hG⟩
      | 12 => trivial
      | 13 => trivial
      | _ + 14 => trivial
    · refine ⟨?_, ?_, ?_, ?_, ?_, ?_, ?_, ?_, ?_, ?_, ?_, ?_, ?_, ?_, trivial⟩
      · refine Reg6.Obl.early rfl (by kernel_rfl) ?_
        rintro a w1 hC hx hd K hK
        have HC := Lib.hid hC
        clear hC
        have y20 := (HC.out.mem (.tail _ (.tail _ (.head _)))) 0 _ rfl
        have y21 := (HC.out.mem (.tail _ (.tail _ (.head _)))) 1 _ rfl
        have y22 := (HC.out.mem (.tail _ (.tail _ (.head _)))) 2 _ rfl
        have t4 : a.tmps[4]?.getD undef = .pointer (some ⟨w.heap.size, 0, none⟩) := Reg.slot_val (hx 4 (by kernel_rfl))
        go_simp
        exact hK _ _ rfl trivial HC.out (Below.refl _ _)
      · refine Reg6.Obl.early rfl (by kernel_rfl) ?_
        rintro a w1 hC hx hd K hK
        have HC := Lib.hid hC
        clear hC
        have t25 : a.tmps[25]?.getD undef = .agg #[.float .f32 ax, .float .f32 ay, .float .f32 az] := Reg.slot_val ((hd 0 25 (by kernel_rfl) rfl).1)
        go_simp
        refine (laws_toVector _ _ _ _).mono ?_
        rintro en w2 ⟨rfl, hB2⟩
        exact hK _ _ rfl trivial (HC.out.call hB2) hB2
      · refine Reg6.Obl.early rfl (by kernel_rfl) ?_
        rintro a w1 hC hx hd K hK
        have HC := Lib.hid hC
        clear hC
        have y10 := (HC.out.mem (.tail _ (.head _))) 0 _ rfl
        have y11 := (HC.out.mem (.tail _ (.head _))) 1 _ rfl
        have y12 := (HC.out.mem (.tail _ (.head _))) 2 _ rfl
        have t5 : a.tmps[5]?.getD undef = .pointer (some ⟨w.heap.size + 1, 0, none⟩) := Reg.slot_val (hx 5 (by kernel_rfl))
        go_simp
        exact hK _ _ rfl trivial HC.out (Below.refl _ _)
      · refine Reg6.Obl.early rfl (by kernel_rfl) ?_
        rintro a w1 hC hx hd K hK
        have HC := Lib.hid hC
        clear hC
        have t27 : a.tmps[27]?.getD undef = .agg #[.float .f32 bx, .float .f32 by', .float .f32 bz] := Reg.slot_val ((hd 2 27 (by kernel_rfl) rfl).1)
        go_simp
        refine (laws_toVector _ _ _ _).mono ?_
        rintro en w2 ⟨rfl, hB2⟩
        exact hK _ _ rfl trivial (HC.out.call hB2) hB2
      · refine Reg6.Obl.early rfl (by kernel_rfl) ?_
        rintro a w1 hC hx hd K hK
        have HC := Lib.hid hC
        clear hC
        have y00 := (HC.out.mem (.head _)) 0 _ rfl
        have y01 := (HC.out.mem (.head _)) 1 _ rfl
        have y02 := (HC.out.mem (.head _)) 2 _ rfl
        have t6 : a.tmps[6]?.getD undef = .pointer (some ⟨w.heap.size + 1 + 1, 0, none⟩) := Reg.slot_val (hx 6 (by kernel_rfl))
        go_simp
        exact hK _ _ rfl trivial HC.out (Below.refl _ _)
      · refine Reg6.Obl.early rfl (by kernel_rfl) ?_
        rintro a w1 hC hx hd K hK
        have HC := Lib.hid hC
        clear hC
        have t29 : a.tmps[29]?.getD undef = .agg #[.float .f32 cx, .float .f32 cy, .float .f32 cz] := Reg.slot_val ((hd 4 29 (by kernel_rfl) rfl).1)
        go_simp
        refine (laws_toVector _ _ _ _).mono ?_
        rintro en w2 ⟨rfl, hB2⟩
        exact hK _ _ rfl trivial (HC.out.call hB2) hB2
      · refine Reg6.Obl.early rfl (by kernel_rfl) ?_
        rintro a w1 hC hx hd K hK
        have HC := Lib.hid hC
        clear hC
        have t3 : a.tmps[3]?.getD undef = .int .i64 z := Reg.slot_val (hx 3 (by kernel_rfl))
        go_simp
        exact hK _ _ rfl trivial HC.out (Below.refl _ _)
      · refine Reg6.Obl.early rfl (by kernel_rfl) ?_
        rintro a w1 hC hx hd K hK
        have HC := Lib.hid hC
        clear hC
        have t26 : a.tmps[26]?.getD undef = vv ax ay az := Reg.slot_val ((hd 1 26 (by kernel_rfl) rfl).1)
        have t28 : a.tmps[28]?.getD undef = vv bx by' bz := Reg.slot_val ((hd 3 28 (by kernel_rfl) rfl).1)
        have t30 : a.tmps[30]?.getD undef = vv cx cy cz := Reg.slot_val ((hd 5 30 (by kernel_rfl) rfl).1)
        have t31 : a.tmps[31]?.getD undef = .int .i64 z := Reg.slot_val ((hd 6 31 (by kernel_rfl) rfl).1)
        go_simp
        refine (JI.out _).mono ?_
        rintro en w2 ⟨⟨x, y, z, rfl, hF⟩, hB2⟩
        exact hK _ _ ⟨x, y, z, rfl, hF⟩ trivial (HC.out.call hB2) hB2
      · refine Reg6.Obl.early rfl (by kernel_rfl) ?_
        rintro a w1 hC hx hd K hK
        have HC := Lib.hid hC
        clear hC
        obtain ⟨p32, q32, r32, g32, f32⟩ := (hd 7 32 (by kernel_rfl) rfl).1
        have t32 := Reg.slot_val g32
        clear g32
        go_simp
        exact hK _ _ ⟨p32, q32, r32, rfl, f32⟩ trivial HC.out (Below.refl _ _)
      · refine Reg6.Obl.early rfl (by kernel_rfl) ?_
        rintro a w1 hC hx hd K hK
        have HC := Lib.hid hC
        clear hC
        obtain ⟨p24, q24, r24, g24, f24⟩ := (hd 8 24 (by kernel_rfl) rfl).1
        have t24 := Reg.slot_val g24
        clear g24
        go_simp
        exact hK _ _ ⟨p24, q24, r24, rfl, f24⟩ trivial HC.out (Below.refl _ _)
      · refine Reg6.Obl.late rfl (by kernel_rfl) ?_
        rintro a w1 hx hd K hK
        obtain ⟨p24, q24, r24, g24, f24⟩ := hd 8 24 (by kernel_rfl) rfl
        have t24 := Reg.slot_val g24
        clear g24
        go_simp
        exact hK _ rfl (fun w hD => by obtain ⟨b, x, y, t, e, h⟩ := hD; exact ⟨b, x, y, t, (evalPutNe (by decide)).trans e, h⟩)
      · refine Reg6.Obl.early rfl (by kernel_rfl) ?_
        rintro a w1 hC hx hd K hK
        have HC := Lib.hid hC
        clear hC
        go_simp
        exact hK _ _ trivial ⟨w1.heap.size, rfl, fun b' l' hm => (Nat.ne_of_lt (HC.out.2 b' l' hm).2.2.1).symm, HC.out.1.size, Z3.new⟩ (HC.out.call ((Below.refl _ _).alloc (Nat.le_refl _) _)) ((Below.refl _ _).alloc (Nat.le_refl _) _)
      · refine Reg6.Obl.store rfl ?_
        rintro a w1 hC hx hd K hK
        have HC := Lib.hid hC
        clear hC
        obtain ⟨b, gb, hbl, hlo, hZ⟩ := (hd 11 11 (by kernel_rfl) rfl).2
        have tb := Reg.slot_val gb
        obtain ⟨x, y, t, g1, hF⟩ := (hd 9 33 (by kernel_rfl) rfl).1
        have tt := Reg.slot_val g1
        clear g1
        have GB := Lib.hid gb
        have HZ := Lib.hid hZ
        have HF := Lib.hid hF
        have HBL := Lib.hid hbl
        obtain ⟨⟨y0, y1, y2⟩, yf⟩ := hZ
        have f0 := yf 0
        have f1 := yf 1
        have f2 := yf 2
        clear yf gb hF hbl
        go_simp
        exact hK _ ⟨b, x, y, t, GB.out, HBL.out, HF.out, (HC.out.z3 HZ.out hlo).put3 HBL.out _ _ _⟩
      · refine Reg6.Obl.late rfl (by kernel_rfl) ?_
        rintro a w1 hx hd K hK
        have t34 : a.tmps[34]?.getD undef = .bool O := Reg.slot_val (hd 10 34 (by kernel_rfl) rfl)
        go_simp
        exact hK _ rfl (fun w hD => by obtain ⟨b, x, y, t, e, h⟩ := hD; exact ⟨b, x, y, t, (evalPutNe (by decide)).trans e, h⟩)
    · rintro f2 W2 hD hv
      obtain ⟨gb, n1, n2, n3, e6, hne, hF, hB⟩ := hD
      have g11 : f2 11 = .pointer (some ⟨gb, 0, none⟩) := e6
      have g12 : f2 12 = .bool O := hv 13 12 rfl
      clear e6 hv hne
      simp only [Reg.mixL, Nat.zero_add, Nat.reduceAdd, g11, g12]
      have BZ := Lib.hid hB
      have FG := Lib.hid hF
      clear hB hF g11 g12
      have m0 := (BZ.out.mem (.head _)) 0 _ rfl
      have m1 := (BZ.out.mem (.head _)) 1 _ rfl
      have m2 := (BZ.out.mem (.head _)) 2 _ rfl
      have y0 := (BZ.out.mem (.tail _ (.tail _ (.tail _ (.tail _ (.head _)))))) 0 _ rfl
      have y1 := (BZ.out.mem (.tail _ (.tail _ (.tail _ (.tail _ (.head _)))))) 1 _ rfl
      have y2 := (BZ.out.mem (.tail _ (.tail _ (.tail _ (.tail _ (.head _)))))) 2 _ rfl
      go_wp2_with fail
      clear m0 m1 m2 y0 y1 y2
      refine (laws_eqVector _ _ _ _ _ _ _ _ _ _ FG.out.1 FG.out.2.1 FG.out.2.2 FS.out.1 FS.out.2.1 FS.out.2.2).mono ?_
      rintro en w3 ⟨rfl, hB3⟩
      have BW := Lib.hid (BZ.out.call hB3)
      clear hB3 BZ
      go_wp2
      go_ret
      exact ⟨rfl, BW.out.bel⟩
end Go.Proofs.Ytcgnmnbjgamedaa


/-
How far films are from meeting well: what the model returns. Conditions: none beyond that the words fit.
-/
import Derived.Test.YtcgnmnbjgamedaaMrA
namespace Go.Proofs.Ytcgnmnbjgamedaa
open Go Fk Go.RowKit
set_option linter.unusedVariables false
set_option maxRecDepth 16000

def plusC (c d : C3) : C3 := (fop .add .f32 c.1 d.1, fop .add .f32 c.2.1 d.2.1, fop .add .f32 c.2.2 d.2.2)
def okM3 (a b c : C3) : Bool := okU a && (okU b && okU c)
def meetC (a b c : C3) : Option Nat := bif okM3 a b c then lenC (plusC (plusC (unitC a) (unitC b)) (unitC c)) else some 0
set_option maxHeartbeats 8000000 in
theorem spec_MeetRest (ax ay az bx by' bz cx cy cz : Nat) (ca cb cc : C3) (w : World) (ha : F3 ax ay az ca) (hb : F3 bx by' bz cb) (hc : F3 cx cy cz cc) :
    Calls Try.prog 27 #[vv ax ay az, vv bx by' bz, vv cx cy cz] w fun e w' => (∃ r, e = .returned (.tuple #[.float .f32 r, .bool (okM3 ca cb cc)]) ∧ FV .f32 r (meetC ca cb cc)) ∧ Below w.heap.size w w' := by
  have u := Try.underlying22
  have uv := Try.underlying33
  have bx1 := (Bx.nil w).box (vs := [.float .f32 ax, .float .f32 ay, .float .f32 az]) (t := 33)
  have bx2 := bx1.box (vs := [.float .f32 bx, .float .f32 by', .float .f32 bz]) (t := 33)
  have bx3 := bx2.box (vs := [.float .f32 cx, .float .f32 cy, .float .f32 cz]) (t := 33)
  have BX := Lib.hid bx3
  simp at BX
  have JA := Lib.hid (fun w => l08Unit ax ay az ca w ha)
  have JB := Lib.hid (fun w => l08Unit bx by' bz cb w hb)
  have JC := Lib.hid (fun w => l08Unit cx cy cz cc w hc)
  clear bx1 bx2 bx3 ha hb hc
  unfold meetC okM3
  generalize okU ca = oa at *
  generalize okU cb = ob at *
  generalize okU cc = oc at *
  generalize unitC ca = ua at *
  generalize unitC cb = ub at *
  generalize unitC cc = uc at *
  go_enter Try.func27, Try.ntmps27
  go_wp2_with fail
  generalize ((w.alloc (.cells #[.float .f32 ax, .float .f32 ay, .float .f32 az] 33)).alloc (.cells #[.float .f32 bx, .float .f32 by', .float .f32 bz] 33)).alloc (.cells #[.float .f32 cx, .float .f32 cy, .float .f32 cz] 33) = W at *
  refine (JA.out W).mono ?_
  rintro e w1 ⟨⟨p1, q1, r1, rfl, f1⟩, hB1⟩
  have BX1 := Lib.hid ((BX.out.call hB1).box (vs := [.float .f32 p1, .float .f32 q1, .float .f32 r1]) (t := 33))
  have F1 := Lib.hid f1
  have LT1 := Lib.hid ((BX.out.call hB1).2 _ _ (.tail _ (.head _))).2.2.1
  have BXa := Lib.hid (BX.out.call hB1)
  clear hB1 f1 BX JA
  have b0 := (BXa.out.mem (.tail _ (.head _))) 0 _ rfl
  have b1 := (BXa.out.mem (.tail _ (.head _))) 1 _ rfl
  have b2 := (BXa.out.mem (.tail _ (.head _))) 2 _ rfl
  have hlt := LT1.out
  go_wp2_with fail
  clear b0 b1 b2 hlt BXa LT1
  change Calls _ _ _ (w1.alloc (.cells [.float .f32 p1, .float .f32 q1, .float .f32 r1].toArray 33)) _
  generalize hW1 : w1.alloc (.cells [.float .f32 p1, .float .f32 q1, .float .f32 r1].toArray 33) = W1 at *
  generalize w1.heap.size = n1 at *
  clear hW1
  refine (JB.out W1).mono ?_
  rintro e w2 ⟨⟨p2, q2, r2, rfl, f2⟩, hB2⟩
  have BXb := Lib.hid (BX1.out.call hB2)
  have BX2 := Lib.hid ((BX1.out.call hB2).box (vs := [.float .f32 p2, .float .f32 q2, .float .f32 r2]) (t := 33))
  have F2 := Lib.hid f2
  have LT2 := Lib.hid ((BX1.out.call hB2).2 _ _ (.tail _ (.head _))).2.2.1
  clear hB2 f2 BX1 JB
  have b0 := (BXb.out.mem (.tail _ (.head _))) 0 _ rfl
  have b1 := (BXb.out.mem (.tail _ (.head _))) 1 _ rfl
  have b2 := (BXb.out.mem (.tail _ (.head _))) 2 _ rfl
  have hlt := LT2.out
  go_wp2_with fail
  clear b0 b1 b2 hlt BXb LT2
  change Calls _ _ _ (w2.alloc (.cells [.float .f32 p2, .float .f32 q2, .float .f32 r2].toArray 33)) _
  generalize hW2 : w2.alloc (.cells [.float .f32 p2, .float .f32 q2, .float .f32 r2].toArray 33) = W2 at *
  generalize w2.heap.size = n2 at *
  clear hW2
  refine (JC.out W2).mono ?_
  rintro e w3 ⟨⟨p3, q3, r3, rfl, f3⟩, hB3⟩
  have BX3 := Lib.hid ((BX2.out.call hB3).box (vs := [.float .f32 p3, .float .f32 q3, .float .f32 r3]) (t := 33))
  have F3' := Lib.hid f3
  clear hB3 f3 BX2 JC
  cases oa
  · go_wp2
    go_ret2
    exact ⟨⟨0, rfl, fv_z⟩, BX3.out.bel⟩
  · cases ob
    · go_wp2
      go_ret2
      exact ⟨⟨0, rfl, fv_z⟩, BX3.out.bel⟩
    · cases oc
      · go_wp2
        go_ret2
        exact ⟨⟨0, rfl, fv_z⟩, BX3.out.bel⟩
      · go_wp2_with fail
        generalize w3.heap.size = n3 at *
        generalize w3.alloc (.cells #[.float .f32 p3, .float .f32 q3, .float .f32 r3] 33) = W3 at *
        refine Reg.wp_region_mix (C := Bx w [(n3, [.float .f32 p3, .float .f32 q3, .float .f32 r3]), (n2, [.float .f32 p2, .float .f32 q2, .float .f32 r2]), (n1, [.float .f32 p1, .float .f32 q1, .float .f32 r1]), (w.heap.size + 1 + 1, [.float .f32 cx, .float .f32 cy, .float .f32 cz]), (w.heap.size + 1, [.float .f32 bx, .float .f32 by', .float .f32 bz]), (w.heap.size, [.float .f32 ax, .float .f32 ay, .float .f32 az])]) (G := fun _ _ => True) (R := fun i v w' => match i with | 0 => v = .agg #[.float .f32 p1, .float .f32 q1, .float .f32 r1] | 1 => v = .agg #[.float .f32 p2, .float .f32 q2, .float .f32 r2] | 2 => ∃ p q r, v = vv p q r ∧ F3 p q r (plusC ua ub) | 3 => v = .agg #[.float .f32 p3, .float .f32 q3, .float .f32 r3] | 4 => ∃ p q r, v = vv p q r ∧ F3 p q r (plusC (plusC ua ub) uc) | 5 => ∃ r, v = .float .f32 r ∧ FV .f32 r (lenC (plusC (plusC ua ub) uc)) | 6 => ∃ r, v = .float .f32 r ∧ FV .f32 r (lenC (plusC (plusC ua ub) uc)) | 7 => v = .bool true | _ => True) (T := fun _ _ _ => True) [false, false, false, false, false, false, true, true, false, false, false, false, false, false, false, false, false, false, false, false, false, false, false, false, false, false, false, false, false, false, false, false, false, false, false, false, false, false, false, true, true, true, true, true, true]
          (by kernel_rfl) (by kernel_rfl) (by kernel_rfl) (fun _ _ _ _ _ _ h => h) (BX3.out.drewN 1) ?_ ?_
        · refine ⟨Reg.Obl.mk ?_, Reg.Obl.mk ?_, Reg.Obl.mk ?_, Reg.Obl.mk ?_, Reg.Obl.mk ?_, Reg.Obl.mk ?_, Reg.Obl.mk ?_, Reg.Obl.mk ?_, trivial⟩
          · rintro a w1 hC hx hd K hK
            have HC := Lib.hid hC
            clear hC
            have y20 := (HC.out.mem (.tail _ (.tail _ (.head _)))) 0 _ rfl
            have y21 := (HC.out.mem (.tail _ (.tail _ (.head _)))) 1 _ rfl
            have y22 := (HC.out.mem (.tail _ (.tail _ (.head _)))) 2 _ rfl
            have t8 : a.tmps[8]?.getD undef = .pointer (some ⟨n1, 0, none⟩) := Reg.slot_val (hx 8 (by kernel_rfl))
            go_simp
            exact hK _ _ (fun _ => rfl) (fun h => by cases h) HC.out trivial
          · rintro a w1 hC hx hd K hK
            have HC := Lib.hid hC
            clear hC
            have y10 := (HC.out.mem (.tail _ (.head _))) 0 _ rfl
            have y11 := (HC.out.mem (.tail _ (.head _))) 1 _ rfl
            have y12 := (HC.out.mem (.tail _ (.head _))) 2 _ rfl
            have t10 : a.tmps[10]?.getD undef = .pointer (some ⟨n2, 0, none⟩) := Reg.slot_val (hx 10 (by kernel_rfl))
            go_simp
            exact hK _ _ (fun _ => rfl) (fun h => by cases h) HC.out trivial
          · rintro a w1 hC hx hd K hK
            have HC := Lib.hid hC
            clear hC
            have t39 : a.tmps[39]?.getD undef = .agg #[.float .f32 p1, .float .f32 q1, .float .f32 r1] := Reg.slot_val (hd 0 (by kernel_rfl) 39 rfl)
            have t40 : a.tmps[40]?.getD undef = .agg #[.float .f32 p2, .float .f32 q2, .float .f32 r2] := Reg.slot_val (hd 1 (by kernel_rfl) 40 rfl)
            go_simp
            refine (l01Add _ _ _ _ _ _ _ _ _ _ _ _ _ F1.out.1 F1.out.2.1 F1.out.2.2 F2.out.1 F2.out.2.1 F2.out.2.2).mono ?_
            rintro en w2 ⟨p', q', r', rfl, fp', fq', fr', hB2⟩
            exact hK _ _ (fun _ => ⟨p', q', r', rfl, fp', fq', fr'⟩) (fun h => by cases h) (HC.out.call hB2) trivial
          · rintro a w1 hC hx hd K hK
            have HC := Lib.hid hC
            clear hC
            have y00 := (HC.out.mem (.head _)) 0 _ rfl
            have y01 := (HC.out.mem (.head _)) 1 _ rfl
            have y02 := (HC.out.mem (.head _)) 2 _ rfl
            have t12 : a.tmps[12]?.getD undef = .pointer (some ⟨n3, 0, none⟩) := Reg.slot_val (hx 12 (by kernel_rfl))
            go_simp
            exact hK _ _ (fun _ => rfl) (fun h => by cases h) HC.out trivial
          · rintro a w1 hC hx hd K hK
            have HC := Lib.hid hC
            clear hC
            obtain ⟨p41, q41, r41, g41, f41⟩ := hd 2 (by kernel_rfl) 41 rfl
            have t41 := Reg.slot_val g41
            clear g41
            have t42 : a.tmps[42]?.getD undef = .agg #[.float .f32 p3, .float .f32 q3, .float .f32 r3] := Reg.slot_val (hd 3 (by kernel_rfl) 42 rfl)
            go_simp
            refine (l01Add _ _ _ _ _ _ _ _ _ _ _ _ _ f41.1 f41.2.1 f41.2.2 F3'.out.1 F3'.out.2.1 F3'.out.2.2).mono ?_
            rintro en w2 ⟨p', q', r', rfl, fp', fq', fr', hB2⟩
            exact hK _ _ (fun _ => ⟨p', q', r', rfl, fp', fq', fr'⟩) (fun h => by cases h) (HC.out.call hB2) trivial
          · rintro a w1 hC hx hd K hK
            have HC := Lib.hid hC
            clear hC
            obtain ⟨p43, q43, r43, g43, f43⟩ := hd 4 (by kernel_rfl) 43 rfl
            have t43 := Reg.slot_val g43
            clear g43
            go_simp
            refine (l01Long _ _ _ _ _ _ _ f43.1 f43.2.1 f43.2.2).mono ?_
            rintro en w2 ⟨r, rfl, hr, hB2⟩
            exact hK _ _ (fun _ => ⟨r, rfl, hr⟩) (fun h => by cases h) (HC.out.call hB2) trivial
          · rintro a w1 hC hx hd K hK
            have HC := Lib.hid hC
            clear hC
            obtain ⟨r44, g44, f44⟩ := hd 5 (by kernel_rfl) 44 rfl
            have t44 := Reg.slot_val g44
            clear g44
            go_simp
            exact hK _ _ (fun _ => ⟨_, rfl, f44⟩) (fun h => by cases h) HC.out trivial
          · rintro a w1 hC hx hd K hK
            have HC := Lib.hid hC
            clear hC
            go_simp
            exact hK _ _ (fun _ => rfl) (fun h => by cases h) HC.out trivial
        · rintro f wz hBz hR hT
          obtain ⟨r, g6, f6⟩ := hR 6 6 rfl
          have g7 : f 7 = .bool true := hR 7 7 rfl
          simp only [Reg.mixL, Nat.zero_add, Nat.reduceAdd, g6, g7]
          have HBz := Lib.hid hBz
          have H6 := Lib.hid f6
          clear hR hT hBz f6 g7
          go_wp2
          go_ret2
          exact ⟨⟨r, rfl, H6.out⟩, HBz.out.bel⟩
end Go.Proofs.Ytcgnmnbjgamedaa

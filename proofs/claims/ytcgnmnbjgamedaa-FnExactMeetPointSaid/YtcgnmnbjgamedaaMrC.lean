
/-
How far films are from meeting well: what the program returns. Conditions: none beyond that the words fit.
-/
import Derived.Test.YtcgnmnbjgamedaaMrB
import Derived.Test.YtcgnmnbjgamedaaReg3
namespace Go.Proofs.Ytcgnmnbjgamedaa
open Go Fk Go.RowKit
set_option linter.unusedVariables false
set_option maxRecDepth 16000

theorem Bx.swap {w w1 : World} {L : List (Nat × List Value)} {x y : Nat × List Value} (h : Bx w (x :: y :: L) w1) : Bx w (y :: x :: L) w1 :=
  ⟨h.1, fun b l hm => h.2 b l (by
    rcases List.mem_cons.1 hm with e | hm
    · exact .tail _ (e ▸ .head _)
    · rcases List.mem_cons.1 hm with e | hm
      · exact e ▸ .head _
      · exact .tail _ (.tail _ hm))⟩
theorem Bx.setc {w w1 : World} {L : List (Nat × List Value)} {b : Nat} {l : List Value} (h : Bx w ((b, l) :: L) w1) (hd : ∀ b' l', (b', l') ∈ L → b ≠ b') (i : Nat) (u : Value) : Bx w ((b, l.set i u) :: L) (w1.setCell ⟨b, i, none⟩ u) := by
  refine ⟨h.1.setCell (h.low (.head _)) _, fun c m hm => ?_⟩
  rcases List.mem_cons.1 hm with e | hm
  · cases e
    refine ⟨(h.mem (.head _)).set i u, fun j => ?_, by simpa using (h.2 b l (.head _)).2.2.1, h.low (.head _)⟩
    simp
    exact h.free (.head _) j
  · have hne := hd _ _ hm
    refine ⟨(h.mem (.tail _ hm)).far hne, fun j => ?_, by simpa using (h.2 c m (.tail _ hm)).2.2.1, h.low (.tail _ hm)⟩
    simp
    exact h.free (.tail _ hm) j
set_option maxHeartbeats 4000000 in
theorem impl_sum (x1 y1 z1 x2 y2 z2 x3 y3 z3 : Nat) (c1 c2 c3 : C3) (w : World) (h1 : F3 x1 y1 z1 c1) (h2 : F3 x2 y2 z2 c2) (h3 : F3 x3 y3 z3 c3) :
    Calls Try.prog 61 #[e9 x1 y1 z1 x2 y2 z2 x3 y3 z3] w fun e w' => ∃ p q r, e = .returned (vv p q r) ∧ F3 p q r (plusC (plusC c1 c2) c3) ∧ Below w.heap.size w w' := by
  have u := Try.underlying22
  have uv := Try.underlying33
  have ue := Try.underlying63
  have H1 := Lib.hid h1
  have H2 := Lib.hid h2
  have H3 := Lib.hid h3
  have bx1 := (Bx.nil w).box (vs := [.float .f32 x1, .float .f32 y1, .float .f32 z1, .float .f32 x2, .float .f32 y2, .float .f32 z2, .float .f32 x3, .float .f32 y3, .float .f32 z3]) (t := 63)
  have bx2 := bx1.box (vs := [.float .f32 0, .float .f32 0, .float .f32 0]) (t := 33)
  have BX := Lib.hid bx2
  simp at BX
  clear bx1 bx2 h1 h2 h3
  go_enter Try.func61, Try.ntmps61
  go_wp2_with fail
  generalize (w.alloc (.cells #[.float .f32 x1, .float .f32 y1, .float .f32 z1, .float .f32 x2, .float .f32 y2, .float .f32 z2, .float .f32 x3, .float .f32 y3, .float .f32 z3] 63)).alloc (.cells #[.float .f32 0, .float .f32 0, .float .f32 0] 33) = W at *
  refine Reg3.wp_region_mix (C := Bx w [(w.heap.size + 1, [.float .f32 0, .float .f32 0, .float .f32 0]), (w.heap.size, [.float .f32 x1, .float .f32 y1, .float .f32 z1, .float .f32 x2, .float .f32 y2, .float .f32 z2, .float .f32 x3, .float .f32 y3, .float .f32 z3])]) (G := fun _ _ => True) (R := fun i v w' => match i with | 0 => v = .pointer (some ⟨w.heap.size, 0, none⟩) | 1 => v = .agg #[.float .f32 x1, .float .f32 y1, .float .f32 z1] | 2 => v = .pointer (some ⟨w.heap.size, 3, none⟩) | 3 => v = .agg #[.float .f32 x2, .float .f32 y2, .float .f32 z2] | 4 => ∃ p q r, v = vv p q r ∧ F3 p q r (plusC c1 c2) | 5 => v = .pointer (some ⟨w.heap.size, 6, none⟩) | 6 => v = .agg #[.float .f32 x3, .float .f32 y3, .float .f32 z3] | 7 => ∃ p q r, v = vv p q r ∧ F3 p q r (plusC (plusC c1 c2) c3) | _ => True) (T := fun _ _ w' => ∃ p q r, F3 p q r (plusC (plusC c1 c2) c3) ∧ Bx w [(w.heap.size + 1, [.float .f32 p, .float .f32 q, .float .f32 r]), (w.heap.size, [.float .f32 x1, .float .f32 y1, .float .f32 z1, .float .f32 x2, .float .f32 y2, .float .f32 z2, .float .f32 x3, .float .f32 y3, .float .f32 z3])] w') [false, false, false, true, true, true, true, true, true, true, true]
    (by kernel_rfl) (by kernel_rfl) (by kernel_rfl) (fun _ _ _ _ _ _ h => h) (BX.out.drewN 1) ?_ ?_
  · refine ⟨Reg3.Obl.mk ?_, Reg3.Obl.mk ?_, Reg3.Obl.mk ?_, Reg3.Obl.mk ?_, Reg3.Obl.mk ?_, Reg3.Obl.mk ?_, Reg3.Obl.mk ?_, Reg3.Obl.mk ?_, Reg3.Obl.mk ?_, trivial⟩
    · rintro a w1 hC hx hd K hK
      have HC := Lib.hid hC
      clear hC
      have t1 : a.tmps[1]?.getD undef = .pointer (some ⟨w.heap.size, 0, none⟩) := Reg.slot_val (hx 1 (by kernel_rfl))
      go_simp
      exact hK _ _ (fun _ => rfl) (fun h => by cases h) (fun _ => HC.out) trivial
    · rintro a w1 hC hx hd K hK
      have HC := Lib.hid hC
      clear hC
      have y10 := (HC.out.mem (.tail _ (.head _))) 0 _ rfl
      have y11 := (HC.out.mem (.tail _ (.head _))) 1 _ rfl
      have y12 := (HC.out.mem (.tail _ (.head _))) 2 _ rfl
      have t3 : a.tmps[3]?.getD undef = .pointer (some ⟨w.heap.size, 0, none⟩) := Reg.slot_val (hd 0 (by kernel_rfl) 3 rfl)
      go_simp
      exact hK _ _ (fun _ => rfl) (fun h => by cases h) (fun _ => HC.out) trivial
    · rintro a w1 hC hx hd K hK
      have HC := Lib.hid hC
      clear hC
      have t1 : a.tmps[1]?.getD undef = .pointer (some ⟨w.heap.size, 0, none⟩) := Reg.slot_val (hx 1 (by kernel_rfl))
      go_simp
      exact hK _ _ (fun _ => rfl) (fun h => by cases h) (fun _ => HC.out) trivial
    · rintro a w1 hC hx hd K hK
      have HC := Lib.hid hC
      clear hC
      have y10 := (HC.out.mem (.tail _ (.head _))) 3 _ rfl
      have y11 := (HC.out.mem (.tail _ (.head _))) 4 _ rfl
      have y12 := (HC.out.mem (.tail _ (.head _))) 5 _ rfl
      have t5 : a.tmps[5]?.getD undef = .pointer (some ⟨w.heap.size, 3, none⟩) := Reg.slot_val (hd 2 (by kernel_rfl) 5 rfl)
      go_simp
      exact hK _ _ (fun _ => rfl) (fun h => by cases h) (fun _ => HC.out) trivial
    · rintro a w1 hC hx hd K hK
      have HC := Lib.hid hC
      clear hC
      have t4 : a.tmps[4]?.getD undef = .agg #[.float .f32 x1, .float .f32 y1, .float .f32 z1] := Reg.slot_val (hd 1 (by kernel_rfl) 4 rfl)
      have t6 : a.tmps[6]?.getD undef = .agg #[.float .f32 x2, .float .f32 y2, .float .f32 z2] := Reg.slot_val (hd 3 (by kernel_rfl) 6 rfl)
      go_simp
      refine (impl_AddVectors _ _ _ _ _ _ _ _ _ _ _ _ _ H1.out.1 H1.out.2.1 H1.out.2.2 H2.out.1 H2.out.2.1 H2.out.2.2).mono ?_
      rintro en w2 ⟨p', q', r', rfl, fp', fq', fr', hB2⟩
      exact hK _ _ (fun _ => ⟨p', q', r', rfl, fp', fq', fr'⟩) (fun h => by cases h) (fun _ => HC.out.call hB2) trivial
    · rintro a w1 hC hx hd K hK
      have HC := Lib.hid hC
      clear hC
      have t1 : a.tmps[1]?.getD undef = .pointer (some ⟨w.heap.size, 0, none⟩) := Reg.slot_val (hx 1 (by kernel_rfl))
      go_simp
      exact hK _ _ (fun _ => rfl) (fun h => by cases h) (fun _ => HC.out) trivial
    · rintro a w1 hC hx hd K hK
      have HC := Lib.hid hC
      clear hC
      have y10 := (HC.out.mem (.tail _ (.head _))) 6 _ rfl
      have y11 := (HC.out.mem (.tail _ (.head _))) 7 _ rfl
      have y12 := (HC.out.mem (.tail _ (.head _))) 8 _ rfl
      have t8 : a.tmps[8]?.getD undef = .pointer (some ⟨w.heap.size, 6, none⟩) := Reg.slot_val (hd 5 (by kernel_rfl) 8 rfl)
      go_simp
      exact hK _ _ (fun _ => rfl) (fun h => by cases h) (fun _ => HC.out) trivial
    · rintro a w1 hC hx hd K hK
      have HC := Lib.hid hC
      clear hC
      obtain ⟨p7, q7, r7, g7, f7⟩ := hd 4 (by kernel_rfl) 7 rfl
      have t7 := Reg.slot_val g7
      clear g7
      have t9 : a.tmps[9]?.getD undef = .agg #[.float .f32 x3, .float .f32 y3, .float .f32 z3] := Reg.slot_val (hd 6 (by kernel_rfl) 9 rfl)
      go_simp
      refine (impl_AddVectors _ _ _ _ _ _ _ _ _ _ _ _ _ f7.1 f7.2.1 f7.2.2 H3.out.1 H3.out.2.1 H3.out.2.2).mono ?_
      rintro en w2 ⟨p', q', r', rfl, fp', fq', fr', hB2⟩
      exact hK _ _ (fun _ => ⟨p', q', r', rfl, fp', fq', fr'⟩) (fun h => by cases h) (fun _ => HC.out.call hB2) trivial
    · rintro a w1 hC hx hd K hK
      have HC := Lib.hid hC
      clear hC
      have q0 := (HC.out.mem (.head _)) 0 _ rfl
      have q1 := (HC.out.mem (.head _)) 1 _ rfl
      have q2 := (HC.out.mem (.head _)) 2 _ rfl
      have k0 := HC.out.free (.head _) 0
      have k1 := HC.out.free (.head _) 1
      have k2 := HC.out.free (.head _) 2
      have t2 : a.tmps[2]?.getD undef = .pointer (some ⟨w.heap.size + 1, 0, none⟩) := Reg.slot_val (hx 2 (by kernel_rfl))
      obtain ⟨p10, q10, r10, g10, f10⟩ := hd 7 (by kernel_rfl) 10 rfl
      have t10 := Reg.slot_val g10
      clear g10
      go_simp
      exact hK undef _ (fun h => absurd rfl h) (fun _ => ⟨_, _, _, f10, HC.out.put3 (fun b' l' hm => by simp only [List.mem_cons, Prod.mk.injEq, List.not_mem_nil, or_false] at hm; omega) _ _ _⟩) (fun h => absurd rfl h) trivial
  · rintro f wz hR hT
    obtain ⟨p, q, r, hF, hB⟩ := hT 8 rfl (by decide)
    simp only [Reg.mixL, Nat.zero_add, Nat.reduceAdd]
    have HF := Lib.hid hF
    have BZ := Lib.hid hB
    clear hR hT hF hB
    have m0 := (BZ.out.mem (.head _)) 0 _ rfl
    have m1 := (BZ.out.mem (.head _)) 1 _ rfl
    have m2 := (BZ.out.mem (.head _)) 2 _ rfl
    go_wp2
    refine bodyPost_ret (v := vv p q r) (by simp [results, Try.results61, go_sem, m0, m1, m2]) rfl ?_
    exact ⟨p, q, r, rfl, HF.out, BZ.out.bel⟩
/-- The units that were made so far. -/
def Mu (ca cb cc : C3) (ub : Nat) (w : World) (k : Nat) (w' : World) : Prop := ∃ x1 y1 z1 x2 y2 z2 x3 y3 z3, Bx w [(ub, [.float .f32 x1, .float .f32 y1, .float .f32 z1, .float .f32 x2, .float .f32 y2, .float .f32 z2, .float .f32 x3, .float .f32 y3, .float .f32 z3])] w' ∧ (1 ≤ k → okU ca = true ∧ F3 x1 y1 z1 (unitC ca)) ∧ (2 ≤ k → okU cb = true ∧ F3 x2 y2 z2 (unitC cb)) ∧ (3 ≤ k → okU cc = true ∧ F3 x3 y3 z3 (unitC cc))
set_option maxHeartbeats 16000000 in
theorem impl_MeetRest (ax ay az bx by' bz cx cy cz : Nat) (ca cb cc : C3) (w : World) (ha : F3 ax ay az ca) (hb : F3 bx by' bz cb) (hc : F3 cx cy cz cc) :
    Calls Try.prog 28 #[vv ax ay az, vv bx by' bz, vv cx cy cz] w fun e w' => (∃ r, e = .returned (.tuple #[.float .f32 r, .bool (okM3 ca cb cc)]) ∧ FV .f32 r (meetC ca cb cc)) ∧ Below w.heap.size w w' := by
  have u := Try.underlying22
  have uv := Try.underlying33
  have ue := Try.underlying63
  have HA := Lib.hid ha
  have HB := Lib.hid hb
  have HC' := Lib.hid hc
  have bx1 := (Bx.nil w).box (vs := [.float .f32 ax, .float .f32 ay, .float .f32 az]) (t := 33)
  have bx2 := bx1.box (vs := [.float .f32 bx, .float .f32 by', .float .f32 bz]) (t := 33)
  have bx3 := bx2.box (vs := [.float .f32 cx, .float .f32 cy, .float .f32 cz]) (t := 33)
  have bx4 := bx3.box (vs := [.float .f32 ax, .float .f32 ay, .float .f32 az, .float .f32 bx, .float .f32 by', .float .f32 bz, .float .f32 cx, .float .f32 cy, .float .f32 cz]) (t := 63)
  have BX := Lib.hid bx4
  simp at BX
  have hok : okM3 ca cb cc = (okU ca && (okU cb && okU cc)) := rfl
  have hme : meetC ca cb cc = (bif (okU ca && (okU cb && okU cc)) then lenC (plusC (plusC (unitC ca) (unitC cb)) (unitC cc)) else some 0) := rfl
  rw [hok, hme]
  clear bx1 bx2 bx3 bx4 ha hb hc hok hme
  go_enter Try.func28, Try.ntmps28
  go_wp2
  generalize (((w.alloc (.cells #[.float .f32 ax, .float .f32 ay, .float .f32 az] 33)).alloc (.cells #[.float .f32 bx, .float .f32 by', .float .f32 bz] 33)).alloc (.cells #[.float .f32 cx, .float .f32 cy, .float .f32 cz] 33)).alloc (.cells #[.float .f32 ax, .float .f32 ay, .float .f32 az, .float .f32 bx, .float .f32 by', .float .f32 bz, .float .f32 cx, .float .f32 cy, .float .f32 cz] 63) = W at *
  have M0 : Hid (Mu ca cb cc (w.heap.size + 1 + 1 + 1) w 0 W) := Lib.hid ⟨_, _, _, _, _, _, _, _, _, ⟨BX.out.1, fun b l hm => BX.out.2 b l (by rcases List.mem_cons.1 hm with e | hm; exact e ▸ .head _; cases hm)⟩, fun h => absurd h (by decide), fun h => absurd h (by decide), fun h => absurd h (by decide)⟩
  clear BX
  generalize hub : w.heap.size + 1 + 1 + 1 = ub at *
  have HUB := Lib.hid hub
  clear hub
  go_loopw [16] (fun i w' => ∃ k : Nat, k ≤ 3 ∧ i = .int .i64 k ∧ Aside (Mu ca cb cc ub w k w')) (fun i _ => 3 - (intOf i).toNat)
  case atStart => exact ⟨0, Nat.zero_le _, rfl, M0.out⟩
  case round =>
    obtain ⟨k, hk, rfl, hA⟩ := hrel
    have MU := Lib.hid hA.out
    clear hA M0
    rcases (show k = 0 ∨ k = 1 ∨ k = 2 ∨ k = 3 by omega) with rfl | rfl | rfl | rfl
    · obtain ⟨x1, y1, z1, x2, y2, z2, x3, y3, z3, hBu, h1, h2, h3⟩ := MU.out
      have BU := Lib.hid hBu
      have K1 := Lib.hid (And.intro h1 (And.intro h2 h3))
      have BV := Lib.hid (hBu.box (vs := [.float .f32 ax, .float .f32 ay, .float .f32 az]) (t := 33))
      clear hBu h1 h2 h3 MU
      have hix := ends_0 ax ay az bx by' bz cx cy cz
      have e0 := eq_at ax _ HA.out.1
      have e1 := eq_at ay _ HA.out.2.1
      have e2 := eq_at az _ HA.out.2.2
      have JF := Lib.hid (fun w => impl_isFiniteVector ax ay az ca w HA.out.1 HA.out.2.1 HA.out.2.2)
      have OK : Hid (okU ca = (finV ca && !(isZ ca.1 && (isZ ca.2.1 && isZ ca.2.2)))) := Lib.hid rfl
      generalize hf : finV ca = ff at *
      generalize hz0 : isZ ca.1 = i0 at *
      generalize hz1 : isZ ca.2.1 = i1 at *
      generalize hz2 : isZ ca.2.2 = i2 at *
      clear hf hz0 hz1 hz2
      go_wp2_with fail
      clear hix
      change Calls _ _ _ (wr.alloc (.cells [.float .f32 ax, .float .f32 ay, .float .f32 az].toArray 33)) _
      generalize wr.alloc (.cells [.float .f32 ax, .float .f32 ay, .float .f32 az].toArray 33) = WV at *
      generalize hvb : wr.heap.size = vb at *
      have HVB : Hid (ub < vb) := Lib.hid (hvb ▸ (BU.out.2 _ _ (.head _)).2.2.1)
      clear hvb BU
      refine (JF.out WV).mono ?_
      rintro e w1 ⟨rfl, hB1⟩
      have BV1 := Lib.hid (BV.out.call hB1)
      clear hB1 BV JF
      have y0 := (BV1.out.mem (.head _)) 0 _ rfl
      have y1 := (BV1.out.mem (.head _)) 1 _ rfl
      have y2 := (BV1.out.mem (.head _)) 2 _ rfl
      cases ff
      · go_wp2
        go_ret2
        clear y0 y1 y2
        have hF : okU ca = false := by rw [OK.out]; rfl
        refine ⟨⟨0, ?_, ?_⟩, BV1.out.bel⟩
        · rw [hF]; simp
        · rw [hF]; simp [fv_z]
      · cases i0
        · go_wp2_with fail
          clear y0 y1 y2
          refine Reg3.wp_region_mix (C := Bx w [(vb, [.float .f32 ax, .float .f32 ay, .float .f32 az]), (ub, [.float .f32 x1, .float .f32 y1, .float .f32 z1, .float .f32 x2, .float .f32 y2, .float .f32 z2, .float .f32 x3, .float .f32 y3, .float .f32 z3])]) (G := fun _ _ => True) (R := fun i v w' => match i with | 0 => v = .int .i64 (0 : Int) | 1 => v = .agg #[.float .f32 ax, .float .f32 ay, .float .f32 az] | 2 => v = .agg #[.float .f32 ax, .float .f32 ay, .float .f32 az] | 3 => ∃ r, v = .float .f32 r ∧ FV .f32 r (lenC ca) | 4 => ∃ r, v = .float .f32 r ∧ FV .f32 r (fop .quo .f32 one32 (lenC ca)) | 5 => ∃ p q r, v = vv p q r ∧ F3 p q r (scalC ca (fop .quo .f32 one32 (lenC ca))) | 6 => v = .pointer (some ⟨ub, 0, none⟩) | _ => True) (T := fun _ _ w' => ∃ p q r, F3 p q r (scalC ca (fop .quo .f32 one32 (lenC ca))) ∧ Bx w [(ub, [.float .f32 p, .float .f32 q, .float .f32 r, .float .f32 x2, .float .f32 y2, .float .f32 z2, .float .f32 x3, .float .f32 y3, .float .f32 z3]), (vb, [.float .f32 ax, .float .f32 ay, .float .f32 az])] w') [false, false, false, false, false, false, false, false, false, false, false, false, false, false, false, false, false, false, false, false, false, false, false, false, false, false, false, false, true, true, true, true, true, true, true, false, false, false, false]
            (by kernel_rfl) (by kernel_rfl) (by kernel_rfl) (fun _ _ _ _ _ _ h => h) (BV1.out.drewN 1) ?_ ?_
          · refine ⟨Reg3.Obl.mk ?_, Reg3.Obl.mk ?_, Reg3.Obl.mk ?_, Reg3.Obl.mk ?_, Reg3.Obl.mk ?_, Reg3.Obl.mk ?_, Reg3.Obl.mk ?_, Reg3.Obl.mk ?_, trivial⟩
            · rintro a w1 hC hx hd K hK
              have HC := Lib.hid hC
              clear hC
              have t9 : a.tmps[9]?.getD undef = .int .i64 (0 : Int) := Reg.slot_val (hx 9 (by kernel_rfl))
              go_simp
              exact hK _ _ (fun _ => rfl) (fun h => by cases h) (fun _ => HC.out) trivial
            · rintro a w1 hC hx hd K hK
              have HC := Lib.hid hC
              clear hC
              have y00 := (HC.out.mem (.head _)) 0 _ rfl
              have y01 := (HC.out.mem (.head _)) 1 _ rfl
              have y02 := (HC.out.mem (.head _)) 2 _ rfl
              have t10 : a.tmps[10]?.getD undef = .pointer (some ⟨vb, 0, none⟩) := Reg.slot_val (hx 10 (by kernel_rfl))
              go_simp
              exact hK _ _ (fun _ => rfl) (fun h => by cases h) (fun _ => HC.out) trivial
            · rintro a w1 hC hx hd K hK
              have HC := Lib.hid hC
              clear hC
              have y00 := (HC.out.mem (.head _)) 0 _ rfl
              have y01 := (HC.out.mem (.head _)) 1 _ rfl
              have y02 := (HC.out.mem (.head _)) 2 _ rfl
              have t10 : a.tmps[10]?.getD undef = .pointer (some ⟨vb, 0, none⟩) := Reg.slot_val (hx 10 (by kernel_rfl))
              go_simp
              exact hK _ _ (fun _ => rfl) (fun h => by cases h) (fun _ => HC.out) trivial
            · rintro a w1 hC hx hd K hK
              have HC := Lib.hid hC
              clear hC
              have t30 : a.tmps[30]?.getD undef = .agg #[.float .f32 ax, .float .f32 ay, .float .f32 az] := Reg.slot_val (hd 2 (by kernel_rfl) 30 rfl)
              go_simp
              refine (impl_LongOf _ _ _ _ _ _ _ HA.out.1 HA.out.2.1 HA.out.2.2).mono ?_
              rintro en w2 ⟨r, rfl, hr, hB2⟩
              exact hK _ _ (fun _ => ⟨r, rfl, hr⟩) (fun h => by cases h) (fun _ => HC.out.call hB2) trivial
            · rintro a w1 hC hx hd K hK
              have HC := Lib.hid hC
              clear hC
              obtain ⟨r31, g31, f31⟩ := hd 3 (by kernel_rfl) 31 rfl
              have t31 := Reg.slot_val g31
              clear g31
              go_simp
              exact hK _ _ (fun _ => ⟨_, rfl, FV_fR fv_one32 f31⟩) (fun h => by cases h) (fun _ => HC.out.drewN _) trivial
            · rintro a w1 hC hx hd K hK
              have HC := Lib.hid hC
              clear hC
              have t29 : a.tmps[29]?.getD undef = .agg #[.float .f32 ax, .float .f32 ay, .float .f32 az] := Reg.slot_val (hd 1 (by kernel_rfl) 29 rfl)
              obtain ⟨r32, g32, f32⟩ := hd 4 (by kernel_rfl) 32 rfl
              have t32 := Reg.slot_val g32
              clear g32
              go_simp
              refine (impl_ScaleVector _ _ _ _ _ _ _ _ _ HA.out.1 HA.out.2.1 HA.out.2.2 f32).mono ?_
              rintro en w2 ⟨p', q', r', rfl, fp', fq', fr', hB2⟩
              exact hK _ _ (fun _ => ⟨p', q', r', rfl, fp', fq', fr'⟩) (fun h => by cases h) (fun _ => HC.out.call hB2) trivial
            · rintro a w1 hC hx hd K hK
              have HC := Lib.hid hC
              clear hC
              have t8 : a.tmps[8]?.getD undef = .pointer (some ⟨ub, 0, none⟩) := Reg.slot_val (hx 8 (by kernel_rfl))
              have t28 : a.tmps[28]?.getD undef = .int .i64 (0 : Int) := Reg.slot_val (hd 0 (by kernel_rfl) 28 rfl)
              go_simp
              exact hK _ _ (fun _ => rfl) (fun h => by cases h) (fun _ => HC.out) trivial
            · rintro a w1 hC hx hd K hK
              have HC := Lib.hid hC
              clear hC
              have q0 := (HC.out.mem (.tail _ (.head _))) 0 _ rfl
              have q1 := (HC.out.mem (.tail _ (.head _))) 1 _ rfl
              have q2 := (HC.out.mem (.tail _ (.head _))) 2 _ rfl
              have k0 := HC.out.free (.tail _ (.head _)) 0
              have k1 := HC.out.free (.tail _ (.head _)) 1
              have k2 := HC.out.free (.tail _ (.head _)) 2
              have hvb := HVB.out
              have t34 : a.tmps[34]?.getD undef = .pointer (some ⟨ub, 0, none⟩) := Reg.slot_val (hd 6 (by kernel_rfl) 34 rfl)
              obtain ⟨p33, q33, r33, g33, f33⟩ := hd 5 (by kernel_rfl) 33 rfl
              have t33 := Reg.slot_val g33
              clear g33
              go_simp
              exact hK undef _ (fun h => absurd rfl h) (fun _ => ⟨_, _, _, f33, (((HC.out.swap.setc (fun b' l' hm => by simp only [List.mem_cons, Prod.mk.injEq, List.not_mem_nil, or_false] at hm; omega) 0 _).setc (fun b' l' hm => by simp only [List.mem_cons, Prod.mk.injEq, List.not_mem_nil, or_false] at hm; omega) 1 _).setc (fun b' l' hm => by simp only [List.mem_cons, Prod.mk.injEq, List.not_mem_nil, or_false] at hm; omega) 2 _)⟩) (fun h => absurd rfl h) trivial
          · rintro f wz hR hT
            obtain ⟨p, q, r, hF, hB⟩ := hT 7 rfl (by decide)
            simp only [Reg.mixL, Nat.zero_add, Nat.reduceAdd]
            have hO : okU ca = true := by rw [OK.out]; rfl
            have hUn : unitC ca = scalC ca (fop .quo .f32 one32 (lenC ca)) := by unfold unitC; rw [hO]; rfl
            have MZ : Hid (Mu ca cb cc ub w 1 wz) := Lib.hid ⟨_, _, _, _, _, _, _, _, _, ⟨hB.1, fun b l hm => hB.2 b l (by rcases List.mem_cons.1 hm with e | hm; exact e ▸ .head _; cases hm)⟩, fun _ => ⟨hO, by rw [hUn]; exact hF⟩, fun h => absurd h (by decide), fun h => absurd h (by decide)⟩
            clear hR hT hF hB hO hUn
            go_wp2
            go_roundw
            case rel => exact ⟨1, by omega, rfl, MZ.out⟩
            case measure => simp [intOf]
        · cases i1
          · go_wp2_with fail
            clear y0 y1 y2
            refine Reg3.wp_region_mix (C := Bx w [(vb, [.float .f32 ax, .float .f32 ay, .float .f32 az]), (ub, [.float .f32 x1, .float .f32 y1, .float .f32 z1, .float .f32 x2, .float .f32 y2, .float .f32 z2, .float .f32 x3, .float .f32 y3, .float .f32 z3])]) (G := fun _ _ => True) (R := fun i v w' => match i with | 0 => v = .int .i64 (0 : Int) | 1 => v = .agg #[.float .f32 ax, .float .f32 ay, .float .f32 az] | 2 => v = .agg #[.float .f32 ax, .float .f32 ay, .float .f32 az] | 3 => ∃ r, v = .float .f32 r ∧ FV .f32 r (lenC ca) | 4 => ∃ r, v = .float .f32 r ∧ FV .f32 r (fop .quo .f32 one32 (lenC ca)) | 5 => ∃ p q r, v = vv p q r ∧ F3 p q r (scalC ca (fop .quo .f32 one32 (lenC ca))) | 6 => v = .pointer (some ⟨ub, 0, none⟩) | _ => True) (T := fun _ _ w' => ∃ p q r, F3 p q r (scalC ca (fop .quo .f32 one32 (lenC ca))) ∧ Bx w [(ub, [.float .f32 p, .float .f32 q, .float .f32 r, .float .f32 x2, .float .f32 y2, .float .f32 z2, .float .f32 x3, .float .f32 y3, .float .f32 z3]), (vb, [.float .f32 ax, .float .f32 ay, .float .f32 az])] w') [false, false, false, false, false, false, false, false, false, false, false, false, false, false, false, false, false, false, false, false, false, false, false, false, false, false, false, false, true, true, true, true, true, true, true, false, false, false, false]
              (by kernel_rfl) (by kernel_rfl) (by kernel_rfl) (fun _ _ _ _ _ _ h => h) (BV1.out.drewN 1) ?_ ?_
            · refine ⟨Reg3.Obl.mk ?_, Reg3.Obl.mk ?_, Reg3.Obl.mk ?_, Reg3.Obl.mk ?_, Reg3.Obl.mk ?_, Reg3.Obl.mk ?_, Reg3.Obl.mk ?_, Reg3.Obl.mk ?_, trivial⟩
              · rintro a w1 hC hx hd K hK
                have HC := Lib.hid hC
                clear hC
                have t9 : a.tmps[9]?.getD undef = .int .i64 (0 : Int) := Reg.slot_val (hx 9 (by kernel_rfl))
                go_simp
                exact hK _ _ (fun _ => rfl) (fun h => by cases h) (fun _ => HC.out) trivial
              · rintro a w1 hC hx hd K hK
                have HC := Lib.hid hC
                clear hC
                have y00 := (HC.out.mem (.head _)) 0 _ rfl
                have y01 := (HC.out.mem (.head _)) 1 _ rfl
                have y02 := (HC.out.mem (.head _)) 2 _ rfl
                have t10 : a.tmps[10]?.getD undef = .pointer (some ⟨vb, 0, none⟩) := Reg.slot_val (hx 10 (by kernel_rfl))
                go_simp
                exact hK _ _ (fun _ => rfl) (fun h => by cases h) (fun _ => HC.out) trivial
              · rintro a w1 hC hx hd K hK
                have HC := Lib.hid hC
                clear hC
                have y00 := (HC.out.mem (.head _)) 0 _ rfl
                have y01 := (HC.out.mem (.head _)) 1 _ rfl
                have y02 := (HC.out.mem (.head _)) 2 _ rfl
                have t10 : a.tmps[10]?.getD undef = .pointer (some ⟨vb, 0, none⟩) := Reg.slot_val (hx 10 (by kernel_rfl))
                go_simp
                exact hK _ _ (fun _ => rfl) (fun h => by cases h) (fun _ => HC.out) trivial
              · rintro a w1 hC hx hd K hK
                have HC := Lib.hid hC
                clear hC
                have t30 : a.tmps[30]?.getD undef = .agg #[.float .f32 ax, .float .f32 ay, .float .f32 az] := Reg.slot_val (hd 2 (by kernel_rfl) 30 rfl)
                go_simp
                refine (impl_LongOf _ _ _ _ _ _ _ HA.out.1 HA.out.2.1 HA.out.2.2).mono ?_
                rintro en w2 ⟨r, rfl, hr, hB2⟩
                exact hK _ _ (fun _ => ⟨r, rfl, hr⟩) (fun h => by cases h) (fun _ => HC.out.call hB2) trivial
              · rintro a w1 hC hx hd K hK
                have HC := Lib.hid hC
                clear hC
                obtain ⟨r31, g31, f31⟩ := hd 3 (by kernel_rfl) 31 rfl
                have t31 := Reg.slot_val g31
                clear g31
                go_simp
                exact hK _ _ (fun _ => ⟨_, rfl, FV_fR fv_one32 f31⟩) (fun h => by cases h) (fun _ => HC.out.drewN _) trivial
              · rintro a w1 hC hx hd K hK
                have HC := Lib.hid hC
                clear hC
                have t29 : a.tmps[29]?.getD undef = .agg #[.float .f32 ax, .float .f32 ay, .float .f32 az] := Reg.slot_val (hd 1 (by kernel_rfl) 29 rfl)
                obtain ⟨r32, g32, f32⟩ := hd 4 (by kernel_rfl) 32 rfl
                have t32 := Reg.slot_val g32
                clear g32
                go_simp
                refine (impl_ScaleVector _ _ _ _ _ _ _ _ _ HA.out.1 HA.out.2.1 HA.out.2.2 f32).mono ?_
                rintro en w2 ⟨p', q', r', rfl, fp', fq', fr', hB2⟩
                exact hK _ _ (fun _ => ⟨p', q', r', rfl, fp', fq', fr'⟩) (fun h => by cases h) (fun _ => HC.out.call hB2) trivial
              · rintro a w1 hC hx hd K hK
                have HC := Lib.hid hC
                clear hC
                have t8 : a.tmps[8]?.getD undef = .pointer (some ⟨ub, 0, none⟩) := Reg.slot_val (hx 8 (by kernel_rfl))
                have t28 : a.tmps[28]?.getD undef = .int .i64 (0 : Int) := Reg.slot_val (hd 0 (by kernel_rfl) 28 rfl)
                go_simp
                exact hK _ _ (fun _ => rfl) (fun h => by cases h) (fun _ => HC.out) trivial
              · rintro a w1 hC hx hd K hK
                have HC := Lib.hid hC
                clear hC
                have q0 := (HC.out.mem (.tail _ (.head _))) 0 _ rfl
                have q1 := (HC.out.mem (.tail _ (.head _))) 1 _ rfl
                have q2 := (HC.out.mem (.tail _ (.head _))) 2 _ rfl
                have k0 := HC.out.free (.tail _ (.head _)) 0
                have k1 := HC.out.free (.tail _ (.head _)) 1
                have k2 := HC.out.free (.tail _ (.head _)) 2
                have hvb := HVB.out
                have t34 : a.tmps[34]?.getD undef = .pointer (some ⟨ub, 0, none⟩) := Reg.slot_val (hd 6 (by kernel_rfl) 34 rfl)
                obtain ⟨p33, q33, r33, g33, f33⟩ := hd 5 (by kernel_rfl) 33 rfl
                have t33 := Reg.slot_val g33
                clear g33
                go_simp
                exact hK undef _ (fun h => absurd rfl h) (fun _ => ⟨_, _, _, f33, (((HC.out.swap.setc (fun b' l' hm => by simp only [List.mem_cons, Prod.mk.injEq, List.not_mem_nil, or_false] at hm; omega) 0 _).setc (fun b' l' hm => by simp only [List.mem_cons, Prod.mk.injEq, List.not_mem_nil, or_false] at hm; omega) 1 _).setc (fun b' l' hm => by simp only [List.mem_cons, Prod.mk.injEq, List.not_mem_nil, or_false] at hm; omega) 2 _)⟩) (fun h => absurd rfl h) trivial
            · rintro f wz hR hT
              obtain ⟨p, q, r, hF, hB⟩ := hT 7 rfl (by decide)
              simp only [Reg.mixL, Nat.zero_add, Nat.reduceAdd]
              have hO : okU ca = true := by rw [OK.out]; rfl
              have hUn : unitC ca = scalC ca (fop .quo .f32 one32 (lenC ca)) := by unfold unitC; rw [hO]; rfl
              have MZ : Hid (Mu ca cb cc ub w 1 wz) := Lib.hid ⟨_, _, _, _, _, _, _, _, _, ⟨hB.1, fun b l hm => hB.2 b l (by rcases List.mem_cons.1 hm with e | hm; exact e ▸ .head _; cases hm)⟩, fun _ => ⟨hO, by rw [hUn]; exact hF⟩, fun h => absurd h (by decide), fun h => absurd h (by decide)⟩
              clear hR hT hF hB hO hUn
              go_wp2
              go_roundw
              case rel => exact ⟨1, by omega, rfl, MZ.out⟩
              case measure => simp [intOf]
          · cases i2
            · go_wp2_with fail
              clear y0 y1 y2
              refine Reg3.wp_region_mix (C := Bx w [(vb, [.float .f32 ax, .float .f32 ay, .float .f32 az]), (ub, [.float .f32 x1, .float .f32 y1, .float .f32 z1, .float .f32 x2, .float .f32 y2, .float .f32 z2, .float .f32 x3, .float .f32 y3, .float .f32 z3])]) (G := fun _ _ => True) (R := fun i v w' => match i with | 0 => v = .int .i64 (0 : Int) | 1 => v = .agg #[.float .f32 ax, .float .f32 ay, .float .f32 az] | 2 => v = .agg #[.float .f32 ax, .float .f32 ay, .float .f32 az] | 3 => ∃ r, v = .float .f32 r ∧ FV .f32 r (lenC ca) | 4 => ∃ r, v = .float .f32 r ∧ FV .f32 r (fop .quo .f32 one32 (lenC ca)) | 5 => ∃ p q r, v = vv p q r ∧ F3 p q r (scalC ca (fop .quo .f32 one32 (lenC ca))) | 6 => v = .pointer (some ⟨ub, 0, none⟩) | _ => True) (T := fun _ _ w' => ∃ p q r, F3 p q r (scalC ca (fop .quo .f32 one32 (lenC ca))) ∧ Bx w [(ub, [.float .f32 p, .float .f32 q, .float .f32 r, .float .f32 x2, .float .f32 y2, .float .f32 z2, .float .f32 x3, .float .f32 y3, .float .f32 z3]), (vb, [.float .f32 ax, .float .f32 ay, .float .f32 az])] w') [false, false, false, false, false, false, false, false, false, false, false, false, false, false, false, false, false, false, false, false, false, false, false, false, false, false, false, false, true, true, true, true, true, true, true, false, false, false, false]
                (by kernel_rfl) (by kernel_rfl) (by kernel_rfl) (fun _ _ _ _ _ _ h => h) (BV1.out.drewN 1) ?_ ?_
              · refine ⟨Reg3.Obl.mk ?_, Reg3.Obl.mk ?_, Reg3.Obl.mk ?_, Reg3.Obl.mk ?_, Reg3.Obl.mk ?_, Reg3.Obl.mk ?_, Reg3.Obl.mk ?_, Reg3.Obl.mk ?_, trivial⟩
                · rintro a w1 hC hx hd K hK
                  have HC := Lib.hid hC
                  clear hC
                  have t9 : a.tmps[9]?.getD undef = .int .i64 (0 : Int) := Reg.slot_val (hx 9 (by kernel_rfl))
                  go_simp
                  exact hK _ _ (fun _ => rfl) (fun h => by cases h) (fun _ => HC.out) trivial
                · rintro a w1 hC hx hd K hK
                  have HC := Lib.hid hC
                  clear hC
                  have y00 := (HC.out.mem (.head _)) 0 _ rfl
                  have y01 := (HC.out.mem (.head _)) 1 _ rfl
                  have y02 := (HC.out.mem (.head _)) 2 _ rfl
                  have t10 : a.tmps[10]?.getD undef = .pointer (some ⟨vb, 0, none⟩) := Reg.slot_val (hx 10 (by kernel_rfl))
                  go_simp
                  exact hK _ _ (fun _ => rfl) (fun h => by cases h) (fun _ => HC.out) trivial
                · rintro a w1 hC hx hd K hK
                  have HC := Lib.hid hC
                  clear hC
                  have y00 := (HC.out.mem (.head _)) 0 _ rfl
                  have y01 := (HC.out.mem (.head _)) 1 _ rfl
                  have y02 := (HC.out.mem (.head _)) 2 _ rfl
                  have t10 : a.tmps[10]?.getD undef = .pointer (some ⟨vb, 0, none⟩) := Reg.slot_val (hx 10 (by kernel_rfl))
                  go_simp
                  exact hK _ _ (fun _ => rfl) (fun h => by cases h) (fun _ => HC.out) trivial
                · rintro a w1 hC hx hd K hK
                  have HC := Lib.hid hC
                  clear hC
                  have t30 : a.tmps[30]?.getD undef = .agg #[.float .f32 ax, .float .f32 ay, .float .f32 az] := Reg.slot_val (hd 2 (by kernel_rfl) 30 rfl)
                  go_simp
                  refine (impl_LongOf _ _ _ _ _ _ _ HA.out.1 HA.out.2.1 HA.out.2.2).mono ?_
                  rintro en w2 ⟨r, rfl, hr, hB2⟩
                  exact hK _ _ (fun _ => ⟨r, rfl, hr⟩) (fun h => by cases h) (fun _ => HC.out.call hB2) trivial
                · rintro a w1 hC hx hd K hK
                  have HC := Lib.hid hC
                  clear hC
                  obtain ⟨r31, g31, f31⟩ := hd 3 (by kernel_rfl) 31 rfl
                  have t31 := Reg.slot_val g31
                  clear g31
                  go_simp
                  exact hK _ _ (fun _ => ⟨_, rfl, FV_fR fv_one32 f31⟩) (fun h => by cases h) (fun _ => HC.out.drewN _) trivial
                · rintro a w1 hC hx hd K hK
                  have HC := Lib.hid hC
                  clear hC
                  have t29 : a.tmps[29]?.getD undef = .agg #[.float .f32 ax, .float .f32 ay, .float .f32 az] := Reg.slot_val (hd 1 (by kernel_rfl) 29 rfl)
                  obtain ⟨r32, g32, f32⟩ := hd 4 (by kernel_rfl) 32 rfl
                  have t32 := Reg.slot_val g32
                  clear g32
                  go_simp
                  refine (impl_ScaleVector _ _ _ _ _ _ _ _ _ HA.out.1 HA.out.2.1 HA.out.2.2 f32).mono ?_
                  rintro en w2 ⟨p', q', r', rfl, fp', fq', fr', hB2⟩
                  exact hK _ _ (fun _ => ⟨p', q', r', rfl, fp', fq', fr'⟩) (fun h => by cases h) (fun _ => HC.out.call hB2) trivial
                · rintro a w1 hC hx hd K hK
                  have HC := Lib.hid hC
                  clear hC
                  have t8 : a.tmps[8]?.getD undef = .pointer (some ⟨ub, 0, none⟩) := Reg.slot_val (hx 8 (by kernel_rfl))
                  have t28 : a.tmps[28]?.getD undef = .int .i64 (0 : Int) := Reg.slot_val (hd 0 (by kernel_rfl) 28 rfl)
                  go_simp
                  exact hK _ _ (fun _ => rfl) (fun h => by cases h) (fun _ => HC.out) trivial
                · rintro a w1 hC hx hd K hK
                  have HC := Lib.hid hC
                  clear hC
                  have q0 := (HC.out.mem (.tail _ (.head _))) 0 _ rfl
                  have q1 := (HC.out.mem (.tail _ (.head _))) 1 _ rfl
                  have q2 := (HC.out.mem (.tail _ (.head _))) 2 _ rfl
                  have k0 := HC.out.free (.tail _ (.head _)) 0
                  have k1 := HC.out.free (.tail _ (.head _)) 1
                  have k2 := HC.out.free (.tail _ (.head _)) 2
                  have hvb := HVB.out
                  have t34 : a.tmps[34]?.getD undef = .pointer (some ⟨ub, 0, none⟩) := Reg.slot_val (hd 6 (by kernel_rfl) 34 rfl)
                  obtain ⟨p33, q33, r33, g33, f33⟩ := hd 5 (by kernel_rfl) 33 rfl
                  have t33 := Reg.slot_val g33
                  clear g33
                  go_simp
                  exact hK undef _ (fun h => absurd rfl h) (fun _ => ⟨_, _, _, f33, (((HC.out.swap.setc (fun b' l' hm => by simp only [List.mem_cons, Prod.mk.injEq, List.not_mem_nil, or_false] at hm; omega) 0 _).setc (fun b' l' hm => by simp only [List.mem_cons, Prod.mk.injEq, List.not_mem_nil, or_false] at hm; omega) 1 _).setc (fun b' l' hm => by simp only [List.mem_cons, Prod.mk.injEq, List.not_mem_nil, or_false] at hm; omega) 2 _)⟩) (fun h => absurd rfl h) trivial
              · rintro f wz hR hT
                obtain ⟨p, q, r, hF, hB⟩ := hT 7 rfl (by decide)
                simp only [Reg.mixL, Nat.zero_add, Nat.reduceAdd]
                have hO : okU ca = true := by rw [OK.out]; rfl
                have hUn : unitC ca = scalC ca (fop .quo .f32 one32 (lenC ca)) := by unfold unitC; rw [hO]; rfl
                have MZ : Hid (Mu ca cb cc ub w 1 wz) := Lib.hid ⟨_, _, _, _, _, _, _, _, _, ⟨hB.1, fun b l hm => hB.2 b l (by rcases List.mem_cons.1 hm with e | hm; exact e ▸ .head _; cases hm)⟩, fun _ => ⟨hO, by rw [hUn]; exact hF⟩, fun h => absurd h (by decide), fun h => absurd h (by decide)⟩
                clear hR hT hF hB hO hUn
                go_wp2
                go_roundw
                case rel => exact ⟨1, by omega, rfl, MZ.out⟩
                case measure => simp [intOf]
            · go_wp2
              go_ret2
              clear y0 y1 y2
              have hF : okU ca = false := by rw [OK.out]; rfl
              refine ⟨⟨0, ?_, ?_⟩, BV1.out.bel⟩
              · rw [hF]; simp
              · rw [hF]; simp [fv_z]
    · obtain ⟨x1, y1, z1, x2, y2, z2, x3, y3, z3, hBu, h1, h2, h3⟩ := MU.out
      have BU := Lib.hid hBu
      have K1 := Lib.hid (And.intro h1 (And.intro h2 h3))
      have BV := Lib.hid (hBu.box (vs := [.float .f32 bx, .float .f32 by', .float .f32 bz]) (t := 33))
      clear hBu h1 h2 h3 MU
      have hix := ends_1 ax ay az bx by' bz cx cy cz
      have e0 := eq_at bx _ HB.out.1
      have e1 := eq_at by' _ HB.out.2.1
      have e2 := eq_at bz _ HB.out.2.2
      have JF := Lib.hid (fun w => impl_isFiniteVector bx by' bz cb w HB.out.1 HB.out.2.1 HB.out.2.2)
      have OK : Hid (okU cb = (finV cb && !(isZ cb.1 && (isZ cb.2.1 && isZ cb.2.2)))) := Lib.hid rfl
      generalize hf : finV cb = ff at *
      generalize hz0 : isZ cb.1 = i0 at *
      generalize hz1 : isZ cb.2.1 = i1 at *
      generalize hz2 : isZ cb.2.2 = i2 at *
      clear hf hz0 hz1 hz2
      go_wp2_with fail
      clear hix
      change Calls _ _ _ (wr.alloc (.cells [.float .f32 bx, .float .f32 by', .float .f32 bz].toArray 33)) _
      generalize wr.alloc (.cells [.float .f32 bx, .float .f32 by', .float .f32 bz].toArray 33) = WV at *
      generalize hvb : wr.heap.size = vb at *
      have HVB : Hid (ub < vb) := Lib.hid (hvb ▸ (BU.out.2 _ _ (.head _)).2.2.1)
      clear hvb BU
      refine (JF.out WV).mono ?_
      rintro e w1 ⟨rfl, hB1⟩
      have BV1 := Lib.hid (BV.out.call hB1)
      clear hB1 BV JF
      have y0 := (BV1.out.mem (.head _)) 0 _ rfl
      have y1 := (BV1.out.mem (.head _)) 1 _ rfl
      have y2 := (BV1.out.mem (.head _)) 2 _ rfl
      cases ff
      · go_wp2
        go_ret2
        clear y0 y1 y2
        have hF : okU cb = false := by rw [OK.out]; rfl
        refine ⟨⟨0, ?_, ?_⟩, BV1.out.bel⟩
        · rw [hF]; simp
        · rw [hF]; simp [fv_z]
      · cases i0
        · go_wp2_with fail
          clear y0 y1 y2
          refine Reg3.wp_region_mix (C := Bx w [(vb, [.float .f32 bx, .float .f32 by', .float .f32 bz]), (ub, [.float .f32 x1, .float .f32 y1, .float .f32 z1, .float .f32 x2, .float .f32 y2, .float .f32 z2, .float .f32 x3, .float .f32 y3, .float .f32 z3])]) (G := fun _ _ => True) (R := fun i v w' => match i with | 0 => v = .int .i64 (1 : Int) | 1 => v = .agg #[.float .f32 bx, .float .f32 by', .float .f32 bz] | 2 => v = .agg #[.float .f32 bx, .float .f32 by', .float .f32 bz] | 3 => ∃ r, v = .float .f32 r ∧ FV .f32 r (lenC cb) | 4 => ∃ r, v = .float .f32 r ∧ FV .f32 r (fop .quo .f32 one32 (lenC cb)) | 5 => ∃ p q r, v = vv p q r ∧ F3 p q r (scalC cb (fop .quo .f32 one32 (lenC cb))) | 6 => v = .pointer (some ⟨ub, 3, none⟩) | _ => True) (T := fun _ _ w' => ∃ p q r, F3 p q r (scalC cb (fop .quo .f32 one32 (lenC cb))) ∧ Bx w [(ub, [.float .f32 x1, .float .f32 y1, .float .f32 z1, .float .f32 p, .float .f32 q, .float .f32 r, .float .f32 x3, .float .f32 y3, .float .f32 z3]), (vb, [.float .f32 bx, .float .f32 by', .float .f32 bz])] w') [false, false, false, false, false, false, false, false, false, false, false, false, false, false, false, false, false, false, false, false, false, false, false, false, false, false, false, false, true, true, true, true, true, true, true, false, false, false, false]
            (by kernel_rfl) (by kernel_rfl) (by kernel_rfl) (fun _ _ _ _ _ _ h => h) (BV1.out.drewN 1) ?_ ?_
          · refine ⟨Reg3.Obl.mk ?_, Reg3.Obl.mk ?_, Reg3.Obl.mk ?_, Reg3.Obl.mk ?_, Reg3.Obl.mk ?_, Reg3.Obl.mk ?_, Reg3.Obl.mk ?_, Reg3.Obl.mk ?_, trivial⟩
            · rintro a w1 hC hx hd K hK
              have HC := Lib.hid hC
              clear hC
              have t9 : a.tmps[9]?.getD undef = .int .i64 (1 : Int) := Reg.slot_val (hx 9 (by kernel_rfl))
              go_simp
              exact hK _ _ (fun _ => rfl) (fun h => by cases h) (fun _ => HC.out) trivial
            · rintro a w1 hC hx hd K hK
              have HC := Lib.hid hC
              clear hC
              have y00 := (HC.out.mem (.head _)) 0 _ rfl
              have y01 := (HC.out.mem (.head _)) 1 _ rfl
              have y02 := (HC.out.mem (.head _)) 2 _ rfl
              have t10 : a.tmps[10]?.getD undef = .pointer (some ⟨vb, 0, none⟩) := Reg.slot_val (hx 10 (by kernel_rfl))
              go_simp
              exact hK _ _ (fun _ => rfl) (fun h => by cases h) (fun _ => HC.out) trivial
            · rintro a w1 hC hx hd K hK
              have HC := Lib.hid hC
              clear hC
              have y00 := (HC.out.mem (.head _)) 0 _ rfl
              have y01 := (HC.out.mem (.head _)) 1 _ rfl
              have y02 := (HC.out.mem (.head _)) 2 _ rfl
              have t10 : a.tmps[10]?.getD undef = .pointer (some ⟨vb, 0, none⟩) := Reg.slot_val (hx 10 (by kernel_rfl))
              go_simp
              exact hK _ _ (fun _ => rfl) (fun h => by cases h) (fun _ => HC.out) trivial
            · rintro a w1 hC hx hd K hK
              have HC := Lib.hid hC
              clear hC
              have t30 : a.tmps[30]?.getD undef = .agg #[.float .f32 bx, .float .f32 by', .float .f32 bz] := Reg.slot_val (hd 2 (by kernel_rfl) 30 rfl)
              go_simp
              refine (impl_LongOf _ _ _ _ _ _ _ HB.out.1 HB.out.2.1 HB.out.2.2).mono ?_
              rintro en w2 ⟨r, rfl, hr, hB2⟩
              exact hK _ _ (fun _ => ⟨r, rfl, hr⟩) (fun h => by cases h) (fun _ => HC.out.call hB2) trivial
            · rintro a w1 hC hx hd K hK
              have HC := Lib.hid hC
              clear hC
              obtain ⟨r31, g31, f31⟩ := hd 3 (by kernel_rfl) 31 rfl
              have t31 := Reg.slot_val g31
              clear g31
              go_simp
              exact hK _ _ (fun _ => ⟨_, rfl, FV_fR fv_one32 f31⟩) (fun h => by cases h) (fun _ => HC.out.drewN _) trivial
            · rintro a w1 hC hx hd K hK
              have HC := Lib.hid hC
              clear hC
              have t29 : a.tmps[29]?.getD undef = .agg #[.float .f32 bx, .float .f32 by', .float .f32 bz] := Reg.slot_val (hd 1 (by kernel_rfl) 29 rfl)
              obtain ⟨r32, g32, f32⟩ := hd 4 (by kernel_rfl) 32 rfl
              have t32 := Reg.slot_val g32
              clear g32
              go_simp
              refine (impl_ScaleVector _ _ _ _ _ _ _ _ _ HB.out.1 HB.out.2.1 HB.out.2.2 f32).mono ?_
              rintro en w2 ⟨p', q', r', rfl, fp', fq', fr', hB2⟩
              exact hK _ _ (fun _ => ⟨p', q', r', rfl, fp', fq', fr'⟩) (fun h => by cases h) (fun _ => HC.out.call hB2) trivial
            · rintro a w1 hC hx hd K hK
              have HC := Lib.hid hC
              clear hC
              have t8 : a.tmps[8]?.getD undef = .pointer (some ⟨ub, 0, none⟩) := Reg.slot_val (hx 8 (by kernel_rfl))
              have t28 : a.tmps[28]?.getD undef = .int .i64 (1 : Int) := Reg.slot_val (hd 0 (by kernel_rfl) 28 rfl)
              go_simp
              exact hK _ _ (fun _ => rfl) (fun h => by cases h) (fun _ => HC.out) trivial
            · rintro a w1 hC hx hd K hK
              have HC := Lib.hid hC
              clear hC
              have q0 := (HC.out.mem (.tail _ (.head _))) 3 _ rfl
              have q1 := (HC.out.mem (.tail _ (.head _))) 4 _ rfl
              have q2 := (HC.out.mem (.tail _ (.head _))) 5 _ rfl
              have k0 := HC.out.free (.tail _ (.head _)) 3
              have k1 := HC.out.free (.tail _ (.head _)) 4
              have k2 := HC.out.free (.tail _ (.head _)) 5
              have hvb := HVB.out
              have t34 : a.tmps[34]?.getD undef = .pointer (some ⟨ub, 3, none⟩) := Reg.slot_val (hd 6 (by kernel_rfl) 34 rfl)
              obtain ⟨p33, q33, r33, g33, f33⟩ := hd 5 (by kernel_rfl) 33 rfl
              have t33 := Reg.slot_val g33
              clear g33
              go_simp
              exact hK undef _ (fun h => absurd rfl h) (fun _ => ⟨_, _, _, f33, (((HC.out.swap.setc (fun b' l' hm => by simp only [List.mem_cons, Prod.mk.injEq, List.not_mem_nil, or_false] at hm; omega) 3 _).setc (fun b' l' hm => by simp only [List.mem_cons, Prod.mk.injEq, List.not_mem_nil, or_false] at hm; omega) 4 _).setc (fun b' l' hm => by simp only [List.mem_cons, Prod.mk.injEq, List.not_mem_nil, or_false] at hm; omega) 5 _)⟩) (fun h => absurd rfl h) trivial
          · rintro f wz hR hT
            obtain ⟨p, q, r, hF, hB⟩ := hT 7 rfl (by decide)
            simp only [Reg.mixL, Nat.zero_add, Nat.reduceAdd]
            have hO : okU cb = true := by rw [OK.out]; rfl
            have hUn : unitC cb = scalC cb (fop .quo .f32 one32 (lenC cb)) := by unfold unitC; rw [hO]; rfl
            have MZ : Hid (Mu ca cb cc ub w 2 wz) := Lib.hid ⟨_, _, _, _, _, _, _, _, _, ⟨hB.1, fun b l hm => hB.2 b l (by rcases List.mem_cons.1 hm with e | hm; exact e ▸ .head _; cases hm)⟩, fun _ => K1.out.1 (by decide), fun _ => ⟨hO, by rw [hUn]; exact hF⟩, fun h => absurd h (by decide)⟩
            clear hR hT hF hB hO hUn
            go_wp2
            go_roundw
            case rel => exact ⟨2, by omega, rfl, MZ.out⟩
            case measure => simp [intOf]
        · cases i1
          · go_wp2_with fail
            clear y0 y1 y2
            refine Reg3.wp_region_mix (C := Bx w [(vb, [.float .f32 bx, .float .f32 by', .float .f32 bz]), (ub, [.float .f32 x1, .float .f32 y1, .float .f32 z1, .float .f32 x2, .float .f32 y2, .float .f32 z2, .float .f32 x3, .float .f32 y3, .float .f32 z3])]) (G := fun _ _ => True) (R := fun i v w' => match i with | 0 => v = .int .i64 (1 : Int) | 1 => v = .agg #[.float .f32 bx, .float .f32 by', .float .f32 bz] | 2 => v = .agg #[.float .f32 bx, .float .f32 by', .float .f32 bz] | 3 => ∃ r, v = .float .f32 r ∧ FV .f32 r (lenC cb) | 4 => ∃ r, v = .float .f32 r ∧ FV .f32 r (fop .quo .f32 one32 (lenC cb)) | 5 => ∃ p q r, v = vv p q r ∧ F3 p q r (scalC cb (fop .quo .f32 one32 (lenC cb))) | 6 => v = .pointer (some ⟨ub, 3, none⟩) | _ => True) (T := fun _ _ w' => ∃ p q r, F3 p q r (scalC cb (fop .quo .f32 one32 (lenC cb))) ∧ Bx w [(ub, [.float .f32 x1, .float .f32 y1, .float .f32 z1, .float .f32 p, .float .f32 q, .float .f32 r, .float .f32 x3, .float .f32 y3, .float .f32 z3]), (vb, [.float .f32 bx, .float .f32 by', .float .f32 bz])] w') [false, false, false, false, false, false, false, false, false, false, false, false, false, false, false, false, false, false, false, false, false, false, false, false, false, false, false, false, true, true, true, true, true, true, true, false, false, false, false]
              (by kernel_rfl) (by kernel_rfl) (by kernel_rfl) (fun _ _ _ _ _ _ h => h) (BV1.out.drewN 1) ?_ ?_
            · refine ⟨Reg3.Obl.mk ?_, Reg3.Obl.mk ?_, Reg3.Obl.mk ?_, Reg3.Obl.mk ?_, Reg3.Obl.mk ?_, Reg3.Obl.mk ?_, Reg3.Obl.mk ?_, Reg3.Obl.mk ?_, trivial⟩
              · rintro a w1 hC hx hd K hK
                have HC := Lib.hid hC
                clear hC
                have t9 : a.tmps[9]?.getD undef = .int .i64 (1 : Int) := Reg.slot_val (hx 9 (by kernel_rfl))
                go_simp
                exact hK _ _ (fun _ => rfl) (fun h => by cases h) (fun _ => HC.out) trivial
              · rintro a w1 hC hx hd K hK
                have HC := Lib.hid hC
                clear hC
                have y00 := (HC.out.mem (.head _)) 0 _ rfl
                have y01 := (HC.out.mem (.head _)) 1 _ rfl
                have y02 := (HC.out.mem (.head _)) 2 _ rfl
                have t10 : a.tmps[10]?.getD undef = .pointer (some ⟨vb, 0, none⟩) := Reg.slot_val (hx 10 (by kernel_rfl))
                go_simp
                exact hK _ _ (fun _ => rfl) (fun h => by cases h) (fun _ => HC.out) trivial
              · rintro a w1 hC hx hd K hK
                have HC := Lib.hid hC
                clear hC
                have y00 := (HC.out.mem (.head _)) 0 _ rfl
                have y01 := (HC.out.mem (.head _)) 1 _ rfl
                have y02 := (HC.out.mem (.head _)) 2 _ rfl
                have t10 : a.tmps[10]?.getD undef = .pointer (some ⟨vb, 0, none⟩) := Reg.slot_val (hx 10 (by kernel_rfl))
                go_simp
                exact hK _ _ (fun _ => rfl) (fun h => by cases h) (fun _ => HC.out) trivial
              · rintro a w1 hC hx hd K hK
                have HC := Lib.hid hC
                clear hC
                have t30 : a.tmps[30]?.getD undef = .agg #[.float .f32 bx, .float .f32 by', .float .f32 bz] := Reg.slot_val (hd 2 (by kernel_rfl) 30 rfl)
                go_simp
                refine (impl_LongOf _ _ _ _ _ _ _ HB.out.1 HB.out.2.1 HB.out.2.2).mono ?_
                rintro en w2 ⟨r, rfl, hr, hB2⟩
                exact hK _ _ (fun _ => ⟨r, rfl, hr⟩) (fun h => by cases h) (fun _ => HC.out.call hB2) trivial
              · rintro a w1 hC hx hd K hK
                have HC := Lib.hid hC
                clear hC
                obtain ⟨r31, g31, f31⟩ := hd 3 (by kernel_rfl) 31 rfl
                have t31 := Reg.slot_val g31
                clear g31
                go_simp
                exact hK _ _ (fun _ => ⟨_, rfl, FV_fR fv_one32 f31⟩) (fun h => by cases h) (fun _ => HC.out.drewN _) trivial
              · rintro a w1 hC hx hd K hK
                have HC := Lib.hid hC
                clear hC
                have t29 : a.tmps[29]?.getD undef = .agg #[.float .f32 bx, .float .f32 by', .float .f32 bz] := Reg.slot_val (hd 1 (by kernel_rfl) 29 rfl)
                obtain ⟨r32, g32, f32⟩ := hd 4 (by kernel_rfl) 32 rfl
                have t32 := Reg.slot_val g32
                clear g32
                go_simp
                refine (impl_ScaleVector _ _ _ _ _ _ _ _ _ HB.out.1 HB.out.2.1 HB.out.2.2 f32).mono ?_
                rintro en w2 ⟨p', q', r', rfl, fp', fq', fr', hB2⟩
                exact hK _ _ (fun _ => ⟨p', q', r', rfl, fp', fq', fr'⟩) (fun h => by cases h) (fun _ => HC.out.call hB2) trivial
              · rintro a w1 hC hx hd K hK
                have HC := Lib.hid hC
                clear hC
                have t8 : a.tmps[8]?.getD undef = .pointer (some ⟨ub, 0, none⟩) := Reg.slot_val (hx 8 (by kernel_rfl))
                have t28 : a.tmps[28]?.getD undef = .int .i64 (1 : Int) := Reg.slot_val (hd 0 (by kernel_rfl) 28 rfl)
                go_simp
                exact hK _ _ (fun _ => rfl) (fun h => by cases h) (fun _ => HC.out) trivial
              · rintro a w1 hC hx hd K hK
                have HC := Lib.hid hC
                clear hC
                have q0 := (HC.out.mem (.tail _ (.head _))) 3 _ rfl
                have q1 := (HC.out.mem (.tail _ (.head _))) 4 _ rfl
                have q2 := (HC.out.mem (.tail _ (.head _))) 5 _ rfl
                have k0 := HC.out.free (.tail _ (.head _)) 3
                have k1 := HC.out.free (.tail _ (.head _)) 4
                have k2 := HC.out.free (.tail _ (.head _)) 5
                have hvb := HVB.out
                have t34 : a.tmps[34]?.getD undef = .pointer (some ⟨ub, 3, none⟩) := Reg.slot_val (hd 6 (by kernel_rfl) 34 rfl)
                obtain ⟨p33, q33, r33, g33, f33⟩ := hd 5 (by kernel_rfl) 33 rfl
                have t33 := Reg.slot_val g33
                clear g33
                go_simp
                exact hK undef _ (fun h => absurd rfl h) (fun _ => ⟨_, _, _, f33, (((HC.out.swap.setc (fun b' l' hm => by simp only [List.mem_cons, Prod.mk.injEq, List.not_mem_nil, or_false] at hm; omega) 3 _).setc (fun b' l' hm => by simp only [List.mem_cons, Prod.mk.injEq, List.not_mem_nil, or_false] at hm; omega) 4 _).setc (fun b' l' hm => by simp only [List.mem_cons, Prod.mk.injEq, List.not_mem_nil, or_false] at hm; omega) 5 _)⟩) (fun h => absurd rfl h) trivial
            · rintro f wz hR hT
              obtain ⟨p, q, r, hF, hB⟩ := hT 7 rfl (by decide)
              simp only [Reg.mixL, Nat.zero_add, Nat.reduceAdd]
              have hO : okU cb = true := by rw [OK.out]; rfl
              have hUn : unitC cb = scalC cb (fop .quo .f32 one32 (lenC cb)) := by unfold unitC; rw [hO]; rfl
              have MZ : Hid (Mu ca cb cc ub w 2 wz) := Lib.hid ⟨_, _, _, _, _, _, _, _, _, ⟨hB.1, fun b l hm => hB.2 b l (by rcases List.mem_cons.1 hm with e | hm; exact e ▸ .head _; cases hm)⟩, fun _ => K1.out.1 (by decide), fun _ => ⟨hO, by rw [hUn]; exact hF⟩, fun h => absurd h (by decide)⟩
              clear hR hT hF hB hO hUn
              go_wp2
              go_roundw
              case rel => exact ⟨2, by omega, rfl, MZ.out⟩
              case measure => simp [intOf]
          · cases i2
            · go_wp2_with fail
              clear y0 y1 y2
              refine Reg3.wp_region_mix (C := Bx w [(vb, [.float .f32 bx, .float .f32 by', .float .f32 bz]), (ub, [.float .f32 x1, .float .f32 y1, .float .f32 z1, .float .f32 x2, .float .f32 y2, .float .f32 z2, .float .f32 x3, .float .f32 y3, .float .f32 z3])]) (G := fun _ _ => True) (R := fun i v w' => match i with | 0 => v = .int .i64 (1 : Int) | 1 => v = .agg #[.float .f32 bx, .float .f32 by', .float .f32 bz] | 2 => v = .agg #[.float .f32 bx, .float .f32 by', .float .f32 bz] | 3 => ∃ r, v = .float .f32 r ∧ FV .f32 r (lenC cb) | 4 => ∃ r, v = .float .f32 r ∧ FV .f32 r (fop .quo .f32 one32 (lenC cb)) | 5 => ∃ p q r, v = vv p q r ∧ F3 p q r (scalC cb (fop .quo .f32 one32 (lenC cb))) | 6 => v = .pointer (some ⟨ub, 3, none⟩) | _ => True) (T := fun _ _ w' => ∃ p q r, F3 p q r (scalC cb (fop .quo .f32 one32 (lenC cb))) ∧ Bx w [(ub, [.float .f32 x1, .float .f32 y1, .float .f32 z1, .float .f32 p, .float .f32 q, .float .f32 r, .float .f32 x3, .float .f32 y3, .float .f32 z3]), (vb, [.float .f32 bx, .float .f32 by', .float .f32 bz])] w') [false, false, false, false, false, false, false, false, false, false, false, false, false, false, false, false, false, false, false, false, false, false, false, false, false, false, false, false, true, true, true, true, true, true, true, false, false, false, false]
                (by kernel_rfl) (by kernel_rfl) (by kernel_rfl) (fun _ _ _ _ _ _ h => h) (BV1.out.drewN 1) ?_ ?_
              · refine ⟨Reg3.Obl.mk ?_, Reg3.Obl.mk ?_, Reg3.Obl.mk ?_, Reg3.Obl.mk ?_, Reg3.Obl.mk ?_, Reg3.Obl.mk ?_, Reg3.Obl.mk ?_, Reg3.Obl.mk ?_, trivial⟩
                · rintro a w1 hC hx hd K hK
                  have HC := Lib.hid hC
                  clear hC
                  have t9 : a.tmps[9]?.getD undef = .int .i64 (1 : Int) := Reg.slot_val (hx 9 (by kernel_rfl))
                  go_simp
                  exact hK _ _ (fun _ => rfl) (fun h => by cases h) (fun _ => HC.out) trivial
                · rintro a w1 hC hx hd K hK
                  have HC := Lib.hid hC
                  clear hC
                  have y00 := (HC.out.mem (.head _)) 0 _ rfl
                  have y01 := (HC.out.mem (.head _)) 1 _ rfl
                  have y02 := (HC.out.mem (.head _)) 2 _ rfl
                  have t10 : a.tmps[10]?.getD undef = .pointer (some ⟨vb, 0, none⟩) := Reg.slot_val (hx 10 (by kernel_rfl))
                  go_simp
                  exact hK _ _ (fun _ => rfl) (fun h => by cases h) (fun _ => HC.out) trivial
                · rintro a w1 hC hx hd K hK
                  have HC := Lib.hid hC
                  clear hC
                  have y00 := (HC.out.mem (.head _)) 0 _ rfl
                  have y01 := (HC.out.mem (.head _)) 1 _ rfl
                  have y02 := (HC.out.mem (.head _)) 2 _ rfl
                  have t10 : a.tmps[10]?.getD undef = .pointer (some ⟨vb, 0, none⟩) := Reg.slot_val (hx 10 (by kernel_rfl))
                  go_simp
                  exact hK _ _ (fun _ => rfl) (fun h => by cases h) (fun _ => HC.out) trivial
                · rintro a w1 hC hx hd K hK
                  have HC := Lib.hid hC
                  clear hC
                  have t30 : a.tmps[30]?.getD undef = .agg #[.float .f32 bx, .float .f32 by', .float .f32 bz] := Reg.slot_val (hd 2 (by kernel_rfl) 30 rfl)
                  go_simp
                  refine (impl_LongOf _ _ _ _ _ _ _ HB.out.1 HB.out.2.1 HB.out.2.2).mono ?_
                  rintro en w2 ⟨r, rfl, hr, hB2⟩
                  exact hK _ _ (fun _ => ⟨r, rfl, hr⟩) (fun h => by cases h) (fun _ => HC.out.call hB2) trivial
                · rintro a w1 hC hx hd K hK
                  have HC := Lib.hid hC
                  clear hC
                  obtain ⟨r31, g31, f31⟩ := hd 3 (by kernel_rfl) 31 rfl
                  have t31 := Reg.slot_val g31
                  clear g31
                  go_simp
                  exact hK _ _ (fun _ => ⟨_, rfl, FV_fR fv_one32 f31⟩) (fun h => by cases h) (fun _ => HC.out.drewN _) trivial
                · rintro a w1 hC hx hd K hK
                  have HC := Lib.hid hC
                  clear hC
                  have t29 : a.tmps[29]?.getD undef = .agg #[.float .f32 bx, .float .f32 by', .float .f32 bz] := Reg.slot_val (hd 1 (by kernel_rfl) 29 rfl)
                  obtain ⟨r32, g32, f32⟩ := hd 4 (by kernel_rfl) 32 rfl
                  have t32 := Reg.slot_val g32
                  clear g32
                  go_simp
                  refine (impl_ScaleVector _ _ _ _ _ _ _ _ _ HB.out.1 HB.out.2.1 HB.out.2.2 f32).mono ?_
                  rintro en w2 ⟨p', q', r', rfl, fp', fq', fr', hB2⟩
                  exact hK _ _ (fun _ => ⟨p', q', r', rfl, fp', fq', fr'⟩) (fun h => by cases h) (fun _ => HC.out.call hB2) trivial
                · rintro a w1 hC hx hd K hK
                  have HC := Lib.hid hC
                  clear hC
                  have t8 : a.tmps[8]?.getD undef = .pointer (some ⟨ub, 0, none⟩) := Reg.slot_val (hx 8 (by kernel_rfl))
                  have t28 : a.tmps[28]?.getD undef = .int .i64 (1 : Int) := Reg.slot_val (hd 0 (by kernel_rfl) 28 rfl)
                  go_simp
                  exact hK _ _ (fun _ => rfl) (fun h => by cases h) (fun _ => HC.out) trivial
                · rintro a w1 hC hx hd K hK
                  have HC := Lib.hid hC
                  clear hC
                  have q0 := (HC.out.mem (.tail _ (.head _))) 3 _ rfl
                  have q1 := (HC.out.mem (.tail _ (.head _))) 4 _ rfl
                  have q2 := (HC.out.mem (.tail _ (.head _))) 5 _ rfl
                  have k0 := HC.out.free (.tail _ (.head _)) 3
                  have k1 := HC.out.free (.tail _ (.head _)) 4
                  have k2 := HC.out.free (.tail _ (.head _)) 5
                  have hvb := HVB.out
                  have t34 : a.tmps[34]?.getD undef = .pointer (some ⟨ub, 3, none⟩) := Reg.slot_val (hd 6 (by kernel_rfl) 34 rfl)
                  obtain ⟨p33, q33, r33, g33, f33⟩ := hd 5 (by kernel_rfl) 33 rfl
                  have t33 := Reg.slot_val g33
                  clear g33
                  go_simp
                  exact hK undef _ (fun h => absurd rfl h) (fun _ => ⟨_, _, _, f33, (((HC.out.swap.setc (fun b' l' hm => by simp only [List.mem_cons, Prod.mk.injEq, List.not_mem_nil, or_false] at hm; omega) 3 _).setc (fun b' l' hm => by simp only [List.mem_cons, Prod.mk.injEq, List.not_mem_nil, or_false] at hm; omega) 4 _).setc (fun b' l' hm => by simp only [List.mem_cons, Prod.mk.injEq, List.not_mem_nil, or_false] at hm; omega) 5 _)⟩) (fun h => absurd rfl h) trivial
              · rintro f wz hR hT
                obtain ⟨p, q, r, hF, hB⟩ := hT 7 rfl (by decide)
                simp only [Reg.mixL, Nat.zero_add, Nat.reduceAdd]
                have hO : okU cb = true := by rw [OK.out]; rfl
                have hUn : unitC cb = scalC cb (fop .quo .f32 one32 (lenC cb)) := by unfold unitC; rw [hO]; rfl
                have MZ : Hid (Mu ca cb cc ub w 2 wz) := Lib.hid ⟨_, _, _, _, _, _, _, _, _, ⟨hB.1, fun b l hm => hB.2 b l (by rcases List.mem_cons.1 hm with e | hm; exact e ▸ .head _; cases hm)⟩, fun _ => K1.out.1 (by decide), fun _ => ⟨hO, by rw [hUn]; exact hF⟩, fun h => absurd h (by decide)⟩
                clear hR hT hF hB hO hUn
                go_wp2
                go_roundw
                case rel => exact ⟨2, by omega, rfl, MZ.out⟩
                case measure => simp [intOf]
            · go_wp2
              go_ret2
              clear y0 y1 y2
              have hF : okU cb = false := by rw [OK.out]; rfl
              refine ⟨⟨0, ?_, ?_⟩, BV1.out.bel⟩
              · rw [hF]; simp
              · rw [hF]; simp [fv_z]
    · obtain ⟨x1, y1, z1, x2, y2, z2, x3, y3, z3, hBu, h1, h2, h3⟩ := MU.out
      have BU := Lib.hid hBu
      have K1 := Lib.hid (And.intro h1 (And.intro h2 h3))
      have BV := Lib.hid (hBu.box (vs := [.float .f32 cx, .float .f32 cy, .float .f32 cz]) (t := 33))
      clear hBu h1 h2 h3 MU
      have hix := ends_2 ax ay az bx by' bz cx cy cz
      have e0 := eq_at cx _ HC'.out.1
      have e1 := eq_at cy _ HC'.out.2.1
      have e2 := eq_at cz _ HC'.out.2.2
      have JF := Lib.hid (fun w => impl_isFiniteVector cx cy cz cc w HC'.out.1 HC'.out.2.1 HC'.out.2.2)
      have OK : Hid (okU cc = (finV cc && !(isZ cc.1 && (isZ cc.2.1 && isZ cc.2.2)))) := Lib.hid rfl
      generalize hf : finV cc = ff at *
      generalize hz0 : isZ cc.1 = i0 at *
      generalize hz1 : isZ cc.2.1 = i1 at *
      generalize hz2 : isZ cc.2.2 = i2 at *
      clear hf hz0 hz1 hz2
      go_wp2_with fail
      clear hix
      change Calls _ _ _ (wr.alloc (.cells [.float .f32 cx, .float .f32 cy, .float .f32 cz].toArray 33)) _
      generalize wr.alloc (.cells [.float .f32 cx, .float .f32 cy, .float .f32 cz].toArray 33) = WV at *
      generalize hvb : wr.heap.size = vb at *
      have HVB : Hid (ub < vb) := Lib.hid (hvb ▸ (BU.out.2 _ _ (.head _)).2.2.1)
      clear hvb BU
      refine (JF.out WV).mono ?_
      rintro e w1 ⟨rfl, hB1⟩
      have BV1 := Lib.hid (BV.out.call hB1)
      clear hB1 BV JF
      have y0 := (BV1.out.mem (.head _)) 0 _ rfl
      have y1 := (BV1.out.mem (.head _)) 1 _ rfl
      have y2 := (BV1.out.mem (.head _)) 2 _ rfl
      cases ff
      · go_wp2
        go_ret2
        clear y0 y1 y2
        have hF : okU cc = false := by rw [OK.out]; rfl
        refine ⟨⟨0, ?_, ?_⟩, BV1.out.bel⟩
        · rw [hF]; simp
        · rw [hF]; simp [fv_z]
      · cases i0
        · go_wp2_with fail
          clear y0 y1 y2
          refine Reg3.wp_region_mix (C := Bx w [(vb, [.float .f32 cx, .float .f32 cy, .float .f32 cz]), (ub, [.float .f32 x1, .float .f32 y1, .float .f32 z1, .float .f32 x2, .float .f32 y2, .float .f32 z2, .float .f32 x3, .float .f32 y3, .float .f32 z3])]) (G := fun _ _ => True) (R := fun i v w' => match i with | 0 => v = .int .i64 (2 : Int) | 1 => v = .agg #[.float .f32 cx, .float .f32 cy, .float .f32 cz] | 2 => v = .agg #[.float .f32 cx, .float .f32 cy, .float .f32 cz] | 3 => ∃ r, v = .float .f32 r ∧ FV .f32 r (lenC cc) | 4 => ∃ r, v = .float .f32 r ∧ FV .f32 r (fop .quo .f32 one32 (lenC cc)) | 5 => ∃ p q r, v = vv p q r ∧ F3 p q r (scalC cc (fop .quo .f32 one32 (lenC cc))) | 6 => v = .pointer (some ⟨ub, 6, none⟩) | _ => True) (T := fun _ _ w' => ∃ p q r, F3 p q r (scalC cc (fop .quo .f32 one32 (lenC cc))) ∧ Bx w [(ub, [.float .f32 x1, .float .f32 y1, .float .f32 z1, .float .f32 x2, .float .f32 y2, .float .f32 z2, .float .f32 p, .float .f32 q, .float .f32 r]), (vb, [.float .f32 cx, .float .f32 cy, .float .f32 cz])] w') [false, false, false, false, false, false, false, false, false, false, false, false, false, false, false, false, false, false, false, false, false, false, false, false, false, false, false, false, true, true, true, true, true, true, true, false, false, false, false]
            (by kernel_rfl) (by kernel_rfl) (by kernel_rfl) (fun _ _ _ _ _ _ h => h) (BV1.out.drewN 1) ?_ ?_
          · refine ⟨Reg3.Obl.mk ?_, Reg3.Obl.mk ?_, Reg3.Obl.mk ?_, Reg3.Obl.mk ?_, Reg3.Obl.mk ?_, Reg3.Obl.mk ?_, Reg3.Obl.mk ?_, Reg3.Obl.mk ?_, trivial⟩
            · rintro a w1 hC hx hd K hK
              have HC := Lib.hid hC
              clear hC
              have t9 : a.tmps[9]?.getD undef = .int .i64 (2 : Int) := Reg.slot_val (hx 9 (by kernel_rfl))
              go_simp
              exact hK _ _ (fun _ => rfl) (fun h => by cases h) (fun _ => HC.out) trivial
            · rintro a w1 hC hx hd K hK
              have HC := Lib.hid hC
              clear hC
              have y00 := (HC.out.mem (.head _)) 0 _ rfl
              have y01 := (HC.out.mem (.head _)) 1 _ rfl
              have y02 := (HC.out.mem (.head _)) 2 _ rfl
              have t10 : a.tmps[10]?.getD undef = .pointer (some ⟨vb, 0, none⟩) := Reg.slot_val (hx 10 (by kernel_rfl))
              go_simp
              exact hK _ _ (fun _ => rfl) (fun h => by cases h) (fun _ => HC.out) trivial
            · rintro a w1 hC hx hd K hK
              have HC := Lib.hid hC
              clear hC
              have y00 := (HC.out.mem (.head _)) 0 _ rfl
              have y01 := (HC.out.mem (.head _)) 1 _ rfl
              have y02 := (HC.out.mem (.head _)) 2 _ rfl
              have t10 : a.tmps[10]?.getD undef = .pointer (some ⟨vb, 0, none⟩) := Reg.slot_val (hx 10 (by kernel_rfl))
              go_simp
              exact hK _ _ (fun _ => rfl) (fun h => by cases h) (fun _ => HC.out) trivial
            · rintro a w1 hC hx hd K hK
              have HC := Lib.hid hC
              clear hC
              have t30 : a.tmps[30]?.getD undef = .agg #[.float .f32 cx, .float .f32 cy, .float .f32 cz] := Reg.slot_val (hd 2 (by kernel_rfl) 30 rfl)
              go_simp
              refine (impl_LongOf _ _ _ _ _ _ _ HC'.out.1 HC'.out.2.1 HC'.out.2.2).mono ?_
              rintro en w2 ⟨r, rfl, hr, hB2⟩
              exact hK _ _ (fun _ => ⟨r, rfl, hr⟩) (fun h => by cases h) (fun _ => HC.out.call hB2) trivial
            · rintro a w1 hC hx hd K hK
              have HC := Lib.hid hC
              clear hC
              obtain ⟨r31, g31, f31⟩ := hd 3 (by kernel_rfl) 31 rfl
              have t31 := Reg.slot_val g31
              clear g31
              go_simp
              exact hK _ _ (fun _ => ⟨_, rfl, FV_fR fv_one32 f31⟩) (fun h => by cases h) (fun _ => HC.out.drewN _) trivial
            · rintro a w1 hC hx hd K hK
              have HC := Lib.hid hC
              clear hC
              have t29 : a.tmps[29]?.getD undef = .agg #[.float .f32 cx, .float .f32 cy, .float .f32 cz] := Reg.slot_val (hd 1 (by kernel_rfl) 29 rfl)
              obtain ⟨r32, g32, f32⟩ := hd 4 (by kernel_rfl) 32 rfl
              have t32 := Reg.slot_val g32
              clear g32
              go_simp
              refine (impl_ScaleVector _ _ _ _ _ _ _ _ _ HC'.out.1 HC'.out.2.1 HC'.out.2.2 f32).mono ?_
              rintro en w2 ⟨p', q', r', rfl, fp', fq', fr', hB2⟩
              exact hK _ _ (fun _ => ⟨p', q', r', rfl, fp', fq', fr'⟩) (fun h => by cases h) (fun _ => HC.out.call hB2) trivial
            · rintro a w1 hC hx hd K hK
              have HC := Lib.hid hC
              clear hC
              have t8 : a.tmps[8]?.getD undef = .pointer (some ⟨ub, 0, none⟩) := Reg.slot_val (hx 8 (by kernel_rfl))
              have t28 : a.tmps[28]?.getD undef = .int .i64 (2 : Int) := Reg.slot_val (hd 0 (by kernel_rfl) 28 rfl)
              go_simp
              exact hK _ _ (fun _ => rfl) (fun h => by cases h) (fun _ => HC.out) trivial
            · rintro a w1 hC hx hd K hK
              have HC := Lib.hid hC
              clear hC
              have q0 := (HC.out.mem (.tail _ (.head _))) 6 _ rfl
              have q1 := (HC.out.mem (.tail _ (.head _))) 7 _ rfl
              have q2 := (HC.out.mem (.tail _ (.head _))) 8 _ rfl
              have k0 := HC.out.free (.tail _ (.head _)) 6
              have k1 := HC.out.free (.tail _ (.head _)) 7
              have k2 := HC.out.free (.tail _ (.head _)) 8
              have hvb := HVB.out
              have t34 : a.tmps[34]?.getD undef = .pointer (some ⟨ub, 6, none⟩) := Reg.slot_val (hd 6 (by kernel_rfl) 34 rfl)
              obtain ⟨p33, q33, r33, g33, f33⟩ := hd 5 (by kernel_rfl) 33 rfl
              have t33 := Reg.slot_val g33
              clear g33
              go_simp
              exact hK undef _ (fun h => absurd rfl h) (fun _ => ⟨_, _, _, f33, (((HC.out.swap.setc (fun b' l' hm => by simp only [List.mem_cons, Prod.mk.injEq, List.not_mem_nil, or_false] at hm; omega) 6 _).setc (fun b' l' hm => by simp only [List.mem_cons, Prod.mk.injEq, List.not_mem_nil, or_false] at hm; omega) 7 _).setc (fun b' l' hm => by simp only [List.mem_cons, Prod.mk.injEq, List.not_mem_nil, or_false] at hm; omega) 8 _)⟩) (fun h => absurd rfl h) trivial
          · rintro f wz hR hT
            obtain ⟨p, q, r, hF, hB⟩ := hT 7 rfl (by decide)
            simp only [Reg.mixL, Nat.zero_add, Nat.reduceAdd]
            have hO : okU cc = true := by rw [OK.out]; rfl
            have hUn : unitC cc = scalC cc (fop .quo .f32 one32 (lenC cc)) := by unfold unitC; rw [hO]; rfl
            have MZ : Hid (Mu ca cb cc ub w 3 wz) := Lib.hid ⟨_, _, _, _, _, _, _, _, _, ⟨hB.1, fun b l hm => hB.2 b l (by rcases List.mem_cons.1 hm with e | hm; exact e ▸ .head _; cases hm)⟩, fun _ => K1.out.1 (by decide), fun _ => K1.out.2.1 (by decide), fun _ => ⟨hO, by rw [hUn]; exact hF⟩⟩
            clear hR hT hF hB hO hUn
            go_wp2
            go_roundw
            case rel => exact ⟨3, by omega, rfl, MZ.out⟩
            case measure => simp [intOf]
        · cases i1
          · go_wp2_with fail
            clear y0 y1 y2
            refine Reg3.wp_region_mix (C := Bx w [(vb, [.float .f32 cx, .float .f32 cy, .float .f32 cz]), (ub, [.float .f32 x1, .float .f32 y1, .float .f32 z1, .float .f32 x2, .float .f32 y2, .float .f32 z2, .float .f32 x3, .float .f32 y3, .float .f32 z3])]) (G := fun _ _ => True) (R := fun i v w' => match i with | 0 => v = .int .i64 (2 : Int) | 1 => v = .agg #[.float .f32 cx, .float .f32 cy, .float .f32 cz] | 2 => v = .agg #[.float .f32 cx, .float .f32 cy, .float .f32 cz] | 3 => ∃ r, v = .float .f32 r ∧ FV .f32 r (lenC cc) | 4 => ∃ r, v = .float .f32 r ∧ FV .f32 r (fop .quo .f32 one32 (lenC cc)) | 5 => ∃ p q r, v = vv p q r ∧ F3 p q r (scalC cc (fop .quo .f32 one32 (lenC cc))) | 6 => v = .pointer (some ⟨ub, 6, none⟩) | _ => True) (T := fun _ _ w' => ∃ p q r, F3 p q r (scalC cc (fop .quo .f32 one32 (lenC cc))) ∧ Bx w [(ub, [.float .f32 x1, .float .f32 y1, .float .f32 z1, .float .f32 x2, .float .f32 y2, .float .f32 z2, .float .f32 p, .float .f32 q, .float .f32 r]), (vb, [.float .f32 cx, .float .f32 cy, .float .f32 cz])] w') [false, false, false, false, false, false, false, false, false, false, false, false, false, false, false, false, false, false, false, false, false, false, false, false, false, false, false, false, true, true, true, true, true, true, true, false, false, false, false]
              (by kernel_rfl) (by kernel_rfl) (by kernel_rfl) (fun _ _ _ _ _ _ h => h) (BV1.out.drewN 1) ?_ ?_
            · refine ⟨Reg3.Obl.mk ?_, Reg3.Obl.mk ?_, Reg3.Obl.mk ?_, Reg3.Obl.mk ?_, Reg3.Obl.mk ?_, Reg3.Obl.mk ?_, Reg3.Obl.mk ?_, Reg3.Obl.mk ?_, trivial⟩
              · rintro a w1 hC hx hd K hK
                have HC := Lib.hid hC
                clear hC
                have t9 : a.tmps[9]?.getD undef = .int .i64 (2 : Int) := Reg.slot_val (hx 9 (by kernel_rfl))
                go_simp
                exact hK _ _ (fun _ => rfl) (fun h => by cases h) (fun _ => HC.out) trivial
              · rintro a w1 hC hx hd K hK
                have HC := Lib.hid hC
                clear hC
                have y00 := (HC.out.mem (.head _)) 0 _ rfl
                have y01 := (HC.out.mem (.head _)) 1 _ rfl
                have y02 := (HC.out.mem (.head _)) 2 _ rfl
                have t10 : a.tmps[10]?.getD undef = .pointer (some ⟨vb, 0, none⟩) := Reg.slot_val (hx 10 (by kernel_rfl))
                go_simp
                exact hK _ _ (fun _ => rfl) (fun h => by cases h) (fun _ => HC.out) trivial
              · rintro a w1 hC hx hd K hK
                have HC := Lib.hid hC
                clear hC
                have y00 := (HC.out.mem (.head _)) 0 _ rfl
                have y01 := (HC.out.mem (.head _)) 1 _ rfl
                have y02 := (HC.out.mem (.head _)) 2 _ rfl
                have t10 : a.tmps[10]?.getD undef = .pointer (some ⟨vb, 0, none⟩) := Reg.slot_val (hx 10 (by kernel_rfl))
                go_simp
                exact hK _ _ (fun _ => rfl) (fun h => by cases h) (fun _ => HC.out) trivial
              · rintro a w1 hC hx hd K hK
                have HC := Lib.hid hC
                clear hC
                have t30 : a.tmps[30]?.getD undef = .agg #[.float .f32 cx, .float .f32 cy, .float .f32 cz] := Reg.slot_val (hd 2 (by kernel_rfl) 30 rfl)
                go_simp
                refine (impl_LongOf _ _ _ _ _ _ _ HC'.out.1 HC'.out.2.1 HC'.out.2.2).mono ?_
                rintro en w2 ⟨r, rfl, hr, hB2⟩
                exact hK _ _ (fun _ => ⟨r, rfl, hr⟩) (fun h => by cases h) (fun _ => HC.out.call hB2) trivial
              · rintro a w1 hC hx hd K hK
                have HC := Lib.hid hC
                clear hC
                obtain ⟨r31, g31, f31⟩ := hd 3 (by kernel_rfl) 31 rfl
                have t31 := Reg.slot_val g31
                clear g31
                go_simp
                exact hK _ _ (fun _ => ⟨_, rfl, FV_fR fv_one32 f31⟩) (fun h => by cases h) (fun _ => HC.out.drewN _) trivial
              · rintro a w1 hC hx hd K hK
                have HC := Lib.hid hC
                clear hC
                have t29 : a.tmps[29]?.getD undef = .agg #[.float .f32 cx, .float .f32 cy, .float .f32 cz] := Reg.slot_val (hd 1 (by kernel_rfl) 29 rfl)
                obtain ⟨r32, g32, f32⟩ := hd 4 (by kernel_rfl) 32 rfl
                have t32 := Reg.slot_val g32
                clear g32
                go_simp
                refine (impl_ScaleVector _ _ _ _ _ _ _ _ _ HC'.out.1 HC'.out.2.1 HC'.out.2.2 f32).mono ?_
                rintro en w2 ⟨p', q', r', rfl, fp', fq', fr', hB2⟩
                exact hK _ _ (fun _ => ⟨p', q', r', rfl, fp', fq', fr'⟩) (fun h => by cases h) (fun _ => HC.out.call hB2) trivial
              · rintro a w1 hC hx hd K hK
                have HC := Lib.hid hC
                clear hC
                have t8 : a.tmps[8]?.getD undef = .pointer (some ⟨ub, 0, none⟩) := Reg.slot_val (hx 8 (by kernel_rfl))
                have t28 : a.tmps[28]?.getD undef = .int .i64 (2 : Int) := Reg.slot_val (hd 0 (by kernel_rfl) 28 rfl)
                go_simp
                exact hK _ _ (fun _ => rfl) (fun h => by cases h) (fun _ => HC.out) trivial
              · rintro a w1 hC hx hd K hK
                have HC := Lib.hid hC
                clear hC
                have q0 := (HC.out.mem (.tail _ (.head _))) 6 _ rfl
                have q1 := (HC.out.mem (.tail _ (.head _))) 7 _ rfl
                have q2 := (HC.out.mem (.tail _ (.head _))) 8 _ rfl
                have k0 := HC.out.free (.tail _ (.head _)) 6
                have k1 := HC.out.free (.tail _ (.head _)) 7
                have k2 := HC.out.free (.tail _ (.head _)) 8
                have hvb := HVB.out
                have t34 : a.tmps[34]?.getD undef = .pointer (some ⟨ub, 6, none⟩) := Reg.slot_val (hd 6 (by kernel_rfl) 34 rfl)
                obtain ⟨p33, q33, r33, g33, f33⟩ := hd 5 (by kernel_rfl) 33 rfl
                have t33 := Reg.slot_val g33
                clear g33
                go_simp
                exact hK undef _ (fun h => absurd rfl h) (fun _ => ⟨_, _, _, f33, (((HC.out.swap.setc (fun b' l' hm => by simp only [List.mem_cons, Prod.mk.injEq, List.not_mem_nil, or_false] at hm; omega) 6 _).setc (fun b' l' hm => by simp only [List.mem_cons, Prod.mk.injEq, List.not_mem_nil, or_false] at hm; omega) 7 _).setc (fun b' l' hm => by simp only [List.mem_cons, Prod.mk.injEq, List.not_mem_nil, or_false] at hm; omega) 8 _)⟩) (fun h => absurd rfl h) trivial
            · rintro f wz hR hT
              obtain ⟨p, q, r, hF, hB⟩ := hT 7 rfl (by decide)
              simp only [Reg.mixL, Nat.zero_add, Nat.reduceAdd]
              have hO : okU cc = true := by rw [OK.out]; rfl
              have hUn : unitC cc = scalC cc (fop .quo .f32 one32 (lenC cc)) := by unfold unitC; rw [hO]; rfl
              have MZ : Hid (Mu ca cb cc ub w 3 wz) := Lib.hid ⟨_, _, _, _, _, _, _, _, _, ⟨hB.1, fun b l hm => hB.2 b l (by rcases List.mem_cons.1 hm with e | hm; exact e ▸ .head _; cases hm)⟩, fun _ => K1.out.1 (by decide), fun _ => K1.out.2.1 (by decide), fun _ => ⟨hO, by rw [hUn]; exact hF⟩⟩
              clear hR hT hF hB hO hUn
              go_wp2
              go_roundw
              case rel => exact ⟨3, by omega, rfl, MZ.out⟩
              case measure => simp [intOf]
          · cases i2
            · go_wp2_with fail
              clear y0 y1 y2
              refine Reg3.wp_region_mix (C := Bx w [(vb, [.float .f32 cx, .float .f32 cy, .float .f32 cz]), (ub, [.float .f32 x1, .float .f32 y1, .float .f32 z1, .float .f32 x2, .float .f32 y2, .float .f32 z2, .float .f32 x3, .float .f32 y3, .float .f32 z3])]) (G := fun _ _ => True) (R := fun i v w' => match i with | 0 => v = .int .i64 (2 : Int) | 1 => v = .agg #[.float .f32 cx, .float .f32 cy, .float .f32 cz] | 2 => v = .agg #[.float .f32 cx, .float .f32 cy, .float .f32 cz] | 3 => ∃ r, v = .float .f32 r ∧ FV .f32 r (lenC cc) | 4 => ∃ r, v = .float .f32 r ∧ FV .f32 r (fop .quo .f32 one32 (lenC cc)) | 5 => ∃ p q r, v = vv p q r ∧ F3 p q r (scalC cc (fop .quo .f32 one32 (lenC cc))) | 6 => v = .pointer (some ⟨ub, 6, none⟩) | _ => True) (T := fun _ _ w' => ∃ p q r, F3 p q r (scalC cc (fop .quo .f32 one32 (lenC cc))) ∧ Bx w [(ub, [.float .f32 x1, .float .f32 y1, .float .f32 z1, .float .f32 x2, .float .f32 y2, .float .f32 z2, .float .f32 p, .float .f32 q, .float .f32 r]), (vb, [.float .f32 cx, .float .f32 cy, .float .f32 cz])] w') [false, false, false, false, false, false, false, false, false, false, false, false, false, false, false, false, false, false, false, false, false, false, false, false, false, false, false, false, true, true, true, true, true, true, true, false, false, false, false]
                (by kernel_rfl) (by kernel_rfl) (by kernel_rfl) (fun _ _ _ _ _ _ h => h) (BV1.out.drewN 1) ?_ ?_
              · refine ⟨Reg3.Obl.mk ?_, Reg3.Obl.mk ?_, Reg3.Obl.mk ?_, Reg3.Obl.mk ?_, Reg3.Obl.mk ?_, Reg3.Obl.mk ?_, Reg3.Obl.mk ?_, Reg3.Obl.mk ?_, trivial⟩
                · rintro a w1 hC hx hd K hK
                  have HC := Lib.hid hC
                  clear hC
                  have t9 : a.tmps[9]?.getD undef = .int .i64 (2 : Int) := Reg.slot_val (hx 9 (by kernel_rfl))
                  go_simp
                  exact hK _ _ (fun _ => rfl) (fun h => by cases h) (fun _ => HC.out) trivial
                · rintro a w1 hC hx hd K hK
                  have HC := Lib.hid hC
                  clear hC
                  have y00 := (HC.out.mem (.head _)) 0 _ rfl
                  have y01 := (HC.out.mem (.head _)) 1 _ rfl
                  have y02 := (HC.out.mem (.head _)) 2 _ rfl
                  have t10 : a.tmps[10]?.getD undef = .pointer (some ⟨vb, 0, none⟩) := Reg.slot_val (hx 10 (by kernel_rfl))
                  go_simp
                  exact hK _ _ (fun _ => rfl) (fun h => by cases h) (fun _ => HC.out) trivial
                · rintro a w1 hC hx hd K hK
                  have HC := Lib.hid hC
                  clear hC
                  have y00 := (HC.out.mem (.head _)) 0 _ rfl
                  have y01 := (HC.out.mem (.head _)) 1 _ rfl
                  have y02 := (HC.out.mem (.head _)) 2 _ rfl
                  have t10 : a.tmps[10]?.getD undef = .pointer (some ⟨vb, 0, none⟩) := Reg.slot_val (hx 10 (by kernel_rfl))
                  go_simp
                  exact hK _ _ (fun _ => rfl) (fun h => by cases h) (fun _ => HC.out) trivial
                · rintro a w1 hC hx hd K hK
                  have HC := Lib.hid hC
                  clear hC
                  have t30 : a.tmps[30]?.getD undef = .agg #[.float .f32 cx, .float .f32 cy, .float .f32 cz] := Reg.slot_val (hd 2 (by kernel_rfl) 30 rfl)
                  go_simp
                  refine (impl_LongOf _ _ _ _ _ _ _ HC'.out.1 HC'.out.2.1 HC'.out.2.2).mono ?_
                  rintro en w2 ⟨r, rfl, hr, hB2⟩
                  exact hK _ _ (fun _ => ⟨r, rfl, hr⟩) (fun h => by cases h) (fun _ => HC.out.call hB2) trivial
                · rintro a w1 hC hx hd K hK
                  have HC := Lib.hid hC
                  clear hC
                  obtain ⟨r31, g31, f31⟩ := hd 3 (by kernel_rfl) 31 rfl
                  have t31 := Reg.slot_val g31
                  clear g31
                  go_simp
                  exact hK _ _ (fun _ => ⟨_, rfl, FV_fR fv_one32 f31⟩) (fun h => by cases h) (fun _ => HC.out.drewN _) trivial
                · rintro a w1 hC hx hd K hK
                  have HC := Lib.hid hC
                  clear hC
                  have t29 : a.tmps[29]?.getD undef = .agg #[.float .f32 cx, .float .f32 cy, .float .f32 cz] := Reg.slot_val (hd 1 (by kernel_rfl) 29 rfl)
                  obtain ⟨r32, g32, f32⟩ := hd 4 (by kernel_rfl) 32 rfl
                  have t32 := Reg.slot_val g32
                  clear g32
                  go_simp
                  refine (impl_ScaleVector _ _ _ _ _ _ _ _ _ HC'.out.1 HC'.out.2.1 HC'.out.2.2 f32).mono ?_
                  rintro en w2 ⟨p', q', r', rfl, fp', fq', fr', hB2⟩
                  exact hK _ _ (fun _ => ⟨p', q', r', rfl, fp', fq', fr'⟩) (fun h => by cases h) (fun _ => HC.out.call hB2) trivial
                · rintro a w1 hC hx hd K hK
                  have HC := Lib.hid hC
                  clear hC
                  have t8 : a.tmps[8]?.getD undef = .pointer (some ⟨ub, 0, none⟩) := Reg.slot_val (hx 8 (by kernel_rfl))
                  have t28 : a.tmps[28]?.getD undef = .int .i64 (2 : Int) := Reg.slot_val (hd 0 (by kernel_rfl) 28 rfl)
                  go_simp
                  exact hK _ _ (fun _ => rfl) (fun h => by cases h) (fun _ => HC.out) trivial
                · rintro a w1 hC hx hd K hK
                  have HC := Lib.hid hC
                  clear hC
                  have q0 := (HC.out.mem (.tail _ (.head _))) 6 _ rfl
                  have q1 := (HC.out.mem (.tail _ (.head _))) 7 _ rfl
                  have q2 := (HC.out.mem (.tail _ (.head _))) 8 _ rfl
                  have k0 := HC.out.free (.tail _ (.head _)) 6
                  have k1 := HC.out.free (.tail _ (.head _)) 7
                  have k2 := HC.out.free (.tail _ (.head _)) 8
                  have hvb := HVB.out
                  have t34 : a.tmps[34]?.getD undef = .pointer (some ⟨ub, 6, none⟩) := Reg.slot_val (hd 6 (by kernel_rfl) 34 rfl)
                  obtain ⟨p33, q33, r33, g33, f33⟩ := hd 5 (by kernel_rfl) 33 rfl
                  have t33 := Reg.slot_val g33
                  clear g33
                  go_simp
                  exact hK undef _ (fun h => absurd rfl h) (fun _ => ⟨_, _, _, f33, (((HC.out.swap.setc (fun b' l' hm => by simp only [List.mem_cons, Prod.mk.injEq, List.not_mem_nil, or_false] at hm; omega) 6 _).setc (fun b' l' hm => by simp only [List.mem_cons, Prod.mk.injEq, List.not_mem_nil, or_false] at hm; omega) 7 _).setc (fun b' l' hm => by simp only [List.mem_cons, Prod.mk.injEq, List.not_mem_nil, or_false] at hm; omega) 8 _)⟩) (fun h => absurd rfl h) trivial
              · rintro f wz hR hT
                obtain ⟨p, q, r, hF, hB⟩ := hT 7 rfl (by decide)
                simp only [Reg.mixL, Nat.zero_add, Nat.reduceAdd]
                have hO : okU cc = true := by rw [OK.out]; rfl
                have hUn : unitC cc = scalC cc (fop .quo .f32 one32 (lenC cc)) := by unfold unitC; rw [hO]; rfl
                have MZ : Hid (Mu ca cb cc ub w 3 wz) := Lib.hid ⟨_, _, _, _, _, _, _, _, _, ⟨hB.1, fun b l hm => hB.2 b l (by rcases List.mem_cons.1 hm with e | hm; exact e ▸ .head _; cases hm)⟩, fun _ => K1.out.1 (by decide), fun _ => K1.out.2.1 (by decide), fun _ => ⟨hO, by rw [hUn]; exact hF⟩⟩
                clear hR hT hF hB hO hUn
                go_wp2
                go_roundw
                case rel => exact ⟨3, by omega, rfl, MZ.out⟩
                case measure => simp [intOf]
            · go_wp2
              go_ret2
              clear y0 y1 y2
              have hF : okU cc = false := by rw [OK.out]; rfl
              refine ⟨⟨0, ?_, ?_⟩, BV1.out.bel⟩
              · rw [hF]; simp
              · rw [hF]; simp [fv_z]
    · obtain ⟨x1, y1, z1, x2, y2, z2, x3, y3, z3, hBu, h1, h2, h3⟩ := MU.out
      obtain ⟨o1, f1⟩ := h1 (by decide)
      obtain ⟨o2, f2⟩ := h2 (by decide)
      obtain ⟨o3, f3⟩ := h3 (by decide)
      have BU := Lib.hid hBu
      have JS := Lib.hid (fun w => impl_sum x1 y1 z1 x2 y2 z2 x3 y3 z3 _ _ _ w f1 f2 f3)
      have OO := Lib.hid (And.intro o1 (And.intro o2 o3))
      clear hBu h1 h2 h3 MU o1 o2 o3 f1 f2 f3
      have y0' := (BU.out.mem (.head _)) 0 _ rfl
      have y1' := (BU.out.mem (.head _)) 1 _ rfl
      have y2' := (BU.out.mem (.head _)) 2 _ rfl
      have y3' := (BU.out.mem (.head _)) 3 _ rfl
      have y4' := (BU.out.mem (.head _)) 4 _ rfl
      have y5' := (BU.out.mem (.head _)) 5 _ rfl
      have y6' := (BU.out.mem (.head _)) 6 _ rfl
      have y7' := (BU.out.mem (.head _)) 7 _ rfl
      have y8' := (BU.out.mem (.head _)) 8 _ rfl
      go_wp2_with fail
      clear y0' y1' y2' y3' y4' y5' y6' y7' y8'
      refine (JS.out wr).mono ?_
      rintro e w1 ⟨p, q, r, rfl, hF, hB1⟩
      have BU1 := Lib.hid (BU.out.call hB1)
      have F := Lib.hid hF
      clear hB1 hF JS
      go_wp2_with fail
      refine (impl_LongOf _ _ _ _ _ _ _ F.out.1 F.out.2.1 F.out.2.2).mono ?_
      rintro e w2 ⟨l, rfl, fl, hB2⟩
      have BU2 := Lib.hid (BU1.out.call hB2)
      have FL := Lib.hid (show FV .f32 l (lenC (plusC (plusC (unitC ca) (unitC cb)) (unitC cc))) from fl)
      clear hB2 fl
      go_wp2
      go_ret2
      refine ⟨⟨l, ?_, ?_⟩, BU2.out.bel⟩
      · rw [OO.out.1, OO.out.2.1, OO.out.2.2]; rfl
      · rw [OO.out.1, OO.out.2.1, OO.out.2.2]; exact FL.out
end Go.Proofs.Ytcgnmnbjgamedaa


/-
Where three paths meet: what the program returns. Conditions: none beyond that the words fit.
-/
import Derived.Test.YtcgnmnbjgamedaaMpA
namespace Go.Proofs.Ytcgnmnbjgamedaa
open Go Fk Go.RowKit
set_option linter.unusedVariables false
set_option maxRecDepth 16000

def thirdK : Option Nat := cls .f32 1051372203
theorem fv_thirdK : FV .f32 1051372203 thirdK := ⟨by decide, rfl⟩
def walkC (a b c : C3) : Nat → C3 → C3
  | 0, p => p
  | n + 1, p => bif okP p a b c then walkC a b c n (moveC p a b c) else p
def startC (a b c : C3) : C3 := scalC (plusC (plusC a b) c) thirdK
def okMP (a b c : C3) (z : Int) : Bool := finV a && (finV b && (finV c && decide (0 ≤ z ∧ z ≤ 100)))
def pointC (a b c : C3) (z : Int) : C3 := bif okMP a b c z then walkC a b c z.toNat (startC a b c) else (some 0, some 0, some 0)
theorem walk_step {a b c p : C3} {n k : Nat} (h : k < n) : walkC a b c (n - k) p = bif okP p a b c then walkC a b c (n - (k + 1)) (moveC p a b c) else p := by
  rw [show n - k = (n - (k + 1)) + 1 by omega]
  rfl
theorem walk_end {a b c p : C3} {n k : Nat} (h : ¬ k < n) (hk : k ≤ n) : walkC a b c (n - k) p = p := by
  rw [show n - k = 0 by omega]
  rfl
theorem clos_ok {p a b c : C3} (h : okP p a b c = true) : closC p a b c = moveC p a b c := by unfold closC; rw [h]; rfl
/-- The point so far. -/
def Mq (a b c E : C3) (xs : List Value) (n pt eb rb : Nat) (w : World) (k : Nat) (w' : World) : Prop := ∃ x y z cp, Bx w [(pt, [.float .f32 x, .float .f32 y, .float .f32 z]), (eb, xs), (rb, [.float .f32 0, .float .f32 0, .float .f32 0])] w' ∧ F3 x y z cp ∧ walkC a b c (n - k) cp = E
set_option maxHeartbeats 16000000 in
theorem impl_MeetPoint (ax ay az bx by' bz cx cy cz : Nat) (z : Int) (a b c : C3) (w : World) (ha : F3 ax ay az a) (hb : F3 bx by' bz b) (hc : F3 cx cy cz c) :
    Calls Try.prog 30 #[vv ax ay az, vv bx by' bz, vv cx cy cz, .int .i64 z] w fun e w' => (∃ x y t, e = .returned (.tuple #[vv x y t, .bool (okMP a b c z)]) ∧ F3 x y t (pointC a b c z)) ∧ Below w.heap.size w w' := by
  have u := Try.underlying22
  have uv := Try.underlying33
  have ue := Try.underlying63
  have HA := Lib.hid ha
  have HB := Lib.hid hb
  have HC' := Lib.hid hc
  have bx1 := (Bx.nil w).box (vs := [.float .f32 ax, .float .f32 ay, .float .f32 az]) (t := 33)
  have bx2 := bx1.box (vs := [.float .f32 bx, .float .f32 by', .float .f32 bz]) (t := 33)
  have bx3 := bx2.box (vs := [.float .f32 cx, .float .f32 cy, .float .f32 cz]) (t := 33)
  have bx4 := bx3.box (vs := [.float .f32 0, .float .f32 0, .float .f32 0]) (t := 33)
  have BX := Lib.hid bx4
  simp at BX
  have JF1 := Lib.hid (fun w => impl_isFiniteVector ax ay az a w HA.out.1 HA.out.2.1 HA.out.2.2)
  have JF2 := Lib.hid (fun w => impl_isFiniteVector bx by' bz b w HB.out.1 HB.out.2.1 HB.out.2.2)
  have JF3 := Lib.hid (fun w => impl_isFiniteVector cx cy cz c w HC'.out.1 HC'.out.2.1 HC'.out.2.2)
  have OKP : Hid (okMP a b c z = (finV a && (finV b && (finV c && decide (0 ≤ z ∧ z ≤ 100))))) := Lib.hid rfl
  generalize hf1 : finV a = i1 at *
  generalize hf2 : finV b = i2 at *
  generalize hf3 : finV c = i3 at *
  clear bx1 bx2 bx3 bx4 ha hb hc hf1 hf2 hf3
  go_enter Try.func30, Try.ntmps30
  go_wp2_with fail
  generalize (((w.alloc (.cells #[.float .f32 ax, .float .f32 ay, .float .f32 az] 33)).alloc (.cells #[.float .f32 bx, .float .f32 by', .float .f32 bz] 33)).alloc (.cells #[.float .f32 cx, .float .f32 cy, .float .f32 cz] 33)).alloc (.cells #[.float .f32 0, .float .f32 0, .float .f32 0] 33) = W at *
  refine (JF1.out W).mono ?_
  rintro e w1 ⟨rfl, hB1⟩
  have BX1 := Lib.hid (BX.out.call hB1)
  clear hB1 BX JF1
  cases i1
  · have q0 := (BX1.out.mem (.head _)) 0 _ rfl
    have q1 := (BX1.out.mem (.head _)) 1 _ rfl
    have q2 := (BX1.out.mem (.head _)) 2 _ rfl
    have k0 := BX1.out.free (.head _) 0
    have k1 := BX1.out.free (.head _) 1
    have k2 := BX1.out.free (.head _) 2
    have BS := Lib.hid (BX1.out.put3 (fun b' l' hm => by simp only [List.mem_cons, Prod.mk.injEq, List.not_mem_nil, or_false] at hm; omega) (.float .f32 0) (.float .f32 0) (.float .f32 0))
    go_wp2
    clear q0 q1 q2 k0 k1 k2
    have m0 := (BS.out.mem (.head _)) 0 _ rfl
    have m1 := (BS.out.mem (.head _)) 1 _ rfl
    have m2 := (BS.out.mem (.head _)) 2 _ rfl
    refine bodyPost_ret (v := .tuple #[vv 0 0 0, .bool false]) (by simp [results, Try.results30, go_sem, m0, m1, m2]) rfl ?_
    have ho : okMP a b c z = false := by
      rw [OKP.out]; rfl
    refine ⟨⟨0, 0, 0, by rw [ho], ?_⟩, BS.out.bel⟩
    unfold pointC
    rw [ho]
    exact ⟨fv_z, fv_z, fv_z⟩
  · have y0 := (BX1.out.mem (.tail _ (.tail _ (.head _)))) 0 _ rfl
    have y1 := (BX1.out.mem (.tail _ (.tail _ (.head _)))) 1 _ rfl
    have y2 := (BX1.out.mem (.tail _ (.tail _ (.head _)))) 2 _ rfl
    go_wp2_with fail
    clear y0 y1 y2
    refine (JF2.out w1).mono ?_
    rintro e w2 ⟨rfl, hB2⟩
    have BX2 := Lib.hid (BX1.out.call hB2)
    clear hB2 BX1 JF2
    cases i2
    · have q0 := (BX2.out.mem (.head _)) 0 _ rfl
      have q1 := (BX2.out.mem (.head _)) 1 _ rfl
      have q2 := (BX2.out.mem (.head _)) 2 _ rfl
      have k0 := BX2.out.free (.head _) 0
      have k1 := BX2.out.free (.head _) 1
      have k2 := BX2.out.free (.head _) 2
      have BS := Lib.hid (BX2.out.put3 (fun b' l' hm => by simp only [List.mem_cons, Prod.mk.injEq, List.not_mem_nil, or_false] at hm; omega) (.float .f32 0) (.float .f32 0) (.float .f32 0))
      go_wp2
      clear q0 q1 q2 k0 k1 k2
      have m0 := (BS.out.mem (.head _)) 0 _ rfl
      have m1 := (BS.out.mem (.head _)) 1 _ rfl
      have m2 := (BS.out.mem (.head _)) 2 _ rfl
      refine bodyPost_ret (v := .tuple #[vv 0 0 0, .bool false]) (by simp [results, Try.results30, go_sem, m0, m1, m2]) rfl ?_
      have ho : okMP a b c z = false := by
        rw [OKP.out]; simp
      refine ⟨⟨0, 0, 0, by rw [ho], ?_⟩, BS.out.bel⟩
      unfold pointC
      rw [ho]
      exact ⟨fv_z, fv_z, fv_z⟩
    · have y0 := (BX2.out.mem (.tail _ (.head _))) 0 _ rfl
      have y1 := (BX2.out.mem (.tail _ (.head _))) 1 _ rfl
      have y2 := (BX2.out.mem (.tail _ (.head _))) 2 _ rfl
      go_wp2_with fail
      clear y0 y1 y2
      refine (JF3.out w2).mono ?_
      rintro e w3 ⟨rfl, hB3⟩
      have BX3 := Lib.hid (BX2.out.call hB3)
      clear hB3 BX2 JF3
      cases i3
      · have q0 := (BX3.out.mem (.head _)) 0 _ rfl
        have q1 := (BX3.out.mem (.head _)) 1 _ rfl
        have q2 := (BX3.out.mem (.head _)) 2 _ rfl
        have k0 := BX3.out.free (.head _) 0
        have k1 := BX3.out.free (.head _) 1
        have k2 := BX3.out.free (.head _) 2
        have BS := Lib.hid (BX3.out.put3 (fun b' l' hm => by simp only [List.mem_cons, Prod.mk.injEq, List.not_mem_nil, or_false] at hm; omega) (.float .f32 0) (.float .f32 0) (.float .f32 0))
        go_wp2
        clear q0 q1 q2 k0 k1 k2
        have m0 := (BS.out.mem (.head _)) 0 _ rfl
        have m1 := (BS.out.mem (.head _)) 1 _ rfl
        have m2 := (BS.out.mem (.head _)) 2 _ rfl
        refine bodyPost_ret (v := .tuple #[vv 0 0 0, .bool false]) (by simp [results, Try.results30, go_sem, m0, m1, m2]) rfl ?_
        have ho : okMP a b c z = false := by
          rw [OKP.out]; simp
        refine ⟨⟨0, 0, 0, by rw [ho], ?_⟩, BS.out.bel⟩
        unfold pointC
        rw [ho]
        exact ⟨fv_z, fv_z, fv_z⟩
      · by_cases hz0 : z < 0
        · have q0 := (BX3.out.mem (.head _)) 0 _ rfl
          have q1 := (BX3.out.mem (.head _)) 1 _ rfl
          have q2 := (BX3.out.mem (.head _)) 2 _ rfl
          have k0 := BX3.out.free (.head _) 0
          have k1 := BX3.out.free (.head _) 1
          have k2 := BX3.out.free (.head _) 2
          have BS := Lib.hid (BX3.out.put3 (fun b' l' hm => by simp only [List.mem_cons, Prod.mk.injEq, List.not_mem_nil, or_false] at hm; omega) (.float .f32 0) (.float .f32 0) (.float .f32 0))
          go_wp2
          clear q0 q1 q2 k0 k1 k2
          have m0 := (BS.out.mem (.head _)) 0 _ rfl
          have m1 := (BS.out.mem (.head _)) 1 _ rfl
          have m2 := (BS.out.mem (.head _)) 2 _ rfl
          refine bodyPost_ret (v := .tuple #[vv 0 0 0, .bool false]) (by simp [results, Try.results30, go_sem, m0, m1, m2]) rfl ?_
          have ho : okMP a b c z = false := by
            rw [OKP.out, decide_eq_false (by omega)]; rfl
          refine ⟨⟨0, 0, 0, by rw [ho], ?_⟩, BS.out.bel⟩
          unfold pointC
          rw [ho]
          exact ⟨fv_z, fv_z, fv_z⟩
        · by_cases hz2 : 100 < z
          · have q0 := (BX3.out.mem (.head _)) 0 _ rfl
            have q1 := (BX3.out.mem (.head _)) 1 _ rfl
            have q2 := (BX3.out.mem (.head _)) 2 _ rfl
            have k0 := BX3.out.free (.head _) 0
            have k1 := BX3.out.free (.head _) 1
            have k2 := BX3.out.free (.head _) 2
            have BS := Lib.hid (BX3.out.put3 (fun b' l' hm => by simp only [List.mem_cons, Prod.mk.injEq, List.not_mem_nil, or_false] at hm; omega) (.float .f32 0) (.float .f32 0) (.float .f32 0))
            go_wp2
            clear q0 q1 q2 k0 k1 k2
            have m0 := (BS.out.mem (.head _)) 0 _ rfl
            have m1 := (BS.out.mem (.head _)) 1 _ rfl
            have m2 := (BS.out.mem (.head _)) 2 _ rfl
            refine bodyPost_ret (v := .tuple #[vv 0 0 0, .bool false]) (by simp [results, Try.results30, go_sem, m0, m1, m2]) rfl ?_
            have ho : okMP a b c z = false := by
              rw [OKP.out, decide_eq_false (by omega)]; rfl
            refine ⟨⟨0, 0, 0, by rw [ho], ?_⟩, BS.out.bel⟩
            unfold pointC
            rw [ho]
            exact ⟨fv_z, fv_z, fv_z⟩
          · obtain ⟨n, rfl⟩ : ∃ n : Nat, z = n := ⟨z.toNat, by omega⟩
            have OKT : Hid (okMP a b c (n : Int) = true) := Lib.hid (by rw [OKP.out, decide_eq_true (by omega)]; rfl)
            have PT : Hid (pointC a b c (n : Int) = walkC a b c n (startC a b c)) := Lib.hid (by unfold pointC; rw [OKT.out]; rfl)
            clear OKP
            have hz1 : ¬ (n : Int) < 0 := by omega
            have hz2 : ¬ (100 : Int) < (n : Int) := by omega
            have ya0 := (BX3.out.mem (.tail _ (.tail _ (.tail _ (.head _))))) 0 _ rfl
            have ya1 := (BX3.out.mem (.tail _ (.tail _ (.tail _ (.head _))))) 1 _ rfl
            have ya2 := (BX3.out.mem (.tail _ (.tail _ (.tail _ (.head _))))) 2 _ rfl
            have yb0 := (BX3.out.mem (.tail _ (.tail _ (.head _)))) 0 _ rfl
            have yb1 := (BX3.out.mem (.tail _ (.tail _ (.head _)))) 1 _ rfl
            have yb2 := (BX3.out.mem (.tail _ (.tail _ (.head _)))) 2 _ rfl
            have yc0 := (BX3.out.mem (.tail _ (.head _))) 0 _ rfl
            have yc1 := (BX3.out.mem (.tail _ (.head _))) 1 _ rfl
            have yc2 := (BX3.out.mem (.tail _ (.head _))) 2 _ rfl
            have BE := Lib.hid (BX3.out.box (vs := [.float .f32 ax, .float .f32 ay, .float .f32 az, .float .f32 bx, .float .f32 by', .float .f32 bz, .float .f32 cx, .float .f32 cy, .float .f32 cz]) (t := 63))
            have EB : Hid (w.heap.size + 1 + 1 + 1 < w3.heap.size) := Lib.hid (BX3.out.2 _ _ (.head _)).2.2.1
            go_wp2_with fail
            clear ya0 ya1 ya2 yb0 yb1 yb2 yc0 yc1 yc2 BX3
            change Calls _ _ _ (w3.alloc (.cells [.float .f32 ax, .float .f32 ay, .float .f32 az, .float .f32 bx, .float .f32 by', .float .f32 bz, .float .f32 cx, .float .f32 cy, .float .f32 cz].toArray 63)) _
            generalize w3.alloc (.cells [.float .f32 ax, .float .f32 ay, .float .f32 az, .float .f32 bx, .float .f32 by', .float .f32 bz, .float .f32 cx, .float .f32 cy, .float .f32 cz].toArray 63) = W3 at *
            generalize w3.heap.size = eb at *
            refine (impl_sum _ _ _ _ _ _ _ _ _ _ _ _ W3 HA.out HB.out HC'.out).mono ?_
            rintro e w4 ⟨p, q, r, rfl, hF, hB4⟩
            have BE1 := Lib.hid (BE.out.call hB4)
            have F := Lib.hid hF
            clear hB4 hF BE
            go_wp2_with fail
            refine (impl_ScaleVector _ _ _ _ _ _ _ _ _ F.out.1 F.out.2.1 F.out.2.2 fv_thirdK).mono ?_
            rintro e w5 ⟨p0, q0, r0, rfl, g1, g2, g3, hB5⟩
            have BE2 : Hid (Bx w [(eb, [.float .f32 ax, .float .f32 ay, .float .f32 az, .float .f32 bx, .float .f32 by', .float .f32 bz, .float .f32 cx, .float .f32 cy, .float .f32 cz]), (w.heap.size + 1 + 1 + 1, [.float .f32 0, .float .f32 0, .float .f32 0])] w5) := Lib.hid ⟨(BE1.out.call hB5).1, fun b l hm => (BE1.out.call hB5).2 b l (by
              rcases List.mem_cons.1 hm with e | hm
              · exact e ▸ .head _
              · rcases List.mem_cons.1 hm with e | hm
                · exact e ▸ .tail _ (.head _)
                · cases hm)⟩
            have G : Hid (F3 p0 q0 r0 (startC a b c)) := Lib.hid ⟨g1, g2, g3⟩
            clear hB5 BE1 g1 g2 g3 F
            have BP := Lib.hid (BE2.out.box (vs := [.float .f32 p0, .float .f32 q0, .float .f32 r0]) (t := 33))
            have PB : Hid (eb < w5.heap.size) := Lib.hid (BE2.out.2 _ _ (.head _)).2.2.1
            go_wp2
            generalize w5.alloc (.cells #[.float .f32 p0, .float .f32 q0, .float .f32 r0] 33) = W5 at *
            generalize w5.heap.size = pt at *
            generalize hrb : w.heap.size + 1 + 1 + 1 = rb at *
            have HN : Hid (rb < eb ∧ eb < pt) := Lib.hid ⟨EB.out, PB.out⟩
            clear hrb EB PB BE2
            have M0 : Hid (Mq a b c (walkC a b c n (startC a b c)) [.float .f32 ax, .float .f32 ay, .float .f32 az, .float .f32 bx, .float .f32 by', .float .f32 bz, .float .f32 cx, .float .f32 cy, .float .f32 cz] n pt eb rb w 0 W5) := Lib.hid ⟨_, _, _, _, BP.out, G.out, rfl⟩
            clear BP G
            generalize walkC a b c n (startC a b c) = E at *
            go_loopw [44] (fun i w' => ∃ k : Nat, k ≤ n ∧ i = .int .i64 k ∧ Aside (Mq a b c E [.float .f32 ax, .float .f32 ay, .float .f32 az, .float .f32 bx, .float .f32 by', .float .f32 bz, .float .f32 cx, .float .f32 cy, .float .f32 cz] n pt eb rb w k w')) (fun i _ => n - (intOf i).toNat)
            case atStart => exact ⟨0, Nat.zero_le _, rfl, M0.out⟩
            case round =>
              obtain ⟨k, hk, rfl, hA⟩ := hrel
              obtain ⟨x, y, t, cp, hBq, hF, hW⟩ := hA.out
              have BQ := Lib.hid hBq
              have FP := Lib.hid hF
              have HW := Lib.hid hW
              clear hA M0 hBq hF hW
              by_cases hlt : k < n
              · have HWS := Lib.hid (HW.out.symm.trans (walk_step (p := cp) hlt))
                have hk0 : (0 : Int) ≤ (k : Int) := by omega
                have hk1 : (k : Int) < (n : Int) := by omega
                have y0 := (BQ.out.mem (.tail _ (.head _))) 0 _ rfl
                have y1 := (BQ.out.mem (.tail _ (.head _))) 1 _ rfl
                have y2 := (BQ.out.mem (.tail _ (.head _))) 2 _ rfl
                have y3 := (BQ.out.mem (.tail _ (.head _))) 3 _ rfl
                have y4 := (BQ.out.mem (.tail _ (.head _))) 4 _ rfl
                have y5 := (BQ.out.mem (.tail _ (.head _))) 5 _ rfl
                have y6 := (BQ.out.mem (.tail _ (.head _))) 6 _ rfl
                have y7 := (BQ.out.mem (.tail _ (.head _))) 7 _ rfl
                have y8 := (BQ.out.mem (.tail _ (.head _))) 8 _ rfl
                have m0 := (BQ.out.mem (.head _)) 0 _ rfl
                have m1 := (BQ.out.mem (.head _)) 1 _ rfl
                have m2 := (BQ.out.mem (.head _)) 2 _ rfl
                go_wp2_with fail
                clear y0 y1 y2 y3 y4 y5 y6 y7 y8 m0 m1 m2
                refine (impl_closer _ _ _ _ _ _ _ _ _ _ _ _ _ _ _ _ wr FP.out HA.out HB.out HC'.out).mono ?_
                rintro e w6 ⟨⟨x', y', t', rfl, hF'⟩, hB6⟩
                have BQ1 := Lib.hid (BQ.out.call hB6)
                have FN := Lib.hid hF'
                clear hB6 hF' BQ
                have BT := Lib.hid (BQ1.out.box (vs := [.float .f32 x', .float .f32 y', .float .f32 t']) (t := 33))
                have hsz := (BQ1.out.2 _ _ (.head _)).2.2.1
                have e0 := cell_alloc (o := .cells #[.float .f32 x', .float .f32 y', .float .f32 t'] 33) ((BQ1.out.mem (.head _)) 0 _ rfl)
                cases hok : okP cp a b c
                · have HE : Hid (E = cp) := Lib.hid (by rw [HWS.out, hok]; rfl)
                  clear hok e0
                  have BS0 : Hid (Bx w [(rb, [.float .f32 0, .float .f32 0, .float .f32 0]), (eb, [.float .f32 ax, .float .f32 ay, .float .f32 az, .float .f32 bx, .float .f32 by', .float .f32 bz, .float .f32 cx, .float .f32 cy, .float .f32 cz]), (pt, [.float .f32 x, .float .f32 y, .float .f32 t])] w6) := Lib.hid ⟨BQ1.out.1, fun b l hm => BQ1.out.2 b l (by
                    rcases List.mem_cons.1 hm with e | hm
                    · exact e ▸ .tail _ (.tail _ (.head _))
                    · rcases List.mem_cons.1 hm with e | hm
                      · exact e ▸ .tail _ (.head _)
                      · rcases List.mem_cons.1 hm with e | hm
                        · exact e ▸ .head _
                        · cases hm)⟩
                  have BS1 := Lib.hid (BS0.out.call ((Below.refl _ _).alloc (Nat.le_refl _) (.cells #[.float .f32 x', .float .f32 y', .float .f32 t'] 33)))
                  have hn := HN.out
                  have BS := Lib.hid (BS1.out.put3 (fun b' l' hm => by simp only [List.mem_cons, Prod.mk.injEq, List.not_mem_nil, or_false] at hm; omega) (.float .f32 x) (.float .f32 y) (.float .f32 t))
                  clear hn
                  have q0 := (BS1.out.mem (.head _)) 0 _ rfl
                  have q1 := (BS1.out.mem (.head _)) 1 _ rfl
                  have q2 := (BS1.out.mem (.head _)) 2 _ rfl
                  have k'0 := BS1.out.free (.head _) 0
                  have k'1 := BS1.out.free (.head _) 1
                  have k'2 := BS1.out.free (.head _) 2
                  have m0 := (BS1.out.mem (.tail _ (.tail _ (.head _)))) 0 _ rfl
                  have m1 := (BS1.out.mem (.tail _ (.tail _ (.head _)))) 1 _ rfl
                  have m2 := (BS1.out.mem (.tail _ (.tail _ (.head _)))) 2 _ rfl
                  go_wp2
                  clear q0 q1 q2 k'0 k'1 k'2 m0 m1 m2
                  have v0 := (BS.out.mem (.head _)) 0 _ rfl
                  have v1 := (BS.out.mem (.head _)) 1 _ rfl
                  have v2 := (BS.out.mem (.head _)) 2 _ rfl
                  refine bodyPost_ret (v := .tuple #[vv x y t, .bool true]) (by simp [results, Try.results30, go_sem, v0, v1, v2]) rfl ?_
                  exact ⟨⟨x, y, t, by rw [OKT.out], by rw [PT.out, HE.out]; exact FP.out⟩, BS.out.bel⟩
                · have HE : Hid (walkC a b c (n - (k + 1)) (moveC cp a b c) = E) := Lib.hid (by rw [HWS.out, hok]; rfl)
                  have FM : Hid (F3 x' y' t' (moveC cp a b c)) := Lib.hid (by rw [← clos_ok hok]; exact FN.out)
                  clear hok e0
                  have q0 := (BQ1.out.mem (.head _)) 0 _ rfl
                  have q1 := (BQ1.out.mem (.head _)) 1 _ rfl
                  have q2 := (BQ1.out.mem (.head _)) 2 _ rfl
                  have k'0 := BQ1.out.free (.head _) 0
                  have k'1 := BQ1.out.free (.head _) 1
                  have k'2 := BQ1.out.free (.head _) 2
                  have hn := HN.out
                  have BS := Lib.hid (BQ1.out.put3 (fun b' l' hm => by simp only [List.mem_cons, Prod.mk.injEq, List.not_mem_nil, or_false] at hm; omega) (.float .f32 x') (.float .f32 y') (.float .f32 t'))
                  clear hn
                  go_wp2
                  go_roundw
                  case rel =>
                    refine ⟨k + 1, by omega, by go_num, (?_ : Mq a b c E [.float .f32 ax, .float .f32 ay, .float .f32 az, .float .f32 bx, .float .f32 by', .float .f32 bz, .float .f32 cx, .float .f32 cy, .float .f32 cz] n pt eb rb w (k + 1) _)⟩
                    exact ⟨_, _, _, _, BS.out.call ((Below.refl _ _).alloc (Nat.le_refl _) _), FM.out, HE.out⟩
                  case measure => simp [intOf]; omega
              · have HE : Hid (E = cp) := Lib.hid (by rw [← HW.out]; exact walk_end hlt hk)
                obtain rfl : k = n := by omega
                have BS0 : Hid (Bx w [(rb, [.float .f32 0, .float .f32 0, .float .f32 0]), (eb, [.float .f32 ax, .float .f32 ay, .float .f32 az, .float .f32 bx, .float .f32 by', .float .f32 bz, .float .f32 cx, .float .f32 cy, .float .f32 cz]), (pt, [.float .f32 x, .float .f32 y, .float .f32 t])] wr) := Lib.hid ⟨BQ.out.1, fun b l hm => BQ.out.2 b l (by
                  rcases List.mem_cons.1 hm with e | hm
                  · exact e ▸ .tail _ (.tail _ (.head _))
                  · rcases List.mem_cons.1 hm with e | hm
                    · exact e ▸ .tail _ (.head _)
                    · rcases List.mem_cons.1 hm with e | hm
                      · exact e ▸ .head _
                      · cases hm)⟩
                have hn := HN.out
                have BS := Lib.hid (BS0.out.put3 (fun b' l' hm => by simp only [List.mem_cons, Prod.mk.injEq, List.not_mem_nil, or_false] at hm; omega) (.float .f32 x) (.float .f32 y) (.float .f32 t))
                clear hn
                have q0 := (BS0.out.mem (.head _)) 0 _ rfl
                have q1 := (BS0.out.mem (.head _)) 1 _ rfl
                have q2 := (BS0.out.mem (.head _)) 2 _ rfl
                have k'0 := BS0.out.free (.head _) 0
                have k'1 := BS0.out.free (.head _) 1
                have k'2 := BS0.out.free (.head _) 2
                have m0 := (BS0.out.mem (.tail _ (.tail _ (.head _)))) 0 _ rfl
                have m1 := (BS0.out.mem (.tail _ (.tail _ (.head _)))) 1 _ rfl
                have m2 := (BS0.out.mem (.tail _ (.tail _ (.head _)))) 2 _ rfl
                go_wp2
                clear q0 q1 q2 k'0 k'1 k'2 m0 m1 m2
                have v0 := (BS.out.mem (.head _)) 0 _ rfl
                have v1 := (BS.out.mem (.head _)) 1 _ rfl
                have v2 := (BS.out.mem (.head _)) 2 _ rfl
                refine bodyPost_ret (v := .tuple #[vv x y t, .bool true]) (by simp [results, Try.results30, go_sem, v0, v1, v2]) rfl ?_
                exact ⟨⟨x, y, t, by rw [OKT.out], by rw [PT.out, HE.out]; exact FP.out⟩, BS.out.bel⟩
end Go.Proofs.Ytcgnmnbjgamedaa

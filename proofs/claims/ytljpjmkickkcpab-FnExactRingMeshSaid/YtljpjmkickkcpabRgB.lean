
/-
Rings: what the program returns. Conditions: none.
-/
import Derived.Test.YtljpjmkickkcpabRgA
namespace Go.Proofs.Ytljpjmkickkcpab
open Go Fk Go.RowKit
set_option linter.unusedVariables false
set_option maxRecDepth 16000
set_option maxHeartbeats 4000000 in
theorem impl_RingMesh_in (s h : Nat) (z y0 : Nat) (d dy : Option Nat) (w : World) (hv1 : 3 ≤ s) (hv2 : s ≤ 16) (hh1 : 1 ≤ h) (hh2 : h < 64) (hz : FV .f32 z d) (hy : FV .f32 y0 dy) (hs : sizeB z = true) (hs2 : sizeB y0 = true) :
    Calls Try.prog 32 #[.int .i64 s, .int .i64 h, .float .f32 z, .float .f32 y0] w fun e w' => MadeG w w' e (validB (ringCs d dy s h) (ringTs s h)) (rV (fun c => c) (ringCs d dy s h) (ringTs s h)) (rT (ringCs d dy s h) (ringTs s h)) := by
  have um := Try.underlying32
  have uv := Try.underlying39
  have u := Try.underlying27
  have ui := Try.underlying2
  obtain ⟨i0, hi, hz0, hz1, hz2⟩ := info_parts infoV
  obtain ⟨j0, hj, hq0, hq1, hq2⟩ := info_parts infoC
  have hC2 : countB h = true := by unfold countB; simp; omega
  have J2 := Lib.hid (fun w => hC2 ▸ impl_isCount h w)
  have J3 := Lib.hid (fun w => hs ▸ impl_isMeasure z w hz.1)
  have J4 := Lib.hid (fun w => hs2 ▸ impl_isMeasure y0 w hy.1)
  have HZ := Lib.hid hz
  have HY := Lib.hid hy
  clear hC2 hz hs hy hs2
  go_enter Try.func32, Try.ntmps32
  go_wp2_with fail
  refine (J2.out _).mono ?_
  rintro e w1 ⟨rfl, hw⟩
  rw [hw]; clear hw w1
  go_wp2_with fail
  refine (J3.out _).mono ?_
  rintro e w1 ⟨rfl, n, hw⟩
  rw [hw]; clear hw w1
  go_wp2_with fail
  refine (J4.out _).mono ?_
  rintro e w1 ⟨rfl, n', hw⟩
  rw [hw]; clear hw w1
  clear J2 J3 J4
  go_wp2
  have hW : ((w.alloc (.cells #[.slice none 0 0, .slice none 0 0] 32)).drewN (n + n')).heap.size = w.heap.size + 1 := by simp
  have hB0 : Below w.heap.size w ((w.alloc (.cells #[.slice none 0 0, .slice none 0 0] 32)).drewN (n + n')) := below_drewN ((Below.refl _ _).alloc (Nat.le_refl _) _) (n + n')
  have ZR : Hid (((w.alloc (.cells #[.slice none 0 0, .slice none 0 0] 32)).drewN (n + n')).ownsRow w.heap.size 32 2 (.slice (some ⟨w.heap.size, 0, none⟩) 1 1) 1 [.slice none 0 0, .slice none 0 0]) :=
    Lib.hid (World.ownsRow_lit (base := w.heap.size) (e := 32) (size := 2) w #[.slice none 0 0, .slice none 0 0] 1 (Nat.le_refl _) (by decide) rfl)
  have NB : Hid (NilBox ((w.alloc (.cells #[.slice none 0 0, .slice none 0 0] 32)).drewN (n + n')) w.heap.size) := Lib.hid NilBox.new
  have HB0 := Lib.hid hB0
  have HW := Lib.hid hW
  clear hB0 hW
  generalize ((w.alloc (.cells #[.slice none 0 0, .slice none 0 0] 32)).drewN (n + n')) = W at *
  go_loopw [10, 43] (fun u i w' => ∃ y : Nat, y ≤ h + 1 ∧ i = .int .i64 y ∧ Aside (∃ xs, w'.ownsRow W.heap.size 39 3 u (y * s) xs ∧ PVf (y * s) xs (ringC d dy s) ∧ Below W.heap.size W w')) (fun _ i _ => h + 1 - (intOf i).toNat)
  case atStart => exact ⟨0, Nat.zero_le _, rfl, [], by simpa using World.ownsRow_nil W W.heap.size 39 3, fun j hj => absurd hj (by omega), Below.refl _ _⟩
  case round =>
    obtain ⟨y, hy, rfl, hA⟩ := hrel
    obtain ⟨xs, hown, hpv, hB⟩ := hA.out
    have HO := Lib.hid hown
    have HP := Lib.hid hpv
    have HB := Lib.hid hB
    clear hA hown hpv hB
    by_cases hlt : y < h + 1
    · have hy0 : (y : Int) < (h : Int) + 1 := by omega
      go_wp2
      go_loopw [10, 47] (fun u i w' => ∃ x : Nat, x ≤ s ∧ i = .int .i64 x ∧ Aside (∃ xs, w'.ownsRow W.heap.size 39 3 u (y * s + x) xs ∧ PVf (y * s + x) xs (ringC d dy s) ∧ Below W.heap.size W w')) (fun _ i _ => s - (intOf i).toNat)
      case atStart => exact ⟨0, Nat.zero_le _, rfl, xs, HO.out, HP.out, HB.out⟩
      case round =>
        obtain ⟨x, hx, rfl, hA⟩ := hrel
        obtain ⟨ys, hown, hpv, hB⟩ := hA.out
        have HO1 := Lib.hid hown
        have HP1 := Lib.hid hpv
        have HB1 := Lib.hid hB
        clear hA hown hpv hB
        by_cases hltx : x < s
        · have hx0 : (x : Int) < (s : Int) := by omega
          have hle : y * s + x ≤ 8192 := by
            have : y * s ≤ 64 * 64 := Nat.mul_le_mul (by omega) (by omega)
            omega
          obtain ⟨q1, q2, q3, q4⟩ := ring_nums hv1 hv2 hltx
          obtain ⟨qa, qb⟩ := fR_num q1
          obtain ⟨qc, qd⟩ := fR_num q2
          have HRC := Lib.hid (ringC_at (z := d) (d := dy) (y := y) hltx)
          clear q1 q2
          generalize ringQ s x = qv at *
          generalize ringQ4 s x = qw at *
          go_wp2_with fail
          refine (impl_SineTurns _ _ q4).mono ?_
          rintro e w1 ⟨s1, rfl, g1, m1, hw⟩
          rw [hw]; clear hw w1
          go_wp2_with fail
          refine (impl_product32 _ _ _ _ _ HZ.out g1).mono ?_
          rintro e w1 ⟨r1, rfl, f1, n1, hw⟩
          rw [hw]; clear hw w1 g1
          go_wp2_with fail
          refine (impl_SineTurns _ _ q3).mono ?_
          rintro e w1 ⟨s2, rfl, g2, m2, hw⟩
          rw [hw]; clear hw w1
          go_wp2_with fail
          refine (impl_product32 _ _ _ _ _ HZ.out g2).mono ?_
          rintro e w1 ⟨r2, rfl, f2, n2, hw⟩
          rw [hw]; clear hw w1 g2
          go_wp2_with fail
          refine (impl_product32 _ _ _ _ _ (fv_int32 y) HY.out).mono ?_
          rintro e w1 ⟨r3, rfl, f3, n3, hw⟩
          rw [hw]; clear hw w1
          have F1 := Lib.hid f1
          have F2 := Lib.hid f2
          have F3 := Lib.hid f3
          have hbz := HB1.out.size
          clear f1 f2 f3 q3 q4 qa qb qc qd
          go_wp2_with (at_builtin; go_loud (refine wpList_append_own _ rfl _ _ 30 rfl W.heap.size 39 i0 (.agg #[.float .f32 0, .float .f32 0, .float .f32 0]) 3 12 Try.underlying30 hi hz0 hz1 hz2 rfl (by decide) _ _ _ rfl (HO1.out.alloc _) ⟨wr.heap.size, 0, none⟩ 1 1 [.float .f32 r1, .float .f32 r2, .float .f32 r3] rfl rfl ?c1 ?c2 ?c3 ?c4 ?c5 ?_))
          case c1 =>
            intro j u hj
            match j, hj with
            | 0, hj => simp at hj; subst hj; simp [Addr.add]
            | 1, hj => simp at hj; subst hj; simp [Addr.add]
            | 2, hj => simp at hj; subst hj; simp [Addr.add]
            | j + 3, hj => simp at hj
          case c2 => intro u hu; simp at hu; rcases hu with rfl | rfl | rfl <;> rfl
          case c3 => unfold maxLen; omega
          case c4 => omega
          case c5 => simp; omega
          · intro v' w1 hown' hgrow hnil
            have hB1 : Below W.heap.size W (wr.alloc (.cells #[.float .f32 r1, .float .f32 r2, .float .f32 r3] 39)) := HB1.out.alloc hbz _
            have HB2 := Lib.hid ((below_drewN hB1 (m1 + n1 + m2 + n2 + n3)).grown (by first | exact hgrow | (simpa [Nat.add_assoc] using hgrow)) (below_drewN hB1 (m1 + n1 + m2 + n2 + n3)).size (fun k hk => (HO1.out.lt k hk).1))
            have HO2 := Lib.hid hown'
            clear hown' hgrow hB1 hnil
            go_wp2
            go_roundw
            case rel => exact ⟨x + 1, by omega, by go_num, _, HO2.out, HP1.out.snoc HO1.out.1 (by rw [HRC.out]; exact ⟨F1.out, F2.out, F3.out⟩), HB2.out⟩
            case measure => simp [intOf]; omega
        · obtain rfl : x = s := by omega
          have hx0 : ¬ ((x : Int) < (x : Int)) := by omega
          go_wp2
          go_roundw
          case rel => exact ⟨y + 1, by omega, by go_num, ys, by rw [show (y + 1) * x = y * x + x by rw [Nat.add_mul]; omega]; exact HO1.out, by rw [show (y + 1) * x = y * x + x by rw [Nat.add_mul]; omega]; exact HP1.out, HB1.out⟩
          case measure => simp [intOf]; omega
    · obtain rfl : y = h + 1 := by omega
      have hy0 : ¬ ((h : Int) + 1 < (h : Int) + 1) := by omega
      go_wp2
      go_loopw [14, 75] (fun u i w' => ∃ y : Nat, y ≤ h ∧ i = .int .i64 y ∧ Aside (w'.ownsRow W.heap.size 91 3 u (y * s * 2) (flatV (ringTs s h) (y * s * 2)) ∧ w'.ownsRow W.heap.size 39 3 u10 ((h + 1) * s) xs ∧ Below W.heap.size W w')) (fun _ i _ => h - (intOf i).toNat)
      case atStart => exact ⟨0, Nat.zero_le _, rfl, by rw [Nat.zero_mul, Nat.zero_mul]; exact World.ownsRow_nil _ _ _ _, HO.out, HB.out⟩
      case round =>
        obtain ⟨y, hy, rfl, hA⟩ := hrel
        obtain ⟨hown, hpl, hB⟩ := hA.out
        have HT := Lib.hid hown
        have HO := Lib.hid hpl
        have HB := Lib.hid hB
        clear hA hown hpl hB
        by_cases hlt : y < h
        · have hy1 : (y : Int) < (h : Int) := by omega
          go_wp2
          go_loopw [14, 79] (fun u i w' => ∃ x : Nat, x ≤ s ∧ i = .int .i64 x ∧ Aside (w'.ownsRow W.heap.size 91 3 u ((y * s + x) * 2) (flatV (ringTs s h) ((y * s + x) * 2)) ∧ w'.ownsRow W.heap.size 39 3 u10 ((h + 1) * s) xs ∧ Below W.heap.size W w')) (fun _ i _ => s - (intOf i).toNat)
          case atStart => exact ⟨0, Nat.zero_le _, rfl, HT.out, HO.out, HB.out⟩
          case round =>
            obtain ⟨x, hx, rfl, hA⟩ := hrel
            obtain ⟨hown, hpl, hB⟩ := hA.out
            have HT1 := Lib.hid hown
            have HO1 := Lib.hid hpl
            have HB1 := Lib.hid hB
            clear hA hown hpl hB
            by_cases hltx : x < s
            · have hx0 : (x : Int) < (s : Int) := by omega
              have hle : (y * s + x) * 2 ≤ 8192 := by
                have : y * s ≤ 64 * 16 := Nat.mul_le_mul (by omega) (by omega)
                omega
              have hm : (s : Int) * (y : Int) ≤ 4096 := by
                have : s * y ≤ 16 * 64 := Nat.mul_le_mul (by omega) (by omega)
                have h2 : (s : Int) * (y : Int) = ((s * y : Nat) : Int) := by push_cast; rfl
                omega
              have hm0 : 0 ≤ (s : Int) * (y : Int) := Int.mul_nonneg (by omega) (by omega)
              obtain ⟨hki, hkj⟩ := ringI_at (y := y) hltx
              have hrem : ((x : Int) + 1).tmod (s : Int) = (((x + 1) % s : Nat) : Int) := by
                rw [Int.tmod_eq_emod_of_nonneg (by omega)]; push_cast; rfl
              have hr1 : (x + 1) % s < s := Nat.mod_lt _ (by omega)
              have HE := Lib.hid (ring_step (grid_q hltx hlt) hki hkj)
              have hbz := HB1.out.size
              clear hki hkj
              generalize (x + 1) % s = R at *
              generalize hM : (s : Int) * (y : Int) = M at *
              go_wp2_with fail
              go_quiet (fail)
              go_wp2_with (at_builtin; go_loud (refine wpList_append_own _ rfl _ _ 92 rfl W.heap.size 91 j0 (.agg #[.int .i64 0, .int .i64 0, .int .i64 0]) 3 24 Try.underlying92 hj hq0 hq1 hq2 rfl (by decide) _ _ _ rfl (HT1.out.alloc _) ⟨wr.heap.size, 0, none⟩ 2 2 [.int .i64 (x + M), .int .i64 (R + M), .int .i64 (R + M + s), .int .i64 (x + M), .int .i64 (R + M + s), .int .i64 (x + M + s)] rfl rfl ?c1 ?c2 ?c3 ?c4 ?c5 ?_))
              case c1 =>
                intro j u hj
                match j, hj with
                | 0, hj => simp at hj; subst hj; simp [Addr.add]
                | 1, hj => simp at hj; subst hj; simp [Addr.add]
                | 2, hj => simp at hj; subst hj; simp [Addr.add]
                | 3, hj => simp at hj; subst hj; simp [Addr.add]
                | 4, hj => simp at hj; subst hj; simp [Addr.add]
                | 5, hj => simp at hj; subst hj; simp [Addr.add]
                | j + 6, hj => simp at hj
              case c2 => intro u hu; simp at hu; rcases hu with rfl | rfl | rfl | rfl | rfl | rfl <;> rfl
              case c3 => unfold maxLen; omega
              case c4 => omega
              case c5 => simp; omega
              · intro v' w1 hown' hgrow hnil
                have hB1 : Below W.heap.size W ((wr.alloc (.cells #[.int .i64 (x + M), .int .i64 (R + M), .int .i64 (R + M + s), .int .i64 (x + M), .int .i64 (R + M + s), .int .i64 (x + M + s)] 91)).drewN nq) := below_drewN (HB1.out.alloc hbz _) _
                have HB2 := Lib.hid (hB1.grown hgrow hB1.size (fun k hk => (HT1.out.lt k hk).1))
                have HT2 := Lib.hid hown'
                have HO2 := Lib.hid (owns_side (w := (wr.alloc (.cells #[.int .i64 (x + M), .int .i64 (R + M), .int .i64 (R + M + s), .int .i64 (x + M), .int .i64 (R + M + s), .int .i64 (x + M + s)] 91)).drewN nq) (HO1.out.alloc _) (HT1.out.alloc _) (by decide) hgrow)
                clear hown' hgrow hB1 hnil
                go_wp2
                go_roundw
                case rel => exact ⟨x + 1, by omega, by go_num, by rw [← Nat.add_assoc, HE.out, show (y * s + x + 1) * 2 = (y * s + x) * 2 + 2 by omega]; exact HT2.out, HO2.out, HB2.out⟩
                case measure => simp [intOf]; omega
            · obtain rfl : x = s := by omega
              have hx0 : ¬ ((x : Int) < (x : Int)) := by omega
              go_wp2
              go_roundw
              case rel => exact ⟨y + 1, by omega, by go_num, by rw [show (y + 1) * x = y * x + x by rw [Nat.add_mul]; omega]; exact HT1.out, HO1.out, HB1.out⟩
              case measure => simp [intOf]; omega
        · obtain rfl : y = h := by omega
          have hy1 : ¬ ((y : Int) < (y : Int)) := by omega
          obtain ⟨cb, cc, rfl⟩ := owns_block HT.out (by have : 1 * 3 ≤ y * s := Nat.mul_le_mul hh1 hv1; omega)
          obtain ⟨pa, pc, rfl⟩ := owns_slice HO.out
          have hJ := finish_mesh W.heap.size cb ((y + 1) * s) pc (y * s * 2) cc pa xs (ringCs d dy s y) (ringTs s y) wr HO.out (HP.out.pv (fun j hj => ringCs_get hj)) (ringCs_len d dy s y) (cs_of_owns HT.out) (ringTs_len s y) (fun j hj => by rw [ringTs_get hj]; exact triR_len s j) (fun j hj => ring_wf hv2 hh2 j (by rw [ringTs_len]; exact hj)) (by have : y * s ≤ 64 * 64 := Nat.mul_le_mul (by omega) (by omega); omega) HB.out.size
          have HJ := Lib.hid hJ
          have HR3 := Lib.hid (rT_3' (ringCs d dy s y) (ringTs s y))
          generalize hE1 : rV (fun c => c) (ringCs d dy s y) (ringTs s y) = rcs at *
          generalize hE2 : rT (ringCs d dy s y) (ringTs s y) = rts at *
          generalize hE3 : validB (ringCs d dy s y) (ringTs s y) = ok at *
          have HE1 := Lib.hid hE1
          have HE2 := Lib.hid hE2
          have HE3 := Lib.hid hE3
          clear hE1 hE2 hE3
          clear hJ
          go_wp2_with fail
          refine HJ.out.mono ?_
          rintro e w2 ⟨⟨sa, sc, sa', sc', rfl, hT⟩, hB2⟩
          have HB2 := Lib.hid (HB.out.trans (hB2.mono HB.out.size))
          have HB3 := Lib.hid (HB0.out.trans (HB2.out.mono HB0.out.size))
          have ZR2 := Lib.hid (owns_up ZR.out HB2.out)
          have NB := Lib.hid (NB.out.below HB2.out)
          have HT2 := Lib.hid (hT.low (lo' := w.heap.size) (by have := HW.out; omega))
          clear hT hB2 HJ
          have z0 := cell0_of ZR2.out
          have z1 := cell1_of ZR2.out
          have f0 := ZR2.out.frozenAt 0
          have f1 := ZR2.out.frozenAt 1
          go_wp2
          have x0' : ∀ u, (w2.setCell ⟨w.heap.size, 0, none⟩ u).cell? ⟨w.heap.size, 1, none⟩ = some (.slice none 0 0) := fun u => by rw [World.cell?_setCell_other _ _ _ _ (by simp)]; exact z1
          have r1 : ∀ u v, ((w2.setCell ⟨w.heap.size, 0, none⟩ u).setCell ⟨w.heap.size, 1, none⟩ v).cell? ⟨w.heap.size, 1, none⟩ = some v := fun u v => World.cell?_setCell_same _ _ _ (x0' u)
          have r0 : ∀ u v, ((w2.setCell ⟨w.heap.size, 0, none⟩ u).setCell ⟨w.heap.size, 1, none⟩ v).cell? ⟨w.heap.size, 0, none⟩ = some u := fun u v => by rw [World.cell?_setCell_other _ _ _ _ (by simp)]; exact World.cell?_setCell_same _ _ _ z0
          obtain ⟨F, k1, k2, k3⟩ := HT2.out.keep HR3.out NB.out (.slice sa rcs.length sc) (.slice sa' rts.length sc')
          refine bodyPost_ret (v := .tuple #[.agg #[.slice sa rcs.length sc, .slice sa' rts.length sc'], .bool ok]) (by simp [results, Try.results32, go_sem, r0, r1]) rfl (by
            have e1 := HE1.out
            have e2 := HE2.out
            have e3 := HE3.out
            subst e1 e2 e3
            exact ⟨⟨sa, sc, sa', sc', F, rfl, k1, k2, k3⟩, (HB3.out.setCell (Nat.le_refl _) _).setCell (Nat.le_refl _) _⟩)
end Go.Proofs.Ytljpjmkickkcpab


/-
Grids: what the program returns. Conditions: none.
-/
import Derived.Test.YtljpjmkickkcpabGdA
namespace Go.Proofs.Ytljpjmkickkcpab
open Go Fk Go.RowKit
set_option linter.unusedVariables false
set_option maxRecDepth 8000
set_option maxHeartbeats 2000000 in
theorem impl_GridMesh_in (v h : Nat) (z : Nat) (d : Option Nat) (w : World) (hv1 : 1 ≤ v) (hv2 : v < 64) (hh1 : 1 ≤ h) (hh2 : h < 64) (hz : FV .f32 z d) (hs : sizeB z = true) :
    Calls Try.prog 30 #[.int .i64 v, .int .i64 h, .float .f32 z] w fun e w' => MadeG w w' e (validB (gridCs d v h) (gridTs v h)) (rV (fun c => c) (gridCs d v h) (gridTs v h)) (rT (gridCs d v h) (gridTs v h)) := by
  have um := Try.underlying32
  have uv := Try.underlying39
  have u := Try.underlying27
  have ui := Try.underlying2
  obtain ⟨i0, hi, hz0, hz1, hz2⟩ := info_parts infoV
  obtain ⟨j0, hj, hq0, hq1, hq2⟩ := info_parts infoC
  have hC1 : countB v = true := by unfold countB; simp; omega
  have hC2 : countB h = true := by unfold countB; simp; omega
  have J1 := Lib.hid (fun w => hC1 ▸ impl_isCount v w)
  have J2 := Lib.hid (fun w => hC2 ▸ impl_isCount h w)
  have J3 := Lib.hid (fun w => hs ▸ impl_isMeasure z w hz.1)
  have HZ := Lib.hid hz
  clear hC1 hC2 hz hs
  go_enter Try.func30, Try.ntmps30
  go_wp2_with fail
  refine (J1.out _).mono ?_
  rintro e w1 ⟨rfl, hw⟩
  rw [hw]; clear hw w1
  go_wp2_with fail
  refine (J2.out _).mono ?_
  rintro e w1 ⟨rfl, hw⟩
  rw [hw]; clear hw w1
  go_wp2_with fail
  refine (J3.out _).mono ?_
  rintro e w1 ⟨rfl, n, hw⟩
  rw [hw]; clear hw w1
  clear J1 J2 J3
  go_wp2
  have hW : ((w.alloc (.cells #[.slice none 0 0, .slice none 0 0] 32)).drewN n).heap.size = w.heap.size + 1 := by simp
  have hB0 : Below w.heap.size w ((w.alloc (.cells #[.slice none 0 0, .slice none 0 0] 32)).drewN n) := below_drewN ((Below.refl _ _).alloc (Nat.le_refl _) _) n
  have ZR : Hid (((w.alloc (.cells #[.slice none 0 0, .slice none 0 0] 32)).drewN n).ownsRow w.heap.size 32 2 (.slice (some ⟨w.heap.size, 0, none⟩) 1 1) 1 [.slice none 0 0, .slice none 0 0]) :=
    Lib.hid (World.ownsRow_lit (base := w.heap.size) (e := 32) (size := 2) w #[.slice none 0 0, .slice none 0 0] 1 (Nat.le_refl _) (by decide) rfl)
  have NB : Hid (NilBox ((w.alloc (.cells #[.slice none 0 0, .slice none 0 0] 32)).drewN n) w.heap.size) := Lib.hid NilBox.new
  have HB0 := Lib.hid hB0
  have HW := Lib.hid hW
  clear hB0 hW
  generalize ((w.alloc (.cells #[.slice none 0 0, .slice none 0 0] 32)).drewN n) = W at *
  go_loopw [8, 32] (fun u i w' => ∃ y : Nat, y ≤ h + 1 ∧ i = .int .i64 y ∧ Aside (∃ xs, w'.ownsRow W.heap.size 39 3 u (y * (v + 1)) xs ∧ PVf (y * (v + 1)) xs (gridC d (v + 1)) ∧ Below W.heap.size W w')) (fun _ i _ => h + 1 - (intOf i).toNat)
  case atStart => exact ⟨0, Nat.zero_le _, rfl, [], by simpa using World.ownsRow_nil W W.heap.size 39 3, fun j hj => absurd hj (by omega), Below.refl _ _⟩
  case round =>
    obtain ⟨y, hy, rfl, hA⟩ := hrel
    obtain ⟨xs, hown, hpv, hB⟩ := hA.out
    have HO := Lib.hid hown
    have HP := Lib.hid hpv
    have HB := Lib.hid hB
    clear hA hown hpv hB
    by_cases hlt : y < h + 1
    · have hy0 : (y : Int) < (h : Int) + 1 := by omega
      go_wp2
      go_loopw [8, 37] (fun u i w' => ∃ x : Nat, x ≤ v + 1 ∧ i = .int .i64 x ∧ Aside (∃ xs, w'.ownsRow W.heap.size 39 3 u (y * (v + 1) + x) xs ∧ PVf (y * (v + 1) + x) xs (gridC d (v + 1)) ∧ Below W.heap.size W w')) (fun _ i _ => v + 1 - (intOf i).toNat)
      case atStart => exact ⟨0, Nat.zero_le _, rfl, xs, HO.out, HP.out, HB.out⟩
      case round =>
        obtain ⟨x, hx, rfl, hA⟩ := hrel
        obtain ⟨ys, hown, hpv, hB⟩ := hA.out
        have HO1 := Lib.hid hown
        have HP1 := Lib.hid hpv
        have HB1 := Lib.hid hB
        clear hA hown hpv hB
        by_cases hltx : x < v + 1
        · have hx0 : (x : Int) < (v : Int) + 1 := by omega
          have hle : y * (v + 1) + x ≤ 8192 := by
            have : y * (v + 1) ≤ 64 * 64 := Nat.mul_le_mul (by omega) (by omega)
            omega
          go_wp2_with fail
          refine (impl_product32 _ _ _ _ _ (fv_int32 x) HZ.out).mono ?_
          rintro e w1 ⟨r1, rfl, f1, n1, hw⟩
          rw [hw]; clear hw w1
          go_wp2_with fail
          refine (impl_product32 _ _ _ _ _ (fv_int32 y) HZ.out).mono ?_
          rintro e w1 ⟨r2, rfl, f2, n2, hw⟩
          rw [hw]; clear hw w1
          have F1 := Lib.hid f1
          have F2 := Lib.hid f2
          have hbz := HB1.out.size
          clear f1 f2
          go_wp2_with (at_builtin; refine wpList_append_own _ rfl _ _ 30 rfl W.heap.size 39 i0 (.agg #[.float .f32 0, .float .f32 0, .float .f32 0]) 3 12 Try.underlying30 hi hz0 hz1 hz2 rfl (by decide) _ _ _ rfl (HO1.out.alloc _) ⟨wr.heap.size, 0, none⟩ 1 1 [.float .f32 r1, .float .f32 r2, .float .f32 0] rfl rfl ?c1 ?c2 ?c3 ?c4 ?c5 ?_)
          case c1 =>
            intro j u hj
            match j, hj with
            | 0, hj => simp at hj; subst hj; simp [Addr.add]
            | 1, hj => simp at hj; subst hj; simp [Addr.add]
            | 2, hj => simp at hj; subst hj; simp [Addr.add]
            | j + 3, hj => simp at hj
          case c2 => intro u hu; simp at hu; rcases hu with rfl | rfl | rfl <;> rfl
          case c3 => unfold maxLen; omega
          case c4 => omega
          case c5 => simp; omega
          · intro v' w1 hown' hgrow hnil
            have hB1 : Below W.heap.size W (wr.alloc (.cells #[.float .f32 r1, .float .f32 r2, .float .f32 0] 39)) := HB1.out.alloc hbz _
            have HB2 := Lib.hid ((below_drewN hB1 (n1 + n2)).grown hgrow (below_drewN hB1 (n1 + n2)).size (fun k hk => (HO1.out.lt k hk).1))
            have HO2 := Lib.hid hown'
            clear hown' hgrow hB1 hnil
            go_wp2
            go_roundw
            case rel => exact ⟨x + 1, by omega, by go_num, _, HO2.out, HP1.out.snoc HO1.out.1 (by rw [gridC_at hltx]; exact ⟨F1.out, F2.out, fv00⟩), HB2.out⟩
            case measure => simp [intOf]; omega
        · obtain rfl : x = v + 1 := by omega
          have hx0 : ¬ ((v : Int) + 1 < (v : Int) + 1) := by omega
          go_wp2
          go_roundw
          case rel => exact ⟨y + 1, by omega, by go_num, ys, by rw [show (y + 1) * (v + 1) = y * (v + 1) + (v + 1) by rw [Nat.add_mul]; omega]; exact HO1.out, by rw [show (y + 1) * (v + 1) = y * (v + 1) + (v + 1) by rw [Nat.add_mul]; omega]; exact HP1.out, HB1.out⟩
          case measure => simp [intOf]; omega
    · obtain rfl : y = h + 1 := by omega
      have hy0 : ¬ ((h : Int) + 1 < (h : Int) + 1) := by omega
      go_wp2
      go_loopw [11, 55] (fun u i w' => ∃ y : Nat, y ≤ h ∧ i = .int .i64 y ∧ Aside (w'.ownsRow W.heap.size 91 3 u (y * v * 2) (flatV (gridTs v h) (y * v * 2)) ∧ w'.ownsRow W.heap.size 39 3 u8 ((h + 1) * (v + 1)) xs ∧ Below W.heap.size W w')) (fun _ i _ => h - (intOf i).toNat)
      case atStart => exact ⟨0, Nat.zero_le _, rfl, by rw [Nat.zero_mul, Nat.zero_mul]; exact World.ownsRow_nil _ _ _ _, HO.out, HB.out⟩
      case round =>
        obtain ⟨y, hy, rfl, hA⟩ := hrel
        obtain ⟨hown, hpl, hB⟩ := hA.out
        have HT := Lib.hid hown
        have HO := Lib.hid hpl
        have HB := Lib.hid hB
        clear hA hown hpl hB
        by_cases hlt : y < h
        · have hy1 : (y : Int) < (h : Int) := by omega
          go_wp2
          go_loopw [11, 59] (fun u i w' => ∃ x : Nat, x ≤ v ∧ i = .int .i64 x ∧ Aside (w'.ownsRow W.heap.size 91 3 u ((y * v + x) * 2) (flatV (gridTs v h) ((y * v + x) * 2)) ∧ w'.ownsRow W.heap.size 39 3 u8 ((h + 1) * (v + 1)) xs ∧ Below W.heap.size W w')) (fun _ i _ => v - (intOf i).toNat)
          case atStart => exact ⟨0, Nat.zero_le _, rfl, HT.out, HO.out, HB.out⟩
          case round =>
            obtain ⟨x, hx, rfl, hA⟩ := hrel
            obtain ⟨hown, hpl, hB⟩ := hA.out
            have HT1 := Lib.hid hown
            have HO1 := Lib.hid hpl
            have HB1 := Lib.hid hB
            clear hA hown hpl hB
            by_cases hltx : x < v
            · have hx0 : (x : Int) < (v : Int) := by omega
              have hle : (y * v + x) * 2 ≤ 8192 := by
                have : y * v ≤ 64 * 63 := Nat.mul_le_mul (by omega) (by omega)
                omega
              have hm : ((v : Int) + 1) * (y : Int) ≤ 4096 := by
                have : (v + 1) * y ≤ 64 * 63 := Nat.mul_le_mul (by omega) (by omega)
                have h2 : ((v : Int) + 1) * (y : Int) = (((v + 1) * y : Nat) : Int) := by push_cast; rfl
                omega
              have hm0 : 0 ≤ ((v : Int) + 1) * (y : Int) := Int.mul_nonneg (by omega) (by omega)
              have hk : gridI v (y * v + x) = (x : Int) + ((v : Int) + 1) * y := gridI_at hltx
              have HK := Lib.hid hk
              have hbz := HB1.out.size
              clear hk
              generalize hM : ((v : Int) + 1) * (y : Int) = M at *
              go_wp2_with (at_builtin; go_loud (refine wpList_append_own _ rfl _ _ 92 rfl W.heap.size 91 j0 (.agg #[.int .i64 0, .int .i64 0, .int .i64 0]) 3 24 Try.underlying92 hj hq0 hq1 hq2 rfl (by decide) _ _ _ rfl (HT1.out.alloc _) ⟨wr.heap.size, 0, none⟩ 2 2 [.int .i64 (x + M), .int .i64 (x + M + 1), .int .i64 (x + M + v + 1 + 1), .int .i64 (x + M), .int .i64 (x + M + v + 1 + 1), .int .i64 (x + M + v + 1)] rfl rfl ?c1 ?c2 ?c3 ?c4 ?c5 ?_))
              case c1 =>
                intro j u hj
                match j, hj with
                | 0, hj => simp at hj; subst hj; simp [Addr.add]
                | 1, hj => simp at hj; subst hj; simp [Addr.add]
                | 2, hj => simp at hj; subst hj; simp [Addr.add]
                | 3, hj => simp at hj; subst hj; simp [Addr.add]
                | 4, hj => simp at hj; subst hj; simp [Addr.add]
                | 5, hj => simp at hj; subst hj; simp [Addr.add]
                | j + 6, hj => simp at hj
              case c2 => intro u hu; simp at hu; rcases hu with rfl | rfl | rfl | rfl | rfl | rfl <;> rfl
              case c3 => unfold maxLen; omega
              case c4 => omega
              case c5 => simp; omega
              · intro v' w1 hown' hgrow hnil
                have hB1 : Below W.heap.size W (wr.alloc (.cells #[.int .i64 (x + M), .int .i64 (x + M + 1), .int .i64 (x + M + v + 1 + 1), .int .i64 (x + M), .int .i64 (x + M + v + 1 + 1), .int .i64 (x + M + v + 1)] 91)) := HB1.out.alloc hbz _
                have HB2 := Lib.hid (hB1.grown hgrow hB1.size (fun k hk => (HT1.out.lt k hk).1))
                have HT2 := Lib.hid hown'
                have HO2 := Lib.hid (owns_side (HO1.out.alloc _) (HT1.out.alloc _) (by decide) hgrow)
                clear hown' hgrow hB1 hnil
                go_wp2
                go_roundw
                case rel => exact ⟨x + 1, by omega, by go_num, by rw [← Nat.add_assoc, flat_step (grid_q hltx hlt) HK.out, show (y * v + x + 1) * 2 = (y * v + x) * 2 + 2 by omega]; exact HT2.out, HO2.out, HB2.out⟩
                case measure => simp [intOf]; omega
            · obtain rfl : x = v := by omega
              have hx0 : ¬ ((x : Int) < (x : Int)) := by omega
              go_wp2
              go_roundw
              case rel => exact ⟨y + 1, by omega, by go_num, by rw [show (y + 1) * x = y * x + x by rw [Nat.add_mul]; omega]; exact HT1.out, HO1.out, HB1.out⟩
              case measure => simp [intOf]; omega
        · obtain rfl : y = h := by omega
          have hy1 : ¬ ((y : Int) < (y : Int)) := by omega
          obtain ⟨cb, cc, rfl⟩ := owns_block HT.out (by have : 1 * 1 ≤ y * v := Nat.mul_le_mul hh1 hv1; omega)
          obtain ⟨pa, pc, rfl⟩ := owns_slice HO.out
          have hJ := finish_mesh W.heap.size cb ((y + 1) * (v + 1)) pc (y * v * 2) cc pa xs (gridCs d v y) (gridTs v y) wr HO.out (HP.out.pv (fun j hj => gridCs_get hj)) (gridCs_len d v y) (cs_of_owns HT.out) (gridTs_len v y) (fun j hj => by rw [gridTs_get hj]; exact triG_len v j) (fun j hj => grid_wf hv2 hh2 j (by rw [gridTs_len]; exact hj)) (by have : y * v ≤ 64 * 64 := Nat.mul_le_mul (by omega) (by omega); omega) HB.out.size
          have HJ := Lib.hid hJ
          have HR3 := Lib.hid (rT_3' (gridCs d v y) (gridTs v y))
          generalize hE1 : rV (fun c => c) (gridCs d v y) (gridTs v y) = rcs at *
          generalize hE2 : rT (gridCs d v y) (gridTs v y) = rts at *
          generalize hE3 : validB (gridCs d v y) (gridTs v y) = ok at *
          have HE1 := Lib.hid hE1
          have HE2 := Lib.hid hE2
          have HE3 := Lib.hid hE3
          clear hE1 hE2 hE3
          clear hJ
          go_wp2_with fail
          refine HJ.out.mono ?_
          rintro e w2 ⟨⟨sa, sc, sa', sc', rfl, hT⟩, hB2⟩
          have HB2 := Lib.hid (HB.out.trans (hB2.mono HB.out.size))
          have HB3 := Lib.hid (HB0.out.trans (HB2.out.mono HB0.out.size))
          have ZR2 := Lib.hid (owns_up ZR.out HB2.out)
          have NB := Lib.hid (NB.out.below HB2.out)
          have HT2 := Lib.hid (hT.low (lo' := w.heap.size) (by have := HW.out; omega))
          clear hT hB2 HJ
          have z0 := cell0_of ZR2.out
          have z1 := cell1_of ZR2.out
          have f0 := ZR2.out.frozenAt 0
          have f1 := ZR2.out.frozenAt 1
          go_wp2
          have x0' : ∀ u, (w2.setCell ⟨w.heap.size, 0, none⟩ u).cell? ⟨w.heap.size, 1, none⟩ = some (.slice none 0 0) := fun u => by rw [World.cell?_setCell_other _ _ _ _ (by simp)]; exact z1
          have r1 : ∀ u v, ((w2.setCell ⟨w.heap.size, 0, none⟩ u).setCell ⟨w.heap.size, 1, none⟩ v).cell? ⟨w.heap.size, 1, none⟩ = some v := fun u v => World.cell?_setCell_same _ _ _ (x0' u)
          have r0 : ∀ u v, ((w2.setCell ⟨w.heap.size, 0, none⟩ u).setCell ⟨w.heap.size, 1, none⟩ v).cell? ⟨w.heap.size, 0, none⟩ = some u := fun u v => by rw [World.cell?_setCell_other _ _ _ _ (by simp)]; exact World.cell?_setCell_same _ _ _ z0
          obtain ⟨F, k1, k2, k3⟩ := HT2.out.keep HR3.out NB.out (.slice sa rcs.length sc) (.slice sa' rts.length sc')
          refine bodyPost_ret (v := .tuple #[.agg #[.slice sa rcs.length sc, .slice sa' rts.length sc'], .bool ok]) (by simp [results, Try.results30, go_sem, r0, r1]) rfl (by
            have e1 := HE1.out
            have e2 := HE2.out
            have e3 := HE3.out
            subst e1 e2 e3
            exact ⟨⟨sa, sc, sa', sc', F, rfl, k1, k2, k3⟩, (HB3.out.setCell (Nat.le_refl _) _).setCell (Nat.le_refl _) _⟩)
end Go.Proofs.Ytljpjmkickkcpab


/-
Rings: what the model makes. Conditions: none.
-/
import Derived.Test.YtljpjmkickkcpabRgA
import Derived.Test.YtljpjmkickkcpabGdC
namespace Go.Proofs.Ytljpjmkickkcpab
open Go Fk Go.RowKit
set_option linter.unusedVariables false
set_option maxRecDepth 16000
set_option maxHeartbeats 4000000 in
theorem l02Ring (s h : Nat) (z y0 : Nat) (d dy : Option Nat) (w : World) (hv1 : 3 ≤ s) (hv2 : s ≤ 16) (hh1 : 1 ≤ h) (hh2 : h < 64) (hz : FV .f32 z d) (hy : FV .f32 y0 dy) :
    Calls Try.prog 94 #[.int .i64 s, .int .i64 h, .float .f32 z, .float .f32 y0] w fun e w' => (∃ va vt xs, e = .returned (.agg #[va, vt]) ∧ w'.ownsRow w.heap.size 39 3 va ((h + 1) * s) xs ∧ PVf ((h + 1) * s) xs (ringC d dy s) ∧ OwnT w.heap.size w' vt (h * s * 2) (ringTs s h)) ∧ Below w.heap.size w w' := by
  have um := Try.underlying32
  have uv := Try.underlying39
  have u := Try.underlying27
  have ui := Try.underlying2
  obtain ⟨i0, hi, hz0, hz1, hz2⟩ := info_parts infoV
  obtain ⟨j0, hj, hq0, hq1, hq2⟩ := info_parts infoS
  have HZ := Lib.hid hz
  have HY := Lib.hid hy
  clear hz hy
  go_enter Try.func94, Try.ntmps94
  go_wp2
  have hD : LD w (w.heap.size + 1 + 1 + 1) w.heap.size (.slice (some ⟨w.heap.size + 1, 0, none⟩) 0 0) (.slice (some ⟨w.heap.size + 1 + 1, 0, none⟩) 0 0) 0 [] ((((w.alloc (.cells #[.slice none 0 0, .slice none 0 0] 32)).alloc (.cells #[] 39)).alloc (.cells #[] 112)).alloc (.cells #[.slice (some ⟨w.heap.size + 1, 0, none⟩) 0 0, .slice (some ⟨w.heap.size + 1 + 1, 0, none⟩) 0 0] 32)) := by
    refine ⟨(((((Below.refl _ _).alloc (Nat.le_refl _) _).alloc (by simp) _).alloc (by simp; omega) _).alloc (by simp; omega) _), ?_, ?_, ?_⟩
    · have := World.ownsRow_lit (base := w.heap.size) (e := 32) (size := 2) (((w.alloc (.cells #[.slice none 0 0, .slice none 0 0] 32)).alloc (.cells #[] 39)).alloc (.cells #[] 112)) #[.slice (some ⟨w.heap.size + 1, 0, none⟩) 0 0, .slice (some ⟨w.heap.size + 1 + 1, 0, none⟩) 0 0] 1 (by simp; omega) (by decide) rfl
      simpa using this
    · exact ((((World.ownsRow_lit (base := w.heap.size) (e := 32) (size := 2) w #[.slice none 0 0, .slice none 0 0] 1 (Nat.le_refl _) (by decide) rfl).alloc _).alloc _).alloc _)
    · have := World.ownsRow_lit (base := w.heap.size) (e := 39) (size := 3) (w.alloc (.cells #[.slice none 0 0, .slice none 0 0] 32)) #[] 0 (by simp) (by decide) rfl
      have := (this.alloc (.cells #[] 112)).alloc (.cells #[.slice (some ⟨w.heap.size + 1, 0, none⟩) 0 0, .slice (some ⟨w.heap.size + 1 + 1, 0, none⟩) 0 0] 32)
      simpa using this
  have hT : OwnT w.heap.size ((((w.alloc (.cells #[.slice none 0 0, .slice none 0 0] 32)).alloc (.cells #[] 39)).alloc (.cells #[] 112)).alloc (.cells #[.slice (some ⟨w.heap.size + 1, 0, none⟩) 0 0, .slice (some ⟨w.heap.size + 1 + 1, 0, none⟩) 0 0] 32)) (.slice (some ⟨w.heap.size + 1 + 1, 0, none⟩) 0 0) 0 (ringTs s h) := by
    have := World.ownsRow_lit (base := w.heap.size) (e := 112) (size := 1) ((w.alloc (.cells #[.slice none 0 0, .slice none 0 0] 32)).alloc (.cells #[] 39)) #[] 0 (by simp; omega) (by decide) rfl
    have := this.alloc (.cells #[.slice (some ⟨w.heap.size + 1, 0, none⟩) 0 0, .slice (some ⟨w.heap.size + 1 + 1, 0, none⟩) 0 0] 32)
    exact ⟨[], by simpa using this, fun j hj => absurd hj (by omega)⟩
  have HD := Lib.hid hD
  have HT := Lib.hid hT
  clear hD hT
  generalize ((((w.alloc (.cells #[.slice none 0 0, .slice none 0 0] 32)).alloc (.cells #[] 39)).alloc (.cells #[] 112)).alloc (.cells #[.slice (some ⟨w.heap.size + 1, 0, none⟩) 0 0, .slice (some ⟨w.heap.size + 1 + 1, 0, none⟩) 0 0] 32)) = W at *
  have HXZ := Lib.hid (show w.heap.size + 1 + 1 + 1 ≠ w.heap.size by omega)
  generalize w.heap.size + 1 + 1 + 1 = X at *
  generalize (.slice (some ⟨w.heap.size + 1, 0, none⟩) 0 0 : Value) = va0 at *
  generalize (.slice (some ⟨w.heap.size + 1 + 1, 0, none⟩) 0 0 : Value) = vt0 at *
  go_loopw [10] (fun i w' => ∃ y : Nat, y ≤ h + 1 ∧ i = .int .i64 y ∧ Aside (∃ va xs, LD w X w.heap.size va vt0 (y * s) xs w' ∧ PVf (y * s) xs (ringC d dy s) ∧ OwnT w.heap.size w' vt0 0 (ringTs s h))) (fun i _ => h + 1 - (intOf i).toNat)
  case atStart => exact ⟨0, Nat.zero_le _, rfl, va0, [], by rw [Nat.zero_mul]; exact HD.out, fun j hj => absurd hj (by omega), HT.out⟩
  case round =>
    obtain ⟨y, hy, rfl, hA⟩ := hrel
    obtain ⟨va, xs, hD, hpv, hT⟩ := hA.out
    have HD := Lib.hid hD
    have HP := Lib.hid hpv
    have HT := Lib.hid hT
    clear hA hD hpv hT
    by_cases hlt : y ≤ h
    · have hy0 : (y : Int) ≤ (h : Int) := by omega
      go_wp2
      go_loopw [11] (fun i w' => ∃ x : Nat, x ≤ s ∧ i = .int .i64 x ∧ Aside (∃ va xs, LD w X w.heap.size va vt0 (y * s + x) xs w' ∧ PVf (y * s + x) xs (ringC d dy s) ∧ OwnT w.heap.size w' vt0 0 (ringTs s h))) (fun i _ => s - (intOf i).toNat)
      case atStart => exact ⟨0, Nat.zero_le _, rfl, va, xs, HD.out, HP.out, HT.out⟩
      case round =>
        obtain ⟨x, hx, rfl, hA⟩ := hrel
        obtain ⟨ua, ys, hD, hpv, hT⟩ := hA.out
        have HD1 := Lib.hid hD
        have HP1 := Lib.hid hpv
        have HT1 := Lib.hid hT
        clear hA hD hpv hT
        by_cases hltx : x < s
        · have hx0 : (x : Int) < (s : Int) := by omega
          have hle : y * s + x ≤ 8192 := by
            have : y * s ≤ 64 * 64 := Nat.mul_le_mul (by omega) (by omega)
            omega
          have k0 := HD1.out.cell0
          obtain ⟨q1, q2, q3, q4⟩ := ring_nums hv1 hv2 hltx
          obtain ⟨qa, qb⟩ := fR_num q1
          obtain ⟨qc, qd⟩ := fR_num q2
          have HRC := Lib.hid (ringC_at (z := d) (d := dy) (y := y) hltx)
          clear q1 q2
          generalize ringQ s x = qv at *
          generalize ringQ4 s x = qw at *
          go_wp2_with fail
          refine (l01Sine _ _ q4).mono ?_
          rintro e w1 ⟨s1, rfl, g1, m1, hw⟩
          rw [hw]; clear hw w1
          have F1 : ∀ w, FV .f32 (fR .mul .f32 z s1 w) (fop .mul .f32 d (sinT qw)) := fun w => FV_fR HZ.out g1
          generalize hp1 : fR .mul .f32 z s1 (wr.drewN m1) = p1
          generalize hn1 : fN .mul .f32 z s1 = n1
          have F1 := Lib.hid (hp1 ▸ F1 (wr.drewN m1))
          go_wp2_with fail
          refine (l01Sine _ _ q3).mono ?_
          rintro e w1 ⟨s2, rfl, g2, m2, hw⟩
          rw [hw]; clear hw w1
          have F2 : ∀ w, FV .f32 (fR .mul .f32 z s2 w) (fop .mul .f32 d (sinT qv)) := fun w => FV_fR HZ.out g2
          generalize hp2 : fR .mul .f32 z s2 (wr.drewN (m1 + n1 + m2)) = p2
          generalize hn2 : fN .mul .f32 z s2 = n2
          have F2 := Lib.hid (hp2 ▸ F2 (wr.drewN (m1 + n1 + m2)))
          have F3 : ∀ w, FV .f32 (fR .mul .f32 (floatOfInt .f32 (y : Int)) y0 w) (fop .mul .f32 (some (floatOfInt .f32 (y : Int))) dy) := fun w => FV_fR (fv_int32 y) HY.out
          generalize hp3 : fR .mul .f32 (floatOfInt .f32 (y : Int)) y0 ((wr.alloc (.cells #[.float .f32 p1, .float .f32 p2, .float .f32 0] 39)).drewN (m1 + n1 + m2 + n2)) = p3
          generalize hn3 : fN .mul .f32 (floatOfInt .f32 (y : Int)) y0 = n3
          have F3 := Lib.hid (hp3 ▸ F3 ((wr.alloc (.cells #[.float .f32 p1, .float .f32 p2, .float .f32 0] 39)).drewN (m1 + n1 + m2 + n2)))
          have hXl := World.block_lt_of_cell? _ _ k0
          have lk0 := fun ob => cell_alloc (o := ob) k0
          clear g1 g2
          have hbz := HD1.out.1.size
          have hB1 : Below wr.heap.size wr (((wr.alloc (.cells #[.float .f32 p1, .float .f32 p2, .float .f32 p3] 39)).alloc (.cells #[.float .f32 p1, .float .f32 p2, .float .f32 p3] 39)).drewN (m1 + n1 + m2 + n2 + n3)) := below_drewN (((Below.refl _ _).alloc (Nat.le_refl _) _).alloc (by simp) _) _
          have HD2 := Lib.hid (HD1.out.up hB1)
          have HT2 := Lib.hid (HT1.out.up hB1)
          have hrw := World.ownsRow_lit (base := w.heap.size) (e := 39) (size := 3) (wr.alloc (.cells #[.float .f32 p1, .float .f32 p2, .float .f32 p3] 39)) #[.float .f32 p1, .float .f32 p2, .float .f32 p3] 1 (by simp; omega) (by decide) rfl
          have e0 := hrw.cellAt 0 (by decide)
          have e1 := hrw.cellAt 1 (by decide)
          have e2 := hrw.cellAt 2 (by decide)
          simp only [World.size_alloc, List.getElem?_cons_zero, List.getElem?_cons_succ] at e0 e1 e2
          have E0 := Lib.hid e0
          have E1 := Lib.hid e1
          have E2 := Lib.hid e2
          clear hB1 hrw e0 e1 e2
          go_wp2_with (at_builtin; go_loud (refine wpList_append_own _ rfl _ _ 30 rfl w.heap.size 39 i0 (.agg #[.float .f32 0, .float .f32 0, .float .f32 0]) 3 12 Try.underlying30 hi hz0 hz1 hz2 rfl (by decide) _ _ _ rfl HD2.out.2.2.2 ⟨wr.heap.size + 1, 0, none⟩ 1 1 [.float .f32 p1, .float .f32 p2, .float .f32 p3] rfl rfl ?c1 ?c2 ?c3 ?c4 ?c5 ?_))
          case c1 =>
            intro j u hj
            match j, hj with
            | 0, hj => simp at hj; subst hj; first | (simp [Addr.add]; done) | (simpa [Addr.add] using E0.out)
            | 1, hj => simp at hj; subst hj; first | (simp [Addr.add]; done) | (simpa [Addr.add] using E1.out)
            | 2, hj => simp at hj; subst hj; first | (simp [Addr.add]; done) | (simpa [Addr.add] using E2.out)
            | j + 3, hj => simp at hj
          case c2 => intro u hu; simp at hu; rcases hu with rfl | rfl | rfl <;> rfl
          case c3 => unfold maxLen; omega
          case c4 => omega
          case c5 => simp; omega
          · intro v' w1 hown' hgrow hnil
            have HD3 := Lib.hid (HD2.out.put0 HXZ.out hgrow hown')
            have HT3 := Lib.hid (HT2.out.put0 (va' := v') HD2.out hgrow)
            have HO2 := Lib.hid hown'
            have kx := cell0_of (owns_side HD2.out.2.1 HD2.out.2.2.2 (by decide) hgrow)
            have fx := (owns_side HD2.out.2.1 HD2.out.2.2.2 (by decide) hgrow).frozenAt 0
            obtain ⟨ra, rc, rfl⟩ := owns_slice hown'
            clear hown' hgrow hnil HD2 HT2
            go_wp2
            go_roundw
            case rel => exact ⟨x + 1, by omega, by go_num, _, _, HD3.out, HP1.out.snoc HD1.out.2.2.2.1 (by rw [HRC.out]; exact ⟨F1.out, F2.out, F3.out⟩), HT3.out⟩
            case measure => simp [intOf]; omega
        · obtain rfl : x = s := by omega
          have hx0 : ¬ ((x : Int) < (x : Int)) := by omega
          go_wp2
          go_roundw
          case rel => exact ⟨y + 1, by omega, by go_num, ua, ys, by rw [show (y + 1) * x = y * x + x by rw [Nat.add_mul]; omega]; exact HD1.out, by rw [show (y + 1) * x = y * x + x by rw [Nat.add_mul]; omega]; exact HP1.out, HT1.out⟩
          case measure => simp [intOf]; omega
    · obtain rfl : y = h + 1 := by omega
      have hy0 : ¬ (((h + 1 : Nat) : Int) ≤ (h : Int)) := by omega
      go_wp2
      go_loopw [14] (fun i w' => ∃ y : Nat, y ≤ h ∧ i = .int .i64 y ∧ Aside (∃ vt, LD w X w.heap.size va vt ((h + 1) * s) xs w' ∧ OwnT w.heap.size w' vt (y * s * 2) (ringTs s h))) (fun i _ => h - (intOf i).toNat)
      case atStart => exact ⟨0, Nat.zero_le _, rfl, vt0, HD.out, by rw [Nat.zero_mul, Nat.zero_mul]; exact HT.out⟩
      case round =>
        obtain ⟨y, hy, rfl, hA⟩ := hrel
        obtain ⟨vt, hD, hT⟩ := hA.out
        have HD := Lib.hid hD
        have HT := Lib.hid hT
        clear hA hD hT
        by_cases hlt : y < h
        · have hy1 : (y : Int) < (h : Int) := by omega
          go_wp2
          go_loopw [15] (fun i w' => ∃ x : Nat, x ≤ s ∧ i = .int .i64 x ∧ Aside (∃ vt, LD w X w.heap.size va vt ((h + 1) * s) xs w' ∧ OwnT w.heap.size w' vt ((y * s + x) * 2) (ringTs s h))) (fun i _ => s - (intOf i).toNat)
          case atStart => exact ⟨0, Nat.zero_le _, rfl, vt, HD.out, HT.out⟩
          case round =>
            obtain ⟨x, hx, rfl, hA⟩ := hrel
            obtain ⟨ut, hD, hT⟩ := hA.out
            have HD1 := Lib.hid hD
            have HT1 := Lib.hid hT
            clear hA hD hT
            by_cases hltx : x < s
            · have hx0 : (x : Int) < (s : Int) := by omega
              have hle : (y * s + x) * 2 ≤ 8192 := by
                have : y * s ≤ 64 * 16 := Nat.mul_le_mul (by omega) (by omega)
                omega
              have hm : (s : Int) * (y : Int) ≤ 4096 := by
                have : s * y ≤ 16 * 64 := Nat.mul_le_mul (by omega) (by omega)
                have h2 : (s : Int) * (y : Int) = ((s * y : Nat) : Int) := by push_cast; rfl
                omega
              have hm0 : 0 ≤ (s : Int) * (y : Int) := Int.mul_nonneg (by omega) (by omega)
              obtain ⟨hki, hkj⟩ := ringI_at (y := y) hltx
              have hrem : ((x : Int) + 1).tmod (s : Int) = (((x + 1) % s : Nat) : Int) := by
                rw [Int.tmod_eq_emod_of_nonneg (by omega)]; push_cast; rfl
              have hr1 : (x + 1) % s < s := Nat.mod_lt _ (by omega)
              have HE := Lib.hid (ring_rows (grid_q hltx hlt) hki hkj)
              have hbz := HD1.out.1.size
              have k1 := HD1.out.cell1
              have hXl := World.block_lt_of_cell? _ _ k1
              clear hki hkj
              generalize (x + 1) % s = R at *
              generalize hM : (s : Int) * (y : Int) = M at *
              have hB1 : Below wr.heap.size wr (((wr.alloc (.cells #[.int .i64 (x + M), .int .i64 (R + M), .int .i64 (R + M + s)] 2)).alloc (.cells #[.int .i64 (x + M), .int .i64 (R + M + s), .int .i64 (x + M + s)] 2)).alloc (.cells #[.slice (some ⟨wr.heap.size, 0, none⟩) 3 3, .slice (some ⟨wr.heap.size + 1, 0, none⟩) 3 3] 112)) := (((Below.refl _ _).alloc (Nat.le_refl _) _).alloc (by simp) _).alloc (by simp; omega) _
              have hrr1 : (((wr.alloc (.cells #[.int .i64 (x + M), .int .i64 (R + M), .int .i64 (R + M + s)] 2)).alloc (.cells #[.int .i64 (x + M), .int .i64 (R + M + s), .int .i64 (x + M + s)] 2)).alloc (.cells #[.slice (some ⟨wr.heap.size, 0, none⟩) 3 3, .slice (some ⟨wr.heap.size + 1, 0, none⟩) 3 3] 112)).ownsRow w.heap.size 2 1 (.slice (some ⟨wr.heap.size, 0, none⟩) 3 3) 3 (ints [x + M, R + M, R + M + s]) :=
                ((World.ownsRow_lit (base := w.heap.size) (e := 2) (size := 1) wr #[.int .i64 (x + M), .int .i64 (R + M), .int .i64 (R + M + s)] 3 hbz (by decide) rfl).alloc _).alloc _
              have hrr2 : (((wr.alloc (.cells #[.int .i64 (x + M), .int .i64 (R + M), .int .i64 (R + M + s)] 2)).alloc (.cells #[.int .i64 (x + M), .int .i64 (R + M + s), .int .i64 (x + M + s)] 2)).alloc (.cells #[.slice (some ⟨wr.heap.size, 0, none⟩) 3 3, .slice (some ⟨wr.heap.size + 1, 0, none⟩) 3 3] 112)).ownsRow w.heap.size 2 1 (.slice (some ⟨wr.heap.size + 1, 0, none⟩) 3 3) 3 (ints [x + M, R + M + s, x + M + s]) := by
                have := (World.ownsRow_lit (base := w.heap.size) (e := 2) (size := 1) (wr.alloc (.cells #[.int .i64 (x + M), .int .i64 (R + M), .int .i64 (R + M + s)] 2)) #[.int .i64 (x + M), .int .i64 (R + M + s), .int .i64 (x + M + s)] 3 (by simp; omega) (by decide) rfl).alloc (.cells #[.slice (some ⟨wr.heap.size, 0, none⟩) 3 3, .slice (some ⟨wr.heap.size + 1, 0, none⟩) 3 3] 112)
                simpa [ints] using this
              have hrw := World.ownsRow_lit (base := w.heap.size) (e := 112) (size := 1) ((wr.alloc (.cells #[.int .i64 (x + M), .int .i64 (R + M), .int .i64 (R + M + s)] 2)).alloc (.cells #[.int .i64 (x + M), .int .i64 (R + M + s), .int .i64 (x + M + s)] 2)) #[.slice (some ⟨wr.heap.size, 0, none⟩) 3 3, .slice (some ⟨wr.heap.size + 1, 0, none⟩) 3 3] 2 (by simp; omega) (by decide) rfl
              have e0 := hrw.cellAt 0 (by decide)
              have e1 := hrw.cellAt 1 (by decide)
              simp only [World.size_alloc, List.getElem?_cons_zero, List.getElem?_cons_succ] at e0 e1
              have E0 := Lib.hid e0
              have E1 := Lib.hid e1
              clear hrw e0 e1
              have HD2 := Lib.hid (HD1.out.up hB1)
              have hT2 := HT1.out.up hB1
              obtain ⟨rows, hrow, hrows⟩ := hT2
              have HROW := Lib.hid hrow
              have HROWS := Lib.hid hrows
              have HR1 := Lib.hid hrr1
              have HR2 := Lib.hid hrr2
              clear hB1 hrr1 hrr2 hrow hrows
              go_wp2_with (at_builtin; go_loud (refine wpList_append_own _ rfl _ _ 23 rfl w.heap.size 112 j0 (.slice none 0 0) 1 24 Try.underlying23 hj hq0 hq1 hq2 rfl (by decide) _ _ _ rfl HROW.out ⟨wr.heap.size + 1 + 1, 0, none⟩ 2 2 [.slice (some ⟨wr.heap.size, 0, none⟩) 3 3, .slice (some ⟨wr.heap.size + 1, 0, none⟩) 3 3] rfl rfl ?c1 ?c2 ?c3 ?c4 ?c5 ?_))
              case c2 => first | exact ⟨rfl, rfl⟩ | (intro u hu; simp at hu; rcases hu with rfl | rfl <;> rfl)
              case c3 => unfold maxLen; omega
              case c4 => omega
              case c5 => first | omega | (simp; omega)
              · intro v' w1 hown' hgrow hnil
                have HD3 := Lib.hid (HD2.out.put1 HXZ.out (vt' := v') HROW.out (Nat.le_refl _) hgrow)
                have hx := owns_side HD2.out.2.1 HROW.out (by decide) hgrow
                have HT3 := Lib.hid (mapSet (X := X) (j := 1) (OwnT.snoc2 HROW.out HROWS.out (by rw [HE.out.1]; exact HR1.out) (by rw [HE.out.2]; exact HR2.out) hgrow hown') hx v')
                have kx := cell1_of hx
                have fx := hx.frozenAt 1
                obtain ⟨qa, qc, rfl⟩ := owns_slice hown'
                clear hown' hgrow hnil HD2 HROW HROWS HR1 HR2 hx
                go_wp2
                go_roundw
                case rel => exact ⟨x + 1, by omega, by go_num, _, HD3.out, by rw [← Nat.add_assoc, show (y * s + x + 1) * 2 = (y * s + x) * 2 + 2 by omega]; exact HT3.out⟩
                case measure => simp [intOf]; omega
            · obtain rfl : x = s := by omega
              have hx0 : ¬ ((x : Int) < (x : Int)) := by omega
              go_wp2
              go_roundw
              case rel => exact ⟨y + 1, by omega, by go_num, ut, HD1.out, by rw [show (y + 1) * x = y * x + x by rw [Nat.add_mul]; omega]; exact HT1.out⟩
              case measure => simp [intOf]; omega
        · obtain rfl : y = h := by omega
          have hy1 : ¬ ((y : Int) < (y : Int)) := by omega
          obtain ⟨qa, qc, rfl⟩ := owns_slice HD.out.2.2.2
          obtain ⟨ru, cu, rfl⟩ := OwnT.slice HT.out
          have k0 := HD.out.cell0
          have k1 := HD.out.cell1
          have z0 := cell0_of HD.out.2.2.1
          have z1 := cell1_of HD.out.2.2.1
          have f0 := HD.out.2.2.1.frozenAt 0
          have f1 := HD.out.2.2.1.frozenAt 1
          go_wp2
          have x0 : ∀ u, (wr.setCell ⟨w.heap.size, 0, none⟩ u).cell? ⟨w.heap.size, 1, none⟩ = some (.slice none 0 0) := fun u => by rw [World.cell?_setCell_other _ _ _ _ (by simp)]; exact z1
          have r1 : ∀ u v, ((wr.setCell ⟨w.heap.size, 0, none⟩ u).setCell ⟨w.heap.size, 1, none⟩ v).cell? ⟨w.heap.size, 1, none⟩ = some v := fun u v => World.cell?_setCell_same _ _ _ (x0 u)
          have r0 : ∀ u v, ((wr.setCell ⟨w.heap.size, 0, none⟩ u).setCell ⟨w.heap.size, 1, none⟩ v).cell? ⟨w.heap.size, 0, none⟩ = some u := fun u v => by rw [World.cell?_setCell_other _ _ _ _ (by simp)]; exact World.cell?_setCell_same _ _ _ z0
          have hZ := HD.out.2.2.1.stored 0 (.slice qa ((y + 1) * s) qc)
          have hZ2 := hZ.1.stored 1 (.slice ru (y * s * 2) cu)
          refine bodyPost_ret (v := .agg #[.slice qa ((y + 1) * s) qc, .slice ru (y * s * 2) cu]) (by simp [results, Try.results94, go_sem, r0, r1]) rfl ⟨⟨_, _, rfl, _, ?_, HP.out, ?_⟩, ?_⟩
          · exact owns_side (owns_side HD.out.2.2.2 HD.out.2.2.1 (by decide) hZ.2) hZ.1 (by decide) hZ2.2
          · exact (HT.out.side HD.out.2.2.1 hZ.2 (by decide) (by decide)).side hZ.1 hZ2.2 (by decide) (by decide)
          · exact (HD.out.1.setCell (Nat.le_refl _) _).setCell (Nat.le_refl _) _
end Go.Proofs.Ytljpjmkickkcpab

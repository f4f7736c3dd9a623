
/-
Grids: what the model makes. Conditions: none.
-/
import Derived.Test.YtljpjmkickkcpabGdA
namespace Go.Proofs.Ytljpjmkickkcpab
open Go Fk Go.RowKit
set_option linter.unusedVariables false
set_option maxRecDepth 8000
/-- A new list of places is stored behind an append. -/
theorem LD.put0 {w0 w w' : World} {X Z pl pl' : Nat} {va vt va' : Value} {xs xs' : List Value} (h : LD w0 X Z va vt pl xs w) (hxz : X ≠ Z) (hg : w.grownBy w' va.ownBlock) (hu : w'.ownsRow w0.heap.size 39 3 va' pl' xs') : LD w0 X Z va' vt pl' xs' (w'.setCell ⟨X, 0, none⟩ va') := by
  have hb := h.1.grown hg h.1.size (fun k hk => (h.2.2.2.lt k hk).1)
  have hx := owns_side h.2.1 h.2.2.2 (by decide) hg
  have hz := owns_side h.2.2.1 h.2.2.2 (by decide) hg
  have hs := hx.stored 0 va'
  have hl := (hx.lt X rfl).1
  exact ⟨hb.setCell hl _, hs.1, hz.kept hs.2 (.inr (by simp [Value.ownBlock]; exact fun e => hxz e.symm)), owns_side hu hx (by decide) hs.2⟩
theorem OwnT.put0 {base n : Nat} {w0 w w' : World} {X Z pl : Nat} {v va vt va' : Value} {xs : List Value} {ts : List (List Int)} (k : OwnT base w v n ts) (h : LD w0 X Z va vt pl xs w) (hg : w.grownBy w' va.ownBlock) : OwnT base (w'.setCell ⟨X, 0, none⟩ va') v n ts := by
  have hx := owns_side h.2.1 h.2.2.2 (by decide) hg
  exact mapSet (k.side h.2.2.2 hg (by decide) (by decide)) hx va'
theorem OwnT.snoc2 {base k : Nat} {w w' : World} {v v' : Value} {ts : List (List Int)} {rows : List Value} {u u2 : Value} (h1 : w.ownsRow base 112 1 v k rows) (h2 : ∀ j, j < k → ∃ u, rows[j]? = some u ∧ w.ownsRow base 2 1 u (ts.getD j []).length (ints (ts.getD j [])))
    (hu : w.ownsRow base 2 1 u (ts.getD k []).length (ints (ts.getD k []))) (hu2 : w.ownsRow base 2 1 u2 (ts.getD (k + 1) []).length (ints (ts.getD (k + 1) []))) (hg : w.grownBy w' v.ownBlock) (hv : w'.ownsRow base 112 1 v' (k + 2) (rows ++ [u, u2])) : OwnT base w' v' (k + 2) ts := by
  refine ⟨_, hv, fun j hj => ?_⟩
  have hl : rows.length = k := by rw [h1.1]; omega
  by_cases hjk : j < k
  · obtain ⟨u', e1, e2⟩ := h2 j hjk
    exact ⟨u', by rw [List.getElem?_append_left (by omega)]; exact e1, owns_side e2 h1 (by decide) hg⟩
  · by_cases hjk' : j = k
    · subst hjk'
      exact ⟨u, by rw [List.getElem?_append_right (by omega), hl]; simp, owns_side hu h1 (by decide) hg⟩
    · obtain rfl : j = k + 1 := by omega
      exact ⟨u2, by rw [List.getElem?_append_right (by omega), hl, show k + 1 - k = 1 by omega]; rfl, owns_side hu2 h1 (by decide) hg⟩
/-- A new list of triangles is stored behind an append. -/
theorem LD.put1 {w0 w w' : World} {X Z pl k : Nat} {va vt vt' : Value} {xs rows : List Value} {b : Nat} (h : LD w0 X Z va vt pl xs w) (hxz : X ≠ Z) (h1 : w.ownsRow b 112 1 vt k rows) (hb : w0.heap.size ≤ b) (hg : w.grownBy w' vt.ownBlock) : LD w0 X Z va vt' pl xs (w'.setCell ⟨X, 1, none⟩ vt') :=
  (h.grow h1 hb hg).set1 hxz vt'
theorem grid_rows {v h q : Nat} (hq : q < h * v) {g : Int} (hg : gridI v q = g) : (gridTs v h).getD (q * 2) [] = [g, g + 1, g + v + 1 + 1] ∧ (gridTs v h).getD (q * 2 + 1) [] = [g, g + v + 1 + 1, g + v + 1] := by
  constructor
  · rw [gridTs_get (by omega)]; unfold triG; rw [if_pos (by omega), show q * 2 / 2 = q by omega, hg]
  · rw [gridTs_get (by omega)]; unfold triG; rw [if_neg (by omega), show (q * 2 + 1) / 2 = q by omega, hg]
set_option maxHeartbeats 4000000 in
theorem l02Grid (v h : Nat) (z : Nat) (d : Option Nat) (w : World) (hv1 : 1 ≤ v) (hv2 : v < 64) (hh1 : 1 ≤ h) (hh2 : h < 64) (hz : FV .f32 z d) :
    Calls Try.prog 91 #[.int .i64 v, .int .i64 h, .float .f32 z] w fun e w' => (∃ va vt xs, e = .returned (.agg #[va, vt]) ∧ w'.ownsRow w.heap.size 39 3 va ((h + 1) * (v + 1)) xs ∧ PVf ((h + 1) * (v + 1)) xs (gridC d (v + 1)) ∧ OwnT w.heap.size w' vt (h * v * 2) (gridTs v h)) ∧ Below w.heap.size w w' := by
  have um := Try.underlying32
  have uv := Try.underlying39
  have u := Try.underlying27
  have ui := Try.underlying2
  obtain ⟨i0, hi, hz0, hz1, hz2⟩ := info_parts infoV
  obtain ⟨j0, hj, hq0, hq1, hq2⟩ := info_parts infoS
  have HZ := Lib.hid hz
  clear hz
  go_enter Try.func91, Try.ntmps91
  go_wp2
  have hD : LD w (w.heap.size + 1 + 1 + 1) w.heap.size (.slice (some ⟨w.heap.size + 1, 0, none⟩) 0 0) (.slice (some ⟨w.heap.size + 1 + 1, 0, none⟩) 0 0) 0 [] ((((w.alloc (.cells #[.slice none 0 0, .slice none 0 0] 32)).alloc (.cells #[] 39)).alloc (.cells #[] 112)).alloc (.cells #[.slice (some ⟨w.heap.size + 1, 0, none⟩) 0 0, .slice (some ⟨w.heap.size + 1 + 1, 0, none⟩) 0 0] 32)) := by
    refine ⟨(((((Below.refl _ _).alloc (Nat.le_refl _) _).alloc (by simp) _).alloc (by simp; omega) _).alloc (by simp; omega) _), ?_, ?_, ?_⟩
    · have := World.ownsRow_lit (base := w.heap.size) (e := 32) (size := 2) (((w.alloc (.cells #[.slice none 0 0, .slice none 0 0] 32)).alloc (.cells #[] 39)).alloc (.cells #[] 112)) #[.slice (some ⟨w.heap.size + 1, 0, none⟩) 0 0, .slice (some ⟨w.heap.size + 1 + 1, 0, none⟩) 0 0] 1 (by simp; omega) (by decide) rfl
      simpa using this
    · exact ((((World.ownsRow_lit (base := w.heap.size) (e := 32) (size := 2) w #[.slice none 0 0, .slice none 0 0] 1 (Nat.le_refl _) (by decide) rfl).alloc _).alloc _).alloc _)
    · have := World.ownsRow_lit (base := w.heap.size) (e := 39) (size := 3) (w.alloc (.cells #[.slice none 0 0, .slice none 0 0] 32)) #[] 0 (by simp) (by decide) rfl
      have := (this.alloc (.cells #[] 112)).alloc (.cells #[.slice (some ⟨w.heap.size + 1, 0, none⟩) 0 0, .slice (some ⟨w.heap.size + 1 + 1, 0, none⟩) 0 0] 32)
      simpa using this
  have hT : OwnT w.heap.size ((((w.alloc (.cells #[.slice none 0 0, .slice none 0 0] 32)).alloc (.cells #[] 39)).alloc (.cells #[] 112)).alloc (.cells #[.slice (some ⟨w.heap.size + 1, 0, none⟩) 0 0, .slice (some ⟨w.heap.size + 1 + 1, 0, none⟩) 0 0] 32)) (.slice (some ⟨w.heap.size + 1 + 1, 0, none⟩) 0 0) 0 (gridTs v h) := by
    have := World.ownsRow_lit (base := w.heap.size) (e := 112) (size := 1) ((w.alloc (.cells #[.slice none 0 0, .slice none 0 0] 32)).alloc (.cells #[] 39)) #[] 0 (by simp; omega) (by decide) rfl
    have := this.alloc (.cells #[.slice (some ⟨w.heap.size + 1, 0, none⟩) 0 0, .slice (some ⟨w.heap.size + 1 + 1, 0, none⟩) 0 0] 32)
    exact ⟨[], by simpa using this, fun j hj => absurd hj (by omega)⟩
  have HD := Lib.hid hD
  have HT := Lib.hid hT
  clear hD hT
  generalize ((((w.alloc (.cells #[.slice none 0 0, .slice none 0 0] 32)).alloc (.cells #[] 39)).alloc (.cells #[] 112)).alloc (.cells #[.slice (some ⟨w.heap.size + 1, 0, none⟩) 0 0, .slice (some ⟨w.heap.size + 1 + 1, 0, none⟩) 0 0] 32)) = W at *
  have HXZ := Lib.hid (show w.heap.size + 1 + 1 + 1 ≠ w.heap.size by omega)
  generalize w.heap.size + 1 + 1 + 1 = X at *
  generalize (.slice (some ⟨w.heap.size + 1, 0, none⟩) 0 0 : Value) = va0 at *
  generalize (.slice (some ⟨w.heap.size + 1 + 1, 0, none⟩) 0 0 : Value) = vt0 at *
  go_loopw [8] (fun i w' => ∃ y : Nat, y ≤ h + 1 ∧ i = .int .i64 y ∧ Aside (∃ va xs, LD w X w.heap.size va vt0 (y * (v + 1)) xs w' ∧ PVf (y * (v + 1)) xs (gridC d (v + 1)) ∧ OwnT w.heap.size w' vt0 0 (gridTs v h))) (fun i _ => h + 1 - (intOf i).toNat)
  case atStart => exact ⟨0, Nat.zero_le _, rfl, va0, [], by rw [Nat.zero_mul]; exact HD.out, fun j hj => absurd hj (by omega), HT.out⟩
  case round =>
    obtain ⟨y, hy, rfl, hA⟩ := hrel
    obtain ⟨va, xs, hD, hpv, hT⟩ := hA.out
    have HD := Lib.hid hD
    have HP := Lib.hid hpv
    have HT := Lib.hid hT
    clear hA hD hpv hT
    by_cases hlt : y ≤ h
    · have hy0 : (y : Int) ≤ (h : Int) := by omega
      go_wp2
      go_loopw [9] (fun i w' => ∃ x : Nat, x ≤ v + 1 ∧ i = .int .i64 x ∧ Aside (∃ va xs, LD w X w.heap.size va vt0 (y * (v + 1) + x) xs w' ∧ PVf (y * (v + 1) + x) xs (gridC d (v + 1)) ∧ OwnT w.heap.size w' vt0 0 (gridTs v h))) (fun i _ => v + 1 - (intOf i).toNat)
      case atStart => exact ⟨0, Nat.zero_le _, rfl, va, xs, HD.out, HP.out, HT.out⟩
      case round =>
        obtain ⟨x, hx, rfl, hA⟩ := hrel
        obtain ⟨ua, ys, hD, hpv, hT⟩ := hA.out
        have HD1 := Lib.hid hD
        have HP1 := Lib.hid hpv
        have HT1 := Lib.hid hT
        clear hA hD hpv hT
        by_cases hltx : x ≤ v
        · have hx0 : (x : Int) ≤ (v : Int) := by omega
          have hle : y * (v + 1) + x ≤ 8192 := by
            have : y * (v + 1) ≤ 64 * 64 := Nat.mul_le_mul (by omega) (by omega)
            omega
          have k0 := HD1.out.cell0
          have F1 : Hid (FV .f32 (fR .mul .f32 (floatOfInt .f32 (x : Int)) z wr) (fop .mul .f32 (some (floatOfInt .f32 (x : Int))) d)) := Lib.hid (FV_fR (fv_int32 x) HZ.out)
          have F2 : Hid (FV .f32 (fR .mul .f32 (floatOfInt .f32 (y : Int)) z (wr.drewN (fN .mul .f32 (floatOfInt .f32 (x : Int)) z))) (fop .mul .f32 (some (floatOfInt .f32 (y : Int))) d)) := Lib.hid (FV_fR (fv_int32 y) HZ.out)
          have hbz := HD1.out.1.size
          have HB1 : Below w.heap.size w (wr.alloc (.cells #[.float .f32 (fR .mul .f32 (floatOfInt .f32 (x : Int)) z wr), .float .f32 (fR .mul .f32 (floatOfInt .f32 (y : Int)) z (wr.drewN (fN .mul .f32 (floatOfInt .f32 (x : Int)) z))), .float .f32 0] 39)) := HD1.out.1.alloc hbz _
          have hB1 : Below wr.heap.size wr (wr.alloc (.cells #[.float .f32 (fR .mul .f32 (floatOfInt .f32 (x : Int)) z wr), .float .f32 (fR .mul .f32 (floatOfInt .f32 (y : Int)) z (wr.drewN (fN .mul .f32 (floatOfInt .f32 (x : Int)) z))), .float .f32 0] 39)) := (Below.refl _ _).alloc (Nat.le_refl _) _
          have HD2 := Lib.hid (HD1.out.up (below_drewN hB1 (fN .mul .f32 (floatOfInt .f32 (x : Int)) z + fN .mul .f32 (floatOfInt .f32 (y : Int)) z)))
          have HT2 := Lib.hid (HT1.out.up (below_drewN hB1 (fN .mul .f32 (floatOfInt .f32 (x : Int)) z + fN .mul .f32 (floatOfInt .f32 (y : Int)) z)))
          clear HB1 hB1
          go_wp2_with (at_builtin; go_loud (refine wpList_append_own _ rfl _ _ 30 rfl w.heap.size 39 i0 (.agg #[.float .f32 0, .float .f32 0, .float .f32 0]) 3 12 Try.underlying30 hi hz0 hz1 hz2 rfl (by decide) _ _ _ rfl HD2.out.2.2.2 ⟨wr.heap.size, 0, none⟩ 1 1 [.float .f32 (fR .mul .f32 (floatOfInt .f32 (x : Int)) z wr), .float .f32 (fR .mul .f32 (floatOfInt .f32 (y : Int)) z (wr.drewN (fN .mul .f32 (floatOfInt .f32 (x : Int)) z))), .float .f32 0] rfl rfl ?c1 ?c2 ?c3 ?c4 ?c5 ?_))
          case c1 =>
            intro j u hj
            match j, hj with
            | 0, hj => simp at hj; subst hj; simp [Addr.add]
            | 1, hj => simp at hj; subst hj; simp [Addr.add]
            | 2, hj => simp at hj; subst hj; simp [Addr.add]
            | j + 3, hj => simp at hj
          case c2 => intro u hu; simp at hu; rcases hu with rfl | rfl | rfl <;> rfl
          case c3 => unfold maxLen; omega
          case c4 => omega
          case c5 => simp; omega
          · intro v' w1 hown' hgrow hnil
            have HD3 := Lib.hid (HD2.out.put0 HXZ.out hgrow hown')
            have HT3 := Lib.hid (HT2.out.put0 (va' := v') HD2.out hgrow)
            have HO2 := Lib.hid hown'
            have kx := cell0_of (owns_side HD2.out.2.1 HD2.out.2.2.2 (by decide) hgrow)
            have fx := (owns_side HD2.out.2.1 HD2.out.2.2.2 (by decide) hgrow).frozenAt 0
            obtain ⟨qa, qc, rfl⟩ := owns_slice hown'
            clear hown' hgrow hnil HD2 HT2
            go_wp2
            go_roundw
            case rel => exact ⟨x + 1, by omega, by go_num, _, _, HD3.out, HP1.out.snoc HD1.out.2.2.2.1 (by rw [gridC_at (by omega)]; exact ⟨F1.out, F2.out, fv00⟩), HT3.out⟩
            case measure => simp [intOf]; omega
        · obtain rfl : x = v + 1 := by omega
          have hx0 : ¬ (((v + 1 : Nat) : Int) ≤ (v : Int)) := by omega
          go_wp2
          go_roundw
          case rel => exact ⟨y + 1, by omega, by go_num, ua, ys, by rw [show (y + 1) * (v + 1) = y * (v + 1) + (v + 1) by rw [Nat.add_mul]; omega]; exact HD1.out, by rw [show (y + 1) * (v + 1) = y * (v + 1) + (v + 1) by rw [Nat.add_mul]; omega]; exact HP1.out, HT1.out⟩
          case measure => simp [intOf]; omega
    · obtain rfl : y = h + 1 := by omega
      have hy0 : ¬ (((h + 1 : Nat) : Int) ≤ (h : Int)) := by omega
      go_wp2
      go_loopw [10] (fun i w' => ∃ y : Nat, y ≤ h ∧ i = .int .i64 y ∧ Aside (∃ vt, LD w X w.heap.size va vt ((h + 1) * (v + 1)) xs w' ∧ OwnT w.heap.size w' vt (y * v * 2) (gridTs v h))) (fun i _ => h - (intOf i).toNat)
      case atStart => exact ⟨0, Nat.zero_le _, rfl, vt0, HD.out, by rw [Nat.zero_mul, Nat.zero_mul]; exact HT.out⟩
      case round =>
        obtain ⟨y, hy, rfl, hA⟩ := hrel
        obtain ⟨vt, hD, hT⟩ := hA.out
        have HD := Lib.hid hD
        have HT := Lib.hid hT
        clear hA hD hT
        by_cases hlt : y < h
        · have hy1 : (y : Int) < (h : Int) := by omega
          go_wp2
          go_loopw [11] (fun i w' => ∃ x : Nat, x ≤ v ∧ i = .int .i64 x ∧ Aside (∃ vt, LD w X w.heap.size va vt ((h + 1) * (v + 1)) xs w' ∧ OwnT w.heap.size w' vt ((y * v + x) * 2) (gridTs v h))) (fun i _ => v - (intOf i).toNat)
          case atStart => exact ⟨0, Nat.zero_le _, rfl, vt, HD.out, HT.out⟩
          case round =>
            obtain ⟨x, hx, rfl, hA⟩ := hrel
            obtain ⟨ut, hD, hT⟩ := hA.out
            have HD1 := Lib.hid hD
            have HT1 := Lib.hid hT
            clear hA hD hT
            by_cases hltx : x < v
            · have hx0 : (x : Int) < (v : Int) := by omega
              have hle : (y * v + x) * 2 ≤ 8192 := by
                have : y * v ≤ 64 * 63 := Nat.mul_le_mul (by omega) (by omega)
                omega
              have hm : ((v : Int) + 1) * (y : Int) ≤ 4096 := by
                have : (v + 1) * y ≤ 64 * 63 := Nat.mul_le_mul (by omega) (by omega)
                have h2 : ((v : Int) + 1) * (y : Int) = (((v + 1) * y : Nat) : Int) := by push_cast; rfl
                omega
              have hm0 : 0 ≤ ((v : Int) + 1) * (y : Int) := Int.mul_nonneg (by omega) (by omega)
              have hk : gridI v (y * v + x) = (x : Int) + ((v : Int) + 1) * y := gridI_at hltx
              have HE := Lib.hid (grid_rows (grid_q hltx hlt) hk)
              have hbz := HD1.out.1.size
              have k1 := HD1.out.cell1
              clear hk
              generalize hM : ((v : Int) + 1) * (y : Int) = M at *
              have hB1 : Below wr.heap.size wr (((wr.alloc (.cells #[.int .i64 (x + M), .int .i64 (x + M + 1), .int .i64 (x + M + v + 1 + 1)] 2)).alloc (.cells #[.int .i64 (x + M), .int .i64 (x + M + v + 1 + 1), .int .i64 (x + M + v + 1)] 2)).alloc (.cells #[.slice (some ⟨wr.heap.size, 0, none⟩) 3 3, .slice (some ⟨wr.heap.size + 1, 0, none⟩) 3 3] 112)) := (((Below.refl _ _).alloc (Nat.le_refl _) _).alloc (by simp) _).alloc (by simp; omega) _
              have hr1 : (((wr.alloc (.cells #[.int .i64 (x + M), .int .i64 (x + M + 1), .int .i64 (x + M + v + 1 + 1)] 2)).alloc (.cells #[.int .i64 (x + M), .int .i64 (x + M + v + 1 + 1), .int .i64 (x + M + v + 1)] 2)).alloc (.cells #[.slice (some ⟨wr.heap.size, 0, none⟩) 3 3, .slice (some ⟨wr.heap.size + 1, 0, none⟩) 3 3] 112)).ownsRow w.heap.size 2 1 (.slice (some ⟨wr.heap.size, 0, none⟩) 3 3) 3 (ints [x + M, x + M + 1, x + M + v + 1 + 1]) :=
                ((World.ownsRow_lit (base := w.heap.size) (e := 2) (size := 1) wr #[.int .i64 (x + M), .int .i64 (x + M + 1), .int .i64 (x + M + v + 1 + 1)] 3 hbz (by decide) rfl).alloc _).alloc _
              have hr2 : (((wr.alloc (.cells #[.int .i64 (x + M), .int .i64 (x + M + 1), .int .i64 (x + M + v + 1 + 1)] 2)).alloc (.cells #[.int .i64 (x + M), .int .i64 (x + M + v + 1 + 1), .int .i64 (x + M + v + 1)] 2)).alloc (.cells #[.slice (some ⟨wr.heap.size, 0, none⟩) 3 3, .slice (some ⟨wr.heap.size + 1, 0, none⟩) 3 3] 112)).ownsRow w.heap.size 2 1 (.slice (some ⟨wr.heap.size + 1, 0, none⟩) 3 3) 3 (ints [x + M, x + M + v + 1 + 1, x + M + v + 1]) := by
                have := (World.ownsRow_lit (base := w.heap.size) (e := 2) (size := 1) (wr.alloc (.cells #[.int .i64 (x + M), .int .i64 (x + M + 1), .int .i64 (x + M + v + 1 + 1)] 2)) #[.int .i64 (x + M), .int .i64 (x + M + v + 1 + 1), .int .i64 (x + M + v + 1)] 3 (by simp; omega) (by decide) rfl).alloc (.cells #[.slice (some ⟨wr.heap.size, 0, none⟩) 3 3, .slice (some ⟨wr.heap.size + 1, 0, none⟩) 3 3] 112)
                simpa [ints] using this
              have hrw := World.ownsRow_lit (base := w.heap.size) (e := 112) (size := 1) ((wr.alloc (.cells #[.int .i64 (x + M), .int .i64 (x + M + 1), .int .i64 (x + M + v + 1 + 1)] 2)).alloc (.cells #[.int .i64 (x + M), .int .i64 (x + M + v + 1 + 1), .int .i64 (x + M + v + 1)] 2)) #[.slice (some ⟨wr.heap.size, 0, none⟩) 3 3, .slice (some ⟨wr.heap.size + 1, 0, none⟩) 3 3] 2 (by simp; omega) (by decide) rfl
              have e0 := hrw.cellAt 0 (by decide)
              have e1 := hrw.cellAt 1 (by decide)
              simp only [World.size_alloc, List.getElem?_cons_zero, List.getElem?_cons_succ] at e0 e1
              have E0 := Lib.hid e0
              have E1 := Lib.hid e1
              clear hrw e0 e1
              have HD2 := Lib.hid (HD1.out.up hB1)
              have hT2 := HT1.out.up hB1
              obtain ⟨rows, hrow, hrows⟩ := hT2
              have HROW := Lib.hid hrow
              have HROWS := Lib.hid hrows
              have HR1 := Lib.hid hr1
              have HR2 := Lib.hid hr2
              clear hB1 hr1 hr2 hrow hrows
              go_wp2_with (at_builtin; go_loud (refine wpList_append_own _ rfl _ _ 23 rfl w.heap.size 112 j0 (.slice none 0 0) 1 24 Try.underlying23 hj hq0 hq1 hq2 rfl (by decide) _ _ _ rfl HROW.out ⟨wr.heap.size + 1 + 1, 0, none⟩ 2 2 [.slice (some ⟨wr.heap.size, 0, none⟩) 3 3, .slice (some ⟨wr.heap.size + 1, 0, none⟩) 3 3] rfl rfl ?c1 ?c2 ?c3 ?c4 ?c5 ?_))
              case c1 =>
                intro j u hj
                match j, hj with
                | 0, hj => simp at hj; subst hj; simpa [Addr.add] using E0.out
                | 1, hj => simp at hj; subst hj; simpa [Addr.add] using E1.out
                | j + 2, hj => simp at hj
              case c2 => intro u hu; simp at hu; rcases hu with rfl | rfl <;> rfl
              case c3 => unfold maxLen; omega
              case c4 => omega
              case c5 => simp; omega
              · intro v' w1 hown' hgrow hnil
                have HD3 := Lib.hid (HD2.out.put1 HXZ.out (vt' := v') HROW.out (Nat.le_refl _) hgrow)
                have hx := owns_side HD2.out.2.1 HROW.out (by decide) hgrow
                have HT3 := Lib.hid (mapSet (X := X) (j := 1) (OwnT.snoc2 HROW.out HROWS.out (by rw [HE.out.1]; exact HR1.out) (by rw [HE.out.2]; exact HR2.out) hgrow hown') hx v')
                have kx := cell1_of hx
                have fx := hx.frozenAt 1
                obtain ⟨qa, qc, rfl⟩ := owns_slice hown'
                clear hown' hgrow hnil HD2 HROW HROWS HR1 HR2 hx
                go_wp2
                go_roundw
                case rel => exact ⟨x + 1, by omega, by go_num, _, HD3.out, by rw [← Nat.add_assoc, show (y * v + x + 1) * 2 = (y * v + x) * 2 + 2 by omega]; exact HT3.out⟩
                case measure => simp [intOf]; omega
            · obtain rfl : x = v := by omega
              have hx0 : ¬ ((x : Int) < (x : Int)) := by omega
              go_wp2
              go_roundw
              case rel => exact ⟨y + 1, by omega, by go_num, ut, HD1.out, by rw [show (y + 1) * x = y * x + x by rw [Nat.add_mul]; omega]; exact HT1.out⟩
              case measure => simp [intOf]; omega
        · obtain rfl : y = h := by omega
          have hy1 : ¬ ((y : Int) < (y : Int)) := by omega
          obtain ⟨qa, qc, rfl⟩ := owns_slice HD.out.2.2.2
          obtain ⟨ru, cu, rfl⟩ := OwnT.slice HT.out
          have k0 := HD.out.cell0
          have k1 := HD.out.cell1
          have z0 := cell0_of HD.out.2.2.1
          have z1 := cell1_of HD.out.2.2.1
          have f0 := HD.out.2.2.1.frozenAt 0
          have f1 := HD.out.2.2.1.frozenAt 1
          go_wp2
          have x0 : ∀ u, (wr.setCell ⟨w.heap.size, 0, none⟩ u).cell? ⟨w.heap.size, 1, none⟩ = some (.slice none 0 0) := fun u => by rw [World.cell?_setCell_other _ _ _ _ (by simp)]; exact z1
          have r1 : ∀ u v, ((wr.setCell ⟨w.heap.size, 0, none⟩ u).setCell ⟨w.heap.size, 1, none⟩ v).cell? ⟨w.heap.size, 1, none⟩ = some v := fun u v => World.cell?_setCell_same _ _ _ (x0 u)
          have r0 : ∀ u v, ((wr.setCell ⟨w.heap.size, 0, none⟩ u).setCell ⟨w.heap.size, 1, none⟩ v).cell? ⟨w.heap.size, 0, none⟩ = some u := fun u v => by rw [World.cell?_setCell_other _ _ _ _ (by simp)]; exact World.cell?_setCell_same _ _ _ z0
          have hZ := HD.out.2.2.1.stored 0 (.slice qa ((y + 1) * (v + 1)) qc)
          have hZ2 := hZ.1.stored 1 (.slice ru (y * v * 2) cu)
          refine bodyPost_ret (v := .agg #[.slice qa ((y + 1) * (v + 1)) qc, .slice ru (y * v * 2) cu]) (by simp [results, Try.results91, go_sem, r0, r1]) rfl ⟨⟨_, _, rfl, _, ?_, HP.out, ?_⟩, ?_⟩
          · exact owns_side (owns_side HD.out.2.2.2 HD.out.2.2.1 (by decide) hZ.2) hZ.1 (by decide) hZ2.2
          · exact (HT.out.side HD.out.2.2.1 hZ.2 (by decide) (by decide)).side hZ.1 hZ2.2 (by decide) (by decide)
          · exact (HD.out.1.setCell (Nat.le_refl _) _).setCell (Nat.le_refl _) _
end Go.Proofs.Ytljpjmkickkcpab

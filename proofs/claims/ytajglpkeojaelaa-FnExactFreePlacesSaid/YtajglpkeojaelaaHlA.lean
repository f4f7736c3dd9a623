
/-
Lists of holds: copies, and that two are the same: what the law's own functions return. Conditions: at most 2^20 of them.
-/
import Derived.Test.YtajglpkeojaelaaHoC
import Derived.Test.YtajglpkeojaelaaSetL
import Derived.Test.YtajglpkeojaelaaMwD
namespace Go.Proofs.Ytajglpkeojaelaa
open Go Fk Go.RowKit
set_option linter.unusedVariables false
set_option maxRecDepth 8000

theorem infoH : (Try.prog.info? 119).map (fun i => (i.zero, i.size, i.bytes)) = some (some (.agg #[.int .i64 0, .int .i64 0, .float .f32 0, .float .f32 0, .float .f32 0, .float .f32 0, .float .f32 0, .float .f32 0]), 8, 40) := by kernel_rfl
theorem laws_szHoldS (a : Option Addr) (len cap : Nat) (left : Int) (w : World) (h0 : 0 ≤ left) (h1 : left ≤ 1048576) (h2 : len ≤ 9223372036854775807) :
    Calls Try.prog 36 #[.slice a len cap, .int .i64 left] w fun e w' => (∃ r : Int, e = .returned (.int .i64 r) ∧ (r = -1 ∨ (0 ≤ r ∧ r ≤ 1048576 ∧ len ≤ 1048576))) ∧ w' = w := by
  by_cases h : left < len
  · go_enter Try.func36, Try.ntmps36
    go_wp2
    go_ret
    exact ⟨⟨-1, rfl, .inl rfl⟩, rfl⟩
  · go_enter Try.func36, Try.ntmps36
    go_wp2
    go_ret
    exact ⟨⟨_, rfl, .inr ⟨by omega, by omega, by omega⟩⟩, rfl⟩
set_option maxHeartbeats 1000000 in
theorem laws_toHoldS (a : Option Addr) (len cap : Nat) (hs : List HC) (w : World) (h : IsHs w a len cap hs) (hlen : len ≤ 1048576) :
    Calls Try.prog 39 #[.slice a len cap] w fun e w' => e = .returned (.slice (some ⟨w.heap.size, 0, none⟩) len len) ∧ IsHs w' (some ⟨w.heap.size, 0, none⟩) len len hs ∧ Below w.heap.size w w' := by
  have uh := Try.underlying119
  have ul := Try.underlying122
  obtain ⟨i0, hi, hz0, hz1, hz2⟩ := info_parts infoH
  have hzl := h.1
  have hwf := h.2.2.2.1
  obtain ⟨g, hg⟩ : ∃ g, g = w.heap.size := ⟨_, rfl⟩
  have hmk : (Instr.makeSlice 72 (.int .i64 len) (.int .i64 len)).run Try.prog w = .ok (.slice (some ⟨g, 0, none⟩) len len) (w.alloc (.cells (madeCells #[.int .i64 0, .int .i64 0, .float .f32 0, .float .f32 0, .float .f32 0, .float .f32 0, .float .f32 0, .float .f32 0] (len * 8)) 119)) := by
    have := run_make (P := Try.prog) w 72 119 i0 (.agg #[.int .i64 0, .int .i64 0, .float .f32 0, .float .f32 0, .float .f32 0, .float .f32 0, .float .f32 0, .float .f32 0]) Try.underlying72 hi hz0 .i64 .i64 len len (by omega) (Int.le_refl _) (by rw [hz2]; omega) (by omega)
    rw [this, hz1, hg]; simp; rfl
  have hstart : Below w.heap.size w (w.alloc (.cells (madeCells #[.int .i64 0, .int .i64 0, .float .f32 0, .float .f32 0, .float .f32 0, .float .f32 0, .float .f32 0, .float .f32 0] (len * 8)) 119)) ∧ g < (w.alloc (.cells (madeCells #[.int .i64 0, .int .i64 0, .float .f32 0, .float .f32 0, .float .f32 0, .float .f32 0, .float .f32 0, .float .f32 0] (len * 8)) 119)).heap.size ∧
      (∀ j, j < len * 8 → ∃ v, (w.alloc (.cells (madeCells #[.int .i64 0, .int .i64 0, .float .f32 0, .float .f32 0, .float .f32 0, .float .f32 0, .float .f32 0, .float .f32 0] (len * 8)) 119)).cell? ⟨g, j, none⟩ = some v) ∧ (∀ j, (w.alloc (.cells (madeCells #[.int .i64 0, .int .i64 0, .float .f32 0, .float .f32 0, .float .f32 0, .float .f32 0, .float .f32 0, .float .f32 0] (len * 8)) 119)).frozen? ⟨g, j, none⟩ = false) := by
    subst hg
    exact ⟨(Below.refl _ _).alloc (Nat.le_refl _) _, by simp, fun j hj => made_cell3 w _ (len * 8) j _ hj, fun j => by simp⟩
  rw [← hg] at hstart ⊢
  have HST := Lib.hid hstart
  have HG := Lib.hid hg
  have H := Lib.hid h
  have HWF := Lib.hid hwf
  clear hstart hg h hwf
  go_enter Try.func39, Try.ntmps39
  go_wp2
  generalize hw0 : (w.alloc (.cells (madeCells #[.int .i64 0, .int .i64 0, .float .f32 0, .float .f32 0, .float .f32 0, .float .f32 0, .float .f32 0, .float .f32 0] (len * 8)) 119)) = w0 at HST ⊢
  go_loopw [4] (fun i w' => ∃ k : Nat, k ≤ len ∧ i = .int .i64 k ∧ Aside ((Below g w w' ∧ g < w'.heap.size ∧ (∀ j, j < len * 8 → ∃ v, w'.cell? ⟨g, j, none⟩ = some v) ∧ (∀ j, w'.frozen? ⟨g, j, none⟩ = false)) ∧
      ∀ j, j < k → ∃ q : HW, q.At w' g (j * 8) ∧ q.Is (hs.getD j hd0))) (fun i _ => len - (intOf i).toNat)
  case atStart => exact ⟨0, Nat.zero_le _, rfl, HST.out, fun j hj => absurd hj (by omega)⟩
  case round =>
    obtain ⟨k, hk, rfl, hA⟩ := hrel
    by_cases hlt : k < len
    · obtain ⟨⟨hB, hgs, hce, hfz⟩, hdone⟩ := hA.out
      obtain ⟨b, o, ha, hcell⟩ := (H.out.below (HG.out ▸ hB)).some (by omega)
      obtain ⟨h, hq, hqi⟩ := hcell k hlt
      rw [ha]
      have HA := Lib.hid ha
      have hk0 : (0 : Int) ≤ (k : Int) := by omega
      have hk1 : (k : Int) < (len : Int) := by omega
      have c0 := hq 0 (by omega)
      have c1 := hq 1 (by omega)
      have c2 := hq 2 (by omega)
      have c3 := hq 3 (by omega)
      have c4 := hq 4 (by omega)
      have c5 := hq 5 (by omega)
      have c6 := hq 6 (by omega)
      have c7 := hq 7 (by omega)
      simp only [HW.l, List.getElem?_cons_zero, List.getElem?_cons_succ, Nat.add_zero] at c0 c1 c2 c3 c4 c5 c6 c7
      have HD := Lib.hid hdone
      have HC := Lib.hid hce
      have HF := Lib.hid hfz
      have HB := Lib.hid hB
      have HQI := Lib.hid hqi
      clear hA hcell hdone hce hfz hB hqi ha hq
      go_wp2_with fail
      refine (laws_toHold h _).mono ?_
      rintro e w1 ⟨rfl, hB1⟩
      clear c0 c1 c2 c3 c4 c5 c6 c7
      obtain ⟨v0, hv0⟩ := HC.out (k * 8) (by omega)
      replace hv0 := (hB1.cell (p := ⟨g, k * 8, none⟩) hgs).trans hv0
      have hf0 := (hB1.frozen (p := ⟨g, k * 8, none⟩) hgs).trans (HF.out (k * 8))
      obtain ⟨v1, hv1⟩ := HC.out (k * 8 + 1) (by omega)
      replace hv1 := (hB1.cell (p := ⟨g, k * 8 + 1, none⟩) hgs).trans hv1
      have hf1 := (hB1.frozen (p := ⟨g, k * 8 + 1, none⟩) hgs).trans (HF.out (k * 8 + 1))
      obtain ⟨v2, hv2⟩ := HC.out (k * 8 + 2) (by omega)
      replace hv2 := (hB1.cell (p := ⟨g, k * 8 + 2, none⟩) hgs).trans hv2
      have hf2 := (hB1.frozen (p := ⟨g, k * 8 + 2, none⟩) hgs).trans (HF.out (k * 8 + 2))
      obtain ⟨v3, hv3⟩ := HC.out (k * 8 + 3) (by omega)
      replace hv3 := (hB1.cell (p := ⟨g, k * 8 + 3, none⟩) hgs).trans hv3
      have hf3 := (hB1.frozen (p := ⟨g, k * 8 + 3, none⟩) hgs).trans (HF.out (k * 8 + 3))
      obtain ⟨v4, hv4⟩ := HC.out (k * 8 + 4) (by omega)
      replace hv4 := (hB1.cell (p := ⟨g, k * 8 + 4, none⟩) hgs).trans hv4
      have hf4 := (hB1.frozen (p := ⟨g, k * 8 + 4, none⟩) hgs).trans (HF.out (k * 8 + 4))
      obtain ⟨v5, hv5⟩ := HC.out (k * 8 + 5) (by omega)
      replace hv5 := (hB1.cell (p := ⟨g, k * 8 + 5, none⟩) hgs).trans hv5
      have hf5 := (hB1.frozen (p := ⟨g, k * 8 + 5, none⟩) hgs).trans (HF.out (k * 8 + 5))
      obtain ⟨v6, hv6⟩ := HC.out (k * 8 + 6) (by omega)
      replace hv6 := (hB1.cell (p := ⟨g, k * 8 + 6, none⟩) hgs).trans hv6
      have hf6 := (hB1.frozen (p := ⟨g, k * 8 + 6, none⟩) hgs).trans (HF.out (k * 8 + 6))
      obtain ⟨v7, hv7⟩ := HC.out (k * 8 + 7) (by omega)
      replace hv7 := (hB1.cell (p := ⟨g, k * 8 + 7, none⟩) hgs).trans hv7
      have hf7 := (hB1.frozen (p := ⟨g, k * 8 + 7, none⟩) hgs).trans (HF.out (k * 8 + 7))
      have HB1 := Lib.hid hB1
      have HEX : Hid (∀ j, j < h.l.length → ∃ u, w1.cell? ⟨g, k * 8 + j, none⟩ = some u) := Lib.hid (fun j hj => by
        have hj8 : j < 8 := hj
        obtain ⟨u, hu⟩ := HC.out (k * 8 + j) (by omega)
        exact ⟨u, (hB1.cell (p := ⟨g, k * 8 + j, none⟩) hgs).trans hu⟩)
      clear hB1
      unfold HW.v
      go_wp2
      clear hv0 hv1 hv2 hv3 hv4 hv5 hv6 hv7 hf0 hf1 hf2 hf3 hf4 hf5 hf6 hf7
      go_roundw
      case rel =>
        have hB1 := HB1.out
        have hin := setL_in g h.l w1 (k * 8) HEX.out
        have hout := fun m hm => setL_out g m h.l w1 (k * 8) hm
        have hsz := setL_size g h.l w1 (k * 8)
        have hfr := fun i => setL_frozen g ⟨g, i, none⟩ h.l w1 (k * 8)
        have hbl : Below g w (setL w1 g (k * 8) h.l) := setL_below g (Nat.le_refl _) h.l w1 (k * 8) (HB.out.trans (hB1.mono (by omega)))
        refine ⟨k + 1, by omega, by go_num, ⟨⟨hbl, ?_, fun j hj => ?_, fun j => ?_⟩, fun j hj => ?_⟩⟩
        · show g < (setL w1 g (k * 8) h.l).heap.size
          rw [hsz]; have := hB1.size; omega
        · show ∃ v, (setL w1 g (k * 8) h.l).cell? ⟨g, j, none⟩ = some v
          by_cases hj8 : k * 8 ≤ j ∧ j < k * 8 + 8
          · have := hin (j - k * 8) (by show j - k * 8 < 8; omega)
            rw [show k * 8 + (j - k * 8) = j by omega] at this
            rw [this]
            exact ⟨_, List.getElem?_eq_getElem (by show j - k * 8 < 8; omega)⟩
          · rw [hout j (by show j < k * 8 ∨ k * 8 + 8 ≤ j; omega)]
            obtain ⟨v, hv⟩ := HC.out j hj
            exact ⟨v, (hB1.cell (p := ⟨g, j, none⟩) hgs).trans hv⟩
        · show (setL w1 g (k * 8) h.l).frozen? ⟨g, j, none⟩ = false
          rw [hfr]; exact (hB1.frozen (p := ⟨g, j, none⟩) hgs).trans (HF.out j)
        · show ∃ q : HW, q.At (setL w1 g (k * 8) h.l) g (j * 8) ∧ q.Is (hs.getD j hd0)
          by_cases hjk : j = k
          · subst hjk
            exact ⟨h, fun i hi => hin i hi, HQI.out⟩
          · obtain ⟨q, hq, hqi⟩ := HD.out j (by omega)
            refine ⟨q, fun i hi => ?_, hqi⟩
            rw [hout _ (by show j * 8 + i < k * 8 ∨ k * 8 + 8 ≤ j * 8 + i; omega)]
            exact (hB1.cell (p := ⟨g, j * 8 + i, none⟩) hgs).trans (hq i hi)
      case measure => simp [intOf]; omega
    · obtain rfl : k = len := by omega
      obtain ⟨⟨hB, hgs, hce, hfz⟩, hdone⟩ := hA.out
      have hfin : IsHs wr (some ⟨g, 0, none⟩) k k hs := by
        refine ⟨hzl, Nat.le_refl _, by unfold maxLen; omega, HWF.out, by simp, fun x hx i hi => ?_⟩
        cases hx
        obtain ⟨q, hq, hqi⟩ := hdone i hi
        exact ⟨rfl, q, by rw [Nat.zero_add]; exact hq, hqi⟩
      have HF := Lib.hid hfin
      have HB := Lib.hid hB
      clear hA hB hce hfz hdone hfin
      go_wp2
      go_ret
      exact ⟨rfl, HF.out, HB.out⟩
set_option maxHeartbeats 1000000 in
theorem laws_eqHoldS (a b : Option Addr) (len cap cap' : Nat) (hs : List HC) (w : World) (ha : IsHs w a len cap hs) (hb : IsHs w b len cap' hs) :
    Calls Try.prog 42 #[.slice a len cap, .slice b len cap'] w fun e w' => e = .returned (.bool true) ∧ Below w.heap.size w w' := by
  have hm : len ≤ 9223372036854775807 := by have h1 := ha.2.1; have h2 := ha.2.2.1; unfold maxLen at h2; omega
  have uh := Try.underlying119
  have HA := Lib.hid ha
  have HB := Lib.hid hb
  clear ha hb
  go_enter Try.func42, Try.ntmps42
  go_wp2
  go_loopw [5] (fun i w' => ∃ k : Nat, k ≤ len ∧ i = .int .i64 k ∧ Aside (Below w.heap.size w w')) (fun i _ => len - (intOf i).toNat)
  case atStart => exact ⟨0, Nat.zero_le _, rfl, Below.refl _ _⟩
  case round =>
    obtain ⟨k, hk, rfl, hR⟩ := hrel
    have HR := Lib.hid hR.out
    clear hR
    by_cases hlt : k < len
    · obtain ⟨b1, o1, rfl, hc1⟩ := (HA.out.below HR.out).some (by omega)
      obtain ⟨b2, o2, rfl, hc2⟩ := (HB.out.below HR.out).some (by omega)
      obtain ⟨h, q1, i1⟩ := hc1 k hlt
      obtain ⟨q, q2, i2⟩ := hc2 k hlt
      generalize hs.getD k hd0 = z at *
      have Qh := Lib.hid q1
      have Qq := Lib.hid q2
      have IH := Lib.hid i1
      have IQ := Lib.hid i2
      have hk0 : (0 : Int) ≤ (k : Int) := by omega
      have hk1 : (k : Int) < (len : Int) := by omega
      clear hc1 hc2 q1 q2 i1 i2
      go_wp2_with fail
      refine Reg.wp_region_mix (C := fun w' => Below wr.heap.size wr w') (G := fun _ _ => True) (R := fun i v w' => match i with | 0 => v = .slice (some ⟨b1, o1, none⟩) len cap | 1 => v = .int .i64 k | 2 => v = .pointer (some ⟨b1, o1 + k * 8, none⟩) | 3 => v = .agg #[.int .i64 h.p, .int .i64 h.k, .float .f32 h.x, .float .f32 h.y, .float .f32 h.z, .float .f32 h.s, .float .f32 h.t, .float .f32 h.u] | 4 => v = .slice (some ⟨b2, o2, none⟩) len cap' | 5 => v = .int .i64 k | 6 => v = .pointer (some ⟨b2, o2 + k * 8, none⟩) | 7 => v = .agg #[.int .i64 q.p, .int .i64 q.k, .float .f32 q.x, .float .f32 q.y, .float .f32 q.z, .float .f32 q.s, .float .f32 q.t, .float .f32 q.u] | 8 => v = .bool true | 9 => v = .bool false | _ => True) (T := fun _ _ _ => True) [false, false, false, false, false, false, false, false, false, false, false, false, false, false, false, false, false, true, true, true, true, true, true, true, true, true, true]
        (by kernel_rfl) (by kernel_rfl) (by kernel_rfl) (fun _ _ _ _ _ _ h => h) (below_drewN (Below.refl _ _) 1) ?_ ?_
      · refine ⟨Reg.Obl.mk ?_, Reg.Obl.mk ?_, Reg.Obl.mk ?_, Reg.Obl.mk ?_, Reg.Obl.mk ?_, Reg.Obl.mk ?_, Reg.Obl.mk ?_, Reg.Obl.mk ?_, Reg.Obl.mk ?_, Reg.Obl.mk ?_, trivial⟩
        · rintro a w1 hC hx hd K hK
          have HC := Lib.hid hC
          clear hC
          have t0 : a.tmps[0]?.getD undef = .slice (some ⟨b1, o1, none⟩) len cap := Reg.slot_val (hx 0 (by kernel_rfl))
          go_simp
          exact hK _ _ (fun _ => rfl) (fun h => by cases h) HC.out trivial
        · rintro a w1 hC hx hd K hK
          have HC := Lib.hid hC
          clear hC
          have t5 : a.tmps[5]?.getD undef = .int .i64 k := Reg.slot_val (hx 5 (by kernel_rfl))
          go_simp
          exact hK _ _ (fun _ => rfl) (fun h => by cases h) HC.out trivial
        · rintro a w1 hC hx hd K hK
          have HC := Lib.hid hC
          clear hC
          have t17 : a.tmps[17]?.getD undef = .slice (some ⟨b1, o1, none⟩) len cap := Reg.slot_val (hd 0 (by kernel_rfl) 17 rfl)
          have t18 : a.tmps[18]?.getD undef = .int .i64 k := Reg.slot_val (hd 1 (by kernel_rfl) 18 rfl)
          go_simp
          exact hK _ _ (fun _ => rfl) (fun h => by cases h) HC.out trivial
        · rintro a w1 hC hx hd K hK
          have HC := Lib.hid hC
          clear hC
          have c0 := (Qh.out.below HC.out) 0 (by omega)
          have c1 := (Qh.out.below HC.out) 1 (by omega)
          have c2 := (Qh.out.below HC.out) 2 (by omega)
          have c3 := (Qh.out.below HC.out) 3 (by omega)
          have c4 := (Qh.out.below HC.out) 4 (by omega)
          have c5 := (Qh.out.below HC.out) 5 (by omega)
          have c6 := (Qh.out.below HC.out) 6 (by omega)
          have c7 := (Qh.out.below HC.out) 7 (by omega)
          simp only [HW.l, List.getElem?_cons_zero, List.getElem?_cons_succ, Nat.add_zero] at c0 c1 c2 c3 c4 c5 c6 c7
          have t19 : a.tmps[19]?.getD undef = .pointer (some ⟨b1, o1 + k * 8, none⟩) := Reg.slot_val (hd 2 (by kernel_rfl) 19 rfl)
          go_simp
          exact hK _ _ (fun _ => rfl) (fun h => by cases h) HC.out trivial
        · rintro a w1 hC hx hd K hK
          have HC := Lib.hid hC
          clear hC
          have t1 : a.tmps[1]?.getD undef = .slice (some ⟨b2, o2, none⟩) len cap' := Reg.slot_val (hx 1 (by kernel_rfl))
          go_simp
          exact hK _ _ (fun _ => rfl) (fun h => by cases h) HC.out trivial
        · rintro a w1 hC hx hd K hK
          have HC := Lib.hid hC
          clear hC
          have t5 : a.tmps[5]?.getD undef = .int .i64 k := Reg.slot_val (hx 5 (by kernel_rfl))
          go_simp
          exact hK _ _ (fun _ => rfl) (fun h => by cases h) HC.out trivial
        · rintro a w1 hC hx hd K hK
          have HC := Lib.hid hC
          clear hC
          have t21 : a.tmps[21]?.getD undef = .slice (some ⟨b2, o2, none⟩) len cap' := Reg.slot_val (hd 4 (by kernel_rfl) 21 rfl)
          have t22 : a.tmps[22]?.getD undef = .int .i64 k := Reg.slot_val (hd 5 (by kernel_rfl) 22 rfl)
          go_simp
          exact hK _ _ (fun _ => rfl) (fun h => by cases h) HC.out trivial
        · rintro a w1 hC hx hd K hK
          have HC := Lib.hid hC
          clear hC
          have c0 := (Qq.out.below HC.out) 0 (by omega)
          have c1 := (Qq.out.below HC.out) 1 (by omega)
          have c2 := (Qq.out.below HC.out) 2 (by omega)
          have c3 := (Qq.out.below HC.out) 3 (by omega)
          have c4 := (Qq.out.below HC.out) 4 (by omega)
          have c5 := (Qq.out.below HC.out) 5 (by omega)
          have c6 := (Qq.out.below HC.out) 6 (by omega)
          have c7 := (Qq.out.below HC.out) 7 (by omega)
          simp only [HW.l, List.getElem?_cons_zero, List.getElem?_cons_succ, Nat.add_zero] at c0 c1 c2 c3 c4 c5 c6 c7
          have t23 : a.tmps[23]?.getD undef = .pointer (some ⟨b2, o2 + k * 8, none⟩) := Reg.slot_val (hd 6 (by kernel_rfl) 23 rfl)
          go_simp
          exact hK _ _ (fun _ => rfl) (fun h => by cases h) HC.out trivial
        · rintro a w1 hC hx hd K hK
          have HC := Lib.hid hC
          clear hC
          have t20 : a.tmps[20]?.getD undef = .agg #[.int .i64 h.p, .int .i64 h.k, .float .f32 h.x, .float .f32 h.y, .float .f32 h.z, .float .f32 h.s, .float .f32 h.t, .float .f32 h.u] := Reg.slot_val (hd 3 (by kernel_rfl) 20 rfl)
          have t24 : a.tmps[24]?.getD undef = .agg #[.int .i64 q.p, .int .i64 q.k, .float .f32 q.x, .float .f32 q.y, .float .f32 q.z, .float .f32 q.s, .float .f32 q.t, .float .f32 q.u] := Reg.slot_val (hd 7 (by kernel_rfl) 24 rfl)
          go_simp
          refine (laws_eqHold h q z _ IH.out IQ.out).mono ?_
          rintro en w2 ⟨rfl, hB2⟩
          exact hK _ _ (fun _ => rfl) (fun h => by cases h) (HC.out.trans (hB2.mono HC.out.size)) trivial
        · rintro a w1 hC hx hd K hK
          have HC := Lib.hid hC
          clear hC
          have t25 : a.tmps[25]?.getD undef = .bool true := Reg.slot_val (hd 8 (by kernel_rfl) 25 rfl)
          go_simp
          exact hK _ _ (fun _ => rfl) (fun h => by cases h) HC.out trivial
      rintro f w1 hC hd hT
      have g26 : f 26 = .bool false := hd 9 26 rfl
      simp only [Reg.mixL, g26]
      have HC := Lib.hid (HR.out.trans (hC.mono HR.out.size))
      clear hC hd hT
      go_wp2
      go_roundw
      case rel => exact ⟨k + 1, by omega, by go_num, HC.out⟩
      case measure => simp [intOf]; omega
    · obtain rfl : k = len := by omega
      go_wp2
      go_ret
      exact ⟨rfl, HR.out⟩
end Go.Proofs.Ytajglpkeojaelaa

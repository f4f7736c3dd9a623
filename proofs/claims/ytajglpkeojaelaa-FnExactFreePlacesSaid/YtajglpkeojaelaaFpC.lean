
/-
Copies of lists of holds that may be written, and marks in them. Conditions: at most 2^20 of them.
-/
import Derived.Test.YtajglpkeojaelaaFpM
namespace Go.Proofs.Ytajglpkeojaelaa
open Go Fk Go.RowKit
set_option linter.unusedVariables false
set_option maxRecDepth 16000

set_option maxHeartbeats 1000000 in
theorem laws_toHoldSO (a : Option Addr) (len cap : Nat) (hs : List HC) (w : World) (h : IsHs w a len cap hs) (hlen : len ≤ 1048576) :
    Calls Try.prog 39 #[.slice a len cap] w fun e w' => e = .returned (.slice (some ⟨w.heap.size, 0, none⟩) len len) ∧ IsHs w' (some ⟨w.heap.size, 0, none⟩) len len hs ∧ Below w.heap.size w w' ∧ ∀ lo hi, lo ≤ w.heap.size → w.heap.size < hi → Own lo hi w' w.heap.size 0 (len * 8) := by
  have uh := Try.underlying119
  have ul := Try.underlying122
  obtain ⟨i0, hi, hz0, hz1, hz2⟩ := info_parts infoH
  have hzl := h.1
  have hwf := h.2.2.2.1
  obtain ⟨g, hg⟩ : ∃ g, g = w.heap.size := ⟨_, rfl⟩
  have hmk : (Instr.makeSlice 72 (.int .i64 len) (.int .i64 len)).run Try.prog w = .ok (.slice (some ⟨g, 0, none⟩) len len) (w.alloc (.cells (madeCells #[.int .i64 0, .int .i64 0, .float .f32 0, .float .f32 0, .float .f32 0, .float .f32 0, .float .f32 0, .float .f32 0] (len * 8)) 119)) := by
    have := run_make (P := Try.prog) w 72 119 i0 (.agg #[.int .i64 0, .int .i64 0, .float .f32 0, .float .f32 0, .float .f32 0, .float .f32 0, .float .f32 0, .float .f32 0]) Try.underlying72 hi hz0 .i64 .i64 len len (by omega) (Int.le_refl _) (by rw [hz2]; omega) (by omega)
    rw [this, hz1, hg]; simp; rfl
  have hstart : Below w.heap.size w (w.alloc (.cells (madeCells #[.int .i64 0, .int .i64 0, .float .f32 0, .float .f32 0, .float .f32 0, .float .f32 0, .float .f32 0, .float .f32 0] (len * 8)) 119)) ∧ g < (w.alloc (.cells (madeCells #[.int .i64 0, .int .i64 0, .float .f32 0, .float .f32 0, .float .f32 0, .float .f32 0, .float .f32 0, .float .f32 0] (len * 8)) 119)).heap.size ∧
      (∀ j, j < len * 8 → ∃ v, (w.alloc (.cells (madeCells #[.int .i64 0, .int .i64 0, .float .f32 0, .float .f32 0, .float .f32 0, .float .f32 0, .float .f32 0, .float .f32 0] (len * 8)) 119)).cell? ⟨g, j, none⟩ = some v) ∧ (∀ j, (w.alloc (.cells (madeCells #[.int .i64 0, .int .i64 0, .float .f32 0, .float .f32 0, .float .f32 0, .float .f32 0, .float .f32 0, .float .f32 0] (len * 8)) 119)).frozen? ⟨g, j, none⟩ = false) := by
    subst hg
    exact ⟨(Below.refl _ _).alloc (Nat.le_refl _) _, by simp, fun j hj => made_cell3 w _ (len * 8) j _ hj, fun j => by simp⟩
  rw [← hg] at hstart ⊢
  have HST := Lib.hid hstart
  have HG := Lib.hid hg
  have H := Lib.hid h
  have HWF := Lib.hid hwf
  clear hstart hg h hwf
  go_enter Try.func39, Try.ntmps39
  go_wp2
  generalize hw0 : (w.alloc (.cells (madeCells #[.int .i64 0, .int .i64 0, .float .f32 0, .float .f32 0, .float .f32 0, .float .f32 0, .float .f32 0, .float .f32 0] (len * 8)) 119)) = w0 at HST ⊢
  go_loopw [4] (fun i w' => ∃ k : Nat, k ≤ len ∧ i = .int .i64 k ∧ Aside ((Below g w w' ∧ g < w'.heap.size ∧ (∀ j, j < len * 8 → ∃ v, w'.cell? ⟨g, j, none⟩ = some v) ∧ (∀ j, w'.frozen? ⟨g, j, none⟩ = false)) ∧
      ∀ j, j < k → ∃ q : HW, q.At w' g (j * 8) ∧ q.Is (hs.getD j hd0))) (fun i _ => len - (intOf i).toNat)
  case atStart => exact ⟨0, Nat.zero_le _, rfl, HST.out, fun j hj => absurd hj (by omega)⟩
  case round =>
    obtain ⟨k, hk, rfl, hA⟩ := hrel
    by_cases hlt : k < len
    · obtain ⟨⟨hB, hgs, hce, hfz⟩, hdone⟩ := hA.out
      obtain ⟨b, o, ha, hcell⟩ := (H.out.below (HG.out ▸ hB)).some (by omega)
      obtain ⟨h, hq, hqi⟩ := hcell k hlt
      rw [ha]
      have HA := Lib.hid ha
      have hk0 : (0 : Int) ≤ (k : Int) := by omega
      have hk1 : (k : Int) < (len : Int) := by omega
      have c0 := hq 0 (by omega)
      have c1 := hq 1 (by omega)
      have c2 := hq 2 (by omega)
      have c3 := hq 3 (by omega)
      have c4 := hq 4 (by omega)
      have c5 := hq 5 (by omega)
      have c6 := hq 6 (by omega)
      have c7 := hq 7 (by omega)
      simp only [HW.l, List.getElem?_cons_zero, List.getElem?_cons_succ, Nat.add_zero] at c0 c1 c2 c3 c4 c5 c6 c7
      have HD := Lib.hid hdone
      have HC := Lib.hid hce
      have HF := Lib.hid hfz
      have HB := Lib.hid hB
      have HQI := Lib.hid hqi
      clear hA hcell hdone hce hfz hB hqi ha hq
      go_wp2_with fail
      refine (laws_toHold h _).mono ?_
      rintro e w1 ⟨rfl, hB1⟩
      clear c0 c1 c2 c3 c4 c5 c6 c7
      obtain ⟨v0, hv0⟩ := HC.out (k * 8) (by omega)
      replace hv0 := (hB1.cell (p := ⟨g, k * 8, none⟩) hgs).trans hv0
      have hf0 := (hB1.frozen (p := ⟨g, k * 8, none⟩) hgs).trans (HF.out (k * 8))
      obtain ⟨v1, hv1⟩ := HC.out (k * 8 + 1) (by omega)
      replace hv1 := (hB1.cell (p := ⟨g, k * 8 + 1, none⟩) hgs).trans hv1
      have hf1 := (hB1.frozen (p := ⟨g, k * 8 + 1, none⟩) hgs).trans (HF.out (k * 8 + 1))
      obtain ⟨v2, hv2⟩ := HC.out (k * 8 + 2) (by omega)
      replace hv2 := (hB1.cell (p := ⟨g, k * 8 + 2, none⟩) hgs).trans hv2
      have hf2 := (hB1.frozen (p := ⟨g, k * 8 + 2, none⟩) hgs).trans (HF.out (k * 8 + 2))
      obtain ⟨v3, hv3⟩ := HC.out (k * 8 + 3) (by omega)
      replace hv3 := (hB1.cell (p := ⟨g, k * 8 + 3, none⟩) hgs).trans hv3
      have hf3 := (hB1.frozen (p := ⟨g, k * 8 + 3, none⟩) hgs).trans (HF.out (k * 8 + 3))
      obtain ⟨v4, hv4⟩ := HC.out (k * 8 + 4) (by omega)
      replace hv4 := (hB1.cell (p := ⟨g, k * 8 + 4, none⟩) hgs).trans hv4
      have hf4 := (hB1.frozen (p := ⟨g, k * 8 + 4, none⟩) hgs).trans (HF.out (k * 8 + 4))
      obtain ⟨v5, hv5⟩ := HC.out (k * 8 + 5) (by omega)
      replace hv5 := (hB1.cell (p := ⟨g, k * 8 + 5, none⟩) hgs).trans hv5
      have hf5 := (hB1.frozen (p := ⟨g, k * 8 + 5, none⟩) hgs).trans (HF.out (k * 8 + 5))
      obtain ⟨v6, hv6⟩ := HC.out (k * 8 + 6) (by omega)
      replace hv6 := (hB1.cell (p := ⟨g, k * 8 + 6, none⟩) hgs).trans hv6
      have hf6 := (hB1.frozen (p := ⟨g, k * 8 + 6, none⟩) hgs).trans (HF.out (k * 8 + 6))
      obtain ⟨v7, hv7⟩ := HC.out (k * 8 + 7) (by omega)
      replace hv7 := (hB1.cell (p := ⟨g, k * 8 + 7, none⟩) hgs).trans hv7
      have hf7 := (hB1.frozen (p := ⟨g, k * 8 + 7, none⟩) hgs).trans (HF.out (k * 8 + 7))
      have HB1 := Lib.hid hB1
      have HEX : Hid (∀ j, j < h.l.length → ∃ u, w1.cell? ⟨g, k * 8 + j, none⟩ = some u) := Lib.hid (fun j hj => by
        have hj8 : j < 8 := hj
        obtain ⟨u, hu⟩ := HC.out (k * 8 + j) (by omega)
        exact ⟨u, (hB1.cell (p := ⟨g, k * 8 + j, none⟩) hgs).trans hu⟩)
      clear hB1
      unfold HW.v
      go_wp2
      clear hv0 hv1 hv2 hv3 hv4 hv5 hv6 hv7 hf0 hf1 hf2 hf3 hf4 hf5 hf6 hf7
      go_roundw
      case rel =>
        have hB1 := HB1.out
        have hin := setL_in g h.l w1 (k * 8) HEX.out
        have hout := fun m hm => setL_out g m h.l w1 (k * 8) hm
        have hsz := setL_size g h.l w1 (k * 8)
        have hfr := fun i => setL_frozen g ⟨g, i, none⟩ h.l w1 (k * 8)
        have hbl : Below g w (setL w1 g (k * 8) h.l) := setL_below g (Nat.le_refl _) h.l w1 (k * 8) (HB.out.trans (hB1.mono (by omega)))
        refine ⟨k + 1, by omega, by go_num, ⟨⟨hbl, ?_, fun j hj => ?_, fun j => ?_⟩, fun j hj => ?_⟩⟩
        · show g < (setL w1 g (k * 8) h.l).heap.size
          rw [hsz]; have := hB1.size; omega
        · show ∃ v, (setL w1 g (k * 8) h.l).cell? ⟨g, j, none⟩ = some v
          by_cases hj8 : k * 8 ≤ j ∧ j < k * 8 + 8
          · have := hin (j - k * 8) (by show j - k * 8 < 8; omega)
            rw [show k * 8 + (j - k * 8) = j by omega] at this
            rw [this]
            exact ⟨_, List.getElem?_eq_getElem (by show j - k * 8 < 8; omega)⟩
          · rw [hout j (by show j < k * 8 ∨ k * 8 + 8 ≤ j; omega)]
            obtain ⟨v, hv⟩ := HC.out j hj
            exact ⟨v, (hB1.cell (p := ⟨g, j, none⟩) hgs).trans hv⟩
        · show (setL w1 g (k * 8) h.l).frozen? ⟨g, j, none⟩ = false
          rw [hfr]; exact (hB1.frozen (p := ⟨g, j, none⟩) hgs).trans (HF.out j)
        · show ∃ q : HW, q.At (setL w1 g (k * 8) h.l) g (j * 8) ∧ q.Is (hs.getD j hd0)
          by_cases hjk : j = k
          · subst hjk
            exact ⟨h, fun i hi => hin i hi, HQI.out⟩
          · obtain ⟨q, hq, hqi⟩ := HD.out j (by omega)
            refine ⟨q, fun i hi => ?_, hqi⟩
            rw [hout _ (by show j * 8 + i < k * 8 ∨ k * 8 + 8 ≤ j * 8 + i; omega)]
            exact (hB1.cell (p := ⟨g, j * 8 + i, none⟩) hgs).trans (hq i hi)
      case measure => simp [intOf]; omega
    · obtain rfl : k = len := by omega
      obtain ⟨⟨hB, hgs, hce, hfz⟩, hdone⟩ := hA.out
      have hfin : IsHs wr (some ⟨g, 0, none⟩) k k hs := by
        refine ⟨hzl, Nat.le_refl _, by unfold maxLen; omega, HWF.out, by simp, fun x hx i hi => ?_⟩
        cases hx
        obtain ⟨q, hq, hqi⟩ := hdone i hi
        exact ⟨rfl, q, by rw [Nat.zero_add]; exact hq, hqi⟩
      have hown : ∀ lo hi, lo ≤ g → g < hi → Own lo hi wr g 0 (k * 8) := fun lo hi h1 h2 => ⟨h1, h2, hgs, fun j hj => ⟨by rw [Nat.zero_add]; exact hce j hj, by rw [Nat.zero_add]; exact hfz j⟩⟩
      have HO := Lib.hid hown
      have HF := Lib.hid hfin
      have HB := Lib.hid hB
      clear hown
      clear hA hB hce hfz hdone hfin
      go_wp2
      go_ret
      exact ⟨rfl, HF.out, HB.out, HO.out⟩
set_option maxHeartbeats 4000000 in
theorem laws_markHoldS (lo hi b o len cap : Nat) (k0 : Nat) (w : World) (h : Own lo hi w b o (len * 8)) (hk : k0 + len * 8 ≤ 9000000000000000000) :
    Calls Try.prog 46 #[.slice (some ⟨b, o, none⟩) len cap, .int .i64 k0] w fun e w' => e = .returned (.int .i64 ((k0 + len * 8 : Nat) : Int)) ∧ Mark lo hi w w' := by
  have u := Try.underlying27
  have uv := Try.underlying40
  have uh := Try.underlying119
  obtain ⟨h1, h2, h3, h4⟩ := h
  have H4 := Lib.hid h4
  have H1 := Lib.hid h1
  have H2 := Lib.hid h2
  have H3 := Lib.hid h3
  clear h1 h2 h3 h4
  go_enter Try.func46, Try.ntmps46
  go_wp2
  go_loopw [1, 5] (fun q i w' => ∃ k : Nat, k ≤ len ∧ i = .int .i64 k ∧ q = .int .i64 ((k0 + k * 8 : Nat) : Int) ∧ Aside (Mark lo hi w w')) (fun _ i _ => len - (intOf i).toNat)
  case atStart => exact ⟨0, Nat.zero_le _, rfl, rfl, Mark.refl _ _ _⟩
  case round =>
    obtain ⟨k, hkl, rfl, rfl, hA⟩ := hrel
    by_cases hlt : k < len
    · have hM := hA.out
      obtain ⟨v0, hv0⟩ := hM.alive _ _ (H4.out (k * 8) (by omega)).1
      obtain ⟨v1, hv1⟩ := hM.alive _ _ (H4.out (k * 8 + 1) (by omega)).1
      obtain ⟨v2, hv2⟩ := hM.alive _ _ (H4.out (k * 8 + 2) (by omega)).1
      obtain ⟨v3, hv3⟩ := hM.alive _ _ (H4.out (k * 8 + 3) (by omega)).1
      obtain ⟨v4, hv4⟩ := hM.alive _ _ (H4.out (k * 8 + 4) (by omega)).1
      obtain ⟨v5, hv5⟩ := hM.alive _ _ (H4.out (k * 8 + 5) (by omega)).1
      obtain ⟨v6, hv6⟩ := hM.alive _ _ (H4.out (k * 8 + 6) (by omega)).1
      obtain ⟨v7, hv7⟩ := hM.alive _ _ (H4.out (k * 8 + 7) (by omega)).1
      have hf0 : wr.frozen? ⟨b, o + k * 8, none⟩ = false := by rw [hM.frozen _ _ H3.out]; exact (H4.out (k * 8) (by omega)).2
      have hf1 : wr.frozen? ⟨b, o + k * 8 + 1, none⟩ = false := by rw [hM.frozen _ _ H3.out]; exact (H4.out (k * 8 + 1) (by omega)).2
      have hf2 : wr.frozen? ⟨b, o + k * 8 + 2, none⟩ = false := by rw [hM.frozen _ _ H3.out]; exact (H4.out (k * 8 + 2) (by omega)).2
      have hf3 : wr.frozen? ⟨b, o + k * 8 + 3, none⟩ = false := by rw [hM.frozen _ _ H3.out]; exact (H4.out (k * 8 + 3) (by omega)).2
      have hf4 : wr.frozen? ⟨b, o + k * 8 + 4, none⟩ = false := by rw [hM.frozen _ _ H3.out]; exact (H4.out (k * 8 + 4) (by omega)).2
      have hf5 : wr.frozen? ⟨b, o + k * 8 + 5, none⟩ = false := by rw [hM.frozen _ _ H3.out]; exact (H4.out (k * 8 + 5) (by omega)).2
      have hf6 : wr.frozen? ⟨b, o + k * 8 + 6, none⟩ = false := by rw [hM.frozen _ _ H3.out]; exact (H4.out (k * 8 + 6) (by omega)).2
      have hf7 : wr.frozen? ⟨b, o + k * 8 + 7, none⟩ = false := by rw [hM.frozen _ _ H3.out]; exact (H4.out (k * 8 + 7) (by omega)).2
      rw [← Nat.add_assoc] at hv1
      rw [← Nat.add_assoc] at hv2
      rw [← Nat.add_assoc] at hv3
      rw [← Nat.add_assoc] at hv4
      rw [← Nat.add_assoc] at hv5
      rw [← Nat.add_assoc] at hv6
      rw [← Nat.add_assoc] at hv7
      have HM := Lib.hid hM
      have hk0 : (0 : Int) ≤ (k : Int) := by omega
      have hk1 : (k : Int) < (len : Int) := by omega
      clear hA hM
      go_wp2
      go_roundw
      case rel => exact ⟨k + 1, by omega, by go_num, by go_num, ((((((((HM.out.trans (Mark.set H1.out H2.out)).trans (Mark.set H1.out H2.out)).trans (Mark.set H1.out H2.out)).trans (Mark.set H1.out H2.out)).trans (Mark.set H1.out H2.out)).trans (Mark.set H1.out H2.out)).trans (Mark.set H1.out H2.out)).trans (Mark.set H1.out H2.out))⟩
      case measure => simp [intOf]; omega
    · obtain rfl : k = len := by omega
      have HM := Lib.hid hA.out
      clear hA
      go_wp2
      go_ret
      exact ⟨rfl, HM.out⟩
end Go.Proofs.Ytajglpkeojaelaa

/-
Texts in one: what StretchesOf stands on, part 13. Conditions: those of each.
-/
import Derived.Test.YtmbekamnogbgaabKStretchesOf12

/-
How far springs are stretched, in a list: what the program makes. Conditions: the springs' places are the mesh's.
-/
namespace Go.Proofs.Ytmbekamnogbgaab
open Go Fk Go.RowKit
set_option linter.unusedVariables false
set_option maxRecDepth 16000

theorem measured_stretch (bb : Nat) (B : Bd) (cs : List C3) (ss : List SC) (tl : Nat) (a0 : Option Addr) (cap : Nat) (w : World) (hA : At w bb B.l) (hp : IsVs w B.pa B.pl B.pc cs) (hc : IsSs w a0 tl cap ss) (htri : ∀ k, k < tl → inB B.pl (ss.getD k s0).1 = true ∧ inB B.pl (ss.getD k s0).2.1 = true) (hlen : tl ≤ 4096) :
    Calls Try.prog 94 #[.slice a0 tl cap, .func (.func 91) #[] #[.pointer (some ⟨bb, 0, none⟩)]] w fun e w' => ∃ zs, e = .returned (.slice (some ⟨w.heap.size, 0, none⟩) tl tl) ∧ IsFs .f32 w' (some ⟨w.heap.size, 0, none⟩) tl tl zs ∧ (∀ k, k < tl → FV .f32 (zs.getD k 0) (strC cs (ss.getD k s0))) ∧ Own w.heap.size w'.heap.size w' w.heap.size 0 tl ∧ Below w.heap.size w w' := by
  have u := Try.underlying52
  have ue := Try.underlying116
  obtain ⟨i0, hi, hz0, hz1, hz2⟩ := info_parts info32
  obtain ⟨g, hg⟩ : ∃ g, g = w.heap.size := ⟨_, rfl⟩
  have hmk : (Instr.makeSlice 53 (.int .i64 tl) (.int .i64 tl)).run Try.prog w = .ok (.slice (some ⟨g, 0, none⟩) tl tl) (w.alloc (.cells (madeCells #[.float .f32 0] tl) 52)) := by
    have := run_make (P := Try.prog) w 53 52 i0 (.float .f32 0) Try.underlying53 hi hz0 .i64 .i64 tl tl (by omega) (Int.le_refl _) (by rw [hz2]; omega) (by omega)
    rw [this, hz1, hg]; simp; rfl
  have hstart : Below w.heap.size w (w.alloc (.cells (madeCells #[.float .f32 0] tl) 52)) ∧ g < (w.alloc (.cells (madeCells #[.float .f32 0] tl) 52)).heap.size ∧
      (∀ j, j < tl → ∃ v, (w.alloc (.cells (madeCells #[.float .f32 0] tl) 52)).cell? ⟨g, j, none⟩ = some v) ∧ (∀ j, (w.alloc (.cells (madeCells #[.float .f32 0] tl) 52)).frozen? ⟨g, j, none⟩ = false) := by
    subst hg
    exact ⟨(Below.refl _ _).alloc (Nat.le_refl _) _, by simp, fun j hj => made_cell3 w _ tl j _ hj, fun j => by simp⟩
  rw [← hg] at hstart ⊢
  have HST := Lib.hid hstart
  have HG := Lib.hid hg
  clear hstart hg
  have HP := Lib.hid hp
  have HTRI := Lib.hid htri
  have HAT := Lib.hid hA
  clear hp htri hA
  go_enter Try.func94, Try.ntmps94
  go_wp2
  generalize hw0 : w.alloc (.cells (madeCells #[.float .f32 0] tl) 52) = w0 at HST ⊢
  go_loopw [13] (fun i w' => ∃ k : Nat, k ≤ tl ∧ i = .int .i64 k ∧ Aside ((Below g w w' ∧ g < w'.heap.size ∧ (∀ j, j < tl → ∃ v, w'.cell? ⟨g, j, none⟩ = some v) ∧ (∀ j, w'.frozen? ⟨g, j, none⟩ = false)) ∧ ∃ zs : List Nat, zs.length = k ∧ ∀ j, j < k → w'.cell? ⟨g, j, none⟩ = some (.float .f32 (zs.getD j 0)) ∧ FV .f32 (zs.getD j 0) (strC cs (ss.getD j s0)))) (fun i _ => tl - (intOf i).toNat)
  case atStart => exact ⟨0, Nat.zero_le _, rfl, HST.out, [], rfl, fun j hj => absurd hj (by omega)⟩
  case round =>
    obtain ⟨k, hk, rfl, hA⟩ := hrel
    by_cases hlt : k < tl
    · obtain ⟨⟨hB, hgs, hce, hfz⟩, zs, hzl, hdone⟩ := hA.out
      obtain ⟨bs, os, hbs, hsp⟩ := (hc.below (HG.out ▸ hB)).some (by omega)
      obtain ⟨x, y, z0, z1, z2, z3, fx, fy⟩ := hsp k hlt
      obtain ⟨hi1, hi2⟩ := HTRI.out k hlt
      have hk0 : (0 : Int) ≤ (k : Int) := by omega
      have hk1 : (k : Int) < (tl : Int) := by omega
      have hf0 := hfz k
      obtain ⟨v0, hv0⟩ := hce k hlt
      have hN := fun w' hA' hp' => impl_stretch bb B cs (ss.getD k s0) x y w' hA' hp' hi1 hi2 fx
      have HSTR : Hid (strC cs (ss.getD k s0) = strC cs (ss.getD k s0)) := Lib.hid rfl
      have HD := Lib.hid hdone
      have HC := Lib.hid hce
      have HF := Lib.hid hfz
      have HB := Lib.hid hB
      have HZL := Lib.hid hzl
      have HN := Lib.hid hN
      generalize hw1 : (ss.getD k s0).1 = j0 at *
      generalize hw2 : (ss.getD k s0).2.1 = j1 at *
      have lb := World.block_lt_of_cell? _ _ z0
      clear hA hdone hce hfz hB hzl hc hw0 HST hmk hi hN hsp hi1 hi2 hw1 hw2 fx fy
      subst hbs
      go_wp2_with fail
      have hG : Below wr.heap.size wr (wr.alloc (.cells #[.int .i64 j0, .int .i64 j1, .float .f32 x, .float .f32 y] 116)) := (Below.refl _ _).alloc (Nat.le_refl _) _
      have hWG : Below g w (wr.alloc (.cells #[.int .i64 j0, .int .i64 j1, .float .f32 x, .float .f32 y] 116)) := HB.out.trans (hG.mono (by omega))
      have HIP := Lib.hid ((HP.out.below (HG.out ▸ hWG)))
      have HGA := Lib.hid hG
      have HWG := Lib.hid hWG
      generalize (wr.alloc (.cells #[.int .i64 j0, .int .i64 j1, .float .f32 x, .float .f32 y] 116)) = W1 at *
      clear hG hWG
      refine (HN.out _ (HAT.out.below (HG.out ▸ HWG.out)) HIP.out).mono ?_
      rintro e w1 ⟨x, rfl, hx, hB1⟩
      have hbb : Below wr.heap.size wr w1 := HGA.out.trans (hB1.mono HGA.out.size)
      have hgs1 : g < w1.heap.size := by have := hbb.size; omega
      have hf1 : w1.frozen? ⟨g, k, none⟩ = false := by rw [hbb.frozen (p := ⟨g, k, none⟩) hgs]; exact hf0
      have hv1 : w1.cell? ⟨g, k, none⟩ = some v0 := cell_below hbb hv0
      have HBB := Lib.hid hbb
      have HX := Lib.hid hx
      clear hB1 hbb hx hv0 hf0 z0 z1 z2 z3
      go_wp2
      go_roundw
      case rel =>
        have hb1 := HBB.out
        have eo : ∀ j, j ≠ k → (w1.setCell ⟨g, k, none⟩ (.float .f32 x)).cell? ⟨g, j, none⟩ = wr.cell? ⟨g, j, none⟩ := by
          intro j hj
          rw [World.cell?_setCell_other _ _ _ _ (by simp <;> omega)]
          exact hb1.cell (p := ⟨g, j, none⟩) hgs
        have ek := World.cell?_setCell_same w1 ⟨g, k, none⟩ (.float .f32 x) hv1
        have hzk := HZL.out
        refine ⟨k + 1, by omega, by go_num, ⟨⟨(HB.out.trans (hb1.mono (by omega))).setCell (Nat.le_refl _) _, by simp <;> omega, fun j hj => ?_, fun j => ?_⟩, zs ++ [x], by simp [hzk], fun j hj => ?_⟩⟩
        · by_cases h0 : j = k
          · subst h0; exact ⟨_, ek⟩
          · obtain ⟨v, hv⟩ := HC.out j hj
            exact ⟨v, by rw [eo j h0]; exact hv⟩
        · simp; rw [hb1.frozen (p := ⟨g, j, none⟩) hgs]; exact HF.out j
        · by_cases hjk : j = k
          · have hgd : (zs ++ [x]).getD j 0 = x := by simp [List.getD, hjk, ← hzk]
            rw [hgd, hjk]; exact ⟨ek, HX.out⟩
          · have hjz : j < zs.length := by omega
            have hgd : (zs ++ [x]).getD j 0 = zs.getD j 0 := by simp [List.getD, List.getElem?_append_left hjz]
            rw [hgd, eo j hjk]; exact HD.out j (by omega)
      case measure => simp [intOf]; omega
    · obtain rfl : k = tl := by omega
      obtain ⟨⟨hB, hgs, hce, hfz⟩, zs, hzl, hdone⟩ := hA.out
      have hfin : IsFs .f32 wr (some ⟨g, 0, none⟩) k k zs := by
        refine ⟨hzl, Nat.le_refl _, by unfold maxLen; omega, ?_, by simp, fun x hx i hi => ?_⟩
        · intro z hz
          obtain ⟨i, hi, rfl⟩ := List.mem_iff_getElem.1 hz
          have := (hdone i (by omega)).2.1
          simpa [List.getD, hi] using this
        · cases hx
          rw [addr_add', Nat.zero_add]; exact (hdone i hi).1
      have HF := Lib.hid hfin
      have HB := Lib.hid hB
      have HD := Lib.hid (fun j hj => (hdone j hj).2)
      have HO : Hid (Own g wr.heap.size wr g 0 k) := Lib.hid ⟨Nat.le_refl _, hgs, hgs, fun j hj => by rw [Nat.zero_add]; exact ⟨hce j hj, hfz j⟩⟩
      clear hA hB hce hfz hdone hfin hc hmk hw0 HST
      go_wp2
      go_ret
      exact ⟨zs, rfl, HF.out, HD.out, HO.out, HB.out⟩
end Go.Proofs.Ytmbekamnogbgaab


/-
Marks in lists of vectors. Conditions: the list's cells may be written.
-/
namespace Go.Proofs.Ytmbekamnogbgaab
open Go Fk Go.RowKit
set_option linter.unusedVariables false
set_option maxRecDepth 8000

set_option maxHeartbeats 400000 in
theorem laws_markVectorS (lo hi b o len cap : Nat) (k0 : Nat) (w : World) (h : Own lo hi w b o (len * 3)) (hk : k0 + len * 3 ≤ 9000000000000000000) :
    Calls Try.prog 62 #[.slice (some ⟨b, o, none⟩) len cap, .int .i64 k0] w fun e w' => e = .returned (.int .i64 ((k0 + len * 3 : Nat) : Int)) ∧ (∀ j, j < len * 3 → w'.cell? ⟨b, o + j, none⟩ = some (.float .f32 (floatOfInt .f32 ((k0 + j : Nat) : Int)))) ∧ (∀ n i, (n ≠ b ∨ i < o ∨ o + len * 3 ≤ i) → w'.cell? ⟨n, i, none⟩ = w.cell? ⟨n, i, none⟩) ∧ Mark lo hi w w' := by
  have u := Try.underlying52
  have uv := Try.underlying62
  obtain ⟨h1, h2, h3, h4⟩ := h
  have H4 := Lib.hid h4
  have H1 := Lib.hid h1
  have H2 := Lib.hid h2
  have H3 := Lib.hid h3
  clear h1 h2 h3 h4
  go_enter Try.func62, Try.ntmps62
  go_wp2
  go_loopw [1, 5] (fun q i w' => ∃ k : Nat, k ≤ len ∧ i = .int .i64 k ∧ q = .int .i64 ((k0 + k * 3 : Nat) : Int) ∧ Aside ((∀ j, j < k * 3 → w'.cell? ⟨b, o + j, none⟩ = some (.float .f32 (floatOfInt .f32 ((k0 + j : Nat) : Int)))) ∧ (∀ n i, (n ≠ b ∨ i < o ∨ o + len * 3 ≤ i) → w'.cell? ⟨n, i, none⟩ = w.cell? ⟨n, i, none⟩) ∧ Mark lo hi w w')) (fun _ i _ => len - (intOf i).toNat)
  case atStart => exact ⟨0, Nat.zero_le _, rfl, rfl, fun j hj => absurd hj (by omega), fun _ _ _ => rfl, Mark.refl _ _ _⟩
  case round =>
    obtain ⟨k, hkl, rfl, rfl, hA⟩ := hrel
    by_cases hlt : k < len
    · obtain ⟨hdone, hother, hM⟩ := hA.out
      obtain ⟨v0, hv0⟩ := hM.alive _ _ (H4.out (k * 3) (by omega)).1
      obtain ⟨v1, hv1⟩ := hM.alive _ _ (H4.out (k * 3 + 1) (by omega)).1
      obtain ⟨v2, hv2⟩ := hM.alive _ _ (H4.out (k * 3 + 2) (by omega)).1
      have hf0 : wr.frozen? ⟨b, o + k * 3, none⟩ = false := by rw [hM.frozen _ _ H3.out]; exact (H4.out (k * 3) (by omega)).2
      have hf1 : wr.frozen? ⟨b, o + k * 3 + 1, none⟩ = false := by rw [hM.frozen _ _ H3.out]; exact (H4.out (k * 3 + 1) (by omega)).2
      have hf2 : wr.frozen? ⟨b, o + k * 3 + 2, none⟩ = false := by rw [hM.frozen _ _ H3.out]; exact (H4.out (k * 3 + 2) (by omega)).2
      rw [← Nat.add_assoc] at hv1 hv2
      have HD := Lib.hid hdone
      have HO := Lib.hid hother
      have HM := Lib.hid hM
      have hk0 : (0 : Int) ≤ (k : Int) := by omega
      have hk1 : (k : Int) < (len : Int) := by omega
      clear hA hdone hother hM
      go_wp2
      go_roundw
      case rel =>
        obtain ⟨e0, e1, e2, eo⟩ := set3k (u := .float .f32 (floatOfInt .f32 ((k0 : Int) + (k : Int) * 3))) (v := .float .f32 (floatOfInt .f32 ((k0 : Int) + (k : Int) * 3 + 1))) (t := .float .f32 (floatOfInt .f32 ((k0 : Int) + (k : Int) * 3 + 1 + 1))) hv0 hv1 hv2
        refine ⟨k + 1, by omega, by go_num, by go_num, fun j hj => ?_, fun n i hn => ?_, ((HM.out.trans (Mark.set H1.out H2.out)).trans (Mark.set H1.out H2.out)).trans (Mark.set H1.out H2.out)⟩
        · by_cases j0 : j = k * 3
          · subst j0; rw [e0]; simp
          · by_cases j1 : j = k * 3 + 1
            · subst j1; rw [← Nat.add_assoc, e1]; simp; congr 1
            · by_cases j2 : j = k * 3 + 2
              · subst j2; rw [← Nat.add_assoc, e2]; simp; congr 1
              · rw [eo _ (by omega) (by omega) (by omega)]; exact HD.out j (by omega)
        · rw [World.cell?_setCell_other _ _ _ _ (by simp <;> omega), World.cell?_setCell_other _ _ _ _ (by simp <;> omega), World.cell?_setCell_other _ _ _ _ (by simp <;> omega)]; exact HO.out n i hn
      case measure => simp [intOf]; omega
    · obtain rfl : k = len := by omega
      obtain ⟨hdone, hother, hM⟩ := hA.out
      have HD := Lib.hid hdone
      have HO := Lib.hid hother
      have HM := Lib.hid hM
      clear hA hdone hother hM
      go_wp2
      go_ret
      exact ⟨rfl, HD.out, HO.out, HM.out⟩
end Go.Proofs.Ytmbekamnogbgaab


/-
Marks in lists of vectors: they are held. Conditions: they were written.
-/
namespace Go.Proofs.Ytmbekamnogbgaab
open Go Fk Go.RowKit
set_option linter.unusedVariables false
set_option maxRecDepth 8000

theorem mark_self (z : Int) : (FloatKind.f32.format.order (floatOfInt .f32 z) (floatOfInt .f32 z) != some .eq) = false := by
  have h : (FloatKind.f32.decode (floatOfInt .f32 z)).isNaN = false := isNaN_write .f32 (.number (z < 0) z.natAbs 0) rfl
  rw [order_self h]; rfl
set_option maxHeartbeats 400000 in
theorem laws_heldVectorS (b o len cap : Nat) (k0 : Nat) (w : World) (h : ∀ j, j < len * 3 → w.cell? ⟨b, o + j, none⟩ = some (.float .f32 (floatOfInt .f32 ((k0 + j : Nat) : Int)))) (hk : k0 + len * 3 ≤ 9000000000000000000) :
    Calls Try.prog 77 #[.slice (some ⟨b, o, none⟩) len cap, .int .i64 k0] w fun e w' => e = .returned (.int .i64 ((k0 + len * 3 : Nat) : Int)) ∧ w' = w := by
  have u := Try.underlying52
  have uv := Try.underlying62
  have H := Lib.hid h
  clear h
  go_enter Try.func77, Try.ntmps77
  go_wp2
  go_loopw [1, 5] (fun q i w' => ∃ k : Nat, k ≤ len ∧ i = .int .i64 k ∧ q = .int .i64 ((k0 + k * 3 : Nat) : Int) ∧ w' = w) (fun _ i _ => len - (intOf i).toNat)
  case atStart => exact ⟨0, Nat.zero_le _, rfl, rfl, rfl⟩
  case round =>
    obtain ⟨k, hkl, rfl, rfl, rfl⟩ := hrel
    by_cases hlt : k < len
    · have hv0 := H.out (k * 3) (by omega)
      have hv1 := H.out (k * 3 + 1) (by omega)
      have hv2 := H.out (k * 3 + 2) (by omega)
      rw [← Nat.add_assoc, show ((k0 + (k * 3 + 1) : Nat) : Int) = (k0 : Int) + (k : Int) * 3 + 1 by omega] at hv1
      rw [← Nat.add_assoc, show ((k0 + (k * 3 + 2) : Nat) : Int) = (k0 : Int) + (k : Int) * 3 + 1 + 1 by omega] at hv2
      rw [show ((k0 + k * 3 : Nat) : Int) = (k0 : Int) + (k : Int) * 3 by omega] at hv0
      have s0 := mark_self ((k0 : Int) + (k : Int) * 3)
      have s1 := mark_self ((k0 : Int) + (k : Int) * 3 + 1)
      have s2 := mark_self ((k0 : Int) + (k : Int) * 3 + 1 + 1)
      have hk0 : (0 : Int) ≤ (k : Int) := by omega
      have hk1 : (k : Int) < (len : Int) := by omega
      go_wp2
      go_roundw
      case rel => exact ⟨k + 1, by omega, by go_num, by go_num, by first | trivial | rfl⟩
      case measure => simp [intOf]; omega
    · obtain rfl : k = len := by omega
      go_wp2
      go_ret
      exact ⟨rfl, by first | rfl | trivial⟩
end Go.Proofs.Ytmbekamnogbgaab


/-
The wedges of all triangles in a list: what the program makes. Conditions: the triangles' places are the mesh's.
-/
import Derived.Test.YtljpjmkickkcpabAcs
import Derived.Test.YtljpjmkickkcpabVoA
import Derived.Test.YtljpjmkickkcpabSum
namespace Go.Proofs.Ytljpjmkickkcpab
open Go Fk Go.RowKit
set_option linter.unusedVariables false
set_option maxRecDepth 8000

theorem measured_wedge (cb : Nat) (pa ta : Option Addr) (pl pc tl tc : Nat) (cs : List C3) (ts : List (List Int)) (w : World) (hp : IsVs w pa pl pc cs) (hc : IsCs w cb tl ts) (htri : ∀ k, k < tl → triB pl (ts.getD k []) = true) (hlen : tl ≤ 128) :
    Calls Try.prog 61 #[.slice (some ⟨cb, 0, none⟩) tl tl, .func (.func 63) #[.agg #[.slice pa pl pc, .slice ta tl tc]] #[]] w fun e w' => ∃ zs, e = .returned (.slice (some ⟨w.heap.size, 0, none⟩) tl tl) ∧ IsFs .f32 w' (some ⟨w.heap.size, 0, none⟩) tl tl zs ∧ (∀ k, k < tl → FV .f32 (zs.getD k 0) (wedgeC cs (ts.getD k []))) ∧ Below w.heap.size w w' := by
  have u := Try.underlying27
  have uc := Try.underlying91
  obtain ⟨i0, hi, hz0, hz1, hz2⟩ := info_parts info32
  obtain ⟨g, hg⟩ : ∃ g, g = w.heap.size := ⟨_, rfl⟩
  have hmk : (Instr.makeSlice 58 (.int .i64 tl) (.int .i64 tl)).run Try.prog w = .ok (.slice (some ⟨g, 0, none⟩) tl tl) (w.alloc (.cells (madeCells #[.float .f32 0] tl) 27)) := by
    have := run_make (P := Try.prog) w 58 27 i0 (.float .f32 0) Try.underlying58 hi hz0 .i64 .i64 tl tl (by omega) (Int.le_refl _) (by rw [hz2]; omega) (by omega)
    rw [this, hz1, hg]; simp; rfl
  have hstart : Below w.heap.size w (w.alloc (.cells (madeCells #[.float .f32 0] tl) 27)) ∧ g < (w.alloc (.cells (madeCells #[.float .f32 0] tl) 27)).heap.size ∧
      (∀ j, j < tl → ∃ v, (w.alloc (.cells (madeCells #[.float .f32 0] tl) 27)).cell? ⟨g, j, none⟩ = some v) ∧ (∀ j, (w.alloc (.cells (madeCells #[.float .f32 0] tl) 27)).frozen? ⟨g, j, none⟩ = false) := by
    subst hg
    exact ⟨(Below.refl _ _).alloc (Nat.le_refl _) _, by simp, fun j hj => made_cell3 w _ tl j _ hj, fun j => by simp⟩
  rw [← hg] at hstart ⊢
  have HST := Lib.hid hstart
  have HG := Lib.hid hg
  clear hstart hg
  have HP := Lib.hid hp
  have HTRI := Lib.hid htri
  clear hp htri
  go_enter Try.func61, Try.ntmps61
  go_wp2
  generalize hw0 : w.alloc (.cells (madeCells #[.float .f32 0] tl) 27) = w0 at HST ⊢
  go_loopw [13] (fun i w' => ∃ k : Nat, k ≤ tl ∧ i = .int .i64 k ∧ Aside ((Below g w w' ∧ g < w'.heap.size ∧ (∀ j, j < tl → ∃ v, w'.cell? ⟨g, j, none⟩ = some v) ∧ (∀ j, w'.frozen? ⟨g, j, none⟩ = false)) ∧ ∃ zs : List Nat, zs.length = k ∧ ∀ j, j < k → w'.cell? ⟨g, j, none⟩ = some (.float .f32 (zs.getD j 0)) ∧ FV .f32 (zs.getD j 0) (wedgeC cs (ts.getD j [])))) (fun i _ => tl - (intOf i).toNat)
  case atStart => exact ⟨0, Nat.zero_le _, rfl, HST.out, [], rfl, fun j hj => absurd hj (by omega)⟩
  case round =>
    obtain ⟨k, hk, rfl, hA⟩ := hrel
    by_cases hlt : k < tl
    · obtain ⟨⟨hB, hgs, hce, hfz⟩, zs, hzl, hdone⟩ := hA.out
      obtain ⟨z0, z1, z2⟩ := (hc.below (HG.out ▸ hB)) k hlt
      have hk0 : (0 : Int) ≤ (k : Int) := by omega
      have hk1 : (k : Int) < (tl : Int) := by omega
      have hf0 := hfz k
      obtain ⟨v0, hv0⟩ := hce k hlt
      have hN := fun w' hp' => mesh_wedge pa ta pl pc tl tc cs (ts.getD k []) w' hp' (HTRI.out k hlt)
      have HD := Lib.hid hdone
      have HC := Lib.hid hce
      have HF := Lib.hid hfz
      have HB := Lib.hid hB
      have HZL := Lib.hid hzl
      generalize hj0 : (ts.getD k []).getD 0 0 = j0 at *
      generalize hj1 : (ts.getD k []).getD 1 0 = j1 at *
      generalize hj2 : (ts.getD k []).getD 2 0 = j2 at *
      have HN := Lib.hid hN
      have lb := World.block_lt_of_cell? _ _ z0
      clear hA hdone hce hfz hB hzl hc hw0 HST hmk hj0 hj1 hj2 hi hN
      go_wp2_with fail
      have hG : Below wr.heap.size wr (wr.alloc (.cells #[.int .i64 j0, .int .i64 j1, .int .i64 j2] 91)) := (Below.refl _ _).alloc (Nat.le_refl _) _
      have hWG : Below g w (wr.alloc (.cells #[.int .i64 j0, .int .i64 j1, .int .i64 j2] 91)) := HB.out.trans (hG.mono (by omega))
      have HIP := Lib.hid ((HP.out.below (HG.out ▸ hWG)))
      have HGA := Lib.hid hG
      have HWG := Lib.hid hWG
      generalize (wr.alloc (.cells #[.int .i64 j0, .int .i64 j1, .int .i64 j2] 91)) = W1 at *
      clear hG hWG
      refine (HN.out _ HIP.out).mono ?_
      rintro e w1 ⟨x, rfl, hx, hB1⟩
      have hbb : Below wr.heap.size wr w1 := HGA.out.trans (hB1.mono HGA.out.size)
      have hgs1 : g < w1.heap.size := by have := hbb.size; omega
      have hf1 : w1.frozen? ⟨g, k, none⟩ = false := by rw [hbb.frozen (p := ⟨g, k, none⟩) hgs]; exact hf0
      have hv1 : w1.cell? ⟨g, k, none⟩ = some v0 := cell_below hbb hv0
      have HBB := Lib.hid hbb
      have HX := Lib.hid hx
      clear hB1 hbb hx hv0 hf0 z0 z1 z2
      go_wp2
      go_roundw
      case rel =>
        have hb1 := HBB.out
        have eo : ∀ j, j ≠ k → (w1.setCell ⟨g, k, none⟩ (.float .f32 x)).cell? ⟨g, j, none⟩ = wr.cell? ⟨g, j, none⟩ := by
          intro j hj
          rw [World.cell?_setCell_other _ _ _ _ (by simp <;> omega)]
          exact hb1.cell (p := ⟨g, j, none⟩) hgs
        have ek := World.cell?_setCell_same w1 ⟨g, k, none⟩ (.float .f32 x) hv1
        have hzk := HZL.out
        refine ⟨k + 1, by omega, by go_num, ⟨⟨(HB.out.trans (hb1.mono (by omega))).setCell (Nat.le_refl _) _, by simp <;> omega, fun j hj => ?_, fun j => ?_⟩, zs ++ [x], by simp [hzk], fun j hj => ?_⟩⟩
        · by_cases h0 : j = k
          · subst h0; exact ⟨_, ek⟩
          · obtain ⟨v, hv⟩ := HC.out j hj
            exact ⟨v, by rw [eo j h0]; exact hv⟩
        · simp; rw [hb1.frozen (p := ⟨g, j, none⟩) hgs]; exact HF.out j
        · by_cases hjk : j = k
          · have hgd : (zs ++ [x]).getD j 0 = x := by simp [List.getD, hjk, ← hzk]
            rw [hgd, hjk]; exact ⟨ek, HX.out⟩
          · have hjz : j < zs.length := by omega
            have hgd : (zs ++ [x]).getD j 0 = zs.getD j 0 := by simp [List.getD, List.getElem?_append_left hjz]
            rw [hgd, eo j hjk]; exact HD.out j (by omega)
      case measure => simp [intOf]; omega
    · obtain rfl : k = tl := by omega
      obtain ⟨⟨hB, hgs, hce, hfz⟩, zs, hzl, hdone⟩ := hA.out
      have hfin : IsFs .f32 wr (some ⟨g, 0, none⟩) k k zs := by
        refine ⟨hzl, Nat.le_refl _, by unfold maxLen; omega, ?_, by simp, fun x hx i hi => ?_⟩
        · intro z hz
          obtain ⟨i, hi, rfl⟩ := List.mem_iff_getElem.1 hz
          have := (hdone i (by omega)).2.1
          simpa [List.getD, hi] using this
        · cases hx
          rw [addr_add', Nat.zero_add]; exact (hdone i hi).1
      have HF := Lib.hid hfin
      have HB := Lib.hid hB
      have HD := Lib.hid (fun j hj => (hdone j hj).2)
      clear hA hB hce hfz hdone hfin hc hmk hw0 HST
      go_wp2
      go_ret
      exact ⟨zs, rfl, HF.out, HD.out, HB.out⟩
end Go.Proofs.Ytljpjmkickkcpab

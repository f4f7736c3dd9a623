
/-
Copies of lists of lists and of lists of vectors: what the law's own functions return. Conditions: at most 2^20 of each.
-/
import Derived.Test.YtcgnmnbjgamedaaMwB
import Derived.Test.YtcgnmnbjgamedaaReg
import Derived.Deep.LoopGhost
namespace Go.Proofs.Ytcgnmnbjgamedaa
open Go Fk Go.RowKit
set_option linter.unusedVariables false
set_option maxRecDepth 8000

theorem _root_.Go.Proofs.Ytcgnmnbjgamedaa.Fk.IsIs.set {w : World} {a : Addr} {v : Value} {b len cap : Nat} {o : Nat} {zs : List Int} (h : IsIs w (some ⟨b, o, none⟩) len cap zs) (hne : a.block ≠ b) : IsIs (w.setCell a v) (some ⟨b, o, none⟩) len cap zs := by
  obtain ⟨h1, h2, h3, h4, h5, h6⟩ := h
  refine ⟨h1, h2, h3, h4, h5, fun x hx i hi => ?_⟩
  have hc := h6 x hx i hi
  cases hx
  rw [addr_add'] at hc ⊢
  rw [World.cell?_setCell_other _ _ _ _ (by intro h; apply hne; rw [h])]; exact hc
theorem infoS : (Try.prog.info? 90).map (fun i => (i.zero, i.size, i.bytes)) = some (some (.slice none 0 0), 1, 24) := by kernel_rfl
theorem made_cell (w : World) (v : Value) (n i : Nat) (t : TypeId) (hi : i < n) : (w.alloc (.cells (madeCells #[v] n) t)).cell? ⟨w.heap.size, i, none⟩ = some v := by
  have : (madeCells #[v] n)[i]? = some v := by unfold madeCells; simp [hi, Nat.mod_one]
  simp [this]
set_option maxHeartbeats 400000 in
theorem laws_toInt64SS (a : Option Addr) (len cap : Nat) (ts : List (List Int)) (w : World) (h : IsTs w a len cap ts) (hlen : len ≤ 1048576) (hrow : ∀ k, k < len → (ts.getD k []).length ≤ 1048576) :
    Calls Try.prog 71 #[.slice a len cap] w fun e w' => e = .returned (.slice (some ⟨w.heap.size, 0, none⟩) len len) ∧ IsTs w' (some ⟨w.heap.size, 0, none⟩) len len ts ∧ Below w.heap.size w w' ∧ w.heap.size < w'.heap.size := by
  obtain ⟨i0, hi, hz0, hz1, hz2⟩ := info_parts infoS
  have hzl := h.1
  obtain ⟨g, hg⟩ : ∃ g, g = w.heap.size := ⟨_, rfl⟩
  have hmk : (Instr.makeSlice 43 (.int .i64 len) (.int .i64 len)).run Try.prog w = .ok (.slice (some ⟨g, 0, none⟩) len len) (w.alloc (.cells (madeCells #[.slice none 0 0] len) 90)) := by
    have := run_make (P := Try.prog) w 43 90 i0 (.slice none 0 0) Try.underlying43 hi hz0 .i64 .i64 len len (by omega) (Int.le_refl _) (by rw [hz2]; omega) (by omega)
    rw [this, hz1, hg]; simp; rfl
  have hstart : Below w.heap.size w (w.alloc (.cells (madeCells #[.slice none 0 0] len) 90)) ∧ g < (w.alloc (.cells (madeCells #[.slice none 0 0] len) 90)).heap.size ∧
      (∀ j, j < len → ∃ v, (w.alloc (.cells (madeCells #[.slice none 0 0] len) 90)).cell? ⟨g, j, none⟩ = some v) ∧ (∀ j, (w.alloc (.cells (madeCells #[.slice none 0 0] len) 90)).frozen? ⟨g, j, none⟩ = false) := by
    subst hg
    exact ⟨(Below.refl _ _).alloc (Nat.le_refl _) _, by simp, fun j hj => ⟨_, made_cell w _ len j _ hj⟩, fun j => by simp⟩
  rw [← hg] at hstart ⊢
  have HST := Lib.hid hstart
  have HG := Lib.hid hg
  clear hstart hg
  go_enter Try.func71, Try.ntmps71
  go_wp2
  generalize hw0 : w.alloc (.cells (madeCells #[.slice none 0 0] len) 90) = w0 at HST ⊢
  go_loopw [4] (fun i w' => ∃ k : Nat, k ≤ len ∧ i = .int .i64 k ∧ Aside ((Below g w w' ∧ g < w'.heap.size ∧ (∀ j, j < len → ∃ v, w'.cell? ⟨g, j, none⟩ = some v) ∧ (∀ j, w'.frozen? ⟨g, j, none⟩ = false)) ∧
      ∀ j, j < k → ∃ G, g < G ∧ w'.cell? ⟨g, j, none⟩ = some (.slice (some ⟨G, 0, none⟩) (ts.getD j []).length (ts.getD j []).length) ∧ IsIs w' (some ⟨G, 0, none⟩) (ts.getD j []).length (ts.getD j []).length (ts.getD j []))) (fun i _ => len - (intOf i).toNat)
  case atStart => exact ⟨0, Nat.zero_le _, rfl, HST.out, fun j hj => absurd hj (by omega)⟩
  case round =>
    obtain ⟨k, hk, rfl, hA⟩ := hrel
    by_cases hlt : k < len
    · obtain ⟨⟨hB, hgs, hce, hfz⟩, hdone⟩ := hA.out
      have h' := h.below (HG.out ▸ hB)
      obtain ⟨b, o, rfl, hcell⟩ := h'.some (by omega)
      obtain ⟨ra, n, c, hc, hi⟩ := hcell k hlt
      have hnl : (ts.getD k []).length = n := hi.1
      have hn : n ≤ 1048576 := by rw [← hnl]; exact hrow k hlt
      have hk0 : (0 : Int) ≤ (k : Int) := by omega
      have hk1 : (k : Int) < (len : Int) := by omega
      have hfk := hfz k
      obtain ⟨v0, hv0⟩ := hce k hlt
      have HI := Lib.hid hi
      have HD := Lib.hid hdone
      have HN := Lib.hid hnl
      have HC := Lib.hid hce
      have HF := Lib.hid hfz
      have HB := Lib.hid hB
      clear hA hcell h' hi hdone hnl hce hfz hB h
      go_wp2_with fail
      refine (laws_toInt64S _ _ _ _ _ HI.out hn).mono ?_
      rintro e w1 ⟨rfl, hI1, hB1, hS1⟩
      have hv1 : w1.cell? ⟨g, k, none⟩ = some v0 := by rw [hB1.cell (p := ⟨g, k, none⟩) hgs]; exact hv0
      have hf1 : w1.frozen? ⟨g, k, none⟩ = false := by rw [hB1.frozen (p := ⟨g, k, none⟩) hgs]; exact hfk
      have HI1 := Lib.hid hI1
      have HB1 := Lib.hid hB1
      clear hI1 hB1
      go_wp2
      go_roundw
      case rel =>
        have hB1 := HB1.out
        have hn' := HN.out
        refine ⟨k + 1, by omega, by go_num, ⟨⟨(HB.out.trans (hB1.mono (by omega))).setCell (Nat.le_refl _) _, by simp; omega, fun j hj => ?_, fun j => ?_⟩, fun j hj => ?_⟩⟩
        · by_cases hjk : j = k
          · subst hjk; exact ⟨_, World.cell?_setCell_same _ _ _ hv1⟩
          · obtain ⟨v, hv⟩ := HC.out j hj
            exact ⟨v, by rw [World.cell?_setCell_other _ _ _ _ (by simp <;> omega), hB1.cell (p := ⟨g, j, none⟩) hgs]; exact hv⟩
        · simp; rw [hB1.frozen (p := ⟨g, j, none⟩) hgs]; exact HF.out j
        · by_cases hjk : j = k
          · subst hjk
            refine ⟨wr.heap.size, hgs, ?_, ?_⟩
            · rw [hn', World.cell?_setCell_same _ _ _ hv1]
            · rw [hn']; exact HI1.out.set (by simp <;> omega)
          · obtain ⟨G, hG, hcG, hiG⟩ := HD.out j (by omega)
            have := World.block_lt_of_cell? wr _ hcG
            refine ⟨G, hG, ?_, ?_⟩
            · rw [World.cell?_setCell_other _ _ _ _ (by simp <;> omega), hB1.cell (p := ⟨g, j, none⟩) hgs]; exact hcG
            · exact (hiG.below hB1).set (by simp <;> omega)
      case measure => simp [intOf]; omega
    · obtain rfl : k = len := by omega
      obtain ⟨⟨hB, hgs, hce, hfz⟩, hdone⟩ := hA.out
      have hfin : IsTs wr (some ⟨g, 0, none⟩) k k ts := by
        refine ⟨hzl, Nat.le_refl _, by unfold maxLen; omega, by simp, fun x hx i hi => ?_⟩
        cases hx
        obtain ⟨G, hG, hc, hi⟩ := hdone i hi
        exact ⟨_, _, _, by rw [addr_add', Nat.zero_add]; exact hc, hi⟩
      have HF := Lib.hid hfin
      have HB := Lib.hid hB
      clear hA hB hce hfz hdone hfin h
      go_wp2
      go_ret
      exact ⟨rfl, HF.out, HB.out, hgs⟩
end Go.Proofs.Ytcgnmnbjgamedaa

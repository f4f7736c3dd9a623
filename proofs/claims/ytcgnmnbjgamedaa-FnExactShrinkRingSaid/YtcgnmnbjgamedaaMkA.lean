
/-
Marks in lists of integers: they are written where the list lies, and nowhere else. Conditions: the list's cells may be written.
-/
import Derived.Test.YtcgnmnbjgamedaaMwD
namespace Go.Proofs.Ytcgnmnbjgamedaa
open Go Fk Go.RowKit
set_option linter.unusedVariables false
set_option maxRecDepth 8000

/-- What lies outside the blocks from lo to hi is as it was; every cell is still there, and may be written if it could be. -/
structure Mark (lo hi : Nat) (w w' : World) : Prop where
  below : Below lo w w'
  above : ∀ k, hi ≤ k → k < w.heap.size → w'.heap[k]? = w.heap[k]?
  alive : ∀ n i, (∃ v, w.cell? ⟨n, i, none⟩ = some v) → ∃ v, w'.cell? ⟨n, i, none⟩ = some v
  frozen : ∀ n i, n < w.heap.size → w'.frozen? ⟨n, i, none⟩ = w.frozen? ⟨n, i, none⟩
theorem Mark.refl (lo hi : Nat) (w : World) : Mark lo hi w w := ⟨Below.refl _ _, fun _ _ _ => rfl, fun _ _ h => h, fun _ _ _ => rfl⟩
theorem Mark.trans {lo hi : Nat} {a b c : World} (h : Mark lo hi a b) (k : Mark lo hi b c) : Mark lo hi a c :=
  ⟨h.below.trans k.below, fun j h1 h2 => (k.above j h1 (Nat.lt_of_lt_of_le h2 h.below.size)).trans (h.above j h1 h2), fun n i e => k.alive n i (h.alive n i e), fun n i e => (k.frozen n i (Nat.lt_of_lt_of_le e h.below.size)).trans (h.frozen n i e)⟩
theorem Mark.set {lo hi : Nat} {w : World} {b o : Nat} {u : Value} (h1 : lo ≤ b) (h2 : b < hi) : Mark lo hi w (w.setCell ⟨b, o, none⟩ u) := by
  refine ⟨(Below.refl _ _).setCell h1 _, fun k hk _ => Below.heap_setCell _ _ _ _ (by simp; omega), fun n i ⟨v, hv⟩ => ?_, fun n i _ => by simp⟩
  by_cases h : (⟨b, o, none⟩ : Addr) = ⟨n, i, none⟩
  · rw [← h] at hv ⊢; exact ⟨_, World.cell?_setCell_same w _ u hv⟩
  · exact ⟨v, by rw [World.cell?_setCell_other _ _ _ _ h]; exact hv⟩
theorem Mark.wide {lo hi lo' hi' : Nat} {w w' : World} (h : Mark lo hi w w') (h1 : lo' ≤ lo) (h2 : hi ≤ hi') : Mark lo' hi' w w' :=
  ⟨h.below.mono h1, fun k hk e => h.above k (Nat.le_trans h2 hk) e, h.alive, h.frozen⟩
theorem Mark.alloc {lo hi : Nat} {w : World} (h : lo ≤ w.heap.size) (o : Obj) : Mark lo hi w (w.alloc o) := by
  refine ⟨(Below.refl _ _).alloc h _, fun k _ hk => Below.heap_alloc _ _ _ hk, fun n i ⟨v, hv⟩ => ⟨v, ?_⟩, fun n i hn => ?_⟩
  · rw [World.cell?_alloc_lt (h := World.block_lt_of_cell? _ _ hv)]; exact hv
  · exact World.frozen?_of_block (Below.heap_alloc _ _ _ hn)
theorem Mark.drewN {lo hi : Nat} {w : World} (n : Nat) : Mark lo hi w (w.drewN n) := ⟨below_drewN (Below.refl _ _) n, fun _ _ _ => rfl, fun _ _ h => h, fun _ _ _ => rfl⟩
theorem Mark.cell {lo hi : Nat} {w w' : World} (h : Mark lo hi w w') {b i : Nat} {v : Value} (hb : b < lo ∨ hi ≤ b) (hv : w.cell? ⟨b, i, none⟩ = some v) : w'.cell? ⟨b, i, none⟩ = some v := by
  rcases hb with hb | hb
  · rw [h.below.cell (p := ⟨b, i, none⟩) hb]; exact hv
  · rw [World.cell?_of_block (w := w) (h.above b hb (World.block_lt_of_cell? _ _ hv))]; exact hv
/-- These cells are there, in a block from lo to hi, and may be written. -/
def Own (lo hi : Nat) (w : World) (b o n : Nat) : Prop := lo ≤ b ∧ b < hi ∧ b < w.heap.size ∧ ∀ j, j < n → (∃ v, w.cell? ⟨b, o + j, none⟩ = some v) ∧ w.frozen? ⟨b, o + j, none⟩ = false
theorem Own.mark {lo hi lo' hi' : Nat} {w w' : World} {b o n : Nat} (h : Own lo hi w b o n) (k : Mark lo' hi' w w') : Own lo hi w' b o n :=
  ⟨h.1, h.2.1, Nat.lt_of_lt_of_le h.2.2.1 k.below.size, fun j hj => ⟨k.alive _ _ (h.2.2.2 j hj).1, by rw [k.frozen _ _ h.2.2.1]; exact (h.2.2.2 j hj).2⟩⟩
set_option maxHeartbeats 400000 in
theorem laws_markInt64S (lo hi b o len cap : Nat) (k0 : Nat) (w : World) (h : Own lo hi w b o len) (hk : k0 + len ≤ 9000000000000000000) :
    Calls Try.prog 113 #[.slice (some ⟨b, o, none⟩) len cap, .int .i64 k0] w fun e w' => e = .returned (.int .i64 ((k0 + len : Nat) : Int)) ∧ (∀ j, j < len → w'.cell? ⟨b, o + j, none⟩ = some (.int .i64 ((k0 + j : Nat) : Int))) ∧ (∀ n i, (n ≠ b ∨ i < o ∨ o + len ≤ i) → w'.cell? ⟨n, i, none⟩ = w.cell? ⟨n, i, none⟩) ∧ Mark lo hi w w' := by
  obtain ⟨h1, h2, h3, h4⟩ := h
  have H4 := Lib.hid h4
  have H1 := Lib.hid h1
  have H2 := Lib.hid h2
  have H3 := Lib.hid h3
  clear h1 h2 h3 h4
  go_enter Try.func113, Try.ntmps113
  go_wp2
  go_loopw [1, 5] (fun q i w' => ∃ k : Nat, k ≤ len ∧ i = .int .i64 k ∧ q = .int .i64 ((k0 + k : Nat) : Int) ∧ Aside ((∀ j, j < k → w'.cell? ⟨b, o + j, none⟩ = some (.int .i64 ((k0 + j : Nat) : Int))) ∧ (∀ n i, (n ≠ b ∨ i < o ∨ o + len ≤ i) → w'.cell? ⟨n, i, none⟩ = w.cell? ⟨n, i, none⟩) ∧ Mark lo hi w w')) (fun _ i _ => len - (intOf i).toNat)
  case atStart => exact ⟨0, Nat.zero_le _, rfl, rfl, fun j hj => absurd hj (by omega), fun _ _ _ => rfl, Mark.refl _ _ _⟩
  case round =>
    obtain ⟨k, hkl, rfl, rfl, hA⟩ := hrel
    by_cases hlt : k < len
    · obtain ⟨hdone, hother, hM⟩ := hA.out
      obtain ⟨v, hv⟩ := hM.alive _ _ (H4.out k hlt).1
      have hf : wr.frozen? ⟨b, o + k, none⟩ = false := by rw [hM.frozen _ _ H3.out]; exact (H4.out k hlt).2
      have HD := Lib.hid hdone
      have HO := Lib.hid hother
      have HM := Lib.hid hM
      have hk0 : (0 : Int) ≤ (k : Int) := by omega
      have hk1 : (k : Int) < (len : Int) := by omega
      clear hA hdone hother hM
      go_wp2
      go_roundw
      case rel =>
        refine ⟨k + 1, by omega, by go_num, by go_num, fun j hj => ?_, fun n i hn => ?_, HM.out.trans (Mark.set H1.out H2.out)⟩
        · by_cases hjk : j = k
          · subst hjk; exact World.cell?_setCell_same _ _ _ hv
          · rw [World.cell?_setCell_other _ _ _ _ (by simp <;> omega)]; exact HD.out j (by omega)
        · rw [World.cell?_setCell_other _ _ _ _ (by simp <;> omega)]; exact HO.out n i hn
      case measure => simp [intOf]; omega
    · obtain rfl : k = len := by omega
      obtain ⟨hdone, hother, hM⟩ := hA.out
      have HD := Lib.hid hdone
      have HO := Lib.hid hother
      have HM := Lib.hid hM
      clear hA hdone hother hM
      go_wp2
      go_ret
      exact ⟨rfl, HD.out, HO.out, HM.out⟩
theorem laws_heldInt64S (b o len cap : Nat) (k0 : Nat) (w : World) (h : ∀ j, j < len → w.cell? ⟨b, o + j, none⟩ = some (.int .i64 ((k0 + j : Nat) : Int))) (hk : k0 + len ≤ 9000000000000000000) :
    Calls Try.prog 114 #[.slice (some ⟨b, o, none⟩) len cap, .int .i64 k0] w fun e w' => e = .returned (.int .i64 ((k0 + len : Nat) : Int)) ∧ w' = w := by
  have H := Lib.hid h
  clear h
  go_enter Try.func114, Try.ntmps114
  go_wp2
  go_loopw [1, 5] (fun q i w' => ∃ k : Nat, k ≤ len ∧ i = .int .i64 k ∧ q = .int .i64 ((k0 + k : Nat) : Int) ∧ w' = w) (fun _ i _ => len - (intOf i).toNat)
  case atStart => exact ⟨0, Nat.zero_le _, rfl, rfl, rfl⟩
  case round =>
    obtain ⟨k, hkl, rfl, rfl, rfl⟩ := hrel
    by_cases hlt : k < len
    · have hv := H.out k hlt
      have hk0 : (0 : Int) ≤ (k : Int) := by omega
      have hk1 : (k : Int) < (len : Int) := by omega
      go_wp2
      go_roundw
      case rel => exact ⟨k + 1, by omega, by go_num, by go_num, by first | trivial | rfl⟩
      case measure => simp [intOf]; omega
    · obtain rfl : k = len := by omega
      go_wp2
      go_ret
      exact ⟨rfl, by first | rfl | trivial⟩
end Go.Proofs.Ytcgnmnbjgamedaa

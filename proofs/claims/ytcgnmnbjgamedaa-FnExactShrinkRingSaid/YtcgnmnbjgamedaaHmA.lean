
/-
Marks in rows that lie beside one another in one block. Conditions: none.
-/
import Derived.Test.YtcgnmnbjgamedaaMkC
import Derived.Test.YtcgnmnbjgamedaaMkD
namespace Go.Proofs.Ytcgnmnbjgamedaa
open Go Fk Go.RowKit
set_option linter.unusedVariables false
set_option maxRecDepth 8000
/-- The block R has n rows, which lie beside one another in the block F. -/
def FlatRows (w : World) (R F n : Nat) : Prop := ∀ j, j < n → ∃ c, w.cell? ⟨R, j, none⟩ = some (.slice (some ⟨F, j * 3, none⟩) 3 c)
theorem FlatRows.same {w w' : World} {R F n : Nat} (h : FlatRows w R F n) (hs : ∀ i v, w.cell? ⟨R, i, none⟩ = some v → w'.cell? ⟨R, i, none⟩ = some v) : FlatRows w' R F n := fun j hj => by
  obtain ⟨c, hc⟩ := h j hj
  exact ⟨c, hs _ _ hc⟩
theorem own_part {lo hi : Nat} {w : World} {b o n p m : Nat} (h : Own lo hi w b o n) (hp : p + m ≤ n) : Own lo hi w b (o + p) m :=
  ⟨h.1, h.2.1, h.2.2.1, fun j hj => by have := h.2.2.2 (p + j) (by omega); rwa [← Nat.add_assoc] at this⟩
set_option maxHeartbeats 400000 in
theorem mark_flat (lo hi R F n cap : Nat) (k0 : Nat) (w : World) (hr : FlatRows w R F n) (ho : Own lo hi w F 0 (n * 3)) (hne : R ≠ F) (hl : n ≤ 1048576) (hk : k0 ≤ 1000000000000000000) :
    Calls Try.prog 78 #[.slice (some ⟨R, 0, none⟩) n cap, .int .i64 k0] w fun e w' => e = .returned (.int .i64 ((k0 + n * 3 : Nat) : Int)) ∧ (∀ j, j < n * 3 → w'.cell? ⟨F, j, none⟩ = some (.int .i64 ((k0 + j : Nat) : Int))) ∧ (∀ b i, b ≠ F → w'.cell? ⟨b, i, none⟩ = w.cell? ⟨b, i, none⟩) ∧ Mark lo hi w w' := by
  have H := Lib.hid hr
  have HO := Lib.hid ho
  have HNE := Lib.hid hne
  clear hr ho hne
  go_enter Try.func78, Try.ntmps78
  go_wp2
  go_loopw [1, 5] (fun q i w' => ∃ k : Nat, k ≤ n ∧ i = .int .i64 k ∧ q = .int .i64 ((k0 + k * 3 : Nat) : Int) ∧ Aside ((∀ j, j < k * 3 → w'.cell? ⟨F, j, none⟩ = some (.int .i64 ((k0 + j : Nat) : Int))) ∧ (∀ b i, b ≠ F → w'.cell? ⟨b, i, none⟩ = w.cell? ⟨b, i, none⟩) ∧ Mark lo hi w w')) (fun _ i _ => n - (intOf i).toNat)
  case atStart => exact ⟨0, Nat.zero_le _, rfl, by simp, fun j hj => absurd hj (by omega), fun _ _ _ => rfl, Mark.refl _ _ _⟩
  case round =>
    obtain ⟨k, hkl, rfl, rfl, hA⟩ := hrel
    by_cases hlt : k < n
    · obtain ⟨hdone, hsame, hM⟩ := hA.out
      obtain ⟨c, hc⟩ := H.out k hlt
      have hc' : wr.cell? ⟨R, k, none⟩ = some (.slice (some ⟨F, k * 3, none⟩) 3 c) := (hsame _ _ HNE.out).trans hc
      have hown : Own lo hi wr F (k * 3) 3 := by have := own_part (p := k * 3) (m := 3) (HO.out.mark hM) (by omega); rwa [Nat.zero_add] at this
      have HS := Lib.hid hsame
      have HM := Lib.hid hM
      have HW := Lib.hid hown
      have HD := Lib.hid hdone
      have hk0 : (0 : Int) ≤ (k : Int) := by omega
      have hk1 : (k : Int) < (n : Int) := by omega
      clear hA hsame hM hc hown hdone
      go_wp2_with fail
      refine (laws_markInt64S lo hi F (k * 3) 3 c (k0 + k * 3) wr HW.out (by omega)).mono ?_
      rintro e w1 ⟨rfl, hd, ho, hM1⟩
      have HO1 := Lib.hid ho
      have HD1 := Lib.hid hd
      have HM1 := Lib.hid hM1
      clear hd ho hM1
      go_wp2
      go_roundw
      case rel =>
        refine ⟨k + 1, by omega, by go_num, by congr 1 <;> omega, fun j hj => ?_, fun b i hb => (HO1.out b i (.inl hb)).trans (HS.out b i hb), HM.out.trans HM1.out⟩
        by_cases hj3 : j < k * 3
        · rw [HO1.out F j (.inr (.inl hj3))]; exact HD.out j hj3
        · have := HD1.out (j - k * 3) (by omega)
          rw [show k * 3 + (j - k * 3) = j by omega, show k0 + k * 3 + (j - k * 3) = k0 + j by omega] at this
          exact this
      case measure => simp [intOf]; omega
    · obtain rfl : k = n := by omega
      have HA := Lib.hid hA.out
      clear hA
      go_wp2
      go_ret
      exact ⟨rfl, HA.out.1, HA.out.2.1, HA.out.2.2⟩
theorem held_flat (R F n cap : Nat) (k0 : Nat) (w : World) (hr : FlatRows w R F n) (ho : ∀ j, j < n * 3 → w.cell? ⟨F, j, none⟩ = some (.int .i64 ((k0 + j : Nat) : Int))) (hl : n ≤ 1048576) (hk : k0 ≤ 1000000000000000000) :
    Calls Try.prog 80 #[.slice (some ⟨R, 0, none⟩) n cap, .int .i64 k0] w fun e w' => e = .returned (.int .i64 ((k0 + n * 3 : Nat) : Int)) ∧ w' = w := by
  have H := Lib.hid hr
  have HO := Lib.hid ho
  clear hr ho
  go_enter Try.func80, Try.ntmps80
  go_wp2
  go_loopw [1, 5] (fun q i w' => ∃ k : Nat, k ≤ n ∧ i = .int .i64 k ∧ q = .int .i64 ((k0 + k * 3 : Nat) : Int) ∧ w' = w) (fun _ i _ => n - (intOf i).toNat)
  case atStart => exact ⟨0, Nat.zero_le _, rfl, by simp, rfl⟩
  case round =>
    obtain ⟨k, hkl, rfl, rfl, hw⟩ := hrel
    by_cases hlt : k < n
    · obtain ⟨c, hc⟩ := H.out k hlt
      have hc' : wr.cell? ⟨R, k, none⟩ = some (.slice (some ⟨F, k * 3, none⟩) 3 c) := by rw [hw]; exact hc
      have hJ := laws_heldInt64S F (k * 3) 3 c (k0 + k * 3) wr (fun j hj => by rw [hw, HO.out (k * 3 + j) (by omega), Nat.add_assoc]) (by omega)
      have HJ := Lib.hid hJ
      have HW := Lib.hid hw
      have hk0 : (0 : Int) ≤ (k : Int) := by omega
      have hk1 : (k : Int) < (n : Int) := by omega
      have hn0 : ¬ ((k0 + k * 3 + 3 : Nat) : Int) < 0 := by omega
      clear hc hJ hw
      go_wp2_with fail
      refine HJ.out.mono ?_
      rintro e w1 ⟨rfl, hw1⟩
      rw [hw1]
      clear hw1 w1
      go_wp2
      go_roundw
      case rel => exact ⟨k + 1, by omega, by go_num, by congr 1 <;> omega, HW.out⟩
      case measure => simp [intOf]; omega
    · obtain rfl : k = n := by omega
      have HW := Lib.hid hw
      clear hw
      go_wp2
      go_ret
      exact ⟨rfl, HW.out⟩
end Go.Proofs.Ytcgnmnbjgamedaa

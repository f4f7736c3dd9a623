
/-
Marks in lists of vectors: they are held. Conditions: they were written.
-/
import Derived.Test.YtcgnmnbjgamedaaMkB
namespace Go.Proofs.Ytcgnmnbjgamedaa
open Go Fk Go.RowKit
set_option linter.unusedVariables false
set_option maxRecDepth 8000

theorem mark_self (z : Int) : (FloatKind.f32.format.order (floatOfInt .f32 z) (floatOfInt .f32 z) != some .eq) = false := by
  have h : (FloatKind.f32.decode (floatOfInt .f32 z)).isNaN = false := isNaN_write .f32 (.number (z < 0) z.natAbs 0) rfl
  rw [order_self h]; rfl
set_option maxHeartbeats 400000 in
theorem laws_heldVectorS (b o len cap : Nat) (k0 : Nat) (w : World) (h : ∀ j, j < len * 3 → w.cell? ⟨b, o + j, none⟩ = some (.float .f32 (floatOfInt .f32 ((k0 + j : Nat) : Int)))) (hk : k0 + len * 3 ≤ 9000000000000000000) :
    Calls Try.prog 79 #[.slice (some ⟨b, o, none⟩) len cap, .int .i64 k0] w fun e w' => e = .returned (.int .i64 ((k0 + len * 3 : Nat) : Int)) ∧ w' = w := by
  have u := Try.underlying22
  have uv := Try.underlying33
  have H := Lib.hid h
  clear h
  go_enter Try.func79, Try.ntmps79
  go_wp2
  go_loopw [1, 5] (fun q i w' => ∃ k : Nat, k ≤ len ∧ i = .int .i64 k ∧ q = .int .i64 ((k0 + k * 3 : Nat) : Int) ∧ w' = w) (fun _ i _ => len - (intOf i).toNat)
  case atStart => exact ⟨0, Nat.zero_le _, rfl, rfl, rfl⟩
  case round =>
    obtain ⟨k, hkl, rfl, rfl, rfl⟩ := hrel
    by_cases hlt : k < len
    · have hv0 := H.out (k * 3) (by omega)
      have hv1 := H.out (k * 3 + 1) (by omega)
      have hv2 := H.out (k * 3 + 2) (by omega)
      rw [← Nat.add_assoc, show ((k0 + (k * 3 + 1) : Nat) : Int) = (k0 : Int) + (k : Int) * 3 + 1 by omega] at hv1
      rw [← Nat.add_assoc, show ((k0 + (k * 3 + 2) : Nat) : Int) = (k0 : Int) + (k : Int) * 3 + 1 + 1 by omega] at hv2
      rw [show ((k0 + k * 3 : Nat) : Int) = (k0 : Int) + (k : Int) * 3 by omega] at hv0
      have s0 := mark_self ((k0 : Int) + (k : Int) * 3)
      have s1 := mark_self ((k0 : Int) + (k : Int) * 3 + 1)
      have s2 := mark_self ((k0 : Int) + (k : Int) * 3 + 1 + 1)
      have hk0 : (0 : Int) ≤ (k : Int) := by omega
      have hk1 : (k : Int) < (len : Int) := by omega
      go_wp2
      go_roundw
      case rel => exact ⟨k + 1, by omega, by go_num, by go_num, by first | trivial | rfl⟩
      case measure => simp [intOf]; omega
    · obtain rfl : k = len := by omega
      go_wp2
      go_ret
      exact ⟨rfl, by first | rfl | trivial⟩
end Go.Proofs.Ytcgnmnbjgamedaa

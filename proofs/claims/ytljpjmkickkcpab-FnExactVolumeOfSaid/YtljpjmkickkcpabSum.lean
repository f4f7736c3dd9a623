
/-
Sums of lists: what the program and its model return, and that the law returns true. Conditions: none.
-/
import Derived.Test.YtljpjmkickkcpabSl
namespace Go.Proofs.Ytljpjmkickkcpab
open Go Fk Go.RowKit
set_option linter.unusedVariables false
set_option maxRecDepth 8000

def sumC (zs : List Nat) : Option Nat := zs.foldl (fun c z => fop .add .f32 c (cls .f32 z)) (some 0)
theorem sumC_snoc (zs : List Nat) (k : Nat) (hk : k < zs.length) : sumC (zs.take (k + 1)) = fop .add .f32 (sumC (zs.take k)) (cls .f32 (zs.getD k 0)) := by
  rw [List.take_succ_eq_append_getElem hk]
  unfold sumC
  rw [List.foldl_append]
  simp [List.getD, hk]
theorem FV_zero : FV .f32 0 (some 0) := ⟨by decide, by decide⟩
theorem FV_at {w : World} {a : Option Addr} {len cap : Nat} {zs : List Nat} (h : IsFs .f32 w a len cap zs) (k : Nat) (hk : k < len) : FV .f32 (zs.getD k 0) (cls .f32 (zs.getD k 0)) := by
  have hl := h.1
  have hkz : k < zs.length := by omega
  refine FV.self ?_
  rw [show zs.getD k 0 = zs[k] by simp [List.getD, hkz]]
  exact h.2.2.2.1 _ (List.getElem_mem _)

theorem impl_SumNumbers_many (a : Option Addr) (len cap : Nat) (w : World) (hf : ¬ len ≤ 256) :
    Calls Try.prog 60 #[.slice a len cap] w fun e w' => e = .returned (.tuple #[.float .f32 0, .bool false]) ∧ w' = w := by
  have h1 : (256 : Int) < len := by omega
  go_enter Try.func60, Try.ntmps60
  go_wp2
  go_ret2
  exact ⟨rfl, rfl⟩
set_option maxHeartbeats 400000 in
theorem impl_SumNumbers_few (a : Option Addr) (len cap : Nat) (zs : List Nat) (w : World) (ha : IsFs .f32 w a len cap zs) (hf : len ≤ 256) :
    Calls Try.prog 60 #[.slice a len cap] w fun e w' => ∃ r, e = .returned (.tuple #[.float .f32 r, .bool true]) ∧ FV .f32 r (sumC zs) ∧ ∃ n, w' = w.drewN n := by
  have u := Try.underlying27
  have h1 : ¬ (256 : Int) < len := by omega
  have hzl := ha.1
  go_enter Try.func60, Try.ntmps60
  go_wp2
  go_loopw [4, 12] (fun s i w' => ∃ k : Nat, k ≤ len ∧ i = .int .i64 k ∧ (∃ r, s = .float .f32 r ∧ FV .f32 r (sumC (zs.take k))) ∧ ∃ n, w' = w.drewN n) (fun _ i _ => len - (intOf i).toNat)
  case atStart => exact ⟨0, Nat.zero_le _, rfl, ⟨0, rfl, FV_zero⟩, 0, rfl⟩
  case round =>
    obtain ⟨k, hk, rfl, ⟨r, rfl, hr⟩, n, rfl⟩ := hrel
    by_cases hlt : k < len
    · obtain ⟨b1, o1, rfl, hcell1⟩ := IsFs_some ha (by omega)
      have c1 := hcell1 k hlt
      have hv := FV_at ha k hlt
      have hsn := Lib.hid (sumC_snoc zs k (by omega))
      generalize zs.getD k 0 = z at *
      clear hcell1 ha
      have hk0 : (0 : Int) ≤ (k : Int) := by omega
      have hk1 : (k : Int) < (len : Int) := by omega
      go_wp2
      go_roundw
      case rel => exact ⟨k + 1, by omega, by go_num, ⟨_, rfl, by rw [hsn.out]; exact FV_fR hr hv⟩, _, rfl⟩
      case measure => simp [intOf]; omega
    · have ht : zs.take k = zs := List.take_of_length_le (by omega)
      rw [ht] at hr
      go_wp2
      go_ret2
      exact ⟨_, rfl, hr, _, rfl⟩
end Go.Proofs.Ytljpjmkickkcpab

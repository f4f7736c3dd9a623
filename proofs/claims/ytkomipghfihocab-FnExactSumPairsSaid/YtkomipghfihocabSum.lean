
/-
Sums of lists: what the program and its model return, and that the law returns true. Conditions: none.
-/
import Derived.Test.YtkomipghfihocabSl
namespace Go.Proofs.Ytkomipghfihocab
open Go Fk Go.RowKit
set_option linter.unusedVariables false

def sumC (zs : List Nat) : Option Nat := zs.foldl (fun c z => fop .add .f32 c (cls .f32 z)) (some 0)
theorem sumC_snoc (zs : List Nat) (k : Nat) (hk : k < zs.length) : sumC (zs.take (k + 1)) = fop .add .f32 (sumC (zs.take k)) (cls .f32 (zs.getD k 0)) := by
  rw [List.take_succ_eq_append_getElem hk]
  unfold sumC
  rw [List.foldl_append]
  simp [List.getD, hk]
theorem FV_zero : FV .f32 0 (some 0) := ⟨by decide, by decide⟩
theorem FV_at {w : World} {a : Option Addr} {len cap : Nat} {zs : List Nat} (h : IsFs .f32 w a len cap zs) (k : Nat) (hk : k < len) : FV .f32 (zs.getD k 0) (cls .f32 (zs.getD k 0)) := by
  have hl := h.1
  have hkz : k < zs.length := by omega
  refine FV.self ?_
  rw [show zs.getD k 0 = zs[k] by simp [List.getD, hkz]]
  exact h.2.2.2.1 _ (List.getElem_mem _)

set_option maxHeartbeats 400000 in
theorem l01Sum (a : Option Addr) (len cap : Nat) (zs : List Nat) (w : World) (ha : IsFs .f32 w a len cap zs) :
    Calls Try.prog 45 #[.slice a len cap] w fun e w' => ∃ r, e = .returned (.float .f32 r) ∧ FV .f32 r (sumC zs) ∧ ∃ n, w' = w.drewN n := by
  have u := Try.underlying22
  have hm : len ≤ 9223372036854775807 := by have h1 := ha.2.1; have h2 := ha.2.2.1; unfold maxLen at h2; omega
  have hzl := ha.1
  go_enter Try.func45, Try.ntmps45
  go_wp2
  go_loopw [3, 4] (fun s i w' => ∃ k : Nat, k ≤ len ∧ i = .int .i64 k ∧ (∃ r, s = .float .f32 r ∧ FV .f32 r (sumC (zs.take k))) ∧ ∃ n, w' = w.drewN n) (fun _ i _ => len - (intOf i).toNat)
  case atStart => exact ⟨0, Nat.zero_le _, rfl, ⟨0, rfl, FV_zero⟩, 0, rfl⟩
  case round =>
    obtain ⟨k, hk, rfl, ⟨r, rfl, hr⟩, n, rfl⟩ := hrel
    by_cases hlt : k < len
    · obtain ⟨b1, o1, rfl, hcell1⟩ := IsFs_some ha (by omega)
      have c1 := hcell1 k hlt
      have hv := FV_at ha k hlt
      have hsn := Lib.hid (sumC_snoc zs k (by omega))
      generalize zs.getD k 0 = z at *
      clear hcell1 ha
      have hk0 : (0 : Int) ≤ (k : Int) := by omega
      have hk1 : (k : Int) < (len : Int) := by omega
      go_wp2
      go_roundw
      case rel => exact ⟨k + 1, by omega, by go_num, ⟨_, rfl, by rw [hsn.out]; exact FV_fR hr hv⟩, _, rfl⟩
      case measure => simp [intOf]; omega
    · have ht : zs.take k = zs := List.take_of_length_le (by omega)
      rw [ht] at hr
      go_wp2
      go_ret
      exact ⟨_, rfl, hr, _, rfl⟩
theorem l01Few (a : Option Addr) (len cap : Nat) (w : World) :
    Calls Try.prog 44 #[.slice a len cap] w fun e w' => e = .returned (.bool (decide (len ≤ 256))) ∧ w' = w := by
  go_enter Try.func44, Try.ntmps44
  go_wp2
  go_ret
  exact ⟨ret_bool (decide_eq_decide.2 (by omega)), rfl⟩
theorem spec_SumNumbers_few (a : Option Addr) (len cap : Nat) (zs : List Nat) (w : World) (ha : IsFs .f32 w a len cap zs) (hf : len ≤ 256) :
    Calls Try.prog 18 #[.slice a len cap] w fun e w' => ∃ r, e = .returned (.tuple #[.float .f32 r, .bool true]) ∧ FV .f32 r (sumC zs) ∧ ∃ n, w' = w.drewN n := by
  have hd : decide (len ≤ 256) = true := decide_eq_true hf
  go_enter Try.func18, Try.ntmps18
  go_wp2_with (first
    | (go_at_call 44; refine (l01Few _ _ _ _).mono ?_; rintro e w' ⟨rfl, rfl⟩)
    | (go_at_call 45; refine (l01Sum _ _ _ _ _ ha).mono ?_; rintro e w' ⟨r, rfl, hr, n, rfl⟩))
  go_ret2
  exact ⟨_, rfl, hr, _, rfl⟩
theorem spec_SumNumbers_many (a : Option Addr) (len cap : Nat) (w : World) (hf : ¬ len ≤ 256) :
    Calls Try.prog 18 #[.slice a len cap] w fun e w' => e = .returned (.tuple #[.float .f32 0, .bool false]) ∧ w' = w := by
  have hd : decide (len ≤ 256) = false := decide_eq_false hf
  clear hf
  go_enter Try.func18, Try.ntmps18
  go_wp2_with (first
    | (go_at_call 44; refine (l01Few _ _ _ _).mono ?_; rintro e w' ⟨rfl, rfl⟩))
  go_ret2
  exact ⟨rfl, rfl⟩
theorem impl_SumNumbers_many (a : Option Addr) (len cap : Nat) (w : World) (hf : ¬ len ≤ 256) :
    Calls Try.prog 20 #[.slice a len cap] w fun e w' => e = .returned (.tuple #[.float .f32 0, .bool false]) ∧ w' = w := by
  have h1 : (256 : Int) < len := by omega
  go_enter Try.func20, Try.ntmps20
  go_wp2
  go_ret2
  exact ⟨rfl, rfl⟩
set_option maxHeartbeats 400000 in
theorem impl_SumNumbers_few (a : Option Addr) (len cap : Nat) (zs : List Nat) (w : World) (ha : IsFs .f32 w a len cap zs) (hf : len ≤ 256) :
    Calls Try.prog 20 #[.slice a len cap] w fun e w' => ∃ r, e = .returned (.tuple #[.float .f32 r, .bool true]) ∧ FV .f32 r (sumC zs) ∧ ∃ n, w' = w.drewN n := by
  have u := Try.underlying22
  have h1 : ¬ (256 : Int) < len := by omega
  have hzl := ha.1
  go_enter Try.func20, Try.ntmps20
  go_wp2
  go_loopw [4, 12] (fun s i w' => ∃ k : Nat, k ≤ len ∧ i = .int .i64 k ∧ (∃ r, s = .float .f32 r ∧ FV .f32 r (sumC (zs.take k))) ∧ ∃ n, w' = w.drewN n) (fun _ i _ => len - (intOf i).toNat)
  case atStart => exact ⟨0, Nat.zero_le _, rfl, ⟨0, rfl, FV_zero⟩, 0, rfl⟩
  case round =>
    obtain ⟨k, hk, rfl, ⟨r, rfl, hr⟩, n, rfl⟩ := hrel
    by_cases hlt : k < len
    · obtain ⟨b1, o1, rfl, hcell1⟩ := IsFs_some ha (by omega)
      have c1 := hcell1 k hlt
      have hv := FV_at ha k hlt
      have hsn := Lib.hid (sumC_snoc zs k (by omega))
      generalize zs.getD k 0 = z at *
      clear hcell1 ha
      have hk0 : (0 : Int) ≤ (k : Int) := by omega
      have hk1 : (k : Int) < (len : Int) := by omega
      go_wp2
      go_roundw
      case rel => exact ⟨k + 1, by omega, by go_num, ⟨_, rfl, by rw [hsn.out]; exact FV_fR hr hv⟩, _, rfl⟩
      case measure => simp [intOf]; omega
    · have ht : zs.take k = zs := List.take_of_length_le (by omega)
      rw [ht] at hr
      go_wp2
      go_ret2
      exact ⟨_, rfl, hr, _, rfl⟩
set_option maxHeartbeats 400000 in
theorem FnExactSumNumbers_law (a : Option Addr) (len cap : Nat) (zs : List Nat) (w : World) (ha : IsFs .f32 w a len cap zs) :
    Calls Try.prog 4 #[.slice a len cap] w fun e w' => e = .returned (.bool true) ∧ Below w.heap.size w w' := by
  have u := Try.underlying22
  have u' := Try.underlying25
  by_cases hb : 1048576 < len
  · have hb' : (1048576 : Int) < len := by omega
    go_enter Try.func4, Try.ntmps4
    go_wp2
    go_ret
    exact ⟨rfl, Below.refl _ _⟩
  · have hb' : ¬ (1048576 : Int) < len := by omega
    have hlen : len ≤ 1048576 := by omega
    go_enter Try.func4, Try.ntmps4
    go_wp2_with fail
    refine (laws_toFloat32S _ _ _ _ _ ha hlen).mono ?_
    rintro en w1 ⟨g1, rfl, hg1, hb1⟩
    by_cases hf : len ≤ 256
    · go_wp2_with fail
      refine (spec_SumNumbers_few _ _ _ _ _ hg1 hf).mono ?_
      rintro en w2 ⟨r, rfl, hr, n2, rfl⟩
      have ha1 := IsFs_drewN (n := n2) (IsFs_below hb1 ha)
      go_wp2_with fail
      refine (laws_toFloat32S _ _ _ _ _ ha1 hlen).mono ?_
      rintro en w3 ⟨g3, rfl, hg3, hb3⟩
      go_wp2_with fail
      refine (impl_SumNumbers_few _ _ _ _ _ hg3 hf).mono ?_
      rintro en w4 ⟨r', rfl, hr', n4, rfl⟩
      go_wp2_with fail
      refine (laws_sameFloat _ _ _ _ (FV_wR hr') (FV_wR hr)).mono ?_
      rintro en w5 ⟨rfl, n5, rfl⟩
      have ha3 := IsFs_below hb3 ha1
      go_wp2_with fail
      refine (laws_toFloat32S _ _ _ _ _ (IsFs_drewN ha3) hlen).mono ?_
      rintro en w6 ⟨g6, rfl, hg6, hb6⟩
      go_wp2_with fail
      refine (laws_eqFloat32S _ _ _ _ _ _ _ (IsFs_below hb6 (IsFs_drewN hg3)) hg6 hlen).mono ?_
      rintro en w7 ⟨rfl, n7, rfl⟩
      have B1 := hb1.size
      have B3 := hb3.size
      simp at B3
      go_wp2
      go_ret
      exact ⟨rfl, below_drewN (((below_drewN hb1 _).trans (hb3.mono (by simp; omega)) |> fun h => below_drewN h _).trans (hb6.mono (by simp; omega))) _⟩
    · go_wp2_with fail
      refine (spec_SumNumbers_many _ _ _ _ hf).mono ?_
      rintro en w2 ⟨rfl, rfl⟩
      have ha1 := IsFs_below hb1 ha
      have hr := FV_zero
      go_wp2_with fail
      refine (laws_toFloat32S _ _ _ _ _ ha1 hlen).mono ?_
      rintro en w3 ⟨g3, rfl, hg3, hb3⟩
      go_wp2_with fail
      refine (impl_SumNumbers_many _ _ _ _ hf).mono ?_
      rintro en w4 ⟨rfl, rfl⟩
      go_wp2_with fail
      refine (laws_sameFloat _ _ _ _ (FV_wR hr) (FV_wR hr)).mono ?_
      rintro en w5 ⟨rfl, n5, rfl⟩
      have ha3 := IsFs_below hb3 ha1
      go_wp2_with fail
      refine (laws_toFloat32S _ _ _ _ _ (IsFs_drewN ha3) hlen).mono ?_
      rintro en w6 ⟨g6, rfl, hg6, hb6⟩
      go_wp2_with fail
      refine (laws_eqFloat32S _ _ _ _ _ _ _ (IsFs_below hb6 (IsFs_drewN hg3)) hg6 hlen).mono ?_
      rintro en w7 ⟨rfl, n7, rfl⟩
      have B1 := hb1.size
      have B3 := hb3.size
      go_wp2
      go_ret
      exact ⟨rfl, below_drewN (((hb1.trans (hb3.mono (by omega))) |> fun h => below_drewN h _).trans (hb6.mono (by simp; omega))) _⟩
end Go.Proofs.Ytkomipghfihocab

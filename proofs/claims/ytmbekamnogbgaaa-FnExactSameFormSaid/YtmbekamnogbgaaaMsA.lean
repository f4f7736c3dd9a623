
/-
Whether lists are the same: what the program and its model return. Conditions: none.
-/
import Derived.Test.YtmbekamnogbgaaaMwI
import Derived.Test.YtmbekamnogbgaaaVecB
namespace Go.Proofs.Ytmbekamnogbgaaa
open Go Fk Go.RowKit
set_option linter.unusedVariables false
set_option maxRecDepth 8000

theorem lists_ne {zs ys : List Int} {k : Nat} (h : zs.getD k 0 ≠ ys.getD k 0) : decide (zs = ys) = false := decide_eq_false (fun e => h (by rw [e]))
theorem lists_eq {zs ys : List Int} (hl : zs.length = ys.length) (h : ∀ j, j < zs.length → zs.getD j 0 = ys.getD j 0) : decide (zs = ys) = true := by
  refine decide_eq_true (List.ext_getElem hl fun i h1 h2 => ?_)
  have := h i h1
  simpa [List.getD, h1, h2] using this
set_option maxHeartbeats 1000000 in
theorem l00Same (a b : Option Addr) (len cap len' cap' : Nat) (zs ys : List Int) (w : World) (ha : IsIs w a len cap zs) (hb : IsIs w b len' cap' ys) :
    Calls Try.prog 103 #[.slice a len cap, .slice b len' cap'] w fun e w' => e = .returned (.bool (decide (zs = ys))) ∧ ∃ n, w' = w.drewN n := by
  have hm : len ≤ 9223372036854775807 := by have h1 := ha.2.1; have h2 := ha.2.2.1; unfold maxLen at h2; omega
  have hzl := ha.1
  have hyl := hb.1
  by_cases hll : len = len'
  · subst hll
    generalize hr : decide (zs = ys) = res
    have HR := Lib.hid hr
    have HE := Lib.hid (lists_eq (hzl.trans hyl.symm))
    have HNE := Lib.hid (fun k => @lists_ne zs ys k)
    have HZ := Lib.hid hzl
    clear hr hzl hyl
    go_enter Try.func103, Try.ntmps103
    go_wp2
    go_loopw [5] (fun i w' => ∃ k : Nat, k ≤ len ∧ i = .int .i64 k ∧ Aside (∀ j, j < k → zs.getD j 0 = ys.getD j 0) ∧ ∃ n, w' = w.drewN n) (fun i _ => len - (intOf i).toNat)
    case atStart => exact ⟨0, Nat.zero_le _, rfl, (fun j hj => absurd hj (by omega)), 0, rfl⟩
    case round =>
      obtain ⟨k, hk, rfl, hall, n, hw⟩ := hrel
      have HW := Lib.hid hw
      by_cases hlt : k < len
      · obtain ⟨b1, o1, rfl, hcell1⟩ := (ha.drewE hw).some (by omega)
        obtain ⟨b2, o2, rfl, hcell2⟩ := (hb.drewE hw).some (by omega)
        have c1 := hcell1 k hlt
        have c2 := hcell2 k hlt
        have hk0 : (0 : Int) ≤ (k : Int) := by omega
        have hk1 : (k : Int) < (len : Int) := by omega
        by_cases hz : zs.getD k 0 = ys.getD k 0
        · have hall' : Aside (∀ j, j < k + 1 → zs.getD j 0 = ys.getD j 0) := by
            intro j hj
            by_cases hjk : j = k
            · subst hjk; exact hz
            · exact hall.out j (by omega)
          rw [← hz] at c2
          clear hz hall hcell1 hcell2 ha hb hw
          generalize zs.getD k 0 = z at *
          go_wp2_with fail
          go_quiet (fail)
          go_wp2
          go_roundw
          case rel => exact ⟨k + 1, by omega, by go_num, hall', drewn_end HW.out⟩
          case measure => simp [intOf]; omega
        · have hres := Lib.hid (HNE.out k hz)
          have hne : (zs.getD k 0 == ys.getD k 0) = false := beq_eq_false_iff_ne.2 hz
          clear hall hcell1 hcell2 ha hb hw HNE
          generalize zs.getD k 0 = z at *
          generalize ys.getD k 0 = y at *
          go_wp2_with fail
          go_quiet (fail)
          go_wp2
          go_ret
          exact ⟨ret_bool (by rw [← HR.out, hres.out]), drewn_end HW.out⟩
      · obtain rfl : k = len := by omega
        have hres := Lib.hid (HE.out (fun j hj => hall.out j (by rw [HZ.out] at hj; exact hj)))
        clear hall hw ha hb
        go_wp2
        go_ret
        exact ⟨ret_bool (by rw [← HR.out, hres.out]), by rw [HW.out]; exact ⟨_, rfl⟩⟩
  · have hf : decide (zs = ys) = false := decide_eq_false (fun e => hll (by rw [← hzl, ← hyl, e]))
    have hll' : ¬ (len : Int) = len' := by omega
    rw [hf]
    clear hf hzl hyl ha hb
    go_enter Try.func103, Try.ntmps103
    go_wp2
    go_ret
    exact ⟨rfl, 0, rfl⟩
set_option maxHeartbeats 1000000 in
theorem slices_Equal (a b : Option Addr) (len cap len' cap' : Nat) (zs ys : List Int) (w : World) (ha : IsIs w a len cap zs) (hb : IsIs w b len' cap' ys) :
    Calls Try.prog 105 #[.slice a len cap, .slice b len' cap'] w fun e w' => e = .returned (.bool (decide (zs = ys))) ∧ ∃ n, w' = w.drewN n := by
  have hm : len ≤ 9223372036854775807 := by have h1 := ha.2.1; have h2 := ha.2.2.1; unfold maxLen at h2; omega
  have hzl := ha.1
  have hyl := hb.1
  by_cases hll : len = len'
  · subst hll
    generalize hr : decide (zs = ys) = res
    have HR := Lib.hid hr
    have HE := Lib.hid (lists_eq (hzl.trans hyl.symm))
    have HNE := Lib.hid (fun k => @lists_ne zs ys k)
    have HZ := Lib.hid hzl
    clear hr hzl hyl
    go_enter Try.func105, Try.ntmps105
    go_wp2
    go_loopw [13] (fun i w' => ∃ k : Nat, k ≤ len ∧ i = .int .i64 k ∧ Aside (∀ j, j < k → zs.getD j 0 = ys.getD j 0) ∧ ∃ n, w' = w.drewN n) (fun i _ => len - (intOf i).toNat)
    case atStart => exact ⟨0, Nat.zero_le _, rfl, (fun j hj => absurd hj (by omega)), 0, rfl⟩
    case round =>
      obtain ⟨k, hk, rfl, hall, n, hw⟩ := hrel
      have HW := Lib.hid hw
      by_cases hlt : k < len
      · obtain ⟨b1, o1, rfl, hcell1⟩ := (ha.drewE hw).some (by omega)
        obtain ⟨b2, o2, rfl, hcell2⟩ := (hb.drewE hw).some (by omega)
        have c1 := hcell1 k hlt
        have c2 := hcell2 k hlt
        have hk0 : (0 : Int) ≤ (k : Int) := by omega
        have hk1 : (k : Int) < (len : Int) := by omega
        by_cases hz : zs.getD k 0 = ys.getD k 0
        · have hall' : Aside (∀ j, j < k + 1 → zs.getD j 0 = ys.getD j 0) := by
            intro j hj
            by_cases hjk : j = k
            · subst hjk; exact hz
            · exact hall.out j (by omega)
          rw [← hz] at c2
          clear hz hall hcell1 hcell2 ha hb hw
          generalize zs.getD k 0 = z at *
          go_wp2_with fail
          go_quiet (fail)
          go_wp2
          go_roundw
          case rel => exact ⟨k + 1, by omega, by go_num, hall', drewn_end HW.out⟩
          case measure => simp [intOf]; omega
        · have hres := Lib.hid (HNE.out k hz)
          have hne : (zs.getD k 0 == ys.getD k 0) = false := beq_eq_false_iff_ne.2 hz
          clear hall hcell1 hcell2 ha hb hw HNE
          generalize zs.getD k 0 = z at *
          generalize ys.getD k 0 = y at *
          go_wp2_with fail
          go_quiet (fail)
          go_wp2
          go_ret
          exact ⟨ret_bool (by rw [← HR.out, hres.out]), drewn_end HW.out⟩
      · obtain rfl : k = len := by omega
        have hres := Lib.hid (HE.out (fun j hj => hall.out j (by rw [HZ.out] at hj; exact hj)))
        clear hall hw ha hb
        go_wp2
        go_ret
        exact ⟨ret_bool (by rw [← HR.out, hres.out]), by rw [HW.out]; exact ⟨_, rfl⟩⟩
  · have hf : decide (zs = ys) = false := decide_eq_false (fun e => hll (by rw [← hzl, ← hyl, e]))
    have hll' : ¬ (len : Int) = len' := by omega
    rw [hf]
    clear hf hzl hyl ha hb
    go_enter Try.func105, Try.ntmps105
    go_wp2
    go_ret
    exact ⟨rfl, 0, rfl⟩
end Go.Proofs.Ytmbekamnogbgaaa

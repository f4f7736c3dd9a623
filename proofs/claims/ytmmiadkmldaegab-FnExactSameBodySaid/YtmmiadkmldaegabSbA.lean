
/-
Whether lists of numbers are the same: what the program and its model return. Conditions: none.
-/
import Derived.Test.YtmmiadkmldaegabMsC
import Derived.Test.YtmmiadkmldaegabBoG
namespace Go.Proofs.Ytmmiadkmldaegab
open Go Fk Go.RowKit
set_option linter.unusedVariables false
set_option maxRecDepth 8000
/-- Whether two lists are alike, place by place. -/
def sameL {α : Type} (q : α → α → Bool) (d : α) (xs ys : List α) : Bool := decide (xs.length = ys.length) && (List.range xs.length).all fun i => q (xs.getD i d) (ys.getD i d)
theorem sameL_ne {α : Type} {q : α → α → Bool} {d : α} {cs ds : List α} {k : Nat} (hk : k < cs.length) (h : q (cs.getD k d) (ds.getD k d) = false) : sameL q d cs ds = false := by
  unfold sameL
  have : ((List.range cs.length).all fun i => q (cs.getD i d) (ds.getD i d)) = false := by
    rw [Bool.eq_false_iff]
    intro hh
    have := List.all_eq_true.1 hh k (List.mem_range.2 hk)
    rw [h] at this; cases this
  rw [this, Bool.and_false]
theorem sameL_eq {α : Type} {q : α → α → Bool} {d : α} {cs ds : List α} (hl : cs.length = ds.length) (h : ∀ j, j < cs.length → q (cs.getD j d) (ds.getD j d) = true) : sameL q d cs ds = true := by
  unfold sameL
  rw [decide_eq_true hl, Bool.true_and, List.all_eq_true]
  intro i hi
  exact h i (List.mem_range.1 hi)
theorem sameL_len {α : Type} {q : α → α → Bool} {d : α} {cs ds : List α} (hl : cs.length ≠ ds.length) : sameL q d cs ds = false := by
  unfold sameL; rw [decide_eq_false hl, Bool.false_and]
def sameZ (a b : Nat) : Bool := bitsZ a == bitsZ b
def sameFs (zs ys : List Nat) : Bool := sameL sameZ 0 zs ys
theorem fs_lt {w : World} {a : Option Addr} {len cap k : Nat} {zs : List Nat} (h : IsFs .f32 w a len cap zs) (hk : k < len) : zs.getD k 0 < 4294967296 := by
  have h1 := h.1
  have hz := h.2.2.2.1
  have hk' : k < zs.length := by omega
  have := hz zs[k] (List.getElem_mem hk')
  show zs.getD k 0 < 2 ^ FloatKind.f32.format.width
  simpa [List.getD, hk'] using this
set_option maxHeartbeats 1000000 in
theorem l01SameAll (a b : Option Addr) (len cap len' cap' : Nat) (zs ys : List Nat) (w : World) (ha : IsFs .f32 w a len cap zs) (hb : IsFs .f32 w b len' cap' ys) :
    Calls Try.prog 80 #[.slice a len cap, .slice b len' cap'] w fun e w' => e = .returned (.bool (sameFs zs ys)) ∧ ∃ n, w' = w.drewN n := by
  have hm : len ≤ 9223372036854775807 := by have h1 := ha.2.1; have h2 := ha.2.2.1; unfold maxLen at h2; omega
  have hzl := ha.1
  have hyl := hb.1
  by_cases hll : len = len'
  · subst hll
    generalize hr : sameFs zs ys = res
    have HR := Lib.hid hr
    have HE := Lib.hid (sameL_eq (q := sameZ) (d := 0) (hzl.trans hyl.symm))
    have HNE := Lib.hid (fun k => @sameL_ne _ sameZ 0 zs ys k)
    have HZ := Lib.hid hzl
    have HA := Lib.hid ha
    have HB := Lib.hid hb
    clear hr hzl hyl ha hb
    go_enter Try.func80, Try.ntmps80
    go_wp2
    go_loopw [5] (fun i w' => ∃ k : Nat, k ≤ len ∧ i = .int .i64 k ∧ Aside (∀ j, j < k → sameZ (zs.getD j 0) (ys.getD j 0) = true) ∧ ∃ n, w' = w.drewN n) (fun i _ => len - (intOf i).toNat)
    case atStart => exact ⟨0, Nat.zero_le _, rfl, (fun j hj => absurd hj (by omega)), 0, rfl⟩
    case round =>
      obtain ⟨k, hk, rfl, hall, n, hw⟩ := hrel
      have HW := Lib.hid hw
      by_cases hlt : k < len
      · obtain ⟨b1, o1, rfl, hcell1⟩ := IsFs_some HA.out (by omega)
        obtain ⟨b2, o2, rfl, hcell2⟩ := IsFs_some HB.out (by omega)
        have c1 : wr.cell? ⟨b1, o1 + k, none⟩ = some (.float .f32 (zs.getD k 0)) := by rw [hw]; exact hcell1 k hlt
        have c2 : wr.cell? ⟨b2, o2 + k, none⟩ = some (.float .f32 (ys.getD k 0)) := by rw [hw]; exact hcell2 k hlt
        have hk0 : (0 : Int) ≤ (k : Int) := by omega
        have hk1 : (k : Int) < (len : Int) := by omega
        have l1 := fs_lt HA.out hlt
        have l2 := fs_lt HB.out hlt
        have hJ := fun w => l01Same (zs.getD k 0) (ys.getD k 0) w l1 l2
        cases hz : sameZ (zs.getD k 0) (ys.getD k 0)
        · have hres := Lib.hid (HNE.out k (by rw [HZ.out]; exact hlt) hz)
          unfold sameZ at hz
          rw [hz] at hJ
          have HJ := Lib.hid hJ
          clear hall hcell1 hcell2 hw HNE hJ hz l1 l2 HA HB
          generalize zs.getD k 0 = z at *
          generalize ys.getD k 0 = y at *
          go_wp2_with fail
          go_quiet ((go_at_call 81; exact Calls.quiet_of ((HJ.out _).mono fun _ _ ⟨h1, h2⟩ => ⟨h1, 0, h2⟩)))
          go_wp2
          go_ret
          exact ⟨ret_bool (by rw [← HR.out]; exact hres.out.symm), drewn_end HW.out⟩
        · have hall' : Aside (∀ j, j < k + 1 → sameZ (zs.getD j 0) (ys.getD j 0) = true) := by
            intro j hj
            by_cases hjk : j = k
            · subst hjk; exact hz
            · exact hall.out j (by omega)
          unfold sameZ at hz
          rw [hz] at hJ
          have HJ := Lib.hid hJ
          clear hz hall hcell1 hcell2 hw hJ l1 l2
          generalize zs.getD k 0 = z at *
          generalize ys.getD k 0 = y at *
          go_wp2_with fail
          go_quiet ((go_at_call 81; exact Calls.quiet_of ((HJ.out _).mono fun _ _ ⟨h1, h2⟩ => ⟨h1, 0, h2⟩)))
          go_wp2
          go_roundw
          case rel => exact ⟨k + 1, by omega, by go_num, hall', drewn_end HW.out⟩
          case measure => simp [intOf]; omega
      · obtain rfl : k = len := by omega
        have hres := Lib.hid (HE.out (fun j hj => hall.out j (by rw [HZ.out] at hj; exact hj)))
        clear hall hw
        go_wp2
        go_ret
        exact ⟨ret_bool (by rw [← HR.out]; exact hres.out.symm), by rw [HW.out]; exact ⟨_, rfl⟩⟩
  · have hf : sameFs zs ys = false := sameL_len (by omega)
    have hll' : ¬ (len : Int) = len' := by omega
    rw [hf]
    clear hf hzl hyl ha hb
    go_enter Try.func80, Try.ntmps80
    go_wp2
    go_ret
    exact ⟨rfl, 0, rfl⟩
set_option maxHeartbeats 1000000 in
theorem equalNums (a b : Option Addr) (len cap len' cap' : Nat) (zs ys : List Nat) (w : World) (ha : IsFs .f32 w a len cap zs) (hb : IsFs .f32 w b len' cap' ys) :
    Calls Try.prog 47 #[.slice a len cap, .slice b len' cap', .func (.func 46) #[] #[]] w fun e w' => e = .returned (.bool (sameFs zs ys)) ∧ ∃ n, w' = w.drewN n := by
  have hm : len ≤ 9223372036854775807 := by have h1 := ha.2.1; have h2 := ha.2.2.1; unfold maxLen at h2; omega
  have hzl := ha.1
  have hyl := hb.1
  by_cases hll : len = len'
  · subst hll
    generalize hr : sameFs zs ys = res
    have HR := Lib.hid hr
    have HE := Lib.hid (sameL_eq (q := sameZ) (d := 0) (hzl.trans hyl.symm))
    have HNE := Lib.hid (fun k => @sameL_ne _ sameZ 0 zs ys k)
    have HZ := Lib.hid hzl
    have HA := Lib.hid ha
    have HB := Lib.hid hb
    clear hr hzl hyl ha hb
    go_enter Try.func47, Try.ntmps47
    go_wp2
    go_loopw [17] (fun i w' => ∃ k : Nat, k ≤ len ∧ i = .int .i64 k ∧ Aside (∀ j, j < k → sameZ (zs.getD j 0) (ys.getD j 0) = true) ∧ ∃ n, w' = w.drewN n) (fun i _ => len - (intOf i).toNat)
    case atStart => exact ⟨0, Nat.zero_le _, rfl, (fun j hj => absurd hj (by omega)), 0, rfl⟩
    case round =>
      obtain ⟨k, hk, rfl, hall, n, hw⟩ := hrel
      have HW := Lib.hid hw
      by_cases hlt : k < len
      · obtain ⟨b1, o1, rfl, hcell1⟩ := IsFs_some HA.out (by omega)
        obtain ⟨b2, o2, rfl, hcell2⟩ := IsFs_some HB.out (by omega)
        have c1 : wr.cell? ⟨b1, o1 + k, none⟩ = some (.float .f32 (zs.getD k 0)) := by rw [hw]; exact hcell1 k hlt
        have c2 : wr.cell? ⟨b2, o2 + k, none⟩ = some (.float .f32 (ys.getD k 0)) := by rw [hw]; exact hcell2 k hlt
        have hk0 : (0 : Int) ≤ (k : Int) := by omega
        have hk1 : (k : Int) < (len : Int) := by omega
        have l1 := fs_lt HA.out hlt
        have l2 := fs_lt HB.out hlt
        have hJ := fun w => impl_SameNumber (zs.getD k 0) (ys.getD k 0) w l1 l2
        cases hz : sameZ (zs.getD k 0) (ys.getD k 0)
        · have hres := Lib.hid (HNE.out k (by rw [HZ.out]; exact hlt) hz)
          unfold sameZ at hz
          rw [hz] at hJ
          have HJ := Lib.hid hJ
          clear hall hcell1 hcell2 hw HNE hJ hz l1 l2
          generalize zs.getD k 0 = z at *
          generalize ys.getD k 0 = y at *
          go_wp2_with (go_at_call 46; refine (HJ.out _).mono ?_; rintro e w1 ⟨rfl, m, hw1⟩; rw [hw1]; clear hw1)
          go_ret
          exact ⟨ret_bool (by rw [← HR.out]; exact hres.out.symm), drewn_end HW.out⟩
        · have hall' : Aside (∀ j, j < k + 1 → sameZ (zs.getD j 0) (ys.getD j 0) = true) := by
            intro j hj
            by_cases hjk : j = k
            · subst hjk; exact hz
            · exact hall.out j (by omega)
          unfold sameZ at hz
          rw [hz] at hJ
          have HJ := Lib.hid hJ
          clear hz hall hcell1 hcell2 hw hJ l1 l2
          generalize zs.getD k 0 = z at *
          generalize ys.getD k 0 = y at *
          go_wp2_with (go_at_call 46; refine (HJ.out _).mono ?_; rintro e w1 ⟨rfl, m, hw1⟩; rw [hw1]; clear hw1)
          go_roundw
          case rel => exact ⟨k + 1, by omega, by go_num, hall', drewn_end HW.out⟩
          case measure => simp [intOf]; omega
      · obtain rfl : k = len := by omega
        have hres := Lib.hid (HE.out (fun j hj => hall.out j (by rw [HZ.out] at hj; exact hj)))
        clear hall hw
        go_wp2
        go_ret
        exact ⟨ret_bool (by rw [← HR.out]; exact hres.out.symm), by rw [HW.out]; exact ⟨_, rfl⟩⟩
  · have hf : sameFs zs ys = false := sameL_len (by omega)
    have hll' : ¬ (len : Int) = len' := by omega
    rw [hf]
    clear hf hzl hyl ha hb
    go_enter Try.func47, Try.ntmps47
    go_wp2
    go_ret
    exact ⟨rfl, 0, rfl⟩
end Go.Proofs.Ytmmiadkmldaegab

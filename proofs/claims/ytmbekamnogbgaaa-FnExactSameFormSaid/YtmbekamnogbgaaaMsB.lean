
/-
Whether lists of lists and of vectors are the same: what the program returns. Conditions: none.
-/
import Derived.Test.YtmbekamnogbgaaaMsA
namespace Go.Proofs.Ytmbekamnogbgaaa
open Go Fk Go.RowKit
set_option linter.unusedVariables false
set_option maxRecDepth 8000

theorem rows_ne {zs ys : List (List Int)} {k : Nat} (h : decide (zs.getD k [] = ys.getD k []) = false) : decide (zs = ys) = false := decide_eq_false (fun e => of_decide_eq_false h (by rw [e]))
theorem rows_eq {zs ys : List (List Int)} (hl : zs.length = ys.length) (h : ∀ j, j < zs.length → decide (zs.getD j [] = ys.getD j []) = true) : decide (zs = ys) = true := by
  refine decide_eq_true (List.ext_getElem hl fun i h1 h2 => ?_)
  have := of_decide_eq_true (h i h1)
  simpa [List.getD, h1, h2] using this
def bitsC (c : Option Nat) : Int := match c with | none => 2143289344 | some x => x
theorem bitsZ_of {x : Nat} {c : Option Nat} (h : FV .f32 x c) : bitsZ x = bitsC c := by
  unfold bitsZ
  cases c with
  | none => rw [if_pos h.nan]; rfl
  | some y => rw [if_neg (by simp [h.notnan])]; rw [h.num]; rfl
def sameV (c d : C3) : Bool := (bitsC c.1 == bitsC d.1) && (bitsC c.2.1 == bitsC d.2.1) && (bitsC c.2.2 == bitsC d.2.2)
def sameVs (cs ds : List C3) : Bool := decide (cs.length = ds.length) && (List.range cs.length).all fun i => sameV (cs.getD i c0) (ds.getD i c0)
theorem sameVs_ne {cs ds : List C3} {k : Nat} (hk : k < cs.length) (h : sameV (cs.getD k c0) (ds.getD k c0) = false) : sameVs cs ds = false := by
  unfold sameVs
  have : ((List.range cs.length).all fun i => sameV (cs.getD i c0) (ds.getD i c0)) = false := by
    rw [Bool.eq_false_iff]
    intro hh
    have := List.all_eq_true.1 hh k (List.mem_range.2 hk)
    rw [h] at this; cases this
  rw [this, Bool.and_false]
theorem sameVs_eq {cs ds : List C3} (hl : cs.length = ds.length) (h : ∀ j, j < cs.length → sameV (cs.getD j c0) (ds.getD j c0) = true) : sameVs cs ds = true := by
  unfold sameVs
  rw [decide_eq_true hl, Bool.true_and, List.all_eq_true]
  intro i hi
  exact h i (List.mem_range.1 hi)
set_option maxHeartbeats 1000000 in
theorem equalRows (a b : Option Addr) (len cap len' cap' : Nat) (zs ys : List (List Int)) (w : World) (ha : IsTs w a len cap zs) (hb : IsTs w b len' cap' ys) :
    Calls Try.prog 104 #[.slice a len cap, .slice b len' cap', .func (.func 105) #[] #[]] w fun e w' => e = .returned (.bool (decide (zs = ys))) ∧ ∃ n, w' = w.drewN n := by
  have hm : len ≤ 9223372036854775807 := by have h1 := ha.2.1; have h2 := ha.2.2.1; unfold maxLen at h2; omega
  have hzl := ha.1
  have hyl := hb.1
  by_cases hll : len = len'
  · subst hll
    generalize hr : decide (zs = ys) = res
    have HR := Lib.hid hr
    have HE := Lib.hid (rows_eq (hzl.trans hyl.symm))
    have HNE := Lib.hid (fun k => @rows_ne zs ys k)
    have HZ := Lib.hid hzl
    clear hr hzl hyl
    go_enter Try.func104, Try.ntmps104
    go_wp2
    go_loopw [17] (fun i w' => ∃ k : Nat, k ≤ len ∧ i = .int .i64 k ∧ Aside (∀ j, j < k → decide (zs.getD j [] = ys.getD j []) = true) ∧ ∃ n, w' = w.drewN n) (fun i _ => len - (intOf i).toNat)
    case atStart => exact ⟨0, Nat.zero_le _, rfl, (fun j hj => absurd hj (by omega)), 0, rfl⟩
    case round =>
      obtain ⟨k, hk, rfl, hall, n, hw⟩ := hrel
      have HW := Lib.hid hw
      by_cases hlt : k < len
      · obtain ⟨b1, o1, rfl, hcell1⟩ := (ha.drew hw).some (by omega)
        obtain ⟨b2, o2, rfl, hcell2⟩ := (hb.drew hw).some (by omega)
        obtain ⟨r1, n1, q1, c1, i1⟩ := hcell1 k hlt
        obtain ⟨r2, n2, q2, c2, i2⟩ := hcell2 k hlt
        have hk0 : (0 : Int) ≤ (k : Int) := by omega
        have hk1 : (k : Int) < (len : Int) := by omega
        have hJ := fun m => slices_Equal r1 r2 n1 q1 n2 q2 _ _ (wr.drewN m) i1.drew i2.drew
        cases hz : decide (zs.getD k [] = ys.getD k [])
        · have hres := Lib.hid (HNE.out k hz)
          rw [hz] at hJ
          have HJ := Lib.hid hJ
          clear hall hcell1 hcell2 ha hb hw HNE i1 i2 hJ hz
          go_wp2_with (go_at_call 105; refine (HJ.out 0).mono ?_; rintro e w1 ⟨rfl, m, hw1⟩; rw [hw1]; clear hw1)
          go_ret
          exact ⟨ret_bool (by rw [← HR.out, hres.out]), drewn_end HW.out⟩
        · have hall' : Aside (∀ j, j < k + 1 → decide (zs.getD j [] = ys.getD j []) = true) := by
            intro j hj
            by_cases hjk : j = k
            · subst hjk; exact hz
            · exact hall.out j (by omega)
          rw [hz] at hJ
          have HJ := Lib.hid hJ
          clear hz hall hcell1 hcell2 ha hb hw i1 i2 hJ
          go_wp2_with (go_at_call 105; refine (HJ.out 0).mono ?_; rintro e w1 ⟨rfl, m, hw1⟩; rw [hw1]; clear hw1)
          go_roundw
          case rel => exact ⟨k + 1, by omega, by go_num, hall', drewn_end HW.out⟩
          case measure => simp [intOf]; omega
      · obtain rfl : k = len := by omega
        have hres := Lib.hid (HE.out (fun j hj => hall.out j (by rw [HZ.out] at hj; exact hj)))
        clear hall hw ha hb
        go_wp2
        go_ret
        exact ⟨ret_bool (by rw [← HR.out, hres.out]), by rw [HW.out]; exact ⟨_, rfl⟩⟩
  · have hf : decide (zs = ys) = false := decide_eq_false (fun e => hll (by rw [← hzl, ← hyl, e]))
    have hll' : ¬ (len : Int) = len' := by omega
    rw [hf]
    clear hf hzl hyl ha hb
    go_enter Try.func104, Try.ntmps104
    go_wp2
    go_ret
    exact ⟨rfl, 0, rfl⟩
end Go.Proofs.Ytmbekamnogbgaaa

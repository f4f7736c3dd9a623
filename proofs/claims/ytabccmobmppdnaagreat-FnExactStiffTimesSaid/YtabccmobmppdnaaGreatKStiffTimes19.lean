/-
Texts in one: what StiffTimes stands on, part 19. Conditions: those of each.
-/
import Derived.Test.YtabccmobmppdnaaGreatKStiffTimes18
-- halved
namespace Go.Proofs.YtabccmobmppdnaaGreat
open Go Fk Go.RowKit
set_option linter.unusedVariables false
set_option maxRecDepth 8000
def stepI (n : Nat) (L : List Int) (k : Nat) : Bool := inB n (L.getD k 0) && (decide (k = 0) || decide (L.getD (k - 1) 0 < L.getD k 0))
def riseB (n : Nat) (L : List Int) : Bool := (List.range L.length).all (stepI n L)
theorem rise_not {n : Nat} {L : List Int} {k : Nat} (hk : k < L.length) (h : stepI n L k = false) : riseB n L = false := by
 rw [Bool.eq_false_iff]
 intro hh
 have := List.all_eq_true.1 hh k (List.mem_range.2 hk)
 rw [this] at h; cases h
theorem rise_all {n : Nat} {L : List Int} (h : ∀ j, j < L.length → stepI n L j = true) : riseB n L = true := by
 unfold riseB
 rw [List.all_eq_true]
 intro j hj
 exact h j (List.mem_range.1 hj)
theorem rise_at {n : Nat} {L : List Int} (h : riseB n L = true) {k : Nat} (hk : k < L.length) : stepI n L k = true := List.all_eq_true.1 h k (List.mem_range.2 hk)
def nextZ (L : List Int) (k : Nat) : Int := if k = 0 then 0 else L.getD (k - 1) 0 + 1
set_option maxHeartbeats 1000000 in
theorem impl_isIndexSet (a : Option Addr) (len cap n : Nat) (L : List Int) (w : World) (h : IsIs w a len cap L) (hn : n ≤ 9223372036854775806) :
  Calls Tryz.prog 187 #[.slice a len cap, .int .i64 n] w fun e w' => e = .returned (.bool (riseB n L)) ∧ w' = w := by
 have hm : len ≤ 9223372036854775807 := by have h1 := h.2.1; have h2 := h.2.2.1; unfold maxLen at h2; omega
 have hll := h.1
 have H := Lib.hid h
 clear h
 go_enter Tryz.func187, Tryz.ntmps187
 go_wp2
 go_loopw [5, 10] (fun f i w' => ∃ k : Nat, k ≤ len ∧ i = .int .i64 k ∧ f = .int .i64 (nextZ L k) ∧ w' = w ∧ Aside (∀ j, j < k → stepI n L j = true)) (fun _ i _ => len - (intOf i).toNat)
 case atStart => exact ⟨0, Nat.zero_le _, rfl, rfl, rfl, fun j hj => absurd hj (by omega)⟩
 case round =>
  obtain ⟨k, hk, rfl, rfl, rfl, hA⟩ := hrel
  have OK := Lib.hid hA.out
  clear hA
  by_cases hlt : k < len
  ·obtain ⟨b, o, rfl, hcell⟩ := H.out.some (by omega)
   have hc0 := hcell k hlt
   have hk0 : (0 : Int) ≤ (k : Int) := by omega
   have hk1 : (k : Int) < (len : Int) := by omega
   have hlk : k < L.length := by omega
   have hstep : stepI n L k = (inB n (L.getD k 0) && (decide (k = 0) || decide (L.getD (k - 1) 0 < L.getD k 0))) := rfl
   have hprev : ∀ j, j < k → 0 ≤ L.getD j 0 ∧ L.getD j 0 < n := by
    intro j hj
    have := OK.out j hj
    unfold stepI at this
    simp only [Bool.and_eq_true] at this
    exact of_decide_eq_true this.1
   have hfz : nextZ L k = if k = 0 then 0 else L.getD (k - 1) 0 + 1 := rfl
   have hfree0 : 0 ≤ nextZ L k ∧ nextZ L k ≤ n := by
    rw [hfz]
    by_cases h0 : k = 0
    ·rw [if_pos h0]; omega
    ·rw [if_neg h0]; have := hprev (k - 1) (by omega); omega
   have hnext : nextZ L (k + 1) = L.getD k 0 + 1 := by unfold nextZ; rw [if_neg (by omega), Nat.add_sub_cancel]
   clear hcell hprev
   generalize hz : L.getD k 0 = z at *
   by_cases hfl : z < nextZ L k
   ·have hres : riseB n L = false := rise_not hlk (by
     rw [hstep]
     by_cases h0 : k = 0
     ·rw [hfz, if_pos h0] at hfl
      have : inB n z = false := decide_eq_false (by omega)
      rw [this]; rfl
     ·rw [hfz, if_neg h0] at hfl
      rw [decide_eq_false h0, decide_eq_false (by omega)]
      cases inB n z <;> rfl)
    have HR := Lib.hid hres
    clear hstep hfz hres hz hnext
    generalize nextZ L k = fz at *
    go_wp2
    go_ret
    exact ⟨ret_bool HR.out.symm, by first | rfl | trivial⟩
   ·have JX := Lib.hid (fun w => impl_isIndex z n w)
    cases hb2 : inB n z
    ·rw [hb2] at JX
     have hres : riseB n L = false := rise_not hlk (by rw [hstep, hb2]; rfl)
     have HR := Lib.hid hres
     clear hstep hfz hres hb2 hz hnext
     generalize nextZ L k = fz at *
     go_wp2_with fail
     refine (JX.out _).mono ?_
     rintro e w3 ⟨rfl, hw3⟩
     rw [hw3]; clear hw3 w3
     go_wp2
     go_ret
     exact ⟨ret_bool HR.out.symm, by first | rfl | trivial⟩
    ·rw [hb2] at JX
     have hpn := of_decide_eq_true hb2
     have hok : ∀ j, j < k + 1 → stepI n L j = true := by
      intro j hj
      by_cases hjk : j = k
      ·subst hjk
       rw [hstep, hb2]
       by_cases h0 : j = 0
       ·rw [decide_eq_true h0]; rfl
       ·rw [hfz, if_neg h0] at hfl
        rw [decide_eq_true (show L.getD (j - 1) 0 < z by omega)]
        simp
      ·exact OK.out j (by omega)
     have HOK := Lib.hid hok
     have HNX := Lib.hid hnext
     clear hstep hfz hb2 hok hnext hz
     generalize hfe : nextZ L k = fz at *
     clear hfe
     go_wp2_with fail
     refine (JX.out _).mono ?_
     rintro e w3 ⟨rfl, hw3⟩
     rw [hw3]; clear hw3 w3
     have hwrap : IntKind.i64.wrap (z + 1) = z + 1 := IntWalk.i64_in _ (by omega)
     go_wp2
     go_roundw
     case rel => exact ⟨k + 1, by omega, by go_num, by rw [HNX.out], by first | rfl | trivial, HOK.out⟩
     case measure => simp [intOf]; omega
  ·obtain rfl : k = len := by omega
   have HR := Lib.hid (rise_all (n := n) (L := L) (fun j hj => OK.out j (by omega)))
   go_wp2
   go_ret
   exact ⟨ret_bool HR.out.symm, by first | rfl | trivial⟩
set_option maxHeartbeats 2000000 in
theorem l00Rises (a : Option Addr) (len cap n : Nat) (L : List Int) (w : World) (h : IsIs w a len cap L) :
  Calls Tryz.prog 160 #[.slice a len cap, .int .i64 0, .int .i64 ((n : Int) - 1)] w fun e w' => e = .returned (.bool (riseB n L)) ∧ ∃ m, w' = w.drewN m := by
 have hm : len ≤ 9223372036854775807 := by have h1 := h.2.1; have h2 := h.2.2.1; unfold maxLen at h2; omega
 have hll := h.1
 go_enter Tryz.func160, Tryz.ntmps160
 go_wp2
 go_loopw [7] (fun i w' => ∃ k : Nat, k ≤ len ∧ i = .int .i64 k ∧ Aside (∀ j, j < k → stepI n L j = true) ∧ ∃ m, w' = w.drewN m) (fun i _ => len - (intOf i).toNat)
 case atStart => exact ⟨0, Nat.zero_le _, rfl, (fun j hj => absurd hj (by omega)), 0, rfl⟩
 case round =>
  obtain ⟨k, hk, rfl, hall, m, hw⟩ := hrel
  have HW := Lib.hid hw
  have OK := Lib.hid hall.out
  by_cases hlt : k < len
  ·obtain ⟨b, o, rfl, hcell⟩ := (h.drewE hw).some (by omega)
   have hc0 := hcell k hlt
   have hk0 : (0 : Int) ≤ (k : Int) := by omega
   have hk1 : (k : Int) < (len : Int) := by omega
   have hlk : k < L.length := by omega
   have J := Lib.hid (fun w => (l00In (L.getD k 0) n w).mono (R' := fun e w' => e = .returned (.bool (inB n (L.getD k 0))) ∧ ∃ m, w' = w.drewN m) (fun _ _ h => ⟨h.1, 0, h.2⟩))
   have hstep : stepI n L k = (inB n (L.getD k 0) && (decide (k = 0) || decide (L.getD (k - 1) 0 < L.getD k 0))) := rfl
   have HS := Lib.hid hstep
   cases hb : inB n (L.getD k 0)
   ·have HR := Lib.hid (rise_not (n := n) hlk (by rw [HS.out, hb]; rfl))
    rw [hb] at J
    clear hcell h hw hall hstep hb
    generalize L.getD k 0 = z at *
    go_wp2_with fail
    go_quiet ((go_at_call 80; exact Calls.quiet_of (J.out _)))
    go_wp2
    go_ret
    exact ⟨ret_bool HR.out.symm, by first | exact drewn_end HW.out | exact ⟨_, HW.out⟩⟩
   ·rw [hb] at J
    by_cases h0 : k = 0
    ·have HOK : Hid (∀ j, j < k + 1 → stepI n L j = true) := Lib.hid (fun j hj => by
      have : j = k := by omega
      subst this
      rw [HS.out, hb, decide_eq_true h0]; rfl)
     have h00 : ¬ (0 : Int) < (k : Int) := by omega
     have h01 : ¬ 0 < k := by omega
     clear hcell h hw hall hstep hb h0 hlk hlt
     generalize L.getD k 0 = z at *
     go_wp2_with fail
     go_quiet ((go_at_call 80; exact Calls.quiet_of (J.out _)))
     go_wp2
     go_roundw
     case rel => exact ⟨k + 1, by omega, by go_num, HOK.out, by first | exact drewn_end HW.out | exact ⟨_, HW.out⟩⟩
     case measure => simp [intOf]; omega
    ·obtain ⟨q, rfl⟩ : ∃ q, k = q + 1 := ⟨k - 1, by omega⟩
     have hcq := hcell q (by omega)
     have h00 : (0 : Int) < ((q + 1 : Nat) : Int) := by omega
     have hq0 : (0 : Int) ≤ (q : Int) := by omega
     have hq1 : (q : Int) < (len : Int) := by omega
     have hsub : ((q + 1 : Nat) : Int) - 1 = (q : Int) := by omega
     have hsub' : (q : Int) + 1 - 1 = (q : Int) := by omega
     have hwr : IntKind.i64.wrap (q : Int) = (q : Int) := IntWalk.i64_in _ (by omega)
     by_cases hlt2 : L.getD q 0 < L.getD (q + 1) 0
     ·have HOK : Hid (∀ j, j < q + 1 + 1 → stepI n L j = true) := Lib.hid (fun j hj => by
       by_cases hjk : j = q + 1
       ·subst hjk
        rw [HS.out, hb, Nat.add_sub_cancel, decide_eq_true hlt2]; simp
       ·exact OK.out j (by omega))
      have hge : ¬ L.getD (q + 1) 0 ≤ L.getD q 0 := by omega
      clear hcell h hw hall hstep hb HS
      generalize L.getD (q + 1) 0 = z at *
      generalize L.getD q 0 = y at *
      go_wp2_with fail
      go_quiet ((go_at_call 80; exact Calls.quiet_of (J.out _)))
      go_wp2
      go_roundw
      case rel => exact ⟨q + 1 + 1, by omega, by go_num, HOK.out, by first | exact drewn_end HW.out | exact ⟨_, HW.out⟩⟩
      case measure => simp [intOf]; omega
     ·have HR := Lib.hid (rise_not (n := n) hlk (by rw [HS.out, hb, Nat.add_sub_cancel, decide_eq_false hlt2]; simp))
      have hge : L.getD (q + 1) 0 ≤ L.getD q 0 := by omega
      clear hcell h hw hall hstep hb HS
      generalize L.getD (q + 1) 0 = z at *
      generalize L.getD q 0 = y at *
      go_wp2_with fail
      go_quiet ((go_at_call 80; exact Calls.quiet_of (J.out _)))
      go_wp2
      go_ret
      exact ⟨ret_bool HR.out.symm, by first | exact drewn_end HW.out | exact ⟨_, HW.out⟩⟩
  ·obtain rfl : k = len := by omega
   have HR := Lib.hid (rise_all (n := n) (L := L) (fun j hj => OK.out j (by omega)))
   clear hw h hall
   go_wp2
   go_ret
   exact ⟨ret_bool HR.out.symm, by rw [HW.out]; exact ⟨_, rfl⟩⟩
end Go.Proofs.YtabccmobmppdnaaGreat
namespace Go.Proofs.YtabccmobmppdnaaGreat
open Go Fk Go.RowKit
set_option linter.unusedVariables false
set_option maxRecDepth 8000
end Go.Proofs.YtabccmobmppdnaaGreat
namespace Go.Proofs.YtabccmobmppdnaaGreat
open Go Fk Go.RowKit
set_option linter.unusedVariables false
set_option maxRecDepth 8000
end Go.Proofs.YtabccmobmppdnaaGreat
namespace Go.Proofs.YtabccmobmppdnaaGreat
open Go Fk Go.RowKit
set_option linter.unusedVariables false
set_option maxRecDepth 8000
end Go.Proofs.YtabccmobmppdnaaGreat
namespace Go.Proofs.YtabccmobmppdnaaGreat
namespace RegG
open Go Reg
set_option linter.unusedVariables false
section
variable {P : Program} {ops : Array Oper} {Q : Exit → Act → World → Prop}
def Obl (P : Program) (ops : Array Oper) (a0 : Act) (C : World → Prop) (G : World → World → Prop) (R : Nat → Value → World → Prop) (T : Nat → Act → World → Prop) (Q : Exit → Act → World → Prop) (i : Nat) (o : Oper) : Prop :=
 ∀ a w, C w → (∀ t, ((List.range ops.size).all fun j => slotOf ops j != some t || behind ops i j) = true → a.eval (.tmp t) = a0.eval (.tmp t)) →
  (∀ j, behind ops j i = true → Has ops R j a w) →
  (Region.wanted o (yielded ops a.tmps) = true ∧ o.wp P a w (fun a' w' => ∃ v, a' = a.put o.dst v ∧ (o.dst ≠ none → R i v w') ∧ (o.dst = none → T i a w') ∧ C w' ∧ G w w') Q) ∨
  (Region.wanted o (yielded ops a.tmps) = false ∧ (o.dst ≠ none → R i undef w) ∧ (o.dst = none → T i a w))
end
end RegG
end Go.Proofs.YtabccmobmppdnaaGreat


/-
Sums of halves: what the program and its model return, and that the law returns true. Conditions: none.
-/
import Derived.Test.YtkomipghfihocabSum
namespace Go.Proofs.Ytkomipghfihocab
open Go Fk Go.RowKit
set_option linter.unusedVariables false

def isFp (c : Option Nat) (v : Value) : Prop := ∃ r, v = .float .f32 r ∧ FV .f32 r c
def pairC (zs : List Nat) : Option Nat :=
  if h0 : zs.length = 0 then some 0 else if h1 : zs.length = 1 then cls .f32 (zs.getD 0 0)
  else fop .add .f32 (pairC (zs.take ((zs.length + 1) / 2))) (pairC (zs.drop ((zs.length + 1) / 2)))
termination_by zs.length
decreasing_by
  · simp; omega
  · simp; omega
theorem IsFs_take {w : World} {b o len cap : Nat} {zs : List Nat} (h : IsFs .f32 w (some ⟨b, o, none⟩) len cap zs) (k : Nat) (hk : k ≤ len) : IsFs .f32 w (some ⟨b, o, none⟩) k cap (zs.take k) := by
  obtain ⟨h1, h2, h3, h4, h5, h6⟩ := h
  refine ⟨by simp; omega, by omega, h3, fun z hz => h4 z (List.mem_of_mem_take hz), by simp, fun x hx i hi => ?_⟩
  have := h6 x hx i (by omega)
  rw [this]; simp [List.getD, hi]
theorem IsFs_drop {w : World} {b o len cap : Nat} {zs : List Nat} (h : IsFs .f32 w (some ⟨b, o, none⟩) len cap zs) (k : Nat) (hk : k ≤ len) : IsFs .f32 w (some ⟨b, o + k, none⟩) (len - k) (cap - k) (zs.drop k) := by
  obtain ⟨h1, h2, h3, h4, h5, h6⟩ := h
  refine ⟨by simp; omega, by omega, by unfold maxLen at *; omega, fun z hz => h4 z (List.mem_of_mem_drop hz), by simp, fun x hx i hi => ?_⟩
  cases hx
  have := h6 _ rfl (k + i) (by omega)
  rw [addr_add] at this ⊢
  rw [Nat.add_assoc, this]; simp [List.getD]
theorem cap_facts (len h cap : Nat) (g1 : 1 ≤ h) (g2 : h < len) (hc : len ≤ cap) : (0 : Int) ≤ (h : Int) ∧ (h : Int) ≤ (cap : Int) ∧ (h : Int) ≤ (len : Int) ∧ (len : Int) ≤ (cap : Int) := by omega

set_option maxHeartbeats 1000000 in
theorem sumHalves : ∀ (len : Nat) (a : Option Addr) (cap : Nat) (zs : List Nat) (w : World), len ≤ 256 → IsFs .f32 w a len cap zs →
    Calls Try.prog 47 #[.slice a len cap] w fun e w' => ∃ r, e = .returned (.float .f32 r) ∧ FV .f32 r (pairC zs) ∧ ∃ n, w' = w.drewN n := by
  intro len
  induction len using Nat.strongRecOn with
  | _ len ih =>
  intro a cap zs w hle ha
  have u := Try.underlying22
  have us := Try.underlying27
  have hzl := ha.1
  by_cases h0 : len = 0
  · subst h0
    have hp : pairC zs = some 0 := by rw [pairC, dif_pos hzl]
    have H := Lib.hid hp
    clear hp ih
    go_enter Try.func47, Try.ntmps47
    go_wp2
    go_ret
    exact ⟨_, rfl, by rw [H.out]; exact FV_zero, 0, rfl⟩
  · obtain ⟨b, o, rfl, hcell⟩ := IsFs_some ha (by omega)
    by_cases h1 : len = 1
    · subst h1
      have hp : pairC zs = cls .f32 (zs.getD 0 0) := by rw [pairC, dif_neg (by omega), dif_pos hzl]
      have H := Lib.hid hp
      have c1 := hcell 0 (by omega)
      have hv := FV_at ha 0 (by omega)
      rw [Nat.add_zero] at c1
      clear hp ih hcell ha h0
      generalize zs.getD 0 0 = z at *
      go_enter Try.func47, Try.ntmps47
      go_wp2
      go_ret
      exact ⟨_, rfl, by rw [H.out]; exact hv, 0, rfl⟩
    · obtain ⟨h, hh, g1, g2⟩ : ∃ h, (len + 1) / 2 = h ∧ 1 ≤ h ∧ h < len := ⟨_, rfl, by omega, by omega⟩
      have hp : pairC zs = fop .add .f32 (pairC (zs.take h)) (pairC (zs.drop h)) := by rw [pairC, dif_neg (by omega), dif_neg (by omega), hzl, hh]
      have H := Lib.hid hp
      have hcap := ha.2.1
      have hi1 := fun n => ih h (by omega) _ _ _ (w.drewN n) (by omega) (IsFs_drewN (IsFs_take ha h (by omega)))
      have hi2 := fun n => ih (len - h) (by omega) _ _ _ (w.drewN n) (by omega) (IsFs_drewN (IsFs_drop ha h (by omega)))
      have e0 : ((len : Int) == 0) = false := by simp; omega
      have e1 : ((len : Int) == 1) = false := by simp; omega
      have hw1 : IntKind.i64.wrap ((len : Int) + 1) = (len : Int) + 1 := IntWalk.i64_in _ (by omega)
      have hq : ((len : Int) + 1) / 2 = (h : Int) := by omega
      have hne : ¬ cap = h := by omega
      have HC := cap_facts len h cap g1 g2 hcap
      obtain ⟨k1, k2, k3, k4⟩ := HC
      clear hp ih hcell ha hh
      go_enter Try.func47, Try.ntmps47
      go_wp2_with fail
      simp only [hq]
      refine Reg.wp_region_mix (C := fun w' => ∃ n, w' = w.drewN n) (G := fun _ _ => True) (R := fun i v _ => match i with | 0 => v = .slice (some ⟨b, o, none⟩) len cap | 1 => v = .int .i64 (h : Nat) | 2 => v = .slice (some ⟨b, o, none⟩) h cap | 3 => isFp (pairC (zs.take h)) v | 4 => v = .slice (some ⟨b, o, none⟩) len cap | 5 => v = .int .i64 (h : Nat) | 6 => v = .slice (some ⟨b, o + h, none⟩) (len - h) (cap - h) | 7 => isFp (pairC (zs.drop h)) v | 8 => isFp (fop .add .f32 (pairC (zs.take h)) (pairC (zs.drop h))) v | 9 => isFp (fop .add .f32 (pairC (zs.take h)) (pairC (zs.drop h))) v | _ => True) (T := fun _ _ _ => True) [false, false, true, false, false, false, false, false, false, false, false, false, false, false, false, false, false, true, true, true, true, true, true, true, true, true]
        (by kernel_rfl) (by kernel_rfl) (by kernel_rfl) (fun _ _ _ _ _ _ h => h) ⟨1, rfl⟩ ?_ ?_
      · refine ⟨Reg.Obl.mk ?_, Reg.Obl.mk ?_, Reg.Obl.mk ?_, Reg.Obl.mk ?_, Reg.Obl.mk ?_, Reg.Obl.mk ?_, Reg.Obl.mk ?_, Reg.Obl.mk ?_, Reg.Obl.mk ?_, Reg.Obl.mk ?_, trivial⟩
        · rintro a w1 ⟨n1, rfl⟩ hx hd K hK
          have t0 : a.tmps[0]?.getD undef = .slice (some ⟨b, o, none⟩) len cap := Reg.slot_val (hx 0 (by kernel_rfl))
          go_simp
          exact hK _ _ (fun _ => rfl) (fun h => by cases h) ⟨_, rfl⟩ trivial
        · rintro a w1 ⟨n1, rfl⟩ hx hd K hK
          have t3 : a.tmps[3]?.getD undef = .int .i64 (h : Nat) := Reg.slot_val (hx 3 (by kernel_rfl))
          go_simp
          exact hK _ _ (fun _ => rfl) (fun h => by cases h) ⟨_, rfl⟩ trivial
        · rintro a w1 ⟨n1, rfl⟩ hx hd K hK
          have t17 : a.tmps[17]?.getD undef = .slice (some ⟨b, o, none⟩) len cap := Reg.slot_val (hd 0 (by kernel_rfl) 17 rfl)
          have t18 : a.tmps[18]?.getD undef = .int .i64 (h : Nat) := Reg.slot_val (hd 1 (by kernel_rfl) 18 rfl)
          go_simp
          exact hK _ _ (fun _ => rfl) (fun h => by cases h) ⟨_, rfl⟩ trivial
        · rintro a w1 ⟨n1, rfl⟩ hx hd K hK
          have t19 : a.tmps[19]?.getD undef = .slice (some ⟨b, o, none⟩) h cap := Reg.slot_val (hd 2 (by kernel_rfl) 19 rfl)
          go_simp
          refine (hi1 n1).mono ?_
          rintro en w2 ⟨r, rfl, hr, n2, rfl⟩
          exact hK _ _ (fun _ => ⟨r, rfl, hr⟩) (fun h => by cases h) ⟨_, World.drewN_drewN ..⟩ trivial
        · rintro a w1 ⟨n1, rfl⟩ hx hd K hK
          have t0 : a.tmps[0]?.getD undef = .slice (some ⟨b, o, none⟩) len cap := Reg.slot_val (hx 0 (by kernel_rfl))
          go_simp
          exact hK _ _ (fun _ => rfl) (fun h => by cases h) ⟨_, rfl⟩ trivial
        · rintro a w1 ⟨n1, rfl⟩ hx hd K hK
          have t3 : a.tmps[3]?.getD undef = .int .i64 (h : Nat) := Reg.slot_val (hx 3 (by kernel_rfl))
          go_simp
          exact hK _ _ (fun _ => rfl) (fun h => by cases h) ⟨_, rfl⟩ trivial
        · rintro a w1 ⟨n1, rfl⟩ hx hd K hK
          have t21 : a.tmps[21]?.getD undef = .slice (some ⟨b, o, none⟩) len cap := Reg.slot_val (hd 4 (by kernel_rfl) 21 rfl)
          have t22 : a.tmps[22]?.getD undef = .int .i64 (h : Nat) := Reg.slot_val (hd 5 (by kernel_rfl) 22 rfl)
          go_simp
          exact hK _ _ (fun _ => rfl) (fun h => by cases h) ⟨_, rfl⟩ trivial
        · rintro a w1 ⟨n1, rfl⟩ hx hd K hK
          have t23 : a.tmps[23]?.getD undef = .slice (some ⟨b, o + h, none⟩) (len - h) (cap - h) := Reg.slot_val (hd 6 (by kernel_rfl) 23 rfl)
          go_simp
          refine (hi2 n1).mono ?_
          rintro en w2 ⟨r, rfl, hr, n2, rfl⟩
          exact hK _ _ (fun _ => ⟨r, rfl, hr⟩) (fun h => by cases h) ⟨_, World.drewN_drewN ..⟩ trivial
        · rintro a w1 ⟨n1, rfl⟩ hx hd K hK
          obtain ⟨r20, g20, f20⟩ := hd 3 (by kernel_rfl) 20 rfl
          have t20 := Reg.slot_val g20
          clear g20
          obtain ⟨r24, g24, f24⟩ := hd 7 (by kernel_rfl) 24 rfl
          have t24 := Reg.slot_val g24
          clear g24
          go_simp
          exact hK _ _ (fun _ => ⟨_, rfl, FV_fR f20 f24⟩) (fun h => by cases h) ⟨_, rfl⟩ trivial
        · rintro a w1 ⟨n1, rfl⟩ hx hd K hK
          obtain ⟨r25, g25, f25⟩ := hd 8 (by kernel_rfl) 25 rfl
          have t25 := Reg.slot_val g25
          clear g25
          go_simp
          exact hK _ _ (fun _ => ⟨_, rfl, f25⟩) (fun h => by cases h) ⟨_, rfl⟩ trivial
      · rintro f w1 ⟨n1, rfl⟩ hd hT
        obtain ⟨r5, g5, f5⟩ := hd 9 2 rfl
        simp only [Reg.mixL, g5]
        go_wp2
        go_ret
        exact ⟨_, rfl, by rw [H.out]; exact f5, _, rfl⟩
set_option maxHeartbeats 1000000 in
theorem l01SumPairs : ∀ (len : Nat) (a : Option Addr) (cap : Nat) (zs : List Nat) (w : World), len ≤ 256 → IsFs .f32 w a len cap zs →
    Calls Try.prog 46 #[.slice a len cap] w fun e w' => ∃ r, e = .returned (.float .f32 r) ∧ FV .f32 r (pairC zs) ∧ ∃ n, w' = w.drewN n := by
  intro len
  induction len using Nat.strongRecOn with
  | _ len ih =>
  intro a cap zs w hle ha
  have u := Try.underlying22
  have us := Try.underlying27
  have hzl := ha.1
  by_cases h0 : len = 0
  · subst h0
    have hp : pairC zs = some 0 := by rw [pairC, dif_pos hzl]
    have H := Lib.hid hp
    clear hp ih
    go_enter Try.func46, Try.ntmps46
    go_wp2
    go_ret
    exact ⟨_, rfl, by rw [H.out]; exact FV_zero, 0, rfl⟩
  · obtain ⟨b, o, rfl, hcell⟩ := IsFs_some ha (by omega)
    by_cases h1 : len = 1
    · subst h1
      have hp : pairC zs = cls .f32 (zs.getD 0 0) := by rw [pairC, dif_neg (by omega), dif_pos hzl]
      have H := Lib.hid hp
      have c1 := hcell 0 (by omega)
      have hv := FV_at ha 0 (by omega)
      rw [Nat.add_zero] at c1
      clear hp ih hcell ha h0
      generalize zs.getD 0 0 = z at *
      go_enter Try.func46, Try.ntmps46
      go_wp2
      go_ret
      exact ⟨_, rfl, by rw [H.out]; exact hv, 0, rfl⟩
    · obtain ⟨h, hh, g1, g2⟩ : ∃ h, (len + 1) / 2 = h ∧ 1 ≤ h ∧ h < len := ⟨_, rfl, by omega, by omega⟩
      have hp : pairC zs = fop .add .f32 (pairC (zs.take h)) (pairC (zs.drop h)) := by rw [pairC, dif_neg (by omega), dif_neg (by omega), hzl, hh]
      have H := Lib.hid hp
      have hcap := ha.2.1
      have hi1 := fun n => ih h (by omega) _ _ _ (w.drewN n) (by omega) (IsFs_drewN (IsFs_take ha h (by omega)))
      have hi2 := fun n => ih (len - h) (by omega) _ _ _ (w.drewN n) (by omega) (IsFs_drewN (IsFs_drop ha h (by omega)))
      have e0 : ((len : Int) == 0) = false := by simp; omega
      have e1 : ((len : Int) == 1) = false := by simp; omega
      have hw1 : IntKind.i64.wrap ((len : Int) + 1) = (len : Int) + 1 := IntWalk.i64_in _ (by omega)
      have hq : ((len : Int) + 1) / 2 = (h : Int) := by omega
      have hne : ¬ cap = h := by omega
      have HC := cap_facts len h cap g1 g2 hcap
      obtain ⟨k1, k2, k3, k4⟩ := HC
      clear hp ih hcell ha hh
      go_enter Try.func46, Try.ntmps46
      go_wp2_with fail
      simp only [hq]
      refine Reg.wp_region_mix (C := fun w' => ∃ n, w' = w.drewN n) (G := fun _ _ => True) (R := fun i v _ => match i with | 0 => v = .slice (some ⟨b, o, none⟩) len cap | 1 => v = .int .i64 (h : Nat) | 2 => v = .slice (some ⟨b, o, none⟩) h cap | 3 => isFp (pairC (zs.take h)) v | 4 => v = .slice (some ⟨b, o, none⟩) len cap | 5 => v = .int .i64 (h : Nat) | 6 => v = .slice (some ⟨b, o + h, none⟩) (len - h) (cap - h) | 7 => isFp (pairC (zs.drop h)) v | 8 => isFp (fop .add .f32 (pairC (zs.take h)) (pairC (zs.drop h))) v | 9 => isFp (fop .add .f32 (pairC (zs.take h)) (pairC (zs.drop h))) v | _ => True) (T := fun _ _ _ => True) [false, false, true, false, false, false, false, false, false, false, false, false, false, false, false, false, false, true, true, true, true, true, true, true, true, true]
        (by kernel_rfl) (by kernel_rfl) (by kernel_rfl) (fun _ _ _ _ _ _ h => h) ⟨1, rfl⟩ ?_ ?_
      · refine ⟨Reg.Obl.mk ?_, Reg.Obl.mk ?_, Reg.Obl.mk ?_, Reg.Obl.mk ?_, Reg.Obl.mk ?_, Reg.Obl.mk ?_, Reg.Obl.mk ?_, Reg.Obl.mk ?_, Reg.Obl.mk ?_, Reg.Obl.mk ?_, trivial⟩
        · rintro a w1 ⟨n1, rfl⟩ hx hd K hK
          have t0 : a.tmps[0]?.getD undef = .slice (some ⟨b, o, none⟩) len cap := Reg.slot_val (hx 0 (by kernel_rfl))
          go_simp
          exact hK _ _ (fun _ => rfl) (fun h => by cases h) ⟨_, rfl⟩ trivial
        · rintro a w1 ⟨n1, rfl⟩ hx hd K hK
          have t4 : a.tmps[4]?.getD undef = .int .i64 (h : Nat) := Reg.slot_val (hx 4 (by kernel_rfl))
          go_simp
          exact hK _ _ (fun _ => rfl) (fun h => by cases h) ⟨_, rfl⟩ trivial
        · rintro a w1 ⟨n1, rfl⟩ hx hd K hK
          have t17 : a.tmps[17]?.getD undef = .slice (some ⟨b, o, none⟩) len cap := Reg.slot_val (hd 0 (by kernel_rfl) 17 rfl)
          have t18 : a.tmps[18]?.getD undef = .int .i64 (h : Nat) := Reg.slot_val (hd 1 (by kernel_rfl) 18 rfl)
          go_simp
          exact hK _ _ (fun _ => rfl) (fun h => by cases h) ⟨_, rfl⟩ trivial
        · rintro a w1 ⟨n1, rfl⟩ hx hd K hK
          have t19 : a.tmps[19]?.getD undef = .slice (some ⟨b, o, none⟩) h cap := Reg.slot_val (hd 2 (by kernel_rfl) 19 rfl)
          go_simp
          refine (hi1 n1).mono ?_
          rintro en w2 ⟨r, rfl, hr, n2, rfl⟩
          exact hK _ _ (fun _ => ⟨r, rfl, hr⟩) (fun h => by cases h) ⟨_, World.drewN_drewN ..⟩ trivial
        · rintro a w1 ⟨n1, rfl⟩ hx hd K hK
          have t0 : a.tmps[0]?.getD undef = .slice (some ⟨b, o, none⟩) len cap := Reg.slot_val (hx 0 (by kernel_rfl))
          go_simp
          exact hK _ _ (fun _ => rfl) (fun h => by cases h) ⟨_, rfl⟩ trivial
        · rintro a w1 ⟨n1, rfl⟩ hx hd K hK
          have t4 : a.tmps[4]?.getD undef = .int .i64 (h : Nat) := Reg.slot_val (hx 4 (by kernel_rfl))
          go_simp
          exact hK _ _ (fun _ => rfl) (fun h => by cases h) ⟨_, rfl⟩ trivial
        · rintro a w1 ⟨n1, rfl⟩ hx hd K hK
          have t21 : a.tmps[21]?.getD undef = .slice (some ⟨b, o, none⟩) len cap := Reg.slot_val (hd 4 (by kernel_rfl) 21 rfl)
          have t22 : a.tmps[22]?.getD undef = .int .i64 (h : Nat) := Reg.slot_val (hd 5 (by kernel_rfl) 22 rfl)
          go_simp
          exact hK _ _ (fun _ => rfl) (fun h => by cases h) ⟨_, rfl⟩ trivial
        · rintro a w1 ⟨n1, rfl⟩ hx hd K hK
          have t23 : a.tmps[23]?.getD undef = .slice (some ⟨b, o + h, none⟩) (len - h) (cap - h) := Reg.slot_val (hd 6 (by kernel_rfl) 23 rfl)
          go_simp
          refine (hi2 n1).mono ?_
          rintro en w2 ⟨r, rfl, hr, n2, rfl⟩
          exact hK _ _ (fun _ => ⟨r, rfl, hr⟩) (fun h => by cases h) ⟨_, World.drewN_drewN ..⟩ trivial
        · rintro a w1 ⟨n1, rfl⟩ hx hd K hK
          obtain ⟨r20, g20, f20⟩ := hd 3 (by kernel_rfl) 20 rfl
          have t20 := Reg.slot_val g20
          clear g20
          obtain ⟨r24, g24, f24⟩ := hd 7 (by kernel_rfl) 24 rfl
          have t24 := Reg.slot_val g24
          clear g24
          go_simp
          exact hK _ _ (fun _ => ⟨_, rfl, FV_fR f20 f24⟩) (fun h => by cases h) ⟨_, rfl⟩ trivial
        · rintro a w1 ⟨n1, rfl⟩ hx hd K hK
          obtain ⟨r25, g25, f25⟩ := hd 8 (by kernel_rfl) 25 rfl
          have t25 := Reg.slot_val g25
          clear g25
          go_simp
          exact hK _ _ (fun _ => ⟨_, rfl, f25⟩) (fun h => by cases h) ⟨_, rfl⟩ trivial
      · rintro f w1 ⟨n1, rfl⟩ hd hT
        obtain ⟨r5, g5, f5⟩ := hd 9 2 rfl
        simp only [Reg.mixL, g5]
        go_wp2
        go_ret
        exact ⟨_, rfl, by rw [H.out]; exact f5, _, rfl⟩
theorem impl_SumPairs_few (a : Option Addr) (len cap : Nat) (zs : List Nat) (w : World) (ha : IsFs .f32 w a len cap zs) (hf : len ≤ 256) :
    Calls Try.prog 23 #[.slice a len cap] w fun e w' => ∃ r, e = .returned (.tuple #[.float .f32 r, .bool true]) ∧ FV .f32 r (pairC zs) ∧ ∃ n, w' = w.drewN n := by
  have h1 : ¬ (256 : Int) < len := by omega
  have hd : decide (len ≤ 256) = true := decide_eq_true hf
  go_enter Try.func23, Try.ntmps23
  go_wp2_with (first | (go_at_call 47; refine (sumHalves _ _ _ _ _ hf ha).mono ?_; rintro e w' ⟨r, rfl, hr, n, rfl⟩))
  go_ret2
  exact ⟨_, rfl, hr, _, rfl⟩
theorem impl_SumPairs_many (a : Option Addr) (len cap : Nat) (w : World) (hf : ¬ len ≤ 256) :
    Calls Try.prog 23 #[.slice a len cap] w fun e w' => e = .returned (.tuple #[.float .f32 0, .bool false]) ∧ w' = w := by
  have h1 : (256 : Int) < len := by omega
  have hd : decide (len ≤ 256) = false := decide_eq_false hf
  clear hf
  go_enter Try.func23, Try.ntmps23
  go_wp2_with (first | fail)
  go_ret2
  exact ⟨rfl, rfl⟩
theorem spec_SumPairs_few (a : Option Addr) (len cap : Nat) (zs : List Nat) (w : World) (ha : IsFs .f32 w a len cap zs) (hf : len ≤ 256) :
    Calls Try.prog 22 #[.slice a len cap] w fun e w' => ∃ r, e = .returned (.tuple #[.float .f32 r, .bool true]) ∧ FV .f32 r (pairC zs) ∧ ∃ n, w' = w.drewN n := by
  have h1 : ¬ (256 : Int) < len := by omega
  have hd : decide (len ≤ 256) = true := decide_eq_true hf
  go_enter Try.func22, Try.ntmps22
  go_wp2_with (first | (go_at_call 44; refine (l01Few _ _ _ _).mono ?_; rintro e w' ⟨rfl, rfl⟩) | (go_at_call 46; refine (l01SumPairs _ _ _ _ _ hf ha).mono ?_; rintro e w' ⟨r, rfl, hr, n, rfl⟩))
  go_ret2
  exact ⟨_, rfl, hr, _, rfl⟩
theorem spec_SumPairs_many (a : Option Addr) (len cap : Nat) (w : World) (hf : ¬ len ≤ 256) :
    Calls Try.prog 22 #[.slice a len cap] w fun e w' => e = .returned (.tuple #[.float .f32 0, .bool false]) ∧ w' = w := by
  have h1 : (256 : Int) < len := by omega
  have hd : decide (len ≤ 256) = false := decide_eq_false hf
  clear hf
  go_enter Try.func22, Try.ntmps22
  go_wp2_with (first | (go_at_call 44; refine (l01Few _ _ _ _).mono ?_; rintro e w' ⟨rfl, rfl⟩) | fail)
  go_ret2
  exact ⟨rfl, rfl⟩
set_option maxHeartbeats 400000 in
theorem FnExactSumPairs_law (a : Option Addr) (len cap : Nat) (zs : List Nat) (w : World) (ha : IsFs .f32 w a len cap zs) :
    Calls Try.prog 5 #[.slice a len cap] w fun e w' => e = .returned (.bool true) ∧ Below w.heap.size w w' := by
  have u := Try.underlying22
  have u' := Try.underlying25
  by_cases hb : 1048576 < len
  · have hb' : (1048576 : Int) < len := by omega
    go_enter Try.func5, Try.ntmps5
    go_wp2
    go_ret
    exact ⟨rfl, Below.refl _ _⟩
  · have hb' : ¬ (1048576 : Int) < len := by omega
    have hlen : len ≤ 1048576 := by omega
    go_enter Try.func5, Try.ntmps5
    go_wp2_with fail
    refine (laws_toFloat32S _ _ _ _ _ ha hlen).mono ?_
    rintro en w1 ⟨g1, rfl, hg1, hb1⟩
    by_cases hf : len ≤ 256
    · go_wp2_with fail
      refine (spec_SumPairs_few _ _ _ _ _ hg1 hf).mono ?_
      rintro en w2 ⟨r, rfl, hr, n2, rfl⟩
      have ha1 := IsFs_drewN (n := n2) (IsFs_below hb1 ha)
      go_wp2_with fail
      refine (laws_toFloat32S _ _ _ _ _ ha1 hlen).mono ?_
      rintro en w3 ⟨g3, rfl, hg3, hb3⟩
      go_wp2_with fail
      refine (impl_SumPairs_few _ _ _ _ _ hg3 hf).mono ?_
      rintro en w4 ⟨r', rfl, hr', n4, rfl⟩
      go_wp2_with fail
      refine (laws_sameFloat _ _ _ _ (FV_wR hr') (FV_wR hr)).mono ?_
      rintro en w5 ⟨rfl, n5, rfl⟩
      have ha3 := IsFs_below hb3 ha1
      go_wp2_with fail
      refine (laws_toFloat32S _ _ _ _ _ (IsFs_drewN ha3) hlen).mono ?_
      rintro en w6 ⟨g6, rfl, hg6, hb6⟩
      go_wp2_with fail
      refine (laws_eqFloat32S _ _ _ _ _ _ _ (IsFs_below hb6 (IsFs_drewN hg3)) hg6 hlen).mono ?_
      rintro en w7 ⟨rfl, n7, rfl⟩
      have B1 := hb1.size
      have B3 := hb3.size
      simp at B3
      go_wp2
      go_ret
      exact ⟨rfl, below_drewN (((below_drewN hb1 _).trans (hb3.mono (by simp; omega)) |> fun h => below_drewN h _).trans (hb6.mono (by simp; omega))) _⟩
    · go_wp2_with fail
      refine (spec_SumPairs_many _ _ _ _ hf).mono ?_
      rintro en w2 ⟨rfl, rfl⟩
      have ha1 := IsFs_below hb1 ha
      have hr := FV_zero
      go_wp2_with fail
      refine (laws_toFloat32S _ _ _ _ _ ha1 hlen).mono ?_
      rintro en w3 ⟨g3, rfl, hg3, hb3⟩
      go_wp2_with fail
      refine (impl_SumPairs_many _ _ _ _ hf).mono ?_
      rintro en w4 ⟨rfl, rfl⟩
      go_wp2_with fail
      refine (laws_sameFloat _ _ _ _ (FV_wR hr) (FV_wR hr)).mono ?_
      rintro en w5 ⟨rfl, n5, rfl⟩
      have ha3 := IsFs_below hb3 ha1
      go_wp2_with fail
      refine (laws_toFloat32S _ _ _ _ _ (IsFs_drewN ha3) hlen).mono ?_
      rintro en w6 ⟨g6, rfl, hg6, hb6⟩
      go_wp2_with fail
      refine (laws_eqFloat32S _ _ _ _ _ _ _ (IsFs_below hb6 (IsFs_drewN hg3)) hg6 hlen).mono ?_
      rintro en w7 ⟨rfl, n7, rfl⟩
      have B1 := hb1.size
      have B3 := hb3.size
      go_wp2
      go_ret
      exact ⟨rfl, below_drewN (((hb1.trans (hb3.mono (by omega))) |> fun h => below_drewN h _).trans (hb6.mono (by simp; omega))) _⟩

end Go.Proofs.Ytkomipghfihocab

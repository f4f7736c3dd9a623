
/-
Meshes are the same as their copies: what the law's own functions return. Conditions: at most 2^20 of each.
-/
import Derived.Test.YtcgnmnbjgamedaaMwD
import Derived.Deep.QuietTactic
import Derived.BigQuiet
namespace Go.Proofs.Ytcgnmnbjgamedaa
open Go Fk Go.RowKit
set_option linter.unusedVariables false
set_option maxRecDepth 8000

theorem _root_.Go.Proofs.Ytcgnmnbjgamedaa.Fk.IsIs.drewE {w w1 : World} {n : Nat} {a : Option Addr} {len cap : Nat} {zs : List Int} (h : IsIs w a len cap zs) (hw : w1 = w.drewN n) : IsIs w1 a len cap zs := by subst hw; exact h
theorem drewn_end {w w1 : World} {n m : Nat} (h : w1 = w.drewN n) : ∃ k, w1.drewN m = w.drewN k := ⟨n + m, by rw [h, World.drewN_drewN]⟩
set_option maxHeartbeats 1000000 in
theorem laws_eqInt64S (a b : Option Addr) (len cap cap' : Nat) (zs : List Int) (w : World) (ha : IsIs w a len cap zs) (hb : IsIs w b len cap' zs) :
    Calls Try.prog 112 #[.slice a len cap, .slice b len cap'] w fun e w' => e = .returned (.bool true) ∧ ∃ n, w' = w.drewN n := by
  have hm : len ≤ 9223372036854775807 := by have h1 := ha.2.1; have h2 := ha.2.2.1; unfold maxLen at h2; omega
  have hzl := ha.1
  go_enter Try.func112, Try.ntmps112
  go_wp2
  go_loopw [5] (fun i w' => ∃ k : Nat, k ≤ len ∧ i = .int .i64 k ∧ ∃ n, w' = w.drewN n) (fun i _ => len - (intOf i).toNat)
  case atStart => exact ⟨0, Nat.zero_le _, rfl, 0, rfl⟩
  case round =>
    obtain ⟨k, hk, rfl, n, hw⟩ := hrel
    by_cases hlt : k < len
    · obtain ⟨b1, o1, rfl, hcell1⟩ := (ha.drewE hw).some (by omega)
      obtain ⟨b2, o2, rfl, hcell2⟩ := (hb.drewE hw).some (by omega)
      have c1 := hcell1 k hlt
      have c2 := hcell2 k hlt
      generalize zs.getD k 0 = z at *
      have HW := Lib.hid hw
      clear hcell1 hcell2 hzl ha hb hw
      have hk0 : (0 : Int) ≤ (k : Int) := by omega
      have hk1 : (k : Int) < (len : Int) := by omega
      go_wp2_with fail
      go_quiet (fail)
      go_wp2
      go_roundw
      case rel => exact ⟨k + 1, by omega, by go_num, drewn_end HW.out⟩
      case measure => simp [intOf]; omega
    · have HW := Lib.hid hw
      clear hw
      go_wp2
      go_ret
      exact ⟨rfl, n, HW.out⟩
theorem _root_.Go.Proofs.Ytcgnmnbjgamedaa.Fk.IsTs.drew {w w1 : World} {n : Nat} {a : Option Addr} {len cap : Nat} {ts : List (List Int)} (h : IsTs w a len cap ts) (hw : w1 = w.drewN n) : IsTs w1 a len cap ts := by subst hw; exact h
theorem _root_.Go.Proofs.Ytcgnmnbjgamedaa.Fk.IsIs.drew {w : World} {n : Nat} {a : Option Addr} {len cap : Nat} {zs : List Int} (h : IsIs w a len cap zs) : IsIs (w.drewN n) a len cap zs := h
theorem _root_.Go.Proofs.Ytcgnmnbjgamedaa.Fk.IsVs.drew {w w1 : World} {n : Nat} {a : Option Addr} {len cap : Nat} {cs : List C3} (h : IsVs w a len cap cs) (hw : w1 = w.drewN n) : IsVs w1 a len cap cs := by subst hw; exact h
set_option maxHeartbeats 1000000 in
theorem laws_eqInt64SS (a b : Option Addr) (len cap cap' : Nat) (ts : List (List Int)) (w : World) (ha : IsTs w a len cap ts) (hb : IsTs w b len cap' ts) :
    Calls Try.prog 76 #[.slice a len cap, .slice b len cap'] w fun e w' => e = .returned (.bool true) ∧ ∃ n, w' = w.drewN n := by
  have hm : len ≤ 9223372036854775807 := by have h1 := ha.2.1; have h2 := ha.2.2.1; unfold maxLen at h2; omega
  have hzl := ha.1
  go_enter Try.func76, Try.ntmps76
  go_wp2
  go_loopw [5] (fun i w' => ∃ k : Nat, k ≤ len ∧ i = .int .i64 k ∧ ∃ n, w' = w.drewN n) (fun i _ => len - (intOf i).toNat)
  case atStart => exact ⟨0, Nat.zero_le _, rfl, 0, rfl⟩
  case round =>
    obtain ⟨k, hk, rfl, n, hw⟩ := hrel
    by_cases hlt : k < len
    · obtain ⟨b1, o1, rfl, hcell1⟩ := (ha.drew hw).some (by omega)
      obtain ⟨b2, o2, rfl, hcell2⟩ := (hb.drew hw).some (by omega)
      obtain ⟨r1, n1, q1, c1, i1⟩ := hcell1 k hlt
      obtain ⟨r2, n2, q2, c2, i2⟩ := hcell2 k hlt
      have hn : n2 = n1 := i2.1.symm.trans i1.1
      subst hn
      generalize ts.getD k [] = z at *
      have HW := Lib.hid hw
      have I1 := Lib.hid i1
      have I2 := Lib.hid i2
      clear hcell1 hcell2 hzl ha hb hw i1 i2
      have hk0 : (0 : Int) ≤ (k : Int) := by omega
      have hk1 : (k : Int) < (len : Int) := by omega
      go_wp2_with fail
      go_quiet ((go_at_call 112; exact Calls.quiet_of (laws_eqInt64S _ _ _ _ _ _ _ I1.out.drew I2.out.drew)))
      go_wp2
      go_roundw
      case rel => exact ⟨k + 1, by omega, by go_num, drewn_end HW.out⟩
      case measure => simp [intOf]; omega
    · have HW := Lib.hid hw
      clear hw
      go_wp2
      go_ret
      exact ⟨rfl, n, HW.out⟩
set_option maxHeartbeats 1000000 in
theorem laws_eqVectorS (a b : Option Addr) (len cap cap' : Nat) (cs : List C3) (w : World) (ha : IsVs w a len cap cs) (hb : IsVs w b len cap' cs) :
    Calls Try.prog 75 #[.slice a len cap, .slice b len cap'] w fun e w' => e = .returned (.bool true) ∧ Below w.heap.size w w' := by
  have hm : len ≤ 9223372036854775807 := by have h1 := ha.2.1; have h2 := ha.2.2.1; unfold maxLen at h2; omega
  have uv := Try.underlying33
  have hzl := ha.1
  go_enter Try.func75, Try.ntmps75
  go_wp2
  go_loopw [5] (fun i w' => ∃ k : Nat, k ≤ len ∧ i = .int .i64 k ∧ Below w.heap.size w w') (fun i _ => len - (intOf i).toNat)
  case atStart => exact ⟨0, Nat.zero_le _, rfl, Below.refl _ _⟩
  case round =>
    obtain ⟨k, hk, rfl, hB⟩ := hrel
    by_cases hlt : k < len
    · obtain ⟨b1, o1, rfl, hcell1⟩ := (ha.below hB).some (by omega)
      obtain ⟨b2, o2, rfl, hcell2⟩ := (hb.below hB).some (by omega)
      obtain ⟨p1, q1, r1, c11, c12, c13, f11, f12, f13⟩ := hcell1 k hlt
      obtain ⟨p2, q2, r2, c21, c22, c23, f21, f22, f23⟩ := hcell2 k hlt
      generalize cs.getD k c0 = z at *
      have HB := Lib.hid hB
      clear hcell1 hcell2 hzl ha hb hB
      have hk0 : (0 : Int) ≤ (k : Int) := by omega
      have hk1 : (k : Int) < (len : Int) := by omega
      go_wp2_with fail
      refine Reg.wp_region_mix (C := fun w' => (w'.cell? ⟨b1, o1 + k * 3, none⟩ = some (.float .f32 p1) ∧ w'.cell? ⟨b1, o1 + k * 3 + 1, none⟩ = some (.float .f32 q1) ∧ w'.cell? ⟨b1, o1 + k * 3 + 2, none⟩ = some (.float .f32 r1) ∧ w'.cell? ⟨b2, o2 + k * 3, none⟩ = some (.float .f32 p2) ∧ w'.cell? ⟨b2, o2 + k * 3 + 1, none⟩ = some (.float .f32 q2) ∧ w'.cell? ⟨b2, o2 + k * 3 + 2, none⟩ = some (.float .f32 r2)) ∧ Below wr.heap.size wr w') (G := fun _ _ => True) (R := fun i v _ => match i with | 0 => v = .slice (some ⟨b1, o1, none⟩) len cap | 1 => v = .int .i64 k | 2 => v = .pointer (some ⟨b1, o1 + k * 3, none⟩) | 3 => v = vv p1 q1 r1 | 4 => v = .slice (some ⟨b2, o2, none⟩) len cap' | 5 => v = .int .i64 k | 6 => v = .pointer (some ⟨b2, o2 + k * 3, none⟩) | 7 => v = vv p2 q2 r2 | 8 => v = .bool true | 9 => v = .bool false | _ => True) (T := fun _ _ _ => True) [false, false, false, false, false, false, false, false, false, false, false, false, false, false, false, false, false, true, true, true, true, true, true, true, true, true, true]
        (by kernel_rfl) (by kernel_rfl) (by kernel_rfl) (fun _ _ _ _ _ _ h => h) ⟨⟨c11, c12, c13, c21, c22, c23⟩, below_drewN (Below.refl _ _) 1⟩ ?_ ?_
      · refine ⟨Reg.Obl.mk ?_, Reg.Obl.mk ?_, Reg.Obl.mk ?_, Reg.Obl.mk ?_, Reg.Obl.mk ?_, Reg.Obl.mk ?_, Reg.Obl.mk ?_, Reg.Obl.mk ?_, Reg.Obl.mk ?_, Reg.Obl.mk ?_, trivial⟩
        · rintro a w1 ⟨⟨d11, d12, d13, d21, d22, d23⟩, hB⟩ hx hd K hK
          have t0 : a.tmps[0]?.getD undef = .slice (some ⟨b1, o1, none⟩) len cap := Reg.slot_val (hx 0 (by kernel_rfl))
          go_simp
          exact hK _ _ (fun _ => rfl) (fun h => by cases h) ⟨⟨d11, d12, d13, d21, d22, d23⟩, hB⟩ trivial
        · rintro a w1 ⟨⟨d11, d12, d13, d21, d22, d23⟩, hB⟩ hx hd K hK
          have t5 : a.tmps[5]?.getD undef = .int .i64 k := Reg.slot_val (hx 5 (by kernel_rfl))
          go_simp
          exact hK _ _ (fun _ => rfl) (fun h => by cases h) ⟨⟨d11, d12, d13, d21, d22, d23⟩, hB⟩ trivial
        · rintro a w1 ⟨⟨d11, d12, d13, d21, d22, d23⟩, hB⟩ hx hd K hK
          have t17 : a.tmps[17]?.getD undef = .slice (some ⟨b1, o1, none⟩) len cap := Reg.slot_val (hd 0 (by kernel_rfl) 17 rfl)
          have t18 : a.tmps[18]?.getD undef = .int .i64 k := Reg.slot_val (hd 1 (by kernel_rfl) 18 rfl)
          go_simp
          exact hK _ _ (fun _ => rfl) (fun h => by cases h) ⟨⟨d11, d12, d13, d21, d22, d23⟩, hB⟩ trivial
        · rintro a w1 ⟨⟨d11, d12, d13, d21, d22, d23⟩, hB⟩ hx hd K hK
          have t19 : a.tmps[19]?.getD undef = .pointer (some ⟨b1, o1 + k * 3, none⟩) := Reg.slot_val (hd 2 (by kernel_rfl) 19 rfl)
          go_simp
          exact hK _ _ (fun _ => rfl) (fun h => by cases h) ⟨⟨d11, d12, d13, d21, d22, d23⟩, hB⟩ trivial
        · rintro a w1 ⟨⟨d11, d12, d13, d21, d22, d23⟩, hB⟩ hx hd K hK
          have t1 : a.tmps[1]?.getD undef = .slice (some ⟨b2, o2, none⟩) len cap' := Reg.slot_val (hx 1 (by kernel_rfl))
          go_simp
          exact hK _ _ (fun _ => rfl) (fun h => by cases h) ⟨⟨d11, d12, d13, d21, d22, d23⟩, hB⟩ trivial
        · rintro a w1 ⟨⟨d11, d12, d13, d21, d22, d23⟩, hB⟩ hx hd K hK
          have t5 : a.tmps[5]?.getD undef = .int .i64 k := Reg.slot_val (hx 5 (by kernel_rfl))
          go_simp
          exact hK _ _ (fun _ => rfl) (fun h => by cases h) ⟨⟨d11, d12, d13, d21, d22, d23⟩, hB⟩ trivial
        · rintro a w1 ⟨⟨d11, d12, d13, d21, d22, d23⟩, hB⟩ hx hd K hK
          have t21 : a.tmps[21]?.getD undef = .slice (some ⟨b2, o2, none⟩) len cap' := Reg.slot_val (hd 4 (by kernel_rfl) 21 rfl)
          have t22 : a.tmps[22]?.getD undef = .int .i64 k := Reg.slot_val (hd 5 (by kernel_rfl) 22 rfl)
          go_simp
          exact hK _ _ (fun _ => rfl) (fun h => by cases h) ⟨⟨d11, d12, d13, d21, d22, d23⟩, hB⟩ trivial
        · rintro a w1 ⟨⟨d11, d12, d13, d21, d22, d23⟩, hB⟩ hx hd K hK
          have t23 : a.tmps[23]?.getD undef = .pointer (some ⟨b2, o2 + k * 3, none⟩) := Reg.slot_val (hd 6 (by kernel_rfl) 23 rfl)
          go_simp
          exact hK _ _ (fun _ => rfl) (fun h => by cases h) ⟨⟨d11, d12, d13, d21, d22, d23⟩, hB⟩ trivial
        · rintro a w1 ⟨⟨d11, d12, d13, d21, d22, d23⟩, hB⟩ hx hd K hK
          have t20 : a.tmps[20]?.getD undef = vv p1 q1 r1 := Reg.slot_val (hd 3 (by kernel_rfl) 20 rfl)
          have t24 : a.tmps[24]?.getD undef = vv p2 q2 r2 := Reg.slot_val (hd 7 (by kernel_rfl) 24 rfl)
          go_simp
          refine (laws_eqVector _ _ _ _ _ _ _ _ _ _ f11 f12 f13 f21 f22 f23).mono ?_
          rintro en w2 ⟨rfl, hB2⟩
          exact hK _ _ (fun _ => rfl) (fun h => by cases h) ⟨⟨cell_below hB2 d11, cell_below hB2 d12, cell_below hB2 d13, cell_below hB2 d21, cell_below hB2 d22, cell_below hB2 d23⟩, hB.trans (hB2.mono hB.size)⟩ trivial
        · rintro a w1 ⟨⟨d11, d12, d13, d21, d22, d23⟩, hB⟩ hx hd K hK
          have t25 : a.tmps[25]?.getD undef = .bool true := Reg.slot_val (hd 8 (by kernel_rfl) 25 rfl)
          go_simp
          exact hK _ _ (fun _ => rfl) (fun h => by cases h) ⟨⟨d11, d12, d13, d21, d22, d23⟩, hB⟩ trivial
      · rintro f w1 ⟨_, hB⟩ hd hT
        have g26 : f 26 = .bool false := hd 9 26 rfl
        simp only [Reg.mixL, g26]
        have HB1 := Lib.hid hB
        clear hB
        go_wp2
        go_roundw
        case rel => exact ⟨k + 1, by omega, by go_num, HB.out.trans (HB1.out.mono HB.out.size)⟩
        case measure => simp [intOf]; omega
    · have HB := Lib.hid hB
      clear hB
      go_wp2
      go_ret
      exact ⟨rfl, HB.out⟩
end Go.Proofs.Ytcgnmnbjgamedaa

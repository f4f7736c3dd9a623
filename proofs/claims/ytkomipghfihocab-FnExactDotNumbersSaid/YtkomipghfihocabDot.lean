
/-
Sums of products: what the program and its model return, and that the law returns true. Conditions: none.
-/
import Derived.Test.YtkomipghfihocabSum
namespace Go.Proofs.Ytkomipghfihocab
open Go Fk Go.RowKit
set_option linter.unusedVariables false

def dotTo (zs ys : List Nat) : Nat → Option Nat
  | 0 => some 0
  | k + 1 => fop .add .f32 (dotTo zs ys k) (fop .mul .f32 (cls .f32 (zs.getD k 0)) (cls .f32 (ys.getD k 0)))
def isF' (c : Option Nat) (v : Value) : Prop := ∃ r, v = .float .f32 r ∧ FV .f32 r c
theorem product32 (x y : Nat) (w : World) (c d : Option Nat) (h1 : FV .f32 x c) (h2 : FV .f32 y d) :
    Calls Try.prog 77 #[.float .f32 x, .float .f32 y] w fun en w' => ∃ r, en = .returned (.float .f32 r) ∧ FV .f32 r (fop .mul .f32 c d) ∧ ∃ n, w' = w.drewN n := by
  have u := Try.underlying22
  go_enter Try.func77, Try.ntmps77
  go_wp2
  go_ret
  exact ⟨_, rfl, FV_fR h1 h2, _, rfl⟩

set_option maxHeartbeats 1000000 in
theorem impl_dotOf32 (a b : Option Addr) (len cap cap' : Nat) (zs ys : List Nat) (w : World) (ha : IsFs .f32 w a len cap zs) (hb : IsFs .f32 w b len cap' ys) :
    Calls Try.prog 49 #[.slice a len cap, .slice b len cap'] w fun e w' => ∃ r, e = .returned (.float .f32 r) ∧ FV .f32 r (dotTo zs ys len) ∧ ∃ n, w' = w.drewN n := by
  have u := Try.underlying22
  have hm : len ≤ 9223372036854775807 := by have h1 := ha.2.1; have h2 := ha.2.2.1; unfold maxLen at h2; omega
  have hb2 := hb.2.1
  have hb3 := hb.2.2.1
  go_enter Try.func49, Try.ntmps49
  go_wp2
  go_loopw [5, 10] (fun s i w' => ∃ k : Nat, k ≤ len ∧ i = .int .i64 k ∧ (∃ r, s = .float .f32 r ∧ FV .f32 r (dotTo zs ys k)) ∧ ∃ n, w' = w.drewN n) (fun _ i _ => len - (intOf i).toNat)
  case atStart => exact ⟨0, Nat.zero_le _, rfl, ⟨0, rfl, FV_zero⟩, 0, rfl⟩
  case round =>
    obtain ⟨k, hk, rfl, ⟨r, rfl, hr⟩, n, rfl⟩ := hrel
    by_cases hlt : k < len
    · obtain ⟨b1, o1, rfl, hcell1⟩ := IsFs_some ha (by omega)
      obtain ⟨b2, o2, rfl, hcell2⟩ := IsFs_some hb (by omega)
      have c1 := hcell1 k hlt
      have c2 := hcell2 k hlt
      have hv := FV_at ha k hlt
      have hv2 := FV_at hb k hlt
      have hsn := Lib.hid (show (dotTo zs ys (k + 1) = fop .add .f32 (dotTo zs ys k) (fop .mul .f32 (cls .f32 (zs.getD k 0)) (cls .f32 (ys.getD k 0))))  from rfl)
      generalize zs.getD k 0 = z at *
      generalize ys.getD k 0 = y at *
      clear hcell1 hcell2 ha hb
      have hk0 : (0 : Int) ≤ (k : Int) := by omega
      have hk1 : (k : Int) < (len : Int) := by omega
      go_wp2_with (go_at_call 77; refine (product32 _ _ _ _ _ hv hv2).mono ?_; rintro en w2 ⟨r2, rfl, hr2, n2, rfl⟩)
      go_roundw
      case rel => exact ⟨k + 1, by omega, by go_num, ⟨_, rfl, by rw [hsn.out]; exact FV_fR hr hr2⟩, _, rfl⟩
      case measure => simp [intOf]; omega
    · obtain rfl : k = len := by omega
      go_wp2
      go_ret
      exact ⟨_, rfl, hr, _, rfl⟩
set_option maxHeartbeats 1000000 in
theorem l01Dot (a b : Option Addr) (len cap cap' : Nat) (zs ys : List Nat) (w : World) (ha : IsFs .f32 w a len cap zs) (hb : IsFs .f32 w b len cap' ys) :
    Calls Try.prog 48 #[.slice a len cap, .slice b len cap'] w fun e w' => ∃ r, e = .returned (.float .f32 r) ∧ FV .f32 r (dotTo zs ys len) ∧ ∃ n, w' = w.drewN n := by
  have u := Try.underlying22
  have hm : len ≤ 9223372036854775807 := by have h1 := ha.2.1; have h2 := ha.2.2.1; unfold maxLen at h2; omega
  have hb2 := hb.2.1
  have hb3 := hb.2.2.1
  go_enter Try.func48, Try.ntmps48
  go_wp2
  go_loopw [5, 6] (fun s i w' => ∃ k : Nat, k ≤ len ∧ i = .int .i64 k ∧ (∃ r, s = .float .f32 r ∧ FV .f32 r (dotTo zs ys k)) ∧ ∃ n, w' = w.drewN n) (fun _ i _ => len - (intOf i).toNat)
  case atStart => exact ⟨0, Nat.zero_le _, rfl, ⟨0, rfl, FV_zero⟩, 0, rfl⟩
  case round =>
    obtain ⟨k, hk, rfl, ⟨r, rfl, hr⟩, n, rfl⟩ := hrel
    by_cases hlt : k < len
    · obtain ⟨b1, o1, rfl, hcell1⟩ := IsFs_some ha (by omega)
      obtain ⟨b2, o2, rfl, hcell2⟩ := IsFs_some hb (by omega)
      have c1 := hcell1 k hlt
      have c2 := hcell2 k hlt
      have hv := FV_at ha k hlt
      have hv2 := FV_at hb k hlt
      have hsn := Lib.hid (show (dotTo zs ys (k + 1) = fop .add .f32 (dotTo zs ys k) (fop .mul .f32 (cls .f32 (zs.getD k 0)) (cls .f32 (ys.getD k 0))))  from rfl)
      generalize zs.getD k 0 = z at *
      generalize ys.getD k 0 = y at *
      clear hcell1 hcell2 ha hb
      have hk0 : (0 : Int) ≤ (k : Int) := by omega
      have hk1 : (k : Int) < (len : Int) := by omega
      go_wp2_with fail
      refine Reg.wp_region_mix (C := fun w' => ∃ n, w' = w.drewN n) (G := fun _ _ => True) (R := fun i v _ => match i with | 0 => v = .float .f32 r | 1 => v = .slice (some ⟨b1, o1, none⟩) len cap | 2 => v = .int .i64 k | 3 => v = .pointer (some ⟨b1, o1 + k, none⟩) | 4 => v = .float .f32 z | 5 => v = .slice (some ⟨b2, o2, none⟩) len cap' | 6 => v = .int .i64 k | 7 => v = .pointer (some ⟨b2, o2 + k, none⟩) | 8 => v = .float .f32 y | 9 => isF' (fop .mul .f32 (cls .f32 z) (cls .f32 y)) v | 10 => isF' (fop .add .f32 (dotTo zs ys k) (fop .mul .f32 (cls .f32 z) (cls .f32 y))) v | 11 => isF' (fop .add .f32 (dotTo zs ys k) (fop .mul .f32 (cls .f32 z) (cls .f32 y))) v | _ => True) (T := fun _ _ _ => True) [false, false, false, false, false, true, false, false, false, false, false, false, false, true, true, true, true, true, true, true, true, true, true, true, false]
        (by kernel_rfl) (by kernel_rfl) (by kernel_rfl) (fun _ _ _ _ _ _ h => h) ⟨n + 1, rfl⟩ ?_ ?_
      · refine ⟨Reg.Obl.mk ?_, Reg.Obl.mk ?_, Reg.Obl.mk ?_, Reg.Obl.mk ?_, Reg.Obl.mk ?_, Reg.Obl.mk ?_, Reg.Obl.mk ?_, Reg.Obl.mk ?_, Reg.Obl.mk ?_, Reg.Obl.mk ?_, Reg.Obl.mk ?_, Reg.Obl.mk ?_, trivial⟩
        · rintro a w1 ⟨n1, rfl⟩ hx hd K hK
          have t5 : a.tmps[5]?.getD undef = .float .f32 r := Reg.slot_val (hx 5 (by kernel_rfl))
          go_simp
          exact hK _ _ (fun _ => rfl) (fun h => by cases h) ⟨_, rfl⟩ trivial
        · rintro a w1 ⟨n1, rfl⟩ hx hd K hK
          have t0 : a.tmps[0]?.getD undef = .slice (some ⟨b1, o1, none⟩) len cap := Reg.slot_val (hx 0 (by kernel_rfl))
          go_simp
          exact hK _ _ (fun _ => rfl) (fun h => by cases h) ⟨_, rfl⟩ trivial
        · rintro a w1 ⟨n1, rfl⟩ hx hd K hK
          have t6 : a.tmps[6]?.getD undef = .int .i64 k := Reg.slot_val (hx 6 (by kernel_rfl))
          go_simp
          exact hK _ _ (fun _ => rfl) (fun h => by cases h) ⟨_, rfl⟩ trivial
        · rintro a w1 ⟨n1, rfl⟩ hx hd K hK
          have t14 : a.tmps[14]?.getD undef = .slice (some ⟨b1, o1, none⟩) len cap := Reg.slot_val (hd 1 (by kernel_rfl) 14 rfl)
          have t15 : a.tmps[15]?.getD undef = .int .i64 k := Reg.slot_val (hd 2 (by kernel_rfl) 15 rfl)
          go_simp
          exact hK _ _ (fun _ => rfl) (fun h => by cases h) ⟨_, rfl⟩ trivial
        · rintro a w1 ⟨n1, rfl⟩ hx hd K hK
          have t16 : a.tmps[16]?.getD undef = .pointer (some ⟨b1, o1 + k, none⟩) := Reg.slot_val (hd 3 (by kernel_rfl) 16 rfl)
          go_simp
          exact hK _ _ (fun _ => rfl) (fun h => by cases h) ⟨_, rfl⟩ trivial
        · rintro a w1 ⟨n1, rfl⟩ hx hd K hK
          have t1 : a.tmps[1]?.getD undef = .slice (some ⟨b2, o2, none⟩) len cap' := Reg.slot_val (hx 1 (by kernel_rfl))
          go_simp
          exact hK _ _ (fun _ => rfl) (fun h => by cases h) ⟨_, rfl⟩ trivial
        · rintro a w1 ⟨n1, rfl⟩ hx hd K hK
          have t6 : a.tmps[6]?.getD undef = .int .i64 k := Reg.slot_val (hx 6 (by kernel_rfl))
          go_simp
          exact hK _ _ (fun _ => rfl) (fun h => by cases h) ⟨_, rfl⟩ trivial
        · rintro a w1 ⟨n1, rfl⟩ hx hd K hK
          have t18 : a.tmps[18]?.getD undef = .slice (some ⟨b2, o2, none⟩) len cap' := Reg.slot_val (hd 5 (by kernel_rfl) 18 rfl)
          have t19 : a.tmps[19]?.getD undef = .int .i64 k := Reg.slot_val (hd 6 (by kernel_rfl) 19 rfl)
          go_simp
          exact hK _ _ (fun _ => rfl) (fun h => by cases h) ⟨_, rfl⟩ trivial
        · rintro a w1 ⟨n1, rfl⟩ hx hd K hK
          have t20 : a.tmps[20]?.getD undef = .pointer (some ⟨b2, o2 + k, none⟩) := Reg.slot_val (hd 7 (by kernel_rfl) 20 rfl)
          go_simp
          exact hK _ _ (fun _ => rfl) (fun h => by cases h) ⟨_, rfl⟩ trivial
        · rintro a w1 ⟨n1, rfl⟩ hx hd K hK
          have t17 : a.tmps[17]?.getD undef = .float .f32 z := Reg.slot_val (hd 4 (by kernel_rfl) 17 rfl)
          have t21 : a.tmps[21]?.getD undef = .float .f32 y := Reg.slot_val (hd 8 (by kernel_rfl) 21 rfl)
          go_simp
          exact hK _ _ (fun _ => ⟨_, rfl, FV_fR hv hv2⟩) (fun h => by cases h) ⟨_, rfl⟩ trivial
        · rintro a w1 ⟨n1, rfl⟩ hx hd K hK
          have t13 : a.tmps[13]?.getD undef = .float .f32 r := Reg.slot_val (hd 0 (by kernel_rfl) 13 rfl)
          obtain ⟨r22, g22, f22⟩ := hd 9 (by kernel_rfl) 22 rfl
          have t22 := Reg.slot_val g22
          clear g22
          go_simp
          exact hK _ _ (fun _ => ⟨_, rfl, FV_fR hr f22⟩) (fun h => by cases h) ⟨_, rfl⟩ trivial
        · rintro a w1 ⟨n1, rfl⟩ hx hd K hK
          obtain ⟨r23, g23, f23⟩ := hd 10 (by kernel_rfl) 23 rfl
          have t23 := Reg.slot_val g23
          clear g23
          go_simp
          exact hK _ _ (fun _ => ⟨_, rfl, f23⟩) (fun h => by cases h) ⟨_, rfl⟩ trivial
      · rintro f w1 ⟨n1, rfl⟩ hd hT
        obtain ⟨r5, g5, f5⟩ := hd 11 5 rfl
        simp only [Reg.mixL, g5]
        go_wp2
        go_roundw
        case rel => exact ⟨k + 1, by omega, by go_num, ⟨_, rfl, by rw [hsn.out]; exact f5⟩, _, rfl⟩
        case measure => simp [intOf]; omega
    · obtain rfl : k = len := by omega
      go_wp2
      go_ret
      exact ⟨_, rfl, hr, _, rfl⟩
theorem impl_DotNumbers_yes (a b : Option Addr) (len cap cap' : Nat) (zs ys : List Nat) (w : World) (ha : IsFs .f32 w a len cap zs) (hb : IsFs .f32 w b len cap' ys) (hf : len ≤ 256) :
    Calls Try.prog 25 #[.slice a len cap, .slice b len cap'] w fun e w' => ∃ r, e = .returned (.tuple #[.float .f32 r, .bool true]) ∧ FV .f32 r (dotTo zs ys len) ∧ ∃ n, w' = w.drewN n := by
  have h1 : ¬ (256 : Int) < len := by omega
  have hd : decide (len ≤ 256) = true := decide_eq_true hf
  go_enter Try.func25, Try.ntmps25
  go_wp2_with (first | (go_at_call 49; refine (impl_dotOf32 _ _ _ _ _ _ _ _ ha hb).mono ?_; rintro e w' ⟨r, rfl, hr, n, rfl⟩))
  go_ret2
  exact ⟨_, rfl, hr, _, rfl⟩
theorem impl_DotNumbers_no (a b : Option Addr) (len len' cap cap' : Nat) (w : World) (hf : ¬ (len = len' ∧ len ≤ 256)) :
    Calls Try.prog 25 #[.slice a len cap, .slice b len' cap'] w fun e w' => e = .returned (.tuple #[.float .f32 0, .bool false]) ∧ w' = w := by
  by_cases h0 : len ≤ 256
  · have hne : ((len : Int) != (len' : Int)) = true := by simp; omega
    have hd : decide (len ≤ 256) = true := decide_eq_true h0
    clear hf
    go_enter Try.func25, Try.ntmps25
    go_wp2_with (first | fail)
    go_ret2
    exact ⟨rfl, rfl⟩
  · have h1 : (256 : Int) < len := by omega
    have hd : decide (len ≤ 256) = false := decide_eq_false h0
    clear hf
    cases hne : ((len : Int) != (len' : Int))
    all_goals
      go_enter Try.func25, Try.ntmps25
      go_wp2_with (first | fail)
      go_ret2
      exact ⟨rfl, rfl⟩
theorem spec_DotNumbers_yes (a b : Option Addr) (len cap cap' : Nat) (zs ys : List Nat) (w : World) (ha : IsFs .f32 w a len cap zs) (hb : IsFs .f32 w b len cap' ys) (hf : len ≤ 256) :
    Calls Try.prog 24 #[.slice a len cap, .slice b len cap'] w fun e w' => ∃ r, e = .returned (.tuple #[.float .f32 r, .bool true]) ∧ FV .f32 r (dotTo zs ys len) ∧ ∃ n, w' = w.drewN n := by
  have h1 : ¬ (256 : Int) < len := by omega
  have hd : decide (len ≤ 256) = true := decide_eq_true hf
  go_enter Try.func24, Try.ntmps24
  go_wp2_with (first | (go_at_call 44; refine (l01Few _ _ _ _).mono ?_; rintro e w' ⟨rfl, rfl⟩) | (go_at_call 48; refine (l01Dot _ _ _ _ _ _ _ _ ha hb).mono ?_; rintro e w' ⟨r, rfl, hr, n, rfl⟩))
  go_ret2
  exact ⟨_, rfl, hr, _, rfl⟩
theorem spec_DotNumbers_no (a b : Option Addr) (len len' cap cap' : Nat) (w : World) (hf : ¬ (len = len' ∧ len ≤ 256)) :
    Calls Try.prog 24 #[.slice a len cap, .slice b len' cap'] w fun e w' => e = .returned (.tuple #[.float .f32 0, .bool false]) ∧ w' = w := by
  by_cases h0 : len ≤ 256
  · have hne : ((len : Int) != (len' : Int)) = true := by simp; omega
    have hd : decide (len ≤ 256) = true := decide_eq_true h0
    clear hf
    go_enter Try.func24, Try.ntmps24
    go_wp2_with (first | (go_at_call 44; refine (l01Few _ _ _ _).mono ?_; rintro e w' ⟨rfl, rfl⟩) | fail)
    go_ret2
    exact ⟨rfl, rfl⟩
  · have h1 : (256 : Int) < len := by omega
    have hd : decide (len ≤ 256) = false := decide_eq_false h0
    clear hf
    cases hne : ((len : Int) != (len' : Int))
    all_goals
      go_enter Try.func24, Try.ntmps24
      go_wp2_with (first | (go_at_call 44; refine (l01Few _ _ _ _).mono ?_; rintro e w' ⟨rfl, rfl⟩) | fail)
      go_ret2
      exact ⟨rfl, rfl⟩
set_option maxHeartbeats 1000000 in
theorem FnExactDotNumbers_law (a : Option Addr) (len cap : Nat) (zs : List Nat) (b : Option Addr) (len' cap' : Nat) (ys : List Nat) (w : World) (ha : IsFs .f32 w a len cap zs) (hb : IsFs .f32 w b len' cap' ys) :
    Calls Try.prog 6 #[.slice a len cap, .slice b len' cap'] w fun e w' => e = .returned (.bool true) ∧ Below w.heap.size w w' := by
  have u := Try.underlying22
  have u' := Try.underlying25
  by_cases hbig : 1048576 < len
  · have hb' : (1048576 : Int) < len := by omega
    go_enter Try.func6, Try.ntmps6
    go_wp2
    go_ret
    exact ⟨rfl, Below.refl _ _⟩
  · have hb1' : ¬ (1048576 : Int) < len := by omega
    have hl1 : len ≤ 1048576 := by omega
    by_cases hbig2 : 1048576 < len'
    · have hb' : (1048576 : Int) < len' := by omega
      go_enter Try.func6, Try.ntmps6
      go_wp2
      go_ret
      exact ⟨rfl, Below.refl _ _⟩
    · have hb2' : ¬ (1048576 : Int) < len' := by omega
      have hl2 : len' ≤ 1048576 := by omega
      clear hbig hbig2
      by_cases hf : len = len' ∧ len ≤ 256
      · obtain ⟨rfl, hf⟩ := hf
        go_enter Try.func6, Try.ntmps6
        go_wp2_with fail
        refine (laws_toFloat32S _ _ _ _ _ ha hl1).mono ?_
        rintro en w1 ⟨p1, rfl, hp1, hb1⟩
        have a1 := IsFs_below hb1 ha
        have b1 := IsFs_below hb1 hb
        have hB1 := Below.trans (Below.refl w.heap.size w) (hb1.mono (Below.size (Below.refl w.heap.size w)))
        go_wp2_with fail
        refine (laws_toFloat32S _ _ _ _ _ b1 hl2).mono ?_
        rintro en w2 ⟨p2, rfl, hp2, hb2⟩
        have a2 := IsFs_below hb2 a1
        have b2 := IsFs_below hb2 b1
        have g2 := IsFs_below hb2 hp1
        have hB2 := Below.trans (hB1) (hb2.mono (Below.size (hB1)))
        go_wp2_with fail
        refine (spec_DotNumbers_yes _ _ _ _ _ _ _ _ g2 hp2 hf).mono ?_
        rintro en v1 ⟨r, rfl, hr, m1, rfl⟩
        have ad1 := IsFs_drewN (n := m1) a2
        have bd1 := IsFs_drewN (n := m1) b2
        have gd1 := IsFs_drewN (n := m1) g2
        have hd1 := IsFs_drewN (n := m1) hp2
        have hBd1 := below_drewN hB2 m1
        go_wp2_with fail
        refine (laws_toFloat32S _ _ _ _ _ ad1 hl1).mono ?_
        rintro en w3 ⟨p3, rfl, hp3, hb3⟩
        have a3 := IsFs_below hb3 ad1
        have b3 := IsFs_below hb3 bd1
        have g3 := IsFs_below hb3 gd1
        have h3 := IsFs_below hb3 hd1
        have hB3 := Below.trans (hBd1) (hb3.mono (Below.size (hBd1)))
        go_wp2_with fail
        refine (laws_toFloat32S _ _ _ _ _ b3 hl2).mono ?_
        rintro en w4 ⟨p4, rfl, hp4, hb4⟩
        have a4 := IsFs_below hb4 a3
        have b4 := IsFs_below hb4 b3
        have g4 := IsFs_below hb4 g3
        have h4 := IsFs_below hb4 h3
        have g24 := IsFs_below hb4 hp3
        have hB4 := Below.trans (hB3) (hb4.mono (Below.size (hB3)))
        go_wp2_with fail
        refine (impl_DotNumbers_yes _ _ _ _ _ _ _ _ g24 hp4 hf).mono ?_
        rintro en v2 ⟨r', rfl, hr', m2, rfl⟩
        go_wp2_with fail
        refine (laws_sameFloat _ _ _ _ (FV_wR hr') (FV_wR hr)).mono ?_
        rintro en v3 ⟨rfl, m3, rfl⟩
        go_wp2_with fail
        refine (laws_toFloat32S _ _ _ _ _ (IsFs_drewN a4) hl1).mono ?_
        rintro en w5 ⟨p5, rfl, hp5, hb5⟩
        have a5 := IsFs_below hb5 (IsFs_drewN a4)
        have b5 := IsFs_below hb5 (IsFs_drewN b4)
        have g25 := IsFs_below hb5 (IsFs_drewN g24)
        have h25 := IsFs_below hb5 (IsFs_drewN hp4)
        have hB5 := (below_drewN hB4 _).trans (hb5.mono (by simpa using Below.size (hB4)))
        go_wp2_with fail
        refine (laws_eqFloat32S _ _ _ _ _ _ _ g25 hp5 hl1).mono ?_
        rintro en u5 ⟨rfl, m4, rfl⟩
        go_wp2_with fail
        refine (laws_toFloat32S _ _ _ _ _ (IsFs_drewN b5) hl2).mono ?_
        rintro en w6 ⟨p6, rfl, hp6, hb6⟩
        have a6 := IsFs_below hb6 (IsFs_drewN a5)
        have b6 := IsFs_below hb6 (IsFs_drewN b5)
        have g26 := IsFs_below hb6 (IsFs_drewN g25)
        have h26 := IsFs_below hb6 (IsFs_drewN h25)
        have hB6 := (below_drewN hB5 _).trans (hb6.mono (by simpa using Below.size (hB5)))
        go_wp2_with fail
        refine (laws_eqFloat32S _ _ _ _ _ _ _ h26 hp6 hl2).mono ?_
        rintro en u6 ⟨rfl, m5, rfl⟩
        go_wp2
        go_ret
        exact ⟨rfl, below_drewN hB6 _⟩
      · go_enter Try.func6, Try.ntmps6
        go_wp2_with fail
        refine (laws_toFloat32S _ _ _ _ _ ha hl1).mono ?_
        rintro en w1 ⟨p1, rfl, hp1, hb1⟩
        have a1 := IsFs_below hb1 ha
        have b1 := IsFs_below hb1 hb
        have hB1 := Below.trans (Below.refl w.heap.size w) (hb1.mono (Below.size (Below.refl w.heap.size w)))
        go_wp2_with fail
        refine (laws_toFloat32S _ _ _ _ _ b1 hl2).mono ?_
        rintro en w2 ⟨p2, rfl, hp2, hb2⟩
        have a2 := IsFs_below hb2 a1
        have b2 := IsFs_below hb2 b1
        have g2 := IsFs_below hb2 hp1
        have hB2 := Below.trans (hB1) (hb2.mono (Below.size (hB1)))
        go_wp2_with fail
        refine (spec_DotNumbers_no _ _ _ _ _ _ _ hf).mono ?_
        rintro en v1 ⟨rfl, rfl⟩
        go_wp2_with fail
        refine (laws_toFloat32S _ _ _ _ _ a2 hl1).mono ?_
        rintro en w3 ⟨p3, rfl, hp3, hb3⟩
        have a3 := IsFs_below hb3 a2
        have b3 := IsFs_below hb3 b2
        have g3 := IsFs_below hb3 g2
        have h3 := IsFs_below hb3 hp2
        have hB3 := Below.trans (hB2) (hb3.mono (Below.size (hB2)))
        go_wp2_with fail
        refine (laws_toFloat32S _ _ _ _ _ b3 hl2).mono ?_
        rintro en w4 ⟨p4, rfl, hp4, hb4⟩
        have a4 := IsFs_below hb4 a3
        have b4 := IsFs_below hb4 b3
        have g4 := IsFs_below hb4 g3
        have h4 := IsFs_below hb4 h3
        have g24 := IsFs_below hb4 hp3
        have hB4 := Below.trans (hB3) (hb4.mono (Below.size (hB3)))
        go_wp2_with fail
        refine (impl_DotNumbers_no _ _ _ _ _ _ _ hf).mono ?_
        rintro en v2 ⟨rfl, rfl⟩
        go_wp2_with fail
        refine (laws_sameFloat _ _ _ _ (FV_wR FV_zero) (FV_wR FV_zero)).mono ?_
        rintro en v3 ⟨rfl, m3, rfl⟩
        go_wp2_with fail
        refine (laws_toFloat32S _ _ _ _ _ (IsFs_drewN a4) hl1).mono ?_
        rintro en w5 ⟨p5, rfl, hp5, hb5⟩
        have a5 := IsFs_below hb5 (IsFs_drewN a4)
        have b5 := IsFs_below hb5 (IsFs_drewN b4)
        have g25 := IsFs_below hb5 (IsFs_drewN g24)
        have h25 := IsFs_below hb5 (IsFs_drewN hp4)
        have hB5 := (below_drewN hB4 _).trans (hb5.mono (by simpa using Below.size (hB4)))
        go_wp2_with fail
        refine (laws_eqFloat32S _ _ _ _ _ _ _ g25 hp5 hl1).mono ?_
        rintro en u5 ⟨rfl, m4, rfl⟩
        go_wp2_with fail
        refine (laws_toFloat32S _ _ _ _ _ (IsFs_drewN b5) hl2).mono ?_
        rintro en w6 ⟨p6, rfl, hp6, hb6⟩
        have a6 := IsFs_below hb6 (IsFs_drewN a5)
        have b6 := IsFs_below hb6 (IsFs_drewN b5)
        have g26 := IsFs_below hb6 (IsFs_drewN g25)
        have h26 := IsFs_below hb6 (IsFs_drewN h25)
        have hB6 := (below_drewN hB5 _).trans (hb6.mono (by simpa using Below.size (hB5)))
        go_wp2_with fail
        refine (laws_eqFloat32S _ _ _ _ _ _ _ h26 hp6 hl2).mono ?_
        rintro en u6 ⟨rfl, m5, rfl⟩
        go_wp2
        go_ret
        exact ⟨rfl, below_drewN hB6 _⟩
end Go.Proofs.Ytkomipghfihocab

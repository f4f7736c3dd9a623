/-
Texts in one: what SwingOf stands on, part 14. Conditions: those of each.
-/
import Derived.Test.YtkdoibglgkcbkaaKSwingOf13

/-
Inner and cross products: what the program returns. Conditions: none beyond that the words fit.
-/
namespace Go.Proofs.Ytkdoibglgkcbkaa
open Go Fk Go.RowKit
set_option linter.unusedVariables false
set_option maxRecDepth 8000

def isF (c : Option Nat) (v : Value) : Prop := ∃ r, v = .float .f32 r ∧ FV .f32 r c

theorem impl_InnerOf (x y z x' y' z' : Nat) (w : World) (c d e c' d' e' : Option Nat) (h1 : FV .f32 x c) (h2 : FV .f32 y d) (h3 : FV .f32 z e) (h1' : FV .f32 x' c') (h2' : FV .f32 y' d') (h3' : FV .f32 z' e') :
    Calls Try.prog 129 #[vv x y z, vv x' y' z'] w fun en w' => ∃ a, en = .returned (.float .f32 a) ∧ FV .f32 a (fop .add .f32 (fop .add .f32 (fop .mul .f32 c c') (fop .mul .f32 d d')) (fop .mul .f32 e e')) ∧ Below w.heap.size w w' := by
  have u := Try.underlying22
  have uv := Try.underlying67
  go_enter Try.func129, Try.ntmps129
  go_wp2_with fail
  have k0 : (((w.alloc (.cells #[.float .f32 x, .float .f32 y, .float .f32 z] 67)).alloc (.cells #[.float .f32 x', .float .f32 y', .float .f32 z'] 67)).drewN 1).cell? ⟨w.heap.size, 0, none⟩ = some (.float .f32 x) := by simp
  have k1 : (((w.alloc (.cells #[.float .f32 x, .float .f32 y, .float .f32 z] 67)).alloc (.cells #[.float .f32 x', .float .f32 y', .float .f32 z'] 67)).drewN 1).cell? ⟨w.heap.size, 1, none⟩ = some (.float .f32 y) := by simp
  have k2 : (((w.alloc (.cells #[.float .f32 x, .float .f32 y, .float .f32 z] 67)).alloc (.cells #[.float .f32 x', .float .f32 y', .float .f32 z'] 67)).drewN 1).cell? ⟨w.heap.size, 2, none⟩ = some (.float .f32 z) := by simp
  have k3 : (((w.alloc (.cells #[.float .f32 x, .float .f32 y, .float .f32 z] 67)).alloc (.cells #[.float .f32 x', .float .f32 y', .float .f32 z'] 67)).drewN 1).cell? ⟨w.heap.size + 1, 0, none⟩ = some (.float .f32 x') := by simp
  have k4 : (((w.alloc (.cells #[.float .f32 x, .float .f32 y, .float .f32 z] 67)).alloc (.cells #[.float .f32 x', .float .f32 y', .float .f32 z'] 67)).drewN 1).cell? ⟨w.heap.size + 1, 1, none⟩ = some (.float .f32 y') := by simp
  have k5 : (((w.alloc (.cells #[.float .f32 x, .float .f32 y, .float .f32 z] 67)).alloc (.cells #[.float .f32 x', .float .f32 y', .float .f32 z'] 67)).drewN 1).cell? ⟨w.heap.size + 1, 2, none⟩ = some (.float .f32 z') := by simp
  refine Reg.wp_region_mix (C := fun w' => (w'.cell? ⟨w.heap.size, 0, none⟩ = some (.float .f32 x) ∧ w'.cell? ⟨w.heap.size, 1, none⟩ = some (.float .f32 y) ∧ w'.cell? ⟨w.heap.size, 2, none⟩ = some (.float .f32 z) ∧ w'.cell? ⟨w.heap.size + 1, 0, none⟩ = some (.float .f32 x') ∧ w'.cell? ⟨w.heap.size + 1, 1, none⟩ = some (.float .f32 y') ∧ w'.cell? ⟨w.heap.size + 1, 2, none⟩ = some (.float .f32 z')) ∧ Below w.heap.size w w') (G := fun _ _ => True) (R := fun i v _ => match i with | 0 => v = .pointer (some ⟨w.heap.size, 0, none⟩) | 1 => v = .float .f32 x | 2 => v = .pointer (some ⟨w.heap.size + 1, 0, none⟩) | 3 => v = .float .f32 x' | 4 => isF (fop .mul .f32 c c') v | 5 => v = .pointer (some ⟨w.heap.size, 1, none⟩) | 6 => v = .float .f32 y | 7 => v = .pointer (some ⟨w.heap.size + 1, 1, none⟩) | 8 => v = .float .f32 y' | 9 => isF (fop .mul .f32 d d') v | 10 => isF (fop .add .f32 (fop .mul .f32 c c') (fop .mul .f32 d d')) v | 11 => v = .pointer (some ⟨w.heap.size, 2, none⟩) | 12 => v = .float .f32 z | 13 => v = .pointer (some ⟨w.heap.size + 1, 2, none⟩) | 14 => v = .float .f32 z' | 15 => isF (fop .mul .f32 e e') v | 16 => isF (fop .add .f32 (fop .add .f32 (fop .mul .f32 c c') (fop .mul .f32 d d')) (fop .mul .f32 e e')) v | 17 => isF (fop .add .f32 (fop .add .f32 (fop .mul .f32 c c') (fop .mul .f32 d d')) (fop .mul .f32 e e')) v | _ => True) (T := fun _ a w' => True) [false, false, false, false, true, true, true, true, true, true, true, true, true, true, true, true, true, true, true, true, true, true]
    (by kernel_rfl) (by kernel_rfl) (by kernel_rfl) (fun _ _ _ _ _ _ h => h) ⟨⟨k0, k1, k2, k3, k4, k5⟩, below_drewN (((Below.refl _ _).alloc (Nat.le_refl _) _).alloc (by simp) _) 1⟩ ?_ ?_
  · refine ⟨Reg.Obl.mk ?_, Reg.Obl.mk ?_, Reg.Obl.mk ?_, Reg.Obl.mk ?_, Reg.Obl.mk ?_, Reg.Obl.mk ?_, Reg.Obl.mk ?_, Reg.Obl.mk ?_, Reg.Obl.mk ?_, Reg.Obl.mk ?_, Reg.Obl.mk ?_, Reg.Obl.mk ?_, Reg.Obl.mk ?_, Reg.Obl.mk ?_, Reg.Obl.mk ?_, Reg.Obl.mk ?_, Reg.Obl.mk ?_, Reg.Obl.mk ?_, trivial⟩
    · rintro a w1 ⟨hcs, hB⟩ hx hd K hK
      have hcs' := hcs
      obtain ⟨c0, c1, c2, c3, c4, c5⟩ := hcs'
      have t2 : a.tmps[2]?.getD undef = .pointer (some ⟨w.heap.size, 0, none⟩) := Reg.slot_val (hx 2 (by kernel_rfl))
      go_simp
      exact hK _ _ (fun _ => rfl) (fun h => by cases h) ⟨hcs, hB⟩ trivial
    · rintro a w1 ⟨hcs, hB⟩ hx hd K hK
      have hcs' := hcs
      obtain ⟨c0, c1, c2, c3, c4, c5⟩ := hcs'
      have t5 : a.tmps[5]?.getD undef = .pointer (some ⟨w.heap.size, 0, none⟩) := Reg.slot_val (hd 0 (by kernel_rfl) 5 rfl)
      go_simp
      exact hK _ _ (fun _ => rfl) (fun h => by cases h) ⟨hcs, hB⟩ trivial
    · rintro a w1 ⟨hcs, hB⟩ hx hd K hK
      have hcs' := hcs
      obtain ⟨c0, c1, c2, c3, c4, c5⟩ := hcs'
      have t3 : a.tmps[3]?.getD undef = .pointer (some ⟨w.heap.size + 1, 0, none⟩) := Reg.slot_val (hx 3 (by kernel_rfl))
      go_simp
      exact hK _ _ (fun _ => rfl) (fun h => by cases h) ⟨hcs, hB⟩ trivial
    · rintro a w1 ⟨hcs, hB⟩ hx hd K hK
      have hcs' := hcs
      obtain ⟨c0, c1, c2, c3, c4, c5⟩ := hcs'
      have t7 : a.tmps[7]?.getD undef = .pointer (some ⟨w.heap.size + 1, 0, none⟩) := Reg.slot_val (hd 2 (by kernel_rfl) 7 rfl)
      go_simp
      exact hK _ _ (fun _ => rfl) (fun h => by cases h) ⟨hcs, hB⟩ trivial
    · rintro a w1 ⟨hcs, hB⟩ hx hd K hK
      have hcs' := hcs
      obtain ⟨c0, c1, c2, c3, c4, c5⟩ := hcs'
      have t6 : a.tmps[6]?.getD undef = .float .f32 x := Reg.slot_val (hd 1 (by kernel_rfl) 6 rfl)
      have t8 : a.tmps[8]?.getD undef = .float .f32 x' := Reg.slot_val (hd 3 (by kernel_rfl) 8 rfl)
      go_simp
      refine (impl_product32 _ _ _ _ _ h1 h1').mono ?_
      rintro en w2 ⟨r, rfl, hr, n1, rfl⟩
      exact hK _ _ (fun _ => ⟨r, rfl, hr⟩) (fun h => by cases h) ⟨hcs, below_drewN hB _⟩ trivial
    · rintro a w1 ⟨hcs, hB⟩ hx hd K hK
      have hcs' := hcs
      obtain ⟨c0, c1, c2, c3, c4, c5⟩ := hcs'
      have t2 : a.tmps[2]?.getD undef = .pointer (some ⟨w.heap.size, 0, none⟩) := Reg.slot_val (hx 2 (by kernel_rfl))
      go_simp
      exact hK _ _ (fun _ => rfl) (fun h => by cases h) ⟨hcs, hB⟩ trivial
    · rintro a w1 ⟨hcs, hB⟩ hx hd K hK
      have hcs' := hcs
      obtain ⟨c0, c1, c2, c3, c4, c5⟩ := hcs'
      have t10 : a.tmps[10]?.getD undef = .pointer (some ⟨w.heap.size, 1, none⟩) := Reg.slot_val (hd 5 (by kernel_rfl) 10 rfl)
      go_simp
      exact hK _ _ (fun _ => rfl) (fun h => by cases h) ⟨hcs, hB⟩ trivial
    · rintro a w1 ⟨hcs, hB⟩ hx hd K hK
      have hcs' := hcs
      obtain ⟨c0, c1, c2, c3, c4, c5⟩ := hcs'
      have t3 : a.tmps[3]?.getD undef = .pointer (some ⟨w.heap.size + 1, 0, none⟩) := Reg.slot_val (hx 3 (by kernel_rfl))
      go_simp
      exact hK _ _ (fun _ => rfl) (fun h => by cases h) ⟨hcs, hB⟩ trivial
    · rintro a w1 ⟨hcs, hB⟩ hx hd K hK
      have hcs' := hcs
      obtain ⟨c0, c1, c2, c3, c4, c5⟩ := hcs'
      have t12 : a.tmps[12]?.getD undef = .pointer (some ⟨w.heap.size + 1, 1, none⟩) := Reg.slot_val (hd 7 (by kernel_rfl) 12 rfl)
      go_simp
      exact hK _ _ (fun _ => rfl) (fun h => by cases h) ⟨hcs, hB⟩ trivial
    · rintro a w1 ⟨hcs, hB⟩ hx hd K hK
      have hcs' := hcs
      obtain ⟨c0, c1, c2, c3, c4, c5⟩ := hcs'
      have t11 : a.tmps[11]?.getD undef = .float .f32 y := Reg.slot_val (hd 6 (by kernel_rfl) 11 rfl)
      have t13 : a.tmps[13]?.getD undef = .float .f32 y' := Reg.slot_val (hd 8 (by kernel_rfl) 13 rfl)
      go_simp
      refine (impl_product32 _ _ _ _ _ h2 h2').mono ?_
      rintro en w2 ⟨r, rfl, hr, n1, rfl⟩
      exact hK _ _ (fun _ => ⟨r, rfl, hr⟩) (fun h => by cases h) ⟨hcs, below_drewN hB _⟩ trivial
    · rintro a w1 ⟨hcs, hB⟩ hx hd K hK
      have hcs' := hcs
      obtain ⟨c0, c1, c2, c3, c4, c5⟩ := hcs'
      obtain ⟨r9, g9, f9⟩ := hd 4 (by kernel_rfl) 9 rfl
      have t9 := Reg.slot_val g9
      clear g9
      obtain ⟨r14, g14, f14⟩ := hd 9 (by kernel_rfl) 14 rfl
      have t14 := Reg.slot_val g14
      clear g14
      go_simp
      exact hK _ _ (fun _ => ⟨_, rfl, FV_fR f9 f14⟩) (fun h => by cases h) ⟨hcs, below_drewN hB _⟩ trivial
    · rintro a w1 ⟨hcs, hB⟩ hx hd K hK
      have hcs' := hcs
      obtain ⟨c0, c1, c2, c3, c4, c5⟩ := hcs'
      have t2 : a.tmps[2]?.getD undef = .pointer (some ⟨w.heap.size, 0, none⟩) := Reg.slot_val (hx 2 (by kernel_rfl))
      go_simp
      exact hK _ _ (fun _ => rfl) (fun h => by cases h) ⟨hcs, hB⟩ trivial
    · rintro a w1 ⟨hcs, hB⟩ hx hd K hK
      have hcs' := hcs
      obtain ⟨c0, c1, c2, c3, c4, c5⟩ := hcs'
      have t16 : a.tmps[16]?.getD undef = .pointer (some ⟨w.heap.size, 2, none⟩) := Reg.slot_val (hd 11 (by kernel_rfl) 16 rfl)
      go_simp
      exact hK _ _ (fun _ => rfl) (fun h => by cases h) ⟨hcs, hB⟩ trivial
    · rintro a w1 ⟨hcs, hB⟩ hx hd K hK
      have hcs' := hcs
      obtain ⟨c0, c1, c2, c3, c4, c5⟩ := hcs'
      have t3 : a.tmps[3]?.getD undef = .pointer (some ⟨w.heap.size + 1, 0, none⟩) := Reg.slot_val (hx 3 (by kernel_rfl))
      go_simp
      exact hK _ _ (fun _ => rfl) (fun h => by cases h) ⟨hcs, hB⟩ trivial
    · rintro a w1 ⟨hcs, hB⟩ hx hd K hK
      have hcs' := hcs
      obtain ⟨c0, c1, c2, c3, c4, c5⟩ := hcs'
      have t18 : a.tmps[18]?.getD undef = .pointer (some ⟨w.heap.size + 1, 2, none⟩) := Reg.slot_val (hd 13 (by kernel_rfl) 18 rfl)
      go_simp
      exact hK _ _ (fun _ => rfl) (fun h => by cases h) ⟨hcs, hB⟩ trivial
    · rintro a w1 ⟨hcs, hB⟩ hx hd K hK
      have hcs' := hcs
      obtain ⟨c0, c1, c2, c3, c4, c5⟩ := hcs'
      have t17 : a.tmps[17]?.getD undef = .float .f32 z := Reg.slot_val (hd 12 (by kernel_rfl) 17 rfl)
      have t19 : a.tmps[19]?.getD undef = .float .f32 z' := Reg.slot_val (hd 14 (by kernel_rfl) 19 rfl)
      go_simp
      refine (impl_product32 _ _ _ _ _ h3 h3').mono ?_
      rintro en w2 ⟨r, rfl, hr, n1, rfl⟩
      exact hK _ _ (fun _ => ⟨r, rfl, hr⟩) (fun h => by cases h) ⟨hcs, below_drewN hB _⟩ trivial
    · rintro a w1 ⟨hcs, hB⟩ hx hd K hK
      have hcs' := hcs
      obtain ⟨c0, c1, c2, c3, c4, c5⟩ := hcs'
      obtain ⟨r15, g15, f15⟩ := hd 10 (by kernel_rfl) 15 rfl
      have t15 := Reg.slot_val g15
      clear g15
      obtain ⟨r20, g20, f20⟩ := hd 15 (by kernel_rfl) 20 rfl
      have t20 := Reg.slot_val g20
      clear g20
      go_simp
      exact hK _ _ (fun _ => ⟨_, rfl, FV_fR f15 f20⟩) (fun h => by cases h) ⟨hcs, below_drewN hB _⟩ trivial
    · rintro a w1 ⟨hcs, hB⟩ hx hd K hK
      have hcs' := hcs
      obtain ⟨c0, c1, c2, c3, c4, c5⟩ := hcs'
      obtain ⟨r21, g21, f21⟩ := hd 16 (by kernel_rfl) 21 rfl
      have t21 := Reg.slot_val g21
      clear g21
      go_simp
      exact hK _ _ (fun _ => ⟨_, rfl, f21⟩) (fun h => by cases h) ⟨hcs, hB⟩ trivial
  · rintro f w1 ⟨hcs, hB⟩ hd hT
    obtain ⟨r, g, fr⟩ := hd 17 4 rfl
    simp only [Reg.mixL, g]
    go_wp2
    go_ret
    exact ⟨r, rfl, fr, hB⟩
set_option maxHeartbeats 1000000 in
theorem impl_CrossOf (x y z x' y' z' : Nat) (w : World) (c d e c' d' e' : Option Nat) (h1 : FV .f32 x c) (h2 : FV .f32 y d) (h3 : FV .f32 z e) (h1' : FV .f32 x' c') (h2' : FV .f32 y' d') (h3' : FV .f32 z' e') :
    Calls Try.prog 183 #[vv x y z, vv x' y' z'] w fun en w' => ∃ a b g, en = .returned (vv a b g) ∧ FV .f32 a (fop .sub .f32 (fop .mul .f32 d e') (fop .mul .f32 e d')) ∧ FV .f32 b (fop .sub .f32 (fop .mul .f32 e c') (fop .mul .f32 c e')) ∧ FV .f32 g (fop .sub .f32 (fop .mul .f32 c d') (fop .mul .f32 d c')) ∧ Below w.heap.size w w' := by
  have u := Try.underlying22
  have uv := Try.underlying67
  go_enter Try.func183, Try.ntmps183
  go_wp2_with fail
  have k0 : ((((w.alloc (.cells #[.float .f32 x, .float .f32 y, .float .f32 z] 67)).alloc (.cells #[.float .f32 x', .float .f32 y', .float .f32 z'] 67)).alloc (.cells #[.float .f32 0, .float .f32 0, .float .f32 0] 67)).drewN 1).cell? ⟨w.heap.size, 0, none⟩ = some (.float .f32 x) := by go_simp
  have k1 : ((((w.alloc (.cells #[.float .f32 x, .float .f32 y, .float .f32 z] 67)).alloc (.cells #[.float .f32 x', .float .f32 y', .float .f32 z'] 67)).alloc (.cells #[.float .f32 0, .float .f32 0, .float .f32 0] 67)).drewN 1).cell? ⟨w.heap.size, 1, none⟩ = some (.float .f32 y) := by go_simp
  have k2 : ((((w.alloc (.cells #[.float .f32 x, .float .f32 y, .float .f32 z] 67)).alloc (.cells #[.float .f32 x', .float .f32 y', .float .f32 z'] 67)).alloc (.cells #[.float .f32 0, .float .f32 0, .float .f32 0] 67)).drewN 1).cell? ⟨w.heap.size, 2, none⟩ = some (.float .f32 z) := by go_simp
  have k3 : ((((w.alloc (.cells #[.float .f32 x, .float .f32 y, .float .f32 z] 67)).alloc (.cells #[.float .f32 x', .float .f32 y', .float .f32 z'] 67)).alloc (.cells #[.float .f32 0, .float .f32 0, .float .f32 0] 67)).drewN 1).cell? ⟨w.heap.size + 1, 0, none⟩ = some (.float .f32 x') := by go_simp
  have k4 : ((((w.alloc (.cells #[.float .f32 x, .float .f32 y, .float .f32 z] 67)).alloc (.cells #[.float .f32 x', .float .f32 y', .float .f32 z'] 67)).alloc (.cells #[.float .f32 0, .float .f32 0, .float .f32 0] 67)).drewN 1).cell? ⟨w.heap.size + 1, 1, none⟩ = some (.float .f32 y') := by go_simp
  have k5 : ((((w.alloc (.cells #[.float .f32 x, .float .f32 y, .float .f32 z] 67)).alloc (.cells #[.float .f32 x', .float .f32 y', .float .f32 z'] 67)).alloc (.cells #[.float .f32 0, .float .f32 0, .float .f32 0] 67)).drewN 1).cell? ⟨w.heap.size + 1, 2, none⟩ = some (.float .f32 z') := by go_simp
  have k6 : ((((w.alloc (.cells #[.float .f32 x, .float .f32 y, .float .f32 z] 67)).alloc (.cells #[.float .f32 x', .float .f32 y', .float .f32 z'] 67)).alloc (.cells #[.float .f32 0, .float .f32 0, .float .f32 0] 67)).drewN 1).cell? ⟨w.heap.size + 1 + 1, 0, none⟩ = some (.float .f32 0) := by go_simp
  have k7 : ((((w.alloc (.cells #[.float .f32 x, .float .f32 y, .float .f32 z] 67)).alloc (.cells #[.float .f32 x', .float .f32 y', .float .f32 z'] 67)).alloc (.cells #[.float .f32 0, .float .f32 0, .float .f32 0] 67)).drewN 1).cell? ⟨w.heap.size + 1 + 1, 1, none⟩ = some (.float .f32 0) := by go_simp
  have k8 : ((((w.alloc (.cells #[.float .f32 x, .float .f32 y, .float .f32 z] 67)).alloc (.cells #[.float .f32 x', .float .f32 y', .float .f32 z'] 67)).alloc (.cells #[.float .f32 0, .float .f32 0, .float .f32 0] 67)).drewN 1).cell? ⟨w.heap.size + 1 + 1, 2, none⟩ = some (.float .f32 0) := by go_simp
  have k9 : ((((w.alloc (.cells #[.float .f32 x, .float .f32 y, .float .f32 z] 67)).alloc (.cells #[.float .f32 x', .float .f32 y', .float .f32 z'] 67)).alloc (.cells #[.float .f32 0, .float .f32 0, .float .f32 0] 67)).drewN 1).frozen? ⟨w.heap.size + 1 + 1, 0, none⟩ = false := by go_simp
  have k10 : ((((w.alloc (.cells #[.float .f32 x, .float .f32 y, .float .f32 z] 67)).alloc (.cells #[.float .f32 x', .float .f32 y', .float .f32 z'] 67)).alloc (.cells #[.float .f32 0, .float .f32 0, .float .f32 0] 67)).drewN 1).frozen? ⟨w.heap.size + 1 + 1, 1, none⟩ = false := by go_simp
  have k11 : ((((w.alloc (.cells #[.float .f32 x, .float .f32 y, .float .f32 z] 67)).alloc (.cells #[.float .f32 x', .float .f32 y', .float .f32 z'] 67)).alloc (.cells #[.float .f32 0, .float .f32 0, .float .f32 0] 67)).drewN 1).frozen? ⟨w.heap.size + 1 + 1, 2, none⟩ = false := by go_simp
  refine Reg.wp_region_mix (C := fun w' => (w'.cell? ⟨w.heap.size, 0, none⟩ = some (.float .f32 x) ∧ w'.cell? ⟨w.heap.size, 1, none⟩ = some (.float .f32 y) ∧ w'.cell? ⟨w.heap.size, 2, none⟩ = some (.float .f32 z) ∧ w'.cell? ⟨w.heap.size + 1, 0, none⟩ = some (.float .f32 x') ∧ w'.cell? ⟨w.heap.size + 1, 1, none⟩ = some (.float .f32 y') ∧ w'.cell? ⟨w.heap.size + 1, 2, none⟩ = some (.float .f32 z')) ∧ (∃ u0 u1 u2, w'.cell? ⟨w.heap.size + 1 + 1, 0, none⟩ = some u0 ∧ w'.cell? ⟨w.heap.size + 1 + 1, 1, none⟩ = some u1 ∧ w'.cell? ⟨w.heap.size + 1 + 1, 2, none⟩ = some u2) ∧ (w'.frozen? ⟨w.heap.size + 1 + 1, 0, none⟩ = false ∧ w'.frozen? ⟨w.heap.size + 1 + 1, 1, none⟩ = false ∧ w'.frozen? ⟨w.heap.size + 1 + 1, 2, none⟩ = false) ∧ Below w.heap.size w w') (G := fun _ _ => True) (R := fun i v _ => match i with | 0 => v = .pointer (some ⟨w.heap.size, 1, none⟩) | 1 => v = .float .f32 y | 2 => v = .pointer (some ⟨w.heap.size + 1, 2, none⟩) | 3 => v = .float .f32 z' | 4 => isF (fop .mul .f32 d e') v | 5 => v = .pointer (some ⟨w.heap.size, 2, none⟩) | 6 => v = .float .f32 z | 7 => v = .pointer (some ⟨w.heap.size + 1, 1, none⟩) | 8 => v = .float .f32 y' | 9 => isF (fop .mul .f32 e d') v | 10 => isF (fop .sub .f32 (fop .mul .f32 d e') (fop .mul .f32 e d')) v | 11 => v = .pointer (some ⟨w.heap.size, 2, none⟩) | 12 => v = .float .f32 z | 13 => v = .pointer (some ⟨w.heap.size + 1, 0, none⟩) | 14 => v = .float .f32 x' | 15 => isF (fop .mul .f32 e c') v | 16 => v = .pointer (some ⟨w.heap.size, 0, none⟩) | 17 => v = .float .f32 x | 18 => v = .pointer (some ⟨w.heap.size + 1, 2, none⟩) | 19 => v = .float .f32 z' | 20 => isF (fop .mul .f32 c e') v | 21 => isF (fop .sub .f32 (fop .mul .f32 e c') (fop .mul .f32 c e')) v | 22 => v = .pointer (some ⟨w.heap.size, 0, none⟩) | 23 => v = .float .f32 x | 24 => v = .pointer (some ⟨w.heap.size + 1, 1, none⟩) | 25 => v = .float .f32 y' | 26 => isF (fop .mul .f32 c d') v | 27 => v = .pointer (some ⟨w.heap.size, 1, none⟩) | 28 => v = .float .f32 y | 29 => v = .pointer (some ⟨w.heap.size + 1, 0, none⟩) | 30 => v = .float .f32 x' | 31 => isF (fop .mul .f32 d c') v | 32 => isF (fop .sub .f32 (fop .mul .f32 c d') (fop .mul .f32 d c')) v | 33 => ∃ a b g, v = vv a b g ∧ FV .f32 a (fop .sub .f32 (fop .mul .f32 d e') (fop .mul .f32 e d')) ∧ FV .f32 b (fop .sub .f32 (fop .mul .f32 e c') (fop .mul .f32 c e')) ∧ FV .f32 g (fop .sub .f32 (fop .mul .f32 c d') (fop .mul .f32 d c')) | 34 => True | _ => True) (T := fun _ a w' => ∃ a b g, w'.cell? ⟨w.heap.size + 1 + 1, 0, none⟩ = some (.float .f32 a) ∧ w'.cell? ⟨w.heap.size + 1 + 1, 1, none⟩ = some (.float .f32 b) ∧ w'.cell? ⟨w.heap.size + 1 + 1, 2, none⟩ = some (.float .f32 g) ∧ FV .f32 a (fop .sub .f32 (fop .mul .f32 d e') (fop .mul .f32 e d')) ∧ FV .f32 b (fop .sub .f32 (fop .mul .f32 e c') (fop .mul .f32 c e')) ∧ FV .f32 g (fop .sub .f32 (fop .mul .f32 c d') (fop .mul .f32 d c'))) [false, false, false, false, false, true, true, true, true, true, true, true, true, true, true, true, true, true, true, true, true, true, true, true, true, true, true, true, true, true, true, true, true, true, true, true, true, true, true]
    (by kernel_rfl) (by kernel_rfl) (by kernel_rfl) (fun _ _ _ _ _ _ h => h) ⟨⟨k0, k1, k2, k3, k4, k5⟩, ⟨_, _, _, k6, k7, k8⟩, ⟨k9, k10, k11⟩, below_drewN ((((Below.refl _ _).alloc (Nat.le_refl _) _).alloc (by simp) _).alloc (by simp; omega) _) 1⟩ ?_ ?_
  · refine ⟨Reg.Obl.mk ?_, Reg.Obl.mk ?_, Reg.Obl.mk ?_, Reg.Obl.mk ?_, Reg.Obl.mk ?_, Reg.Obl.mk ?_, Reg.Obl.mk ?_, Reg.Obl.mk ?_, Reg.Obl.mk ?_, Reg.Obl.mk ?_, Reg.Obl.mk ?_, Reg.Obl.mk ?_, Reg.Obl.mk ?_, Reg.Obl.mk ?_, Reg.Obl.mk ?_, Reg.Obl.mk ?_, Reg.Obl.mk ?_, Reg.Obl.mk ?_, Reg.Obl.mk ?_, Reg.Obl.mk ?_, Reg.Obl.mk ?_, Reg.Obl.mk ?_, Reg.Obl.mk ?_, Reg.Obl.mk ?_, Reg.Obl.mk ?_, Reg.Obl.mk ?_, Reg.Obl.mk ?_, Reg.Obl.mk ?_, Reg.Obl.mk ?_, Reg.Obl.mk ?_, Reg.Obl.mk ?_, Reg.Obl.mk ?_, Reg.Obl.mk ?_, Reg.Obl.mk ?_, Reg.Obl.mk ?_, trivial⟩
    · rintro a w1 ⟨hcs, hrb, hfz, hB⟩ hx hd K hK
      have hcs' := hcs
      obtain ⟨c0, c1, c2, c3, c4, c5⟩ := hcs'
      have t2 : a.tmps[2]?.getD undef = .pointer (some ⟨w.heap.size, 0, none⟩) := Reg.slot_val (hx 2 (by kernel_rfl))
      go_simp
      exact hK _ _ (fun _ => rfl) (fun h => by cases h) ⟨hcs, hrb, hfz, hB⟩ trivial
    · rintro a w1 ⟨hcs, hrb, hfz, hB⟩ hx hd K hK
      have hcs' := hcs
      obtain ⟨c0, c1, c2, c3, c4, c5⟩ := hcs'
      have t5 : a.tmps[5]?.getD undef = .pointer (some ⟨w.heap.size, 1, none⟩) := Reg.slot_val (hd 0 (by kernel_rfl) 5 rfl)
      go_simp
      exact hK _ _ (fun _ => rfl) (fun h => by cases h) ⟨hcs, hrb, hfz, hB⟩ trivial
    · rintro a w1 ⟨hcs, hrb, hfz, hB⟩ hx hd K hK
      have hcs' := hcs
      obtain ⟨c0, c1, c2, c3, c4, c5⟩ := hcs'
      have t3 : a.tmps[3]?.getD undef = .pointer (some ⟨w.heap.size + 1, 0, none⟩) := Reg.slot_val (hx 3 (by kernel_rfl))
      go_simp
      exact hK _ _ (fun _ => rfl) (fun h => by cases h) ⟨hcs, hrb, hfz, hB⟩ trivial
    · rintro a w1 ⟨hcs, hrb, hfz, hB⟩ hx hd K hK
      have hcs' := hcs
      obtain ⟨c0, c1, c2, c3, c4, c5⟩ := hcs'
      have t7 : a.tmps[7]?.getD undef = .pointer (some ⟨w.heap.size + 1, 2, none⟩) := Reg.slot_val (hd 2 (by kernel_rfl) 7 rfl)
      go_simp
      exact hK _ _ (fun _ => rfl) (fun h => by cases h) ⟨hcs, hrb, hfz, hB⟩ trivial
    · rintro a w1 ⟨hcs, hrb, hfz, hB⟩ hx hd K hK
      have hcs' := hcs
      obtain ⟨c0, c1, c2, c3, c4, c5⟩ := hcs'
      have t6 : a.tmps[6]?.getD undef = .float .f32 y := Reg.slot_val (hd 1 (by kernel_rfl) 6 rfl)
      have t8 : a.tmps[8]?.getD undef = .float .f32 z' := Reg.slot_val (hd 3 (by kernel_rfl) 8 rfl)
      go_simp
      refine (impl_product32 _ _ _ _ _ h2 h3').mono ?_
      rintro en w2 ⟨r, rfl, hr, n1, rfl⟩
      exact hK _ _ (fun _ => ⟨r, rfl, hr⟩) (fun h => by cases h) ⟨hcs, hrb, hfz, below_drewN hB _⟩ trivial
    · rintro a w1 ⟨hcs, hrb, hfz, hB⟩ hx hd K hK
      have hcs' := hcs
      obtain ⟨c0, c1, c2, c3, c4, c5⟩ := hcs'
      have t2 : a.tmps[2]?.getD undef = .pointer (some ⟨w.heap.size, 0, none⟩) := Reg.slot_val (hx 2 (by kernel_rfl))
      go_simp
      exact hK _ _ (fun _ => rfl) (fun h => by cases h) ⟨hcs, hrb, hfz, hB⟩ trivial
    · rintro a w1 ⟨hcs, hrb, hfz, hB⟩ hx hd K hK
      have hcs' := hcs
      obtain ⟨c0, c1, c2, c3, c4, c5⟩ := hcs'
      have t10 : a.tmps[10]?.getD undef = .pointer (some ⟨w.heap.size, 2, none⟩) := Reg.slot_val (hd 5 (by kernel_rfl) 10 rfl)
      go_simp
      exact hK _ _ (fun _ => rfl) (fun h => by cases h) ⟨hcs, hrb, hfz, hB⟩ trivial
    · rintro a w1 ⟨hcs, hrb, hfz, hB⟩ hx hd K hK
      have hcs' := hcs
      obtain ⟨c0, c1, c2, c3, c4, c5⟩ := hcs'
      have t3 : a.tmps[3]?.getD undef = .pointer (some ⟨w.heap.size + 1, 0, none⟩) := Reg.slot_val (hx 3 (by kernel_rfl))
      go_simp
      exact hK _ _ (fun _ => rfl) (fun h => by cases h) ⟨hcs, hrb, hfz, hB⟩ trivial
    · rintro a w1 ⟨hcs, hrb, hfz, hB⟩ hx hd K hK
      have hcs' := hcs
      obtain ⟨c0, c1, c2, c3, c4, c5⟩ := hcs'
      have t12 : a.tmps[12]?.getD undef = .pointer (some ⟨w.heap.size + 1, 1, none⟩) := Reg.slot_val (hd 7 (by kernel_rfl) 12 rfl)
      go_simp
      exact hK _ _ (fun _ => rfl) (fun h => by cases h) ⟨hcs, hrb, hfz, hB⟩ trivial
    · rintro a w1 ⟨hcs, hrb, hfz, hB⟩ hx hd K hK
      have hcs' := hcs
      obtain ⟨c0, c1, c2, c3, c4, c5⟩ := hcs'
      have t11 : a.tmps[11]?.getD undef = .float .f32 z := Reg.slot_val (hd 6 (by kernel_rfl) 11 rfl)
      have t13 : a.tmps[13]?.getD undef = .float .f32 y' := Reg.slot_val (hd 8 (by kernel_rfl) 13 rfl)
      go_simp
      refine (impl_product32 _ _ _ _ _ h3 h2').mono ?_
      rintro en w2 ⟨r, rfl, hr, n1, rfl⟩
      exact hK _ _ (fun _ => ⟨r, rfl, hr⟩) (fun h => by cases h) ⟨hcs, hrb, hfz, below_drewN hB _⟩ trivial
    · rintro a w1 ⟨hcs, hrb, hfz, hB⟩ hx hd K hK
      have hcs' := hcs
      obtain ⟨c0, c1, c2, c3, c4, c5⟩ := hcs'
      obtain ⟨r9, g9, f9⟩ := hd 4 (by kernel_rfl) 9 rfl
      have t9 := Reg.slot_val g9
      clear g9
      obtain ⟨r14, g14, f14⟩ := hd 9 (by kernel_rfl) 14 rfl
      have t14 := Reg.slot_val g14
      clear g14
      go_simp
      exact hK _ _ (fun _ => ⟨_, rfl, FV_fR f9 f14⟩) (fun h => by cases h) ⟨hcs, hrb, hfz, below_drewN hB _⟩ trivial
    · rintro a w1 ⟨hcs, hrb, hfz, hB⟩ hx hd K hK
      have hcs' := hcs
      obtain ⟨c0, c1, c2, c3, c4, c5⟩ := hcs'
      have t2 : a.tmps[2]?.getD undef = .pointer (some ⟨w.heap.size, 0, none⟩) := Reg.slot_val (hx 2 (by kernel_rfl))
      go_simp
      exact hK _ _ (fun _ => rfl) (fun h => by cases h) ⟨hcs, hrb, hfz, hB⟩ trivial
    · rintro a w1 ⟨hcs, hrb, hfz, hB⟩ hx hd K hK
      have hcs' := hcs
      obtain ⟨c0, c1, c2, c3, c4, c5⟩ := hcs'
      have t16 : a.tmps[16]?.getD undef = .pointer (some ⟨w.heap.size, 2, none⟩) := Reg.slot_val (hd 11 (by kernel_rfl) 16 rfl)
      go_simp
      exact hK _ _ (fun _ => rfl) (fun h => by cases h) ⟨hcs, hrb, hfz, hB⟩ trivial
    · rintro a w1 ⟨hcs, hrb, hfz, hB⟩ hx hd K hK
      have hcs' := hcs
      obtain ⟨c0, c1, c2, c3, c4, c5⟩ := hcs'
      have t3 : a.tmps[3]?.getD undef = .pointer (some ⟨w.heap.size + 1, 0, none⟩) := Reg.slot_val (hx 3 (by kernel_rfl))
      go_simp
      exact hK _ _ (fun _ => rfl) (fun h => by cases h) ⟨hcs, hrb, hfz, hB⟩ trivial
    · rintro a w1 ⟨hcs, hrb, hfz, hB⟩ hx hd K hK
      have hcs' := hcs
      obtain ⟨c0, c1, c2, c3, c4, c5⟩ := hcs'
      have t18 : a.tmps[18]?.getD undef = .pointer (some ⟨w.heap.size + 1, 0, none⟩) := Reg.slot_val (hd 13 (by kernel_rfl) 18 rfl)
      go_simp
      exact hK _ _ (fun _ => rfl) (fun h => by cases h) ⟨hcs, hrb, hfz, hB⟩ trivial
    · rintro a w1 ⟨hcs, hrb, hfz, hB⟩ hx hd K hK
      have hcs' := hcs
      obtain ⟨c0, c1, c2, c3, c4, c5⟩ := hcs'
      have t17 : a.tmps[17]?.getD undef = .float .f32 z := Reg.slot_val (hd 12 (by kernel_rfl) 17 rfl)
      have t19 : a.tmps[19]?.getD undef = .float .f32 x' := Reg.slot_val (hd 14 (by kernel_rfl) 19 rfl)
      go_simp
      refine (impl_product32 _ _ _ _ _ h3 h1').mono ?_
      rintro en w2 ⟨r, rfl, hr, n1, rfl⟩
      exact hK _ _ (fun _ => ⟨r, rfl, hr⟩) (fun h => by cases h) ⟨hcs, hrb, hfz, below_drewN hB _⟩ trivial
    · rintro a w1 ⟨hcs, hrb, hfz, hB⟩ hx hd K hK
      have hcs' := hcs
      obtain ⟨c0, c1, c2, c3, c4, c5⟩ := hcs'
      have t2 : a.tmps[2]?.getD undef = .pointer (some ⟨w.heap.size, 0, none⟩) := Reg.slot_val (hx 2 (by kernel_rfl))
      go_simp
      exact hK _ _ (fun _ => rfl) (fun h => by cases h) ⟨hcs, hrb, hfz, hB⟩ trivial
    · rintro a w1 ⟨hcs, hrb, hfz, hB⟩ hx hd K hK
      have hcs' := hcs
      obtain ⟨c0, c1, c2, c3, c4, c5⟩ := hcs'
      have t21 : a.tmps[21]?.getD undef = .pointer (some ⟨w.heap.size, 0, none⟩) := Reg.slot_val (hd 16 (by kernel_rfl) 21 rfl)
      go_simp
      exact hK _ _ (fun _ => rfl) (fun h => by cases h) ⟨hcs, hrb, hfz, hB⟩ trivial
    · rintro a w1 ⟨hcs, hrb, hfz, hB⟩ hx hd K hK
      have hcs' := hcs
      obtain ⟨c0, c1, c2, c3, c4, c5⟩ := hcs'
      have t3 : a.tmps[3]?.getD undef = .pointer (some ⟨w.heap.size + 1, 0, none⟩) := Reg.slot_val (hx 3 (by kernel_rfl))
      go_simp
      exact hK _ _ (fun _ => rfl) (fun h => by cases h) ⟨hcs, hrb, hfz, hB⟩ trivial
    · rintro a w1 ⟨hcs, hrb, hfz, hB⟩ hx hd K hK
      have hcs' := hcs
      obtain ⟨c0, c1, c2, c3, c4, c5⟩ := hcs'
      have t23 : a.tmps[23]?.getD undef = .pointer (some ⟨w.heap.size + 1, 2, none⟩) := Reg.slot_val (hd 18 (by kernel_rfl) 23 rfl)
      go_simp
      exact hK _ _ (fun _ => rfl) (fun h => by cases h) ⟨hcs, hrb, hfz, hB⟩ trivial
    · rintro a w1 ⟨hcs, hrb, hfz, hB⟩ hx hd K hK
      have hcs' := hcs
      obtain ⟨c0, c1, c2, c3, c4, c5⟩ := hcs'
      have t22 : a.tmps[22]?.getD undef = .float .f32 x := Reg.slot_val (hd 17 (by kernel_rfl) 22 rfl)
      have t24 : a.tmps[24]?.getD undef = .float .f32 z' := Reg.slot_val (hd 19 (by kernel_rfl) 24 rfl)
      go_simp
      refine (impl_product32 _ _ _ _ _ h1 h3').mono ?_
      rintro en w2 ⟨r, rfl, hr, n1, rfl⟩
      exact hK _ _ (fun _ => ⟨r, rfl, hr⟩) (fun h => by cases h) ⟨hcs, hrb, hfz, below_drewN hB _⟩ trivial
    · rintro a w1 ⟨hcs, hrb, hfz, hB⟩ hx hd K hK
      have hcs' := hcs
      obtain ⟨c0, c1, c2, c3, c4, c5⟩ := hcs'
      obtain ⟨r20, g20, f20⟩ := hd 15 (by kernel_rfl) 20 rfl
      have t20 := Reg.slot_val g20
      clear g20
      obtain ⟨r25, g25, f25⟩ := hd 20 (by kernel_rfl) 25 rfl
      have t25 := Reg.slot_val g25
      clear g25
      go_simp
      exact hK _ _ (fun _ => ⟨_, rfl, FV_fR f20 f25⟩) (fun h => by cases h) ⟨hcs, hrb, hfz, below_drewN hB _⟩ trivial
    · rintro a w1 ⟨hcs, hrb, hfz, hB⟩ hx hd K hK
      have hcs' := hcs
      obtain ⟨c0, c1, c2, c3, c4, c5⟩ := hcs'
      have t2 : a.tmps[2]?.getD undef = .pointer (some ⟨w.heap.size, 0, none⟩) := Reg.slot_val (hx 2 (by kernel_rfl))
      go_simp
      exact hK _ _ (fun _ => rfl) (fun h => by cases h) ⟨hcs, hrb, hfz, hB⟩ trivial
    · rintro a w1 ⟨hcs, hrb, hfz, hB⟩ hx hd K hK
      have hcs' := hcs
      obtain ⟨c0, c1, c2, c3, c4, c5⟩ := hcs'
      have t27 : a.tmps[27]?.getD undef = .pointer (some ⟨w.heap.size, 0, none⟩) := Reg.slot_val (hd 22 (by kernel_rfl) 27 rfl)
      go_simp
      exact hK _ _ (fun _ => rfl) (fun h => by cases h) ⟨hcs, hrb, hfz, hB⟩ trivial
    · rintro a w1 ⟨hcs, hrb, hfz, hB⟩ hx hd K hK
      have hcs' := hcs
      obtain ⟨c0, c1, c2, c3, c4, c5⟩ := hcs'
      have t3 : a.tmps[3]?.getD undef = .pointer (some ⟨w.heap.size + 1, 0, none⟩) := Reg.slot_val (hx 3 (by kernel_rfl))
      go_simp
      exact hK _ _ (fun _ => rfl) (fun h => by cases h) ⟨hcs, hrb, hfz, hB⟩ trivial
    · rintro a w1 ⟨hcs, hrb, hfz, hB⟩ hx hd K hK
      have hcs' := hcs
      obtain ⟨c0, c1, c2, c3, c4, c5⟩ := hcs'
      have t29 : a.tmps[29]?.getD undef = .pointer (some ⟨w.heap.size + 1, 1, none⟩) := Reg.slot_val (hd 24 (by kernel_rfl) 29 rfl)
      go_simp
      exact hK _ _ (fun _ => rfl) (fun h => by cases h) ⟨hcs, hrb, hfz, hB⟩ trivial
    · rintro a w1 ⟨hcs, hrb, hfz, hB⟩ hx hd K hK
      have hcs' := hcs
      obtain ⟨c0, c1, c2, c3, c4, c5⟩ := hcs'
      have t28 : a.tmps[28]?.getD undef = .float .f32 x := Reg.slot_val (hd 23 (by kernel_rfl) 28 rfl)
      have t30 : a.tmps[30]?.getD undef = .float .f32 y' := Reg.slot_val (hd 25 (by kernel_rfl) 30 rfl)
      go_simp
      refine (impl_product32 _ _ _ _ _ h1 h2').mono ?_
      rintro en w2 ⟨r, rfl, hr, n1, rfl⟩
      exact hK _ _ (fun _ => ⟨r, rfl, hr⟩) (fun h => by cases h) ⟨hcs, hrb, hfz, below_drewN hB _⟩ trivial
    · rintro a w1 ⟨hcs, hrb, hfz, hB⟩ hx hd K hK
      have hcs' := hcs
      obtain ⟨c0, c1, c2, c3, c4, c5⟩ := hcs'
      have t2 : a.tmps[2]?.getD undef = .pointer (some ⟨w.heap.size, 0, none⟩) := Reg.slot_val (hx 2 (by kernel_rfl))
      go_simp
      exact hK _ _ (fun _ => rfl) (fun h => by cases h) ⟨hcs, hrb, hfz, hB⟩ trivial
    · rintro a w1 ⟨hcs, hrb, hfz, hB⟩ hx hd K hK
      have hcs' := hcs
      obtain ⟨c0, c1, c2, c3, c4, c5⟩ := hcs'
      have t32 : a.tmps[32]?.getD undef = .pointer (some ⟨w.heap.size, 1, none⟩) := Reg.slot_val (hd 27 (by kernel_rfl) 32 rfl)
      go_simp
      exact hK _ _ (fun _ => rfl) (fun h => by cases h) ⟨hcs, hrb, hfz, hB⟩ trivial
    · rintro a w1 ⟨hcs, hrb, hfz, hB⟩ hx hd K hK
      have hcs' := hcs
      obtain ⟨c0, c1, c2, c3, c4, c5⟩ := hcs'
      have t3 : a.tmps[3]?.getD undef = .pointer (some ⟨w.heap.size + 1, 0, none⟩) := Reg.slot_val (hx 3 (by kernel_rfl))
      go_simp
      exact hK _ _ (fun _ => rfl) (fun h => by cases h) ⟨hcs, hrb, hfz, hB⟩ trivial
    · rintro a w1 ⟨hcs, hrb, hfz, hB⟩ hx hd K hK
      have hcs' := hcs
      obtain ⟨c0, c1, c2, c3, c4, c5⟩ := hcs'
      have t34 : a.tmps[34]?.getD undef = .pointer (some ⟨w.heap.size + 1, 0, none⟩) := Reg.slot_val (hd 29 (by kernel_rfl) 34 rfl)
      go_simp
      exact hK _ _ (fun _ => rfl) (fun h => by cases h) ⟨hcs, hrb, hfz, hB⟩ trivial
    · rintro a w1 ⟨hcs, hrb, hfz, hB⟩ hx hd K hK
      have hcs' := hcs
      obtain ⟨c0, c1, c2, c3, c4, c5⟩ := hcs'
      have t33 : a.tmps[33]?.getD undef = .float .f32 y := Reg.slot_val (hd 28 (by kernel_rfl) 33 rfl)
      have t35 : a.tmps[35]?.getD undef = .float .f32 x' := Reg.slot_val (hd 30 (by kernel_rfl) 35 rfl)
      go_simp
      refine (impl_product32 _ _ _ _ _ h2 h1').mono ?_
      rintro en w2 ⟨r, rfl, hr, n1, rfl⟩
      exact hK _ _ (fun _ => ⟨r, rfl, hr⟩) (fun h => by cases h) ⟨hcs, hrb, hfz, below_drewN hB _⟩ trivial
    · rintro a w1 ⟨hcs, hrb, hfz, hB⟩ hx hd K hK
      have hcs' := hcs
      obtain ⟨c0, c1, c2, c3, c4, c5⟩ := hcs'
      obtain ⟨r31, g31, f31⟩ := hd 26 (by kernel_rfl) 31 rfl
      have t31 := Reg.slot_val g31
      clear g31
      obtain ⟨r36, g36, f36⟩ := hd 31 (by kernel_rfl) 36 rfl
      have t36 := Reg.slot_val g36
      clear g36
      go_simp
      exact hK _ _ (fun _ => ⟨_, rfl, FV_fR f31 f36⟩) (fun h => by cases h) ⟨hcs, hrb, hfz, below_drewN hB _⟩ trivial
    · rintro a w1 ⟨hcs, hrb, hfz, hB⟩ hx hd K hK
      have hcs' := hcs
      obtain ⟨c0, c1, c2, c3, c4, c5⟩ := hcs'
      obtain ⟨r15, g15, f15⟩ := hd 10 (by kernel_rfl) 15 rfl
      have t15 := Reg.slot_val g15
      clear g15
      obtain ⟨r26, g26, f26⟩ := hd 21 (by kernel_rfl) 26 rfl
      have t26 := Reg.slot_val g26
      clear g26
      obtain ⟨r37, g37, f37⟩ := hd 32 (by kernel_rfl) 37 rfl
      have t37 := Reg.slot_val g37
      clear g37
      go_simp
      exact hK _ _ (fun _ => ⟨_, _, _, rfl, f15, f26, f37⟩) (fun h => by cases h) ⟨hcs, hrb, hfz, hB⟩ trivial
    · rintro a w1 ⟨hcs, hrb, hfz, hB⟩ hx hd K hK
      have hcs' := hcs
      obtain ⟨c0, c1, c2, c3, c4, c5⟩ := hcs'
      have t4 : a.tmps[4]?.getD undef = .pointer (some ⟨w.heap.size + 1 + 1, 0, none⟩) := Reg.slot_val (hx 4 (by kernel_rfl))
      obtain ⟨r38, p38, q38, g38, f38⟩ := hd 33 (by kernel_rfl) 38 rfl
      have t38 := Reg.slot_val g38
      clear g38
      obtain ⟨u0, u1, u2, q0, q1, q2⟩ := hrb
      obtain ⟨z0, z1, z2⟩ := hfz
      go_simp
      have s3 := set3 (u := .float .f32 r38) (v := .float .f32 p38) (t := .float .f32 q38) q0 q1 q2
      refine hK undef _ (fun h => absurd rfl h) (fun _ => ⟨r38, p38, q38, s3.1, s3.2.1, s3.2.2, f38⟩) ⟨⟨cell_set (by first | omega | (simp <;> omega)) (cell_set (by first | omega | (simp <;> omega)) (cell_set (by first | omega | (simp <;> omega)) c0)), cell_set (by first | omega | (simp <;> omega)) (cell_set (by first | omega | (simp <;> omega)) (cell_set (by first | omega | (simp <;> omega)) c1)), cell_set (by first | omega | (simp <;> omega)) (cell_set (by first | omega | (simp <;> omega)) (cell_set (by first | omega | (simp <;> omega)) c2)), cell_set (by first | omega | (simp <;> omega)) (cell_set (by first | omega | (simp <;> omega)) (cell_set (by first | omega | (simp <;> omega)) c3)), cell_set (by first | omega | (simp <;> omega)) (cell_set (by first | omega | (simp <;> omega)) (cell_set (by first | omega | (simp <;> omega)) c4)), cell_set (by first | omega | (simp <;> omega)) (cell_set (by first | omega | (simp <;> omega)) (cell_set (by first | omega | (simp <;> omega)) c5))⟩, ⟨_, _, _, s3⟩, ⟨by simp [z0], by simp [z1], by simp [z2]⟩, below_set3 hB (by first | omega | (simp <;> omega))⟩ trivial
  · rintro f w1 ⟨hcs, hrb, hfz, hB⟩ hd hT
    obtain ⟨a, b, g, s0, s1, s2, fa, fb, fg⟩ := hT 34 rfl (by decide)
    simp only [Reg.mixL]
    go_wp2
    refine bodyPost_ret (v := vv a b g) (by simp [results, Try.results183, go_sem, s0, s1, s2]) rfl ⟨_, _, _, rfl, fa, fb, fg, hB⟩
end Go.Proofs.Ytkdoibglgkcbkaa


/-
Between two vectors, and lengths: what the program and its model return. Conditions: none beyond that the words fit.
-/
namespace Go.Proofs.Ytkdoibglgkcbkaa
open Go Fk Go.RowKit
set_option linter.unusedVariables false

set_option maxHeartbeats 1000000 in
theorem impl_BetweenVectors (x y z x' y' z' r : Nat) (w : World) (c d e c' d' e' q : Option Nat) (h1 : FV .f32 x c) (h2 : FV .f32 y d) (h3 : FV .f32 z e) (h1' : FV .f32 x' c') (h2' : FV .f32 y' d') (h3' : FV .f32 z' e') (hr : FV .f32 r q) :
    Calls Try.prog 96 #[vv x y z, vv x' y' z', .float .f32 r] w fun en w' => ∃ a b g, en = .returned (vv a b g) ∧ FV .f32 a (fop .add .f32 c (fop .mul .f32 (fop .sub .f32 c' c) q)) ∧ FV .f32 b (fop .add .f32 d (fop .mul .f32 (fop .sub .f32 d' d) q)) ∧ FV .f32 g (fop .add .f32 e (fop .mul .f32 (fop .sub .f32 e' e) q)) ∧ Below w.heap.size w w' := by
  have u := Try.underlying22
  have uv := Try.underlying67
  go_enter Try.func96, Try.ntmps96
  go_wp2_with fail
  have c0 : (((w.alloc (.cells #[.float .f32 x, .float .f32 y, .float .f32 z] 67)).alloc (.cells #[.float .f32 x', .float .f32 y', .float .f32 z'] 67)).alloc (.cells #[.float .f32 0, .float .f32 0, .float .f32 0] 67)).cell? ⟨w.heap.size, 0, none⟩ = some (.float .f32 x) := by go_simp
  have c1 : (((w.alloc (.cells #[.float .f32 x, .float .f32 y, .float .f32 z] 67)).alloc (.cells #[.float .f32 x', .float .f32 y', .float .f32 z'] 67)).alloc (.cells #[.float .f32 0, .float .f32 0, .float .f32 0] 67)).cell? ⟨w.heap.size, 1, none⟩ = some (.float .f32 y) := by go_simp
  have c2 : (((w.alloc (.cells #[.float .f32 x, .float .f32 y, .float .f32 z] 67)).alloc (.cells #[.float .f32 x', .float .f32 y', .float .f32 z'] 67)).alloc (.cells #[.float .f32 0, .float .f32 0, .float .f32 0] 67)).cell? ⟨w.heap.size, 2, none⟩ = some (.float .f32 z) := by go_simp
  have c3 : (((w.alloc (.cells #[.float .f32 x, .float .f32 y, .float .f32 z] 67)).alloc (.cells #[.float .f32 x', .float .f32 y', .float .f32 z'] 67)).alloc (.cells #[.float .f32 0, .float .f32 0, .float .f32 0] 67)).cell? ⟨w.heap.size + 1, 0, none⟩ = some (.float .f32 x') := by go_simp
  have c4 : (((w.alloc (.cells #[.float .f32 x, .float .f32 y, .float .f32 z] 67)).alloc (.cells #[.float .f32 x', .float .f32 y', .float .f32 z'] 67)).alloc (.cells #[.float .f32 0, .float .f32 0, .float .f32 0] 67)).cell? ⟨w.heap.size + 1, 1, none⟩ = some (.float .f32 y') := by go_simp
  have c5 : (((w.alloc (.cells #[.float .f32 x, .float .f32 y, .float .f32 z] 67)).alloc (.cells #[.float .f32 x', .float .f32 y', .float .f32 z'] 67)).alloc (.cells #[.float .f32 0, .float .f32 0, .float .f32 0] 67)).cell? ⟨w.heap.size + 1, 2, none⟩ = some (.float .f32 z') := by go_simp
  have q0 : (((w.alloc (.cells #[.float .f32 x, .float .f32 y, .float .f32 z] 67)).alloc (.cells #[.float .f32 x', .float .f32 y', .float .f32 z'] 67)).alloc (.cells #[.float .f32 0, .float .f32 0, .float .f32 0] 67)).cell? ⟨w.heap.size + 1 + 1, 0, none⟩ = some (.float .f32 0) := by go_simp
  have z0 : (((w.alloc (.cells #[.float .f32 x, .float .f32 y, .float .f32 z] 67)).alloc (.cells #[.float .f32 x', .float .f32 y', .float .f32 z'] 67)).alloc (.cells #[.float .f32 0, .float .f32 0, .float .f32 0] 67)).frozen? ⟨w.heap.size + 1 + 1, 0, none⟩ = false := by go_simp
  have q1 : (((w.alloc (.cells #[.float .f32 x, .float .f32 y, .float .f32 z] 67)).alloc (.cells #[.float .f32 x', .float .f32 y', .float .f32 z'] 67)).alloc (.cells #[.float .f32 0, .float .f32 0, .float .f32 0] 67)).cell? ⟨w.heap.size + 1 + 1, 1, none⟩ = some (.float .f32 0) := by go_simp
  have z1 : (((w.alloc (.cells #[.float .f32 x, .float .f32 y, .float .f32 z] 67)).alloc (.cells #[.float .f32 x', .float .f32 y', .float .f32 z'] 67)).alloc (.cells #[.float .f32 0, .float .f32 0, .float .f32 0] 67)).frozen? ⟨w.heap.size + 1 + 1, 1, none⟩ = false := by go_simp
  have q2 : (((w.alloc (.cells #[.float .f32 x, .float .f32 y, .float .f32 z] 67)).alloc (.cells #[.float .f32 x', .float .f32 y', .float .f32 z'] 67)).alloc (.cells #[.float .f32 0, .float .f32 0, .float .f32 0] 67)).cell? ⟨w.heap.size + 1 + 1, 2, none⟩ = some (.float .f32 0) := by go_simp
  have z2 : (((w.alloc (.cells #[.float .f32 x, .float .f32 y, .float .f32 z] 67)).alloc (.cells #[.float .f32 x', .float .f32 y', .float .f32 z'] 67)).alloc (.cells #[.float .f32 0, .float .f32 0, .float .f32 0] 67)).frozen? ⟨w.heap.size + 1 + 1, 2, none⟩ = false := by go_simp
  have hs : w.heap.size + 1 + 1 < (((w.alloc (.cells #[.float .f32 x, .float .f32 y, .float .f32 z] 67)).alloc (.cells #[.float .f32 x', .float .f32 y', .float .f32 z'] 67)).alloc (.cells #[.float .f32 0, .float .f32 0, .float .f32 0] 67)).heap.size := by simp
  have hB0 : Below w.heap.size w (((w.alloc (.cells #[.float .f32 x, .float .f32 y, .float .f32 z] 67)).alloc (.cells #[.float .f32 x', .float .f32 y', .float .f32 z'] 67)).alloc (.cells #[.float .f32 0, .float .f32 0, .float .f32 0] 67)) := (((Below.refl _ _).alloc (Nat.le_refl _) _).alloc (by simp) _).alloc (by simp; omega) _
  generalize ((w.alloc (.cells #[.float .f32 x, .float .f32 y, .float .f32 z] 67)).alloc (.cells #[.float .f32 x', .float .f32 y', .float .f32 z'] 67)).alloc (.cells #[.float .f32 0, .float .f32 0, .float .f32 0] 67) = w0 at *
  go_region_held3 (fun w' => w'.cell? ⟨w.heap.size, 0, none⟩ = some (.float .f32 x) ∧ w'.cell? ⟨w.heap.size, 1, none⟩ = some (.float .f32 y) ∧ w'.cell? ⟨w.heap.size, 2, none⟩ = some (.float .f32 z) ∧ w'.cell? ⟨w.heap.size + 1, 0, none⟩ = some (.float .f32 x') ∧ w'.cell? ⟨w.heap.size + 1, 1, none⟩ = some (.float .f32 y') ∧ w'.cell? ⟨w.heap.size + 1, 2, none⟩ = some (.float .f32 z'))
    ((exact ⟨by (repeat (first | with_reducible exact c0 | with_reducible refine cell_drew ?_ | with_reducible refine cell_drewN ?_ | (with_reducible refine cell_set ?_ ?_; focus (first | omega | (simp <;> omega))) | with_reducible refine cell_below hB1 ?_)), by (repeat (first | with_reducible exact c1 | with_reducible refine cell_drew ?_ | with_reducible refine cell_drewN ?_ | (with_reducible refine cell_set ?_ ?_; focus (first | omega | (simp <;> omega))) | with_reducible refine cell_below hB1 ?_)), by (repeat (first | with_reducible exact c2 | with_reducible refine cell_drew ?_ | with_reducible refine cell_drewN ?_ | (with_reducible refine cell_set ?_ ?_; focus (first | omega | (simp <;> omega))) | with_reducible refine cell_below hB1 ?_)), by (repeat (first | with_reducible exact c3 | with_reducible refine cell_drew ?_ | with_reducible refine cell_drewN ?_ | (with_reducible refine cell_set ?_ ?_; focus (first | omega | (simp <;> omega))) | with_reducible refine cell_below hB1 ?_)), by (repeat (first | with_reducible exact c4 | with_reducible refine cell_drew ?_ | with_reducible refine cell_drewN ?_ | (with_reducible refine cell_set ?_ ?_; focus (first | omega | (simp <;> omega))) | with_reducible refine cell_below hB1 ?_)), by (repeat (first | with_reducible exact c5 | with_reducible refine cell_drew ?_ | with_reducible refine cell_drewN ?_ | (with_reducible refine cell_set ?_ ?_; focus (first | omega | (simp <;> omega))) | with_reducible refine cell_below hB1 ?_))⟩))
    (first
      | (go_at_call 132; refine (impl_LessVectors _ _ _ _ _ _ _ _ _ _ _ _ _ h1' h2' h3' h1 h2 h3).mono ?_; rintro en w1 ⟨a1, b1, g1, rfl, ha1, hb1', hg1, hb1⟩; (obtain hB1 : Below w0.heap.size w0 w1 := by (refine below_call ?_ (Nat.le_refl _) hb1; (repeat (first | with_reducible exact hB1 | with_reducible exact Below.refl _ _ | with_reducible refine Below.drew ?_ | with_reducible refine below_drewN ?_ _)); done)); have k0 := cell_below hB1 q0; have l0 := frozen_below hB1 hs z0; have k1 := cell_below hB1 q1; have l1 := frozen_below hB1 hs z1; have k2 := cell_below hB1 q2; have l2 := frozen_below hB1 hs z2)
      | (go_at_call 58; refine (impl_ScaleVector _ _ _ _ _ _ _ _ _ ha1 hb1' hg1 hr).mono ?_; rintro en w1 ⟨a2, b2, g2, rfl, ha2, hb2, hg2, hb1⟩; (obtain hB1 : Below w0.heap.size w0 w1 := by (refine below_call ?_ (Nat.le_refl _) hb1; (repeat (first | with_reducible exact hB1 | with_reducible exact Below.refl _ _ | with_reducible refine Below.drew ?_ | with_reducible refine below_drewN ?_ _)); done)); have k0 := cell_below hB1 q0; have l0 := frozen_below hB1 hs z0; have k1 := cell_below hB1 q1; have l1 := frozen_below hB1 hs z1; have k2 := cell_below hB1 q2; have l2 := frozen_below hB1 hs z2)
      | (go_at_call 164; refine (impl_AddVectors _ _ _ _ _ _ _ _ _ _ _ _ _ h1 h2 h3 ha2 hb2 hg2).mono ?_; rintro en w1 ⟨a, b, g, rfl, ha, hb, hg, hb1⟩; (obtain hB1 : Below w0.heap.size w0 w1 := by (refine below_call ?_ (Nat.le_refl _) hb1; (repeat (first | with_reducible exact hB1 | with_reducible exact Below.refl _ _ | with_reducible refine Below.drew ?_ | with_reducible refine below_drewN ?_ _)); done)); have k0 := cell_below hB1 q0; have l0 := frozen_below hB1 hs z0; have k1 := cell_below hB1 q1; have l1 := frozen_below hB1 hs z1; have k2 := cell_below hB1 q2; have l2 := frozen_below hB1 hs z2))
  have s3 := set3 (u := .float .f32 a) (v := .float .f32 b) (t := .float .f32 g) k0 k1 k2
  have hBf := below_set3 (n := w.heap.size + 1 + 1) (o1 := 0) (o2 := 1) (o3 := 2) (u := .float .f32 a) (v := .float .f32 b) (t := .float .f32 g) (hB0.trans (hB1.mono (by omega))) (by omega)
  go_wp2
  refine bodyPost_ret (v := vv a b g) (by simp [results, Try.results96, go_sem, s3.1, s3.2.1, s3.2.2]) rfl ⟨_, _, _, rfl, ha, hb, hg, hBf⟩
theorem impl_LongOf (x y z : Nat) (w : World) (c d e : Option Nat) (h1 : FV .f32 x c) (h2 : FV .f32 y d) (h3 : FV .f32 z e) :
    Calls Try.prog 116 #[vv x y z] w fun en w' => ∃ a, en = .returned (.float .f32 a) ∧ FV .f32 a (rootC (fop .add .f32 (fop .add .f32 (fop .mul .f32 c c) (fop .mul .f32 d d)) (fop .mul .f32 e e))) ∧ Below w.heap.size w w' := by
  have u := Try.underlying22
  have uv := Try.underlying67
  go_enter Try.func116, Try.ntmps116
  go_wp2_with (first
    | (go_at_call 129; refine (impl_InnerOf _ _ _ _ _ _ _ _ _ _ _ _ _ h1 h2 h3 h1 h2 h3).mono ?_; rintro en w1 ⟨a, rfl, ha, hb1⟩)
    | (go_at_call 53; refine (impl_RootNumber _ _ _ ha).mono ?_; rintro en w2 ⟨r, rfl, hr, n, rfl⟩))
  go_ret
  exact ⟨_, rfl, hr, below_drewN (((Below.refl _ _).alloc (Nat.le_refl _) _).trans (hb1.mono (by simp))) _⟩
theorem l01Long (x y z : Nat) (w : World) (c d e : Option Nat) (h1 : FV .f32 x c) (h2 : FV .f32 y d) (h3 : FV .f32 z e) :
    Calls Try.prog 109 #[vv x y z] w fun en w' => ∃ a, en = .returned (.float .f32 a) ∧ FV .f32 a (rootC (fop .add .f32 (fop .add .f32 (fop .mul .f32 c c) (fop .mul .f32 d d)) (fop .mul .f32 e e))) ∧ Below w.heap.size w w' := by
  have u := Try.underlying22
  have uv := Try.underlying67
  go_enter Try.func109, Try.ntmps109
  go_wp2_with (first
    | (go_at_call 147; refine (l01Inner _ _ _ _ _ _ _ _ _ _ _ _ _ h1 h2 h3 h1 h2 h3).mono ?_; rintro en w1 ⟨a, rfl, ha, hb1⟩)
    | (go_at_call 51; refine (l01Sqrt _ _ _ ha).mono ?_; rintro en w2 ⟨r, rfl, hr, n, rfl⟩))
  go_ret
  exact ⟨_, rfl, hr, below_drewN (((Below.refl _ _).alloc (Nat.le_refl _) _).trans (hb1.mono (by simp))) _⟩
end Go.Proofs.Ytkdoibglgkcbkaa

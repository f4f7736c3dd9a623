
/-
Inner and cross products: what the program returns. Conditions: none beyond that the words fit.
-/
import Derived.Test.YtcgnmnbjgamedaaVecB
import Derived.Test.YtcgnmnbjgamedaaReg
namespace Go.Proofs.Ytcgnmnbjgamedaa
open Go Fk Go.RowKit
set_option linter.unusedVariables false
set_option maxRecDepth 8000

def isF (c : Option Nat) (v : Value) : Prop := ∃ r, v = .float .f32 r ∧ FV .f32 r c

theorem impl_InnerOf (x y z x' y' z' : Nat) (w : World) (c d e c' d' e' : Option Nat) (h1 : FV .f32 x c) (h2 : FV .f32 y d) (h3 : FV .f32 z e) (h1' : FV .f32 x' c') (h2' : FV .f32 y' d') (h3' : FV .f32 z' e') :
    Calls Try.prog 103 #[vv x y z, vv x' y' z'] w fun en w' => ∃ a, en = .returned (.float .f32 a) ∧ FV .f32 a (fop .add .f32 (fop .add .f32 (fop .mul .f32 c c') (fop .mul .f32 d d')) (fop .mul .f32 e e')) ∧ Below w.heap.size w w' := by
  have u := Try.underlying22
  have uv := Try.underlying33
  go_enter Try.func103, Try.ntmps103
  go_wp2_with fail
  have k0 : (((w.alloc (.cells #[.float .f32 x, .float .f32 y, .float .f32 z] 33)).alloc (.cells #[.float .f32 x', .float .f32 y', .float .f32 z'] 33)).drewN 1).cell? ⟨w.heap.size, 0, none⟩ = some (.float .f32 x) := by simp
  have k1 : (((w.alloc (.cells #[.float .f32 x, .float .f32 y, .float .f32 z] 33)).alloc (.cells #[.float .f32 x', .float .f32 y', .float .f32 z'] 33)).drewN 1).cell? ⟨w.heap.size, 1, none⟩ = some (.float .f32 y) := by simp
  have k2 : (((w.alloc (.cells #[.float .f32 x, .float .f32 y, .float .f32 z] 33)).alloc (.cells #[.float .f32 x', .float .f32 y', .float .f32 z'] 33)).drewN 1).cell? ⟨w.heap.size, 2, none⟩ = some (.float .f32 z) := by simp
  have k3 : (((w.alloc (.cells #[.float .f32 x, .float .f32 y, .float .f32 z] 33)).alloc (.cells #[.float .f32 x', .float .f32 y', .float .f32 z'] 33)).drewN 1).cell? ⟨w.heap.size + 1, 0, none⟩ = some (.float .f32 x') := by simp
  have k4 : (((w.alloc (.cells #[.float .f32 x, .float .f32 y, .float .f32 z] 33)).alloc (.cells #[.float .f32 x', .float .f32 y', .float .f32 z'] 33)).drewN 1).cell? ⟨w.heap.size + 1, 1, none⟩ = some (.float .f32 y') := by simp
  have k5 : (((w.alloc (.cells #[.float .f32 x, .float .f32 y, .float .f32 z] 33)).alloc (.cells #[.float .f32 x', .float .f32 y', .float .f32 z'] 33)).drewN 1).cell? ⟨w.heap.size + 1, 2, none⟩ = some (.float .f32 z') := by simp
  refine Reg.wp_region_mix (C := fun w' => (w'.cell? ⟨w.heap.size, 0, none⟩ = some (.float .f32 x) ∧ w'.cell? ⟨w.heap.size, 1, none⟩ = some (.float .f32 y) ∧ w'.cell? ⟨w.heap.size, 2, none⟩ = some (.float .f32 z) ∧ w'.cell? ⟨w.heap.size + 1, 0, none⟩ = some (.float .f32 x') ∧ w'.cell? ⟨w.heap.size + 1, 1, none⟩ = some (.float .f32 y') ∧ w'.cell? ⟨w.heap.size + 1, 2, none⟩ = some (.float .f32 z')) ∧ Below w.heap.size w w') (G := fun _ _ => True) (R := fun i v _ => match i with | 0 => v = .pointer (some ⟨w.heap.size, 0, none⟩) | 1 => v = .float .f32 x | 2 => v = .pointer (some ⟨w.heap.size + 1, 0, none⟩) | 3 => v = .float .f32 x' | 4 => isF (fop .mul .f32 c c') v | 5 => v = .pointer (some ⟨w.heap.size, 1, none⟩) | 6 => v = .float .f32 y | 7 => v = .pointer (some ⟨w.heap.size + 1, 1, none⟩) | 8 => v = .float .f32 y' | 9 => isF (fop .mul .f32 d d') v | 10 => isF (fop .add .f32 (fop .mul .f32 c c') (fop .mul .f32 d d')) v | 11 => v = .pointer (some ⟨w.heap.size, 2, none⟩) | 12 => v = .float .f32 z | 13 => v = .pointer (some ⟨w.heap.size + 1, 2, none⟩) | 14 => v = .float .f32 z' | 15 => isF (fop .mul .f32 e e') v | 16 => isF (fop .add .f32 (fop .add .f32 (fop .mul .f32 c c') (fop .mul .f32 d d')) (fop .mul .f32 e e')) v | 17 => isF (fop .add .f32 (fop .add .f32 (fop .mul .f32 c c') (fop .mul .f32 d d')) (fop .mul .f32 e e')) v | _ => True) (T := fun _ a w' => True) [false, false, false, false, true, true, true, true, true, true, true, true, true, true, true, true, true, true, true, true, true, true]
    (by kernel_rfl) (by kernel_rfl) (by kernel_rfl) (fun _ _ _ _ _ _ h => h) ⟨⟨k0, k1, k2, k3, k4, k5⟩, below_drewN (((Below.refl _ _).alloc (Nat.le_refl _) _).alloc (by simp) _) 1⟩ ?_ ?_
  · refine ⟨Reg.Obl.mk ?_, Reg.Obl.mk ?_, Reg.Obl.mk ?_, Reg.Obl.mk ?_, Reg.Obl.mk ?_, Reg.Obl.mk ?_, Reg.Obl.mk ?_, Reg.Obl.mk ?_, Reg.Obl.mk ?_, Reg.Obl.mk ?_, Reg.Obl.mk ?_, Reg.Obl.mk ?_, Reg.Obl.mk ?_, Reg.Obl.mk ?_, Reg.Obl.mk ?_, Reg.Obl.mk ?_, Reg.Obl.mk ?_, Reg.Obl.mk ?_, trivial⟩
    · rintro a w1 ⟨hcs, hB⟩ hx hd K hK
      have hcs' := hcs
      obtain ⟨c0, c1, c2, c3, c4, c5⟩ := hcs'
      have t2 : a.tmps[2]?.getD undef = .pointer (some ⟨w.heap.size, 0, none⟩) := Reg.slot_val (hx 2 (by kernel_rfl))
      go_simp
      exact hK _ _ (fun _ => rfl) (fun h => by cases h) ⟨hcs, hB⟩ trivial
    · rintro a w1 ⟨hcs, hB⟩ hx hd K hK
      have hcs' := hcs
      obtain ⟨c0, c1, c2, c3, c4, c5⟩ := hcs'
      have t5 : a.tmps[5]?.getD undef = .pointer (some ⟨w.heap.size, 0, none⟩) := Reg.slot_val (hd 0 (by kernel_rfl) 5 rfl)
      go_simp
      exact hK _ _ (fun _ => rfl) (fun h => by cases h) ⟨hcs, hB⟩ trivial
    · rintro a w1 ⟨hcs, hB⟩ hx hd K hK
      have hcs' := hcs
      obtain ⟨c0, c1, c2, c3, c4, c5⟩ := hcs'
      have t3 : a.tmps[3]?.getD undef = .pointer (some ⟨w.heap.size + 1, 0, none⟩) := Reg.slot_val (hx 3 (by kernel_rfl))
      go_simp
      exact hK _ _ (fun _ => rfl) (fun h => by cases h) ⟨hcs, hB⟩ trivial
    · rintro a w1 ⟨hcs, hB⟩ hx hd K hK
      have hcs' := hcs
      obtain ⟨c0, c1, c2, c3, c4, c5⟩ := hcs'
      have t7 : a.tmps[7]?.getD undef = .pointer (some ⟨w.heap.size + 1, 0, none⟩) := Reg.slot_val (hd 2 (by kernel_rfl) 7 rfl)
      go_simp
      exact hK _ _ (fun _ => rfl) (fun h => by cases h) ⟨hcs, hB⟩ trivial
    · rintro a w1 ⟨hcs, hB⟩ hx hd K hK
      have hcs' := hcs
      obtain ⟨c0, c1, c2, c3, c4, c5⟩ := hcs'
      have t6 : a.tmps[6]?.getD undef = .float .f32 x := Reg.slot_val (hd 1 (by kernel_rfl) 6 rfl)
      have t8 : a.tmps[8]?.getD undef = .float .f32 x' := Reg.slot_val (hd 3 (by kernel_rfl) 8 rfl)
      go_simp
      refine (impl_product32 _ _ _ _ _ h1 h1').mono ?_
      rintro en w2 ⟨r, rfl, hr, n1, rfl⟩
      exact hK _ _ (fun _ => ⟨r, rfl, hr⟩) (fun h => by cases h) ⟨hcs, below_drewN hB _⟩ trivial
    · rintro a w1 ⟨hcs, hB⟩ hx hd K hK
      have hcs' := hcs
      obtain ⟨c0, c1, c2, c3, c4, c5⟩ := hcs'
      have t2 : a.tmps[2]?.getD undef = .pointer (some ⟨w.heap.size, 0, none⟩) := Reg.slot_val (hx 2 (by kernel_rfl))
      go_simp
      exact hK _ _ (fun _ => rfl) (fun h => by cases h) ⟨hcs, hB⟩ trivial
    · rintro a w1 ⟨hcs, hB⟩ hx hd K hK
      have hcs' := hcs
      obtain ⟨c0, c1, c2, c3, c4, c5⟩ := hcs'
      have t10 : a.tmps[10]?.getD undef = .pointer (some ⟨w.heap.size, 1, none⟩) := Reg.slot_val (hd 5 (by kernel_rfl) 10 rfl)
      go_simp
      exact hK _ _ (fun _ => rfl) (fun h => by cases h) ⟨hcs, hB⟩ trivial
    · rintro a w1 ⟨hcs, hB⟩ hx hd K hK
      have hcs' := hcs
      obtain ⟨c0, c1, c2, c3, c4, c5⟩ := hcs'
      have t3 : a.tmps[3]?.getD undef = .pointer (some ⟨w.heap.size + 1, 0, none⟩) := Reg.slot_val (hx 3 (by kernel_rfl))
      go_simp
      exact hK _ _ (fun _ => rfl) (fun h => by cases h) ⟨hcs, hB⟩ trivial
    · rintro a w1 ⟨hcs, hB⟩ hx hd K hK
      have hcs' := hcs
      obtain ⟨c0, c1, c2, c3, c4, c5⟩ := hcs'
      have t12 : a.tmps[12]?.getD undef = .pointer (some ⟨w.heap.size + 1, 1, none⟩) := Reg.slot_val (hd 7 (by kernel_rfl) 12 rfl)
      go_simp
      exact hK _ _ (fun _ => rfl) (fun h => by cases h) ⟨hcs, hB⟩ trivial
    · rintro a w1 ⟨hcs, hB⟩ hx hd K hK
      have hcs' := hcs
      obtain ⟨c0, c1, c2, c3, c4, c5⟩ := hcs'
      have t11 : a.tmps[11]?.getD undef = .float .f32 y := Reg.slot_val (hd 6 (by kernel_rfl) 11 rfl)
      have t13 : a.tmps[13]?.getD undef = .float .f32 y' := Reg.slot_val (hd 8 (by kernel_rfl) 13 rfl)
      go_simp
      refine (impl_product32 _ _ _ _ _ h2 h2').mono ?_
      rintro en w2 ⟨r, rfl, hr, n1, rfl⟩
      exact hK _ _ (fun _ => ⟨r, rfl, hr⟩) (fun h => by cases h) ⟨hcs, below_drewN hB _⟩ trivial
    · rintro a w1 ⟨hcs, hB⟩ hx hd K hK
      have hcs' := hcs
      obtain ⟨c0, c1, c2, c3, c4, c5⟩ := hcs'
      obtain ⟨r9, g9, f9⟩ := hd 4 (by kernel_rfl) 9 rfl
      have t9 := Reg.slot_val g9
      clear g9
      obtain ⟨r14, g14, f14⟩ := hd 9 (by kernel_rfl) 14 rfl
      have t14 := Reg.slot_val g14
      clear g14
      go_simp
      exact hK _ _ (fun _ => ⟨_, rfl, FV_fR f9 f14⟩) (fun h => by cases h) ⟨hcs, below_drewN hB _⟩ trivial
    · rintro a w1 ⟨hcs, hB⟩ hx hd K hK
      have hcs' := hcs
      obtain ⟨c0, c1, c2, c3, c4, c5⟩ := hcs'
      have t2 : a.tmps[2]?.getD undef = .pointer (some ⟨w.heap.size, 0, none⟩) := Reg.slot_val (hx 2 (by kernel_rfl))
      go_simp
      exact hK _ _ (fun _ => rfl) (fun h => by cases h) ⟨hcs, hB⟩ trivial
    · rintro a w1 ⟨hcs, hB⟩ hx hd K hK
      have hcs' := hcs
      obtain ⟨c0, c1, c2, c3, c4, c5⟩ := hcs'
      have t16 : a.tmps[16]?.getD undef = .pointer (some ⟨w.heap.size, 2, none⟩) := Reg.slot_val (hd 11 (by kernel_rfl) 16 rfl)
      go_simp
      exact hK _ _ (fun _ => rfl) (fun h => by cases h) ⟨hcs, hB⟩ trivial
    · rintro a w1 ⟨hcs, hB⟩ hx hd K hK
      have hcs' := hcs
      obtain ⟨c0, c1, c2, c3, c4, c5⟩ := hcs'
      have t3 : a.tmps[3]?.getD undef = .pointer (some ⟨w.heap.size + 1, 0, none⟩) := Reg.slot_val (hx 3 (by kernel_rfl))
      go_simp
      exact hK _ _ (fun _ => rfl) (fun h => by cases h) ⟨hcs, hB⟩ trivial
    · rintro a w1 ⟨hcs, hB⟩ hx hd K hK
      have hcs' := hcs
      obtain ⟨c0, c1, c2, c3, c4, c5⟩ := hcs'
      have t18 : a.tmps[18]?.getD undef = .pointer (some ⟨w.heap.size + 1, 2, none⟩) := Reg.slot_val (hd 13 (by kernel_rfl) 18 rfl)
      go_simp
      exact hK _ _ (fun _ => rfl) (fun h => by cases h) ⟨hcs, hB⟩ trivial
    · rintro a w1 ⟨hcs, hB⟩ hx hd K hK
      have hcs' := hcs
      obtain ⟨c0, c1, c2, c3, c4, c5⟩ := hcs'
      have t17 : a.tmps[17]?.getD undef = .float .f32 z := Reg.slot_val (hd 12 (by kernel_rfl) 17 rfl)
      have t19 : a.tmps[19]?.getD undef = .float .f32 z' := Reg.slot_val (hd 14 (by kernel_rfl) 19 rfl)
      go_simp
      refine (impl_product32 _ _ _ _ _ h3 h3').mono ?_
      rintro en w2 ⟨r, rfl, hr, n1, rfl⟩
      exact hK _ _ (fun _ => ⟨r, rfl, hr⟩) (fun h => by cases h) ⟨hcs, below_drewN hB _⟩ trivial
    · rintro a w1 ⟨hcs, hB⟩ hx hd K hK
      have hcs' := hcs
      obtain ⟨c0, c1, c2, c3, c4, c5⟩ := hcs'
      obtain ⟨r15, g15, f15⟩ := hd 10 (by kernel_rfl) 15 rfl
      have t15 := Reg.slot_val g15
      clear g15
      obtain ⟨r20, g20, f20⟩ := hd 15 (by kernel_rfl) 20 rfl
      have t20 := Reg.slot_val g20
      clear g20
      go_simp
      exact hK _ _ (fun _ => ⟨_, rfl, FV_fR f15 f20⟩) (fun h => by cases h) ⟨hcs, below_drewN hB _⟩ trivial
    · rintro a w1 ⟨hcs, hB⟩ hx hd K hK
      have hcs' := hcs
      obtain ⟨c0, c1, c2, c3, c4, c5⟩ := hcs'
      obtain ⟨r21, g21, f21⟩ := hd 16 (by kernel_rfl) 21 rfl
      have t21 := Reg.slot_val g21
      clear g21
      go_simp
      exact hK _ _ (fun _ => ⟨_, rfl, f21⟩) (fun h => by cases h) ⟨hcs, hB⟩ trivial
  · rintro f w1 ⟨hcs, hB⟩ hd hT
    obtain ⟨r, g, fr⟩ := hd 17 4 rfl
    simp only [Reg.mixL, g]
    go_wp2
    go_ret
    exact ⟨r, rfl, fr, hB⟩
end Go.Proofs.Ytcgnmnbjgamedaa

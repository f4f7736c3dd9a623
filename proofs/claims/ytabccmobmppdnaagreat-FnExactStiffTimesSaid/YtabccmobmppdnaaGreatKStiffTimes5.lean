/-
Texts in one: what StiffTimes stands on, part 5. Conditions: those of each.
-/
import Derived.Test.YtabccmobmppdnaaGreatKStiffTimes4
import Derived.Below
-- halved
namespace Go.Proofs.YtabccmobmppdnaaGreat
open Go Fk Go.RowKit
set_option linter.unusedVariables false
set_option maxRecDepth 8000
def isF (c : Option Nat) (v : Value) : Prop := ∃ r, v = .float .f32 r ∧ FV .f32 r c
theorem impl_InnerOf (x y z x' y' z' : Nat) (w : World) (c d e c' d' e' : Option Nat) (h1 : FV .f32 x c) (h2 : FV .f32 y d) (h3 : FV .f32 z e) (h1' : FV .f32 x' c') (h2' : FV .f32 y' d') (h3' : FV .f32 z' e') :
  Calls Tryz.prog 172 #[vv x y z, vv x' y' z'] w fun en w' => ∃ a, en = .returned (.float .f32 a) ∧ FV .f32 a (fop .add .f32 (fop .add .f32 (fop .mul .f32 c c') (fop .mul .f32 d d')) (fop .mul .f32 e e')) ∧ Below w.heap.size w w' := by
 have u := Tryz.underlying27
 have uv := Tryz.underlying42
 go_enter Tryz.func172, Tryz.ntmps172
 go_wp2_with fail
 have k0 : (((w.alloc (.cells #[.float .f32 x, .float .f32 y, .float .f32 z] 42)).alloc (.cells #[.float .f32 x', .float .f32 y', .float .f32 z'] 42)).drewN 1).cell? ⟨w.heap.size, 0, none⟩ = some (.float .f32 x) := by simp
 have k1 : (((w.alloc (.cells #[.float .f32 x, .float .f32 y, .float .f32 z] 42)).alloc (.cells #[.float .f32 x', .float .f32 y', .float .f32 z'] 42)).drewN 1).cell? ⟨w.heap.size, 1, none⟩ = some (.float .f32 y) := by simp
 have k2 : (((w.alloc (.cells #[.float .f32 x, .float .f32 y, .float .f32 z] 42)).alloc (.cells #[.float .f32 x', .float .f32 y', .float .f32 z'] 42)).drewN 1).cell? ⟨w.heap.size, 2, none⟩ = some (.float .f32 z) := by simp
 have k3 : (((w.alloc (.cells #[.float .f32 x, .float .f32 y, .float .f32 z] 42)).alloc (.cells #[.float .f32 x', .float .f32 y', .float .f32 z'] 42)).drewN 1).cell? ⟨w.heap.size + 1, 0, none⟩ = some (.float .f32 x') := by simp
 have k4 : (((w.alloc (.cells #[.float .f32 x, .float .f32 y, .float .f32 z] 42)).alloc (.cells #[.float .f32 x', .float .f32 y', .float .f32 z'] 42)).drewN 1).cell? ⟨w.heap.size + 1, 1, none⟩ = some (.float .f32 y') := by simp
 have k5 : (((w.alloc (.cells #[.float .f32 x, .float .f32 y, .float .f32 z] 42)).alloc (.cells #[.float .f32 x', .float .f32 y', .float .f32 z'] 42)).drewN 1).cell? ⟨w.heap.size + 1, 2, none⟩ = some (.float .f32 z') := by simp
 refine Reg.wp_region_mix (C := fun w' => (w'.cell? ⟨w.heap.size, 0, none⟩ = some (.float .f32 x) ∧ w'.cell? ⟨w.heap.size, 1, none⟩ = some (.float .f32 y) ∧ w'.cell? ⟨w.heap.size, 2, none⟩ = some (.float .f32 z) ∧ w'.cell? ⟨w.heap.size + 1, 0, none⟩ = some (.float .f32 x') ∧ w'.cell? ⟨w.heap.size + 1, 1, none⟩ = some (.float .f32 y') ∧ w'.cell? ⟨w.heap.size + 1, 2, none⟩ = some (.float .f32 z')) ∧ Below w.heap.size w w') (G := fun _ _ => True) (R := fun i v _ => match i with | 0 => v = .pointer (some ⟨w.heap.size, 0, none⟩) | 1 => v = .float .f32 x | 2 => v = .pointer (some ⟨w.heap.size + 1, 0, none⟩) | 3 => v = .float .f32 x' | 4 => isF (fop .mul .f32 c c') v | 5 => v = .pointer (some ⟨w.heap.size, 1, none⟩) | 6 => v = .float .f32 y | 7 => v = .pointer (some ⟨w.heap.size + 1, 1, none⟩) | 8 => v = .float .f32 y' | 9 => isF (fop .mul .f32 d d') v | 10 => isF (fop .add .f32 (fop .mul .f32 c c') (fop .mul .f32 d d')) v | 11 => v = .pointer (some ⟨w.heap.size, 2, none⟩) | 12 => v = .float .f32 z | 13 => v = .pointer (some ⟨w.heap.size + 1, 2, none⟩) | 14 => v = .float .f32 z' | 15 => isF (fop .mul .f32 e e') v | 16 => isF (fop .add .f32 (fop .add .f32 (fop .mul .f32 c c') (fop .mul .f32 d d')) (fop .mul .f32 e e')) v | 17 => isF (fop .add .f32 (fop .add .f32 (fop .mul .f32 c c') (fop .mul .f32 d d')) (fop .mul .f32 e e')) v | _ => True) (T := fun _ a w' => True) [false, false, false, false, true, true, true, true, true, true, true, true, true, true, true, true, true, true, true, true, true, true]
  (by kernel_rfl) (by kernel_rfl) (by kernel_rfl) (fun _ _ _ _ _ _ h => h) ⟨⟨k0, k1, k2, k3, k4, k5⟩, below_drewN (((Below.refl _ _).alloc (Nat.le_refl _) _).alloc (by simp) _) 1⟩ ?_ ?_
 ·refine ⟨Reg.Obl.mk ?_, Reg.Obl.mk ?_, Reg.Obl.mk ?_, Reg.Obl.mk ?_, Reg.Obl.mk ?_, Reg.Obl.mk ?_, Reg.Obl.mk ?_, Reg.Obl.mk ?_, Reg.Obl.mk ?_, Reg.Obl.mk ?_, Reg.Obl.mk ?_, Reg.Obl.mk ?_, Reg.Obl.mk ?_, Reg.Obl.mk ?_, Reg.Obl.mk ?_, Reg.Obl.mk ?_, Reg.Obl.mk ?_, Reg.Obl.mk ?_, trivial⟩
  ·rintro a w1 ⟨hcs, hB⟩ hx hd K hK
   have hcs' := hcs
   obtain ⟨c0, c1, c2, c3, c4, c5⟩ := hcs'
   have t2 : a.tmps[2]?.getD undef = .pointer (some ⟨w.heap.size, 0, none⟩) := Reg.slot_val (hx 2 (by kernel_rfl))
   go_simp
   exact hK _ _ (fun _ => rfl) (fun h => by cases h) ⟨hcs, hB⟩ trivial
  ·rintro a w1 ⟨hcs, hB⟩ hx hd K hK
   have hcs' := hcs
   obtain ⟨c0, c1, c2, c3, c4, c5⟩ := hcs'
   have t5 : a.tmps[5]?.getD undef = .pointer (some ⟨w.heap.size, 0, none⟩) := Reg.slot_val (hd 0 (by kernel_rfl) 5 rfl)
   go_simp
   exact hK _ _ (fun _ => rfl) (fun h => by cases h) ⟨hcs, hB⟩ trivial
  ·rintro a w1 ⟨hcs, hB⟩ hx hd K hK
   have hcs' := hcs
   obtain ⟨c0, c1, c2, c3, c4, c5⟩ := hcs'
   have t3 : a.tmps[3]?.getD undef = .pointer (some ⟨w.heap.size + 1, 0, none⟩) := Reg.slot_val (hx 3 (by kernel_rfl))
   go_simp
   exact hK _ _ (fun _ => rfl) (fun h => by cases h) ⟨hcs, hB⟩ trivial
  ·rintro a w1 ⟨hcs, hB⟩ hx hd K hK
   have hcs' := hcs
   obtain ⟨c0, c1, c2, c3, c4, c5⟩ := hcs'
   have t7 : a.tmps[7]?.getD undef = .pointer (some ⟨w.heap.size + 1, 0, none⟩) := Reg.slot_val (hd 2 (by kernel_rfl) 7 rfl)
   go_simp
   exact hK _ _ (fun _ => rfl) (fun h => by cases h) ⟨hcs, hB⟩ trivial
  ·rintro a w1 ⟨hcs, hB⟩ hx hd K hK
   have hcs' := hcs
   obtain ⟨c0, c1, c2, c3, c4, c5⟩ := hcs'
   have t6 : a.tmps[6]?.getD undef = .float .f32 x := Reg.slot_val (hd 1 (by kernel_rfl) 6 rfl)
   have t8 : a.tmps[8]?.getD undef = .float .f32 x' := Reg.slot_val (hd 3 (by kernel_rfl) 8 rfl)
   go_simp
   refine (impl_product32 _ _ _ _ _ h1 h1').mono ?_
   rintro en w2 ⟨r, rfl, hr, n1, rfl⟩
   exact hK _ _ (fun _ => ⟨r, rfl, hr⟩) (fun h => by cases h) ⟨hcs, below_drewN hB _⟩ trivial
  ·rintro a w1 ⟨hcs, hB⟩ hx hd K hK
   have hcs' := hcs
   obtain ⟨c0, c1, c2, c3, c4, c5⟩ := hcs'
   have t2 : a.tmps[2]?.getD undef = .pointer (some ⟨w.heap.size, 0, none⟩) := Reg.slot_val (hx 2 (by kernel_rfl))
   go_simp
   exact hK _ _ (fun _ => rfl) (fun h => by cases h) ⟨hcs, hB⟩ trivial
  ·rintro a w1 ⟨hcs, hB⟩ hx hd K hK
   have hcs' := hcs
   obtain ⟨c0, c1, c2, c3, c4, c5⟩ := hcs'
   have t10 : a.tmps[10]?.getD undef = .pointer (some ⟨w.heap.size, 1, none⟩) := Reg.slot_val (hd 5 (by kernel_rfl) 10 rfl)
   go_simp
   exact hK _ _ (fun _ => rfl) (fun h => by cases h) ⟨hcs, hB⟩ trivial
  ·rintro a w1 ⟨hcs, hB⟩ hx hd K hK
   have hcs' := hcs
   obtain ⟨c0, c1, c2, c3, c4, c5⟩ := hcs'
   have t3 : a.tmps[3]?.getD undef = .pointer (some ⟨w.heap.size + 1, 0, none⟩) := Reg.slot_val (hx 3 (by kernel_rfl))
   go_simp
   exact hK _ _ (fun _ => rfl) (fun h => by cases h) ⟨hcs, hB⟩ trivial
  ·rintro a w1 ⟨hcs, hB⟩ hx hd K hK
   have hcs' := hcs
   obtain ⟨c0, c1, c2, c3, c4, c5⟩ := hcs'
   have t12 : a.tmps[12]?.getD undef = .pointer (some ⟨w.heap.size + 1, 1, none⟩) := Reg.slot_val (hd 7 (by kernel_rfl) 12 rfl)
   go_simp
   exact hK _ _ (fun _ => rfl) (fun h => by cases h) ⟨hcs, hB⟩ trivial
  ·rintro a w1 ⟨hcs, hB⟩ hx hd K hK
   have hcs' := hcs
   obtain ⟨c0, c1, c2, c3, c4, c5⟩ := hcs'
   have t11 : a.tmps[11]?.getD undef = .float .f32 y := Reg.slot_val (hd 6 (by kernel_rfl) 11 rfl)
   have t13 : a.tmps[13]?.getD undef = .float .f32 y' := Reg.slot_val (hd 8 (by kernel_rfl) 13 rfl)
   go_simp
   refine (impl_product32 _ _ _ _ _ h2 h2').mono ?_
   rintro en w2 ⟨r, rfl, hr, n1, rfl⟩
   exact hK _ _ (fun _ => ⟨r, rfl, hr⟩) (fun h => by cases h) ⟨hcs, below_drewN hB _⟩ trivial
  ·rintro a w1 ⟨hcs, hB⟩ hx hd K hK
   have hcs' := hcs
   obtain ⟨c0, c1, c2, c3, c4, c5⟩ := hcs'
   obtain ⟨r9, g9, f9⟩ := hd 4 (by kernel_rfl) 9 rfl
   have t9 := Reg.slot_val g9
   clear g9
   obtain ⟨r14, g14, f14⟩ := hd 9 (by kernel_rfl) 14 rfl
   have t14 := Reg.slot_val g14
   clear g14
   go_simp
   exact hK _ _ (fun _ => ⟨_, rfl, FV_fR f9 f14⟩) (fun h => by cases h) ⟨hcs, below_drewN hB _⟩ trivial
  ·rintro a w1 ⟨hcs, hB⟩ hx hd K hK
   have hcs' := hcs
   obtain ⟨c0, c1, c2, c3, c4, c5⟩ := hcs'
   have t2 : a.tmps[2]?.getD undef = .pointer (some ⟨w.heap.size, 0, none⟩) := Reg.slot_val (hx 2 (by kernel_rfl))
   go_simp
   exact hK _ _ (fun _ => rfl) (fun h => by cases h) ⟨hcs, hB⟩ trivial
  ·rintro a w1 ⟨hcs, hB⟩ hx hd K hK
   have hcs' := hcs
   obtain ⟨c0, c1, c2, c3, c4, c5⟩ := hcs'
   have t16 : a.tmps[16]?.getD undef = .pointer (some ⟨w.heap.size, 2, none⟩) := Reg.slot_val (hd 11 (by kernel_rfl) 16 rfl)
   go_simp
   exact hK _ _ (fun _ => rfl) (fun h => by cases h) ⟨hcs, hB⟩ trivial
  ·rintro a w1 ⟨hcs, hB⟩ hx hd K hK
   have hcs' := hcs
   obtain ⟨c0, c1, c2, c3, c4, c5⟩ := hcs'
   have t3 : a.tmps[3]?.getD undef = .pointer (some ⟨w.heap.size + 1, 0, none⟩) := Reg.slot_val (hx 3 (by kernel_rfl))
   go_simp
   exact hK _ _ (fun _ => rfl) (fun h => by cases h) ⟨hcs, hB⟩ trivial
  ·rintro a w1 ⟨hcs, hB⟩ hx hd K hK
   have hcs' := hcs
   obtain ⟨c0, c1, c2, c3, c4, c5⟩ := hcs'
   have t18 : a.tmps[18]?.getD undef = .pointer (some ⟨w.heap.size + 1, 2, none⟩) := Reg.slot_val (hd 13 (by kernel_rfl) 18 rfl)
   go_simp
   exact hK _ _ (fun _ => rfl) (fun h => by cases h) ⟨hcs, hB⟩ trivial
  ·rintro a w1 ⟨hcs, hB⟩ hx hd K hK
   have hcs' := hcs
   obtain ⟨c0, c1, c2, c3, c4, c5⟩ := hcs'
   have t17 : a.tmps[17]?.getD undef = .float .f32 z := Reg.slot_val (hd 12 (by kernel_rfl) 17 rfl)
   have t19 : a.tmps[19]?.getD undef = .float .f32 z' := Reg.slot_val (hd 14 (by kernel_rfl) 19 rfl)
   go_simp
   refine (impl_product32 _ _ _ _ _ h3 h3').mono ?_
   rintro en w2 ⟨r, rfl, hr, n1, rfl⟩
   exact hK _ _ (fun _ => ⟨r, rfl, hr⟩) (fun h => by cases h) ⟨hcs, below_drewN hB _⟩ trivial
  ·rintro a w1 ⟨hcs, hB⟩ hx hd K hK
   have hcs' := hcs
   obtain ⟨c0, c1, c2, c3, c4, c5⟩ := hcs'
   obtain ⟨r15, g15, f15⟩ := hd 10 (by kernel_rfl) 15 rfl
   have t15 := Reg.slot_val g15
   clear g15
   obtain ⟨r20, g20, f20⟩ := hd 15 (by kernel_rfl) 20 rfl
   have t20 := Reg.slot_val g20
   clear g20
   go_simp
   exact hK _ _ (fun _ => ⟨_, rfl, FV_fR f15 f20⟩) (fun h => by cases h) ⟨hcs, below_drewN hB _⟩ trivial
  ·rintro a w1 ⟨hcs, hB⟩ hx hd K hK
   have hcs' := hcs
   obtain ⟨c0, c1, c2, c3, c4, c5⟩ := hcs'
   obtain ⟨r21, g21, f21⟩ := hd 16 (by kernel_rfl) 21 rfl
   have t21 := Reg.slot_val g21
   clear g21
   go_simp
   exact hK _ _ (fun _ => ⟨_, rfl, f21⟩) (fun h => by cases h) ⟨hcs, hB⟩ trivial
 ·rintro f w1 ⟨hcs, hB⟩ hd hT
  obtain ⟨r, g, fr⟩ := hd 17 4 rfl
  simp only [Reg.mixL, g]
  go_wp2
  go_ret
  exact ⟨r, rfl, fr, hB⟩
set_option maxHeartbeats 1000000 in
theorem impl_CrossOf (x y z x' y' z' : Nat) (w : World) (c d e c' d' e' : Option Nat) (h1 : FV .f32 x c) (h2 : FV .f32 y d) (h3 : FV .f32 z e) (h1' : FV .f32 x' c') (h2' : FV .f32 y' d') (h3' : FV .f32 z' e') :
  Calls Tryz.prog 258 #[vv x y z, vv x' y' z'] w fun en w' => ∃ a b g, en = .returned (vv a b g) ∧ FV .f32 a (fop .sub .f32 (fop .mul .f32 d e') (fop .mul .f32 e d')) ∧ FV .f32 b (fop .sub .f32 (fop .mul .f32 e c') (fop .mul .f32 c e')) ∧ FV .f32 g (fop .sub .f32 (fop .mul .f32 c d') (fop .mul .f32 d c')) ∧ Below w.heap.size w w' := by
 have u := Tryz.underlying27
 have uv := Tryz.underlying42
 go_enter Tryz.func258, Tryz.ntmps258
 go_wp2_with fail
 have k0 : ((((w.alloc (.cells #[.float .f32 x, .float .f32 y, .float .f32 z] 42)).alloc (.cells #[.float .f32 x', .float .f32 y', .float .f32 z'] 42)).alloc (.cells #[.float .f32 0, .float .f32 0, .float .f32 0] 42)).drewN 1).cell? ⟨w.heap.size, 0, none⟩ = some (.float .f32 x) := by go_simp
 have k1 : ((((w.alloc (.cells #[.float .f32 x, .float .f32 y, .float .f32 z] 42)).alloc (.cells #[.float .f32 x', .float .f32 y', .float .f32 z'] 42)).alloc (.cells #[.float .f32 0, .float .f32 0, .float .f32 0] 42)).drewN 1).cell? ⟨w.heap.size, 1, none⟩ = some (.float .f32 y) := by go_simp
 have k2 : ((((w.alloc (.cells #[.float .f32 x, .float .f32 y, .float .f32 z] 42)).alloc (.cells #[.float .f32 x', .float .f32 y', .float .f32 z'] 42)).alloc (.cells #[.float .f32 0, .float .f32 0, .float .f32 0] 42)).drewN 1).cell? ⟨w.heap.size, 2, none⟩ = some (.float .f32 z) := by go_simp
 have k3 : ((((w.alloc (.cells #[.float .f32 x, .float .f32 y, .float .f32 z] 42)).alloc (.cells #[.float .f32 x', .float .f32 y', .float .f32 z'] 42)).alloc (.cells #[.float .f32 0, .float .f32 0, .float .f32 0] 42)).drewN 1).cell? ⟨w.heap.size + 1, 0, none⟩ = some (.float .f32 x') := by go_simp
 have k4 : ((((w.alloc (.cells #[.float .f32 x, .float .f32 y, .float .f32 z] 42)).alloc (.cells #[.float .f32 x', .float .f32 y', .float .f32 z'] 42)).alloc (.cells #[.float .f32 0, .float .f32 0, .float .f32 0] 42)).drewN 1).cell? ⟨w.heap.size + 1, 1, none⟩ = some (.float .f32 y') := by go_simp
 have k5 : ((((w.alloc (.cells #[.float .f32 x, .float .f32 y, .float .f32 z] 42)).alloc (.cells #[.float .f32 x', .float .f32 y', .float .f32 z'] 42)).alloc (.cells #[.float .f32 0, .float .f32 0, .float .f32 0] 42)).drewN 1).cell? ⟨w.heap.size + 1, 2, none⟩ = some (.float .f32 z') := by go_simp
 have k6 : ((((w.alloc (.cells #[.float .f32 x, .float .f32 y, .float .f32 z] 42)).alloc (.cells #[.float .f32 x', .float .f32 y', .float .f32 z'] 42)).alloc (.cells #[.float .f32 0, .float .f32 0, .float .f32 0] 42)).drewN 1).cell? ⟨w.heap.size + 1 + 1, 0, none⟩ = some (.float .f32 0) := by go_simp
 have k7 : ((((w.alloc (.cells #[.float .f32 x, .float .f32 y, .float .f32 z] 42)).alloc (.cells #[.float .f32 x', .float .f32 y', .float .f32 z'] 42)).alloc (.cells #[.float .f32 0, .float .f32 0, .float .f32 0] 42)).drewN 1).cell? ⟨w.heap.size + 1 + 1, 1, none⟩ = some (.float .f32 0) := by go_simp
 have k8 : ((((w.alloc (.cells #[.float .f32 x, .float .f32 y, .float .f32 z] 42)).alloc (.cells #[.float .f32 x', .float .f32 y', .float .f32 z'] 42)).alloc (.cells #[.float .f32 0, .float .f32 0, .float .f32 0] 42)).drewN 1).cell? ⟨w.heap.size + 1 + 1, 2, none⟩ = some (.float .f32 0) := by go_simp
 have k9 : ((((w.alloc (.cells #[.float .f32 x, .float .f32 y, .float .f32 z] 42)).alloc (.cells #[.float .f32 x', .float .f32 y', .float .f32 z'] 42)).alloc (.cells #[.float .f32 0, .float .f32 0, .float .f32 0] 42)).drewN 1).frozen? ⟨w.heap.size + 1 + 1, 0, none⟩ = false := by go_simp
 have k10 : ((((w.alloc (.cells #[.float .f32 x, .float .f32 y, .float .f32 z] 42)).alloc (.cells #[.float .f32 x', .float .f32 y', .float .f32 z'] 42)).alloc (.cells #[.float .f32 0, .float .f32 0, .float .f32 0] 42)).drewN 1).frozen? ⟨w.heap.size + 1 + 1, 1, none⟩ = false := by go_simp
 have k11 : ((((w.alloc (.cells #[.float .f32 x, .float .f32 y, .float .f32 z] 42)).alloc (.cells #[.float .f32 x', .float .f32 y', .float .f32 z'] 42)).alloc (.cells #[.float .f32 0, .float .f32 0, .float .f32 0] 42)).drewN 1).frozen? ⟨w.heap.size + 1 + 1, 2, none⟩ = false := by go_simp
 refine Reg.wp_region_mix (C := fun w' => (w'.cell? ⟨w.heap.size, 0, none⟩ = some (.float .f32 x) ∧ w'.cell? ⟨w.heap.size, 1, none⟩ = some (.float .f32 y) ∧ w'.cell? ⟨w.heap.size, 2, none⟩ = some (.float .f32 z) ∧ w'.cell? ⟨w.heap.size + 1, 0, none⟩ = some (.float .f32 x') ∧ w'.cell? ⟨w.heap.size + 1, 1, none⟩ = some (.float .f32 y') ∧ w'.cell? ⟨w.heap.size + 1, 2, none⟩ = some (.float .f32 z')) ∧ (∃ u0 u1 u2, w'.cell? ⟨w.heap.size + 1 + 1, 0, none⟩ = some u0 ∧ w'.cell? ⟨w.heap.size + 1 + 1, 1, none⟩ = some u1 ∧ w'.cell? ⟨w.heap.size + 1 + 1, 2, none⟩ = some u2) ∧ (w'.frozen? ⟨w.heap.size + 1 + 1, 0, none⟩ = false ∧ w'.frozen? ⟨w.heap.size + 1 + 1, 1, none⟩ = false ∧ w'.frozen? ⟨w.heap.size + 1 + 1, 2, none⟩ = false) ∧ Below w.heap.size w w') (G := fun _ _ => True) (R := fun i v _ => match i with | 0 => v = .pointer (some ⟨w.heap.size, 1, none⟩) | 1 => v = .float .f32 y | 2 => v = .pointer (some ⟨w.heap.size + 1, 2, none⟩) | 3 => v = .float .f32 z' | 4 => isF (fop .mul .f32 d e') v | 5 => v = .pointer (some ⟨w.heap.size, 2, none⟩) | 6 => v = .float .f32 z | 7 => v = .pointer (some ⟨w.heap.size + 1, 1, none⟩) | 8 => v = .float .f32 y' | 9 => isF (fop .mul .f32 e d') v | 10 => isF (fop .sub .f32 (fop .mul .f32 d e') (fop .mul .f32 e d')) v | 11 => v = .pointer (some ⟨w.heap.size, 2, none⟩) | 12 => v = .float .f32 z | 13 => v = .pointer (some ⟨w.heap.size + 1, 0, none⟩) | 14 => v = .float .f32 x' | 15 => isF (fop .mul .f32 e c') v | 16 => v = .pointer (some ⟨w.heap.size, 0, none⟩) | 17 => v = .float .f32 x | 18 => v = .pointer (some ⟨w.heap.size + 1, 2, none⟩) | 19 => v = .float .f32 z' | 20 => isF (fop .mul .f32 c e') v | 21 => isF (fop .sub .f32 (fop .mul .f32 e c') (fop .mul .f32 c e')) v | 22 => v = .pointer (some ⟨w.heap.size, 0, none⟩) | 23 => v = .float .f32 x | 24 => v = .pointer (some ⟨w.heap.size + 1, 1, none⟩) | 25 => v = .float .f32 y' | 26 => isF (fop .mul .f32 c d') v | 27 => v = .pointer (some ⟨w.heap.size, 1, none⟩) | 28 => v = .float .f32 y | 29 => v = .pointer (some ⟨w.heap.size + 1, 0, none⟩) | 30 => v = .float .f32 x' | 31 => isF (fop .mul .f32 d c') v | 32 => isF (fop .sub .f32 (fop .mul .f32 c d') (fop .mul .f32 d c')) v | 33 => ∃ a b g, v = vv a b g ∧ FV .f32 a (fop .sub .f32 (fop .mul .f32 d e') (fop .mul .f32 e d')) ∧ FV .f32 b (fop .sub .f32 (fop .mul .f32 e c') (fop .mul .f32 c e')) ∧ FV .f32 g (fop .sub .f32 (fop .mul .f32 c d') (fop .mul .f32 d c')) | 34 => True | _ => True) (T := fun _ a w' => ∃ a b g, w'.cell? ⟨w.heap.size + 1 + 1, 0, none⟩ = some (.float .f32 a) ∧ w'.cell? ⟨w.heap.size + 1 + 1, 1, none⟩ = some (.float .f32 b) ∧ w'.cell? ⟨w.heap.size + 1 + 1, 2, none⟩ = some (.float .f32 g) ∧ FV .f32 a (fop .sub .f32 (fop .mul .f32 d e') (fop .mul .f32 e d')) ∧ FV .f32 b (fop .sub .f32 (fop .mul .f32 e c') (fop .mul .f32 c e')) ∧ FV .f32 g (fop .sub .f32 (fop .mul .f32 c d') (fop .mul .f32 d c'))) [false, false, false, false, false, true, true, true, true, true, true, true, true, true, true, true, true, true, true, true, true, true, true, true, true, true, true, true, true, true, true, true, true, true, true, true, true, true, true]
  (by kernel_rfl) (by kernel_rfl) (by kernel_rfl) (fun _ _ _ _ _ _ h => h) ⟨⟨k0, k1, k2, k3, k4, k5⟩, ⟨_, _, _, k6, k7, k8⟩, ⟨k9, k10, k11⟩, below_drewN ((((Below.refl _ _).alloc (Nat.le_refl _) _).alloc (by simp) _).alloc (by simp; omega) _) 1⟩ ?_ ?_
 ·refine ⟨Reg.Obl.mk ?_, Reg.Obl.mk ?_, Reg.Obl.mk ?_, Reg.Obl.mk ?_, Reg.Obl.mk ?_, Reg.Obl.mk ?_, Reg.Obl.mk ?_, Reg.Obl.mk ?_, Reg.Obl.mk ?_, Reg.Obl.mk ?_, Reg.Obl.mk ?_, Reg.Obl.mk ?_, Reg.Obl.mk ?_, Reg.Obl.mk ?_, Reg.Obl.mk ?_, Reg.Obl.mk ?_, Reg.Obl.mk ?_, Reg.Obl.mk ?_, Reg.Obl.mk ?_, Reg.Obl.mk ?_, Reg.Obl.mk ?_, Reg.Obl.mk ?_, Reg.Obl.mk ?_, Reg.Obl.mk ?_, Reg.Obl.mk ?_, Reg.Obl.mk ?_, Reg.Obl.mk ?_, Reg.Obl.mk ?_, Reg.Obl.mk ?_, Reg.Obl.mk ?_, Reg.Obl.mk ?_, Reg.Obl.mk ?_, Reg.Obl.mk ?_, Reg.Obl.mk ?_, Reg.Obl.mk ?_, trivial⟩
  ·rintro a w1 ⟨hcs, hrb, hfz, hB⟩ hx hd K hK
   have hcs' := hcs
   obtain ⟨c0, c1, c2, c3, c4, c5⟩ := hcs'
   have t2 : a.tmps[2]?.getD undef = .pointer (some ⟨w.heap.size, 0, none⟩) := Reg.slot_val (hx 2 (by kernel_rfl))
   go_simp
   exact hK _ _ (fun _ => rfl) (fun h => by cases h) ⟨hcs, hrb, hfz, hB⟩ trivial
  ·rintro a w1 ⟨hcs, hrb, hfz, hB⟩ hx hd K hK
   have hcs' := hcs
   obtain ⟨c0, c1, c2, c3, c4, c5⟩ := hcs'
   have t5 : a.tmps[5]?.getD undef = .pointer (some ⟨w.heap.size, 1, none⟩) := Reg.slot_val (hd 0 (by kernel_rfl) 5 rfl)
   go_simp
   exact hK _ _ (fun _ => rfl) (fun h => by cases h) ⟨hcs, hrb, hfz, hB⟩ trivial
  ·rintro a w1 ⟨hcs, hrb, hfz, hB⟩ hx hd K hK
   have hcs' := hcs
   obtain ⟨c0, c1, c2, c3, c4, c5⟩ := hcs'
   have t3 : a.tmps[3]?.getD undef = .pointer (some ⟨w.heap.size + 1, 0, none⟩) := Reg.slot_val (hx 3 (by kernel_rfl))
   go_simp
   exact hK _ _ (fun _ => rfl) (fun h => by cases h) ⟨hcs, hrb, hfz, hB⟩ trivial
  ·rintro a w1 ⟨hcs, hrb, hfz, hB⟩ hx hd K hK
   have hcs' := hcs
   obtain ⟨c0, c1, c2, c3, c4, c5⟩ := hcs'
   have t7 : a.tmps[7]?.getD undef = .pointer (some ⟨w.heap.size + 1, 2, none⟩) := Reg.slot_val (hd 2 (by kernel_rfl) 7 rfl)
   go_simp
   exact hK _ _ (fun _ => rfl) (fun h => by cases h) ⟨hcs, hrb, hfz, hB⟩ trivial
  ·rintro a w1 ⟨hcs, hrb, hfz, hB⟩ hx hd K hK
   have hcs' := hcs
   obtain ⟨c0, c1, c2, c3, c4, c5⟩ := hcs'
   have t6 : a.tmps[6]?.getD undef = .float .f32 y := Reg.slot_val (hd 1 (by kernel_rfl) 6 rfl)
   have t8 : a.tmps[8]?.getD undef = .float .f32 z' := Reg.slot_val (hd 3 (by kernel_rfl) 8 rfl)
   go_simp
   refine (impl_product32 _ _ _ _ _ h2 h3').mono ?_
   rintro en w2 ⟨r, rfl, hr, n1, rfl⟩
   exact hK _ _ (fun _ => ⟨r, rfl, hr⟩) (fun h => by cases h) ⟨hcs, hrb, hfz, below_drewN hB _⟩ trivial
  ·rintro a w1 ⟨hcs, hrb, hfz, hB⟩ hx hd K hK
   have hcs' := hcs
   obtain ⟨c0, c1, c2, c3, c4, c5⟩ := hcs'
   have t2 : a.tmps[2]?.getD undef = .pointer (some ⟨w.heap.size, 0, none⟩) := Reg.slot_val (hx 2 (by kernel_rfl))
   go_simp
   exact hK _ _ (fun _ => rfl) (fun h => by cases h) ⟨hcs, hrb, hfz, hB⟩ trivial
  ·rintro a w1 ⟨hcs, hrb, hfz, hB⟩ hx hd K hK
   have hcs' := hcs
   obtain ⟨c0, c1, c2, c3, c4, c5⟩ := hcs'
   have t10 : a.tmps[10]?.getD undef = .pointer (some ⟨w.heap.size, 2, none⟩) := Reg.slot_val (hd 5 (by kernel_rfl) 10 rfl)
   go_simp
   exact hK _ _ (fun _ => rfl) (fun h => by cases h) ⟨hcs, hrb, hfz, hB⟩ trivial
  ·rintro a w1 ⟨hcs, hrb, hfz, hB⟩ hx hd K hK
   have hcs' := hcs
   obtain ⟨c0, c1, c2, c3, c4, c5⟩ := hcs'
   have t3 : a.tmps[3]?.getD undef = .pointer (some ⟨w.heap.size + 1, 0, none⟩) := Reg.slot_val (hx 3 (by kernel_rfl))
   go_simp
   exact hK _ _ (fun _ => rfl) (fun h => by cases h) ⟨hcs, hrb, hfz, hB⟩ trivial
  ·rintro a w1 ⟨hcs, hrb, hfz, hB⟩ hx hd K hK
   have hcs' := hcs
   obtain ⟨c0, c1, c2, c3, c4, c5⟩ := hcs'
   have t12 : a.tmps[12]?.getD undef = .pointer (some ⟨w.heap.size + 1, 1, none⟩) := Reg.slot_val (hd 7 (by kernel_rfl) 12 rfl)
   go_simp
   exact hK _ _ (fun _ => rfl) (fun h => by cases h) ⟨hcs, hrb, hfz, hB⟩ trivial
  ·rintro a w1 ⟨hcs, hrb, hfz, hB⟩ hx hd K hK
   have hcs' := hcs
   obtain ⟨c0, c1, c2, c3, c4, c5⟩ := hcs'
   have t11 : a.tmps[11]?.getD undef = .float .f32 z := Reg.slot_val (hd 6 (by kernel_rfl) 11 rfl)
   have t13 : a.tmps[13]?.getD undef = .float .f32 y' := Reg.slot_val (hd 8 (by kernel_rfl) 13 rfl)
   go_simp
   refine (impl_product32 _ _ _ _ _ h3 h2').mono ?_
   rintro en w2 ⟨r, rfl, hr, n1, rfl⟩
   exact hK _ _ (fun _ => ⟨r, rfl, hr⟩) (fun h => by cases h) ⟨hcs, hrb, hfz, below_drewN hB _⟩ trivial
  ·rintro a w1 ⟨hcs, hrb, hfz, hB⟩ hx hd K hK
   have hcs' := hcs
   obtain ⟨c0, c1, c2, c3, c4, c5⟩ := hcs'
   obtain ⟨r9, g9, f9⟩ := hd 4 (by kernel_rfl) 9 rfl
   have t9 := Reg.slot_val g9
   clear g9
   obtain ⟨r14, g14, f14⟩ := hd 9 (by kernel_rfl) 14 rfl
   have t14 := Reg.slot_val g14
   clear g14
   go_simp
   exact hK _ _ (fun _ => ⟨_, rfl, FV_fR f9 f14⟩) (fun h => by cases h) ⟨hcs, hrb, hfz, below_drewN hB _⟩ trivial
  ·rintro a w1 ⟨hcs, hrb, hfz, hB⟩ hx hd K hK
   have hcs' := hcs
   obtain ⟨c0, c1, c2, c3, c4, c5⟩ := hcs'
   have t2 : a.tmps[2]?.getD undef = .pointer (some ⟨w.heap.size, 0, none⟩) := Reg.slot_val (hx 2 (by kernel_rfl))
   go_simp
   exact hK _ _ (fun _ => rfl) (fun h => by cases h) ⟨hcs, hrb, hfz, hB⟩ trivial
  ·rintro a w1 ⟨hcs, hrb, hfz, hB⟩ hx hd K hK
   have hcs' := hcs
   obtain ⟨c0, c1, c2, c3, c4, c5⟩ := hcs'
   have t16 : a.tmps[16]?.getD undef = .pointer (some ⟨w.heap.size, 2, none⟩) := Reg.slot_val (hd 11 (by kernel_rfl) 16 rfl)
   go_simp
   exact hK _ _ (fun _ => rfl) (fun h => by cases h) ⟨hcs, hrb, hfz, hB⟩ trivial
  ·rintro a w1 ⟨hcs, hrb, hfz, hB⟩ hx hd K hK
   have hcs' := hcs
   obtain ⟨c0, c1, c2, c3, c4, c5⟩ := hcs'
   have t3 : a.tmps[3]?.getD undef = .pointer (some ⟨w.heap.size + 1, 0, none⟩) := Reg.slot_val (hx 3 (by kernel_rfl))
   go_simp
   exact hK _ _ (fun _ => rfl) (fun h => by cases h) ⟨hcs, hrb, hfz, hB⟩ trivial
  ·rintro a w1 ⟨hcs, hrb, hfz, hB⟩ hx hd K hK
   have hcs' := hcs
   obtain ⟨c0, c1, c2, c3, c4, c5⟩ := hcs'
   have t18 : a.tmps[18]?.getD undef = .pointer (some ⟨w.heap.size + 1, 0, none⟩) := Reg.slot_val (hd 13 (by kernel_rfl) 18 rfl)
   go_simp
   exact hK _ _ (fun _ => rfl) (fun h => by cases h) ⟨hcs, hrb, hfz, hB⟩ trivial
  ·rintro a w1 ⟨hcs, hrb, hfz, hB⟩ hx hd K hK
   have hcs' := hcs
   obtain ⟨c0, c1, c2, c3, c4, c5⟩ := hcs'
   have t17 : a.tmps[17]?.getD undef = .float .f32 z := Reg.slot_val (hd 12 (by kernel_rfl) 17 rfl)
   have t19 : a.tmps[19]?.getD undef = .float .f32 x' := Reg.slot_val (hd 14 (by kernel_rfl) 19 rfl)
   go_simp
   refine (impl_product32 _ _ _ _ _ h3 h1').mono ?_
   rintro en w2 ⟨r, rfl, hr, n1, rfl⟩
   exact hK _ _ (fun _ => ⟨r, rfl, hr⟩) (fun h => by cases h) ⟨hcs, hrb, hfz, below_drewN hB _⟩ trivial
  ·rintro a w1 ⟨hcs, hrb, hfz, hB⟩ hx hd K hK
   have hcs' := hcs
   obtain ⟨c0, c1, c2, c3, c4, c5⟩ := hcs'
   have t2 : a.tmps[2]?.getD undef = .pointer (some ⟨w.heap.size, 0, none⟩) := Reg.slot_val (hx 2 (by kernel_rfl))
   go_simp
   exact hK _ _ (fun _ => rfl) (fun h => by cases h) ⟨hcs, hrb, hfz, hB⟩ trivial
  ·rintro a w1 ⟨hcs, hrb, hfz, hB⟩ hx hd K hK
   have hcs' := hcs
   obtain ⟨c0, c1, c2, c3, c4, c5⟩ := hcs'
   have t21 : a.tmps[21]?.getD undef = .pointer (some ⟨w.heap.size, 0, none⟩) := Reg.slot_val (hd 16 (by kernel_rfl) 21 rfl)
   go_simp
   exact hK _ _ (fun _ => rfl) (fun h => by cases h) ⟨hcs, hrb, hfz, hB⟩ trivial
  ·rintro a w1 ⟨hcs, hrb, hfz, hB⟩ hx hd K hK
   have hcs' := hcs
   obtain ⟨c0, c1, c2, c3, c4, c5⟩ := hcs'
   have t3 : a.tmps[3]?.getD undef = .pointer (some ⟨w.heap.size + 1, 0, none⟩) := Reg.slot_val (hx 3 (by kernel_rfl))
   go_simp
   exact hK _ _ (fun _ => rfl) (fun h => by cases h) ⟨hcs, hrb, hfz, hB⟩ trivial
  ·rintro a w1 ⟨hcs, hrb, hfz, hB⟩ hx hd K hK
   have hcs' := hcs
   obtain ⟨c0, c1, c2, c3, c4, c5⟩ := hcs'
   have t23 : a.tmps[23]?.getD undef = .pointer (some ⟨w.heap.size + 1, 2, none⟩) := Reg.slot_val (hd 18 (by kernel_rfl) 23 rfl)
   go_simp
   exact hK _ _ (fun _ => rfl) (fun h => by cases h) ⟨hcs, hrb, hfz, hB⟩ trivial
  ·rintro a w1 ⟨hcs, hrb, hfz, hB⟩ hx hd K hK
   have hcs' := hcs
   obtain ⟨c0, c1, c2, c3, c4, c5⟩ := hcs'
   have t22 : a.tmps[22]?.getD undef = .float .f32 x := Reg.slot_val (hd 17 (by kernel_rfl) 22 rfl)
   have t24 : a.tmps[24]?.getD undef = .float .f32 z' := Reg.slot_val (hd 19 (by kernel_rfl) 24 rfl)
   go_simp
   refine (impl_product32 _ _ _ _ _ h1 h3').mono ?_
   rintro en w2 ⟨r, rfl, hr, n1, rfl⟩
   exact hK _ _ (fun _ => ⟨r, rfl, hr⟩) (fun h => by cases h) ⟨hcs, hrb, hfz, below_drewN hB _⟩ trivial
  ·rintro a w1 ⟨hcs, hrb, hfz, hB⟩ hx hd K hK
   have hcs' := hcs
   obtain ⟨c0, c1, c2, c3, c4, c5⟩ := hcs'
   obtain ⟨r20, g20, f20⟩ := hd 15 (by kernel_rfl) 20 rfl
   have t20 := Reg.slot_val g20
   clear g20
   obtain ⟨r25, g25, f25⟩ := hd 20 (by kernel_rfl) 25 rfl
   have t25 := Reg.slot_val g25
   clear g25
   go_simp
   exact hK _ _ (fun _ => ⟨_, rfl, FV_fR f20 f25⟩) (fun h => by cases h) ⟨hcs, hrb, hfz, below_drewN hB _⟩ trivial
  ·rintro a w1 ⟨hcs, hrb, hfz, hB⟩ hx hd K hK
   have hcs' := hcs
   obtain ⟨c0, c1, c2, c3, c4, c5⟩ := hcs'
   have t2 : a.tmps[2]?.getD undef = .pointer (some ⟨w.heap.size, 0, none⟩) := Reg.slot_val (hx 2 (by kernel_rfl))
   go_simp
   exact hK _ _ (fun _ => rfl) (fun h => by cases h) ⟨hcs, hrb, hfz, hB⟩ trivial
  ·rintro a w1 ⟨hcs, hrb, hfz, hB⟩ hx hd K hK
   have hcs' := hcs
   obtain ⟨c0, c1, c2, c3, c4, c5⟩ := hcs'
   have t27 : a.tmps[27]?.getD undef = .pointer (some ⟨w.heap.size, 0, none⟩) := Reg.slot_val (hd 22 (by kernel_rfl) 27 rfl)
   go_simp
   exact hK _ _ (fun _ => rfl) (fun h => by cases h) ⟨hcs, hrb, hfz, hB⟩ trivial
  ·rintro a w1 ⟨hcs, hrb, hfz, hB⟩ hx hd K hK
   have hcs' := hcs
   obtain ⟨c0, c1, c2, c3, c4, c5⟩ := hcs'
   have t3 : a.tmps[3]?.getD undef = .pointer (some ⟨w.heap.size + 1, 0, none⟩) := Reg.slot_val (hx 3 (by kernel_rfl))
   go_simp
   exact hK _ _ (fun _ => rfl) (fun h => by cases h) ⟨hcs, hrb, hfz, hB⟩ trivial
  ·rintro a w1 ⟨hcs, hrb, hfz, hB⟩ hx hd K hK
   have hcs' := hcs
   obtain ⟨c0, c1, c2, c3, c4, c5⟩ := hcs'
   have t29 : a.tmps[29]?.getD undef = .pointer (some ⟨w.heap.size + 1, 1, none⟩) := Reg.slot_val (hd 24 (by kernel_rfl) 29 rfl)
   go_simp
   exact hK _ _ (fun _ => rfl) (fun h => by cases h) ⟨hcs, hrb, hfz, hB⟩ trivial
  ·rintro a w1 ⟨hcs, hrb, hfz, hB⟩ hx hd K hK
   have hcs' := hcs
   obtain ⟨c0, c1, c2, c3, c4, c5⟩ := hcs'
   have t28 : a.tmps[28]?.getD undef = .float .f32 x := Reg.slot_val (hd 23 (by kernel_rfl) 28 rfl)
   have t30 : a.tmps[30]?.getD undef = .float .f32 y' := Reg.slot_val (hd 25 (by kernel_rfl) 30 rfl)
   go_simp
   refine (impl_product32 _ _ _ _ _ h1 h2').mono ?_
   rintro en w2 ⟨r, rfl, hr, n1, rfl⟩
   exact hK _ _ (fun _ => ⟨r, rfl, hr⟩) (fun h => by cases h) ⟨hcs, hrb, hfz, below_drewN hB _⟩ trivial
  ·rintro a w1 ⟨hcs, hrb, hfz, hB⟩ hx hd K hK
   have hcs' := hcs
   obtain ⟨c0, c1, c2, c3, c4, c5⟩ := hcs'
   have t2 : a.tmps[2]?.getD undef = .pointer (some ⟨w.heap.size, 0, none⟩) := Reg.slot_val (hx 2 (by kernel_rfl))
   go_simp
   exact hK _ _ (fun _ => rfl) (fun h => by cases h) ⟨hcs, hrb, hfz, hB⟩ trivial
  ·rintro a w1 ⟨hcs, hrb, hfz, hB⟩ hx hd K hK
   have hcs' := hcs
   obtain ⟨c0, c1, c2, c3, c4, c5⟩ := hcs'
   have t32 : a.tmps[32]?.getD undef = .pointer (some ⟨w.heap.size, 1, none⟩) := Reg.slot_val (hd 27 (by kernel_rfl) 32 rfl)
   go_simp
   exact hK _ _ (fun _ => rfl) (fun h => by cases h) ⟨hcs, hrb, hfz, hB⟩ trivial
  ·rintro a w1 ⟨hcs, hrb, hfz, hB⟩ hx hd K hK
   have hcs' := hcs
   obtain ⟨c0, c1, c2, c3, c4, c5⟩ := hcs'
   have t3 : a.tmps[3]?.getD undef = .pointer (some ⟨w.heap.size + 1, 0, none⟩) := Reg.slot_val (hx 3 (by kernel_rfl))
   go_simp
   exact hK _ _ (fun _ => rfl) (fun h => by cases h) ⟨hcs, hrb, hfz, hB⟩ trivial
  ·rintro a w1 ⟨hcs, hrb, hfz, hB⟩ hx hd K hK
   have hcs' := hcs
   obtain ⟨c0, c1, c2, c3, c4, c5⟩ := hcs'
   have t34 : a.tmps[34]?.getD undef = .pointer (some ⟨w.heap.size + 1, 0, none⟩) := Reg.slot_val (hd 29 (by kernel_rfl) 34 rfl)
   go_simp
   exact hK _ _ (fun _ => rfl) (fun h => by cases h) ⟨hcs, hrb, hfz, hB⟩ trivial
  ·rintro a w1 ⟨hcs, hrb, hfz, hB⟩ hx hd K hK
   have hcs' := hcs
   obtain ⟨c0, c1, c2, c3, c4, c5⟩ := hcs'
   have t33 : a.tmps[33]?.getD undef = .float .f32 y := Reg.slot_val (hd 28 (by kernel_rfl) 33 rfl)
   have t35 : a.tmps[35]?.getD undef = .float .f32 x' := Reg.slot_val (hd 30 (by kernel_rfl) 35 rfl)
   go_simp
   refine (impl_product32 _ _ _ _ _ h2 h1').mono ?_
   rintro en w2 ⟨r, rfl, hr, n1, rfl⟩
   exact hK _ _ (fun _ => ⟨r, rfl, hr⟩) (fun h => by cases h) ⟨hcs, hrb, hfz, below_drewN hB _⟩ trivial
  ·rintro a w1 ⟨hcs, hrb, hfz, hB⟩ hx hd K hK
   have hcs' := hcs
   obtain ⟨c0, c1, c2, c3, c4, c5⟩ := hcs'
   obtain ⟨r31, g31, f31⟩ := hd 26 (by kernel_rfl) 31 rfl
   have t31 := Reg.slot_val g31
   clear g31
   obtain ⟨r36, g36, f36⟩ := hd 31 (by kernel_rfl) 36 rfl
   have t36 := Reg.slot_val g36
   clear g36
   go_simp
   exact hK _ _ (fun _ => ⟨_, rfl, FV_fR f31 f36⟩) (fun h => by cases h) ⟨hcs, hrb, hfz, below_drewN hB _⟩ trivial
  ·rintro a w1 ⟨hcs, hrb, hfz, hB⟩ hx hd K hK
   have hcs' := hcs
   obtain ⟨c0, c1, c2, c3, c4, c5⟩ := hcs'
   obtain ⟨r15, g15, f15⟩ := hd 10 (by kernel_rfl) 15 rfl
   have t15 := Reg.slot_val g15
   clear g15
   obtain ⟨r26, g26, f26⟩ := hd 21 (by kernel_rfl) 26 rfl
   have t26 := Reg.slot_val g26
   clear g26
   obtain ⟨r37, g37, f37⟩ := hd 32 (by kernel_rfl) 37 rfl
   have t37 := Reg.slot_val g37
   clear g37
   go_simp
   exact hK _ _ (fun _ => ⟨_, _, _, rfl, f15, f26, f37⟩) (fun h => by cases h) ⟨hcs, hrb, hfz, hB⟩ trivial
  ·rintro a w1 ⟨hcs, hrb, hfz, hB⟩ hx hd K hK
   have hcs' := hcs
   obtain ⟨c0, c1, c2, c3, c4, c5⟩ := hcs'
   have t4 : a.tmps[4]?.getD undef = .pointer (some ⟨w.heap.size + 1 + 1, 0, none⟩) := Reg.slot_val (hx 4 (by kernel_rfl))
   obtain ⟨r38, p38, q38, g38, f38⟩ := hd 33 (by kernel_rfl) 38 rfl
   have t38 := Reg.slot_val g38
   clear g38
   obtain ⟨u0, u1, u2, q0, q1, q2⟩ := hrb
   obtain ⟨z0, z1, z2⟩ := hfz
   go_simp
   have s3 := set3 (u := .float .f32 r38) (v := .float .f32 p38) (t := .float .f32 q38) q0 q1 q2
   refine hK undef _ (fun h => absurd rfl h) (fun _ => ⟨r38, p38, q38, s3.1, s3.2.1, s3.2.2, f38⟩) ⟨⟨cell_set (by first | omega | (simp <;> omega)) (cell_set (by first | omega | (simp <;> omega)) (cell_set (by first | omega | (simp <;> omega)) c0)), cell_set (by first | omega | (simp <;> omega)) (cell_set (by first | omega | (simp <;> omega)) (cell_set (by first | omega | (simp <;> omega)) c1)), cell_set (by first | omega | (simp <;> omega)) (cell_set (by first | omega | (simp <;> omega)) (cell_set (by first | omega | (simp <;> omega)) c2)), cell_set (by first | omega | (simp <;> omega)) (cell_set (by first | omega | (simp <;> omega)) (cell_set (by first | omega | (simp <;> omega)) c3)), cell_set (by first | omega | (simp <;> omega)) (cell_set (by first | omega | (simp <;> omega)) (cell_set (by first | omega | (simp <;> omega)) c4)), cell_set (by first | omega | (simp <;> omega)) (cell_set (by first | omega | (simp <;> omega)) (cell_set (by first | omega | (simp <;> omega)) c5))⟩, ⟨_, _, _, s3⟩, ⟨by simp [z0], by simp [z1], by simp [z2]⟩, below_set3 hB (by first | omega | (simp <;> omega))⟩ trivial
 ·rintro f w1 ⟨hcs, hrb, hfz, hB⟩ hd hT
  obtain ⟨a, b, g, s0, s1, s2, fa, fb, fg⟩ := hT 34 rfl (by decide)
  simp only [Reg.mixL]
  go_wp2
  refine bodyPost_ret (v := vv a b g) (by simp [results, Tryz.results258, go_sem, s0, s1, s2]) rfl ⟨_, _, _, rfl, fa, fb, fg, hB⟩
end Go.Proofs.YtabccmobmppdnaaGreat
namespace Go.Proofs.YtabccmobmppdnaaGreat
namespace Fk
open Go
set_option linter.unusedVariables false
theorem MB_write (k : FloatKind) (s : Bool) (m : Nat) (p e : Int) (h : m ≠ 0 → p + m.log2 < e) (he : k.format.leastPlace + k.format.fractionBits + 1 ≤ e)
  (hi : e ≤ 100) : MB k (k.format.write (.number s m p)) (e + 1) := by
 obtain ⟨r, hr, hb, _⟩ := nearest_small k.format s m p e h he
 have hB : 0 < k.format.binade := Nat.two_pow_pos _
 have hSB : k.format.infRung < k.format.signWeight := k.format.infRung_lt
 have hinf : (101 - k.format.fractionBits - k.format.leastPlace + 1).toNat * k.format.binade < k.format.infRung := by cases k <;> decide
 have hle : (e - k.format.fractionBits - k.format.leastPlace + 1).toNat ≤ (101 - k.format.fractionBits - k.format.leastPlace + 1).toNat := by omega
 have hlt : r < k.format.infRung := Nat.lt_of_le_of_lt (Nat.le_trans hb (Nat.mul_le_mul_right _ hle)) hinf
 show MB k (k.format.nearest s m p) (e + 1)
 rw [hr]
 unfold MB
 show ∃ s' m' p', k.format.read (k.format.word s r) = .number s' m' p' ∧ _
 unfold Ieee.Format.read
 dsimp only
 rw [word_mod _ _ _ (by omega)]
 have hfb : k.format.binade = 2 ^ k.format.fractionBits := rfl
 by_cases h1 : r < k.format.binade
 ·rw [if_pos h1]
  refine ⟨_, _, _, rfl, fun h0 => ?_⟩
  have : r.log2 < k.format.fractionBits := (Nat.log2_lt h0).2 (by rw [← hfb]; exact h1)
  omega
 ·rw [if_neg h1, if_pos hlt]
  refine ⟨_, _, _, rfl, fun h0 => ?_⟩
  have ht := Nat.mod_lt r hB
  have hl : (k.format.binade + r % k.format.binade).log2 < k.format.fractionBits + 1 := (Nat.log2_lt h0).2 (by rw [Nat.pow_succ, ← hfb]; omega)
  have hq : r / k.format.binade ≤ (e - k.format.fractionBits - k.format.leastPlace + 1).toNat := by
   have := Nat.div_le_div_right (c := k.format.binade) hb
   rwa [Nat.mul_div_cancel _ hB] at this
  have hq1 : 1 ≤ r / k.format.binade := (Nat.le_div_iff_mul_le hB).2 (by omega)
  omega
theorem rootFrom_lt (n : Nat) : ∀ (todo root : Nat), Ieee.Datum.rootFrom n todo root + 1 ≤ root + 2 ^ todo
 | 0, root => by simp [Ieee.Datum.rootFrom]
 | todo + 1, root => by
  unfold Ieee.Datum.rootFrom
  dsimp only
  have hs : (root + 1 <<< todo) = root + 2 ^ todo := by rw [Nat.shiftLeft_eq, Nat.one_mul]
  have h2 : 2 ^ (todo + 1) = 2 ^ todo + 2 ^ todo := by rw [Nat.pow_succ]; omega
  have hp := Nat.two_pow_pos todo
  rw [h2]
  split
  ·have := rootFrom_lt n todo (root + 1 <<< todo); rw [hs] at this ⊢; generalize 2 ^ todo = t at *; omega
  ·have := rootFrom_lt n todo root; generalize 2 ^ todo = t at *; omega
theorem root_ok {d : Nat} {x y : Ieee.Datum} (h : x.root d = some y) : x.isNaN = false ∧ y.isNaN = false := by
 cases x with
 | nan s t => simp [Ieee.Datum.root] at h
 | infinity s =>
  simp only [Ieee.Datum.root] at h
  split at h
  ·cases h
  ·cases h; exact ⟨rfl, rfl⟩
 | number s m i =>
  refine ⟨rfl, ?_⟩
  simp only [Ieee.Datum.root] at h
  split at h
  ·cases h; rfl
  ·split at h
   ·cases h
   ·cases h; rfl
theorem root_small (d : Nat) (x y : Ieee.Datum) (s : Bool) (m : Nat) (i : Int) (hx : x = .number s m i) (hb : m ≠ 0 → i + m.log2 < 129) (h : x.root d = some y) :
  ∃ s' m' i', y = .number s' m' i' ∧ (m' ≠ 0 → i' + m'.log2 < 67) := by
 subst hx
 simp only [Ieee.Datum.root] at h
 split at h
 ·rename_i h0; cases h; exact ⟨_, _, _, rfl, fun h => absurd h0 h⟩
 ·rename_i h0
  split at h
  ·cases h
  ·cases h
   refine ⟨_, _, _, rfl, fun _ => ?_⟩
   have hb' := hb h0
   generalize hmore : (2 * d - m.log2) + ((i - ((2 * d - m.log2 : Nat) : Int)) % 2).toNat = more
   generalize hn : m <<< more = n
   have hnl : n.log2 ≤ m.log2 + more := by
    by_cases hn0 : n = 0
    ·rw [hn0]; simp
    ·have h1 : n < 2 ^ (m.log2 + more + 1) := by
      rw [← hn, Nat.shiftLeft_eq]
      have : m * 2 ^ more < 2 ^ (m.log2 + 1) * 2 ^ more := Nat.mul_lt_mul_of_pos_right Nat.lt_log2_self (Nat.two_pow_pos _)
      rw [← Nat.pow_add] at this
      exact Nat.lt_of_lt_of_le this (Nat.pow_le_pow_right (by decide) (by omega))
     have := (Nat.log2_lt hn0).2 h1
     omega
   have hw := rootFrom_lt n (n.log2 / 2 + 1) 0
   rw [Nat.zero_add] at hw
   generalize Ieee.Datum.rootFrom n (n.log2 / 2 + 1) 0 = whole at hw ⊢
   have hbit : ((whole * whole != n).toNat) ≤ 1 := by cases (whole * whole != n) <;> simp
   generalize (whole * whole != n).toNat = b at hbit ⊢
   by_cases hz : 2 * whole + b = 0
   ·rw [hz]; simp; omega
   ·have hl : (2 * whole + b).log2 < n.log2 / 2 + 2 := (Nat.log2_lt hz).2 (by rw [Nat.pow_succ]; omega)
    omega
def fsq (c : Option Nat) : Option Nat := c.bind fun a => FloatKind.f64.format.sqrt a
def sR (x : Nat) (w : World) : Nat :=
 match FloatKind.f64.format.sqrt x with
 | some r => r
 | none => (Question.nanBits .f64 x x).cut (w.tape w.drawn (.nanBits .f64 x x))
def sN (x : Nat) : Nat :=
 match FloatKind.f64.format.sqrt x with
 | some _ => 0
 | none => 1
theorem FV_sR {x : Nat} {w : World} {c : Option Nat} (h : FV .f64 x c) : FV .f64 (sR x w) (fsq c) := by
 unfold sR fsq
 cases hs : FloatKind.f64.format.sqrt x with
 | some r =>
  refine have e := hs; ?_
  unfold Ieee.Format.sqrt at hs
  obtain ⟨d, hd, rfl⟩ := Option.map_eq_some_iff.1 hs
  have := root_ok hd
  have ec : c = some x := by rw [← h.2]; exact cls_num this.1
  subst ec
  refine ⟨FloatKind.f64.format.sqrt_lt e, ?_⟩
  rw [cls_num (isNaN_write .f64 d this.2)]
  exact e.symm
 | none =>
  have hc := cut_nan .f64 x x (w.tape w.drawn (.nanBits .f64 x x))
  refine ⟨hc.1, ?_⟩
  rw [cls_nan hc.2]
  cases c with
  | none => rfl
  | some a => obtain rfl := h.num; exact hs.symm
theorem run_sqrt {P : Program} (x : Nat) (w : World) : (Extern.MathSqrt.sqrt #[.float .f64 x]).run P w = .ok (.float .f64 (sR x w)) (w.drewN (sN x)) := by
 have hq : (Question.nanBits .f64 x x).forced = false := rfl
 unfold sR sN
 cases hs : FloatKind.f64.format.sqrt x with
 | some r =>
  show (match FloatKind.f64.format.sqrt x with | some r => (pure (.float .f64 r) : Sem Value) | none => do pure (.float .f64 (← choose (.nanBits .f64 x x)))).run P w = _
  rw [hs]; rfl
 | none =>
  show (match FloatKind.f64.format.sqrt x with | some r => (pure (.float .f64 r) : Sem Value) | none => do pure (.float .f64 (← choose (.nanBits .f64 x x)))).run P w = _
  rw [hs]; simp [hq]; rfl
theorem MB_wid {x : Nat} {s : Bool} {m : Nat} {p : Int} (h : FloatKind.f32.decode x = .number s m p) : MB .f64 (wid x) 129 := by
 obtain ⟨h1, h2, h3⟩ := decode32 x s m p h
 obtain ⟨r, he, hr⟩ := wid_word x s m p h
 unfold MB
 rw [he]
 show ∃ s' m' p', Ieee.double.read (Ieee.double.word s r) = .number s' m' p' ∧ _
 have e1 : Ieee.double.binade = 4503599627370496 := by decide
 have e2 : Ieee.double.infRung = 9218868437227405312 := by decide
 have e3 : Ieee.double.leastPlace = -1074 := by decide
 unfold Ieee.Format.read
 dsimp only
 rw [word_mod _ _ _ (show r < Ieee.double.signWeight by rw [show Ieee.double.signWeight = 9223372036854775808 by decide]; omega)]
 by_cases h1 : r < Ieee.double.binade
 ·rw [if_pos h1]
  refine ⟨_, _, _, rfl, fun h0 => ?_⟩
  have : r.log2 < 53 := (Nat.log2_lt h0).2 (by rw [e1] at h1; omega)
  rw [e3]; omega
 ·rw [if_neg h1, if_pos (by rw [e2]; omega)]
  refine ⟨_, _, _, rfl, fun h0 => ?_⟩
  rw [e1] at h0 h1 ⊢
  rw [e3]
  have hl : (4503599627370496 + r % 4503599627370496).log2 < 53 := (Nat.log2_lt h0).2 (by omega)
  omega
theorem ovf_sR {x : Nat} {w w' : World} (hx : x < 2 ^ FloatKind.f32.format.width) : ovf (sR (wR x w) w') = false := by
 cases hd : FloatKind.f64.decode (sR (wR x w) w') with
 | nan s t => unfold ovf; rw [hd]
 | infinity s => unfold ovf; rw [hd]
 | number s m p =>
  have hv := FV_sR (w := w') (FV_wR (w := w) (FV.self (k := .f32) hx))
  have hn : (FloatKind.f64.decode (sR (wR x w) w')).isNaN = false := by rw [hd]; rfl
  have hc := hv.2
  rw [cls_num hn] at hc
  unfold fsq cls at hc
  split at hc
  ·cases hc
  ·rename_i hnx
   have hc' : FloatKind.f64.format.sqrt (wid x) = some (sR (wR x w) w') := hc.symm
   unfold Ieee.Format.sqrt at hc'
   obtain ⟨d, hd', he⟩ := Option.map_eq_some_iff.1 hc'
   cases hdx : FloatKind.f32.decode x with
   | nan s t => rw [hdx] at hnx; simp [Ieee.Datum.isNaN] at hnx
   | infinity t =>
    have : FloatKind.f64.format.read (wid x) = .infinity t := by
     unfold wid; rw [hdx]; cases t <;> decide
    rw [this] at hd'
    have hdi : d = .infinity false := by
     cases t
     ·simp only [Ieee.Datum.root] at hd'; cases hd'; rfl
     ·simp [Ieee.Datum.root] at hd'
    rw [hdi] at he
    rw [← he] at hd
    have e9 : FloatKind.f64.decode (FloatKind.f64.format.write (.infinity false)) = .infinity false := by decide
    rw [e9] at hd; cases hd
   | number t n q =>
    obtain ⟨s1, m1, p1, h1, h2⟩ := MB_wid hdx
    obtain ⟨s2, m2, p2, h3, h4⟩ := root_small _ _ _ s1 m1 p1 h1 h2 hd'
    subst h3
    have := MB_write .f64 s2 m2 p2 67 h4 (by decide) (by decide)
    rw [he] at this
    exact ovf_small (this.mono (by decide))
end Fk
end Go.Proofs.YtabccmobmppdnaaGreat
namespace Go.Proofs.YtabccmobmppdnaaGreat
open Go Fk Go.RowKit
set_option linter.unusedVariables false
def rootC (c : Option Nat) : Option Nat := (fsq (c.map wid)).map nar
@[go_sem] theorem ext_sqrt (x : Nat) (w : World) : (callFunc 191 #[.float .f64 x]).run Tryz.prog w = .ok (.value (.float .f64 (sR x w))) (w.drewN (sN x)) := by
 rw [run_callFunc_extern (e := Extern.MathSqrt.sqrt) Tryz.func191 (by kernel_rfl) (by kernel_rfl) (by kernel_rfl) (by kernel_rfl), run_sqrt]; rfl
theorem math_Sqrt (x : Nat) (w : World) :
  Calls Tryz.prog 174 #[.float .f64 x] w fun e w' => e = .returned (.float .f64 (sR x w)) ∧ ∃ n, w' = w.drewN n := by
 go_enter Tryz.func174, Tryz.ntmps174
 go_wp2
 go_ret
 exact ⟨rfl, _, rfl⟩
theorem impl_Narrow (y : Nat) (w : World) :
  Calls Tryz.prog 192 #[.float .f64 y] w fun e w' => e = .returned (.float .f32 (nR y w)) ∧ ∃ n, w' = w.drewN n := by
 have u := Tryz.underlying58
 have u' := Tryz.underlying27
 go_enter Tryz.func192, Tryz.ntmps192
 go_wp2
 go_ret
 exact ⟨rfl, _, rfl⟩
theorem spec_Narrow (y : Nat) (w : World) :
  Calls Tryz.prog 173 #[.float .f64 y] w fun e w' => e = .returned (.float .f32 (nR y w)) ∧ ∃ n, w' = w.drewN n := by
 have u := Tryz.underlying58
 have u' := Tryz.underlying27
 go_enter Tryz.func173, Tryz.ntmps173
 go_wp2
 go_ret
 exact ⟨rfl, _, rfl⟩
theorem FV_root {x : Nat} {c : Option Nat} {w w' w'' : World} (h : FV .f32 x c) : FV .f32 (nR (sR (wR x w) w') w'') (rootC c) :=
 FV_nR (FV_sR (FV_wR h)) (ovf_sR h.1)
theorem impl_RootNumber (x : Nat) (c : Option Nat) (w : World) (h : FV .f32 x c) :
  Calls Tryz.prog 175 #[.float .f32 x] w fun e w' => ∃ r, e = .returned (.float .f32 r) ∧ FV .f32 r (rootC c) ∧ ∃ n, w' = w.drewN n := by
 have u := Tryz.underlying58
 have u' := Tryz.underlying27
 go_enter Tryz.func175, Tryz.ntmps175
 go_wp2_with (first
  | (go_at_call 174; refine (math_Sqrt _ _).mono ?_; rintro e w' ⟨rfl, n, rfl⟩)
  | (go_at_call 192; refine (impl_Narrow _ _).mono ?_; rintro e w' ⟨rfl, n, rfl⟩))
 go_ret
 exact ⟨_, rfl, FV_root h, _, rfl⟩
theorem l01Sqrt (x : Nat) (c : Option Nat) (w : World) (h : FV .f32 x c) :
  Calls Tryz.prog 136 #[.float .f32 x] w fun e w' => ∃ r, e = .returned (.float .f32 r) ∧ FV .f32 r (rootC c) ∧ ∃ n, w' = w.drewN n := by
 have u := Tryz.underlying58
 have u' := Tryz.underlying27
 go_enter Tryz.func136, Tryz.ntmps136
 go_wp2_with (first
  | (go_at_call 174; refine (math_Sqrt _ _).mono ?_; rintro e w' ⟨rfl, n, rfl⟩)
  | (go_at_call 173; refine (spec_Narrow _ _).mono ?_; rintro e w' ⟨rfl, n, rfl⟩))
 go_ret
 exact ⟨_, rfl, FV_root h, _, rfl⟩
end Go.Proofs.YtabccmobmppdnaaGreat
namespace Go.Proofs.YtabccmobmppdnaaGreat
open Go Fk Go.RowKit
set_option linter.unusedVariables false
theorem impl_LongOf (x y z : Nat) (w : World) (c d e : Option Nat) (h1 : FV .f32 x c) (h2 : FV .f32 y d) (h3 : FV .f32 z e) :
  Calls Tryz.prog 249 #[vv x y z] w fun en w' => ∃ a, en = .returned (.float .f32 a) ∧ FV .f32 a (rootC (fop .add .f32 (fop .add .f32 (fop .mul .f32 c c) (fop .mul .f32 d d)) (fop .mul .f32 e e))) ∧ Below w.heap.size w w' := by
 have u := Tryz.underlying27
 have uv := Tryz.underlying42
 go_enter Tryz.func249, Tryz.ntmps249
 go_wp2_with (first
  | (go_at_call 172; refine (impl_InnerOf _ _ _ _ _ _ _ _ _ _ _ _ _ h1 h2 h3 h1 h2 h3).mono ?_; rintro en w1 ⟨a, rfl, ha, hb1⟩)
  | (go_at_call 175; refine (impl_RootNumber _ _ _ ha).mono ?_; rintro en w2 ⟨r, rfl, hr, n, rfl⟩))
 go_ret
 exact ⟨_, rfl, hr, below_drewN (((Below.refl _ _).alloc (Nat.le_refl _) _).trans (hb1.mono (by simp))) _⟩
theorem l01Long (x y z : Nat) (w : World) (c d e : Option Nat) (h1 : FV .f32 x c) (h2 : FV .f32 y d) (h3 : FV .f32 z e) :
  Calls Tryz.prog 166 #[vv x y z] w fun en w' => ∃ a, en = .returned (.float .f32 a) ∧ FV .f32 a (rootC (fop .add .f32 (fop .add .f32 (fop .mul .f32 c c) (fop .mul .f32 d d)) (fop .mul .f32 e e))) ∧ Below w.heap.size w w' := by
 have u := Tryz.underlying27
 have uv := Tryz.underlying42
 go_enter Tryz.func166, Tryz.ntmps166
 go_wp2_with (first
  | (go_at_call 171; refine (l01Inner _ _ _ _ _ _ _ _ _ _ _ _ _ h1 h2 h3 h1 h2 h3).mono ?_; rintro en w1 ⟨a, rfl, ha, hb1⟩)
  | (go_at_call 136; refine (l01Sqrt _ _ _ ha).mono ?_; rintro en w2 ⟨r, rfl, hr, n, rfl⟩))
 go_ret
 exact ⟨_, rfl, hr, below_drewN (((Below.refl _ _).alloc (Nat.le_refl _) _).trans (hb1.mono (by simp))) _⟩
end Go.Proofs.YtabccmobmppdnaaGreat
namespace Go.Proofs.YtabccmobmppdnaaGreat
namespace Fk
open Go
set_option linter.unusedVariables false
def mxR (k : FloatKind) (x y : Nat) (w : World) : Nat :=
 match k.format.order x y with
 | none => (Question.nanMinMax k true x y).cut (w.tape w.drawn (.nanMinMax k true x y))
 | some .lt => y
 | some .gt => x
 | some .eq => if (k.decode x).neg then y else x
def mxN (k : FloatKind) (x y : Nat) : Nat := match k.format.order x y with | none => 1 | some _ => 0
@[go_sem] theorem run_max {P : Program} (w : World) (ats : Array TypeId) (ty : TypeId) (k : FloatKind) (x y : Nat) :
  (Builtin.max_ ats ty #[.float k x, .float k y]).run P w = .ok (.float k (mxR k x y w)) (w.drewN (mxN k x y)) := by
 have hq : (Question.nanMinMax k true x y).forced = false := rfl
 unfold mxR mxN
 cases ho : k.format.order x y with
 | none => simp [Builtin.max_, Builtin.max2, ho, hq]; rfl
 | some o => cases o <;> simp [Builtin.max_, Builtin.max2, ho] <;> rfl
end Fk
end Go.Proofs.YtabccmobmppdnaaGreat

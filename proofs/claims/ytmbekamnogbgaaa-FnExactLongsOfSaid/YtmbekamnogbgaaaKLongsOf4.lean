/-
Texts in one: what LongsOf stands on, part 4. Conditions: those of each.
-/
import Derived.Test.YtmbekamnogbgaaaKLongsOf3

/-
Products of vectors: what the program and its model return. Conditions: none beyond that the words fit.
-/
namespace Go.Proofs.Ytmbekamnogbgaaa
open Go Fk Go.RowKit
set_option linter.unusedVariables false

theorem impl_product32 (x y : Nat) (w : World) (c d : Option Nat) (h1 : FV .f32 x c) (h2 : FV .f32 y d) :
    Calls Try.prog 165 #[.float .f32 x, .float .f32 y] w fun en w' => ∃ r, en = .returned (.float .f32 r) ∧ FV .f32 r (fop .mul .f32 c d) ∧ ∃ n, w' = w.drewN n := by
  have u := Try.underlying31
  go_enter Try.func165, Try.ntmps165
  go_wp2
  go_ret
  exact ⟨_, rfl, FV_fR h1 h2, _, rfl⟩

theorem l01Scale (x y z r : Nat) (w : World) (c d e q : Option Nat) (h1 : FV .f32 x c) (h2 : FV .f32 y d) (h3 : FV .f32 z e) (hr : FV .f32 r q) :
    Calls Try.prog 121 #[vv x y z, .float .f32 r] w fun en w' => ∃ a b g, en = .returned (vv a b g) ∧ FV .f32 a (fop .mul .f32 c q) ∧ FV .f32 b (fop .mul .f32 d q) ∧ FV .f32 g (fop .mul .f32 e q) ∧ Below w.heap.size w w' := by
  have u := Try.underlying31
  have uv := Try.underlying34
  go_enter Try.func121, Try.ntmps121
  go_wp2
  refine bodyPost_ret (v := vv _ _ _) (by simp [results, Try.results121, go_sem] <;> exact ⟨rfl, rfl, rfl⟩) rfl ⟨_, _, _, rfl, FV_fR h1 hr, FV_fR h2 hr, FV_fR h3 hr, ?_⟩
  exact below_drewN (((Below.refl _ _).alloc (Nat.le_refl _) _).alloc (by simp) _) _
set_option maxHeartbeats 2000000 in
theorem impl_ScaleVector (x y z r : Nat) (w : World) (c d e q : Option Nat) (h1 : FV .f32 x c) (h2 : FV .f32 y d) (h3 : FV .f32 z e) (hr : FV .f32 r q) :
    Calls Try.prog 150 #[vv x y z, .float .f32 r] w fun en w' => ∃ a b g, en = .returned (vv a b g) ∧ FV .f32 a (fop .mul .f32 c q) ∧ FV .f32 b (fop .mul .f32 d q) ∧ FV .f32 g (fop .mul .f32 e q) ∧ Below w.heap.size w w' := by
  have u := Try.underlying31
  have uv := Try.underlying34
  go_enter Try.func150, Try.ntmps150
  go_wp2_with fail
  go_region_held3 (fun w' => w'.cell? ⟨w.heap.size, 0, none⟩ = some (.float .f32 x) ∧ w'.cell? ⟨w.heap.size, 1, none⟩ = some (.float .f32 y) ∧ w'.cell? ⟨w.heap.size, 2, none⟩ = some (.float .f32 z)) (go_keep) ((go_at_call 165; refine (impl_product32 _ _ _ _ _ (by assumption) (by assumption)).mono ?_; rintro en w1 ⟨r1, rfl, hr1, n1, rfl⟩))
  all_goals
    go_wp2
    refine bodyPost_ret (v := vv _ _ _) (by simp [results, Try.results150, go_sem] <;> exact ⟨rfl, rfl, rfl⟩) rfl ⟨_, _, _, rfl, (by first | assumption | exact FV_fR (by assumption) (by assumption)), (by first | assumption | exact FV_fR (by assumption) (by assumption)), (by first | assumption | exact FV_fR (by assumption) (by assumption)), below_drewN (((Below.refl _ _).alloc (Nat.le_refl _) _).alloc (by simp) _) _⟩
theorem l01Cross (x y z x' y' z' : Nat) (w : World) (c d e c' d' e' : Option Nat) (h1 : FV .f32 x c) (h2 : FV .f32 y d) (h3 : FV .f32 z e) (h1' : FV .f32 x' c') (h2' : FV .f32 y' d') (h3' : FV .f32 z' e') :
    Calls Try.prog 168 #[vv x y z, vv x' y' z'] w fun en w' => ∃ a b g, en = .returned (vv a b g) ∧ FV .f32 a (fop .sub .f32 (fop .mul .f32 d e') (fop .mul .f32 e d')) ∧ FV .f32 b (fop .sub .f32 (fop .mul .f32 e c') (fop .mul .f32 c e')) ∧ FV .f32 g (fop .sub .f32 (fop .mul .f32 c d') (fop .mul .f32 d c')) ∧ Below w.heap.size w w' := by
  have u := Try.underlying31
  have uv := Try.underlying34
  go_enter Try.func168, Try.ntmps168
  go_wp2
  refine bodyPost_ret (v := vv _ _ _) (by simp [results, Try.results168, go_sem] <;> exact ⟨rfl, rfl, rfl⟩) rfl ⟨_, _, _, rfl, FV_fR (FV_fR h2 h3') (FV_fR h3 h2'), FV_fR (FV_fR h3 h1') (FV_fR h1 h3'), FV_fR (FV_fR h1 h2') (FV_fR h2 h1'), below_drewN ((((Below.refl _ _).alloc (Nat.le_refl _) _).alloc (by simp) _).alloc (by simp; omega) _) _⟩
theorem l01Inner (x y z x' y' z' : Nat) (w : World) (c d e c' d' e' : Option Nat) (h1 : FV .f32 x c) (h2 : FV .f32 y d) (h3 : FV .f32 z e) (h1' : FV .f32 x' c') (h2' : FV .f32 y' d') (h3' : FV .f32 z' e') :
    Calls Try.prog 160 #[vv x y z, vv x' y' z'] w fun en w' => ∃ a, en = .returned (.float .f32 a) ∧ FV .f32 a (fop .add .f32 (fop .add .f32 (fop .mul .f32 c c') (fop .mul .f32 d d')) (fop .mul .f32 e e')) ∧ Below w.heap.size w w' := by
  have u := Try.underlying31
  have uv := Try.underlying34
  go_enter Try.func160, Try.ntmps160
  go_wp2
  go_ret
  exact ⟨_, rfl, FV_fR (FV_fR (FV_fR h1 h1') (FV_fR h2 h2')) (FV_fR h3 h3'), below_drewN (((Below.refl _ _).alloc (Nat.le_refl _) _).alloc (by simp) _) _⟩
end Go.Proofs.Ytmbekamnogbgaaa


/-
Inner and cross products: what the program returns. Conditions: none beyond that the words fit.
-/
namespace Go.Proofs.Ytmbekamnogbgaaa
open Go Fk Go.RowKit
set_option linter.unusedVariables false
set_option maxRecDepth 8000

def isF (c : Option Nat) (v : Value) : Prop := ∃ r, v = .float .f32 r ∧ FV .f32 r c

theorem impl_InnerOf (x y z x' y' z' : Nat) (w : World) (c d e c' d' e' : Option Nat) (h1 : FV .f32 x c) (h2 : FV .f32 y d) (h3 : FV .f32 z e) (h1' : FV .f32 x' c') (h2' : FV .f32 y' d') (h3' : FV .f32 z' e') :
    Calls Try.prog 164 #[vv x y z, vv x' y' z'] w fun en w' => ∃ a, en = .returned (.float .f32 a) ∧ FV .f32 a (fop .add .f32 (fop .add .f32 (fop .mul .f32 c c') (fop .mul .f32 d d')) (fop .mul .f32 e e')) ∧ Below w.heap.size w w' := by
  have u := Try.underlying31
  have uv := Try.underlying34
  go_enter Try.func164, Try.ntmps164
  go_wp2_with fail
  have k0 : (((w.alloc (.cells #[.float .f32 x, .float .f32 y, .float .f32 z] 34)).alloc (.cells #[.float .f32 x', .float .f32 y', .float .f32 z'] 34)).drewN 1).cell? ⟨w.heap.size, 0, none⟩ = some (.float .f32 x) := by simp
  have k1 : (((w.alloc (.cells #[.float .f32 x, .float .f32 y, .float .f32 z] 34)).alloc (.cells #[.float .f32 x', .float .f32 y', .float .f32 z'] 34)).drewN 1).cell? ⟨w.heap.size, 1, none⟩ = some (.float .f32 y) := by simp
  have k2 : (((w.alloc (.cells #[.float .f32 x, .float .f32 y, .float .f32 z] 34)).alloc (.cells #[.float .f32 x', .float .f32 y', .float .f32 z'] 34)).drewN 1).cell? ⟨w.heap.size, 2, none⟩ = some (.float .f32 z) := by simp
  have k3 : (((w.alloc (.cells #[.float .f32 x, .float .f32 y, .float .f32 z] 34)).alloc (.cells #[.float .f32 x', .float .f32 y', .float .f32 z'] 34)).drewN 1).cell? ⟨w.heap.size + 1, 0, none⟩ = some (.float .f32 x') := by simp
  have k4 : (((w.alloc (.cells #[.float .f32 x, .float .f32 y, .float .f32 z] 34)).alloc (.cells #[.float .f32 x', .float .f32 y', .float .f32 z'] 34)).drewN 1).cell? ⟨w.heap.size + 1, 1, none⟩ = some (.float .f32 y') := by simp
  have k5 : (((w.alloc (.cells #[.float .f32 x, .float .f32 y, .float .f32 z] 34)).alloc (.cells #[.float .f32 x', .float .f32 y', .float .f32 z'] 34)).drewN 1).cell? ⟨w.heap.size + 1, 2, none⟩ = some (.float .f32 z') := by simp
  refine Reg.wp_region_mix (C := fun w' => (w'.cell? ⟨w.heap.size, 0, none⟩ = some (.float .f32 x) ∧ w'.cell? ⟨w.heap.size, 1, none⟩ = some (.float .f32 y) ∧ w'.cell? ⟨w.heap.size, 2, none⟩ = some (.float .f32 z) ∧ w'.cell? ⟨w.heap.size + 1, 0, none⟩ = some (.float .f32 x') ∧ w'.cell? ⟨w.heap.size + 1, 1, none⟩ = some (.float .f32 y') ∧ w'.cell? ⟨w.heap.size + 1, 2, none⟩ = some (.float .f32 z')) ∧ Below w.heap.size w w') (G := fun _ _ => True) (R := fun i v _ => match i with | 0 => v = .pointer (some ⟨w.heap.size, 0, none⟩) | 1 => v = .float .f32 x | 2 => v = .pointer (some ⟨w.heap.size + 1, 0, none⟩) | 3 => v = .float .f32 x' | 4 => isF (fop .mul .f32 c c') v | 5 => v = .pointer (some ⟨w.heap.size, 1, none⟩) | 6 => v = .float .f32 y | 7 => v = .pointer (some ⟨w.heap.size + 1, 1, none⟩) | 8 => v = .float .f32 y' | 9 => isF (fop .mul .f32 d d') v | 10 => isF (fop .add .f32 (fop .mul .f32 c c') (fop .mul .f32 d d')) v | 11 => v = .pointer (some ⟨w.heap.size, 2, none⟩) | 12 => v = .float .f32 z | 13 => v = .pointer (some ⟨w.heap.size + 1, 2, none⟩) | 14 => v = .float .f32 z' | 15 => isF (fop .mul .f32 e e') v | 16 => isF (fop .add .f32 (fop .add .f32 (fop .mul .f32 c c') (fop .mul .f32 d d')) (fop .mul .f32 e e')) v | 17 => isF (fop .add .f32 (fop .add .f32 (fop .mul .f32 c c') (fop .mul .f32 d d')) (fop .mul .f32 e e')) v | _ => True) (T := fun _ a w' => True) [false, false, false, false, true, true, true, true, true, true, true, true, true, true, true, true, true, true, true, true, true, true]
    (by kernel_rfl) (by kernel_rfl) (by kernel_rfl) (fun _ _ _ _ _ _ h => h) ⟨⟨k0, k1, k2, k3, k4, k5⟩, below_drewN (((Below.refl _ _).alloc (Nat.le_refl _) _).alloc (by simp) _) 1⟩ ?_ ?_
  · refine ⟨Reg.Obl.mk ?_, Reg.Obl.mk ?_, Reg.Obl.mk ?_, Reg.Obl.mk ?_, Reg.Obl.mk ?_, Reg.Obl.mk ?_, Reg.Obl.mk ?_, Reg.Obl.mk ?_, Reg.Obl.mk ?_, Reg.Obl.mk ?_, Reg.Obl.mk ?_, Reg.Obl.mk ?_, Reg.Obl.mk ?_, Reg.Obl.mk ?_, Reg.Obl.mk ?_, Reg.Obl.mk ?_, Reg.Obl.mk ?_, Reg.Obl.mk ?_, trivial⟩
    · rintro a w1 ⟨hcs, hB⟩ hx hd K hK
      have hcs' := hcs
      obtain ⟨c0, c1, c2, c3, c4, c5⟩ := hcs'
      have t2 : a.tmps[2]?.getD undef = .pointer (some ⟨w.heap.size, 0, none⟩) := Reg.slot_val (hx 2 (by kernel_rfl))
      go_simp
      exact hK _ _ (fun _ => rfl) (fun h => by cases h) ⟨hcs, hB⟩ trivial
    · rintro a w1 ⟨hcs, hB⟩ hx hd K hK
      have hcs' := hcs
      obtain ⟨c0, c1, c2, c3, c4, c5⟩ := hcs'
      have t5 : a.tmps[5]?.getD undef = .pointer (some ⟨w.heap.size, 0, none⟩) := Reg.slot_val (hd 0 (by kernel_rfl) 5 rfl)
      go_simp
      exact hK _ _ (fun _ => rfl) (fun h => by cases h) ⟨hcs, hB⟩ trivial
    · rintro a w1 ⟨hcs, hB⟩ hx hd K hK
      have hcs' := hcs
      obtain ⟨c0, c1, c2, c3, c4, c5⟩ := hcs'
      have t3 : a.tmps[3]?.getD undef = .pointer (some ⟨w.heap.size + 1, 0, none⟩) := Reg.slot_val (hx 3 (by kernel_rfl))
      go_simp
      exact hK _ _ (fun _ => rfl) (fun h => by cases h) ⟨hcs, hB⟩ trivial
    · rintro a w1 ⟨hcs, hB⟩ hx hd K hK
      have hcs' := hcs
      obtain ⟨c0, c1, c2, c3, c4, c5⟩ := hcs'
      have t7 : a.tmps[7]?.getD undef = .pointer (some ⟨w.heap.size + 1, 0, none⟩) := Reg.slot_val (hd 2 (by kernel_rfl) 7 rfl)
      go_simp
      exact hK _ _ (fun _ => rfl) (fun h => by cases h) ⟨hcs, hB⟩ trivial
    · rintro a w1 ⟨hcs, hB⟩ hx hd K hK
      have hcs' := hcs
      obtain ⟨c0, c1, c2, c3, c4, c5⟩ := hcs'
      have t6 : a.tmps[6]?.getD undef = .float .f32 x := Reg.slot_val (hd 1 (by kernel_rfl) 6 rfl)
      have t8 : a.tmps[8]?.getD undef = .float .f32 x' := Reg.slot_val (hd 3 (by kernel_rfl) 8 rfl)
      go_simp
      refine (impl_product32 _ _ _ _ _ h1 h1').mono ?_
      rintro en w2 ⟨r, rfl, hr, n1, rfl⟩
      exact hK _ _ (fun _ => ⟨r, rfl, hr⟩) (fun h => by cases h) ⟨hcs, below_drewN hB _⟩ trivial
    · rintro a w1 ⟨hcs, hB⟩ hx hd K hK
      have hcs' := hcs
      obtain ⟨c0, c1, c2, c3, c4, c5⟩ := hcs'
      have t2 : a.tmps[2]?.getD undef = .pointer (some ⟨w.heap.size, 0, none⟩) := Reg.slot_val (hx 2 (by kernel_rfl))
      go_simp
      exact hK _ _ (fun _ => rfl) (fun h => by cases h) ⟨hcs, hB⟩ trivial
    · rintro a w1 ⟨hcs, hB⟩ hx hd K hK
      have hcs' := hcs
      obtain ⟨c0, c1, c2, c3, c4, c5⟩ := hcs'
      have t10 : a.tmps[10]?.getD undef = .pointer (some ⟨w.heap.size, 1, none⟩) := Reg.slot_val (hd 5 (by kernel_rfl) 10 rfl)
      go_simp
      exact hK _ _ (fun _ => rfl) (fun h => by cases h) ⟨hcs, hB⟩ trivial
    · rintro a w1 ⟨hcs, hB⟩ hx hd K hK
      have hcs' := hcs
      obtain ⟨c0, c1, c2, c3, c4, c5⟩ := hcs'
      have t3 : a.tmps[3]?.getD undef = .pointer (some ⟨w.heap.size + 1, 0, none⟩) := Reg.slot_val (hx 3 (by kernel_rfl))
      go_simp
      exact hK _ _ (fun _ => rfl) (fun h => by cases h) ⟨hcs, hB⟩ trivial
    · rintro a w1 ⟨hcs, hB⟩ hx hd K hK
      have hcs' := hcs
      obtain ⟨c0, c1, c2, c3, c4, c5⟩ := hcs'
      have t12 : a.tmps[12]?.getD undef = .pointer (some ⟨w.heap.size + 1, 1, none⟩) := Reg.slot_val (hd 7 (by kernel_rfl) 12 rfl)
      go_simp
      exact hK _ _ (fun _ => rfl) (fun h => by cases h) ⟨hcs, hB⟩ trivial
    · rintro a w1 ⟨hcs, hB⟩ hx hd K hK
      have hcs' := hcs
      obtain ⟨c0, c1, c2, c3, c4, c5⟩ := hcs'
      have t11 : a.tmps[11]?.getD undef = .float .f32 y := Reg.slot_val (hd 6 (by kernel_rfl) 11 rfl)
      have t13 : a.tmps[13]?.getD undef = .float .f32 y' := Reg.slot_val (hd 8 (by kernel_rfl) 13 rfl)
      go_simp
      refine (impl_product32 _ _ _ _ _ h2 h2').mono ?_
      rintro en w2 ⟨r, rfl, hr, n1, rfl⟩
      exact hK _ _ (fun _ => ⟨r, rfl, hr⟩) (fun h => by cases h) ⟨hcs, below_drewN hB _⟩ trivial
    · rintro a w1 ⟨hcs, hB⟩ hx hd K hK
      have hcs' := hcs
      obtain ⟨c0, c1, c2, c3, c4, c5⟩ := hcs'
      obtain ⟨r9, g9, f9⟩ := hd 4 (by kernel_rfl) 9 rfl
      have t9 := Reg.slot_val g9
      clear g9
      obtain ⟨r14, g14, f14⟩ := hd 9 (by kernel_rfl) 14 rfl
      have t14 := Reg.slot_val g14
      clear g14
      go_simp
      exact hK _ _ (fun _ => ⟨_, rfl, FV_fR f9 f14⟩) (fun h => by cases h) ⟨hcs, below_drewN hB _⟩ trivial
    · rintro a w1 ⟨hcs, hB⟩ hx hd K hK
      have hcs' := hcs
      obtain ⟨c0, c1, c2, c3, c4, c5⟩ := hcs'
      have t2 : a.tmps[2]?.getD undef = .pointer (some ⟨w.heap.size, 0, none⟩) := Reg.slot_val (hx 2 (by kernel_rfl))
      go_simp
      exact hK _ _ (fun _ => rfl) (fun h => by cases h) ⟨hcs, hB⟩ trivial
    · rintro a w1 ⟨hcs, hB⟩ hx hd K hK
      have hcs' := hcs
      obtain ⟨c0, c1, c2, c3, c4, c5⟩ := hcs'
      have t16 : a.tmps[16]?.getD undef = .pointer (some ⟨w.heap.size, 2, none⟩) := Reg.slot_val (hd 11 (by kernel_rfl) 16 rfl)
      go_simp
      exact hK _ _ (fun _ => rfl) (fun h => by cases h) ⟨hcs, hB⟩ trivial
    · rintro a w1 ⟨hcs, hB⟩ hx hd K hK
      have hcs' := hcs
      obtain ⟨c0, c1, c2, c3, c4, c5⟩ := hcs'
      have t3 : a.tmps[3]?.getD undef = .pointer (some ⟨w.heap.size + 1, 0, none⟩) := Reg.slot_val (hx 3 (by kernel_rfl))
      go_simp
      exact hK _ _ (fun _ => rfl) (fun h => by cases h) ⟨hcs, hB⟩ trivial
    · rintro a w1 ⟨hcs, hB⟩ hx hd K hK
      have hcs' := hcs
      obtain ⟨c0, c1, c2, c3, c4, c5⟩ := hcs'
      have t18 : a.tmps[18]?.getD undef = .pointer (some ⟨w.heap.size + 1, 2, none⟩) := Reg.slot_val (hd 13 (by kernel_rfl) 18 rfl)
      go_simp
      exact hK _ _ (fun _ => rfl) (fun h => by cases h) ⟨hcs, hB⟩ trivial
    · rintro a w1 ⟨hcs, hB⟩ hx hd K hK
      have hcs' := hcs
      obtain ⟨c0, c1, c2, c3, c4, c5⟩ := hcs'
      have t17 : a.tmps[17]?.getD undef = .float .f32 z := Reg.slot_val (hd 12 (by kernel_rfl) 17 rfl)
      have t19 : a.tmps[19]?.getD undef = .float .f32 z' := Reg.slot_val (hd 14 (by kernel_rfl) 19 rfl)
      go_simp
      refine (impl_product32 _ _ _ _ _ h3 h3').mono ?_
      rintro en w2 ⟨r, rfl, hr, n1, rfl⟩
      exact hK _ _ (fun _ => ⟨r, rfl, hr⟩) (fun h => by cases h) ⟨hcs, below_drewN hB _⟩ trivial
    · rintro a w1 ⟨hcs, hB⟩ hx hd K hK
      have hcs' := hcs
      obtain ⟨c0, c1, c2, c3, c4, c5⟩ := hcs'
      obtain ⟨r15, g15, f15⟩ := hd 10 (by kernel_rfl) 15 rfl
      have t15 := Reg.slot_val g15
      clear g15
      obtain ⟨r20, g20, f20⟩ := hd 15 (by kernel_rfl) 20 rfl
      have t20 := Reg.slot_val g20
      clear g20
      go_simp
      exact hK _ _ (fun _ => ⟨_, rfl, FV_fR f15 f20⟩) (fun h => by cases h) ⟨hcs, below_drewN hB _⟩ trivial
    · rintro a w1 ⟨hcs, hB⟩ hx hd K hK
      have hcs' := hcs
      obtain ⟨c0, c1, c2, c3, c4, c5⟩ := hcs'
      obtain ⟨r21, g21, f21⟩ := hd 16 (by kernel_rfl) 21 rfl
      have t21 := Reg.slot_val g21
      clear g21
      go_simp
      exact hK _ _ (fun _ => ⟨_, rfl, f21⟩) (fun h => by cases h) ⟨hcs, hB⟩ trivial
  · rintro f w1 ⟨hcs, hB⟩ hd hT
    obtain ⟨r, g, fr⟩ := hd 17 4 rfl
    simp only [Reg.mixL, g]
    go_wp2
    go_ret
    exact ⟨r, rfl, fr, hB⟩
set_option maxHeartbeats 1000000 in
theorem impl_CrossOf (x y z x' y' z' : Nat) (w : World) (c d e c' d' e' : Option Nat) (h1 : FV .f32 x c) (h2 : FV .f32 y d) (h3 : FV .f32 z e) (h1' : FV .f32 x' c') (h2' : FV .f32 y' d') (h3' : FV .f32 z' e') :
    Calls Try.prog 198 #[vv x y z, vv x' y' z'] w fun en w' => ∃ a b g, en = .returned (vv a b g) ∧ FV .f32 a (fop .sub .f32 (fop .mul .f32 d e') (fop .mul .f32 e d')) ∧ FV .f32 b (fop .sub .f32 (fop .mul .f32 e c') (fop .mul .f32 c e')) ∧ FV .f32 g (fop .sub .f32 (fop .mul .f32 c d') (fop .mul .f32 d c')) ∧ Below w.heap.size w w' := by
  have u := Try.underlying31
  have uv := Try.underlying34
  go_enter Try.func198, Try.ntmps198
  go_wp2_with fail
  have k0 : ((((w.alloc (.cells #[.float .f32 x, .float .f32 y, .float .f32 z] 34)).alloc (.cells #[.float .f32 x', .float .f32 y', .float .f32 z'] 34)).alloc (.cells #[.float .f32 0, .float .f32 0, .float .f32 0] 34)).drewN 1).cell? ⟨w.heap.size, 0, none⟩ = some (.float .f32 x) := by go_simp
  have k1 : ((((w.alloc (.cells #[.float .f32 x, .float .f32 y, .float .f32 z] 34)).alloc (.cells #[.float .f32 x', .float .f32 y', .float .f32 z'] 34)).alloc (.cells #[.float .f32 0, .float .f32 0, .float .f32 0] 34)).drewN 1).cell? ⟨w.heap.size, 1, none⟩ = some (.float .f32 y) := by go_simp
  have k2 : ((((w.alloc (.cells #[.float .f32 x, .float .f32 y, .float .f32 z] 34)).alloc (.cells #[.float .f32 x', .float .f32 y', .float .f32 z'] 34)).alloc (.cells #[.float .f32 0, .float .f32 0, .float .f32 0] 34)).drewN 1).cell? ⟨w.heap.size, 2, none⟩ = some (.float .f32 z) := by go_simp
  have k3 : ((((w.alloc (.cells #[.float .f32 x, .float .f32 y, .float .f32 z] 34)).alloc (.cells #[.float .f32 x', .float .f32 y', .float .f32 z'] 34)).alloc (.cells #[.float .f32 0, .float .f32 0, .float .f32 0] 34)).drewN 1).cell? ⟨w.heap.size + 1, 0, none⟩ = some (.float .f32 x') := by go_simp
  have k4 : ((((w.alloc (.cells #[.float .f32 x, .float .f32 y, .float .f32 z] 34)).alloc (.cells #[.float .f32 x', .float .f32 y', .float .f32 z'] 34)).alloc (.cells #[.float .f32 0, .float .f32 0, .float .f32 0] 34)).drewN 1).cell? ⟨w.heap.size + 1, 1, none⟩ = some (.float .f32 y') := by go_simp
  have k5 : ((((w.alloc (.cells #[.float .f32 x, .float .f32 y, .float .f32 z] 34)).alloc (.cells #[.float .f32 x', .float .f32 y', .float .f32 z'] 34)).alloc (.cells #[.float .f32 0, .float .f32 0, .float .f32 0] 34)).drewN 1).cell? ⟨w.heap.size + 1, 2, none⟩ = some (.float .f32 z') := by go_simp
  have k6 : ((((w.alloc (.cells #[.float .f32 x, .float .f32 y, .float .f32 z] 34)).alloc (.cells #[.float .f32 x', .float .f32 y', .float .f32 z'] 34)).alloc (.cells #[.float .f32 0, .float .f32 0, .float .f32 0] 34)).drewN 1).cell? ⟨w.heap.size + 1 + 1, 0, none⟩ = some (.float .f32 0) := by go_simp
  have k7 : ((((w.alloc (.cells #[.float .f32 x, .float .f32 y, .float .f32 z] 34)).alloc (.cells #[.float .f32 x', .float .f32 y', .float .f32 z'] 34)).alloc (.cells #[.float .f32 0, .float .f32 0, .float .f32 0] 34)).drewN 1).cell? ⟨w.heap.size + 1 + 1, 1, none⟩ = some (.float .f32 0) := by go_simp
  have k8 : ((((w.alloc (.cells #[.float .f32 x, .float .f32 y, .float .f32 z] 34)).alloc (.cells #[.float .f32 x', .float .f32 y', .float .f32 z'] 34)).alloc (.cells #[.float .f32 0, .float .f32 0, .float .f32 0] 34)).drewN 1).cell? ⟨w.heap.size + 1 + 1, 2, none⟩ = some (.float .f32 0) := by go_simp
  have k9 : ((((w.alloc (.cells #[.float .f32 x, .float .f32 y, .float .f32 z] 34)).alloc (.cells #[.float .f32 x', .float .f32 y', .float .f32 z'] 34)).alloc (.cells #[.float .f32 0, .float .f32 0, .float .f32 0] 34)).drewN 1).frozen? ⟨w.heap.size + 1 + 1, 0, none⟩ = false := by go_simp
  have k10 : ((((w.alloc (.cells #[.float .f32 x, .float .f32 y, .float .f32 z] 34)).alloc (.cells #[.float .f32 x', .float .f32 y', .float .f32 z'] 34)).alloc (.cells #[.float .f32 0, .float .f32 0, .float .f32 0] 34)).drewN 1).frozen? ⟨w.heap.size + 1 + 1, 1, none⟩ = false := by go_simp
  have k11 : ((((w.alloc (.cells #[.float .f32 x, .float .f32 y, .float .f32 z] 34)).alloc (.cells #[.float .f32 x', .float .f32 y', .float .f32 z'] 34)).alloc (.cells #[.float .f32 0, .float .f32 0, .float .f32 0] 34)).drewN 1).frozen? ⟨w.heap.size + 1 + 1, 2, none⟩ = false := by go_simp
  refine Reg.wp_region_mix (C := fun w' => (w'.cell? ⟨w.heap.size, 0, none⟩ = some (.float .f32 x) ∧ w'.cell? ⟨w.heap.size, 1, none⟩ = some (.float .f32 y) ∧ w'.cell? ⟨w.heap.size, 2, none⟩ = some (.float .f32 z) ∧ w'.cell? ⟨w.heap.size + 1, 0, none⟩ = some (.float .f32 x') ∧ w'.cell? ⟨w.heap.size + 1, 1, none⟩ = some (.float .f32 y') ∧ w'.cell? ⟨w.heap.size + 1, 2, none⟩ = some (.float .f32 z')) ∧ (∃ u0 u1 u2, w'.cell? ⟨w.heap.size + 1 + 1, 0, none⟩ = some u0 ∧ w'.cell? ⟨w.heap.size + 1 + 1, 1, none⟩ = some u1 ∧ w'.cell? ⟨w.heap.size + 1 + 1, 2, none⟩ = some u2) ∧ (w'.frozen? ⟨w.heap.size + 1 + 1, 0, none⟩ = false ∧ w'.frozen? ⟨w.heap.size + 1 + 1, 1, none⟩ = false ∧ w'.frozen? ⟨w.heap.size + 1 + 1, 2, none⟩ = false) ∧ Below w.heap.size w w') (G := fun _ _ => True) (R := fun i v _ => match i with | 0 => v = .pointer (some ⟨w.heap.size, 1, none⟩) | 1 => v = .float .f32 y | 2 => v = .pointer (some ⟨w.heap.size + 1, 2, none⟩) | 3 => v = .float .f32 z' | 4 => isF (fop .mul .f32 d e') v | 5 => v = .pointer (some ⟨w.heap.size, 2, none⟩) | 6 => v = .float .f32 z | 7 => v = .pointer (some ⟨w.heap.size + 1, 1, none⟩) | 8 => v = .float .f32 y' | 9 => isF (fop .mul .f32 e d') v | 10 => isF (fop .sub .f32 (fop .mul .f32 d e') (fop .mul .f32 e d')) v | 11 => v = .pointer (some ⟨w.heap.size, 2, none⟩) | 12 => v = .float .f32 z | 13 => v = .pointer (some ⟨w.heap.size + 1, 0, none⟩) | 14 => v = .float .f32 x' | 15 => isF (fop .mul .f32 e c') v | 16 => v = .pointer (some ⟨w.heap.size, 0, none⟩) | 17 => v = .float .f32 x | 18 => v = .pointer (some ⟨w.heap.size + 1, 2, none⟩) | 19 => v = .float .f32 z' | 20 => isF (fop .mul .f32 c e') v | 21 => isF (fop .sub .f32 (fop .mul .f32 e c') (fop .mul .f32 c e')) v | 22 => v = .pointer (some ⟨w.heap.size, 0, none⟩) | 23 => v = .float .f32 x | 24 => v = .pointer (some ⟨w.heap.size + 1, 1, none⟩) | 25 => v = .float .f32 y' | 26 => isF (fop .mul .f32 c d') v | 27 => v = .pointer (some ⟨w.heap.size, 1, none⟩) | 28 => v = .float .f32 y | 29 => v = .pointer (some ⟨w.heap.size + 1, 0, none⟩) | 30 => v = .float .f32 x' | 31 => isF (fop .mul .f32 d c') v | 32 => isF (fop .sub .f32 (fop .mul .f32 c d') (fop .mul .f32 d c')) v | 33 => ∃ a b g, v = vv a b g ∧ FV .f32 a (fop .sub .f32 (fop .mul .f32 d e') (fop .mul .f32 e d')) ∧ FV .f32 b (fop .sub .f32 (fop .mul .f32 e c') (fop .mul .f32 c e')) ∧ FV .f32 g (fop .sub .f32 (fop .mul .f32 c d') (fop .mul .f32 d c')) | 34 => True | _ => True) (T := fun _ a w' => ∃ a b g, w'.cell? ⟨w.heap.size + 1 + 1, 0, none⟩ = some (.float .f32 a) ∧ w'.cell? ⟨w.heap.size + 1 + 1, 1, none⟩ = some (.float .f32 b) ∧ w'.cell? ⟨w.heap.size + 1 + 1, 2, none⟩ = some (.float .f32 g) ∧ FV .f32 a (fop .sub .f32 (fop .mul .f32 d e') (fop .mul .f32 e d')) ∧ FV .f32 b (fop .sub .f32 (fop .mul .f32 e c') (fop .mul .f32 c e')) ∧ FV .f32 g (fop .sub .f32 (fop .mul .f32 c d') (fop .mul .f32 d c'))) [false, false, false, false, false, true, true, true, true, true, true, true, true, true, true, true, true, true, true, true, true, true, true, true, true, true, true, true, true, true, true, true, true, true, true, true, true, true, true]
    (by kernel_rfl) (by kernel_rfl) (by kernel_rfl) (fun _ _ _ _ _ _ h => h) ⟨⟨k0, k1, k2, k3, k4, k5⟩, ⟨_, _, _, k6, k7, k8⟩, ⟨k9, k10, k11⟩, below_drewN ((((Below.refl _ _).alloc (Nat.le_refl _) _).alloc (by simp) _).alloc (by simp; omega) _) 1⟩ ?_ ?_
  · refine ⟨Reg.Obl.mk ?_, Reg.Obl.mk ?_, Reg.Obl.mk ?_, Reg.Obl.mk ?_, Reg.Obl.mk ?_, Reg.Obl.mk ?_, Reg.Obl.mk ?_, Reg.Obl.mk ?_, Reg.Obl.mk ?_, Reg.Obl.mk ?_, Reg.Obl.mk ?_, Reg.Obl.mk ?_, Reg.Obl.mk ?_, Reg.Obl.mk ?_, Reg.Obl.mk ?_, Reg.Obl.mk ?_, Reg.Obl.mk ?_, Reg.Obl.mk ?_, Reg.Obl.mk ?_, Reg.Obl.mk ?_, Reg.Obl.mk ?_, Reg.Obl.mk ?_, Reg.Obl.mk ?_, Reg.Obl.mk ?_, Reg.Obl.mk ?_, Reg.Obl.mk ?_, Reg.Obl.mk ?_, Reg.Obl.mk ?_, Reg.Obl.mk ?_, Reg.Obl.mk ?_, Reg.Obl.mk ?_, Reg.Obl.mk ?_, Reg.Obl.mk ?_, Reg.Obl.mk ?_, Reg.Obl.mk ?_, trivial⟩
    · rintro a w1 ⟨hcs, hrb, hfz, hB⟩ hx hd K hK
      have hcs' := hcs
      obtain ⟨c0, c1, c2, c3, c4, c5⟩ := hcs'
      have t2 : a.tmps[2]?.getD undef = .pointer (some ⟨w.heap.size, 0, none⟩) := Reg.slot_val (hx 2 (by kernel_rfl))
      go_simp
      exact hK _ _ (fun _ => rfl) (fun h => by cases h) ⟨hcs, hrb, hfz, hB⟩ trivial
    · rintro a w1 ⟨hcs, hrb, hfz, hB⟩ hx hd K hK
      have hcs' := hcs
      obtain ⟨c0, c1, c2, c3, c4, c5⟩ := hcs'
      have t5 : a.tmps[5]?.getD undef = .pointer (some ⟨w.heap.size, 1, none⟩) := Reg.slot_val (hd 0 (by kernel_rfl) 5 rfl)
      go_simp
      exact hK _ _ (fun _ => rfl) (fun h => by cases h) ⟨hcs, hrb, hfz, hB⟩ trivial
    · rintro a w1 ⟨hcs, hrb, hfz, hB⟩ hx hd K hK
      have hcs' := hcs
      obtain ⟨c0, c1, c2, c3, c4, c5⟩ := hcs'
      have t3 : a.tmps[3]?.getD undef = .pointer (some ⟨w.heap.size + 1, 0, none⟩) := Reg.slot_val (hx 3 (by kernel_rfl))
      go_simp
      exact hK _ _ (fun _ => rfl) (fun h => by cases h) ⟨hcs, hrb, hfz, hB⟩ trivial
    · rintro a w1 ⟨hcs, hrb, hfz, hB⟩ hx hd K hK
      have hcs' := hcs
      obtain ⟨c0, c1, c2, c3, c4, c5⟩ := hcs'
      have t7 : a.tmps[7]?.getD undef = .pointer (some ⟨w.heap.size + 1, 2, none⟩) := Reg.slot_val (hd 2 (by kernel_rfl) 7 rfl)
      go_simp
      exact hK _ _ (fun _ => rfl) (fun h => by cases h) ⟨hcs, hrb, hfz, hB⟩ trivial
    · rintro a w1 ⟨hcs, hrb, hfz, hB⟩ hx hd K hK
      have hcs' := hcs
      obtain ⟨c0, c1, c2, c3, c4, c5⟩ := hcs'
      have t6 : a.tmps[6]?.getD undef = .float .f32 y := Reg.slot_val (hd 1 (by kernel_rfl) 6 rfl)
      have t8 : a.tmps[8]?.getD undef = .float .f32 z' := Reg.slot_val (hd 3 (by kernel_rfl) 8 rfl)
      go_simp
      refine (impl_product32 _ _ _ _ _ h2 h3').mono ?_
      rintro en w2 ⟨r, rfl, hr, n1, rfl⟩
      exact hK _ _ (fun _ => ⟨r, rfl, hr⟩) (fun h => by cases h) ⟨hcs, hrb, hfz, below_drewN hB _⟩ trivial
    · rintro a w1 ⟨hcs, hrb, hfz, hB⟩ hx hd K hK
      have hcs' := hcs
      obtain ⟨c0, c1, c2, c3, c4, c5⟩ := hcs'
      have t2 : a.tmps[2]?.getD undef = .pointer (some ⟨w.heap.size, 0, none⟩) := Reg.slot_val (hx 2 (by kernel_rfl))
      go_simp
      exact hK _ _ (fun _ => rfl) (fun h => by cases h) ⟨hcs, hrb, hfz, hB⟩ trivial
    · rintro a w1 ⟨hcs, hrb, hfz, hB⟩ hx hd K hK
      have hcs' := hcs
      obtain ⟨c0, c1, c2, c3, c4, c5⟩ := hcs'
      have t10 : a.tmps[10]?.getD undef = .pointer (some ⟨w.heap.size, 2, none⟩) := Reg.slot_val (hd 5 (by kernel_rfl) 10 rfl)
      go_simp
      exact hK _ _ (fun _ => rfl) (fun h => by cases h) ⟨hcs, hrb, hfz, hB⟩ trivial
    · rintro a w1 ⟨hcs, hrb, hfz, hB⟩ hx hd K hK
      have hcs' := hcs
      obtain ⟨c0, c1, c2, c3, c4, c5⟩ := hcs'
      have t3 : a.tmps[3]?.getD undef = .pointer (some ⟨w.heap.size + 1, 0, none⟩) := Reg.slot_val (hx 3 (by kernel_rfl))
      go_simp
      exact hK _ _ (fun _ => rfl) (fun h => by cases h) ⟨hcs, hrb, hfz, hB⟩ trivial
    · rintro a w1 ⟨hcs, hrb, hfz, hB⟩ hx hd K hK
      have hcs' := hcs
      obtain ⟨c0, c1, c2, c3, c4, c5⟩ := hcs'
      have t12 : a.tmps[12]?.getD undef = .pointer (some ⟨w.heap.size + 1, 1, none⟩) := Reg.slot_val (hd 7 (by kernel_rfl) 12 rfl)
      go_simp
      exact hK _ _ (fun _ => rfl) (fun h => by cases h) ⟨hcs, hrb, hfz, hB⟩ trivial
    · rintro a w1 ⟨hcs, hrb, hfz, hB⟩ hx hd K hK
      have hcs' := hcs
      obtain ⟨c0, c1, c2, c3, c4, c5⟩ := hcs'
      have t11 : a.tmps[11]?.getD undef = .float .f32 z := Reg.slot_val (hd 6 (by kernel_rfl) 11 rfl)
      have t13 : a.tmps[13]?.getD undef = .float .f32 y' := Reg.slot_val (hd 8 (by kernel_rfl) 13 rfl)
      go_simp
      refine (impl_product32 _ _ _ _ _ h3 h2').mono ?_
      rintro en w2 ⟨r, rfl, hr, n1, rfl⟩
      exact hK _ _ (fun _ => ⟨r, rfl, hr⟩) (fun h => by cases h) ⟨hcs, hrb, hfz, below_drewN hB _⟩ trivial
    · rintro a w1 ⟨hcs, hrb, hfz, hB⟩ hx hd K hK
      have hcs' := hcs
      obtain ⟨c0, c1, c2, c3, c4, c5⟩ := hcs'
      obtain ⟨r9, g9, f9⟩ := hd 4 (by kernel_rfl) 9 rfl
      have t9 := Reg.slot_val g9
      clear g9
      obtain ⟨r14, g14, f14⟩ := hd 9 (by kernel_rfl) 14 rfl
      have t14 := Reg.slot_val g14
      clear g14
      go_simp
      exact hK _ _ (fun _ => ⟨_, rfl, FV_fR f9 f14⟩) (fun h => by cases h) ⟨hcs, hrb, hfz, below_drewN hB _⟩ trivial
    · rintro a w1 ⟨hcs, hrb, hfz, hB⟩ hx hd K hK
      have hcs' := hcs
      obtain ⟨c0, c1, c2, c3, c4, c5⟩ := hcs'
      have t2 : a.tmps[2]?.getD undef = .pointer (some ⟨w.heap.size, 0, none⟩) := Reg.slot_val (hx 2 (by kernel_rfl))
      go_simp
      exact hK _ _ (fun _ => rfl) (fun h => by cases h) ⟨hcs, hrb, hfz, hB⟩ trivial
    · rintro a w1 ⟨hcs, hrb, hfz, hB⟩ hx hd K hK
      have hcs' := hcs
      obtain ⟨c0, c1, c2, c3, c4, c5⟩ := hcs'
      have t16 : a.tmps[16]?.getD undef = .pointer (some ⟨w.heap.size, 2, none⟩) := Reg.slot_val (hd 11 (by kernel_rfl) 16 rfl)
      go_simp
      exact hK _ _ (fun _ => rfl) (fun h => by cases h) ⟨hcs, hrb, hfz, hB⟩ trivial
    · rintro a w1 ⟨hcs, hrb, hfz, hB⟩ hx hd K hK
      have hcs' := hcs
      obtain ⟨c0, c1, c2, c3, c4, c5⟩ := hcs'
      have t3 : a.tmps[3]?.getD undef = .pointer (some ⟨w.heap.size + 1, 0, none⟩) := Reg.slot_val (hx 3 (by kernel_rfl))
      go_simp
      exact hK _ _ (fun _ => rfl) (fun h => by cases h) ⟨hcs, hrb, hfz, hB⟩ trivial
    · rintro a w1 ⟨hcs, hrb, hfz, hB⟩ hx hd K hK
      have hcs' := hcs
      obtain ⟨c0, c1, c2, c3, c4, c5⟩ := hcs'
      have t18 : a.tmps[18]?.getD undef = .pointer (some ⟨w.heap.size + 1, 0, none⟩) := Reg.slot_val (hd 13 (by kernel_rfl) 18 rfl)
      go_simp
      exact hK _ _ (fun _ => rfl) (fun h => by cases h) ⟨hcs, hrb, hfz, hB⟩ trivial
    · rintro a w1 ⟨hcs, hrb, hfz, hB⟩ hx hd K hK
      have hcs' := hcs
      obtain ⟨c0, c1, c2, c3, c4, c5⟩ := hcs'
      have t17 : a.tmps[17]?.getD undef = .float .f32 z := Reg.slot_val (hd 12 (by kernel_rfl) 17 rfl)
      have t19 : a.tmps[19]?.getD undef = .float .f32 x' := Reg.slot_val (hd 14 (by kernel_rfl) 19 rfl)
      go_simp
      refine (impl_product32 _ _ _ _ _ h3 h1').mono ?_
      rintro en w2 ⟨r, rfl, hr, n1, rfl⟩
      exact hK _ _ (fun _ => ⟨r, rfl, hr⟩) (fun h => by cases h) ⟨hcs, hrb, hfz, below_drewN hB _⟩ trivial
    · rintro a w1 ⟨hcs, hrb, hfz, hB⟩ hx hd K hK
      have hcs' := hcs
      obtain ⟨c0, c1, c2, c3, c4, c5⟩ := hcs'
      have t2 : a.tmps[2]?.getD undef = .pointer (some ⟨w.heap.size, 0, none⟩) := Reg.slot_val (hx 2 (by kernel_rfl))
      go_simp
      exact hK _ _ (fun _ => rfl) (fun h => by cases h) ⟨hcs, hrb, hfz, hB⟩ trivial
    · rintro a w1 ⟨hcs, hrb, hfz, hB⟩ hx hd K hK
      have hcs' := hcs
      obtain ⟨c0, c1, c2, c3, c4, c5⟩ := hcs'
      have t21 : a.tmps[21]?.getD undef = .pointer (some ⟨w.heap.size, 0, none⟩) := Reg.slot_val (hd 16 (by kernel_rfl) 21 rfl)
      go_simp
      exact hK _ _ (fun _ => rfl) (fun h => by cases h) ⟨hcs, hrb, hfz, hB⟩ trivial
    · rintro a w1 ⟨hcs, hrb, hfz, hB⟩ hx hd K hK
      have hcs' := hcs
      obtain ⟨c0, c1, c2, c3, c4, c5⟩ := hcs'
      have t3 : a.tmps[3]?.getD undef = .pointer (some ⟨w.heap.size + 1, 0, none⟩) := Reg.slot_val (hx 3 (by kernel_rfl))
      go_simp
      exact hK _ _ (fun _ => rfl) (fun h => by cases h) ⟨hcs, hrb, hfz, hB⟩ trivial
    · rintro a w1 ⟨hcs, hrb, hfz, hB⟩ hx hd K hK
      have hcs' := hcs
      obtain ⟨c0, c1, c2, c3, c4, c5⟩ := hcs'
      have t23 : a.tmps[23]?.getD undef = .pointer (some ⟨w.heap.size + 1, 2, none⟩) := Reg.slot_val (hd 18 (by kernel_rfl) 23 rfl)
      go_simp
      exact hK _ _ (fun _ => rfl) (fun h => by cases h) ⟨hcs, hrb, hfz, hB⟩ trivial
    · rintro a w1 ⟨hcs, hrb, hfz, hB⟩ hx hd K hK
      have hcs' := hcs
      obtain ⟨c0, c1, c2, c3, c4, c5⟩ := hcs'
      have t22 : a.tmps[22]?.getD undef = .float .f32 x := Reg.slot_val (hd 17 (by kernel_rfl) 22 rfl)
      have t24 : a.tmps[24]?.getD undef = .float .f32 z' := Reg.slot_val (hd 19 (by kernel_rfl) 24 rfl)
      go_simp
      refine (impl_product32 _ _ _ _ _ h1 h3').mono ?_
      rintro en w2 ⟨r, rfl, hr, n1, rfl⟩
      exact hK _ _ (fun _ => ⟨r, rfl, hr⟩) (fun h => by cases h) ⟨hcs, hrb, hfz, below_drewN hB _⟩ trivial
    · rintro a w1 ⟨hcs, hrb, hfz, hB⟩ hx hd K hK
      have hcs' := hcs
      obtain ⟨c0, c1, c2, c3, c4, c5⟩ := hcs'
      obtain ⟨r20, g20, f20⟩ := hd 15 (by kernel_rfl) 20 rfl
      have t20 := Reg.slot_val g20
      clear g20
      obtain ⟨r25, g25, f25⟩ := hd 20 (by kernel_rfl) 25 rfl
      have t25 := Reg.slot_val g25
      clear g25
      go_simp
      exact hK _ _ (fun _ => ⟨_, rfl, FV_fR f20 f25⟩) (fun h => by cases h) ⟨hcs, hrb, hfz, below_drewN hB _⟩ trivial
    · rintro a w1 ⟨hcs, hrb, hfz, hB⟩ hx hd K hK
      have hcs' := hcs
      obtain ⟨c0, c1, c2, c3, c4, c5⟩ := hcs'
      have t2 : a.tmps[2]?.getD undef = .pointer (some ⟨w.heap.size, 0, none⟩) := Reg.slot_val (hx 2 (by kernel_rfl))
      go_simp
      exact hK _ _ (fun _ => rfl) (fun h => by cases h) ⟨hcs, hrb, hfz, hB⟩ trivial
    · rintro a w1 ⟨hcs, hrb, hfz, hB⟩ hx hd K hK
      have hcs' := hcs
      obtain ⟨c0, c1, c2, c3, c4, c5⟩ := hcs'
      have t27 : a.tmps[27]?.getD undef = .pointer (some ⟨w.heap.size, 0, none⟩) := Reg.slot_val (hd 22 (by kernel_rfl) 27 rfl)
      go_simp
      exact hK _ _ (fun _ => rfl) (fun h => by cases h) ⟨hcs, hrb, hfz, hB⟩ trivial
    · rintro a w1 ⟨hcs, hrb, hfz, hB⟩ hx hd K hK
      have hcs' := hcs
      obtain ⟨c0, c1, c2, c3, c4, c5⟩ := hcs'
      have t3 : a.tmps[3]?.getD undef = .pointer (some ⟨w.heap.size + 1, 0, none⟩) := Reg.slot_val (hx 3 (by kernel_rfl))
      go_simp
      exact hK _ _ (fun _ => rfl) (fun h => by cases h) ⟨hcs, hrb, hfz, hB⟩ trivial
    · rintro a w1 ⟨hcs, hrb, hfz, hB⟩ hx hd K hK
      have hcs' := hcs
      obtain ⟨c0, c1, c2, c3, c4, c5⟩ := hcs'
      have t29 : a.tmps[29]?.getD undef = .pointer (some ⟨w.heap.size + 1, 1, none⟩) := Reg.slot_val (hd 24 (by kernel_rfl) 29 rfl)
      go_simp
      exact hK _ _ (fun _ => rfl) (fun h => by cases h) ⟨hcs, hrb, hfz, hB⟩ trivial
    · rintro a w1 ⟨hcs, hrb, hfz, hB⟩ hx hd K hK
      have hcs' := hcs
      obtain ⟨c0, c1, c2, c3, c4, c5⟩ := hcs'
      have t28 : a.tmps[28]?.getD undef = .float .f32 x := Reg.slot_val (hd 23 (by kernel_rfl) 28 rfl)
      have t30 : a.tmps[30]?.getD undef = .float .f32 y' := Reg.slot_val (hd 25 (by kernel_rfl) 30 rfl)
      go_simp
      refine (impl_product32 _ _ _ _ _ h1 h2').mono ?_
      rintro en w2 ⟨r, rfl, hr, n1, rfl⟩
      exact hK _ _ (fun _ => ⟨r, rfl, hr⟩) (fun h => by cases h) ⟨hcs, hrb, hfz, below_drewN hB _⟩ trivial
    · rintro a w1 ⟨hcs, hrb, hfz, hB⟩ hx hd K hK
      have hcs' := hcs
      obtain ⟨c0, c1, c2, c3, c4, c5⟩ := hcs'
      have t2 : a.tmps[2]?.getD undef = .pointer (some ⟨w.heap.size, 0, none⟩) := Reg.slot_val (hx 2 (by kernel_rfl))
      go_simp
      exact hK _ _ (fun _ => rfl) (fun h => by cases h) ⟨hcs, hrb, hfz, hB⟩ trivial
    · rintro a w1 ⟨hcs, hrb, hfz, hB⟩ hx hd K hK
      have hcs' := hcs
      obtain ⟨c0, c1, c2, c3, c4, c5⟩ := hcs'
      have t32 : a.tmps[32]?.getD undef = .pointer (some ⟨w.heap.size, 1, none⟩) := Reg.slot_val (hd 27 (by kernel_rfl) 32 rfl)
      go_simp
      exact hK _ _ (fun _ => rfl) (fun h => by cases h) ⟨hcs, hrb, hfz, hB⟩ trivial
    · rintro a w1 ⟨hcs, hrb, hfz, hB⟩ hx hd K hK
      have hcs' := hcs
      obtain ⟨c0, c1, c2, c3, c4, c5⟩ := hcs'
      have t3 : a.tmps[3]?.getD undef = .pointer (some ⟨w.heap.size + 1, 0, none⟩) := Reg.slot_val (hx 3 (by kernel_rfl))
      go_simp
      exact hK _ _ (fun _ => rfl) (fun h => by cases h) ⟨hcs, hrb, hfz, hB⟩ trivial
    · rintro a w1 ⟨hcs, hrb, hfz, hB⟩ hx hd K hK
      have hcs' := hcs
      obtain ⟨c0, c1, c2, c3, c4, c5⟩ := hcs'
      have t34 : a.tmps[34]?.getD undef = .pointer (some ⟨w.heap.size + 1, 0, none⟩) := Reg.slot_val (hd 29 (by kernel_rfl) 34 rfl)
      go_simp
      exact hK _ _ (fun _ => rfl) (fun h => by cases h) ⟨hcs, hrb, hfz, hB⟩ trivial
    · rintro a w1 ⟨hcs, hrb, hfz, hB⟩ hx hd K hK
      have hcs' := hcs
      obtain ⟨c0, c1, c2, c3, c4, c5⟩ := hcs'
      have t33 : a.tmps[33]?.getD undef = .float .f32 y := Reg.slot_val (hd 28 (by kernel_rfl) 33 rfl)
      have t35 : a.tmps[35]?.getD undef = .float .f32 x' := Reg.slot_val (hd 30 (by kernel_rfl) 35 rfl)
      go_simp
      refine (impl_product32 _ _ _ _ _ h2 h1').mono ?_
      rintro en w2 ⟨r, rfl, hr, n1, rfl⟩
      exact hK _ _ (fun _ => ⟨r, rfl, hr⟩) (fun h => by cases h) ⟨hcs, hrb, hfz, below_drewN hB _⟩ trivial
    · rintro a w1 ⟨hcs, hrb, hfz, hB⟩ hx hd K hK
      have hcs' := hcs
      obtain ⟨c0, c1, c2, c3, c4, c5⟩ := hcs'
      obtain ⟨r31, g31, f31⟩ := hd 26 (by kernel_rfl) 31 rfl
      have t31 := Reg.slot_val g31
      clear g31
      obtain ⟨r36, g36, f36⟩ := hd 31 (by kernel_rfl) 36 rfl
      have t36 := Reg.slot_val g36
      clear g36
      go_simp
      exact hK _ _ (fun _ => ⟨_, rfl, FV_fR f31 f36⟩) (fun h => by cases h) ⟨hcs, hrb, hfz, below_drewN hB _⟩ trivial
    · rintro a w1 ⟨hcs, hrb, hfz, hB⟩ hx hd K hK
      have hcs' := hcs
      obtain ⟨c0, c1, c2, c3, c4, c5⟩ := hcs'
      obtain ⟨r15, g15, f15⟩ := hd 10 (by kernel_rfl) 15 rfl
      have t15 := Reg.slot_val g15
      clear g15
      obtain ⟨r26, g26, f26⟩ := hd 21 (by kernel_rfl) 26 rfl
      have t26 := Reg.slot_val g26
      clear g26
      obtain ⟨r37, g37, f37⟩ := hd 32 (by kernel_rfl) 37 rfl
      have t37 := Reg.slot_val g37
      clear g37
      go_simp
      exact hK _ _ (fun _ => ⟨_, _, _, rfl, f15, f26, f37⟩) (fun h => by cases h) ⟨hcs, hrb, hfz, hB⟩ trivial
    · rintro a w1 ⟨hcs, hrb, hfz, hB⟩ hx hd K hK
      have hcs' := hcs
      obtain ⟨c0, c1, c2, c3, c4, c5⟩ := hcs'
      have t4 : a.tmps[4]?.getD undef = .pointer (some ⟨w.heap.size + 1 + 1, 0, none⟩) := Reg.slot_val (hx 4 (by kernel_rfl))
      obtain ⟨r38, p38, q38, g38, f38⟩ := hd 33 (by kernel_rfl) 38 rfl
      have t38 := Reg.slot_val g38
      clear g38
      obtain ⟨u0, u1, u2, q0, q1, q2⟩ := hrb
      obtain ⟨z0, z1, z2⟩ := hfz
      go_simp
      have s3 := set3 (u := .float .f32 r38) (v := .float .f32 p38) (t := .float .f32 q38) q0 q1 q2
      refine hK undef _ (fun h => absurd rfl h) (fun _ => ⟨r38, p38, q38, s3.1, s3.2.1, s3.2.2, f38⟩) ⟨⟨cell_set (by first | omega | (simp <;> omega)) (cell_set (by first | omega | (simp <;> omega)) (cell_set (by first | omega | (simp <;> omega)) c0)), cell_set (by first | omega | (simp <;> omega)) (cell_set (by first | omega | (simp <;> omega)) (cell_set (by first | omega | (simp <;> omega)) c1)), cell_set (by first | omega | (simp <;> omega)) (cell_set (by first | omega | (simp <;> omega)) (cell_set (by first | omega | (simp <;> omega)) c2)), cell_set (by first | omega | (simp <;> omega)) (cell_set (by first | omega | (simp <;> omega)) (cell_set (by first | omega | (simp <;> omega)) c3)), cell_set (by first | omega | (simp <;> omega)) (cell_set (by first | omega | (simp <;> omega)) (cell_set (by first | omega | (simp <;> omega)) c4)), cell_set (by first | omega | (simp <;> omega)) (cell_set (by first | omega | (simp <;> omega)) (cell_set (by first | omega | (simp <;> omega)) c5))⟩, ⟨_, _, _, s3⟩, ⟨by simp [z0], by simp [z1], by simp [z2]⟩, below_set3 hB (by first | omega | (simp <;> omega))⟩ trivial
  · rintro f w1 ⟨hcs, hrb, hfz, hB⟩ hd hT
    obtain ⟨a, b, g, s0, s1, s2, fa, fb, fg⟩ := hT 34 rfl (by decide)
    simp only [Reg.mixL]
    go_wp2
    refine bodyPost_ret (v := vv a b g) (by simp [results, Try.results198, go_sem, s0, s1, s2]) rfl ⟨_, _, _, rfl, fa, fb, fg, hB⟩
end Go.Proofs.Ytmbekamnogbgaaa


/-
Normals of triangles: what the program and its model return. Conditions: the mesh is valid and has the triangle.
-/
namespace Go.Proofs.Ytmbekamnogbgaaa
open Go Fk Go.RowKit
set_option linter.unusedVariables false
set_option maxRecDepth 8000

def lessC (a b : C3) : C3 := (fop .sub .f32 a.1 b.1, fop .sub .f32 a.2.1 b.2.1, fop .sub .f32 a.2.2 b.2.2)
def crossC (a b : C3) : C3 := (fop .sub .f32 (fop .mul .f32 a.2.1 b.2.2) (fop .mul .f32 a.2.2 b.2.1), fop .sub .f32 (fop .mul .f32 a.2.2 b.1) (fop .mul .f32 a.1 b.2.2), fop .sub .f32 (fop .mul .f32 a.1 b.2.1) (fop .mul .f32 a.2.1 b.1))
def cornerC (cs : List C3) (t : List Int) (i : Nat) : C3 := cs.getD (t.getD i 0).toNat c0
def normalC (cs : List C3) (t : List Int) : C3 := crossC (lessC (cornerC cs t 1) (cornerC cs t 0)) (lessC (cornerC cs t 2) (cornerC cs t 0))
theorem tri_parts {n : Nat} {t : List Int} (h : triB n t = true) : t.length = 3 ∧ (∀ i, i < 3 → 0 ≤ t.getD i 0 ∧ (t.getD i 0).toNat < n) := by
  unfold triB at h
  simp only [Bool.and_eq_true, decide_eq_true_eq] at h
  obtain ⟨⟨h3, ⟨h0, h1⟩, h2⟩, _⟩ := h
  refine ⟨h3, fun i hi => ?_⟩
  have a0 := of_decide_eq_true h0
  have a1 := of_decide_eq_true h1
  have a2 := of_decide_eq_true h2
  have : i = 0 ∨ i = 1 ∨ i = 2 := by omega
  rcases this with rfl | rfl | rfl <;> omega
theorem valid_row {cs : List C3} {ts : List (List Int)} {k : Nat} (h : validB cs ts = true) (hk : k < ts.length) : triB cs.length (ts.getD k []) = true := by
  unfold validB at h
  simp only [Bool.and_eq_true] at h
  have := List.all_eq_true.1 h.2 (ts[k]) (List.getElem_mem hk)
  simpa [List.getD, hk] using this
/-- A corner of a triangle of a valid mesh lies in memory. -/
theorem corner_cell {w : World} {pa : Option Addr} {pl pc : Nat} {cs : List C3} {t : List Int} (hp : IsVs w pa pl pc cs) (ht : triB pl t = true) : ∃ b o, pa = some ⟨b, o, none⟩ ∧ ∀ i, i < 3 → ∃ p q r, w.cell? ⟨b, o + (t.getD i 0).toNat * 3, none⟩ = some (.float .f32 p) ∧ w.cell? ⟨b, o + (t.getD i 0).toNat * 3 + 1, none⟩ = some (.float .f32 q) ∧ w.cell? ⟨b, o + (t.getD i 0).toNat * 3 + 2, none⟩ = some (.float .f32 r) ∧
    FV .f32 p (cornerC cs t i).1 ∧ FV .f32 q (cornerC cs t i).2.1 ∧ FV .f32 r (cornerC cs t i).2.2 := by
  obtain ⟨h3, hi⟩ := tri_parts ht
  obtain ⟨b, o, e, hc⟩ := hp.some (by have := (hi 0 (by decide)).2; omega)
  exact ⟨b, o, e, fun i hi' => hc _ (hi i hi').2⟩
/-- What one operation keeps that makes a box or fills one. -/
def Keep (B : Nat) (w1 w2 : World) : Prop := Below B w1 w2 ∧ w1.heap.size ≤ w2.heap.size ∧ (∀ n i, (∃ v, w1.cell? ⟨n, i, none⟩ = some v) → ∃ v, w2.cell? ⟨n, i, none⟩ = some v) ∧ (∀ n i, n < w1.heap.size → w2.frozen? ⟨n, i, none⟩ = w1.frozen? ⟨n, i, none⟩)
theorem Keep.refl (B : Nat) (w : World) : Keep B w w := ⟨Below.refl _ _, Nat.le_refl _, fun _ _ h => h, fun _ _ _ => rfl⟩
theorem Keep.alloc {B : Nat} {w : World} (hB : B ≤ w.heap.size) (o : Obj) : Keep B w (w.alloc o) :=
  ⟨(Below.refl _ _).alloc hB _, by simp, fun n i ⟨v, hv⟩ => ⟨v, cell_alloc hv⟩, fun n i hn => by
    have hb : Below w.heap.size w (w.alloc o) := (Below.refl _ _).alloc (Nat.le_refl _) _
    exact hb.frozen (p := ⟨n, i, none⟩) hn⟩
theorem Keep.set {B : Nat} {w : World} {n o : Nat} {u : Value} (hB : B ≤ n) : Keep B w (w.setCell ⟨n, o, none⟩ u) :=
  ⟨(Below.refl _ _).setCell hB _, by simp, fun m i ⟨v, hv⟩ => by
    by_cases h : (⟨n, o, none⟩ : Addr) = ⟨m, i, none⟩
    · rw [h]; exact ⟨u, World.cell?_setCell_same _ _ _ hv⟩
    · exact ⟨v, by rw [World.cell?_setCell_other _ _ _ _ h]; exact hv⟩, fun m i _ => by simp⟩
theorem Keep.trans {B : Nat} {w1 w2 w3 : World} (h : Keep B w1 w2) (h' : Keep B w2 w3) : Keep B w1 w3 :=
  ⟨h.1.trans h'.1, Nat.le_trans h.2.1 h'.2.1, fun n i hv => h'.2.2.1 n i (h.2.2.1 n i hv), fun n i hn => (h'.2.2.2 n i (Nat.lt_of_lt_of_le hn h.2.1)).trans (h.2.2.2 n i hn)⟩
/-- A box of three cells that can be written. -/
def Box (B n : Nat) (w : World) : Prop := B ≤ n ∧ n < w.heap.size ∧ (∃ u0 u1 u2, w.cell? ⟨n, 0, none⟩ = some u0 ∧ w.cell? ⟨n, 1, none⟩ = some u1 ∧ w.cell? ⟨n, 2, none⟩ = some u2) ∧ (w.frozen? ⟨n, 0, none⟩ = false ∧ w.frozen? ⟨n, 1, none⟩ = false ∧ w.frozen? ⟨n, 2, none⟩ = false)
theorem Box.keep {B n : Nat} {w1 w2 : World} (h : Box B n w1) (k : Keep B w1 w2) : Box B n w2 := by
  obtain ⟨h1, h2, ⟨u0, u1, u2, e0, e1, e2⟩, f0, f1, f2⟩ := h
  obtain ⟨k1, k2, k3, k4⟩ := k
  obtain ⟨v0, e0⟩ := k3 n 0 ⟨_, e0⟩
  obtain ⟨v1, e1⟩ := k3 n 1 ⟨_, e1⟩
  obtain ⟨v2, e2⟩ := k3 n 2 ⟨_, e2⟩
  exact ⟨h1, Nat.lt_of_lt_of_le h2 k2, ⟨v0, v1, v2, e0, e1, e2⟩, by rw [k4 n 0 h2]; exact f0, by rw [k4 n 1 h2]; exact f1, by rw [k4 n 2 h2]; exact f2⟩
set_option maxHeartbeats 2000000 in
theorem l02Normal (pb : Nat) (pa ta : Option Addr) (pl pc tl tc : Nat) (cs : List C3) (ts : List (List Int)) (k : Nat) (w : World) (c0' : w.cell? ⟨pb, 0, none⟩ = some (.slice pa pl pc)) (c1' : w.cell? ⟨pb, 1, none⟩ = some (.slice ta tl tc)) (hp : IsVs w pa pl pc cs) (ht : IsTs w ta tl tc ts) (hv : validB cs ts = true) (hk : k < tl) :
    Calls Try.prog 161 #[.pointer (some ⟨pb, 0, none⟩), .int .i64 k] w fun e w' => ∃ x y z, e = .returned (vv x y z) ∧ FV .f32 x (normalC cs (ts.getD k [])).1 ∧ FV .f32 y (normalC cs (ts.getD k [])).2.1 ∧ FV .f32 z (normalC cs (ts.getD k [])).2.2 ∧ Below w.heap.size w w' := by
  have uv := Try.underlying34
  have ui := Try.underlying29
  obtain ⟨bt, ot, rfl, hrow⟩ := ht.some (by omega)
  obtain ⟨r1, n1, q1, cr, ir⟩ := hrow k hk
  have htri := valid_row hv (by rw [ht.1]; exact hk)
  rw [hp.1] at htri
  obtain ⟨h3, hin⟩ := tri_parts htri
  have hn1 : n1 = 3 := ir.1.symm.trans h3
  subst hn1
  obtain ⟨br, or, rfl, hz⟩ := ir.some (by decide)
  have z0 := hz 0 (by decide)
  have z1 := hz 1 (by decide)
  have z2 := hz 2 (by decide)
  rw [Nat.add_zero] at z0
  obtain ⟨bp, op, rfl, hcor⟩ := corner_cell hp htri
  obtain ⟨p0, q0, s0, d00, d01, d02, f00, f01, f02⟩ := hcor 0 (by decide)
  obtain ⟨p1, q1', s1, d10, d11, d12, f10, f11, f12⟩ := hcor 1 (by decide)
  obtain ⟨p2, q2', s2, d20, d21, d22, f20, f21, f22⟩ := hcor 2 (by decide)
  have i0 := hin 0 (by decide)
  have i1 := hin 1 (by decide)
  have i2 := hin 2 (by decide)
  unfold normalC crossC lessC
  generalize cornerC cs (ts.getD k []) 0 = C0 at *
  generalize cornerC cs (ts.getD k []) 1 = C1 at *
  generalize cornerC cs (ts.getD k []) 2 = C2 at *
  generalize (ts.getD k []).getD 0 0 = j0 at *
  generalize (ts.getD k []).getD 1 0 = j1 at *
  generalize (ts.getD k []).getD 2 0 = j2 at *
  obtain ⟨i0, i0'⟩ := i0
  obtain ⟨i1, i1'⟩ := i1
  obtain ⟨i2, i2'⟩ := i2
  have m0 : j0 < (pl : Int) := by omega
  have m1 : j1 < (pl : Int) := by omega
  have m2 : j2 < (pl : Int) := by omega
  have hk0 : (0 : Int) ≤ (k : Int) := by omega
  have hk1 : (k : Int) < (tl : Int) := by omega
  have lpb : pb < w.heap.size := World.block_lt_of_cell? w _ c0'
  have lbt : bt < w.heap.size := World.block_lt_of_cell? w _ cr
  have lbr : br < w.heap.size := World.block_lt_of_cell? w _ z0
  have lbp : bp < w.heap.size := World.block_lt_of_cell? w _ d00
  clear hrow hz hcor hin htri ir hp ht h3 hv
  go_enter Try.func161, Try.ntmps161
  go_wp2_with fail
  have hB0 : Below w.heap.size w (w.alloc (.cells #[.float .f32 0, .float .f32 0, .float .f32 0] 34)) := (Below.refl _ _).alloc (Nat.le_refl _) _
  have rz : ∀ i, i < 3 → (w.alloc (.cells #[.float .f32 0, .float .f32 0, .float .f32 0] 34)).cell? ⟨w.heap.size, i, none⟩ = some (.float .f32 0) := by
    intro i hi
    have : i = 0 ∨ i = 1 ∨ i = 2 := by omega
    rcases this with rfl | rfl | rfl <;> go_simp
  have rf : ∀ i, (w.alloc (.cells #[.float .f32 0, .float .f32 0, .float .f32 0] 34)).frozen? ⟨w.heap.size, i, none⟩ = false := by intro i; go_simp
  have c0w := cell_below hB0 c0'
  have z0w := cell_below hB0 z0
  have z1w := cell_below hB0 z1
  have z2w := cell_below hB0 z2
  have d00w := cell_below hB0 d00
  have d01w := cell_below hB0 d01
  have d02w := cell_below hB0 d02
  have d10w := cell_below hB0 d10
  have d11w := cell_below hB0 d11
  have d12w := cell_below hB0 d12
  have d20w := cell_below hB0 d20
  have d21w := cell_below hB0 d21
  have d22w := cell_below hB0 d22
  have hW : (w.alloc (.cells #[.float .f32 0, .float .f32 0, .float .f32 0] 34)).heap.size = w.heap.size + 1 := by simp
  have HB0 := Lib.hid hB0
  have RZ := Lib.hid rz
  have RF := Lib.hid rf
  have HWS := Lib.hid hW
  have C0' := Lib.hid c0'
  have Z0' := Lib.hid z0
  have D0' := Lib.hid d00
  clear c0' c1' z0 z1 z2 d00 d01 d02 d10 d11 d12 d20 d21 d22 cr hB0 rz rf hW lpb lbt lbr lbp
  generalize w.alloc (.cells #[.float .f32 0, .float .f32 0, .float .f32 0] 34) = W at *
  refine Reg.wp_region_mix (C := fun w' => Below W.heap.size W w') (G := fun w1 w2 => Keep W.heap.size w1 w2) (R := fun i v w' => match i with | 0 => v = .pointer (some ⟨pb, 0, none⟩) | 1 => v = .pointer (some ⟨pb, 0, none⟩) | 2 => v = .pointer (some ⟨pb, 0, none⟩) | 3 => v = .slice (some ⟨bp, op, none⟩) pl pc | 4 => v = .slice (some ⟨br, or, none⟩) 3 q1 | 5 => v = .pointer (some ⟨br, or, none⟩) | 6 => v = .int .i64 j0 | 7 => v = .pointer (some ⟨bp, op + j0.toNat * 3, none⟩) | 8 => v = vv p0 q0 s0 | 9 => ∃ n, v = .pointer (some ⟨n, 0, none⟩) ∧ Box W.heap.size n w' | _ => True) (T := fun _ a w' => ∃ n, a.eval (.tmp 6) = .pointer (some ⟨n, 0, none⟩) ∧ W.heap.size ≤ n ∧ n < w'.heap.size ∧ w'.cell? ⟨n, 0, none⟩ = some (.float .f32 p0) ∧ w'.cell? ⟨n, 1, none⟩ = some (.float .f32 q0) ∧ w'.cell? ⟨n, 2, none⟩ = some (.float .f32 s0)) [false, false, false, false, false, false, true, false, false, false, false, false, false, false, true, true, true, true, true, true, true, true, true, false, false, false, false, false, false, false, false, false, false, false, false, false, false, false, false, false, false, false, false, false, false, false]
    (by kernel_rfl) (by kernel_rfl) (by kernel_rfl) ?_ (below_drewN (Below.refl _ _) 1) ?_ ?_
  · intro j v w1 w2 _ hG hR
    match j with
    | 0 => exact hR
    | 1 => exact hR
    | 2 => exact hR
    | 3 => exact hR
    | 4 => exact hR
    | 5 => exact hR
    | 6 => exact hR
    | 7 => exact hR
    | 8 => exact hR
    | 9 => obtain ⟨n, e, hb⟩ := hR; exact ⟨n, e, hb.keep hG⟩
    | _ + 10 => trivial
  · refine ⟨Reg.Obl.mk ?_, Reg.Obl.mk ?_, Reg.Obl.mk ?_, Reg.Obl.mk ?_, Reg.Obl.mk ?_, Reg.Obl.mk ?_, Reg.Obl.mk ?_, Reg.Obl.mk ?_, Reg.Obl.mk ?_, Reg.Obl.mk ?_, Reg.Obl.mk ?_, trivial⟩
    · rintro a w1 hB hx hd K hK
      have t0 : a.tmps[0]?.getD undef = .pointer (some ⟨pb, 0, none⟩) := Reg.slot_val (hx 0 (by kernel_rfl))
      have y0 := cell_below hB c0w
      have y1 := cell_below hB z0w
      have y2 := cell_below hB d00w
      have y3 := cell_below hB d01w
      have y4 := cell_below hB d02w
      go_simp
      exact hK _ _ (fun _ => rfl) (fun h => by cases h) hB (Keep.refl _ _)
    · rintro a w1 hB hx hd K hK
      have t14 : a.tmps[14]?.getD undef = .pointer (some ⟨pb, 0, none⟩) := Reg.slot_val (hd 0 (by kernel_rfl) 14 rfl)
      have y0 := cell_below hB c0w
      have y1 := cell_below hB z0w
      have y2 := cell_below hB d00w
      have y3 := cell_below hB d01w
      have y4 := cell_below hB d02w
      go_simp
      exact hK _ _ (fun _ => rfl) (fun h => by cases h) hB (Keep.refl _ _)
    · rintro a w1 hB hx hd K hK
      have t15 : a.tmps[15]?.getD undef = .pointer (some ⟨pb, 0, none⟩) := Reg.slot_val (hd 1 (by kernel_rfl) 15 rfl)
      have y0 := cell_below hB c0w
      have y1 := cell_below hB z0w
      have y2 := cell_below hB d00w
      have y3 := cell_below hB d01w
      have y4 := cell_below hB d02w
      go_simp
      exact hK _ _ (fun _ => rfl) (fun h => by cases h) hB (Keep.refl _ _)
    · rintro a w1 hB hx hd K hK
      have t16 : a.tmps[16]?.getD undef = .pointer (some ⟨pb, 0, none⟩) := Reg.slot_val (hd 2 (by kernel_rfl) 16 rfl)
      have y0 := cell_below hB c0w
      have y1 := cell_below hB z0w
      have y2 := cell_below hB d00w
      have y3 := cell_below hB d01w
      have y4 := cell_below hB d02w
      go_simp
      exact hK _ _ (fun _ => rfl) (fun h => by cases h) hB (Keep.refl _ _)
    · rintro a w1 hB hx hd K hK
      have t5 : a.tmps[5]?.getD undef = .slice (some ⟨br, or, none⟩) 3 q1 := Reg.slot_val (hx 5 (by kernel_rfl))
      have y0 := cell_below hB c0w
      have y1 := cell_below hB z0w
      have y2 := cell_below hB d00w
      have y3 := cell_below hB d01w
      have y4 := cell_below hB d02w
      go_simp
      exact hK _ _ (fun _ => rfl) (fun h => by cases h) hB (Keep.refl _ _)
    · rintro a w1 hB hx hd K hK
      have t18 : a.tmps[18]?.getD undef = .slice (some ⟨br, or, none⟩) 3 q1 := Reg.slot_val (hd 4 (by kernel_rfl) 18 rfl)
      have y0 := cell_below hB c0w
      have y1 := cell_below hB z0w
      have y2 := cell_below hB d00w
      have y3 := cell_below hB d01w
      have y4 := cell_below hB d02w
      go_simp
      exact hK _ _ (fun _ => rfl) (fun h => by cases h) hB (Keep.refl _ _)
    · rintro a w1 hB hx hd K hK
      have t19 : a.tmps[19]?.getD undef = .pointer (some ⟨br, or, none⟩) := Reg.slot_val (hd 5 (by kernel_rfl) 19 rfl)
      have y0 := cell_below hB c0w
      have y1 := cell_below hB z0w
      have y2 := cell_below hB d00w
      have y3 := cell_below hB d01w
      have y4 := cell_below hB d02w
      go_simp
      exact hK _ _ (fun _ => rfl) (fun h => by cases h) hB (Keep.refl _ _)
    · rintro a w1 hB hx hd K hK
      have t17 : a.tmps[17]?.getD undef = .slice (some ⟨bp, op, none⟩) pl pc := Reg.slot_val (hd 3 (by kernel_rfl) 17 rfl)
      have t20 : a.tmps[20]?.getD undef = .int .i64 j0 := Reg.slot_val (hd 6 (by kernel_rfl) 20 rfl)
      have y0 := cell_below hB c0w
      have y1 := cell_below hB z0w
      have y2 := cell_below hB d00w
      have y3 := cell_below hB d01w
      have y4 := cell_below hB d02w
      go_simp
      exact hK _ _ (fun _ => rfl) (fun h => by cases h) hB (Keep.refl _ _)
    · rintro a w1 hB hx hd K hK
      have t21 : a.tmps[21]?.getD undef = .pointer (some ⟨bp, op + j0.toNat * 3, none⟩) := Reg.slot_val (hd 7 (by kernel_rfl) 21 rfl)
      have y0 := cell_below hB c0w
      have y1 := cell_below hB z0w
      have y2 := cell_below hB d00w
      have y3 := cell_below hB d01w
      have y4 := cell_below hB d02w
      go_simp
      exact hK _ _ (fun _ => rfl) (fun h => by cases h) hB (Keep.refl _ _)
    · rintro a w1 hB hx hd K hK
      go_simp
      refine hK _ _ (fun _ => ⟨_, rfl, hB.size, by simp, ⟨_, _, _, new0, new1, new2⟩, newf, newf, newf⟩) (fun h => by cases h) (hB.alloc hB.size _) (Keep.alloc hB.size _)
    · rintro a w1 hB hx hd K hK
      obtain ⟨n, g6, hn⟩ := hd 9 (by kernel_rfl) 6 rfl
      have t6 := Reg.slot_val g6
      have t22 : a.tmps[22]?.getD undef = vv p0 q0 s0 := Reg.slot_val (hd 8 (by kernel_rfl) 22 rfl)
      have hn' := Lib.hid hn
      obtain ⟨hn1, hn2, ⟨u0, u1, u2, e0, e1, e2⟩, k0, k1, k2⟩ := hn
      have G6 := Lib.hid g6
      clear g6
      go_simp
      have s3 := set3 (u := .float .f32 p0) (v := .float .f32 q0) (t := .float .f32 s0) e0 e1 e2
      refine hK undef _ (fun h => absurd rfl h) (fun _ => ⟨n, G6.out, hn1, by simp; exact hn2, s3⟩) (below_set3 hB hn1) (((Keep.set hn1).trans (Keep.set hn1)).trans (Keep.set hn1))
  · rintro f w1 hB hd hT
    obtain ⟨n, g6, hn⟩ := hd 9 6 rfl
    obtain ⟨n', g6', hn1, hn2, e0, e1, e2⟩ := hT 10 rfl (by decide)
    have hnn : n' = n := by
      have : f 6 = .pointer (some ⟨n', 0, none⟩) := g6'
      rw [g6] at this; simpa using this.symm
    subst hnn
    simp only [Reg.mixL, g6]
    have hz1 := cell_below hB z1w
    have hz2 := cell_below hB z2w
    have hc0 := cell_below hB c0w
    have hd10 := cell_below hB d10w
    have hd11 := cell_below hB d11w
    have hd12 := cell_below hB d12w
    have hd20 := cell_below hB d20w
    have hd21 := cell_below hB d21w
    have hd22 := cell_below hB d22w
    have hr0 := cell_below hB (RZ.out 0 (by decide))
    have hr1 := cell_below hB (RZ.out 1 (by decide))
    have hr2 := cell_below hB (RZ.out 2 (by decide))
    have hws := HWS.out
    have hf0 := frozen_below hB (World.block_lt_of_cell? _ _ (RZ.out 0 (by decide))) (RF.out 0)
    have hf1 := frozen_below hB (World.block_lt_of_cell? _ _ (RZ.out 0 (by decide))) (RF.out 1)
    have hf2 := frozen_below hB (World.block_lt_of_cell? _ _ (RZ.out 0 (by decide))) (RF.out 2)
    have hBW : Below w.heap.size w w1 := HB0.out.trans (hB.mono HB0.out.size)
    have npb : w.heap.size ≠ pb := by have := World.block_lt_of_cell? _ _ C0'.out; simp at this; omega
    have nbr : w.heap.size ≠ br := by have := World.block_lt_of_cell? _ _ Z0'.out; simp at this; omega
    have nbp : w.heap.size ≠ bp := by have := World.block_lt_of_cell? _ _ D0'.out; simp at this; omega
    have nn : w.heap.size ≠ n' := by omega
    clear hT hd g6' c0w z0w z1w z2w d00w d01w d02w d10w d11w d12w d20w d21w d22w hn hB
    go_wp2_with fail
    refine Reg.wp_region_mix (C := fun w' => (w'.cell? ⟨pb, 0, none⟩ = some (.slice (some ⟨bp, op, none⟩) pl pc) ∧ w'.cell? ⟨br, or + 1, none⟩ = some (.int .i64 j1) ∧ w'.cell? ⟨br, or + 2, none⟩ = some (.int .i64 j2) ∧ w'.cell? ⟨bp, op + j1.toNat * 3, none⟩ = some (.float .f32 p1) ∧ w'.cell? ⟨bp, op + j1.toNat * 3 + 1, none⟩ = some (.float .f32 q1') ∧ w'.cell? ⟨bp, op + j1.toNat * 3 + 2, none⟩ = some (.float .f32 s1) ∧ w'.cell? ⟨bp, op + j2.toNat * 3, none⟩ = some (.float .f32 p2) ∧ w'.cell? ⟨bp, op + j2.toNat * 3 + 1, none⟩ = some (.float .f32 q2') ∧ w'.cell? ⟨bp, op + j2.toNat * 3 + 2, none⟩ = some (.float .f32 s2) ∧ w'.cell? ⟨n', 0, none⟩ = some (.float .f32 p0) ∧ w'.cell? ⟨n', 1, none⟩ = some (.float .f32 q0) ∧ w'.cell? ⟨n', 2, none⟩ = some (.float .f32 s0)) ∧ (∃ u0 u1 u2, w'.cell? ⟨w.heap.size, 0, none⟩ = some u0 ∧ w'.cell? ⟨w.heap.size, 1, none⟩ = some u1 ∧ w'.cell? ⟨w.heap.size, 2, none⟩ = some u2) ∧ (w'.frozen? ⟨w.heap.size, 0, none⟩ = false ∧ w'.frozen? ⟨w.heap.size, 1, none⟩ = false ∧ w'.frozen? ⟨w.heap.size, 2, none⟩ = false) ∧ Below w.heap.size w w') (G := fun _ _ => True) (R := fun i v _ => match i with | 0 => v = .pointer (some ⟨pb, 0, none⟩) | 1 => v = .pointer (some ⟨pb, 0, none⟩) | 2 => v = .pointer (some ⟨pb, 0, none⟩) | 3 => v = .slice (some ⟨bp, op, none⟩) pl pc | 4 => v = .slice (some ⟨br, or, none⟩) 3 q1 | 5 => v = .pointer (some ⟨br, or + 1, none⟩) | 6 => v = .int .i64 j1 | 7 => v = .pointer (some ⟨bp, op + j1.toNat * 3, none⟩) | 8 => v = vv p1 q1' s1 | 9 => v = vv p0 q0 s0 | 10 => ∃ a b g, v = vv a b g ∧ FV .f32 a (fop .sub .f32 C1.1 C0.1) ∧ FV .f32 b (fop .sub .f32 C1.2.1 C0.2.1) ∧ FV .f32 g (fop .sub .f32 C1.2.2 C0.2.2) | 11 => v = .pointer (some ⟨pb, 0, none⟩) | 12 => v = .pointer (some ⟨pb, 0, none⟩) | 13 => v = .pointer (some ⟨pb, 0, none⟩) | 14 => v = .slice (some ⟨bp, op, none⟩) pl pc | 15 => v = .slice (some ⟨br, or, none⟩) 3 q1 | 16 => v = .pointer (some ⟨br, or + 2, none⟩) | 17 => v = .int .i64 j2 | 18 => v = .pointer (some ⟨bp, op + j2.toNat * 3, none⟩) | 19 => v = vv p2 q2' s2 | 20 => v = vv p0 q0 s0 | 21 => ∃ a b g, v = vv a b g ∧ FV .f32 a (fop .sub .f32 C2.1 C0.1) ∧ FV .f32 b (fop .sub .f32 C2.2.1 C0.2.1) ∧ FV .f32 g (fop .sub .f32 C2.2.2 C0.2.2) | 22 => ∃ a b g, v = vv a b g ∧ FV .f32 a (fop .sub .f32 (fop .mul .f32 (fop .sub .f32 C1.2.1 C0.2.1) (fop .sub .f32 C2.2.2 C0.2.2)) (fop .mul .f32 (fop .sub .f32 C1.2.2 C0.2.2) (fop .sub .f32 C2.2.1 C0.2.1))) ∧ FV .f32 b (fop .sub .f32 (fop .mul .f32 (fop .sub .f32 C1.2.2 C0.2.2) (fop .sub .f32 C2.1 C0.1)) (fop .mul .f32 (fop .sub .f32 C1.1 C0.1) (fop .sub .f32 C2.2.2 C0.2.2))) ∧ FV .f32 g (fop .sub .f32 (fop .mul .f32 (fop .sub .f32 C1.1 C0.1) (fop .sub .f32 C2.2.1 C0.2.1)) (fop .mul .f32 (fop .sub .f32 C1.2.1 C0.2.1) (fop .sub .f32 C2.1 C0.1))) | _ => True) (T := fun _ a w' => ∃ a b g, w'.cell? ⟨w.heap.size, 0, none⟩ = some (.float .f32 a) ∧ w'.cell? ⟨w.heap.size, 1, none⟩ = some (.float .f32 b) ∧ w'.cell? ⟨w.heap.size, 2, none⟩ = some (.float .f32 g) ∧ FV .f32 a (fop .sub .f32 (fop .mul .f32 (fop .sub .f32 C1.2.1 C0.2.1) (fop .sub .f32 C2.2.2 C0.2.2)) (fop .mul .f32 (fop .sub .f32 C1.2.2 C0.2.2) (fop .sub .f32 C2.2.1 C0.2.1))) ∧ FV .f32 b (fop .sub .f32 (fop .mul .f32 (fop .sub .f32 C1.2.2 C0.2.2) (fop .sub .f32 C2.1 C0.1)) (fop .mul .f32 (fop .sub .f32 C1.1 C0.1) (fop .sub .f32 C2.2.2 C0.2.2))) ∧ FV .f32 g (fop .sub .f32 (fop .mul .f32 (fop .sub .f32 C1.1 C0.1) (fop .sub .f32 C2.2.1 C0.2.1)) (fop .mul .f32 (fop .sub .f32 C1.2.1 C0.2.1) (fop .sub .f32 C2.1 C0.1)))) [false, false, false, false, false, false, false, false, false, false, false, false, false, false, false, false, false, false, false, false, false, false, false, true, true, true, true, true, true, true, true, true, true, true, true, true, true, true, true, true, true, true, true, true, true, true]
      (by kernel_rfl) (by kernel_rfl) (by kernel_rfl) (fun _ _ _ _ _ _ h => h) ⟨⟨hc0, hz1, hz2, hd10, hd11, hd12, hd20, hd21, hd22, e0, e1, e2⟩, ⟨_, _, _, hr0, hr1, hr2⟩, ⟨hf0, hf1, hf2⟩, below_drewN hBW 1⟩ ?_ ?_
    · refine ⟨Reg.Obl.mk ?_, Reg.Obl.mk ?_, Reg.Obl.mk ?_, Reg.Obl.mk ?_, Reg.Obl.mk ?_, Reg.Obl.mk ?_, Reg.Obl.mk ?_, Reg.Obl.mk ?_, Reg.Obl.mk ?_, Reg.Obl.mk ?_, Reg.Obl.mk ?_, Reg.Obl.mk ?_, Reg.Obl.mk ?_, Reg.Obl.mk ?_, Reg.Obl.mk ?_, Reg.Obl.mk ?_, Reg.Obl.mk ?_, Reg.Obl.mk ?_, Reg.Obl.mk ?_, Reg.Obl.mk ?_, Reg.Obl.mk ?_, Reg.Obl.mk ?_, Reg.Obl.mk ?_, Reg.Obl.mk ?_, trivial⟩
      · rintro a w1 ⟨⟨y0, y1, y2, y3, y4, y5, y6, y7, y8, y9, y10, y11⟩, hrb, hfz, hB⟩ hx hd K hK
        have t0 : a.tmps[0]?.getD undef = .pointer (some ⟨pb, 0, none⟩) := Reg.slot_val (hx 0 (by kernel_rfl))
        go_simp
        exact hK _ _ (fun _ => rfl) (fun h => by cases h) ⟨⟨y0, y1, y2, y3, y4, y5, y6, y7, y8, y9, y10, y11⟩, hrb, hfz, hB⟩ trivial
      · rintro a w1 ⟨⟨y0, y1, y2, y3, y4, y5, y6, y7, y8, y9, y10, y11⟩, hrb, hfz, hB⟩ hx hd K hK
        have t23 : a.tmps[23]?.getD undef = .pointer (some ⟨pb, 0, none⟩) := Reg.slot_val (hd 0 (by kernel_rfl) 23 rfl)
        go_simp
        exact hK _ _ (fun _ => rfl) (fun h => by cases h) ⟨⟨y0, y1, y2, y3, y4, y5, y6, y7, y8, y9, y10, y11⟩, hrb, hfz, hB⟩ trivial
      · rintro a w1 ⟨⟨y0, y1, y2, y3, y4, y5, y6, y7, y8, y9, y10, y11⟩, hrb, hfz, hB⟩ hx hd K hK
        have t24 : a.tmps[24]?.getD undef = .pointer (some ⟨pb, 0, none⟩) := Reg.slot_val (hd 1 (by kernel_rfl) 24 rfl)
        go_simp
        exact hK _ _ (fun _ => rfl) (fun h => by cases h) ⟨⟨y0, y1, y2, y3, y4, y5, y6, y7, y8, y9, y10, y11⟩, hrb, hfz, hB⟩ trivial
      · rintro a w1 ⟨⟨y0, y1, y2, y3, y4, y5, y6, y7, y8, y9, y10, y11⟩, hrb, hfz, hB⟩ hx hd K hK
        have t25 : a.tmps[25]?.getD undef = .pointer (some ⟨pb, 0, none⟩) := Reg.slot_val (hd 2 (by kernel_rfl) 25 rfl)
        go_simp
        exact hK _ _ (fun _ => rfl) (fun h => by cases h) ⟨⟨y0, y1, y2, y3, y4, y5, y6, y7, y8, y9, y10, y11⟩, hrb, hfz, hB⟩ trivial
      · rintro a w1 ⟨⟨y0, y1, y2, y3, y4, y5, y6, y7, y8, y9, y10, y11⟩, hrb, hfz, hB⟩ hx hd K hK
        have t5 : a.tmps[5]?.getD undef = .slice (some ⟨br, or, none⟩) 3 q1 := Reg.slot_val (hx 5 (by kernel_rfl))
        go_simp
        exact hK _ _ (fun _ => rfl) (fun h => by cases h) ⟨⟨y0, y1, y2, y3, y4, y5, y6, y7, y8, y9, y10, y11⟩, hrb, hfz, hB⟩ trivial
      · rintro a w1 ⟨⟨y0, y1, y2, y3, y4, y5, y6, y7, y8, y9, y10, y11⟩, hrb, hfz, hB⟩ hx hd K hK
        have t27 : a.tmps[27]?.getD undef = .slice (some ⟨br, or, none⟩) 3 q1 := Reg.slot_val (hd 4 (by kernel_rfl) 27 rfl)
        go_simp
        exact hK _ _ (fun _ => rfl) (fun h => by cases h) ⟨⟨y0, y1, y2, y3, y4, y5, y6, y7, y8, y9, y10, y11⟩, hrb, hfz, hB⟩ trivial
      · rintro a w1 ⟨⟨y0, y1, y2, y3, y4, y5, y6, y7, y8, y9, y10, y11⟩, hrb, hfz, hB⟩ hx hd K hK
        have t28 : a.tmps[28]?.getD undef = .pointer (some ⟨br, or + 1, none⟩) := Reg.slot_val (hd 5 (by kernel_rfl) 28 rfl)
        go_simp
        exact hK _ _ (fun _ => rfl) (fun h => by cases h) ⟨⟨y0, y1, y2, y3, y4, y5, y6, y7, y8, y9, y10, y11⟩, hrb, hfz, hB⟩ trivial
      · rintro a w1 ⟨⟨y0, y1, y2, y3, y4, y5, y6, y7, y8, y9, y10, y11⟩, hrb, hfz, hB⟩ hx hd K hK
        have t26 : a.tmps[26]?.getD undef = .slice (some ⟨bp, op, none⟩) pl pc := Reg.slot_val (hd 3 (by kernel_rfl) 26 rfl)
        have t29 : a.tmps[29]?.getD undef = .int .i64 j1 := Reg.slot_val (hd 6 (by kernel_rfl) 29 rfl)
        go_simp
        exact hK _ _ (fun _ => rfl) (fun h => by cases h) ⟨⟨y0, y1, y2, y3, y4, y5, y6, y7, y8, y9, y10, y11⟩, hrb, hfz, hB⟩ trivial
      · rintro a w1 ⟨⟨y0, y1, y2, y3, y4, y5, y6, y7, y8, y9, y10, y11⟩, hrb, hfz, hB⟩ hx hd K hK
        have t30 : a.tmps[30]?.getD undef = .pointer (some ⟨bp, op + j1.toNat * 3, none⟩) := Reg.slot_val (hd 7 (by kernel_rfl) 30 rfl)
        go_simp
        exact hK _ _ (fun _ => rfl) (fun h => by cases h) ⟨⟨y0, y1, y2, y3, y4, y5, y6, y7, y8, y9, y10, y11⟩, hrb, hfz, hB⟩ trivial
      · rintro a w1 ⟨⟨y0, y1, y2, y3, y4, y5, y6, y7, y8, y9, y10, y11⟩, hrb, hfz, hB⟩ hx hd K hK
        have t6 : a.tmps[6]?.getD undef = .pointer (some ⟨n', 0, none⟩) := Reg.slot_val (hx 6 (by kernel_rfl))
        go_simp
        exact hK _ _ (fun _ => rfl) (fun h => by cases h) ⟨⟨y0, y1, y2, y3, y4, y5, y6, y7, y8, y9, y10, y11⟩, hrb, hfz, hB⟩ trivial
      · rintro a w1 ⟨⟨y0, y1, y2, y3, y4, y5, y6, y7, y8, y9, y10, y11⟩, hrb, hfz, hB⟩ hx hd K hK
        have t31 : a.tmps[31]?.getD undef = vv p1 q1' s1 := Reg.slot_val (hd 8 (by kernel_rfl) 31 rfl)
        have t32 : a.tmps[32]?.getD undef = vv p0 q0 s0 := Reg.slot_val (hd 9 (by kernel_rfl) 32 rfl)
        have hrb' := Lib.hid hrb
        clear hrb
        go_simp
        refine (l01Less _ _ _ _ _ _ _ _ _ _ _ _ _ f10 f11 f12 f00 f01 f02).mono ?_
        rintro en w2 ⟨ra, rb, rc, rfl, ha, hb, hc, hB2⟩
        obtain ⟨u0, u1, u2, x0, x1, x2⟩ := hrb'.out
        have lt := World.block_lt_of_cell? w1 _ x0
        exact hK _ _ (fun _ => ⟨ra, rb, rc, rfl, ha, hb, hc⟩) (fun h => by cases h) ⟨⟨cell_below hB2 y0, cell_below hB2 y1, cell_below hB2 y2, cell_below hB2 y3, cell_below hB2 y4, cell_below hB2 y5, cell_below hB2 y6, cell_below hB2 y7, cell_below hB2 y8, cell_below hB2 y9, cell_below hB2 y10, cell_below hB2 y11⟩, ⟨u0, u1, u2, cell_below hB2 x0, cell_below hB2 x1, cell_below hB2 x2⟩, ⟨frozen_below hB2 lt hfz.1, frozen_below hB2 lt hfz.2.1, frozen_below hB2 lt hfz.2.2⟩, hB.trans (hB2.mono hB.size)⟩ trivial
      · rintro a w1 ⟨⟨y0, y1, y2, y3, y4, y5, y6, y7, y8, y9, y10, y11⟩, hrb, hfz, hB⟩ hx hd K hK
        have t0 : a.tmps[0]?.getD undef = .pointer (some ⟨pb, 0, none⟩) := Reg.slot_val (hx 0 (by kernel_rfl))
        go_simp
        exact hK _ _ (fun _ => rfl) (fun h => by cases h) ⟨⟨y0, y1, y2, y3, y4, y5, y6, y7, y8, y9, y10, y11⟩, hrb, hfz, hB⟩ trivial
      · rintro a w1 ⟨⟨y0, y1, y2, y3, y4, y5, y6, y7, y8, y9, y10, y11⟩, hrb, hfz, hB⟩ hx hd K hK
        have t34 : a.tmps[34]?.getD undef = .pointer (some ⟨pb, 0, none⟩) := Reg.slot_val (hd 11 (by kernel_rfl) 34 rfl)
        go_simp
        exact hK _ _ (fun _ => rfl) (fun h => by cases h) ⟨⟨y0, y1, y2, y3, y4, y5, y6, y7, y8, y9, y10, y11⟩, hrb, hfz, hB⟩ trivial
      · rintro a w1 ⟨⟨y0, y1, y2, y3, y4, y5, y6, y7, y8, y9, y10, y11⟩, hrb, hfz, hB⟩ hx hd K hK
        have t35 : a.tmps[35]?.getD undef = .pointer (some ⟨pb, 0, none⟩) := Reg.slot_val (hd 12 (by kernel_rfl) 35 rfl)
        go_simp
        exact hK _ _ (fun _ => rfl) (fun h => by cases h) ⟨⟨y0, y1, y2, y3, y4, y5, y6, y7, y8, y9, y10, y11⟩, hrb, hfz, hB⟩ trivial
      · rintro a w1 ⟨⟨y0, y1, y2, y3, y4, y5, y6, y7, y8, y9, y10, y11⟩, hrb, hfz, hB⟩ hx hd K hK
        have t36 : a.tmps[36]?.getD undef = .pointer (some ⟨pb, 0, none⟩) := Reg.slot_val (hd 13 (by kernel_rfl) 36 rfl)
        go_simp
        exact hK _ _ (fun _ => rfl) (fun h => by cases h) ⟨⟨y0, y1, y2, y3, y4, y5, y6, y7, y8, y9, y10, y11⟩, hrb, hfz, hB⟩ trivial
      · rintro a w1 ⟨⟨y0, y1, y2, y3, y4, y5, y6, y7, y8, y9, y10, y11⟩, hrb, hfz, hB⟩ hx hd K hK
        have t5 : a.tmps[5]?.getD undef = .slice (some ⟨br, or, none⟩) 3 q1 := Reg.slot_val (hx 5 (by kernel_rfl))
        go_simp
        exact hK _ _ (fun _ => rfl) (fun h => by cases h) ⟨⟨y0, y1, y2, y3, y4, y5, y6, y7, y8, y9, y10, y11⟩, hrb, hfz, hB⟩ trivial
      · rintro a w1 ⟨⟨y0, y1, y2, y3, y4, y5, y6, y7, y8, y9, y10, y11⟩, hrb, hfz, hB⟩ hx hd K hK
        have t38 : a.tmps[38]?.getD undef = .slice (some ⟨br, or, none⟩) 3 q1 := Reg.slot_val (hd 15 (by kernel_rfl) 38 rfl)
        go_simp
        exact hK _ _ (fun _ => rfl) (fun h => by cases h) ⟨⟨y0, y1, y2, y3, y4, y5, y6, y7, y8, y9, y10, y11⟩, hrb, hfz, hB⟩ trivial
      · rintro a w1 ⟨⟨y0, y1, y2, y3, y4, y5, y6, y7, y8, y9, y10, y11⟩, hrb, hfz, hB⟩ hx hd K hK
        have t39 : a.tmps[39]?.getD undef = .pointer (some ⟨br, or + 2, none⟩) := Reg.slot_val (hd 16 (by kernel_rfl) 39 rfl)
        go_simp
        exact hK _ _ (fun _ => rfl) (fun h => by cases h) ⟨⟨y0, y1, y2, y3, y4, y5, y6, y7, y8, y9, y10, y11⟩, hrb, hfz, hB⟩ trivial
      · rintro a w1 ⟨⟨y0, y1, y2, y3, y4, y5, y6, y7, y8, y9, y10, y11⟩, hrb, hfz, hB⟩ hx hd K hK
        have t37 : a.tmps[37]?.getD undef = .slice (some ⟨bp, op, none⟩) pl pc := Reg.slot_val (hd 14 (by kernel_rfl) 37 rfl)
        have t40 : a.tmps[40]?.getD undef = .int .i64 j2 := Reg.slot_val (hd 17 (by kernel_rfl) 40 rfl)
        go_simp
        exact hK _ _ (fun _ => rfl) (fun h => by cases h) ⟨⟨y0, y1, y2, y3, y4, y5, y6, y7, y8, y9, y10, y11⟩, hrb, hfz, hB⟩ trivial
      · rintro a w1 ⟨⟨y0, y1, y2, y3, y4, y5, y6, y7, y8, y9, y10, y11⟩, hrb, hfz, hB⟩ hx hd K hK
        have t41 : a.tmps[41]?.getD undef = .pointer (some ⟨bp, op + j2.toNat * 3, none⟩) := Reg.slot_val (hd 18 (by kernel_rfl) 41 rfl)
        go_simp
        exact hK _ _ (fun _ => rfl) (fun h => by cases h) ⟨⟨y0, y1, y2, y3, y4, y5, y6, y7, y8, y9, y10, y11⟩, hrb, hfz, hB⟩ trivial
      · rintro a w1 ⟨⟨y0, y1, y2, y3, y4, y5, y6, y7, y8, y9, y10, y11⟩, hrb, hfz, hB⟩ hx hd K hK
        have t6 : a.tmps[6]?.getD undef = .pointer (some ⟨n', 0, none⟩) := Reg.slot_val (hx 6 (by kernel_rfl))
        go_simp
        exact hK _ _ (fun _ => rfl) (fun h => by cases h) ⟨⟨y0, y1, y2, y3, y4, y5, y6, y7, y8, y9, y10, y11⟩, hrb, hfz, hB⟩ trivial
      · rintro a w1 ⟨⟨y0, y1, y2, y3, y4, y5, y6, y7, y8, y9, y10, y11⟩, hrb, hfz, hB⟩ hx hd K hK
        have t42 : a.tmps[42]?.getD undef = vv p2 q2' s2 := Reg.slot_val (hd 19 (by kernel_rfl) 42 rfl)
        have t43 : a.tmps[43]?.getD undef = vv p0 q0 s0 := Reg.slot_val (hd 20 (by kernel_rfl) 43 rfl)
        have hrb' := Lib.hid hrb
        clear hrb
        go_simp
        refine (l01Less _ _ _ _ _ _ _ _ _ _ _ _ _ f20 f21 f22 f00 f01 f02).mono ?_
        rintro en w2 ⟨ra, rb, rc, rfl, ha, hb, hc, hB2⟩
        obtain ⟨u0, u1, u2, x0, x1, x2⟩ := hrb'.out
        have lt := World.block_lt_of_cell? w1 _ x0
        exact hK _ _ (fun _ => ⟨ra, rb, rc, rfl, ha, hb, hc⟩) (fun h => by cases h) ⟨⟨cell_below hB2 y0, cell_below hB2 y1, cell_below hB2 y2, cell_below hB2 y3, cell_below hB2 y4, cell_below hB2 y5, cell_below hB2 y6, cell_below hB2 y7, cell_below hB2 y8, cell_below hB2 y9, cell_below hB2 y10, cell_below hB2 y11⟩, ⟨u0, u1, u2, cell_below hB2 x0, cell_below hB2 x1, cell_below hB2 x2⟩, ⟨frozen_below hB2 lt hfz.1, frozen_below hB2 lt hfz.2.1, frozen_below hB2 lt hfz.2.2⟩, hB.trans (hB2.mono hB.size)⟩ trivial
      · rintro a w1 ⟨⟨y0, y1, y2, y3, y4, y5, y6, y7, y8, y9, y10, y11⟩, hrb, hfz, hB⟩ hx hd K hK
        obtain ⟨r33, p33', q33', gg33, fa33, fb33, fc33⟩ := hd 10 (by kernel_rfl) 33 rfl
        have t33 := Reg.slot_val gg33
        clear gg33
        obtain ⟨r44, p44', q44', gg44, fa44, fb44, fc44⟩ := hd 21 (by kernel_rfl) 44 rfl
        have t44 := Reg.slot_val gg44
        clear gg44
        have hrb' := Lib.hid hrb
        clear hrb
        go_simp
        refine (l01Cross _ _ _ _ _ _ _ _ _ _ _ _ _ fa33 fb33 fc33 fa44 fb44 fc44).mono ?_
        rintro en w2 ⟨ra, rb, rc, rfl, ha, hb, hc, hB2⟩
        obtain ⟨u0, u1, u2, x0, x1, x2⟩ := hrb'.out
        have lt := World.block_lt_of_cell? w1 _ x0
        exact hK _ _ (fun _ => ⟨ra, rb, rc, rfl, ha, hb, hc⟩) (fun h => by cases h) ⟨⟨cell_below hB2 y0, cell_below hB2 y1, cell_below hB2 y2, cell_below hB2 y3, cell_below hB2 y4, cell_below hB2 y5, cell_below hB2 y6, cell_below hB2 y7, cell_below hB2 y8, cell_below hB2 y9, cell_below hB2 y10, cell_below hB2 y11⟩, ⟨u0, u1, u2, cell_below hB2 x0, cell_below hB2 x1, cell_below hB2 x2⟩, ⟨frozen_below hB2 lt hfz.1, frozen_below hB2 lt hfz.2.1, frozen_below hB2 lt hfz.2.2⟩, hB.trans (hB2.mono hB.size)⟩ trivial
      · rintro a w1 ⟨⟨y0, y1, y2, y3, y4, y5, y6, y7, y8, y9, y10, y11⟩, hrb, hfz, hB⟩ hx hd K hK
        have t4 : a.tmps[4]?.getD undef = .pointer (some ⟨w.heap.size, 0, none⟩) := Reg.slot_val (hx 4 (by kernel_rfl))
        obtain ⟨r45, p45', q45', gg45, fa45, fb45, fc45⟩ := hd 22 (by kernel_rfl) 45 rfl
        have t45 := Reg.slot_val gg45
        clear gg45
        obtain ⟨u0, u1, u2, x0, x1, x2⟩ := hrb
        obtain ⟨k0, k1, k2⟩ := hfz
        go_simp
        have s3 := set3 (u := .float .f32 r45) (v := .float .f32 p45') (t := .float .f32 q45') x0 x1 x2
        refine hK undef _ (fun h => absurd rfl h) (fun _ => ⟨r45, p45', q45', s3.1, s3.2.1, s3.2.2, fa45, fb45, fc45⟩) ⟨⟨cell_set (by first | assumption | omega) (cell_set (by first | assumption | omega) (cell_set (by first | assumption | omega) y0)), cell_set (by first | assumption | omega) (cell_set (by first | assumption | omega) (cell_set (by first | assumption | omega) y1)), cell_set (by first | assumption | omega) (cell_set (by first | assumption | omega) (cell_set (by first | assumption | omega) y2)), cell_set (by first | assumption | omega) (cell_set (by first | assumption | omega) (cell_set (by first | assumption | omega) y3)), cell_set (by first | assumption | omega) (cell_set (by first | assumption | omega) (cell_set (by first | assumption | omega) y4)), cell_set (by first | assumption | omega) (cell_set (by first | assumption | omega) (cell_set (by first | assumption | omega) y5)), cell_set (by first | assumption | omega) (cell_set (by first | assumption | omega) (cell_set (by first | assumption | omega) y6)), cell_set (by first | assumption | omega) (cell_set (by first | assumption | omega) (cell_set (by first | assumption | omega) y7)), cell_set (by first | assumption | omega) (cell_set (by first | assumption | omega) (cell_set (by first | assumption | omega) y8)), cell_set (by first | assumption | omega) (cell_set (by first | assumption | omega) (cell_set (by first | assumption | omega) y9)), cell_set (by first | assumption | omega) (cell_set (by first | assumption | omega) (cell_set (by first | assumption | omega) y10)), cell_set (by first | assumption | omega) (cell_set (by first | assumption | omega) (cell_set (by first | assumption | omega) y11))⟩, ⟨_, _, _, s3⟩, ⟨by simp [k0], by simp [k1], by simp [k2]⟩, below_set3 hB (by first | exact Nat.le_refl _ | omega)⟩ trivial
    · rintro f w1 ⟨⟨y0, y1, y2, y3, y4, y5, y6, y7, y8, y9, y10, y11⟩, hrb, hfz, hB⟩ hd hT
      obtain ⟨xa, xb, xc, x0, x1, x2, fa, fb, fc⟩ := hT 23 rfl (by decide)
      simp only [Reg.mixL]
      have HB := Lib.hid hB
      clear hB hd hT hrb hfz
      go_wp2
      refine bodyPost_ret (v := vv xa xb xc) (by simp [results, Try.results161, go_sem, x0, x1, x2]) rfl ⟨_, _, _, rfl, fa, fb, fc, HB.out⟩
end Go.Proofs.Ytmbekamnogbgaaa


/-
How great a rounded number is, and square roots. Conditions: none.
-/
namespace Go.Proofs.Ytmbekamnogbgaaa
namespace Fk
open Go
set_option linter.unusedVariables false

/-- What is written of a number less than two to the power of e in size reads as one less than twice this. -/
theorem MB_write (k : FloatKind) (s : Bool) (m : Nat) (p e : Int) (h : m ≠ 0 → p + m.log2 < e) (he : k.format.leastPlace + k.format.fractionBits + 1 ≤ e)
    (hi : e ≤ 100) : MB k (k.format.write (.number s m p)) (e + 1) := by
  obtain ⟨r, hr, hb, _⟩ := nearest_small k.format s m p e h he
  have hB : 0 < k.format.binade := Nat.two_pow_pos _
  have hSB : k.format.infRung < k.format.signWeight := k.format.infRung_lt
  have hinf : (101 - k.format.fractionBits - k.format.leastPlace + 1).toNat * k.format.binade < k.format.infRung := by cases k <;> decide
  have hle : (e - k.format.fractionBits - k.format.leastPlace + 1).toNat ≤ (101 - k.format.fractionBits - k.format.leastPlace + 1).toNat := by omega
  have hlt : r < k.format.infRung := Nat.lt_of_le_of_lt (Nat.le_trans hb (Nat.mul_le_mul_right _ hle)) hinf
  show MB k (k.format.nearest s m p) (e + 1)
  rw [hr]
  unfold MB
  show ∃ s' m' p', k.format.read (k.format.word s r) = .number s' m' p' ∧ _
  unfold Ieee.Format.read
  dsimp only
  rw [word_mod _ _ _ (by omega)]
  have hfb : k.format.binade = 2 ^ k.format.fractionBits := rfl
  by_cases h1 : r < k.format.binade
  · rw [if_pos h1]
    refine ⟨_, _, _, rfl, fun h0 => ?_⟩
    have : r.log2 < k.format.fractionBits := (Nat.log2_lt h0).2 (by rw [← hfb]; exact h1)
    omega
  · rw [if_neg h1, if_pos hlt]
    refine ⟨_, _, _, rfl, fun h0 => ?_⟩
    have ht := Nat.mod_lt r hB
    have hl : (k.format.binade + r % k.format.binade).log2 < k.format.fractionBits + 1 := (Nat.log2_lt h0).2 (by rw [Nat.pow_succ, ← hfb]; omega)
    have hq : r / k.format.binade ≤ (e - k.format.fractionBits - k.format.leastPlace + 1).toNat := by
      have := Nat.div_le_div_right (c := k.format.binade) hb
      rwa [Nat.mul_div_cancel _ hB] at this
    have hq1 : 1 ≤ r / k.format.binade := (Nat.le_div_iff_mul_le hB).2 (by omega)
    omega

theorem rootFrom_lt (n : Nat) : ∀ (todo root : Nat), Ieee.Datum.rootFrom n todo root + 1 ≤ root + 2 ^ todo
  | 0, root => by simp [Ieee.Datum.rootFrom]
  | todo + 1, root => by
    unfold Ieee.Datum.rootFrom
    dsimp only
    have hs : (root + 1 <<< todo) = root + 2 ^ todo := by rw [Nat.shiftLeft_eq, Nat.one_mul]
    have h2 : 2 ^ (todo + 1) = 2 ^ todo + 2 ^ todo := by rw [Nat.pow_succ]; omega
    have hp := Nat.two_pow_pos todo
    rw [h2]
    split
    · have := rootFrom_lt n todo (root + 1 <<< todo); rw [hs] at this ⊢; generalize 2 ^ todo = t at *; omega
    · have := rootFrom_lt n todo root; generalize 2 ^ todo = t at *; omega

theorem root_ok {d : Nat} {x y : Ieee.Datum} (h : x.root d = some y) : x.isNaN = false ∧ y.isNaN = false := by
  cases x with
  | nan s t => simp [Ieee.Datum.root] at h
  | infinity s =>
    simp only [Ieee.Datum.root] at h
    split at h
    · cases h
    · cases h; exact ⟨rfl, rfl⟩
  | number s m i =>
    refine ⟨rfl, ?_⟩
    simp only [Ieee.Datum.root] at h
    split at h
    · cases h; rfl
    · split at h
      · cases h
      · cases h; rfl

/-- A root of a number of the size of 32-bit ones is in range. -/
theorem root_small (d : Nat) (x y : Ieee.Datum) (s : Bool) (m : Nat) (i : Int) (hx : x = .number s m i) (hb : m ≠ 0 → i + m.log2 < 129) (h : x.root d = some y) :
    ∃ s' m' i', y = .number s' m' i' ∧ (m' ≠ 0 → i' + m'.log2 < 67) := by
  subst hx
  simp only [Ieee.Datum.root] at h
  split at h
  · rename_i h0; cases h; exact ⟨_, _, _, rfl, fun h => absurd h0 h⟩
  · rename_i h0
    split at h
    · cases h
    · cases h
      refine ⟨_, _, _, rfl, fun _ => ?_⟩
      have hb' := hb h0
      generalize hmore : (2 * d - m.log2) + ((i - ((2 * d - m.log2 : Nat) : Int)) % 2).toNat = more
      generalize hn : m <<< more = n
      have hnl : n.log2 ≤ m.log2 + more := by
        by_cases hn0 : n = 0
        · rw [hn0]; simp
        · have h1 : n < 2 ^ (m.log2 + more + 1) := by
            rw [← hn, Nat.shiftLeft_eq]
            have : m * 2 ^ more < 2 ^ (m.log2 + 1) * 2 ^ more := Nat.mul_lt_mul_of_pos_right Nat.lt_log2_self (Nat.two_pow_pos _)
            rw [← Nat.pow_add] at this
            exact Nat.lt_of_lt_of_le this (Nat.pow_le_pow_right (by decide) (by omega))
          have := (Nat.log2_lt hn0).2 h1
          omega
      have hw := rootFrom_lt n (n.log2 / 2 + 1) 0
      rw [Nat.zero_add] at hw
      generalize Ieee.Datum.rootFrom n (n.log2 / 2 + 1) 0 = whole at hw ⊢
      have hbit : ((whole * whole != n).toNat) ≤ 1 := by cases (whole * whole != n) <;> simp
      generalize (whole * whole != n).toNat = b at hbit ⊢
      by_cases hz : 2 * whole + b = 0
      · rw [hz]; simp; omega
      · have hl : (2 * whole + b).log2 < n.log2 / 2 + 2 := (Nat.log2_lt hz).2 (by rw [Nat.pow_succ]; omega)
        omega

/-- The square root on classes. -/
def fsq (c : Option Nat) : Option Nat := c.bind fun a => FloatKind.f64.format.sqrt a
def sR (x : Nat) (w : World) : Nat :=
  match FloatKind.f64.format.sqrt x with
  | some r => r
  | none => (Question.nanBits .f64 x x).cut (w.tape w.drawn (.nanBits .f64 x x))
def sN (x : Nat) : Nat :=
  match FloatKind.f64.format.sqrt x with
  | some _ => 0
  | none => 1
theorem FV_sR {x : Nat} {w : World} {c : Option Nat} (h : FV .f64 x c) : FV .f64 (sR x w) (fsq c) := by
  unfold sR fsq
  cases hs : FloatKind.f64.format.sqrt x with
  | some r =>
    refine have e := hs; ?_
    unfold Ieee.Format.sqrt at hs
    obtain ⟨d, hd, rfl⟩ := Option.map_eq_some_iff.1 hs
    have := root_ok hd
    have ec : c = some x := by rw [← h.2]; exact cls_num this.1
    subst ec
    refine ⟨FloatKind.f64.format.sqrt_lt e, ?_⟩
    rw [cls_num (isNaN_write .f64 d this.2)]
    exact e.symm
  | none =>
    have hc := cut_nan .f64 x x (w.tape w.drawn (.nanBits .f64 x x))
    refine ⟨hc.1, ?_⟩
    rw [cls_nan hc.2]
    cases c with
    | none => rfl
    | some a => obtain rfl := h.num; exact hs.symm
theorem run_sqrt {P : Program} (x : Nat) (w : World) : (Extern.MathSqrt.sqrt #[.float .f64 x]).run P w = .ok (.float .f64 (sR x w)) (w.drewN (sN x)) := by
  have hq : (Question.nanBits .f64 x x).forced = false := rfl
  unfold sR sN
  cases hs : FloatKind.f64.format.sqrt x with
  | some r =>
    show (match FloatKind.f64.format.sqrt x with | some r => (pure (.float .f64 r) : Sem Value) | none => do pure (.float .f64 (← choose (.nanBits .f64 x x)))).run P w = _
    rw [hs]; rfl
  | none =>
    show (match FloatKind.f64.format.sqrt x with | some r => (pure (.float .f64 r) : Sem Value) | none => do pure (.float .f64 (← choose (.nanBits .f64 x x)))).run P w = _
    rw [hs]; simp [hq]; rfl

theorem MB_wid {x : Nat} {s : Bool} {m : Nat} {p : Int} (h : FloatKind.f32.decode x = .number s m p) : MB .f64 (wid x) 129 := by
  obtain ⟨h1, h2, h3⟩ := decode32 x s m p h
  obtain ⟨r, he, hr⟩ := wid_word x s m p h
  unfold MB
  rw [he]
  show ∃ s' m' p', Ieee.double.read (Ieee.double.word s r) = .number s' m' p' ∧ _
  have e1 : Ieee.double.binade = 4503599627370496 := by decide
  have e2 : Ieee.double.infRung = 9218868437227405312 := by decide
  have e3 : Ieee.double.leastPlace = -1074 := by decide
  unfold Ieee.Format.read
  dsimp only
  rw [word_mod _ _ _ (show r < Ieee.double.signWeight by rw [show Ieee.double.signWeight = 9223372036854775808 by decide]; omega)]
  by_cases h1 : r < Ieee.double.binade
  · rw [if_pos h1]
    refine ⟨_, _, _, rfl, fun h0 => ?_⟩
    have : r.log2 < 53 := (Nat.log2_lt h0).2 (by rw [e1] at h1; omega)
    rw [e3]; omega
  · rw [if_neg h1, if_pos (by rw [e2]; omega)]
    refine ⟨_, _, _, rfl, fun h0 => ?_⟩
    rw [e1] at h0 h1 ⊢
    rw [e3]
    have hl : (4503599627370496 + r % 4503599627370496).log2 < 53 := (Nat.log2_lt h0).2 (by omega)
    omega
/-- The root of a 32-bit number is in range of 32 bits. -/
theorem ovf_sR {x : Nat} {w w' : World} (hx : x < 2 ^ FloatKind.f32.format.width) : ovf (sR (wR x w) w') = false := by
  cases hd : FloatKind.f64.decode (sR (wR x w) w') with
  | nan s t => unfold ovf; rw [hd]
  | infinity s => unfold ovf; rw [hd]
  | number s m p =>
    have hv := FV_sR (w := w') (FV_wR (w := w) (FV.self (k := .f32) hx))
    have hn : (FloatKind.f64.decode (sR (wR x w) w')).isNaN = false := by rw [hd]; rfl
    have hc := hv.2
    rw [cls_num hn] at hc
    unfold fsq cls at hc
    split at hc
    · cases hc
    · rename_i hnx
      have hc' : FloatKind.f64.format.sqrt (wid x) = some (sR (wR x w) w') := hc.symm
      unfold Ieee.Format.sqrt at hc'
      obtain ⟨d, hd', he⟩ := Option.map_eq_some_iff.1 hc'
      cases hdx : FloatKind.f32.decode x with
      | nan s t => rw [hdx] at hnx; simp [Ieee.Datum.isNaN] at hnx
      | infinity t =>
        have : FloatKind.f64.format.read (wid x) = .infinity t := by
          unfold wid; rw [hdx]; cases t <;> decide
        rw [this] at hd'
        have hdi : d = .infinity false := by
          cases t
          · simp only [Ieee.Datum.root] at hd'; cases hd'; rfl
          · simp [Ieee.Datum.root] at hd'
        rw [hdi] at he
        rw [← he] at hd
        have e9 : FloatKind.f64.decode (FloatKind.f64.format.write (.infinity false)) = .infinity false := by decide
        rw [e9] at hd; cases hd
      | number t n q =>
        obtain ⟨s1, m1, p1, h1, h2⟩ := MB_wid hdx
        obtain ⟨s2, m2, p2, h3, h4⟩ := root_small _ _ _ s1 m1 p1 h1 h2 hd'
        subst h3
        have := MB_write .f64 s2 m2 p2 67 h4 (by decide) (by decide)
        rw [he] at this
        exact ovf_small (this.mono (by decide))
end Fk
end Go.Proofs.Ytmbekamnogbgaaa

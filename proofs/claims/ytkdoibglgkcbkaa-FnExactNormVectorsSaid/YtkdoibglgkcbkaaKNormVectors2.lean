/-
Texts in one: what NormVectors stands on, part 2. Conditions: those of each.
-/
import Derived.Test.YtkdoibglgkcbkaaKNormVectors1
import Derived.WalkKit
-- halved
namespace Go.Proofs.Ytkdoibglgkcbkaa
open Go Fk Go.RowKit
set_option linter.unusedVariables false
set_option maxRecDepth 8000
def isF (c : Option Nat) (v : Value) : Prop := ∃ r, v = .float .f32 r ∧ FV .f32 r c
theorem impl_InnerOf (x y z x' y' z' : Nat) (w : World) (c d e c' d' e' : Option Nat) (h1 : FV .f32 x c) (h2 : FV .f32 y d) (h3 : FV .f32 z e) (h1' : FV .f32 x' c') (h2' : FV .f32 y' d') (h3' : FV .f32 z' e') :
  Calls Try.prog 129 #[vv x y z, vv x' y' z'] w fun en w' => ∃ a, en = .returned (.float .f32 a) ∧ FV .f32 a (fop .add .f32 (fop .add .f32 (fop .mul .f32 c c') (fop .mul .f32 d d')) (fop .mul .f32 e e')) ∧ Below w.heap.size w w' := by
 have u := Try.underlying22
 have uv := Try.underlying67
 go_enter Try.func129, Try.ntmps129
 go_wp2_with fail
 have k0 : (((w.alloc (.cells #[.float .f32 x, .float .f32 y, .float .f32 z] 67)).alloc (.cells #[.float .f32 x', .float .f32 y', .float .f32 z'] 67)).drewN 1).cell? ⟨w.heap.size, 0, none⟩ = some (.float .f32 x) := by simp
 have k1 : (((w.alloc (.cells #[.float .f32 x, .float .f32 y, .float .f32 z] 67)).alloc (.cells #[.float .f32 x', .float .f32 y', .float .f32 z'] 67)).drewN 1).cell? ⟨w.heap.size, 1, none⟩ = some (.float .f32 y) := by simp
 have k2 : (((w.alloc (.cells #[.float .f32 x, .float .f32 y, .float .f32 z] 67)).alloc (.cells #[.float .f32 x', .float .f32 y', .float .f32 z'] 67)).drewN 1).cell? ⟨w.heap.size, 2, none⟩ = some (.float .f32 z) := by simp
 have k3 : (((w.alloc (.cells #[.float .f32 x, .float .f32 y, .float .f32 z] 67)).alloc (.cells #[.float .f32 x', .float .f32 y', .float .f32 z'] 67)).drewN 1).cell? ⟨w.heap.size + 1, 0, none⟩ = some (.float .f32 x') := by simp
 have k4 : (((w.alloc (.cells #[.float .f32 x, .float .f32 y, .float .f32 z] 67)).alloc (.cells #[.float .f32 x', .float .f32 y', .float .f32 z'] 67)).drewN 1).cell? ⟨w.heap.size + 1, 1, none⟩ = some (.float .f32 y') := by simp
 have k5 : (((w.alloc (.cells #[.float .f32 x, .float .f32 y, .float .f32 z] 67)).alloc (.cells #[.float .f32 x', .float .f32 y', .float .f32 z'] 67)).drewN 1).cell? ⟨w.heap.size + 1, 2, none⟩ = some (.float .f32 z') := by simp
 refine Reg.wp_region_mix (C := fun w' => (w'.cell? ⟨w.heap.size, 0, none⟩ = some (.float .f32 x) ∧ w'.cell? ⟨w.heap.size, 1, none⟩ = some (.float .f32 y) ∧ w'.cell? ⟨w.heap.size, 2, none⟩ = some (.float .f32 z) ∧ w'.cell? ⟨w.heap.size + 1, 0, none⟩ = some (.float .f32 x') ∧ w'.cell? ⟨w.heap.size + 1, 1, none⟩ = some (.float .f32 y') ∧ w'.cell? ⟨w.heap.size + 1, 2, none⟩ = some (.float .f32 z')) ∧ Below w.heap.size w w') (G := fun _ _ => True) (R := fun i v _ => match i with | 0 => v = .pointer (some ⟨w.heap.size, 0, none⟩) | 1 => v = .float .f32 x | 2 => v = .pointer (some ⟨w.heap.size + 1, 0, none⟩) | 3 => v = .float .f32 x' | 4 => isF (fop .mul .f32 c c') v | 5 => v = .pointer (some ⟨w.heap.size, 1, none⟩) | 6 => v = .float .f32 y | 7 => v = .pointer (some ⟨w.heap.size + 1, 1, none⟩) | 8 => v = .float .f32 y' | 9 => isF (fop .mul .f32 d d') v | 10 => isF (fop .add .f32 (fop .mul .f32 c c') (fop .mul .f32 d d')) v | 11 => v = .pointer (some ⟨w.heap.size, 2, none⟩) | 12 => v = .float .f32 z | 13 => v = .pointer (some ⟨w.heap.size + 1, 2, none⟩) | 14 => v = .float .f32 z' | 15 => isF (fop .mul .f32 e e') v | 16 => isF (fop .add .f32 (fop .add .f32 (fop .mul .f32 c c') (fop .mul .f32 d d')) (fop .mul .f32 e e')) v | 17 => isF (fop .add .f32 (fop .add .f32 (fop .mul .f32 c c') (fop .mul .f32 d d')) (fop .mul .f32 e e')) v | _ => True) (T := fun _ a w' => True) [false, false, false, false, true, true, true, true, true, true, true, true, true, true, true, true, true, true, true, true, true, true]
  (by kernel_rfl) (by kernel_rfl) (by kernel_rfl) (fun _ _ _ _ _ _ h => h) ⟨⟨k0, k1, k2, k3, k4, k5⟩, below_drewN (((Below.refl _ _).alloc (Nat.le_refl _) _).alloc (by simp) _) 1⟩ ?_ ?_
 ·refine ⟨Reg.Obl.mk ?_, Reg.Obl.mk ?_, Reg.Obl.mk ?_, Reg.Obl.mk ?_, Reg.Obl.mk ?_, Reg.Obl.mk ?_, Reg.Obl.mk ?_, Reg.Obl.mk ?_, Reg.Obl.mk ?_, Reg.Obl.mk ?_, Reg.Obl.mk ?_, Reg.Obl.mk ?_, Reg.Obl.mk ?_, Reg.Obl.mk ?_, Reg.Obl.mk ?_, Reg.Obl.mk ?_, Reg.Obl.mk ?_, Reg.Obl.mk ?_, trivial⟩
  ·rintro a w1 ⟨hcs, hB⟩ hx hd K hK
   have hcs' := hcs
   obtain ⟨c0, c1, c2, c3, c4, c5⟩ := hcs'
   have t2 : a.tmps[2]?.getD undef = .pointer (some ⟨w.heap.size, 0, none⟩) := Reg.slot_val (hx 2 (by kernel_rfl))
   go_simp
   exact hK _ _ (fun _ => rfl) (fun h => by cases h) ⟨hcs, hB⟩ trivial
  ·rintro a w1 ⟨hcs, hB⟩ hx hd K hK
   have hcs' := hcs
   obtain ⟨c0, c1, c2, c3, c4, c5⟩ := hcs'
   have t5 : a.tmps[5]?.getD undef = .pointer (some ⟨w.heap.size, 0, none⟩) := Reg.slot_val (hd 0 (by kernel_rfl) 5 rfl)
   go_simp
   exact hK _ _ (fun _ => rfl) (fun h => by cases h) ⟨hcs, hB⟩ trivial
  ·rintro a w1 ⟨hcs, hB⟩ hx hd K hK
   have hcs' := hcs
   obtain ⟨c0, c1, c2, c3, c4, c5⟩ := hcs'
   have t3 : a.tmps[3]?.getD undef = .pointer (some ⟨w.heap.size + 1, 0, none⟩) := Reg.slot_val (hx 3 (by kernel_rfl))
   go_simp
   exact hK _ _ (fun _ => rfl) (fun h => by cases h) ⟨hcs, hB⟩ trivial
  ·rintro a w1 ⟨hcs, hB⟩ hx hd K hK
   have hcs' := hcs
   obtain ⟨c0, c1, c2, c3, c4, c5⟩ := hcs'
   have t7 : a.tmps[7]?.getD undef = .pointer (some ⟨w.heap.size + 1, 0, none⟩) := Reg.slot_val (hd 2 (by kernel_rfl) 7 rfl)
   go_simp
   exact hK _ _ (fun _ => rfl) (fun h => by cases h) ⟨hcs, hB⟩ trivial
  ·rintro a w1 ⟨hcs, hB⟩ hx hd K hK
   have hcs' := hcs
   obtain ⟨c0, c1, c2, c3, c4, c5⟩ := hcs'
   have t6 : a.tmps[6]?.getD undef = .float .f32 x := Reg.slot_val (hd 1 (by kernel_rfl) 6 rfl)
   have t8 : a.tmps[8]?.getD undef = .float .f32 x' := Reg.slot_val (hd 3 (by kernel_rfl) 8 rfl)
   go_simp
   refine (impl_product32 _ _ _ _ _ h1 h1').mono ?_
   rintro en w2 ⟨r, rfl, hr, n1, rfl⟩
   exact hK _ _ (fun _ => ⟨r, rfl, hr⟩) (fun h => by cases h) ⟨hcs, below_drewN hB _⟩ trivial
  ·rintro a w1 ⟨hcs, hB⟩ hx hd K hK
   have hcs' := hcs
   obtain ⟨c0, c1, c2, c3, c4, c5⟩ := hcs'
   have t2 : a.tmps[2]?.getD undef = .pointer (some ⟨w.heap.size, 0, none⟩) := Reg.slot_val (hx 2 (by kernel_rfl))
   go_simp
   exact hK _ _ (fun _ => rfl) (fun h => by cases h) ⟨hcs, hB⟩ trivial
  ·rintro a w1 ⟨hcs, hB⟩ hx hd K hK
   have hcs' := hcs
   obtain ⟨c0, c1, c2, c3, c4, c5⟩ := hcs'
   have t10 : a.tmps[10]?.getD undef = .pointer (some ⟨w.heap.size, 1, none⟩) := Reg.slot_val (hd 5 (by kernel_rfl) 10 rfl)
   go_simp
   exact hK _ _ (fun _ => rfl) (fun h => by cases h) ⟨hcs, hB⟩ trivial
  ·rintro a w1 ⟨hcs, hB⟩ hx hd K hK
   have hcs' := hcs
   obtain ⟨c0, c1, c2, c3, c4, c5⟩ := hcs'
   have t3 : a.tmps[3]?.getD undef = .pointer (some ⟨w.heap.size + 1, 0, none⟩) := Reg.slot_val (hx 3 (by kernel_rfl))
   go_simp
   exact hK _ _ (fun _ => rfl) (fun h => by cases h) ⟨hcs, hB⟩ trivial
  ·rintro a w1 ⟨hcs, hB⟩ hx hd K hK
   have hcs' := hcs
   obtain ⟨c0, c1, c2, c3, c4, c5⟩ := hcs'
   have t12 : a.tmps[12]?.getD undef = .pointer (some ⟨w.heap.size + 1, 1, none⟩) := Reg.slot_val (hd 7 (by kernel_rfl) 12 rfl)
   go_simp
   exact hK _ _ (fun _ => rfl) (fun h => by cases h) ⟨hcs, hB⟩ trivial
  ·rintro a w1 ⟨hcs, hB⟩ hx hd K hK
   have hcs' := hcs
   obtain ⟨c0, c1, c2, c3, c4, c5⟩ := hcs'
   have t11 : a.tmps[11]?.getD undef = .float .f32 y := Reg.slot_val (hd 6 (by kernel_rfl) 11 rfl)
   have t13 : a.tmps[13]?.getD undef = .float .f32 y' := Reg.slot_val (hd 8 (by kernel_rfl) 13 rfl)
   go_simp
   refine (impl_product32 _ _ _ _ _ h2 h2').mono ?_
   rintro en w2 ⟨r, rfl, hr, n1, rfl⟩
   exact hK _ _ (fun _ => ⟨r, rfl, hr⟩) (fun h => by cases h) ⟨hcs, below_drewN hB _⟩ trivial
  ·rintro a w1 ⟨hcs, hB⟩ hx hd K hK
   have hcs' := hcs
   obtain ⟨c0, c1, c2, c3, c4, c5⟩ := hcs'
   obtain ⟨r9, g9, f9⟩ := hd 4 (by kernel_rfl) 9 rfl
   have t9 := Reg.slot_val g9
   clear g9
   obtain ⟨r14, g14, f14⟩ := hd 9 (by kernel_rfl) 14 rfl
   have t14 := Reg.slot_val g14
   clear g14
   go_simp
   exact hK _ _ (fun _ => ⟨_, rfl, FV_fR f9 f14⟩) (fun h => by cases h) ⟨hcs, below_drewN hB _⟩ trivial
  ·rintro a w1 ⟨hcs, hB⟩ hx hd K hK
   have hcs' := hcs
   obtain ⟨c0, c1, c2, c3, c4, c5⟩ := hcs'
   have t2 : a.tmps[2]?.getD undef = .pointer (some ⟨w.heap.size, 0, none⟩) := Reg.slot_val (hx 2 (by kernel_rfl))
   go_simp
   exact hK _ _ (fun _ => rfl) (fun h => by cases h) ⟨hcs, hB⟩ trivial
  ·rintro a w1 ⟨hcs, hB⟩ hx hd K hK
   have hcs' := hcs
   obtain ⟨c0, c1, c2, c3, c4, c5⟩ := hcs'
   have t16 : a.tmps[16]?.getD undef = .pointer (some ⟨w.heap.size, 2, none⟩) := Reg.slot_val (hd 11 (by kernel_rfl) 16 rfl)
   go_simp
   exact hK _ _ (fun _ => rfl) (fun h => by cases h) ⟨hcs, hB⟩ trivial
  ·rintro a w1 ⟨hcs, hB⟩ hx hd K hK
   have hcs' := hcs
   obtain ⟨c0, c1, c2, c3, c4, c5⟩ := hcs'
   have t3 : a.tmps[3]?.getD undef = .pointer (some ⟨w.heap.size + 1, 0, none⟩) := Reg.slot_val (hx 3 (by kernel_rfl))
   go_simp
   exact hK _ _ (fun _ => rfl) (fun h => by cases h) ⟨hcs, hB⟩ trivial
  ·rintro a w1 ⟨hcs, hB⟩ hx hd K hK
   have hcs' := hcs
   obtain ⟨c0, c1, c2, c3, c4, c5⟩ := hcs'
   have t18 : a.tmps[18]?.getD undef = .pointer (some ⟨w.heap.size + 1, 2, none⟩) := Reg.slot_val (hd 13 (by kernel_rfl) 18 rfl)
   go_simp
   exact hK _ _ (fun _ => rfl) (fun h => by cases h) ⟨hcs, hB⟩ trivial
  ·rintro a w1 ⟨hcs, hB⟩ hx hd K hK
   have hcs' := hcs
   obtain ⟨c0, c1, c2, c3, c4, c5⟩ := hcs'
   have t17 : a.tmps[17]?.getD undef = .float .f32 z := Reg.slot_val (hd 12 (by kernel_rfl) 17 rfl)
   have t19 : a.tmps[19]?.getD undef = .float .f32 z' := Reg.slot_val (hd 14 (by kernel_rfl) 19 rfl)
   go_simp
   refine (impl_product32 _ _ _ _ _ h3 h3').mono ?_
   rintro en w2 ⟨r, rfl, hr, n1, rfl⟩
   exact hK _ _ (fun _ => ⟨r, rfl, hr⟩) (fun h => by cases h) ⟨hcs, below_drewN hB _⟩ trivial
  ·rintro a w1 ⟨hcs, hB⟩ hx hd K hK
   have hcs' := hcs
   obtain ⟨c0, c1, c2, c3, c4, c5⟩ := hcs'
   obtain ⟨r15, g15, f15⟩ := hd 10 (by kernel_rfl) 15 rfl
   have t15 := Reg.slot_val g15
   clear g15
   obtain ⟨r20, g20, f20⟩ := hd 15 (by kernel_rfl) 20 rfl
   have t20 := Reg.slot_val g20
   clear g20
   go_simp
   exact hK _ _ (fun _ => ⟨_, rfl, FV_fR f15 f20⟩) (fun h => by cases h) ⟨hcs, below_drewN hB _⟩ trivial
  ·rintro a w1 ⟨hcs, hB⟩ hx hd K hK
   have hcs' := hcs
   obtain ⟨c0, c1, c2, c3, c4, c5⟩ := hcs'
   obtain ⟨r21, g21, f21⟩ := hd 16 (by kernel_rfl) 21 rfl
   have t21 := Reg.slot_val g21
   clear g21
   go_simp
   exact hK _ _ (fun _ => ⟨_, rfl, f21⟩) (fun h => by cases h) ⟨hcs, hB⟩ trivial
 ·rintro f w1 ⟨hcs, hB⟩ hd hT
  obtain ⟨r, g, fr⟩ := hd 17 4 rfl
  simp only [Reg.mixL, g]
  go_wp2
  go_ret
  exact ⟨r, rfl, fr, hB⟩
end Go.Proofs.Ytkdoibglgkcbkaa
namespace Go.Proofs.Ytkdoibglgkcbkaa
open Go Fk Go.RowKit
set_option linter.unusedVariables false
set_option maxRecDepth 8000
def innV (a b : C3) : Option Nat := fop .add .f32 (fop .add .f32 (fop .mul .f32 a.1 b.1) (fop .mul .f32 a.2.1 b.2.1)) (fop .mul .f32 a.2.2 b.2.2)
def innL (xs ys : List C3) : Nat → Option Nat
 | 0 => some 0
 | k + 1 => fop .add .f32 (innL xs ys k) (innV (xs.getD k c0) (ys.getD k c0))
theorem FV_0v : FV .f32 0 (some 0) := ⟨by decide, by decide⟩
set_option maxHeartbeats 1000000 in
theorem impl_innerSum (a b : Option Addr) (n cap cap' : Nat) (xs ys : List C3) (w : World) (h : IsVs w a n cap xs) (h' : IsVs w b n cap' ys) :
  Calls Try.prog 57 #[.slice a n cap, .slice b n cap'] w fun e w' => ∃ r, e = .returned (.float .f32 r) ∧ FV .f32 r (innL xs ys n) ∧ Below w.heap.size w w' := by
 have u := Try.underlying22
 have uv := Try.underlying67
 have hm : n ≤ 9223372036854775807 := by have h1 := h.2.1; have h2 := h.2.2.1; unfold maxLen at h2; omega
 have H := Lib.hid h
 have H' := Lib.hid h'
 clear h h'
 go_enter Try.func57, Try.ntmps57
 go_wp2
 go_loopw [5, 10] (fun s i w' => ∃ k : Nat, k ≤ n ∧ i = .int .i64 k ∧ (∃ r, s = .float .f32 r ∧ FV .f32 r (innL xs ys k)) ∧ Aside (Below w.heap.size w w')) (fun _ i _ => n - (intOf i).toNat)
 case atStart => exact ⟨0, Nat.zero_le _, rfl, ⟨0, rfl, FV_0v⟩, Below.refl _ _⟩
 case round =>
  obtain ⟨k, hk, rfl, ⟨s, rfl, hs⟩, hA⟩ := hrel
  have HB := Lib.hid hA.out
  have HF := Lib.hid hs
  clear hA hs
  by_cases hlt : k < n
  ·obtain ⟨b1, o1, rfl, hcell1⟩ := (H.out.below HB.out).some (by omega)
   obtain ⟨b2, o2, rfl, hcell2⟩ := (H'.out.below HB.out).some (by omega)
   obtain ⟨p, q, t, ca0', ca1', ca2', e0, e1, e2⟩ := hcell1 k hlt
   obtain ⟨p', q', t', d0', d1', d2', g0, g1, g2⟩ := hcell2 k hlt
   have hk0 : (0 : Int) ≤ (k : Int) := by omega
   have hk1 : (k : Int) < (n : Int) := by omega
   have HSN := Lib.hid (show innL xs ys (k + 1) = (fop .add .f32 (innL xs ys k) (innV (xs.getD k c0) (ys.getD k c0))) from rfl)
   clear hcell1 hcell2
   go_wp2_with fail
   have hG : Below wr.heap.size wr (wr.alloc (.cells #[.float .f32 p, .float .f32 q, .float .f32 t] 67)) := (Below.refl _ _).alloc (Nat.le_refl _) _
   have V : V3 (wr.alloc (.cells #[.float .f32 p, .float .f32 q, .float .f32 t] 67)) wr.heap.size p q t := V3.new
   have ca0 := V.1.1
   have ca1 := V.1.2.1
   have ca2 := V.1.2.2
   have d0 := cell_below hG d0'
   have d1 := cell_below hG d1'
   have d2 := cell_below hG d2'
   have HG := Lib.hid (HB.out.trans (hG.mono HB.out.size))
   clear hG V ca0' ca1' ca2' d0' d1' d2'
   generalize (wr.alloc (.cells #[.float .f32 p, .float .f32 q, .float .f32 t] 67)) = W1 at *
   generalize wr.heap.size = BX at *
   refine Reg.wp_region_mix (C := fun w' => Below W1.heap.size W1 w') (G := fun _ _ => True) (R := fun i v w' => match i with | 0 => v = .float .f32 s | 1 => v = vv p q t | 2 => v = .slice (some ⟨b2, o2, none⟩) n cap' | 3 => v = .int .i64 k | 4 => v = .pointer (some ⟨b2, o2 + k * 3, none⟩) | 5 => v = vv p' q' t' | 6 => isF (innV (xs.getD k c0) (ys.getD k c0)) v | 7 => isF (fop .add .f32 (innL xs ys k) (innV (xs.getD k c0) (ys.getD k c0))) v | 8 => isF (fop .add .f32 (innL xs ys k) (innV (xs.getD k c0) (ys.getD k c0))) v | _ => True) (T := fun _ _ _ => True) [false, false, false, false, false, true, false, false, false, false, false, false, false, false, false, true, true, true, true, true, true, true, true, false, false]
    (by kernel_rfl) (by kernel_rfl) (by kernel_rfl) (fun _ _ _ _ _ _ h => h) (below_drewN (Below.refl _ _) 1) ?_ ?_
   ·refine ⟨Reg.Obl.mk ?_, Reg.Obl.mk ?_, Reg.Obl.mk ?_, Reg.Obl.mk ?_, Reg.Obl.mk ?_, Reg.Obl.mk ?_, Reg.Obl.mk ?_, Reg.Obl.mk ?_, Reg.Obl.mk ?_, trivial⟩
    ·rintro a w1 HC hx hd K hK
     replace HC := Lib.hid HC
     have t5 : a.tmps[5]?.getD undef = .float .f32 s := Reg.slot_val (hx 5 (by kernel_rfl))
     go_simp
     exact hK _ _ (fun _ => rfl) (fun h => by cases h) HC.out trivial
    ·rintro a w1 HC hx hd K hK
     replace HC := Lib.hid HC
     have y0 := cell_below HC.out ca0
     have y1 := cell_below HC.out ca1
     have y2 := cell_below HC.out ca2
     have t7 : a.tmps[7]?.getD undef = .pointer (some ⟨BX, 0, none⟩) := Reg.slot_val (hx 7 (by kernel_rfl))
     go_simp
     exact hK _ _ (fun _ => rfl) (fun h => by cases h) HC.out trivial
    ·rintro a w1 HC hx hd K hK
     replace HC := Lib.hid HC
     have t1 : a.tmps[1]?.getD undef = .slice (some ⟨b2, o2, none⟩) n cap' := Reg.slot_val (hx 1 (by kernel_rfl))
     go_simp
     exact hK _ _ (fun _ => rfl) (fun h => by cases h) HC.out trivial
    ·rintro a w1 HC hx hd K hK
     replace HC := Lib.hid HC
     have t6 : a.tmps[6]?.getD undef = .int .i64 k := Reg.slot_val (hx 6 (by kernel_rfl))
     go_simp
     exact hK _ _ (fun _ => rfl) (fun h => by cases h) HC.out trivial
    ·rintro a w1 HC hx hd K hK
     replace HC := Lib.hid HC
     have t17 : a.tmps[17]?.getD undef = .slice (some ⟨b2, o2, none⟩) n cap' := Reg.slot_val (hd 2 (by kernel_rfl) 17 rfl)
     have t18 : a.tmps[18]?.getD undef = .int .i64 k := Reg.slot_val (hd 3 (by kernel_rfl) 18 rfl)
     go_simp
     exact hK _ _ (fun _ => rfl) (fun h => by cases h) HC.out trivial
    ·rintro a w1 HC hx hd K hK
     replace HC := Lib.hid HC
     have y0 := cell_below HC.out d0
     have y1 := cell_below HC.out d1
     have y2 := cell_below HC.out d2
     have t19 : a.tmps[19]?.getD undef = .pointer (some ⟨b2, o2 + k * 3, none⟩) := Reg.slot_val (hd 4 (by kernel_rfl) 19 rfl)
     go_simp
     exact hK _ _ (fun _ => rfl) (fun h => by cases h) HC.out trivial
    ·rintro a w1 HC hx hd K hK
     replace HC := Lib.hid HC
     have t16 : a.tmps[16]?.getD undef = vv p q t := Reg.slot_val (hd 1 (by kernel_rfl) 16 rfl)
     have t20 : a.tmps[20]?.getD undef = vv p' q' t' := Reg.slot_val (hd 5 (by kernel_rfl) 20 rfl)
     go_simp
     refine (impl_InnerOf _ _ _ _ _ _ _ _ _ _ _ _ _ e0 e1 e2 g0 g1 g2).mono ?_
     rintro en w2 ⟨z, rfl, hz, hB2⟩
     exact hK _ _ (fun _ => ⟨z, rfl, hz⟩) (fun h => by cases h) (HC.out.trans (hB2.mono HC.out.size)) trivial
    ·rintro a w1 HC hx hd K hK
     replace HC := Lib.hid HC
     have t15 : a.tmps[15]?.getD undef = .float .f32 s := Reg.slot_val (hd 0 (by kernel_rfl) 15 rfl)
     obtain ⟨r21, g21, f21⟩ := hd 6 (by kernel_rfl) 21 rfl
     have t21 := Reg.slot_val g21
     clear g21
     go_simp
     exact hK _ _ (fun _ => ⟨_, rfl, FV_fR HF.out f21⟩) (fun h => by cases h) (below_drewN HC.out _) trivial
    ·rintro a w1 HC hx hd K hK
     replace HC := Lib.hid HC
     obtain ⟨r22, g22, f22⟩ := hd 7 (by kernel_rfl) 22 rfl
     have t22 := Reg.slot_val g22
     clear g22
     go_simp
     exact hK _ _ (fun _ => ⟨_, rfl, f22⟩) (fun h => by cases h) HC.out trivial
   ·rintro f w1 hC hd hT
    obtain ⟨r5, g5, f5⟩ := hd 8 5 rfl
    have HC := Lib.hid (HG.out.trans (hC.mono HG.out.size))
    clear hC hd hT
    simp only [Reg.mixL, g5]
    go_wp2
    go_roundw
    case rel => exact ⟨k + 1, by omega, by go_num, ⟨_, rfl, by rw [HSN.out]; exact f5⟩, HC.out⟩
    case measure => simp [intOf]; omega
  ·obtain rfl : k = n := by omega
   go_wp2
   go_ret
   exact ⟨s, rfl, HF.out, HB.out⟩
set_option maxHeartbeats 1000000 in
theorem l05Inner (a b : Option Addr) (n cap cap' : Nat) (xs ys : List C3) (w : World) (h : IsVs w a n cap xs) (h' : IsVs w b n cap' ys) :
  Calls Try.prog 128 #[.slice a n cap, .slice b n cap'] w fun e w' => ∃ r, e = .returned (.float .f32 r) ∧ FV .f32 r (innL xs ys n) ∧ Below w.heap.size w w' := by
 have u := Try.underlying22
 have uv := Try.underlying67
 have hm : n ≤ 9223372036854775807 := by have h1 := h.2.1; have h2 := h.2.2.1; unfold maxLen at h2; omega
 have H := Lib.hid h
 have H' := Lib.hid h'
 clear h h'
 go_enter Try.func128, Try.ntmps128
 go_wp2
 go_loopw [5, 9] (fun s i w' => ∃ k : Nat, k ≤ n ∧ i = .int .i64 k ∧ (∃ r, s = .float .f32 r ∧ FV .f32 r (innL xs ys k)) ∧ Aside (Below w.heap.size w w')) (fun _ i _ => n - (intOf i).toNat)
 case atStart => exact ⟨0, Nat.zero_le _, rfl, ⟨0, rfl, FV_0v⟩, Below.refl _ _⟩
 case round =>
  obtain ⟨k, hk, rfl, ⟨s, rfl, hs⟩, hA⟩ := hrel
  have HB := Lib.hid hA.out
  have HF := Lib.hid hs
  clear hA hs
  by_cases hlt : k < n
  ·obtain ⟨b1, o1, rfl, hcell1⟩ := (H.out.below HB.out).some (by omega)
   obtain ⟨b2, o2, rfl, hcell2⟩ := (H'.out.below HB.out).some (by omega)
   obtain ⟨p, q, t, ca0', ca1', ca2', e0, e1, e2⟩ := hcell1 k hlt
   obtain ⟨p', q', t', d0', d1', d2', g0, g1, g2⟩ := hcell2 k hlt
   have hk0 : (0 : Int) ≤ (k : Int) := by omega
   have hk1 : (k : Int) < (n : Int) := by omega
   have HSN := Lib.hid (show innL xs ys (k + 1) = (fop .add .f32 (innL xs ys k) (innV (xs.getD k c0) (ys.getD k c0))) from rfl)
   clear hcell1 hcell2
   go_wp2_with fail
   have ca0 := ca0'
   have ca1 := ca1'
   have ca2 := ca2'
   have d0 := d0'
   have d1 := d1'
   have d2 := d2'
   have HG := HB
   clear ca0' ca1' ca2' d0' d1' d2'
   obtain ⟨W1, hW1⟩ : ∃ W1, W1 = wr := ⟨_, rfl⟩
   subst hW1
   refine Reg.wp_region_mix (C := fun w' => Below W1.heap.size W1 w') (G := fun _ _ => True) (R := fun i v w' => match i with | 0 => v = .float .f32 s | 1 => v = .slice (some ⟨b1, o1, none⟩) n cap | 2 => v = .int .i64 k | 3 => v = .pointer (some ⟨b1, o1 + k * 3, none⟩) | 4 => v = vv p q t | 5 => v = .slice (some ⟨b2, o2, none⟩) n cap' | 6 => v = .int .i64 k | 7 => v = .pointer (some ⟨b2, o2 + k * 3, none⟩) | 8 => v = vv p' q' t' | 9 => isF (innV (xs.getD k c0) (ys.getD k c0)) v | 10 => isF (fop .add .f32 (innL xs ys k) (innV (xs.getD k c0) (ys.getD k c0))) v | 11 => isF (fop .add .f32 (innL xs ys k) (innV (xs.getD k c0) (ys.getD k c0))) v | _ => True) (T := fun _ _ _ => True) [false, false, false, false, false, true, false, false, false, false, false, false, true, true, true, true, true, true, true, true, true, true, true, false, false]
    (by kernel_rfl) (by kernel_rfl) (by kernel_rfl) (fun _ _ _ _ _ _ h => h) (below_drewN (Below.refl _ _) 1) ?_ ?_
   ·refine ⟨Reg.Obl.mk ?_, Reg.Obl.mk ?_, Reg.Obl.mk ?_, Reg.Obl.mk ?_, Reg.Obl.mk ?_, Reg.Obl.mk ?_, Reg.Obl.mk ?_, Reg.Obl.mk ?_, Reg.Obl.mk ?_, Reg.Obl.mk ?_, Reg.Obl.mk ?_, Reg.Obl.mk ?_, trivial⟩
    ·rintro a w1 HC hx hd K hK
     replace HC := Lib.hid HC
     have t5 : a.tmps[5]?.getD undef = .float .f32 s := Reg.slot_val (hx 5 (by kernel_rfl))
     go_simp
     exact hK _ _ (fun _ => rfl) (fun h => by cases h) HC.out trivial
    ·rintro a w1 HC hx hd K hK
     replace HC := Lib.hid HC
     have t0 : a.tmps[0]?.getD undef = .slice (some ⟨b1, o1, none⟩) n cap := Reg.slot_val (hx 0 (by kernel_rfl))
     go_simp
     exact hK _ _ (fun _ => rfl) (fun h => by cases h) HC.out trivial
    ·rintro a w1 HC hx hd K hK
     replace HC := Lib.hid HC
     have t6 : a.tmps[6]?.getD undef = .int .i64 k := Reg.slot_val (hx 6 (by kernel_rfl))
     go_simp
     exact hK _ _ (fun _ => rfl) (fun h => by cases h) HC.out trivial
    ·rintro a w1 HC hx hd K hK
     replace HC := Lib.hid HC
     have t13 : a.tmps[13]?.getD undef = .slice (some ⟨b1, o1, none⟩) n cap := Reg.slot_val (hd 1 (by kernel_rfl) 13 rfl)
     have t14 : a.tmps[14]?.getD undef = .int .i64 k := Reg.slot_val (hd 2 (by kernel_rfl) 14 rfl)
     go_simp
     exact hK _ _ (fun _ => rfl) (fun h => by cases h) HC.out trivial
    ·rintro a w1 HC hx hd K hK
     replace HC := Lib.hid HC
     have y0 := cell_below HC.out ca0
     have y1 := cell_below HC.out ca1
     have y2 := cell_below HC.out ca2
     have t15 : a.tmps[15]?.getD undef = .pointer (some ⟨b1, o1 + k * 3, none⟩) := Reg.slot_val (hd 3 (by kernel_rfl) 15 rfl)
     go_simp
     exact hK _ _ (fun _ => rfl) (fun h => by cases h) HC.out trivial
    ·rintro a w1 HC hx hd K hK
     replace HC := Lib.hid HC
     have t1 : a.tmps[1]?.getD undef = .slice (some ⟨b2, o2, none⟩) n cap' := Reg.slot_val (hx 1 (by kernel_rfl))
     go_simp
     exact hK _ _ (fun _ => rfl) (fun h => by cases h) HC.out trivial
    ·rintro a w1 HC hx hd K hK
     replace HC := Lib.hid HC
     have t6 : a.tmps[6]?.getD undef = .int .i64 k := Reg.slot_val (hx 6 (by kernel_rfl))
     go_simp
     exact hK _ _ (fun _ => rfl) (fun h => by cases h) HC.out trivial
    ·rintro a w1 HC hx hd K hK
     replace HC := Lib.hid HC
     have t17 : a.tmps[17]?.getD undef = .slice (some ⟨b2, o2, none⟩) n cap' := Reg.slot_val (hd 5 (by kernel_rfl) 17 rfl)
     have t18 : a.tmps[18]?.getD undef = .int .i64 k := Reg.slot_val (hd 6 (by kernel_rfl) 18 rfl)
     go_simp
     exact hK _ _ (fun _ => rfl) (fun h => by cases h) HC.out trivial
    ·rintro a w1 HC hx hd K hK
     replace HC := Lib.hid HC
     have y0 := cell_below HC.out d0
     have y1 := cell_below HC.out d1
     have y2 := cell_below HC.out d2
     have t19 : a.tmps[19]?.getD undef = .pointer (some ⟨b2, o2 + k * 3, none⟩) := Reg.slot_val (hd 7 (by kernel_rfl) 19 rfl)
     go_simp
     exact hK _ _ (fun _ => rfl) (fun h => by cases h) HC.out trivial
    ·rintro a w1 HC hx hd K hK
     replace HC := Lib.hid HC
     have t16 : a.tmps[16]?.getD undef = vv p q t := Reg.slot_val (hd 4 (by kernel_rfl) 16 rfl)
     have t20 : a.tmps[20]?.getD undef = vv p' q' t' := Reg.slot_val (hd 8 (by kernel_rfl) 20 rfl)
     go_simp
     refine (l01Inner _ _ _ _ _ _ _ _ _ _ _ _ _ e0 e1 e2 g0 g1 g2).mono ?_
     rintro en w2 ⟨z, rfl, hz, hB2⟩
     exact hK _ _ (fun _ => ⟨z, rfl, hz⟩) (fun h => by cases h) (HC.out.trans (hB2.mono HC.out.size)) trivial
    ·rintro a w1 HC hx hd K hK
     replace HC := Lib.hid HC
     have t12 : a.tmps[12]?.getD undef = .float .f32 s := Reg.slot_val (hd 0 (by kernel_rfl) 12 rfl)
     obtain ⟨r21, g21, f21⟩ := hd 9 (by kernel_rfl) 21 rfl
     have t21 := Reg.slot_val g21
     clear g21
     go_simp
     exact hK _ _ (fun _ => ⟨_, rfl, FV_fR HF.out f21⟩) (fun h => by cases h) (below_drewN HC.out _) trivial
    ·rintro a w1 HC hx hd K hK
     replace HC := Lib.hid HC
     obtain ⟨r22, g22, f22⟩ := hd 10 (by kernel_rfl) 22 rfl
     have t22 := Reg.slot_val g22
     clear g22
     go_simp
     exact hK _ _ (fun _ => ⟨_, rfl, f22⟩) (fun h => by cases h) HC.out trivial
   ·rintro f w1 hC hd hT
    obtain ⟨r5, g5, f5⟩ := hd 11 5 rfl
    have HC := Lib.hid (HG.out.trans (hC.mono HG.out.size))
    clear hC hd hT
    simp only [Reg.mixL, g5]
    go_wp2
    go_roundw
    case rel => exact ⟨k + 1, by omega, by go_num, ⟨_, rfl, by rw [HSN.out]; exact f5⟩, HC.out⟩
    case measure => simp [intOf]; omega
  ·obtain rfl : k = n := by omega
   go_wp2
   go_ret
   exact ⟨s, rfl, HF.out, HB.out⟩
end Go.Proofs.Ytkdoibglgkcbkaa
namespace Go.Proofs.Ytkdoibglgkcbkaa
open Go Fk Go.RowKit
set_option linter.unusedVariables false
def At (w : World) (b : Nat) (vs : List Value) : Prop := ∀ i v, vs[i]? = some v → w.cell? ⟨b, i, none⟩ = some v
theorem At.below {W w : World} {b : Nat} {vs : List Value} (hb : Below W.heap.size W w) (h : At W b vs) : At w b vs := fun i v hv => cell_below hb (h i v hv)
theorem At.far {w : World} {b : Nat} {vs : List Value} {a : Addr} {u : Value} (hne : a.block ≠ b) (h : At w b vs) : At (w.setCell a u) b vs := fun i v hv => cell_set hne (h i v hv)
def Fr (w : World) (b : Nat) : Prop := ∀ i, w.frozen? ⟨b, i, none⟩ = false
theorem Fr.below {W w : World} {b : Nat} (hb : Below W.heap.size W w) (hlt : b < W.heap.size) (h : Fr W b) : Fr w b := fun i => frozen_below hb hlt (h i)
theorem Fr.setC {w : World} {b : Nat} {a : Addr} {u : Value} (h : Fr w b) : Fr (w.setCell a u) b := fun i => by simp; exact h i
theorem Fr.new {w : World} {vs : Array Value} {t : TypeId} : Fr (w.alloc (.cells vs t)) w.heap.size := fun i => by simp
end Go.Proofs.Ytkdoibglgkcbkaa
namespace Go.Proofs.Ytkdoibglgkcbkaa
namespace Reg2
open Go Reg
set_option linter.unusedVariables false
section
variable {P : Program} {ops : Array Oper} {Q : Exit → Act → World → Prop} {md : Region.Mode}
def tidy (ops : Array Oper) (n : Nat) : Bool :=
 low ops && (ops.all fun o => o.guard.isNone) && (ops.all fun o => (o.dst.map fun d => decide (d < n)).getD true) &&
 ((List.range ops.size).all fun i => (List.range ops.size).all fun j => i == j || slotOf ops i == none || slotOf ops i != slotOf ops j)
end
end Reg2
end Go.Proofs.Ytkdoibglgkcbkaa
namespace Go.Proofs.Ytkdoibglgkcbkaa
open Go Fk Go.RowKit
set_option linter.unusedVariables false
def F3 (x y z : Nat) (c : C3) : Prop := FV .f32 x c.1 ∧ FV .f32 y c.2.1 ∧ FV .f32 z c.2.2
end Go.Proofs.Ytkdoibglgkcbkaa
namespace Go.Proofs.Ytkdoibglgkcbkaa
open Go Fk Go.RowKit
set_option linter.unusedVariables false
def OwnVs (w : World) (g : Nat) (X : List C3) : Prop := (X.length ≤ maxLen ∧ ∀ i, i < X.length → ∃ p q r, (w.cell? ⟨g, i * 3, none⟩ = some (.float .f32 p) ∧ w.cell? ⟨g, i * 3 + 1, none⟩ = some (.float .f32 q) ∧ w.cell? ⟨g, i * 3 + 2, none⟩ = some (.float .f32 r)) ∧ F3 p q r (X.getD i c0)) ∧ Fr w g ∧ g < w.heap.size
theorem OwnVs.below {W w : World} {g : Nat} {X : List C3} (hb : Below W.heap.size W w) (h : OwnVs W g X) : OwnVs w g X := by
 refine ⟨⟨h.1.1, fun i hi => ?_⟩, h.2.1.below hb h.2.2, Nat.lt_of_lt_of_le h.2.2 hb.size⟩
 obtain ⟨p, q, r, ⟨k0, k1, k2⟩, f⟩ := h.1.2 i hi
 exact ⟨p, q, r, ⟨cell_below hb k0, cell_below hb k1, cell_below hb k2⟩, f⟩
theorem OwnVs.put {w : World} {g k p q r : Nat} {X : List C3} {c : C3} (h : OwnVs w g X) (hk : k < X.length) (f : F3 p q r c) :
  OwnVs (((w.setCell ⟨g, k * 3, none⟩ (.float .f32 p)).setCell ⟨g, k * 3 + 1, none⟩ (.float .f32 q)).setCell ⟨g, k * 3 + 2, none⟩ (.float .f32 r)) g (X.set k c) := by
 obtain ⟨p0, q0, r0, ⟨k0, k1, k2⟩, _⟩ := h.1.2 k hk
 obtain ⟨e0, e1, e2, eo⟩ := set3k (u := .float .f32 p) (v := .float .f32 q) (t := .float .f32 r) k0 k1 k2
 refine ⟨⟨by rw [List.length_set]; exact h.1.1, fun i hi => ?_⟩, ((h.2.1.setC).setC).setC, by simpa using h.2.2⟩
 rw [List.length_set] at hi
 by_cases hik : i = k
 ·subst hik
  refine ⟨p, q, r, ⟨e0, e1, e2⟩, ?_⟩
  have : (X.set i c).getD i c0 = c := by simp [List.getD, hi]
  rw [this]; exact f
 ·obtain ⟨p', q', r', ⟨j0, j1, j2⟩, f'⟩ := h.1.2 i hi
  refine ⟨p', q', r', ⟨by rw [eo _ (by omega) (by omega) (by omega)]; exact j0, by rw [eo _ (by omega) (by omega) (by omega)]; exact j1, by rw [eo _ (by omega) (by omega) (by omega)]; exact j2⟩, ?_⟩
  have : (X.set k c).getD i c0 = X.getD i c0 := by simp [List.getD, List.getElem?_set, Ne.symm hik]
  rw [this]; exact f'
theorem OwnVs.at {w : World} {g k : Nat} {X : List C3} (h : OwnVs w g X) (hk : k < X.length) : ∃ p q r, (w.cell? ⟨g, k * 3, none⟩ = some (.float .f32 p) ∧ w.cell? ⟨g, k * 3 + 1, none⟩ = some (.float .f32 q) ∧ w.cell? ⟨g, k * 3 + 2, none⟩ = some (.float .f32 r)) ∧ F3 p q r (X.getD k c0) := h.1.2 k hk
def St (w : World) (L : List (Nat × List Value)) (g : Nat) (X : List C3) (w' : World) : Prop :=
 Below w.heap.size w w' ∧ (∀ b l, (b, l) ∈ L → At w' b l ∧ Fr w' b ∧ b < w'.heap.size ∧ b ≠ g) ∧ w.heap.size ≤ g ∧ OwnVs w' g X
theorem St.bel {w w' : World} {L : List (Nat × List Value)} {g : Nat} {X : List C3} (h : St w L g X w') : Below w.heap.size w w' := h.1
theorem St.own {w w' : World} {L : List (Nat × List Value)} {g : Nat} {X : List C3} (h : St w L g X w') : OwnVs w' g X := h.2.2.2
theorem St.call {w w1 w2 : World} {L : List (Nat × List Value)} {g : Nat} {X : List C3} (h : St w L g X w1) (hb : Below w1.heap.size w1 w2) : St w L g X w2 :=
 ⟨h.1.trans (hb.mono h.1.size), fun b l hm => ⟨(h.2.1 b l hm).1.below hb, (h.2.1 b l hm).2.1.below hb (h.2.1 b l hm).2.2.1, Nat.lt_of_lt_of_le (h.2.1 b l hm).2.2.1 hb.size, (h.2.1 b l hm).2.2.2⟩, h.2.2.1, h.2.2.2.below hb⟩
theorem St.drewN {w w1 : World} {L : List (Nat × List Value)} {g : Nat} {X : List C3} (h : St w L g X w1) (n : Nat) : St w L g X (w1.drewN n) := h.call (below_drewN (Below.refl _ _) n)
theorem St.put {w w1 : World} {L : List (Nat × List Value)} {g k p q r : Nat} {X : List C3} {c : C3} (h : St w L g X w1) (hk : k < X.length) (f : F3 p q r c) :
  St w L g (X.set k c) (((w1.setCell ⟨g, k * 3, none⟩ (.float .f32 p)).setCell ⟨g, k * 3 + 1, none⟩ (.float .f32 q)).setCell ⟨g, k * 3 + 2, none⟩ (.float .f32 r)) :=
 ⟨((h.1.setCell (p := ⟨g, k * 3, none⟩) h.2.2.1 _).setCell (p := ⟨g, k * 3 + 1, none⟩) h.2.2.1 _).setCell (p := ⟨g, k * 3 + 2, none⟩) h.2.2.1 _,
  fun b l hm => ⟨(((h.2.1 b l hm).1.far (Ne.symm (h.2.1 b l hm).2.2.2)).far (Ne.symm (h.2.1 b l hm).2.2.2)).far (Ne.symm (h.2.1 b l hm).2.2.2), (((h.2.1 b l hm).2.1.setC).setC).setC, by simpa using (h.2.1 b l hm).2.2.1, (h.2.1 b l hm).2.2.2⟩, h.2.2.1, h.2.2.2.put hk f⟩
theorem OwnVs.made {w : World} {n : Nat} (hn : n ≤ 1048576) : OwnVs (w.alloc (.cells (madeCells #[.float .f32 0, .float .f32 0, .float .f32 0] (n * 3)) 67)) w.heap.size (List.replicate n (some 0, some 0, some 0)) := by
 have cell : ∀ j, j < n * 3 → (w.alloc (.cells (madeCells #[.float .f32 0, .float .f32 0, .float .f32 0] (n * 3)) 67)).cell? ⟨w.heap.size, j, none⟩ = some (.float .f32 0) := by
  intro j hj
  have hm : (madeCells #[.float .f32 0, .float .f32 0, .float .f32 0] (n * 3) : Array Value)[j]? = some (.float .f32 0) := by
   unfold madeCells
   have h3 : j % 3 = 0 ∨ j % 3 = 1 ∨ j % 3 = 2 := by omega
   rcases h3 with h | h | h <;> simp [hj, h]
  simp [hm]
 refine ⟨⟨by rw [List.length_replicate]; unfold maxLen; omega, fun i hi => ?_⟩, Fr.new, by simp⟩
 rw [List.length_replicate] at hi
 refine ⟨0, 0, 0, ⟨cell _ (by omega), cell _ (by omega), cell _ (by omega)⟩, ?_⟩
 have : (List.replicate n ((some 0, some 0, some 0) : C3)).getD i c0 = (some 0, some 0, some 0) := by simp [List.getD, hi]
 rw [this]
 exact ⟨⟨by decide, by decide⟩, ⟨by decide, by decide⟩, ⟨by decide, by decide⟩⟩
def Bx (w : World) (L : List (Nat × List Value)) (w' : World) : Prop :=
 Below w.heap.size w w' ∧ ∀ b l, (b, l) ∈ L → At w' b l ∧ Fr w' b ∧ b < w'.heap.size ∧ w.heap.size ≤ b
theorem Bx.nil (w : World) : Bx w [] w := ⟨Below.refl _ _, fun b l hm => by cases hm⟩
theorem Bx.bel {w w' : World} {L : List (Nat × List Value)} (h : Bx w L w') : Below w.heap.size w w' := h.1
theorem Bx.call {w w1 w2 : World} {L : List (Nat × List Value)} (h : Bx w L w1) (hb : Below w1.heap.size w1 w2) : Bx w L w2 :=
 ⟨h.1.trans (hb.mono h.1.size), fun b l hm => ⟨(h.2 b l hm).1.below hb, (h.2 b l hm).2.1.below hb (h.2 b l hm).2.2.1, Nat.lt_of_lt_of_le (h.2 b l hm).2.2.1 hb.size, (h.2 b l hm).2.2.2⟩⟩
theorem St.of {w w1 w2 : World} {L : List (Nat × List Value)} {g : Nat} {X : List C3} (h : Bx w L w1) (hb : Below w1.heap.size w1 w2) (hg : w1.heap.size ≤ g) (ho : OwnVs w2 g X) : St w L g X w2 := by
 have h2 := h.call hb
 exact ⟨h2.1, fun b l hm => ⟨(h2.2 b l hm).1, (h2.2 b l hm).2.1, (h2.2 b l hm).2.2.1, fun e => by have := (h.2 b l hm).2.2.1; omega⟩, Nat.le_trans h.1.size hg, ho⟩
theorem make_vecs (W : World) (n : Nat) (hn : n ≤ 1048576) : (Instr.makeSlice 30 (.int .i64 n) (.int .i64 n)).run Try.prog W = .ok (.slice (some ⟨W.heap.size, 0, none⟩) n n) (W.alloc (.cells (madeCells #[.float .f32 0, .float .f32 0, .float .f32 0] (n * 3)) 67)) := by
 obtain ⟨i0, hi, hz0, hz1, hz2⟩ := info_parts infoV
 have := run_make (P := Try.prog) W 30 67 i0 (.agg #[.float .f32 0, .float .f32 0, .float .f32 0]) Try.underlying30 hi hz0 .i64 .i64 n n (by omega) (Int.le_refl _) (by rw [hz2]; omega) (by omega)
 rw [this, hz1]; simp; rfl
end Go.Proofs.Ytkdoibglgkcbkaa
namespace Go.Proofs.Ytkdoibglgkcbkaa
open Go Fk Go.RowKit
set_option linter.unusedVariables false
set_option maxRecDepth 8000
end Go.Proofs.Ytkdoibglgkcbkaa
namespace Go.Proofs.Ytkdoibglgkcbkaa
open Go Fk Go.RowKit
set_option linter.unusedVariables false
set_option maxRecDepth 8000
end Go.Proofs.Ytkdoibglgkcbkaa
namespace Go.Proofs.Ytkdoibglgkcbkaa
open Go Fk Go.RowKit
set_option linter.unusedVariables false
set_option maxRecDepth 8000
end Go.Proofs.Ytkdoibglgkcbkaa
namespace Go.Proofs.Ytkdoibglgkcbkaa
open Go Fk Go.RowKit
set_option linter.unusedVariables false
set_option maxRecDepth 8000
end Go.Proofs.Ytkdoibglgkcbkaa
namespace Go.Proofs.Ytkdoibglgkcbkaa
open Go Fk Go.RowKit
set_option linter.unusedVariables false
set_option maxRecDepth 8000
structure Mark (lo hi : Nat) (w w' : World) : Prop where
 below : Below lo w w'
 above : ∀ k, hi ≤ k → k < w.heap.size → w'.heap[k]? = w.heap[k]?
 alive : ∀ n i, (∃ v, w.cell? ⟨n, i, none⟩ = some v) → ∃ v, w'.cell? ⟨n, i, none⟩ = some v
 frozen : ∀ n i, n < w.heap.size → w'.frozen? ⟨n, i, none⟩ = w.frozen? ⟨n, i, none⟩
theorem Mark.refl (lo hi : Nat) (w : World) : Mark lo hi w w := ⟨Below.refl _ _, fun _ _ _ => rfl, fun _ _ h => h, fun _ _ _ => rfl⟩
theorem Mark.trans {lo hi : Nat} {a b c : World} (h : Mark lo hi a b) (k : Mark lo hi b c) : Mark lo hi a c :=
 ⟨h.below.trans k.below, fun j h1 h2 => (k.above j h1 (Nat.lt_of_lt_of_le h2 h.below.size)).trans (h.above j h1 h2), fun n i e => k.alive n i (h.alive n i e), fun n i e => (k.frozen n i (Nat.lt_of_lt_of_le e h.below.size)).trans (h.frozen n i e)⟩
theorem Mark.set {lo hi : Nat} {w : World} {b o : Nat} {u : Value} (h1 : lo ≤ b) (h2 : b < hi) : Mark lo hi w (w.setCell ⟨b, o, none⟩ u) := by
 refine ⟨(Below.refl _ _).setCell h1 _, fun k hk _ => Below.heap_setCell _ _ _ _ (by simp; omega), fun n i ⟨v, hv⟩ => ?_, fun n i _ => by simp⟩
 by_cases h : (⟨b, o, none⟩ : Addr) = ⟨n, i, none⟩
 ·rw [← h] at hv ⊢; exact ⟨_, World.cell?_setCell_same w _ u hv⟩
 ·exact ⟨v, by rw [World.cell?_setCell_other _ _ _ _ h]; exact hv⟩
theorem Mark.cell {lo hi : Nat} {w w' : World} (h : Mark lo hi w w') {b i : Nat} {v : Value} (hb : b < lo ∨ hi ≤ b) (hv : w.cell? ⟨b, i, none⟩ = some v) : w'.cell? ⟨b, i, none⟩ = some v := by
 rcases hb with hb | hb
 ·rw [h.below.cell (p := ⟨b, i, none⟩) hb]; exact hv
 ·rw [World.cell?_of_block (w := w) (h.above b hb (World.block_lt_of_cell? _ _ hv))]; exact hv
def Own (lo hi : Nat) (w : World) (b o n : Nat) : Prop := lo ≤ b ∧ b < hi ∧ b < w.heap.size ∧ ∀ j, j < n → (∃ v, w.cell? ⟨b, o + j, none⟩ = some v) ∧ w.frozen? ⟨b, o + j, none⟩ = false
theorem Own.mark {lo hi lo' hi' : Nat} {w w' : World} {b o n : Nat} (h : Own lo hi w b o n) (k : Mark lo' hi' w w') : Own lo hi w' b o n :=
 ⟨h.1, h.2.1, Nat.lt_of_lt_of_le h.2.2.1 k.below.size, fun j hj => ⟨k.alive _ _ (h.2.2.2 j hj).1, by rw [k.frozen _ _ h.2.2.1]; exact (h.2.2.2 j hj).2⟩⟩
end Go.Proofs.Ytkdoibglgkcbkaa
namespace Go.Proofs.Ytkdoibglgkcbkaa
open Go Fk Go.RowKit
set_option linter.unusedVariables false
set_option maxRecDepth 8000
set_option maxHeartbeats 400000 in
theorem laws_markVectorS (lo hi b o len cap : Nat) (k0 : Nat) (w : World) (h : Own lo hi w b o (len * 3)) (hk : k0 + len * 3 ≤ 9000000000000000000) :
  Calls Try.prog 21 #[.slice (some ⟨b, o, none⟩) len cap, .int .i64 k0] w fun e w' => e = .returned (.int .i64 ((k0 + len * 3 : Nat) : Int)) ∧ (∀ j, j < len * 3 → w'.cell? ⟨b, o + j, none⟩ = some (.float .f32 (floatOfInt .f32 ((k0 + j : Nat) : Int)))) ∧ (∀ n i, (n ≠ b ∨ i < o ∨ o + len * 3 ≤ i) → w'.cell? ⟨n, i, none⟩ = w.cell? ⟨n, i, none⟩) ∧ Mark lo hi w w' := by
 have u := Try.underlying22
 have uv := Try.underlying67
 obtain ⟨h1, h2, h3, h4⟩ := h
 have H4 := Lib.hid h4
 have H1 := Lib.hid h1
 have H2 := Lib.hid h2
 have H3 := Lib.hid h3
 clear h1 h2 h3 h4
 go_enter Try.func21, Try.ntmps21
 go_wp2
 go_loopw [1, 5] (fun q i w' => ∃ k : Nat, k ≤ len ∧ i = .int .i64 k ∧ q = .int .i64 ((k0 + k * 3 : Nat) : Int) ∧ Aside ((∀ j, j < k * 3 → w'.cell? ⟨b, o + j, none⟩ = some (.float .f32 (floatOfInt .f32 ((k0 + j : Nat) : Int)))) ∧ (∀ n i, (n ≠ b ∨ i < o ∨ o + len * 3 ≤ i) → w'.cell? ⟨n, i, none⟩ = w.cell? ⟨n, i, none⟩) ∧ Mark lo hi w w')) (fun _ i _ => len - (intOf i).toNat)
 case atStart => exact ⟨0, Nat.zero_le _, rfl, rfl, fun j hj => absurd hj (by omega), fun _ _ _ => rfl, Mark.refl _ _ _⟩
 case round =>
  obtain ⟨k, hkl, rfl, rfl, hA⟩ := hrel
  by_cases hlt : k < len
  ·obtain ⟨hdone, hother, hM⟩ := hA.out
   obtain ⟨v0, hv0⟩ := hM.alive _ _ (H4.out (k * 3) (by omega)).1
   obtain ⟨v1, hv1⟩ := hM.alive _ _ (H4.out (k * 3 + 1) (by omega)).1
   obtain ⟨v2, hv2⟩ := hM.alive _ _ (H4.out (k * 3 + 2) (by omega)).1
   have hf0 : wr.frozen? ⟨b, o + k * 3, none⟩ = false := by rw [hM.frozen _ _ H3.out]; exact (H4.out (k * 3) (by omega)).2
   have hf1 : wr.frozen? ⟨b, o + k * 3 + 1, none⟩ = false := by rw [hM.frozen _ _ H3.out]; exact (H4.out (k * 3 + 1) (by omega)).2
   have hf2 : wr.frozen? ⟨b, o + k * 3 + 2, none⟩ = false := by rw [hM.frozen _ _ H3.out]; exact (H4.out (k * 3 + 2) (by omega)).2
   rw [← Nat.add_assoc] at hv1 hv2
   have HD := Lib.hid hdone
   have HO := Lib.hid hother
   have HM := Lib.hid hM
   have hk0 : (0 : Int) ≤ (k : Int) := by omega
   have hk1 : (k : Int) < (len : Int) := by omega
   clear hA hdone hother hM
   go_wp2
   go_roundw
   case rel =>
    obtain ⟨e0, e1, e2, eo⟩ := set3k (u := .float .f32 (floatOfInt .f32 ((k0 : Int) + (k : Int) * 3))) (v := .float .f32 (floatOfInt .f32 ((k0 : Int) + (k : Int) * 3 + 1))) (t := .float .f32 (floatOfInt .f32 ((k0 : Int) + (k : Int) * 3 + 1 + 1))) hv0 hv1 hv2
    refine ⟨k + 1, by omega, by go_num, by go_num, fun j hj => ?_, fun n i hn => ?_, ((HM.out.trans (Mark.set H1.out H2.out)).trans (Mark.set H1.out H2.out)).trans (Mark.set H1.out H2.out)⟩
    ·by_cases j0 : j = k * 3
     ·subst j0; rw [e0]; simp
     ·by_cases j1 : j = k * 3 + 1
      ·subst j1; rw [← Nat.add_assoc, e1]; simp; congr 1
      ·by_cases j2 : j = k * 3 + 2
       ·subst j2; rw [← Nat.add_assoc, e2]; simp; congr 1
       ·rw [eo _ (by omega) (by omega) (by omega)]; exact HD.out j (by omega)
    ·rw [World.cell?_setCell_other _ _ _ _ (by simp <;> omega), World.cell?_setCell_other _ _ _ _ (by simp <;> omega), World.cell?_setCell_other _ _ _ _ (by simp <;> omega)]; exact HO.out n i hn
   case measure => simp [intOf]; omega
  ·obtain rfl : k = len := by omega
   obtain ⟨hdone, hother, hM⟩ := hA.out
   have HD := Lib.hid hdone
   have HO := Lib.hid hother
   have HM := Lib.hid hM
   clear hA hdone hother hM
   go_wp2
   go_ret
   exact ⟨rfl, HD.out, HO.out, HM.out⟩
end Go.Proofs.Ytkdoibglgkcbkaa
namespace Go.Proofs.Ytkdoibglgkcbkaa
open Go Fk Go.RowKit
set_option linter.unusedVariables false
set_option maxRecDepth 8000
theorem mark_self (z : Int) : (FloatKind.f32.format.order (floatOfInt .f32 z) (floatOfInt .f32 z) != some .eq) = false := by
 have h : (FloatKind.f32.decode (floatOfInt .f32 z)).isNaN = false := isNaN_write .f32 (.number (z < 0) z.natAbs 0) rfl
 rw [order_self h]; rfl
set_option maxHeartbeats 400000 in
theorem laws_heldVectorS (b o len cap : Nat) (k0 : Nat) (w : World) (h : ∀ j, j < len * 3 → w.cell? ⟨b, o + j, none⟩ = some (.float .f32 (floatOfInt .f32 ((k0 + j : Nat) : Int)))) (hk : k0 + len * 3 ≤ 9000000000000000000) :
  Calls Try.prog 22 #[.slice (some ⟨b, o, none⟩) len cap, .int .i64 k0] w fun e w' => e = .returned (.int .i64 ((k0 + len * 3 : Nat) : Int)) ∧ w' = w := by
 have u := Try.underlying22
 have uv := Try.underlying67
 have H := Lib.hid h
 clear h
 go_enter Try.func22, Try.ntmps22
 go_wp2
 go_loopw [1, 5] (fun q i w' => ∃ k : Nat, k ≤ len ∧ i = .int .i64 k ∧ q = .int .i64 ((k0 + k * 3 : Nat) : Int) ∧ w' = w) (fun _ i _ => len - (intOf i).toNat)
 case atStart => exact ⟨0, Nat.zero_le _, rfl, rfl, rfl⟩
 case round =>
  obtain ⟨k, hkl, rfl, rfl, rfl⟩ := hrel
  by_cases hlt : k < len
  ·have hv0 := H.out (k * 3) (by omega)
   have hv1 := H.out (k * 3 + 1) (by omega)
   have hv2 := H.out (k * 3 + 2) (by omega)
   rw [← Nat.add_assoc, show ((k0 + (k * 3 + 1) : Nat) : Int) = (k0 : Int) + (k : Int) * 3 + 1 by omega] at hv1
   rw [← Nat.add_assoc, show ((k0 + (k * 3 + 2) : Nat) : Int) = (k0 : Int) + (k : Int) * 3 + 1 + 1 by omega] at hv2
   rw [show ((k0 + k * 3 : Nat) : Int) = (k0 : Int) + (k : Int) * 3 by omega] at hv0
   have s0 := mark_self ((k0 : Int) + (k : Int) * 3)
   have s1 := mark_self ((k0 : Int) + (k : Int) * 3 + 1)
   have s2 := mark_self ((k0 : Int) + (k : Int) * 3 + 1 + 1)
   have hk0 : (0 : Int) ≤ (k : Int) := by omega
   have hk1 : (k : Int) < (len : Int) := by omega
   go_wp2
   go_roundw
   case rel => exact ⟨k + 1, by omega, by go_num, by go_num, by first | trivial | rfl⟩
   case measure => simp [intOf]; omega
  ·obtain rfl : k = len := by omega
   go_wp2
   go_ret
   exact ⟨rfl, by first | rfl | trivial⟩
end Go.Proofs.Ytkdoibglgkcbkaa
namespace Go.Proofs.Ytkdoibglgkcbkaa
open Go Fk Go.RowKit
set_option linter.unusedVariables false
set_option maxRecDepth 8000
def Rows (lo hi : Nat) (w : World) (g o len : Nat) (ts : List (List Int)) : Prop :=
 ∀ j, j < len → ∃ G O c, G ≠ g ∧ w.cell? ⟨g, o + j, none⟩ = some (.slice (some ⟨G, O, none⟩) (ts.getD j []).length c) ∧ Own lo hi w G O (ts.getD j []).length
end Go.Proofs.Ytkdoibglgkcbkaa
namespace Go.Proofs.Ytkdoibglgkcbkaa
open Go Fk Go.RowKit
set_option linter.unusedVariables false
set_option maxRecDepth 8000
set_option maxHeartbeats 400000 in
theorem laws_toVectorS' (a : Option Addr) (len cap : Nat) (cs : List C3) (w : World) (h : IsVs w a len cap cs) (hlen : len ≤ 1048576) :
  Calls Try.prog 18 #[.slice a len cap] w fun e w' => e = .returned (.slice (some ⟨w.heap.size, 0, none⟩) len len) ∧ IsVs w' (some ⟨w.heap.size, 0, none⟩) len len cs ∧ Below w.heap.size w w' ∧ w.heap.size < w'.heap.size ∧ ∀ i, w'.frozen? ⟨w.heap.size, i, none⟩ = false := by
 have uv := Try.underlying67
 have ul := Try.underlying60
 have u := Try.underlying22
 obtain ⟨i0, hi, hz0, hz1, hz2⟩ := info_parts infoV
 have hzl := h.1
 obtain ⟨g, hg⟩ : ∃ g, g = w.heap.size := ⟨_, rfl⟩
 have hmk : (Instr.makeSlice 30 (.int .i64 len) (.int .i64 len)).run Try.prog w = .ok (.slice (some ⟨g, 0, none⟩) len len) (w.alloc (.cells (madeCells #[.float .f32 0, .float .f32 0, .float .f32 0] (len * 3)) 67)) := by
  have := run_make (P := Try.prog) w 30 67 i0 (.agg #[.float .f32 0, .float .f32 0, .float .f32 0]) Try.underlying30 hi hz0 .i64 .i64 len len (by omega) (Int.le_refl _) (by rw [hz2]; omega) (by omega)
  rw [this, hz1, hg]; simp; rfl
 have hstart : Below w.heap.size w (w.alloc (.cells (madeCells #[.float .f32 0, .float .f32 0, .float .f32 0] (len * 3)) 67)) ∧ g < (w.alloc (.cells (madeCells #[.float .f32 0, .float .f32 0, .float .f32 0] (len * 3)) 67)).heap.size ∧
   (∀ j, j < len * 3 → ∃ v, (w.alloc (.cells (madeCells #[.float .f32 0, .float .f32 0, .float .f32 0] (len * 3)) 67)).cell? ⟨g, j, none⟩ = some v) ∧ (∀ j, (w.alloc (.cells (madeCells #[.float .f32 0, .float .f32 0, .float .f32 0] (len * 3)) 67)).frozen? ⟨g, j, none⟩ = false) := by
  subst hg
  exact ⟨(Below.refl _ _).alloc (Nat.le_refl _) _, by simp, fun j hj => made_cell3 w _ (len * 3) j _ hj, fun j => by simp⟩
 rw [← hg] at hstart ⊢
 have HST := Lib.hid hstart
 have HG := Lib.hid hg
 clear hstart hg
 go_enter Try.func18, Try.ntmps18
 go_wp2
 generalize hw0 : w.alloc (.cells (madeCells #[.float .f32 0, .float .f32 0, .float .f32 0] (len * 3)) 67) = w0 at HST ⊢
 go_loopw [4] (fun i w' => ∃ k : Nat, k ≤ len ∧ i = .int .i64 k ∧ Aside ((Below g w w' ∧ g < w'.heap.size ∧ (∀ j, j < len * 3 → ∃ v, w'.cell? ⟨g, j, none⟩ = some v) ∧ (∀ j, w'.frozen? ⟨g, j, none⟩ = false)) ∧
   ∀ j, j < k → ∃ p q r, w'.cell? ⟨g, j * 3, none⟩ = some (.float .f32 p) ∧ w'.cell? ⟨g, j * 3 + 1, none⟩ = some (.float .f32 q) ∧ w'.cell? ⟨g, j * 3 + 2, none⟩ = some (.float .f32 r) ∧ FV .f32 p (cs.getD j c0).1 ∧ FV .f32 q (cs.getD j c0).2.1 ∧ FV .f32 r (cs.getD j c0).2.2)) (fun i _ => len - (intOf i).toNat)
 case atStart => exact ⟨0, Nat.zero_le _, rfl, HST.out, fun j hj => absurd hj (by omega)⟩
 case round =>
  obtain ⟨k, hk, rfl, hA⟩ := hrel
  by_cases hlt : k < len
  ·obtain ⟨⟨hB, hgs, hce, hfz⟩, hdone⟩ := hA.out
   have h' := h.below (HG.out ▸ hB)
   obtain ⟨b, o, rfl, hcell⟩ := h'.some (by omega)
   obtain ⟨p, q, r, hp, hq, hr, fp, fq, fr⟩ := hcell k hlt
   have hk0 : (0 : Int) ≤ (k : Int) := by omega
   have hk1 : (k : Int) < (len : Int) := by omega
   have hf0 := hfz (k * 3)
   have hf1 := hfz (k * 3 + 1)
   have hf2 := hfz (k * 3 + 2)
   obtain ⟨v0, hv0⟩ := hce (k * 3) (by omega)
   obtain ⟨v1, hv1⟩ := hce (k * 3 + 1) (by omega)
   obtain ⟨v2, hv2⟩ := hce (k * 3 + 2) (by omega)
   have HD := Lib.hid hdone
   have HC := Lib.hid hce
   have HF := Lib.hid hfz
   have HB := Lib.hid hB
   clear hA hcell h' hdone hce hfz hB h
   go_wp2_with fail
   refine (laws_toVector _ _ _ _).mono ?_
   rintro e w1 ⟨rfl, hB1⟩
   have hv0' : w1.cell? ⟨g, k * 3, none⟩ = some v0 := by rw [hB1.cell (p := ⟨g, k * 3, none⟩) hgs]; exact hv0
   have hv1' : w1.cell? ⟨g, k * 3 + 1, none⟩ = some v1 := by rw [hB1.cell (p := ⟨g, k * 3 + 1, none⟩) hgs]; exact hv1
   have hv2' : w1.cell? ⟨g, k * 3 + 2, none⟩ = some v2 := by rw [hB1.cell (p := ⟨g, k * 3 + 2, none⟩) hgs]; exact hv2
   have hf0' : w1.frozen? ⟨g, k * 3, none⟩ = false := by rw [hB1.frozen (p := ⟨g, k * 3, none⟩) hgs]; exact hf0
   have hf1' : w1.frozen? ⟨g, k * 3 + 1, none⟩ = false := by rw [hB1.frozen (p := ⟨g, k * 3 + 1, none⟩) hgs]; exact hf1
   have hf2' : w1.frozen? ⟨g, k * 3 + 2, none⟩ = false := by rw [hB1.frozen (p := ⟨g, k * 3 + 2, none⟩) hgs]; exact hf2
   have HB1 := Lib.hid hB1
   clear hB1
   go_wp2
   go_roundw
   case rel =>
    have hB1 := HB1.out
    obtain ⟨e0, e1, e2, eo⟩ := set3k (u := .float .f32 p) (v := .float .f32 q) (t := .float .f32 r) hv0' hv1' hv2'
    refine ⟨k + 1, by omega, by go_num, ⟨⟨(((HB.out.trans (hB1.mono (by omega))).setCell (Nat.le_refl _) _).setCell (Nat.le_refl _) _).setCell (Nat.le_refl _) _, by simp <;> (have := hB1.size; omega), fun j hj => ?_, fun j => ?_⟩, fun j hj => ?_⟩⟩
    ·by_cases h0 : j = k * 3
     ·subst h0; exact ⟨_, e0⟩
     ·by_cases h1 : j = k * 3 + 1
      ·subst h1; exact ⟨_, e1⟩
      ·by_cases h2 : j = k * 3 + 2
       ·subst h2; exact ⟨_, e2⟩
       ·obtain ⟨v, hv⟩ := HC.out j hj
        exact ⟨v, by rw [eo j h0 h1 h2, hB1.cell (p := ⟨g, j, none⟩) hgs]; exact hv⟩
    ·simp; rw [hB1.frozen (p := ⟨g, j, none⟩) hgs]; exact HF.out j
    ·by_cases hjk : j = k
     ·subst hjk; exact ⟨p, q, r, e0, e1, e2, fp, fq, fr⟩
     ·obtain ⟨p', q', r', k0, k1, k2, hv⟩ := HD.out j (by omega)
      exact ⟨p', q', r', by rw [eo _ (by omega) (by omega) (by omega), hB1.cell (p := ⟨g, j * 3, none⟩) hgs]; exact k0, by rw [eo _ (by omega) (by omega) (by omega), hB1.cell (p := ⟨g, j * 3 + 1, none⟩) hgs]; exact k1,
       by rw [eo _ (by omega) (by omega) (by omega), hB1.cell (p := ⟨g, j * 3 + 2, none⟩) hgs]; exact k2, hv⟩
   case measure => simp [intOf]; omega
  ·obtain rfl : k = len := by omega
   obtain ⟨⟨hB, hgs, hce, hfz⟩, hdone⟩ := hA.out
   have hfin : IsVs wr (some ⟨g, 0, none⟩) k k cs := by
    refine ⟨hzl, Nat.le_refl _, by unfold maxLen; omega, by simp, fun x hx i hi => ?_⟩
    cases hx
    obtain ⟨p, q, r, k0, k1, k2, hv⟩ := hdone i hi
    exact ⟨p, q, r, by rw [addr_add', Nat.zero_add]; exact k0, by rw [addr_add', Nat.zero_add]; exact k1, by rw [addr_add', Nat.zero_add]; exact k2, hv⟩
   have HF := Lib.hid hfin
   have HB := Lib.hid hB
   have HFZ := Lib.hid hfz
   clear hA hB hce hfz hdone hfin h
   go_wp2
   go_ret
   exact ⟨rfl, HF.out, HB.out, hgs, HFZ.out⟩
end Go.Proofs.Ytkdoibglgkcbkaa
namespace Go.Proofs.Ytkdoibglgkcbkaa
open Go Fk Go.RowKit
set_option linter.unusedVariables false
set_option maxRecDepth 8000
def Lst (lo hi : Nat) (w : World) (a : Option Addr) (n : Nat) : Prop := (a = none ∧ n = 0) ∨ ∃ b, a = some ⟨b, 0, none⟩ ∧ Own lo hi w b 0 n
theorem Own.below {lo hi : Nat} {w w' : World} {b o n : Nat} (h : Own lo hi w b o n) (hB : Below w.heap.size w w') : Own lo hi w' b o n :=
 ⟨h.1, h.2.1, Nat.lt_of_lt_of_le h.2.2.1 hB.size, fun j hj => by
  obtain ⟨⟨v, hv⟩, hf⟩ := h.2.2.2 j hj
  exact ⟨⟨v, cell_below hB hv⟩, by rw [hB.frozen (p := ⟨b, o + j, none⟩) h.2.2.1]; exact hf⟩⟩
theorem Lst.below {lo hi : Nat} {w w' : World} {a : Option Addr} {n : Nat} (h : Lst lo hi w a n) (hB : Below w.heap.size w w') : Lst lo hi w' a n :=
 h.imp id fun ⟨b, e, ho⟩ => ⟨b, e, ho.below hB⟩
theorem Lst.mark {lo hi lo' hi' : Nat} {w w' : World} {a : Option Addr} {n : Nat} (h : Lst lo hi w a n) (hM : Mark lo' hi' w w') : Lst lo hi w' a n :=
 h.imp id fun ⟨b, e, ho⟩ => ⟨b, e, ho.mark hM⟩
end Go.Proofs.Ytkdoibglgkcbkaa
namespace Go.Proofs.Ytkdoibglgkcbkaa
open Go Fk Go.RowKit
set_option linter.unusedVariables false
set_option maxRecDepth 8000
section
variable {P : Program} (w : World)
end
end Go.Proofs.Ytkdoibglgkcbkaa
namespace Go.Proofs.Ytkdoibglgkcbkaa
open Go Fk Go.RowKit
set_option linter.unusedVariables false
set_option maxRecDepth 8000
theorem owns_up {w w' : World} {base : Nat} {e : TypeId} {size : Nat} {v : Value} {n : Nat} {xs : List Value} (h : w.ownsRow base e size v n xs) (hB : Below w.heap.size w w') : w'.ownsRow base e size v n xs :=
 h.kept (row := none) ⟨hB.os, hB.tape, hB.output, hB.size, fun k hk _ => hB.block k hk⟩ (by cases v.ownBlock <;> simp)
def PV (n : Nat) (xs : List Value) (cs : List C3) : Prop := ∀ j, j < n → ∃ p q r, xs[j * 3]? = some (.float .f32 p) ∧ xs[j * 3 + 1]? = some (.float .f32 q) ∧ xs[j * 3 + 2]? = some (.float .f32 r) ∧ FV .f32 p (cs.getD j c0).1 ∧ FV .f32 q (cs.getD j c0).2.1 ∧ FV .f32 r (cs.getD j c0).2.2
end Go.Proofs.Ytkdoibglgkcbkaa

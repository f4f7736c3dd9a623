
/-
The law of valid bodies returns true: its walk. Conditions: none beyond that the body lies in memory.
-/
import Derived.Test.YtcdpehkpifiliaaBoG
namespace Go.Proofs.Ytcdpehkpifiliaa
open Go Fk Go.RowKit
set_option linter.unusedVariables false
set_option maxRecDepth 8000

set_option maxHeartbeats 2000000 in
theorem validBody_law (B : Bd) (c : Bc) (w : World) (h : IsB w B c) :
    Calls Try.prog 5 #[B.v] w fun e w' => e = .returned (.bool true) ∧ Below w.heap.size w w' := by
  have ul := Try.underlying45
  have ui := Try.underlying52
  have hA0 : At (w.alloc (BoxB B 45)) w.heap.size B.l := At.new
  have hB0 := (Below.refl w.heap.size w).alloc (Nat.le_refl _) (BoxB B 45)
  have H := Lib.hid h
  have A0 := Lib.hid hA0
  have B0 := Lib.hid hB0
  clear h hA0 hB0
  go_enter Try.func5, Try.ntmps5
  go_wp2_with fail
  change Calls _ _ _ (w.alloc (BoxB B 45)) _
  generalize (w.alloc (BoxB B 45)) = W at *
  refine (laws_szBody B c 1048576 _ (H.out.below B0.out) (by decide) (by decide)).mono ?_
  rintro e w1 ⟨⟨r, rfl, hr⟩, hB1⟩
  have A1 := Lib.hid (A0.out.below hB1)
  have B1 := Lib.hid (B0.out.trans (hB1.mono B0.out.size))
  clear hB1
  rcases hr with rfl | ⟨hr0, hs⟩
  · go_wp2
    go_ret
    exact ⟨rfl, B1.out⟩
  · have HS := Lib.hid hs
    clear hs
    have k0 := A1.out 0 _ rfl
    have k1 := A1.out 1 _ rfl
    have k2 := A1.out 2 _ rfl
    have k3 := A1.out 3 _ rfl
    have k4 := A1.out 4 _ rfl
    have k5 := A1.out 5 _ rfl
    have k6 := A1.out 6 _ rfl
    have k7 := A1.out 7 _ rfl
    have k8 := A1.out 8 _ rfl
    go_wp2_with fail
    clear k0 k1 k2 k3 k4 k5 k6 k7 k8
    refine (laws_toBody B c _ (H.out.below B1.out) HS.out).mono ?_
    rintro e w2 ⟨M, rfl, hM, hB2⟩
    have A2 := Lib.hid (A1.out.below hB2)
    have B2 := Lib.hid (B1.out.trans (hB2.mono B1.out.size))
    have HM := Lib.hid hM
    clear hM hB2
    go_wp2_with fail
    refine (spec_ValidBody M c _ HM.out).mono ?_
    rintro e w3 ⟨rfl, hB3⟩
    have A3 := Lib.hid (A2.out.below hB3)
    have B3 := Lib.hid (B2.out.trans (hB3.mono B2.out.size))
    clear hB3
    have k0 := A3.out 0 _ rfl
    have k1 := A3.out 1 _ rfl
    have k2 := A3.out 2 _ rfl
    have k3 := A3.out 3 _ rfl
    have k4 := A3.out 4 _ rfl
    have k5 := A3.out 5 _ rfl
    have k6 := A3.out 6 _ rfl
    have k7 := A3.out 7 _ rfl
    have k8 := A3.out 8 _ rfl
    go_wp2_with fail
    clear k0 k1 k2 k3 k4 k5 k6 k7 k8
    refine (laws_toBody B c _ (H.out.below B3.out) HS.out).mono ?_
    rintro e w4 ⟨X, rfl, hX, hB4⟩
    have A4 := Lib.hid (A3.out.below hB4)
    have B4 := Lib.hid (B3.out.trans (hB4.mono B3.out.size))
    have HX := Lib.hid hX
    clear hX hB4
    go_wp2_with fail
    change Calls _ _ _ (w4.alloc (BoxB X 52)) _
    have hN := (Below.refl w4.heap.size w4).alloc (Nat.le_refl _) (BoxB X 52)
    have AX : RowKit.Hid (At (w4.alloc (BoxB X 52)) w4.heap.size X.l) := Lib.hid At.new
    have A5 := Lib.hid (A4.out.below hN)
    have HX5 := Lib.hid (HX.out.below hN)
    have B5 := Lib.hid (B4.out.trans (hN.mono B4.out.size))
    generalize (w4.alloc (BoxB X 52)) = W4 at *
    generalize w4.heap.size = xb at *
    clear hN
    refine (impl_ValidBody X c _ HX5.out).mono ?_
    rintro e w5 ⟨rfl, hB6⟩
    have A6 := Lib.hid (A5.out.below hB6)
    have AX6 := Lib.hid (AX.out.below hB6)
    have HX6 := Lib.hid (HX5.out.below hB6)
    have B6 := Lib.hid (B5.out.trans (hB6.mono B5.out.size))
    clear hB6
    generalize bodyB c = vb at *
    have hvb : (vb == vb) = true := by cases vb <;> rfl
    go_wp2_with fail
    refine Reg.wp_region_mix (C := fun w' => Below w5.heap.size w5 w') (G := fun w1 w2 => Below w1.heap.size w1 w2) (R := fun i v w' => match i with | 0 => v = X.v | 1 => v = B.v | 2 => ∃ B' : Bd, v = B'.v ∧ IsB w' B' c | 3 => v = .bool true | 4 => v = .bool false | _ => True) (T := fun _ _ _ => True) [false, false, false, false, false, false, false, false, false, false, false, false, false, false, false, false, false, false, false, false, false, false, true, true, true, true, true]
      (by kernel_rfl) (by kernel_rfl) (by kernel_rfl) ?_ (below_drewN (Below.refl _ _) 1) ?_ ?_
    · intro j v w1 w2 _ hG hR
      match j with
      | 0 => exact hR
      | 1 => exact hR
      | 2 => obtain ⟨B', e, h1⟩ := hR; exact ⟨B', e, h1.below hG⟩
      | 3 => exact hR
      | 4 => exact hR
      | _ + 5 => trivial
    · refine ⟨Reg.Obl.mk ?_, Reg.Obl.mk ?_, Reg.Obl.mk ?_, Reg.Obl.mk ?_, Reg.Obl.mk ?_, trivial⟩
      · rintro a w1 hB hx hd K hK
        have t5 : a.tmps[5]?.getD undef = .pointer (some ⟨xb, 0, none⟩) := Reg.slot_val (hx 5 (by kernel_rfl))
        have y0 := AX6.out.below hB 0 _ rfl
        have y1 := AX6.out.below hB 1 _ rfl
        have y2 := AX6.out.below hB 2 _ rfl
        have y3 := AX6.out.below hB 3 _ rfl
        have y4 := AX6.out.below hB 4 _ rfl
        have y5 := AX6.out.below hB 5 _ rfl
        have y6 := AX6.out.below hB 6 _ rfl
        have y7 := AX6.out.below hB 7 _ rfl
        have y8 := AX6.out.below hB 8 _ rfl
        have HC := Lib.hid hB
        clear hB
        go_simp
        exact hK _ _ (fun _ => rfl) (fun h => by cases h) HC.out (Below.refl _ _)
      · rintro a w1 hB hx hd K hK
        have t1 : a.tmps[1]?.getD undef = .pointer (some ⟨w.heap.size, 0, none⟩) := Reg.slot_val (hx 1 (by kernel_rfl))
        have y0 := A6.out.below hB 0 _ rfl
        have y1 := A6.out.below hB 1 _ rfl
        have y2 := A6.out.below hB 2 _ rfl
        have y3 := A6.out.below hB 3 _ rfl
        have y4 := A6.out.below hB 4 _ rfl
        have y5 := A6.out.below hB 5 _ rfl
        have y6 := A6.out.below hB 6 _ rfl
        have y7 := A6.out.below hB 7 _ rfl
        have y8 := A6.out.below hB 8 _ rfl
        have HC := Lib.hid hB
        clear hB
        go_simp
        exact hK _ _ (fun _ => rfl) (fun h => by cases h) HC.out (Below.refl _ _)
      · rintro a w1 hB hx hd K hK
        have t23 : a.tmps[23]?.getD undef = B.v := Reg.slot_val (hd 1 (by kernel_rfl) 23 rfl)
        have HC := Lib.hid hB
        clear hB
        go_simp
        refine (laws_toBody B c _ (H.out.below (B6.out.trans (HC.out.mono B6.out.size))) HS.out).mono ?_
        rintro en w2 ⟨B', rfl, hV, hB2⟩
        exact hK _ _ (fun _ => ⟨B', rfl, hV⟩) (fun h => by cases h) (HC.out.trans (hB2.mono HC.out.size)) hB2
      · rintro a w1 hB hx hd K hK
        have t22 : a.tmps[22]?.getD undef = X.v := Reg.slot_val (hd 0 (by kernel_rfl) 22 rfl)
        obtain ⟨B', g2, hV⟩ := hd 2 (by kernel_rfl) 24 rfl
        have t24 := Reg.slot_val g2
        clear g2
        have HVe := Lib.hid hV
        have HC := Lib.hid hB
        clear hV hB
        go_simp
        refine (laws_eqBody X B' c _ (HX6.out.below HC.out) HVe.out HS.out).mono ?_
        rintro en w2 ⟨rfl, hB2⟩
        exact hK _ _ (fun _ => rfl) (fun h => by cases h) (HC.out.trans (hB2.mono HC.out.size)) hB2
      · rintro a w1 hB hx hd K hK
        have t25 : a.tmps[25]?.getD undef = .bool true := Reg.slot_val (hd 3 (by kernel_rfl) 25 rfl)
        go_simp
        exact hK _ _ (fun _ => rfl) (fun h => by cases h) hB (Below.refl _ _)
    · rintro f wz hBz hd hT
      have g26 : f 26 = .bool false := hd 4 26 rfl
      simp only [Reg.mixL, g26]
      have HBz := Lib.hid (B6.out.trans (hBz.mono B6.out.size))
      clear hBz
      go_wp2
      go_ret
      exact ⟨rfl, HBz.out⟩
theorem FnExactValidBody_law (pa ta sa wa : Option Addr) (pl pc tl tc sl sc wl wc : Nat) (cs : List C3) (ts : List (List Int)) (ss : List SC) (zs : List Nat) (fi be fx fy fz : Nat) (w : World) (hp : IsVs w pa pl pc cs) (ht : IsTs w ta tl tc ts) (hs : IsSs w sa sl sc ss) (hw : IsFs .f32 w wa wl wc zs) (hf : fi < 2 ^ FloatKind.f32.format.width ∧ be < 2 ^ FloatKind.f32.format.width ∧ fx < 2 ^ FloatKind.f32.format.width ∧ fy < 2 ^ FloatKind.f32.format.width ∧ fz < 2 ^ FloatKind.f32.format.width) :
    Calls Try.prog 5 #[.agg #[.slice pa pl pc, .slice ta tl tc, .slice sa sl sc, .float .f32 fi, .float .f32 be, .slice wa wl wc, .float .f32 fx, .float .f32 fy, .float .f32 fz]] w fun e w' => e = .returned (.bool true) ∧ Below w.heap.size w w' :=
  validBody_law ⟨pa, ta, sa, wa, pl, pc, tl, tc, sl, sc, wl, wc, fi, be, fx, fy, fz⟩ ⟨cs, ts, ss, zs, cls .f32 fi, cls .f32 be, (cls .f32 fx, cls .f32 fy, cls .f32 fz)⟩ w ⟨hp, ht, hs, hw, FV.self hf.1, FV.self hf.2.1, FV.self hf.2.2.1, FV.self hf.2.2.2.1, FV.self hf.2.2.2.2⟩
end Go.Proofs.Ytcdpehkpifiliaa

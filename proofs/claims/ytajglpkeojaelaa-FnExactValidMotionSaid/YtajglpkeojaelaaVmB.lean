
/-
The law of valid motions returns true: its walk. Conditions: none beyond that the motion lies in memory.
-/
import Derived.Test.YtajglpkeojaelaaVmA
namespace Go.Proofs.Ytajglpkeojaelaa
open Go Fk Go.RowKit
set_option linter.unusedVariables false
set_option maxRecDepth 8000

set_option maxHeartbeats 2000000 in
theorem validMotion_law (B : Bd) (c : Bc) (va : Option Addr) (vl vc : Nat) (vs : List C3) (w : World) (h : IsB w B c) (hv : IsVs w va vl vc vs) :
    Calls Try.prog 5 #[mv B va vl vc] w fun e w' => e = .returned (.bool true) ∧ Below w.heap.size w w' := by
  have ul := Try.underlying57
  have ui := Try.underlying61
  have hA0 : At (w.alloc (BoxM B va vl vc 57)) w.heap.size (ml B va vl vc) := At.new
  have hB0 := (Below.refl w.heap.size w).alloc (Nat.le_refl _) (BoxM B va vl vc 57)
  have H := Lib.hid h
  have HV := Lib.hid hv
  have A0 := Lib.hid hA0
  have B0 := Lib.hid hB0
  clear h hA0 hB0 hv
  go_enter Try.func5, Try.ntmps5
  go_wp2_with fail
  change Calls _ _ _ (w.alloc (BoxM B va vl vc 57)) _
  generalize (w.alloc (BoxM B va vl vc 57)) = W at *
  refine (laws_szMotion B c va vl vc vs 1048576 _ (H.out.below B0.out) (HV.out.below B0.out) (by decide) (by decide)).mono ?_
  rintro e w1 ⟨⟨r, rfl, hr⟩, hB1⟩
  have A1 := Lib.hid (A0.out.below hB1)
  have B1 := Lib.hid (B0.out.trans (hB1.mono B0.out.size))
  clear hB1
  rcases hr with rfl | ⟨hr0, hs, hvl⟩
  · go_wp2
    go_ret
    exact ⟨rfl, B1.out⟩
  · have HS := Lib.hid hs
    clear hs
    have k0 := A1.out 0 _ rfl
    have k1 := A1.out 1 _ rfl
    have k2 := A1.out 2 _ rfl
    have k3 := A1.out 3 _ rfl
    have k4 := A1.out 4 _ rfl
    have k5 := A1.out 5 _ rfl
    have k6 := A1.out 6 _ rfl
    have k7 := A1.out 7 _ rfl
    have k8 := A1.out 8 _ rfl
    have k9 := A1.out 9 _ rfl
    go_wp2_with fail
    clear k0 k1 k2 k3 k4 k5 k6 k7 k8 k9
    refine (laws_toMotionO B c va vl vc vs _ (H.out.below B1.out) HS.out (HV.out.below B1.out) hvl).mono ?_
    rintro e w2 ⟨M, gm, rfl, hM, hMV, _, _, hB2⟩
    clear hMV
    have A2 := Lib.hid (A1.out.below hB2)
    have B2 := Lib.hid (B1.out.trans (hB2.mono B1.out.size))
    have HM := Lib.hid hM
    clear hM hB2
    go_wp2_with fail
    refine (spec_ValidMotion M c _ _ _ _ HM.out).mono ?_
    rintro e w3 ⟨rfl, hB3⟩
    have A3 := Lib.hid (A2.out.below hB3)
    have B3 := Lib.hid (B2.out.trans (hB3.mono B2.out.size))
    clear hB3
    have k0 := A3.out 0 _ rfl
    have k1 := A3.out 1 _ rfl
    have k2 := A3.out 2 _ rfl
    have k3 := A3.out 3 _ rfl
    have k4 := A3.out 4 _ rfl
    have k5 := A3.out 5 _ rfl
    have k6 := A3.out 6 _ rfl
    have k7 := A3.out 7 _ rfl
    have k8 := A3.out 8 _ rfl
    have k9 := A3.out 9 _ rfl
    go_wp2_with fail
    clear k0 k1 k2 k3 k4 k5 k6 k7 k8 k9
    refine (laws_toMotionO B c va vl vc vs _ (H.out.below B3.out) HS.out (HV.out.below B3.out) hvl).mono ?_
    rintro e w4 ⟨X, gx, rfl, hX, hXV, _, _, hB4⟩
    have HXV := Lib.hid hXV
    clear hXV
    have A4 := Lib.hid (A3.out.below hB4)
    have B4 := Lib.hid (B3.out.trans (hB4.mono B3.out.size))
    have HX := Lib.hid hX
    clear hX hB4
    go_wp2_with fail
    change Calls _ _ _ (w4.alloc (BoxM X (some ⟨gx, 0, none⟩) vl vl 61)) _
    have hN := (Below.refl w4.heap.size w4).alloc (Nat.le_refl _) (BoxM X (some ⟨gx, 0, none⟩) vl vl 61)
    have AX : RowKit.Hid (At (w4.alloc (BoxM X (some ⟨gx, 0, none⟩) vl vl 61)) w4.heap.size (ml X (some ⟨gx, 0, none⟩) vl vl)) := Lib.hid At.new
    have A5 := Lib.hid (A4.out.below hN)
    have HX5 := Lib.hid (HX.out.below hN)
    have HXV5 := Lib.hid (HXV.out.below hN)
    have B5 := Lib.hid (B4.out.trans (hN.mono B4.out.size))
    generalize (w4.alloc (BoxM X (some ⟨gx, 0, none⟩) vl vl 61)) = W4 at *
    generalize w4.heap.size = xb at *
    clear hN
    refine (impl_ValidMotion X c _ _ _ vs _ HX5.out HXV5.out).mono ?_
    rintro e w5 ⟨rfl, hB6⟩
    have A6 := Lib.hid (A5.out.below hB6)
    have AX6 := Lib.hid (AX.out.below hB6)
    have HX6 := Lib.hid (HX5.out.below hB6)
    have HXV6 := Lib.hid (HXV5.out.below hB6)
    have B6 := Lib.hid (B5.out.trans (hB6.mono B5.out.size))
    clear hB6
    generalize motB c vl = vb at *
    have hvb : (vb == vb) = true := by cases vb <;> rfl
    go_wp2_with fail
    refine Reg.wp_region_mix (C := fun w' => Below w5.heap.size w5 w') (G := fun w1 w2 => Below w1.heap.size w1 w2) (R := fun i v w' => match i with | 0 => v = mv X (some ⟨gx, 0, none⟩) vl vl | 1 => v = mv B va vl vc | 2 => ∃ (B' : Bd) (g : Nat), v = mv B' (some ⟨g, 0, none⟩) vl vl ∧ IsB w' B' c ∧ IsVs w' (some ⟨g, 0, none⟩) vl vl vs | 3 => v = .bool true | 4 => v = .bool false | _ => True) (T := fun _ _ _ => True) [false, false, false, false, false, false, false, false, false, false, false, false, false, false, false, false, false, false, false, false, false, false, true, true, true, true, true]
      (by kernel_rfl) (by kernel_rfl) (by kernel_rfl) ?_ (below_drewN (Below.refl _ _) 1) ?_ ?_
    · intro j v w1 w2 _ hG hR
      match j with
      | 0 => exact hR
      | 1 => exact hR
      | 2 => obtain ⟨B', g, e, h1, h2⟩ := hR; exact ⟨B', g, e, h1.below hG, h2.below hG⟩
      | 3 => exact hR
      | 4 => exact hR
      | _ + 5 => trivial
    · refine ⟨Reg.Obl.mk ?_, Reg.Obl.mk ?_, Reg.Obl.mk ?_, Reg.Obl.mk ?_, Reg.Obl.mk ?_, trivial⟩
      · rintro a w1 hB hx hd K hK
        have t5 : a.tmps[5]?.getD undef = .pointer (some ⟨xb, 0, none⟩) := Reg.slot_val (hx 5 (by kernel_rfl))
        have y0 := AX6.out.below hB 0 _ rfl
        have y1 := AX6.out.below hB 1 _ rfl
        have y2 := AX6.out.below hB 2 _ rfl
        have y3 := AX6.out.below hB 3 _ rfl
        have y4 := AX6.out.below hB 4 _ rfl
        have y5 := AX6.out.below hB 5 _ rfl
        have y6 := AX6.out.below hB 6 _ rfl
        have y7 := AX6.out.below hB 7 _ rfl
        have y8 := AX6.out.below hB 8 _ rfl
        have y9 := AX6.out.below hB 9 _ rfl
        have HC := Lib.hid hB
        clear hB
        go_simp
        exact hK _ _ (fun _ => rfl) (fun h => by cases h) HC.out (Below.refl _ _)
      · rintro a w1 hB hx hd K hK
        have t1 : a.tmps[1]?.getD undef = .pointer (some ⟨w.heap.size, 0, none⟩) := Reg.slot_val (hx 1 (by kernel_rfl))
        have y0 := A6.out.below hB 0 _ rfl
        have y1 := A6.out.below hB 1 _ rfl
        have y2 := A6.out.below hB 2 _ rfl
        have y3 := A6.out.below hB 3 _ rfl
        have y4 := A6.out.below hB 4 _ rfl
        have y5 := A6.out.below hB 5 _ rfl
        have y6 := A6.out.below hB 6 _ rfl
        have y7 := A6.out.below hB 7 _ rfl
        have y8 := A6.out.below hB 8 _ rfl
        have y9 := A6.out.below hB 9 _ rfl
        have HC := Lib.hid hB
        clear hB
        go_simp
        exact hK _ _ (fun _ => rfl) (fun h => by cases h) HC.out (Below.refl _ _)
      · rintro a w1 hB hx hd K hK
        have t23 : a.tmps[23]?.getD undef = mv B va vl vc := Reg.slot_val (hd 1 (by kernel_rfl) 23 rfl)
        have HC := Lib.hid hB
        clear hB
        go_simp
        refine (laws_toMotionO B c va vl vc vs _ (H.out.below (B6.out.trans (HC.out.mono B6.out.size))) HS.out (HV.out.below (B6.out.trans (HC.out.mono B6.out.size))) hvl).mono ?_
        rintro en w2 ⟨B', g, rfl, hV, hVV, _, _, hB2⟩
        exact hK _ _ (fun _ => ⟨B', g, rfl, hV, hVV⟩) (fun h => by cases h) (HC.out.trans (hB2.mono HC.out.size)) hB2
      · rintro a w1 hB hx hd K hK
        have t22 : a.tmps[22]?.getD undef = mv X (some ⟨gx, 0, none⟩) vl vl := Reg.slot_val (hd 0 (by kernel_rfl) 22 rfl)
        obtain ⟨B', gb, g2, hV, hVV⟩ := hd 2 (by kernel_rfl) 24 rfl
        have t24 := Reg.slot_val g2
        clear g2
        have HVe := Lib.hid (And.intro hV hVV)
        have HC := Lib.hid hB
        clear hV hVV hB
        go_simp
        refine (laws_eqMotion X B' c _ _ _ _ _ vs _ (HX6.out.below HC.out) HVe.out.1 HS.out (HXV6.out.below HC.out) HVe.out.2).mono ?_
        rintro en w2 ⟨rfl, hB2⟩
        exact hK _ _ (fun _ => rfl) (fun h => by cases h) (HC.out.trans (hB2.mono HC.out.size)) hB2
      · rintro a w1 hB hx hd K hK
        have t25 : a.tmps[25]?.getD undef = .bool true := Reg.slot_val (hd 3 (by kernel_rfl) 25 rfl)
        go_simp
        exact hK _ _ (fun _ => rfl) (fun h => by cases h) hB (Below.refl _ _)
    · rintro f wz hBz hd hT
      have g26 : f 26 = .bool false := hd 4 26 rfl
      simp only [Reg.mixL, g26]
      have HBz := Lib.hid (B6.out.trans (hBz.mono B6.out.size))
      clear hBz
      go_wp2
      go_ret
      exact ⟨rfl, HBz.out⟩
theorem FnExactValidMotion_law (pa ta sa wa : Option Addr) (pl pc tl tc sl sc wl wc : Nat) (cs : List C3) (ts : List (List Int)) (ss : List SC) (zs : List Nat) (fi be fx fy fz : Nat) (va : Option Addr) (vl vc : Nat) (vs : List C3) (w : World) (hp : IsVs w pa pl pc cs) (ht : IsTs w ta tl tc ts) (hs : IsSs w sa sl sc ss) (hw : IsFs .f32 w wa wl wc zs) (hf : fi < 2 ^ FloatKind.f32.format.width ∧ be < 2 ^ FloatKind.f32.format.width ∧ fx < 2 ^ FloatKind.f32.format.width ∧ fy < 2 ^ FloatKind.f32.format.width ∧ fz < 2 ^ FloatKind.f32.format.width) (hv : IsVs w va vl vc vs) :
    Calls Try.prog 5 #[.agg #[.slice pa pl pc, .slice ta tl tc, .slice sa sl sc, .float .f32 fi, .float .f32 be, .slice wa wl wc, .float .f32 fx, .float .f32 fy, .float .f32 fz, .slice va vl vc]] w fun e w' => e = .returned (.bool true) ∧ Below w.heap.size w w' :=
  validMotion_law ⟨pa, ta, sa, wa, pl, pc, tl, tc, sl, sc, wl, wc, fi, be, fx, fy, fz⟩ ⟨cs, ts, ss, zs, cls .f32 fi, cls .f32 be, (cls .f32 fx, cls .f32 fy, cls .f32 fz)⟩ va vl vc vs w ⟨hp, ht, hs, hw, FV.self hf.1, FV.self hf.2.1, FV.self hf.2.2.1, FV.self hf.2.2.2.1, FV.self hf.2.2.2.2⟩ hv
end Go.Proofs.Ytajglpkeojaelaa

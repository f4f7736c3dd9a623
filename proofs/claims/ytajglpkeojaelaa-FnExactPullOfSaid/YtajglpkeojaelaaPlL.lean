
/-
The law of pulls returns true: its walk. Conditions: none beyond that the body lies in memory.
-/
import Derived.Test.YtajglpkeojaelaaPlC
namespace Go.Proofs.Ytajglpkeojaelaa
open Go Fk Go.RowKit
set_option linter.unusedVariables false
set_option maxRecDepth 8000

set_option maxHeartbeats 2000000 in
theorem pullOf_law (B : Bd) (c : Bc) (i : Int) (w : World) (h : IsB w B c) :
    Calls Try.prog 11 #[B.v, .int .i64 i] w fun e w' => e = .returned (.bool true) ∧ Below w.heap.size w w' := by
  have ul := Try.underlying32
  have ui := Try.underlying42
  have uv := Try.underlying40
  have hA0 : At (w.alloc (BoxB B 32)) w.heap.size B.l := At.new
  have hB0 := (Below.refl w.heap.size w).alloc (Nat.le_refl _) (BoxB B 32)
  have H := Lib.hid h
  have A0 := Lib.hid hA0
  have B0 := Lib.hid hB0
  clear h hA0 hB0
  go_enter Try.func11, Try.ntmps11
  go_wp2_with fail
  change Calls _ _ _ (w.alloc (BoxB B 32)) _
  generalize (w.alloc (BoxB B 32)) = W at *
  refine (laws_szBody B c 1048576 _ (H.out.below B0.out) (by decide) (by decide)).mono ?_
  rintro e w1 ⟨⟨r, rfl, hr⟩, hB1⟩
  have A1 := Lib.hid (A0.out.below hB1)
  have B1 := Lib.hid (B0.out.trans (hB1.mono B0.out.size))
  clear hB1
  rcases hr with rfl | ⟨hr0, hs⟩
  · go_wp2
    go_ret
    exact ⟨rfl, B1.out⟩
  · have HS := Lib.hid hs
    clear hs
    have k0 := A1.out 0 _ rfl
    have k1 := A1.out 1 _ rfl
    have k2 := A1.out 2 _ rfl
    have k3 := A1.out 3 _ rfl
    have k4 := A1.out 4 _ rfl
    have k5 := A1.out 5 _ rfl
    have k6 := A1.out 6 _ rfl
    have k7 := A1.out 7 _ rfl
    have k8 := A1.out 8 _ rfl
    go_wp2_with fail
    clear k0 k1 k2 k3 k4 k5 k6 k7 k8
    refine (laws_toBody B c _ (H.out.below B1.out) HS.out).mono ?_
    rintro e w2 ⟨M, rfl, hM, hB2⟩
    have A2 := Lib.hid (A1.out.below hB2)
    have B2 := Lib.hid (B1.out.trans (hB2.mono B1.out.size))
    have HM := Lib.hid hM
    clear hM hB2
    go_wp2_with fail
    refine (spec_PullOf M c i _ HM.out).mono ?_
    rintro e w3 ⟨sx, sy, sz, rfl, hF, hB3⟩
    have A3' := Lib.hid (A2.out.below hB3)
    have B3' := Lib.hid (B2.out.trans (hB3.mono B2.out.size))
    have HF := Lib.hid hF
    clear hB3 hF
    have A3 := Lib.hid (A3'.out.alloc (o := (.cells #[.float .f32 sx, .float .f32 sy, .float .f32 sz] 40)))
    have B3 := Lib.hid (below_new (o := (.cells #[.float .f32 sx, .float .f32 sy, .float .f32 sz] 40)) B3'.out (Nat.le_refl _))
    have V3' : RowKit.Hid (V3 (w3.alloc (.cells #[.float .f32 sx, .float .f32 sy, .float .f32 sz] 40)) w3.heap.size sx sy sz) := Lib.hid V3.new
    have k0' := A3'.out 0 _ rfl
    have k0 := fun ob => cell_alloc (o := ob) k0'
    have k1' := A3'.out 1 _ rfl
    have k1 := fun ob => cell_alloc (o := ob) k1'
    have k2' := A3'.out 2 _ rfl
    have k2 := fun ob => cell_alloc (o := ob) k2'
    have k3' := A3'.out 3 _ rfl
    have k3 := fun ob => cell_alloc (o := ob) k3'
    have k4' := A3'.out 4 _ rfl
    have k4 := fun ob => cell_alloc (o := ob) k4'
    have k5' := A3'.out 5 _ rfl
    have k5 := fun ob => cell_alloc (o := ob) k5'
    have k6' := A3'.out 6 _ rfl
    have k6 := fun ob => cell_alloc (o := ob) k6'
    have k7' := A3'.out 7 _ rfl
    have k7 := fun ob => cell_alloc (o := ob) k7'
    have k8' := A3'.out 8 _ rfl
    have k8 := fun ob => cell_alloc (o := ob) k8'
    clear k0' k1' k2' k3' k4' k5' k6' k7' k8'
    go_wp2_with fail
    clear k0 k1 k2 k3 k4 k5 k6 k7 k8
    generalize (w3.alloc (.cells #[.float .f32 sx, .float .f32 sy, .float .f32 sz] 40)) = W3 at *
    generalize w3.heap.size = sb at *
    refine (laws_toBody B c _ (H.out.below B3.out) HS.out).mono ?_
    rintro e w4 ⟨X, rfl, hX, hB4⟩
    have A4 := Lib.hid (A3.out.below hB4)
    have B4 := Lib.hid (B3.out.trans (hB4.mono B3.out.size))
    have V4 := Lib.hid (V3'.out.below hB4)
    have HX := Lib.hid hX
    clear hX hB4
    go_wp2_with fail
    change Calls _ _ _ (w4.alloc (BoxB X 42)) _
    have hN := (Below.refl w4.heap.size w4).alloc (Nat.le_refl _) (BoxB X 42)
    have AX : RowKit.Hid (At (w4.alloc (BoxB X 42)) w4.heap.size X.l) := Lib.hid At.new
    have A5 := Lib.hid (A4.out.below hN)
    have V5 := Lib.hid (V4.out.below hN)
    have HX5 := Lib.hid (HX.out.below hN)
    have B5 := Lib.hid (B4.out.trans (hN.mono B4.out.size))
    generalize (w4.alloc (BoxB X 42)) = W4 at *
    generalize w4.heap.size = xb at *
    clear hN
    refine (impl_PullOf X c i _ HX5.out).mono ?_
    rintro e w5 ⟨gx, gy, gz, rfl, hG, hB6⟩
    have A6 := Lib.hid (A5.out.below hB6)
    have AX6 := Lib.hid (AX.out.below hB6)
    have HX6 := Lib.hid (HX5.out.below hB6)
    have V6 := Lib.hid (V5.out.below hB6)
    have B6 := Lib.hid (B5.out.trans (hB6.mono B5.out.size))
    have HG := Lib.hid hG
    clear hB6 hG
    have hN := (Below.refl w5.heap.size w5).alloc (Nat.le_refl _) (.cells #[.float .f32 gx, .float .f32 gy, .float .f32 gz] 40)
    obtain ⟨⟨v0, v1, v2⟩, -⟩ := V6.out
    have lv0 := fun ob => cell_alloc (o := ob) v0
    have lv1 := fun ob => cell_alloc (o := ob) v1
    have lv2 := fun ob => cell_alloc (o := ob) v2
    have HN := Lib.hid hN
    clear hN v0 v1 v2
    generalize pullOk c i = vb at *
    have hvb : (vb == vb) = true := by cases vb <;> rfl
    have hvb' : (vb != vb) = false := by cases vb <;> rfl
    go_wp2_with fail
    clear lv0 lv1 lv2
    have A7 := Lib.hid (A6.out.below HN.out)
    have AX7 := Lib.hid (AX6.out.below HN.out)
    have HX7 := Lib.hid (HX6.out.below HN.out)
    have B7 := Lib.hid (B6.out.trans (HN.out.mono B6.out.size))
    clear HN
    generalize (w5.alloc (.cells #[.float .f32 gx, .float .f32 gy, .float .f32 gz] 40)) = W5 at *
    refine (laws_eqVector _ _ _ _ _ _ _ _ _ _ HG.out.1 HG.out.2.1 HG.out.2.2 HF.out.1 HF.out.2.1 HF.out.2.2).mono ?_
    rintro e w8 ⟨rfl, hB8⟩
    have A8 := Lib.hid (A7.out.below hB8)
    have AX8 := Lib.hid (AX7.out.below hB8)
    have HX8 := Lib.hid (HX7.out.below hB8)
    have B8 := Lib.hid (B7.out.trans (hB8.mono B7.out.size))
    clear hB8
    go_wp2_with fail
    refine Reg.wp_region_mix (C := fun w' => Below w8.heap.size w8 w') (G := fun w1 w2 => Below w1.heap.size w1 w2) (R := fun i v w' => match i with | 0 => v = X.v | 1 => v = B.v | 2 => ∃ B' : Bd, v = B'.v ∧ IsB w' B' c | 3 => v = .bool true | 4 => v = .bool false | _ => True) (T := fun _ _ _ => True) [false, false, false, false, false, false, false, false, false, false, false, false, false, false, false, false, false, false, false, false, false, false, false, false, false, false, false, false, false, false, false, false, false, false, false, false, false, false, false, false, true, true, true, true, true]
      (by kernel_rfl) (by kernel_rfl) (by kernel_rfl) ?_ (below_drewN (Below.refl _ _) 1) ?_ ?_
    · intro j v w1 w2 _ hG hR
      match j with
      | 0 => exact hR
      | 1 => exact hR
      | 2 => obtain ⟨B', e, h1⟩ := hR; exact ⟨B', e, h1.below hG⟩
      | 3 => exact hR
      | 4 => exact hR
      | _ + 5 => trivial
    · refine ⟨Reg.Obl.mk ?_, Reg.Obl.mk ?_, Reg.Obl.mk ?_, Reg.Obl.mk ?_, Reg.Obl.mk ?_, trivial⟩
      · rintro a w1 hB hx hd K hK
        have t8 : a.tmps[8]?.getD undef = .pointer (some ⟨xb, 0, none⟩) := Reg.slot_val (hx 8 (by kernel_rfl))
        have y0 := AX8.out.below hB 0 _ rfl
        have y1 := AX8.out.below hB 1 _ rfl
        have y2 := AX8.out.below hB 2 _ rfl
        have y3 := AX8.out.below hB 3 _ rfl
        have y4 := AX8.out.below hB 4 _ rfl
        have y5 := AX8.out.below hB 5 _ rfl
        have y6 := AX8.out.below hB 6 _ rfl
        have y7 := AX8.out.below hB 7 _ rfl
        have y8 := AX8.out.below hB 8 _ rfl
        have HC := Lib.hid hB
        clear hB
        go_simp
        exact hK _ _ (fun _ => rfl) (fun h => by cases h) HC.out (Below.refl _ _)
      · rintro a w1 hB hx hd K hK
        have t2 : a.tmps[2]?.getD undef = .pointer (some ⟨w.heap.size, 0, none⟩) := Reg.slot_val (hx 2 (by kernel_rfl))
        have y0 := A8.out.below hB 0 _ rfl
        have y1 := A8.out.below hB 1 _ rfl
        have y2 := A8.out.below hB 2 _ rfl
        have y3 := A8.out.below hB 3 _ rfl
        have y4 := A8.out.below hB 4 _ rfl
        have y5 := A8.out.below hB 5 _ rfl
        have y6 := A8.out.below hB 6 _ rfl
        have y7 := A8.out.below hB 7 _ rfl
        have y8 := A8.out.below hB 8 _ rfl
        have HC := Lib.hid hB
        clear hB
        go_simp
        exact hK _ _ (fun _ => rfl) (fun h => by cases h) HC.out (Below.refl _ _)
      · rintro a w1 hB hx hd K hK
        have t41 : a.tmps[41]?.getD undef = B.v := Reg.slot_val (hd 1 (by kernel_rfl) 41 rfl)
        have HC := Lib.hid hB
        clear hB
        go_simp
        refine (laws_toBody B c _ (H.out.below (B8.out.trans (HC.out.mono B8.out.size))) HS.out).mono ?_
        rintro en w2 ⟨B', rfl, hV, hB2⟩
        exact hK _ _ (fun _ => ⟨B', rfl, hV⟩) (fun h => by cases h) (HC.out.trans (hB2.mono HC.out.size)) hB2
      · rintro a w1 hB hx hd K hK
        have t40 : a.tmps[40]?.getD undef = X.v := Reg.slot_val (hd 0 (by kernel_rfl) 40 rfl)
        obtain ⟨B', g2, hV⟩ := hd 2 (by kernel_rfl) 42 rfl
        have t42 := Reg.slot_val g2
        clear g2
        have HVe := Lib.hid hV
        have HC := Lib.hid hB
        clear hV hB
        go_simp
        refine (laws_eqBody X B' c _ (HX8.out.below HC.out) HVe.out HS.out).mono ?_
        rintro en w2 ⟨rfl, hB2⟩
        exact hK _ _ (fun _ => rfl) (fun h => by cases h) (HC.out.trans (hB2.mono HC.out.size)) hB2
      · rintro a w1 hB hx hd K hK
        have t43 : a.tmps[43]?.getD undef = .bool true := Reg.slot_val (hd 3 (by kernel_rfl) 43 rfl)
        go_simp
        exact hK _ _ (fun _ => rfl) (fun h => by cases h) hB (Below.refl _ _)
    · rintro f wz hBz hd hT
      have g44 : f 44 = .bool false := hd 4 44 rfl
      simp only [Reg.mixL, g44]
      have HBz := Lib.hid (B8.out.trans (hBz.mono B8.out.size))
      clear hBz
      go_wp2
      go_ret
      exact ⟨rfl, HBz.out⟩
theorem FnExactPullOf_law (pa ta sa wa : Option Addr) (pl pc tl tc sl sc wl wc : Nat) (cs : List C3) (ts : List (List Int)) (ss : List SC) (zs : List Nat) (fi be fx fy fz : Nat) (i : Int) (w : World) (hp : IsVs w pa pl pc cs) (ht : IsTs w ta tl tc ts) (hs : IsSs w sa sl sc ss) (hw : IsFs .f32 w wa wl wc zs) (hf : fi < 2 ^ FloatKind.f32.format.width ∧ be < 2 ^ FloatKind.f32.format.width ∧ fx < 2 ^ FloatKind.f32.format.width ∧ fy < 2 ^ FloatKind.f32.format.width ∧ fz < 2 ^ FloatKind.f32.format.width) (hi : (Lit.int .i64 i).wf = true) :
    Calls Try.prog 11 #[.agg #[.slice pa pl pc, .slice ta tl tc, .slice sa sl sc, .float .f32 fi, .float .f32 be, .slice wa wl wc, .float .f32 fx, .float .f32 fy, .float .f32 fz], .int .i64 i] w fun e w' => e = .returned (.bool true) ∧ Below w.heap.size w w' :=
  pullOf_law ⟨pa, ta, sa, wa, pl, pc, tl, tc, sl, sc, wl, wc, fi, be, fx, fy, fz⟩ ⟨cs, ts, ss, zs, cls .f32 fi, cls .f32 be, (cls .f32 fx, cls .f32 fy, cls .f32 fz)⟩ i w ⟨hp, ht, hs, hw, FV.self hf.1, FV.self hf.2.1, FV.self hf.2.2.1, FV.self hf.2.2.2.1, FV.self hf.2.2.2.2⟩
end Go.Proofs.Ytajglpkeojaelaa

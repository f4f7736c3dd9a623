
/-
The law of held places returns true: its walk. Conditions: none beyond that both lie in memory.
-/
import Derived.Test.YtajglpkeojaelaaIhA
import Derived.Test.YtajglpkeojaelaaMshO
namespace Go.Proofs.Ytajglpkeojaelaa
open Go Fk Go.RowKit
set_option linter.unusedVariables false
set_option maxRecDepth 8000

set_option maxHeartbeats 2000000 in
theorem isHeld_law (B : Bd) (c : Bc) (a : Option Addr) (len cap : Nat) (L : List Int) (w : World) (h : IsB w B c) (hL : IsIs w a len cap L) :
    Calls Try.prog 3 #[B.v, .slice a len cap] w fun e w' => e = .returned (.bool true) ∧ Below w.heap.size w w' := by
  have ul := Try.underlying32
  have ui := Try.underlying42
  have hA0 : At (w.alloc (BoxB B 32)) w.heap.size B.l := At.new
  have hB0 := (Below.refl w.heap.size w).alloc (Nat.le_refl _) (BoxB B 32)
  have H := Lib.hid h
  have HL := Lib.hid hL
  have hlm : len ≤ 9223372036854775807 := by have h1 := hL.2.1; have h2 := hL.2.2.1; unfold maxLen at h2; omega
  have A0 := Lib.hid hA0
  have B0 := Lib.hid hB0
  clear h hA0 hB0 hL
  by_cases hlen : len ≤ 1048576
  case neg =>
    have hgt : (1048576 : Int) < (len : Int) := by omega
    go_enter Try.func3, Try.ntmps3
    go_wp2
    go_ret
    exact ⟨rfl, B0.out⟩
  have hngt : ¬ (1048576 : Int) < (len : Int) := by omega
  go_enter Try.func3, Try.ntmps3
  go_wp2_with fail
  change Calls _ _ _ (w.alloc (BoxB B 32)) _
  generalize (w.alloc (BoxB B 32)) = W at *
  refine (laws_szBody B c 1048576 _ (H.out.below B0.out) (by decide) (by decide)).mono ?_
  rintro e w1 ⟨⟨r, rfl, hr⟩, hB1⟩
  have A1 := Lib.hid (A0.out.below hB1)
  have B1 := Lib.hid (B0.out.trans (hB1.mono B0.out.size))
  clear hB1
  rcases hr with rfl | ⟨hr0, hs⟩
  · go_wp2
    go_ret
    exact ⟨rfl, B1.out⟩
  · have HS := Lib.hid hs
    clear hs
    have k0 := A1.out 0 _ rfl
    have k1 := A1.out 1 _ rfl
    have k2 := A1.out 2 _ rfl
    have k3 := A1.out 3 _ rfl
    have k4 := A1.out 4 _ rfl
    have k5 := A1.out 5 _ rfl
    have k6 := A1.out 6 _ rfl
    have k7 := A1.out 7 _ rfl
    have k8 := A1.out 8 _ rfl
    go_wp2_with fail
    clear k0 k1 k2 k3 k4 k5 k6 k7 k8
    refine (laws_toBody B c _ (H.out.below B1.out) HS.out).mono ?_
    rintro e w2 ⟨M, rfl, hM, hB2⟩
    have A2 := Lib.hid (A1.out.below hB2)
    have B2 := Lib.hid (B1.out.trans (hB2.mono B1.out.size))
    have HM := Lib.hid hM
    clear hM hB2
    go_wp2_with fail
    refine (laws_toInt64S _ _ _ _ _ (HL.out.below B2.out) hlen).mono ?_
    rintro e w2' ⟨rfl, hI, hB2', _⟩
    have A2 := Lib.hid (A2.out.below hB2')
    have HM := Lib.hid (HM.out.below hB2')
    have B2 := Lib.hid (B2.out.trans (hB2'.mono B2.out.size))
    have HI2 := Lib.hid hI
    clear hI hB2'
    generalize w2.heap.size = y2 at *
    go_wp2_with fail
    refine (spec_IsHeld M c _ _ _ L _ HM.out HI2.out).mono ?_
    rintro e w3 ⟨rfl, hB3⟩
    have A3 := Lib.hid (A2.out.below hB3)
    have B3 := Lib.hid (B2.out.trans (hB3.mono B2.out.size))
    clear hB3
    have k0 := A3.out 0 _ rfl
    have k1 := A3.out 1 _ rfl
    have k2 := A3.out 2 _ rfl
    have k3 := A3.out 3 _ rfl
    have k4 := A3.out 4 _ rfl
    have k5 := A3.out 5 _ rfl
    have k6 := A3.out 6 _ rfl
    have k7 := A3.out 7 _ rfl
    have k8 := A3.out 8 _ rfl
    go_wp2_with fail
    clear k0 k1 k2 k3 k4 k5 k6 k7 k8
    refine (laws_toBody B c _ (H.out.below B3.out) HS.out).mono ?_
    rintro e w4 ⟨X, rfl, hX, hB4⟩
    have A4 := Lib.hid (A3.out.below hB4)
    have B4 := Lib.hid (B3.out.trans (hB4.mono B3.out.size))
    have HX := Lib.hid hX
    clear hX hB4
    go_wp2_with fail
    change Calls _ _ _ (w4.alloc (BoxB X 42)) _
    have hN := (Below.refl w4.heap.size w4).alloc (Nat.le_refl _) (BoxB X 42)
    have AX : RowKit.Hid (At (w4.alloc (BoxB X 42)) w4.heap.size X.l) := Lib.hid At.new
    have A5 := Lib.hid (A4.out.below hN)
    have HX5 := Lib.hid (HX.out.below hN)
    have B5 := Lib.hid (B4.out.trans (hN.mono B4.out.size))
    generalize (w4.alloc (BoxB X 42)) = W4 at *
    generalize w4.heap.size = xb at *
    clear hN
    refine (laws_toInt64S _ _ _ _ _ (HL.out.below B5.out) hlen).mono ?_
    rintro e w4' ⟨rfl, hI, hB5', _⟩
    have A5 := Lib.hid (A5.out.below hB5')
    have AX := Lib.hid (AX.out.below hB5')
    have HX5 := Lib.hid (HX5.out.below hB5')
    have B5 := Lib.hid (B5.out.trans (hB5'.mono B5.out.size))
    have HI5 := Lib.hid hI
    clear hI hB5'
    generalize W4.heap.size = yi at *
    have x0 := AX.out 0 _ rfl
    have x1 := AX.out 1 _ rfl
    have x2 := AX.out 2 _ rfl
    have x3 := AX.out 3 _ rfl
    have x4 := AX.out 4 _ rfl
    have x5 := AX.out 5 _ rfl
    have x6 := AX.out 6 _ rfl
    have x7 := AX.out 7 _ rfl
    have x8 := AX.out 8 _ rfl
    go_wp2_with fail
    clear x0 x1 x2 x3 x4 x5 x6 x7 x8
    refine (impl_IsHeld X c _ _ _ L _ HX5.out HI5.out).mono ?_
    rintro e w5 ⟨rfl, hB6⟩
    have HI6 := Lib.hid (HI5.out.below hB6)
    have A6 := Lib.hid (A5.out.below hB6)
    have AX6 := Lib.hid (AX.out.below hB6)
    have HX6 := Lib.hid (HX5.out.below hB6)
    have B6 := Lib.hid (B5.out.trans (hB6.mono B5.out.size))
    clear hB6
    generalize heldB c L = vb at *
    have hvb : (vb == vb) = true := by cases vb <;> rfl
    go_wp2_with fail
    refine Reg.wp_region_mix (C := fun w' => Below w5.heap.size w5 w') (G := fun w1 w2 => Below w1.heap.size w1 w2) (R := fun i v w' => match i with | 0 => v = X.v | 1 => v = B.v | 2 => ∃ B' : Bd, v = B'.v ∧ IsB w' B' c | 3 => v = .bool true | 4 => v = .bool false | _ => True) (T := fun _ _ _ => True) [false, false, false, false, false, false, false, false, false, false, false, false, false, false, false, false, false, false, false, false, false, false, false, false, false, false, false, false, false, false, false, false, false, true, true, true, true, true, false, false, false, false, false]
      (by kernel_rfl) (by kernel_rfl) (by kernel_rfl) ?_ (below_drewN (Below.refl _ _) 1) ?_ ?_
    · intro j v w1 w2 _ hG hR
      match j with
      | 0 => exact hR
      | 1 => exact hR
      | 2 => obtain ⟨B', e, h1⟩ := hR; exact ⟨B', e, h1.below hG⟩
      | 3 => exact hR
      | 4 => exact hR
      | _ + 5 => trivial
    · refine ⟨Reg.Obl.mk ?_, Reg.Obl.mk ?_, Reg.Obl.mk ?_, Reg.Obl.mk ?_, Reg.Obl.mk ?_, trivial⟩
      · rintro a w1 hB hx hd K hK
        have t7 : a.tmps[7]?.getD undef = .pointer (some ⟨xb, 0, none⟩) := Reg.slot_val (hx 7 (by kernel_rfl))
        have y0 := AX6.out.below hB 0 _ rfl
        have y1 := AX6.out.below hB 1 _ rfl
        have y2 := AX6.out.below hB 2 _ rfl
        have y3 := AX6.out.below hB 3 _ rfl
        have y4 := AX6.out.below hB 4 _ rfl
        have y5 := AX6.out.below hB 5 _ rfl
        have y6 := AX6.out.below hB 6 _ rfl
        have y7 := AX6.out.below hB 7 _ rfl
        have y8 := AX6.out.below hB 8 _ rfl
        have HC := Lib.hid hB
        clear hB
        go_simp
        exact hK _ _ (fun _ => rfl) (fun h => by cases h) HC.out (Below.refl _ _)
      · rintro a w1 hB hx hd K hK
        have t2 : a.tmps[2]?.getD undef = .pointer (some ⟨w.heap.size, 0, none⟩) := Reg.slot_val (hx 2 (by kernel_rfl))
        have y0 := A6.out.below hB 0 _ rfl
        have y1 := A6.out.below hB 1 _ rfl
        have y2 := A6.out.below hB 2 _ rfl
        have y3 := A6.out.below hB 3 _ rfl
        have y4 := A6.out.below hB 4 _ rfl
        have y5 := A6.out.below hB 5 _ rfl
        have y6 := A6.out.below hB 6 _ rfl
        have y7 := A6.out.below hB 7 _ rfl
        have y8 := A6.out.below hB 8 _ rfl
        have HC := Lib.hid hB
        clear hB
        go_simp
        exact hK _ _ (fun _ => rfl) (fun h => by cases h) HC.out (Below.refl _ _)
      · rintro a w1 hB hx hd K hK
        have t34 : a.tmps[34]?.getD undef = B.v := Reg.slot_val (hd 1 (by kernel_rfl) 34 rfl)
        have HC := Lib.hid hB
        clear hB
        go_simp
        refine (laws_toBody B c _ (H.out.below (B6.out.trans (HC.out.mono B6.out.size))) HS.out).mono ?_
        rintro en w2 ⟨B', rfl, hV, hB2⟩
        exact hK _ _ (fun _ => ⟨B', rfl, hV⟩) (fun h => by cases h) (HC.out.trans (hB2.mono HC.out.size)) hB2
      · rintro a w1 hB hx hd K hK
        have t33 : a.tmps[33]?.getD undef = X.v := Reg.slot_val (hd 0 (by kernel_rfl) 33 rfl)
        obtain ⟨B', g2, hV⟩ := hd 2 (by kernel_rfl) 35 rfl
        have t35 := Reg.slot_val g2
        clear g2
        have HVe := Lib.hid hV
        have HC := Lib.hid hB
        clear hV hB
        go_simp
        refine (laws_eqBody X B' c _ (HX6.out.below HC.out) HVe.out HS.out).mono ?_
        rintro en w2 ⟨rfl, hB2⟩
        exact hK _ _ (fun _ => rfl) (fun h => by cases h) (HC.out.trans (hB2.mono HC.out.size)) hB2
      · rintro a w1 hB hx hd K hK
        have t36 : a.tmps[36]?.getD undef = .bool true := Reg.slot_val (hd 3 (by kernel_rfl) 36 rfl)
        go_simp
        exact hK _ _ (fun _ => rfl) (fun h => by cases h) hB (Below.refl _ _)
    · rintro f wz hBz hd hT
      have g37 : f 37 = .bool false := hd 4 37 rfl
      simp only [Reg.mixL, g37]
      have HBz := Lib.hid (B6.out.trans (hBz.mono B6.out.size))
      have HIz := Lib.hid (HI6.out.below hBz)
      clear hBz hd hT
      go_wp2_with fail
      refine (laws_toInt64S _ _ _ _ _ (HL.out.below HBz.out) hlen).mono ?_
      rintro e w8 ⟨rfl, hI, hB8, _⟩
      have HI8 := Lib.hid (HIz.out.below hB8)
      have HJ8 := Lib.hid hI
      have B8 := Lib.hid (HBz.out.trans (hB8.mono HBz.out.size))
      clear hI hB8
      go_wp2_with fail
      refine (laws_eqInt64S _ _ _ _ _ L _ HI8.out HJ8.out).mono ?_
      rintro e w9 ⟨rfl, n9, hw9⟩
      have B9 : RowKit.Hid (Below w.heap.size w w9) := Lib.hid (by rw [hw9]; exact below_drewN B8.out _)
      clear hw9
      go_wp2
      go_ret
      exact ⟨rfl, B9.out⟩
theorem FnExactIsHeld_law (pa ta sa wa : Option Addr) (pl pc tl tc sl sc wl wc : Nat) (cs : List C3) (ts : List (List Int)) (ss : List SC) (zs : List Nat) (fi be fx fy fz : Nat) (a : Option Addr) (len cap : Nat) (L : List Int) (w : World) (hp : IsVs w pa pl pc cs) (ht : IsTs w ta tl tc ts) (hs : IsSs w sa sl sc ss) (hw : IsFs .f32 w wa wl wc zs) (hf : fi < 2 ^ FloatKind.f32.format.width ∧ be < 2 ^ FloatKind.f32.format.width ∧ fx < 2 ^ FloatKind.f32.format.width ∧ fy < 2 ^ FloatKind.f32.format.width ∧ fz < 2 ^ FloatKind.f32.format.width) (hL : IsIs w a len cap L) :
    Calls Try.prog 3 #[.agg #[.slice pa pl pc, .slice ta tl tc, .slice sa sl sc, .float .f32 fi, .float .f32 be, .slice wa wl wc, .float .f32 fx, .float .f32 fy, .float .f32 fz], .slice a len cap] w fun e w' => e = .returned (.bool true) ∧ Below w.heap.size w w' :=
  isHeld_law ⟨pa, ta, sa, wa, pl, pc, tl, tc, sl, sc, wl, wc, fi, be, fx, fy, fz⟩ ⟨cs, ts, ss, zs, cls .f32 fi, cls .f32 be, (cls .f32 fx, cls .f32 fy, cls .f32 fz)⟩ a len cap L w ⟨hp, ht, hs, hw, FV.self hf.1, FV.self hf.2.1, FV.self hf.2.2.1, FV.self hf.2.2.2.1, FV.self hf.2.2.2.2⟩ hL
end Go.Proofs.Ytajglpkeojaelaa

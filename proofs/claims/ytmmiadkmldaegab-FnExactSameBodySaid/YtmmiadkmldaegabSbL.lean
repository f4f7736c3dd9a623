
/-
Whether two bodies are the same: what the model returns, and the law's walk. Conditions: none beyond that the bodies lie in memory.
-/
import Derived.Test.YtmmiadkmldaegabSbF
namespace Go.Proofs.Ytmmiadkmldaegab
open Go Fk Go.RowKit
set_option linter.unusedVariables false
set_option maxRecDepth 8000
theorem sameSs_len {ss tt : List SC} (h : ss.length ≠ tt.length) : sameSs ss tt = false := sameL_len h
theorem l03Same (pa pb : Nat) (B B' : Bd) (c c' : Bc) (w : World) (a0 : At w pa B.l) (a1 : At w pb B'.l) (h : IsB w B c) (h' : IsB w B' c') :
    Calls Try.prog 39 #[.pointer (some ⟨pa, 0, none⟩), .pointer (some ⟨pb, 0, none⟩)] w fun e w' => e = .returned (.bool (sameBd c c')) ∧ Below w.heap.size w w' := by
  have e0 : sameBd c c' = (bd1 c c' && sameFs c.zs c'.zs && (sameSs c.ss c'.ss && lastB c c')) := by
    unfold sameBd lastB
    cases bd1 c c' <;> cases sameSs c.ss c'.ss <;> cases sameFs c.zs c'.zs <;> simp
  rw [e0]
  cases hb : bd1 c c'
  · exact l03Same_1 pa pb B B' c c' w a0 a1 h h' hb
  · by_cases hl : B.sl = B'.sl
    · cases h5 : sameFs c.zs c'.zs
      · exact l03Same_3 pa pb B B' c c' w a0 a1 h h' hb hl h5
      · exact l03Same_4 pa pb B B' c c' w a0 a1 h h' hb hl h5
    · rw [sameSs_len (by rw [h.2.2.1.1, h'.2.2.1.1]; exact hl), Bool.false_and, Bool.and_false]
      exact l03Same_2 pa pb B B' c c' w a0 a1 h h' hb hl
theorem spec_SameBody (B B' : Bd) (c c' : Bc) (w : World) (h : IsB w B c) (h' : IsB w B' c') :
    Calls Try.prog 9 #[B.v, B'.v] w fun e w' => e = .returned (.bool (sameBd c c')) ∧ Below w.heap.size w w' := by
  have ui := Try.underlying41
  have hA0 : At ((w.alloc (BoxB B 41)).alloc (BoxB B' 41)) w.heap.size B.l := At.new.alloc
  have hA1 : At ((w.alloc (BoxB B 41)).alloc (BoxB B' 41)) (w.heap.size + 1) B'.l := by
    have := At.new (w := w.alloc (BoxB B 41)) (vs := B'.l) (t := 41)
    simpa using this
  have hB0 := ((Below.refl w.heap.size w).alloc (Nat.le_refl _) (BoxB B 41)).alloc (by simp) (BoxB B' 41)
  have HJ := Lib.hid (l03Same w.heap.size (w.heap.size + 1) B B' c c' _ hA0 hA1 (h.below hB0) (h'.below hB0))
  have HB0 := Lib.hid hB0
  clear h h' hB0 hA0 hA1
  generalize sameBd c c' = v at *
  go_enter Try.func9, Try.ntmps9
  go_wp2_with fail
  refine HJ.out.mono ?_
  rintro e w1 ⟨rfl, hB1⟩
  have HB1 := Lib.hid (HB0.out.trans (hB1.mono HB0.out.size))
  clear hB1
  go_wp2
  go_ret
  exact ⟨rfl, HB1.out⟩
theorem laws_szBody2 (B : Bd) (c : Bc) (left : Int) (w : World) (h : IsB w B c) (h0 : 0 ≤ left) (h1 : left ≤ 1048576) :
    Calls Try.prog 8 #[B.v, .int .i64 left] w fun e w' => (∃ r : Int, e = .returned (.int .i64 r) ∧ (r = -1 ∨ (0 ≤ r ∧ r ≤ 1048576 ∧ SmallB c))) ∧ Below w.heap.size w w' := by
  have ul := Try.underlying32
  have um := Try.underlying25
  have hA0 : At (w.alloc (.cells #[.slice B.pa B.pl B.pc, .slice B.ta B.tl B.tc, .slice B.sa B.sl B.sc, .float .f32 B.film, .float .f32 B.bend, .slice B.wa B.wl B.wc, .float .f32 B.x, .float .f32 B.y, .float .f32 B.z] 32)) w.heap.size B.l := At.new
  have hB0 := (Below.refl w.heap.size w).alloc (Nat.le_refl _) (.cells #[.slice B.pa B.pl B.pc, .slice B.ta B.tl B.tc, .slice B.sa B.sl B.sc, .float .f32 B.film, .float .f32 B.bend, .slice B.wa B.wl B.wc, .float .f32 B.x, .float .f32 B.y, .float .f32 B.z] 32)
  have H0 := Lib.hid (h.below hB0)
  have hsm : B.sl ≤ 9223372036854775807 := by have h1 := h.2.2.1.2.1; have h2 := h.2.2.1.2.2.1; unfold maxLen at h2; omega
  have hwm : B.wl ≤ 9223372036854775807 := by have h1 := h.2.2.2.1.2.1; have h2 := h.2.2.2.1.2.2.1; unfold maxLen at h2; omega
  have L := Lib.hid (And.intro h.1.1 (And.intro h.2.1.1 (And.intro h.2.2.1.1 h.2.2.2.1.1)))
  have HA0 := Lib.hid hA0
  have HB0 := Lib.hid hB0
  clear hA0 hB0 h
  go_enter Try.func8, Try.ntmps8
  go_wp2_with fail
  generalize (w.alloc (.cells #[.slice B.pa B.pl B.pc, .slice B.ta B.tl B.tc, .slice B.sa B.sl B.sc, .float .f32 B.film, .float .f32 B.bend, .slice B.wa B.wl B.wc, .float .f32 B.x, .float .f32 B.y, .float .f32 B.z] 32)) = W at *
  refine (laws_szMesh' _ _ _ _ _ _ _ _ _ _ H0.out.1 H0.out.2.1 h0 h1).mono ?_
  rintro e w1 ⟨⟨r, rfl, hr⟩, hB1⟩
  have hA1 := HA0.out.below hB1
  have k2 := hA1 2 _ rfl
  have k5 := hA1 5 _ rfl
  have HB1 := Lib.hid (HB0.out.trans (hB1.mono HB0.out.size))
  clear hA1 hB1
  rcases hr with rfl | ⟨r0, r1, s1, s2, s3⟩
  · go_wp2
    go_ret
    exact ⟨⟨-1, rfl, .inl rfl⟩, HB1.out⟩
  · have HS3 := Lib.hid s3
    clear s3
    go_wp2_with (go_at_call 37; refine (laws_szSpringS _ _ _ _ _ r0 r1 hsm).mono ?_; rintro e w2 ⟨⟨q, rfl, hq⟩, hw2⟩; rw [hw2]; clear hw2 w2; rcases hq with rfl | ⟨q0, q1, q2⟩)
    · go_ret
      exact ⟨⟨-1, rfl, .inl rfl⟩, HB1.out⟩
    · go_wp2_with (go_at_call 38; refine (laws_szFloat32S _ _ _ _ _ q0 q1 hwm).mono ?_; rintro e w2 ⟨⟨p, rfl, hp⟩, hw2⟩; rw [hw2]; clear hw2 w2; rcases hp with rfl | ⟨p0, p1, p2⟩)
      · go_ret
        exact ⟨⟨-1, rfl, .inl rfl⟩, HB1.out⟩
      · go_wp2
        go_ret
        exact ⟨⟨p, rfl, .inr ⟨p0, p1, ⟨by rw [L.out.1]; exact s1, by rw [L.out.2.1]; exact s2, by rw [L.out.2.1]; exact HS3.out⟩, by rw [L.out.2.2.1]; exact q2, by rw [L.out.2.2.2]; exact p2⟩⟩, HB1.out⟩
set_option maxHeartbeats 4000000 in
theorem sameBody_law (B B' : Bd) (c c' : Bc) (w : World) (h : IsB w B c) (h' : IsB w B' c') :
    Calls Try.prog 3 #[B.v, B'.v] w fun e w' => e = .returned (.bool true) ∧ Below w.heap.size w w' := by
  have ul := Try.underlying32
  have ui := Try.underlying41
  have hA0 : At ((w.alloc (BoxB B 32)).alloc (BoxB B' 32)) w.heap.size B.l := At.new.alloc
  have hA1 : At ((w.alloc (BoxB B 32)).alloc (BoxB B' 32)) (w.heap.size + 1) B'.l := by
    have := At.new (w := w.alloc (BoxB B 32)) (vs := B'.l) (t := 32)
    simpa using this
  have hB0 := ((Below.refl w.heap.size w).alloc (Nat.le_refl _) (BoxB B 32)).alloc (by simp) (BoxB B' 32)
  have H := Lib.hid h
  have H' := Lib.hid h'
  have A0 := Lib.hid hA0
  have C0 := Lib.hid hA1
  have B0 := Lib.hid hB0
  clear h h' hA0 hA1 hB0
  go_enter Try.func3, Try.ntmps3
  go_wp2_with fail
  change Calls _ _ _ ((w.alloc (BoxB B 32)).alloc (BoxB B' 32)) _
  generalize ((w.alloc (BoxB B 32)).alloc (BoxB B' 32)) = W at *
  refine (laws_szBody2 B c 1048576 _ (H.out.below B0.out) (by decide) (by decide)).mono ?_
  rintro e w1 ⟨⟨r, rfl, hr⟩, hB1⟩
  have A1 := Lib.hid (A0.out.below hB1)
  have C1 := Lib.hid (C0.out.below hB1)
  have B1 := Lib.hid (B0.out.trans (hB1.mono B0.out.size))
  clear hB1
  rcases hr with rfl | ⟨hr0, hr1, hs⟩
  · go_wp2
    go_ret
    exact ⟨rfl, B1.out⟩
  have HS := Lib.hid hs
  clear hs
  have k0 := C1.out 0 _ rfl
  have k1 := C1.out 1 _ rfl
  have k2 := C1.out 2 _ rfl
  have k3 := C1.out 3 _ rfl
  have k4 := C1.out 4 _ rfl
  have k5 := C1.out 5 _ rfl
  have k6 := C1.out 6 _ rfl
  have k7 := C1.out 7 _ rfl
  have k8 := C1.out 8 _ rfl
  go_wp2_with fail
  clear k0 k1 k2 k3 k4 k5 k6 k7 k8
  refine (laws_szBody2 B' c' r _ (H'.out.below B1.out) hr0 hr1).mono ?_
  rintro e w2 ⟨⟨r', rfl, hr'⟩, hB2⟩
  have A2 := Lib.hid (A1.out.below hB2)
  have C2 := Lib.hid (C1.out.below hB2)
  have B2 := Lib.hid (B1.out.trans (hB2.mono B1.out.size))
  clear hB2
  rcases hr' with rfl | ⟨hr0', _, hs'⟩
  · go_wp2
    go_ret
    exact ⟨rfl, B2.out⟩
  have HS' := Lib.hid hs'
  clear hs'
  generalize hvb : sameBd c c' = vb
  have HVB := Lib.hid hvb
  clear hvb
  go_wp2_with fail
  refine Reg.wp_region_mix (C := fun w' => Below w2.heap.size w2 w') (G := fun w1 w2 => Below w1.heap.size w1 w2) (R := fun i v w' => match i with | 0 => v = B.v | 1 => ∃ D : Bd, v = D.v ∧ IsB w' D c | 2 => v = B'.v | 3 => ∃ D : Bd, v = D.v ∧ IsB w' D c' | 4 => v = .bool vb | 5 => v = .bool vb | _ => True) (T := fun _ _ _ => True) [false, false, false, false, false, false, true, false, false, false, false, false, false, false, false, false, false, false, false, false, true, true, true, true, true, false, false, false, false, false, false, false, false, false, false, false, false, false, false, false, false, false, false, false, false]
    (by kernel_rfl) (by kernel_rfl) (by kernel_rfl) ?_ (below_drewN (Below.refl _ _) 1) ?_ ?_
  · intro j v w1 w2 _ hG hR
    match j with
    | 0 => exact hR
    | 1 => obtain ⟨D, e, h1⟩ := hR; exact ⟨D, e, h1.below hG⟩
    | 2 => exact hR
    | 3 => obtain ⟨D, e, h1⟩ := hR; exact ⟨D, e, h1.below hG⟩
    | 4 => exact hR
    | 5 => exact hR
    | _ + 6 => trivial
  · refine ⟨Reg.Obl.mk ?_, Reg.Obl.mk ?_, Reg.Obl.mk ?_, Reg.Obl.mk ?_, Reg.Obl.mk ?_, Reg.Obl.mk ?_, trivial⟩
    · rintro a w1 hC hx hd K hK
      have HC := Lib.hid hC
      clear hC
      have y0 := A2.out.below HC.out 0 _ rfl
      have y1 := A2.out.below HC.out 1 _ rfl
      have y2 := A2.out.below HC.out 2 _ rfl
      have y3 := A2.out.below HC.out 3 _ rfl
      have y4 := A2.out.below HC.out 4 _ rfl
      have y5 := A2.out.below HC.out 5 _ rfl
      have y6 := A2.out.below HC.out 6 _ rfl
      have y7 := A2.out.below HC.out 7 _ rfl
      have y8 := A2.out.below HC.out 8 _ rfl
      have t2 : a.tmps[2]?.getD undef = .pointer (some ⟨w.heap.size, 0, none⟩) := Reg.slot_val (hx 2 (by kernel_rfl))
      go_simp
      exact hK _ _ (fun _ => rfl) (fun h => by cases h) HC.out (Below.refl _ _)
    · rintro a w1 hC hx hd K hK
      have HC := Lib.hid hC
      clear hC
      have t20 : a.tmps[20]?.getD undef = B.v := Reg.slot_val (hd 0 (by kernel_rfl) 20 rfl)
      go_simp
      refine (laws_toBody B c _ (H.out.below (B2.out.trans (HC.out.mono B2.out.size))) HS.out).mono ?_
      rintro en w2' ⟨D, rfl, hV, hB2⟩
      exact hK _ _ (fun _ => ⟨D, rfl, hV⟩) (fun h => by cases h) (HC.out.trans (hB2.mono HC.out.size)) hB2
    · rintro a w1 hC hx hd K hK
      have HC := Lib.hid hC
      clear hC
      have y0 := C2.out.below HC.out 0 _ rfl
      have y1 := C2.out.below HC.out 1 _ rfl
      have y2 := C2.out.below HC.out 2 _ rfl
      have y3 := C2.out.below HC.out 3 _ rfl
      have y4 := C2.out.below HC.out 4 _ rfl
      have y5 := C2.out.below HC.out 5 _ rfl
      have y6 := C2.out.below HC.out 6 _ rfl
      have y7 := C2.out.below HC.out 7 _ rfl
      have y8 := C2.out.below HC.out 8 _ rfl
      have t3 : a.tmps[3]?.getD undef = .pointer (some ⟨w.heap.size + 1, 0, none⟩) := Reg.slot_val (hx 3 (by kernel_rfl))
      go_simp
      exact hK _ _ (fun _ => rfl) (fun h => by cases h) HC.out (Below.refl _ _)
    · rintro a w1 hC hx hd K hK
      have HC := Lib.hid hC
      clear hC
      have t22 : a.tmps[22]?.getD undef = B'.v := Reg.slot_val (hd 2 (by kernel_rfl) 22 rfl)
      go_simp
      refine (laws_toBody B' c' _ (H'.out.below (B2.out.trans (HC.out.mono B2.out.size))) HS'.out).mono ?_
      rintro en w2' ⟨D, rfl, hV, hB2⟩
      exact hK _ _ (fun _ => ⟨D, rfl, hV⟩) (fun h => by cases h) (HC.out.trans (hB2.mono HC.out.size)) hB2
    · rintro a w1 hC hx hd K hK
      have HC := Lib.hid hC
      clear hC
      obtain ⟨D21, g21, hV21⟩ := hd 1 (by kernel_rfl) 21 rfl
      have t21 := Reg.slot_val g21
      have HV21 := Lib.hid hV21
      clear g21 hV21
      obtain ⟨D23, g23, hV23⟩ := hd 3 (by kernel_rfl) 23 rfl
      have t23 := Reg.slot_val g23
      have HV23 := Lib.hid hV23
      clear g23 hV23
      go_simp
      have hJ := spec_SameBody D21 D23 c c' w1 HV21.out HV23.out
      rw [HVB.out] at hJ
      refine hJ.mono ?_
      rintro en w2' ⟨rfl, hB2⟩
      exact hK _ _ (fun _ => rfl) (fun h => by cases h) (HC.out.trans (hB2.mono HC.out.size)) hB2
    · rintro a w1 hC hx hd K hK
      have HC := Lib.hid hC
      clear hC
      have t24 : a.tmps[24]?.getD undef = .bool vb := Reg.slot_val (hd 4 (by kernel_rfl) 24 rfl)
      go_simp
      exact hK _ _ (fun _ => rfl) (fun h => by cases h) HC.out (Below.refl _ _)
  · rintro f w3 hC hd hT
    have g6 : f 6 = .bool vb := hd 5 6 rfl
    simp only [Reg.mixL, g6]
    have A3 := Lib.hid (A2.out.below hC)
    have C3 := Lib.hid (C2.out.below hC)
    have B3 := Lib.hid (B2.out.trans (hC.mono B2.out.size))
    clear hC hd hT
    have k0 := A3.out 0 _ rfl
    have k1 := A3.out 1 _ rfl
    have k2 := A3.out 2 _ rfl
    have k3 := A3.out 3 _ rfl
    have k4 := A3.out 4 _ rfl
    have k5 := A3.out 5 _ rfl
    have k6 := A3.out 6 _ rfl
    have k7 := A3.out 7 _ rfl
    have k8 := A3.out 8 _ rfl
    go_wp2_with fail
    clear k0 k1 k2 k3 k4 k5 k6 k7 k8
    refine (laws_toBody B c _ (H.out.below B3.out) HS.out).mono ?_
    rintro e w4 ⟨X, rfl, hX, hB4⟩
    have A4 := Lib.hid (A3.out.below hB4)
    have C4 := Lib.hid (C3.out.below hB4)
    have B4 := Lib.hid (B3.out.trans (hB4.mono B3.out.size))
    have HX := Lib.hid hX
    clear hX hB4
    have lb0 := fun ob => cell_alloc (o := ob) (C4.out 0 _ rfl)
    have lb1 := fun ob => cell_alloc (o := ob) (C4.out 1 _ rfl)
    have lb2 := fun ob => cell_alloc (o := ob) (C4.out 2 _ rfl)
    have lb3 := fun ob => cell_alloc (o := ob) (C4.out 3 _ rfl)
    have lb4 := fun ob => cell_alloc (o := ob) (C4.out 4 _ rfl)
    have lb5 := fun ob => cell_alloc (o := ob) (C4.out 5 _ rfl)
    have lb6 := fun ob => cell_alloc (o := ob) (C4.out 6 _ rfl)
    have lb7 := fun ob => cell_alloc (o := ob) (C4.out 7 _ rfl)
    have lb8 := fun ob => cell_alloc (o := ob) (C4.out 8 _ rfl)
    go_wp2_with fail
    clear lb0 lb1 lb2 lb3 lb4 lb5 lb6 lb7 lb8
    change Calls _ _ _ (w4.alloc (BoxB X 41)) _
    have hN := (Below.refl w4.heap.size w4).alloc (Nat.le_refl _) (BoxB X 41)
    have AX : RowKit.Hid (At (w4.alloc (BoxB X 41)) w4.heap.size X.l) := Lib.hid At.new
    have A5 := Lib.hid (A4.out.below hN)
    have C5 := Lib.hid (C4.out.below hN)
    have HX5 := Lib.hid (HX.out.below hN)
    have B5 := Lib.hid (B4.out.trans (hN.mono B4.out.size))
    generalize (w4.alloc (BoxB X 41)) = W4 at *
    generalize w4.heap.size = xb at *
    clear hN
    refine (laws_toBody B' c' _ (H'.out.below B5.out) HS'.out).mono ?_
    rintro e w5 ⟨Y, rfl, hY, hB5⟩
    have AX := Lib.hid (AX.out.below hB5)
    have A6 := Lib.hid (A5.out.below hB5)
    have C6 := Lib.hid (C5.out.below hB5)
    have HX6 := Lib.hid (HX5.out.below hB5)
    have B6 := Lib.hid (B5.out.trans (hB5.mono B5.out.size))
    have HY := Lib.hid hY
    clear hY hB5
    have lb0 := fun ob => cell_alloc (o := ob) (AX.out 0 _ rfl)
    have lb1 := fun ob => cell_alloc (o := ob) (AX.out 1 _ rfl)
    have lb2 := fun ob => cell_alloc (o := ob) (AX.out 2 _ rfl)
    have lb3 := fun ob => cell_alloc (o := ob) (AX.out 3 _ rfl)
    have lb4 := fun ob => cell_alloc (o := ob) (AX.out 4 _ rfl)
    have lb5 := fun ob => cell_alloc (o := ob) (AX.out 5 _ rfl)
    have lb6 := fun ob => cell_alloc (o := ob) (AX.out 6 _ rfl)
    have lb7 := fun ob => cell_alloc (o := ob) (AX.out 7 _ rfl)
    have lb8 := fun ob => cell_alloc (o := ob) (AX.out 8 _ rfl)
    go_wp2_with fail
    clear lb0 lb1 lb2 lb3 lb4 lb5 lb6 lb7 lb8
    change Calls _ _ _ (w5.alloc (BoxB Y 41)) _
    have hN := (Below.refl w5.heap.size w5).alloc (Nat.le_refl _) (BoxB Y 41)
    have AY : RowKit.Hid (At (w5.alloc (BoxB Y 41)) w5.heap.size Y.l) := Lib.hid At.new
    have AX := Lib.hid (AX.out.below hN)
    have A7 := Lib.hid (A6.out.below hN)
    have C7 := Lib.hid (C6.out.below hN)
    have HX7 := Lib.hid (HX6.out.below hN)
    have HY7 := Lib.hid (HY.out.below hN)
    have B7 := Lib.hid (B6.out.trans (hN.mono B6.out.size))
    generalize (w5.alloc (BoxB Y 41)) = W5 at *
    generalize w5.heap.size = yb at *
    clear hN
    have hJ := impl_SameBody X Y c c' _ HX7.out HY7.out
    rw [HVB.out] at hJ
    refine hJ.mono ?_
    rintro e w6 ⟨rfl, hB8⟩
    have AX := Lib.hid (AX.out.below hB8)
    have AY := Lib.hid (AY.out.below hB8)
    have A8 := Lib.hid (A7.out.below hB8)
    have C8 := Lib.hid (C7.out.below hB8)
    have HX8 := Lib.hid (HX7.out.below hB8)
    have HY8 := Lib.hid (HY7.out.below hB8)
    have B8 := Lib.hid (B7.out.trans (hB8.mono B7.out.size))
    clear hB8 hJ
    have hvv : (vb == vb) = true := by cases vb <;> rfl
    go_wp2_with fail
    refine Reg.wp_region_mix (C := fun w' => Below w6.heap.size w6 w') (G := fun w1 w2 => Below w1.heap.size w1 w2) (R := fun i v w' => match i with | 0 => v = X.v | 1 => v = B.v | 2 => ∃ B' : Bd, v = B'.v ∧ IsB w' B' c | 3 => v = .bool true | 4 => v = .bool false | _ => True) (T := fun _ _ _ => True) [false, false, false, false, false, false, false, false, false, false, false, false, false, false, false, false, false, false, false, false, false, false, false, false, false, false, false, false, false, false, false, false, false, false, false, true, true, true, true, true, false, false, false, false, false]
      (by kernel_rfl) (by kernel_rfl) (by kernel_rfl) ?_ (below_drewN (Below.refl _ _) 1) ?_ ?_
    · intro j v w1 w2 _ hG hR
      match j with
      | 0 => exact hR
      | 1 => exact hR
      | 2 => obtain ⟨B', e, h1⟩ := hR; exact ⟨B', e, h1.below hG⟩
      | 3 => exact hR
      | 4 => exact hR
      | _ + 5 => trivial
    · refine ⟨Reg.Obl.mk ?_, Reg.Obl.mk ?_, Reg.Obl.mk ?_, Reg.Obl.mk ?_, Reg.Obl.mk ?_, trivial⟩
      · rintro a w1 hB hx hd K hK
        have t7 : a.tmps[7]?.getD undef = .pointer (some ⟨xb, 0, none⟩) := Reg.slot_val (hx 7 (by kernel_rfl))
        have y0 := AX.out.below hB 0 _ rfl
        have y1 := AX.out.below hB 1 _ rfl
        have y2 := AX.out.below hB 2 _ rfl
        have y3 := AX.out.below hB 3 _ rfl
        have y4 := AX.out.below hB 4 _ rfl
        have y5 := AX.out.below hB 5 _ rfl
        have y6 := AX.out.below hB 6 _ rfl
        have y7 := AX.out.below hB 7 _ rfl
        have y8 := AX.out.below hB 8 _ rfl
        have HC := Lib.hid hB
        clear hB
        go_simp
        exact hK _ _ (fun _ => rfl) (fun h => by cases h) HC.out (Below.refl _ _)
      · rintro a w1 hB hx hd K hK
        have t2 : a.tmps[2]?.getD undef = .pointer (some ⟨w.heap.size, 0, none⟩) := Reg.slot_val (hx 2 (by kernel_rfl))
        have y0 := A8.out.below hB 0 _ rfl
        have y1 := A8.out.below hB 1 _ rfl
        have y2 := A8.out.below hB 2 _ rfl
        have y3 := A8.out.below hB 3 _ rfl
        have y4 := A8.out.below hB 4 _ rfl
        have y5 := A8.out.below hB 5 _ rfl
        have y6 := A8.out.below hB 6 _ rfl
        have y7 := A8.out.below hB 7 _ rfl
        have y8 := A8.out.below hB 8 _ rfl
        have HC := Lib.hid hB
        clear hB
        go_simp
        exact hK _ _ (fun _ => rfl) (fun h => by cases h) HC.out (Below.refl _ _)
      · rintro a w1 hB hx hd K hK
        have t36 : a.tmps[36]?.getD undef = B.v := Reg.slot_val (hd 1 (by kernel_rfl) 36 rfl)
        have HC := Lib.hid hB
        clear hB
        go_simp
        refine (laws_toBody B c _ (H.out.below (B8.out.trans (HC.out.mono B8.out.size))) HS.out).mono ?_
        rintro en w2 ⟨B', rfl, hV, hB2⟩
        exact hK _ _ (fun _ => ⟨B', rfl, hV⟩) (fun h => by cases h) (HC.out.trans (hB2.mono HC.out.size)) hB2
      · rintro a w1 hB hx hd K hK
        have t35 : a.tmps[35]?.getD undef = X.v := Reg.slot_val (hd 0 (by kernel_rfl) 35 rfl)
        obtain ⟨B', g2, hV⟩ := hd 2 (by kernel_rfl) 37 rfl
        have t37 := Reg.slot_val g2
        clear g2
        have HVe := Lib.hid hV
        have HC := Lib.hid hB
        clear hV hB
        go_simp
        refine (laws_eqBody X B' c _ (HX8.out.below HC.out) HVe.out HS.out).mono ?_
        rintro en w2 ⟨rfl, hB2⟩
        exact hK _ _ (fun _ => rfl) (fun h => by cases h) (HC.out.trans (hB2.mono HC.out.size)) hB2
      · rintro a w1 hB hx hd K hK
        have t38 : a.tmps[38]?.getD undef = .bool true := Reg.slot_val (hd 3 (by kernel_rfl) 38 rfl)
        go_simp
        exact hK _ _ (fun _ => rfl) (fun h => by cases h) hB (Below.refl _ _)
    · rintro f wz hBz hd hT
      have g39 : f 39 = .bool false := hd 4 39 rfl
      simp only [Reg.mixL, g39]
      have HBz := Lib.hid (B8.out.trans (hBz.mono B8.out.size))
      have AY := Lib.hid (AY.out.below hBz)
      have C9 := Lib.hid (C8.out.below hBz)
      have HY9 := Lib.hid (HY8.out.below hBz)
      clear hBz hd hT
      go_wp2_with fail
      refine Reg.wp_region_mix (C := fun w' => Below wz.heap.size wz w') (G := fun w1 w2 => Below w1.heap.size w1 w2) (R := fun i v w' => match i with | 0 => v = Y.v | 1 => v = B'.v | 2 => ∃ B' : Bd, v = B'.v ∧ IsB w' B' c' | 3 => v = .bool true | 4 => v = .bool false | _ => True) (T := fun _ _ _ => True) [false, false, false, false, false, false, false, false, false, false, false, false, false, false, false, false, false, false, false, false, false, false, false, false, false, false, false, false, false, false, false, false, false, false, false, false, false, false, false, false, true, true, true, true, true]
        (by kernel_rfl) (by kernel_rfl) (by kernel_rfl) ?_ (below_drewN (Below.refl _ _) 1) ?_ ?_
      · intro j v w1 w2 _ hG hR
        match j with
        | 0 => exact hR
        | 1 => exact hR
        | 2 => obtain ⟨B', e, h1⟩ := hR; exact ⟨B', e, h1.below hG⟩
        | 3 => exact hR
        | 4 => exact hR
        | _ + 5 => trivial
      · refine ⟨Reg.Obl.mk ?_, Reg.Obl.mk ?_, Reg.Obl.mk ?_, Reg.Obl.mk ?_, Reg.Obl.mk ?_, trivial⟩
        · rintro a w1 hB hx hd K hK
          have t8 : a.tmps[8]?.getD undef = .pointer (some ⟨yb, 0, none⟩) := Reg.slot_val (hx 8 (by kernel_rfl))
          have y0 := AY.out.below hB 0 _ rfl
          have y1 := AY.out.below hB 1 _ rfl
          have y2 := AY.out.below hB 2 _ rfl
          have y3 := AY.out.below hB 3 _ rfl
          have y4 := AY.out.below hB 4 _ rfl
          have y5 := AY.out.below hB 5 _ rfl
          have y6 := AY.out.below hB 6 _ rfl
          have y7 := AY.out.below hB 7 _ rfl
          have y8 := AY.out.below hB 8 _ rfl
          have HC := Lib.hid hB
          clear hB
          go_simp
          exact hK _ _ (fun _ => rfl) (fun h => by cases h) HC.out (Below.refl _ _)
        · rintro a w1 hB hx hd K hK
          have t3 : a.tmps[3]?.getD undef = .pointer (some ⟨w.heap.size + 1, 0, none⟩) := Reg.slot_val (hx 3 (by kernel_rfl))
          have y0 := C9.out.below hB 0 _ rfl
          have y1 := C9.out.below hB 1 _ rfl
          have y2 := C9.out.below hB 2 _ rfl
          have y3 := C9.out.below hB 3 _ rfl
          have y4 := C9.out.below hB 4 _ rfl
          have y5 := C9.out.below hB 5 _ rfl
          have y6 := C9.out.below hB 6 _ rfl
          have y7 := C9.out.below hB 7 _ rfl
          have y8 := C9.out.below hB 8 _ rfl
          have HC := Lib.hid hB
          clear hB
          go_simp
          exact hK _ _ (fun _ => rfl) (fun h => by cases h) HC.out (Below.refl _ _)
        · rintro a w1 hB hx hd K hK
          have t41 : a.tmps[41]?.getD undef = B'.v := Reg.slot_val (hd 1 (by kernel_rfl) 41 rfl)
          have HC := Lib.hid hB
          clear hB
          go_simp
          refine (laws_toBody B' c' _ (H'.out.below (HBz.out.trans (HC.out.mono HBz.out.size))) HS'.out).mono ?_
          rintro en w2 ⟨B', rfl, hV, hB2⟩
          exact hK _ _ (fun _ => ⟨B', rfl, hV⟩) (fun h => by cases h) (HC.out.trans (hB2.mono HC.out.size)) hB2
        · rintro a w1 hB hx hd K hK
          have t40 : a.tmps[40]?.getD undef = Y.v := Reg.slot_val (hd 0 (by kernel_rfl) 40 rfl)
          obtain ⟨B', g2, hV⟩ := hd 2 (by kernel_rfl) 42 rfl
          have t42 := Reg.slot_val g2
          clear g2
          have HVe := Lib.hid hV
          have HC := Lib.hid hB
          clear hV hB
          go_simp
          refine (laws_eqBody Y B' c' _ (HY9.out.below HC.out) HVe.out HS'.out).mono ?_
          rintro en w2 ⟨rfl, hB2⟩
          exact hK _ _ (fun _ => rfl) (fun h => by cases h) (HC.out.trans (hB2.mono HC.out.size)) hB2
        · rintro a w1 hB hx hd K hK
          have t43 : a.tmps[43]?.getD undef = .bool true := Reg.slot_val (hd 3 (by kernel_rfl) 43 rfl)
          go_simp
          exact hK _ _ (fun _ => rfl) (fun h => by cases h) hB (Below.refl _ _)
      · rintro f wz hBz hd hT
        have g44 : f 44 = .bool false := hd 4 44 rfl
        simp only [Reg.mixL, g44]
        have HBz := Lib.hid (HBz.out.trans (hBz.mono HBz.out.size))
        clear hBz
        go_wp2
        go_ret
        exact ⟨rfl, HBz.out⟩
theorem FnExactSameBody_law (pa ta sa wa : Option Addr) (pl pc tl tc sl sc wl wc : Nat) (cs : List C3) (ts : List (List Int)) (ss : List SC) (zs : List Nat) (fi be fx fy fz : Nat) (pa' ta' sa' wa' : Option Addr) (pl' pc' tl' tc' sl' sc' wl' wc' : Nat) (cs' : List C3) (ts' : List (List Int)) (ss' : List SC) (zs' : List Nat) (fi' be' fx' fy' fz' : Nat) (w : World)
    (hp : IsVs w pa pl pc cs) (ht : IsTs w ta tl tc ts) (hs : IsSs w sa sl sc ss) (hw : IsFs .f32 w wa wl wc zs) (hf : fi < 2 ^ FloatKind.f32.format.width ∧ be < 2 ^ FloatKind.f32.format.width ∧ fx < 2 ^ FloatKind.f32.format.width ∧ fy < 2 ^ FloatKind.f32.format.width ∧ fz < 2 ^ FloatKind.f32.format.width)
    (hp' : IsVs w pa' pl' pc' cs') (ht' : IsTs w ta' tl' tc' ts') (hs' : IsSs w sa' sl' sc' ss') (hw' : IsFs .f32 w wa' wl' wc' zs') (hf' : fi' < 2 ^ FloatKind.f32.format.width ∧ be' < 2 ^ FloatKind.f32.format.width ∧ fx' < 2 ^ FloatKind.f32.format.width ∧ fy' < 2 ^ FloatKind.f32.format.width ∧ fz' < 2 ^ FloatKind.f32.format.width) :
    Calls Try.prog 3 #[.agg #[.slice pa pl pc, .slice ta tl tc, .slice sa sl sc, .float .f32 fi, .float .f32 be, .slice wa wl wc, .float .f32 fx, .float .f32 fy, .float .f32 fz], .agg #[.slice pa' pl' pc', .slice ta' tl' tc', .slice sa' sl' sc', .float .f32 fi', .float .f32 be', .slice wa' wl' wc', .float .f32 fx', .float .f32 fy', .float .f32 fz']] w fun e w' => e = .returned (.bool true) ∧ Below w.heap.size w w' :=
  sameBody_law ⟨pa, ta, sa, wa, pl, pc, tl, tc, sl, sc, wl, wc, fi, be, fx, fy, fz⟩ ⟨pa', ta', sa', wa', pl', pc', tl', tc', sl', sc', wl', wc', fi', be', fx', fy', fz'⟩ ⟨cs, ts, ss, zs, cls .f32 fi, cls .f32 be, (cls .f32 fx, cls .f32 fy, cls .f32 fz)⟩ ⟨cs', ts', ss', zs', cls .f32 fi', cls .f32 be', (cls .f32 fx', cls .f32 fy', cls .f32 fz')⟩ w ⟨hp, ht, hs, hw, FV.self hf.1, FV.self hf.2.1, FV.self hf.2.2.1, FV.self hf.2.2.2.1, FV.self hf.2.2.2.2⟩ ⟨hp', ht', hs', hw', FV.self hf'.1, FV.self hf'.2.1, FV.self hf'.2.2.1, FV.self hf'.2.2.2.1, FV.self hf'.2.2.2.2⟩
end Go.Proofs.Ytmmiadkmldaegab

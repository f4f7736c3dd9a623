
/-
Which holds have the form of one: the model. Conditions: none beyond that the words fit.
-/
import Derived.Test.YtajglpkeojaelaaHoC
namespace Go.Proofs.Ytajglpkeojaelaa
open Go Fk Go.RowKit
set_option linter.unusedVariables false
set_option maxRecDepth 8000

theorem l00In2 (k : Int) (w : World) : Calls Try.prog 101 #[.int .i64 k, .int .i64 0, .int .i64 2] w fun e w' => e = .returned (.bool (decide (0 ≤ k ∧ k ≤ 2))) ∧ w' = w := by
  by_cases h : 0 ≤ k
  · by_cases h2 : k ≤ 2
    · rw [decide_eq_true ⟨h, h2⟩]
      go_enter Try.func101, Try.ntmps101
      go_wp2
      go_ret
      exact ⟨ret_bool (by first | (simp; done) | (simp; omega)), rfl⟩
    · rw [decide_eq_false (fun hh => h2 hh.2)]
      go_enter Try.func101, Try.ntmps101
      go_wp2
      go_ret
      exact ⟨ret_bool (by first | (simp; done) | (simp; omega)), rfl⟩
  · rw [decide_eq_false (fun hh => h hh.1)]
    go_enter Try.func101, Try.ntmps101
    go_wp2
    go_ret
    exact ⟨rfl, rfl⟩
theorem Fk.HW.At.c0 {w : World} {b o : Nat} {h : HW} (a : h.At w b o) : w.cell? ⟨b, o, none⟩ = some (.int .i64 h.p) := a 0 (by omega)
theorem Fk.HW.At.c1 {w : World} {b o : Nat} {h : HW} (a : h.At w b o) : w.cell? ⟨b, o + 1, none⟩ = some (.int .i64 h.k) := a 1 (by omega)
theorem Fk.HW.At.c2 {w : World} {b o : Nat} {h : HW} (a : h.At w b o) : w.cell? ⟨b, o + 2, none⟩ = some (.float .f32 h.x) := a 2 (by omega)
theorem Fk.HW.At.c3 {w : World} {b o : Nat} {h : HW} (a : h.At w b o) : w.cell? ⟨b, o + 2 + 1, none⟩ = some (.float .f32 h.y) := a 3 (by omega)
theorem Fk.HW.At.c4 {w : World} {b o : Nat} {h : HW} (a : h.At w b o) : w.cell? ⟨b, o + 2 + 2, none⟩ = some (.float .f32 h.z) := a 4 (by omega)
theorem Fk.HW.At.c5 {w : World} {b o : Nat} {h : HW} (a : h.At w b o) : w.cell? ⟨b, o + 5, none⟩ = some (.float .f32 h.s) := a 5 (by omega)
theorem Fk.HW.At.c6 {w : World} {b o : Nat} {h : HW} (a : h.At w b o) : w.cell? ⟨b, o + 5 + 1, none⟩ = some (.float .f32 h.t) := a 6 (by omega)
theorem Fk.HW.At.c7 {w : World} {b o : Nat} {h : HW} (a : h.At w b o) : w.cell? ⟨b, o + 5 + 2, none⟩ = some (.float .f32 h.u) := a 7 (by omega)
theorem Fk.HW.At.own {w : World} {b : Nat} {h : HW} (a : Go.Proofs.Ytajglpkeojaelaa.At w b h.l) : h.At w b 0 := fun i hi => by
  rw [Nat.zero_add]
  have hl : i < h.l.length := hi
  rw [List.getElem?_eq_getElem hl]
  exact a i _ (List.getElem?_eq_getElem hl)
/-- Which holds have the form of one: the model. -/
theorem l04Is (b o : Nat) (h : HW) (c : HC) (w : World) (a : h.At w b o) (i : h.Is c) :
    Calls Try.prog 141 #[.pointer (some ⟨b, o, none⟩)] w fun e w' => e = .returned (.bool (holdB c)) ∧ Below w.heap.size w w' := by
  have u := Try.underlying27
  have ui := Try.underlying2
  have uh := Try.underlying119
  have uv := Try.underlying40
  unfold holdB
  have JK := Lib.hid (fun w => l00In2 h.k w)
  have JF := Lib.hid (fun w => l01VFinite h.x h.y h.z c.2.2.1 w i.2.2.1.1 i.2.2.1.2.1 i.2.2.1.2.2)
  have JW := Lib.hid (fun w => l01VFinite h.s h.t h.u c.2.2.2 w i.2.2.2.1 i.2.2.2.2.1 i.2.2.2.2.2)
  have JI := Lib.hid (fun w => l01Inner h.s h.t h.u h.s h.t h.u w _ _ _ _ _ _ i.2.2.2.1 i.2.2.2.2.1 i.2.2.2.2.2 i.2.2.2.1 i.2.2.2.2.1 i.2.2.2.2.2)
  have hin : fop .add .f32 (fop .add .f32 (fop .mul .f32 c.2.2.2.1 c.2.2.2.1) (fop .mul .f32 c.2.2.2.2.1 c.2.2.2.2.1)) (fop .mul .f32 c.2.2.2.2.2 c.2.2.2.2.2) = innC c.2.2.2 c.2.2.2 := rfl
  rw [hin] at JI
  rw [← i.1, ← i.2.1]
  have A0 := Lib.hid a
  have k0 := a.c0
  have k1 := a.c1
  have k2 := a.c2
  have k3 := a.c3
  have k4 := a.c4
  generalize innC c.2.2.2 c.2.2.2 = N at *
  generalize finV c.2.2.1 = f1 at *
  generalize finV c.2.2.2 = f2 at *
  clear i hin a
  by_cases hp : 0 ≤ h.p
  · have hp0 : decide (h.p < 0) = false := decide_eq_false (by omega)
    rw [decide_eq_true hp]
    by_cases hk : 0 ≤ h.k ∧ h.k ≤ 2
    · have hd : (decide (h.k = 1) || decide (h.k = 2)) = !decide (h.k = 0) := by
        rcases (show h.k = 0 ∨ h.k = 1 ∨ h.k = 2 by omega) with hh | hh | hh <;> simp [hh]
      rw [hd]
      rw [decide_eq_true hk] at JK
      have e0 : (h.k == 0) = decide (h.k = 0) := by by_cases hh : h.k = 0 <;> simp [hh]
      generalize decide (h.k = 0) = z at *
      clear hd hk
      cases f1
      · go_enter Try.func141, Try.ntmps141
        go_wp2_with fail
        refine (JK.out _).mono ?_
        rintro e w1 ⟨rfl, hw1⟩
        rw [hw1]; clear hw1 w1
        go_wp2_with fail
        refine (JF.out _).mono ?_
        rintro e w2 ⟨rfl, hB2⟩
        have B2 := Lib.hid hB2
        clear hB2
        go_wp2
        go_ret
        exact ⟨rfl, B2.out⟩
      · cases f2
        · go_enter Try.func141, Try.ntmps141
          go_wp2_with fail
          refine (JK.out _).mono ?_
          rintro e w1 ⟨rfl, hw1⟩
          rw [hw1]; clear hw1 w1
          go_wp2_with fail
          refine (JF.out _).mono ?_
          rintro e w2 ⟨rfl, hB2⟩
          have B2 := Lib.hid hB2
          have A2 := Lib.hid (A0.out.below hB2)
          have m5 := A2.out.c5
          have m6 := A2.out.c6
          have m7 := A2.out.c7
          clear hB2
          go_wp2_with fail
          refine (JW.out _).mono ?_
          rintro e w3 ⟨rfl, hB3⟩
          have B3 := Lib.hid (B2.out.trans (hB3.mono B2.out.size))
          clear hB3
          go_wp2
          go_ret
          exact ⟨rfl, B3.out⟩
        · cases z
          all_goals
            go_enter Try.func141, Try.ntmps141
            go_wp2_with fail
            refine (JK.out _).mono ?_
            rintro e w1 ⟨rfl, hw1⟩
            rw [hw1]; clear hw1 w1
            go_wp2_with fail
            refine (JF.out _).mono ?_
            rintro e w2 ⟨rfl, hB2⟩
            have B2 := Lib.hid hB2
            have A2 := Lib.hid (A0.out.below hB2)
            have m5 := A2.out.c5
            have m6 := A2.out.c6
            have m7 := A2.out.c7
            clear hB2 k0 k1 k2 k3 k4
            go_wp2_with fail
            refine (JW.out _).mono ?_
            rintro e w3 ⟨rfl, hB3⟩
            have B3 := Lib.hid (B2.out.trans (hB3.mono B2.out.size))
            have A3 := Lib.hid (A2.out.below hB3)
            have m1 := A3.out.c1
            clear m5 m6 m7 hB3
            have m5 := A3.out.c5
            have m6 := A3.out.c6
            have m7 := A3.out.c7
            go_wp2_with fail
            refine Reg.wp_region_mix (C := fun w' => Below w3.heap.size w3 w') (G := fun _ _ => True) (R := fun i v w' => match i with | 0 => v = .pointer (some ⟨b, o, none⟩) | 1 => v = .pointer (some ⟨b, o, none⟩) | 2 => v = .pointer (some ⟨b, o + 5, none⟩) | 3 => v = .agg #[.float .f32 h.s, .float .f32 h.t, .float .f32 h.u] | 4 => v = .pointer (some ⟨b, o, none⟩) | 5 => v = .pointer (some ⟨b, o, none⟩) | 6 => v = .pointer (some ⟨b, o + 5, none⟩) | 7 => v = .agg #[.float .f32 h.s, .float .f32 h.t, .float .f32 h.u] | 8 => ∃ r, v = .float .f32 r ∧ FV .f32 r N | 9 => ∃ r, v = .float .f32 r ∧ FV .f32 r N | _ => True) (T := fun _ _ _ => True) [false, false, false, true, false, false, false, false, false, false, false, false, false, false, false, false, false, false, false, false, false, false, false, false, false, false, false, false, false, false, false, false, false, true, true, true, true, true, true, true, true, true, false, false, false, false, false, false, false, false, false, false, false, false, false]
              (by kernel_rfl) (by kernel_rfl) (by kernel_rfl) (fun _ _ _ _ _ _ h => h) (below_drewN (Below.refl _ _) 1) ?_ ?_
            · refine ⟨Reg.Obl.mk ?_, Reg.Obl.mk ?_, Reg.Obl.mk ?_, Reg.Obl.mk ?_, Reg.Obl.mk ?_, Reg.Obl.mk ?_, Reg.Obl.mk ?_, Reg.Obl.mk ?_, Reg.Obl.mk ?_, Reg.Obl.mk ?_, trivial⟩
              · rintro a w1 hC hx hd K hK
                have HC := Lib.hid hC
                clear hC
                have t0 : a.tmps[0]?.getD undef = .pointer (some ⟨b, o, none⟩) := Reg.slot_val (hx 0 (by kernel_rfl))
                go_simp
                exact hK _ _ (fun _ => rfl) (fun h => by cases h) HC.out trivial
              · rintro a w1 hC hx hd K hK
                have HC := Lib.hid hC
                clear hC
                have t33 : a.tmps[33]?.getD undef = .pointer (some ⟨b, o, none⟩) := Reg.slot_val (hd 0 (by kernel_rfl) 33 rfl)
                go_simp
                exact hK _ _ (fun _ => rfl) (fun h => by cases h) HC.out trivial
              · rintro a w1 hC hx hd K hK
                have HC := Lib.hid hC
                clear hC
                have t34 : a.tmps[34]?.getD undef = .pointer (some ⟨b, o, none⟩) := Reg.slot_val (hd 1 (by kernel_rfl) 34 rfl)
                go_simp
                exact hK _ _ (fun _ => rfl) (fun h => by cases h) HC.out trivial
              · rintro a w1 hC hx hd K hK
                have HC := Lib.hid hC
                clear hC
                have z5 := (A3.out.below HC.out).c5
                have z6 := (A3.out.below HC.out).c6
                have z7 := (A3.out.below HC.out).c7
                have t35 : a.tmps[35]?.getD undef = .pointer (some ⟨b, o + 5, none⟩) := Reg.slot_val (hd 2 (by kernel_rfl) 35 rfl)
                go_simp
                exact hK _ _ (fun _ => rfl) (fun h => by cases h) HC.out trivial
              · rintro a w1 hC hx hd K hK
                have HC := Lib.hid hC
                clear hC
                have t0 : a.tmps[0]?.getD undef = .pointer (some ⟨b, o, none⟩) := Reg.slot_val (hx 0 (by kernel_rfl))
                go_simp
                exact hK _ _ (fun _ => rfl) (fun h => by cases h) HC.out trivial
              · rintro a w1 hC hx hd K hK
                have HC := Lib.hid hC
                clear hC
                have t37 : a.tmps[37]?.getD undef = .pointer (some ⟨b, o, none⟩) := Reg.slot_val (hd 4 (by kernel_rfl) 37 rfl)
                go_simp
                exact hK _ _ (fun _ => rfl) (fun h => by cases h) HC.out trivial
              · rintro a w1 hC hx hd K hK
                have HC := Lib.hid hC
                clear hC
                have t38 : a.tmps[38]?.getD undef = .pointer (some ⟨b, o, none⟩) := Reg.slot_val (hd 5 (by kernel_rfl) 38 rfl)
                go_simp
                exact hK _ _ (fun _ => rfl) (fun h => by cases h) HC.out trivial
              · rintro a w1 hC hx hd K hK
                have HC := Lib.hid hC
                clear hC
                have z5 := (A3.out.below HC.out).c5
                have z6 := (A3.out.below HC.out).c6
                have z7 := (A3.out.below HC.out).c7
                have t39 : a.tmps[39]?.getD undef = .pointer (some ⟨b, o + 5, none⟩) := Reg.slot_val (hd 6 (by kernel_rfl) 39 rfl)
                go_simp
                exact hK _ _ (fun _ => rfl) (fun h => by cases h) HC.out trivial
              · rintro a w1 hC hx hd K hK
                have HC := Lib.hid hC
                clear hC
                have t36 : a.tmps[36]?.getD undef = .agg #[.float .f32 h.s, .float .f32 h.t, .float .f32 h.u] := Reg.slot_val (hd 3 (by kernel_rfl) 36 rfl)
                have t40 : a.tmps[40]?.getD undef = .agg #[.float .f32 h.s, .float .f32 h.t, .float .f32 h.u] := Reg.slot_val (hd 7 (by kernel_rfl) 40 rfl)
                go_simp
                refine (JI.out _).mono ?_
                rintro en w5 ⟨r, rfl, hr, hB5⟩
                exact hK _ _ (fun _ => ⟨r, rfl, hr⟩) (fun h => by cases h) (HC.out.trans (hB5.mono HC.out.size)) trivial
              · rintro a w1 hC hx hd K hK
                have HC := Lib.hid hC
                clear hC
                obtain ⟨r41, g41, f41⟩ := hd 8 (by kernel_rfl) 41 rfl
                have t41 := Reg.slot_val g41
                clear g41
                go_simp
                exact hK _ _ (fun _ => ⟨_, rfl, f41⟩) (fun h => by cases h) HC.out trivial
            rintro f w4 hB4 hd hT
            obtain ⟨r, g3, hr⟩ := hd 9 3 rfl
            simp only [Reg.mixL, g3]
            clear hd hT g3
            have B4 := Lib.hid (B3.out.trans (hB4.mono B3.out.size))
            have A4 := Lib.hid (A3.out.below hB4)
            clear m1 m5 m6 m7
            have m1 := A4.out.c1
            clear hB4
            have hM := Lib.hid (fun w => l01Finite r w hr.1)
            have hs : (finB r && (FloatKind.f32.format.order r 0 == some .gt)) = sizeC N := hr.size
            first
              | (go_wp2
                 go_ret
                 exact ⟨ret_bool (by simp), B4.out⟩)
              | (generalize finB r = fr at *
                 cases fr
                 all_goals
                   go_wp2_with (go_at_call 118; refine (hM.out _).mono ?_; rintro e w5 ⟨rfl, n, hw⟩; rw [hw]; clear hw w5)
                   go_ret
                   exact ⟨ret_bool (by simp at hs; simp [hs]), by repeat (first | exact B4.out | refine below_drewN ?_ _)⟩)
    · have hd : (decide (h.k = 1) || decide (h.k = 2)) = false := by simp; omega
      have hd0 : decide (h.k = 0) = false := decide_eq_false (by omega)
      rw [hd, hd0]
      rw [decide_eq_false hk] at JK
      clear hd hd0 hk
      go_enter Try.func141, Try.ntmps141
      go_wp2_with fail
      refine (JK.out _).mono ?_
      rintro e w1 ⟨rfl, hw1⟩
      rw [hw1]; clear hw1 w1
      go_wp2
      go_ret
      exact ⟨ret_bool (by simp), Below.refl _ _⟩
  · have hp0 : decide (h.p < 0) = true := decide_eq_true (by omega)
    rw [decide_eq_false hp]
    go_enter Try.func141, Try.ntmps141
    go_wp2
    go_ret
    exact ⟨rfl, Below.refl _ _⟩
end Go.Proofs.Ytajglpkeojaelaa

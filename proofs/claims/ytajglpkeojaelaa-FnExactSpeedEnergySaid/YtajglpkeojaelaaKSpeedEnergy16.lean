/-
Texts in one: what SpeedEnergy stands on, part 16. Conditions: those of each.
-/
import Derived.Test.YtajglpkeojaelaaKSpeedEnergy15

/-
Which bodies are valid: what the program and its model return. Conditions: none.
-/
namespace Go.Proofs.Ytajglpkeojaelaa
open Go Fk Go.RowKit
set_option linter.unusedVariables false
set_option maxRecDepth 8000

theorem ss_all {n : Nat} {ss : List SC} (h : ∀ j, j < ss.length → springB n (ss.getD j s0) = true) : ss.all (springB n) = true := by
  rw [List.all_eq_true]
  intro x hx
  obtain ⟨j, hj, rfl⟩ := List.getElem_of_mem hx
  have := h j hj
  simpa [List.getD, hj] using this
theorem ss_not {n : Nat} {ss : List SC} {k : Nat} (hk : k < ss.length) (h : springB n (ss.getD k s0) = false) : ss.all (springB n) = false := by
  rw [Bool.eq_false_iff]
  intro hh
  have := List.all_eq_true.1 hh (ss[k]) (List.getElem_mem hk)
  have h' : springB n ss[k] = false := by simpa [List.getD, hk] using h
  rw [this] at h'; cases h'
/-- What there is to know of the lengths of a body's lists. -/
theorem IsB.lens {w : World} {B : Bd} {c : Bc} (h : IsB w B c) : c.cs.length = B.pl ∧ c.ts.length = B.tl ∧ c.ss.length = B.sl ∧ c.zs.length = B.wl := ⟨h.1.1, h.2.1.1, h.2.2.1.1, h.2.2.2.1.1⟩
abbrev BoxB (B : Bd) (t : TypeId) : Obj := .cells #[.slice B.pa B.pl B.pc, .slice B.ta B.tl B.tc, .slice B.sa B.sl B.sc, .float .f32 B.film, .float .f32 B.bend, .slice B.wa B.wl B.wc, .float .f32 B.x, .float .f32 B.y, .float .f32 B.z] t
set_option maxHeartbeats 2000000 in
theorem impl_ValidBody (B : Bd) (c : Bc) (w : World) (h : IsB w B c) :
    Calls Try.prog 72 #[B.v] w fun e w' => e = .returned (.bool (bodyB c)) ∧ Below w.heap.size w w' := by
  have ui := Try.underlying42
  have um := Try.underlying38
  have us := Try.underlying144
  have hA0 : At (w.alloc (BoxB B 42)) w.heap.size B.l := At.new
  have hB0 := (Below.refl w.heap.size w).alloc (Nat.le_refl _) (BoxB B 42)
  obtain ⟨lp, lt, ls, lw⟩ := h.lens
  have H0 := Lib.hid (h.below hB0)
  have A0 := Lib.hid hA0
  have B0 := Lib.hid hB0
  have hJ := impl_ValidMesh _ _ _ _ _ _ c.cs c.ts _ H0.out.1 H0.out.2.1
  have LS := Lib.hid ls
  unfold bodyB
  rw [ls, lw, lp]
  clear h hA0 hB0 lp lt lw ls
  cases hv : validB c.cs c.ts
  · rw [hv] at hJ
    have HJ := Lib.hid hJ
    clear hJ hv
    go_enter Try.func72, Try.ntmps72
    go_wp2_with fail
    refine HJ.out.mono ?_
    rintro e w1 ⟨rfl, hB1⟩
    have B1 := Lib.hid (B0.out.trans (hB1.mono B0.out.size))
    clear hB1
    go_wp2
    go_ret
    exact ⟨rfl, B1.out⟩
  · rw [hv] at hJ
    have HJ := Lib.hid hJ
    clear hJ hv
    by_cases h1 : B.sl ≤ 200
    · have g1 : ¬ (200 : Int) < B.sl := by omega
      rw [decide_eq_true h1]
      by_cases h2 : B.wl = B.pl
      · have g2 : ((B.wl : Int) == (B.pl : Int)) = true := by simp [h2]
        have g2' : ((B.wl : Int) != (B.pl : Int)) = false := by simp [h2]
        rw [decide_eq_true h2]
        have H2 := Lib.hid h2
        clear h2
        go_enter Try.func72, Try.ntmps72
        go_wp2_with fail
        refine HJ.out.mono ?_
        rintro e w1 ⟨rfl, hB1⟩
        have A1 := Lib.hid (A0.out.below hB1)
        have B1 := Lib.hid (B0.out.trans (hB1.mono B0.out.size))
        have H1 := Lib.hid (H0.out.below hB1)
        have k1 := A1.out 2 _ rfl
        have k4 := A1.out 5 _ rfl
        clear hB1
        go_wp2
        have hm : B.sl ≤ 9223372036854775807 := by omega
        go_loopw [30] (fun i w' => ∃ k : Nat, k ≤ B.sl ∧ i = .int .i64 k ∧ Aside (∀ j, j < k → springB B.pl (c.ss.getD j s0) = true) ∧ Aside (Below w1.heap.size w1 w')) (fun i _ => B.sl - (intOf i).toNat)
        case atStart => exact ⟨0, Nat.zero_le _, rfl, (fun j hj => absurd hj (by omega)), Below.refl _ _⟩
        case round =>
          obtain ⟨k, hk, rfl, hall, hA⟩ := hrel
          have HB := Lib.hid hA.out
          clear hA
          by_cases hlt : k < B.sl
          · obtain ⟨b, o, hsa, hcell⟩ := (H1.out.below HB.out).2.2.1.some (by omega)
            obtain ⟨p, q, c0, c1, c2, c3, fp, fq⟩ := hcell k hlt
            have hJ := fun w => impl_isBetween (c.ss.getD k s0).1 (c.ss.getD k s0).2.1 p q B.pl (c.ss.getD k s0).2.2.1 (c.ss.getD k s0).2.2.2 w fp
            have hsp : springB B.pl ((c.ss.getD k s0).1, (c.ss.getD k s0).2.1, (c.ss.getD k s0).2.2.1, (c.ss.getD k s0).2.2.2) = springB B.pl (c.ss.getD k s0) := rfl
            rw [hsp] at hJ
            have hk0 : (0 : Int) ≤ (k : Int) := by omega
            have hk1 : (k : Int) < (B.sl : Int) := by omega
            obtain ⟨ua, hua⟩ : ∃ ua, ua = (c.ss.getD k s0).1 := ⟨_, rfl⟩
            obtain ⟨ub, hub⟩ : ∃ ub, ub = (c.ss.getD k s0).2.1 := ⟨_, rfl⟩
            rw [← hua] at c0 hJ
            rw [← hub] at c1 hJ
            rw [hsa]
            clear hcell hsp hua hub hsa fp fq
            cases hb : springB B.pl (c.ss.getD k s0)
            · have hres : Aside ((true && true && true && c.ss.all (springB B.pl)) = false) := by show (true && true && true && c.ss.all (springB B.pl)) = false; rw [ss_not (by rw [LS.out]; exact hlt) hb]; rfl
              rw [hb] at hJ
              have HJ2 := Lib.hid hJ
              clear hJ hall hb
              go_wp2_with fail
              refine (HJ2.out _).mono ?_
              rintro e w2 ⟨rfl, hB2⟩
              have B2 := Lib.hid (B1.out.trans (((below_new HB.out (Nat.le_refl _)).trans (hB2.mono (below_new HB.out (Nat.le_refl _)).size)).mono B1.out.size))
              clear hB2
              go_wp2
              go_ret
              exact ⟨ret_bool hres.out.symm, B2.out⟩
            · have hall' : Aside (∀ j, j < k + 1 → springB B.pl (c.ss.getD j s0) = true) := by
                intro j hj
                by_cases hjk : j = k
                · subst hjk; exact hb
                · exact hall.out j (by omega)
              rw [hb] at hJ
              have HJ2 := Lib.hid hJ
              clear hJ hall hb
              go_wp2_with fail
              refine (HJ2.out _).mono ?_
              rintro e w2 ⟨rfl, hB2⟩
              have B2 := Lib.hid ((below_new HB.out (Nat.le_refl _)).trans (hB2.mono (below_new HB.out (Nat.le_refl _)).size))
              clear hB2
              go_wp2
              go_roundw
              case rel => exact ⟨k + 1, by omega, by go_num, hall', B2.out⟩
              case measure => simp [intOf]; omega
          · have hkl : k = B.sl := by omega
            have hres : Aside ((true && true && true && c.ss.all (springB B.pl)) = true) := by show (true && true && true && c.ss.all (springB B.pl)) = true; rw [ss_all (by rw [LS.out, ← hkl]; exact hall.out)]; rfl
            have g3 : ¬ (k : Int) < (B.sl : Int) := by omega
            clear hall hkl
            go_wp2
            go_ret
            exact ⟨ret_bool hres.out.symm, B1.out.trans (HB.out.mono B1.out.size)⟩
      · have g2 : ((B.wl : Int) == (B.pl : Int)) = false := beq_eq_false_iff_ne.2 (by omega)
        have g2' : ((B.wl : Int) != (B.pl : Int)) = true := by simp; omega
        rw [decide_eq_false h2]
        clear h2
        go_enter Try.func72, Try.ntmps72
        go_wp2_with fail
        refine HJ.out.mono ?_
        rintro e w1 ⟨rfl, hB1⟩
        have A1 := Lib.hid (A0.out.below hB1)
        have B1 := Lib.hid (B0.out.trans (hB1.mono B0.out.size))
        have k1 := A1.out 2 _ rfl
        have k4 := A1.out 5 _ rfl
        clear hB1
        go_wp2
        go_ret
        exact ⟨rfl, B1.out⟩
    · have g1 : (200 : Int) < B.sl := by omega
      rw [decide_eq_false h1]
      go_enter Try.func72, Try.ntmps72
      go_wp2_with fail
      refine HJ.out.mono ?_
      rintro e w1 ⟨rfl, hB1⟩
      have A1 := Lib.hid (A0.out.below hB1)
      have B1 := Lib.hid (B0.out.trans (hB1.mono B0.out.size))
      have k1 := A1.out 2 _ rfl
      have k4 := A1.out 5 _ rfl
      clear hB1
      go_wp2
      go_ret
      exact ⟨rfl, B1.out⟩
end Go.Proofs.Ytajglpkeojaelaa


/-
Which bodies are valid: what the model returns. Conditions: none.
-/
namespace Go.Proofs.Ytajglpkeojaelaa
open Go Fk Go.RowKit
set_option linter.unusedVariables false
set_option maxRecDepth 8000

set_option maxHeartbeats 4000000 in
theorem l03Is (pb : Nat) (B : Bd) (c : Bc) (w : World) (A : At w pb B.l) (h : IsB w B c) :
    Calls Try.prog 67 #[.pointer (some ⟨pb, 0, none⟩)] w fun e w' => e = .returned (.bool (bodyB c)) ∧ ∃ n, w' = w.drewN n := by
  have ui := Try.underlying42
  have um := Try.underlying38
  have us := Try.underlying144
  obtain ⟨lp, lt, ls, lw⟩ := h.lens
  have hpm : B.pl ≤ 9223372036854775807 := by have h1 := h.1.2.1; have h2 := h.1.2.2.1; unfold maxLen at h2; omega
  have hJ := fun n => l02Is pb B.pa B.ta B.pl B.pc B.tl B.tc c.cs c.ts (w.drewN n) (A 0 _ rfl) (A 1 _ rfl) (h.1.drew rfl) (h.2.1.drew rfl)
  have k0 := A 0 _ rfl
  have k1 := A 1 _ rfl
  have k2 := A 2 _ rfl
  have k5 := A 5 _ rfl
  have LS := Lib.hid ls
  have H := Lib.hid h
  have HA := Lib.hid A
  unfold bodyB
  rw [ls, lw, lp]
  clear h A lp lt lw ls
  cases hv : validB c.cs c.ts
  · simp only [hv] at hJ
    have HJ := Lib.hid hJ
    clear hJ hv
    by_cases h1 : B.sl ≤ 200
    · have g1 : ¬ (200 : Int) < B.sl := by omega
      by_cases h2 : B.wl = B.pl
      · have g2 : ((B.wl : Int) == (B.pl : Int)) = true := by simp [h2]
        have g2' : ((B.wl : Int) != (B.pl : Int)) = false := by simp [h2]
        clear h2
        go_enter Try.func67, Try.ntmps67
        go_wp2_with fail
        go_quiet ((go_at_call 113; exact Calls.quiet_of (HJ.out _)))
        go_wp2
        go_ret
        exact ⟨rfl, _, rfl⟩
      · have g2 : ((B.wl : Int) == (B.pl : Int)) = false := beq_eq_false_iff_ne.2 (by omega)
        have g2' : ((B.wl : Int) != (B.pl : Int)) = true := by simp; omega
        clear h2
        go_enter Try.func67, Try.ntmps67
        go_wp2_with fail
        go_quiet ((go_at_call 113; exact Calls.quiet_of (HJ.out _)))
        go_wp2
        go_ret
        exact ⟨rfl, _, rfl⟩
    · have g1 : (200 : Int) < B.sl := by omega
      go_enter Try.func67, Try.ntmps67
      go_wp2_with fail
      go_quiet ((go_at_call 113; exact Calls.quiet_of (HJ.out _)))
      go_wp2
      go_ret
      exact ⟨rfl, _, rfl⟩
  · simp only [hv] at hJ
    have HJ := Lib.hid hJ
    clear hJ hv
    by_cases h1 : B.sl ≤ 200
    · have g1 : ¬ (200 : Int) < B.sl := by omega
      rw [decide_eq_true h1]
      by_cases h2 : B.wl = B.pl
      · have g2 : ((B.wl : Int) == (B.pl : Int)) = true := by simp [h2]
        have g2' : ((B.wl : Int) != (B.pl : Int)) = false := by simp [h2]
        rw [decide_eq_true h2]
        clear h2
        go_enter Try.func67, Try.ntmps67
        go_wp2_with fail
        go_quiet ((go_at_call 113; exact Calls.quiet_of (HJ.out _)))
        go_wp2
        have hm : B.sl ≤ 9223372036854775807 := by omega
        go_loopw [36] (fun i w' => ∃ k : Nat, k ≤ B.sl ∧ i = .int .i64 k ∧ Aside (∀ j, j < k → springB B.pl (c.ss.getD j s0) = true) ∧ ∃ n, w' = w.drewN n) (fun i _ => B.sl - (intOf i).toNat)
        case atStart => exact ⟨0, Nat.zero_le _, rfl, (fun j hj => absurd hj (by omega)), _, rfl⟩
        case round =>
          obtain ⟨k, hk, rfl, hall, n, hw⟩ := hrel
          have c0' : wr.cell? ⟨pb, 0, none⟩ = some (.slice B.pa B.pl B.pc) := by rw [hw]; exact k0
          have c2' : wr.cell? ⟨pb, 2, none⟩ = some (.slice B.sa B.sl B.sc) := by rw [hw]; exact k2
          clear k0 k1 k2 k5
          by_cases hlt : k < B.sl
          · obtain ⟨b, o, hsa, hcell⟩ := H.out.2.2.1.some (by omega)
            obtain ⟨p, q, d0, d1, d2, d3, fp, fq⟩ := hcell k hlt
            have hJ := fun m => l03Spring b (o + k * 4) (c.ss.getD k s0).1 (c.ss.getD k s0).2.1 p B.pl (c.ss.getD k s0).2.2.1 (c.ss.getD k s0).2.2.2 (wr.drewN m) (by rw [hw]; exact d0) (by rw [hw]; exact d1) (by rw [hw]; exact d2) fp (by omega)
            have hsp : springB B.pl ((c.ss.getD k s0).1, (c.ss.getD k s0).2.1, (c.ss.getD k s0).2.2.1, (c.ss.getD k s0).2.2.2) = springB B.pl (c.ss.getD k s0) := rfl
            rw [hsp] at hJ
            have hk0 : (0 : Int) ≤ (k : Int) := by omega
            have hk1 : (k : Int) < (B.sl : Int) := by omega
            rw [hsa] at c2' 
            have HW := Lib.hid hw
            clear hcell hsp hsa fp fq d0 d1 d2 d3 hw
            cases hb : springB B.pl (c.ss.getD k s0)
            · have hres : Aside ((true && true && true && c.ss.all (springB B.pl)) = false) := by show (true && true && true && c.ss.all (springB B.pl)) = false; rw [ss_not (by rw [LS.out]; exact hlt) hb]; rfl
              rw [hb] at hJ
              have HJ2 := Lib.hid hJ
              clear hJ hall hb
              go_wp2_with fail
              go_quiet ((go_at_call 133; exact Calls.quiet_of (HJ2.out _)))
              go_wp2
              go_ret
              exact ⟨ret_bool hres.out.symm, drewn_end HW.out⟩
            · have hall' : Aside (∀ j, j < k + 1 → springB B.pl (c.ss.getD j s0) = true) := by
                intro j hj
                by_cases hjk : j = k
                · subst hjk; exact hb
                · exact hall.out j (by omega)
              rw [hb] at hJ
              have HJ2 := Lib.hid hJ
              clear hJ hall hb
              go_wp2_with fail
              go_quiet ((go_at_call 133; exact Calls.quiet_of (HJ2.out _)))
              go_wp2
              go_roundw
              case rel => exact ⟨k + 1, by omega, by go_num, hall', drewn_end HW.out⟩
              case measure => simp [intOf]; omega
          · have hkl : k = B.sl := by omega
            have hres : Aside ((true && true && true && c.ss.all (springB B.pl)) = true) := by show (true && true && true && c.ss.all (springB B.pl)) = true; rw [ss_all (by rw [LS.out, ← hkl]; exact hall.out)]; rfl
            have g3 : ¬ (k : Int) < (B.sl : Int) := by omega
            have HW := Lib.hid hw
            clear hall hkl hw
            go_wp2
            go_ret
            exact ⟨ret_bool hres.out.symm, n, HW.out⟩
      · have g2 : ((B.wl : Int) == (B.pl : Int)) = false := beq_eq_false_iff_ne.2 (by omega)
        have g2' : ((B.wl : Int) != (B.pl : Int)) = true := by simp; omega
        rw [decide_eq_false h2]
        clear h2
        go_enter Try.func67, Try.ntmps67
        go_wp2_with fail
        go_quiet ((go_at_call 113; exact Calls.quiet_of (HJ.out _)))
        go_wp2
        go_ret
        exact ⟨rfl, _, rfl⟩
    · have g1 : (200 : Int) < B.sl := by omega
      rw [decide_eq_false h1]
      go_enter Try.func67, Try.ntmps67
      go_wp2_with fail
      go_quiet ((go_at_call 113; exact Calls.quiet_of (HJ.out _)))
      go_wp2
      go_ret
      exact ⟨rfl, _, rfl⟩
end Go.Proofs.Ytajglpkeojaelaa

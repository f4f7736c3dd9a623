
/-
Which meshes are valid: what the program and its model return. Conditions: none.
-/
import Derived.Test.YtcgnmnbjgamedaaMwG
namespace Go.Proofs.Ytcgnmnbjgamedaa
open Go Fk Go.RowKit
set_option linter.unusedVariables false
set_option maxRecDepth 8000

theorem fin3 {a b c : Int} (h01 : ¬ a = b) (h12 : ¬ b = c) (h02 : ¬ a = c) : (true && (true && true && true) && (decide (a ≠ b) && decide (b ≠ c) && decide (a ≠ c))) = true := by
  rw [decide_eq_true h01, decide_eq_true h12, decide_eq_true h02]; rfl
set_option maxHeartbeats 8000000 in
theorem impl_isTriangle (a : Option Addr) (len cap : Nat) (t : List Int) (n : Nat) (w : World) (h : IsIs w a len cap t) :
    Calls Try.prog 138 #[.slice a len cap, .int .i64 n] w fun e w' => e = .returned (.bool (triB n t)) ∧ ∃ k, w' = w.drewN k := by
  have hl := h.1
  by_cases h3 : len = 3
  · subst h3
    obtain ⟨b, o, rfl, hcell⟩ := h.some (by decide)
    have c0 := hcell 0 (by decide)
    have c1 := hcell 1 (by decide)
    have c2 := hcell 2 (by decide)
    simp only [Nat.add_zero] at c0
    unfold triB
    rw [hl, decide_eq_true rfl]
    generalize t.getD 0 0 = z0 at *
    generalize t.getD 1 0 = z1 at *
    generalize t.getD 2 0 = z2 at *
    clear h hcell hl
    generalize hi0 : inB n z0 = i0
    generalize hi1 : inB n z1 = i1
    generalize hi2 : inB n z2 = i2
    have J0 : ∀ w, Calls Try.prog 147 #[.int .i64 z0, .int .i64 n] w fun e w' => e = .returned (.bool i0) ∧ w' = w := fun w => (impl_isIndex z0 n w).mono (by rintro _ _ ⟨rfl, rfl⟩; exact ⟨by rw [hi0], rfl⟩)
    have J1 : ∀ w, Calls Try.prog 147 #[.int .i64 z1, .int .i64 n] w fun e w' => e = .returned (.bool i1) ∧ w' = w := fun w => (impl_isIndex z1 n w).mono (by rintro _ _ ⟨rfl, rfl⟩; exact ⟨by rw [hi1], rfl⟩)
    have J2 : ∀ w, Calls Try.prog 147 #[.int .i64 z2, .int .i64 n] w fun e w' => e = .returned (.bool i2) ∧ w' = w := fun w => (impl_isIndex z2 n w).mono (by rintro _ _ ⟨rfl, rfl⟩; exact ⟨by rw [hi2], rfl⟩)
    have K0 := Lib.hid J0
    have K1 := Lib.hid J1
    have K2 := Lib.hid J2
    clear J0 J1 J2 hi0 hi1 hi2
    go_enter Try.func138, Try.ntmps138
    go_wp2
    go_loopw [12] (fun i w' => ∃ k : Nat, k ≤ 3 ∧ i = .int .i64 k ∧ (0 < k → i0 = true) ∧ (1 < k → i1 = true) ∧ (2 < k → i2 = true) ∧ w' = w) (fun i _ => 3 - (intOf i).toNat)
    case atStart => exact ⟨0, by decide, rfl, (fun h => absurd h (by decide)), (fun h => absurd h (by decide)), (fun h => absurd h (by decide)), rfl⟩
    case round =>
      obtain ⟨k, hk, rfl, h0, h1, h2, rfl⟩ := hrel
      have hcase : k = 0 ∨ k = 1 ∨ k = 2 ∨ k = 3 := by omega
      rcases hcase with rfl | rfl | rfl | rfl
      · cases i0
        · go_wp2_with (go_at_call 147; refine (K0.out _).mono ?_; rintro e w1 ⟨rfl, hw1⟩; rw [hw1]; clear hw1)
          go_ret
          exact ⟨ret_bool (by simp), 0, rfl⟩
        · go_wp2_with (go_at_call 147; refine (K0.out _).mono ?_; rintro e w1 ⟨rfl, hw1⟩; rw [hw1]; clear hw1)
          go_roundw
          case rel => exact ⟨1, by decide, rfl, (by first | trivial | exact fun _ => rfl | exact fun _ => h0 (by decide)), (fun h => absurd h (by decide)), (fun h => absurd h (by decide)), trivial⟩
          case measure => simp [intOf]
      · cases i1
        · go_wp2_with (go_at_call 147; refine (K1.out _).mono ?_; rintro e w1 ⟨rfl, hw1⟩; rw [hw1]; clear hw1)
          go_ret
          exact ⟨ret_bool (by simp), 0, rfl⟩
        · go_wp2_with (go_at_call 147; refine (K1.out _).mono ?_; rintro e w1 ⟨rfl, hw1⟩; rw [hw1]; clear hw1)
          go_roundw
          case rel => exact ⟨2, by decide, rfl, (by first | trivial | exact fun _ => rfl | exact fun _ => h0 (by decide)), (by first | trivial | exact fun _ => rfl | exact fun _ => h1 (by decide)), (fun h => absurd h (by decide)), trivial⟩
          case measure => simp [intOf]
      · cases i2
        · go_wp2_with (go_at_call 147; refine (K2.out _).mono ?_; rintro e w1 ⟨rfl, hw1⟩; rw [hw1]; clear hw1)
          go_ret
          exact ⟨ret_bool (by simp), 0, rfl⟩
        · go_wp2_with (go_at_call 147; refine (K2.out _).mono ?_; rintro e w1 ⟨rfl, hw1⟩; rw [hw1]; clear hw1)
          go_roundw
          case rel => exact ⟨3, by decide, rfl, (by first | trivial | exact fun _ => rfl | exact fun _ => h0 (by decide)), (by first | trivial | exact fun _ => rfl | exact fun _ => h1 (by decide)), (by first | trivial | exact fun _ => rfl | exact fun _ => h2 (by decide)), trivial⟩
          case measure => simp [intOf]
      · have e0 := h0 (by decide)
        have e1 := h1 (by decide)
        have e2 := h2 (by decide)
        subst e0 e1 e2
        clear h0 h1 h2
        by_cases h01 : z0 = z1
        · have hs : z1 = z0 := h01.symm
          clear h01
          subst hs
          go_wp2_with fail
          go_quiet (fail)
          go_wp2
          go_ret
          exact ⟨ret_bool (by simp), _, rfl⟩
        · have d01 : (z0 == z1) = false := beq_eq_false_iff_ne.2 h01
          by_cases h12 : z1 = z2
          · have hs : z2 = z1 := h12.symm
            clear h12
            subst hs
            go_wp2_with fail
            go_quiet (fail)
            go_wp2
            go_ret
            exact ⟨ret_bool (by simp [h01]), _, rfl⟩
          · have d12 : (z1 == z2) = false := beq_eq_false_iff_ne.2 h12
            by_cases h02 : z0 = z2
            · have hs : z2 = z0 := h02.symm
              clear h02 d12
              subst hs
              go_wp2_with fail
              go_quiet (fail)
              go_wp2
              go_ret
              exact ⟨ret_bool (by simp [h01, h12]), _, rfl⟩
            · have d02 : (z0 == z2) = false := beq_eq_false_iff_ne.2 h02
              have d20 : (z2 == z0) = false := beq_eq_false_iff_ne.2 (fun h => h02 h.symm)
              go_wp2_with fail
              go_quiet (fail)
              go_wp2
              go_ret
              refine ⟨ret_bool ?_, _, rfl⟩
              rw [fin3 h01 h12 h02]
              first | rfl | (simp only [bne, d01, d12, d20]; rfl) | (simp only [bne, d01, d12, d02]; rfl)
  · have hb : triB n t = false := by unfold triB; rw [hl, decide_eq_false h3]; rfl
    have h4 : ¬ (len : Int) = 3 := by omega
    rw [hb]
    clear hb
    go_enter Try.func138, Try.ntmps138
    go_wp2
    go_ret
    exact ⟨rfl, 0, rfl⟩
end Go.Proofs.Ytcgnmnbjgamedaa

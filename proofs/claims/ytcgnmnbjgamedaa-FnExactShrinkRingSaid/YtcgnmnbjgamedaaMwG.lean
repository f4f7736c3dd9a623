
/-
Which triangles are valid: what the program and its model return. Conditions: none.
-/
import Derived.Test.YtcgnmnbjgamedaaMwF
namespace Go.Proofs.Ytcgnmnbjgamedaa
open Go Fk Go.RowKit
set_option linter.unusedVariables false
set_option maxRecDepth 8000

def inB (n : Nat) (z : Int) : Bool := decide (0 ≤ z ∧ z < n)
def triB (n : Nat) (t : List Int) : Bool := decide (t.length = 3) && (inB n (t.getD 0 0) && inB n (t.getD 1 0) && inB n (t.getD 2 0)) && (decide (t.getD 0 0 ≠ t.getD 1 0) && decide (t.getD 1 0 ≠ t.getD 2 0) && decide (t.getD 0 0 ≠ t.getD 2 0))
theorem l00In (z : Int) (n : Nat) (w : World) :
    Calls Try.prog 63 #[.int .i64 z, .int .i64 0, .int .i64 ((n : Int) - 1)] w fun e w' => e = .returned (.bool (inB n z)) ∧ w' = w := by
  generalize hb : inB n z = b
  have H := Lib.hid hb
  clear hb
  by_cases h1 : 0 ≤ z
  · by_cases h2 : z < n
    · have h3 : z ≤ (n : Int) - 1 := by omega
      clear h2
      go_enter Try.func63, Try.ntmps63
      go_wp2
      go_ret
      exact ⟨ret_bool (by rw [← H.out]; exact (decide_eq_true ⟨h1, by omega⟩).symm), rfl⟩
    · have h3 : ¬ z ≤ (n : Int) - 1 := by omega
      clear h2
      go_enter Try.func63, Try.ntmps63
      go_wp2
      go_ret
      exact ⟨ret_bool (by rw [← H.out]; exact (decide_eq_false (fun h => by have := h.2; omega)).symm), rfl⟩
  · go_enter Try.func63, Try.ntmps63
    go_wp2
    go_ret
    exact ⟨ret_bool (by rw [← H.out]; exact (decide_eq_false (fun h => by have := h.1; omega)).symm), rfl⟩
theorem impl_isIndex (z : Int) (n : Nat) (w : World) :
    Calls Try.prog 147 #[.int .i64 z, .int .i64 n] w fun e w' => e = .returned (.bool (inB n z)) ∧ w' = w := by
  generalize hb : inB n z = b
  have H := Lib.hid hb
  clear hb
  by_cases h1 : 0 ≤ z
  · by_cases h2 : z < n
    · go_enter Try.func147, Try.ntmps147
      go_wp2
      go_ret
      exact ⟨ret_bool (by rw [← H.out]; exact (decide_eq_true ⟨h1, by omega⟩).symm), rfl⟩
    · go_enter Try.func147, Try.ntmps147
      go_wp2
      go_ret
      exact ⟨ret_bool (by rw [← H.out]; exact (decide_eq_false (fun h => by have := h.2; omega)).symm), rfl⟩
  · go_enter Try.func147, Try.ntmps147
    go_wp2
    go_ret
    exact ⟨ret_bool (by rw [← H.out]; exact (decide_eq_false (fun h => by have := h.1; omega)).symm), rfl⟩
set_option maxHeartbeats 1000000 in
theorem l02Triangle (a : Option Addr) (len cap : Nat) (t : List Int) (n : Nat) (w : World) (h : IsIs w a len cap t) (hn : (n : Int) ≤ 9223372036854775807) :
    Calls Try.prog 106 #[.slice a len cap, .int .i64 n] w fun e w' => e = .returned (.bool (triB n t)) ∧ ∃ k, w' = w.drewN k := by
  have hl := h.1
  by_cases h3 : len = 3
  · subst h3
    obtain ⟨b, o, rfl, hcell⟩ := h.some (by decide)
    have c0 := hcell 0 (by decide)
    have c1 := hcell 1 (by decide)
    have c2 := hcell 2 (by decide)
    simp only [Nat.add_zero] at c0
    unfold triB
    rw [hl, decide_eq_true rfl]
    have e1 : IntKind.i64.wrap ((n : Int) - 1) = (n : Int) - 1 := IntWalk.i64_in _ (by omega)
    generalize t.getD 0 0 = z0 at *
    generalize t.getD 1 0 = z1 at *
    generalize t.getD 2 0 = z2 at *
    clear h hcell hl hn
    generalize hi0 : inB n z0 = i0
    generalize hi1 : inB n z1 = i1
    generalize hi2 : inB n z2 = i2
    have I0 := Lib.hid hi0
    have I1 := Lib.hid hi1
    have I2 := Lib.hid hi2
    have J0 : ∀ w, Calls Try.prog 63 #[.int .i64 z0, .int .i64 0, .int .i64 ((n : Int) - 1)] w fun e w' => e = .returned (.bool i0) ∧ w' = w := fun w => (l00In z0 n w).mono (by rintro _ _ ⟨rfl, rfl⟩; exact ⟨by rw [hi0], rfl⟩)
    have J1 : ∀ w, Calls Try.prog 63 #[.int .i64 z1, .int .i64 0, .int .i64 ((n : Int) - 1)] w fun e w' => e = .returned (.bool i1) ∧ w' = w := fun w => (l00In z1 n w).mono (by rintro _ _ ⟨rfl, rfl⟩; exact ⟨by rw [hi1], rfl⟩)
    have J2 : ∀ w, Calls Try.prog 63 #[.int .i64 z2, .int .i64 0, .int .i64 ((n : Int) - 1)] w fun e w' => e = .returned (.bool i2) ∧ w' = w := fun w => (l00In z2 n w).mono (by rintro _ _ ⟨rfl, rfl⟩; exact ⟨by rw [hi2], rfl⟩)
    have K0 := Lib.hid J0
    have K1 := Lib.hid J1
    have K2 := Lib.hid J2
    clear J0 J1 J2 hi0 hi1 hi2 I0 I1 I2
    by_cases h01 : z0 = z1
    · have d01 : decide (z0 = z1) = true := decide_eq_true h01
      have hne : decide (z0 ≠ z1) = false := decide_eq_false (fun h => h h01)
      rw [hne]
      clear hne
      go_enter Try.func106, Try.ntmps106
      go_wp2_with fail
      go_quiet (fail)
      go_wp2
      go_ret
      exact ⟨ret_bool (by simp), _, rfl⟩
    · have d01 : (z0 == z1) = false := beq_eq_false_iff_ne.2 h01
      have hne01 : decide (z0 ≠ z1) = true := decide_eq_true h01
      rw [hne01]
      clear hne01
      by_cases h12 : z1 = z2
      · have d12 : decide (z1 = z2) = true := decide_eq_true h12
        have hne : decide (z1 ≠ z2) = false := decide_eq_false (fun h => h h12)
        rw [hne]
        clear hne d12
        have hs : z2 = z1 := h12.symm
        clear h12
        subst hs
        go_enter Try.func106, Try.ntmps106
        go_wp2_with fail
        go_quiet (fail)
        go_wp2
        go_ret
        exact ⟨ret_bool (by simp), _, rfl⟩
      · have d12 : (z1 == z2) = false := beq_eq_false_iff_ne.2 h12
        have hne12 : decide (z1 ≠ z2) = true := decide_eq_true h12
        rw [hne12]
        clear hne12
        by_cases h02 : z0 = z2
        · have d02 : decide (z0 = z2) = true := decide_eq_true h02
          have hne : decide (z0 ≠ z2) = false := decide_eq_false (fun h => h h02)
          rw [hne]
          clear hne d02 d12
          have hs : z2 = z0 := h02.symm
          clear h02
          subst hs
          go_enter Try.func106, Try.ntmps106
          go_wp2_with fail
          go_quiet (fail)
          go_wp2
          go_ret
          exact ⟨ret_bool (by simp), _, rfl⟩
        · have d02 : (z0 == z2) = false := beq_eq_false_iff_ne.2 h02
          have hne02 : decide (z0 ≠ z2) = true := decide_eq_true h02
          rw [hne02]
          clear hne02
          cases i0
          · go_enter Try.func106, Try.ntmps106
            go_wp2_with fail
            go_quiet (fail)
            go_wp2_with fail
            refine (K0.out _).mono ?_
            rintro e w1 ⟨rfl, rfl⟩
            go_wp2
            go_ret
            exact ⟨rfl, _, rfl⟩
          · cases i1
            · go_enter Try.func106, Try.ntmps106
              go_wp2_with fail
              go_quiet (fail)
              go_wp2_with fail
              refine (K0.out _).mono ?_
              rintro e w1 ⟨rfl, rfl⟩
              go_wp2_with fail
              refine (K1.out _).mono ?_
              rintro e w1 ⟨rfl, rfl⟩
              go_wp2
              go_ret
              exact ⟨rfl, _, rfl⟩
            · cases i2
              all_goals
                go_enter Try.func106, Try.ntmps106
                go_wp2_with fail
                go_quiet (fail)
                go_wp2_with fail
                refine (K0.out _).mono ?_
                rintro e w1 ⟨rfl, rfl⟩
                go_wp2_with fail
                refine (K1.out _).mono ?_
                rintro e w1 ⟨rfl, rfl⟩
                go_wp2_with fail
                refine (K2.out _).mono ?_
                rintro e w1 ⟨rfl, rfl⟩
                go_wp2
                go_ret
                exact ⟨rfl, _, rfl⟩
  · have h3' : decide ((len : Int) = 3) = false := decide_eq_false (by omega)
    have hb : triB n t = false := by unfold triB; rw [hl, decide_eq_false h3]; rfl
    have h4 : ¬ (len : Int) = 3 := by omega
    rw [hb]
    clear hb
    go_enter Try.func106, Try.ntmps106
    go_wp2_with fail
    go_quiet (fail)
    go_wp2
    go_ret
    exact ⟨rfl, _, rfl⟩
end Go.Proofs.Ytcgnmnbjgamedaa

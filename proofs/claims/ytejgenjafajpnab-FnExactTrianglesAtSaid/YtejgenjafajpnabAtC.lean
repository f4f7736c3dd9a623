
/-
The triangles that have a place: what the program asks of each. Conditions: none.
-/
import Derived.Test.YtejgenjafajpnabAtB
import Derived.Test.YtejgenjafajpnabAcs
namespace Go.Proofs.Ytejgenjafajpnab
open Go Fk Go.RowKit
set_option linter.unusedVariables false
set_option maxRecDepth 8000

theorem index3 (b : Nat) (j0 j1 j2 p : Int) (w : World) (z0 : w.cell? ⟨b, 0, none⟩ = some (.int .i64 j0)) (z1 : w.cell? ⟨b, 1, none⟩ = some (.int .i64 j1)) (z2 : w.cell? ⟨b, 2, none⟩ = some (.int .i64 j2)) :
    Calls Try.prog 124 #[.slice (some ⟨b, 0, none⟩) 3 3, .int .i64 p] w fun e w' => ∃ z : Int, e = .returned (.int .i64 z) ∧ decide (0 ≤ z) = (decide (j0 = p) || (decide (j1 = p) || decide (j2 = p))) ∧ w' = w := by
  by_cases h0 : j0 = p
  · subst h0
    go_enter Try.func124, Try.ntmps124
    go_wp2
    refine wp_loop_rounds 1 ?_
    rw [rounds_succ]
    go_wp2
    go_ret
    exact ⟨0, rfl, by simp, rfl⟩
  · have h0' : ¬ p = j0 := fun h => h0 h.symm
    by_cases h1 : j1 = p
    · subst h1
      go_enter Try.func124, Try.ntmps124
      go_wp2
      refine wp_loop_rounds 2 ?_
      rw [rounds_succ]
      go_wp2
      rw [rounds_succ]
      go_wp2
      go_ret
      exact ⟨1, rfl, by simp, rfl⟩
    · have h1' : ¬ p = j1 := fun h => h1 h.symm
      by_cases h2 : j2 = p
      · subst h2
        go_enter Try.func124, Try.ntmps124
        go_wp2
        refine wp_loop_rounds 3 ?_
        rw [rounds_succ]
        go_wp2
        rw [rounds_succ]
        go_wp2
        rw [rounds_succ]
        go_wp2
        go_ret
        exact ⟨2, rfl, by simp, rfl⟩
      · have h2' : ¬ p = j2 := fun h => h2 h.symm
        go_enter Try.func124, Try.ntmps124
        go_wp2
        refine wp_loop_rounds 4 ?_
        rw [rounds_succ]
        go_wp2
        rw [rounds_succ]
        go_wp2
        rw [rounds_succ]
        go_wp2
        rw [rounds_succ]
        go_wp2
        go_ret
        exact ⟨-1, rfl, by simp [h0, h1, h2], rfl⟩
end Go.Proofs.Ytejgenjafajpnab

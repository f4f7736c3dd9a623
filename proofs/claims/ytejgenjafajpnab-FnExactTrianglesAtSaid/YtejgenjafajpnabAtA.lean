
/-
The triangles that have two places: what the model gathers. Conditions: each triangle has three places.
-/
import Derived.Test.YtejgenjafajpnabMwI
import Derived.WalkKit
namespace Go.Proofs.Ytejgenjafajpnab
open Go Fk Go.RowKit
set_option linter.unusedVariables false
set_option maxRecDepth 8000

def hasB (t : List Int) (p : Int) : Bool := decide (t.getD 0 0 = p) || (decide (t.getD 1 0 = p) || decide (t.getD 2 0 = p))
set_option maxHeartbeats 400000 in
theorem l02Has (r : Option Addr) (q : Nat) (t : List Int) (p : Int) (w : World) (h : IsIs w r 3 q t) :
    Calls Try.prog 109 #[.slice r 3 q, .int .i64 p] w fun e w' => e = .returned (.bool (hasB t p)) ∧ w' = w := by
  obtain ⟨b, o, rfl, hz⟩ := h.some (by decide)
  have z0 := hz 0 (by decide)
  have z1 := hz 1 (by decide)
  have z2 := hz 2 (by decide)
  rw [Nat.add_zero] at z0
  unfold hasB
  clear hz h
  generalize t.getD 0 0 = j0 at *
  generalize t.getD 1 0 = j1 at *
  generalize t.getD 2 0 = j2 at *
  by_cases h0 : j0 = p
  · subst h0
    go_enter Try.func109, Try.ntmps109
    go_wp2
    go_ret
    simp
  · by_cases h1 : j1 = p
    · subst h1
      go_enter Try.func109, Try.ntmps109
      go_wp2
      go_ret
      simp
    · by_cases h2 : j2 = p
      · subst h2
        go_enter Try.func109, Try.ntmps109
        go_wp2
        go_ret
        simp
      · go_enter Try.func109, Try.ntmps109
        go_wp2
        go_ret
        simp [h0, h1, h2]
/-- The indices below k of the triangles with two places. -/
def atL (ts : List (List Int)) (p q : Int) : Nat → List Int
  | 0 => []
  | k + 1 => atL ts p q k ++ (bif hasB (ts.getD k []) p && hasB (ts.getD k []) q then [(k : Int)] else [])
theorem atL_len (ts : List (List Int)) (p q : Int) (k : Nat) : (atL ts p q k).length ≤ k := by
  induction k with
  | zero => simp [atL]
  | succ k ih => unfold atL; rw [List.length_append]; cases (hasB (ts.getD k []) p && hasB (ts.getD k []) q) <;> simp <;> omega
end Go.Proofs.Ytejgenjafajpnab

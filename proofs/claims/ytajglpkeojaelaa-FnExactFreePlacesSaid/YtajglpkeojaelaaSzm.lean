
/-
How great a mesh is: what the law's own function returns. Conditions: none.
-/
import Derived.Test.YtajglpkeojaelaaMwD
import Derived.Test.YtajglpkeojaelaaMwE
namespace Go.Proofs.Ytajglpkeojaelaa
open Go Fk Go.RowKit
set_option linter.unusedVariables false
set_option maxRecDepth 8000
theorem laws_szMeshR (pa ta : Option Addr) (pl pc tl tc : Nat) (cs : List C3) (ts : List (List Int)) (left : Int) (w : World) (hp : IsVs w pa pl pc cs) (ht : IsTs w ta tl tc ts) (h0 : 0 ≤ left) (h1 : left ≤ 1048576) :
    Calls Try.prog 35 #[.agg #[.slice pa pl pc, .slice ta tl tc], .int .i64 left] w fun e w' => (∃ r : Int, e = .returned (.int .i64 r) ∧ (r = -1 ∨ (0 ≤ r ∧ r ≤ 1048576 ∧ pl ≤ 1048576 ∧ tl ≤ 1048576 ∧ ∀ k, k < tl → (ts.getD k []).length ≤ 1048576))) ∧ Below w.heap.size w w' := by
  have hpm : pl ≤ 9223372036854775807 := by have h1 := hp.2.1; have h2 := hp.2.2.1; unfold maxLen at h2; omega
  have u := Try.underlying25
  go_enter Try.func35, Try.ntmps35
  go_wp2_with (go_at_call 22; refine (laws_szVectorS _ _ _ _ _ h0 h1 hpm).mono ?_; rintro e w1 ⟨⟨r, rfl, hr⟩, hw1⟩; rw [hw1]; clear hw1 w1; rcases hr with rfl | ⟨hr2, hr3, hn3⟩)
  · go_ret
    exact ⟨⟨-1, rfl, .inl rfl⟩, (Below.refl _ _).alloc (Nat.le_refl _) _⟩
  · have hb : Below w.heap.size w (w.alloc (.cells #[.slice pa pl pc, .slice ta tl tc] 25)) := (Below.refl _ _).alloc (Nat.le_refl _) _
    have ht' := ht.below hb
    go_wp2_with (go_at_call 82; refine (laws_szInt64SS _ _ _ _ _ _ ht' hr2 hr3).mono ?_; rintro e w1 ⟨⟨r', rfl, hr'⟩, hw1⟩; rw [hw1]; clear hw1 w1; rcases hr' with rfl | ⟨hr4, hr5, hn5, hn6⟩)
    · go_ret
      exact ⟨⟨-1, rfl, .inl rfl⟩, hb⟩
    · have HN := Lib.hid hn6
      clear hn6
      go_wp2
      go_ret
      exact ⟨⟨_, rfl, .inr ⟨hr4, hr5, hn3, hn5, HN.out⟩⟩, hb⟩

end Go.Proofs.Ytajglpkeojaelaa


/-
Products of vectors: what the program and its model return. Conditions: none beyond that the words fit.
-/
import Derived.Test.YtejgenjafajpnabVec
namespace Go.Proofs.Ytejgenjafajpnab
open Go Fk Go.RowKit
set_option linter.unusedVariables false

theorem impl_SameVector (x y z x' y' z' : Nat) (w : World) (h1 : x < 4294967296) (h2 : y < 4294967296) (h3 : z < 4294967296) (h1' : x' < 4294967296) (h2' : y' < 4294967296) (h3' : z' < 4294967296) :
    Calls Try.prog 60 #[vv x y z, vv x' y' z'] w fun en w' => en = .returned (.bool ((bitsZ x == bitsZ x') && (bitsZ y == bitsZ y') && (bitsZ z == bitsZ z'))) ∧ Below w.heap.size w w' := by
  have u := Try.underlying63
  have uv := Try.underlying65
  cases e1 : (bitsZ x == bitsZ x') <;> cases e2 : (bitsZ y == bitsZ y') <;> cases e3 : (bitsZ z == bitsZ z')
  all_goals
    go_enter Try.func60, Try.ntmps60
    go_wp2_with (go_at_call 100; refine (impl_SameNumber _ _ _ (by assumption) (by assumption)).mono ?_; rintro en w' ⟨rfl, n, rfl⟩)
    go_ret
    exact ⟨rfl, by first | exact below_drewN (((Below.refl _ _).alloc (Nat.le_refl _) _).alloc (by simp) _) _ | exact ((Below.refl _ _).alloc (Nat.le_refl _) _).alloc (by simp) _⟩
theorem l01VSame (x y z x' y' z' : Nat) (w : World) (h1 : x < 4294967296) (h2 : y < 4294967296) (h3 : z < 4294967296) (h1' : x' < 4294967296) (h2' : y' < 4294967296) (h3' : z' < 4294967296) :
    Calls Try.prog 57 #[vv x y z, vv x' y' z'] w fun en w' => en = .returned (.bool ((bitsZ x == bitsZ x') && (bitsZ y == bitsZ y') && (bitsZ z == bitsZ z'))) ∧ Below w.heap.size w w' := by
  have u := Try.underlying63
  have uv := Try.underlying65
  cases e1 : (bitsZ x == bitsZ x') <;> cases e2 : (bitsZ y == bitsZ y') <;> cases e3 : (bitsZ z == bitsZ z')
  all_goals
    go_enter Try.func57, Try.ntmps57
    go_wp2_with (go_at_call 99; refine (l01Same _ _ _ (by assumption) (by assumption)).mono ?_; rintro en w' ⟨rfl, rfl⟩)
    go_ret
    exact ⟨rfl, by first | exact below_drewN (((Below.refl _ _).alloc (Nat.le_refl _) _).alloc (by simp) _) _ | exact ((Below.refl _ _).alloc (Nat.le_refl _) _).alloc (by simp) _⟩
end Go.Proofs.Ytejgenjafajpnab


/-
Products of vectors: what the program and its model return. Conditions: none beyond that the words fit.
-/
import Derived.Test.YtcgnmnbjgamedaaVec
namespace Go.Proofs.Ytcgnmnbjgamedaa
open Go Fk Go.RowKit
set_option linter.unusedVariables false

theorem impl_product32 (x y : Nat) (w : World) (c d : Option Nat) (h1 : FV .f32 x c) (h2 : FV .f32 y d) :
    Calls Try.prog 50 #[.float .f32 x, .float .f32 y] w fun en w' => ∃ r, en = .returned (.float .f32 r) ∧ FV .f32 r (fop .mul .f32 c d) ∧ ∃ n, w' = w.drewN n := by
  have u := Try.underlying22
  go_enter Try.func50, Try.ntmps50
  go_wp2
  go_ret
  exact ⟨_, rfl, FV_fR h1 h2, _, rfl⟩

theorem l01Scale (x y z r : Nat) (w : World) (c d e q : Option Nat) (h1 : FV .f32 x c) (h2 : FV .f32 y d) (h3 : FV .f32 z e) (hr : FV .f32 r q) :
    Calls Try.prog 64 #[vv x y z, .float .f32 r] w fun en w' => ∃ a b g, en = .returned (vv a b g) ∧ FV .f32 a (fop .mul .f32 c q) ∧ FV .f32 b (fop .mul .f32 d q) ∧ FV .f32 g (fop .mul .f32 e q) ∧ Below w.heap.size w w' := by
  have u := Try.underlying22
  have uv := Try.underlying33
  go_enter Try.func64, Try.ntmps64
  go_wp2
  refine bodyPost_ret (v := vv _ _ _) (by simp [results, Try.results64, go_sem] <;> exact ⟨rfl, rfl, rfl⟩) rfl ⟨_, _, _, rfl, FV_fR h1 hr, FV_fR h2 hr, FV_fR h3 hr, ?_⟩
  exact below_drewN (((Below.refl _ _).alloc (Nat.le_refl _) _).alloc (by simp) _) _
set_option maxHeartbeats 2000000 in
theorem impl_ScaleVector (x y z r : Nat) (w : World) (c d e q : Option Nat) (h1 : FV .f32 x c) (h2 : FV .f32 y d) (h3 : FV .f32 z e) (hr : FV .f32 r q) :
    Calls Try.prog 60 #[vv x y z, .float .f32 r] w fun en w' => ∃ a b g, en = .returned (vv a b g) ∧ FV .f32 a (fop .mul .f32 c q) ∧ FV .f32 b (fop .mul .f32 d q) ∧ FV .f32 g (fop .mul .f32 e q) ∧ Below w.heap.size w w' := by
  have u := Try.underlying22
  have uv := Try.underlying33
  go_enter Try.func60, Try.ntmps60
  go_wp2_with fail
  go_region_held3 (fun w' => w'.cell? ⟨w.heap.size, 0, none⟩ = some (.float .f32 x) ∧ w'.cell? ⟨w.heap.size, 1, none⟩ = some (.float .f32 y) ∧ w'.cell? ⟨w.heap.size, 2, none⟩ = some (.float .f32 z)) (go_keep) ((go_at_call 50; refine (impl_product32 _ _ _ _ _ (by assumption) (by assumption)).mono ?_; rintro en w1 ⟨r1, rfl, hr1, n1, rfl⟩))
  all_goals
    go_wp2
    refine bodyPost_ret (v := vv _ _ _) (by simp [results, Try.results60, go_sem] <;> exact ⟨rfl, rfl, rfl⟩) rfl ⟨_, _, _, rfl, (by first | assumption | exact FV_fR (by assumption) (by assumption)), (by first | assumption | exact FV_fR (by assumption) (by assumption)), (by first | assumption | exact FV_fR (by assumption) (by assumption)), below_drewN (((Below.refl _ _).alloc (Nat.le_refl _) _).alloc (by simp) _) _⟩
theorem l01Inner (x y z x' y' z' : Nat) (w : World) (c d e c' d' e' : Option Nat) (h1 : FV .f32 x c) (h2 : FV .f32 y d) (h3 : FV .f32 z e) (h1' : FV .f32 x' c') (h2' : FV .f32 y' d') (h3' : FV .f32 z' e') :
    Calls Try.prog 101 #[vv x y z, vv x' y' z'] w fun en w' => ∃ a, en = .returned (.float .f32 a) ∧ FV .f32 a (fop .add .f32 (fop .add .f32 (fop .mul .f32 c c') (fop .mul .f32 d d')) (fop .mul .f32 e e')) ∧ Below w.heap.size w w' := by
  have u := Try.underlying22
  have uv := Try.underlying33
  go_enter Try.func101, Try.ntmps101
  go_wp2
  go_ret
  exact ⟨_, rfl, FV_fR (FV_fR (FV_fR h1 h1') (FV_fR h2 h2')) (FV_fR h3 h3'), below_drewN (((Below.refl _ _).alloc (Nat.le_refl _) _).alloc (by simp) _) _⟩
end Go.Proofs.Ytcgnmnbjgamedaa

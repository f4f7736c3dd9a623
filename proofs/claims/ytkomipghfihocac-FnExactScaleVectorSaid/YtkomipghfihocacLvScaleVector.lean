
/-
The laws of vectors return true: their walks. Conditions: none beyond that the words fit.
-/
import Derived.Test.YtkomipghfihocacVec
import Derived.Test.YtkomipghfihocacVecB

import Derived.Deep.DeepCutAuto
namespace Go.Proofs.Ytkomipghfihocac
open Go Fk Go.RowKit
set_option linter.unusedVariables false

set_option maxHeartbeats 1000000 in
theorem FnExactScaleVector_law (x0 y0 z0 x1 : Nat) (w : World) (v0 : x0 < 2 ^ FloatKind.f32.format.width ∧ y0 < 2 ^ FloatKind.f32.format.width ∧ z0 < 2 ^ FloatKind.f32.format.width) (v1 : x1 < 2 ^ FloatKind.f32.format.width) :
    Calls Try.prog 5 #[vv x0 y0 z0, .float .f32 x1] w fun e w' => e = .returned (.bool true) ∧ Below w.heap.size w w' := by
  obtain ⟨a0, b0, g0⟩ := v0
  have hx0 := FV.self a0
  have hy0 := FV.self b0
  have hz0 := FV.self g0
  have hx1 := FV.self v1
  have u := Try.underlying22
  have uv := Try.underlying25
  have ul := Try.underlying24
  go_enter Try.func5, Try.ntmps5
  go_wp2_with fail
  refine (laws_toVector _ _ _ _).mono ?_
  rintro en w1 ⟨rfl, hb1⟩
  obtain ⟨hc1, hf1⟩ := bcell hb1
  have hq1 : w.heap.size < w1.heap.size := by have := hb1.size; simp at this; omega
  go_wp2_with fail
  refine (spec_ScaleVector _ _ _ _ _ _ _ _ _ hx0 hy0 hz0 hx1).mono ?_
  rintro en w2 ⟨a, b, g, rfl, ha, hb, hg, hb2⟩
  obtain ⟨hc2, hf2⟩ := bcell hb2
  have hq2 : w.heap.size < w2.heap.size := by have := hb2.size; omega
  go_wp2_with fail
  refine (laws_toVector _ _ _ _).mono ?_
  rintro en w3 ⟨rfl, hb3⟩
  obtain ⟨hc3, hf3⟩ := bcell hb3
  have hq3 : w2.heap.size < w3.heap.size := by have := hb3.size; simp at this; omega
  go_wp2_with fail
  refine (impl_ScaleVector _ _ _ _ _ _ _ _ _ hx0 hy0 hz0 hx1).mono ?_
  rintro en w4 ⟨a', b', g', rfl, ha', hb', hg', hb4⟩
  obtain ⟨hc4, hf4⟩ := bcell hb4
  have hq4 : w2.heap.size < w4.heap.size := by have := hb4.size; omega
  go_wp2_with fail
  refine (laws_eqVector _ _ _ _ _ _ _ _ _ _ ha' hb' hg' ha hb hg).mono ?_
  rintro en w5 ⟨rfl, hb5⟩
  go_wp2
  go_ret
  exact ⟨rfl, ((((((((Below.refl _ w).alloc (Nat.le_refl _) _).trans (hb1.mono (by simp))).trans (hb2.mono (by omega))).alloc (by omega) _).trans (hb3.mono (by simp; omega))).trans (hb4.mono (by omega))).alloc (by omega) _).trans (hb5.mono (by simp; omega))⟩

end Go.Proofs.Ytkomipghfihocac

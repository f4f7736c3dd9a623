/-
Texts in one: what SwingOf stands on, part 17. Conditions: those of each.
-/
import Derived.Test.YtkdoibglgkcbkaaKSwingOf16
import Derived.Test.YtkdoibglgkcbkaaRows
import Derived.WalkKit
import Derived.ProofKit
import Derived.OpenShut
import Derived.ShutString
import Derived.ChangeOld
import Derived.Below
import Derived.Lib.SmallJoins

/-
How fast a mode swings: what the program and its model return, and the law. Conditions: none.
-/
namespace Go.Proofs.Ytkdoibglgkcbkaa
open Go Fk Go.RowKit
set_option linter.unusedVariables false
set_option maxRecDepth 8000

def swB (x y : Nat) (c : Option Nat) : Bool := geB c && sizeB y
def swC (x y : Nat) (c d : Option Nat) : Option Nat := bif swB x y c then rootC (fop .quo .f32 c d) else some 0
theorem impl_SwingOf (x y : Nat) (c d : Option Nat) (w : World) (hx : FV .f32 x c) (hy : FV .f32 y d) :
    Calls Try.prog 14 #[.float .f32 x, .float .f32 y] w fun e w' => ∃ r, e = .returned (.tuple #[.float .f32 r, .bool (swB x y c)]) ∧ FV .f32 r (swC x y c d) ∧ ∃ n, w' = w.drewN n := by
  have u := Try.underlying22
  unfold swC swB
  have ho := geB_order hx
  have HK := Lib.hid (fun w => impl_isMeasure y w hy.1)
  generalize geB c = f at *
  generalize sizeB y = g at *
  cases f <;> cases g
  all_goals
    go_enter Try.func14, Try.ntmps14
    go_wp2_with (first
      | (go_at_call 52; refine (HK.out _).mono ?_; rintro e w1 ⟨rfl, n, hw⟩; rw [hw]; clear hw w1)
      | (go_at_call 53; refine (impl_RootNumber _ _ _ (FV_fR hx hy)).mono ?_; rintro en w3 ⟨s, rfl, hs, n3, hw⟩; rw [hw]; clear hw w3))
    go_ret2
    exact ⟨_, rfl, by first | exact Fk.FV.zero | exact hs, by first | exact ⟨_, rfl⟩ | exact ⟨0, rfl⟩ | exact ⟨0, by simp⟩⟩
theorem spec_SwingOf (x y : Nat) (c d : Option Nat) (w : World) (hx : FV .f32 x c) (hy : FV .f32 y d) :
    Calls Try.prog 13 #[.float .f32 x, .float .f32 y] w fun e w' => ∃ r, e = .returned (.tuple #[.float .f32 r, .bool (swB x y c)]) ∧ FV .f32 r (swC x y c d) ∧ ∃ n, w' = w.drewN n := by
  have u := Try.underlying22
  unfold swC swB
  have ho := geB_order hx
  have HK := Lib.hid (fun w => l03Positive y w hy.1)
  generalize geB c = f at *
  generalize sizeB y = g at *
  cases f <;> cases g
  all_goals
    go_enter Try.func13, Try.ntmps13
    go_wp2_with (first
      | (go_at_call 50; refine (HK.out _).mono ?_; rintro e w1 ⟨rfl, n, hw⟩; rw [hw]; clear hw w1)
      | (go_at_call 51; refine (l01Sqrt _ _ _ (FV_fR hx hy)).mono ?_; rintro en w3 ⟨s, rfl, hs, n3, hw⟩; rw [hw]; clear hw w3))
    go_ret2
    exact ⟨_, rfl, by first | exact Fk.FV.zero | exact hs, by first | exact ⟨_, rfl⟩ | exact ⟨0, rfl⟩ | exact ⟨0, by simp⟩⟩
theorem FnExactSwingOf_law (x y : Nat) (w : World) (hx : x < 2 ^ FloatKind.f32.format.width) (hy : y < 2 ^ FloatKind.f32.format.width) :
    Calls Try.prog 3 #[.float .f32 x, .float .f32 y] w fun e w' => e = .returned (.bool true) ∧ Below w.heap.size w w' := by
  have u := Try.underlying22
  have u' := Try.underlying26
  have fx := FV.self hx
  have fy := FV.self hy
  go_enter Try.func3, Try.ntmps3
  go_wp2_with (first
    | (go_at_call 13; refine (spec_SwingOf _ _ _ _ _ fx fy).mono ?_; rintro e w1 ⟨r, rfl, hr, n, hw⟩; rw [hw]; clear hw w1)
    | (go_at_call 14; refine (impl_SwingOf _ _ _ _ _ fx fy).mono ?_; rintro e w1 ⟨s, rfl, hs, n', hw⟩; rw [hw]; clear hw w1)
    | (go_at_call 15; refine (laws_sameFloat _ _ _ _ (FV_wR hs) (FV_wR hr)).mono ?_; rintro en w' ⟨rfl, n1, rfl⟩))
  go_ret
  exact ⟨rfl, below_drewN (Below.refl _ _) _⟩
end Go.Proofs.Ytkdoibglgkcbkaa


/-
The law FnExactSwingOf holds at every input: its frame. Conditions: none.
-/
namespace Go.Proofs.Ytkdoibglgkcbkaa.fnExactSwingOfDone
open Go.ChangeShapes Go.WideShapes Go.ChangeAt Go.RowKit
open Go.ChangeMaps (open_string shut_string)
set_option linter.unusedVariables false

theorem own : ownKnob Try.prog.godebug = none := by kernel_rfl
theorem laidOut : laidOutB Try.prog = true := by kernel_rfl

set_option maxRecDepth 100000 in
theorem lifted (os : Os) (started : os.Started) (H : Type) (enc : TypeId × Value → H) :
    ReturnsInHanded {} Try.checked os 3 .any (Rows.fnExactSwingOfSpec.pre6 enc Try.prog Try.f3 Rows.fnExactSwingOfRow.domain false) (Rows.fnExactSwingOfSpec.post enc Try.prog Try.f3 false true false false) := by
  refine returnsInHanded_of_change (C := Try.checked) own started (by kernel_rfl) Try.func3
    (ChangeSpec.witness6 (enc := enc) (C := Try.checked) false ⟨#[], #[.float .f32 0, .float .f32 0], []⟩ 8 (by kernel_rfl) (by kernel_rfl) (by kernel_rfl) (by kernel_rfl)) ?_
  intro W base args ds gs before hval0 hW hcnd _
  have hval : ∀ (j : Nat) t v, Try.f3.params[j]? = some t → args[j]? = some v → Value.okWide Try.prog W .any base t v := hval0
  have hW' := hW
  obtain ⟨p, q, hA0, hV, rfl, hfz, hnd⟩ := hW
  have hA : DataW.TrodAll enc Try.prog W 0 (fun _ => true) true Try.f3.params.toList args.toList ds p := hA0
  rw [Try.params3] at hA hval
  obtain ⟨v0, vs0, d0, ds0, p0, q0, hargs, rfl, rfl, h0, r0⟩ := trodAll_cons hA
  obtain ⟨v1, vs1, d1, ds1, p1, q1, rfl, rfl, rfl, h1, r1⟩ := trodAll_cons r0
  obtain ⟨rfl, rfl, rfl⟩ := trodAll_nil r1
  obtain rfl : args = #[v0, v1] := by cases args; simp_all
  obtain ⟨rfl, rfl⟩ := trodVars_none hV
  have k0 := h0
  have lt0 : ∀ x ∈ p0, x.block < W.heap.size := by obtain ⟨m, hm⟩ := k0; exact DataW.trod_lt m _ _ _ hm
  obtain ⟨a0, e0, _, _, g0⟩ := open_float Try.underlying22 (hval 0 22 v0 rfl rfl) h0
  subst e0
  have w0 := Fk.wf_lt g0
  have k1 := h1
  have lt1 : ∀ x ∈ p1, x.block < W.heap.size := by obtain ⟨m, hm⟩ := k1; exact DataW.trod_lt m _ _ _ hm
  obtain ⟨a1, e1, _, _, g1⟩ := open_float Try.underlying22 (hval 1 22 v1 rfl rfl) h1
  subst e1
  have w1 := Fk.wf_lt g1
  clear hA0 hval0
  refine (FnExactSwingOf_law a0 a1 W w0 w1).mono fun e W' ⟨he, bel⟩ => ?_
  subst he
  exact ⟨_, rfl, _, _, _, [], _, [], hW', trodAll_mk1 (shut_bool Try.underlying4 _), (trodAll_cons_mk (Below.trod laidOut (by kernel_rfl) (of_decide_eq_true (by kernel_rfl)) k0 bel lt0) (trodAll_cons_mk (Below.trod laidOut (by kernel_rfl) (of_decide_eq_true (by kernel_rfl)) k1 bel lt1) trodAll_mk0)), rfl, bel.frame _, fun h => by cases h⟩
end Go.Proofs.Ytkdoibglgkcbkaa.fnExactSwingOfDone

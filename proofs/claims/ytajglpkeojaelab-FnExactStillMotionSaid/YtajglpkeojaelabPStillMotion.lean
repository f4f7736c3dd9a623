/-
The law FnExactStillMotion holds at every input: its frame. Conditions: none.
-/
import Derived.Test.YtajglpkeojaelabKStillMotion40
import Derived.Test.YtajglpkeojaelabRows
import Derived.WalkKit
import Derived.ProofKit
import Derived.OpenShut
import Derived.ShutString
import Derived.ChangeOld
import Derived.Below
import Derived.Lib.SmallJoins
namespace Go.Proofs.Ytajglpkeojaelab.fnExactStillMotionDone
open Go.ChangeShapes Go.WideShapes Go.ChangeAt Go.RowKit
open Go.ChangeMaps (open_string shut_string)
set_option linter.unusedVariables false

theorem own : ownKnob Try.prog.godebug = none := by kernel_rfl
theorem laidOut : laidOutB Try.prog = true := by kernel_rfl

set_option maxRecDepth 100000 in
theorem lifted (os : Os) (started : os.Started) (H : Type) (enc : TypeId × Value → H) :
    ReturnsInHanded {} Try.checked os 3 .any (Rows.fnExactStillMotionSpec.pre6 enc Try.prog Try.f3 Rows.fnExactStillMotionRow.domain false) (Rows.fnExactStillMotionSpec.post enc Try.prog Try.f3 false true false false) := by
  refine returnsInHanded_of_change (C := Try.checked) own started (by kernel_rfl) Try.func3
    (ChangeSpec.witness6 (enc := enc) (C := Try.checked) false ⟨#[], #[.agg #[.slice none 0 0, .slice none 0 0, .slice none 0 0, .float .f32 0, .float .f32 0, .slice none 0 0, .float .f32 0, .float .f32 0, .float .f32 0]], []⟩ 8 (by kernel_rfl) (by kernel_rfl) (by kernel_rfl) (by kernel_rfl)) ?_
  intro W base args ds gs before hval0 hW hcnd _
  have hval : ∀ (j : Nat) t v, Try.f3.params[j]? = some t → args[j]? = some v → Value.okWide Try.prog W .any base t v := hval0
  have hW' := hW
  obtain ⟨p, q, hA0, hV, rfl, hfz, hnd⟩ := hW
  have hA : DataW.TrodAll enc Try.prog W 0 (fun _ => true) true Try.f3.params.toList args.toList ds p := hA0
  rw [Try.params3] at hA hval
  obtain ⟨v0, vs0, d0, ds0, p0, q0, hargs, rfl, rfl, h0, r0⟩ := trodAll_cons hA
  obtain ⟨rfl, rfl, rfl⟩ := trodAll_nil r0
  obtain rfl : args = #[v0] := by cases args; simp_all
  obtain ⟨rfl, rfl⟩ := trodVars_none hV
  have k0 := h0
  have lt0 : ∀ x ∈ p0, x.block < W.heap.size := by obtain ⟨m, hm⟩ := k0; exact DataW.trod_lt m _ _ _ hm
  obtain ⟨pa0, ta0, sa0, wa0, pl0, pc0, tl0, tc0, sl0, sc0, wl0, wc0, cs0, ts0, ss0, zs0, fi0, be0, fx0, fy0, fz0, e0, wp0, wt0, ws0, ww0, wf0⟩ := Fk.open_body Try.underlying32 (by kernel_rfl) (by kernel_rfl) (by kernel_rfl) Try.underlying25 (by kernel_rfl) Try.underlying22 Try.underlying30 (by kernel_rfl) (by kernel_rfl) Try.underlying27 Try.underlying27 Try.underlying27 Try.underlying23 Try.underlying68 Try.underlying2 (by kernel_rfl) (by kernel_rfl) Try.underlying26 Try.underlying144 (by kernel_rfl) (by kernel_rfl) Try.underlying2 Try.underlying2 Try.underlying27 Try.underlying27 Try.underlying27 Try.underlying27 Try.underlying28 Try.underlying27 (by kernel_rfl) Try.underlying30 (by kernel_rfl) Try.underlying27 Try.underlying27 Try.underlying27 (hval 0 32 v0 rfl rfl) h0
  subst e0
  clear hA0 hval0
  refine (FnExactStillMotion_law pa0 ta0 sa0 wa0 pl0 pc0 tl0 tc0 sl0 sc0 wl0 wc0 cs0 ts0 ss0 zs0 fi0 be0 fx0 fy0 fz0 W wp0 wt0 ws0 ww0 wf0).mono fun e W' ⟨he, bel⟩ => ?_
  subst he
  exact ⟨_, rfl, _, _, _, [], _, [], hW', trodAll_mk1 (shut_bool Try.underlying4 _), (trodAll_cons_mk (Below.trod laidOut (by kernel_rfl) (of_decide_eq_true (by kernel_rfl)) k0 bel lt0) trodAll_mk0), rfl, bel.frame _, fun h => by cases h⟩

theorem proved : Rows.FnExactStillMotionSaid :=
  OpenClaim.holds_of_wide 3 Try.f3 rfl rfl rfl rfl rfl rfl rfl ⟨rfl, rfl, rfl, rfl, rfl⟩ rfl rfl rfl rfl rfl (by kernel_rfl) Try.func3 (by kernel_rfl)
    (of_decide_eq_true (by kernel_rfl)) (by unfold Func.isWrapper; first | (rw [if_pos (by decide +kernel)]; kernel_rfl) | (rw [if_neg (by decide +kernel)]; exact ⟨rfl, rfl⟩))
    (fun os started H enc _ => lifted os started H enc)
end Go.Proofs.Ytajglpkeojaelab.fnExactStillMotionDone

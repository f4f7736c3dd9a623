/-
Texts in one: what MovePlaces stands on, part 29. Conditions: those of each.
-/
import Derived.Test.YtmbekamnogbgaaaKMovePlaces28
import Derived.Lib.SmallJoins
import Derived.Test.YtmbekamnogbgaaaRows
import Derived.WalkKit
import Derived.ProofKit
import Derived.OpenShut
import Derived.ShutString
import Derived.ChangeOld
import Derived.Below

/-
A list of vectors that comes in as an argument. Conditions: none.
-/
namespace Go.Proofs.Ytmbekamnogbgaaa
namespace Fk
open Go Go.RowKit
set_option linter.unusedVariables false
section
open Go.ChangeShapes Go.WideShapes Go.Deep
variable {H : Type} {enc : TypeId × Value → H} {P : Program} {w : World} {base : Nat} {held : Bool}
theorem open_vecs {t ev : TypeId} {f0 f1 f2 : Field} {a : Option Addr} {len cap : Nat} {d : DataW H} {p : List MemPlace}
    (hp : P.underlying t = some (.slice ev)) (hev : P.underlying ev = some (.struct #[f0, f1, f2])) (honev : oneCellFields P #[f0, f1, f2] = true) (hCv : P.cellsOf ev = 3)
    (he0 : P.underlying f0.type = some (.float .f32)) (he1 : P.underlying f1.type = some (.float .f32)) (he2 : P.underlying f2.type = some (.float .f32))
    (h : DataW.Trod enc P w base (fun _ => true) held t (.slice a len cap) d p) : ∃ cs, IsVs w a len cap cs := by
  obtain ⟨fuel, hf⟩ := h
  obtain ⟨a', len', cap', cs, e, hv⟩ := trod_vecs hp hev honev hCv he0 he1 he2 (by simpa [Value.cells] using hf)
  cases e
  exact ⟨cs, hv⟩
end
end Fk
end Go.Proofs.Ytmbekamnogbgaaa


/-
The law FnExactMovePlaces holds at every input: its frame. Conditions: none.
-/
namespace Go.Proofs.Ytmbekamnogbgaaa.fnExactMovePlacesDone
open Go.ChangeShapes Go.WideShapes Go.ChangeAt Go.RowKit
open Go.ChangeMaps (open_string shut_string)
set_option linter.unusedVariables false

theorem own : ownKnob Try.prog.godebug = none := by kernel_rfl
theorem laidOut : laidOutB Try.prog = true := by kernel_rfl

set_option maxRecDepth 100000 in
theorem lifted (os : Os) (started : os.Started) (H : Type) (enc : TypeId × Value → H) :
    ReturnsInHanded {} Try.checked os 4 .any (Rows.fnExactMovePlacesSpec.pre6 enc Try.prog Try.f4 Rows.fnExactMovePlacesRow.domain false) (Rows.fnExactMovePlacesSpec.post enc Try.prog Try.f4 false true false false) := by
  refine returnsInHanded_of_change (C := Try.checked) own started (by kernel_rfl) Try.func4
    (ChangeSpec.witness6 (enc := enc) (C := Try.checked) false ⟨#[], #[.agg #[.slice none 0 0, .slice none 0 0, .slice none 0 0, .float .f32 0, .float .f32 0, .slice none 0 0, .float .f32 0, .float .f32 0, .float .f32 0], .slice none 0 0, .float .f32 0], []⟩ 8 (by kernel_rfl) (by kernel_rfl) (by kernel_rfl) (by kernel_rfl)) ?_
  intro W base args ds gs before hval0 hW hcnd _
  have hval : ∀ (j : Nat) t v, Try.f4.params[j]? = some t → args[j]? = some v → Value.okWide Try.prog W .any base t v := hval0
  have hW' := hW
  obtain ⟨p, q, hA0, hV, rfl, hfz, hnd⟩ := hW
  have hA : DataW.TrodAll enc Try.prog W 0 (fun _ => true) true Try.f4.params.toList args.toList ds p := hA0
  rw [Try.params4] at hA hval
  obtain ⟨v0, vs0, d0, ds0, p0, q0, hargs, rfl, rfl, h0, r0⟩ := trodAll_cons hA
  obtain ⟨v1, vs1, d1, ds1, p1, q1, rfl, rfl, rfl, h1, r1⟩ := trodAll_cons r0
  obtain ⟨v2, vs2, d2, ds2, p2, q2, rfl, rfl, rfl, h2, r2⟩ := trodAll_cons r1
  obtain ⟨rfl, rfl, rfl⟩ := trodAll_nil r2
  obtain rfl : args = #[v0, v1, v2] := by cases args; simp_all
  obtain ⟨rfl, rfl⟩ := trodVars_none hV
  have k0 := h0
  have lt0 : ∀ x ∈ p0, x.block < W.heap.size := by obtain ⟨m, hm⟩ := k0; exact DataW.trod_lt m _ _ _ hm
  obtain ⟨pa0, ta0, sa0, wa0, pl0, pc0, tl0, tc0, sl0, sc0, wl0, wc0, cs0, ts0, ss0, zs0, fi0, be0, fx0, fy0, fz0, e0, wp0, wt0, ws0, ww0, wf0⟩ := Fk.open_body Try.underlying48 (by kernel_rfl) (by kernel_rfl) (by kernel_rfl) Try.underlying25 (by kernel_rfl) Try.underlying22 Try.underlying46 (by kernel_rfl) (by kernel_rfl) Try.underlying31 Try.underlying31 Try.underlying31 Try.underlying23 Try.underlying81 Try.underlying2 (by kernel_rfl) (by kernel_rfl) Try.underlying45 Try.underlying176 (by kernel_rfl) (by kernel_rfl) Try.underlying2 Try.underlying2 Try.underlying31 Try.underlying31 Try.underlying31 Try.underlying31 Try.underlying32 Try.underlying31 (by kernel_rfl) Try.underlying46 (by kernel_rfl) Try.underlying31 Try.underlying31 Try.underlying31 (hval 0 48 v0 rfl rfl) h0
  subst e0
  have k1 := h1
  have lt1 : ∀ x ∈ p1, x.block < W.heap.size := by obtain ⟨m, hm⟩ := k1; exact DataW.trod_lt m _ _ _ hm
  obtain ⟨a1, len1, cap1, e1⟩ := okWide_slice Try.underlying22 (hval 1 22 v1 rfl rfl)
  subst e1
  obtain ⟨cs1, w1⟩ := Fk.open_vecs Try.underlying22 Try.underlying46 (by kernel_rfl) (by kernel_rfl) Try.underlying31 Try.underlying31 Try.underlying31 h1
  have k2 := h2
  have lt2 : ∀ x ∈ p2, x.block < W.heap.size := by obtain ⟨m, hm⟩ := k2; exact DataW.trod_lt m _ _ _ hm
  obtain ⟨a2, e2, _, _, g2⟩ := open_float Try.underlying31 (hval 2 31 v2 rfl rfl) h2
  subst e2
  have w2 := Fk.wf_lt g2
  clear hA0 hval0
  refine (FnExactMovePlaces_law pa0 ta0 sa0 wa0 pl0 pc0 tl0 tc0 sl0 sc0 wl0 wc0 cs0 ts0 ss0 zs0 fi0 be0 fx0 fy0 fz0 a1 len1 cap1 cs1 a2 W wp0 wt0 ws0 ww0 wf0 w1 w2).mono fun e W' ⟨he, bel⟩ => ?_
  subst he
  exact ⟨_, rfl, _, _, _, [], _, [], hW', trodAll_mk1 (shut_bool Try.underlying4 _), (trodAll_cons_mk (Below.trod laidOut (by kernel_rfl) (of_decide_eq_true (by kernel_rfl)) k0 bel lt0) (trodAll_cons_mk (Below.trod laidOut (by kernel_rfl) (of_decide_eq_true (by kernel_rfl)) k1 bel lt1) (trodAll_cons_mk (Below.trod laidOut (by kernel_rfl) (of_decide_eq_true (by kernel_rfl)) k2 bel lt2) trodAll_mk0))), rfl, bel.frame _, fun h => by cases h⟩
end Go.Proofs.Ytmbekamnogbgaaa.fnExactMovePlacesDone

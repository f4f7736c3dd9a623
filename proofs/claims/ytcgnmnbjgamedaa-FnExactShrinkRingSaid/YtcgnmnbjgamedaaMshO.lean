
/-
A mesh that comes in as an argument. Conditions: none.
-/
import Derived.Test.YtcgnmnbjgamedaaMsh
import Derived.Lib.SmallJoins
namespace Go.Proofs.Ytcgnmnbjgamedaa
namespace Fk
open Go Go.RowKit
set_option linter.unusedVariables false
section
open Go.ChangeShapes Go.WideShapes Go.Deep
variable {H : Type} {enc : TypeId × Value → H} {P : Program} {w : World} {base : Nat} {held : Bool}
/-- A mesh that came in. -/
theorem open_mesh {r : Reach} {b0 : Nat} {t : TypeId} {g0 g1 : Field} {ev eq : TypeId} {f0 f1 f2 : Field} {er : TypeId} {v : Value} {d : DataW H} {p : List MemPlace} (hs : P.underlying t = some (.struct #[g0, g1])) (hone : oneCellFields P #[g0, g1] = true) (hC : P.cellsOf t = 2)
    (hp : P.underlying g0.type = some (.slice ev)) (hev : P.underlying ev = some (.struct #[f0, f1, f2])) (honev : oneCellFields P #[f0, f1, f2] = true) (hCv : P.cellsOf ev = 3)
    (he0 : P.underlying f0.type = some (.float .f32)) (he1 : P.underlying f1.type = some (.float .f32)) (he2 : P.underlying f2.type = some (.float .f32))
    (ht : P.underlying g1.type = some (.slice er)) (her : P.underlying er = some (.slice eq)) (heq : P.underlying eq = some (.int .i64)) (ce : P.cellsOf er = 1) (cq : P.cellsOf eq = 1)
    (hv : Value.okWide P w r b0 t v) (h : DataW.Trod enc P w base (fun _ => true) held t v d p) :
    ∃ pa ta pl pc tl tc cs ts, v = .agg #[.slice pa pl pc, .slice ta tl tc] ∧ IsVs w pa pl pc cs ∧ IsTs w ta tl tc ts := by
  obtain ⟨v0, v1, y0, y1, n, rfl, _, _, h0, h1⟩ := Joins.open_agg2 hs hone hC hv h
  obtain ⟨pa, pl, pc, cs, e0, w0⟩ := trod_vecs hp hev honev hCv he0 he1 he2 h0
  obtain ⟨ta, tl, tc, ts, e1, w1⟩ := trod_rows ht her heq ce cq h1
  cases e0; cases e1
  exact ⟨pa, ta, pl, pc, tl, tc, cs, ts, rfl, w0, w1⟩
end
end Fk
end Go.Proofs.Ytcgnmnbjgamedaa

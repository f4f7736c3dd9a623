
/-
A list of vectors that comes in as an argument. Conditions: none.
-/
import Derived.Test.YtajglpkeojaelaaMsh
import Derived.Lib.SmallJoins
namespace Go.Proofs.Ytajglpkeojaelaa
namespace Fk
open Go Go.RowKit
set_option linter.unusedVariables false
section
open Go.ChangeShapes Go.WideShapes Go.Deep
variable {H : Type} {enc : TypeId × Value → H} {P : Program} {w : World} {base : Nat} {held : Bool}
theorem open_vecs {t ev : TypeId} {f0 f1 f2 : Field} {a : Option Addr} {len cap : Nat} {d : DataW H} {p : List MemPlace}
    (hp : P.underlying t = some (.slice ev)) (hev : P.underlying ev = some (.struct #[f0, f1, f2])) (honev : oneCellFields P #[f0, f1, f2] = true) (hCv : P.cellsOf ev = 3)
    (he0 : P.underlying f0.type = some (.float .f32)) (he1 : P.underlying f1.type = some (.float .f32)) (he2 : P.underlying f2.type = some (.float .f32))
    (h : DataW.Trod enc P w base (fun _ => true) held t (.slice a len cap) d p) : ∃ cs, IsVs w a len cap cs := by
  obtain ⟨fuel, hf⟩ := h
  obtain ⟨a', len', cap', cs, e, hv⟩ := trod_vecs hp hev honev hCv he0 he1 he2 (by simpa [Value.cells] using hf)
  cases e
  exact ⟨cs, hv⟩
end
end Fk
end Go.Proofs.Ytajglpkeojaelaa

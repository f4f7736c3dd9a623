
/-
Marks in lists of springs and of numbers: they are written where the list lies, and nowhere else, and they are held. Conditions: the list's cells may be written.
-/
import Derived.Test.YtajglpkeojaelaaMkC
import Derived.Test.YtajglpkeojaelaaBoB
namespace Go.Proofs.Ytajglpkeojaelaa
open Go Fk Go.RowKit
set_option linter.unusedVariables false
set_option maxRecDepth 8000

/-- What the mark of a cell of a list of springs is. -/
def spV (z : Int) (j : Nat) : Value := if j % 4 < 2 then .int .i64 z else .float .f32 (floatOfInt .f32 z)
end Go.Proofs.Ytajglpkeojaelaa

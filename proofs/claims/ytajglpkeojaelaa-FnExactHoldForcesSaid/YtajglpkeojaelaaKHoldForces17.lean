/-
Texts in one: what HoldForces stands on, part 17. Conditions: those of each.
-/
import Derived.Test.YtajglpkeojaelaaKHoldForces16

/-
Normals of triangles: what the program returns. Conditions: the mesh is valid and has the triangle.
-/
namespace Go.Proofs.Ytajglpkeojaelaa
open Go Fk Go.RowKit
set_option linter.unusedVariables false
set_option maxRecDepth 8000

end Go.Proofs.Ytajglpkeojaelaa


/-
Normals: all arguments, of the program and of its model. Conditions: none beyond that the mesh lies in memory.
-/
namespace Go.Proofs.Ytajglpkeojaelaa
open Go Fk Go.RowKit
set_option linter.unusedVariables false
set_option maxRecDepth 8000

end Go.Proofs.Ytajglpkeojaelaa

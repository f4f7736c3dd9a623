
/-
Normals of triangles: what the program returns. Conditions: the mesh is valid and has the triangle.
-/
import Derived.Test.YtajglpkeojaelaaNrA
namespace Go.Proofs.Ytajglpkeojaelaa
open Go Fk Go.RowKit
set_option linter.unusedVariables false
set_option maxRecDepth 8000

end Go.Proofs.Ytajglpkeojaelaa

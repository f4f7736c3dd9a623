
/-
Normals: all arguments, of the program and of its model. Conditions: none beyond that the mesh lies in memory.
-/
import Derived.Test.YtajglpkeojaelaaNrB
import Derived.Test.YtajglpkeojaelaaReg2
namespace Go.Proofs.Ytajglpkeojaelaa
open Go Fk Go.RowKit
set_option linter.unusedVariables false
set_option maxRecDepth 8000

end Go.Proofs.Ytajglpkeojaelaa

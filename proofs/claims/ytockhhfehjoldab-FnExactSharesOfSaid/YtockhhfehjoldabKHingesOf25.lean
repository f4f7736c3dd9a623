/-
Texts in one: what HingesOf stands on, part 25. Conditions: those of each.
-/
import Derived.Test.YtockhhfehjoldabKHingesOf24
import Derived.Handy

/-
What a hold leaves of a force along its way: the program and the model. Conditions: none beyond that the words fit.
-/
namespace Go.Proofs.Ytockhhfehjoldab
open Go Fk Go.RowKit
set_option linter.unusedVariables false
set_option maxRecDepth 8000

end Go.Proofs.Ytockhhfehjoldab


/-
What a hold leaves of a force: the program and the model. Conditions: none beyond that the words fit.
-/
namespace Go.Proofs.Ytockhhfehjoldab
open Go Fk Go.RowKit
set_option linter.unusedVariables false
set_option maxRecDepth 8000

def forceC (c : HC) (F : C3) : C3 := bif holdB c then leaveC c F else (some 0, some 0, some 0)
end Go.Proofs.Ytockhhfehjoldab


/-
What a hold leaves of a force: the model. Conditions: none beyond that the words fit.
-/
namespace Go.Proofs.Ytockhhfehjoldab
open Go Fk Go.RowKit
set_option linter.unusedVariables false
set_option maxRecDepth 8000

end Go.Proofs.Ytockhhfehjoldab


/-
Rows of integers and lists that the model clones: both together. Conditions: none.
-/
namespace Go.Proofs.Ytockhhfehjoldab
open Go Fk Go.RowKit
end Go.Proofs.Ytockhhfehjoldab

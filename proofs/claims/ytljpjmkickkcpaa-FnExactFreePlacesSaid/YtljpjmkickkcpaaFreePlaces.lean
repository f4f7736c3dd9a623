
/-
The law FreePlaces holds at every input: its frame. Conditions: none.
-/
import Derived.Test.YtljpjmkickkcpaaRows
import Derived.Test.YtljpjmkickkcpaaFpD
import Derived.WalkKit
import Derived.ProofKit
import Derived.OpenShut
import Derived.ShutString
import Derived.ChangeOld
import Derived.Below
import Derived.Lib.SmallJoins
import Derived.Test.YtljpjmkickkcpaaMshO
import Derived.Test.YtljpjmkickkcpaaHoA
namespace Go.Proofs.Ytljpjmkickkcpaa.freePlacesDone
open Go.ChangeShapes Go.WideShapes Go.ChangeAt Go.RowKit
open Go.ChangeMaps (open_string shut_string)
set_option linter.unusedVariables false

theorem own : ownKnob Try.prog.godebug = none := by kernel_rfl
theorem laidOut : laidOutB Try.prog = true := by kernel_rfl

end Go.Proofs.Ytljpjmkickkcpaa.freePlacesDone

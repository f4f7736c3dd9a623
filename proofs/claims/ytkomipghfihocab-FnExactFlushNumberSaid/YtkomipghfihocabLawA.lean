
/-
The laws of single numbers return true: their walks. Conditions: none beyond that the words fit.
-/
import Derived.Test.YtkomipghfihocabScal
import Derived.Below
namespace Go.Proofs.Ytkomipghfihocab
open Go Fk Go.RowKit
set_option linter.unusedVariables false
theorem lt32 {x : Nat} (h : x < 2 ^ FloatKind.f32.format.width) : x < 4294967296 := h
theorem below_n (w : World) (n : Nat) : Below w.heap.size w (w.drewN n) := below_drewN (Below.refl _ _) n

end Go.Proofs.Ytkomipghfihocab

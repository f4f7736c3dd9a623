/-
  No cell of these rows narrows 'for every input' (looked for: loops, veiled, ifaces, maps, wideKeys, modest, calm, conditions, laid).
  DERIVED. THE GIVEN ROWS OF THIS SEAT. 5 by the template 'for every input the law returns true; each argument reads behind the call as it read before'; 0 by the template 'total and deterministic' (their statements: YtmmiadkmldaegabTotals.lean).
  GIVEN WITH THE SEED: the statements are not yours to turn. If you find one false, say at which input.
  Laid BY PROGRAM, IN A SANDBOX (cutbox-rows.mjs): the forced cells as the released guide's own fill.sh prints them over the translation 587dc89b81f1a7c1… (all of the seat's roots in one cut). By AI agents, Wed Nov 11 2026. No macro, syntax, notation, axiom, sorry.
-/
import Derived.Test.YtmmiadkmldaegabChecked
import GoSem.Claim
import GoSem.ClaimJoined
import GoSem.ClaimMapViews
import Derived.JoinedTies
import Derived.KernelRfl
namespace Go.Proofs.Ytmmiadkmldaegab
/- THE CELL 'sum', in the pinned program and in every row, IS THE sha256 OF THE DUMP (.gsa) THAT YtmmiadkmldaegabProg.lean LOADS. Nothing in Lean hashes anything: it is a label: what it is worth is what the hold of that sum in a sandbox is worth. -/
noncomputable def Try.pinned : Pinned := { name := "ytmmiadkmldaegab", sum := "587dc89b81f1a7c189616dba1abc760be6d7726105e55ed7a0ab29c522364126", checked := Try.checked }
namespace Rows
def none {H : Type} : Left H := { results := [], args := [] }

/-- 'laws.FnExactSameBody': WHATEVER THE INPUT: true; the input reads as it did. -/
def fnExactSameBodySpec : ChangeSpec := { name := "fnExactSameBody", fn := fun _ => fun
  | [d1, d2] => { results := [.lit (.bool true)], args := [d1, d2] }
  | _ => none }
def fnExactSameBodyRow : OpenClaim := { program := "ytmmiadkmldaegab", sum := "587dc89b81f1a7c189616dba1abc760be6d7726105e55ed7a0ab29c522364126", func := "loop.example/g01222/laws.FnExactSameBody", spec := "fnExactSameBody", inPlace := ["math.Float32bits"], unfollowed := true, recurses := true, plainKeys := false, apart := false }
def FnExactSameBodySaid : Prop := fnExactSameBodyRow.holds Try.pinned (OpenSpec.ofChange fnExactSameBodySpec)

/-- ITS FALSE NEIGHBOUR: 'it returns false'. Refute it at one input. -/
def fnExactSameBodyWrong : ChangeSpec := { name := "fnExactSameBody", fn := fun _ => fun
  | [d1, d2] => { results := [.lit (.bool false)], args := [d1, d2] }
  | _ => none }
def FnExactSameBodyWrongFalsely : Prop := fnExactSameBodyRow.holds Try.pinned (OpenSpec.ofChange fnExactSameBodyWrong)

/-- 'laws.FnExactBareBody': WHATEVER THE INPUT: true; the input reads as it did. -/
def fnExactBareBodySpec : ChangeSpec := { name := "fnExactBareBody", fn := fun _ => fun
  | [d] => { results := [.lit (.bool true)], args := [d] }
  | _ => none }
def fnExactBareBodyRow : OpenClaim := { program := "ytmmiadkmldaegab", sum := "587dc89b81f1a7c189616dba1abc760be6d7726105e55ed7a0ab29c522364126", func := "loop.example/g01222/laws.FnExactBareBody", spec := "fnExactBareBody", plainKeys := false, apart := false }
def FnExactBareBodySaid : Prop := fnExactBareBodyRow.holds Try.pinned (OpenSpec.ofChange fnExactBareBodySpec)

/-- ITS FALSE NEIGHBOUR: 'it returns false'. Refute it at one input. -/
def fnExactBareBodyWrong : ChangeSpec := { name := "fnExactBareBody", fn := fun _ => fun
  | [d] => { results := [.lit (.bool false)], args := [d] }
  | _ => none }
def FnExactBareBodyWrongFalsely : Prop := fnExactBareBodyRow.holds Try.pinned (OpenSpec.ofChange fnExactBareBodyWrong)

/-- 'laws.FnExactMovePlaces': WHATEVER THE INPUT: true; the input reads as it did. -/
def fnExactMovePlacesSpec : ChangeSpec := { name := "fnExactMovePlaces", fn := fun _ => fun
  | [d1, d2, d3] => { results := [.lit (.bool true)], args := [d1, d2, d3] }
  | _ => none }
def fnExactMovePlacesRow : OpenClaim := { program := "ytmmiadkmldaegab", sum := "587dc89b81f1a7c189616dba1abc760be6d7726105e55ed7a0ab29c522364126", func := "loop.example/g01222/laws.FnExactMovePlaces", spec := "fnExactMovePlaces", plainKeys := false, apart := false }
def FnExactMovePlacesSaid : Prop := fnExactMovePlacesRow.holds Try.pinned (OpenSpec.ofChange fnExactMovePlacesSpec)

/-- ITS FALSE NEIGHBOUR: 'it returns false'. Refute it at one input. -/
def fnExactMovePlacesWrong : ChangeSpec := { name := "fnExactMovePlaces", fn := fun _ => fun
  | [d1, d2, d3] => { results := [.lit (.bool false)], args := [d1, d2, d3] }
  | _ => none }
def FnExactMovePlacesWrongFalsely : Prop := fnExactMovePlacesRow.holds Try.pinned (OpenSpec.ofChange fnExactMovePlacesWrong)

/-- 'laws.FnExactStretchesOf': WHATEVER THE INPUT: true; the input reads as it did. -/
def fnExactStretchesOfSpec : ChangeSpec := { name := "fnExactStretchesOf", fn := fun _ => fun
  | [d] => { results := [.lit (.bool true)], args := [d] }
  | _ => none }
def fnExactStretchesOfRow : OpenClaim := { program := "ytmmiadkmldaegab", sum := "587dc89b81f1a7c189616dba1abc760be6d7726105e55ed7a0ab29c522364126", func := "loop.example/g01222/laws.FnExactStretchesOf", spec := "fnExactStretchesOf", inPlace := ["math.sqrt"], unfollowed := true, recurses := true, plainKeys := false, apart := false }
def FnExactStretchesOfSaid : Prop := fnExactStretchesOfRow.holds Try.pinned (OpenSpec.ofChange fnExactStretchesOfSpec)

/-- ITS FALSE NEIGHBOUR: 'it returns false'. Refute it at one input. -/
def fnExactStretchesOfWrong : ChangeSpec := { name := "fnExactStretchesOf", fn := fun _ => fun
  | [d] => { results := [.lit (.bool false)], args := [d] }
  | _ => none }
def FnExactStretchesOfWrongFalsely : Prop := fnExactStretchesOfRow.holds Try.pinned (OpenSpec.ofChange fnExactStretchesOfWrong)

/-- 'laws.FnExactHingesOf': WHATEVER THE INPUT: true; the input reads as it did. -/
def fnExactHingesOfSpec : ChangeSpec := { name := "fnExactHingesOf", fn := fun _ => fun
  | [d] => { results := [.lit (.bool true)], args := [d] }
  | _ => none }
def fnExactHingesOfRow : OpenClaim := { program := "ytmmiadkmldaegab", sum := "587dc89b81f1a7c189616dba1abc760be6d7726105e55ed7a0ab29c522364126", func := "loop.example/g01222/laws.FnExactHingesOf", spec := "fnExactHingesOf", unfollowed := true, recurses := true, plainKeys := false, apart := false }
def FnExactHingesOfSaid : Prop := fnExactHingesOfRow.holds Try.pinned (OpenSpec.ofChange fnExactHingesOfSpec)

/-- ITS FALSE NEIGHBOUR: 'it returns false'. Refute it at one input. -/
def fnExactHingesOfWrong : ChangeSpec := { name := "fnExactHingesOf", fn := fun _ => fun
  | [d] => { results := [.lit (.bool false)], args := [d] }
  | _ => none }
def FnExactHingesOfWrongFalsely : Prop := fnExactHingesOfRow.holds Try.pinned (OpenSpec.ofChange fnExactHingesOfWrong)

/- THE SECOND FORM. 'bulk': how many values and letters a reading holds, each counted each time it is reached (what is shared counts as often as it is met; a slice's spare places count too). A statement '..UptoSaid' is the law's where the arguments, and the package variables that the reading takes, are together of bulk at most 1048576: NARROWER than '..Said'. Prove '..Said' where nothing that the law and all that it calls make is longer than what came in: it says more and counts as full. Else prove '..UptoSaid'. A law counts once. -/
mutual
def uptoBulk {H : Type} : DataW H → Nat
  | .lit (.string bytes) => bytes.length + 1
  | .lit _ => 1
  | .nil => 1
  | .ptr d => uptoBulk d + 1
  | .slice elems spare => uptoBulkAll elems + uptoBulkAll spare + 1
  | .agg parts => uptoBulkAll parts + 1
  | .iface _ d => uptoBulk d + 1
  | .map entries => uptoBulkEntries entries + 1
  | .held _ => 1
def uptoBulkAll {H : Type} : List (DataW H) → Nat
  | [] => 0
  | d :: r => uptoBulk d + uptoBulkAll r
def uptoBulkEntries {H : Type} : List (Lit × DataW H) → Nat
  | [] => 0
  | x :: r => uptoBulkEntry x + uptoBulkEntries r
def uptoBulkEntry {H : Type} : Lit × DataW H → Nat
  | (.string bytes, d) => bytes.length + uptoBulk d + 1
  | (_, d) => uptoBulk d + 1
 end
def uptoSmall : (H : Type) → List (DataW H) → Bool := fun _ ds => decide (uptoBulkAll ds ≤ 1048576)
def OpenSpec.upto (s : _root_.Go.ChangeSpec) : _root_.Go.OpenSpec := { _root_.Go.OpenSpec.ofChange s with cond := some uptoSmall }

/-- 'laws.FnExactSameBody', WHERE WHAT IT READS IS OF BULK AT MOST 1048576: true; the input reads as it did. -/
def fnExactSameBodyUptoRow : OpenClaim := { program := "ytmmiadkmldaegab", sum := "587dc89b81f1a7c189616dba1abc760be6d7726105e55ed7a0ab29c522364126", func := "loop.example/g01222/laws.FnExactSameBody", spec := "fnExactSameBody", inPlace := ["math.Float32bits"], unfollowed := true, recurses := true, plainKeys := false, apart := false, narrowed := true }
def FnExactSameBodyUptoSaid : Prop := fnExactSameBodyUptoRow.holds Try.pinned (OpenSpec.upto fnExactSameBodySpec)

/-- 'laws.FnExactBareBody', WHERE WHAT IT READS IS OF BULK AT MOST 1048576: true; the input reads as it did. -/
def fnExactBareBodyUptoRow : OpenClaim := { program := "ytmmiadkmldaegab", sum := "587dc89b81f1a7c189616dba1abc760be6d7726105e55ed7a0ab29c522364126", func := "loop.example/g01222/laws.FnExactBareBody", spec := "fnExactBareBody", plainKeys := false, apart := false, narrowed := true }
def FnExactBareBodyUptoSaid : Prop := fnExactBareBodyUptoRow.holds Try.pinned (OpenSpec.upto fnExactBareBodySpec)

/-- 'laws.FnExactMovePlaces', WHERE WHAT IT READS IS OF BULK AT MOST 1048576: true; the input reads as it did. -/
def fnExactMovePlacesUptoRow : OpenClaim := { program := "ytmmiadkmldaegab", sum := "587dc89b81f1a7c189616dba1abc760be6d7726105e55ed7a0ab29c522364126", func := "loop.example/g01222/laws.FnExactMovePlaces", spec := "fnExactMovePlaces", plainKeys := false, apart := false, narrowed := true }
def FnExactMovePlacesUptoSaid : Prop := fnExactMovePlacesUptoRow.holds Try.pinned (OpenSpec.upto fnExactMovePlacesSpec)

/-- 'laws.FnExactStretchesOf', WHERE WHAT IT READS IS OF BULK AT MOST 1048576: true; the input reads as it did. -/
def fnExactStretchesOfUptoRow : OpenClaim := { program := "ytmmiadkmldaegab", sum := "587dc89b81f1a7c189616dba1abc760be6d7726105e55ed7a0ab29c522364126", func := "loop.example/g01222/laws.FnExactStretchesOf", spec := "fnExactStretchesOf", inPlace := ["math.sqrt"], unfollowed := true, recurses := true, plainKeys := false, apart := false, narrowed := true }
def FnExactStretchesOfUptoSaid : Prop := fnExactStretchesOfUptoRow.holds Try.pinned (OpenSpec.upto fnExactStretchesOfSpec)

/-- 'laws.FnExactHingesOf', WHERE WHAT IT READS IS OF BULK AT MOST 1048576: true; the input reads as it did. -/
def fnExactHingesOfUptoRow : OpenClaim := { program := "ytmmiadkmldaegab", sum := "587dc89b81f1a7c189616dba1abc760be6d7726105e55ed7a0ab29c522364126", func := "loop.example/g01222/laws.FnExactHingesOf", spec := "fnExactHingesOf", unfollowed := true, recurses := true, plainKeys := false, apart := false, narrowed := true }
def FnExactHingesOfUptoSaid : Prop := fnExactHingesOfUptoRow.holds Try.pinned (OpenSpec.upto fnExactHingesOfSpec)

end Rows
end Go.Proofs.Ytmmiadkmldaegab

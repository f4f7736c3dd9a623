/-
  No cell of these rows narrows 'for every input' (looked for: loops, veiled, ifaces, maps, wideKeys, modest, calm, conditions, laid).
  DERIVED. THE GIVEN ROWS OF THIS SEAT. 12 by the template 'for every input the law returns true; each argument reads behind the call as it read before'; 0 by the template 'total and deterministic' (their statements: YthneddaiidimnaaTotals.lean).
  GIVEN WITH THE SEED: the statements are not yours to turn. If you find one false, say at which input.
  Laid BY PROGRAM, IN A SANDBOX (cutbox-rows.mjs): the forced cells as the released guide's own fill.sh prints them over the translation 5e49c16798f9071e… (all of the seat's roots in one cut). By AI agents, Wed Nov 11 2026. No macro, syntax, notation, axiom, sorry.
-/
import Derived.Test.YthneddaiidimnaaChecked
import GoSem.Claim
import GoSem.ClaimJoined
import GoSem.ClaimMapViews
import Derived.JoinedTies
import Derived.KernelRfl
namespace Go.Proofs.Ythneddaiidimnaa
/- THE CELL 'sum', in the pinned program and in every row, IS THE sha256 OF THE DUMP (.gsa) THAT YthneddaiidimnaaProg.lean LOADS. Nothing in Lean hashes anything: it is a label: what it is worth is what the hold of that sum in a sandbox is worth. -/
noncomputable def Try.pinned : Pinned := { name := "ythneddaiidimnaa", sum := "5e49c16798f9071e811be43b8b8bf9bf02b5d451cf8174d3144fe9c4027fa7de", checked := Try.checked }
namespace Rows
def none {H : Type} : Left H := { results := [], args := [] }

/-- 'laws.FnExactTotalOf': WHATEVER THE INPUT: true; the input reads as it did. -/
def fnExactTotalOfSpec : ChangeSpec := { name := "fnExactTotalOf", fn := fun _ => fun
  | [d] => { results := [.lit (.bool true)], args := [d] }
  | _ => none }
def fnExactTotalOfRow : OpenClaim := { program := "ythneddaiidimnaa", sum := "5e49c16798f9071e811be43b8b8bf9bf02b5d451cf8174d3144fe9c4027fa7de", func := "loop.example/g01222/laws.FnExactTotalOf", spec := "fnExactTotalOf", apart := false }
def FnExactTotalOfSaid : Prop := fnExactTotalOfRow.holds Try.pinned (OpenSpec.ofChange fnExactTotalOfSpec)

/-- ITS FALSE NEIGHBOUR: 'it returns false'. Refute it at one input. -/
def fnExactTotalOfWrong : ChangeSpec := { name := "fnExactTotalOf", fn := fun _ => fun
  | [d] => { results := [.lit (.bool false)], args := [d] }
  | _ => none }
def FnExactTotalOfWrongFalsely : Prop := fnExactTotalOfRow.holds Try.pinned (OpenSpec.ofChange fnExactTotalOfWrong)

/-- 'laws.FnExactLongestOf': WHATEVER THE INPUT: true; the input reads as it did. -/
def fnExactLongestOfSpec : ChangeSpec := { name := "fnExactLongestOf", fn := fun _ => fun
  | [d] => { results := [.lit (.bool true)], args := [d] }
  | _ => none }
def fnExactLongestOfRow : OpenClaim := { program := "ythneddaiidimnaa", sum := "5e49c16798f9071e811be43b8b8bf9bf02b5d451cf8174d3144fe9c4027fa7de", func := "loop.example/g01222/laws.FnExactLongestOf", spec := "fnExactLongestOf", inPlace := ["math.sqrt"], apart := false }
def FnExactLongestOfSaid : Prop := fnExactLongestOfRow.holds Try.pinned (OpenSpec.ofChange fnExactLongestOfSpec)

/-- ITS FALSE NEIGHBOUR: 'it returns false'. Refute it at one input. -/
def fnExactLongestOfWrong : ChangeSpec := { name := "fnExactLongestOf", fn := fun _ => fun
  | [d] => { results := [.lit (.bool false)], args := [d] }
  | _ => none }
def FnExactLongestOfWrongFalsely : Prop := fnExactLongestOfRow.holds Try.pinned (OpenSpec.ofChange fnExactLongestOfWrong)

/-- 'laws.FnExactValidBody': WHATEVER THE INPUT: true; the input reads as it did. -/
def fnExactValidBodySpec : ChangeSpec := { name := "fnExactValidBody", fn := fun _ => fun
  | [d] => { results := [.lit (.bool true)], args := [d] }
  | _ => none }
def fnExactValidBodyRow : OpenClaim := { program := "ythneddaiidimnaa", sum := "5e49c16798f9071e811be43b8b8bf9bf02b5d451cf8174d3144fe9c4027fa7de", func := "loop.example/g01222/laws.FnExactValidBody", spec := "fnExactValidBody", apart := false }
def FnExactValidBodySaid : Prop := fnExactValidBodyRow.holds Try.pinned (OpenSpec.ofChange fnExactValidBodySpec)

/-- ITS FALSE NEIGHBOUR: 'it returns false'. Refute it at one input. -/
def fnExactValidBodyWrong : ChangeSpec := { name := "fnExactValidBody", fn := fun _ => fun
  | [d] => { results := [.lit (.bool false)], args := [d] }
  | _ => none }
def FnExactValidBodyWrongFalsely : Prop := fnExactValidBodyRow.holds Try.pinned (OpenSpec.ofChange fnExactValidBodyWrong)

/-- 'laws.FnExactSameBody': WHATEVER THE INPUT: true; the input reads as it did. -/
def fnExactSameBodySpec : ChangeSpec := { name := "fnExactSameBody", fn := fun _ => fun
  | [d1, d2] => { results := [.lit (.bool true)], args := [d1, d2] }
  | _ => none }
def fnExactSameBodyRow : OpenClaim := { program := "ythneddaiidimnaa", sum := "5e49c16798f9071e811be43b8b8bf9bf02b5d451cf8174d3144fe9c4027fa7de", func := "loop.example/g01222/laws.FnExactSameBody", spec := "fnExactSameBody", inPlace := ["math.Float32bits"], unfollowed := true, recurses := true, apart := false }
def FnExactSameBodySaid : Prop := fnExactSameBodyRow.holds Try.pinned (OpenSpec.ofChange fnExactSameBodySpec)

/-- ITS FALSE NEIGHBOUR: 'it returns false'. Refute it at one input. -/
def fnExactSameBodyWrong : ChangeSpec := { name := "fnExactSameBody", fn := fun _ => fun
  | [d1, d2] => { results := [.lit (.bool false)], args := [d1, d2] }
  | _ => none }
def FnExactSameBodyWrongFalsely : Prop := fnExactSameBodyRow.holds Try.pinned (OpenSpec.ofChange fnExactSameBodyWrong)

/-- 'laws.FnExactPullOf': WHATEVER THE INPUT: true; the input reads as it did. -/
def fnExactPullOfSpec : ChangeSpec := { name := "fnExactPullOf", fn := fun _ => fun
  | [d1, d2] => { results := [.lit (.bool true)], args := [d1, d2] }
  | _ => none }
def fnExactPullOfRow : OpenClaim := { program := "ythneddaiidimnaa", sum := "5e49c16798f9071e811be43b8b8bf9bf02b5d451cf8174d3144fe9c4027fa7de", func := "loop.example/g01222/laws.FnExactPullOf", spec := "fnExactPullOf", inPlace := ["math.sqrt"], apart := false }
def FnExactPullOfSaid : Prop := fnExactPullOfRow.holds Try.pinned (OpenSpec.ofChange fnExactPullOfSpec)

/-- ITS FALSE NEIGHBOUR: 'it returns false'. Refute it at one input. -/
def fnExactPullOfWrong : ChangeSpec := { name := "fnExactPullOf", fn := fun _ => fun
  | [d1, d2] => { results := [.lit (.bool false)], args := [d1, d2] }
  | _ => none }
def FnExactPullOfWrongFalsely : Prop := fnExactPullOfRow.holds Try.pinned (OpenSpec.ofChange fnExactPullOfWrong)

/-- 'laws.FnExactStretchesOf': WHATEVER THE INPUT: true; the input reads as it did. -/
def fnExactStretchesOfSpec : ChangeSpec := { name := "fnExactStretchesOf", fn := fun _ => fun
  | [d] => { results := [.lit (.bool true)], args := [d] }
  | _ => none }
def fnExactStretchesOfRow : OpenClaim := { program := "ythneddaiidimnaa", sum := "5e49c16798f9071e811be43b8b8bf9bf02b5d451cf8174d3144fe9c4027fa7de", func := "loop.example/g01222/laws.FnExactStretchesOf", spec := "fnExactStretchesOf", inPlace := ["math.sqrt"], unfollowed := true, recurses := true, apart := false }
def FnExactStretchesOfSaid : Prop := fnExactStretchesOfRow.holds Try.pinned (OpenSpec.ofChange fnExactStretchesOfSpec)

/-- ITS FALSE NEIGHBOUR: 'it returns false'. Refute it at one input. -/
def fnExactStretchesOfWrong : ChangeSpec := { name := "fnExactStretchesOf", fn := fun _ => fun
  | [d] => { results := [.lit (.bool false)], args := [d] }
  | _ => none }
def FnExactStretchesOfWrongFalsely : Prop := fnExactStretchesOfRow.holds Try.pinned (OpenSpec.ofChange fnExactStretchesOfWrong)

/-- 'laws.FnExactBareBody': WHATEVER THE INPUT: true; the input reads as it did. -/
def fnExactBareBodySpec : ChangeSpec := { name := "fnExactBareBody", fn := fun _ => fun
  | [d] => { results := [.lit (.bool true)], args := [d] }
  | _ => none }
def fnExactBareBodyRow : OpenClaim := { program := "ythneddaiidimnaa", sum := "5e49c16798f9071e811be43b8b8bf9bf02b5d451cf8174d3144fe9c4027fa7de", func := "loop.example/g01222/laws.FnExactBareBody", spec := "fnExactBareBody", apart := false }
def FnExactBareBodySaid : Prop := fnExactBareBodyRow.holds Try.pinned (OpenSpec.ofChange fnExactBareBodySpec)

/-- ITS FALSE NEIGHBOUR: 'it returns false'. Refute it at one input. -/
def fnExactBareBodyWrong : ChangeSpec := { name := "fnExactBareBody", fn := fun _ => fun
  | [d] => { results := [.lit (.bool false)], args := [d] }
  | _ => none }
def FnExactBareBodyWrongFalsely : Prop := fnExactBareBodyRow.holds Try.pinned (OpenSpec.ofChange fnExactBareBodyWrong)

/-- 'laws.FnExactMovePlaces': WHATEVER THE INPUT: true; the input reads as it did. -/
def fnExactMovePlacesSpec : ChangeSpec := { name := "fnExactMovePlaces", fn := fun _ => fun
  | [d1, d2, d3] => { results := [.lit (.bool true)], args := [d1, d2, d3] }
  | _ => none }
def fnExactMovePlacesRow : OpenClaim := { program := "ythneddaiidimnaa", sum := "5e49c16798f9071e811be43b8b8bf9bf02b5d451cf8174d3144fe9c4027fa7de", func := "loop.example/g01222/laws.FnExactMovePlaces", spec := "fnExactMovePlaces", apart := false }
def FnExactMovePlacesSaid : Prop := fnExactMovePlacesRow.holds Try.pinned (OpenSpec.ofChange fnExactMovePlacesSpec)

/-- ITS FALSE NEIGHBOUR: 'it returns false'. Refute it at one input. -/
def fnExactMovePlacesWrong : ChangeSpec := { name := "fnExactMovePlaces", fn := fun _ => fun
  | [d1, d2, d3] => { results := [.lit (.bool false)], args := [d1, d2, d3] }
  | _ => none }
def FnExactMovePlacesWrongFalsely : Prop := fnExactMovePlacesRow.holds Try.pinned (OpenSpec.ofChange fnExactMovePlacesWrong)

/-- 'laws.FnExactTurnMesh': WHATEVER THE INPUT: true; the input reads as it did. -/
def fnExactTurnMeshSpec : ChangeSpec := { name := "fnExactTurnMesh", fn := fun _ => fun
  | [d] => { results := [.lit (.bool true)], args := [d] }
  | _ => none }
def fnExactTurnMeshRow : OpenClaim := { program := "ythneddaiidimnaa", sum := "5e49c16798f9071e811be43b8b8bf9bf02b5d451cf8174d3144fe9c4027fa7de", func := "loop.example/g01222/laws.FnExactTurnMesh", spec := "fnExactTurnMesh", apart := false }
def FnExactTurnMeshSaid : Prop := fnExactTurnMeshRow.holds Try.pinned (OpenSpec.ofChange fnExactTurnMeshSpec)

/-- ITS FALSE NEIGHBOUR: 'it returns false'. Refute it at one input. -/
def fnExactTurnMeshWrong : ChangeSpec := { name := "fnExactTurnMesh", fn := fun _ => fun
  | [d] => { results := [.lit (.bool false)], args := [d] }
  | _ => none }
def FnExactTurnMeshWrongFalsely : Prop := fnExactTurnMeshRow.holds Try.pinned (OpenSpec.ofChange fnExactTurnMeshWrong)

/-- 'laws.FnExactMoveMesh': WHATEVER THE INPUT: true; the input reads as it did. -/
def fnExactMoveMeshSpec : ChangeSpec := { name := "fnExactMoveMesh", fn := fun _ => fun
  | [d1, d2] => { results := [.lit (.bool true)], args := [d1, d2] }
  | _ => none }
def fnExactMoveMeshRow : OpenClaim := { program := "ythneddaiidimnaa", sum := "5e49c16798f9071e811be43b8b8bf9bf02b5d451cf8174d3144fe9c4027fa7de", func := "loop.example/g01222/laws.FnExactMoveMesh", spec := "fnExactMoveMesh", unfollowed := true, recurses := true, apart := false }
def FnExactMoveMeshSaid : Prop := fnExactMoveMeshRow.holds Try.pinned (OpenSpec.ofChange fnExactMoveMeshSpec)

/-- ITS FALSE NEIGHBOUR: 'it returns false'. Refute it at one input. -/
def fnExactMoveMeshWrong : ChangeSpec := { name := "fnExactMoveMesh", fn := fun _ => fun
  | [d1, d2] => { results := [.lit (.bool false)], args := [d1, d2] }
  | _ => none }
def FnExactMoveMeshWrongFalsely : Prop := fnExactMoveMeshRow.holds Try.pinned (OpenSpec.ofChange fnExactMoveMeshWrong)

/-- 'laws.FnExactScaleMesh': WHATEVER THE INPUT: true; the input reads as it did. -/
def fnExactScaleMeshSpec : ChangeSpec := { name := "fnExactScaleMesh", fn := fun _ => fun
  | [d1, d2] => { results := [.lit (.bool true)], args := [d1, d2] }
  | _ => none }
def fnExactScaleMeshRow : OpenClaim := { program := "ythneddaiidimnaa", sum := "5e49c16798f9071e811be43b8b8bf9bf02b5d451cf8174d3144fe9c4027fa7de", func := "loop.example/g01222/laws.FnExactScaleMesh", spec := "fnExactScaleMesh", unfollowed := true, recurses := true, apart := false }
def FnExactScaleMeshSaid : Prop := fnExactScaleMeshRow.holds Try.pinned (OpenSpec.ofChange fnExactScaleMeshSpec)

/-- ITS FALSE NEIGHBOUR: 'it returns false'. Refute it at one input. -/
def fnExactScaleMeshWrong : ChangeSpec := { name := "fnExactScaleMesh", fn := fun _ => fun
  | [d1, d2] => { results := [.lit (.bool false)], args := [d1, d2] }
  | _ => none }
def FnExactScaleMeshWrongFalsely : Prop := fnExactScaleMeshRow.holds Try.pinned (OpenSpec.ofChange fnExactScaleMeshWrong)

/-- 'laws.FnExactJoinMeshes': WHATEVER THE INPUT: true; the input reads as it did. -/
def fnExactJoinMeshesSpec : ChangeSpec := { name := "fnExactJoinMeshes", fn := fun _ => fun
  | [d1, d2] => { results := [.lit (.bool true)], args := [d1, d2] }
  | _ => none }
def fnExactJoinMeshesRow : OpenClaim := { program := "ythneddaiidimnaa", sum := "5e49c16798f9071e811be43b8b8bf9bf02b5d451cf8174d3144fe9c4027fa7de", func := "loop.example/g01222/laws.FnExactJoinMeshes", spec := "fnExactJoinMeshes", apart := false }
def FnExactJoinMeshesSaid : Prop := fnExactJoinMeshesRow.holds Try.pinned (OpenSpec.ofChange fnExactJoinMeshesSpec)

/-- ITS FALSE NEIGHBOUR: 'it returns false'. Refute it at one input. -/
def fnExactJoinMeshesWrong : ChangeSpec := { name := "fnExactJoinMeshes", fn := fun _ => fun
  | [d1, d2] => { results := [.lit (.bool false)], args := [d1, d2] }
  | _ => none }
def FnExactJoinMeshesWrongFalsely : Prop := fnExactJoinMeshesRow.holds Try.pinned (OpenSpec.ofChange fnExactJoinMeshesWrong)

/- THE SECOND FORM. 'bulk': how many values and letters a reading holds, each counted each time it is reached (what is shared counts as often as it is met; a slice's spare places count too). A statement '..UptoSaid' is the law's where the arguments, and the package variables that the reading takes, are together of bulk at most 1048576: NARROWER than '..Said'. Prove '..Said' where nothing that the law and all that it calls make is longer than what came in: it says more and counts as full. Else prove '..UptoSaid'. A law counts once. -/
mutual
def uptoBulk {H : Type} : DataW H → Nat
  | .lit (.string bytes) => bytes.length + 1
  | .lit _ => 1
  | .nil => 1
  | .ptr d => uptoBulk d + 1
  | .slice elems spare => uptoBulkAll elems + uptoBulkAll spare + 1
  | .agg parts => uptoBulkAll parts + 1
  | .iface _ d => uptoBulk d + 1
  | .map entries => uptoBulkEntries entries + 1
  | .held _ => 1
def uptoBulkAll {H : Type} : List (DataW H) → Nat
  | [] => 0
  | d :: r => uptoBulk d + uptoBulkAll r
def uptoBulkEntries {H : Type} : List (Lit × DataW H) → Nat
  | [] => 0
  | x :: r => uptoBulkEntry x + uptoBulkEntries r
def uptoBulkEntry {H : Type} : Lit × DataW H → Nat
  | (.string bytes, d) => bytes.length + uptoBulk d + 1
  | (_, d) => uptoBulk d + 1
 end
def uptoSmall : (H : Type) → List (DataW H) → Bool := fun _ ds => decide (uptoBulkAll ds ≤ 1048576)
def OpenSpec.upto (s : _root_.Go.ChangeSpec) : _root_.Go.OpenSpec := { _root_.Go.OpenSpec.ofChange s with cond := some uptoSmall }

/-- 'laws.FnExactTotalOf', WHERE WHAT IT READS IS OF BULK AT MOST 1048576: true; the input reads as it did. -/
def fnExactTotalOfUptoRow : OpenClaim := { program := "ythneddaiidimnaa", sum := "5e49c16798f9071e811be43b8b8bf9bf02b5d451cf8174d3144fe9c4027fa7de", func := "loop.example/g01222/laws.FnExactTotalOf", spec := "fnExactTotalOf", apart := false, narrowed := true }
def FnExactTotalOfUptoSaid : Prop := fnExactTotalOfUptoRow.holds Try.pinned (OpenSpec.upto fnExactTotalOfSpec)

/-- 'laws.FnExactLongestOf', WHERE WHAT IT READS IS OF BULK AT MOST 1048576: true; the input reads as it did. -/
def fnExactLongestOfUptoRow : OpenClaim := { program := "ythneddaiidimnaa", sum := "5e49c16798f9071e811be43b8b8bf9bf02b5d451cf8174d3144fe9c4027fa7de", func := "loop.example/g01222/laws.FnExactLongestOf", spec := "fnExactLongestOf", inPlace := ["math.sqrt"], apart := false, narrowed := true }
def FnExactLongestOfUptoSaid : Prop := fnExactLongestOfUptoRow.holds Try.pinned (OpenSpec.upto fnExactLongestOfSpec)

/-- 'laws.FnExactValidBody', WHERE WHAT IT READS IS OF BULK AT MOST 1048576: true; the input reads as it did. -/
def fnExactValidBodyUptoRow : OpenClaim := { program := "ythneddaiidimnaa", sum := "5e49c16798f9071e811be43b8b8bf9bf02b5d451cf8174d3144fe9c4027fa7de", func := "loop.example/g01222/laws.FnExactValidBody", spec := "fnExactValidBody", apart := false, narrowed := true }
def FnExactValidBodyUptoSaid : Prop := fnExactValidBodyUptoRow.holds Try.pinned (OpenSpec.upto fnExactValidBodySpec)

/-- 'laws.FnExactSameBody', WHERE WHAT IT READS IS OF BULK AT MOST 1048576: true; the input reads as it did. -/
def fnExactSameBodyUptoRow : OpenClaim := { program := "ythneddaiidimnaa", sum := "5e49c16798f9071e811be43b8b8bf9bf02b5d451cf8174d3144fe9c4027fa7de", func := "loop.example/g01222/laws.FnExactSameBody", spec := "fnExactSameBody", inPlace := ["math.Float32bits"], unfollowed := true, recurses := true, apart := false, narrowed := true }
def FnExactSameBodyUptoSaid : Prop := fnExactSameBodyUptoRow.holds Try.pinned (OpenSpec.upto fnExactSameBodySpec)

/-- 'laws.FnExactPullOf', WHERE WHAT IT READS IS OF BULK AT MOST 1048576: true; the input reads as it did. -/
def fnExactPullOfUptoRow : OpenClaim := { program := "ythneddaiidimnaa", sum := "5e49c16798f9071e811be43b8b8bf9bf02b5d451cf8174d3144fe9c4027fa7de", func := "loop.example/g01222/laws.FnExactPullOf", spec := "fnExactPullOf", inPlace := ["math.sqrt"], apart := false, narrowed := true }
def FnExactPullOfUptoSaid : Prop := fnExactPullOfUptoRow.holds Try.pinned (OpenSpec.upto fnExactPullOfSpec)

/-- 'laws.FnExactStretchesOf', WHERE WHAT IT READS IS OF BULK AT MOST 1048576: true; the input reads as it did. -/
def fnExactStretchesOfUptoRow : OpenClaim := { program := "ythneddaiidimnaa", sum := "5e49c16798f9071e811be43b8b8bf9bf02b5d451cf8174d3144fe9c4027fa7de", func := "loop.example/g01222/laws.FnExactStretchesOf", spec := "fnExactStretchesOf", inPlace := ["math.sqrt"], unfollowed := true, recurses := true, apart := false, narrowed := true }
def FnExactStretchesOfUptoSaid : Prop := fnExactStretchesOfUptoRow.holds Try.pinned (OpenSpec.upto fnExactStretchesOfSpec)

/-- 'laws.FnExactBareBody', WHERE WHAT IT READS IS OF BULK AT MOST 1048576: true; the input reads as it did. -/
def fnExactBareBodyUptoRow : OpenClaim := { program := "ythneddaiidimnaa", sum := "5e49c16798f9071e811be43b8b8bf9bf02b5d451cf8174d3144fe9c4027fa7de", func := "loop.example/g01222/laws.FnExactBareBody", spec := "fnExactBareBody", apart := false, narrowed := true }
def FnExactBareBodyUptoSaid : Prop := fnExactBareBodyUptoRow.holds Try.pinned (OpenSpec.upto fnExactBareBodySpec)

/-- 'laws.FnExactMovePlaces', WHERE WHAT IT READS IS OF BULK AT MOST 1048576: true; the input reads as it did. -/
def fnExactMovePlacesUptoRow : OpenClaim := { program := "ythneddaiidimnaa", sum := "5e49c16798f9071e811be43b8b8bf9bf02b5d451cf8174d3144fe9c4027fa7de", func := "loop.example/g01222/laws.FnExactMovePlaces", spec := "fnExactMovePlaces", apart := false, narrowed := true }
def FnExactMovePlacesUptoSaid : Prop := fnExactMovePlacesUptoRow.holds Try.pinned (OpenSpec.upto fnExactMovePlacesSpec)

/-- 'laws.FnExactTurnMesh', WHERE WHAT IT READS IS OF BULK AT MOST 1048576: true; the input reads as it did. -/
def fnExactTurnMeshUptoRow : OpenClaim := { program := "ythneddaiidimnaa", sum := "5e49c16798f9071e811be43b8b8bf9bf02b5d451cf8174d3144fe9c4027fa7de", func := "loop.example/g01222/laws.FnExactTurnMesh", spec := "fnExactTurnMesh", apart := false, narrowed := true }
def FnExactTurnMeshUptoSaid : Prop := fnExactTurnMeshUptoRow.holds Try.pinned (OpenSpec.upto fnExactTurnMeshSpec)

/-- 'laws.FnExactMoveMesh', WHERE WHAT IT READS IS OF BULK AT MOST 1048576: true; the input reads as it did. -/
def fnExactMoveMeshUptoRow : OpenClaim := { program := "ythneddaiidimnaa", sum := "5e49c16798f9071e811be43b8b8bf9bf02b5d451cf8174d3144fe9c4027fa7de", func := "loop.example/g01222/laws.FnExactMoveMesh", spec := "fnExactMoveMesh", unfollowed := true, recurses := true, apart := false, narrowed := true }
def FnExactMoveMeshUptoSaid : Prop := fnExactMoveMeshUptoRow.holds Try.pinned (OpenSpec.upto fnExactMoveMeshSpec)

/-- 'laws.FnExactScaleMesh', WHERE WHAT IT READS IS OF BULK AT MOST 1048576: true; the input reads as it did. -/
def fnExactScaleMeshUptoRow : OpenClaim := { program := "ythneddaiidimnaa", sum := "5e49c16798f9071e811be43b8b8bf9bf02b5d451cf8174d3144fe9c4027fa7de", func := "loop.example/g01222/laws.FnExactScaleMesh", spec := "fnExactScaleMesh", unfollowed := true, recurses := true, apart := false, narrowed := true }
def FnExactScaleMeshUptoSaid : Prop := fnExactScaleMeshUptoRow.holds Try.pinned (OpenSpec.upto fnExactScaleMeshSpec)

/-- 'laws.FnExactJoinMeshes', WHERE WHAT IT READS IS OF BULK AT MOST 1048576: true; the input reads as it did. -/
def fnExactJoinMeshesUptoRow : OpenClaim := { program := "ythneddaiidimnaa", sum := "5e49c16798f9071e811be43b8b8bf9bf02b5d451cf8174d3144fe9c4027fa7de", func := "loop.example/g01222/laws.FnExactJoinMeshes", spec := "fnExactJoinMeshes", apart := false, narrowed := true }
def FnExactJoinMeshesUptoSaid : Prop := fnExactJoinMeshesUptoRow.holds Try.pinned (OpenSpec.upto fnExactJoinMeshesSpec)

end Rows
end Go.Proofs.Ythneddaiidimnaa

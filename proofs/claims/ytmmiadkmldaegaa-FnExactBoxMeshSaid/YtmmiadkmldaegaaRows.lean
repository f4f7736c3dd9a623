/-
  No cell of these rows narrows 'for every input' (looked for: loops, veiled, ifaces, maps, wideKeys, modest, calm, conditions, laid).
  DERIVED. THE GIVEN ROWS OF THIS SEAT. 12 by the template 'for every input the law returns true; each argument reads behind the call as it read before'; 0 by the template 'total and deterministic' (their statements: YtmmiadkmldaegaaTotals.lean).
  GIVEN WITH THE SEED: the statements are not yours to turn. If you find one false, say at which input.
  Laid BY PROGRAM, IN A SANDBOX (cutbox-rows.mjs): the forced cells as the released guide's own fill.sh prints them over the translation 44f61110dcca08a3… (all of the seat's roots in one cut). By AI agents, Wed Nov 11 2026. No macro, syntax, notation, axiom, sorry.
-/
import Derived.Test.YtmmiadkmldaegaaChecked
import GoSem.Claim
import GoSem.ClaimJoined
import GoSem.ClaimMapViews
import Derived.JoinedTies
import Derived.KernelRfl
namespace Go.Proofs.Ytmmiadkmldaegaa
/- THE CELL 'sum', in the pinned program and in every row, IS THE sha256 OF THE DUMP (.gsa) THAT YtmmiadkmldaegaaProg.lean LOADS. Nothing in Lean hashes anything: it is a label: what it is worth is what the hold of that sum in a sandbox is worth. -/
noncomputable def Try.pinned : Pinned := { name := "ytmmiadkmldaegaa", sum := "44f61110dcca08a38c613bcd853c6fc98bc96a7460c86208d0274c9bc14d6cbf", checked := Try.checked }
namespace Rows
def none {H : Type} : Left H := { results := [], args := [] }

/-- 'laws.FnExactEdgesOf': WHATEVER THE INPUT: true; the input reads as it did. -/
def fnExactEdgesOfSpec : ChangeSpec := { name := "fnExactEdgesOf", fn := fun _ => fun
  | [d] => { results := [.lit (.bool true)], args := [d] }
  | _ => none }
def fnExactEdgesOfRow : OpenClaim := { program := "ytmmiadkmldaegaa", sum := "44f61110dcca08a38c613bcd853c6fc98bc96a7460c86208d0274c9bc14d6cbf", func := "loop.example/g01222/laws.FnExactEdgesOf", spec := "fnExactEdgesOf", unfollowed := true, recurses := true, plainKeys := false, apart := false }
def FnExactEdgesOfSaid : Prop := fnExactEdgesOfRow.holds Try.pinned (OpenSpec.ofChange fnExactEdgesOfSpec)

/-- ITS FALSE NEIGHBOUR: 'it returns false'. Refute it at one input. -/
def fnExactEdgesOfWrong : ChangeSpec := { name := "fnExactEdgesOf", fn := fun _ => fun
  | [d] => { results := [.lit (.bool false)], args := [d] }
  | _ => none }
def FnExactEdgesOfWrongFalsely : Prop := fnExactEdgesOfRow.holds Try.pinned (OpenSpec.ofChange fnExactEdgesOfWrong)

/-- 'laws.FnExactLongsOf': WHATEVER THE INPUT: true; the input reads as it did. -/
def fnExactLongsOfSpec : ChangeSpec := { name := "fnExactLongsOf", fn := fun _ => fun
  | [d] => { results := [.lit (.bool true)], args := [d] }
  | _ => none }
def fnExactLongsOfRow : OpenClaim := { program := "ytmmiadkmldaegaa", sum := "44f61110dcca08a38c613bcd853c6fc98bc96a7460c86208d0274c9bc14d6cbf", func := "loop.example/g01222/laws.FnExactLongsOf", spec := "fnExactLongsOf", inPlace := ["math.sqrt"], unfollowed := true, recurses := true, plainKeys := false, apart := false }
def FnExactLongsOfSaid : Prop := fnExactLongsOfRow.holds Try.pinned (OpenSpec.ofChange fnExactLongsOfSpec)

/-- ITS FALSE NEIGHBOUR: 'it returns false'. Refute it at one input. -/
def fnExactLongsOfWrong : ChangeSpec := { name := "fnExactLongsOf", fn := fun _ => fun
  | [d] => { results := [.lit (.bool false)], args := [d] }
  | _ => none }
def FnExactLongsOfWrongFalsely : Prop := fnExactLongsOfRow.holds Try.pinned (OpenSpec.ofChange fnExactLongsOfWrong)

/-- 'laws.FnExactJoinMeshes': WHATEVER THE INPUT: true; the input reads as it did. -/
def fnExactJoinMeshesSpec : ChangeSpec := { name := "fnExactJoinMeshes", fn := fun _ => fun
  | [d1, d2] => { results := [.lit (.bool true)], args := [d1, d2] }
  | _ => none }
def fnExactJoinMeshesRow : OpenClaim := { program := "ytmmiadkmldaegaa", sum := "44f61110dcca08a38c613bcd853c6fc98bc96a7460c86208d0274c9bc14d6cbf", func := "loop.example/g01222/laws.FnExactJoinMeshes", spec := "fnExactJoinMeshes", plainKeys := false, apart := false }
def FnExactJoinMeshesSaid : Prop := fnExactJoinMeshesRow.holds Try.pinned (OpenSpec.ofChange fnExactJoinMeshesSpec)

/-- ITS FALSE NEIGHBOUR: 'it returns false'. Refute it at one input. -/
def fnExactJoinMeshesWrong : ChangeSpec := { name := "fnExactJoinMeshes", fn := fun _ => fun
  | [d1, d2] => { results := [.lit (.bool false)], args := [d1, d2] }
  | _ => none }
def FnExactJoinMeshesWrongFalsely : Prop := fnExactJoinMeshesRow.holds Try.pinned (OpenSpec.ofChange fnExactJoinMeshesWrong)

/-- 'laws.FnExactGridMesh': WHATEVER THE INPUT: true; the input reads as it did. -/
def fnExactGridMeshSpec : ChangeSpec := { name := "fnExactGridMesh", fn := fun _ => fun
  | [d1, d2, d3] => { results := [.lit (.bool true)], args := [d1, d2, d3] }
  | _ => none }
def fnExactGridMeshRow : OpenClaim := { program := "ytmmiadkmldaegaa", sum := "44f61110dcca08a38c613bcd853c6fc98bc96a7460c86208d0274c9bc14d6cbf", func := "loop.example/g01222/laws.FnExactGridMesh", spec := "fnExactGridMesh", inPlace := ["math.Float64bits", "math.Float64frombits"], plainKeys := false, apart := false }
def FnExactGridMeshSaid : Prop := fnExactGridMeshRow.holds Try.pinned (OpenSpec.ofChange fnExactGridMeshSpec)

/-- ITS FALSE NEIGHBOUR: 'it returns false'. Refute it at one input. -/
def fnExactGridMeshWrong : ChangeSpec := { name := "fnExactGridMesh", fn := fun _ => fun
  | [d1, d2, d3] => { results := [.lit (.bool false)], args := [d1, d2, d3] }
  | _ => none }
def FnExactGridMeshWrongFalsely : Prop := fnExactGridMeshRow.holds Try.pinned (OpenSpec.ofChange fnExactGridMeshWrong)

/-- 'laws.FnExactRingMesh': WHATEVER THE INPUT: true; the input reads as it did. -/
def fnExactRingMeshSpec : ChangeSpec := { name := "fnExactRingMesh", fn := fun _ => fun
  | [d1, d2, d3, d4] => { results := [.lit (.bool true)], args := [d1, d2, d3, d4] }
  | _ => none }
def fnExactRingMeshRow : OpenClaim := { program := "ytmmiadkmldaegaa", sum := "44f61110dcca08a38c613bcd853c6fc98bc96a7460c86208d0274c9bc14d6cbf", func := "loop.example/g01222/laws.FnExactRingMesh", spec := "fnExactRingMesh", inPlace := ["math.Float64frombits", "math.Float64bits"], plainKeys := false, apart := false }
def FnExactRingMeshSaid : Prop := fnExactRingMeshRow.holds Try.pinned (OpenSpec.ofChange fnExactRingMeshSpec)

/-- ITS FALSE NEIGHBOUR: 'it returns false'. Refute it at one input. -/
def fnExactRingMeshWrong : ChangeSpec := { name := "fnExactRingMesh", fn := fun _ => fun
  | [d1, d2, d3, d4] => { results := [.lit (.bool false)], args := [d1, d2, d3, d4] }
  | _ => none }
def FnExactRingMeshWrongFalsely : Prop := fnExactRingMeshRow.holds Try.pinned (OpenSpec.ofChange fnExactRingMeshWrong)

/-- 'laws.FnExactBoxMesh': WHATEVER THE INPUT: true; the input reads as it did. -/
def fnExactBoxMeshSpec : ChangeSpec := { name := "fnExactBoxMesh", fn := fun _ => fun
  | [d] => { results := [.lit (.bool true)], args := [d] }
  | _ => none }
def fnExactBoxMeshRow : OpenClaim := { program := "ytmmiadkmldaegaa", sum := "44f61110dcca08a38c613bcd853c6fc98bc96a7460c86208d0274c9bc14d6cbf", func := "loop.example/g01222/laws.FnExactBoxMesh", spec := "fnExactBoxMesh", inPlace := ["math.Float64bits", "math.Float64frombits"], plainKeys := false, apart := false }
def FnExactBoxMeshSaid : Prop := fnExactBoxMeshRow.holds Try.pinned (OpenSpec.ofChange fnExactBoxMeshSpec)

/-- ITS FALSE NEIGHBOUR: 'it returns false'. Refute it at one input. -/
def fnExactBoxMeshWrong : ChangeSpec := { name := "fnExactBoxMesh", fn := fun _ => fun
  | [d] => { results := [.lit (.bool false)], args := [d] }
  | _ => none }
def FnExactBoxMeshWrongFalsely : Prop := fnExactBoxMeshRow.holds Try.pinned (OpenSpec.ofChange fnExactBoxMeshWrong)

/-- 'laws.FnExactBallMesh': WHATEVER THE INPUT: true; the input reads as it did. -/
def fnExactBallMeshSpec : ChangeSpec := { name := "fnExactBallMesh", fn := fun _ => fun
  | [d1, d2] => { results := [.lit (.bool true)], args := [d1, d2] }
  | _ => none }
def fnExactBallMeshRow : OpenClaim := { program := "ytmmiadkmldaegaa", sum := "44f61110dcca08a38c613bcd853c6fc98bc96a7460c86208d0274c9bc14d6cbf", func := "loop.example/g01222/laws.FnExactBallMesh", spec := "fnExactBallMesh", inPlace := ["math.sqrt", "math.Float64bits", "math.Float64frombits"], unfollowed := true, recurses := true, plainKeys := false, apart := false }
def FnExactBallMeshSaid : Prop := fnExactBallMeshRow.holds Try.pinned (OpenSpec.ofChange fnExactBallMeshSpec)

/-- ITS FALSE NEIGHBOUR: 'it returns false'. Refute it at one input. -/
def fnExactBallMeshWrong : ChangeSpec := { name := "fnExactBallMesh", fn := fun _ => fun
  | [d1, d2] => { results := [.lit (.bool false)], args := [d1, d2] }
  | _ => none }
def FnExactBallMeshWrongFalsely : Prop := fnExactBallMeshRow.holds Try.pinned (OpenSpec.ofChange fnExactBallMeshWrong)

/-- 'laws.FnExactBorderOf': WHATEVER THE INPUT: true; the input reads as it did. -/
def fnExactBorderOfSpec : ChangeSpec := { name := "fnExactBorderOf", fn := fun _ => fun
  | [d] => { results := [.lit (.bool true)], args := [d] }
  | _ => none }
def fnExactBorderOfRow : OpenClaim := { program := "ytmmiadkmldaegaa", sum := "44f61110dcca08a38c613bcd853c6fc98bc96a7460c86208d0274c9bc14d6cbf", func := "loop.example/g01222/laws.FnExactBorderOf", spec := "fnExactBorderOf", unfollowed := true, recurses := true, plainKeys := false, apart := false }
def FnExactBorderOfSaid : Prop := fnExactBorderOfRow.holds Try.pinned (OpenSpec.ofChange fnExactBorderOfSpec)

/-- ITS FALSE NEIGHBOUR: 'it returns false'. Refute it at one input. -/
def fnExactBorderOfWrong : ChangeSpec := { name := "fnExactBorderOf", fn := fun _ => fun
  | [d] => { results := [.lit (.bool false)], args := [d] }
  | _ => none }
def FnExactBorderOfWrongFalsely : Prop := fnExactBorderOfRow.holds Try.pinned (OpenSpec.ofChange fnExactBorderOfWrong)

/-- 'laws.FnExactIsSheet': WHATEVER THE INPUT: true; the input reads as it did. -/
def fnExactIsSheetSpec : ChangeSpec := { name := "fnExactIsSheet", fn := fun _ => fun
  | [d] => { results := [.lit (.bool true)], args := [d] }
  | _ => none }
def fnExactIsSheetRow : OpenClaim := { program := "ytmmiadkmldaegaa", sum := "44f61110dcca08a38c613bcd853c6fc98bc96a7460c86208d0274c9bc14d6cbf", func := "loop.example/g01222/laws.FnExactIsSheet", spec := "fnExactIsSheet", plainKeys := false, apart := false }
def FnExactIsSheetSaid : Prop := fnExactIsSheetRow.holds Try.pinned (OpenSpec.ofChange fnExactIsSheetSpec)

/-- ITS FALSE NEIGHBOUR: 'it returns false'. Refute it at one input. -/
def fnExactIsSheetWrong : ChangeSpec := { name := "fnExactIsSheet", fn := fun _ => fun
  | [d] => { results := [.lit (.bool false)], args := [d] }
  | _ => none }
def FnExactIsSheetWrongFalsely : Prop := fnExactIsSheetRow.holds Try.pinned (OpenSpec.ofChange fnExactIsSheetWrong)

/-- 'laws.FnExactEulerOf': WHATEVER THE INPUT: true; the input reads as it did. -/
def fnExactEulerOfSpec : ChangeSpec := { name := "fnExactEulerOf", fn := fun _ => fun
  | [d] => { results := [.lit (.bool true)], args := [d] }
  | _ => none }
def fnExactEulerOfRow : OpenClaim := { program := "ytmmiadkmldaegaa", sum := "44f61110dcca08a38c613bcd853c6fc98bc96a7460c86208d0274c9bc14d6cbf", func := "loop.example/g01222/laws.FnExactEulerOf", spec := "fnExactEulerOf", unfollowed := true, recurses := true, plainKeys := false, apart := false }
def FnExactEulerOfSaid : Prop := fnExactEulerOfRow.holds Try.pinned (OpenSpec.ofChange fnExactEulerOfSpec)

/-- ITS FALSE NEIGHBOUR: 'it returns false'. Refute it at one input. -/
def fnExactEulerOfWrong : ChangeSpec := { name := "fnExactEulerOf", fn := fun _ => fun
  | [d] => { results := [.lit (.bool false)], args := [d] }
  | _ => none }
def FnExactEulerOfWrongFalsely : Prop := fnExactEulerOfRow.holds Try.pinned (OpenSpec.ofChange fnExactEulerOfWrong)

/-- 'laws.FnExactNeighboursOf': WHATEVER THE INPUT: true; the input reads as it did. -/
def fnExactNeighboursOfSpec : ChangeSpec := { name := "fnExactNeighboursOf", fn := fun _ => fun
  | [d1, d2] => { results := [.lit (.bool true)], args := [d1, d2] }
  | _ => none }
def fnExactNeighboursOfRow : OpenClaim := { program := "ytmmiadkmldaegaa", sum := "44f61110dcca08a38c613bcd853c6fc98bc96a7460c86208d0274c9bc14d6cbf", func := "loop.example/g01222/laws.FnExactNeighboursOf", spec := "fnExactNeighboursOf", unfollowed := true, recurses := true, plainKeys := false, apart := false }
def FnExactNeighboursOfSaid : Prop := fnExactNeighboursOfRow.holds Try.pinned (OpenSpec.ofChange fnExactNeighboursOfSpec)

/-- ITS FALSE NEIGHBOUR: 'it returns false'. Refute it at one input. -/
def fnExactNeighboursOfWrong : ChangeSpec := { name := "fnExactNeighboursOf", fn := fun _ => fun
  | [d1, d2] => { results := [.lit (.bool false)], args := [d1, d2] }
  | _ => none }
def FnExactNeighboursOfWrongFalsely : Prop := fnExactNeighboursOfRow.holds Try.pinned (OpenSpec.ofChange fnExactNeighboursOfWrong)

/-- 'laws.FnExactPiecesOf': WHATEVER THE INPUT: true; the input reads as it did. -/
def fnExactPiecesOfSpec : ChangeSpec := { name := "fnExactPiecesOf", fn := fun _ => fun
  | [d] => { results := [.lit (.bool true)], args := [d] }
  | _ => none }
def fnExactPiecesOfRow : OpenClaim := { program := "ytmmiadkmldaegaa", sum := "44f61110dcca08a38c613bcd853c6fc98bc96a7460c86208d0274c9bc14d6cbf", func := "loop.example/g01222/laws.FnExactPiecesOf", spec := "fnExactPiecesOf", unfollowed := true, recurses := true, plainKeys := false, apart := false }
def FnExactPiecesOfSaid : Prop := fnExactPiecesOfRow.holds Try.pinned (OpenSpec.ofChange fnExactPiecesOfSpec)

/-- ITS FALSE NEIGHBOUR: 'it returns false'. Refute it at one input. -/
def fnExactPiecesOfWrong : ChangeSpec := { name := "fnExactPiecesOf", fn := fun _ => fun
  | [d] => { results := [.lit (.bool false)], args := [d] }
  | _ => none }
def FnExactPiecesOfWrongFalsely : Prop := fnExactPiecesOfRow.holds Try.pinned (OpenSpec.ofChange fnExactPiecesOfWrong)

/- THE SECOND FORM. 'bulk': how many values and letters a reading holds, each counted each time it is reached (what is shared counts as often as it is met; a slice's spare places count too). A statement '..UptoSaid' is the law's where the arguments, and the package variables that the reading takes, are together of bulk at most 1048576: NARROWER than '..Said'. Prove '..Said' where nothing that the law and all that it calls make is longer than what came in: it says more and counts as full. Else prove '..UptoSaid'. A law counts once. -/
mutual
def uptoBulk {H : Type} : DataW H → Nat
  | .lit (.string bytes) => bytes.length + 1
  | .lit _ => 1
  | .nil => 1
  | .ptr d => uptoBulk d + 1
  | .slice elems spare => uptoBulkAll elems + uptoBulkAll spare + 1
  | .agg parts => uptoBulkAll parts + 1
  | .iface _ d => uptoBulk d + 1
  | .map entries => uptoBulkEntries entries + 1
  | .held _ => 1
def uptoBulkAll {H : Type} : List (DataW H) → Nat
  | [] => 0
  | d :: r => uptoBulk d + uptoBulkAll r
def uptoBulkEntries {H : Type} : List (Lit × DataW H) → Nat
  | [] => 0
  | x :: r => uptoBulkEntry x + uptoBulkEntries r
def uptoBulkEntry {H : Type} : Lit × DataW H → Nat
  | (.string bytes, d) => bytes.length + uptoBulk d + 1
  | (_, d) => uptoBulk d + 1
 end
def uptoSmall : (H : Type) → List (DataW H) → Bool := fun _ ds => decide (uptoBulkAll ds ≤ 1048576)
def OpenSpec.upto (s : _root_.Go.ChangeSpec) : _root_.Go.OpenSpec := { _root_.Go.OpenSpec.ofChange s with cond := some uptoSmall }

/-- 'laws.FnExactEdgesOf', WHERE WHAT IT READS IS OF BULK AT MOST 1048576: true; the input reads as it did. -/
def fnExactEdgesOfUptoRow : OpenClaim := { program := "ytmmiadkmldaegaa", sum := "44f61110dcca08a38c613bcd853c6fc98bc96a7460c86208d0274c9bc14d6cbf", func := "loop.example/g01222/laws.FnExactEdgesOf", spec := "fnExactEdgesOf", unfollowed := true, recurses := true, plainKeys := false, apart := false, narrowed := true }
def FnExactEdgesOfUptoSaid : Prop := fnExactEdgesOfUptoRow.holds Try.pinned (OpenSpec.upto fnExactEdgesOfSpec)

/-- 'laws.FnExactLongsOf', WHERE WHAT IT READS IS OF BULK AT MOST 1048576: true; the input reads as it did. -/
def fnExactLongsOfUptoRow : OpenClaim := { program := "ytmmiadkmldaegaa", sum := "44f61110dcca08a38c613bcd853c6fc98bc96a7460c86208d0274c9bc14d6cbf", func := "loop.example/g01222/laws.FnExactLongsOf", spec := "fnExactLongsOf", inPlace := ["math.sqrt"], unfollowed := true, recurses := true, plainKeys := false, apart := false, narrowed := true }
def FnExactLongsOfUptoSaid : Prop := fnExactLongsOfUptoRow.holds Try.pinned (OpenSpec.upto fnExactLongsOfSpec)

/-- 'laws.FnExactJoinMeshes', WHERE WHAT IT READS IS OF BULK AT MOST 1048576: true; the input reads as it did. -/
def fnExactJoinMeshesUptoRow : OpenClaim := { program := "ytmmiadkmldaegaa", sum := "44f61110dcca08a38c613bcd853c6fc98bc96a7460c86208d0274c9bc14d6cbf", func := "loop.example/g01222/laws.FnExactJoinMeshes", spec := "fnExactJoinMeshes", plainKeys := false, apart := false, narrowed := true }
def FnExactJoinMeshesUptoSaid : Prop := fnExactJoinMeshesUptoRow.holds Try.pinned (OpenSpec.upto fnExactJoinMeshesSpec)

/-- 'laws.FnExactGridMesh', WHERE WHAT IT READS IS OF BULK AT MOST 1048576: true; the input reads as it did. -/
def fnExactGridMeshUptoRow : OpenClaim := { program := "ytmmiadkmldaegaa", sum := "44f61110dcca08a38c613bcd853c6fc98bc96a7460c86208d0274c9bc14d6cbf", func := "loop.example/g01222/laws.FnExactGridMesh", spec := "fnExactGridMesh", inPlace := ["math.Float64bits", "math.Float64frombits"], plainKeys := false, apart := false, narrowed := true }
def FnExactGridMeshUptoSaid : Prop := fnExactGridMeshUptoRow.holds Try.pinned (OpenSpec.upto fnExactGridMeshSpec)

/-- 'laws.FnExactRingMesh', WHERE WHAT IT READS IS OF BULK AT MOST 1048576: true; the input reads as it did. -/
def fnExactRingMeshUptoRow : OpenClaim := { program := "ytmmiadkmldaegaa", sum := "44f61110dcca08a38c613bcd853c6fc98bc96a7460c86208d0274c9bc14d6cbf", func := "loop.example/g01222/laws.FnExactRingMesh", spec := "fnExactRingMesh", inPlace := ["math.Float64frombits", "math.Float64bits"], plainKeys := false, apart := false, narrowed := true }
def FnExactRingMeshUptoSaid : Prop := fnExactRingMeshUptoRow.holds Try.pinned (OpenSpec.upto fnExactRingMeshSpec)

/-- 'laws.FnExactBoxMesh', WHERE WHAT IT READS IS OF BULK AT MOST 1048576: true; the input reads as it did. -/
def fnExactBoxMeshUptoRow : OpenClaim := { program := "ytmmiadkmldaegaa", sum := "44f61110dcca08a38c613bcd853c6fc98bc96a7460c86208d0274c9bc14d6cbf", func := "loop.example/g01222/laws.FnExactBoxMesh", spec := "fnExactBoxMesh", inPlace := ["math.Float64bits", "math.Float64frombits"], plainKeys := false, apart := false, narrowed := true }
def FnExactBoxMeshUptoSaid : Prop := fnExactBoxMeshUptoRow.holds Try.pinned (OpenSpec.upto fnExactBoxMeshSpec)

/-- 'laws.FnExactBallMesh', WHERE WHAT IT READS IS OF BULK AT MOST 1048576: true; the input reads as it did. -/
def fnExactBallMeshUptoRow : OpenClaim := { program := "ytmmiadkmldaegaa", sum := "44f61110dcca08a38c613bcd853c6fc98bc96a7460c86208d0274c9bc14d6cbf", func := "loop.example/g01222/laws.FnExactBallMesh", spec := "fnExactBallMesh", inPlace := ["math.sqrt", "math.Float64bits", "math.Float64frombits"], unfollowed := true, recurses := true, plainKeys := false, apart := false, narrowed := true }
def FnExactBallMeshUptoSaid : Prop := fnExactBallMeshUptoRow.holds Try.pinned (OpenSpec.upto fnExactBallMeshSpec)

/-- 'laws.FnExactBorderOf', WHERE WHAT IT READS IS OF BULK AT MOST 1048576: true; the input reads as it did. -/
def fnExactBorderOfUptoRow : OpenClaim := { program := "ytmmiadkmldaegaa", sum := "44f61110dcca08a38c613bcd853c6fc98bc96a7460c86208d0274c9bc14d6cbf", func := "loop.example/g01222/laws.FnExactBorderOf", spec := "fnExactBorderOf", unfollowed := true, recurses := true, plainKeys := false, apart := false, narrowed := true }
def FnExactBorderOfUptoSaid : Prop := fnExactBorderOfUptoRow.holds Try.pinned (OpenSpec.upto fnExactBorderOfSpec)

/-- 'laws.FnExactIsSheet', WHERE WHAT IT READS IS OF BULK AT MOST 1048576: true; the input reads as it did. -/
def fnExactIsSheetUptoRow : OpenClaim := { program := "ytmmiadkmldaegaa", sum := "44f61110dcca08a38c613bcd853c6fc98bc96a7460c86208d0274c9bc14d6cbf", func := "loop.example/g01222/laws.FnExactIsSheet", spec := "fnExactIsSheet", plainKeys := false, apart := false, narrowed := true }
def FnExactIsSheetUptoSaid : Prop := fnExactIsSheetUptoRow.holds Try.pinned (OpenSpec.upto fnExactIsSheetSpec)

/-- 'laws.FnExactEulerOf', WHERE WHAT IT READS IS OF BULK AT MOST 1048576: true; the input reads as it did. -/
def fnExactEulerOfUptoRow : OpenClaim := { program := "ytmmiadkmldaegaa", sum := "44f61110dcca08a38c613bcd853c6fc98bc96a7460c86208d0274c9bc14d6cbf", func := "loop.example/g01222/laws.FnExactEulerOf", spec := "fnExactEulerOf", unfollowed := true, recurses := true, plainKeys := false, apart := false, narrowed := true }
def FnExactEulerOfUptoSaid : Prop := fnExactEulerOfUptoRow.holds Try.pinned (OpenSpec.upto fnExactEulerOfSpec)

/-- 'laws.FnExactNeighboursOf', WHERE WHAT IT READS IS OF BULK AT MOST 1048576: true; the input reads as it did. -/
def fnExactNeighboursOfUptoRow : OpenClaim := { program := "ytmmiadkmldaegaa", sum := "44f61110dcca08a38c613bcd853c6fc98bc96a7460c86208d0274c9bc14d6cbf", func := "loop.example/g01222/laws.FnExactNeighboursOf", spec := "fnExactNeighboursOf", unfollowed := true, recurses := true, plainKeys := false, apart := false, narrowed := true }
def FnExactNeighboursOfUptoSaid : Prop := fnExactNeighboursOfUptoRow.holds Try.pinned (OpenSpec.upto fnExactNeighboursOfSpec)

/-- 'laws.FnExactPiecesOf', WHERE WHAT IT READS IS OF BULK AT MOST 1048576: true; the input reads as it did. -/
def fnExactPiecesOfUptoRow : OpenClaim := { program := "ytmmiadkmldaegaa", sum := "44f61110dcca08a38c613bcd853c6fc98bc96a7460c86208d0274c9bc14d6cbf", func := "loop.example/g01222/laws.FnExactPiecesOf", spec := "fnExactPiecesOf", unfollowed := true, recurses := true, plainKeys := false, apart := false, narrowed := true }
def FnExactPiecesOfUptoSaid : Prop := fnExactPiecesOfUptoRow.holds Try.pinned (OpenSpec.upto fnExactPiecesOfSpec)

end Rows
end Go.Proofs.Ytmmiadkmldaegaa

/-
  No cell of these rows narrows 'for every input' (looked for: loops, veiled, ifaces, maps, wideKeys, modest, calm, conditions, laid).
  DERIVED. THE GIVEN ROWS OF THIS SEAT. 12 by the template 'for every input the law returns true; each argument reads behind the call as it read before'; 0 by the template 'total and deterministic' (their statements: YtejgenjafajpnaaTotals.lean).
  GIVEN WITH THE SEED: the statements are not yours to turn. If you find one false, say at which input.
  Laid BY PROGRAM, IN A SANDBOX (cutbox-rows.mjs): the forced cells as the released guide's own fill.sh prints them over the translation 0691a9a280eb1939… (all of the seat's roots in one cut). By AI agents, Wed Nov 11 2026. No macro, syntax, notation, axiom, sorry.
-/
import Derived.Test.YtejgenjafajpnaaChecked
import GoSem.Claim
import GoSem.ClaimJoined
import GoSem.ClaimMapViews
import Derived.JoinedTies
import Derived.KernelRfl
namespace Go.Proofs.Ytejgenjafajpnaa
/- THE CELL 'sum', in the pinned program and in every row, IS THE sha256 OF THE DUMP (.gsa) THAT YtejgenjafajpnaaProg.lean LOADS. Nothing in Lean hashes anything: it is a label: what it is worth is what the hold of that sum in a sandbox is worth. -/
noncomputable def Try.pinned : Pinned := { name := "ytejgenjafajpnaa", sum := "0691a9a280eb1939dc5231aae660baf373873b244980af7933b17cc8e1b3d4f4", checked := Try.checked }
namespace Rows
def none {H : Type} : Left H := { results := [], args := [] }

/-- 'laws.FnExactSineTurns': WHATEVER THE INPUT: true; the input reads as it did. -/
def fnExactSineTurnsSpec : ChangeSpec := { name := "fnExactSineTurns", fn := fun _ => fun
  | [d] => { results := [.lit (.bool true)], args := [d] }
  | _ => none }
def fnExactSineTurnsRow : OpenClaim := { program := "ytejgenjafajpnaa", sum := "0691a9a280eb1939dc5231aae660baf373873b244980af7933b17cc8e1b3d4f4", func := "loop.example/g01222/laws.FnExactSineTurns", spec := "fnExactSineTurns", inPlace := ["math.Float64frombits", "math.Float64bits"], plainKeys := false, apart := false }
def FnExactSineTurnsSaid : Prop := fnExactSineTurnsRow.holds Try.pinned (OpenSpec.ofChange fnExactSineTurnsSpec)

/-- ITS FALSE NEIGHBOUR: 'it returns false'. Refute it at one input. -/
def fnExactSineTurnsWrong : ChangeSpec := { name := "fnExactSineTurns", fn := fun _ => fun
  | [d] => { results := [.lit (.bool false)], args := [d] }
  | _ => none }
def FnExactSineTurnsWrongFalsely : Prop := fnExactSineTurnsRow.holds Try.pinned (OpenSpec.ofChange fnExactSineTurnsWrong)

/-- 'laws.FnExactAngleTurns': WHATEVER THE INPUT: true; the input reads as it did. -/
def fnExactAngleTurnsSpec : ChangeSpec := { name := "fnExactAngleTurns", fn := fun _ => fun
  | [d1, d2] => { results := [.lit (.bool true)], args := [d1, d2] }
  | _ => none }
def fnExactAngleTurnsRow : OpenClaim := { program := "ytejgenjafajpnaa", sum := "0691a9a280eb1939dc5231aae660baf373873b244980af7933b17cc8e1b3d4f4", func := "loop.example/g01222/laws.FnExactAngleTurns", spec := "fnExactAngleTurns", inPlace := ["math.Float64frombits", "math.Float64bits", "math.sqrt"], plainKeys := false, apart := false }
def FnExactAngleTurnsSaid : Prop := fnExactAngleTurnsRow.holds Try.pinned (OpenSpec.ofChange fnExactAngleTurnsSpec)

/-- ITS FALSE NEIGHBOUR: 'it returns false'. Refute it at one input. -/
def fnExactAngleTurnsWrong : ChangeSpec := { name := "fnExactAngleTurns", fn := fun _ => fun
  | [d1, d2] => { results := [.lit (.bool false)], args := [d1, d2] }
  | _ => none }
def FnExactAngleTurnsWrongFalsely : Prop := fnExactAngleTurnsRow.holds Try.pinned (OpenSpec.ofChange fnExactAngleTurnsWrong)

/-- 'laws.FnExactLogNumber': WHATEVER THE INPUT: true; the input reads as it did. -/
def fnExactLogNumberSpec : ChangeSpec := { name := "fnExactLogNumber", fn := fun _ => fun
  | [d] => { results := [.lit (.bool true)], args := [d] }
  | _ => none }
def fnExactLogNumberRow : OpenClaim := { program := "ytejgenjafajpnaa", sum := "0691a9a280eb1939dc5231aae660baf373873b244980af7933b17cc8e1b3d4f4", func := "loop.example/g01222/laws.FnExactLogNumber", spec := "fnExactLogNumber", inPlace := ["math.Float64frombits", "math.Float64bits"], plainKeys := false, apart := false }
def FnExactLogNumberSaid : Prop := fnExactLogNumberRow.holds Try.pinned (OpenSpec.ofChange fnExactLogNumberSpec)

/-- ITS FALSE NEIGHBOUR: 'it returns false'. Refute it at one input. -/
def fnExactLogNumberWrong : ChangeSpec := { name := "fnExactLogNumber", fn := fun _ => fun
  | [d] => { results := [.lit (.bool false)], args := [d] }
  | _ => none }
def FnExactLogNumberWrongFalsely : Prop := fnExactLogNumberRow.holds Try.pinned (OpenSpec.ofChange fnExactLogNumberWrong)

/-- 'laws.FnExactNormalOf': WHATEVER THE INPUT: true; the input reads as it did. -/
def fnExactNormalOfSpec : ChangeSpec := { name := "fnExactNormalOf", fn := fun _ => fun
  | [d1, d2] => { results := [.lit (.bool true)], args := [d1, d2] }
  | _ => none }
def fnExactNormalOfRow : OpenClaim := { program := "ytejgenjafajpnaa", sum := "0691a9a280eb1939dc5231aae660baf373873b244980af7933b17cc8e1b3d4f4", func := "loop.example/g01222/laws.FnExactNormalOf", spec := "fnExactNormalOf", plainKeys := false, apart := false }
def FnExactNormalOfSaid : Prop := fnExactNormalOfRow.holds Try.pinned (OpenSpec.ofChange fnExactNormalOfSpec)

/-- ITS FALSE NEIGHBOUR: 'it returns false'. Refute it at one input. -/
def fnExactNormalOfWrong : ChangeSpec := { name := "fnExactNormalOf", fn := fun _ => fun
  | [d1, d2] => { results := [.lit (.bool false)], args := [d1, d2] }
  | _ => none }
def FnExactNormalOfWrongFalsely : Prop := fnExactNormalOfRow.holds Try.pinned (OpenSpec.ofChange fnExactNormalOfWrong)

/-- 'laws.FnExactMoveMesh': WHATEVER THE INPUT: true; the input reads as it did. -/
def fnExactMoveMeshSpec : ChangeSpec := { name := "fnExactMoveMesh", fn := fun _ => fun
  | [d1, d2] => { results := [.lit (.bool true)], args := [d1, d2] }
  | _ => none }
def fnExactMoveMeshRow : OpenClaim := { program := "ytejgenjafajpnaa", sum := "0691a9a280eb1939dc5231aae660baf373873b244980af7933b17cc8e1b3d4f4", func := "loop.example/g01222/laws.FnExactMoveMesh", spec := "fnExactMoveMesh", unfollowed := true, recurses := true, plainKeys := false, apart := false }
def FnExactMoveMeshSaid : Prop := fnExactMoveMeshRow.holds Try.pinned (OpenSpec.ofChange fnExactMoveMeshSpec)

/-- ITS FALSE NEIGHBOUR: 'it returns false'. Refute it at one input. -/
def fnExactMoveMeshWrong : ChangeSpec := { name := "fnExactMoveMesh", fn := fun _ => fun
  | [d1, d2] => { results := [.lit (.bool false)], args := [d1, d2] }
  | _ => none }
def FnExactMoveMeshWrongFalsely : Prop := fnExactMoveMeshRow.holds Try.pinned (OpenSpec.ofChange fnExactMoveMeshWrong)

/-- 'laws.FnExactScaleMesh': WHATEVER THE INPUT: true; the input reads as it did. -/
def fnExactScaleMeshSpec : ChangeSpec := { name := "fnExactScaleMesh", fn := fun _ => fun
  | [d1, d2] => { results := [.lit (.bool true)], args := [d1, d2] }
  | _ => none }
def fnExactScaleMeshRow : OpenClaim := { program := "ytejgenjafajpnaa", sum := "0691a9a280eb1939dc5231aae660baf373873b244980af7933b17cc8e1b3d4f4", func := "loop.example/g01222/laws.FnExactScaleMesh", spec := "fnExactScaleMesh", unfollowed := true, recurses := true, plainKeys := false, apart := false }
def FnExactScaleMeshSaid : Prop := fnExactScaleMeshRow.holds Try.pinned (OpenSpec.ofChange fnExactScaleMeshSpec)

/-- ITS FALSE NEIGHBOUR: 'it returns false'. Refute it at one input. -/
def fnExactScaleMeshWrong : ChangeSpec := { name := "fnExactScaleMesh", fn := fun _ => fun
  | [d1, d2] => { results := [.lit (.bool false)], args := [d1, d2] }
  | _ => none }
def FnExactScaleMeshWrongFalsely : Prop := fnExactScaleMeshRow.holds Try.pinned (OpenSpec.ofChange fnExactScaleMeshWrong)

/-- 'laws.FnExactAreaOf': WHATEVER THE INPUT: true; the input reads as it did. -/
def fnExactAreaOfSpec : ChangeSpec := { name := "fnExactAreaOf", fn := fun _ => fun
  | [d] => { results := [.lit (.bool true)], args := [d] }
  | _ => none }
def fnExactAreaOfRow : OpenClaim := { program := "ytejgenjafajpnaa", sum := "0691a9a280eb1939dc5231aae660baf373873b244980af7933b17cc8e1b3d4f4", func := "loop.example/g01222/laws.FnExactAreaOf", spec := "fnExactAreaOf", inPlace := ["math.sqrt"], unfollowed := true, recurses := true, plainKeys := false, apart := false }
def FnExactAreaOfSaid : Prop := fnExactAreaOfRow.holds Try.pinned (OpenSpec.ofChange fnExactAreaOfSpec)

/-- ITS FALSE NEIGHBOUR: 'it returns false'. Refute it at one input. -/
def fnExactAreaOfWrong : ChangeSpec := { name := "fnExactAreaOf", fn := fun _ => fun
  | [d] => { results := [.lit (.bool false)], args := [d] }
  | _ => none }
def FnExactAreaOfWrongFalsely : Prop := fnExactAreaOfRow.holds Try.pinned (OpenSpec.ofChange fnExactAreaOfWrong)

/-- 'laws.FnExactLongsOf': WHATEVER THE INPUT: true; the input reads as it did. -/
def fnExactLongsOfSpec : ChangeSpec := { name := "fnExactLongsOf", fn := fun _ => fun
  | [d] => { results := [.lit (.bool true)], args := [d] }
  | _ => none }
def fnExactLongsOfRow : OpenClaim := { program := "ytejgenjafajpnaa", sum := "0691a9a280eb1939dc5231aae660baf373873b244980af7933b17cc8e1b3d4f4", func := "loop.example/g01222/laws.FnExactLongsOf", spec := "fnExactLongsOf", inPlace := ["math.sqrt"], unfollowed := true, recurses := true, plainKeys := false, apart := false }
def FnExactLongsOfSaid : Prop := fnExactLongsOfRow.holds Try.pinned (OpenSpec.ofChange fnExactLongsOfSpec)

/-- ITS FALSE NEIGHBOUR: 'it returns false'. Refute it at one input. -/
def fnExactLongsOfWrong : ChangeSpec := { name := "fnExactLongsOf", fn := fun _ => fun
  | [d] => { results := [.lit (.bool false)], args := [d] }
  | _ => none }
def FnExactLongsOfWrongFalsely : Prop := fnExactLongsOfRow.holds Try.pinned (OpenSpec.ofChange fnExactLongsOfWrong)

/-- 'laws.FnExactGridMesh': WHATEVER THE INPUT: true; the input reads as it did. -/
def fnExactGridMeshSpec : ChangeSpec := { name := "fnExactGridMesh", fn := fun _ => fun
  | [d1, d2, d3] => { results := [.lit (.bool true)], args := [d1, d2, d3] }
  | _ => none }
def fnExactGridMeshRow : OpenClaim := { program := "ytejgenjafajpnaa", sum := "0691a9a280eb1939dc5231aae660baf373873b244980af7933b17cc8e1b3d4f4", func := "loop.example/g01222/laws.FnExactGridMesh", spec := "fnExactGridMesh", inPlace := ["math.Float64bits", "math.Float64frombits"], plainKeys := false, apart := false }
def FnExactGridMeshSaid : Prop := fnExactGridMeshRow.holds Try.pinned (OpenSpec.ofChange fnExactGridMeshSpec)

/-- ITS FALSE NEIGHBOUR: 'it returns false'. Refute it at one input. -/
def fnExactGridMeshWrong : ChangeSpec := { name := "fnExactGridMesh", fn := fun _ => fun
  | [d1, d2, d3] => { results := [.lit (.bool false)], args := [d1, d2, d3] }
  | _ => none }
def FnExactGridMeshWrongFalsely : Prop := fnExactGridMeshRow.holds Try.pinned (OpenSpec.ofChange fnExactGridMeshWrong)

/-- 'laws.FnExactRingMesh': WHATEVER THE INPUT: true; the input reads as it did. -/
def fnExactRingMeshSpec : ChangeSpec := { name := "fnExactRingMesh", fn := fun _ => fun
  | [d1, d2, d3, d4] => { results := [.lit (.bool true)], args := [d1, d2, d3, d4] }
  | _ => none }
def fnExactRingMeshRow : OpenClaim := { program := "ytejgenjafajpnaa", sum := "0691a9a280eb1939dc5231aae660baf373873b244980af7933b17cc8e1b3d4f4", func := "loop.example/g01222/laws.FnExactRingMesh", spec := "fnExactRingMesh", inPlace := ["math.Float64frombits", "math.Float64bits"], plainKeys := false, apart := false }
def FnExactRingMeshSaid : Prop := fnExactRingMeshRow.holds Try.pinned (OpenSpec.ofChange fnExactRingMeshSpec)

/-- ITS FALSE NEIGHBOUR: 'it returns false'. Refute it at one input. -/
def fnExactRingMeshWrong : ChangeSpec := { name := "fnExactRingMesh", fn := fun _ => fun
  | [d1, d2, d3, d4] => { results := [.lit (.bool false)], args := [d1, d2, d3, d4] }
  | _ => none }
def FnExactRingMeshWrongFalsely : Prop := fnExactRingMeshRow.holds Try.pinned (OpenSpec.ofChange fnExactRingMeshWrong)

/-- 'laws.FnExactBoxMesh': WHATEVER THE INPUT: true; the input reads as it did. -/
def fnExactBoxMeshSpec : ChangeSpec := { name := "fnExactBoxMesh", fn := fun _ => fun
  | [d] => { results := [.lit (.bool true)], args := [d] }
  | _ => none }
def fnExactBoxMeshRow : OpenClaim := { program := "ytejgenjafajpnaa", sum := "0691a9a280eb1939dc5231aae660baf373873b244980af7933b17cc8e1b3d4f4", func := "loop.example/g01222/laws.FnExactBoxMesh", spec := "fnExactBoxMesh", inPlace := ["math.Float64bits", "math.Float64frombits"], plainKeys := false, apart := false }
def FnExactBoxMeshSaid : Prop := fnExactBoxMeshRow.holds Try.pinned (OpenSpec.ofChange fnExactBoxMeshSpec)

/-- ITS FALSE NEIGHBOUR: 'it returns false'. Refute it at one input. -/
def fnExactBoxMeshWrong : ChangeSpec := { name := "fnExactBoxMesh", fn := fun _ => fun
  | [d] => { results := [.lit (.bool false)], args := [d] }
  | _ => none }
def FnExactBoxMeshWrongFalsely : Prop := fnExactBoxMeshRow.holds Try.pinned (OpenSpec.ofChange fnExactBoxMeshWrong)

/-- 'laws.FnExactBallMesh': WHATEVER THE INPUT: true; the input reads as it did. -/
def fnExactBallMeshSpec : ChangeSpec := { name := "fnExactBallMesh", fn := fun _ => fun
  | [d1, d2] => { results := [.lit (.bool true)], args := [d1, d2] }
  | _ => none }
def fnExactBallMeshRow : OpenClaim := { program := "ytejgenjafajpnaa", sum := "0691a9a280eb1939dc5231aae660baf373873b244980af7933b17cc8e1b3d4f4", func := "loop.example/g01222/laws.FnExactBallMesh", spec := "fnExactBallMesh", inPlace := ["math.sqrt", "math.Float64bits", "math.Float64frombits"], unfollowed := true, recurses := true, plainKeys := false, apart := false }
def FnExactBallMeshSaid : Prop := fnExactBallMeshRow.holds Try.pinned (OpenSpec.ofChange fnExactBallMeshSpec)

/-- ITS FALSE NEIGHBOUR: 'it returns false'. Refute it at one input. -/
def fnExactBallMeshWrong : ChangeSpec := { name := "fnExactBallMesh", fn := fun _ => fun
  | [d1, d2] => { results := [.lit (.bool false)], args := [d1, d2] }
  | _ => none }
def FnExactBallMeshWrongFalsely : Prop := fnExactBallMeshRow.holds Try.pinned (OpenSpec.ofChange fnExactBallMeshWrong)

/- THE SECOND FORM. 'bulk': how many values and letters a reading holds, each counted each time it is reached (what is shared counts as often as it is met; a slice's spare places count too). A statement '..UptoSaid' is the law's where the arguments, and the package variables that the reading takes, are together of bulk at most 1048576: NARROWER than '..Said'. Prove '..Said' where nothing that the law and all that it calls make is longer than what came in: it says more and counts as full. Else prove '..UptoSaid'. A law counts once. -/
mutual
def uptoBulk {H : Type} : DataW H → Nat
  | .lit (.string bytes) => bytes.length + 1
  | .lit _ => 1
  | .nil => 1
  | .ptr d => uptoBulk d + 1
  | .slice elems spare => uptoBulkAll elems + uptoBulkAll spare + 1
  | .agg parts => uptoBulkAll parts + 1
  | .iface _ d => uptoBulk d + 1
  | .map entries => uptoBulkEntries entries + 1
  | .held _ => 1
def uptoBulkAll {H : Type} : List (DataW H) → Nat
  | [] => 0
  | d :: r => uptoBulk d + uptoBulkAll r
def uptoBulkEntries {H : Type} : List (Lit × DataW H) → Nat
  | [] => 0
  | x :: r => uptoBulkEntry x + uptoBulkEntries r
def uptoBulkEntry {H : Type} : Lit × DataW H → Nat
  | (.string bytes, d) => bytes.length + uptoBulk d + 1
  | (_, d) => uptoBulk d + 1
 end
def uptoSmall : (H : Type) → List (DataW H) → Bool := fun _ ds => decide (uptoBulkAll ds ≤ 1048576)
def OpenSpec.upto (s : _root_.Go.ChangeSpec) : _root_.Go.OpenSpec := { _root_.Go.OpenSpec.ofChange s with cond := some uptoSmall }

/-- 'laws.FnExactSineTurns', WHERE WHAT IT READS IS OF BULK AT MOST 1048576: true; the input reads as it did. -/
def fnExactSineTurnsUptoRow : OpenClaim := { program := "ytejgenjafajpnaa", sum := "0691a9a280eb1939dc5231aae660baf373873b244980af7933b17cc8e1b3d4f4", func := "loop.example/g01222/laws.FnExactSineTurns", spec := "fnExactSineTurns", inPlace := ["math.Float64frombits", "math.Float64bits"], plainKeys := false, apart := false, narrowed := true }
def FnExactSineTurnsUptoSaid : Prop := fnExactSineTurnsUptoRow.holds Try.pinned (OpenSpec.upto fnExactSineTurnsSpec)

/-- 'laws.FnExactAngleTurns', WHERE WHAT IT READS IS OF BULK AT MOST 1048576: true; the input reads as it did. -/
def fnExactAngleTurnsUptoRow : OpenClaim := { program := "ytejgenjafajpnaa", sum := "0691a9a280eb1939dc5231aae660baf373873b244980af7933b17cc8e1b3d4f4", func := "loop.example/g01222/laws.FnExactAngleTurns", spec := "fnExactAngleTurns", inPlace := ["math.Float64frombits", "math.Float64bits", "math.sqrt"], plainKeys := false, apart := false, narrowed := true }
def FnExactAngleTurnsUptoSaid : Prop := fnExactAngleTurnsUptoRow.holds Try.pinned (OpenSpec.upto fnExactAngleTurnsSpec)

/-- 'laws.FnExactLogNumber', WHERE WHAT IT READS IS OF BULK AT MOST 1048576: true; the input reads as it did. -/
def fnExactLogNumberUptoRow : OpenClaim := { program := "ytejgenjafajpnaa", sum := "0691a9a280eb1939dc5231aae660baf373873b244980af7933b17cc8e1b3d4f4", func := "loop.example/g01222/laws.FnExactLogNumber", spec := "fnExactLogNumber", inPlace := ["math.Float64frombits", "math.Float64bits"], plainKeys := false, apart := false, narrowed := true }
def FnExactLogNumberUptoSaid : Prop := fnExactLogNumberUptoRow.holds Try.pinned (OpenSpec.upto fnExactLogNumberSpec)

/-- 'laws.FnExactNormalOf', WHERE WHAT IT READS IS OF BULK AT MOST 1048576: true; the input reads as it did. -/
def fnExactNormalOfUptoRow : OpenClaim := { program := "ytejgenjafajpnaa", sum := "0691a9a280eb1939dc5231aae660baf373873b244980af7933b17cc8e1b3d4f4", func := "loop.example/g01222/laws.FnExactNormalOf", spec := "fnExactNormalOf", plainKeys := false, apart := false, narrowed := true }
def FnExactNormalOfUptoSaid : Prop := fnExactNormalOfUptoRow.holds Try.pinned (OpenSpec.upto fnExactNormalOfSpec)

/-- 'laws.FnExactMoveMesh', WHERE WHAT IT READS IS OF BULK AT MOST 1048576: true; the input reads as it did. -/
def fnExactMoveMeshUptoRow : OpenClaim := { program := "ytejgenjafajpnaa", sum := "0691a9a280eb1939dc5231aae660baf373873b244980af7933b17cc8e1b3d4f4", func := "loop.example/g01222/laws.FnExactMoveMesh", spec := "fnExactMoveMesh", unfollowed := true, recurses := true, plainKeys := false, apart := false, narrowed := true }
def FnExactMoveMeshUptoSaid : Prop := fnExactMoveMeshUptoRow.holds Try.pinned (OpenSpec.upto fnExactMoveMeshSpec)

/-- 'laws.FnExactScaleMesh', WHERE WHAT IT READS IS OF BULK AT MOST 1048576: true; the input reads as it did. -/
def fnExactScaleMeshUptoRow : OpenClaim := { program := "ytejgenjafajpnaa", sum := "0691a9a280eb1939dc5231aae660baf373873b244980af7933b17cc8e1b3d4f4", func := "loop.example/g01222/laws.FnExactScaleMesh", spec := "fnExactScaleMesh", unfollowed := true, recurses := true, plainKeys := false, apart := false, narrowed := true }
def FnExactScaleMeshUptoSaid : Prop := fnExactScaleMeshUptoRow.holds Try.pinned (OpenSpec.upto fnExactScaleMeshSpec)

/-- 'laws.FnExactAreaOf', WHERE WHAT IT READS IS OF BULK AT MOST 1048576: true; the input reads as it did. -/
def fnExactAreaOfUptoRow : OpenClaim := { program := "ytejgenjafajpnaa", sum := "0691a9a280eb1939dc5231aae660baf373873b244980af7933b17cc8e1b3d4f4", func := "loop.example/g01222/laws.FnExactAreaOf", spec := "fnExactAreaOf", inPlace := ["math.sqrt"], unfollowed := true, recurses := true, plainKeys := false, apart := false, narrowed := true }
def FnExactAreaOfUptoSaid : Prop := fnExactAreaOfUptoRow.holds Try.pinned (OpenSpec.upto fnExactAreaOfSpec)

/-- 'laws.FnExactLongsOf', WHERE WHAT IT READS IS OF BULK AT MOST 1048576: true; the input reads as it did. -/
def fnExactLongsOfUptoRow : OpenClaim := { program := "ytejgenjafajpnaa", sum := "0691a9a280eb1939dc5231aae660baf373873b244980af7933b17cc8e1b3d4f4", func := "loop.example/g01222/laws.FnExactLongsOf", spec := "fnExactLongsOf", inPlace := ["math.sqrt"], unfollowed := true, recurses := true, plainKeys := false, apart := false, narrowed := true }
def FnExactLongsOfUptoSaid : Prop := fnExactLongsOfUptoRow.holds Try.pinned (OpenSpec.upto fnExactLongsOfSpec)

/-- 'laws.FnExactGridMesh', WHERE WHAT IT READS IS OF BULK AT MOST 1048576: true; the input reads as it did. -/
def fnExactGridMeshUptoRow : OpenClaim := { program := "ytejgenjafajpnaa", sum := "0691a9a280eb1939dc5231aae660baf373873b244980af7933b17cc8e1b3d4f4", func := "loop.example/g01222/laws.FnExactGridMesh", spec := "fnExactGridMesh", inPlace := ["math.Float64bits", "math.Float64frombits"], plainKeys := false, apart := false, narrowed := true }
def FnExactGridMeshUptoSaid : Prop := fnExactGridMeshUptoRow.holds Try.pinned (OpenSpec.upto fnExactGridMeshSpec)

/-- 'laws.FnExactRingMesh', WHERE WHAT IT READS IS OF BULK AT MOST 1048576: true; the input reads as it did. -/
def fnExactRingMeshUptoRow : OpenClaim := { program := "ytejgenjafajpnaa", sum := "0691a9a280eb1939dc5231aae660baf373873b244980af7933b17cc8e1b3d4f4", func := "loop.example/g01222/laws.FnExactRingMesh", spec := "fnExactRingMesh", inPlace := ["math.Float64frombits", "math.Float64bits"], plainKeys := false, apart := false, narrowed := true }
def FnExactRingMeshUptoSaid : Prop := fnExactRingMeshUptoRow.holds Try.pinned (OpenSpec.upto fnExactRingMeshSpec)

/-- 'laws.FnExactBoxMesh', WHERE WHAT IT READS IS OF BULK AT MOST 1048576: true; the input reads as it did. -/
def fnExactBoxMeshUptoRow : OpenClaim := { program := "ytejgenjafajpnaa", sum := "0691a9a280eb1939dc5231aae660baf373873b244980af7933b17cc8e1b3d4f4", func := "loop.example/g01222/laws.FnExactBoxMesh", spec := "fnExactBoxMesh", inPlace := ["math.Float64bits", "math.Float64frombits"], plainKeys := false, apart := false, narrowed := true }
def FnExactBoxMeshUptoSaid : Prop := fnExactBoxMeshUptoRow.holds Try.pinned (OpenSpec.upto fnExactBoxMeshSpec)

/-- 'laws.FnExactBallMesh', WHERE WHAT IT READS IS OF BULK AT MOST 1048576: true; the input reads as it did. -/
def fnExactBallMeshUptoRow : OpenClaim := { program := "ytejgenjafajpnaa", sum := "0691a9a280eb1939dc5231aae660baf373873b244980af7933b17cc8e1b3d4f4", func := "loop.example/g01222/laws.FnExactBallMesh", spec := "fnExactBallMesh", inPlace := ["math.sqrt", "math.Float64bits", "math.Float64frombits"], unfollowed := true, recurses := true, plainKeys := false, apart := false, narrowed := true }
def FnExactBallMeshUptoSaid : Prop := fnExactBallMeshUptoRow.holds Try.pinned (OpenSpec.upto fnExactBallMeshSpec)

end Rows
end Go.Proofs.Ytejgenjafajpnaa

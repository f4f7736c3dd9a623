/-
  No cell of these rows narrows 'for every input' (looked for: loops, veiled, ifaces, maps, wideKeys, modest, calm, conditions, laid).
  DERIVED. THE GIVEN ROWS OF THIS SEAT. 12 by the template 'for every input the law returns true; each argument reads behind the call as it read before'; 0 by the template 'total and deterministic' (their statements: YtmbekamnogbgaaaTotals.lean).
  GIVEN WITH THE SEED: the statements are not yours to turn. If you find one false, say at which input.
  Laid BY PROGRAM, IN A SANDBOX (cutbox-rows.mjs): the forced cells as the released guide's own fill.sh prints them over the translation 1e9e253e97bea4e5… (all of the seat's roots in one cut). By AI agents, Wed Nov 11 2026. No macro, syntax, notation, axiom, sorry.
-/
import Derived.Test.YtmbekamnogbgaaaChecked
import GoSem.Claim
import GoSem.ClaimJoined
import GoSem.ClaimMapViews
import Derived.JoinedTies
import Derived.KernelRfl
namespace Go.Proofs.Ytmbekamnogbgaaa
/- THE CELL 'sum', in the pinned program and in every row, IS THE sha256 OF THE DUMP (.gsa) THAT YtmbekamnogbgaaaProg.lean LOADS. Nothing in Lean hashes anything: it is a label: what it is worth is what the hold of that sum in a sandbox is worth. -/
noncomputable def Try.pinned : Pinned := { name := "ytmbekamnogbgaaa", sum := "1e9e253e97bea4e57273cfac756ee26d7b0c031d98095e800dad0044a34518dc", checked := Try.checked }
namespace Rows
def none {H : Type} : Left H := { results := [], args := [] }

/-- 'laws.FnExactBareBody': WHATEVER THE INPUT: true; the input reads as it did. -/
def fnExactBareBodySpec : ChangeSpec := { name := "fnExactBareBody", fn := fun _ => fun
  | [d] => { results := [.lit (.bool true)], args := [d] }
  | _ => none }
def fnExactBareBodyRow : OpenClaim := { program := "ytmbekamnogbgaaa", sum := "1e9e253e97bea4e57273cfac756ee26d7b0c031d98095e800dad0044a34518dc", func := "loop.example/g01222/laws.FnExactBareBody", spec := "fnExactBareBody", plainKeys := false, apart := false }
def FnExactBareBodySaid : Prop := fnExactBareBodyRow.holds Try.pinned (OpenSpec.ofChange fnExactBareBodySpec)

/-- ITS FALSE NEIGHBOUR: 'it returns false'. Refute it at one input. -/
def fnExactBareBodyWrong : ChangeSpec := { name := "fnExactBareBody", fn := fun _ => fun
  | [d] => { results := [.lit (.bool false)], args := [d] }
  | _ => none }
def FnExactBareBodyWrongFalsely : Prop := fnExactBareBodyRow.holds Try.pinned (OpenSpec.ofChange fnExactBareBodyWrong)

/-- 'laws.FnExactMovePlaces': WHATEVER THE INPUT: true; the input reads as it did. -/
def fnExactMovePlacesSpec : ChangeSpec := { name := "fnExactMovePlaces", fn := fun _ => fun
  | [d1, d2, d3] => { results := [.lit (.bool true)], args := [d1, d2, d3] }
  | _ => none }
def fnExactMovePlacesRow : OpenClaim := { program := "ytmbekamnogbgaaa", sum := "1e9e253e97bea4e57273cfac756ee26d7b0c031d98095e800dad0044a34518dc", func := "loop.example/g01222/laws.FnExactMovePlaces", spec := "fnExactMovePlaces", plainKeys := false, apart := false }
def FnExactMovePlacesSaid : Prop := fnExactMovePlacesRow.holds Try.pinned (OpenSpec.ofChange fnExactMovePlacesSpec)

/-- ITS FALSE NEIGHBOUR: 'it returns false'. Refute it at one input. -/
def fnExactMovePlacesWrong : ChangeSpec := { name := "fnExactMovePlaces", fn := fun _ => fun
  | [d1, d2, d3] => { results := [.lit (.bool false)], args := [d1, d2, d3] }
  | _ => none }
def FnExactMovePlacesWrongFalsely : Prop := fnExactMovePlacesRow.holds Try.pinned (OpenSpec.ofChange fnExactMovePlacesWrong)

/-- 'laws.FnExactHoldMesh': WHATEVER THE INPUT: true; the input reads as it did. -/
def fnExactHoldMeshSpec : ChangeSpec := { name := "fnExactHoldMesh", fn := fun _ => fun
  | [d1, d2] => { results := [.lit (.bool true)], args := [d1, d2] }
  | _ => none }
def fnExactHoldMeshRow : OpenClaim := { program := "ytmbekamnogbgaaa", sum := "1e9e253e97bea4e57273cfac756ee26d7b0c031d98095e800dad0044a34518dc", func := "loop.example/g01222/laws.FnExactHoldMesh", spec := "fnExactHoldMesh", inPlace := ["math.Float64bits", "math.Float64frombits"], plainKeys := false, apart := false }
def FnExactHoldMeshSaid : Prop := fnExactHoldMeshRow.holds Try.pinned (OpenSpec.ofChange fnExactHoldMeshSpec)

/-- ITS FALSE NEIGHBOUR: 'it returns false'. Refute it at one input. -/
def fnExactHoldMeshWrong : ChangeSpec := { name := "fnExactHoldMesh", fn := fun _ => fun
  | [d1, d2] => { results := [.lit (.bool false)], args := [d1, d2] }
  | _ => none }
def FnExactHoldMeshWrongFalsely : Prop := fnExactHoldMeshRow.holds Try.pinned (OpenSpec.ofChange fnExactHoldMeshWrong)

/-- 'laws.FnExactStillMotion': WHATEVER THE INPUT: true; the input reads as it did. -/
def fnExactStillMotionSpec : ChangeSpec := { name := "fnExactStillMotion", fn := fun _ => fun
  | [d] => { results := [.lit (.bool true)], args := [d] }
  | _ => none }
def fnExactStillMotionRow : OpenClaim := { program := "ytmbekamnogbgaaa", sum := "1e9e253e97bea4e57273cfac756ee26d7b0c031d98095e800dad0044a34518dc", func := "loop.example/g01222/laws.FnExactStillMotion", spec := "fnExactStillMotion", plainKeys := false, apart := false }
def FnExactStillMotionSaid : Prop := fnExactStillMotionRow.holds Try.pinned (OpenSpec.ofChange fnExactStillMotionSpec)

/-- ITS FALSE NEIGHBOUR: 'it returns false'. Refute it at one input. -/
def fnExactStillMotionWrong : ChangeSpec := { name := "fnExactStillMotion", fn := fun _ => fun
  | [d] => { results := [.lit (.bool false)], args := [d] }
  | _ => none }
def FnExactStillMotionWrongFalsely : Prop := fnExactStillMotionRow.holds Try.pinned (OpenSpec.ofChange fnExactStillMotionWrong)

/-- 'laws.FnExactJoinMeshes': WHATEVER THE INPUT: true; the input reads as it did. -/
def fnExactJoinMeshesSpec : ChangeSpec := { name := "fnExactJoinMeshes", fn := fun _ => fun
  | [d1, d2] => { results := [.lit (.bool true)], args := [d1, d2] }
  | _ => none }
def fnExactJoinMeshesRow : OpenClaim := { program := "ytmbekamnogbgaaa", sum := "1e9e253e97bea4e57273cfac756ee26d7b0c031d98095e800dad0044a34518dc", func := "loop.example/g01222/laws.FnExactJoinMeshes", spec := "fnExactJoinMeshes", plainKeys := false, apart := false }
def FnExactJoinMeshesSaid : Prop := fnExactJoinMeshesRow.holds Try.pinned (OpenSpec.ofChange fnExactJoinMeshesSpec)

/-- ITS FALSE NEIGHBOUR: 'it returns false'. Refute it at one input. -/
def fnExactJoinMeshesWrong : ChangeSpec := { name := "fnExactJoinMeshes", fn := fun _ => fun
  | [d1, d2] => { results := [.lit (.bool false)], args := [d1, d2] }
  | _ => none }
def FnExactJoinMeshesWrongFalsely : Prop := fnExactJoinMeshesRow.holds Try.pinned (OpenSpec.ofChange fnExactJoinMeshesWrong)

/-- 'laws.FnExactSameForm': WHATEVER THE INPUT: true; the input reads as it did. -/
def fnExactSameFormSpec : ChangeSpec := { name := "fnExactSameForm", fn := fun _ => fun
  | [d1, d2] => { results := [.lit (.bool true)], args := [d1, d2] }
  | _ => none }
def fnExactSameFormRow : OpenClaim := { program := "ytmbekamnogbgaaa", sum := "1e9e253e97bea4e57273cfac756ee26d7b0c031d98095e800dad0044a34518dc", func := "loop.example/g01222/laws.FnExactSameForm", spec := "fnExactSameForm", unfollowed := true, recurses := true, plainKeys := false, apart := false }
def FnExactSameFormSaid : Prop := fnExactSameFormRow.holds Try.pinned (OpenSpec.ofChange fnExactSameFormSpec)

/-- ITS FALSE NEIGHBOUR: 'it returns false'. Refute it at one input. -/
def fnExactSameFormWrong : ChangeSpec := { name := "fnExactSameForm", fn := fun _ => fun
  | [d1, d2] => { results := [.lit (.bool false)], args := [d1, d2] }
  | _ => none }
def FnExactSameFormWrongFalsely : Prop := fnExactSameFormRow.holds Try.pinned (OpenSpec.ofChange fnExactSameFormWrong)

/-- 'laws.FnExactCutHole': WHATEVER THE INPUT: true; the input reads as it did. -/
def fnExactCutHoleSpec : ChangeSpec := { name := "fnExactCutHole", fn := fun _ => fun
  | [d1, d2] => { results := [.lit (.bool true)], args := [d1, d2] }
  | _ => none }
def fnExactCutHoleRow : OpenClaim := { program := "ytmbekamnogbgaaa", sum := "1e9e253e97bea4e57273cfac756ee26d7b0c031d98095e800dad0044a34518dc", func := "loop.example/g01222/laws.FnExactCutHole", spec := "fnExactCutHole", plainKeys := false, apart := false }
def FnExactCutHoleSaid : Prop := fnExactCutHoleRow.holds Try.pinned (OpenSpec.ofChange fnExactCutHoleSpec)

/-- ITS FALSE NEIGHBOUR: 'it returns false'. Refute it at one input. -/
def fnExactCutHoleWrong : ChangeSpec := { name := "fnExactCutHole", fn := fun _ => fun
  | [d1, d2] => { results := [.lit (.bool false)], args := [d1, d2] }
  | _ => none }
def FnExactCutHoleWrongFalsely : Prop := fnExactCutHoleRow.holds Try.pinned (OpenSpec.ofChange fnExactCutHoleWrong)

/-- 'laws.FnExactThicknessOf': WHATEVER THE INPUT: true; the input reads as it did. -/
def fnExactThicknessOfSpec : ChangeSpec := { name := "fnExactThicknessOf", fn := fun _ => fun
  | [d1, d2] => { results := [.lit (.bool true)], args := [d1, d2] }
  | _ => none }
def fnExactThicknessOfRow : OpenClaim := { program := "ytmbekamnogbgaaa", sum := "1e9e253e97bea4e57273cfac756ee26d7b0c031d98095e800dad0044a34518dc", func := "loop.example/g01222/laws.FnExactThicknessOf", spec := "fnExactThicknessOf", inPlace := ["math.sqrt"], plainKeys := false, apart := false }
def FnExactThicknessOfSaid : Prop := fnExactThicknessOfRow.holds Try.pinned (OpenSpec.ofChange fnExactThicknessOfSpec)

/-- ITS FALSE NEIGHBOUR: 'it returns false'. Refute it at one input. -/
def fnExactThicknessOfWrong : ChangeSpec := { name := "fnExactThicknessOf", fn := fun _ => fun
  | [d1, d2] => { results := [.lit (.bool false)], args := [d1, d2] }
  | _ => none }
def FnExactThicknessOfWrongFalsely : Prop := fnExactThicknessOfRow.holds Try.pinned (OpenSpec.ofChange fnExactThicknessOfWrong)

/-- 'laws.FnExactThinTriangles': WHATEVER THE INPUT: true; the input reads as it did. -/
def fnExactThinTrianglesSpec : ChangeSpec := { name := "fnExactThinTriangles", fn := fun _ => fun
  | [d1, d2] => { results := [.lit (.bool true)], args := [d1, d2] }
  | _ => none }
def fnExactThinTrianglesRow : OpenClaim := { program := "ytmbekamnogbgaaa", sum := "1e9e253e97bea4e57273cfac756ee26d7b0c031d98095e800dad0044a34518dc", func := "loop.example/g01222/laws.FnExactThinTriangles", spec := "fnExactThinTriangles", inPlace := ["math.sqrt"], unfollowed := true, recurses := true, plainKeys := false, apart := false }
def FnExactThinTrianglesSaid : Prop := fnExactThinTrianglesRow.holds Try.pinned (OpenSpec.ofChange fnExactThinTrianglesSpec)

/-- ITS FALSE NEIGHBOUR: 'it returns false'. Refute it at one input. -/
def fnExactThinTrianglesWrong : ChangeSpec := { name := "fnExactThinTriangles", fn := fun _ => fun
  | [d1, d2] => { results := [.lit (.bool false)], args := [d1, d2] }
  | _ => none }
def FnExactThinTrianglesWrongFalsely : Prop := fnExactThinTrianglesRow.holds Try.pinned (OpenSpec.ofChange fnExactThinTrianglesWrong)

/-- 'laws.FnExactKeepVolume': WHATEVER THE INPUT: true; the input reads as it did. -/
def fnExactKeepVolumeSpec : ChangeSpec := { name := "fnExactKeepVolume", fn := fun _ => fun
  | [d1, d2] => { results := [.lit (.bool true)], args := [d1, d2] }
  | _ => none }
def fnExactKeepVolumeRow : OpenClaim := { program := "ytmbekamnogbgaaa", sum := "1e9e253e97bea4e57273cfac756ee26d7b0c031d98095e800dad0044a34518dc", func := "loop.example/g01222/laws.FnExactKeepVolume", spec := "fnExactKeepVolume", inPlace := ["math.Float64frombits", "math.Float64bits"], unfollowed := true, recurses := true, plainKeys := false, apart := false }
def FnExactKeepVolumeSaid : Prop := fnExactKeepVolumeRow.holds Try.pinned (OpenSpec.ofChange fnExactKeepVolumeSpec)

/-- ITS FALSE NEIGHBOUR: 'it returns false'. Refute it at one input. -/
def fnExactKeepVolumeWrong : ChangeSpec := { name := "fnExactKeepVolume", fn := fun _ => fun
  | [d1, d2] => { results := [.lit (.bool false)], args := [d1, d2] }
  | _ => none }
def FnExactKeepVolumeWrongFalsely : Prop := fnExactKeepVolumeRow.holds Try.pinned (OpenSpec.ofChange fnExactKeepVolumeWrong)

/-- 'laws.FnExactEdgesOf': WHATEVER THE INPUT: true; the input reads as it did. -/
def fnExactEdgesOfSpec : ChangeSpec := { name := "fnExactEdgesOf", fn := fun _ => fun
  | [d] => { results := [.lit (.bool true)], args := [d] }
  | _ => none }
def fnExactEdgesOfRow : OpenClaim := { program := "ytmbekamnogbgaaa", sum := "1e9e253e97bea4e57273cfac756ee26d7b0c031d98095e800dad0044a34518dc", func := "loop.example/g01222/laws.FnExactEdgesOf", spec := "fnExactEdgesOf", unfollowed := true, recurses := true, plainKeys := false, apart := false }
def FnExactEdgesOfSaid : Prop := fnExactEdgesOfRow.holds Try.pinned (OpenSpec.ofChange fnExactEdgesOfSpec)

/-- ITS FALSE NEIGHBOUR: 'it returns false'. Refute it at one input. -/
def fnExactEdgesOfWrong : ChangeSpec := { name := "fnExactEdgesOf", fn := fun _ => fun
  | [d] => { results := [.lit (.bool false)], args := [d] }
  | _ => none }
def FnExactEdgesOfWrongFalsely : Prop := fnExactEdgesOfRow.holds Try.pinned (OpenSpec.ofChange fnExactEdgesOfWrong)

/-- 'laws.FnExactLongsOf': WHATEVER THE INPUT: true; the input reads as it did. -/
def fnExactLongsOfSpec : ChangeSpec := { name := "fnExactLongsOf", fn := fun _ => fun
  | [d] => { results := [.lit (.bool true)], args := [d] }
  | _ => none }
def fnExactLongsOfRow : OpenClaim := { program := "ytmbekamnogbgaaa", sum := "1e9e253e97bea4e57273cfac756ee26d7b0c031d98095e800dad0044a34518dc", func := "loop.example/g01222/laws.FnExactLongsOf", spec := "fnExactLongsOf", inPlace := ["math.sqrt"], unfollowed := true, recurses := true, plainKeys := false, apart := false }
def FnExactLongsOfSaid : Prop := fnExactLongsOfRow.holds Try.pinned (OpenSpec.ofChange fnExactLongsOfSpec)

/-- ITS FALSE NEIGHBOUR: 'it returns false'. Refute it at one input. -/
def fnExactLongsOfWrong : ChangeSpec := { name := "fnExactLongsOf", fn := fun _ => fun
  | [d] => { results := [.lit (.bool false)], args := [d] }
  | _ => none }
def FnExactLongsOfWrongFalsely : Prop := fnExactLongsOfRow.holds Try.pinned (OpenSpec.ofChange fnExactLongsOfWrong)

/- THE SECOND FORM. 'bulk': how many values and letters a reading holds, each counted each time it is reached (what is shared counts as often as it is met; a slice's spare places count too). A statement '..UptoSaid' is the law's where the arguments, and the package variables that the reading takes, are together of bulk at most 1048576: NARROWER than '..Said'. Prove '..Said' where nothing that the law and all that it calls make is longer than what came in: it says more and counts as full. Else prove '..UptoSaid'. A law counts once. -/
mutual
def uptoBulk {H : Type} : DataW H → Nat
  | .lit (.string bytes) => bytes.length + 1
  | .lit _ => 1
  | .nil => 1
  | .ptr d => uptoBulk d + 1
  | .slice elems spare => uptoBulkAll elems + uptoBulkAll spare + 1
  | .agg parts => uptoBulkAll parts + 1
  | .iface _ d => uptoBulk d + 1
  | .map entries => uptoBulkEntries entries + 1
  | .held _ => 1
def uptoBulkAll {H : Type} : List (DataW H) → Nat
  | [] => 0
  | d :: r => uptoBulk d + uptoBulkAll r
def uptoBulkEntries {H : Type} : List (Lit × DataW H) → Nat
  | [] => 0
  | x :: r => uptoBulkEntry x + uptoBulkEntries r
def uptoBulkEntry {H : Type} : Lit × DataW H → Nat
  | (.string bytes, d) => bytes.length + uptoBulk d + 1
  | (_, d) => uptoBulk d + 1
 end
def uptoSmall : (H : Type) → List (DataW H) → Bool := fun _ ds => decide (uptoBulkAll ds ≤ 1048576)
def OpenSpec.upto (s : _root_.Go.ChangeSpec) : _root_.Go.OpenSpec := { _root_.Go.OpenSpec.ofChange s with cond := some uptoSmall }

/-- 'laws.FnExactBareBody', WHERE WHAT IT READS IS OF BULK AT MOST 1048576: true; the input reads as it did. -/
def fnExactBareBodyUptoRow : OpenClaim := { program := "ytmbekamnogbgaaa", sum := "1e9e253e97bea4e57273cfac756ee26d7b0c031d98095e800dad0044a34518dc", func := "loop.example/g01222/laws.FnExactBareBody", spec := "fnExactBareBody", plainKeys := false, apart := false, narrowed := true }
def FnExactBareBodyUptoSaid : Prop := fnExactBareBodyUptoRow.holds Try.pinned (OpenSpec.upto fnExactBareBodySpec)

/-- 'laws.FnExactMovePlaces', WHERE WHAT IT READS IS OF BULK AT MOST 1048576: true; the input reads as it did. -/
def fnExactMovePlacesUptoRow : OpenClaim := { program := "ytmbekamnogbgaaa", sum := "1e9e253e97bea4e57273cfac756ee26d7b0c031d98095e800dad0044a34518dc", func := "loop.example/g01222/laws.FnExactMovePlaces", spec := "fnExactMovePlaces", plainKeys := false, apart := false, narrowed := true }
def FnExactMovePlacesUptoSaid : Prop := fnExactMovePlacesUptoRow.holds Try.pinned (OpenSpec.upto fnExactMovePlacesSpec)

/-- 'laws.FnExactHoldMesh', WHERE WHAT IT READS IS OF BULK AT MOST 1048576: true; the input reads as it did. -/
def fnExactHoldMeshUptoRow : OpenClaim := { program := "ytmbekamnogbgaaa", sum := "1e9e253e97bea4e57273cfac756ee26d7b0c031d98095e800dad0044a34518dc", func := "loop.example/g01222/laws.FnExactHoldMesh", spec := "fnExactHoldMesh", inPlace := ["math.Float64bits", "math.Float64frombits"], plainKeys := false, apart := false, narrowed := true }
def FnExactHoldMeshUptoSaid : Prop := fnExactHoldMeshUptoRow.holds Try.pinned (OpenSpec.upto fnExactHoldMeshSpec)

/-- 'laws.FnExactStillMotion', WHERE WHAT IT READS IS OF BULK AT MOST 1048576: true; the input reads as it did. -/
def fnExactStillMotionUptoRow : OpenClaim := { program := "ytmbekamnogbgaaa", sum := "1e9e253e97bea4e57273cfac756ee26d7b0c031d98095e800dad0044a34518dc", func := "loop.example/g01222/laws.FnExactStillMotion", spec := "fnExactStillMotion", plainKeys := false, apart := false, narrowed := true }
def FnExactStillMotionUptoSaid : Prop := fnExactStillMotionUptoRow.holds Try.pinned (OpenSpec.upto fnExactStillMotionSpec)

/-- 'laws.FnExactJoinMeshes', WHERE WHAT IT READS IS OF BULK AT MOST 1048576: true; the input reads as it did. -/
def fnExactJoinMeshesUptoRow : OpenClaim := { program := "ytmbekamnogbgaaa", sum := "1e9e253e97bea4e57273cfac756ee26d7b0c031d98095e800dad0044a34518dc", func := "loop.example/g01222/laws.FnExactJoinMeshes", spec := "fnExactJoinMeshes", plainKeys := false, apart := false, narrowed := true }
def FnExactJoinMeshesUptoSaid : Prop := fnExactJoinMeshesUptoRow.holds Try.pinned (OpenSpec.upto fnExactJoinMeshesSpec)

/-- 'laws.FnExactSameForm', WHERE WHAT IT READS IS OF BULK AT MOST 1048576: true; the input reads as it did. -/
def fnExactSameFormUptoRow : OpenClaim := { program := "ytmbekamnogbgaaa", sum := "1e9e253e97bea4e57273cfac756ee26d7b0c031d98095e800dad0044a34518dc", func := "loop.example/g01222/laws.FnExactSameForm", spec := "fnExactSameForm", unfollowed := true, recurses := true, plainKeys := false, apart := false, narrowed := true }
def FnExactSameFormUptoSaid : Prop := fnExactSameFormUptoRow.holds Try.pinned (OpenSpec.upto fnExactSameFormSpec)

/-- 'laws.FnExactCutHole', WHERE WHAT IT READS IS OF BULK AT MOST 1048576: true; the input reads as it did. -/
def fnExactCutHoleUptoRow : OpenClaim := { program := "ytmbekamnogbgaaa", sum := "1e9e253e97bea4e57273cfac756ee26d7b0c031d98095e800dad0044a34518dc", func := "loop.example/g01222/laws.FnExactCutHole", spec := "fnExactCutHole", plainKeys := false, apart := false, narrowed := true }
def FnExactCutHoleUptoSaid : Prop := fnExactCutHoleUptoRow.holds Try.pinned (OpenSpec.upto fnExactCutHoleSpec)

/-- 'laws.FnExactThicknessOf', WHERE WHAT IT READS IS OF BULK AT MOST 1048576: true; the input reads as it did. -/
def fnExactThicknessOfUptoRow : OpenClaim := { program := "ytmbekamnogbgaaa", sum := "1e9e253e97bea4e57273cfac756ee26d7b0c031d98095e800dad0044a34518dc", func := "loop.example/g01222/laws.FnExactThicknessOf", spec := "fnExactThicknessOf", inPlace := ["math.sqrt"], plainKeys := false, apart := false, narrowed := true }
def FnExactThicknessOfUptoSaid : Prop := fnExactThicknessOfUptoRow.holds Try.pinned (OpenSpec.upto fnExactThicknessOfSpec)

/-- 'laws.FnExactThinTriangles', WHERE WHAT IT READS IS OF BULK AT MOST 1048576: true; the input reads as it did. -/
def fnExactThinTrianglesUptoRow : OpenClaim := { program := "ytmbekamnogbgaaa", sum := "1e9e253e97bea4e57273cfac756ee26d7b0c031d98095e800dad0044a34518dc", func := "loop.example/g01222/laws.FnExactThinTriangles", spec := "fnExactThinTriangles", inPlace := ["math.sqrt"], unfollowed := true, recurses := true, plainKeys := false, apart := false, narrowed := true }
def FnExactThinTrianglesUptoSaid : Prop := fnExactThinTrianglesUptoRow.holds Try.pinned (OpenSpec.upto fnExactThinTrianglesSpec)

/-- 'laws.FnExactKeepVolume', WHERE WHAT IT READS IS OF BULK AT MOST 1048576: true; the input reads as it did. -/
def fnExactKeepVolumeUptoRow : OpenClaim := { program := "ytmbekamnogbgaaa", sum := "1e9e253e97bea4e57273cfac756ee26d7b0c031d98095e800dad0044a34518dc", func := "loop.example/g01222/laws.FnExactKeepVolume", spec := "fnExactKeepVolume", inPlace := ["math.Float64frombits", "math.Float64bits"], unfollowed := true, recurses := true, plainKeys := false, apart := false, narrowed := true }
def FnExactKeepVolumeUptoSaid : Prop := fnExactKeepVolumeUptoRow.holds Try.pinned (OpenSpec.upto fnExactKeepVolumeSpec)

/-- 'laws.FnExactEdgesOf', WHERE WHAT IT READS IS OF BULK AT MOST 1048576: true; the input reads as it did. -/
def fnExactEdgesOfUptoRow : OpenClaim := { program := "ytmbekamnogbgaaa", sum := "1e9e253e97bea4e57273cfac756ee26d7b0c031d98095e800dad0044a34518dc", func := "loop.example/g01222/laws.FnExactEdgesOf", spec := "fnExactEdgesOf", unfollowed := true, recurses := true, plainKeys := false, apart := false, narrowed := true }
def FnExactEdgesOfUptoSaid : Prop := fnExactEdgesOfUptoRow.holds Try.pinned (OpenSpec.upto fnExactEdgesOfSpec)

/-- 'laws.FnExactLongsOf', WHERE WHAT IT READS IS OF BULK AT MOST 1048576: true; the input reads as it did. -/
def fnExactLongsOfUptoRow : OpenClaim := { program := "ytmbekamnogbgaaa", sum := "1e9e253e97bea4e57273cfac756ee26d7b0c031d98095e800dad0044a34518dc", func := "loop.example/g01222/laws.FnExactLongsOf", spec := "fnExactLongsOf", inPlace := ["math.sqrt"], unfollowed := true, recurses := true, plainKeys := false, apart := false, narrowed := true }
def FnExactLongsOfUptoSaid : Prop := fnExactLongsOfUptoRow.holds Try.pinned (OpenSpec.upto fnExactLongsOfSpec)

end Rows
end Go.Proofs.Ytmbekamnogbgaaa

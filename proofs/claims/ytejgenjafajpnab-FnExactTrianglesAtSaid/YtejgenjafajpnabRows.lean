/-
  No cell of these rows narrows 'for every input' (looked for: loops, veiled, ifaces, maps, wideKeys, modest, calm, conditions, laid).
  DERIVED. THE GIVEN ROWS OF THIS SEAT. 12 by the template 'for every input the law returns true; each argument reads behind the call as it read before'; 0 by the template 'total and deterministic' (their statements: YtejgenjafajpnabTotals.lean).
  GIVEN WITH THE SEED: the statements are not yours to turn. If you find one false, say at which input.
  Laid BY PROGRAM, IN A SANDBOX (cutbox-rows.mjs): the forced cells as the released guide's own fill.sh prints them over the translation a566d4df15031026… (all of the seat's roots in one cut). By AI agents, Wed Nov 11 2026. No macro, syntax, notation, axiom, sorry.
-/
import Derived.Test.YtejgenjafajpnabChecked
import GoSem.Claim
import GoSem.ClaimJoined
import GoSem.ClaimMapViews
import Derived.JoinedTies
import Derived.KernelRfl
namespace Go.Proofs.Ytejgenjafajpnab
/- THE CELL 'sum', in the pinned program and in every row, IS THE sha256 OF THE DUMP (.gsa) THAT YtejgenjafajpnabProg.lean LOADS. Nothing in Lean hashes anything: it is a label: what it is worth is what the hold of that sum in a sandbox is worth. -/
noncomputable def Try.pinned : Pinned := { name := "ytejgenjafajpnab", sum := "a566d4df150310261b99bb6da8ac6a04b3367b4267e92c9683568cfd4fa52a83", checked := Try.checked }
namespace Rows
def none {H : Type} : Left H := { results := [], args := [] }

/-- 'laws.FnExactValidMesh': WHATEVER THE INPUT: true; the input reads as it did. -/
def fnExactValidMeshSpec : ChangeSpec := { name := "fnExactValidMesh", fn := fun _ => fun
  | [d] => { results := [.lit (.bool true)], args := [d] }
  | _ => none }
def fnExactValidMeshRow : OpenClaim := { program := "ytejgenjafajpnab", sum := "a566d4df150310261b99bb6da8ac6a04b3367b4267e92c9683568cfd4fa52a83", func := "loop.example/g01222/laws.FnExactValidMesh", spec := "fnExactValidMesh", plainKeys := false, apart := false }
def FnExactValidMeshSaid : Prop := fnExactValidMeshRow.holds Try.pinned (OpenSpec.ofChange fnExactValidMeshSpec)

/-- ITS FALSE NEIGHBOUR: 'it returns false'. Refute it at one input. -/
def fnExactValidMeshWrong : ChangeSpec := { name := "fnExactValidMesh", fn := fun _ => fun
  | [d] => { results := [.lit (.bool false)], args := [d] }
  | _ => none }
def FnExactValidMeshWrongFalsely : Prop := fnExactValidMeshRow.holds Try.pinned (OpenSpec.ofChange fnExactValidMeshWrong)

/-- 'laws.FnExactSameMesh': WHATEVER THE INPUT: true; the input reads as it did. -/
def fnExactSameMeshSpec : ChangeSpec := { name := "fnExactSameMesh", fn := fun _ => fun
  | [d1, d2] => { results := [.lit (.bool true)], args := [d1, d2] }
  | _ => none }
def fnExactSameMeshRow : OpenClaim := { program := "ytejgenjafajpnab", sum := "a566d4df150310261b99bb6da8ac6a04b3367b4267e92c9683568cfd4fa52a83", func := "loop.example/g01222/laws.FnExactSameMesh", spec := "fnExactSameMesh", inPlace := ["math.Float32bits"], unfollowed := true, recurses := true, plainKeys := false, apart := false }
def FnExactSameMeshSaid : Prop := fnExactSameMeshRow.holds Try.pinned (OpenSpec.ofChange fnExactSameMeshSpec)

/-- ITS FALSE NEIGHBOUR: 'it returns false'. Refute it at one input. -/
def fnExactSameMeshWrong : ChangeSpec := { name := "fnExactSameMesh", fn := fun _ => fun
  | [d1, d2] => { results := [.lit (.bool false)], args := [d1, d2] }
  | _ => none }
def FnExactSameMeshWrongFalsely : Prop := fnExactSameMeshRow.holds Try.pinned (OpenSpec.ofChange fnExactSameMeshWrong)

/-- 'laws.FnExactTurnMesh': WHATEVER THE INPUT: true; the input reads as it did. -/
def fnExactTurnMeshSpec : ChangeSpec := { name := "fnExactTurnMesh", fn := fun _ => fun
  | [d] => { results := [.lit (.bool true)], args := [d] }
  | _ => none }
def fnExactTurnMeshRow : OpenClaim := { program := "ytejgenjafajpnab", sum := "a566d4df150310261b99bb6da8ac6a04b3367b4267e92c9683568cfd4fa52a83", func := "loop.example/g01222/laws.FnExactTurnMesh", spec := "fnExactTurnMesh", plainKeys := false, apart := false }
def FnExactTurnMeshSaid : Prop := fnExactTurnMeshRow.holds Try.pinned (OpenSpec.ofChange fnExactTurnMeshSpec)

/-- ITS FALSE NEIGHBOUR: 'it returns false'. Refute it at one input. -/
def fnExactTurnMeshWrong : ChangeSpec := { name := "fnExactTurnMesh", fn := fun _ => fun
  | [d] => { results := [.lit (.bool false)], args := [d] }
  | _ => none }
def FnExactTurnMeshWrongFalsely : Prop := fnExactTurnMeshRow.holds Try.pinned (OpenSpec.ofChange fnExactTurnMeshWrong)

/-- 'laws.FnExactJoinMeshes': WHATEVER THE INPUT: true; the input reads as it did. -/
def fnExactJoinMeshesSpec : ChangeSpec := { name := "fnExactJoinMeshes", fn := fun _ => fun
  | [d1, d2] => { results := [.lit (.bool true)], args := [d1, d2] }
  | _ => none }
def fnExactJoinMeshesRow : OpenClaim := { program := "ytejgenjafajpnab", sum := "a566d4df150310261b99bb6da8ac6a04b3367b4267e92c9683568cfd4fa52a83", func := "loop.example/g01222/laws.FnExactJoinMeshes", spec := "fnExactJoinMeshes", plainKeys := false, apart := false }
def FnExactJoinMeshesSaid : Prop := fnExactJoinMeshesRow.holds Try.pinned (OpenSpec.ofChange fnExactJoinMeshesSpec)

/-- ITS FALSE NEIGHBOUR: 'it returns false'. Refute it at one input. -/
def fnExactJoinMeshesWrong : ChangeSpec := { name := "fnExactJoinMeshes", fn := fun _ => fun
  | [d1, d2] => { results := [.lit (.bool false)], args := [d1, d2] }
  | _ => none }
def FnExactJoinMeshesWrongFalsely : Prop := fnExactJoinMeshesRow.holds Try.pinned (OpenSpec.ofChange fnExactJoinMeshesWrong)

/-- 'laws.FnExactEdgesOf': WHATEVER THE INPUT: true; the input reads as it did. -/
def fnExactEdgesOfSpec : ChangeSpec := { name := "fnExactEdgesOf", fn := fun _ => fun
  | [d] => { results := [.lit (.bool true)], args := [d] }
  | _ => none }
def fnExactEdgesOfRow : OpenClaim := { program := "ytejgenjafajpnab", sum := "a566d4df150310261b99bb6da8ac6a04b3367b4267e92c9683568cfd4fa52a83", func := "loop.example/g01222/laws.FnExactEdgesOf", spec := "fnExactEdgesOf", unfollowed := true, recurses := true, plainKeys := false, apart := false }
def FnExactEdgesOfSaid : Prop := fnExactEdgesOfRow.holds Try.pinned (OpenSpec.ofChange fnExactEdgesOfSpec)

/-- ITS FALSE NEIGHBOUR: 'it returns false'. Refute it at one input. -/
def fnExactEdgesOfWrong : ChangeSpec := { name := "fnExactEdgesOf", fn := fun _ => fun
  | [d] => { results := [.lit (.bool false)], args := [d] }
  | _ => none }
def FnExactEdgesOfWrongFalsely : Prop := fnExactEdgesOfRow.holds Try.pinned (OpenSpec.ofChange fnExactEdgesOfWrong)

/-- 'laws.FnExactTrianglesAt': WHATEVER THE INPUT: true; the input reads as it did. -/
def fnExactTrianglesAtSpec : ChangeSpec := { name := "fnExactTrianglesAt", fn := fun _ => fun
  | [d1, d2, d3] => { results := [.lit (.bool true)], args := [d1, d2, d3] }
  | _ => none }
def fnExactTrianglesAtRow : OpenClaim := { program := "ytejgenjafajpnab", sum := "a566d4df150310261b99bb6da8ac6a04b3367b4267e92c9683568cfd4fa52a83", func := "loop.example/g01222/laws.FnExactTrianglesAt", spec := "fnExactTrianglesAt", unfollowed := true, recurses := true, plainKeys := false, apart := false }
def FnExactTrianglesAtSaid : Prop := fnExactTrianglesAtRow.holds Try.pinned (OpenSpec.ofChange fnExactTrianglesAtSpec)

/-- ITS FALSE NEIGHBOUR: 'it returns false'. Refute it at one input. -/
def fnExactTrianglesAtWrong : ChangeSpec := { name := "fnExactTrianglesAt", fn := fun _ => fun
  | [d1, d2, d3] => { results := [.lit (.bool false)], args := [d1, d2, d3] }
  | _ => none }
def FnExactTrianglesAtWrongFalsely : Prop := fnExactTrianglesAtRow.holds Try.pinned (OpenSpec.ofChange fnExactTrianglesAtWrong)

/-- 'laws.FnExactTrianglesOf': WHATEVER THE INPUT: true; the input reads as it did. -/
def fnExactTrianglesOfSpec : ChangeSpec := { name := "fnExactTrianglesOf", fn := fun _ => fun
  | [d1, d2] => { results := [.lit (.bool true)], args := [d1, d2] }
  | _ => none }
def fnExactTrianglesOfRow : OpenClaim := { program := "ytejgenjafajpnab", sum := "a566d4df150310261b99bb6da8ac6a04b3367b4267e92c9683568cfd4fa52a83", func := "loop.example/g01222/laws.FnExactTrianglesOf", spec := "fnExactTrianglesOf", unfollowed := true, recurses := true, plainKeys := false, apart := false }
def FnExactTrianglesOfSaid : Prop := fnExactTrianglesOfRow.holds Try.pinned (OpenSpec.ofChange fnExactTrianglesOfSpec)

/-- ITS FALSE NEIGHBOUR: 'it returns false'. Refute it at one input. -/
def fnExactTrianglesOfWrong : ChangeSpec := { name := "fnExactTrianglesOf", fn := fun _ => fun
  | [d1, d2] => { results := [.lit (.bool false)], args := [d1, d2] }
  | _ => none }
def FnExactTrianglesOfWrongFalsely : Prop := fnExactTrianglesOfRow.holds Try.pinned (OpenSpec.ofChange fnExactTrianglesOfWrong)

/-- 'laws.FnExactNeighboursOf': WHATEVER THE INPUT: true; the input reads as it did. -/
def fnExactNeighboursOfSpec : ChangeSpec := { name := "fnExactNeighboursOf", fn := fun _ => fun
  | [d1, d2] => { results := [.lit (.bool true)], args := [d1, d2] }
  | _ => none }
def fnExactNeighboursOfRow : OpenClaim := { program := "ytejgenjafajpnab", sum := "a566d4df150310261b99bb6da8ac6a04b3367b4267e92c9683568cfd4fa52a83", func := "loop.example/g01222/laws.FnExactNeighboursOf", spec := "fnExactNeighboursOf", unfollowed := true, recurses := true, plainKeys := false, apart := false }
def FnExactNeighboursOfSaid : Prop := fnExactNeighboursOfRow.holds Try.pinned (OpenSpec.ofChange fnExactNeighboursOfSpec)

/-- ITS FALSE NEIGHBOUR: 'it returns false'. Refute it at one input. -/
def fnExactNeighboursOfWrong : ChangeSpec := { name := "fnExactNeighboursOf", fn := fun _ => fun
  | [d1, d2] => { results := [.lit (.bool false)], args := [d1, d2] }
  | _ => none }
def FnExactNeighboursOfWrongFalsely : Prop := fnExactNeighboursOfRow.holds Try.pinned (OpenSpec.ofChange fnExactNeighboursOfWrong)

/-- 'laws.FnExactBorderOf': WHATEVER THE INPUT: true; the input reads as it did. -/
def fnExactBorderOfSpec : ChangeSpec := { name := "fnExactBorderOf", fn := fun _ => fun
  | [d] => { results := [.lit (.bool true)], args := [d] }
  | _ => none }
def fnExactBorderOfRow : OpenClaim := { program := "ytejgenjafajpnab", sum := "a566d4df150310261b99bb6da8ac6a04b3367b4267e92c9683568cfd4fa52a83", func := "loop.example/g01222/laws.FnExactBorderOf", spec := "fnExactBorderOf", unfollowed := true, recurses := true, plainKeys := false, apart := false }
def FnExactBorderOfSaid : Prop := fnExactBorderOfRow.holds Try.pinned (OpenSpec.ofChange fnExactBorderOfSpec)

/-- ITS FALSE NEIGHBOUR: 'it returns false'. Refute it at one input. -/
def fnExactBorderOfWrong : ChangeSpec := { name := "fnExactBorderOf", fn := fun _ => fun
  | [d] => { results := [.lit (.bool false)], args := [d] }
  | _ => none }
def FnExactBorderOfWrongFalsely : Prop := fnExactBorderOfRow.holds Try.pinned (OpenSpec.ofChange fnExactBorderOfWrong)

/-- 'laws.FnExactIsSheet': WHATEVER THE INPUT: true; the input reads as it did. -/
def fnExactIsSheetSpec : ChangeSpec := { name := "fnExactIsSheet", fn := fun _ => fun
  | [d] => { results := [.lit (.bool true)], args := [d] }
  | _ => none }
def fnExactIsSheetRow : OpenClaim := { program := "ytejgenjafajpnab", sum := "a566d4df150310261b99bb6da8ac6a04b3367b4267e92c9683568cfd4fa52a83", func := "loop.example/g01222/laws.FnExactIsSheet", spec := "fnExactIsSheet", plainKeys := false, apart := false }
def FnExactIsSheetSaid : Prop := fnExactIsSheetRow.holds Try.pinned (OpenSpec.ofChange fnExactIsSheetSpec)

/-- ITS FALSE NEIGHBOUR: 'it returns false'. Refute it at one input. -/
def fnExactIsSheetWrong : ChangeSpec := { name := "fnExactIsSheet", fn := fun _ => fun
  | [d] => { results := [.lit (.bool false)], args := [d] }
  | _ => none }
def FnExactIsSheetWrongFalsely : Prop := fnExactIsSheetRow.holds Try.pinned (OpenSpec.ofChange fnExactIsSheetWrong)

/-- 'laws.FnExactEulerOf': WHATEVER THE INPUT: true; the input reads as it did. -/
def fnExactEulerOfSpec : ChangeSpec := { name := "fnExactEulerOf", fn := fun _ => fun
  | [d] => { results := [.lit (.bool true)], args := [d] }
  | _ => none }
def fnExactEulerOfRow : OpenClaim := { program := "ytejgenjafajpnab", sum := "a566d4df150310261b99bb6da8ac6a04b3367b4267e92c9683568cfd4fa52a83", func := "loop.example/g01222/laws.FnExactEulerOf", spec := "fnExactEulerOf", unfollowed := true, recurses := true, plainKeys := false, apart := false }
def FnExactEulerOfSaid : Prop := fnExactEulerOfRow.holds Try.pinned (OpenSpec.ofChange fnExactEulerOfSpec)

/-- ITS FALSE NEIGHBOUR: 'it returns false'. Refute it at one input. -/
def fnExactEulerOfWrong : ChangeSpec := { name := "fnExactEulerOf", fn := fun _ => fun
  | [d] => { results := [.lit (.bool false)], args := [d] }
  | _ => none }
def FnExactEulerOfWrongFalsely : Prop := fnExactEulerOfRow.holds Try.pinned (OpenSpec.ofChange fnExactEulerOfWrong)

/-- 'laws.FnExactPiecesOf': WHATEVER THE INPUT: true; the input reads as it did. -/
def fnExactPiecesOfSpec : ChangeSpec := { name := "fnExactPiecesOf", fn := fun _ => fun
  | [d] => { results := [.lit (.bool true)], args := [d] }
  | _ => none }
def fnExactPiecesOfRow : OpenClaim := { program := "ytejgenjafajpnab", sum := "a566d4df150310261b99bb6da8ac6a04b3367b4267e92c9683568cfd4fa52a83", func := "loop.example/g01222/laws.FnExactPiecesOf", spec := "fnExactPiecesOf", unfollowed := true, recurses := true, plainKeys := false, apart := false }
def FnExactPiecesOfSaid : Prop := fnExactPiecesOfRow.holds Try.pinned (OpenSpec.ofChange fnExactPiecesOfSpec)

/-- ITS FALSE NEIGHBOUR: 'it returns false'. Refute it at one input. -/
def fnExactPiecesOfWrong : ChangeSpec := { name := "fnExactPiecesOf", fn := fun _ => fun
  | [d] => { results := [.lit (.bool false)], args := [d] }
  | _ => none }
def FnExactPiecesOfWrongFalsely : Prop := fnExactPiecesOfRow.holds Try.pinned (OpenSpec.ofChange fnExactPiecesOfWrong)

/- THE SECOND FORM. 'bulk': how many values and letters a reading holds, each counted each time it is reached (what is shared counts as often as it is met; a slice's spare places count too). A statement '..UptoSaid' is the law's where the arguments, and the package variables that the reading takes, are together of bulk at most 1048576: NARROWER than '..Said'. Prove '..Said' where nothing that the law and all that it calls make is longer than what came in: it says more and counts as full. Else prove '..UptoSaid'. A law counts once. -/
mutual
def uptoBulk {H : Type} : DataW H → Nat
  | .lit (.string bytes) => bytes.length + 1
  | .lit _ => 1
  | .nil => 1
  | .ptr d => uptoBulk d + 1
  | .slice elems spare => uptoBulkAll elems + uptoBulkAll spare + 1
  | .agg parts => uptoBulkAll parts + 1
  | .iface _ d => uptoBulk d + 1
  | .map entries => uptoBulkEntries entries + 1
  | .held _ => 1
def uptoBulkAll {H : Type} : List (DataW H) → Nat
  | [] => 0
  | d :: r => uptoBulk d + uptoBulkAll r
def uptoBulkEntries {H : Type} : List (Lit × DataW H) → Nat
  | [] => 0
  | x :: r => uptoBulkEntry x + uptoBulkEntries r
def uptoBulkEntry {H : Type} : Lit × DataW H → Nat
  | (.string bytes, d) => bytes.length + uptoBulk d + 1
  | (_, d) => uptoBulk d + 1
 end
def uptoSmall : (H : Type) → List (DataW H) → Bool := fun _ ds => decide (uptoBulkAll ds ≤ 1048576)
def OpenSpec.upto (s : _root_.Go.ChangeSpec) : _root_.Go.OpenSpec := { _root_.Go.OpenSpec.ofChange s with cond := some uptoSmall }

/-- 'laws.FnExactValidMesh', WHERE WHAT IT READS IS OF BULK AT MOST 1048576: true; the input reads as it did. -/
def fnExactValidMeshUptoRow : OpenClaim := { program := "ytejgenjafajpnab", sum := "a566d4df150310261b99bb6da8ac6a04b3367b4267e92c9683568cfd4fa52a83", func := "loop.example/g01222/laws.FnExactValidMesh", spec := "fnExactValidMesh", plainKeys := false, apart := false, narrowed := true }
def FnExactValidMeshUptoSaid : Prop := fnExactValidMeshUptoRow.holds Try.pinned (OpenSpec.upto fnExactValidMeshSpec)

/-- 'laws.FnExactSameMesh', WHERE WHAT IT READS IS OF BULK AT MOST 1048576: true; the input reads as it did. -/
def fnExactSameMeshUptoRow : OpenClaim := { program := "ytejgenjafajpnab", sum := "a566d4df150310261b99bb6da8ac6a04b3367b4267e92c9683568cfd4fa52a83", func := "loop.example/g01222/laws.FnExactSameMesh", spec := "fnExactSameMesh", inPlace := ["math.Float32bits"], unfollowed := true, recurses := true, plainKeys := false, apart := false, narrowed := true }
def FnExactSameMeshUptoSaid : Prop := fnExactSameMeshUptoRow.holds Try.pinned (OpenSpec.upto fnExactSameMeshSpec)

/-- 'laws.FnExactTurnMesh', WHERE WHAT IT READS IS OF BULK AT MOST 1048576: true; the input reads as it did. -/
def fnExactTurnMeshUptoRow : OpenClaim := { program := "ytejgenjafajpnab", sum := "a566d4df150310261b99bb6da8ac6a04b3367b4267e92c9683568cfd4fa52a83", func := "loop.example/g01222/laws.FnExactTurnMesh", spec := "fnExactTurnMesh", plainKeys := false, apart := false, narrowed := true }
def FnExactTurnMeshUptoSaid : Prop := fnExactTurnMeshUptoRow.holds Try.pinned (OpenSpec.upto fnExactTurnMeshSpec)

/-- 'laws.FnExactJoinMeshes', WHERE WHAT IT READS IS OF BULK AT MOST 1048576: true; the input reads as it did. -/
def fnExactJoinMeshesUptoRow : OpenClaim := { program := "ytejgenjafajpnab", sum := "a566d4df150310261b99bb6da8ac6a04b3367b4267e92c9683568cfd4fa52a83", func := "loop.example/g01222/laws.FnExactJoinMeshes", spec := "fnExactJoinMeshes", plainKeys := false, apart := false, narrowed := true }
def FnExactJoinMeshesUptoSaid : Prop := fnExactJoinMeshesUptoRow.holds Try.pinned (OpenSpec.upto fnExactJoinMeshesSpec)

/-- 'laws.FnExactEdgesOf', WHERE WHAT IT READS IS OF BULK AT MOST 1048576: true; the input reads as it did. -/
def fnExactEdgesOfUptoRow : OpenClaim := { program := "ytejgenjafajpnab", sum := "a566d4df150310261b99bb6da8ac6a04b3367b4267e92c9683568cfd4fa52a83", func := "loop.example/g01222/laws.FnExactEdgesOf", spec := "fnExactEdgesOf", unfollowed := true, recurses := true, plainKeys := false, apart := false, narrowed := true }
def FnExactEdgesOfUptoSaid : Prop := fnExactEdgesOfUptoRow.holds Try.pinned (OpenSpec.upto fnExactEdgesOfSpec)

/-- 'laws.FnExactTrianglesAt', WHERE WHAT IT READS IS OF BULK AT MOST 1048576: true; the input reads as it did. -/
def fnExactTrianglesAtUptoRow : OpenClaim := { program := "ytejgenjafajpnab", sum := "a566d4df150310261b99bb6da8ac6a04b3367b4267e92c9683568cfd4fa52a83", func := "loop.example/g01222/laws.FnExactTrianglesAt", spec := "fnExactTrianglesAt", unfollowed := true, recurses := true, plainKeys := false, apart := false, narrowed := true }
def FnExactTrianglesAtUptoSaid : Prop := fnExactTrianglesAtUptoRow.holds Try.pinned (OpenSpec.upto fnExactTrianglesAtSpec)

/-- 'laws.FnExactTrianglesOf', WHERE WHAT IT READS IS OF BULK AT MOST 1048576: true; the input reads as it did. -/
def fnExactTrianglesOfUptoRow : OpenClaim := { program := "ytejgenjafajpnab", sum := "a566d4df150310261b99bb6da8ac6a04b3367b4267e92c9683568cfd4fa52a83", func := "loop.example/g01222/laws.FnExactTrianglesOf", spec := "fnExactTrianglesOf", unfollowed := true, recurses := true, plainKeys := false, apart := false, narrowed := true }
def FnExactTrianglesOfUptoSaid : Prop := fnExactTrianglesOfUptoRow.holds Try.pinned (OpenSpec.upto fnExactTrianglesOfSpec)

/-- 'laws.FnExactNeighboursOf', WHERE WHAT IT READS IS OF BULK AT MOST 1048576: true; the input reads as it did. -/
def fnExactNeighboursOfUptoRow : OpenClaim := { program := "ytejgenjafajpnab", sum := "a566d4df150310261b99bb6da8ac6a04b3367b4267e92c9683568cfd4fa52a83", func := "loop.example/g01222/laws.FnExactNeighboursOf", spec := "fnExactNeighboursOf", unfollowed := true, recurses := true, plainKeys := false, apart := false, narrowed := true }
def FnExactNeighboursOfUptoSaid : Prop := fnExactNeighboursOfUptoRow.holds Try.pinned (OpenSpec.upto fnExactNeighboursOfSpec)

/-- 'laws.FnExactBorderOf', WHERE WHAT IT READS IS OF BULK AT MOST 1048576: true; the input reads as it did. -/
def fnExactBorderOfUptoRow : OpenClaim := { program := "ytejgenjafajpnab", sum := "a566d4df150310261b99bb6da8ac6a04b3367b4267e92c9683568cfd4fa52a83", func := "loop.example/g01222/laws.FnExactBorderOf", spec := "fnExactBorderOf", unfollowed := true, recurses := true, plainKeys := false, apart := false, narrowed := true }
def FnExactBorderOfUptoSaid : Prop := fnExactBorderOfUptoRow.holds Try.pinned (OpenSpec.upto fnExactBorderOfSpec)

/-- 'laws.FnExactIsSheet', WHERE WHAT IT READS IS OF BULK AT MOST 1048576: true; the input reads as it did. -/
def fnExactIsSheetUptoRow : OpenClaim := { program := "ytejgenjafajpnab", sum := "a566d4df150310261b99bb6da8ac6a04b3367b4267e92c9683568cfd4fa52a83", func := "loop.example/g01222/laws.FnExactIsSheet", spec := "fnExactIsSheet", plainKeys := false, apart := false, narrowed := true }
def FnExactIsSheetUptoSaid : Prop := fnExactIsSheetUptoRow.holds Try.pinned (OpenSpec.upto fnExactIsSheetSpec)

/-- 'laws.FnExactEulerOf', WHERE WHAT IT READS IS OF BULK AT MOST 1048576: true; the input reads as it did. -/
def fnExactEulerOfUptoRow : OpenClaim := { program := "ytejgenjafajpnab", sum := "a566d4df150310261b99bb6da8ac6a04b3367b4267e92c9683568cfd4fa52a83", func := "loop.example/g01222/laws.FnExactEulerOf", spec := "fnExactEulerOf", unfollowed := true, recurses := true, plainKeys := false, apart := false, narrowed := true }
def FnExactEulerOfUptoSaid : Prop := fnExactEulerOfUptoRow.holds Try.pinned (OpenSpec.upto fnExactEulerOfSpec)

/-- 'laws.FnExactPiecesOf', WHERE WHAT IT READS IS OF BULK AT MOST 1048576: true; the input reads as it did. -/
def fnExactPiecesOfUptoRow : OpenClaim := { program := "ytejgenjafajpnab", sum := "a566d4df150310261b99bb6da8ac6a04b3367b4267e92c9683568cfd4fa52a83", func := "loop.example/g01222/laws.FnExactPiecesOf", spec := "fnExactPiecesOf", unfollowed := true, recurses := true, plainKeys := false, apart := false, narrowed := true }
def FnExactPiecesOfUptoSaid : Prop := fnExactPiecesOfUptoRow.holds Try.pinned (OpenSpec.upto fnExactPiecesOfSpec)

end Rows
end Go.Proofs.Ytejgenjafajpnab

/-
  No cell of these rows narrows 'for every input' (looked for: loops, veiled, ifaces, maps, wideKeys, modest, calm, conditions, laid).
  DERIVED. THE GIVEN ROWS OF THIS SEAT. 10 by the template 'for every input the law returns true; each argument reads behind the call as it read before'; 0 by the template 'total and deterministic' (their statements: YtkdoibglgkcbkaaTotals.lean).
  GIVEN WITH THE SEED: the statements are not yours to turn. If you find one false, say at which input.
  Laid BY PROGRAM, IN A SANDBOX (cutbox-rows.mjs): the forced cells as the released guide's own fill.sh prints them over the translation ae3766c6c8697ae0… (all of the seat's roots in one cut). By AI agents, Wed Nov 11 2026. No macro, syntax, notation, axiom, sorry.
-/
import Derived.Test.YtkdoibglgkcbkaaChecked
import GoSem.Claim
import GoSem.ClaimJoined
import GoSem.ClaimMapViews
import Derived.JoinedTies
import Derived.KernelRfl
namespace Go.Proofs.Ytkdoibglgkcbkaa
/- THE CELL 'sum', in the pinned program and in every row, IS THE sha256 OF THE DUMP (.gsa) THAT YtkdoibglgkcbkaaProg.lean LOADS. Nothing in Lean hashes anything: it is a label: what it is worth is what the hold of that sum in a sandbox is worth. -/
noncomputable def Try.pinned : Pinned := { name := "ytkdoibglgkcbkaa", sum := "ae3766c6c8697ae00c9371c1ed1b316ada72c261d7b87469b2df8637bc39af28", checked := Try.checked }
namespace Rows
def none {H : Type} : Left H := { results := [], args := [] }

/-- 'laws.FnExactSwingOf': WHATEVER THE INPUT: true; the input reads as it did. -/
def fnExactSwingOfSpec : ChangeSpec := { name := "fnExactSwingOf", fn := fun _ => fun
  | [d1, d2] => { results := [.lit (.bool true)], args := [d1, d2] }
  | _ => none }
def fnExactSwingOfRow : OpenClaim := { program := "ytkdoibglgkcbkaa", sum := "ae3766c6c8697ae00c9371c1ed1b316ada72c261d7b87469b2df8637bc39af28", func := "loop.example/g01222/laws.FnExactSwingOf", spec := "fnExactSwingOf", inPlace := ["math.sqrt", "math.Float64bits", "math.Float64frombits"], apart := false }
def FnExactSwingOfSaid : Prop := fnExactSwingOfRow.holds Try.pinned (OpenSpec.ofChange fnExactSwingOfSpec)

/-- ITS FALSE NEIGHBOUR: 'it returns false'. Refute it at one input. -/
def fnExactSwingOfWrong : ChangeSpec := { name := "fnExactSwingOf", fn := fun _ => fun
  | [d1, d2] => { results := [.lit (.bool false)], args := [d1, d2] }
  | _ => none }
def FnExactSwingOfWrongFalsely : Prop := fnExactSwingOfRow.holds Try.pinned (OpenSpec.ofChange fnExactSwingOfWrong)

/-- 'laws.FnExactNormVectors': WHATEVER THE INPUT: true; the input reads as it did. -/
def fnExactNormVectorsSpec : ChangeSpec := { name := "fnExactNormVectors", fn := fun _ => fun
  | [d] => { results := [.lit (.bool true)], args := [d] }
  | _ => none }
def fnExactNormVectorsRow : OpenClaim := { program := "ytkdoibglgkcbkaa", sum := "ae3766c6c8697ae00c9371c1ed1b316ada72c261d7b87469b2df8637bc39af28", func := "loop.example/g01222/laws.FnExactNormVectors", spec := "fnExactNormVectors", inPlace := ["math.sqrt", "math.Float64bits", "math.Float64frombits"], unfollowed := true, recurses := true, apart := false }
def FnExactNormVectorsSaid : Prop := fnExactNormVectorsRow.holds Try.pinned (OpenSpec.ofChange fnExactNormVectorsSpec)

/-- ITS FALSE NEIGHBOUR: 'it returns false'. Refute it at one input. -/
def fnExactNormVectorsWrong : ChangeSpec := { name := "fnExactNormVectors", fn := fun _ => fun
  | [d] => { results := [.lit (.bool false)], args := [d] }
  | _ => none }
def FnExactNormVectorsWrongFalsely : Prop := fnExactNormVectorsRow.holds Try.pinned (OpenSpec.ofChange fnExactNormVectorsWrong)

/-- 'laws.FnExactWithoutPart': WHATEVER THE INPUT: true; the input reads as it did. -/
def fnExactWithoutPartSpec : ChangeSpec := { name := "fnExactWithoutPart", fn := fun _ => fun
  | [d1, d2] => { results := [.lit (.bool true)], args := [d1, d2] }
  | _ => none }
def fnExactWithoutPartRow : OpenClaim := { program := "ytkdoibglgkcbkaa", sum := "ae3766c6c8697ae00c9371c1ed1b316ada72c261d7b87469b2df8637bc39af28", func := "loop.example/g01222/laws.FnExactWithoutPart", spec := "fnExactWithoutPart", apart := false }
def FnExactWithoutPartSaid : Prop := fnExactWithoutPartRow.holds Try.pinned (OpenSpec.ofChange fnExactWithoutPartSpec)

/-- ITS FALSE NEIGHBOUR: 'it returns false'. Refute it at one input. -/
def fnExactWithoutPartWrong : ChangeSpec := { name := "fnExactWithoutPart", fn := fun _ => fun
  | [d1, d2] => { results := [.lit (.bool false)], args := [d1, d2] }
  | _ => none }
def FnExactWithoutPartWrongFalsely : Prop := fnExactWithoutPartRow.holds Try.pinned (OpenSpec.ofChange fnExactWithoutPartWrong)

/-- 'laws.FnExactFilmMesh': WHATEVER THE INPUT: true; the input reads as it did. -/
def fnExactFilmMeshSpec : ChangeSpec := { name := "fnExactFilmMesh", fn := fun _ => fun
  | [d1, d2, d3, d4] => { results := [.lit (.bool true)], args := [d1, d2, d3, d4] }
  | _ => none }
def fnExactFilmMeshRow : OpenClaim := { program := "ytkdoibglgkcbkaa", sum := "ae3766c6c8697ae00c9371c1ed1b316ada72c261d7b87469b2df8637bc39af28", func := "loop.example/g01222/laws.FnExactFilmMesh", spec := "fnExactFilmMesh", inPlace := ["math.Float64frombits", "math.Float64bits"], unfollowed := true, recurses := true, apart := false }
def FnExactFilmMeshSaid : Prop := fnExactFilmMeshRow.holds Try.pinned (OpenSpec.ofChange fnExactFilmMeshSpec)

/-- ITS FALSE NEIGHBOUR: 'it returns false'. Refute it at one input. -/
def fnExactFilmMeshWrong : ChangeSpec := { name := "fnExactFilmMesh", fn := fun _ => fun
  | [d1, d2, d3, d4] => { results := [.lit (.bool false)], args := [d1, d2, d3, d4] }
  | _ => none }
def FnExactFilmMeshWrongFalsely : Prop := fnExactFilmMeshRow.holds Try.pinned (OpenSpec.ofChange fnExactFilmMeshWrong)

/-- 'laws.FnExactKeepVolume': WHATEVER THE INPUT: true; the input reads as it did. -/
def fnExactKeepVolumeSpec : ChangeSpec := { name := "fnExactKeepVolume", fn := fun _ => fun
  | [d1, d2] => { results := [.lit (.bool true)], args := [d1, d2] }
  | _ => none }
def fnExactKeepVolumeRow : OpenClaim := { program := "ytkdoibglgkcbkaa", sum := "ae3766c6c8697ae00c9371c1ed1b316ada72c261d7b87469b2df8637bc39af28", func := "loop.example/g01222/laws.FnExactKeepVolume", spec := "fnExactKeepVolume", inPlace := ["math.Float64frombits", "math.Float64bits"], unfollowed := true, recurses := true, apart := false }
def FnExactKeepVolumeSaid : Prop := fnExactKeepVolumeRow.holds Try.pinned (OpenSpec.ofChange fnExactKeepVolumeSpec)

/-- ITS FALSE NEIGHBOUR: 'it returns false'. Refute it at one input. -/
def fnExactKeepVolumeWrong : ChangeSpec := { name := "fnExactKeepVolume", fn := fun _ => fun
  | [d1, d2] => { results := [.lit (.bool false)], args := [d1, d2] }
  | _ => none }
def FnExactKeepVolumeWrongFalsely : Prop := fnExactKeepVolumeRow.holds Try.pinned (OpenSpec.ofChange fnExactKeepVolumeWrong)

/-- 'laws.FnExactJoinMeshes': WHATEVER THE INPUT: true; the input reads as it did. -/
def fnExactJoinMeshesSpec : ChangeSpec := { name := "fnExactJoinMeshes", fn := fun _ => fun
  | [d1, d2] => { results := [.lit (.bool true)], args := [d1, d2] }
  | _ => none }
def fnExactJoinMeshesRow : OpenClaim := { program := "ytkdoibglgkcbkaa", sum := "ae3766c6c8697ae00c9371c1ed1b316ada72c261d7b87469b2df8637bc39af28", func := "loop.example/g01222/laws.FnExactJoinMeshes", spec := "fnExactJoinMeshes", apart := false }
def FnExactJoinMeshesSaid : Prop := fnExactJoinMeshesRow.holds Try.pinned (OpenSpec.ofChange fnExactJoinMeshesSpec)

/-- ITS FALSE NEIGHBOUR: 'it returns false'. Refute it at one input. -/
def fnExactJoinMeshesWrong : ChangeSpec := { name := "fnExactJoinMeshes", fn := fun _ => fun
  | [d1, d2] => { results := [.lit (.bool false)], args := [d1, d2] }
  | _ => none }
def FnExactJoinMeshesWrongFalsely : Prop := fnExactJoinMeshesRow.holds Try.pinned (OpenSpec.ofChange fnExactJoinMeshesWrong)

/-- 'laws.FnExactThicknessOf': WHATEVER THE INPUT: true; the input reads as it did. -/
def fnExactThicknessOfSpec : ChangeSpec := { name := "fnExactThicknessOf", fn := fun _ => fun
  | [d1, d2] => { results := [.lit (.bool true)], args := [d1, d2] }
  | _ => none }
def fnExactThicknessOfRow : OpenClaim := { program := "ytkdoibglgkcbkaa", sum := "ae3766c6c8697ae00c9371c1ed1b316ada72c261d7b87469b2df8637bc39af28", func := "loop.example/g01222/laws.FnExactThicknessOf", spec := "fnExactThicknessOf", inPlace := ["math.sqrt"], apart := false }
def FnExactThicknessOfSaid : Prop := fnExactThicknessOfRow.holds Try.pinned (OpenSpec.ofChange fnExactThicknessOfSpec)

/-- ITS FALSE NEIGHBOUR: 'it returns false'. Refute it at one input. -/
def fnExactThicknessOfWrong : ChangeSpec := { name := "fnExactThicknessOf", fn := fun _ => fun
  | [d1, d2] => { results := [.lit (.bool false)], args := [d1, d2] }
  | _ => none }
def FnExactThicknessOfWrongFalsely : Prop := fnExactThicknessOfRow.holds Try.pinned (OpenSpec.ofChange fnExactThicknessOfWrong)

/-- 'laws.FnExactWorstSpring': WHATEVER THE INPUT: true; the input reads as it did. -/
def fnExactWorstSpringSpec : ChangeSpec := { name := "fnExactWorstSpring", fn := fun _ => fun
  | [d] => { results := [.lit (.bool true)], args := [d] }
  | _ => none }
def fnExactWorstSpringRow : OpenClaim := { program := "ytkdoibglgkcbkaa", sum := "ae3766c6c8697ae00c9371c1ed1b316ada72c261d7b87469b2df8637bc39af28", func := "loop.example/g01222/laws.FnExactWorstSpring", spec := "fnExactWorstSpring", inPlace := ["math.sqrt", "math.Float64bits", "math.Float64frombits"], unfollowed := true, recurses := true, apart := false }
def FnExactWorstSpringSaid : Prop := fnExactWorstSpringRow.holds Try.pinned (OpenSpec.ofChange fnExactWorstSpringSpec)

/-- ITS FALSE NEIGHBOUR: 'it returns false'. Refute it at one input. -/
def fnExactWorstSpringWrong : ChangeSpec := { name := "fnExactWorstSpring", fn := fun _ => fun
  | [d] => { results := [.lit (.bool false)], args := [d] }
  | _ => none }
def FnExactWorstSpringWrongFalsely : Prop := fnExactWorstSpringRow.holds Try.pinned (OpenSpec.ofChange fnExactWorstSpringWrong)

/-- 'laws.FnExactCutHole': WHATEVER THE INPUT: true; the input reads as it did. -/
def fnExactCutHoleSpec : ChangeSpec := { name := "fnExactCutHole", fn := fun _ => fun
  | [d1, d2] => { results := [.lit (.bool true)], args := [d1, d2] }
  | _ => none }
def fnExactCutHoleRow : OpenClaim := { program := "ytkdoibglgkcbkaa", sum := "ae3766c6c8697ae00c9371c1ed1b316ada72c261d7b87469b2df8637bc39af28", func := "loop.example/g01222/laws.FnExactCutHole", spec := "fnExactCutHole", apart := false }
def FnExactCutHoleSaid : Prop := fnExactCutHoleRow.holds Try.pinned (OpenSpec.ofChange fnExactCutHoleSpec)

/-- ITS FALSE NEIGHBOUR: 'it returns false'. Refute it at one input. -/
def fnExactCutHoleWrong : ChangeSpec := { name := "fnExactCutHole", fn := fun _ => fun
  | [d1, d2] => { results := [.lit (.bool false)], args := [d1, d2] }
  | _ => none }
def FnExactCutHoleWrongFalsely : Prop := fnExactCutHoleRow.holds Try.pinned (OpenSpec.ofChange fnExactCutHoleWrong)

/-- 'laws.FnExactThinTriangles': WHATEVER THE INPUT: true; the input reads as it did. -/
def fnExactThinTrianglesSpec : ChangeSpec := { name := "fnExactThinTriangles", fn := fun _ => fun
  | [d1, d2] => { results := [.lit (.bool true)], args := [d1, d2] }
  | _ => none }
def fnExactThinTrianglesRow : OpenClaim := { program := "ytkdoibglgkcbkaa", sum := "ae3766c6c8697ae00c9371c1ed1b316ada72c261d7b87469b2df8637bc39af28", func := "loop.example/g01222/laws.FnExactThinTriangles", spec := "fnExactThinTriangles", inPlace := ["math.sqrt"], unfollowed := true, recurses := true, apart := false }
def FnExactThinTrianglesSaid : Prop := fnExactThinTrianglesRow.holds Try.pinned (OpenSpec.ofChange fnExactThinTrianglesSpec)

/-- ITS FALSE NEIGHBOUR: 'it returns false'. Refute it at one input. -/
def fnExactThinTrianglesWrong : ChangeSpec := { name := "fnExactThinTriangles", fn := fun _ => fun
  | [d1, d2] => { results := [.lit (.bool false)], args := [d1, d2] }
  | _ => none }
def FnExactThinTrianglesWrongFalsely : Prop := fnExactThinTrianglesRow.holds Try.pinned (OpenSpec.ofChange fnExactThinTrianglesWrong)

/- THE SECOND FORM. 'bulk': how many values and letters a reading holds, each counted each time it is reached (what is shared counts as often as it is met; a slice's spare places count too). A statement '..UptoSaid' is the law's where the arguments, and the package variables that the reading takes, are together of bulk at most 1048576: NARROWER than '..Said'. Prove '..Said' where nothing that the law and all that it calls make is longer than what came in: it says more and counts as full. Else prove '..UptoSaid'. A law counts once. -/
mutual
def uptoBulk {H : Type} : DataW H → Nat
  | .lit (.string bytes) => bytes.length + 1
  | .lit _ => 1
  | .nil => 1
  | .ptr d => uptoBulk d + 1
  | .slice elems spare => uptoBulkAll elems + uptoBulkAll spare + 1
  | .agg parts => uptoBulkAll parts + 1
  | .iface _ d => uptoBulk d + 1
  | .map entries => uptoBulkEntries entries + 1
  | .held _ => 1
def uptoBulkAll {H : Type} : List (DataW H) → Nat
  | [] => 0
  | d :: r => uptoBulk d + uptoBulkAll r
def uptoBulkEntries {H : Type} : List (Lit × DataW H) → Nat
  | [] => 0
  | x :: r => uptoBulkEntry x + uptoBulkEntries r
def uptoBulkEntry {H : Type} : Lit × DataW H → Nat
  | (.string bytes, d) => bytes.length + uptoBulk d + 1
  | (_, d) => uptoBulk d + 1
 end
def uptoSmall : (H : Type) → List (DataW H) → Bool := fun _ ds => decide (uptoBulkAll ds ≤ 1048576)
def OpenSpec.upto (s : _root_.Go.ChangeSpec) : _root_.Go.OpenSpec := { _root_.Go.OpenSpec.ofChange s with cond := some uptoSmall }

/-- 'laws.FnExactSwingOf', WHERE WHAT IT READS IS OF BULK AT MOST 1048576: true; the input reads as it did. -/
def fnExactSwingOfUptoRow : OpenClaim := { program := "ytkdoibglgkcbkaa", sum := "ae3766c6c8697ae00c9371c1ed1b316ada72c261d7b87469b2df8637bc39af28", func := "loop.example/g01222/laws.FnExactSwingOf", spec := "fnExactSwingOf", inPlace := ["math.sqrt", "math.Float64bits", "math.Float64frombits"], apart := false, narrowed := true }
def FnExactSwingOfUptoSaid : Prop := fnExactSwingOfUptoRow.holds Try.pinned (OpenSpec.upto fnExactSwingOfSpec)

/-- 'laws.FnExactNormVectors', WHERE WHAT IT READS IS OF BULK AT MOST 1048576: true; the input reads as it did. -/
def fnExactNormVectorsUptoRow : OpenClaim := { program := "ytkdoibglgkcbkaa", sum := "ae3766c6c8697ae00c9371c1ed1b316ada72c261d7b87469b2df8637bc39af28", func := "loop.example/g01222/laws.FnExactNormVectors", spec := "fnExactNormVectors", inPlace := ["math.sqrt", "math.Float64bits", "math.Float64frombits"], unfollowed := true, recurses := true, apart := false, narrowed := true }
def FnExactNormVectorsUptoSaid : Prop := fnExactNormVectorsUptoRow.holds Try.pinned (OpenSpec.upto fnExactNormVectorsSpec)

/-- 'laws.FnExactWithoutPart', WHERE WHAT IT READS IS OF BULK AT MOST 1048576: true; the input reads as it did. -/
def fnExactWithoutPartUptoRow : OpenClaim := { program := "ytkdoibglgkcbkaa", sum := "ae3766c6c8697ae00c9371c1ed1b316ada72c261d7b87469b2df8637bc39af28", func := "loop.example/g01222/laws.FnExactWithoutPart", spec := "fnExactWithoutPart", apart := false, narrowed := true }
def FnExactWithoutPartUptoSaid : Prop := fnExactWithoutPartUptoRow.holds Try.pinned (OpenSpec.upto fnExactWithoutPartSpec)

/-- 'laws.FnExactFilmMesh', WHERE WHAT IT READS IS OF BULK AT MOST 1048576: true; the input reads as it did. -/
def fnExactFilmMeshUptoRow : OpenClaim := { program := "ytkdoibglgkcbkaa", sum := "ae3766c6c8697ae00c9371c1ed1b316ada72c261d7b87469b2df8637bc39af28", func := "loop.example/g01222/laws.FnExactFilmMesh", spec := "fnExactFilmMesh", inPlace := ["math.Float64frombits", "math.Float64bits"], unfollowed := true, recurses := true, apart := false, narrowed := true }
def FnExactFilmMeshUptoSaid : Prop := fnExactFilmMeshUptoRow.holds Try.pinned (OpenSpec.upto fnExactFilmMeshSpec)

/-- 'laws.FnExactKeepVolume', WHERE WHAT IT READS IS OF BULK AT MOST 1048576: true; the input reads as it did. -/
def fnExactKeepVolumeUptoRow : OpenClaim := { program := "ytkdoibglgkcbkaa", sum := "ae3766c6c8697ae00c9371c1ed1b316ada72c261d7b87469b2df8637bc39af28", func := "loop.example/g01222/laws.FnExactKeepVolume", spec := "fnExactKeepVolume", inPlace := ["math.Float64frombits", "math.Float64bits"], unfollowed := true, recurses := true, apart := false, narrowed := true }
def FnExactKeepVolumeUptoSaid : Prop := fnExactKeepVolumeUptoRow.holds Try.pinned (OpenSpec.upto fnExactKeepVolumeSpec)

/-- 'laws.FnExactJoinMeshes', WHERE WHAT IT READS IS OF BULK AT MOST 1048576: true; the input reads as it did. -/
def fnExactJoinMeshesUptoRow : OpenClaim := { program := "ytkdoibglgkcbkaa", sum := "ae3766c6c8697ae00c9371c1ed1b316ada72c261d7b87469b2df8637bc39af28", func := "loop.example/g01222/laws.FnExactJoinMeshes", spec := "fnExactJoinMeshes", apart := false, narrowed := true }
def FnExactJoinMeshesUptoSaid : Prop := fnExactJoinMeshesUptoRow.holds Try.pinned (OpenSpec.upto fnExactJoinMeshesSpec)

/-- 'laws.FnExactThicknessOf', WHERE WHAT IT READS IS OF BULK AT MOST 1048576: true; the input reads as it did. -/
def fnExactThicknessOfUptoRow : OpenClaim := { program := "ytkdoibglgkcbkaa", sum := "ae3766c6c8697ae00c9371c1ed1b316ada72c261d7b87469b2df8637bc39af28", func := "loop.example/g01222/laws.FnExactThicknessOf", spec := "fnExactThicknessOf", inPlace := ["math.sqrt"], apart := false, narrowed := true }
def FnExactThicknessOfUptoSaid : Prop := fnExactThicknessOfUptoRow.holds Try.pinned (OpenSpec.upto fnExactThicknessOfSpec)

/-- 'laws.FnExactWorstSpring', WHERE WHAT IT READS IS OF BULK AT MOST 1048576: true; the input reads as it did. -/
def fnExactWorstSpringUptoRow : OpenClaim := { program := "ytkdoibglgkcbkaa", sum := "ae3766c6c8697ae00c9371c1ed1b316ada72c261d7b87469b2df8637bc39af28", func := "loop.example/g01222/laws.FnExactWorstSpring", spec := "fnExactWorstSpring", inPlace := ["math.sqrt", "math.Float64bits", "math.Float64frombits"], unfollowed := true, recurses := true, apart := false, narrowed := true }
def FnExactWorstSpringUptoSaid : Prop := fnExactWorstSpringUptoRow.holds Try.pinned (OpenSpec.upto fnExactWorstSpringSpec)

/-- 'laws.FnExactCutHole', WHERE WHAT IT READS IS OF BULK AT MOST 1048576: true; the input reads as it did. -/
def fnExactCutHoleUptoRow : OpenClaim := { program := "ytkdoibglgkcbkaa", sum := "ae3766c6c8697ae00c9371c1ed1b316ada72c261d7b87469b2df8637bc39af28", func := "loop.example/g01222/laws.FnExactCutHole", spec := "fnExactCutHole", apart := false, narrowed := true }
def FnExactCutHoleUptoSaid : Prop := fnExactCutHoleUptoRow.holds Try.pinned (OpenSpec.upto fnExactCutHoleSpec)

/-- 'laws.FnExactThinTriangles', WHERE WHAT IT READS IS OF BULK AT MOST 1048576: true; the input reads as it did. -/
def fnExactThinTrianglesUptoRow : OpenClaim := { program := "ytkdoibglgkcbkaa", sum := "ae3766c6c8697ae00c9371c1ed1b316ada72c261d7b87469b2df8637bc39af28", func := "loop.example/g01222/laws.FnExactThinTriangles", spec := "fnExactThinTriangles", inPlace := ["math.sqrt"], unfollowed := true, recurses := true, apart := false, narrowed := true }
def FnExactThinTrianglesUptoSaid : Prop := fnExactThinTrianglesUptoRow.holds Try.pinned (OpenSpec.upto fnExactThinTrianglesSpec)

end Rows
end Go.Proofs.Ytkdoibglgkcbkaa

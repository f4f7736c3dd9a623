/-
  No cell of these rows narrows 'for every input' (looked for: loops, veiled, ifaces, maps, wideKeys, modest, calm, conditions, laid).
  DERIVED. THE GIVEN ROWS OF THIS SEAT. 12 by the template 'for every input the law returns true; each argument reads behind the call as it read before'; 0 by the template 'total and deterministic' (their statements: YtcgnmnbjgamedaaTotals.lean).
  GIVEN WITH THE SEED: the statements are not yours to turn. If you find one false, say at which input.
  Laid BY PROGRAM, IN A SANDBOX (cutbox-rows.mjs): the forced cells as the released guide's own fill.sh prints them over the translation 15fd26ea277aa262… (all of the seat's roots in one cut). By AI agents, Wed Nov 11 2026. No macro, syntax, notation, axiom, sorry.
-/
import Derived.Test.YtcgnmnbjgamedaaChecked
import GoSem.Claim
import GoSem.ClaimJoined
import GoSem.ClaimMapViews
import Derived.JoinedTies
import Derived.KernelRfl
namespace Go.Proofs.Ytcgnmnbjgamedaa
/- THE CELL 'sum', in the pinned program and in every row, IS THE sha256 OF THE DUMP (.gsa) THAT YtcgnmnbjgamedaaProg.lean LOADS. Nothing in Lean hashes anything: it is a label: what it is worth is what the hold of that sum in a sandbox is worth. -/
noncomputable def Try.pinned : Pinned := { name := "ytcgnmnbjgamedaa", sum := "15fd26ea277aa262e91d8ea4241269b3b22692ba185f57dea7ee8ee3468b0acc", checked := Try.checked }
namespace Rows
def none {H : Type} : Left H := { results := [], args := [] }

/-- 'laws.FnExactDiscsArea': WHATEVER THE INPUT: true; the input reads as it did. -/
def fnExactDiscsAreaSpec : ChangeSpec := { name := "fnExactDiscsArea", fn := fun _ => fun
  | [d] => { results := [.lit (.bool true)], args := [d] }
  | _ => none }
def fnExactDiscsAreaRow : OpenClaim := { program := "ytcgnmnbjgamedaa", sum := "15fd26ea277aa262e91d8ea4241269b3b22692ba185f57dea7ee8ee3468b0acc", func := "loop.example/g01222/laws.FnExactDiscsArea", spec := "fnExactDiscsArea", inPlace := ["math.Float64bits", "math.Float64frombits"], apart := false }
def FnExactDiscsAreaSaid : Prop := fnExactDiscsAreaRow.holds Try.pinned (OpenSpec.ofChange fnExactDiscsAreaSpec)

/-- ITS FALSE NEIGHBOUR: 'it returns false'. Refute it at one input. -/
def fnExactDiscsAreaWrong : ChangeSpec := { name := "fnExactDiscsArea", fn := fun _ => fun
  | [d] => { results := [.lit (.bool false)], args := [d] }
  | _ => none }
def FnExactDiscsAreaWrongFalsely : Prop := fnExactDiscsAreaRow.holds Try.pinned (OpenSpec.ofChange fnExactDiscsAreaWrong)

/-- 'laws.FnExactWidestGap': WHATEVER THE INPUT: true; the input reads as it did. -/
def fnExactWidestGapSpec : ChangeSpec := { name := "fnExactWidestGap", fn := fun _ => fun
  | [d] => { results := [.lit (.bool true)], args := [d] }
  | _ => none }
def fnExactWidestGapRow : OpenClaim := { program := "ytcgnmnbjgamedaa", sum := "15fd26ea277aa262e91d8ea4241269b3b22692ba185f57dea7ee8ee3468b0acc", func := "loop.example/g01222/laws.FnExactWidestGap", spec := "fnExactWidestGap", inPlace := ["math.Float64bits", "math.Float64frombits"], apart := false }
def FnExactWidestGapSaid : Prop := fnExactWidestGapRow.holds Try.pinned (OpenSpec.ofChange fnExactWidestGapSpec)

/-- ITS FALSE NEIGHBOUR: 'it returns false'. Refute it at one input. -/
def fnExactWidestGapWrong : ChangeSpec := { name := "fnExactWidestGap", fn := fun _ => fun
  | [d] => { results := [.lit (.bool false)], args := [d] }
  | _ => none }
def FnExactWidestGapWrongFalsely : Prop := fnExactWidestGapRow.holds Try.pinned (OpenSpec.ofChange fnExactWidestGapWrong)

/-- 'laws.FnExactBubblePressure': WHATEVER THE INPUT: true; the input reads as it did. -/
def fnExactBubblePressureSpec : ChangeSpec := { name := "fnExactBubblePressure", fn := fun _ => fun
  | [d1, d2] => { results := [.lit (.bool true)], args := [d1, d2] }
  | _ => none }
def fnExactBubblePressureRow : OpenClaim := { program := "ytcgnmnbjgamedaa", sum := "15fd26ea277aa262e91d8ea4241269b3b22692ba185f57dea7ee8ee3468b0acc", func := "loop.example/g01222/laws.FnExactBubblePressure", spec := "fnExactBubblePressure", inPlace := ["math.Float64bits", "math.Float64frombits"], apart := false }
def FnExactBubblePressureSaid : Prop := fnExactBubblePressureRow.holds Try.pinned (OpenSpec.ofChange fnExactBubblePressureSpec)

/-- ITS FALSE NEIGHBOUR: 'it returns false'. Refute it at one input. -/
def fnExactBubblePressureWrong : ChangeSpec := { name := "fnExactBubblePressure", fn := fun _ => fun
  | [d1, d2] => { results := [.lit (.bool false)], args := [d1, d2] }
  | _ => none }
def FnExactBubblePressureWrongFalsely : Prop := fnExactBubblePressureRow.holds Try.pinned (OpenSpec.ofChange fnExactBubblePressureWrong)

/-- 'laws.FnExactWallRadius': WHATEVER THE INPUT: true; the input reads as it did. -/
def fnExactWallRadiusSpec : ChangeSpec := { name := "fnExactWallRadius", fn := fun _ => fun
  | [d1, d2] => { results := [.lit (.bool true)], args := [d1, d2] }
  | _ => none }
def fnExactWallRadiusRow : OpenClaim := { program := "ytcgnmnbjgamedaa", sum := "15fd26ea277aa262e91d8ea4241269b3b22692ba185f57dea7ee8ee3468b0acc", func := "loop.example/g01222/laws.FnExactWallRadius", spec := "fnExactWallRadius", inPlace := ["math.Float64bits", "math.Float64frombits"], apart := false }
def FnExactWallRadiusSaid : Prop := fnExactWallRadiusRow.holds Try.pinned (OpenSpec.ofChange fnExactWallRadiusSpec)

/-- ITS FALSE NEIGHBOUR: 'it returns false'. Refute it at one input. -/
def fnExactWallRadiusWrong : ChangeSpec := { name := "fnExactWallRadius", fn := fun _ => fun
  | [d1, d2] => { results := [.lit (.bool false)], args := [d1, d2] }
  | _ => none }
def FnExactWallRadiusWrongFalsely : Prop := fnExactWallRadiusRow.holds Try.pinned (OpenSpec.ofChange fnExactWallRadiusWrong)

/-- 'laws.FnExactPathLong': WHATEVER THE INPUT: true; the input reads as it did. -/
def fnExactPathLongSpec : ChangeSpec := { name := "fnExactPathLong", fn := fun _ => fun
  | [d1, d2, d3, d4] => { results := [.lit (.bool true)], args := [d1, d2, d3, d4] }
  | _ => none }
def fnExactPathLongRow : OpenClaim := { program := "ytcgnmnbjgamedaa", sum := "15fd26ea277aa262e91d8ea4241269b3b22692ba185f57dea7ee8ee3468b0acc", func := "loop.example/g01222/laws.FnExactPathLong", spec := "fnExactPathLong", inPlace := ["math.sqrt"], apart := false }
def FnExactPathLongSaid : Prop := fnExactPathLongRow.holds Try.pinned (OpenSpec.ofChange fnExactPathLongSpec)

/-- ITS FALSE NEIGHBOUR: 'it returns false'. Refute it at one input. -/
def fnExactPathLongWrong : ChangeSpec := { name := "fnExactPathLong", fn := fun _ => fun
  | [d1, d2, d3, d4] => { results := [.lit (.bool false)], args := [d1, d2, d3, d4] }
  | _ => none }
def FnExactPathLongWrongFalsely : Prop := fnExactPathLongRow.holds Try.pinned (OpenSpec.ofChange fnExactPathLongWrong)

/-- 'laws.FnExactMeetRest': WHATEVER THE INPUT: true; the input reads as it did. -/
def fnExactMeetRestSpec : ChangeSpec := { name := "fnExactMeetRest", fn := fun _ => fun
  | [d1, d2, d3] => { results := [.lit (.bool true)], args := [d1, d2, d3] }
  | _ => none }
def fnExactMeetRestRow : OpenClaim := { program := "ytcgnmnbjgamedaa", sum := "15fd26ea277aa262e91d8ea4241269b3b22692ba185f57dea7ee8ee3468b0acc", func := "loop.example/g01222/laws.FnExactMeetRest", spec := "fnExactMeetRest", inPlace := ["math.sqrt", "math.Float64bits", "math.Float64frombits"], apart := false }
def FnExactMeetRestSaid : Prop := fnExactMeetRestRow.holds Try.pinned (OpenSpec.ofChange fnExactMeetRestSpec)

/-- ITS FALSE NEIGHBOUR: 'it returns false'. Refute it at one input. -/
def fnExactMeetRestWrong : ChangeSpec := { name := "fnExactMeetRest", fn := fun _ => fun
  | [d1, d2, d3] => { results := [.lit (.bool false)], args := [d1, d2, d3] }
  | _ => none }
def FnExactMeetRestWrongFalsely : Prop := fnExactMeetRestRow.holds Try.pinned (OpenSpec.ofChange fnExactMeetRestWrong)

/-- 'laws.FnExactMeetPoint': WHATEVER THE INPUT: true; the input reads as it did. -/
def fnExactMeetPointSpec : ChangeSpec := { name := "fnExactMeetPoint", fn := fun _ => fun
  | [d1, d2, d3, d4] => { results := [.lit (.bool true)], args := [d1, d2, d3, d4] }
  | _ => none }
def fnExactMeetPointRow : OpenClaim := { program := "ytcgnmnbjgamedaa", sum := "15fd26ea277aa262e91d8ea4241269b3b22692ba185f57dea7ee8ee3468b0acc", func := "loop.example/g01222/laws.FnExactMeetPoint", spec := "fnExactMeetPoint", inPlace := ["math.sqrt", "math.Float64bits", "math.Float64frombits"], apart := false }
def FnExactMeetPointSaid : Prop := fnExactMeetPointRow.holds Try.pinned (OpenSpec.ofChange fnExactMeetPointSpec)

/-- ITS FALSE NEIGHBOUR: 'it returns false'. Refute it at one input. -/
def fnExactMeetPointWrong : ChangeSpec := { name := "fnExactMeetPoint", fn := fun _ => fun
  | [d1, d2, d3, d4] => { results := [.lit (.bool false)], args := [d1, d2, d3, d4] }
  | _ => none }
def FnExactMeetPointWrongFalsely : Prop := fnExactMeetPointRow.holds Try.pinned (OpenSpec.ofChange fnExactMeetPointWrong)

/-- 'laws.FnExactShrinkRing': WHATEVER THE INPUT: true; the input reads as it did. -/
def fnExactShrinkRingSpec : ChangeSpec := { name := "fnExactShrinkRing", fn := fun _ => fun
  | [d1, d2] => { results := [.lit (.bool true)], args := [d1, d2] }
  | _ => none }
def fnExactShrinkRingRow : OpenClaim := { program := "ytcgnmnbjgamedaa", sum := "15fd26ea277aa262e91d8ea4241269b3b22692ba185f57dea7ee8ee3468b0acc", func := "loop.example/g01222/laws.FnExactShrinkRing", spec := "fnExactShrinkRing", unfollowed := true, recurses := true, apart := false }
def FnExactShrinkRingSaid : Prop := fnExactShrinkRingRow.holds Try.pinned (OpenSpec.ofChange fnExactShrinkRingSpec)

/-- ITS FALSE NEIGHBOUR: 'it returns false'. Refute it at one input. -/
def fnExactShrinkRingWrong : ChangeSpec := { name := "fnExactShrinkRing", fn := fun _ => fun
  | [d1, d2] => { results := [.lit (.bool false)], args := [d1, d2] }
  | _ => none }
def FnExactShrinkRingWrongFalsely : Prop := fnExactShrinkRingRow.holds Try.pinned (OpenSpec.ofChange fnExactShrinkRingWrong)

/-- 'laws.FnExactBubbleRadius': WHATEVER THE INPUT: true; the input reads as it did. -/
def fnExactBubbleRadiusSpec : ChangeSpec := { name := "fnExactBubbleRadius", fn := fun _ => fun
  | [d] => { results := [.lit (.bool true)], args := [d] }
  | _ => none }
def fnExactBubbleRadiusRow : OpenClaim := { program := "ytcgnmnbjgamedaa", sum := "15fd26ea277aa262e91d8ea4241269b3b22692ba185f57dea7ee8ee3468b0acc", func := "loop.example/g01222/laws.FnExactBubbleRadius", spec := "fnExactBubbleRadius", inPlace := ["math.Float64frombits", "math.Float64bits"], apart := false }
def FnExactBubbleRadiusSaid : Prop := fnExactBubbleRadiusRow.holds Try.pinned (OpenSpec.ofChange fnExactBubbleRadiusSpec)

/-- ITS FALSE NEIGHBOUR: 'it returns false'. Refute it at one input. -/
def fnExactBubbleRadiusWrong : ChangeSpec := { name := "fnExactBubbleRadius", fn := fun _ => fun
  | [d] => { results := [.lit (.bool false)], args := [d] }
  | _ => none }
def FnExactBubbleRadiusWrongFalsely : Prop := fnExactBubbleRadiusRow.holds Try.pinned (OpenSpec.ofChange fnExactBubbleRadiusWrong)

/-- 'laws.FnExactNeckOf': WHATEVER THE INPUT: true; the input reads as it did. -/
def fnExactNeckOfSpec : ChangeSpec := { name := "fnExactNeckOf", fn := fun _ => fun
  | [d1, d2] => { results := [.lit (.bool true)], args := [d1, d2] }
  | _ => none }
def fnExactNeckOfRow : OpenClaim := { program := "ytcgnmnbjgamedaa", sum := "15fd26ea277aa262e91d8ea4241269b3b22692ba185f57dea7ee8ee3468b0acc", func := "loop.example/g01222/laws.FnExactNeckOf", spec := "fnExactNeckOf", inPlace := ["math.Float64frombits", "math.Float64bits"], unfollowed := true, recurses := true, apart := false }
def FnExactNeckOfSaid : Prop := fnExactNeckOfRow.holds Try.pinned (OpenSpec.ofChange fnExactNeckOfSpec)

/-- ITS FALSE NEIGHBOUR: 'it returns false'. Refute it at one input. -/
def fnExactNeckOfWrong : ChangeSpec := { name := "fnExactNeckOf", fn := fun _ => fun
  | [d1, d2] => { results := [.lit (.bool false)], args := [d1, d2] }
  | _ => none }
def FnExactNeckOfWrongFalsely : Prop := fnExactNeckOfRow.holds Try.pinned (OpenSpec.ofChange fnExactNeckOfWrong)

/-- 'laws.FnExactIsHolding': WHATEVER THE INPUT: true; the input reads as it did. -/
def fnExactIsHoldingSpec : ChangeSpec := { name := "fnExactIsHolding", fn := fun _ => fun
  | [d1, d2] => { results := [.lit (.bool true)], args := [d1, d2] }
  | _ => none }
def fnExactIsHoldingRow : OpenClaim := { program := "ytcgnmnbjgamedaa", sum := "15fd26ea277aa262e91d8ea4241269b3b22692ba185f57dea7ee8ee3468b0acc", func := "loop.example/g01222/laws.FnExactIsHolding", spec := "fnExactIsHolding", inPlace := ["math.Float64frombits", "math.Float64bits"], unfollowed := true, recurses := true, apart := false }
def FnExactIsHoldingSaid : Prop := fnExactIsHoldingRow.holds Try.pinned (OpenSpec.ofChange fnExactIsHoldingSpec)

/-- ITS FALSE NEIGHBOUR: 'it returns false'. Refute it at one input. -/
def fnExactIsHoldingWrong : ChangeSpec := { name := "fnExactIsHolding", fn := fun _ => fun
  | [d1, d2] => { results := [.lit (.bool false)], args := [d1, d2] }
  | _ => none }
def FnExactIsHoldingWrongFalsely : Prop := fnExactIsHoldingRow.holds Try.pinned (OpenSpec.ofChange fnExactIsHoldingWrong)

/-- 'laws.FnExactFilmMesh': WHATEVER THE INPUT: true; the input reads as it did. -/
def fnExactFilmMeshSpec : ChangeSpec := { name := "fnExactFilmMesh", fn := fun _ => fun
  | [d1, d2, d3, d4] => { results := [.lit (.bool true)], args := [d1, d2, d3, d4] }
  | _ => none }
def fnExactFilmMeshRow : OpenClaim := { program := "ytcgnmnbjgamedaa", sum := "15fd26ea277aa262e91d8ea4241269b3b22692ba185f57dea7ee8ee3468b0acc", func := "loop.example/g01222/laws.FnExactFilmMesh", spec := "fnExactFilmMesh", inPlace := ["math.Float64frombits", "math.Float64bits"], unfollowed := true, recurses := true, apart := false }
def FnExactFilmMeshSaid : Prop := fnExactFilmMeshRow.holds Try.pinned (OpenSpec.ofChange fnExactFilmMeshSpec)

/-- ITS FALSE NEIGHBOUR: 'it returns false'. Refute it at one input. -/
def fnExactFilmMeshWrong : ChangeSpec := { name := "fnExactFilmMesh", fn := fun _ => fun
  | [d1, d2, d3, d4] => { results := [.lit (.bool false)], args := [d1, d2, d3, d4] }
  | _ => none }
def FnExactFilmMeshWrongFalsely : Prop := fnExactFilmMeshRow.holds Try.pinned (OpenSpec.ofChange fnExactFilmMeshWrong)

/- THE SECOND FORM. 'bulk': how many values and letters a reading holds, each counted each time it is reached (what is shared counts as often as it is met; a slice's spare places count too). A statement '..UptoSaid' is the law's where the arguments, and the package variables that the reading takes, are together of bulk at most 1048576: NARROWER than '..Said'. Prove '..Said' where nothing that the law and all that it calls make is longer than what came in: it says more and counts as full. Else prove '..UptoSaid'. A law counts once. -/
mutual
def uptoBulk {H : Type} : DataW H → Nat
  | .lit (.string bytes) => bytes.length + 1
  | .lit _ => 1
  | .nil => 1
  | .ptr d => uptoBulk d + 1
  | .slice elems spare => uptoBulkAll elems + uptoBulkAll spare + 1
  | .agg parts => uptoBulkAll parts + 1
  | .iface _ d => uptoBulk d + 1
  | .map entries => uptoBulkEntries entries + 1
  | .held _ => 1
def uptoBulkAll {H : Type} : List (DataW H) → Nat
  | [] => 0
  | d :: r => uptoBulk d + uptoBulkAll r
def uptoBulkEntries {H : Type} : List (Lit × DataW H) → Nat
  | [] => 0
  | x :: r => uptoBulkEntry x + uptoBulkEntries r
def uptoBulkEntry {H : Type} : Lit × DataW H → Nat
  | (.string bytes, d) => bytes.length + uptoBulk d + 1
  | (_, d) => uptoBulk d + 1
 end
def uptoSmall : (H : Type) → List (DataW H) → Bool := fun _ ds => decide (uptoBulkAll ds ≤ 1048576)
def OpenSpec.upto (s : _root_.Go.ChangeSpec) : _root_.Go.OpenSpec := { _root_.Go.OpenSpec.ofChange s with cond := some uptoSmall }

/-- 'laws.FnExactDiscsArea', WHERE WHAT IT READS IS OF BULK AT MOST 1048576: true; the input reads as it did. -/
def fnExactDiscsAreaUptoRow : OpenClaim := { program := "ytcgnmnbjgamedaa", sum := "15fd26ea277aa262e91d8ea4241269b3b22692ba185f57dea7ee8ee3468b0acc", func := "loop.example/g01222/laws.FnExactDiscsArea", spec := "fnExactDiscsArea", inPlace := ["math.Float64bits", "math.Float64frombits"], apart := false, narrowed := true }
def FnExactDiscsAreaUptoSaid : Prop := fnExactDiscsAreaUptoRow.holds Try.pinned (OpenSpec.upto fnExactDiscsAreaSpec)

/-- 'laws.FnExactWidestGap', WHERE WHAT IT READS IS OF BULK AT MOST 1048576: true; the input reads as it did. -/
def fnExactWidestGapUptoRow : OpenClaim := { program := "ytcgnmnbjgamedaa", sum := "15fd26ea277aa262e91d8ea4241269b3b22692ba185f57dea7ee8ee3468b0acc", func := "loop.example/g01222/laws.FnExactWidestGap", spec := "fnExactWidestGap", inPlace := ["math.Float64bits", "math.Float64frombits"], apart := false, narrowed := true }
def FnExactWidestGapUptoSaid : Prop := fnExactWidestGapUptoRow.holds Try.pinned (OpenSpec.upto fnExactWidestGapSpec)

/-- 'laws.FnExactBubblePressure', WHERE WHAT IT READS IS OF BULK AT MOST 1048576: true; the input reads as it did. -/
def fnExactBubblePressureUptoRow : OpenClaim := { program := "ytcgnmnbjgamedaa", sum := "15fd26ea277aa262e91d8ea4241269b3b22692ba185f57dea7ee8ee3468b0acc", func := "loop.example/g01222/laws.FnExactBubblePressure", spec := "fnExactBubblePressure", inPlace := ["math.Float64bits", "math.Float64frombits"], apart := false, narrowed := true }
def FnExactBubblePressureUptoSaid : Prop := fnExactBubblePressureUptoRow.holds Try.pinned (OpenSpec.upto fnExactBubblePressureSpec)

/-- 'laws.FnExactWallRadius', WHERE WHAT IT READS IS OF BULK AT MOST 1048576: true; the input reads as it did. -/
def fnExactWallRadiusUptoRow : OpenClaim := { program := "ytcgnmnbjgamedaa", sum := "15fd26ea277aa262e91d8ea4241269b3b22692ba185f57dea7ee8ee3468b0acc", func := "loop.example/g01222/laws.FnExactWallRadius", spec := "fnExactWallRadius", inPlace := ["math.Float64bits", "math.Float64frombits"], apart := false, narrowed := true }
def FnExactWallRadiusUptoSaid : Prop := fnExactWallRadiusUptoRow.holds Try.pinned (OpenSpec.upto fnExactWallRadiusSpec)

/-- 'laws.FnExactPathLong', WHERE WHAT IT READS IS OF BULK AT MOST 1048576: true; the input reads as it did. -/
def fnExactPathLongUptoRow : OpenClaim := { program := "ytcgnmnbjgamedaa", sum := "15fd26ea277aa262e91d8ea4241269b3b22692ba185f57dea7ee8ee3468b0acc", func := "loop.example/g01222/laws.FnExactPathLong", spec := "fnExactPathLong", inPlace := ["math.sqrt"], apart := false, narrowed := true }
def FnExactPathLongUptoSaid : Prop := fnExactPathLongUptoRow.holds Try.pinned (OpenSpec.upto fnExactPathLongSpec)

/-- 'laws.FnExactMeetRest', WHERE WHAT IT READS IS OF BULK AT MOST 1048576: true; the input reads as it did. -/
def fnExactMeetRestUptoRow : OpenClaim := { program := "ytcgnmnbjgamedaa", sum := "15fd26ea277aa262e91d8ea4241269b3b22692ba185f57dea7ee8ee3468b0acc", func := "loop.example/g01222/laws.FnExactMeetRest", spec := "fnExactMeetRest", inPlace := ["math.sqrt", "math.Float64bits", "math.Float64frombits"], apart := false, narrowed := true }
def FnExactMeetRestUptoSaid : Prop := fnExactMeetRestUptoRow.holds Try.pinned (OpenSpec.upto fnExactMeetRestSpec)

/-- 'laws.FnExactMeetPoint', WHERE WHAT IT READS IS OF BULK AT MOST 1048576: true; the input reads as it did. -/
def fnExactMeetPointUptoRow : OpenClaim := { program := "ytcgnmnbjgamedaa", sum := "15fd26ea277aa262e91d8ea4241269b3b22692ba185f57dea7ee8ee3468b0acc", func := "loop.example/g01222/laws.FnExactMeetPoint", spec := "fnExactMeetPoint", inPlace := ["math.sqrt", "math.Float64bits", "math.Float64frombits"], apart := false, narrowed := true }
def FnExactMeetPointUptoSaid : Prop := fnExactMeetPointUptoRow.holds Try.pinned (OpenSpec.upto fnExactMeetPointSpec)

/-- 'laws.FnExactShrinkRing', WHERE WHAT IT READS IS OF BULK AT MOST 1048576: true; the input reads as it did. -/
def fnExactShrinkRingUptoRow : OpenClaim := { program := "ytcgnmnbjgamedaa", sum := "15fd26ea277aa262e91d8ea4241269b3b22692ba185f57dea7ee8ee3468b0acc", func := "loop.example/g01222/laws.FnExactShrinkRing", spec := "fnExactShrinkRing", unfollowed := true, recurses := true, apart := false, narrowed := true }
def FnExactShrinkRingUptoSaid : Prop := fnExactShrinkRingUptoRow.holds Try.pinned (OpenSpec.upto fnExactShrinkRingSpec)

/-- 'laws.FnExactBubbleRadius', WHERE WHAT IT READS IS OF BULK AT MOST 1048576: true; the input reads as it did. -/
def fnExactBubbleRadiusUptoRow : OpenClaim := { program := "ytcgnmnbjgamedaa", sum := "15fd26ea277aa262e91d8ea4241269b3b22692ba185f57dea7ee8ee3468b0acc", func := "loop.example/g01222/laws.FnExactBubbleRadius", spec := "fnExactBubbleRadius", inPlace := ["math.Float64frombits", "math.Float64bits"], apart := false, narrowed := true }
def FnExactBubbleRadiusUptoSaid : Prop := fnExactBubbleRadiusUptoRow.holds Try.pinned (OpenSpec.upto fnExactBubbleRadiusSpec)

/-- 'laws.FnExactNeckOf', WHERE WHAT IT READS IS OF BULK AT MOST 1048576: true; the input reads as it did. -/
def fnExactNeckOfUptoRow : OpenClaim := { program := "ytcgnmnbjgamedaa", sum := "15fd26ea277aa262e91d8ea4241269b3b22692ba185f57dea7ee8ee3468b0acc", func := "loop.example/g01222/laws.FnExactNeckOf", spec := "fnExactNeckOf", inPlace := ["math.Float64frombits", "math.Float64bits"], unfollowed := true, recurses := true, apart := false, narrowed := true }
def FnExactNeckOfUptoSaid : Prop := fnExactNeckOfUptoRow.holds Try.pinned (OpenSpec.upto fnExactNeckOfSpec)

/-- 'laws.FnExactIsHolding', WHERE WHAT IT READS IS OF BULK AT MOST 1048576: true; the input reads as it did. -/
def fnExactIsHoldingUptoRow : OpenClaim := { program := "ytcgnmnbjgamedaa", sum := "15fd26ea277aa262e91d8ea4241269b3b22692ba185f57dea7ee8ee3468b0acc", func := "loop.example/g01222/laws.FnExactIsHolding", spec := "fnExactIsHolding", inPlace := ["math.Float64frombits", "math.Float64bits"], unfollowed := true, recurses := true, apart := false, narrowed := true }
def FnExactIsHoldingUptoSaid : Prop := fnExactIsHoldingUptoRow.holds Try.pinned (OpenSpec.upto fnExactIsHoldingSpec)

/-- 'laws.FnExactFilmMesh', WHERE WHAT IT READS IS OF BULK AT MOST 1048576: true; the input reads as it did. -/
def fnExactFilmMeshUptoRow : OpenClaim := { program := "ytcgnmnbjgamedaa", sum := "15fd26ea277aa262e91d8ea4241269b3b22692ba185f57dea7ee8ee3468b0acc", func := "loop.example/g01222/laws.FnExactFilmMesh", spec := "fnExactFilmMesh", inPlace := ["math.Float64frombits", "math.Float64bits"], unfollowed := true, recurses := true, apart := false, narrowed := true }
def FnExactFilmMeshUptoSaid : Prop := fnExactFilmMeshUptoRow.holds Try.pinned (OpenSpec.upto fnExactFilmMeshSpec)

end Rows
end Go.Proofs.Ytcgnmnbjgamedaa

/-
  No cell of these rows narrows 'for every input' (looked for: loops, veiled, ifaces, maps, wideKeys, modest, calm, conditions, laid).
  DERIVED. THE GIVEN ROWS OF THIS SEAT. 12 by the template 'for every input the law returns true; each argument reads behind the call as it read before'; 0 by the template 'total and deterministic' (their statements: YtabccmobmppdnaaGreatTotals.lean).
  GIVEN WITH THE SEED: the statements are not yours to turn. If you find one false, say at which input.
  Laid BY PROGRAM, IN A SANDBOX (cutbox-rows.mjs): the forced cells as the released guide's own fill.sh prints them over the translation 7104c3569a0d182a… (all of the seat's roots in one cut). By AI agents, Wed Nov 11 2026. No macro, syntax, notation, axiom, sorry.
-/
import Derived.Test.YtabccmobmppdnaaGreatChecked
import GoSem.Claim
import GoSem.ClaimJoined
import GoSem.ClaimMapViews
import Derived.JoinedTies
import Derived.KernelRfl
namespace Go.Proofs.YtabccmobmppdnaaGreat
/- THE CELL 'sum', in the pinned program and in every row, IS THE sha256 OF THE DUMP (.gsa) THAT YtabccmobmppdnaaGreatProg.lean LOADS. Nothing in Lean hashes anything: it is a label: what it is worth is what the hold of that sum in a sandbox is worth. -/
noncomputable def Tryz.pinned : Pinned := { name := "ytabccmobmppdnaagreat", sum := "7104c3569a0d182a0637b695c84068a1e4ed862f64a859d4a0c22c9910bfd325", checked := Tryz.checked }
namespace Rows
def none {H : Type} : Left H := { results := [], args := [] }

/-- 'laws.FnExactStiffTimes': WHATEVER THE INPUT: true; the input reads as it did. -/
def fnExactStiffTimesSpec : ChangeSpec := { name := "fnExactStiffTimes", fn := fun _ => fun
  | [d1, d2, d3, d4] => { results := [.lit (.bool true)], args := [d1, d2, d3, d4] }
  | _ => none }
def fnExactStiffTimesRow : OpenClaim := { program := "ytabccmobmppdnaagreat", sum := "7104c3569a0d182a0637b695c84068a1e4ed862f64a859d4a0c22c9910bfd325", func := "loop.example/g01222/laws.FnExactStiffTimes", spec := "fnExactStiffTimes", inPlace := ["math.sqrt", "math.Float64bits", "math.Float64frombits"], unfollowed := true, recurses := true, plainKeys := false, apart := false }
def FnExactStiffTimesSaid : Prop := fnExactStiffTimesRow.holds Tryz.pinned (OpenSpec.ofChange fnExactStiffTimesSpec)

/-- ITS FALSE NEIGHBOUR: 'it returns false'. Refute it at one input. -/
def fnExactStiffTimesWrong : ChangeSpec := { name := "fnExactStiffTimes", fn := fun _ => fun
  | [d1, d2, d3, d4] => { results := [.lit (.bool false)], args := [d1, d2, d3, d4] }
  | _ => none }
def FnExactStiffTimesWrongFalsely : Prop := fnExactStiffTimesRow.holds Tryz.pinned (OpenSpec.ofChange fnExactStiffTimesWrong)

/-- 'laws.FnExactRayleighOf': WHATEVER THE INPUT: true; the input reads as it did. -/
def fnExactRayleighOfSpec : ChangeSpec := { name := "fnExactRayleighOf", fn := fun _ => fun
  | [d1, d2, d3, d4] => { results := [.lit (.bool true)], args := [d1, d2, d3, d4] }
  | _ => none }
def fnExactRayleighOfRow : OpenClaim := { program := "ytabccmobmppdnaagreat", sum := "7104c3569a0d182a0637b695c84068a1e4ed862f64a859d4a0c22c9910bfd325", func := "loop.example/g01222/laws.FnExactRayleighOf", spec := "fnExactRayleighOf", inPlace := ["math.sqrt", "math.Float64bits", "math.Float64frombits"], unfollowed := true, recurses := true, plainKeys := false, apart := false }
def FnExactRayleighOfSaid : Prop := fnExactRayleighOfRow.holds Tryz.pinned (OpenSpec.ofChange fnExactRayleighOfSpec)

/-- ITS FALSE NEIGHBOUR: 'it returns false'. Refute it at one input. -/
def fnExactRayleighOfWrong : ChangeSpec := { name := "fnExactRayleighOf", fn := fun _ => fun
  | [d1, d2, d3, d4] => { results := [.lit (.bool false)], args := [d1, d2, d3, d4] }
  | _ => none }
def FnExactRayleighOfWrongFalsely : Prop := fnExactRayleighOfRow.holds Tryz.pinned (OpenSpec.ofChange fnExactRayleighOfWrong)

/-- 'laws.FnExactGreatMode': WHATEVER THE INPUT: true; the input reads as it did. -/
def fnExactGreatModeSpec : ChangeSpec := { name := "fnExactGreatMode", fn := fun _ => fun
  | [d1, d2, d3, d4, d5] => { results := [.lit (.bool true)], args := [d1, d2, d3, d4, d5] }
  | _ => none }
def fnExactGreatModeRow : OpenClaim := { program := "ytabccmobmppdnaagreat", sum := "7104c3569a0d182a0637b695c84068a1e4ed862f64a859d4a0c22c9910bfd325", func := "loop.example/g01222/laws.FnExactGreatMode", spec := "fnExactGreatMode", inPlace := ["math.sqrt", "math.Float64bits", "math.Float64frombits"], unfollowed := true, recurses := true, plainKeys := false, apart := false }
def FnExactGreatModeSaid : Prop := fnExactGreatModeRow.holds Tryz.pinned (OpenSpec.ofChange fnExactGreatModeSpec)

/-- ITS FALSE NEIGHBOUR: 'it returns false'. Refute it at one input. -/
def fnExactGreatModeWrong : ChangeSpec := { name := "fnExactGreatMode", fn := fun _ => fun
  | [d1, d2, d3, d4, d5] => { results := [.lit (.bool false)], args := [d1, d2, d3, d4, d5] }
  | _ => none }
def FnExactGreatModeWrongFalsely : Prop := fnExactGreatModeRow.holds Tryz.pinned (OpenSpec.ofChange fnExactGreatModeWrong)

/-- 'laws.FnExactSoftMode': WHATEVER THE INPUT: true; the input reads as it did. -/
def fnExactSoftModeSpec : ChangeSpec := { name := "fnExactSoftMode", fn := fun _ => fun
  | [d1, d2, d3, d4, d5, d6] => { results := [.lit (.bool true)], args := [d1, d2, d3, d4, d5, d6] }
  | _ => none }
def fnExactSoftModeRow : OpenClaim := { program := "ytabccmobmppdnaagreat", sum := "7104c3569a0d182a0637b695c84068a1e4ed862f64a859d4a0c22c9910bfd325", func := "loop.example/g01222/laws.FnExactSoftMode", spec := "fnExactSoftMode", inPlace := ["math.sqrt", "math.Float64bits", "math.Float64frombits"], unfollowed := true, recurses := true, plainKeys := false, apart := false }
def FnExactSoftModeSaid : Prop := fnExactSoftModeRow.holds Tryz.pinned (OpenSpec.ofChange fnExactSoftModeSpec)

/-- ITS FALSE NEIGHBOUR: 'it returns false'. Refute it at one input. -/
def fnExactSoftModeWrong : ChangeSpec := { name := "fnExactSoftMode", fn := fun _ => fun
  | [d1, d2, d3, d4, d5, d6] => { results := [.lit (.bool false)], args := [d1, d2, d3, d4, d5, d6] }
  | _ => none }
def FnExactSoftModeWrongFalsely : Prop := fnExactSoftModeRow.holds Tryz.pinned (OpenSpec.ofChange fnExactSoftModeWrong)

/-- 'laws.FnExactNextMode': WHATEVER THE INPUT: true; the input reads as it did. -/
def fnExactNextModeSpec : ChangeSpec := { name := "fnExactNextMode", fn := fun _ => fun
  | [d1, d2, d3, d4, d5, d6] => { results := [.lit (.bool true)], args := [d1, d2, d3, d4, d5, d6] }
  | _ => none }
def fnExactNextModeRow : OpenClaim := { program := "ytabccmobmppdnaagreat", sum := "7104c3569a0d182a0637b695c84068a1e4ed862f64a859d4a0c22c9910bfd325", func := "loop.example/g01222/laws.FnExactNextMode", spec := "fnExactNextMode", inPlace := ["math.sqrt", "math.Float64bits", "math.Float64frombits"], unfollowed := true, recurses := true, plainKeys := false, apart := false }
def FnExactNextModeSaid : Prop := fnExactNextModeRow.holds Tryz.pinned (OpenSpec.ofChange fnExactNextModeSpec)

/-- ITS FALSE NEIGHBOUR: 'it returns false'. Refute it at one input. -/
def fnExactNextModeWrong : ChangeSpec := { name := "fnExactNextMode", fn := fun _ => fun
  | [d1, d2, d3, d4, d5, d6] => { results := [.lit (.bool false)], args := [d1, d2, d3, d4, d5, d6] }
  | _ => none }
def FnExactNextModeWrongFalsely : Prop := fnExactNextModeRow.holds Tryz.pinned (OpenSpec.ofChange fnExactNextModeWrong)

/-- 'laws.FnExactCanBuckle': WHATEVER THE INPUT: true; the input reads as it did. -/
def fnExactCanBuckleSpec : ChangeSpec := { name := "fnExactCanBuckle", fn := fun _ => fun
  | [d1, d2, d3, d4, d5, d6] => { results := [.lit (.bool true)], args := [d1, d2, d3, d4, d5, d6] }
  | _ => none }
def fnExactCanBuckleRow : OpenClaim := { program := "ytabccmobmppdnaagreat", sum := "7104c3569a0d182a0637b695c84068a1e4ed862f64a859d4a0c22c9910bfd325", func := "loop.example/g01222/laws.FnExactCanBuckle", spec := "fnExactCanBuckle", inPlace := ["math.sqrt", "math.Float64bits", "math.Float64frombits"], unfollowed := true, recurses := true, plainKeys := false, apart := false }
def FnExactCanBuckleSaid : Prop := fnExactCanBuckleRow.holds Tryz.pinned (OpenSpec.ofChange fnExactCanBuckleSpec)

/-- ITS FALSE NEIGHBOUR: 'it returns false'. Refute it at one input. -/
def fnExactCanBuckleWrong : ChangeSpec := { name := "fnExactCanBuckle", fn := fun _ => fun
  | [d1, d2, d3, d4, d5, d6] => { results := [.lit (.bool false)], args := [d1, d2, d3, d4, d5, d6] }
  | _ => none }
def FnExactCanBuckleWrongFalsely : Prop := fnExactCanBuckleRow.holds Tryz.pinned (OpenSpec.ofChange fnExactCanBuckleWrong)

/-- 'laws.FnExactEnergiesAlong': WHATEVER THE INPUT: true; the input reads as it did. -/
def fnExactEnergiesAlongSpec : ChangeSpec := { name := "fnExactEnergiesAlong", fn := fun _ => fun
  | [d1, d2, d3, d4] => { results := [.lit (.bool true)], args := [d1, d2, d3, d4] }
  | _ => none }
def fnExactEnergiesAlongRow : OpenClaim := { program := "ytabccmobmppdnaagreat", sum := "7104c3569a0d182a0637b695c84068a1e4ed862f64a859d4a0c22c9910bfd325", func := "loop.example/g01222/laws.FnExactEnergiesAlong", spec := "fnExactEnergiesAlong", inPlace := ["math.sqrt", "math.Float64bits", "math.Float64frombits"], unfollowed := true, recurses := true, plainKeys := false, apart := false }
def FnExactEnergiesAlongSaid : Prop := fnExactEnergiesAlongRow.holds Tryz.pinned (OpenSpec.ofChange fnExactEnergiesAlongSpec)

/-- ITS FALSE NEIGHBOUR: 'it returns false'. Refute it at one input. -/
def fnExactEnergiesAlongWrong : ChangeSpec := { name := "fnExactEnergiesAlong", fn := fun _ => fun
  | [d1, d2, d3, d4] => { results := [.lit (.bool false)], args := [d1, d2, d3, d4] }
  | _ => none }
def FnExactEnergiesAlongWrongFalsely : Prop := fnExactEnergiesAlongRow.holds Tryz.pinned (OpenSpec.ofChange fnExactEnergiesAlongWrong)

/-- 'laws.FnExactPushedBody': WHATEVER THE INPUT: true; the input reads as it did. -/
def fnExactPushedBodySpec : ChangeSpec := { name := "fnExactPushedBody", fn := fun _ => fun
  | [d1, d2, d3, d4] => { results := [.lit (.bool true)], args := [d1, d2, d3, d4] }
  | _ => none }
def fnExactPushedBodyRow : OpenClaim := { program := "ytabccmobmppdnaagreat", sum := "7104c3569a0d182a0637b695c84068a1e4ed862f64a859d4a0c22c9910bfd325", func := "loop.example/g01222/laws.FnExactPushedBody", spec := "fnExactPushedBody", inPlace := ["math.sqrt", "math.Float64bits", "math.Float64frombits"], unfollowed := true, recurses := true, plainKeys := false, apart := false }
def FnExactPushedBodySaid : Prop := fnExactPushedBodyRow.holds Tryz.pinned (OpenSpec.ofChange fnExactPushedBodySpec)

/-- ITS FALSE NEIGHBOUR: 'it returns false'. Refute it at one input. -/
def fnExactPushedBodyWrong : ChangeSpec := { name := "fnExactPushedBody", fn := fun _ => fun
  | [d1, d2, d3, d4] => { results := [.lit (.bool false)], args := [d1, d2, d3, d4] }
  | _ => none }
def FnExactPushedBodyWrongFalsely : Prop := fnExactPushedBodyRow.holds Tryz.pinned (OpenSpec.ofChange fnExactPushedBodyWrong)

/-- 'laws.FnExactSlopeAt': WHATEVER THE INPUT: true; the input reads as it did. -/
def fnExactSlopeAtSpec : ChangeSpec := { name := "fnExactSlopeAt", fn := fun _ => fun
  | [d1, d2, d3, d4] => { results := [.lit (.bool true)], args := [d1, d2, d3, d4] }
  | _ => none }
def fnExactSlopeAtRow : OpenClaim := { program := "ytabccmobmppdnaagreat", sum := "7104c3569a0d182a0637b695c84068a1e4ed862f64a859d4a0c22c9910bfd325", func := "loop.example/g01222/laws.FnExactSlopeAt", spec := "fnExactSlopeAt", inPlace := ["math.sqrt", "math.Float64bits", "math.Float64frombits"], unfollowed := true, recurses := true, plainKeys := false, apart := false }
def FnExactSlopeAtSaid : Prop := fnExactSlopeAtRow.holds Tryz.pinned (OpenSpec.ofChange fnExactSlopeAtSpec)

/-- ITS FALSE NEIGHBOUR: 'it returns false'. Refute it at one input. -/
def fnExactSlopeAtWrong : ChangeSpec := { name := "fnExactSlopeAt", fn := fun _ => fun
  | [d1, d2, d3, d4] => { results := [.lit (.bool false)], args := [d1, d2, d3, d4] }
  | _ => none }
def FnExactSlopeAtWrongFalsely : Prop := fnExactSlopeAtRow.holds Tryz.pinned (OpenSpec.ofChange fnExactSlopeAtWrong)

/-- 'laws.FnExactStepMotion': WHATEVER THE INPUT: true; the input reads as it did. -/
def fnExactStepMotionSpec : ChangeSpec := { name := "fnExactStepMotion", fn := fun _ => fun
  | [d1, d2, d3, d4, d5] => { results := [.lit (.bool true)], args := [d1, d2, d3, d4, d5] }
  | _ => none }
def fnExactStepMotionRow : OpenClaim := { program := "ytabccmobmppdnaagreat", sum := "7104c3569a0d182a0637b695c84068a1e4ed862f64a859d4a0c22c9910bfd325", func := "loop.example/g01222/laws.FnExactStepMotion", spec := "fnExactStepMotion", inPlace := ["math.sqrt", "math.Float64bits", "math.Float64frombits"], unfollowed := true, recurses := true, plainKeys := false, apart := false }
def FnExactStepMotionSaid : Prop := fnExactStepMotionRow.holds Tryz.pinned (OpenSpec.ofChange fnExactStepMotionSpec)

/-- ITS FALSE NEIGHBOUR: 'it returns false'. Refute it at one input. -/
def fnExactStepMotionWrong : ChangeSpec := { name := "fnExactStepMotion", fn := fun _ => fun
  | [d1, d2, d3, d4, d5] => { results := [.lit (.bool false)], args := [d1, d2, d3, d4, d5] }
  | _ => none }
def FnExactStepMotionWrongFalsely : Prop := fnExactStepMotionRow.holds Tryz.pinned (OpenSpec.ofChange fnExactStepMotionWrong)

/-- 'laws.FnExactRunMotion': WHATEVER THE INPUT: true; the input reads as it did. -/
def fnExactRunMotionSpec : ChangeSpec := { name := "fnExactRunMotion", fn := fun _ => fun
  | [d1, d2, d3, d4, d5, d6] => { results := [.lit (.bool true)], args := [d1, d2, d3, d4, d5, d6] }
  | _ => none }
def fnExactRunMotionRow : OpenClaim := { program := "ytabccmobmppdnaagreat", sum := "7104c3569a0d182a0637b695c84068a1e4ed862f64a859d4a0c22c9910bfd325", func := "loop.example/g01222/laws.FnExactRunMotion", spec := "fnExactRunMotion", inPlace := ["math.sqrt", "math.Float64bits", "math.Float64frombits"], unfollowed := true, recurses := true, plainKeys := false, apart := false }
def FnExactRunMotionSaid : Prop := fnExactRunMotionRow.holds Tryz.pinned (OpenSpec.ofChange fnExactRunMotionSpec)

/-- ITS FALSE NEIGHBOUR: 'it returns false'. Refute it at one input. -/
def fnExactRunMotionWrong : ChangeSpec := { name := "fnExactRunMotion", fn := fun _ => fun
  | [d1, d2, d3, d4, d5, d6] => { results := [.lit (.bool false)], args := [d1, d2, d3, d4, d5, d6] }
  | _ => none }
def FnExactRunMotionWrongFalsely : Prop := fnExactRunMotionRow.holds Tryz.pinned (OpenSpec.ofChange fnExactRunMotionWrong)

/-- 'laws.FnExactStepDown': WHATEVER THE INPUT: true; the input reads as it did. -/
def fnExactStepDownSpec : ChangeSpec := { name := "fnExactStepDown", fn := fun _ => fun
  | [d1, d2, d3] => { results := [.lit (.bool true)], args := [d1, d2, d3] }
  | _ => none }
def fnExactStepDownRow : OpenClaim := { program := "ytabccmobmppdnaagreat", sum := "7104c3569a0d182a0637b695c84068a1e4ed862f64a859d4a0c22c9910bfd325", func := "loop.example/g01222/laws.FnExactStepDown", spec := "fnExactStepDown", inPlace := ["math.sqrt", "math.Float64bits", "math.Float64frombits"], unfollowed := true, recurses := true, plainKeys := false, apart := false }
def FnExactStepDownSaid : Prop := fnExactStepDownRow.holds Tryz.pinned (OpenSpec.ofChange fnExactStepDownSpec)

/-- ITS FALSE NEIGHBOUR: 'it returns false'. Refute it at one input. -/
def fnExactStepDownWrong : ChangeSpec := { name := "fnExactStepDown", fn := fun _ => fun
  | [d1, d2, d3] => { results := [.lit (.bool false)], args := [d1, d2, d3] }
  | _ => none }
def FnExactStepDownWrongFalsely : Prop := fnExactStepDownRow.holds Tryz.pinned (OpenSpec.ofChange fnExactStepDownWrong)

/- THE SECOND FORM. 'bulk': how many values and letters a reading holds, each counted each time it is reached (what is shared counts as often as it is met; a slice's spare places count too). A statement '..UptoSaid' is the law's where the arguments, and the package variables that the reading takes, are together of bulk at most 1048576: NARROWER than '..Said'. Prove '..Said' where nothing that the law and all that it calls make is longer than what came in: it says more and counts as full. Else prove '..UptoSaid'. A law counts once. -/
mutual
def uptoBulk {H : Type} : DataW H → Nat
  | .lit (.string bytes) => bytes.length + 1
  | .lit _ => 1
  | .nil => 1
  | .ptr d => uptoBulk d + 1
  | .slice elems spare => uptoBulkAll elems + uptoBulkAll spare + 1
  | .agg parts => uptoBulkAll parts + 1
  | .iface _ d => uptoBulk d + 1
  | .map entries => uptoBulkEntries entries + 1
  | .held _ => 1
def uptoBulkAll {H : Type} : List (DataW H) → Nat
  | [] => 0
  | d :: r => uptoBulk d + uptoBulkAll r
def uptoBulkEntries {H : Type} : List (Lit × DataW H) → Nat
  | [] => 0
  | x :: r => uptoBulkEntry x + uptoBulkEntries r
def uptoBulkEntry {H : Type} : Lit × DataW H → Nat
  | (.string bytes, d) => bytes.length + uptoBulk d + 1
  | (_, d) => uptoBulk d + 1
 end
def uptoSmall : (H : Type) → List (DataW H) → Bool := fun _ ds => decide (uptoBulkAll ds ≤ 1048576)
def OpenSpec.upto (s : _root_.Go.ChangeSpec) : _root_.Go.OpenSpec := { _root_.Go.OpenSpec.ofChange s with cond := some uptoSmall }

/-- 'laws.FnExactStiffTimes', WHERE WHAT IT READS IS OF BULK AT MOST 1048576: true; the input reads as it did. -/
def fnExactStiffTimesUptoRow : OpenClaim := { program := "ytabccmobmppdnaagreat", sum := "7104c3569a0d182a0637b695c84068a1e4ed862f64a859d4a0c22c9910bfd325", func := "loop.example/g01222/laws.FnExactStiffTimes", spec := "fnExactStiffTimes", inPlace := ["math.sqrt", "math.Float64bits", "math.Float64frombits"], unfollowed := true, recurses := true, plainKeys := false, apart := false, narrowed := true }
def FnExactStiffTimesUptoSaid : Prop := fnExactStiffTimesUptoRow.holds Tryz.pinned (OpenSpec.upto fnExactStiffTimesSpec)

/-- 'laws.FnExactRayleighOf', WHERE WHAT IT READS IS OF BULK AT MOST 1048576: true; the input reads as it did. -/
def fnExactRayleighOfUptoRow : OpenClaim := { program := "ytabccmobmppdnaagreat", sum := "7104c3569a0d182a0637b695c84068a1e4ed862f64a859d4a0c22c9910bfd325", func := "loop.example/g01222/laws.FnExactRayleighOf", spec := "fnExactRayleighOf", inPlace := ["math.sqrt", "math.Float64bits", "math.Float64frombits"], unfollowed := true, recurses := true, plainKeys := false, apart := false, narrowed := true }
def FnExactRayleighOfUptoSaid : Prop := fnExactRayleighOfUptoRow.holds Tryz.pinned (OpenSpec.upto fnExactRayleighOfSpec)

/-- 'laws.FnExactGreatMode', WHERE WHAT IT READS IS OF BULK AT MOST 1048576: true; the input reads as it did. -/
def fnExactGreatModeUptoRow : OpenClaim := { program := "ytabccmobmppdnaagreat", sum := "7104c3569a0d182a0637b695c84068a1e4ed862f64a859d4a0c22c9910bfd325", func := "loop.example/g01222/laws.FnExactGreatMode", spec := "fnExactGreatMode", inPlace := ["math.sqrt", "math.Float64bits", "math.Float64frombits"], unfollowed := true, recurses := true, plainKeys := false, apart := false, narrowed := true }
def FnExactGreatModeUptoSaid : Prop := fnExactGreatModeUptoRow.holds Tryz.pinned (OpenSpec.upto fnExactGreatModeSpec)

/-- 'laws.FnExactSoftMode', WHERE WHAT IT READS IS OF BULK AT MOST 1048576: true; the input reads as it did. -/
def fnExactSoftModeUptoRow : OpenClaim := { program := "ytabccmobmppdnaagreat", sum := "7104c3569a0d182a0637b695c84068a1e4ed862f64a859d4a0c22c9910bfd325", func := "loop.example/g01222/laws.FnExactSoftMode", spec := "fnExactSoftMode", inPlace := ["math.sqrt", "math.Float64bits", "math.Float64frombits"], unfollowed := true, recurses := true, plainKeys := false, apart := false, narrowed := true }
def FnExactSoftModeUptoSaid : Prop := fnExactSoftModeUptoRow.holds Tryz.pinned (OpenSpec.upto fnExactSoftModeSpec)

/-- 'laws.FnExactNextMode', WHERE WHAT IT READS IS OF BULK AT MOST 1048576: true; the input reads as it did. -/
def fnExactNextModeUptoRow : OpenClaim := { program := "ytabccmobmppdnaagreat", sum := "7104c3569a0d182a0637b695c84068a1e4ed862f64a859d4a0c22c9910bfd325", func := "loop.example/g01222/laws.FnExactNextMode", spec := "fnExactNextMode", inPlace := ["math.sqrt", "math.Float64bits", "math.Float64frombits"], unfollowed := true, recurses := true, plainKeys := false, apart := false, narrowed := true }
def FnExactNextModeUptoSaid : Prop := fnExactNextModeUptoRow.holds Tryz.pinned (OpenSpec.upto fnExactNextModeSpec)

/-- 'laws.FnExactCanBuckle', WHERE WHAT IT READS IS OF BULK AT MOST 1048576: true; the input reads as it did. -/
def fnExactCanBuckleUptoRow : OpenClaim := { program := "ytabccmobmppdnaagreat", sum := "7104c3569a0d182a0637b695c84068a1e4ed862f64a859d4a0c22c9910bfd325", func := "loop.example/g01222/laws.FnExactCanBuckle", spec := "fnExactCanBuckle", inPlace := ["math.sqrt", "math.Float64bits", "math.Float64frombits"], unfollowed := true, recurses := true, plainKeys := false, apart := false, narrowed := true }
def FnExactCanBuckleUptoSaid : Prop := fnExactCanBuckleUptoRow.holds Tryz.pinned (OpenSpec.upto fnExactCanBuckleSpec)

/-- 'laws.FnExactEnergiesAlong', WHERE WHAT IT READS IS OF BULK AT MOST 1048576: true; the input reads as it did. -/
def fnExactEnergiesAlongUptoRow : OpenClaim := { program := "ytabccmobmppdnaagreat", sum := "7104c3569a0d182a0637b695c84068a1e4ed862f64a859d4a0c22c9910bfd325", func := "loop.example/g01222/laws.FnExactEnergiesAlong", spec := "fnExactEnergiesAlong", inPlace := ["math.sqrt", "math.Float64bits", "math.Float64frombits"], unfollowed := true, recurses := true, plainKeys := false, apart := false, narrowed := true }
def FnExactEnergiesAlongUptoSaid : Prop := fnExactEnergiesAlongUptoRow.holds Tryz.pinned (OpenSpec.upto fnExactEnergiesAlongSpec)

/-- 'laws.FnExactPushedBody', WHERE WHAT IT READS IS OF BULK AT MOST 1048576: true; the input reads as it did. -/
def fnExactPushedBodyUptoRow : OpenClaim := { program := "ytabccmobmppdnaagreat", sum := "7104c3569a0d182a0637b695c84068a1e4ed862f64a859d4a0c22c9910bfd325", func := "loop.example/g01222/laws.FnExactPushedBody", spec := "fnExactPushedBody", inPlace := ["math.sqrt", "math.Float64bits", "math.Float64frombits"], unfollowed := true, recurses := true, plainKeys := false, apart := false, narrowed := true }
def FnExactPushedBodyUptoSaid : Prop := fnExactPushedBodyUptoRow.holds Tryz.pinned (OpenSpec.upto fnExactPushedBodySpec)

/-- 'laws.FnExactSlopeAt', WHERE WHAT IT READS IS OF BULK AT MOST 1048576: true; the input reads as it did. -/
def fnExactSlopeAtUptoRow : OpenClaim := { program := "ytabccmobmppdnaagreat", sum := "7104c3569a0d182a0637b695c84068a1e4ed862f64a859d4a0c22c9910bfd325", func := "loop.example/g01222/laws.FnExactSlopeAt", spec := "fnExactSlopeAt", inPlace := ["math.sqrt", "math.Float64bits", "math.Float64frombits"], unfollowed := true, recurses := true, plainKeys := false, apart := false, narrowed := true }
def FnExactSlopeAtUptoSaid : Prop := fnExactSlopeAtUptoRow.holds Tryz.pinned (OpenSpec.upto fnExactSlopeAtSpec)

/-- 'laws.FnExactStepMotion', WHERE WHAT IT READS IS OF BULK AT MOST 1048576: true; the input reads as it did. -/
def fnExactStepMotionUptoRow : OpenClaim := { program := "ytabccmobmppdnaagreat", sum := "7104c3569a0d182a0637b695c84068a1e4ed862f64a859d4a0c22c9910bfd325", func := "loop.example/g01222/laws.FnExactStepMotion", spec := "fnExactStepMotion", inPlace := ["math.sqrt", "math.Float64bits", "math.Float64frombits"], unfollowed := true, recurses := true, plainKeys := false, apart := false, narrowed := true }
def FnExactStepMotionUptoSaid : Prop := fnExactStepMotionUptoRow.holds Tryz.pinned (OpenSpec.upto fnExactStepMotionSpec)

/-- 'laws.FnExactRunMotion', WHERE WHAT IT READS IS OF BULK AT MOST 1048576: true; the input reads as it did. -/
def fnExactRunMotionUptoRow : OpenClaim := { program := "ytabccmobmppdnaagreat", sum := "7104c3569a0d182a0637b695c84068a1e4ed862f64a859d4a0c22c9910bfd325", func := "loop.example/g01222/laws.FnExactRunMotion", spec := "fnExactRunMotion", inPlace := ["math.sqrt", "math.Float64bits", "math.Float64frombits"], unfollowed := true, recurses := true, plainKeys := false, apart := false, narrowed := true }
def FnExactRunMotionUptoSaid : Prop := fnExactRunMotionUptoRow.holds Tryz.pinned (OpenSpec.upto fnExactRunMotionSpec)

/-- 'laws.FnExactStepDown', WHERE WHAT IT READS IS OF BULK AT MOST 1048576: true; the input reads as it did. -/
def fnExactStepDownUptoRow : OpenClaim := { program := "ytabccmobmppdnaagreat", sum := "7104c3569a0d182a0637b695c84068a1e4ed862f64a859d4a0c22c9910bfd325", func := "loop.example/g01222/laws.FnExactStepDown", spec := "fnExactStepDown", inPlace := ["math.sqrt", "math.Float64bits", "math.Float64frombits"], unfollowed := true, recurses := true, plainKeys := false, apart := false, narrowed := true }
def FnExactStepDownUptoSaid : Prop := fnExactStepDownUptoRow.holds Tryz.pinned (OpenSpec.upto fnExactStepDownSpec)

end Rows
end Go.Proofs.YtabccmobmppdnaaGreat

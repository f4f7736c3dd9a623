/-
  No cell of these rows narrows 'for every input' (looked for: loops, veiled, ifaces, maps, wideKeys, modest, calm, conditions, laid).
  DERIVED. THE GIVEN ROWS OF THIS SEAT. 12 by the template 'for every input the law returns true; each argument reads behind the call as it read before'; 0 by the template 'total and deterministic' (their statements: YtljpjmkickkcpaaTotals.lean).
  GIVEN WITH THE SEED: the statements are not yours to turn. If you find one false, say at which input.
  Laid BY PROGRAM, IN A SANDBOX (cutbox-rows.mjs): the forced cells as the released guide's own fill.sh prints them over the translation 4d3b2b9081130527… (all of the seat's roots in one cut). By AI agents, Wed Nov 11 2026. No macro, syntax, notation, axiom, sorry.
-/
import Derived.Test.YtljpjmkickkcpaaChecked
import GoSem.Claim
import GoSem.ClaimJoined
import GoSem.ClaimMapViews
import Derived.JoinedTies
import Derived.KernelRfl
namespace Go.Proofs.Ytljpjmkickkcpaa
/- THE CELL 'sum', in the pinned program and in every row, IS THE sha256 OF THE DUMP (.gsa) THAT YtljpjmkickkcpaaProg.lean LOADS. Nothing in Lean hashes anything: it is a label: what it is worth is what the hold of that sum in a sandbox is worth. -/
noncomputable def Try.pinned : Pinned := { name := "ytljpjmkickkcpaa", sum := "4d3b2b908113052741f8ac0509d330306cc9483a14209444729662949f76d82c", checked := Try.checked }
namespace Rows
def none {H : Type} : Left H := { results := [], args := [] }

/-- 'laws.FnExactIsHold': WHATEVER THE INPUT: true; the input reads as it did. -/
def fnExactIsHoldSpec : ChangeSpec := { name := "fnExactIsHold", fn := fun _ => fun
  | [d] => { results := [.lit (.bool true)], args := [d] }
  | _ => none }
def fnExactIsHoldRow : OpenClaim := { program := "ytljpjmkickkcpaa", sum := "4d3b2b908113052741f8ac0509d330306cc9483a14209444729662949f76d82c", func := "loop.example/g01222/laws.FnExactIsHold", spec := "fnExactIsHold", inPlace := ["math.Float64bits", "math.Float64frombits"], apart := false }
def FnExactIsHoldSaid : Prop := fnExactIsHoldRow.holds Try.pinned (OpenSpec.ofChange fnExactIsHoldSpec)

/-- ITS FALSE NEIGHBOUR: 'it returns false'. Refute it at one input. -/
def fnExactIsHoldWrong : ChangeSpec := { name := "fnExactIsHold", fn := fun _ => fun
  | [d] => { results := [.lit (.bool false)], args := [d] }
  | _ => none }
def FnExactIsHoldWrongFalsely : Prop := fnExactIsHoldRow.holds Try.pinned (OpenSpec.ofChange fnExactIsHoldWrong)

/-- 'laws.FnExactAreHolds': WHATEVER THE INPUT: true; the input reads as it did. -/
def fnExactAreHoldsSpec : ChangeSpec := { name := "fnExactAreHolds", fn := fun _ => fun
  | [d1, d2] => { results := [.lit (.bool true)], args := [d1, d2] }
  | _ => none }
def fnExactAreHoldsRow : OpenClaim := { program := "ytljpjmkickkcpaa", sum := "4d3b2b908113052741f8ac0509d330306cc9483a14209444729662949f76d82c", func := "loop.example/g01222/laws.FnExactAreHolds", spec := "fnExactAreHolds", inPlace := ["math.Float64bits", "math.Float64frombits"], apart := false }
def FnExactAreHoldsSaid : Prop := fnExactAreHoldsRow.holds Try.pinned (OpenSpec.ofChange fnExactAreHoldsSpec)

/-- ITS FALSE NEIGHBOUR: 'it returns false'. Refute it at one input. -/
def fnExactAreHoldsWrong : ChangeSpec := { name := "fnExactAreHolds", fn := fun _ => fun
  | [d1, d2] => { results := [.lit (.bool false)], args := [d1, d2] }
  | _ => none }
def FnExactAreHoldsWrongFalsely : Prop := fnExactAreHoldsRow.holds Try.pinned (OpenSpec.ofChange fnExactAreHoldsWrong)

/-- 'laws.FnExactHoldForce': WHATEVER THE INPUT: true; the input reads as it did. -/
def fnExactHoldForceSpec : ChangeSpec := { name := "fnExactHoldForce", fn := fun _ => fun
  | [d1, d2] => { results := [.lit (.bool true)], args := [d1, d2] }
  | _ => none }
def fnExactHoldForceRow : OpenClaim := { program := "ytljpjmkickkcpaa", sum := "4d3b2b908113052741f8ac0509d330306cc9483a14209444729662949f76d82c", func := "loop.example/g01222/laws.FnExactHoldForce", spec := "fnExactHoldForce", inPlace := ["math.Float64bits", "math.Float64frombits"], unfollowed := true, recurses := true, apart := false }
def FnExactHoldForceSaid : Prop := fnExactHoldForceRow.holds Try.pinned (OpenSpec.ofChange fnExactHoldForceSpec)

/-- ITS FALSE NEIGHBOUR: 'it returns false'. Refute it at one input. -/
def fnExactHoldForceWrong : ChangeSpec := { name := "fnExactHoldForce", fn := fun _ => fun
  | [d1, d2] => { results := [.lit (.bool false)], args := [d1, d2] }
  | _ => none }
def FnExactHoldForceWrongFalsely : Prop := fnExactHoldForceRow.holds Try.pinned (OpenSpec.ofChange fnExactHoldForceWrong)

/-- 'laws.FnExactHoldPlace': WHATEVER THE INPUT: true; the input reads as it did. -/
def fnExactHoldPlaceSpec : ChangeSpec := { name := "fnExactHoldPlace", fn := fun _ => fun
  | [d1, d2] => { results := [.lit (.bool true)], args := [d1, d2] }
  | _ => none }
def fnExactHoldPlaceRow : OpenClaim := { program := "ytljpjmkickkcpaa", sum := "4d3b2b908113052741f8ac0509d330306cc9483a14209444729662949f76d82c", func := "loop.example/g01222/laws.FnExactHoldPlace", spec := "fnExactHoldPlace", inPlace := ["math.Float64bits", "math.Float64frombits"], apart := false }
def FnExactHoldPlaceSaid : Prop := fnExactHoldPlaceRow.holds Try.pinned (OpenSpec.ofChange fnExactHoldPlaceSpec)

/-- ITS FALSE NEIGHBOUR: 'it returns false'. Refute it at one input. -/
def fnExactHoldPlaceWrong : ChangeSpec := { name := "fnExactHoldPlace", fn := fun _ => fun
  | [d1, d2] => { results := [.lit (.bool false)], args := [d1, d2] }
  | _ => none }
def FnExactHoldPlaceWrongFalsely : Prop := fnExactHoldPlaceRow.holds Try.pinned (OpenSpec.ofChange fnExactHoldPlaceWrong)

/-- 'laws.FnExactHoldForces': WHATEVER THE INPUT: true; the input reads as it did. -/
def fnExactHoldForcesSpec : ChangeSpec := { name := "fnExactHoldForces", fn := fun _ => fun
  | [d1, d2, d3] => { results := [.lit (.bool true)], args := [d1, d2, d3] }
  | _ => none }
def fnExactHoldForcesRow : OpenClaim := { program := "ytljpjmkickkcpaa", sum := "4d3b2b908113052741f8ac0509d330306cc9483a14209444729662949f76d82c", func := "loop.example/g01222/laws.FnExactHoldForces", spec := "fnExactHoldForces", inPlace := ["math.Float64bits", "math.Float64frombits"], unfollowed := true, recurses := true, apart := false }
def FnExactHoldForcesSaid : Prop := fnExactHoldForcesRow.holds Try.pinned (OpenSpec.ofChange fnExactHoldForcesSpec)

/-- ITS FALSE NEIGHBOUR: 'it returns false'. Refute it at one input. -/
def fnExactHoldForcesWrong : ChangeSpec := { name := "fnExactHoldForces", fn := fun _ => fun
  | [d1, d2, d3] => { results := [.lit (.bool false)], args := [d1, d2, d3] }
  | _ => none }
def FnExactHoldForcesWrongFalsely : Prop := fnExactHoldForcesRow.holds Try.pinned (OpenSpec.ofChange fnExactHoldForcesWrong)

/-- 'laws.FnExactHoldMesh': WHATEVER THE INPUT: true; the input reads as it did. -/
def fnExactHoldMeshSpec : ChangeSpec := { name := "fnExactHoldMesh", fn := fun _ => fun
  | [d1, d2] => { results := [.lit (.bool true)], args := [d1, d2] }
  | _ => none }
def fnExactHoldMeshRow : OpenClaim := { program := "ytljpjmkickkcpaa", sum := "4d3b2b908113052741f8ac0509d330306cc9483a14209444729662949f76d82c", func := "loop.example/g01222/laws.FnExactHoldMesh", spec := "fnExactHoldMesh", inPlace := ["math.Float64bits", "math.Float64frombits"], apart := false }
def FnExactHoldMeshSaid : Prop := fnExactHoldMeshRow.holds Try.pinned (OpenSpec.ofChange fnExactHoldMeshSpec)

/-- ITS FALSE NEIGHBOUR: 'it returns false'. Refute it at one input. -/
def fnExactHoldMeshWrong : ChangeSpec := { name := "fnExactHoldMesh", fn := fun _ => fun
  | [d1, d2] => { results := [.lit (.bool false)], args := [d1, d2] }
  | _ => none }
def FnExactHoldMeshWrongFalsely : Prop := fnExactHoldMeshRow.holds Try.pinned (OpenSpec.ofChange fnExactHoldMeshWrong)

/-- 'laws.FnExactOffHolds': WHATEVER THE INPUT: true; the input reads as it did. -/
def fnExactOffHoldsSpec : ChangeSpec := { name := "fnExactOffHolds", fn := fun _ => fun
  | [d1, d2] => { results := [.lit (.bool true)], args := [d1, d2] }
  | _ => none }
def fnExactOffHoldsRow : OpenClaim := { program := "ytljpjmkickkcpaa", sum := "4d3b2b908113052741f8ac0509d330306cc9483a14209444729662949f76d82c", func := "loop.example/g01222/laws.FnExactOffHolds", spec := "fnExactOffHolds", inPlace := ["math.sqrt", "math.Float64bits", "math.Float64frombits"], apart := false }
def FnExactOffHoldsSaid : Prop := fnExactOffHoldsRow.holds Try.pinned (OpenSpec.ofChange fnExactOffHoldsSpec)

/-- ITS FALSE NEIGHBOUR: 'it returns false'. Refute it at one input. -/
def fnExactOffHoldsWrong : ChangeSpec := { name := "fnExactOffHolds", fn := fun _ => fun
  | [d1, d2] => { results := [.lit (.bool false)], args := [d1, d2] }
  | _ => none }
def FnExactOffHoldsWrongFalsely : Prop := fnExactOffHoldsRow.holds Try.pinned (OpenSpec.ofChange fnExactOffHoldsWrong)

/-- 'laws.FnExactFreePlaces': WHATEVER THE INPUT: true; the input reads as it did. -/
def fnExactFreePlacesSpec : ChangeSpec := { name := "fnExactFreePlaces", fn := fun _ => fun
  | [d1, d2] => { results := [.lit (.bool true)], args := [d1, d2] }
  | _ => none }
def fnExactFreePlacesRow : OpenClaim := { program := "ytljpjmkickkcpaa", sum := "4d3b2b908113052741f8ac0509d330306cc9483a14209444729662949f76d82c", func := "loop.example/g01222/laws.FnExactFreePlaces", spec := "fnExactFreePlaces", inPlace := ["math.Float64bits", "math.Float64frombits"], apart := false }
def FnExactFreePlacesSaid : Prop := fnExactFreePlacesRow.holds Try.pinned (OpenSpec.ofChange fnExactFreePlacesSpec)

/-- ITS FALSE NEIGHBOUR: 'it returns false'. Refute it at one input. -/
def fnExactFreePlacesWrong : ChangeSpec := { name := "fnExactFreePlaces", fn := fun _ => fun
  | [d1, d2] => { results := [.lit (.bool false)], args := [d1, d2] }
  | _ => none }
def FnExactFreePlacesWrongFalsely : Prop := fnExactFreePlacesRow.holds Try.pinned (OpenSpec.ofChange fnExactFreePlacesWrong)

/-- 'laws.FnExactPressureOf': WHATEVER THE INPUT: true; the input reads as it did. -/
def fnExactPressureOfSpec : ChangeSpec := { name := "fnExactPressureOf", fn := fun _ => fun
  | [d1, d2] => { results := [.lit (.bool true)], args := [d1, d2] }
  | _ => none }
def fnExactPressureOfRow : OpenClaim := { program := "ytljpjmkickkcpaa", sum := "4d3b2b908113052741f8ac0509d330306cc9483a14209444729662949f76d82c", func := "loop.example/g01222/laws.FnExactPressureOf", spec := "fnExactPressureOf", inPlace := ["math.Float64bits", "math.Float64frombits"], apart := false }
def FnExactPressureOfSaid : Prop := fnExactPressureOfRow.holds Try.pinned (OpenSpec.ofChange fnExactPressureOfSpec)

/-- ITS FALSE NEIGHBOUR: 'it returns false'. Refute it at one input. -/
def fnExactPressureOfWrong : ChangeSpec := { name := "fnExactPressureOf", fn := fun _ => fun
  | [d1, d2] => { results := [.lit (.bool false)], args := [d1, d2] }
  | _ => none }
def FnExactPressureOfWrongFalsely : Prop := fnExactPressureOfRow.holds Try.pinned (OpenSpec.ofChange fnExactPressureOfWrong)

/-- 'laws.FnExactNetForce': WHATEVER THE INPUT: true; the input reads as it did. -/
def fnExactNetForceSpec : ChangeSpec := { name := "fnExactNetForce", fn := fun _ => fun
  | [d] => { results := [.lit (.bool true)], args := [d] }
  | _ => none }
def fnExactNetForceRow : OpenClaim := { program := "ytljpjmkickkcpaa", sum := "4d3b2b908113052741f8ac0509d330306cc9483a14209444729662949f76d82c", func := "loop.example/g01222/laws.FnExactNetForce", spec := "fnExactNetForce", apart := false }
def FnExactNetForceSaid : Prop := fnExactNetForceRow.holds Try.pinned (OpenSpec.ofChange fnExactNetForceSpec)

/-- ITS FALSE NEIGHBOUR: 'it returns false'. Refute it at one input. -/
def fnExactNetForceWrong : ChangeSpec := { name := "fnExactNetForce", fn := fun _ => fun
  | [d] => { results := [.lit (.bool false)], args := [d] }
  | _ => none }
def FnExactNetForceWrongFalsely : Prop := fnExactNetForceRow.holds Try.pinned (OpenSpec.ofChange fnExactNetForceWrong)

/-- 'laws.FnExactTorqueOf': WHATEVER THE INPUT: true; the input reads as it did. -/
def fnExactTorqueOfSpec : ChangeSpec := { name := "fnExactTorqueOf", fn := fun _ => fun
  | [d1, d2] => { results := [.lit (.bool true)], args := [d1, d2] }
  | _ => none }
def fnExactTorqueOfRow : OpenClaim := { program := "ytljpjmkickkcpaa", sum := "4d3b2b908113052741f8ac0509d330306cc9483a14209444729662949f76d82c", func := "loop.example/g01222/laws.FnExactTorqueOf", spec := "fnExactTorqueOf", apart := false }
def FnExactTorqueOfSaid : Prop := fnExactTorqueOfRow.holds Try.pinned (OpenSpec.ofChange fnExactTorqueOfSpec)

/-- ITS FALSE NEIGHBOUR: 'it returns false'. Refute it at one input. -/
def fnExactTorqueOfWrong : ChangeSpec := { name := "fnExactTorqueOf", fn := fun _ => fun
  | [d1, d2] => { results := [.lit (.bool false)], args := [d1, d2] }
  | _ => none }
def FnExactTorqueOfWrongFalsely : Prop := fnExactTorqueOfRow.holds Try.pinned (OpenSpec.ofChange fnExactTorqueOfWrong)

/-- 'laws.FnExactGasForces': WHATEVER THE INPUT: true; the input reads as it did. -/
def fnExactGasForcesSpec : ChangeSpec := { name := "fnExactGasForces", fn := fun _ => fun
  | [d1, d2] => { results := [.lit (.bool true)], args := [d1, d2] }
  | _ => none }
def fnExactGasForcesRow : OpenClaim := { program := "ytljpjmkickkcpaa", sum := "4d3b2b908113052741f8ac0509d330306cc9483a14209444729662949f76d82c", func := "loop.example/g01222/laws.FnExactGasForces", spec := "fnExactGasForces", apart := false }
def FnExactGasForcesSaid : Prop := fnExactGasForcesRow.holds Try.pinned (OpenSpec.ofChange fnExactGasForcesSpec)

/-- ITS FALSE NEIGHBOUR: 'it returns false'. Refute it at one input. -/
def fnExactGasForcesWrong : ChangeSpec := { name := "fnExactGasForces", fn := fun _ => fun
  | [d1, d2] => { results := [.lit (.bool false)], args := [d1, d2] }
  | _ => none }
def FnExactGasForcesWrongFalsely : Prop := fnExactGasForcesRow.holds Try.pinned (OpenSpec.ofChange fnExactGasForcesWrong)

/- THE SECOND FORM. 'bulk': how many values and letters a reading holds, each counted each time it is reached (what is shared counts as often as it is met; a slice's spare places count too). A statement '..UptoSaid' is the law's where the arguments, and the package variables that the reading takes, are together of bulk at most 1048576: NARROWER than '..Said'. Prove '..Said' where nothing that the law and all that it calls make is longer than what came in: it says more and counts as full. Else prove '..UptoSaid'. A law counts once. -/
mutual
def uptoBulk {H : Type} : DataW H → Nat
  | .lit (.string bytes) => bytes.length + 1
  | .lit _ => 1
  | .nil => 1
  | .ptr d => uptoBulk d + 1
  | .slice elems spare => uptoBulkAll elems + uptoBulkAll spare + 1
  | .agg parts => uptoBulkAll parts + 1
  | .iface _ d => uptoBulk d + 1
  | .map entries => uptoBulkEntries entries + 1
  | .held _ => 1
def uptoBulkAll {H : Type} : List (DataW H) → Nat
  | [] => 0
  | d :: r => uptoBulk d + uptoBulkAll r
def uptoBulkEntries {H : Type} : List (Lit × DataW H) → Nat
  | [] => 0
  | x :: r => uptoBulkEntry x + uptoBulkEntries r
def uptoBulkEntry {H : Type} : Lit × DataW H → Nat
  | (.string bytes, d) => bytes.length + uptoBulk d + 1
  | (_, d) => uptoBulk d + 1
 end
def uptoSmall : (H : Type) → List (DataW H) → Bool := fun _ ds => decide (uptoBulkAll ds ≤ 1048576)
def OpenSpec.upto (s : _root_.Go.ChangeSpec) : _root_.Go.OpenSpec := { _root_.Go.OpenSpec.ofChange s with cond := some uptoSmall }

/-- 'laws.FnExactIsHold', WHERE WHAT IT READS IS OF BULK AT MOST 1048576: true; the input reads as it did. -/
def fnExactIsHoldUptoRow : OpenClaim := { program := "ytljpjmkickkcpaa", sum := "4d3b2b908113052741f8ac0509d330306cc9483a14209444729662949f76d82c", func := "loop.example/g01222/laws.FnExactIsHold", spec := "fnExactIsHold", inPlace := ["math.Float64bits", "math.Float64frombits"], apart := false, narrowed := true }
def FnExactIsHoldUptoSaid : Prop := fnExactIsHoldUptoRow.holds Try.pinned (OpenSpec.upto fnExactIsHoldSpec)

/-- 'laws.FnExactAreHolds', WHERE WHAT IT READS IS OF BULK AT MOST 1048576: true; the input reads as it did. -/
def fnExactAreHoldsUptoRow : OpenClaim := { program := "ytljpjmkickkcpaa", sum := "4d3b2b908113052741f8ac0509d330306cc9483a14209444729662949f76d82c", func := "loop.example/g01222/laws.FnExactAreHolds", spec := "fnExactAreHolds", inPlace := ["math.Float64bits", "math.Float64frombits"], apart := false, narrowed := true }
def FnExactAreHoldsUptoSaid : Prop := fnExactAreHoldsUptoRow.holds Try.pinned (OpenSpec.upto fnExactAreHoldsSpec)

/-- 'laws.FnExactHoldForce', WHERE WHAT IT READS IS OF BULK AT MOST 1048576: true; the input reads as it did. -/
def fnExactHoldForceUptoRow : OpenClaim := { program := "ytljpjmkickkcpaa", sum := "4d3b2b908113052741f8ac0509d330306cc9483a14209444729662949f76d82c", func := "loop.example/g01222/laws.FnExactHoldForce", spec := "fnExactHoldForce", inPlace := ["math.Float64bits", "math.Float64frombits"], unfollowed := true, recurses := true, apart := false, narrowed := true }
def FnExactHoldForceUptoSaid : Prop := fnExactHoldForceUptoRow.holds Try.pinned (OpenSpec.upto fnExactHoldForceSpec)

/-- 'laws.FnExactHoldPlace', WHERE WHAT IT READS IS OF BULK AT MOST 1048576: true; the input reads as it did. -/
def fnExactHoldPlaceUptoRow : OpenClaim := { program := "ytljpjmkickkcpaa", sum := "4d3b2b908113052741f8ac0509d330306cc9483a14209444729662949f76d82c", func := "loop.example/g01222/laws.FnExactHoldPlace", spec := "fnExactHoldPlace", inPlace := ["math.Float64bits", "math.Float64frombits"], apart := false, narrowed := true }
def FnExactHoldPlaceUptoSaid : Prop := fnExactHoldPlaceUptoRow.holds Try.pinned (OpenSpec.upto fnExactHoldPlaceSpec)

/-- 'laws.FnExactHoldForces', WHERE WHAT IT READS IS OF BULK AT MOST 1048576: true; the input reads as it did. -/
def fnExactHoldForcesUptoRow : OpenClaim := { program := "ytljpjmkickkcpaa", sum := "4d3b2b908113052741f8ac0509d330306cc9483a14209444729662949f76d82c", func := "loop.example/g01222/laws.FnExactHoldForces", spec := "fnExactHoldForces", inPlace := ["math.Float64bits", "math.Float64frombits"], unfollowed := true, recurses := true, apart := false, narrowed := true }
def FnExactHoldForcesUptoSaid : Prop := fnExactHoldForcesUptoRow.holds Try.pinned (OpenSpec.upto fnExactHoldForcesSpec)

/-- 'laws.FnExactHoldMesh', WHERE WHAT IT READS IS OF BULK AT MOST 1048576: true; the input reads as it did. -/
def fnExactHoldMeshUptoRow : OpenClaim := { program := "ytljpjmkickkcpaa", sum := "4d3b2b908113052741f8ac0509d330306cc9483a14209444729662949f76d82c", func := "loop.example/g01222/laws.FnExactHoldMesh", spec := "fnExactHoldMesh", inPlace := ["math.Float64bits", "math.Float64frombits"], apart := false, narrowed := true }
def FnExactHoldMeshUptoSaid : Prop := fnExactHoldMeshUptoRow.holds Try.pinned (OpenSpec.upto fnExactHoldMeshSpec)

/-- 'laws.FnExactOffHolds', WHERE WHAT IT READS IS OF BULK AT MOST 1048576: true; the input reads as it did. -/
def fnExactOffHoldsUptoRow : OpenClaim := { program := "ytljpjmkickkcpaa", sum := "4d3b2b908113052741f8ac0509d330306cc9483a14209444729662949f76d82c", func := "loop.example/g01222/laws.FnExactOffHolds", spec := "fnExactOffHolds", inPlace := ["math.sqrt", "math.Float64bits", "math.Float64frombits"], apart := false, narrowed := true }
def FnExactOffHoldsUptoSaid : Prop := fnExactOffHoldsUptoRow.holds Try.pinned (OpenSpec.upto fnExactOffHoldsSpec)

/-- 'laws.FnExactFreePlaces', WHERE WHAT IT READS IS OF BULK AT MOST 1048576: true; the input reads as it did. -/
def fnExactFreePlacesUptoRow : OpenClaim := { program := "ytljpjmkickkcpaa", sum := "4d3b2b908113052741f8ac0509d330306cc9483a14209444729662949f76d82c", func := "loop.example/g01222/laws.FnExactFreePlaces", spec := "fnExactFreePlaces", inPlace := ["math.Float64bits", "math.Float64frombits"], apart := false, narrowed := true }
def FnExactFreePlacesUptoSaid : Prop := fnExactFreePlacesUptoRow.holds Try.pinned (OpenSpec.upto fnExactFreePlacesSpec)

/-- 'laws.FnExactPressureOf', WHERE WHAT IT READS IS OF BULK AT MOST 1048576: true; the input reads as it did. -/
def fnExactPressureOfUptoRow : OpenClaim := { program := "ytljpjmkickkcpaa", sum := "4d3b2b908113052741f8ac0509d330306cc9483a14209444729662949f76d82c", func := "loop.example/g01222/laws.FnExactPressureOf", spec := "fnExactPressureOf", inPlace := ["math.Float64bits", "math.Float64frombits"], apart := false, narrowed := true }
def FnExactPressureOfUptoSaid : Prop := fnExactPressureOfUptoRow.holds Try.pinned (OpenSpec.upto fnExactPressureOfSpec)

/-- 'laws.FnExactNetForce', WHERE WHAT IT READS IS OF BULK AT MOST 1048576: true; the input reads as it did. -/
def fnExactNetForceUptoRow : OpenClaim := { program := "ytljpjmkickkcpaa", sum := "4d3b2b908113052741f8ac0509d330306cc9483a14209444729662949f76d82c", func := "loop.example/g01222/laws.FnExactNetForce", spec := "fnExactNetForce", apart := false, narrowed := true }
def FnExactNetForceUptoSaid : Prop := fnExactNetForceUptoRow.holds Try.pinned (OpenSpec.upto fnExactNetForceSpec)

/-- 'laws.FnExactTorqueOf', WHERE WHAT IT READS IS OF BULK AT MOST 1048576: true; the input reads as it did. -/
def fnExactTorqueOfUptoRow : OpenClaim := { program := "ytljpjmkickkcpaa", sum := "4d3b2b908113052741f8ac0509d330306cc9483a14209444729662949f76d82c", func := "loop.example/g01222/laws.FnExactTorqueOf", spec := "fnExactTorqueOf", apart := false, narrowed := true }
def FnExactTorqueOfUptoSaid : Prop := fnExactTorqueOfUptoRow.holds Try.pinned (OpenSpec.upto fnExactTorqueOfSpec)

/-- 'laws.FnExactGasForces', WHERE WHAT IT READS IS OF BULK AT MOST 1048576: true; the input reads as it did. -/
def fnExactGasForcesUptoRow : OpenClaim := { program := "ytljpjmkickkcpaa", sum := "4d3b2b908113052741f8ac0509d330306cc9483a14209444729662949f76d82c", func := "loop.example/g01222/laws.FnExactGasForces", spec := "fnExactGasForces", apart := false, narrowed := true }
def FnExactGasForcesUptoSaid : Prop := fnExactGasForcesUptoRow.holds Try.pinned (OpenSpec.upto fnExactGasForcesSpec)

end Rows
end Go.Proofs.Ytljpjmkickkcpaa

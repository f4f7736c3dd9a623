/-
  No cell of these rows narrows 'for every input' (looked for: loops, veiled, ifaces, maps, wideKeys, modest, calm, conditions, laid).
  DERIVED. THE GIVEN ROWS OF THIS SEAT. 12 by the template 'for every input the law returns true; each argument reads behind the call as it read before'; 0 by the template 'total and deterministic' (their statements: YtajglpkeojaelaaTotals.lean).
  GIVEN WITH THE SEED: the statements are not yours to turn. If you find one false, say at which input.
  Laid BY PROGRAM, IN A SANDBOX (cutbox-rows.mjs): the forced cells as the released guide's own fill.sh prints them over the translation 20b6cfe9db0544a6… (all of the seat's roots in one cut). By AI agents, Wed Nov 11 2026. No macro, syntax, notation, axiom, sorry.
-/
import Derived.Test.YtajglpkeojaelaaChecked
import GoSem.Claim
import GoSem.ClaimJoined
import GoSem.ClaimMapViews
import Derived.JoinedTies
import Derived.KernelRfl
namespace Go.Proofs.Ytajglpkeojaelaa
/- THE CELL 'sum', in the pinned program and in every row, IS THE sha256 OF THE DUMP (.gsa) THAT YtajglpkeojaelaaProg.lean LOADS. Nothing in Lean hashes anything: it is a label: what it is worth is what the hold of that sum in a sandbox is worth. -/
noncomputable def Try.pinned : Pinned := { name := "ytajglpkeojaelaa", sum := "20b6cfe9db0544a6c28c227716e3c2423f1aef0086b97260d700d7fca26a1b73", checked := Try.checked }
namespace Rows
def none {H : Type} : Left H := { results := [], args := [] }

/-- 'laws.FnExactIsHeld': WHATEVER THE INPUT: true; the input reads as it did. -/
def fnExactIsHeldSpec : ChangeSpec := { name := "fnExactIsHeld", fn := fun _ => fun
  | [d1, d2] => { results := [.lit (.bool true)], args := [d1, d2] }
  | _ => none }
def fnExactIsHeldRow : OpenClaim := { program := "ytajglpkeojaelaa", sum := "20b6cfe9db0544a6c28c227716e3c2423f1aef0086b97260d700d7fca26a1b73", func := "loop.example/g01222/laws.FnExactIsHeld", spec := "fnExactIsHeld", apart := false }
def FnExactIsHeldSaid : Prop := fnExactIsHeldRow.holds Try.pinned (OpenSpec.ofChange fnExactIsHeldSpec)

/-- ITS FALSE NEIGHBOUR: 'it returns false'. Refute it at one input. -/
def fnExactIsHeldWrong : ChangeSpec := { name := "fnExactIsHeld", fn := fun _ => fun
  | [d1, d2] => { results := [.lit (.bool false)], args := [d1, d2] }
  | _ => none }
def FnExactIsHeldWrongFalsely : Prop := fnExactIsHeldRow.holds Try.pinned (OpenSpec.ofChange fnExactIsHeldWrong)

/-- 'laws.FnExactInnerAll': WHATEVER THE INPUT: true; the input reads as it did. -/
def fnExactInnerAllSpec : ChangeSpec := { name := "fnExactInnerAll", fn := fun _ => fun
  | [d1, d2] => { results := [.lit (.bool true)], args := [d1, d2] }
  | _ => none }
def fnExactInnerAllRow : OpenClaim := { program := "ytajglpkeojaelaa", sum := "20b6cfe9db0544a6c28c227716e3c2423f1aef0086b97260d700d7fca26a1b73", func := "loop.example/g01222/laws.FnExactInnerAll", spec := "fnExactInnerAll", apart := false }
def FnExactInnerAllSaid : Prop := fnExactInnerAllRow.holds Try.pinned (OpenSpec.ofChange fnExactInnerAllSpec)

/-- ITS FALSE NEIGHBOUR: 'it returns false'. Refute it at one input. -/
def fnExactInnerAllWrong : ChangeSpec := { name := "fnExactInnerAll", fn := fun _ => fun
  | [d1, d2] => { results := [.lit (.bool false)], args := [d1, d2] }
  | _ => none }
def FnExactInnerAllWrongFalsely : Prop := fnExactInnerAllRow.holds Try.pinned (OpenSpec.ofChange fnExactInnerAllWrong)

/-- 'laws.FnExactValidMotion': WHATEVER THE INPUT: true; the input reads as it did. -/
def fnExactValidMotionSpec : ChangeSpec := { name := "fnExactValidMotion", fn := fun _ => fun
  | [d] => { results := [.lit (.bool true)], args := [d] }
  | _ => none }
def fnExactValidMotionRow : OpenClaim := { program := "ytajglpkeojaelaa", sum := "20b6cfe9db0544a6c28c227716e3c2423f1aef0086b97260d700d7fca26a1b73", func := "loop.example/g01222/laws.FnExactValidMotion", spec := "fnExactValidMotion", apart := false }
def FnExactValidMotionSaid : Prop := fnExactValidMotionRow.holds Try.pinned (OpenSpec.ofChange fnExactValidMotionSpec)

/-- ITS FALSE NEIGHBOUR: 'it returns false'. Refute it at one input. -/
def fnExactValidMotionWrong : ChangeSpec := { name := "fnExactValidMotion", fn := fun _ => fun
  | [d] => { results := [.lit (.bool false)], args := [d] }
  | _ => none }
def FnExactValidMotionWrongFalsely : Prop := fnExactValidMotionRow.holds Try.pinned (OpenSpec.ofChange fnExactValidMotionWrong)

/-- 'laws.FnExactSpeedEnergy': WHATEVER THE INPUT: true; the input reads as it did. -/
def fnExactSpeedEnergySpec : ChangeSpec := { name := "fnExactSpeedEnergy", fn := fun _ => fun
  | [d1, d2] => { results := [.lit (.bool true)], args := [d1, d2] }
  | _ => none }
def fnExactSpeedEnergyRow : OpenClaim := { program := "ytajglpkeojaelaa", sum := "20b6cfe9db0544a6c28c227716e3c2423f1aef0086b97260d700d7fca26a1b73", func := "loop.example/g01222/laws.FnExactSpeedEnergy", spec := "fnExactSpeedEnergy", inPlace := ["math.Float64bits", "math.Float64frombits"], apart := false }
def FnExactSpeedEnergySaid : Prop := fnExactSpeedEnergyRow.holds Try.pinned (OpenSpec.ofChange fnExactSpeedEnergySpec)

/-- ITS FALSE NEIGHBOUR: 'it returns false'. Refute it at one input. -/
def fnExactSpeedEnergyWrong : ChangeSpec := { name := "fnExactSpeedEnergy", fn := fun _ => fun
  | [d1, d2] => { results := [.lit (.bool false)], args := [d1, d2] }
  | _ => none }
def FnExactSpeedEnergyWrongFalsely : Prop := fnExactSpeedEnergyRow.holds Try.pinned (OpenSpec.ofChange fnExactSpeedEnergyWrong)

/-- 'laws.FnExactAreHolds': WHATEVER THE INPUT: true; the input reads as it did. -/
def fnExactAreHoldsSpec : ChangeSpec := { name := "fnExactAreHolds", fn := fun _ => fun
  | [d1, d2] => { results := [.lit (.bool true)], args := [d1, d2] }
  | _ => none }
def fnExactAreHoldsRow : OpenClaim := { program := "ytajglpkeojaelaa", sum := "20b6cfe9db0544a6c28c227716e3c2423f1aef0086b97260d700d7fca26a1b73", func := "loop.example/g01222/laws.FnExactAreHolds", spec := "fnExactAreHolds", inPlace := ["math.Float64bits", "math.Float64frombits"], apart := false }
def FnExactAreHoldsSaid : Prop := fnExactAreHoldsRow.holds Try.pinned (OpenSpec.ofChange fnExactAreHoldsSpec)

/-- ITS FALSE NEIGHBOUR: 'it returns false'. Refute it at one input. -/
def fnExactAreHoldsWrong : ChangeSpec := { name := "fnExactAreHolds", fn := fun _ => fun
  | [d1, d2] => { results := [.lit (.bool false)], args := [d1, d2] }
  | _ => none }
def FnExactAreHoldsWrongFalsely : Prop := fnExactAreHoldsRow.holds Try.pinned (OpenSpec.ofChange fnExactAreHoldsWrong)

/-- 'laws.FnExactHoldForces': WHATEVER THE INPUT: true; the input reads as it did. -/
def fnExactHoldForcesSpec : ChangeSpec := { name := "fnExactHoldForces", fn := fun _ => fun
  | [d1, d2, d3] => { results := [.lit (.bool true)], args := [d1, d2, d3] }
  | _ => none }
def fnExactHoldForcesRow : OpenClaim := { program := "ytajglpkeojaelaa", sum := "20b6cfe9db0544a6c28c227716e3c2423f1aef0086b97260d700d7fca26a1b73", func := "loop.example/g01222/laws.FnExactHoldForces", spec := "fnExactHoldForces", inPlace := ["math.Float64bits", "math.Float64frombits"], unfollowed := true, recurses := true, apart := false }
def FnExactHoldForcesSaid : Prop := fnExactHoldForcesRow.holds Try.pinned (OpenSpec.ofChange fnExactHoldForcesSpec)

/-- ITS FALSE NEIGHBOUR: 'it returns false'. Refute it at one input. -/
def fnExactHoldForcesWrong : ChangeSpec := { name := "fnExactHoldForces", fn := fun _ => fun
  | [d1, d2, d3] => { results := [.lit (.bool false)], args := [d1, d2, d3] }
  | _ => none }
def FnExactHoldForcesWrongFalsely : Prop := fnExactHoldForcesRow.holds Try.pinned (OpenSpec.ofChange fnExactHoldForcesWrong)

/-- 'laws.FnExactFreePlaces': WHATEVER THE INPUT: true; the input reads as it did. -/
def fnExactFreePlacesSpec : ChangeSpec := { name := "fnExactFreePlaces", fn := fun _ => fun
  | [d1, d2] => { results := [.lit (.bool true)], args := [d1, d2] }
  | _ => none }
def fnExactFreePlacesRow : OpenClaim := { program := "ytajglpkeojaelaa", sum := "20b6cfe9db0544a6c28c227716e3c2423f1aef0086b97260d700d7fca26a1b73", func := "loop.example/g01222/laws.FnExactFreePlaces", spec := "fnExactFreePlaces", inPlace := ["math.Float64bits", "math.Float64frombits"], apart := false }
def FnExactFreePlacesSaid : Prop := fnExactFreePlacesRow.holds Try.pinned (OpenSpec.ofChange fnExactFreePlacesSpec)

/-- ITS FALSE NEIGHBOUR: 'it returns false'. Refute it at one input. -/
def fnExactFreePlacesWrong : ChangeSpec := { name := "fnExactFreePlaces", fn := fun _ => fun
  | [d1, d2] => { results := [.lit (.bool false)], args := [d1, d2] }
  | _ => none }
def FnExactFreePlacesWrongFalsely : Prop := fnExactFreePlacesRow.holds Try.pinned (OpenSpec.ofChange fnExactFreePlacesWrong)

/-- 'laws.FnExactOffHolds': WHATEVER THE INPUT: true; the input reads as it did. -/
def fnExactOffHoldsSpec : ChangeSpec := { name := "fnExactOffHolds", fn := fun _ => fun
  | [d1, d2] => { results := [.lit (.bool true)], args := [d1, d2] }
  | _ => none }
def fnExactOffHoldsRow : OpenClaim := { program := "ytajglpkeojaelaa", sum := "20b6cfe9db0544a6c28c227716e3c2423f1aef0086b97260d700d7fca26a1b73", func := "loop.example/g01222/laws.FnExactOffHolds", spec := "fnExactOffHolds", inPlace := ["math.sqrt", "math.Float64bits", "math.Float64frombits"], apart := false }
def FnExactOffHoldsSaid : Prop := fnExactOffHoldsRow.holds Try.pinned (OpenSpec.ofChange fnExactOffHoldsSpec)

/-- ITS FALSE NEIGHBOUR: 'it returns false'. Refute it at one input. -/
def fnExactOffHoldsWrong : ChangeSpec := { name := "fnExactOffHolds", fn := fun _ => fun
  | [d1, d2] => { results := [.lit (.bool false)], args := [d1, d2] }
  | _ => none }
def FnExactOffHoldsWrongFalsely : Prop := fnExactOffHoldsRow.holds Try.pinned (OpenSpec.ofChange fnExactOffHoldsWrong)

/-- 'laws.FnExactPullOf': WHATEVER THE INPUT: true; the input reads as it did. -/
def fnExactPullOfSpec : ChangeSpec := { name := "fnExactPullOf", fn := fun _ => fun
  | [d1, d2] => { results := [.lit (.bool true)], args := [d1, d2] }
  | _ => none }
def fnExactPullOfRow : OpenClaim := { program := "ytajglpkeojaelaa", sum := "20b6cfe9db0544a6c28c227716e3c2423f1aef0086b97260d700d7fca26a1b73", func := "loop.example/g01222/laws.FnExactPullOf", spec := "fnExactPullOf", inPlace := ["math.sqrt"], apart := false }
def FnExactPullOfSaid : Prop := fnExactPullOfRow.holds Try.pinned (OpenSpec.ofChange fnExactPullOfSpec)

/-- ITS FALSE NEIGHBOUR: 'it returns false'. Refute it at one input. -/
def fnExactPullOfWrong : ChangeSpec := { name := "fnExactPullOf", fn := fun _ => fun
  | [d1, d2] => { results := [.lit (.bool false)], args := [d1, d2] }
  | _ => none }
def FnExactPullOfWrongFalsely : Prop := fnExactPullOfRow.holds Try.pinned (OpenSpec.ofChange fnExactPullOfWrong)

/-- 'laws.FnExactHoldMesh': WHATEVER THE INPUT: true; the input reads as it did. -/
def fnExactHoldMeshSpec : ChangeSpec := { name := "fnExactHoldMesh", fn := fun _ => fun
  | [d1, d2] => { results := [.lit (.bool true)], args := [d1, d2] }
  | _ => none }
def fnExactHoldMeshRow : OpenClaim := { program := "ytajglpkeojaelaa", sum := "20b6cfe9db0544a6c28c227716e3c2423f1aef0086b97260d700d7fca26a1b73", func := "loop.example/g01222/laws.FnExactHoldMesh", spec := "fnExactHoldMesh", inPlace := ["math.Float64bits", "math.Float64frombits"], apart := false }
def FnExactHoldMeshSaid : Prop := fnExactHoldMeshRow.holds Try.pinned (OpenSpec.ofChange fnExactHoldMeshSpec)

/-- ITS FALSE NEIGHBOUR: 'it returns false'. Refute it at one input. -/
def fnExactHoldMeshWrong : ChangeSpec := { name := "fnExactHoldMesh", fn := fun _ => fun
  | [d1, d2] => { results := [.lit (.bool false)], args := [d1, d2] }
  | _ => none }
def FnExactHoldMeshWrongFalsely : Prop := fnExactHoldMeshRow.holds Try.pinned (OpenSpec.ofChange fnExactHoldMeshWrong)

/-- 'laws.FnExactKeepVolume': WHATEVER THE INPUT: true; the input reads as it did. -/
def fnExactKeepVolumeSpec : ChangeSpec := { name := "fnExactKeepVolume", fn := fun _ => fun
  | [d1, d2] => { results := [.lit (.bool true)], args := [d1, d2] }
  | _ => none }
def fnExactKeepVolumeRow : OpenClaim := { program := "ytajglpkeojaelaa", sum := "20b6cfe9db0544a6c28c227716e3c2423f1aef0086b97260d700d7fca26a1b73", func := "loop.example/g01222/laws.FnExactKeepVolume", spec := "fnExactKeepVolume", inPlace := ["math.Float64frombits", "math.Float64bits"], unfollowed := true, recurses := true, apart := false }
def FnExactKeepVolumeSaid : Prop := fnExactKeepVolumeRow.holds Try.pinned (OpenSpec.ofChange fnExactKeepVolumeSpec)

/-- ITS FALSE NEIGHBOUR: 'it returns false'. Refute it at one input. -/
def fnExactKeepVolumeWrong : ChangeSpec := { name := "fnExactKeepVolume", fn := fun _ => fun
  | [d1, d2] => { results := [.lit (.bool false)], args := [d1, d2] }
  | _ => none }
def FnExactKeepVolumeWrongFalsely : Prop := fnExactKeepVolumeRow.holds Try.pinned (OpenSpec.ofChange fnExactKeepVolumeWrong)

/-- 'laws.FnExactJoinMeshes': WHATEVER THE INPUT: true; the input reads as it did. -/
def fnExactJoinMeshesSpec : ChangeSpec := { name := "fnExactJoinMeshes", fn := fun _ => fun
  | [d1, d2] => { results := [.lit (.bool true)], args := [d1, d2] }
  | _ => none }
def fnExactJoinMeshesRow : OpenClaim := { program := "ytajglpkeojaelaa", sum := "20b6cfe9db0544a6c28c227716e3c2423f1aef0086b97260d700d7fca26a1b73", func := "loop.example/g01222/laws.FnExactJoinMeshes", spec := "fnExactJoinMeshes", apart := false }
def FnExactJoinMeshesSaid : Prop := fnExactJoinMeshesRow.holds Try.pinned (OpenSpec.ofChange fnExactJoinMeshesSpec)

/-- ITS FALSE NEIGHBOUR: 'it returns false'. Refute it at one input. -/
def fnExactJoinMeshesWrong : ChangeSpec := { name := "fnExactJoinMeshes", fn := fun _ => fun
  | [d1, d2] => { results := [.lit (.bool false)], args := [d1, d2] }
  | _ => none }
def FnExactJoinMeshesWrongFalsely : Prop := fnExactJoinMeshesRow.holds Try.pinned (OpenSpec.ofChange fnExactJoinMeshesWrong)

/- THE SECOND FORM. 'bulk': how many values and letters a reading holds, each counted each time it is reached (what is shared counts as often as it is met; a slice's spare places count too). A statement '..UptoSaid' is the law's where the arguments, and the package variables that the reading takes, are together of bulk at most 1048576: NARROWER than '..Said'. Prove '..Said' where nothing that the law and all that it calls make is longer than what came in: it says more and counts as full. Else prove '..UptoSaid'. A law counts once. -/
mutual
def uptoBulk {H : Type} : DataW H → Nat
  | .lit (.string bytes) => bytes.length + 1
  | .lit _ => 1
  | .nil => 1
  | .ptr d => uptoBulk d + 1
  | .slice elems spare => uptoBulkAll elems + uptoBulkAll spare + 1
  | .agg parts => uptoBulkAll parts + 1
  | .iface _ d => uptoBulk d + 1
  | .map entries => uptoBulkEntries entries + 1
  | .held _ => 1
def uptoBulkAll {H : Type} : List (DataW H) → Nat
  | [] => 0
  | d :: r => uptoBulk d + uptoBulkAll r
def uptoBulkEntries {H : Type} : List (Lit × DataW H) → Nat
  | [] => 0
  | x :: r => uptoBulkEntry x + uptoBulkEntries r
def uptoBulkEntry {H : Type} : Lit × DataW H → Nat
  | (.string bytes, d) => bytes.length + uptoBulk d + 1
  | (_, d) => uptoBulk d + 1
 end
def uptoSmall : (H : Type) → List (DataW H) → Bool := fun _ ds => decide (uptoBulkAll ds ≤ 1048576)
def OpenSpec.upto (s : _root_.Go.ChangeSpec) : _root_.Go.OpenSpec := { _root_.Go.OpenSpec.ofChange s with cond := some uptoSmall }

/-- 'laws.FnExactIsHeld', WHERE WHAT IT READS IS OF BULK AT MOST 1048576: true; the input reads as it did. -/
def fnExactIsHeldUptoRow : OpenClaim := { program := "ytajglpkeojaelaa", sum := "20b6cfe9db0544a6c28c227716e3c2423f1aef0086b97260d700d7fca26a1b73", func := "loop.example/g01222/laws.FnExactIsHeld", spec := "fnExactIsHeld", apart := false, narrowed := true }
def FnExactIsHeldUptoSaid : Prop := fnExactIsHeldUptoRow.holds Try.pinned (OpenSpec.upto fnExactIsHeldSpec)

/-- 'laws.FnExactInnerAll', WHERE WHAT IT READS IS OF BULK AT MOST 1048576: true; the input reads as it did. -/
def fnExactInnerAllUptoRow : OpenClaim := { program := "ytajglpkeojaelaa", sum := "20b6cfe9db0544a6c28c227716e3c2423f1aef0086b97260d700d7fca26a1b73", func := "loop.example/g01222/laws.FnExactInnerAll", spec := "fnExactInnerAll", apart := false, narrowed := true }
def FnExactInnerAllUptoSaid : Prop := fnExactInnerAllUptoRow.holds Try.pinned (OpenSpec.upto fnExactInnerAllSpec)

/-- 'laws.FnExactValidMotion', WHERE WHAT IT READS IS OF BULK AT MOST 1048576: true; the input reads as it did. -/
def fnExactValidMotionUptoRow : OpenClaim := { program := "ytajglpkeojaelaa", sum := "20b6cfe9db0544a6c28c227716e3c2423f1aef0086b97260d700d7fca26a1b73", func := "loop.example/g01222/laws.FnExactValidMotion", spec := "fnExactValidMotion", apart := false, narrowed := true }
def FnExactValidMotionUptoSaid : Prop := fnExactValidMotionUptoRow.holds Try.pinned (OpenSpec.upto fnExactValidMotionSpec)

/-- 'laws.FnExactSpeedEnergy', WHERE WHAT IT READS IS OF BULK AT MOST 1048576: true; the input reads as it did. -/
def fnExactSpeedEnergyUptoRow : OpenClaim := { program := "ytajglpkeojaelaa", sum := "20b6cfe9db0544a6c28c227716e3c2423f1aef0086b97260d700d7fca26a1b73", func := "loop.example/g01222/laws.FnExactSpeedEnergy", spec := "fnExactSpeedEnergy", inPlace := ["math.Float64bits", "math.Float64frombits"], apart := false, narrowed := true }
def FnExactSpeedEnergyUptoSaid : Prop := fnExactSpeedEnergyUptoRow.holds Try.pinned (OpenSpec.upto fnExactSpeedEnergySpec)

/-- 'laws.FnExactAreHolds', WHERE WHAT IT READS IS OF BULK AT MOST 1048576: true; the input reads as it did. -/
def fnExactAreHoldsUptoRow : OpenClaim := { program := "ytajglpkeojaelaa", sum := "20b6cfe9db0544a6c28c227716e3c2423f1aef0086b97260d700d7fca26a1b73", func := "loop.example/g01222/laws.FnExactAreHolds", spec := "fnExactAreHolds", inPlace := ["math.Float64bits", "math.Float64frombits"], apart := false, narrowed := true }
def FnExactAreHoldsUptoSaid : Prop := fnExactAreHoldsUptoRow.holds Try.pinned (OpenSpec.upto fnExactAreHoldsSpec)

/-- 'laws.FnExactHoldForces', WHERE WHAT IT READS IS OF BULK AT MOST 1048576: true; the input reads as it did. -/
def fnExactHoldForcesUptoRow : OpenClaim := { program := "ytajglpkeojaelaa", sum := "20b6cfe9db0544a6c28c227716e3c2423f1aef0086b97260d700d7fca26a1b73", func := "loop.example/g01222/laws.FnExactHoldForces", spec := "fnExactHoldForces", inPlace := ["math.Float64bits", "math.Float64frombits"], unfollowed := true, recurses := true, apart := false, narrowed := true }
def FnExactHoldForcesUptoSaid : Prop := fnExactHoldForcesUptoRow.holds Try.pinned (OpenSpec.upto fnExactHoldForcesSpec)

/-- 'laws.FnExactFreePlaces', WHERE WHAT IT READS IS OF BULK AT MOST 1048576: true; the input reads as it did. -/
def fnExactFreePlacesUptoRow : OpenClaim := { program := "ytajglpkeojaelaa", sum := "20b6cfe9db0544a6c28c227716e3c2423f1aef0086b97260d700d7fca26a1b73", func := "loop.example/g01222/laws.FnExactFreePlaces", spec := "fnExactFreePlaces", inPlace := ["math.Float64bits", "math.Float64frombits"], apart := false, narrowed := true }
def FnExactFreePlacesUptoSaid : Prop := fnExactFreePlacesUptoRow.holds Try.pinned (OpenSpec.upto fnExactFreePlacesSpec)

/-- 'laws.FnExactOffHolds', WHERE WHAT IT READS IS OF BULK AT MOST 1048576: true; the input reads as it did. -/
def fnExactOffHoldsUptoRow : OpenClaim := { program := "ytajglpkeojaelaa", sum := "20b6cfe9db0544a6c28c227716e3c2423f1aef0086b97260d700d7fca26a1b73", func := "loop.example/g01222/laws.FnExactOffHolds", spec := "fnExactOffHolds", inPlace := ["math.sqrt", "math.Float64bits", "math.Float64frombits"], apart := false, narrowed := true }
def FnExactOffHoldsUptoSaid : Prop := fnExactOffHoldsUptoRow.holds Try.pinned (OpenSpec.upto fnExactOffHoldsSpec)

/-- 'laws.FnExactPullOf', WHERE WHAT IT READS IS OF BULK AT MOST 1048576: true; the input reads as it did. -/
def fnExactPullOfUptoRow : OpenClaim := { program := "ytajglpkeojaelaa", sum := "20b6cfe9db0544a6c28c227716e3c2423f1aef0086b97260d700d7fca26a1b73", func := "loop.example/g01222/laws.FnExactPullOf", spec := "fnExactPullOf", inPlace := ["math.sqrt"], apart := false, narrowed := true }
def FnExactPullOfUptoSaid : Prop := fnExactPullOfUptoRow.holds Try.pinned (OpenSpec.upto fnExactPullOfSpec)

/-- 'laws.FnExactHoldMesh', WHERE WHAT IT READS IS OF BULK AT MOST 1048576: true; the input reads as it did. -/
def fnExactHoldMeshUptoRow : OpenClaim := { program := "ytajglpkeojaelaa", sum := "20b6cfe9db0544a6c28c227716e3c2423f1aef0086b97260d700d7fca26a1b73", func := "loop.example/g01222/laws.FnExactHoldMesh", spec := "fnExactHoldMesh", inPlace := ["math.Float64bits", "math.Float64frombits"], apart := false, narrowed := true }
def FnExactHoldMeshUptoSaid : Prop := fnExactHoldMeshUptoRow.holds Try.pinned (OpenSpec.upto fnExactHoldMeshSpec)

/-- 'laws.FnExactKeepVolume', WHERE WHAT IT READS IS OF BULK AT MOST 1048576: true; the input reads as it did. -/
def fnExactKeepVolumeUptoRow : OpenClaim := { program := "ytajglpkeojaelaa", sum := "20b6cfe9db0544a6c28c227716e3c2423f1aef0086b97260d700d7fca26a1b73", func := "loop.example/g01222/laws.FnExactKeepVolume", spec := "fnExactKeepVolume", inPlace := ["math.Float64frombits", "math.Float64bits"], unfollowed := true, recurses := true, apart := false, narrowed := true }
def FnExactKeepVolumeUptoSaid : Prop := fnExactKeepVolumeUptoRow.holds Try.pinned (OpenSpec.upto fnExactKeepVolumeSpec)

/-- 'laws.FnExactJoinMeshes', WHERE WHAT IT READS IS OF BULK AT MOST 1048576: true; the input reads as it did. -/
def fnExactJoinMeshesUptoRow : OpenClaim := { program := "ytajglpkeojaelaa", sum := "20b6cfe9db0544a6c28c227716e3c2423f1aef0086b97260d700d7fca26a1b73", func := "loop.example/g01222/laws.FnExactJoinMeshes", spec := "fnExactJoinMeshes", apart := false, narrowed := true }
def FnExactJoinMeshesUptoSaid : Prop := fnExactJoinMeshesUptoRow.holds Try.pinned (OpenSpec.upto fnExactJoinMeshesSpec)

end Rows
end Go.Proofs.Ytajglpkeojaelaa

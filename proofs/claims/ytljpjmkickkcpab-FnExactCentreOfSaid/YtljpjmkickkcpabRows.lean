/-
  No cell of these rows narrows 'for every input' (looked for: loops, veiled, ifaces, maps, wideKeys, modest, calm, conditions, laid).
  DERIVED. THE GIVEN ROWS OF THIS SEAT. 11 by the template 'for every input the law returns true; each argument reads behind the call as it read before'; 0 by the template 'total and deterministic' (their statements: YtljpjmkickkcpabTotals.lean).
  GIVEN WITH THE SEED: the statements are not yours to turn. If you find one false, say at which input.
  Laid BY PROGRAM, IN A SANDBOX (cutbox-rows.mjs): the forced cells as the released guide's own fill.sh prints them over the translation e9b8e23398e0a554… (all of the seat's roots in one cut). By AI agents, Wed Nov 11 2026. No macro, syntax, notation, axiom, sorry.
-/
import Derived.Test.YtljpjmkickkcpabChecked
import GoSem.Claim
import GoSem.ClaimJoined
import GoSem.ClaimMapViews
import Derived.JoinedTies
import Derived.KernelRfl
namespace Go.Proofs.Ytljpjmkickkcpab
/- THE CELL 'sum', in the pinned program and in every row, IS THE sha256 OF THE DUMP (.gsa) THAT YtljpjmkickkcpabProg.lean LOADS. Nothing in Lean hashes anything: it is a label: what it is worth is what the hold of that sum in a sandbox is worth. -/
noncomputable def Try.pinned : Pinned := { name := "ytljpjmkickkcpab", sum := "e9b8e23398e0a55484e3dcdbee46fe1d60fab97745101765d06fd167b9faeb58", checked := Try.checked }
namespace Rows
def none {H : Type} : Left H := { results := [], args := [] }

/-- 'laws.FnExactVolumeOf': WHATEVER THE INPUT: true; the input reads as it did. -/
def fnExactVolumeOfSpec : ChangeSpec := { name := "fnExactVolumeOf", fn := fun _ => fun
  | [d] => { results := [.lit (.bool true)], args := [d] }
  | _ => none }
def fnExactVolumeOfRow : OpenClaim := { program := "ytljpjmkickkcpab", sum := "e9b8e23398e0a55484e3dcdbee46fe1d60fab97745101765d06fd167b9faeb58", func := "loop.example/g01222/laws.FnExactVolumeOf", spec := "fnExactVolumeOf", unfollowed := true, recurses := true, apart := false }
def FnExactVolumeOfSaid : Prop := fnExactVolumeOfRow.holds Try.pinned (OpenSpec.ofChange fnExactVolumeOfSpec)

/-- ITS FALSE NEIGHBOUR: 'it returns false'. Refute it at one input. -/
def fnExactVolumeOfWrong : ChangeSpec := { name := "fnExactVolumeOf", fn := fun _ => fun
  | [d] => { results := [.lit (.bool false)], args := [d] }
  | _ => none }
def FnExactVolumeOfWrongFalsely : Prop := fnExactVolumeOfRow.holds Try.pinned (OpenSpec.ofChange fnExactVolumeOfWrong)

/-- 'laws.FnExactCentreOf': WHATEVER THE INPUT: true; the input reads as it did. -/
def fnExactCentreOfSpec : ChangeSpec := { name := "fnExactCentreOf", fn := fun _ => fun
  | [d] => { results := [.lit (.bool true)], args := [d] }
  | _ => none }
def fnExactCentreOfRow : OpenClaim := { program := "ytljpjmkickkcpab", sum := "e9b8e23398e0a55484e3dcdbee46fe1d60fab97745101765d06fd167b9faeb58", func := "loop.example/g01222/laws.FnExactCentreOf", spec := "fnExactCentreOf", apart := false }
def FnExactCentreOfSaid : Prop := fnExactCentreOfRow.holds Try.pinned (OpenSpec.ofChange fnExactCentreOfSpec)

/-- ITS FALSE NEIGHBOUR: 'it returns false'. Refute it at one input. -/
def fnExactCentreOfWrong : ChangeSpec := { name := "fnExactCentreOf", fn := fun _ => fun
  | [d] => { results := [.lit (.bool false)], args := [d] }
  | _ => none }
def FnExactCentreOfWrongFalsely : Prop := fnExactCentreOfRow.holds Try.pinned (OpenSpec.ofChange fnExactCentreOfWrong)

/-- 'laws.FnExactGasEnergy': WHATEVER THE INPUT: true; the input reads as it did. -/
def fnExactGasEnergySpec : ChangeSpec := { name := "fnExactGasEnergy", fn := fun _ => fun
  | [d1, d2] => { results := [.lit (.bool true)], args := [d1, d2] }
  | _ => none }
def fnExactGasEnergyRow : OpenClaim := { program := "ytljpjmkickkcpab", sum := "e9b8e23398e0a55484e3dcdbee46fe1d60fab97745101765d06fd167b9faeb58", func := "loop.example/g01222/laws.FnExactGasEnergy", spec := "fnExactGasEnergy", inPlace := ["math.Float64frombits", "math.Float64bits"], apart := false }
def FnExactGasEnergySaid : Prop := fnExactGasEnergyRow.holds Try.pinned (OpenSpec.ofChange fnExactGasEnergySpec)

/-- ITS FALSE NEIGHBOUR: 'it returns false'. Refute it at one input. -/
def fnExactGasEnergyWrong : ChangeSpec := { name := "fnExactGasEnergy", fn := fun _ => fun
  | [d1, d2] => { results := [.lit (.bool false)], args := [d1, d2] }
  | _ => none }
def FnExactGasEnergyWrongFalsely : Prop := fnExactGasEnergyRow.holds Try.pinned (OpenSpec.ofChange fnExactGasEnergyWrong)

/-- 'laws.FnExactKeepVolume': WHATEVER THE INPUT: true; the input reads as it did. -/
def fnExactKeepVolumeSpec : ChangeSpec := { name := "fnExactKeepVolume", fn := fun _ => fun
  | [d1, d2] => { results := [.lit (.bool true)], args := [d1, d2] }
  | _ => none }
def fnExactKeepVolumeRow : OpenClaim := { program := "ytljpjmkickkcpab", sum := "e9b8e23398e0a55484e3dcdbee46fe1d60fab97745101765d06fd167b9faeb58", func := "loop.example/g01222/laws.FnExactKeepVolume", spec := "fnExactKeepVolume", inPlace := ["math.Float64frombits", "math.Float64bits"], unfollowed := true, recurses := true, apart := false }
def FnExactKeepVolumeSaid : Prop := fnExactKeepVolumeRow.holds Try.pinned (OpenSpec.ofChange fnExactKeepVolumeSpec)

/-- ITS FALSE NEIGHBOUR: 'it returns false'. Refute it at one input. -/
def fnExactKeepVolumeWrong : ChangeSpec := { name := "fnExactKeepVolume", fn := fun _ => fun
  | [d1, d2] => { results := [.lit (.bool false)], args := [d1, d2] }
  | _ => none }
def FnExactKeepVolumeWrongFalsely : Prop := fnExactKeepVolumeRow.holds Try.pinned (OpenSpec.ofChange fnExactKeepVolumeWrong)

/-- 'laws.FnExactGridMesh': WHATEVER THE INPUT: true; the input reads as it did. -/
def fnExactGridMeshSpec : ChangeSpec := { name := "fnExactGridMesh", fn := fun _ => fun
  | [d1, d2, d3] => { results := [.lit (.bool true)], args := [d1, d2, d3] }
  | _ => none }
def fnExactGridMeshRow : OpenClaim := { program := "ytljpjmkickkcpab", sum := "e9b8e23398e0a55484e3dcdbee46fe1d60fab97745101765d06fd167b9faeb58", func := "loop.example/g01222/laws.FnExactGridMesh", spec := "fnExactGridMesh", inPlace := ["math.Float64bits", "math.Float64frombits"], apart := false }
def FnExactGridMeshSaid : Prop := fnExactGridMeshRow.holds Try.pinned (OpenSpec.ofChange fnExactGridMeshSpec)

/-- ITS FALSE NEIGHBOUR: 'it returns false'. Refute it at one input. -/
def fnExactGridMeshWrong : ChangeSpec := { name := "fnExactGridMesh", fn := fun _ => fun
  | [d1, d2, d3] => { results := [.lit (.bool false)], args := [d1, d2, d3] }
  | _ => none }
def FnExactGridMeshWrongFalsely : Prop := fnExactGridMeshRow.holds Try.pinned (OpenSpec.ofChange fnExactGridMeshWrong)

/-- 'laws.FnExactRingMesh': WHATEVER THE INPUT: true; the input reads as it did. -/
def fnExactRingMeshSpec : ChangeSpec := { name := "fnExactRingMesh", fn := fun _ => fun
  | [d1, d2, d3, d4] => { results := [.lit (.bool true)], args := [d1, d2, d3, d4] }
  | _ => none }
def fnExactRingMeshRow : OpenClaim := { program := "ytljpjmkickkcpab", sum := "e9b8e23398e0a55484e3dcdbee46fe1d60fab97745101765d06fd167b9faeb58", func := "loop.example/g01222/laws.FnExactRingMesh", spec := "fnExactRingMesh", inPlace := ["math.Float64frombits", "math.Float64bits"], apart := false }
def FnExactRingMeshSaid : Prop := fnExactRingMeshRow.holds Try.pinned (OpenSpec.ofChange fnExactRingMeshSpec)

/-- ITS FALSE NEIGHBOUR: 'it returns false'. Refute it at one input. -/
def fnExactRingMeshWrong : ChangeSpec := { name := "fnExactRingMesh", fn := fun _ => fun
  | [d1, d2, d3, d4] => { results := [.lit (.bool false)], args := [d1, d2, d3, d4] }
  | _ => none }
def FnExactRingMeshWrongFalsely : Prop := fnExactRingMeshRow.holds Try.pinned (OpenSpec.ofChange fnExactRingMeshWrong)

/-- 'laws.FnExactBoxMesh': WHATEVER THE INPUT: true; the input reads as it did. -/
def fnExactBoxMeshSpec : ChangeSpec := { name := "fnExactBoxMesh", fn := fun _ => fun
  | [d] => { results := [.lit (.bool true)], args := [d] }
  | _ => none }
def fnExactBoxMeshRow : OpenClaim := { program := "ytljpjmkickkcpab", sum := "e9b8e23398e0a55484e3dcdbee46fe1d60fab97745101765d06fd167b9faeb58", func := "loop.example/g01222/laws.FnExactBoxMesh", spec := "fnExactBoxMesh", inPlace := ["math.Float64bits", "math.Float64frombits"], apart := false }
def FnExactBoxMeshSaid : Prop := fnExactBoxMeshRow.holds Try.pinned (OpenSpec.ofChange fnExactBoxMeshSpec)

/-- ITS FALSE NEIGHBOUR: 'it returns false'. Refute it at one input. -/
def fnExactBoxMeshWrong : ChangeSpec := { name := "fnExactBoxMesh", fn := fun _ => fun
  | [d] => { results := [.lit (.bool false)], args := [d] }
  | _ => none }
def FnExactBoxMeshWrongFalsely : Prop := fnExactBoxMeshRow.holds Try.pinned (OpenSpec.ofChange fnExactBoxMeshWrong)

/-- 'laws.FnExactJoinMeshes': WHATEVER THE INPUT: true; the input reads as it did. -/
def fnExactJoinMeshesSpec : ChangeSpec := { name := "fnExactJoinMeshes", fn := fun _ => fun
  | [d1, d2] => { results := [.lit (.bool true)], args := [d1, d2] }
  | _ => none }
def fnExactJoinMeshesRow : OpenClaim := { program := "ytljpjmkickkcpab", sum := "e9b8e23398e0a55484e3dcdbee46fe1d60fab97745101765d06fd167b9faeb58", func := "loop.example/g01222/laws.FnExactJoinMeshes", spec := "fnExactJoinMeshes", apart := false }
def FnExactJoinMeshesSaid : Prop := fnExactJoinMeshesRow.holds Try.pinned (OpenSpec.ofChange fnExactJoinMeshesSpec)

/-- ITS FALSE NEIGHBOUR: 'it returns false'. Refute it at one input. -/
def fnExactJoinMeshesWrong : ChangeSpec := { name := "fnExactJoinMeshes", fn := fun _ => fun
  | [d1, d2] => { results := [.lit (.bool false)], args := [d1, d2] }
  | _ => none }
def FnExactJoinMeshesWrongFalsely : Prop := fnExactJoinMeshesRow.holds Try.pinned (OpenSpec.ofChange fnExactJoinMeshesWrong)

/-- 'laws.FnExactMovePlaces': WHATEVER THE INPUT: true; the input reads as it did. -/
def fnExactMovePlacesSpec : ChangeSpec := { name := "fnExactMovePlaces", fn := fun _ => fun
  | [d1, d2, d3] => { results := [.lit (.bool true)], args := [d1, d2, d3] }
  | _ => none }
def fnExactMovePlacesRow : OpenClaim := { program := "ytljpjmkickkcpab", sum := "e9b8e23398e0a55484e3dcdbee46fe1d60fab97745101765d06fd167b9faeb58", func := "loop.example/g01222/laws.FnExactMovePlaces", spec := "fnExactMovePlaces", apart := false }
def FnExactMovePlacesSaid : Prop := fnExactMovePlacesRow.holds Try.pinned (OpenSpec.ofChange fnExactMovePlacesSpec)

/-- ITS FALSE NEIGHBOUR: 'it returns false'. Refute it at one input. -/
def fnExactMovePlacesWrong : ChangeSpec := { name := "fnExactMovePlaces", fn := fun _ => fun
  | [d1, d2, d3] => { results := [.lit (.bool false)], args := [d1, d2, d3] }
  | _ => none }
def FnExactMovePlacesWrongFalsely : Prop := fnExactMovePlacesRow.holds Try.pinned (OpenSpec.ofChange fnExactMovePlacesWrong)

/-- 'laws.FnExactBareBody': WHATEVER THE INPUT: true; the input reads as it did. -/
def fnExactBareBodySpec : ChangeSpec := { name := "fnExactBareBody", fn := fun _ => fun
  | [d] => { results := [.lit (.bool true)], args := [d] }
  | _ => none }
def fnExactBareBodyRow : OpenClaim := { program := "ytljpjmkickkcpab", sum := "e9b8e23398e0a55484e3dcdbee46fe1d60fab97745101765d06fd167b9faeb58", func := "loop.example/g01222/laws.FnExactBareBody", spec := "fnExactBareBody", apart := false }
def FnExactBareBodySaid : Prop := fnExactBareBodyRow.holds Try.pinned (OpenSpec.ofChange fnExactBareBodySpec)

/-- ITS FALSE NEIGHBOUR: 'it returns false'. Refute it at one input. -/
def fnExactBareBodyWrong : ChangeSpec := { name := "fnExactBareBody", fn := fun _ => fun
  | [d] => { results := [.lit (.bool false)], args := [d] }
  | _ => none }
def FnExactBareBodyWrongFalsely : Prop := fnExactBareBodyRow.holds Try.pinned (OpenSpec.ofChange fnExactBareBodyWrong)

/-- 'laws.FnExactStretchesOf': WHATEVER THE INPUT: true; the input reads as it did. -/
def fnExactStretchesOfSpec : ChangeSpec := { name := "fnExactStretchesOf", fn := fun _ => fun
  | [d] => { results := [.lit (.bool true)], args := [d] }
  | _ => none }
def fnExactStretchesOfRow : OpenClaim := { program := "ytljpjmkickkcpab", sum := "e9b8e23398e0a55484e3dcdbee46fe1d60fab97745101765d06fd167b9faeb58", func := "loop.example/g01222/laws.FnExactStretchesOf", spec := "fnExactStretchesOf", inPlace := ["math.sqrt"], unfollowed := true, recurses := true, apart := false }
def FnExactStretchesOfSaid : Prop := fnExactStretchesOfRow.holds Try.pinned (OpenSpec.ofChange fnExactStretchesOfSpec)

/-- ITS FALSE NEIGHBOUR: 'it returns false'. Refute it at one input. -/
def fnExactStretchesOfWrong : ChangeSpec := { name := "fnExactStretchesOf", fn := fun _ => fun
  | [d] => { results := [.lit (.bool false)], args := [d] }
  | _ => none }
def FnExactStretchesOfWrongFalsely : Prop := fnExactStretchesOfRow.holds Try.pinned (OpenSpec.ofChange fnExactStretchesOfWrong)

/- THE SECOND FORM. 'bulk': how many values and letters a reading holds, each counted each time it is reached (what is shared counts as often as it is met; a slice's spare places count too). A statement '..UptoSaid' is the law's where the arguments, and the package variables that the reading takes, are together of bulk at most 1048576: NARROWER than '..Said'. Prove '..Said' where nothing that the law and all that it calls make is longer than what came in: it says more and counts as full. Else prove '..UptoSaid'. A law counts once. -/
mutual
def uptoBulk {H : Type} : DataW H → Nat
  | .lit (.string bytes) => bytes.length + 1
  | .lit _ => 1
  | .nil => 1
  | .ptr d => uptoBulk d + 1
  | .slice elems spare => uptoBulkAll elems + uptoBulkAll spare + 1
  | .agg parts => uptoBulkAll parts + 1
  | .iface _ d => uptoBulk d + 1
  | .map entries => uptoBulkEntries entries + 1
  | .held _ => 1
def uptoBulkAll {H : Type} : List (DataW H) → Nat
  | [] => 0
  | d :: r => uptoBulk d + uptoBulkAll r
def uptoBulkEntries {H : Type} : List (Lit × DataW H) → Nat
  | [] => 0
  | x :: r => uptoBulkEntry x + uptoBulkEntries r
def uptoBulkEntry {H : Type} : Lit × DataW H → Nat
  | (.string bytes, d) => bytes.length + uptoBulk d + 1
  | (_, d) => uptoBulk d + 1
 end
def uptoSmall : (H : Type) → List (DataW H) → Bool := fun _ ds => decide (uptoBulkAll ds ≤ 1048576)
def OpenSpec.upto (s : _root_.Go.ChangeSpec) : _root_.Go.OpenSpec := { _root_.Go.OpenSpec.ofChange s with cond := some uptoSmall }

/-- 'laws.FnExactVolumeOf', WHERE WHAT IT READS IS OF BULK AT MOST 1048576: true; the input reads as it did. -/
def fnExactVolumeOfUptoRow : OpenClaim := { program := "ytljpjmkickkcpab", sum := "e9b8e23398e0a55484e3dcdbee46fe1d60fab97745101765d06fd167b9faeb58", func := "loop.example/g01222/laws.FnExactVolumeOf", spec := "fnExactVolumeOf", unfollowed := true, recurses := true, apart := false, narrowed := true }
def FnExactVolumeOfUptoSaid : Prop := fnExactVolumeOfUptoRow.holds Try.pinned (OpenSpec.upto fnExactVolumeOfSpec)

/-- 'laws.FnExactCentreOf', WHERE WHAT IT READS IS OF BULK AT MOST 1048576: true; the input reads as it did. -/
def fnExactCentreOfUptoRow : OpenClaim := { program := "ytljpjmkickkcpab", sum := "e9b8e23398e0a55484e3dcdbee46fe1d60fab97745101765d06fd167b9faeb58", func := "loop.example/g01222/laws.FnExactCentreOf", spec := "fnExactCentreOf", apart := false, narrowed := true }
def FnExactCentreOfUptoSaid : Prop := fnExactCentreOfUptoRow.holds Try.pinned (OpenSpec.upto fnExactCentreOfSpec)

/-- 'laws.FnExactGasEnergy', WHERE WHAT IT READS IS OF BULK AT MOST 1048576: true; the input reads as it did. -/
def fnExactGasEnergyUptoRow : OpenClaim := { program := "ytljpjmkickkcpab", sum := "e9b8e23398e0a55484e3dcdbee46fe1d60fab97745101765d06fd167b9faeb58", func := "loop.example/g01222/laws.FnExactGasEnergy", spec := "fnExactGasEnergy", inPlace := ["math.Float64frombits", "math.Float64bits"], apart := false, narrowed := true }
def FnExactGasEnergyUptoSaid : Prop := fnExactGasEnergyUptoRow.holds Try.pinned (OpenSpec.upto fnExactGasEnergySpec)

/-- 'laws.FnExactKeepVolume', WHERE WHAT IT READS IS OF BULK AT MOST 1048576: true; the input reads as it did. -/
def fnExactKeepVolumeUptoRow : OpenClaim := { program := "ytljpjmkickkcpab", sum := "e9b8e23398e0a55484e3dcdbee46fe1d60fab97745101765d06fd167b9faeb58", func := "loop.example/g01222/laws.FnExactKeepVolume", spec := "fnExactKeepVolume", inPlace := ["math.Float64frombits", "math.Float64bits"], unfollowed := true, recurses := true, apart := false, narrowed := true }
def FnExactKeepVolumeUptoSaid : Prop := fnExactKeepVolumeUptoRow.holds Try.pinned (OpenSpec.upto fnExactKeepVolumeSpec)

/-- 'laws.FnExactGridMesh', WHERE WHAT IT READS IS OF BULK AT MOST 1048576: true; the input reads as it did. -/
def fnExactGridMeshUptoRow : OpenClaim := { program := "ytljpjmkickkcpab", sum := "e9b8e23398e0a55484e3dcdbee46fe1d60fab97745101765d06fd167b9faeb58", func := "loop.example/g01222/laws.FnExactGridMesh", spec := "fnExactGridMesh", inPlace := ["math.Float64bits", "math.Float64frombits"], apart := false, narrowed := true }
def FnExactGridMeshUptoSaid : Prop := fnExactGridMeshUptoRow.holds Try.pinned (OpenSpec.upto fnExactGridMeshSpec)

/-- 'laws.FnExactRingMesh', WHERE WHAT IT READS IS OF BULK AT MOST 1048576: true; the input reads as it did. -/
def fnExactRingMeshUptoRow : OpenClaim := { program := "ytljpjmkickkcpab", sum := "e9b8e23398e0a55484e3dcdbee46fe1d60fab97745101765d06fd167b9faeb58", func := "loop.example/g01222/laws.FnExactRingMesh", spec := "fnExactRingMesh", inPlace := ["math.Float64frombits", "math.Float64bits"], apart := false, narrowed := true }
def FnExactRingMeshUptoSaid : Prop := fnExactRingMeshUptoRow.holds Try.pinned (OpenSpec.upto fnExactRingMeshSpec)

/-- 'laws.FnExactBoxMesh', WHERE WHAT IT READS IS OF BULK AT MOST 1048576: true; the input reads as it did. -/
def fnExactBoxMeshUptoRow : OpenClaim := { program := "ytljpjmkickkcpab", sum := "e9b8e23398e0a55484e3dcdbee46fe1d60fab97745101765d06fd167b9faeb58", func := "loop.example/g01222/laws.FnExactBoxMesh", spec := "fnExactBoxMesh", inPlace := ["math.Float64bits", "math.Float64frombits"], apart := false, narrowed := true }
def FnExactBoxMeshUptoSaid : Prop := fnExactBoxMeshUptoRow.holds Try.pinned (OpenSpec.upto fnExactBoxMeshSpec)

/-- 'laws.FnExactJoinMeshes', WHERE WHAT IT READS IS OF BULK AT MOST 1048576: true; the input reads as it did. -/
def fnExactJoinMeshesUptoRow : OpenClaim := { program := "ytljpjmkickkcpab", sum := "e9b8e23398e0a55484e3dcdbee46fe1d60fab97745101765d06fd167b9faeb58", func := "loop.example/g01222/laws.FnExactJoinMeshes", spec := "fnExactJoinMeshes", apart := false, narrowed := true }
def FnExactJoinMeshesUptoSaid : Prop := fnExactJoinMeshesUptoRow.holds Try.pinned (OpenSpec.upto fnExactJoinMeshesSpec)

/-- 'laws.FnExactMovePlaces', WHERE WHAT IT READS IS OF BULK AT MOST 1048576: true; the input reads as it did. -/
def fnExactMovePlacesUptoRow : OpenClaim := { program := "ytljpjmkickkcpab", sum := "e9b8e23398e0a55484e3dcdbee46fe1d60fab97745101765d06fd167b9faeb58", func := "loop.example/g01222/laws.FnExactMovePlaces", spec := "fnExactMovePlaces", apart := false, narrowed := true }
def FnExactMovePlacesUptoSaid : Prop := fnExactMovePlacesUptoRow.holds Try.pinned (OpenSpec.upto fnExactMovePlacesSpec)

/-- 'laws.FnExactBareBody', WHERE WHAT IT READS IS OF BULK AT MOST 1048576: true; the input reads as it did. -/
def fnExactBareBodyUptoRow : OpenClaim := { program := "ytljpjmkickkcpab", sum := "e9b8e23398e0a55484e3dcdbee46fe1d60fab97745101765d06fd167b9faeb58", func := "loop.example/g01222/laws.FnExactBareBody", spec := "fnExactBareBody", apart := false, narrowed := true }
def FnExactBareBodyUptoSaid : Prop := fnExactBareBodyUptoRow.holds Try.pinned (OpenSpec.upto fnExactBareBodySpec)

/-- 'laws.FnExactStretchesOf', WHERE WHAT IT READS IS OF BULK AT MOST 1048576: true; the input reads as it did. -/
def fnExactStretchesOfUptoRow : OpenClaim := { program := "ytljpjmkickkcpab", sum := "e9b8e23398e0a55484e3dcdbee46fe1d60fab97745101765d06fd167b9faeb58", func := "loop.example/g01222/laws.FnExactStretchesOf", spec := "fnExactStretchesOf", inPlace := ["math.sqrt"], unfollowed := true, recurses := true, apart := false, narrowed := true }
def FnExactStretchesOfUptoSaid : Prop := fnExactStretchesOfUptoRow.holds Try.pinned (OpenSpec.upto fnExactStretchesOfSpec)

end Rows
end Go.Proofs.Ytljpjmkickkcpab

/-
  No cell of these rows narrows 'for every input' (looked for: loops, veiled, ifaces, maps, wideKeys, modest, calm, conditions, laid).
  DERIVED. THE GIVEN ROWS OF THIS SEAT. 6 by the template 'for every input the law returns true; each argument reads behind the call as it read before'; 0 by the template 'total and deterministic' (their statements: YtcgnmnbjgamedabGreatTotals.lean).
  GIVEN WITH THE SEED: the statements are not yours to turn. If you find one false, say at which input.
  Laid BY PROGRAM, IN A SANDBOX (cutbox-rows.mjs): the forced cells as the released guide's own fill.sh prints them over the translation a7f6df9f4b029e01… (all of the seat's roots in one cut). By AI agents, Wed Nov 11 2026. No macro, syntax, notation, axiom, sorry.
-/
import Derived.Test.YtcgnmnbjgamedabGreatChecked
import GoSem.Claim
import GoSem.ClaimJoined
import GoSem.ClaimMapViews
import Derived.JoinedTies
import Derived.KernelRfl
namespace Go.Proofs.YtcgnmnbjgamedabGreat
/- THE CELL 'sum', in the pinned program and in every row, IS THE sha256 OF THE DUMP (.gsa) THAT YtcgnmnbjgamedabGreatProg.lean LOADS. Nothing in Lean hashes anything: it is a label: what it is worth is what the hold of that sum in a sandbox is worth. -/
noncomputable def Tryz.pinned : Pinned := { name := "ytcgnmnbjgamedabgreat", sum := "a7f6df9f4b029e01c9e936b83c03d7d5af18d98444e452d0470a3039d38fe3fd", checked := Tryz.checked }
namespace Rows
def none {H : Type} : Left H := { results := [], args := [] }

/-- 'laws.FnExactForcesOf': WHATEVER THE INPUT: true; the input reads as it did. -/
def fnExactForcesOfSpec : ChangeSpec := { name := "fnExactForcesOf", fn := fun _ => fun
  | [d] => { results := [.lit (.bool true)], args := [d] }
  | _ => none }
def fnExactForcesOfRow : OpenClaim := { program := "ytcgnmnbjgamedabgreat", sum := "a7f6df9f4b029e01c9e936b83c03d7d5af18d98444e452d0470a3039d38fe3fd", func := "loop.example/g01222/laws.FnExactForcesOf", spec := "fnExactForcesOf", inPlace := ["math.sqrt"], unfollowed := true, recurses := true, plainKeys := false, leaving := true, apart := false }
def FnExactForcesOfSaid : Prop := fnExactForcesOfRow.holds Tryz.pinned (OpenSpec.ofChange fnExactForcesOfSpec)

/-- ITS FALSE NEIGHBOUR: 'it returns false'. Refute it at one input. -/
def fnExactForcesOfWrong : ChangeSpec := { name := "fnExactForcesOf", fn := fun _ => fun
  | [d] => { results := [.lit (.bool false)], args := [d] }
  | _ => none }
def FnExactForcesOfWrongFalsely : Prop := fnExactForcesOfRow.holds Tryz.pinned (OpenSpec.ofChange fnExactForcesOfWrong)

/-- 'laws.FnExactFreeForces': WHATEVER THE INPUT: true; the input reads as it did. -/
def fnExactFreeForcesSpec : ChangeSpec := { name := "fnExactFreeForces", fn := fun _ => fun
  | [d1, d2] => { results := [.lit (.bool true)], args := [d1, d2] }
  | _ => none }
def fnExactFreeForcesRow : OpenClaim := { program := "ytcgnmnbjgamedabgreat", sum := "a7f6df9f4b029e01c9e936b83c03d7d5af18d98444e452d0470a3039d38fe3fd", func := "loop.example/g01222/laws.FnExactFreeForces", spec := "fnExactFreeForces", inPlace := ["math.sqrt"], unfollowed := true, recurses := true, plainKeys := false, leaving := true, apart := false }
def FnExactFreeForcesSaid : Prop := fnExactFreeForcesRow.holds Tryz.pinned (OpenSpec.ofChange fnExactFreeForcesSpec)

/-- ITS FALSE NEIGHBOUR: 'it returns false'. Refute it at one input. -/
def fnExactFreeForcesWrong : ChangeSpec := { name := "fnExactFreeForces", fn := fun _ => fun
  | [d1, d2] => { results := [.lit (.bool false)], args := [d1, d2] }
  | _ => none }
def FnExactFreeForcesWrongFalsely : Prop := fnExactFreeForcesRow.holds Tryz.pinned (OpenSpec.ofChange fnExactFreeForcesWrong)

/-- 'laws.FnExactRestOf': WHATEVER THE INPUT: true; the input reads as it did. -/
def fnExactRestOfSpec : ChangeSpec := { name := "fnExactRestOf", fn := fun _ => fun
  | [d1, d2] => { results := [.lit (.bool true)], args := [d1, d2] }
  | _ => none }
def fnExactRestOfRow : OpenClaim := { program := "ytcgnmnbjgamedabgreat", sum := "a7f6df9f4b029e01c9e936b83c03d7d5af18d98444e452d0470a3039d38fe3fd", func := "loop.example/g01222/laws.FnExactRestOf", spec := "fnExactRestOf", inPlace := ["math.sqrt"], unfollowed := true, recurses := true, plainKeys := false, leaving := true, apart := false }
def FnExactRestOfSaid : Prop := fnExactRestOfRow.holds Tryz.pinned (OpenSpec.ofChange fnExactRestOfSpec)

/-- ITS FALSE NEIGHBOUR: 'it returns false'. Refute it at one input. -/
def fnExactRestOfWrong : ChangeSpec := { name := "fnExactRestOf", fn := fun _ => fun
  | [d1, d2] => { results := [.lit (.bool false)], args := [d1, d2] }
  | _ => none }
def FnExactRestOfWrongFalsely : Prop := fnExactRestOfRow.holds Tryz.pinned (OpenSpec.ofChange fnExactRestOfWrong)

/-- 'laws.FnExactSlopeAt': WHATEVER THE INPUT: true; the input reads as it did. -/
def fnExactSlopeAtSpec : ChangeSpec := { name := "fnExactSlopeAt", fn := fun _ => fun
  | [d1, d2, d3, d4] => { results := [.lit (.bool true)], args := [d1, d2, d3, d4] }
  | _ => none }
def fnExactSlopeAtRow : OpenClaim := { program := "ytcgnmnbjgamedabgreat", sum := "a7f6df9f4b029e01c9e936b83c03d7d5af18d98444e452d0470a3039d38fe3fd", func := "loop.example/g01222/laws.FnExactSlopeAt", spec := "fnExactSlopeAt", inPlace := ["math.sqrt", "math.Float64bits", "math.Float64frombits"], unfollowed := true, recurses := true, plainKeys := false, leaving := true, apart := false }
def FnExactSlopeAtSaid : Prop := fnExactSlopeAtRow.holds Tryz.pinned (OpenSpec.ofChange fnExactSlopeAtSpec)

/-- ITS FALSE NEIGHBOUR: 'it returns false'. Refute it at one input. -/
def fnExactSlopeAtWrong : ChangeSpec := { name := "fnExactSlopeAt", fn := fun _ => fun
  | [d1, d2, d3, d4] => { results := [.lit (.bool false)], args := [d1, d2, d3, d4] }
  | _ => none }
def FnExactSlopeAtWrongFalsely : Prop := fnExactSlopeAtRow.holds Tryz.pinned (OpenSpec.ofChange fnExactSlopeAtWrong)

/-- 'laws.FnExactBlockForces': WHATEVER THE INPUT: true; the input reads as it did. -/
def fnExactBlockForcesSpec : ChangeSpec := { name := "fnExactBlockForces", fn := fun _ => fun
  | [d1, d2] => { results := [.lit (.bool true)], args := [d1, d2] }
  | _ => none }
def fnExactBlockForcesRow : OpenClaim := { program := "ytcgnmnbjgamedabgreat", sum := "a7f6df9f4b029e01c9e936b83c03d7d5af18d98444e452d0470a3039d38fe3fd", func := "loop.example/g01222/laws.FnExactBlockForces", spec := "fnExactBlockForces", inPlace := ["math.sqrt"], unfollowed := true, recurses := true, plainKeys := false, leaving := true, apart := false }
def FnExactBlockForcesSaid : Prop := fnExactBlockForcesRow.holds Tryz.pinned (OpenSpec.ofChange fnExactBlockForcesSpec)

/-- ITS FALSE NEIGHBOUR: 'it returns false'. Refute it at one input. -/
def fnExactBlockForcesWrong : ChangeSpec := { name := "fnExactBlockForces", fn := fun _ => fun
  | [d1, d2] => { results := [.lit (.bool false)], args := [d1, d2] }
  | _ => none }
def FnExactBlockForcesWrongFalsely : Prop := fnExactBlockForcesRow.holds Tryz.pinned (OpenSpec.ofChange fnExactBlockForcesWrong)

/-- 'laws.FnExactForcesShared': WHATEVER THE INPUT: true; the input reads as it did. -/
def fnExactForcesSharedSpec : ChangeSpec := { name := "fnExactForcesShared", fn := fun _ => fun
  | [d1, d2] => { results := [.lit (.bool true)], args := [d1, d2] }
  | _ => none }
def fnExactForcesSharedRow : OpenClaim := { program := "ytcgnmnbjgamedabgreat", sum := "a7f6df9f4b029e01c9e936b83c03d7d5af18d98444e452d0470a3039d38fe3fd", func := "loop.example/g01222/laws.FnExactForcesShared", spec := "fnExactForcesShared", inPlace := ["math.sqrt", "(*sync.WaitGroup).Add", "internal/race.ReleaseMerge", "internal/race.Disable", "internal/race.Enable", "internal/synctest.IsInBubble", "internal/synctest.Associate[sync.WaitGroup]", "sync.fatal", "sync/atomic.OrUint64", "sync/atomic.AddUint64", "internal/race.Read", "sync/atomic.LoadUint64", "sync/atomic.StoreUint64", "internal/synctest.Disassociate[sync.WaitGroup]", "sync.runtime_Semrelease", "(*sync.WaitGroup).Done", "(*sync.WaitGroup).Wait", "internal/race.Acquire", "internal/synctest.IsAssociated[sync.WaitGroup]", "sync/atomic.CompareAndSwapUint64", "internal/race.Write", "sync.runtime_SemacquireWaitGroup"], unfollowed := true, recurses := true, plainKeys := false, leaving := true, apart := false }
def FnExactForcesSharedSaid : Prop := fnExactForcesSharedRow.holds Tryz.pinned (OpenSpec.ofChange fnExactForcesSharedSpec)

/-- ITS FALSE NEIGHBOUR: 'it returns false'. Refute it at one input. -/
def fnExactForcesSharedWrong : ChangeSpec := { name := "fnExactForcesShared", fn := fun _ => fun
  | [d1, d2] => { results := [.lit (.bool false)], args := [d1, d2] }
  | _ => none }
def FnExactForcesSharedWrongFalsely : Prop := fnExactForcesSharedRow.holds Tryz.pinned (OpenSpec.ofChange fnExactForcesSharedWrong)

/- THE SECOND FORM. 'bulk': how many values and letters a reading holds, each counted each time it is reached (what is shared counts as often as it is met; a slice's spare places count too). A statement '..UptoSaid' is the law's where the arguments, and the package variables that the reading takes, are together of bulk at most 1048576: NARROWER than '..Said'. Prove '..Said' where nothing that the law and all that it calls make is longer than what came in: it says more and counts as full. Else prove '..UptoSaid'. A law counts once. -/
mutual
def uptoBulk {H : Type} : DataW H → Nat
  | .lit (.string bytes) => bytes.length + 1
  | .lit _ => 1
  | .nil => 1
  | .ptr d => uptoBulk d + 1
  | .slice elems spare => uptoBulkAll elems + uptoBulkAll spare + 1
  | .agg parts => uptoBulkAll parts + 1
  | .iface _ d => uptoBulk d + 1
  | .map entries => uptoBulkEntries entries + 1
  | .held _ => 1
def uptoBulkAll {H : Type} : List (DataW H) → Nat
  | [] => 0
  | d :: r => uptoBulk d + uptoBulkAll r
def uptoBulkEntries {H : Type} : List (Lit × DataW H) → Nat
  | [] => 0
  | x :: r => uptoBulkEntry x + uptoBulkEntries r
def uptoBulkEntry {H : Type} : Lit × DataW H → Nat
  | (.string bytes, d) => bytes.length + uptoBulk d + 1
  | (_, d) => uptoBulk d + 1
 end
def uptoSmall : (H : Type) → List (DataW H) → Bool := fun _ ds => decide (uptoBulkAll ds ≤ 1048576)
def OpenSpec.upto (s : _root_.Go.ChangeSpec) : _root_.Go.OpenSpec := { _root_.Go.OpenSpec.ofChange s with cond := some uptoSmall }

/-- 'laws.FnExactForcesOf', WHERE WHAT IT READS IS OF BULK AT MOST 1048576: true; the input reads as it did. -/
def fnExactForcesOfUptoRow : OpenClaim := { program := "ytcgnmnbjgamedabgreat", sum := "a7f6df9f4b029e01c9e936b83c03d7d5af18d98444e452d0470a3039d38fe3fd", func := "loop.example/g01222/laws.FnExactForcesOf", spec := "fnExactForcesOf", inPlace := ["math.sqrt"], unfollowed := true, recurses := true, plainKeys := false, leaving := true, apart := false, narrowed := true }
def FnExactForcesOfUptoSaid : Prop := fnExactForcesOfUptoRow.holds Tryz.pinned (OpenSpec.upto fnExactForcesOfSpec)

/-- 'laws.FnExactFreeForces', WHERE WHAT IT READS IS OF BULK AT MOST 1048576: true; the input reads as it did. -/
def fnExactFreeForcesUptoRow : OpenClaim := { program := "ytcgnmnbjgamedabgreat", sum := "a7f6df9f4b029e01c9e936b83c03d7d5af18d98444e452d0470a3039d38fe3fd", func := "loop.example/g01222/laws.FnExactFreeForces", spec := "fnExactFreeForces", inPlace := ["math.sqrt"], unfollowed := true, recurses := true, plainKeys := false, leaving := true, apart := false, narrowed := true }
def FnExactFreeForcesUptoSaid : Prop := fnExactFreeForcesUptoRow.holds Tryz.pinned (OpenSpec.upto fnExactFreeForcesSpec)

/-- 'laws.FnExactRestOf', WHERE WHAT IT READS IS OF BULK AT MOST 1048576: true; the input reads as it did. -/
def fnExactRestOfUptoRow : OpenClaim := { program := "ytcgnmnbjgamedabgreat", sum := "a7f6df9f4b029e01c9e936b83c03d7d5af18d98444e452d0470a3039d38fe3fd", func := "loop.example/g01222/laws.FnExactRestOf", spec := "fnExactRestOf", inPlace := ["math.sqrt"], unfollowed := true, recurses := true, plainKeys := false, leaving := true, apart := false, narrowed := true }
def FnExactRestOfUptoSaid : Prop := fnExactRestOfUptoRow.holds Tryz.pinned (OpenSpec.upto fnExactRestOfSpec)

/-- 'laws.FnExactSlopeAt', WHERE WHAT IT READS IS OF BULK AT MOST 1048576: true; the input reads as it did. -/
def fnExactSlopeAtUptoRow : OpenClaim := { program := "ytcgnmnbjgamedabgreat", sum := "a7f6df9f4b029e01c9e936b83c03d7d5af18d98444e452d0470a3039d38fe3fd", func := "loop.example/g01222/laws.FnExactSlopeAt", spec := "fnExactSlopeAt", inPlace := ["math.sqrt", "math.Float64bits", "math.Float64frombits"], unfollowed := true, recurses := true, plainKeys := false, leaving := true, apart := false, narrowed := true }
def FnExactSlopeAtUptoSaid : Prop := fnExactSlopeAtUptoRow.holds Tryz.pinned (OpenSpec.upto fnExactSlopeAtSpec)

/-- 'laws.FnExactBlockForces', WHERE WHAT IT READS IS OF BULK AT MOST 1048576: true; the input reads as it did. -/
def fnExactBlockForcesUptoRow : OpenClaim := { program := "ytcgnmnbjgamedabgreat", sum := "a7f6df9f4b029e01c9e936b83c03d7d5af18d98444e452d0470a3039d38fe3fd", func := "loop.example/g01222/laws.FnExactBlockForces", spec := "fnExactBlockForces", inPlace := ["math.sqrt"], unfollowed := true, recurses := true, plainKeys := false, leaving := true, apart := false, narrowed := true }
def FnExactBlockForcesUptoSaid : Prop := fnExactBlockForcesUptoRow.holds Tryz.pinned (OpenSpec.upto fnExactBlockForcesSpec)

/-- 'laws.FnExactForcesShared', WHERE WHAT IT READS IS OF BULK AT MOST 1048576: true; the input reads as it did. -/
def fnExactForcesSharedUptoRow : OpenClaim := { program := "ytcgnmnbjgamedabgreat", sum := "a7f6df9f4b029e01c9e936b83c03d7d5af18d98444e452d0470a3039d38fe3fd", func := "loop.example/g01222/laws.FnExactForcesShared", spec := "fnExactForcesShared", inPlace := ["math.sqrt", "(*sync.WaitGroup).Add", "internal/race.ReleaseMerge", "internal/race.Disable", "internal/race.Enable", "internal/synctest.IsInBubble", "internal/synctest.Associate[sync.WaitGroup]", "sync.fatal", "sync/atomic.OrUint64", "sync/atomic.AddUint64", "internal/race.Read", "sync/atomic.LoadUint64", "sync/atomic.StoreUint64", "internal/synctest.Disassociate[sync.WaitGroup]", "sync.runtime_Semrelease", "(*sync.WaitGroup).Done", "(*sync.WaitGroup).Wait", "internal/race.Acquire", "internal/synctest.IsAssociated[sync.WaitGroup]", "sync/atomic.CompareAndSwapUint64", "internal/race.Write", "sync.runtime_SemacquireWaitGroup"], unfollowed := true, recurses := true, plainKeys := false, leaving := true, apart := false, narrowed := true }
def FnExactForcesSharedUptoSaid : Prop := fnExactForcesSharedUptoRow.holds Tryz.pinned (OpenSpec.upto fnExactForcesSharedSpec)

end Rows
end Go.Proofs.YtcgnmnbjgamedabGreat

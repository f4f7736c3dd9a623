/-
  No cell of these rows narrows 'for every input' (looked for: loops, veiled, ifaces, maps, wideKeys, modest, calm, conditions, laid).
  DERIVED. THE GIVEN ROWS OF THIS SEAT. 7 by the template 'for every input the law returns true; each argument reads behind the call as it read before'; 0 by the template 'total and deterministic' (their statements: YtockhhfehjoldabTotals.lean).
  GIVEN WITH THE SEED: the statements are not yours to turn. If you find one false, say at which input.
  Laid BY PROGRAM, IN A SANDBOX (cutbox-rows.mjs): the forced cells as the released guide's own fill.sh prints them over the translation 5016033684470fb4… (all of the seat's roots in one cut). By AI agents, Wed Nov 11 2026. No macro, syntax, notation, axiom, sorry.
-/
import Derived.Test.YtockhhfehjoldabChecked
import GoSem.Claim
import GoSem.ClaimJoined
import GoSem.ClaimMapViews
import Derived.JoinedTies
import Derived.KernelRfl
namespace Go.Proofs.Ytockhhfehjoldab
/- THE CELL 'sum', in the pinned program and in every row, IS THE sha256 OF THE DUMP (.gsa) THAT YtockhhfehjoldabProg.lean LOADS. Nothing in Lean hashes anything: it is a label: what it is worth is what the hold of that sum in a sandbox is worth. -/
noncomputable def Try.pinned : Pinned := { name := "ytockhhfehjoldab", sum := "5016033684470fb464221190aeb0d7bcc2d824fd77d694c49ba9549324540503", checked := Try.checked }
namespace Rows
def none {H : Type} : Left H := { results := [], args := [] }

/-- 'laws.FnExactSharesOf': WHATEVER THE INPUT: true; the input reads as it did. -/
def fnExactSharesOfSpec : ChangeSpec := { name := "fnExactSharesOf", fn := fun _ => fun
  | [d1, d2] => { results := [.lit (.bool true)], args := [d1, d2] }
  | _ => none }
def fnExactSharesOfRow : OpenClaim := { program := "ytockhhfehjoldab", sum := "5016033684470fb464221190aeb0d7bcc2d824fd77d694c49ba9549324540503", func := "loop.example/g01222/laws.FnExactSharesOf", spec := "fnExactSharesOf", plainKeys := false, apart := false }
def FnExactSharesOfSaid : Prop := fnExactSharesOfRow.holds Try.pinned (OpenSpec.ofChange fnExactSharesOfSpec)

/-- ITS FALSE NEIGHBOUR: 'it returns false'. Refute it at one input. -/
def fnExactSharesOfWrong : ChangeSpec := { name := "fnExactSharesOf", fn := fun _ => fun
  | [d1, d2] => { results := [.lit (.bool false)], args := [d1, d2] }
  | _ => none }
def FnExactSharesOfWrongFalsely : Prop := fnExactSharesOfRow.holds Try.pinned (OpenSpec.ofChange fnExactSharesOfWrong)

/-- 'laws.FnExactColoursOf': WHATEVER THE INPUT: true; the input reads as it did. -/
def fnExactColoursOfSpec : ChangeSpec := { name := "fnExactColoursOf", fn := fun _ => fun
  | [d] => { results := [.lit (.bool true)], args := [d] }
  | _ => none }
def fnExactColoursOfRow : OpenClaim := { program := "ytockhhfehjoldab", sum := "5016033684470fb464221190aeb0d7bcc2d824fd77d694c49ba9549324540503", func := "loop.example/g01222/laws.FnExactColoursOf", spec := "fnExactColoursOf", plainKeys := false, apart := false }
def FnExactColoursOfSaid : Prop := fnExactColoursOfRow.holds Try.pinned (OpenSpec.ofChange fnExactColoursOfSpec)

/-- ITS FALSE NEIGHBOUR: 'it returns false'. Refute it at one input. -/
def fnExactColoursOfWrong : ChangeSpec := { name := "fnExactColoursOf", fn := fun _ => fun
  | [d] => { results := [.lit (.bool false)], args := [d] }
  | _ => none }
def FnExactColoursOfWrongFalsely : Prop := fnExactColoursOfRow.holds Try.pinned (OpenSpec.ofChange fnExactColoursOfWrong)

/-- 'laws.FnExactCountColours': WHATEVER THE INPUT: true; the input reads as it did. -/
def fnExactCountColoursSpec : ChangeSpec := { name := "fnExactCountColours", fn := fun _ => fun
  | [d] => { results := [.lit (.bool true)], args := [d] }
  | _ => none }
def fnExactCountColoursRow : OpenClaim := { program := "ytockhhfehjoldab", sum := "5016033684470fb464221190aeb0d7bcc2d824fd77d694c49ba9549324540503", func := "loop.example/g01222/laws.FnExactCountColours", spec := "fnExactCountColours", plainKeys := false, apart := false }
def FnExactCountColoursSaid : Prop := fnExactCountColoursRow.holds Try.pinned (OpenSpec.ofChange fnExactCountColoursSpec)

/-- ITS FALSE NEIGHBOUR: 'it returns false'. Refute it at one input. -/
def fnExactCountColoursWrong : ChangeSpec := { name := "fnExactCountColours", fn := fun _ => fun
  | [d] => { results := [.lit (.bool false)], args := [d] }
  | _ => none }
def FnExactCountColoursWrongFalsely : Prop := fnExactCountColoursRow.holds Try.pinned (OpenSpec.ofChange fnExactCountColoursWrong)

/-- 'laws.FnExactColourClass': WHATEVER THE INPUT: true; the input reads as it did. -/
def fnExactColourClassSpec : ChangeSpec := { name := "fnExactColourClass", fn := fun _ => fun
  | [d1, d2] => { results := [.lit (.bool true)], args := [d1, d2] }
  | _ => none }
def fnExactColourClassRow : OpenClaim := { program := "ytockhhfehjoldab", sum := "5016033684470fb464221190aeb0d7bcc2d824fd77d694c49ba9549324540503", func := "loop.example/g01222/laws.FnExactColourClass", spec := "fnExactColourClass", plainKeys := false, apart := false }
def FnExactColourClassSaid : Prop := fnExactColourClassRow.holds Try.pinned (OpenSpec.ofChange fnExactColourClassSpec)

/-- ITS FALSE NEIGHBOUR: 'it returns false'. Refute it at one input. -/
def fnExactColourClassWrong : ChangeSpec := { name := "fnExactColourClass", fn := fun _ => fun
  | [d1, d2] => { results := [.lit (.bool false)], args := [d1, d2] }
  | _ => none }
def FnExactColourClassWrongFalsely : Prop := fnExactColourClassRow.holds Try.pinned (OpenSpec.ofChange fnExactColourClassWrong)

/-- 'laws.FnExactAreColours': WHATEVER THE INPUT: true; the input reads as it did. -/
def fnExactAreColoursSpec : ChangeSpec := { name := "fnExactAreColours", fn := fun _ => fun
  | [d1, d2] => { results := [.lit (.bool true)], args := [d1, d2] }
  | _ => none }
def fnExactAreColoursRow : OpenClaim := { program := "ytockhhfehjoldab", sum := "5016033684470fb464221190aeb0d7bcc2d824fd77d694c49ba9549324540503", func := "loop.example/g01222/laws.FnExactAreColours", spec := "fnExactAreColours", plainKeys := false, apart := false }
def FnExactAreColoursSaid : Prop := fnExactAreColoursRow.holds Try.pinned (OpenSpec.ofChange fnExactAreColoursSpec)

/-- ITS FALSE NEIGHBOUR: 'it returns false'. Refute it at one input. -/
def fnExactAreColoursWrong : ChangeSpec := { name := "fnExactAreColours", fn := fun _ => fun
  | [d1, d2] => { results := [.lit (.bool false)], args := [d1, d2] }
  | _ => none }
def FnExactAreColoursWrongFalsely : Prop := fnExactAreColoursRow.holds Try.pinned (OpenSpec.ofChange fnExactAreColoursWrong)

/-- 'laws.FnExactHingesOf': WHATEVER THE INPUT: true; the input reads as it did. -/
def fnExactHingesOfSpec : ChangeSpec := { name := "fnExactHingesOf", fn := fun _ => fun
  | [d] => { results := [.lit (.bool true)], args := [d] }
  | _ => none }
def fnExactHingesOfRow : OpenClaim := { program := "ytockhhfehjoldab", sum := "5016033684470fb464221190aeb0d7bcc2d824fd77d694c49ba9549324540503", func := "loop.example/g01222/laws.FnExactHingesOf", spec := "fnExactHingesOf", unfollowed := true, recurses := true, plainKeys := false, apart := false }
def FnExactHingesOfSaid : Prop := fnExactHingesOfRow.holds Try.pinned (OpenSpec.ofChange fnExactHingesOfSpec)

/-- ITS FALSE NEIGHBOUR: 'it returns false'. Refute it at one input. -/
def fnExactHingesOfWrong : ChangeSpec := { name := "fnExactHingesOf", fn := fun _ => fun
  | [d] => { results := [.lit (.bool false)], args := [d] }
  | _ => none }
def FnExactHingesOfWrongFalsely : Prop := fnExactHingesOfRow.holds Try.pinned (OpenSpec.ofChange fnExactHingesOfWrong)

/-- 'laws.FnExactWorstSpring': WHATEVER THE INPUT: true; the input reads as it did. -/
def fnExactWorstSpringSpec : ChangeSpec := { name := "fnExactWorstSpring", fn := fun _ => fun
  | [d] => { results := [.lit (.bool true)], args := [d] }
  | _ => none }
def fnExactWorstSpringRow : OpenClaim := { program := "ytockhhfehjoldab", sum := "5016033684470fb464221190aeb0d7bcc2d824fd77d694c49ba9549324540503", func := "loop.example/g01222/laws.FnExactWorstSpring", spec := "fnExactWorstSpring", inPlace := ["math.sqrt", "math.Float64bits", "math.Float64frombits"], unfollowed := true, recurses := true, plainKeys := false, apart := false }
def FnExactWorstSpringSaid : Prop := fnExactWorstSpringRow.holds Try.pinned (OpenSpec.ofChange fnExactWorstSpringSpec)

/-- ITS FALSE NEIGHBOUR: 'it returns false'. Refute it at one input. -/
def fnExactWorstSpringWrong : ChangeSpec := { name := "fnExactWorstSpring", fn := fun _ => fun
  | [d] => { results := [.lit (.bool false)], args := [d] }
  | _ => none }
def FnExactWorstSpringWrongFalsely : Prop := fnExactWorstSpringRow.holds Try.pinned (OpenSpec.ofChange fnExactWorstSpringWrong)

/- THE SECOND FORM. 'bulk': how many values and letters a reading holds, each counted each time it is reached (what is shared counts as often as it is met; a slice's spare places count too). A statement '..UptoSaid' is the law's where the arguments, and the package variables that the reading takes, are together of bulk at most 1048576: NARROWER than '..Said'. Prove '..Said' where nothing that the law and all that it calls make is longer than what came in: it says more and counts as full. Else prove '..UptoSaid'. A law counts once. -/
mutual
def uptoBulk {H : Type} : DataW H → Nat
  | .lit (.string bytes) => bytes.length + 1
  | .lit _ => 1
  | .nil => 1
  | .ptr d => uptoBulk d + 1
  | .slice elems spare => uptoBulkAll elems + uptoBulkAll spare + 1
  | .agg parts => uptoBulkAll parts + 1
  | .iface _ d => uptoBulk d + 1
  | .map entries => uptoBulkEntries entries + 1
  | .held _ => 1
def uptoBulkAll {H : Type} : List (DataW H) → Nat
  | [] => 0
  | d :: r => uptoBulk d + uptoBulkAll r
def uptoBulkEntries {H : Type} : List (Lit × DataW H) → Nat
  | [] => 0
  | x :: r => uptoBulkEntry x + uptoBulkEntries r
def uptoBulkEntry {H : Type} : Lit × DataW H → Nat
  | (.string bytes, d) => bytes.length + uptoBulk d + 1
  | (_, d) => uptoBulk d + 1
 end
def uptoSmall : (H : Type) → List (DataW H) → Bool := fun _ ds => decide (uptoBulkAll ds ≤ 1048576)
def OpenSpec.upto (s : _root_.Go.ChangeSpec) : _root_.Go.OpenSpec := { _root_.Go.OpenSpec.ofChange s with cond := some uptoSmall }

/-- 'laws.FnExactSharesOf', WHERE WHAT IT READS IS OF BULK AT MOST 1048576: true; the input reads as it did. -/
def fnExactSharesOfUptoRow : OpenClaim := { program := "ytockhhfehjoldab", sum := "5016033684470fb464221190aeb0d7bcc2d824fd77d694c49ba9549324540503", func := "loop.example/g01222/laws.FnExactSharesOf", spec := "fnExactSharesOf", plainKeys := false, apart := false, narrowed := true }
def FnExactSharesOfUptoSaid : Prop := fnExactSharesOfUptoRow.holds Try.pinned (OpenSpec.upto fnExactSharesOfSpec)

/-- 'laws.FnExactColoursOf', WHERE WHAT IT READS IS OF BULK AT MOST 1048576: true; the input reads as it did. -/
def fnExactColoursOfUptoRow : OpenClaim := { program := "ytockhhfehjoldab", sum := "5016033684470fb464221190aeb0d7bcc2d824fd77d694c49ba9549324540503", func := "loop.example/g01222/laws.FnExactColoursOf", spec := "fnExactColoursOf", plainKeys := false, apart := false, narrowed := true }
def FnExactColoursOfUptoSaid : Prop := fnExactColoursOfUptoRow.holds Try.pinned (OpenSpec.upto fnExactColoursOfSpec)

/-- 'laws.FnExactCountColours', WHERE WHAT IT READS IS OF BULK AT MOST 1048576: true; the input reads as it did. -/
def fnExactCountColoursUptoRow : OpenClaim := { program := "ytockhhfehjoldab", sum := "5016033684470fb464221190aeb0d7bcc2d824fd77d694c49ba9549324540503", func := "loop.example/g01222/laws.FnExactCountColours", spec := "fnExactCountColours", plainKeys := false, apart := false, narrowed := true }
def FnExactCountColoursUptoSaid : Prop := fnExactCountColoursUptoRow.holds Try.pinned (OpenSpec.upto fnExactCountColoursSpec)

/-- 'laws.FnExactColourClass', WHERE WHAT IT READS IS OF BULK AT MOST 1048576: true; the input reads as it did. -/
def fnExactColourClassUptoRow : OpenClaim := { program := "ytockhhfehjoldab", sum := "5016033684470fb464221190aeb0d7bcc2d824fd77d694c49ba9549324540503", func := "loop.example/g01222/laws.FnExactColourClass", spec := "fnExactColourClass", plainKeys := false, apart := false, narrowed := true }
def FnExactColourClassUptoSaid : Prop := fnExactColourClassUptoRow.holds Try.pinned (OpenSpec.upto fnExactColourClassSpec)

/-- 'laws.FnExactAreColours', WHERE WHAT IT READS IS OF BULK AT MOST 1048576: true; the input reads as it did. -/
def fnExactAreColoursUptoRow : OpenClaim := { program := "ytockhhfehjoldab", sum := "5016033684470fb464221190aeb0d7bcc2d824fd77d694c49ba9549324540503", func := "loop.example/g01222/laws.FnExactAreColours", spec := "fnExactAreColours", plainKeys := false, apart := false, narrowed := true }
def FnExactAreColoursUptoSaid : Prop := fnExactAreColoursUptoRow.holds Try.pinned (OpenSpec.upto fnExactAreColoursSpec)

/-- 'laws.FnExactHingesOf', WHERE WHAT IT READS IS OF BULK AT MOST 1048576: true; the input reads as it did. -/
def fnExactHingesOfUptoRow : OpenClaim := { program := "ytockhhfehjoldab", sum := "5016033684470fb464221190aeb0d7bcc2d824fd77d694c49ba9549324540503", func := "loop.example/g01222/laws.FnExactHingesOf", spec := "fnExactHingesOf", unfollowed := true, recurses := true, plainKeys := false, apart := false, narrowed := true }
def FnExactHingesOfUptoSaid : Prop := fnExactHingesOfUptoRow.holds Try.pinned (OpenSpec.upto fnExactHingesOfSpec)

/-- 'laws.FnExactWorstSpring', WHERE WHAT IT READS IS OF BULK AT MOST 1048576: true; the input reads as it did. -/
def fnExactWorstSpringUptoRow : OpenClaim := { program := "ytockhhfehjoldab", sum := "5016033684470fb464221190aeb0d7bcc2d824fd77d694c49ba9549324540503", func := "loop.example/g01222/laws.FnExactWorstSpring", spec := "fnExactWorstSpring", inPlace := ["math.sqrt", "math.Float64bits", "math.Float64frombits"], unfollowed := true, recurses := true, plainKeys := false, apart := false, narrowed := true }
def FnExactWorstSpringUptoSaid : Prop := fnExactWorstSpringUptoRow.holds Try.pinned (OpenSpec.upto fnExactWorstSpringSpec)

end Rows
end Go.Proofs.Ytockhhfehjoldab

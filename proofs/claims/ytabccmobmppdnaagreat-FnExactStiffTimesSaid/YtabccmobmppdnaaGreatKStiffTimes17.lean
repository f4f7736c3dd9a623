/-
Texts in one: what StiffTimes stands on, part 17. Conditions: those of each.
-/
import Derived.Test.YtabccmobmppdnaaGreatKStiffTimes16
import Derived.Lib.SliceRun
import Derived.Lib.SmallJoins
import Derived.ChangeSlices
-- halved
namespace Go.Proofs.YtabccmobmppdnaaGreat
open Go Fk Go.RowKit Go.Maps
set_option linter.unusedVariables false
set_option maxRecDepth 16000
structure Tab (w0 : World) (tb B n : Nat) (D : DataW Unit) (L : List ((Int × Int) × Int)) : Prop where
 box : w0.cell? ⟨tb, 0, none⟩ = some (.map (some B))
 own : w0.ownsGroups Tryz.prog 234 (B + 1) 2 .i64 B n D
 is : GroupsOf D L
 few : n < 4096
 short : ∀ x, (grp L x).length < 4096
end Go.Proofs.YtabccmobmppdnaaGreat
namespace Go.Proofs.YtabccmobmppdnaaGreat
open Go Fk Go.RowKit Go.Maps
set_option linter.unusedVariables false
set_option maxRecDepth 16000
structure RowI (w0 : World) (g n j : Nat) (es ks : List (Int × Int)) (W : World) : Prop where
 below : Below w0.heap.size w0 W
 lo : w0.heap.size ≤ g
 lt : g < W.heap.size
 alive : ∀ q, q < n * 2 → ∃ v, W.cell? ⟨g, q, none⟩ = some v
 free : ∀ q, W.frozen? ⟨g, q, none⟩ = false
 kept : ∀ t, t < ks.length → W.cell? ⟨g, t * 2, none⟩ = some (.int .i64 (ks.getD t (0, 0)).1) ∧ W.cell? ⟨g, t * 2 + 1, none⟩ = some (.int .i64 (ks.getD t (0, 0)).2)
 rest : ∀ t, j ≤ t → t < n → W.cell? ⟨g, t * 2, none⟩ = some (.int .i64 (es.getD t (0, 0)).1) ∧ W.cell? ⟨g, t * 2 + 1, none⟩ = some (.int .i64 (es.getD t (0, 0)).2)
end Go.Proofs.YtabccmobmppdnaaGreat
namespace Go.Proofs.YtabccmobmppdnaaGreat
open Go Fk Go.RowKit
set_option linter.unusedVariables false
set_option maxRecDepth 8000
end Go.Proofs.YtabccmobmppdnaaGreat
namespace Go.Proofs.YtabccmobmppdnaaGreat
namespace Fk
open Go Go.RowKit
set_option linter.unusedVariables false
structure HW where
 p : Int
 k : Int
 x : Nat
 y : Nat
 z : Nat
 s : Nat
 t : Nat
 u : Nat
section
open Go.ChangeShapes Go.WideShapes Go.Deep
variable {H : Type} {enc : TypeId × Value → H} {P : Program} {w : World} {base : Nat} {held : Bool}
end
end Fk
end Go.Proofs.YtabccmobmppdnaaGreat
namespace Go.Proofs.YtabccmobmppdnaaGreat
open Go Fk Go.RowKit
set_option linter.unusedVariables false
set_option maxRecDepth 8000
def sizeB (x : Nat) : Bool := finB x && (FloatKind.f32.format.order x 0 == some .gt)
theorem impl_isMeasure (x : Nat) (w : World) (hx : x < 4294967296) :
  Calls Tryz.prog 104 #[.float .f32 x] w fun e w' => e = .returned (.bool (sizeB x)) ∧ ∃ n, w' = w.drewN n := by
 have u := Tryz.underlying27
 unfold sizeB
 have HJ := Lib.hid (fun w => impl_IsFinite x w hx)
 generalize finB x = f at *
 cases f
 ·go_enter Tryz.func104, Tryz.ntmps104
  go_wp2_with (go_at_call 152; refine (HJ.out _).mono ?_; rintro e w1 ⟨rfl, n, hw⟩; rw [hw]; clear hw w1)
  go_ret
  exact ⟨rfl, _, rfl⟩
 ·go_enter Tryz.func104, Tryz.ntmps104
  go_wp2_with (go_at_call 152; refine (HJ.out _).mono ?_; rintro e w1 ⟨rfl, n, hw⟩; rw [hw]; clear hw w1)
  go_ret
  exact ⟨rfl, _, rfl⟩
end Go.Proofs.YtabccmobmppdnaaGreat

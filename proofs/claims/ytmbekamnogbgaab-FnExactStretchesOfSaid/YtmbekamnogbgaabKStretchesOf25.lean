/-
Texts in one: what StretchesOf stands on, part 25. Conditions: those of each.
-/
import Derived.Test.YtmbekamnogbgaabKStretchesOf24

/-
Normals of triangles: what the program returns. Conditions: the mesh is valid and has the triangle.
-/
namespace Go.Proofs.Ytmbekamnogbgaab
open Go Fk Go.RowKit
set_option linter.unusedVariables false
set_option maxRecDepth 8000

end Go.Proofs.Ytmbekamnogbgaab


/-
Normals: all arguments, of the program and of its model. Conditions: none beyond that the mesh lies in memory.
-/
namespace Go.Proofs.Ytmbekamnogbgaab
open Go Fk Go.RowKit
set_option linter.unusedVariables false
set_option maxRecDepth 8000

end Go.Proofs.Ytmbekamnogbgaab


/-
Normals: all arguments, of the model. Conditions: none beyond that the mesh lies in memory.
-/
namespace Go.Proofs.Ytmbekamnogbgaab
open Go Fk Go.RowKit
set_option linter.unusedVariables false
set_option maxRecDepth 8000

theorem l02IsB (pb : Nat) (pa ta : Option Addr) (pl pc tl tc : Nat) (cs : List C3) (ts : List (List Int)) (w : World) (c0 : w.cell? ⟨pb, 0, none⟩ = some (.slice pa pl pc)) (c1 : w.cell? ⟨pb, 1, none⟩ = some (.slice ta tl tc)) (hp : IsVs w pa pl pc cs) (ht : IsTs w ta tl tc ts) :
    Calls Try.prog 53 #[.pointer (some ⟨pb, 0, none⟩)] w fun e w' => e = .returned (.bool (validB cs ts)) ∧ Below w.heap.size w w' :=
  (l02Is pb pa ta pl pc tl tc cs ts w c0 c1 hp ht).mono fun _ _ ⟨he, n, hw⟩ => ⟨he, by rw [hw]; exact below_drewN (Below.refl _ _) n⟩
end Go.Proofs.Ytmbekamnogbgaab

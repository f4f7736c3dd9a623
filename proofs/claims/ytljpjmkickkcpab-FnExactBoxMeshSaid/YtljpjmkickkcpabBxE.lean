
/-
Boxes: what the program and the model return, whatever number is given. Conditions: none.
-/
import Derived.Test.YtljpjmkickkcpabBxA
import Derived.Test.YtljpjmkickkcpabBxC
namespace Go.Proofs.Ytljpjmkickkcpab
open Go Fk Go.RowKit
set_option linter.unusedVariables false
set_option maxRecDepth 8000
set_option maxHeartbeats 1000000 in
theorem impl_BoxMesh_out (z : Nat) (w : World) (hz : z < 4294967296) (h : sizeB z = false) :
    Calls Try.prog 34 #[.float .f32 z] w fun e w' => MadeG w w' e false [] [] := by
  have um := Try.underlying32
  have J3 := Lib.hid (fun w => h ▸ impl_isMeasure z w hz)
  have NB : Hid (NilBox (w.alloc (.cells #[.slice none 0 0, .slice none 0 0] 32)) w.heap.size) := Lib.hid NilBox.new
  have HB : Hid (Below w.heap.size w (w.alloc (.cells #[.slice none 0 0, .slice none 0 0] 32))) := Lib.hid ((Below.refl _ _).alloc (Nat.le_refl _) _)
  have z0 := fun n => (show ((w.alloc (.cells #[.slice none 0 0, .slice none 0 0] 32)).drewN n).cell? ⟨w.heap.size, 0, none⟩ = some (.slice none 0 0) from NB.out.1)
  have z1 := fun n => (show ((w.alloc (.cells #[.slice none 0 0, .slice none 0 0] 32)).drewN n).cell? ⟨w.heap.size, 1, none⟩ = some (.slice none 0 0) from NB.out.2.1)
  clear h
  go_enter Try.func34, Try.ntmps34
  go_wp2_with fail
  refine (J3.out _).mono ?_
  rintro e w1 ⟨rfl, n, hw⟩
  rw [hw]; clear hw w1
  go_wp2
  exact bodyPost_ret (v := .tuple #[.agg #[.slice none 0 0, .slice none 0 0], .bool false]) (by simp [results, Try.results34, go_sem]) rfl (madeG_none (below_drewN HB.out n))
set_option maxHeartbeats 1000000 in
theorem spec_BoxMesh_out (z : Nat) (w : World) (hz : z < 4294967296) (h : sizeB z = false) :
    Calls Try.prog 33 #[.float .f32 z] w fun e w' => Made w w' e false [] [] := by
  have um := Try.underlying32
  have J3 := Lib.hid (fun w => h ▸ l02Size z w hz)
  have NB : Hid (NilBox (w.alloc (.cells #[.slice none 0 0, .slice none 0 0] 32)) w.heap.size) := Lib.hid NilBox.new
  have HB : Hid (Below w.heap.size w (w.alloc (.cells #[.slice none 0 0, .slice none 0 0] 32))) := Lib.hid ((Below.refl _ _).alloc (Nat.le_refl _) _)
  clear h
  go_enter Try.func33, Try.ntmps33
  go_wp2_with fail
  refine (J3.out _).mono ?_
  rintro e w1 ⟨rfl, n, hw⟩
  rw [hw]; clear hw w1
  go_wp2
  exact bodyPost_ret (v := .tuple #[.agg #[.slice none 0 0, .slice none 0 0], .bool false]) (by simp [results, Try.results33, go_sem]) rfl (made_none (below_drewN HB.out n))
def bxVs (z : Nat) (d : Option Nat) : List C3 := if sizeB z = true then boxCs d else []
def bxTs (z : Nat) : List (List Int) := if sizeB z = true then boxTs else []
theorem impl_BoxMesh (z : Nat) (d : Option Nat) (hz : FV .f32 z d) (w : World) :
    Calls Try.prog 34 #[.float .f32 z] w fun e w' => MadeG w w' e (sizeB z) (bxVs z d) (bxTs z) := by
  unfold bxVs bxTs
  cases h : sizeB z
  · exact impl_BoxMesh_out z w hz.1 h
  · exact impl_BoxMesh_in z d w hz h
theorem spec_BoxMesh (z : Nat) (d : Option Nat) (hz : FV .f32 z d) (w : World) :
    Calls Try.prog 33 #[.float .f32 z] w fun e w' => Made w w' e (sizeB z) (bxVs z d) (bxTs z) := by
  unfold bxVs bxTs
  cases h : sizeB z
  · exact spec_BoxMesh_out z w hz.1 h
  · exact spec_BoxMesh_in z d w hz h
theorem bx_len (z : Nat) (d : Option Nat) : (bxVs z d).length ≤ 64 ∧ (bxTs z).length ≤ 128 := by
  unfold bxVs bxTs
  split
  · rw [boxCs_len]; exact ⟨by omega, by decide⟩
  · simp
theorem FnExactBoxMesh_law (z : Nat) (w : World) (hz : z < 2 ^ FloatKind.f32.format.width) :
    Calls Try.prog 9 #[.float .f32 z] w fun e w' => e = .returned (.bool true) ∧ Below w.heap.size w w' :=
  boxMesh_law z _ _ _ (fun w => spec_BoxMesh z (cls .f32 z) (FV.self hz) w) (fun w => impl_BoxMesh z (cls .f32 z) (FV.self hz) w) (bx_len z (cls .f32 z)).1 (bx_len z (cls .f32 z)).2 w
end Go.Proofs.Ytljpjmkickkcpab

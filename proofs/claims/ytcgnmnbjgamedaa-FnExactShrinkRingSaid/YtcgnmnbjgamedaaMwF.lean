
/-
Two meshes that hold the same are the same. Conditions: none.
-/
import Derived.Test.YtcgnmnbjgamedaaMwE
namespace Go.Proofs.Ytcgnmnbjgamedaa
open Go Fk Go.RowKit
set_option linter.unusedVariables false
set_option maxRecDepth 8000

set_option maxHeartbeats 1000000 in
theorem laws_eqMesh (pa ta pa' ta' : Option Addr) (pl pc tl tc pc' tc' : Nat) (cs : List C3) (ts : List (List Int)) (w : World) (hp : IsVs w pa pl pc cs) (ht : IsTs w ta tl tc ts) (hp' : IsVs w pa' pl pc' cs) (ht' : IsTs w ta' tl tc' ts) :
    Calls Try.prog 36 #[.agg #[.slice pa pl pc, .slice ta tl tc], .agg #[.slice pa' pl pc', .slice ta' tl tc']] w fun e w' => e = .returned (.bool true) ∧ Below w.heap.size w w' := by
  have ui := Try.underlying49
  have hB0 : Below w.heap.size w ((w.alloc (.cells #[.slice pa pl pc, .slice ta tl tc] 49)).alloc (.cells #[.slice pa' pl pc', .slice ta' tl tc'] 49)) := ((Below.refl _ _).alloc (Nat.le_refl _) _).alloc (by simp) _
  have c1 : ((w.alloc (.cells #[.slice pa pl pc, .slice ta tl tc] 49)).alloc (.cells #[.slice pa' pl pc', .slice ta' tl tc'] 49)).cell? ⟨w.heap.size, 1, none⟩ = some (.slice ta tl tc) := by go_simp
  have c2 : ((w.alloc (.cells #[.slice pa pl pc, .slice ta tl tc] 49)).alloc (.cells #[.slice pa' pl pc', .slice ta' tl tc'] 49)).cell? ⟨w.heap.size + 1, 1, none⟩ = some (.slice ta' tl tc') := by go_simp
  have hsz : ((w.alloc (.cells #[.slice pa pl pc, .slice ta tl tc] 49)).alloc (.cells #[.slice pa' pl pc', .slice ta' tl tc'] 49)).heap.size = w.heap.size + 1 + 1 := by simp
  have P1 := Lib.hid (hp.below hB0)
  have P2 := Lib.hid (hp'.below hB0)
  have T1 := Lib.hid ht
  have T2 := Lib.hid ht'
  have HB0 := Lib.hid hB0
  have HSZ := Lib.hid hsz
  have C1 := Lib.hid c1
  have C2 := Lib.hid c2
  clear hp hp' ht ht' hB0 hsz c1 c2
  go_enter Try.func36, Try.ntmps36
  go_wp2_with fail
  refine (laws_eqVectorS _ _ _ _ _ _ _ P1.out P2.out).mono ?_
  rintro e w1 ⟨rfl, hB1⟩
  have hsz := HSZ.out
  have lt0 : w.heap.size < ((w.alloc (.cells #[.slice pa pl pc, .slice ta tl tc] 49)).alloc (.cells #[.slice pa' pl pc', .slice ta' tl tc'] 49)).heap.size := by rw [hsz]; omega
  have lt1 : w.heap.size + 1 < ((w.alloc (.cells #[.slice pa pl pc, .slice ta tl tc] 49)).alloc (.cells #[.slice pa' pl pc', .slice ta' tl tc'] 49)).heap.size := by rw [hsz]; omega
  have d1 : w1.cell? ⟨w.heap.size, 1, none⟩ = some (.slice ta tl tc) := by rw [hB1.cell (p := ⟨w.heap.size, 1, none⟩) lt0]; exact C1.out
  have d2 : w1.cell? ⟨w.heap.size + 1, 1, none⟩ = some (.slice ta' tl tc') := by rw [hB1.cell (p := ⟨w.heap.size + 1, 1, none⟩) lt1]; exact C2.out
  have hB : Below w.heap.size w w1 := HB0.out.trans (hB1.mono (by rw [hsz]; omega))
  have HB := Lib.hid hB
  clear hB1 hsz lt0 lt1 P1 P2 HB0 HSZ C1 C2 hB
  go_wp2_with fail
  refine (laws_eqInt64SS _ _ _ _ _ _ _ (T1.out.below HB.out) (T2.out.below HB.out)).mono ?_
  rintro e w2 ⟨rfl, n, hw⟩
  have HW := Lib.hid hw
  clear hw
  go_wp2
  go_ret
  exact ⟨rfl, by rw [HW.out]; exact below_drewN HB.out _⟩
end Go.Proofs.Ytcgnmnbjgamedaa

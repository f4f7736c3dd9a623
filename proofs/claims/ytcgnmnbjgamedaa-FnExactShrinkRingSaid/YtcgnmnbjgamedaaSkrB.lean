
/-
Meshes of another size: what the program returns. Conditions: none.
-/
import Derived.Test.YtcgnmnbjgamedaaSkrA
import Derived.Test.YtcgnmnbjgamedaaHmJ0
namespace Go.Proofs.Ytcgnmnbjgamedaa
open Go Fk Go.RowKit
set_option linter.unusedVariables false
set_option maxRecDepth 8000
theorem impl_ShrinkRing (pa ta : Option Addr) (pl pc tl tc : Nat) (cs : List C3) (ts : List (List Int)) (z : Nat) (d : Option Nat) (w : World) (hp : IsVs w pa pl pc cs) (ht : IsTs w ta tl tc ts) (hb : FV .f32 z d) :
    Calls Try.prog 35 #[.agg #[.slice pa pl pc, .slice ta tl tc], .float .f32 z] w fun e w' => MadeG w w' e (validB cs ts) (rV (fun c => shrC c d) cs ts) (rT cs ts) := by
  have ui := Try.underlying49
  have uv := Try.underlying33
  have u := Try.underlying22
  have hB0 : Below w.heap.size w (((w.alloc (.cells #[.slice pa pl pc, .slice ta tl tc] 49)).alloc (.cells #[.float .f32 z] 22)).alloc (.cells #[.slice none 0 0, .slice none 0 0] 49)) := ((((Below.refl _ _).alloc (Nat.le_refl _) _).alloc (by simp) _).alloc (by simp; omega) _)
  have hsz : (((w.alloc (.cells #[.slice pa pl pc, .slice ta tl tc] 49)).alloc (.cells #[.float .f32 z] 22)).alloc (.cells #[.slice none 0 0, .slice none 0 0] 49)).heap.size = w.heap.size + 1 + 1 + 1 := by simp
  have k1 : (((w.alloc (.cells #[.slice pa pl pc, .slice ta tl tc] 49)).alloc (.cells #[.float .f32 z] 22)).alloc (.cells #[.slice none 0 0, .slice none 0 0] 49)).cell? ⟨w.heap.size, 1, none⟩ = some (.slice ta tl tc) := by go_simp
  have k0 : (((w.alloc (.cells #[.slice pa pl pc, .slice ta tl tc] 49)).alloc (.cells #[.float .f32 z] 22)).alloc (.cells #[.slice none 0 0, .slice none 0 0] 49)).cell? ⟨w.heap.size, 0, none⟩ = some (.slice pa pl pc) := by go_simp
  have zb : (((w.alloc (.cells #[.slice pa pl pc, .slice ta tl tc] 49)).alloc (.cells #[.float .f32 z] 22)).alloc (.cells #[.slice none 0 0, .slice none 0 0] 49)).cell? ⟨w.heap.size + 1, 0, none⟩ = some (.float .f32 z) := by go_simp
  have zr : (((w.alloc (.cells #[.slice pa pl pc, .slice ta tl tc] 49)).alloc (.cells #[.float .f32 z] 22)).alloc (.cells #[.slice none 0 0, .slice none 0 0] 49)).ownsRow w.heap.size 49 2 (.slice (some ⟨w.heap.size + 1 + 1, 0, none⟩) 1 1) 1 [.slice none 0 0, .slice none 0 0] := by
    have := World.ownsRow_lit (base := w.heap.size) (e := 49) (size := 2) ((w.alloc (.cells #[.slice pa pl pc, .slice ta tl tc] 49)).alloc (.cells #[.float .f32 z] 22)) #[.slice none 0 0, .slice none 0 0] 1 (by simp; omega) (by decide) rfl
    simpa using this
  have hJ := shrink_places (w.heap.size + 1) (fun c => shrC c d) pa ta pl pc tl tc cs ts _ (hp.below hB0) (ht.below hB0) (fun w' x y z' c hB hx hy hz => impl_shrink1 x y z' (w.heap.size + 1) z c d w' hx hy hz hb (cell_below hB zb))
  have HJ := Lib.hid hJ
  have HB0 := Lib.hid hB0
  have ZR := Lib.hid zr
  have HSZ := Lib.hid hsz
  clear hJ hB0 zr hsz zb hp ht hb
  generalize rV (fun c => shrC c d) cs ts = rcs at *
  generalize rT cs ts = rts at *
  generalize validB cs ts = ok at *
  generalize hCH : (((w.alloc (.cells #[.slice pa pl pc, .slice ta tl tc] 49)).alloc (.cells #[.float .f32 z] 22)).alloc (.cells #[.slice none 0 0, .slice none 0 0] 49)) = W at *
  go_enter Try.func35, Try.ntmps35
  go_wp2_with fail
  refine HJ.out.mono ?_
  rintro e w1 ⟨⟨qa, qc, ra, rc, F, rfl, hI, hT, hG⟩, hB1⟩
  have ZR1 := Lib.hid (owns_up ZR.out hB1)
  have z0 := cell0_of ZR1.out
  have z1 := cell1_of ZR1.out
  have f0 := ZR1.out.frozenAt 0
  have f1 := ZR1.out.frozenAt 1
  have HB1 := Lib.hid (HB0.out.trans (hB1.mono HB0.out.size))
  have HI := Lib.hid hI
  have HT := Lib.hid hT
  have HG := Lib.hid hG
  clear hB1 hI hT hG hCH
  go_wp2
  have x0 : ∀ u, (w1.setCell ⟨w.heap.size + 1 + 1, 0, none⟩ u).cell? ⟨w.heap.size + 1 + 1, 1, none⟩ = some (.slice none 0 0) := fun u => by rw [World.cell?_setCell_other _ _ _ _ (by simp)]; exact z1
  have r1 : ∀ u v, ((w1.setCell ⟨w.heap.size + 1 + 1, 0, none⟩ u).setCell ⟨w.heap.size + 1 + 1, 1, none⟩ v).cell? ⟨w.heap.size + 1 + 1, 1, none⟩ = some v := fun u v => World.cell?_setCell_same _ _ _ (x0 u)
  have r0 : ∀ u v, ((w1.setCell ⟨w.heap.size + 1 + 1, 0, none⟩ u).setCell ⟨w.heap.size + 1 + 1, 1, none⟩ v).cell? ⟨w.heap.size + 1 + 1, 0, none⟩ = some u := fun u v => by rw [World.cell?_setCell_other _ _ _ _ (by simp)]; exact World.cell?_setCell_same _ _ _ z0
  have hM : ∀ u v, Mark (w.heap.size + 1 + 1) (w.heap.size + 1 + 1 + 1) w1 ((w1.setCell ⟨w.heap.size + 1 + 1, 0, none⟩ u).setCell ⟨w.heap.size + 1 + 1, 1, none⟩ v) := fun u v => (Mark.set (Nat.le_refl _) (by omega)).trans (Mark.set (Nat.le_refl _) (by omega))
  have hs := HSZ.out
  refine bodyPost_ret (v := .tuple #[.agg #[.slice qa rcs.length qc, .slice ra rts.length rc], .bool ok]) (by simp [results, Try.results35, go_sem, r0, r1]) rfl ⟨⟨qa, qc, ra, rc, F, rfl, ?_, ?_, ?_⟩, ?_⟩
  · exact HG.out.vs HI.out (hM _ _) (.inl (by omega))
  · exact HG.out.ts HT.out (hM _ _) (.inl (by omega))
  · exact (HG.out.mark (hM _ _) (.inl (by omega))).wide (by omega) (by simp)
  · exact (HB1.out.setCell (by show w.heap.size ≤ w.heap.size + 1 + 1; omega) _).setCell (by show w.heap.size ≤ w.heap.size + 1 + 1; omega) _
end Go.Proofs.Ytcgnmnbjgamedaa


/-
Meshes that the model gives: valid, or none; grids of the model. Conditions: none.
-/
import Derived.Test.YtljpjmkickkcpabGdC
import Derived.Test.YtljpjmkickkcpabMwH
namespace Go.Proofs.Ytljpjmkickkcpab
open Go Fk Go.RowKit
set_option linter.unusedVariables false
set_option maxRecDepth 8000
theorem tupS_nil (lo : Nat) (w : World) : TupS lo [] [] none 0 none 0 w :=
  ⟨⟨rfl, Nat.le_refl _, by unfold maxLen; omega, fun _ => ⟨rfl, rfl⟩, fun x hx => (by cases hx)⟩, ⟨rfl, Nat.le_refl _, by unfold maxLen; omega, fun _ => ⟨rfl, rfl⟩, fun x hx => (by cases hx)⟩, fun x hx => (by cases hx), fun x hx => (by cases hx)⟩
set_option maxHeartbeats 1000000 in
theorem l02Give (lo : Nat) (pa ta : Option Addr) (pl pc tl tc : Nat) (cs : List C3) (ts : List (List Int)) (w : World) (hp : IsVs w pa pl pc cs) (ht : IsTs w ta tl tc ts) (hl : LV lo w.heap.size pa) (hl' : LT lo w.heap.size w ta tl) :
    Calls Try.prog 90 #[.agg #[.slice pa pl pc, .slice ta tl tc]] w fun e w' => (∃ a c a' c', e = .returned (.tuple #[.agg #[.slice a (rV (fun c => c) cs ts).length c, .slice a' (rT cs ts).length c'], .bool (validB cs ts)]) ∧ TupS lo (rV (fun c => c) cs ts) (rT cs ts) a c a' c' w') ∧ Below w.heap.size w w' := by
  have um := Try.underlying32
  have hB0 : Below w.heap.size w ((w.alloc (.cells #[.slice pa pl pc, .slice ta tl tc] 32)).alloc (.cells #[.slice none 0 0, .slice none 0 0] 32)) := (((Below.refl _ _).alloc (Nat.le_refl _) _).alloc (by simp) _)
  have kb1 : ((w.alloc (.cells #[.slice pa pl pc, .slice ta tl tc] 32)).alloc (.cells #[.slice none 0 0, .slice none 0 0] 32)).cell? ⟨w.heap.size, 1, none⟩ = some (.slice ta tl tc) := by go_simp
  have kb0 : ((w.alloc (.cells #[.slice pa pl pc, .slice ta tl tc] 32)).alloc (.cells #[.slice none 0 0, .slice none 0 0] 32)).cell? ⟨w.heap.size, 0, none⟩ = some (.slice pa pl pc) := by go_simp
  have NB : Hid (NilBox ((w.alloc (.cells #[.slice pa pl pc, .slice ta tl tc] 32)).alloc (.cells #[.slice none 0 0, .slice none 0 0] 32)) (w.heap.size + 1)) := Lib.hid (by
    have := NilBox.new (w := w.alloc (.cells #[.slice pa pl pc, .slice ta tl tc] 32)) (t := 32)
    simpa using this)
  have hJ := l02Is w.heap.size pa ta pl pc tl tc cs ts _ kb0 kb1 (hp.below hB0) (ht.below hB0)
  have hS : TupS lo cs ts pa pc ta tc w := by
    have e1 := hp.1
    have e2 := ht.1
    subst e1 e2
    exact ⟨hp, ht, hl, hl'⟩
  have HS := Lib.hid (hS.below hB0)
  have LP := Lib.hid hp.1
  have LT' := Lib.hid ht.1
  have HB0 := Lib.hid hB0
  have hR3 := rows3h (cs := cs) (ts := ts)
  have HR3 := Lib.hid hR3
  clear hp ht hl hl' hS hB0 hR3
  cases hv : validB cs ts
  · rw [rV_no hv, rT_no hv]
    rw [hv] at hJ
    have HJ := Lib.hid hJ
    clear hJ hv
    go_enter Try.func90, Try.ntmps90
    go_wp2_with fail
    generalize ((w.alloc (.cells #[.slice pa pl pc, .slice ta tl tc] 32)).alloc (.cells #[.slice none 0 0, .slice none 0 0] 32)) = W at *
    refine HJ.out.mono ?_
    rintro e w1 ⟨rfl, n, hw⟩
    rw [hw]; clear hw w1
    have z0 : (W.drewN n).cell? ⟨w.heap.size + 1, 0, none⟩ = some (.slice none 0 0) := NB.out.1
    have z1 : (W.drewN n).cell? ⟨w.heap.size + 1, 1, none⟩ = some (.slice none 0 0) := NB.out.2.1
    have f0 : (W.drewN n).frozen? ⟨w.heap.size + 1, 0, none⟩ = false := NB.out.2.2.2 0
    have f1 : (W.drewN n).frozen? ⟨w.heap.size + 1, 1, none⟩ = false := NB.out.2.2.2 1
    have HB1 : Hid (Below w.heap.size w (W.drewN n)) := Lib.hid (below_drewN HB0.out n)
    generalize W.drewN n = W1 at *
    go_wp2
    have x0' : ∀ u, (W1.setCell ⟨w.heap.size + 1, 0, none⟩ u).cell? ⟨w.heap.size + 1, 1, none⟩ = some (.slice none 0 0) := fun u => by rw [World.cell?_setCell_other _ _ _ _ (by simp)]; exact z1
    have r1 : ∀ u v, ((W1.setCell ⟨w.heap.size + 1, 0, none⟩ u).setCell ⟨w.heap.size + 1, 1, none⟩ v).cell? ⟨w.heap.size + 1, 1, none⟩ = some v := fun u v => World.cell?_setCell_same _ _ _ (x0' u)
    have r0 : ∀ u v, ((W1.setCell ⟨w.heap.size + 1, 0, none⟩ u).setCell ⟨w.heap.size + 1, 1, none⟩ v).cell? ⟨w.heap.size + 1, 0, none⟩ = some u := fun u v => by rw [World.cell?_setCell_other _ _ _ _ (by simp)]; exact World.cell?_setCell_same _ _ _ z0
    exact bodyPost_ret (v := .tuple #[.agg #[.slice none 0 0, .slice none 0 0], .bool false]) (by simp [results, Try.results90, go_sem, r0, r1]) rfl ⟨⟨none, 0, none, 0, rfl, tupS_nil _ _⟩, (HB1.out.setCell (Nat.le_succ _) _).setCell (Nat.le_succ _) _⟩
  · rw [rV_yes hv, rT_yes hv, show cs.map (fun c => c) = cs by simp]
    rw [hv] at hJ
    have HJ := Lib.hid hJ
    have HR3 := Lib.hid (HR3.out hv)
    clear hJ hv
    go_enter Try.func90, Try.ntmps90
    go_wp2_with fail
    generalize ((w.alloc (.cells #[.slice pa pl pc, .slice ta tl tc] 32)).alloc (.cells #[.slice none 0 0, .slice none 0 0] 32)) = W at *
    refine HJ.out.mono ?_
    rintro e w1 ⟨rfl, n, hw⟩
    rw [hw]; clear hw w1
    have z0 : (W.drewN n).cell? ⟨w.heap.size + 1, 0, none⟩ = some (.slice none 0 0) := NB.out.1
    have z1 : (W.drewN n).cell? ⟨w.heap.size + 1, 1, none⟩ = some (.slice none 0 0) := NB.out.2.1
    have f0 : (W.drewN n).frozen? ⟨w.heap.size + 1, 0, none⟩ = false := NB.out.2.2.2 0
    have f1 : (W.drewN n).frozen? ⟨w.heap.size + 1, 1, none⟩ = false := NB.out.2.2.2 1
    have y0 : (W.drewN n).cell? ⟨w.heap.size, 0, none⟩ = some (.slice pa pl pc) := kb0
    have y1 : (W.drewN n).cell? ⟨w.heap.size, 1, none⟩ = some (.slice ta tl tc) := kb1
    have HB1 : Hid (Below w.heap.size w (W.drewN n)) := Lib.hid (below_drewN HB0.out n)
    have HS1 : Hid (TupS lo cs ts pa pc ta tc (W.drewN n)) := Lib.hid HS.out
    have NB1 : Hid (NilBox (W.drewN n) (w.heap.size + 1)) := Lib.hid NB.out
    clear kb0 kb1
    generalize W.drewN n = W1 at *
    go_wp2
    have x0' : ∀ u, (W1.setCell ⟨w.heap.size + 1, 0, none⟩ u).cell? ⟨w.heap.size + 1, 1, none⟩ = some (.slice none 0 0) := fun u => by rw [World.cell?_setCell_other _ _ _ _ (by simp)]; exact z1
    have r1 : ∀ u v, ((W1.setCell ⟨w.heap.size + 1, 0, none⟩ u).setCell ⟨w.heap.size + 1, 1, none⟩ v).cell? ⟨w.heap.size + 1, 1, none⟩ = some v := fun u v => World.cell?_setCell_same _ _ _ (x0' u)
    have r0 : ∀ u v, ((W1.setCell ⟨w.heap.size + 1, 0, none⟩ u).setCell ⟨w.heap.size + 1, 1, none⟩ v).cell? ⟨w.heap.size + 1, 0, none⟩ = some u := fun u v => by rw [World.cell?_setCell_other _ _ _ _ (by simp)]; exact World.cell?_setCell_same _ _ _ z0
    exact bodyPost_ret (v := .tuple #[.agg #[.slice pa pl pc, .slice ta tl tc], .bool true]) (by simp [results, Try.results90, go_sem, r0, r1]) rfl ⟨⟨pa, pc, ta, tc, by rw [LP.out, LT'.out], HS1.out.keep HR3.out NB1.out _ _⟩, (HB1.out.setCell (Nat.le_succ _) _).setCell (Nat.le_succ _) _⟩
end Go.Proofs.Ytljpjmkickkcpab

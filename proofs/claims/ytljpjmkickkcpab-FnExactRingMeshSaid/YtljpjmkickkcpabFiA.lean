
/-
Meshes that are finished: valid, or none. Conditions: places and corners lie in lists of one's own.
-/
import Derived.Test.YtljpjmkickkcpabHmS
import Derived.Test.YtljpjmkickkcpabRoB
namespace Go.Proofs.Ytljpjmkickkcpab
open Go Fk Go.RowKit
set_option linter.unusedVariables false
set_option maxRecDepth 8000
set_option maxHeartbeats 1000000 in
theorem finish_mesh (base cb pl pc tl cc : Nat) (pa : Option Addr) (xs : List Value) (cs : List C3) (ts : List (List Int)) (w : World) (hp : w.ownsRow base 39 3 (.slice pa pl pc) pl xs) (hx : PV pl xs cs) (hcl : cs.length = pl) (hc : IsCs w cb tl ts) (htl : ts.length = tl) (h3 : ∀ j, j < tl → (ts.getD j []).length = 3) (hz : ∀ j, j < tl → ∀ z ∈ ts.getD j [], (Lit.int .i64 z).wf = true) (hlen : tl ≤ 1000000) (hb : base ≤ w.heap.size) :
    Calls Try.prog 93 #[.slice pa pl pc, .slice (some ⟨cb, 0, none⟩) tl cc] w fun e w' => (∃ sa sc sa' sc', e = .returned (.tuple #[.agg #[.slice sa (rV (fun c => c) cs ts).length sc, .slice sa' (rT cs ts).length sc'], .bool (validB cs ts)]) ∧ TupG base (rV (fun c => c) cs ts) (rT cs ts) sa sc sa' sc' w') ∧ Below w.heap.size w w' := by
  have ui := Try.underlying32
  generalize hrc : rV (fun c => c) cs ts = rcs
  generalize hrt : rT cs ts = rts
  generalize hok : validB cs ts = ok at *
  have HRC := Lib.hid hrc
  have HRT := Lib.hid hrt
  have HOK := Lib.hid hok
  clear hrc hrt hok
  have HP := Lib.hid hp
  have HX := Lib.hid hx
  have HC := Lib.hid hc
  have H3 := Lib.hid h3
  have HZ := Lib.hid hz
  have hB0 : Below w.heap.size w (w.alloc (.cells #[.slice none 0 0, .slice none 0 0] 32)) := (Below.refl _ _).alloc (Nat.le_refl _) _
  have zr : (w.alloc (.cells #[.slice none 0 0, .slice none 0 0] 32)).ownsRow w.heap.size 32 2 (.slice (some ⟨w.heap.size, 0, none⟩) 1 1) 1 [.slice none 0 0, .slice none 0 0] :=
    World.ownsRow_lit (base := w.heap.size) (e := 32) (size := 2) w #[.slice none 0 0, .slice none 0 0] 1 (Nat.le_refl _) (by decide) rfl
  have HJ := Lib.hid (triangle_lists' cb tl cc ts _ (hc.below hB0) hlen)
  have HP0 := Lib.hid (owns_up hp hB0)
  have hpa : ∀ x, pa = some x → x.block < w.heap.size := fun x e => by obtain ⟨g, e', _, h⟩ := lv_of_owns hp x e; rw [e']; exact h
  have HPA := Lib.hid hpa
  have HB0 := Lib.hid hB0
  have ZR := Lib.hid zr
  have hs0 : (w.alloc (.cells #[.slice none 0 0, .slice none 0 0] 32)).heap.size = w.heap.size + 1 := by simp
  have HS0 := Lib.hid hs0
  clear hp hx hc h3 hz hB0 zr hpa hs0
  generalize hCH : (w.alloc (.cells #[.slice none 0 0, .slice none 0 0] 32)) = W at *
  go_enter Try.func93, Try.ntmps93
  go_wp2_with fail
  refine HJ.out.mono ?_
  rintro e w1 ⟨v, fb, fc, rfl, hfb, hrow, hflat, hB1⟩
  obtain ⟨ra, rc, rfl⟩ := owns_slice hrow
  have hs1 := hB1.size
  have ZR1 := Lib.hid (owns_up ZR.out hB1)
  have HP1 := Lib.hid (owns_up HP0.out hB1)
  have HB1 := Lib.hid (HB0.out.trans (hB1.mono HB0.out.size))
  have HR1 := Lib.hid hrow
  have HF1 := Lib.hid hflat
  have hX : Below w1.heap.size w1 (w1.alloc (.cells #[.slice pa pl pc, .slice ra tl rc] 32)) := (Below.refl _ _).alloc (Nat.le_refl _) _
  have x0 : (w1.alloc (.cells #[.slice pa pl pc, .slice ra tl rc] 32)).cell? ⟨w1.heap.size, 0, none⟩ = some (.slice pa pl pc) := by go_simp
  have x1 : (w1.alloc (.cells #[.slice pa pl pc, .slice ra tl rc] 32)).cell? ⟨w1.heap.size, 1, none⟩ = some (.slice ra tl rc) := by go_simp
  have ZR1 := Lib.hid (owns_up ZR1.out hX)
  have HP1 := Lib.hid (owns_up HP1.out hX)
  have HR1 := Lib.hid (owns_up HR1.out hX)
  have HF1 := Lib.hid (owns_up HF1.out hX)
  have HB1 := Lib.hid (HB1.out.trans (hX.mono HB1.out.size))
  clear hrow hflat hB1 hCH hX
  go_wp2_with fail
  generalize (w1.alloc (.cells #[.slice pa pl pc, .slice ra tl rc] 32)) = W1 at *
  have hsW := HS0.out
  have hF := owns_low HF1.out (base' := base) (by omega)
  obtain ⟨ra', rc', e, hI, hFl⟩ := rows_mesh HR1.out hF htl H3.out HZ.out
  cases e
  have hV := vs_owned HP1.out hcl HX.out
  have hJ2 := impl_ValidMesh pa ra pl pc tl rc cs ts W1 hV hI
  clear hF hI hFl hV
  have hok := HOK.out
  have hrc := HRC.out
  have hrt := HRT.out
  cases ok
  · rw [rV_no hok] at hrc
    rw [rT_no hok] at hrt
    subst hrc hrt
    rw [hok] at hJ2
    refine hJ2.mono ?_
    rintro e w2 ⟨rfl, hB2⟩
    have ZR2 := Lib.hid (owns_up ZR1.out hB2)
    have HB2 := Lib.hid (HB1.out.trans (hB2.mono HB1.out.size))
    clear hB2 x0 x1 hJ2 hok
    have z0 := cell0_of ZR2.out
    have z1 := cell1_of ZR2.out
    have f0 := ZR2.out.frozenAt 0
    have f1 := ZR2.out.frozenAt 1
    go_wp2
    have x0' : ∀ u, (w2.setCell ⟨w.heap.size, 0, none⟩ u).cell? ⟨w.heap.size, 1, none⟩ = some (.slice none 0 0) := fun u => by rw [World.cell?_setCell_other _ _ _ _ (by simp)]; exact z1
    have r1 : ∀ u v, ((w2.setCell ⟨w.heap.size, 0, none⟩ u).setCell ⟨w.heap.size, 1, none⟩ v).cell? ⟨w.heap.size, 1, none⟩ = some v := fun u v => World.cell?_setCell_same _ _ _ (x0' u)
    have r0 : ∀ u v, ((w2.setCell ⟨w.heap.size, 0, none⟩ u).setCell ⟨w.heap.size, 1, none⟩ v).cell? ⟨w.heap.size, 0, none⟩ = some u := fun u v => by rw [World.cell?_setCell_other _ _ _ _ (by simp)]; exact World.cell?_setCell_same _ _ _ z0
    refine bodyPost_ret (v := .tuple #[.agg #[.slice none 0 0, .slice none 0 0], .bool false]) (by simp [results, Try.results93, go_sem, r0, r1]) rfl ⟨⟨none, 0, none, 0, rfl, ?_⟩, ?_⟩
    · exact ⟨0, ⟨rfl, Nat.le_refl _, by unfold maxLen; omega, fun _ => ⟨rfl, rfl⟩, fun x hx => (by cases hx)⟩, ⟨rfl, Nat.le_refl _, by unfold maxLen; omega, fun _ => ⟨rfl, rfl⟩, fun x hx => (by cases hx)⟩, .inl ⟨rfl, rfl⟩, .inl ⟨rfl, rfl⟩, fun x hx => (by cases hx)⟩
    · exact (HB2.out.setCell (Nat.le_refl _) _).setCell (Nat.le_refl _) _
  · rw [rV_yes hok, show cs.map (fun c => c) = cs by simp] at hrc
    rw [rT_yes hok] at hrt
    subst hrc hrt
    rw [hok] at hJ2
    refine hJ2.mono ?_
    rintro e w2 ⟨rfl, hB2⟩
    replace x0 := cell_below hB2 x0
    replace x1 := cell_below hB2 x1
    have ZR2 := Lib.hid (owns_up ZR1.out hB2)
    have HP2 := Lib.hid (owns_up HP1.out hB2)
    have HR2 := Lib.hid (owns_up HR1.out hB2)
    have HF2 := Lib.hid (owns_up HF1.out hB2)
    have HB2 := Lib.hid (HB1.out.trans (hB2.mono HB1.out.size))
    clear hB2 hJ2 hok
    have z0 := cell0_of ZR2.out
    have z1 := cell1_of ZR2.out
    have f0 := ZR2.out.frozenAt 0
    have f1 := ZR2.out.frozenAt 1
    go_wp2
    have x0' : ∀ u, (w2.setCell ⟨w.heap.size, 0, none⟩ u).cell? ⟨w.heap.size, 1, none⟩ = some (.slice none 0 0) := fun u => by rw [World.cell?_setCell_other _ _ _ _ (by simp)]; exact z1
    have r1 : ∀ u v, ((w2.setCell ⟨w.heap.size, 0, none⟩ u).setCell ⟨w.heap.size, 1, none⟩ v).cell? ⟨w.heap.size, 1, none⟩ = some v := fun u v => World.cell?_setCell_same _ _ _ (x0' u)
    have r0 : ∀ u v, ((w2.setCell ⟨w.heap.size, 0, none⟩ u).setCell ⟨w.heap.size, 1, none⟩ v).cell? ⟨w.heap.size, 0, none⟩ = some u := fun u v => by rw [World.cell?_setCell_other _ _ _ _ (by simp)]; exact World.cell?_setCell_same _ _ _ z0
    have hZ := ZR2.out.stored 0 (.slice pa pl pc)
    have hZ2 := hZ.1.stored 1 (.slice ra tl rc)
    have hv := owns_side (owns_side HP2.out ZR2.out (by decide) hZ.2) hZ.1 (by decide) hZ2.2
    have hr := owns_side (owns_side HR2.out ZR2.out (by decide) hZ.2) hZ.1 (by decide) hZ2.2
    have hl := owns_side (owns_side HF2.out ZR2.out (by decide) hZ.2) hZ.1 (by decide) hZ2.2
    have hl' := owns_low hl (base' := base) (by omega)
    obtain ⟨ra', rc', e, hI, hF⟩ := rows_mesh hr hl' htl H3.out HZ.out
    cases e
    refine bodyPost_ret (v := .tuple #[.agg #[.slice pa pl pc, .slice ra tl rc], .bool true]) (by simp [results, Try.results93, go_sem, r0, r1]) rfl ⟨⟨pa, pc, ra, rc, by rw [hcl, htl], ?_⟩, ?_⟩
    · rw [TupG, hcl, htl]
      refine ⟨fb, vs_owned hv hcl HX.out, hI, gm_of hv (Nat.le_refl _) hF (fun P e => ?_)⟩
      have hP := HPA.out P e
      refine ⟨by omega, fun R e => ?_⟩
      obtain ⟨h, e', h1, _⟩ := lv_of_owns hr R e
      rw [e']
      show P.block ≠ h
      omega
    · exact (HB2.out.setCell (Nat.le_refl _) _).setCell (Nat.le_refl _) _
end Go.Proofs.Ytljpjmkickkcpab

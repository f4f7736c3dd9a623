
/-
Meshes whose places are changed one by one: what the program makes. Conditions: the change is told for every vector.
-/
import Derived.Test.YtcgnmnbjgamedaaHmH
import Derived.Test.YtcgnmnbjgamedaaVecB
namespace Go.Proofs.Ytcgnmnbjgamedaa
open Go Fk Go.RowKit
set_option linter.unusedVariables false
set_option maxRecDepth 8000
def shrC (c : C3) (q : Option Nat) : C3 := (fop .mul .f32 c.1 q, fop .mul .f32 c.2.1 q, c.2.2)
set_option maxHeartbeats 2000000 in
theorem impl_widened (x y z r : Nat) (w : World) (c d e q : Option Nat) (h1 : FV .f32 x c) (h2 : FV .f32 y d) (h3 : FV .f32 z e) (hr : FV .f32 r q) :
    Calls Try.prog 74 #[vv x y z, .float .f32 r] w fun en w' => ∃ a b g, en = .returned (vv a b g) ∧ FV .f32 a (fop .mul .f32 c q) ∧ FV .f32 b (fop .mul .f32 d q) ∧ FV .f32 g e ∧ Below w.heap.size w w' := by
  have u := Try.underlying22
  have uv := Try.underlying33
  go_enter Try.func74, Try.ntmps74
  go_wp2_with fail
  go_region_held3 (fun w' => w'.cell? ⟨w.heap.size, 0, none⟩ = some (.float .f32 x) ∧ w'.cell? ⟨w.heap.size, 1, none⟩ = some (.float .f32 y) ∧ w'.cell? ⟨w.heap.size, 2, none⟩ = some (.float .f32 z)) (go_keep) ((go_at_call 50; refine (impl_product32 _ _ _ _ _ (by assumption) (by assumption)).mono ?_; rintro en w1 ⟨r1, rfl, hr1, n1, rfl⟩))
  all_goals
    go_wp2
    refine bodyPost_ret (v := vv _ _ z) (by simp [results, Try.results74, go_sem] <;> first | exact ⟨rfl, rfl, rfl⟩ | exact ⟨rfl, rfl⟩ | rfl) rfl ⟨_, _, _, rfl, (by first | assumption | exact FV_fR (by assumption) (by assumption)), (by first | assumption | exact FV_fR (by assumption) (by assumption)), h3, below_drewN (((Below.refl _ _).alloc (Nat.le_refl _) _).alloc (by simp) _) _⟩
theorem impl_shrink1 (x y z' zb z : Nat) (c : C3) (d : Option Nat) (w : World) (hx : FV .f32 x c.1) (hy : FV .f32 y c.2.1) (hz : FV .f32 z' c.2.2) (hb : FV .f32 z d) (hc : w.cell? ⟨zb, 0, none⟩ = some (.float .f32 z)) :
    Calls Try.prog 73 #[vv x y z', .pointer (some ⟨zb, 0, none⟩)] w fun e w' => ∃ a b t, e = .returned (vv a b t) ∧ FV .f32 a (shrC c d).1 ∧ FV .f32 b (shrC c d).2.1 ∧ FV .f32 t (shrC c d).2.2 ∧ Below w.heap.size w w' := by
  have uv := Try.underlying33
  have u := Try.underlying22
  have hc1 := fun ob ob' => cell_alloc (o := ob') (cell_alloc (o := ob) hc)
  have hB0 : Below w.heap.size w ((w.alloc (.cells #[.float .f32 x, .float .f32 y, .float .f32 z'] 33)).alloc (.cells #[.float .f32 0, .float .f32 0, .float .f32 0] 33)) := (((Below.refl _ _).alloc (Nat.le_refl _) _).alloc (by simp) _)
  have V : Hid (V3 ((w.alloc (.cells #[.float .f32 x, .float .f32 y, .float .f32 z'] 33)).alloc (.cells #[.float .f32 0, .float .f32 0, .float .f32 0] 33)) (w.heap.size + 1) 0 0 0) := by
    have := V3.new (w := w.alloc (.cells #[.float .f32 x, .float .f32 y, .float .f32 z'] 33)) (x := 0) (y := 0) (z := 0) (t := 33)
    rw [show (w.alloc (.cells #[.float .f32 x, .float .f32 y, .float .f32 z'] 33)).heap.size = w.heap.size + 1 by simp] at this
    exact Lib.hid this
  have HB0 := Lib.hid hB0
  have lzb := World.block_lt_of_cell? _ _ hc
  clear hB0
  go_enter Try.func73, Try.ntmps73
  go_wp2_with fail
  refine (impl_widened x y z' z _ _ _ _ _ hx hy hz hb).mono ?_
  rintro e w1 ⟨a, b, t, rfl, g1, g2, g3, hB1⟩
  have V1 := V3.below hB1 V.out
  have hBB := HB0.out.trans (hB1.mono HB0.out.size)
  obtain ⟨⟨v0, v1, v2⟩, hf⟩ := V1
  have f0 := hf 0
  have f1 := hf 1
  have f2 := hf 2
  have V1 := Lib.hid (V3.below hB1 V.out)
  have HBB := Lib.hid hBB
  have G := Lib.hid (And.intro g1 (And.intro g2 g3))
  clear hB1 hBB g1 g2 g3 hx hy hz hb hc hc1 hf
  go_wp2
  obtain ⟨⟨y0, y1, y2⟩, _⟩ := V1.out.put (p := a) (q := b) (r := t)
  refine bodyPost_ret (v := vv a b t) (by simp [results, Try.results73, go_sem, y0, y1, y2]) rfl ⟨_, _, _, rfl, G.out.1, G.out.2.1, G.out.2.2, ?_⟩
  exact ((HBB.out.setCell (by show w.heap.size ≤ w.heap.size + 1; omega) _).setCell (by show w.heap.size ≤ w.heap.size + 1; omega) _).setCell (by show w.heap.size ≤ w.heap.size + 1; omega) _
set_option maxHeartbeats 1000000 in
theorem shrink_places (cb : Nat) (f : C3 → C3) (pa ta : Option Addr) (pl pc tl tc : Nat) (cs : List C3) (ts : List (List Int)) (w : World) (hp : IsVs w pa pl pc cs) (ht : IsTs w ta tl tc ts)
    (hf : ∀ w' x y z c, Below w.heap.size w w' → FV .f32 x c.1 → FV .f32 y c.2.1 → FV .f32 z c.2.2 → Calls Try.prog 73 #[vv x y z, .pointer (some ⟨cb, 0, none⟩)] w' fun e w2 => ∃ a b t, e = .returned (vv a b t) ∧ FV .f32 a (f c).1 ∧ FV .f32 b (f c).2.1 ∧ FV .f32 t (f c).2.2 ∧ Below w'.heap.size w' w2) :
    Calls Try.prog 72 #[.agg #[.slice pa pl pc, .slice ta tl tc], .func (.func 73) #[] #[.pointer (some ⟨cb, 0, none⟩)]] w fun e w' => MadeG w w' e (validB cs ts) (rV f cs ts) (rT cs ts) := by
  have ui := Try.underlying49
  have uv := Try.underlying33
  have u := Try.underlying22
  obtain ⟨i0, hi, hz0, hz1, hz2⟩ := info_parts infoV
  have hB0 : Below w.heap.size w ((w.alloc (.cells #[.slice pa pl pc, .slice ta tl tc] 49)).alloc (.cells #[.slice none 0 0, .slice none 0 0] 49)) := (((Below.refl _ _).alloc (Nat.le_refl _) _).alloc (by simp) _)
  have k1 : ((w.alloc (.cells #[.slice pa pl pc, .slice ta tl tc] 49)).alloc (.cells #[.slice none 0 0, .slice none 0 0] 49)).cell? ⟨w.heap.size, 1, none⟩ = some (.slice ta tl tc) := by go_simp
  have k0 : ((w.alloc (.cells #[.slice pa pl pc, .slice ta tl tc] 49)).alloc (.cells #[.slice none 0 0, .slice none 0 0] 49)).cell? ⟨w.heap.size, 0, none⟩ = some (.slice pa pl pc) := by go_simp
  have zr : ((w.alloc (.cells #[.slice pa pl pc, .slice ta tl tc] 49)).alloc (.cells #[.slice none 0 0, .slice none 0 0] 49)).ownsRow w.heap.size 49 2 (.slice (some ⟨w.heap.size + 1, 0, none⟩) 1 1) 1 [.slice none 0 0, .slice none 0 0] := by
    have := World.ownsRow_lit (base := w.heap.size) (e := 49) (size := 2) (w.alloc (.cells #[.slice pa pl pc, .slice ta tl tc] 49)) #[.slice none 0 0, .slice none 0 0] 1 (by simp) (by decide) rfl
    simpa using this
  have hsz : ((w.alloc (.cells #[.slice pa pl pc, .slice ta tl tc] 49)).alloc (.cells #[.slice none 0 0, .slice none 0 0] 49)).heap.size = w.heap.size + 1 + 1 := by simp
  have hJ := impl_ValidMesh pa ta pl pc tl tc cs ts _ (hp.below hB0) (ht.below hB0)
  have hpl := hp.1
  have htl := ht.1
  have HT := Lib.hid ht
  have HP := Lib.hid hp
  have HF := Lib.hid hf
  have ZR := Lib.hid zr
  have HSZ := Lib.hid hsz
  cases hv : validB cs ts
  · rw [rV_no hv, rT_no hv]
    rw [hv] at hJ
    have HJ := Lib.hid hJ
    have HB0 := Lib.hid hB0
    clear hJ hv hB0 hp ht hpl htl hf zr hsz
    generalize hCH : ((w.alloc (.cells #[.slice pa pl pc, .slice ta tl tc] 49)).alloc (.cells #[.slice none 0 0, .slice none 0 0] 49)) = W at *
    go_enter Try.func72, Try.ntmps72
    go_wp2_with fail
    refine HJ.out.mono ?_
    rintro e w1 ⟨rfl, hB1⟩
    have HBE := Lib.hid (HB0.out.trans (hB1.mono HB0.out.size))
    have ZR1 := Lib.hid (owns_up ZR.out hB1)
    clear hB1
    have z0 := cell0_of ZR1.out
    have z1 := cell1_of ZR1.out
    have f0 := ZR1.out.frozenAt 0
    have f1 := ZR1.out.frozenAt 1
    go_wp2
    have x0 : ∀ u, (w1.setCell ⟨w.heap.size + 1, 0, none⟩ u).cell? ⟨w.heap.size + 1, 1, none⟩ = some (.slice none 0 0) := fun u => by rw [World.cell?_setCell_other _ _ _ _ (by simp)]; exact z1
    have r1 : ∀ u v, ((w1.setCell ⟨w.heap.size + 1, 0, none⟩ u).setCell ⟨w.heap.size + 1, 1, none⟩ v).cell? ⟨w.heap.size + 1, 1, none⟩ = some v := fun u v => World.cell?_setCell_same _ _ _ (x0 u)
    have r0 : ∀ u v, ((w1.setCell ⟨w.heap.size + 1, 0, none⟩ u).setCell ⟨w.heap.size + 1, 1, none⟩ v).cell? ⟨w.heap.size + 1, 0, none⟩ = some u := fun u v => by rw [World.cell?_setCell_other _ _ _ _ (by simp)]; exact World.cell?_setCell_same _ _ _ z0
    refine bodyPost_ret (v := .tuple #[.agg #[.slice none 0 0, .slice none 0 0], .bool false]) (by simp [results, Try.results72, go_sem, r0, r1]) rfl (madeG_none ?_)
    exact (HBE.out.setCell (by show w.heap.size ≤ w.heap.size + 1; omega) _).setCell (by show w.heap.size ≤ w.heap.size + 1; omega) _
  · rw [rV_yes hv, rT_yes hv]
    rw [hv] at hJ
    obtain ⟨q1, q2⟩ := valid_pl hv
    rw [hpl] at q1
    rw [htl] at q2
    have H3 := Lib.hid (fun k (hk : k < tl) => rows3h hv k (by rw [htl]; exact hk))
    have HJ := Lib.hid hJ
    have HB0 := Lib.hid hB0
    clear hJ hv hB0 hp ht hf zr hsz
    generalize hCH : ((w.alloc (.cells #[.slice pa pl pc, .slice ta tl tc] 49)).alloc (.cells #[.slice none 0 0, .slice none 0 0] 49)) = W at *
    go_enter Try.func72, Try.ntmps72
    go_wp2_with fail
    refine HJ.out.mono ?_
    rintro e w1 ⟨rfl, hB1⟩
    replace k0 := cell_below hB1 k0
    replace k1 := cell_below hB1 k1
    have HB1 := Lib.hid (HB0.out.trans (hB1.mono HB0.out.size))
    have ZR1 := Lib.hid (owns_up ZR.out hB1)
    obtain ⟨g, hg⟩ : ∃ g, g = w1.heap.size := ⟨_, rfl⟩
    have hlt1 : w.heap.size + 1 < g := by have := ((owns_up ZR.out hB1).lt (w.heap.size + 1) rfl).2; omega
    clear hB1 hCH
    have hmk : (Instr.makeSlice 47 (.int .i64 pl) (.int .i64 pl)).run Try.prog w1 = .ok (.slice (some ⟨g, 0, none⟩) pl pl) (w1.alloc (.cells (madeCells #[.float .f32 0, .float .f32 0, .float .f32 0] (pl * 3)) 33)) := by
      have := run_make (P := Try.prog) w1 47 33 i0 (.agg #[.float .f32 0, .float .f32 0, .float .f32 0]) Try.underlying47 hi hz0 .i64 .i64 pl pl (by omega) (Int.le_refl _) (by rw [hz2]; omega) (by omega)
      rw [this, hz1, hg]; simp; rfl
    have hpr : (w1.alloc (.cells (madeCells #[.float .f32 0, .float .f32 0, .float .f32 0] (pl * 3)) 33)).ownsRow g 33 3 (.slice (some ⟨g, 0, none⟩) pl pl) pl (madeCells #[.float .f32 0, .float .f32 0, .float .f32 0] (pl * 3)).toList := by
      subst hg
      exact World.ownsRow_lit w1 _ pl (Nat.le_refl _) (by unfold maxLen; omega) (by unfold madeCells; simp)
    have hBg : Below g w1 (w1.alloc (.cells (madeCells #[.float .f32 0, .float .f32 0, .float .f32 0] (pl * 3)) 33)) := by
      subst hg
      exact (Below.refl _ _).alloc (Nat.le_refl _) _
    have HPR := Lib.hid hpr
    have HBG := Lib.hid hBg
    have HG := Lib.hid hg
    have hlt0 : w.heap.size < w1.heap.size := by omega
    clear hpr hBg hg
    go_wp2
    generalize (w1.alloc (.cells (madeCells #[.float .f32 0, .float .f32 0, .float .f32 0] (pl * 3)) 33)) = W2 at *
    go_loopw [20] (fun i w' => ∃ k : Nat, k ≤ pl ∧ i = .int .i64 k ∧ Aside (∃ xs', w'.ownsRow g 33 3 (.slice (some ⟨g, 0, none⟩) pl pl) pl xs' ∧ PVf k xs' (fun j => f (cs.getD j c0)) ∧ Below g w1 w')) (fun i _ => pl - (intOf i).toNat)
    case atStart => exact ⟨0, Nat.zero_le _, rfl, _, HPR.out, fun j hj => absurd hj (by omega), HBG.out⟩
    case round =>
      obtain ⟨k, hk, hik, hA⟩ := hrel
      subst hik
      obtain ⟨xs', hO, hP, hB⟩ := hA.out
      have HO := Lib.hid hO
      have HPK := Lib.hid hP
      have HB := Lib.hid hB
      by_cases hlt : k < pl
      · have hBw : Below w.heap.size w wr := HB1.out.trans (hB.mono (by omega))
        obtain ⟨pb, po, rfl, hcell⟩ := (HP.out.below hBw).some (by omega)
        obtain ⟨p, q, r, y0, y1, y2, g0, g1, g2⟩ := hcell k hlt
        have hk0 : (0 : Int) ≤ (k : Int) := by omega
        have hk1 : (k : Int) < (pl : Int) := by omega
        have hxl := hO.1
        have HXL := Lib.hid hxl
        have hgs := (hO.lt g rfl).2
        have G := Lib.hid (And.intro g0 (And.intro g1 g2))
        have HBW := Lib.hid hBw
        clear hA hO hP hB hcell g0 g1 g2 hxl hBw hmk
        go_wp2_with fail
        have hN : Below wr.heap.size wr (wr.alloc (.cells #[.float .f32 p, .float .f32 q, .float .f32 r] 33)) := (Below.refl _ _).alloc (Nat.le_refl _) _
        have HN := Lib.hid hN
        clear hN y0 y1 y2
        refine (HF.out _ p q r (cs.getD k c0) (HBW.out.trans (HN.out.mono HBW.out.size)) G.out.1 G.out.2.1 G.out.2.2).mono ?_
        rintro e w2 ⟨a, b, t, rfl, f1, f2, f3, hB2⟩
        have hb2 : Below wr.heap.size wr w2 := HN.out.trans (hB2.mono HN.out.size)
        have ho := owns_up HO.out hb2
        have hl := HXL.out
        obtain ⟨v0, y0⟩ : ∃ v, w2.cell? ⟨g, k * 3, none⟩ = some v := ⟨_, by rw [ho.cellAt _ (by omega)]; exact List.getElem?_eq_getElem (by omega)⟩
        obtain ⟨v1, y1⟩ : ∃ v, w2.cell? ⟨g, k * 3 + 1, none⟩ = some v := ⟨_, by rw [ho.cellAt _ (by omega)]; exact List.getElem?_eq_getElem (by omega)⟩
        obtain ⟨v2, y2⟩ : ∃ v, w2.cell? ⟨g, k * 3 + 2, none⟩ = some v := ⟨_, by rw [ho.cellAt _ (by omega)]; exact List.getElem?_eq_getElem (by omega)⟩
        have z0 := ho.frozenAt (k * 3)
        have z1 := ho.frozenAt (k * 3 + 1)
        have z2 := ho.frozenAt (k * 3 + 2)
        have HO2 := Lib.hid ho
        have HBB := Lib.hid hb2
        have FF := Lib.hid (And.intro f1 (And.intro f2 f3))
        clear ho hb2 hB2 f1 f2 f3 hl
        go_wp2
        go_roundw
        case rel =>
          have s0 := HO2.out.stored (k * 3) (.float .f32 a)
          have s1 := s0.1.stored (k * 3 + 1) (.float .f32 b)
          have s2 := s1.1.stored (k * 3 + 2) (.float .f32 t)
          exact ⟨k + 1, by omega, by go_num, _, s2.1, HPK.out.more HXL.out hlt FF.out, (((HB.out.trans (HBB.out.mono (Nat.le_of_lt hgs))).setCell (Nat.le_refl _) _).setCell (Nat.le_refl _) _).setCell (Nat.le_refl _) _⟩
        case measure => simp [intOf]; omega
      · obtain rfl : k = pl := by omega
        have hgl := (hO.lt g rfl).2
        have k0' : wr.cell? ⟨w.heap.size, 0, none⟩ = some (.slice pa k pc) := by rw [hB.cell (p := ⟨w.heap.size, 0, none⟩) (by show w.heap.size < g; omega)]; exact k0
        have k1' : wr.cell? ⟨w.heap.size, 1, none⟩ = some (.slice ta tl tc) := by rw [hB.cell (p := ⟨w.heap.size, 1, none⟩) (by show w.heap.size < g; omega)]; exact k1
        have ZR2 := Lib.hid (owns_up ZR1.out (HG.out ▸ hB))
        have HBW := Lib.hid (HB1.out.trans (hB.mono (by omega)))
        clear hA hO hP hB hmk k0 k1
        go_wp2_with fail
        refine (all_corners pa ta k pc tl tc ts wr (HT.out.below HBW.out) H3.out q2).mono ?_
        rintro e w3 ⟨rfl, hC, hB3, hlt3⟩
        have HB3 := Lib.hid hB3
        have HC := Lib.hid hC
        have hlw := World.block_lt_of_cell? _ _ k0'
        clear k0' k1' hB3 hC
        go_wp2_with fail
        refine (triangle_lists (wr.heap.size + 1) tl ts w3 HC.out (by omega)).mono ?_
        rintro e w4 ⟨v, fb, fc, rfl, hfb, hrow, hflat, hB4⟩
        obtain ⟨ra, rc, rfl⟩ := owns_slice hrow
        have hB34 := HB3.out.trans (hB4.mono HB3.out.size)
        have ZR4 := Lib.hid (owns_up ZR2.out hB34)
        have z0 := cell0_of ZR4.out
        have z1 := cell1_of ZR4.out
        have f0 := ZR4.out.frozenAt 0
        have f1 := ZR4.out.frozenAt 1
        have hs3 := HB3.out.size
        have HO4 := Lib.hid (owns_up HO.out hB34)
        have HR := Lib.hid hrow
        have HFL := Lib.hid hflat
        have HB4 := Lib.hid (HBW.out.trans (hB34.mono HBW.out.size))
        clear hrow hflat hB4 hB34
        go_wp2
        have x0 : ∀ u, (w4.setCell ⟨w.heap.size + 1, 0, none⟩ u).cell? ⟨w.heap.size + 1, 1, none⟩ = some (.slice none 0 0) := fun u => by rw [World.cell?_setCell_other _ _ _ _ (by simp)]; exact z1
        have r1 : ∀ u v, ((w4.setCell ⟨w.heap.size + 1, 0, none⟩ u).setCell ⟨w.heap.size + 1, 1, none⟩ v).cell? ⟨w.heap.size + 1, 1, none⟩ = some v := fun u v => World.cell?_setCell_same _ _ _ (x0 u)
        have r0 : ∀ u v, ((w4.setCell ⟨w.heap.size + 1, 0, none⟩ u).setCell ⟨w.heap.size + 1, 1, none⟩ v).cell? ⟨w.heap.size + 1, 0, none⟩ = some u := fun u v => by rw [World.cell?_setCell_other _ _ _ _ (by simp)]; exact World.cell?_setCell_same _ _ _ z0
        have hZ := ZR4.out.stored 0 (.slice (some ⟨g, 0, none⟩) k k)
        have hZ2 := hZ.1.stored 1 (.slice ra tl rc)
        have hv := owns_side (owns_side HO4.out ZR4.out (by decide) hZ.2) hZ.1 (by decide) hZ2.2
        have hr := owns_side (owns_side HR.out ZR4.out (by decide) hZ.2) hZ.1 (by decide) hZ2.2
        have hl := owns_side (owns_side HFL.out ZR4.out (by decide) hZ.2) hZ.1 (by decide) hZ2.2
        have hbw := HBW.out.size
        have hl' := owns_low hl (base' := w.heap.size) (by omega)
        have hv' := owns_low hv (base' := w.heap.size) (by omega)
        obtain ⟨ra', rc', e, hI, hF⟩ := rows_mesh hr hl' htl H3.out (ts_wf HT.out)
        cases e
        refine bodyPost_ret (v := .tuple #[.agg #[.slice (some ⟨g, 0, none⟩) k k, .slice ra tl rc], .bool true]) (by simp [results, Try.results72, go_sem, r0, r1]) rfl ⟨⟨some ⟨g, 0, none⟩, k, ra, rc, fb, ?_, ?_, ?_, ?_⟩, ?_⟩
        · rw [List.length_map, hpl, htl]
        · rw [List.length_map, hpl]
          exact vs_owned hv' (by rw [List.length_map, hpl]) (fun j hj => by
            obtain ⟨p, q, r, h⟩ := HPK.out j hj
            have : (cs.map f).getD j c0 = f (cs.getD j c0) := by simp [List.getD, hpl, hj]
            exact ⟨p, q, r, by rw [this]; exact h⟩)
        · rw [htl]; exact hI
        · rw [List.length_map, hpl, htl]
          refine gm_of hv' (Nat.le_refl _) hF (fun P e => ?_)
          cases e
          refine ⟨by show g ≠ fb; omega, fun R e => ?_⟩
          obtain ⟨h, e', h1, _⟩ := lv_of_owns hr R e
          rw [e']
          show g ≠ h
          omega
        · exact (HB4.out.setCell (by show w.heap.size ≤ w.heap.size + 1; omega) _).setCell (by show w.heap.size ≤ w.heap.size + 1; omega) _
end Go.Proofs.Ytcgnmnbjgamedaa

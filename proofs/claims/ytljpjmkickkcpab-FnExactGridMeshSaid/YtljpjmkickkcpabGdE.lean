
/-
Grids: what the program and the model return, whatever numbers are given. Conditions: none.
-/
import Derived.Test.YtljpjmkickkcpabGdB
import Derived.Test.YtljpjmkickkcpabGdD
namespace Go.Proofs.Ytljpjmkickkcpab
open Go Fk Go.RowKit
set_option linter.unusedVariables false
set_option maxRecDepth 8000
def gridOk (wide high : Int) (z : Nat) : Bool := countB wide && countB high && sizeB z
set_option maxHeartbeats 1000000 in
theorem impl_GridMesh_out (wide high : Int) (z : Nat) (w : World) (hz : z < 4294967296) (h : gridOk wide high z = false) :
    Calls Try.prog 30 #[.int .i64 wide, .int .i64 high, .float .f32 z] w fun e w' => MadeG w w' e false [] [] := by
  have um := Try.underlying32
  unfold gridOk at h
  have J1 := Lib.hid (fun w => impl_isCount wide w)
  have J2 := Lib.hid (fun w => impl_isCount high w)
  have J3 := Lib.hid (fun w => impl_isMeasure z w hz)
  have NB : Hid (NilBox (w.alloc (.cells #[.slice none 0 0, .slice none 0 0] 32)) w.heap.size) := Lib.hid NilBox.new
  have HB : Hid (Below w.heap.size w (w.alloc (.cells #[.slice none 0 0, .slice none 0 0] 32))) := Lib.hid ((Below.refl _ _).alloc (Nat.le_refl _) _)
  have z0 := fun n => (show ((w.alloc (.cells #[.slice none 0 0, .slice none 0 0] 32)).drewN n).cell? ⟨w.heap.size, 0, none⟩ = some (.slice none 0 0) from NB.out.1)
  have z1 := fun n => (show ((w.alloc (.cells #[.slice none 0 0, .slice none 0 0] 32)).drewN n).cell? ⟨w.heap.size, 1, none⟩ = some (.slice none 0 0) from NB.out.2.1)
  generalize countB wide = b1 at *
  generalize countB high = b2 at *
  generalize sizeB z = b3 at *
  go_enter Try.func30, Try.ntmps30
  go_wp2_with fail
  refine (J1.out _).mono ?_
  rintro e w1 ⟨rfl, hw⟩
  rw [hw]; clear hw w1
  cases b1
  · go_wp2
    exact bodyPost_ret (v := .tuple #[.agg #[.slice none 0 0, .slice none 0 0], .bool false]) (by simp [results, Try.results30, go_sem]) rfl (madeG_none HB.out)
  · go_wp2_with fail
    refine (J2.out _).mono ?_
    rintro e w1 ⟨rfl, hw⟩
    rw [hw]; clear hw w1
    cases b2
    · go_wp2
      exact bodyPost_ret (v := .tuple #[.agg #[.slice none 0 0, .slice none 0 0], .bool false]) (by simp [results, Try.results30, go_sem]) rfl (madeG_none HB.out)
    · cases b3
      · go_wp2_with fail
        refine (J3.out _).mono ?_
        rintro e w1 ⟨rfl, n, hw⟩
        rw [hw]; clear hw w1
        go_wp2
        exact bodyPost_ret (v := .tuple #[.agg #[.slice none 0 0, .slice none 0 0], .bool false]) (by simp [results, Try.results30, go_sem]) rfl (madeG_none (below_drewN HB.out n))
      · simp at h
set_option maxHeartbeats 1000000 in
theorem spec_GridMesh_out (wide high : Int) (z : Nat) (w : World) (hz : z < 4294967296) (h : (decide (1 ≤ wide ∧ wide ≤ 64) && decide (1 ≤ high ∧ high ≤ 64) && sizeB z && decide ((wide + 1) * (high + 1) ≤ 64)) = false) :
    Calls Try.prog 29 #[.int .i64 wide, .int .i64 high, .float .f32 z] w fun e w' => Made w w' e false [] [] := by
  have um := Try.underlying32
  have J1 := Lib.hid (fun w => l00In' wide 1 64 w)
  have J2 := Lib.hid (fun w => l00In' high 1 64 w)
  have J3 := Lib.hid (fun w => l02Size z w hz)
  have NB : Hid (NilBox (w.alloc (.cells #[.slice none 0 0, .slice none 0 0] 32)) w.heap.size) := Lib.hid NilBox.new
  have HB : Hid (Below w.heap.size w (w.alloc (.cells #[.slice none 0 0, .slice none 0 0] 32))) := Lib.hid ((Below.refl _ _).alloc (Nat.le_refl _) _)
  generalize hb1 : decide (1 ≤ wide ∧ wide ≤ 64) = b1 at *
  generalize hb2 : decide (1 ≤ high ∧ high ≤ 64) = b2 at *
  generalize sizeB z = b3 at *
  go_enter Try.func29, Try.ntmps29
  go_wp2_with fail
  refine (J1.out _).mono ?_
  rintro e w1 ⟨rfl, hw⟩
  rw [hw]; clear hw w1
  cases b1
  · clear hb1 hb2 h
    go_wp2
    exact bodyPost_ret (v := .tuple #[.agg #[.slice none 0 0, .slice none 0 0], .bool false]) (by simp [results, Try.results29, go_sem]) rfl (made_none HB.out)
  · go_wp2_with fail
    refine (J2.out _).mono ?_
    rintro e w1 ⟨rfl, hw⟩
    rw [hw]; clear hw w1
    cases b2
    · clear hb1 hb2 h
      go_wp2
      exact bodyPost_ret (v := .tuple #[.agg #[.slice none 0 0, .slice none 0 0], .bool false]) (by simp [results, Try.results29, go_sem]) rfl (made_none HB.out)
    · go_wp2_with fail
      refine (J3.out _).mono ?_
      rintro e w1 ⟨rfl, n, hw⟩
      rw [hw]; clear hw w1
      cases b3
      · clear hb1 hb2 h
        go_wp2
        exact bodyPost_ret (v := .tuple #[.agg #[.slice none 0 0, .slice none 0 0], .bool false]) (by simp [results, Try.results29, go_sem]) rfl (made_none (below_drewN HB.out n))
      · simp only [Bool.true_and] at h
        have h1 := of_decide_eq_true hb1
        have h2 := of_decide_eq_true hb2
        have h3 := of_decide_eq_false h
        obtain ⟨a, ha⟩ : ∃ a : Nat, wide = a := ⟨wide.toNat, by omega⟩
        obtain ⟨b, hb⟩ : ∃ b : Nat, high = b := ⟨high.toNat, by omega⟩
        have hM1 : (wide + 1) * (high + 1) ≤ 65 * 65 := by
          subst ha hb
          have : (a + 1) * (b + 1) ≤ 65 * 65 := Nat.mul_le_mul (by omega) (by omega)
          have h2 : ((a : Int) + 1) * ((b : Int) + 1) = (((a + 1) * (b + 1) : Nat) : Int) := by push_cast; rfl
          omega
        have hM0 : 64 < (wide + 1) * (high + 1) := by omega
        obtain ⟨h11, h12⟩ := h1
        obtain ⟨h21, h22⟩ := h2
        clear hb1 hb2 h h3 ha hb
        generalize hMM : (wide + 1) * (high + 1) = M at *
        go_wp2
        exact bodyPost_ret (v := .tuple #[.agg #[.slice none 0 0, .slice none 0 0], .bool false]) (by simp [results, Try.results29, go_sem]) rfl (made_none (below_drewN HB.out n))
set_option maxHeartbeats 1000000 in
theorem spec_GridMesh_in (v h : Nat) (z : Nat) (d : Option Nat) (w : World) (hv1 : 1 ≤ v) (hv2 : v < 64) (hh1 : 1 ≤ h) (hh2 : h < 64) (hz : FV .f32 z d) (hs : sizeB z = true) (hm : (v + 1) * (h + 1) ≤ 64) :
    Calls Try.prog 29 #[.int .i64 v, .int .i64 h, .float .f32 z] w fun e w' => Made w w' e (validB (gridCs d v h) (gridTs v h)) (rV (fun c => c) (gridCs d v h) (gridTs v h)) (rT (gridCs d v h) (gridTs v h)) := by
  have um := Try.underlying32
  have J1 := Lib.hid (fun w => l00In' v 1 64 w)
  have J2 := Lib.hid (fun w => l00In' h 1 64 w)
  have J3 := Lib.hid (fun w => l02Size z w hz.1)
  rw [decide_eq_true (by omega)] at J1
  rw [decide_eq_true (by omega)] at J2
  rw [hs] at J3
  have NB : Hid (NilBox (w.alloc (.cells #[.slice none 0 0, .slice none 0 0] 32)) w.heap.size) := Lib.hid NilBox.new
  have HB : Hid (Below w.heap.size w (w.alloc (.cells #[.slice none 0 0, .slice none 0 0] 32))) := Lib.hid ((Below.refl _ _).alloc (Nat.le_refl _) _)
  have hM : ((v : Int) + 1) * ((h : Int) + 1) ≤ 64 := by
    have h2 : ((v : Int) + 1) * ((h : Int) + 1) = (((v + 1) * (h + 1) : Nat) : Int) := by push_cast; rfl
    omega
  have hM0 : 0 ≤ ((v : Int) + 1) * ((h : Int) + 1) := Int.mul_nonneg (by omega) (by omega)
  have HZ := Lib.hid hz
  clear hz hs hm
  generalize hMM : ((v : Int) + 1) * ((h : Int) + 1) = M at *
  go_enter Try.func29, Try.ntmps29
  go_wp2_with fail
  refine (J1.out _).mono ?_
  rintro e w1 ⟨rfl, hw⟩
  rw [hw]; clear hw w1
  go_wp2_with fail
  refine (J2.out _).mono ?_
  rintro e w1 ⟨rfl, hw⟩
  rw [hw]; clear hw w1
  go_wp2_with fail
  refine (J3.out _).mono ?_
  rintro e w1 ⟨rfl, n, hw⟩
  rw [hw]; clear hw w1
  have HB1 := Lib.hid (below_drewN HB.out n)
  have NB1 : Hid (NilBox ((w.alloc (.cells #[.slice none 0 0, .slice none 0 0] 32)).drewN n) w.heap.size) := Lib.hid NB.out
  clear NB HB J1 J2 J3
  generalize ((w.alloc (.cells #[.slice none 0 0, .slice none 0 0] 32)).drewN n) = W at *
  go_wp2_with fail
  refine (l02Grid v h z d _ hv1 hv2 hh1 hh2 HZ.out).mono ?_
  rintro e w2 ⟨⟨va, vt, xs, rfl, hV, hP, hT⟩, hB2⟩
  obtain ⟨qa, qc, rfl⟩ := owns_slice hV
  obtain ⟨ra, rc, rfl⟩ := OwnT.slice hT
  have hIV := vs_owned hV (gridCs_len d v h) (hP.pv (fun j hj => gridCs_get hj))
  have hIT := ts_owned hT (gridTs_len v h) (fun j hj => grid_wf hv2 hh2 j (by rw [gridTs_len]; exact hj))
  have hJ := l02Give W.heap.size qa ra _ qc _ rc (gridCs d v h) (gridTs v h) w2 hIV hIT (lv_of_owns hV) (lt_of_owns hT)
  have HB2 := Lib.hid (HB1.out.trans (hB2.mono HB1.out.size))
  have NB2 := Lib.hid (NB1.out.below hB2)
  have HR3 := Lib.hid (rT_3' (gridCs d v h) (gridTs v h))
  have HJ := Lib.hid hJ
  have hWs := HB1.out.size
  clear hV hP hT hB2 hIV hIT hJ HB1 NB1
  generalize hE1 : rV (fun c => c) (gridCs d v h) (gridTs v h) = rcs at *
  generalize hE2 : rT (gridCs d v h) (gridTs v h) = rts at *
  generalize hE3 : validB (gridCs d v h) (gridTs v h) = ok at *
  have HE1 := Lib.hid hE1
  have HE2 := Lib.hid hE2
  have HE3 := Lib.hid hE3
  clear hE1 hE2 hE3
  go_wp2_with fail
  refine HJ.out.mono ?_
  rintro e w3 ⟨⟨sa, sc, sa', sc', rfl, hS⟩, hB3⟩
  have HB3 := Lib.hid (HB2.out.trans (hB3.mono HB2.out.size))
  have NB3 := Lib.hid (NB2.out.below hB3)
  have HS := Lib.hid (hS.low hWs)
  clear hS hB3 HJ NB2 HB2
  have z0 := NB3.out.1
  have z1 := NB3.out.2.1
  have f0 := NB3.out.2.2.2 0
  have f1 := NB3.out.2.2.2 1
  go_wp2
  have x0' : ∀ u, (w3.setCell ⟨w.heap.size, 0, none⟩ u).cell? ⟨w.heap.size, 1, none⟩ = some (.slice none 0 0) := fun u => by rw [World.cell?_setCell_other _ _ _ _ (by simp)]; exact z1
  have r1 : ∀ u v, ((w3.setCell ⟨w.heap.size, 0, none⟩ u).setCell ⟨w.heap.size, 1, none⟩ v).cell? ⟨w.heap.size, 1, none⟩ = some v := fun u v => World.cell?_setCell_same _ _ _ (x0' u)
  have r0 : ∀ u v, ((w3.setCell ⟨w.heap.size, 0, none⟩ u).setCell ⟨w.heap.size, 1, none⟩ v).cell? ⟨w.heap.size, 0, none⟩ = some u := fun u v => by rw [World.cell?_setCell_other _ _ _ _ (by simp)]; exact World.cell?_setCell_same _ _ _ z0
  have hK := HS.out.keep HR3.out NB3.out (.slice sa rcs.length sc) (.slice sa' rts.length sc')
  refine bodyPost_ret (v := .tuple #[.agg #[.slice sa rcs.length sc, .slice sa' rts.length sc'], .bool ok]) (by simp [results, Try.results29, go_sem, r0, r1]) rfl (by
    have e1 := HE1.out
    have e2 := HE2.out
    have e3 := HE3.out
    subst e1 e2 e3
    exact ⟨⟨sa, sc, sa', sc', rfl, hK⟩, (HB3.out.setCell (Nat.le_refl _) _).setCell (Nat.le_refl _) _⟩)
/-- What GridMesh returns. -/
def gOk (wide high : Int) (z : Nat) (d : Option Nat) : Bool := if gridOk wide high z = true then validB (gridCs d wide.toNat high.toNat) (gridTs wide.toNat high.toNat) else false
def gVs (wide high : Int) (z : Nat) (d : Option Nat) : List C3 := if gridOk wide high z = true then rV (fun c => c) (gridCs d wide.toNat high.toNat) (gridTs wide.toNat high.toNat) else []
def gTs (wide high : Int) (z : Nat) (d : Option Nat) : List (List Int) := if gridOk wide high z = true then rT (gridCs d wide.toNat high.toNat) (gridTs wide.toNat high.toNat) else []
theorem gridOk_parts {wide high : Int} {z : Nat} (h : gridOk wide high z = true) : ∃ v k : Nat, wide = v ∧ high = k ∧ 1 ≤ v ∧ v < 64 ∧ 1 ≤ k ∧ k < 64 ∧ sizeB z = true := by
  unfold gridOk at h
  simp only [Bool.and_eq_true] at h
  obtain ⟨⟨h1, h2⟩, h3⟩ := h
  have h1 := of_decide_eq_true h1
  have h2 := of_decide_eq_true h2
  exact ⟨wide.toNat, high.toNat, by omega, by omega, by omega, by omega, by omega, by omega, h3⟩
theorem impl_GridMesh (wide high : Int) (z : Nat) (d : Option Nat) (hz : FV .f32 z d) (w : World) :
    Calls Try.prog 30 #[.int .i64 wide, .int .i64 high, .float .f32 z] w fun e w' => MadeG w w' e (gOk wide high z d) (gVs wide high z d) (gTs wide high z d) := by
  unfold gOk gVs gTs
  cases h : gridOk wide high z
  · exact impl_GridMesh_out wide high z w hz.1 h
  · obtain ⟨v, k, rfl, rfl, h1, h2, h3, h4, h5⟩ := gridOk_parts h
    exact impl_GridMesh_in v k z d w h1 h2 h3 h4 hz h5
theorem spec_GridMesh (wide high : Int) (z : Nat) (d : Option Nat) (hz : FV .f32 z d) (w : World) :
    Calls Try.prog 29 #[.int .i64 wide, .int .i64 high, .float .f32 z] w fun e w' => Made w w' e (gOk wide high z d) (gVs wide high z d) (gTs wide high z d) := by
  unfold gOk gVs gTs
  cases h : gridOk wide high z
  · refine spec_GridMesh_out wide high z w hz.1 ?_
    unfold gridOk countB at h
    rw [Bool.eq_false_iff] at h ⊢
    intro hh
    apply h
    simp only [Bool.and_eq_true, decide_eq_true_eq] at hh ⊢
    obtain ⟨⟨⟨h1, h2⟩, h3⟩, h4⟩ := hh
    have k1 : wide ≠ 64 := by
      rintro rfl
      have : (64 + 1) * (2 : Int) ≤ (64 + 1) * (high + 1) := Int.mul_le_mul_of_nonneg_left (by omega) (by omega)
      omega
    have k2 : high ≠ 64 := by
      rintro rfl
      have : (2 : Int) * (64 + 1) ≤ (wide + 1) * (64 + 1) := Int.mul_le_mul_of_nonneg_right (by omega) (by omega)
      omega
    exact ⟨⟨⟨h1.1, by omega⟩, ⟨h2.1, by omega⟩⟩, h3⟩
  · obtain ⟨v, k, rfl, rfl, h1, h2, h3, h4, h5⟩ := gridOk_parts h
    by_cases hm : (v + 1) * (k + 1) ≤ 64
    · exact spec_GridMesh_in v k z d w h1 h2 h3 h4 hz h5 hm
    · have hv : validB (gridCs d v k) (gridTs v k) = false := by
        rw [Bool.eq_false_iff]
        intro hh
        have := (valid_pl hh).1
        rw [gridCs_len, Nat.mul_comm] at this
        omega
      show Calls _ _ _ w fun e w' => Made w w' e (validB (gridCs d v k) (gridTs v k)) (rV (fun c => c) (gridCs d v k) (gridTs v k)) (rT (gridCs d v k) (gridTs v k))
      rw [rV_no hv, rT_no hv, hv]
      refine spec_GridMesh_out v k z w hz.1 ?_
      rw [decide_eq_false (p := ((v : Int) + 1) * ((k : Int) + 1) ≤ 64) (by
        have h2 : ((v : Int) + 1) * ((k : Int) + 1) = (((v + 1) * (k + 1) : Nat) : Int) := by push_cast; rfl
        omega), Bool.and_false]
theorem g_len (wide high : Int) (z : Nat) (d : Option Nat) : (gVs wide high z d).length ≤ 64 ∧ (gTs wide high z d).length ≤ 128 := by
  unfold gVs gTs
  split
  · exact rV_len' _ _ _
  · simp
theorem FnExactGridMesh_law (wide high : Int) (z : Nat) (w : World) (_ : (Lit.int .i64 wide).wf = true) (_ : (Lit.int .i64 high).wf = true) (hz : z < 2 ^ FloatKind.f32.format.width) :
    Calls Try.prog 7 #[.int .i64 wide, .int .i64 high, .float .f32 z] w fun e w' => e = .returned (.bool true) ∧ Below w.heap.size w w' :=
  gridMesh_law wide high z _ _ _ (fun w => spec_GridMesh wide high z (cls .f32 z) (FV.self hz) w) (fun w => impl_GridMesh wide high z (cls .f32 z) (FV.self hz) w) (g_len _ _ _ _).1 (g_len _ _ _ _).2 w
end Go.Proofs.Ytljpjmkickkcpab

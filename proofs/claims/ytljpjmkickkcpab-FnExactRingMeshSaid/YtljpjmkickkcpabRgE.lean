
/-
Rings: what the program and the model return, whatever numbers are given. Conditions: none.
-/
import Derived.Test.YtljpjmkickkcpabRgB
import Derived.Test.YtljpjmkickkcpabRgC
import Derived.Test.YtljpjmkickkcpabGdD
namespace Go.Proofs.Ytljpjmkickkcpab
open Go Fk Go.RowKit
set_option linter.unusedVariables false
set_option maxRecDepth 8000
def ringOk (sides rows : Int) (z y0 : Nat) : Bool := decide (3 ≤ sides ∧ sides ≤ 16) && countB rows && sizeB z && sizeB y0
set_option maxHeartbeats 1000000 in
theorem impl_RingMesh_out (sides rows : Int) (z y0 : Nat) (w : World) (hz : z < 4294967296) (hy : y0 < 4294967296) (h : ringOk sides rows z y0 = false) :
    Calls Try.prog 32 #[.int .i64 sides, .int .i64 rows, .float .f32 z, .float .f32 y0] w fun e w' => MadeG w w' e false [] [] := by
  have um := Try.underlying32
  unfold ringOk at h
  have J2 := Lib.hid (fun w => impl_isCount rows w)
  have J3 := Lib.hid (fun w => impl_isMeasure z w hz)
  have J4 := Lib.hid (fun w => impl_isMeasure y0 w hy)
  have NB : Hid (NilBox (w.alloc (.cells #[.slice none 0 0, .slice none 0 0] 32)) w.heap.size) := Lib.hid NilBox.new
  have HB : Hid (Below w.heap.size w (w.alloc (.cells #[.slice none 0 0, .slice none 0 0] 32))) := Lib.hid ((Below.refl _ _).alloc (Nat.le_refl _) _)
  have z0 := fun n => (show ((w.alloc (.cells #[.slice none 0 0, .slice none 0 0] 32)).drewN n).cell? ⟨w.heap.size, 0, none⟩ = some (.slice none 0 0) from NB.out.1)
  have z1 := fun n => (show ((w.alloc (.cells #[.slice none 0 0, .slice none 0 0] 32)).drewN n).cell? ⟨w.heap.size, 1, none⟩ = some (.slice none 0 0) from NB.out.2.1)
  generalize countB rows = b2 at *
  generalize sizeB z = b3 at *
  generalize sizeB y0 = b4 at *
  by_cases h1 : sides < 3
  · have h1' : decide (sides < 3) = true := decide_eq_true h1
    clear h
    go_enter Try.func32, Try.ntmps32
    go_wp2
    exact bodyPost_ret (v := .tuple #[.agg #[.slice none 0 0, .slice none 0 0], .bool false]) (by simp [results, Try.results32, go_sem]) rfl (madeG_none HB.out)
  · by_cases h2 : 16 < sides
    · have h1' : decide (sides < 3) = false := decide_eq_false h1
      have h2' : decide (16 < sides) = true := decide_eq_true h2
      clear h
      go_enter Try.func32, Try.ntmps32
      go_wp2
      exact bodyPost_ret (v := .tuple #[.agg #[.slice none 0 0, .slice none 0 0], .bool false]) (by simp [results, Try.results32, go_sem]) rfl (madeG_none HB.out)
    · rw [decide_eq_true (p := 3 ≤ sides ∧ sides ≤ 16) (by omega)] at h
      have h1' : decide (sides < 3) = false := decide_eq_false h1
      have h2' : decide (16 < sides) = false := decide_eq_false h2
      go_enter Try.func32, Try.ntmps32
      go_wp2_with fail
      refine (J2.out _).mono ?_
      rintro e w1 ⟨rfl, hw⟩
      rw [hw]; clear hw w1
      cases b2
      · clear h
        go_wp2
        exact bodyPost_ret (v := .tuple #[.agg #[.slice none 0 0, .slice none 0 0], .bool false]) (by simp [results, Try.results32, go_sem]) rfl (madeG_none HB.out)
      · cases b3
        · clear h
          go_wp2_with fail
          refine (J3.out _).mono ?_
          rintro e w1 ⟨rfl, n, hw⟩
          rw [hw]; clear hw w1
          go_wp2
          exact bodyPost_ret (v := .tuple #[.agg #[.slice none 0 0, .slice none 0 0], .bool false]) (by simp [results, Try.results32, go_sem]) rfl (madeG_none (below_drewN HB.out _))
        · cases b4
          · clear h
            go_wp2_with fail
            refine (J3.out _).mono ?_
            rintro e w1 ⟨rfl, n, hw⟩
            rw [hw]; clear hw w1
            go_wp2_with fail
            refine (J4.out _).mono ?_
            rintro e w1 ⟨rfl, n', hw⟩
            rw [hw]; clear hw w1
            go_wp2
            exact bodyPost_ret (v := .tuple #[.agg #[.slice none 0 0, .slice none 0 0], .bool false]) (by simp [results, Try.results32, go_sem]) rfl (madeG_none (below_drewN HB.out _))
          · simp at h
set_option maxHeartbeats 1000000 in
theorem spec_RingMesh_out (sides rows : Int) (z y0 : Nat) (w : World) (hz : z < 4294967296) (hy : y0 < 4294967296) (h : (decide (3 ≤ sides ∧ sides ≤ 16) && decide (1 ≤ rows ∧ rows ≤ 64) && sizeB z && sizeB y0 && decide (sides * (rows + 1) ≤ 64)) = false) :
    Calls Try.prog 31 #[.int .i64 sides, .int .i64 rows, .float .f32 z, .float .f32 y0] w fun e w' => Made w w' e false [] [] := by
  have um := Try.underlying32
  have J1 := Lib.hid (fun w => l00In' sides 3 16 w)
  have J2 := Lib.hid (fun w => l00In' rows 1 64 w)
  have J3 := Lib.hid (fun w => l02Size z w hz)
  have J4 := Lib.hid (fun w => l02Size y0 w hy)
  have NB : Hid (NilBox (w.alloc (.cells #[.slice none 0 0, .slice none 0 0] 32)) w.heap.size) := Lib.hid NilBox.new
  have HB : Hid (Below w.heap.size w (w.alloc (.cells #[.slice none 0 0, .slice none 0 0] 32))) := Lib.hid ((Below.refl _ _).alloc (Nat.le_refl _) _)
  generalize hb1 : decide (3 ≤ sides ∧ sides ≤ 16) = b1 at *
  generalize hb2 : decide (1 ≤ rows ∧ rows ≤ 64) = b2 at *
  generalize sizeB z = b3 at *
  generalize sizeB y0 = b4 at *
  go_enter Try.func31, Try.ntmps31
  go_wp2_with fail
  refine (J1.out _).mono ?_
  rintro e w1 ⟨rfl, hw⟩
  rw [hw]; clear hw w1
  cases b1
  · clear hb1 hb2 h
    go_wp2
    exact bodyPost_ret (v := .tuple #[.agg #[.slice none 0 0, .slice none 0 0], .bool false]) (by simp [results, Try.results31, go_sem]) rfl (made_none HB.out)
  · skip
    go_wp2_with fail
    refine (J2.out _).mono ?_
    rintro e w1 ⟨rfl, hw⟩
    rw [hw]; clear hw w1
    cases b2
    · clear hb1 hb2 h
      go_wp2
      exact bodyPost_ret (v := .tuple #[.agg #[.slice none 0 0, .slice none 0 0], .bool false]) (by simp [results, Try.results31, go_sem]) rfl (made_none HB.out)
    · skip
      go_wp2_with fail
      refine (J3.out _).mono ?_
      rintro e w1 ⟨rfl, n, hw⟩
      rw [hw]; clear hw w1
      cases b3
      · clear hb1 hb2 h
        go_wp2
        exact bodyPost_ret (v := .tuple #[.agg #[.slice none 0 0, .slice none 0 0], .bool false]) (by simp [results, Try.results31, go_sem]) rfl (made_none (below_drewN HB.out _))
      · skip
        go_wp2_with fail
        refine (J4.out _).mono ?_
        rintro e w1 ⟨rfl, n', hw⟩
        rw [hw]; clear hw w1
        cases b4
        · clear hb1 hb2 h
          go_wp2
          exact bodyPost_ret (v := .tuple #[.agg #[.slice none 0 0, .slice none 0 0], .bool false]) (by simp [results, Try.results31, go_sem]) rfl (made_none (below_drewN HB.out _))
        · simp only [Bool.true_and] at h
          have h1 := of_decide_eq_true hb1
          have h2 := of_decide_eq_true hb2
          have h3 := of_decide_eq_false h
          obtain ⟨a, ha⟩ : ∃ a : Nat, sides = a := ⟨sides.toNat, by omega⟩
          obtain ⟨b, hb⟩ : ∃ b : Nat, rows = b := ⟨rows.toNat, by omega⟩
          have hM1 : sides * (rows + 1) ≤ 65 * 65 := by
            subst ha hb
            have : a * (b + 1) ≤ 65 * 65 := Nat.mul_le_mul (by omega) (by omega)
            have h2 : (a : Int) * ((b : Int) + 1) = ((a * (b + 1) : Nat) : Int) := by push_cast; rfl
            omega
          have hM0 : 64 < sides * (rows + 1) := by omega
          obtain ⟨h11, h12⟩ := h1
          obtain ⟨h21, h22⟩ := h2
          clear hb1 hb2 h h3 ha hb
          generalize hMM : sides * (rows + 1) = M at *
          go_wp2
          exact bodyPost_ret (v := .tuple #[.agg #[.slice none 0 0, .slice none 0 0], .bool false]) (by simp [results, Try.results31, go_sem]) rfl (made_none (below_drewN HB.out _))
set_option maxHeartbeats 1000000 in
theorem spec_RingMesh_in (v h : Nat) (z y0 : Nat) (d dy : Option Nat) (w : World) (hv1 : 3 ≤ v) (hv2 : v ≤ 16) (hh1 : 1 ≤ h) (hh2 : h < 64) (hz : FV .f32 z d) (hy : FV .f32 y0 dy) (hs : sizeB z = true) (hs2 : sizeB y0 = true) (hm : v * (h + 1) ≤ 64) :
    Calls Try.prog 31 #[.int .i64 v, .int .i64 h, .float .f32 z, .float .f32 y0] w fun e w' => Made w w' e (validB (ringCs d dy v h) (ringTs v h)) (rV (fun c => c) (ringCs d dy v h) (ringTs v h)) (rT (ringCs d dy v h) (ringTs v h)) := by
  have um := Try.underlying32
  have J1 := Lib.hid (fun w => l00In' v 3 16 w)
  have J2 := Lib.hid (fun w => l00In' h 1 64 w)
  have J3 := Lib.hid (fun w => l02Size z w hz.1)
  have J4 := Lib.hid (fun w => l02Size y0 w hy.1)
  rw [decide_eq_true (by omega)] at J1
  rw [decide_eq_true (by omega)] at J2
  rw [hs] at J3
  rw [hs2] at J4
  have NB : Hid (NilBox (w.alloc (.cells #[.slice none 0 0, .slice none 0 0] 32)) w.heap.size) := Lib.hid NilBox.new
  have HB : Hid (Below w.heap.size w (w.alloc (.cells #[.slice none 0 0, .slice none 0 0] 32))) := Lib.hid ((Below.refl _ _).alloc (Nat.le_refl _) _)
  have hM : (v : Int) * ((h : Int) + 1) ≤ 64 := by
    have h2 : (v : Int) * ((h : Int) + 1) = ((v * (h + 1) : Nat) : Int) := by push_cast; rfl
    omega
  have hM0 : 0 ≤ (v : Int) * ((h : Int) + 1) := Int.mul_nonneg (by omega) (by omega)
  have HZ := Lib.hid hz
  have HY := Lib.hid hy
  clear hz hs hm hy hs2
  generalize hMM : (v : Int) * ((h : Int) + 1) = M at *
  go_enter Try.func31, Try.ntmps31
  go_wp2_with fail
  refine (J1.out _).mono ?_
  rintro e w1 ⟨rfl, hw⟩
  rw [hw]; clear hw w1
  go_wp2_with fail
  refine (J2.out _).mono ?_
  rintro e w1 ⟨rfl, hw⟩
  rw [hw]; clear hw w1
  go_wp2_with fail
  refine (J3.out _).mono ?_
  rintro e w1 ⟨rfl, n, hw⟩
  rw [hw]; clear hw w1
  go_wp2_with fail
  refine (J4.out _).mono ?_
  rintro e w1 ⟨rfl, n', hw⟩
  rw [hw]; clear hw w1
  have HB1 := Lib.hid (below_drewN HB.out (n + n'))
  have NB1 : Hid (NilBox ((w.alloc (.cells #[.slice none 0 0, .slice none 0 0] 32)).drewN (n + n')) w.heap.size) := Lib.hid NB.out
  clear NB HB J1 J2 J3 J4
  go_wp2_with fail
  generalize ((w.alloc (.cells #[.slice none 0 0, .slice none 0 0] 32)).drewN (n + n')) = W at *
  refine (l02Ring v h z y0 d dy _ hv1 hv2 hh1 hh2 HZ.out HY.out).mono ?_
  rintro e w2 ⟨⟨va, vt, xs, rfl, hV, hP, hT⟩, hB2⟩
  obtain ⟨qa, qc, rfl⟩ := owns_slice hV
  obtain ⟨ra, rc, rfl⟩ := OwnT.slice hT
  have hIV := vs_owned hV (ringCs_len d dy v h) (hP.pv (fun j hj => ringCs_get hj))
  have hIT := ts_owned hT (ringTs_len v h) (fun j hj => ring_wf hv2 hh2 j (by rw [ringTs_len]; exact hj))
  have hJ := l02Give W.heap.size qa ra _ qc _ rc (ringCs d dy v h) (ringTs v h) w2 hIV hIT (lv_of_owns hV) (lt_of_owns hT)
  have HB2 := Lib.hid (HB1.out.trans (hB2.mono HB1.out.size))
  have NB2 := Lib.hid (NB1.out.below hB2)
  have HR3 := Lib.hid (rT_3' (ringCs d dy v h) (ringTs v h))
  have HJ := Lib.hid hJ
  have hWs := HB1.out.size
  clear hV hP hT hB2 hIV hIT hJ HB1 NB1
  generalize hE1 : rV (fun c => c) (ringCs d dy v h) (ringTs v h) = rcs at *
  generalize hE2 : rT (ringCs d dy v h) (ringTs v h) = rts at *
  generalize hE3 : validB (ringCs d dy v h) (ringTs v h) = ok at *
  have HE1 := Lib.hid hE1
  have HE2 := Lib.hid hE2
  have HE3 := Lib.hid hE3
  clear hE1 hE2 hE3
  go_wp2_with fail
  refine HJ.out.mono ?_
  rintro e w3 ⟨⟨sa, sc, sa', sc', rfl, hS⟩, hB3⟩
  have HB3 := Lib.hid (HB2.out.trans (hB3.mono HB2.out.size))
  have NB3 := Lib.hid (NB2.out.below hB3)
  have HS := Lib.hid (hS.low hWs)
  clear hS hB3 HJ NB2 HB2
  have z0 := NB3.out.1
  have z1 := NB3.out.2.1
  have f0 := NB3.out.2.2.2 0
  have f1 := NB3.out.2.2.2 1
  go_wp2
  have x0' : ∀ u, (w3.setCell ⟨w.heap.size, 0, none⟩ u).cell? ⟨w.heap.size, 1, none⟩ = some (.slice none 0 0) := fun u => by rw [World.cell?_setCell_other _ _ _ _ (by simp)]; exact z1
  have r1 : ∀ u v, ((w3.setCell ⟨w.heap.size, 0, none⟩ u).setCell ⟨w.heap.size, 1, none⟩ v).cell? ⟨w.heap.size, 1, none⟩ = some v := fun u v => World.cell?_setCell_same _ _ _ (x0' u)
  have r0 : ∀ u v, ((w3.setCell ⟨w.heap.size, 0, none⟩ u).setCell ⟨w.heap.size, 1, none⟩ v).cell? ⟨w.heap.size, 0, none⟩ = some u := fun u v => by rw [World.cell?_setCell_other _ _ _ _ (by simp)]; exact World.cell?_setCell_same _ _ _ z0
  have hK := HS.out.keep HR3.out NB3.out (.slice sa rcs.length sc) (.slice sa' rts.length sc')
  refine bodyPost_ret (v := .tuple #[.agg #[.slice sa rcs.length sc, .slice sa' rts.length sc'], .bool ok]) (by simp [results, Try.results31, go_sem, r0, r1]) rfl (by
    have e1 := HE1.out
    have e2 := HE2.out
    have e3 := HE3.out
    subst e1 e2 e3
    exact ⟨⟨sa, sc, sa', sc', rfl, hK⟩, (HB3.out.setCell (Nat.le_refl _) _).setCell (Nat.le_refl _) _⟩)
/-- What RingMesh returns. -/
def rgOk (a b : Int) (z y0 : Nat) (d dy : Option Nat) : Bool := if ringOk a b z y0 = true then validB (ringCs d dy a.toNat b.toNat) (ringTs a.toNat b.toNat) else false
def rgVs (a b : Int) (z y0 : Nat) (d dy : Option Nat) : List C3 := if ringOk a b z y0 = true then rV (fun c => c) (ringCs d dy a.toNat b.toNat) (ringTs a.toNat b.toNat) else []
def rgTs (a b : Int) (z y0 : Nat) (d dy : Option Nat) : List (List Int) := if ringOk a b z y0 = true then rT (ringCs d dy a.toNat b.toNat) (ringTs a.toNat b.toNat) else []
theorem ringOk_parts {a b : Int} {z y0 : Nat} (h : ringOk a b z y0 = true) : ∃ v k : Nat, a = v ∧ b = k ∧ 3 ≤ v ∧ v ≤ 16 ∧ 1 ≤ k ∧ k < 64 ∧ sizeB z = true ∧ sizeB y0 = true := by
  unfold ringOk at h
  simp only [Bool.and_eq_true] at h
  obtain ⟨⟨⟨h1, h2⟩, h3⟩, h4⟩ := h
  have h1 := of_decide_eq_true h1
  have h2 := of_decide_eq_true h2
  exact ⟨a.toNat, b.toNat, by omega, by omega, by omega, by omega, by omega, by omega, h3, h4⟩
theorem impl_RingMesh (a b : Int) (z y0 : Nat) (d dy : Option Nat) (hz : FV .f32 z d) (hy : FV .f32 y0 dy) (w : World) :
    Calls Try.prog 32 #[.int .i64 a, .int .i64 b, .float .f32 z, .float .f32 y0] w fun e w' => MadeG w w' e (rgOk a b z y0 d dy) (rgVs a b z y0 d dy) (rgTs a b z y0 d dy) := by
  unfold rgOk rgVs rgTs
  cases h : ringOk a b z y0
  · exact impl_RingMesh_out a b z y0 w hz.1 hy.1 h
  · obtain ⟨v, k, rfl, rfl, h1, h2, h3, h4, h5, h6⟩ := ringOk_parts h
    exact impl_RingMesh_in v k z y0 d dy w h1 h2 h3 h4 hz hy h5 h6
theorem spec_RingMesh (a b : Int) (z y0 : Nat) (d dy : Option Nat) (hz : FV .f32 z d) (hy : FV .f32 y0 dy) (w : World) :
    Calls Try.prog 31 #[.int .i64 a, .int .i64 b, .float .f32 z, .float .f32 y0] w fun e w' => Made w w' e (rgOk a b z y0 d dy) (rgVs a b z y0 d dy) (rgTs a b z y0 d dy) := by
  unfold rgOk rgVs rgTs
  cases h : ringOk a b z y0
  · refine spec_RingMesh_out a b z y0 w hz.1 hy.1 ?_
    unfold ringOk countB at h
    rw [Bool.eq_false_iff] at h ⊢
    intro hh
    apply h
    simp only [Bool.and_eq_true, decide_eq_true_eq] at hh ⊢
    obtain ⟨⟨⟨⟨h1, h2⟩, h3⟩, h4⟩, h5⟩ := hh
    have k2 : b ≠ 64 := by
      rintro rfl
      have : (3 : Int) * (64 + 1) ≤ a * (64 + 1) := Int.mul_le_mul_of_nonneg_right (by omega) (by omega)
      omega
    exact ⟨⟨⟨h1, ⟨h2.1, by omega⟩⟩, h3⟩, h4⟩
  · obtain ⟨v, k, rfl, rfl, h1, h2, h3, h4, h5, h6⟩ := ringOk_parts h
    by_cases hm : v * (k + 1) ≤ 64
    · exact spec_RingMesh_in v k z y0 d dy w h1 h2 h3 h4 hz hy h5 h6 hm
    · have hv : validB (ringCs d dy v k) (ringTs v k) = false := by
        rw [Bool.eq_false_iff]
        intro hh
        have := (valid_pl hh).1
        rw [ringCs_len, Nat.mul_comm] at this
        omega
      show Calls _ _ _ w fun e w' => Made w w' e (validB (ringCs d dy v k) (ringTs v k)) (rV (fun c => c) (ringCs d dy v k) (ringTs v k)) (rT (ringCs d dy v k) (ringTs v k))
      rw [rV_no hv, rT_no hv, hv]
      refine spec_RingMesh_out v k z y0 w hz.1 hy.1 ?_
      rw [decide_eq_false (p := (v : Int) * ((k : Int) + 1) ≤ 64) (by
        have h2 : (v : Int) * ((k : Int) + 1) = ((v * (k + 1) : Nat) : Int) := by push_cast; rfl
        omega), Bool.and_false]
theorem rg_len (a b : Int) (z y0 : Nat) (d dy : Option Nat) : (rgVs a b z y0 d dy).length ≤ 64 ∧ (rgTs a b z y0 d dy).length ≤ 128 := by
  unfold rgVs rgTs
  split
  · exact rV_len' _ _ _
  · simp
theorem FnExactRingMesh_law (a b : Int) (z y0 : Nat) (w : World) (_ : (Lit.int .i64 a).wf = true) (_ : (Lit.int .i64 b).wf = true) (hz : z < 2 ^ FloatKind.f32.format.width) (hy : y0 < 2 ^ FloatKind.f32.format.width) :
    Calls Try.prog 8 #[.int .i64 a, .int .i64 b, .float .f32 z, .float .f32 y0] w fun e w' => e = .returned (.bool true) ∧ Below w.heap.size w w' :=
  ringMesh_law a b z y0 _ _ _ (fun w => spec_RingMesh a b z y0 (cls .f32 z) (cls .f32 y0) (FV.self hz) (FV.self hy) w) (fun w => impl_RingMesh a b z y0 (cls .f32 z) (cls .f32 y0) (FV.self hz) (FV.self hy) w) (rg_len _ _ _ _ _ _).1 (rg_len _ _ _ _ _ _).2 w
end Go.Proofs.Ytljpjmkickkcpab

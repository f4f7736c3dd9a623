/-
Texts in one: what IsClosed stands on, part 1. Conditions: those of each.
-/
import Derived.Test.YtockhhfehjoldaaKIsClosed0

/-
The law of sheets returns true: its walk. Conditions: none beyond that the mesh lies in memory.
-/
namespace Go.Proofs.Ytockhhfehjoldaa
open Go Fk Go.RowKit
set_option linter.unusedVariables false
set_option maxRecDepth 8000

end Go.Proofs.Ytockhhfehjoldaa


/-
Whether a mesh is closed: the program and the model. Conditions: none beyond that the mesh lies in memory.
-/
namespace Go.Proofs.Ytockhhfehjoldaa
open Go Fk Go.RowKit Go.Maps
set_option linter.unusedVariables false
set_option maxRecDepth 16000

/-- What is answered: the mesh is a valid sheet with triangles and without a border. -/
def closedB (cs : List C3) (ts : List (List Int)) : Bool := (validB cs ts && decide (sidesL ts).Nodup) && decide (0 < ts.length) && decide ((bdT cs ts).length = 0)
set_option maxHeartbeats 4000000 in
theorem impl_IsClosed (pa ta : Option Addr) (pl pc tl tc : Nat) (cs : List C3) (ts : List (List Int)) (w : World) (hp : IsVs w pa pl pc cs) (ht : IsTs w ta tl tc ts) :
    Calls Try.prog 29 #[.agg #[.slice pa pl pc, .slice ta tl tc]] w fun e w' => e = .returned (.bool (closedB cs ts)) ∧ Below w.heap.size w w' := by
  have ui := Try.underlying31
  have htl := ht.1
  have htm : tl ≤ 9223372036854775807 := by have h1 := ht.2.1; have h2 := ht.2.2.1; unfold maxLen at h2; omega
  have hB0 : Below w.heap.size w (w.alloc (.cells #[.slice pa pl pc, .slice ta tl tc] 31)) := (Below.refl _ _).alloc (Nat.le_refl _) _
  have a0 : (w.alloc (.cells #[.slice pa pl pc, .slice ta tl tc] 31)).cell? ⟨w.heap.size, 0, none⟩ = some (.slice pa pl pc) := by go_simp
  have a1 : (w.alloc (.cells #[.slice pa pl pc, .slice ta tl tc] 31)).cell? ⟨w.heap.size, 1, none⟩ = some (.slice ta tl tc) := by go_simp
  have J1 := Lib.hid (fun (w : World) (hp : IsVs w pa pl pc cs) (ht : IsTs w ta tl tc ts) => impl_BorderOf pa ta pl pc tl tc cs ts w hp ht)
  have J2 := Lib.hid (fun (w : World) (hp : IsVs w pa pl pc cs) (ht : IsTs w ta tl tc ts) => impl_IsSheet pa ta pl pc tl tc cs ts w hp ht)
  have hbl := bdT_len cs ts
  have HP := Lib.hid hp
  have HT := Lib.hid ht
  have HB0 := Lib.hid hB0
  unfold closedB
  rw [htl]
  clear hp ht hB0 htl
  generalize (validB cs ts && decide (sidesL ts).Nodup) = sh at *
  obtain ⟨bn, hbn⟩ : ∃ bn, (bdT cs ts).length = bn := ⟨_, rfl⟩
  rw [hbn] at J1 hbl ⊢
  generalize validB cs ts = vb at *
  clear hbn
  go_enter Try.func29, Try.ntmps29
  go_wp2_with fail
  generalize (w.alloc (.cells #[.slice pa pl pc, .slice ta tl tc] 31)) = W at *
  refine (J1.out W (HP.out.below HB0.out) (HT.out.below HB0.out)).mono ?_
  rintro e w1 ⟨⟨ba, bc, F, rfl, _⟩, hB1⟩
  replace a0 := cell_below hB1 a0
  replace a1 := cell_below hB1 a1
  have HB1 := Lib.hid (HB0.out.trans (hB1.mono HB0.out.size))
  clear hB1
  go_wp2_with fail
  refine (J2.out w1 (HP.out.below HB1.out) (HT.out.below HB1.out)).mono ?_
  rintro e w2 ⟨rfl, hB2⟩
  replace a1 := cell_below hB2 a1
  have HB2 := Lib.hid (HB1.out.trans (hB2.mono HB1.out.size))
  clear hB2 a0
  cases sh
  · go_wp2
    go_ret
    exact ⟨rfl, HB2.out⟩
  · by_cases h0 : 0 < tl
    · have h0' : (0 : Int) < (tl : Int) := by omega
      by_cases h1 : bn = 0
      · have h1' : ((bn : Int) == 0) = true := by simp [h1]
        subst h1
        go_wp2
        go_ret
        exact ⟨ret_bool (by simp [h0]), HB2.out⟩
      · have h1' : ((bn : Int) == 0) = false := beq_eq_false_iff_ne.2 (by omega)
        go_wp2
        go_ret
        exact ⟨ret_bool (by simp [h0, h1]), HB2.out⟩
    · have h0' : ¬ (0 : Int) < (tl : Int) := by omega
      go_wp2
      go_ret
      exact ⟨ret_bool (by simp [h0]), HB2.out⟩
set_option maxHeartbeats 4000000 in
theorem l04Closed (pb : Nat) (pa ta : Option Addr) (pl pc tl tc : Nat) (cs : List C3) (ts : List (List Int)) (w : World) (a0 : w.cell? ⟨pb, 0, none⟩ = some (.slice pa pl pc)) (a1 : w.cell? ⟨pb, 1, none⟩ = some (.slice ta tl tc)) (hp : IsVs w pa pl pc cs) (ht : IsTs w ta tl tc ts) (hv : validB cs ts = true) :
    Calls Try.prog 59 #[.pointer (some ⟨pb, 0, none⟩)] w fun e w' => e = .returned (.bool (closedB cs ts)) ∧ Below w.heap.size w w' := by
  have ui := Try.underlying31
  have hpl := hp.1
  have htl := ht.1
  have htm : tl ≤ 9223372036854775807 := by have h1 := ht.2.1; have h2 := ht.2.2.1; unfold maxLen at h2; omega
  have J1 := Lib.hid (fun (w : World) a0 a1 (hp : IsVs w pa pl pc cs) (ht : IsTs w ta tl tc ts) => l04Border pb pa ta pl pc tl tc cs ts w a0 a1 hp ht hv)
  have hs := sheet_iff hv
  have J2 := l02Sheet pb pa ta pl pc tl tc cs ts w a0 a1 hp ht hv
  rw [hpl] at hs
  rw [hs] at J2
  have hbn : decide ((bdT cs ts).length = 0) = decide ((bpL (bdP cs.length ts)).length = 0) := by
    rw [bpL_nil]
    unfold bdT
    rw [hv, cond_true, List.length_map]
  have hpos := bpL_len (bdP cs.length ts)
  have HLb : Hid ((bpL (bdP cs.length ts)).length ≤ 8192) := Lib.hid (by
    have h := bdT_len cs ts
    unfold bdT at h
    rw [hv, cond_true, List.length_map] at h
    omega)
  have HJ2 := Lib.hid J2
  unfold closedB
  rw [htl, hv, Bool.true_and, hbn]
  have HP := Lib.hid hp
  have HT := Lib.hid ht
  have C01 := Lib.hid (And.intro a0 a1)
  clear hp ht hv hs J2 hpl hbn htl hpos
  generalize decide (sidesL ts).Nodup = sh at *
  generalize bpL (bdP cs.length ts) = B at *
  have k1 := C01.out.2
  go_enter Try.func59, Try.ntmps59
  go_wp2_with fail
  refine HJ2.out.mono ?_
  rintro e w1 ⟨rfl, hB1⟩
  replace a0 := cell_below hB1 C01.out.1
  replace a1 := cell_below hB1 C01.out.2
  have HB1 := Lib.hid hB1
  clear hB1 k1
  cases sh
  · go_wp2
    go_ret
    exact ⟨rfl, HB1.out⟩
  · by_cases h0 : 0 < tl
    · have h0' : (0 : Int) < (tl : Int) := by omega
      go_wp2_with fail
      refine (J1.out w1 a0 a1 (HP.out.below HB1.out) (HT.out.below HB1.out)).mono ?_
      rintro e w2 ⟨v, rfl, ho, hB2⟩
      obtain ⟨ra, rc, rfl⟩ := owns_slice ho
      have HB2 := Lib.hid (HB1.out.trans (hB2.mono HB1.out.size))
      have hlb := HLb.out
      clear ho hB2 a0 a1 J1
      by_cases h1 : B.length = 0
      · have h1' : ((B.length : Int) == 0) = true := by simp [h1]
        go_wp2
        go_ret
        exact ⟨ret_bool (by simp [h0, h1]), HB2.out⟩
      · have h1' : ((B.length : Int) == 0) = false := beq_eq_false_iff_ne.2 (by omega)
        go_wp2
        go_ret
        exact ⟨ret_bool (by simp [h0, h1]), HB2.out⟩
    · have h0' : ¬ (0 : Int) < (tl : Int) := by omega
      go_wp2
      go_ret
      exact ⟨ret_bool (by simp [h0]), HB1.out⟩
set_option maxHeartbeats 1000000 in
theorem spec_IsClosed (pa ta : Option Addr) (pl pc tl tc : Nat) (cs : List C3) (ts : List (List Int)) (w : World) (hp : IsVs w pa pl pc cs) (ht : IsTs w ta tl tc ts) :
    Calls Try.prog 28 #[.agg #[.slice pa pl pc, .slice ta tl tc]] w fun e w' => e = .returned (.bool (closedB cs ts)) ∧ Below w.heap.size w w' := by
  have ui := Try.underlying31
  have hpl := hp.1
  have hB0 : Below w.heap.size w (w.alloc (.cells #[.slice pa pl pc, .slice ta tl tc] 31)) := (Below.refl _ _).alloc (Nat.le_refl _) _
  have a0 : (w.alloc (.cells #[.slice pa pl pc, .slice ta tl tc] 31)).cell? ⟨w.heap.size, 0, none⟩ = some (.slice pa pl pc) := by go_simp
  have a1 : (w.alloc (.cells #[.slice pa pl pc, .slice ta tl tc] 31)).cell? ⟨w.heap.size, 1, none⟩ = some (.slice ta tl tc) := by go_simp
  have J := Lib.hid (l02Is w.heap.size pa ta pl pc tl tc cs ts _ a0 a1 (hp.below hB0) (ht.below hB0))
  cases hv : validB cs ts
  · rw [hv] at J
    have he : closedB cs ts = false := by unfold closedB; rw [hv]; rfl
    rw [he]
    have HB0 := Lib.hid hB0
    clear hv hB0 a0 a1 hp ht he
    go_enter Try.func28, Try.ntmps28
    go_wp2_with fail
    generalize (w.alloc (.cells #[.slice pa pl pc, .slice ta tl tc] 31)) = W at *
    refine J.out.mono ?_
    rintro e w1 ⟨rfl, n, hw⟩
    have HB := Lib.hid (below_drewN HB0.out n)
    rw [hw]
    clear hw
    go_wp2
    go_ret
    exact ⟨rfl, HB.out⟩
  · rw [hv] at J
    have J2 := Lib.hid (fun n => l04Closed w.heap.size pa ta pl pc tl tc cs ts (World.drewN (w.alloc (.cells #[.slice pa pl pc, .slice ta tl tc] 31)) n) a0 a1 ((hp.below hB0).below (below_drewN (Below.refl _ _) n)) ((ht.below hB0).below (below_drewN (Below.refl _ _) n)) hv)
    generalize closedB cs ts = nd at *
    have HB0 := Lib.hid hB0
    clear hv hB0 a0 a1 hp ht
    go_enter Try.func28, Try.ntmps28
    go_wp2_with fail
    generalize (w.alloc (.cells #[.slice pa pl pc, .slice ta tl tc] 31)) = W at *
    refine J.out.mono ?_
    rintro e w1 ⟨rfl, n, hw⟩
    rw [hw]
    clear hw
    go_wp2_with fail
    refine (J2.out n).mono ?_
    rintro e w2 ⟨rfl, hB2⟩
    have HB := Lib.hid ((below_drewN HB0.out n).trans (hB2.mono (below_drewN HB0.out n).size))
    clear hB2
    go_wp2
    go_ret
    exact ⟨rfl, HB.out⟩
end Go.Proofs.Ytockhhfehjoldaa


/-
Whether two meshes have the same form: what the program and its model return. Conditions: none.
-/
import Derived.Test.YtmbekamnogbgaaaMsB
import Derived.Test.YtmbekamnogbgaaaMwH
namespace Go.Proofs.Ytmbekamnogbgaaa
open Go Fk Go.RowKit
set_option linter.unusedVariables false
set_option maxRecDepth 8000

/-- Both are valid, with as many places and equal triangles. -/
def sameF (cs cs' : List C3) (ts ts' : List (List Int)) : Bool := validB cs ts && decide (cs.length = cs'.length) && decide (ts = ts')
theorem valid_of_len {cs cs' : List C3} {ts : List (List Int)} (h : cs.length = cs'.length) : validB cs ts = validB cs' ts := by
  unfold validB; rw [h]
theorem sameF_other {cs cs' : List C3} {ts ts' : List (List Int)} (h : validB cs' ts' = false) : sameF cs cs' ts ts' = false := by
  unfold sameF
  by_cases hl : cs.length = cs'.length
  · by_cases ht : ts = ts'
    · subst ht
      rw [valid_of_len hl, h]; rfl
    · rw [decide_eq_false ht, Bool.and_false]
  · rw [decide_eq_false hl, Bool.and_false, Bool.false_and]
set_option maxHeartbeats 1000000 in
theorem impl_SameForm (pa ta pa' ta' : Option Addr) (pl pc tl tc pl' pc' tl' tc' : Nat) (cs cs' : List C3) (ts ts' : List (List Int)) (w : World) (hp : IsVs w pa pl pc cs) (ht : IsTs w ta tl tc ts) (hp' : IsVs w pa' pl' pc' cs') (ht' : IsTs w ta' tl' tc' ts') :
    Calls Try.prog 47 #[.agg #[.slice pa pl pc, .slice ta tl tc], .agg #[.slice pa' pl' pc', .slice ta' tl' tc']] w fun e w' => e = .returned (.bool (sameF cs cs' ts ts')) ∧ Below w.heap.size w w' := by
  have ui := Try.underlying29
  have hpm : pl ≤ 9223372036854775807 := by have h1 := hp.2.1; have h2 := hp.2.2.1; unfold maxLen at h2; omega
  have htm : tl ≤ 9223372036854775807 := by have h1 := ht.2.1; have h2 := ht.2.2.1; unfold maxLen at h2; omega
  have e1 := hp.1
  have e2 := ht.1
  have e3 := hp'.1
  have e4 := ht'.1
  have hB0 : Below w.heap.size w ((w.alloc (.cells #[.slice pa pl pc, .slice ta tl tc] 29)).alloc (.cells #[.slice pa' pl' pc', .slice ta' tl' tc'] 29)) := ((Below.refl _ _).alloc (Nat.le_refl _) _).alloc (by simp) _
  have a0 : ((w.alloc (.cells #[.slice pa pl pc, .slice ta tl tc] 29)).alloc (.cells #[.slice pa' pl' pc', .slice ta' tl' tc'] 29)).cell? ⟨w.heap.size, 0, none⟩ = some (.slice pa pl pc) := by go_simp
  have a1 : ((w.alloc (.cells #[.slice pa pl pc, .slice ta tl tc] 29)).alloc (.cells #[.slice pa' pl' pc', .slice ta' tl' tc'] 29)).cell? ⟨w.heap.size, 1, none⟩ = some (.slice ta tl tc) := by go_simp
  have b0 : ((w.alloc (.cells #[.slice pa pl pc, .slice ta tl tc] 29)).alloc (.cells #[.slice pa' pl' pc', .slice ta' tl' tc'] 29)).cell? ⟨w.heap.size + 1, 0, none⟩ = some (.slice pa' pl' pc') := by go_simp
  have b1 : ((w.alloc (.cells #[.slice pa pl pc, .slice ta tl tc] 29)).alloc (.cells #[.slice pa' pl' pc', .slice ta' tl' tc'] 29)).cell? ⟨w.heap.size + 1, 1, none⟩ = some (.slice ta' tl' tc') := by go_simp
  have P1 := Lib.hid (hp.below hB0)
  have P2 := Lib.hid (hp'.below hB0)
  have T1 := Lib.hid (ht.below hB0)
  have T2 := Lib.hid (ht'.below hB0)
  have HB0 := Lib.hid hB0
  clear hp hp' ht ht' hB0
  have J := Lib.hid (impl_ValidMesh pa ta pl pc tl tc cs ts _ P1.out T1.out)
  have A1 := Lib.hid a1
  have B1 := Lib.hid b1
  have A0 := Lib.hid a0
  have B0 := Lib.hid b0
  clear a0 a1 b0 b1
  unfold sameF
  rw [e1, e3]
  cases hv : validB cs ts
  · rw [hv] at J
    clear hv
    go_enter Try.func47, Try.ntmps47
    go_wp2_with fail
    refine J.out.mono ?_
    rintro e w1 ⟨rfl, hB1⟩
    have HB := Lib.hid (HB0.out.trans (hB1.mono HB0.out.size))
    clear hB1
    go_wp2
    go_ret
    exact ⟨rfl, HB.out⟩
  · rw [hv] at J
    clear hv
    by_cases hpe : pl = pl'
    · subst hpe
      have hpd : decide (pl = pl) = true := decide_eq_true rfl
      rw [hpd]
      generalize hT : decide (ts = ts') = st
      have HT := Lib.hid hT
      clear hT hpd
      go_enter Try.func47, Try.ntmps47
      go_wp2_with fail
      refine J.out.mono ?_
      rintro e w1 ⟨rfl, hB1⟩
      have d0 := cell_below hB1 A0.out
      have d1 := cell_below hB1 A1.out
      have f0 := cell_below hB1 B0.out
      have f1 := cell_below hB1 B1.out
      have HB := Lib.hid (HB0.out.trans (hB1.mono HB0.out.size))
      have HB1 := Lib.hid hB1
      clear hB1
      go_wp2_with fail
      refine (equalRows _ _ _ _ _ _ _ _ _ (T1.out.below HB1.out) (T2.out.below HB1.out)).mono ?_
      rw [HT.out]
      rintro e w2 ⟨rfl, n, hw⟩
      have HW := Lib.hid hw
      clear hw
      cases st
      all_goals
        go_wp2
        go_ret
        exact ⟨by first | rfl | simp, by rw [HW.out]; exact below_drewN HB.out _⟩
    · have hpe' : ¬ (pl : Int) = pl' := by omega
      have hpd : decide (pl = pl') = false := decide_eq_false hpe
      rw [hpd]
      clear hpd
      go_enter Try.func47, Try.ntmps47
      go_wp2_with fail
      refine J.out.mono ?_
      rintro e w1 ⟨rfl, hB1⟩
      have d0 := cell_below hB1 A0.out
      have f0 := cell_below hB1 B0.out
      have HB := Lib.hid (HB0.out.trans (hB1.mono HB0.out.size))
      clear hB1
      go_wp2
      go_ret
      exact ⟨by first | rfl | simp, HB.out⟩
set_option maxHeartbeats 2000000 in
theorem spec_SameForm (pa ta pa' ta' : Option Addr) (pl pc tl tc pl' pc' tl' tc' : Nat) (cs cs' : List C3) (ts ts' : List (List Int)) (w : World) (hp : IsVs w pa pl pc cs) (ht : IsTs w ta tl tc ts) (hp' : IsVs w pa' pl' pc' cs') (ht' : IsTs w ta' tl' tc' ts') :
    Calls Try.prog 46 #[.agg #[.slice pa pl pc, .slice ta tl tc], .agg #[.slice pa' pl' pc', .slice ta' tl' tc']] w fun e w' => e = .returned (.bool (sameF cs cs' ts ts')) ∧ Below w.heap.size w w' := by
  have ui := Try.underlying29
  have hpm : pl ≤ 9223372036854775807 := by have h1 := hp.2.1; have h2 := hp.2.2.1; unfold maxLen at h2; omega
  have htm : tl ≤ 9223372036854775807 := by have h1 := ht.2.1; have h2 := ht.2.2.1; unfold maxLen at h2; omega
  have e1 := hp.1
  have e2 := ht.1
  have e3 := hp'.1
  have e4 := ht'.1
  have hB0 : Below w.heap.size w ((w.alloc (.cells #[.slice pa pl pc, .slice ta tl tc] 29)).alloc (.cells #[.slice pa' pl' pc', .slice ta' tl' tc'] 29)) := ((Below.refl _ _).alloc (Nat.le_refl _) _).alloc (by simp) _
  have a0 : ((w.alloc (.cells #[.slice pa pl pc, .slice ta tl tc] 29)).alloc (.cells #[.slice pa' pl' pc', .slice ta' tl' tc'] 29)).cell? ⟨w.heap.size, 0, none⟩ = some (.slice pa pl pc) := by go_simp
  have a1 : ((w.alloc (.cells #[.slice pa pl pc, .slice ta tl tc] 29)).alloc (.cells #[.slice pa' pl' pc', .slice ta' tl' tc'] 29)).cell? ⟨w.heap.size, 1, none⟩ = some (.slice ta tl tc) := by go_simp
  have b0 : ((w.alloc (.cells #[.slice pa pl pc, .slice ta tl tc] 29)).alloc (.cells #[.slice pa' pl' pc', .slice ta' tl' tc'] 29)).cell? ⟨w.heap.size + 1, 0, none⟩ = some (.slice pa' pl' pc') := by go_simp
  have b1 : ((w.alloc (.cells #[.slice pa pl pc, .slice ta tl tc] 29)).alloc (.cells #[.slice pa' pl' pc', .slice ta' tl' tc'] 29)).cell? ⟨w.heap.size + 1, 1, none⟩ = some (.slice ta' tl' tc') := by go_simp
  have P1 := Lib.hid (hp.below hB0)
  have P2 := Lib.hid (hp'.below hB0)
  have T1 := Lib.hid (ht.below hB0)
  have T2 := Lib.hid (ht'.below hB0)
  have HB0 := Lib.hid hB0
  clear hp hp' ht ht' hB0
  have J1 := Lib.hid (l02Is w.heap.size pa ta pl pc tl tc cs ts _ a0 a1 P1.out T1.out)
  cases hv : validB cs ts
  · rw [hv] at J1
    have hres : sameF cs cs' ts ts' = false := by unfold sameF; rw [hv]; rfl
    rw [hres]
    clear hv hres
    go_enter Try.func46, Try.ntmps46
    go_wp2_with fail
    generalize ((w.alloc (.cells #[.slice pa pl pc, .slice ta tl tc] 29)).alloc (.cells #[.slice pa' pl' pc', .slice ta' tl' tc'] 29)) = W at *
    refine J1.out.mono ?_
    rintro e w1 ⟨rfl, n, hw⟩
    have HB := Lib.hid (below_drewN HB0.out n)
    rw [hw]
    clear hw
    go_wp2
    go_ret
    exact ⟨rfl, HB.out⟩
  · rw [hv] at J1
    have J2 := Lib.hid (fun n => l02Is (w.heap.size + 1) pa' ta' pl' pc' tl' tc' cs' ts' (World.drewN ((w.alloc (.cells #[.slice pa pl pc, .slice ta tl tc] 29)).alloc (.cells #[.slice pa' pl' pc', .slice ta' tl' tc'] 29)) n) b0 b1 (P2.out.below (below_drewN (Below.refl _ _) n)) (T2.out.below (below_drewN (Below.refl _ _) n)))
    cases hv' : validB cs' ts'
    · rw [hv'] at J2
      have hres : sameF cs cs' ts ts' = false := sameF_other hv'
      rw [hres]
      clear hv hv' hres
      go_enter Try.func46, Try.ntmps46
      go_wp2_with fail
      generalize ((w.alloc (.cells #[.slice pa pl pc, .slice ta tl tc] 29)).alloc (.cells #[.slice pa' pl' pc', .slice ta' tl' tc'] 29)) = W at *
      refine J1.out.mono ?_
      rintro e w1 ⟨rfl, n, hw⟩
      rw [hw]
      clear hw
      go_wp2_with fail
      refine (J2.out n).mono ?_
      rintro e w2 ⟨rfl, m, hw⟩
      have HB := Lib.hid (below_drewN HB0.out (n + m))
      rw [hw]
      clear hw
      go_wp2
      go_ret
      exact ⟨rfl, HB.out⟩
    · rw [hv'] at J2
      have hsF : sameF cs cs' ts ts' = (decide (pl = pl') && decide (ts = ts')) := by unfold sameF; rw [hv, e1, e3]; rfl
      rw [hsF]
      clear hv hv' hsF
      by_cases hpe : pl = pl'
      · by_cases hte : tl = tl'
        · subst hpe hte
          have hpd : decide (pl = pl) = true := decide_eq_true rfl
          rw [hpd, Bool.true_and]
          have E2 := Lib.hid e2
          have E4 := Lib.hid e4
          have A0 := Lib.hid a0
          have A1 := Lib.hid a1
          have B0 := Lib.hid b0
          have B1 := Lib.hid b1
          clear e1 e2 e3 e4 hpd a0 a1 b0 b1
          go_enter Try.func46, Try.ntmps46
          go_wp2_with fail
          generalize ((w.alloc (.cells #[.slice pa pl pc, .slice ta tl tc] 29)).alloc (.cells #[.slice pa' pl pc', .slice ta' tl tc'] 29)) = W at *
          refine J1.out.mono ?_
          rintro e w1 ⟨rfl, n, hw⟩
          rw [hw]
          clear hw
          go_wp2_with fail
          refine (J2.out n).mono ?_
          rintro e w2 ⟨rfl, m, hw⟩
          rw [hw, World.drewN_drewN]
          clear hw
          have x0 : (W.drewN (n + m)).cell? ⟨w.heap.size, 0, none⟩ = some (.slice pa pl pc) := A0.out
          have x1 : (W.drewN (n + m)).cell? ⟨w.heap.size, 1, none⟩ = some (.slice ta tl tc) := A1.out
          have y0 : (W.drewN (n + m)).cell? ⟨w.heap.size + 1, 0, none⟩ = some (.slice pa' pl pc') := B0.out
          have y1 : (W.drewN (n + m)).cell? ⟨w.heap.size + 1, 1, none⟩ = some (.slice ta' tl tc') := B1.out
          have HBA := Lib.hid (below_drewN HB0.out (n + m))
          have T1' := Lib.hid (T1.out.below (below_drewN (Below.refl _ _) (n + m)))
          have T2' := Lib.hid (T2.out.below (below_drewN (Below.refl _ _) (n + m)))
          clear P1 P2 T1 T2 A0 B0 A1 B1 J1 J2
          generalize (W.drewN (n + m)) = V at *
          go_wp2_with fail
          go_loopw [5] (fun i w' => ∃ k : Nat, k ≤ tl ∧ i = .int .i64 k ∧ Aside (∀ j, j < k → decide (ts.getD j [] = ts'.getD j []) = true) ∧ ∃ n, w' = V.drewN n) (fun i _ => tl - (intOf i).toNat)
          case atStart => exact ⟨0, Nat.zero_le _, rfl, (fun j hj => absurd hj (by omega)), 0, rfl⟩
          case round =>
            obtain ⟨k, hk, rfl, hall, n, hw⟩ := hrel
            have HW2 := Lib.hid hw
            have z1 : wr.cell? ⟨w.heap.size, 1, none⟩ = some (.slice ta tl tc) := by rw [hw]; exact x1
            have z2 : wr.cell? ⟨w.heap.size + 1, 1, none⟩ = some (.slice ta' tl tc') := by rw [hw]; exact y1
            by_cases hlt : k < tl
            · obtain ⟨ba, oa, rfl, hcell1⟩ := (T1'.out.drew hw).some (by omega)
              obtain ⟨bb, ob, rfl, hcell2⟩ := (T2'.out.drew hw).some (by omega)
              obtain ⟨r1, n1, q1, c1, i1⟩ := hcell1 k hlt
              obtain ⟨r2, n2, q2, c2, i2⟩ := hcell2 k hlt
              have hk0 : (0 : Int) ≤ (k : Int) := by omega
              have hk1 : (k : Int) < (tl : Int) := by omega
              have hJ := fun m => l00Same r1 r2 n1 q1 n2 q2 _ _ (wr.drewN m) i1.drew i2.drew
              cases hz : decide (ts.getD k [] = ts'.getD k [])
              · have hr2 := Lib.hid (rows_ne hz)
                rw [hz] at hJ
                have HJ := Lib.hid hJ
                clear hall hcell1 hcell2 hw i1 i2 hJ hz x0 x1 y0 y1
                go_wp2_with fail
                go_quiet ((go_at_call 103; exact Calls.quiet_of (HJ.out _)))
                go_wp2
                go_ret
                exact ⟨ret_bool hr2.out.symm, by rw [HW2.out, World.drewN_drewN]; exact below_drewN HBA.out _⟩
              · have hall' : Aside (∀ j, j < k + 1 → decide (ts.getD j [] = ts'.getD j []) = true) := by
                  intro j hj
                  by_cases hjk : j = k
                  · subst hjk; exact hz
                  · exact hall.out j (by omega)
                rw [hz] at hJ
                have HJ := Lib.hid hJ
                clear hz hall hcell1 hcell2 hw i1 i2 hJ x0 x1 y0 y1
                go_wp2_with fail
                go_quiet ((go_at_call 103; exact Calls.quiet_of (HJ.out _)))
                go_wp2
                go_roundw
                case rel => exact ⟨k + 1, by omega, by go_num, hall', drewn_end HW2.out⟩
                case measure => simp [intOf]; omega
            · obtain rfl : k = tl := by omega
              have hr2 := Lib.hid (rows_eq (E2.out.trans E4.out.symm) (fun j hj => hall.out j (by rw [E2.out] at hj; exact hj)))
              clear hall hw x0 x1 y0 y1
              go_wp2
              go_ret
              exact ⟨ret_bool hr2.out.symm, by rw [HW2.out]; exact below_drewN HBA.out _⟩
        · have hte' : ¬ (tl : Int) = tl' := by omega
          have hr : decide (ts = ts') = false := decide_eq_false (fun e => hte (by rw [← e2, ← e4, e]))
          rw [hr, Bool.and_false]
          subst hpe
          have A0 := Lib.hid a0
          have A1 := Lib.hid a1
          have B0 := Lib.hid b0
          have B1 := Lib.hid b1
          clear hr P1 P2 T1 T2 e1 e2 e3 e4 a0 a1 b0 b1
          go_enter Try.func46, Try.ntmps46
          go_wp2_with fail
          generalize ((w.alloc (.cells #[.slice pa pl pc, .slice ta tl tc] 29)).alloc (.cells #[.slice pa' pl pc', .slice ta' tl' tc'] 29)) = W at *
          refine J1.out.mono ?_
          rintro e w1 ⟨rfl, n, hw⟩
          rw [hw]
          clear hw
          go_wp2_with fail
          refine (J2.out n).mono ?_
          rintro e w2 ⟨rfl, m, hw⟩
          rw [hw, World.drewN_drewN]
          clear hw
          have x0 : (W.drewN (n + m)).cell? ⟨w.heap.size, 0, none⟩ = some (.slice pa pl pc) := A0.out
          have x1 : (W.drewN (n + m)).cell? ⟨w.heap.size, 1, none⟩ = some (.slice ta tl tc) := A1.out
          have y0 : (W.drewN (n + m)).cell? ⟨w.heap.size + 1, 0, none⟩ = some (.slice pa' pl pc') := B0.out
          have y1 : (W.drewN (n + m)).cell? ⟨w.heap.size + 1, 1, none⟩ = some (.slice ta' tl' tc') := B1.out
          have HBA := Lib.hid (below_drewN HB0.out (n + m))
          generalize (W.drewN (n + m)) = V at *
          go_wp2
          go_ret
          exact ⟨rfl, HBA.out⟩
      · have hpe' : ¬ (pl : Int) = pl' := by omega
        have hr : decide (pl = pl') = false := decide_eq_false hpe
        rw [hr, Bool.false_and]
        have A0 := Lib.hid a0
        have B0 := Lib.hid b0
        clear hr P1 P2 T1 T2 e1 e2 e3 e4 a0 a1 b0 b1
        go_enter Try.func46, Try.ntmps46
        go_wp2_with fail
        generalize ((w.alloc (.cells #[.slice pa pl pc, .slice ta tl tc] 29)).alloc (.cells #[.slice pa' pl' pc', .slice ta' tl' tc'] 29)) = W at *
        refine J1.out.mono ?_
        rintro e w1 ⟨rfl, n, hw⟩
        rw [hw]
        clear hw
        go_wp2_with fail
        refine (J2.out n).mono ?_
        rintro e w2 ⟨rfl, m, hw⟩
        rw [hw, World.drewN_drewN]
        clear hw
        have x0 : (W.drewN (n + m)).cell? ⟨w.heap.size, 0, none⟩ = some (.slice pa pl pc) := A0.out
        have y0 : (W.drewN (n + m)).cell? ⟨w.heap.size + 1, 0, none⟩ = some (.slice pa' pl' pc') := B0.out
        have HBA := Lib.hid (below_drewN HB0.out (n + m))
        generalize (W.drewN (n + m)) = V at *
        go_wp2
        go_ret
        exact ⟨rfl, HBA.out⟩
end Go.Proofs.Ytmbekamnogbgaaa

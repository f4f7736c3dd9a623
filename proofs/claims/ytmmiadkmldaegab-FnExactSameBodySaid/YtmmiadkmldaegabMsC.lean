
/-
Whether two meshes are the same: what the model returns. Conditions: none.
-/
import Derived.Test.YtmmiadkmldaegabMsB
import Derived.Test.YtmmiadkmldaegabReg
namespace Go.Proofs.Ytmmiadkmldaegab
open Go Fk Go.RowKit
set_option linter.unusedVariables false
set_option maxRecDepth 8000

set_option maxHeartbeats 2000000 in
theorem spec_SameMesh (pa ta pa' ta' : Option Addr) (pl pc tl tc pl' pc' tl' tc' : Nat) (cs cs' : List C3) (ts ts' : List (List Int)) (w : World) (hp : IsVs w pa pl pc cs) (ht : IsTs w ta tl tc ts) (hp' : IsVs w pa' pl' pc' cs') (ht' : IsTs w ta' tl' tc' ts') :
    Calls Try.prog 79 #[.agg #[.slice pa pl pc, .slice ta tl tc], .agg #[.slice pa' pl' pc', .slice ta' tl' tc']] w fun e w' => e = .returned (.bool (sameVs cs cs' && decide (ts = ts'))) ∧ Below w.heap.size w w' := by
  have ui := Try.underlying37
  have uv := Try.underlying39
  have hpm : pl ≤ 9223372036854775807 := by have h1 := hp.2.1; have h2 := hp.2.2.1; unfold maxLen at h2; omega
  have htm : tl ≤ 9223372036854775807 := by have h1 := ht.2.1; have h2 := ht.2.2.1; unfold maxLen at h2; omega
  have e1 := hp.1
  have e2 := ht.1
  have e3 := hp'.1
  have e4 := ht'.1
  have hB0 : Below w.heap.size w ((w.alloc (.cells #[.slice pa pl pc, .slice ta tl tc] 37)).alloc (.cells #[.slice pa' pl' pc', .slice ta' tl' tc'] 37)) := ((Below.refl _ _).alloc (Nat.le_refl _) _).alloc (by simp) _
  have a0 : ((w.alloc (.cells #[.slice pa pl pc, .slice ta tl tc] 37)).alloc (.cells #[.slice pa' pl' pc', .slice ta' tl' tc'] 37)).cell? ⟨w.heap.size, 0, none⟩ = some (.slice pa pl pc) := by go_simp
  have a1 : ((w.alloc (.cells #[.slice pa pl pc, .slice ta tl tc] 37)).alloc (.cells #[.slice pa' pl' pc', .slice ta' tl' tc'] 37)).cell? ⟨w.heap.size, 1, none⟩ = some (.slice ta tl tc) := by go_simp
  have b0 : ((w.alloc (.cells #[.slice pa pl pc, .slice ta tl tc] 37)).alloc (.cells #[.slice pa' pl' pc', .slice ta' tl' tc'] 37)).cell? ⟨w.heap.size + 1, 0, none⟩ = some (.slice pa' pl' pc') := by go_simp
  have b1 : ((w.alloc (.cells #[.slice pa pl pc, .slice ta tl tc] 37)).alloc (.cells #[.slice pa' pl' pc', .slice ta' tl' tc'] 37)).cell? ⟨w.heap.size + 1, 1, none⟩ = some (.slice ta' tl' tc') := by go_simp
  have P1 := hp.below hB0
  have P2 := hp'.below hB0
  have T1 := ht.below hB0
  have T2 := ht'.below hB0
  have HB0 := Lib.hid hB0
  clear hp hp' ht ht' hB0
  by_cases hpe : pl = pl'
  · by_cases hte : tl = tl'
    · subst hpe hte
      have E1 := Lib.hid e1
      have E2 := Lib.hid e2
      have E3 := Lib.hid e3
      have E4 := Lib.hid e4
      clear e1 e2 e3 e4
      go_enter Try.func79, Try.ntmps79
      go_wp2
      generalize (w.alloc (.cells #[.slice pa pl pc, .slice ta tl tc] 37)).alloc (.cells #[.slice pa' pl pc', .slice ta' tl tc'] 37) = W at *
      go_loopw [5] (fun i w' => ∃ k : Nat, k ≤ pl ∧ i = .int .i64 k ∧ Aside (∀ j, j < k → sameV (cs.getD j c0) (cs'.getD j c0) = true) ∧ Below W.heap.size W w') (fun i _ => pl - (intOf i).toNat)
      case atStart => exact ⟨0, Nat.zero_le _, rfl, (fun j hj => absurd hj (by omega)), Below.refl _ _⟩
      case round =>
        obtain ⟨k, hk, rfl, hall, hw⟩ := hrel
        have HW := Lib.hid hw
        have x0 := cell_below hw a0
        have x1 := cell_below hw a1
        have y0 := cell_below hw b0
        have y1 := cell_below hw b1
        by_cases hlt : k < pl
        · obtain ⟨ba, oa, rfl, hcell1⟩ := (P1.below hw).some (by omega)
          obtain ⟨bb, ob, rfl, hcell2⟩ := (P2.below hw).some (by omega)
          obtain ⟨p1, q1, r1, c11, c12, c13, f11, f12, f13⟩ := hcell1 k hlt
          obtain ⟨p2, q2, r2, c21, c22, c23, f21, f22, f23⟩ := hcell2 k hlt
          have hk0 : (0 : Int) ≤ (k : Int) := by omega
          have hk1 : (k : Int) < (pl : Int) := by omega
          have hJ := fun w => l01VSame p1 q1 r1 p2 q2 r2 w f11.1 f12.1 f13.1 f21.1 f22.1 f23.1
          have hsv : ((bitsZ p1 == bitsZ p2) && (bitsZ q1 == bitsZ q2) && (bitsZ r1 == bitsZ r2)) = sameV (cs.getD k c0) (cs'.getD k c0) := by
            unfold sameV; rw [bitsZ_of f11, bitsZ_of f12, bitsZ_of f13, bitsZ_of f21, bitsZ_of f22, bitsZ_of f23]
          rw [hsv] at hJ
          cases hz : sameV (cs.getD k c0) (cs'.getD k c0)
          · have hres : sameVs cs cs' = false := sameVs_ne (by rw [E1.out]; exact hlt) hz
            rw [hz] at hJ
            have HJ := Lib.hid hJ
            have HR := Lib.hid hres
            clear hall hcell1 hcell2 P1 P2 T1 T2 hw hJ hz hsv f11 f12 f13 f21 f22 f23 hres x1 y1 a0 a1 b0 b1
            go_wp2_with fail
            refine Reg.wp_region_mix (C := fun w' => Below wr.heap.size wr w') (G := fun _ _ => True) (R := fun i v _ => match i with | 0 => v = .pointer (some ⟨w.heap.size, 0, none⟩) | 1 => v = .slice (some ⟨ba, oa, none⟩) pl pc | 2 => v = .int .i64 k | 3 => v = .pointer (some ⟨ba, oa + k * 3, none⟩) | 4 => v = vv p1 q1 r1 | 5 => v = .pointer (some ⟨w.heap.size + 1, 0, none⟩) | 6 => v = .slice (some ⟨bb, ob, none⟩) pl pc' | 7 => v = .int .i64 k | 8 => v = .pointer (some ⟨bb, ob + k * 3, none⟩) | 9 => v = vv p2 q2 r2 | 10 => v = .bool false | 11 => v = .bool true | _ => True) (T := fun _ _ _ => True) [false, false, false, false, false, false, false, false, false, false, false, false, false, false, false, false, false, false, false, false, false, false, false, false, false, false, false, false, false, false, true, true, true, true, true, true, true, true, true, true, true, true, false, false, false, false, false, false, false, false, false, false, false, false, false, false, false, false, false, false, false]
              (by kernel_rfl) (by kernel_rfl) (by kernel_rfl) (fun _ _ _ _ _ _ h => h) (below_drewN (Below.refl _ _) 1) ?_ ?_
            · refine ⟨Reg.Obl.mk ?_, Reg.Obl.mk ?_, Reg.Obl.mk ?_, Reg.Obl.mk ?_, Reg.Obl.mk ?_, Reg.Obl.mk ?_, Reg.Obl.mk ?_, Reg.Obl.mk ?_, Reg.Obl.mk ?_, Reg.Obl.mk ?_, Reg.Obl.mk ?_, Reg.Obl.mk ?_, trivial⟩
              · rintro a w1 hB hx hd K hK
                have t2 : a.tmps[2]?.getD undef = .pointer (some ⟨w.heap.size, 0, none⟩) := Reg.slot_val (hx 2 (by kernel_rfl))
                have z0 := cell_below hB x0
                have z1 := cell_below hB y0
                have z2 := cell_below hB c11
                have z3 := cell_below hB c12
                have z4 := cell_below hB c13
                have z5 := cell_below hB c21
                have z6 := cell_below hB c22
                have z7 := cell_below hB c23
                go_simp
                exact hK _ _ (fun _ => rfl) (fun h => by cases h) hB trivial
              · rintro a w1 hB hx hd K hK
                have t30 : a.tmps[30]?.getD undef = .pointer (some ⟨w.heap.size, 0, none⟩) := Reg.slot_val (hd 0 (by kernel_rfl) 30 rfl)
                have z0 := cell_below hB x0
                have z1 := cell_below hB y0
                have z2 := cell_below hB c11
                have z3 := cell_below hB c12
                have z4 := cell_below hB c13
                have z5 := cell_below hB c21
                have z6 := cell_below hB c22
                have z7 := cell_below hB c23
                go_simp
                exact hK _ _ (fun _ => rfl) (fun h => by cases h) hB trivial
              · rintro a w1 hB hx hd K hK
                have t5 : a.tmps[5]?.getD undef = .int .i64 k := Reg.slot_val (hx 5 (by kernel_rfl))
                have z0 := cell_below hB x0
                have z1 := cell_below hB y0
                have z2 := cell_below hB c11
                have z3 := cell_below hB c12
                have z4 := cell_below hB c13
                have z5 := cell_below hB c21
                have z6 := cell_below hB c22
                have z7 := cell_below hB c23
                go_simp
                exact hK _ _ (fun _ => rfl) (fun h => by cases h) hB trivial
              · rintro a w1 hB hx hd K hK
                have t31 : a.tmps[31]?.getD undef = .slice (some ⟨ba, oa, none⟩) pl pc := Reg.slot_val (hd 1 (by kernel_rfl) 31 rfl)
                have t32 : a.tmps[32]?.getD undef = .int .i64 k := Reg.slot_val (hd 2 (by kernel_rfl) 32 rfl)
                have z0 := cell_below hB x0
                have z1 := cell_below hB y0
                have z2 := cell_below hB c11
                have z3 := cell_below hB c12
                have z4 := cell_below hB c13
                have z5 := cell_below hB c21
                have z6 := cell_below hB c22
                have z7 := cell_below hB c23
                go_simp
                exact hK _ _ (fun _ => rfl) (fun h => by cases h) hB trivial
              · rintro a w1 hB hx hd K hK
                have t33 : a.tmps[33]?.getD undef = .pointer (some ⟨ba, oa + k * 3, none⟩) := Reg.slot_val (hd 3 (by kernel_rfl) 33 rfl)
                have z0 := cell_below hB x0
                have z1 := cell_below hB y0
                have z2 := cell_below hB c11
                have z3 := cell_below hB c12
                have z4 := cell_below hB c13
                have z5 := cell_below hB c21
                have z6 := cell_below hB c22
                have z7 := cell_below hB c23
                go_simp
                exact hK _ _ (fun _ => rfl) (fun h => by cases h) hB trivial
              · rintro a w1 hB hx hd K hK
                have t3 : a.tmps[3]?.getD undef = .pointer (some ⟨w.heap.size + 1, 0, none⟩) := Reg.slot_val (hx 3 (by kernel_rfl))
                have z0 := cell_below hB x0
                have z1 := cell_below hB y0
                have z2 := cell_below hB c11
                have z3 := cell_below hB c12
                have z4 := cell_below hB c13
                have z5 := cell_below hB c21
                have z6 := cell_below hB c22
                have z7 := cell_below hB c23
                go_simp
                exact hK _ _ (fun _ => rfl) (fun h => by cases h) hB trivial
              · rintro a w1 hB hx hd K hK
                have t35 : a.tmps[35]?.getD undef = .pointer (some ⟨w.heap.size + 1, 0, none⟩) := Reg.slot_val (hd 5 (by kernel_rfl) 35 rfl)
                have z0 := cell_below hB x0
                have z1 := cell_below hB y0
                have z2 := cell_below hB c11
                have z3 := cell_below hB c12
                have z4 := cell_below hB c13
                have z5 := cell_below hB c21
                have z6 := cell_below hB c22
                have z7 := cell_below hB c23
                go_simp
                exact hK _ _ (fun _ => rfl) (fun h => by cases h) hB trivial
              · rintro a w1 hB hx hd K hK
                have t5 : a.tmps[5]?.getD undef = .int .i64 k := Reg.slot_val (hx 5 (by kernel_rfl))
                have z0 := cell_below hB x0
                have z1 := cell_below hB y0
                have z2 := cell_below hB c11
                have z3 := cell_below hB c12
                have z4 := cell_below hB c13
                have z5 := cell_below hB c21
                have z6 := cell_below hB c22
                have z7 := cell_below hB c23
                go_simp
                exact hK _ _ (fun _ => rfl) (fun h => by cases h) hB trivial
              · rintro a w1 hB hx hd K hK
                have t36 : a.tmps[36]?.getD undef = .slice (some ⟨bb, ob, none⟩) pl pc' := Reg.slot_val (hd 6 (by kernel_rfl) 36 rfl)
                have t37 : a.tmps[37]?.getD undef = .int .i64 k := Reg.slot_val (hd 7 (by kernel_rfl) 37 rfl)
                have z0 := cell_below hB x0
                have z1 := cell_below hB y0
                have z2 := cell_below hB c11
                have z3 := cell_below hB c12
                have z4 := cell_below hB c13
                have z5 := cell_below hB c21
                have z6 := cell_below hB c22
                have z7 := cell_below hB c23
                go_simp
                exact hK _ _ (fun _ => rfl) (fun h => by cases h) hB trivial
              · rintro a w1 hB hx hd K hK
                have t38 : a.tmps[38]?.getD undef = .pointer (some ⟨bb, ob + k * 3, none⟩) := Reg.slot_val (hd 8 (by kernel_rfl) 38 rfl)
                have z0 := cell_below hB x0
                have z1 := cell_below hB y0
                have z2 := cell_below hB c11
                have z3 := cell_below hB c12
                have z4 := cell_below hB c13
                have z5 := cell_below hB c21
                have z6 := cell_below hB c22
                have z7 := cell_below hB c23
                go_simp
                exact hK _ _ (fun _ => rfl) (fun h => by cases h) hB trivial
              · rintro a w1 hB hx hd K hK
                have t34 : a.tmps[34]?.getD undef = vv p1 q1 r1 := Reg.slot_val (hd 4 (by kernel_rfl) 34 rfl)
                have t39 : a.tmps[39]?.getD undef = vv p2 q2 r2 := Reg.slot_val (hd 9 (by kernel_rfl) 39 rfl)
                go_simp
                refine (HJ.out _).mono ?_
                rintro en w2 ⟨rfl, hB2⟩
                exact hK _ _ (fun _ => rfl) (fun h => by cases h) (hB.trans (hB2.mono hB.size)) trivial
              · rintro a w1 hB hx hd K hK
                have t40 : a.tmps[40]?.getD undef = .bool false := Reg.slot_val (hd 10 (by kernel_rfl) 40 rfl)
                have z0 := cell_below hB x0
                have z1 := cell_below hB y0
                have z2 := cell_below hB c11
                have z3 := cell_below hB c12
                have z4 := cell_below hB c13
                have z5 := cell_below hB c21
                have z6 := cell_below hB c22
                have z7 := cell_below hB c23
                go_simp
                exact hK _ _ (fun _ => rfl) (fun h => by cases h) hB trivial
            · rintro f w6 hB6 hd hT
              have g41 : f 41 = .bool true := hd 11 41 rfl
              simp only [Reg.mixL, g41]
              have HB6 := Lib.hid hB6
              clear hB6
              go_wp2
              go_ret
              exact ⟨ret_bool (by rw [HR.out, Bool.false_and]), HB0.out.trans ((HW.out.trans (HB6.out.mono HW.out.size)).mono HB0.out.size)⟩
          · have hall' : Aside (∀ j, j < k + 1 → sameV (cs.getD j c0) (cs'.getD j c0) = true) := by
              intro j hj
              by_cases hjk : j = k
              · subst hjk; exact hz
              · exact hall.out j (by omega)
            rw [hz] at hJ
            have HJ := Lib.hid hJ
            clear hz hall hcell1 hcell2 P1 P2 T1 T2 hw hJ hsv f11 f12 f13 f21 f22 f23 x1 y1 a0 a1 b0 b1
            go_wp2_with fail
            refine Reg.wp_region_mix (C := fun w' => Below wr.heap.size wr w') (G := fun _ _ => True) (R := fun i v _ => match i with | 0 => v = .pointer (some ⟨w.heap.size, 0, none⟩) | 1 => v = .slice (some ⟨ba, oa, none⟩) pl pc | 2 => v = .int .i64 k | 3 => v = .pointer (some ⟨ba, oa + k * 3, none⟩) | 4 => v = vv p1 q1 r1 | 5 => v = .pointer (some ⟨w.heap.size + 1, 0, none⟩) | 6 => v = .slice (some ⟨bb, ob, none⟩) pl pc' | 7 => v = .int .i64 k | 8 => v = .pointer (some ⟨bb, ob + k * 3, none⟩) | 9 => v = vv p2 q2 r2 | 10 => v = .bool true | 11 => v = .bool false | _ => True) (T := fun _ _ _ => True) [false, false, false, false, false, false, false, false, false, false, false, false, false, false, false, false, false, false, false, false, false, false, false, false, false, false, false, false, false, false, true, true, true, true, true, true, true, true, true, true, true, true, false, false, false, false, false, false, false, false, false, false, false, false, false, false, false, false, false, false, false]
              (by kernel_rfl) (by kernel_rfl) (by kernel_rfl) (fun _ _ _ _ _ _ h => h) (below_drewN (Below.refl _ _) 1) ?_ ?_
            · refine ⟨Reg.Obl.mk ?_, Reg.Obl.mk ?_, Reg.Obl.mk ?_, Reg.Obl.mk ?_, Reg.Obl.mk ?_, Reg.Obl.mk ?_, Reg.Obl.mk ?_, Reg.Obl.mk ?_, Reg.Obl.mk ?_, Reg.Obl.mk ?_, Reg.Obl.mk ?_, Reg.Obl.mk ?_, trivial⟩
              · rintro a w1 hB hx hd K hK
                have t2 : a.tmps[2]?.getD undef = .pointer (some ⟨w.heap.size, 0, none⟩) := Reg.slot_val (hx 2 (by kernel_rfl))
                have z0 := cell_below hB x0
                have z1 := cell_below hB y0
                have z2 := cell_below hB c11
                have z3 := cell_below hB c12
                have z4 := cell_below hB c13
                have z5 := cell_below hB c21
                have z6 := cell_below hB c22
                have z7 := cell_below hB c23
                go_simp
                exact hK _ _ (fun _ => rfl) (fun h => by cases h) hB trivial
              · rintro a w1 hB hx hd K hK
                have t30 : a.tmps[30]?.getD undef = .pointer (some ⟨w.heap.size, 0, none⟩) := Reg.slot_val (hd 0 (by kernel_rfl) 30 rfl)
                have z0 := cell_below hB x0
                have z1 := cell_below hB y0
                have z2 := cell_below hB c11
                have z3 := cell_below hB c12
                have z4 := cell_below hB c13
                have z5 := cell_below hB c21
                have z6 := cell_below hB c22
                have z7 := cell_below hB c23
                go_simp
                exact hK _ _ (fun _ => rfl) (fun h => by cases h) hB trivial
              · rintro a w1 hB hx hd K hK
                have t5 : a.tmps[5]?.getD undef = .int .i64 k := Reg.slot_val (hx 5 (by kernel_rfl))
                have z0 := cell_below hB x0
                have z1 := cell_below hB y0
                have z2 := cell_below hB c11
                have z3 := cell_below hB c12
                have z4 := cell_below hB c13
                have z5 := cell_below hB c21
                have z6 := cell_below hB c22
                have z7 := cell_below hB c23
                go_simp
                exact hK _ _ (fun _ => rfl) (fun h => by cases h) hB trivial
              · rintro a w1 hB hx hd K hK
                have t31 : a.tmps[31]?.getD undef = .slice (some ⟨ba, oa, none⟩) pl pc := Reg.slot_val (hd 1 (by kernel_rfl) 31 rfl)
                have t32 : a.tmps[32]?.getD undef = .int .i64 k := Reg.slot_val (hd 2 (by kernel_rfl) 32 rfl)
                have z0 := cell_below hB x0
                have z1 := cell_below hB y0
                have z2 := cell_below hB c11
                have z3 := cell_below hB c12
                have z4 := cell_below hB c13
                have z5 := cell_below hB c21
                have z6 := cell_below hB c22
                have z7 := cell_below hB c23
                go_simp
                exact hK _ _ (fun _ => rfl) (fun h => by cases h) hB trivial
              · rintro a w1 hB hx hd K hK
                have t33 : a.tmps[33]?.getD undef = .pointer (some ⟨ba, oa + k * 3, none⟩) := Reg.slot_val (hd 3 (by kernel_rfl) 33 rfl)
                have z0 := cell_below hB x0
                have z1 := cell_below hB y0
                have z2 := cell_below hB c11
                have z3 := cell_below hB c12
                have z4 := cell_below hB c13
                have z5 := cell_below hB c21
                have z6 := cell_below hB c22
                have z7 := cell_below hB c23
                go_simp
                exact hK _ _ (fun _ => rfl) (fun h => by cases h) hB trivial
              · rintro a w1 hB hx hd K hK
                have t3 : a.tmps[3]?.getD undef = .pointer (some ⟨w.heap.size + 1, 0, none⟩) := Reg.slot_val (hx 3 (by kernel_rfl))
                have z0 := cell_below hB x0
                have z1 := cell_below hB y0
                have z2 := cell_below hB c11
                have z3 := cell_below hB c12
                have z4 := cell_below hB c13
                have z5 := cell_below hB c21
                have z6 := cell_below hB c22
                have z7 := cell_below hB c23
                go_simp
                exact hK _ _ (fun _ => rfl) (fun h => by cases h) hB trivial
              · rintro a w1 hB hx hd K hK
                have t35 : a.tmps[35]?.getD undef = .pointer (some ⟨w.heap.size + 1, 0, none⟩) := Reg.slot_val (hd 5 (by kernel_rfl) 35 rfl)
                have z0 := cell_below hB x0
                have z1 := cell_below hB y0
                have z2 := cell_below hB c11
                have z3 := cell_below hB c12
                have z4 := cell_below hB c13
                have z5 := cell_below hB c21
                have z6 := cell_below hB c22
                have z7 := cell_below hB c23
                go_simp
                exact hK _ _ (fun _ => rfl) (fun h => by cases h) hB trivial
              · rintro a w1 hB hx hd K hK
                have t5 : a.tmps[5]?.getD undef = .int .i64 k := Reg.slot_val (hx 5 (by kernel_rfl))
                have z0 := cell_below hB x0
                have z1 := cell_below hB y0
                have z2 := cell_below hB c11
                have z3 := cell_below hB c12
                have z4 := cell_below hB c13
                have z5 := cell_below hB c21
                have z6 := cell_below hB c22
                have z7 := cell_below hB c23
                go_simp
                exact hK _ _ (fun _ => rfl) (fun h => by cases h) hB trivial
              · rintro a w1 hB hx hd K hK
                have t36 : a.tmps[36]?.getD undef = .slice (some ⟨bb, ob, none⟩) pl pc' := Reg.slot_val (hd 6 (by kernel_rfl) 36 rfl)
                have t37 : a.tmps[37]?.getD undef = .int .i64 k := Reg.slot_val (hd 7 (by kernel_rfl) 37 rfl)
                have z0 := cell_below hB x0
                have z1 := cell_below hB y0
                have z2 := cell_below hB c11
                have z3 := cell_below hB c12
                have z4 := cell_below hB c13
                have z5 := cell_below hB c21
                have z6 := cell_below hB c22
                have z7 := cell_below hB c23
                go_simp
                exact hK _ _ (fun _ => rfl) (fun h => by cases h) hB trivial
              · rintro a w1 hB hx hd K hK
                have t38 : a.tmps[38]?.getD undef = .pointer (some ⟨bb, ob + k * 3, none⟩) := Reg.slot_val (hd 8 (by kernel_rfl) 38 rfl)
                have z0 := cell_below hB x0
                have z1 := cell_below hB y0
                have z2 := cell_below hB c11
                have z3 := cell_below hB c12
                have z4 := cell_below hB c13
                have z5 := cell_below hB c21
                have z6 := cell_below hB c22
                have z7 := cell_below hB c23
                go_simp
                exact hK _ _ (fun _ => rfl) (fun h => by cases h) hB trivial
              · rintro a w1 hB hx hd K hK
                have t34 : a.tmps[34]?.getD undef = vv p1 q1 r1 := Reg.slot_val (hd 4 (by kernel_rfl) 34 rfl)
                have t39 : a.tmps[39]?.getD undef = vv p2 q2 r2 := Reg.slot_val (hd 9 (by kernel_rfl) 39 rfl)
                go_simp
                refine (HJ.out _).mono ?_
                rintro en w2 ⟨rfl, hB2⟩
                exact hK _ _ (fun _ => rfl) (fun h => by cases h) (hB.trans (hB2.mono hB.size)) trivial
              · rintro a w1 hB hx hd K hK
                have t40 : a.tmps[40]?.getD undef = .bool true := Reg.slot_val (hd 10 (by kernel_rfl) 40 rfl)
                have z0 := cell_below hB x0
                have z1 := cell_below hB y0
                have z2 := cell_below hB c11
                have z3 := cell_below hB c12
                have z4 := cell_below hB c13
                have z5 := cell_below hB c21
                have z6 := cell_below hB c22
                have z7 := cell_below hB c23
                go_simp
                exact hK _ _ (fun _ => rfl) (fun h => by cases h) hB trivial
            · rintro f w6 hB6 hd hT
              have g41 : f 41 = .bool false := hd 11 41 rfl
              simp only [Reg.mixL, g41]
              have HB6 := Lib.hid hB6
              clear hB6
              go_wp2
              go_roundw
              case rel => exact ⟨k + 1, by omega, by go_num, hall', HW.out.trans (HB6.out.mono HW.out.size)⟩
              case measure => simp [intOf]; omega
        · obtain rfl : k = pl := by omega
          have hres := Lib.hid (sameVs_eq (E1.out.trans E3.out.symm) (fun j hj => hall.out j (by rw [E1.out] at hj; exact hj)))
          have T1' := T1.below hw
          have T2' := T2.below hw
          have HBA := Lib.hid (HB0.out.trans (hw.mono HB0.out.size))
          clear hall hw P1 P2 T1 T2 a0 a1 b0 b1
          obtain ⟨V, hV⟩ : ∃ V, V = wr := ⟨_, rfl⟩
          subst hV
          go_wp2_with fail
          go_loopw [6] (fun i w' => ∃ k : Nat, k ≤ tl ∧ i = .int .i64 k ∧ Aside (∀ j, j < k → decide (ts.getD j [] = ts'.getD j []) = true) ∧ ∃ n, w' = V.drewN n) (fun i _ => tl - (intOf i).toNat)
          case atStart => exact ⟨0, Nat.zero_le _, rfl, (fun j hj => absurd hj (by omega)), 0, rfl⟩
          case round =>
            obtain ⟨k, hk, rfl, hall, n, hw⟩ := hrel
            have HW2 := Lib.hid hw
            have z1 : wr.cell? ⟨w.heap.size, 1, none⟩ = some (.slice ta tl tc) := by rw [hw]; exact x1
            have z2 : wr.cell? ⟨w.heap.size + 1, 1, none⟩ = some (.slice ta' tl tc') := by rw [hw]; exact y1
            by_cases hlt : k < tl
            · obtain ⟨ba, oa, rfl, hcell1⟩ := (T1'.drew hw).some (by omega)
              obtain ⟨bb, ob, rfl, hcell2⟩ := (T2'.drew hw).some (by omega)
              obtain ⟨r1, n1, q1, c1, i1⟩ := hcell1 k hlt
              obtain ⟨r2, n2, q2, c2, i2⟩ := hcell2 k hlt
              have hk0 : (0 : Int) ≤ (k : Int) := by omega
              have hk1 : (k : Int) < (tl : Int) := by omega
              have hJ := fun m => l00Same r1 r2 n1 q1 n2 q2 _ _ (wr.drewN m) i1.drew i2.drew
              cases hz : decide (ts.getD k [] = ts'.getD k [])
              · have hr2 := Lib.hid (rows_ne hz)
                rw [hz] at hJ
                have HJ := Lib.hid hJ
                clear hall hcell1 hcell2 T1' T2' hw i1 i2 hJ hz x0 x1 y0 y1
                go_wp2_with fail
                go_quiet ((go_at_call 116; exact Calls.quiet_of (HJ.out _)))
                go_wp2
                go_ret
                exact ⟨ret_bool (by rw [hr2.out, Bool.and_false]), by rw [HW2.out, World.drewN_drewN]; exact below_drewN HBA.out _⟩
              · have hall' : Aside (∀ j, j < k + 1 → decide (ts.getD j [] = ts'.getD j []) = true) := by
                  intro j hj
                  by_cases hjk : j = k
                  · subst hjk; exact hz
                  · exact hall.out j (by omega)
                rw [hz] at hJ
                have HJ := Lib.hid hJ
                clear hz hall hcell1 hcell2 T1' T2' hw i1 i2 hJ x0 x1 y0 y1
                go_wp2_with fail
                go_quiet ((go_at_call 116; exact Calls.quiet_of (HJ.out _)))
                go_wp2
                go_roundw
                case rel => exact ⟨k + 1, by omega, by go_num, hall', drewn_end HW2.out⟩
                case measure => simp [intOf]; omega
            · obtain rfl : k = tl := by omega
              have hr2 := Lib.hid (rows_eq (E2.out.trans E4.out.symm) (fun j hj => hall.out j (by rw [E2.out] at hj; exact hj)))
              clear hall hw T1' T2' x0 x1 y0 y1
              go_wp2
              go_ret
              exact ⟨ret_bool (by rw [hr2.out, hres.out]; rfl), by rw [HW2.out]; exact below_drewN HBA.out _⟩
    · have hte' : ¬ (tl : Int) = tl' := by omega
      have hpe' : (pl : Int) = pl' := by omega
      have hr : decide (ts = ts') = false := decide_eq_false (fun e => hte (by rw [← e2, ← e4, e]))
      rw [hr, Bool.and_false]
      clear hr P1 P2 T1 T2 e1 e2 e3 e4
      subst hpe
      go_enter Try.func79, Try.ntmps79
      go_wp2
      go_ret
      exact ⟨rfl, HB0.out⟩
  · have hpe' : ¬ (pl : Int) = pl' := by omega
    have hr : sameVs cs cs' = false := by unfold sameVs; rw [decide_eq_false (by rw [e1, e3]; exact hpe), Bool.false_and]
    rw [hr, Bool.false_and]
    clear hr P1 P2 T1 T2 e1 e2 e3 e4
    go_enter Try.func79, Try.ntmps79
    go_wp2
    go_ret
    exact ⟨rfl, HB0.out⟩
end Go.Proofs.Ytmmiadkmldaegab

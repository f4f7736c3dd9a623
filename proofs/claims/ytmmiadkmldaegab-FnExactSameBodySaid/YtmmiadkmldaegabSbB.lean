
/-
Whether springs are the same: what the program returns. Conditions: none.
-/
import Derived.Test.YtmmiadkmldaegabSbA
import Derived.Test.YtmmiadkmldaegabReg3
namespace Go.Proofs.Ytmmiadkmldaegab
open Go Fk Go.RowKit
set_option linter.unusedVariables false
set_option maxRecDepth 8000
set_option maxHeartbeats 1000000 in
theorem impl_bits (ua ub : Int) (x y : Nat) (w : World) (hlx : x < 4294967296) (hly : y < 4294967296) :
    Calls Try.prog 87 #[sv ua ub x y] w fun e w' => e = .returned (.agg #[.int .i64 ua, .int .i64 ub, .int .i64 (bitsZ x), .int .i64 (bitsZ y)]) ∧ Below w.heap.size w w' := by
  have us := Try.underlying75
  have ubt := Try.underlying114
  have c0 : ((w.alloc (.cells #[.int .i64 ua, .int .i64 ub, .float .f32 x, .float .f32 y] 75)).alloc (.cells #[.int .i64 0, .int .i64 0, .int .i64 0, .int .i64 0] 114)).cell? ⟨w.heap.size, 0, none⟩ = some (.int .i64 ua) := by go_simp
  have c1 : ((w.alloc (.cells #[.int .i64 ua, .int .i64 ub, .float .f32 x, .float .f32 y] 75)).alloc (.cells #[.int .i64 0, .int .i64 0, .int .i64 0, .int .i64 0] 114)).cell? ⟨w.heap.size, 1, none⟩ = some (.int .i64 ub) := by go_simp
  have c2 : ((w.alloc (.cells #[.int .i64 ua, .int .i64 ub, .float .f32 x, .float .f32 y] 75)).alloc (.cells #[.int .i64 0, .int .i64 0, .int .i64 0, .int .i64 0] 114)).cell? ⟨w.heap.size, 2, none⟩ = some (.float .f32 x) := by go_simp
  have c3 : ((w.alloc (.cells #[.int .i64 ua, .int .i64 ub, .float .f32 x, .float .f32 y] 75)).alloc (.cells #[.int .i64 0, .int .i64 0, .int .i64 0, .int .i64 0] 114)).cell? ⟨w.heap.size, 3, none⟩ = some (.float .f32 y) := by go_simp
  have hA : At ((w.alloc (.cells #[.int .i64 ua, .int .i64 ub, .float .f32 x, .float .f32 y] 75)).alloc (.cells #[.int .i64 0, .int .i64 0, .int .i64 0, .int .i64 0] 114)) (w.heap.size + 1) [.int .i64 0, .int .i64 0, .int .i64 0, .int .i64 0] := by
    have := At.new (w := w.alloc (.cells #[.int .i64 ua, .int .i64 ub, .float .f32 x, .float .f32 y] 75)) (vs := [.int .i64 0, .int .i64 0, .int .i64 0, .int .i64 0]) (t := 114)
    simpa using this
  have hF : Fr ((w.alloc (.cells #[.int .i64 ua, .int .i64 ub, .float .f32 x, .float .f32 y] 75)).alloc (.cells #[.int .i64 0, .int .i64 0, .int .i64 0, .int .i64 0] 114)) (w.heap.size + 1) := by
    have := Fr.new (w := w.alloc (.cells #[.int .i64 ua, .int .i64 ub, .float .f32 x, .float .f32 y] 75)) (vs := #[.int .i64 0, .int .i64 0, .int .i64 0, .int .i64 0]) (t := 114)
    simpa using this
  have hB0 : Below w.heap.size w ((w.alloc (.cells #[.int .i64 ua, .int .i64 ub, .float .f32 x, .float .f32 y] 75)).alloc (.cells #[.int .i64 0, .int .i64 0, .int .i64 0, .int .i64 0] 114)) := ((Below.refl _ _).alloc (Nat.le_refl _) _).alloc (by simp) _
  have hsz : ((w.alloc (.cells #[.int .i64 ua, .int .i64 ub, .float .f32 x, .float .f32 y] 75)).alloc (.cells #[.int .i64 0, .int .i64 0, .int .i64 0, .int .i64 0] 114)).heap.size = w.heap.size + 1 + 1 := by simp
  have HA := Lib.hid hA
  have HF := Lib.hid hF
  have HB0 := Lib.hid hB0
  have HSZ := Lib.hid hsz
  clear hA hF hB0 hsz
  go_enter Try.func87, Try.ntmps87
  go_wp2_with fail
  refine Reg3.wp_region_mix (C := fun w' => Below ((w.alloc (.cells #[.int .i64 ua, .int .i64 ub, .float .f32 x, .float .f32 y] 75)).alloc (.cells #[.int .i64 0, .int .i64 0, .int .i64 0, .int .i64 0] 114)).heap.size ((w.alloc (.cells #[.int .i64 ua, .int .i64 ub, .float .f32 x, .float .f32 y] 75)).alloc (.cells #[.int .i64 0, .int .i64 0, .int .i64 0, .int .i64 0] 114)) w') (G := fun _ _ => True) (R := fun i v _ => match i with | 0 => v = .pointer (some ⟨w.heap.size, 0, none⟩) | 1 => v = .int .i64 ua | 2 => v = .pointer (some ⟨w.heap.size, 1, none⟩) | 3 => v = .int .i64 ub | 4 => v = .pointer (some ⟨w.heap.size, 2, none⟩) | 5 => v = .float .f32 x | 6 => v = .int .i64 (bitsZ x) | 7 => v = .pointer (some ⟨w.heap.size, 3, none⟩) | 8 => v = .float .f32 y | 9 => v = .int .i64 (bitsZ y) | 10 => v = .agg #[.int .i64 ua, .int .i64 ub, .int .i64 (bitsZ x), .int .i64 (bitsZ y)] | _ => True) (T := fun _ _ w' => ∃ w1, Below ((w.alloc (.cells #[.int .i64 ua, .int .i64 ub, .float .f32 x, .float .f32 y] 75)).alloc (.cells #[.int .i64 0, .int .i64 0, .int .i64 0, .int .i64 0] 114)).heap.size ((w.alloc (.cells #[.int .i64 ua, .int .i64 ub, .float .f32 x, .float .f32 y] 75)).alloc (.cells #[.int .i64 0, .int .i64 0, .int .i64 0, .int .i64 0] 114)) w1 ∧ w' = (((w1.setCell ⟨w.heap.size + 1, 0, none⟩ (.int .i64 ua)).setCell ⟨w.heap.size + 1, 1, none⟩ (.int .i64 ub)).setCell ⟨w.heap.size + 1, 2, none⟩ (.int .i64 (bitsZ x))).setCell ⟨w.heap.size + 1, 3, none⟩ (.int .i64 (bitsZ y))) [false, false, false, true, true, true, true, true, true, true, true, true, true, true]
    (by kernel_rfl) (by kernel_rfl) (by kernel_rfl) (fun _ _ _ _ _ _ h => h) (below_drewN (Below.refl _ _) 1) ?_ ?_
  · refine ⟨Reg3.Obl.mk ?_, Reg3.Obl.mk ?_, Reg3.Obl.mk ?_, Reg3.Obl.mk ?_, Reg3.Obl.mk ?_, Reg3.Obl.mk ?_, Reg3.Obl.mk ?_, Reg3.Obl.mk ?_, Reg3.Obl.mk ?_, Reg3.Obl.mk ?_, Reg3.Obl.mk ?_, Reg3.Obl.mk ?_, trivial⟩
    · rintro a w1 hC hx hd K hK
      have HC := Lib.hid hC
      clear hC
      have t1 : a.tmps[1]?.getD undef = .pointer (some ⟨w.heap.size, 0, none⟩) := Reg.slot_val (hx 1 (by kernel_rfl))
      go_simp
      exact hK _ _ (fun _ => rfl) (fun h => by cases h) (fun _ => HC.out) trivial
    · rintro a w1 hC hx hd K hK
      have HC := Lib.hid hC
      clear hC
      have y0 := cell_below HC.out c0
      have t3 : a.tmps[3]?.getD undef = .pointer (some ⟨w.heap.size, 0, none⟩) := Reg.slot_val (hd 0 (by kernel_rfl) 3 rfl)
      go_simp
      exact hK _ _ (fun _ => rfl) (fun h => by cases h) (fun _ => HC.out) trivial
    · rintro a w1 hC hx hd K hK
      have HC := Lib.hid hC
      clear hC
      have t1 : a.tmps[1]?.getD undef = .pointer (some ⟨w.heap.size, 0, none⟩) := Reg.slot_val (hx 1 (by kernel_rfl))
      go_simp
      exact hK _ _ (fun _ => rfl) (fun h => by cases h) (fun _ => HC.out) trivial
    · rintro a w1 hC hx hd K hK
      have HC := Lib.hid hC
      clear hC
      have y0 := cell_below HC.out c1
      have t5 : a.tmps[5]?.getD undef = .pointer (some ⟨w.heap.size, 1, none⟩) := Reg.slot_val (hd 2 (by kernel_rfl) 5 rfl)
      go_simp
      exact hK _ _ (fun _ => rfl) (fun h => by cases h) (fun _ => HC.out) trivial
    · rintro a w1 hC hx hd K hK
      have HC := Lib.hid hC
      clear hC
      have t1 : a.tmps[1]?.getD undef = .pointer (some ⟨w.heap.size, 0, none⟩) := Reg.slot_val (hx 1 (by kernel_rfl))
      go_simp
      exact hK _ _ (fun _ => rfl) (fun h => by cases h) (fun _ => HC.out) trivial
    · rintro a w1 hC hx hd K hK
      have HC := Lib.hid hC
      clear hC
      have y0 := cell_below HC.out c2
      have t7 : a.tmps[7]?.getD undef = .pointer (some ⟨w.heap.size, 2, none⟩) := Reg.slot_val (hd 4 (by kernel_rfl) 7 rfl)
      go_simp
      exact hK _ _ (fun _ => rfl) (fun h => by cases h) (fun _ => HC.out) trivial
    · rintro a w1 hC hx hd K hK
      have HC := Lib.hid hC
      clear hC
      have t8 : a.tmps[8]?.getD undef = .float .f32 x := Reg.slot_val (hd 5 (by kernel_rfl) 8 rfl)
      go_simp
      refine (impl_BitsOf x _ hlx).mono ?_
      rintro en w2 ⟨rfl, m, hw2⟩
      exact hK _ _ (fun _ => rfl) (fun h => by cases h) (fun _ => by rw [hw2]; exact below_drewN HC.out _) trivial
    · rintro a w1 hC hx hd K hK
      have HC := Lib.hid hC
      clear hC
      have t1 : a.tmps[1]?.getD undef = .pointer (some ⟨w.heap.size, 0, none⟩) := Reg.slot_val (hx 1 (by kernel_rfl))
      go_simp
      exact hK _ _ (fun _ => rfl) (fun h => by cases h) (fun _ => HC.out) trivial
    · rintro a w1 hC hx hd K hK
      have HC := Lib.hid hC
      clear hC
      have y0 := cell_below HC.out c3
      have t10 : a.tmps[10]?.getD undef = .pointer (some ⟨w.heap.size, 3, none⟩) := Reg.slot_val (hd 7 (by kernel_rfl) 10 rfl)
      go_simp
      exact hK _ _ (fun _ => rfl) (fun h => by cases h) (fun _ => HC.out) trivial
    · rintro a w1 hC hx hd K hK
      have HC := Lib.hid hC
      clear hC
      have t11 : a.tmps[11]?.getD undef = .float .f32 y := Reg.slot_val (hd 8 (by kernel_rfl) 11 rfl)
      go_simp
      refine (impl_BitsOf y _ hly).mono ?_
      rintro en w2 ⟨rfl, m, hw2⟩
      exact hK _ _ (fun _ => rfl) (fun h => by cases h) (fun _ => by rw [hw2]; exact below_drewN HC.out _) trivial
    · rintro a w1 hC hx hd K hK
      have HC := Lib.hid hC
      clear hC
      have t4 : a.tmps[4]?.getD undef = .int .i64 ua := Reg.slot_val (hd 1 (by kernel_rfl) 4 rfl)
      have t6 : a.tmps[6]?.getD undef = .int .i64 ub := Reg.slot_val (hd 3 (by kernel_rfl) 6 rfl)
      have t9 : a.tmps[9]?.getD undef = .int .i64 (bitsZ x) := Reg.slot_val (hd 6 (by kernel_rfl) 9 rfl)
      have t12 : a.tmps[12]?.getD undef = .int .i64 (bitsZ y) := Reg.slot_val (hd 9 (by kernel_rfl) 12 rfl)
      go_simp
      exact hK _ _ (fun _ => rfl) (fun h => by cases h) (fun _ => HC.out) trivial
    · rintro a w1 hC hx hd K hK
      have HC := Lib.hid hC
      clear hC
      have y0 := HA.out.below HC.out 0 _ rfl
      have y1 := HA.out.below HC.out 1 _ rfl
      have y2 := HA.out.below HC.out 2 _ rfl
      have y3 := HA.out.below HC.out 3 _ rfl
      have q := HF.out.below HC.out (by simp)
      have q0 := q 0
      have q1 := q 1
      have q2 := q 2
      have q3 := q 3
      have t13 : a.tmps[13]?.getD undef = .agg #[.int .i64 ua, .int .i64 ub, .int .i64 (bitsZ x), .int .i64 (bitsZ y)] := Reg.slot_val (hd 10 (by kernel_rfl) 13 rfl)
      have t2 : a.tmps[2]?.getD undef = .pointer (some ⟨w.heap.size + 1, 0, none⟩) := Reg.slot_val (hx 2 (by kernel_rfl))
      go_simp
      exact hK undef _ (fun h => absurd rfl h) (fun _ => ⟨_, HC.out, rfl⟩) (fun h => absurd rfl h) trivial
  · rintro f wz hd hT
    obtain ⟨w1, hB1, rfl⟩ := hT 11 (by kernel_rfl) (by decide)
    simp only [Reg.mixL]
    have hA1 := ((((HA.out.below hB1).set 0 (.int .i64 ua)).set 1 (.int .i64 ub)).set 2 (.int .i64 (bitsZ x))).set 3 (.int .i64 (bitsZ y))
    have q0 := hA1 0 _ rfl
    have q1 := hA1 1 _ rfl
    have q2 := hA1 2 _ rfl
    have q3 := hA1 3 _ rfl
    have hle : w.heap.size ≤ w.heap.size + 1 := Nat.le_succ _
    have HBZ := Lib.hid (((((HB0.out.trans (hB1.mono HB0.out.size)).setCell (p := ⟨w.heap.size + 1, 0, none⟩) hle (.int .i64 ua)).setCell (p := ⟨w.heap.size + 1, 1, none⟩) hle (.int .i64 ub)).setCell (p := ⟨w.heap.size + 1, 2, none⟩) hle (.int .i64 (bitsZ x))).setCell (p := ⟨w.heap.size + 1, 3, none⟩) hle (.int .i64 (bitsZ y)))
    clear hA1 hB1 hd hT
    generalize ((((w1.setCell ⟨w.heap.size + 1, 0, none⟩ (.int .i64 ua)).setCell ⟨w.heap.size + 1, 1, none⟩ (.int .i64 ub)).setCell ⟨w.heap.size + 1, 2, none⟩ (.int .i64 (bitsZ x))).setCell ⟨w.heap.size + 1, 3, none⟩ (.int .i64 (bitsZ y))) = WZ at *
    go_wp2
    exact bodyPost_ret (v := .agg #[.int .i64 ua, .int .i64 ub, .int .i64 (bitsZ x), .int .i64 (bitsZ y)]) (by simp [results, Try.results87, go_sem, q0, q1, q2, q3]) rfl ⟨rfl, HBZ.out⟩
end Go.Proofs.Ytmmiadkmldaegab

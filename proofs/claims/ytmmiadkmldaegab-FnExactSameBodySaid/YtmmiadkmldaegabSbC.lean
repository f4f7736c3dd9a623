
/-
Whether springs are the same: what the program returns, by the bits of their numbers. Conditions: none.
-/
import Derived.Test.YtmmiadkmldaegabSbB
import Derived.Laws.StructEq
namespace Go.Proofs.Ytmmiadkmldaegab
open Go Fk Go.RowKit
set_option linter.unusedVariables false
set_option maxRecDepth 8000
theorem guard_bits : Try.prog.eqGuardType Try.prog.depth 114 = false := by kernel_rfl
theorem eq_bits (a b c d a' b' c' d' : Int) (w : World) : (binOp .eql 114 (.agg #[.int .i64 a, .int .i64 b, .int .i64 c, .int .i64 d]) (.agg #[.int .i64 a', .int .i64 b', .int .i64 c', .int .i64 d'])).run Try.prog w = .ok (.bool (a == a' && b == b' && c == c' && d == d')) w := by
  have u3 := Try.underlying2
  have a3 := Try.isAgg2
  have z3 := Try.sizeOf2
  have hS : Try.prog.underlying 114 = some (.struct (Try.prog.fieldsOf 114)) := by kernel_rfl
  have hp : Try.prog.stoodInHeld 114 = false := by kernel_rfl
  rw [run_eql_struct, show (10000 : Nat) = 9999 + 1 from rfl, run_equalIn_agg w 9999 114 _ _ hS hp]
  simp only [Program.fieldsOf, Try.underlying114]
  go_simp
  by_cases h1 : a = a' <;> by_cases h2 : b = b' <;> by_cases h3 : c = c' <;> by_cases h4 : d = d' <;> simp [h1, h2, h3, h4]
set_option maxHeartbeats 1000000 in
theorem impl_sameSpring (ua ub va vb : Int) (x y p q : Nat) (w : World) (h1 : x < 4294967296) (h2 : y < 4294967296) (h3 : p < 4294967296) (h4 : q < 4294967296) :
    Calls Try.prog 45 #[sv ua ub x y, sv va vb p q] w fun e w' => e = .returned (.bool (ua == va && ub == vb && bitsZ x == bitsZ p && bitsZ y == bitsZ q)) ∧ Below w.heap.size w w' := by
  have us := Try.underlying75
  have ubt := Try.underlying114
  have c0 : ((w.alloc (.cells #[.int .i64 ua, .int .i64 ub, .float .f32 x, .float .f32 y] 75)).alloc (.cells #[.int .i64 va, .int .i64 vb, .float .f32 p, .float .f32 q] 75)).cell? ⟨w.heap.size, 0, none⟩ = some (.int .i64 ua) := by go_simp
  have c1 : ((w.alloc (.cells #[.int .i64 ua, .int .i64 ub, .float .f32 x, .float .f32 y] 75)).alloc (.cells #[.int .i64 va, .int .i64 vb, .float .f32 p, .float .f32 q] 75)).cell? ⟨w.heap.size, 1, none⟩ = some (.int .i64 ub) := by go_simp
  have c2 : ((w.alloc (.cells #[.int .i64 ua, .int .i64 ub, .float .f32 x, .float .f32 y] 75)).alloc (.cells #[.int .i64 va, .int .i64 vb, .float .f32 p, .float .f32 q] 75)).cell? ⟨w.heap.size, 2, none⟩ = some (.float .f32 x) := by go_simp
  have c3 : ((w.alloc (.cells #[.int .i64 ua, .int .i64 ub, .float .f32 x, .float .f32 y] 75)).alloc (.cells #[.int .i64 va, .int .i64 vb, .float .f32 p, .float .f32 q] 75)).cell? ⟨w.heap.size, 3, none⟩ = some (.float .f32 y) := by go_simp
  have d0 : ((w.alloc (.cells #[.int .i64 ua, .int .i64 ub, .float .f32 x, .float .f32 y] 75)).alloc (.cells #[.int .i64 va, .int .i64 vb, .float .f32 p, .float .f32 q] 75)).cell? ⟨w.heap.size + 1, 0, none⟩ = some (.int .i64 va) := by go_simp
  have d1 : ((w.alloc (.cells #[.int .i64 ua, .int .i64 ub, .float .f32 x, .float .f32 y] 75)).alloc (.cells #[.int .i64 va, .int .i64 vb, .float .f32 p, .float .f32 q] 75)).cell? ⟨w.heap.size + 1, 1, none⟩ = some (.int .i64 vb) := by go_simp
  have d2 : ((w.alloc (.cells #[.int .i64 ua, .int .i64 ub, .float .f32 x, .float .f32 y] 75)).alloc (.cells #[.int .i64 va, .int .i64 vb, .float .f32 p, .float .f32 q] 75)).cell? ⟨w.heap.size + 1, 2, none⟩ = some (.float .f32 p) := by go_simp
  have d3 : ((w.alloc (.cells #[.int .i64 ua, .int .i64 ub, .float .f32 x, .float .f32 y] 75)).alloc (.cells #[.int .i64 va, .int .i64 vb, .float .f32 p, .float .f32 q] 75)).cell? ⟨w.heap.size + 1, 3, none⟩ = some (.float .f32 q) := by go_simp
  have hB0 : Below w.heap.size w ((w.alloc (.cells #[.int .i64 ua, .int .i64 ub, .float .f32 x, .float .f32 y] 75)).alloc (.cells #[.int .i64 va, .int .i64 vb, .float .f32 p, .float .f32 q] 75)) := ((Below.refl _ _).alloc (Nat.le_refl _) _).alloc (by simp) _
  have HB0 := Lib.hid hB0
  clear hB0
  go_enter Try.func45, Try.ntmps45
  go_wp2_with fail
  refine Reg.wp_region_mix (C := fun w' => Below ((w.alloc (.cells #[.int .i64 ua, .int .i64 ub, .float .f32 x, .float .f32 y] 75)).alloc (.cells #[.int .i64 va, .int .i64 vb, .float .f32 p, .float .f32 q] 75)).heap.size ((w.alloc (.cells #[.int .i64 ua, .int .i64 ub, .float .f32 x, .float .f32 y] 75)).alloc (.cells #[.int .i64 va, .int .i64 vb, .float .f32 p, .float .f32 q] 75)) w') (G := fun _ _ => True) (R := fun i v _ => match i with | 0 => v = sv ua ub x y | 1 => v = .agg #[.int .i64 ua, .int .i64 ub, .int .i64 (bitsZ x), .int .i64 (bitsZ y)] | 2 => v = sv va vb p q | 3 => v = .agg #[.int .i64 va, .int .i64 vb, .int .i64 (bitsZ p), .int .i64 (bitsZ q)] | 4 => v = .bool (ua == va && ub == vb && bitsZ x == bitsZ p && bitsZ y == bitsZ q) | 5 => v = .bool (ua == va && ub == vb && bitsZ x == bitsZ p && bitsZ y == bitsZ q) | _ => True) (T := fun _ _ _ => True) [false, false, false, false, true, true, true, true, true, true]
    (by kernel_rfl) (by kernel_rfl) (by kernel_rfl) (fun _ _ _ _ _ _ h => h) (below_drewN (Below.refl _ _) 1) ?_ ?_
  · refine ⟨Reg.Obl.mk ?_, Reg.Obl.mk ?_, Reg.Obl.mk ?_, Reg.Obl.mk ?_, Reg.Obl.mk ?_, Reg.Obl.mk ?_, trivial⟩
    · rintro a w1 hC hx hd K hK
      have HC := Lib.hid hC
      clear hC
      have y0 := cell_below HC.out c0
      have y1 := cell_below HC.out c1
      have y2 := cell_below HC.out c2
      have y3 := cell_below HC.out c3
      have t2 : a.tmps[2]?.getD undef = .pointer (some ⟨w.heap.size, 0, none⟩) := Reg.slot_val (hx 2 (by kernel_rfl))
      go_simp
      exact hK _ _ (fun _ => rfl) (fun h => by cases h) HC.out trivial
    · rintro a w1 hC hx hd K hK
      have HC := Lib.hid hC
      clear hC
      have t5 : a.tmps[5]?.getD undef = sv ua ub x y := Reg.slot_val (hd 0 (by kernel_rfl) 5 rfl)
      go_simp
      refine (impl_bits ua ub x y _ h1 h2).mono ?_
      rintro en w2 ⟨rfl, hB2⟩
      exact hK _ _ (fun _ => rfl) (fun h => by cases h) (HC.out.trans (hB2.mono HC.out.size)) trivial
    · rintro a w1 hC hx hd K hK
      have HC := Lib.hid hC
      clear hC
      have y0 := cell_below HC.out d0
      have y1 := cell_below HC.out d1
      have y2 := cell_below HC.out d2
      have y3 := cell_below HC.out d3
      have t3 : a.tmps[3]?.getD undef = .pointer (some ⟨w.heap.size + 1, 0, none⟩) := Reg.slot_val (hx 3 (by kernel_rfl))
      go_simp
      exact hK _ _ (fun _ => rfl) (fun h => by cases h) HC.out trivial
    · rintro a w1 hC hx hd K hK
      have HC := Lib.hid hC
      clear hC
      have t7 : a.tmps[7]?.getD undef = sv va vb p q := Reg.slot_val (hd 2 (by kernel_rfl) 7 rfl)
      go_simp
      refine (impl_bits va vb p q _ h3 h4).mono ?_
      rintro en w2 ⟨rfl, hB2⟩
      exact hK _ _ (fun _ => rfl) (fun h => by cases h) (HC.out.trans (hB2.mono HC.out.size)) trivial
    · rintro a w1 hC hx hd K hK
      have HC := Lib.hid hC
      clear hC
      have hGD := guard_bits
      have t6 : a.tmps[6]?.getD undef = .agg #[.int .i64 ua, .int .i64 ub, .int .i64 (bitsZ x), .int .i64 (bitsZ y)] := Reg.slot_val (hd 1 (by kernel_rfl) 6 rfl)
      have t8 : a.tmps[8]?.getD undef = .agg #[.int .i64 va, .int .i64 vb, .int .i64 (bitsZ p), .int .i64 (bitsZ q)] := Reg.slot_val (hd 3 (by kernel_rfl) 8 rfl)
      go_simp
      have hk := hK _ _ (fun _ => rfl) (fun h => by cases h) HC.out trivial
      clear hK hx hd
      by_cases e1 : ua = va
      all_goals by_cases e2 : ub = vb
      all_goals by_cases e3 : bitsZ x = bitsZ p
      all_goals by_cases e4 : bitsZ y = bitsZ q
      all_goals
        simp [show ∀ i j : Int, (i == j) = decide (i = j) from fun _ _ => rfl, e1, e2, e3, e4] at hk
        go_simp
        exact hk
    · rintro a w1 hC hx hd K hK
      have HC := Lib.hid hC
      clear hC
      have t9 : a.tmps[9]?.getD undef = .bool (ua == va && ub == vb && bitsZ x == bitsZ p && bitsZ y == bitsZ q) := Reg.slot_val (hd 4 (by kernel_rfl) 9 rfl)
      go_simp
      exact hK _ _ (fun _ => rfl) (fun h => by cases h) HC.out trivial
  · rintro f wz hC hd hT
    have g4 : f 4 = .bool (ua == va && ub == vb && bitsZ x == bitsZ p && bitsZ y == bitsZ q) := hd 5 4 rfl
    simp only [Reg.mixL, g4]
    have HC := Lib.hid (HB0.out.trans (hC.mono HB0.out.size))
    clear hC hd hT
    go_wp2
    go_ret
    exact ⟨rfl, HC.out⟩
end Go.Proofs.Ytmmiadkmldaegab

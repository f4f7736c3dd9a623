/-
Texts in one: what LongsOf stands on, part 23. Conditions: those of each.
-/
import Derived.Test.YtmbekamnogbgaaaKLongsOf22

/-
Normals of triangles: what the program returns. Conditions: the mesh is valid and has the triangle.
-/
namespace Go.Proofs.Ytmbekamnogbgaaa
open Go Fk Go.RowKit
set_option linter.unusedVariables false
set_option maxRecDepth 8000

set_option maxHeartbeats 4000000 in
theorem mesh_normal (pa ta : Option Addr) (pl pc tl tc : Nat) (cs : List C3) (t : List Int) (w : World) (hp : IsVs w pa pl pc cs) (htri : triB pl t = true) :
    Calls Try.prog 167 #[.agg #[.slice pa pl pc, .slice ta tl tc], .agg #[.int .i64 (t.getD 0 0), .int .i64 (t.getD 1 0), .int .i64 (t.getD 2 0)]] w fun e w' => ∃ x y z, e = .returned (vv x y z) ∧ FV .f32 x (normalC cs t).1 ∧ FV .f32 y (normalC cs t).2.1 ∧ FV .f32 z (normalC cs t).2.2 ∧ Below w.heap.size w w' := by
  have uv := Try.underlying34
  have ui := Try.underlying29
  have uc := Try.underlying131
  obtain ⟨h3, hin⟩ := tri_parts htri
  obtain ⟨bp, op, rfl, hcor⟩ := corner_cell hp htri
  obtain ⟨p0, q0, s0, d00, d01, d02, f00, f01, f02⟩ := hcor 0 (by decide)
  obtain ⟨p1, q1', s1, d10, d11, d12, f10, f11, f12⟩ := hcor 1 (by decide)
  obtain ⟨p2, q2', s2, d20, d21, d22, f20, f21, f22⟩ := hcor 2 (by decide)
  have i0 := hin 0 (by decide)
  have i1 := hin 1 (by decide)
  have i2 := hin 2 (by decide)
  unfold normalC crossC lessC
  generalize cornerC cs t 0 = C0 at *
  generalize cornerC cs t 1 = C1 at *
  generalize cornerC cs t 2 = C2 at *
  generalize t.getD 0 0 = j0 at *
  generalize t.getD 1 0 = j1 at *
  generalize t.getD 2 0 = j2 at *
  obtain ⟨i0, i0'⟩ := i0
  obtain ⟨i1, i1'⟩ := i1
  obtain ⟨i2, i2'⟩ := i2
  have m0 : j0 < (pl : Int) := by omega
  have m1 : j1 < (pl : Int) := by omega
  have m2 : j2 < (pl : Int) := by omega
  have lbp : bp < w.heap.size := World.block_lt_of_cell? w _ d00
  have lbp1 : bp < w.heap.size + 1 := by omega
  have lbp2 : bp < w.heap.size + 1 + 1 := by omega
  have lbp3 : bp < w.heap.size + 1 + 1 + 1 := by omega
  clear hcor hin htri hp h3
  go_enter Try.func167, Try.ntmps167
  go_wp2_with fail
  have hB0 : Below w.heap.size w ((((w.alloc (.cells #[.slice (some ⟨bp, op, none⟩) pl pc, .slice ta tl tc] 29)).alloc (.cells #[.int .i64 j0, .int .i64 j1, .int .i64 j2] 131)).alloc (.cells #[.float .f32 0, .float .f32 0, .float .f32 0] 34)).alloc (.cells #[.float .f32 p0, .float .f32 q0, .float .f32 s0] 34)) := ((((Below.refl _ _).alloc (Nat.le_refl _) _).alloc (by simp) _).alloc (by simp <;> omega) _).alloc (by simp <;> omega) _
  have kk0 : ((((w.alloc (.cells #[.slice (some ⟨bp, op, none⟩) pl pc, .slice ta tl tc] 29)).alloc (.cells #[.int .i64 j0, .int .i64 j1, .int .i64 j2] 131)).alloc (.cells #[.float .f32 0, .float .f32 0, .float .f32 0] 34)).alloc (.cells #[.float .f32 p0, .float .f32 q0, .float .f32 s0] 34)).cell? ⟨w.heap.size, 0, none⟩ = some (.slice (some ⟨bp, op, none⟩) pl pc) := by go_simp
  have kk1 : ((((w.alloc (.cells #[.slice (some ⟨bp, op, none⟩) pl pc, .slice ta tl tc] 29)).alloc (.cells #[.int .i64 j0, .int .i64 j1, .int .i64 j2] 131)).alloc (.cells #[.float .f32 0, .float .f32 0, .float .f32 0] 34)).alloc (.cells #[.float .f32 p0, .float .f32 q0, .float .f32 s0] 34)).cell? ⟨w.heap.size + 1, 1, none⟩ = some (.int .i64 j1) := by go_simp
  have kk2 : ((((w.alloc (.cells #[.slice (some ⟨bp, op, none⟩) pl pc, .slice ta tl tc] 29)).alloc (.cells #[.int .i64 j0, .int .i64 j1, .int .i64 j2] 131)).alloc (.cells #[.float .f32 0, .float .f32 0, .float .f32 0] 34)).alloc (.cells #[.float .f32 p0, .float .f32 q0, .float .f32 s0] 34)).cell? ⟨w.heap.size + 1, 2, none⟩ = some (.int .i64 j2) := by go_simp
  have kv0 : ((((w.alloc (.cells #[.slice (some ⟨bp, op, none⟩) pl pc, .slice ta tl tc] 29)).alloc (.cells #[.int .i64 j0, .int .i64 j1, .int .i64 j2] 131)).alloc (.cells #[.float .f32 0, .float .f32 0, .float .f32 0] 34)).alloc (.cells #[.float .f32 p0, .float .f32 q0, .float .f32 s0] 34)).cell? ⟨w.heap.size + 1 + 1 + 1, 0, none⟩ = some (.float .f32 p0) := by go_simp
  have kv1 : ((((w.alloc (.cells #[.slice (some ⟨bp, op, none⟩) pl pc, .slice ta tl tc] 29)).alloc (.cells #[.int .i64 j0, .int .i64 j1, .int .i64 j2] 131)).alloc (.cells #[.float .f32 0, .float .f32 0, .float .f32 0] 34)).alloc (.cells #[.float .f32 p0, .float .f32 q0, .float .f32 s0] 34)).cell? ⟨w.heap.size + 1 + 1 + 1, 1, none⟩ = some (.float .f32 q0) := by go_simp
  have kv2 : ((((w.alloc (.cells #[.slice (some ⟨bp, op, none⟩) pl pc, .slice ta tl tc] 29)).alloc (.cells #[.int .i64 j0, .int .i64 j1, .int .i64 j2] 131)).alloc (.cells #[.float .f32 0, .float .f32 0, .float .f32 0] 34)).alloc (.cells #[.float .f32 p0, .float .f32 q0, .float .f32 s0] 34)).cell? ⟨w.heap.size + 1 + 1 + 1, 2, none⟩ = some (.float .f32 s0) := by go_simp
  have kr0 : ((((w.alloc (.cells #[.slice (some ⟨bp, op, none⟩) pl pc, .slice ta tl tc] 29)).alloc (.cells #[.int .i64 j0, .int .i64 j1, .int .i64 j2] 131)).alloc (.cells #[.float .f32 0, .float .f32 0, .float .f32 0] 34)).alloc (.cells #[.float .f32 p0, .float .f32 q0, .float .f32 s0] 34)).cell? ⟨w.heap.size + 1 + 1, 0, none⟩ = some (.float .f32 0) := by go_simp
  have kr1 : ((((w.alloc (.cells #[.slice (some ⟨bp, op, none⟩) pl pc, .slice ta tl tc] 29)).alloc (.cells #[.int .i64 j0, .int .i64 j1, .int .i64 j2] 131)).alloc (.cells #[.float .f32 0, .float .f32 0, .float .f32 0] 34)).alloc (.cells #[.float .f32 p0, .float .f32 q0, .float .f32 s0] 34)).cell? ⟨w.heap.size + 1 + 1, 1, none⟩ = some (.float .f32 0) := by go_simp
  have kr2 : ((((w.alloc (.cells #[.slice (some ⟨bp, op, none⟩) pl pc, .slice ta tl tc] 29)).alloc (.cells #[.int .i64 j0, .int .i64 j1, .int .i64 j2] 131)).alloc (.cells #[.float .f32 0, .float .f32 0, .float .f32 0] 34)).alloc (.cells #[.float .f32 p0, .float .f32 q0, .float .f32 s0] 34)).cell? ⟨w.heap.size + 1 + 1, 2, none⟩ = some (.float .f32 0) := by go_simp
  have kf0 : ((((w.alloc (.cells #[.slice (some ⟨bp, op, none⟩) pl pc, .slice ta tl tc] 29)).alloc (.cells #[.int .i64 j0, .int .i64 j1, .int .i64 j2] 131)).alloc (.cells #[.float .f32 0, .float .f32 0, .float .f32 0] 34)).alloc (.cells #[.float .f32 p0, .float .f32 q0, .float .f32 s0] 34)).frozen? ⟨w.heap.size + 1 + 1, 0, none⟩ = false := by go_simp
  have kf1 : ((((w.alloc (.cells #[.slice (some ⟨bp, op, none⟩) pl pc, .slice ta tl tc] 29)).alloc (.cells #[.int .i64 j0, .int .i64 j1, .int .i64 j2] 131)).alloc (.cells #[.float .f32 0, .float .f32 0, .float .f32 0] 34)).alloc (.cells #[.float .f32 p0, .float .f32 q0, .float .f32 s0] 34)).frozen? ⟨w.heap.size + 1 + 1, 1, none⟩ = false := by go_simp
  have kf2 : ((((w.alloc (.cells #[.slice (some ⟨bp, op, none⟩) pl pc, .slice ta tl tc] 29)).alloc (.cells #[.int .i64 j0, .int .i64 j1, .int .i64 j2] 131)).alloc (.cells #[.float .f32 0, .float .f32 0, .float .f32 0] 34)).alloc (.cells #[.float .f32 p0, .float .f32 q0, .float .f32 s0] 34)).frozen? ⟨w.heap.size + 1 + 1, 2, none⟩ = false := by go_simp
  have hd10 := cell_below hB0 d10
  have hd11 := cell_below hB0 d11
  have hd12 := cell_below hB0 d12
  have hd20 := cell_below hB0 d20
  have hd21 := cell_below hB0 d21
  have hd22 := cell_below hB0 d22
  have nA : w.heap.size + 1 + 1 ≠ w.heap.size := by omega
  have nB : w.heap.size + 1 + 1 ≠ w.heap.size + 1 := by omega
  have nC : w.heap.size + 1 + 1 ≠ w.heap.size + 1 + 1 + 1 := by omega
  have nD : w.heap.size + 1 + 1 ≠ bp := by omega
  clear d00 d01 d02 d10 d11 d12 d20 d21 d22
  generalize ((((w.alloc (.cells #[.slice (some ⟨bp, op, none⟩) pl pc, .slice ta tl tc] 29)).alloc (.cells #[.int .i64 j0, .int .i64 j1, .int .i64 j2] 131)).alloc (.cells #[.float .f32 0, .float .f32 0, .float .f32 0] 34)).alloc (.cells #[.float .f32 p0, .float .f32 q0, .float .f32 s0] 34)) = V at *
  refine Reg.wp_region_mix (C := fun w' => (w'.cell? ⟨w.heap.size, 0, none⟩ = some (.slice (some ⟨bp, op, none⟩) pl pc) ∧ w'.cell? ⟨w.heap.size + 1, 1, none⟩ = some (.int .i64 j1) ∧ w'.cell? ⟨w.heap.size + 1, 2, none⟩ = some (.int .i64 j2) ∧ w'.cell? ⟨bp, op + j1.toNat * 3, none⟩ = some (.float .f32 p1) ∧ w'.cell? ⟨bp, op + j1.toNat * 3 + 1, none⟩ = some (.float .f32 q1') ∧ w'.cell? ⟨bp, op + j1.toNat * 3 + 2, none⟩ = some (.float .f32 s1) ∧ w'.cell? ⟨bp, op + j2.toNat * 3, none⟩ = some (.float .f32 p2) ∧ w'.cell? ⟨bp, op + j2.toNat * 3 + 1, none⟩ = some (.float .f32 q2') ∧ w'.cell? ⟨bp, op + j2.toNat * 3 + 2, none⟩ = some (.float .f32 s2) ∧ w'.cell? ⟨w.heap.size + 1 + 1 + 1, 0, none⟩ = some (.float .f32 p0) ∧ w'.cell? ⟨w.heap.size + 1 + 1 + 1, 1, none⟩ = some (.float .f32 q0) ∧ w'.cell? ⟨w.heap.size + 1 + 1 + 1, 2, none⟩ = some (.float .f32 s0)) ∧ (∃ u0 u1 u2, w'.cell? ⟨w.heap.size + 1 + 1, 0, none⟩ = some u0 ∧ w'.cell? ⟨w.heap.size + 1 + 1, 1, none⟩ = some u1 ∧ w'.cell? ⟨w.heap.size + 1 + 1, 2, none⟩ = some u2) ∧ (w'.frozen? ⟨w.heap.size + 1 + 1, 0, none⟩ = false ∧ w'.frozen? ⟨w.heap.size + 1 + 1, 1, none⟩ = false ∧ w'.frozen? ⟨w.heap.size + 1 + 1, 2, none⟩ = false) ∧ Below w.heap.size w w') (G := fun _ _ => True) (R := fun i v _ => match i with | 0 => v = .pointer (some ⟨w.heap.size, 0, none⟩) | 1 => v = .slice (some ⟨bp, op, none⟩) pl pc | 2 => v = .pointer (some ⟨w.heap.size + 1, 1, none⟩) | 3 => v = .int .i64 j1 | 4 => v = .pointer (some ⟨bp, op + j1.toNat * 3, none⟩) | 5 => v = vv p1 q1' s1 | 6 => v = vv p0 q0 s0 | 7 => ∃ a b g, v = vv a b g ∧ FV .f32 a (fop .sub .f32 C1.1 C0.1) ∧ FV .f32 b (fop .sub .f32 C1.2.1 C0.2.1) ∧ FV .f32 g (fop .sub .f32 C1.2.2 C0.2.2) | 8 => v = .pointer (some ⟨w.heap.size, 0, none⟩) | 9 => v = .slice (some ⟨bp, op, none⟩) pl pc | 10 => v = .pointer (some ⟨w.heap.size + 1, 2, none⟩) | 11 => v = .int .i64 j2 | 12 => v = .pointer (some ⟨bp, op + j2.toNat * 3, none⟩) | 13 => v = vv p2 q2' s2 | 14 => v = vv p0 q0 s0 | 15 => ∃ a b g, v = vv a b g ∧ FV .f32 a (fop .sub .f32 C2.1 C0.1) ∧ FV .f32 b (fop .sub .f32 C2.2.1 C0.2.1) ∧ FV .f32 g (fop .sub .f32 C2.2.2 C0.2.2) | 16 => ∃ a b g, v = vv a b g ∧ FV .f32 a (fop .sub .f32 (fop .mul .f32 (fop .sub .f32 C1.2.1 C0.2.1) (fop .sub .f32 C2.2.2 C0.2.2)) (fop .mul .f32 (fop .sub .f32 C1.2.2 C0.2.2) (fop .sub .f32 C2.2.1 C0.2.1))) ∧ FV .f32 b (fop .sub .f32 (fop .mul .f32 (fop .sub .f32 C1.2.2 C0.2.2) (fop .sub .f32 C2.1 C0.1)) (fop .mul .f32 (fop .sub .f32 C1.1 C0.1) (fop .sub .f32 C2.2.2 C0.2.2))) ∧ FV .f32 g (fop .sub .f32 (fop .mul .f32 (fop .sub .f32 C1.1 C0.1) (fop .sub .f32 C2.2.1 C0.2.1)) (fop .mul .f32 (fop .sub .f32 C1.2.1 C0.2.1) (fop .sub .f32 C2.1 C0.1))) | _ => True) (T := fun _ a w' => ∃ a b g, w'.cell? ⟨w.heap.size + 1 + 1, 0, none⟩ = some (.float .f32 a) ∧ w'.cell? ⟨w.heap.size + 1 + 1, 1, none⟩ = some (.float .f32 b) ∧ w'.cell? ⟨w.heap.size + 1 + 1, 2, none⟩ = some (.float .f32 g) ∧ FV .f32 a (fop .sub .f32 (fop .mul .f32 (fop .sub .f32 C1.2.1 C0.2.1) (fop .sub .f32 C2.2.2 C0.2.2)) (fop .mul .f32 (fop .sub .f32 C1.2.2 C0.2.2) (fop .sub .f32 C2.2.1 C0.2.1))) ∧ FV .f32 b (fop .sub .f32 (fop .mul .f32 (fop .sub .f32 C1.2.2 C0.2.2) (fop .sub .f32 C2.1 C0.1)) (fop .mul .f32 (fop .sub .f32 C1.1 C0.1) (fop .sub .f32 C2.2.2 C0.2.2))) ∧ FV .f32 g (fop .sub .f32 (fop .mul .f32 (fop .sub .f32 C1.1 C0.1) (fop .sub .f32 C2.2.1 C0.2.1)) (fop .mul .f32 (fop .sub .f32 C1.2.1 C0.2.1) (fop .sub .f32 C2.1 C0.1)))) [false, false, false, false, false, false, false, false, false, false, false, false, true, true, true, true, true, true, true, true, true, true, true, true, true, true, true, true, true]
    (by kernel_rfl) (by kernel_rfl) (by kernel_rfl) (fun _ _ _ _ _ _ h => h) ⟨⟨kk0, kk1, kk2, hd10, hd11, hd12, hd20, hd21, hd22, kv0, kv1, kv2⟩, ⟨_, _, _, kr0, kr1, kr2⟩, ⟨kf0, kf1, kf2⟩, below_drewN hB0 1⟩ ?_ ?_
  · refine ⟨Reg.Obl.mk ?_, Reg.Obl.mk ?_, Reg.Obl.mk ?_, Reg.Obl.mk ?_, Reg.Obl.mk ?_, Reg.Obl.mk ?_, Reg.Obl.mk ?_, Reg.Obl.mk ?_, Reg.Obl.mk ?_, Reg.Obl.mk ?_, Reg.Obl.mk ?_, Reg.Obl.mk ?_, Reg.Obl.mk ?_, Reg.Obl.mk ?_, Reg.Obl.mk ?_, Reg.Obl.mk ?_, Reg.Obl.mk ?_, Reg.Obl.mk ?_, trivial⟩
    · rintro a w1 ⟨⟨y0, y1, y2, y3, y4, y5, y6, y7, y8, y9, y10, y11⟩, hrb, hfz, hB⟩ hx hd K hK
      have t2 : a.tmps[2]?.getD undef = .pointer (some ⟨w.heap.size, 0, none⟩) := Reg.slot_val (hx 2 (by kernel_rfl))
      go_simp
      exact hK _ _ (fun _ => rfl) (fun h => by cases h) ⟨⟨y0, y1, y2, y3, y4, y5, y6, y7, y8, y9, y10, y11⟩, hrb, hfz, hB⟩ trivial
    · rintro a w1 ⟨⟨y0, y1, y2, y3, y4, y5, y6, y7, y8, y9, y10, y11⟩, hrb, hfz, hB⟩ hx hd K hK
      have t12 : a.tmps[12]?.getD undef = .pointer (some ⟨w.heap.size, 0, none⟩) := Reg.slot_val (hd 0 (by kernel_rfl) 12 rfl)
      go_simp
      exact hK _ _ (fun _ => rfl) (fun h => by cases h) ⟨⟨y0, y1, y2, y3, y4, y5, y6, y7, y8, y9, y10, y11⟩, hrb, hfz, hB⟩ trivial
    · rintro a w1 ⟨⟨y0, y1, y2, y3, y4, y5, y6, y7, y8, y9, y10, y11⟩, hrb, hfz, hB⟩ hx hd K hK
      have t3 : a.tmps[3]?.getD undef = .pointer (some ⟨w.heap.size + 1, 0, none⟩) := Reg.slot_val (hx 3 (by kernel_rfl))
      go_simp
      exact hK _ _ (fun _ => rfl) (fun h => by cases h) ⟨⟨y0, y1, y2, y3, y4, y5, y6, y7, y8, y9, y10, y11⟩, hrb, hfz, hB⟩ trivial
    · rintro a w1 ⟨⟨y0, y1, y2, y3, y4, y5, y6, y7, y8, y9, y10, y11⟩, hrb, hfz, hB⟩ hx hd K hK
      have t14 : a.tmps[14]?.getD undef = .pointer (some ⟨w.heap.size + 1, 1, none⟩) := Reg.slot_val (hd 2 (by kernel_rfl) 14 rfl)
      go_simp
      exact hK _ _ (fun _ => rfl) (fun h => by cases h) ⟨⟨y0, y1, y2, y3, y4, y5, y6, y7, y8, y9, y10, y11⟩, hrb, hfz, hB⟩ trivial
    · rintro a w1 ⟨⟨y0, y1, y2, y3, y4, y5, y6, y7, y8, y9, y10, y11⟩, hrb, hfz, hB⟩ hx hd K hK
      have t13 : a.tmps[13]?.getD undef = .slice (some ⟨bp, op, none⟩) pl pc := Reg.slot_val (hd 1 (by kernel_rfl) 13 rfl)
      have t15 : a.tmps[15]?.getD undef = .int .i64 j1 := Reg.slot_val (hd 3 (by kernel_rfl) 15 rfl)
      go_simp
      exact hK _ _ (fun _ => rfl) (fun h => by cases h) ⟨⟨y0, y1, y2, y3, y4, y5, y6, y7, y8, y9, y10, y11⟩, hrb, hfz, hB⟩ trivial
    · rintro a w1 ⟨⟨y0, y1, y2, y3, y4, y5, y6, y7, y8, y9, y10, y11⟩, hrb, hfz, hB⟩ hx hd K hK
      have t16 : a.tmps[16]?.getD undef = .pointer (some ⟨bp, op + j1.toNat * 3, none⟩) := Reg.slot_val (hd 4 (by kernel_rfl) 16 rfl)
      go_simp
      exact hK _ _ (fun _ => rfl) (fun h => by cases h) ⟨⟨y0, y1, y2, y3, y4, y5, y6, y7, y8, y9, y10, y11⟩, hrb, hfz, hB⟩ trivial
    · rintro a w1 ⟨⟨y0, y1, y2, y3, y4, y5, y6, y7, y8, y9, y10, y11⟩, hrb, hfz, hB⟩ hx hd K hK
      have t5 : a.tmps[5]?.getD undef = .pointer (some ⟨w.heap.size + 1 + 1 + 1, 0, none⟩) := Reg.slot_val (hx 5 (by kernel_rfl))
      go_simp
      exact hK _ _ (fun _ => rfl) (fun h => by cases h) ⟨⟨y0, y1, y2, y3, y4, y5, y6, y7, y8, y9, y10, y11⟩, hrb, hfz, hB⟩ trivial
    · rintro a w1 ⟨⟨y0, y1, y2, y3, y4, y5, y6, y7, y8, y9, y10, y11⟩, hrb, hfz, hB⟩ hx hd K hK
      have t17 : a.tmps[17]?.getD undef = vv p1 q1' s1 := Reg.slot_val (hd 5 (by kernel_rfl) 17 rfl)
      have t18 : a.tmps[18]?.getD undef = vv p0 q0 s0 := Reg.slot_val (hd 6 (by kernel_rfl) 18 rfl)
      have hrb' := Lib.hid hrb
      clear hrb
      go_simp
      refine (impl_LessVectors _ _ _ _ _ _ _ _ _ _ _ _ _ f10 f11 f12 f00 f01 f02).mono ?_
      rintro en w2 ⟨ra, rb, rc, rfl, ha, hb, hc, hB2⟩
      obtain ⟨u0, u1, u2, x0, x1, x2⟩ := hrb'.out
      have lt := World.block_lt_of_cell? w1 _ x0
      exact hK _ _ (fun _ => ⟨ra, rb, rc, rfl, ha, hb, hc⟩) (fun h => by cases h) ⟨⟨cell_below hB2 y0, cell_below hB2 y1, cell_below hB2 y2, cell_below hB2 y3, cell_below hB2 y4, cell_below hB2 y5, cell_below hB2 y6, cell_below hB2 y7, cell_below hB2 y8, cell_below hB2 y9, cell_below hB2 y10, cell_below hB2 y11⟩, ⟨u0, u1, u2, cell_below hB2 x0, cell_below hB2 x1, cell_below hB2 x2⟩, ⟨frozen_below hB2 lt hfz.1, frozen_below hB2 lt hfz.2.1, frozen_below hB2 lt hfz.2.2⟩, hB.trans (hB2.mono hB.size)⟩ trivial
    · rintro a w1 ⟨⟨y0, y1, y2, y3, y4, y5, y6, y7, y8, y9, y10, y11⟩, hrb, hfz, hB⟩ hx hd K hK
      have t2 : a.tmps[2]?.getD undef = .pointer (some ⟨w.heap.size, 0, none⟩) := Reg.slot_val (hx 2 (by kernel_rfl))
      go_simp
      exact hK _ _ (fun _ => rfl) (fun h => by cases h) ⟨⟨y0, y1, y2, y3, y4, y5, y6, y7, y8, y9, y10, y11⟩, hrb, hfz, hB⟩ trivial
    · rintro a w1 ⟨⟨y0, y1, y2, y3, y4, y5, y6, y7, y8, y9, y10, y11⟩, hrb, hfz, hB⟩ hx hd K hK
      have t20 : a.tmps[20]?.getD undef = .pointer (some ⟨w.heap.size, 0, none⟩) := Reg.slot_val (hd 8 (by kernel_rfl) 20 rfl)
      go_simp
      exact hK _ _ (fun _ => rfl) (fun h => by cases h) ⟨⟨y0, y1, y2, y3, y4, y5, y6, y7, y8, y9, y10, y11⟩, hrb, hfz, hB⟩ trivial
    · rintro a w1 ⟨⟨y0, y1, y2, y3, y4, y5, y6, y7, y8, y9, y10, y11⟩, hrb, hfz, hB⟩ hx hd K hK
      have t3 : a.tmps[3]?.getD undef = .pointer (some ⟨w.heap.size + 1, 0, none⟩) := Reg.slot_val (hx 3 (by kernel_rfl))
      go_simp
      exact hK _ _ (fun _ => rfl) (fun h => by cases h) ⟨⟨y0, y1, y2, y3, y4, y5, y6, y7, y8, y9, y10, y11⟩, hrb, hfz, hB⟩ trivial
    · rintro a w1 ⟨⟨y0, y1, y2, y3, y4, y5, y6, y7, y8, y9, y10, y11⟩, hrb, hfz, hB⟩ hx hd K hK
      have t22 : a.tmps[22]?.getD undef = .pointer (some ⟨w.heap.size + 1, 2, none⟩) := Reg.slot_val (hd 10 (by kernel_rfl) 22 rfl)
      go_simp
      exact hK _ _ (fun _ => rfl) (fun h => by cases h) ⟨⟨y0, y1, y2, y3, y4, y5, y6, y7, y8, y9, y10, y11⟩, hrb, hfz, hB⟩ trivial
    · rintro a w1 ⟨⟨y0, y1, y2, y3, y4, y5, y6, y7, y8, y9, y10, y11⟩, hrb, hfz, hB⟩ hx hd K hK
      have t21 : a.tmps[21]?.getD undef = .slice (some ⟨bp, op, none⟩) pl pc := Reg.slot_val (hd 9 (by kernel_rfl) 21 rfl)
      have t23 : a.tmps[23]?.getD undef = .int .i64 j2 := Reg.slot_val (hd 11 (by kernel_rfl) 23 rfl)
      go_simp
      exact hK _ _ (fun _ => rfl) (fun h => by cases h) ⟨⟨y0, y1, y2, y3, y4, y5, y6, y7, y8, y9, y10, y11⟩, hrb, hfz, hB⟩ trivial
    · rintro a w1 ⟨⟨y0, y1, y2, y3, y4, y5, y6, y7, y8, y9, y10, y11⟩, hrb, hfz, hB⟩ hx hd K hK
      have t24 : a.tmps[24]?.getD undef = .pointer (some ⟨bp, op + j2.toNat * 3, none⟩) := Reg.slot_val (hd 12 (by kernel_rfl) 24 rfl)
      go_simp
      exact hK _ _ (fun _ => rfl) (fun h => by cases h) ⟨⟨y0, y1, y2, y3, y4, y5, y6, y7, y8, y9, y10, y11⟩, hrb, hfz, hB⟩ trivial
    · rintro a w1 ⟨⟨y0, y1, y2, y3, y4, y5, y6, y7, y8, y9, y10, y11⟩, hrb, hfz, hB⟩ hx hd K hK
      have t5 : a.tmps[5]?.getD undef = .pointer (some ⟨w.heap.size + 1 + 1 + 1, 0, none⟩) := Reg.slot_val (hx 5 (by kernel_rfl))
      go_simp
      exact hK _ _ (fun _ => rfl) (fun h => by cases h) ⟨⟨y0, y1, y2, y3, y4, y5, y6, y7, y8, y9, y10, y11⟩, hrb, hfz, hB⟩ trivial
    · rintro a w1 ⟨⟨y0, y1, y2, y3, y4, y5, y6, y7, y8, y9, y10, y11⟩, hrb, hfz, hB⟩ hx hd K hK
      have t25 : a.tmps[25]?.getD undef = vv p2 q2' s2 := Reg.slot_val (hd 13 (by kernel_rfl) 25 rfl)
      have t26 : a.tmps[26]?.getD undef = vv p0 q0 s0 := Reg.slot_val (hd 14 (by kernel_rfl) 26 rfl)
      have hrb' := Lib.hid hrb
      clear hrb
      go_simp
      refine (impl_LessVectors _ _ _ _ _ _ _ _ _ _ _ _ _ f20 f21 f22 f00 f01 f02).mono ?_
      rintro en w2 ⟨ra, rb, rc, rfl, ha, hb, hc, hB2⟩
      obtain ⟨u0, u1, u2, x0, x1, x2⟩ := hrb'.out
      have lt := World.block_lt_of_cell? w1 _ x0
      exact hK _ _ (fun _ => ⟨ra, rb, rc, rfl, ha, hb, hc⟩) (fun h => by cases h) ⟨⟨cell_below hB2 y0, cell_below hB2 y1, cell_below hB2 y2, cell_below hB2 y3, cell_below hB2 y4, cell_below hB2 y5, cell_below hB2 y6, cell_below hB2 y7, cell_below hB2 y8, cell_below hB2 y9, cell_below hB2 y10, cell_below hB2 y11⟩, ⟨u0, u1, u2, cell_below hB2 x0, cell_below hB2 x1, cell_below hB2 x2⟩, ⟨frozen_below hB2 lt hfz.1, frozen_below hB2 lt hfz.2.1, frozen_below hB2 lt hfz.2.2⟩, hB.trans (hB2.mono hB.size)⟩ trivial
    · rintro a w1 ⟨⟨y0, y1, y2, y3, y4, y5, y6, y7, y8, y9, y10, y11⟩, hrb, hfz, hB⟩ hx hd K hK
      obtain ⟨r19, p19', q19', gg19, fa19, fb19, fc19⟩ := hd 7 (by kernel_rfl) 19 rfl
      have t19 := Reg.slot_val gg19
      clear gg19
      obtain ⟨r27, p27', q27', gg27, fa27, fb27, fc27⟩ := hd 15 (by kernel_rfl) 27 rfl
      have t27 := Reg.slot_val gg27
      clear gg27
      have hrb' := Lib.hid hrb
      clear hrb
      go_simp
      refine (impl_CrossOf _ _ _ _ _ _ _ _ _ _ _ _ _ fa19 fb19 fc19 fa27 fb27 fc27).mono ?_
      rintro en w2 ⟨ra, rb, rc, rfl, ha, hb, hc, hB2⟩
      obtain ⟨u0, u1, u2, x0, x1, x2⟩ := hrb'.out
      have lt := World.block_lt_of_cell? w1 _ x0
      exact hK _ _ (fun _ => ⟨ra, rb, rc, rfl, ha, hb, hc⟩) (fun h => by cases h) ⟨⟨cell_below hB2 y0, cell_below hB2 y1, cell_below hB2 y2, cell_below hB2 y3, cell_below hB2 y4, cell_below hB2 y5, cell_below hB2 y6, cell_below hB2 y7, cell_below hB2 y8, cell_below hB2 y9, cell_below hB2 y10, cell_below hB2 y11⟩, ⟨u0, u1, u2, cell_below hB2 x0, cell_below hB2 x1, cell_below hB2 x2⟩, ⟨frozen_below hB2 lt hfz.1, frozen_below hB2 lt hfz.2.1, frozen_below hB2 lt hfz.2.2⟩, hB.trans (hB2.mono hB.size)⟩ trivial
    · rintro a w1 ⟨⟨y0, y1, y2, y3, y4, y5, y6, y7, y8, y9, y10, y11⟩, hrb, hfz, hB⟩ hx hd K hK
      have t4 : a.tmps[4]?.getD undef = .pointer (some ⟨w.heap.size + 1 + 1, 0, none⟩) := Reg.slot_val (hx 4 (by kernel_rfl))
      obtain ⟨r28, p28', q28', gg28, fa28, fb28, fc28⟩ := hd 16 (by kernel_rfl) 28 rfl
      have t28 := Reg.slot_val gg28
      clear gg28
      obtain ⟨u0, u1, u2, x0, x1, x2⟩ := hrb
      obtain ⟨k0, k1, k2⟩ := hfz
      go_simp
      have s3 := set3 (u := .float .f32 r28) (v := .float .f32 p28') (t := .float .f32 q28') x0 x1 x2
      refine hK undef _ (fun h => absurd rfl h) (fun _ => ⟨r28, p28', q28', s3.1, s3.2.1, s3.2.2, fa28, fb28, fc28⟩) ⟨⟨cell_set (by first | assumption | omega) (cell_set (by first | assumption | omega) (cell_set (by first | assumption | omega) y0)), cell_set (by first | assumption | omega) (cell_set (by first | assumption | omega) (cell_set (by first | assumption | omega) y1)), cell_set (by first | assumption | omega) (cell_set (by first | assumption | omega) (cell_set (by first | assumption | omega) y2)), cell_set (by first | assumption | omega) (cell_set (by first | assumption | omega) (cell_set (by first | assumption | omega) y3)), cell_set (by first | assumption | omega) (cell_set (by first | assumption | omega) (cell_set (by first | assumption | omega) y4)), cell_set (by first | assumption | omega) (cell_set (by first | assumption | omega) (cell_set (by first | assumption | omega) y5)), cell_set (by first | assumption | omega) (cell_set (by first | assumption | omega) (cell_set (by first | assumption | omega) y6)), cell_set (by first | assumption | omega) (cell_set (by first | assumption | omega) (cell_set (by first | assumption | omega) y7)), cell_set (by first | assumption | omega) (cell_set (by first | assumption | omega) (cell_set (by first | assumption | omega) y8)), cell_set (by first | assumption | omega) (cell_set (by first | assumption | omega) (cell_set (by first | assumption | omega) y9)), cell_set (by first | assumption | omega) (cell_set (by first | assumption | omega) (cell_set (by first | assumption | omega) y10)), cell_set (by first | assumption | omega) (cell_set (by first | assumption | omega) (cell_set (by first | assumption | omega) y11))⟩, ⟨_, _, _, s3⟩, ⟨by simp [k0], by simp [k1], by simp [k2]⟩, below_set3 hB (by first | exact Nat.le_refl _ | omega)⟩ trivial
  · rintro f w1 ⟨⟨y0, y1, y2, y3, y4, y5, y6, y7, y8, y9, y10, y11⟩, hrb, hfz, hB⟩ hd hT
    obtain ⟨xa, xb, xc, x0, x1, x2, fa, fb, fc⟩ := hT 17 rfl (by decide)
    simp only [Reg.mixL]
    have HB := Lib.hid hB
    clear hB hd hT hrb hfz
    go_wp2
    refine bodyPost_ret (v := vv xa xb xc) (by simp [results, Try.results167, go_sem, x0, x1, x2]) rfl ⟨_, _, _, rfl, fa, fb, fc, HB.out⟩
end Go.Proofs.Ytmbekamnogbgaaa


/-
Normals: all arguments, of the program and of its model. Conditions: none beyond that the mesh lies in memory.
-/
namespace Go.Proofs.Ytmbekamnogbgaaa
open Go Fk Go.RowKit
set_option linter.unusedVariables false
set_option maxRecDepth 8000

end Go.Proofs.Ytmbekamnogbgaaa


/-
Normals: all arguments, of the model. Conditions: none beyond that the mesh lies in memory.
-/
namespace Go.Proofs.Ytmbekamnogbgaaa
open Go Fk Go.RowKit
set_option linter.unusedVariables false
set_option maxRecDepth 8000

theorem l02IsB (pb : Nat) (pa ta : Option Addr) (pl pc tl tc : Nat) (cs : List C3) (ts : List (List Int)) (w : World) (c0 : w.cell? ⟨pb, 0, none⟩ = some (.slice pa pl pc)) (c1 : w.cell? ⟨pb, 1, none⟩ = some (.slice ta tl tc)) (hp : IsVs w pa pl pc cs) (ht : IsTs w ta tl tc ts) :
    Calls Try.prog 71 #[.pointer (some ⟨pb, 0, none⟩)] w fun e w' => e = .returned (.bool (validB cs ts)) ∧ Below w.heap.size w w' :=
  (l02Is pb pa ta pl pc tl tc cs ts w c0 c1 hp ht).mono fun _ _ ⟨he, n, hw⟩ => ⟨he, by rw [hw]; exact below_drewN (Below.refl _ _) n⟩
end Go.Proofs.Ytmbekamnogbgaaa


/-
A region whose order is open and whose operations may be guarded: one proof for each operation serves every order, where it is told of each guard which way it goes. Conditions: every edge leads to an earlier operation, no slot is written twice.
-/
namespace Go.Proofs.Ytmbekamnogbgaaa
namespace RegG
open Go Reg
set_option linter.unusedVariables false
section
variable {P : Program} {ops : Array Oper} {Q : Exit → Act → World → Prop}
def tidyG (ops : Array Oper) (n : Nat) : Bool :=
  low ops && (ops.all fun o => (o.dst.map fun d => decide (d < n)).getD true) &&
  ((List.range ops.size).all fun i => (List.range ops.size).all fun j => i == j || slotOf ops i == none || slotOf ops i != slotOf ops j) &&
  (List.range ops.size).all fun j => slotOf ops j != none || (List.range ops.size).all fun i => i == j || behind ops i j
/-- What is asked of operation i: it is carried out, or passed over. -/
def Obl (P : Program) (ops : Array Oper) (a0 : Act) (C : World → Prop) (G : World → World → Prop) (R : Nat → Value → World → Prop) (T : Nat → Act → World → Prop) (Q : Exit → Act → World → Prop) (i : Nat) (o : Oper) : Prop :=
  ∀ a w, C w → (∀ t, ((List.range ops.size).all fun j => slotOf ops j != some t || behind ops i j) = true → a.eval (.tmp t) = a0.eval (.tmp t)) →
    (∀ j, behind ops j i = true → Has ops R j a w) →
    (Region.wanted o (yielded ops a.tmps) = true ∧ o.wp P a w (fun a' w' => ∃ v, a' = a.put o.dst v ∧ (o.dst ≠ none → R i v w') ∧ (o.dst = none → T i a w') ∧ C w' ∧ G w w') Q) ∨
    (Region.wanted o (yielded ops a.tmps) = false ∧ (o.dst ≠ none → R i undef w) ∧ (o.dst = none → T i a w))
def OblAll (P : Program) (ops : Array Oper) (a0 : Act) (C : World → Prop) (G : World → World → Prop) (R : Nat → Value → World → Prop) (T : Nat → Act → World → Prop) (Q : Exit → Act → World → Prop) : Nat → List Oper → Prop
  | _, [] => True
  | i, o :: l => Obl P ops a0 C G R T Q i o ∧ OblAll P ops a0 C G R T Q (i + 1) l
theorem OblAll.get {a0 : Act} {C : World → Prop} {G : World → World → Prop} {R : Nat → Value → World → Prop} {T : Nat → Act → World → Prop} :
    ∀ {l : List Oper} {k : Nat}, OblAll P ops a0 C G R T Q k l → ∀ {i : Nat} {o : Oper}, l[i]? = some o → Obl P ops a0 C G R T Q (k + i) o
  | [], _, _, _, _, h => by simp at h
  | _ :: _, _, h, 0, _, ho => by simp at ho; subst ho; exact h.1
  | _ :: l, k, h, i + 1, _, ho => by
    have := OblAll.get h.2 (i := i) (by simpa using ho)
    rwa [Nat.add_assoc, Nat.add_comm 1 i] at this
theorem yielded_of {a : Act} {g : Nat} {d : Tmp} {b : Bool} (hs : slotOf ops g = some d) (h : a.eval (.tmp d) = .bool b) : yielded ops a.tmps g = some b := by
  unfold yielded
  unfold slotOf at hs
  rw [hs]
  simp only [Option.bind_some]
  have h := slot_val h
  cases ht : a.tmps[d]? with
  | none => rw [ht] at h; cases h
  | some v => rw [ht] at h; simp only [Option.getD_some] at h; subst h; rfl
theorem Obl.mk {a0 : Act} {C : World → Prop} {G : World → World → Prop} {R : Nat → Value → World → Prop} {T : Nat → Act → World → Prop} {i : Nat} {o : Oper} (hg : o.guard = none)
    (h : ∀ a w, C w → (∀ t, ((List.range ops.size).all fun j => slotOf ops j != some t || behind ops i j) = true → a.eval (.tmp t) = a0.eval (.tmp t)) →
      (∀ j, behind ops j i = true → Has ops R j a w) → ∀ K : Act → World → Prop, (∀ v w', (o.dst ≠ none → R i v w') → (o.dst = none → T i a w') → C w' → G w w' → K (a.put o.dst v) w') → o.wp P a w K Q) : Obl P ops a0 C G R T Q i o :=
  fun a w hC he hd => .inl ⟨by unfold Region.wanted; rw [hg], h a w hC he hd _ fun v w' h1 h2 h3 h4 => ⟨v, rfl, h1, h2, h3, h4⟩⟩
/-- The guard lets it by. -/
theorem Obl.go {a0 : Act} {C : World → Prop} {G : World → World → Prop} {R : Nat → Value → World → Prop} {T : Nat → Act → World → Prop} {i : Nat} {o : Oper} (g : Nat) (d : Tmp) (b : Bool) (hg : o.guard = some (g, b)) (hs : slotOf ops g = some d) (hb : behind ops g i = true) (hv : ∀ a w, Has ops R g a w → a.eval (.tmp d) = .bool b)
    (h : ∀ a w, C w → (∀ t, ((List.range ops.size).all fun j => slotOf ops j != some t || behind ops i j) = true → a.eval (.tmp t) = a0.eval (.tmp t)) →
      (∀ j, behind ops j i = true → Has ops R j a w) → ∀ K : Act → World → Prop, (∀ v w', (o.dst ≠ none → R i v w') → (o.dst = none → T i a w') → C w' → G w w' → K (a.put o.dst v) w') → o.wp P a w K Q) : Obl P ops a0 C G R T Q i o :=
  fun a w hC he hd => .inl ⟨by unfold Region.wanted; rw [hg]; simp [yielded_of hs (hv a w (hd g hb))], h a w hC he hd _ fun v w' h1 h2 h3 h4 => ⟨v, rfl, h1, h2, h3, h4⟩⟩
/-- The guard passes it over. -/
theorem Obl.skip {a0 : Act} {C : World → Prop} {G : World → World → Prop} {R : Nat → Value → World → Prop} {T : Nat → Act → World → Prop} {i : Nat} {o : Oper} (g : Nat) (d : Tmp) (b b' : Bool) (hg : o.guard = some (g, b)) (hs : slotOf ops g = some d) (hb : behind ops g i = true) (hne : b' ≠ b) (hv : ∀ a w, Has ops R g a w → a.eval (.tmp d) = .bool b')
    (h : ∀ w, R i undef w) (hn : o.dst ≠ none) : Obl P ops a0 C G R T Q i o :=
  fun a w hC he hd => .inr ⟨by unfold Region.wanted; rw [hg]; simp [yielded_of hs (hv a w (hd g hb)), hne], fun _ => h w, fun e => absurd e hn⟩

theorem yielded_undef {a : Act} {g : Nat} {d : Tmp} (hs : slotOf ops g = some d) (h : a.eval (.tmp d) = undef) : yielded ops a.tmps g = none := by
  unfold yielded
  unfold slotOf at hs
  rw [hs]
  simp only [Option.bind_some]
  have h := slot_val h
  cases ht : a.tmps[d]? with
  | none => rfl
  | some v => rw [ht] at h; simp only [Option.getD_some] at h; subst h; rfl
/-- Its guard was passed over. -/
theorem Obl.skipU {a0 : Act} {C : World → Prop} {G : World → World → Prop} {R : Nat → Value → World → Prop} {T : Nat → Act → World → Prop} {i : Nat} {o : Oper} (g : Nat) (d : Tmp) (b : Bool) (hg : o.guard = some (g, b)) (hs : slotOf ops g = some d) (hb : behind ops g i = true) (hv : ∀ a w, Has ops R g a w → a.eval (.tmp d) = undef)
    (h : ∀ w, R i undef w) (hn : o.dst ≠ none) : Obl P ops a0 C G R T Q i o :=
  fun a w hC he hd => .inr ⟨by unfold Region.wanted; rw [hg]; simp [yielded_undef hs (hv a w (hd g hb))], fun _ => h w, fun e => absurd e hn⟩

theorem wp_region_inv {id : Nat} {a0 : Act} {w0 : World} {C : World → Prop} {G : World → World → Prop} {R : Nat → Value → World → Prop} {T : Nat → Act → World → Prop} (hm : P.follows .mixedOrders = true) (ht : tidyG ops a0.tmps.size = true)
    (hG : ∀ j v w w', C w → G w w' → R j v w → R j v w') (hGr : ∀ w, G w w) (hC : C { w0 with drawn := w0.drawn + 1 })
    (hO : OblAll P ops a0 C G R T Q 0 ops.toList)
    (hQ : ∀ a w, C w → a.defers = a0.defers → a.tmps.size = a0.tmps.size → (∀ t, (ops.all fun o => o.dst != some t) = true → a.eval (.tmp t) = a0.eval (.tmp t)) → (∀ j, j < ops.size → Has ops R j a w) → (∀ j, HasT ops T j a w) → Q .normal a w) :
    (Code.region id ops true).wp P Q a0 w0 := by
  unfold tidyG at ht
  simp only [Bool.and_eq_true] at ht
  obtain ⟨⟨⟨hlow, hbd⟩, hdis⟩, hlast⟩ := ht
  have slot_lt : ∀ {j d}, slotOf ops j = some d → j < ops.size := fun {j d} h => by
    unfold slotOf at h
    cases ho : ops[j]? with
    | none => rw [ho] at h; cases h
    | some o => exact (Array.getElem?_eq_some_iff.1 ho).1
  have slot_bd : ∀ {j d}, slotOf ops j = some d → d < a0.tmps.size := fun {j d} h => by
    have hj := slot_lt h
    have := Array.all_eq_true.1 hbd j hj
    unfold slotOf at h
    rw [Array.getElem?_eq_getElem hj] at h
    simp only [Option.bind_some] at h
    rw [h] at this
    simpa using this
  have slot_ne : ∀ {i j d}, slotOf ops i = some d → slotOf ops j = some d → i = j := fun {i j d} h1 h2 => by
    have a1 := slot_lt h1
    have a2 := slot_lt h2
    have := List.all_eq_true.1 (List.all_eq_true.1 hdis i (List.mem_range.2 a1)) j (List.mem_range.2 a2)
    rw [h1, h2] at this
    simpa using this
  let Inv : Array Bool → Act → World → Prop := fun listed a w => C w ∧ a.defers = a0.defers ∧ a.tmps.size = a0.tmps.size ∧
    (∀ t, (∀ j, slotOf ops j = some t → listed.getD j false = false) → a.eval (.tmp t) = a0.eval (.tmp t)) ∧
    (∀ j, listed.getD j false = true → Has ops R j a w) ∧ (∀ i j, listed.getD j false = true → behind ops i j = true → listed.getD i false = true) ∧ (∀ j, listed.getD j false = true → HasT ops T j a w)
  refine wp_region_any hm (wpAny_inv (Inv := Inv) hlow ?_ ?_ _ _ _ _ (by simp) (by simp) ⟨hC, rfl, rfl, fun _ _ => rfl, ?_, ?_, ?_⟩)
  · intro i listed a w hs hi ⟨hCw, hd, hsz, hext, hhas, hcl, hT⟩
    obtain ⟨hun, o, ho, hdeps⟩ := mem_ready.1 hi
    have hilt : i < ops.size := (Array.getElem?_eq_some_iff.1 ho).1
    have hun' : listed.getD i false = false := by
      have : i < listed.size := by omega
      simp [this] at hun ⊢; exact hun
    have hob := OblAll.get hO (i := i) (o := o) (by simpa using ho)
    rw [Nat.zero_add] at hob
    have hwp := hob a w hCw (fun t htt => hext t fun j hj => by
        have := List.all_eq_true.1 htt j (List.mem_range.2 (slot_lt hj))
        rw [hj] at this
        simp at this
        cases hl : listed.getD j false
        · rfl
        · have := hcl i j hl this; rw [hun'] at this; cases this)
      (fun j hj => hhas j (by
        obtain ⟨e, he, h1, h2⟩ := behind_spec hj ho
        rw [← h1]
        exact hdeps e he h2))
    have fin : ∀ v w', (o.dst ≠ none → R i v w') → (o.dst = none → T i a w') → C w' → G w w' → Inv (listed.setIfInBounds i true) (a.put o.dst v) w' := ?_
    · unfold wpOp
      rw [ho]
      rcases hwp with ⟨hw, hwp⟩ | ⟨hw, hR, hTi⟩
      · simp only [hw, if_true]
        refine .inl (Oper.wp_mono ?_ hwp)
        rintro a' w' ⟨v, rfl, hR, hTi, hC', hGw⟩
        exact fin v w' hR hTi hC' hGw
      · simp only [hw]
        exact fin undef w hR hTi hCw (hGr w)
    intro v w' hR hTi hC' hGw
    have hdst : slotOf ops i = o.dst := by unfold slotOf; rw [ho]; rfl
    have keep : ∀ t, o.dst ≠ some t → (a.put o.dst v).eval (.tmp t) = a.eval (.tmp t) := fun t h => Act.eval_put (fun d hd he => h (by rw [hd]; cases he; rfl))
    have lst : ∀ j, (listed.setIfInBounds i true).getD j false = true → j = i ∨ listed.getD j false = true := fun j h => by
      by_cases hji : i = j
      · exact .inl hji.symm
      · rw [getD_set_ne false hji] at h; exact .inr h
    refine ⟨hC', ?_, ?_, ?_, ?_, ?_, ?_⟩
    · rw [← hd]; unfold Act.put; split <;> rfl
    · rw [← hsz]; unfold Act.put; split <;> simp
    · intro t htt
      rw [keep t (fun h => by
        have := htt i (by rw [hdst]; exact h)
        have hlt : i < listed.size := by omega
        simp [hlt] at this)]
      refine hext t fun j hj => ?_
      have := htt j hj
      cases hl : listed.getD j false
      · rfl
      · rw [getD_set_true hl] at this; cases this
    · intro j hj d hjd
      rcases lst j hj with rfl | hj'
      · rw [hdst] at hjd
        have hb := slot_bd (j := j) (by rw [hdst]; exact hjd)
        have : (a.put o.dst v).eval (.tmp d) = v := by
          unfold Act.put Act.eval; rw [hjd]; simp; exact fun h => absurd (Nat.lt_of_lt_of_le hb (hsz ▸ h)) (Nat.lt_irrefl _)
        rw [this]; exact hR (by rw [hjd]; simp)
      · rw [keep d (fun h => by
          have := slot_ne (show slotOf ops i = some d by rw [hdst]; exact h) hjd
          subst this; rw [hun'] at hj'; cases hj')]
        exact hG _ _ _ _ hCw hGw (hhas j hj' d hjd)
    · intro i' j hj hb
      rcases lst j hj with rfl | hj'
      · refine getD_set_true ?_
        obtain ⟨e, he, h1, h2⟩ := behind_spec hb ho
        rw [← h1]; exact hdeps e he h2
      · exact getD_set_true (hcl i' j hj' hb)
    · intro j hj hn hlt
      rcases lst j hj with rfl | hj'
      · rw [hdst] at hn
        have : a.put o.dst v = a := by rw [hn]; rfl
        rw [this]; exact hTi hn
      · exfalso
        have h1 := List.all_eq_true.1 hlast j (List.mem_range.2 hlt)
        rw [hn] at h1
        simp only [bne_self_eq_false, Bool.false_or] at h1
        have h2 := List.all_eq_true.1 h1 i (List.mem_range.2 hilt)
        have hne : i ≠ j := fun e => by subst e; rw [hun'] at hj'; cases hj'
        simp [hne] at h2
        have := hcl i j hj' h2
        rw [hun'] at this; cases this
  · intro listed a w hall ⟨hCw, hd, hsz, hext, hhas, _, hT⟩
    refine hQ a w hCw hd hsz (fun t htt => hext t fun j hj => ?_) (fun j hj => hhas j (hall j hj)) (fun j hn hlt => hT j (hall j hlt) hn hlt)
    exfalso
    have hlt := slot_lt hj
    have := Array.all_eq_true.1 htt j hlt
    unfold slotOf at hj
    rw [Array.getElem?_eq_getElem hlt] at hj
    simp only [Option.bind_some] at hj
    rw [hj] at this
    simp at this
  · intro j hj
    simp at hj
    rw [Array.getElem?_replicate] at hj; split at hj <;> simp at hj
  · intro i j hj
    simp at hj
    rw [Array.getElem?_replicate] at hj; split at hj <;> simp at hj
  · intro j hj
    simp at hj
    rw [Array.getElem?_replicate] at hj; split at hj <;> simp at hj

theorem wp_region_mix {id : Nat} {a0 : Act} {w0 : World} {C : World → Prop} {G : World → World → Prop} {R : Nat → Value → World → Prop} {T : Nat → Act → World → Prop} (m : List Bool) (hm : P.follows .mixedOrders = true) (ht : tidyG ops a0.tmps.size = true)
    (hk : maskOk ops m a0.tmps.size = true)
    (hG : ∀ j v w w', C w → G w w' → R j v w → R j v w') (hGr : ∀ w, G w w) (hC : C { w0 with drawn := w0.drawn + 1 })
    (hO : OblAll P ops a0 C G R T Q 0 ops.toList)
    (hQ : ∀ (f : Nat → Value) w, C w → (∀ j d, slotOf ops j = some d → R j (f d) w) → (∀ j, HasT ops T j ⟨(mixL f m 0 a0.tmps.toList).toArray, a0.defers⟩ w) → Q .normal ⟨(mixL f m 0 a0.tmps.toList).toArray, a0.defers⟩ w) :
    (Code.region id ops true).wp P Q a0 w0 := by
  refine wp_region_inv hm ht hG hGr hC hO fun a w hCw hd hsz hext hhas hT => ?_
  unfold maskOk at hk
  simp only [Bool.and_eq_true, beq_iff_eq] at hk
  obtain ⟨hml, hmk⟩ := hk
  have e : a = ⟨(mixL (fun t => a.eval (.tmp t)) m 0 a0.tmps.toList).toArray, a0.defers⟩ := by
    rw [mixL_eq _ _ _ _ (by simpa using hml) ?_]
    · cases a with
      | mk tmps defers =>
        simp only [Act.mk.injEq]
        refine ⟨?_, hd⟩
        apply Array.ext'
        apply List.ext_getElem?
        intro i
        simp only at hsz
        by_cases hi : i < tmps.size
        · have hi' : i < a0.tmps.size := by omega
          simp [hi, hi', Act.eval]
        · have hi' : ¬ i < a0.tmps.size := by omega
          simp [hi, hi']
    · intro i hi
      have hlt : i < a0.tmps.size := by
        have := (List.getElem?_eq_some_iff.1 hi).1; omega
      have h1 := List.all_eq_true.1 hmk i (List.mem_range.2 hlt)
      have h2 : m.getD i false = false := by simp [List.getD, hi]
      rw [h2, Bool.false_or] at h1
      have h3 := hext i h1
      rw [Nat.zero_add, h3]
      simp [Act.eval, hlt]
  have h1 : ∀ j d, slotOf ops j = some d → R j ((fun t => a.eval (.tmp t)) d) w := fun j d hj => hhas j (by
    unfold slotOf at hj
    cases ho : ops[j]? with
    | none => rw [ho] at hj; cases hj
    | some o => exact (Array.getElem?_eq_some_iff.1 ho).1) d hj
  rw [e] at hT ⊢
  exact hQ (fun t => a.eval (.tmp t)) w hCw h1 hT
end
end RegG
end Go.Proofs.Ytmbekamnogbgaaa


/-
Normals: all arguments, of the program and of its model. Conditions: none beyond that the mesh lies in memory.
-/
import Derived.Test.YtejgenjafajpnaaNrB
import Derived.Test.YtejgenjafajpnaaReg2
namespace Go.Proofs.Ytejgenjafajpnaa
open Go Fk Go.RowKit
set_option linter.unusedVariables false
set_option maxRecDepth 8000

theorem impl_NormalOf_no (pa ta : Option Addr) (pl pc tl tc : Nat) (cs : List C3) (ts : List (List Int)) (i : Int) (w : World) (hp : IsVs w pa pl pc cs) (ht : IsTs w ta tl tc ts) (h : (validB cs ts && inB tl i) = false) :
    Calls Try.prog 25 #[.agg #[.slice pa pl pc, .slice ta tl tc], .int .i64 i] w fun e w' => e = .returned (.tuple #[vv 0 0 0, .bool false]) ∧ Below w.heap.size w w' := by
  have uv := Try.underlying35
  have ui := Try.underlying40
  have hB0 : Below w.heap.size w ((w.alloc (.cells #[.slice pa pl pc, .slice ta tl tc] 40)).alloc (.cells #[.float .f32 0, .float .f32 0, .float .f32 0] 35)) := ((Below.refl _ _).alloc (Nat.le_refl _) _).alloc (by simp) _
  have kb1 : ((w.alloc (.cells #[.slice pa pl pc, .slice ta tl tc] 40)).alloc (.cells #[.float .f32 0, .float .f32 0, .float .f32 0] 35)).cell? ⟨w.heap.size, 1, none⟩ = some (.slice ta tl tc) := by go_simp
  have kb0 : ((w.alloc (.cells #[.slice pa pl pc, .slice ta tl tc] 40)).alloc (.cells #[.float .f32 0, .float .f32 0, .float .f32 0] 35)).cell? ⟨w.heap.size, 0, none⟩ = some (.slice pa pl pc) := by go_simp
  have kr0 : ((w.alloc (.cells #[.slice pa pl pc, .slice ta tl tc] 40)).alloc (.cells #[.float .f32 0, .float .f32 0, .float .f32 0] 35)).cell? ⟨w.heap.size + 1, 0, none⟩ = some (.float .f32 0) := by go_simp
  have kr1 : ((w.alloc (.cells #[.slice pa pl pc, .slice ta tl tc] 40)).alloc (.cells #[.float .f32 0, .float .f32 0, .float .f32 0] 35)).cell? ⟨w.heap.size + 1, 1, none⟩ = some (.float .f32 0) := by go_simp
  have kr2 : ((w.alloc (.cells #[.slice pa pl pc, .slice ta tl tc] 40)).alloc (.cells #[.float .f32 0, .float .f32 0, .float .f32 0] 35)).cell? ⟨w.heap.size + 1, 2, none⟩ = some (.float .f32 0) := by go_simp
  have kf0 : ((w.alloc (.cells #[.slice pa pl pc, .slice ta tl tc] 40)).alloc (.cells #[.float .f32 0, .float .f32 0, .float .f32 0] 35)).frozen? ⟨w.heap.size + 1, 0, none⟩ = false := by go_simp
  have kf1 : ((w.alloc (.cells #[.slice pa pl pc, .slice ta tl tc] 40)).alloc (.cells #[.float .f32 0, .float .f32 0, .float .f32 0] 35)).frozen? ⟨w.heap.size + 1, 1, none⟩ = false := by go_simp
  have kf2 : ((w.alloc (.cells #[.slice pa pl pc, .slice ta tl tc] 40)).alloc (.cells #[.float .f32 0, .float .f32 0, .float .f32 0] 35)).frozen? ⟨w.heap.size + 1, 2, none⟩ = false := by go_simp
  have hJ := impl_ValidMesh _ _ _ _ _ _ cs ts _ (hp.below hB0) (ht.below hB0)
  generalize hv : validB cs ts = v at h hJ
  have HJ := Lib.hid hJ
  clear hv hp ht hJ
  generalize hCH : ((w.alloc (.cells #[.slice pa pl pc, .slice ta tl tc] 40)).alloc (.cells #[.float .f32 0, .float .f32 0, .float .f32 0] 35)) = W at *
  cases v
  · clear h
    go_enter Try.func25, Try.ntmps25
    go_wp2_with fail
    refine HJ.out.mono ?_
    rintro e w1 ⟨rfl, hB1⟩
    replace kb0 := cell_below hB1 kb0
    replace kb1 := cell_below hB1 kb1
    replace kf0 := frozen_below hB1 (World.block_lt_of_cell? _ _ kr0) kf0
    replace kf1 := frozen_below hB1 (World.block_lt_of_cell? _ _ kr0) kf1
    replace kf2 := frozen_below hB1 (World.block_lt_of_cell? _ _ kr0) kf2
    replace kr0 := cell_below hB1 kr0
    replace kr1 := cell_below hB1 kr1
    replace kr2 := cell_below hB1 kr2
    have HB := Lib.hid (hB0.trans (hB1.mono hB0.size))
    clear hB0 hB1 HJ hCH
    go_wp2
    refine bodyPost_ret (v := .tuple #[vv 0 0 0, .bool false]) (by simp [results, Try.results25, go_sem, kr0, kr1, kr2]) rfl ⟨rfl, below_set3 HB.out (by omega)⟩
  · have hi : inB tl i = false := by simpa using h
    clear h
    go_enter Try.func25, Try.ntmps25
    go_wp2_with fail
    refine HJ.out.mono ?_
    rintro e w1 ⟨rfl, hB1⟩
    replace kb0 := cell_below hB1 kb0
    replace kb1 := cell_below hB1 kb1
    replace kf0 := frozen_below hB1 (World.block_lt_of_cell? _ _ kr0) kf0
    replace kf1 := frozen_below hB1 (World.block_lt_of_cell? _ _ kr0) kf1
    replace kf2 := frozen_below hB1 (World.block_lt_of_cell? _ _ kr0) kf2
    replace kr0 := cell_below hB1 kr0
    replace kr1 := cell_below hB1 kr1
    replace kr2 := cell_below hB1 kr2
    have HB := Lib.hid (hB0.trans (hB1.mono hB0.size))
    clear hB0 hB1 HJ hCH
    go_wp2_with (go_at_call 73; refine (impl_isIndex _ _ _).mono ?_; rintro e w2 ⟨rfl, rfl⟩; rw [hi])
    refine bodyPost_ret (v := .tuple #[vv 0 0 0, .bool false]) (by simp [results, Try.results25, go_sem, kr0, kr1, kr2]) rfl ⟨rfl, below_set3 HB.out (by omega)⟩
theorem impl_NormalOf_yes (pa ta : Option Addr) (pl pc tl tc : Nat) (cs : List C3) (ts : List (List Int)) (i : Int) (w : World) (hp : IsVs w pa pl pc cs) (ht : IsTs w ta tl tc ts) (hv : validB cs ts = true) (hi : inB tl i = true) :
    Calls Try.prog 25 #[.agg #[.slice pa pl pc, .slice ta tl tc], .int .i64 i] w fun e w' => ∃ x y z, e = .returned (.tuple #[vv x y z, .bool true]) ∧ FV .f32 x (normalC cs (ts.getD i.toNat [])).1 ∧ FV .f32 y (normalC cs (ts.getD i.toNat [])).2.1 ∧ FV .f32 z (normalC cs (ts.getD i.toNat [])).2.2 ∧ Below w.heap.size w w' := by
  have uv := Try.underlying35
  have ui := Try.underlying40
  have hB0 : Below w.heap.size w ((w.alloc (.cells #[.slice pa pl pc, .slice ta tl tc] 40)).alloc (.cells #[.float .f32 0, .float .f32 0, .float .f32 0] 35)) := ((Below.refl _ _).alloc (Nat.le_refl _) _).alloc (by simp) _
  have kb1 : ((w.alloc (.cells #[.slice pa pl pc, .slice ta tl tc] 40)).alloc (.cells #[.float .f32 0, .float .f32 0, .float .f32 0] 35)).cell? ⟨w.heap.size, 1, none⟩ = some (.slice ta tl tc) := by go_simp
  have kb0 : ((w.alloc (.cells #[.slice pa pl pc, .slice ta tl tc] 40)).alloc (.cells #[.float .f32 0, .float .f32 0, .float .f32 0] 35)).cell? ⟨w.heap.size, 0, none⟩ = some (.slice pa pl pc) := by go_simp
  have kr0 : ((w.alloc (.cells #[.slice pa pl pc, .slice ta tl tc] 40)).alloc (.cells #[.float .f32 0, .float .f32 0, .float .f32 0] 35)).cell? ⟨w.heap.size + 1, 0, none⟩ = some (.float .f32 0) := by go_simp
  have kr1 : ((w.alloc (.cells #[.slice pa pl pc, .slice ta tl tc] 40)).alloc (.cells #[.float .f32 0, .float .f32 0, .float .f32 0] 35)).cell? ⟨w.heap.size + 1, 1, none⟩ = some (.float .f32 0) := by go_simp
  have kr2 : ((w.alloc (.cells #[.slice pa pl pc, .slice ta tl tc] 40)).alloc (.cells #[.float .f32 0, .float .f32 0, .float .f32 0] 35)).cell? ⟨w.heap.size + 1, 2, none⟩ = some (.float .f32 0) := by go_simp
  have kf0 : ((w.alloc (.cells #[.slice pa pl pc, .slice ta tl tc] 40)).alloc (.cells #[.float .f32 0, .float .f32 0, .float .f32 0] 35)).frozen? ⟨w.heap.size + 1, 0, none⟩ = false := by go_simp
  have kf1 : ((w.alloc (.cells #[.slice pa pl pc, .slice ta tl tc] 40)).alloc (.cells #[.float .f32 0, .float .f32 0, .float .f32 0] 35)).frozen? ⟨w.heap.size + 1, 1, none⟩ = false := by go_simp
  have kf2 : ((w.alloc (.cells #[.slice pa pl pc, .slice ta tl tc] 40)).alloc (.cells #[.float .f32 0, .float .f32 0, .float .f32 0] 35)).frozen? ⟨w.heap.size + 1, 2, none⟩ = false := by go_simp
  have hJ := impl_ValidMesh _ _ _ _ _ _ cs ts _ (hp.below hB0) (ht.below hB0)
  rw [hv] at hJ
  have HJ := Lib.hid hJ
  have hi' := of_decide_eq_true hi
  obtain ⟨k, hk⟩ : ∃ k : Nat, i = k := ⟨i.toNat, by omega⟩
  subst hk
  have hkt : k < tl := by omega
  rw [Int.toNat_natCast]
  have htri := valid_row hv (by rw [ht.1]; exact hkt)
  rw [hp.1] at htri
  have HTRI := Lib.hid htri
  have hk0 : (0 : Int) ≤ (k : Int) := by omega
  have hk1 : (k : Int) < (tl : Int) := by omega
  have HP := Lib.hid hp
  have HT := Lib.hid ht
  clear hp ht hJ htri hi' hv
  generalize hCH : ((w.alloc (.cells #[.slice pa pl pc, .slice ta tl tc] 40)).alloc (.cells #[.float .f32 0, .float .f32 0, .float .f32 0] 35)) = W at *
  go_enter Try.func25, Try.ntmps25
  go_wp2_with fail
  refine HJ.out.mono ?_
  rintro e w1 ⟨rfl, hB1⟩
  replace kb0 := cell_below hB1 kb0
  replace kb1 := cell_below hB1 kb1
  replace kf0 := frozen_below hB1 (World.block_lt_of_cell? _ _ kr0) kf0
  replace kf1 := frozen_below hB1 (World.block_lt_of_cell? _ _ kr0) kf1
  replace kf2 := frozen_below hB1 (World.block_lt_of_cell? _ _ kr0) kf2
  replace kr0 := cell_below hB1 kr0
  replace kr1 := cell_below hB1 kr1
  replace kr2 := cell_below hB1 kr2
  have HB := Lib.hid (hB0.trans (hB1.mono hB0.size))
  obtain ⟨bt, ot, rfl, hrow⟩ := HT.out.some (by omega)
  obtain ⟨r1, n1, q1, cr, ir⟩ := hrow k hkt
  have h3 := (tri_parts HTRI.out).1
  have hn1 : n1 = 3 := ir.1.symm.trans h3
  subst hn1
  obtain ⟨br, or, rfl, hz⟩ := ir.some (by decide)
  have z0 := hz 0 (by decide)
  have z1 := hz 1 (by decide)
  have z2 := hz 2 (by decide)
  rw [Nat.add_zero] at z0
  have nbr : w.heap.size + 1 ≠ br := by have := World.block_lt_of_cell? _ _ z0; simp at this; omega
  have nbt : w.heap.size + 1 ≠ bt := by have := World.block_lt_of_cell? _ _ cr; simp at this; omega
  replace cr := (HB.out.cell (p := ⟨bt, ot + k, none⟩) (World.block_lt_of_cell? _ _ cr)).trans cr
  have lz := World.block_lt_of_cell? _ _ z0
  replace z1 := (HB.out.cell (p := ⟨br, or + 1, none⟩) lz).trans z1
  replace z2 := (HB.out.cell (p := ⟨br, or + 2, none⟩) lz).trans z2
  replace z0 := (HB.out.cell (p := ⟨br, or, none⟩) lz).trans z0
  clear hB0 hB1 HJ hCH hrow ir hz h3 lz
  go_wp2_with (go_at_call 73; refine (impl_isIndex _ _ _).mono ?_; rintro e w2 ⟨rfl, rfl⟩; rw [hi])
  have hN := fun w' (hb : Below w.heap.size w w') => mesh_normal pa (some ⟨bt, ot, none⟩) pl pc tl tc cs (ts.getD k []) w' (HP.out.below hb) HTRI.out
  generalize (ts.getD k []).getD 0 0 = j0 at *
  generalize (ts.getD k []).getD 1 0 = j1 at *
  generalize (ts.getD k []).getD 2 0 = j2 at *
  have HN := Lib.hid hN
  clear hN
  have uc := Try.underlying90
  have nA : w.heap.size + 1 ≠ w.heap.size := by omega
  have nB : w.heap.size + 1 ≠ bt := nbt
  have nC : w.heap.size + 1 ≠ br := nbr
  have nD : w.heap.size ≤ w.heap.size + 1 := by omega
  refine Reg2.wp_region_mix (C := fun w' => (w'.cell? ⟨w.heap.size, 0, none⟩ = some (.slice pa pl pc) ∧ w'.cell? ⟨w.heap.size, 1, none⟩ = some (.slice (some ⟨bt, ot, none⟩) tl tc) ∧ w'.cell? ⟨bt, ot + k, none⟩ = some (.slice (some ⟨br, or, none⟩) 3 q1) ∧ w'.cell? ⟨br, or, none⟩ = some (.int .i64 j0) ∧ w'.cell? ⟨br, or + 1, none⟩ = some (.int .i64 j1) ∧ w'.cell? ⟨br, or + 2, none⟩ = some (.int .i64 j2)) ∧ (∃ u0 u1 u2, w'.cell? ⟨w.heap.size + 1, 0, none⟩ = some u0 ∧ w'.cell? ⟨w.heap.size + 1, 1, none⟩ = some u1 ∧ w'.cell? ⟨w.heap.size + 1, 2, none⟩ = some u2) ∧ (w'.frozen? ⟨w.heap.size + 1, 0, none⟩ = false ∧ w'.frozen? ⟨w.heap.size + 1, 1, none⟩ = false ∧ w'.frozen? ⟨w.heap.size + 1, 2, none⟩ = false) ∧ Below w.heap.size w w') (G := fun w1 w2 => (∃ a b g, w1.cell? ⟨w.heap.size + 1, 0, none⟩ = some (.float .f32 a) ∧ w1.cell? ⟨w.heap.size + 1, 1, none⟩ = some (.float .f32 b) ∧ w1.cell? ⟨w.heap.size + 1, 2, none⟩ = some (.float .f32 g) ∧ FV .f32 a ((normalC cs (ts.getD k [])).1) ∧ FV .f32 b ((normalC cs (ts.getD k [])).2.1) ∧ FV .f32 g ((normalC cs (ts.getD k [])).2.2)) → ∃ a b g, w2.cell? ⟨w.heap.size + 1, 0, none⟩ = some (.float .f32 a) ∧ w2.cell? ⟨w.heap.size + 1, 1, none⟩ = some (.float .f32 b) ∧ w2.cell? ⟨w.heap.size + 1, 2, none⟩ = some (.float .f32 g) ∧ FV .f32 a ((normalC cs (ts.getD k [])).1) ∧ FV .f32 b ((normalC cs (ts.getD k [])).2.1) ∧ FV .f32 g ((normalC cs (ts.getD k [])).2.2)) (R := fun i v _ => match i with | 0 => v = .agg #[.slice pa pl pc, .slice (some ⟨bt, ot, none⟩) tl tc] | 1 => v = .pointer (some ⟨w.heap.size, 1, none⟩) | 2 => v = .slice (some ⟨bt, ot, none⟩) tl tc | 3 => v = .int .i64 k | 4 => v = .pointer (some ⟨bt, ot + k, none⟩) | 5 => v = .slice (some ⟨br, or, none⟩) 3 q1 | 6 => v = .pointer (some ⟨br, or, none⟩) | 7 => v = .agg #[.int .i64 j0, .int .i64 j1, .int .i64 j2] | 8 => ∃ a b g, v = vv a b g ∧ FV .f32 a ((normalC cs (ts.getD k [])).1) ∧ FV .f32 b ((normalC cs (ts.getD k [])).2.1) ∧ FV .f32 g ((normalC cs (ts.getD k [])).2.2) | 10 => v = .bool true | _ => True) (T := fun _ w' => ∃ a b g, w'.cell? ⟨w.heap.size + 1, 0, none⟩ = some (.float .f32 a) ∧ w'.cell? ⟨w.heap.size + 1, 1, none⟩ = some (.float .f32 b) ∧ w'.cell? ⟨w.heap.size + 1, 2, none⟩ = some (.float .f32 g) ∧ FV .f32 a ((normalC cs (ts.getD k [])).1) ∧ FV .f32 b ((normalC cs (ts.getD k [])).2.1) ∧ FV .f32 g ((normalC cs (ts.getD k [])).2.2)) [false, false, false, false, false, true, false, false, false, false, false, false, false, false, false, false, false, false, true, true, true, true, true, true, true, true, true]
    (by kernel_rfl) (by kernel_rfl) (by kernel_rfl) (fun _ _ _ _ _ _ h => h) (fun _ _ _ _ hG hT => hG hT) ⟨⟨kb0, kb1, cr, z0, z1, z2⟩, ⟨_, _, _, kr0, kr1, kr2⟩, ⟨kf0, kf1, kf2⟩, below_drewN HB.out 1⟩ ?_ ?_
  · refine ⟨Reg2.Obl.mk ?_, Reg2.Obl.mk ?_, Reg2.Obl.mk ?_, Reg2.Obl.mk ?_, Reg2.Obl.mk ?_, Reg2.Obl.mk ?_, Reg2.Obl.mk ?_, Reg2.Obl.mk ?_, Reg2.Obl.mk ?_, Reg2.Obl.mk ?_, Reg2.Obl.mk ?_, trivial⟩
    · rintro a w1 ⟨⟨y0, y1, y2, y3, y4, y5⟩, hrb, hfz, hB⟩ hx hd K hK
      have t2 : a.tmps[2]?.getD undef = .pointer (some ⟨w.heap.size, 0, none⟩) := Reg.slot_val (hx 2 (by kernel_rfl))
      go_simp
      exact hK _ _ (fun _ => rfl) (fun h => by cases h) ⟨⟨y0, y1, y2, y3, y4, y5⟩, hrb, hfz, hB⟩ (fun h => h)
    · rintro a w1 ⟨⟨y0, y1, y2, y3, y4, y5⟩, hrb, hfz, hB⟩ hx hd K hK
      have t2 : a.tmps[2]?.getD undef = .pointer (some ⟨w.heap.size, 0, none⟩) := Reg.slot_val (hx 2 (by kernel_rfl))
      go_simp
      exact hK _ _ (fun _ => rfl) (fun h => by cases h) ⟨⟨y0, y1, y2, y3, y4, y5⟩, hrb, hfz, hB⟩ (fun h => h)
    · rintro a w1 ⟨⟨y0, y1, y2, y3, y4, y5⟩, hrb, hfz, hB⟩ hx hd K hK
      have t19 : a.tmps[19]?.getD undef = .pointer (some ⟨w.heap.size, 1, none⟩) := Reg.slot_val (hd 1 (by kernel_rfl) 19 rfl)
      go_simp
      exact hK _ _ (fun _ => rfl) (fun h => by cases h) ⟨⟨y0, y1, y2, y3, y4, y5⟩, hrb, hfz, hB⟩ (fun h => h)
    · rintro a w1 ⟨⟨y0, y1, y2, y3, y4, y5⟩, hrb, hfz, hB⟩ hx hd K hK
      have t1 : a.tmps[1]?.getD undef = .int .i64 k := Reg.slot_val (hx 1 (by kernel_rfl))
      go_simp
      exact hK _ _ (fun _ => rfl) (fun h => by cases h) ⟨⟨y0, y1, y2, y3, y4, y5⟩, hrb, hfz, hB⟩ (fun h => h)
    · rintro a w1 ⟨⟨y0, y1, y2, y3, y4, y5⟩, hrb, hfz, hB⟩ hx hd K hK
      have t20 : a.tmps[20]?.getD undef = .slice (some ⟨bt, ot, none⟩) tl tc := Reg.slot_val (hd 2 (by kernel_rfl) 20 rfl)
      have t21 : a.tmps[21]?.getD undef = .int .i64 k := Reg.slot_val (hd 3 (by kernel_rfl) 21 rfl)
      go_simp
      exact hK _ _ (fun _ => rfl) (fun h => by cases h) ⟨⟨y0, y1, y2, y3, y4, y5⟩, hrb, hfz, hB⟩ (fun h => h)
    · rintro a w1 ⟨⟨y0, y1, y2, y3, y4, y5⟩, hrb, hfz, hB⟩ hx hd K hK
      have t22 : a.tmps[22]?.getD undef = .pointer (some ⟨bt, ot + k, none⟩) := Reg.slot_val (hd 4 (by kernel_rfl) 22 rfl)
      go_simp
      exact hK _ _ (fun _ => rfl) (fun h => by cases h) ⟨⟨y0, y1, y2, y3, y4, y5⟩, hrb, hfz, hB⟩ (fun h => h)
    · rintro a w1 ⟨⟨y0, y1, y2, y3, y4, y5⟩, hrb, hfz, hB⟩ hx hd K hK
      have t23 : a.tmps[23]?.getD undef = .slice (some ⟨br, or, none⟩) 3 q1 := Reg.slot_val (hd 5 (by kernel_rfl) 23 rfl)
      go_simp
      exact hK _ _ (fun _ => rfl) (fun h => by cases h) ⟨⟨y0, y1, y2, y3, y4, y5⟩, hrb, hfz, hB⟩ (fun h => h)
    · rintro a w1 ⟨⟨y0, y1, y2, y3, y4, y5⟩, hrb, hfz, hB⟩ hx hd K hK
      have t24 : a.tmps[24]?.getD undef = .pointer (some ⟨br, or, none⟩) := Reg.slot_val (hd 6 (by kernel_rfl) 24 rfl)
      go_simp
      exact hK _ _ (fun _ => rfl) (fun h => by cases h) ⟨⟨y0, y1, y2, y3, y4, y5⟩, hrb, hfz, hB⟩ (fun h => h)
    · rintro a w1 ⟨⟨y0, y1, y2, y3, y4, y5⟩, hrb, hfz, hB⟩ hx hd K hK
      have t18 : a.tmps[18]?.getD undef = .agg #[.slice pa pl pc, .slice (some ⟨bt, ot, none⟩) tl tc] := Reg.slot_val (hd 0 (by kernel_rfl) 18 rfl)
      have t25 : a.tmps[25]?.getD undef = .agg #[.int .i64 j0, .int .i64 j1, .int .i64 j2] := Reg.slot_val (hd 7 (by kernel_rfl) 25 rfl)
      have hrb' := Lib.hid hrb
      clear hrb
      go_simp
      refine (HN.out _ hB).mono ?_
      rintro en w2 ⟨ra, rb, rc, rfl, ha, hb, hc, hB2⟩
      obtain ⟨u0, u1, u2, x0, x1, x2⟩ := hrb'.out
      have lt := World.block_lt_of_cell? w1 _ x0
      exact hK _ _ (fun _ => ⟨ra, rb, rc, rfl, ha, hb, hc⟩) (fun h => by cases h) ⟨⟨cell_below hB2 y0, cell_below hB2 y1, cell_below hB2 y2, cell_below hB2 y3, cell_below hB2 y4, cell_below hB2 y5⟩, ⟨u0, u1, u2, cell_below hB2 x0, cell_below hB2 x1, cell_below hB2 x2⟩, ⟨frozen_below hB2 lt hfz.1, frozen_below hB2 lt hfz.2.1, frozen_below hB2 lt hfz.2.2⟩, hB.trans (hB2.mono hB.size)⟩ (fun ⟨a1, b1, g1, m1, m2, m3, m4⟩ => ⟨a1, b1, g1, cell_below hB2 m1, cell_below hB2 m2, cell_below hB2 m3, m4⟩)
    · rintro a w1 ⟨⟨y0, y1, y2, y3, y4, y5⟩, hrb, hfz, hB⟩ hx hd K hK
      have t4 : a.tmps[4]?.getD undef = .pointer (some ⟨w.heap.size + 1, 0, none⟩) := Reg.slot_val (hx 4 (by kernel_rfl))
      obtain ⟨r26, p26', q26', gg26, fa26, fb26, fc26⟩ := hd 8 (by kernel_rfl) 26 rfl
      have t26 := Reg.slot_val gg26
      clear gg26
      obtain ⟨u0, u1, u2, x0, x1, x2⟩ := hrb
      obtain ⟨k0, k1, k2⟩ := hfz
      go_simp
      have s3 := set3 (u := .float .f32 r26) (v := .float .f32 p26') (t := .float .f32 q26') x0 x1 x2
      refine hK undef _ (fun h => absurd rfl h) (fun _ => ⟨r26, p26', q26', s3.1, s3.2.1, s3.2.2, fa26, fb26, fc26⟩) ⟨⟨cell_set (by first | assumption | omega) (cell_set (by first | assumption | omega) (cell_set (by first | assumption | omega) y0)), cell_set (by first | assumption | omega) (cell_set (by first | assumption | omega) (cell_set (by first | assumption | omega) y1)), cell_set (by first | assumption | omega) (cell_set (by first | assumption | omega) (cell_set (by first | assumption | omega) y2)), cell_set (by first | assumption | omega) (cell_set (by first | assumption | omega) (cell_set (by first | assumption | omega) y3)), cell_set (by first | assumption | omega) (cell_set (by first | assumption | omega) (cell_set (by first | assumption | omega) y4)), cell_set (by first | assumption | omega) (cell_set (by first | assumption | omega) (cell_set (by first | assumption | omega) y5))⟩, ⟨_, _, _, s3⟩, ⟨by simp [k0], by simp [k1], by simp [k2]⟩, below_set3 hB (by first | exact Nat.le_refl _ | omega)⟩ (fun _ => ⟨r26, p26', q26', s3.1, s3.2.1, s3.2.2, fa26, fb26, fc26⟩)
    · rintro a w1 ⟨⟨y0, y1, y2, y3, y4, y5⟩, hrb, hfz, hB⟩ hx hd K hK
      go_simp
      exact hK _ _ (fun _ => rfl) (fun h => by cases h) ⟨⟨y0, y1, y2, y3, y4, y5⟩, hrb, hfz, hB⟩ (fun h => h)
  · rintro f w1 ⟨⟨y0, y1, y2, y3, y4, y5⟩, hrb, hfz, hB⟩ hd hT
    obtain ⟨xa, xb, xc, x0, x1, x2, fa, fb, fc⟩ := hT 9 rfl (by decide)
    have g5 : f 5 = .bool true := hd 10 5 rfl
    simp only [Reg.mixL, g5]
    have HBB := Lib.hid hB
    clear hB hd hT hrb hfz
    go_wp2
    refine bodyPost_ret (v := .tuple #[vv xa xb xc, .bool true]) (by simp [results, Try.results25, go_sem, x0, x1, x2]) rfl ⟨_, _, _, rfl, fa, fb, fc, HBB.out⟩
end Go.Proofs.Ytejgenjafajpnaa


/-
Normals: all arguments, of the model. Conditions: none beyond that the mesh lies in memory.
-/
import Derived.Test.YtejgenjafajpnaaNrC
namespace Go.Proofs.Ytejgenjafajpnaa
open Go Fk Go.RowKit
set_option linter.unusedVariables false
set_option maxRecDepth 8000

theorem l02IsB (pb : Nat) (pa ta : Option Addr) (pl pc tl tc : Nat) (cs : List C3) (ts : List (List Int)) (w : World) (c0 : w.cell? ⟨pb, 0, none⟩ = some (.slice pa pl pc)) (c1 : w.cell? ⟨pb, 1, none⟩ = some (.slice ta tl tc)) (hp : IsVs w pa pl pc cs) (ht : IsTs w ta tl tc ts) :
    Calls Try.prog 67 #[.pointer (some ⟨pb, 0, none⟩)] w fun e w' => e = .returned (.bool (validB cs ts)) ∧ Below w.heap.size w w' :=
  (l02Is pb pa ta pl pc tl tc cs ts w c0 c1 hp ht).mono fun _ _ ⟨he, n, hw⟩ => ⟨he, by rw [hw]; exact below_drewN (Below.refl _ _) n⟩
theorem spec_NormalOf_no (pa ta : Option Addr) (pl pc tl tc : Nat) (cs : List C3) (ts : List (List Int)) (i : Int) (w : World) (hp : IsVs w pa pl pc cs) (ht : IsTs w ta tl tc ts) (h : (validB cs ts && inB tl i) = false) :
    Calls Try.prog 23 #[.agg #[.slice pa pl pc, .slice ta tl tc], .int .i64 i] w fun e w' => e = .returned (.tuple #[vv 0 0 0, .bool false]) ∧ Below w.heap.size w w' := by
  have uv := Try.underlying35
  have ui := Try.underlying40
  have hB0 : Below w.heap.size w ((w.alloc (.cells #[.slice pa pl pc, .slice ta tl tc] 40)).alloc (.cells #[.float .f32 0, .float .f32 0, .float .f32 0] 35)) := ((Below.refl _ _).alloc (Nat.le_refl _) _).alloc (by simp) _
  have kb1 : ((w.alloc (.cells #[.slice pa pl pc, .slice ta tl tc] 40)).alloc (.cells #[.float .f32 0, .float .f32 0, .float .f32 0] 35)).cell? ⟨w.heap.size, 1, none⟩ = some (.slice ta tl tc) := by go_simp
  have kb0 : ((w.alloc (.cells #[.slice pa pl pc, .slice ta tl tc] 40)).alloc (.cells #[.float .f32 0, .float .f32 0, .float .f32 0] 35)).cell? ⟨w.heap.size, 0, none⟩ = some (.slice pa pl pc) := by go_simp
  have kr0 : ((w.alloc (.cells #[.slice pa pl pc, .slice ta tl tc] 40)).alloc (.cells #[.float .f32 0, .float .f32 0, .float .f32 0] 35)).cell? ⟨w.heap.size + 1, 0, none⟩ = some (.float .f32 0) := by go_simp
  have kr1 : ((w.alloc (.cells #[.slice pa pl pc, .slice ta tl tc] 40)).alloc (.cells #[.float .f32 0, .float .f32 0, .float .f32 0] 35)).cell? ⟨w.heap.size + 1, 1, none⟩ = some (.float .f32 0) := by go_simp
  have kr2 : ((w.alloc (.cells #[.slice pa pl pc, .slice ta tl tc] 40)).alloc (.cells #[.float .f32 0, .float .f32 0, .float .f32 0] 35)).cell? ⟨w.heap.size + 1, 2, none⟩ = some (.float .f32 0) := by go_simp
  have kf0 : ((w.alloc (.cells #[.slice pa pl pc, .slice ta tl tc] 40)).alloc (.cells #[.float .f32 0, .float .f32 0, .float .f32 0] 35)).frozen? ⟨w.heap.size + 1, 0, none⟩ = false := by go_simp
  have kf1 : ((w.alloc (.cells #[.slice pa pl pc, .slice ta tl tc] 40)).alloc (.cells #[.float .f32 0, .float .f32 0, .float .f32 0] 35)).frozen? ⟨w.heap.size + 1, 1, none⟩ = false := by go_simp
  have kf2 : ((w.alloc (.cells #[.slice pa pl pc, .slice ta tl tc] 40)).alloc (.cells #[.float .f32 0, .float .f32 0, .float .f32 0] 35)).frozen? ⟨w.heap.size + 1, 2, none⟩ = false := by go_simp
  have hJ := l02IsB w.heap.size pa ta pl pc tl tc cs ts _ kb0 kb1 (hp.below hB0) (ht.below hB0)
  have htm : (tl : Int) ≤ 9223372036854775807 := by have h1 := ht.2.1; have h2 := ht.2.2.1; unfold maxLen at h2; omega
  have htw : IntKind.i64.wrap ((tl : Int) - 1) = (tl : Int) - 1 := IntWalk.i64_in _ (by omega)
  generalize hv : validB cs ts = v at h hJ
  have HJ := Lib.hid hJ
  clear hv hp ht hJ
  generalize hCH : ((w.alloc (.cells #[.slice pa pl pc, .slice ta tl tc] 40)).alloc (.cells #[.float .f32 0, .float .f32 0, .float .f32 0] 35)) = W at *
  cases v
  · clear h
    go_enter Try.func23, Try.ntmps23
    go_wp2_with fail
    refine HJ.out.mono ?_
    rintro e w1 ⟨rfl, hB1⟩
    replace kb0 := cell_below hB1 kb0
    replace kb1 := cell_below hB1 kb1
    replace kf0 := frozen_below hB1 (World.block_lt_of_cell? _ _ kr0) kf0
    replace kf1 := frozen_below hB1 (World.block_lt_of_cell? _ _ kr0) kf1
    replace kf2 := frozen_below hB1 (World.block_lt_of_cell? _ _ kr0) kf2
    replace kr0 := cell_below hB1 kr0
    replace kr1 := cell_below hB1 kr1
    replace kr2 := cell_below hB1 kr2
    have HB := Lib.hid (hB0.trans (hB1.mono hB0.size))
    clear hB0 hB1 HJ hCH
    go_wp2
    refine bodyPost_ret (v := .tuple #[vv 0 0 0, .bool false]) (by simp [results, Try.results23, go_sem, kr0, kr1, kr2]) rfl ⟨rfl, below_set3 HB.out (by omega)⟩
  · have hi : inB tl i = false := by simpa using h
    clear h
    go_enter Try.func23, Try.ntmps23
    go_wp2_with fail
    refine HJ.out.mono ?_
    rintro e w1 ⟨rfl, hB1⟩
    replace kb0 := cell_below hB1 kb0
    replace kb1 := cell_below hB1 kb1
    replace kf0 := frozen_below hB1 (World.block_lt_of_cell? _ _ kr0) kf0
    replace kf1 := frozen_below hB1 (World.block_lt_of_cell? _ _ kr0) kf1
    replace kf2 := frozen_below hB1 (World.block_lt_of_cell? _ _ kr0) kf2
    replace kr0 := cell_below hB1 kr0
    replace kr1 := cell_below hB1 kr1
    replace kr2 := cell_below hB1 kr2
    have HB := Lib.hid (hB0.trans (hB1.mono hB0.size))
    clear hB0 hB1 HJ hCH
    go_wp2_with (go_at_call 68; refine (l00In _ _ _).mono ?_; rintro e w2 ⟨rfl, rfl⟩; rw [hi])
    refine bodyPost_ret (v := .tuple #[vv 0 0 0, .bool false]) (by simp [results, Try.results23, go_sem, kr0, kr1, kr2]) rfl ⟨rfl, below_set3 HB.out (by omega)⟩
theorem spec_NormalOf_yes (pa ta : Option Addr) (pl pc tl tc : Nat) (cs : List C3) (ts : List (List Int)) (i : Int) (w : World) (hp : IsVs w pa pl pc cs) (ht : IsTs w ta tl tc ts) (hv : validB cs ts = true) (hi : inB tl i = true) :
    Calls Try.prog 23 #[.agg #[.slice pa pl pc, .slice ta tl tc], .int .i64 i] w fun e w' => ∃ x y z, e = .returned (.tuple #[vv x y z, .bool true]) ∧ FV .f32 x (normalC cs (ts.getD i.toNat [])).1 ∧ FV .f32 y (normalC cs (ts.getD i.toNat [])).2.1 ∧ FV .f32 z (normalC cs (ts.getD i.toNat [])).2.2 ∧ Below w.heap.size w w' := by
  have uv := Try.underlying35
  have ui := Try.underlying40
  have hB0 : Below w.heap.size w ((w.alloc (.cells #[.slice pa pl pc, .slice ta tl tc] 40)).alloc (.cells #[.float .f32 0, .float .f32 0, .float .f32 0] 35)) := ((Below.refl _ _).alloc (Nat.le_refl _) _).alloc (by simp) _
  have kb1 : ((w.alloc (.cells #[.slice pa pl pc, .slice ta tl tc] 40)).alloc (.cells #[.float .f32 0, .float .f32 0, .float .f32 0] 35)).cell? ⟨w.heap.size, 1, none⟩ = some (.slice ta tl tc) := by go_simp
  have kb0 : ((w.alloc (.cells #[.slice pa pl pc, .slice ta tl tc] 40)).alloc (.cells #[.float .f32 0, .float .f32 0, .float .f32 0] 35)).cell? ⟨w.heap.size, 0, none⟩ = some (.slice pa pl pc) := by go_simp
  have kr0 : ((w.alloc (.cells #[.slice pa pl pc, .slice ta tl tc] 40)).alloc (.cells #[.float .f32 0, .float .f32 0, .float .f32 0] 35)).cell? ⟨w.heap.size + 1, 0, none⟩ = some (.float .f32 0) := by go_simp
  have kr1 : ((w.alloc (.cells #[.slice pa pl pc, .slice ta tl tc] 40)).alloc (.cells #[.float .f32 0, .float .f32 0, .float .f32 0] 35)).cell? ⟨w.heap.size + 1, 1, none⟩ = some (.float .f32 0) := by go_simp
  have kr2 : ((w.alloc (.cells #[.slice pa pl pc, .slice ta tl tc] 40)).alloc (.cells #[.float .f32 0, .float .f32 0, .float .f32 0] 35)).cell? ⟨w.heap.size + 1, 2, none⟩ = some (.float .f32 0) := by go_simp
  have kf0 : ((w.alloc (.cells #[.slice pa pl pc, .slice ta tl tc] 40)).alloc (.cells #[.float .f32 0, .float .f32 0, .float .f32 0] 35)).frozen? ⟨w.heap.size + 1, 0, none⟩ = false := by go_simp
  have kf1 : ((w.alloc (.cells #[.slice pa pl pc, .slice ta tl tc] 40)).alloc (.cells #[.float .f32 0, .float .f32 0, .float .f32 0] 35)).frozen? ⟨w.heap.size + 1, 1, none⟩ = false := by go_simp
  have kf2 : ((w.alloc (.cells #[.slice pa pl pc, .slice ta tl tc] 40)).alloc (.cells #[.float .f32 0, .float .f32 0, .float .f32 0] 35)).frozen? ⟨w.heap.size + 1, 2, none⟩ = false := by go_simp
  have hJ := l02IsB w.heap.size pa ta pl pc tl tc cs ts _ kb0 kb1 (hp.below hB0) (ht.below hB0)
  have htm : (tl : Int) ≤ 9223372036854775807 := by have h1 := ht.2.1; have h2 := ht.2.2.1; unfold maxLen at h2; omega
  have htw : IntKind.i64.wrap ((tl : Int) - 1) = (tl : Int) - 1 := IntWalk.i64_in _ (by omega)
  rw [hv] at hJ
  have HJ := Lib.hid hJ
  have hi' := of_decide_eq_true hi
  obtain ⟨k, hk⟩ : ∃ k : Nat, i = k := ⟨i.toNat, by omega⟩
  subst hk
  have hkt : k < tl := by omega
  rw [Int.toNat_natCast]
  have htri := valid_row hv (by rw [ht.1]; exact hkt)
  rw [hp.1] at htri
  have HTRI := Lib.hid htri
  have hk0 : (0 : Int) ≤ (k : Int) := by omega
  have hk1 : (k : Int) < (tl : Int) := by omega
  have HP := Lib.hid hp
  have HT := Lib.hid ht
  have HVB := Lib.hid hv
  clear hp ht hJ htri hi' hv
  generalize hCH : ((w.alloc (.cells #[.slice pa pl pc, .slice ta tl tc] 40)).alloc (.cells #[.float .f32 0, .float .f32 0, .float .f32 0] 35)) = W at *
  go_enter Try.func23, Try.ntmps23
  go_wp2_with fail
  refine HJ.out.mono ?_
  rintro e w1 ⟨rfl, hB1⟩
  replace kb0 := cell_below hB1 kb0
  replace kb1 := cell_below hB1 kb1
  replace kf0 := frozen_below hB1 (World.block_lt_of_cell? _ _ kr0) kf0
  replace kf1 := frozen_below hB1 (World.block_lt_of_cell? _ _ kr0) kf1
  replace kf2 := frozen_below hB1 (World.block_lt_of_cell? _ _ kr0) kf2
  replace kr0 := cell_below hB1 kr0
  replace kr1 := cell_below hB1 kr1
  replace kr2 := cell_below hB1 kr2
  have HB := Lib.hid (hB0.trans (hB1.mono hB0.size))
  have HN := Lib.hid (l02Normal w.heap.size pa ta pl pc tl tc cs ts k _ kb0 kb1 (HP.out.below HB.out) (HT.out.below HB.out) HVB.out hkt)
  clear hB0 hB1 HJ hCH
  go_wp2_with (go_at_call 68; refine (l00In _ _ _).mono ?_; rintro e w2 ⟨rfl, rfl⟩; rw [hi])
  refine HN.out.mono ?_
  rintro e w3 ⟨x, y, z, rfl, fa, fb, fc, hB3⟩
  replace kf0 := frozen_below hB3 (World.block_lt_of_cell? _ _ kr0) kf0
  replace kf1 := frozen_below hB3 (World.block_lt_of_cell? _ _ kr0) kf1
  replace kf2 := frozen_below hB3 (World.block_lt_of_cell? _ _ kr0) kf2
  replace kr0 := cell_below hB3 kr0
  replace kr1 := cell_below hB3 kr1
  replace kr2 := cell_below hB3 kr2
  have HB3 := Lib.hid (HB.out.trans (hB3.mono HB.out.size))
  have s3 := set3 (u := .float .f32 x) (v := .float .f32 y) (t := .float .f32 z) kr0 kr1 kr2
  obtain ⟨x0, x1, x2⟩ := s3
  clear hB3 HN
  go_wp2
  refine bodyPost_ret (v := .tuple #[vv x y z, .bool true]) (by simp [results, Try.results23, go_sem, x0, x1, x2]) rfl ⟨_, _, _, rfl, fa, fb, fc, below_set3 HB3.out (by omega)⟩
end Go.Proofs.Ytejgenjafajpnaa

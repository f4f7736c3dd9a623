/-
Texts in one: what StiffTimes stands on, part 7. Conditions: those of each.
-/
import Derived.Test.YtabccmobmppdnaaGreatKStiffTimes6
-- halved
namespace Go.Proofs.YtabccmobmppdnaaGreat
open Go Fk Go.RowKit
set_option linter.unusedVariables false
set_option maxRecDepth 8000
theorem ss_all {n : Nat} {ss : List SC} (h : ∀ j, j < ss.length → springB n (ss.getD j s0) = true) : ss.all (springB n) = true := by
 rw [List.all_eq_true]
 intro x hx
 obtain ⟨j, hj, rfl⟩ := List.getElem_of_mem hx
 have := h j hj
 simpa [List.getD, hj] using this
theorem ss_not {n : Nat} {ss : List SC} {k : Nat} (hk : k < ss.length) (h : springB n (ss.getD k s0) = false) : ss.all (springB n) = false := by
 rw [Bool.eq_false_iff]
 intro hh
 have := List.all_eq_true.1 hh (ss[k]) (List.getElem_mem hk)
 have h' : springB n ss[k] = false := by simpa [List.getD, hk] using h
 rw [this] at h'; cases h'
theorem IsB.lens {w : World} {B : Bd} {c : Bc} (h : IsB w B c) : c.cs.length = B.pl ∧ c.ts.length = B.tl ∧ c.ss.length = B.sl ∧ c.zs.length = B.wl := ⟨h.1.1, h.2.1.1, h.2.2.1.1, h.2.2.2.1.1⟩
abbrev BoxB (B : Bd) (t : TypeId) : Obj := .cells #[.slice B.pa B.pl B.pc, .slice B.ta B.tl B.tc, .slice B.sa B.sl B.sc, .float .f32 B.film, .float .f32 B.bend, .slice B.wa B.wl B.wc, .float .f32 B.x, .float .f32 B.y, .float .f32 B.z] t
set_option maxHeartbeats 2000000 in
theorem impl_ValidBody (B : Bd) (c : Bc) (w : World) (h : IsB w B c) :
  Calls Tryz.prog 102 #[B.v] w fun e w' => e = .returned (.bool (bodyB c)) ∧ Below w.heap.size w w' := by
 have ui := Tryz.underlying44
 have um := Tryz.underlying40
 have us := Tryz.underlying166
 have hA0 : At (w.alloc (BoxB B 44)) w.heap.size B.l := At.new
 have hB0 := (Below.refl w.heap.size w).alloc (Nat.le_refl _) (BoxB B 44)
 obtain ⟨lp, lt, ls, lw⟩ := h.lens
 have H0 := Lib.hid (h.below hB0)
 have A0 := Lib.hid hA0
 have B0 := Lib.hid hB0
 have hJ := impl_ValidMesh _ _ _ _ _ _ c.cs c.ts _ H0.out.1 H0.out.2.1
 have LS := Lib.hid ls
 unfold bodyB
 rw [ls, lw, lp]
 clear h hA0 hB0 lp lt lw ls
 cases hv : validB c.cs c.ts
 ·rw [hv] at hJ
  have HJ := Lib.hid hJ
  clear hJ hv
  go_enter Tryz.func102, Tryz.ntmps102
  go_wp2_with fail
  refine HJ.out.mono ?_
  rintro e w1 ⟨rfl, hB1⟩
  have B1 := Lib.hid (B0.out.trans (hB1.mono B0.out.size))
  clear hB1
  go_wp2
  go_ret
  exact ⟨rfl, B1.out⟩
 ·rw [hv] at hJ
  have HJ := Lib.hid hJ
  clear hJ hv
  by_cases h1 : B.sl ≤ 200
  ·have g1 : ¬ (200 : Int) < B.sl := by omega
   rw [decide_eq_true h1]
   by_cases h2 : B.wl = B.pl
   ·have g2 : ((B.wl : Int) == (B.pl : Int)) = true := by simp [h2]
    have g2' : ((B.wl : Int) != (B.pl : Int)) = false := by simp [h2]
    rw [decide_eq_true h2]
    have H2 := Lib.hid h2
    clear h2
    go_enter Tryz.func102, Tryz.ntmps102
    go_wp2_with fail
    refine HJ.out.mono ?_
    rintro e w1 ⟨rfl, hB1⟩
    have A1 := Lib.hid (A0.out.below hB1)
    have B1 := Lib.hid (B0.out.trans (hB1.mono B0.out.size))
    have H1 := Lib.hid (H0.out.below hB1)
    have k1 := A1.out 2 _ rfl
    have k4 := A1.out 5 _ rfl
    clear hB1
    go_wp2
    have hm : B.sl ≤ 9223372036854775807 := by omega
    go_loopw [30] (fun i w' => ∃ k : Nat, k ≤ B.sl ∧ i = .int .i64 k ∧ Aside (∀ j, j < k → springB B.pl (c.ss.getD j s0) = true) ∧ Aside (Below w1.heap.size w1 w')) (fun i _ => B.sl - (intOf i).toNat)
    case atStart => exact ⟨0, Nat.zero_le _, rfl, (fun j hj => absurd hj (by omega)), Below.refl _ _⟩
    case round =>
     obtain ⟨k, hk, rfl, hall, hA⟩ := hrel
     have HB := Lib.hid hA.out
     clear hA
     by_cases hlt : k < B.sl
     ·obtain ⟨b, o, hsa, hcell⟩ := (H1.out.below HB.out).2.2.1.some (by omega)
      obtain ⟨p, q, c0, c1, c2, c3, fp, fq⟩ := hcell k hlt
      have hJ := fun w => impl_isBetween (c.ss.getD k s0).1 (c.ss.getD k s0).2.1 p q B.pl (c.ss.getD k s0).2.2.1 (c.ss.getD k s0).2.2.2 w fp
      have hsp : springB B.pl ((c.ss.getD k s0).1, (c.ss.getD k s0).2.1, (c.ss.getD k s0).2.2.1, (c.ss.getD k s0).2.2.2) = springB B.pl (c.ss.getD k s0) := rfl
      rw [hsp] at hJ
      have hk0 : (0 : Int) ≤ (k : Int) := by omega
      have hk1 : (k : Int) < (B.sl : Int) := by omega
      obtain ⟨ua, hua⟩ : ∃ ua, ua = (c.ss.getD k s0).1 := ⟨_, rfl⟩
      obtain ⟨ub, hub⟩ : ∃ ub, ub = (c.ss.getD k s0).2.1 := ⟨_, rfl⟩
      rw [← hua] at c0 hJ
      rw [← hub] at c1 hJ
      rw [hsa]
      clear hcell hsp hua hub hsa fp fq
      cases hb : springB B.pl (c.ss.getD k s0)
      ·have hres : Aside ((true && true && true && c.ss.all (springB B.pl)) = false) := by show (true && true && true && c.ss.all (springB B.pl)) = false; rw [ss_not (by rw [LS.out]; exact hlt) hb]; rfl
       rw [hb] at hJ
       have HJ2 := Lib.hid hJ
       clear hJ hall hb
       go_wp2_with fail
       refine (HJ2.out _).mono ?_
       rintro e w2 ⟨rfl, hB2⟩
       have B2 := Lib.hid (B1.out.trans (((below_new HB.out (Nat.le_refl _)).trans (hB2.mono (below_new HB.out (Nat.le_refl _)).size)).mono B1.out.size))
       clear hB2
       go_wp2
       go_ret
       exact ⟨ret_bool hres.out.symm, B2.out⟩
      ·have hall' : Aside (∀ j, j < k + 1 → springB B.pl (c.ss.getD j s0) = true) := by
        intro j hj
        by_cases hjk : j = k
        ·subst hjk; exact hb
        ·exact hall.out j (by omega)
       rw [hb] at hJ
       have HJ2 := Lib.hid hJ
       clear hJ hall hb
       go_wp2_with fail
       refine (HJ2.out _).mono ?_
       rintro e w2 ⟨rfl, hB2⟩
       have B2 := Lib.hid ((below_new HB.out (Nat.le_refl _)).trans (hB2.mono (below_new HB.out (Nat.le_refl _)).size))
       clear hB2
       go_wp2
       go_roundw
       case rel => exact ⟨k + 1, by omega, by go_num, hall', B2.out⟩
       case measure => simp [intOf]; omega
     ·have hkl : k = B.sl := by omega
      have hres : Aside ((true && true && true && c.ss.all (springB B.pl)) = true) := by show (true && true && true && c.ss.all (springB B.pl)) = true; rw [ss_all (by rw [LS.out, ← hkl]; exact hall.out)]; rfl
      have g3 : ¬ (k : Int) < (B.sl : Int) := by omega
      clear hall hkl
      go_wp2
      go_ret
      exact ⟨ret_bool hres.out.symm, B1.out.trans (HB.out.mono B1.out.size)⟩
   ·have g2 : ((B.wl : Int) == (B.pl : Int)) = false := beq_eq_false_iff_ne.2 (by omega)
    have g2' : ((B.wl : Int) != (B.pl : Int)) = true := by simp; omega
    rw [decide_eq_false h2]
    clear h2
    go_enter Tryz.func102, Tryz.ntmps102
    go_wp2_with fail
    refine HJ.out.mono ?_
    rintro e w1 ⟨rfl, hB1⟩
    have A1 := Lib.hid (A0.out.below hB1)
    have B1 := Lib.hid (B0.out.trans (hB1.mono B0.out.size))
    have k1 := A1.out 2 _ rfl
    have k4 := A1.out 5 _ rfl
    clear hB1
    go_wp2
    go_ret
    exact ⟨rfl, B1.out⟩
  ·have g1 : (200 : Int) < B.sl := by omega
   rw [decide_eq_false h1]
   go_enter Tryz.func102, Tryz.ntmps102
   go_wp2_with fail
   refine HJ.out.mono ?_
   rintro e w1 ⟨rfl, hB1⟩
   have A1 := Lib.hid (A0.out.below hB1)
   have B1 := Lib.hid (B0.out.trans (hB1.mono B0.out.size))
   have k1 := A1.out 2 _ rfl
   have k4 := A1.out 5 _ rfl
   clear hB1
   go_wp2
   go_ret
   exact ⟨rfl, B1.out⟩
end Go.Proofs.YtabccmobmppdnaaGreat
namespace Go.Proofs.YtabccmobmppdnaaGreat
open Go Fk Go.RowKit
set_option linter.unusedVariables false
set_option maxRecDepth 16000
end Go.Proofs.YtabccmobmppdnaaGreat
namespace Go.Proofs.YtabccmobmppdnaaGreat
open Go Fk Go.RowKit
set_option linter.unusedVariables false
set_option maxRecDepth 8000
set_option maxHeartbeats 4000000 in
theorem mesh_normal (pa ta : Option Addr) (pl pc tl tc : Nat) (cs : List C3) (t : List Int) (w : World) (hp : IsVs w pa pl pc cs) (htri : triB pl t = true) :
  Calls Tryz.prog 256 #[.agg #[.slice pa pl pc, .slice ta tl tc], .agg #[.int .i64 (t.getD 0 0), .int .i64 (t.getD 1 0), .int .i64 (t.getD 2 0)]] w fun e w' => ∃ x y z, e = .returned (vv x y z) ∧ FV .f32 x (normalC cs t).1 ∧ FV .f32 y (normalC cs t).2.1 ∧ FV .f32 z (normalC cs t).2.2 ∧ Below w.heap.size w w' := by
 have uv := Tryz.underlying42
 have ui := Tryz.underlying40
 have uc := Tryz.underlying190
 obtain ⟨h3, hin⟩ := tri_parts htri
 obtain ⟨bp, op, rfl, hcor⟩ := corner_cell hp htri
 obtain ⟨p0, q0, s0, d00, d01, d02, f00, f01, f02⟩ := hcor 0 (by decide)
 obtain ⟨p1, q1', s1, d10, d11, d12, f10, f11, f12⟩ := hcor 1 (by decide)
 obtain ⟨p2, q2', s2, d20, d21, d22, f20, f21, f22⟩ := hcor 2 (by decide)
 have i0 := hin 0 (by decide)
 have i1 := hin 1 (by decide)
 have i2 := hin 2 (by decide)
 unfold normalC crossC lessC
 generalize cornerC cs t 0 = C0 at *
 generalize cornerC cs t 1 = C1 at *
 generalize cornerC cs t 2 = C2 at *
 generalize t.getD 0 0 = j0 at *
 generalize t.getD 1 0 = j1 at *
 generalize t.getD 2 0 = j2 at *
 obtain ⟨i0, i0'⟩ := i0
 obtain ⟨i1, i1'⟩ := i1
 obtain ⟨i2, i2'⟩ := i2
 have m0 : j0 < (pl : Int) := by omega
 have m1 : j1 < (pl : Int) := by omega
 have m2 : j2 < (pl : Int) := by omega
 have lbp : bp < w.heap.size := World.block_lt_of_cell? w _ d00
 have lbp1 : bp < w.heap.size + 1 := by omega
 have lbp2 : bp < w.heap.size + 1 + 1 := by omega
 have lbp3 : bp < w.heap.size + 1 + 1 + 1 := by omega
 clear hcor hin htri hp h3
 go_enter Tryz.func256, Tryz.ntmps256
 go_wp2_with fail
 have hB0 : Below w.heap.size w ((((w.alloc (.cells #[.slice (some ⟨bp, op, none⟩) pl pc, .slice ta tl tc] 40)).alloc (.cells #[.int .i64 j0, .int .i64 j1, .int .i64 j2] 190)).alloc (.cells #[.float .f32 0, .float .f32 0, .float .f32 0] 42)).alloc (.cells #[.float .f32 p0, .float .f32 q0, .float .f32 s0] 42)) := ((((Below.refl _ _).alloc (Nat.le_refl _) _).alloc (by simp) _).alloc (by simp <;> omega) _).alloc (by simp <;> omega) _
 have kk0 : ((((w.alloc (.cells #[.slice (some ⟨bp, op, none⟩) pl pc, .slice ta tl tc] 40)).alloc (.cells #[.int .i64 j0, .int .i64 j1, .int .i64 j2] 190)).alloc (.cells #[.float .f32 0, .float .f32 0, .float .f32 0] 42)).alloc (.cells #[.float .f32 p0, .float .f32 q0, .float .f32 s0] 42)).cell? ⟨w.heap.size, 0, none⟩ = some (.slice (some ⟨bp, op, none⟩) pl pc) := by go_simp
 have kk1 : ((((w.alloc (.cells #[.slice (some ⟨bp, op, none⟩) pl pc, .slice ta tl tc] 40)).alloc (.cells #[.int .i64 j0, .int .i64 j1, .int .i64 j2] 190)).alloc (.cells #[.float .f32 0, .float .f32 0, .float .f32 0] 42)).alloc (.cells #[.float .f32 p0, .float .f32 q0, .float .f32 s0] 42)).cell? ⟨w.heap.size + 1, 1, none⟩ = some (.int .i64 j1) := by go_simp
 have kk2 : ((((w.alloc (.cells #[.slice (some ⟨bp, op, none⟩) pl pc, .slice ta tl tc] 40)).alloc (.cells #[.int .i64 j0, .int .i64 j1, .int .i64 j2] 190)).alloc (.cells #[.float .f32 0, .float .f32 0, .float .f32 0] 42)).alloc (.cells #[.float .f32 p0, .float .f32 q0, .float .f32 s0] 42)).cell? ⟨w.heap.size + 1, 2, none⟩ = some (.int .i64 j2) := by go_simp
 have kv0 : ((((w.alloc (.cells #[.slice (some ⟨bp, op, none⟩) pl pc, .slice ta tl tc] 40)).alloc (.cells #[.int .i64 j0, .int .i64 j1, .int .i64 j2] 190)).alloc (.cells #[.float .f32 0, .float .f32 0, .float .f32 0] 42)).alloc (.cells #[.float .f32 p0, .float .f32 q0, .float .f32 s0] 42)).cell? ⟨w.heap.size + 1 + 1 + 1, 0, none⟩ = some (.float .f32 p0) := by go_simp
 have kv1 : ((((w.alloc (.cells #[.slice (some ⟨bp, op, none⟩) pl pc, .slice ta tl tc] 40)).alloc (.cells #[.int .i64 j0, .int .i64 j1, .int .i64 j2] 190)).alloc (.cells #[.float .f32 0, .float .f32 0, .float .f32 0] 42)).alloc (.cells #[.float .f32 p0, .float .f32 q0, .float .f32 s0] 42)).cell? ⟨w.heap.size + 1 + 1 + 1, 1, none⟩ = some (.float .f32 q0) := by go_simp
 have kv2 : ((((w.alloc (.cells #[.slice (some ⟨bp, op, none⟩) pl pc, .slice ta tl tc] 40)).alloc (.cells #[.int .i64 j0, .int .i64 j1, .int .i64 j2] 190)).alloc (.cells #[.float .f32 0, .float .f32 0, .float .f32 0] 42)).alloc (.cells #[.float .f32 p0, .float .f32 q0, .float .f32 s0] 42)).cell? ⟨w.heap.size + 1 + 1 + 1, 2, none⟩ = some (.float .f32 s0) := by go_simp
 have kr0 : ((((w.alloc (.cells #[.slice (some ⟨bp, op, none⟩) pl pc, .slice ta tl tc] 40)).alloc (.cells #[.int .i64 j0, .int .i64 j1, .int .i64 j2] 190)).alloc (.cells #[.float .f32 0, .float .f32 0, .float .f32 0] 42)).alloc (.cells #[.float .f32 p0, .float .f32 q0, .float .f32 s0] 42)).cell? ⟨w.heap.size + 1 + 1, 0, none⟩ = some (.float .f32 0) := by go_simp
 have kr1 : ((((w.alloc (.cells #[.slice (some ⟨bp, op, none⟩) pl pc, .slice ta tl tc] 40)).alloc (.cells #[.int .i64 j0, .int .i64 j1, .int .i64 j2] 190)).alloc (.cells #[.float .f32 0, .float .f32 0, .float .f32 0] 42)).alloc (.cells #[.float .f32 p0, .float .f32 q0, .float .f32 s0] 42)).cell? ⟨w.heap.size + 1 + 1, 1, none⟩ = some (.float .f32 0) := by go_simp
 have kr2 : ((((w.alloc (.cells #[.slice (some ⟨bp, op, none⟩) pl pc, .slice ta tl tc] 40)).alloc (.cells #[.int .i64 j0, .int .i64 j1, .int .i64 j2] 190)).alloc (.cells #[.float .f32 0, .float .f32 0, .float .f32 0] 42)).alloc (.cells #[.float .f32 p0, .float .f32 q0, .float .f32 s0] 42)).cell? ⟨w.heap.size + 1 + 1, 2, none⟩ = some (.float .f32 0) := by go_simp
 have kf0 : ((((w.alloc (.cells #[.slice (some ⟨bp, op, none⟩) pl pc, .slice ta tl tc] 40)).alloc (.cells #[.int .i64 j0, .int .i64 j1, .int .i64 j2] 190)).alloc (.cells #[.float .f32 0, .float .f32 0, .float .f32 0] 42)).alloc (.cells #[.float .f32 p0, .float .f32 q0, .float .f32 s0] 42)).frozen? ⟨w.heap.size + 1 + 1, 0, none⟩ = false := by go_simp
 have kf1 : ((((w.alloc (.cells #[.slice (some ⟨bp, op, none⟩) pl pc, .slice ta tl tc] 40)).alloc (.cells #[.int .i64 j0, .int .i64 j1, .int .i64 j2] 190)).alloc (.cells #[.float .f32 0, .float .f32 0, .float .f32 0] 42)).alloc (.cells #[.float .f32 p0, .float .f32 q0, .float .f32 s0] 42)).frozen? ⟨w.heap.size + 1 + 1, 1, none⟩ = false := by go_simp
 have kf2 : ((((w.alloc (.cells #[.slice (some ⟨bp, op, none⟩) pl pc, .slice ta tl tc] 40)).alloc (.cells #[.int .i64 j0, .int .i64 j1, .int .i64 j2] 190)).alloc (.cells #[.float .f32 0, .float .f32 0, .float .f32 0] 42)).alloc (.cells #[.float .f32 p0, .float .f32 q0, .float .f32 s0] 42)).frozen? ⟨w.heap.size + 1 + 1, 2, none⟩ = false := by go_simp
 have hd10 := cell_below hB0 d10
 have hd11 := cell_below hB0 d11
 have hd12 := cell_below hB0 d12
 have hd20 := cell_below hB0 d20
 have hd21 := cell_below hB0 d21
 have hd22 := cell_below hB0 d22
 have nA : w.heap.size + 1 + 1 ≠ w.heap.size := by omega
 have nB : w.heap.size + 1 + 1 ≠ w.heap.size + 1 := by omega
 have nC : w.heap.size + 1 + 1 ≠ w.heap.size + 1 + 1 + 1 := by omega
 have nD : w.heap.size + 1 + 1 ≠ bp := by omega
 clear d00 d01 d02 d10 d11 d12 d20 d21 d22
 generalize ((((w.alloc (.cells #[.slice (some ⟨bp, op, none⟩) pl pc, .slice ta tl tc] 40)).alloc (.cells #[.int .i64 j0, .int .i64 j1, .int .i64 j2] 190)).alloc (.cells #[.float .f32 0, .float .f32 0, .float .f32 0] 42)).alloc (.cells #[.float .f32 p0, .float .f32 q0, .float .f32 s0] 42)) = V at *
 refine Reg.wp_region_mix (C := fun w' => (w'.cell? ⟨w.heap.size, 0, none⟩ = some (.slice (some ⟨bp, op, none⟩) pl pc) ∧ w'.cell? ⟨w.heap.size + 1, 1, none⟩ = some (.int .i64 j1) ∧ w'.cell? ⟨w.heap.size + 1, 2, none⟩ = some (.int .i64 j2) ∧ w'.cell? ⟨bp, op + j1.toNat * 3, none⟩ = some (.float .f32 p1) ∧ w'.cell? ⟨bp, op + j1.toNat * 3 + 1, none⟩ = some (.float .f32 q1') ∧ w'.cell? ⟨bp, op + j1.toNat * 3 + 2, none⟩ = some (.float .f32 s1) ∧ w'.cell? ⟨bp, op + j2.toNat * 3, none⟩ = some (.float .f32 p2) ∧ w'.cell? ⟨bp, op + j2.toNat * 3 + 1, none⟩ = some (.float .f32 q2') ∧ w'.cell? ⟨bp, op + j2.toNat * 3 + 2, none⟩ = some (.float .f32 s2) ∧ w'.cell? ⟨w.heap.size + 1 + 1 + 1, 0, none⟩ = some (.float .f32 p0) ∧ w'.cell? ⟨w.heap.size + 1 + 1 + 1, 1, none⟩ = some (.float .f32 q0) ∧ w'.cell? ⟨w.heap.size + 1 + 1 + 1, 2, none⟩ = some (.float .f32 s0)) ∧ (∃ u0 u1 u2, w'.cell? ⟨w.heap.size + 1 + 1, 0, none⟩ = some u0 ∧ w'.cell? ⟨w.heap.size + 1 + 1, 1, none⟩ = some u1 ∧ w'.cell? ⟨w.heap.size + 1 + 1, 2, none⟩ = some u2) ∧ (w'.frozen? ⟨w.heap.size + 1 + 1, 0, none⟩ = false ∧ w'.frozen? ⟨w.heap.size + 1 + 1, 1, none⟩ = false ∧ w'.frozen? ⟨w.heap.size + 1 + 1, 2, none⟩ = false) ∧ Below w.heap.size w w') (G := fun _ _ => True) (R := fun i v _ => match i with | 0 => v = .pointer (some ⟨w.heap.size, 0, none⟩) | 1 => v = .slice (some ⟨bp, op, none⟩) pl pc | 2 => v = .pointer (some ⟨w.heap.size + 1, 1, none⟩) | 3 => v = .int .i64 j1 | 4 => v = .pointer (some ⟨bp, op + j1.toNat * 3, none⟩) | 5 => v = vv p1 q1' s1 | 6 => v = vv p0 q0 s0 | 7 => ∃ a b g, v = vv a b g ∧ FV .f32 a (fop .sub .f32 C1.1 C0.1) ∧ FV .f32 b (fop .sub .f32 C1.2.1 C0.2.1) ∧ FV .f32 g (fop .sub .f32 C1.2.2 C0.2.2) | 8 => v = .pointer (some ⟨w.heap.size, 0, none⟩) | 9 => v = .slice (some ⟨bp, op, none⟩) pl pc | 10 => v = .pointer (some ⟨w.heap.size + 1, 2, none⟩) | 11 => v = .int .i64 j2 | 12 => v = .pointer (some ⟨bp, op + j2.toNat * 3, none⟩) | 13 => v = vv p2 q2' s2 | 14 => v = vv p0 q0 s0 | 15 => ∃ a b g, v = vv a b g ∧ FV .f32 a (fop .sub .f32 C2.1 C0.1) ∧ FV .f32 b (fop .sub .f32 C2.2.1 C0.2.1) ∧ FV .f32 g (fop .sub .f32 C2.2.2 C0.2.2) | 16 => ∃ a b g, v = vv a b g ∧ FV .f32 a (fop .sub .f32 (fop .mul .f32 (fop .sub .f32 C1.2.1 C0.2.1) (fop .sub .f32 C2.2.2 C0.2.2)) (fop .mul .f32 (fop .sub .f32 C1.2.2 C0.2.2) (fop .sub .f32 C2.2.1 C0.2.1))) ∧ FV .f32 b (fop .sub .f32 (fop .mul .f32 (fop .sub .f32 C1.2.2 C0.2.2) (fop .sub .f32 C2.1 C0.1)) (fop .mul .f32 (fop .sub .f32 C1.1 C0.1) (fop .sub .f32 C2.2.2 C0.2.2))) ∧ FV .f32 g (fop .sub .f32 (fop .mul .f32 (fop .sub .f32 C1.1 C0.1) (fop .sub .f32 C2.2.1 C0.2.1)) (fop .mul .f32 (fop .sub .f32 C1.2.1 C0.2.1) (fop .sub .f32 C2.1 C0.1))) | _ => True) (T := fun _ a w' => ∃ a b g, w'.cell? ⟨w.heap.size + 1 + 1, 0, none⟩ = some (.float .f32 a) ∧ w'.cell? ⟨w.heap.size + 1 + 1, 1, none⟩ = some (.float .f32 b) ∧ w'.cell? ⟨w.heap.size + 1 + 1, 2, none⟩ = some (.float .f32 g) ∧ FV .f32 a (fop .sub .f32 (fop .mul .f32 (fop .sub .f32 C1.2.1 C0.2.1) (fop .sub .f32 C2.2.2 C0.2.2)) (fop .mul .f32 (fop .sub .f32 C1.2.2 C0.2.2) (fop .sub .f32 C2.2.1 C0.2.1))) ∧ FV .f32 b (fop .sub .f32 (fop .mul .f32 (fop .sub .f32 C1.2.2 C0.2.2) (fop .sub .f32 C2.1 C0.1)) (fop .mul .f32 (fop .sub .f32 C1.1 C0.1) (fop .sub .f32 C2.2.2 C0.2.2))) ∧ FV .f32 g (fop .sub .f32 (fop .mul .f32 (fop .sub .f32 C1.1 C0.1) (fop .sub .f32 C2.2.1 C0.2.1)) (fop .mul .f32 (fop .sub .f32 C1.2.1 C0.2.1) (fop .sub .f32 C2.1 C0.1)))) [false, false, false, false, false, false, false, false, false, false, false, false, true, true, true, true, true, true, true, true, true, true, true, true, true, true, true, true, true]
  (by kernel_rfl) (by kernel_rfl) (by kernel_rfl) (fun _ _ _ _ _ _ h => h) ⟨⟨kk0, kk1, kk2, hd10, hd11, hd12, hd20, hd21, hd22, kv0, kv1, kv2⟩, ⟨_, _, _, kr0, kr1, kr2⟩, ⟨kf0, kf1, kf2⟩, below_drewN hB0 1⟩ ?_ ?_
 ·refine ⟨Reg.Obl.mk ?_, Reg.Obl.mk ?_, Reg.Obl.mk ?_, Reg.Obl.mk ?_, Reg.Obl.mk ?_, Reg.Obl.mk ?_, Reg.Obl.mk ?_, Reg.Obl.mk ?_, Reg.Obl.mk ?_, Reg.Obl.mk ?_, Reg.Obl.mk ?_, Reg.Obl.mk ?_, Reg.Obl.mk ?_, Reg.Obl.mk ?_, Reg.Obl.mk ?_, Reg.Obl.mk ?_, Reg.Obl.mk ?_, Reg.Obl.mk ?_, trivial⟩
  ·rintro a w1 ⟨⟨y0, y1, y2, y3, y4, y5, y6, y7, y8, y9, y10, y11⟩, hrb, hfz, hB⟩ hx hd K hK
   have t2 : a.tmps[2]?.getD undef = .pointer (some ⟨w.heap.size, 0, none⟩) := Reg.slot_val (hx 2 (by kernel_rfl))
   go_simp
   exact hK _ _ (fun _ => rfl) (fun h => by cases h) ⟨⟨y0, y1, y2, y3, y4, y5, y6, y7, y8, y9, y10, y11⟩, hrb, hfz, hB⟩ trivial
  ·rintro a w1 ⟨⟨y0, y1, y2, y3, y4, y5, y6, y7, y8, y9, y10, y11⟩, hrb, hfz, hB⟩ hx hd K hK
   have t12 : a.tmps[12]?.getD undef = .pointer (some ⟨w.heap.size, 0, none⟩) := Reg.slot_val (hd 0 (by kernel_rfl) 12 rfl)
   go_simp
   exact hK _ _ (fun _ => rfl) (fun h => by cases h) ⟨⟨y0, y1, y2, y3, y4, y5, y6, y7, y8, y9, y10, y11⟩, hrb, hfz, hB⟩ trivial
  ·rintro a w1 ⟨⟨y0, y1, y2, y3, y4, y5, y6, y7, y8, y9, y10, y11⟩, hrb, hfz, hB⟩ hx hd K hK
   have t3 : a.tmps[3]?.getD undef = .pointer (some ⟨w.heap.size + 1, 0, none⟩) := Reg.slot_val (hx 3 (by kernel_rfl))
   go_simp
   exact hK _ _ (fun _ => rfl) (fun h => by cases h) ⟨⟨y0, y1, y2, y3, y4, y5, y6, y7, y8, y9, y10, y11⟩, hrb, hfz, hB⟩ trivial
  ·rintro a w1 ⟨⟨y0, y1, y2, y3, y4, y5, y6, y7, y8, y9, y10, y11⟩, hrb, hfz, hB⟩ hx hd K hK
   have t14 : a.tmps[14]?.getD undef = .pointer (some ⟨w.heap.size + 1, 1, none⟩) := Reg.slot_val (hd 2 (by kernel_rfl) 14 rfl)
   go_simp
   exact hK _ _ (fun _ => rfl) (fun h => by cases h) ⟨⟨y0, y1, y2, y3, y4, y5, y6, y7, y8, y9, y10, y11⟩, hrb, hfz, hB⟩ trivial
  ·rintro a w1 ⟨⟨y0, y1, y2, y3, y4, y5, y6, y7, y8, y9, y10, y11⟩, hrb, hfz, hB⟩ hx hd K hK
   have t13 : a.tmps[13]?.getD undef = .slice (some ⟨bp, op, none⟩) pl pc := Reg.slot_val (hd 1 (by kernel_rfl) 13 rfl)
   have t15 : a.tmps[15]?.getD undef = .int .i64 j1 := Reg.slot_val (hd 3 (by kernel_rfl) 15 rfl)
   go_simp
   exact hK _ _ (fun _ => rfl) (fun h => by cases h) ⟨⟨y0, y1, y2, y3, y4, y5, y6, y7, y8, y9, y10, y11⟩, hrb, hfz, hB⟩ trivial
  ·rintro a w1 ⟨⟨y0, y1, y2, y3, y4, y5, y6, y7, y8, y9, y10, y11⟩, hrb, hfz, hB⟩ hx hd K hK
   have t16 : a.tmps[16]?.getD undef = .pointer (some ⟨bp, op + j1.toNat * 3, none⟩) := Reg.slot_val (hd 4 (by kernel_rfl) 16 rfl)
   go_simp
   exact hK _ _ (fun _ => rfl) (fun h => by cases h) ⟨⟨y0, y1, y2, y3, y4, y5, y6, y7, y8, y9, y10, y11⟩, hrb, hfz, hB⟩ trivial
  ·rintro a w1 ⟨⟨y0, y1, y2, y3, y4, y5, y6, y7, y8, y9, y10, y11⟩, hrb, hfz, hB⟩ hx hd K hK
   have t5 : a.tmps[5]?.getD undef = .pointer (some ⟨w.heap.size + 1 + 1 + 1, 0, none⟩) := Reg.slot_val (hx 5 (by kernel_rfl))
   go_simp
   exact hK _ _ (fun _ => rfl) (fun h => by cases h) ⟨⟨y0, y1, y2, y3, y4, y5, y6, y7, y8, y9, y10, y11⟩, hrb, hfz, hB⟩ trivial
  ·rintro a w1 ⟨⟨y0, y1, y2, y3, y4, y5, y6, y7, y8, y9, y10, y11⟩, hrb, hfz, hB⟩ hx hd K hK
   have t17 : a.tmps[17]?.getD undef = vv p1 q1' s1 := Reg.slot_val (hd 5 (by kernel_rfl) 17 rfl)
   have t18 : a.tmps[18]?.getD undef = vv p0 q0 s0 := Reg.slot_val (hd 6 (by kernel_rfl) 18 rfl)
   have hrb' := Lib.hid hrb
   clear hrb
   go_simp
   refine (impl_LessVectors _ _ _ _ _ _ _ _ _ _ _ _ _ f10 f11 f12 f00 f01 f02).mono ?_
   rintro en w2 ⟨ra, rb, rc, rfl, ha, hb, hc, hB2⟩
   obtain ⟨u0, u1, u2, x0, x1, x2⟩ := hrb'.out
   have lt := World.block_lt_of_cell? w1 _ x0
   exact hK _ _ (fun _ => ⟨ra, rb, rc, rfl, ha, hb, hc⟩) (fun h => by cases h) ⟨⟨cell_below hB2 y0, cell_below hB2 y1, cell_below hB2 y2, cell_below hB2 y3, cell_below hB2 y4, cell_below hB2 y5, cell_below hB2 y6, cell_below hB2 y7, cell_below hB2 y8, cell_below hB2 y9, cell_below hB2 y10, cell_below hB2 y11⟩, ⟨u0, u1, u2, cell_below hB2 x0, cell_below hB2 x1, cell_below hB2 x2⟩, ⟨frozen_below hB2 lt hfz.1, frozen_below hB2 lt hfz.2.1, frozen_below hB2 lt hfz.2.2⟩, hB.trans (hB2.mono hB.size)⟩ trivial
  ·rintro a w1 ⟨⟨y0, y1, y2, y3, y4, y5, y6, y7, y8, y9, y10, y11⟩, hrb, hfz, hB⟩ hx hd K hK
   have t2 : a.tmps[2]?.getD undef = .pointer (some ⟨w.heap.size, 0, none⟩) := Reg.slot_val (hx 2 (by kernel_rfl))
   go_simp
   exact hK _ _ (fun _ => rfl) (fun h => by cases h) ⟨⟨y0, y1, y2, y3, y4, y5, y6, y7, y8, y9, y10, y11⟩, hrb, hfz, hB⟩ trivial
  ·rintro a w1 ⟨⟨y0, y1, y2, y3, y4, y5, y6, y7, y8, y9, y10, y11⟩, hrb, hfz, hB⟩ hx hd K hK
   have t20 : a.tmps[20]?.getD undef = .pointer (some ⟨w.heap.size, 0, none⟩) := Reg.slot_val (hd 8 (by kernel_rfl) 20 rfl)
   go_simp
   exact hK _ _ (fun _ => rfl) (fun h => by cases h) ⟨⟨y0, y1, y2, y3, y4, y5, y6, y7, y8, y9, y10, y11⟩, hrb, hfz, hB⟩ trivial
  ·rintro a w1 ⟨⟨y0, y1, y2, y3, y4, y5, y6, y7, y8, y9, y10, y11⟩, hrb, hfz, hB⟩ hx hd K hK
   have t3 : a.tmps[3]?.getD undef = .pointer (some ⟨w.heap.size + 1, 0, none⟩) := Reg.slot_val (hx 3 (by kernel_rfl))
   go_simp
   exact hK _ _ (fun _ => rfl) (fun h => by cases h) ⟨⟨y0, y1, y2, y3, y4, y5, y6, y7, y8, y9, y10, y11⟩, hrb, hfz, hB⟩ trivial
  ·rintro a w1 ⟨⟨y0, y1, y2, y3, y4, y5, y6, y7, y8, y9, y10, y11⟩, hrb, hfz, hB⟩ hx hd K hK
   have t22 : a.tmps[22]?.getD undef = .pointer (some ⟨w.heap.size + 1, 2, none⟩) := Reg.slot_val (hd 10 (by kernel_rfl) 22 rfl)
   go_simp
   exact hK _ _ (fun _ => rfl) (fun h => by cases h) ⟨⟨y0, y1, y2, y3, y4, y5, y6, y7, y8, y9, y10, y11⟩, hrb, hfz, hB⟩ trivial
  ·rintro a w1 ⟨⟨y0, y1, y2, y3, y4, y5, y6, y7, y8, y9, y10, y11⟩, hrb, hfz, hB⟩ hx hd K hK
   have t21 : a.tmps[21]?.getD undef = .slice (some ⟨bp, op, none⟩) pl pc := Reg.slot_val (hd 9 (by kernel_rfl) 21 rfl)
   have t23 : a.tmps[23]?.getD undef = .int .i64 j2 := Reg.slot_val (hd 11 (by kernel_rfl) 23 rfl)
   go_simp
   exact hK _ _ (fun _ => rfl) (fun h => by cases h) ⟨⟨y0, y1, y2, y3, y4, y5, y6, y7, y8, y9, y10, y11⟩, hrb, hfz, hB⟩ trivial
  ·rintro a w1 ⟨⟨y0, y1, y2, y3, y4, y5, y6, y7, y8, y9, y10, y11⟩, hrb, hfz, hB⟩ hx hd K hK
   have t24 : a.tmps[24]?.getD undef = .pointer (some ⟨bp, op + j2.toNat * 3, none⟩) := Reg.slot_val (hd 12 (by kernel_rfl) 24 rfl)
   go_simp
   exact hK _ _ (fun _ => rfl) (fun h => by cases h) ⟨⟨y0, y1, y2, y3, y4, y5, y6, y7, y8, y9, y10, y11⟩, hrb, hfz, hB⟩ trivial
  ·rintro a w1 ⟨⟨y0, y1, y2, y3, y4, y5, y6, y7, y8, y9, y10, y11⟩, hrb, hfz, hB⟩ hx hd K hK
   have t5 : a.tmps[5]?.getD undef = .pointer (some ⟨w.heap.size + 1 + 1 + 1, 0, none⟩) := Reg.slot_val (hx 5 (by kernel_rfl))
   go_simp
   exact hK _ _ (fun _ => rfl) (fun h => by cases h) ⟨⟨y0, y1, y2, y3, y4, y5, y6, y7, y8, y9, y10, y11⟩, hrb, hfz, hB⟩ trivial
  ·rintro a w1 ⟨⟨y0, y1, y2, y3, y4, y5, y6, y7, y8, y9, y10, y11⟩, hrb, hfz, hB⟩ hx hd K hK
   have t25 : a.tmps[25]?.getD undef = vv p2 q2' s2 := Reg.slot_val (hd 13 (by kernel_rfl) 25 rfl)
   have t26 : a.tmps[26]?.getD undef = vv p0 q0 s0 := Reg.slot_val (hd 14 (by kernel_rfl) 26 rfl)
   have hrb' := Lib.hid hrb
   clear hrb
   go_simp
   refine (impl_LessVectors _ _ _ _ _ _ _ _ _ _ _ _ _ f20 f21 f22 f00 f01 f02).mono ?_
   rintro en w2 ⟨ra, rb, rc, rfl, ha, hb, hc, hB2⟩
   obtain ⟨u0, u1, u2, x0, x1, x2⟩ := hrb'.out
   have lt := World.block_lt_of_cell? w1 _ x0
   exact hK _ _ (fun _ => ⟨ra, rb, rc, rfl, ha, hb, hc⟩) (fun h => by cases h) ⟨⟨cell_below hB2 y0, cell_below hB2 y1, cell_below hB2 y2, cell_below hB2 y3, cell_below hB2 y4, cell_below hB2 y5, cell_below hB2 y6, cell_below hB2 y7, cell_below hB2 y8, cell_below hB2 y9, cell_below hB2 y10, cell_below hB2 y11⟩, ⟨u0, u1, u2, cell_below hB2 x0, cell_below hB2 x1, cell_below hB2 x2⟩, ⟨frozen_below hB2 lt hfz.1, frozen_below hB2 lt hfz.2.1, frozen_below hB2 lt hfz.2.2⟩, hB.trans (hB2.mono hB.size)⟩ trivial
  ·rintro a w1 ⟨⟨y0, y1, y2, y3, y4, y5, y6, y7, y8, y9, y10, y11⟩, hrb, hfz, hB⟩ hx hd K hK
   obtain ⟨r19, p19', q19', gg19, fa19, fb19, fc19⟩ := hd 7 (by kernel_rfl) 19 rfl
   have t19 := Reg.slot_val gg19
   clear gg19
   obtain ⟨r27, p27', q27', gg27, fa27, fb27, fc27⟩ := hd 15 (by kernel_rfl) 27 rfl
   have t27 := Reg.slot_val gg27
   clear gg27
   have hrb' := Lib.hid hrb
   clear hrb
   go_simp
   refine (impl_CrossOf _ _ _ _ _ _ _ _ _ _ _ _ _ fa19 fb19 fc19 fa27 fb27 fc27).mono ?_
   rintro en w2 ⟨ra, rb, rc, rfl, ha, hb, hc, hB2⟩
   obtain ⟨u0, u1, u2, x0, x1, x2⟩ := hrb'.out
   have lt := World.block_lt_of_cell? w1 _ x0
   exact hK _ _ (fun _ => ⟨ra, rb, rc, rfl, ha, hb, hc⟩) (fun h => by cases h) ⟨⟨cell_below hB2 y0, cell_below hB2 y1, cell_below hB2 y2, cell_below hB2 y3, cell_below hB2 y4, cell_below hB2 y5, cell_below hB2 y6, cell_below hB2 y7, cell_below hB2 y8, cell_below hB2 y9, cell_below hB2 y10, cell_below hB2 y11⟩, ⟨u0, u1, u2, cell_below hB2 x0, cell_below hB2 x1, cell_below hB2 x2⟩, ⟨frozen_below hB2 lt hfz.1, frozen_below hB2 lt hfz.2.1, frozen_below hB2 lt hfz.2.2⟩, hB.trans (hB2.mono hB.size)⟩ trivial
  ·rintro a w1 ⟨⟨y0, y1, y2, y3, y4, y5, y6, y7, y8, y9, y10, y11⟩, hrb, hfz, hB⟩ hx hd K hK
   have t4 : a.tmps[4]?.getD undef = .pointer (some ⟨w.heap.size + 1 + 1, 0, none⟩) := Reg.slot_val (hx 4 (by kernel_rfl))
   obtain ⟨r28, p28', q28', gg28, fa28, fb28, fc28⟩ := hd 16 (by kernel_rfl) 28 rfl
   have t28 := Reg.slot_val gg28
   clear gg28
   obtain ⟨u0, u1, u2, x0, x1, x2⟩ := hrb
   obtain ⟨k0, k1, k2⟩ := hfz
   go_simp
   have s3 := set3 (u := .float .f32 r28) (v := .float .f32 p28') (t := .float .f32 q28') x0 x1 x2
   refine hK undef _ (fun h => absurd rfl h) (fun _ => ⟨r28, p28', q28', s3.1, s3.2.1, s3.2.2, fa28, fb28, fc28⟩) ⟨⟨cell_set (by first | assumption | omega) (cell_set (by first | assumption | omega) (cell_set (by first | assumption | omega) y0)), cell_set (by first | assumption | omega) (cell_set (by first | assumption | omega) (cell_set (by first | assumption | omega) y1)), cell_set (by first | assumption | omega) (cell_set (by first | assumption | omega) (cell_set (by first | assumption | omega) y2)), cell_set (by first | assumption | omega) (cell_set (by first | assumption | omega) (cell_set (by first | assumption | omega) y3)), cell_set (by first | assumption | omega) (cell_set (by first | assumption | omega) (cell_set (by first | assumption | omega) y4)), cell_set (by first | assumption | omega) (cell_set (by first | assumption | omega) (cell_set (by first | assumption | omega) y5)), cell_set (by first | assumption | omega) (cell_set (by first | assumption | omega) (cell_set (by first | assumption | omega) y6)), cell_set (by first | assumption | omega) (cell_set (by first | assumption | omega) (cell_set (by first | assumption | omega) y7)), cell_set (by first | assumption | omega) (cell_set (by first | assumption | omega) (cell_set (by first | assumption | omega) y8)), cell_set (by first | assumption | omega) (cell_set (by first | assumption | omega) (cell_set (by first | assumption | omega) y9)), cell_set (by first | assumption | omega) (cell_set (by first | assumption | omega) (cell_set (by first | assumption | omega) y10)), cell_set (by first | assumption | omega) (cell_set (by first | assumption | omega) (cell_set (by first | assumption | omega) y11))⟩, ⟨_, _, _, s3⟩, ⟨by simp [k0], by simp [k1], by simp [k2]⟩, below_set3 hB (by first | exact Nat.le_refl _ | omega)⟩ trivial
 ·rintro f w1 ⟨⟨y0, y1, y2, y3, y4, y5, y6, y7, y8, y9, y10, y11⟩, hrb, hfz, hB⟩ hd hT
  obtain ⟨xa, xb, xc, x0, x1, x2, fa, fb, fc⟩ := hT 17 rfl (by decide)
  simp only [Reg.mixL]
  have HB := Lib.hid hB
  clear hB hd hT hrb hfz
  go_wp2
  refine bodyPost_ret (v := vv xa xb xc) (by simp [results, Tryz.results256, go_sem, x0, x1, x2]) rfl ⟨_, _, _, rfl, fa, fb, fc, HB.out⟩
end Go.Proofs.YtabccmobmppdnaaGreat
namespace Go.Proofs.YtabccmobmppdnaaGreat
open Go Fk Go.RowKit
set_option linter.unusedVariables false
set_option maxRecDepth 8000
@[go_sem] theorem run_neg_float {P : Program} (k : FloatKind) (x : Nat) (w : World) : (Op.unary .neg (.float k x)).run P w = .ok (.float k (Op.negFloat k x)) w := rfl
theorem neg_lt {x : Nat} (hx : x < 4294967296) : Op.negFloat .f32 x < 4294967296 := by
 unfold Op.negFloat
 exact Nat.xor_lt_two_pow (n := 32) hx (by decide)
def halfC : Option Nat := cls .f32 1056964608
theorem half_FV : FV .f32 1056964608 halfC := ⟨by decide, rfl⟩
def areaC (cs : List C3) (t : List Int) : Option Nat := fop .mul .f32 halfC (longC (normalC cs t))
end Go.Proofs.YtabccmobmppdnaaGreat
namespace Go.Proofs.YtabccmobmppdnaaGreat
open Go Fk Go.RowKit
set_option linter.unusedVariables false
def Frm (w : World) (L : List (Nat × List Value)) (R : Nat) (w' : World) : Prop :=
 Below w.heap.size w w' ∧ (∀ b l, (b, l) ∈ L → At w' b l ∧ b ≠ R) ∧ w.heap.size ≤ R ∧ (∃ u v t, w'.cell? ⟨R, 0, none⟩ = some u ∧ w'.cell? ⟨R, 1, none⟩ = some v ∧ w'.cell? ⟨R, 2, none⟩ = some t) ∧ Fr w' R
def TV (R : Nat) (c : C3) (w : World) : Prop := ∃ x y z, (w.cell? ⟨R, 0, none⟩ = some (.float .f32 x) ∧ w.cell? ⟨R, 1, none⟩ = some (.float .f32 y) ∧ w.cell? ⟨R, 2, none⟩ = some (.float .f32 z)) ∧ FV .f32 x c.1 ∧ FV .f32 y c.2.1 ∧ FV .f32 z c.2.2
def F3 (x y z : Nat) (c : C3) : Prop := FV .f32 x c.1 ∧ FV .f32 y c.2.1 ∧ FV .f32 z c.2.2
theorem Frm.bel {w w' : World} {L : List (Nat × List Value)} {R : Nat} (h : Frm w L R w') : Below w.heap.size w w' := h.1
theorem Frm.mem {w w' : World} {L : List (Nat × List Value)} {R b : Nat} {l : List Value} (h : Frm w L R w') (hm : (b, l) ∈ L) : At w' b l := (h.2.1 b l hm).1
theorem Frm.lt {w w' : World} {L : List (Nat × List Value)} {R : Nat} (h : Frm w L R w') : R < w'.heap.size := by
 obtain ⟨u, v, t, e, _⟩ := h.2.2.2.1
 exact World.block_lt_of_cell? w' _ e
theorem Frm.call {w w1 w2 : World} {L : List (Nat × List Value)} {R : Nat} (h : Frm w L R w1) (hb : Below w1.heap.size w1 w2) : Frm w L R w2 := by
 have hl := h.lt
 obtain ⟨h1, h2, h3, ⟨u, v, t, e0, e1, e2⟩, h5⟩ := h
 exact ⟨h1.trans (hb.mono h1.size), fun b l hm => ⟨(h2 b l hm).1.below hb, (h2 b l hm).2⟩, h3, ⟨u, v, t, cell_below hb e0, cell_below hb e1, cell_below hb e2⟩, h5.below hb hl⟩
theorem Frm.drewN {w w1 : World} {L : List (Nat × List Value)} {R : Nat} (h : Frm w L R w1) (n : Nat) : Frm w L R (w1.drewN n) := h.call (below_drewN (Below.refl _ _) n)
theorem Frm.put {w w1 : World} {L : List (Nat × List Value)} {R : Nat} (h : Frm w L R w1) (p q r : Value) : Frm w L R (((w1.setCell ⟨R, 0, none⟩ p).setCell ⟨R, 1, none⟩ q).setCell ⟨R, 2, none⟩ r) := by
 obtain ⟨h1, h2, h3, ⟨u, v, t, e0, e1, e2⟩, h5⟩ := h
 have s := set3 (u := p) (v := q) (t := r) e0 e1 e2
 exact ⟨below_set3 h1 h3, fun b l hm => ⟨(((h2 b l hm).1.far (Ne.symm (h2 b l hm).2)).far (Ne.symm (h2 b l hm).2)).far (Ne.symm (h2 b l hm).2), (h2 b l hm).2⟩, h3, ⟨p, q, r, s⟩, ((h5.setC).setC).setC⟩
theorem TV.call {w1 w2 : World} {R : Nat} {c : C3} (hb : Below w1.heap.size w1 w2) (h : TV R c w1) : TV R c w2 := by
 obtain ⟨x, y, z, ⟨e0, e1, e2⟩, f⟩ := h
 exact ⟨x, y, z, ⟨cell_below hb e0, cell_below hb e1, cell_below hb e2⟩, f⟩
theorem TV.put {w w1 : World} {L : List (Nat × List Value)} {R p q r : Nat} {c : C3} (h : Frm w L R w1) (f : F3 p q r c) : TV R c (((w1.setCell ⟨R, 0, none⟩ (.float .f32 p)).setCell ⟨R, 1, none⟩ (.float .f32 q)).setCell ⟨R, 2, none⟩ (.float .f32 r)) := by
 obtain ⟨u, v, t, e0, e1, e2⟩ := h.2.2.2.1
 exact ⟨p, q, r, set3 e0 e1 e2, f⟩
theorem Frm.cells {w w' : World} {L : List (Nat × List Value)} {R : Nat} (h : Frm w L R w') : ∃ u v t, w'.cell? ⟨R, 0, none⟩ = some u ∧ w'.cell? ⟨R, 1, none⟩ = some v ∧ w'.cell? ⟨R, 2, none⟩ = some t := h.2.2.2.1
theorem Frm.free {w w' : World} {L : List (Nat × List Value)} {R : Nat} (h : Frm w L R w') (i : Nat) : w'.frozen? ⟨R, i, none⟩ = false := h.2.2.2.2 i
end Go.Proofs.YtabccmobmppdnaaGreat

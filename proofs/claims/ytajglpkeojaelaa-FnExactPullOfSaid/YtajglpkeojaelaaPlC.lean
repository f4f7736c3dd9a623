
/-
How a spring pulls: what the program and its model return. Conditions: none.
-/
import Derived.Test.YtajglpkeojaelaaPlB
namespace Go.Proofs.Ytajglpkeojaelaa
open Go Fk Go.RowKit
set_option linter.unusedVariables false
set_option maxRecDepth 8000

theorem body_spring {c : Bc} (h : bodyB c = true) {k : Nat} (hk : k < c.ss.length) : inB c.cs.length (c.ss.getD k s0).1 = true ∧ inB c.cs.length (c.ss.getD k s0).2.1 = true := by
  unfold bodyB at h
  rw [Bool.and_eq_true] at h
  have h2 := List.all_eq_true.1 h.2 (c.ss[k]) (List.getElem_mem hk)
  have e : c.ss.getD k s0 = c.ss[k] := by simp [List.getD, hk]
  rw [e]
  unfold springB at h2
  simp only [Bool.and_eq_true] at h2
  exact ⟨h2.1.1.1, h2.1.1.2⟩
def pullOk (c : Bc) (i : Int) : Bool := bodyB c && inB c.ss.length i
def pullR (c : Bc) (i : Int) : C3 := if pullOk c i then pullC c.cs (c.ss.getD i.toNat s0) else z3
set_option maxHeartbeats 4000000 in
theorem spec_PullOf (B : Bd) (c : Bc) (i : Int) (w : World) (h : IsB w B c) :
    Calls Try.prog 55 #[B.v, .int .i64 i] w fun e w' => ∃ x y z, e = .returned (.tuple #[vv x y z, .bool (pullOk c i)]) ∧ FV3 x y z (pullR c i) ∧ Below w.heap.size w w' := by
  have uf := Try.underlying27
  have ui := Try.underlying2
  have us := Try.underlying144
  have ub := Try.underlying42
  have um := Try.underlying38
  have uv := Try.underlying40
  obtain ⟨lp, lt, ls, lw⟩ := h.lens
  have hsm : B.sl ≤ 9223372036854775807 := by have h1 := h.2.2.1.2.1; have h2 := h.2.2.1.2.2.1; unfold maxLen at h2; omega
  have a0 : At ((w.alloc (BoxB B 42)).alloc (.cells #[.float .f32 0, .float .f32 0, .float .f32 0] 40)) w.heap.size B.l := At.new.alloc
  have r0 : V3 ((w.alloc (BoxB B 42)).alloc (.cells #[.float .f32 0, .float .f32 0, .float .f32 0] 40)) (w.heap.size + 1) 0 0 0 := by
    have := V3.new (w := w.alloc (BoxB B 42)) (x := 0) (y := 0) (z := 0) (t := 40)
    simpa using this
  have b0 : Below w.heap.size w ((w.alloc (BoxB B 42)).alloc (.cells #[.float .f32 0, .float .f32 0, .float .f32 0] 40)) := ((Below.refl _ _).alloc (Nat.le_refl _) _).alloc (by simp) _
  have A0 := Lib.hid a0
  have R0 := Lib.hid r0
  have B0 := Lib.hid b0
  have H := Lib.hid h
  have H0 := Lib.hid (h.below b0)
  have hJ := l03Is _ B c _ a0 (h.below b0)
  have e1 : IntKind.i64.wrap ((B.sl : Int) - 1) = (B.sl : Int) - 1 := IntWalk.i64_in _ (by omega)
  have LP := Lib.hid lp
  have LS := Lib.hid ls
  unfold pullR pullOk
  rw [ls]
  clear h a0 r0 b0 lp lt ls lw
  cases hv : bodyB c
  · rw [hv] at hJ
    have HJ := Lib.hid hJ
    clear hJ hv
    show Calls _ _ _ w fun e w' => ∃ x y z, e = .returned (.tuple #[vv x y z, .bool false]) ∧ FV3 x y z z3 ∧ Below w.heap.size w w'
    go_enter Try.func55, Try.ntmps55
    go_wp2_with fail
    change Calls _ _ _ ((w.alloc (BoxB B 42)).alloc (.cells #[.float .f32 0, .float .f32 0, .float .f32 0] 40)) _
    generalize ((w.alloc (BoxB B 42)).alloc (.cells #[.float .f32 0, .float .f32 0, .float .f32 0] 40)) = W at *
    refine HJ.out.mono ?_
    rintro e w1 ⟨rfl, m, hw1⟩
    have A1 : RowKit.Hid (At w1 w.heap.size B.l) := Lib.hid (by rw [hw1]; exact A0.out)
    have R1 : RowKit.Hid (V3 w1 (w.heap.size + 1) 0 0 0) := Lib.hid (by rw [hw1]; exact R0.out)
    have B1 : RowKit.Hid (Below w.heap.size w w1) := Lib.hid (by rw [hw1]; exact below_drewN B0.out _)
    have k2 := A1.out 2 _ rfl
    clear hw1
    have HP := Lib.hid (R1.out.put (p := 0) (q := 0) (r := 0))
    have hlt := R1.out.lt
    obtain ⟨⟨r0, r1, r2⟩, rf⟩ := R1.out
    have rf0 := rf 0
    have rf1 := rf 1
    have rf2 := rf 2
    clear rf
    go_wp2
    obtain ⟨⟨e0, e1, e2⟩, -⟩ := HP.out
    refine bodyPost_ret (v := .tuple #[vv 0 0 0, .bool false]) (by simp [results, Try.results55, go_sem, e0, e1, e2]) rfl ⟨0, 0, 0, rfl, FV3_zero, below_set3 B1.out (Nat.le_succ _)⟩
  · rw [hv] at hJ
    have HJ := Lib.hid hJ
    have HVB := Lib.hid hv
    clear hJ hv
    have hI := fun w => l00In i B.sl w
    cases hi : inB B.sl i
    · show Calls _ _ _ w fun e w' => ∃ x y z, e = .returned (.tuple #[vv x y z, .bool false]) ∧ FV3 x y z z3 ∧ Below w.heap.size w w'
      rw [hi] at hI
      have HI := Lib.hid hI
      clear hI hi
      go_enter Try.func55, Try.ntmps55
      go_wp2_with fail
      change Calls _ _ _ ((w.alloc (BoxB B 42)).alloc (.cells #[.float .f32 0, .float .f32 0, .float .f32 0] 40)) _
      generalize ((w.alloc (BoxB B 42)).alloc (.cells #[.float .f32 0, .float .f32 0, .float .f32 0] 40)) = W at *
      refine HJ.out.mono ?_
      rintro e w1 ⟨rfl, m, hw1⟩
      have A1 : RowKit.Hid (At w1 w.heap.size B.l) := Lib.hid (by rw [hw1]; exact A0.out)
      have R1 : RowKit.Hid (V3 w1 (w.heap.size + 1) 0 0 0) := Lib.hid (by rw [hw1]; exact R0.out)
      have B1 : RowKit.Hid (Below w.heap.size w w1) := Lib.hid (by rw [hw1]; exact below_drewN B0.out _)
      have k2 := A1.out 2 _ rfl
      clear hw1
      go_wp2_with fail
      refine (HI.out _).mono ?_
      rintro e w2 ⟨rfl, hw2⟩
      rw [hw2]
      clear hw2 w2
      have HP := Lib.hid (R1.out.put (p := 0) (q := 0) (r := 0))
      have hlt := R1.out.lt
      obtain ⟨⟨r0, r1, r2⟩, rf⟩ := R1.out
      have rf0 := rf 0
      have rf1 := rf 1
      have rf2 := rf 2
      clear rf
      go_wp2
      obtain ⟨⟨e0, e1, e2⟩, -⟩ := HP.out
      refine bodyPost_ret (v := .tuple #[vv 0 0 0, .bool false]) (by simp [results, Try.results55, go_sem, e0, e1, e2]) rfl ⟨0, 0, 0, rfl, FV3_zero, below_set3 B1.out (Nat.le_succ _)⟩
    · show Calls _ _ _ w fun e w' => ∃ x y z, e = .returned (.tuple #[vv x y z, .bool true]) ∧ FV3 x y z (pullC c.cs (c.ss.getD i.toNat s0)) ∧ Below w.heap.size w w'
      rw [hi] at hI
      have HI := Lib.hid hI
      obtain ⟨k, rfl, hk⟩ := inB_nat hi
      rw [Int.toNat_natCast]
      have hk0 : (0 : Int) ≤ (k : Int) := by omega
      have hk1 : (k : Int) < (B.sl : Int) := by omega
      have SP := Lib.hid (body_spring HVB.out (k := k) (by rw [LS.out]; exact hk))
      clear hI hi
      go_enter Try.func55, Try.ntmps55
      go_wp2_with fail
      change Calls _ _ _ ((w.alloc (BoxB B 42)).alloc (.cells #[.float .f32 0, .float .f32 0, .float .f32 0] 40)) _
      generalize ((w.alloc (BoxB B 42)).alloc (.cells #[.float .f32 0, .float .f32 0, .float .f32 0] 40)) = W at *
      refine HJ.out.mono ?_
      rintro e w1 ⟨rfl, m, hw1⟩
      have A1 : RowKit.Hid (At w1 w.heap.size B.l) := Lib.hid (by rw [hw1]; exact A0.out)
      have R1 : RowKit.Hid (V3 w1 (w.heap.size + 1) 0 0 0) := Lib.hid (by rw [hw1]; exact R0.out)
      have B1 : RowKit.Hid (Below w.heap.size w w1) := Lib.hid (by rw [hw1]; exact below_drewN B0.out _)
      have k2 := A1.out 2 _ rfl
      clear hw1
      obtain ⟨sb, so, hsa, hcell⟩ := (H.out.below B1.out).2.2.1.some (by omega)
      obtain ⟨p, q, c0, c1, c2, c3, fp, fq⟩ := hcell k hk
      rw [hsa] at k2
      have hW := l03Way w.heap.size sb (so + k * 4) (c.ss.getD k s0).1 (c.ss.getD k s0).2.1 p q (c.ss.getD k s0).2.2.1 (c.ss.getD k s0).2.2.2 B.pa B.pl B.pc c.cs w1 (H.out.below B1.out).1 (A1.out 0 _ rfl) c0 c1 c2 c3 fp fq (by rw [← LP.out]; exact SP.out.1) (by rw [← LP.out]; exact SP.out.2)
      have HW := Lib.hid hW
      clear hcell c0 c1 c2 c3 fp fq hW hsa
      go_wp2_with fail
      refine (HI.out _).mono ?_
      rintro e w2 ⟨rfl, hw2⟩
      rw [hw2]
      clear hw2 w2
      go_wp2_with fail
      refine HW.out.mono ?_
      rintro e w3 ⟨s, t, u, g, rfl, hG, hg, hB3⟩
      have R3 := Lib.hid (R1.out.below hB3)
      have B3 := Lib.hid (B1.out.trans (hB3.mono B1.out.size))
      have HG := Lib.hid (And.intro hG hg)
      clear hB3 hG hg
      go_wp2_with fail
      have R4 := Lib.hid (R3.out.alloc (o := (.cells #[.float .f32 s, .float .f32 t, .float .f32 u] 40)))
      have B4 := Lib.hid (below_new (o := (.cells #[.float .f32 s, .float .f32 t, .float .f32 u] 40)) B3.out (Nat.le_refl _))
      generalize (w3.alloc (.cells #[.float .f32 s, .float .f32 t, .float .f32 u] 40)) = W3 at *
      refine (l01Scale _ _ _ _ _ _ _ _ _ HG.out.1.1 HG.out.1.2.1 HG.out.1.2.2 HG.out.2).mono ?_
      rintro e w5 ⟨x, y, z, rfl, fx, fy, fz, hB5⟩
      have R5 := Lib.hid (R4.out.below hB5)
      have B5 := Lib.hid (B4.out.trans (hB5.mono B4.out.size))
      have HF : RowKit.Hid (FV3 x y z (pullC c.cs (c.ss.getD k s0))) := Lib.hid ⟨fx, fy, fz⟩
      clear hB5 fx fy fz
      have HP := Lib.hid (R5.out.put (p := x) (q := y) (r := z))
      have hlt := R5.out.lt
      obtain ⟨⟨r0, r1, r2⟩, rf⟩ := R5.out
      have rf0 := rf 0
      have rf1 := rf 1
      have rf2 := rf 2
      clear rf
      go_wp2
      obtain ⟨⟨e0, e1, e2⟩, -⟩ := HP.out
      refine bodyPost_ret (v := .tuple #[vv x y z, .bool true]) (by simp [results, Try.results55, go_sem, e0, e1, e2]) rfl ⟨x, y, z, rfl, HF.out, below_set3 B5.out (Nat.le_succ _)⟩
set_option maxHeartbeats 4000000 in
theorem impl_PullOf (B : Bd) (c : Bc) (i : Int) (w : World) (h : IsB w B c) :
    Calls Try.prog 56 #[B.v, .int .i64 i] w fun e w' => ∃ x y z, e = .returned (.tuple #[vv x y z, .bool (pullOk c i)]) ∧ FV3 x y z (pullR c i) ∧ Below w.heap.size w w' := by
  have uf := Try.underlying27
  have ui := Try.underlying2
  have us := Try.underlying144
  have ub := Try.underlying42
  have um := Try.underlying38
  have uv := Try.underlying40
  obtain ⟨lp, lt, ls, lw⟩ := h.lens
  have hsm : B.sl ≤ 9223372036854775807 := by have h1 := h.2.2.1.2.1; have h2 := h.2.2.1.2.2.1; unfold maxLen at h2; omega
  have a0 : At ((w.alloc (BoxB B 42)).alloc (.cells #[.float .f32 0, .float .f32 0, .float .f32 0] 40)) w.heap.size B.l := At.new.alloc
  have r0 : V3 ((w.alloc (BoxB B 42)).alloc (.cells #[.float .f32 0, .float .f32 0, .float .f32 0] 40)) (w.heap.size + 1) 0 0 0 := by
    have := V3.new (w := w.alloc (BoxB B 42)) (x := 0) (y := 0) (z := 0) (t := 40)
    simpa using this
  have b0 : Below w.heap.size w ((w.alloc (BoxB B 42)).alloc (.cells #[.float .f32 0, .float .f32 0, .float .f32 0] 40)) := ((Below.refl _ _).alloc (Nat.le_refl _) _).alloc (by simp) _
  have A0 := Lib.hid a0
  have R0 := Lib.hid r0
  have B0 := Lib.hid b0
  have H := Lib.hid h
  have H0 := Lib.hid (h.below b0)
  have hJ := impl_ValidBody B c _ H0.out
  have LP := Lib.hid lp
  have LS := Lib.hid ls
  unfold pullR pullOk
  rw [ls]
  clear h a0 r0 b0 lp lt ls lw
  cases hv : bodyB c
  · rw [hv] at hJ
    have HJ := Lib.hid hJ
    clear hJ hv
    show Calls _ _ _ w fun e w' => ∃ x y z, e = .returned (.tuple #[vv x y z, .bool false]) ∧ FV3 x y z z3 ∧ Below w.heap.size w w'
    go_enter Try.func56, Try.ntmps56
    go_wp2_with fail
    change Calls _ _ _ ((w.alloc (BoxB B 42)).alloc (.cells #[.float .f32 0, .float .f32 0, .float .f32 0] 40)) _
    generalize ((w.alloc (BoxB B 42)).alloc (.cells #[.float .f32 0, .float .f32 0, .float .f32 0] 40)) = W at *
    refine HJ.out.mono ?_
    rintro e w1 ⟨rfl, hB1⟩
    have A1 := Lib.hid (A0.out.below hB1)
    have R1 := Lib.hid (R0.out.below hB1)
    have B1 := Lib.hid (B0.out.trans (hB1.mono B0.out.size))
    have k2 := A1.out 2 _ rfl
    clear hB1
    have HP := Lib.hid (R1.out.put (p := 0) (q := 0) (r := 0))
    have hlt := R1.out.lt
    obtain ⟨⟨r0, r1, r2⟩, rf⟩ := R1.out
    have rf0 := rf 0
    have rf1 := rf 1
    have rf2 := rf 2
    clear rf
    go_wp2
    obtain ⟨⟨e0, e1, e2⟩, -⟩ := HP.out
    refine bodyPost_ret (v := .tuple #[vv 0 0 0, .bool false]) (by simp [results, Try.results56, go_sem, e0, e1, e2]) rfl ⟨0, 0, 0, rfl, FV3_zero, below_set3 B1.out (Nat.le_succ _)⟩
  · rw [hv] at hJ
    have HJ := Lib.hid hJ
    have HVB := Lib.hid hv
    clear hJ hv
    have hI := fun w => impl_isIndex i B.sl w
    cases hi : inB B.sl i
    · show Calls _ _ _ w fun e w' => ∃ x y z, e = .returned (.tuple #[vv x y z, .bool false]) ∧ FV3 x y z z3 ∧ Below w.heap.size w w'
      rw [hi] at hI
      have HI := Lib.hid hI
      clear hI hi
      go_enter Try.func56, Try.ntmps56
      go_wp2_with fail
      change Calls _ _ _ ((w.alloc (BoxB B 42)).alloc (.cells #[.float .f32 0, .float .f32 0, .float .f32 0] 40)) _
      generalize ((w.alloc (BoxB B 42)).alloc (.cells #[.float .f32 0, .float .f32 0, .float .f32 0] 40)) = W at *
      refine HJ.out.mono ?_
      rintro e w1 ⟨rfl, hB1⟩
      have A1 := Lib.hid (A0.out.below hB1)
      have R1 := Lib.hid (R0.out.below hB1)
      have B1 := Lib.hid (B0.out.trans (hB1.mono B0.out.size))
      have k2 := A1.out 2 _ rfl
      clear hB1
      go_wp2_with fail
      refine (HI.out _).mono ?_
      rintro e w2 ⟨rfl, hw2⟩
      rw [hw2]
      clear hw2 w2
      have HP := Lib.hid (R1.out.put (p := 0) (q := 0) (r := 0))
      have hlt := R1.out.lt
      obtain ⟨⟨r0, r1, r2⟩, rf⟩ := R1.out
      have rf0 := rf 0
      have rf1 := rf 1
      have rf2 := rf 2
      clear rf
      go_wp2
      obtain ⟨⟨e0, e1, e2⟩, -⟩ := HP.out
      refine bodyPost_ret (v := .tuple #[vv 0 0 0, .bool false]) (by simp [results, Try.results56, go_sem, e0, e1, e2]) rfl ⟨0, 0, 0, rfl, FV3_zero, below_set3 B1.out (Nat.le_succ _)⟩
    · show Calls _ _ _ w fun e w' => ∃ x y z, e = .returned (.tuple #[vv x y z, .bool true]) ∧ FV3 x y z (pullC c.cs (c.ss.getD i.toNat s0)) ∧ Below w.heap.size w w'
      rw [hi] at hI
      have HI := Lib.hid hI
      obtain ⟨k, rfl, hk⟩ := inB_nat hi
      rw [Int.toNat_natCast]
      have hk0 : (0 : Int) ≤ (k : Int) := by omega
      have hk1 : (k : Int) < (B.sl : Int) := by omega
      have SP := Lib.hid (body_spring HVB.out (k := k) (by rw [LS.out]; exact hk))
      clear hI hi
      go_enter Try.func56, Try.ntmps56
      go_wp2_with fail
      change Calls _ _ _ ((w.alloc (BoxB B 42)).alloc (.cells #[.float .f32 0, .float .f32 0, .float .f32 0] 40)) _
      generalize ((w.alloc (BoxB B 42)).alloc (.cells #[.float .f32 0, .float .f32 0, .float .f32 0] 40)) = W at *
      refine HJ.out.mono ?_
      rintro e w1 ⟨rfl, hB1⟩
      have A1 := Lib.hid (A0.out.below hB1)
      have R1 := Lib.hid (R0.out.below hB1)
      have B1 := Lib.hid (B0.out.trans (hB1.mono B0.out.size))
      have k2 := A1.out 2 _ rfl
      clear hB1
      obtain ⟨sb, so, hsa, hcell⟩ := (H.out.below B1.out).2.2.1.some (by omega)
      obtain ⟨p, q, c0, c1, c2, c3, fp, fq⟩ := hcell k hk
      have hWf := fun w' (hb : Below w.heap.size w w') => impl_way (c.ss.getD k s0).1 (c.ss.getD k s0).2.1 p q B.pa B.pl B.pc c.cs w' (H.out.below hb).1 (by rw [← LP.out]; exact SP.out.1) (by rw [← LP.out]; exact SP.out.2)
      have hPf := fun p' q' r' D (hD : FV3 p' q' r' D) w' => impl_pullPer (c.ss.getD k s0).1 (c.ss.getD k s0).2.1 p q p' q' r' (c.ss.getD k s0).2.2.1 (c.ss.getD k s0).2.2.2 D w' fp fq hD
      obtain ⟨ua, hua⟩ : ∃ ua, ua = (c.ss.getD k s0).1 := ⟨_, rfl⟩
      obtain ⟨ub', hub⟩ : ∃ ub, ub = (c.ss.getD k s0).2.1 := ⟨_, rfl⟩
      have HPC : RowKit.Hid (pullC c.cs (c.ss.getD k s0) = scaleC (wayC c.cs ua ub') (perC (wayC c.cs ua ub') (c.ss.getD k s0).2.2.1 (c.ss.getD k s0).2.2.2)) := Lib.hid (by rw [hua, hub]; rfl)
      rw [← hua, ← hub] at hWf hPf
      rw [← hua] at c0
      rw [← hub] at c1
      rw [hsa] at k2
      have HWf := Lib.hid hWf
      have HPf := Lib.hid hPf
      clear hcell hWf hPf hsa fp fq hua hub
      have k0 := A1.out 0 _ rfl
      go_wp2_with fail
      refine (HI.out _).mono ?_
      rintro e w2 ⟨rfl, hw2⟩
      rw [hw2]
      clear hw2 w2
      have ka := fun ob => cell_alloc (o := ob) k0
      go_wp2_with fail
      clear ka
      have hS : At (w1.alloc (.cells #[.int .i64 ua, .int .i64 ub', .float .f32 p, .float .f32 q] 144)) w1.heap.size [.int .i64 ua, .int .i64 ub', .float .f32 p, .float .f32 q] := At.new
      have AS := Lib.hid hS
      have R2 := Lib.hid (R1.out.alloc (o := (.cells #[.int .i64 ua, .int .i64 ub', .float .f32 p, .float .f32 q] 144)))
      have B2 := Lib.hid (below_new (o := (.cells #[.int .i64 ua, .int .i64 ub', .float .f32 p, .float .f32 q] 144)) B1.out (Nat.le_refl _))
      have NS : RowKit.Hid (w.heap.size + 1 ≠ w1.heap.size) := Lib.hid (Nat.ne_of_lt R1.out.lt)
      generalize (w1.alloc (.cells #[.int .i64 ua, .int .i64 ub', .float .f32 p, .float .f32 q] 144)) = W1 at *
      generalize w1.heap.size = xs at *
      clear hS c0 c1 c2 c3 k0 k2
      refine (HWf.out _ B2.out).mono ?_
      rintro e w3 ⟨s, t, u, rfl, hG, hB3⟩
      have AS3 := Lib.hid (AS.out.below hB3)
      have R3 := Lib.hid (R2.out.below hB3)
      have B3 := Lib.hid (B2.out.trans (hB3.mono B2.out.size))
      have HG := Lib.hid hG
      clear hG hB3
      go_wp2_with fail
      have AS4 := Lib.hid (AS3.out.alloc (o := (.cells #[.float .f32 s, .float .f32 t, .float .f32 u] 40)))
      have R4 := Lib.hid (R3.out.alloc (o := (.cells #[.float .f32 s, .float .f32 t, .float .f32 u] 40)))
      have B4 := Lib.hid (below_new (o := (.cells #[.float .f32 s, .float .f32 t, .float .f32 u] 40)) B3.out (Nat.le_refl _))
      have D4 : RowKit.Hid (V3 (w3.alloc (.cells #[.float .f32 s, .float .f32 t, .float .f32 u] 40)) w3.heap.size s t u) := Lib.hid V3.new
      have ND : RowKit.Hid (w.heap.size + 1 ≠ w3.heap.size) := Lib.hid (Nat.ne_of_lt R3.out.lt)
      generalize (w3.alloc (.cells #[.float .f32 s, .float .f32 t, .float .f32 u] 40)) = W3 at *
      generalize w3.heap.size = db at *
      refine Reg2.wp_region_mix (C := fun w' => Below w.heap.size w w' ∧ V3 w' db s t u ∧ At w' xs [.int .i64 ua, .int .i64 ub', .float .f32 p, .float .f32 q] ∧ ∃ a b c, V3 w' (w.heap.size + 1) a b c) (G := fun w1 w2 => (∃ x y z, V3 w1 (w.heap.size + 1) x y z ∧ FV3 x y z (scaleC (wayC c.cs ua ub') (perC (wayC c.cs ua ub') (c.ss.getD k s0).2.2.1 (c.ss.getD k s0).2.2.2))) → ∃ x y z, V3 w2 (w.heap.size + 1) x y z ∧ FV3 x y z (scaleC (wayC c.cs ua ub') (perC (wayC c.cs ua ub') (c.ss.getD k s0).2.2.1 (c.ss.getD k s0).2.2.2)))
        (R := fun k' v w' => match k' with | 0 => v = vv s t u | 1 => v = sv ua ub' p q | 2 => v = vv s t u | 3 => isF (perC (wayC c.cs ua ub') (c.ss.getD k s0).2.2.1 (c.ss.getD k s0).2.2.2) v | 4 => ∃ x y z, v = vv x y z ∧ FV3 x y z (scaleC (wayC c.cs ua ub') (perC (wayC c.cs ua ub') (c.ss.getD k s0).2.2.1 (c.ss.getD k s0).2.2.2)) | 6 => v = .bool true | _ => True)
        (T := fun _ w' => ∃ x y z, V3 w' (w.heap.size + 1) x y z ∧ FV3 x y z (scaleC (wayC c.cs ua ub') (perC (wayC c.cs ua ub') (c.ss.getD k s0).2.2.1 (c.ss.getD k s0).2.2.2))) [false, false, false, false, false, true, false, false, false, false, false, false, false, false, false, false, false, false, false, false, false, false, false, false, false, false, false, false, false, false, true, true, true, true, true]
        (by kernel_rfl) (by kernel_rfl) (by kernel_rfl) (fun _ _ _ _ _ _ h => h) (fun _ _ _ _ hG hT => hG hT) ⟨below_drewN B4.out 1, D4.out, AS4.out, 0, 0, 0, R4.out⟩ ?_ ?_
      · refine ⟨Reg2.Obl.mk ?_, Reg2.Obl.mk ?_, Reg2.Obl.mk ?_, Reg2.Obl.mk ?_, Reg2.Obl.mk ?_, Reg2.Obl.mk ?_, Reg2.Obl.mk ?_, trivial⟩
        · rintro a w1 hC hx hd K hK
          have HC := Lib.hid hC
          clear hC
          obtain ⟨⟨y0, y1, y2⟩, -⟩ := HC.out.2.1
          have t7 : a.tmps[7]?.getD undef = .pointer (some ⟨db, 0, none⟩) := Reg.slot_val (hx 7 (by kernel_rfl))
          go_simp
          exact hK _ _ (fun _ => rfl) (fun h => by cases h) HC.out (fun h => h)
        · rintro a w1 hC hx hd K hK
          have HC := Lib.hid hC
          clear hC
          have y0 := HC.out.2.2.1 0 _ rfl
          have y1 := HC.out.2.2.1 1 _ rfl
          have y2 := HC.out.2.2.1 2 _ rfl
          have y3 := HC.out.2.2.1 3 _ rfl
          have t6 : a.tmps[6]?.getD undef = .pointer (some ⟨xs, 0, none⟩) := Reg.slot_val (hx 6 (by kernel_rfl))
          go_simp
          exact hK _ _ (fun _ => rfl) (fun h => by cases h) HC.out (fun h => h)
        · rintro a w1 hC hx hd K hK
          have HC := Lib.hid hC
          clear hC
          obtain ⟨⟨y0, y1, y2⟩, -⟩ := HC.out.2.1
          have t7 : a.tmps[7]?.getD undef = .pointer (some ⟨db, 0, none⟩) := Reg.slot_val (hx 7 (by kernel_rfl))
          go_simp
          exact hK _ _ (fun _ => rfl) (fun h => by cases h) HC.out (fun h => h)
        · rintro a w1 hC hx hd K hK
          have HC := Lib.hid hC
          clear hC
          have t31 : a.tmps[31]?.getD undef = sv ua ub' p q := Reg.slot_val (hd 1 (by kernel_rfl) 31 rfl)
          have t32 : a.tmps[32]?.getD undef = vv s t u := Reg.slot_val (hd 2 (by kernel_rfl) 32 rfl)
          go_simp
          refine (HPf.out _ _ _ _ HG.out _).mono ?_
          rintro e w2 ⟨g, rfl, hg, hB2⟩
          exact hK _ _ (fun _ => ⟨g, rfl, hg⟩) (fun h => by cases h) (by obtain ⟨hB, hV, hA, r0, r1, r2, hR⟩ := HC.out; exact ⟨hB.trans (hB2.mono hB.size), hV.below hB2, hA.below hB2, r0, r1, r2, hR.below hB2⟩) (fun ⟨x, y, z, h1, h2⟩ => ⟨x, y, z, h1.below hB2, h2⟩)
        · rintro a w1 hC hx hd K hK
          have HC := Lib.hid hC
          clear hC
          have t30 : a.tmps[30]?.getD undef = vv s t u := Reg.slot_val (hd 0 (by kernel_rfl) 30 rfl)
          obtain ⟨r33, g33, f33⟩ := hd 3 (by kernel_rfl) 33 rfl
          have t33 := Reg.slot_val g33
          clear g33
          go_simp
          refine (impl_ScaleVector _ _ _ _ _ _ _ _ _ HG.out.1 HG.out.2.1 HG.out.2.2 f33).mono ?_
          rintro e w2 ⟨x, y, z, rfl, fx, fy, fz, hB2⟩
          exact hK _ _ (fun _ => ⟨x, y, z, rfl, fx, fy, fz⟩) (fun h => by cases h) (by obtain ⟨hB, hV, hA, r0, r1, r2, hR⟩ := HC.out; exact ⟨hB.trans (hB2.mono hB.size), hV.below hB2, hA.below hB2, r0, r1, r2, hR.below hB2⟩) (fun ⟨x, y, z, h1, h2⟩ => ⟨x, y, z, h1.below hB2, h2⟩)
        · rintro a w1 hC hx hd K hK
          have HC := Lib.hid hC
          clear hC
          have t4 : a.tmps[4]?.getD undef = .pointer (some ⟨w.heap.size + 1, 0, none⟩) := Reg.slot_val (hx 4 (by kernel_rfl))
          obtain ⟨x, y, z, g34, h34⟩ := hd 4 (by kernel_rfl) 34 rfl
          have t34 := Reg.slot_val g34
          clear g34
          obtain ⟨hB, hV, hA, r0, r1, r2, hR⟩ := HC.out
          have HP := Lib.hid (hR.put (p := x) (q := y) (r := z))
          have HB2 := Lib.hid (below_set3 (n := w.heap.size + 1) (o1 := 0) (o2 := 1) (o3 := 2) (u := .float .f32 x) (v := .float .f32 y) (t := .float .f32 z) hB (Nat.le_succ _))
          have HV2 := Lib.hid (hV.far (n := w.heap.size + 1) (u := .float .f32 x) (v := .float .f32 y) (t := .float .f32 z) ND.out)
          have HA2 := Lib.hid (((hA.far (a := ⟨w.heap.size + 1, 0, none⟩) (u := .float .f32 x) NS.out).far (a := ⟨w.heap.size + 1, 1, none⟩) (u := .float .f32 y) NS.out).far (a := ⟨w.heap.size + 1, 2, none⟩) (u := .float .f32 z) NS.out)
          have hlt := hR.lt
          obtain ⟨⟨u0, u1, u2⟩, uf⟩ := hR
          have uf0 := uf 0
          have uf1 := uf 1
          have uf2 := uf 2
          have HX := Lib.hid h34
          clear uf hB hV hA h34
          go_simp
          exact hK undef _ (fun h => absurd rfl h) (fun _ => ⟨x, y, z, HP.out, HX.out⟩) ⟨HB2.out, HV2.out, HA2.out, _, _, _, HP.out⟩ (fun _ => ⟨x, y, z, HP.out, HX.out⟩)
        · rintro a w1 hC hx hd K hK
          have HC := Lib.hid hC
          clear hC
          go_simp
          exact hK _ _ (fun _ => rfl) (fun h => by cases h) HC.out (fun h => h)
      · rintro f w5 hC hd hT
        obtain ⟨x, y, z, hV, hF⟩ := hT 5 rfl (by decide)
        have h5 : f 5 = .bool true := hd 6 5 rfl
        simp only [Reg.mixL, h5]
        obtain ⟨⟨m0, m1, m2⟩, -⟩ := hV
        have HB := Lib.hid hC.1
        have HF := Lib.hid hF
        clear hC hd hT hF
        go_wp2
        refine bodyPost_ret (v := .tuple #[vv x y z, .bool true]) (by simp [results, Try.results56, go_sem, m0, m1, m2]) rfl ⟨x, y, z, rfl, by rw [HPC.out]; exact HF.out, HB.out⟩
end Go.Proofs.Ytajglpkeojaelaa

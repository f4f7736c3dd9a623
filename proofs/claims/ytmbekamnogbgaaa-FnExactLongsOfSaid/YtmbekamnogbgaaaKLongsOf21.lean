/-
Texts in one: what LongsOf stands on, part 21. Conditions: those of each.
-/
import Derived.Test.YtmbekamnogbgaaaKLongsOf20

/-
One hold: copies, that two are the same, and which have the form of one: what the program, its model and the law's own functions return. Conditions: none beyond that the words fit.
-/
namespace Go.Proofs.Ytmbekamnogbgaaa
open Go Fk Go.RowKit
set_option linter.unusedVariables false
set_option maxRecDepth 8000

abbrev HBox (h : HW) (t : TypeId) : Obj := .cells #[.int .i64 h.p, .int .i64 h.k, .float .f32 h.x, .float .f32 h.y, .float .f32 h.z, .float .f32 h.s, .float .f32 h.t, .float .f32 h.u] t
theorem impl_isFiniteVector (x y z : Nat) (c : C3) (w : World) (hx : FV .f32 x c.1) (hy : FV .f32 y c.2.1) (hz : FV .f32 z c.2.2) :
    Calls Try.prog 194 #[vv x y z] w fun e w' => e = .returned (.bool (finV c)) ∧ Below w.heap.size w w' := by
  have u := Try.underlying31
  have uv := Try.underlying34
  unfold finV
  rw [← hx.fin, ← hy.fin, ← hz.fin]
  have HX := Lib.hid (fun w => impl_IsFinite x w hx.1)
  have HY := Lib.hid (fun w => impl_IsFinite y w hy.1)
  have HZ := Lib.hid (fun w => impl_IsFinite z w hz.1)
  generalize finB x = a at *
  generalize finB y = b at *
  generalize finB z = d at *
  clear hx hy hz
  cases a
  · go_enter Try.func194, Try.ntmps194
    go_wp2_with fail
    refine (HX.out _).mono ?_
    rintro e w1 ⟨rfl, n, hw⟩
    rw [hw]; clear hw w1
    go_wp2
    go_ret
    exact ⟨rfl, below_drewN ((Below.refl _ _).alloc (Nat.le_refl _) _) _⟩
  · cases b
    all_goals
      go_enter Try.func194, Try.ntmps194
      go_wp2_with fail
      refine (HX.out _).mono ?_
      rintro e w1 ⟨rfl, n, hw⟩
      rw [hw]; clear hw w1
      go_wp2_with fail
      refine (HY.out _).mono ?_
      rintro e w1 ⟨rfl, n2, hw⟩
      rw [hw]; clear hw w1
      go_wp2_with (go_at_call 128; refine (HZ.out _).mono ?_; rintro e w1 ⟨rfl, n3, hw⟩; rw [hw]; clear hw w1)
      go_ret
      exact ⟨rfl, by repeat (first | exact (Below.refl _ _).alloc (Nat.le_refl _) _ | refine below_drewN ?_ _)⟩
theorem l01VFinite (x y z : Nat) (c : C3) (w : World) (hx : FV .f32 x c.1) (hy : FV .f32 y c.2.1) (hz : FV .f32 z c.2.2) :
    Calls Try.prog 192 #[vv x y z] w fun e w' => e = .returned (.bool (finV c)) ∧ Below w.heap.size w w' := by
  have u := Try.underlying31
  have uv := Try.underlying34
  unfold finV
  rw [← hx.fin, ← hy.fin, ← hz.fin]
  have HX := Lib.hid (fun w => l01Finite x w hx.1)
  have HY := Lib.hid (fun w => l01Finite y w hy.1)
  have HZ := Lib.hid (fun w => l01Finite z w hz.1)
  generalize finB x = a at *
  generalize finB y = b at *
  generalize finB z = d at *
  clear hx hy hz
  cases a
  · go_enter Try.func192, Try.ntmps192
    go_wp2_with fail
    refine (HX.out _).mono ?_
    rintro e w1 ⟨rfl, n, hw⟩
    rw [hw]; clear hw w1
    go_wp2
    go_ret
    exact ⟨rfl, below_drewN ((Below.refl _ _).alloc (Nat.le_refl _) _) _⟩
  · cases b
    all_goals
      go_enter Try.func192, Try.ntmps192
      go_wp2_with fail
      refine (HX.out _).mono ?_
      rintro e w1 ⟨rfl, n, hw⟩
      rw [hw]; clear hw w1
      go_wp2_with fail
      refine (HY.out _).mono ?_
      rintro e w1 ⟨rfl, n2, hw⟩
      rw [hw]; clear hw w1
      go_wp2_with (go_at_call 118; refine (HZ.out _).mono ?_; rintro e w1 ⟨rfl, n3, hw⟩; rw [hw]; clear hw w1)
      go_ret
      exact ⟨rfl, by repeat (first | exact (Below.refl _ _).alloc (Nat.le_refl _) _ | refine below_drewN ?_ _)⟩
abbrev Z8 : List Value := [.int .i64 0, .int .i64 0, .float .f32 0, .float .f32 0, .float .f32 0, .float .f32 0, .float .f32 0, .float .f32 0]
set_option maxHeartbeats 1000000 in
theorem laws_toHold (h : HW) (w : World) :
    Calls Try.prog 91 #[h.v] w fun e w' => e = .returned h.v ∧ Below w.heap.size w w' := by
  have u := Try.underlying31
  have ui := Try.underlying2
  have uh := Try.underlying117
  have uv := Try.underlying34
  have ulh := Try.underlying120
  have ulv := Try.underlying46
  unfold HW.v
  go_enter Try.func91, Try.ntmps91
  go_wp2_with fail
  have a0 : At (((w.alloc (HBox h 120)).alloc (.cells #[.int .i64 0, .int .i64 0, .float .f32 0, .float .f32 0, .float .f32 0, .float .f32 0, .float .f32 0, .float .f32 0] 117)).alloc (.cells #[.int .i64 h.p, .int .i64 h.k, .float .f32 0, .float .f32 0, .float .f32 0, .float .f32 0, .float .f32 0, .float .f32 0] 117)) w.heap.size h.l := At.new.alloc.alloc
  have r0 : At (((w.alloc (HBox h 120)).alloc (.cells #[.int .i64 0, .int .i64 0, .float .f32 0, .float .f32 0, .float .f32 0, .float .f32 0, .float .f32 0, .float .f32 0] 117)).alloc (.cells #[.int .i64 h.p, .int .i64 h.k, .float .f32 0, .float .f32 0, .float .f32 0, .float .f32 0, .float .f32 0, .float .f32 0] 117)) (w.heap.size + 1) Z8 := by
    have := (At.new (w := w.alloc (HBox h 120)) (vs := Z8) (t := 117)).alloc (o := .cells #[.int .i64 h.p, .int .i64 h.k, .float .f32 0, .float .f32 0, .float .f32 0, .float .f32 0, .float .f32 0, .float .f32 0] 117)
    simpa using this
  have o0 : At (((w.alloc (HBox h 120)).alloc (.cells #[.int .i64 0, .int .i64 0, .float .f32 0, .float .f32 0, .float .f32 0, .float .f32 0, .float .f32 0, .float .f32 0] 117)).alloc (.cells #[.int .i64 h.p, .int .i64 h.k, .float .f32 0, .float .f32 0, .float .f32 0, .float .f32 0, .float .f32 0, .float .f32 0] 117)) (w.heap.size + 1 + 1) [.int .i64 h.p, .int .i64 h.k, .float .f32 0, .float .f32 0, .float .f32 0, .float .f32 0, .float .f32 0, .float .f32 0] := by
    have := At.new (w := (w.alloc (HBox h 120)).alloc (.cells #[.int .i64 0, .int .i64 0, .float .f32 0, .float .f32 0, .float .f32 0, .float .f32 0, .float .f32 0, .float .f32 0] 117)) (vs := [.int .i64 h.p, .int .i64 h.k, .float .f32 0, .float .f32 0, .float .f32 0, .float .f32 0, .float .f32 0, .float .f32 0]) (t := 117)
    simpa using this
  have fr0 : Fr (((w.alloc (HBox h 120)).alloc (.cells #[.int .i64 0, .int .i64 0, .float .f32 0, .float .f32 0, .float .f32 0, .float .f32 0, .float .f32 0, .float .f32 0] 117)).alloc (.cells #[.int .i64 h.p, .int .i64 h.k, .float .f32 0, .float .f32 0, .float .f32 0, .float .f32 0, .float .f32 0, .float .f32 0] 117)) (w.heap.size + 1) := fun i => by go_simp
  have fo0 : Fr (((w.alloc (HBox h 120)).alloc (.cells #[.int .i64 0, .int .i64 0, .float .f32 0, .float .f32 0, .float .f32 0, .float .f32 0, .float .f32 0, .float .f32 0] 117)).alloc (.cells #[.int .i64 h.p, .int .i64 h.k, .float .f32 0, .float .f32 0, .float .f32 0, .float .f32 0, .float .f32 0, .float .f32 0] 117)) (w.heap.size + 1 + 1) := fun i => by go_simp
  have b0 : Below w.heap.size w (((w.alloc (HBox h 120)).alloc (.cells #[.int .i64 0, .int .i64 0, .float .f32 0, .float .f32 0, .float .f32 0, .float .f32 0, .float .f32 0, .float .f32 0] 117)).alloc (.cells #[.int .i64 h.p, .int .i64 h.k, .float .f32 0, .float .f32 0, .float .f32 0, .float .f32 0, .float .f32 0, .float .f32 0] 117)) := (((Below.refl _ _).alloc (Nat.le_refl _) _).alloc (by simp) _).alloc (by simp; omega) _
  change Calls _ _ _ (((w.alloc (HBox h 120)).alloc (.cells #[.int .i64 0, .int .i64 0, .float .f32 0, .float .f32 0, .float .f32 0, .float .f32 0, .float .f32 0, .float .f32 0] 117)).alloc (.cells #[.int .i64 h.p, .int .i64 h.k, .float .f32 0, .float .f32 0, .float .f32 0, .float .f32 0, .float .f32 0, .float .f32 0] 117)) _
  generalize (((w.alloc (HBox h 120)).alloc (.cells #[.int .i64 0, .int .i64 0, .float .f32 0, .float .f32 0, .float .f32 0, .float .f32 0, .float .f32 0, .float .f32 0] 117)).alloc (.cells #[.int .i64 h.p, .int .i64 h.k, .float .f32 0, .float .f32 0, .float .f32 0, .float .f32 0, .float .f32 0, .float .f32 0] 117)) = W at *
  refine (laws_toVector _ _ _ _).mono ?_
  rintro e w1 ⟨rfl, hB1⟩
  have A1 := Lib.hid (a0.below hB1)
  have R1 := Lib.hid (r0.below hB1)
  have O1 := Lib.hid (o0.below hB1)
  have FR1 := Lib.hid (fr0.below hB1 r0.lt)
  have FO1 := Lib.hid (fo0.below hB1 o0.lt)
  have B1 := Lib.hid (b0.trans (hB1.mono b0.size))
  clear a0 r0 o0 fr0 fo0 b0 hB1
  have k5 := A1.out 5 _ rfl
  have k6 := A1.out 6 _ rfl
  have k7 := A1.out 7 _ rfl
  have e2 := O1.out 2 _ rfl
  have e3 := O1.out 3 _ rfl
  have e4 := O1.out 4 _ rfl
  have g2 := FO1.out 2
  have g3 := FO1.out 3
  have g4 := FO1.out 4
  go_wp2_with fail
  clear k5 k6 k7 e2 e3 e4 g2 g3 g4
  have b2 := ((B1.out.setCell (p := ⟨w.heap.size + 1 + 1, 2, none⟩) (show w.heap.size ≤ w.heap.size + 1 + 1 by omega) (.float .f32 h.x)).setCell (p := ⟨w.heap.size + 1 + 1, 3, none⟩) (show w.heap.size ≤ w.heap.size + 1 + 1 by omega) (.float .f32 h.y)).setCell (p := ⟨w.heap.size + 1 + 1, 4, none⟩) (show w.heap.size ≤ w.heap.size + 1 + 1 by omega) (.float .f32 h.z)
  have r2 := ((R1.out.far (a := ⟨w.heap.size + 1 + 1, 2, none⟩) (u := .float .f32 h.x) (show w.heap.size + 1 + 1 ≠ w.heap.size + 1 by omega)).far (a := ⟨w.heap.size + 1 + 1, 3, none⟩) (u := .float .f32 h.y) (show w.heap.size + 1 + 1 ≠ w.heap.size + 1 by omega)).far (a := ⟨w.heap.size + 1 + 1, 4, none⟩) (u := .float .f32 h.z) (show w.heap.size + 1 + 1 ≠ w.heap.size + 1 by omega)
  have o2 : At _ (w.heap.size + 1 + 1) [.int .i64 h.p, .int .i64 h.k, .float .f32 h.x, .float .f32 h.y, .float .f32 h.z, .float .f32 0, .float .f32 0, .float .f32 0] := ((O1.out.set 2 (.float .f32 h.x)).set 3 (.float .f32 h.y)).set 4 (.float .f32 h.z)
  have fr2 := ((FR1.out.setC (a := ⟨w.heap.size + 1 + 1, 2, none⟩) (u := .float .f32 h.x)).setC (a := ⟨w.heap.size + 1 + 1, 3, none⟩) (u := .float .f32 h.y)).setC (a := ⟨w.heap.size + 1 + 1, 4, none⟩) (u := .float .f32 h.z)
  have fo2 := ((FO1.out.setC (a := ⟨w.heap.size + 1 + 1, 2, none⟩) (u := .float .f32 h.x)).setC (a := ⟨w.heap.size + 1 + 1, 3, none⟩) (u := .float .f32 h.y)).setC (a := ⟨w.heap.size + 1 + 1, 4, none⟩) (u := .float .f32 h.z)
  generalize (((w1.setCell ⟨w.heap.size + 1 + 1, 2, none⟩ (.float .f32 h.x)).setCell ⟨w.heap.size + 1 + 1, 3, none⟩ (.float .f32 h.y)).setCell ⟨w.heap.size + 1 + 1, 4, none⟩ (.float .f32 h.z)) = W1 at *
  refine (laws_toVector _ _ _ _).mono ?_
  rintro e w2 ⟨rfl, hB2⟩
  have R2 := Lib.hid (r2.below hB2)
  have O2 := Lib.hid (o2.below hB2)
  have FR2 := Lib.hid (fr2.below hB2 r2.lt)
  have FO2 := Lib.hid (fo2.below hB2 o2.lt)
  have B2 := Lib.hid (b2.trans (hB2.mono b2.size))
  clear r2 o2 fr2 fo2 b2 hB2
  have e0 := O2.out 0 _ rfl
  have e1 := O2.out 1 _ rfl
  have e2 := O2.out 2 _ rfl
  have e3 := O2.out 3 _ rfl
  have e4 := O2.out 4 _ rfl
  have e5 := O2.out 5 _ rfl
  have e6 := O2.out 6 _ rfl
  have e7 := O2.out 7 _ rfl
  have g5 := FO2.out 5
  have g6 := FO2.out 6
  have g7 := FO2.out 7
  have q0 := R2.out 0 _ rfl
  have p0 := FR2.out 0
  have q1 := R2.out 1 _ rfl
  have p1 := FR2.out 1
  have q2 := R2.out 2 _ rfl
  have p2 := FR2.out 2
  have q3 := R2.out 3 _ rfl
  have p3 := FR2.out 3
  have q4 := R2.out 4 _ rfl
  have p4 := FR2.out 4
  have q5 := R2.out 5 _ rfl
  have p5 := FR2.out 5
  have q6 := R2.out 6 _ rfl
  have p6 := FR2.out 6
  have q7 := R2.out 7 _ rfl
  have p7 := FR2.out 7
  have HB := Lib.hid (((((((((((B2.out.setCell (p := ⟨w.heap.size + 1 + 1, 5, none⟩) (show w.heap.size ≤ w.heap.size + 1 + 1 by omega) (.float .f32 h.s)).setCell (p := ⟨w.heap.size + 1 + 1, 6, none⟩) (show w.heap.size ≤ w.heap.size + 1 + 1 by omega) (.float .f32 h.t)).setCell (p := ⟨w.heap.size + 1 + 1, 7, none⟩) (show w.heap.size ≤ w.heap.size + 1 + 1 by omega) (.float .f32 h.u)).setCell (p := ⟨w.heap.size + 1, 0, none⟩) (show w.heap.size ≤ w.heap.size + 1 by omega) (.int .i64 h.p)).setCell (p := ⟨w.heap.size + 1, 1, none⟩) (show w.heap.size ≤ w.heap.size + 1 by omega) (.int .i64 h.k)).setCell (p := ⟨w.heap.size + 1, 2, none⟩) (show w.heap.size ≤ w.heap.size + 1 by omega) (.float .f32 h.x)).setCell (p := ⟨w.heap.size + 1, 3, none⟩) (show w.heap.size ≤ w.heap.size + 1 by omega) (.float .f32 h.y)).setCell (p := ⟨w.heap.size + 1, 4, none⟩) (show w.heap.size ≤ w.heap.size + 1 by omega) (.float .f32 h.z)).setCell (p := ⟨w.heap.size + 1, 5, none⟩) (show w.heap.size ≤ w.heap.size + 1 by omega) (.float .f32 h.s)).setCell (p := ⟨w.heap.size + 1, 6, none⟩) (show w.heap.size ≤ w.heap.size + 1 by omega) (.float .f32 h.t)).setCell (p := ⟨w.heap.size + 1, 7, none⟩) (show w.heap.size ≤ w.heap.size + 1 by omega) (.float .f32 h.u))
  have HR : RowKit.Hid (At _ (w.heap.size + 1) [.int .i64 h.p, .int .i64 h.k, .float .f32 h.x, .float .f32 h.y, .float .f32 h.z, .float .f32 h.s, .float .f32 h.t, .float .f32 h.u]) := Lib.hid (((((((((((R2.out.far (a := ⟨w.heap.size + 1 + 1, 5, none⟩) (u := .float .f32 h.s) (show w.heap.size + 1 + 1 ≠ w.heap.size + 1 by omega)).far (a := ⟨w.heap.size + 1 + 1, 6, none⟩) (u := .float .f32 h.t) (show w.heap.size + 1 + 1 ≠ w.heap.size + 1 by omega)).far (a := ⟨w.heap.size + 1 + 1, 7, none⟩) (u := .float .f32 h.u) (show w.heap.size + 1 + 1 ≠ w.heap.size + 1 by omega)).set 0 (.int .i64 h.p)).set 1 (.int .i64 h.k)).set 2 (.float .f32 h.x)).set 3 (.float .f32 h.y)).set 4 (.float .f32 h.z)).set 5 (.float .f32 h.s)).set 6 (.float .f32 h.t)).set 7 (.float .f32 h.u))
  go_wp2
  clear e0 e1 e2 e3 e4 e5 e6 e7 g5 g6 g7 q0 q1 q2 q3 q4 q5 q6 q7 p0 p1 p2 p3 p4 p5 p6 p7
  have m0 := HR.out 0 _ rfl
  have m1 := HR.out 1 _ rfl
  have m2 := HR.out 2 _ rfl
  have m3 := HR.out 3 _ rfl
  have m4 := HR.out 4 _ rfl
  have m5 := HR.out 5 _ rfl
  have m6 := HR.out 6 _ rfl
  have m7 := HR.out 7 _ rfl
  refine bodyPost_ret (v := h.v) (by simp [HW.v, results, Try.results91, go_sem, m0, m1, m2, m3, m4, m5, m6, m7]) rfl ⟨rfl, HB.out⟩
theorem laws_eqHold (h q : HW) (c : HC) (w : World) (i : h.Is c) (j : q.Is c) :
    Calls Try.prog 95 #[h.v, q.v] w fun e w' => e = .returned (.bool true) ∧ Below w.heap.size w w' := by
  have u := Try.underlying31
  have u' := Try.underlying80
  have ui := Try.underlying2
  have uh := Try.underlying117
  have uv := Try.underlying34
  unfold HW.v
  have hp : h.p = q.p := i.1.trans j.1.symm
  have hk : h.k = q.k := i.2.1.trans j.2.1.symm
  have hp1 : (h.p == q.p) = true := by rw [hp]; simp
  have hp2 : (h.p != q.p) = false := by rw [hp]; simp
  have hk1 : (h.k == q.k) = true := by rw [hk]; simp
  have hk2 : (h.k != q.k) = false := by rw [hk]; simp
  have I := Lib.hid i
  have J := Lib.hid j
  clear i j hp hk
  have a0 : At ((w.alloc (HBox h 117)).alloc (HBox q 117)) w.heap.size h.l := At.new.alloc
  have a1 : At ((w.alloc (HBox h 117)).alloc (HBox q 117)) (w.heap.size + 1) q.l := by
    have := At.new (w := w.alloc (HBox h 117)) (vs := q.l) (t := 117)
    rw [World.size_alloc] at this
    exact this
  have b0 : Below w.heap.size w ((w.alloc (HBox h 117)).alloc (HBox q 117)) := ((Below.refl _ _).alloc (Nat.le_refl _) _).alloc (by simp) _
  have A0 := Lib.hid a0
  have A1 := Lib.hid a1
  have B0 := Lib.hid b0
  clear a0 a1 b0
  go_enter Try.func95, Try.ntmps95
  go_wp2_with fail
  change Calls _ _ _ ((w.alloc (HBox h 117)).alloc (HBox q 117)) _
  generalize ((w.alloc (HBox h 117)).alloc (HBox q 117)) = W at *
  refine (laws_eqVector _ _ _ _ _ _ _ _ _ _ I.out.2.2.1.1 I.out.2.2.1.2.1 I.out.2.2.1.2.2 J.out.2.2.1.1 J.out.2.2.1.2.1 J.out.2.2.1.2.2).mono ?_
  rintro e w1 ⟨rfl, hB1⟩
  have A2 := Lib.hid (A0.out.below hB1)
  have A3 := Lib.hid (A1.out.below hB1)
  have B1 := Lib.hid (B0.out.trans (hB1.mono B0.out.size))
  clear hB1
  have k5 := A2.out 5 _ rfl
  have k6 := A2.out 6 _ rfl
  have k7 := A2.out 7 _ rfl
  have m5 := A3.out 5 _ rfl
  have m6 := A3.out 6 _ rfl
  have m7 := A3.out 7 _ rfl
  go_wp2_with fail
  refine (laws_eqVector _ _ _ _ _ _ _ _ _ _ I.out.2.2.2.1 I.out.2.2.2.2.1 I.out.2.2.2.2.2 J.out.2.2.2.1 J.out.2.2.2.2.1 J.out.2.2.2.2.2).mono ?_
  rintro e w2 ⟨rfl, hB2⟩
  have B2 := Lib.hid (B1.out.trans (hB2.mono B1.out.size))
  clear hB2
  go_wp2
  go_ret
  exact ⟨rfl, B2.out⟩
/-- Which holds have the form of one: the program. -/
theorem impl_IsHold (h : HW) (c : HC) (w : World) (i : h.Is c) :
    Calls Try.prog 154 #[h.v] w fun e w' => e = .returned (.bool (holdB c)) ∧ Below w.heap.size w w' := by
  have u := Try.underlying31
  have ui := Try.underlying2
  have uh := Try.underlying117
  have uv := Try.underlying34
  unfold HW.v holdB
  have JF := Lib.hid (fun w => impl_isFiniteVector h.x h.y h.z c.2.2.1 w i.2.2.1.1 i.2.2.1.2.1 i.2.2.1.2.2)
  have JW := Lib.hid (fun w => impl_isFiniteVector h.s h.t h.u c.2.2.2 w i.2.2.2.1 i.2.2.2.2.1 i.2.2.2.2.2)
  have JI := Lib.hid (fun w => impl_InnerOf h.s h.t h.u h.s h.t h.u w _ _ _ _ _ _ i.2.2.2.1 i.2.2.2.2.1 i.2.2.2.2.2 i.2.2.2.1 i.2.2.2.2.1 i.2.2.2.2.2)
  have hin : fop .add .f32 (fop .add .f32 (fop .mul .f32 c.2.2.2.1 c.2.2.2.1) (fop .mul .f32 c.2.2.2.2.1 c.2.2.2.2.1)) (fop .mul .f32 c.2.2.2.2.2 c.2.2.2.2.2) = innC c.2.2.2 c.2.2.2 := rfl
  rw [hin] at JI
  rw [← i.1, ← i.2.1]
  have A0 := Lib.hid (At.new (w := w) (vs := h.l) (t := 117))
  have B0 := Lib.hid ((Below.refl w.heap.size w).alloc (Nat.le_refl _) (HBox h 117))
  generalize innC c.2.2.2 c.2.2.2 = N at *
  generalize finV c.2.2.1 = f1 at *
  generalize finV c.2.2.2 = f2 at *
  clear i hin
  by_cases hp : 0 ≤ h.p
  · have hp0 : decide (h.p < 0) = false := decide_eq_false (by omega)
    rw [decide_eq_true hp]
    cases f1
    · go_enter Try.func154, Try.ntmps154
      go_wp2_with fail
      change Calls _ _ _ (w.alloc (HBox h 117)) _
      refine (JF.out _).mono ?_
      rintro e w1 ⟨rfl, hB1⟩
      have B1 := Lib.hid (B0.out.trans (hB1.mono B0.out.size))
      clear hB1
      go_wp2
      go_ret
      exact ⟨rfl, B1.out⟩
    · cases f2
      · go_enter Try.func154, Try.ntmps154
        go_wp2_with fail
        change Calls _ _ _ (w.alloc (HBox h 117)) _
        refine (JF.out _).mono ?_
        rintro e w1 ⟨rfl, hB1⟩
        have A1 := A0.out.below hB1
        have B1 := Lib.hid (B0.out.trans (hB1.mono B0.out.size))
        have k5 := A1 5 _ rfl
        have k6 := A1 6 _ rfl
        have k7 := A1 7 _ rfl
        clear hB1 A1
        go_wp2_with fail
        refine (JW.out _).mono ?_
        rintro e w2 ⟨rfl, hB2⟩
        have B2 := Lib.hid (B1.out.trans (hB2.mono B1.out.size))
        clear hB2
        go_wp2
        go_ret
        exact ⟨rfl, B2.out⟩
      · by_cases h0 : h.k = 0
        · have e0 : (h.k == 0) = true := by rw [h0]; rfl
          rw [decide_eq_true h0]
          clear h0
          go_enter Try.func154, Try.ntmps154
          go_wp2_with fail
          change Calls _ _ _ (w.alloc (HBox h 117)) _
          refine (JF.out _).mono ?_
          rintro e w1 ⟨rfl, hB1⟩
          have A1 := A0.out.below hB1
          have A1h := Lib.hid A1
          have B1 := Lib.hid (B0.out.trans (hB1.mono B0.out.size))
          have k5 := A1 5 _ rfl
          have k6 := A1 6 _ rfl
          have k7 := A1 7 _ rfl
          clear hB1 A1
          go_wp2_with fail
          refine (JW.out _).mono ?_
          rintro e w2 ⟨rfl, hB2⟩
          have B2 := Lib.hid (B1.out.trans (hB2.mono B1.out.size))
          have k1 := A1h.out.below hB2 1 _ rfl
          clear hB2
          go_wp2
          go_ret
          exact ⟨rfl, B2.out⟩
        · have e0 : (h.k == 0) = false := beq_eq_false_iff_ne.2 h0
          rw [decide_eq_false h0]
          by_cases h1 : h.k = 1 ∨ h.k = 2
          · have hd : (decide (h.k = 1) || decide (h.k = 2)) = true := by rcases h1 with h1 | h1 <;> simp [h1]
            rw [hd]
            clear hd
            have e12 : ((h.k == 1) = true ∧ (h.k == 2) = false) ∨ ((h.k == 1) = false ∧ (h.k == 2) = true) := by rcases h1 with h1 | h1 <;> simp [h1]
            clear h0 h1
            rcases e12 with ⟨e1, e2⟩ | ⟨e1, e2⟩
            all_goals
              go_enter Try.func154, Try.ntmps154
              go_wp2_with fail
              change Calls _ _ _ (w.alloc (HBox h 117)) _
              refine (JF.out _).mono ?_
              rintro e w1 ⟨rfl, hB1⟩
              have A1 := A0.out.below hB1
              have A1h := Lib.hid A1
              have B1 := Lib.hid (B0.out.trans (hB1.mono B0.out.size))
              have k5 := A1 5 _ rfl
              have k6 := A1 6 _ rfl
              have k7 := A1 7 _ rfl
              clear hB1 A1
              go_wp2_with fail
              refine (JW.out _).mono ?_
              rintro e w2 ⟨rfl, hB2⟩
              clear k5 k6 k7
              have B2 := Lib.hid (B1.out.trans (hB2.mono B1.out.size))
              have k1 := A1h.out.below hB2 1 _ rfl
              have k5 := A1h.out.below hB2 5 _ rfl
              have k6 := A1h.out.below hB2 6 _ rfl
              have k7 := A1h.out.below hB2 7 _ rfl
              clear hB2
              go_wp2_with fail
              refine (JI.out _).mono ?_
              rintro e w3 ⟨r, rfl, hr, hB3⟩
              have B3 := Lib.hid (B2.out.trans (hB3.mono B2.out.size))
              clear hB3
              have hM := Lib.hid (fun w => impl_isMeasure r w hr.1)
              rw [hr.size] at hM
              go_wp2_with (go_at_call 124; refine (hM.out _).mono ?_; rintro e w4 ⟨rfl, n, hw⟩; rw [hw]; clear hw w4)
              go_ret
              exact ⟨ret_bool (by simp), by repeat (first | exact B3.out | refine below_drewN ?_ _)⟩
          · have hd : (decide (h.k = 1) || decide (h.k = 2)) = false := by simp; omega
            have e1 : (h.k == 1) = false := beq_eq_false_iff_ne.2 (by omega)
            have e2 : (h.k == 2) = false := beq_eq_false_iff_ne.2 (by omega)
            rw [hd]
            clear hd h0 h1
            go_enter Try.func154, Try.ntmps154
            go_wp2_with fail
            change Calls _ _ _ (w.alloc (HBox h 117)) _
            refine (JF.out _).mono ?_
            rintro e w1 ⟨rfl, hB1⟩
            have A1 := A0.out.below hB1
            have A1h := Lib.hid A1
            have B1 := Lib.hid (B0.out.trans (hB1.mono B0.out.size))
            have k5 := A1 5 _ rfl
            have k6 := A1 6 _ rfl
            have k7 := A1 7 _ rfl
            clear hB1 A1
            go_wp2_with fail
            refine (JW.out _).mono ?_
            rintro e w2 ⟨rfl, hB2⟩
            have B2 := Lib.hid (B1.out.trans (hB2.mono B1.out.size))
            have k1 := A1h.out.below hB2 1 _ rfl
            clear hB2
            go_wp2
            go_ret
            exact ⟨rfl, B2.out⟩
  · have hp0 : decide (h.p < 0) = true := decide_eq_true (by omega)
    rw [decide_eq_false hp]
    go_enter Try.func154, Try.ntmps154
    go_wp2
    go_ret
    exact ⟨rfl, B0.out⟩
end Go.Proofs.Ytmbekamnogbgaaa


/-
Lists of holds: copies, and that two are the same: what the law's own functions return. Conditions: at most 2^20 of them.
-/
namespace Go.Proofs.Ytmbekamnogbgaaa
open Go Fk Go.RowKit
set_option linter.unusedVariables false
set_option maxRecDepth 8000

theorem infoH : (Try.prog.info? 117).map (fun i => (i.zero, i.size, i.bytes)) = some (some (.agg #[.int .i64 0, .int .i64 0, .float .f32 0, .float .f32 0, .float .f32 0, .float .f32 0, .float .f32 0, .float .f32 0]), 8, 40) := by kernel_rfl
theorem laws_szHoldS (a : Option Addr) (len cap : Nat) (left : Int) (w : World) (h0 : 0 ≤ left) (h1 : left ≤ 1048576) (h2 : len ≤ 9223372036854775807) :
    Calls Try.prog 32 #[.slice a len cap, .int .i64 left] w fun e w' => (∃ r : Int, e = .returned (.int .i64 r) ∧ (r = -1 ∨ (0 ≤ r ∧ r ≤ 1048576 ∧ len ≤ 1048576))) ∧ w' = w := by
  by_cases h : left < len
  · go_enter Try.func32, Try.ntmps32
    go_wp2
    go_ret
    exact ⟨⟨-1, rfl, .inl rfl⟩, rfl⟩
  · go_enter Try.func32, Try.ntmps32
    go_wp2
    go_ret
    exact ⟨⟨_, rfl, .inr ⟨by omega, by omega, by omega⟩⟩, rfl⟩
set_option maxHeartbeats 1000000 in
theorem laws_toHoldS (a : Option Addr) (len cap : Nat) (hs : List HC) (w : World) (h : IsHs w a len cap hs) (hlen : len ≤ 1048576) :
    Calls Try.prog 34 #[.slice a len cap] w fun e w' => e = .returned (.slice (some ⟨w.heap.size, 0, none⟩) len len) ∧ IsHs w' (some ⟨w.heap.size, 0, none⟩) len len hs ∧ Below w.heap.size w w' := by
  have uh := Try.underlying117
  have ul := Try.underlying120
  obtain ⟨i0, hi, hz0, hz1, hz2⟩ := info_parts infoH
  have hzl := h.1
  have hwf := h.2.2.2.1
  obtain ⟨g, hg⟩ : ∃ g, g = w.heap.size := ⟨_, rfl⟩
  have hmk : (Instr.makeSlice 61 (.int .i64 len) (.int .i64 len)).run Try.prog w = .ok (.slice (some ⟨g, 0, none⟩) len len) (w.alloc (.cells (madeCells #[.int .i64 0, .int .i64 0, .float .f32 0, .float .f32 0, .float .f32 0, .float .f32 0, .float .f32 0, .float .f32 0] (len * 8)) 117)) := by
    have := run_make (P := Try.prog) w 61 117 i0 (.agg #[.int .i64 0, .int .i64 0, .float .f32 0, .float .f32 0, .float .f32 0, .float .f32 0, .float .f32 0, .float .f32 0]) Try.underlying61 hi hz0 .i64 .i64 len len (by omega) (Int.le_refl _) (by rw [hz2]; omega) (by omega)
    rw [this, hz1, hg]; simp; rfl
  have hstart : Below w.heap.size w (w.alloc (.cells (madeCells #[.int .i64 0, .int .i64 0, .float .f32 0, .float .f32 0, .float .f32 0, .float .f32 0, .float .f32 0, .float .f32 0] (len * 8)) 117)) ∧ g < (w.alloc (.cells (madeCells #[.int .i64 0, .int .i64 0, .float .f32 0, .float .f32 0, .float .f32 0, .float .f32 0, .float .f32 0, .float .f32 0] (len * 8)) 117)).heap.size ∧
      (∀ j, j < len * 8 → ∃ v, (w.alloc (.cells (madeCells #[.int .i64 0, .int .i64 0, .float .f32 0, .float .f32 0, .float .f32 0, .float .f32 0, .float .f32 0, .float .f32 0] (len * 8)) 117)).cell? ⟨g, j, none⟩ = some v) ∧ (∀ j, (w.alloc (.cells (madeCells #[.int .i64 0, .int .i64 0, .float .f32 0, .float .f32 0, .float .f32 0, .float .f32 0, .float .f32 0, .float .f32 0] (len * 8)) 117)).frozen? ⟨g, j, none⟩ = false) := by
    subst hg
    exact ⟨(Below.refl _ _).alloc (Nat.le_refl _) _, by simp, fun j hj => made_cell3 w _ (len * 8) j _ hj, fun j => by simp⟩
  rw [← hg] at hstart ⊢
  have HST := Lib.hid hstart
  have HG := Lib.hid hg
  have H := Lib.hid h
  have HWF := Lib.hid hwf
  clear hstart hg h hwf
  go_enter Try.func34, Try.ntmps34
  go_wp2
  generalize hw0 : (w.alloc (.cells (madeCells #[.int .i64 0, .int .i64 0, .float .f32 0, .float .f32 0, .float .f32 0, .float .f32 0, .float .f32 0, .float .f32 0] (len * 8)) 117)) = w0 at HST ⊢
  go_loopw [4] (fun i w' => ∃ k : Nat, k ≤ len ∧ i = .int .i64 k ∧ Aside ((Below g w w' ∧ g < w'.heap.size ∧ (∀ j, j < len * 8 → ∃ v, w'.cell? ⟨g, j, none⟩ = some v) ∧ (∀ j, w'.frozen? ⟨g, j, none⟩ = false)) ∧
      ∀ j, j < k → ∃ q : HW, q.At w' g (j * 8) ∧ q.Is (hs.getD j hd0))) (fun i _ => len - (intOf i).toNat)
  case atStart => exact ⟨0, Nat.zero_le _, rfl, HST.out, fun j hj => absurd hj (by omega)⟩
  case round =>
    obtain ⟨k, hk, rfl, hA⟩ := hrel
    by_cases hlt : k < len
    · obtain ⟨⟨hB, hgs, hce, hfz⟩, hdone⟩ := hA.out
      obtain ⟨b, o, ha, hcell⟩ := (H.out.below (HG.out ▸ hB)).some (by omega)
      obtain ⟨h, hq, hqi⟩ := hcell k hlt
      rw [ha]
      have HA := Lib.hid ha
      have hk0 : (0 : Int) ≤ (k : Int) := by omega
      have hk1 : (k : Int) < (len : Int) := by omega
      have c0 := hq 0 (by omega)
      have c1 := hq 1 (by omega)
      have c2 := hq 2 (by omega)
      have c3 := hq 3 (by omega)
      have c4 := hq 4 (by omega)
      have c5 := hq 5 (by omega)
      have c6 := hq 6 (by omega)
      have c7 := hq 7 (by omega)
      simp only [HW.l, List.getElem?_cons_zero, List.getElem?_cons_succ, Nat.add_zero] at c0 c1 c2 c3 c4 c5 c6 c7
      have HD := Lib.hid hdone
      have HC := Lib.hid hce
      have HF := Lib.hid hfz
      have HB := Lib.hid hB
      have HQI := Lib.hid hqi
      clear hA hcell hdone hce hfz hB hqi ha hq
      go_wp2_with fail
      refine (laws_toHold h _).mono ?_
      rintro e w1 ⟨rfl, hB1⟩
      clear c0 c1 c2 c3 c4 c5 c6 c7
      obtain ⟨v0, hv0⟩ := HC.out (k * 8) (by omega)
      replace hv0 := (hB1.cell (p := ⟨g, k * 8, none⟩) hgs).trans hv0
      have hf0 := (hB1.frozen (p := ⟨g, k * 8, none⟩) hgs).trans (HF.out (k * 8))
      obtain ⟨v1, hv1⟩ := HC.out (k * 8 + 1) (by omega)
      replace hv1 := (hB1.cell (p := ⟨g, k * 8 + 1, none⟩) hgs).trans hv1
      have hf1 := (hB1.frozen (p := ⟨g, k * 8 + 1, none⟩) hgs).trans (HF.out (k * 8 + 1))
      obtain ⟨v2, hv2⟩ := HC.out (k * 8 + 2) (by omega)
      replace hv2 := (hB1.cell (p := ⟨g, k * 8 + 2, none⟩) hgs).trans hv2
      have hf2 := (hB1.frozen (p := ⟨g, k * 8 + 2, none⟩) hgs).trans (HF.out (k * 8 + 2))
      obtain ⟨v3, hv3⟩ := HC.out (k * 8 + 3) (by omega)
      replace hv3 := (hB1.cell (p := ⟨g, k * 8 + 3, none⟩) hgs).trans hv3
      have hf3 := (hB1.frozen (p := ⟨g, k * 8 + 3, none⟩) hgs).trans (HF.out (k * 8 + 3))
      obtain ⟨v4, hv4⟩ := HC.out (k * 8 + 4) (by omega)
      replace hv4 := (hB1.cell (p := ⟨g, k * 8 + 4, none⟩) hgs).trans hv4
      have hf4 := (hB1.frozen (p := ⟨g, k * 8 + 4, none⟩) hgs).trans (HF.out (k * 8 + 4))
      obtain ⟨v5, hv5⟩ := HC.out (k * 8 + 5) (by omega)
      replace hv5 := (hB1.cell (p := ⟨g, k * 8 + 5, none⟩) hgs).trans hv5
      have hf5 := (hB1.frozen (p := ⟨g, k * 8 + 5, none⟩) hgs).trans (HF.out (k * 8 + 5))
      obtain ⟨v6, hv6⟩ := HC.out (k * 8 + 6) (by omega)
      replace hv6 := (hB1.cell (p := ⟨g, k * 8 + 6, none⟩) hgs).trans hv6
      have hf6 := (hB1.frozen (p := ⟨g, k * 8 + 6, none⟩) hgs).trans (HF.out (k * 8 + 6))
      obtain ⟨v7, hv7⟩ := HC.out (k * 8 + 7) (by omega)
      replace hv7 := (hB1.cell (p := ⟨g, k * 8 + 7, none⟩) hgs).trans hv7
      have hf7 := (hB1.frozen (p := ⟨g, k * 8 + 7, none⟩) hgs).trans (HF.out (k * 8 + 7))
      have HB1 := Lib.hid hB1
      have HEX : Hid (∀ j, j < h.l.length → ∃ u, w1.cell? ⟨g, k * 8 + j, none⟩ = some u) := Lib.hid (fun j hj => by
        have hj8 : j < 8 := hj
        obtain ⟨u, hu⟩ := HC.out (k * 8 + j) (by omega)
        exact ⟨u, (hB1.cell (p := ⟨g, k * 8 + j, none⟩) hgs).trans hu⟩)
      clear hB1
      unfold HW.v
      go_wp2
      clear hv0 hv1 hv2 hv3 hv4 hv5 hv6 hv7 hf0 hf1 hf2 hf3 hf4 hf5 hf6 hf7
      go_roundw
      case rel =>
        have hB1 := HB1.out
        have hin := setL_in g h.l w1 (k * 8) HEX.out
        have hout := fun m hm => setL_out g m h.l w1 (k * 8) hm
        have hsz := setL_size g h.l w1 (k * 8)
        have hfr := fun i => setL_frozen g ⟨g, i, none⟩ h.l w1 (k * 8)
        have hbl : Below g w (setL w1 g (k * 8) h.l) := setL_below g (Nat.le_refl _) h.l w1 (k * 8) (HB.out.trans (hB1.mono (by omega)))
        refine ⟨k + 1, by omega, by go_num, ⟨⟨hbl, ?_, fun j hj => ?_, fun j => ?_⟩, fun j hj => ?_⟩⟩
        · show g < (setL w1 g (k * 8) h.l).heap.size
          rw [hsz]; have := hB1.size; omega
        · show ∃ v, (setL w1 g (k * 8) h.l).cell? ⟨g, j, none⟩ = some v
          by_cases hj8 : k * 8 ≤ j ∧ j < k * 8 + 8
          · have := hin (j - k * 8) (by show j - k * 8 < 8; omega)
            rw [show k * 8 + (j - k * 8) = j by omega] at this
            rw [this]
            exact ⟨_, List.getElem?_eq_getElem (by show j - k * 8 < 8; omega)⟩
          · rw [hout j (by show j < k * 8 ∨ k * 8 + 8 ≤ j; omega)]
            obtain ⟨v, hv⟩ := HC.out j hj
            exact ⟨v, (hB1.cell (p := ⟨g, j, none⟩) hgs).trans hv⟩
        · show (setL w1 g (k * 8) h.l).frozen? ⟨g, j, none⟩ = false
          rw [hfr]; exact (hB1.frozen (p := ⟨g, j, none⟩) hgs).trans (HF.out j)
        · show ∃ q : HW, q.At (setL w1 g (k * 8) h.l) g (j * 8) ∧ q.Is (hs.getD j hd0)
          by_cases hjk : j = k
          · subst hjk
            exact ⟨h, fun i hi => hin i hi, HQI.out⟩
          · obtain ⟨q, hq, hqi⟩ := HD.out j (by omega)
            refine ⟨q, fun i hi => ?_, hqi⟩
            rw [hout _ (by show j * 8 + i < k * 8 ∨ k * 8 + 8 ≤ j * 8 + i; omega)]
            exact (hB1.cell (p := ⟨g, j * 8 + i, none⟩) hgs).trans (hq i hi)
      case measure => simp [intOf]; omega
    · obtain rfl : k = len := by omega
      obtain ⟨⟨hB, hgs, hce, hfz⟩, hdone⟩ := hA.out
      have hfin : IsHs wr (some ⟨g, 0, none⟩) k k hs := by
        refine ⟨hzl, Nat.le_refl _, by unfold maxLen; omega, HWF.out, by simp, fun x hx i hi => ?_⟩
        cases hx
        obtain ⟨q, hq, hqi⟩ := hdone i hi
        exact ⟨rfl, q, by rw [Nat.zero_add]; exact hq, hqi⟩
      have HF := Lib.hid hfin
      have HB := Lib.hid hB
      clear hA hB hce hfz hdone hfin
      go_wp2
      go_ret
      exact ⟨rfl, HF.out, HB.out⟩
set_option maxHeartbeats 1000000 in
theorem laws_eqHoldS (a b : Option Addr) (len cap cap' : Nat) (hs : List HC) (w : World) (ha : IsHs w a len cap hs) (hb : IsHs w b len cap' hs) :
    Calls Try.prog 36 #[.slice a len cap, .slice b len cap'] w fun e w' => e = .returned (.bool true) ∧ Below w.heap.size w w' := by
  have hm : len ≤ 9223372036854775807 := by have h1 := ha.2.1; have h2 := ha.2.2.1; unfold maxLen at h2; omega
  have uh := Try.underlying117
  have HA := Lib.hid ha
  have HB := Lib.hid hb
  clear ha hb
  go_enter Try.func36, Try.ntmps36
  go_wp2
  go_loopw [5] (fun i w' => ∃ k : Nat, k ≤ len ∧ i = .int .i64 k ∧ Aside (Below w.heap.size w w')) (fun i _ => len - (intOf i).toNat)
  case atStart => exact ⟨0, Nat.zero_le _, rfl, Below.refl _ _⟩
  case round =>
    obtain ⟨k, hk, rfl, hR⟩ := hrel
    have HR := Lib.hid hR.out
    clear hR
    by_cases hlt : k < len
    · obtain ⟨b1, o1, rfl, hc1⟩ := (HA.out.below HR.out).some (by omega)
      obtain ⟨b2, o2, rfl, hc2⟩ := (HB.out.below HR.out).some (by omega)
      obtain ⟨h, q1, i1⟩ := hc1 k hlt
      obtain ⟨q, q2, i2⟩ := hc2 k hlt
      generalize hs.getD k hd0 = z at *
      have Qh := Lib.hid q1
      have Qq := Lib.hid q2
      have IH := Lib.hid i1
      have IQ := Lib.hid i2
      have hk0 : (0 : Int) ≤ (k : Int) := by omega
      have hk1 : (k : Int) < (len : Int) := by omega
      clear hc1 hc2 q1 q2 i1 i2
      go_wp2_with fail
      refine Reg.wp_region_mix (C := fun w' => Below wr.heap.size wr w') (G := fun _ _ => True) (R := fun i v w' => match i with | 0 => v = .slice (some ⟨b1, o1, none⟩) len cap | 1 => v = .int .i64 k | 2 => v = .pointer (some ⟨b1, o1 + k * 8, none⟩) | 3 => v = .agg #[.int .i64 h.p, .int .i64 h.k, .float .f32 h.x, .float .f32 h.y, .float .f32 h.z, .float .f32 h.s, .float .f32 h.t, .float .f32 h.u] | 4 => v = .slice (some ⟨b2, o2, none⟩) len cap' | 5 => v = .int .i64 k | 6 => v = .pointer (some ⟨b2, o2 + k * 8, none⟩) | 7 => v = .agg #[.int .i64 q.p, .int .i64 q.k, .float .f32 q.x, .float .f32 q.y, .float .f32 q.z, .float .f32 q.s, .float .f32 q.t, .float .f32 q.u] | 8 => v = .bool true | 9 => v = .bool false | _ => True) (T := fun _ _ _ => True) [false, false, false, false, false, false, false, false, false, false, false, false, false, false, false, false, false, true, true, true, true, true, true, true, true, true, true]
        (by kernel_rfl) (by kernel_rfl) (by kernel_rfl) (fun _ _ _ _ _ _ h => h) (below_drewN (Below.refl _ _) 1) ?_ ?_
      · refine ⟨Reg.Obl.mk ?_, Reg.Obl.mk ?_, Reg.Obl.mk ?_, Reg.Obl.mk ?_, Reg.Obl.mk ?_, Reg.Obl.mk ?_, Reg.Obl.mk ?_, Reg.Obl.mk ?_, Reg.Obl.mk ?_, Reg.Obl.mk ?_, trivial⟩
        · rintro a w1 hC hx hd K hK
          have HC := Lib.hid hC
          clear hC
          have t0 : a.tmps[0]?.getD undef = .slice (some ⟨b1, o1, none⟩) len cap := Reg.slot_val (hx 0 (by kernel_rfl))
          go_simp
          exact hK _ _ (fun _ => rfl) (fun h => by cases h) HC.out trivial
        · rintro a w1 hC hx hd K hK
          have HC := Lib.hid hC
          clear hC
          have t5 : a.tmps[5]?.getD undef = .int .i64 k := Reg.slot_val (hx 5 (by kernel_rfl))
          go_simp
          exact hK _ _ (fun _ => rfl) (fun h => by cases h) HC.out trivial
        · rintro a w1 hC hx hd K hK
          have HC := Lib.hid hC
          clear hC
          have t17 : a.tmps[17]?.getD undef = .slice (some ⟨b1, o1, none⟩) len cap := Reg.slot_val (hd 0 (by kernel_rfl) 17 rfl)
          have t18 : a.tmps[18]?.getD undef = .int .i64 k := Reg.slot_val (hd 1 (by kernel_rfl) 18 rfl)
          go_simp
          exact hK _ _ (fun _ => rfl) (fun h => by cases h) HC.out trivial
        · rintro a w1 hC hx hd K hK
          have HC := Lib.hid hC
          clear hC
          have c0 := (Qh.out.below HC.out) 0 (by omega)
          have c1 := (Qh.out.below HC.out) 1 (by omega)
          have c2 := (Qh.out.below HC.out) 2 (by omega)
          have c3 := (Qh.out.below HC.out) 3 (by omega)
          have c4 := (Qh.out.below HC.out) 4 (by omega)
          have c5 := (Qh.out.below HC.out) 5 (by omega)
          have c6 := (Qh.out.below HC.out) 6 (by omega)
          have c7 := (Qh.out.below HC.out) 7 (by omega)
          simp only [HW.l, List.getElem?_cons_zero, List.getElem?_cons_succ, Nat.add_zero] at c0 c1 c2 c3 c4 c5 c6 c7
          have t19 : a.tmps[19]?.getD undef = .pointer (some ⟨b1, o1 + k * 8, none⟩) := Reg.slot_val (hd 2 (by kernel_rfl) 19 rfl)
          go_simp
          exact hK _ _ (fun _ => rfl) (fun h => by cases h) HC.out trivial
        · rintro a w1 hC hx hd K hK
          have HC := Lib.hid hC
          clear hC
          have t1 : a.tmps[1]?.getD undef = .slice (some ⟨b2, o2, none⟩) len cap' := Reg.slot_val (hx 1 (by kernel_rfl))
          go_simp
          exact hK _ _ (fun _ => rfl) (fun h => by cases h) HC.out trivial
        · rintro a w1 hC hx hd K hK
          have HC := Lib.hid hC
          clear hC
          have t5 : a.tmps[5]?.getD undef = .int .i64 k := Reg.slot_val (hx 5 (by kernel_rfl))
          go_simp
          exact hK _ _ (fun _ => rfl) (fun h => by cases h) HC.out trivial
        · rintro a w1 hC hx hd K hK
          have HC := Lib.hid hC
          clear hC
          have t21 : a.tmps[21]?.getD undef = .slice (some ⟨b2, o2, none⟩) len cap' := Reg.slot_val (hd 4 (by kernel_rfl) 21 rfl)
          have t22 : a.tmps[22]?.getD undef = .int .i64 k := Reg.slot_val (hd 5 (by kernel_rfl) 22 rfl)
          go_simp
          exact hK _ _ (fun _ => rfl) (fun h => by cases h) HC.out trivial
        · rintro a w1 hC hx hd K hK
          have HC := Lib.hid hC
          clear hC
          have c0 := (Qq.out.below HC.out) 0 (by omega)
          have c1 := (Qq.out.below HC.out) 1 (by omega)
          have c2 := (Qq.out.below HC.out) 2 (by omega)
          have c3 := (Qq.out.below HC.out) 3 (by omega)
          have c4 := (Qq.out.below HC.out) 4 (by omega)
          have c5 := (Qq.out.below HC.out) 5 (by omega)
          have c6 := (Qq.out.below HC.out) 6 (by omega)
          have c7 := (Qq.out.below HC.out) 7 (by omega)
          simp only [HW.l, List.getElem?_cons_zero, List.getElem?_cons_succ, Nat.add_zero] at c0 c1 c2 c3 c4 c5 c6 c7
          have t23 : a.tmps[23]?.getD undef = .pointer (some ⟨b2, o2 + k * 8, none⟩) := Reg.slot_val (hd 6 (by kernel_rfl) 23 rfl)
          go_simp
          exact hK _ _ (fun _ => rfl) (fun h => by cases h) HC.out trivial
        · rintro a w1 hC hx hd K hK
          have HC := Lib.hid hC
          clear hC
          have t20 : a.tmps[20]?.getD undef = .agg #[.int .i64 h.p, .int .i64 h.k, .float .f32 h.x, .float .f32 h.y, .float .f32 h.z, .float .f32 h.s, .float .f32 h.t, .float .f32 h.u] := Reg.slot_val (hd 3 (by kernel_rfl) 20 rfl)
          have t24 : a.tmps[24]?.getD undef = .agg #[.int .i64 q.p, .int .i64 q.k, .float .f32 q.x, .float .f32 q.y, .float .f32 q.z, .float .f32 q.s, .float .f32 q.t, .float .f32 q.u] := Reg.slot_val (hd 7 (by kernel_rfl) 24 rfl)
          go_simp
          refine (laws_eqHold h q z _ IH.out IQ.out).mono ?_
          rintro en w2 ⟨rfl, hB2⟩
          exact hK _ _ (fun _ => rfl) (fun h => by cases h) (HC.out.trans (hB2.mono HC.out.size)) trivial
        · rintro a w1 hC hx hd K hK
          have HC := Lib.hid hC
          clear hC
          have t25 : a.tmps[25]?.getD undef = .bool true := Reg.slot_val (hd 8 (by kernel_rfl) 25 rfl)
          go_simp
          exact hK _ _ (fun _ => rfl) (fun h => by cases h) HC.out trivial
      rintro f w1 hC hd hT
      have g26 : f 26 = .bool false := hd 9 26 rfl
      simp only [Reg.mixL, g26]
      have HC := Lib.hid (HR.out.trans (hC.mono HR.out.size))
      clear hC hd hT
      go_wp2
      go_roundw
      case rel => exact ⟨k + 1, by omega, by go_num, HC.out⟩
      case measure => simp [intOf]; omega
    · obtain rfl : k = len := by omega
      go_wp2
      go_ret
      exact ⟨rfl, HR.out⟩
end Go.Proofs.Ytmbekamnogbgaaa


/-
Which holds have the form of one: the model. Conditions: none beyond that the words fit.
-/
namespace Go.Proofs.Ytmbekamnogbgaaa
open Go Fk Go.RowKit
set_option linter.unusedVariables false
set_option maxRecDepth 8000

theorem l00In2 (k : Int) (w : World) : Calls Try.prog 106 #[.int .i64 k, .int .i64 0, .int .i64 2] w fun e w' => e = .returned (.bool (decide (0 ≤ k ∧ k ≤ 2))) ∧ w' = w := by
  by_cases h : 0 ≤ k
  · by_cases h2 : k ≤ 2
    · rw [decide_eq_true ⟨h, h2⟩]
      go_enter Try.func106, Try.ntmps106
      go_wp2
      go_ret
      exact ⟨ret_bool (by first | (simp; done) | (simp; omega)), rfl⟩
    · rw [decide_eq_false (fun hh => h2 hh.2)]
      go_enter Try.func106, Try.ntmps106
      go_wp2
      go_ret
      exact ⟨ret_bool (by first | (simp; done) | (simp; omega)), rfl⟩
  · rw [decide_eq_false (fun hh => h hh.1)]
    go_enter Try.func106, Try.ntmps106
    go_wp2
    go_ret
    exact ⟨rfl, rfl⟩
theorem Fk.HW.At.c0 {w : World} {b o : Nat} {h : HW} (a : h.At w b o) : w.cell? ⟨b, o, none⟩ = some (.int .i64 h.p) := a 0 (by omega)
theorem Fk.HW.At.c1 {w : World} {b o : Nat} {h : HW} (a : h.At w b o) : w.cell? ⟨b, o + 1, none⟩ = some (.int .i64 h.k) := a 1 (by omega)
theorem Fk.HW.At.c2 {w : World} {b o : Nat} {h : HW} (a : h.At w b o) : w.cell? ⟨b, o + 2, none⟩ = some (.float .f32 h.x) := a 2 (by omega)
theorem Fk.HW.At.c3 {w : World} {b o : Nat} {h : HW} (a : h.At w b o) : w.cell? ⟨b, o + 2 + 1, none⟩ = some (.float .f32 h.y) := a 3 (by omega)
theorem Fk.HW.At.c4 {w : World} {b o : Nat} {h : HW} (a : h.At w b o) : w.cell? ⟨b, o + 2 + 2, none⟩ = some (.float .f32 h.z) := a 4 (by omega)
theorem Fk.HW.At.c5 {w : World} {b o : Nat} {h : HW} (a : h.At w b o) : w.cell? ⟨b, o + 5, none⟩ = some (.float .f32 h.s) := a 5 (by omega)
theorem Fk.HW.At.c6 {w : World} {b o : Nat} {h : HW} (a : h.At w b o) : w.cell? ⟨b, o + 5 + 1, none⟩ = some (.float .f32 h.t) := a 6 (by omega)
theorem Fk.HW.At.c7 {w : World} {b o : Nat} {h : HW} (a : h.At w b o) : w.cell? ⟨b, o + 5 + 2, none⟩ = some (.float .f32 h.u) := a 7 (by omega)
theorem Fk.HW.At.own {w : World} {b : Nat} {h : HW} (a : Go.Proofs.Ytmbekamnogbgaaa.At w b h.l) : h.At w b 0 := fun i hi => by
  rw [Nat.zero_add]
  have hl : i < h.l.length := hi
  rw [List.getElem?_eq_getElem hl]
  exact a i _ (List.getElem?_eq_getElem hl)
/-- Which holds have the form of one: the model. -/
theorem l04Is (b o : Nat) (h : HW) (c : HC) (w : World) (a : h.At w b o) (i : h.Is c) :
    Calls Try.prog 151 #[.pointer (some ⟨b, o, none⟩)] w fun e w' => e = .returned (.bool (holdB c)) ∧ Below w.heap.size w w' := by
  have u := Try.underlying31
  have ui := Try.underlying2
  have uh := Try.underlying117
  have uv := Try.underlying34
  unfold holdB
  have JK := Lib.hid (fun w => l00In2 h.k w)
  have JF := Lib.hid (fun w => l01VFinite h.x h.y h.z c.2.2.1 w i.2.2.1.1 i.2.2.1.2.1 i.2.2.1.2.2)
  have JW := Lib.hid (fun w => l01VFinite h.s h.t h.u c.2.2.2 w i.2.2.2.1 i.2.2.2.2.1 i.2.2.2.2.2)
  have JI := Lib.hid (fun w => l01Inner h.s h.t h.u h.s h.t h.u w _ _ _ _ _ _ i.2.2.2.1 i.2.2.2.2.1 i.2.2.2.2.2 i.2.2.2.1 i.2.2.2.2.1 i.2.2.2.2.2)
  have hin : fop .add .f32 (fop .add .f32 (fop .mul .f32 c.2.2.2.1 c.2.2.2.1) (fop .mul .f32 c.2.2.2.2.1 c.2.2.2.2.1)) (fop .mul .f32 c.2.2.2.2.2 c.2.2.2.2.2) = innC c.2.2.2 c.2.2.2 := rfl
  rw [hin] at JI
  rw [← i.1, ← i.2.1]
  have A0 := Lib.hid a
  have k0 := a.c0
  have k1 := a.c1
  have k2 := a.c2
  have k3 := a.c3
  have k4 := a.c4
  generalize innC c.2.2.2 c.2.2.2 = N at *
  generalize finV c.2.2.1 = f1 at *
  generalize finV c.2.2.2 = f2 at *
  clear i hin a
  by_cases hp : 0 ≤ h.p
  · have hp0 : decide (h.p < 0) = false := decide_eq_false (by omega)
    rw [decide_eq_true hp]
    by_cases hk : 0 ≤ h.k ∧ h.k ≤ 2
    · have hd : (decide (h.k = 1) || decide (h.k = 2)) = !decide (h.k = 0) := by
        rcases (show h.k = 0 ∨ h.k = 1 ∨ h.k = 2 by omega) with hh | hh | hh <;> simp [hh]
      rw [hd]
      rw [decide_eq_true hk] at JK
      have e0 : (h.k == 0) = decide (h.k = 0) := by by_cases hh : h.k = 0 <;> simp [hh]
      generalize decide (h.k = 0) = z at *
      clear hd hk
      cases f1
      · go_enter Try.func151, Try.ntmps151
        go_wp2_with fail
        refine (JK.out _).mono ?_
        rintro e w1 ⟨rfl, hw1⟩
        rw [hw1]; clear hw1 w1
        go_wp2_with fail
        refine (JF.out _).mono ?_
        rintro e w2 ⟨rfl, hB2⟩
        have B2 := Lib.hid hB2
        clear hB2
        go_wp2
        go_ret
        exact ⟨rfl, B2.out⟩
      · cases f2
        · go_enter Try.func151, Try.ntmps151
          go_wp2_with fail
          refine (JK.out _).mono ?_
          rintro e w1 ⟨rfl, hw1⟩
          rw [hw1]; clear hw1 w1
          go_wp2_with fail
          refine (JF.out _).mono ?_
          rintro e w2 ⟨rfl, hB2⟩
          have B2 := Lib.hid hB2
          have A2 := Lib.hid (A0.out.below hB2)
          have m5 := A2.out.c5
          have m6 := A2.out.c6
          have m7 := A2.out.c7
          clear hB2
          go_wp2_with fail
          refine (JW.out _).mono ?_
          rintro e w3 ⟨rfl, hB3⟩
          have B3 := Lib.hid (B2.out.trans (hB3.mono B2.out.size))
          clear hB3
          go_wp2
          go_ret
          exact ⟨rfl, B3.out⟩
        · cases z
          all_goals
            go_enter Try.func151, Try.ntmps151
            go_wp2_with fail
            refine (JK.out _).mono ?_
            rintro e w1 ⟨rfl, hw1⟩
            rw [hw1]; clear hw1 w1
            go_wp2_with fail
            refine (JF.out _).mono ?_
            rintro e w2 ⟨rfl, hB2⟩
            have B2 := Lib.hid hB2
            have A2 := Lib.hid (A0.out.below hB2)
            have m5 := A2.out.c5
            have m6 := A2.out.c6
            have m7 := A2.out.c7
            clear hB2 k0 k1 k2 k3 k4
            go_wp2_with fail
            refine (JW.out _).mono ?_
            rintro e w3 ⟨rfl, hB3⟩
            have B3 := Lib.hid (B2.out.trans (hB3.mono B2.out.size))
            have A3 := Lib.hid (A2.out.below hB3)
            have m1 := A3.out.c1
            clear m5 m6 m7 hB3
            have m5 := A3.out.c5
            have m6 := A3.out.c6
            have m7 := A3.out.c7
            go_wp2_with fail
            refine Reg.wp_region_mix (C := fun w' => Below w3.heap.size w3 w') (G := fun _ _ => True) (R := fun i v w' => match i with | 0 => v = .pointer (some ⟨b, o, none⟩) | 1 => v = .pointer (some ⟨b, o, none⟩) | 2 => v = .pointer (some ⟨b, o + 5, none⟩) | 3 => v = .agg #[.float .f32 h.s, .float .f32 h.t, .float .f32 h.u] | 4 => v = .pointer (some ⟨b, o, none⟩) | 5 => v = .pointer (some ⟨b, o, none⟩) | 6 => v = .pointer (some ⟨b, o + 5, none⟩) | 7 => v = .agg #[.float .f32 h.s, .float .f32 h.t, .float .f32 h.u] | 8 => ∃ r, v = .float .f32 r ∧ FV .f32 r N | 9 => ∃ r, v = .float .f32 r ∧ FV .f32 r N | _ => True) (T := fun _ _ _ => True) [false, false, false, true, false, false, false, false, false, false, false, false, false, false, false, false, false, false, false, false, false, false, false, false, false, false, false, false, false, false, false, false, false, true, true, true, true, true, true, true, true, true, false, false, false, false, false, false, false, false, false, false, false, false, false]
              (by kernel_rfl) (by kernel_rfl) (by kernel_rfl) (fun _ _ _ _ _ _ h => h) (below_drewN (Below.refl _ _) 1) ?_ ?_
            · refine ⟨Reg.Obl.mk ?_, Reg.Obl.mk ?_, Reg.Obl.mk ?_, Reg.Obl.mk ?_, Reg.Obl.mk ?_, Reg.Obl.mk ?_, Reg.Obl.mk ?_, Reg.Obl.mk ?_, Reg.Obl.mk ?_, Reg.Obl.mk ?_, trivial⟩
              · rintro a w1 hC hx hd K hK
                have HC := Lib.hid hC
                clear hC
                have t0 : a.tmps[0]?.getD undef = .pointer (some ⟨b, o, none⟩) := Reg.slot_val (hx 0 (by kernel_rfl))
                go_simp
                exact hK _ _ (fun _ => rfl) (fun h => by cases h) HC.out trivial
              · rintro a w1 hC hx hd K hK
                have HC := Lib.hid hC
                clear hC
                have t33 : a.tmps[33]?.getD undef = .pointer (some ⟨b, o, none⟩) := Reg.slot_val (hd 0 (by kernel_rfl) 33 rfl)
                go_simp
                exact hK _ _ (fun _ => rfl) (fun h => by cases h) HC.out trivial
              · rintro a w1 hC hx hd K hK
                have HC := Lib.hid hC
                clear hC
                have t34 : a.tmps[34]?.getD undef = .pointer (some ⟨b, o, none⟩) := Reg.slot_val (hd 1 (by kernel_rfl) 34 rfl)
                go_simp
                exact hK _ _ (fun _ => rfl) (fun h => by cases h) HC.out trivial
              · rintro a w1 hC hx hd K hK
                have HC := Lib.hid hC
                clear hC
                have z5 := (A3.out.below HC.out).c5
                have z6 := (A3.out.below HC.out).c6
                have z7 := (A3.out.below HC.out).c7
                have t35 : a.tmps[35]?.getD undef = .pointer (some ⟨b, o + 5, none⟩) := Reg.slot_val (hd 2 (by kernel_rfl) 35 rfl)
                go_simp
                exact hK _ _ (fun _ => rfl) (fun h => by cases h) HC.out trivial
              · rintro a w1 hC hx hd K hK
                have HC := Lib.hid hC
                clear hC
                have t0 : a.tmps[0]?.getD undef = .pointer (some ⟨b, o, none⟩) := Reg.slot_val (hx 0 (by kernel_rfl))
                go_simp
                exact hK _ _ (fun _ => rfl) (fun h => by cases h) HC.out trivial
              · rintro a w1 hC hx hd K hK
                have HC := Lib.hid hC
                clear hC
                have t37 : a.tmps[37]?.getD undef = .pointer (some ⟨b, o, none⟩) := Reg.slot_val (hd 4 (by kernel_rfl) 37 rfl)
                go_simp
                exact hK _ _ (fun _ => rfl) (fun h => by cases h) HC.out trivial
              · rintro a w1 hC hx hd K hK
                have HC := Lib.hid hC
                clear hC
                have t38 : a.tmps[38]?.getD undef = .pointer (some ⟨b, o, none⟩) := Reg.slot_val (hd 5 (by kernel_rfl) 38 rfl)
                go_simp
                exact hK _ _ (fun _ => rfl) (fun h => by cases h) HC.out trivial
              · rintro a w1 hC hx hd K hK
                have HC := Lib.hid hC
                clear hC
                have z5 := (A3.out.below HC.out).c5
                have z6 := (A3.out.below HC.out).c6
                have z7 := (A3.out.below HC.out).c7
                have t39 : a.tmps[39]?.getD undef = .pointer (some ⟨b, o + 5, none⟩) := Reg.slot_val (hd 6 (by kernel_rfl) 39 rfl)
                go_simp
                exact hK _ _ (fun _ => rfl) (fun h => by cases h) HC.out trivial
              · rintro a w1 hC hx hd K hK
                have HC := Lib.hid hC
                clear hC
                have t36 : a.tmps[36]?.getD undef = .agg #[.float .f32 h.s, .float .f32 h.t, .float .f32 h.u] := Reg.slot_val (hd 3 (by kernel_rfl) 36 rfl)
                have t40 : a.tmps[40]?.getD undef = .agg #[.float .f32 h.s, .float .f32 h.t, .float .f32 h.u] := Reg.slot_val (hd 7 (by kernel_rfl) 40 rfl)
                go_simp
                refine (JI.out _).mono ?_
                rintro en w5 ⟨r, rfl, hr, hB5⟩
                exact hK _ _ (fun _ => ⟨r, rfl, hr⟩) (fun h => by cases h) (HC.out.trans (hB5.mono HC.out.size)) trivial
              · rintro a w1 hC hx hd K hK
                have HC := Lib.hid hC
                clear hC
                obtain ⟨r41, g41, f41⟩ := hd 8 (by kernel_rfl) 41 rfl
                have t41 := Reg.slot_val g41
                clear g41
                go_simp
                exact hK _ _ (fun _ => ⟨_, rfl, f41⟩) (fun h => by cases h) HC.out trivial
            rintro f w4 hB4 hd hT
            obtain ⟨r, g3, hr⟩ := hd 9 3 rfl
            simp only [Reg.mixL, g3]
            clear hd hT g3
            have B4 := Lib.hid (B3.out.trans (hB4.mono B3.out.size))
            have A4 := Lib.hid (A3.out.below hB4)
            clear m1 m5 m6 m7
            have m1 := A4.out.c1
            clear hB4
            have hM := Lib.hid (fun w => l01Finite r w hr.1)
            have hs : (finB r && (FloatKind.f32.format.order r 0 == some .gt)) = sizeC N := hr.size
            first
              | (go_wp2
                 go_ret
                 exact ⟨ret_bool (by simp), B4.out⟩)
              | (generalize finB r = fr at *
                 cases fr
                 all_goals
                   go_wp2_with (go_at_call 118; refine (hM.out _).mono ?_; rintro e w5 ⟨rfl, n, hw⟩; rw [hw]; clear hw w5)
                   go_ret
                   exact ⟨ret_bool (by simp at hs; simp [hs]), by repeat (first | exact B4.out | refine below_drewN ?_ _)⟩)
    · have hd : (decide (h.k = 1) || decide (h.k = 2)) = false := by simp; omega
      have hd0 : decide (h.k = 0) = false := decide_eq_false (by omega)
      rw [hd, hd0]
      rw [decide_eq_false hk] at JK
      clear hd hd0 hk
      go_enter Try.func151, Try.ntmps151
      go_wp2_with fail
      refine (JK.out _).mono ?_
      rintro e w1 ⟨rfl, hw1⟩
      rw [hw1]; clear hw1 w1
      go_wp2
      go_ret
      exact ⟨ret_bool (by simp), Below.refl _ _⟩
  · have hp0 : decide (h.p < 0) = true := decide_eq_true (by omega)
    rw [decide_eq_false hp]
    go_enter Try.func151, Try.ntmps151
    go_wp2
    go_ret
    exact ⟨rfl, Below.refl _ _⟩
end Go.Proofs.Ytmbekamnogbgaaa


/-
A region whose order is open, with a store that need not come last: what the store leaves is kept by all that comes behind it. Conditions: no operation is guarded, every edge leads to an earlier operation, no slot is written twice.
-/
namespace Go.Proofs.Ytmbekamnogbgaaa
namespace Reg2
open Go Reg
set_option linter.unusedVariables false
section
variable {P : Program} {ops : Array Oper} {Q : Exit → Act → World → Prop} {md : Region.Mode}
def tidy (ops : Array Oper) (n : Nat) : Bool :=
  low ops && (ops.all fun o => o.guard.isNone) && (ops.all fun o => (o.dst.map fun d => decide (d < n)).getD true) &&
  ((List.range ops.size).all fun i => (List.range ops.size).all fun j => i == j || slotOf ops i == none || slotOf ops i != slotOf ops j)
/-- What is known of the world behind an operation without a slot. -/
def HasT (ops : Array Oper) (T : Nat → World → Prop) (j : Nat) (w : World) : Prop := slotOf ops j = none → j < ops.size → T j w
/-- What is asked of operation i. -/
def Obl (P : Program) (ops : Array Oper) (a0 : Act) (C : World → Prop) (G : World → World → Prop) (R : Nat → Value → World → Prop) (T : Nat → World → Prop) (Q : Exit → Act → World → Prop) (i : Nat) (o : Oper) : Prop :=
  ∀ a w, C w → (∀ t, ((List.range ops.size).all fun j => slotOf ops j != some t || behind ops i j) = true → a.eval (.tmp t) = a0.eval (.tmp t)) →
    (∀ j, behind ops j i = true → Has ops R j a w) →
    o.wp P a w (fun a' w' => ∃ v, a' = a.put o.dst v ∧ (o.dst ≠ none → R i v w') ∧ (o.dst = none → T i w') ∧ C w' ∧ G w w') Q
def OblAll (P : Program) (ops : Array Oper) (a0 : Act) (C : World → Prop) (G : World → World → Prop) (R : Nat → Value → World → Prop) (T : Nat → World → Prop) (Q : Exit → Act → World → Prop) : Nat → List Oper → Prop
  | _, [] => True
  | i, o :: l => Obl P ops a0 C G R T Q i o ∧ OblAll P ops a0 C G R T Q (i + 1) l
theorem OblAll.get {a0 : Act} {C : World → Prop} {G : World → World → Prop} {R : Nat → Value → World → Prop} {T : Nat → World → Prop} :
    ∀ {l : List Oper} {k : Nat}, OblAll P ops a0 C G R T Q k l → ∀ {i : Nat} {o : Oper}, l[i]? = some o → Obl P ops a0 C G R T Q (k + i) o
  | [], _, _, _, _, h => by simp at h
  | _ :: _, _, h, 0, _, ho => by simp at ho; subst ho; exact h.1
  | _ :: l, k, h, i + 1, _, ho => by
    have := OblAll.get h.2 (i := i) (by simpa using ho)
    rwa [Nat.add_assoc, Nat.add_comm 1 i] at this

theorem Obl.mk {a0 : Act} {C : World → Prop} {G : World → World → Prop} {R : Nat → Value → World → Prop} {T : Nat → World → Prop} {i : Nat} {o : Oper}
    (h : ∀ a w, C w → (∀ t, ((List.range ops.size).all fun j => slotOf ops j != some t || behind ops i j) = true → a.eval (.tmp t) = a0.eval (.tmp t)) →
      (∀ j, behind ops j i = true → Has ops R j a w) → ∀ K : Act → World → Prop, (∀ v w', (o.dst ≠ none → R i v w') → (o.dst = none → T i w') → C w' → G w w' → K (a.put o.dst v) w') → o.wp P a w K Q) : Obl P ops a0 C G R T Q i o :=
  fun a w hC he hd => h a w hC he hd _ fun v w' h1 h2 h3 h4 => ⟨v, rfl, h1, h2, h3, h4⟩

theorem wp_region_inv {id : Nat} {a0 : Act} {w0 : World} {C : World → Prop} {G : World → World → Prop} {R : Nat → Value → World → Prop} {T : Nat → World → Prop} (hm : P.follows .mixedOrders = true) (ht : tidy ops a0.tmps.size = true)
    (hG : ∀ j v w w', C w → G w w' → R j v w → R j v w') (hGT : ∀ j w w', C w → G w w' → T j w → T j w') (hC : C { w0 with drawn := w0.drawn + 1 })
    (hO : OblAll P ops a0 C G R T Q 0 ops.toList)
    (hQ : ∀ a w, C w → a.defers = a0.defers → a.tmps.size = a0.tmps.size → (∀ t, (ops.all fun o => o.dst != some t) = true → a.eval (.tmp t) = a0.eval (.tmp t)) → (∀ j, j < ops.size → Has ops R j a w) → (∀ j, HasT ops T j w) → Q .normal a w) :
    (Code.region id ops true).wp P Q a0 w0 := by
  unfold tidy at ht
  simp only [Bool.and_eq_true] at ht
  obtain ⟨⟨⟨hlow, hgd⟩, hbd⟩, hdis⟩ := ht
  have slot_lt : ∀ {j d}, slotOf ops j = some d → j < ops.size := fun {j d} h => by
    unfold slotOf at h
    cases ho : ops[j]? with
    | none => rw [ho] at h; cases h
    | some o => exact (Array.getElem?_eq_some_iff.1 ho).1
  have slot_bd : ∀ {j d}, slotOf ops j = some d → d < a0.tmps.size := fun {j d} h => by
    have hj := slot_lt h
    have := Array.all_eq_true.1 hbd j hj
    unfold slotOf at h
    rw [Array.getElem?_eq_getElem hj] at h
    simp only [Option.bind_some] at h
    rw [h] at this
    simpa using this
  have slot_ne : ∀ {i j d}, slotOf ops i = some d → slotOf ops j = some d → i = j := fun {i j d} h1 h2 => by
    have a1 := slot_lt h1
    have a2 := slot_lt h2
    have := List.all_eq_true.1 (List.all_eq_true.1 hdis i (List.mem_range.2 a1)) j (List.mem_range.2 a2)
    rw [h1, h2] at this
    simpa using this
  let Inv : Array Bool → Act → World → Prop := fun listed a w => C w ∧ a.defers = a0.defers ∧ a.tmps.size = a0.tmps.size ∧
    (∀ t, (∀ j, slotOf ops j = some t → listed.getD j false = false) → a.eval (.tmp t) = a0.eval (.tmp t)) ∧
    (∀ j, listed.getD j false = true → Has ops R j a w) ∧ (∀ i j, listed.getD j false = true → behind ops i j = true → listed.getD i false = true) ∧ (∀ j, listed.getD j false = true → HasT ops T j w)
  refine wp_region_any hm (wpAny_inv (Inv := Inv) hlow ?_ ?_ _ _ _ _ (by simp) (by simp) ⟨hC, rfl, rfl, fun _ _ => rfl, ?_, ?_, ?_⟩)
  · intro i listed a w hs hi ⟨hCw, hd, hsz, hext, hhas, hcl, hT⟩
    obtain ⟨hun, o, ho, hdeps⟩ := mem_ready.1 hi
    have hilt : i < ops.size := (Array.getElem?_eq_some_iff.1 ho).1
    have hun' : listed.getD i false = false := by
      have : i < listed.size := by omega
      simp [this] at hun ⊢; exact hun
    have hg : o.guard = none := by
      have := Array.all_eq_true.1 hgd i hilt
      rw [Array.getElem?_eq_getElem hilt] at ho
      cases ho
      simpa using this
    have hob := OblAll.get hO (i := i) (o := o) (by simpa using ho)
    rw [Nat.zero_add] at hob
    have hwp := hob a w hCw (fun t htt => hext t fun j hj => by
        have := List.all_eq_true.1 htt j (List.mem_range.2 (slot_lt hj))
        rw [hj] at this
        simp at this
        cases hl : listed.getD j false
        · rfl
        · have := hcl i j hl this; rw [hun'] at this; cases this)
      (fun j hj => hhas j (by
        obtain ⟨e, he, h1, h2⟩ := behind_spec hj ho
        rw [← h1]
        exact hdeps e he h2))
    unfold wpOp
    rw [ho]
    simp only [Region.wanted, hg, if_true]
    refine .inl (Oper.wp_mono ?_ hwp)
    rintro a' w' ⟨v, rfl, hR, hTi, hC', hGw⟩
    have hdst : slotOf ops i = o.dst := by unfold slotOf; rw [ho]; rfl
    have keep : ∀ t, o.dst ≠ some t → (a.put o.dst v).eval (.tmp t) = a.eval (.tmp t) := fun t h => Act.eval_put (fun d hd he => h (by rw [hd]; cases he; rfl))
    have lst : ∀ j, (listed.setIfInBounds i true).getD j false = true → j = i ∨ listed.getD j false = true := fun j h => by
      by_cases hji : i = j
      · exact .inl hji.symm
      · rw [getD_set_ne false hji] at h; exact .inr h
    refine ⟨hC', ?_, ?_, ?_, ?_, ?_, ?_⟩
    · rw [← hd]; unfold Act.put; split <;> rfl
    · rw [← hsz]; unfold Act.put; split <;> simp
    · intro t htt
      rw [keep t (fun h => by
        have := htt i (by rw [hdst]; exact h)
        have hlt : i < listed.size := by omega
        simp [hlt] at this)]
      refine hext t fun j hj => ?_
      have := htt j hj
      cases hl : listed.getD j false
      · rfl
      · rw [getD_set_true hl] at this; cases this
    · intro j hj d hjd
      rcases lst j hj with rfl | hj'
      · rw [hdst] at hjd
        have hb := slot_bd (j := j) (by rw [hdst]; exact hjd)
        have : (a.put o.dst v).eval (.tmp d) = v := by
          unfold Act.put Act.eval; rw [hjd]; simp; exact fun h => absurd (Nat.lt_of_lt_of_le hb (hsz ▸ h)) (Nat.lt_irrefl _)
        rw [this]; exact hR (by rw [hjd]; simp)
      · rw [keep d (fun h => by
          have := slot_ne (show slotOf ops i = some d by rw [hdst]; exact h) hjd
          subst this; rw [hun'] at hj'; cases hj')]
        exact hG _ _ _ _ hCw hGw (hhas j hj' d hjd)
    · intro i' j hj hb
      rcases lst j hj with rfl | hj'
      · refine getD_set_true ?_
        obtain ⟨e, he, h1, h2⟩ := behind_spec hb ho
        rw [← h1]; exact hdeps e he h2
      · exact getD_set_true (hcl i' j hj' hb)
    · intro j hj hn hlt
      rcases lst j hj with rfl | hj'
      · rw [hdst] at hn
        exact hTi hn
      · exact hGT _ _ _ hCw hGw (hT j hj' hn hlt)
  · intro listed a w hall ⟨hCw, hd, hsz, hext, hhas, _, hT⟩
    refine hQ a w hCw hd hsz (fun t htt => hext t fun j hj => ?_) (fun j hj => hhas j (hall j hj)) (fun j hn hlt => hT j (hall j hlt) hn hlt)
    exfalso
    have hlt := slot_lt hj
    have := Array.all_eq_true.1 htt j hlt
    unfold slotOf at hj
    rw [Array.getElem?_eq_getElem hlt] at hj
    simp only [Option.bind_some] at hj
    rw [hj] at this
    simp at this
  · intro j hj
    simp at hj
    rw [Array.getElem?_replicate] at hj; split at hj <;> simp at hj
  · intro i j hj
    simp at hj
    rw [Array.getElem?_replicate] at hj; split at hj <;> simp at hj
  · intro j hj
    simp at hj
    rw [Array.getElem?_replicate] at hj; split at hj <;> simp at hj

theorem wp_region_mix {id : Nat} {a0 : Act} {w0 : World} {C : World → Prop} {G : World → World → Prop} {R : Nat → Value → World → Prop} {T : Nat → World → Prop} (m : List Bool) (hm : P.follows .mixedOrders = true) (ht : tidy ops a0.tmps.size = true)
    (hk : maskOk ops m a0.tmps.size = true)
    (hG : ∀ j v w w', C w → G w w' → R j v w → R j v w') (hGT : ∀ j w w', C w → G w w' → T j w → T j w') (hC : C { w0 with drawn := w0.drawn + 1 })
    (hO : OblAll P ops a0 C G R T Q 0 ops.toList)
    (hQ : ∀ (f : Nat → Value) w, C w → (∀ j d, slotOf ops j = some d → R j (f d) w) → (∀ j, HasT ops T j w) → Q .normal ⟨(mixL f m 0 a0.tmps.toList).toArray, a0.defers⟩ w) :
    (Code.region id ops true).wp P Q a0 w0 := by
  refine wp_region_inv hm ht hG hGT hC hO fun a w hCw hd hsz hext hhas hT => ?_
  unfold maskOk at hk
  simp only [Bool.and_eq_true, beq_iff_eq] at hk
  obtain ⟨hml, hmk⟩ := hk
  have e : a = ⟨(mixL (fun t => a.eval (.tmp t)) m 0 a0.tmps.toList).toArray, a0.defers⟩ := by
    rw [mixL_eq _ _ _ _ (by simpa using hml) ?_]
    · cases a with
      | mk tmps defers =>
        simp only [Act.mk.injEq]
        refine ⟨?_, hd⟩
        apply Array.ext'
        apply List.ext_getElem?
        intro i
        simp only at hsz
        by_cases hi : i < tmps.size
        · have hi' : i < a0.tmps.size := by omega
          simp [hi, hi', Act.eval]
        · have hi' : ¬ i < a0.tmps.size := by omega
          simp [hi, hi']
    · intro i hi
      have hlt : i < a0.tmps.size := by
        have := (List.getElem?_eq_some_iff.1 hi).1; omega
      have h1 := List.all_eq_true.1 hmk i (List.mem_range.2 hlt)
      have h2 : m.getD i false = false := by simp [List.getD, hi]
      rw [h2, Bool.false_or] at h1
      have h3 := hext i h1
      rw [Nat.zero_add, h3]
      simp [Act.eval, hlt]
  have h1 : ∀ j d, slotOf ops j = some d → R j ((fun t => a.eval (.tmp t)) d) w := fun j d hj => hhas j (by
    unfold slotOf at hj
    cases ho : ops[j]? with
    | none => rw [ho] at hj; cases hj
    | some o => exact (Array.getElem?_eq_some_iff.1 ho).1) d hj
  rw [e]
  exact hQ (fun t => a.eval (.tmp t)) w hCw h1 hT
end
end Reg2
end Go.Proofs.Ytmbekamnogbgaaa

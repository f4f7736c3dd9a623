/-
Texts in one: what EdgesOf stands on, part 26. Conditions: those of each.
-/
import Derived.Test.YtmbekamnogbgaaaKEdgesOf25

/-
Finite numbers and measures, by the program and by its model. Conditions: none beyond that the words fit.
-/
namespace Go.Proofs.Ytmbekamnogbgaaa
open Go Fk Go.RowKit
set_option linter.unusedVariables false
set_option maxRecDepth 8000
def sizeB (x : Nat) : Bool := finB x && (FloatKind.f32.format.order x 0 == some .gt)
def finC (c : Option Nat) : Bool := match c with | none => false | some x => finB x
def sizeC (c : Option Nat) : Bool := match c with | none => false | some x => sizeB x
theorem Fk.FV.fin {x : Nat} {c : Option Nat} (h : FV .f32 x c) : finB x = finC c := by
  cases c with
  | none =>
    have := h.nan
    have h2 : nan32 x = true := this
    rw [nan32_iff, decide_eq_true_eq] at h2
    show finB x = false
    unfold finB
    exact decide_eq_false (by omega)
  | some y => rw [h.num]; rfl
theorem Fk.FV.size {x : Nat} {c : Option Nat} (h : FV .f32 x c) : sizeB x = sizeC c := by
  cases c with
  | none =>
    show sizeB x = false
    unfold sizeB
    rw [Fk.FV.fin h]; rfl
  | some y => rw [h.num]; rfl
theorem impl_isMeasure (x : Nat) (w : World) (hx : x < 4294967296) :
    Calls Try.prog 124 #[.float .f32 x] w fun e w' => e = .returned (.bool (sizeB x)) ∧ ∃ n, w' = w.drewN n := by
  have u := Try.underlying31
  unfold sizeB
  have HJ := Lib.hid (fun w => impl_IsFinite x w hx)
  generalize finB x = f at *
  cases f
  · go_enter Try.func124, Try.ntmps124
    go_wp2_with (go_at_call 128; refine (HJ.out _).mono ?_; rintro e w1 ⟨rfl, n, hw⟩; rw [hw]; clear hw w1)
    go_ret
    exact ⟨rfl, _, rfl⟩
  · go_enter Try.func124, Try.ntmps124
    go_wp2_with (go_at_call 128; refine (HJ.out _).mono ?_; rintro e w1 ⟨rfl, n, hw⟩; rw [hw]; clear hw w1)
    go_ret
    exact ⟨rfl, _, rfl⟩
theorem l02Size (x : Nat) (w : World) (hx : x < 4294967296) :
    Calls Try.prog 114 #[.float .f32 x] w fun e w' => e = .returned (.bool (sizeB x)) ∧ ∃ n, w' = w.drewN n := by
  have u := Try.underlying31
  unfold sizeB
  have HJ := Lib.hid (fun w => l01Finite x w hx)
  generalize finB x = f at *
  cases f
  · go_enter Try.func114, Try.ntmps114
    go_wp2_with (go_at_call 118; refine (HJ.out _).mono ?_; rintro e w1 ⟨rfl, n, hw⟩; rw [hw]; clear hw w1)
    go_ret
    exact ⟨rfl, _, rfl⟩
  · go_enter Try.func114, Try.ntmps114
    go_wp2_with (go_at_call 118; refine (HJ.out _).mono ?_; rintro e w1 ⟨rfl, n, hw⟩; rw [hw]; clear hw w1)
    go_ret
    exact ⟨rfl, _, rfl⟩
/-- An amount and a volume. -/
def gasB (c d : Option Nat) : Bool := finC c && sizeC d
theorem Fk.FV.zero : FV .f32 0 (some 0) := ⟨by decide, by decide⟩
def pressC (c d : Option Nat) : Option Nat := bif gasB c d then fop .quo .f32 c d else some 0
end Go.Proofs.Ytmbekamnogbgaaa


/-
Holds: what is asked of them, and what they leave, by classes of numbers; and which numbers are finite. Conditions: none beyond that the words fit.
-/
namespace Go.Proofs.Ytmbekamnogbgaaa
open Go Fk Go.RowKit
set_option linter.unusedVariables false
set_option maxRecDepth 8000

def finV (c : C3) : Bool := finC c.1 && (finC c.2.1 && finC c.2.2)
def innC (a b : C3) : Option Nat := fop .add .f32 (fop .add .f32 (fop .mul .f32 a.1 b.1) (fop .mul .f32 a.2.1 b.2.1)) (fop .mul .f32 a.2.2 b.2.2)
def scaC (a : C3) (q : Option Nat) : C3 := (fop .mul .f32 a.1 q, fop .mul .f32 a.2.1 q, fop .mul .f32 a.2.2 q)
def subC (a b : C3) : C3 := (fop .sub .f32 a.1 b.1, fop .sub .f32 a.2.1 b.2.1, fop .sub .f32 a.2.2 b.2.2)
def sumV (a b : C3) : C3 := (fop .add .f32 a.1 b.1, fop .add .f32 a.2.1 b.2.1, fop .add .f32 a.2.2 b.2.2)
def alongC (h : HC) (v : C3) : C3 := scaC h.2.2.2 (fop .quo .f32 (innC v h.2.2.2) (innC h.2.2.2 h.2.2.2))
def holdB (h : HC) : Bool := decide (0 ≤ h.1) && (finV h.2.2.1 && (finV h.2.2.2 && (decide (h.2.1 = 0) || (decide (h.2.1 = 1) || decide (h.2.1 = 2)) && sizeC (innC h.2.2.2 h.2.2.2))))
def leaveC (h : HC) (f : C3) : C3 := if h.2.1 = 1 then alongC h f else if h.2.1 = 2 then subC f (alongC h f) else (some 0, some 0, some 0)
def putC (h : HC) (p : C3) : C3 := if h.2.1 = 1 then sumV h.2.2.1 (alongC h (subC p h.2.2.1)) else if h.2.1 = 2 then subC p (alongC h (subC p h.2.2.1)) else h.2.2.1
end Go.Proofs.Ytmbekamnogbgaaa


/-
One hold: copies, that two are the same, and which have the form of one: what the program, its model and the law's own functions return. Conditions: none beyond that the words fit.
-/
namespace Go.Proofs.Ytmbekamnogbgaaa
open Go Fk Go.RowKit
set_option linter.unusedVariables false
set_option maxRecDepth 8000

abbrev HBox (h : HW) (t : TypeId) : Obj := .cells #[.int .i64 h.p, .int .i64 h.k, .float .f32 h.x, .float .f32 h.y, .float .f32 h.z, .float .f32 h.s, .float .f32 h.t, .float .f32 h.u] t
theorem impl_isFiniteVector (x y z : Nat) (c : C3) (w : World) (hx : FV .f32 x c.1) (hy : FV .f32 y c.2.1) (hz : FV .f32 z c.2.2) :
    Calls Try.prog 194 #[vv x y z] w fun e w' => e = .returned (.bool (finV c)) ∧ Below w.heap.size w w' := by
  have u := Try.underlying31
  have uv := Try.underlying34
  unfold finV
  rw [← hx.fin, ← hy.fin, ← hz.fin]
  have HX := Lib.hid (fun w => impl_IsFinite x w hx.1)
  have HY := Lib.hid (fun w => impl_IsFinite y w hy.1)
  have HZ := Lib.hid (fun w => impl_IsFinite z w hz.1)
  generalize finB x = a at *
  generalize finB y = b at *
  generalize finB z = d at *
  clear hx hy hz
  cases a
  · go_enter Try.func194, Try.ntmps194
    go_wp2_with fail
    refine (HX.out _).mono ?_
    rintro e w1 ⟨rfl, n, hw⟩
    rw [hw]; clear hw w1
    go_wp2
    go_ret
    exact ⟨rfl, below_drewN ((Below.refl _ _).alloc (Nat.le_refl _) _) _⟩
  · cases b
    all_goals
      go_enter Try.func194, Try.ntmps194
      go_wp2_with fail
      refine (HX.out _).mono ?_
      rintro e w1 ⟨rfl, n, hw⟩
      rw [hw]; clear hw w1
      go_wp2_with fail
      refine (HY.out _).mono ?_
      rintro e w1 ⟨rfl, n2, hw⟩
      rw [hw]; clear hw w1
      go_wp2_with (go_at_call 128; refine (HZ.out _).mono ?_; rintro e w1 ⟨rfl, n3, hw⟩; rw [hw]; clear hw w1)
      go_ret
      exact ⟨rfl, by repeat (first | exact (Below.refl _ _).alloc (Nat.le_refl _) _ | refine below_drewN ?_ _)⟩
theorem l01VFinite (x y z : Nat) (c : C3) (w : World) (hx : FV .f32 x c.1) (hy : FV .f32 y c.2.1) (hz : FV .f32 z c.2.2) :
    Calls Try.prog 192 #[vv x y z] w fun e w' => e = .returned (.bool (finV c)) ∧ Below w.heap.size w w' := by
  have u := Try.underlying31
  have uv := Try.underlying34
  unfold finV
  rw [← hx.fin, ← hy.fin, ← hz.fin]
  have HX := Lib.hid (fun w => l01Finite x w hx.1)
  have HY := Lib.hid (fun w => l01Finite y w hy.1)
  have HZ := Lib.hid (fun w => l01Finite z w hz.1)
  generalize finB x = a at *
  generalize finB y = b at *
  generalize finB z = d at *
  clear hx hy hz
  cases a
  · go_enter Try.func192, Try.ntmps192
    go_wp2_with fail
    refine (HX.out _).mono ?_
    rintro e w1 ⟨rfl, n, hw⟩
    rw [hw]; clear hw w1
    go_wp2
    go_ret
    exact ⟨rfl, below_drewN ((Below.refl _ _).alloc (Nat.le_refl _) _) _⟩
  · cases b
    all_goals
      go_enter Try.func192, Try.ntmps192
      go_wp2_with fail
      refine (HX.out _).mono ?_
      rintro e w1 ⟨rfl, n, hw⟩
      rw [hw]; clear hw w1
      go_wp2_with fail
      refine (HY.out _).mono ?_
      rintro e w1 ⟨rfl, n2, hw⟩
      rw [hw]; clear hw w1
      go_wp2_with (go_at_call 118; refine (HZ.out _).mono ?_; rintro e w1 ⟨rfl, n3, hw⟩; rw [hw]; clear hw w1)
      go_ret
      exact ⟨rfl, by repeat (first | exact (Below.refl _ _).alloc (Nat.le_refl _) _ | refine below_drewN ?_ _)⟩
abbrev Z8 : List Value := [.int .i64 0, .int .i64 0, .float .f32 0, .float .f32 0, .float .f32 0, .float .f32 0, .float .f32 0, .float .f32 0]
set_option maxHeartbeats 1000000 in
theorem laws_toHold (h : HW) (w : World) :
    Calls Try.prog 91 #[h.v] w fun e w' => e = .returned h.v ∧ Below w.heap.size w w' := by
  have u := Try.underlying31
  have ui := Try.underlying2
  have uh := Try.underlying117
  have uv := Try.underlying34
  have ulh := Try.underlying120
  have ulv := Try.underlying46
  unfold HW.v
  go_enter Try.func91, Try.ntmps91
  go_wp2_with fail
  have a0 : At (((w.alloc (HBox h 120)).alloc (.cells #[.int .i64 0, .int .i64 0, .float .f32 0, .float .f32 0, .float .f32 0, .float .f32 0, .float .f32 0, .float .f32 0] 117)).alloc (.cells #[.int .i64 h.p, .int .i64 h.k, .float .f32 0, .float .f32 0, .float .f32 0, .float .f32 0, .float .f32 0, .float .f32 0] 117)) w.heap.size h.l := At.new.alloc.alloc
  have r0 : At (((w.alloc (HBox h 120)).alloc (.cells #[.int .i64 0, .int .i64 0, .float .f32 0, .float .f32 0, .float .f32 0, .float .f32 0, .float .f32 0, .float .f32 0] 117)).alloc (.cells #[.int .i64 h.p, .int .i64 h.k, .float .f32 0, .float .f32 0, .float .f32 0, .float .f32 0, .float .f32 0, .float .f32 0] 117)) (w.heap.size + 1) Z8 := by
    have := (At.new (w := w.alloc (HBox h 120)) (vs := Z8) (t := 117)).alloc (o := .cells #[.int .i64 h.p, .int .i64 h.k, .float .f32 0, .float .f32 0, .float .f32 0, .float .f32 0, .float .f32 0, .float .f32 0] 117)
    simpa using this
  have o0 : At (((w.alloc (HBox h 120)).alloc (.cells #[.int .i64 0, .int .i64 0, .float .f32 0, .float .f32 0, .float .f32 0, .float .f32 0, .float .f32 0, .float .f32 0] 117)).alloc (.cells #[.int .i64 h.p, .int .i64 h.k, .float .f32 0, .float .f32 0, .float .f32 0, .float .f32 0, .float .f32 0, .float .f32 0] 117)) (w.heap.size + 1 + 1) [.int .i64 h.p, .int .i64 h.k, .float .f32 0, .float .f32 0, .float .f32 0, .float .f32 0, .float .f32 0, .float .f32 0] := by
    have := At.new (w := (w.alloc (HBox h 120)).alloc (.cells #[.int .i64 0, .int .i64 0, .float .f32 0, .float .f32 0, .float .f32 0, .float .f32 0, .float .f32 0, .float .f32 0] 117)) (vs := [.int .i64 h.p, .int .i64 h.k, .float .f32 0, .float .f32 0, .float .f32 0, .float .f32 0, .float .f32 0, .float .f32 0]) (t := 117)
    simpa using this
  have fr0 : Fr (((w.alloc (HBox h 120)).alloc (.cells #[.int .i64 0, .int .i64 0, .float .f32 0, .float .f32 0, .float .f32 0, .float .f32 0, .float .f32 0, .float .f32 0] 117)).alloc (.cells #[.int .i64 h.p, .int .i64 h.k, .float .f32 0, .float .f32 0, .float .f32 0, .float .f32 0, .float .f32 0, .float .f32 0] 117)) (w.heap.size + 1) := fun i => by go_simp
  have fo0 : Fr (((w.alloc (HBox h 120)).alloc (.cells #[.int .i64 0, .int .i64 0, .float .f32 0, .float .f32 0, .float .f32 0, .float .f32 0, .float .f32 0, .float .f32 0] 117)).alloc (.cells #[.int .i64 h.p, .int .i64 h.k, .float .f32 0, .float .f32 0, .float .f32 0, .float .f32 0, .float .f32 0, .float .f32 0] 117)) (w.heap.size + 1 + 1) := fun i => by go_simp
  have b0 : Below w.heap.size w (((w.alloc (HBox h 120)).alloc (.cells #[.int .i64 0, .int .i64 0, .float .f32 0, .float .f32 0, .float .f32 0, .float .f32 0, .float .f32 0, .float .f32 0] 117)).alloc (.cells #[.int .i64 h.p, .int .i64 h.k, .float .f32 0, .float .f32 0, .float .f32 0, .float .f32 0, .float .f32 0, .float .f32 0] 117)) := (((Below.refl _ _).alloc (Nat.le_refl _) _).alloc (by simp) _).alloc (by simp; omega) _
  change Calls _ _ _ (((w.alloc (HBox h 120)).alloc (.cells #[.int .i64 0, .int .i64 0, .float .f32 0, .float .f32 0, .float .f32 0, .float .f32 0, .float .f32 0, .float .f32 0] 117)).alloc (.cells #[.int .i64 h.p, .int .i64 h.k, .float .f32 0, .float .f32 0, .float .f32 0, .float .f32 0, .float .f32 0, .float .f32 0] 117)) _
  generalize (((w.alloc (HBox h 120)).alloc (.cells #[.int .i64 0, .int .i64 0, .float .f32 0, .float .f32 0, .float .f32 0, .float .f32 0, .float .f32 0, .float .f32 0] 117)).alloc (.cells #[.int .i64 h.p, .int .i64 h.k, .float .f32 0, .float .f32 0, .float .f32 0, .float .f32 0, .float .f32 0, .float .f32 0] 117)) = W at *
  refine (laws_toVector _ _ _ _).mono ?_
  rintro e w1 ⟨rfl, hB1⟩
  have A1 := Lib.hid (a0.below hB1)
  have R1 := Lib.hid (r0.below hB1)
  have O1 := Lib.hid (o0.below hB1)
  have FR1 := Lib.hid (fr0.below hB1 r0.lt)
  have FO1 := Lib.hid (fo0.below hB1 o0.lt)
  have B1 := Lib.hid (b0.trans (hB1.mono b0.size))
  clear a0 r0 o0 fr0 fo0 b0 hB1
  have k5 := A1.out 5 _ rfl
  have k6 := A1.out 6 _ rfl
  have k7 := A1.out 7 _ rfl
  have e2 := O1.out 2 _ rfl
  have e3 := O1.out 3 _ rfl
  have e4 := O1.out 4 _ rfl
  have g2 := FO1.out 2
  have g3 := FO1.out 3
  have g4 := FO1.out 4
  go_wp2_with fail
  clear k5 k6 k7 e2 e3 e4 g2 g3 g4
  have b2 := ((B1.out.setCell (p := ⟨w.heap.size + 1 + 1, 2, none⟩) (show w.heap.size ≤ w.heap.size + 1 + 1 by omega) (.float .f32 h.x)).setCell (p := ⟨w.heap.size + 1 + 1, 3, none⟩) (show w.heap.size ≤ w.heap.size + 1 + 1 by omega) (.float .f32 h.y)).setCell (p := ⟨w.heap.size + 1 + 1, 4, none⟩) (show w.heap.size ≤ w.heap.size + 1 + 1 by omega) (.float .f32 h.z)
  have r2 := ((R1.out.far (a := ⟨w.heap.size + 1 + 1, 2, none⟩) (u := .float .f32 h.x) (show w.heap.size + 1 + 1 ≠ w.heap.size + 1 by omega)).far (a := ⟨w.heap.size + 1 + 1, 3, none⟩) (u := .float .f32 h.y) (show w.heap.size + 1 + 1 ≠ w.heap.size + 1 by omega)).far (a := ⟨w.heap.size + 1 + 1, 4, none⟩) (u := .float .f32 h.z) (show w.heap.size + 1 + 1 ≠ w.heap.size + 1 by omega)
  have o2 : At _ (w.heap.size + 1 + 1) [.int .i64 h.p, .int .i64 h.k, .float .f32 h.x, .float .f32 h.y, .float .f32 h.z, .float .f32 0, .float .f32 0, .float .f32 0] := ((O1.out.set 2 (.float .f32 h.x)).set 3 (.float .f32 h.y)).set 4 (.float .f32 h.z)
  have fr2 := ((FR1.out.setC (a := ⟨w.heap.size + 1 + 1, 2, none⟩) (u := .float .f32 h.x)).setC (a := ⟨w.heap.size + 1 + 1, 3, none⟩) (u := .float .f32 h.y)).setC (a := ⟨w.heap.size + 1 + 1, 4, none⟩) (u := .float .f32 h.z)
  have fo2 := ((FO1.out.setC (a := ⟨w.heap.size + 1 + 1, 2, none⟩) (u := .float .f32 h.x)).setC (a := ⟨w.heap.size + 1 + 1, 3, none⟩) (u := .float .f32 h.y)).setC (a := ⟨w.heap.size + 1 + 1, 4, none⟩) (u := .float .f32 h.z)
  generalize (((w1.setCell ⟨w.heap.size + 1 + 1, 2, none⟩ (.float .f32 h.x)).setCell ⟨w.heap.size + 1 + 1, 3, none⟩ (.float .f32 h.y)).setCell ⟨w.heap.size + 1 + 1, 4, none⟩ (.float .f32 h.z)) = W1 at *
  refine (laws_toVector _ _ _ _).mono ?_
  rintro e w2 ⟨rfl, hB2⟩
  have R2 := Lib.hid (r2.below hB2)
  have O2 := Lib.hid (o2.below hB2)
  have FR2 := Lib.hid (fr2.below hB2 r2.lt)
  have FO2 := Lib.hid (fo2.below hB2 o2.lt)
  have B2 := Lib.hid (b2.trans (hB2.mono b2.size))
  clear r2 o2 fr2 fo2 b2 hB2
  have e0 := O2.out 0 _ rfl
  have e1 := O2.out 1 _ rfl
  have e2 := O2.out 2 _ rfl
  have e3 := O2.out 3 _ rfl
  have e4 := O2.out 4 _ rfl
  have e5 := O2.out 5 _ rfl
  have e6 := O2.out 6 _ rfl
  have e7 := O2.out 7 _ rfl
  have g5 := FO2.out 5
  have g6 := FO2.out 6
  have g7 := FO2.out 7
  have q0 := R2.out 0 _ rfl
  have p0 := FR2.out 0
  have q1 := R2.out 1 _ rfl
  have p1 := FR2.out 1
  have q2 := R2.out 2 _ rfl
  have p2 := FR2.out 2
  have q3 := R2.out 3 _ rfl
  have p3 := FR2.out 3
  have q4 := R2.out 4 _ rfl
  have p4 := FR2.out 4
  have q5 := R2.out 5 _ rfl
  have p5 := FR2.out 5
  have q6 := R2.out 6 _ rfl
  have p6 := FR2.out 6
  have q7 := R2.out 7 _ rfl
  have p7 := FR2.out 7
  have HB := Lib.hid (((((((((((B2.out.setCell (p := ⟨w.heap.size + 1 + 1, 5, none⟩) (show w.heap.size ≤ w.heap.size + 1 + 1 by omega) (.float .f32 h.s)).setCell (p := ⟨w.heap.size + 1 + 1, 6, none⟩) (show w.heap.size ≤ w.heap.size + 1 + 1 by omega) (.float .f32 h.t)).setCell (p := ⟨w.heap.size + 1 + 1, 7, none⟩) (show w.heap.size ≤ w.heap.size + 1 + 1 by omega) (.float .f32 h.u)).setCell (p := ⟨w.heap.size + 1, 0, none⟩) (show w.heap.size ≤ w.heap.size + 1 by omega) (.int .i64 h.p)).setCell (p := ⟨w.heap.size + 1, 1, none⟩) (show w.heap.size ≤ w.heap.size + 1 by omega) (.int .i64 h.k)).setCell (p := ⟨w.heap.size + 1, 2, none⟩) (show w.heap.size ≤ w.heap.size + 1 by omega) (.float .f32 h.x)).setCell (p := ⟨w.heap.size + 1, 3, none⟩) (show w.heap.size ≤ w.heap.size + 1 by omega) (.float .f32 h.y)).setCell (p := ⟨w.heap.size + 1, 4, none⟩) (show w.heap.size ≤ w.heap.size + 1 by omega) (.float .f32 h.z)).setCell (p := ⟨w.heap.size + 1, 5, none⟩) (show w.heap.size ≤ w.heap.size + 1 by omega) (.float .f32 h.s)).setCell (p := ⟨w.heap.size + 1, 6, none⟩) (show w.heap.size ≤ w.heap.size + 1 by omega) (.float .f32 h.t)).setCell (p := ⟨w.heap.size + 1, 7, none⟩) (show w.heap.size ≤ w.heap.size + 1 by omega) (.float .f32 h.u))
  have HR : RowKit.Hid (At _ (w.heap.size + 1) [.int .i64 h.p, .int .i64 h.k, .float .f32 h.x, .float .f32 h.y, .float .f32 h.z, .float .f32 h.s, .float .f32 h.t, .float .f32 h.u]) := Lib.hid (((((((((((R2.out.far (a := ⟨w.heap.size + 1 + 1, 5, none⟩) (u := .float .f32 h.s) (show w.heap.size + 1 + 1 ≠ w.heap.size + 1 by omega)).far (a := ⟨w.heap.size + 1 + 1, 6, none⟩) (u := .float .f32 h.t) (show w.heap.size + 1 + 1 ≠ w.heap.size + 1 by omega)).far (a := ⟨w.heap.size + 1 + 1, 7, none⟩) (u := .float .f32 h.u) (show w.heap.size + 1 + 1 ≠ w.heap.size + 1 by omega)).set 0 (.int .i64 h.p)).set 1 (.int .i64 h.k)).set 2 (.float .f32 h.x)).set 3 (.float .f32 h.y)).set 4 (.float .f32 h.z)).set 5 (.float .f32 h.s)).set 6 (.float .f32 h.t)).set 7 (.float .f32 h.u))
  go_wp2
  clear e0 e1 e2 e3 e4 e5 e6 e7 g5 g6 g7 q0 q1 q2 q3 q4 q5 q6 q7 p0 p1 p2 p3 p4 p5 p6 p7
  have m0 := HR.out 0 _ rfl
  have m1 := HR.out 1 _ rfl
  have m2 := HR.out 2 _ rfl
  have m3 := HR.out 3 _ rfl
  have m4 := HR.out 4 _ rfl
  have m5 := HR.out 5 _ rfl
  have m6 := HR.out 6 _ rfl
  have m7 := HR.out 7 _ rfl
  refine bodyPost_ret (v := h.v) (by simp [HW.v, results, Try.results91, go_sem, m0, m1, m2, m3, m4, m5, m6, m7]) rfl ⟨rfl, HB.out⟩
theorem laws_eqHold (h q : HW) (c : HC) (w : World) (i : h.Is c) (j : q.Is c) :
    Calls Try.prog 95 #[h.v, q.v] w fun e w' => e = .returned (.bool true) ∧ Below w.heap.size w w' := by
  have u := Try.underlying31
  have u' := Try.underlying80
  have ui := Try.underlying2
  have uh := Try.underlying117
  have uv := Try.underlying34
  unfold HW.v
  have hp : h.p = q.p := i.1.trans j.1.symm
  have hk : h.k = q.k := i.2.1.trans j.2.1.symm
  have hp1 : (h.p == q.p) = true := by rw [hp]; simp
  have hp2 : (h.p != q.p) = false := by rw [hp]; simp
  have hk1 : (h.k == q.k) = true := by rw [hk]; simp
  have hk2 : (h.k != q.k) = false := by rw [hk]; simp
  have I := Lib.hid i
  have J := Lib.hid j
  clear i j hp hk
  have a0 : At ((w.alloc (HBox h 117)).alloc (HBox q 117)) w.heap.size h.l := At.new.alloc
  have a1 : At ((w.alloc (HBox h 117)).alloc (HBox q 117)) (w.heap.size + 1) q.l := by
    have := At.new (w := w.alloc (HBox h 117)) (vs := q.l) (t := 117)
    rw [World.size_alloc] at this
    exact this
  have b0 : Below w.heap.size w ((w.alloc (HBox h 117)).alloc (HBox q 117)) := ((Below.refl _ _).alloc (Nat.le_refl _) _).alloc (by simp) _
  have A0 := Lib.hid a0
  have A1 := Lib.hid a1
  have B0 := Lib.hid b0
  clear a0 a1 b0
  go_enter Try.func95, Try.ntmps95
  go_wp2_with fail
  change Calls _ _ _ ((w.alloc (HBox h 117)).alloc (HBox q 117)) _
  generalize ((w.alloc (HBox h 117)).alloc (HBox q 117)) = W at *
  refine (laws_eqVector _ _ _ _ _ _ _ _ _ _ I.out.2.2.1.1 I.out.2.2.1.2.1 I.out.2.2.1.2.2 J.out.2.2.1.1 J.out.2.2.1.2.1 J.out.2.2.1.2.2).mono ?_
  rintro e w1 ⟨rfl, hB1⟩
  have A2 := Lib.hid (A0.out.below hB1)
  have A3 := Lib.hid (A1.out.below hB1)
  have B1 := Lib.hid (B0.out.trans (hB1.mono B0.out.size))
  clear hB1
  have k5 := A2.out 5 _ rfl
  have k6 := A2.out 6 _ rfl
  have k7 := A2.out 7 _ rfl
  have m5 := A3.out 5 _ rfl
  have m6 := A3.out 6 _ rfl
  have m7 := A3.out 7 _ rfl
  go_wp2_with fail
  refine (laws_eqVector _ _ _ _ _ _ _ _ _ _ I.out.2.2.2.1 I.out.2.2.2.2.1 I.out.2.2.2.2.2 J.out.2.2.2.1 J.out.2.2.2.2.1 J.out.2.2.2.2.2).mono ?_
  rintro e w2 ⟨rfl, hB2⟩
  have B2 := Lib.hid (B1.out.trans (hB2.mono B1.out.size))
  clear hB2
  go_wp2
  go_ret
  exact ⟨rfl, B2.out⟩
/-- Which holds have the form of one: the program. -/
theorem impl_IsHold (h : HW) (c : HC) (w : World) (i : h.Is c) :
    Calls Try.prog 154 #[h.v] w fun e w' => e = .returned (.bool (holdB c)) ∧ Below w.heap.size w w' := by
  have u := Try.underlying31
  have ui := Try.underlying2
  have uh := Try.underlying117
  have uv := Try.underlying34
  unfold HW.v holdB
  have JF := Lib.hid (fun w => impl_isFiniteVector h.x h.y h.z c.2.2.1 w i.2.2.1.1 i.2.2.1.2.1 i.2.2.1.2.2)
  have JW := Lib.hid (fun w => impl_isFiniteVector h.s h.t h.u c.2.2.2 w i.2.2.2.1 i.2.2.2.2.1 i.2.2.2.2.2)
  have JI := Lib.hid (fun w => impl_InnerOf h.s h.t h.u h.s h.t h.u w _ _ _ _ _ _ i.2.2.2.1 i.2.2.2.2.1 i.2.2.2.2.2 i.2.2.2.1 i.2.2.2.2.1 i.2.2.2.2.2)
  have hin : fop .add .f32 (fop .add .f32 (fop .mul .f32 c.2.2.2.1 c.2.2.2.1) (fop .mul .f32 c.2.2.2.2.1 c.2.2.2.2.1)) (fop .mul .f32 c.2.2.2.2.2 c.2.2.2.2.2) = innC c.2.2.2 c.2.2.2 := rfl
  rw [hin] at JI
  rw [← i.1, ← i.2.1]
  have A0 := Lib.hid (At.new (w := w) (vs := h.l) (t := 117))
  have B0 := Lib.hid ((Below.refl w.heap.size w).alloc (Nat.le_refl _) (HBox h 117))
  generalize innC c.2.2.2 c.2.2.2 = N at *
  generalize finV c.2.2.1 = f1 at *
  generalize finV c.2.2.2 = f2 at *
  clear i hin
  by_cases hp : 0 ≤ h.p
  · have hp0 : decide (h.p < 0) = false := decide_eq_false (by omega)
    rw [decide_eq_true hp]
    cases f1
    · go_enter Try.func154, Try.ntmps154
      go_wp2_with fail
      change Calls _ _ _ (w.alloc (HBox h 117)) _
      refine (JF.out _).mono ?_
      rintro e w1 ⟨rfl, hB1⟩
      have B1 := Lib.hid (B0.out.trans (hB1.mono B0.out.size))
      clear hB1
      go_wp2
      go_ret
      exact ⟨rfl, B1.out⟩
    · cases f2
      · go_enter Try.func154, Try.ntmps154
        go_wp2_with fail
        change Calls _ _ _ (w.alloc (HBox h 117)) _
        refine (JF.out _).mono ?_
        rintro e w1 ⟨rfl, hB1⟩
        have A1 := A0.out.below hB1
        have B1 := Lib.hid (B0.out.trans (hB1.mono B0.out.size))
        have k5 := A1 5 _ rfl
        have k6 := A1 6 _ rfl
        have k7 := A1 7 _ rfl
        clear hB1 A1
        go_wp2_with fail
        refine (JW.out _).mono ?_
        rintro e w2 ⟨rfl, hB2⟩
        have B2 := Lib.hid (B1.out.trans (hB2.mono B1.out.size))
        clear hB2
        go_wp2
        go_ret
        exact ⟨rfl, B2.out⟩
      · by_cases h0 : h.k = 0
        · have e0 : (h.k == 0) = true := by rw [h0]; rfl
          rw [decide_eq_true h0]
          clear h0
          go_enter Try.func154, Try.ntmps154
          go_wp2_with fail
          change Calls _ _ _ (w.alloc (HBox h 117)) _
          refine (JF.out _).mono ?_
          rintro e w1 ⟨rfl, hB1⟩
          have A1 := A0.out.below hB1
          have A1h := Lib.hid A1
          have B1 := Lib.hid (B0.out.trans (hB1.mono B0.out.size))
          have k5 := A1 5 _ rfl
          have k6 := A1 6 _ rfl
          have k7 := A1 7 _ rfl
          clear hB1 A1
          go_wp2_with fail
          refine (JW.out _).mono ?_
          rintro e w2 ⟨rfl, hB2⟩
          have B2 := Lib.hid (B1.out.trans (hB2.mono B1.out.size))
          have k1 := A1h.out.below hB2 1 _ rfl
          clear hB2
          go_wp2
          go_ret
          exact ⟨rfl, B2.out⟩
        · have e0 : (h.k == 0) = false := beq_eq_false_iff_ne.2 h0
          rw [decide_eq_false h0]
          by_cases h1 : h.k = 1 ∨ h.k = 2
          · have hd : (decide (h.k = 1) || decide (h.k = 2)) = true := by rcases h1 with h1 | h1 <;> simp [h1]
            rw [hd]
            clear hd
            have e12 : ((h.k == 1) = true ∧ (h.k == 2) = false) ∨ ((h.k == 1) = false ∧ (h.k == 2) = true) := by rcases h1 with h1 | h1 <;> simp [h1]
            clear h0 h1
            rcases e12 with ⟨e1, e2⟩ | ⟨e1, e2⟩
            all_goals
              go_enter Try.func154, Try.ntmps154
              go_wp2_with fail
              change Calls _ _ _ (w.alloc (HBox h 117)) _
              refine (JF.out _).mono ?_
              rintro e w1 ⟨rfl, hB1⟩
              have A1 := A0.out.below hB1
              have A1h := Lib.hid A1
              have B1 := Lib.hid (B0.out.trans (hB1.mono B0.out.size))
              have k5 := A1 5 _ rfl
              have k6 := A1 6 _ rfl
              have k7 := A1 7 _ rfl
              clear hB1 A1
              go_wp2_with fail
              refine (JW.out _).mono ?_
              rintro e w2 ⟨rfl, hB2⟩
              clear k5 k6 k7
              have B2 := Lib.hid (B1.out.trans (hB2.mono B1.out.size))
              have k1 := A1h.out.below hB2 1 _ rfl
              have k5 := A1h.out.below hB2 5 _ rfl
              have k6 := A1h.out.below hB2 6 _ rfl
              have k7 := A1h.out.below hB2 7 _ rfl
              clear hB2
              go_wp2_with fail
              refine (JI.out _).mono ?_
              rintro e w3 ⟨r, rfl, hr, hB3⟩
              have B3 := Lib.hid (B2.out.trans (hB3.mono B2.out.size))
              clear hB3
              have hM := Lib.hid (fun w => impl_isMeasure r w hr.1)
              rw [hr.size] at hM
              go_wp2_with (go_at_call 124; refine (hM.out _).mono ?_; rintro e w4 ⟨rfl, n, hw⟩; rw [hw]; clear hw w4)
              go_ret
              exact ⟨ret_bool (by simp), by repeat (first | exact B3.out | refine below_drewN ?_ _)⟩
          · have hd : (decide (h.k = 1) || decide (h.k = 2)) = false := by simp; omega
            have e1 : (h.k == 1) = false := beq_eq_false_iff_ne.2 (by omega)
            have e2 : (h.k == 2) = false := beq_eq_false_iff_ne.2 (by omega)
            rw [hd]
            clear hd h0 h1
            go_enter Try.func154, Try.ntmps154
            go_wp2_with fail
            change Calls _ _ _ (w.alloc (HBox h 117)) _
            refine (JF.out _).mono ?_
            rintro e w1 ⟨rfl, hB1⟩
            have A1 := A0.out.below hB1
            have A1h := Lib.hid A1
            have B1 := Lib.hid (B0.out.trans (hB1.mono B0.out.size))
            have k5 := A1 5 _ rfl
            have k6 := A1 6 _ rfl
            have k7 := A1 7 _ rfl
            clear hB1 A1
            go_wp2_with fail
            refine (JW.out _).mono ?_
            rintro e w2 ⟨rfl, hB2⟩
            have B2 := Lib.hid (B1.out.trans (hB2.mono B1.out.size))
            have k1 := A1h.out.below hB2 1 _ rfl
            clear hB2
            go_wp2
            go_ret
            exact ⟨rfl, B2.out⟩
  · have hp0 : decide (h.p < 0) = true := decide_eq_true (by omega)
    rw [decide_eq_false hp]
    go_enter Try.func154, Try.ntmps154
    go_wp2
    go_ret
    exact ⟨rfl, B0.out⟩
end Go.Proofs.Ytmbekamnogbgaaa

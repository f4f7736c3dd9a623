
/-
One hold: copies, that two are the same, and which have the form of one: what the program, its model and the law's own functions return. Conditions: none beyond that the words fit.
-/
import Derived.Test.YtcgnmnbjgamedaaHoB
namespace Go.Proofs.Ytcgnmnbjgamedaa
open Go Fk Go.RowKit
set_option linter.unusedVariables false
set_option maxRecDepth 8000

abbrev HBox (h : HW) (t : TypeId) : Obj := .cells #[.int .i64 h.p, .int .i64 h.k, .float .f32 h.x, .float .f32 h.y, .float .f32 h.z, .float .f32 h.s, .float .f32 h.t, .float .f32 h.u] t
theorem impl_isFiniteVector (x y z : Nat) (c : C3) (w : World) (hx : FV .f32 x c.1) (hy : FV .f32 y c.2.1) (hz : FV .f32 z c.2.2) :
    Calls Try.prog 59 #[vv x y z] w fun e w' => e = .returned (.bool (finV c)) ∧ Below w.heap.size w w' := by
  have u := Try.underlying22
  have uv := Try.underlying33
  unfold finV
  rw [← hx.fin, ← hy.fin, ← hz.fin]
  have HX := Lib.hid (fun w => impl_IsFinite x w hx.1)
  have HY := Lib.hid (fun w => impl_IsFinite y w hy.1)
  have HZ := Lib.hid (fun w => impl_IsFinite z w hz.1)
  generalize finB x = a at *
  generalize finB y = b at *
  generalize finB z = d at *
  clear hx hy hz
  cases a
  · go_enter Try.func59, Try.ntmps59
    go_wp2_with fail
    refine (HX.out _).mono ?_
    rintro e w1 ⟨rfl, n, hw⟩
    rw [hw]; clear hw w1
    go_wp2
    go_ret
    exact ⟨rfl, below_drewN ((Below.refl _ _).alloc (Nat.le_refl _) _) _⟩
  · cases b
    all_goals
      go_enter Try.func59, Try.ntmps59
      go_wp2_with fail
      refine (HX.out _).mono ?_
      rintro e w1 ⟨rfl, n, hw⟩
      rw [hw]; clear hw w1
      go_wp2_with fail
      refine (HY.out _).mono ?_
      rintro e w1 ⟨rfl, n2, hw⟩
      rw [hw]; clear hw w1
      go_wp2_with (go_at_call 52; refine (HZ.out _).mono ?_; rintro e w1 ⟨rfl, n3, hw⟩; rw [hw]; clear hw w1)
      go_ret
      exact ⟨rfl, by repeat (first | exact (Below.refl _ _).alloc (Nat.le_refl _) _ | refine below_drewN ?_ _)⟩
theorem l01VFinite (x y z : Nat) (c : C3) (w : World) (hx : FV .f32 x c.1) (hy : FV .f32 y c.2.1) (hz : FV .f32 z c.2.2) :
    Calls Try.prog 62 #[vv x y z] w fun e w' => e = .returned (.bool (finV c)) ∧ Below w.heap.size w w' := by
  have u := Try.underlying22
  have uv := Try.underlying33
  unfold finV
  rw [← hx.fin, ← hy.fin, ← hz.fin]
  have HX := Lib.hid (fun w => l01Finite x w hx.1)
  have HY := Lib.hid (fun w => l01Finite y w hy.1)
  have HZ := Lib.hid (fun w => l01Finite z w hz.1)
  generalize finB x = a at *
  generalize finB y = b at *
  generalize finB z = d at *
  clear hx hy hz
  cases a
  · go_enter Try.func62, Try.ntmps62
    go_wp2_with fail
    refine (HX.out _).mono ?_
    rintro e w1 ⟨rfl, n, hw⟩
    rw [hw]; clear hw w1
    go_wp2
    go_ret
    exact ⟨rfl, below_drewN ((Below.refl _ _).alloc (Nat.le_refl _) _) _⟩
  · cases b
    all_goals
      go_enter Try.func62, Try.ntmps62
      go_wp2_with fail
      refine (HX.out _).mono ?_
      rintro e w1 ⟨rfl, n, hw⟩
      rw [hw]; clear hw w1
      go_wp2_with fail
      refine (HY.out _).mono ?_
      rintro e w1 ⟨rfl, n2, hw⟩
      rw [hw]; clear hw w1
      go_wp2_with (go_at_call 51; refine (HZ.out _).mono ?_; rintro e w1 ⟨rfl, n3, hw⟩; rw [hw]; clear hw w1)
      go_ret
      exact ⟨rfl, by repeat (first | exact (Below.refl _ _).alloc (Nat.le_refl _) _ | refine below_drewN ?_ _)⟩
abbrev Z8 : List Value := [.int .i64 0, .int .i64 0, .float .f32 0, .float .f32 0, .float .f32 0, .float .f32 0, .float .f32 0, .float .f32 0]
end Go.Proofs.Ytcgnmnbjgamedaa

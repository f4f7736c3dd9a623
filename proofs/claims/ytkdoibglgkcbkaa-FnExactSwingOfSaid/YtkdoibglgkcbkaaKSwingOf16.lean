/-
Texts in one: what SwingOf stands on, part 16. Conditions: those of each.
-/
import Derived.Test.YtkdoibglgkcbkaaKSwingOf15

/-
Which springs and which bodies are valid: what the program and its model return. Conditions: none.
-/
namespace Go.Proofs.Ytkdoibglgkcbkaa
open Go Fk Go.RowKit
set_option linter.unusedVariables false
set_option maxRecDepth 8000

/-- At least 0. -/
def geB (c : Option Nat) : Bool := ford .f32 c (some 0) == some .gt || ford .f32 c (some 0) == some .eq
def springB (n : Nat) (s : SC) : Bool := inB n s.1 && inB n s.2.1 && decide (s.1 ≠ s.2.1) && geB s.2.2.1
def bodyB (c : Bc) : Bool := validB c.cs c.ts && decide (c.ss.length ≤ 200) && decide (c.zs.length = c.cs.length) && c.ss.all (springB c.cs.length)
theorem geB_order {p : Nat} {c : Option Nat} (h : FV .f32 p c) : (FloatKind.f32.format.order p 0 == some .gt || FloatKind.f32.format.order p 0 == some .eq) = geB c := by
  rw [ford_of h FV_00]; rfl
theorem impl_isBetween (a b : Int) (x y n : Nat) (c d : Option Nat) (w : World) (hx : FV .f32 x c) :
    Calls Try.prog 172 #[sv a b x y, .int .i64 n] w fun e w' => e = .returned (.bool (springB n (a, b, c, d))) ∧ Below w.heap.size w w' := by
  have us := Try.underlying125
  have u := Try.underlying22
  have ui := Try.underlying2
  have hg := geB_order hx
  show Calls _ _ _ w fun e w' => e = .returned (.bool (inB n a && inB n b && decide (a ≠ b) && geB c)) ∧ Below w.heap.size w w'
  have J0 := Lib.hid (fun w => impl_isIndex a n w)
  have J1 := Lib.hid (fun w => impl_isIndex b n w)
  generalize geB c = g at *
  generalize inB n a = i0 at *
  generalize inB n b = i1 at *
  have B0 := Lib.hid ((Below.refl w.heap.size w).alloc (Nat.le_refl _) (.cells #[.int .i64 a, .int .i64 b, .float .f32 x, .float .f32 y] 125))
  clear hx
  cases i0
  · go_enter Try.func172, Try.ntmps172
    go_wp2_with fail
    refine (J0.out _).mono ?_
    rintro e w1 ⟨rfl, hw1⟩
    rw [hw1]; clear hw1 w1
    go_wp2
    go_ret
    exact ⟨rfl, B0.out⟩
  · cases i1
    · go_enter Try.func172, Try.ntmps172
      go_wp2_with fail
      refine (J0.out _).mono ?_
      rintro e w1 ⟨rfl, hw1⟩
      rw [hw1]; clear hw1 w1
      go_wp2_with fail
      refine (J1.out _).mono ?_
      rintro e w1 ⟨rfl, hw1⟩
      rw [hw1]; clear hw1 w1
      go_wp2
      go_ret
      exact ⟨rfl, B0.out⟩
    · by_cases hab : a = b
      · have hd : decide (a ≠ b) = false := decide_eq_false (fun h => h hab)
        rw [hd]
        clear hd
        subst hab
        go_enter Try.func172, Try.ntmps172
        go_wp2_with fail
        refine (J0.out _).mono ?_
        rintro e w1 ⟨rfl, hw1⟩
        rw [hw1]; clear hw1 w1
        go_wp2_with fail
        refine (J1.out _).mono ?_
        rintro e w1 ⟨rfl, hw1⟩
        rw [hw1]; clear hw1 w1
        go_wp2
        go_ret
        exact ⟨rfl, B0.out⟩
      · have hd : decide (a ≠ b) = true := decide_eq_true hab
        have hq : (a == b) = false := beq_eq_false_iff_ne.2 hab
        rw [hd]
        clear hd
        cases g
        all_goals
          go_enter Try.func172, Try.ntmps172
          go_wp2_with fail
          refine (J0.out _).mono ?_
          rintro e w1 ⟨rfl, hw1⟩
          rw [hw1]; clear hw1 w1
          go_wp2_with fail
          refine (J1.out _).mono ?_
          rintro e w1 ⟨rfl, hw1⟩
          rw [hw1]; clear hw1 w1
          go_wp2
          go_ret
          exact ⟨ret_bool (by simp [hg, hab]), B0.out⟩
set_option maxHeartbeats 8000000 in
theorem l03Spring (b o : Nat) (u v : Int) (p n : Nat) (c d : Option Nat) (w : World) (c0 : w.cell? ⟨b, o, none⟩ = some (.int .i64 u)) (c1 : w.cell? ⟨b, o + 1, none⟩ = some (.int .i64 v)) (c2 : w.cell? ⟨b, o + 2, none⟩ = some (.float .f32 p)) (hp : FV .f32 p c) (hn : (n : Int) ≤ 9223372036854775807) :
    Calls Try.prog 170 #[.pointer (some ⟨b, o, none⟩), .int .i64 n] w fun e w' => e = .returned (.bool (springB n (u, v, c, d))) ∧ ∃ m, w' = w.drewN m := by
  have us := Try.underlying125
  have uf := Try.underlying22
  have ui := Try.underlying2
  have hg := geB_order hp
  have e1 : IntKind.i64.wrap ((n : Int) - 1) = (n : Int) - 1 := IntWalk.i64_in _ (by omega)
  show Calls _ _ _ w fun e w' => e = .returned (.bool (inB n u && inB n v && decide (u ≠ v) && geB c)) ∧ ∃ m, w' = w.drewN m
  have J0 := Lib.hid (fun w => (l00In u n w).mono (R' := fun e w' => e = .returned (.bool (inB n u)) ∧ ∃ m, w' = w.drewN m) (fun _ _ h => ⟨h.1, 0, h.2⟩))
  have J1 := Lib.hid (fun w => (l00In v n w).mono (R' := fun e w' => e = .returned (.bool (inB n v)) ∧ ∃ m, w' = w.drewN m) (fun _ _ h => ⟨h.1, 0, h.2⟩))
  generalize geB c = g at *
  generalize inB n u = i0 at *
  generalize inB n v = i1 at *
  clear hp hn
  by_cases huv : u = v
  · have hd : decide (u ≠ v) = false := decide_eq_false (fun h => h huv)
    rw [hd]
    clear hd
    subst huv
    cases i0 <;> cases i1
    all_goals
      go_enter Try.func170, Try.ntmps170
      go_wp2_with fail
      go_quiet ((go_at_call 102; first | with_reducible exact Calls.quiet_of (J0.out _) | with_reducible exact Calls.quiet_of (J1.out _)))
      go_wp2
      go_ret
      exact ⟨ret_bool (by simp), _, rfl⟩
  · have hd : decide (u ≠ v) = true := decide_eq_true huv
    have hq : (u == v) = false := beq_eq_false_iff_ne.2 huv
    rw [hd]
    clear hd
    cases i0 <;> cases i1 <;> cases g
    all_goals
      go_enter Try.func170, Try.ntmps170
      go_wp2_with fail
      go_quiet ((go_at_call 102; first | with_reducible exact Calls.quiet_of (J0.out _) | with_reducible exact Calls.quiet_of (J1.out _)))
      go_wp2
      go_ret
      exact ⟨ret_bool (by simp [hg, huv]), _, rfl⟩
end Go.Proofs.Ytkdoibglgkcbkaa


/-
Which numbers are finite and greater than zero: the model. Conditions: none.
-/
namespace Go.Proofs.Ytkdoibglgkcbkaa
open Go Fk Go.RowKit
set_option linter.unusedVariables false
set_option maxRecDepth 8000

theorem l03Positive (x : Nat) (w : World) (hx : x < 4294967296) :
    Calls Try.prog 50 #[.float .f32 x] w fun e w' => e = .returned (.bool (sizeB x)) ∧ ∃ n, w' = w.drewN n := by
  have u := Try.underlying22
  unfold sizeB
  have HJ := Lib.hid (fun w => l01Finite x w hx)
  generalize finB x = f at *
  cases f
  · go_enter Try.func50, Try.ntmps50
    go_wp2_with (go_at_call 83; refine (HJ.out _).mono ?_; rintro e w1 ⟨rfl, n, hw⟩; rw [hw]; clear hw w1)
    go_ret
    exact ⟨rfl, _, rfl⟩
  · go_enter Try.func50, Try.ntmps50
    go_wp2_with (go_at_call 83; refine (HJ.out _).mono ?_; rintro e w1 ⟨rfl, n, hw⟩; rw [hw]; clear hw w1)
    go_ret
    exact ⟨rfl, _, rfl⟩
end Go.Proofs.Ytkdoibglgkcbkaa

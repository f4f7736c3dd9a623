
/-
The energy of a gas: what the program, its model and the law return. Conditions: none beyond that the words fit.
-/
import Derived.Test.YtljpjmkickkcpabHoM
import Derived.Test.YtljpjmkickkcpabScalB
import Derived.Test.YtljpjmkickkcpabVecB
import Derived.Test.YtljpjmkickkcpabLogL
namespace Go.Proofs.Ytljpjmkickkcpab
open Go Fk Go.RowKit
set_option linter.unusedVariables false
set_option maxRecDepth 8000
theorem negF {x : Nat} (hx : x < 4294967296) : Op.negFloat .f32 x < 4294967296 ∧ Op.negFloat .f32 x % 2147483648 = x % 2147483648 := by
  have h := neg_lt hx
  refine ⟨h, ?_⟩
  unfold Op.negFloat
  show (x ^^^ 2147483648) % 2147483648 = x % 2147483648
  have e : (x ^^^ 2 ^ 31) % 2 ^ 31 = x % 2 ^ 31 := by
    apply Nat.eq_of_testBit_eq
    intro i
    rw [Nat.testBit_mod_two_pow, Nat.testBit_mod_two_pow, Nat.testBit_xor, Nat.testBit_two_pow]
    by_cases hi : i < 31
    · have : ¬ 31 = i := by omega
      simp [hi, this]
    · simp [hi]
  exact e
theorem FV_neg {x : Nat} {c : Option Nat} (h : FV .f32 x c) : FV .f32 (Op.negFloat .f32 x) (c.map (Op.negFloat .f32)) := by
  obtain ⟨h1, h2⟩ := negF h.1
  refine ⟨h1, ?_⟩
  cases hn : nan32 x
  · have e : c = some x := by rw [← h.2]; exact cls_num hn
    rw [e]
    refine cls_num ?_
    have : nan32 (Op.negFloat .f32 x) = false := by
      rw [nan32_iff] at hn ⊢
      rw [h2]; exact hn
    exact this
  · have e : c = none := by rw [← h.2]; exact cls_nan hn
    rw [e]
    refine cls_nan ?_
    have : nan32 (Op.negFloat .f32 x) = true := by
      rw [nan32_iff] at hn ⊢
      rw [h2]; exact hn
    exact this
def gasE (x y : Nat) : Option Nat := bif gasB (cls .f32 x) (cls .f32 y) then (fop .mul .f32 (cls .f32 x) (logT y)).map (Op.negFloat .f32) else some 0
theorem impl_GasEnergy (x y : Nat) (w : World) (hx : x < 2 ^ FloatKind.f32.format.width) (hy : y < 2 ^ FloatKind.f32.format.width) :
    Calls Try.prog 24 #[.float .f32 x, .float .f32 y] w fun e w' => ∃ r, e = .returned (.tuple #[.float .f32 r, .bool (gasB (cls .f32 x) (cls .f32 y))]) ∧ FV .f32 r (gasE x y) ∧ ∃ n, w' = w.drewN n := by
  have u := Try.underlying27
  unfold gasE
  have fx := FV.self hx
  have HJ := Lib.hid (fun w => impl_isGas x y _ _ w fx (FV.self hy))
  have HL := Lib.hid (fun w => impl_LogNumber y w hy)
  generalize gasB (cls .f32 x) (cls .f32 y) = f at *
  generalize logT y = L at *
  cases f
  all_goals
    go_enter Try.func24, Try.ntmps24
    go_wp2_with (first
      | (go_at_call 70; refine (HJ.out _).mono ?_; rintro e w1 ⟨rfl, n, hw⟩; rw [hw]; clear hw w1)
      | (go_at_call 72; refine (HL.out _).mono ?_; rintro e w1 ⟨r, rfl, hr, n2, hw⟩; rw [hw]; clear hw w1)
      | (go_at_call 71; refine (impl_product32 _ _ _ _ _ fx hr).mono ?_; rintro en w3 ⟨s, rfl, hs, n3, hw⟩; rw [hw]; clear hw w3))
    go_ret2
    exact ⟨_, rfl, by first | exact Fk.FV.zero | exact FV_neg hs, _, rfl⟩
theorem spec_GasEnergy (x y : Nat) (w : World) (hx : x < 2 ^ FloatKind.f32.format.width) (hy : y < 2 ^ FloatKind.f32.format.width) :
    Calls Try.prog 23 #[.float .f32 x, .float .f32 y] w fun e w' => ∃ r, e = .returned (.tuple #[.float .f32 r, .bool (gasB (cls .f32 x) (cls .f32 y))]) ∧ FV .f32 r (gasE x y) ∧ ∃ n, w' = w.drewN n := by
  have u := Try.underlying27
  unfold gasE
  have fx := FV.self hx
  have HJ := Lib.hid (fun w => l04Amount x y _ _ w fx (FV.self hy))
  have HL := Lib.hid (fun w => l01Log y w hy)
  generalize gasB (cls .f32 x) (cls .f32 y) = f at *
  generalize logT y = L at *
  cases f
  all_goals
    go_enter Try.func23, Try.ntmps23
    go_wp2_with (first
      | (go_at_call 68; refine (HJ.out _).mono ?_; rintro e w1 ⟨rfl, n, hw⟩; rw [hw]; clear hw w1)
      | (go_at_call 69; refine (HL.out _).mono ?_; rintro e w1 ⟨r, rfl, hr, n2, hw⟩; rw [hw]; clear hw w1))
    go_ret2
    exact ⟨_, rfl, by first | exact Fk.FV.zero | exact FV_neg (FV_fR fx hr), _, rfl⟩
theorem FnExactGasEnergy_law (x y : Nat) (w : World) (hx : x < 2 ^ FloatKind.f32.format.width) (hy : y < 2 ^ FloatKind.f32.format.width) :
    Calls Try.prog 5 #[.float .f32 x, .float .f32 y] w fun e w' => e = .returned (.bool true) ∧ Below w.heap.size w w' := by
  have u := Try.underlying27
  have u' := Try.underlying35
  have JS := Lib.hid (fun w => spec_GasEnergy x y w hx hy)
  have JI := Lib.hid (fun w => impl_GasEnergy x y w hx hy)
  generalize gasB (cls .f32 x) (cls .f32 y) = f at *
  generalize gasE x y = E at *
  have hf1 : (f == f) = true := by simp
  have hf2 : (f != f) = false := by simp
  go_enter Try.func5, Try.ntmps5
  go_wp2_with (first
    | (go_at_call 23; refine (JS.out _).mono ?_; rintro e w1 ⟨r, rfl, hr, n, hw⟩; rw [hw]; clear hw w1)
    | (go_at_call 24; refine (JI.out _).mono ?_; rintro e w1 ⟨s, rfl, hs, n', hw⟩; rw [hw]; clear hw w1)
    | (go_at_call 18; refine (laws_sameFloat _ _ _ _ (FV_wR hs) (FV_wR hr)).mono ?_; rintro en w' ⟨rfl, n1, rfl⟩))
  go_ret
  exact ⟨rfl, below_drewN (Below.refl _ _) _⟩
end Go.Proofs.Ytljpjmkickkcpab

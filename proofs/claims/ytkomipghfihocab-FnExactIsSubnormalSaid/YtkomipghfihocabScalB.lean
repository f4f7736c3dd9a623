
/-
Numbers of bits, and next numbers: what the program and its model return. Conditions: none beyond that the words fit.
-/
import Derived.Test.YtkomipghfihocabScal
import Derived.Below
import Derived.IntWalk
namespace Go.Proofs.Ytkomipghfihocab
open Go Fk Go.RowKit
set_option linter.unusedVariables false

theorem l01From (n : Nat) (w : World) (h : n ≤ 4294967295) :
    Calls Try.prog 74 #[.int .i64 n] w fun e w' => e = .returned (.float .f32 n) ∧ w' = w := by
  have u := Try.underlying2
  have u' := Try.underlying52
  have h3 : IntKind.u32.wrap (n : Int) = n := IntWalk.u32_in _ (by omega)
  go_enter Try.func74, Try.ntmps74
  go_wp2
  go_ret
  exact ⟨rfl, rfl⟩
/-! Next numbers -/
theorem key32 (x : Nat) : key .f32 x = if x < 2147483648 then (x : Int) else 2147483648 - x := by
  have e2 : FloatKind.f32.format.signWeight = 2147483648 := by decide
  unfold key; rw [e2]; rfl
theorem ord0 {x : Nat} (hx : x < 4294967296) (hn : nan32 x = false) : FloatKind.f32.format.order x 0 = some (compare (key .f32 x) 0) := by
  rw [order_key (k := .f32) (show x < 2 ^ FloatKind.f32.format.width from hx) (by decide) hn (by decide)]; rfl
theorem ord0_eq {x : Nat} (hx : x < 4294967296) (hn : nan32 x = false) (h : x % 2147483648 = 0) : FloatKind.f32.format.order x 0 = some .eq := by
  rw [ord0 hx hn, Int.compare_eq_eq.2 (by rw [key32]; split <;> omega)]
theorem ord0_gt {x : Nat} (hx : x < 4294967296) (hn : nan32 x = false) (h : 0 < x ∧ x < 2147483648) : FloatKind.f32.format.order x 0 = some .gt := by
  rw [ord0 hx hn, Int.compare_eq_gt.2 (by rw [key32]; split <;> omega)]
theorem ord0_lt {x : Nat} (hx : x < 4294967296) (hn : nan32 x = false) (h : 2147483648 < x) : FloatKind.f32.format.order x 0 = some .lt := by
  rw [ord0 hx hn, Int.compare_eq_lt.2 (by rw [key32]; split <;> omega)]
def nxt (x : Nat) : Nat := if nan32 x = true ∨ x = 2139095040 then x else if x % 2147483648 = 0 then 1 else if x < 2147483648 then x + 1 else x - 1
theorem nxt_lt {x : Nat} (hx : x < 4294967296) : nxt x < 4294967296 := by
  unfold nxt; split
  · exact hx
  · split
    · omega
    · split <;> omega
theorem ret_f32 {a b : Nat} (h : a = b) : Ending.returned (.float .f32 a) = .returned (.float .f32 b) := by rw [h]

/-- The five ways of a number. -/
theorem five (x : Nat) (hx : x < 4294967296) :
    (nan32 x = true ∧ nxt x = x) ∨
    (nan32 x = false ∧ ((x = 2139095040 ∧ nxt x = x) ∨
      (x ≠ 2139095040 ∧ x % 2147483648 = 0 ∧ nxt x = 1) ∨ (0 < x ∧ x < 2139095040 ∧ nxt x = x + 1) ∨ (2147483648 < x ∧ nxt x = x - 1))) := by
  cases hn : nan32 x
  · right
    refine ⟨rfl, ?_⟩
    have hn' := hn
    rw [nan32_iff] at hn'
    have hn'' : ¬ 2139095040 < x % 2147483648 := by simpa using hn'
    by_cases h1 : x = 2139095040
    · left; exact ⟨h1, by unfold nxt; rw [if_pos (.inr h1)]⟩
    · right
      have e : nxt x = if x % 2147483648 = 0 then 1 else if x < 2147483648 then x + 1 else x - 1 := by
        unfold nxt; rw [if_neg (by simp [hn, h1])]
      rw [e]
      by_cases h2 : x % 2147483648 = 0
      · left; exact ⟨h1, h2, if_pos h2⟩
      · right
        rw [if_neg h2]
        by_cases h3 : x < 2147483648
        · left; exact ⟨by omega, by omega, if_pos h3⟩
        · right; exact ⟨by omega, if_neg h3⟩
  · left; exact ⟨rfl, by unfold nxt; rw [if_pos (.inl hn)]⟩

theorem impl_NextUp (x : Nat) (w : World) (hx : x < 4294967296) :
    Calls Try.prog 43 #[.float .f32 x] w fun e w' => e = .returned (.float .f32 (nxt x)) ∧ ∃ n, w' = w.drewN n := by
  have u := Try.underlying25
  have u' := Try.underlying22
  have hlt := fun w => wR_lt (x := x) w hx
  have hi := fun w => inf1 (x := x) w hx
  rcases five x hx with ⟨hn, he⟩ | ⟨hn, h⟩
  · have H := Lib.hid he
    clear he hi
    go_enter Try.func43, Try.ntmps43
    go_wp2_with (go_at_call 61; refine (impl_isNaN _ _).mono ?_; rintro e w' ⟨rfl, n, rfl⟩)
    go_ret
    exact ⟨ret_f32 H.out.symm, _, rfl⟩
  · rcases h with ⟨h1, he⟩ | ⟨h1, h2, he⟩ | ⟨h1, h2, he⟩ | ⟨h1, he⟩
    · have H := Lib.hid he
      have hb : decide (x = 2139095040) = true := decide_eq_true h1
      have H1 := Lib.hid h1
      clear he h1
      simp only [hb] at hi
      clear hb
      go_enter Try.func43, Try.ntmps43
      go_wp2_with (first
        | (go_at_call 61; refine (impl_isNaN _ _).mono ?_; rintro e w' ⟨rfl, n, rfl⟩)
        | (go_at_call 63; refine (math_IsInf1 _ _ (hlt _)).mono ?_; rintro e w' ⟨rfl, rfl⟩))
      go_ret
      exact ⟨ret_f32 H.out.symm, _, rfl⟩
    · have ho := ord0_eq hx hn h2
      have H := Lib.hid he
      have hb : decide (x = 2139095040) = false := decide_eq_false h1
      simp only [hb] at hi
      clear he h1 h2 hb
      go_enter Try.func43, Try.ntmps43
      go_wp2_with (first
        | (go_at_call 61; refine (impl_isNaN _ _).mono ?_; rintro e w' ⟨rfl, n, rfl⟩)
        | (go_at_call 63; refine (math_IsInf1 _ _ (hlt _)).mono ?_; rintro e w' ⟨rfl, rfl⟩))
      go_ret
      exact ⟨ret_f32 H.out.symm, _, rfl⟩
    · have ho := ord0_gt hx hn ⟨h1, by omega⟩
      have H := Lib.hid he
      have hb : decide (x = 2139095040) = false := decide_eq_false (by omega)
      have h3 : IntKind.u32.wrap ((x : Int) + 1) = ((x + 1 : Nat) : Int) := IntWalk.u32_in _ (by omega)
      simp only [hb] at hi
      clear he h1 h2 hb
      go_enter Try.func43, Try.ntmps43
      go_wp2_with (first
        | (go_at_call 61; refine (impl_isNaN _ _).mono ?_; rintro e w' ⟨rfl, n, rfl⟩)
        | (go_at_call 63; refine (math_IsInf1 _ _ (hlt _)).mono ?_; rintro e w' ⟨rfl, rfl⟩))
      go_ret
      exact ⟨ret_f32 (by rw [H.out]), _, rfl⟩
    · have ho := ord0_lt hx hn h1
      have H := Lib.hid he
      have hb : decide (x = 2139095040) = false := decide_eq_false (by omega)
      have h3 : IntKind.u32.wrap ((x : Int) - 1) = ((x - 1 : Nat) : Int) := by rw [IntWalk.u32_in _ (by omega)]; omega
      simp only [hb] at hi
      clear he h1 hb
      go_enter Try.func43, Try.ntmps43
      go_wp2_with (first
        | (go_at_call 61; refine (impl_isNaN _ _).mono ?_; rintro e w' ⟨rfl, n, rfl⟩)
        | (go_at_call 63; refine (math_IsInf1 _ _ (hlt _)).mono ?_; rintro e w' ⟨rfl, rfl⟩))
      go_ret
      exact ⟨ret_f32 (by rw [H.out]), _, rfl⟩

theorem bits_five (x : Nat) (hn : nan32 x = false) : bitsZ x = x := by unfold bitsZ; rw [if_neg (by simp [hn])]
theorem l01Next (x : Nat) (w : World) (hx : x < 4294967296) :
    Calls Try.prog 42 #[.float .f32 x] w fun e w' => e = .returned (.float .f32 (nxt x)) ∧ w' = w := by
  have u := Try.underlying25
  have u' := Try.underlying22
  have hself : (FloatKind.f32.format.order x x != some .eq) = nan32 x := ne_self .f32 x
  rcases five x hx with ⟨hn, he⟩ | ⟨hn, h⟩
  · have H := Lib.hid he
    rw [hn] at hself
    clear he
    go_enter Try.func42, Try.ntmps42
    go_wp2_with (go_at_call 55; refine (l01Bits _ _ hx).mono ?_; rintro e w' ⟨rfl, rfl⟩)
    go_ret
    exact ⟨ret_f32 H.out.symm, rfl⟩
  · have hz := bits_five x hn
    rw [hn] at hself
    rcases h with ⟨h1, he⟩ | ⟨h1, h2, he⟩ | ⟨h1, h2, he⟩ | ⟨h1, he⟩
    · have H := Lib.hid he
      have hb : (bitsZ x == 2139095040) = true := by rw [hz, h1]; rfl
      clear he h1 hz
      go_enter Try.func42, Try.ntmps42
      go_wp2_with (go_at_call 55; refine (l01Bits _ _ hx).mono ?_; rintro e w' ⟨rfl, rfl⟩)
      go_ret
      exact ⟨ret_f32 H.out.symm, rfl⟩
    · have ho := ord0_eq hx hn h2
      have H := Lib.hid he
      have hb : (bitsZ x == 2139095040) = false := by rw [hz]; simp; omega
      have h1f := l01From 1
      clear he h1 h2 hz
      go_enter Try.func42, Try.ntmps42
      go_wp2_with (first
        | (go_at_call 55; refine (l01Bits _ _ hx).mono ?_; rintro e w' ⟨rfl, rfl⟩)
        | (go_at_call 74; refine (h1f _ (by decide)).mono ?_; rintro e w' ⟨rfl, rfl⟩))
      go_ret
      exact ⟨ret_f32 H.out.symm, rfl⟩
    · have ho := ord0_gt hx hn ⟨h1, by omega⟩
      have H := Lib.hid he
      have hb : (bitsZ x == 2139095040) = false := by rw [hz]; simp; omega
      have hp : IntKind.i64.wrap (bitsZ x + 1) = ((x + 1 : Nat) : Int) := by rw [hz, IntWalk.i64_in _ (by omega)]; rfl
      have hc := fun w => l01From (x + 1) w (by omega)
      have HZ := Lib.hid hz
      clear he h1 h2 hz
      go_enter Try.func42, Try.ntmps42
      go_wp2_with (first
        | (go_at_call 55; refine (l01Bits _ _ hx).mono ?_; rintro e w' ⟨rfl, rfl⟩)
        | (go_at_call 74; refine (hc _).mono ?_; rintro e w' ⟨rfl, rfl⟩))
      go_ret
      exact ⟨ret_f32 H.out.symm, rfl⟩
    · have ho := ord0_lt hx hn h1
      have H := Lib.hid he
      have hb : (bitsZ x == 2139095040) = false := by rw [hz]; simp; omega
      have hp : IntKind.i64.wrap (bitsZ x - 1) = ((x - 1 : Nat) : Int) := by rw [hz, IntWalk.i64_in _ (by omega)]; omega
      have hc := fun w => l01From (x - 1) w (by omega)
      have HZ := Lib.hid hz
      clear he h1 hz
      go_enter Try.func42, Try.ntmps42
      go_wp2_with (first
        | (go_at_call 55; refine (l01Bits _ _ hx).mono ?_; rintro e w' ⟨rfl, rfl⟩)
        | (go_at_call 74; refine (hc _).mono ?_; rintro e w' ⟨rfl, rfl⟩))
      go_ret
      exact ⟨ret_f32 H.out.symm, rfl⟩
/-! The opposite -/
@[go_sem] theorem run_neg_float {P : Program} (k : FloatKind) (x : Nat) (w : World) : (Op.unary .neg (.float k x)).run P w = .ok (.float k (Op.negFloat k x)) w := rfl
theorem neg_lt {x : Nat} (hx : x < 4294967296) : Op.negFloat .f32 x < 4294967296 := by
  unfold Op.negFloat
  exact Nat.xor_lt_two_pow (n := 32) hx (by decide)
theorem impl_NextDown (x : Nat) (w : World) (hx : x < 4294967296) :
    Calls Try.prog 16 #[.float .f32 x] w fun e w' => e = .returned (.float .f32 (Op.negFloat .f32 (nxt (Op.negFloat .f32 x)))) ∧ ∃ n, w' = w.drewN n := by
  have hx' := neg_lt hx
  go_enter Try.func16, Try.ntmps16
  go_wp2_with (go_at_call 43; refine (impl_NextUp _ _ hx').mono ?_; rintro e w' ⟨rfl, n, rfl⟩)
  go_ret
  exact ⟨rfl, _, rfl⟩
theorem spec_NextDown (x : Nat) (w : World) (hx : x < 4294967296) :
    Calls Try.prog 15 #[.float .f32 x] w fun e w' => e = .returned (.float .f32 (Op.negFloat .f32 (nxt (Op.negFloat .f32 x)))) ∧ w' = w := by
  have hx' := neg_lt hx
  go_enter Try.func15, Try.ntmps15
  go_wp2_with (go_at_call 42; refine (l01Next _ _ hx').mono ?_; rintro e w' ⟨rfl, rfl⟩)
  go_ret
  exact ⟨rfl, rfl⟩
end Go.Proofs.Ytkomipghfihocab

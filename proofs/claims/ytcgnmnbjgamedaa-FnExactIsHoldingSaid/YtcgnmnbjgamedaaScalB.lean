
/-
Numbers of bits, and next numbers: what the program and its model return. Conditions: none beyond that the words fit.
-/
import Derived.Test.YtcgnmnbjgamedaaScal
import Derived.Below
import Derived.IntWalk
namespace Go.Proofs.Ytcgnmnbjgamedaa
open Go Fk Go.RowKit
set_option linter.unusedVariables false

theorem l00In (n a b : Int) (w : World) :
    Calls Try.prog 63 #[.int .i64 n, .int .i64 a, .int .i64 b] w fun e w' => e = .returned (.bool (decide (a ≤ n ∧ n ≤ b))) ∧ w' = w := by
  by_cases h1 : a ≤ n
  · by_cases h2 : n ≤ b
    · rw [decide_eq_true (And.intro h1 h2)]
      go_enter Try.func63, Try.ntmps63
      go_wp2
      go_ret
      exact ⟨ret_bool (by simp), rfl⟩
    · rw [decide_eq_false (fun h => h2 h.2)]
      go_enter Try.func63, Try.ntmps63
      go_wp2
      go_ret
      exact ⟨ret_bool (by simp), rfl⟩
  · rw [decide_eq_false (fun h => h1 h.1)]
    go_enter Try.func63, Try.ntmps63
    go_wp2
    go_ret
    exact ⟨rfl, rfl⟩
/-! Next numbers -/
theorem key32 (x : Nat) : key .f32 x = if x < 2147483648 then (x : Int) else 2147483648 - x := by
  have e2 : FloatKind.f32.format.signWeight = 2147483648 := by decide
  unfold key; rw [e2]; rfl
theorem ord0 {x : Nat} (hx : x < 4294967296) (hn : nan32 x = false) : FloatKind.f32.format.order x 0 = some (compare (key .f32 x) 0) := by
  rw [order_key (k := .f32) (show x < 2 ^ FloatKind.f32.format.width from hx) (by decide) hn (by decide)]; rfl
theorem ord0_eq {x : Nat} (hx : x < 4294967296) (hn : nan32 x = false) (h : x % 2147483648 = 0) : FloatKind.f32.format.order x 0 = some .eq := by
  rw [ord0 hx hn, Int.compare_eq_eq.2 (by rw [key32]; split <;> omega)]
theorem ord0_gt {x : Nat} (hx : x < 4294967296) (hn : nan32 x = false) (h : 0 < x ∧ x < 2147483648) : FloatKind.f32.format.order x 0 = some .gt := by
  rw [ord0 hx hn, Int.compare_eq_gt.2 (by rw [key32]; split <;> omega)]
theorem ord0_lt {x : Nat} (hx : x < 4294967296) (hn : nan32 x = false) (h : 2147483648 < x) : FloatKind.f32.format.order x 0 = some .lt := by
  rw [ord0 hx hn, Int.compare_eq_lt.2 (by rw [key32]; split <;> omega)]
def nxt (x : Nat) : Nat := if nan32 x = true ∨ x = 2139095040 then x else if x % 2147483648 = 0 then 1 else if x < 2147483648 then x + 1 else x - 1
theorem nxt_lt {x : Nat} (hx : x < 4294967296) : nxt x < 4294967296 := by
  unfold nxt; split
  · exact hx
  · split
    · omega
    · split <;> omega
theorem ret_f32 {a b : Nat} (h : a = b) : Ending.returned (.float .f32 a) = .returned (.float .f32 b) := by rw [h]

/-- The five ways of a number. -/
theorem five (x : Nat) (hx : x < 4294967296) :
    (nan32 x = true ∧ nxt x = x) ∨
    (nan32 x = false ∧ ((x = 2139095040 ∧ nxt x = x) ∨
      (x ≠ 2139095040 ∧ x % 2147483648 = 0 ∧ nxt x = 1) ∨ (0 < x ∧ x < 2139095040 ∧ nxt x = x + 1) ∨ (2147483648 < x ∧ nxt x = x - 1))) := by
  cases hn : nan32 x
  · right
    refine ⟨rfl, ?_⟩
    have hn' := hn
    rw [nan32_iff] at hn'
    have hn'' : ¬ 2139095040 < x % 2147483648 := by simpa using hn'
    by_cases h1 : x = 2139095040
    · left; exact ⟨h1, by unfold nxt; rw [if_pos (.inr h1)]⟩
    · right
      have e : nxt x = if x % 2147483648 = 0 then 1 else if x < 2147483648 then x + 1 else x - 1 := by
        unfold nxt; rw [if_neg (by simp [hn, h1])]
      rw [e]
      by_cases h2 : x % 2147483648 = 0
      · left; exact ⟨h1, h2, if_pos h2⟩
      · right
        rw [if_neg h2]
        by_cases h3 : x < 2147483648
        · left; exact ⟨by omega, by omega, if_pos h3⟩
        · right; exact ⟨by omega, if_neg h3⟩
  · left; exact ⟨rfl, by unfold nxt; rw [if_pos (.inl hn)]⟩

theorem bits_five (x : Nat) (hn : nan32 x = false) : bitsZ x = x := by unfold bitsZ; rw [if_neg (by simp [hn])]
/-! The opposite -/
@[go_sem] theorem run_neg_float {P : Program} (k : FloatKind) (x : Nat) (w : World) : (Op.unary .neg (.float k x)).run P w = .ok (.float k (Op.negFloat k x)) w := rfl
theorem neg_lt {x : Nat} (hx : x < 4294967296) : Op.negFloat .f32 x < 4294967296 := by
  unfold Op.negFloat
  exact Nat.xor_lt_two_pow (n := 32) hx (by decide)
end Go.Proofs.Ytcgnmnbjgamedaa


/-
The check number of a text: what the program and its model return, and that the law returns true. Conditions: none.
-/
import Derived.Test.YtkomipghfihocadChecked
import Derived.WalkKit
import Derived.LoopTactic
import Derived.IntWalk
import Derived.Below
import Derived.Lib.Hide
namespace Go.Proofs.Ytkomipghfihocad
open Go Go.RowKit
set_option linter.unusedVariables false

theorem ret_i64' {a b : Int} (h : a = b) : Ending.returned (.int .i64 a) = .returned (.int .i64 b) := by rw [h]
def cstep (n : Int) (c : UInt8) : Int := (701 * n + c.toNat + 47) % 65003
def chk (n : Int) (l : List UInt8) : Int := l.foldl cstep n
theorem chk_bd (n : Int) (l : List UInt8) (h : 0 ≤ n ∧ n ≤ 65002) : 0 ≤ chk n l ∧ chk n l ≤ 65002 := by
  induction l generalizing n with
  | nil => exact h
  | cons c l ih => exact ih (cstep n c) (by unfold cstep; omega)
theorem take_snoc (s : ByteArray) (k : Nat) (h : k < s.size) : s.data.toList.take (k + 1) = s.data.toList.take k ++ [s[k]] := by
  rw [List.take_succ_eq_append_getElem (by simpa using h)]; rfl
theorem chk_snoc (n : Int) (s : ByteArray) (k : Nat) (h : k < s.size) : chk n (s.data.toList.take (k + 1)) = (701 * chk n (s.data.toList.take k) + s[k].toNat + 47) % 65003 := by
  rw [take_snoc s k h]; unfold chk; rw [List.foldl_append]; rfl
theorem chk_all (n : Int) (s : ByteArray) (k : Nat) (h : ¬ k < s.size) : chk n (s.data.toList.take k) = chk n s.data.toList := by
  rw [List.take_of_length_le (by simp; omega)]

set_option maxHeartbeats 400000 in
theorem l01Check (n : Int) (s : ByteArray) (w : World) (hs : s.size ≤ maxLen) (hn : 0 ≤ n ∧ n ≤ 65002) :
    Calls Try.prog 10 #[.int .i64 n, .string s] w fun e w' => e = .returned (.int .i64 (chk n s.data.toList)) ∧ w' = w := by
  unfold maxLen at hs
  have u := Try.underlying2
  have u' := Try.underlying5
  go_enter Try.func10, Try.ntmps10
  go_wp2
  go_loop [0, 5] (fun a i => ∃ k : Nat, k ≤ s.size ∧ i = .int .i64 k ∧ a = .int .i64 (chk n (s.data.toList.take k))) (fun _ i => s.size - (intOf i).toNat)
  case atStart => exact ⟨0, Nat.zero_le _, rfl, rfl⟩
  case round =>
    obtain ⟨k, hk, rfl, rfl⟩ := hrel
    obtain ⟨b1, b2⟩ := chk_bd n (s.data.toList.take k) hn
    by_cases hlt : k < s.size
    · have HS := Lib.hid (chk_snoc n s k hlt)
      have hb := s[k].toNat_lt
      generalize chk n (s.data.toList.take k) = c at *
      have hw1 : IntKind.i64.wrap (701 * c) = 701 * c := IntWalk.i64_in _ (by omega)
      go_wp2
      all_goals
        go_round
        case rel => exact ⟨k + 1, by omega, by go_num, by rw [HS.out]⟩
        case measure => simp [intOf]; omega
    · have HA := Lib.hid (chk_all n s k hlt)
      go_wp2
      go_ret
      exact ⟨ret_i64' HA.out, rfl⟩

theorem l00In' (n a b : Int) (w : World) :
    Calls Try.prog 9 #[.int .i64 n, .int .i64 a, .int .i64 b] w fun e w' => e = .returned (.bool (decide (a ≤ n ∧ n ≤ b))) ∧ w' = w := by
  by_cases h1 : a ≤ n
  · by_cases h2 : n ≤ b
    · rw [decide_eq_true (And.intro h1 h2)]
      go_enter Try.func9, Try.ntmps9
      go_wp2
      go_ret
      exact ⟨rfl, rfl⟩
    · rw [decide_eq_false (fun h => h2 h.2)]
      go_enter Try.func9, Try.ntmps9
      go_wp2
      go_ret
      exact ⟨rfl, rfl⟩
  · rw [decide_eq_false (fun h => h1 h.1)]
    go_enter Try.func9, Try.ntmps9
    go_wp2
    go_ret
    exact ⟨rfl, rfl⟩
/-- What CheckOf returns. -/
def chkRet (n : Int) (s : ByteArray) : Value := if 0 ≤ n ∧ n ≤ 65002 then .tuple #[.int .i64 (chk n s.data.toList), .bool true] else .tuple #[.int .i64 0, .bool false]
theorem spec_CheckOf (n : Int) (s : ByteArray) (w : World) (hs : s.size ≤ maxLen) :
    Calls Try.prog 7 #[.int .i64 n, .string s] w fun e w' => e = .returned (chkRet n s) ∧ w' = w := by
  unfold chkRet
  by_cases h : 0 ≤ n ∧ n ≤ 65002
  · rw [if_pos h]
    have hd : decide (0 ≤ n ∧ n ≤ 65002) = true := decide_eq_true h
    have h1 : decide (0 ≤ n) = true := decide_eq_true h.1
    have h2 : decide (n ≤ 65002) = true := decide_eq_true h.2
    go_enter Try.func7, Try.ntmps7
    go_wp2_with (first
      | (go_at_call 9; refine (l00In' _ _ _ _).mono ?_; rintro e w' ⟨rfl, rfl⟩)
      | (go_at_call 10; refine (l01Check _ _ _ hs h).mono ?_; rintro e w' ⟨rfl, rfl⟩))
    go_ret2
    exact ⟨rfl, rfl⟩
  · rw [if_neg h]
    have hd : decide (0 ≤ n ∧ n ≤ 65002) = false := decide_eq_false h
    clear h
    go_enter Try.func7, Try.ntmps7
    go_wp2_with (first
      | (go_at_call 9; refine (l00In' _ _ _ _).mono ?_; rintro e w' ⟨rfl, rfl⟩))
    go_ret2
    exact ⟨rfl, rfl⟩
set_option maxHeartbeats 400000 in
theorem impl_CheckOf (n : Int) (s : ByteArray) (w : World) (hs : s.size ≤ maxLen) :
    Calls Try.prog 8 #[.int .i64 n, .string s] w fun e w' => e = .returned (chkRet n s) ∧ w' = w := by
  unfold chkRet
  unfold maxLen at hs
  have u := Try.underlying2
  have u' := Try.underlying5
  by_cases h1 : n < 0
  · rw [if_neg (by omega)]
    go_enter Try.func8, Try.ntmps8
    go_wp2
    go_ret2
    exact ⟨rfl, rfl⟩
  · by_cases h2 : 65003 ≤ n
    · rw [if_neg (by omega)]
      go_enter Try.func8, Try.ntmps8
      go_wp2
      go_ret2
      exact ⟨rfl, rfl⟩
    · have hn : 0 ≤ n ∧ n ≤ 65002 := by omega
      rw [if_pos hn]
      go_enter Try.func8, Try.ntmps8
      go_wp2
      go_loop [6, 17] (fun a i => ∃ k : Nat, k ≤ s.size ∧ i = .int .i64 k ∧ a = .int .i64 (chk n (s.data.toList.take k))) (fun _ i => s.size - (intOf i).toNat)
      case atStart => exact ⟨0, Nat.zero_le _, rfl, rfl⟩
      case round =>
        obtain ⟨k, hk, rfl, rfl⟩ := hrel
        obtain ⟨b1, b2⟩ := chk_bd n (s.data.toList.take k) hn
        by_cases hlt : k < s.size
        · have HS := Lib.hid (chk_snoc n s k hlt)
          have hb := s[k].toNat_lt
          generalize chk n (s.data.toList.take k) = c at *
          have hw1 : IntKind.i64.wrap (701 * c) = 701 * c := IntWalk.i64_in _ (by omega)
          go_wp2
          all_goals
            go_round
            case rel => exact ⟨k + 1, by omega, by go_num, by rw [HS.out]⟩
            case measure => simp [intOf]; omega
        · have HA := Lib.hid (chk_all n s k hlt)
          go_wp2
          go_ret2
          exact ⟨by rw [← HA.out]; rfl, rfl⟩
theorem FnExactCheckOf_law (n : Int) (s : ByteArray) (w : World) (hn : (Lit.int .i64 n).wf = true) (hs : s.size ≤ maxLen) :
    Calls Try.prog 4 #[.int .i64 n, .string s] w fun e w' => e = .returned (.bool true) ∧ Below w.heap.size w w' := by
  by_cases hb : 1048576 < s.size
  · have hb' : (1048576 : Int) < s.size := by omega
    go_enter Try.func4, Try.ntmps4
    go_wp2
    go_ret
    exact ⟨rfl, Below.refl _ _⟩
  · have hb' : ¬ (1048576 : Int) < s.size := by omega
    have H1 := fun w => spec_CheckOf n s w hs
    have H2 := fun w => impl_CheckOf n s w hs
    unfold chkRet at H1 H2
    by_cases h : 0 ≤ n ∧ n ≤ 65002
    · simp only [if_pos h] at H1 H2
      clear h hb
      go_enter Try.func4, Try.ntmps4
      go_wp2_with (first
        | (go_at_call 7; refine (H1 _).mono ?_; rintro e w' ⟨rfl, rfl⟩)
        | (go_at_call 8; refine (H2 _).mono ?_; rintro e w' ⟨rfl, rfl⟩))
      go_ret
      exact ⟨rfl, Below.refl _ _⟩
    · simp only [if_neg h] at H1 H2
      clear h hb
      go_enter Try.func4, Try.ntmps4
      go_wp2_with (first
        | (go_at_call 7; refine (H1 _).mono ?_; rintro e w' ⟨rfl, rfl⟩)
        | (go_at_call 8; refine (H2 _).mono ?_; rintro e w' ⟨rfl, rfl⟩))
      go_ret
      exact ⟨rfl, Below.refl _ _⟩
end Go.Proofs.Ytkomipghfihocad

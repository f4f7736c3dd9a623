
/-
Names: what the program and its model return, and that the law returns true. Conditions: none.
-/
import Derived.Test.YtkomipghfihocadChecked
import Derived.WalkKit
import Derived.LoopTactic
import Derived.IntWalk
import Derived.Below
import Derived.Laws.RangeAny
import Derived.Lib.Hide
namespace Go.Proofs.Ytkomipghfihocad
open Go Go.RowKit
set_option linter.unusedVariables false

theorem ret_bool' {a b : Bool} (h : a = b) : Ending.returned (.bool a) = .returned (.bool b) := by rw [h]
def letter (c : UInt8) : Bool := decide (97 ≤ c.toNat ∧ c.toNat ≤ 122)
def nm (s : ByteArray) : Bool := decide (1 ≤ s.size ∧ s.size ≤ 8) && s.data.toList.all letter
theorem all_snoc (s : ByteArray) (k : Nat) (h : k < s.size) (ha : (s.data.toList.take k).all letter = true) (hl : letter s[k] = true) : (s.data.toList.take (k + 1)).all letter = true := by
  rw [List.take_succ_eq_append_getElem (by simpa using h), List.all_append, ha]
  show (true && (letter s[k] && true)) = true
  rw [hl]; rfl
theorem all_not (s : ByteArray) (k : Nat) (h : k < s.size) (hl : letter s[k] = false) : s.data.toList.all letter = false := by
  rw [List.all_eq_false]
  refine ⟨s[k], ?_, by simp [hl]⟩
  have : s.data.toList[k]'(by simpa using h) = s[k] := rfl
  rw [← this]; exact List.getElem_mem _
theorem all_end (s : ByteArray) (k : Nat) (h : ¬ k < s.size) (ha : (s.data.toList.take k).all letter = true) : s.data.toList.all letter = true := by
  rwa [List.take_of_length_le (by simp; omega)] at ha

set_option maxHeartbeats 400000 in
theorem spec_IsName (s : ByteArray) (w : World) (hs : s.size ≤ maxLen) :
    Calls Try.prog 5 #[.string s] w fun e w' => e = .returned (.bool (nm s)) ∧ w' = w := by
  unfold maxLen at hs
  have u' := Try.underlying5
  go_enter Try.func5, Try.ntmps5
  go_wp2
  go_loop [3] (fun i => ∃ k : Nat, k ≤ s.size ∧ i = .int .i64 k ∧ (s.data.toList.take k).all letter = true) (fun i => s.size - (intOf i).toNat)
  case atStart => exact ⟨0, Nat.zero_le _, rfl, rfl⟩
  case round =>
    obtain ⟨k, hk, rfl, ha⟩ := hrel
    by_cases hlt : k < s.size
    · have hb := s[k].toNat_lt
      cases hl : letter s[k]
      · have hn : nm s = false := by unfold nm; rw [all_not s k hlt hl]; simp
        have H := Lib.hid hn
        have hl' : ¬ (97 ≤ s[k].toNat ∧ s[k].toNat ≤ 122) := by unfold letter at hl; simpa using hl
        clear hn ha hl
        by_cases h1 : (s[k].toNat : Int) < 97
        · go_wp2
          go_ret
          exact ⟨ret_bool' H.out.symm, rfl⟩
        · have h2 : (122 : Int) < s[k].toNat := by omega
          go_wp2
          go_ret
          exact ⟨ret_bool' H.out.symm, rfl⟩
      · have hA := Lib.hid (all_snoc s k hlt ha hl)
        have hl' : 97 ≤ s[k].toNat ∧ s[k].toNat ≤ 122 := by unfold letter at hl; simpa using hl
        have h1 : ¬ (s[k].toNat : Int) < 97 := by omega
        have h2 : ¬ (122 : Int) < s[k].toNat := by omega
        clear ha hl hl'
        go_wp2
        all_goals
          go_round
          case rel => exact ⟨k + 1, by omega, by go_num, hA.out⟩
          case measure => simp [intOf]; omega
    · have hall := all_end s k hlt ha
      have hn : nm s = decide (1 ≤ s.size ∧ s.size ≤ 8) := by unfold nm; rw [hall]; simp
      have H := Lib.hid hn
      clear hn hall ha
      by_cases h1 : (1 : Int) ≤ s.size
      · go_wp2
        go_ret
        exact ⟨ret_bool' (by rw [H.out]; exact decide_eq_decide.2 (by omega)), rfl⟩
      · go_wp2
        go_ret
        exact ⟨ret_bool' (by rw [H.out, decide_eq_false (by omega)]), rfl⟩

set_option maxHeartbeats 400000 in
theorem impl_IsName (s : ByteArray) (w : World) (hs : s.size ≤ maxLen) :
    Calls Try.prog 6 #[.string s] w fun e w' => e = .returned (.bool (nm s)) ∧ Below w.heap.size w w' := by
  unfold maxLen at hs
  have us := Try.underlying9
  by_cases h1 : (s.size : Int) < 1
  · have hn : nm s = false := by unfold nm; rw [decide_eq_false (by omega)]; rfl
    have H := Lib.hid hn
    clear hn
    go_enter Try.func6, Try.ntmps6
    go_wp2
    go_ret
    exact ⟨ret_bool' H.out.symm, Below.refl _ _⟩
  · by_cases h2 : (8 : Int) < s.size
    · have hn : nm s = false := by unfold nm; rw [decide_eq_false (by omega)]; rfl
      have H := Lib.hid hn
      clear hn
      go_enter Try.func6, Try.ntmps6
      go_wp2
      go_ret
      exact ⟨ret_bool' H.out.symm, Below.refl _ _⟩
    · have hbel : ∀ pos, Below w.heap.size w (w.iter s pos) := fun pos => (Below.refl _ _).alloc (Nat.le_refl _) _
      go_enter Try.func6, Try.ntmps6
      go_wp2
      go_loopw [4] (fun i w' => ∃ pos : Nat, pos ≤ s.size ∧ w' = w.iter s pos ∧ (s.data.toList.take pos).all letter = true) (fun _ w' => s.size - w'.iterPos w.heap.size)
      case atStart => exact ⟨0, Nat.zero_le _, rfl, rfl⟩
      case round =>
        obtain ⟨pos, hk, rfl, ha⟩ := hrel
        by_cases hp : pos < s.size
        · have hb := s[pos].toNat_lt
          cases hl : letter s[pos]
          · have hn : nm s = false := by unfold nm; rw [all_not s pos hp hl]; simp
            have H := Lib.hid hn
            have hl' : ¬ (97 ≤ s[pos].toNat ∧ s[pos].toNat ≤ 122) := by unfold letter at hl; simpa using hl
            have hnx : ∀ ty, (Instr.next (.pointer (some ⟨w.heap.size, 0, none⟩)) true ty).run Try.prog (w.iter s pos) = _ := fun ty => run_next_any w s pos ty hp
            have hd : ((Utf8.decode s pos).1 : Int) < 97 ∨ (122 : Int) < (Utf8.decode s pos).1 := by
              by_cases h128 : s[pos].toNat < 128
              · rw [decode_ascii s pos hp h128]; simp only []; omega
              · have := (decode_high s pos hp (by omega)).1; omega
            clear hn ha hl hl'
            rcases hd with hd | hd
            · go_wp2
              go_ret
              exact ⟨ret_bool' H.out.symm, hbel _⟩
            · have hd' : ¬ ((Utf8.decode s pos).1 : Int) < 97 := by omega
              go_wp2
              go_ret
              exact ⟨ret_bool' H.out.symm, hbel _⟩
          · have hA := Lib.hid (all_snoc s pos hp ha hl)
            have hl' : 97 ≤ s[pos].toNat ∧ s[pos].toNat ≤ 122 := by unfold letter at hl; simpa using hl
            have e1 : ¬ (s[pos].toNat : Int) < 97 := by omega
            have e2 : ¬ (122 : Int) < s[pos].toNat := by omega
            have hnx : ∀ ty, (Instr.next (.pointer (some ⟨w.heap.size, 0, none⟩)) true ty).run Try.prog (w.iter s pos) = _ := fun ty => run_next_ascii w s pos ty hp (by omega)
            clear ha hl hl'
            go_wp2
            all_goals
              go_roundw
              case rel => exact ⟨pos + 1, by omega, rfl, hA.out⟩
              case measure => simp; omega
        · have hnx : ∀ ty, (Instr.next (.pointer (some ⟨w.heap.size, 0, none⟩)) true ty).run Try.prog (w.iter s pos) = _ := fun ty => run_next_end w s pos ty hp
          have hn : nm s = true := by unfold nm; rw [all_end s pos hp ha, decide_eq_true (by omega)]; rfl
          have H := Lib.hid hn
          clear hn ha
          go_wp2
          go_ret
          exact ⟨ret_bool' H.out.symm, hbel _⟩

theorem FnExactIsName_law (s : ByteArray) (w : World) (hs : s.size ≤ maxLen) :
    Calls Try.prog 3 #[.string s] w fun e w' => e = .returned (.bool true) ∧ Below w.heap.size w w' := by
  by_cases hb : 1048576 < s.size
  · have hb' : (1048576 : Int) < s.size := by omega
    go_enter Try.func3, Try.ntmps3
    go_wp2
    go_ret
    exact ⟨rfl, Below.refl _ _⟩
  · have hb' : ¬ (1048576 : Int) < s.size := by omega
    clear hb
    go_enter Try.func3, Try.ntmps3
    go_wp2_with (first
      | (go_at_call 5; refine (spec_IsName _ _ hs).mono ?_; rintro e w' ⟨rfl, rfl⟩)
      | (go_at_call 6; refine (impl_IsName _ _ hs).mono ?_; rintro e w' ⟨rfl, hbel⟩))
    go_ret
    exact ⟨rfl, hbel⟩
end Go.Proofs.Ytkomipghfihocad

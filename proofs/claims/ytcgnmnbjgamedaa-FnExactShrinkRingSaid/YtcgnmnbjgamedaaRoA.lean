
/-
Rows of three numbers: what the program divides a list into. Conditions: a list of whole rows at the head of a block.
-/
import Derived.Test.YtcgnmnbjgamedaaMkE
import Derived.WalkKit
namespace Go.Proofs.Ytcgnmnbjgamedaa
open Go Fk Go.RowKit
set_option linter.unusedVariables false
set_option maxRecDepth 8000

def rowVs (fb : Nat) (k : Nat) : List Value := (List.range k).map fun j => Value.slice (some ⟨fb, j * 3, none⟩) 3 3
theorem rowVs_snoc (fb k : Nat) : rowVs fb (k + 1) = rowVs fb k ++ [Value.slice (some ⟨fb, k * 3, none⟩) 3 3] := by
  unfold rowVs; rw [List.range_succ, List.map_append]; rfl
set_option maxHeartbeats 1000000 in
theorem rows_of (fb n fc : Nat) (w : World) (hn : n ≤ 1000000) (hc : n * 3 ≤ fc) :
    Calls Try.prog 139 #[.slice (some ⟨fb, 0, none⟩) (n * 3) fc, .int .i64 3] w fun e w' => ∃ v, e = .returned v ∧ w'.ownsRow w.heap.size 90 1 v n (rowVs fb n) ∧ Below w.heap.size w w' := by
  obtain ⟨i0, hi, hz0, hz1, hz2⟩ := info_parts infoS
  have hq' : ((n : Int) * 3).tdiv 3 = n := Int.mul_tdiv_cancel _ (by decide)
  have hq : ((n * 3 : Nat) : Int).tdiv 3 = n := by rw [Int.natCast_mul]; exact hq'
  have hmk : (Instr.makeSlice 43 (.int .i64 0) (.int .i64 n)).run Try.prog w = .ok (.slice (some ⟨w.heap.size, 0, none⟩) 0 n) (w.alloc (.cells (madeCells #[.slice none 0 0] n) 90)) := by
    have := run_make (P := Try.prog) w 43 90 i0 (.slice none 0 0) Try.underlying43 hi hz0 .i64 .i64 0 n (by omega) (by omega) (by rw [hz2]; omega) (by omega)
    rw [this, hz1]; simp; rfl
  have hst : (w.alloc (.cells (madeCells #[.slice none 0 0] n) 90)).ownsRow w.heap.size 90 1 (.slice (some ⟨w.heap.size, 0, none⟩) 0 n) 0 [] :=
    World.ownsRow_made (e := 90) (size := 1) w _ n (Nat.le_refl _) (by unfold maxLen; omega) (by unfold madeCells; simp)
  have HST := Lib.hid hst
  have HB0 := Lib.hid ((Below.refl w.heap.size w).alloc (Nat.le_refl _) (.cells (madeCells #[.slice none 0 0] n) 90))
  clear hst
  go_enter Try.func139, Try.ntmps139
  go_wp2
  generalize hCH : w.alloc (.cells (madeCells #[.slice none 0 0] n) 90) = W at *
  go_loopw [5, 6] (fun v i w' => ∃ k : Nat, k ≤ n ∧ i = .int .i64 ((k * 3 : Nat) : Int) ∧ Aside (w'.ownsRow w.heap.size 90 1 v k (rowVs fb k) ∧ Below w.heap.size w w')) (fun _ i _ => n * 3 - (intOf i).toNat)
  case atStart => exact ⟨0, Nat.zero_le _, rfl, HST.out, HB0.out⟩
  case round =>
    obtain ⟨k, hk, hik, hA⟩ := hrel
    subst hik
    obtain ⟨hown, hB⟩ := hA.out
    have HB := Lib.hid hB
    have HOWN := Lib.hid hown
    have hbz := Lib.hid hB.size
    clear hmk HST hq hq'
    by_cases hlt : k < n
    · have hk0 : (0 : Int) ≤ (k : Int) := by omega
      have hk1 : (k : Int) * 3 < (n : Int) * 3 := by omega
      clear hA hB hown
      go_wp2_with (at_builtin; refine wpList_append_own _ rfl _ _ 43 rfl w.heap.size 90 i0 (.slice none 0 0) 1 24 Try.underlying43 hi hz0 hz1 hz2 rfl (by decide) _ _ _ rfl (HOWN.out.alloc _) ⟨wr.heap.size, 0, none⟩ 1 1 [.slice (some ⟨fb, k * 3, none⟩) 3 3] rfl rfl ?c1 ?c2 ?c3 ?c4 ?c5 ?_)
      case c1 =>
        intro j u hj
        match j, hj with
        | 0, hj => simp at hj; subst hj; simp [Addr.add]
      case c2 => intro u hu; simp at hu; subst hu; rfl
      case c3 => unfold maxLen; omega
      case c4 => omega
      case c5 => have := hbz.out; simp; omega
      · intro v' w1 hown' hgrow _
        have hB1 : Below w.heap.size w (wr.alloc (.cells #[.slice (some ⟨fb, k * 3, none⟩) 3 3] 90)) := HB.out.alloc hbz.out _
        have HB1 := Lib.hid (hB1.grown hgrow hB1.size (fun k hk => (HOWN.out.lt k hk).1))
        have HO1 := Lib.hid hown'
        clear hown' hgrow hB1
        go_wp2
        go_roundw
        case rel => exact ⟨k + 1, by omega, by go_num, by rw [rowVs_snoc]; exact HO1.out, HB1.out⟩
        case measure => simp [intOf]; omega
    · obtain rfl : k = n := by omega
      clear hA hB hown
      go_wp2
      go_ret
      exact ⟨_, rfl, HOWN.out, HB.out⟩
end Go.Proofs.Ytcgnmnbjgamedaa

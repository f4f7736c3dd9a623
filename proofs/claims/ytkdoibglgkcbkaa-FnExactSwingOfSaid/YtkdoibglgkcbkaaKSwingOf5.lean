/-
Texts in one: what SwingOf stands on, part 5. Conditions: those of each.
-/
import Derived.Test.YtkdoibglgkcbkaaKSwingOf4
import Derived.Test.YtkdoibglgkcbkaaChecked
import Derived.LoopTactic
import Derived.IntWalk
import Derived.Laws.MakeOwn
import Derived.Lib.Hide

/-
How great a mesh is, and copies of lists of integers: what the law's own functions return. Conditions: at most 2^20 of each.
-/
namespace Go.Proofs.Ytkdoibglgkcbkaa
open Go Fk Go.RowKit
set_option linter.unusedVariables false

theorem laws_szInt64S (a : Option Addr) (len cap : Nat) (left : Int) (w : World) (h0 : 0 ≤ left) (h1 : left ≤ 1048576) (h2 : len ≤ 9223372036854775807) :
    Calls Try.prog 145 #[.slice a len cap, .int .i64 left] w fun e w' => (∃ r : Int, e = .returned (.int .i64 r) ∧ (r = -1 ∨ (0 ≤ r ∧ r ≤ 1048576 ∧ len ≤ 1048576))) ∧ w' = w := by
  by_cases h : left < len
  · go_enter Try.func145, Try.ntmps145
    go_wp2
    go_ret
    exact ⟨⟨-1, rfl, .inl rfl⟩, rfl⟩
  · go_enter Try.func145, Try.ntmps145
    go_wp2
    go_ret
    exact ⟨⟨_, rfl, .inr ⟨by omega, by omega, by omega⟩⟩, rfl⟩
theorem laws_szVectorS (a : Option Addr) (len cap : Nat) (left : Int) (w : World) (h0 : 0 ≤ left) (h1 : left ≤ 1048576) (h2 : len ≤ 9223372036854775807) :
    Calls Try.prog 16 #[.slice a len cap, .int .i64 left] w fun e w' => (∃ r : Int, e = .returned (.int .i64 r) ∧ (r = -1 ∨ (0 ≤ r ∧ r ≤ 1048576 ∧ len ≤ 1048576))) ∧ w' = w := by
  by_cases h : left < len
  · go_enter Try.func16, Try.ntmps16
    go_wp2
    go_ret
    exact ⟨⟨-1, rfl, .inl rfl⟩, rfl⟩
  · go_enter Try.func16, Try.ntmps16
    go_wp2
    go_ret
    exact ⟨⟨_, rfl, .inr ⟨by omega, by omega, by omega⟩⟩, rfl⟩
end Go.Proofs.Ytkdoibglgkcbkaa


/-
How great a mesh is, and copies of lists: what the law's own functions return. Conditions: at most 2^20 of each.
-/
namespace Go.Proofs.Ytkdoibglgkcbkaa
open Go Fk Go.RowKit
set_option linter.unusedVariables false
set_option maxRecDepth 8000

theorem laws_szInt64SS (a : Option Addr) (len cap : Nat) (ts : List (List Int)) (left : Int) (w : World) (ha : IsTs w a len cap ts) (h0 : 0 ≤ left) (h1 : left ≤ 1048576) :
    Calls Try.prog 77 #[.slice a len cap, .int .i64 left] w fun e w' => (∃ r : Int, e = .returned (.int .i64 r) ∧ (r = -1 ∨ (0 ≤ r ∧ r ≤ 1048576 ∧ len ≤ 1048576 ∧ ∀ k, k < len → (ts.getD k []).length ≤ 1048576))) ∧ w' = w := by
  have hm : len ≤ 9223372036854775807 := by have h1 := ha.2.1; have h2 := ha.2.2.1; unfold maxLen at h2; omega
  by_cases h : left < len
  · go_enter Try.func77, Try.ntmps77
    go_wp2
    go_ret
    exact ⟨⟨-1, rfl, .inl rfl⟩, rfl⟩
  · have hA : len ≤ 1048576 := by omega
    go_enter Try.func77, Try.ntmps77
    go_wp2
    go_loopw [1, 5] (fun l i w' => ∃ k : Nat, k ≤ len ∧ i = .int .i64 k ∧ (∃ r : Int, l = .int .i64 r ∧ 0 ≤ r ∧ r ≤ 1048576) ∧ (∀ j, j < k → (ts.getD j []).length ≤ 1048576) ∧ w' = w) (fun _ i _ => len - (intOf i).toNat)
    case atStart => exact ⟨0, Nat.zero_le _, rfl, ⟨_, rfl, by omega, by omega⟩, fun j hj => absurd hj (by omega), rfl⟩
    case round =>
      obtain ⟨k, hk, rfl, ⟨r, rfl, hr0, hr1⟩, hrows, rfl⟩ := hrel
      by_cases hlt : k < len
      · obtain ⟨b, o, rfl, hcell⟩ := ha.some (by omega)
        obtain ⟨ra, n, c, hc, hi⟩ := hcell k hlt
        have hnl : (ts.getD k []).length = n := hi.1
        have hn : n ≤ 9223372036854775807 := by have h1 := hi.2.1; have h2 := hi.2.2.1; unfold maxLen at h2; omega
        have hk0 : (0 : Int) ≤ (k : Int) := by omega
        have hk1 : (k : Int) < (len : Int) := by omega
        have HR := Lib.hid hrows
        have HN := Lib.hid hnl
        clear hcell ha hi hrows hnl
        go_wp2_with (go_at_call 145; refine (laws_szInt64S _ _ _ _ _ hr0 hr1 hn).mono ?_; rintro e w1 ⟨⟨r', rfl, hr'⟩, hw1⟩; rw [hw1]; clear hw1 w1; rcases hr' with rfl | ⟨hr2, hr3, hn3⟩)
        · go_ret
          exact ⟨⟨-1, rfl, .inl rfl⟩, rfl⟩
        · go_wp2
          go_roundw
          case rel =>
            refine ⟨k + 1, by omega, by go_num, ⟨_, rfl, hr2, hr3⟩, fun j hj => ?_, (by first | trivial | rfl)⟩
            by_cases hjk : j = k
            · subst hjk; rw [HN.out]; exact hn3
            · exact HR.out j (by omega)
          case measure => simp [intOf]; omega
      · have hR := Lib.hid hrows
        clear hrows ha
        go_wp2
        go_ret
        exact ⟨⟨_, rfl, .inr ⟨hr0, hr1, hA, fun j hj => hR.out j (by omega)⟩⟩, rfl⟩

theorem laws_szMesh (pa ta : Option Addr) (pl pc tl tc : Nat) (cs : List C3) (ts : List (List Int)) (left : Int) (w : World) (hp : IsVs w pa pl pc cs) (ht : IsTs w ta tl tc ts) (h0 : 0 ≤ left) (h1 : left ≤ 1048576) :
    Calls Try.prog 30 #[.agg #[.slice pa pl pc, .slice ta tl tc], .int .i64 left] w fun e w' => (∃ r : Int, e = .returned (.int .i64 r) ∧ (r = -1 ∨ (0 ≤ r ∧ pl ≤ 1048576 ∧ tl ≤ 1048576 ∧ ∀ k, k < tl → (ts.getD k []).length ≤ 1048576))) ∧ Below w.heap.size w w' := by
  have hpm : pl ≤ 9223372036854775807 := by have h1 := hp.2.1; have h2 := hp.2.2.1; unfold maxLen at h2; omega
  have u := Try.underlying48
  go_enter Try.func30, Try.ntmps30
  go_wp2_with (go_at_call 16; refine (laws_szVectorS _ _ _ _ _ h0 h1 hpm).mono ?_; rintro e w1 ⟨⟨r, rfl, hr⟩, hw1⟩; rw [hw1]; clear hw1 w1; rcases hr with rfl | ⟨hr2, hr3, hn3⟩)
  · go_ret
    exact ⟨⟨-1, rfl, .inl rfl⟩, (Below.refl _ _).alloc (Nat.le_refl _) _⟩
  · have hb : Below w.heap.size w (w.alloc (.cells #[.slice pa pl pc, .slice ta tl tc] 48)) := (Below.refl _ _).alloc (Nat.le_refl _) _
    have ht' := ht.below hb
    go_wp2_with (go_at_call 77; refine (laws_szInt64SS _ _ _ _ _ _ ht' hr2 hr3).mono ?_; rintro e w1 ⟨⟨r', rfl, hr'⟩, hw1⟩; rw [hw1]; clear hw1 w1; rcases hr' with rfl | ⟨hr4, hr5, hn5, hn6⟩)
    · go_ret
      exact ⟨⟨-1, rfl, .inl rfl⟩, hb⟩
    · have HN := Lib.hid hn6
      clear hn6
      go_wp2
      go_ret
      exact ⟨⟨_, rfl, .inr ⟨hr4, hn3, hn5, HN.out⟩⟩, hb⟩

/-! Copies -/
def curL (vs : List Value) (d : Value) (n k : Nat) : Array Value := (vs.take k ++ List.replicate (n - k) d).toArray
theorem curL_zero (vs : List Value) (d : Value) (n : Nat) : curL vs d n 0 = madeCells #[d] n := by
  unfold curL madeCells
  apply Array.ext'
  apply List.ext_getElem?
  intro i
  by_cases hi : i < n
  · simp [hi, Nat.mod_one]
  · simp [hi]
theorem curL_set (vs : List Value) (d : Value) (n k : Nat) (hk : k < n) (hz : vs.length = n) : (curL vs d n k).setIfInBounds k (vs.getD k d) = curL vs d n (k + 1) := by
  unfold curL
  apply Array.ext'
  rw [Array.toList_setIfInBounds]
  apply List.ext_getElem?
  intro i
  have hk' : k < vs.length := by omega
  have hl : (vs.take k).length = k := by simp; omega
  have hl' : (vs.take (k + 1)).length = k + 1 := by simp; omega
  rw [List.getElem?_set]
  by_cases hi : k = i
  · subst hi
    rw [if_pos rfl, if_pos (by simp; omega), List.getElem?_append_left (by omega)]
    simp [hk']
  · rw [if_neg hi]
    by_cases h1 : i < k
    · rw [List.getElem?_append_left (by omega), List.getElem?_append_left (by omega)]
      simp [h1, show i < k + 1 by omega]
    · rw [List.getElem?_append_right (by omega), List.getElem?_append_right (by omega), hl, hl', List.getElem?_replicate, List.getElem?_replicate]
      by_cases h2 : i < n
      · rw [if_pos (by omega), if_pos (by omega)]
      · rw [if_neg (by omega), if_neg (by omega)]
theorem curL_size (vs : List Value) (d : Value) (n k : Nat) (hk : k ≤ n) (hz : vs.length = n) : (curL vs d n k).size = n := by unfold curL; simp; omega
theorem curL_end (vs : List Value) (d : Value) (n : Nat) (hz : vs.length = n) (i : Nat) (hi : i < n) : (curL vs d n n)[i]? = some (vs.getD i d) := by
  have hi' : i < vs.length := by omega
  have ht : vs.take n = vs := List.take_of_length_le (by omega)
  unfold curL
  rw [ht]
  simp [hi']
theorem info64 : (Try.prog.info? 2).map (fun i => (i.zero, i.size, i.bytes)) = some (some (.int .i64 0), 1, 8) := by kernel_rfl
def ints (zs : List Int) : List Value := zs.map fun z => .int .i64 z
theorem ints_getD (zs : List Int) (k : Nat) : (ints zs).getD k (.int .i64 0) = .int .i64 (zs.getD k 0) := by
  unfold ints
  by_cases h : k < zs.length
  · simp [List.getD, h]
  · simp [List.getD, h]
set_option maxHeartbeats 400000 in
theorem laws_toInt64S (a : Option Addr) (len cap : Nat) (zs : List Int) (w : World) (h : IsIs w a len cap zs) (hlen : len ≤ 1048576) :
    Calls Try.prog 153 #[.slice a len cap] w fun e w' => e = .returned (.slice (some ⟨w.heap.size, 0, none⟩) len len) ∧ IsIs w' (some ⟨w.heap.size, 0, none⟩) len len zs ∧ Below w.heap.size w w' ∧ w.heap.size < w'.heap.size := by
  obtain ⟨i0, hi, hz0, hz1, hz2⟩ := info_parts info64
  have hzl := h.1
  have hil : (ints zs).length = len := by unfold ints; simp; exact hzl
  have hzb := h.2.2.2.1
  have hmk : (Instr.makeSlice 74 (.int .i64 len) (.int .i64 len)).run Try.prog w = .ok (.slice (some ⟨w.heap.size, 0, none⟩) len len) (w.alloc (.cells (curL (ints zs) (.int .i64 0) len 0) 2)) := by
    have := run_make (P := Try.prog) w 74 2 i0 (.int .i64 0) Try.underlying74 hi hz0 .i64 .i64 len len (by omega) (Int.le_refl _) (by rw [hz2]; omega) (by omega)
    rw [this, hz1, curL_zero]; simp; rfl
  have hfin : IsIs (w.alloc (.cells (curL (ints zs) (.int .i64 0) len len) 2)) (some ⟨w.heap.size, 0, none⟩) len len zs := by
    refine ⟨hzl, Nat.le_refl _, by unfold maxLen; omega, hzb, by simp, fun x hx i hi => ?_⟩
    cases hx
    have := curL_end (ints zs) (.int .i64 0) len hil i hi
    rw [ints_getD] at this
    rw [addr_add', Nat.zero_add]; simp [this]
  have HF := Lib.hid hfin
  clear hfin hzb
  go_enter Try.func153, Try.ntmps153
  go_wp2
  go_loopw [4] (fun i w' => ∃ k : Nat, k ≤ len ∧ i = .int .i64 k ∧ w' = w.alloc (.cells (curL (ints zs) (.int .i64 0) len k) 2)) (fun i _ => len - (intOf i).toNat)
  case atStart => exact ⟨0, Nat.zero_le _, rfl, rfl⟩
  case round =>
    obtain ⟨k, hk, rfl, rfl⟩ := hrel
    by_cases hlt : k < len
    · obtain ⟨b, o, rfl, hcell⟩ := h.some (by omega)
      have hc0 := hcell k hlt
      have hblt := World.block_lt_of_cell? w _ hc0
      have hc : (w.alloc (.cells (curL (ints zs) (.int .i64 0) len k) 2)).cell? ⟨b, o + k, none⟩ = some (.int .i64 (zs.getD k 0)) := by rw [World.cell?_alloc_lt (h := hblt)]; exact hc0
      have hsz := curL_size (ints zs) (.int .i64 0) len k hk hil
      have hd : (w.alloc (.cells (curL (ints zs) (.int .i64 0) len k) 2)).cell? ⟨w.heap.size, k, none⟩ = some ((curL (ints zs) (.int .i64 0) len k)[k]'(by omega)) := by simp [hsz, hlt]
      have hset2 : (curL (ints zs) (.int .i64 0) len k).setIfInBounds k (.int .i64 (zs.getD k 0)) = curL (ints zs) (.int .i64 0) len (k + 1) := by
        have := curL_set (ints zs) (.int .i64 0) len k hlt hil
        rwa [ints_getD] at this
      generalize zs.getD k 0 = z at *
      have HS := Lib.hid hset2
      clear hset2 hcell hc0 hblt
      go_wp2
      go_roundw
      case rel => exact ⟨k + 1, by omega, by go_num, by rw [HS.out]⟩
      case measure => simp [intOf]; omega
    · obtain rfl : k = len := by omega
      go_wp2
      go_ret
      exact ⟨rfl, HF.out, (Below.refl _ _).alloc (Nat.le_refl _) _, by simp⟩
end Go.Proofs.Ytkdoibglgkcbkaa

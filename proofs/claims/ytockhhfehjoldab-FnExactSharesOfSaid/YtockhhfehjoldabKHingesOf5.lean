/-
Texts in one: what HingesOf stands on, part 5. Conditions: those of each.
-/
import Derived.Test.YtockhhfehjoldabKHingesOf4
import Derived.Lib.SmallJoins
import Derived.ChangeSlices
import Derived.Deep.QuietTactic
import Derived.BigQuiet

/-
Marks in rows of two numbers that lie beside one another. Conditions: none beyond their sizes.
-/
namespace Go.Proofs.Ytockhhfehjoldab
open Go Fk Go.RowKit
set_option linter.unusedVariables false
set_option maxRecDepth 8000
/-- The block R has n rows, which lie beside one another in the block F. -/
def FlatRows2 (w : World) (R F n : Nat) : Prop := ∀ j, j < n → ∃ c, w.cell? ⟨R, j, none⟩ = some (.slice (some ⟨F, j * 2, none⟩) 2 c)
theorem FlatRows2.same {w w' : World} {R F n : Nat} (h : FlatRows2 w R F n) (hs : ∀ i v, w.cell? ⟨R, i, none⟩ = some v → w'.cell? ⟨R, i, none⟩ = some v) : FlatRows2 w' R F n := fun j hj => by
  obtain ⟨c, hc⟩ := h j hj
  exact ⟨c, hs _ _ hc⟩
set_option maxHeartbeats 400000 in
theorem mark_flat2 (lo hi R F n cap : Nat) (k0 : Nat) (w : World) (hr : FlatRows2 w R F n) (ho : Own lo hi w F 0 (n * 2)) (hne : R ≠ F) (hl : n ≤ 1048576) (hk : k0 ≤ 1000000000000000000) :
    Calls Try.prog 13 #[.slice (some ⟨R, 0, none⟩) n cap, .int .i64 k0] w fun e w' => e = .returned (.int .i64 ((k0 + n * 2 : Nat) : Int)) ∧ (∀ j, j < n * 2 → w'.cell? ⟨F, j, none⟩ = some (.int .i64 ((k0 + j : Nat) : Int))) ∧ (∀ b i, b ≠ F → w'.cell? ⟨b, i, none⟩ = w.cell? ⟨b, i, none⟩) ∧ Mark lo hi w w' := by
  have H := Lib.hid hr
  have HO := Lib.hid ho
  have HNE := Lib.hid hne
  clear hr ho hne
  go_enter Try.func13, Try.ntmps13
  go_wp2
  go_loopw [1, 5] (fun q i w' => ∃ k : Nat, k ≤ n ∧ i = .int .i64 k ∧ q = .int .i64 ((k0 + k * 2 : Nat) : Int) ∧ Aside ((∀ j, j < k * 2 → w'.cell? ⟨F, j, none⟩ = some (.int .i64 ((k0 + j : Nat) : Int))) ∧ (∀ b i, b ≠ F → w'.cell? ⟨b, i, none⟩ = w.cell? ⟨b, i, none⟩) ∧ Mark lo hi w w')) (fun _ i _ => n - (intOf i).toNat)
  case atStart => exact ⟨0, Nat.zero_le _, rfl, by simp, fun j hj => absurd hj (by omega), fun _ _ _ => rfl, Mark.refl _ _ _⟩
  case round =>
    obtain ⟨k, hkl, rfl, rfl, hA⟩ := hrel
    by_cases hlt : k < n
    · obtain ⟨hdone, hsame, hM⟩ := hA.out
      obtain ⟨c, hc⟩ := H.out k hlt
      have hc' : wr.cell? ⟨R, k, none⟩ = some (.slice (some ⟨F, k * 2, none⟩) 2 c) := (hsame _ _ HNE.out).trans hc
      have hown : Own lo hi wr F (k * 2) 2 := by have := own_part (p := k * 2) (m := 2) (HO.out.mark hM) (by omega); rwa [Nat.zero_add] at this
      have HS := Lib.hid hsame
      have HM := Lib.hid hM
      have HW := Lib.hid hown
      have HD := Lib.hid hdone
      have hk0 : (0 : Int) ≤ (k : Int) := by omega
      have hk1 : (k : Int) < (n : Int) := by omega
      clear hA hsame hM hc hown hdone
      go_wp2_with fail
      refine (laws_markInt64S lo hi F (k * 2) 2 c (k0 + k * 2) wr HW.out (by omega)).mono ?_
      rintro e w1 ⟨rfl, hd, ho, hM1⟩
      have HO1 := Lib.hid ho
      have HD1 := Lib.hid hd
      have HM1 := Lib.hid hM1
      clear hd ho hM1
      go_wp2
      go_roundw
      case rel =>
        refine ⟨k + 1, by omega, by go_num, by congr 1 <;> omega, fun j hj => ?_, fun b i hb => (HO1.out b i (.inl hb)).trans (HS.out b i hb), HM.out.trans HM1.out⟩
        by_cases hj2 : j < k * 2
        · rw [HO1.out F j (.inr (.inl hj2))]; exact HD.out j hj2
        · have := HD1.out (j - k * 2) (by omega)
          rw [show k * 2 + (j - k * 2) = j by omega, show k0 + k * 2 + (j - k * 2) = k0 + j by omega] at this
          exact this
      case measure => simp [intOf]; omega
    · obtain rfl : k = n := by omega
      have HA := Lib.hid hA.out
      clear hA
      go_wp2
      go_ret
      exact ⟨rfl, HA.out.1, HA.out.2.1, HA.out.2.2⟩
theorem held_flat2 (R F n cap : Nat) (k0 : Nat) (w : World) (hr : FlatRows2 w R F n) (ho : ∀ j, j < n * 2 → w.cell? ⟨F, j, none⟩ = some (.int .i64 ((k0 + j : Nat) : Int))) (hl : n ≤ 1048576) (hk : k0 ≤ 1000000000000000000) :
    Calls Try.prog 14 #[.slice (some ⟨R, 0, none⟩) n cap, .int .i64 k0] w fun e w' => e = .returned (.int .i64 ((k0 + n * 2 : Nat) : Int)) ∧ w' = w := by
  have H := Lib.hid hr
  have HO := Lib.hid ho
  clear hr ho
  go_enter Try.func14, Try.ntmps14
  go_wp2
  go_loopw [1, 5] (fun q i w' => ∃ k : Nat, k ≤ n ∧ i = .int .i64 k ∧ q = .int .i64 ((k0 + k * 2 : Nat) : Int) ∧ w' = w) (fun _ i _ => n - (intOf i).toNat)
  case atStart => exact ⟨0, Nat.zero_le _, rfl, by simp, rfl⟩
  case round =>
    obtain ⟨k, hkl, rfl, rfl, hw⟩ := hrel
    by_cases hlt : k < n
    · obtain ⟨c, hc⟩ := H.out k hlt
      have hc' : wr.cell? ⟨R, k, none⟩ = some (.slice (some ⟨F, k * 2, none⟩) 2 c) := by rw [hw]; exact hc
      have hJ := laws_heldInt64S F (k * 2) 2 c (k0 + k * 2) wr (fun j hj => by rw [hw, HO.out (k * 2 + j) (by omega), Nat.add_assoc]) (by omega)
      have HJ := Lib.hid hJ
      have HW := Lib.hid hw
      have hk0 : (0 : Int) ≤ (k : Int) := by omega
      have hk1 : (k : Int) < (n : Int) := by omega
      have hn0 : ¬ ((k0 + k * 2 + 2 : Nat) : Int) < 0 := by omega
      clear hc hJ hw
      go_wp2_with fail
      refine HJ.out.mono ?_
      rintro e w1 ⟨rfl, hw1⟩
      rw [hw1]
      clear hw1 w1
      go_wp2
      go_roundw
      case rel => exact ⟨k + 1, by omega, by go_num, by congr 1 <;> omega, HW.out⟩
      case measure => simp [intOf]; omega
    · obtain rfl : k = n := by omega
      have HW := Lib.hid hw
      clear hw
      go_wp2
      go_ret
      exact ⟨rfl, HW.out⟩
def Flat2 (lo hi : Nat) (w : World) (ta : Option Addr) (n F : Nat) : Prop := (ta = none ∧ n = 0) ∨ ∃ R, ta = some ⟨R, 0, none⟩ ∧ lo ≤ R ∧ R < hi ∧ R < w.heap.size ∧ R ≠ F ∧ FlatRows2 w R F n ∧ Own lo hi w F 0 (n * 2)
theorem flat_any2 (lo hi : Nat) (a : Option Addr) (n cap F : Nat) (k0 : Nat) (w : World) (h : Flat2 lo hi w a n F) (hn : n ≤ 1000000) (hk : k0 ≤ 1000000000) :
    Calls Try.prog 13 #[.slice a n cap, .int .i64 k0] w fun e w' => e = .returned (.int .i64 ((k0 + n * 2 : Nat) : Int)) ∧ ((a = none ∧ n = 0) ∨ ∃ R, a = some ⟨R, 0, none⟩ ∧ FlatRows2 w' R F n ∧ ∀ j, j < n * 2 → w'.cell? ⟨F, j, none⟩ = some (.int .i64 ((k0 + j : Nat) : Int))) ∧ (∀ b i, b ≠ F → w'.cell? ⟨b, i, none⟩ = w.cell? ⟨b, i, none⟩) ∧ Mark lo hi w w' := by
  rcases h with ⟨rfl, rfl⟩ | ⟨R, rfl, h1, h2, h3, h4, h5, h6⟩
  · go_enter Try.func13, Try.ntmps13
    go_wp2
    refine wp_loop_rounds 1 ?_
    rw [rounds_succ]
    go_wp2
    go_ret
    refine ⟨by simp, by simp, ?_, Mark.refl _ _ _⟩
    first | exact fun _ _ _ => rfl | simp
  · refine (mark_flat2 lo hi R F n cap k0 w h5 h6 h4 (by omega) (by omega)).mono ?_
    rintro e w' ⟨he, hd, ho, hM⟩
    exact ⟨he, .inr ⟨R, rfl, h5.same (fun i v hv => (ho R i h4).trans hv), hd⟩, ho, hM⟩
theorem flat_held2 (a : Option Addr) (n cap F : Nat) (k0 : Nat) (w : World) (h : (a = none ∧ n = 0) ∨ ∃ R, a = some ⟨R, 0, none⟩ ∧ FlatRows2 w R F n ∧ ∀ j, j < n * 2 → w.cell? ⟨F, j, none⟩ = some (.int .i64 ((k0 + j : Nat) : Int))) (hn : n ≤ 1000000) (hk : k0 ≤ 1000000000) :
    Calls Try.prog 14 #[.slice a n cap, .int .i64 k0] w fun e w' => e = .returned (.int .i64 ((k0 + n * 2 : Nat) : Int)) ∧ w' = w := by
  rcases h with ⟨rfl, rfl⟩ | ⟨R, rfl, hf, hc⟩
  · go_enter Try.func14, Try.ntmps14
    go_wp2
    refine wp_loop_rounds 1 ?_
    rw [rounds_succ]
    go_wp2
    go_ret
    exact ⟨by simp, by first | rfl | trivial⟩
  · exact held_flat2 R F n cap k0 w hf hc (by omega) (by omega)
theorem Flat2.mark {lo hi lo' hi' : Nat} {w w' : World} {a : Option Addr} {n F : Nat} (h : Flat2 lo hi w a n F) (hM : Mark lo' hi' w w') (hs : ∀ R, a = some R → ∀ i v, w.cell? ⟨R.block, i, none⟩ = some v → w'.cell? ⟨R.block, i, none⟩ = some v) : Flat2 lo hi w' a n F :=
  h.imp id fun ⟨R, e, h1, h2, h3, h4, h5, h6⟩ => ⟨R, e, h1, h2, Nat.lt_of_lt_of_le h3 hM.below.size, h4, h5.same (hs _ e), h6.mark hM⟩
/-- Rows outside the blocks that are marked are as they were. -/
theorem ts_mark2 {lo hi lo' hi' : Nat} {w w' : World} {a : Option Addr} {n cap F : Nat} {ts : List (List Int)} (h : IsTs w a n cap ts) (hl : Flat2 lo' hi' w a n F) (hM : Mark lo hi w w') (ho : hi' ≤ lo ∨ hi ≤ lo') : IsTs w' a n cap ts := by
  obtain ⟨h1, h2, h3, h4, h5⟩ := h
  refine ⟨h1, h2, h3, h4, fun x hx i hlt => ?_⟩
  rcases hl with ⟨e, _⟩ | ⟨R, e, u1, u2, u3, u4, u5, u6⟩
  · rw [e] at hx; cases hx
  · rw [e] at hx; cases hx
    obtain ⟨G, c, c', hc, hI⟩ := h5 _ e i hlt
    rw [addr_add', Nat.zero_add] at hc
    obtain ⟨c2, hc2⟩ := u5 i hlt
    have hb : R < lo ∨ hi ≤ R := by omega
    have hbF : F < lo ∨ hi ≤ F := by have := u6.1; have := u6.2.1; omega
    rw [hc2] at hc
    cases hc
    refine ⟨_, _, _, by rw [addr_add', Nat.zero_add]; exact hM.cell hb hc2, ?_⟩
    obtain ⟨i1, i2, i3, i4, i5, i6⟩ := hI
    refine ⟨i1, i2, i3, i4, i5, fun y hy j hj => ?_⟩
    cases hy
    have := i6 _ rfl j hj
    rw [addr_add'] at this ⊢
    exact hM.cell hbF this
theorem Flat2.below {lo hi : Nat} {w w' : World} {ta : Option Addr} {n F : Nat} (h : Flat2 lo hi w ta n F) (hB : Below w.heap.size w w') : Flat2 lo hi w' ta n F :=
  h.imp id fun ⟨R, e, h1, h2, h3, h4, h5, h6⟩ => ⟨R, e, h1, h2, Nat.lt_of_lt_of_le h3 hB.size, h4, h5.same (fun i v hv => cell_below hB hv), h6.below hB⟩
/-- The marks that were written are there. -/
def MrkR (w : World) (a : Option Addr) (n F : Nat) : Prop := (a = none ∧ n = 0) ∨ ∃ R, a = some ⟨R, 0, none⟩ ∧ FlatRows2 w R F n ∧ ∀ j, j < n * 2 → w.cell? ⟨F, j, none⟩ = some (.int .i64 ((1 + j : Nat) : Int))
theorem MrkR.below {w w' : World} {a : Option Addr} {n F : Nat} (h : MrkR w a n F) (hB : Below w.heap.size w w') : MrkR w' a n F :=
  h.imp id fun ⟨R, e, h1, h2⟩ => ⟨R, e, h1.same (fun i v hv => cell_below hB hv), fun j hj => cell_below hB (h2 j hj)⟩
end Go.Proofs.Ytockhhfehjoldab


/-
Rows of four numbers: what the program divides a list into, and marks in them. Conditions: none beyond their sizes.
-/
namespace Go.Proofs.Ytockhhfehjoldab
open Go Fk Go.RowKit
set_option linter.unusedVariables false
set_option maxRecDepth 8000
def rowVs4 (fb : Nat) (k : Nat) : List Value := (List.range k).map fun j => Value.slice (some ⟨fb, j * 4, none⟩) 4 4
theorem rowVs4_snoc (fb k : Nat) : rowVs4 fb (k + 1) = rowVs4 fb k ++ [Value.slice (some ⟨fb, k * 4, none⟩) 4 4] := by
  unfold rowVs4; rw [List.range_succ, List.map_append]; rfl
set_option maxHeartbeats 1000000 in
theorem rows_of4 (fb n fc : Nat) (w : World) (hn : n ≤ 1000000) (hc : n * 4 ≤ fc) :
    Calls Try.prog 71 #[.slice (some ⟨fb, 0, none⟩) (n * 4) fc, .int .i64 4] w fun e w' => ∃ v, e = .returned v ∧ w'.ownsRow w.heap.size 39 1 v n (rowVs4 fb n) ∧ Below w.heap.size w w' := by
  obtain ⟨i0, hi, hz0, hz1, hz2⟩ := info_parts infoS
  have hq' : ((n : Int) * 4).tdiv 4 = n := Int.mul_tdiv_cancel _ (by decide)
  have hq : ((n * 4 : Nat) : Int).tdiv 4 = n := by rw [Int.natCast_mul]; exact hq'
  have hmk : (Instr.makeSlice 22 (.int .i64 0) (.int .i64 n)).run Try.prog w = .ok (.slice (some ⟨w.heap.size, 0, none⟩) 0 n) (w.alloc (.cells (madeCells #[.slice none 0 0] n) 39)) := by
    have := run_make (P := Try.prog) w 22 39 i0 (.slice none 0 0) Try.underlying22 hi hz0 .i64 .i64 0 n (by omega) (by omega) (by rw [hz2]; omega) (by omega)
    rw [this, hz1]; simp; rfl
  have hst : (w.alloc (.cells (madeCells #[.slice none 0 0] n) 39)).ownsRow w.heap.size 39 1 (.slice (some ⟨w.heap.size, 0, none⟩) 0 n) 0 [] :=
    World.ownsRow_made (e := 39) (size := 1) w _ n (Nat.le_refl _) (by unfold maxLen; omega) (by unfold madeCells; simp)
  have HST := Lib.hid hst
  have HB0 := Lib.hid ((Below.refl w.heap.size w).alloc (Nat.le_refl _) (.cells (madeCells #[.slice none 0 0] n) 39))
  clear hst
  go_enter Try.func71, Try.ntmps71
  go_wp2
  generalize hCH : w.alloc (.cells (madeCells #[.slice none 0 0] n) 39) = W at *
  go_loopw [5, 6] (fun v i w' => ∃ k : Nat, k ≤ n ∧ i = .int .i64 ((k * 4 : Nat) : Int) ∧ Aside (w'.ownsRow w.heap.size 39 1 v k (rowVs4 fb k) ∧ Below w.heap.size w w')) (fun _ i _ => n * 4 - (intOf i).toNat)
  case atStart => exact ⟨0, Nat.zero_le _, rfl, HST.out, HB0.out⟩
  case round =>
    obtain ⟨k, hk, hik, hA⟩ := hrel
    subst hik
    obtain ⟨hown, hB⟩ := hA.out
    have HB := Lib.hid hB
    have HOWN := Lib.hid hown
    have hbz := Lib.hid hB.size
    clear hmk HST hq hq'
    by_cases hlt : k < n
    · have hk0 : (0 : Int) ≤ (k : Int) := by omega
      have hk1 : (k : Int) * 4 < (n : Int) * 4 := by omega
      clear hA hB hown
      go_wp2_with (at_builtin; refine wpList_append_own _ rfl _ _ 22 rfl w.heap.size 39 i0 (.slice none 0 0) 1 24 Try.underlying22 hi hz0 hz1 hz2 rfl (by decide) _ _ _ rfl (HOWN.out.alloc _) ⟨wr.heap.size, 0, none⟩ 1 1 [.slice (some ⟨fb, k * 4, none⟩) 4 4] rfl rfl ?c1 ?c2 ?c3 ?c4 ?c5 ?_)
      case c1 =>
        intro j u hj
        match j, hj with
        | 0, hj => simp at hj; subst hj; simp [Addr.add]
      case c2 => intro u hu; simp at hu; subst hu; rfl
      case c3 => unfold maxLen; omega
      case c4 => omega
      case c5 => have := hbz.out; simp; omega
      · intro v' w1 hown' hgrow _
        have hB1 : Below w.heap.size w (wr.alloc (.cells #[.slice (some ⟨fb, k * 4, none⟩) 4 4] 39)) := HB.out.alloc hbz.out _
        have HB1 := Lib.hid (hB1.grown hgrow hB1.size (fun k hk => (HOWN.out.lt k hk).1))
        have HO1 := Lib.hid hown'
        clear hown' hgrow hB1
        go_wp2
        go_roundw
        case rel => exact ⟨k + 1, by omega, by go_num, by rw [rowVs4_snoc]; exact HO1.out, HB1.out⟩
        case measure => simp [intOf]; omega
    · obtain rfl : k = n := by omega
      clear hA hB hown
      go_wp2
      go_ret
      exact ⟨_, rfl, HOWN.out, HB.out⟩
set_option maxHeartbeats 1000000 in
theorem rows_nil4 (w : World) :
    Calls Try.prog 71 #[.slice none 0 0, .int .i64 4] w fun e w' => ∃ v, e = .returned v ∧ w'.ownsRow w.heap.size 39 1 v 0 [] ∧ Below w.heap.size w w' := by
  obtain ⟨i0, hi, hz0, hz1, hz2⟩ := info_parts infoS
  have hmk : (Instr.makeSlice 22 (.int .i64 0) (.int .i64 0)).run Try.prog w = .ok (.slice (some ⟨w.heap.size, 0, none⟩) 0 0) (w.alloc (.cells (madeCells #[.slice none 0 0] 0) 39)) := by
    have := run_make (P := Try.prog) w 22 39 i0 (.slice none 0 0) Try.underlying22 hi hz0 .i64 .i64 0 0 (by omega) (by omega) (by rw [hz2]; omega) (by omega)
    rw [this, hz1]; simp; rfl
  have hst : (w.alloc (.cells (madeCells #[.slice none 0 0] 0) 39)).ownsRow w.heap.size 39 1 (.slice (some ⟨w.heap.size, 0, none⟩) 0 0) 0 [] :=
    World.ownsRow_made (e := 39) (size := 1) w _ 0 (Nat.le_refl _) (by unfold maxLen; omega) (by unfold madeCells; simp)
  have HST := Lib.hid hst
  have HB0 := Lib.hid ((Below.refl w.heap.size w).alloc (Nat.le_refl _) (.cells (madeCells #[.slice none 0 0] 0) 39))
  clear hst
  go_enter Try.func71, Try.ntmps71
  go_wp2
  generalize hCH : w.alloc (.cells (madeCells #[.slice none 0 0] 0) 39) = W at *
  refine wp_loop_rounds 1 ?_
  rw [rounds_succ]
  go_wp2
  go_ret
  exact ⟨_, rfl, HST.out, HB0.out⟩
/-- The block R has n rows, which lie beside one another in the block F. -/
def FlatRows4 (w : World) (R F n : Nat) : Prop := ∀ j, j < n → ∃ c, w.cell? ⟨R, j, none⟩ = some (.slice (some ⟨F, j * 4, none⟩) 4 c)
theorem FlatRows4.same {w w' : World} {R F n : Nat} (h : FlatRows4 w R F n) (hs : ∀ i v, w.cell? ⟨R, i, none⟩ = some v → w'.cell? ⟨R, i, none⟩ = some v) : FlatRows4 w' R F n := fun j hj => by
  obtain ⟨c, hc⟩ := h j hj
  exact ⟨c, hs _ _ hc⟩
set_option maxHeartbeats 400000 in
theorem mark_flat4 (lo hi R F n cap : Nat) (k0 : Nat) (w : World) (hr : FlatRows4 w R F n) (ho : Own lo hi w F 0 (n * 4)) (hne : R ≠ F) (hl : n ≤ 1048576) (hk : k0 ≤ 1000000000000000000) :
    Calls Try.prog 13 #[.slice (some ⟨R, 0, none⟩) n cap, .int .i64 k0] w fun e w' => e = .returned (.int .i64 ((k0 + n * 4 : Nat) : Int)) ∧ (∀ j, j < n * 4 → w'.cell? ⟨F, j, none⟩ = some (.int .i64 ((k0 + j : Nat) : Int))) ∧ (∀ b i, b ≠ F → w'.cell? ⟨b, i, none⟩ = w.cell? ⟨b, i, none⟩) ∧ Mark lo hi w w' := by
  have H := Lib.hid hr
  have HO := Lib.hid ho
  have HNE := Lib.hid hne
  clear hr ho hne
  go_enter Try.func13, Try.ntmps13
  go_wp2
  go_loopw [1, 5] (fun q i w' => ∃ k : Nat, k ≤ n ∧ i = .int .i64 k ∧ q = .int .i64 ((k0 + k * 4 : Nat) : Int) ∧ Aside ((∀ j, j < k * 4 → w'.cell? ⟨F, j, none⟩ = some (.int .i64 ((k0 + j : Nat) : Int))) ∧ (∀ b i, b ≠ F → w'.cell? ⟨b, i, none⟩ = w.cell? ⟨b, i, none⟩) ∧ Mark lo hi w w')) (fun _ i _ => n - (intOf i).toNat)
  case atStart => exact ⟨0, Nat.zero_le _, rfl, by simp, fun j hj => absurd hj (by omega), fun _ _ _ => rfl, Mark.refl _ _ _⟩
  case round =>
    obtain ⟨k, hkl, rfl, rfl, hA⟩ := hrel
    by_cases hlt : k < n
    · obtain ⟨hdone, hsame, hM⟩ := hA.out
      obtain ⟨c, hc⟩ := H.out k hlt
      have hc' : wr.cell? ⟨R, k, none⟩ = some (.slice (some ⟨F, k * 4, none⟩) 4 c) := (hsame _ _ HNE.out).trans hc
      have hown : Own lo hi wr F (k * 4) 4 := by have := own_part (p := k * 4) (m := 4) (HO.out.mark hM) (by omega); rwa [Nat.zero_add] at this
      have HS := Lib.hid hsame
      have HM := Lib.hid hM
      have HW := Lib.hid hown
      have HD := Lib.hid hdone
      have hk0 : (0 : Int) ≤ (k : Int) := by omega
      have hk1 : (k : Int) < (n : Int) := by omega
      clear hA hsame hM hc hown hdone
      go_wp2_with fail
      refine (laws_markInt64S lo hi F (k * 4) 4 c (k0 + k * 4) wr HW.out (by omega)).mono ?_
      rintro e w1 ⟨rfl, hd, ho, hM1⟩
      have HO1 := Lib.hid ho
      have HD1 := Lib.hid hd
      have HM1 := Lib.hid hM1
      clear hd ho hM1
      go_wp2
      go_roundw
      case rel =>
        refine ⟨k + 1, by omega, by go_num, by congr 1 <;> omega, fun j hj => ?_, fun b i hb => (HO1.out b i (.inl hb)).trans (HS.out b i hb), HM.out.trans HM1.out⟩
        by_cases hj2 : j < k * 4
        · rw [HO1.out F j (.inr (.inl hj2))]; exact HD.out j hj2
        · have := HD1.out (j - k * 4) (by omega)
          rw [show k * 4 + (j - k * 4) = j by omega, show k0 + k * 4 + (j - k * 4) = k0 + j by omega] at this
          exact this
      case measure => simp [intOf]; omega
    · obtain rfl : k = n := by omega
      have HA := Lib.hid hA.out
      clear hA
      go_wp2
      go_ret
      exact ⟨rfl, HA.out.1, HA.out.2.1, HA.out.2.2⟩
theorem held_flat4 (R F n cap : Nat) (k0 : Nat) (w : World) (hr : FlatRows4 w R F n) (ho : ∀ j, j < n * 4 → w.cell? ⟨F, j, none⟩ = some (.int .i64 ((k0 + j : Nat) : Int))) (hl : n ≤ 1048576) (hk : k0 ≤ 1000000000000000000) :
    Calls Try.prog 14 #[.slice (some ⟨R, 0, none⟩) n cap, .int .i64 k0] w fun e w' => e = .returned (.int .i64 ((k0 + n * 4 : Nat) : Int)) ∧ w' = w := by
  have H := Lib.hid hr
  have HO := Lib.hid ho
  clear hr ho
  go_enter Try.func14, Try.ntmps14
  go_wp2
  go_loopw [1, 5] (fun q i w' => ∃ k : Nat, k ≤ n ∧ i = .int .i64 k ∧ q = .int .i64 ((k0 + k * 4 : Nat) : Int) ∧ w' = w) (fun _ i _ => n - (intOf i).toNat)
  case atStart => exact ⟨0, Nat.zero_le _, rfl, by simp, rfl⟩
  case round =>
    obtain ⟨k, hkl, rfl, rfl, hw⟩ := hrel
    by_cases hlt : k < n
    · obtain ⟨c, hc⟩ := H.out k hlt
      have hc' : wr.cell? ⟨R, k, none⟩ = some (.slice (some ⟨F, k * 4, none⟩) 4 c) := by rw [hw]; exact hc
      have hJ := laws_heldInt64S F (k * 4) 4 c (k0 + k * 4) wr (fun j hj => by rw [hw, HO.out (k * 4 + j) (by omega), Nat.add_assoc]) (by omega)
      have HJ := Lib.hid hJ
      have HW := Lib.hid hw
      have hk0 : (0 : Int) ≤ (k : Int) := by omega
      have hk1 : (k : Int) < (n : Int) := by omega
      have hn0 : ¬ ((k0 + k * 4 + 4 : Nat) : Int) < 0 := by omega
      clear hc hJ hw
      go_wp2_with fail
      refine HJ.out.mono ?_
      rintro e w1 ⟨rfl, hw1⟩
      rw [hw1]
      clear hw1 w1
      go_wp2
      go_roundw
      case rel => exact ⟨k + 1, by omega, by go_num, by congr 1 <;> omega, HW.out⟩
      case measure => simp [intOf]; omega
    · obtain rfl : k = n := by omega
      have HW := Lib.hid hw
      clear hw
      go_wp2
      go_ret
      exact ⟨rfl, HW.out⟩
def Flat4 (lo hi : Nat) (w : World) (ta : Option Addr) (n F : Nat) : Prop := (n = 0 ∧ ∀ R, ta = some R → lo ≤ R.block) ∨ ∃ R, ta = some ⟨R, 0, none⟩ ∧ lo ≤ R ∧ R < hi ∧ R < w.heap.size ∧ R ≠ F ∧ FlatRows4 w R F n ∧ Own lo hi w F 0 (n * 4)
theorem flat_any4 (lo hi : Nat) (a : Option Addr) (n cap F : Nat) (k0 : Nat) (w : World) (h : Flat4 lo hi w a n F) (hn : n ≤ 1000000) (hk : k0 ≤ 1000000000) :
    Calls Try.prog 13 #[.slice a n cap, .int .i64 k0] w fun e w' => e = .returned (.int .i64 ((k0 + n * 4 : Nat) : Int)) ∧ (n = 0 ∨ ∃ R, a = some ⟨R, 0, none⟩ ∧ FlatRows4 w' R F n ∧ ∀ j, j < n * 4 → w'.cell? ⟨F, j, none⟩ = some (.int .i64 ((k0 + j : Nat) : Int))) ∧ (∀ b i, b ≠ F → w'.cell? ⟨b, i, none⟩ = w.cell? ⟨b, i, none⟩) ∧ Mark lo hi w w' := by
  rcases h with ⟨rfl, _⟩ | ⟨R, rfl, h1, h2, h3, h4, h5, h6⟩
  · go_enter Try.func13, Try.ntmps13
    go_wp2
    refine wp_loop_rounds 1 ?_
    rw [rounds_succ]
    go_wp2
    go_ret
    refine ⟨by simp, by simp, ?_, Mark.refl _ _ _⟩
    first | exact fun _ _ _ => rfl | simp
  · refine (mark_flat4 lo hi R F n cap k0 w h5 h6 h4 (by omega) (by omega)).mono ?_
    rintro e w' ⟨he, hd, ho, hM⟩
    exact ⟨he, .inr ⟨R, rfl, h5.same (fun i v hv => (ho R i h4).trans hv), hd⟩, ho, hM⟩
theorem flat_held4 (a : Option Addr) (n cap F : Nat) (k0 : Nat) (w : World) (h : n = 0 ∨ ∃ R, a = some ⟨R, 0, none⟩ ∧ FlatRows4 w R F n ∧ ∀ j, j < n * 4 → w.cell? ⟨F, j, none⟩ = some (.int .i64 ((k0 + j : Nat) : Int))) (hn : n ≤ 1000000) (hk : k0 ≤ 1000000000) :
    Calls Try.prog 14 #[.slice a n cap, .int .i64 k0] w fun e w' => e = .returned (.int .i64 ((k0 + n * 4 : Nat) : Int)) ∧ w' = w := by
  rcases h with rfl | ⟨R, rfl, hf, hc⟩
  · go_enter Try.func14, Try.ntmps14
    go_wp2
    refine wp_loop_rounds 1 ?_
    rw [rounds_succ]
    go_wp2
    go_ret
    exact ⟨by simp, by first | rfl | trivial⟩
  · exact held_flat4 R F n cap k0 w hf hc (by omega) (by omega)
theorem Flat4.mark {lo hi lo' hi' : Nat} {w w' : World} {a : Option Addr} {n F : Nat} (h : Flat4 lo hi w a n F) (hM : Mark lo' hi' w w') (hs : ∀ R, a = some R → ∀ i v, w.cell? ⟨R.block, i, none⟩ = some v → w'.cell? ⟨R.block, i, none⟩ = some v) : Flat4 lo hi w' a n F :=
  h.imp id fun ⟨R, e, h1, h2, h3, h4, h5, h6⟩ => ⟨R, e, h1, h2, Nat.lt_of_lt_of_le h3 hM.below.size, h4, h5.same (hs _ e), h6.mark hM⟩
/-- Rows outside the blocks that are marked are as they were. -/
theorem ts_mark4 {lo hi lo' hi' : Nat} {w w' : World} {a : Option Addr} {n cap F : Nat} {ts : List (List Int)} (h : IsTs w a n cap ts) (hl : Flat4 lo' hi' w a n F) (hM : Mark lo hi w w') (ho : hi' ≤ lo ∨ hi ≤ lo') : IsTs w' a n cap ts := by
  obtain ⟨h1, h2, h3, h4, h5⟩ := h
  refine ⟨h1, h2, h3, h4, fun x hx i hlt => ?_⟩
  rcases hl with ⟨e, _⟩ | ⟨R, e, u1, u2, u3, u4, u5, u6⟩
  · omega
  · rw [e] at hx; cases hx
    obtain ⟨G, c, c', hc, hI⟩ := h5 _ e i hlt
    rw [addr_add', Nat.zero_add] at hc
    obtain ⟨c2, hc2⟩ := u5 i hlt
    have hb : R < lo ∨ hi ≤ R := by omega
    have hbF : F < lo ∨ hi ≤ F := by have := u6.1; have := u6.2.1; omega
    rw [hc2] at hc
    cases hc
    refine ⟨_, _, _, by rw [addr_add', Nat.zero_add]; exact hM.cell hb hc2, ?_⟩
    obtain ⟨i1, i2, i3, i4, i5, i6⟩ := hI
    refine ⟨i1, i2, i3, i4, i5, fun y hy j hj => ?_⟩
    cases hy
    have := i6 _ rfl j hj
    rw [addr_add'] at this ⊢
    exact hM.cell hbF this
theorem Flat4.below {lo hi : Nat} {w w' : World} {ta : Option Addr} {n F : Nat} (h : Flat4 lo hi w ta n F) (hB : Below w.heap.size w w') : Flat4 lo hi w' ta n F :=
  h.imp id fun ⟨R, e, h1, h2, h3, h4, h5, h6⟩ => ⟨R, e, h1, h2, Nat.lt_of_lt_of_le h3 hB.size, h4, h5.same (fun i v hv => cell_below hB hv), h6.below hB⟩
/-- The marks that were written are there. -/
def MrkR4 (w : World) (a : Option Addr) (n F : Nat) : Prop := n = 0 ∨ ∃ R, a = some ⟨R, 0, none⟩ ∧ FlatRows4 w R F n ∧ ∀ j, j < n * 4 → w.cell? ⟨F, j, none⟩ = some (.int .i64 ((1 + j : Nat) : Int))
theorem MrkR4.below {w w' : World} {a : Option Addr} {n F : Nat} (h : MrkR4 w a n F) (hB : Below w.heap.size w w') : MrkR4 w' a n F :=
  h.imp id fun ⟨R, e, h1, h2⟩ => ⟨R, e, h1.same (fun i v hv => cell_below hB hv), fun j hj => cell_below hB (h2 j hj)⟩
theorem Flat4.lo {lo hi : Nat} {w : World} {a : Option Addr} {n F : Nat} (h : Flat4 lo hi w a n F) {R : Addr} (hR : a = some R) : lo ≤ R.block := by
  rcases h with ⟨_, e⟩ | ⟨R', e, h1, _⟩
  · exact e R hR
  · rw [e] at hR; cases hR; exact h1
end Go.Proofs.Ytockhhfehjoldab


/-
Bodies in memory: lists of springs, and how a body comes in. Conditions: none.
-/
namespace Go.Proofs.Ytockhhfehjoldab
namespace Fk
open Go Go.RowKit
set_option linter.unusedVariables false

/-- A spring: its two places, and the classes of its two numbers. -/
abbrev SC := Int × Int × Option Nat × Option Nat
abbrev s0 : SC := (0, 0, none, none)
/-- A list of springs that lies in memory. -/
def IsSs (w : World) (a : Option Addr) (len cap : Nat) (ss : List SC) : Prop :=
  ss.length = len ∧ len ≤ cap ∧ cap ≤ maxLen ∧ (∀ s ∈ ss, (Lit.int .i64 s.1).wf = true ∧ (Lit.int .i64 s.2.1).wf = true) ∧ (a = none → len = 0 ∧ cap = 0) ∧
  (∀ x, a = some x → ∀ i, i < len → ∃ p q, w.cell? (x.add (i * 4)) = some (.int .i64 (ss.getD i s0).1) ∧ w.cell? (x.add (i * 4 + 1)) = some (.int .i64 (ss.getD i s0).2.1) ∧ w.cell? (x.add (i * 4 + 2)) = some (.float .f32 p) ∧ w.cell? (x.add (i * 4 + 3)) = some (.float .f32 q) ∧
    FV .f32 p (ss.getD i s0).2.2.1 ∧ FV .f32 q (ss.getD i s0).2.2.2)
theorem IsSs.below {W w : World} {a : Option Addr} {len cap : Nat} {ss : List SC} (hb : Below W.heap.size W w) (h : IsSs W a len cap ss) : IsSs w a len cap ss := by
  obtain ⟨h1, h2, h3, h4, h5, h6⟩ := h
  refine ⟨h1, h2, h3, h4, h5, fun x hx i hi => ?_⟩
  obtain ⟨p, q, k0, k1, k2, k3, hv⟩ := h6 x hx i hi
  exact ⟨p, q, by rw [hb.cell (p := x.add (i * 4)) (World.block_lt_of_cell? W _ k0)]; exact k0, by rw [hb.cell (p := x.add (i * 4 + 1)) (World.block_lt_of_cell? W _ k1)]; exact k1,
    by rw [hb.cell (p := x.add (i * 4 + 2)) (World.block_lt_of_cell? W _ k2)]; exact k2, by rw [hb.cell (p := x.add (i * 4 + 3)) (World.block_lt_of_cell? W _ k3)]; exact k3, hv⟩
theorem IsSs.some {w : World} {a : Option Addr} {len cap : Nat} {ss : List SC} (h : IsSs w a len cap ss) (hl : 0 < len) :
    ∃ b o, a = .some ⟨b, o, none⟩ ∧ ∀ i, i < len → ∃ p q, w.cell? ⟨b, o + i * 4, none⟩ = .some (.int .i64 (ss.getD i s0).1) ∧ w.cell? ⟨b, o + i * 4 + 1, none⟩ = .some (.int .i64 (ss.getD i s0).2.1) ∧ w.cell? ⟨b, o + i * 4 + 2, none⟩ = .some (.float .f32 p) ∧ w.cell? ⟨b, o + i * 4 + 3, none⟩ = .some (.float .f32 q) ∧
      FV .f32 p (ss.getD i s0).2.2.1 ∧ FV .f32 q (ss.getD i s0).2.2.2 := by
  obtain ⟨h1, h2, h3, h4, h5, h6⟩ := h
  cases a with
  | none => have := (h5 rfl).1; omega
  | some x =>
    obtain ⟨b, o, spot⟩ := x
    obtain ⟨_, _, hc, _⟩ := h6 _ rfl 0 hl
    have hspot : spot = none := by simpa [Addr.add] using World.cell?_spot hc
    subst hspot
    refine ⟨b, o, rfl, fun i hi => ?_⟩
    have := h6 _ rfl i hi
    rwa [addr_add', addr_add', addr_add', addr_add', ← Nat.add_assoc, ← Nat.add_assoc, ← Nat.add_assoc] at this

section
open Go.ChangeShapes Go.WideShapes Go.Deep
variable {H : Type} {enc : TypeId × Value → H} {P : Program} {w : World} {base : Nat} {held : Bool}
theorem cells?_four {b : Nat} {a : Addr} {cs : List Value} (h : w.cells? b a 4 = some cs) : ∃ u v t s, cs = [u, v, t, s] ∧ w.cell? a = some u ∧ w.cell? (a.add 1) = some v ∧ w.cell? (a.add 2) = some t ∧ w.cell? (a.add 3) = some s := by
  obtain ⟨_, hl, hc⟩ := World.cells?_some h
  match cs, hl with
  | [u, v, t, s], _ =>
    have k0 := hc 0 (by omega)
    have k1 := hc 1 (by omega)
    have k2 := hc 2 (by omega)
    have k3 := hc 3 (by omega)
    have z : a.add 0 = a := by unfold Addr.add; rfl
    rw [z] at k0
    exact ⟨u, v, t, s, rfl, k0, k1, k2, k3⟩
theorem trod_springs {t e : TypeId} {f0 f1 f2 f3 : Field} {fuel : Nat} {cs : List Value} {x : DataW H × List MemPlace} (ht : P.underlying t = some (.slice e)) (hs : P.underlying e = some (.struct #[f0, f1, f2, f3])) (hone : oneCellFields P #[f0, f1, f2, f3] = true) (hC : P.cellsOf e = 4)
    (he0 : P.underlying f0.type = some (.int .i64)) (he1 : P.underlying f1.type = some (.int .i64)) (he2 : P.underlying f2.type = some (.float .f32)) (he3 : P.underlying f3.type = some (.float .f32))
    (h : DataW.trod enc P w base (fun _ => true) held fuel t cs = some x) : ∃ a len cap ss, cs = [.slice a len cap] ∧ IsSs w a len cap ss := by
  rcases open_slice ht h with ⟨hcs, hy⟩ | ⟨a, len, cap, m, n, D, Pl, hcs, hb, hl, hm, hmm, hx, hr⟩
  · exact ⟨none, 0, 0, [], hcs, rfl, Nat.le_refl _, Nat.zero_le _, by simp, fun _ => ⟨rfl, rfl⟩, fun _ h => by cases h⟩
  · simp only [if_true] at hmm
    rw [hC] at hr
    have each : ∀ i, i < len → ∃ (u v : Int) (p q : Nat), w.cell? (a.add (i * 4)) = some (.int .i64 u) ∧ w.cell? (a.add (i * 4 + 1)) = some (.int .i64 v) ∧ w.cell? (a.add (i * 4 + 2)) = some (.float .f32 p) ∧ w.cell? (a.add (i * 4 + 3)) = some (.float .f32 q) ∧
        (Lit.int .i64 u).wf = true ∧ (Lit.int .i64 v).wf = true ∧ p < 2 ^ FloatKind.f32.format.width ∧ q < 2 ^ FloatKind.f32.format.width := by
      intro i hi
      obtain ⟨cs', h1, h2⟩ := hr i (by omega)
      obtain ⟨c0, c1, c2, c3, rfl, k0, k1, k2, k3⟩ := cells?_four h1
      obtain ⟨y0, y1, y2, y3, n', hx', _, h0', h1', h2', h3'⟩ := Joins.trod_struct4 hs h2
      obtain ⟨o0, q0⟩ := hone_of hone 0 f0 rfl
      obtain ⟨o1, q1⟩ := hone_of hone 1 f1 rfl
      obtain ⟨o2, q2⟩ := hone_of hone 2 f2 rfl
      obtain ⟨o3, q3⟩ := hone_of hone 3 f3 rfl
      obtain ⟨u, e0, _, w0⟩ := DataW.trod_int he0 h0'
      obtain ⟨v, e1, _, w1⟩ := DataW.trod_int he1 h1'
      obtain ⟨p, e2, w2⟩ := trod_float he2 h2'
      obtain ⟨q, e3, w3⟩ := trod_float he3 h3'
      simp [o0, q0] at e0
      simp [o1, q1] at e1
      simp [o2, q2] at e2
      simp [o3, q3] at e3
      subst e0 e1 e2 e3
      rw [Addr.add_add] at k1 k2 k3
      exact ⟨u, v, p, q, k0, k1, k2, k3, w0, w1, w2, w3⟩
    let fi : Nat → Int := fun j => match w.cell? (a.add j) with | some (.int _ b) => b | _ => 0
    let f : Nat → Nat := fun j => match w.cell? (a.add j) with | some (.float _ b) => b | _ => 0
    have hg : ∀ i, i < len → ((List.range len).map fun i => ((fi (i * 4), fi (i * 4 + 1), cls .f32 (f (i * 4 + 2)), cls .f32 (f (i * 4 + 3))) : SC)).getD i s0 = (fi (i * 4), fi (i * 4 + 1), cls .f32 (f (i * 4 + 2)), cls .f32 (f (i * 4 + 3))) := by
      intro i hi
      simp [List.getD, hi]
    refine ⟨some a, len, cap, (List.range len).map fun i => (fi (i * 4), fi (i * 4 + 1), cls .f32 (f (i * 4 + 2)), cls .f32 (f (i * 4 + 3))), hcs, by simp, hl, hm, ?_, (fun h => by cases h), fun y hy' i hi => ?_⟩
    · intro s hs'
      obtain ⟨i, hi, rfl⟩ := List.mem_map.1 hs'
      obtain ⟨u, v, p, q, k0, k1, k2, k3, w0, w1, w2, w3⟩ := each i (List.mem_range.1 hi)
      simp [fi, k0, k1, w0, w1]
    cases hy'
    obtain ⟨u, v, p, q, k0, k1, k2, k3, w0, w1, w2, w3⟩ := each i hi
    rw [hg i hi]
    have g0 : fi (i * 4) = u := by simp [fi, k0]
    have g1 : fi (i * 4 + 1) = v := by simp [fi, k1]
    have g2 : f (i * 4 + 2) = p := by simp [f, k2]
    have g3 : f (i * 4 + 3) = q := by simp [f, k3]
    rw [g0, g1, g2, g3]
    exact ⟨p, q, k0, k1, k2, k3, FV.self w2, FV.self w3⟩
theorem array9 {α : Type} {cs : Array α} (h : cs.size = 9) : ∃ c0 c1 c2 c3 c4 c5 c6 c7 c8, cs = #[c0, c1, c2, c3, c4, c5, c6, c7, c8] := by
  obtain ⟨l⟩ := cs
  match l, h with
  | [c0, c1, c2, c3, c4, c5, c6, c7, c8], _ => exact ⟨c0, c1, c2, c3, c4, c5, c6, c7, c8, rfl⟩
theorem trod_struct6 {t : TypeId} {f0 f1 f2 f3 f4 f5 : Field} {spare : Nat → Bool} {fuel : Nat} {cs : List Value} {x : DataW H × List MemPlace} (ht : P.underlying t = some (.struct #[f0, f1, f2, f3, f4, f5])) (h : DataW.trod enc P w base spare held fuel t cs = some x) :
    ∃ y0 y1 y2 y3 y4 y5 n, DataW.trod enc P w base spare held n f0.type ((cs.drop f0.offset).take (P.cellsOf f0.type)) = some y0 ∧
      DataW.trod enc P w base spare held n f1.type ((cs.drop f1.offset).take (P.cellsOf f1.type)) = some y1 ∧ DataW.trod enc P w base spare held n f2.type ((cs.drop f2.offset).take (P.cellsOf f2.type)) = some y2 ∧
      DataW.trod enc P w base spare held n f3.type ((cs.drop f3.offset).take (P.cellsOf f3.type)) = some y3 ∧ DataW.trod enc P w base spare held n f4.type ((cs.drop f4.offset).take (P.cellsOf f4.type)) = some y4 ∧ DataW.trod enc P w base spare held n f5.type ((cs.drop f5.offset).take (P.cellsOf f5.type)) = some y5 := by
  obtain ⟨xs, n, _, rfl, hl, hlen, hf⟩ := DataW.trod_struct ht h
  match xs, hlen with
  | [y0, y1, y2, y3, y4, y5], _ => exact ⟨y0, y1, y2, y3, y4, y5, n, by simpa using hf 0 f0 rfl, by simpa using hf 1 f1 rfl, by simpa using hf 2 f2 rfl, by simpa using hf 3 f3 rfl, by simpa using hf 4 f4 rfl, by simpa using hf 5 f5 rfl⟩
theorem trod_floats {t e : TypeId} {fuel : Nat} {cs : List Value} {x : DataW H × List MemPlace} (ht : P.underlying t = some (.slice e)) (he : P.underlying e = some (.float .f32)) (hc : P.cellsOf e = 1)
    (h : DataW.trod enc P w base (fun _ => true) held fuel t cs = some x) : ∃ a len cap zs, cs = [.slice a len cap] ∧ IsFs .f32 w a len cap zs := by
  obtain ⟨a, len, cap, rfl⟩ := Joins.slice_form ht h
  obtain ⟨zs, hz⟩ := open_floats ht he hc ⟨fuel, h⟩
  exact ⟨a, len, cap, zs, rfl, hz⟩
/-- A body that came in. -/
theorem open_body {r : Reach} {b0 : Nat} {t : TypeId} {g0 g1 g2 g3 g4 g5 : Field} {m0 m1 : Field} {ev eq : TypeId} {f0 f1 f2 : Field} {er : TypeId} {es : TypeId} {q0 q1 q2 q3 : Field} {ew : TypeId} {v0 v1 v2 : Field} {v : Value} {d : DataW H} {p : List MemPlace}
    (hs : P.underlying t = some (.struct #[g0, g1, g2, g3, g4, g5])) (hoff : [g0.offset, g1.offset, g2.offset, g3.offset, g4.offset, g5.offset] = [0, 2, 3, 4, 5, 6]) (hcl : [P.cellsOf g0.type, P.cellsOf g1.type, P.cellsOf g2.type, P.cellsOf g3.type, P.cellsOf g4.type, P.cellsOf g5.type] = [2, 1, 1, 1, 1, 3]) (hC : P.cellsOf t = 9)
    (hm : P.underlying g0.type = some (.struct #[m0, m1])) (honem : oneCellFields P #[m0, m1] = true)
    (hp : P.underlying m0.type = some (.slice ev)) (hev : P.underlying ev = some (.struct #[f0, f1, f2])) (honev : oneCellFields P #[f0, f1, f2] = true) (hCv : P.cellsOf ev = 3)
    (he0 : P.underlying f0.type = some (.float .f32)) (he1 : P.underlying f1.type = some (.float .f32)) (he2 : P.underlying f2.type = some (.float .f32))
    (ht : P.underlying m1.type = some (.slice er)) (her : P.underlying er = some (.slice eq)) (heq : P.underlying eq = some (.int .i64)) (ce : P.cellsOf er = 1) (cq : P.cellsOf eq = 1)
    (hsp : P.underlying g1.type = some (.slice es)) (hes : P.underlying es = some (.struct #[q0, q1, q2, q3])) (hones : oneCellFields P #[q0, q1, q2, q3] = true) (hCs : P.cellsOf es = 4)
    (hq0 : P.underlying q0.type = some (.int .i64)) (hq1 : P.underlying q1.type = some (.int .i64)) (hq2 : P.underlying q2.type = some (.float .f32)) (hq3 : P.underlying q3.type = some (.float .f32))
    (hf : P.underlying g2.type = some (.float .f32)) (hb : P.underlying g3.type = some (.float .f32))
    (hw : P.underlying g4.type = some (.slice ew)) (hew : P.underlying ew = some (.float .f32)) (cw : P.cellsOf ew = 1)
    (hv5 : P.underlying g5.type = some (.struct #[v0, v1, v2])) (honev5 : oneCellFields P #[v0, v1, v2] = true)
    (hv0 : P.underlying v0.type = some (.float .f32)) (hv1 : P.underlying v1.type = some (.float .f32)) (hv2 : P.underlying v2.type = some (.float .f32))
    (hv : Value.okWide P w r b0 t v) (h : DataW.Trod enc P w base (fun _ => true) held t v d p) :
    ∃ pa ta sa wa pl pc tl tc sl sc wl wc cs ts ss zs film bend x y z, v = .agg #[.slice pa pl pc, .slice ta tl tc, .slice sa sl sc, .float .f32 film, .float .f32 bend, .slice wa wl wc, .float .f32 x, .float .f32 y, .float .f32 z] ∧
      IsVs w pa pl pc cs ∧ IsTs w ta tl tc ts ∧ IsSs w sa sl sc ss ∧ IsFs .f32 w wa wl wc zs ∧ (film < 2 ^ FloatKind.f32.format.width ∧ bend < 2 ^ FloatKind.f32.format.width ∧ x < 2 ^ FloatKind.f32.format.width ∧ y < 2 ^ FloatKind.f32.format.width ∧ z < 2 ^ FloatKind.f32.format.width) := by
  obtain ⟨cs, rfl, hsz⟩ := okWide_struct hs hv
  obtain ⟨c0, c1, c2, c3, c4, c5, c6, c7, c8, rfl⟩ := array9 (hsz.trans hC)
  obtain ⟨fuel, hfu⟩ := h
  obtain ⟨y0, y1, y2, y3, y4, y5, n, h0, h1, h2, h3, h4, h5⟩ := trod_struct6 hs hfu
  simp only [List.cons.injEq, and_true] at hoff hcl
  obtain ⟨o0, o1, o2, o3, o4, o5⟩ := hoff
  obtain ⟨l0, l1, l2, l3, l4, l5⟩ := hcl
  rw [o0, l0] at h0
  rw [o1, l1] at h1
  rw [o2, l2] at h2
  rw [o3, l3] at h3
  rw [o4, l4] at h4
  rw [o5, l5] at h5
  simp [Value.cells] at h0 h1 h2 h3 h4 h5
  obtain ⟨u0, u1, n1, _, _, i0, i1⟩ := trod_struct2 hm h0
  obtain ⟨a0, b0'⟩ := hone_of honem 0 m0 rfl
  obtain ⟨a1, b1'⟩ := hone_of honem 1 m1 rfl
  rw [a0, b0'] at i0
  rw [a1, b1'] at i1
  simp at i0 i1
  obtain ⟨pa, pl, pc, cs, e0, w0⟩ := trod_vecs hp hev honev hCv he0 he1 he2 i0
  obtain ⟨ta, tl, tc, ts, e1, w1⟩ := trod_rows ht her heq ce cq i1
  obtain ⟨sa, sl, sc, ss, e2, w2⟩ := trod_springs hsp hes hones hCs hq0 hq1 hq2 hq3 h1
  obtain ⟨film, e3, w3⟩ := trod_float hf h2
  obtain ⟨bend, e4, w4⟩ := trod_float hb h3
  obtain ⟨wa, wl, wc, zs, e5, w5⟩ := trod_floats hw hew cw h4
  obtain ⟨k0, k1, k2, n2, _, _, j0, j1, j2⟩ := trod_struct3 hv5 h5
  obtain ⟨p0, r0⟩ := hone_of honev5 0 v0 rfl
  obtain ⟨p1, r1⟩ := hone_of honev5 1 v1 rfl
  obtain ⟨p2, r2⟩ := hone_of honev5 2 v2 rfl
  rw [p0, r0] at j0
  rw [p1, r1] at j1
  rw [p2, r2] at j2
  simp at j0 j1 j2
  obtain ⟨x, e6, w6⟩ := trod_float hv0 j0
  obtain ⟨y, e7, w7⟩ := trod_float hv1 j1
  obtain ⟨z, e8, w8⟩ := trod_float hv2 j2
  cases e0; cases e1; cases e2; cases e3; cases e4; cases e5; cases e6; cases e7; cases e8
  exact ⟨pa, ta, sa, wa, pl, pc, tl, tc, sl, sc, wl, wc, cs, ts, ss, zs, film, bend, x, y, z, rfl, w0, w1, w2, w5, w3, w4, w6, w7, w8⟩
end
end Fk
end Go.Proofs.Ytockhhfehjoldab


/-
Meshes are the same as their copies: what the law's own functions return. Conditions: at most 2^20 of each.
-/
namespace Go.Proofs.Ytockhhfehjoldab
open Go Fk Go.RowKit
set_option linter.unusedVariables false
set_option maxRecDepth 8000

theorem _root_.Go.Proofs.Ytockhhfehjoldab.Fk.IsIs.drewE {w w1 : World} {n : Nat} {a : Option Addr} {len cap : Nat} {zs : List Int} (h : IsIs w a len cap zs) (hw : w1 = w.drewN n) : IsIs w1 a len cap zs := by subst hw; exact h
theorem drewn_end {w w1 : World} {n m : Nat} (h : w1 = w.drewN n) : ∃ k, w1.drewN m = w.drewN k := ⟨n + m, by rw [h, World.drewN_drewN]⟩
set_option maxHeartbeats 1000000 in
theorem laws_eqInt64S (a b : Option Addr) (len cap cap' : Nat) (zs : List Int) (w : World) (ha : IsIs w a len cap zs) (hb : IsIs w b len cap' zs) :
    Calls Try.prog 19 #[.slice a len cap, .slice b len cap'] w fun e w' => e = .returned (.bool true) ∧ ∃ n, w' = w.drewN n := by
  have hm : len ≤ 9223372036854775807 := by have h1 := ha.2.1; have h2 := ha.2.2.1; unfold maxLen at h2; omega
  have hzl := ha.1
  go_enter Try.func19, Try.ntmps19
  go_wp2
  go_loopw [5] (fun i w' => ∃ k : Nat, k ≤ len ∧ i = .int .i64 k ∧ ∃ n, w' = w.drewN n) (fun i _ => len - (intOf i).toNat)
  case atStart => exact ⟨0, Nat.zero_le _, rfl, 0, rfl⟩
  case round =>
    obtain ⟨k, hk, rfl, n, hw⟩ := hrel
    by_cases hlt : k < len
    · obtain ⟨b1, o1, rfl, hcell1⟩ := (ha.drewE hw).some (by omega)
      obtain ⟨b2, o2, rfl, hcell2⟩ := (hb.drewE hw).some (by omega)
      have c1 := hcell1 k hlt
      have c2 := hcell2 k hlt
      generalize zs.getD k 0 = z at *
      have HW := Lib.hid hw
      clear hcell1 hcell2 hzl ha hb hw
      have hk0 : (0 : Int) ≤ (k : Int) := by omega
      have hk1 : (k : Int) < (len : Int) := by omega
      go_wp2_with fail
      go_quiet (fail)
      go_wp2
      go_roundw
      case rel => exact ⟨k + 1, by omega, by go_num, drewn_end HW.out⟩
      case measure => simp [intOf]; omega
    · have HW := Lib.hid hw
      clear hw
      go_wp2
      go_ret
      exact ⟨rfl, n, HW.out⟩
theorem _root_.Go.Proofs.Ytockhhfehjoldab.Fk.IsTs.drew {w w1 : World} {n : Nat} {a : Option Addr} {len cap : Nat} {ts : List (List Int)} (h : IsTs w a len cap ts) (hw : w1 = w.drewN n) : IsTs w1 a len cap ts := by subst hw; exact h
theorem _root_.Go.Proofs.Ytockhhfehjoldab.Fk.IsIs.drew {w : World} {n : Nat} {a : Option Addr} {len cap : Nat} {zs : List Int} (h : IsIs w a len cap zs) : IsIs (w.drewN n) a len cap zs := h
theorem _root_.Go.Proofs.Ytockhhfehjoldab.Fk.IsVs.drew {w w1 : World} {n : Nat} {a : Option Addr} {len cap : Nat} {cs : List C3} (h : IsVs w a len cap cs) (hw : w1 = w.drewN n) : IsVs w1 a len cap cs := by subst hw; exact h
set_option maxHeartbeats 1000000 in
theorem laws_eqInt64SS (a b : Option Addr) (len cap cap' : Nat) (ts : List (List Int)) (w : World) (ha : IsTs w a len cap ts) (hb : IsTs w b len cap' ts) :
    Calls Try.prog 12 #[.slice a len cap, .slice b len cap'] w fun e w' => e = .returned (.bool true) ∧ ∃ n, w' = w.drewN n := by
  have hm : len ≤ 9223372036854775807 := by have h1 := ha.2.1; have h2 := ha.2.2.1; unfold maxLen at h2; omega
  have hzl := ha.1
  go_enter Try.func12, Try.ntmps12
  go_wp2
  go_loopw [5] (fun i w' => ∃ k : Nat, k ≤ len ∧ i = .int .i64 k ∧ ∃ n, w' = w.drewN n) (fun i _ => len - (intOf i).toNat)
  case atStart => exact ⟨0, Nat.zero_le _, rfl, 0, rfl⟩
  case round =>
    obtain ⟨k, hk, rfl, n, hw⟩ := hrel
    by_cases hlt : k < len
    · obtain ⟨b1, o1, rfl, hcell1⟩ := (ha.drew hw).some (by omega)
      obtain ⟨b2, o2, rfl, hcell2⟩ := (hb.drew hw).some (by omega)
      obtain ⟨r1, n1, q1, c1, i1⟩ := hcell1 k hlt
      obtain ⟨r2, n2, q2, c2, i2⟩ := hcell2 k hlt
      have hn : n2 = n1 := i2.1.symm.trans i1.1
      subst hn
      generalize ts.getD k [] = z at *
      have HW := Lib.hid hw
      have I1 := Lib.hid i1
      have I2 := Lib.hid i2
      clear hcell1 hcell2 hzl ha hb hw i1 i2
      have hk0 : (0 : Int) ≤ (k : Int) := by omega
      have hk1 : (k : Int) < (len : Int) := by omega
      go_wp2_with fail
      go_quiet ((go_at_call 19; exact Calls.quiet_of (laws_eqInt64S _ _ _ _ _ _ _ I1.out.drew I2.out.drew)))
      go_wp2
      go_roundw
      case rel => exact ⟨k + 1, by omega, by go_num, drewn_end HW.out⟩
      case measure => simp [intOf]; omega
    · have HW := Lib.hid hw
      clear hw
      go_wp2
      go_ret
      exact ⟨rfl, n, HW.out⟩
set_option maxHeartbeats 1000000 in
theorem laws_eqVectorS (a b : Option Addr) (len cap cap' : Nat) (cs : List C3) (w : World) (ha : IsVs w a len cap cs) (hb : IsVs w b len cap' cs) :
    Calls Try.prog 72 #[.slice a len cap, .slice b len cap'] w fun e w' => e = .returned (.bool true) ∧ Below w.heap.size w w' := by
  have hm : len ≤ 9223372036854775807 := by have h1 := ha.2.1; have h2 := ha.2.2.1; unfold maxLen at h2; omega
  have uv := Try.underlying46
  have hzl := ha.1
  go_enter Try.func72, Try.ntmps72
  go_wp2
  go_loopw [5] (fun i w' => ∃ k : Nat, k ≤ len ∧ i = .int .i64 k ∧ Below w.heap.size w w') (fun i _ => len - (intOf i).toNat)
  case atStart => exact ⟨0, Nat.zero_le _, rfl, Below.refl _ _⟩
  case round =>
    obtain ⟨k, hk, rfl, hB⟩ := hrel
    by_cases hlt : k < len
    · obtain ⟨b1, o1, rfl, hcell1⟩ := (ha.below hB).some (by omega)
      obtain ⟨b2, o2, rfl, hcell2⟩ := (hb.below hB).some (by omega)
      obtain ⟨p1, q1, r1, c11, c12, c13, f11, f12, f13⟩ := hcell1 k hlt
      obtain ⟨p2, q2, r2, c21, c22, c23, f21, f22, f23⟩ := hcell2 k hlt
      generalize cs.getD k c0 = z at *
      have HB := Lib.hid hB
      clear hcell1 hcell2 hzl ha hb hB
      have hk0 : (0 : Int) ≤ (k : Int) := by omega
      have hk1 : (k : Int) < (len : Int) := by omega
      go_wp2_with fail
      refine Reg.wp_region_mix (C := fun w' => (w'.cell? ⟨b1, o1 + k * 3, none⟩ = some (.float .f32 p1) ∧ w'.cell? ⟨b1, o1 + k * 3 + 1, none⟩ = some (.float .f32 q1) ∧ w'.cell? ⟨b1, o1 + k * 3 + 2, none⟩ = some (.float .f32 r1) ∧ w'.cell? ⟨b2, o2 + k * 3, none⟩ = some (.float .f32 p2) ∧ w'.cell? ⟨b2, o2 + k * 3 + 1, none⟩ = some (.float .f32 q2) ∧ w'.cell? ⟨b2, o2 + k * 3 + 2, none⟩ = some (.float .f32 r2)) ∧ Below wr.heap.size wr w') (G := fun _ _ => True) (R := fun i v _ => match i with | 0 => v = .slice (some ⟨b1, o1, none⟩) len cap | 1 => v = .int .i64 k | 2 => v = .pointer (some ⟨b1, o1 + k * 3, none⟩) | 3 => v = vv p1 q1 r1 | 4 => v = .slice (some ⟨b2, o2, none⟩) len cap' | 5 => v = .int .i64 k | 6 => v = .pointer (some ⟨b2, o2 + k * 3, none⟩) | 7 => v = vv p2 q2 r2 | 8 => v = .bool true | 9 => v = .bool false | _ => True) (T := fun _ _ _ => True) [false, false, false, false, false, false, false, false, false, false, false, false, false, false, false, false, false, true, true, true, true, true, true, true, true, true, true]
        (by kernel_rfl) (by kernel_rfl) (by kernel_rfl) (fun _ _ _ _ _ _ h => h) ⟨⟨c11, c12, c13, c21, c22, c23⟩, below_drewN (Below.refl _ _) 1⟩ ?_ ?_
      · refine ⟨Reg.Obl.mk ?_, Reg.Obl.mk ?_, Reg.Obl.mk ?_, Reg.Obl.mk ?_, Reg.Obl.mk ?_, Reg.Obl.mk ?_, Reg.Obl.mk ?_, Reg.Obl.mk ?_, Reg.Obl.mk ?_, Reg.Obl.mk ?_, trivial⟩
        · rintro a w1 ⟨⟨d11, d12, d13, d21, d22, d23⟩, hB⟩ hx hd K hK
          have t0 : a.tmps[0]?.getD undef = .slice (some ⟨b1, o1, none⟩) len cap := Reg.slot_val (hx 0 (by kernel_rfl))
          go_simp
          exact hK _ _ (fun _ => rfl) (fun h => by cases h) ⟨⟨d11, d12, d13, d21, d22, d23⟩, hB⟩ trivial
        · rintro a w1 ⟨⟨d11, d12, d13, d21, d22, d23⟩, hB⟩ hx hd K hK
          have t5 : a.tmps[5]?.getD undef = .int .i64 k := Reg.slot_val (hx 5 (by kernel_rfl))
          go_simp
          exact hK _ _ (fun _ => rfl) (fun h => by cases h) ⟨⟨d11, d12, d13, d21, d22, d23⟩, hB⟩ trivial
        · rintro a w1 ⟨⟨d11, d12, d13, d21, d22, d23⟩, hB⟩ hx hd K hK
          have t17 : a.tmps[17]?.getD undef = .slice (some ⟨b1, o1, none⟩) len cap := Reg.slot_val (hd 0 (by kernel_rfl) 17 rfl)
          have t18 : a.tmps[18]?.getD undef = .int .i64 k := Reg.slot_val (hd 1 (by kernel_rfl) 18 rfl)
          go_simp
          exact hK _ _ (fun _ => rfl) (fun h => by cases h) ⟨⟨d11, d12, d13, d21, d22, d23⟩, hB⟩ trivial
        · rintro a w1 ⟨⟨d11, d12, d13, d21, d22, d23⟩, hB⟩ hx hd K hK
          have t19 : a.tmps[19]?.getD undef = .pointer (some ⟨b1, o1 + k * 3, none⟩) := Reg.slot_val (hd 2 (by kernel_rfl) 19 rfl)
          go_simp
          exact hK _ _ (fun _ => rfl) (fun h => by cases h) ⟨⟨d11, d12, d13, d21, d22, d23⟩, hB⟩ trivial
        · rintro a w1 ⟨⟨d11, d12, d13, d21, d22, d23⟩, hB⟩ hx hd K hK
          have t1 : a.tmps[1]?.getD undef = .slice (some ⟨b2, o2, none⟩) len cap' := Reg.slot_val (hx 1 (by kernel_rfl))
          go_simp
          exact hK _ _ (fun _ => rfl) (fun h => by cases h) ⟨⟨d11, d12, d13, d21, d22, d23⟩, hB⟩ trivial
        · rintro a w1 ⟨⟨d11, d12, d13, d21, d22, d23⟩, hB⟩ hx hd K hK
          have t5 : a.tmps[5]?.getD undef = .int .i64 k := Reg.slot_val (hx 5 (by kernel_rfl))
          go_simp
          exact hK _ _ (fun _ => rfl) (fun h => by cases h) ⟨⟨d11, d12, d13, d21, d22, d23⟩, hB⟩ trivial
        · rintro a w1 ⟨⟨d11, d12, d13, d21, d22, d23⟩, hB⟩ hx hd K hK
          have t21 : a.tmps[21]?.getD undef = .slice (some ⟨b2, o2, none⟩) len cap' := Reg.slot_val (hd 4 (by kernel_rfl) 21 rfl)
          have t22 : a.tmps[22]?.getD undef = .int .i64 k := Reg.slot_val (hd 5 (by kernel_rfl) 22 rfl)
          go_simp
          exact hK _ _ (fun _ => rfl) (fun h => by cases h) ⟨⟨d11, d12, d13, d21, d22, d23⟩, hB⟩ trivial
        · rintro a w1 ⟨⟨d11, d12, d13, d21, d22, d23⟩, hB⟩ hx hd K hK
          have t23 : a.tmps[23]?.getD undef = .pointer (some ⟨b2, o2 + k * 3, none⟩) := Reg.slot_val (hd 6 (by kernel_rfl) 23 rfl)
          go_simp
          exact hK _ _ (fun _ => rfl) (fun h => by cases h) ⟨⟨d11, d12, d13, d21, d22, d23⟩, hB⟩ trivial
        · rintro a w1 ⟨⟨d11, d12, d13, d21, d22, d23⟩, hB⟩ hx hd K hK
          have t20 : a.tmps[20]?.getD undef = vv p1 q1 r1 := Reg.slot_val (hd 3 (by kernel_rfl) 20 rfl)
          have t24 : a.tmps[24]?.getD undef = vv p2 q2 r2 := Reg.slot_val (hd 7 (by kernel_rfl) 24 rfl)
          go_simp
          refine (laws_eqVector _ _ _ _ _ _ _ _ _ _ f11 f12 f13 f21 f22 f23).mono ?_
          rintro en w2 ⟨rfl, hB2⟩
          exact hK _ _ (fun _ => rfl) (fun h => by cases h) ⟨⟨cell_below hB2 d11, cell_below hB2 d12, cell_below hB2 d13, cell_below hB2 d21, cell_below hB2 d22, cell_below hB2 d23⟩, hB.trans (hB2.mono hB.size)⟩ trivial
        · rintro a w1 ⟨⟨d11, d12, d13, d21, d22, d23⟩, hB⟩ hx hd K hK
          have t25 : a.tmps[25]?.getD undef = .bool true := Reg.slot_val (hd 8 (by kernel_rfl) 25 rfl)
          go_simp
          exact hK _ _ (fun _ => rfl) (fun h => by cases h) ⟨⟨d11, d12, d13, d21, d22, d23⟩, hB⟩ trivial
      · rintro f w1 ⟨_, hB⟩ hd hT
        have g26 : f 26 = .bool false := hd 9 26 rfl
        simp only [Reg.mixL, g26]
        have HB1 := Lib.hid hB
        clear hB
        go_wp2
        go_roundw
        case rel => exact ⟨k + 1, by omega, by go_num, HB.out.trans (HB1.out.mono HB.out.size)⟩
        case measure => simp [intOf]; omega
    · have HB := Lib.hid hB
      clear hB
      go_wp2
      go_ret
      exact ⟨rfl, HB.out⟩
end Go.Proofs.Ytockhhfehjoldab

/-
Texts in one: what HingesOf stands on, part 4. Conditions: those of each.
-/
import Derived.Test.YtockhhfehjoldabKHingesOf3
import Derived.WalkKit

/-
Rows of two numbers: what the program divides a list into. Conditions: a list of whole rows at the head of a block.
-/
namespace Go.Proofs.Ytockhhfehjoldab
open Go Fk Go.RowKit
set_option linter.unusedVariables false
set_option maxRecDepth 8000

def rowVs2 (fb : Nat) (k : Nat) : List Value := (List.range k).map fun j => Value.slice (some ⟨fb, j * 2, none⟩) 2 2
theorem rowVs2_snoc (fb k : Nat) : rowVs2 fb (k + 1) = rowVs2 fb k ++ [Value.slice (some ⟨fb, k * 2, none⟩) 2 2] := by
  unfold rowVs2; rw [List.range_succ, List.map_append]; rfl
set_option maxHeartbeats 1000000 in
theorem rows_of2 (fb n fc : Nat) (w : World) (hn : n ≤ 1000000) (hc : n * 2 ≤ fc) :
    Calls Try.prog 71 #[.slice (some ⟨fb, 0, none⟩) (n * 2) fc, .int .i64 2] w fun e w' => ∃ v, e = .returned v ∧ w'.ownsRow w.heap.size 39 1 v n (rowVs2 fb n) ∧ Below w.heap.size w w' := by
  obtain ⟨i0, hi, hz0, hz1, hz2⟩ := info_parts infoS
  have hq' : ((n : Int) * 2).tdiv 2 = n := Int.mul_tdiv_cancel _ (by decide)
  have hq : ((n * 2 : Nat) : Int).tdiv 2 = n := by rw [Int.natCast_mul]; exact hq'
  have hmk : (Instr.makeSlice 22 (.int .i64 0) (.int .i64 n)).run Try.prog w = .ok (.slice (some ⟨w.heap.size, 0, none⟩) 0 n) (w.alloc (.cells (madeCells #[.slice none 0 0] n) 39)) := by
    have := run_make (P := Try.prog) w 22 39 i0 (.slice none 0 0) Try.underlying22 hi hz0 .i64 .i64 0 n (by omega) (by omega) (by rw [hz2]; omega) (by omega)
    rw [this, hz1]; simp; rfl
  have hst : (w.alloc (.cells (madeCells #[.slice none 0 0] n) 39)).ownsRow w.heap.size 39 1 (.slice (some ⟨w.heap.size, 0, none⟩) 0 n) 0 [] :=
    World.ownsRow_made (e := 39) (size := 1) w _ n (Nat.le_refl _) (by unfold maxLen; omega) (by unfold madeCells; simp)
  have HST := Lib.hid hst
  have HB0 := Lib.hid ((Below.refl w.heap.size w).alloc (Nat.le_refl _) (.cells (madeCells #[.slice none 0 0] n) 39))
  clear hst
  go_enter Try.func71, Try.ntmps71
  go_wp2
  generalize hCH : w.alloc (.cells (madeCells #[.slice none 0 0] n) 39) = W at *
  go_loopw [5, 6] (fun v i w' => ∃ k : Nat, k ≤ n ∧ i = .int .i64 ((k * 2 : Nat) : Int) ∧ Aside (w'.ownsRow w.heap.size 39 1 v k (rowVs2 fb k) ∧ Below w.heap.size w w')) (fun _ i _ => n * 2 - (intOf i).toNat)
  case atStart => exact ⟨0, Nat.zero_le _, rfl, HST.out, HB0.out⟩
  case round =>
    obtain ⟨k, hk, hik, hA⟩ := hrel
    subst hik
    obtain ⟨hown, hB⟩ := hA.out
    have HB := Lib.hid hB
    have HOWN := Lib.hid hown
    have hbz := Lib.hid hB.size
    clear hmk HST hq hq'
    by_cases hlt : k < n
    · have hk0 : (0 : Int) ≤ (k : Int) := by omega
      have hk1 : (k : Int) * 2 < (n : Int) * 2 := by omega
      clear hA hB hown
      go_wp2_with (at_builtin; refine wpList_append_own _ rfl _ _ 22 rfl w.heap.size 39 i0 (.slice none 0 0) 1 24 Try.underlying22 hi hz0 hz1 hz2 rfl (by decide) _ _ _ rfl (HOWN.out.alloc _) ⟨wr.heap.size, 0, none⟩ 1 1 [.slice (some ⟨fb, k * 2, none⟩) 2 2] rfl rfl ?c1 ?c2 ?c3 ?c4 ?c5 ?_)
      case c1 =>
        intro j u hj
        match j, hj with
        | 0, hj => simp at hj; subst hj; simp [Addr.add]
      case c2 => intro u hu; simp at hu; subst hu; rfl
      case c3 => unfold maxLen; omega
      case c4 => omega
      case c5 => have := hbz.out; simp; omega
      · intro v' w1 hown' hgrow _
        have hB1 : Below w.heap.size w (wr.alloc (.cells #[.slice (some ⟨fb, k * 2, none⟩) 2 2] 39)) := HB.out.alloc hbz.out _
        have HB1 := Lib.hid (hB1.grown hgrow hB1.size (fun k hk => (HOWN.out.lt k hk).1))
        have HO1 := Lib.hid hown'
        clear hown' hgrow hB1
        go_wp2
        go_roundw
        case rel => exact ⟨k + 1, by omega, by go_num, by rw [rowVs2_snoc]; exact HO1.out, HB1.out⟩
        case measure => simp [intOf]; omega
    · obtain rfl : k = n := by omega
      clear hA hB hown
      go_wp2
      go_ret
      exact ⟨_, rfl, HOWN.out, HB.out⟩
end Go.Proofs.Ytockhhfehjoldab


/-
Marks in rows that lie beside one another in one block. Conditions: none.
-/
namespace Go.Proofs.Ytockhhfehjoldab
open Go Fk Go.RowKit
set_option linter.unusedVariables false
set_option maxRecDepth 8000
/-- The block R has n rows, which lie beside one another in the block F. -/
def FlatRows (w : World) (R F n : Nat) : Prop := ∀ j, j < n → ∃ c, w.cell? ⟨R, j, none⟩ = some (.slice (some ⟨F, j * 3, none⟩) 3 c)
theorem FlatRows.same {w w' : World} {R F n : Nat} (h : FlatRows w R F n) (hs : ∀ i v, w.cell? ⟨R, i, none⟩ = some v → w'.cell? ⟨R, i, none⟩ = some v) : FlatRows w' R F n := fun j hj => by
  obtain ⟨c, hc⟩ := h j hj
  exact ⟨c, hs _ _ hc⟩
theorem own_part {lo hi : Nat} {w : World} {b o n p m : Nat} (h : Own lo hi w b o n) (hp : p + m ≤ n) : Own lo hi w b (o + p) m :=
  ⟨h.1, h.2.1, h.2.2.1, fun j hj => by have := h.2.2.2 (p + j) (by omega); rwa [← Nat.add_assoc] at this⟩
set_option maxHeartbeats 400000 in
theorem mark_flat (lo hi R F n cap : Nat) (k0 : Nat) (w : World) (hr : FlatRows w R F n) (ho : Own lo hi w F 0 (n * 3)) (hne : R ≠ F) (hl : n ≤ 1048576) (hk : k0 ≤ 1000000000000000000) :
    Calls Try.prog 13 #[.slice (some ⟨R, 0, none⟩) n cap, .int .i64 k0] w fun e w' => e = .returned (.int .i64 ((k0 + n * 3 : Nat) : Int)) ∧ (∀ j, j < n * 3 → w'.cell? ⟨F, j, none⟩ = some (.int .i64 ((k0 + j : Nat) : Int))) ∧ (∀ b i, b ≠ F → w'.cell? ⟨b, i, none⟩ = w.cell? ⟨b, i, none⟩) ∧ Mark lo hi w w' := by
  have H := Lib.hid hr
  have HO := Lib.hid ho
  have HNE := Lib.hid hne
  clear hr ho hne
  go_enter Try.func13, Try.ntmps13
  go_wp2
  go_loopw [1, 5] (fun q i w' => ∃ k : Nat, k ≤ n ∧ i = .int .i64 k ∧ q = .int .i64 ((k0 + k * 3 : Nat) : Int) ∧ Aside ((∀ j, j < k * 3 → w'.cell? ⟨F, j, none⟩ = some (.int .i64 ((k0 + j : Nat) : Int))) ∧ (∀ b i, b ≠ F → w'.cell? ⟨b, i, none⟩ = w.cell? ⟨b, i, none⟩) ∧ Mark lo hi w w')) (fun _ i _ => n - (intOf i).toNat)
  case atStart => exact ⟨0, Nat.zero_le _, rfl, by simp, fun j hj => absurd hj (by omega), fun _ _ _ => rfl, Mark.refl _ _ _⟩
  case round =>
    obtain ⟨k, hkl, rfl, rfl, hA⟩ := hrel
    by_cases hlt : k < n
    · obtain ⟨hdone, hsame, hM⟩ := hA.out
      obtain ⟨c, hc⟩ := H.out k hlt
      have hc' : wr.cell? ⟨R, k, none⟩ = some (.slice (some ⟨F, k * 3, none⟩) 3 c) := (hsame _ _ HNE.out).trans hc
      have hown : Own lo hi wr F (k * 3) 3 := by have := own_part (p := k * 3) (m := 3) (HO.out.mark hM) (by omega); rwa [Nat.zero_add] at this
      have HS := Lib.hid hsame
      have HM := Lib.hid hM
      have HW := Lib.hid hown
      have HD := Lib.hid hdone
      have hk0 : (0 : Int) ≤ (k : Int) := by omega
      have hk1 : (k : Int) < (n : Int) := by omega
      clear hA hsame hM hc hown hdone
      go_wp2_with fail
      refine (laws_markInt64S lo hi F (k * 3) 3 c (k0 + k * 3) wr HW.out (by omega)).mono ?_
      rintro e w1 ⟨rfl, hd, ho, hM1⟩
      have HO1 := Lib.hid ho
      have HD1 := Lib.hid hd
      have HM1 := Lib.hid hM1
      clear hd ho hM1
      go_wp2
      go_roundw
      case rel =>
        refine ⟨k + 1, by omega, by go_num, by congr 1 <;> omega, fun j hj => ?_, fun b i hb => (HO1.out b i (.inl hb)).trans (HS.out b i hb), HM.out.trans HM1.out⟩
        by_cases hj3 : j < k * 3
        · rw [HO1.out F j (.inr (.inl hj3))]; exact HD.out j hj3
        · have := HD1.out (j - k * 3) (by omega)
          rw [show k * 3 + (j - k * 3) = j by omega, show k0 + k * 3 + (j - k * 3) = k0 + j by omega] at this
          exact this
      case measure => simp [intOf]; omega
    · obtain rfl : k = n := by omega
      have HA := Lib.hid hA.out
      clear hA
      go_wp2
      go_ret
      exact ⟨rfl, HA.out.1, HA.out.2.1, HA.out.2.2⟩
theorem held_flat (R F n cap : Nat) (k0 : Nat) (w : World) (hr : FlatRows w R F n) (ho : ∀ j, j < n * 3 → w.cell? ⟨F, j, none⟩ = some (.int .i64 ((k0 + j : Nat) : Int))) (hl : n ≤ 1048576) (hk : k0 ≤ 1000000000000000000) :
    Calls Try.prog 14 #[.slice (some ⟨R, 0, none⟩) n cap, .int .i64 k0] w fun e w' => e = .returned (.int .i64 ((k0 + n * 3 : Nat) : Int)) ∧ w' = w := by
  have H := Lib.hid hr
  have HO := Lib.hid ho
  clear hr ho
  go_enter Try.func14, Try.ntmps14
  go_wp2
  go_loopw [1, 5] (fun q i w' => ∃ k : Nat, k ≤ n ∧ i = .int .i64 k ∧ q = .int .i64 ((k0 + k * 3 : Nat) : Int) ∧ w' = w) (fun _ i _ => n - (intOf i).toNat)
  case atStart => exact ⟨0, Nat.zero_le _, rfl, by simp, rfl⟩
  case round =>
    obtain ⟨k, hkl, rfl, rfl, hw⟩ := hrel
    by_cases hlt : k < n
    · obtain ⟨c, hc⟩ := H.out k hlt
      have hc' : wr.cell? ⟨R, k, none⟩ = some (.slice (some ⟨F, k * 3, none⟩) 3 c) := by rw [hw]; exact hc
      have hJ := laws_heldInt64S F (k * 3) 3 c (k0 + k * 3) wr (fun j hj => by rw [hw, HO.out (k * 3 + j) (by omega), Nat.add_assoc]) (by omega)
      have HJ := Lib.hid hJ
      have HW := Lib.hid hw
      have hk0 : (0 : Int) ≤ (k : Int) := by omega
      have hk1 : (k : Int) < (n : Int) := by omega
      have hn0 : ¬ ((k0 + k * 3 + 3 : Nat) : Int) < 0 := by omega
      clear hc hJ hw
      go_wp2_with fail
      refine HJ.out.mono ?_
      rintro e w1 ⟨rfl, hw1⟩
      rw [hw1]
      clear hw1 w1
      go_wp2
      go_roundw
      case rel => exact ⟨k + 1, by omega, by go_num, by congr 1 <;> omega, HW.out⟩
      case measure => simp [intOf]; omega
    · obtain rfl : k = n := by omega
      have HW := Lib.hid hw
      clear hw
      go_wp2
      go_ret
      exact ⟨rfl, HW.out⟩
end Go.Proofs.Ytockhhfehjoldab


/-
Lists that a function made, and that stay. Conditions: none.
-/
namespace Go.Proofs.Ytockhhfehjoldab
open Go Fk Go.RowKit
set_option linter.unusedVariables false
set_option maxRecDepth 8000
/-- A list of n integers that may be written: none, or at the head of a block from lo to hi. -/
def Lst (lo hi : Nat) (w : World) (a : Option Addr) (n : Nat) : Prop := (a = none ∧ n = 0) ∨ ∃ b, a = some ⟨b, 0, none⟩ ∧ Own lo hi w b 0 n
theorem Own.below {lo hi : Nat} {w w' : World} {b o n : Nat} (h : Own lo hi w b o n) (hB : Below w.heap.size w w') : Own lo hi w' b o n :=
  ⟨h.1, h.2.1, Nat.lt_of_lt_of_le h.2.2.1 hB.size, fun j hj => by
    obtain ⟨⟨v, hv⟩, hf⟩ := h.2.2.2 j hj
    exact ⟨⟨v, cell_below hB hv⟩, by rw [hB.frozen (p := ⟨b, o + j, none⟩) h.2.2.1]; exact hf⟩⟩
theorem Lst.below {lo hi : Nat} {w w' : World} {a : Option Addr} {n : Nat} (h : Lst lo hi w a n) (hB : Below w.heap.size w w') : Lst lo hi w' a n :=
  h.imp id fun ⟨b, e, ho⟩ => ⟨b, e, ho.below hB⟩
theorem Lst.mark {lo hi lo' hi' : Nat} {w w' : World} {a : Option Addr} {n : Nat} (h : Lst lo hi w a n) (hM : Mark lo' hi' w w') : Lst lo hi w' a n :=
  h.imp id fun ⟨b, e, ho⟩ => ⟨b, e, ho.mark hM⟩
theorem OwnM.below {lo hi b o b' o' pl tl : Nat} {ts : List (List Int)} {w w' : World} (h : OwnM lo hi w b o b' o' pl tl ts) (hB : Below w.heap.size w w') : OwnM lo hi w' b o b' o' pl tl ts := by
  obtain ⟨h1, h2, h3, h4⟩ := h
  refine ⟨h1.below hB, fun j hj => ?_, h3, Nat.lt_of_lt_of_le h4 hB.size⟩
  obtain ⟨G, O, c, e1, e2, e3⟩ := h2 j hj
  exact ⟨G, O, c, e1, cell_below hB e2, e3.below hB⟩
end Go.Proofs.Ytockhhfehjoldab


/-
Marks in meshes whose rows lie beside one another: what is written is there, and nothing else turns. Conditions: none beyond their sizes.
-/
namespace Go.Proofs.Ytockhhfehjoldab
open Go Fk Go.RowKit
set_option linter.unusedVariables false
set_option maxRecDepth 8000
def Flat (lo hi : Nat) (w : World) (ta : Option Addr) (n F : Nat) : Prop := (ta = none ∧ n = 0) ∨ ∃ R, ta = some ⟨R, 0, none⟩ ∧ lo ≤ R ∧ R < hi ∧ R < w.heap.size ∧ R ≠ F ∧ FlatRows w R F n ∧ Own lo hi w F 0 (n * 3)
/-- A mesh that a function made: its places, its rows and their numbers lie in blocks of their own. -/
def GM (lo hi : Nat) (w : World) (pa ta : Option Addr) (pl tl F : Nat) : Prop := Lst lo hi w pa (pl * 3) ∧ Flat lo hi w ta tl F ∧ ∀ P, pa = some P → P.block ≠ F ∧ ∀ R, ta = some R → P.block ≠ R.block
/-- The marks that were written are there. -/
def MrkM (w : World) (pa ta : Option Addr) (pl tl F : Nat) : Prop :=
  ((pa = none ∧ pl = 0) ∨ ∃ P, pa = some ⟨P, 0, none⟩ ∧ ∀ j, j < pl * 3 → w.cell? ⟨P, 0 + j, none⟩ = some (.float .f32 (floatOfInt .f32 ((1 + j : Nat) : Int)))) ∧
  ((ta = none ∧ tl = 0) ∨ ∃ R, ta = some ⟨R, 0, none⟩ ∧ FlatRows w R F tl ∧ ∀ j, j < tl * 3 → w.cell? ⟨F, j, none⟩ = some (.int .i64 ((1 + pl * 3 + j : Nat) : Int)))
theorem MrkM.below {w w' : World} {pa ta : Option Addr} {pl tl F : Nat} (h : MrkM w pa ta pl tl F) (hB : Below w.heap.size w w') : MrkM w' pa ta pl tl F := by
  obtain ⟨h1, h2⟩ := h
  refine ⟨h1.imp id fun ⟨P, e, hc⟩ => ⟨P, e, fun j hj => cell_below hB (hc j hj)⟩, h2.imp id fun ⟨R, e, hf, hc⟩ => ⟨R, e, hf.same (fun i v hv => cell_below hB hv), fun j hj => cell_below hB (hc j hj)⟩⟩
theorem vec_any (lo hi : Nat) (a : Option Addr) (n cap : Nat) (k0 : Nat) (w : World) (h : Lst lo hi w a (n * 3)) (hn : n ≤ 1000000) (hk : k0 ≤ 1000000) :
    Calls Try.prog 73 #[.slice a n cap, .int .i64 k0] w fun e w' => e = .returned (.int .i64 ((k0 + n * 3 : Nat) : Int)) ∧ ((a = none ∧ n = 0) ∨ ∃ P, a = some ⟨P, 0, none⟩ ∧ ∀ j, j < n * 3 → w'.cell? ⟨P, 0 + j, none⟩ = some (.float .f32 (floatOfInt .f32 ((k0 + j : Nat) : Int)))) ∧ (∀ b i, a ≠ some ⟨b, 0, none⟩ → w'.cell? ⟨b, i, none⟩ = w.cell? ⟨b, i, none⟩) ∧ Mark lo hi w w' := by
  rcases h with ⟨rfl, h0⟩ | ⟨b, rfl, hown⟩
  · obtain rfl : n = 0 := by omega
    go_enter Try.func73, Try.ntmps73
    go_wp2
    refine wp_loop_rounds 1 ?_
    rw [rounds_succ]
    go_wp2
    go_ret
    refine ⟨by simp, by simp, ?_, Mark.refl _ _ _⟩
    first | exact fun _ _ _ => rfl | simp
  · refine (laws_markVectorS lo hi b 0 n cap k0 w hown (by omega)).mono ?_
    rintro e w' ⟨he, hd, ho, hM⟩
    exact ⟨he, .inr ⟨b, rfl, hd⟩, fun c i hc => ho c i (.inl (fun h => hc (by rw [h]))), hM⟩
theorem flat_any (lo hi : Nat) (a : Option Addr) (n cap F : Nat) (k0 : Nat) (w : World) (h : Flat lo hi w a n F) (hn : n ≤ 1000000) (hk : k0 ≤ 1000000000) :
    Calls Try.prog 13 #[.slice a n cap, .int .i64 k0] w fun e w' => e = .returned (.int .i64 ((k0 + n * 3 : Nat) : Int)) ∧ ((a = none ∧ n = 0) ∨ ∃ R, a = some ⟨R, 0, none⟩ ∧ FlatRows w' R F n ∧ ∀ j, j < n * 3 → w'.cell? ⟨F, j, none⟩ = some (.int .i64 ((k0 + j : Nat) : Int))) ∧ (∀ b i, b ≠ F → w'.cell? ⟨b, i, none⟩ = w.cell? ⟨b, i, none⟩) ∧ Mark lo hi w w' := by
  rcases h with ⟨rfl, rfl⟩ | ⟨R, rfl, h1, h2, h3, h4, h5, h6⟩
  · go_enter Try.func13, Try.ntmps13
    go_wp2
    refine wp_loop_rounds 1 ?_
    rw [rounds_succ]
    go_wp2
    go_ret
    refine ⟨by simp, by simp, ?_, Mark.refl _ _ _⟩
    first | exact fun _ _ _ => rfl | simp
  · refine (mark_flat lo hi R F n cap k0 w h5 h6 h4 (by omega) (by omega)).mono ?_
    rintro e w' ⟨he, hd, ho, hM⟩
    exact ⟨he, .inr ⟨R, rfl, h5.same (fun i v hv => (ho R i h4).trans hv), hd⟩, ho, hM⟩
theorem flat_held (a : Option Addr) (n cap F : Nat) (k0 : Nat) (w : World) (h : (a = none ∧ n = 0) ∨ ∃ R, a = some ⟨R, 0, none⟩ ∧ FlatRows w R F n ∧ ∀ j, j < n * 3 → w.cell? ⟨F, j, none⟩ = some (.int .i64 ((k0 + j : Nat) : Int))) (hn : n ≤ 1000000) (hk : k0 ≤ 1000000000) :
    Calls Try.prog 14 #[.slice a n cap, .int .i64 k0] w fun e w' => e = .returned (.int .i64 ((k0 + n * 3 : Nat) : Int)) ∧ w' = w := by
  rcases h with ⟨rfl, rfl⟩ | ⟨R, rfl, hf, hc⟩
  · go_enter Try.func14, Try.ntmps14
    go_wp2
    refine wp_loop_rounds 1 ?_
    rw [rounds_succ]
    go_wp2
    go_ret
    exact ⟨by simp, by first | rfl | trivial⟩
  · exact held_flat R F n cap k0 w hf hc (by omega) (by omega)
theorem Flat.mark {lo hi lo' hi' : Nat} {w w' : World} {a : Option Addr} {n F : Nat} (h : Flat lo hi w a n F) (hM : Mark lo' hi' w w') (hs : ∀ R, a = some R → ∀ i v, w.cell? ⟨R.block, i, none⟩ = some v → w'.cell? ⟨R.block, i, none⟩ = some v) : Flat lo hi w' a n F :=
  h.imp id fun ⟨R, e, h1, h2, h3, h4, h5, h6⟩ => ⟨R, e, h1, h2, Nat.lt_of_lt_of_le h3 hM.below.size, h4, h5.same (hs _ e), h6.mark hM⟩
theorem GM.below {lo hi : Nat} {w w' : World} {pa ta : Option Addr} {pl tl F : Nat} (h : GM lo hi w pa ta pl tl F) (hB : Below w.heap.size w w') : GM lo hi w' pa ta pl tl F :=
  ⟨h.1.below hB, h.2.1.imp id fun ⟨R, e, h1, h2, h3, h4, h5, h6⟩ => ⟨R, e, h1, h2, Nat.lt_of_lt_of_le h3 hB.size, h4, h5.same (fun i v hv => cell_below hB hv), h6.below hB⟩, h.2.2⟩
theorem mark_gm (lo hi : Nat) (pa ta : Option Addr) (pl pc tl tc F : Nat) (w : World) (h : GM lo hi w pa ta pl tl F) (hlo : lo ≤ w.heap.size) (h1 : pl ≤ 1000) (h2 : tl ≤ 1000) :
    Calls Try.prog 36 #[.agg #[.slice pa pl pc, .slice ta tl tc], .int .i64 1] w fun e w' => e = .returned (.int .i64 ((1 + pl * 3 + tl * 3 : Nat) : Int)) ∧ MrkM w' pa ta pl tl F ∧ Mark lo hi w w' := by
  have ui := Try.underlying44
  have hA : Mark lo hi w (w.alloc (.cells #[.slice pa pl pc, .slice ta tl tc] 44)) := Mark.alloc hlo _
  have a1 : (w.alloc (.cells #[.slice pa pl pc, .slice ta tl tc] 44)).cell? ⟨w.heap.size, 1, none⟩ = some (.slice ta tl tc) := by go_simp
  have a0 : (w.alloc (.cells #[.slice pa pl pc, .slice ta tl tc] 44)).cell? ⟨w.heap.size, 0, none⟩ = some (.slice pa pl pc) := by go_simp
  have nP : pa ≠ some ⟨w.heap.size, 0, none⟩ := fun e => by
    rcases h.1 with ⟨e', _⟩ | ⟨b, e', ho⟩
    · rw [e'] at e; cases e
    · rw [e'] at e; cases e; exact absurd ho.2.2.1 (Nat.lt_irrefl _)
  have hG := h.below ((Below.refl _ _).alloc (Nat.le_refl _) (.cells #[.slice pa pl pc, .slice ta tl tc] 44))
  have HV := Lib.hid (vec_any lo hi pa pl pc 1 _ hG.1 (by omega) (by omega))
  have HF := Lib.hid hG.2.1
  have HN := Lib.hid hG.2.2
  have HA := Lib.hid hA
  have HNP := Lib.hid nP
  clear h hA hG nP
  generalize hCH : w.alloc (.cells #[.slice pa pl pc, .slice ta tl tc] 44) = W at *
  go_enter Try.func36, Try.ntmps36
  go_wp2_with fail
  refine HV.out.mono ?_
  rintro e w1 ⟨rfl, hd, ho, hM1⟩
  have a1' : w1.cell? ⟨w.heap.size, 1, none⟩ = some (.slice ta tl tc) := (ho _ _ HNP.out).trans a1
  have hF1 : Flat lo hi w1 ta tl F := HF.out.mark hM1 (fun R hR i v hv => by
    refine (ho _ _ (fun hp => ?_)).trans hv
    exact (HN.out _ hp).2 _ hR rfl)
  have HF1 := Lib.hid (flat_any lo hi ta tl tc F (1 + pl * 3) w1 hF1 (by omega) (by omega))
  have HD := Lib.hid hd
  have HM1 := Lib.hid (HA.out.trans hM1)
  clear ho hM1 a0 a1 HV HF hCH hd hF1
  generalize hq : 1 + pl * 3 = q at *
  have hq' : q ≤ 10000 := by omega
  go_wp2_with fail
  refine HF1.out.mono ?_
  rintro e w2 ⟨rfl, hd2, ho2, hM2⟩
  have HD2 := Lib.hid hd2
  have HO2 := Lib.hid ho2
  have HM2 := Lib.hid hM2
  clear hd2 ho2 hM2
  go_wp2
  go_ret
  refine ⟨by rw [show 1 + pl * 3 + tl * 3 = q + tl * 3 by omega]; rfl, ⟨?_, ?_⟩, HM1.out.trans HM2.out⟩
  · exact HD.out.imp id fun ⟨P, e, hc⟩ => ⟨P, e, fun j hj => (HO2.out P (0 + j) (HN.out _ e).1).trans (hc j hj)⟩
  · first | exact HD2.out | (rw [hq]; exact HD2.out) | (subst hq; exact HD2.out)
/-- Vectors outside the blocks that are marked are as they were. -/
theorem vs_mark {lo hi lo' hi' : Nat} {w0 w w' : World} {a : Option Addr} {n cap : Nat} {cs : List C3} (h : IsVs w a n cap cs) (hl : Lst lo' hi' w0 a (n * 3)) (hM : Mark lo hi w w') (ho : hi' ≤ lo ∨ hi ≤ lo') : IsVs w' a n cap cs := by
  obtain ⟨h1, h2, h3, h4, h5⟩ := h
  refine ⟨h1, h2, h3, h4, fun x hx i hlt => ?_⟩
  rcases hl with ⟨e, _⟩ | ⟨b, e, hown⟩
  · rw [e] at hx; cases hx
  · rw [e] at hx; cases hx
    obtain ⟨p, q, r, k0, k1, k2, hf⟩ := h5 _ e i hlt
    rw [addr_add'] at k0 k1 k2
    have u1 := hown.1
    have u2 := hown.2.1
    have hb : b < lo ∨ hi ≤ b := by omega
    exact ⟨p, q, r, by rw [addr_add']; exact hM.cell hb k0, by rw [addr_add']; exact hM.cell hb k1, by rw [addr_add']; exact hM.cell hb k2, hf⟩
/-- Rows outside the blocks that are marked are as they were. -/
theorem ts_mark {lo hi lo' hi' : Nat} {w w' : World} {a : Option Addr} {n cap F : Nat} {ts : List (List Int)} (h : IsTs w a n cap ts) (hl : Flat lo' hi' w a n F) (hM : Mark lo hi w w') (ho : hi' ≤ lo ∨ hi ≤ lo') : IsTs w' a n cap ts := by
  obtain ⟨h1, h2, h3, h4, h5⟩ := h
  refine ⟨h1, h2, h3, h4, fun x hx i hlt => ?_⟩
  rcases hl with ⟨e, _⟩ | ⟨R, e, u1, u2, u3, u4, u5, u6⟩
  · rw [e] at hx; cases hx
  · rw [e] at hx; cases hx
    obtain ⟨G, c, c', hc, hI⟩ := h5 _ e i hlt
    rw [addr_add', Nat.zero_add] at hc
    obtain ⟨c2, hc2⟩ := u5 i hlt
    have hb : R < lo ∨ hi ≤ R := by omega
    have hbF : F < lo ∨ hi ≤ F := by have := u6.1; have := u6.2.1; omega
    rw [hc2] at hc
    cases hc
    refine ⟨_, _, _, by rw [addr_add', Nat.zero_add]; exact hM.cell hb hc2, ?_⟩
    obtain ⟨i1, i2, i3, i4, i5, i6⟩ := hI
    refine ⟨i1, i2, i3, i4, i5, fun y hy j hj => ?_⟩
    cases hy
    have := i6 _ rfl j hj
    rw [addr_add'] at this ⊢
    exact hM.cell hbF this
end Go.Proofs.Ytockhhfehjoldab

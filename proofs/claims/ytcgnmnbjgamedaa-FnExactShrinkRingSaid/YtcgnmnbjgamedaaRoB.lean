
/-
Triangles in the form in which callers get them: what the program makes. Conditions: arrays of three numbers that lie in memory.
-/
import Derived.Test.YtcgnmnbjgamedaaRoA
import Derived.Test.YtcgnmnbjgamedaaAcs
namespace Go.Proofs.Ytcgnmnbjgamedaa
open Go Fk Go.RowKit
set_option linter.unusedVariables false
set_option maxRecDepth 8000

def flatV (ts : List (List Int)) : Nat → List Value
  | 0 => []
  | k + 1 => flatV ts k ++ [.int .i64 ((ts.getD k []).getD 0 0), .int .i64 ((ts.getD k []).getD 1 0), .int .i64 ((ts.getD k []).getD 2 0)]
theorem flatV_len (ts : List (List Int)) (k : Nat) : (flatV ts k).length = k * 3 := by
  induction k with
  | zero => rfl
  | succ k ih => unfold flatV; rw [List.length_append, ih]; simp; omega
theorem owns_below' {w w' : World} {base : Nat} {e : TypeId} {size : Nat} {v : Value} {n : Nat} {xs : List Value} (h : w.ownsRow base e size v n xs) (hB : Below w.heap.size w w') : w'.ownsRow base e size v n xs :=
  h.kept (row := none) ⟨hB.os, hB.tape, hB.output, hB.size, fun k hk _ => hB.block k hk⟩ (by cases v.ownBlock <;> simp)
set_option maxHeartbeats 1000000 in
theorem triangle_lists' (cb tl cc : Nat) (ts : List (List Int)) (w : World) (hc : IsCs w cb tl ts) (hlen : tl ≤ 1000000) :
    Calls Try.prog 110 #[.slice (some ⟨cb, 0, none⟩) tl cc] w fun e w' => ∃ v fb fc, e = .returned v ∧ w.heap.size ≤ fb ∧ w'.ownsRow (fb + 1) 90 1 v tl (rowVs fb tl) ∧ w'.ownsRow w.heap.size 2 1 (.slice (some ⟨fb, 0, none⟩) (tl * 3) fc) (tl * 3) (flatV ts tl) ∧ Below w.heap.size w w' := by
  have uc := Try.underlying109
  obtain ⟨i0, hi, hz0, hz1, hz2⟩ := info_parts info64
  have hmk : (Instr.makeSlice 90 (.int .i64 0) (.int .i64 (3 * (tl : Int)))).run Try.prog w = .ok (.slice (some ⟨w.heap.size, 0, none⟩) 0 (tl * 3)) (w.alloc (.cells (madeCells #[.int .i64 0] (tl * 3)) 2)) := by
    have := run_make (P := Try.prog) w 90 2 i0 (.int .i64 0) Try.underlying90 hi hz0 .i64 .i64 0 (3 * (tl : Int)) (by omega) (by omega) (by rw [hz2]; omega) (by omega)
    rw [this, hz1, show (3 * (tl : Int)).toNat = tl * 3 by omega]; simp; rfl
  have hst : (w.alloc (.cells (madeCells #[.int .i64 0] (tl * 3)) 2)).ownsRow w.heap.size 2 1 (.slice (some ⟨w.heap.size, 0, none⟩) 0 (tl * 3)) 0 [] :=
    World.ownsRow_made (e := 2) (size := 1) w _ (tl * 3) (Nat.le_refl _) (by unfold maxLen; omega) (by unfold madeCells; simp)
  have HST := Lib.hid hst
  have HB0 := Lib.hid ((Below.refl w.heap.size w).alloc (Nat.le_refl _) (.cells (madeCells #[.int .i64 0] (tl * 3)) 2))
  have HC := Lib.hid hc
  clear hst hc
  go_enter Try.func110, Try.ntmps110
  go_wp2
  generalize hCH : w.alloc (.cells (madeCells #[.int .i64 0] (tl * 3)) 2) = W at *
  go_loopw [3, 12] (fun v i w' => ∃ k : Nat, k ≤ tl ∧ i = .int .i64 k ∧ Aside (w'.ownsRow w.heap.size 2 1 v (k * 3) (flatV ts k) ∧ v ≠ .slice none 0 0 ∧ Below w.heap.size w w')) (fun _ i _ => tl - (intOf i).toNat)
  case atStart => exact ⟨0, Nat.zero_le _, rfl, HST.out, by simp, HB0.out⟩
  case round =>
    obtain ⟨k, hk, hik, hA⟩ := hrel
    subst hik
    obtain ⟨hown, hne, hB⟩ := hA.out
    have HB := Lib.hid hB
    have HOWN := Lib.hid hown
    have HNE := Lib.hid hne
    have hbz := Lib.hid hB.size
    clear hmk HST
    by_cases hlt : k < tl
    · have hk0 : (0 : Int) ≤ (k : Int) := by omega
      have hk1 : (k : Int) < (tl : Int) := by omega
      obtain ⟨z0, z1, z2⟩ := (HC.out.below hB) k hlt
      have lb := World.block_lt_of_cell? _ _ z0
      have HFV : Hid (flatV ts (k + 1) = flatV ts k ++ [.int .i64 ((ts.getD k []).getD 0 0), .int .i64 ((ts.getD k []).getD 1 0), .int .i64 ((ts.getD k []).getD 2 0)]) := rfl
      generalize (ts.getD k []).getD 0 0 = j0 at *
      generalize (ts.getD k []).getD 1 0 = j1 at *
      generalize (ts.getD k []).getD 2 0 = j2 at *
      clear hA hB hown hne
      go_wp2_with (at_builtin; refine wpList_append_own _ rfl _ _ 90 rfl w.heap.size 2 i0 (.int .i64 0) 1 8 Try.underlying90 hi hz0 hz1 hz2 rfl (by decide) _ _ _ rfl (HOWN.out.alloc _) ⟨wr.heap.size, 0, none⟩ 3 3 [.int .i64 j0, .int .i64 j1, .int .i64 j2] rfl rfl ?c1 ?c2 ?c3 ?c4 ?c5 ?_)
      case c2 => first | exact ⟨rfl, rfl, rfl⟩ | (intro u hu; simp at hu; rcases hu with rfl | rfl | rfl <;> rfl)
      case c3 => unfold maxLen; omega
      case c4 => omega
      case c5 => have := hbz.out; simp; omega
      · intro v' w1 hown' hgrow hnil
        have hB1 : Below w.heap.size w (wr.alloc (.cells #[.int .i64 j0, .int .i64 j1, .int .i64 j2] 109)) := HB.out.alloc hbz.out _
        have HB1 := Lib.hid (hB1.grown hgrow hB1.size (fun k hk => (HOWN.out.lt k hk).1))
        have HO1 := Lib.hid hown'
        have HN1 := Lib.hid (show v' ≠ .slice none 0 0 from fun h => by first | exact hnil h | exact HNE.out (hnil.1 h).1)
        clear hown' hgrow hB1 hnil
        go_wp2
        go_roundw
        case rel => exact ⟨k + 1, by omega, by go_num, by rw [HFV.out, show (k + 1) * 3 = k * 3 + 3 by omega]; exact HO1.out, HN1.out, HB1.out⟩
        case measure => simp [intOf]; omega
    · obtain rfl : k = tl := by omega
      obtain ⟨fb, fc, hv, hfb, hfc⟩ : ∃ fb fc, _ = Value.slice (some ⟨fb, 0, none⟩) (k * 3) fc ∧ w.heap.size ≤ fb ∧ k * 3 ≤ fc := by
        obtain ⟨_, h2⟩ := hown
        rcases h2 with ⟨h2, _⟩ | ⟨g, cap, cur, h3, h4, _, h5, _⟩
        · exact absurd h2 hne
        · exact ⟨g, cap, h3, h4, h5⟩
      subst hv
      have hlt := HOWN.out.lt fb rfl
      clear hA hB hown hne
      go_wp2_with (go_at_call 139; refine (rows_of fb k fc wr (by omega) hfc).mono ?_; rintro e w2 ⟨v, rfl, hr, hb2⟩; have HR := Lib.hid hr; have HB2 := Lib.hid hb2; clear hr hb2)
      go_ret
      exact ⟨v, fb, fc, rfl, hfb, (by
        obtain ⟨h1, h2⟩ := HR.out
        refine ⟨h1, h2.imp id ?_⟩
        rintro ⟨g, cap, cur, h3, h4, h5⟩
        exact ⟨g, cap, cur, h3, by omega, h5⟩), owns_below' HOWN.out HB2.out, HB.out.trans (HB2.out.mono hbz.out)⟩
theorem triangle_lists (cb tl : Nat) (ts : List (List Int)) (w : World) (hc : IsCs w cb tl ts) (hlen : tl ≤ 1000000) :
    Calls Try.prog 110 #[.slice (some ⟨cb, 0, none⟩) tl tl] w fun e w' => ∃ v fb fc, e = .returned v ∧ w.heap.size ≤ fb ∧ w'.ownsRow (fb + 1) 90 1 v tl (rowVs fb tl) ∧ w'.ownsRow w.heap.size 2 1 (.slice (some ⟨fb, 0, none⟩) (tl * 3) fc) (tl * 3) (flatV ts tl) ∧ Below w.heap.size w w' := triangle_lists' cb tl tl ts w hc hlen
end Go.Proofs.Ytcgnmnbjgamedaa

/-
Texts in one: what SharesOf stands on, part 0. Conditions: those of each.
-/
import Derived.Test.YtockhhfehjoldabKHingesOf32
import Derived.Lib.MinMax
import Derived.Deep.QuietTactic
import Derived.BigQuiet

/-
Shares of workers: the program and the model. Conditions: none.
-/
namespace Go.Proofs.Ytockhhfehjoldab
open Go Fk Go.RowKit
set_option linter.unusedVariables false
set_option maxRecDepth 8000

theorem l00InS (n a b : Int) (w : World) :
    Calls Try.prog 40 #[.int .i64 n, .int .i64 a, .int .i64 b] w fun e w' => e = .returned (.bool (decide (a ≤ n ∧ n ≤ b))) ∧ w' = w := by
  by_cases h1 : a ≤ n
  · by_cases h2 : n ≤ b
    · rw [decide_eq_true (And.intro h1 h2)]
      go_enter Try.func40, Try.ntmps40
      go_wp2
      go_ret
      exact ⟨ret_bool (by simp), rfl⟩
    · rw [decide_eq_false (fun h => h2 h.2)]
      go_enter Try.func40, Try.ntmps40
      go_wp2
      go_ret
      exact ⟨ret_bool (by simp), rfl⟩
  · rw [decide_eq_false (fun h => h1 h.1)]
    go_enter Try.func40, Try.ntmps40
    go_wp2
    go_ret
    exact ⟨rfl, rfl⟩
theorem are_workers (n : Int) (w : World) :
    Calls Try.prog 41 #[.int .i64 n] w fun e w' => e = .returned (.bool (decide (1 ≤ n ∧ n ≤ 8))) ∧ w' = w := by
  by_cases h1 : 1 ≤ n
  · by_cases h2 : n ≤ 8
    · rw [decide_eq_true (And.intro h1 h2)]
      go_enter Try.func41, Try.ntmps41
      go_wp2
      go_ret
      exact ⟨ret_bool (by first | (simp; done) | (simp; omega)), rfl⟩
    · rw [decide_eq_false (fun h => h2 h.2)]
      go_enter Try.func41, Try.ntmps41
      go_wp2
      go_ret
      exact ⟨ret_bool (by first | (simp; done) | (simp; omega)), rfl⟩
  · rw [decide_eq_false (fun h => h1 h.1)]
    go_enter Try.func41, Try.ntmps41
    go_wp2
    go_ret
    exact ⟨rfl, rfl⟩
/-- The share of a worker: where it begins, and how many things it has. -/
def shOne (q r j : Nat) : Int × Int := (((j * q + (if j < r then j else r) : Nat) : Int), ((q + (if j < r then 1 else 0) : Nat) : Int))
def shE (q r n : Nat) : List (Int × Int) := (List.range n).map (shOne q r)
theorem shE_len (q r n : Nat) : (shE q r n).length = n := by simp [shE]
theorem shE_get {q r n k : Nat} (h : k < n) : (shE q r n).getD k (0, 0) = shOne q r k := by simp [shE, List.getD, h]
def shOk (c wk : Int) : Bool := decide (0 ≤ c ∧ c ≤ 256) && decide (1 ≤ wk ∧ wk ≤ 8)
def shL (c wk : Int) : List (List Int) := bif shOk c wk then (shE (c.toNat / wk.toNat) (c.toNat % wk.toNat) wk.toNat).map rowP else []
theorem shL_len (c wk : Int) : (shL c wk).length ≤ 8 := by
  unfold shL
  cases h : shOk c wk
  · simp
  · unfold shOk at h
    simp only [Bool.and_eq_true, decide_eq_true_eq] at h
    simp only [cond_true, List.length_map, shE_len]
    omega
theorem shE_wf {q r n : Nat} (hq : q ≤ 256) (hr : r ≤ 8) (hn : n ≤ 8) : ∀ j, j < n → ∀ z ∈ ((shE q r n).map rowP).getD j [], (Lit.int .i64 z).wf = true := by
  intro j hj z hz
  have e : ((shE q r n).map rowP).getD j [] = rowP (shOne q r j) := by simp [shE, List.getD, hj]
  rw [e] at hz
  have h1 : j * q ≤ 8 * 256 := Nat.mul_le_mul (by omega) hq
  unfold rowP shOne at hz
  rcases List.mem_cons.1 hz with rfl | hz
  · refine WalkArith.wf_i64 ?_
    simp only
    split <;> omega
  · rcases List.mem_cons.1 hz with rfl | hz
    · refine WalkArith.wf_i64 ?_
      simp only
      split <;> omega
    · cases hz
set_option maxHeartbeats 4000000 in
theorem impl_shares (c wk : Nat) (hc : c ≤ 256) (hw1 : 1 ≤ wk) (hw8 : wk ≤ 8) (w : World) :
    Calls Try.prog 42 #[.int .i64 (c : Int), .int .i64 (wk : Int)] w fun e w' => ∃ v fb fc, e = .returned v ∧ w.heap.size ≤ fb ∧ w'.ownsRow (fb + 1) 39 1 v wk (rowVs2 fb wk) ∧ w'.ownsRow w.heap.size 2 1 (.slice (some ⟨fb, 0, none⟩) (wk * 2) fc) (wk * 2) (flatW (shE (c / wk) (c % wk) wk) wk) ∧ Below w.heap.size w w' := by
  obtain ⟨i0, hi, hz0, hz1, hz2⟩ := info_parts info64
  have hq : (c : Int).tdiv (wk : Int) = ((c / wk : Nat) : Int) := (Int.ofNat_tdiv c wk).symm
  have hr : (c : Int).tmod (wk : Int) = ((c % wk : Nat) : Int) := (Int.ofNat_tmod c wk).symm
  have hq2 : c / wk ≤ 256 := Nat.le_trans (Nat.div_le_self _ _) hc
  have hr2 : c % wk < wk := Nat.mod_lt _ hw1
  generalize c / wk = q at *
  generalize c % wk = r at *
  have hw0 : ((wk : Int) == 0) = false := beq_eq_false_iff_ne.2 (by omega)
  have hw0' : ¬ wk = 0 := by omega
  have hwq : IntKind.i64.wrap (q : Int) = (q : Int) := IntWalk.i64_in _ (by omega)
  have hwr : IntKind.i64.wrap (r : Int) = (r : Int) := IntWalk.i64_in _ (by omega)
  have hc0 : (0 : Int) ≤ (c : Int) ∧ (c : Int) ≤ 256 := by omega
  have HQ := Lib.hid hq2
  have HR := Lib.hid hr2
  have HW := Lib.hid hw8
  have HW1 := Lib.hid hw1
  go_enter Try.func42, Try.ntmps42
  go_wp2_with fail
  go_quiet (fail)
  have HBz := Lib.hid (below_drewN (Below.refl w.heap.size w) nq)
  go_wp2
  go_loopw [7, 18] (fun v i w' => ∃ k : Nat, k ≤ wk ∧ i = .int .i64 k ∧ Aside (w'.ownsRow w.heap.size 2 1 v (k * 2) (flatW (shE q r wk) k) ∧ (k ≠ 0 → v ≠ .slice none 0 0) ∧ Below w.heap.size w w')) (fun _ i _ => wk - (intOf i).toNat)
  case atStart => exact ⟨0, Nat.zero_le _, rfl, World.ownsRow_nil _ _ _ _, fun h => absurd rfl h, HBz.out⟩
  case round =>
    obtain ⟨k, hk, hik, hA⟩ := hrel
    subst hik
    obtain ⟨hown, hne, hB⟩ := hA.out
    have HB := Lib.hid hB
    have HOWN := Lib.hid hown
    have HNE := Lib.hid hne
    have hbz := Lib.hid hB.size
    by_cases hlt : k < wk
    · have hk0 : (0 : Int) ≤ (k : Int) := by omega
      have hk1 : (k : Int) < (wk : Int) := by omega
      have hp1 : k * q ≤ 8 * 256 := Nat.mul_le_mul (by omega) hq2
      have hp2 : (k + 1) * q = k * q + q := Nat.succ_mul k q
      have hm1 : (k : Int) * (q : Int) = ((k * q : Nat) : Int) := (Int.natCast_mul k q).symm
      have hm2 : ((k : Int) + 1) * (q : Int) = ((k * q + q : Nat) : Int) := by rw [← hp2, Int.natCast_mul]; rfl
      have HFV : Hid (flatW (shE q r wk) (k + 1) = flatW (shE q r wk) k ++ [.int .i64 (shOne q r k).1, .int .i64 (shOne q r k).2]) := Lib.hid (by
        show flatW (shE q r wk) k ++ [.int .i64 ((shE q r wk).getD k (0, 0)).1, .int .i64 ((shE q r wk).getD k (0, 0)).2] = _
        rw [shE_get hlt])
      have hs1 : (k * q : Nat) + min (k : Int) (r : Int) = (shOne q r k).1 := by
        unfold shOne
        simp only
        split <;> omega
      have hs2 : ((k * q : Nat) : Int) + (q : Int) + min ((k : Int) + 1) (r : Int) - (shOne q r k).1 = (shOne q r k).2 := by
        unfold shOne
        simp only
        split <;> omega
      have hs3 : 0 ≤ (shOne q r k).1 ∧ (shOne q r k).1 ≤ 4096 := by
        unfold shOne
        simp only
        split <;> omega
      have hs4 : 0 ≤ (shOne q r k).2 ∧ (shOne q r k).2 ≤ 4096 := by
        unfold shOne
        simp only
        split <;> omega
      generalize k * q = p at *
      generalize (shOne q r k).1 = j0 at *
      generalize (shOne q r k).2 = j1 at *
      clear hA hB hown hne hr hq
      go_wp2_with (at_builtin; refine wpList_append_own _ rfl _ _ 39 rfl w.heap.size 2 i0 (.int .i64 0) 1 8 Try.underlying39 hi hz0 hz1 hz2 rfl (by decide) _ _ _ rfl (HOWN.out.alloc _) ⟨wr.heap.size, 0, none⟩ 2 2 [.int .i64 j0, .int .i64 j1] ?c0 rfl ?c1 ?c2 ?c3 ?c4 ?c5 ?_)
      try (case c0 => first | rfl | (simp [Act.eval]))
      try (case c1 => first | (simpa using cell_two_new wr (.int .i64 j0) (.int .i64 j1) 2) | (simpa [hs2] using cell_two_new wr (.int .i64 j0) (.int .i64 j1) 2))
      case c2 => first | exact ⟨rfl, rfl⟩ | (intro u hu; simp at hu; rcases hu with rfl | rfl <;> rfl)
      case c3 => unfold maxLen; omega
      case c4 => omega
      case c5 => have := hbz.out; simp; omega
      · intro v' w3 hown' hgrow hnil
        have hB1 := HB.out.alloc hbz.out (.cells #[.int .i64 j0, .int .i64 j1] 2)
        have HB3 := Lib.hid (hB1.grown hgrow hB1.size (fun k hk => (HOWN.out.lt k hk).1))
        have HO1 := Lib.hid hown'
        have HN1 := Lib.hid (show v' ≠ .slice none 0 0 from fun h => by
          have := hown'.1
          rcases hown'.2 with ⟨_, h0'⟩ | ⟨g2, cap, cur, e, _⟩
          · omega
          · rw [h] at e; cases e)
        clear hown' hgrow hB1 hnil
        go_wp2
        go_roundw
        case rel => exact ⟨k + 1, by omega, by go_num, by rw [HFV.out, show (k + 1) * 2 = k * 2 + 2 by omega]; exact HO1.out, fun _ => HN1.out, HB3.out⟩
        case measure => simp [intOf]; omega
    · obtain rfl : k = wk := by omega
      have hne' := hne (by omega)
      obtain ⟨fb, fc, hv, hfb, hfc⟩ : ∃ fb fc, _ = Value.slice (some ⟨fb, 0, none⟩) (k * 2) fc ∧ w.heap.size ≤ fb ∧ k * 2 ≤ fc := by
        obtain ⟨_, h2⟩ := hown
        rcases h2 with ⟨h2, _⟩ | ⟨g, cap, cur, h3, h4, _, h5, _⟩
        · exact absurd h2 hne'
        · exact ⟨g, cap, h3, h4, h5⟩
      subst hv
      have hlt := HOWN.out.lt fb rfl
      clear hA hB hown hne hne'
      go_wp2_with fail
      refine (rows_of2 fb k fc wr (by omega) hfc).mono ?_
      rintro e w2 ⟨v, rfl, hr, hb2⟩
      have HR := Lib.hid hr
      have HB2 := Lib.hid hb2
      clear hr hb2
      go_wp2
      go_ret
      exact ⟨v, fb, fc, rfl, hfb, (by
        obtain ⟨h1, h2⟩ := HR.out
        refine ⟨h1, h2.imp id ?_⟩
        rintro ⟨g, cap, cur, h3, h4, h5⟩
        exact ⟨g, cap, cur, h3, by omega, h5⟩), owns_below' HOWN.out HB2.out, HB.out.trans (HB2.out.mono hbz.out)⟩
end Go.Proofs.Ytockhhfehjoldab

/-
Texts in one: what SharesOf stands on, part 1. Conditions: those of each.
-/
import Derived.Test.YtockhhfehjoldabKSharesOf0

/-
Shares of workers: the program's and the model's answer. Conditions: none.
-/
namespace Go.Proofs.Ytockhhfehjoldab
open Go Fk Go.RowKit
set_option linter.unusedVariables false
set_option maxRecDepth 8000

set_option maxHeartbeats 2000000 in
theorem impl_SharesOf (c wk : Int) (w : World) :
    Calls Try.prog 11 #[.int .i64 c, .int .i64 wk] w fun e w' => (∃ a cp F, e = .returned (.tuple #[.slice a (shL c wk).length cp, .bool (shOk c wk)]) ∧ IsTs w' a (shL c wk).length cp (shL c wk) ∧ Flat2 w.heap.size w'.heap.size w' a (shL c wk).length F) ∧ Below w.heap.size w w' := by
  have no : shOk c wk = false → (shL c wk) = [] := fun h => by unfold shL; rw [h]; rfl
  by_cases h0 : c < 0
  · have hk : shOk c wk = false := by unfold shOk; rw [decide_eq_false (by omega)]; rfl
    rw [no hk, hk]
    clear no hk
    go_enter Try.func11, Try.ntmps11
    go_wp2
    go_ret2
    first | exact ⟨⟨none, 0, 0, rfl, ⟨rfl, Nat.le_refl _, by unfold maxLen; omega, fun _ => ⟨rfl, rfl⟩, fun x hx => (by cases hx)⟩, .inl ⟨rfl, rfl⟩⟩, Below.refl _ _⟩ | exact ⟨⟨none, 0, rfl, ⟨rfl, Nat.le_refl _, by unfold maxLen; omega, fun _ => ⟨rfl, rfl⟩, fun x hx => (by cases hx)⟩, 0, .inl ⟨rfl, rfl⟩⟩, Below.refl _ _⟩
  by_cases h1 : c > 256
  · have hk : shOk c wk = false := by unfold shOk; rw [decide_eq_false (by omega)]; rfl
    rw [no hk, hk]
    clear no hk
    go_enter Try.func11, Try.ntmps11
    go_wp2
    go_ret2
    first | exact ⟨⟨none, 0, 0, rfl, ⟨rfl, Nat.le_refl _, by unfold maxLen; omega, fun _ => ⟨rfl, rfl⟩, fun x hx => (by cases hx)⟩, .inl ⟨rfl, rfl⟩⟩, Below.refl _ _⟩ | exact ⟨⟨none, 0, rfl, ⟨rfl, Nat.le_refl _, by unfold maxLen; omega, fun _ => ⟨rfl, rfl⟩, fun x hx => (by cases hx)⟩, 0, .inl ⟨rfl, rfl⟩⟩, Below.refl _ _⟩
  by_cases h2 : 1 ≤ wk ∧ wk ≤ 8
  · have hk : shOk c wk = true := by unfold shOk; rw [decide_eq_true (by omega), decide_eq_true h2]; rfl
    obtain ⟨n, rfl⟩ : ∃ n : Nat, c = n := ⟨c.toNat, by omega⟩
    obtain ⟨m, rfl⟩ : ∃ m : Nat, wk = m := ⟨wk.toNat, by omega⟩
    have hl : shL (n : Int) (m : Int) = (shE (n / m) (n % m) m).map rowP := by unfold shL; rw [hk]; simp only [cond_true, Int.toNat_natCast]
    rw [hl, hk]
    clear no hl hk
    have JW := are_workers (m : Int)
    rw [decide_eq_true h2] at JW
    have JI := Lib.hid (fun w => impl_shares n m (by omega) (by omega) (by omega) w)
    have HWF := Lib.hid (shE_wf (q := n / m) (r := n % m) (n := m) (Nat.le_trans (Nat.div_le_self _ _) (by omega)) (by have := Nat.mod_lt n (show m > 0 by omega); omega) (by omega))
    generalize hes : shE (n / m) (n % m) m = es at *
    have hln : es.length = m := by rw [← hes]; exact shE_len _ _ _
    have HLN := Lib.hid hln
    clear hes hln
    go_enter Try.func11, Try.ntmps11
    go_wp2_with fail
    refine (JW w).mono ?_
    rintro e w1 ⟨rfl, hw1⟩
    rw [hw1]
    clear hw1
    go_wp2_with fail
    refine (JI.out w).mono ?_
    rintro e w2 ⟨v, fb, fc, rfl, hfb, hr, hf, hB⟩
    obtain ⟨a, cp, rfl, hI, hF⟩ := rows_edges hr hf HLN.out HWF.out
    have HI := Lib.hid hI
    have HF := Lib.hid hF
    have HB := Lib.hid hB
    clear hfb hr hf hI hF hB
    go_wp2
    go_ret2
    refine ⟨⟨a, cp, fb, by simp [HLN.out], by simpa [HLN.out] using HI.out, by simpa [HLN.out] using HF.out⟩, HB.out⟩
  · have hk : shOk c wk = false := by unfold shOk; rw [decide_eq_false h2]; simp
    rw [no hk, hk]
    have JW := are_workers wk
    rw [decide_eq_false h2] at JW
    clear no hk
    go_enter Try.func11, Try.ntmps11
    go_wp2_with fail
    refine (JW w).mono ?_
    rintro e w1 ⟨rfl, hw1⟩
    rw [hw1]
    clear hw1
    go_wp2
    go_ret2
    first | exact ⟨⟨none, 0, 0, rfl, ⟨rfl, Nat.le_refl _, by unfold maxLen; omega, fun _ => ⟨rfl, rfl⟩, fun x hx => (by cases hx)⟩, .inl ⟨rfl, rfl⟩⟩, Below.refl _ _⟩ | exact ⟨⟨none, 0, rfl, ⟨rfl, Nat.le_refl _, by unfold maxLen; omega, fun _ => ⟨rfl, rfl⟩, fun x hx => (by cases hx)⟩, 0, .inl ⟨rfl, rfl⟩⟩, Below.refl _ _⟩
theorem shE_s (q r k : Nat) : (shE q r (k + 1)).map rowP = (shE q r k).map rowP ++ [rowP (shOne q r k)] := by
  unfold shE
  rw [List.range_succ, List.map_append, List.map_append]
  rfl
theorem sh_zero (q r : Nat) : (shOne q r 0).1 = 0 := by
  unfold shOne
  simp only
  split <;> omega
/-- Where the share of a worker begins. -/
theorem sh_next (q r k : Nat) : (shOne q r (k + 1)).1 = (shOne q r k).1 + (shOne q r k).2 := by
  unfold shOne
  have h : (k + 1) * q = k * q + q := Nat.succ_mul k q
  simp only
  split <;> split <;> omega
set_option maxHeartbeats 4000000 in
theorem spec_SharesOf (c wk : Int) (w : World) :
    Calls Try.prog 10 #[.int .i64 c, .int .i64 wk] w fun e w' => (∃ a cp, e = .returned (.tuple #[.slice a (shL c wk).length cp, .bool (shOk c wk)]) ∧ IsTs w' a (shL c wk).length cp (shL c wk)) ∧ Below w.heap.size w w' := by
  obtain ⟨j0, hj, hq0, hq1, hq2⟩ := info_parts infoS
  have no : shOk c wk = false → (shL c wk) = [] := fun h => by unfold shL; rw [h]; rfl
  have J0 := Lib.hid (fun w => l00InS c 0 256 w)
  have J1 := Lib.hid (fun w => l00InS wk 1 8 w)
  by_cases h1 : 0 ≤ c ∧ c ≤ 256
  · by_cases h2 : 1 ≤ wk ∧ wk ≤ 8
    · have hk : shOk c wk = true := by unfold shOk; rw [decide_eq_true h1, decide_eq_true h2]; rfl
      rw [decide_eq_true h1] at J0
      rw [decide_eq_true h2] at J1
      obtain ⟨n, rfl⟩ : ∃ n : Nat, c = n := ⟨c.toNat, by omega⟩
      obtain ⟨m, rfl⟩ : ∃ m : Nat, wk = m := ⟨wk.toNat, by omega⟩
      have hl : shL (n : Int) (m : Int) = (shE (n / m) (n % m) m).map rowP := by unfold shL; rw [hk]; simp only [cond_true, Int.toNat_natCast]
      rw [hl, hk]
      have hq : (n : Int).tdiv (m : Int) = ((n / m : Nat) : Int) := (Int.ofNat_tdiv n m).symm
      have hr : (n : Int).tmod (m : Int) = ((n % m : Nat) : Int) := (Int.ofNat_tmod n m).symm
      have hq3 : n / m ≤ 256 := Nat.le_trans (Nat.div_le_self _ _) (by omega)
      have hr3 : n % m < m := Nat.mod_lt _ (by omega)
      generalize n / m = q at *
      generalize n % m = r at *
      have HWF := Lib.hid (shE_wf (q := q) (r := r) (n := m) hq3 (by omega) (by omega))
      have hw0' : ¬ m = 0 := by omega
      have hwq : IntKind.i64.wrap (q : Int) = (q : Int) := IntWalk.i64_in _ (by omega)
      have hwr : IntKind.i64.wrap (r : Int) = (r : Int) := IntWalk.i64_in _ (by omega)
      clear no hl hk h1
      have hst0 : (w.alloc (.cells #[] 39)).ownsRow w.heap.size 39 1 (.slice (some ⟨w.heap.size, 0, none⟩) 0 0) 0 [] :=
        World.ownsRow_lit (base := w.heap.size) (e := 39) (size := 1) w #[] 0 (Nat.le_refl _) (by decide) rfl
      have hbw0 : Below w.heap.size w (w.alloc (.cells #[] 39)) := (Below.refl _ _).alloc (Nat.le_refl _) _
      have HST0 : Hid (OwnT w.heap.size (w.alloc (.cells #[] 39)) (.slice (some ⟨w.heap.size, 0, none⟩) 0 0) 0 ((shE q r 0).map rowP)) := Lib.hid ⟨[], hst0, fun j hj => absurd hj (by omega)⟩
      have HBW0 := Lib.hid hbw0
      clear hst0 hbw0
      go_enter Try.func10, Try.ntmps10
      go_wp2_with fail
      refine (J0.out w).mono ?_
      rintro e w1 ⟨rfl, hw1⟩
      rw [hw1]
      clear hw1
      go_wp2_with fail
      refine (J1.out w).mono ?_
      rintro e w1 ⟨rfl, hw1⟩
      rw [hw1]
      clear hw1
      go_wp2
      go_loopw [6, 7, 8] (fun v f i w' => ∃ k : Nat, k ≤ m ∧ i = .int .i64 k ∧ f = .int .i64 (shOne q r k).1 ∧ Aside (OwnT w.heap.size w' v k ((shE q r k).map rowP) ∧ Below w.heap.size w w')) (fun _ _ i _ => m - (intOf i).toNat)
      case atStart => exact ⟨0, Nat.zero_le _, rfl, by rw [sh_zero], HST0.out, HBW0.out⟩
      case round =>
        obtain ⟨k, hk, rfl, rfl, hA⟩ := hrel
        obtain ⟨hO, hB⟩ := hA.out
        have HO := Lib.hid hO
        have HB := Lib.hid hB
        have hbz := Lib.hid hB.size
        by_cases hlt : k < m
        · have hk0 : (0 : Int) ≤ (k : Int) := by omega
          have hk1 : (k : Int) < (m : Int) := by omega
          have hp1 : k * q ≤ 8 * 256 := Nat.mul_le_mul (by omega) hq3
          have hs3 : 0 ≤ (shOne q r k).1 ∧ (shOne q r k).1 ≤ 4096 := by
            unfold shOne
            simp only
            split <;> omega
          have HN := Lib.hid (sh_next q r k)
          have HKS := Lib.hid (shE_s q r k)
          have HLN : Hid (((shE q r k).map rowP).length = k) := Lib.hid (by rw [List.length_map, shE_len])
          have h2k : (shOne q r k).2 = (q : Int) + (if k < r then 1 else 0) := by
            unfold shOne
            simp only
            split <;> simp
          have HRP : Hid (rowP (shOne q r k) = [(shOne q r k).1, (shOne q r k).2]) := rfl
          obtain ⟨rows, hrow, hrows⟩ := hO
          have HROW := Lib.hid hrow
          have HROWS := Lib.hid hrows
          generalize (shOne q r k).1 = f0 at *
          by_cases hkr : k < r
          · have hkr' : (k : Int) < (r : Int) := by omega
            rw [if_pos hkr] at h2k
            rw [h2k] at HN HRP
            clear hA hB hrow hrows h2k
            go_wp2_with (at_builtin; refine wpList_append_own _ rfl _ _ 22 rfl w.heap.size 39 j0 (.slice none 0 0) 1 24 Try.underlying22 hj hq0 hq1 hq2 rfl (by decide) _ _ _ rfl ((HROW.out.alloc _).alloc _) ⟨wr.heap.size + 1, 0, none⟩ 1 1 [.slice (some ⟨wr.heap.size, 0, none⟩) 2 2] ?c0 rfl ?c1 ?c2 ?c3 ?c4 ?c5 ?_)
            try (case c0 => first | rfl | (simp [Act.eval]))
            try (case c1 =>
              intro j u hj
              match j, hj with
              | 0, hj => simp at hj; subst hj; first | (simp [Addr.add]; done) | (simp [Addr.add]))
            case c2 => first | exact rfl | (intro u hu; simp at hu; subst hu; rfl)
            case c3 => unfold maxLen; omega
            case c4 => omega
            case c5 => have := hbz.out; first | omega | (simp; omega)
            · intro v' w3 hown' hgrow hnil
              have hr1 : (wr.alloc (.cells #[.int .i64 f0, .int .i64 ((q : Int) + 1)] 2)).ownsRow wr.heap.size 2 1 (.slice (some ⟨wr.heap.size, 0, none⟩) 2 2) 2 (ints [f0, (q : Int) + 1]) :=
                World.ownsRow_lit (base := wr.heap.size) (e := 2) (size := 1) wr #[.int .i64 f0, .int .i64 ((q : Int) + 1)] 2 (Nat.le_refl _) (by decide) rfl
              have hA2 : Below wr.heap.size wr ((wr.alloc (.cells #[.int .i64 f0, .int .i64 ((q : Int) + 1)] 2)).alloc (.cells #[.slice (some ⟨wr.heap.size, 0, none⟩) 2 2] 39)) := ((Below.refl _ _).alloc (Nat.le_refl _) _).alloc (by simp) _
              have HT3 : Hid (OwnT w.heap.size w3 v' (k + 1) ((shE q r (k + 1)).map rowP)) := Lib.hid (by
                rw [HKS.out, HRP.out]
                refine OwnT.snoc ((HROW.out.alloc _).alloc _) (fun j hj => ?_) ?_ hgrow hown'
                · obtain ⟨u, e1, e2⟩ := HROWS.out j hj
                  have e3 : ((shE q r k).map rowP ++ [[f0, (q : Int) + 1]]).getD j [] = ((shE q r k).map rowP).getD j [] := by
                    rw [List.getD, List.getElem?_append_left (by have := HLN.out; omega), List.getD]
                  rw [e3]
                  exact ⟨u, e1, owns_up e2 hA2⟩
                · have e3 : ((shE q r k).map rowP ++ [[f0, (q : Int) + 1]]).getD k [] = [f0, (q : Int) + 1] := by
                    have h : ((shE q r k).map rowP ++ [[f0, (q : Int) + 1]])[k]? = some [f0, (q : Int) + 1] := by
                      rw [List.getElem?_append_right (by have := HLN.out; omega), HLN.out, Nat.sub_self]
                      rfl
                    rw [List.getD, h]
                    rfl
                  rw [e3]
                  exact owns_low (hr1.alloc _) hbz.out)
              have hB3 := HB.out.trans (hA2.mono hbz.out)
              have HB3 := Lib.hid (hB3.grown hgrow hB3.size (fun k hk => (HROW.out.lt k hk).1))
              have hn1 := HN.out
              clear hown' hgrow hnil hr1 hA2 hB3 HRP HKS HROW HROWS
              go_wp2
              go_roundw
              case rel => exact ⟨k + 1, by omega, by go_num, by congr 1; omega, HT3.out, HB3.out⟩
              case measure => simp [intOf]; omega
          · have hkr' : ¬ (k : Int) < (r : Int) := by omega
            rw [if_neg hkr, Int.add_zero] at h2k
            rw [h2k] at HN HRP
            clear hA hB hrow hrows h2k
            go_wp2_with (at_builtin; refine wpList_append_own _ rfl _ _ 22 rfl w.heap.size 39 j0 (.slice none 0 0) 1 24 Try.underlying22 hj hq0 hq1 hq2 rfl (by decide) _ _ _ rfl ((HROW.out.alloc _).alloc _) ⟨wr.heap.size + 1, 0, none⟩ 1 1 [.slice (some ⟨wr.heap.size, 0, none⟩) 2 2] ?c0 rfl ?c1 ?c2 ?c3 ?c4 ?c5 ?_)
            try (case c0 => first | rfl | (simp [Act.eval]))
            try (case c1 =>
              intro j u hj
              match j, hj with
              | 0, hj => simp at hj; subst hj; first | (simp [Addr.add]; done) | (simp [Addr.add]))
            case c2 => first | exact rfl | (intro u hu; simp at hu; subst hu; rfl)
            case c3 => unfold maxLen; omega
            case c4 => omega
            case c5 => have := hbz.out; first | omega | (simp; omega)
            · intro v' w3 hown' hgrow hnil
              have hr1 : (wr.alloc (.cells #[.int .i64 f0, .int .i64 ((q : Int))] 2)).ownsRow wr.heap.size 2 1 (.slice (some ⟨wr.heap.size, 0, none⟩) 2 2) 2 (ints [f0, (q : Int)]) :=
                World.ownsRow_lit (base := wr.heap.size) (e := 2) (size := 1) wr #[.int .i64 f0, .int .i64 ((q : Int))] 2 (Nat.le_refl _) (by decide) rfl
              have hA2 : Below wr.heap.size wr ((wr.alloc (.cells #[.int .i64 f0, .int .i64 ((q : Int))] 2)).alloc (.cells #[.slice (some ⟨wr.heap.size, 0, none⟩) 2 2] 39)) := ((Below.refl _ _).alloc (Nat.le_refl _) _).alloc (by simp) _
              have HT3 : Hid (OwnT w.heap.size w3 v' (k + 1) ((shE q r (k + 1)).map rowP)) := Lib.hid (by
                rw [HKS.out, HRP.out]
                refine OwnT.snoc ((HROW.out.alloc _).alloc _) (fun j hj => ?_) ?_ hgrow hown'
                · obtain ⟨u, e1, e2⟩ := HROWS.out j hj
                  have e3 : ((shE q r k).map rowP ++ [[f0, (q : Int)]]).getD j [] = ((shE q r k).map rowP).getD j [] := by
                    rw [List.getD, List.getElem?_append_left (by have := HLN.out; omega), List.getD]
                  rw [e3]
                  exact ⟨u, e1, owns_up e2 hA2⟩
                · have e3 : ((shE q r k).map rowP ++ [[f0, (q : Int)]]).getD k [] = [f0, (q : Int)] := by
                    have h : ((shE q r k).map rowP ++ [[f0, (q : Int)]])[k]? = some [f0, (q : Int)] := by
                      rw [List.getElem?_append_right (by have := HLN.out; omega), HLN.out, Nat.sub_self]
                      rfl
                    rw [List.getD, h]
                    rfl
                  rw [e3]
                  exact owns_low (hr1.alloc _) hbz.out)
              have hB3 := HB.out.trans (hA2.mono hbz.out)
              have HB3 := Lib.hid (hB3.grown hgrow hB3.size (fun k hk => (HROW.out.lt k hk).1))
              have hn1 := HN.out
              clear hown' hgrow hnil hr1 hA2 hB3 HRP HKS HROW HROWS
              go_wp2
              go_roundw
              case rel => exact ⟨k + 1, by omega, by go_num, by congr 1; omega, HT3.out, HB3.out⟩
              case measure => simp [intOf]; omega
        · obtain rfl : k = m := by omega
          obtain ⟨a, cp, rfl, hI⟩ := hO.is (by rw [List.length_map, shE_len]) HWF.out
          have HI := Lib.hid hI
          clear hA hO hB hI
          go_wp2
          go_ret2
          exact ⟨⟨a, cp, by simp [shE_len], by simpa [shE_len] using HI.out⟩, HB.out⟩
    · have hk : shOk c wk = false := by unfold shOk; rw [decide_eq_false h2]; simp
      rw [no hk, hk]
      rw [decide_eq_true h1] at J0
      rw [decide_eq_false h2] at J1
      clear no hk
      go_enter Try.func10, Try.ntmps10
      go_wp2_with fail
      refine (J0.out w).mono ?_
      rintro e w1 ⟨rfl, hw1⟩
      rw [hw1]
      clear hw1
      go_wp2_with fail
      refine (J1.out w).mono ?_
      rintro e w1 ⟨rfl, hw1⟩
      rw [hw1]
      clear hw1
      go_wp2
      go_ret2
      exact ⟨⟨none, 0, rfl, ⟨rfl, Nat.le_refl _, by unfold maxLen; omega, fun _ => ⟨rfl, rfl⟩, fun x hx => (by cases hx)⟩⟩, Below.refl _ _⟩
  · have hk : shOk c wk = false := by unfold shOk; rw [decide_eq_false h1]; rfl
    rw [no hk, hk]
    rw [decide_eq_false h1] at J0
    clear no hk
    go_enter Try.func10, Try.ntmps10
    go_wp2_with fail
    refine (J0.out w).mono ?_
    rintro e w1 ⟨rfl, hw1⟩
    rw [hw1]
    clear hw1
    go_wp2
    go_ret2
    exact ⟨⟨none, 0, rfl, ⟨rfl, Nat.le_refl _, by unfold maxLen; omega, fun _ => ⟨rfl, rfl⟩, fun x hx => (by cases hx)⟩⟩, Below.refl _ _⟩
end Go.Proofs.Ytockhhfehjoldab

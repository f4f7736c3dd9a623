
/-
The places that are not held: the model. Conditions: both lists lie in memory.
-/
import Derived.Test.YtajglpkeojaelaaArI
import Derived.Test.YtajglpkeojaelaaFpM
namespace Go.Proofs.Ytajglpkeojaelaa
open Go Fk Go.RowKit
set_option linter.unusedVariables false
set_option maxRecDepth 16000

def hasL (L : List Int) (z : Int) : Bool := L.any (fun x => decide (x = z))
def hpL (hs : List HC) : Nat → List Int
  | 0 => []
  | k + 1 => hpL hs k ++ [(hs.getD k hd0).1]
def frL (L : List Int) : Nat → List Int
  | 0 => []
  | k + 1 => frL L k ++ bif hasL L k then [] else [(k : Int)]
def frO (cs : List C3) (ts : List (List Int)) (hs : List HC) : List Int := bif areB cs ts hs then frL (hpL hs hs.length) cs.length else []
theorem hpL_len (hs : List HC) (k : Nat) : (hpL hs k).length = k := by
  induction k with
  | zero => rfl
  | succ k ih => show (hpL hs k ++ _).length = _; simp [ih]
theorem hpL_wf (hs : List HC) (h : ∀ s ∈ hs, (Lit.int .i64 s.1).wf = true) (k : Nat) (hk : k ≤ hs.length) : ∀ z ∈ hpL hs k, (Lit.int .i64 z).wf = true := by
  induction k with
  | zero => intro z hz; cases hz
  | succ k ih =>
    intro z hz
    rcases List.mem_append.1 hz with h1 | h1
    · exact ih (by omega) z h1
    · simp at h1
      subst h1
      have hl : k < hs.length := by omega
      have : hs[k]?.getD hd0 = hs[k] := by simp [hl]
      rw [this]
      exact h _ (List.getElem_mem hl)
theorem frL_len (L : List Int) (k : Nat) : (frL L k).length ≤ k := by
  induction k with
  | zero => exact Nat.le_refl _
  | succ k ih =>
    show (frL L k ++ _).length ≤ _
    cases hasL L k <;> simp <;> omega
theorem frL_no {L : List Int} {k : Nat} (h : hasL L k = true) : frL L (k + 1) = frL L k := by
  show frL L k ++ _ = _; rw [h]; simp
theorem frL_yes {L : List Int} {k : Nat} (h : hasL L k = false) : frL L (k + 1) = frL L k ++ [(k : Int)] := by
  show frL L k ++ _ = _; rw [h]; rfl
theorem frL_wf (L : List Int) (k : Nat) (hk : k ≤ 1048576) : ∀ z ∈ frL L k, (Lit.int .i64 z).wf = true := by
  induction k with
  | zero => intro z hz; cases hz
  | succ k ih =>
    intro z hz
    unfold frL at hz
    rcases List.mem_append.1 hz with h | h
    · exact ih (by omega) z h
    · cases hb : hasL L k <;> rw [hb] at h <;> simp at h
      subst h
      show (decide (IntKind.i64.min ≤ (k : Int)) && decide ((k : Int) ≤ IntKind.i64.max)) = true
      rw [show IntKind.i64.min = -9223372036854775808 by decide, show IntKind.i64.max = 9223372036854775807 by decide]
      simp; omega
theorem hasL_yes {L : List Int} {z : Int} {k : Nat} (hk : k < L.length) (h : L.getD k 0 = z) : hasL L z = true := by
  have : L.getD k 0 = L[k] := by simp [List.getD, hk]
  rw [this] at h
  exact List.any_eq_true.2 ⟨L[k], List.getElem_mem hk, decide_eq_true h⟩
theorem hasL_no {L : List Int} {z : Int} (h : ∀ j, j < L.length → L.getD j 0 ≠ z) : hasL L z = false := by
  rw [Bool.eq_false_iff]
  intro hh
  obtain ⟨x, hx, he⟩ := List.any_eq_true.1 hh
  obtain ⟨j, hj, rfl⟩ := List.getElem_of_mem hx
  have := h j hj
  simp [List.getD, hj] at this
  exact this (of_decide_eq_true he)
theorem l00Has (a : Option Addr) (n cap : Nat) (L : List Int) (p : Int) (w : World) (h : IsIs w a n cap L) :
    Calls Try.prog 94 #[.slice a n cap, .int .i64 p] w fun e w' => e = .returned (.bool (hasL L p)) ∧ w' = w := by
  have hm : n ≤ 9223372036854775807 := by have h1 := h.2.1; have h2 := h.2.2.1; unfold maxLen at h2; omega
  have hl := h.1
  have H := Lib.hid h
  clear h
  go_enter Try.func94, Try.ntmps94
  go_wp2
  go_loopw [5] (fun i w' => ∃ k : Nat, k ≤ n ∧ i = .int .i64 k ∧ w' = w ∧ Aside (∀ j, j < k → L.getD j 0 ≠ p)) (fun i _ => n - (intOf i).toNat)
  case atStart => exact ⟨0, Nat.zero_le _, rfl, rfl, fun j hj => absurd hj (by omega)⟩
  case round =>
    obtain ⟨k, hk, rfl, rfl, hA⟩ := hrel
    have HA := Lib.hid hA.out
    clear hA
    by_cases hlt : k < n
    · obtain ⟨b, o, rfl, hcell⟩ := H.out.some (by omega)
      have hc0 := hcell k hlt
      have hk0 : (0 : Int) ≤ (k : Int) := by omega
      have hk1 : (k : Int) < (n : Int) := by omega
      have HZ := Lib.hid (fun (e : L.getD k 0 = p) => hasL_yes (by omega) e)
      have HN : Hid (L.getD k 0 ≠ p → ∀ j, j < k + 1 → L.getD j 0 ≠ p) := Lib.hid (fun e j hj => by
        by_cases hjk : j = k
        · subst hjk; exact e
        · exact HA.out j (by omega))
      clear hcell
      generalize L.getD k 0 = z at *
      by_cases hz : z = p
      · have HR := Lib.hid (HZ.out hz)
        subst hz
        clear HZ HN
        go_wp2
        go_ret
        exact ⟨ret_bool HR.out.symm, by first | rfl | trivial⟩
      · have HR := Lib.hid (HN.out hz)
        have hze : (z == p) = false := by simp [hz]
        clear HZ HN
        go_wp2
        go_roundw
        case rel => exact ⟨k + 1, by omega, by go_num, by first | rfl | trivial, HR.out⟩
        case measure => simp [intOf]; omega
    · obtain rfl : k = n := by omega
      have HR := Lib.hid (hasL_no (fun j hj => HA.out j (by omega)))
      go_wp2
      go_ret
      exact ⟨ret_bool HR.out.symm, by first | rfl | trivial⟩
set_option maxHeartbeats 4000000 in
theorem spec_FreePlaces (pa ta ha : Option Addr) (pl pc tl tc hl hc : Nat) (cs : List C3) (ts : List (List Int)) (hs : List HC) (w : World) (hp : IsVs w pa pl pc cs) (ht : IsTs w ta tl tc ts) (hh : IsHs w ha hl hc hs) (hb : hl ≤ 1048576 ∧ pl ≤ 1048576) :
    Calls Try.prog 49 #[.agg #[.slice pa pl pc, .slice ta tl tc], .slice ha hl hc] w fun e w' => ∃ v, e = .returned (.tuple #[v, .bool (areB cs ts hs)]) ∧ w'.ownsRow w.heap.size 2 1 v (frO cs ts hs).length ((frO cs ts hs).map (Value.int .i64)) ∧ Below w.heap.size w w' := by
  have ui := Try.underlying38
  have uh := Try.underlying119
  obtain ⟨i0, hi, hz0, hz1, hz2⟩ := info_parts info64
  obtain ⟨hb1, hb2⟩ := hb
  have hll := hh.1
  have hpl := hp.1
  have HWF := Lib.hid (fun s hs => (hh.2.2.2.1 s hs).1)
  have BX : Hid (Bx w [(w.heap.size, [.slice pa pl pc, .slice ta tl tc])] (w.alloc (.cells #[.slice pa pl pc, .slice ta tl tc] 38))) := Lib.hid ((Bx.nil w).box (vs := [.slice pa pl pc, .slice ta tl tc]) (t := 38))
  have J := Lib.hid (l04Are w.heap.size pa ta ha pl pc tl tc hl hc cs ts hs _ ((BX.out.mem (.head _)) 0 _ rfl) ((BX.out.mem (.head _)) 1 _ rfl) (hp.below BX.out.bel) (ht.below BX.out.bel) (hh.below BX.out.bel))
  have HH := Lib.hid hh
  unfold frO
  rw [hll, hpl]
  clear hp ht hh
  cases hv : areB cs ts hs
  · rw [hv] at J
    clear hv
    go_enter Try.func49, Try.ntmps49
    go_wp2_with fail
    refine J.out.mono ?_
    rintro e w1 ⟨rfl, hB1⟩
    have BX1 := Lib.hid (BX.out.call hB1)
    clear hB1
    go_wp2
    go_ret2
    exact ⟨_, rfl, World.ownsRow_nil _ _ _ _, BX1.out.bel⟩
  · rw [hv] at J
    clear hv
    show Calls _ _ _ _ (fun e w' => ∃ v, e = .returned (.tuple #[v, .bool true]) ∧ w'.ownsRow w.heap.size 2 1 v (frL (hpL hs hl) pl).length ((frL (hpL hs hl) pl).map (Value.int .i64)) ∧ Below w.heap.size w w')
    obtain ⟨L, hL⟩ : ∃ L, hpL hs hl = L := ⟨_, rfl⟩
    rw [hL]
    have HL := Lib.hid hL
    clear hL
    go_enter Try.func49, Try.ntmps49
    go_wp2_with fail
    refine J.out.mono ?_
    rintro e w1 ⟨rfl, hB1⟩
    have BX1 := Lib.hid (BX.out.call hB1)
    clear hB1 J
    go_wp2
    go_loopw [6, 7] (fun v i w' => ∃ k : Nat, k ≤ hl ∧ i = .int .i64 k ∧ Aside (w'.ownsRow w1.heap.size 2 1 v (hpL hs k).length ((hpL hs k).map (Value.int .i64)) ∧ Below w1.heap.size w1 w')) (fun _ i _ => hl - (intOf i).toNat)
    case atStart => exact ⟨0, Nat.zero_le _, rfl, by simpa [hpL] using World.ownsRow_lit (e := 2) (size := 1) w1 #[] 0 (Nat.le_refl _) (by decide) rfl, (Below.refl _ _).alloc (Nat.le_refl _) _⟩
    case round =>
      obtain ⟨k, hk, rfl, hA⟩ := hrel
      obtain ⟨hown, hB⟩ := hA.out
      have HB := Lib.hid hB
      have HOWN := Lib.hid hown
      have BXK := Lib.hid (BX1.out.call hB)
      by_cases hlt : k < hl
      · obtain ⟨b, o, rfl, hcell⟩ := (HH.out.below BXK.out.bel).some (by omega)
        obtain ⟨h, hq, hi'⟩ := hcell k hlt
        have hk0 : (0 : Int) ≤ (k : Int) := by omega
        have hk1 : (k : Int) < (hl : Int) := by omega
        have c0 := hq 0 (by omega)
        simp only [HW.l, List.getElem?_cons_zero, List.getElem?_cons_succ, Nat.add_zero] at c0
        have HN : Hid (hpL hs (k + 1) = hpL hs k ++ [h.p]) := Lib.hid (by rw [hi'.1]; rfl)
        have hal := hpL_len hs k
        have hbz := Lib.hid hB.size
        clear hA hB hown hcell hq hi'
        generalize h.p = z at *
        go_wp2_with (at_builtin; refine wpList_append_own _ rfl _ _ 33 rfl w1.heap.size 2 i0 (.int .i64 0) 1 8 Try.underlying33 hi hz0 hz1 hz2 rfl (by decide) _ _ _ rfl (HOWN.out.alloc _) ⟨wr.heap.size, 0, none⟩ 1 1 [.int .i64 z] rfl rfl ?c1 ?c2 ?c3 ?c4 ?c5 ?_)
        case c1 =>
          intro j u hj
          match j, hj with
          | 0, hj => simp at hj; subst hj; simp [Addr.add]
        case c2 => intro u hu; simp at hu; subst hu; rfl
        case c3 => unfold maxLen; omega
        case c4 => omega
        case c5 => have := hbz.out; simp; omega
        · intro v' w2 hown' hgrow _
          have hB1 : Below w1.heap.size w1 (wr.alloc (.cells #[.int .i64 z] 2)) := HB.out.alloc hbz.out _
          have HB1 := Lib.hid (hB1.grown hgrow hB1.size (fun k hk => (HOWN.out.lt k hk).1))
          have HO1 := Lib.hid hown'
          clear hown' hgrow hB1
          go_wp2
          go_roundw
          case rel => exact ⟨k + 1, by omega, by go_num, by rw [HN.out]; simpa [hpL_len] using HO1.out, HB1.out⟩
          case measure => simp [intOf]; omega
      · obtain rfl : k = hl := by omega
        clear hA hB hown
        have hL0 := hpL_len hs k
        have HLW : Hid (∀ z ∈ L, (Lit.int .i64 z).wf = true) := Lib.hid (by rw [← HL.out]; exact hpL_wf hs HWF.out k (by omega))
        rw [HL.out] at HOWN hL0
        obtain ⟨la, lc, rfl, hli, hls⟩ := owns_list HOWN.out HLW.out
        have LI := Lib.hid hli
        have HLL := Lib.hid hL0
        clear hli hls hL0 HOWN
        have m0 := (BXK.out.mem (.head _)) 0 _ rfl
        go_wp2
        go_loopw [8, 9] (fun v i w' => ∃ q : Nat, q ≤ pl ∧ i = .int .i64 q ∧ Aside (w'.ownsRow wr.heap.size 2 1 v (frL L q).length ((frL L q).map (Value.int .i64)) ∧ Below wr.heap.size wr w')) (fun _ i _ => pl - (intOf i).toNat)
        case atStart => exact ⟨0, Nat.zero_le _, rfl, by simpa [frL] using World.ownsRow_lit (e := 2) (size := 1) wr #[] 0 (Nat.le_refl _) (by decide) rfl, (Below.refl _ _).alloc (Nat.le_refl _) _⟩
        case round =>
          rename_i w9 _
          obtain ⟨q, hq, rfl, hA⟩ := hrel
          obtain ⟨hown, hB⟩ := hA.out
          replace m0 := cell_below hB m0
          have HB := Lib.hid hB
          have HOWN := Lib.hid hown
          have hbz := Lib.hid hB.size
          have hal := frL_len L q
          have JH := Lib.hid (l00Has la L.length lc L q _ (LI.out.below hB))
          clear hA hB hown
          by_cases hlt2 : q < pl
          · have hq0 : (0 : Int) ≤ (q : Int) := by omega
            have hq1 : (q : Int) < (pl : Int) := by omega
            cases hb : hasL L q
            · have HN := Lib.hid (frL_yes hb)
              rw [hb] at JH
              clear hb
              go_wp2_with (first
                | (go_at_call 94; refine (JH.out).mono ?_; rintro e w2 ⟨rfl, hw2⟩; rw [hw2])
                | (at_builtin; refine wpList_append_own _ rfl _ _ 33 rfl _ 2 i0 (.int .i64 0) 1 8 Try.underlying33 hi hz0 hz1 hz2 rfl (by decide) _ _ _ rfl (HOWN.out.alloc _) ⟨wr.heap.size, 0, none⟩ 1 1 [.int .i64 (q : Int)] rfl rfl ?c1 ?c2 ?c3 ?c4 ?c5 ?_))
              case c1 =>
                intro j u hj
                match j, hj with
                | 0, hj => simp at hj; subst hj; simp [Addr.add]
              case c2 => intro u hu; simp at hu; subst hu; rfl
              case c3 => unfold maxLen; omega
              case c4 => omega
              case c5 => have := hbz.out; simp; omega
              · intro v' w3 hown' hgrow _
                have hB1 := HB.out.alloc hbz.out (.cells #[.int .i64 (q : Int)] 2)
                have HB1 := Lib.hid (hB1.grown hgrow hB1.size (fun k hk => (HOWN.out.lt k hk).1))
                have HO1 := Lib.hid hown'
                clear hown' hgrow hB1
                go_wp2
                go_roundw
                case rel => exact ⟨q + 1, by omega, by go_num, by rw [HN.out]; simpa using HO1.out, HB1.out⟩
                case measure => simp [intOf]; omega
            · have HN := Lib.hid (frL_no hb)
              rw [hb] at JH
              clear hb
              go_wp2_with (go_at_call 94; refine (JH.out).mono ?_; rintro e w2 ⟨rfl, hw2⟩; rw [hw2])
              go_roundw
              case rel => exact ⟨q + 1, by omega, by go_num, by rw [HN.out]; exact HOWN.out, HB.out⟩
              case measure => simp [intOf]; omega
          · obtain rfl : q = pl := by omega
            go_wp2
            go_ret2
            exact ⟨_, rfl, owns_mono HOWN.out BXK.out.bel.size, BXK.out.bel.trans (HB.out.mono BXK.out.bel.size)⟩
end Go.Proofs.Ytajglpkeojaelaa


/-
Which lists are holds of a mesh: the program. Conditions: none beyond that both lie in memory.
-/
import Derived.Test.YtljpjmkickkcpaaHlA
import Derived.Test.YtljpjmkickkcpaaHoD
import Derived.Test.YtljpjmkickkcpaaOv
import Derived.Test.YtljpjmkickkcpaaMwI
namespace Go.Proofs.Ytljpjmkickkcpaa
open Go Fk Go.RowKit
set_option linter.unusedVariables false
set_option maxRecDepth 8000

/-- A hold of a list is in its place. -/
def stepB (n : Nat) (hs : List HC) (k : Nat) : Bool := holdB (hs.getD k hd0) && (inB n (hs.getD k hd0).1 && (decide (k = 0) || decide ((hs.getD (k - 1) hd0).1 < (hs.getD k hd0).1)))
def goodB (n : Nat) (hs : List HC) : Bool := (List.range hs.length).all (stepB n hs)
def areB (cs : List C3) (ts : List (List Int)) (hs : List HC) : Bool := validB cs ts && goodB cs.length hs
theorem good_not {n : Nat} {hs : List HC} {k : Nat} (hk : k < hs.length) (h : stepB n hs k = false) : goodB n hs = false := by
  rw [Bool.eq_false_iff]
  intro hh
  have := List.all_eq_true.1 hh k (List.mem_range.2 hk)
  rw [this] at h; cases h
theorem good_all {n : Nat} {hs : List HC} (h : ∀ j, j < hs.length → stepB n hs j = true) : goodB n hs = true := by
  unfold goodB
  rw [List.all_eq_true]
  intro j hj
  exact h j (List.mem_range.1 hj)
theorem good_at {n : Nat} {hs : List HC} (h : goodB n hs = true) {k : Nat} (hk : k < hs.length) : stepB n hs k = true := List.all_eq_true.1 h k (List.mem_range.2 hk)
/-- The least place that may be held next. -/
def freeZ (hs : List HC) (k : Nat) : Int := if k = 0 then 0 else (hs.getD (k - 1) hd0).1 + 1
set_option maxHeartbeats 2000000 in
theorem impl_AreHolds (pa ta ha : Option Addr) (pl pc tl tc hl hc : Nat) (cs : List C3) (ts : List (List Int)) (hs : List HC) (w : World) (hp : IsVs w pa pl pc cs) (ht : IsTs w ta tl tc ts) (hh : IsHs w ha hl hc hs) :
    Calls Try.prog 23 #[.agg #[.slice pa pl pc, .slice ta tl tc], .slice ha hl hc] w fun e w' => e = .returned (.bool (areB cs ts hs)) ∧ Below w.heap.size w w' := by
  have ui := Try.underlying43
  have uh := Try.underlying30
  have u := Try.underlying2
  have BX : Hid (Bx w [(w.heap.size, [.slice pa pl pc, .slice ta tl tc])] (w.alloc (.cells #[.slice pa pl pc, .slice ta tl tc] 43))) := Lib.hid ((Bx.nil w).box (vs := [.slice pa pl pc, .slice ta tl tc]) (t := 43))
  have hpl := hp.1
  have hll := hh.1
  have hwf := hh.2.2.2.1
  have hm : hl ≤ 9223372036854775807 := by have h1 := hh.2.1; have h2 := hh.2.2.1; unfold maxLen at h2; omega
  have JV := impl_ValidMesh _ _ _ _ _ _ cs ts (w.alloc (.cells #[.slice pa pl pc, .slice ta tl tc] 43)) (hp.below BX.out.bel) (ht.below BX.out.bel)
  have HH := Lib.hid hh
  have HWF := Lib.hid hwf
  unfold areB
  rw [hpl]
  clear hp ht hh hwf
  cases hv : validB cs ts
  · rw [hv] at JV
    have JV := Lib.hid JV
    clear hv hpl
    go_enter Try.func23, Try.ntmps23
    go_wp2_with fail
    generalize (w.alloc (.cells #[.slice pa pl pc, .slice ta tl tc] 43)) = W at *
    refine JV.out.mono ?_
    rintro e w1 ⟨rfl, hB1⟩
    have BX1 := Lib.hid (BX.out.call hB1)
    clear hB1
    go_wp2
    go_ret
    exact ⟨rfl, BX1.out.bel⟩
  · rw [hv] at JV
    have JV := Lib.hid JV
    have h64 : pl ≤ 64 := by have : cs.length ≤ 64 := by { unfold validB at hv; simp at hv; exact hv.1.1 }; omega
    clear hv
    go_enter Try.func23, Try.ntmps23
    go_wp2_with fail
    generalize (w.alloc (.cells #[.slice pa pl pc, .slice ta tl tc] 43)) = W at *
    refine JV.out.mono ?_
    rintro e w1 ⟨rfl, hB1⟩
    have BX1 := Lib.hid (BX.out.call hB1)
    clear hB1
    go_wp2
    go_loopw [5, 13] (fun f i w' => ∃ k : Nat, k ≤ hl ∧ i = .int .i64 k ∧ f = .int .i64 (freeZ hs k) ∧ Aside (Bx w [(w.heap.size, [.slice pa pl pc, .slice ta tl tc])] w' ∧ ∀ j, j < k → stepB pl hs j = true)) (fun _ i _ => hl - (intOf i).toNat)
    case atStart => exact ⟨0, Nat.zero_le _, rfl, rfl, BX1.out, fun j hj => absurd hj (by omega)⟩
    case round =>
      obtain ⟨k, hk, rfl, rfl, hA⟩ := hrel
      have BK := Lib.hid hA.out.1
      have OK := Lib.hid hA.out.2
      clear hA
      by_cases hlt : k < hl
      · obtain ⟨b, o, hha, hcell⟩ := (HH.out.below BK.out.bel).some (by omega)
        obtain ⟨h, hq, hi⟩ := hcell k hlt
        have hk0 : (0 : Int) ≤ (k : Int) := by omega
        have hk1 : (k : Int) < (hl : Int) := by omega
        have hstep : stepB pl hs k = (holdB (hs.getD k hd0) && (inB pl (hs.getD k hd0).1 && (decide (k = 0) || decide ((hs.getD (k - 1) hd0).1 < (hs.getD k hd0).1)))) := rfl
        have hprev : ∀ j, j < k → (hs.getD j hd0).1 < 64 ∧ 0 ≤ (hs.getD j hd0).1 := by
          intro j hj
          have := OK.out j hj
          unfold stepB at this
          simp only [Bool.and_eq_true] at this
          have h2 := of_decide_eq_true this.2.1
          omega
        have hfz : freeZ hs k = if k = 0 then 0 else (hs.getD (k - 1) hd0).1 + 1 := rfl
        have JI := Lib.hid (fun w => impl_IsHold h (hs.getD k hd0) w hi)
        have hpz : h.p = (hs.getD k hd0).1 := hi.1
        have hgood : holdB (hs.getD k hd0) = true → 0 ≤ h.p := by
          intro hb
          unfold holdB at hb
          simp only [Bool.and_eq_true] at hb
          rw [hpz]; exact of_decide_eq_true hb.1
        have hlk : k < hs.length := by omega
        have hfree0 : 0 ≤ freeZ hs k ∧ freeZ hs k ≤ 64 := by
          rw [hfz]
          by_cases h0 : k = 0
          · rw [if_pos h0]; omega
          · rw [if_neg h0]; have := hprev (k - 1) (by omega); omega
        have hwfp := (HWF.out (hs.getD k hd0) (by
          have : hs.getD k hd0 = hs[k] := by simp [List.getD, hlk]
          rw [this]; exact List.getElem_mem hlk)).1
        have c0 := hq 0 (by omega)
        have c1 := hq 1 (by omega)
        have c2 := hq 2 (by omega)
        have c3 := hq 3 (by omega)
        have c4 := hq 4 (by omega)
        have c5 := hq 5 (by omega)
        have c6 := hq 6 (by omega)
        have c7 := hq 7 (by omega)
        simp only [HW.l, List.getElem?_cons_zero, List.getElem?_cons_succ, Nat.add_zero] at c0 c1 c2 c3 c4 c5 c6 c7
        rw [hha]
        have HHA := Lib.hid hha
        have BKB := BK.out.box (vs := h.l) (t := 30)
        have HQI := Lib.hid hi
        clear hcell hq hi hha
        cases hb : holdB (hs.getD k hd0)
        · rw [hb] at JI hstep
          have hres : goodB pl hs = false := good_not hlk (by rw [hstep]; rfl)
          have HR := Lib.hid hres
          clear hb hstep hprev hfz hgood hres hfree0 hpz hwfp
          generalize freeZ hs k = fz at *
          go_wp2_with fail
          have BB := Lib.hid BKB
          clear c0 c1 c2 c3 c4 c5 c6 c7 BKB
          change Hid (Bx w _ (wr.alloc (HBox h 30))) at BB
          change Calls _ _ _ (wr.alloc (HBox h 30)) _
          generalize (wr.alloc (HBox h 30)) = W3 at *
          refine (JI.out _).mono ?_
          rintro e w2 ⟨rfl, hB2⟩
          have BX2 := Lib.hid (BB.out.call hB2)
          clear hB2
          go_wp2
          go_ret
          exact ⟨ret_bool (by rw [HR.out]; rfl), BX2.out.bel⟩
        · rw [hb] at JI hstep
          have hp0 := hgood hb
          clear hb hgood
          by_cases hfl : h.p < freeZ hs k
          · have hres : goodB pl hs = false := good_not hlk (by
              rw [hstep]
              by_cases h0 : k = 0
              · rw [hfz, if_pos h0] at hfl; omega
              · rw [hfz, if_neg h0] at hfl
                rw [decide_eq_false h0, decide_eq_false (by rw [← hpz]; omega)]
                cases inB pl (hs.getD k hd0).1 <;> rfl)
            have HR := Lib.hid hres
            clear hstep hprev hfz hres hpz hwfp
            generalize freeZ hs k = fz at *
            go_wp2_with fail
            have BB := Lib.hid BKB
            clear c0 c1 c2 c3 c4 c5 c6 c7 BKB
            change Hid (Bx w _ (wr.alloc (HBox h 30))) at BB
            change Calls _ _ _ (wr.alloc (HBox h 30)) _
            generalize (wr.alloc (HBox h 30)) = W3 at *
            generalize wr.heap.size = PB at *
            refine (JI.out _).mono ?_
            rintro e w2 ⟨rfl, hB2⟩
            have BX2 := Lib.hid (BB.out.call hB2)
            have m0 := (BX2.out.mem (.head _)) 0 _ rfl
            clear hB2
            go_wp2
            go_ret
            exact ⟨ret_bool (by rw [HR.out]; rfl), BX2.out.bel⟩
          · have JX := Lib.hid (fun w => impl_isIndex h.p pl w)
            cases hb2 : inB pl h.p
            · rw [hb2] at JX
              have hres : goodB pl hs = false := good_not hlk (by rw [hstep, ← hpz, hb2]; rfl)
              have HR := Lib.hid hres
              clear hstep hprev hfz hres hb2 hpz hwfp
              generalize freeZ hs k = fz at *
              go_wp2_with fail
              have BB := Lib.hid BKB
              clear c0 c1 c2 c3 c4 c5 c6 c7 BKB
              change Hid (Bx w _ (wr.alloc (HBox h 30))) at BB
              change Calls _ _ _ (wr.alloc (HBox h 30)) _
              generalize (wr.alloc (HBox h 30)) = W3 at *
              generalize wr.heap.size = PB at *
              refine (JI.out _).mono ?_
              rintro e w2 ⟨rfl, hB2⟩
              have BX2 := Lib.hid (BB.out.call hB2)
              have m0 := (BX2.out.mem (.head _)) 0 _ rfl
              have m1 := (BX2.out.mem (.tail _ (.head _))) 0 _ rfl
              clear hB2
              go_wp2_with fail
              refine (JX.out _).mono ?_
              rintro e w3 ⟨rfl, hw3⟩
              rw [hw3]; clear hw3 w3
              go_wp2
              go_ret
              exact ⟨ret_bool (by rw [HR.out]; rfl), BX2.out.bel⟩
            · rw [hb2] at JX
              have hpn := of_decide_eq_true hb2
              have hok : ∀ j, j < k + 1 → stepB pl hs j = true := by
                intro j hj
                by_cases hjk : j = k
                · subst hjk
                  rw [hstep, ← hpz, hb2]
                  by_cases h0 : j = 0
                  · rw [decide_eq_true h0]; rfl
                  · rw [hfz, if_neg h0] at hfl
                    rw [decide_eq_true (show (hs.getD (j - 1) hd0).1 < h.p by omega)]
                    simp
                · exact OK.out j (by omega)
              have hnext : freeZ hs (k + 1) = h.p + 1 := by unfold freeZ; rw [if_neg (by omega), Nat.add_sub_cancel, hpz]
              have HOK := Lib.hid hok
              have HNX := Lib.hid hnext
              clear hstep hprev hfz hb2 hok hnext hpz hwfp
              generalize hfe : freeZ hs k = fz at *
              clear hfe
              go_wp2_with fail
              have BB := Lib.hid BKB
              clear c0 c1 c2 c3 c4 c5 c6 c7 BKB
              change Hid (Bx w _ (wr.alloc (HBox h 30))) at BB
              change Calls _ _ _ (wr.alloc (HBox h 30)) _
              generalize (wr.alloc (HBox h 30)) = W3 at *
              generalize wr.heap.size = PB at *
              refine (JI.out _).mono ?_
              rintro e w2 ⟨rfl, hB2⟩
              have BX2 := Lib.hid (BB.out.call hB2)
              have m0 := (BX2.out.mem (.head _)) 0 _ rfl
              have m1 := (BX2.out.mem (.tail _ (.head _))) 0 _ rfl
              clear hB2
              go_wp2_with fail
              refine (JX.out _).mono ?_
              rintro e w3 ⟨rfl, hw3⟩
              rw [hw3]; clear hw3 w3
              have hwrap : IntKind.i64.wrap (h.p + 1) = h.p + 1 := IntWalk.i64_in _ (by omega)
              go_wp2
              go_roundw
              case rel => exact ⟨k + 1, by omega, by go_num, by rw [HNX.out], BX2.out.drop, HOK.out⟩
              case measure => simp [intOf]; omega
      · obtain rfl : k = hl := by omega
        have hres : goodB pl hs = true := good_all (fun j hj => OK.out j (by omega))
        have HR := Lib.hid hres
        clear hres
        go_wp2
        go_ret
        exact ⟨ret_bool (by rw [HR.out]; rfl), BK.out.bel⟩
end Go.Proofs.Ytljpjmkickkcpaa

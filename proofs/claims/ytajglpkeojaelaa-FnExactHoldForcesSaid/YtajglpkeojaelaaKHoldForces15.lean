/-
Texts in one: what HoldForces stands on, part 15. Conditions: those of each.
-/
import Derived.Test.YtajglpkeojaelaaKHoldForces14

/-
Which meshes are valid: what the program and its model return. Conditions: none.
-/
namespace Go.Proofs.Ytajglpkeojaelaa
open Go Fk Go.RowKit
set_option linter.unusedVariables false
set_option maxRecDepth 8000

def validB (cs : List C3) (ts : List (List Int)) : Bool := decide (cs.length ≤ 64) && decide (ts.length ≤ 128) && ts.all (triB cs.length)
theorem all_take {n : Nat} {ts : List (List Int)} (h : ∀ j, j < ts.length → triB n (ts.getD j []) = true) : ts.all (triB n) = true := by
  rw [List.all_eq_true]
  intro x hx
  obtain ⟨i, hi, rfl⟩ := List.mem_iff_getElem.1 hx
  have := h i hi
  simpa [List.getD, hi] using this
theorem all_not {n : Nat} {ts : List (List Int)} {k : Nat} (hk : k < ts.length) (h : triB n (ts.getD k []) = false) : ts.all (triB n) = false := by
  rw [Bool.eq_false_iff]
  intro hh
  have := List.all_eq_true.1 hh (ts[k]) (List.getElem_mem hk)
  have h' : triB n ts[k] = false := by simpa [List.getD, hk] using h
  rw [this] at h'; cases h'
theorem impl_ValidMesh (pa ta : Option Addr) (pl pc tl tc : Nat) (cs : List C3) (ts : List (List Int)) (w : World) (hp : IsVs w pa pl pc cs) (ht : IsTs w ta tl tc ts) :
    Calls Try.prog 86 #[.agg #[.slice pa pl pc, .slice ta tl tc]] w fun e w' => e = .returned (.bool (validB cs ts)) ∧ Below w.heap.size w w' := by
  have ui := Try.underlying38
  have hpl := hp.1
  have htl := ht.1
  unfold validB
  rw [hpl, htl]
  have hB0 : Below w.heap.size w (w.alloc (.cells #[.slice pa pl pc, .slice ta tl tc] 38)) := (Below.refl _ _).alloc (Nat.le_refl _) _
  have HB0 := Lib.hid hB0
  by_cases h1 : pl ≤ 64
  · by_cases h2 : tl ≤ 128
    · have g1 : ¬ (64 : Int) < pl := by omega
      have g2 : ¬ (128 : Int) < tl := by omega
      rw [decide_eq_true h1, decide_eq_true h2]
      have ht' := ht.below hB0
      have HTL := Lib.hid htl
      clear hp ht hB0 hpl htl
      have c0 : (w.alloc (.cells #[.slice pa pl pc, .slice ta tl tc] 38)).cell? ⟨w.heap.size, 0, none⟩ = some (.slice pa pl pc) := by go_simp
      go_enter Try.func86, Try.ntmps86
      go_wp2_with fail
      generalize w.alloc (.cells #[.slice pa pl pc, .slice ta tl tc] 38) = W at c0 ht' HB0 ⊢
      have hm : tl ≤ 9223372036854775807 := by omega
      go_loopw [18] (fun i w' => ∃ k : Nat, k ≤ tl ∧ i = .int .i64 k ∧ Aside (∀ j, j < k → triB pl (ts.getD j []) = true) ∧ ∃ n, w' = W.drewN n) (fun i _ => tl - (intOf i).toNat)
      case atStart => exact ⟨0, Nat.zero_le _, rfl, (fun j hj => absurd hj (by omega)), 0, rfl⟩
      case round =>
        obtain ⟨k, hk, rfl, hall, n, hw⟩ := hrel
        by_cases hlt : k < tl
        · obtain ⟨b, o, rfl, hcell⟩ := (ht'.drew hw).some (by omega)
          obtain ⟨r1, n1, q1, c1, i1⟩ := hcell k hlt
          have c0' : wr.cell? ⟨w.heap.size, 0, none⟩ = some (.slice pa pl pc) := by rw [hw]; exact c0
          have hJ := fun w (hi : IsIs w r1 n1 q1 (ts.getD k [])) => impl_isTriangle r1 n1 q1 (ts.getD k []) pl w hi
          have HW := Lib.hid hw
          have hk0 : (0 : Int) ≤ (k : Int) := by omega
          have hk1 : (k : Int) < (tl : Int) := by omega
          cases hb : triB pl (ts.getD k [])
          · have hres : Aside ((true && true && ts.all (triB pl)) = false) := by show (true && true && ts.all (triB pl)) = false; rw [all_not (by rw [HTL.out]; exact hlt) hb]; rfl
            rw [hb] at hJ
            have HJ := Lib.hid (hJ wr i1)
            clear hcell ht' hw i1 hJ hall hb
            go_wp2_with (go_at_call 143; refine HJ.out.mono ?_; rintro e w1 ⟨rfl, m, rfl⟩)
            go_ret
            exact ⟨ret_bool hres.out.symm, by rw [HW.out, World.drewN_drewN]; exact below_drewN HB0.out _⟩
          · have hall' : Aside (∀ j, j < k + 1 → triB pl (ts.getD j []) = true) := by
              intro j hj
              by_cases hjk : j = k
              · subst hjk; exact hb
              · exact hall.out j (by omega)
            rw [hb] at hJ
            have HJ := Lib.hid (hJ wr i1)
            clear hcell ht' hw i1 hJ hall hb
            go_wp2_with (go_at_call 143; refine HJ.out.mono ?_; rintro e w1 ⟨rfl, m, rfl⟩)
            go_roundw
            case rel => exact ⟨k + 1, by omega, by go_num, hall', drewn_end HW.out⟩
            case measure => simp [intOf]; omega
        · obtain rfl : k = tl := by omega
          have hres : Aside ((true && true && ts.all (triB pl)) = true) := by show (true && true && ts.all (triB pl)) = true; rw [all_take (by rw [HTL.out]; exact hall.out)]; rfl
          have HW := Lib.hid hw
          clear hall hw ht'
          go_wp2
          go_ret
          exact ⟨ret_bool hres.out.symm, by rw [HW.out]; exact below_drewN HB0.out _⟩
    · have g1 : ¬ (64 : Int) < pl := by omega
      have g2 : (128 : Int) < tl := by omega
      rw [decide_eq_true h1, decide_eq_false h2]
      clear hp ht hB0 hpl htl
      go_enter Try.func86, Try.ntmps86
      go_wp2
      go_ret
      exact ⟨rfl, HB0.out⟩
  · have g1 : (64 : Int) < pl := by omega
    rw [decide_eq_false h1]
    clear hp ht hB0 hpl htl
    go_enter Try.func86, Try.ntmps86
    go_wp2
    go_ret
    exact ⟨rfl, HB0.out⟩
set_option maxHeartbeats 1000000 in
theorem l02Is (pb : Nat) (pa ta : Option Addr) (pl pc tl tc : Nat) (cs : List C3) (ts : List (List Int)) (w : World) (c0 : w.cell? ⟨pb, 0, none⟩ = some (.slice pa pl pc)) (c1 : w.cell? ⟨pb, 1, none⟩ = some (.slice ta tl tc)) (hp : IsVs w pa pl pc cs) (ht : IsTs w ta tl tc ts) :
    Calls Try.prog 113 #[.pointer (some ⟨pb, 0, none⟩)] w fun e w' => e = .returned (.bool (validB cs ts)) ∧ ∃ n, w' = w.drewN n := by
  have ui := Try.underlying38
  have hpl := hp.1
  have htl := ht.1
  unfold validB
  rw [hpl, htl]
  by_cases h1 : pl ≤ 64
  · have g1 : ¬ (64 : Int) < pl := by omega
    by_cases h2 : tl ≤ 128
    · have g2 : ¬ (128 : Int) < tl := by omega
      rw [decide_eq_true h1, decide_eq_true h2]
      have HTL := Lib.hid htl
      clear hp hpl htl
      go_enter Try.func113, Try.ntmps113
      go_wp2_with fail
      have hm : tl ≤ 9223372036854775807 := by omega
      go_loopw [3] (fun i w' => ∃ k : Nat, k ≤ tl ∧ i = .int .i64 k ∧ Aside (∀ j, j < k → triB pl (ts.getD j []) = true) ∧ ∃ n, w' = w.drewN n) (fun i _ => tl - (intOf i).toNat)
      case atStart => exact ⟨0, Nat.zero_le _, rfl, (fun j hj => absurd hj (by omega)), 0, rfl⟩
      case round =>
        obtain ⟨k, hk, rfl, hall, n, hw⟩ := hrel
        have c0' : wr.cell? ⟨pb, 0, none⟩ = some (.slice pa pl pc) := by rw [hw]; exact c0
        have c1' : wr.cell? ⟨pb, 1, none⟩ = some (.slice ta tl tc) := by rw [hw]; exact c1
        by_cases hlt : k < tl
        · obtain ⟨b, o, rfl, hcell⟩ := (ht.drew hw).some (by omega)
          obtain ⟨r1, n1, q1, cr, i1⟩ := hcell k hlt
          have hJ := fun w (hi : IsIs w r1 n1 q1 (ts.getD k [])) => l02Triangle r1 n1 q1 (ts.getD k []) pl w hi (by omega)
          have HW := Lib.hid hw
          have hk0 : (0 : Int) ≤ (k : Int) := by omega
          have hk1 : (k : Int) < (tl : Int) := by omega
          cases hb : triB pl (ts.getD k [])
          · have hres : Aside ((true && true && ts.all (triB pl)) = false) := by show (true && true && ts.all (triB pl)) = false; rw [all_not (by rw [HTL.out]; exact hlt) hb]; rfl
            rw [hb] at hJ
            have HJ := Lib.hid (fun n => hJ (wr.drewN n) i1.drew)
            clear hcell ht hw i1 hJ hall hb
            go_wp2_with fail
            go_quiet ((go_at_call 154; exact Calls.quiet_of (HJ.out _)))
            go_wp2
            go_ret
            exact ⟨ret_bool hres.out.symm, drewn_end HW.out⟩
          · have hall' : Aside (∀ j, j < k + 1 → triB pl (ts.getD j []) = true) := by
              intro j hj
              by_cases hjk : j = k
              · subst hjk; exact hb
              · exact hall.out j (by omega)
            rw [hb] at hJ
            have HJ := Lib.hid (fun n => hJ (wr.drewN n) i1.drew)
            clear hcell ht hw i1 hJ hall hb
            go_wp2_with fail
            go_quiet ((go_at_call 154; exact Calls.quiet_of (HJ.out _)))
            go_wp2
            go_roundw
            case rel => exact ⟨k + 1, by omega, by go_num, hall', drewn_end HW.out⟩
            case measure => simp [intOf]; omega
        · obtain rfl : k = tl := by omega
          have hres : Aside ((true && true && ts.all (triB pl)) = true) := by show (true && true && ts.all (triB pl)) = true; rw [all_take (by rw [HTL.out]; exact hall.out)]; rfl
          have HW := Lib.hid hw
          clear hall hw ht
          go_wp2
          go_ret
          exact ⟨ret_bool hres.out.symm, by rw [HW.out]; exact ⟨_, rfl⟩⟩
    · have g2 : (128 : Int) < tl := by omega
      rw [decide_eq_true h1, decide_eq_false h2]
      clear hp ht hpl htl
      go_enter Try.func113, Try.ntmps113
      go_wp2
      go_ret
      exact ⟨rfl, 0, rfl⟩
  · have g1 : (64 : Int) < pl := by omega
    rw [decide_eq_false h1]
    clear hp ht hpl htl
    go_enter Try.func113, Try.ntmps113
    go_wp2
    go_ret
    exact ⟨rfl, 0, rfl⟩
end Go.Proofs.Ytajglpkeojaelaa


/-
Which lists are increasing indices: the program and its model. Conditions: the list lies in memory.
-/
namespace Go.Proofs.Ytajglpkeojaelaa
open Go Fk Go.RowKit
set_option linter.unusedVariables false
set_option maxRecDepth 8000

def stepI (n : Nat) (L : List Int) (k : Nat) : Bool := inB n (L.getD k 0) && (decide (k = 0) || decide (L.getD (k - 1) 0 < L.getD k 0))
def riseB (n : Nat) (L : List Int) : Bool := (List.range L.length).all (stepI n L)
theorem rise_not {n : Nat} {L : List Int} {k : Nat} (hk : k < L.length) (h : stepI n L k = false) : riseB n L = false := by
  rw [Bool.eq_false_iff]
  intro hh
  have := List.all_eq_true.1 hh k (List.mem_range.2 hk)
  rw [this] at h; cases h
theorem rise_all {n : Nat} {L : List Int} (h : ∀ j, j < L.length → stepI n L j = true) : riseB n L = true := by
  unfold riseB
  rw [List.all_eq_true]
  intro j hj
  exact h j (List.mem_range.1 hj)
theorem rise_at {n : Nat} {L : List Int} (h : riseB n L = true) {k : Nat} (hk : k < L.length) : stepI n L k = true := List.all_eq_true.1 h k (List.mem_range.2 hk)
/-- What may come next. -/
def nextZ (L : List Int) (k : Nat) : Int := if k = 0 then 0 else L.getD (k - 1) 0 + 1
set_option maxHeartbeats 1000000 in
theorem impl_isIndexSet (a : Option Addr) (len cap n : Nat) (L : List Int) (w : World) (h : IsIs w a len cap L) (hn : n ≤ 9223372036854775806) :
    Calls Try.prog 73 #[.slice a len cap, .int .i64 n] w fun e w' => e = .returned (.bool (riseB n L)) ∧ w' = w := by
  have hm : len ≤ 9223372036854775807 := by have h1 := h.2.1; have h2 := h.2.2.1; unfold maxLen at h2; omega
  have hll := h.1
  have H := Lib.hid h
  clear h
  go_enter Try.func73, Try.ntmps73
  go_wp2
  go_loopw [5, 10] (fun f i w' => ∃ k : Nat, k ≤ len ∧ i = .int .i64 k ∧ f = .int .i64 (nextZ L k) ∧ w' = w ∧ Aside (∀ j, j < k → stepI n L j = true)) (fun _ i _ => len - (intOf i).toNat)
  case atStart => exact ⟨0, Nat.zero_le _, rfl, rfl, rfl, fun j hj => absurd hj (by omega)⟩
  case round =>
    obtain ⟨k, hk, rfl, rfl, rfl, hA⟩ := hrel
    have OK := Lib.hid hA.out
    clear hA
    by_cases hlt : k < len
    · obtain ⟨b, o, rfl, hcell⟩ := H.out.some (by omega)
      have hc0 := hcell k hlt
      have hk0 : (0 : Int) ≤ (k : Int) := by omega
      have hk1 : (k : Int) < (len : Int) := by omega
      have hlk : k < L.length := by omega
      have hstep : stepI n L k = (inB n (L.getD k 0) && (decide (k = 0) || decide (L.getD (k - 1) 0 < L.getD k 0))) := rfl
      have hprev : ∀ j, j < k → 0 ≤ L.getD j 0 ∧ L.getD j 0 < n := by
        intro j hj
        have := OK.out j hj
        unfold stepI at this
        simp only [Bool.and_eq_true] at this
        exact of_decide_eq_true this.1
      have hfz : nextZ L k = if k = 0 then 0 else L.getD (k - 1) 0 + 1 := rfl
      have hfree0 : 0 ≤ nextZ L k ∧ nextZ L k ≤ n := by
        rw [hfz]
        by_cases h0 : k = 0
        · rw [if_pos h0]; omega
        · rw [if_neg h0]; have := hprev (k - 1) (by omega); omega
      have hnext : nextZ L (k + 1) = L.getD k 0 + 1 := by unfold nextZ; rw [if_neg (by omega), Nat.add_sub_cancel]
      clear hcell hprev
      generalize hz : L.getD k 0 = z at *
      by_cases hfl : z < nextZ L k
      · have hres : riseB n L = false := rise_not hlk (by
          rw [hstep]
          by_cases h0 : k = 0
          · rw [hfz, if_pos h0] at hfl
            have : inB n z = false := decide_eq_false (by omega)
            rw [this]; rfl
          · rw [hfz, if_neg h0] at hfl
            rw [decide_eq_false h0, decide_eq_false (by omega)]
            cases inB n z <;> rfl)
        have HR := Lib.hid hres
        clear hstep hfz hres hz hnext
        generalize nextZ L k = fz at *
        go_wp2
        go_ret
        exact ⟨ret_bool HR.out.symm, by first | rfl | trivial⟩
      · have JX := Lib.hid (fun w => impl_isIndex z n w)
        cases hb2 : inB n z
        · rw [hb2] at JX
          have hres : riseB n L = false := rise_not hlk (by rw [hstep, hb2]; rfl)
          have HR := Lib.hid hres
          clear hstep hfz hres hb2 hz hnext
          generalize nextZ L k = fz at *
          go_wp2_with fail
          refine (JX.out _).mono ?_
          rintro e w3 ⟨rfl, hw3⟩
          rw [hw3]; clear hw3 w3
          go_wp2
          go_ret
          exact ⟨ret_bool HR.out.symm, by first | rfl | trivial⟩
        · rw [hb2] at JX
          have hpn := of_decide_eq_true hb2
          have hok : ∀ j, j < k + 1 → stepI n L j = true := by
            intro j hj
            by_cases hjk : j = k
            · subst hjk
              rw [hstep, hb2]
              by_cases h0 : j = 0
              · rw [decide_eq_true h0]; rfl
              · rw [hfz, if_neg h0] at hfl
                rw [decide_eq_true (show L.getD (j - 1) 0 < z by omega)]
                simp
            · exact OK.out j (by omega)
          have HOK := Lib.hid hok
          have HNX := Lib.hid hnext
          clear hstep hfz hb2 hok hnext hz
          generalize hfe : nextZ L k = fz at *
          clear hfe
          go_wp2_with fail
          refine (JX.out _).mono ?_
          rintro e w3 ⟨rfl, hw3⟩
          rw [hw3]; clear hw3 w3
          have hwrap : IntKind.i64.wrap (z + 1) = z + 1 := IntWalk.i64_in _ (by omega)
          go_wp2
          go_roundw
          case rel => exact ⟨k + 1, by omega, by go_num, by rw [HNX.out], by first | rfl | trivial, HOK.out⟩
          case measure => simp [intOf]; omega
    · obtain rfl : k = len := by omega
      have HR := Lib.hid (rise_all (n := n) (L := L) (fun j hj => OK.out j (by omega)))
      go_wp2
      go_ret
      exact ⟨ret_bool HR.out.symm, by first | rfl | trivial⟩
set_option maxHeartbeats 2000000 in
theorem l00Rises (a : Option Addr) (len cap n : Nat) (L : List Int) (w : World) (h : IsIs w a len cap L) :
    Calls Try.prog 134 #[.slice a len cap, .int .i64 0, .int .i64 ((n : Int) - 1)] w fun e w' => e = .returned (.bool (riseB n L)) ∧ ∃ m, w' = w.drewN m := by
  have hm : len ≤ 9223372036854775807 := by have h1 := h.2.1; have h2 := h.2.2.1; unfold maxLen at h2; omega
  have hll := h.1
  go_enter Try.func134, Try.ntmps134
  go_wp2
  go_loopw [7] (fun i w' => ∃ k : Nat, k ≤ len ∧ i = .int .i64 k ∧ Aside (∀ j, j < k → stepI n L j = true) ∧ ∃ m, w' = w.drewN m) (fun i _ => len - (intOf i).toNat)
  case atStart => exact ⟨0, Nat.zero_le _, rfl, (fun j hj => absurd hj (by omega)), 0, rfl⟩
  case round =>
    obtain ⟨k, hk, rfl, hall, m, hw⟩ := hrel
    have HW := Lib.hid hw
    have OK := Lib.hid hall.out
    by_cases hlt : k < len
    · obtain ⟨b, o, rfl, hcell⟩ := (h.drewE hw).some (by omega)
      have hc0 := hcell k hlt
      have hk0 : (0 : Int) ≤ (k : Int) := by omega
      have hk1 : (k : Int) < (len : Int) := by omega
      have hlk : k < L.length := by omega
      have J := Lib.hid (fun w => (l00In (L.getD k 0) n w).mono (R' := fun e w' => e = .returned (.bool (inB n (L.getD k 0))) ∧ ∃ m, w' = w.drewN m) (fun _ _ h => ⟨h.1, 0, h.2⟩))
      have hstep : stepI n L k = (inB n (L.getD k 0) && (decide (k = 0) || decide (L.getD (k - 1) 0 < L.getD k 0))) := rfl
      have HS := Lib.hid hstep
      cases hb : inB n (L.getD k 0)
      · have HR := Lib.hid (rise_not (n := n) hlk (by rw [HS.out, hb]; rfl))
        rw [hb] at J
        clear hcell h hw hall hstep hb
        generalize L.getD k 0 = z at *
        go_wp2_with fail
        go_quiet ((go_at_call 101; exact Calls.quiet_of (J.out _)))
        go_wp2
        go_ret
        exact ⟨ret_bool HR.out.symm, by first | exact drewn_end HW.out | exact ⟨_, HW.out⟩⟩
      · rw [hb] at J
        by_cases h0 : k = 0
        · have HOK : Hid (∀ j, j < k + 1 → stepI n L j = true) := Lib.hid (fun j hj => by
            have : j = k := by omega
            subst this
            rw [HS.out, hb, decide_eq_true h0]; rfl)
          have h00 : ¬ (0 : Int) < (k : Int) := by omega
          have h01 : ¬ 0 < k := by omega
          clear hcell h hw hall hstep hb h0 hlk hlt
          generalize L.getD k 0 = z at *
          go_wp2_with fail
          go_quiet ((go_at_call 101; exact Calls.quiet_of (J.out _)))
          go_wp2
          go_roundw
          case rel => exact ⟨k + 1, by omega, by go_num, HOK.out, by first | exact drewn_end HW.out | exact ⟨_, HW.out⟩⟩
          case measure => simp [intOf]; omega
        · obtain ⟨q, rfl⟩ : ∃ q, k = q + 1 := ⟨k - 1, by omega⟩
          have hcq := hcell q (by omega)
          have h00 : (0 : Int) < ((q + 1 : Nat) : Int) := by omega
          have hq0 : (0 : Int) ≤ (q : Int) := by omega
          have hq1 : (q : Int) < (len : Int) := by omega
          have hsub : ((q + 1 : Nat) : Int) - 1 = (q : Int) := by omega
          have hsub' : (q : Int) + 1 - 1 = (q : Int) := by omega
          have hwr : IntKind.i64.wrap (q : Int) = (q : Int) := IntWalk.i64_in _ (by omega)
          by_cases hlt2 : L.getD q 0 < L.getD (q + 1) 0
          · have HOK : Hid (∀ j, j < q + 1 + 1 → stepI n L j = true) := Lib.hid (fun j hj => by
              by_cases hjk : j = q + 1
              · subst hjk
                rw [HS.out, hb, Nat.add_sub_cancel, decide_eq_true hlt2]; simp
              · exact OK.out j (by omega))
            have hge : ¬ L.getD (q + 1) 0 ≤ L.getD q 0 := by omega
            clear hcell h hw hall hstep hb HS
            generalize L.getD (q + 1) 0 = z at *
            generalize L.getD q 0 = y at *
            go_wp2_with fail
            go_quiet ((go_at_call 101; exact Calls.quiet_of (J.out _)))
            go_wp2
            go_roundw
            case rel => exact ⟨q + 1 + 1, by omega, by go_num, HOK.out, by first | exact drewn_end HW.out | exact ⟨_, HW.out⟩⟩
            case measure => simp [intOf]; omega
          · have HR := Lib.hid (rise_not (n := n) hlk (by rw [HS.out, hb, Nat.add_sub_cancel, decide_eq_false hlt2]; simp))
            have hge : L.getD (q + 1) 0 ≤ L.getD q 0 := by omega
            clear hcell h hw hall hstep hb HS
            generalize L.getD (q + 1) 0 = z at *
            generalize L.getD q 0 = y at *
            go_wp2_with fail
            go_quiet ((go_at_call 101; exact Calls.quiet_of (J.out _)))
            go_wp2
            go_ret
            exact ⟨ret_bool HR.out.symm, by first | exact drewn_end HW.out | exact ⟨_, HW.out⟩⟩
    · obtain rfl : k = len := by omega
      have HR := Lib.hid (rise_all (n := n) (L := L) (fun j hj => OK.out j (by omega)))
      clear hw h hall
      go_wp2
      go_ret
      exact ⟨ret_bool HR.out.symm, by rw [HW.out]; exact ⟨_, rfl⟩⟩
end Go.Proofs.Ytajglpkeojaelaa

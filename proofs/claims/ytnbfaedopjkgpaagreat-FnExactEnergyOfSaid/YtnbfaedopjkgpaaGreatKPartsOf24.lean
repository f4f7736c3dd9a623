/-
Texts in one: what PartsOf stands on, part 24. Conditions: those of each.
-/
import Derived.Test.YtnbfaedopjkgpaaGreatKPartsOf23

/-
Which lists are increasing indices: the program and its model. Conditions: the list lies in memory.
-/
namespace Go.Proofs.YtnbfaedopjkgpaaGreat
open Go Fk Go.RowKit
set_option linter.unusedVariables false
set_option maxRecDepth 8000

def stepI (n : Nat) (L : List Int) (k : Nat) : Bool := inB n (L.getD k 0) && (decide (k = 0) || decide (L.getD (k - 1) 0 < L.getD k 0))
def riseB (n : Nat) (L : List Int) : Bool := (List.range L.length).all (stepI n L)
theorem rise_not {n : Nat} {L : List Int} {k : Nat} (hk : k < L.length) (h : stepI n L k = false) : riseB n L = false := by
  rw [Bool.eq_false_iff]
  intro hh
  have := List.all_eq_true.1 hh k (List.mem_range.2 hk)
  rw [this] at h; cases h
theorem rise_all {n : Nat} {L : List Int} (h : ∀ j, j < L.length → stepI n L j = true) : riseB n L = true := by
  unfold riseB
  rw [List.all_eq_true]
  intro j hj
  exact h j (List.mem_range.1 hj)
theorem rise_at {n : Nat} {L : List Int} (h : riseB n L = true) {k : Nat} (hk : k < L.length) : stepI n L k = true := List.all_eq_true.1 h k (List.mem_range.2 hk)
/-- What may come next. -/
def nextZ (L : List Int) (k : Nat) : Int := if k = 0 then 0 else L.getD (k - 1) 0 + 1
set_option maxHeartbeats 1000000 in
theorem impl_isIndexSet (a : Option Addr) (len cap n : Nat) (L : List Int) (w : World) (h : IsIs w a len cap L) (hn : n ≤ 9223372036854775806) :
    Calls Tryz.prog 153 #[.slice a len cap, .int .i64 n] w fun e w' => e = .returned (.bool (riseB n L)) ∧ w' = w := by
  have hm : len ≤ 9223372036854775807 := by have h1 := h.2.1; have h2 := h.2.2.1; unfold maxLen at h2; omega
  have hll := h.1
  have H := Lib.hid h
  clear h
  go_enter Tryz.func153, Tryz.ntmps153
  go_wp2
  go_loopw [5, 10] (fun f i w' => ∃ k : Nat, k ≤ len ∧ i = .int .i64 k ∧ f = .int .i64 (nextZ L k) ∧ w' = w ∧ Aside (∀ j, j < k → stepI n L j = true)) (fun _ i _ => len - (intOf i).toNat)
  case atStart => exact ⟨0, Nat.zero_le _, rfl, rfl, rfl, fun j hj => absurd hj (by omega)⟩
  case round =>
    obtain ⟨k, hk, rfl, rfl, rfl, hA⟩ := hrel
    have OK := Lib.hid hA.out
    clear hA
    by_cases hlt : k < len
    · obtain ⟨b, o, rfl, hcell⟩ := H.out.some (by omega)
      have hc0 := hcell k hlt
      have hk0 : (0 : Int) ≤ (k : Int) := by omega
      have hk1 : (k : Int) < (len : Int) := by omega
      have hlk : k < L.length := by omega
      have hstep : stepI n L k = (inB n (L.getD k 0) && (decide (k = 0) || decide (L.getD (k - 1) 0 < L.getD k 0))) := rfl
      have hprev : ∀ j, j < k → 0 ≤ L.getD j 0 ∧ L.getD j 0 < n := by
        intro j hj
        have := OK.out j hj
        unfold stepI at this
        simp only [Bool.and_eq_true] at this
        exact of_decide_eq_true this.1
      have hfz : nextZ L k = if k = 0 then 0 else L.getD (k - 1) 0 + 1 := rfl
      have hfree0 : 0 ≤ nextZ L k ∧ nextZ L k ≤ n := by
        rw [hfz]
        by_cases h0 : k = 0
        · rw [if_pos h0]; omega
        · rw [if_neg h0]; have := hprev (k - 1) (by omega); omega
      have hnext : nextZ L (k + 1) = L.getD k 0 + 1 := by unfold nextZ; rw [if_neg (by omega), Nat.add_sub_cancel]
      clear hcell hprev
      generalize hz : L.getD k 0 = z at *
      by_cases hfl : z < nextZ L k
      · have hres : riseB n L = false := rise_not hlk (by
          rw [hstep]
          by_cases h0 : k = 0
          · rw [hfz, if_pos h0] at hfl
            have : inB n z = false := decide_eq_false (by omega)
            rw [this]; rfl
          · rw [hfz, if_neg h0] at hfl
            rw [decide_eq_false h0, decide_eq_false (by omega)]
            cases inB n z <;> rfl)
        have HR := Lib.hid hres
        clear hstep hfz hres hz hnext
        generalize nextZ L k = fz at *
        go_wp2
        go_ret
        exact ⟨ret_bool HR.out.symm, by first | rfl | trivial⟩
      · have JX := Lib.hid (fun w => impl_isIndex z n w)
        cases hb2 : inB n z
        · rw [hb2] at JX
          have hres : riseB n L = false := rise_not hlk (by rw [hstep, hb2]; rfl)
          have HR := Lib.hid hres
          clear hstep hfz hres hb2 hz hnext
          generalize nextZ L k = fz at *
          go_wp2_with fail
          refine (JX.out _).mono ?_
          rintro e w3 ⟨rfl, hw3⟩
          rw [hw3]; clear hw3 w3
          go_wp2
          go_ret
          exact ⟨ret_bool HR.out.symm, by first | rfl | trivial⟩
        · rw [hb2] at JX
          have hpn := of_decide_eq_true hb2
          have hok : ∀ j, j < k + 1 → stepI n L j = true := by
            intro j hj
            by_cases hjk : j = k
            · subst hjk
              rw [hstep, hb2]
              by_cases h0 : j = 0
              · rw [decide_eq_true h0]; rfl
              · rw [hfz, if_neg h0] at hfl
                rw [decide_eq_true (show L.getD (j - 1) 0 < z by omega)]
                simp
            · exact OK.out j (by omega)
          have HOK := Lib.hid hok
          have HNX := Lib.hid hnext
          clear hstep hfz hb2 hok hnext hz
          generalize hfe : nextZ L k = fz at *
          clear hfe
          go_wp2_with fail
          refine (JX.out _).mono ?_
          rintro e w3 ⟨rfl, hw3⟩
          rw [hw3]; clear hw3 w3
          have hwrap : IntKind.i64.wrap (z + 1) = z + 1 := IntWalk.i64_in _ (by omega)
          go_wp2
          go_roundw
          case rel => exact ⟨k + 1, by omega, by go_num, by rw [HNX.out], by first | rfl | trivial, HOK.out⟩
          case measure => simp [intOf]; omega
    · obtain rfl : k = len := by omega
      have HR := Lib.hid (rise_all (n := n) (L := L) (fun j hj => OK.out j (by omega)))
      go_wp2
      go_ret
      exact ⟨ret_bool HR.out.symm, by first | rfl | trivial⟩
set_option maxHeartbeats 2000000 in
theorem l00Rises (a : Option Addr) (len cap n : Nat) (L : List Int) (w : World) (h : IsIs w a len cap L) :
    Calls Tryz.prog 119 #[.slice a len cap, .int .i64 0, .int .i64 ((n : Int) - 1)] w fun e w' => e = .returned (.bool (riseB n L)) ∧ ∃ m, w' = w.drewN m := by
  have hm : len ≤ 9223372036854775807 := by have h1 := h.2.1; have h2 := h.2.2.1; unfold maxLen at h2; omega
  have hll := h.1
  go_enter Tryz.func119, Tryz.ntmps119
  go_wp2
  go_loopw [7] (fun i w' => ∃ k : Nat, k ≤ len ∧ i = .int .i64 k ∧ Aside (∀ j, j < k → stepI n L j = true) ∧ ∃ m, w' = w.drewN m) (fun i _ => len - (intOf i).toNat)
  case atStart => exact ⟨0, Nat.zero_le _, rfl, (fun j hj => absurd hj (by omega)), 0, rfl⟩
  case round =>
    obtain ⟨k, hk, rfl, hall, m, hw⟩ := hrel
    have HW := Lib.hid hw
    have OK := Lib.hid hall.out
    by_cases hlt : k < len
    · obtain ⟨b, o, rfl, hcell⟩ := (h.drewE hw).some (by omega)
      have hc0 := hcell k hlt
      have hk0 : (0 : Int) ≤ (k : Int) := by omega
      have hk1 : (k : Int) < (len : Int) := by omega
      have hlk : k < L.length := by omega
      have J := Lib.hid (fun w => (l00In (L.getD k 0) n w).mono (R' := fun e w' => e = .returned (.bool (inB n (L.getD k 0))) ∧ ∃ m, w' = w.drewN m) (fun _ _ h => ⟨h.1, 0, h.2⟩))
      have hstep : stepI n L k = (inB n (L.getD k 0) && (decide (k = 0) || decide (L.getD (k - 1) 0 < L.getD k 0))) := rfl
      have HS := Lib.hid hstep
      cases hb : inB n (L.getD k 0)
      · have HR := Lib.hid (rise_not (n := n) hlk (by rw [HS.out, hb]; rfl))
        rw [hb] at J
        clear hcell h hw hall hstep hb
        generalize L.getD k 0 = z at *
        go_wp2_with fail
        go_quiet ((go_at_call 62; exact Calls.quiet_of (J.out _)))
        go_wp2
        go_ret
        exact ⟨ret_bool HR.out.symm, by first | exact drewn_end HW.out | exact ⟨_, HW.out⟩⟩
      · rw [hb] at J
        by_cases h0 : k = 0
        · have HOK : Hid (∀ j, j < k + 1 → stepI n L j = true) := Lib.hid (fun j hj => by
            have : j = k := by omega
            subst this
            rw [HS.out, hb, decide_eq_true h0]; rfl)
          have h00 : ¬ (0 : Int) < (k : Int) := by omega
          have h01 : ¬ 0 < k := by omega
          clear hcell h hw hall hstep hb h0 hlk hlt
          generalize L.getD k 0 = z at *
          go_wp2_with fail
          go_quiet ((go_at_call 62; exact Calls.quiet_of (J.out _)))
          go_wp2
          go_roundw
          case rel => exact ⟨k + 1, by omega, by go_num, HOK.out, by first | exact drewn_end HW.out | exact ⟨_, HW.out⟩⟩
          case measure => simp [intOf]; omega
        · obtain ⟨q, rfl⟩ : ∃ q, k = q + 1 := ⟨k - 1, by omega⟩
          have hcq := hcell q (by omega)
          have h00 : (0 : Int) < ((q + 1 : Nat) : Int) := by omega
          have hq0 : (0 : Int) ≤ (q : Int) := by omega
          have hq1 : (q : Int) < (len : Int) := by omega
          have hsub : ((q + 1 : Nat) : Int) - 1 = (q : Int) := by omega
          have hsub' : (q : Int) + 1 - 1 = (q : Int) := by omega
          have hwr : IntKind.i64.wrap (q : Int) = (q : Int) := IntWalk.i64_in _ (by omega)
          by_cases hlt2 : L.getD q 0 < L.getD (q + 1) 0
          · have HOK : Hid (∀ j, j < q + 1 + 1 → stepI n L j = true) := Lib.hid (fun j hj => by
              by_cases hjk : j = q + 1
              · subst hjk
                rw [HS.out, hb, Nat.add_sub_cancel, decide_eq_true hlt2]; simp
              · exact OK.out j (by omega))
            have hge : ¬ L.getD (q + 1) 0 ≤ L.getD q 0 := by omega
            clear hcell h hw hall hstep hb HS
            generalize L.getD (q + 1) 0 = z at *
            generalize L.getD q 0 = y at *
            go_wp2_with fail
            go_quiet ((go_at_call 62; exact Calls.quiet_of (J.out _)))
            go_wp2
            go_roundw
            case rel => exact ⟨q + 1 + 1, by omega, by go_num, HOK.out, by first | exact drewn_end HW.out | exact ⟨_, HW.out⟩⟩
            case measure => simp [intOf]; omega
          · have HR := Lib.hid (rise_not (n := n) hlk (by rw [HS.out, hb, Nat.add_sub_cancel, decide_eq_false hlt2]; simp))
            have hge : L.getD (q + 1) 0 ≤ L.getD q 0 := by omega
            clear hcell h hw hall hstep hb HS
            generalize L.getD (q + 1) 0 = z at *
            generalize L.getD q 0 = y at *
            go_wp2_with fail
            go_quiet ((go_at_call 62; exact Calls.quiet_of (J.out _)))
            go_wp2
            go_ret
            exact ⟨ret_bool HR.out.symm, by first | exact drewn_end HW.out | exact ⟨_, HW.out⟩⟩
    · obtain rfl : k = len := by omega
      have HR := Lib.hid (rise_all (n := n) (L := L) (fun j hj => OK.out j (by omega)))
      clear hw h hall
      go_wp2
      go_ret
      exact ⟨ret_bool HR.out.symm, by rw [HW.out]; exact ⟨_, rfl⟩⟩
end Go.Proofs.YtnbfaedopjkgpaaGreat


/-
Which lists are holds of a mesh: the program. Conditions: none beyond that both lie in memory.
-/
namespace Go.Proofs.YtnbfaedopjkgpaaGreat
open Go Fk Go.RowKit
set_option linter.unusedVariables false
set_option maxRecDepth 8000

/-- A hold of a list is in its place. -/
def stepB (n : Nat) (hs : List HC) (k : Nat) : Bool := holdB (hs.getD k hd0) && (inB n (hs.getD k hd0).1 && (decide (k = 0) || decide ((hs.getD (k - 1) hd0).1 < (hs.getD k hd0).1)))
def goodB (n : Nat) (hs : List HC) : Bool := (List.range hs.length).all (stepB n hs)
def areB (cs : List C3) (ts : List (List Int)) (hs : List HC) : Bool := validB cs ts && goodB cs.length hs
theorem good_not {n : Nat} {hs : List HC} {k : Nat} (hk : k < hs.length) (h : stepB n hs k = false) : goodB n hs = false := by
  rw [Bool.eq_false_iff]
  intro hh
  have := List.all_eq_true.1 hh k (List.mem_range.2 hk)
  rw [this] at h; cases h
theorem good_all {n : Nat} {hs : List HC} (h : ∀ j, j < hs.length → stepB n hs j = true) : goodB n hs = true := by
  unfold goodB
  rw [List.all_eq_true]
  intro j hj
  exact h j (List.mem_range.1 hj)
theorem good_at {n : Nat} {hs : List HC} (h : goodB n hs = true) {k : Nat} (hk : k < hs.length) : stepB n hs k = true := List.all_eq_true.1 h k (List.mem_range.2 hk)
theorem good_rise {n : Nat} {hs : List HC} (h : ∀ j, j < hs.length → holdB (hs.getD j hd0) = true) : riseB n (hs.map (·.1)) = goodB n hs := by
  have hg : ∀ j, j < hs.length → (hs.map (·.1)).getD j 0 = (hs.getD j hd0).1 := by intro j hj; simp [List.getD, hj]
  unfold riseB goodB
  rw [List.length_map, Bool.eq_iff_iff, List.all_eq_true, List.all_eq_true]
  have he : ∀ j, j ∈ List.range hs.length → stepI n (hs.map (·.1)) j = stepB n hs j := by
    intro j hj
    have hj' := List.mem_range.1 hj
    unfold stepI stepB
    rw [hg j hj', h j hj', Bool.true_and]
    by_cases h0 : j = 0
    · rw [decide_eq_true h0]; simp
    · rw [hg (j - 1) (by omega)]
  constructor
  · intro hh j hj; rw [← he j hj]; exact hh j hj
  · intro hh j hj; rw [he j hj]; exact hh j hj
/-- The places of the first holds, in a list of one's own. -/
def Pl (hs : List HC) (n k : Nat) (w : World) (g : Nat) : Prop := (g < w.heap.size ∧ ∀ j, w.frozen? ⟨g, j, none⟩ = false) ∧ (∀ j, j < k → w.cell? ⟨g, j, none⟩ = some (.int .i64 (hs.getD j hd0).1)) ∧ ∀ j, k ≤ j → j < n → w.cell? ⟨g, j, none⟩ = some (.int .i64 0)
theorem Pl.below {hs : List HC} {n k g : Nat} {W w : World} (hb : Below W.heap.size W w) (h : Pl hs n k W g) : Pl hs n k w g :=
  ⟨⟨Nat.lt_of_lt_of_le h.1.1 hb.size, fun j => by rw [hb.frozen (p := ⟨g, j, none⟩) h.1.1]; exact h.1.2 j⟩, fun j hj => cell_below hb (h.2.1 j hj), fun j h1 h2 => cell_below hb (h.2.2 j h1 h2)⟩
theorem Pl.put {hs : List HC} {n k g : Nat} {w : World} (h : Pl hs n k w g) (hk : k < n) : Pl hs n (k + 1) (w.setCell ⟨g, k, none⟩ (.int .i64 (hs.getD k hd0).1)) g := by
  refine ⟨⟨by simpa using h.1.1, fun j => by simpa using h.1.2 j⟩, fun j hj => ?_, fun j h1 h2 => ?_⟩
  · by_cases hjk : j = k
    · subst hjk
      rw [World.cell?_setCell_same _ _ _ (h.2.2 j (Nat.le_refl _) hk)]
    · rw [World.cell?_setCell_other _ _ _ _ (by simp <;> omega), h.2.1 j (by omega)]
  · rw [World.cell?_setCell_other _ _ _ _ (by simp <;> omega), h.2.2 j (by omega) h2]
theorem Pl.is {hs : List HC} {n g : Nat} {w : World} (h : Pl hs n n w g) (hn : hs.length = n) (hm : n ≤ maxLen) (hwf : ∀ s ∈ hs, (Lit.int .i64 s.1).wf = true) : IsIs w (some ⟨g, 0, none⟩) n n (hs.map (·.1)) := by
  refine ⟨by rw [List.length_map, hn], Nat.le_refl _, hm, fun z hz => ?_, (fun e => by cases e), fun x hx i hi => ?_⟩
  · obtain ⟨s, hs1, rfl⟩ := List.mem_map.1 hz
    exact hwf s hs1
  · cases hx
    have : (hs.map (·.1)).getD i 0 = (hs.getD i hd0).1 := by simp [List.getD, show i < hs.length by omega]
    rw [this, addr_add', Nat.zero_add]
    exact h.2.1 i hi
theorem infoZ : (Tryz.prog.info? 2).map (fun i => (i.zero, i.size, i.bytes)) = some (some (.int .i64 0), 1, 8) := by kernel_rfl
end Go.Proofs.YtnbfaedopjkgpaaGreat


/-
Normals: all arguments, of the program and of its model. Conditions: none beyond that the mesh lies in memory.
-/
namespace Go.Proofs.YtnbfaedopjkgpaaGreat
open Go Fk Go.RowKit
set_option linter.unusedVariables false
set_option maxRecDepth 8000

end Go.Proofs.YtnbfaedopjkgpaaGreat


/-
Normals: all arguments, of the model. Conditions: none beyond that the mesh lies in memory.
-/
namespace Go.Proofs.YtnbfaedopjkgpaaGreat
open Go Fk Go.RowKit
set_option linter.unusedVariables false
set_option maxRecDepth 8000

theorem l02IsB (pb : Nat) (pa ta : Option Addr) (pl pc tl tc : Nat) (cs : List C3) (ts : List (List Int)) (w : World) (c0 : w.cell? ⟨pb, 0, none⟩ = some (.slice pa pl pc)) (c1 : w.cell? ⟨pb, 1, none⟩ = some (.slice ta tl tc)) (hp : IsVs w pa pl pc cs) (ht : IsTs w ta tl tc ts) :
    Calls Tryz.prog 85 #[.pointer (some ⟨pb, 0, none⟩)] w fun e w' => e = .returned (.bool (validB cs ts)) ∧ Below w.heap.size w w' :=
  (l02Is pb pa ta pl pc tl tc cs ts w c0 c1 hp ht).mono fun _ _ ⟨he, n, hw⟩ => ⟨he, by rw [hw]; exact below_drewN (Below.refl _ _) n⟩
end Go.Proofs.YtnbfaedopjkgpaaGreat

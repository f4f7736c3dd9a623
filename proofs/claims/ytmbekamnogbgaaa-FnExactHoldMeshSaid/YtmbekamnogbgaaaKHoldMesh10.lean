/-
Texts in one: what HoldMesh stands on, part 10. Conditions: those of each.
-/
import Derived.Test.YtmbekamnogbgaaaKHoldMesh9

/-
Which meshes are valid: what the program and its model return. Conditions: none.
-/
namespace Go.Proofs.Ytmbekamnogbgaaa
open Go Fk Go.RowKit
set_option linter.unusedVariables false
set_option maxRecDepth 8000

def validB (cs : List C3) (ts : List (List Int)) : Bool := decide (cs.length ≤ 64) && decide (ts.length ≤ 128) && ts.all (triB cs.length)
theorem all_take {n : Nat} {ts : List (List Int)} (h : ∀ j, j < ts.length → triB n (ts.getD j []) = true) : ts.all (triB n) = true := by
  rw [List.all_eq_true]
  intro x hx
  obtain ⟨i, hi, rfl⟩ := List.mem_iff_getElem.1 hx
  have := h i hi
  simpa [List.getD, hi] using this
theorem all_not {n : Nat} {ts : List (List Int)} {k : Nat} (hk : k < ts.length) (h : triB n (ts.getD k []) = false) : ts.all (triB n) = false := by
  rw [Bool.eq_false_iff]
  intro hh
  have := List.all_eq_true.1 hh (ts[k]) (List.getElem_mem hk)
  have h' : triB n ts[k] = false := by simpa [List.getD, hk] using h
  rw [this] at h'; cases h'
theorem impl_ValidMesh (pa ta : Option Addr) (pl pc tl tc : Nat) (cs : List C3) (ts : List (List Int)) (w : World) (hp : IsVs w pa pl pc cs) (ht : IsTs w ta tl tc ts) :
    Calls Try.prog 74 #[.agg #[.slice pa pl pc, .slice ta tl tc]] w fun e w' => e = .returned (.bool (validB cs ts)) ∧ Below w.heap.size w w' := by
  have ui := Try.underlying29
  have hpl := hp.1
  have htl := ht.1
  unfold validB
  rw [hpl, htl]
  have hB0 : Below w.heap.size w (w.alloc (.cells #[.slice pa pl pc, .slice ta tl tc] 29)) := (Below.refl _ _).alloc (Nat.le_refl _) _
  have HB0 := Lib.hid hB0
  by_cases h1 : pl ≤ 64
  · by_cases h2 : tl ≤ 128
    · have g1 : ¬ (64 : Int) < pl := by omega
      have g2 : ¬ (128 : Int) < tl := by omega
      rw [decide_eq_true h1, decide_eq_true h2]
      have ht' := ht.below hB0
      have HTL := Lib.hid htl
      clear hp ht hB0 hpl htl
      have c0 : (w.alloc (.cells #[.slice pa pl pc, .slice ta tl tc] 29)).cell? ⟨w.heap.size, 0, none⟩ = some (.slice pa pl pc) := by go_simp
      go_enter Try.func74, Try.ntmps74
      go_wp2_with fail
      generalize w.alloc (.cells #[.slice pa pl pc, .slice ta tl tc] 29) = W at c0 ht' HB0 ⊢
      have hm : tl ≤ 9223372036854775807 := by omega
      go_loopw [18] (fun i w' => ∃ k : Nat, k ≤ tl ∧ i = .int .i64 k ∧ Aside (∀ j, j < k → triB pl (ts.getD j []) = true) ∧ ∃ n, w' = W.drewN n) (fun i _ => tl - (intOf i).toNat)
      case atStart => exact ⟨0, Nat.zero_le _, rfl, (fun j hj => absurd hj (by omega)), 0, rfl⟩
      case round =>
        obtain ⟨k, hk, rfl, hall, n, hw⟩ := hrel
        by_cases hlt : k < tl
        · obtain ⟨b, o, rfl, hcell⟩ := (ht'.drew hw).some (by omega)
          obtain ⟨r1, n1, q1, c1, i1⟩ := hcell k hlt
          have c0' : wr.cell? ⟨w.heap.size, 0, none⟩ = some (.slice pa pl pc) := by rw [hw]; exact c0
          have hJ := fun w (hi : IsIs w r1 n1 q1 (ts.getD k [])) => impl_isTriangle r1 n1 q1 (ts.getD k []) pl w hi
          have HW := Lib.hid hw
          have hk0 : (0 : Int) ≤ (k : Int) := by omega
          have hk1 : (k : Int) < (tl : Int) := by omega
          cases hb : triB pl (ts.getD k [])
          · have hres : Aside ((true && true && ts.all (triB pl)) = false) := by show (true && true && ts.all (triB pl)) = false; rw [all_not (by rw [HTL.out]; exact hlt) hb]; rfl
            rw [hb] at hJ
            have HJ := Lib.hid (hJ wr i1)
            clear hcell ht' hw i1 hJ hall hb
            go_wp2_with (go_at_call 142; refine HJ.out.mono ?_; rintro e w1 ⟨rfl, m, rfl⟩)
            go_ret
            exact ⟨ret_bool hres.out.symm, by rw [HW.out, World.drewN_drewN]; exact below_drewN HB0.out _⟩
          · have hall' : Aside (∀ j, j < k + 1 → triB pl (ts.getD j []) = true) := by
              intro j hj
              by_cases hjk : j = k
              · subst hjk; exact hb
              · exact hall.out j (by omega)
            rw [hb] at hJ
            have HJ := Lib.hid (hJ wr i1)
            clear hcell ht' hw i1 hJ hall hb
            go_wp2_with (go_at_call 142; refine HJ.out.mono ?_; rintro e w1 ⟨rfl, m, rfl⟩)
            go_roundw
            case rel => exact ⟨k + 1, by omega, by go_num, hall', drewn_end HW.out⟩
            case measure => simp [intOf]; omega
        · obtain rfl : k = tl := by omega
          have hres : Aside ((true && true && ts.all (triB pl)) = true) := by show (true && true && ts.all (triB pl)) = true; rw [all_take (by rw [HTL.out]; exact hall.out)]; rfl
          have HW := Lib.hid hw
          clear hall hw ht'
          go_wp2
          go_ret
          exact ⟨ret_bool hres.out.symm, by rw [HW.out]; exact below_drewN HB0.out _⟩
    · have g1 : ¬ (64 : Int) < pl := by omega
      have g2 : (128 : Int) < tl := by omega
      rw [decide_eq_true h1, decide_eq_false h2]
      clear hp ht hB0 hpl htl
      go_enter Try.func74, Try.ntmps74
      go_wp2
      go_ret
      exact ⟨rfl, HB0.out⟩
  · have g1 : (64 : Int) < pl := by omega
    rw [decide_eq_false h1]
    clear hp ht hB0 hpl htl
    go_enter Try.func74, Try.ntmps74
    go_wp2
    go_ret
    exact ⟨rfl, HB0.out⟩
set_option maxHeartbeats 1000000 in
theorem l02Is (pb : Nat) (pa ta : Option Addr) (pl pc tl tc : Nat) (cs : List C3) (ts : List (List Int)) (w : World) (c0 : w.cell? ⟨pb, 0, none⟩ = some (.slice pa pl pc)) (c1 : w.cell? ⟨pb, 1, none⟩ = some (.slice ta tl tc)) (hp : IsVs w pa pl pc cs) (ht : IsTs w ta tl tc ts) :
    Calls Try.prog 71 #[.pointer (some ⟨pb, 0, none⟩)] w fun e w' => e = .returned (.bool (validB cs ts)) ∧ ∃ n, w' = w.drewN n := by
  have ui := Try.underlying29
  have hpl := hp.1
  have htl := ht.1
  unfold validB
  rw [hpl, htl]
  by_cases h1 : pl ≤ 64
  · have g1 : ¬ (64 : Int) < pl := by omega
    by_cases h2 : tl ≤ 128
    · have g2 : ¬ (128 : Int) < tl := by omega
      rw [decide_eq_true h1, decide_eq_true h2]
      have HTL := Lib.hid htl
      clear hp hpl htl
      go_enter Try.func71, Try.ntmps71
      go_wp2_with fail
      have hm : tl ≤ 9223372036854775807 := by omega
      go_loopw [3] (fun i w' => ∃ k : Nat, k ≤ tl ∧ i = .int .i64 k ∧ Aside (∀ j, j < k → triB pl (ts.getD j []) = true) ∧ ∃ n, w' = w.drewN n) (fun i _ => tl - (intOf i).toNat)
      case atStart => exact ⟨0, Nat.zero_le _, rfl, (fun j hj => absurd hj (by omega)), 0, rfl⟩
      case round =>
        obtain ⟨k, hk, rfl, hall, n, hw⟩ := hrel
        have c0' : wr.cell? ⟨pb, 0, none⟩ = some (.slice pa pl pc) := by rw [hw]; exact c0
        have c1' : wr.cell? ⟨pb, 1, none⟩ = some (.slice ta tl tc) := by rw [hw]; exact c1
        by_cases hlt : k < tl
        · obtain ⟨b, o, rfl, hcell⟩ := (ht.drew hw).some (by omega)
          obtain ⟨r1, n1, q1, cr, i1⟩ := hcell k hlt
          have hJ := fun w (hi : IsIs w r1 n1 q1 (ts.getD k [])) => l02Triangle r1 n1 q1 (ts.getD k []) pl w hi (by omega)
          have HW := Lib.hid hw
          have hk0 : (0 : Int) ≤ (k : Int) := by omega
          have hk1 : (k : Int) < (tl : Int) := by omega
          cases hb : triB pl (ts.getD k [])
          · have hres : Aside ((true && true && ts.all (triB pl)) = false) := by show (true && true && ts.all (triB pl)) = false; rw [all_not (by rw [HTL.out]; exact hlt) hb]; rfl
            rw [hb] at hJ
            have HJ := Lib.hid (fun n => hJ (wr.drewN n) i1.drew)
            clear hcell ht hw i1 hJ hall hb
            go_wp2_with fail
            go_quiet ((go_at_call 140; exact Calls.quiet_of (HJ.out _)))
            go_wp2
            go_ret
            exact ⟨ret_bool hres.out.symm, drewn_end HW.out⟩
          · have hall' : Aside (∀ j, j < k + 1 → triB pl (ts.getD j []) = true) := by
              intro j hj
              by_cases hjk : j = k
              · subst hjk; exact hb
              · exact hall.out j (by omega)
            rw [hb] at hJ
            have HJ := Lib.hid (fun n => hJ (wr.drewN n) i1.drew)
            clear hcell ht hw i1 hJ hall hb
            go_wp2_with fail
            go_quiet ((go_at_call 140; exact Calls.quiet_of (HJ.out _)))
            go_wp2
            go_roundw
            case rel => exact ⟨k + 1, by omega, by go_num, hall', drewn_end HW.out⟩
            case measure => simp [intOf]; omega
        · obtain rfl : k = tl := by omega
          have hres : Aside ((true && true && ts.all (triB pl)) = true) := by show (true && true && ts.all (triB pl)) = true; rw [all_take (by rw [HTL.out]; exact hall.out)]; rfl
          have HW := Lib.hid hw
          clear hall hw ht
          go_wp2
          go_ret
          exact ⟨ret_bool hres.out.symm, by rw [HW.out]; exact ⟨_, rfl⟩⟩
    · have g2 : (128 : Int) < tl := by omega
      rw [decide_eq_true h1, decide_eq_false h2]
      clear hp ht hpl htl
      go_enter Try.func71, Try.ntmps71
      go_wp2
      go_ret
      exact ⟨rfl, 0, rfl⟩
  · have g1 : (64 : Int) < pl := by omega
    rw [decide_eq_false h1]
    clear hp ht hpl htl
    go_enter Try.func71, Try.ntmps71
    go_wp2
    go_ret
    exact ⟨rfl, 0, rfl⟩
end Go.Proofs.Ytmbekamnogbgaaa


/-
Which lists are increasing indices: the program and its model. Conditions: the list lies in memory.
-/
namespace Go.Proofs.Ytmbekamnogbgaaa
open Go Fk Go.RowKit
set_option linter.unusedVariables false
set_option maxRecDepth 8000

def stepI (n : Nat) (L : List Int) (k : Nat) : Bool := inB n (L.getD k 0) && (decide (k = 0) || decide (L.getD (k - 1) 0 < L.getD k 0))
def riseB (n : Nat) (L : List Int) : Bool := (List.range L.length).all (stepI n L)
theorem rise_not {n : Nat} {L : List Int} {k : Nat} (hk : k < L.length) (h : stepI n L k = false) : riseB n L = false := by
  rw [Bool.eq_false_iff]
  intro hh
  have := List.all_eq_true.1 hh k (List.mem_range.2 hk)
  rw [this] at h; cases h
theorem rise_all {n : Nat} {L : List Int} (h : ∀ j, j < L.length → stepI n L j = true) : riseB n L = true := by
  unfold riseB
  rw [List.all_eq_true]
  intro j hj
  exact h j (List.mem_range.1 hj)
theorem rise_at {n : Nat} {L : List Int} (h : riseB n L = true) {k : Nat} (hk : k < L.length) : stepI n L k = true := List.all_eq_true.1 h k (List.mem_range.2 hk)
/-- What may come next. -/
def nextZ (L : List Int) (k : Nat) : Int := if k = 0 then 0 else L.getD (k - 1) 0 + 1
set_option maxHeartbeats 1000000 in
theorem impl_isIndexSet (a : Option Addr) (len cap n : Nat) (L : List Int) (w : World) (h : IsIs w a len cap L) (hn : n ≤ 9223372036854775806) :
    Calls Try.prog 155 #[.slice a len cap, .int .i64 n] w fun e w' => e = .returned (.bool (riseB n L)) ∧ w' = w := by
  have hm : len ≤ 9223372036854775807 := by have h1 := h.2.1; have h2 := h.2.2.1; unfold maxLen at h2; omega
  have hll := h.1
  have H := Lib.hid h
  clear h
  go_enter Try.func155, Try.ntmps155
  go_wp2
  go_loopw [5, 10] (fun f i w' => ∃ k : Nat, k ≤ len ∧ i = .int .i64 k ∧ f = .int .i64 (nextZ L k) ∧ w' = w ∧ Aside (∀ j, j < k → stepI n L j = true)) (fun _ i _ => len - (intOf i).toNat)
  case atStart => exact ⟨0, Nat.zero_le _, rfl, rfl, rfl, fun j hj => absurd hj (by omega)⟩
  case round =>
    obtain ⟨k, hk, rfl, rfl, rfl, hA⟩ := hrel
    have OK := Lib.hid hA.out
    clear hA
    by_cases hlt : k < len
    · obtain ⟨b, o, rfl, hcell⟩ := H.out.some (by omega)
      have hc0 := hcell k hlt
      have hk0 : (0 : Int) ≤ (k : Int) := by omega
      have hk1 : (k : Int) < (len : Int) := by omega
      have hlk : k < L.length := by omega
      have hstep : stepI n L k = (inB n (L.getD k 0) && (decide (k = 0) || decide (L.getD (k - 1) 0 < L.getD k 0))) := rfl
      have hprev : ∀ j, j < k → 0 ≤ L.getD j 0 ∧ L.getD j 0 < n := by
        intro j hj
        have := OK.out j hj
        unfold stepI at this
        simp only [Bool.and_eq_true] at this
        exact of_decide_eq_true this.1
      have hfz : nextZ L k = if k = 0 then 0 else L.getD (k - 1) 0 + 1 := rfl
      have hfree0 : 0 ≤ nextZ L k ∧ nextZ L k ≤ n := by
        rw [hfz]
        by_cases h0 : k = 0
        · rw [if_pos h0]; omega
        · rw [if_neg h0]; have := hprev (k - 1) (by omega); omega
      have hnext : nextZ L (k + 1) = L.getD k 0 + 1 := by unfold nextZ; rw [if_neg (by omega), Nat.add_sub_cancel]
      clear hcell hprev
      generalize hz : L.getD k 0 = z at *
      by_cases hfl : z < nextZ L k
      · have hres : riseB n L = false := rise_not hlk (by
          rw [hstep]
          by_cases h0 : k = 0
          · rw [hfz, if_pos h0] at hfl
            have : inB n z = false := decide_eq_false (by omega)
            rw [this]; rfl
          · rw [hfz, if_neg h0] at hfl
            rw [decide_eq_false h0, decide_eq_false (by omega)]
            cases inB n z <;> rfl)
        have HR := Lib.hid hres
        clear hstep hfz hres hz hnext
        generalize nextZ L k = fz at *
        go_wp2
        go_ret
        exact ⟨ret_bool HR.out.symm, by first | rfl | trivial⟩
      · have JX := Lib.hid (fun w => impl_isIndex z n w)
        cases hb2 : inB n z
        · rw [hb2] at JX
          have hres : riseB n L = false := rise_not hlk (by rw [hstep, hb2]; rfl)
          have HR := Lib.hid hres
          clear hstep hfz hres hb2 hz hnext
          generalize nextZ L k = fz at *
          go_wp2_with fail
          refine (JX.out _).mono ?_
          rintro e w3 ⟨rfl, hw3⟩
          rw [hw3]; clear hw3 w3
          go_wp2
          go_ret
          exact ⟨ret_bool HR.out.symm, by first | rfl | trivial⟩
        · rw [hb2] at JX
          have hpn := of_decide_eq_true hb2
          have hok : ∀ j, j < k + 1 → stepI n L j = true := by
            intro j hj
            by_cases hjk : j = k
            · subst hjk
              rw [hstep, hb2]
              by_cases h0 : j = 0
              · rw [decide_eq_true h0]; rfl
              · rw [hfz, if_neg h0] at hfl
                rw [decide_eq_true (show L.getD (j - 1) 0 < z by omega)]
                simp
            · exact OK.out j (by omega)
          have HOK := Lib.hid hok
          have HNX := Lib.hid hnext
          clear hstep hfz hb2 hok hnext hz
          generalize hfe : nextZ L k = fz at *
          clear hfe
          go_wp2_with fail
          refine (JX.out _).mono ?_
          rintro e w3 ⟨rfl, hw3⟩
          rw [hw3]; clear hw3 w3
          have hwrap : IntKind.i64.wrap (z + 1) = z + 1 := IntWalk.i64_in _ (by omega)
          go_wp2
          go_roundw
          case rel => exact ⟨k + 1, by omega, by go_num, by rw [HNX.out], by first | rfl | trivial, HOK.out⟩
          case measure => simp [intOf]; omega
    · obtain rfl : k = len := by omega
      have HR := Lib.hid (rise_all (n := n) (L := L) (fun j hj => OK.out j (by omega)))
      go_wp2
      go_ret
      exact ⟨ret_bool HR.out.symm, by first | rfl | trivial⟩
end Go.Proofs.Ytmbekamnogbgaaa


/-
Which lists are holds of a mesh: the program. Conditions: none beyond that both lie in memory.
-/
namespace Go.Proofs.Ytmbekamnogbgaaa
open Go Fk Go.RowKit
set_option linter.unusedVariables false
set_option maxRecDepth 8000

/-- A hold of a list is in its place. -/
def stepB (n : Nat) (hs : List HC) (k : Nat) : Bool := holdB (hs.getD k hd0) && (inB n (hs.getD k hd0).1 && (decide (k = 0) || decide ((hs.getD (k - 1) hd0).1 < (hs.getD k hd0).1)))
def goodB (n : Nat) (hs : List HC) : Bool := (List.range hs.length).all (stepB n hs)
def areB (cs : List C3) (ts : List (List Int)) (hs : List HC) : Bool := validB cs ts && goodB cs.length hs
theorem good_not {n : Nat} {hs : List HC} {k : Nat} (hk : k < hs.length) (h : stepB n hs k = false) : goodB n hs = false := by
  rw [Bool.eq_false_iff]
  intro hh
  have := List.all_eq_true.1 hh k (List.mem_range.2 hk)
  rw [this] at h; cases h
theorem good_all {n : Nat} {hs : List HC} (h : ∀ j, j < hs.length → stepB n hs j = true) : goodB n hs = true := by
  unfold goodB
  rw [List.all_eq_true]
  intro j hj
  exact h j (List.mem_range.1 hj)
theorem good_at {n : Nat} {hs : List HC} (h : goodB n hs = true) {k : Nat} (hk : k < hs.length) : stepB n hs k = true := List.all_eq_true.1 h k (List.mem_range.2 hk)
theorem good_rise {n : Nat} {hs : List HC} (h : ∀ j, j < hs.length → holdB (hs.getD j hd0) = true) : riseB n (hs.map (·.1)) = goodB n hs := by
  have hg : ∀ j, j < hs.length → (hs.map (·.1)).getD j 0 = (hs.getD j hd0).1 := by intro j hj; simp [List.getD, hj]
  unfold riseB goodB
  rw [List.length_map, Bool.eq_iff_iff, List.all_eq_true, List.all_eq_true]
  have he : ∀ j, j ∈ List.range hs.length → stepI n (hs.map (·.1)) j = stepB n hs j := by
    intro j hj
    have hj' := List.mem_range.1 hj
    unfold stepI stepB
    rw [hg j hj', h j hj', Bool.true_and]
    by_cases h0 : j = 0
    · rw [decide_eq_true h0]; simp
    · rw [hg (j - 1) (by omega)]
  constructor
  · intro hh j hj; rw [← he j hj]; exact hh j hj
  · intro hh j hj; rw [he j hj]; exact hh j hj
/-- The places of the first holds, in a list of one's own. -/
def Pl (hs : List HC) (n k : Nat) (w : World) (g : Nat) : Prop := (g < w.heap.size ∧ ∀ j, w.frozen? ⟨g, j, none⟩ = false) ∧ (∀ j, j < k → w.cell? ⟨g, j, none⟩ = some (.int .i64 (hs.getD j hd0).1)) ∧ ∀ j, k ≤ j → j < n → w.cell? ⟨g, j, none⟩ = some (.int .i64 0)
theorem Pl.below {hs : List HC} {n k g : Nat} {W w : World} (hb : Below W.heap.size W w) (h : Pl hs n k W g) : Pl hs n k w g :=
  ⟨⟨Nat.lt_of_lt_of_le h.1.1 hb.size, fun j => by rw [hb.frozen (p := ⟨g, j, none⟩) h.1.1]; exact h.1.2 j⟩, fun j hj => cell_below hb (h.2.1 j hj), fun j h1 h2 => cell_below hb (h.2.2 j h1 h2)⟩
theorem Pl.put {hs : List HC} {n k g : Nat} {w : World} (h : Pl hs n k w g) (hk : k < n) : Pl hs n (k + 1) (w.setCell ⟨g, k, none⟩ (.int .i64 (hs.getD k hd0).1)) g := by
  refine ⟨⟨by simpa using h.1.1, fun j => by simpa using h.1.2 j⟩, fun j hj => ?_, fun j h1 h2 => ?_⟩
  · by_cases hjk : j = k
    · subst hjk
      rw [World.cell?_setCell_same _ _ _ (h.2.2 j (Nat.le_refl _) hk)]
    · rw [World.cell?_setCell_other _ _ _ _ (by simp <;> omega), h.2.1 j (by omega)]
  · rw [World.cell?_setCell_other _ _ _ _ (by simp <;> omega), h.2.2 j (by omega) h2]
theorem Pl.is {hs : List HC} {n g : Nat} {w : World} (h : Pl hs n n w g) (hn : hs.length = n) (hm : n ≤ maxLen) (hwf : ∀ s ∈ hs, (Lit.int .i64 s.1).wf = true) : IsIs w (some ⟨g, 0, none⟩) n n (hs.map (·.1)) := by
  refine ⟨by rw [List.length_map, hn], Nat.le_refl _, hm, fun z hz => ?_, (fun e => by cases e), fun x hx i hi => ?_⟩
  · obtain ⟨s, hs1, rfl⟩ := List.mem_map.1 hz
    exact hwf s hs1
  · cases hx
    have : (hs.map (·.1)).getD i 0 = (hs.getD i hd0).1 := by simp [List.getD, show i < hs.length by omega]
    rw [this, addr_add', Nat.zero_add]
    exact h.2.1 i hi
theorem infoZ : (Try.prog.info? 2).map (fun i => (i.zero, i.size, i.bytes)) = some (some (.int .i64 0), 1, 8) := by kernel_rfl
set_option maxHeartbeats 2000000 in
theorem impl_AreHolds (pa ta ha : Option Addr) (pl pc tl tc hl hc : Nat) (cs : List C3) (ts : List (List Int)) (hs : List HC) (w : World) (hp : IsVs w pa pl pc cs) (ht : IsTs w ta tl tc ts) (hh : IsHs w ha hl hc hs) (hsm : hl ≤ 1048576) :
    Calls Try.prog 92 #[.agg #[.slice pa pl pc, .slice ta tl tc], .slice ha hl hc] w fun e w' => e = .returned (.bool (areB cs ts hs)) ∧ Below w.heap.size w w' := by
  have ui := Try.underlying29
  have uh := Try.underlying117
  have u := Try.underlying2
  obtain ⟨j0, hj, hy0, hy1, hy2⟩ := info_parts infoZ
  have BX : Hid (Bx w [(w.heap.size, [.slice pa pl pc, .slice ta tl tc])] (w.alloc (.cells #[.slice pa pl pc, .slice ta tl tc] 29))) := Lib.hid ((Bx.nil w).box (vs := [.slice pa pl pc, .slice ta tl tc]) (t := 29))
  have hpl := hp.1
  have hll := hh.1
  have hwf := hh.2.2.2.1
  have hm : hl ≤ 9223372036854775807 := by have h1 := hh.2.1; have h2 := hh.2.2.1; unfold maxLen at h2; omega
  have JV := impl_ValidMesh _ _ _ _ _ _ cs ts (w.alloc (.cells #[.slice pa pl pc, .slice ta tl tc] 29)) (hp.below BX.out.bel) (ht.below BX.out.bel)
  have HH := Lib.hid hh
  have HWF := Lib.hid (fun s hs => (hwf s hs).1)
  unfold areB
  rw [hpl]
  clear hp ht hh hwf
  cases hv : validB cs ts
  · rw [hv] at JV
    have JV := Lib.hid JV
    clear hv hpl
    go_enter Try.func92, Try.ntmps92
    go_wp2_with fail
    generalize (w.alloc (.cells #[.slice pa pl pc, .slice ta tl tc] 29)) = W at *
    refine JV.out.mono ?_
    rintro e w1 ⟨rfl, hB1⟩
    have BX1 := Lib.hid (BX.out.call hB1)
    clear hB1
    go_wp2
    go_ret
    exact ⟨rfl, BX1.out.bel⟩
  · rw [hv] at JV
    have JV := Lib.hid JV
    have h64 : pl ≤ 64 := by have : cs.length ≤ 64 := by { unfold validB at hv; simp at hv; exact hv.1.1 }; omega
    clear hv
    go_enter Try.func92, Try.ntmps92
    go_wp2_with fail
    generalize (w.alloc (.cells #[.slice pa pl pc, .slice ta tl tc] 29)) = W at *
    refine JV.out.mono ?_
    rintro e w1 ⟨rfl, hB1⟩
    have BX1 := Lib.hid (BX.out.call hB1)
    clear hB1
    have hmk : (Instr.makeSlice 81 (.int .i64 hl) (.int .i64 hl)).run Try.prog w1 = .ok (.slice (some ⟨w1.heap.size, 0, none⟩) hl hl) (w1.alloc (.cells (madeCells #[.int .i64 0] hl) 2)) := by
      have := run_make (P := Try.prog) w1 81 2 j0 (.int .i64 0) Try.underlying81 hj hy0 .i64 .i64 hl hl (by omega) (Int.le_refl _) (by rw [hy2]; omega) (by omega)
      rw [this, hy1]; simp; rfl
    have hST : Pl hs hl 0 (w1.alloc (.cells (madeCells #[.int .i64 0] hl) 2)) w1.heap.size := by
      refine ⟨⟨by simp, fun j => by simp⟩, fun j hj => absurd hj (by omega), fun j _ hj => ?_⟩
      have hmc : (madeCells #[.int .i64 0] hl : Array Value)[j]? = some (.int .i64 0) := by
        unfold madeCells
        simp [hj, Nat.mod_one]
      simp [hmc]
    have BS := Lib.hid hST
    have HA : Hid (Below w1.heap.size w1 (w1.alloc (.cells (madeCells #[.int .i64 0] hl) 2))) := Lib.hid ((Below.refl _ _).alloc (Nat.le_refl _) _)
    clear hST
    go_wp2
    generalize (w1.alloc (.cells (madeCells #[.int .i64 0] hl) 2)) = W2 at *
    obtain ⟨g, hg⟩ : ∃ g, g = w1.heap.size := ⟨_, rfl⟩
    rw [← hg] at BS ⊢
    have HGS := Lib.hid hg
    clear hg hmk
    go_loopw [16] (fun i w' => ∃ k : Nat, k ≤ hl ∧ i = .int .i64 k ∧ Aside (Pl hs hl k w' g ∧ Below w1.heap.size w1 w' ∧ ∀ j, j < k → holdB (hs.getD j hd0) = true)) (fun i _ => hl - (intOf i).toNat)
    case atStart => exact ⟨0, Nat.zero_le _, rfl, BS.out, HA.out, fun j hj => absurd hj (by omega)⟩
    case round =>
      obtain ⟨k, hk, rfl, hA⟩ := hrel
      obtain ⟨hbs, hB, hok⟩ := hA.out
      have HB := Lib.hid hB
      have BK := Lib.hid hbs
      have OK := Lib.hid hok
      have BXK := Lib.hid (BX1.out.call hB)
      clear hA hB hbs hok
      by_cases hlt : k < hl
      · obtain ⟨b, o, hha, hcell⟩ := (HH.out.below BXK.out.bel).some (by omega)
        obtain ⟨h, hq, hi⟩ := hcell k hlt
        have hk0 : (0 : Int) ≤ (k : Int) := by omega
        have hk1 : (k : Int) < (hl : Int) := by omega
        have hstep : stepB pl hs k = (holdB (hs.getD k hd0) && (inB pl (hs.getD k hd0).1 && (decide (k = 0) || decide ((hs.getD (k - 1) hd0).1 < (hs.getD k hd0).1)))) := rfl
        have JI := Lib.hid (fun w => impl_IsHold h (hs.getD k hd0) w hi)
        have hpz := Lib.hid hi.1
        have hlk : k < hs.length := by omega
        have c0 := hq 0 (by omega)
        have c1 := hq 1 (by omega)
        have c2 := hq 2 (by omega)
        have c3 := hq 3 (by omega)
        have c4 := hq 4 (by omega)
        have c5 := hq 5 (by omega)
        have c6 := hq 6 (by omega)
        have c7 := hq 7 (by omega)
        simp only [HW.l, List.getElem?_cons_zero, List.getElem?_cons_succ, Nat.add_zero] at c0 c1 c2 c3 c4 c5 c6 c7
        rw [hha]
        have HHA := Lib.hid hha
        have BB0 := Lib.hid ((Bx.nil wr).box (vs := h.l) (t := 117))
        clear hcell hq hi hha
        have BB := BB0
        change Hid (Bx wr _ (wr.alloc (HBox h 117))) at BB
        cases hb : holdB (hs.getD k hd0)
        · rw [hb] at JI hstep
          have HR := Lib.hid (good_not (n := pl) hlk (by rw [hstep]; rfl))
          clear hb hstep
          go_wp2_with fail
          change Calls _ _ _ (wr.alloc (HBox h 117)) _
          clear c0 c1 c2 c3 c4 c5 c6 c7
          generalize (wr.alloc (HBox h 117)) = W3 at *
          refine (JI.out _).mono ?_
          rintro e w2 ⟨rfl, hB2⟩
          have BX2 := Lib.hid (BXK.out.call (BB.out.call hB2).bel)
          clear hB2
          go_wp2
          go_ret
          exact ⟨ret_bool (by rw [HR.out]; rfl), BX2.out.bel⟩
        · rw [hb] at JI
          have HOK : Hid (∀ j, j < k + 1 → holdB (hs.getD j hd0) = true) := Lib.hid (fun j hj => by
            by_cases hjk : j = k
            · subst hjk; exact hb
            · exact OK.out j (by omega))
          clear hb hstep
          go_wp2_with fail
          change Calls _ _ _ (wr.alloc (HBox h 117)) _
          clear c0 c1 c2 c3 c4 c5 c6 c7
          generalize (wr.alloc (HBox h 117)) = W3 at *
          generalize wr.heap.size = PB at *
          refine (JI.out _).mono ?_
          rintro e w2 ⟨rfl, hB2⟩
          have BX2 := Lib.hid (BB.out.call hB2)
          have BK2 := Lib.hid (BK.out.below BX2.out.bel)
          have HB2 := Lib.hid (HB.out.trans (BX2.out.bel.mono HB.out.size))
          have m0 := (BX2.out.mem (.head _)) 0 _ rfl
          have hgc := BK2.out.2.2 k (Nat.le_refl _) hlt
          have hgf := BK2.out.1.2 k
          have hgs := BK2.out.1.1
          clear hB2
          go_wp2
          go_roundw
          case rel => exact ⟨k + 1, by omega, by go_num, by rw [hpz.out]; exact BK2.out.put hlt, HB2.out.setCell (p := ⟨g, k, none⟩) (by rw [HGS.out]; exact Nat.le_refl _) _, HOK.out⟩
          case measure => simp [intOf]; omega
      · obtain rfl : k = hl := by omega
        have JX := Lib.hid (impl_isIndexSet (some ⟨g, 0, none⟩) k k pl (hs.map (·.1)) wr (BK.out.is hll (by unfold maxLen; omega) HWF.out) (by omega))
        have HR := Lib.hid (good_rise (n := pl) (hs := hs) (fun j hj => OK.out j (by omega)))
        have m0 := (BXK.out.mem (.head _)) 0 _ rfl
        go_wp2_with fail
        refine JX.out.mono ?_
        rintro e w3 ⟨rfl, hw3⟩
        rw [hw3]; clear hw3 w3
        go_wp2
        go_ret
        exact ⟨ret_bool (by rw [HR.out]; rfl), BXK.out.bel⟩
end Go.Proofs.Ytmbekamnogbgaaa

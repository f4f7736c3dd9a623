
/-
Which meshes are valid: what the program and its model return. Conditions: none.
-/
import Derived.Test.YtcgnmnbjgamedaaMwH
namespace Go.Proofs.Ytcgnmnbjgamedaa
open Go Fk Go.RowKit
set_option linter.unusedVariables false
set_option maxRecDepth 8000

def validB (cs : List C3) (ts : List (List Int)) : Bool := decide (cs.length ≤ 64) && decide (ts.length ≤ 128) && ts.all (triB cs.length)
theorem all_take {n : Nat} {ts : List (List Int)} (h : ∀ j, j < ts.length → triB n (ts.getD j []) = true) : ts.all (triB n) = true := by
  rw [List.all_eq_true]
  intro x hx
  obtain ⟨i, hi, rfl⟩ := List.mem_iff_getElem.1 hx
  have := h i hi
  simpa [List.getD, hi] using this
theorem all_not {n : Nat} {ts : List (List Int)} {k : Nat} (hk : k < ts.length) (h : triB n (ts.getD k []) = false) : ts.all (triB n) = false := by
  rw [Bool.eq_false_iff]
  intro hh
  have := List.all_eq_true.1 hh (ts[k]) (List.getElem_mem hk)
  have h' : triB n ts[k] = false := by simpa [List.getD, hk] using h
  rw [this] at h'; cases h'
theorem impl_ValidMesh (pa ta : Option Addr) (pl pc tl tc : Nat) (cs : List C3) (ts : List (List Int)) (w : World) (hp : IsVs w pa pl pc cs) (ht : IsTs w ta tl tc ts) :
    Calls Try.prog 109 #[.agg #[.slice pa pl pc, .slice ta tl tc]] w fun e w' => e = .returned (.bool (validB cs ts)) ∧ Below w.heap.size w w' := by
  have ui := Try.underlying49
  have hpl := hp.1
  have htl := ht.1
  unfold validB
  rw [hpl, htl]
  have hB0 : Below w.heap.size w (w.alloc (.cells #[.slice pa pl pc, .slice ta tl tc] 49)) := (Below.refl _ _).alloc (Nat.le_refl _) _
  have HB0 := Lib.hid hB0
  by_cases h1 : pl ≤ 64
  · by_cases h2 : tl ≤ 128
    · have g1 : ¬ (64 : Int) < pl := by omega
      have g2 : ¬ (128 : Int) < tl := by omega
      rw [decide_eq_true h1, decide_eq_true h2]
      have ht' := ht.below hB0
      have HTL := Lib.hid htl
      clear hp ht hB0 hpl htl
      have c0 : (w.alloc (.cells #[.slice pa pl pc, .slice ta tl tc] 49)).cell? ⟨w.heap.size, 0, none⟩ = some (.slice pa pl pc) := by go_simp
      go_enter Try.func109, Try.ntmps109
      go_wp2_with fail
      generalize w.alloc (.cells #[.slice pa pl pc, .slice ta tl tc] 49) = W at c0 ht' HB0 ⊢
      have hm : tl ≤ 9223372036854775807 := by omega
      go_loopw [18] (fun i w' => ∃ k : Nat, k ≤ tl ∧ i = .int .i64 k ∧ Aside (∀ j, j < k → triB pl (ts.getD j []) = true) ∧ ∃ n, w' = W.drewN n) (fun i _ => tl - (intOf i).toNat)
      case atStart => exact ⟨0, Nat.zero_le _, rfl, (fun j hj => absurd hj (by omega)), 0, rfl⟩
      case round =>
        obtain ⟨k, hk, rfl, hall, n, hw⟩ := hrel
        by_cases hlt : k < tl
        · obtain ⟨b, o, rfl, hcell⟩ := (ht'.drew hw).some (by omega)
          obtain ⟨r1, n1, q1, c1, i1⟩ := hcell k hlt
          have c0' : wr.cell? ⟨w.heap.size, 0, none⟩ = some (.slice pa pl pc) := by rw [hw]; exact c0
          have hJ := fun w (hi : IsIs w r1 n1 q1 (ts.getD k [])) => impl_isTriangle r1 n1 q1 (ts.getD k []) pl w hi
          have HW := Lib.hid hw
          have hk0 : (0 : Int) ≤ (k : Int) := by omega
          have hk1 : (k : Int) < (tl : Int) := by omega
          cases hb : triB pl (ts.getD k [])
          · have hres : Aside ((true && true && ts.all (triB pl)) = false) := by show (true && true && ts.all (triB pl)) = false; rw [all_not (by rw [HTL.out]; exact hlt) hb]; rfl
            rw [hb] at hJ
            have HJ := Lib.hid (hJ wr i1)
            clear hcell ht' hw i1 hJ hall hb
            go_wp2_with (go_at_call 138; refine HJ.out.mono ?_; rintro e w1 ⟨rfl, m, rfl⟩)
            go_ret
            exact ⟨ret_bool hres.out.symm, by rw [HW.out, World.drewN_drewN]; exact below_drewN HB0.out _⟩
          · have hall' : Aside (∀ j, j < k + 1 → triB pl (ts.getD j []) = true) := by
              intro j hj
              by_cases hjk : j = k
              · subst hjk; exact hb
              · exact hall.out j (by omega)
            rw [hb] at hJ
            have HJ := Lib.hid (hJ wr i1)
            clear hcell ht' hw i1 hJ hall hb
            go_wp2_with (go_at_call 138; refine HJ.out.mono ?_; rintro e w1 ⟨rfl, m, rfl⟩)
            go_roundw
            case rel => exact ⟨k + 1, by omega, by go_num, hall', drewn_end HW.out⟩
            case measure => simp [intOf]; omega
        · obtain rfl : k = tl := by omega
          have hres : Aside ((true && true && ts.all (triB pl)) = true) := by show (true && true && ts.all (triB pl)) = true; rw [all_take (by rw [HTL.out]; exact hall.out)]; rfl
          have HW := Lib.hid hw
          clear hall hw ht'
          go_wp2
          go_ret
          exact ⟨ret_bool hres.out.symm, by rw [HW.out]; exact below_drewN HB0.out _⟩
    · have g1 : ¬ (64 : Int) < pl := by omega
      have g2 : (128 : Int) < tl := by omega
      rw [decide_eq_true h1, decide_eq_false h2]
      clear hp ht hB0 hpl htl
      go_enter Try.func109, Try.ntmps109
      go_wp2
      go_ret
      exact ⟨rfl, HB0.out⟩
  · have g1 : (64 : Int) < pl := by omega
    rw [decide_eq_false h1]
    clear hp ht hB0 hpl htl
    go_enter Try.func109, Try.ntmps109
    go_wp2
    go_ret
    exact ⟨rfl, HB0.out⟩
set_option maxHeartbeats 1000000 in
theorem l02Is (pb : Nat) (pa ta : Option Addr) (pl pc tl tc : Nat) (cs : List C3) (ts : List (List Int)) (w : World) (c0 : w.cell? ⟨pb, 0, none⟩ = some (.slice pa pl pc)) (c1 : w.cell? ⟨pb, 1, none⟩ = some (.slice ta tl tc)) (hp : IsVs w pa pl pc cs) (ht : IsTs w ta tl tc ts) :
    Calls Try.prog 68 #[.pointer (some ⟨pb, 0, none⟩)] w fun e w' => e = .returned (.bool (validB cs ts)) ∧ ∃ n, w' = w.drewN n := by
  have ui := Try.underlying49
  have hpl := hp.1
  have htl := ht.1
  unfold validB
  rw [hpl, htl]
  by_cases h1 : pl ≤ 64
  · have g1 : ¬ (64 : Int) < pl := by omega
    by_cases h2 : tl ≤ 128
    · have g2 : ¬ (128 : Int) < tl := by omega
      rw [decide_eq_true h1, decide_eq_true h2]
      have HTL := Lib.hid htl
      clear hp hpl htl
      go_enter Try.func68, Try.ntmps68
      go_wp2_with fail
      have hm : tl ≤ 9223372036854775807 := by omega
      go_loopw [3] (fun i w' => ∃ k : Nat, k ≤ tl ∧ i = .int .i64 k ∧ Aside (∀ j, j < k → triB pl (ts.getD j []) = true) ∧ ∃ n, w' = w.drewN n) (fun i _ => tl - (intOf i).toNat)
      case atStart => exact ⟨0, Nat.zero_le _, rfl, (fun j hj => absurd hj (by omega)), 0, rfl⟩
      case round =>
        obtain ⟨k, hk, rfl, hall, n, hw⟩ := hrel
        have c0' : wr.cell? ⟨pb, 0, none⟩ = some (.slice pa pl pc) := by rw [hw]; exact c0
        have c1' : wr.cell? ⟨pb, 1, none⟩ = some (.slice ta tl tc) := by rw [hw]; exact c1
        by_cases hlt : k < tl
        · obtain ⟨b, o, rfl, hcell⟩ := (ht.drew hw).some (by omega)
          obtain ⟨r1, n1, q1, cr, i1⟩ := hcell k hlt
          have hJ := fun w (hi : IsIs w r1 n1 q1 (ts.getD k [])) => l02Triangle r1 n1 q1 (ts.getD k []) pl w hi (by omega)
          have HW := Lib.hid hw
          have hk0 : (0 : Int) ≤ (k : Int) := by omega
          have hk1 : (k : Int) < (tl : Int) := by omega
          cases hb : triB pl (ts.getD k [])
          · have hres : Aside ((true && true && ts.all (triB pl)) = false) := by show (true && true && ts.all (triB pl)) = false; rw [all_not (by rw [HTL.out]; exact hlt) hb]; rfl
            rw [hb] at hJ
            have HJ := Lib.hid (fun n => hJ (wr.drewN n) i1.drew)
            clear hcell ht hw i1 hJ hall hb
            go_wp2_with fail
            go_quiet ((go_at_call 106; exact Calls.quiet_of (HJ.out _)))
            go_wp2
            go_ret
            exact ⟨ret_bool hres.out.symm, drewn_end HW.out⟩
          · have hall' : Aside (∀ j, j < k + 1 → triB pl (ts.getD j []) = true) := by
              intro j hj
              by_cases hjk : j = k
              · subst hjk; exact hb
              · exact hall.out j (by omega)
            rw [hb] at hJ
            have HJ := Lib.hid (fun n => hJ (wr.drewN n) i1.drew)
            clear hcell ht hw i1 hJ hall hb
            go_wp2_with fail
            go_quiet ((go_at_call 106; exact Calls.quiet_of (HJ.out _)))
            go_wp2
            go_roundw
            case rel => exact ⟨k + 1, by omega, by go_num, hall', drewn_end HW.out⟩
            case measure => simp [intOf]; omega
        · obtain rfl : k = tl := by omega
          have hres : Aside ((true && true && ts.all (triB pl)) = true) := by show (true && true && ts.all (triB pl)) = true; rw [all_take (by rw [HTL.out]; exact hall.out)]; rfl
          have HW := Lib.hid hw
          clear hall hw ht
          go_wp2
          go_ret
          exact ⟨ret_bool hres.out.symm, by rw [HW.out]; exact ⟨_, rfl⟩⟩
    · have g2 : (128 : Int) < tl := by omega
      rw [decide_eq_true h1, decide_eq_false h2]
      clear hp ht hpl htl
      go_enter Try.func68, Try.ntmps68
      go_wp2
      go_ret
      exact ⟨rfl, 0, rfl⟩
  · have g1 : (64 : Int) < pl := by omega
    rw [decide_eq_false h1]
    clear hp ht hpl htl
    go_enter Try.func68, Try.ntmps68
    go_wp2
    go_ret
    exact ⟨rfl, 0, rfl⟩
end Go.Proofs.Ytcgnmnbjgamedaa

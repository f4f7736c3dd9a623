/-
Texts in one: what SwingOf stands on, part 13. Conditions: those of each.
-/
import Derived.Test.YtkdoibglgkcbkaaKSwingOf12

/-
Which meshes are valid: what the program and its model return. Conditions: none.
-/
namespace Go.Proofs.Ytkdoibglgkcbkaa
open Go Fk Go.RowKit
set_option linter.unusedVariables false
set_option maxRecDepth 8000

theorem fin3 {a b c : Int} (h01 : ¬ a = b) (h12 : ¬ b = c) (h02 : ¬ a = c) : (true && (true && true && true) && (decide (a ≠ b) && decide (b ≠ c) && decide (a ≠ c))) = true := by
  rw [decide_eq_true h01, decide_eq_true h12, decide_eq_true h02]; rfl
set_option maxHeartbeats 8000000 in
theorem impl_isTriangle (a : Option Addr) (len cap : Nat) (t : List Int) (n : Nat) (w : World) (h : IsIs w a len cap t) :
    Calls Try.prog 165 #[.slice a len cap, .int .i64 n] w fun e w' => e = .returned (.bool (triB n t)) ∧ ∃ k, w' = w.drewN k := by
  have hl := h.1
  by_cases h3 : len = 3
  · subst h3
    obtain ⟨b, o, rfl, hcell⟩ := h.some (by decide)
    have c0 := hcell 0 (by decide)
    have c1 := hcell 1 (by decide)
    have c2 := hcell 2 (by decide)
    simp only [Nat.add_zero] at c0
    unfold triB
    rw [hl, decide_eq_true rfl]
    generalize t.getD 0 0 = z0 at *
    generalize t.getD 1 0 = z1 at *
    generalize t.getD 2 0 = z2 at *
    clear h hcell hl
    generalize hi0 : inB n z0 = i0
    generalize hi1 : inB n z1 = i1
    generalize hi2 : inB n z2 = i2
    have J0 : ∀ w, Calls Try.prog 104 #[.int .i64 z0, .int .i64 n] w fun e w' => e = .returned (.bool i0) ∧ w' = w := fun w => (impl_isIndex z0 n w).mono (by rintro _ _ ⟨rfl, rfl⟩; exact ⟨by rw [hi0], rfl⟩)
    have J1 : ∀ w, Calls Try.prog 104 #[.int .i64 z1, .int .i64 n] w fun e w' => e = .returned (.bool i1) ∧ w' = w := fun w => (impl_isIndex z1 n w).mono (by rintro _ _ ⟨rfl, rfl⟩; exact ⟨by rw [hi1], rfl⟩)
    have J2 : ∀ w, Calls Try.prog 104 #[.int .i64 z2, .int .i64 n] w fun e w' => e = .returned (.bool i2) ∧ w' = w := fun w => (impl_isIndex z2 n w).mono (by rintro _ _ ⟨rfl, rfl⟩; exact ⟨by rw [hi2], rfl⟩)
    have K0 := Lib.hid J0
    have K1 := Lib.hid J1
    have K2 := Lib.hid J2
    clear J0 J1 J2 hi0 hi1 hi2
    go_enter Try.func165, Try.ntmps165
    go_wp2
    go_loopw [12] (fun i w' => ∃ k : Nat, k ≤ 3 ∧ i = .int .i64 k ∧ (0 < k → i0 = true) ∧ (1 < k → i1 = true) ∧ (2 < k → i2 = true) ∧ w' = w) (fun i _ => 3 - (intOf i).toNat)
    case atStart => exact ⟨0, by decide, rfl, (fun h => absurd h (by decide)), (fun h => absurd h (by decide)), (fun h => absurd h (by decide)), rfl⟩
    case round =>
      obtain ⟨k, hk, rfl, h0, h1, h2, rfl⟩ := hrel
      have hcase : k = 0 ∨ k = 1 ∨ k = 2 ∨ k = 3 := by omega
      rcases hcase with rfl | rfl | rfl | rfl
      · cases i0
        · go_wp2_with (go_at_call 104; refine (K0.out _).mono ?_; rintro e w1 ⟨rfl, hw1⟩; rw [hw1]; clear hw1)
          go_ret
          exact ⟨ret_bool (by simp), 0, rfl⟩
        · go_wp2_with (go_at_call 104; refine (K0.out _).mono ?_; rintro e w1 ⟨rfl, hw1⟩; rw [hw1]; clear hw1)
          go_roundw
          case rel => exact ⟨1, by decide, rfl, (by first | trivial | exact fun _ => rfl | exact fun _ => h0 (by decide)), (fun h => absurd h (by decide)), (fun h => absurd h (by decide)), trivial⟩
          case measure => simp [intOf]
      · cases i1
        · go_wp2_with (go_at_call 104; refine (K1.out _).mono ?_; rintro e w1 ⟨rfl, hw1⟩; rw [hw1]; clear hw1)
          go_ret
          exact ⟨ret_bool (by simp), 0, rfl⟩
        · go_wp2_with (go_at_call 104; refine (K1.out _).mono ?_; rintro e w1 ⟨rfl, hw1⟩; rw [hw1]; clear hw1)
          go_roundw
          case rel => exact ⟨2, by decide, rfl, (by first | trivial | exact fun _ => rfl | exact fun _ => h0 (by decide)), (by first | trivial | exact fun _ => rfl | exact fun _ => h1 (by decide)), (fun h => absurd h (by decide)), trivial⟩
          case measure => simp [intOf]
      · cases i2
        · go_wp2_with (go_at_call 104; refine (K2.out _).mono ?_; rintro e w1 ⟨rfl, hw1⟩; rw [hw1]; clear hw1)
          go_ret
          exact ⟨ret_bool (by simp), 0, rfl⟩
        · go_wp2_with (go_at_call 104; refine (K2.out _).mono ?_; rintro e w1 ⟨rfl, hw1⟩; rw [hw1]; clear hw1)
          go_roundw
          case rel => exact ⟨3, by decide, rfl, (by first | trivial | exact fun _ => rfl | exact fun _ => h0 (by decide)), (by first | trivial | exact fun _ => rfl | exact fun _ => h1 (by decide)), (by first | trivial | exact fun _ => rfl | exact fun _ => h2 (by decide)), trivial⟩
          case measure => simp [intOf]
      · have e0 := h0 (by decide)
        have e1 := h1 (by decide)
        have e2 := h2 (by decide)
        subst e0 e1 e2
        clear h0 h1 h2
        by_cases h01 : z0 = z1
        · have hs : z1 = z0 := h01.symm
          clear h01
          subst hs
          go_wp2_with fail
          go_quiet (fail)
          go_wp2
          go_ret
          exact ⟨ret_bool (by simp), _, rfl⟩
        · have d01 : (z0 == z1) = false := beq_eq_false_iff_ne.2 h01
          by_cases h12 : z1 = z2
          · have hs : z2 = z1 := h12.symm
            clear h12
            subst hs
            go_wp2_with fail
            go_quiet (fail)
            go_wp2
            go_ret
            exact ⟨ret_bool (by simp [h01]), _, rfl⟩
          · have d12 : (z1 == z2) = false := beq_eq_false_iff_ne.2 h12
            by_cases h02 : z0 = z2
            · have hs : z2 = z0 := h02.symm
              clear h02 d12
              subst hs
              go_wp2_with fail
              go_quiet (fail)
              go_wp2
              go_ret
              exact ⟨ret_bool (by simp [h01, h12]), _, rfl⟩
            · have d02 : (z0 == z2) = false := beq_eq_false_iff_ne.2 h02
              have d20 : (z2 == z0) = false := beq_eq_false_iff_ne.2 (fun h => h02 h.symm)
              go_wp2_with fail
              go_quiet (fail)
              go_wp2
              go_ret
              refine ⟨ret_bool ?_, _, rfl⟩
              rw [fin3 h01 h12 h02]
              first | rfl | (simp only [bne, d01, d12, d20]; rfl) | (simp only [bne, d01, d12, d02]; rfl)
  · have hb : triB n t = false := by unfold triB; rw [hl, decide_eq_false h3]; rfl
    have h4 : ¬ (len : Int) = 3 := by omega
    rw [hb]
    clear hb
    go_enter Try.func165, Try.ntmps165
    go_wp2
    go_ret
    exact ⟨rfl, 0, rfl⟩
end Go.Proofs.Ytkdoibglgkcbkaa


/-
Which meshes are valid: what the program and its model return. Conditions: none.
-/
namespace Go.Proofs.Ytkdoibglgkcbkaa
open Go Fk Go.RowKit
set_option linter.unusedVariables false
set_option maxRecDepth 8000

def validB (cs : List C3) (ts : List (List Int)) : Bool := decide (cs.length ≤ 64) && decide (ts.length ≤ 128) && ts.all (triB cs.length)
theorem all_take {n : Nat} {ts : List (List Int)} (h : ∀ j, j < ts.length → triB n (ts.getD j []) = true) : ts.all (triB n) = true := by
  rw [List.all_eq_true]
  intro x hx
  obtain ⟨i, hi, rfl⟩ := List.mem_iff_getElem.1 hx
  have := h i hi
  simpa [List.getD, hi] using this
theorem all_not {n : Nat} {ts : List (List Int)} {k : Nat} (hk : k < ts.length) (h : triB n (ts.getD k []) = false) : ts.all (triB n) = false := by
  rw [Bool.eq_false_iff]
  intro hh
  have := List.all_eq_true.1 hh (ts[k]) (List.getElem_mem hk)
  have h' : triB n ts[k] = false := by simpa [List.getD, hk] using h
  rw [this] at h'; cases h'
theorem impl_ValidMesh (pa ta : Option Addr) (pl pc tl tc : Nat) (cs : List C3) (ts : List (List Int)) (w : World) (hp : IsVs w pa pl pc cs) (ht : IsTs w ta tl tc ts) :
    Calls Try.prog 98 #[.agg #[.slice pa pl pc, .slice ta tl tc]] w fun e w' => e = .returned (.bool (validB cs ts)) ∧ Below w.heap.size w w' := by
  have ui := Try.underlying41
  have hpl := hp.1
  have htl := ht.1
  unfold validB
  rw [hpl, htl]
  have hB0 : Below w.heap.size w (w.alloc (.cells #[.slice pa pl pc, .slice ta tl tc] 41)) := (Below.refl _ _).alloc (Nat.le_refl _) _
  have HB0 := Lib.hid hB0
  by_cases h1 : pl ≤ 64
  · by_cases h2 : tl ≤ 128
    · have g1 : ¬ (64 : Int) < pl := by omega
      have g2 : ¬ (128 : Int) < tl := by omega
      rw [decide_eq_true h1, decide_eq_true h2]
      have ht' := ht.below hB0
      have HTL := Lib.hid htl
      clear hp ht hB0 hpl htl
      have c0 : (w.alloc (.cells #[.slice pa pl pc, .slice ta tl tc] 41)).cell? ⟨w.heap.size, 0, none⟩ = some (.slice pa pl pc) := by go_simp
      go_enter Try.func98, Try.ntmps98
      go_wp2_with fail
      generalize w.alloc (.cells #[.slice pa pl pc, .slice ta tl tc] 41) = W at c0 ht' HB0 ⊢
      have hm : tl ≤ 9223372036854775807 := by omega
      go_loopw [18] (fun i w' => ∃ k : Nat, k ≤ tl ∧ i = .int .i64 k ∧ Aside (∀ j, j < k → triB pl (ts.getD j []) = true) ∧ ∃ n, w' = W.drewN n) (fun i _ => tl - (intOf i).toNat)
      case atStart => exact ⟨0, Nat.zero_le _, rfl, (fun j hj => absurd hj (by omega)), 0, rfl⟩
      case round =>
        obtain ⟨k, hk, rfl, hall, n, hw⟩ := hrel
        by_cases hlt : k < tl
        · obtain ⟨b, o, rfl, hcell⟩ := (ht'.drew hw).some (by omega)
          obtain ⟨r1, n1, q1, c1, i1⟩ := hcell k hlt
          have c0' : wr.cell? ⟨w.heap.size, 0, none⟩ = some (.slice pa pl pc) := by rw [hw]; exact c0
          have hJ := fun w (hi : IsIs w r1 n1 q1 (ts.getD k [])) => impl_isTriangle r1 n1 q1 (ts.getD k []) pl w hi
          have HW := Lib.hid hw
          have hk0 : (0 : Int) ≤ (k : Int) := by omega
          have hk1 : (k : Int) < (tl : Int) := by omega
          cases hb : triB pl (ts.getD k [])
          · have hres : Aside ((true && true && ts.all (triB pl)) = false) := by show (true && true && ts.all (triB pl)) = false; rw [all_not (by rw [HTL.out]; exact hlt) hb]; rfl
            rw [hb] at hJ
            have HJ := Lib.hid (hJ wr i1)
            clear hcell ht' hw i1 hJ hall hb
            go_wp2_with (go_at_call 165; refine HJ.out.mono ?_; rintro e w1 ⟨rfl, m, rfl⟩)
            go_ret
            exact ⟨ret_bool hres.out.symm, by rw [HW.out, World.drewN_drewN]; exact below_drewN HB0.out _⟩
          · have hall' : Aside (∀ j, j < k + 1 → triB pl (ts.getD j []) = true) := by
              intro j hj
              by_cases hjk : j = k
              · subst hjk; exact hb
              · exact hall.out j (by omega)
            rw [hb] at hJ
            have HJ := Lib.hid (hJ wr i1)
            clear hcell ht' hw i1 hJ hall hb
            go_wp2_with (go_at_call 165; refine HJ.out.mono ?_; rintro e w1 ⟨rfl, m, rfl⟩)
            go_roundw
            case rel => exact ⟨k + 1, by omega, by go_num, hall', drewn_end HW.out⟩
            case measure => simp [intOf]; omega
        · obtain rfl : k = tl := by omega
          have hres : Aside ((true && true && ts.all (triB pl)) = true) := by show (true && true && ts.all (triB pl)) = true; rw [all_take (by rw [HTL.out]; exact hall.out)]; rfl
          have HW := Lib.hid hw
          clear hall hw ht'
          go_wp2
          go_ret
          exact ⟨ret_bool hres.out.symm, by rw [HW.out]; exact below_drewN HB0.out _⟩
    · have g1 : ¬ (64 : Int) < pl := by omega
      have g2 : (128 : Int) < tl := by omega
      rw [decide_eq_true h1, decide_eq_false h2]
      clear hp ht hB0 hpl htl
      go_enter Try.func98, Try.ntmps98
      go_wp2
      go_ret
      exact ⟨rfl, HB0.out⟩
  · have g1 : (64 : Int) < pl := by omega
    rw [decide_eq_false h1]
    clear hp ht hB0 hpl htl
    go_enter Try.func98, Try.ntmps98
    go_wp2
    go_ret
    exact ⟨rfl, HB0.out⟩
set_option maxHeartbeats 1000000 in
theorem l02Is (pb : Nat) (pa ta : Option Addr) (pl pc tl tc : Nat) (cs : List C3) (ts : List (List Int)) (w : World) (c0 : w.cell? ⟨pb, 0, none⟩ = some (.slice pa pl pc)) (c1 : w.cell? ⟨pb, 1, none⟩ = some (.slice ta tl tc)) (hp : IsVs w pa pl pc cs) (ht : IsTs w ta tl tc ts) :
    Calls Try.prog 78 #[.pointer (some ⟨pb, 0, none⟩)] w fun e w' => e = .returned (.bool (validB cs ts)) ∧ ∃ n, w' = w.drewN n := by
  have ui := Try.underlying41
  have hpl := hp.1
  have htl := ht.1
  unfold validB
  rw [hpl, htl]
  by_cases h1 : pl ≤ 64
  · have g1 : ¬ (64 : Int) < pl := by omega
    by_cases h2 : tl ≤ 128
    · have g2 : ¬ (128 : Int) < tl := by omega
      rw [decide_eq_true h1, decide_eq_true h2]
      have HTL := Lib.hid htl
      clear hp hpl htl
      go_enter Try.func78, Try.ntmps78
      go_wp2_with fail
      have hm : tl ≤ 9223372036854775807 := by omega
      go_loopw [3] (fun i w' => ∃ k : Nat, k ≤ tl ∧ i = .int .i64 k ∧ Aside (∀ j, j < k → triB pl (ts.getD j []) = true) ∧ ∃ n, w' = w.drewN n) (fun i _ => tl - (intOf i).toNat)
      case atStart => exact ⟨0, Nat.zero_le _, rfl, (fun j hj => absurd hj (by omega)), 0, rfl⟩
      case round =>
        obtain ⟨k, hk, rfl, hall, n, hw⟩ := hrel
        have c0' : wr.cell? ⟨pb, 0, none⟩ = some (.slice pa pl pc) := by rw [hw]; exact c0
        have c1' : wr.cell? ⟨pb, 1, none⟩ = some (.slice ta tl tc) := by rw [hw]; exact c1
        by_cases hlt : k < tl
        · obtain ⟨b, o, rfl, hcell⟩ := (ht.drew hw).some (by omega)
          obtain ⟨r1, n1, q1, cr, i1⟩ := hcell k hlt
          have hJ := fun w (hi : IsIs w r1 n1 q1 (ts.getD k [])) => l02Triangle r1 n1 q1 (ts.getD k []) pl w hi (by omega)
          have HW := Lib.hid hw
          have hk0 : (0 : Int) ≤ (k : Int) := by omega
          have hk1 : (k : Int) < (tl : Int) := by omega
          cases hb : triB pl (ts.getD k [])
          · have hres : Aside ((true && true && ts.all (triB pl)) = false) := by show (true && true && ts.all (triB pl)) = false; rw [all_not (by rw [HTL.out]; exact hlt) hb]; rfl
            rw [hb] at hJ
            have HJ := Lib.hid (fun n => hJ (wr.drewN n) i1.drew)
            clear hcell ht hw i1 hJ hall hb
            go_wp2_with fail
            go_quiet ((go_at_call 146; exact Calls.quiet_of (HJ.out _)))
            go_wp2
            go_ret
            exact ⟨ret_bool hres.out.symm, drewn_end HW.out⟩
          · have hall' : Aside (∀ j, j < k + 1 → triB pl (ts.getD j []) = true) := by
              intro j hj
              by_cases hjk : j = k
              · subst hjk; exact hb
              · exact hall.out j (by omega)
            rw [hb] at hJ
            have HJ := Lib.hid (fun n => hJ (wr.drewN n) i1.drew)
            clear hcell ht hw i1 hJ hall hb
            go_wp2_with fail
            go_quiet ((go_at_call 146; exact Calls.quiet_of (HJ.out _)))
            go_wp2
            go_roundw
            case rel => exact ⟨k + 1, by omega, by go_num, hall', drewn_end HW.out⟩
            case measure => simp [intOf]; omega
        · obtain rfl : k = tl := by omega
          have hres : Aside ((true && true && ts.all (triB pl)) = true) := by show (true && true && ts.all (triB pl)) = true; rw [all_take (by rw [HTL.out]; exact hall.out)]; rfl
          have HW := Lib.hid hw
          clear hall hw ht
          go_wp2
          go_ret
          exact ⟨ret_bool hres.out.symm, by rw [HW.out]; exact ⟨_, rfl⟩⟩
    · have g2 : (128 : Int) < tl := by omega
      rw [decide_eq_true h1, decide_eq_false h2]
      clear hp ht hpl htl
      go_enter Try.func78, Try.ntmps78
      go_wp2
      go_ret
      exact ⟨rfl, 0, rfl⟩
  · have g1 : (64 : Int) < pl := by omega
    rw [decide_eq_false h1]
    clear hp ht hpl htl
    go_enter Try.func78, Try.ntmps78
    go_wp2
    go_ret
    exact ⟨rfl, 0, rfl⟩
end Go.Proofs.Ytkdoibglgkcbkaa

/-
Texts in one: what EdgesOf stands on, part 12. Conditions: those of each.
-/
import Derived.Test.YtmbekamnogbgaaaKEdgesOf11
import Derived.WalkKit

/-
Which meshes are valid: what the program and its model return. Conditions: none.
-/
namespace Go.Proofs.Ytmbekamnogbgaaa
open Go Fk Go.RowKit
set_option linter.unusedVariables false
set_option maxRecDepth 8000

theorem fin3 {a b c : Int} (h01 : ¬ a = b) (h12 : ¬ b = c) (h02 : ¬ a = c) : (true && (true && true && true) && (decide (a ≠ b) && decide (b ≠ c) && decide (a ≠ c))) = true := by
  rw [decide_eq_true h01, decide_eq_true h12, decide_eq_true h02]; rfl
set_option maxHeartbeats 8000000 in
theorem impl_isTriangle (a : Option Addr) (len cap : Nat) (t : List Int) (n : Nat) (w : World) (h : IsIs w a len cap t) :
    Calls Try.prog 142 #[.slice a len cap, .int .i64 n] w fun e w' => e = .returned (.bool (triB n t)) ∧ ∃ k, w' = w.drewN k := by
  have hl := h.1
  by_cases h3 : len = 3
  · subst h3
    obtain ⟨b, o, rfl, hcell⟩ := h.some (by decide)
    have c0 := hcell 0 (by decide)
    have c1 := hcell 1 (by decide)
    have c2 := hcell 2 (by decide)
    simp only [Nat.add_zero] at c0
    unfold triB
    rw [hl, decide_eq_true rfl]
    generalize t.getD 0 0 = z0 at *
    generalize t.getD 1 0 = z1 at *
    generalize t.getD 2 0 = z2 at *
    clear h hcell hl
    generalize hi0 : inB n z0 = i0
    generalize hi1 : inB n z1 = i1
    generalize hi2 : inB n z2 = i2
    have J0 : ∀ w, Calls Try.prog 107 #[.int .i64 z0, .int .i64 n] w fun e w' => e = .returned (.bool i0) ∧ w' = w := fun w => (impl_isIndex z0 n w).mono (by rintro _ _ ⟨rfl, rfl⟩; exact ⟨by rw [hi0], rfl⟩)
    have J1 : ∀ w, Calls Try.prog 107 #[.int .i64 z1, .int .i64 n] w fun e w' => e = .returned (.bool i1) ∧ w' = w := fun w => (impl_isIndex z1 n w).mono (by rintro _ _ ⟨rfl, rfl⟩; exact ⟨by rw [hi1], rfl⟩)
    have J2 : ∀ w, Calls Try.prog 107 #[.int .i64 z2, .int .i64 n] w fun e w' => e = .returned (.bool i2) ∧ w' = w := fun w => (impl_isIndex z2 n w).mono (by rintro _ _ ⟨rfl, rfl⟩; exact ⟨by rw [hi2], rfl⟩)
    have K0 := Lib.hid J0
    have K1 := Lib.hid J1
    have K2 := Lib.hid J2
    clear J0 J1 J2 hi0 hi1 hi2
    go_enter Try.func142, Try.ntmps142
    go_wp2
    go_loopw [12] (fun i w' => ∃ k : Nat, k ≤ 3 ∧ i = .int .i64 k ∧ (0 < k → i0 = true) ∧ (1 < k → i1 = true) ∧ (2 < k → i2 = true) ∧ w' = w) (fun i _ => 3 - (intOf i).toNat)
    case atStart => exact ⟨0, by decide, rfl, (fun h => absurd h (by decide)), (fun h => absurd h (by decide)), (fun h => absurd h (by decide)), rfl⟩
    case round =>
      obtain ⟨k, hk, rfl, h0, h1, h2, rfl⟩ := hrel
      have hcase : k = 0 ∨ k = 1 ∨ k = 2 ∨ k = 3 := by omega
      rcases hcase with rfl | rfl | rfl | rfl
      · cases i0
        · go_wp2_with (go_at_call 107; refine (K0.out _).mono ?_; rintro e w1 ⟨rfl, hw1⟩; rw [hw1]; clear hw1)
          go_ret
          exact ⟨ret_bool (by simp), 0, rfl⟩
        · go_wp2_with (go_at_call 107; refine (K0.out _).mono ?_; rintro e w1 ⟨rfl, hw1⟩; rw [hw1]; clear hw1)
          go_roundw
          case rel => exact ⟨1, by decide, rfl, (by first | trivial | exact fun _ => rfl | exact fun _ => h0 (by decide)), (fun h => absurd h (by decide)), (fun h => absurd h (by decide)), trivial⟩
          case measure => simp [intOf]
      · cases i1
        · go_wp2_with (go_at_call 107; refine (K1.out _).mono ?_; rintro e w1 ⟨rfl, hw1⟩; rw [hw1]; clear hw1)
          go_ret
          exact ⟨ret_bool (by simp), 0, rfl⟩
        · go_wp2_with (go_at_call 107; refine (K1.out _).mono ?_; rintro e w1 ⟨rfl, hw1⟩; rw [hw1]; clear hw1)
          go_roundw
          case rel => exact ⟨2, by decide, rfl, (by first | trivial | exact fun _ => rfl | exact fun _ => h0 (by decide)), (by first | trivial | exact fun _ => rfl | exact fun _ => h1 (by decide)), (fun h => absurd h (by decide)), trivial⟩
          case measure => simp [intOf]
      · cases i2
        · go_wp2_with (go_at_call 107; refine (K2.out _).mono ?_; rintro e w1 ⟨rfl, hw1⟩; rw [hw1]; clear hw1)
          go_ret
          exact ⟨ret_bool (by simp), 0, rfl⟩
        · go_wp2_with (go_at_call 107; refine (K2.out _).mono ?_; rintro e w1 ⟨rfl, hw1⟩; rw [hw1]; clear hw1)
          go_roundw
          case rel => exact ⟨3, by decide, rfl, (by first | trivial | exact fun _ => rfl | exact fun _ => h0 (by decide)), (by first | trivial | exact fun _ => rfl | exact fun _ => h1 (by decide)), (by first | trivial | exact fun _ => rfl | exact fun _ => h2 (by decide)), trivial⟩
          case measure => simp [intOf]
      · have e0 := h0 (by decide)
        have e1 := h1 (by decide)
        have e2 := h2 (by decide)
        subst e0 e1 e2
        clear h0 h1 h2
        by_cases h01 : z0 = z1
        · have hs : z1 = z0 := h01.symm
          clear h01
          subst hs
          go_wp2_with fail
          go_quiet (fail)
          go_wp2
          go_ret
          exact ⟨ret_bool (by simp), _, rfl⟩
        · have d01 : (z0 == z1) = false := beq_eq_false_iff_ne.2 h01
          by_cases h12 : z1 = z2
          · have hs : z2 = z1 := h12.symm
            clear h12
            subst hs
            go_wp2_with fail
            go_quiet (fail)
            go_wp2
            go_ret
            exact ⟨ret_bool (by simp [h01]), _, rfl⟩
          · have d12 : (z1 == z2) = false := beq_eq_false_iff_ne.2 h12
            by_cases h02 : z0 = z2
            · have hs : z2 = z0 := h02.symm
              clear h02 d12
              subst hs
              go_wp2_with fail
              go_quiet (fail)
              go_wp2
              go_ret
              exact ⟨ret_bool (by simp [h01, h12]), _, rfl⟩
            · have d02 : (z0 == z2) = false := beq_eq_false_iff_ne.2 h02
              have d20 : (z2 == z0) = false := beq_eq_false_iff_ne.2 (fun h => h02 h.symm)
              go_wp2_with fail
              go_quiet (fail)
              go_wp2
              go_ret
              refine ⟨ret_bool ?_, _, rfl⟩
              rw [fin3 h01 h12 h02]
              first | rfl | (simp only [bne, d01, d12, d20]; rfl) | (simp only [bne, d01, d12, d02]; rfl)
  · have hb : triB n t = false := by unfold triB; rw [hl, decide_eq_false h3]; rfl
    have h4 : ¬ (len : Int) = 3 := by omega
    rw [hb]
    clear hb
    go_enter Try.func142, Try.ntmps142
    go_wp2
    go_ret
    exact ⟨rfl, 0, rfl⟩
end Go.Proofs.Ytmbekamnogbgaaa


/-
Which meshes are valid: what the program and its model return. Conditions: none.
-/
namespace Go.Proofs.Ytmbekamnogbgaaa
open Go Fk Go.RowKit
set_option linter.unusedVariables false
set_option maxRecDepth 8000

def validB (cs : List C3) (ts : List (List Int)) : Bool := decide (cs.length ≤ 64) && decide (ts.length ≤ 128) && ts.all (triB cs.length)
theorem all_take {n : Nat} {ts : List (List Int)} (h : ∀ j, j < ts.length → triB n (ts.getD j []) = true) : ts.all (triB n) = true := by
  rw [List.all_eq_true]
  intro x hx
  obtain ⟨i, hi, rfl⟩ := List.mem_iff_getElem.1 hx
  have := h i hi
  simpa [List.getD, hi] using this
theorem all_not {n : Nat} {ts : List (List Int)} {k : Nat} (hk : k < ts.length) (h : triB n (ts.getD k []) = false) : ts.all (triB n) = false := by
  rw [Bool.eq_false_iff]
  intro hh
  have := List.all_eq_true.1 hh (ts[k]) (List.getElem_mem hk)
  have h' : triB n ts[k] = false := by simpa [List.getD, hk] using h
  rw [this] at h'; cases h'
theorem impl_ValidMesh (pa ta : Option Addr) (pl pc tl tc : Nat) (cs : List C3) (ts : List (List Int)) (w : World) (hp : IsVs w pa pl pc cs) (ht : IsTs w ta tl tc ts) :
    Calls Try.prog 74 #[.agg #[.slice pa pl pc, .slice ta tl tc]] w fun e w' => e = .returned (.bool (validB cs ts)) ∧ Below w.heap.size w w' := by
  have ui := Try.underlying29
  have hpl := hp.1
  have htl := ht.1
  unfold validB
  rw [hpl, htl]
  have hB0 : Below w.heap.size w (w.alloc (.cells #[.slice pa pl pc, .slice ta tl tc] 29)) := (Below.refl _ _).alloc (Nat.le_refl _) _
  have HB0 := Lib.hid hB0
  by_cases h1 : pl ≤ 64
  · by_cases h2 : tl ≤ 128
    · have g1 : ¬ (64 : Int) < pl := by omega
      have g2 : ¬ (128 : Int) < tl := by omega
      rw [decide_eq_true h1, decide_eq_true h2]
      have ht' := ht.below hB0
      have HTL := Lib.hid htl
      clear hp ht hB0 hpl htl
      have c0 : (w.alloc (.cells #[.slice pa pl pc, .slice ta tl tc] 29)).cell? ⟨w.heap.size, 0, none⟩ = some (.slice pa pl pc) := by go_simp
      go_enter Try.func74, Try.ntmps74
      go_wp2_with fail
      generalize w.alloc (.cells #[.slice pa pl pc, .slice ta tl tc] 29) = W at c0 ht' HB0 ⊢
      have hm : tl ≤ 9223372036854775807 := by omega
      go_loopw [18] (fun i w' => ∃ k : Nat, k ≤ tl ∧ i = .int .i64 k ∧ Aside (∀ j, j < k → triB pl (ts.getD j []) = true) ∧ ∃ n, w' = W.drewN n) (fun i _ => tl - (intOf i).toNat)
      case atStart => exact ⟨0, Nat.zero_le _, rfl, (fun j hj => absurd hj (by omega)), 0, rfl⟩
      case round =>
        obtain ⟨k, hk, rfl, hall, n, hw⟩ := hrel
        by_cases hlt : k < tl
        · obtain ⟨b, o, rfl, hcell⟩ := (ht'.drew hw).some (by omega)
          obtain ⟨r1, n1, q1, c1, i1⟩ := hcell k hlt
          have c0' : wr.cell? ⟨w.heap.size, 0, none⟩ = some (.slice pa pl pc) := by rw [hw]; exact c0
          have hJ := fun w (hi : IsIs w r1 n1 q1 (ts.getD k [])) => impl_isTriangle r1 n1 q1 (ts.getD k []) pl w hi
          have HW := Lib.hid hw
          have hk0 : (0 : Int) ≤ (k : Int) := by omega
          have hk1 : (k : Int) < (tl : Int) := by omega
          cases hb : triB pl (ts.getD k [])
          · have hres : Aside ((true && true && ts.all (triB pl)) = false) := by show (true && true && ts.all (triB pl)) = false; rw [all_not (by rw [HTL.out]; exact hlt) hb]; rfl
            rw [hb] at hJ
            have HJ := Lib.hid (hJ wr i1)
            clear hcell ht' hw i1 hJ hall hb
            go_wp2_with (go_at_call 142; refine HJ.out.mono ?_; rintro e w1 ⟨rfl, m, rfl⟩)
            go_ret
            exact ⟨ret_bool hres.out.symm, by rw [HW.out, World.drewN_drewN]; exact below_drewN HB0.out _⟩
          · have hall' : Aside (∀ j, j < k + 1 → triB pl (ts.getD j []) = true) := by
              intro j hj
              by_cases hjk : j = k
              · subst hjk; exact hb
              · exact hall.out j (by omega)
            rw [hb] at hJ
            have HJ := Lib.hid (hJ wr i1)
            clear hcell ht' hw i1 hJ hall hb
            go_wp2_with (go_at_call 142; refine HJ.out.mono ?_; rintro e w1 ⟨rfl, m, rfl⟩)
            go_roundw
            case rel => exact ⟨k + 1, by omega, by go_num, hall', drewn_end HW.out⟩
            case measure => simp [intOf]; omega
        · obtain rfl : k = tl := by omega
          have hres : Aside ((true && true && ts.all (triB pl)) = true) := by show (true && true && ts.all (triB pl)) = true; rw [all_take (by rw [HTL.out]; exact hall.out)]; rfl
          have HW := Lib.hid hw
          clear hall hw ht'
          go_wp2
          go_ret
          exact ⟨ret_bool hres.out.symm, by rw [HW.out]; exact below_drewN HB0.out _⟩
    · have g1 : ¬ (64 : Int) < pl := by omega
      have g2 : (128 : Int) < tl := by omega
      rw [decide_eq_true h1, decide_eq_false h2]
      clear hp ht hB0 hpl htl
      go_enter Try.func74, Try.ntmps74
      go_wp2
      go_ret
      exact ⟨rfl, HB0.out⟩
  · have g1 : (64 : Int) < pl := by omega
    rw [decide_eq_false h1]
    clear hp ht hB0 hpl htl
    go_enter Try.func74, Try.ntmps74
    go_wp2
    go_ret
    exact ⟨rfl, HB0.out⟩
set_option maxHeartbeats 1000000 in
theorem l02Is (pb : Nat) (pa ta : Option Addr) (pl pc tl tc : Nat) (cs : List C3) (ts : List (List Int)) (w : World) (c0 : w.cell? ⟨pb, 0, none⟩ = some (.slice pa pl pc)) (c1 : w.cell? ⟨pb, 1, none⟩ = some (.slice ta tl tc)) (hp : IsVs w pa pl pc cs) (ht : IsTs w ta tl tc ts) :
    Calls Try.prog 71 #[.pointer (some ⟨pb, 0, none⟩)] w fun e w' => e = .returned (.bool (validB cs ts)) ∧ ∃ n, w' = w.drewN n := by
  have ui := Try.underlying29
  have hpl := hp.1
  have htl := ht.1
  unfold validB
  rw [hpl, htl]
  by_cases h1 : pl ≤ 64
  · have g1 : ¬ (64 : Int) < pl := by omega
    by_cases h2 : tl ≤ 128
    · have g2 : ¬ (128 : Int) < tl := by omega
      rw [decide_eq_true h1, decide_eq_true h2]
      have HTL := Lib.hid htl
      clear hp hpl htl
      go_enter Try.func71, Try.ntmps71
      go_wp2_with fail
      have hm : tl ≤ 9223372036854775807 := by omega
      go_loopw [3] (fun i w' => ∃ k : Nat, k ≤ tl ∧ i = .int .i64 k ∧ Aside (∀ j, j < k → triB pl (ts.getD j []) = true) ∧ ∃ n, w' = w.drewN n) (fun i _ => tl - (intOf i).toNat)
      case atStart => exact ⟨0, Nat.zero_le _, rfl, (fun j hj => absurd hj (by omega)), 0, rfl⟩
      case round =>
        obtain ⟨k, hk, rfl, hall, n, hw⟩ := hrel
        have c0' : wr.cell? ⟨pb, 0, none⟩ = some (.slice pa pl pc) := by rw [hw]; exact c0
        have c1' : wr.cell? ⟨pb, 1, none⟩ = some (.slice ta tl tc) := by rw [hw]; exact c1
        by_cases hlt : k < tl
        · obtain ⟨b, o, rfl, hcell⟩ := (ht.drew hw).some (by omega)
          obtain ⟨r1, n1, q1, cr, i1⟩ := hcell k hlt
          have hJ := fun w (hi : IsIs w r1 n1 q1 (ts.getD k [])) => l02Triangle r1 n1 q1 (ts.getD k []) pl w hi (by omega)
          have HW := Lib.hid hw
          have hk0 : (0 : Int) ≤ (k : Int) := by omega
          have hk1 : (k : Int) < (tl : Int) := by omega
          cases hb : triB pl (ts.getD k [])
          · have hres : Aside ((true && true && ts.all (triB pl)) = false) := by show (true && true && ts.all (triB pl)) = false; rw [all_not (by rw [HTL.out]; exact hlt) hb]; rfl
            rw [hb] at hJ
            have HJ := Lib.hid (fun n => hJ (wr.drewN n) i1.drew)
            clear hcell ht hw i1 hJ hall hb
            go_wp2_with fail
            go_quiet ((go_at_call 140; exact Calls.quiet_of (HJ.out _)))
            go_wp2
            go_ret
            exact ⟨ret_bool hres.out.symm, drewn_end HW.out⟩
          · have hall' : Aside (∀ j, j < k + 1 → triB pl (ts.getD j []) = true) := by
              intro j hj
              by_cases hjk : j = k
              · subst hjk; exact hb
              · exact hall.out j (by omega)
            rw [hb] at hJ
            have HJ := Lib.hid (fun n => hJ (wr.drewN n) i1.drew)
            clear hcell ht hw i1 hJ hall hb
            go_wp2_with fail
            go_quiet ((go_at_call 140; exact Calls.quiet_of (HJ.out _)))
            go_wp2
            go_roundw
            case rel => exact ⟨k + 1, by omega, by go_num, hall', drewn_end HW.out⟩
            case measure => simp [intOf]; omega
        · obtain rfl : k = tl := by omega
          have hres : Aside ((true && true && ts.all (triB pl)) = true) := by show (true && true && ts.all (triB pl)) = true; rw [all_take (by rw [HTL.out]; exact hall.out)]; rfl
          have HW := Lib.hid hw
          clear hall hw ht
          go_wp2
          go_ret
          exact ⟨ret_bool hres.out.symm, by rw [HW.out]; exact ⟨_, rfl⟩⟩
    · have g2 : (128 : Int) < tl := by omega
      rw [decide_eq_true h1, decide_eq_false h2]
      clear hp ht hpl htl
      go_enter Try.func71, Try.ntmps71
      go_wp2
      go_ret
      exact ⟨rfl, 0, rfl⟩
  · have g1 : (64 : Int) < pl := by omega
    rw [decide_eq_false h1]
    clear hp ht hpl htl
    go_enter Try.func71, Try.ntmps71
    go_wp2
    go_ret
    exact ⟨rfl, 0, rfl⟩
end Go.Proofs.Ytmbekamnogbgaaa


/-
Lists that are appended to a list of one's own, and the model's copy of a list of integers. Conditions: none beyond their sizes.
-/
namespace Go.Proofs.Ytmbekamnogbgaaa
open Go Fk Go.RowKit
set_option linter.unusedVariables false
set_option maxRecDepth 8000
section
variable {P : Program} (w : World)
theorem wp_append_opt {o : Oper} {a : Act} {K : Act → World → Prop} {Q : Exit → Act → World → Prop} (s x : Operand) (t : TypeId)
    (ho : o.op = .call { callee := .builtin .append, args := #[s, x], argTypes := #[t, t] })
    (base : Nat) (e : TypeId) (i : TypeInfo) (z : Value) (size bytes : Nat) (ht : P.underlying t = some (.slice e)) (hi : P.info? e = some i) (hz : i.zero = some z)
    (hsize : i.size = size) (hby : i.bytes = bytes) (hzs : z.cells.size = size) (hsz : 0 < size)
    (v : Value) (n : Nat) (xs : List Value) (hs : a.eval s = v) (hown : w.ownsRow base e size v n xs)
    (oa : Option Addr) (m c : Nat) (news : List Value) (hx : a.eval x = .slice oa m c) (h0 : oa = none → m = 0 ∧ c = 0) (hl : news.length = m * size) (hnews : ∀ ad, oa = some ad → ∀ j u, news[j]? = some u → w.cell? (ad.add j) = some u) (h1 : ∀ u ∈ news, u.oneCell' = true)
    (h63 : n + m ≤ maxLen) (hbytes : (n + m) * bytes ≤ 140737488355328) (hbase : base ≤ w.heap.size)
    (h : ∀ v' w', w'.ownsRow base e size v' (n + m) (xs ++ news) → w.grownBy w' v.ownBlock → K (a.put o.dst v') w') : o.wp P a w K Q := by
  cases oa with
  | some ad => exact wp_append_own w s x t ho base e i z size bytes ht hi hz hsize hby hzs hsz v n xs hs hown ad m c news hx hl (hnews ad rfl) h1 h63 hbytes hbase fun v' w' h2 h3 _ => h v' w' h2 h3
  | none =>
    obtain ⟨rfl, rfl⟩ := h0 rfl
    have hn : news = [] := by apply List.eq_nil_of_length_eq_zero; omega
    subst hn
    have hr := run_append_owned_none (P := P) (w := w) base t o.type e i size ht hi v n xs hown
    unfold Oper.wp execOp
    simp only [ho, resolve, invoke, builtin, Sem.run_bind, Sem.run_pure, Result.andThen_ok, List.map_toArray, List.map_cons, List.map_nil, hs, hx, hr]
    exact h v w (by simpa using hown) ⟨rfl, rfl, rfl, Nat.le_refl _, fun _ _ _ => rfl⟩
theorem wpList_append_opt {ops : Array Oper} {rest : List Oper} {o : Oper} {a : Act} {Q : Exit → Act → World → Prop} (hgd : o.guard = none) (s x : Operand) (t : TypeId)
    (ho : o.op = .call { callee := .builtin .append, args := #[s, x], argTypes := #[t, t] })
    (base : Nat) (e : TypeId) (i : TypeInfo) (z : Value) (size bytes : Nat) (ht : P.underlying t = some (.slice e)) (hi : P.info? e = some i) (hz : i.zero = some z)
    (hsize : i.size = size) (hby : i.bytes = bytes) (hzs : z.cells.size = size) (hsz : 0 < size)
    (v : Value) (n : Nat) (xs : List Value) (hs : a.eval s = v) (hown : w.ownsRow base e size v n xs)
    (oa : Option Addr) (m c : Nat) (news : List Value) (hx : a.eval x = .slice oa m c) (h0 : oa = none → m = 0 ∧ c = 0) (hl : news.length = m * size) (hnews : ∀ ad, oa = some ad → ∀ j u, news[j]? = some u → w.cell? (ad.add j) = some u) (h1 : ∀ u ∈ news, u.oneCell' = true)
    (h63 : n + m ≤ maxLen) (hbytes : (n + m) * bytes ≤ 140737488355328) (hbase : base ≤ w.heap.size)
    (h : ∀ v' w', w'.ownsRow base e size v' (n + m) (xs ++ news) → w.grownBy w' v.ownBlock → wpList P ops Q rest (a.put o.dst v') w') : wpList P ops Q (o :: rest) a w :=
  wpList_plain hgd fun _ hK => wp_append_opt w s x t ho base e i z size bytes ht hi hz hsize hby hzs hsz v n xs hs hown oa m c news hx h0 hl hnews h1 h63 hbytes hbase fun v' w' h2 h3 => hK _ _ (h v' w' h2 h3)
end
/-- A row of one's own is a list of integers. -/
theorem is_of_owns {w : World} {base n : Nat} {v : Value} {zs : List Int} (h : w.ownsRow base 2 1 v n (ints zs)) (hn : zs.length = n) (hz : ∀ z ∈ zs, (Lit.int .i64 z).wf = true) :
    ∃ a cap, v = .slice a n cap ∧ IsIs w a n cap zs ∧ ∀ x, a = some x → base ≤ x.block ∧ x.block < w.heap.size := by
  have h' := h
  obtain ⟨h1, h2⟩ := h
  rcases h2 with ⟨rfl, hn0⟩ | ⟨g, cap, cur, rfl, hb, hh, hc1, hc2, hs, ht⟩
  · refine ⟨none, 0, by rw [hn0], ⟨hn, by omega, by unfold maxLen; omega, hz, fun _ => ⟨hn0, rfl⟩, fun x hx => by cases hx⟩, fun x hx => by cases hx⟩
  · have hg := h'.lt g rfl
    refine ⟨_, cap, rfl, ⟨hn, hc1, hc2, hz, by simp, fun x hx i hi => ?_⟩, fun x hx => by cases hx; exact hg⟩
    cases hx
    rw [addr_add', Nat.zero_add, h'.cellAt i (by omega)]
    unfold ints
    simp [List.getD, hn, hi]
theorem l00Own (a : Option Addr) (len cap : Nat) (zs : List Int) (w : World) (h : IsIs w a len cap zs) (hlen : len ≤ 1048576) :
    Calls Try.prog 158 #[.slice a len cap] w fun e w' => (∃ v, e = .returned v ∧ w'.ownsRow w.heap.size 2 1 v len (ints zs)) ∧ Below w.heap.size w w' := by
  obtain ⟨i0, hi, hz0, hz1, hz2⟩ := info_parts info64
  have hzl := h.1
  have hzw := h.2.2.2.1
  have hil : (ints zs).length = len * 1 := by unfold ints; simp; exact hzl
  have H := Lib.hid h
  have HZ := Lib.hid hzw
  clear h hzw
  go_enter Try.func158, Try.ntmps158
  go_wp2_with (at_builtin; refine wpList_append_opt _ rfl _ _ 81 rfl w.heap.size 2 i0 (.int .i64 0) 1 8 Try.underlying81 hi hz0 hz1 hz2 rfl (by decide) _ 0 [] rfl (World.ownsRow_lit (e := 2) (size := 1) w #[] 0 (Nat.le_refl _) (by decide) rfl) a len cap (ints zs) rfl H.out.2.2.2.2.1 hil ?c2 ?c3 ?c4 ?c5 ?c6 ?_)
  case c2 =>
    intro ad had j u hu
    have hj : j < len := by
      have := (List.getElem?_eq_some_iff.1 hu).1; omega
    have hc := H.out.2.2.2.2.2 ad had j hj
    have : u = .int .i64 (zs.getD j 0) := by
      unfold ints at hu
      have hj' : j < zs.length := by omega
      simp [hj'] at hu
      simp [List.getD, hj', ← hu]
    rw [this, World.cell?_alloc_lt (h := World.block_lt_of_cell? _ _ hc)]
    exact hc
  case c3 =>
    intro u hu
    unfold ints at hu
    obtain ⟨z, _, rfl⟩ := List.mem_map.1 hu
    rfl
  case c4 => unfold maxLen; omega
  case c5 => omega
  case c6 => simp
  · intro v' w1 hown hgrow
    have hB1 : Below w.heap.size w (w.alloc (.cells #[] 2)) := (Below.refl _ _).alloc (Nat.le_refl _) _
    have hB2 := hB1.grown hgrow hB1.size (fun k hk => by cases hk; exact Nat.le_refl _)
    have hown' : w1.ownsRow w.heap.size 2 1 v' len (ints zs) := by simpa using hown
    have HI := Lib.hid hown'
    have HB2 := Lib.hid hB2
    clear hown hown' hgrow hB1 hB2
    go_wp2
    go_ret
    exact ⟨⟨v', rfl, HI.out⟩, HB2.out⟩
end Go.Proofs.Ytmbekamnogbgaaa

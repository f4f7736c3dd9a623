/-
Texts in one: what NeighboursOf stands on, part 0. Conditions: those of each.
-/
import Derived.Test.YtockhhfehjoldaaKBorderOf31

/-
A number is put into a list where it belongs: what the model returns. Conditions: the list lies in memory.
-/
namespace Go.Proofs.Ytockhhfehjoldaa
open Go Fk Go.RowKit
set_option linter.unusedVariables false
set_option maxRecDepth 8000

/-- One of the first k numbers is at least x. -/
def geP (L : List Int) (x : Int) : Nat → Bool
  | 0 => false
  | k + 1 => geP L x k || decide (x ≤ L.getD k 0)
/-- What has been written of the first k numbers. -/
def putK (L : List Int) (x : Int) : Nat → List Int
  | 0 => []
  | k + 1 => putK L x k ++ ((bif !geP L x k && decide (x < L.getD k 0) then [x] else []) ++ [L.getD k 0])
theorem geP_s (L : List Int) (x : Int) (k : Nat) : geP L x (k + 1) = (geP L x k || decide (x ≤ L.getD k 0)) := rfl
theorem putK_s (L : List Int) (x : Int) (k : Nat) : putK L x (k + 1) = putK L x k ++ ((bif !geP L x k && decide (x < L.getD k 0) then [x] else []) ++ [L.getD k 0]) := rfl
def putL (L : List Int) (x : Int) : List Int := putK L x L.length ++ (bif geP L x L.length then [] else [x])
theorem putK_len (L : List Int) (x : Int) : ∀ k, (putK L x k).length + (if geP L x k then 0 else 1) ≤ k + 1
  | 0 => by simp [putK, geP]
  | k + 1 => by
    have ih := putK_len L x k
    rw [putK_s, geP_s]
    generalize L.getD k 0 = y at *
    cases h : geP L x k
    · by_cases h2 : x < y
      · have h3 : x ≤ y := by omega
        simp only [h, Bool.false_eq_true, if_false] at ih
        simp [h2, h3]; omega
      · by_cases h3 : x ≤ y
        · simp only [h, Bool.false_eq_true, if_false] at ih
          simp [h2, h3]; omega
        · simp only [h, Bool.false_eq_true, if_false] at ih
          simp [h2, h3]; omega
    · simp only [h, if_true] at ih
      simp; omega
theorem putL_len (L : List Int) (x : Int) : (putL L x).length ≤ L.length + 1 := by
  have h := putK_len L x L.length
  unfold putL
  cases hg : geP L x L.length
  · simp only [hg, Bool.false_eq_true, if_false] at h
    simp; omega
  · simp only [hg, if_true] at h
    simp; omega
theorem putL_pos (L : List Int) (x : Int) : 0 < (putL L x).length := by
  unfold putL
  cases hg : geP L x L.length
  · simp
  · cases L with
    | nil => simp [geP] at hg
    | cons y L => rw [List.length_cons, putK_s]; simp; omega
/-- L rises. -/
def Rises (L : List Int) : Prop := L.Pairwise (· < ·)
theorem geP_iff {L : List Int} {x : Int} : ∀ {k}, k ≤ L.length → (geP L x k = true ↔ ∃ y ∈ L.take k, x ≤ y)
  | 0, _ => by simp [geP]
  | k + 1, hk => by
    have ih := geP_iff (L := L) (x := x) (k := k) (by omega)
    unfold geP
    have e : L.take (k + 1) = L.take k ++ [L.getD k 0] := by
      rw [List.take_add_one, List.getElem?_eq_getElem (by omega)]
      simp [List.getD, List.getElem?_eq_getElem (show k < L.length by omega)]
    rw [e, Bool.or_eq_true, ih, decide_eq_true_eq]
    simp only [List.mem_append, List.mem_singleton]
    constructor
    · rintro (⟨y, h1, h2⟩ | h)
      · exact ⟨y, .inl h1, h2⟩
      · exact ⟨_, .inr rfl, h⟩
    · rintro ⟨y, h1 | rfl, h2⟩
      · exact .inl ⟨y, h1, h2⟩
      · exact .inr h2
theorem mem_putK {L : List Int} {x z : Int} : ∀ {k}, k ≤ L.length → (z ∈ putK L x k ↔ z ∈ L.take k ∨ (z = x ∧ geP L x k = true))
  | 0, _ => by simp [putK, geP]
  | k + 1, hk => by
    have ih := mem_putK (L := L) (x := x) (z := z) (k := k) (by omega)
    have e : L.take (k + 1) = L.take k ++ [L.getD k 0] := by
      rw [List.take_add_one, List.getElem?_eq_getElem (by omega)]
      simp [List.getD, List.getElem?_eq_getElem (show k < L.length by omega)]
    rw [putK_s, geP_s, e]
    generalize L.getD k 0 = y at *
    simp only [List.mem_append, List.mem_singleton, ih]
    cases h : geP L x k
    · by_cases h2 : x < y
      · have h3 : x ≤ y := by omega
        simp only [h2, h3, decide_true, Bool.not_false, Bool.and_self, cond_true, List.mem_singleton, Bool.false_eq_true, and_false, or_false, Bool.false_or, and_true]
        constructor
        · rintro (h | h | h)
          · exact .inl (.inl h)
          · exact .inr h
          · exact .inl (.inr h)
        · rintro ((h | h) | h)
          · exact .inl h
          · exact .inr (.inr h)
          · exact .inr (.inl h)
      · by_cases h3 : x ≤ y
        · have h4 : x = y := by omega
          simp only [h2, h3, decide_true, decide_false, Bool.not_false, Bool.and_false, cond_false, List.not_mem_nil, Bool.false_eq_true, and_false, or_false, false_or, Bool.false_or, and_true]
          rw [← h4]
          constructor
          · rintro (h | h)
            · exact .inl (.inl h)
            · exact .inr h
          · rintro ((h | h) | h)
            · exact .inl h
            · exact .inr h
            · exact .inr h
        · simp [h2, h3]
    · simp only [Bool.not_true, Bool.false_and, cond_false, List.not_mem_nil, false_or, Bool.true_or, and_true]
      constructor
      · rintro ((h | h) | h)
        · exact .inl (.inl h)
        · exact .inr h
        · exact .inl (.inr h)
      · rintro ((h | h) | h)
        · exact .inl (.inl h)
        · exact .inr h
        · exact .inl (.inr h)
theorem mem_putL {L : List Int} {x z : Int} : z ∈ putL L x ↔ z ∈ L ∨ z = x := by
  unfold putL
  rw [List.mem_append, mem_putK (Nat.le_refl _), List.take_length]
  cases h : geP L x L.length
  · simp
  · simp
theorem putK_rises {L : List Int} {x : Int} (hL : Rises L) : ∀ {k}, k ≤ L.length → Rises (putK L x k)
  | 0, _ => List.Pairwise.nil
  | k + 1, hk => by
    have ih := putK_rises (x := x) hL (k := k) (by omega)
    have hlt : ∀ y ∈ L.take k, y < L.getD k 0 := fun y hy => by
      obtain ⟨j, hj, rfl⟩ := List.getElem_of_mem hy
      rw [List.length_take] at hj
      have hjk : j < k := by omega
      have := List.pairwise_iff_getElem.1 hL j k (by omega) (by omega) hjk
      simpa [List.getD, List.getElem?_eq_getElem (show k < L.length by omega)] using this
    unfold Rises
    rw [putK_s]
    rw [List.pairwise_append]
    refine ⟨ih, ?_, ?_⟩
    · cases h : geP L x k
      · by_cases h2 : x < L.getD k 0
        · rw [show (!false && decide (x < L.getD k 0)) = true by rw [decide_eq_true h2]; rfl]
          exact List.Pairwise.cons (fun b hb => by have hb' : b ∈ [L.getD k 0] := hb; rw [List.mem_singleton] at hb'; subst hb'; exact h2) (List.pairwise_singleton _ _)
        · rw [show (!false && decide (x < L.getD k 0)) = false by rw [decide_eq_false h2]; rfl]
          exact List.pairwise_singleton _ _
      · exact List.pairwise_singleton _ _
    · intro a ha b hb
      rw [mem_putK (by omega)] at ha
      cases h : geP L x k
      · rw [h] at ha hb
        have hno : ∀ y ∈ L.take k, y < x := fun y hy => by
          apply Classical.byContradiction
          intro hc
          have := (geP_iff (L := L) (x := x) (k := k) (by omega)).2 ⟨y, hy, by omega⟩
          rw [h] at this
          cases this
        rcases ha with ha | ⟨_, ha⟩
        · by_cases h2 : x < L.getD k 0
          · simp only [h2, decide_true, Bool.not_false, Bool.and_self, cond_true, List.mem_append, List.mem_singleton] at hb
            rcases hb with rfl | rfl
            · exact hno a ha
            · exact hlt a ha
          · simp only [h2, decide_false, Bool.and_false, cond_false, List.nil_append, List.mem_singleton] at hb
            subst hb
            exact hlt a ha
        · cases ha
      · rw [h] at ha hb
        simp only [Bool.not_true, Bool.false_and, cond_false, List.nil_append, List.mem_singleton] at hb
        subst hb
        rcases ha with ha | ⟨rfl, _⟩
        · exact hlt a ha
        · obtain ⟨y, hy, hxy⟩ := (geP_iff (L := L) (x := a) (k := k) (by omega)).1 h
          have := hlt y hy
          omega
theorem putL_rises {L : List Int} {x : Int} (hL : Rises L) : Rises (putL L x) := by
  unfold putL
  cases h : geP L x L.length
  · show Rises (putK L x L.length ++ [x])
    unfold Rises
    rw [List.pairwise_append]
    refine ⟨putK_rises hL (Nat.le_refl _), by simp, fun a ha b hb => ?_⟩
    rw [mem_putK (Nat.le_refl _), h, List.take_length] at ha
    rw [List.mem_singleton] at hb
    subst hb
    rcases ha with ha | ⟨_, ha⟩
    · apply Classical.byContradiction
      intro hc
      have := (geP_iff (L := L) (x := b) (Nat.le_refl _)).2 ⟨a, by rw [List.take_length]; exact ha, by omega⟩
      rw [h] at this
      cases this
    · cases ha
  · simpa using putK_rises (x := x) hL (Nat.le_refl _)
/-- Lists that rise are one if they have the same numbers. -/
theorem rises_ext {A B : List Int} (hA : Rises A) (hB : Rises B) (h : ∀ z, z ∈ A ↔ z ∈ B) : A = B := by
  have nA : A.Nodup := hA.imp fun h => by omega
  have nB : B.Nodup := hB.imp fun h => by omega
  exact ((List.perm_ext_iff_of_nodup nA nB).2 h).eq_of_pairwise (fun a b _ _ h1 h2 => by omega) hA hB
set_option maxHeartbeats 2000000 in
theorem l00Put (a : Option Addr) (n cap : Nat) (L : List Int) (x : Int) (w : World) (h : IsIs w a n cap L) (hn : n ≤ 1000000) :
    Calls Try.prog 82 #[.slice a n cap, .int .i64 x] w fun e w' => ∃ v, e = .returned v ∧ w'.ownsRow w.heap.size 2 1 v (putL L x).length ((putL L x).map (Value.int .i64)) ∧ Below w.heap.size w w' := by
  obtain ⟨i0, hi, hz0, hz1, hz2⟩ := info_parts info64
  have hl := h.1
  have H := Lib.hid h
  unfold putL
  rw [hl]
  clear h
  go_enter Try.func82, Try.ntmps82
  go_wp2
  go_loopw [5, 6, 7] (fun v d i w' => ∃ k : Nat, k ≤ n ∧ i = .int .i64 k ∧ d = .bool (geP L x k) ∧ Aside (w'.ownsRow w.heap.size 2 1 v (putK L x k).length ((putK L x k).map (Value.int .i64)) ∧ Below w.heap.size w w')) (fun _ _ i _ => n - (intOf i).toNat)
  case atStart => exact ⟨0, Nat.zero_le _, rfl, rfl, by simpa [putK] using World.ownsRow_lit (e := 2) (size := 1) w #[] 0 (Nat.le_refl _) (by decide) rfl, (Below.refl _ _).alloc (Nat.le_refl _) _⟩
  case round =>
    obtain ⟨k, hk, rfl, rfl, hA⟩ := hrel
    obtain ⟨hown, hB⟩ := hA.out
    have HB := Lib.hid hB
    have HOWN := Lib.hid hown
    have hbz := Lib.hid hB.size
    have hpk := putK_len L x k
    have hpk' : (putK L x k).length ≤ k + 1 := by omega
    clear hpk
    by_cases hlt : k < n
    · obtain ⟨b, o, rfl, hcell⟩ := (H.out.below hB).some (by omega)
      have hc0 := hcell k hlt
      have hk0 : (0 : Int) ≤ (k : Int) := by omega
      have hk1 : (k : Int) < (n : Int) := by omega
      have HG : Hid (geP L x (k + 1) = (geP L x k || decide (x ≤ L.getD k 0))) := rfl
      have HK : Hid (putK L x (k + 1) = putK L x k ++ ((bif !geP L x k && decide (x < L.getD k 0) then [x] else []) ++ [L.getD k 0])) := rfl
      have lb := World.block_lt_of_cell? _ _ hc0
      clear hA hB hown hcell
      generalize hz : L.getD k 0 = z at *
      have HZ := Lib.hid hz
      clear hz
      generalize geP L x k = g at *
      cases g
      · by_cases hge : x ≤ z
        · by_cases hgt : x < z
          · have HG' : Hid (geP L x (k + 1) = true) := Lib.hid (by rw [HG.out]; simp [hge])
            have HK' : Hid (putK L x (k + 1) = putK L x k ++ [x, z]) := Lib.hid (by rw [HK.out]; simp [hgt])
            clear HG HK
            go_wp2_with (at_builtin; refine wpList_append_own _ rfl _ _ 38 rfl w.heap.size 2 i0 (.int .i64 0) 1 8 Try.underlying38 hi hz0 hz1 hz2 rfl (by decide) _ _ _ rfl (HOWN.out.alloc _) ⟨wr.heap.size, 0, none⟩ 1 1 [.int .i64 x] rfl rfl ?c1_1 ?c2_1 ?c3_1 ?c4_1 ?c5_1 ?_)
            try (case c1_1 =>
              intro j u hj
              match j, hj with
              | 0, hj => simp at hj; subst hj; simp [Addr.add])
            case c2_1 => first | rfl | (intro u hu; simp at hu; subst hu; rfl)
            case c3_1 => unfold maxLen; omega
            case c4_1 => omega
            case c5_1 => have := hbz.out; simp; omega
            · intro v' w1 hown' hgrow _
              have hB1 : Below w.heap.size w (wr.alloc (.cells #[.int .i64 x] 2)) := HB.out.alloc hbz.out _
              have hB2 := hB1.grown hgrow hB1.size (fun k hk => (HOWN.out.lt k hk).1)
              have hc1 : w1.cell? ⟨b, o + k, none⟩ = some (.int .i64 z) := by
                obtain ⟨b', o', e, hc'⟩ := (H.out.below hB2).some (by omega)
                cases e
                have hc2 := hc' k hlt
                rw [HZ.out] at hc2
                exact hc2
              have HB1 := Lib.hid hB2
              have HO1 := Lib.hid hown'
              have hbz1 := Lib.hid hB2.size
              clear hown' hgrow hB1 hB2 hc0 lb
              have lb := World.block_lt_of_cell? _ _ hc1
              go_wp2_with (at_builtin; refine wpList_append_own _ rfl _ _ 38 rfl w.heap.size 2 i0 (.int .i64 0) 1 8 Try.underlying38 hi hz0 hz1 hz2 rfl (by decide) _ _ _ rfl (HO1.out.alloc _) ⟨w1.heap.size, 0, none⟩ 1 1 [.int .i64 z] rfl rfl ?c1_2 ?c2_2 ?c3_2 ?c4_2 ?c5_2 ?_)
              try (case c1_2 =>
                intro j u hj
                match j, hj with
                | 0, hj => simp at hj; subst hj; simp [Addr.add])
              case c2_2 => first | rfl | (intro u hu; simp at hu; subst hu; rfl)
              case c3_2 => unfold maxLen; omega
              case c4_2 => omega
              case c5_2 => have := hbz1.out; simp; omega
              · intro v2 w2 hown2 hgrow2 _
                have hB3 : Below w.heap.size w (w1.alloc (.cells #[.int .i64 z] 2)) := HB1.out.alloc hbz1.out _
                have HB2 := Lib.hid (hB3.grown hgrow2 hB3.size (fun k hk => (HO1.out.lt k hk).1))
                have HO2 := Lib.hid hown2
                clear hown2 hgrow2 hB3
                go_wp2
                go_roundw
                case rel => exact ⟨k + 1, by omega, by go_num, by rw [HG'.out], by rw [HK'.out]; simpa using HO2.out, HB2.out⟩
                case measure => simp [intOf]; omega
          · have HG' : Hid (geP L x (k + 1) = true) := Lib.hid (by rw [HG.out]; simp [hge])
            have HK' : Hid (putK L x (k + 1) = putK L x k ++ [z]) := Lib.hid (by rw [HK.out]; simp [hgt])
            clear HG HK
            go_wp2_with (at_builtin; refine wpList_append_own _ rfl _ _ 38 rfl w.heap.size 2 i0 (.int .i64 0) 1 8 Try.underlying38 hi hz0 hz1 hz2 rfl (by decide) _ _ _ rfl (HOWN.out.alloc _) ⟨wr.heap.size, 0, none⟩ 1 1 [.int .i64 z] rfl rfl ?c1_3 ?c2_3 ?c3_3 ?c4_3 ?c5_3 ?_)
            try (case c1_3 =>
              intro j u hj
              match j, hj with
              | 0, hj => simp at hj; subst hj; simp [Addr.add])
            case c2_3 => first | rfl | (intro u hu; simp at hu; subst hu; rfl)
            case c3_3 => unfold maxLen; omega
            case c4_3 => omega
            case c5_3 => have := hbz.out; simp; omega
            · intro v' w1 hown' hgrow _
              have hB1 : Below w.heap.size w (wr.alloc (.cells #[.int .i64 z] 2)) := HB.out.alloc hbz.out _
              have HB1 := Lib.hid (hB1.grown hgrow hB1.size (fun k hk => (HOWN.out.lt k hk).1))
              have HO1 := Lib.hid hown'
              clear hown' hgrow hB1
              go_wp2
              go_roundw
              case rel => exact ⟨k + 1, by omega, by go_num, by rw [HG'.out], by rw [HK'.out]; simpa using HO1.out, HB1.out⟩
              case measure => simp [intOf]; omega
        · have hge' : z < x := by omega
          have HG' : Hid (geP L x (k + 1) = false) := Lib.hid (by rw [HG.out]; simp [hge])
          have HK' : Hid (putK L x (k + 1) = putK L x k ++ [z]) := Lib.hid (by rw [HK.out]; simp [show ¬ x < z by omega])
          clear HG HK
          go_wp2_with (at_builtin; refine wpList_append_own _ rfl _ _ 38 rfl w.heap.size 2 i0 (.int .i64 0) 1 8 Try.underlying38 hi hz0 hz1 hz2 rfl (by decide) _ _ _ rfl (HOWN.out.alloc _) ⟨wr.heap.size, 0, none⟩ 1 1 [.int .i64 z] rfl rfl ?c1_4 ?c2_4 ?c3_4 ?c4_4 ?c5_4 ?_)
          try (case c1_4 =>
            intro j u hj
            match j, hj with
            | 0, hj => simp at hj; subst hj; simp [Addr.add])
          case c2_4 => first | rfl | (intro u hu; simp at hu; subst hu; rfl)
          case c3_4 => unfold maxLen; omega
          case c4_4 => omega
          case c5_4 => have := hbz.out; simp; omega
          · intro v' w1 hown' hgrow _
            have hB1 : Below w.heap.size w (wr.alloc (.cells #[.int .i64 z] 2)) := HB.out.alloc hbz.out _
            have HB1 := Lib.hid (hB1.grown hgrow hB1.size (fun k hk => (HOWN.out.lt k hk).1))
            have HO1 := Lib.hid hown'
            clear hown' hgrow hB1
            go_wp2
            go_roundw
            case rel => exact ⟨k + 1, by omega, by go_num, by rw [HG'.out], by rw [HK'.out]; simpa using HO1.out, HB1.out⟩
            case measure => simp [intOf]; omega
      · have HG' : Hid (geP L x (k + 1) = true) := Lib.hid (by rw [HG.out]; simp)
        have HK' : Hid (putK L x (k + 1) = putK L x k ++ [z]) := Lib.hid (by rw [HK.out]; simp)
        clear HG HK
        go_wp2_with (at_builtin; refine wpList_append_own _ rfl _ _ 38 rfl w.heap.size 2 i0 (.int .i64 0) 1 8 Try.underlying38 hi hz0 hz1 hz2 rfl (by decide) _ _ _ rfl (HOWN.out.alloc _) ⟨wr.heap.size, 0, none⟩ 1 1 [.int .i64 z] rfl rfl ?c1_5 ?c2_5 ?c3_5 ?c4_5 ?c5_5 ?_)
        try (case c1_5 =>
          intro j u hj
          match j, hj with
          | 0, hj => simp at hj; subst hj; simp [Addr.add])
        case c2_5 => first | rfl | (intro u hu; simp at hu; subst hu; rfl)
        case c3_5 => unfold maxLen; omega
        case c4_5 => omega
        case c5_5 => have := hbz.out; simp; omega
        · intro v' w1 hown' hgrow _
          have hB1 : Below w.heap.size w (wr.alloc (.cells #[.int .i64 z] 2)) := HB.out.alloc hbz.out _
          have HB1 := Lib.hid (hB1.grown hgrow hB1.size (fun k hk => (HOWN.out.lt k hk).1))
          have HO1 := Lib.hid hown'
          clear hown' hgrow hB1
          go_wp2
          go_roundw
          case rel => exact ⟨k + 1, by omega, by go_num, by rw [HG'.out], by rw [HK'.out]; simpa using HO1.out, HB1.out⟩
          case measure => simp [intOf]; omega
    · obtain rfl : k = n := by omega
      clear hA hB hown
      cases hg : geP L x k
      · go_wp2_with (at_builtin; refine wpList_append_own _ rfl _ _ 38 rfl w.heap.size 2 i0 (.int .i64 0) 1 8 Try.underlying38 hi hz0 hz1 hz2 rfl (by decide) _ _ _ rfl (HOWN.out.alloc _) ⟨wr.heap.size, 0, none⟩ 1 1 [.int .i64 x] rfl rfl ?c1_6 ?c2_6 ?c3_6 ?c4_6 ?c5_6 ?_)
        try (case c1_6 =>
          intro j u hj
          match j, hj with
          | 0, hj => simp at hj; subst hj; simp [Addr.add])
        case c2_6 => first | rfl | (intro u hu; simp at hu; subst hu; rfl)
        case c3_6 => unfold maxLen; omega
        case c4_6 => omega
        case c5_6 => have := hbz.out; simp; omega
        · intro v' w1 hown' hgrow _
          have hB1 : Below w.heap.size w (wr.alloc (.cells #[.int .i64 x] 2)) := HB.out.alloc hbz.out _
          have HB1 := Lib.hid (hB1.grown hgrow hB1.size (fun k hk => (HOWN.out.lt k hk).1))
          have HO1 := Lib.hid hown'
          clear hown' hgrow hB1
          go_wp2
          go_ret
          exact ⟨_, rfl, by rw [hg]; simpa using HO1.out, HB1.out⟩
      · go_wp2
        go_ret
        exact ⟨_, rfl, by rw [hg]; simpa using HOWN.out, HB.out⟩
end Go.Proofs.Ytockhhfehjoldaa

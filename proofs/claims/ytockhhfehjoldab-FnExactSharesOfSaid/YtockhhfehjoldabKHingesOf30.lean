/-
Texts in one: what HingesOf stands on, part 30. Conditions: those of each.
-/
import Derived.Test.YtockhhfehjoldabKHingesOf29

/-
Hinges, as lists. Conditions: the triangles are a valid mesh's.
-/
namespace Go.Proofs.Ytockhhfehjoldab
open Go Fk Go.RowKit Go.Maps Go.Sort
set_option linter.unusedVariables false
set_option maxRecDepth 8000

/-- The third place of a triangle. -/
def thN (t : List Int) (i j : Int) : Int := t.getD 0 0 + t.getD 1 0 + t.getD 2 0 - i - j
def thirds (ts : List (List Int)) (i j : Int) (L : List Int) : List Int := L.map fun k => thN (ts.getD k.toNat []) i j
def hrow (ts : List (List Int)) (e : Int × Int) : List Int := e.1 :: e.2 :: thirds ts e.1 e.2 (atL ts e.1 e.2 ts.length)
def isH (ts : List (List Int)) (e : Int × Int) : Bool := decide ((atL ts e.1 e.2 ts.length).length = 2)
def hgK (ts : List (List Int)) (ps : List (Int × Int)) (k : Nat) : List (List Int) := ((ps.take k).filter (isH ts)).map (hrow ts)
theorem hgK_s {ts : List (List Int)} {ps : List (Int × Int)} {k : Nat} (hk : k < ps.length) : hgK ts ps (k + 1) = hgK ts ps k ++ (bif isH ts (ps.getD k (0, 0)) then [hrow ts (ps.getD k (0, 0))] else []) := by
  have e : ps.take (k + 1) = ps.take k ++ [ps.getD k (0, 0)] := by
    rw [List.take_add_one, List.getElem?_eq_getElem hk]
    simp [List.getD, List.getElem?_eq_getElem hk]
  unfold hgK
  rw [e, List.filter_append, List.map_append]
  cases h : isH ts (ps.getD k (0, 0))
  · simp only [List.filter_cons, List.filter_nil, h, cond_false, Bool.false_eq_true, if_false, List.map_nil]
  · simp only [List.filter_cons, List.filter_nil, h, cond_true, if_true, List.map_cons, List.map_nil]
theorem hgK_len (ts : List (List Int)) (ps : List (Int × Int)) (k : Nat) : (hgK ts ps k).length ≤ k := by
  unfold hgK
  rw [List.length_map]
  exact Nat.le_trans (List.length_filter_le _ _) (List.length_take_le _ _)
/-- What is answered: the hinges in ascending order of their edges, if the mesh is valid. -/
def hgT (cs : List C3) (ts : List (List Int)) : List (List Int) := bif validB cs ts then hgK ts (pairsL (keysE ts) cs.length) (pairsL (keysE ts) cs.length).length else []
theorem grp_tri_is {n k : Nat} {t : List Int} (h : Tri3 n t) {a b : Int} (hab : a < b) : grp (pairsT t k) (a, b) = bif hasB t a && hasB t b then [(k : Int)] else [] := by
  have hl := grp_tri (k := k) h hab
  have hall : ∀ z ∈ grp (pairsT t k) (a, b), z = (k : Int) := fun z hz => by
    unfold grp pairsT at hz
    obtain ⟨p, hp, rfl⟩ := List.mem_map.1 hz
    obtain ⟨e, _, rfl⟩ := List.mem_map.1 (List.mem_filter.1 hp).1
    rfl
  generalize grp (pairsT t k) (a, b) = G at *
  cases hc : (hasB t a && hasB t b)
  · rw [hc] at hl
    simp only [Bool.false_eq_true, if_false] at hl
    exact List.eq_nil_of_length_eq_zero hl
  · rw [hc] at hl
    simp only [if_true] at hl
    obtain ⟨z, rfl⟩ := List.length_eq_one_iff.1 hl
    have := hall z (by simp)
    subst this
    rfl
theorem grp_is {ts : List (List Int)} {n : Nat} (hT : ∀ i, i < ts.length → Tri3 n (ts.getD i [])) {a b : Int} (hab : a < b) : ∀ k, k ≤ ts.length → grp (preI ts k 0) (a, b) = atL ts a b k
  | 0, _ => by rw [preI_zero]; rfl
  | k + 1, hk => by
    have ih := grp_is hT hab k (by omega)
    have e : preI ts (k + 1) 0 = preI ts k 0 ++ pairsT (ts.getD k []) k := by
      rw [← preI_next]
      unfold preI
      rw [List.take_zero, List.append_nil]
      congr 1
    have hs : grp (preI ts k 0 ++ pairsT (ts.getD k []) k) (a, b) = grp (preI ts k 0) (a, b) ++ grp (pairsT (ts.getD k []) k) (a, b) := by
      unfold grp
      rw [List.filter_append, List.map_append]
    rw [e, hs, ih, grp_tri_is (hT k (by omega)) hab]
    rfl
/-- What the model finds for one triangle. -/
def thS (t : List Int) (i j : Int) : Int := bif hasB t i && hasB t j then thN t i j else -1
theorem thS_yes {n : Nat} {t : List Int} (h : Tri3 n t) {i j : Int} (hij : i ≠ j) (h1 : hasB t i = true) (h2 : hasB t j = true) : 0 ≤ thN t i j ∧ thN t i j < n ∧ thN t i j ≠ i ∧ thN t i j ≠ j := by
  obtain ⟨n1, n2, n3, ⟨p0, q0⟩, ⟨p1, q1⟩, ⟨p2, q2⟩⟩ := h
  unfold hasB at h1 h2
  unfold thN
  simp only [Bool.or_eq_true, decide_eq_true_eq] at h1 h2
  omega
theorem th_at {n : Nat} {t : List Int} (h : Tri3 n t) {i j : Int} (hij : i ≠ j) (h1 : hasB t i = true) (h2 : hasB t j = true) {k : Nat} (hk : k < 3) (hi : t.getD k 0 ≠ i) (hj : t.getD k 0 ≠ j) : t.getD k 0 = thN t i j := by
  obtain ⟨n1, n2, n3, _, _, _⟩ := h
  unfold hasB at h1 h2
  unfold thN
  simp only [Bool.or_eq_true, decide_eq_true_eq] at h1 h2
  match k, hk with
  | 0, _ => omega
  | 1, _ => omega
  | 2, _ => omega
theorem th_has {n : Nat} {t : List Int} (h : Tri3 n t) {i j : Int} (hij : i ≠ j) (h1 : hasB t i = true) (h2 : hasB t j = true) (hall : ∀ k, k < 3 → t.getD k 0 = i ∨ t.getD k 0 = j) : False := by
  obtain ⟨n1, n2, n3, _, _, _⟩ := h
  have a0 := hall 0 (by omega)
  have a1 := hall 1 (by omega)
  have a2 := hall 2 (by omega)
  omega
theorem mem_at2 {ts : List (List Int)} {p q z : Int} : ∀ {k}, z ∈ atL ts p q k → ∃ i : Nat, i < k ∧ hasB (ts.getD i []) p = true ∧ hasB (ts.getD i []) q = true ∧ z = (i : Int)
  | 0, h => by simp [atL] at h
  | k + 1, h => by
    have hs : atL ts p q (k + 1) = atL ts p q k ++ (bif hasB (ts.getD k []) p && hasB (ts.getD k []) q then [(k : Int)] else []) := rfl
    rw [hs, List.mem_append] at h
    rcases h with h | h
    · obtain ⟨i, hi, r⟩ := mem_at2 h
      exact ⟨i, by omega, r⟩
    · cases hc : (hasB (ts.getD k []) p && hasB (ts.getD k []) q)
      · rw [hc] at h; cases h
      · rw [hc] at h
        simp only [Bool.and_eq_true] at hc
        exact ⟨k, by omega, hc.1, hc.2, by simpa using h⟩
/-- The numbers of a hinge are places. -/
theorem hrow_in {ts : List (List Int)} {n : Nat} (hT : ∀ i, i < ts.length → Tri3 n (ts.getD i [])) {a b : Nat} (hab : a < b) (hb : b < n) : ∀ z ∈ hrow ts ((a : Int), (b : Int)), 0 ≤ z ∧ z < n := fun z hz => by
  unfold hrow thirds at hz
  rcases List.mem_cons.1 hz with rfl | hz
  · show 0 ≤ (a : Int) ∧ (a : Int) < n
    omega
  rcases List.mem_cons.1 hz with rfl | hz
  · show 0 ≤ (b : Int) ∧ (b : Int) < n
    omega
  obtain ⟨y, hy, rfl⟩ := List.mem_map.1 hz
  obtain ⟨i, hi, h1, h2, rfl⟩ := mem_at2 hy
  have := thS_yes (hT i hi) (i := (a : Int)) (j := (b : Int)) (by omega) h1 h2
  rw [Int.toNat_natCast]
  exact ⟨this.1, this.2.1⟩
theorem hgK_mem {ts : List (List Int)} {n k : Nat} {r : List Int} (h : r ∈ hgK ts (pairsL (keysE ts) n) k) : ∃ a b : Nat, a < b ∧ b < n ∧ r = hrow ts ((a : Int), (b : Int)) ∧ isH ts ((a : Int), (b : Int)) = true := by
  unfold hgK at h
  obtain ⟨e, he, rfl⟩ := List.mem_map.1 h
  obtain ⟨h1, h2⟩ := List.mem_filter.1 he
  obtain ⟨a, b, _, hb, hab, _, rfl⟩ := mem_pairsL.1 (List.mem_of_mem_take h1)
  exact ⟨a, b, hab, hb, rfl, h2⟩
theorem hrow_four {ts : List (List Int)} {e : Int × Int} (h : isH ts e = true) : (hrow ts e).length = 4 := by
  unfold isH at h
  have := of_decide_eq_true h
  unfold hrow thirds
  simp [this]
end Go.Proofs.Ytockhhfehjoldab


/-
Whether a list has a number: what the model returns. Conditions: the list lies in memory.
-/
namespace Go.Proofs.Ytockhhfehjoldab
open Go Fk Go.RowKit
set_option linter.unusedVariables false
set_option maxRecDepth 8000

def hasQ (L : List Int) (z : Int) : Bool := L.any (fun x => decide (x = z))
theorem hasQ_yes {L : List Int} {z : Int} {k : Nat} (hk : k < L.length) (h : L.getD k 0 = z) : hasQ L z = true := by
  have : L.getD k 0 = L[k] := by simp [List.getD, hk]
  rw [this] at h
  exact List.any_eq_true.2 ⟨L[k], List.getElem_mem hk, decide_eq_true h⟩
theorem hasQ_no {L : List Int} {z : Int} (h : ∀ j, j < L.length → L.getD j 0 ≠ z) : hasQ L z = false := by
  rw [Bool.eq_false_iff]
  intro hh
  obtain ⟨x, hx, he⟩ := List.any_eq_true.1 hh
  obtain ⟨j, hj, rfl⟩ := List.getElem_of_mem hx
  have := h j hj
  simp [List.getD, hj] at this
  exact this (of_decide_eq_true he)
theorem l00HasQ (a : Option Addr) (n cap : Nat) (L : List Int) (p : Int) (w : World) (h : IsIs w a n cap L) :
    Calls Try.prog 86 #[.slice a n cap, .int .i64 p] w fun e w' => e = .returned (.bool (hasQ L p)) ∧ w' = w := by
  have hm : n ≤ 9223372036854775807 := by have h1 := h.2.1; have h2 := h.2.2.1; unfold maxLen at h2; omega
  have hl := h.1
  have H := Lib.hid h
  clear h
  go_enter Try.func86, Try.ntmps86
  go_wp2
  go_loopw [5] (fun i w' => ∃ k : Nat, k ≤ n ∧ i = .int .i64 k ∧ w' = w ∧ Aside (∀ j, j < k → L.getD j 0 ≠ p)) (fun i _ => n - (intOf i).toNat)
  case atStart => exact ⟨0, Nat.zero_le _, rfl, rfl, fun j hj => absurd hj (by omega)⟩
  case round =>
    obtain ⟨k, hk, rfl, rfl, hA⟩ := hrel
    have HA := Lib.hid hA.out
    clear hA
    by_cases hlt : k < n
    · obtain ⟨b, o, rfl, hcell⟩ := H.out.some (by omega)
      have hc0 := hcell k hlt
      have hk0 : (0 : Int) ≤ (k : Int) := by omega
      have hk1 : (k : Int) < (n : Int) := by omega
      have HZ := Lib.hid (fun (e : L.getD k 0 = p) => hasQ_yes (by omega) e)
      have HN : Hid (L.getD k 0 ≠ p → ∀ j, j < k + 1 → L.getD j 0 ≠ p) := Lib.hid (fun e j hj => by
        by_cases hjk : j = k
        · subst hjk; exact e
        · exact HA.out j (by omega))
      clear hcell
      generalize L.getD k 0 = z at *
      by_cases hz : z = p
      · have HR := Lib.hid (HZ.out hz)
        subst hz
        clear HZ HN
        go_wp2
        go_ret
        exact ⟨ret_bool HR.out.symm, by first | rfl | trivial⟩
      · have HR := Lib.hid (HN.out hz)
        have hze : (z == p) = false := by simp [hz]
        clear HZ HN
        go_wp2
        go_roundw
        case rel => exact ⟨k + 1, by omega, by go_num, by first | rfl | trivial, HR.out⟩
        case measure => simp [intOf]; omega
    · obtain rfl : k = n := by omega
      have HR := Lib.hid (hasQ_no (fun j hj => HA.out j (by omega)))
      go_wp2
      go_ret
      exact ⟨ret_bool HR.out.symm, by first | rfl | trivial⟩
theorem hasQ3 {t : List Int} (h : t.length = 3) (p : Int) : hasQ t p = hasB t p := by
  match t, h with
  | [a, b, c], _ => simp [hasQ, hasB, List.getD]
end Go.Proofs.Ytockhhfehjoldab


/-
The border of a mesh: the model. Conditions: none beyond that the mesh lies in memory.
-/
namespace Go.Proofs.Ytockhhfehjoldab
open Go Fk Go.RowKit Go.Maps
set_option linter.unusedVariables false
set_option maxRecDepth 16000

/-- A list of a call's own whose rows lay there before. -/
def BrT (w2 w' : World) (v : Value) (T : List (List Int)) : Prop := ∃ rows : List Value, w'.ownsRow w2.heap.size 39 1 v T.length rows ∧ ∀ j, j < T.length → ∃ r n c, rows[j]? = some (.slice r n c) ∧ IsIs w2 r n c (T.getD j [])
theorem BrT.up {w2 w w' : World} {v : Value} {T : List (List Int)} (h : BrT w2 w v T) (hB : Below w.heap.size w w') : BrT w2 w' v T := by
  obtain ⟨rows, h1, h2⟩ := h
  exact ⟨rows, owns_up h1 hB, h2⟩
theorem BrT.is {w2 w' : World} {v : Value} {T : List (List Int)} (h : BrT w2 w' v T) (hB : Below w2.heap.size w2 w') : ∃ a c, v = .slice a T.length c ∧ IsTs w' a T.length c T := by
  obtain ⟨rows, h1, h2⟩ := h
  have h1' := h1
  rcases h1.2 with ⟨rfl, h0⟩ | ⟨g, cap, cur, rfl, hb', hh, hc1, hc2, hs, ht⟩
  · exact ⟨none, 0, by rw [h0], rfl, by omega, by unfold maxLen; omega, fun _ => ⟨h0, rfl⟩, fun x hx => (by cases hx)⟩
  · refine ⟨_, cap, rfl, rfl, hc1, hc2, by simp, fun x hx i hi => ?_⟩
    cases hx
    obtain ⟨r, n, c, e, hI⟩ := h2 i hi
    exact ⟨r, n, c, by rw [addr_add', Nat.zero_add, h1'.cellAt i (by omega)]; exact e, hI.below hB⟩
end Go.Proofs.Ytockhhfehjoldab


/-
Hinges of a mesh: what the model returns. Conditions: the mesh is valid and lies in memory.
-/
namespace Go.Proofs.Ytockhhfehjoldab
open Go Fk Go.RowKit Go.Maps
set_option linter.unusedVariables false
set_option maxRecDepth 16000

set_option maxHeartbeats 4000000 in
theorem l03Third (r : Option Addr) (q n : Nat) (t : List Int) (i j : Int) (w : World) (h : IsIs w r 3 q t) (hT : Tri3 n t) (hij : i ≠ j) :
    Calls Try.prog 95 #[.slice r 3 q, .int .i64 i, .int .i64 j] w fun e w' => e = .returned (.int .i64 (thS t i j)) ∧ w' = w := by
  have hl := h.1
  have J := Lib.hid (fun p => (by have := l00HasQ r 3 q t p w h; rw [hasQ3 hl] at this; exact this : Calls Try.prog 86 #[.slice r 3 q, .int .i64 p] w fun e w' => e = .returned (.bool (hasB t p)) ∧ w' = w))
  have H := Lib.hid h
  have HT := Lib.hid hT
  unfold thS
  clear h hl hT
  cases h1 : hasB t i
  · go_enter Try.func95, Try.ntmps95
    go_wp2_with fail
    refine (J.out i).mono ?_
    rintro e w1 ⟨rfl, hw1⟩
    rw [hw1, h1]
    clear hw1
    go_wp2
    go_ret
    exact ⟨rfl, by first | rfl | trivial⟩
  · cases h2 : hasB t j
    · go_enter Try.func95, Try.ntmps95
      go_wp2_with fail
      refine (J.out i).mono ?_
      rintro e w1 ⟨rfl, hw1⟩
      rw [hw1, h1]
      clear hw1
      go_wp2_with fail
      refine (J.out j).mono ?_
      rintro e w2 ⟨rfl, hw2⟩
      rw [hw2, h2]
      clear hw2
      go_wp2
      go_ret
      exact ⟨rfl, by first | rfl | trivial⟩
    · have HTA := Lib.hid (fun k (hk : k < 3) h3 h4 => th_at HT.out hij h1 h2 (k := k) hk h3 h4)
      have HTH := Lib.hid (th_has HT.out hij h1 h2)
      go_enter Try.func95, Try.ntmps95
      go_wp2_with fail
      refine (J.out i).mono ?_
      rintro e w1 ⟨rfl, hw1⟩
      rw [hw1, h1]
      clear hw1
      go_wp2_with fail
      refine (J.out j).mono ?_
      rintro e w2 ⟨rfl, hw2⟩
      rw [hw2, h2]
      clear hw2 h1 h2
      go_wp2
      go_loopw [20] (fun x w' => ∃ k : Nat, k ≤ 3 ∧ x = .int .i64 k ∧ w' = w ∧ Aside (∀ m, m < k → t.getD m 0 = i ∨ t.getD m 0 = j)) (fun x _ => 3 - (intOf x).toNat)
      case atStart => exact ⟨0, by omega, rfl, rfl, fun m hm => absurd hm (by omega)⟩
      case round =>
        obtain ⟨k, hk, rfl, rfl, hA⟩ := hrel
        have HA := Lib.hid hA.out
        clear hA
        by_cases hlt : k < 3
        · obtain ⟨b, o, rfl, hcell⟩ := H.out.some (by decide)
          have hc0 := hcell k hlt
          have hk0 : (0 : Int) ≤ (k : Int) := by omega
          have hk1 : (k : Int) < (3 : Int) := by omega
          have HX := Lib.hid (HTA.out k hlt)
          have HN : Hid (t.getD k 0 = i ∨ t.getD k 0 = j → ∀ m, m < k + 1 → t.getD m 0 = i ∨ t.getD m 0 = j) := Lib.hid (fun e m hm => by
            by_cases hmk : m = k
            · subst hmk; exact e
            · exact HA.out m (by omega))
          clear hcell
          generalize t.getD k 0 = z at *
          by_cases hi : z = i
          · have hne : (z != i) = false := by simp [hi]
            have HR := Lib.hid (HN.out (.inl hi))
            subst hi
            go_wp2
            go_roundw
            case rel => exact ⟨k + 1, by omega, by go_num, by first | rfl | trivial, HR.out⟩
            case measure => simp [intOf]; omega
          · have hne : (z != i) = true := by simp [hi]
            by_cases hj : z = j
            · have hne2 : (z != j) = false := by simp [hj]
              have HR := Lib.hid (HN.out (.inr hj))
              subst hj
              go_wp2
              go_roundw
              case rel => exact ⟨k + 1, by omega, by go_num, by first | rfl | trivial, HR.out⟩
              case measure => simp [intOf]; omega
            · have hne2 : (z != j) = true := by simp [hj]
              have HZ := Lib.hid (HX.out hi hj)
              go_wp2
              go_ret
              exact ⟨by rw [HZ.out]; rfl, by first | rfl | trivial⟩
        · obtain rfl : k = 3 := by omega
          exact (HTH.out HA.out).elim
theorem ts_grown {lo hi : Nat} {w w' : World} {a : Option Addr} {n cap : Nat} {ts : List (List Int)} {row : Option Nat} (h : IsTs w a n cap ts) (hl : LT lo hi w a n) (hg : w.grownBy w' row) (ho : ∀ g, row = some g → g < lo ∨ hi ≤ g) : IsTs w' a n cap ts ∧ LT lo hi w' a n := by
  have hne : ∀ b, lo ≤ b → b < hi → some b ≠ row := fun b h1 h2 e => by have := ho b e.symm; omega
  obtain ⟨h1, h2, h3, h4, h5⟩ := h
  refine ⟨⟨h1, h2, h3, h4, fun x hx i hlt => ?_⟩, fun x hx => ?_⟩
  · obtain ⟨R, e, u1, u2, u3⟩ := hl x hx
    obtain ⟨G, c, c', hc, hI⟩ := h5 x hx i hlt
    obtain ⟨b, m, c2, hc2, hb⟩ := u3 i hlt
    subst e
    rw [addr_add', Nat.zero_add] at hc
    rw [hc2] at hc
    cases hc
    refine ⟨_, _, _, by rw [addr_add', Nat.zero_add]; exact hg.cell hc2 (hne R u1 u2), ?_⟩
    obtain ⟨i1, i2, i3, i4, i5, i6⟩ := hI
    refine ⟨i1, i2, i3, i4, i5, fun y hy j hj => ?_⟩
    obtain ⟨F, o, e, v1, v2⟩ := hb y hy
    have := i6 y hy j hj
    subst e
    rw [addr_add'] at this ⊢
    exact hg.cell this (hne F v1 v2)
  · obtain ⟨R, e, u1, u2, u3⟩ := hl x hx
    refine ⟨R, e, u1, u2, fun i hlt => ?_⟩
    obtain ⟨b, m, c2, hc2, hb⟩ := u3 i hlt
    exact ⟨b, m, c2, hg.cell hc2 (hne R u1 u2), hb⟩
set_option maxHeartbeats 8000000 in
theorem l03Hinges (pb : Nat) (pa ta : Option Addr) (pl pc tl tc : Nat) (cs : List C3) (ts : List (List Int)) (w : World) (a0 : w.cell? ⟨pb, 0, none⟩ = some (.slice pa pl pc)) (a1 : w.cell? ⟨pb, 1, none⟩ = some (.slice ta tl tc)) (hp : IsVs w pa pl pc cs) (ht : IsTs w ta tl tc ts) (hv : validB cs ts = true) :
    Calls Try.prog 66 #[.pointer (some ⟨pb, 0, none⟩)] w fun e w' => (∃ v, e = .returned v ∧ OwnT w.heap.size w' v (hgT cs ts).length (hgT cs ts)) ∧ Below w.heap.size w w' := by
  have ui := Try.underlying44
  obtain ⟨i0, hi, hz0, hz1, hz2⟩ := info_parts info64
  obtain ⟨j0, hj, hy0, hy1, hy2⟩ := info_parts infoS
  have hpl := hp.1
  have hll := edT_len cs ts
  obtain ⟨v1, v2⟩ := valid_pl hv
  have HT3 : Hid (∀ i, i < ts.length → Tri3 cs.length (ts.getD i [])) := Lib.hid (fun i (hi : i < ts.length) => tri3_of (valid_rowh hv hi))
  have h3 : ∀ k, k < tl → (ts.getD k []).length = 3 := fun k hk => (tri_partsh (valid_rowh hv (show k < ts.length by have := ht.1; omega))).1
  have H3 := Lib.hid h3
  have HTL := Lib.hid ht.1
  have HTS := Lib.hid ht
  have HL : Hid (tl ≤ 128) := Lib.hid (by have := ht.1; omega)
  have hed : edgesT pl ts = (pairsL (keysE ts) cs.length).map rowP := by rw [hpl]; exact edgesT_pairs _ _
  have J2 := Lib.hid (fun (w : World) a0 a1 hp ht => l02Edges pb pa ta pl pc tl tc cs ts w a0 a1 hp ht hv)
  have hwf : ∀ j, j < (edgesT pl ts).length → ∀ z ∈ (edgesT pl ts).getD j [], (Lit.int .i64 z).wf = true := edge_wf (by have := (valid_pl hv).1; omega)
  have HIM : Hid (∀ k, k < (pairsL (keysE ts) cs.length).length → ∃ m n : Nat, m < n ∧ n < 64 ∧ (pairsL (keysE ts) cs.length).getD k (0, 0) = ((m : Int), (n : Int))) := Lib.hid (fun k hk => by
    have hm : (pairsL (keysE ts) cs.length).getD k (0, 0) ∈ pairsL (keysE ts) cs.length := by
      rw [List.getD, List.getElem?_eq_getElem hk]
      exact List.getElem_mem _
    obtain ⟨a, b, _, hb, hab, _, e⟩ := mem_pairsL.1 hm
    exact ⟨a, b, hab, by omega, e⟩)
  unfold edT at hll
  rw [hv] at hll
  simp only [cond_true] at hll
  rw [edgesT_pairs, List.length_map] at hll
  rw [hed] at J2 hwf
  unfold hgT
  rw [hv, cond_true]
  generalize pairsL (keysE ts) cs.length = ps at *
  have HWF := Lib.hid hwf
  have HLEN := Lib.hid hll
  have HP := Lib.hid hp
  have C01 := Lib.hid (And.intro a0 a1)
  clear h3 v1 v2 hv hp ht hwf hed hll a0 a1
  have hst0 : (w.alloc (.cells #[] 39)).ownsRow w.heap.size 39 1 (.slice (some ⟨w.heap.size, 0, none⟩) 0 0) 0 [] :=
    World.ownsRow_lit (base := w.heap.size) (e := 39) (size := 1) w #[] 0 (Nat.le_refl _) (by decide) rfl
  have hbw0 : Below w.heap.size w (w.alloc (.cells #[] 39)) := (Below.refl _ _).alloc (Nat.le_refl _) _
  have HST0 : Hid (OwnT w.heap.size (w.alloc (.cells #[] 39)) (.slice (some ⟨w.heap.size, 0, none⟩) 0 0) 0 (hgK ts ps 0)) := Lib.hid ⟨[], hst0, fun j hj => absurd hj (by omega)⟩
  have HBW0 := Lib.hid hbw0
  clear hst0 hbw0
  go_enter Try.func66, Try.ntmps66
  go_wp2_with fail
  have HW0 : Hid (w.heap.size < (w.alloc (.cells #[] 39)).heap.size) := Lib.hid (by simp)
  have HV0 : Hid (∀ g, (Value.slice (some ⟨w.heap.size, 0, none⟩) 0 0).ownBlock = some g → g = w.heap.size) := Lib.hid (fun g h => by simp [Value.ownBlock] at h; exact h.symm)
  generalize w.alloc (.cells #[] 39) = W0 at *
  generalize (.slice (some ⟨w.heap.size, 0, none⟩) 0 0 : Value) = v0 at *
  refine (J2.out W0 (cell_below HBW0.out C01.out.1) (cell_below HBW0.out C01.out.2) (HP.out.below HBW0.out) (HTS.out.below HBW0.out)).mono ?_
  rintro e w2 ⟨⟨v, rfl, hvo⟩, hB2⟩
  obtain ⟨ea, ec, rfl, hI⟩ := hvo.is rfl HWF.out
  have hLT := lt_of_owns hvo
  have HI := Lib.hid hI
  have HST := Lib.hid (HST0.out.up hB2)
  have HB2 := Lib.hid (HBW0.out.trans (hB2.mono HBW0.out.size))
  have hlm : (List.map rowP ps).length = ps.length := by simp
  rw [hlm] at HI hLT ⊢
  have HLT := Lib.hid hLT
  have HB22 := Lib.hid hB2.size
  clear hvo hI hB2 hlm J2 HST0 HBW0 hLT
  go_wp2
  go_loopw [3, 16] (fun v i w' => ∃ k : Nat, k ≤ ps.length ∧ i = .int .i64 k ∧ Aside (OwnT w.heap.size w' v (hgK ts ps k).length (hgK ts ps k) ∧ Below w.heap.size w w' ∧ IsTs w' ea ps.length ec (List.map rowP ps) ∧ LT W0.heap.size w2.heap.size w' ea ps.length ∧ (∀ g, v.ownBlock = some g → g < W0.heap.size ∨ w2.heap.size ≤ g) ∧ w2.heap.size ≤ w'.heap.size)) (fun _ i _ => ps.length - (intOf i).toNat)
  case atStart => exact ⟨0, Nat.zero_le _, rfl, HST.out, HB2.out, HI.out, HLT.out, fun g h => .inl (by have := HV0.out g h; have := HW0.out; omega), Nat.le_refl _⟩
  case round =>
    obtain ⟨k, hk, hik, hA⟩ := hrel
    subst hik
    obtain ⟨hO, hB', hE, hEL, hOB, hS2⟩ := hA.out
    have HEL := Lib.hid hEL
    have HOB := Lib.hid hOB
    have HS2 := Lib.hid hS2
    have HO := Lib.hid hO
    have HC' := Lib.hid hB'
    have HE := Lib.hid hE
    by_cases hlt : k < ps.length
    · obtain ⟨bt, ot, rfl, hrow⟩ := HE.out.some (by omega)
      obtain ⟨r1, n1, q1, cr, ir⟩ := hrow k hlt
      obtain ⟨m, n, hmn, hn64, hek⟩ := HIM.out k hlt
      have hrk : (List.map rowP ps).getD k [] = rowP (ps.getD k (0, 0)) := by simp [List.getD, hlt]
      rw [hrk] at ir
      have hn1 : n1 = 2 := by have := ir.1; simpa [rowP] using this.symm
      subst hn1
      obtain ⟨br, orr, rfl, hcell⟩ := ir.some (by omega)
      have e0 := hcell 0 (by omega)
      have e1 := hcell 1 (by omega)
      rw [hek] at e0 e1
      simp only [rowP, List.getD_cons_zero, List.getD_cons_succ, Nat.add_zero] at e0 e1
      have hk0 : (0 : Int) ≤ (k : Int) := by omega
      have hk1 : (k : Int) < (ps.length : Int) := by omega
      have kb0 := cell_below hB' C01.out.1
      have kb1 := cell_below hB' C01.out.2
      have lpb := World.block_lt_of_cell? _ _ kb0
      have HKS := Lib.hid (hgK_s (ts := ts) hlt)
      have HKL := Lib.hid (hgK_len ts ps k)
      have HEK := Lib.hid hek
      have HIJ : Hid ((m : Int) ≠ (n : Int)) := Lib.hid (by omega)
      have hr1 : (wr.alloc (.cells #[.int .i64 (m : Int), .int .i64 (n : Int)] 2)).ownsRow wr.heap.size 2 1 (.slice (some ⟨wr.heap.size, 0, none⟩) 2 2) 2 (ints [(m : Int), (n : Int)]) :=
        World.ownsRow_lit (base := wr.heap.size) (e := 2) (size := 1) wr #[.int .i64 (m : Int), .int .i64 (n : Int)] 2 (Nat.le_refl _) (by decide) rfl
      have HR1 := Lib.hid hr1
      have HBR : Hid (Below wr.heap.size wr (wr.alloc (.cells #[.int .i64 (m : Int), .int .i64 (n : Int)] 2))) := Lib.hid ((Below.refl _ _).alloc (Nat.le_refl _) _)
      clear hA hO hB' hE hrow ir hcell hek hrk hr1 hEL hOB hS2
      go_wp2
      clear cr e0 e1
      have KB := Lib.hid (And.intro kb0 kb1)
      clear kb0 kb1 lpb
      obtain ⟨V, hV⟩ : ∃ V, V = wr := ⟨_, rfl⟩
      subst hV
      go_loopw [8, 39] (fun v i w' => ∃ y : Nat, y ≤ tl ∧ i = .int .i64 y ∧ Aside (w'.ownsRow V.heap.size 2 1 v (2 + (atL ts (m : Int) (n : Int) y).length) (ints ((m : Int) :: (n : Int) :: thirds ts (m : Int) (n : Int) (atL ts (m : Int) (n : Int) y))) ∧ Below V.heap.size V w')) (fun _ i _ => tl - (intOf i).toNat)
      case atStart => exact ⟨0, Nat.zero_le _, rfl, HR1.out, HBR.out⟩
      case round =>
        obtain ⟨y, hy, hiy, hA⟩ := hrel
        subst hiy
        obtain ⟨hO5, hB5⟩ := hA.out
        have HO5 := Lib.hid hO5
        have HB5 := Lib.hid hB5
        have HBW := Lib.hid (HC'.out.trans (hB5.mono HC'.out.size))
        have hsz5 := hB5.size
        have hal := atL_len ts (m : Int) (n : Int) y
        by_cases hly : y < tl
        · obtain ⟨tb, to, rfl, hrow2⟩ := (HTS.out.below HBW.out).some (by omega)
          obtain ⟨r2, n2, q2, cr2, ir2⟩ := hrow2 y hly
          have hn2 : n2 = 3 := ir2.1.symm.trans (H3.out y hly)
          subst hn2
          have hy0' : (0 : Int) ≤ (y : Int) := by omega
          have hy1' : (y : Int) < (tl : Int) := by omega
          have kb1 := cell_below hB5 KB.out.2
          have hTy := HT3.out y (by have := HTL.out; omega)
          have HTR := Lib.hid (fun w' h => l03Third r2 q2 cs.length (ts.getD y []) (m : Int) (n : Int) w' h hTy HIJ.out)
          have HIR2 := Lib.hid ir2
          have HAS : Hid (atL ts (m : Int) (n : Int) (y + 1) = atL ts (m : Int) (n : Int) y ++ (bif hasB (ts.getD y []) (m : Int) && hasB (ts.getD y []) (n : Int) then [(y : Int)] else [])) := rfl
          have HYS := Lib.hid (thS_yes hTy HIJ.out)
          clear hA hO5 hB5 hrow2 ir2 hTy
          go_wp2_with fail
          refine (HTR.out _ HIR2.out).mono ?_
          rintro e w6 ⟨rfl, hw6⟩
          rw [hw6]
          clear hw6 kb1 cr2
          unfold thS
          cases hb : (hasB (ts.getD y []) (m : Int) && hasB (ts.getD y []) (n : Int))
          · rw [hb] at HAS
            have HAS2 : Hid (atL ts (m : Int) (n : Int) (y + 1) = atL ts (m : Int) (n : Int) y) := Lib.hid (by rw [HAS.out]; simp)
            have hng : ¬ (0 : Int) ≤ (-1 : Int) := by decide
            simp only [cond_false]
            have hL128 := HL.out
            go_wp2
            go_roundw
            case rel => exact ⟨y + 1, by omega, by go_num, by rw [HAS2.out]; exact HO5.out, HB5.out⟩
            case measure => simp [intOf]; omega
          · rw [hb] at HAS
            simp only [Bool.and_eq_true] at hb
            have hth := HYS.out hb.1 hb.2
            have HAS2 : Hid (atL ts (m : Int) (n : Int) (y + 1) = atL ts (m : Int) (n : Int) y ++ [(y : Int)]) := Lib.hid (by rw [HAS.out]; rfl)
            have HTH : Hid (thirds ts (m : Int) (n : Int) (atL ts (m : Int) (n : Int) (y + 1)) = thirds ts (m : Int) (n : Int) (atL ts (m : Int) (n : Int) y) ++ [thN (ts.getD y []) (m : Int) (n : Int)]) := Lib.hid (by rw [HAS2.out]; unfold thirds; rw [List.map_append, List.map_cons, List.map_nil, Int.toNat_natCast])
            simp only [cond_true]
            generalize thN (ts.getD y []) (m : Int) (n : Int) = z at *
            obtain ⟨hth0, _⟩ := hth
            clear hb HYS
            go_wp2_with (at_builtin; refine wpList_append_own _ rfl _ _ 39 rfl V.heap.size 2 i0 (.int .i64 0) 1 8 Try.underlying39 hi hz0 hz1 hz2 rfl (by decide) _ _ _ rfl (HO5.out.alloc _) ⟨wr.heap.size, 0, none⟩ 1 1 [.int .i64 z] rfl rfl ?c1 ?c2 ?c3 ?c4 ?c5 ?_)
            try (case c1 =>
              intro j u hj
              match j, hj with
              | 0, hj => simp at hj; subst hj; simp [Addr.add])
            case c2 => first | rfl | (intro u hu; simp at hu; subst hu; rfl)
            case c3 => have := HL.out; unfold maxLen; omega
            case c4 => have := HL.out; omega
            case c5 => simp; omega
            · intro v' w7 hown' hgrow _
              have hB7 : Below V.heap.size V (wr.alloc (.cells #[.int .i64 z] 2)) := HB5.out.alloc hsz5 _
              have HB7 := Lib.hid (hB7.grown hgrow hB7.size (fun q hq => (HO5.out.lt q hq).1))
              have HO7 : Hid (w7.ownsRow V.heap.size 2 1 v' (2 + (atL ts (m : Int) (n : Int) (y + 1)).length) (ints ((m : Int) :: (n : Int) :: thirds ts (m : Int) (n : Int) (atL ts (m : Int) (n : Int) (y + 1))))) := Lib.hid (by
                rw [HTH.out, HAS2.out]
                have e : ints ((m : Int) :: (n : Int) :: (thirds ts (m : Int) (n : Int) (atL ts (m : Int) (n : Int) y) ++ [z])) = ints ((m : Int) :: (n : Int) :: thirds ts (m : Int) (n : Int) (atL ts (m : Int) (n : Int) y)) ++ [.int .i64 z] := by simp [ints]
                rw [e, List.length_append, List.length_singleton, ← Nat.add_assoc]
                exact hown')
              clear hown' hgrow hB7
              have hL128 := HL.out
              go_wp2
              go_roundw
              case rel => exact ⟨y + 1, by omega, by go_num, HO7.out, HB7.out⟩
              case measure => simp [intOf]; omega
        · obtain rfl : y = tl := by omega
          have htl := HTL.out
          have hIE := HE.out.below HB5.out
          have HIE := Lib.hid hIE
          obtain ⟨va, vc, hva⟩ := owns_slice hO5
          obtain ⟨sz, hsz⟩ : ∃ sz, (atL ts (m : Int) (n : Int) y).length = sz := ⟨_, rfl⟩
          rw [hsz] at hva hal
          have hH : isH ts ((m : Int), (n : Int)) = decide (sz = 2) := by unfold isH; rw [htl, hsz]
          have hrw : hrow ts ((m : Int), (n : Int)) = (m : Int) :: (n : Int) :: thirds ts (m : Int) (n : Int) (atL ts (m : Int) (n : Int) y) := by unfold hrow; rw [htl]
          have hK := HKS.out
          rw [HEK.out, hH] at hK
          have HK := Lib.hid hK
          have HRW := Lib.hid hrw
          have HSZ := Lib.hid hsz
          have hOT := HO.out.up HB5.out
          have HOT := Lib.hid hOT
          have HELY := Lib.hid (HEL.out.below hB5)
          have HSY : Hid (w2.heap.size ≤ wr.heap.size) := Lib.hid (Nat.le_trans HS2.out hB5.size)
          clear hA hIE hsz hH hrw hK hOT hB5
          have hL128 := HL.out
          by_cases h4 : sz = 2
          · have h4' : (((2 + sz : Nat) : Int) == 4) = true := by simp [h4]
            subst hva
            subst h4
            have hl4 : ((m : Int) :: (n : Int) :: thirds ts (m : Int) (n : Int) (atL ts (m : Int) (n : Int) y)).length = 4 := by simp [thirds, HSZ.out]
            have ho5 : wr.ownsRow V.heap.size 2 1 (.slice va 4 vc) ((m : Int) :: (n : Int) :: thirds ts (m : Int) (n : Int) (atL ts (m : Int) (n : Int) y)).length (ints ((m : Int) :: (n : Int) :: thirds ts (m : Int) (n : Int) (atL ts (m : Int) (n : Int) y))) := by
              rw [HSZ.out] at hO5
              rw [hl4]
              exact hO5
            have HO5 := Lib.hid ho5
            clear hO5 ho5 hl4
            have HKY : Hid (hgK ts ps (k + 1) = hgK ts ps k ++ [(m : Int) :: (n : Int) :: thirds ts (m : Int) (n : Int) (atL ts (m : Int) (n : Int) y)]) := Lib.hid (by rw [HK.out, ← HRW.out]; rfl)
            obtain ⟨rows, hrow, hrows⟩ := HOT.out.congr (us := hgK ts ps k ++ [(m : Int) :: (n : Int) :: thirds ts (m : Int) (n : Int) (atL ts (m : Int) (n : Int) y)]) (fun j hj => getD_app hj)
            have HROW := Lib.hid hrow
            have HROWS := Lib.hid hrows
            have hkl := HKL.out
            have hps := HLEN.out
            have hbw := HBW.out.size
            clear hrow hrows
            go_wp2_with (at_builtin; refine wpList_append_own_at _ rfl _ _ 22 rfl w.heap.size 39 j0 (.slice none 0 0) 1 24 Try.underlying22 hj hy0 hy1 hy2 rfl (by decide) _ _ _ rfl (HROW.out.alloc _) ⟨wr.heap.size, 0, none⟩ 1 1 [.slice va 4 vc] rfl rfl ?d1 ?d2 ?d3 ?d4 ?d5 ?_)
            try (case d1 =>
              intro j u hj
              match j, hj with
              | 0, hj => simp at hj; subst hj; simp [Addr.add])
            case d2 => first | rfl | (intro u hu; simp at hu; subst hu; rfl)
            case d3 => unfold maxLen; omega
            case d4 => omega
            case d5 => first | omega | (simp; omega)
            · intro v' w7 hown' hgrow _ hat
              have hAL : Below wr.heap.size wr (wr.alloc (.cells #[.slice va 4 vc] 39)) := (Below.refl _ _).alloc (Nat.le_refl _) _
              have HT7 : Hid (OwnT w.heap.size w7 v' (hgK ts ps (k + 1)).length (hgK ts ps (k + 1))) := Lib.hid (by
                rw [HKY.out, List.length_append, List.length_singleton]
                refine OwnT.snoc (HROW.out.alloc _) (fun j hj => ?_) (by rw [getD_end]; exact owns_low (owns_up HO5.out hAL) HC'.out.size) hgrow hown'
                obtain ⟨u, e1, e2⟩ := HROWS.out j hj
                exact ⟨u, e1, owns_up e2 hAL⟩)
              have hB7 : Below w.heap.size w (wr.alloc (.cells #[.slice va 4 vc] 39)) := HBW.out.alloc HBW.out.size _
              have HB7 := Lib.hid (hB7.grown hgrow hB7.size (fun q hq => (HROW.out.lt q hq).1))
              have hE7 := ts_grown (HIE.out.below hAL) (HELY.out.below hAL) hgrow HOB.out
              have HE7 := Lib.hid hE7
              have HOB7 : Hid (∀ g, v'.ownBlock = some g → g < W0.heap.size ∨ w2.heap.size ≤ g) := Lib.hid (fun g h => by
                rcases hat with hat | hat
                · exact HOB.out g (by rw [← hat]; exact h)
                · rw [hat] at h
                  cases h
                  have := HSY.out
                  exact .inr (by first | omega | (simp; omega)))
              have HS7 : Hid (w2.heap.size ≤ w7.heap.size) := Lib.hid (by have h1 := HSY.out; have h2 := hgrow.size; simp at h2; omega)
              clear hown' hgrow hat hE7 hB7 hAL
              go_wp2
              go_roundw
              case rel => exact ⟨k + 1, by omega, by go_num, HT7.out, HB7.out, HE7.out.1, HE7.out.2, HOB7.out, HS7.out⟩
              case measure => simp [intOf]; omega
          · have h4' : (((2 + sz : Nat) : Int) == 4) = false := beq_eq_false_iff_ne.2 (by omega)
            subst hva
            have HKY : Hid (hgK ts ps (k + 1) = hgK ts ps k) := Lib.hid (by rw [HK.out, decide_eq_false h4]; simp)
            have hps := HLEN.out
            clear hO5
            go_wp2
            go_roundw
            case rel => exact ⟨k + 1, by omega, by go_num, by rw [HKY.out]; exact HOT.out, HBW.out, HIE.out, HELY.out, HOB.out, HSY.out⟩
            case measure => simp [intOf]; omega
    · obtain rfl : k = ps.length := by omega
      clear hA hO hB' hE hEL hOB hS2
      go_wp2
      go_ret
      exact ⟨⟨_, rfl, HO.out⟩, HC'.out⟩
end Go.Proofs.Ytockhhfehjoldab

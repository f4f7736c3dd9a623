/-
Texts in one: what HingesOf stands on, part 12. Conditions: those of each.
-/
import Derived.Test.YtockhhfehjoldabKHingesOf11
import Derived.WalkKit

/-
Edges of a mesh, as lists; the lesser and the greater of two. Conditions: none.
-/
namespace Go.Proofs.Ytockhhfehjoldab
open Go Fk Go.RowKit
set_option linter.unusedVariables false
set_option maxRecDepth 8000

def eKey (a b : Int) : Int × Int := (min a b, max a b)
def triE (t : List Int) : List (Int × Int) := [eKey (t.getD 0 0) (t.getD 1 0), eKey (t.getD 1 0) (t.getD 2 0), eKey (t.getD 2 0) (t.getD 0 0)]
def keysE (ts : List (List Int)) : List (Int × Int) := ts.flatMap triE
/-- The edges of the first k triangles and of j sides of the next. -/
def preE (ts : List (List Int)) (k j : Nat) : List (Int × Int) := (ts.take k).flatMap triE ++ (triE (ts.getD k [])).take j
theorem preE_zero (ts : List (List Int)) : preE ts 0 0 = [] := by simp [preE]
theorem preE_end (ts : List (List Int)) : preE ts ts.length 0 = keysE ts := by simp [preE, keysE]
theorem preE_next {ts : List (List Int)} {k : Nat} (hk : k < ts.length) : preE ts k 3 = preE ts (k + 1) 0 := by
  have e : ts.take (k + 1) = ts.take k ++ [ts.getD k []] := by
    rw [List.take_add_one, List.getElem?_eq_getElem hk]
    simp [List.getD, List.getElem?_eq_getElem hk]
  unfold preE
  rw [e, List.flatMap_append, List.flatMap_cons, List.flatMap_nil, List.append_nil, List.take_zero, List.append_nil]
  rfl
theorem preE_step {ts : List (List Int)} {k j : Nat} (hj : j < 3) : preE ts k (j + 1) = preE ts k j ++ [(triE (ts.getD k [])).getD j (0, 0)] := by
  match j, hj with
  | 0, _ => simp [preE, triE]
  | 1, _ => simp [preE, triE]
  | 2, _ => simp [preE, triE]
/-- A table of flags, a row for each lesser place. -/
def SeenT (w : World) (b n : Nat) (L : List (Int × Int)) : Prop :=
  (∀ x y, x < n → y < n → w.cell? ⟨b, x * n + y, none⟩ = some (.bool (decide (((x : Int), (y : Int)) ∈ L)))) ∧ (∀ i, w.frozen? ⟨b, i, none⟩ = false) ∧ b < w.heap.size
theorem flat_lt {x y n : Nat} (hx : x < n) (hy : y < n) : x * n + y < n * n := by
  have : (x + 1) * n ≤ n * n := Nat.mul_le_mul_right n hx
  rw [Nat.succ_mul] at this
  omega
theorem flat_inj {x y p q n : Nat} (hy : y < n) (hq : q < n) (h : x * n + y = p * n + q) : x = p ∧ y = q := by
  have h1 : (x * n + y) / n = x := by rw [Nat.mul_comm, Nat.mul_add_div (by omega), Nat.div_eq_of_lt hy]; omega
  have h2 : (p * n + q) / n = p := by rw [Nat.mul_comm, Nat.mul_add_div (by omega), Nat.div_eq_of_lt hq]; omega
  have : x = p := by rw [← h1, ← h2, h]
  subst this
  exact ⟨rfl, by omega⟩
theorem SeenT.set {w : World} {b n p q : Nat} {L : List (Int × Int)} (h : SeenT w b n L) (hp : p < n) (hq : q < n) : SeenT (w.setCell ⟨b, p * n + q, none⟩ (.bool true)) b n (L ++ [((p : Int), (q : Int))]) := by
  refine ⟨fun x y hx hy => ?_, fun i => by simpa using h.2.1 i, by simpa using h.2.2⟩
  by_cases e : x * n + y = p * n + q
  · obtain ⟨rfl, rfl⟩ := flat_inj hy hq e
    rw [World.cell?_setCell_same _ _ _ (h.1 x y hx hy)]
    simp
  · rw [World.cell?_setCell_other _ _ _ _ (by first | (simp; done) | (simp; exact fun e' => e e'.symm)), h.1 x y hx hy]
    have hne : ¬ (((x : Int), (y : Int)) = ((p : Int), (q : Int))) := fun e' => by
      rw [Prod.mk.injEq] at e'
      obtain ⟨e1, e2⟩ := e'
      exact e (by rw [Int.ofNat.inj e1, Int.ofNat.inj e2])
    simp only [List.mem_append, List.mem_singleton, hne, or_false]
theorem SeenT.below {w w' : World} {b n : Nat} {L : List (Int × Int)} (h : SeenT w b n L) (hB : Below w.heap.size w w') : SeenT w' b n L :=
  ⟨fun x y hx hy => cell_below hB (h.1 x y hx hy), fun i => by rw [hB.frozen (p := ⟨b, i, none⟩) h.2.2]; exact h.2.1 i, Nat.lt_of_lt_of_le h.2.2 hB.size⟩
/-- The edges from x to places less than b, as rows. -/
def rowE (L : List (Int × Int)) (b x : Nat) : List (List Int) := ((List.range b).filter fun y : Nat => decide (x < y) && decide (((x : Int), (y : Int)) ∈ L)).map fun y : Nat => [(x : Int), (y : Int)]
def rowsE (L : List (Int × Int)) (n a : Nat) : List (List Int) := (List.range a).flatMap (rowE L n)
/-- All edges in ascending order, as rows. -/
def edgesT (n : Nat) (ts : List (List Int)) : List (List Int) := rowsE (keysE ts) n n
theorem rowE_start (L : List (Int × Int)) (a : Nat) : rowE L (a + 1) a = [] := by
  unfold rowE
  have : ((List.range (a + 1)).filter fun y : Nat => decide (a < y) && decide (((a : Int), (y : Int)) ∈ L)) = [] := by
    rw [List.filter_eq_nil_iff]
    intro y hy
    have := List.mem_range.1 hy
    simp; intro h; omega
  rw [this]; rfl
theorem rowE_yes {L : List (Int × Int)} {a b : Nat} (hab : a < b) (h : decide (((a : Int), (b : Int)) ∈ L) = true) : rowE L (b + 1) a = rowE L b a ++ [[(a : Int), (b : Int)]] := by
  unfold rowE
  rw [List.range_succ, List.filter_append, List.map_append]
  have : decide (a < b) = true := decide_eq_true hab
  simp only [List.filter_cons, List.filter_nil, this, h, Bool.and_self, if_true, List.map_cons, List.map_nil]
theorem rowE_no {L : List (Int × Int)} {a b : Nat} (h : decide (((a : Int), (b : Int)) ∈ L) = false) : rowE L (b + 1) a = rowE L b a := by
  unfold rowE
  rw [List.range_succ, List.filter_append, List.map_append]
  first
    | (simp [h]; done)
    | (simp [h]; intro _; simpa using h)
theorem rowsE_next (L : List (Int × Int)) (n a : Nat) : rowsE L n (a + 1) = rowsE L n a ++ rowE L n a := by
  simp [rowsE, List.range_succ]
theorem rowE_len (L : List (Int × Int)) (b x : Nat) : (rowE L b x).length ≤ b := by
  unfold rowE
  rw [List.length_map]
  exact Nat.le_trans (List.length_filter_le _ _) (by simp)
theorem rowsE_len (L : List (Int × Int)) (n : Nat) : ∀ a, (rowsE L n a).length ≤ a * n
  | 0 => by simp [rowsE]
  | a + 1 => by
    rw [rowsE_next, List.length_append, Nat.succ_mul]
    exact Nat.add_le_add (rowsE_len L n a) (rowE_len L n a)
theorem rowE_two {L : List (Int × Int)} {b x : Nat} : ∀ r ∈ rowE L b x, r.length = 2 := fun r hr => by
  unfold rowE at hr
  obtain ⟨y, _, rfl⟩ := List.mem_map.1 hr
  rfl
theorem l00Min (x y : Int) (w : World) : Calls Try.prog 110 #[.int .i64 x, .int .i64 y] w fun e w' => e = .returned (.int .i64 (min x y)) ∧ w' = w := by
  by_cases h : x < y
  · have e : min x y = x := by omega
    rw [e]
    clear e
    go_enter Try.func110, Try.ntmps110
    go_wp2
    go_ret
    exact ⟨rfl, rfl⟩
  · have e : min x y = y := by omega
    rw [e]
    clear e
    go_enter Try.func110, Try.ntmps110
    go_wp2
    go_ret
    exact ⟨rfl, rfl⟩
theorem l00Max (x y : Int) (w : World) : Calls Try.prog 90 #[.int .i64 x, .int .i64 y] w fun e w' => e = .returned (.int .i64 (max x y)) ∧ w' = w := by
  by_cases h : y < x
  · have e : max x y = x := by omega
    rw [e]
    clear e
    go_enter Try.func90, Try.ntmps90
    go_wp2
    go_ret
    exact ⟨rfl, rfl⟩
  · have e : max x y = y := by omega
    rw [e]
    clear e
    go_enter Try.func90, Try.ntmps90
    go_wp2
    go_ret
    exact ⟨rfl, rfl⟩
theorem infoBool : (Try.prog.info? 4).map (fun i => (i.zero, i.size, i.bytes)) = some (some (.bool false), 1, 1) := by kernel_rfl
end Go.Proofs.Ytockhhfehjoldab


/-
The triangles that have two places: what the model gathers. Conditions: each triangle has three places.
-/
namespace Go.Proofs.Ytockhhfehjoldab
open Go Fk Go.RowKit
set_option linter.unusedVariables false
set_option maxRecDepth 8000

def hasB (t : List Int) (p : Int) : Bool := decide (t.getD 0 0 = p) || (decide (t.getD 1 0 = p) || decide (t.getD 2 0 = p))
/-- The indices below k of the triangles with two places. -/
def atL (ts : List (List Int)) (p q : Int) : Nat → List Int
  | 0 => []
  | k + 1 => atL ts p q k ++ (bif hasB (ts.getD k []) p && hasB (ts.getD k []) q then [(k : Int)] else [])
theorem atL_len (ts : List (List Int)) (p q : Int) (k : Nat) : (atL ts p q k).length ≤ k := by
  induction k with
  | zero => simp [atL]
  | succ k ih => unfold atL; rw [List.length_append]; cases (hasB (ts.getD k []) p && hasB (ts.getD k []) q) <;> simp <;> omega
end Go.Proofs.Ytockhhfehjoldab


/-
The triangles that have two places: what the model gathers, in a list of its own. Conditions: each triangle has three places.
-/
namespace Go.Proofs.Ytockhhfehjoldab
open Go Fk Go.RowKit
set_option linter.unusedVariables false
set_option maxRecDepth 8000

theorem atL_yes {ts : List (List Int)} {p q : Int} {k : Nat} (h1 : hasB (ts.getD k []) p = true) (h2 : hasB (ts.getD k []) q = true) : atL ts p q (k + 1) = atL ts p q k ++ [(k : Int)] := by
  show atL ts p q k ++ _ = _; rw [h1, h2]; rfl
theorem atL_no {ts : List (List Int)} {p q : Int} {k : Nat} (h : (hasB (ts.getD k []) p && hasB (ts.getD k []) q) = false) : atL ts p q (k + 1) = atL ts p q k := by
  show atL ts p q k ++ _ = _; rw [h]; simp
theorem grown_below {W w w' : World} {base : Nat} {e : TypeId} {size : Nat} {v : Value} {n : Nat} {xs : List Value} (hB : Below W.heap.size W w) (hown : w.ownsRow W.heap.size e size v n xs) (hg : w.grownBy w' v.ownBlock) : Below W.heap.size W w' :=
  hB.grown hg hB.size (fun k hk => (hown.lt k hk).1)
end Go.Proofs.Ytockhhfehjoldab


/-
When a mesh is a sheet: by its edges, and by its sides. Conditions: the mesh is valid.
-/
namespace Go.Proofs.Ytockhhfehjoldab
open Go Fk Go.RowKit
set_option linter.unusedVariables false
set_option maxRecDepth 8000

def sideT (t : List Int) : List (Int × Int) := [(t.getD 0 0, t.getD 1 0), (t.getD 1 0, t.getD 2 0), (t.getD 2 0, t.getD 0 0)]
def sidesL (ts : List (List Int)) : List (Int × Int) := ts.flatMap sideT
def goesB (t : List Int) (a b : Int) : Bool := (decide (t.getD 0 0 = a) && decide (t.getD 1 0 = b)) || ((decide (t.getD 1 0 = a) && decide (t.getD 2 0 = b)) || (decide (t.getD 2 0 = a) && decide (t.getD 0 0 = b)))
/-- What the model asks of an edge. -/
def okE (ts : List (List Int)) (a b : Int) : Bool :=
  !(decide (2 < (atL ts a b ts.length).length) || (decide ((atL ts a b ts.length).length = 2) && (goesB (ts.getD ((atL ts a b ts.length).getD 0 0).toNat []) a b == goesB (ts.getD ((atL ts a b ts.length).getD 1 0).toNat []) a b)))
def sheetB (n : Nat) (ts : List (List Int)) : Bool := (edgesT n ts).all fun r => okE ts (r.getD 0 0) (r.getD 1 0)
theorem goes_mem {t : List Int} {a b : Int} : goesB t a b = true ↔ (a, b) ∈ sideT t := by
  unfold goesB sideT
  simp only [Bool.or_eq_true, Bool.and_eq_true, decide_eq_true_eq, List.mem_cons, Prod.mk.injEq, List.not_mem_nil, or_false]
  constructor
  · rintro (⟨h, k⟩ | ⟨h, k⟩ | ⟨h, k⟩)
    · exact .inl ⟨h.symm, k.symm⟩
    · exact .inr (.inl ⟨h.symm, k.symm⟩)
    · exact .inr (.inr ⟨h.symm, k.symm⟩)
  · rintro (⟨h, k⟩ | ⟨h, k⟩ | ⟨h, k⟩)
    · exact .inl ⟨h.symm, k.symm⟩
    · exact .inr (.inl ⟨h.symm, k.symm⟩)
    · exact .inr (.inr ⟨h.symm, k.symm⟩)
structure Tri3 (n : Nat) (t : List Int) : Prop where
  d01 : t.getD 0 0 ≠ t.getD 1 0
  d12 : t.getD 1 0 ≠ t.getD 2 0
  d02 : t.getD 0 0 ≠ t.getD 2 0
  r0 : 0 ≤ t.getD 0 0 ∧ t.getD 0 0 < (n : Int)
  r1 : 0 ≤ t.getD 1 0 ∧ t.getD 1 0 < (n : Int)
  r2 : 0 ≤ t.getD 2 0 ∧ t.getD 2 0 < (n : Int)
theorem tri3_of {n : Nat} {t : List Int} (h : triB n t = true) : Tri3 n t := by
  have hp := (tri_partsh h).2
  unfold triB at h
  simp only [Bool.and_eq_true, decide_eq_true_eq] at h
  obtain ⟨_, ⟨h1, h2⟩, h3⟩ := h
  have k0 := hp 0 (by decide)
  have k1 := hp 1 (by decide)
  have k2 := hp 2 (by decide)
  exact ⟨h1, h2, h3, ⟨k0.1, by omega⟩, ⟨k1.1, by omega⟩, ⟨k2.1, by omega⟩⟩
theorem goes_both {n : Nat} {t : List Int} {p q : Int} (h : Tri3 n t) (hpq : p ≠ q) : (hasB t p && hasB t q) = (goesB t p q || goesB t q p) := by
  obtain ⟨h1, h2, h3, _, _, _⟩ := h
  unfold hasB goesB
  generalize t.getD 0 0 = x at *
  generalize t.getD 1 0 = y at *
  generalize t.getD 2 0 = z at *
  rw [Bool.eq_iff_iff]
  simp only [Bool.or_eq_true, Bool.and_eq_true, decide_eq_true_eq]
  omega
theorem goes_one {n : Nat} {t : List Int} {p q : Int} (h : Tri3 n t) (hg : goesB t p q = true) : goesB t q p = false := by
  obtain ⟨h1, h2, h3, _, _, _⟩ := h
  rw [Bool.eq_false_iff]
  unfold goesB at *
  generalize t.getD 0 0 = x at *
  generalize t.getD 1 0 = y at *
  generalize t.getD 2 0 = z at *
  simp only [ne_eq, Bool.or_eq_true, Bool.and_eq_true, decide_eq_true_eq] at *
  omega
theorem goes_ne {n : Nat} {t : List Int} {p q : Int} (h : Tri3 n t) (hg : goesB t p q = true) : p ≠ q ∧ (0 ≤ p ∧ p < n) ∧ (0 ≤ q ∧ q < n) := by
  obtain ⟨h1, h2, h3, _, _, _⟩ := h
  unfold goesB at *
  generalize t.getD 0 0 = x at *
  generalize t.getD 1 0 = y at *
  generalize t.getD 2 0 = z at *
  simp only [ne_eq, Bool.or_eq_true, Bool.and_eq_true, decide_eq_true_eq] at *
  omega
theorem atL_filter (ts : List (List Int)) (p q : Int) : ∀ k, atL ts p q k = ((List.range k).filter fun i => hasB (ts.getD i []) p && hasB (ts.getD i []) q).map fun i : Nat => (i : Int)
  | 0 => rfl
  | k + 1 => by
    rw [List.range_succ, List.filter_append, List.map_append, ← atL_filter ts p q k]
    cases h : (hasB (ts.getD k []) p && hasB (ts.getD k []) q)
    · rw [atL_no h, List.filter_cons, if_neg (by rw [h]; exact Bool.false_ne_true)]; simp
    · have h' := h
      rw [Bool.and_eq_true] at h'
      rw [atL_yes h'.1 h'.2]; simp only [List.filter_cons, h, if_true, List.filter_nil, List.map_cons, List.map_nil]
theorem mem_rowsE {L : List (Int × Int)} {n m : Nat} {r : List Int} : r ∈ rowsE L n m ↔ ∃ a b : Nat, a < m ∧ b < n ∧ a < b ∧ ((a : Int), (b : Int)) ∈ L ∧ r = [(a : Int), (b : Int)] := by
  unfold rowsE rowE
  simp only [List.mem_flatMap, List.mem_range, List.mem_map, List.mem_filter, Bool.and_eq_true, decide_eq_true_eq]
  constructor
  · rintro ⟨a, ha, b, ⟨hb, hab, hm⟩, rfl⟩
    exact ⟨a, b, ha, hb, hab, hm, rfl⟩
  · rintro ⟨a, b, ha, hb, hab, hm, rfl⟩
    exact ⟨a, ha, b, ⟨hb, hab, hm⟩, rfl⟩
/-- An edge is in the list just if a triangle goes along it. -/
theorem mem_keysE {ts : List (List Int)} {a b : Int} (hab : a < b) : (a, b) ∈ keysE ts ↔ ∃ t ∈ ts, goesB t a b = true ∨ goesB t b a = true := by
  unfold keysE
  rw [List.mem_flatMap]
  refine exists_congr fun t => and_congr_right fun _ => ?_
  unfold triE eKey goesB
  generalize t.getD 0 0 = x at *
  generalize t.getD 1 0 = y at *
  generalize t.getD 2 0 = z at *
  simp only [List.mem_cons, Prod.mk.injEq, List.not_mem_nil, or_false, Bool.or_eq_true, Bool.and_eq_true, decide_eq_true_eq]
  omega
theorem okE_false {ts : List (List Int)} {n : Nat} {p q : Int} (hT : ∀ i, i < ts.length → Tri3 n (ts.getD i [])) (hpq : p < q) (h : okE ts p q = false) : ∃ i j a b, i < j ∧ j < ts.length ∧ goesB (ts.getD i []) a b = true ∧ goesB (ts.getD j []) a b = true := by
  have hl := atL_filter ts p q ts.length
  have hm : ∀ i ∈ (List.range ts.length).filter (fun i => hasB (ts.getD i []) p && hasB (ts.getD i []) q), i < ts.length ∧ (goesB (ts.getD i []) p q = true ∨ goesB (ts.getD i []) q p = true) := fun i hi => by
    obtain ⟨h1, h2⟩ := List.mem_filter.1 hi
    have h1 := List.mem_range.1 h1
    rw [goes_both (hT i h1) (by omega), Bool.or_eq_true] at h2
    exact ⟨h1, h2⟩
  have hs : ((List.range ts.length).filter (fun i => hasB (ts.getD i []) p && hasB (ts.getD i []) q)).Pairwise (· < ·) := List.Pairwise.sublist List.filter_sublist List.pairwise_lt_range
  have hg : ∀ i, i < ts.length → (goesB (ts.getD i []) p q = true ∨ goesB (ts.getD i []) q p = true) → ∀ j, j < ts.length → (goesB (ts.getD j []) p q = true ∨ goesB (ts.getD j []) q p = true) → goesB (ts.getD i []) p q = goesB (ts.getD j []) p q → i < j → ∃ i j a b, i < j ∧ j < ts.length ∧ goesB (ts.getD i []) a b = true ∧ goesB (ts.getD j []) a b = true := fun i hi h1 j hj h2 he hij => by
    cases hc : goesB (ts.getD i []) p q
    · rw [hc] at he h1
      rw [← he] at h2
      exact ⟨i, j, q, p, hij, hj, by simpa using h1, by simpa using h2⟩
    · exact ⟨i, j, p, q, hij, hj, hc, by rw [← he]; exact hc⟩
  unfold okE at h
  rw [hl] at h
  generalize (List.range ts.length).filter (fun i => hasB (ts.getD i []) p && hasB (ts.getD i []) q) = l at *
  match l, hm, hs, h with
  | [], _, _, h => simp at h
  | [_], _, _, h => simp at h
  | [i, j], hm, hs, h =>
    obtain ⟨hi, gi⟩ := hm i (by simp)
    obtain ⟨hj, gj⟩ := hm j (by simp)
    have hij : i < j := (List.pairwise_cons.1 hs).1 j (by simp)
    simp only [List.map_cons, List.map_nil, List.length_cons, List.length_nil, Nat.reduceAdd, Nat.lt_irrefl, decide_false, Bool.false_or, decide_true, Bool.true_and, List.getD_cons_zero, List.getD_cons_succ, Int.toNat_natCast, Bool.not_eq_false', beq_iff_eq] at h
    exact hg i hi gi j hj gj h hij
  | i :: j :: k :: r, hm, hs, _ =>
    obtain ⟨hi, gi⟩ := hm i (by simp)
    obtain ⟨hj, gj⟩ := hm j (by simp)
    obtain ⟨hk, gk⟩ := hm k (by simp)
    obtain ⟨s1, s2⟩ := List.pairwise_cons.1 hs
    have hij := s1 j (by simp)
    have hik := s1 k (by simp)
    have hjk := (List.pairwise_cons.1 s2).1 k (by simp)
    by_cases e1 : goesB (ts.getD i []) p q = goesB (ts.getD j []) p q
    · exact hg i hi gi j hj gj e1 hij
    · by_cases e2 : goesB (ts.getD i []) p q = goesB (ts.getD k []) p q
      · exact hg i hi gi k hk gk e2 hik
      · refine hg j hj gj k hk gk ?_ hjk
        cases h1 : goesB (ts.getD i []) p q <;> cases h2 : goesB (ts.getD j []) p q <;> cases h3 : goesB (ts.getD k []) p q <;> simp_all
theorem okE_true {ts : List (List Int)} {n : Nat} {p q : Int} (hT : ∀ i, i < ts.length → Tri3 n (ts.getD i [])) (hpq : p < q) (h : okE ts p q = true) {i j : Nat} (hij : i < j) (hj : j < ts.length) (gi : goesB (ts.getD i []) p q = true ∨ goesB (ts.getD i []) q p = true) (gj : goesB (ts.getD j []) p q = true ∨ goesB (ts.getD j []) q p = true) : goesB (ts.getD i []) p q ≠ goesB (ts.getD j []) p q := by
  have hl := atL_filter ts p q ts.length
  have hmem : ∀ i, i < ts.length → (goesB (ts.getD i []) p q = true ∨ goesB (ts.getD i []) q p = true) → i ∈ (List.range ts.length).filter (fun i => hasB (ts.getD i []) p && hasB (ts.getD i []) q) := fun i hi g => by
    refine List.mem_filter.2 ⟨List.mem_range.2 hi, ?_⟩
    rw [goes_both (hT i hi) (by omega), Bool.or_eq_true]
    exact g
  have mi := hmem i (by omega) gi
  have mj := hmem j hj gj
  have hs : ((List.range ts.length).filter (fun i => hasB (ts.getD i []) p && hasB (ts.getD i []) q)).Pairwise (· < ·) := List.Pairwise.sublist List.filter_sublist List.pairwise_lt_range
  unfold okE at h
  rw [hl] at h
  generalize (List.range ts.length).filter (fun i => hasB (ts.getD i []) p && hasB (ts.getD i []) q) = l at *
  match l, mi, mj, hs, h with
  | [], mi, _, _, _ => simp at mi
  | [x], mi, mj, _, _ => simp at mi mj; omega
  | [x, y], mi, mj, hs, h =>
    have hxy : x < y := (List.pairwise_cons.1 hs).1 y (by simp)
    simp only [List.mem_cons, List.not_mem_nil, or_false] at mi mj
    obtain ⟨rfl, rfl⟩ : i = x ∧ j = y := by omega
    simp only [List.map_cons, List.map_nil, List.length_cons, List.length_nil, Nat.reduceAdd, Nat.lt_irrefl, decide_false, Bool.false_or, decide_true, Bool.true_and, List.getD_cons_zero, List.getD_cons_succ, Int.toNat_natCast, Bool.not_eq_true', beq_eq_false_iff_ne] at h
    exact h
  | x :: y :: z :: r, _, _, _, h => simp at h
theorem sheet_iff {cs : List C3} {ts : List (List Int)} (hv : validB cs ts = true) : sheetB cs.length ts = decide (sidesL ts).Nodup := by
  have hT : ∀ i, i < ts.length → Tri3 cs.length (ts.getD i []) := fun i hi => tri3_of (valid_rowh hv hi)
  have hnd : (sidesL ts).Nodup ↔ ∀ i j a b, i < j → j < ts.length → goesB (ts.getD i []) a b = true → goesB (ts.getD j []) a b = true → False := by
    unfold sidesL List.Nodup
    rw [List.pairwise_flatMap]
    constructor
    · rintro ⟨_, h⟩ i j a b hij hj gi gj
      rw [List.pairwise_iff_getElem] at h
      have := h i j (by omega) hj hij (a, b) (by have := goes_mem.1 gi; simpa [List.getD, show i < ts.length by omega] using this) (a, b) (by have := goes_mem.1 gj; simpa [List.getD, hj] using this)
      exact this rfl
    · intro h
      refine ⟨fun t ht => ?_, ?_⟩
      · obtain ⟨i, hi, rfl⟩ := List.mem_iff_getElem.1 ht
        obtain ⟨h1, h2, h3, _, _, _⟩ := hT i hi
        have e : ts.getD i [] = ts[i] := by simp [List.getD, hi]
        rw [e] at h1 h2 h3
        unfold sideT
        simp only [List.pairwise_cons, List.mem_cons, List.not_mem_nil, or_false, forall_eq_or_imp, forall_eq, ne_eq, Prod.mk.injEq, not_and, List.Pairwise.nil, and_true, false_imp_iff, implies_true]
        refine ⟨⟨fun e => absurd e h1, fun e => absurd e h3⟩, fun e => absurd e h2⟩
      · rw [List.pairwise_iff_getElem]
        intro i j hi hj hij x hx y hy e
        subst e
        refine h i j x.1 x.2 hij hj (goes_mem.2 (by simpa [List.getD, hi] using hx)) (goes_mem.2 (by simpa [List.getD, hj] using hy))
  cases hs : sheetB cs.length ts
  · refine (decide_eq_false fun hn => ?_).symm
    rw [hnd] at hn
    unfold sheetB at hs
    rw [← Bool.not_eq_true, List.all_eq_true] at hs
    apply hs
    intro r hr
    obtain ⟨a, b, ha, hb, hab, hm, rfl⟩ := mem_rowsE.1 hr
    cases ho : okE ts (a : Int) (b : Int)
    · obtain ⟨i, j, x, y, hij, hj, gi, gj⟩ := okE_false hT (by omega) ho
      exact absurd (hn i j x y hij hj gi gj) id
    · exact ho
  · refine (decide_eq_true ?_).symm
    rw [hnd]
    intro i j a b hij hj gi gj
    unfold sheetB at hs
    rw [List.all_eq_true] at hs
    obtain ⟨hne, ra, rb⟩ := goes_ne (hT i (by omega)) gi
    have key : ∀ p q : Int, p < q → (0 ≤ p ∧ p < cs.length) → (0 ≤ q ∧ q < cs.length) → (goesB (ts.getD i []) p q = true ∨ goesB (ts.getD i []) q p = true) → (goesB (ts.getD j []) p q = true ∨ goesB (ts.getD j []) q p = true) → goesB (ts.getD i []) p q = goesB (ts.getD j []) p q → False := fun p q hpq hp hq g1 g2 e => by
      have hmk : (p, q) ∈ keysE ts := (mem_keysE hpq).2 ⟨ts.getD i [], by rw [List.getD, List.getElem?_eq_getElem (show i < ts.length by omega)]; exact List.getElem_mem _, g1⟩
      have hr : [p, q] ∈ edgesT cs.length ts := mem_rowsE.2 ⟨p.toNat, q.toNat, by omega, by omega, by omega, by rw [Int.toNat_of_nonneg hp.1, Int.toNat_of_nonneg hq.1]; exact hmk, by rw [Int.toNat_of_nonneg hp.1, Int.toNat_of_nonneg hq.1]⟩
      exact okE_true hT hpq (hs _ hr) hij hj g1 g2 e
    by_cases hlt : a < b
    · exact key a b hlt ra rb (.inl gi) (.inl gj) (by rw [gi, gj])
    · exact key b a (by omega) rb ra (.inr gi) (.inr gj) (by rw [goes_one (hT i (by omega)) gi, goes_one (hT j hj) gj])
end Go.Proofs.Ytockhhfehjoldab

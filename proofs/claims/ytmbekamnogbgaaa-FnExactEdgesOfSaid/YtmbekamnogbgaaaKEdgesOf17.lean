/-
Texts in one: what EdgesOf stands on, part 17. Conditions: those of each.
-/
import Derived.Test.YtmbekamnogbgaaaKEdgesOf16
import Derived.WalkKit

/-
Edges of a mesh, as lists; the lesser and the greater of two. Conditions: none.
-/
namespace Go.Proofs.Ytmbekamnogbgaaa
open Go Fk Go.RowKit
set_option linter.unusedVariables false
set_option maxRecDepth 8000

def eKey (a b : Int) : Int × Int := (min a b, max a b)
def triE (t : List Int) : List (Int × Int) := [eKey (t.getD 0 0) (t.getD 1 0), eKey (t.getD 1 0) (t.getD 2 0), eKey (t.getD 2 0) (t.getD 0 0)]
def keysE (ts : List (List Int)) : List (Int × Int) := ts.flatMap triE
/-- The edges of the first k triangles and of j sides of the next. -/
def preE (ts : List (List Int)) (k j : Nat) : List (Int × Int) := (ts.take k).flatMap triE ++ (triE (ts.getD k [])).take j
theorem preE_zero (ts : List (List Int)) : preE ts 0 0 = [] := by simp [preE]
theorem preE_end (ts : List (List Int)) : preE ts ts.length 0 = keysE ts := by simp [preE, keysE]
theorem preE_next {ts : List (List Int)} {k : Nat} (hk : k < ts.length) : preE ts k 3 = preE ts (k + 1) 0 := by
  have e : ts.take (k + 1) = ts.take k ++ [ts.getD k []] := by
    rw [List.take_add_one, List.getElem?_eq_getElem hk]
    simp [List.getD, List.getElem?_eq_getElem hk]
  unfold preE
  rw [e, List.flatMap_append, List.flatMap_cons, List.flatMap_nil, List.append_nil, List.take_zero, List.append_nil]
  rfl
theorem preE_step {ts : List (List Int)} {k j : Nat} (hj : j < 3) : preE ts k (j + 1) = preE ts k j ++ [(triE (ts.getD k [])).getD j (0, 0)] := by
  match j, hj with
  | 0, _ => simp [preE, triE]
  | 1, _ => simp [preE, triE]
  | 2, _ => simp [preE, triE]
/-- A table of flags, a row for each lesser place. -/
def SeenT (w : World) (b n : Nat) (L : List (Int × Int)) : Prop :=
  (∀ x y, x < n → y < n → w.cell? ⟨b, x * n + y, none⟩ = some (.bool (decide (((x : Int), (y : Int)) ∈ L)))) ∧ (∀ i, w.frozen? ⟨b, i, none⟩ = false) ∧ b < w.heap.size
theorem flat_lt {x y n : Nat} (hx : x < n) (hy : y < n) : x * n + y < n * n := by
  have : (x + 1) * n ≤ n * n := Nat.mul_le_mul_right n hx
  rw [Nat.succ_mul] at this
  omega
theorem flat_inj {x y p q n : Nat} (hy : y < n) (hq : q < n) (h : x * n + y = p * n + q) : x = p ∧ y = q := by
  have h1 : (x * n + y) / n = x := by rw [Nat.mul_comm, Nat.mul_add_div (by omega), Nat.div_eq_of_lt hy]; omega
  have h2 : (p * n + q) / n = p := by rw [Nat.mul_comm, Nat.mul_add_div (by omega), Nat.div_eq_of_lt hq]; omega
  have : x = p := by rw [← h1, ← h2, h]
  subst this
  exact ⟨rfl, by omega⟩
theorem SeenT.set {w : World} {b n p q : Nat} {L : List (Int × Int)} (h : SeenT w b n L) (hp : p < n) (hq : q < n) : SeenT (w.setCell ⟨b, p * n + q, none⟩ (.bool true)) b n (L ++ [((p : Int), (q : Int))]) := by
  refine ⟨fun x y hx hy => ?_, fun i => by simpa using h.2.1 i, by simpa using h.2.2⟩
  by_cases e : x * n + y = p * n + q
  · obtain ⟨rfl, rfl⟩ := flat_inj hy hq e
    rw [World.cell?_setCell_same _ _ _ (h.1 x y hx hy)]
    simp
  · rw [World.cell?_setCell_other _ _ _ _ (by first | (simp; done) | (simp; exact fun e' => e e'.symm)), h.1 x y hx hy]
    have hne : ¬ (((x : Int), (y : Int)) = ((p : Int), (q : Int))) := fun e' => by
      rw [Prod.mk.injEq] at e'
      obtain ⟨e1, e2⟩ := e'
      exact e (by rw [Int.ofNat.inj e1, Int.ofNat.inj e2])
    simp only [List.mem_append, List.mem_singleton, hne, or_false]
theorem SeenT.below {w w' : World} {b n : Nat} {L : List (Int × Int)} (h : SeenT w b n L) (hB : Below w.heap.size w w') : SeenT w' b n L :=
  ⟨fun x y hx hy => cell_below hB (h.1 x y hx hy), fun i => by rw [hB.frozen (p := ⟨b, i, none⟩) h.2.2]; exact h.2.1 i, Nat.lt_of_lt_of_le h.2.2 hB.size⟩
/-- The edges from x to places less than b, as rows. -/
def rowE (L : List (Int × Int)) (b x : Nat) : List (List Int) := ((List.range b).filter fun y : Nat => decide (x < y) && decide (((x : Int), (y : Int)) ∈ L)).map fun y : Nat => [(x : Int), (y : Int)]
def rowsE (L : List (Int × Int)) (n a : Nat) : List (List Int) := (List.range a).flatMap (rowE L n)
/-- All edges in ascending order, as rows. -/
def edgesT (n : Nat) (ts : List (List Int)) : List (List Int) := rowsE (keysE ts) n n
theorem rowE_start (L : List (Int × Int)) (a : Nat) : rowE L (a + 1) a = [] := by
  unfold rowE
  have : ((List.range (a + 1)).filter fun y : Nat => decide (a < y) && decide (((a : Int), (y : Int)) ∈ L)) = [] := by
    rw [List.filter_eq_nil_iff]
    intro y hy
    have := List.mem_range.1 hy
    simp; intro h; omega
  rw [this]; rfl
theorem rowE_yes {L : List (Int × Int)} {a b : Nat} (hab : a < b) (h : decide (((a : Int), (b : Int)) ∈ L) = true) : rowE L (b + 1) a = rowE L b a ++ [[(a : Int), (b : Int)]] := by
  unfold rowE
  rw [List.range_succ, List.filter_append, List.map_append]
  have : decide (a < b) = true := decide_eq_true hab
  simp only [List.filter_cons, List.filter_nil, this, h, Bool.and_self, if_true, List.map_cons, List.map_nil]
theorem rowE_no {L : List (Int × Int)} {a b : Nat} (h : decide (((a : Int), (b : Int)) ∈ L) = false) : rowE L (b + 1) a = rowE L b a := by
  unfold rowE
  rw [List.range_succ, List.filter_append, List.map_append]
  first
    | (simp [h]; done)
    | (simp [h]; intro _; simpa using h)
theorem rowsE_next (L : List (Int × Int)) (n a : Nat) : rowsE L n (a + 1) = rowsE L n a ++ rowE L n a := by
  simp [rowsE, List.range_succ]
theorem rowE_len (L : List (Int × Int)) (b x : Nat) : (rowE L b x).length ≤ b := by
  unfold rowE
  rw [List.length_map]
  exact Nat.le_trans (List.length_filter_le _ _) (by simp)
theorem rowsE_len (L : List (Int × Int)) (n : Nat) : ∀ a, (rowsE L n a).length ≤ a * n
  | 0 => by simp [rowsE]
  | a + 1 => by
    rw [rowsE_next, List.length_append, Nat.succ_mul]
    exact Nat.add_le_add (rowsE_len L n a) (rowE_len L n a)
theorem rowE_two {L : List (Int × Int)} {b x : Nat} : ∀ r ∈ rowE L b x, r.length = 2 := fun r hr => by
  unfold rowE at hr
  obtain ⟨y, _, rfl⟩ := List.mem_map.1 hr
  rfl
theorem l00Min (x y : Int) (w : World) : Calls Try.prog 184 #[.int .i64 x, .int .i64 y] w fun e w' => e = .returned (.int .i64 (min x y)) ∧ w' = w := by
  by_cases h : x < y
  · have e : min x y = x := by omega
    rw [e]
    clear e
    go_enter Try.func184, Try.ntmps184
    go_wp2
    go_ret
    exact ⟨rfl, rfl⟩
  · have e : min x y = y := by omega
    rw [e]
    clear e
    go_enter Try.func184, Try.ntmps184
    go_wp2
    go_ret
    exact ⟨rfl, rfl⟩
theorem l00Max (x y : Int) (w : World) : Calls Try.prog 185 #[.int .i64 x, .int .i64 y] w fun e w' => e = .returned (.int .i64 (max x y)) ∧ w' = w := by
  by_cases h : y < x
  · have e : max x y = x := by omega
    rw [e]
    clear e
    go_enter Try.func185, Try.ntmps185
    go_wp2
    go_ret
    exact ⟨rfl, rfl⟩
  · have e : max x y = y := by omega
    rw [e]
    clear e
    go_enter Try.func185, Try.ntmps185
    go_wp2
    go_ret
    exact ⟨rfl, rfl⟩
theorem infoBool : (Try.prog.info? 4).map (fun i => (i.zero, i.size, i.bytes)) = some (some (.bool false), 1, 1) := by kernel_rfl
end Go.Proofs.Ytmbekamnogbgaaa


/-
The triangles that have two places: what the model gathers. Conditions: each triangle has three places.
-/
namespace Go.Proofs.Ytmbekamnogbgaaa
open Go Fk Go.RowKit
set_option linter.unusedVariables false
set_option maxRecDepth 8000

def hasB (t : List Int) (p : Int) : Bool := decide (t.getD 0 0 = p) || (decide (t.getD 1 0 = p) || decide (t.getD 2 0 = p))
/-- The indices below k of the triangles with two places. -/
def atL (ts : List (List Int)) (p q : Int) : Nat → List Int
  | 0 => []
  | k + 1 => atL ts p q k ++ (bif hasB (ts.getD k []) p && hasB (ts.getD k []) q then [(k : Int)] else [])
theorem atL_len (ts : List (List Int)) (p q : Int) (k : Nat) : (atL ts p q k).length ≤ k := by
  induction k with
  | zero => simp [atL]
  | succ k ih => unfold atL; rw [List.length_append]; cases (hasB (ts.getD k []) p && hasB (ts.getD k []) q) <;> simp <;> omega
end Go.Proofs.Ytmbekamnogbgaaa


/-
The triangles that have two places: what the model gathers, in a list of its own. Conditions: each triangle has three places.
-/
namespace Go.Proofs.Ytmbekamnogbgaaa
open Go Fk Go.RowKit
set_option linter.unusedVariables false
set_option maxRecDepth 8000

theorem atL_yes {ts : List (List Int)} {p q : Int} {k : Nat} (h1 : hasB (ts.getD k []) p = true) (h2 : hasB (ts.getD k []) q = true) : atL ts p q (k + 1) = atL ts p q k ++ [(k : Int)] := by
  show atL ts p q k ++ _ = _; rw [h1, h2]; rfl
theorem atL_no {ts : List (List Int)} {p q : Int} {k : Nat} (h : (hasB (ts.getD k []) p && hasB (ts.getD k []) q) = false) : atL ts p q (k + 1) = atL ts p q k := by
  show atL ts p q k ++ _ = _; rw [h]; simp
theorem grown_below {W w w' : World} {base : Nat} {e : TypeId} {size : Nat} {v : Value} {n : Nat} {xs : List Value} (hB : Below W.heap.size W w) (hown : w.ownsRow W.heap.size e size v n xs) (hg : w.grownBy w' v.ownBlock) : Below W.heap.size W w' :=
  hB.grown hg hB.size (fun k hk => (hown.lt k hk).1)
end Go.Proofs.Ytmbekamnogbgaaa

/-
Texts in one: what BorderOf stands on, part 11. Conditions: those of each.
-/
import Derived.Test.YtockhhfehjoldaaKBorderOf10
import Derived.RangeFuncBound
import Derived.Sort.OwnSorted
import Derived.WalkKit

/-
sortedEdges: the keys of a map of lists by edges, in order. Conditions: none.
-/
namespace Go.Proofs.Ytockhhfehjoldaa
open Go Fk Go.RowKit Go.Maps Go.Sort Go.Shelf Go.Lib
set_option linter.unusedVariables false
set_option maxRecDepth 100000

theorem flatE_cons (x : Int × Int) (ss : List (Int × Int)) : flatE (x :: ss) = .int .i64 x.1 :: .int .i64 x.2 :: flatE ss := by simp [flatE]
theorem flatE_len (ss : List (Int × Int)) : (flatE ss).length = ss.length * 2 := by
  induction ss with
  | nil => rfl
  | cons x ss ih => rw [flatE_cons]; simp [ih]; omega
theorem flatE_get : ∀ (ss : List (Int × Int)) (t : Nat), t < ss.length * 2 → (flatE ss)[t]? = some ((cellsE (ss.toArray[t / 2]!))[t % 2]!)
  | [], t, h => by simp at h
  | x :: ss, 0, h => by rw [flatE_cons]; simp [cellsE]
  | x :: ss, 1, h => by rw [flatE_cons]; simp [cellsE]
  | x :: ss, t + 2, h => by
    rw [flatE_cons, List.getElem?_cons_succ, List.getElem?_cons_succ, flatE_get ss t (by simp at h; omega)]
    have h1 : (t + 2) / 2 = t / 2 + 1 := by omega
    have h2 : (t + 2) % 2 = t % 2 := by omega
    rw [h1, h2]
    have h3 : t / 2 < ss.length := by simp at h; omega
    simp [h3]
theorem flatK_E (ss : List (Int × Int)) (t : Nat) (h : t < ss.length * 2) : (flatE ss)[t]? = some (flatK cellsE 2 ss.toArray)[t]! := by
  rw [get_flatK _ _ _ _ (by simpa using h)]
  exact flatE_get ss t h
theorem holds_edges {w : World} {g : Nat} {cur : Array Value} {e : TypeId} {ss : List (Int × Int)} (hb : w.heap[g]? = some (.cells cur e (0, 0))) (ht : cur.toList.take (ss.length * 2) = flatE ss) : HoldsK cellsE 2 w g 0 ss.toArray := by
  intro j hj
  have hj' : j < ss.length * 2 := by simpa using hj
  refine ⟨?_, by simp [World.frozen?, hb]⟩
  have h1 : (cur.toList.take (ss.length * 2))[j]? = (flatE ss)[j]? := by rw [ht]
  rw [List.getElem?_take_of_lt hj', flatK_E ss j hj'] at h1
  simp only [World.cell?, hb, Nat.zero_add]
  simp only [Option.isSome_none, Bool.false_eq_true, if_false]
  rw [← Array.getElem?_toList, h1]
  rfl
theorem heap_sortedK {w : World} {g n : Nat} {os : Array Obj} {cur : Array Value} {e : TypeId} {fr : Nat × Nat} (d : Array (Int × Int)) (hb : w.heap[g]? = some (.cells cur e fr)) :
    (sortWorldK cellsE 2 w g 0 n d os).heap[g]? = some (.cells (putCells id 0 (flatK cellsE 2 d) cur) e fr) := by
  have hg : g < w.heap.size := (Array.getElem?_eq_some_iff.1 hb).1
  unfold sortWorldK putRowK
  rw [heap_grow_old _ _ (by simpa using hg)]
  simp [putRow, mapBlock, Sort.ahead, Array.getElem?_modify, hb, onCells]
theorem grownBy_sortedK {w : World} {g n : Nat} {os : Array Obj} (d : Array (Int × Int)) : w.grownBy (sortWorldK cellsE 2 w g 0 n d os) (some g) := by
  unfold sortWorldK putRowK
  refine ⟨rfl, rfl, rfl, by simp, fun k hk hne => ?_⟩
  rw [heap_grow_old _ _ (by simpa using hk)]
  have : g ≠ k := fun e => hne (by rw [e])
  simp [putRow, mapBlock, Sort.ahead, Array.getElem?_modify, this]
theorem take_putK (cur : Array Value) (ts : List (Int × Int)) (h : ts.length * 2 ≤ cur.size) : (putCells id 0 (flatK cellsE 2 ts.toArray) cur).toList.take (ts.length * 2) = flatE ts := by
  apply List.ext_getElem?
  intro j
  by_cases hj : j < ts.length * 2
  · rw [List.getElem?_take_of_lt hj, Array.getElem?_toList, flatK_E ts j hj]
    simp [putCells, hj, show j < cur.size by omega]
  · rw [List.getElem?_take_eq_none (by omega), List.getElem?_eq_none (by rw [flatE_len]; omega)]
theorem ownsRow_sortedK {w : World} {base g cap n : Nat} {e : TypeId} {os : Array Obj} {cur : Array Value} {ss ts : List (Int × Int)} (hl : ts.length = ss.length) (hbase : base ≤ g) (hb : w.heap[g]? = some (.cells cur e (0, 0)))
    (h1 : ss.length ≤ cap) (h2 : cap ≤ maxLen) (h3 : cur.size = cap * 2) :
    (sortWorldK cellsE 2 w g 0 n ts.toArray os).ownsRow base e 2 (.slice (some ⟨g, 0, none⟩) ss.length cap) ss.length (flatE ts) :=
  ⟨by rw [flatE_len, hl], .inr ⟨g, cap, _, rfl, hbase, heap_sortedK _ hb, h1, h2, by simp [putCells, h3], by rw [← hl]; exact take_putK cur ts (by omega)⟩⟩
/-- Edges in order. -/
def sortE (ss : List (Int × Int)) : List (Int × Int) := ss.mergeSort fun x y => !(ltOf cfE) y x

set_option maxHeartbeats 2000000 in
theorem sortedFuncE (n : Nat) (hn : 4 ≤ n) (g : Nat) (lb : Array Value) (eg : ∀ args w, (callFunc g args).run Try.prog w = .ok (.enter g args) w)
    (S : List (Int × Int) → Prop) (N : Nat) (hN : N ≤ maxLen) (hNb : N * 16 ≤ 140737488355328) (w : World) (hseq : SeqGives Fence.wide (n - 1 - 1 - 1) Try.prog g lb encE S N w) :
    CallsIn Fence.wide n Try.prog 77 #[.func (.func g) #[] lb, .func (.func 79) #[] #[]] w fun e w' => ∃ (v : Value) (ss : List (Int × Int)), e = .returned v ∧ S ss ∧
      w'.ownsRow w.heap.size 62 2 v ss.length (flatE (sortE ss)) ∧ (v = .slice none 0 0 ↔ ss = []) ∧ Below w.heap.size w w' := by
  have h1 : 1 ≤ n := by omega
  have h8 : Fence.wide.fn 90 := trivial
  have h9 : Fence.wide.fn 91 := trivial
  have e8 : ∀ args w, (callFunc 90 args).run Try.prog w = .ok (.enter 90 args) w := enters_of Try.func90 (by kernel_rfl) rfl
  have e9 : ∀ args w, (callFunc 91 args).run Try.prog w = .ok (.enter 91 args) w := enters_of Try.func91 (by kernel_rfl) rfl
  refine callsIn_of_wp Try.func77 rfl trivial ?_ rfl
  simp only [Try.ntmps77, List.size_toArray, List.length_cons, List.length_nil, Nat.reduceAdd, Nat.reduceSub, Array.replicate_succ, Array.replicate_zero, List.push_toArray, List.append_toArray, List.nil_append, List.cons_append]
  gi_wp2_with (gi_at_fn 90; refine (collect_in (n - 1) (by omega) g lb eg _ N hN hNb _ hseq.bounded).mono ?_; rintro e W ⟨v, ss, rfl, ⟨hS, hlen⟩, hrow, hnil, hb⟩)
  rcases hrow.2 with ⟨rfl, hz⟩ | ⟨gb, cap, cur, rfl, hbase, hgb, r1, r2, r3, r4⟩
  · have hss : ss = [] := List.eq_nil_of_length_eq_zero hz
    subst hss
    gi_wp2_with (gi_at_fn 91; refine (callsIn_wide.2 (sort_none none 0 _ W)).mono ?_; rintro e w' ⟨rfl, rfl⟩)
    go_ret
    exact ⟨.slice none 0 0, [], rfl, hS, by simpa [sortE] using hrow, by simp, hb⟩
  · have hH : HoldsK cellsE 2 W gb 0 ss.toArray := holds_edges hgb (by simpa using r4)
    have hgl : gb < W.heap.size := (Array.getElem?_eq_some_iff.1 hgb).1
    have hsz : ss.length < 4611686018427387904 := by omega
    have cS := sort_edges gb 0 cap ss.toArray W hH hgl (by simpa using hsz)
    simp only [List.size_toArray] at cS
    gi_wp2_with (gi_at_fn 91; refine (callsIn_wide.2 cS).mono ?_; rintro e w' ⟨rfl, nn, os, rfl⟩)
    go_ret
    exact ⟨_, ss, rfl, hS, ownsRow_sortedK (by simp) hbase hgb r1 r2 r3, hnil, hb.grown (grownBy_sortedK _) hb.size (fun j hj => by cases hj; exact hbase)⟩

set_option maxHeartbeats 1000000 in
theorem impl_sortedEdges (b nn : Nat) (D0 : DataW Unit) (R : Value → Option (DataW Unit × List MemPlace)) (w : World) (hown : w.ownsMap Try.prog 62 R b nn D0) (hmax : Maps.size D0 ≤ maxLen) (hbytes : Maps.size D0 * 16 ≤ 140737488355328) :
    Calls Try.prog 47 #[.map (some b)] w fun e w' => ∃ (v : Value) (ss : List (Int × Int)), e = .returned v ∧ KeysE D0 ss ∧
      w'.ownsRow w.heap.size 62 2 v ss.length (flatE (sortE ss)) ∧ (v = .slice none 0 0 ↔ ss = []) ∧ Below w.heap.size w w' := by
  refine (callsIn_wide (n := 6)).1 ?_
  have hbl := hown.lt
  have hseq := keysE_gives 2 (by omega) w.heap.size b nn D0 (R := R) (w.alloc (.cells #[.map (some b)] 59)) (by simp) (by simp) (by
      obtain ⟨es, clock, hb, Ft, hs, hD⟩ := hown
      exact ⟨es, clock, (Below.heap_alloc _ _ b hbl).trans hb, Ft, hs, hD⟩)
  have cK := fun mb W => maps_KeysE 5 mb W
  have cS := sortedFuncE 5 (by omega) 92 #[.pointer (some ⟨w.heap.size, 0, none⟩)] (enters_of Try.func92 (by kernel_rfl) rfl) _ _ hmax hbytes _ hseq
  have hfK : Fence.wide.fn 78 := trivial
  have hfS : Fence.wide.fn 77 := trivial
  refine callsIn_of_wp Try.func47 rfl trivial ?_ rfl
  simp only [Try.ntmps47, List.size_toArray, List.length_cons, List.length_nil, Nat.reduceAdd, Nat.reduceSub, Array.replicate_succ, Array.replicate_zero, List.push_toArray, List.append_toArray, List.nil_append, List.cons_append]
  gi_wp2_with (first
    | (gi_at_call 78; refine (cK _ _).mono ?_; rintro e w' ⟨rfl, rfl⟩)
    | (gi_at_call 77; refine cS.mono ?_; rintro e w' ⟨v, ss, rfl, hS, hrow, hnil, hb⟩))
  go_ret
  exact ⟨v, ss, rfl, hS, ownsRow_base_a hrow (by simp), hnil, ((Below.refl _ w).alloc (Nat.le_refl _) _).trans (hb.mono (by simp))⟩
end Go.Proofs.Ytockhhfehjoldaa


/-
Edges of a mesh, as lists; the lesser and the greater of two. Conditions: none.
-/
namespace Go.Proofs.Ytockhhfehjoldaa
open Go Fk Go.RowKit
set_option linter.unusedVariables false
set_option maxRecDepth 8000

def eKey (a b : Int) : Int × Int := (min a b, max a b)
def triE (t : List Int) : List (Int × Int) := [eKey (t.getD 0 0) (t.getD 1 0), eKey (t.getD 1 0) (t.getD 2 0), eKey (t.getD 2 0) (t.getD 0 0)]
def keysE (ts : List (List Int)) : List (Int × Int) := ts.flatMap triE
/-- The edges of the first k triangles and of j sides of the next. -/
def preE (ts : List (List Int)) (k j : Nat) : List (Int × Int) := (ts.take k).flatMap triE ++ (triE (ts.getD k [])).take j
theorem preE_zero (ts : List (List Int)) : preE ts 0 0 = [] := by simp [preE]
theorem preE_end (ts : List (List Int)) : preE ts ts.length 0 = keysE ts := by simp [preE, keysE]
theorem preE_next {ts : List (List Int)} {k : Nat} (hk : k < ts.length) : preE ts k 3 = preE ts (k + 1) 0 := by
  have e : ts.take (k + 1) = ts.take k ++ [ts.getD k []] := by
    rw [List.take_add_one, List.getElem?_eq_getElem hk]
    simp [List.getD, List.getElem?_eq_getElem hk]
  unfold preE
  rw [e, List.flatMap_append, List.flatMap_cons, List.flatMap_nil, List.append_nil, List.take_zero, List.append_nil]
  rfl
theorem preE_step {ts : List (List Int)} {k j : Nat} (hj : j < 3) : preE ts k (j + 1) = preE ts k j ++ [(triE (ts.getD k [])).getD j (0, 0)] := by
  match j, hj with
  | 0, _ => simp [preE, triE]
  | 1, _ => simp [preE, triE]
  | 2, _ => simp [preE, triE]
/-- A table of flags, a row for each lesser place. -/
def SeenT (w : World) (b n : Nat) (L : List (Int × Int)) : Prop :=
  (∀ x y, x < n → y < n → w.cell? ⟨b, x * n + y, none⟩ = some (.bool (decide (((x : Int), (y : Int)) ∈ L)))) ∧ (∀ i, w.frozen? ⟨b, i, none⟩ = false) ∧ b < w.heap.size
theorem flat_lt {x y n : Nat} (hx : x < n) (hy : y < n) : x * n + y < n * n := by
  have : (x + 1) * n ≤ n * n := Nat.mul_le_mul_right n hx
  rw [Nat.succ_mul] at this
  omega
theorem flat_inj {x y p q n : Nat} (hy : y < n) (hq : q < n) (h : x * n + y = p * n + q) : x = p ∧ y = q := by
  have h1 : (x * n + y) / n = x := by rw [Nat.mul_comm, Nat.mul_add_div (by omega), Nat.div_eq_of_lt hy]; omega
  have h2 : (p * n + q) / n = p := by rw [Nat.mul_comm, Nat.mul_add_div (by omega), Nat.div_eq_of_lt hq]; omega
  have : x = p := by rw [← h1, ← h2, h]
  subst this
  exact ⟨rfl, by omega⟩
theorem SeenT.set {w : World} {b n p q : Nat} {L : List (Int × Int)} (h : SeenT w b n L) (hp : p < n) (hq : q < n) : SeenT (w.setCell ⟨b, p * n + q, none⟩ (.bool true)) b n (L ++ [((p : Int), (q : Int))]) := by
  refine ⟨fun x y hx hy => ?_, fun i => by simpa using h.2.1 i, by simpa using h.2.2⟩
  by_cases e : x * n + y = p * n + q
  · obtain ⟨rfl, rfl⟩ := flat_inj hy hq e
    rw [World.cell?_setCell_same _ _ _ (h.1 x y hx hy)]
    simp
  · rw [World.cell?_setCell_other _ _ _ _ (by first | (simp; done) | (simp; exact fun e' => e e'.symm)), h.1 x y hx hy]
    have hne : ¬ (((x : Int), (y : Int)) = ((p : Int), (q : Int))) := fun e' => by
      rw [Prod.mk.injEq] at e'
      obtain ⟨e1, e2⟩ := e'
      exact e (by rw [Int.ofNat.inj e1, Int.ofNat.inj e2])
    simp only [List.mem_append, List.mem_singleton, hne, or_false]
theorem SeenT.below {w w' : World} {b n : Nat} {L : List (Int × Int)} (h : SeenT w b n L) (hB : Below w.heap.size w w') : SeenT w' b n L :=
  ⟨fun x y hx hy => cell_below hB (h.1 x y hx hy), fun i => by rw [hB.frozen (p := ⟨b, i, none⟩) h.2.2]; exact h.2.1 i, Nat.lt_of_lt_of_le h.2.2 hB.size⟩
/-- The edges from x to places less than b, as rows. -/
def rowE (L : List (Int × Int)) (b x : Nat) : List (List Int) := ((List.range b).filter fun y : Nat => decide (x < y) && decide (((x : Int), (y : Int)) ∈ L)).map fun y : Nat => [(x : Int), (y : Int)]
def rowsE (L : List (Int × Int)) (n a : Nat) : List (List Int) := (List.range a).flatMap (rowE L n)
/-- All edges in ascending order, as rows. -/
def edgesT (n : Nat) (ts : List (List Int)) : List (List Int) := rowsE (keysE ts) n n
theorem rowE_start (L : List (Int × Int)) (a : Nat) : rowE L (a + 1) a = [] := by
  unfold rowE
  have : ((List.range (a + 1)).filter fun y : Nat => decide (a < y) && decide (((a : Int), (y : Int)) ∈ L)) = [] := by
    rw [List.filter_eq_nil_iff]
    intro y hy
    have := List.mem_range.1 hy
    simp; intro h; omega
  rw [this]; rfl
theorem rowE_yes {L : List (Int × Int)} {a b : Nat} (hab : a < b) (h : decide (((a : Int), (b : Int)) ∈ L) = true) : rowE L (b + 1) a = rowE L b a ++ [[(a : Int), (b : Int)]] := by
  unfold rowE
  rw [List.range_succ, List.filter_append, List.map_append]
  have : decide (a < b) = true := decide_eq_true hab
  simp only [List.filter_cons, List.filter_nil, this, h, Bool.and_self, if_true, List.map_cons, List.map_nil]
theorem rowE_no {L : List (Int × Int)} {a b : Nat} (h : decide (((a : Int), (b : Int)) ∈ L) = false) : rowE L (b + 1) a = rowE L b a := by
  unfold rowE
  rw [List.range_succ, List.filter_append, List.map_append]
  first
    | (simp [h]; done)
    | (simp [h]; intro _; simpa using h)
theorem rowsE_next (L : List (Int × Int)) (n a : Nat) : rowsE L n (a + 1) = rowsE L n a ++ rowE L n a := by
  simp [rowsE, List.range_succ]
theorem rowE_len (L : List (Int × Int)) (b x : Nat) : (rowE L b x).length ≤ b := by
  unfold rowE
  rw [List.length_map]
  exact Nat.le_trans (List.length_filter_le _ _) (by simp)
theorem rowsE_len (L : List (Int × Int)) (n : Nat) : ∀ a, (rowsE L n a).length ≤ a * n
  | 0 => by simp [rowsE]
  | a + 1 => by
    rw [rowsE_next, List.length_append, Nat.succ_mul]
    exact Nat.add_le_add (rowsE_len L n a) (rowE_len L n a)
theorem rowE_two {L : List (Int × Int)} {b x : Nat} : ∀ r ∈ rowE L b x, r.length = 2 := fun r hr => by
  unfold rowE at hr
  obtain ⟨y, _, rfl⟩ := List.mem_map.1 hr
  rfl
theorem l00Min (x y : Int) (w : World) : Calls Try.prog 56 #[.int .i64 x, .int .i64 y] w fun e w' => e = .returned (.int .i64 (min x y)) ∧ w' = w := by
  by_cases h : x < y
  · have e : min x y = x := by omega
    rw [e]
    clear e
    go_enter Try.func56, Try.ntmps56
    go_wp2
    go_ret
    exact ⟨rfl, rfl⟩
  · have e : min x y = y := by omega
    rw [e]
    clear e
    go_enter Try.func56, Try.ntmps56
    go_wp2
    go_ret
    exact ⟨rfl, rfl⟩
theorem l00Max (x y : Int) (w : World) : Calls Try.prog 55 #[.int .i64 x, .int .i64 y] w fun e w' => e = .returned (.int .i64 (max x y)) ∧ w' = w := by
  by_cases h : y < x
  · have e : max x y = x := by omega
    rw [e]
    clear e
    go_enter Try.func55, Try.ntmps55
    go_wp2
    go_ret
    exact ⟨rfl, rfl⟩
  · have e : max x y = y := by omega
    rw [e]
    clear e
    go_enter Try.func55, Try.ntmps55
    go_wp2
    go_ret
    exact ⟨rfl, rfl⟩
theorem infoBool : (Try.prog.info? 4).map (fun i => (i.zero, i.size, i.bytes)) = some (some (.bool false), 1, 1) := by kernel_rfl
end Go.Proofs.Ytockhhfehjoldaa


/-
The triangles that have two places: what the model gathers. Conditions: each triangle has three places.
-/
namespace Go.Proofs.Ytockhhfehjoldaa
open Go Fk Go.RowKit
set_option linter.unusedVariables false
set_option maxRecDepth 8000

def hasB (t : List Int) (p : Int) : Bool := decide (t.getD 0 0 = p) || (decide (t.getD 1 0 = p) || decide (t.getD 2 0 = p))
set_option maxHeartbeats 400000 in
theorem l02Has (r : Option Addr) (q : Nat) (t : List Int) (p : Int) (w : World) (h : IsIs w r 3 q t) :
    Calls Try.prog 69 #[.slice r 3 q, .int .i64 p] w fun e w' => e = .returned (.bool (hasB t p)) ∧ w' = w := by
  obtain ⟨b, o, rfl, hz⟩ := h.some (by decide)
  have z0 := hz 0 (by decide)
  have z1 := hz 1 (by decide)
  have z2 := hz 2 (by decide)
  rw [Nat.add_zero] at z0
  unfold hasB
  clear hz h
  generalize t.getD 0 0 = j0 at *
  generalize t.getD 1 0 = j1 at *
  generalize t.getD 2 0 = j2 at *
  by_cases h0 : j0 = p
  · subst h0
    go_enter Try.func69, Try.ntmps69
    go_wp2
    go_ret
    simp
  · by_cases h1 : j1 = p
    · subst h1
      go_enter Try.func69, Try.ntmps69
      go_wp2
      go_ret
      simp
    · by_cases h2 : j2 = p
      · subst h2
        go_enter Try.func69, Try.ntmps69
        go_wp2
        go_ret
        simp
      · go_enter Try.func69, Try.ntmps69
        go_wp2
        go_ret
        simp [h0, h1, h2]
/-- The indices below k of the triangles with two places. -/
def atL (ts : List (List Int)) (p q : Int) : Nat → List Int
  | 0 => []
  | k + 1 => atL ts p q k ++ (bif hasB (ts.getD k []) p && hasB (ts.getD k []) q then [(k : Int)] else [])
theorem atL_len (ts : List (List Int)) (p q : Int) (k : Nat) : (atL ts p q k).length ≤ k := by
  induction k with
  | zero => simp [atL]
  | succ k ih => unfold atL; rw [List.length_append]; cases (hasB (ts.getD k []) p && hasB (ts.getD k []) q) <;> simp <;> omega
end Go.Proofs.Ytockhhfehjoldaa


/-
The triangles that have two places: what the model gathers, in a list of its own. Conditions: each triangle has three places.
-/
namespace Go.Proofs.Ytockhhfehjoldaa
open Go Fk Go.RowKit
set_option linter.unusedVariables false
set_option maxRecDepth 8000

theorem atL_yes {ts : List (List Int)} {p q : Int} {k : Nat} (h1 : hasB (ts.getD k []) p = true) (h2 : hasB (ts.getD k []) q = true) : atL ts p q (k + 1) = atL ts p q k ++ [(k : Int)] := by
  show atL ts p q k ++ _ = _; rw [h1, h2]; rfl
theorem atL_no {ts : List (List Int)} {p q : Int} {k : Nat} (h : (hasB (ts.getD k []) p && hasB (ts.getD k []) q) = false) : atL ts p q (k + 1) = atL ts p q k := by
  show atL ts p q k ++ _ = _; rw [h]; simp
theorem grown_below {W w w' : World} {base : Nat} {e : TypeId} {size : Nat} {v : Value} {n : Nat} {xs : List Value} (hB : Below W.heap.size W w) (hown : w.ownsRow W.heap.size e size v n xs) (hg : w.grownBy w' v.ownBlock) : Below W.heap.size W w' :=
  hB.grown hg hB.size (fun k hk => (hown.lt k hk).1)
set_option maxHeartbeats 1000000 in
theorem l02At (pb : Nat) (pl pc tl tc : Nat) (pa ta : Option Addr) (ts : List (List Int)) (p q : Int) (w : World) (c0' : w.cell? ⟨pb, 0, none⟩ = some (.slice pa pl pc)) (c1' : w.cell? ⟨pb, 1, none⟩ = some (.slice ta tl tc)) (ht : IsTs w ta tl tc ts) (h3 : ∀ k, k < tl → (ts.getD k []).length = 3) (hlen : tl ≤ 128) :
    Calls Try.prog 39 #[.pointer (some ⟨pb, 0, none⟩), .int .i64 p, .int .i64 q] w fun e w' => ∃ v, e = .returned v ∧ w'.ownsRow w.heap.size 2 1 v (atL ts p q tl).length ((atL ts p q tl).map (Value.int .i64)) ∧ Below w.heap.size w w' := by
  have ui := Try.underlying31
  obtain ⟨i0, hi, hz0, hz1, hz2⟩ := info_parts info64
  have C1 := Lib.hid c1'
  have C0 := Lib.hid c0'
  have HT := Lib.hid ht
  have H3 := Lib.hid h3
  clear ht h3 c0' c1'
  go_enter Try.func39, Try.ntmps39
  go_wp2
  go_loopw [7, 8] (fun v i w' => ∃ k : Nat, k ≤ tl ∧ i = .int .i64 k ∧ Aside (w'.ownsRow w.heap.size 2 1 v (atL ts p q k).length ((atL ts p q k).map (Value.int .i64)) ∧ Below w.heap.size w w')) (fun _ i _ => tl - (intOf i).toNat)
  case atStart => exact ⟨0, Nat.zero_le _, rfl, by simpa [atL] using World.ownsRow_lit (e := 2) (size := 1) w #[] 0 (Nat.le_refl _) (by decide) rfl, (Below.refl _ _).alloc (Nat.le_refl _) _⟩
  case round =>
    skip
    obtain ⟨k, hk, hik, hA⟩ := hrel
    subst hik
    obtain ⟨hown, hB⟩ := hA.out
    have kb1 := cell_below hB C1.out
    have HB := Lib.hid hB
    have HOWN := Lib.hid hown
    by_cases hlt : k < tl
    · have h' := HT.out.below hB
      obtain ⟨bt, ot, rfl, hrow⟩ := h'.some (by omega)
      obtain ⟨r1, n1, q1, cr, ir⟩ := hrow k hlt
      have hn1 : n1 = 3 := ir.1.symm.trans (H3.out k hlt)
      subst hn1
      have hk0 : (0 : Int) ≤ (k : Int) := by omega
      have hk1 : (k : Int) < (tl : Int) := by omega
      have hal := atL_len ts p q k
      have HIR := Lib.hid ir
      have hJ := fun p w' (h : IsIs w' r1 3 q1 (ts.getD k [])) => l02Has r1 q1 (ts.getD k []) p w' h
      have HL := Lib.hid (@atL_yes ts p q k)
      have HLn := Lib.hid (@atL_no ts p q k)
      have hbz := Lib.hid hB.size
      clear hA hB hown hrow h' ir
      cases hp : hasB (ts.getD k []) p
      · have hn := HLn.out (by rw [hp]; rfl)
        have HN := Lib.hid hn
        clear hn
        go_wp2_with (go_at_call 69; refine (hJ _ _ HIR.out).mono ?_; rintro e w1 ⟨rfl, hw1⟩; rw [hw1]; rw [hp])
        go_roundw
        case rel => exact ⟨k + 1, by omega, by go_num, by rw [HN.out]; exact HOWN.out, HB.out⟩
        case measure => simp [intOf]; omega
      · cases hq : hasB (ts.getD k []) q
        · have hn := HLn.out (by rw [hp, hq]; rfl)
          have HN := Lib.hid hn
          clear hn
          go_wp2_with (go_at_call 69; refine (hJ _ _ HIR.out).mono ?_; rintro e w1 ⟨rfl, hw1⟩; rw [hw1]; first | rw [hp] | rw [hq])
          go_roundw
          case rel => exact ⟨k + 1, by omega, by go_num, by rw [HN.out]; exact HOWN.out, HB.out⟩
          case measure => simp [intOf]; omega
        · have hn := HL.out hp hq
          have HN := Lib.hid hn
          clear hn
          go_wp2_with (first
            | (go_at_call 69; refine (hJ _ _ HIR.out).mono ?_; rintro e w1 ⟨rfl, hw1⟩; rw [hw1]; first | rw [hp] | rw [hq])
            | (at_builtin; refine wpList_append_own _ rfl _ _ 38 rfl w.heap.size 2 i0 (.int .i64 0) 1 8 Try.underlying38 hi hz0 hz1 hz2 rfl (by decide) _ _ _ rfl (HOWN.out.alloc _) ⟨wr.heap.size, 0, none⟩ 1 1 [.int .i64 (k : Int)] rfl rfl ?c1 ?c2 ?c3 ?c4 ?c5 ?_))
          case c1 =>
            intro j u hj
            match j, hj with
            | 0, hj => simp at hj; subst hj; simp [Addr.add]
          case c2 => intro u hu; simp at hu; subst hu; rfl
          case c3 => unfold maxLen; omega
          case c4 => omega
          case c5 => have := hbz.out; simp; omega
          · intro v' w1 hown' hgrow _
            have hB1 : Below w.heap.size w (wr.alloc (.cells #[.int .i64 (k : Int)] 2)) := HB.out.alloc hbz.out _
            have HB1 := Lib.hid (hB1.grown hgrow hB1.size (fun k hk => (HOWN.out.lt k hk).1))
            have HO1 := Lib.hid hown'
            clear hown' hgrow hB1
            go_wp2
            go_roundw
            case rel => exact ⟨k + 1, by omega, by go_num, by rw [HN.out]; simpa using HO1.out, HB1.out⟩
            case measure => simp [intOf]; omega
    · obtain rfl : k = tl := by omega
      clear hA hB hown
      go_wp2
      go_ret
      exact ⟨_, rfl, HOWN.out, HB.out⟩
end Go.Proofs.Ytockhhfehjoldaa

/-
Texts in one: what StfS stands on, part 4. Conditions: those of each.
-/
import Derived.Test.YtabccmobmppdnaaGreatKStfS3
import Derived.RangeFuncBound
import Derived.Sort.OwnSorted
import Derived.WalkKit
import Derived.Maps.OwnOps
import Derived.Maps.OwnSet
import Derived.DeepKeys4
import Derived.Lib.Hide
import Derived.Lib.SliceRun
import Derived.Handy
-- halved
namespace Go.Proofs.YtabccmobmppdnaaGreat
open Go Fk Go.RowKit Go.Maps Go.Sort Go.Shelf Go.Lib
set_option linter.unusedVariables false
set_option maxRecDepth 100000
theorem flatE_cons (x : Int × Int) (ss : List (Int × Int)) : flatE (x :: ss) = .int .i64 x.1 :: .int .i64 x.2 :: flatE ss := by simp [flatE]
theorem flatE_len (ss : List (Int × Int)) : (flatE ss).length = ss.length * 2 := by
 induction ss with
 | nil => rfl
 | cons x ss ih => rw [flatE_cons]; simp [ih]; omega
theorem flatE_get : ∀ (ss : List (Int × Int)) (t : Nat), t < ss.length * 2 → (flatE ss)[t]? = some ((cellsE (ss.toArray[t / 2]!))[t % 2]!)
 | [], t, h => by simp at h
 | x :: ss, 0, h => by rw [flatE_cons]; simp [cellsE]
 | x :: ss, 1, h => by rw [flatE_cons]; simp [cellsE]
 | x :: ss, t + 2, h => by
  rw [flatE_cons, List.getElem?_cons_succ, List.getElem?_cons_succ, flatE_get ss t (by simp at h; omega)]
  have h1 : (t + 2) / 2 = t / 2 + 1 := by omega
  have h2 : (t + 2) % 2 = t % 2 := by omega
  rw [h1, h2]
  have h3 : t / 2 < ss.length := by simp at h; omega
  simp [h3]
theorem flatK_E (ss : List (Int × Int)) (t : Nat) (h : t < ss.length * 2) : (flatE ss)[t]? = some (flatK cellsE 2 ss.toArray)[t]! := by
 rw [get_flatK _ _ _ _ (by simpa using h)]
 exact flatE_get ss t h
theorem holds_edges {w : World} {g : Nat} {cur : Array Value} {e : TypeId} {ss : List (Int × Int)} (hb : w.heap[g]? = some (.cells cur e (0, 0))) (ht : cur.toList.take (ss.length * 2) = flatE ss) : HoldsK cellsE 2 w g 0 ss.toArray := by
 intro j hj
 have hj' : j < ss.length * 2 := by simpa using hj
 refine ⟨?_, by simp [World.frozen?, hb]⟩
 have h1 : (cur.toList.take (ss.length * 2))[j]? = (flatE ss)[j]? := by rw [ht]
 rw [List.getElem?_take_of_lt hj', flatK_E ss j hj'] at h1
 simp only [World.cell?, hb, Nat.zero_add]
 simp only [Option.isSome_none, Bool.false_eq_true, if_false]
 rw [← Array.getElem?_toList, h1]
 rfl
theorem heap_sortedK {w : World} {g n : Nat} {os : Array Obj} {cur : Array Value} {e : TypeId} {fr : Nat × Nat} (d : Array (Int × Int)) (hb : w.heap[g]? = some (.cells cur e fr)) :
  (sortWorldK cellsE 2 w g 0 n d os).heap[g]? = some (.cells (putCells id 0 (flatK cellsE 2 d) cur) e fr) := by
 have hg : g < w.heap.size := (Array.getElem?_eq_some_iff.1 hb).1
 unfold sortWorldK putRowK
 rw [heap_grow_old _ _ (by simpa using hg)]
 simp [putRow, mapBlock, Sort.ahead, Array.getElem?_modify, hb, onCells]
theorem grownBy_sortedK {w : World} {g n : Nat} {os : Array Obj} (d : Array (Int × Int)) : w.grownBy (sortWorldK cellsE 2 w g 0 n d os) (some g) := by
 unfold sortWorldK putRowK
 refine ⟨rfl, rfl, rfl, by simp, fun k hk hne => ?_⟩
 rw [heap_grow_old _ _ (by simpa using hk)]
 have : g ≠ k := fun e => hne (by rw [e])
 simp [putRow, mapBlock, Sort.ahead, Array.getElem?_modify, this]
theorem take_putK (cur : Array Value) (ts : List (Int × Int)) (h : ts.length * 2 ≤ cur.size) : (putCells id 0 (flatK cellsE 2 ts.toArray) cur).toList.take (ts.length * 2) = flatE ts := by
 apply List.ext_getElem?
 intro j
 by_cases hj : j < ts.length * 2
 ·rw [List.getElem?_take_of_lt hj, Array.getElem?_toList, flatK_E ts j hj]
  simp [putCells, hj, show j < cur.size by omega]
 ·rw [List.getElem?_take_eq_none (by omega), List.getElem?_eq_none (by rw [flatE_len]; omega)]
theorem ownsRow_sortedK {w : World} {base g cap n : Nat} {e : TypeId} {os : Array Obj} {cur : Array Value} {ss ts : List (Int × Int)} (hl : ts.length = ss.length) (hbase : base ≤ g) (hb : w.heap[g]? = some (.cells cur e (0, 0)))
  (h1 : ss.length ≤ cap) (h2 : cap ≤ maxLen) (h3 : cur.size = cap * 2) :
  (sortWorldK cellsE 2 w g 0 n ts.toArray os).ownsRow base e 2 (.slice (some ⟨g, 0, none⟩) ss.length cap) ss.length (flatE ts) :=
 ⟨by rw [flatE_len, hl], .inr ⟨g, cap, _, rfl, hbase, heap_sortedK _ hb, h1, h2, by simp [putCells, h3], by rw [← hl]; exact take_putK cur ts (by omega)⟩⟩
def sortE (ss : List (Int × Int)) : List (Int × Int) := ss.mergeSort fun x y => !(ltOf cfE) y x
set_option maxHeartbeats 2000000 in
theorem sortedFuncE (n : Nat) (hn : 4 ≤ n) (g : Nat) (lb : Array Value) (eg : ∀ args w, (callFunc g args).run Tryz.prog w = .ok (.enter g args) w)
  (S : List (Int × Int) → Prop) (N : Nat) (hN : N ≤ maxLen) (hNb : N * 16 ≤ 140737488355328) (w : World) (hseq : SeqGives Fence.wide (n - 1 - 1 - 1) Tryz.prog g lb encE S N w) :
  CallsIn Fence.wide n Tryz.prog 198 #[.func (.func g) #[] lb, .func (.func 200) #[] #[]] w fun e w' => ∃ (v : Value) (ss : List (Int × Int)), e = .returned v ∧ S ss ∧
   w'.ownsRow w.heap.size 234 2 v ss.length (flatE (sortE ss)) ∧ (v = .slice none 0 0 ↔ ss = []) ∧ Below w.heap.size w w' := by
 have h1 : 1 ≤ n := by omega
 have h8 : Fence.wide.fn 206 := trivial
 have h9 : Fence.wide.fn 207 := trivial
 have e8 : ∀ args w, (callFunc 206 args).run Tryz.prog w = .ok (.enter 206 args) w := enters_of Tryz.func206 (by kernel_rfl) rfl
 have e9 : ∀ args w, (callFunc 207 args).run Tryz.prog w = .ok (.enter 207 args) w := enters_of Tryz.func207 (by kernel_rfl) rfl
 refine callsIn_of_wp Tryz.func198 rfl trivial ?_ rfl
 simp only [Tryz.ntmps198, List.size_toArray, List.length_cons, List.length_nil, Nat.reduceAdd, Nat.reduceSub, Array.replicate_succ, Array.replicate_zero, List.push_toArray, List.append_toArray, List.nil_append, List.cons_append]
 gi_wp2_with (gi_at_fn 206; refine (collect_in (n - 1) (by omega) g lb eg _ N hN hNb _ hseq.bounded).mono ?_; rintro e W ⟨v, ss, rfl, ⟨hS, hlen⟩, hrow, hnil, hb⟩)
 rcases hrow.2 with ⟨rfl, hz⟩ | ⟨gb, cap, cur, rfl, hbase, hgb, r1, r2, r3, r4⟩
 ·have hss : ss = [] := List.eq_nil_of_length_eq_zero hz
  subst hss
  gi_wp2_with (gi_at_fn 207; refine (callsIn_wide.2 (sort_none none 0 _ W)).mono ?_; rintro e w' ⟨rfl, rfl⟩)
  go_ret
  exact ⟨.slice none 0 0, [], rfl, hS, by simpa [sortE] using hrow, by simp, hb⟩
 ·have hH : HoldsK cellsE 2 W gb 0 ss.toArray := holds_edges hgb (by simpa using r4)
  have hgl : gb < W.heap.size := (Array.getElem?_eq_some_iff.1 hgb).1
  have hsz : ss.length < 4611686018427387904 := by omega
  have cS := sort_edges gb 0 cap ss.toArray W hH hgl (by simpa using hsz)
  simp only [List.size_toArray] at cS
  gi_wp2_with (gi_at_fn 207; refine (callsIn_wide.2 cS).mono ?_; rintro e w' ⟨rfl, nn, os, rfl⟩)
  go_ret
  exact ⟨_, ss, rfl, hS, ownsRow_sortedK (by simp) hbase hgb r1 r2 r3, hnil, hb.grown (grownBy_sortedK _) hb.size (fun j hj => by cases hj; exact hbase)⟩
set_option maxHeartbeats 1000000 in
theorem impl_sortedEdges (b nn : Nat) (D0 : DataW Unit) (R : Value → Option (DataW Unit × List MemPlace)) (w : World) (hown : w.ownsMap Tryz.prog 234 R b nn D0) (hmax : Maps.size D0 ≤ maxLen) (hbytes : Maps.size D0 * 16 ≤ 140737488355328) :
  Calls Tryz.prog 183 #[.map (some b)] w fun e w' => ∃ (v : Value) (ss : List (Int × Int)), e = .returned v ∧ KeysE D0 ss ∧
   w'.ownsRow w.heap.size 234 2 v ss.length (flatE (sortE ss)) ∧ (v = .slice none 0 0 ↔ ss = []) ∧ Below w.heap.size w w' := by
 refine (callsIn_wide (n := 6)).1 ?_
 have hbl := hown.lt
 have hseq := keysE_gives 2 (by omega) w.heap.size b nn D0 (R := R) (w.alloc (.cells #[.map (some b)] 229)) (by simp) (by simp) (by
   obtain ⟨es, clock, hb, Ft, hs, hD⟩ := hown
   exact ⟨es, clock, (Below.heap_alloc _ _ b hbl).trans hb, Ft, hs, hD⟩)
 have cK := fun mb W => maps_KeysE 5 mb W
 have cS := sortedFuncE 5 (by omega) 208 #[.pointer (some ⟨w.heap.size, 0, none⟩)] (enters_of Tryz.func208 (by kernel_rfl) rfl) _ _ hmax hbytes _ hseq
 have hfK : Fence.wide.fn 199 := trivial
 have hfS : Fence.wide.fn 198 := trivial
 refine callsIn_of_wp Tryz.func183 rfl trivial ?_ rfl
 simp only [Tryz.ntmps183, List.size_toArray, List.length_cons, List.length_nil, Nat.reduceAdd, Nat.reduceSub, Array.replicate_succ, Array.replicate_zero, List.push_toArray, List.append_toArray, List.nil_append, List.cons_append]
 gi_wp2_with (first
  | (gi_at_call 199; refine (cK _ _).mono ?_; rintro e w' ⟨rfl, rfl⟩)
  | (gi_at_call 198; refine cS.mono ?_; rintro e w' ⟨v, ss, rfl, hS, hrow, hnil, hb⟩))
 go_ret
 exact ⟨v, ss, rfl, hS, ownsRow_base_a hrow (by simp), hnil, ((Below.refl _ w).alloc (Nat.le_refl _) _).trans (hb.mono (by simp))⟩
end Go.Proofs.YtabccmobmppdnaaGreat
namespace Go.Proofs.YtabccmobmppdnaaGreat
open Go Fk Go.RowKit
set_option linter.unusedVariables false
set_option maxRecDepth 8000
def eKey (a b : Int) : Int × Int := (min a b, max a b)
def triE (t : List Int) : List (Int × Int) := [eKey (t.getD 0 0) (t.getD 1 0), eKey (t.getD 1 0) (t.getD 2 0), eKey (t.getD 2 0) (t.getD 0 0)]
def keysE (ts : List (List Int)) : List (Int × Int) := ts.flatMap triE
def preE (ts : List (List Int)) (k j : Nat) : List (Int × Int) := (ts.take k).flatMap triE ++ (triE (ts.getD k [])).take j
theorem preE_zero (ts : List (List Int)) : preE ts 0 0 = [] := by simp [preE]
theorem preE_end (ts : List (List Int)) : preE ts ts.length 0 = keysE ts := by simp [preE, keysE]
theorem preE_next {ts : List (List Int)} {k : Nat} (hk : k < ts.length) : preE ts k 3 = preE ts (k + 1) 0 := by
 have e : ts.take (k + 1) = ts.take k ++ [ts.getD k []] := by
  rw [List.take_add_one, List.getElem?_eq_getElem hk]
  simp [List.getD, List.getElem?_eq_getElem hk]
 unfold preE
 rw [e, List.flatMap_append, List.flatMap_cons, List.flatMap_nil, List.append_nil, List.take_zero, List.append_nil]
 rfl
theorem preE_step {ts : List (List Int)} {k j : Nat} (hj : j < 3) : preE ts k (j + 1) = preE ts k j ++ [(triE (ts.getD k [])).getD j (0, 0)] := by
 match j, hj with
 | 0, _ => simp [preE, triE]
 | 1, _ => simp [preE, triE]
 | 2, _ => simp [preE, triE]
def SeenT (w : World) (b n : Nat) (L : List (Int × Int)) : Prop :=
 (∀ x y, x < n → y < n → w.cell? ⟨b, x * n + y, none⟩ = some (.bool (decide (((x : Int), (y : Int)) ∈ L)))) ∧ (∀ i, w.frozen? ⟨b, i, none⟩ = false) ∧ b < w.heap.size
theorem flat_lt {x y n : Nat} (hx : x < n) (hy : y < n) : x * n + y < n * n := by
 have : (x + 1) * n ≤ n * n := Nat.mul_le_mul_right n hx
 rw [Nat.succ_mul] at this
 omega
theorem flat_inj {x y p q n : Nat} (hy : y < n) (hq : q < n) (h : x * n + y = p * n + q) : x = p ∧ y = q := by
 have h1 : (x * n + y) / n = x := by rw [Nat.mul_comm, Nat.mul_add_div (by omega), Nat.div_eq_of_lt hy]; omega
 have h2 : (p * n + q) / n = p := by rw [Nat.mul_comm, Nat.mul_add_div (by omega), Nat.div_eq_of_lt hq]; omega
 have : x = p := by rw [← h1, ← h2, h]
 subst this
 exact ⟨rfl, by omega⟩
theorem SeenT.set {w : World} {b n p q : Nat} {L : List (Int × Int)} (h : SeenT w b n L) (hp : p < n) (hq : q < n) : SeenT (w.setCell ⟨b, p * n + q, none⟩ (.bool true)) b n (L ++ [((p : Int), (q : Int))]) := by
 refine ⟨fun x y hx hy => ?_, fun i => by simpa using h.2.1 i, by simpa using h.2.2⟩
 by_cases e : x * n + y = p * n + q
 ·obtain ⟨rfl, rfl⟩ := flat_inj hy hq e
  rw [World.cell?_setCell_same _ _ _ (h.1 x y hx hy)]
  simp
 ·rw [World.cell?_setCell_other _ _ _ _ (by first | (simp; done) | (simp; exact fun e' => e e'.symm)), h.1 x y hx hy]
  have hne : ¬ (((x : Int), (y : Int)) = ((p : Int), (q : Int))) := fun e' => by
   rw [Prod.mk.injEq] at e'
   obtain ⟨e1, e2⟩ := e'
   exact e (by rw [Int.ofNat.inj e1, Int.ofNat.inj e2])
  simp only [List.mem_append, List.mem_singleton, hne, or_false]
theorem SeenT.below {w w' : World} {b n : Nat} {L : List (Int × Int)} (h : SeenT w b n L) (hB : Below w.heap.size w w') : SeenT w' b n L :=
 ⟨fun x y hx hy => cell_below hB (h.1 x y hx hy), fun i => by rw [hB.frozen (p := ⟨b, i, none⟩) h.2.2]; exact h.2.1 i, Nat.lt_of_lt_of_le h.2.2 hB.size⟩
def rowE (L : List (Int × Int)) (b x : Nat) : List (List Int) := ((List.range b).filter fun y : Nat => decide (x < y) && decide (((x : Int), (y : Int)) ∈ L)).map fun y : Nat => [(x : Int), (y : Int)]
def rowsE (L : List (Int × Int)) (n a : Nat) : List (List Int) := (List.range a).flatMap (rowE L n)
def edgesT (n : Nat) (ts : List (List Int)) : List (List Int) := rowsE (keysE ts) n n
theorem rowE_start (L : List (Int × Int)) (a : Nat) : rowE L (a + 1) a = [] := by
 unfold rowE
 have : ((List.range (a + 1)).filter fun y : Nat => decide (a < y) && decide (((a : Int), (y : Int)) ∈ L)) = [] := by
  rw [List.filter_eq_nil_iff]
  intro y hy
  have := List.mem_range.1 hy
  simp; intro h; omega
 rw [this]; rfl
theorem rowE_yes {L : List (Int × Int)} {a b : Nat} (hab : a < b) (h : decide (((a : Int), (b : Int)) ∈ L) = true) : rowE L (b + 1) a = rowE L b a ++ [[(a : Int), (b : Int)]] := by
 unfold rowE
 rw [List.range_succ, List.filter_append, List.map_append]
 have : decide (a < b) = true := decide_eq_true hab
 simp only [List.filter_cons, List.filter_nil, this, h, Bool.and_self, if_true, List.map_cons, List.map_nil]
theorem rowE_no {L : List (Int × Int)} {a b : Nat} (h : decide (((a : Int), (b : Int)) ∈ L) = false) : rowE L (b + 1) a = rowE L b a := by
 unfold rowE
 rw [List.range_succ, List.filter_append, List.map_append]
 first
  | (simp [h]; done)
  | (simp [h]; intro _; simpa using h)
theorem rowsE_next (L : List (Int × Int)) (n a : Nat) : rowsE L n (a + 1) = rowsE L n a ++ rowE L n a := by
 simp [rowsE, List.range_succ]
theorem rowE_len (L : List (Int × Int)) (b x : Nat) : (rowE L b x).length ≤ b := by
 unfold rowE
 rw [List.length_map]
 exact Nat.le_trans (List.length_filter_le _ _) (by simp)
theorem rowsE_len (L : List (Int × Int)) (n : Nat) : ∀ a, (rowsE L n a).length ≤ a * n
 | 0 => by simp [rowsE]
 | a + 1 => by
  rw [rowsE_next, List.length_append, Nat.succ_mul]
  exact Nat.add_le_add (rowsE_len L n a) (rowE_len L n a)
theorem l00Min (x y : Int) (w : World) : Calls Tryz.prog 201 #[.int .i64 x, .int .i64 y] w fun e w' => e = .returned (.int .i64 (min x y)) ∧ w' = w := by
 by_cases h : x < y
 ·have e : min x y = x := by omega
  rw [e]
  clear e
  go_enter Tryz.func201, Tryz.ntmps201
  go_wp2
  go_ret
  exact ⟨rfl, rfl⟩
 ·have e : min x y = y := by omega
  rw [e]
  clear e
  go_enter Tryz.func201, Tryz.ntmps201
  go_wp2
  go_ret
  exact ⟨rfl, rfl⟩
theorem l00Max (x y : Int) (w : World) : Calls Tryz.prog 202 #[.int .i64 x, .int .i64 y] w fun e w' => e = .returned (.int .i64 (max x y)) ∧ w' = w := by
 by_cases h : y < x
 ·have e : max x y = x := by omega
  rw [e]
  clear e
  go_enter Tryz.func202, Tryz.ntmps202
  go_wp2
  go_ret
  exact ⟨rfl, rfl⟩
 ·have e : max x y = y := by omega
  rw [e]
  clear e
  go_enter Tryz.func202, Tryz.ntmps202
  go_wp2
  go_ret
  exact ⟨rfl, rfl⟩
theorem infoBool : (Tryz.prog.info? 4).map (fun i => (i.zero, i.size, i.bytes)) = some (some (.bool false), 1, 1) := by kernel_rfl
end Go.Proofs.YtabccmobmppdnaaGreat
namespace Go.Proofs.YtabccmobmppdnaaGreat
open Go Fk Go.RowKit
set_option linter.unusedVariables false
set_option maxRecDepth 8000
def hasB (t : List Int) (p : Int) : Bool := decide (t.getD 0 0 = p) || (decide (t.getD 1 0 = p) || decide (t.getD 2 0 = p))
def atL (ts : List (List Int)) (p q : Int) : Nat → List Int
 | 0 => []
 | k + 1 => atL ts p q k ++ (bif hasB (ts.getD k []) p && hasB (ts.getD k []) q then [(k : Int)] else [])
theorem atL_len (ts : List (List Int)) (p q : Int) (k : Nat) : (atL ts p q k).length ≤ k := by
 induction k with
 | zero => simp [atL]
 | succ k ih => unfold atL; rw [List.length_append]; cases (hasB (ts.getD k []) p && hasB (ts.getD k []) q) <;> simp <;> omega
end Go.Proofs.YtabccmobmppdnaaGreat
namespace Go.Proofs.YtabccmobmppdnaaGreat
open Go Fk Go.RowKit
set_option linter.unusedVariables false
set_option maxRecDepth 8000
end Go.Proofs.YtabccmobmppdnaaGreat
namespace Go.Proofs.YtabccmobmppdnaaGreat
open Go Fk Go.RowKit
set_option linter.unusedVariables false
set_option maxRecDepth 8000
structure Tri3 (n : Nat) (t : List Int) : Prop where
 d01 : t.getD 0 0 ≠ t.getD 1 0
 d12 : t.getD 1 0 ≠ t.getD 2 0
 d02 : t.getD 0 0 ≠ t.getD 2 0
 r0 : 0 ≤ t.getD 0 0 ∧ t.getD 0 0 < (n : Int)
 r1 : 0 ≤ t.getD 1 0 ∧ t.getD 1 0 < (n : Int)
 r2 : 0 ≤ t.getD 2 0 ∧ t.getD 2 0 < (n : Int)
theorem tri3_of {n : Nat} {t : List Int} (h : triB n t = true) : Tri3 n t := by
 have hp := (tri_partsh h).2
 unfold triB at h
 simp only [Bool.and_eq_true, decide_eq_true_eq] at h
 obtain ⟨_, ⟨h1, h2⟩, h3⟩ := h
 have k0 := hp 0 (by decide)
 have k1 := hp 1 (by decide)
 have k2 := hp 2 (by decide)
 exact ⟨h1, h2, h3, ⟨k0.1, by omega⟩, ⟨k1.1, by omega⟩, ⟨k2.1, by omega⟩⟩
theorem mem_rowsE {L : List (Int × Int)} {n m : Nat} {r : List Int} : r ∈ rowsE L n m ↔ ∃ a b : Nat, a < m ∧ b < n ∧ a < b ∧ ((a : Int), (b : Int)) ∈ L ∧ r = [(a : Int), (b : Int)] := by
 unfold rowsE rowE
 simp only [List.mem_flatMap, List.mem_range, List.mem_map, List.mem_filter, Bool.and_eq_true, decide_eq_true_eq]
 constructor
 ·rintro ⟨a, ha, b, ⟨hb, hab, hm⟩, rfl⟩
  exact ⟨a, b, ha, hb, hab, hm, rfl⟩
 ·rintro ⟨a, b, ha, hb, hab, hm, rfl⟩
  exact ⟨a, ha, b, ⟨hb, hab, hm⟩, rfl⟩
end Go.Proofs.YtabccmobmppdnaaGreat
namespace Go.Proofs.YtabccmobmppdnaaGreat
open Go Fk Go.RowKit Go.Maps
set_option linter.unusedVariables false
set_option maxRecDepth 8000
end Go.Proofs.YtabccmobmppdnaaGreat
namespace Go.Proofs.YtabccmobmppdnaaGreat
open Go Fk Go.RowKit
set_option linter.unusedVariables false
set_option maxRecDepth 8000
def IsCs (w : World) (b n : Nat) (ts : List (List Int)) : Prop := ∀ k, k < n → w.cell? ⟨b, k * 3, none⟩ = some (.int .i64 ((ts.getD k []).getD 0 0)) ∧ w.cell? ⟨b, k * 3 + 1, none⟩ = some (.int .i64 ((ts.getD k []).getD 1 0)) ∧ w.cell? ⟨b, k * 3 + 2, none⟩ = some (.int .i64 ((ts.getD k []).getD 2 0))
theorem IsCs.below {W w : World} {b n : Nat} {ts : List (List Int)} (hb : Below W.heap.size W w) (h : IsCs W b n ts) : IsCs w b n ts := fun k hk => ⟨cell_below hb (h k hk).1, cell_below hb (h k hk).2.1, cell_below hb (h k hk).2.2⟩
theorem infoC : (Tryz.prog.info? 190).map (fun i => (i.zero, i.size, i.bytes)) = some (some (.agg #[.int .i64 0, .int .i64 0, .int .i64 0]), 3, 24) := by kernel_rfl
end Go.Proofs.YtabccmobmppdnaaGreat
namespace Go.Proofs.YtabccmobmppdnaaGreat
open Go Fk Go.RowKit Go.Maps
set_option linter.unusedVariables false
set_option maxRecDepth 16000
theorem side_ix (a b c d e f : Int) (j : Nat) (hj : j < 3) : ∀ w, (Instr.index 242 (.agg #[.int .i64 a, .int .i64 b, .int .i64 c, .int .i64 d, .int .i64 e, .int .i64 f]) (.int .i64 (j : Int))).run Tryz.prog w = .ok (.agg #[.int .i64 ([a, c, e].getD j 0), .int .i64 ([b, d, f].getD j 0)]) w := by
 have u := Tryz.underlying241
 have ua := Tryz.underlying242
 intro w
 have : j = 0 ∨ j = 1 ∨ j = 2 := by omega
 rcases this with rfl | rfl | rfl
 all_goals
  first
   | rfl
   | (simp [Instr.index, u, ua, go_sem]; done)
theorem impl_sides (a b c : Int) (w : World) : Calls Tryz.prog 196 #[.agg #[.int .i64 a, .int .i64 b, .int .i64 c]] w fun e w' => e = .returned (.agg #[.int .i64 a, .int .i64 b, .int .i64 b, .int .i64 c, .int .i64 c, .int .i64 a]) ∧ Below w.heap.size w w' := by
 have uc := Tryz.underlying190
 have us := Tryz.underlying241
 have ua := Tryz.underlying242
 go_enter Tryz.func196, Tryz.ntmps196
 go_wp2
 refine bodyPost_ret (v := .agg #[.int .i64 a, .int .i64 b, .int .i64 b, .int .i64 c, .int .i64 c, .int .i64 a]) (by simp [results, Tryz.results196, go_sem]) rfl ?_
 exact ⟨rfl, ((Below.refl _ _).alloc (Nat.le_refl _) _).alloc (by simp) _⟩
end Go.Proofs.YtabccmobmppdnaaGreat
namespace Go.Proofs.YtabccmobmppdnaaGreat
open Go Fk Go.RowKit
set_option linter.unusedVariables false
set_option maxRecDepth 8000
structure Tb (w : World) (l lo lr : List Value) (w1 : World) : Prop where
 arg : At w1 w.heap.size l
 out : At w1 (w.heap.size + 1 + 1) lo
 res : At w1 (w.heap.size + 1) lr
 fo : ∀ i, w1.frozen? ⟨w.heap.size + 1 + 1, i, none⟩ = false
 fr : ∀ i, w1.frozen? ⟨w.heap.size + 1, i, none⟩ = false
 bel : Below w.heap.size w w1
 big : w.heap.size + 1 + 1 < w1.heap.size
theorem Tb.start {w : World} {l z : List Value} {t t' : TypeId} : Tb w l z z (((w.alloc (.cells l.toArray t)).alloc (.cells z.toArray t')).alloc (.cells z.toArray t')) := by
 refine ⟨At.new.alloc.alloc, ?_, ?_, fun i => by go_simp, fun i => by go_simp, (((Below.refl _ _).alloc (Nat.le_refl _) _).alloc (by simp) _).alloc (by simp <;> omega) _, by simp⟩
 ·have := At.new (w := (w.alloc (.cells l.toArray t)).alloc (.cells z.toArray t')) (vs := z) (t := t')
  simpa using this
 ·have := (At.new (w := w.alloc (.cells l.toArray t)) (vs := z) (t := t')).alloc (o := .cells z.toArray t')
  simpa using this
theorem Tb.call {w w1 w2 : World} {l lo lr : List Value} (h : Tb w l lo lr w1) (hB : Below w1.heap.size w1 w2) : Tb w l lo lr w2 :=
 have hb := h.big
 ⟨h.arg.below hB, h.out.below hB, h.res.below hB, fun i => by rw [hB.frozen (p := ⟨w.heap.size + 1 + 1, i, none⟩) hb]; exact h.fo i,
  fun i => by rw [hB.frozen (p := ⟨w.heap.size + 1, i, none⟩) (by show w.heap.size + 1 < _; omega)]; exact h.fr i, h.bel.trans (hB.mono h.bel.size), Nat.lt_of_lt_of_le hb hB.size⟩
theorem at_setL_far {w : World} {b g o : Nat} {l vs : List Value} (h : At w b l) (hne : g ≠ b) : At (setL w g o vs) b l := fun i v hi => by rw [setL_far g b i hne]; exact h i v hi
theorem Tb.put {w w1 : World} {l lo lr vs : List Value} (h : Tb w l lo lr w1) (o : Nat) (hl : o + vs.length ≤ lo.length) : Tb w l (lo.take o ++ vs ++ lo.drop (o + vs.length)) lr (setL w1 (w.heap.size + 1 + 1) o vs) :=
 ⟨at_setL_far h.arg (by omega), at_setL h.out hl, at_setL_far h.res (by omega), fun i => by rw [setL_frozen]; exact h.fo i, fun i => by rw [setL_frozen]; exact h.fr i,
  setL_below _ (by omega) _ _ _ h.bel, by rw [setL_size]; exact h.big⟩
theorem Tb.fin {w w1 : World} {l lo lr vs' : List Value} (h : Tb w l lo lr w1) (hl : vs'.length = lr.length) : At (setL w1 (w.heap.size + 1) 0 vs') (w.heap.size + 1) vs' ∧ Below w.heap.size w (setL w1 (w.heap.size + 1) 0 vs') := by
 refine ⟨?_, setL_below _ (by omega) _ _ _ h.bel⟩
 have := at_setL (vs := vs') (o := 0) h.res (by omega)
 simpa [hl] using this
def Sx (w : World) (b : Nat) : Prop := b ≠ w.heap.size + 1 + 1 ∧ b ≠ w.heap.size + 1
theorem Sx.out {w : World} : ¬ Sx w (w.heap.size + 1 + 1) := fun h => h.1 rfl
theorem Sx.res {w : World} : ¬ Sx w (w.heap.size + 1) := fun h => h.2 rfl
theorem Sx.new {w : World} {lo hi : Nat} (h : w.heap.size + 1 + 1 < lo) : ∀ b, lo ≤ b → b < hi → Sx w b := fun b h1 _ => ⟨by omega, by omega⟩
theorem Own.agree {S : Nat → Prop} {W w : World} {lo hi b o n : Nat} (h : Own lo hi W b o n) (hS : ∀ b, lo ≤ b → b < hi → S b) (hA : Agree S W w) : Own lo hi w b o n :=
 ⟨h.1, h.2.1, Nat.lt_of_lt_of_le h.2.2.1 hA.size, fun j hj => by
  obtain ⟨⟨v, hv⟩, hf⟩ := h.2.2.2 j hj
  have hs := hS b h.1 h.2.1
  exact ⟨⟨v, hA.cell _ _ _ hs hv⟩, by rw [hA.frozen _ _ hs h.2.2.1]; exact hf⟩⟩
theorem OwnM.agree {S : Nat → Prop} {W w : World} {lo hi b b' pl tl : Nat} {ts : List (List Int)} (h : OwnM lo hi W b 0 b' 0 pl tl ts) (h1 : lo ≤ b') (h2 : b' < hi) (hS : ∀ b, lo ≤ b → b < hi → S b) (hA : Agree S W w) : OwnM lo hi w b 0 b' 0 pl tl ts := by
 obtain ⟨k1, k2, k3, k4⟩ := h
 refine ⟨k1.agree hS hA, fun j hj => ?_, k3, Nat.lt_of_lt_of_le k4 hA.size⟩
 obtain ⟨G, O, c, e1, e2, e3⟩ := k2 j hj
 exact ⟨G, O, c, e1, hA.cell _ _ _ (hS b' h1 h2) e2, e3.agree hS hA⟩
theorem Own.widen {lo hi lo' hi' : Nat} {w : World} {b o n : Nat} (h : Own lo hi w b o n) (h1 : lo' ≤ lo) (h2 : hi ≤ hi') : Own lo' hi' w b o n :=
 ⟨Nat.le_trans h1 h.1, Nat.lt_of_lt_of_le h.2.1 h2, h.2.2⟩
theorem OwnM.widen {lo hi lo' hi' : Nat} {w : World} {b b' pl tl : Nat} {ts : List (List Int)} (h : OwnM lo hi w b 0 b' 0 pl tl ts) (h1 : lo' ≤ lo) (h2 : hi ≤ hi') : OwnM lo' hi' w b 0 b' 0 pl tl ts := by
 obtain ⟨k1, k2, k3, k4⟩ := h
 refine ⟨k1.widen h1 h2, fun j hj => ?_, k3, k4⟩
 obtain ⟨G, O, c, e1, e2, e3⟩ := k2 j hj
 exact ⟨G, O, c, e1, e2, e3.widen h1 h2⟩
def OwnB (lo hi : Nat) (w : World) (B : Bd) (ts : List (List Int)) : Prop :=
 ∃ P R S G, B.pa = some ⟨P, 0, none⟩ ∧ B.ta = some ⟨R, 0, none⟩ ∧ B.sa = some ⟨S, 0, none⟩ ∧ B.wa = some ⟨G, 0, none⟩ ∧ OwnM lo hi w P 0 R 0 B.pl B.tl ts ∧ (lo ≤ R ∧ R < hi) ∧ Own lo hi w S 0 (B.sl * 4) ∧ Own lo hi w G 0 B.wl
theorem OwnB.agree {S : Nat → Prop} {W w : World} {lo hi : Nat} {B : Bd} {ts : List (List Int)} (h : OwnB lo hi W B ts) (hS : ∀ b, lo ≤ b → b < hi → S b) (hA : Agree S W w) : OwnB lo hi w B ts := by
 obtain ⟨P, R, T, G, e1, e2, e3, e4, m, r, s, g⟩ := h
 exact ⟨P, R, T, G, e1, e2, e3, e4, m.agree r.1 r.2 hS hA, r, s.agree hS hA, g.agree hS hA⟩
theorem OwnB.below {W w : World} {lo hi : Nat} {B : Bd} {ts : List (List Int)} (h : OwnB lo hi W B ts) (hB : Below W.heap.size W w) : OwnB lo hi w B ts :=
 h.agree (S := fun _ => True) (fun _ _ _ => trivial) (Agree.of_below hB)
theorem own_ss {w : World} {lo b n c : Nat} {ss : List SC} (h : IsSs w (some ⟨b, 0, none⟩) n c ss) (h1 : lo ≤ b) (h2 : b < w.heap.size) (hf : ∀ i, w.frozen? ⟨b, i, none⟩ = false) : Own lo w.heap.size w b 0 (n * 4) := by
 refine ⟨h1, h2, h2, fun j hj => ⟨?_, hf _⟩⟩
 obtain ⟨p, q, k0, k1, k2, k3, _⟩ := h.2.2.2.2.2 _ rfl (j / 4) (by omega)
 rw [addr_add'] at k0 k1 k2 k3
 have hm : j % 4 = 0 ∨ j % 4 = 1 ∨ j % 4 = 2 ∨ j % 4 = 3 := by omega
 rcases hm with e | e | e | e
 ·exact ⟨_, by rw [show 0 + j = 0 + (j / 4 * 4) by omega]; exact k0⟩
 ·exact ⟨_, by rw [show 0 + j = 0 + (j / 4 * 4 + 1) by omega]; exact k1⟩
 ·exact ⟨_, by rw [show 0 + j = 0 + (j / 4 * 4 + 2) by omega]; exact k2⟩
 ·exact ⟨_, by rw [show 0 + j = 0 + (j / 4 * 4 + 3) by omega]; exact k3⟩
theorem own_fs {w : World} {lo b n c : Nat} {zs : List Nat} (h : IsFs .f32 w (some ⟨b, 0, none⟩) n c zs) (h1 : lo ≤ b) (h2 : b < w.heap.size) (hf : ∀ i, w.frozen? ⟨b, i, none⟩ = false) : Own lo w.heap.size w b 0 n := by
 refine ⟨h1, h2, h2, fun j hj => ⟨?_, hf _⟩⟩
 have k0 := h.2.2.2.2.2 _ rfl j hj
 rw [addr_add'] at k0
 exact ⟨_, k0⟩
abbrev Z9' : List Value := [.slice none 0 0, .slice none 0 0, .slice none 0 0, .float .f32 0, .float .f32 0, .slice none 0 0, .float .f32 0, .float .f32 0, .float .f32 0]
set_option maxHeartbeats 2000000 in
theorem laws_toBodyO (B : Bd) (c : Bc) (w : World) (h : IsB w B c) (hs : SmallB c) :
  Calls Tryz.prog 18 #[B.v] w fun e w' => ∃ B' : Bd, e = .returned B'.v ∧ IsB w' B' c ∧ OwnB w.heap.size w'.heap.size w' B' c.ts ∧ Below w.heap.size w w' := by
 have ul := Tryz.underlying32
 have ui := Tryz.underlying44
 have ulm := Tryz.underlying25
 have uim := Tryz.underlying40
 have ulv := Tryz.underlying30
 have uiv := Tryz.underlying42
 have u := Tryz.underlying27
 have hsl : B.sl ≤ 1048576 := by rw [← h.2.2.1.1]; exact hs.2.1
 have hwl : B.wl ≤ 1048576 := by rw [← h.2.2.2.1.1]; exact hs.2.2
 have H := Lib.hid h
 have HS := Lib.hid hs
 clear h hs
 have T0 : Hid (Tb w B.l Z9' Z9' (((w.alloc (.cells #[.slice B.pa B.pl B.pc, .slice B.ta B.tl B.tc, .slice B.sa B.sl B.sc, .float .f32 B.film, .float .f32 B.bend, .slice B.wa B.wl B.wc, .float .f32 B.x, .float .f32 B.y, .float .f32 B.z] 32)).alloc (.cells #[.slice none 0 0, .slice none 0 0, .slice none 0 0, .float .f32 0, .float .f32 0, .slice none 0 0, .float .f32 0, .float .f32 0, .float .f32 0] 44)).alloc (.cells #[.slice none 0 0, .slice none 0 0, .slice none 0 0, .float .f32 0, .float .f32 0, .slice none 0 0, .float .f32 0, .float .f32 0, .float .f32 0] 44))) := Lib.hid Tb.start
 go_enter Tryz.func18, Tryz.ntmps18
 go_wp2_with fail
 generalize (((w.alloc (.cells #[.slice B.pa B.pl B.pc, .slice B.ta B.tl B.tc, .slice B.sa B.sl B.sc, .float .f32 B.film, .float .f32 B.bend, .slice B.wa B.wl B.wc, .float .f32 B.x, .float .f32 B.y, .float .f32 B.z] 32)).alloc (.cells #[.slice none 0 0, .slice none 0 0, .slice none 0 0, .float .f32 0, .float .f32 0, .slice none 0 0, .float .f32 0, .float .f32 0, .float .f32 0] 44)).alloc (.cells #[.slice none 0 0, .slice none 0 0, .slice none 0 0, .float .f32 0, .float .f32 0, .slice none 0 0, .float .f32 0, .float .f32 0, .float .f32 0] 44)) = W at *
 have H0 := Lib.hid (H.out.below T0.out.bel)
 refine (laws_toMesh' _ _ _ _ _ _ c.cs c.ts _ H0.out.1 H0.out.2.1 HS.out.1).mono ?_
 rintro e w1 ⟨⟨b, b', rfl, hb, hbb, hV, hT, hi, hhi, hO⟩, hB1⟩
 have hbig := T0.out.big
 have NB := Lib.hid (And.intro hbig (And.intro hb hbb))
 have T1 := Lib.hid (T0.out.call hB1)
 have M1 := Lib.hid (And.intro hV (And.intro hT (And.intro hhi hO)))
 have SZ1 := Lib.hid hB1.size
 clear hV hT hB1 hb hbb hhi hO hbig
 have k2 := T1.out.arg 2 _ rfl
 have e0 := T1.out.out 0 _ rfl
 have e1 := T1.out.out 1 _ rfl
 have g0 := T1.out.fo 0
 have g1 := T1.out.fo 1
 go_wp2_with fail
 clear k2 e0 e1 g0 g1
 change Calls _ _ _ (setL w1 (w.heap.size + 1 + 1) 0 [.slice (some ⟨b, 0, none⟩) B.pl B.pl, .slice (some ⟨b', 0, none⟩) B.tl B.tl]) _
 have T2 := Lib.hid (T1.out.put 0 (vs := [.slice (some ⟨b, 0, none⟩) B.pl B.pl, .slice (some ⟨b', 0, none⟩) B.tl B.tl]) (Nat.le_of_ble_eq_true rfl))
 have A1 := Lib.hid (Agree.setL (Sx.out (w := w)) [.slice (some ⟨b, 0, none⟩) B.pl B.pl, .slice (some ⟨b', 0, none⟩) B.tl B.tl] w1 0 (Agree.refl (Sx w) w1))
 generalize (setL w1 (w.heap.size + 1 + 1) 0 [.slice (some ⟨b, 0, none⟩) B.pl B.pl, .slice (some ⟨b', 0, none⟩) B.tl B.tl]) = W1 at *
 refine (laws_toSpringSO _ _ _ c.ss _ ((H.out.below T2.out.bel).2.2.1) hsl).mono ?_
 rintro e w2 ⟨rfl, hS, hB2, hz2, hf2⟩
 have T3 := Lib.hid (T2.out.call hB2)
 have A2 := Lib.hid (A1.out.trans (Agree.of_below hB2))
 have S2 := Lib.hid (And.intro hS (And.intro hz2 hf2))
 clear hS hB2 hz2 hf2
 obtain ⟨gs, hgs⟩ : ∃ gs, gs = W1.heap.size := ⟨_, rfl⟩
 rw [← hgs] at S2 ⊢
 have NS : Hid (W.heap.size < gs ∧ b < gs ∧ b' < gs) := Lib.hid (by
  have h1 := M1.out.2.2.2.1.2.2.1
  have h2 := M1.out.2.2.2.2.2.2
  have h3 := A1.out.size
  rw [hgs]
  exact ⟨by have := NB.out.2.1; omega, by omega, by omega⟩)
 clear hgs
 have k3 := T3.out.arg 3 _ rfl
 have k4 := T3.out.arg 4 _ rfl
 have k5 := T3.out.arg 5 _ rfl
 have e2 := T3.out.out 2 _ rfl
 have e3 := T3.out.out 3 _ rfl
 have e4 := T3.out.out 4 _ rfl
 have g2 := T3.out.fo 2
 have g3 := T3.out.fo 3
 have g4 := T3.out.fo 4
 go_wp2_with fail
 clear k3 k4 k5 e2 e3 e4 g2 g3 g4
 change Calls _ _ _ (setL w2 (w.heap.size + 1 + 1) 2 [.slice (some ⟨gs, 0, none⟩) B.sl B.sl, .float .f32 B.film, .float .f32 B.bend]) _
 have T4 := Lib.hid (T3.out.put 2 (vs := [.slice (some ⟨gs, 0, none⟩) B.sl B.sl, .float .f32 B.film, .float .f32 B.bend]) (Nat.le_of_ble_eq_true rfl))
 have A3 := Lib.hid (Agree.setL (Sx.out (w := w)) [.slice (some ⟨gs, 0, none⟩) B.sl B.sl, .float .f32 B.film, .float .f32 B.bend] w2 2 (Agree.refl (Sx w) w2))
 generalize (setL w2 (w.heap.size + 1 + 1) 2 [.slice (some ⟨gs, 0, none⟩) B.sl B.sl, .float .f32 B.film, .float .f32 B.bend]) = W2 at *
 refine (laws_toFloat32SO _ _ _ c.zs _ ((H.out.below T4.out.bel).2.2.2.1) hwl).mono ?_
 rintro e w3 ⟨rfl, hF, hB3, hz3, hf3⟩
 have T5 := Lib.hid (T4.out.call hB3)
 have A4 := Lib.hid (A3.out.trans (Agree.of_below hB3))
 have F3 := Lib.hid (And.intro hF (And.intro hz3 hf3))
 clear hF hB3 hz3 hf3
 obtain ⟨gw, hgw⟩ : ∃ gw, gw = W2.heap.size := ⟨_, rfl⟩
 rw [← hgw] at F3 ⊢
 have NW : Hid (gs < gw) := Lib.hid (by have h1 := S2.out.2.1; have h3 := A3.out.size; rw [hgw]; omega)
 clear hgw
 have k6 := T5.out.arg 6 _ rfl
 have k7 := T5.out.arg 7 _ rfl
 have k8 := T5.out.arg 8 _ rfl
 have e5 := T5.out.out 5 _ rfl
 have g5 := T5.out.fo 5
 go_wp2_with fail
 clear k6 k7 k8 e5 g5
 change Calls _ _ _ (setL w3 (w.heap.size + 1 + 1) 5 [.slice (some ⟨gw, 0, none⟩) B.wl B.wl]) _
 have T6 := Lib.hid (T5.out.put 5 (vs := [.slice (some ⟨gw, 0, none⟩) B.wl B.wl]) (Nat.le_of_ble_eq_true rfl))
 have A5 := Lib.hid (Agree.setL (Sx.out (w := w)) [.slice (some ⟨gw, 0, none⟩) B.wl B.wl] w3 5 (Agree.refl (Sx w) w3))
 generalize (setL w3 (w.heap.size + 1 + 1) 5 [.slice (some ⟨gw, 0, none⟩) B.wl B.wl]) = W3 at *
 refine (laws_toVector _ _ _ _).mono ?_
 rintro e w4 ⟨rfl, hB4⟩
 have T7 := Lib.hid (T6.out.call hB4)
 have A6 := Lib.hid (A5.out.trans (Agree.of_below hB4))
 clear hB4
 have e0 := T7.out.out 0 _ rfl
 have e1 := T7.out.out 1 _ rfl
 have e2 := T7.out.out 2 _ rfl
 have e3 := T7.out.out 3 _ rfl
 have e4 := T7.out.out 4 _ rfl
 have e5 := T7.out.out 5 _ rfl
 have e6 := T7.out.out 6 _ rfl
 have e7 := T7.out.out 7 _ rfl
 have e8 := T7.out.out 8 _ rfl
 have g6 := T7.out.fo 6
 have g7 := T7.out.fo 7
 have g8 := T7.out.fo 8
 have q0 := T7.out.res 0 _ rfl
 have p0 := T7.out.fr 0
 have q1 := T7.out.res 1 _ rfl
 have p1 := T7.out.fr 1
 have q2 := T7.out.res 2 _ rfl
 have p2 := T7.out.fr 2
 have q3 := T7.out.res 3 _ rfl
 have p3 := T7.out.fr 3
 have q4 := T7.out.res 4 _ rfl
 have p4 := T7.out.fr 4
 have q5 := T7.out.res 5 _ rfl
 have p5 := T7.out.fr 5
 have q6 := T7.out.res 6 _ rfl
 have p6 := T7.out.fr 6
 have q7 := T7.out.res 7 _ rfl
 have p7 := T7.out.fr 7
 have q8 := T7.out.res 8 _ rfl
 have p8 := T7.out.fr 8
 have T8 := Lib.hid (T7.out.put 6 (vs := [.float .f32 B.x, .float .f32 B.y, .float .f32 B.z]) (Nat.le_of_ble_eq_true rfl))
 have A7 := Lib.hid (Agree.setL (Sx.out (w := w)) [.float .f32 B.x, .float .f32 B.y, .float .f32 B.z] w4 6 (Agree.refl (Sx w) w4))
 obtain ⟨hR, hBB⟩ := T8.out.fin (vs' := [.slice (some ⟨b, 0, none⟩) B.pl B.pl, .slice (some ⟨b', 0, none⟩) B.tl B.tl, .slice (some ⟨gs, 0, none⟩) B.sl B.sl, .float .f32 B.film, .float .f32 B.bend, .slice (some ⟨gw, 0, none⟩) B.wl B.wl, .float .f32 B.x, .float .f32 B.y, .float .f32 B.z]) rfl
 have A8 := Agree.setL (Sx.res (w := w)) [.slice (some ⟨b, 0, none⟩) B.pl B.pl, .slice (some ⟨b', 0, none⟩) B.tl B.tl, .slice (some ⟨gs, 0, none⟩) B.sl B.sl, .float .f32 B.film, .float .f32 B.bend, .slice (some ⟨gw, 0, none⟩) B.wl B.wl, .float .f32 B.x, .float .f32 B.y, .float .f32 B.z] _ 0 A7.out
 simp only [setL, Nat.zero_add, Nat.reduceAdd] at hR hBB A8
 have HR := Lib.hid hR
 have HBB := Lib.hid hBB
 have HA8 := Lib.hid A8
 clear hR hBB A8
 go_wp2
 clear e0 e1 e2 e3 e4 e5 e6 e7 e8 g6 g7 g8 q0 q1 q2 q3 q4 q5 q6 q7 q8 p0 p1 p2 p3 p4 p5 p6 p7 p8
 have m0 := HR.out 0 _ rfl
 have m1 := HR.out 1 _ rfl
 have m2 := HR.out 2 _ rfl
 have m3 := HR.out 3 _ rfl
 have m4 := HR.out 4 _ rfl
 have m5 := HR.out 5 _ rfl
 have m6 := HR.out 6 _ rfl
 have m7 := HR.out 7 _ rfl
 have m8 := HR.out 8 _ rfl
 have G3 := A6.out.trans HA8.out
 have G2 := A4.out.trans (G3)
 have G1 := A2.out.trans (G2)
 have L1 := M1.out.2.2.2
 have LB1 : OwnM W.heap.size w1.heap.size w1 b 0 b' 0 B.pl B.tl c.ts := L1.widen (Nat.le_refl _) M1.out.2.2.1
 have hbb := NB.out
 refine bodyPost_ret (v := (⟨some ⟨b, 0, none⟩, some ⟨b', 0, none⟩, some ⟨gs, 0, none⟩, some ⟨gw, 0, none⟩, B.pl, B.pl, B.tl, B.tl, B.sl, B.sl, B.wl, B.wl, B.film, B.bend, B.x, B.y, B.z⟩ : Bd).v) (by simp [results, Tryz.results18, go_sem, m0, m1, m2, m3, m4, m5, m6, m7, m8]) rfl ?_
 have s1 : ∀ q, W.heap.size ≤ q → q < w1.heap.size → Sx w q := Sx.new (by omega)
 have hlt1 : b < w1.heap.size := L1.1.2.2.1
 have hlt2 : b' < w1.heap.size := L1.2.2.2
 have LV1 : LV W.heap.size w1.heap.size (some ⟨b, 0, none⟩) := fun x hx => by cases hx; exact ⟨b, rfl, by omega, hlt1⟩
 have LT1 : LT W.heap.size w1.heap.size w1 (some ⟨b', 0, none⟩) B.tl := fun x hx => by
  cases hx
  refine ⟨b', rfl, by omega, hlt2, fun i hi => ?_⟩
  obtain ⟨G', O, c, _, k2, k3⟩ := LB1.2.1 i hi
  rw [Nat.zero_add] at k2
  exact ⟨_, _, c, k2, fun y hy => by cases hy; exact ⟨G', O, rfl, k3.1, k3.2.1⟩⟩
 have LS1 : LV gs w2.heap.size (some ⟨gs, 0, none⟩) := fun x hx => by cases hx; exact ⟨gs, rfl, Nat.le_refl _, S2.out.2.1⟩
 have LW1 : LV gw w3.heap.size (some ⟨gw, 0, none⟩) := fun x hx => by cases hx; exact ⟨gw, rfl, Nat.le_refl _, F3.out.2.1⟩
 have hns := NS.out
 have hnw := NW.out
 have s2 : ∀ q, gs ≤ q → q < w2.heap.size → Sx w q := Sx.new (by omega)
 have s3 : ∀ q, gw ≤ q → q < w3.heap.size → Sx w q := Sx.new (by omega)
 have OS := own_ss S2.out.1 (Nat.le_refl gs) S2.out.2.1 S2.out.2.2
 have OW := own_fs F3.out.1 (Nat.le_refl gw) F3.out.2.1 F3.out.2.2
 refine ⟨_, rfl, ⟨vs_agree M1.out.1 LV1 s1 G1, ts_agree M1.out.2.1 LT1 s1 G1, ss_agree S2.out.1 LS1 s2 G2, fs_agree F3.out.1 LW1 s3 G3, H.out.2.2.2.2⟩, ?_, HBB.out⟩
 have z1 := G1.size
 have z2 := G2.size
 have z3 := G3.size
 exact ⟨b, b', gs, gw, rfl, rfl, rfl, rfl, (LB1.agree (by omega) hlt2 s1 G1).widen (by omega) z1, ⟨by omega, by omega⟩, (OS.agree s2 G2).widen (by omega) z2, (OW.agree s3 G3).widen (by omega) z3⟩
end Go.Proofs.YtabccmobmppdnaaGreat
namespace Go.Proofs.YtabccmobmppdnaaGreat
open Go Fk Go.RowKit
set_option linter.unusedVariables false
set_option maxRecDepth 8000
end Go.Proofs.YtabccmobmppdnaaGreat
namespace Go.Proofs.YtabccmobmppdnaaGreat
open Go Fk Go.RowKit
set_option linter.unusedVariables false
set_option maxRecDepth 8000
def flatV (ts : List (List Int)) : Nat → List Value
 | 0 => []
 | k + 1 => flatV ts k ++ [.int .i64 ((ts.getD k []).getD 0 0), .int .i64 ((ts.getD k []).getD 1 0), .int .i64 ((ts.getD k []).getD 2 0)]
theorem flatV_len (ts : List (List Int)) (k : Nat) : (flatV ts k).length = k * 3 := by
 induction k with
 | zero => rfl
 | succ k ih => unfold flatV; rw [List.length_append, ih]; simp; omega
end Go.Proofs.YtabccmobmppdnaaGreat
namespace Go.Proofs.YtabccmobmppdnaaGreat
open Go Fk Go.RowKit
set_option linter.unusedVariables false
set_option maxRecDepth 8000
theorem flatV_get (ts : List (List Int)) (k j i : Nat) (hj : j < k) (hi : i < 3) : (flatV ts k)[j * 3 + i]? = some (.int .i64 ((ts.getD j []).getD i 0)) := by
 induction k with
 | zero => omega
 | succ k ih =>
  unfold flatV
  by_cases h : j < k
  ·rw [List.getElem?_append_left (by rw [flatV_len]; omega)]
   exact ih h
  ·obtain rfl : j = k := by omega
   rw [List.getElem?_append_right (by rw [flatV_len]; omega), flatV_len]
   have : i = 0 ∨ i = 1 ∨ i = 2 := by omega
   rcases this with rfl | rfl | rfl
   ·rw [show j * 3 + 0 - j * 3 = 0 by omega]; rfl
   ·rw [show j * 3 + 1 - j * 3 = 1 by omega]; rfl
   ·rw [show j * 3 + 2 - j * 3 = 2 by omega]; rfl
end Go.Proofs.YtabccmobmppdnaaGreat
namespace Go.Proofs.YtabccmobmppdnaaGreat
open Go Fk Go.RowKit
set_option linter.unusedVariables false
set_option maxRecDepth 8000
end Go.Proofs.YtabccmobmppdnaaGreat
namespace Go.Proofs.YtabccmobmppdnaaGreat
namespace Reg6
open Go Reg
set_option linter.unusedVariables false
section
variable {P : Program} {ops : Array Oper} {Q : Exit → Act → World → Prop}
def lowb (ops : Array Oper) : Bool := (List.range ops.size).all fun i => ((ops[i]?).map fun o => o.after.all fun e => !Region.binds .any e || decide (e.on < i)).getD true
theorem lowb_spec {ops : Array Oper} (h : lowb ops = true) {i : Nat} {o : Oper} (ho : ops[i]? = some o) : ∀ e ∈ o.after, Region.binds .any e = true → e.on < i := by
 have hlt : i < ops.size := (Array.getElem?_eq_some_iff.1 ho).1
 unfold lowb at h
 rw [List.all_eq_true] at h
 have := h i (List.mem_range.2 hlt)
 rw [ho] at this
 simp only [Option.map_some, Option.getD_some, Array.all_eq_true_iff_forall_mem] at this
 intro e he hb
 have := this e he
 rw [hb] at this
 simpa using this
theorem all_of_none (hlow : lowb ops = true) {listed : Array Bool} (hs : listed.size = ops.size) (hr : Region.ready .any ops listed = []) : ∀ i, i < ops.size → listed.getD i false = true := by
 intro i
 induction i using Nat.strongRecOn with
 | _ i ih =>
  intro hi
  cases hl : listed.getD i false
  ·exfalso
   obtain ⟨o, ho⟩ : ∃ o, ops[i]? = some o := ⟨_, Array.getElem?_eq_getElem hi⟩
   have hm : i ∈ Region.ready .any ops listed := by
    refine mem_ready.2 ⟨?_, o, ho, fun e he hb => ih e.on (lowb_spec hlow ho e he hb) (Nat.lt_trans (lowb_spec hlow ho e he hb) hi)⟩
    have hlt : i < listed.size := by omega
    simp [hlt] at hl ⊢; exact hl
   rw [hr] at hm; cases hm
  ·rfl
theorem wpAny_inv (hlow : lowb ops = true) {Inv : Array Bool → Act → World → Prop}
  (hstep : ∀ i listed a w, listed.size = ops.size → i ∈ Region.ready .any ops listed → Inv listed a w → wpOp P ops Q i (Inv (listed.setIfInBounds i true)) a w)
  (hend : ∀ listed a w, (∀ i, i < ops.size → listed.getD i false = true) → Inv listed a w → Q .normal a w) :
  ∀ (fuel : Nat) (listed : Array Bool) (a : Act) (w : World), listed.size = ops.size → listed.toList.count false ≤ fuel → Inv listed a w → wpAny P .any ops Q fuel listed a w
 | 0, listed, a, w, hs, hf, hI => by
  have hall : ∀ i, i < ops.size → listed.getD i false = true := by
   intro i hi
   have := cnt_zero listed.toList (by omega) i (by simp; omega)
   have hlt : i < listed.size := by omega
   simp [hlt] at this ⊢; exact this
  refine ⟨?_, hend _ _ _ hall hI⟩
  cases hr : Region.ready .any ops listed with
  | nil => rfl
  | cons j l =>
   have hj : j ∈ Region.ready .any ops listed := by rw [hr]; exact List.mem_cons_self
   obtain ⟨h1, o, ho, _⟩ := mem_ready.1 hj
   have hlt : j < ops.size := (Array.getElem?_eq_some_iff.1 ho).1
   have h2 := hall j hlt
   have hlt' : j < listed.size := by omega
   simp [hlt'] at h1 h2
   rw [h1] at h2; cases h2
 | fuel + 1, listed, a, w, hs, hf, hI => by
  refine ⟨fun hr => hend _ _ _ (all_of_none hlow hs hr) hI, fun i hi => ?_⟩
  refine wpOp_mono (fun a' w' h => wpAny_inv hlow hstep hend fuel _ a' w' (by simpa using hs) ?_ h) (hstep i listed a w hs hi hI)
  obtain ⟨h1, o, ho, _⟩ := mem_ready.1 hi
  have hlt : i < listed.size := by have := (Array.getElem?_eq_some_iff.1 ho).1; omega
  have hg : listed.toList[i]? = some false := by simp [hlt] at h1 ⊢; exact h1
  have := cnt_set listed.toList i hg
  rw [Array.toList_setIfInBounds]
  omega
def tidy (ops : Array Oper) (s n : Nat) : Bool :=
 lowb ops && (ops.all fun o => o.guard.isNone) && (ops.all fun o => (o.dst.map fun d => decide (d < n)).getD true) &&
 ((List.range ops.size).all fun i => (List.range ops.size).all fun j => i == j || slotOf ops i == none || slotOf ops i != slotOf ops j) &&
 ((List.range ops.size).all fun i => (slotOf ops i).isSome || i == s) && decide (s < ops.size) && (slotOf ops s).isNone &&
 ((List.range ops.size).all fun i => (List.range ops.size).all fun j => !(behind ops i s && behind ops j i) || behind ops j s)
def Obl (P : Program) (ops : Array Oper) (s : Nat) (a0 : Act) (C : World → Prop) (D : Act → World → Prop) (G : World → World → Prop) (Rv : Nat → Value → Prop) (Rw : Nat → Value → World → Prop) (Q : Exit → Act → World → Prop) (i : Nat) (o : Oper) : Prop :=
 if i = s then
  ∀ a w, C w → (∀ t, ((List.range ops.size).all fun j => slotOf ops j != some t || behind ops i j) = true → a.eval (.tmp t) = a0.eval (.tmp t)) →
   (∀ j d, behind ops j i = true → slotOf ops j = some d → Rv j (a.eval (.tmp d)) ∧ Rw j (a.eval (.tmp d)) w) →
   o.wp P a w (fun a' w' => a' = a ∧ D a w') Q
 else if behind ops i s = true then
  ∀ a w, C w → (∀ t, ((List.range ops.size).all fun j => slotOf ops j != some t || behind ops i j) = true → a.eval (.tmp t) = a0.eval (.tmp t)) →
   (∀ j d, behind ops j i = true → slotOf ops j = some d → Rv j (a.eval (.tmp d)) ∧ Rw j (a.eval (.tmp d)) w) →
   o.wp P a w (fun a' w' => ∃ v, a' = a.put o.dst v ∧ Rv i v ∧ Rw i v w' ∧ C w' ∧ G w w') Q
 else
  ∀ a w, (∀ t, ((List.range ops.size).all fun j => slotOf ops j != some t || behind ops i j) = true → a.eval (.tmp t) = a0.eval (.tmp t)) →
   (∀ j d, behind ops j i = true → slotOf ops j = some d → Rv j (a.eval (.tmp d))) →
   o.wp P a w (fun a' w' => ∃ v, a' = a.put o.dst v ∧ Rv i v ∧ w' = w ∧ ∀ w, D a w → D (a.put o.dst v) w) Q
def OblAll (P : Program) (ops : Array Oper) (s : Nat) (a0 : Act) (C : World → Prop) (D : Act → World → Prop) (G : World → World → Prop) (Rv : Nat → Value → Prop) (Rw : Nat → Value → World → Prop) (Q : Exit → Act → World → Prop) : Nat → List Oper → Prop
 | _, [] => True
 | i, o :: l => Obl P ops s a0 C D G Rv Rw Q i o ∧ OblAll P ops s a0 C D G Rv Rw Q (i + 1) l
variable {s : Nat} {a0 : Act} {C : World → Prop} {D : Act → World → Prop} {G : World → World → Prop} {Rv : Nat → Value → Prop} {Rw : Nat → Value → World → Prop}
theorem OblAll.get :
  ∀ {l : List Oper} {k : Nat}, OblAll P ops s a0 C D G Rv Rw Q k l → ∀ {i : Nat} {o : Oper}, l[i]? = some o → Obl P ops s a0 C D G Rv Rw Q (k + i) o
 | [], _, _, _, _, h => by simp at h
 | _ :: _, _, h, 0, _, ho => by simp at ho; subst ho; exact h.1
 | _ :: l, k, h, i + 1, _, ho => by
  have := OblAll.get h.2 (i := i) (by simpa using ho)
  rwa [Nat.add_assoc, Nat.add_comm 1 i] at this
section
variable {i : Nat} {o : Oper}
theorem Obl.early (h1 : (i == s) = false) (h2 : behind ops i s = true)
  (h : ∀ a w, C w → (∀ t, ((List.range ops.size).all fun j => slotOf ops j != some t || behind ops i j) = true → a.eval (.tmp t) = a0.eval (.tmp t)) →
   (∀ j d, behind ops j i = true → slotOf ops j = some d → Rv j (a.eval (.tmp d)) ∧ Rw j (a.eval (.tmp d)) w) →
   ∀ K : Act → World → Prop, (∀ v w', Rv i v → Rw i v w' → C w' → G w w' → K (a.put o.dst v) w') → o.wp P a w K Q) : Obl P ops s a0 C D G Rv Rw Q i o := by
 unfold Obl
 rw [if_neg (by simpa using h1), if_pos h2]
 exact fun a w hC he hd => h a w hC he hd _ fun v w' k1 k2 k3 k4 => ⟨v, rfl, k1, k2, k3, k4⟩
theorem Obl.store (h1 : (i == s) = true)
  (h : ∀ a w, C w → (∀ t, ((List.range ops.size).all fun j => slotOf ops j != some t || behind ops i j) = true → a.eval (.tmp t) = a0.eval (.tmp t)) →
   (∀ j d, behind ops j i = true → slotOf ops j = some d → Rv j (a.eval (.tmp d)) ∧ Rw j (a.eval (.tmp d)) w) →
   ∀ K : Act → World → Prop, (∀ w', D a w' → K a w') → o.wp P a w K Q) : Obl P ops s a0 C D G Rv Rw Q i o := by
 unfold Obl
 rw [if_pos (by simpa using h1)]
 exact fun a w hC he hd => h a w hC he hd _ fun w' k1 => ⟨rfl, k1⟩
theorem Obl.late (h1 : (i == s) = false) (h2 : behind ops i s = false)
  (h : ∀ a w, (∀ t, ((List.range ops.size).all fun j => slotOf ops j != some t || behind ops i j) = true → a.eval (.tmp t) = a0.eval (.tmp t)) →
   (∀ j d, behind ops j i = true → slotOf ops j = some d → Rv j (a.eval (.tmp d))) →
   ∀ K : Act → World → Prop, (∀ v, Rv i v → (∀ w, D a w → D (a.put o.dst v) w) → K (a.put o.dst v) w) → o.wp P a w K Q) : Obl P ops s a0 C D G Rv Rw Q i o := by
 unfold Obl
 rw [if_neg (by simpa using h1), if_neg (by rw [h2]; decide)]
 exact fun a w he hd => h a w he hd _ fun v k1 k2 => ⟨v, rfl, k1, rfl, k2⟩
end
theorem wp_region_inv {id : Nat} {w0 : World} (hm : P.follows .mixedOrders = true) (ht : tidy ops s a0.tmps.size = true)
  (hG : ∀ j v w w', C w → G w w' → Rw j v w → Rw j v w') (hC : C { w0 with drawn := w0.drawn + 1 })
  (hO : OblAll P ops s a0 C D G Rv Rw Q 0 ops.toList)
  (hQ : ∀ a w, D a w → a.defers = a0.defers → a.tmps.size = a0.tmps.size → (∀ t, (ops.all fun o => o.dst != some t) = true → a.eval (.tmp t) = a0.eval (.tmp t)) → (∀ j d, slotOf ops j = some d → Rv j (a.eval (.tmp d))) → Q .normal a w) :
  (Code.region id ops true).wp P Q a0 w0 := by
 unfold tidy at ht
 simp only [Bool.and_eq_true] at ht
 obtain ⟨⟨⟨⟨⟨⟨⟨hlow, hgd⟩, hbd⟩, hdis⟩, hone⟩, hslt⟩, hsn⟩, hclo⟩ := ht
 have hslt := of_decide_eq_true hslt
 have slot_lt : ∀ {j d}, slotOf ops j = some d → j < ops.size := fun {j d} h => by
  unfold slotOf at h
  cases ho : ops[j]? with
  | none => rw [ho] at h; cases h
  | some o => exact (Array.getElem?_eq_some_iff.1 ho).1
 have slot_bd : ∀ {j d}, slotOf ops j = some d → d < a0.tmps.size := fun {j d} h => by
  have hj := slot_lt h
  have := Array.all_eq_true.1 hbd j hj
  unfold slotOf at h
  rw [Array.getElem?_eq_getElem hj] at h
  simp only [Option.bind_some] at h
  rw [h] at this
  simpa using this
 have slot_ne : ∀ {i j d}, slotOf ops i = some d → slotOf ops j = some d → i = j := fun {i j d} h1 h2 => by
  have a1 := slot_lt h1
  have a2 := slot_lt h2
  have := List.all_eq_true.1 (List.all_eq_true.1 hdis i (List.mem_range.2 a1)) j (List.mem_range.2 a2)
  rw [h1, h2] at this
  simpa using this
 let Inv : Array Bool → Act → World → Prop := fun listed a w =>
  (listed.getD s false = false → C w ∧ ∀ j d, listed.getD j false = true → behind ops j s = true → slotOf ops j = some d → Rw j (a.eval (.tmp d)) w) ∧
  (listed.getD s false = true → D a w) ∧ a.defers = a0.defers ∧ a.tmps.size = a0.tmps.size ∧
  (∀ t, (∀ j, slotOf ops j = some t → listed.getD j false = false) → a.eval (.tmp t) = a0.eval (.tmp t)) ∧
  (∀ j d, listed.getD j false = true → slotOf ops j = some d → Rv j (a.eval (.tmp d))) ∧ (∀ i j, listed.getD j false = true → behind ops i j = true → listed.getD i false = true)
 refine wp_region_any hm (wpAny_inv (Inv := Inv) hlow ?_ ?_ _ _ _ _ (by simp) (by simp) ⟨fun _ => ⟨hC, fun j d hj => ?_⟩, fun h => ?_, rfl, rfl, fun _ _ => rfl, ?_, ?_⟩)
 ·intro i listed a w hs hi ⟨hpre, hpost, hd, hsz, hext, hrv, hcl⟩
  obtain ⟨hun, o, ho, hdeps⟩ := mem_ready.1 hi
  have hilt : i < ops.size := (Array.getElem?_eq_some_iff.1 ho).1
  have hli : i < listed.size := by omega
  have hun' : listed.getD i false = false := by simp [hli] at hun ⊢; exact hun
  have hg : o.guard = none := by
   have := Array.all_eq_true.1 hgd i hilt
   rw [Array.getElem?_eq_getElem hilt] at ho
   cases ho
   simpa using this
  have hob := OblAll.get hO (i := i) (o := o) (by simpa using ho)
  rw [Nat.zero_add] at hob
  have he : ∀ t, ((List.range ops.size).all fun j => slotOf ops j != some t || behind ops i j) = true → a.eval (.tmp t) = a0.eval (.tmp t) := fun t htt => hext t fun j hj => by
   have := List.all_eq_true.1 htt j (List.mem_range.2 (slot_lt hj))
   rw [hj] at this
   simp at this
   cases hl : listed.getD j false
   ·rfl
   ·have := hcl i j hl this; rw [hun'] at this; cases this
  have lstd : ∀ j, behind ops j i = true → listed.getD j false = true := fun j hj => by
   obtain ⟨e, he, h1, h2⟩ := behind_spec hj ho
   rw [← h1]
   exact hdeps e he h2
  have hdst : slotOf ops i = o.dst := by unfold slotOf; rw [ho]; rfl
  have keep : ∀ v t, o.dst ≠ some t → (a.put o.dst v).eval (.tmp t) = a.eval (.tmp t) := fun v t h => Act.eval_put (fun d hd he => h (by rw [hd]; cases he; rfl))
  have lst : ∀ j, (listed.setIfInBounds i true).getD j false = true → j = i ∨ listed.getD j false = true := fun j h => by
   by_cases hji : i = j
   ·exact .inl hji.symm
   ·rw [getD_set_ne false hji] at h; exact .inr h
  have same : ∀ j, j ≠ i → (listed.setIfInBounds i true).getD j false = listed.getD j false := fun j h => getD_set_ne false (fun e => h e.symm)
  have hcl' : ∀ i' j, (listed.setIfInBounds i true).getD j false = true → behind ops i' j = true → (listed.setIfInBounds i true).getD i' false = true := fun i' j hj hb => by
   rcases lst j hj with rfl | hj'
   ·exact getD_set_true (lstd i' hb)
   ·exact getD_set_true (hcl i' j hj' hb)
  have newv : ∀ v d, slotOf ops i = some d → (a.put o.dst v).eval (.tmp d) = v := fun v d hjd => by
   rw [hdst] at hjd
   have hb := slot_bd (j := i) (by rw [hdst]; exact hjd)
   unfold Act.put Act.eval; rw [hjd]; simp; exact fun h => absurd (Nat.lt_of_lt_of_le hb (hsz ▸ h)) (Nat.lt_irrefl _)
  have oldv : ∀ v j d, listed.getD j false = true → slotOf ops j = some d → (a.put o.dst v).eval (.tmp d) = a.eval (.tmp d) := fun v j d hj' hjd => keep v d (fun h => by
   have := slot_ne (show slotOf ops i = some d by rw [hdst]; exact h) hjd
   subst this; rw [hun'] at hj'; cases hj')
  have hext' : ∀ v t, (∀ j, slotOf ops j = some t → (listed.setIfInBounds i true).getD j false = false) → (a.put o.dst v).eval (.tmp t) = a0.eval (.tmp t) := fun v t htt => by
   rw [keep v t (fun h => by
    have := htt i (by rw [hdst]; exact h)
    simp [hli] at this)]
   refine hext t fun j hj => ?_
   have := htt j hj
   cases hl : listed.getD j false
   ·rfl
   ·rw [getD_set_true hl] at this; cases this
  have hd' : ∀ v, (a.put o.dst v).defers = a0.defers := fun v => by rw [← hd]; unfold Act.put; split <;> rfl
  have hsz' : ∀ v, (a.put o.dst v).tmps.size = a0.tmps.size := fun v => by rw [← hsz]; unfold Act.put; split <;> simp
  unfold wpOp
  rw [ho]
  simp only [Region.wanted, hg, if_true]
  by_cases his : i = s
  ·subst his
   unfold Obl at hob
   rw [if_pos rfl] at hob
   obtain ⟨hCw, hrw⟩ := hpre hun'
   refine .inl (Oper.wp_mono ?_ (hob a w hCw he fun j d hj hjd => ⟨hrv j d (lstd j hj) hjd, hrw j d (lstd j hj) hj hjd⟩))
   rintro a' w' ⟨rfl, hDa⟩
   have hn : o.dst = none := by rw [← hdst]; simpa using hsn
   refine ⟨fun h => ?_, fun _ => hDa, hd, hsz, ?_, fun j d hj hjd => ?_, hcl'⟩
   ·simp [hli] at h
   ·have := hext' undef
    rw [hn] at this
    exact this
   ·rcases lst j hj with rfl | hj'
    ·rw [hdst, hn] at hjd; cases hjd
    ·exact hrv j d hj' hjd
  ·have hss := same s (fun e => his e.symm)
   by_cases hbs : behind ops i s = true
   ·unfold Obl at hob
    rw [if_neg his, if_pos hbs] at hob
    have hs0 : listed.getD s false = false := by
     cases hl : listed.getD s false
     ·rfl
     ·have := hcl i s hl hbs; rw [hun'] at this; cases this
    obtain ⟨hCw, hrw⟩ := hpre hs0
    have dep : ∀ j, behind ops j i = true → behind ops j s = true := fun j hj => by
     have hjl : j < ops.size := by
      obtain ⟨e, he, h1, h2⟩ := behind_spec hj ho
      have := lowb_spec hlow ho e he h2
      omega
     have := List.all_eq_true.1 (List.all_eq_true.1 hclo i (List.mem_range.2 hilt)) j (List.mem_range.2 hjl)
     rw [hbs, hj] at this
     simpa using this
    refine .inl (Oper.wp_mono ?_ (hob a w hCw he fun j d hj hjd => ⟨hrv j d (lstd j hj) hjd, hrw j d (lstd j hj) (dep j hj) hjd⟩))
    rintro a' w' ⟨v, rfl, k1, k2, k3, k4⟩
    refine ⟨fun _ => ⟨k3, fun j d hj hjb hjd => ?_⟩, fun h => ?_, hd' v, hsz' v, hext' v, fun j d hj hjd => ?_, hcl'⟩
    ·rcases lst j hj with rfl | hj'
     ·rw [newv v d hjd]; exact k2
     ·rw [oldv v j d hj' hjd]; exact hG _ _ _ _ hCw k4 (hrw j d hj' hjb hjd)
    ·rw [hss, hs0] at h; cases h
    ·rcases lst j hj with rfl | hj'
     ·rw [newv v d hjd]; exact k1
     ·rw [oldv v j d hj' hjd]; exact hrv j d hj' hjd
   ·unfold Obl at hob
    rw [if_neg his, if_neg hbs] at hob
    refine .inl (Oper.wp_mono ?_ (hob a w he fun j d hj hjd => hrv j d (lstd j hj) hjd))
    rintro a' w' ⟨v, rfl, k1, rfl, k2⟩
    refine ⟨fun h => ?_, fun h => ?_, hd' v, hsz' v, hext' v, fun j d hj hjd => ?_, hcl'⟩
    ·rw [hss] at h
     obtain ⟨hCw, hrw⟩ := hpre h
     refine ⟨hCw, fun j d hj hjb hjd => ?_⟩
     rcases lst j hj with rfl | hj'
     ·exact absurd hjb hbs
     ·rw [oldv v j d hj' hjd]; exact hrw j d hj' hjb hjd
    ·rw [hss] at h
     exact k2 _ (hpost h)
    ·rcases lst j hj with rfl | hj'
     ·rw [newv v d hjd]; exact k1
     ·rw [oldv v j d hj' hjd]; exact hrv j d hj' hjd
 ·intro listed a w hall ⟨_, hpost, hd, hsz, hext, hrv, _⟩
  refine hQ a w (hpost (hall s hslt)) hd hsz (fun t htt => hext t fun j hj => ?_) (fun j d hj => hrv j d (hall j (slot_lt hj)) hj)
  exfalso
  have hlt := slot_lt hj
  have := Array.all_eq_true.1 htt j hlt
  unfold slotOf at hj
  rw [Array.getElem?_eq_getElem hlt] at hj
  simp only [Option.bind_some] at hj
  rw [hj] at this
  simp at this
 ·simp at hj
  rw [Array.getElem?_replicate] at hj; split at hj <;> simp at hj
 ·simp at h
  rw [Array.getElem?_replicate] at h; split at h <;> simp at h
 ·intro j d hj
  simp at hj
  rw [Array.getElem?_replicate] at hj; split at hj <;> simp at hj
 ·intro i j hj
  simp at hj
  rw [Array.getElem?_replicate] at hj; split at hj <;> simp at hj
theorem wp_region_mix {id : Nat} {w0 : World} (m : List Bool) (hm : P.follows .mixedOrders = true) (ht : tidy ops s a0.tmps.size = true)
  (hk : maskOk ops m a0.tmps.size = true)
  (hG : ∀ j v w w', C w → G w w' → Rw j v w → Rw j v w') (hC : C { w0 with drawn := w0.drawn + 1 })
  (hO : OblAll P ops s a0 C D G Rv Rw Q 0 ops.toList)
  (hQ : ∀ (f : Nat → Value) w, D ⟨(mixL f m 0 a0.tmps.toList).toArray, a0.defers⟩ w → (∀ j d, slotOf ops j = some d → Rv j (f d)) → Q .normal ⟨(mixL f m 0 a0.tmps.toList).toArray, a0.defers⟩ w) :
  (Code.region id ops true).wp P Q a0 w0 := by
 refine wp_region_inv hm ht hG hC hO fun a w hD hd hsz hext hrv => ?_
 unfold maskOk at hk
 simp only [Bool.and_eq_true, beq_iff_eq] at hk
 obtain ⟨hml, hmk⟩ := hk
 have e : a = ⟨(mixL (fun t => a.eval (.tmp t)) m 0 a0.tmps.toList).toArray, a0.defers⟩ := by
  rw [mixL_eq _ _ _ _ (by simpa using hml) ?_]
  ·cases a with
   | mk tmps defers =>
    simp only [Act.mk.injEq]
    refine ⟨?_, hd⟩
    apply Array.ext'
    apply List.ext_getElem?
    intro i
    simp only at hsz
    by_cases hi : i < tmps.size
    ·have hi' : i < a0.tmps.size := by omega
     simp [hi, hi', Act.eval]
    ·have hi' : ¬ i < a0.tmps.size := by omega
     simp [hi, hi']
  ·intro i hi
   have hlt : i < a0.tmps.size := by
    have := (List.getElem?_eq_some_iff.1 hi).1; omega
   have h1 := List.all_eq_true.1 hmk i (List.mem_range.2 hlt)
   have h2 : m.getD i false = false := by simp [List.getD, hi]
   rw [h2, Bool.false_or] at h1
   have h3 := hext i h1
   rw [Nat.zero_add, h3]
   simp [Act.eval, hlt]
 have hQ' := hQ (fun t => a.eval (.tmp t)) w
 rw [← e] at hQ'
 exact hQ' hD fun j d hj => hrv j d hj
end
end Reg6
end Go.Proofs.YtabccmobmppdnaaGreat
namespace Go.Proofs.YtabccmobmppdnaaGreat
open Go Fk Go.RowKit
set_option linter.unusedVariables false
set_option maxRecDepth 8000
end Go.Proofs.YtabccmobmppdnaaGreat
namespace Go.Proofs.YtabccmobmppdnaaGreat
open Go Fk Go.RowKit
set_option linter.unusedVariables false
set_option maxRecDepth 8000
theorem lst_lv {lo hi n : Nat} {w : World} {a : Option Addr} (h : Lst lo hi w a n) : LV lo hi a := fun x hx => by
 rcases h with ⟨e, _⟩ | ⟨b, e, ho⟩
 ·rw [e] at hx; cases hx
 ·rw [e] at hx; cases hx; exact ⟨b, rfl, ho.1, ho.2.1⟩
end Go.Proofs.YtabccmobmppdnaaGreat
namespace Go.Proofs.YtabccmobmppdnaaGreat
open Go Fk Go.RowKit
set_option linter.unusedVariables false
set_option maxRecDepth 8000
end Go.Proofs.YtabccmobmppdnaaGreat
namespace Go.Proofs.YtabccmobmppdnaaGreat
open Go Fk Go.RowKit
set_option linter.unusedVariables false
set_option maxRecDepth 8000
def SPV (n : Nat) (xs : List Value) (ss : List SC) : Prop := ∀ j, j < n → ∃ p q, xs[j * 4]? = some (.int .i64 (ss.getD j s0).1) ∧ xs[j * 4 + 1]? = some (.int .i64 (ss.getD j s0).2.1) ∧ xs[j * 4 + 2]? = some (.float .f32 p) ∧ xs[j * 4 + 3]? = some (.float .f32 q) ∧ FV .f32 p (ss.getD j s0).2.2.1 ∧ FV .f32 q (ss.getD j s0).2.2.2
def FPV (n : Nat) (xs : List Value) (zs : List Nat) : Prop := ∀ j, j < n → xs[j]? = some (.float .f32 (zs.getD j 0))
theorem ss_cells {w : World} {a : Option Addr} {n cap : Nat} {ss : List SC} (h : IsSs w a n cap ss) : ∃ xs : List Value, xs.length = n * 4 ∧ (∀ ad, a = some ad → ∀ j u, xs[j]? = some u → w.cell? (ad.add j) = some u) ∧ (∀ u ∈ xs, u.oneCell' = true) ∧ SPV n xs ss := by
 obtain ⟨h1, h2, h3, h4', h4, h5⟩ := h
 cases a with
 | none =>
  obtain ⟨rfl, _⟩ := h4 rfl
  exact ⟨[], rfl, ⟨fun _ had => (by cases had), fun u hu => absurd hu (by simp), fun j hj => absurd hj (by omega)⟩⟩
 | some x =>
  have hc : ∀ j, j < n * 4 → ∃ u, w.cell? (x.add j) = some u ∧ u.oneCell' = true := by
   intro j hj
   obtain ⟨p, q, k0, k1, k2, k3, _⟩ := h5 x rfl (j / 4) (by omega)
   have : j = j / 4 * 4 ∨ j = j / 4 * 4 + 1 ∨ j = j / 4 * 4 + 2 ∨ j = j / 4 * 4 + 3 := by omega
   rcases this with e | e | e | e
   ·exact ⟨_, by rw [e]; exact k0, rfl⟩
   ·exact ⟨_, by rw [e]; exact k1, rfl⟩
   ·exact ⟨_, by rw [e]; exact k2, rfl⟩
   ·exact ⟨_, by rw [e]; exact k3, rfl⟩
  refine ⟨(List.range (n * 4)).map fun j => (w.cell? (x.add j)).getD undef, by simp, fun ad had j u hu => ?_, fun u hu => ?_, fun j hj => ?_⟩
  ·cases had
   have hj : j < n * 4 := by have := (List.getElem?_eq_some_iff.1 hu).1; simpa using this
   obtain ⟨p, hp, _⟩ := hc j hj
   simp [hj, hp] at hu
   rw [hp, ← hu]
  ·obtain ⟨j, hj, rfl⟩ := List.mem_map.1 hu
   obtain ⟨p, hp, ho⟩ := hc j (List.mem_range.1 hj)
   rw [hp]; exact ho
  ·obtain ⟨p, q, k0, k1, k2, k3, hf⟩ := h5 x rfl j hj
   have g0 : j * 4 < n * 4 := by omega
   have g1 : j * 4 + 1 < n * 4 := by omega
   have g2 : j * 4 + 2 < n * 4 := by omega
   have g3 : j * 4 + 3 < n * 4 := by omega
   exact ⟨p, q, by simp [g0, k0], by simp [g1, k1], by simp [g2, k2], by simp [g3, k3], hf⟩
theorem fs_cells {w : World} {a : Option Addr} {n cap : Nat} {zs : List Nat} (h : IsFs .f32 w a n cap zs) : ∃ xs : List Value, xs.length = n * 1 ∧ (∀ ad, a = some ad → ∀ j u, xs[j]? = some u → w.cell? (ad.add j) = some u) ∧ (∀ u ∈ xs, u.oneCell' = true) ∧ FPV n xs zs := by
 obtain ⟨h1, h2, h3, h4', h4, h5⟩ := h
 refine ⟨zs.map (.float .f32), by simp [h1], fun ad had j u hu => ?_, fun u hu => ?_, fun j hj => ?_⟩
 ·have hj : j < n := by have := (List.getElem?_eq_some_iff.1 hu).1; rw [← h1]; simpa using this
  have := h5 ad had j hj
  rw [this, ← hu]
  have hz : j < zs.length := by omega
  simp [List.getD, hz]
 ·obtain ⟨z, _, rfl⟩ := List.mem_map.1 hu
  rfl
 ·have hz : j < zs.length := by omega
  simp [List.getD, hz]
theorem lst_of_ownsG {w : World} {base size n c : Nat} {e : TypeId} {a : Option Addr} {xs : List Value} (h : w.ownsRow base e size (.slice a n c) n xs) : Lst base w.heap.size w a (n * size) := by
 have h' := h
 rcases h.2 with ⟨e, e0⟩ | ⟨g, cap, cur, e, hb, hh, hc1, hc2, hs, ht⟩
 ·cases e; exact .inl ⟨rfl, by rw [e0, Nat.zero_mul]⟩
 ·obtain ⟨g1, g2⟩ := h'.lt g (by rw [e]; rfl)
  cases e
  refine .inr ⟨g, rfl, g1, g2, g2, fun j hj => ⟨?_, by rw [Nat.zero_add]; exact h'.frozenAt j⟩⟩
  rw [Nat.zero_add, h'.cellAt j hj]
  have : j < xs.length := by rw [h'.1]; exact hj
  exact ⟨_, List.getElem?_eq_getElem this⟩
theorem ss_of_owns {w : World} {base n : Nat} {v : Value} {xs : List Value} {ss : List SC} (h : w.ownsRow base 166 4 v n xs) (hn : ss.length = n) (hp : SPV n xs ss) (hwf : ∀ s ∈ ss, (Lit.int .i64 s.1).wf = true ∧ (Lit.int .i64 s.2.1).wf = true) : ∃ a cap, v = .slice a n cap ∧ IsSs w a n cap ss ∧ Lst base w.heap.size w a (n * 4) := by
 have h' := h
 rcases h.2 with ⟨rfl, hn0⟩ | ⟨g, cap, cur, rfl, hb, hh, hc1, hc2, hs, ht⟩
 ·exact ⟨none, 0, by rw [hn0], ⟨hn, by omega, by unfold maxLen; omega, hwf, fun _ => ⟨hn0, rfl⟩, fun x hx => by cases hx⟩, .inl ⟨rfl, by omega⟩⟩
 ·refine ⟨_, cap, rfl, ⟨hn, hc1, hc2, hwf, by simp, fun x hx i hi => ?_⟩, lst_of_ownsG h'⟩
  cases hx
  obtain ⟨p, q, e0, e1, e2, e3, hf⟩ := hp i hi
  exact ⟨p, q, by rw [addr_add', Nat.zero_add, h'.cellAt _ (by omega)]; exact e0, by rw [addr_add', Nat.zero_add, h'.cellAt _ (by omega)]; exact e1, by rw [addr_add', Nat.zero_add, h'.cellAt _ (by omega)]; exact e2, by rw [addr_add', Nat.zero_add, h'.cellAt _ (by omega)]; exact e3, hf⟩
theorem fs_of_owns {w : World} {base n : Nat} {v : Value} {xs : List Value} {zs : List Nat} (h : w.ownsRow base 27 1 v n xs) (hn : zs.length = n) (hp : FPV n xs zs) (hwf : ∀ z ∈ zs, z < 2 ^ FloatKind.f32.format.width) : ∃ a cap, v = .slice a n cap ∧ IsFs .f32 w a n cap zs ∧ Lst base w.heap.size w a n := by
 have h' := h
 rcases h.2 with ⟨rfl, hn0⟩ | ⟨g, cap, cur, rfl, hb, hh, hc1, hc2, hs, ht⟩
 ·exact ⟨none, 0, by rw [hn0], ⟨hn, by omega, by unfold maxLen; omega, hwf, fun _ => ⟨hn0, rfl⟩, fun x hx => by cases hx⟩, .inl ⟨rfl, by omega⟩⟩
 ·refine ⟨_, cap, rfl, ⟨hn, hc1, hc2, hwf, by simp, fun x hx i hi => ?_⟩, by have := lst_of_ownsG h'; rwa [Nat.mul_one] at this⟩
  cases hx
  rw [addr_add', Nat.zero_add, h'.cellAt _ (by omega)]
  exact hp i hi
end Go.Proofs.YtabccmobmppdnaaGreat
namespace Go.Proofs.YtabccmobmppdnaaGreat
open Go Fk Go.RowKit
set_option linter.unusedVariables false
set_option maxRecDepth 8000
structure Tc (w : World) (bo br : Nat) (lo lr : List Value) (w1 : World) : Prop where
 out : At w1 bo lo
 res : At w1 br lr
 fo : ∀ i, w1.frozen? ⟨bo, i, none⟩ = false
 fr : ∀ i, w1.frozen? ⟨br, i, none⟩ = false
 bel : Below w.heap.size w w1
 ge : w.heap.size ≤ bo ∧ w.heap.size ≤ br ∧ bo ≠ br
 lt : bo < w1.heap.size ∧ br < w1.heap.size
theorem Tc.call {w w1 w2 : World} {bo br : Nat} {lo lr : List Value} (h : Tc w bo br lo lr w1) (hB : Below w1.heap.size w1 w2) : Tc w bo br lo lr w2 :=
 ⟨h.out.below hB, h.res.below hB, fun i => by rw [hB.frozen (p := ⟨bo, i, none⟩) h.lt.1]; exact h.fo i,
  fun i => by rw [hB.frozen (p := ⟨br, i, none⟩) h.lt.2]; exact h.fr i, h.bel.trans (hB.mono h.bel.size), h.ge, Nat.lt_of_lt_of_le h.lt.1 hB.size, Nat.lt_of_lt_of_le h.lt.2 hB.size⟩
theorem Tc.put {w w1 : World} {bo br : Nat} {lo lr vs : List Value} (h : Tc w bo br lo lr w1) (o : Nat) (hl : o + vs.length ≤ lo.length) : Tc w bo br (lo.take o ++ vs ++ lo.drop (o + vs.length)) lr (setL w1 bo o vs) :=
 ⟨at_setL h.out hl, at_setL_far h.res h.ge.2.2, fun i => by rw [setL_frozen]; exact h.fo i, fun i => by rw [setL_frozen]; exact h.fr i,
  setL_below _ h.ge.1 _ _ _ h.bel, h.ge, by rw [setL_size]; exact h.lt⟩
theorem Tc.fin {w w1 : World} {bo br : Nat} {lo lr vs' : List Value} (h : Tc w bo br lo lr w1) (hl : vs'.length = lr.length) : At (setL w1 br 0 vs') br vs' ∧ Below w.heap.size w (setL w1 br 0 vs') := by
 refine ⟨?_, setL_below _ h.ge.2.1 _ _ _ h.bel⟩
 have := at_setL (vs := vs') (o := 0) h.res (by omega)
 simpa [hl] using this
def Sy (bo br b : Nat) : Prop := b ≠ bo ∧ b ≠ br
theorem Sy.out {bo br : Nat} : ¬ Sy bo br bo := fun h => h.1 rfl
theorem Sy.res {bo br : Nat} : ¬ Sy bo br br := fun h => h.2 rfl
theorem Sy.new {bo br lo hi : Nat} (h1 : bo < lo) (h2 : br < lo) : ∀ b, lo ≤ b → b < hi → Sy bo br b := fun b k1 _ => ⟨by omega, by omega⟩
end Go.Proofs.YtabccmobmppdnaaGreat

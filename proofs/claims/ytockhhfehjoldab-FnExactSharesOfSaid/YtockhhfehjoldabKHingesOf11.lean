/-
Texts in one: what HingesOf stands on, part 11. Conditions: those of each.
-/
import Derived.Test.YtockhhfehjoldabKHingesOf10
import Derived.Shelf.SlIter.Collect
import Derived.Shelf.AbstractIn
import Derived.RangeFuncSeq
import Derived.RangeFuncGives
import Derived.Sort.MapsRangeIn
import Derived.Sort.KeysCollected
import Derived.WalkKit
import Derived.OwnWalkIn
import Derived.TacticsInMore
import Derived.RegionIn
import Derived.LoopNIn
import Derived.LoopIn
import Derived.Maps.AppendAt
import Derived.Shelf.Abstract
import Derived.Shelf.SlSortCmp.NoneTotal
import Derived.Shelf.Lay
import Derived.Ground.SlsfProg
import Derived.Lib.Small
import Derived.RangeFuncBound
import Derived.Sort.OwnSorted

/-
maps.Keys at a map of lists by edges: its iterator gives the keys, each once. Conditions: none.
-/
namespace Go.Proofs.Ytockhhfehjoldab
open Go Fk Go.RowKit Go.Maps Go.Sort Go.Shelf
set_option linter.unusedVariables false
set_option maxRecDepth 100000

def wfE (x : Int × Int) : Prop := (Lit.int .i64 x.1).wf = true ∧ (Lit.int .i64 x.2).wf = true
def encE (x : Int × Int) : Value := .agg #[.int .i64 x.1, .int .i64 x.2]
theorem encE_inj {x y : Int × Int} (h : encE x = encE y) : x = y := by
  obtain ⟨a, b⟩ := x
  obtain ⟨c, d⟩ := y
  simpa [encE] using h
theorem kE_inj2 {x y : Int × Int} (wx : wfE x) (wy : wfE y) (h : kE x = kE y) : x = y := kE_inj wx.1 wx.2 wy.1 wy.2 h
theorem kE_self (x : Int × Int) : (kE x).sameKey (kE x) = true := by
  unfold kE
  simp [Lit.sameKey]
theorem kE_other {x y : Int × Int} (h : kE x ≠ kE y) : (kE x).sameKey (kE y) = false := by
  unfold kE at *
  simpa [Lit.sameKey] using h
/-- No key twice; a key is on the list just where the map has it and it is no longer to come. -/
def CollectedE (D0 : DataW Unit) (left : Lit → Bool) (ss : List (Int × Int)) : Prop := ss.Nodup ∧ ∀ x, x ∈ ss ↔ (wfE x ∧ has D0 (kE x) = true ∧ left (kE x) = false)
theorem CollectedE.start (D0 : DataW Unit) : CollectedE D0 (has D0) [] := ⟨List.nodup_nil, fun x => by cases has D0 (kE x) <;> simp⟩
theorem CollectedE.step {D0 : DataW Unit} {left : Lit → Bool} {ss : List (Int × Int)} (h : CollectedE D0 left ss) {x : Int × Int} (wx : wfE x) {y : DataW Unit} (hlk : left (kE x) = true) (hat : ∀ zd, D0.atKey (kE x) zd = y) : CollectedE D0 (fun z => left z && !z.sameKey (kE x)) (ss ++ [x]) := by
  have hhas : has D0 (kE x) = true := has_true_of_atKey hat
  have hnew : x ∉ ss := fun hx => by have := ((h.2 x).1 hx).2.2; rw [hlk] at this; cases this
  refine ⟨List.nodup_append.2 ⟨h.1, by simp, fun a ha b hb => by simp at hb; subst hb; exact fun e => hnew (e ▸ ha)⟩, fun y => ?_⟩
  by_cases hy : y = x
  · subst hy; simp [hhas, kE_self, wx]
  · rw [List.mem_append, h.2 y]
    simp only [List.mem_singleton, hy, or_false]
    refine and_congr_right fun wy => and_congr_right fun _ => ?_
    have : kE y ≠ kE x := fun e => hy (kE_inj2 wy wx e)
    simp [kE_other this]
/-- What an iterator over a map's keys gives. -/
def KeysE (D0 : DataW Unit) (ss : List (Int × Int)) : Prop := ss.Nodup ∧ ∀ x, x ∈ ss ↔ (wfE x ∧ has D0 (kE x) = true)
theorem CollectedE.done {D0 : DataW Unit} {left : Lit → Bool} {ss : List (Int × Int)} (h : CollectedE D0 left ss) (hl : ∀ kl, left kl = false) : KeysE D0 ss := ⟨h.1, fun x => by rw [h.2 x, hl]; simp⟩
theorem map_of_groups {w : World} {P : Program} {k : TypeId} {base : Nat} {e : TypeId} {q : IntKind} {b n : Nat} {D : DataW Unit} (h : w.ownsGroups P k base e q b n D) : w.ownsMap P k (rowElem (H := Unit) w base e q) b n D := by
  obtain ⟨es, clock, hb, F, hs, hD, _⟩ := h
  exact ⟨es, clock, hb, F, hs, hD⟩

set_option maxHeartbeats 1000000 in
theorem keysE1 (n : Nat) (hn : 1 ≤ n) (l Bm b nn : Nat) (D0 : DataW Unit) {R : Value → Option (DataW Unit × List MemPlace)} (J : List (Int × Int) → World → Prop)
    (hY : ∀ pre x W, J pre W → pre.length < Maps.size D0 → YieldAt Fence.wide (n - 1) Try.prog l #[encE x] W fun e W' => e = .returned (.bool true) ∧ J (pre ++ [x]) W' ∧ KeepsWalks W W')
    (W : World) (hJ : AbidesFrom W.heap.size J) (hm : W.cell? ⟨Bm, 0, none⟩ = some (.map (some b))) (hown : W.ownsMap Try.prog 140 R b nn D0) (h0 : J [] W) :
    CallsIn Fence.wide n Try.prog 124 #[.func (.yield l) #[] #[], .pointer (some ⟨Bm, 0, none⟩)] W fun e W' => (∃ v, e = .returned v) ∧ ∃ ss : List (Int × Int), KeysE D0 ss ∧ J ss W' := by
  have um := Try.underlying133
  have ue := Try.underlying140
  have hro : Fence.wide.round = none := rfl
  refine callsIn_of_wp Try.func124 rfl trivial ?_ rfl
  simp only [Try.ntmps124, List.size_toArray, List.length_cons, List.length_nil, Nat.reduceAdd, Nat.reduceSub, Array.replicate_succ, Array.replicate_zero, List.push_toArray, List.append_toArray, List.nil_append, List.cons_append]
  gi_wp2_with (first
    | (gi_at_range; refine wpListIn_range_own _ rfl _ 133 rfl 140 39 edgeKeyed um _ b nn _ rfl hown ?_; intro w0 hrg0 hg0 hs0)
    | gi_in)
  go_frame
  gi_loopw [3] (fun _ wr => ∃ (left : Lit → Bool) (cnt : Nat) (ss : List (Int × Int)), wr.ranges Try.prog 140 R b W.heap.size nn D0 left cnt ∧ ss.length + cnt ≤ Maps.size D0 ∧ CollectedE D0 left ss ∧ J ss wr)
    (fun _ wr => wr.rangeLeft b W.heap.size)
  case atStart =>
    exact ⟨_, _, [], hrg0, by simp, CollectedE.start D0, hJ [] W w0 none h0 hg0 (fun r e => by cases e)⟩
  case round =>
    obtain ⟨left, cnt, ss, hrg, hcs, hC, hJs⟩ := hrel
    gi_wp2_with (first
      | (gi_at_next; refine wpListIn_next_ranges _ rfl _ rfl 140 edgeKeyed R encE id (fun key kl hk => by obtain ⟨a, b, hx, _⟩ := keyOf_edge_inv hk; exact ⟨(a, b), hx⟩) (fun v _ _ => ⟨v, rfl⟩) b W.heap.size nn _ _ _ rfl hrg ?_ ?_)
      | gi_in)
    · intro hc0 hl0
      gi_wp2
      go_end0
      exact ⟨⟨_, rfl⟩, ss, hC.done hl0, hJs⟩
    · intro x1 x2 c kl yd yp w2 cnt2 hkey hlk hv hat hrg2 hlt hg2 hs2 hen
      obtain ⟨a, b', ex, wa, wb, rfl⟩ := keyOf_edge_inv hkey
      obtain ⟨rfl, rfl⟩ := Prod.mk.inj (encE_inj (x := (x1, x2)) (y := (a, b')) ex)
      have hJ2 : J ss w2 := hJ ss wr w2 (some W.heap.size) hJs hg2 (fun r e => by cases e; exact ⟨Nat.le_refl _, hrg.iter_walk⟩)
      have hJ3 : J ss (w2.alloc (.cells #[.int .i64 x1, .int .i64 x2] 140)) := hJ ss w2 _ none hJ2 (World.grownBy_alloc _ _ _) (fun r e => by cases e)
      obtain ⟨fn, tmps, assign, body, hy, hR⟩ := hY ss (x1, x2) _ hJ3 (by omega)
      change (Instr.yield l #[.agg #[.int .i64 x1, .int .i64 x2]]).run Try.prog _ = _ at hy
      change (Instr.entry _).run Try.prog _ = Result.ok (.tuple #[.agg #[.int .i64 x1, .int .i64 x2], c]) _ at hen
      clear hs2
      gi_wp2
      refine hR.mono ?_
      rintro e W3 ⟨rfl, hJ4, hk3⟩
      gi_wp2
      have hrg3 := hrg2.of_walks ((KeepsWalks.alloc _ _).trans hk3)
      go_roundw
      case rel => exact ⟨_, cnt2, ss ++ [(x1, x2)], hrg3, by simp; omega, hC.step ⟨wa, wb⟩ hlk hat, hJ4⟩
      case measure => rw [hrg3.left_eq, hrg.left_eq]; exact hlt
theorem keysE_gives (n : Nat) (hn : 1 ≤ n) (Bm b nn : Nat) (D0 : DataW Unit) {R : Value → Option (DataW Unit × List MemPlace)} (w : World) (hBm : Bm < w.heap.size)
    (hm : w.cell? ⟨Bm, 0, none⟩ = some (.map (some b))) (hown : w.ownsMap Try.prog 140 R b nn D0) :
    SeqGives Fence.wide n Try.prog 124 #[.pointer (some ⟨Bm, 0, none⟩)] encE (KeysE D0) (Maps.size D0) w := fun l J W hW hJ hY h0 => by
  have hown' : W.ownsMap Try.prog 140 R b nn D0 := by
    have hbl := hown.lt
    obtain ⟨es, clock, hb, Ft, hs, hD⟩ := hown
    exact ⟨es, clock, (hW.block b hbl).trans hb, Ft, hs, hD⟩
  exact keysE1 n hn l Bm b nn D0 J hY W hJ ((hW.cell (p := ⟨Bm, 0, none⟩) hBm).trans hm) hown' h0
/-- maps.Keys: the map is boxed; the function value holds the box. -/
theorem maps_KeysE (n : Nat) (mb : Option Nat) (w : World) :
    CallsIn Fence.wide n Try.prog 114 #[.map mb] w fun e w' => e = .returned (.func (.func 124) #[] #[.pointer (some ⟨w.heap.size, 0, none⟩)]) ∧ w' = w.alloc (.cells #[.map mb] 133) := by
  have um := Try.underlying133
  refine callsIn_of_wp Try.func114 rfl trivial ?_ rfl
  simp only [Try.ntmps114, List.size_toArray, List.length_cons, List.length_nil, Nat.reduceAdd, Nat.reduceSub, Array.replicate_succ, Array.replicate_zero, List.push_toArray, List.append_toArray, List.nil_append, List.cons_append]
  gi_wp2
  go_ret
  exact ⟨rfl, rfl⟩
end Go.Proofs.Ytockhhfehjoldab


/-
slices.Collect of edges against whatever iterator. Conditions: none.
-/
namespace Go.Proofs.Ytockhhfehjoldab
open Go Fk Go.RowKit Go.Maps Go.Sort Go.Shelf
set_option linter.unusedVariables false
set_option maxRecDepth 100000

theorem infoE : (Try.prog.info? 140).map (fun i => (i.zero, i.size, i.bytes)) = some (some (.agg #[.int .i64 0, .int .i64 0]), 2, 16) := by kernel_rfl
/-- The cells of a list of edges. -/
def flatE (ss : List (Int × Int)) : List Value := ss.flatMap fun x => [.int .i64 x.1, .int .i64 x.2]
theorem flatE_snoc (ss : List (Int × Int)) (x : Int × Int) : flatE (ss ++ [x]) = flatE ss ++ [.int .i64 x.1, .int .i64 x.2] := by simp [flatE]
theorem cell_two_new (w : World) (x y : Value) (t : TypeId) : ∀ j u, [x, y][j]? = some u → (w.alloc (.cells #[x, y] t)).cell? ((⟨w.heap.size, 0, none⟩ : Addr).add j) = some u := by
  intro j u hj
  match j, hj with
  | 0, hj =>
    simp at hj
    subst hj
    simp [Addr.add]
  | 1, hj =>
    simp at hj
    subst hj
    simp [Addr.add]
def apAssign : Code := (Code.region 2 #[{ dst := some 5, op := Op.alloc 140, type := 0, pos := "iter.go:51", after := #[], guard := none }, { dst := none, op := Op.store 140 (Operand.tmp 5) (Operand.tmp 7), type := 0, pos := "iter.go:51", after := #[{ on := 0, ground := Ground.data }, { on := 0, ground := Ground.phase }], guard := none }] false)
def apBody : Code := (Code.block 1 (Code.region 3 #[{ dst := some 8, op := Op.load 137 (Operand.tmp 2), type := 137, pos := "iter.go:52", after := #[], guard := none }, { dst := some 9, op := Op.load 140 (Operand.tmp 5), type := 140, pos := "iter.go:52", after := #[], guard := none }, { dst := some 10, op := Op.buildSlice 137 1 #[(0, Operand.tmp 9)], type := 137, pos := "iter.go:52", after := #[{ on := 1, ground := Ground.data }], guard := none }, { dst := some 11, op := Op.call { callee := Callee.builtin Builtin.append, args := #[Operand.tmp 8, Operand.tmp 10], argTypes := #[137, 137] }, type := 137, pos := "iter.go:52", after := #[{ on := 0, ground := Ground.data }, { on := 2, ground := Ground.data }], guard := none }, { dst := none, op := Op.store 137 (Operand.tmp 2) (Operand.tmp 11), type := 0, pos := "iter.go:52", after := #[{ on := 3, ground := Ground.data }, { on := 3, ground := Ground.chain }, { on := 0, ground := Ground.phase }, { on := 1, ground := Ground.phase }, { on := 2, ground := Ground.phase }, { on := 3, ground := Ground.phase }], guard := none }] false))
/-- The loop's record: AppendSeq's temporaries as they stood at the entering: 's' boxed in block Bs; sv: the iterator's value. -/
def apRec (fn : FuncId) (sv : Value) (Bs D : Nat) (st : LoopState) (pend : Option Code) : Loop :=
  { state := st, pending := pend, fn, tmps := #[.slice none 0 0, sv, .pointer (some ⟨Bs, 0, none⟩), undef, .slice none 0 0, undef, sv, undef, undef, undef, undef, undef, undef], params := #[7], assign := apAssign, body := apBody, defers := D }

/-- BETWEEN TWO ROUNDS: the box holds a slice that owns, in a block of the call's own, what has come so far; IT IS nil JUST AS LONG AS NOTHING HAS COME; nothing that lay before the call has turned. -/
structure ApAt (w0 : World) (fn : FuncId) (sv : Value) (Bs l D : Nat) (ss : List (Int × Int)) (W : World) : Prop where
  box : ∃ v, W.heap[Bs]? = some (.cells #[v] 137 (0, 0)) ∧ W.ownsRow w0.heap.size 140 2 v ss.length (flatE ss) ∧ (v = .slice none 0 0 ↔ ss = [])
  L : W.heap[l]? = some (.loop (apRec fn sv Bs D .ready none))
  K : W.heap[D]? = some (.deferred (some []))
  below : Below w0.heap.size w0 W

theorem ap_abides (w0 : World) (fn : FuncId) (sv : Value) (Bs l D B : Nat) (hB : w0.heap.size ≤ B) : AbidesFrom B (ApAt w0 fn sv Bs l D) := fun s W W' row h hg hrow => by
  have hrow' : ∀ r, row = some r → ∃ o : Obj, W.heap[r]? = some o ∧ o.isWalk = true := fun r e => (hrow r e).2
  obtain ⟨v, hv, hr, hn⟩ := h.box
  exact ⟨⟨v, (grownBy_keeps hg hrow' hv rfl).trans hv, ownsRow_abides_a hr hg hrow', hn⟩, (grownBy_keeps hg hrow' h.L rfl).trans h.L, (grownBy_keeps hg hrow' h.K rfl).trans h.K,
    h.below.grown hg h.below.size (fun k e => Nat.le_trans hB (hrow k e).1)⟩

set_option maxRecDepth 100000 in
set_option maxHeartbeats 2000000 in
theorem apYield (m : Nat) (w0 : World) (fn : FuncId) (sv : Value) (Bs l D : Nat) (hBl : Bs ≠ l) (hDl : D ≠ l) (hDB : D ≠ Bs) (h0B : w0.heap.size ≤ Bs) (h0l : w0.heap.size ≤ l)
    (N : Nat) (hN : N ≤ maxLen) (hNb : N * 16 ≤ 140737488355328) (ss : List (Int × Int)) (x : Int × Int) (W : World) (h : ApAt w0 fn sv Bs l D ss W) (hlen : ss.length < N) :
    YieldAt Fence.wide m Try.prog l #[encE x] W fun e W' => e = .returned (.bool true) ∧ ApAt w0 fn sv Bs l D (ss ++ [x]) W' ∧ KeepsWalks W W' := by
  have u24 := Try.underlying137
  have u26 := Try.underlying140
  have u2 := Try.underlying2
  have hne : (137 : TypeId) ≠ 140 := by decide
  obtain ⟨i0, hi, hz0, hz1, hz2⟩ := info_parts infoE
  obtain ⟨v, hv, hrow, _⟩ := h.box
  refine ⟨fn, #[.slice none 0 0, sv, .pointer (some ⟨Bs, 0, none⟩), undef, .slice none 0 0, undef, sv, .agg #[.int .i64 x.1, .int .i64 x.2], undef, undef, undef, undef, undef], apAssign, apBody, by simpa [apRec, encE] using run_yield (P := Try.prog) (args := #[encE x]) h.L rfl, roundIn_of_wpIn (F := Fence.wide) trivial ?_⟩
  have hl0 : l < W.heap.size := (Array.getElem?_eq_some_iff.1 h.L).1
  have hB0 : Bs < W.heap.size := (Array.getElem?_eq_some_iff.1 hv).1
  have hD0 : D < W.heap.size := (Array.getElem?_eq_some_iff.1 h.K).1
  obtain ⟨W1, hW1⟩ : ∃ W1, W.alloc (.cells #[.int .i64 x.1, .int .i64 x.2] 140) = W1 := ⟨_, rfl⟩
  have hs1 : W1.heap.size = W.heap.size + 1 := by rw [← hW1]; simp
  have hl : l < W1.heap.size := by omega
  have hL1 : W1.heap[l]? = some (.loop (apRec fn sv Bs D .ready none)) := by rw [← hW1]; exact (Below.heap_alloc _ _ l hl0).trans h.L
  have hv1 : W1.heap[Bs]? = some (.cells #[v] 137 (0, 0)) := by rw [← hW1]; exact (Below.heap_alloc _ _ Bs hB0).trans hv
  have hK1 : W1.heap[D]? = some (.deferred (some [])) := by rw [← hW1]; exact (Below.heap_alloc _ _ D hD0).trans h.K
  have hrow1 : W1.ownsRow w0.heap.size 140 2 v ss.length (flatE ss) := by rw [← hW1]; exact hrow.alloc _
  have hb1 : Below w0.heap.size w0 W1 := by rw [← hW1]; exact h.below.alloc h.below.size _
  have hk1 : KeepsWalks W W1 := by rw [← hW1]; exact KeepsWalks.alloc _ _
  have hx1 : W1.heap[W.heap.size]? = some (.cells #[.int .i64 x.1, .int .i64 x.2] 140 (0, 0)) := by rw [← hW1]; exact World.alloc_heap_new _ _
  have hbr := run_beginRound (P := Try.prog) hL1 rfl
  obtain ⟨W2, hW2⟩ : ∃ W2, W1.putObj l (.loop { apRec fn sv Bs D .ready none with state := .busy }) = W2 := ⟨_, rfl⟩
  rw [hW2] at hbr
  have hg2 : W1.grownBy W2 (some l) := by rw [← hW2]; exact grownBy_putObj_a _ _ _
  have hk2 : KeepsWalks W W2 := hk1.trans (by rw [← hW2]; exact KeepsWalks.putObj _ hL1 rfl)
  have hx2 : W2.heap[W.heap.size]? = some (.cells #[.int .i64 x.1, .int .i64 x.2] 140 (0, 0)) := by rw [← hW2]; exact (World.putObj_heap_other (by omega)).trans hx1
  have hxa : W2.cell? ⟨W.heap.size, 0, none⟩ = some (.int .i64 x.1) := by simp [World.cell?, hx2]
  have hxb : W2.cell? ⟨W.heap.size, 1, none⟩ = some (.int .i64 x.2) := by simp [World.cell?, hx2]
  have hv2 : W2.heap[Bs]? = some (.cells #[v] 137 (0, 0)) := by rw [← hW2]; exact (World.putObj_heap_other hBl).trans hv1
  have hK2 : W2.heap[D]? = some (.deferred (some [])) := by rw [← hW2]; exact (World.putObj_heap_other hDl).trans hK1
  have hL2 : W2.heap[l]? = some (.loop { apRec fn sv Bs D .ready none with state := .busy }) := by rw [← hW2]; exact World.putObj_heap_same hl
  have hrow2 : W2.ownsRow w0.heap.size 140 2 v ss.length (flatE ss) := hrow1.kept hg2 (ownsRow_ne_a hrow1 hL1 (fun cur e => by first | cases e | exact hne (Obj.cells.inj e).2.1))
  have hb2 : Below w0.heap.size w0 W2 := hb1.grown hg2 hb1.size (fun k e => by cases e; exact h0l)
  obtain ⟨hc2, hf2⟩ := cell_of_box_a hv2
  have hBlt : Bs < W2.heap.size := (Array.getElem?_eq_some_iff.1 hv2).1
  have hl2 : l < W2.heap.size := (Array.getElem?_eq_some_iff.1 hL2).1
  have hDlt : D < W2.heap.size := (Array.getElem?_eq_some_iff.1 hK2).1
  have ne_of : ∀ {j : Nat} {o : Obj}, W2.heap[j]? = some o → (∀ cur, o ≠ .cells cur 140 (0, 0)) → some j ≠ v.ownBlock := fun hj hno => by
    rcases ownsRow_ne_a hrow2 hj hno with e | e
    · rw [e]; simp
    · exact fun e' => e e'.symm
  clear hW2
  unfold apAssign
  gi_wp2_with gi_round_op_a
  unfold apBody
  gi_wp2_with (first
    | (gi_at_builtin; refine wpListIn_append_own _ rfl _ _ 137 rfl w0.heap.size 140 i0 (.agg #[.int .i64 0, .int .i64 0]) 2 16 u24 hi hz0 hz1 hz2 rfl (by decide) _ _ _ rfl (hrow2.alloc _) ⟨W2.heap.size, 0, none⟩ 1 1 [.int .i64 x.1, .int .i64 x.2] rfl rfl (cell_two_new _ _ _ _) (by simp [Value.oneCell']) (by omega) (by omega) (by have := hb2.size; simp; omega) ?_; intro v' w3 hown' hg3 hnil3
       have hv3 : w3.heap[Bs]? = some (.cells #[v] 137 (0, 0)) := (hg3.block Bs (by simp; omega) (ne_of hv2 (fun cur e => by first | cases e | exact hne (Obj.cells.inj e).2.1))).trans ((Below.heap_alloc _ _ Bs hBlt).trans hv2)
       obtain ⟨hc3, hf3⟩ := cell_of_box_a hv3
       obtain ⟨g', cap', cur', rfl, hbase', hgb', hr1, hr2, hr3, hr4⟩ : ∃ g' cap' cur', v' = .slice (some ⟨g', 0, none⟩) (ss.length + 1) cap' ∧ w0.heap.size ≤ g' ∧ w3.heap[g']? = some (.cells cur' 140 (0, 0)) ∧ ss.length + 1 ≤ cap' ∧ cap' ≤ maxLen ∧ cur'.size = cap' * 2 ∧ cur'.toList.take ((ss.length + 1) * 2) = flatE ss ++ [.int .i64 x.1, .int .i64 x.2] := by
         rcases hown'.2 with ⟨_, h0⟩ | h'
         · exact absurd h0 (by omega)
         · exact h'
       go_frame)
    | gi_round_op_a)
  have hg3' : (W2.alloc (.cells #[.int .i64 x.1, .int .i64 x.2] 140)).grownBy w3 v.ownBlock := hg3
  have hL3 : w3.heap[l]? = some (.loop { apRec fn sv Bs D .ready none with state := .busy }) := (hg3'.block l (by simp; omega) (ne_of hL2 (fun cur e => by first | cases e | exact hne (Obj.cells.inj e).2.1))).trans ((Below.heap_alloc _ _ l hl2).trans hL2)
  have hK3 : w3.heap[D]? = some (.deferred (some [])) := (hg3'.block D (by simp; omega) (ne_of hK2 (fun cur e => by first | cases e | exact hne (Obj.cells.inj e).2.1))).trans ((Below.heap_alloc _ _ D hDlt).trans hK2)
  obtain ⟨w4, hw4⟩ : ∃ w4, w3.setCell ⟨Bs, 0, none⟩ (.slice (some ⟨g', 0, none⟩) (ss.length + 1) cap') = w4 := ⟨_, rfl⟩
  rw [hw4]
  have hg4 : w3.grownBy w4 (some Bs) := by rw [← hw4]; exact grownBy_setCell0_a _ _ _
  have hv4 : w4.heap[Bs]? = some (.cells #[.slice (some ⟨g', 0, none⟩) (ss.length + 1) cap'] 137 (0, 0)) := by rw [← hw4]; exact heap_setCell_box_a _ hv3
  have hL4 : w4.heap[l]? = some (.loop { apRec fn sv Bs D .ready none with state := .busy }) := (hg4.block l (Array.getElem?_eq_some_iff.1 hL3).1 (fun e => hBl (by cases e; rfl))).trans hL3
  have hK4 : w4.heap[D]? = some (.deferred (some [])) := (hg4.block D (Array.getElem?_eq_some_iff.1 hK3).1 (fun e => hDB (by cases e; rfl))).trans hK3
  have hrow4 := hown'.kept hg4 (ownsRow_ne_a hown' hv3 (fun cur e => by first | cases e | exact hne (Obj.cells.inj e).2.1))
  have hl4 : l < w4.heap.size := (Array.getElem?_eq_some_iff.1 hL4).1
  have hb3 : Below w0.heap.size w0 w3 := (hb2.alloc hb2.size _).grown hg3' (by have := hb2.size; simp; omega) (fun k e => (hrow2.lt k e).1)
  have hb4 : Below w0.heap.size w0 w4 := hb3.grown hg4 hb3.size (fun k e => by cases e; exact h0B)
  have hk4 : KeepsWalks W w4 := ((hk2.trans (KeepsWalks.alloc _ _)).trans (KeepsWalks.of_grownBy hg3' (ownsRow_not_walk_a (hrow2.alloc _)))).trans (by rw [← hw4]; exact KeepsWalks.setCell _ _ _)
  clear hw4
  refine ⟨_, _, run_endRound none hL4, rfl, ⟨⟨_, (World.putObj_heap_other hBl).trans hv4, ?_, by simp⟩, World.putObj_heap_same hl4, (World.putObj_heap_other hDl).trans hK4, hb4.grown (grownBy_putObj_a _ _ _) hb4.size (fun k e => by cases e; exact h0l)⟩, hk4.trans (KeepsWalks.putObj _ hL4 rfl)⟩
  have := hrow4.kept (grownBy_putObj_a w4 l (.loop { { apRec fn sv Bs D .ready none with state := .busy } with state := if (none : Option Code).isNone then .ready else .done, pending := none })) (ownsRow_ne_a hrow4 hL4 (fun cur e => by first | cases e | exact hne (Obj.cells.inj e).2.1))
  rw [flatE_snoc]
  simpa using this


set_option maxRecDepth 100000 in
set_option maxHeartbeats 2000000 in
/-- **slices.AppendSeq(nil, seq), AGAINST WHATEVER ITERATOR VALUE THAT 'SeqGives'**: it hands back a slice that owns, in a block of the call's own, JUST WHAT THE ITERATOR GAVE, IN THAT ORDER; nil JUST WHERE IT GAVE NOTHING (as Go: 'slices.Collect' of nothing is nil); nothing that lay before the call has turned. -/
theorem appendSeq_in (n : Nat) (hn : 2 ≤ n) (g : Nat) (lb : Array Value) (eg : ∀ args w, (callFunc g args).run Try.prog w = .ok (.enter g args) w)
    (S : List (Int × Int) → Prop) (N : Nat) (hN : N ≤ maxLen) (hNb : N * 16 ≤ 140737488355328) (w : World) (hseq : SeqGives Fence.wide (n - 1) Try.prog g lb encE S N w) :
    CallsIn Fence.wide n Try.prog 128 #[.slice none 0 0, .func (.func g) #[] lb] w fun e w' => ∃ (v : Value) (ss : List (Int × Int)), e = .returned v ∧ S ss ∧ w'.ownsRow w.heap.size 140 2 v ss.length (flatE ss) ∧ (v = .slice none 0 0 ↔ ss = []) ∧ Below w.heap.size w w' := by
  have h1 : 1 ≤ n := by omega
  have u24 := Try.underlying137
  have u26 := Try.underlying140
  have u2 := Try.underlying2
  have hne : (137 : TypeId) ≠ 140 := by decide
  have hro : Fence.wide.round = none := rfl
  refine callsIn_of_wp_marks Try.func128 rfl trivial ?_ hro
  simp only [Try.ntmps128, List.size_toArray, List.length_cons, List.length_nil, Nat.reduceAdd, Nat.reduceSub, Array.replicate_succ, Array.replicate_zero, List.push_toArray, List.append_toArray, List.nil_append, List.cons_append]
  gi_wp2
  refine wpIn_rangeFunc ?_
  intro fn hfn
  rw [hro]
  obtain ⟨W0, hW0⟩ : ∃ W0, w.alloc (.cells #[.slice none 0 0] 137) = W0 := ⟨_, rfl⟩
  have hs0 : W0.heap.size = w.heap.size + 1 := by rw [← hW0]; simp
  have hv0 : W0.heap[w.heap.size]? = some (.cells #[.slice none 0 0] 137 (0, 0)) := by rw [← hW0]; exact World.alloc_heap_new w _
  have hb0 : Below w.heap.size w W0 := by rw [← hW0]; exact (Below.refl _ w).alloc (Nat.le_refl _) _
  rw [hW0]
  obtain ⟨W1, hW1⟩ : ∃ W1, (W0.alloc (.deferred (some []))).alloc (.loop (apRec fn (.func (.func g) #[] lb) w.heap.size W0.heap.size .ready none)) = W1 := ⟨_, rfl⟩
  have hold : ∀ k, k < W0.heap.size → W1.heap[k]? = W0.heap[k]? := fun k hk => by
    rw [← hW1]; exact (Below.heap_alloc _ _ k (by simp; omega)).trans (Below.heap_alloc _ _ k hk)
  have hb1 : Below w.heap.size w W1 := by rw [← hW1]; exact (hb0.alloc hb0.size _).alloc (by have := hb0.size; simp; omega) _
  have hs1 : W1.heap.size = W0.heap.size + 2 := by rw [← hW1]; simp
  have hM : ApAt w fn (.func (.func g) #[] lb) w.heap.size (W0.heap.size + 1) W0.heap.size [] W1 :=
    ⟨⟨_, (hold w.heap.size (by omega)).trans hv0, ⟨rfl, .inl ⟨rfl, rfl⟩⟩, by simp⟩,
     by rw [← hW1]; have := World.alloc_heap_new (W0.alloc (.deferred (some []))) (.loop (apRec fn (.func (.func g) #[] lb) w.heap.size W0.heap.size .ready none)); rwa [World.size_alloc] at this,
     by rw [← hW1]; exact (Below.heap_alloc _ _ _ (by simp)).trans (World.alloc_heap_new W0 _), hb1⟩
  refine ⟨W0.heap.size + 1, [{ target := .collected W0.heap.size, args := #[] }], W1, { target := .fn (.func g) lb, args := #[.func (.yield (W0.heap.size + 1)) #[] #[]] }, W1, g,
    #[.func (.yield (W0.heap.size + 1)) #[] #[]] ++ lb, W1, ?_, ?_, ?_, ?_, fun _ => h1, ?_⟩
  · rw [← hW1]; exact run_enterLoop_outer _ _ _ _ _
  · simp [resolve, go_sem]
  · intro f' hf'; simp [Target.leads] at hf'; subst hf'; trivial
  · simp [invoke, go_sem, eg]
  · refine (hseq (W0.heap.size + 1) (ApAt w fn (.func (.func g) #[] lb) w.heap.size (W0.heap.size + 1) W0.heap.size) W1 hb1 (ap_abides _ _ _ _ _ _ _ hb1.size)
      (fun pre x W hJ hl => apYield (n - 1 - 1) w fn _ w.heap.size (W0.heap.size + 1) W0.heap.size (by omega) (by omega) (by omega) (Nat.le_refl _) (by omega) N hN hNb pre x W hJ hl) hM).mono ?_
    rintro e W2 ⟨⟨v0, rfl⟩, ss, hS, h2⟩
    obtain ⟨v, hv, hrow, hnil⟩ := h2.box
    have hend := run_endLoop (P := Try.prog) h2.L (by simp [apRec])
    obtain ⟨W3, hW3⟩ : ∃ W3, W2.putObj (W0.heap.size + 1) (.loop { apRec fn (.func (.func g) #[] lb) w.heap.size W0.heap.size .ready none with state := .exhausted }) = W3 := ⟨_, rfl⟩
    rw [hW3] at hend
    have hg3 : W2.grownBy W3 (some (W0.heap.size + 1)) := by rw [← hW3]; exact grownBy_putObj_a _ _ _
    have hv3 : W3.heap[w.heap.size]? = some (.cells #[v] 137 (0, 0)) := by rw [← hW3]; exact (World.putObj_heap_other (by omega)).trans hv
    have hK3 : W3.heap[W0.heap.size]? = some (.deferred (some [])) := by rw [← hW3]; exact (World.putObj_heap_other (by omega)).trans h2.K
    have hrow3 := hrow.kept hg3 (ownsRow_ne_a hrow h2.L (fun cur e => by first | cases e | exact hne (Obj.cells.inj e).2.1))
    have hb3 : Below w.heap.size w W3 := h2.below.grown hg3 h2.below.size (fun k e => by cases e; omega)
    obtain ⟨hc3, hf3⟩ := cell_of_box_a hv3
    clear hW3
    refine ⟨none, W3, hend, ?_⟩
    gi_wp2
    rw [← hs0]
    refine ⟨by simp, .inl ⟨_, _, rfl, run_takeDeferred hK3, ?_⟩⟩
    exact ⟨_, results_tmp rfl _ _ _, v, ss, rfl, hS, hrow3.kept (grownBy_putObj_a _ _ _) (ownsRow_ne_a hrow3 hK3 (fun cur e => by first | cases e | exact hne (Obj.cells.inj e).2.1)), hnil, hb3.grown (grownBy_putObj_a _ _ _) hb3.size (fun k e => by cases e; omega)⟩


set_option maxHeartbeats 1000000 in
/-- **slices.Collect(seq), AGAINST WHATEVER ITERATOR VALUE.** -/
theorem collect_in (n : Nat) (hn : 3 ≤ n) (g : Nat) (lb : Array Value) (eg : ∀ args w, (callFunc g args).run Try.prog w = .ok (.enter g args) w)
    (S : List (Int × Int) → Prop) (N : Nat) (hN : N ≤ maxLen) (hNb : N * 16 ≤ 140737488355328) (w : World) (hseq : SeqGives Fence.wide (n - 1 - 1) Try.prog g lb encE S N w) :
    CallsIn Fence.wide n Try.prog 122 #[.func (.func g) #[] lb] w fun e w' => ∃ (v : Value) (ss : List (Int × Int)), e = .returned v ∧ S ss ∧ w'.ownsRow w.heap.size 140 2 v ss.length (flatE ss) ∧ (v = .slice none 0 0 ↔ ss = []) ∧ Below w.heap.size w w' := by
  have h1 : 1 ≤ n := by omega
  have h11 : Fence.wide.fn 128 := trivial
  have e11 : ∀ args w, (callFunc 128 args).run Try.prog w = .ok (.enter 128 args) w := enters_of Try.func128 (by kernel_rfl) rfl
  have u24 := Try.underlying137
  have u26 := Try.underlying140
  have u2 := Try.underlying2
  refine callsIn_of_wp Try.func122 rfl trivial ?_ rfl
  simp only [Try.ntmps122, List.size_toArray, List.length_cons, List.length_nil, Nat.reduceAdd, Nat.reduceSub, Array.replicate_succ, Array.replicate_zero, List.push_toArray, List.append_toArray, List.nil_append, List.cons_append]
  gi_wp2_with (gi_at_fn 128; refine (appendSeq_in (n - 1) (by omega) g lb eg S N hN hNb _ hseq).mono ?_; rintro e w' ⟨v, ss, rfl, hS, hrow, hnil, hb⟩)
  go_ret
  exact ⟨v, ss, rfl, hS, hrow, hnil, hb⟩

end Go.Proofs.Ytockhhfehjoldab


/-
compareEdges; cmp.Or of two; slices.SortFunc at edges. Conditions: none.
-/
namespace Go.Proofs
open Go Go.Shelf Go.RowKit Go.Lib Go.Sort
shelf_lay_g SlLaysF0.n6 Slsf 6 at Try 123 as Try.sortEdges
end Go.Proofs
namespace Go.Proofs.Ytockhhfehjoldab
open Go Fk Go.RowKit Go.Maps Go.Sort Go.Shelf Go.Lib
set_option linter.unusedVariables false
set_option maxRecDepth 16000

/-- The cells of an edge. -/
def cellsE (x : Int × Int) : List Value := [.int .i64 x.1, .int .i64 x.2]
/-- How edges are compared. -/
def cfE (x y : Int × Int) : Int := if Lib.compareInt x.1 y.1 = 0 then Lib.compareInt x.2 y.2 else Lib.compareInt x.1 y.1
def ltE (x y : Int × Int) : Bool := decide (x.1 < y.1 ∨ x.1 = y.1 ∧ x.2 < y.2)
theorem ltOf_cfE (x y : Int × Int) : ltOf cfE x y = ltE x y := by
  unfold ltOf cfE ltE Lib.compareInt
  by_cases h1 : x.1 < y.1
  · simp [h1]
  · by_cases h2 : y.1 < x.1
    · have : ¬ x.1 = y.1 := by omega
      simp [h1, h2, this]
    · have h3 : x.1 = y.1 := by omega
      by_cases h4 : x.2 < y.2
      · simp [h3, h4]
      · by_cases h5 : y.2 < x.2
        · simp [h3, h4, h5]
        · simp [h3, h4, h5]
theorem swoE : SWO (ltOf cfE) where
  irrefl x := by rw [ltOf_cfE]; unfold ltE; simp
  trans x y z h1 h2 := by rw [ltOf_cfE] at *; unfold ltE at *; simp at *; omega
  ntrans x y z h1 h2 := by rw [ltOf_cfE] at *; unfold ltE at *; simp at *; omega
theorem totE (x y : Int × Int) (h1 : ltOf cfE x y = false) (h2 : ltOf cfE y x = false) : x = y := by
  rw [ltOf_cfE] at h1 h2
  unfold ltE at h1 h2
  simp at h1 h2
  exact Prod.ext (by omega) (by omega)

theorem cmp_isNaN (x : Int) (W : World) : Calls Try.prog 131 #[.int .i64 x] W fun e w' => e = .returned (.bool false) ∧ w' = W := by
  go_enter Try.func131, Try.ntmps131
  go_wp2
  go_ret
  exact ⟨by simp, rfl⟩
theorem cmp_Compare64 (x y : Int) (W : World) : Calls Try.prog 126 #[.int .i64 x, .int .i64 y] W fun e w' => e = .returned (.int .i64 (Lib.compareInt x y)) ∧ w' = W := by
  have J1 := Lib.hid (cmp_isNaN x)
  have J2 := Lib.hid (cmp_isNaN y)
  unfold Lib.compareInt
  by_cases h1 : x < y
  · rw [if_pos h1]
    go_enter Try.func126, Try.ntmps126
    go_wp2_with fail
    refine (J1.out _).mono ?_
    rintro e w1 ⟨rfl, rfl⟩
    go_wp2_with fail
    refine (J2.out _).mono ?_
    rintro e w2 ⟨rfl, rfl⟩
    go_wp2
    go_ret
    exact ⟨rfl, rfl⟩
  · rw [if_neg h1]
    by_cases h2 : x > y
    · rw [if_pos h2]
      go_enter Try.func126, Try.ntmps126
      go_wp2_with fail
      refine (J1.out _).mono ?_
      rintro e w1 ⟨rfl, rfl⟩
      go_wp2_with fail
      refine (J2.out _).mono ?_
      rintro e w2 ⟨rfl, rfl⟩
      go_wp2
      go_ret
      exact ⟨rfl, rfl⟩
    · rw [if_neg h2]
      go_enter Try.func126, Try.ntmps126
      go_wp2_with fail
      refine (J1.out _).mono ?_
      rintro e w1 ⟨rfl, rfl⟩
      go_wp2_with fail
      refine (J2.out _).mono ?_
      rintro e w2 ⟨rfl, rfl⟩
      go_wp2
      go_ret
      exact ⟨rfl, rfl⟩
set_option maxHeartbeats 1000000 in
theorem cmp_Or2 (g : Nat) (x y : Int) (W : World) (h0 : W.cell? ⟨g, 0, none⟩ = some (.int .i64 x)) (h1 : W.cell? ⟨g, 1, none⟩ = some (.int .i64 y)) :
    Calls Try.prog 125 #[.slice (some ⟨g, 0, none⟩) 2 2] W fun e w' => e = .returned (.int .i64 (if x = 0 then y else x)) ∧ w' = W := by
  by_cases hx : x = 0
  · subst hx
    by_cases hy : y = 0
    · subst hy
      go_enter Try.func125, Try.ntmps125
      go_wp2
      refine wp_loop_rounds 3 ?_
      rw [rounds_succ]
      go_wp2
      rw [rounds_succ]
      go_wp2
      rw [rounds_succ]
      go_wp2
      go_ret
      exact ⟨rfl, rfl⟩
    · go_enter Try.func125, Try.ntmps125
      go_wp2
      refine wp_loop_rounds 3 ?_
      rw [rounds_succ]
      go_wp2
      rw [rounds_succ]
      go_wp2
      go_ret
      exact ⟨by simp, rfl⟩
  · rw [if_neg hx]
    go_enter Try.func125, Try.ntmps125
    go_wp2
    refine wp_loop_rounds 3 ?_
    rw [rounds_succ]
    go_wp2
    go_ret
    exact ⟨rfl, rfl⟩

/-- A world grown out of another. -/
def Grew (w w' : World) : Prop := ∃ q os, w' = grow (w.drewN q) os
theorem Grew.refl (w : World) : Grew w w := ⟨0, #[], by simp [grow, World.drewN]⟩
theorem Grew.alloc {w w' : World} (h : Grew w w') (o : Obj) : Grew w (w'.alloc o) := by
  obtain ⟨q, os, rfl⟩ := h
  exact ⟨q, os ++ #[o], by rw [alloc_eq_grow, grow_grow]⟩
theorem Grew.draw {w w' : World} (h : Grew w w') : Grew w { w' with drawn := w'.drawn + 1 } := by
  obtain ⟨q, os, rfl⟩ := h
  exact ⟨q + 1, os, rfl⟩

set_option maxHeartbeats 2000000 in
theorem impl_compareEdges (x y : Int × Int) (w : World) : Calls Try.prog 115 #[.agg #[.int .i64 x.1, .int .i64 x.2], .agg #[.int .i64 y.1, .int .i64 y.2]] w fun e w' => e = .returned (.int .i64 (cfE x y)) ∧ Grew w w' := by
  have ue := Try.underlying140
  have ui := Try.underlying2
  have H1 := Lib.hid (cmp_Compare64 x.1 y.1)
  have H2 := Lib.hid (cmp_Compare64 x.2 y.2)
  have HE : cfE x y = if Lib.compareInt x.1 y.1 = 0 then Lib.compareInt x.2 y.2 else Lib.compareInt x.1 y.1 := rfl
  generalize cfE x y = r at HE ⊢
  generalize Lib.compareInt x.1 y.1 = c1 at *
  generalize Lib.compareInt x.2 y.2 = c2 at *
  have HR := Lib.hid HE
  clear HE
  obtain ⟨x1, x2⟩ := x
  obtain ⟨y1, y2⟩ := y
  have k0 : ((w.alloc (.cells #[.int .i64 x1, .int .i64 x2] 140)).alloc (.cells #[.int .i64 y1, .int .i64 y2] 140)).cell? ⟨w.heap.size, 0, none⟩ = some (.int .i64 x1) := by go_simp
  have k1 : ((w.alloc (.cells #[.int .i64 x1, .int .i64 x2] 140)).alloc (.cells #[.int .i64 y1, .int .i64 y2] 140)).cell? ⟨w.heap.size, 1, none⟩ = some (.int .i64 x2) := by go_simp
  have k2 : ((w.alloc (.cells #[.int .i64 x1, .int .i64 x2] 140)).alloc (.cells #[.int .i64 y1, .int .i64 y2] 140)).cell? ⟨w.heap.size + 1, 0, none⟩ = some (.int .i64 y1) := by go_simp
  have k3 : ((w.alloc (.cells #[.int .i64 x1, .int .i64 x2] 140)).alloc (.cells #[.int .i64 y1, .int .i64 y2] 140)).cell? ⟨w.heap.size + 1, 1, none⟩ = some (.int .i64 y2) := by go_simp
  have hg : Grew w ((w.alloc (.cells #[.int .i64 x1, .int .i64 x2] 140)).alloc (.cells #[.int .i64 y1, .int .i64 y2] 140)) := ((Grew.refl w).alloc _).alloc _
  have HG := Lib.hid hg
  clear hg
  go_enter Try.func115, Try.ntmps115
  go_wp2_with fail
  generalize ((w.alloc (.cells #[.int .i64 x1, .int .i64 x2] 140)).alloc (.cells #[.int .i64 y1, .int .i64 y2] 140)) = W at *
  generalize w.heap.size + 1 = b' at *
  generalize w.heap.size = b at *
  refine Reg.wp_region_mix (C := fun w' => (w'.cell? ⟨b, 0, none⟩ = some (.int .i64 x1) ∧ w'.cell? ⟨b, 1, none⟩ = some (.int .i64 x2) ∧ w'.cell? ⟨b', 0, none⟩ = some (.int .i64 y1) ∧ w'.cell? ⟨b', 1, none⟩ = some (.int .i64 y2)) ∧ Grew w w') (G := fun w1 w2 => Below w1.heap.size w1 w2)
    (R := fun i v w' => match i with
      | 0 => v = .pointer (some ⟨b, 0, none⟩)
      | 1 => v = .int .i64 x1
      | 2 => v = .pointer (some ⟨b', 0, none⟩)
      | 3 => v = .int .i64 y1
      | 4 => v = .int .i64 c1
      | 5 => v = .pointer (some ⟨b, 1, none⟩)
      | 6 => v = .int .i64 x2
      | 7 => v = .pointer (some ⟨b', 1, none⟩)
      | 8 => v = .int .i64 y2
      | 9 => v = .int .i64 c2
      | 10 => ∃ g, v = .slice (some ⟨g, 0, none⟩) 2 2 ∧ w'.cell? ⟨g, 0, none⟩ = some (.int .i64 c1) ∧ w'.cell? ⟨g, 1, none⟩ = some (.int .i64 c2)
      | 11 => v = .int .i64 r
      | 12 => v = .int .i64 r
      | _ => True) (T := fun _ _ _ => True) [false, false, false, false, true, true, true, true, true, true, true, true, true, true, true, true, true]
    (by kernel_rfl) (by kernel_rfl) (by kernel_rfl) ?_ ⟨⟨k0, k1, k2, k3⟩, HG.out.draw⟩ ?_ ?_
  · intro j v w1 w2 _ hG hR
    match j with
    | 0 => exact hR
    | 1 => exact hR
    | 2 => exact hR
    | 3 => exact hR
    | 4 => exact hR
    | 5 => exact hR
    | 6 => exact hR
    | 7 => exact hR
    | 8 => exact hR
    | 9 => exact hR
    | 10 => obtain ⟨g, e, h1, h2⟩ := hR; exact ⟨g, e, cell_below hG h1, cell_below hG h2⟩
    | 11 => exact hR
    | 12 => exact hR
    | _ + 13 => trivial
  · refine ⟨Reg.Obl.mk ?_, Reg.Obl.mk ?_, Reg.Obl.mk ?_, Reg.Obl.mk ?_, Reg.Obl.mk ?_, Reg.Obl.mk ?_, Reg.Obl.mk ?_, Reg.Obl.mk ?_, Reg.Obl.mk ?_, Reg.Obl.mk ?_, Reg.Obl.mk ?_, Reg.Obl.mk ?_, Reg.Obl.mk ?_, trivial⟩
    · rintro a w1 ⟨⟨y0, y1', y2', y3⟩, hB⟩ hx hd K hK
      have t2 : a.tmps[2]?.getD undef = .pointer (some ⟨b, 0, none⟩) := Reg.slot_val (hx 2 (by kernel_rfl))
      go_simp
      exact hK _ _ (fun _ => rfl) (fun h => by cases h) ⟨⟨y0, y1', y2', y3⟩, hB⟩ (Below.refl _ _)
    · rintro a w1 ⟨⟨y0, y1', y2', y3⟩, hB⟩ hx hd K hK
      have t5 : a.tmps[5]?.getD undef = .pointer (some ⟨b, 0, none⟩) := Reg.slot_val (hd 0 (by kernel_rfl) 5 rfl)
      go_simp
      exact hK _ _ (fun _ => rfl) (fun h => by cases h) ⟨⟨y0, y1', y2', y3⟩, hB⟩ (Below.refl _ _)
    · rintro a w1 ⟨⟨y0, y1', y2', y3⟩, hB⟩ hx hd K hK
      have t3 : a.tmps[3]?.getD undef = .pointer (some ⟨b', 0, none⟩) := Reg.slot_val (hx 3 (by kernel_rfl))
      go_simp
      exact hK _ _ (fun _ => rfl) (fun h => by cases h) ⟨⟨y0, y1', y2', y3⟩, hB⟩ (Below.refl _ _)
    · rintro a w1 ⟨⟨y0, y1', y2', y3⟩, hB⟩ hx hd K hK
      have t7 : a.tmps[7]?.getD undef = .pointer (some ⟨b', 0, none⟩) := Reg.slot_val (hd 2 (by kernel_rfl) 7 rfl)
      go_simp
      exact hK _ _ (fun _ => rfl) (fun h => by cases h) ⟨⟨y0, y1', y2', y3⟩, hB⟩ (Below.refl _ _)
    · rintro a w1 ⟨⟨y0, y1', y2', y3⟩, hB⟩ hx hd K hK
      have t6 : a.tmps[6]?.getD undef = .int .i64 x1 := Reg.slot_val (hd 1 (by kernel_rfl) 6 rfl)
      have t8 : a.tmps[8]?.getD undef = .int .i64 y1 := Reg.slot_val (hd 3 (by kernel_rfl) 8 rfl)
      go_simp
      refine (H1.out w1).mono ?_
      rintro en w2 ⟨rfl, rfl⟩
      exact hK _ _ (fun _ => rfl) (fun h => by cases h) ⟨⟨y0, y1', y2', y3⟩, hB⟩ (Below.refl _ _)
    · rintro a w1 ⟨⟨y0, y1', y2', y3⟩, hB⟩ hx hd K hK
      have t2 : a.tmps[2]?.getD undef = .pointer (some ⟨b, 0, none⟩) := Reg.slot_val (hx 2 (by kernel_rfl))
      go_simp
      exact hK _ _ (fun _ => rfl) (fun h => by cases h) ⟨⟨y0, y1', y2', y3⟩, hB⟩ (Below.refl _ _)
    · rintro a w1 ⟨⟨y0, y1', y2', y3⟩, hB⟩ hx hd K hK
      have t10 : a.tmps[10]?.getD undef = .pointer (some ⟨b, 1, none⟩) := Reg.slot_val (hd 5 (by kernel_rfl) 10 rfl)
      go_simp
      exact hK _ _ (fun _ => rfl) (fun h => by cases h) ⟨⟨y0, y1', y2', y3⟩, hB⟩ (Below.refl _ _)
    · rintro a w1 ⟨⟨y0, y1', y2', y3⟩, hB⟩ hx hd K hK
      have t3 : a.tmps[3]?.getD undef = .pointer (some ⟨b', 0, none⟩) := Reg.slot_val (hx 3 (by kernel_rfl))
      go_simp
      exact hK _ _ (fun _ => rfl) (fun h => by cases h) ⟨⟨y0, y1', y2', y3⟩, hB⟩ (Below.refl _ _)
    · rintro a w1 ⟨⟨y0, y1', y2', y3⟩, hB⟩ hx hd K hK
      have t12 : a.tmps[12]?.getD undef = .pointer (some ⟨b', 1, none⟩) := Reg.slot_val (hd 7 (by kernel_rfl) 12 rfl)
      go_simp
      exact hK _ _ (fun _ => rfl) (fun h => by cases h) ⟨⟨y0, y1', y2', y3⟩, hB⟩ (Below.refl _ _)
    · rintro a w1 ⟨⟨y0, y1', y2', y3⟩, hB⟩ hx hd K hK
      have t11 : a.tmps[11]?.getD undef = .int .i64 x2 := Reg.slot_val (hd 6 (by kernel_rfl) 11 rfl)
      have t13 : a.tmps[13]?.getD undef = .int .i64 y2 := Reg.slot_val (hd 8 (by kernel_rfl) 13 rfl)
      go_simp
      refine (H2.out w1).mono ?_
      rintro en w2 ⟨rfl, rfl⟩
      exact hK _ _ (fun _ => rfl) (fun h => by cases h) ⟨⟨y0, y1', y2', y3⟩, hB⟩ (Below.refl _ _)
    · rintro a w1 ⟨⟨y0, y1', y2', y3⟩, hB⟩ hx hd K hK
      have t9 : a.tmps[9]?.getD undef = .int .i64 c1 := Reg.slot_val (hd 4 (by kernel_rfl) 9 rfl)
      have t14 : a.tmps[14]?.getD undef = .int .i64 c2 := Reg.slot_val (hd 9 (by kernel_rfl) 14 rfl)
      go_simp
      have hn : Below w1.heap.size w1 (w1.alloc (.cells #[.int .i64 c1, .int .i64 c2] 3)) := (Below.refl _ _).alloc (Nat.le_refl _) _
      refine hK _ _ (fun _ => ⟨_, rfl, by go_simp, by go_simp⟩) (fun h => by cases h) ⟨⟨cell_below hn y0, cell_below hn y1', cell_below hn y2', cell_below hn y3⟩, hB.alloc _⟩ hn
    · rintro a w1 ⟨⟨y0, y1', y2', y3⟩, hB⟩ hx hd K hK
      obtain ⟨g, e15, g0, g1⟩ := hd 10 (by kernel_rfl) 15 rfl
      have t15 : a.tmps[15]?.getD undef = .slice (some ⟨g, 0, none⟩) 2 2 := Reg.slot_val e15
      go_simp
      refine (cmp_Or2 g c1 c2 w1 g0 g1).mono ?_
      rintro en w2 ⟨rfl, rfl⟩
      rw [← HR.out]
      exact hK _ _ (fun _ => rfl) (fun h => by cases h) ⟨⟨y0, y1', y2', y3⟩, hB⟩ (Below.refl _ _)
    · rintro a w1 ⟨⟨y0, y1', y2', y3⟩, hB⟩ hx hd K hK
      have t16 : a.tmps[16]?.getD undef = .int .i64 r := Reg.slot_val (hd 11 (by kernel_rfl) 16 rfl)
      go_simp
      exact hK _ _ (fun _ => rfl) (fun h => by cases h) ⟨⟨y0, y1', y2', y3⟩, hB⟩ (Below.refl _ _)
  · rintro f w6 ⟨_, hgw⟩ hR hT
    have e4 := hR 12 4 rfl
    clear hR hT
    go_wp2
    go_ret
    exact ⟨e4 ▸ rfl, hgw⟩
theorem cmpLaysE (blk off size : Nat) (w : World) : CmpLays Try.prog 115 #[] cellsE 2 cfE blk off size w :=
  fun _ _ _ _ x y => impl_compareEdges x y _
set_option maxHeartbeats 1000000 in
/-- slices.SortFunc of edges by compareEdges. -/
theorem sort_edges (blk off cap : Nat) (d : Array (Int × Int)) (w : World) (hH : HoldsK cellsE 2 w blk off d) (hblk : blk < w.heap.size) (hsz : d.size < 4611686018427387904) :
    Calls Try.prog 123 #[.slice (some ⟨blk, off, none⟩) d.size cap, .func (.func 115) #[] #[]] w fun e w' =>
      e = .returned (.tuple #[]) ∧ ∃ n os, w' = sortWorldK cellsE 2 w blk off n (d.toList.mergeSort fun x y => !(ltOf cfE) y x).toArray os := by
  have eg : ∀ args w, (callFunc 115 args).run Try.prog w = .ok (.enter 115 args) w := enters_of Try.func115 (by kernel_rfl) rfl
  have hcon := AnyQ.slices_SortFunc_total Try.sortEdges 2 Try.isAgg140 Try.sizeOf140 cellsE (fun _ => rfl) (fun x v hv => by simp [cellsE] at hv; rcases hv with rfl | rfl <;> rfl) cfE swoE 115 #[] blk off cap d w eg (cmpLaysE blk off d.size w) hH hblk hsz totE
  exact hcon
theorem sort_none (p : Option Addr) (cap : Nat) (fv : Value) (w : World) : Calls Try.prog 123 #[.slice p 0 cap, fv] w fun e w' => e = .returned (.tuple #[]) ∧ w' = w := by
  have hcon := AnyF.slices_SortFunc_none Try.sortEdges p cap fv w
  exact hcon
end Go.Proofs.Ytockhhfehjoldab


/-
sortedEdges: the keys of a map of lists by edges, in order. Conditions: none.
-/
namespace Go.Proofs.Ytockhhfehjoldab
open Go Fk Go.RowKit Go.Maps Go.Sort Go.Shelf Go.Lib
set_option linter.unusedVariables false
set_option maxRecDepth 100000

theorem flatE_cons (x : Int × Int) (ss : List (Int × Int)) : flatE (x :: ss) = .int .i64 x.1 :: .int .i64 x.2 :: flatE ss := by simp [flatE]
theorem flatE_len (ss : List (Int × Int)) : (flatE ss).length = ss.length * 2 := by
  induction ss with
  | nil => rfl
  | cons x ss ih => rw [flatE_cons]; simp [ih]; omega
theorem flatE_get : ∀ (ss : List (Int × Int)) (t : Nat), t < ss.length * 2 → (flatE ss)[t]? = some ((cellsE (ss.toArray[t / 2]!))[t % 2]!)
  | [], t, h => by simp at h
  | x :: ss, 0, h => by rw [flatE_cons]; simp [cellsE]
  | x :: ss, 1, h => by rw [flatE_cons]; simp [cellsE]
  | x :: ss, t + 2, h => by
    rw [flatE_cons, List.getElem?_cons_succ, List.getElem?_cons_succ, flatE_get ss t (by simp at h; omega)]
    have h1 : (t + 2) / 2 = t / 2 + 1 := by omega
    have h2 : (t + 2) % 2 = t % 2 := by omega
    rw [h1, h2]
    have h3 : t / 2 < ss.length := by simp at h; omega
    simp [h3]
theorem flatK_E (ss : List (Int × Int)) (t : Nat) (h : t < ss.length * 2) : (flatE ss)[t]? = some (flatK cellsE 2 ss.toArray)[t]! := by
  rw [get_flatK _ _ _ _ (by simpa using h)]
  exact flatE_get ss t h
theorem holds_edges {w : World} {g : Nat} {cur : Array Value} {e : TypeId} {ss : List (Int × Int)} (hb : w.heap[g]? = some (.cells cur e (0, 0))) (ht : cur.toList.take (ss.length * 2) = flatE ss) : HoldsK cellsE 2 w g 0 ss.toArray := by
  intro j hj
  have hj' : j < ss.length * 2 := by simpa using hj
  refine ⟨?_, by simp [World.frozen?, hb]⟩
  have h1 : (cur.toList.take (ss.length * 2))[j]? = (flatE ss)[j]? := by rw [ht]
  rw [List.getElem?_take_of_lt hj', flatK_E ss j hj'] at h1
  simp only [World.cell?, hb, Nat.zero_add]
  simp only [Option.isSome_none, Bool.false_eq_true, if_false]
  rw [← Array.getElem?_toList, h1]
  rfl
theorem heap_sortedK {w : World} {g n : Nat} {os : Array Obj} {cur : Array Value} {e : TypeId} {fr : Nat × Nat} (d : Array (Int × Int)) (hb : w.heap[g]? = some (.cells cur e fr)) :
    (sortWorldK cellsE 2 w g 0 n d os).heap[g]? = some (.cells (putCells id 0 (flatK cellsE 2 d) cur) e fr) := by
  have hg : g < w.heap.size := (Array.getElem?_eq_some_iff.1 hb).1
  unfold sortWorldK putRowK
  rw [heap_grow_old _ _ (by simpa using hg)]
  simp [putRow, mapBlock, Sort.ahead, Array.getElem?_modify, hb, onCells]
theorem grownBy_sortedK {w : World} {g n : Nat} {os : Array Obj} (d : Array (Int × Int)) : w.grownBy (sortWorldK cellsE 2 w g 0 n d os) (some g) := by
  unfold sortWorldK putRowK
  refine ⟨rfl, rfl, rfl, by simp, fun k hk hne => ?_⟩
  rw [heap_grow_old _ _ (by simpa using hk)]
  have : g ≠ k := fun e => hne (by rw [e])
  simp [putRow, mapBlock, Sort.ahead, Array.getElem?_modify, this]
theorem take_putK (cur : Array Value) (ts : List (Int × Int)) (h : ts.length * 2 ≤ cur.size) : (putCells id 0 (flatK cellsE 2 ts.toArray) cur).toList.take (ts.length * 2) = flatE ts := by
  apply List.ext_getElem?
  intro j
  by_cases hj : j < ts.length * 2
  · rw [List.getElem?_take_of_lt hj, Array.getElem?_toList, flatK_E ts j hj]
    simp [putCells, hj, show j < cur.size by omega]
  · rw [List.getElem?_take_eq_none (by omega), List.getElem?_eq_none (by rw [flatE_len]; omega)]
theorem ownsRow_sortedK {w : World} {base g cap n : Nat} {e : TypeId} {os : Array Obj} {cur : Array Value} {ss ts : List (Int × Int)} (hl : ts.length = ss.length) (hbase : base ≤ g) (hb : w.heap[g]? = some (.cells cur e (0, 0)))
    (h1 : ss.length ≤ cap) (h2 : cap ≤ maxLen) (h3 : cur.size = cap * 2) :
    (sortWorldK cellsE 2 w g 0 n ts.toArray os).ownsRow base e 2 (.slice (some ⟨g, 0, none⟩) ss.length cap) ss.length (flatE ts) :=
  ⟨by rw [flatE_len, hl], .inr ⟨g, cap, _, rfl, hbase, heap_sortedK _ hb, h1, h2, by simp [putCells, h3], by rw [← hl]; exact take_putK cur ts (by omega)⟩⟩
/-- Edges in order. -/
def sortE (ss : List (Int × Int)) : List (Int × Int) := ss.mergeSort fun x y => !(ltOf cfE) y x

set_option maxHeartbeats 2000000 in
theorem sortedFuncE (n : Nat) (hn : 4 ≤ n) (g : Nat) (lb : Array Value) (eg : ∀ args w, (callFunc g args).run Try.prog w = .ok (.enter g args) w)
    (S : List (Int × Int) → Prop) (N : Nat) (hN : N ≤ maxLen) (hNb : N * 16 ≤ 140737488355328) (w : World) (hseq : SeqGives Fence.wide (n - 1 - 1 - 1) Try.prog g lb encE S N w) :
    CallsIn Fence.wide n Try.prog 113 #[.func (.func g) #[] lb, .func (.func 115) #[] #[]] w fun e w' => ∃ (v : Value) (ss : List (Int × Int)), e = .returned v ∧ S ss ∧
      w'.ownsRow w.heap.size 140 2 v ss.length (flatE (sortE ss)) ∧ (v = .slice none 0 0 ↔ ss = []) ∧ Below w.heap.size w w' := by
  have h1 : 1 ≤ n := by omega
  have h8 : Fence.wide.fn 122 := trivial
  have h9 : Fence.wide.fn 123 := trivial
  have e8 : ∀ args w, (callFunc 122 args).run Try.prog w = .ok (.enter 122 args) w := enters_of Try.func122 (by kernel_rfl) rfl
  have e9 : ∀ args w, (callFunc 123 args).run Try.prog w = .ok (.enter 123 args) w := enters_of Try.func123 (by kernel_rfl) rfl
  refine callsIn_of_wp Try.func113 rfl trivial ?_ rfl
  simp only [Try.ntmps113, List.size_toArray, List.length_cons, List.length_nil, Nat.reduceAdd, Nat.reduceSub, Array.replicate_succ, Array.replicate_zero, List.push_toArray, List.append_toArray, List.nil_append, List.cons_append]
  gi_wp2_with (gi_at_fn 122; refine (collect_in (n - 1) (by omega) g lb eg _ N hN hNb _ hseq.bounded).mono ?_; rintro e W ⟨v, ss, rfl, ⟨hS, hlen⟩, hrow, hnil, hb⟩)
  rcases hrow.2 with ⟨rfl, hz⟩ | ⟨gb, cap, cur, rfl, hbase, hgb, r1, r2, r3, r4⟩
  · have hss : ss = [] := List.eq_nil_of_length_eq_zero hz
    subst hss
    gi_wp2_with (gi_at_fn 123; refine (callsIn_wide.2 (sort_none none 0 _ W)).mono ?_; rintro e w' ⟨rfl, rfl⟩)
    go_ret
    exact ⟨.slice none 0 0, [], rfl, hS, by simpa [sortE] using hrow, by simp, hb⟩
  · have hH : HoldsK cellsE 2 W gb 0 ss.toArray := holds_edges hgb (by simpa using r4)
    have hgl : gb < W.heap.size := (Array.getElem?_eq_some_iff.1 hgb).1
    have hsz : ss.length < 4611686018427387904 := by omega
    have cS := sort_edges gb 0 cap ss.toArray W hH hgl (by simpa using hsz)
    simp only [List.size_toArray] at cS
    gi_wp2_with (gi_at_fn 123; refine (callsIn_wide.2 cS).mono ?_; rintro e w' ⟨rfl, nn, os, rfl⟩)
    go_ret
    exact ⟨_, ss, rfl, hS, ownsRow_sortedK (by simp) hbase hgb r1 r2 r3, hnil, hb.grown (grownBy_sortedK _) hb.size (fun j hj => by cases hj; exact hbase)⟩

set_option maxHeartbeats 1000000 in
theorem impl_sortedEdges (b nn : Nat) (D0 : DataW Unit) (R : Value → Option (DataW Unit × List MemPlace)) (w : World) (hown : w.ownsMap Try.prog 140 R b nn D0) (hmax : Maps.size D0 ≤ maxLen) (hbytes : Maps.size D0 * 16 ≤ 140737488355328) :
    Calls Try.prog 99 #[.map (some b)] w fun e w' => ∃ (v : Value) (ss : List (Int × Int)), e = .returned v ∧ KeysE D0 ss ∧
      w'.ownsRow w.heap.size 140 2 v ss.length (flatE (sortE ss)) ∧ (v = .slice none 0 0 ↔ ss = []) ∧ Below w.heap.size w w' := by
  refine (callsIn_wide (n := 6)).1 ?_
  have hbl := hown.lt
  have hseq := keysE_gives 2 (by omega) w.heap.size b nn D0 (R := R) (w.alloc (.cells #[.map (some b)] 133)) (by simp) (by simp) (by
      obtain ⟨es, clock, hb, Ft, hs, hD⟩ := hown
      exact ⟨es, clock, (Below.heap_alloc _ _ b hbl).trans hb, Ft, hs, hD⟩)
  have cK := fun mb W => maps_KeysE 5 mb W
  have cS := sortedFuncE 5 (by omega) 124 #[.pointer (some ⟨w.heap.size, 0, none⟩)] (enters_of Try.func124 (by kernel_rfl) rfl) _ _ hmax hbytes _ hseq
  have hfK : Fence.wide.fn 114 := trivial
  have hfS : Fence.wide.fn 113 := trivial
  refine callsIn_of_wp Try.func99 rfl trivial ?_ rfl
  simp only [Try.ntmps99, List.size_toArray, List.length_cons, List.length_nil, Nat.reduceAdd, Nat.reduceSub, Array.replicate_succ, Array.replicate_zero, List.push_toArray, List.append_toArray, List.nil_append, List.cons_append]
  gi_wp2_with (first
    | (gi_at_call 114; refine (cK _ _).mono ?_; rintro e w' ⟨rfl, rfl⟩)
    | (gi_at_call 113; refine cS.mono ?_; rintro e w' ⟨v, ss, rfl, hS, hrow, hnil, hb⟩))
  go_ret
  exact ⟨v, ss, rfl, hS, ownsRow_base_a hrow (by simp), hnil, ((Below.refl _ w).alloc (Nat.le_refl _) _).trans (hb.mono (by simp))⟩
end Go.Proofs.Ytockhhfehjoldab

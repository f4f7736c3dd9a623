/-
Texts in one: what RestOf stands on, part 12. Conditions: those of each.
-/
import Derived.Test.YtcgnmnbjgamedabGreatKRestOf11
import Derived.Maps.AppendAt
import Derived.Shelf.Abstract
import Derived.Shelf.SlSortCmp.NoneTotal
import Derived.Shelf.Lay
import Derived.Ground.SlsfProg
import Derived.Lib.Small
import Derived.RangeFuncBound
import Derived.Sort.OwnSorted
import Derived.WalkKit

/-
slices.Collect of edges against whatever iterator. Conditions: none.
-/
namespace Go.Proofs.YtcgnmnbjgamedabGreat
open Go Fk Go.RowKit Go.Maps Go.Sort Go.Shelf
set_option linter.unusedVariables false
set_option maxRecDepth 100000

theorem infoE : (Tryz.prog.info? 181).map (fun i => (i.zero, i.size, i.bytes)) = some (some (.agg #[.int .i64 0, .int .i64 0]), 2, 16) := by kernel_rfl
/-- The cells of a list of edges. -/
def flatE (ss : List (Int × Int)) : List Value := ss.flatMap fun x => [.int .i64 x.1, .int .i64 x.2]
theorem flatE_snoc (ss : List (Int × Int)) (x : Int × Int) : flatE (ss ++ [x]) = flatE ss ++ [.int .i64 x.1, .int .i64 x.2] := by simp [flatE]
theorem cell_two_new (w : World) (x y : Value) (t : TypeId) : ∀ j u, [x, y][j]? = some u → (w.alloc (.cells #[x, y] t)).cell? ((⟨w.heap.size, 0, none⟩ : Addr).add j) = some u := by
  intro j u hj
  match j, hj with
  | 0, hj =>
    simp at hj
    subst hj
    simp [Addr.add]
  | 1, hj =>
    simp at hj
    subst hj
    simp [Addr.add]
def apAssign : Code := (Code.region 2 #[{ dst := some 5, op := Op.alloc 181, type := 0, pos := "iter.go:51", after := #[], guard := none }, { dst := none, op := Op.store 181 (Operand.tmp 5) (Operand.tmp 7), type := 0, pos := "iter.go:51", after := #[{ on := 0, ground := Ground.data }, { on := 0, ground := Ground.phase }], guard := none }] false)
def apBody : Code := (Code.block 1 (Code.region 3 #[{ dst := some 8, op := Op.load 178 (Operand.tmp 2), type := 178, pos := "iter.go:52", after := #[], guard := none }, { dst := some 9, op := Op.load 181 (Operand.tmp 5), type := 181, pos := "iter.go:52", after := #[], guard := none }, { dst := some 10, op := Op.buildSlice 178 1 #[(0, Operand.tmp 9)], type := 178, pos := "iter.go:52", after := #[{ on := 1, ground := Ground.data }], guard := none }, { dst := some 11, op := Op.call { callee := Callee.builtin Builtin.append, args := #[Operand.tmp 8, Operand.tmp 10], argTypes := #[178, 178] }, type := 178, pos := "iter.go:52", after := #[{ on := 0, ground := Ground.data }, { on := 2, ground := Ground.data }], guard := none }, { dst := none, op := Op.store 178 (Operand.tmp 2) (Operand.tmp 11), type := 0, pos := "iter.go:52", after := #[{ on := 3, ground := Ground.data }, { on := 3, ground := Ground.chain }, { on := 0, ground := Ground.phase }, { on := 1, ground := Ground.phase }, { on := 2, ground := Ground.phase }, { on := 3, ground := Ground.phase }], guard := none }] false))
/-- The loop's record: AppendSeq's temporaries as they stood at the entering: 's' boxed in block Bs; sv: the iterator's value. -/
def apRec (fn : FuncId) (sv : Value) (Bs D : Nat) (st : LoopState) (pend : Option Code) : Loop :=
  { state := st, pending := pend, fn, tmps := #[.slice none 0 0, sv, .pointer (some ⟨Bs, 0, none⟩), undef, .slice none 0 0, undef, sv, undef, undef, undef, undef, undef, undef], params := #[7], assign := apAssign, body := apBody, defers := D }

/-- BETWEEN TWO ROUNDS: the box holds a slice that owns, in a block of the call's own, what has come so far; IT IS nil JUST AS LONG AS NOTHING HAS COME; nothing that lay before the call has turned. -/
structure ApAt (w0 : World) (fn : FuncId) (sv : Value) (Bs l D : Nat) (ss : List (Int × Int)) (W : World) : Prop where
  box : ∃ v, W.heap[Bs]? = some (.cells #[v] 178 (0, 0)) ∧ W.ownsRow w0.heap.size 181 2 v ss.length (flatE ss) ∧ (v = .slice none 0 0 ↔ ss = [])
  L : W.heap[l]? = some (.loop (apRec fn sv Bs D .ready none))
  K : W.heap[D]? = some (.deferred (some []))
  below : Below w0.heap.size w0 W

theorem ap_abides (w0 : World) (fn : FuncId) (sv : Value) (Bs l D B : Nat) (hB : w0.heap.size ≤ B) : AbidesFrom B (ApAt w0 fn sv Bs l D) := fun s W W' row h hg hrow => by
  have hrow' : ∀ r, row = some r → ∃ o : Obj, W.heap[r]? = some o ∧ o.isWalk = true := fun r e => (hrow r e).2
  obtain ⟨v, hv, hr, hn⟩ := h.box
  exact ⟨⟨v, (grownBy_keeps hg hrow' hv rfl).trans hv, ownsRow_abides_a hr hg hrow', hn⟩, (grownBy_keeps hg hrow' h.L rfl).trans h.L, (grownBy_keeps hg hrow' h.K rfl).trans h.K,
    h.below.grown hg h.below.size (fun k e => Nat.le_trans hB (hrow k e).1)⟩

set_option maxRecDepth 100000 in
set_option maxHeartbeats 2000000 in
theorem apYield (m : Nat) (w0 : World) (fn : FuncId) (sv : Value) (Bs l D : Nat) (hBl : Bs ≠ l) (hDl : D ≠ l) (hDB : D ≠ Bs) (h0B : w0.heap.size ≤ Bs) (h0l : w0.heap.size ≤ l)
    (N : Nat) (hN : N ≤ maxLen) (hNb : N * 16 ≤ 140737488355328) (ss : List (Int × Int)) (x : Int × Int) (W : World) (h : ApAt w0 fn sv Bs l D ss W) (hlen : ss.length < N) :
    YieldAt Fence.wide m Tryz.prog l #[encE x] W fun e W' => e = .returned (.bool true) ∧ ApAt w0 fn sv Bs l D (ss ++ [x]) W' ∧ KeepsWalks W W' := by
  have u24 := Tryz.underlying178
  have u26 := Tryz.underlying181
  have u2 := Tryz.underlying2
  have hne : (178 : TypeId) ≠ 181 := by decide
  obtain ⟨i0, hi, hz0, hz1, hz2⟩ := info_parts infoE
  obtain ⟨v, hv, hrow, _⟩ := h.box
  refine ⟨fn, #[.slice none 0 0, sv, .pointer (some ⟨Bs, 0, none⟩), undef, .slice none 0 0, undef, sv, .agg #[.int .i64 x.1, .int .i64 x.2], undef, undef, undef, undef, undef], apAssign, apBody, by simpa [apRec, encE] using run_yield (P := Tryz.prog) (args := #[encE x]) h.L rfl, roundIn_of_wpIn (F := Fence.wide) trivial ?_⟩
  have hl0 : l < W.heap.size := (Array.getElem?_eq_some_iff.1 h.L).1
  have hB0 : Bs < W.heap.size := (Array.getElem?_eq_some_iff.1 hv).1
  have hD0 : D < W.heap.size := (Array.getElem?_eq_some_iff.1 h.K).1
  obtain ⟨W1, hW1⟩ : ∃ W1, W.alloc (.cells #[.int .i64 x.1, .int .i64 x.2] 181) = W1 := ⟨_, rfl⟩
  have hs1 : W1.heap.size = W.heap.size + 1 := by rw [← hW1]; simp
  have hl : l < W1.heap.size := by omega
  have hL1 : W1.heap[l]? = some (.loop (apRec fn sv Bs D .ready none)) := by rw [← hW1]; exact (Below.heap_alloc _ _ l hl0).trans h.L
  have hv1 : W1.heap[Bs]? = some (.cells #[v] 178 (0, 0)) := by rw [← hW1]; exact (Below.heap_alloc _ _ Bs hB0).trans hv
  have hK1 : W1.heap[D]? = some (.deferred (some [])) := by rw [← hW1]; exact (Below.heap_alloc _ _ D hD0).trans h.K
  have hrow1 : W1.ownsRow w0.heap.size 181 2 v ss.length (flatE ss) := by rw [← hW1]; exact hrow.alloc _
  have hb1 : Below w0.heap.size w0 W1 := by rw [← hW1]; exact h.below.alloc h.below.size _
  have hk1 : KeepsWalks W W1 := by rw [← hW1]; exact KeepsWalks.alloc _ _
  have hx1 : W1.heap[W.heap.size]? = some (.cells #[.int .i64 x.1, .int .i64 x.2] 181 (0, 0)) := by rw [← hW1]; exact World.alloc_heap_new _ _
  have hbr := run_beginRound (P := Tryz.prog) hL1 rfl
  obtain ⟨W2, hW2⟩ : ∃ W2, W1.putObj l (.loop { apRec fn sv Bs D .ready none with state := .busy }) = W2 := ⟨_, rfl⟩
  rw [hW2] at hbr
  have hg2 : W1.grownBy W2 (some l) := by rw [← hW2]; exact grownBy_putObj_a _ _ _
  have hk2 : KeepsWalks W W2 := hk1.trans (by rw [← hW2]; exact KeepsWalks.putObj _ hL1 rfl)
  have hx2 : W2.heap[W.heap.size]? = some (.cells #[.int .i64 x.1, .int .i64 x.2] 181 (0, 0)) := by rw [← hW2]; exact (World.putObj_heap_other (by omega)).trans hx1
  have hxa : W2.cell? ⟨W.heap.size, 0, none⟩ = some (.int .i64 x.1) := by simp [World.cell?, hx2]
  have hxb : W2.cell? ⟨W.heap.size, 1, none⟩ = some (.int .i64 x.2) := by simp [World.cell?, hx2]
  have hv2 : W2.heap[Bs]? = some (.cells #[v] 178 (0, 0)) := by rw [← hW2]; exact (World.putObj_heap_other hBl).trans hv1
  have hK2 : W2.heap[D]? = some (.deferred (some [])) := by rw [← hW2]; exact (World.putObj_heap_other hDl).trans hK1
  have hL2 : W2.heap[l]? = some (.loop { apRec fn sv Bs D .ready none with state := .busy }) := by rw [← hW2]; exact World.putObj_heap_same hl
  have hrow2 : W2.ownsRow w0.heap.size 181 2 v ss.length (flatE ss) := hrow1.kept hg2 (ownsRow_ne_a hrow1 hL1 (fun cur e => by first | cases e | exact hne (Obj.cells.inj e).2.1))
  have hb2 : Below w0.heap.size w0 W2 := hb1.grown hg2 hb1.size (fun k e => by cases e; exact h0l)
  obtain ⟨hc2, hf2⟩ := cell_of_box_a hv2
  have hBlt : Bs < W2.heap.size := (Array.getElem?_eq_some_iff.1 hv2).1
  have hl2 : l < W2.heap.size := (Array.getElem?_eq_some_iff.1 hL2).1
  have hDlt : D < W2.heap.size := (Array.getElem?_eq_some_iff.1 hK2).1
  have ne_of : ∀ {j : Nat} {o : Obj}, W2.heap[j]? = some o → (∀ cur, o ≠ .cells cur 181 (0, 0)) → some j ≠ v.ownBlock := fun hj hno => by
    rcases ownsRow_ne_a hrow2 hj hno with e | e
    · rw [e]; simp
    · exact fun e' => e e'.symm
  clear hW2
  unfold apAssign
  gi_wp2_with gi_round_op_a
  unfold apBody
  gi_wp2_with (first
    | (gi_at_builtin; refine wpListIn_append_own _ rfl _ _ 178 rfl w0.heap.size 181 i0 (.agg #[.int .i64 0, .int .i64 0]) 2 16 u24 hi hz0 hz1 hz2 rfl (by decide) _ _ _ rfl (hrow2.alloc _) ⟨W2.heap.size, 0, none⟩ 1 1 [.int .i64 x.1, .int .i64 x.2] rfl rfl (cell_two_new _ _ _ _) (by simp [Value.oneCell']) (by omega) (by omega) (by have := hb2.size; simp; omega) ?_; intro v' w3 hown' hg3 hnil3
       have hv3 : w3.heap[Bs]? = some (.cells #[v] 178 (0, 0)) := (hg3.block Bs (by simp; omega) (ne_of hv2 (fun cur e => by first | cases e | exact hne (Obj.cells.inj e).2.1))).trans ((Below.heap_alloc _ _ Bs hBlt).trans hv2)
       obtain ⟨hc3, hf3⟩ := cell_of_box_a hv3
       obtain ⟨g', cap', cur', rfl, hbase', hgb', hr1, hr2, hr3, hr4⟩ : ∃ g' cap' cur', v' = .slice (some ⟨g', 0, none⟩) (ss.length + 1) cap' ∧ w0.heap.size ≤ g' ∧ w3.heap[g']? = some (.cells cur' 181 (0, 0)) ∧ ss.length + 1 ≤ cap' ∧ cap' ≤ maxLen ∧ cur'.size = cap' * 2 ∧ cur'.toList.take ((ss.length + 1) * 2) = flatE ss ++ [.int .i64 x.1, .int .i64 x.2] := by
         rcases hown'.2 with ⟨_, h0⟩ | h'
         · exact absurd h0 (by omega)
         · exact h'
       go_frame)
    | gi_round_op_a)
  have hg3' : (W2.alloc (.cells #[.int .i64 x.1, .int .i64 x.2] 181)).grownBy w3 v.ownBlock := hg3
  have hL3 : w3.heap[l]? = some (.loop { apRec fn sv Bs D .ready none with state := .busy }) := (hg3'.block l (by simp; omega) (ne_of hL2 (fun cur e => by first | cases e | exact hne (Obj.cells.inj e).2.1))).trans ((Below.heap_alloc _ _ l hl2).trans hL2)
  have hK3 : w3.heap[D]? = some (.deferred (some [])) := (hg3'.block D (by simp; omega) (ne_of hK2 (fun cur e => by first | cases e | exact hne (Obj.cells.inj e).2.1))).trans ((Below.heap_alloc _ _ D hDlt).trans hK2)
  obtain ⟨w4, hw4⟩ : ∃ w4, w3.setCell ⟨Bs, 0, none⟩ (.slice (some ⟨g', 0, none⟩) (ss.length + 1) cap') = w4 := ⟨_, rfl⟩
  rw [hw4]
  have hg4 : w3.grownBy w4 (some Bs) := by rw [← hw4]; exact grownBy_setCell0_a _ _ _
  have hv4 : w4.heap[Bs]? = some (.cells #[.slice (some ⟨g', 0, none⟩) (ss.length + 1) cap'] 178 (0, 0)) := by rw [← hw4]; exact heap_setCell_box_a _ hv3
  have hL4 : w4.heap[l]? = some (.loop { apRec fn sv Bs D .ready none with state := .busy }) := (hg4.block l (Array.getElem?_eq_some_iff.1 hL3).1 (fun e => hBl (by cases e; rfl))).trans hL3
  have hK4 : w4.heap[D]? = some (.deferred (some [])) := (hg4.block D (Array.getElem?_eq_some_iff.1 hK3).1 (fun e => hDB (by cases e; rfl))).trans hK3
  have hrow4 := hown'.kept hg4 (ownsRow_ne_a hown' hv3 (fun cur e => by first | cases e | exact hne (Obj.cells.inj e).2.1))
  have hl4 : l < w4.heap.size := (Array.getElem?_eq_some_iff.1 hL4).1
  have hb3 : Below w0.heap.size w0 w3 := (hb2.alloc hb2.size _).grown hg3' (by have := hb2.size; simp; omega) (fun k e => (hrow2.lt k e).1)
  have hb4 : Below w0.heap.size w0 w4 := hb3.grown hg4 hb3.size (fun k e => by cases e; exact h0B)
  have hk4 : KeepsWalks W w4 := ((hk2.trans (KeepsWalks.alloc _ _)).trans (KeepsWalks.of_grownBy hg3' (ownsRow_not_walk_a (hrow2.alloc _)))).trans (by rw [← hw4]; exact KeepsWalks.setCell _ _ _)
  clear hw4
  refine ⟨_, _, run_endRound none hL4, rfl, ⟨⟨_, (World.putObj_heap_other hBl).trans hv4, ?_, by simp⟩, World.putObj_heap_same hl4, (World.putObj_heap_other hDl).trans hK4, hb4.grown (grownBy_putObj_a _ _ _) hb4.size (fun k e => by cases e; exact h0l)⟩, hk4.trans (KeepsWalks.putObj _ hL4 rfl)⟩
  have := hrow4.kept (grownBy_putObj_a w4 l (.loop { { apRec fn sv Bs D .ready none with state := .busy } with state := if (none : Option Code).isNone then .ready else .done, pending := none })) (ownsRow_ne_a hrow4 hL4 (fun cur e => by first | cases e | exact hne (Obj.cells.inj e).2.1))
  rw [flatE_snoc]
  simpa using this

set_option maxRecDepth 100000 in
set_option maxHeartbeats 2000000 in
/-- **slices.AppendSeq(nil, seq), AGAINST WHATEVER ITERATOR VALUE THAT 'SeqGives'**: it hands back a slice that owns, in a block of the call's own, JUST WHAT THE ITERATOR GAVE, IN THAT ORDER; nil JUST WHERE IT GAVE NOTHING (as Go: 'slices.Collect' of nothing is nil); nothing that lay before the call has turned. -/
theorem appendSeq_in (n : Nat) (hn : 2 ≤ n) (g : Nat) (lb : Array Value) (eg : ∀ args w, (callFunc g args).run Tryz.prog w = .ok (.enter g args) w)
    (S : List (Int × Int) → Prop) (N : Nat) (hN : N ≤ maxLen) (hNb : N * 16 ≤ 140737488355328) (w : World) (hseq : SeqGives Fence.wide (n - 1) Tryz.prog g lb encE S N w) :
    CallsIn Fence.wide n Tryz.prog 176 #[.slice none 0 0, .func (.func g) #[] lb] w fun e w' => ∃ (v : Value) (ss : List (Int × Int)), e = .returned v ∧ S ss ∧ w'.ownsRow w.heap.size 181 2 v ss.length (flatE ss) ∧ (v = .slice none 0 0 ↔ ss = []) ∧ Below w.heap.size w w' := by
  have h1 : 1 ≤ n := by omega
  have u24 := Tryz.underlying178
  have u26 := Tryz.underlying181
  have u2 := Tryz.underlying2
  have hne : (178 : TypeId) ≠ 181 := by decide
  have hro : Fence.wide.round = none := rfl
  refine callsIn_of_wp_marks Tryz.func176 rfl trivial ?_ hro
  simp only [Tryz.ntmps176, List.size_toArray, List.length_cons, List.length_nil, Nat.reduceAdd, Nat.reduceSub, Array.replicate_succ, Array.replicate_zero, List.push_toArray, List.append_toArray, List.nil_append, List.cons_append]
  gi_wp2
  refine wpIn_rangeFunc ?_
  intro fn hfn
  rw [hro]
  obtain ⟨W0, hW0⟩ : ∃ W0, w.alloc (.cells #[.slice none 0 0] 178) = W0 := ⟨_, rfl⟩
  have hs0 : W0.heap.size = w.heap.size + 1 := by rw [← hW0]; simp
  have hv0 : W0.heap[w.heap.size]? = some (.cells #[.slice none 0 0] 178 (0, 0)) := by rw [← hW0]; exact World.alloc_heap_new w _
  have hb0 : Below w.heap.size w W0 := by rw [← hW0]; exact (Below.refl _ w).alloc (Nat.le_refl _) _
  rw [hW0]
  obtain ⟨W1, hW1⟩ : ∃ W1, (W0.alloc (.deferred (some []))).alloc (.loop (apRec fn (.func (.func g) #[] lb) w.heap.size W0.heap.size .ready none)) = W1 := ⟨_, rfl⟩
  have hold : ∀ k, k < W0.heap.size → W1.heap[k]? = W0.heap[k]? := fun k hk => by
    rw [← hW1]; exact (Below.heap_alloc _ _ k (by simp; omega)).trans (Below.heap_alloc _ _ k hk)
  have hb1 : Below w.heap.size w W1 := by rw [← hW1]; exact (hb0.alloc hb0.size _).alloc (by have := hb0.size; simp; omega) _
  have hs1 : W1.heap.size = W0.heap.size + 2 := by rw [← hW1]; simp
  have hM : ApAt w fn (.func (.func g) #[] lb) w.heap.size (W0.heap.size + 1) W0.heap.size [] W1 :=
    ⟨⟨_, (hold w.heap.size (by omega)).trans hv0, ⟨rfl, .inl ⟨rfl, rfl⟩⟩, by simp⟩,
     by rw [← hW1]; have := World.alloc_heap_new (W0.alloc (.deferred (some []))) (.loop (apRec fn (.func (.func g) #[] lb) w.heap.size W0.heap.size .ready none)); rwa [World.size_alloc] at this,
     by rw [← hW1]; exact (Below.heap_alloc _ _ _ (by simp)).trans (World.alloc_heap_new W0 _), hb1⟩
  refine ⟨W0.heap.size + 1, [{ target := .collected W0.heap.size, args := #[] }], W1, { target := .fn (.func g) lb, args := #[.func (.yield (W0.heap.size + 1)) #[] #[]] }, W1, g,
    #[.func (.yield (W0.heap.size + 1)) #[] #[]] ++ lb, W1, ?_, ?_, ?_, ?_, fun _ => h1, ?_⟩
  · rw [← hW1]; exact run_enterLoop_outer _ _ _ _ _
  · simp [resolve, go_sem]
  · intro f' hf'; simp [Target.leads] at hf'; subst hf'; trivial
  · simp [invoke, go_sem, eg]
  · refine (hseq (W0.heap.size + 1) (ApAt w fn (.func (.func g) #[] lb) w.heap.size (W0.heap.size + 1) W0.heap.size) W1 hb1 (ap_abides _ _ _ _ _ _ _ hb1.size)
      (fun pre x W hJ hl => apYield (n - 1 - 1) w fn _ w.heap.size (W0.heap.size + 1) W0.heap.size (by omega) (by omega) (by omega) (Nat.le_refl _) (by omega) N hN hNb pre x W hJ hl) hM).mono ?_
    rintro e W2 ⟨⟨v0, rfl⟩, ss, hS, h2⟩
    obtain ⟨v, hv, hrow, hnil⟩ := h2.box
    have hend := run_endLoop (P := Tryz.prog) h2.L (by simp [apRec])
    obtain ⟨W3, hW3⟩ : ∃ W3, W2.putObj (W0.heap.size + 1) (.loop { apRec fn (.func (.func g) #[] lb) w.heap.size W0.heap.size .ready none with state := .exhausted }) = W3 := ⟨_, rfl⟩
    rw [hW3] at hend
    have hg3 : W2.grownBy W3 (some (W0.heap.size + 1)) := by rw [← hW3]; exact grownBy_putObj_a _ _ _
    have hv3 : W3.heap[w.heap.size]? = some (.cells #[v] 178 (0, 0)) := by rw [← hW3]; exact (World.putObj_heap_other (by omega)).trans hv
    have hK3 : W3.heap[W0.heap.size]? = some (.deferred (some [])) := by rw [← hW3]; exact (World.putObj_heap_other (by omega)).trans h2.K
    have hrow3 := hrow.kept hg3 (ownsRow_ne_a hrow h2.L (fun cur e => by first | cases e | exact hne (Obj.cells.inj e).2.1))
    have hb3 : Below w.heap.size w W3 := h2.below.grown hg3 h2.below.size (fun k e => by cases e; omega)
    obtain ⟨hc3, hf3⟩ := cell_of_box_a hv3
    clear hW3
    refine ⟨none, W3, hend, ?_⟩
    gi_wp2
    rw [← hs0]
    refine ⟨by simp, .inl ⟨_, _, rfl, run_takeDeferred hK3, ?_⟩⟩
    exact ⟨_, results_tmp rfl _ _ _, v, ss, rfl, hS, hrow3.kept (grownBy_putObj_a _ _ _) (ownsRow_ne_a hrow3 hK3 (fun cur e => by first | cases e | exact hne (Obj.cells.inj e).2.1)), hnil, hb3.grown (grownBy_putObj_a _ _ _) hb3.size (fun k e => by cases e; omega)⟩

set_option maxHeartbeats 1000000 in
/-- **slices.Collect(seq), AGAINST WHATEVER ITERATOR VALUE.** -/
theorem collect_in (n : Nat) (hn : 3 ≤ n) (g : Nat) (lb : Array Value) (eg : ∀ args w, (callFunc g args).run Tryz.prog w = .ok (.enter g args) w)
    (S : List (Int × Int) → Prop) (N : Nat) (hN : N ≤ maxLen) (hNb : N * 16 ≤ 140737488355328) (w : World) (hseq : SeqGives Fence.wide (n - 1 - 1) Tryz.prog g lb encE S N w) :
    CallsIn Fence.wide n Tryz.prog 169 #[.func (.func g) #[] lb] w fun e w' => ∃ (v : Value) (ss : List (Int × Int)), e = .returned v ∧ S ss ∧ w'.ownsRow w.heap.size 181 2 v ss.length (flatE ss) ∧ (v = .slice none 0 0 ↔ ss = []) ∧ Below w.heap.size w w' := by
  have h1 : 1 ≤ n := by omega
  have h11 : Fence.wide.fn 176 := trivial
  have e11 : ∀ args w, (callFunc 176 args).run Tryz.prog w = .ok (.enter 176 args) w := enters_of Tryz.func176 (by kernel_rfl) rfl
  have u24 := Tryz.underlying178
  have u26 := Tryz.underlying181
  have u2 := Tryz.underlying2
  refine callsIn_of_wp Tryz.func169 rfl trivial ?_ rfl
  simp only [Tryz.ntmps169, List.size_toArray, List.length_cons, List.length_nil, Nat.reduceAdd, Nat.reduceSub, Array.replicate_succ, Array.replicate_zero, List.push_toArray, List.append_toArray, List.nil_append, List.cons_append]
  gi_wp2_with (gi_at_fn 176; refine (appendSeq_in (n - 1) (by omega) g lb eg S N hN hNb _ hseq).mono ?_; rintro e w' ⟨v, ss, rfl, hS, hrow, hnil, hb⟩)
  go_ret
  exact ⟨v, ss, rfl, hS, hrow, hnil, hb⟩

end Go.Proofs.YtcgnmnbjgamedabGreat

/-
compareEdges; cmp.Or of two; slices.SortFunc at edges. Conditions: none.
-/
namespace Go.Proofs
open Go Go.Shelf Go.RowKit Go.Lib Go.Sort
shelf_lay_g SlLaysF0.n6 Slsf 6 at Tryz 170 as Tryz.sortEdges
end Go.Proofs
namespace Go.Proofs.YtcgnmnbjgamedabGreat
open Go Fk Go.RowKit Go.Maps Go.Sort Go.Shelf Go.Lib
set_option linter.unusedVariables false
set_option maxRecDepth 16000

/-- The cells of an edge. -/
def cellsE (x : Int × Int) : List Value := [.int .i64 x.1, .int .i64 x.2]
/-- How edges are compared. -/
def cfE (x y : Int × Int) : Int := if Lib.compareInt x.1 y.1 = 0 then Lib.compareInt x.2 y.2 else Lib.compareInt x.1 y.1
def ltE (x y : Int × Int) : Bool := decide (x.1 < y.1 ∨ x.1 = y.1 ∧ x.2 < y.2)
theorem ltOf_cfE (x y : Int × Int) : ltOf cfE x y = ltE x y := by
  unfold ltOf cfE ltE Lib.compareInt
  by_cases h1 : x.1 < y.1
  · simp [h1]
  · by_cases h2 : y.1 < x.1
    · have : ¬ x.1 = y.1 := by omega
      simp [h1, h2, this]
    · have h3 : x.1 = y.1 := by omega
      by_cases h4 : x.2 < y.2
      · simp [h3, h4]
      · by_cases h5 : y.2 < x.2
        · simp [h3, h4, h5]
        · simp [h3, h4, h5]
theorem swoE : SWO (ltOf cfE) where
  irrefl x := by rw [ltOf_cfE]; unfold ltE; simp
  trans x y z h1 h2 := by rw [ltOf_cfE] at *; unfold ltE at *; simp at *; omega
  ntrans x y z h1 h2 := by rw [ltOf_cfE] at *; unfold ltE at *; simp at *; omega
theorem totE (x y : Int × Int) (h1 : ltOf cfE x y = false) (h2 : ltOf cfE y x = false) : x = y := by
  rw [ltOf_cfE] at h1 h2
  unfold ltE at h1 h2
  simp at h1 h2
  exact Prod.ext (by omega) (by omega)

theorem cmp_isNaN (x : Int) (W : World) : Calls Tryz.prog 179 #[.int .i64 x] W fun e w' => e = .returned (.bool false) ∧ w' = W := by
  go_enter Tryz.func179, Tryz.ntmps179
  go_wp2
  go_ret
  exact ⟨by simp, rfl⟩
theorem cmp_Compare64 (x y : Int) (W : World) : Calls Tryz.prog 173 #[.int .i64 x, .int .i64 y] W fun e w' => e = .returned (.int .i64 (Lib.compareInt x y)) ∧ w' = W := by
  have J1 := Lib.hid (cmp_isNaN x)
  have J2 := Lib.hid (cmp_isNaN y)
  unfold Lib.compareInt
  by_cases h1 : x < y
  · rw [if_pos h1]
    go_enter Tryz.func173, Tryz.ntmps173
    go_wp2_with fail
    refine (J1.out _).mono ?_
    rintro e w1 ⟨rfl, rfl⟩
    go_wp2_with fail
    refine (J2.out _).mono ?_
    rintro e w2 ⟨rfl, rfl⟩
    go_wp2
    go_ret
    exact ⟨rfl, rfl⟩
  · rw [if_neg h1]
    by_cases h2 : x > y
    · rw [if_pos h2]
      go_enter Tryz.func173, Tryz.ntmps173
      go_wp2_with fail
      refine (J1.out _).mono ?_
      rintro e w1 ⟨rfl, rfl⟩
      go_wp2_with fail
      refine (J2.out _).mono ?_
      rintro e w2 ⟨rfl, rfl⟩
      go_wp2
      go_ret
      exact ⟨rfl, rfl⟩
    · rw [if_neg h2]
      go_enter Tryz.func173, Tryz.ntmps173
      go_wp2_with fail
      refine (J1.out _).mono ?_
      rintro e w1 ⟨rfl, rfl⟩
      go_wp2_with fail
      refine (J2.out _).mono ?_
      rintro e w2 ⟨rfl, rfl⟩
      go_wp2
      go_ret
      exact ⟨rfl, rfl⟩
set_option maxHeartbeats 1000000 in
theorem cmp_Or2 (g : Nat) (x y : Int) (W : World) (h0 : W.cell? ⟨g, 0, none⟩ = some (.int .i64 x)) (h1 : W.cell? ⟨g, 1, none⟩ = some (.int .i64 y)) :
    Calls Tryz.prog 172 #[.slice (some ⟨g, 0, none⟩) 2 2] W fun e w' => e = .returned (.int .i64 (if x = 0 then y else x)) ∧ w' = W := by
  by_cases hx : x = 0
  · subst hx
    by_cases hy : y = 0
    · subst hy
      go_enter Tryz.func172, Tryz.ntmps172
      go_wp2
      refine wp_loop_rounds 3 ?_
      rw [rounds_succ]
      go_wp2
      rw [rounds_succ]
      go_wp2
      rw [rounds_succ]
      go_wp2
      go_ret
      exact ⟨rfl, rfl⟩
    · go_enter Tryz.func172, Tryz.ntmps172
      go_wp2
      refine wp_loop_rounds 3 ?_
      rw [rounds_succ]
      go_wp2
      rw [rounds_succ]
      go_wp2
      go_ret
      exact ⟨by simp, rfl⟩
  · rw [if_neg hx]
    go_enter Tryz.func172, Tryz.ntmps172
    go_wp2
    refine wp_loop_rounds 3 ?_
    rw [rounds_succ]
    go_wp2
    go_ret
    exact ⟨rfl, rfl⟩

/-- A world grown out of another. -/
def Grew (w w' : World) : Prop := ∃ q os, w' = grow (w.drewN q) os
theorem Grew.refl (w : World) : Grew w w := ⟨0, #[], by simp [grow, World.drewN]⟩
theorem Grew.alloc {w w' : World} (h : Grew w w') (o : Obj) : Grew w (w'.alloc o) := by
  obtain ⟨q, os, rfl⟩ := h
  exact ⟨q, os ++ #[o], by rw [alloc_eq_grow, grow_grow]⟩
theorem Grew.draw {w w' : World} (h : Grew w w') : Grew w { w' with drawn := w'.drawn + 1 } := by
  obtain ⟨q, os, rfl⟩ := h
  exact ⟨q + 1, os, rfl⟩

set_option maxHeartbeats 2000000 in
theorem impl_compareEdges (x y : Int × Int) (w : World) : Calls Tryz.prog 157 #[.agg #[.int .i64 x.1, .int .i64 x.2], .agg #[.int .i64 y.1, .int .i64 y.2]] w fun e w' => e = .returned (.int .i64 (cfE x y)) ∧ Grew w w' := by
  have ue := Tryz.underlying181
  have ui := Tryz.underlying2
  have H1 := Lib.hid (cmp_Compare64 x.1 y.1)
  have H2 := Lib.hid (cmp_Compare64 x.2 y.2)
  have HE : cfE x y = if Lib.compareInt x.1 y.1 = 0 then Lib.compareInt x.2 y.2 else Lib.compareInt x.1 y.1 := rfl
  generalize cfE x y = r at HE ⊢
  generalize Lib.compareInt x.1 y.1 = c1 at *
  generalize Lib.compareInt x.2 y.2 = c2 at *
  have HR := Lib.hid HE
  clear HE
  obtain ⟨x1, x2⟩ := x
  obtain ⟨y1, y2⟩ := y
  have k0 : ((w.alloc (.cells #[.int .i64 x1, .int .i64 x2] 181)).alloc (.cells #[.int .i64 y1, .int .i64 y2] 181)).cell? ⟨w.heap.size, 0, none⟩ = some (.int .i64 x1) := by go_simp
  have k1 : ((w.alloc (.cells #[.int .i64 x1, .int .i64 x2] 181)).alloc (.cells #[.int .i64 y1, .int .i64 y2] 181)).cell? ⟨w.heap.size, 1, none⟩ = some (.int .i64 x2) := by go_simp
  have k2 : ((w.alloc (.cells #[.int .i64 x1, .int .i64 x2] 181)).alloc (.cells #[.int .i64 y1, .int .i64 y2] 181)).cell? ⟨w.heap.size + 1, 0, none⟩ = some (.int .i64 y1) := by go_simp
  have k3 : ((w.alloc (.cells #[.int .i64 x1, .int .i64 x2] 181)).alloc (.cells #[.int .i64 y1, .int .i64 y2] 181)).cell? ⟨w.heap.size + 1, 1, none⟩ = some (.int .i64 y2) := by go_simp
  have hg : Grew w ((w.alloc (.cells #[.int .i64 x1, .int .i64 x2] 181)).alloc (.cells #[.int .i64 y1, .int .i64 y2] 181)) := ((Grew.refl w).alloc _).alloc _
  have HG := Lib.hid hg
  clear hg
  go_enter Tryz.func157, Tryz.ntmps157
  go_wp2_with fail
  generalize ((w.alloc (.cells #[.int .i64 x1, .int .i64 x2] 181)).alloc (.cells #[.int .i64 y1, .int .i64 y2] 181)) = W at *
  generalize w.heap.size + 1 = b' at *
  generalize w.heap.size = b at *
  refine Reg.wp_region_mix (C := fun w' => (w'.cell? ⟨b, 0, none⟩ = some (.int .i64 x1) ∧ w'.cell? ⟨b, 1, none⟩ = some (.int .i64 x2) ∧ w'.cell? ⟨b', 0, none⟩ = some (.int .i64 y1) ∧ w'.cell? ⟨b', 1, none⟩ = some (.int .i64 y2)) ∧ Grew w w') (G := fun w1 w2 => Below w1.heap.size w1 w2)
    (R := fun i v w' => match i with
      | 0 => v = .pointer (some ⟨b, 0, none⟩)
      | 1 => v = .int .i64 x1
      | 2 => v = .pointer (some ⟨b', 0, none⟩)
      | 3 => v = .int .i64 y1
      | 4 => v = .int .i64 c1
      | 5 => v = .pointer (some ⟨b, 1, none⟩)
      | 6 => v = .int .i64 x2
      | 7 => v = .pointer (some ⟨b', 1, none⟩)
      | 8 => v = .int .i64 y2
      | 9 => v = .int .i64 c2
      | 10 => ∃ g, v = .slice (some ⟨g, 0, none⟩) 2 2 ∧ w'.cell? ⟨g, 0, none⟩ = some (.int .i64 c1) ∧ w'.cell? ⟨g, 1, none⟩ = some (.int .i64 c2)
      | 11 => v = .int .i64 r
      | 12 => v = .int .i64 r
      | _ => True) (T := fun _ _ _ => True) [false, false, false, false, true, true, true, true, true, true, true, true, true, true, true, true, true]
    (by kernel_rfl) (by kernel_rfl) (by kernel_rfl) ?_ ⟨⟨k0, k1, k2, k3⟩, HG.out.draw⟩ ?_ ?_
  · intro j v w1 w2 _ hG hR
    match j with
    | 0 => exact hR
    | 1 => exact hR
    | 2 => exact hR
    | 3 => exact hR
    | 4 => exact hR
    | 5 => exact hR
    | 6 => exact hR
    | 7 => exact hR
    | 8 => exact hR
    | 9 => exact hR
    | 10 => obtain ⟨g, e, h1, h2⟩ := hR; exact ⟨g, e, cell_below hG h1, cell_below hG h2⟩
    | 11 => exact hR
    | 12 => exact hR
    | _ + 13 => trivial
  · refine ⟨Reg.Obl.mk ?_, Reg.Obl.mk ?_, Reg.Obl.mk ?_, Reg.Obl.mk ?_, Reg.Obl.mk ?_, Reg.Obl.mk ?_, Reg.Obl.mk ?_, Reg.Obl.mk ?_, Reg.Obl.mk ?_, Reg.Obl.mk ?_, Reg.Obl.mk ?_, Reg.Obl.mk ?_, Reg.Obl.mk ?_, trivial⟩
    · rintro a w1 ⟨⟨y0, y1', y2', y3⟩, hB⟩ hx hd K hK
      have t2 : a.tmps[2]?.getD undef = .pointer (some ⟨b, 0, none⟩) := Reg.slot_val (hx 2 (by kernel_rfl))
      go_simp
      exact hK _ _ (fun _ => rfl) (fun h => by cases h) ⟨⟨y0, y1', y2', y3⟩, hB⟩ (Below.refl _ _)
    · rintro a w1 ⟨⟨y0, y1', y2', y3⟩, hB⟩ hx hd K hK
      have t5 : a.tmps[5]?.getD undef = .pointer (some ⟨b, 0, none⟩) := Reg.slot_val (hd 0 (by kernel_rfl) 5 rfl)
      go_simp
      exact hK _ _ (fun _ => rfl) (fun h => by cases h) ⟨⟨y0, y1', y2', y3⟩, hB⟩ (Below.refl _ _)
    · rintro a w1 ⟨⟨y0, y1', y2', y3⟩, hB⟩ hx hd K hK
      have t3 : a.tmps[3]?.getD undef = .pointer (some ⟨b', 0, none⟩) := Reg.slot_val (hx 3 (by kernel_rfl))
      go_simp
      exact hK _ _ (fun _ => rfl) (fun h => by cases h) ⟨⟨y0, y1', y2', y3⟩, hB⟩ (Below.refl _ _)
    · rintro a w1 ⟨⟨y0, y1', y2', y3⟩, hB⟩ hx hd K hK
      have t7 : a.tmps[7]?.getD undef = .pointer (some ⟨b', 0, none⟩) := Reg.slot_val (hd 2 (by kernel_rfl) 7 rfl)
      go_simp
      exact hK _ _ (fun _ => rfl) (fun h => by cases h) ⟨⟨y0, y1', y2', y3⟩, hB⟩ (Below.refl _ _)
    · rintro a w1 ⟨⟨y0, y1', y2', y3⟩, hB⟩ hx hd K hK
      have t6 : a.tmps[6]?.getD undef = .int .i64 x1 := Reg.slot_val (hd 1 (by kernel_rfl) 6 rfl)
      have t8 : a.tmps[8]?.getD undef = .int .i64 y1 := Reg.slot_val (hd 3 (by kernel_rfl) 8 rfl)
      go_simp
      refine (H1.out w1).mono ?_
      rintro en w2 ⟨rfl, rfl⟩
      exact hK _ _ (fun _ => rfl) (fun h => by cases h) ⟨⟨y0, y1', y2', y3⟩, hB⟩ (Below.refl _ _)
    · rintro a w1 ⟨⟨y0, y1', y2', y3⟩, hB⟩ hx hd K hK
      have t2 : a.tmps[2]?.getD undef = .pointer (some ⟨b, 0, none⟩) := Reg.slot_val (hx 2 (by kernel_rfl))
      go_simp
      exact hK _ _ (fun _ => rfl) (fun h => by cases h) ⟨⟨y0, y1', y2', y3⟩, hB⟩ (Below.refl _ _)
    · rintro a w1 ⟨⟨y0, y1', y2', y3⟩, hB⟩ hx hd K hK
      have t10 : a.tmps[10]?.getD undef = .pointer (some ⟨b, 1, none⟩) := Reg.slot_val (hd 5 (by kernel_rfl) 10 rfl)
      go_simp
      exact hK _ _ (fun _ => rfl) (fun h => by cases h) ⟨⟨y0, y1', y2', y3⟩, hB⟩ (Below.refl _ _)
    · rintro a w1 ⟨⟨y0, y1', y2', y3⟩, hB⟩ hx hd K hK
      have t3 : a.tmps[3]?.getD undef = .pointer (some ⟨b', 0, none⟩) := Reg.slot_val (hx 3 (by kernel_rfl))
      go_simp
      exact hK _ _ (fun _ => rfl) (fun h => by cases h) ⟨⟨y0, y1', y2', y3⟩, hB⟩ (Below.refl _ _)
    · rintro a w1 ⟨⟨y0, y1', y2', y3⟩, hB⟩ hx hd K hK
      have t12 : a.tmps[12]?.getD undef = .pointer (some ⟨b', 1, none⟩) := Reg.slot_val (hd 7 (by kernel_rfl) 12 rfl)
      go_simp
      exact hK _ _ (fun _ => rfl) (fun h => by cases h) ⟨⟨y0, y1', y2', y3⟩, hB⟩ (Below.refl _ _)
    · rintro a w1 ⟨⟨y0, y1', y2', y3⟩, hB⟩ hx hd K hK
      have t11 : a.tmps[11]?.getD undef = .int .i64 x2 := Reg.slot_val (hd 6 (by kernel_rfl) 11 rfl)
      have t13 : a.tmps[13]?.getD undef = .int .i64 y2 := Reg.slot_val (hd 8 (by kernel_rfl) 13 rfl)
      go_simp
      refine (H2.out w1).mono ?_
      rintro en w2 ⟨rfl, rfl⟩
      exact hK _ _ (fun _ => rfl) (fun h => by cases h) ⟨⟨y0, y1', y2', y3⟩, hB⟩ (Below.refl _ _)
    · rintro a w1 ⟨⟨y0, y1', y2', y3⟩, hB⟩ hx hd K hK
      have t9 : a.tmps[9]?.getD undef = .int .i64 c1 := Reg.slot_val (hd 4 (by kernel_rfl) 9 rfl)
      have t14 : a.tmps[14]?.getD undef = .int .i64 c2 := Reg.slot_val (hd 9 (by kernel_rfl) 14 rfl)
      go_simp
      have hn : Below w1.heap.size w1 (w1.alloc (.cells #[.int .i64 c1, .int .i64 c2] 3)) := (Below.refl _ _).alloc (Nat.le_refl _) _
      refine hK _ _ (fun _ => ⟨_, rfl, by go_simp, by go_simp⟩) (fun h => by cases h) ⟨⟨cell_below hn y0, cell_below hn y1', cell_below hn y2', cell_below hn y3⟩, hB.alloc _⟩ hn
    · rintro a w1 ⟨⟨y0, y1', y2', y3⟩, hB⟩ hx hd K hK
      obtain ⟨g, e15, g0, g1⟩ := hd 10 (by kernel_rfl) 15 rfl
      have t15 : a.tmps[15]?.getD undef = .slice (some ⟨g, 0, none⟩) 2 2 := Reg.slot_val e15
      go_simp
      refine (cmp_Or2 g c1 c2 w1 g0 g1).mono ?_
      rintro en w2 ⟨rfl, rfl⟩
      rw [← HR.out]
      exact hK _ _ (fun _ => rfl) (fun h => by cases h) ⟨⟨y0, y1', y2', y3⟩, hB⟩ (Below.refl _ _)
    · rintro a w1 ⟨⟨y0, y1', y2', y3⟩, hB⟩ hx hd K hK
      have t16 : a.tmps[16]?.getD undef = .int .i64 r := Reg.slot_val (hd 11 (by kernel_rfl) 16 rfl)
      go_simp
      exact hK _ _ (fun _ => rfl) (fun h => by cases h) ⟨⟨y0, y1', y2', y3⟩, hB⟩ (Below.refl _ _)
  · rintro f w6 ⟨_, hgw⟩ hR hT
    have e4 := hR 12 4 rfl
    clear hR hT
    go_wp2
    go_ret
    exact ⟨e4 ▸ rfl, hgw⟩
theorem cmpLaysE (blk off size : Nat) (w : World) : CmpLays Tryz.prog 157 #[] cellsE 2 cfE blk off size w :=
  fun _ _ _ _ x y => impl_compareEdges x y _
set_option maxHeartbeats 1000000 in
/-- slices.SortFunc of edges by compareEdges. -/
theorem sort_edges (blk off cap : Nat) (d : Array (Int × Int)) (w : World) (hH : HoldsK cellsE 2 w blk off d) (hblk : blk < w.heap.size) (hsz : d.size < 4611686018427387904) :
    Calls Tryz.prog 170 #[.slice (some ⟨blk, off, none⟩) d.size cap, .func (.func 157) #[] #[]] w fun e w' =>
      e = .returned (.tuple #[]) ∧ ∃ n os, w' = sortWorldK cellsE 2 w blk off n (d.toList.mergeSort fun x y => !(ltOf cfE) y x).toArray os := by
  have eg : ∀ args w, (callFunc 157 args).run Tryz.prog w = .ok (.enter 157 args) w := enters_of Tryz.func157 (by kernel_rfl) rfl
  have hcon := AnyQ.slices_SortFunc_total Tryz.sortEdges 2 Tryz.isAgg181 Tryz.sizeOf181 cellsE (fun _ => rfl) (fun x v hv => by simp [cellsE] at hv; rcases hv with rfl | rfl <;> rfl) cfE swoE 157 #[] blk off cap d w eg (cmpLaysE blk off d.size w) hH hblk hsz totE
  exact hcon
theorem sort_none (p : Option Addr) (cap : Nat) (fv : Value) (w : World) : Calls Tryz.prog 170 #[.slice p 0 cap, fv] w fun e w' => e = .returned (.tuple #[]) ∧ w' = w := by
  have hcon := AnyF.slices_SortFunc_none Tryz.sortEdges p cap fv w
  exact hcon
end Go.Proofs.YtcgnmnbjgamedabGreat

/-
sortedEdges: the keys of a map of lists by edges, in order. Conditions: none.
-/
namespace Go.Proofs.YtcgnmnbjgamedabGreat
open Go Fk Go.RowKit Go.Maps Go.Sort Go.Shelf Go.Lib
set_option linter.unusedVariables false
set_option maxRecDepth 100000

theorem flatE_cons (x : Int × Int) (ss : List (Int × Int)) : flatE (x :: ss) = .int .i64 x.1 :: .int .i64 x.2 :: flatE ss := by simp [flatE]
theorem flatE_len (ss : List (Int × Int)) : (flatE ss).length = ss.length * 2 := by
  induction ss with
  | nil => rfl
  | cons x ss ih => rw [flatE_cons]; simp [ih]; omega
theorem flatE_get : ∀ (ss : List (Int × Int)) (t : Nat), t < ss.length * 2 → (flatE ss)[t]? = some ((cellsE (ss.toArray[t / 2]!))[t % 2]!)
  | [], t, h => by simp at h
  | x :: ss, 0, h => by rw [flatE_cons]; simp [cellsE]
  | x :: ss, 1, h => by rw [flatE_cons]; simp [cellsE]
  | x :: ss, t + 2, h => by
    rw [flatE_cons, List.getElem?_cons_succ, List.getElem?_cons_succ, flatE_get ss t (by simp at h; omega)]
    have h1 : (t + 2) / 2 = t / 2 + 1 := by omega
    have h2 : (t + 2) % 2 = t % 2 := by omega
    rw [h1, h2]
    have h3 : t / 2 < ss.length := by simp at h; omega
    simp [h3]
theorem flatK_E (ss : List (Int × Int)) (t : Nat) (h : t < ss.length * 2) : (flatE ss)[t]? = some (flatK cellsE 2 ss.toArray)[t]! := by
  rw [get_flatK _ _ _ _ (by simpa using h)]
  exact flatE_get ss t h
theorem holds_edges {w : World} {g : Nat} {cur : Array Value} {e : TypeId} {ss : List (Int × Int)} (hb : w.heap[g]? = some (.cells cur e (0, 0))) (ht : cur.toList.take (ss.length * 2) = flatE ss) : HoldsK cellsE 2 w g 0 ss.toArray := by
  intro j hj
  have hj' : j < ss.length * 2 := by simpa using hj
  refine ⟨?_, by simp [World.frozen?, hb]⟩
  have h1 : (cur.toList.take (ss.length * 2))[j]? = (flatE ss)[j]? := by rw [ht]
  rw [List.getElem?_take_of_lt hj', flatK_E ss j hj'] at h1
  simp only [World.cell?, hb, Nat.zero_add]
  simp only [Option.isSome_none, Bool.false_eq_true, if_false]
  rw [← Array.getElem?_toList, h1]
  rfl
theorem heap_sortedK {w : World} {g n : Nat} {os : Array Obj} {cur : Array Value} {e : TypeId} {fr : Nat × Nat} (d : Array (Int × Int)) (hb : w.heap[g]? = some (.cells cur e fr)) :
    (sortWorldK cellsE 2 w g 0 n d os).heap[g]? = some (.cells (putCells id 0 (flatK cellsE 2 d) cur) e fr) := by
  have hg : g < w.heap.size := (Array.getElem?_eq_some_iff.1 hb).1
  unfold sortWorldK putRowK
  rw [heap_grow_old _ _ (by simpa using hg)]
  simp [putRow, mapBlock, Sort.ahead, Array.getElem?_modify, hb, onCells]
theorem grownBy_sortedK {w : World} {g n : Nat} {os : Array Obj} (d : Array (Int × Int)) : w.grownBy (sortWorldK cellsE 2 w g 0 n d os) (some g) := by
  unfold sortWorldK putRowK
  refine ⟨rfl, rfl, rfl, by simp, fun k hk hne => ?_⟩
  rw [heap_grow_old _ _ (by simpa using hk)]
  have : g ≠ k := fun e => hne (by rw [e])
  simp [putRow, mapBlock, Sort.ahead, Array.getElem?_modify, this]
theorem take_putK (cur : Array Value) (ts : List (Int × Int)) (h : ts.length * 2 ≤ cur.size) : (putCells id 0 (flatK cellsE 2 ts.toArray) cur).toList.take (ts.length * 2) = flatE ts := by
  apply List.ext_getElem?
  intro j
  by_cases hj : j < ts.length * 2
  · rw [List.getElem?_take_of_lt hj, Array.getElem?_toList, flatK_E ts j hj]
    simp [putCells, hj, show j < cur.size by omega]
  · rw [List.getElem?_take_eq_none (by omega), List.getElem?_eq_none (by rw [flatE_len]; omega)]
theorem ownsRow_sortedK {w : World} {base g cap n : Nat} {e : TypeId} {os : Array Obj} {cur : Array Value} {ss ts : List (Int × Int)} (hl : ts.length = ss.length) (hbase : base ≤ g) (hb : w.heap[g]? = some (.cells cur e (0, 0)))
    (h1 : ss.length ≤ cap) (h2 : cap ≤ maxLen) (h3 : cur.size = cap * 2) :
    (sortWorldK cellsE 2 w g 0 n ts.toArray os).ownsRow base e 2 (.slice (some ⟨g, 0, none⟩) ss.length cap) ss.length (flatE ts) :=
  ⟨by rw [flatE_len, hl], .inr ⟨g, cap, _, rfl, hbase, heap_sortedK _ hb, h1, h2, by simp [putCells, h3], by rw [← hl]; exact take_putK cur ts (by omega)⟩⟩
/-- Edges in order. -/
def sortE (ss : List (Int × Int)) : List (Int × Int) := ss.mergeSort fun x y => !(ltOf cfE) y x

set_option maxHeartbeats 2000000 in
theorem sortedFuncE (n : Nat) (hn : 4 ≤ n) (g : Nat) (lb : Array Value) (eg : ∀ args w, (callFunc g args).run Tryz.prog w = .ok (.enter g args) w)
    (S : List (Int × Int) → Prop) (N : Nat) (hN : N ≤ maxLen) (hNb : N * 16 ≤ 140737488355328) (w : World) (hseq : SeqGives Fence.wide (n - 1 - 1 - 1) Tryz.prog g lb encE S N w) :
    CallsIn Fence.wide n Tryz.prog 155 #[.func (.func g) #[] lb, .func (.func 157) #[] #[]] w fun e w' => ∃ (v : Value) (ss : List (Int × Int)), e = .returned v ∧ S ss ∧
      w'.ownsRow w.heap.size 181 2 v ss.length (flatE (sortE ss)) ∧ (v = .slice none 0 0 ↔ ss = []) ∧ Below w.heap.size w w' := by
  have h1 : 1 ≤ n := by omega
  have h8 : Fence.wide.fn 169 := trivial
  have h9 : Fence.wide.fn 170 := trivial
  have e8 : ∀ args w, (callFunc 169 args).run Tryz.prog w = .ok (.enter 169 args) w := enters_of Tryz.func169 (by kernel_rfl) rfl
  have e9 : ∀ args w, (callFunc 170 args).run Tryz.prog w = .ok (.enter 170 args) w := enters_of Tryz.func170 (by kernel_rfl) rfl
  refine callsIn_of_wp Tryz.func155 rfl trivial ?_ rfl
  simp only [Tryz.ntmps155, List.size_toArray, List.length_cons, List.length_nil, Nat.reduceAdd, Nat.reduceSub, Array.replicate_succ, Array.replicate_zero, List.push_toArray, List.append_toArray, List.nil_append, List.cons_append]
  gi_wp2_with (gi_at_fn 169; refine (collect_in (n - 1) (by omega) g lb eg _ N hN hNb _ hseq.bounded).mono ?_; rintro e W ⟨v, ss, rfl, ⟨hS, hlen⟩, hrow, hnil, hb⟩)
  rcases hrow.2 with ⟨rfl, hz⟩ | ⟨gb, cap, cur, rfl, hbase, hgb, r1, r2, r3, r4⟩
  · have hss : ss = [] := List.eq_nil_of_length_eq_zero hz
    subst hss
    gi_wp2_with (gi_at_fn 170; refine (callsIn_wide.2 (sort_none none 0 _ W)).mono ?_; rintro e w' ⟨rfl, rfl⟩)
    go_ret
    exact ⟨.slice none 0 0, [], rfl, hS, by simpa [sortE] using hrow, by simp, hb⟩
  · have hH : HoldsK cellsE 2 W gb 0 ss.toArray := holds_edges hgb (by simpa using r4)
    have hgl : gb < W.heap.size := (Array.getElem?_eq_some_iff.1 hgb).1
    have hsz : ss.length < 4611686018427387904 := by omega
    have cS := sort_edges gb 0 cap ss.toArray W hH hgl (by simpa using hsz)
    simp only [List.size_toArray] at cS
    gi_wp2_with (gi_at_fn 170; refine (callsIn_wide.2 cS).mono ?_; rintro e w' ⟨rfl, nn, os, rfl⟩)
    go_ret
    exact ⟨_, ss, rfl, hS, ownsRow_sortedK (by simp) hbase hgb r1 r2 r3, hnil, hb.grown (grownBy_sortedK _) hb.size (fun j hj => by cases hj; exact hbase)⟩

set_option maxHeartbeats 1000000 in
theorem impl_sortedEdges (b nn : Nat) (D0 : DataW Unit) (R : Value → Option (DataW Unit × List MemPlace)) (w : World) (hown : w.ownsMap Tryz.prog 181 R b nn D0) (hmax : Maps.size D0 ≤ maxLen) (hbytes : Maps.size D0 * 16 ≤ 140737488355328) :
    Calls Tryz.prog 122 #[.map (some b)] w fun e w' => ∃ (v : Value) (ss : List (Int × Int)), e = .returned v ∧ KeysE D0 ss ∧
      w'.ownsRow w.heap.size 181 2 v ss.length (flatE (sortE ss)) ∧ (v = .slice none 0 0 ↔ ss = []) ∧ Below w.heap.size w w' := by
  refine (callsIn_wide (n := 6)).1 ?_
  have hbl := hown.lt
  have hseq := keysE_gives 2 (by omega) w.heap.size b nn D0 (R := R) (w.alloc (.cells #[.map (some b)] 176)) (by simp) (by simp) (by
      obtain ⟨es, clock, hb, Ft, hs, hD⟩ := hown
      exact ⟨es, clock, (Below.heap_alloc _ _ b hbl).trans hb, Ft, hs, hD⟩)
  have cK := fun mb W => maps_KeysE 5 mb W
  have cS := sortedFuncE 5 (by omega) 171 #[.pointer (some ⟨w.heap.size, 0, none⟩)] (enters_of Tryz.func171 (by kernel_rfl) rfl) _ _ hmax hbytes _ hseq
  have hfK : Fence.wide.fn 156 := trivial
  have hfS : Fence.wide.fn 155 := trivial
  refine callsIn_of_wp Tryz.func122 rfl trivial ?_ rfl
  simp only [Tryz.ntmps122, List.size_toArray, List.length_cons, List.length_nil, Nat.reduceAdd, Nat.reduceSub, Array.replicate_succ, Array.replicate_zero, List.push_toArray, List.append_toArray, List.nil_append, List.cons_append]
  gi_wp2_with (first
    | (gi_at_call 156; refine (cK _ _).mono ?_; rintro e w' ⟨rfl, rfl⟩)
    | (gi_at_call 155; refine cS.mono ?_; rintro e w' ⟨v, ss, rfl, hS, hrow, hnil, hb⟩))
  go_ret
  exact ⟨v, ss, rfl, hS, ownsRow_base_a hrow (by simp), hnil, ((Below.refl _ w).alloc (Nat.le_refl _) _).trans (hb.mono (by simp))⟩
end Go.Proofs.YtcgnmnbjgamedabGreat

/-
Edges of a mesh, as lists; the lesser and the greater of two. Conditions: none.
-/
namespace Go.Proofs.YtcgnmnbjgamedabGreat
open Go Fk Go.RowKit
set_option linter.unusedVariables false
set_option maxRecDepth 8000

def eKey (a b : Int) : Int × Int := (min a b, max a b)
def triE (t : List Int) : List (Int × Int) := [eKey (t.getD 0 0) (t.getD 1 0), eKey (t.getD 1 0) (t.getD 2 0), eKey (t.getD 2 0) (t.getD 0 0)]
def keysE (ts : List (List Int)) : List (Int × Int) := ts.flatMap triE
/-- The edges of the first k triangles and of j sides of the next. -/
def preE (ts : List (List Int)) (k j : Nat) : List (Int × Int) := (ts.take k).flatMap triE ++ (triE (ts.getD k [])).take j
theorem preE_zero (ts : List (List Int)) : preE ts 0 0 = [] := by simp [preE]
theorem preE_end (ts : List (List Int)) : preE ts ts.length 0 = keysE ts := by simp [preE, keysE]
theorem preE_next {ts : List (List Int)} {k : Nat} (hk : k < ts.length) : preE ts k 3 = preE ts (k + 1) 0 := by
  have e : ts.take (k + 1) = ts.take k ++ [ts.getD k []] := by
    rw [List.take_add_one, List.getElem?_eq_getElem hk]
    simp [List.getD, List.getElem?_eq_getElem hk]
  unfold preE
  rw [e, List.flatMap_append, List.flatMap_cons, List.flatMap_nil, List.append_nil, List.take_zero, List.append_nil]
  rfl
theorem preE_step {ts : List (List Int)} {k j : Nat} (hj : j < 3) : preE ts k (j + 1) = preE ts k j ++ [(triE (ts.getD k [])).getD j (0, 0)] := by
  match j, hj with
  | 0, _ => simp [preE, triE]
  | 1, _ => simp [preE, triE]
  | 2, _ => simp [preE, triE]
/-- A table of flags, a row for each lesser place. -/
def SeenT (w : World) (b n : Nat) (L : List (Int × Int)) : Prop :=
  (∀ x y, x < n → y < n → w.cell? ⟨b, x * n + y, none⟩ = some (.bool (decide (((x : Int), (y : Int)) ∈ L)))) ∧ (∀ i, w.frozen? ⟨b, i, none⟩ = false) ∧ b < w.heap.size
theorem flat_lt {x y n : Nat} (hx : x < n) (hy : y < n) : x * n + y < n * n := by
  have : (x + 1) * n ≤ n * n := Nat.mul_le_mul_right n hx
  rw [Nat.succ_mul] at this
  omega
theorem flat_inj {x y p q n : Nat} (hy : y < n) (hq : q < n) (h : x * n + y = p * n + q) : x = p ∧ y = q := by
  have h1 : (x * n + y) / n = x := by rw [Nat.mul_comm, Nat.mul_add_div (by omega), Nat.div_eq_of_lt hy]; omega
  have h2 : (p * n + q) / n = p := by rw [Nat.mul_comm, Nat.mul_add_div (by omega), Nat.div_eq_of_lt hq]; omega
  have : x = p := by rw [← h1, ← h2, h]
  subst this
  exact ⟨rfl, by omega⟩
theorem SeenT.set {w : World} {b n p q : Nat} {L : List (Int × Int)} (h : SeenT w b n L) (hp : p < n) (hq : q < n) : SeenT (w.setCell ⟨b, p * n + q, none⟩ (.bool true)) b n (L ++ [((p : Int), (q : Int))]) := by
  refine ⟨fun x y hx hy => ?_, fun i => by simpa using h.2.1 i, by simpa using h.2.2⟩
  by_cases e : x * n + y = p * n + q
  · obtain ⟨rfl, rfl⟩ := flat_inj hy hq e
    rw [World.cell?_setCell_same _ _ _ (h.1 x y hx hy)]
    simp
  · rw [World.cell?_setCell_other _ _ _ _ (by first | (simp; done) | (simp; exact fun e' => e e'.symm)), h.1 x y hx hy]
    have hne : ¬ (((x : Int), (y : Int)) = ((p : Int), (q : Int))) := fun e' => by
      rw [Prod.mk.injEq] at e'
      obtain ⟨e1, e2⟩ := e'
      exact e (by rw [Int.ofNat.inj e1, Int.ofNat.inj e2])
    simp only [List.mem_append, List.mem_singleton, hne, or_false]
theorem SeenT.below {w w' : World} {b n : Nat} {L : List (Int × Int)} (h : SeenT w b n L) (hB : Below w.heap.size w w') : SeenT w' b n L :=
  ⟨fun x y hx hy => cell_below hB (h.1 x y hx hy), fun i => by rw [hB.frozen (p := ⟨b, i, none⟩) h.2.2]; exact h.2.1 i, Nat.lt_of_lt_of_le h.2.2 hB.size⟩
/-- The edges from x to places less than b, as rows. -/
def rowE (L : List (Int × Int)) (b x : Nat) : List (List Int) := ((List.range b).filter fun y : Nat => decide (x < y) && decide (((x : Int), (y : Int)) ∈ L)).map fun y : Nat => [(x : Int), (y : Int)]
def rowsE (L : List (Int × Int)) (n a : Nat) : List (List Int) := (List.range a).flatMap (rowE L n)
/-- All edges in ascending order, as rows. -/
def edgesT (n : Nat) (ts : List (List Int)) : List (List Int) := rowsE (keysE ts) n n
theorem rowE_start (L : List (Int × Int)) (a : Nat) : rowE L (a + 1) a = [] := by
  unfold rowE
  have : ((List.range (a + 1)).filter fun y : Nat => decide (a < y) && decide (((a : Int), (y : Int)) ∈ L)) = [] := by
    rw [List.filter_eq_nil_iff]
    intro y hy
    have := List.mem_range.1 hy
    simp; intro h; omega
  rw [this]; rfl
theorem rowE_yes {L : List (Int × Int)} {a b : Nat} (hab : a < b) (h : decide (((a : Int), (b : Int)) ∈ L) = true) : rowE L (b + 1) a = rowE L b a ++ [[(a : Int), (b : Int)]] := by
  unfold rowE
  rw [List.range_succ, List.filter_append, List.map_append]
  have : decide (a < b) = true := decide_eq_true hab
  simp only [List.filter_cons, List.filter_nil, this, h, Bool.and_self, if_true, List.map_cons, List.map_nil]
theorem rowE_no {L : List (Int × Int)} {a b : Nat} (h : decide (((a : Int), (b : Int)) ∈ L) = false) : rowE L (b + 1) a = rowE L b a := by
  unfold rowE
  rw [List.range_succ, List.filter_append, List.map_append]
  first
    | (simp [h]; done)
    | (simp [h]; intro _; simpa using h)
theorem rowsE_next (L : List (Int × Int)) (n a : Nat) : rowsE L n (a + 1) = rowsE L n a ++ rowE L n a := by
  simp [rowsE, List.range_succ]
theorem rowE_len (L : List (Int × Int)) (b x : Nat) : (rowE L b x).length ≤ b := by
  unfold rowE
  rw [List.length_map]
  exact Nat.le_trans (List.length_filter_le _ _) (by simp)
theorem rowsE_len (L : List (Int × Int)) (n : Nat) : ∀ a, (rowsE L n a).length ≤ a * n
  | 0 => by simp [rowsE]
  | a + 1 => by
    rw [rowsE_next, List.length_append, Nat.succ_mul]
    exact Nat.add_le_add (rowsE_len L n a) (rowE_len L n a)
theorem l00Min (x y : Int) (w : World) : Calls Tryz.prog 68 #[.int .i64 x, .int .i64 y] w fun e w' => e = .returned (.int .i64 (min x y)) ∧ w' = w := by
  by_cases h : x < y
  · have e : min x y = x := by omega
    rw [e]
    clear e
    go_enter Tryz.func68, Tryz.ntmps68
    go_wp2
    go_ret
    exact ⟨rfl, rfl⟩
  · have e : min x y = y := by omega
    rw [e]
    clear e
    go_enter Tryz.func68, Tryz.ntmps68
    go_wp2
    go_ret
    exact ⟨rfl, rfl⟩
theorem l00Max (x y : Int) (w : World) : Calls Tryz.prog 151 #[.int .i64 x, .int .i64 y] w fun e w' => e = .returned (.int .i64 (max x y)) ∧ w' = w := by
  by_cases h : y < x
  · have e : max x y = x := by omega
    rw [e]
    clear e
    go_enter Tryz.func151, Tryz.ntmps151
    go_wp2
    go_ret
    exact ⟨rfl, rfl⟩
  · have e : max x y = y := by omega
    rw [e]
    clear e
    go_enter Tryz.func151, Tryz.ntmps151
    go_wp2
    go_ret
    exact ⟨rfl, rfl⟩
theorem infoBool : (Tryz.prog.info? 4).map (fun i => (i.zero, i.size, i.bytes)) = some (some (.bool false), 1, 1) := by kernel_rfl
end Go.Proofs.YtcgnmnbjgamedabGreat

/-
The triangles that have two places: what the model gathers. Conditions: each triangle has three places.
-/
namespace Go.Proofs.YtcgnmnbjgamedabGreat
open Go Fk Go.RowKit
set_option linter.unusedVariables false
set_option maxRecDepth 8000

def hasB (t : List Int) (p : Int) : Bool := decide (t.getD 0 0 = p) || (decide (t.getD 1 0 = p) || decide (t.getD 2 0 = p))
/-- The indices below k of the triangles with two places. -/
def atL (ts : List (List Int)) (p q : Int) : Nat → List Int
  | 0 => []
  | k + 1 => atL ts p q k ++ (bif hasB (ts.getD k []) p && hasB (ts.getD k []) q then [(k : Int)] else [])
theorem atL_len (ts : List (List Int)) (p q : Int) (k : Nat) : (atL ts p q k).length ≤ k := by
  induction k with
  | zero => simp [atL]
  | succ k ih => unfold atL; rw [List.length_append]; cases (hasB (ts.getD k []) p && hasB (ts.getD k []) q) <;> simp <;> omega
end Go.Proofs.YtcgnmnbjgamedabGreat

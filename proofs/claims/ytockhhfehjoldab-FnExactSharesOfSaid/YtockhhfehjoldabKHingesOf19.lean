/-
Texts in one: what HingesOf stands on, part 19. Conditions: those of each.
-/
import Derived.Test.YtockhhfehjoldabKHingesOf18
import Derived.Maps.GroupsBeside
import Derived.Lib.SliceRun

/-
The edge of a side; a map of lists beside other work. Conditions: none.
-/
namespace Go.Proofs.Ytockhhfehjoldab
open Go Fk Go.RowKit Go.Maps
set_option linter.unusedVariables false
set_option maxRecDepth 16000

theorem grown_of_below {w w' : World} (hb : Below w.heap.size w w') (row : Option Nat) : w.grownBy w' row := ⟨hb.os, hb.tape, hb.output, hb.size, fun k hk _ => hb.block k hk⟩
theorem groups_below {W V : World} {P : Program} {k : TypeId} {base : Nat} {e : TypeId} {q : IntKind} {b n : Nat} {D : DataW Unit} (h : W.ownsGroups P k base e q b n D) (hB : Below W.heap.size W V) : V.ownsGroups P k base e q b n D :=
  h.kept (grown_of_below hB none) (by simp) (fun es clock hb x hx => by
    cases hv : x.val.ownBlock
    · exact .inl rfl
    · exact .inr (by simp))
/-- What a look-up has found: the slice at the key, and the way back. -/
def Lk (B n : Nat) (D : DataW Unit) (e : Int × Int) (zs : List Int) (v : Value) (w : World) : Prop :=
  w.ownsInts (B + 1) 2 .i64 v zs ∧ zs.length ≤ n ∧ w.groupBack Try.prog 133 140 (B + 1) 2 .i64 B n D (.agg #[.int .i64 e.1, .int .i64 e.2]) (kE e) v
theorem ints_below {W V : World} {base : Nat} {e : TypeId} {q : IntKind} {v : Value} {zs : List Int} (h : W.ownsInts base e q v zs) (hB : Below W.heap.size W V) : V.ownsInts base e q v zs :=
  h.kept (grown_of_below hB none) (by cases hv : v.ownBlock; exact .inl rfl; exact .inr (by simp))
theorem grown_trans {a b c : World} {row : Option Nat} (h : Below a.heap.size a b) (k : b.grownBy c row) : a.grownBy c row := (grown_of_below h row).trans k
theorem Lk.below {B n : Nat} {D : DataW Unit} {e : Int × Int} {zs : List Int} {v : Value} {W V : World} (h : Lk B n D e zs v W) (hB : Below W.heap.size W V) : Lk B n D e zs v V :=
  ⟨ints_below h.1 hB, h.2.1, fun w1 v' zs' hg ho hl hloc => h.2.2 w1 v' zs' (grown_trans hB hg) ho hl (hloc.imp id fun ⟨g, e1, e2⟩ => ⟨g, e1, Nat.le_trans hB.size e2⟩)⟩
/-- What an append has left. -/
def Ap (w0 : World) (B n : Nat) (D : DataW Unit) (e : Int × Int) (zs : List Int) (k : Int) (u : Value) (w : World) : Prop :=
  ∃ v wl, Lk B n D e zs v wl ∧ Below w0.heap.size w0 wl ∧ wl.grownBy w v.ownBlock ∧ w.ownsInts (B + 1) 2 .i64 u (zs ++ [k]) ∧ (u.ownBlock = v.ownBlock ∨ ∃ g, u.ownBlock = some g ∧ wl.heap.size ≤ g)
theorem grown_below' {a b c : World} {row : Option Nat} (h : a.grownBy b row) (k : Below b.heap.size b c) : a.grownBy c row := h.trans (grown_of_below k row)
theorem Ap.below {w0 : World} {B n : Nat} {D : DataW Unit} {e : Int × Int} {zs : List Int} {k : Int} {u : Value} {w w' : World} (h : Ap w0 B n D e zs k u w) (hB : Below w.heap.size w w') : Ap w0 B n D e zs k u w' := by
  obtain ⟨v, wl, h1, h2, h3, h4, h5⟩ := h
  exact ⟨v, wl, h1, h2, grown_below' h3 hB, ints_below h4 hB, h5⟩
theorem Ap.row {w0 : World} {B n : Nat} {D : DataW Unit} {e : Int × Int} {zs : List Int} {k : Int} {u : Value} {w : World} {b1 : Nat} {e1 : TypeId} {s1 n1 : Nat} {v1 : Value} {x1 : List Value} (h : Ap w0 B n D e zs k u w) (hr : w0.ownsRow b1 e1 s1 v1 n1 x1) (he : e1 ≠ 2) : w.ownsRow b1 e1 s1 v1 n1 x1 := by
  obtain ⟨v, wl, h1, h2, h3, _, _⟩ := h
  exact owns_side (owns_up hr h2) h1.1.1 he h3
theorem wp_append_own_at {P : Program} {o : Oper} {a : Act} {K : Act → World → Prop} {Q : Exit → Act → World → Prop} (w : World) (s x : Operand) (t : TypeId)
    (ho : o.op = .call { callee := .builtin .append, args := #[s, x], argTypes := #[t, t] })
    (base : Nat) (e : TypeId) (i : TypeInfo) (z : Value) (size bytes : Nat) (ht : P.underlying t = some (.slice e)) (hi : P.info? e = some i) (hz : i.zero = some z)
    (hsize : i.size = size) (hby : i.bytes = bytes) (hzs : z.cells.size = size) (hsz : 0 < size)
    (v : Value) (n : Nat) (xs : List Value) (hs : a.eval s = v) (hown : w.ownsRow base e size v n xs)
    (ad : Addr) (m c : Nat) (news : List Value) (hx : a.eval x = .slice (some ad) m c) (hl : news.length = m * size) (hnews : ∀ j u, news[j]? = some u → w.cell? (ad.add j) = some u) (h1 : ∀ u ∈ news, u.oneCell' = true)
    (h63 : n + m ≤ maxLen) (hbytes : (n + m) * bytes ≤ 140737488355328) (hbase : base ≤ w.heap.size)
    (h : ∀ v' w', w'.ownsRow base e size v' (n + m) (xs ++ news) → w.grownBy w' v.ownBlock → (v'.ownBlock = v.ownBlock ∨ v'.ownBlock = some w.heap.size) → K (a.put o.dst v') w') : o.wp P a w K Q := by
  obtain ⟨v', w', hr, h2, h3, _, h5⟩ := run_append_own_at (P := P) w base t o.type e i z size bytes ht hi hz hsize hby hzs hsz v n xs hown ad m c news hl hnews h1 h63 hbytes hbase
  unfold Oper.wp execOp
  simp only [ho, resolve, invoke, builtin, Sem.run_bind, Sem.run_pure, Result.andThen_ok, List.map_toArray, List.map_cons, List.map_nil, hs, hx, hr]
  exact h v' w' h2 h3 h5
theorem impl_edgeOf (x y : Int) (w : World) : Calls Try.prog 121 #[.int .i64 x, .int .i64 y] w fun e w' => e = .returned (.agg #[.int .i64 (min x y), .int .i64 (max x y)]) ∧ Below w.heap.size w w' := by
  have ue := Try.underlying140
  have ui := Try.underlying2
  go_enter Try.func121, Try.ntmps121
  go_wp2
  all_goals
    refine bodyPost_ret (v := .agg #[.int .i64 (min x y), .int .i64 (max x y)]) (by first | (simp [results, Try.results121, go_sem]; done) | (simp [results, Try.results121, go_sem]; omega)) rfl ?_
    exact ⟨rfl, (Below.refl _ _).alloc (Nat.le_refl _) _⟩
theorem side_edge (x y : Int) (w : World) : Calls Try.prog 112 #[.agg #[.int .i64 x, .int .i64 y]] w fun e w' => e = .returned (.agg #[.int .i64 (min x y), .int .i64 (max x y)]) ∧ Below w.heap.size w w' := by
  have ue := Try.underlying140
  have us := Try.underlying153
  have ui := Try.underlying2
  have T0 : Hid (Tc w w.heap.size (w.heap.size + 1) [.int .i64 x, .int .i64 y] [.int .i64 0, .int .i64 0] ((w.alloc (.cells #[.int .i64 x, .int .i64 y] 153)).alloc (.cells #[.int .i64 0, .int .i64 0] 140))) := Lib.hid
    ⟨At.new.alloc, by
      have := At.new (w := w.alloc (.cells #[.int .i64 x, .int .i64 y] 153)) (vs := [.int .i64 0, .int .i64 0]) (t := 140)
      simpa using this, fun i => by go_simp, fun i => by go_simp, ((Below.refl _ _).alloc (Nat.le_refl _) _).alloc (by simp) _, ⟨Nat.le_refl _, by omega, by omega⟩, by simp <;> omega⟩
  go_enter Try.func112, Try.ntmps112
  go_wp2_with fail
  generalize ((w.alloc (.cells #[.int .i64 x, .int .i64 y] 153)).alloc (.cells #[.int .i64 0, .int .i64 0] 140)) = W at *
  refine (impl_edgeOf x y W).mono ?_
  rintro e w1 ⟨rfl, hB1⟩
  have T1 := Lib.hid (T0.out.call hB1)
  have q0 := T1.out.res 0 _ rfl
  have q1 := T1.out.res 1 _ rfl
  have p0 := T1.out.fr 0
  have p1 := T1.out.fr 1
  obtain ⟨hR, hBB⟩ := T1.out.fin (vs' := [.int .i64 (min x y), .int .i64 (max x y)]) rfl
  simp only [setL, Nat.zero_add, Nat.reduceAdd] at hR hBB
  have HR := Lib.hid hR
  have HBB := Lib.hid hBB
  clear hR hBB hB1
  go_wp2
  clear q0 q1 p0 p1
  have m0 := HR.out 0 _ rfl
  have m1 := HR.out 1 _ rfl
  refine bodyPost_ret (v := .agg #[.int .i64 (min x y), .int .i64 (max x y)]) (by simp [results, Try.results112, go_sem, m0, m1]) rfl ?_
  exact ⟨rfl, HBB.out⟩
end Go.Proofs.Ytockhhfehjoldab


/-
Whether an edge is inside: how many triangles a map of lists has for it. Conditions: none.
-/
namespace Go.Proofs.Ytockhhfehjoldab
open Go Fk Go.RowKit Go.Maps
set_option linter.unusedVariables false
set_option maxRecDepth 16000

/-- What a look-up by an edge gives. -/
theorem groups_look {W : World} {B n : Nat} {D : DataW Unit} {L : List ((Int × Int) × Int)} {x : Int × Int} (hO : W.ownsGroups Try.prog 140 (B + 1) 2 .i64 B n D) (hF : GroupsOf D L) (hn : n < maxLen) (wx : wfE x) :
    ∃ a c, (Instr.lookup 133 (.map (some B)) (.agg #[.int .i64 x.1, .int .i64 x.2]) false).run Try.prog W = .ok (.slice a (grp L x).length c) W := by
  obtain ⟨v, zs, hrun, hat, ho, _, _⟩ := hO.at edgeKeyed Try.underlying133 (Try.zeroValue39 W) hn (keyOf_edge wx.1 wx.2)
  have hz := group_is hF wx.1 wx.2 hat ho
  obtain ⟨a, c, rfl⟩ := owns_slice ho.1
  rw [hz] at hrun
  exact ⟨a, c, hrun⟩
end Go.Proofs.Ytockhhfehjoldab


/-
Edges in the form in which callers get them: what the program makes. Conditions: edges that lie in memory.
-/
namespace Go.Proofs.Ytockhhfehjoldab
open Go Fk Go.RowKit
set_option linter.unusedVariables false
set_option maxRecDepth 8000

def flatW (es : List (Int × Int)) : Nat → List Value
  | 0 => []
  | k + 1 => flatW es k ++ [.int .i64 (es.getD k (0, 0)).1, .int .i64 (es.getD k (0, 0)).2]
theorem flatW_len (es : List (Int × Int)) (k : Nat) : (flatW es k).length = k * 2 := by
  induction k with
  | zero => rfl
  | succ k ih => unfold flatW; rw [List.length_append, ih]; simp; omega
/-- A list of edges that lies in memory. -/
def EdgesAt (w : World) (a : Option Addr) (n : Nat) (es : List (Int × Int)) : Prop := ∀ k, k < n → ∃ g, a = some ⟨g, 0, none⟩ ∧ w.cell? ⟨g, k * 2, none⟩ = some (.int .i64 (es.getD k (0, 0)).1) ∧ w.cell? ⟨g, k * 2 + 1, none⟩ = some (.int .i64 (es.getD k (0, 0)).2)
theorem EdgesAt.below {w w' : World} {a : Option Addr} {n : Nat} {es : List (Int × Int)} (h : EdgesAt w a n es) (hB : Below w.heap.size w w') : EdgesAt w' a n es := fun k hk => by
  obtain ⟨g, e, h1, h2⟩ := h k hk
  exact ⟨g, e, cell_below hB h1, cell_below hB h2⟩
end Go.Proofs.Ytockhhfehjoldab


/-
The first edge of a list that is inside; clearing edges. Conditions: the list and the map of lists lie in memory.
-/
namespace Go.Proofs.Ytockhhfehjoldab
open Go Fk Go.RowKit Go.Maps
set_option linter.unusedVariables false
set_option maxRecDepth 16000

/-- What is inside, by the list of pairs. -/
def inE (L : List ((Int × Int) × Int)) (x : Int × Int) : Bool := decide ((grp L x).length ≠ 1)
/-- The map of lists and the box in which the program has it, in a world from which all that comes behind grows. -/
structure Tab (w0 : World) (tb B n : Nat) (D : DataW Unit) (L : List ((Int × Int) × Int)) : Prop where
  box : w0.cell? ⟨tb, 0, none⟩ = some (.map (some B))
  own : w0.ownsGroups Try.prog 140 (B + 1) 2 .i64 B n D
  is : GroupsOf D L
  few : n < 4096
  short : ∀ x, (grp L x).length < 4096
/-- 'clear' of edges. -/
theorem run_clear2 (w : World) (ty : TypeId) (b o n c : Nat) (hn : 0 < n)
    (hc : ∀ j, j < n * 2 → (w.cell? ⟨b, o + j, none⟩).isSome = true) (hf : ∀ j, j < n * 2 → w.frozen? ⟨b, o + j, none⟩ = false) :
    (Builtin.clear_ #[137] ty #[.slice (some ⟨b, o, none⟩) n c]).run Try.prog w = .ok (.tuple #[]) (w.setCells b o (List.replicate (n * 2) (.int .i64 0))) := by
  have hzc : (Builtin.zeroCells #[.int .i64 0, .int .i64 0] n).toList = List.replicate (n * 2) (.int .i64 0) := by
    simp [Builtin.zeroCells]
    apply List.ext_getElem
    · simp
    · intro i h1 h2
      have : i % 2 = 0 ∨ i % 2 = 1 := by omega
      rcases this with h | h <;> simp [h]
  have hst := run_storeCells_cells (P := Try.prog) b o (List.replicate (n * 2) (.int .i64 0)) 0 w (by simpa using hc) (by simpa using hf) (by intro v hv'; rw [List.eq_of_mem_replicate hv']; rfl)
  simp only [Nat.add_zero] at hst
  obtain ⟨m, rfl⟩ : ∃ m, n = m + 1 := ⟨n - 1, by omega⟩
  simp [Builtin.clear_, run_underlying Try.underlying137, Try.zeroValue140, Value.cells, hzc, hst]
end Go.Proofs.Ytockhhfehjoldab

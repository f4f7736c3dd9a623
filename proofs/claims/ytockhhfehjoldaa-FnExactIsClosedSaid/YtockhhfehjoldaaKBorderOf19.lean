/-
Texts in one: what BorderOf stands on, part 19. Conditions: those of each.
-/
import Derived.Test.YtockhhfehjoldaaKBorderOf18
import Derived.Lib.SliceRun

/-
Edges in the form in which callers get them: what the program makes. Conditions: edges that lie in memory.
-/
namespace Go.Proofs.Ytockhhfehjoldaa
open Go Fk Go.RowKit
set_option linter.unusedVariables false
set_option maxRecDepth 8000

def flatW (es : List (Int × Int)) : Nat → List Value
  | 0 => []
  | k + 1 => flatW es k ++ [.int .i64 (es.getD k (0, 0)).1, .int .i64 (es.getD k (0, 0)).2]
theorem flatW_len (es : List (Int × Int)) (k : Nat) : (flatW es k).length = k * 2 := by
  induction k with
  | zero => rfl
  | succ k ih => unfold flatW; rw [List.length_append, ih]; simp; omega
/-- A list of edges that lies in memory. -/
def EdgesAt (w : World) (a : Option Addr) (n : Nat) (es : List (Int × Int)) : Prop := ∀ k, k < n → ∃ g, a = some ⟨g, 0, none⟩ ∧ w.cell? ⟨g, k * 2, none⟩ = some (.int .i64 (es.getD k (0, 0)).1) ∧ w.cell? ⟨g, k * 2 + 1, none⟩ = some (.int .i64 (es.getD k (0, 0)).2)
theorem EdgesAt.below {w w' : World} {a : Option Addr} {n : Nat} {es : List (Int × Int)} (h : EdgesAt w a n es) (hB : Below w.heap.size w w') : EdgesAt w' a n es := fun k hk => by
  obtain ⟨g, e, h1, h2⟩ := h k hk
  exact ⟨g, e, cell_below hB h1, cell_below hB h2⟩
set_option maxHeartbeats 1000000 in
theorem edge_lists (a : Option Addr) (n cap : Nat) (es : List (Int × Int)) (w : World) (hc : EdgesAt w a n es) (hlen : n ≤ 1000000) :
    Calls Try.prog 45 #[.slice a n cap] w fun e w' => ∃ v fb fc, e = .returned v ∧ w.heap.size ≤ fb ∧ w'.ownsRow (fb + 1) 38 1 v n (rowVs2 fb n) ∧ w'.ownsRow w.heap.size 2 1 (.slice (some ⟨fb, 0, none⟩) (n * 2) fc) (n * 2) (flatW es n) ∧ Below w.heap.size w w' := by
  have ue := Try.underlying62
  have u2 := Try.underlying2
  obtain ⟨i0, hi, hz0, hz1, hz2⟩ := info_parts info64
  have hmk : (Instr.makeSlice 38 (.int .i64 0) (.int .i64 (2 * (n : Int)))).run Try.prog w = .ok (.slice (some ⟨w.heap.size, 0, none⟩) 0 (n * 2)) (w.alloc (.cells (madeCells #[.int .i64 0] (n * 2)) 2)) := by
    have := run_make (P := Try.prog) w 38 2 i0 (.int .i64 0) Try.underlying38 hi hz0 .i64 .i64 0 (2 * (n : Int)) (by omega) (by omega) (by rw [hz2]; omega) (by omega)
    rw [this, hz1, show (2 * (n : Int)).toNat = n * 2 by omega]; simp; rfl
  have hst : (w.alloc (.cells (madeCells #[.int .i64 0] (n * 2)) 2)).ownsRow w.heap.size 2 1 (.slice (some ⟨w.heap.size, 0, none⟩) 0 (n * 2)) 0 [] :=
    World.ownsRow_made (e := 2) (size := 1) w _ (n * 2) (Nat.le_refl _) (by unfold maxLen; omega) (by unfold madeCells; simp)
  have HST := Lib.hid hst
  have HB0 := Lib.hid ((Below.refl w.heap.size w).alloc (Nat.le_refl _) (.cells (madeCells #[.int .i64 0] (n * 2)) 2))
  have HC := Lib.hid hc
  clear hst hc
  go_enter Try.func45, Try.ntmps45
  go_wp2
  generalize hCH : w.alloc (.cells (madeCells #[.int .i64 0] (n * 2)) 2) = W at *
  go_loopw [3, 12] (fun v i w' => ∃ k : Nat, k ≤ n ∧ i = .int .i64 k ∧ Aside (w'.ownsRow w.heap.size 2 1 v (k * 2) (flatW es k) ∧ v ≠ .slice none 0 0 ∧ Below w.heap.size w w')) (fun _ i _ => n - (intOf i).toNat)
  case atStart => exact ⟨0, Nat.zero_le _, rfl, HST.out, by simp, HB0.out⟩
  case round =>
    obtain ⟨k, hk, hik, hA⟩ := hrel
    subst hik
    obtain ⟨hown, hne, hB⟩ := hA.out
    have HB := Lib.hid hB
    have HOWN := Lib.hid hown
    have HNE := Lib.hid hne
    have hbz := Lib.hid hB.size
    clear hmk HST
    by_cases hlt : k < n
    · have hk0 : (0 : Int) ≤ (k : Int) := by omega
      have hk1 : (k : Int) < (n : Int) := by omega
      obtain ⟨g, ha, z0, z1⟩ := (HC.out.below hB) k hlt
      have HFV : Hid (flatW es (k + 1) = flatW es k ++ [.int .i64 (es.getD k (0, 0)).1, .int .i64 (es.getD k (0, 0)).2]) := rfl
      generalize (es.getD k (0, 0)).1 = j0 at *
      generalize (es.getD k (0, 0)).2 = j1 at *
      clear hA hB hown hne HC
      subst ha
      go_wp2_with (at_builtin; refine wpList_append_own _ rfl _ _ 38 rfl w.heap.size 2 i0 (.int .i64 0) 1 8 Try.underlying38 hi hz0 hz1 hz2 rfl (by decide) _ _ _ rfl ((HOWN.out.alloc _).alloc _) ⟨wr.heap.size + 1, 0, none⟩ 2 2 [.int .i64 j0, .int .i64 j1] ?c0 rfl ?c1 ?c2 ?c3 ?c4 ?c5 ?_)
      case c0 => first | rfl | (simp [Act.eval])
      case c1 => simpa using cell_two_new (wr.alloc (.cells #[.int .i64 j0, .int .i64 j1] 62)) (.int .i64 j0) (.int .i64 j1) 2
      case c2 => intro u hu; simp at hu; rcases hu with rfl | rfl <;> rfl
      case c3 => unfold maxLen; omega
      case c4 => omega
      case c5 => have := hbz.out; simp; omega
      · intro v' w1 hown' hgrow hnil
        have hB1 : Below w.heap.size w ((wr.alloc (.cells #[.int .i64 j0, .int .i64 j1] 62)).alloc (.cells #[.int .i64 j0, .int .i64 j1] 2)) := (HB.out.alloc hbz.out _).alloc (by have := hbz.out; simp; omega) _
        have HB1 := Lib.hid (hB1.grown hgrow hB1.size (fun k hk => (HOWN.out.lt k hk).1))
        have HO1 := Lib.hid hown'
        have HN1 := Lib.hid (show v' ≠ .slice none 0 0 from fun h => by first | exact hnil h | exact HNE.out (hnil.1 h).1)
        clear hown' hgrow hB1 hnil
        go_wp2
        go_roundw
        case rel => exact ⟨k + 1, by omega, by go_num, by rw [HFV.out, show (k + 1) * 2 = k * 2 + 2 by omega]; exact HO1.out, HN1.out, HB1.out⟩
        case measure => simp [intOf]; omega
    · obtain rfl : k = n := by omega
      obtain ⟨fb, fc, hv, hfb, hfc⟩ : ∃ fb fc, _ = Value.slice (some ⟨fb, 0, none⟩) (k * 2) fc ∧ w.heap.size ≤ fb ∧ k * 2 ≤ fc := by
        obtain ⟨_, h2⟩ := hown
        rcases h2 with ⟨h2, _⟩ | ⟨g, cap, cur, h3, h4, _, h5, _⟩
        · exact absurd h2 hne
        · exact ⟨g, cap, h3, h4, h5⟩
      subst hv
      have hlt := HOWN.out.lt fb rfl
      clear hA hB hown hne
      go_wp2_with (go_at_call 75; refine (rows_of2 fb k fc wr (by omega) hfc).mono ?_; rintro e w2 ⟨v, rfl, hr, hb2⟩; have HR := Lib.hid hr; have HB2 := Lib.hid hb2; clear hr hb2)
      go_ret
      exact ⟨v, fb, fc, rfl, hfb, (by
        obtain ⟨h1, h2⟩ := HR.out
        refine ⟨h1, h2.imp id ?_⟩
        rintro ⟨g, cap, cur, h3, h4, h5⟩
        exact ⟨g, cap, cur, h3, by omega, h5⟩), owns_below' HOWN.out HB2.out, HB.out.trans (HB2.out.mono hbz.out)⟩
end Go.Proofs.Ytockhhfehjoldaa


/-
The first edge of a list that is inside; clearing edges. Conditions: the list and the map of lists lie in memory.
-/
namespace Go.Proofs.Ytockhhfehjoldaa
open Go Fk Go.RowKit Go.Maps
set_option linter.unusedVariables false
set_option maxRecDepth 16000

/-- What is inside, by the list of pairs. -/
def inE (L : List ((Int × Int) × Int)) (x : Int × Int) : Bool := decide ((grp L x).length ≠ 1)
/-- The map of lists and the box in which the program has it, in a world from which all that comes behind grows. -/
structure Tab (w0 : World) (tb B n : Nat) (D : DataW Unit) (L : List ((Int × Int) × Int)) : Prop where
  box : w0.cell? ⟨tb, 0, none⟩ = some (.map (some B))
  own : w0.ownsGroups Try.prog 62 (B + 1) 2 .i64 B n D
  is : GroupsOf D L
  few : n < 4096
  short : ∀ x, (grp L x).length < 4096
theorem Tab.pred {w0 : World} {tb B n : Nat} {D : DataW Unit} {L : List ((Int × Int) × Int)} (h : Tab w0 tb B n D L) {x : Int × Int} (wx : wfE x) {W : World} (hB : Below w0.heap.size w0 W) :
    Calls Try.prog 44 #[.agg #[.int .i64 x.1, .int .i64 x.2], .pointer (some ⟨tb, 0, none⟩)] W fun e w' => e = .returned (.bool (inE L x)) ∧ Below W.heap.size W w' :=
  border_pred tb B n D L x W wx (cell_below hB h.box) (groups_below h.own hB) h.is h.few (h.short x)
set_option maxHeartbeats 1000000 in
theorem index_border (w0 : World) (tb B nn : Nat) (D : DataW Unit) (L : List ((Int × Int) × Int)) (hT : Tab w0 tb B nn D L) (a : Option Addr) (n cap : Nat) (es : List (Int × Int)) (w : World) (hE : EdgesAt w a n es) (hw : ∀ k, k < n → wfE (es.getD k (0, 0))) (hB : Below w0.heap.size w0 w) (hlen : n ≤ 4096) :
    Calls Try.prog 76 #[.slice a n cap, .func (.func 44) #[] #[.pointer (some ⟨tb, 0, none⟩)]] w fun e w' =>
      ((e = .returned (.int .i64 (-1)) ∧ ∀ k, k < n → inE L (es.getD k (0, 0)) = false) ∨ ∃ k, k < n ∧ e = .returned (.int .i64 (k : Int)) ∧ inE L (es.getD k (0, 0)) = true ∧ ∀ j, j < k → inE L (es.getD j (0, 0)) = false) ∧ Below w.heap.size w w' := by
  have ue := Try.underlying62
  have HT := Lib.hid hT
  have HE := Lib.hid hE
  have HW := Lib.hid hw
  have HB := Lib.hid hB
  clear hT hE hw hB
  go_enter Try.func76, Try.ntmps76
  go_wp2
  go_loopw [8] (fun i w' => ∃ k : Nat, k ≤ n ∧ i = .int .i64 k ∧ Aside ((∀ j, j < k → inE L (es.getD j (0, 0)) = false) ∧ Below w.heap.size w w')) (fun i _ => n - (intOf i).toNat)
  case atStart => exact ⟨0, Nat.zero_le _, rfl, fun j hj => absurd hj (by omega), Below.refl _ _⟩
  case round =>
    obtain ⟨k, hk, hik, hA⟩ := hrel
    subst hik
    obtain ⟨hd, hb⟩ := hA.out
    have HD := Lib.hid hd
    have HBw := Lib.hid hb
    by_cases hlt : k < n
    · have hk0 : (0 : Int) ≤ (k : Int) := by omega
      have hk1 : (k : Int) < (n : Int) := by omega
      obtain ⟨g, ha, z0, z1⟩ := (HE.out.below hb) k hlt
      have hN := HT.out.pred (HW.out k hlt) (HB.out.trans (hb.mono HB.out.size))
      have HX : Hid (inE L (es.getD k (0, 0)) = inE L (es.getD k (0, 0))) := Lib.hid rfl
      obtain ⟨j0, hj0⟩ : ∃ j0, (es.getD k (0, 0)).1 = j0 := ⟨_, rfl⟩
      obtain ⟨j1, hj1⟩ : ∃ j1, (es.getD k (0, 0)).2 = j1 := ⟨_, rfl⟩
      rw [hj0] at z0 hN
      rw [hj1] at z1 hN
      have HN := Lib.hid hN
      cases hp : inE L (es.getD k (0, 0))
      · rw [hp] at HN
        have HP := Lib.hid hp
        clear hA hd hb hN hj0 hj1 hp HX
        subst ha
        go_wp2_with fail
        refine HN.out.mono ?_
        rintro e w1 ⟨rfl, hB1⟩
        have HB1 := Lib.hid (HBw.out.trans (hB1.mono HBw.out.size))
        clear hB1 z0 z1
        go_wp2
        go_roundw
        case rel =>
          refine ⟨k + 1, by omega, by go_num, fun j hj => ?_, HB1.out⟩
          by_cases h : j < k
          · exact HD.out j h
          · have : j = k := by omega
            rw [this]; exact HP.out
        case measure => simp [intOf]; omega
      · rw [hp] at HN
        have HP := Lib.hid hp
        clear hA hd hb hN hj0 hj1 hp HX
        subst ha
        go_wp2_with fail
        refine HN.out.mono ?_
        rintro e w1 ⟨rfl, hB1⟩
        have HB1 := Lib.hid (HBw.out.trans (hB1.mono HBw.out.size))
        have HLT := Lib.hid hlt
        clear hB1 z0 z1
        go_wp2
        go_ret
        exact ⟨.inr ⟨k, HLT.out, rfl, HP.out, HD.out⟩, HB1.out⟩
    · obtain rfl : k = n := by omega
      clear hA hd hb
      go_wp2
      go_ret
      exact ⟨.inl ⟨rfl, HD.out⟩, HBw.out⟩
/-- 'clear' of edges. -/
theorem run_clear2 (w : World) (ty : TypeId) (b o n c : Nat) (hn : 0 < n)
    (hc : ∀ j, j < n * 2 → (w.cell? ⟨b, o + j, none⟩).isSome = true) (hf : ∀ j, j < n * 2 → w.frozen? ⟨b, o + j, none⟩ = false) :
    (Builtin.clear_ #[65] ty #[.slice (some ⟨b, o, none⟩) n c]).run Try.prog w = .ok (.tuple #[]) (w.setCells b o (List.replicate (n * 2) (.int .i64 0))) := by
  have hzc : (Builtin.zeroCells #[.int .i64 0, .int .i64 0] n).toList = List.replicate (n * 2) (.int .i64 0) := by
    simp [Builtin.zeroCells]
    apply List.ext_getElem
    · simp
    · intro i h1 h2
      have : i % 2 = 0 ∨ i % 2 = 1 := by omega
      rcases this with h | h <;> simp [h]
  have hst := run_storeCells_cells (P := Try.prog) b o (List.replicate (n * 2) (.int .i64 0)) 0 w (by simpa using hc) (by simpa using hf) (by intro v hv'; rw [List.eq_of_mem_replicate hv']; rfl)
  simp only [Nat.add_zero] at hst
  obtain ⟨m, rfl⟩ : ∃ m, n = m + 1 := ⟨n - 1, by omega⟩
  simp [Builtin.clear_, run_underlying Try.underlying65, Try.zeroValue62, Value.cells, hzc, hst]
end Go.Proofs.Ytockhhfehjoldaa


/-
slices.DeleteFunc of the edges that are inside: what is left, in its order. Conditions: the list is the call's own; the map of lists lies below it.
-/
namespace Go.Proofs.Ytockhhfehjoldaa
open Go Fk Go.RowKit Go.Maps
set_option linter.unusedVariables false
set_option maxRecDepth 16000

/-- What is kept of the first j edges. -/
def keptE (L : List ((Int × Int) × Int)) (es : List (Int × Int)) (j : Nat) : List (Int × Int) := (es.take j).filter fun x => !inE L x
theorem keptE_next {L : List ((Int × Int) × Int)} {es : List (Int × Int)} {j : Nat} (hj : j < es.length) : keptE L es (j + 1) = keptE L es j ++ (if inE L (es.getD j (0, 0)) then [] else [es.getD j (0, 0)]) := by
  unfold keptE
  rw [List.take_add_one, List.filter_append, List.getElem?_eq_getElem hj]
  have : es.getD j (0, 0) = es[j] := by simp [List.getD, hj]
  rw [this]
  cases h : inE L es[j] <;> simp [h]
theorem keptE_len (L : List ((Int × Int) × Int)) (es : List (Int × Int)) (j : Nat) : (keptE L es j).length ≤ j := by
  unfold keptE
  exact Nat.le_trans (List.length_filter_le _ _) (List.length_take_le _ _)
/-- The row while edges are struck: what is kept lies ahead, what is to come lies where it lay. -/
structure RowI (w0 : World) (g n j : Nat) (es ks : List (Int × Int)) (W : World) : Prop where
  below : Below w0.heap.size w0 W
  lo : w0.heap.size ≤ g
  lt : g < W.heap.size
  alive : ∀ q, q < n * 2 → ∃ v, W.cell? ⟨g, q, none⟩ = some v
  free : ∀ q, W.frozen? ⟨g, q, none⟩ = false
  kept : ∀ t, t < ks.length → W.cell? ⟨g, t * 2, none⟩ = some (.int .i64 (ks.getD t (0, 0)).1) ∧ W.cell? ⟨g, t * 2 + 1, none⟩ = some (.int .i64 (ks.getD t (0, 0)).2)
  rest : ∀ t, j ≤ t → t < n → W.cell? ⟨g, t * 2, none⟩ = some (.int .i64 (es.getD t (0, 0)).1) ∧ W.cell? ⟨g, t * 2 + 1, none⟩ = some (.int .i64 (es.getD t (0, 0)).2)
theorem RowI.call {w0 : World} {g n j : Nat} {es ks : List (Int × Int)} {W W' : World} (h : RowI w0 g n j es ks W) (hB : Below W.heap.size W W') : RowI w0 g n j es ks W' :=
  ⟨h.below.trans (hB.mono h.below.size), h.lo, Nat.lt_of_lt_of_le h.lt hB.size, fun q hq => by obtain ⟨v, hv⟩ := h.alive q hq; exact ⟨v, cell_below hB hv⟩, fun q => (hB.frozen (p := ⟨g, q, none⟩) h.lt).trans (h.free q),
    fun t ht => ⟨cell_below hB (h.kept t ht).1, cell_below hB (h.kept t ht).2⟩, fun t h1 h2 => ⟨cell_below hB (h.rest t h1 h2).1, cell_below hB (h.rest t h1 h2).2⟩⟩
theorem RowI.skip {w0 : World} {g n j : Nat} {es ks : List (Int × Int)} {W : World} (h : RowI w0 g n j es ks W) : RowI w0 g n (j + 1) es ks W :=
  { h with rest := fun t h1 h2 => h.rest t (by omega) h2 }
/-- An edge is kept: two stores. -/
theorem RowI.put {w0 : World} {g n j : Nat} {es ks : List (Int × Int)} {W : World} (h : RowI w0 g n j es ks W) (hk : ks.length < j) (hj : j < n) (x : Int × Int) :
    RowI w0 g n (j + 1) es (ks ++ [x]) ((W.setCell ⟨g, ks.length * 2, none⟩ (.int .i64 x.1)).setCell ⟨g, ks.length * 2 + 1, none⟩ (.int .i64 x.2)) := by
  have hne : ∀ q, q ≠ ks.length * 2 → q ≠ ks.length * 2 + 1 → ((W.setCell ⟨g, ks.length * 2, none⟩ (.int .i64 x.1)).setCell ⟨g, ks.length * 2 + 1, none⟩ (.int .i64 x.2)).cell? ⟨g, q, none⟩ = W.cell? ⟨g, q, none⟩ := fun q h1 h2 => by
    rw [World.cell?_setCell_other _ _ _ _ (by first | (simp; done) | (simp; omega)), World.cell?_setCell_other _ _ _ _ (by first | (simp; done) | (simp; omega))]
  obtain ⟨v0, hv0⟩ := h.alive (ks.length * 2) (by omega)
  obtain ⟨v1, hv1⟩ := h.alive (ks.length * 2 + 1) (by omega)
  have hv1' : (W.setCell ⟨g, ks.length * 2, none⟩ (.int .i64 x.1)).cell? ⟨g, ks.length * 2 + 1, none⟩ = some v1 := by rw [World.cell?_setCell_other _ _ _ _ (by simp)]; exact hv1
  have e0 : ((W.setCell ⟨g, ks.length * 2, none⟩ (.int .i64 x.1)).setCell ⟨g, ks.length * 2 + 1, none⟩ (.int .i64 x.2)).cell? ⟨g, ks.length * 2, none⟩ = some (.int .i64 x.1) := by
    rw [World.cell?_setCell_other _ _ _ _ (by simp)]; exact World.cell?_setCell_same _ _ _ hv0
  have e1 : ((W.setCell ⟨g, ks.length * 2, none⟩ (.int .i64 x.1)).setCell ⟨g, ks.length * 2 + 1, none⟩ (.int .i64 x.2)).cell? ⟨g, ks.length * 2 + 1, none⟩ = some (.int .i64 x.2) := World.cell?_setCell_same _ _ _ hv1'
  refine ⟨(h.below.setCell h.lo _).setCell h.lo _, h.lo, by simpa using h.lt, fun q hq => ?_, fun q => by simpa using h.free q, fun t ht => ?_, fun t h1 h2 => ?_⟩
  · by_cases a : q = ks.length * 2
    · rw [a]; exact ⟨_, e0⟩
    · by_cases b : q = ks.length * 2 + 1
      · rw [b]; exact ⟨_, e1⟩
      · rw [hne q a b]; exact h.alive q hq
  · by_cases a : t = ks.length
    · have : (ks ++ [x]).getD t (0, 0) = x := by simp [List.getD, a]
      rw [this, a]; exact ⟨e0, e1⟩
    · have ht' : t < ks.length := by simp at ht; omega
      have : (ks ++ [x]).getD t (0, 0) = ks.getD t (0, 0) := by simp [List.getD, List.getElem?_append_left ht']
      rw [this, hne _ (by omega) (by omega), hne _ (by omega) (by omega)]
      exact h.kept t ht'
  · rw [hne _ (by omega) (by omega), hne _ (by omega) (by omega)]
    exact h.rest t (by omega) h2
theorem below_cells {B b : Nat} (hb : B ≤ b) : ∀ (vs : List Value) (o : Nat) {a w : World}, Below B a w → Below B a (w.setCells b o vs)
  | [], _, _, _, h => h
  | v :: r, o, _, _, h => below_cells hb r (o + 1) (h.setCell hb v)
set_option maxHeartbeats 2000000 in
theorem delete_border (w0 : World) (tb B nn : Nat) (D : DataW Unit) (L : List ((Int × Int) × Int)) (hT : Tab w0 tb B nn D L) (g n cap : Nat) (es : List (Int × Int)) (w : World) (hn : es.length = n) (hR : RowI w0 g n 0 es [] w) (hw : ∀ k, k < n → wfE (es.getD k (0, 0))) (hlen : n ≤ 4096) (hcap : n ≤ cap) (hcap2 : cap ≤ maxLen) :
    Calls Try.prog 46 #[.slice (some ⟨g, 0, none⟩) n cap, .func (.func 44) #[] #[.pointer (some ⟨tb, 0, none⟩)]] w fun e w' =>
      e = .returned (.slice (some ⟨g, 0, none⟩) (keptE L es n).length cap) ∧ EdgesAt w' (some ⟨g, 0, none⟩) (keptE L es n).length (keptE L es n) ∧ Below w0.heap.size w0 w' := by
  have ue := Try.underlying62
  have usl := Try.underlying65
  have hE : EdgesAt w (some ⟨g, 0, none⟩) n es := fun k hk => ⟨g, rfl, (hR.rest k (Nat.zero_le _) hk).1, (hR.rest k (Nat.zero_le _) hk).2⟩
  have J := Lib.hid (index_border w0 tb B nn D L hT (some ⟨g, 0, none⟩) n cap es w hE hw hR.below hlen)
  have HT := Lib.hid hT
  have HR := Lib.hid hR
  have HW := Lib.hid hw
  have HN := Lib.hid hn
  clear hT hE hR hw hn
  go_enter Try.func46, Try.ntmps46
  go_wp2_with fail
  refine J.out.mono ?_
  rintro e w1 ⟨⟨rfl, hall⟩ | ⟨k0, hk0, rfl, hin, hall⟩, hB1⟩
  · have HR1 := Lib.hid (HR.out.call hB1)
    have hk : keptE L es n = es := by
      unfold keptE
      rw [← HN.out, List.take_length]
      refine List.filter_eq_self.2 fun x hx => ?_
      obtain ⟨i, hi, rfl⟩ := List.getElem_of_mem hx
      have := hall i (by have := HN.out; omega)
      have e : es.getD i (0, 0) = es[i] := by simp [List.getD, hi]
      rw [e] at this
      simp [this]
    have HK := Lib.hid hk
    clear hB1 hall hk
    go_wp2
    go_ret
    rw [HK.out]
    refine ⟨by rw [HN.out]; rfl, fun t ht => ⟨g, rfl, HR1.out.rest t (Nat.zero_le _) (by have := HN.out; omega)⟩, HR1.out.below⟩
  · have hk : (keptE L es k0) = es.take k0 := by
      unfold keptE
      refine List.filter_eq_self.2 fun x hx => ?_
      obtain ⟨i, hi, rfl⟩ := List.getElem_of_mem hx
      have hi2 : i < k0 := by simp at hi; omega
      have hi3 : i < es.length := by simp at hi; omega
      have := hall i hi2
      have e : es.getD i (0, 0) = es[i] := by simp [List.getD, hi3]
      rw [e] at this
      simp [this]
    have hkl : (keptE L es (k0 + 1)) = es.take k0 := by
      rw [keptE_next (by have := HN.out; omega), hin, hk]; simp
    have hl : (es.take k0).length = k0 := by rw [List.length_take]; have := HN.out; omega
    have hs0 : RowI w0 g n (k0 + 1) es (keptE L es (k0 + 1)) w1 := by
      have h := HR.out.call hB1
      rw [hkl]
      refine { h with kept := fun t ht => ?_, rest := fun t h1 h2 => h.rest t (Nat.zero_le _) h2 }
      rw [hl] at ht
      have e : (es.take k0).getD t (0, 0) = es.getD t (0, 0) := by simp [List.getD, List.getElem?_take, ht]
      rw [e]
      exact h.rest t (Nat.zero_le _) (by omega)
    have hsl : (keptE L es (k0 + 1)).length < k0 + 1 := by rw [hkl, hl]; omega
    have HS0 := Lib.hid (And.intro hs0 hsl)
    have HKL : Hid ((keptE L es (k0 + 1)).length = k0) := Lib.hid (by rw [hkl, hl])
    have hne1 : ((k0 : Int) == -1) = false := beq_eq_false_iff_ne.2 (by omega)
    have hk1 : (k0 : Int) < 4096 := by omega
    clear hk hkl hl hs0 hsl hB1 hin hall J
    go_wp2
    go_loopw [5, 6] (fun i j w' => ∃ jj : Nat, jj ≤ n ∧ j = .int .i64 jj ∧ i = .int .i64 ((keptE L es jj).length : Nat) ∧ Aside (RowI w0 g n jj es (keptE L es jj) w' ∧ (keptE L es jj).length < jj)) (fun _ j _ => n - (intOf j).toNat)
    case atStart => exact ⟨k0 + 1, by omega, by go_num, by rw [HKL.out], HS0.out⟩
    case round =>
      obtain ⟨jj, hjn, hje, hie, hA⟩ := hrel
      subst hje
      subst hie
      obtain ⟨hI, hlt⟩ := hA.out
      have HI := Lib.hid hI
      have HLT := Lib.hid hlt
      by_cases hj : jj < n
      · have hj0 : (0 : Int) ≤ (jj : Int) := by omega
        have hj1 : (jj : Int) < (n : Int) := by omega
        obtain ⟨z0, z1⟩ := hI.rest jj (Nat.le_refl _) hj
        have hX : Below wr.heap.size wr (wr.alloc (.cells #[.int .i64 (es.getD jj (0, 0)).1, .int .i64 (es.getD jj (0, 0)).2] 62)) := (Below.refl _ _).alloc (Nat.le_refl _) _
        have hP := HT.out.pred (HW.out jj hj) (hI.call hX).below
        have HX := Lib.hid hX
        have hnx := keptE_next (L := L) (es := es) (j := jj) (by have := HN.out; omega)
        obtain ⟨x, hx⟩ : ∃ x, es.getD jj (0, 0) = x := ⟨_, rfl⟩
        rw [hx] at z0 z1 hP hnx HX
        have HP := Lib.hid hP
        obtain ⟨ks, hks⟩ : ∃ ks, keptE L es jj = ks := ⟨_, rfl⟩
        rw [hks] at hnx HI HLT ⊢
        cases hp : inE L x
        · rw [hp] at HP hnx
          have HNX := Lib.hid hnx
          obtain ⟨ki, hki⟩ : ∃ ki, ks.length = ki := ⟨_, rfl⟩
          rw [hki]
          have HKI := Lib.hid hki
          have hkj : ki < jj := by rw [← hki]; exact HLT.out
          have hki0 : (0 : Int) ≤ (ki : Int) := by omega
          have hki1 : (ki : Int) < (n : Int) := by omega
          clear hA hI hlt hP hnx hX hx hks hp hki
          go_wp2_with fail
          have hx0 : (wr.alloc (.cells #[.int .i64 x.1, .int .i64 x.2] 62)).cell? ⟨wr.heap.size, 0, none⟩ = some (.int .i64 x.1) := by go_simp
          have hx1 : (wr.alloc (.cells #[.int .i64 x.1, .int .i64 x.2] 62)).cell? ⟨wr.heap.size, 1, none⟩ = some (.int .i64 x.2) := by go_simp
          generalize (wr.alloc (.cells #[.int .i64 x.1, .int .i64 x.2] 62)) = W1 at *
          refine HP.out.mono ?_
          rintro e w2 ⟨rfl, hB2⟩
          have HI2 := Lib.hid ((HI.out.call HX.out).call hB2)
          replace hx0 := cell_below hB2 hx0
          replace hx1 := cell_below hB2 hx1
          obtain ⟨u0, hu0⟩ := HI2.out.alive (ki * 2) (by omega)
          obtain ⟨u1, hu1⟩ := HI2.out.alive (ki * 2 + 1) (by omega)
          have f0 := HI2.out.free (ki * 2)
          have f1 := HI2.out.free (ki * 2 + 1)
          clear hB2 z0 z1
          go_wp2
          go_roundw
          case rel =>
            refine ⟨jj + 1, by omega, by go_num, ?_, ?_, ?_⟩
            · rw [HNX.out]; simp [HKI.out]
            · rw [HNX.out]
              have := HI2.out.put HLT.out hj x
              simpa [HKI.out] using this
            · rw [HNX.out]; simp [HKI.out]; omega
          case measure => simp [intOf]; omega
        · rw [hp] at HP hnx
          have HNX := Lib.hid hnx
          obtain ⟨ki, hki⟩ : ∃ ki, ks.length = ki := ⟨_, rfl⟩
          rw [hki]
          have HKI := Lib.hid hki
          clear hA hI hlt hP hnx hX hx hks hp hki
          go_wp2_with fail
          generalize (wr.alloc (.cells #[.int .i64 x.1, .int .i64 x.2] 62)) = W1 at *
          refine HP.out.mono ?_
          rintro e w2 ⟨rfl, hB2⟩
          have HI2 := Lib.hid ((HI.out.call HX.out).call hB2)
          clear hB2 z0 z1
          go_wp2
          go_roundw
          case rel =>
            refine ⟨jj + 1, by omega, by go_num, ?_, ?_, ?_⟩
            · rw [HNX.out]; simp [HKI.out]
            · rw [HNX.out]; simpa using HI2.out.skip
            · rw [HNX.out]; have := HLT.out; simp; omega
          case measure => simp [intOf]; omega
      · obtain rfl : jj = n := by omega
        have hle := keptE_len L es jj
        obtain ⟨ks, hks⟩ : ∃ ks, keptE L es jj = ks := ⟨_, rfl⟩
        rw [hks] at hI hlt hle
        obtain ⟨ki, hki⟩ : ∃ ki, ks.length = ki := ⟨_, rfl⟩
        rw [hki] at hlt hle
        have hki0 : (0 : Int) ≤ (ki : Int) := by omega
        have hki1 : (ki : Int) ≤ (jj : Int) := by omega
        have hki2 : (ki : Int) ≤ (cap : Int) := by omega
        have hcl : ∀ ty, (Builtin.clear_ #[65] ty #[.slice (some ⟨g, ki * 2, none⟩) (jj - ki) (cap - ki)]).run Try.prog wr = .ok (.tuple #[]) (wr.setCells g (ki * 2) (List.replicate ((jj - ki) * 2) (.int .i64 0))) :=
          fun ty => run_clear2 wr ty g (ki * 2) (jj - ki) (cap - ki) (by omega) (fun j hj => by obtain ⟨v, hv⟩ := hI.alive (ki * 2 + j) (by omega); rw [hv]; rfl) (fun j hj => hI.free _)
        have HKS := Lib.hid hks
        have HKI := Lib.hid hki
        have HI3 := Lib.hid hI
        obtain ⟨W', hW'⟩ : ∃ W', wr.setCells g (ki * 2) (List.replicate ((jj - ki) * 2) (.int .i64 0)) = W' := ⟨_, rfl⟩
        simp only [hW'] at hcl
        have HWS := Lib.hid hW'
        clear hA hI HI hks hki hW'
        rw [HKS.out, HKI.out]
        go_wp2
        go_ret
        rw [← HWS.out]
        refine ⟨by rw [HKS.out, HKI.out]; rfl, ?_, below_cells HI3.out.lo _ _ HI3.out.below⟩
        rw [HKS.out, HKI.out]
        intro t ht
        have hne : ∀ q, q < ki * 2 → (wr.setCells g (ki * 2) (List.replicate ((jj - ki) * 2) (.int .i64 0))).cell? ⟨g, q, none⟩ = wr.cell? ⟨g, q, none⟩ := fun q hq => World.cell?_setCells_out g _ _ wr ⟨g, q, none⟩ (fun _ _ => .inl hq)
        have h := HI3.out.kept t (by rw [HKI.out]; exact ht)
        exact ⟨g, rfl, by rw [hne _ (by omega)]; exact h.1, by rw [hne _ (by omega)]; exact h.2⟩
end Go.Proofs.Ytockhhfehjoldaa


/-
Marks in rows of two numbers that lie beside one another. Conditions: none beyond their sizes.
-/
namespace Go.Proofs.Ytockhhfehjoldaa
open Go Fk Go.RowKit
set_option linter.unusedVariables false
set_option maxRecDepth 8000
/-- The block R has n rows, which lie beside one another in the block F. -/
def FlatRows2 (w : World) (R F n : Nat) : Prop := ∀ j, j < n → ∃ c, w.cell? ⟨R, j, none⟩ = some (.slice (some ⟨F, j * 2, none⟩) 2 c)
theorem FlatRows2.same {w w' : World} {R F n : Nat} (h : FlatRows2 w R F n) (hs : ∀ i v, w.cell? ⟨R, i, none⟩ = some v → w'.cell? ⟨R, i, none⟩ = some v) : FlatRows2 w' R F n := fun j hj => by
  obtain ⟨c, hc⟩ := h j hj
  exact ⟨c, hs _ _ hc⟩
set_option maxHeartbeats 400000 in
theorem mark_flat2 (lo hi R F n cap : Nat) (k0 : Nat) (w : World) (hr : FlatRows2 w R F n) (ho : Own lo hi w F 0 (n * 2)) (hne : R ≠ F) (hl : n ≤ 1048576) (hk : k0 ≤ 1000000000000000000) :
    Calls Try.prog 17 #[.slice (some ⟨R, 0, none⟩) n cap, .int .i64 k0] w fun e w' => e = .returned (.int .i64 ((k0 + n * 2 : Nat) : Int)) ∧ (∀ j, j < n * 2 → w'.cell? ⟨F, j, none⟩ = some (.int .i64 ((k0 + j : Nat) : Int))) ∧ (∀ b i, b ≠ F → w'.cell? ⟨b, i, none⟩ = w.cell? ⟨b, i, none⟩) ∧ Mark lo hi w w' := by
  have H := Lib.hid hr
  have HO := Lib.hid ho
  have HNE := Lib.hid hne
  clear hr ho hne
  go_enter Try.func17, Try.ntmps17
  go_wp2
  go_loopw [1, 5] (fun q i w' => ∃ k : Nat, k ≤ n ∧ i = .int .i64 k ∧ q = .int .i64 ((k0 + k * 2 : Nat) : Int) ∧ Aside ((∀ j, j < k * 2 → w'.cell? ⟨F, j, none⟩ = some (.int .i64 ((k0 + j : Nat) : Int))) ∧ (∀ b i, b ≠ F → w'.cell? ⟨b, i, none⟩ = w.cell? ⟨b, i, none⟩) ∧ Mark lo hi w w')) (fun _ i _ => n - (intOf i).toNat)
  case atStart => exact ⟨0, Nat.zero_le _, rfl, by simp, fun j hj => absurd hj (by omega), fun _ _ _ => rfl, Mark.refl _ _ _⟩
  case round =>
    obtain ⟨k, hkl, rfl, rfl, hA⟩ := hrel
    by_cases hlt : k < n
    · obtain ⟨hdone, hsame, hM⟩ := hA.out
      obtain ⟨c, hc⟩ := H.out k hlt
      have hc' : wr.cell? ⟨R, k, none⟩ = some (.slice (some ⟨F, k * 2, none⟩) 2 c) := (hsame _ _ HNE.out).trans hc
      have hown : Own lo hi wr F (k * 2) 2 := by have := own_part (p := k * 2) (m := 2) (HO.out.mark hM) (by omega); rwa [Nat.zero_add] at this
      have HS := Lib.hid hsame
      have HM := Lib.hid hM
      have HW := Lib.hid hown
      have HD := Lib.hid hdone
      have hk0 : (0 : Int) ≤ (k : Int) := by omega
      have hk1 : (k : Int) < (n : Int) := by omega
      clear hA hsame hM hc hown hdone
      go_wp2_with fail
      refine (laws_markInt64S lo hi F (k * 2) 2 c (k0 + k * 2) wr HW.out (by omega)).mono ?_
      rintro e w1 ⟨rfl, hd, ho, hM1⟩
      have HO1 := Lib.hid ho
      have HD1 := Lib.hid hd
      have HM1 := Lib.hid hM1
      clear hd ho hM1
      go_wp2
      go_roundw
      case rel =>
        refine ⟨k + 1, by omega, by go_num, by congr 1 <;> omega, fun j hj => ?_, fun b i hb => (HO1.out b i (.inl hb)).trans (HS.out b i hb), HM.out.trans HM1.out⟩
        by_cases hj2 : j < k * 2
        · rw [HO1.out F j (.inr (.inl hj2))]; exact HD.out j hj2
        · have := HD1.out (j - k * 2) (by omega)
          rw [show k * 2 + (j - k * 2) = j by omega, show k0 + k * 2 + (j - k * 2) = k0 + j by omega] at this
          exact this
      case measure => simp [intOf]; omega
    · obtain rfl : k = n := by omega
      have HA := Lib.hid hA.out
      clear hA
      go_wp2
      go_ret
      exact ⟨rfl, HA.out.1, HA.out.2.1, HA.out.2.2⟩
theorem held_flat2 (R F n cap : Nat) (k0 : Nat) (w : World) (hr : FlatRows2 w R F n) (ho : ∀ j, j < n * 2 → w.cell? ⟨F, j, none⟩ = some (.int .i64 ((k0 + j : Nat) : Int))) (hl : n ≤ 1048576) (hk : k0 ≤ 1000000000000000000) :
    Calls Try.prog 18 #[.slice (some ⟨R, 0, none⟩) n cap, .int .i64 k0] w fun e w' => e = .returned (.int .i64 ((k0 + n * 2 : Nat) : Int)) ∧ w' = w := by
  have H := Lib.hid hr
  have HO := Lib.hid ho
  clear hr ho
  go_enter Try.func18, Try.ntmps18
  go_wp2
  go_loopw [1, 5] (fun q i w' => ∃ k : Nat, k ≤ n ∧ i = .int .i64 k ∧ q = .int .i64 ((k0 + k * 2 : Nat) : Int) ∧ w' = w) (fun _ i _ => n - (intOf i).toNat)
  case atStart => exact ⟨0, Nat.zero_le _, rfl, by simp, rfl⟩
  case round =>
    obtain ⟨k, hkl, rfl, rfl, hw⟩ := hrel
    by_cases hlt : k < n
    · obtain ⟨c, hc⟩ := H.out k hlt
      have hc' : wr.cell? ⟨R, k, none⟩ = some (.slice (some ⟨F, k * 2, none⟩) 2 c) := by rw [hw]; exact hc
      have hJ := laws_heldInt64S F (k * 2) 2 c (k0 + k * 2) wr (fun j hj => by rw [hw, HO.out (k * 2 + j) (by omega), Nat.add_assoc]) (by omega)
      have HJ := Lib.hid hJ
      have HW := Lib.hid hw
      have hk0 : (0 : Int) ≤ (k : Int) := by omega
      have hk1 : (k : Int) < (n : Int) := by omega
      have hn0 : ¬ ((k0 + k * 2 + 2 : Nat) : Int) < 0 := by omega
      clear hc hJ hw
      go_wp2_with fail
      refine HJ.out.mono ?_
      rintro e w1 ⟨rfl, hw1⟩
      rw [hw1]
      clear hw1 w1
      go_wp2
      go_roundw
      case rel => exact ⟨k + 1, by omega, by go_num, by congr 1 <;> omega, HW.out⟩
      case measure => simp [intOf]; omega
    · obtain rfl : k = n := by omega
      have HW := Lib.hid hw
      clear hw
      go_wp2
      go_ret
      exact ⟨rfl, HW.out⟩
def Flat2 (lo hi : Nat) (w : World) (ta : Option Addr) (n F : Nat) : Prop := (ta = none ∧ n = 0) ∨ ∃ R, ta = some ⟨R, 0, none⟩ ∧ lo ≤ R ∧ R < hi ∧ R < w.heap.size ∧ R ≠ F ∧ FlatRows2 w R F n ∧ Own lo hi w F 0 (n * 2)
theorem flat_any2 (lo hi : Nat) (a : Option Addr) (n cap F : Nat) (k0 : Nat) (w : World) (h : Flat2 lo hi w a n F) (hn : n ≤ 1000000) (hk : k0 ≤ 1000000000) :
    Calls Try.prog 17 #[.slice a n cap, .int .i64 k0] w fun e w' => e = .returned (.int .i64 ((k0 + n * 2 : Nat) : Int)) ∧ ((a = none ∧ n = 0) ∨ ∃ R, a = some ⟨R, 0, none⟩ ∧ FlatRows2 w' R F n ∧ ∀ j, j < n * 2 → w'.cell? ⟨F, j, none⟩ = some (.int .i64 ((k0 + j : Nat) : Int))) ∧ (∀ b i, b ≠ F → w'.cell? ⟨b, i, none⟩ = w.cell? ⟨b, i, none⟩) ∧ Mark lo hi w w' := by
  rcases h with ⟨rfl, rfl⟩ | ⟨R, rfl, h1, h2, h3, h4, h5, h6⟩
  · go_enter Try.func17, Try.ntmps17
    go_wp2
    refine wp_loop_rounds 1 ?_
    rw [rounds_succ]
    go_wp2
    go_ret
    refine ⟨by simp, by simp, ?_, Mark.refl _ _ _⟩
    first | exact fun _ _ _ => rfl | simp
  · refine (mark_flat2 lo hi R F n cap k0 w h5 h6 h4 (by omega) (by omega)).mono ?_
    rintro e w' ⟨he, hd, ho, hM⟩
    exact ⟨he, .inr ⟨R, rfl, h5.same (fun i v hv => (ho R i h4).trans hv), hd⟩, ho, hM⟩
theorem flat_held2 (a : Option Addr) (n cap F : Nat) (k0 : Nat) (w : World) (h : (a = none ∧ n = 0) ∨ ∃ R, a = some ⟨R, 0, none⟩ ∧ FlatRows2 w R F n ∧ ∀ j, j < n * 2 → w.cell? ⟨F, j, none⟩ = some (.int .i64 ((k0 + j : Nat) : Int))) (hn : n ≤ 1000000) (hk : k0 ≤ 1000000000) :
    Calls Try.prog 18 #[.slice a n cap, .int .i64 k0] w fun e w' => e = .returned (.int .i64 ((k0 + n * 2 : Nat) : Int)) ∧ w' = w := by
  rcases h with ⟨rfl, rfl⟩ | ⟨R, rfl, hf, hc⟩
  · go_enter Try.func18, Try.ntmps18
    go_wp2
    refine wp_loop_rounds 1 ?_
    rw [rounds_succ]
    go_wp2
    go_ret
    exact ⟨by simp, by first | rfl | trivial⟩
  · exact held_flat2 R F n cap k0 w hf hc (by omega) (by omega)
theorem Flat2.mark {lo hi lo' hi' : Nat} {w w' : World} {a : Option Addr} {n F : Nat} (h : Flat2 lo hi w a n F) (hM : Mark lo' hi' w w') (hs : ∀ R, a = some R → ∀ i v, w.cell? ⟨R.block, i, none⟩ = some v → w'.cell? ⟨R.block, i, none⟩ = some v) : Flat2 lo hi w' a n F :=
  h.imp id fun ⟨R, e, h1, h2, h3, h4, h5, h6⟩ => ⟨R, e, h1, h2, Nat.lt_of_lt_of_le h3 hM.below.size, h4, h5.same (hs _ e), h6.mark hM⟩
/-- Rows outside the blocks that are marked are as they were. -/
theorem ts_mark2 {lo hi lo' hi' : Nat} {w w' : World} {a : Option Addr} {n cap F : Nat} {ts : List (List Int)} (h : IsTs w a n cap ts) (hl : Flat2 lo' hi' w a n F) (hM : Mark lo hi w w') (ho : hi' ≤ lo ∨ hi ≤ lo') : IsTs w' a n cap ts := by
  obtain ⟨h1, h2, h3, h4, h5⟩ := h
  refine ⟨h1, h2, h3, h4, fun x hx i hlt => ?_⟩
  rcases hl with ⟨e, _⟩ | ⟨R, e, u1, u2, u3, u4, u5, u6⟩
  · rw [e] at hx; cases hx
  · rw [e] at hx; cases hx
    obtain ⟨G, c, c', hc, hI⟩ := h5 _ e i hlt
    rw [addr_add', Nat.zero_add] at hc
    obtain ⟨c2, hc2⟩ := u5 i hlt
    have hb : R < lo ∨ hi ≤ R := by omega
    have hbF : F < lo ∨ hi ≤ F := by have := u6.1; have := u6.2.1; omega
    rw [hc2] at hc
    cases hc
    refine ⟨_, _, _, by rw [addr_add', Nat.zero_add]; exact hM.cell hb hc2, ?_⟩
    obtain ⟨i1, i2, i3, i4, i5, i6⟩ := hI
    refine ⟨i1, i2, i3, i4, i5, fun y hy j hj => ?_⟩
    cases hy
    have := i6 _ rfl j hj
    rw [addr_add'] at this ⊢
    exact hM.cell hbF this
theorem Flat2.below {lo hi : Nat} {w w' : World} {ta : Option Addr} {n F : Nat} (h : Flat2 lo hi w ta n F) (hB : Below w.heap.size w w') : Flat2 lo hi w' ta n F :=
  h.imp id fun ⟨R, e, h1, h2, h3, h4, h5, h6⟩ => ⟨R, e, h1, h2, Nat.lt_of_lt_of_le h3 hB.size, h4, h5.same (fun i v hv => cell_below hB hv), h6.below hB⟩
/-- The marks that were written are there. -/
def MrkR (w : World) (a : Option Addr) (n F : Nat) : Prop := (a = none ∧ n = 0) ∨ ∃ R, a = some ⟨R, 0, none⟩ ∧ FlatRows2 w R F n ∧ ∀ j, j < n * 2 → w.cell? ⟨F, j, none⟩ = some (.int .i64 ((1 + j : Nat) : Int))
theorem MrkR.below {w w' : World} {a : Option Addr} {n F : Nat} (h : MrkR w a n F) (hB : Below w.heap.size w w') : MrkR w' a n F :=
  h.imp id fun ⟨R, e, h1, h2⟩ => ⟨R, e, h1.same (fun i v hv => cell_below hB hv), fun j hj => cell_below hB (h2 j hj)⟩
end Go.Proofs.Ytockhhfehjoldaa

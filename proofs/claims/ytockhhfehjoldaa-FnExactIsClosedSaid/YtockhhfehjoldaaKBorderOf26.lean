/-
Texts in one: what BorderOf stands on, part 26. Conditions: those of each.
-/
import Derived.Test.YtockhhfehjoldaaKBorderOf25
import Derived.Lib.SliceRun
import Derived.Handy
import Derived.Lib.AppendZeros
import Derived.Lib.SmallJoins

/-
What holds leave of forces: the program and its model. Conditions: none beyond that all lie in memory.
-/
namespace Go.Proofs.Ytockhhfehjoldaa
open Go Fk Go.RowKit
set_option linter.unusedVariables false
set_option maxRecDepth 16000

def hofB (cs : List C3) (ts : List (List Int)) (hs : List HC) (fl : Nat) : Bool := areB cs ts hs && decide (fl = cs.length)
def hofL (cs : List C3) (ts : List (List Int)) (hs : List HC) (fs : List C3) (fl : Nat) : List C3 := bif hofB cs ts hs fl then leaveF hs fs else []
theorem RV.low {base base' : Nat} {w : World} {v : Value} {X : List C3} (h : RV base w v X) (hb : base' ≤ base) : RV base' w v X := by
  obtain ⟨a, cap, e, h1, h2⟩ := h
  exact ⟨a, cap, e, h1, h2.imp id fun ⟨b, e, k1, k2, k3, k4⟩ => ⟨b, e, Nat.le_trans hb k1, k2, k3, k4⟩⟩
end Go.Proofs.Ytockhhfehjoldaa


/-
Lists of vectors that the library joins: slices.Grow of a list that is nil. Conditions: none.
-/
namespace Go.Proofs.Ytockhhfehjoldaa
open Go Fk Go.RowKit
set_option linter.unusedVariables false
set_option maxRecDepth 16000

set_option maxHeartbeats 1000000 in
theorem slices_Grow0 (n : Nat) (w : World) (hn : n ≤ 2097152) :
    Calls Try.prog 88 #[.slice none 0 0, .int .i64 n] w fun e w' => (∃ v, e = .returned v ∧ w'.ownsRow w.heap.size 88 3 v 0 []) ∧ Below w.heap.size w w' := by
  obtain ⟨i0, hi, hz0, hz1, hz2⟩ := info_parts infoV
  by_cases h0 : n = 0
  · subst h0
    go_enter Try.func88, Try.ntmps88
    go_wp2
    go_ret
    exact ⟨⟨_, rfl, World.ownsRow_nil _ _ _ _⟩, Below.refl _ _⟩
  · have hA := fun ty => Lib.run_append_nil_zeros (P := Try.prog) w 29 3 ty 88 i0 (.agg #[.float .f32 0, .float .f32 0, .float .f32 0]) .i64 .i64 Try.underlying29 Try.underlying3 hi hz0 n (by omega) (by rw [hz1]; decide) (by omega) (by rw [hz2]; omega)
    have hc : n ≤ grownCap w n 0 88 := grownCap_ge _ _ _ _
    have hc2 : grownCap w n 0 88 ≤ maxLen := grownCap_le_maxLen _ _ _ _ (by unfold maxLen; omega)
    generalize grownCap w n 0 88 = k at *
    go_enter Try.func88, Try.ntmps88
    go_wp2_with (at_builtin; refine Lib.wpList_append_run _ rfl _ _ _ _ rfl _ _ rfl rfl _ _ (hA _) ?_)
    go_wp2
    go_ret
    refine ⟨⟨_, rfl, ?_⟩, ?_⟩
    · have hv : (Value.agg #[.float .f32 0, .float .f32 0, .float .f32 0]).cells.size = 3 := rfl
      have hz : (Builtin.zeroCells (Value.agg #[.float .f32 0, .float .f32 0, .float .f32 0]).cells n ++ Builtin.zeroCells (Value.agg #[.float .f32 0, .float .f32 0, .float .f32 0]).cells (k - n)).size = k * 3 := by
        simp only [Array.size_append, Builtin.zeroCells]
        simp
        rw [hv]
        omega
      have := World.ownsRow_made (base := w.heap.size) (e := 88) (size := 3) w.drew _ k (Nat.le_refl _) hc2 hz
      exact this
    · exact (below_drewN (Below.refl _ _) 1).alloc (Nat.le_refl _) _
/-- The cells of two lists, one after the other. -/
theorem pv_append {n m : Nat} {xs ys : List Value} {cs ds : List C3} (hx : xs.length = n * 3) (hc : cs.length = n) (h : PV n xs cs) (k : PV m ys ds) : PV (n + m) (xs ++ ys) (cs ++ ds) := by
  intro i hi
  by_cases hlt : i < n
  · obtain ⟨p, q, r, e0, e1, e2, f⟩ := h i hlt
    refine ⟨p, q, r, by rw [List.getElem?_append_left (by omega)]; exact e0, by rw [List.getElem?_append_left (by omega)]; exact e1, by rw [List.getElem?_append_left (by omega)]; exact e2, ?_⟩
    rw [show (cs ++ ds).getD i c0 = cs.getD i c0 by simp [List.getD, List.getElem?_append_left (show i < cs.length by omega)]]
    exact f
  · obtain ⟨p, q, r, e0, e1, e2, f⟩ := k (i - n) (by omega)
    refine ⟨p, q, r, by rw [List.getElem?_append_right (by omega), show i * 3 - xs.length = (i - n) * 3 by omega]; exact e0, by rw [List.getElem?_append_right (by omega), show i * 3 + 1 - xs.length = (i - n) * 3 + 1 by omega]; exact e1, by rw [List.getElem?_append_right (by omega), show i * 3 + 2 - xs.length = (i - n) * 3 + 2 by omega]; exact e2, ?_⟩
    rw [show (cs ++ ds).getD i c0 = ds.getD (i - n) c0 by simp [List.getD, List.getElem?_append_right (show cs.length ≤ i by omega), hc]]
    exact f
/-- What has been appended after k of two lists. -/
def cat2 (n m k : Nat) : Nat := if k = 0 then 0 else if k = 1 then n else n + m
def catC (cs ds : List C3) (k : Nat) : List C3 := if k = 0 then [] else if k = 1 then cs else cs ++ ds
set_option maxHeartbeats 2000000 in
theorem slices_Concat2 (g : Nat) (c2 : Nat) (a b : Option Addr) (n c m c' : Nat) (cs ds : List C3) (w : World) (k0' : w.cell? ⟨g, 0, none⟩ = some (.slice a n c)) (k1' : w.cell? ⟨g, 1, none⟩ = some (.slice b m c')) (h : IsVs w a n c cs) (h' : IsVs w b m c' ds) (hn : n ≤ 1000) (hm : m ≤ 1000) :
    Calls Try.prog 65 #[.slice (some ⟨g, 0, none⟩) 2 c2] w fun e w' => (∃ v xs, e = .returned v ∧ w'.ownsRow w.heap.size 88 3 v (n + m) xs ∧ PV (n + m) xs (cs ++ ds)) ∧ Below w.heap.size w w' := by
  obtain ⟨i0, hi, hz0, hz1, hz2⟩ := info_parts infoV
  have HA := Lib.hid h
  have HB := Lib.hid h'
  have K := Lib.hid (And.intro k0' k1')
  have hcl := h.1
  have hdl := h'.1
  clear h h' k0' k1'
  go_enter Try.func65, Try.ntmps65
  go_wp2
  go_loopw [3, 11] (fun s i w' => ∃ k : Nat, k ≤ 2 ∧ i = .int .i64 k ∧ s = .int .i64 (cat2 n m k) ∧ w' = w) (fun _ i _ => 2 - (intOf i).toNat)
  case atStart => exact ⟨0, by omega, rfl, rfl, rfl⟩
  case round =>
    obtain ⟨k, hk, rfl, rfl, hww⟩ := hrel
    obtain rfl : w = wr := hww.symm
    have k0 := K.out.1
    have k1 := K.out.2
    rcases (show k = 0 ∨ k = 1 ∨ k = 2 by omega) with rfl | rfl | rfl
    · have hn0 : ¬ ((n : Int) < 0) := by omega
      simp only [cat2, if_true]
      go_wp2
      go_roundw
      case rel => exact ⟨1, by omega, by go_num, by simp, trivial⟩
      case measure => simp [intOf]
    · have hn0 : ¬ ((n : Int) + (m : Int) < 0) := by omega
      simp only [cat2, Nat.one_ne_zero, if_false, if_true]
      go_wp2
      go_roundw
      case rel => exact ⟨2, by omega, by go_num, by simp, trivial⟩
      case measure => simp [intOf]
    · simp only [cat2, if_false, show ¬ (2 = 0) by decide, show ¬ (2 = 1) by decide]
      go_wp2_with fail
      clear k0 k1
      refine (slices_Grow0 (n + m) w (by omega)).mono ?_
      rintro e w1 ⟨⟨v, rfl, hown⟩, hB1⟩
      obtain ⟨xs, x1, x2, x3, x4⟩ := vs_cells HA.out
      obtain ⟨ys, y1, y2, y3, y4⟩ := vs_cells HB.out
      have A1 := Lib.hid (And.intro (HA.out.2.2.2.1) (And.intro x1 (And.intro x2 (And.intro x3 x4))))
      have B1 := Lib.hid (And.intro (HB.out.2.2.2.1) (And.intro y1 (And.intro y2 (And.intro y3 y4))))
      have O1 := Lib.hid hown
      have L1 := Lib.hid hB1
      clear hown hB1 x1 x2 x3 x4 y1 y2 y3 y4
      go_wp2
      go_loopw [6, 27] (fun s i w' => ∃ k : Nat, k ≤ 2 ∧ i = .int .i64 k ∧ ∃ zs, Aside (w'.ownsRow w.heap.size 88 3 s (cat2 n m k) zs ∧ zs = (if k = 0 then [] else if k = 1 then xs else xs ++ ys) ∧ Below w.heap.size w w')) (fun _ i _ => 2 - (intOf i).toNat)
      case atStart => exact ⟨0, by omega, rfl, [], O1.out, rfl, L1.out⟩
      case round =>
        obtain ⟨k, hk, rfl, zs, hA⟩ := hrel
        rcases (show k = 0 ∨ k = 1 ∨ k = 2 by omega) with rfl | rfl | rfl
        · obtain ⟨ho, hz, hB⟩ := hA.out
          simp only [cat2, if_true, if_false, Nat.one_ne_zero] at ho hz
          have k0 := cell_below hB K.out.1
          have HO := Lib.hid ho
          have HBK := Lib.hid hB
          have HZ := Lib.hid hz
          clear ho hz hB hA
          go_wp2_with (at_builtin; refine wpList_append_opt _ rfl _ _ 29 rfl w.heap.size 88 i0 (.agg #[.float .f32 0, .float .f32 0, .float .f32 0]) 3 12 Try.underlying29 hi hz0 hz1 hz2 rfl (by decide) _ 0 zs rfl HO.out a n c xs rfl A1.out.1 A1.out.2.1 ?c2 A1.out.2.2.2.1 ?c4 ?c5 ?c6 ?_)
          case c2 => exact fun ad had j u hu => (HBK.out.cell (p := ad.add j) (World.block_lt_of_cell? _ _ (A1.out.2.2.1 ad had j u hu))).trans (A1.out.2.2.1 ad had j u hu)
          case c4 => unfold maxLen; omega
          case c5 => omega
          case c6 => exact HBK.out.size
          intro v' w' hown hgrow
          have HO' := Lib.hid hown
          have HB' := Lib.hid (HBK.out.grown hgrow HBK.out.size (fun q hq => (HO.out.lt q hq).1))
          clear hown hgrow
          go_wp2
          go_roundw
          case rel => exact ⟨1, by omega, by go_num, zs ++ xs, by simpa [cat2] using HO'.out, by rw [HZ.out]; simp, HB'.out⟩
          case measure => simp [intOf]
        · obtain ⟨ho, hz, hB⟩ := hA.out
          simp only [cat2, if_true, if_false, Nat.one_ne_zero] at ho hz
          have k1 := cell_below hB K.out.2
          have HO := Lib.hid ho
          have HBK := Lib.hid hB
          have HZ := Lib.hid hz
          clear ho hz hB hA
          go_wp2_with (at_builtin; refine wpList_append_opt _ rfl _ _ 29 rfl w.heap.size 88 i0 (.agg #[.float .f32 0, .float .f32 0, .float .f32 0]) 3 12 Try.underlying29 hi hz0 hz1 hz2 rfl (by decide) _ n zs rfl HO.out b m c' ys rfl B1.out.1 B1.out.2.1 ?c2 B1.out.2.2.2.1 ?c4 ?c5 ?c6 ?_)
          case c2 => exact fun ad had j u hu => (HBK.out.cell (p := ad.add j) (World.block_lt_of_cell? _ _ (B1.out.2.2.1 ad had j u hu))).trans (B1.out.2.2.1 ad had j u hu)
          case c4 => unfold maxLen; omega
          case c5 => omega
          case c6 => exact HBK.out.size
          intro v' w' hown hgrow
          have HO' := Lib.hid hown
          have HB' := Lib.hid (HBK.out.grown hgrow HBK.out.size (fun q hq => (HO.out.lt q hq).1))
          clear hown hgrow
          go_wp2
          go_roundw
          case rel => exact ⟨2, by omega, by go_num, zs ++ ys, by simpa [cat2] using HO'.out, by rw [HZ.out]; simp, HB'.out⟩
          case measure => simp [intOf]
        · obtain ⟨ho, hz, hB⟩ := hA.out
          simp only [cat2, if_false, show ¬ (2 = 0) by decide, show ¬ (2 = 1) by decide] at ho hz
          subst hz
          have HO := Lib.hid ho
          have HBK := Lib.hid hB
          clear ho hB hA
          go_wp2
          go_ret
          exact ⟨⟨_, _, rfl, HO.out, pv_append A1.out.2.1 hcl A1.out.2.2.2.2 B1.out.2.2.2.2⟩, HBK.out⟩
end Go.Proofs.Ytockhhfehjoldaa


/-
All corners of a mesh, as a list of the call's own. Conditions: the mesh lies in memory, its rows are of three.
-/
namespace Go.Proofs.Ytockhhfehjoldaa
open Go Fk Go.RowKit
set_option linter.unusedVariables false
set_option maxRecDepth 8000

/-- A block of corners. -/
def CB (w : World) (g n : Nat) : Prop := ∃ cur, w.heap[g]? = some (.cells cur 83 (0, 0)) ∧ cur.size = n * 3
theorem CB.set {w : World} {g n : Nat} (h : CB w g n) (i : Nat) (v : Value) : CB (w.setCell ⟨g, i, none⟩ v) g n := by
  obtain ⟨cur, h1, h2⟩ := h
  exact ⟨_, Joins.block_setCell h1 v, by simp [h2]⟩
theorem owns_of_cs {w : World} {base g n : Nat} {ts : List (List Int)} (h : CB w g n) (hc : IsCs w g n ts) (hb : base ≤ g) (hn : n ≤ maxLen) : w.ownsRow base 83 3 (.slice (some ⟨g, 0, none⟩) n n) n (flatV ts n) := by
  obtain ⟨cur, h1, h2⟩ := h
  have hcell : ∀ i, w.cell? ⟨g, i, none⟩ = cur[i]? := fun i => by simp [World.cell?, h1]
  refine ⟨flatV_len ts n, .inr ⟨g, n, cur, rfl, hb, h1, Nat.le_refl _, hn, h2, ?_⟩⟩
  have key : ∀ k, k ≤ n → cur.toList.take (k * 3) = flatV ts k := by
    intro k
    induction k with
    | zero => intro _; simp [flatV]
    | succ k ih =>
      intro hk
      obtain ⟨e0, e1, e2⟩ := hc k (by omega)
      rw [hcell] at e0 e1 e2
      have hl : k * 3 + 2 < cur.toList.length := by simp; omega
      rw [show (k + 1) * 3 = k * 3 + 1 + 1 + 1 by omega, List.take_add_one, List.take_add_one, List.take_add_one, ih (by omega)]
      simp only [Array.getElem?_toList] at *
      rw [e0, e1, e2]
      simp [flatV]
  exact key n (Nat.le_refl _)
set_option maxHeartbeats 1000000 in
theorem all_cornersO (pa ta : Option Addr) (pl pc tl tc : Nat) (ts : List (List Int)) (w : World) (h : IsTs w ta tl tc ts) (h3 : ∀ k, k < tl → (ts.getD k []).length = 3) (hlen : tl ≤ 128) :
    Calls Try.prog 63 #[.agg #[.slice pa pl pc, .slice ta tl tc]] w fun e w' => e = .returned (.slice (some ⟨w.heap.size + 1, 0, none⟩) tl tl) ∧ IsCs w' (w.heap.size + 1) tl ts ∧ Below w.heap.size w w' ∧ w.heap.size + 1 < w'.heap.size ∧ (∀ i, w'.frozen? ⟨w.heap.size + 1, i, none⟩ = false) ∧ CB w' (w.heap.size + 1) tl := by
  have ui := Try.underlying31
  have uc := Try.underlying83
  obtain ⟨i0, hi, hz0, hz1, hz2⟩ := info_parts infoC
  have hmk : (Instr.makeSlice 80 (.int .i64 tl) (.int .i64 tl)).run Try.prog (w.alloc (.cells #[.slice pa pl pc, .slice ta tl tc] 31)) = .ok (.slice (some ⟨w.heap.size + 1, 0, none⟩) tl tl) ((w.alloc (.cells #[.slice pa pl pc, .slice ta tl tc] 31)).alloc (.cells (madeCells #[.int .i64 0, .int .i64 0, .int .i64 0] (tl * 3)) 83)) := by
    have := run_make (P := Try.prog) (w.alloc (.cells #[.slice pa pl pc, .slice ta tl tc] 31)) 80 83 i0 (.agg #[.int .i64 0, .int .i64 0, .int .i64 0]) Try.underlying80 hi hz0 .i64 .i64 tl tl (by omega) (Int.le_refl _) (by rw [hz2]; omega) (by omega)
    rw [this, hz1]; simp; rfl
  have hstart : Below w.heap.size w ((w.alloc (.cells #[.slice pa pl pc, .slice ta tl tc] 31)).alloc (.cells (madeCells #[.int .i64 0, .int .i64 0, .int .i64 0] (tl * 3)) 83)) ∧ w.heap.size + 1 < ((w.alloc (.cells #[.slice pa pl pc, .slice ta tl tc] 31)).alloc (.cells (madeCells #[.int .i64 0, .int .i64 0, .int .i64 0] (tl * 3)) 83)).heap.size ∧
      (∀ j, j < tl * 3 → ∃ v, ((w.alloc (.cells #[.slice pa pl pc, .slice ta tl tc] 31)).alloc (.cells (madeCells #[.int .i64 0, .int .i64 0, .int .i64 0] (tl * 3)) 83)).cell? ⟨w.heap.size + 1, j, none⟩ = some v) ∧ (∀ j, ((w.alloc (.cells #[.slice pa pl pc, .slice ta tl tc] 31)).alloc (.cells (madeCells #[.int .i64 0, .int .i64 0, .int .i64 0] (tl * 3)) 83)).frozen? ⟨w.heap.size + 1, j, none⟩ = false) := by
    refine ⟨((Below.refl _ _).alloc (Nat.le_refl _) _).alloc (by simp) _, by simp, fun j hj => ?_, fun j => by simp⟩
    have := made_cell3 (w.alloc (.cells #[.slice pa pl pc, .slice ta tl tc] 31)) #[.int .i64 0, .int .i64 0, .int .i64 0] (tl * 3) j 83 hj
    simpa using this
  have HST := Lib.hid hstart
  have CB0 : Hid (CB ((w.alloc (.cells #[.slice pa pl pc, .slice ta tl tc] 31)).alloc (.cells (madeCells #[.int .i64 0, .int .i64 0, .int .i64 0] (tl * 3)) 83)) (w.heap.size + 1) tl) := Lib.hid ⟨madeCells #[.int .i64 0, .int .i64 0, .int .i64 0] (tl * 3), by have := heap_alloc_new (w.alloc (.cells #[.slice pa pl pc, .slice ta tl tc] 31)) (.cells (madeCells #[.int .i64 0, .int .i64 0, .int .i64 0] (tl * 3)) 83); simpa using this, by simp [madeCells]⟩
  clear hstart
  go_enter Try.func63, Try.ntmps63
  go_wp2
  generalize hw0 : (w.alloc (.cells #[.slice pa pl pc, .slice ta tl tc] 31)).alloc (.cells (madeCells #[.int .i64 0, .int .i64 0, .int .i64 0] (tl * 3)) 83) = w0 at HST CB0 ⊢
  go_loopw [13] (fun i w' => ∃ k : Nat, k ≤ tl ∧ i = .int .i64 k ∧ Aside ((Below w.heap.size w w' ∧ w.heap.size + 1 < w'.heap.size ∧ (∀ j, j < tl * 3 → ∃ v, w'.cell? ⟨w.heap.size + 1, j, none⟩ = some v) ∧ (∀ j, w'.frozen? ⟨w.heap.size + 1, j, none⟩ = false)) ∧ IsCs w' (w.heap.size + 1) k ts ∧ CB w' (w.heap.size + 1) tl)) (fun i _ => tl - (intOf i).toNat)
  case atStart => exact ⟨0, Nat.zero_le _, rfl, HST.out, fun j hj => absurd hj (by omega), CB0.out⟩
  case round =>
    obtain ⟨k, hk, rfl, hA⟩ := hrel
    by_cases hlt : k < tl
    · obtain ⟨⟨hB, hgs, hce, hfz⟩, hdone, hcb⟩ := hA.out
      have HCB := Lib.hid hcb
      clear hcb
      have h' := h.below hB
      obtain ⟨bt, ot, rfl, hrow⟩ := h'.some (by omega)
      obtain ⟨r1, n1, q1, cr, ir⟩ := hrow k hlt
      have hn1 : n1 = 3 := ir.1.symm.trans (h3 k hlt)
      subst hn1
      obtain ⟨br, or, rfl, hz⟩ := ir.some (by decide)
      have z0 := hz 0 (by decide)
      have z1 := hz 1 (by decide)
      have z2 := hz 2 (by decide)
      rw [Nat.add_zero] at z0
      have hk0 : (0 : Int) ≤ (k : Int) := by omega
      have hk1 : (k : Int) < (tl : Int) := by omega
      have hf0 := hfz (k * 3)
      have hf1 := hfz (k * 3 + 1)
      have hf2 := hfz (k * 3 + 2)
      obtain ⟨v0, hv0⟩ := hce (k * 3) (by omega)
      obtain ⟨v1, hv1⟩ := hce (k * 3 + 1) (by omega)
      obtain ⟨v2, hv2⟩ := hce (k * 3 + 2) (by omega)
      have HD := Lib.hid hdone
      have HC := Lib.hid hce
      have HF := Lib.hid hfz
      have HB := Lib.hid hB
      generalize hj0 : (ts.getD k []).getD 0 0 = j0 at *
      generalize hj1 : (ts.getD k []).getD 1 0 = j1 at *
      generalize hj2 : (ts.getD k []).getD 2 0 = j2 at *
      have HJ := Lib.hid (And.intro hj0 (And.intro hj1 hj2))
      clear hA hrow h' hdone hce hfz hB h hw0 HST CB0 hmk ir hz hj0 hj1 hj2 h3 hi
      go_wp2
      rename_i hKc
      refine hKc _ _ ?_
      go_wp2
      go_roundw
      case rel =>
        obtain ⟨e0, e1, e2, eo⟩ := set3k (u := .int .i64 j0) (v := .int .i64 j1) (t := .int .i64 j2) hv0 hv1 hv2
        refine ⟨k + 1, by omega, by go_num, ⟨⟨((HB.out.setCell (Nat.le_succ _) _).setCell (Nat.le_succ _) _).setCell (Nat.le_succ _) _, by simp <;> omega, fun j hj => ?_, fun j => ?_⟩, fun j hj => ?_, ((HCB.out.set _ _).set _ _).set _ _⟩⟩
        · by_cases h0 : j = k * 3
          · subst h0; exact ⟨_, e0⟩
          · by_cases h1 : j = k * 3 + 1
            · subst h1; exact ⟨_, e1⟩
            · by_cases h2 : j = k * 3 + 2
              · subst h2; exact ⟨_, e2⟩
              · obtain ⟨v, hv⟩ := HC.out j hj
                exact ⟨v, by rw [eo j h0 h1 h2]; exact hv⟩
        · simp; exact HF.out j
        · by_cases hjk : j = k
          · subst hjk; rw [HJ.out.1, HJ.out.2.1, HJ.out.2.2]; exact ⟨e0, e1, e2⟩
          · obtain ⟨k0, k1, k2⟩ := HD.out j (by omega)
            exact ⟨by rw [eo _ (by omega) (by omega) (by omega)]; exact k0, by rw [eo _ (by omega) (by omega) (by omega)]; exact k1, by rw [eo _ (by omega) (by omega) (by omega)]; exact k2⟩
      case measure => simp [intOf]; omega
    · obtain rfl : k = tl := by omega
      obtain ⟨⟨hB, hgs, hce, hfz⟩, hdone, hcb⟩ := hA.out
      have HCB := Lib.hid hcb
      clear hcb
      have HF := Lib.hid hdone
      have HB := Lib.hid hB
      have HZ := Lib.hid hfz
      clear hA hB hce hfz hdone h h3 hmk hw0 HST CB0
      go_wp2
      go_ret
      exact ⟨rfl, HF.out, HB.out, hgs, HZ.out, HCB.out⟩
end Go.Proofs.Ytockhhfehjoldaa


/-
Meshes that are finished: valid, or none. Conditions: places and corners lie in lists of one's own.
-/
namespace Go.Proofs.Ytockhhfehjoldaa
open Go Fk Go.RowKit
set_option linter.unusedVariables false
set_option maxRecDepth 8000
set_option maxHeartbeats 1000000 in
theorem finish_mesh (base cb pl pc tl cc : Nat) (pa : Option Addr) (xs : List Value) (cs : List C3) (ts : List (List Int)) (w : World) (hp : w.ownsRow base 88 3 (.slice pa pl pc) pl xs) (hx : PV pl xs cs) (hcl : cs.length = pl) (hc : IsCs w cb tl ts) (htl : ts.length = tl) (h3 : ∀ j, j < tl → (ts.getD j []).length = 3) (hz : ∀ j, j < tl → ∀ z ∈ ts.getD j [], (Lit.int .i64 z).wf = true) (hlen : tl ≤ 1000000) (hb : base ≤ w.heap.size) :
    Calls Try.prog 64 #[.slice pa pl pc, .slice (some ⟨cb, 0, none⟩) tl cc] w fun e w' => (∃ sa sc sa' sc', e = .returned (.tuple #[.agg #[.slice sa (rV (fun c => c) cs ts).length sc, .slice sa' (rT cs ts).length sc'], .bool (validB cs ts)]) ∧ TupG base (rV (fun c => c) cs ts) (rT cs ts) sa sc sa' sc' w') ∧ Below w.heap.size w w' := by
  have ui := Try.underlying31
  generalize hrc : rV (fun c => c) cs ts = rcs
  generalize hrt : rT cs ts = rts
  generalize hok : validB cs ts = ok at *
  have HRC := Lib.hid hrc
  have HRT := Lib.hid hrt
  have HOK := Lib.hid hok
  clear hrc hrt hok
  have HP := Lib.hid hp
  have HX := Lib.hid hx
  have HC := Lib.hid hc
  have H3 := Lib.hid h3
  have HZ := Lib.hid hz
  have hB0 : Below w.heap.size w (w.alloc (.cells #[.slice none 0 0, .slice none 0 0] 31)) := (Below.refl _ _).alloc (Nat.le_refl _) _
  have zr : (w.alloc (.cells #[.slice none 0 0, .slice none 0 0] 31)).ownsRow w.heap.size 31 2 (.slice (some ⟨w.heap.size, 0, none⟩) 1 1) 1 [.slice none 0 0, .slice none 0 0] :=
    World.ownsRow_lit (base := w.heap.size) (e := 31) (size := 2) w #[.slice none 0 0, .slice none 0 0] 1 (Nat.le_refl _) (by decide) rfl
  have HJ := Lib.hid (triangle_lists' cb tl cc ts _ (hc.below hB0) hlen)
  have HP0 := Lib.hid (owns_up hp hB0)
  have hpa : ∀ x, pa = some x → x.block < w.heap.size := fun x e => by obtain ⟨g, e', _, h⟩ := lv_of_owns hp x e; rw [e']; exact h
  have HPA := Lib.hid hpa
  have HB0 := Lib.hid hB0
  have ZR := Lib.hid zr
  have hs0 : (w.alloc (.cells #[.slice none 0 0, .slice none 0 0] 31)).heap.size = w.heap.size + 1 := by simp
  have HS0 := Lib.hid hs0
  clear hp hx hc h3 hz hB0 zr hpa hs0
  generalize hCH : (w.alloc (.cells #[.slice none 0 0, .slice none 0 0] 31)) = W at *
  go_enter Try.func64, Try.ntmps64
  go_wp2_with fail
  refine HJ.out.mono ?_
  rintro e w1 ⟨v, fb, fc, rfl, hfb, hrow, hflat, hB1⟩
  obtain ⟨ra, rc, rfl⟩ := owns_slice hrow
  have hs1 := hB1.size
  have ZR1 := Lib.hid (owns_up ZR.out hB1)
  have HP1 := Lib.hid (owns_up HP0.out hB1)
  have HB1 := Lib.hid (HB0.out.trans (hB1.mono HB0.out.size))
  have HR1 := Lib.hid hrow
  have HF1 := Lib.hid hflat
  have hX : Below w1.heap.size w1 (w1.alloc (.cells #[.slice pa pl pc, .slice ra tl rc] 31)) := (Below.refl _ _).alloc (Nat.le_refl _) _
  have x0 : (w1.alloc (.cells #[.slice pa pl pc, .slice ra tl rc] 31)).cell? ⟨w1.heap.size, 0, none⟩ = some (.slice pa pl pc) := by go_simp
  have x1 : (w1.alloc (.cells #[.slice pa pl pc, .slice ra tl rc] 31)).cell? ⟨w1.heap.size, 1, none⟩ = some (.slice ra tl rc) := by go_simp
  have ZR1 := Lib.hid (owns_up ZR1.out hX)
  have HP1 := Lib.hid (owns_up HP1.out hX)
  have HR1 := Lib.hid (owns_up HR1.out hX)
  have HF1 := Lib.hid (owns_up HF1.out hX)
  have HB1 := Lib.hid (HB1.out.trans (hX.mono HB1.out.size))
  clear hrow hflat hB1 hCH hX
  go_wp2_with fail
  generalize (w1.alloc (.cells #[.slice pa pl pc, .slice ra tl rc] 31)) = W1 at *
  have hsW := HS0.out
  have hF := owns_low HF1.out (base' := base) (by omega)
  obtain ⟨ra', rc', e, hI, hFl⟩ := rows_mesh HR1.out hF htl H3.out HZ.out
  cases e
  have hV := vs_owned HP1.out hcl HX.out
  have hJ2 := impl_ValidMesh pa ra pl pc tl rc cs ts W1 hV hI
  clear hF hI hFl hV
  have hok := HOK.out
  have hrc := HRC.out
  have hrt := HRT.out
  cases ok
  · rw [rV_no hok] at hrc
    rw [rT_no hok] at hrt
    subst hrc hrt
    rw [hok] at hJ2
    refine hJ2.mono ?_
    rintro e w2 ⟨rfl, hB2⟩
    have ZR2 := Lib.hid (owns_up ZR1.out hB2)
    have HB2 := Lib.hid (HB1.out.trans (hB2.mono HB1.out.size))
    clear hB2 x0 x1 hJ2 hok
    have z0 := cell0_of ZR2.out
    have z1 := cell1_of ZR2.out
    have f0 := ZR2.out.frozenAt 0
    have f1 := ZR2.out.frozenAt 1
    go_wp2
    have x0' : ∀ u, (w2.setCell ⟨w.heap.size, 0, none⟩ u).cell? ⟨w.heap.size, 1, none⟩ = some (.slice none 0 0) := fun u => by rw [World.cell?_setCell_other _ _ _ _ (by simp)]; exact z1
    have r1 : ∀ u v, ((w2.setCell ⟨w.heap.size, 0, none⟩ u).setCell ⟨w.heap.size, 1, none⟩ v).cell? ⟨w.heap.size, 1, none⟩ = some v := fun u v => World.cell?_setCell_same _ _ _ (x0' u)
    have r0 : ∀ u v, ((w2.setCell ⟨w.heap.size, 0, none⟩ u).setCell ⟨w.heap.size, 1, none⟩ v).cell? ⟨w.heap.size, 0, none⟩ = some u := fun u v => by rw [World.cell?_setCell_other _ _ _ _ (by simp)]; exact World.cell?_setCell_same _ _ _ z0
    refine bodyPost_ret (v := .tuple #[.agg #[.slice none 0 0, .slice none 0 0], .bool false]) (by simp [results, Try.results64, go_sem, r0, r1]) rfl ⟨⟨none, 0, none, 0, rfl, ?_⟩, ?_⟩
    · exact ⟨0, ⟨rfl, Nat.le_refl _, by unfold maxLen; omega, fun _ => ⟨rfl, rfl⟩, fun x hx => (by cases hx)⟩, ⟨rfl, Nat.le_refl _, by unfold maxLen; omega, fun _ => ⟨rfl, rfl⟩, fun x hx => (by cases hx)⟩, .inl ⟨rfl, rfl⟩, .inl ⟨rfl, rfl⟩, fun x hx => (by cases hx)⟩
    · exact (HB2.out.setCell (Nat.le_refl _) _).setCell (Nat.le_refl _) _
  · rw [rV_yes hok, show cs.map (fun c => c) = cs by simp] at hrc
    rw [rT_yes hok] at hrt
    subst hrc hrt
    rw [hok] at hJ2
    refine hJ2.mono ?_
    rintro e w2 ⟨rfl, hB2⟩
    replace x0 := cell_below hB2 x0
    replace x1 := cell_below hB2 x1
    have ZR2 := Lib.hid (owns_up ZR1.out hB2)
    have HP2 := Lib.hid (owns_up HP1.out hB2)
    have HR2 := Lib.hid (owns_up HR1.out hB2)
    have HF2 := Lib.hid (owns_up HF1.out hB2)
    have HB2 := Lib.hid (HB1.out.trans (hB2.mono HB1.out.size))
    clear hB2 hJ2 hok
    have z0 := cell0_of ZR2.out
    have z1 := cell1_of ZR2.out
    have f0 := ZR2.out.frozenAt 0
    have f1 := ZR2.out.frozenAt 1
    go_wp2
    have x0' : ∀ u, (w2.setCell ⟨w.heap.size, 0, none⟩ u).cell? ⟨w.heap.size, 1, none⟩ = some (.slice none 0 0) := fun u => by rw [World.cell?_setCell_other _ _ _ _ (by simp)]; exact z1
    have r1 : ∀ u v, ((w2.setCell ⟨w.heap.size, 0, none⟩ u).setCell ⟨w.heap.size, 1, none⟩ v).cell? ⟨w.heap.size, 1, none⟩ = some v := fun u v => World.cell?_setCell_same _ _ _ (x0' u)
    have r0 : ∀ u v, ((w2.setCell ⟨w.heap.size, 0, none⟩ u).setCell ⟨w.heap.size, 1, none⟩ v).cell? ⟨w.heap.size, 0, none⟩ = some u := fun u v => by rw [World.cell?_setCell_other _ _ _ _ (by simp)]; exact World.cell?_setCell_same _ _ _ z0
    have hZ := ZR2.out.stored 0 (.slice pa pl pc)
    have hZ2 := hZ.1.stored 1 (.slice ra tl rc)
    have hv := owns_side (owns_side HP2.out ZR2.out (by decide) hZ.2) hZ.1 (by decide) hZ2.2
    have hr := owns_side (owns_side HR2.out ZR2.out (by decide) hZ.2) hZ.1 (by decide) hZ2.2
    have hl := owns_side (owns_side HF2.out ZR2.out (by decide) hZ.2) hZ.1 (by decide) hZ2.2
    have hl' := owns_low hl (base' := base) (by omega)
    obtain ⟨ra', rc', e, hI, hF⟩ := rows_mesh hr hl' htl H3.out HZ.out
    cases e
    refine bodyPost_ret (v := .tuple #[.agg #[.slice pa pl pc, .slice ra tl rc], .bool true]) (by simp [results, Try.results64, go_sem, r0, r1]) rfl ⟨⟨pa, pc, ra, rc, by rw [hcl, htl], ?_⟩, ?_⟩
    · rw [TupG, hcl, htl]
      refine ⟨fb, vs_owned hv hcl HX.out, hI, gm_of hv (Nat.le_refl _) hF (fun P e => ?_)⟩
      have hP := HPA.out P e
      refine ⟨by omega, fun R e => ?_⟩
      obtain ⟨h, e', h1, _⟩ := lv_of_owns hr R e
      rw [e']
      show P.block ≠ h
      omega
    · exact (HB2.out.setCell (Nat.le_refl _) _).setCell (Nat.le_refl _) _
end Go.Proofs.Ytockhhfehjoldaa

/-
Texts in one: what RestOf stands on, part 22. Conditions: those of each.
-/
import Derived.Test.YtcgnmnbjgamedabGreatKRestOf21
import Derived.Lib.AppendZeros
import Derived.Lib.SmallJoins

/-
Lists of vectors that the library joins: slices.Grow of a list that is nil. Conditions: none.
-/
namespace Go.Proofs.YtcgnmnbjgamedabGreat
open Go Fk Go.RowKit
set_option linter.unusedVariables false
set_option maxRecDepth 16000

end Go.Proofs.YtcgnmnbjgamedabGreat

/-
All corners of a mesh, as a list of the call's own. Conditions: the mesh lies in memory, its rows are of three.
-/
namespace Go.Proofs.YtcgnmnbjgamedabGreat
open Go Fk Go.RowKit
set_option linter.unusedVariables false
set_option maxRecDepth 8000

/-- A block of corners. -/
def CB (w : World) (g n : Nat) : Prop := ∃ cur, w.heap[g]? = some (.cells cur 137 (0, 0)) ∧ cur.size = n * 3
theorem CB.set {w : World} {g n : Nat} (h : CB w g n) (i : Nat) (v : Value) : CB (w.setCell ⟨g, i, none⟩ v) g n := by
  obtain ⟨cur, h1, h2⟩ := h
  exact ⟨_, Joins.block_setCell h1 v, by simp [h2]⟩
theorem owns_of_cs {w : World} {base g n : Nat} {ts : List (List Int)} (h : CB w g n) (hc : IsCs w g n ts) (hb : base ≤ g) (hn : n ≤ maxLen) : w.ownsRow base 137 3 (.slice (some ⟨g, 0, none⟩) n n) n (flatV ts n) := by
  obtain ⟨cur, h1, h2⟩ := h
  have hcell : ∀ i, w.cell? ⟨g, i, none⟩ = cur[i]? := fun i => by simp [World.cell?, h1]
  refine ⟨flatV_len ts n, .inr ⟨g, n, cur, rfl, hb, h1, Nat.le_refl _, hn, h2, ?_⟩⟩
  have key : ∀ k, k ≤ n → cur.toList.take (k * 3) = flatV ts k := by
    intro k
    induction k with
    | zero => intro _; simp [flatV]
    | succ k ih =>
      intro hk
      obtain ⟨e0, e1, e2⟩ := hc k (by omega)
      rw [hcell] at e0 e1 e2
      have hl : k * 3 + 2 < cur.toList.length := by simp; omega
      rw [show (k + 1) * 3 = k * 3 + 1 + 1 + 1 by omega, List.take_add_one, List.take_add_one, List.take_add_one, ih (by omega)]
      simp only [Array.getElem?_toList] at *
      rw [e0, e1, e2]
      simp [flatV]
  exact key n (Nat.le_refl _)
set_option maxHeartbeats 1000000 in
theorem all_cornersO (pa ta : Option Addr) (pl pc tl tc : Nat) (ts : List (List Int)) (w : World) (h : IsTs w ta tl tc ts) (h3 : ∀ k, k < tl → (ts.getD k []).length = 3) (hlen : tl ≤ 128) :
    Calls Tryz.prog 95 #[.agg #[.slice pa pl pc, .slice ta tl tc]] w fun e w' => e = .returned (.slice (some ⟨w.heap.size + 1, 0, none⟩) tl tl) ∧ IsCs w' (w.heap.size + 1) tl ts ∧ Below w.heap.size w w' ∧ w.heap.size + 1 < w'.heap.size ∧ (∀ i, w'.frozen? ⟨w.heap.size + 1, i, none⟩ = false) ∧ CB w' (w.heap.size + 1) tl := by
  have ui := Tryz.underlying38
  have uc := Tryz.underlying137
  obtain ⟨i0, hi, hz0, hz1, hz2⟩ := info_parts infoC
  have hmk : (Instr.makeSlice 134 (.int .i64 tl) (.int .i64 tl)).run Tryz.prog (w.alloc (.cells #[.slice pa pl pc, .slice ta tl tc] 38)) = .ok (.slice (some ⟨w.heap.size + 1, 0, none⟩) tl tl) ((w.alloc (.cells #[.slice pa pl pc, .slice ta tl tc] 38)).alloc (.cells (madeCells #[.int .i64 0, .int .i64 0, .int .i64 0] (tl * 3)) 137)) := by
    have := run_make (P := Tryz.prog) (w.alloc (.cells #[.slice pa pl pc, .slice ta tl tc] 38)) 134 137 i0 (.agg #[.int .i64 0, .int .i64 0, .int .i64 0]) Tryz.underlying134 hi hz0 .i64 .i64 tl tl (by omega) (Int.le_refl _) (by rw [hz2]; omega) (by omega)
    rw [this, hz1]; simp; rfl
  have hstart : Below w.heap.size w ((w.alloc (.cells #[.slice pa pl pc, .slice ta tl tc] 38)).alloc (.cells (madeCells #[.int .i64 0, .int .i64 0, .int .i64 0] (tl * 3)) 137)) ∧ w.heap.size + 1 < ((w.alloc (.cells #[.slice pa pl pc, .slice ta tl tc] 38)).alloc (.cells (madeCells #[.int .i64 0, .int .i64 0, .int .i64 0] (tl * 3)) 137)).heap.size ∧
      (∀ j, j < tl * 3 → ∃ v, ((w.alloc (.cells #[.slice pa pl pc, .slice ta tl tc] 38)).alloc (.cells (madeCells #[.int .i64 0, .int .i64 0, .int .i64 0] (tl * 3)) 137)).cell? ⟨w.heap.size + 1, j, none⟩ = some v) ∧ (∀ j, ((w.alloc (.cells #[.slice pa pl pc, .slice ta tl tc] 38)).alloc (.cells (madeCells #[.int .i64 0, .int .i64 0, .int .i64 0] (tl * 3)) 137)).frozen? ⟨w.heap.size + 1, j, none⟩ = false) := by
    refine ⟨((Below.refl _ _).alloc (Nat.le_refl _) _).alloc (by simp) _, by simp, fun j hj => ?_, fun j => by simp⟩
    have := made_cell3 (w.alloc (.cells #[.slice pa pl pc, .slice ta tl tc] 38)) #[.int .i64 0, .int .i64 0, .int .i64 0] (tl * 3) j 137 hj
    simpa using this
  have HST := Lib.hid hstart
  have CB0 : Hid (CB ((w.alloc (.cells #[.slice pa pl pc, .slice ta tl tc] 38)).alloc (.cells (madeCells #[.int .i64 0, .int .i64 0, .int .i64 0] (tl * 3)) 137)) (w.heap.size + 1) tl) := Lib.hid ⟨madeCells #[.int .i64 0, .int .i64 0, .int .i64 0] (tl * 3), by have := heap_alloc_new (w.alloc (.cells #[.slice pa pl pc, .slice ta tl tc] 38)) (.cells (madeCells #[.int .i64 0, .int .i64 0, .int .i64 0] (tl * 3)) 137); simpa using this, by simp [madeCells]⟩
  clear hstart
  go_enter Tryz.func95, Tryz.ntmps95
  go_wp2
  generalize hw0 : (w.alloc (.cells #[.slice pa pl pc, .slice ta tl tc] 38)).alloc (.cells (madeCells #[.int .i64 0, .int .i64 0, .int .i64 0] (tl * 3)) 137) = w0 at HST CB0 ⊢
  go_loopw [13] (fun i w' => ∃ k : Nat, k ≤ tl ∧ i = .int .i64 k ∧ Aside ((Below w.heap.size w w' ∧ w.heap.size + 1 < w'.heap.size ∧ (∀ j, j < tl * 3 → ∃ v, w'.cell? ⟨w.heap.size + 1, j, none⟩ = some v) ∧ (∀ j, w'.frozen? ⟨w.heap.size + 1, j, none⟩ = false)) ∧ IsCs w' (w.heap.size + 1) k ts ∧ CB w' (w.heap.size + 1) tl)) (fun i _ => tl - (intOf i).toNat)
  case atStart => exact ⟨0, Nat.zero_le _, rfl, HST.out, fun j hj => absurd hj (by omega), CB0.out⟩
  case round =>
    obtain ⟨k, hk, rfl, hA⟩ := hrel
    by_cases hlt : k < tl
    · obtain ⟨⟨hB, hgs, hce, hfz⟩, hdone, hcb⟩ := hA.out
      have HCB := Lib.hid hcb
      clear hcb
      have h' := h.below hB
      obtain ⟨bt, ot, rfl, hrow⟩ := h'.some (by omega)
      obtain ⟨r1, n1, q1, cr, ir⟩ := hrow k hlt
      have hn1 : n1 = 3 := ir.1.symm.trans (h3 k hlt)
      subst hn1
      obtain ⟨br, or, rfl, hz⟩ := ir.some (by decide)
      have z0 := hz 0 (by decide)
      have z1 := hz 1 (by decide)
      have z2 := hz 2 (by decide)
      rw [Nat.add_zero] at z0
      have hk0 : (0 : Int) ≤ (k : Int) := by omega
      have hk1 : (k : Int) < (tl : Int) := by omega
      have hf0 := hfz (k * 3)
      have hf1 := hfz (k * 3 + 1)
      have hf2 := hfz (k * 3 + 2)
      obtain ⟨v0, hv0⟩ := hce (k * 3) (by omega)
      obtain ⟨v1, hv1⟩ := hce (k * 3 + 1) (by omega)
      obtain ⟨v2, hv2⟩ := hce (k * 3 + 2) (by omega)
      have HD := Lib.hid hdone
      have HC := Lib.hid hce
      have HF := Lib.hid hfz
      have HB := Lib.hid hB
      generalize hj0 : (ts.getD k []).getD 0 0 = j0 at *
      generalize hj1 : (ts.getD k []).getD 1 0 = j1 at *
      generalize hj2 : (ts.getD k []).getD 2 0 = j2 at *
      have HJ := Lib.hid (And.intro hj0 (And.intro hj1 hj2))
      clear hA hrow h' hdone hce hfz hB h hw0 HST CB0 hmk ir hz hj0 hj1 hj2 h3 hi
      go_wp2
      rename_i hKc
      refine hKc _ _ ?_
      go_wp2
      go_roundw
      case rel =>
        obtain ⟨e0, e1, e2, eo⟩ := set3k (u := .int .i64 j0) (v := .int .i64 j1) (t := .int .i64 j2) hv0 hv1 hv2
        refine ⟨k + 1, by omega, by go_num, ⟨⟨((HB.out.setCell (Nat.le_succ _) _).setCell (Nat.le_succ _) _).setCell (Nat.le_succ _) _, by simp <;> omega, fun j hj => ?_, fun j => ?_⟩, fun j hj => ?_, ((HCB.out.set _ _).set _ _).set _ _⟩⟩
        · by_cases h0 : j = k * 3
          · subst h0; exact ⟨_, e0⟩
          · by_cases h1 : j = k * 3 + 1
            · subst h1; exact ⟨_, e1⟩
            · by_cases h2 : j = k * 3 + 2
              · subst h2; exact ⟨_, e2⟩
              · obtain ⟨v, hv⟩ := HC.out j hj
                exact ⟨v, by rw [eo j h0 h1 h2]; exact hv⟩
        · simp; exact HF.out j
        · by_cases hjk : j = k
          · subst hjk; rw [HJ.out.1, HJ.out.2.1, HJ.out.2.2]; exact ⟨e0, e1, e2⟩
          · obtain ⟨k0, k1, k2⟩ := HD.out j (by omega)
            exact ⟨by rw [eo _ (by omega) (by omega) (by omega)]; exact k0, by rw [eo _ (by omega) (by omega) (by omega)]; exact k1, by rw [eo _ (by omega) (by omega) (by omega)]; exact k2⟩
      case measure => simp [intOf]; omega
    · obtain rfl : k = tl := by omega
      obtain ⟨⟨hB, hgs, hce, hfz⟩, hdone, hcb⟩ := hA.out
      have HCB := Lib.hid hcb
      clear hcb
      have HF := Lib.hid hdone
      have HB := Lib.hid hB
      have HZ := Lib.hid hfz
      clear hA hB hce hfz hdone h h3 hmk hw0 HST CB0
      go_wp2
      go_ret
      exact ⟨rfl, HF.out, HB.out, hgs, HZ.out, HCB.out⟩
end Go.Proofs.YtcgnmnbjgamedabGreat

/-
Meshes that are finished: valid, or none. Conditions: places and corners lie in lists of one's own.
-/
namespace Go.Proofs.YtcgnmnbjgamedabGreat
open Go Fk Go.RowKit
set_option linter.unusedVariables false
set_option maxRecDepth 8000
end Go.Proofs.YtcgnmnbjgamedabGreat

/-
The laws of forms return true: their walks. Conditions: what the program and the model return.
-/
namespace Go.Proofs.YtcgnmnbjgamedabGreat
open Go Fk Go.RowKit
set_option linter.unusedVariables false
set_option maxRecDepth 16000
end Go.Proofs.YtcgnmnbjgamedabGreat

/-
Grids: their places and triangles, and what is asked of their numbers. Conditions: none.
-/
namespace Go.Proofs.YtcgnmnbjgamedabGreat
open Go Fk Go.RowKit
set_option linter.unusedVariables false
set_option maxRecDepth 8000
/-- Rows that lie beside one another in one list of one's own. -/
theorem cs_of_owns {w : World} {base cb c n : Nat} {ts : List (List Int)} (h : w.ownsRow base 137 3 (.slice (some ⟨cb, 0, none⟩) n c) n (flatV ts n)) : IsCs w cb n ts := fun k hk => by
  refine ⟨?_, ?_, ?_⟩
  · rw [h.cellAt _ (by omega)]; have := flatV_get ts n k 0 hk (by decide); simpa using this
  · rw [h.cellAt _ (by omega)]; exact flatV_get ts n k 1 hk (by decide)
  · rw [h.cellAt _ (by omega)]; exact flatV_get ts n k 2 hk (by decide)
theorem PVf.snoc {k : Nat} {xs : List Value} {F : Nat → C3} (h : PVf k xs F) (hl : xs.length = k * 3) {p q r : Nat} (hf : FV .f32 p (F k).1 ∧ FV .f32 q (F k).2.1 ∧ FV .f32 r (F k).2.2) :
    PVf (k + 1) (xs ++ [.float .f32 p, .float .f32 q, .float .f32 r]) F := fun j hj => by
  by_cases hjk : j = k
  · subst hjk
    refine ⟨p, q, r, ?_, ?_, ?_, hf⟩
    · rw [List.getElem?_append_right (by omega), hl]; simp
    · rw [List.getElem?_append_right (by omega), hl, show j * 3 + 1 - j * 3 = 1 by omega]; rfl
    · rw [List.getElem?_append_right (by omega), hl, show j * 3 + 2 - j * 3 = 2 by omega]; rfl
  · obtain ⟨p', q', r', h1, h2, h3, h4⟩ := h j (by omega)
    refine ⟨p', q', r', ?_, ?_, ?_, h4⟩
    · rw [List.getElem?_append_left (by omega)]; exact h1
    · rw [List.getElem?_append_left (by omega)]; exact h2
    · rw [List.getElem?_append_left (by omega)]; exact h3
theorem PVf.pv {n : Nat} {xs : List Value} {F : Nat → C3} {cs : List C3} (h : PVf n xs F) (hc : ∀ j, j < n → cs.getD j c0 = F j) : PV n xs cs := fun j hj => by
  obtain ⟨p, q, r, h1, h2, h3, h4⟩ := h j hj
  exact ⟨p, q, r, h1, h2, h3, by rw [hc j hj]; exact h4⟩
end Go.Proofs.YtcgnmnbjgamedabGreat

/-
Texts in one: what IsSheet stands on, part 22. Conditions: those of each.
-/
import Derived.Test.YtmbekamnogbgaabKIsSheet21
import Derived.Maps.OwnOps
import Derived.Maps.OwnSet
import Derived.DeepKeys4
import Derived.Lib.Hide

/-
Maps whose keys are sides: how a key reads, and what a map of flags holds. Conditions: none.
-/
namespace Go.Proofs.Ytmbekamnogbgaab
open Go Fk Go.RowKit Go.Maps
set_option linter.unusedVariables false
set_option maxRecDepth 8000

theorem laidOutP : laidOutB Try.prog = true := by kernel_rfl
theorem sizeP : ∃ m, Try.prog.types.size = m + 1 := ⟨Try.prog.types.size - 1, by kernel_rfl⟩
theorem sideWide : (match Try.prog.underlying 101 with | some (.array _ _) | some (.struct _) => true | _ => false) = true := by kernel_rfl
theorem sideType : Try.prog.keyTypeAt 2 101 = true := by kernel_rfl
theorem sideKey : Try.prog.keyType 101 = true := by kernel_rfl
theorem sideCells : Try.prog.cellsOf 101 = 2 := by kernel_rfl
theorem intCells : Try.prog.cellsOf 2 = 1 := by kernel_rfl
theorem sideTiled : Try.prog.tiled 2 101 = true := tiled_of_laidOut laidOutP 2 _ (by kernel_rfl) sideType
theorem sideKeyed : Keyed Try.prog 101 := Keyed.of_law (deep_law_laid laidOutP (m := 2) (by omega) (of_decide_eq_true (by kernel_rfl)) sideType sideWide)
/-- What a pair of numbers reads as. -/
def kS (s : Int × Int) : Lit := .string (keyBytes [.int .i64 s.1, .int .i64 s.2])
theorem keyOf_side {a b : Int} (wa : (Lit.int .i64 a).wf = true) (wb : (Lit.int .i64 b).wf = true) : keyOf Try.prog 101 (.agg #[.int .i64 a, .int .i64 b]) = some (kS (a, b)) := by
  have us := Try.underlying101
  have ui := Try.underlying2
  obtain ⟨m, hm⟩ := sizeP
  unfold keyOf
  simp only [us]
  rw [if_pos (by simp [sideKey, Value.formed, us, sideCells]), hm]
  unfold Program.keyLits
  simp only [us, Value.cells]
  rw [if_pos (by rw [sideCells]; exact ⟨rfl, by kernel_rfl⟩)]
  simp [Program.keyLits, ui, intCells, wa, wb, kS]
theorem kS_inj {a b c d : Int} (wa : (Lit.int .i64 a).wf = true) (wb : (Lit.int .i64 b).wf = true) (wc : (Lit.int .i64 c).wf = true) (wd : (Lit.int .i64 d).wf = true) (h : kS (a, b) = kS (c, d)) : (a, b) = (c, d) := by
  have h1 := keyOf_side wa wb
  have h2 := keyOf_side wc wd
  rw [h] at h1
  have := keyOf_inj_deep sideTiled sideWide h1 h2
  simpa using this
theorem kS_key (s : Int × Int) : WideAt.IsKeyLit (kS s) := by
  unfold kS
  exact trivial
end Go.Proofs.Ytmbekamnogbgaab


/-
The triangles of a mesh as arrays: what the program makes of them. Conditions: each has three places.
-/
namespace Go.Proofs.Ytmbekamnogbgaab
open Go Fk Go.RowKit
set_option linter.unusedVariables false
set_option maxRecDepth 8000

def IsCs (w : World) (b n : Nat) (ts : List (List Int)) : Prop := ∀ k, k < n → w.cell? ⟨b, k * 3, none⟩ = some (.int .i64 ((ts.getD k []).getD 0 0)) ∧ w.cell? ⟨b, k * 3 + 1, none⟩ = some (.int .i64 ((ts.getD k []).getD 1 0)) ∧ w.cell? ⟨b, k * 3 + 2, none⟩ = some (.int .i64 ((ts.getD k []).getD 2 0))
theorem IsCs.below {W w : World} {b n : Nat} {ts : List (List Int)} (hb : Below W.heap.size W w) (h : IsCs W b n ts) : IsCs w b n ts := fun k hk => ⟨cell_below hb (h k hk).1, cell_below hb (h k hk).2.1, cell_below hb (h k hk).2.2⟩
theorem infoC : (Try.prog.info? 99).map (fun i => (i.zero, i.size, i.bytes)) = some (some (.agg #[.int .i64 0, .int .i64 0, .int .i64 0]), 3, 24) := by kernel_rfl
theorem all_corners' (pa ta : Option Addr) (pl pc tl tc : Nat) (ts : List (List Int)) (w : World) (h : IsTs w ta tl tc ts) (h3 : ∀ k, k < tl → (ts.getD k []).length = 3) (hlen : tl ≤ 128) :
    Calls Try.prog 71 #[.agg #[.slice pa pl pc, .slice ta tl tc]] w fun e w' => e = .returned (.slice (some ⟨w.heap.size + 1, 0, none⟩) tl tl) ∧ IsCs w' (w.heap.size + 1) tl ts ∧ Below w.heap.size w w' ∧ w.heap.size + 1 < w'.heap.size ∧ ∀ i, w'.frozen? ⟨w.heap.size + 1, i, none⟩ = false := by
  have ui := Try.underlying32
  have uc := Try.underlying99
  obtain ⟨i0, hi, hz0, hz1, hz2⟩ := info_parts infoC
  have hmk : (Instr.makeSlice 96 (.int .i64 tl) (.int .i64 tl)).run Try.prog (w.alloc (.cells #[.slice pa pl pc, .slice ta tl tc] 32)) = .ok (.slice (some ⟨w.heap.size + 1, 0, none⟩) tl tl) ((w.alloc (.cells #[.slice pa pl pc, .slice ta tl tc] 32)).alloc (.cells (madeCells #[.int .i64 0, .int .i64 0, .int .i64 0] (tl * 3)) 99)) := by
    have := run_make (P := Try.prog) (w.alloc (.cells #[.slice pa pl pc, .slice ta tl tc] 32)) 96 99 i0 (.agg #[.int .i64 0, .int .i64 0, .int .i64 0]) Try.underlying96 hi hz0 .i64 .i64 tl tl (by omega) (Int.le_refl _) (by rw [hz2]; omega) (by omega)
    rw [this, hz1]; simp; rfl
  have hstart : Below w.heap.size w ((w.alloc (.cells #[.slice pa pl pc, .slice ta tl tc] 32)).alloc (.cells (madeCells #[.int .i64 0, .int .i64 0, .int .i64 0] (tl * 3)) 99)) ∧ w.heap.size + 1 < ((w.alloc (.cells #[.slice pa pl pc, .slice ta tl tc] 32)).alloc (.cells (madeCells #[.int .i64 0, .int .i64 0, .int .i64 0] (tl * 3)) 99)).heap.size ∧
      (∀ j, j < tl * 3 → ∃ v, ((w.alloc (.cells #[.slice pa pl pc, .slice ta tl tc] 32)).alloc (.cells (madeCells #[.int .i64 0, .int .i64 0, .int .i64 0] (tl * 3)) 99)).cell? ⟨w.heap.size + 1, j, none⟩ = some v) ∧ (∀ j, ((w.alloc (.cells #[.slice pa pl pc, .slice ta tl tc] 32)).alloc (.cells (madeCells #[.int .i64 0, .int .i64 0, .int .i64 0] (tl * 3)) 99)).frozen? ⟨w.heap.size + 1, j, none⟩ = false) := by
    refine ⟨((Below.refl _ _).alloc (Nat.le_refl _) _).alloc (by simp) _, by simp, fun j hj => ?_, fun j => by simp⟩
    have := made_cell3 (w.alloc (.cells #[.slice pa pl pc, .slice ta tl tc] 32)) #[.int .i64 0, .int .i64 0, .int .i64 0] (tl * 3) j 99 hj
    simpa using this
  have HST := Lib.hid hstart
  clear hstart
  go_enter Try.func71, Try.ntmps71
  go_wp2
  generalize hw0 : (w.alloc (.cells #[.slice pa pl pc, .slice ta tl tc] 32)).alloc (.cells (madeCells #[.int .i64 0, .int .i64 0, .int .i64 0] (tl * 3)) 99) = w0 at HST ⊢
  go_loopw [13] (fun i w' => ∃ k : Nat, k ≤ tl ∧ i = .int .i64 k ∧ Aside ((Below w.heap.size w w' ∧ w.heap.size + 1 < w'.heap.size ∧ (∀ j, j < tl * 3 → ∃ v, w'.cell? ⟨w.heap.size + 1, j, none⟩ = some v) ∧ (∀ j, w'.frozen? ⟨w.heap.size + 1, j, none⟩ = false)) ∧ IsCs w' (w.heap.size + 1) k ts)) (fun i _ => tl - (intOf i).toNat)
  case atStart => exact ⟨0, Nat.zero_le _, rfl, HST.out, fun j hj => absurd hj (by omega)⟩
  case round =>
    obtain ⟨k, hk, rfl, hA⟩ := hrel
    by_cases hlt : k < tl
    · obtain ⟨⟨hB, hgs, hce, hfz⟩, hdone⟩ := hA.out
      have h' := h.below hB
      obtain ⟨bt, ot, rfl, hrow⟩ := h'.some (by omega)
      obtain ⟨r1, n1, q1, cr, ir⟩ := hrow k hlt
      have hn1 : n1 = 3 := ir.1.symm.trans (h3 k hlt)
      subst hn1
      obtain ⟨br, or, rfl, hz⟩ := ir.some (by decide)
      have z0 := hz 0 (by decide)
      have z1 := hz 1 (by decide)
      have z2 := hz 2 (by decide)
      rw [Nat.add_zero] at z0
      have hk0 : (0 : Int) ≤ (k : Int) := by omega
      have hk1 : (k : Int) < (tl : Int) := by omega
      have hf0 := hfz (k * 3)
      have hf1 := hfz (k * 3 + 1)
      have hf2 := hfz (k * 3 + 2)
      obtain ⟨v0, hv0⟩ := hce (k * 3) (by omega)
      obtain ⟨v1, hv1⟩ := hce (k * 3 + 1) (by omega)
      obtain ⟨v2, hv2⟩ := hce (k * 3 + 2) (by omega)
      have HD := Lib.hid hdone
      have HC := Lib.hid hce
      have HF := Lib.hid hfz
      have HB := Lib.hid hB
      generalize hj0 : (ts.getD k []).getD 0 0 = j0 at *
      generalize hj1 : (ts.getD k []).getD 1 0 = j1 at *
      generalize hj2 : (ts.getD k []).getD 2 0 = j2 at *
      have HJ := Lib.hid (And.intro hj0 (And.intro hj1 hj2))
      clear hA hrow h' hdone hce hfz hB h hw0 HST hmk ir hz hj0 hj1 hj2 h3 hi
      go_wp2
      rename_i hKc
      refine hKc _ _ ?_
      go_wp2
      go_roundw
      case rel =>
        obtain ⟨e0, e1, e2, eo⟩ := set3k (u := .int .i64 j0) (v := .int .i64 j1) (t := .int .i64 j2) hv0 hv1 hv2
        refine ⟨k + 1, by omega, by go_num, ⟨⟨((HB.out.setCell (Nat.le_succ _) _).setCell (Nat.le_succ _) _).setCell (Nat.le_succ _) _, by simp <;> omega, fun j hj => ?_, fun j => ?_⟩, fun j hj => ?_⟩⟩
        · by_cases h0 : j = k * 3
          · subst h0; exact ⟨_, e0⟩
          · by_cases h1 : j = k * 3 + 1
            · subst h1; exact ⟨_, e1⟩
            · by_cases h2 : j = k * 3 + 2
              · subst h2; exact ⟨_, e2⟩
              · obtain ⟨v, hv⟩ := HC.out j hj
                exact ⟨v, by rw [eo j h0 h1 h2]; exact hv⟩
        · simp; exact HF.out j
        · by_cases hjk : j = k
          · subst hjk; rw [HJ.out.1, HJ.out.2.1, HJ.out.2.2]; exact ⟨e0, e1, e2⟩
          · obtain ⟨k0, k1, k2⟩ := HD.out j (by omega)
            exact ⟨by rw [eo _ (by omega) (by omega) (by omega)]; exact k0, by rw [eo _ (by omega) (by omega) (by omega)]; exact k1, by rw [eo _ (by omega) (by omega) (by omega)]; exact k2⟩
      case measure => simp [intOf]; omega
    · obtain rfl : k = tl := by omega
      obtain ⟨⟨hB, hgs, hce, hfz⟩, hdone⟩ := hA.out
      have HF := Lib.hid hdone
      have HB := Lib.hid hB
      have HZ := Lib.hid hfz
      clear hA hB hce hfz hdone h h3 hmk hw0 HST
      go_wp2
      go_ret
      exact ⟨rfl, HF.out, HB.out, hgs, HZ.out⟩
theorem all_corners (pa ta : Option Addr) (pl pc tl tc : Nat) (ts : List (List Int)) (w : World) (h : IsTs w ta tl tc ts) (h3 : ∀ k, k < tl → (ts.getD k []).length = 3) (hlen : tl ≤ 128) :
    Calls Try.prog 71 #[.agg #[.slice pa pl pc, .slice ta tl tc]] w fun e w' => e = .returned (.slice (some ⟨w.heap.size + 1, 0, none⟩) tl tl) ∧ IsCs w' (w.heap.size + 1) tl ts ∧ Below w.heap.size w w' ∧ w.heap.size + 1 < w'.heap.size :=
  (all_corners' pa ta pl pc tl tc ts w h h3 hlen).mono fun _ _ ⟨h1, h2, h3, h4, _⟩ => ⟨h1, h2, h3, h4⟩
end Go.Proofs.Ytmbekamnogbgaab

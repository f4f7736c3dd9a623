
/-
The triangles of a mesh as arrays: what the program makes of them. Conditions: each has three places.
-/
import Derived.Test.YtcgnmnbjgamedaaMkE
namespace Go.Proofs.Ytcgnmnbjgamedaa
open Go Fk Go.RowKit
set_option linter.unusedVariables false
set_option maxRecDepth 8000

def IsCs (w : World) (b n : Nat) (ts : List (List Int)) : Prop := ∀ k, k < n → w.cell? ⟨b, k * 3, none⟩ = some (.int .i64 ((ts.getD k []).getD 0 0)) ∧ w.cell? ⟨b, k * 3 + 1, none⟩ = some (.int .i64 ((ts.getD k []).getD 1 0)) ∧ w.cell? ⟨b, k * 3 + 2, none⟩ = some (.int .i64 ((ts.getD k []).getD 2 0))
theorem IsCs.below {W w : World} {b n : Nat} {ts : List (List Int)} (hb : Below W.heap.size W w) (h : IsCs W b n ts) : IsCs w b n ts := fun k hk => ⟨cell_below hb (h k hk).1, cell_below hb (h k hk).2.1, cell_below hb (h k hk).2.2⟩
theorem infoC : (Try.prog.info? 109).map (fun i => (i.zero, i.size, i.bytes)) = some (some (.agg #[.int .i64 0, .int .i64 0, .int .i64 0]), 3, 24) := by kernel_rfl
theorem all_corners' (pa ta : Option Addr) (pl pc tl tc : Nat) (ts : List (List Int)) (w : World) (h : IsTs w ta tl tc ts) (h3 : ∀ k, k < tl → (ts.getD k []).length = 3) (hlen : tl ≤ 128) :
    Calls Try.prog 111 #[.agg #[.slice pa pl pc, .slice ta tl tc]] w fun e w' => e = .returned (.slice (some ⟨w.heap.size + 1, 0, none⟩) tl tl) ∧ IsCs w' (w.heap.size + 1) tl ts ∧ Below w.heap.size w w' ∧ w.heap.size + 1 < w'.heap.size ∧ ∀ i, w'.frozen? ⟨w.heap.size + 1, i, none⟩ = false := by
  have ui := Try.underlying49
  have uc := Try.underlying109
  obtain ⟨i0, hi, hz0, hz1, hz2⟩ := info_parts infoC
  have hmk : (Instr.makeSlice 95 (.int .i64 tl) (.int .i64 tl)).run Try.prog (w.alloc (.cells #[.slice pa pl pc, .slice ta tl tc] 49)) = .ok (.slice (some ⟨w.heap.size + 1, 0, none⟩) tl tl) ((w.alloc (.cells #[.slice pa pl pc, .slice ta tl tc] 49)).alloc (.cells (madeCells #[.int .i64 0, .int .i64 0, .int .i64 0] (tl * 3)) 109)) := by
    have := run_make (P := Try.prog) (w.alloc (.cells #[.slice pa pl pc, .slice ta tl tc] 49)) 95 109 i0 (.agg #[.int .i64 0, .int .i64 0, .int .i64 0]) Try.underlying95 hi hz0 .i64 .i64 tl tl (by omega) (Int.le_refl _) (by rw [hz2]; omega) (by omega)
    rw [this, hz1]; simp; rfl
  have hstart : Below w.heap.size w ((w.alloc (.cells #[.slice pa pl pc, .slice ta tl tc] 49)).alloc (.cells (madeCells #[.int .i64 0, .int .i64 0, .int .i64 0] (tl * 3)) 109)) ∧ w.heap.size + 1 < ((w.alloc (.cells #[.slice pa pl pc, .slice ta tl tc] 49)).alloc (.cells (madeCells #[.int .i64 0, .int .i64 0, .int .i64 0] (tl * 3)) 109)).heap.size ∧
      (∀ j, j < tl * 3 → ∃ v, ((w.alloc (.cells #[.slice pa pl pc, .slice ta tl tc] 49)).alloc (.cells (madeCells #[.int .i64 0, .int .i64 0, .int .i64 0] (tl * 3)) 109)).cell? ⟨w.heap.size + 1, j, none⟩ = some v) ∧ (∀ j, ((w.alloc (.cells #[.slice pa pl pc, .slice ta tl tc] 49)).alloc (.cells (madeCells #[.int .i64 0, .int .i64 0, .int .i64 0] (tl * 3)) 109)).frozen? ⟨w.heap.size + 1, j, none⟩ = false) := by
    refine ⟨((Below.refl _ _).alloc (Nat.le_refl _) _).alloc (by simp) _, by simp, fun j hj => ?_, fun j => by simp⟩
    have := made_cell3 (w.alloc (.cells #[.slice pa pl pc, .slice ta tl tc] 49)) #[.int .i64 0, .int .i64 0, .int .i64 0] (tl * 3) j 109 hj
    simpa using this
  have HST := Lib.hid hstart
  clear hstart
  go_enter Try.func111, Try.ntmps111
  go_wp2
  generalize hw0 : (w.alloc (.cells #[.slice pa pl pc, .slice ta tl tc] 49)).alloc (.cells (madeCells #[.int .i64 0, .int .i64 0, .int .i64 0] (tl * 3)) 109) = w0 at HST ⊢
  go_loopw [13] (fun i w' => ∃ k : Nat, k ≤ tl ∧ i = .int .i64 k ∧ Aside ((Below w.heap.size w w' ∧ w.heap.size + 1 < w'.heap.size ∧ (∀ j, j < tl * 3 → ∃ v, w'.cell? ⟨w.heap.size + 1, j, none⟩ = some v) ∧ (∀ j, w'.frozen? ⟨w.heap.size + 1, j, none⟩ = false)) ∧ IsCs w' (w.heap.size + 1) k ts)) (fun i _ => tl - (intOf i).toNat)
  case atStart => exact ⟨0, Nat.zero_le _, rfl, HST.out, fun j hj => absurd hj (by omega)⟩
  case round =>
    obtain ⟨k, hk, rfl, hA⟩ := hrel
    by_cases hlt : k < tl
    · obtain ⟨⟨hB, hgs, hce, hfz⟩, hdone⟩ := hA.out
      have h' := h.below hB
      obtain ⟨bt, ot, rfl, hrow⟩ := h'.some (by omega)
      obtain ⟨r1, n1, q1, cr, ir⟩ := hrow k hlt
      have hn1 : n1 = 3 := ir.1.symm.trans (h3 k hlt)
      subst hn1
      obtain ⟨br, or, rfl, hz⟩ := ir.some (by decide)
      have z0 := hz 0 (by decide)
      have z1 := hz 1 (by decide)
      have z2 := hz 2 (by decide)
      rw [Nat.add_zero] at z0
      have hk0 : (0 : Int) ≤ (k : Int) := by omega
      have hk1 : (k : Int) < (tl : Int) := by omega
      have hf0 := hfz (k * 3)
      have hf1 := hfz (k * 3 + 1)
      have hf2 := hfz (k * 3 + 2)
      obtain ⟨v0, hv0⟩ := hce (k * 3) (by omega)
      obtain ⟨v1, hv1⟩ := hce (k * 3 + 1) (by omega)
      obtain ⟨v2, hv2⟩ := hce (k * 3 + 2) (by omega)
      have HD := Lib.hid hdone
      have HC := Lib.hid hce
      have HF := Lib.hid hfz
      have HB := Lib.hid hB
      generalize hj0 : (ts.getD k []).getD 0 0 = j0 at *
      generalize hj1 : (ts.getD k []).getD 1 0 = j1 at *
      generalize hj2 : (ts.getD k []).getD 2 0 = j2 at *
      have HJ := Lib.hid (And.intro hj0 (And.intro hj1 hj2))
      clear hA hrow h' hdone hce hfz hB h hw0 HST hmk ir hz hj0 hj1 hj2 h3 hi
      go_wp2
      rename_i hKc
      refine hKc _ _ ?_
      go_wp2
      go_roundw
      case rel =>
        obtain ⟨e0, e1, e2, eo⟩ := set3k (u := .int .i64 j0) (v := .int .i64 j1) (t := .int .i64 j2) hv0 hv1 hv2
        refine ⟨k + 1, by omega, by go_num, ⟨⟨((HB.out.setCell (Nat.le_succ _) _).setCell (Nat.le_succ _) _).setCell (Nat.le_succ _) _, by simp <;> omega, fun j hj => ?_, fun j => ?_⟩, fun j hj => ?_⟩⟩
        · by_cases h0 : j = k * 3
          · subst h0; exact ⟨_, e0⟩
          · by_cases h1 : j = k * 3 + 1
            · subst h1; exact ⟨_, e1⟩
            · by_cases h2 : j = k * 3 + 2
              · subst h2; exact ⟨_, e2⟩
              · obtain ⟨v, hv⟩ := HC.out j hj
                exact ⟨v, by rw [eo j h0 h1 h2]; exact hv⟩
        · simp; exact HF.out j
        · by_cases hjk : j = k
          · subst hjk; rw [HJ.out.1, HJ.out.2.1, HJ.out.2.2]; exact ⟨e0, e1, e2⟩
          · obtain ⟨k0, k1, k2⟩ := HD.out j (by omega)
            exact ⟨by rw [eo _ (by omega) (by omega) (by omega)]; exact k0, by rw [eo _ (by omega) (by omega) (by omega)]; exact k1, by rw [eo _ (by omega) (by omega) (by omega)]; exact k2⟩
      case measure => simp [intOf]; omega
    · obtain rfl : k = tl := by omega
      obtain ⟨⟨hB, hgs, hce, hfz⟩, hdone⟩ := hA.out
      have HF := Lib.hid hdone
      have HB := Lib.hid hB
      have HZ := Lib.hid hfz
      clear hA hB hce hfz hdone h h3 hmk hw0 HST
      go_wp2
      go_ret
      exact ⟨rfl, HF.out, HB.out, hgs, HZ.out⟩
theorem all_corners (pa ta : Option Addr) (pl pc tl tc : Nat) (ts : List (List Int)) (w : World) (h : IsTs w ta tl tc ts) (h3 : ∀ k, k < tl → (ts.getD k []).length = 3) (hlen : tl ≤ 128) :
    Calls Try.prog 111 #[.agg #[.slice pa pl pc, .slice ta tl tc]] w fun e w' => e = .returned (.slice (some ⟨w.heap.size + 1, 0, none⟩) tl tl) ∧ IsCs w' (w.heap.size + 1) tl ts ∧ Below w.heap.size w w' ∧ w.heap.size + 1 < w'.heap.size :=
  (all_corners' pa ta pl pc tl tc ts w h h3 hlen).mono fun _ _ ⟨h1, h2, h3, h4, _⟩ => ⟨h1, h2, h3, h4⟩
end Go.Proofs.Ytcgnmnbjgamedaa

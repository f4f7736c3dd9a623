
/-
Copies of meshes: where they lie, and that they may be written. Conditions: none beyond their sizes.
-/
import Derived.Test.YtcgnmnbjgamedaaMkD
namespace Go.Proofs.Ytcgnmnbjgamedaa
open Go Fk Go.RowKit
set_option linter.unusedVariables false
set_option maxRecDepth 8000

theorem cells_of {w : World} {b len cap : Nat} {cs : List C3} (h : IsVs w (some ⟨b, 0, none⟩) len cap cs) (j : Nat) (hj : j < len * 3) : ∃ v, w.cell? ⟨b, 0 + j, none⟩ = some v := by
  obtain ⟨p, q, r, k0, k1, k2, _⟩ := h.2.2.2.2 _ rfl (j / 3) (by omega)
  rw [addr_add', Nat.zero_add] at k0 k1 k2
  rw [Nat.zero_add]
  have : j = j / 3 * 3 ∨ j = j / 3 * 3 + 1 ∨ j = j / 3 * 3 + 2 := by omega
  rcases this with e | e | e
  · exact ⟨_, by rw [e]; simpa using k0⟩
  · exact ⟨_, by rw [e]; simpa using k1⟩
  · exact ⟨_, by rw [e]; simpa using k2⟩
theorem Rows.wide {lo hi lo' g o len : Nat} {w : World} {ts : List (List Int)} (h : Rows lo hi w g o len ts) (hl : lo' ≤ lo) : Rows lo' hi w g o len ts := by
  intro j hj
  obtain ⟨G, O, c, h1, h2, h3⟩ := h j hj
  exact ⟨G, O, c, h1, h2, Nat.le_trans hl h3.1, h3.2⟩
theorem OwnM.mark {lo hi lo' hi' b o b' o' pl tl : Nat} {ts : List (List Int)} {w w' : World} (h : OwnM lo hi w b o b' o' pl tl ts) (hM : Mark lo' hi' w w') (hs : ∀ i, w'.cell? ⟨b', i, none⟩ = w.cell? ⟨b', i, none⟩) : OwnM lo hi w' b o b' o' pl tl ts :=
  ⟨h.1.mark hM, h.2.1.mark hs hM, h.2.2.1, Nat.lt_of_lt_of_le h.2.2.2 hM.below.size⟩
set_option maxHeartbeats 400000 in
theorem laws_toInt64S' (a : Option Addr) (len cap : Nat) (zs : List Int) (w : World) (h : IsIs w a len cap zs) (hlen : len ≤ 1048576) :
    Calls Try.prog 108 #[.slice a len cap] w fun e w' => e = .returned (.slice (some ⟨w.heap.size, 0, none⟩) len len) ∧ IsIs w' (some ⟨w.heap.size, 0, none⟩) len len zs ∧ Below w.heap.size w w' ∧ w.heap.size < w'.heap.size ∧ ∀ i, w'.frozen? ⟨w.heap.size, i, none⟩ = false := by
  obtain ⟨i0, hi, hz0, hz1, hz2⟩ := info_parts info64
  have hzl := h.1
  have hil : (ints zs).length = len := by unfold ints; simp; exact hzl
  have hzb := h.2.2.2.1
  have hmk : (Instr.makeSlice 90 (.int .i64 len) (.int .i64 len)).run Try.prog w = .ok (.slice (some ⟨w.heap.size, 0, none⟩) len len) (w.alloc (.cells (curL (ints zs) (.int .i64 0) len 0) 2)) := by
    have := run_make (P := Try.prog) w 90 2 i0 (.int .i64 0) Try.underlying90 hi hz0 .i64 .i64 len len (by omega) (Int.le_refl _) (by rw [hz2]; omega) (by omega)
    rw [this, hz1, curL_zero]; simp; rfl
  have hfin : IsIs (w.alloc (.cells (curL (ints zs) (.int .i64 0) len len) 2)) (some ⟨w.heap.size, 0, none⟩) len len zs := by
    refine ⟨hzl, Nat.le_refl _, by unfold maxLen; omega, hzb, by simp, fun x hx i hi => ?_⟩
    cases hx
    have := curL_end (ints zs) (.int .i64 0) len hil i hi
    rw [ints_getD] at this
    rw [addr_add', Nat.zero_add]; simp [this]
  have HF := Lib.hid hfin
  clear hfin hzb
  go_enter Try.func108, Try.ntmps108
  go_wp2
  go_loopw [4] (fun i w' => ∃ k : Nat, k ≤ len ∧ i = .int .i64 k ∧ w' = w.alloc (.cells (curL (ints zs) (.int .i64 0) len k) 2)) (fun i _ => len - (intOf i).toNat)
  case atStart => exact ⟨0, Nat.zero_le _, rfl, rfl⟩
  case round =>
    obtain ⟨k, hk, rfl, rfl⟩ := hrel
    by_cases hlt : k < len
    · obtain ⟨b, o, rfl, hcell⟩ := h.some (by omega)
      have hc0 := hcell k hlt
      have hblt := World.block_lt_of_cell? w _ hc0
      have hc : (w.alloc (.cells (curL (ints zs) (.int .i64 0) len k) 2)).cell? ⟨b, o + k, none⟩ = some (.int .i64 (zs.getD k 0)) := by rw [World.cell?_alloc_lt (h := hblt)]; exact hc0
      have hsz := curL_size (ints zs) (.int .i64 0) len k hk hil
      have hd : (w.alloc (.cells (curL (ints zs) (.int .i64 0) len k) 2)).cell? ⟨w.heap.size, k, none⟩ = some ((curL (ints zs) (.int .i64 0) len k)[k]'(by omega)) := by simp [hsz, hlt]
      have hset2 : (curL (ints zs) (.int .i64 0) len k).setIfInBounds k (.int .i64 (zs.getD k 0)) = curL (ints zs) (.int .i64 0) len (k + 1) := by
        have := curL_set (ints zs) (.int .i64 0) len k hlt hil
        rwa [ints_getD] at this
      generalize zs.getD k 0 = z at *
      have HS := Lib.hid hset2
      clear hset2 hcell hc0 hblt
      go_wp2
      go_roundw
      case rel => exact ⟨k + 1, by omega, by go_num, by rw [HS.out]⟩
      case measure => simp [intOf]; omega
    · obtain rfl : k = len := by omega
      go_wp2
      go_ret
      exact ⟨rfl, HF.out, (Below.refl _ _).alloc (Nat.le_refl _) _, by simp, fun i => by simp⟩
set_option maxHeartbeats 400000 in
theorem laws_toVectorS' (a : Option Addr) (len cap : Nat) (cs : List C3) (w : World) (h : IsVs w a len cap cs) (hlen : len ≤ 1048576) :
    Calls Try.prog 70 #[.slice a len cap] w fun e w' => e = .returned (.slice (some ⟨w.heap.size, 0, none⟩) len len) ∧ IsVs w' (some ⟨w.heap.size, 0, none⟩) len len cs ∧ Below w.heap.size w w' ∧ w.heap.size < w'.heap.size ∧ ∀ i, w'.frozen? ⟨w.heap.size, i, none⟩ = false := by
  have uv := Try.underlying33
  have ul := Try.underlying31
  have u := Try.underlying22
  obtain ⟨i0, hi, hz0, hz1, hz2⟩ := info_parts infoV
  have hzl := h.1
  obtain ⟨g, hg⟩ : ∃ g, g = w.heap.size := ⟨_, rfl⟩
  have hmk : (Instr.makeSlice 47 (.int .i64 len) (.int .i64 len)).run Try.prog w = .ok (.slice (some ⟨g, 0, none⟩) len len) (w.alloc (.cells (madeCells #[.float .f32 0, .float .f32 0, .float .f32 0] (len * 3)) 33)) := by
    have := run_make (P := Try.prog) w 47 33 i0 (.agg #[.float .f32 0, .float .f32 0, .float .f32 0]) Try.underlying47 hi hz0 .i64 .i64 len len (by omega) (Int.le_refl _) (by rw [hz2]; omega) (by omega)
    rw [this, hz1, hg]; simp; rfl
  have hstart : Below w.heap.size w (w.alloc (.cells (madeCells #[.float .f32 0, .float .f32 0, .float .f32 0] (len * 3)) 33)) ∧ g < (w.alloc (.cells (madeCells #[.float .f32 0, .float .f32 0, .float .f32 0] (len * 3)) 33)).heap.size ∧
      (∀ j, j < len * 3 → ∃ v, (w.alloc (.cells (madeCells #[.float .f32 0, .float .f32 0, .float .f32 0] (len * 3)) 33)).cell? ⟨g, j, none⟩ = some v) ∧ (∀ j, (w.alloc (.cells (madeCells #[.float .f32 0, .float .f32 0, .float .f32 0] (len * 3)) 33)).frozen? ⟨g, j, none⟩ = false) := by
    subst hg
    exact ⟨(Below.refl _ _).alloc (Nat.le_refl _) _, by simp, fun j hj => made_cell3 w _ (len * 3) j _ hj, fun j => by simp⟩
  rw [← hg] at hstart ⊢
  have HST := Lib.hid hstart
  have HG := Lib.hid hg
  clear hstart hg
  go_enter Try.func70, Try.ntmps70
  go_wp2
  generalize hw0 : w.alloc (.cells (madeCells #[.float .f32 0, .float .f32 0, .float .f32 0] (len * 3)) 33) = w0 at HST ⊢
  go_loopw [4] (fun i w' => ∃ k : Nat, k ≤ len ∧ i = .int .i64 k ∧ Aside ((Below g w w' ∧ g < w'.heap.size ∧ (∀ j, j < len * 3 → ∃ v, w'.cell? ⟨g, j, none⟩ = some v) ∧ (∀ j, w'.frozen? ⟨g, j, none⟩ = false)) ∧
      ∀ j, j < k → ∃ p q r, w'.cell? ⟨g, j * 3, none⟩ = some (.float .f32 p) ∧ w'.cell? ⟨g, j * 3 + 1, none⟩ = some (.float .f32 q) ∧ w'.cell? ⟨g, j * 3 + 2, none⟩ = some (.float .f32 r) ∧ FV .f32 p (cs.getD j c0).1 ∧ FV .f32 q (cs.getD j c0).2.1 ∧ FV .f32 r (cs.getD j c0).2.2)) (fun i _ => len - (intOf i).toNat)
  case atStart => exact ⟨0, Nat.zero_le _, rfl, HST.out, fun j hj => absurd hj (by omega)⟩
  case round =>
    obtain ⟨k, hk, rfl, hA⟩ := hrel
    by_cases hlt : k < len
    · obtain ⟨⟨hB, hgs, hce, hfz⟩, hdone⟩ := hA.out
      have h' := h.below (HG.out ▸ hB)
      obtain ⟨b, o, rfl, hcell⟩ := h'.some (by omega)
      obtain ⟨p, q, r, hp, hq, hr, fp, fq, fr⟩ := hcell k hlt
      have hk0 : (0 : Int) ≤ (k : Int) := by omega
      have hk1 : (k : Int) < (len : Int) := by omega
      have hf0 := hfz (k * 3)
      have hf1 := hfz (k * 3 + 1)
      have hf2 := hfz (k * 3 + 2)
      obtain ⟨v0, hv0⟩ := hce (k * 3) (by omega)
      obtain ⟨v1, hv1⟩ := hce (k * 3 + 1) (by omega)
      obtain ⟨v2, hv2⟩ := hce (k * 3 + 2) (by omega)
      have HD := Lib.hid hdone
      have HC := Lib.hid hce
      have HF := Lib.hid hfz
      have HB := Lib.hid hB
      clear hA hcell h' hdone hce hfz hB h
      go_wp2_with fail
      refine (laws_toVector _ _ _ _).mono ?_
      rintro e w1 ⟨rfl, hB1⟩
      have hv0' : w1.cell? ⟨g, k * 3, none⟩ = some v0 := by rw [hB1.cell (p := ⟨g, k * 3, none⟩) hgs]; exact hv0
      have hv1' : w1.cell? ⟨g, k * 3 + 1, none⟩ = some v1 := by rw [hB1.cell (p := ⟨g, k * 3 + 1, none⟩) hgs]; exact hv1
      have hv2' : w1.cell? ⟨g, k * 3 + 2, none⟩ = some v2 := by rw [hB1.cell (p := ⟨g, k * 3 + 2, none⟩) hgs]; exact hv2
      have hf0' : w1.frozen? ⟨g, k * 3, none⟩ = false := by rw [hB1.frozen (p := ⟨g, k * 3, none⟩) hgs]; exact hf0
      have hf1' : w1.frozen? ⟨g, k * 3 + 1, none⟩ = false := by rw [hB1.frozen (p := ⟨g, k * 3 + 1, none⟩) hgs]; exact hf1
      have hf2' : w1.frozen? ⟨g, k * 3 + 2, none⟩ = false := by rw [hB1.frozen (p := ⟨g, k * 3 + 2, none⟩) hgs]; exact hf2
      have HB1 := Lib.hid hB1
      clear hB1
      go_wp2
      go_roundw
      case rel =>
        have hB1 := HB1.out
        obtain ⟨e0, e1, e2, eo⟩ := set3k (u := .float .f32 p) (v := .float .f32 q) (t := .float .f32 r) hv0' hv1' hv2'
        refine ⟨k + 1, by omega, by go_num, ⟨⟨(((HB.out.trans (hB1.mono (by omega))).setCell (Nat.le_refl _) _).setCell (Nat.le_refl _) _).setCell (Nat.le_refl _) _, by simp <;> (have := hB1.size; omega), fun j hj => ?_, fun j => ?_⟩, fun j hj => ?_⟩⟩
        · by_cases h0 : j = k * 3
          · subst h0; exact ⟨_, e0⟩
          · by_cases h1 : j = k * 3 + 1
            · subst h1; exact ⟨_, e1⟩
            · by_cases h2 : j = k * 3 + 2
              · subst h2; exact ⟨_, e2⟩
              · obtain ⟨v, hv⟩ := HC.out j hj
                exact ⟨v, by rw [eo j h0 h1 h2, hB1.cell (p := ⟨g, j, none⟩) hgs]; exact hv⟩
        · simp; rw [hB1.frozen (p := ⟨g, j, none⟩) hgs]; exact HF.out j
        · by_cases hjk : j = k
          · subst hjk; exact ⟨p, q, r, e0, e1, e2, fp, fq, fr⟩
          · obtain ⟨p', q', r', k0, k1, k2, hv⟩ := HD.out j (by omega)
            exact ⟨p', q', r', by rw [eo _ (by omega) (by omega) (by omega), hB1.cell (p := ⟨g, j * 3, none⟩) hgs]; exact k0, by rw [eo _ (by omega) (by omega) (by omega), hB1.cell (p := ⟨g, j * 3 + 1, none⟩) hgs]; exact k1,
              by rw [eo _ (by omega) (by omega) (by omega), hB1.cell (p := ⟨g, j * 3 + 2, none⟩) hgs]; exact k2, hv⟩
      case measure => simp [intOf]; omega
    · obtain rfl : k = len := by omega
      obtain ⟨⟨hB, hgs, hce, hfz⟩, hdone⟩ := hA.out
      have hfin : IsVs wr (some ⟨g, 0, none⟩) k k cs := by
        refine ⟨hzl, Nat.le_refl _, by unfold maxLen; omega, by simp, fun x hx i hi => ?_⟩
        cases hx
        obtain ⟨p, q, r, k0, k1, k2, hv⟩ := hdone i hi
        exact ⟨p, q, r, by rw [addr_add', Nat.zero_add]; exact k0, by rw [addr_add', Nat.zero_add]; exact k1, by rw [addr_add', Nat.zero_add]; exact k2, hv⟩
      have HF := Lib.hid hfin
      have HB := Lib.hid hB
      have HFZ := Lib.hid hfz
      clear hA hB hce hfz hdone hfin h
      go_wp2
      go_ret
      exact ⟨rfl, HF.out, HB.out, hgs, HFZ.out⟩
set_option maxHeartbeats 400000 in
theorem laws_toInt64SS' (a : Option Addr) (len cap : Nat) (ts : List (List Int)) (w : World) (h : IsTs w a len cap ts) (hlen : len ≤ 1048576) (hrow : ∀ k, k < len → (ts.getD k []).length ≤ 1048576) :
    Calls Try.prog 71 #[.slice a len cap] w fun e w' => e = .returned (.slice (some ⟨w.heap.size, 0, none⟩) len len) ∧ IsTs w' (some ⟨w.heap.size, 0, none⟩) len len ts ∧ Below w.heap.size w w' ∧ w.heap.size < w'.heap.size ∧ Rows w.heap.size w'.heap.size w' w.heap.size 0 len ts := by
  obtain ⟨i0, hi, hz0, hz1, hz2⟩ := info_parts infoS
  have hzl := h.1
  obtain ⟨g, hg⟩ : ∃ g, g = w.heap.size := ⟨_, rfl⟩
  have hmk : (Instr.makeSlice 43 (.int .i64 len) (.int .i64 len)).run Try.prog w = .ok (.slice (some ⟨g, 0, none⟩) len len) (w.alloc (.cells (madeCells #[.slice none 0 0] len) 90)) := by
    have := run_make (P := Try.prog) w 43 90 i0 (.slice none 0 0) Try.underlying43 hi hz0 .i64 .i64 len len (by omega) (Int.le_refl _) (by rw [hz2]; omega) (by omega)
    rw [this, hz1, hg]; simp; rfl
  have hstart : Below w.heap.size w (w.alloc (.cells (madeCells #[.slice none 0 0] len) 90)) ∧ g < (w.alloc (.cells (madeCells #[.slice none 0 0] len) 90)).heap.size ∧
      (∀ j, j < len → ∃ v, (w.alloc (.cells (madeCells #[.slice none 0 0] len) 90)).cell? ⟨g, j, none⟩ = some v) ∧ (∀ j, (w.alloc (.cells (madeCells #[.slice none 0 0] len) 90)).frozen? ⟨g, j, none⟩ = false) := by
    subst hg
    exact ⟨(Below.refl _ _).alloc (Nat.le_refl _) _, by simp, fun j hj => ⟨_, made_cell w _ len j _ hj⟩, fun j => by simp⟩
  rw [← hg] at hstart ⊢
  have HST := Lib.hid hstart
  have HG := Lib.hid hg
  clear hstart hg
  go_enter Try.func71, Try.ntmps71
  go_wp2
  generalize hw0 : w.alloc (.cells (madeCells #[.slice none 0 0] len) 90) = w0 at HST ⊢
  go_loopw [4] (fun i w' => ∃ k : Nat, k ≤ len ∧ i = .int .i64 k ∧ Aside ((Below g w w' ∧ g < w'.heap.size ∧ (∀ j, j < len → ∃ v, w'.cell? ⟨g, j, none⟩ = some v) ∧ (∀ j, w'.frozen? ⟨g, j, none⟩ = false)) ∧
      ∀ j, j < k → ∃ G, g < G ∧ w'.cell? ⟨g, j, none⟩ = some (.slice (some ⟨G, 0, none⟩) (ts.getD j []).length (ts.getD j []).length) ∧ IsIs w' (some ⟨G, 0, none⟩) (ts.getD j []).length (ts.getD j []).length (ts.getD j []) ∧ G < w'.heap.size ∧ ∀ i, w'.frozen? ⟨G, i, none⟩ = false)) (fun i _ => len - (intOf i).toNat)
  case atStart => exact ⟨0, Nat.zero_le _, rfl, HST.out, fun j hj => absurd hj (by omega)⟩
  case round =>
    obtain ⟨k, hk, rfl, hA⟩ := hrel
    by_cases hlt : k < len
    · obtain ⟨⟨hB, hgs, hce, hfz⟩, hdone⟩ := hA.out
      have h' := h.below (HG.out ▸ hB)
      obtain ⟨b, o, rfl, hcell⟩ := h'.some (by omega)
      obtain ⟨ra, n, c, hc, hi⟩ := hcell k hlt
      have hnl : (ts.getD k []).length = n := hi.1
      have hn : n ≤ 1048576 := by rw [← hnl]; exact hrow k hlt
      have hk0 : (0 : Int) ≤ (k : Int) := by omega
      have hk1 : (k : Int) < (len : Int) := by omega
      have hfk := hfz k
      obtain ⟨v0, hv0⟩ := hce k hlt
      have HI := Lib.hid hi
      have HD := Lib.hid hdone
      have HN := Lib.hid hnl
      have HC := Lib.hid hce
      have HF := Lib.hid hfz
      have HB := Lib.hid hB
      clear hA hcell h' hi hdone hnl hce hfz hB h
      go_wp2_with fail
      refine (laws_toInt64S' _ _ _ _ _ HI.out hn).mono ?_
      rintro e w1 ⟨rfl, hI1, hB1, hS1, hF1⟩
      have hv1 : w1.cell? ⟨g, k, none⟩ = some v0 := by rw [hB1.cell (p := ⟨g, k, none⟩) hgs]; exact hv0
      have hf1 : w1.frozen? ⟨g, k, none⟩ = false := by rw [hB1.frozen (p := ⟨g, k, none⟩) hgs]; exact hfk
      have HI1 := Lib.hid hI1
      have HF1 := Lib.hid hF1
      have HS1 := Lib.hid hS1
      have HB1 := Lib.hid hB1
      clear hI1 hB1 hF1
      go_wp2
      go_roundw
      case rel =>
        have hB1 := HB1.out
        have hn' := HN.out
        refine ⟨k + 1, by omega, by go_num, ⟨⟨(HB.out.trans (hB1.mono (by omega))).setCell (Nat.le_refl _) _, by simp; omega, fun j hj => ?_, fun j => ?_⟩, fun j hj => ?_⟩⟩
        · by_cases hjk : j = k
          · subst hjk; exact ⟨_, World.cell?_setCell_same _ _ _ hv1⟩
          · obtain ⟨v, hv⟩ := HC.out j hj
            exact ⟨v, by rw [World.cell?_setCell_other _ _ _ _ (by simp <;> omega), hB1.cell (p := ⟨g, j, none⟩) hgs]; exact hv⟩
        · simp; rw [hB1.frozen (p := ⟨g, j, none⟩) hgs]; exact HF.out j
        · by_cases hjk : j = k
          · subst hjk
            have hS1 := HS1.out
            refine ⟨wr.heap.size, hgs, ?_, ?_, by simp; exact hS1, fun i => by simp; exact HF1.out i⟩
            · rw [hn', World.cell?_setCell_same _ _ _ hv1]
            · rw [hn']; exact HI1.out.set (by simp <;> omega)
          · obtain ⟨G, hG, hcG, hiG, hGs, hGf⟩ := HD.out j (by omega)
            have := World.block_lt_of_cell? wr _ hcG
            have hs1 := HS1.out
            refine ⟨G, hG, ?_, ?_, by simp; omega, fun i => by simp; rw [hB1.frozen (p := ⟨G, i, none⟩) hGs]; exact hGf i⟩
            · rw [World.cell?_setCell_other _ _ _ _ (by simp <;> omega), hB1.cell (p := ⟨g, j, none⟩) hgs]; exact hcG
            · exact (hiG.below hB1).set (by simp <;> omega)
      case measure => simp [intOf]; omega
    · obtain rfl : k = len := by omega
      obtain ⟨⟨hB, hgs, hce, hfz⟩, hdone⟩ := hA.out
      have hfin : IsTs wr (some ⟨g, 0, none⟩) k k ts := by
        refine ⟨hzl, Nat.le_refl _, by unfold maxLen; omega, by simp, fun x hx i hi => ?_⟩
        cases hx
        obtain ⟨G, hG, hc, hi, _, _⟩ := hdone i hi
        exact ⟨_, _, _, by rw [addr_add', Nat.zero_add]; exact hc, hi⟩
      have hrow : Rows g wr.heap.size wr g 0 k ts := by
        intro j hj
        obtain ⟨G, hG, hc, hi, hGs, hGf⟩ := hdone j hj
        refine ⟨G, 0, (ts.getD j []).length, by omega, by rw [Nat.zero_add]; exact hc, by omega, hGs, hGs, fun i hi' => ⟨⟨.int .i64 ((ts.getD j []).getD i 0), ?_⟩, hGf (0 + i)⟩⟩
        have := hi.2.2.2.2.2 _ rfl i hi'
        rwa [addr_add'] at this
      have HRW := Lib.hid hrow
      have HF := Lib.hid hfin
      have HB := Lib.hid hB
      clear hA hB hce hfz hdone hfin hrow h
      go_wp2
      go_ret
      exact ⟨rfl, HF.out, HB.out, hgs, HRW.out⟩
set_option maxHeartbeats 400000 in
theorem laws_toMesh' (pa ta : Option Addr) (pl pc tl tc : Nat) (cs : List C3) (ts : List (List Int)) (w : World) (hp : IsVs w pa pl pc cs) (ht : IsTs w ta tl tc ts) (hs : Small cs ts) :
    Calls Try.prog 34 #[.agg #[.slice pa pl pc, .slice ta tl tc]] w fun e w' => (∃ b b', e = .returned (.agg #[.slice (some ⟨b, 0, none⟩) pl pl, .slice (some ⟨b', 0, none⟩) tl tl]) ∧ w.heap.size ≤ b ∧ b < b' ∧ IsVs w' (some ⟨b, 0, none⟩) pl pl cs ∧ IsTs w' (some ⟨b', 0, none⟩) tl tl ts ∧ ∃ hi, hi ≤ w'.heap.size ∧ OwnM w.heap.size hi w' b 0 b' 0 pl tl ts) ∧ Below w.heap.size w w' := by
  have hpl := hp.1
  have htl := ht.1
  obtain ⟨s1, s2, s3⟩ := hs
  rw [hpl] at s1
  rw [htl] at s2 s3
  have hT := Lib.hid ht
  have hP := Lib.hid hp
  have hS3 := Lib.hid s3
  clear hp ht s3 hpl htl
  have ul := Try.underlying45
  have ui := Try.underlying49
  go_enter Try.func34, Try.ntmps34
  go_wp2_with fail
  have hB0 : Below w.heap.size w (((w.alloc (.cells #[.slice pa pl pc, .slice ta tl tc] 45)).alloc (.cells #[.slice none 0 0, .slice none 0 0] 49)).alloc (.cells #[.slice none 0 0, .slice none 0 0] 49)) :=
    (((Below.refl _ _).alloc (Nat.le_refl _) _).alloc (by simp) _).alloc (by simp <;> omega) _
  have c1 : (((w.alloc (.cells #[.slice pa pl pc, .slice ta tl tc] 45)).alloc (.cells #[.slice none 0 0, .slice none 0 0] 49)).alloc (.cells #[.slice none 0 0, .slice none 0 0] 49)).cell? ⟨w.heap.size, 1, none⟩ = some (.slice ta tl tc) := by go_simp
  have cs0 : ∀ i, i < 2 → (((w.alloc (.cells #[.slice pa pl pc, .slice ta tl tc] 45)).alloc (.cells #[.slice none 0 0, .slice none 0 0] 49)).alloc (.cells #[.slice none 0 0, .slice none 0 0] 49)).cell? ⟨w.heap.size + 1 + 1, i, none⟩ = some (.slice none 0 0) := by
    intro i hi
    have : i = 0 ∨ i = 1 := by omega
    rcases this with rfl | rfl <;> go_simp
  have cr0 : ∀ i, i < 2 → (((w.alloc (.cells #[.slice pa pl pc, .slice ta tl tc] 45)).alloc (.cells #[.slice none 0 0, .slice none 0 0] 49)).alloc (.cells #[.slice none 0 0, .slice none 0 0] 49)).cell? ⟨w.heap.size + 1, i, none⟩ = some (.slice none 0 0) := by
    intro i hi
    have : i = 0 ∨ i = 1 := by omega
    rcases this with rfl | rfl <;> go_simp
  have fs0 : ∀ i, (((w.alloc (.cells #[.slice pa pl pc, .slice ta tl tc] 45)).alloc (.cells #[.slice none 0 0, .slice none 0 0] 49)).alloc (.cells #[.slice none 0 0, .slice none 0 0] 49)).frozen? ⟨w.heap.size + 1 + 1, i, none⟩ = false := by intro i; go_simp
  have fr0 : ∀ i, (((w.alloc (.cells #[.slice pa pl pc, .slice ta tl tc] 45)).alloc (.cells #[.slice none 0 0, .slice none 0 0] 49)).alloc (.cells #[.slice none 0 0, .slice none 0 0] 49)).frozen? ⟨w.heap.size + 1, i, none⟩ = false := by intro i; go_simp
  have hsz : (((w.alloc (.cells #[.slice pa pl pc, .slice ta tl tc] 45)).alloc (.cells #[.slice none 0 0, .slice none 0 0] 49)).alloc (.cells #[.slice none 0 0, .slice none 0 0] 49)).heap.size = w.heap.size + 1 + 1 + 1 := by simp
  generalize (((w.alloc (.cells #[.slice pa pl pc, .slice ta tl tc] 45)).alloc (.cells #[.slice none 0 0, .slice none 0 0] 49)).alloc (.cells #[.slice none 0 0, .slice none 0 0] 49)) = W at *
  obtain ⟨n, hn⟩ : ∃ n, n = w.heap.size := ⟨_, rfl⟩
  refine (laws_toVectorS' _ _ _ _ _ (hP.out.below hB0) s1).mono ?_
  rintro e w1 ⟨rfl, hV, hB1, hS1, hF1⟩
  have HF1 := Lib.hid hF1
  clear hF1
  have lt0 : w.heap.size < W.heap.size := by rw [hsz]; omega
  have lt1 : w.heap.size + 1 < W.heap.size := by rw [hsz]; omega
  have lt2 : w.heap.size + 1 + 1 < W.heap.size := by rw [hsz]; omega
  have d1 : w1.cell? ⟨w.heap.size, 1, none⟩ = some (.slice ta tl tc) := by rw [hB1.cell (p := ⟨w.heap.size, 1, none⟩) lt0]; exact c1
  have d2 : w1.cell? ⟨w.heap.size + 1 + 1, 0, none⟩ = some (.slice none 0 0) := by rw [hB1.cell (p := ⟨w.heap.size + 1 + 1, 0, none⟩) lt2]; exact cs0 0 (by decide)
  have d3 : w1.cell? ⟨w.heap.size + 1 + 1, 1, none⟩ = some (.slice none 0 0) := by rw [hB1.cell (p := ⟨w.heap.size + 1 + 1, 1, none⟩) lt2]; exact cs0 1 (by decide)
  have d4 : w1.cell? ⟨w.heap.size + 1, 0, none⟩ = some (.slice none 0 0) := by rw [hB1.cell (p := ⟨w.heap.size + 1, 0, none⟩) lt1]; exact cr0 0 (by decide)
  have d5 : w1.cell? ⟨w.heap.size + 1, 1, none⟩ = some (.slice none 0 0) := by rw [hB1.cell (p := ⟨w.heap.size + 1, 1, none⟩) lt1]; exact cr0 1 (by decide)
  have g2 : w1.frozen? ⟨w.heap.size + 1 + 1, 0, none⟩ = false := by rw [hB1.frozen (p := ⟨w.heap.size + 1 + 1, 0, none⟩) lt2]; exact fs0 0
  have g3 : w1.frozen? ⟨w.heap.size + 1 + 1, 1, none⟩ = false := by rw [hB1.frozen (p := ⟨w.heap.size + 1 + 1, 1, none⟩) lt2]; exact fs0 1
  have g4 : w1.frozen? ⟨w.heap.size + 1, 0, none⟩ = false := by rw [hB1.frozen (p := ⟨w.heap.size + 1, 0, none⟩) lt1]; exact fr0 0
  have g5 : w1.frozen? ⟨w.heap.size + 1, 1, none⟩ = false := by rw [hB1.frozen (p := ⟨w.heap.size + 1, 1, none⟩) lt1]; exact fr0 1
  have hBW : Below w.heap.size w w1 := hB0.trans (hB1.mono (by rw [hsz]; omega))
  have hz : w.heap.size + 1 + 1 + 1 < w1.heap.size := by rw [← hsz]; exact hS1
  have HV := Lib.hid hV
  have HBW := Lib.hid hBW
  have HSZ := Lib.hid hsz
  generalize W.heap.size = B at *
  clear c1 cs0 cr0 fs0 fr0 hB0 hB1 hV hBW hsz lt0 lt1 lt2 hn
  go_wp2_with fail
  have hB2 : Below w.heap.size w (w1.setCell ⟨w.heap.size + 1 + 1, 0, none⟩ (.slice (some ⟨B, 0, none⟩) pl pl)) := HBW.out.setCell (by show w.heap.size ≤ w.heap.size + 1 + 1; omega) _
  have e2 := World.cell?_setCell_same w1 ⟨w.heap.size + 1 + 1, 0, none⟩ (.slice (some ⟨B, 0, none⟩) pl pl) d2
  have e3 : (w1.setCell ⟨w.heap.size + 1 + 1, 0, none⟩ (.slice (some ⟨B, 0, none⟩) pl pl)).cell? ⟨w.heap.size + 1 + 1, 1, none⟩ = some (.slice none 0 0) := by rw [World.cell?_setCell_other _ _ _ _ (by simp)]; exact d3
  have e4 : (w1.setCell ⟨w.heap.size + 1 + 1, 0, none⟩ (.slice (some ⟨B, 0, none⟩) pl pl)).cell? ⟨w.heap.size + 1, 0, none⟩ = some (.slice none 0 0) := by rw [World.cell?_setCell_other _ _ _ _ (by simp)]; exact d4
  have e5 : (w1.setCell ⟨w.heap.size + 1 + 1, 0, none⟩ (.slice (some ⟨B, 0, none⟩) pl pl)).cell? ⟨w.heap.size + 1, 1, none⟩ = some (.slice none 0 0) := by rw [World.cell?_setCell_other _ _ _ _ (by simp)]; exact d5
  have k3 : (w1.setCell ⟨w.heap.size + 1 + 1, 0, none⟩ (.slice (some ⟨B, 0, none⟩) pl pl)).frozen? ⟨w.heap.size + 1 + 1, 1, none⟩ = false := by simp; exact g3
  have k4 : (w1.setCell ⟨w.heap.size + 1 + 1, 0, none⟩ (.slice (some ⟨B, 0, none⟩) pl pl)).frozen? ⟨w.heap.size + 1, 0, none⟩ = false := by simp; exact g4
  have k5 : (w1.setCell ⟨w.heap.size + 1 + 1, 0, none⟩ (.slice (some ⟨B, 0, none⟩) pl pl)).frozen? ⟨w.heap.size + 1, 1, none⟩ = false := by simp; exact g5
  have hV2 : IsVs (w1.setCell ⟨w.heap.size + 1 + 1, 0, none⟩ (.slice (some ⟨B, 0, none⟩) pl pl)) (some ⟨B, 0, none⟩) pl pl cs := HV.out.set (by rw [HSZ.out]; show w.heap.size + 1 + 1 ≠ w.heap.size + 1 + 1 + 1; omega)
  have hsz2 : (w1.setCell ⟨w.heap.size + 1 + 1, 0, none⟩ (.slice (some ⟨B, 0, none⟩) pl pl)).heap.size = w1.heap.size := by simp
  have hF2 : ∀ i, (w1.setCell ⟨w.heap.size + 1 + 1, 0, none⟩ (.slice (some ⟨B, 0, none⟩) pl pl)).frozen? ⟨B, i, none⟩ = false := fun i => by simp; exact HF1.out i
  have HF2 := Lib.hid hF2
  have hS2 : B < (w1.setCell ⟨w.heap.size + 1 + 1, 0, none⟩ (.slice (some ⟨B, 0, none⟩) pl pl)).heap.size := by simp; exact hS1
  have HS2 := Lib.hid hS2
  clear hF2 hS2 HF1 d1 d2 d3 d4 d5 g2 g3 g4 g5
  generalize (w1.setCell ⟨w.heap.size + 1 + 1, 0, none⟩ (.slice (some ⟨B, 0, none⟩) pl pl)) = W2 at *
  have lt1 : w.heap.size + 1 < W2.heap.size := by rw [hsz2]; omega
  have lt2 : w.heap.size + 1 + 1 < W2.heap.size := by rw [hsz2]; omega
  refine (laws_toInt64SS' _ _ _ _ _ (hT.out.below hB2) s2 hS3.out).mono ?_
  rintro e w3 ⟨rfl, hT3, hB3, hS3', hR3⟩
  have HF3 := Lib.hid (fun i => (hB3.frozen (p := ⟨B, i, none⟩) HS2.out).trans (HF2.out i))
  have HR3 := Lib.hid hR3
  have HS3 := Lib.hid (Nat.lt_of_lt_of_le HS2.out hB3.size)
  have HSB := Lib.hid hS3'
  clear hR3
  have d2 : w3.cell? ⟨w.heap.size + 1 + 1, 0, none⟩ = some (.slice (some ⟨B, 0, none⟩) pl pl) := by rw [hB3.cell (p := ⟨w.heap.size + 1 + 1, 0, none⟩) lt2]; exact e2
  have d3 : w3.cell? ⟨w.heap.size + 1 + 1, 1, none⟩ = some (.slice none 0 0) := by rw [hB3.cell (p := ⟨w.heap.size + 1 + 1, 1, none⟩) lt2]; exact e3
  have d4 : w3.cell? ⟨w.heap.size + 1, 0, none⟩ = some (.slice none 0 0) := by rw [hB3.cell (p := ⟨w.heap.size + 1, 0, none⟩) lt1]; exact e4
  have d5 : w3.cell? ⟨w.heap.size + 1, 1, none⟩ = some (.slice none 0 0) := by rw [hB3.cell (p := ⟨w.heap.size + 1, 1, none⟩) lt1]; exact e5
  have g3 : w3.frozen? ⟨w.heap.size + 1 + 1, 1, none⟩ = false := by rw [hB3.frozen (p := ⟨w.heap.size + 1 + 1, 1, none⟩) lt2]; exact k3
  have g4 : w3.frozen? ⟨w.heap.size + 1, 0, none⟩ = false := by rw [hB3.frozen (p := ⟨w.heap.size + 1, 0, none⟩) lt1]; exact k4
  have g5 : w3.frozen? ⟨w.heap.size + 1, 1, none⟩ = false := by rw [hB3.frozen (p := ⟨w.heap.size + 1, 1, none⟩) lt1]; exact k5
  have HV3 := Lib.hid (hV2.below hB3)
  have HT3 := Lib.hid hT3
  have HB3 := Lib.hid (hB2.trans (hB3.mono (by rw [hsz2]; omega)))
  have HSZ2 := Lib.hid hsz2
  have HZ := Lib.hid hz
  generalize W2.heap.size = B2 at *
  clear hV2 hT3 hB3 hB2 e2 e3 e4 e5 k3 k4 k5 hsz2 lt1 lt2 hz hS1 hS3'
  go_wp2
  have x0 : ∀ u, ((w3.setCell ⟨w.heap.size + 1 + 1, 1, none⟩ u).cell? ⟨w.heap.size + 1, 0, none⟩) = some (.slice none 0 0) := fun u => by rw [World.cell?_setCell_other _ _ _ _ (by simp)]; exact d4
  have x1 : ∀ u v, (((w3.setCell ⟨w.heap.size + 1 + 1, 1, none⟩ u).setCell ⟨w.heap.size + 1, 0, none⟩ v).cell? ⟨w.heap.size + 1, 1, none⟩) = some (.slice none 0 0) := fun u v => by rw [World.cell?_setCell_other _ _ _ _ (by simp), World.cell?_setCell_other _ _ _ _ (by simp)]; exact d5
  have r1 : ∀ u v t, ((((w3.setCell ⟨w.heap.size + 1 + 1, 1, none⟩ u).setCell ⟨w.heap.size + 1, 0, none⟩ v).setCell ⟨w.heap.size + 1, 1, none⟩ t).cell? ⟨w.heap.size + 1, 1, none⟩) = some t := fun u v t => World.cell?_setCell_same _ _ _ (x1 u v)
  have r0 : ∀ u v t, ((((w3.setCell ⟨w.heap.size + 1 + 1, 1, none⟩ u).setCell ⟨w.heap.size + 1, 0, none⟩ v).setCell ⟨w.heap.size + 1, 1, none⟩ t).cell? ⟨w.heap.size + 1, 0, none⟩) = some v := fun u v t => by rw [World.cell?_setCell_other _ _ _ _ (by simp)]; exact World.cell?_setCell_same _ _ _ (x0 u)
  have hB := HSZ.out
  have hB2 := HSZ2.out
  have hz := HZ.out
  have n1 : ∀ z, (.slice none 0 0 : Value) ≠ .int .i64 z := fun z h => by cases h
  refine bodyPost_ret (v := .agg #[.slice (some ⟨B, 0, none⟩) pl pl, .slice (some ⟨B2, 0, none⟩) tl tl]) (by simp [results, Try.results34, go_sem, r0, r1]) rfl ⟨⟨B, B2, rfl, by omega, by omega, ?_, ?_, w3.heap.size, by simp, ?_⟩, ?_⟩
  · exact ((HV3.out.set (by show w.heap.size + 1 + 1 ≠ B; omega)).set (by show w.heap.size + 1 ≠ B; omega)).set (by show w.heap.size + 1 ≠ B; omega)
  · exact ((HT3.out.setN (by show w.heap.size + 1 + 1 ≠ B2; omega) d3 n1).setN (by show w.heap.size + 1 ≠ B2; omega) (x0 _) n1).setN (by show w.heap.size + 1 ≠ B2; omega) (x1 _ _) n1
  · refine OwnM.mark (w := w3) (lo' := 0) (hi' := w.heap.size + 3) ⟨⟨by omega, HS3.out, HS3.out, fun j hj => ⟨cells_of HV3.out j hj, by rw [Nat.zero_add]; exact HF3.out j⟩⟩, HR3.out.wide (by omega), by omega, HSB.out⟩ (((Mark.set (Nat.zero_le _) (by omega)).trans (Mark.set (Nat.zero_le _) (by omega))).trans (Mark.set (Nat.zero_le _) (by omega))) (fun i => ?_)
    rw [World.cell?_setCell_other _ _ _ _ (by simp <;> omega), World.cell?_setCell_other _ _ _ _ (by simp <;> omega), World.cell?_setCell_other _ _ _ _ (by simp <;> omega)]
  · exact ((HB3.out.setCell (by show w.heap.size ≤ w.heap.size + 1 + 1; omega) _).setCell (by show w.heap.size ≤ w.heap.size + 1; omega) _).setCell (by show w.heap.size ≤ w.heap.size + 1; omega) _
end Go.Proofs.Ytcgnmnbjgamedaa

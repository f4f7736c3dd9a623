/-
Texts in one: what StfS stands on, part 3. Conditions: those of each.
-/
import Derived.Test.YtabccmobmppdnaaGreatKStfS2
import Derived.WalkKit
import Derived.Maps.OwnOps
import Derived.Maps.OwnSet
import Derived.Maps.OwnRows
import Derived.DeepKeys4
import Derived.Lib.Hide
import Derived.Shelf.SlIter.Collect
import Derived.Shelf.AbstractIn
import Derived.RangeFuncSeq
import Derived.RangeFuncGives
import Derived.Sort.MapsRangeIn
import Derived.Sort.KeysCollected
import Derived.OwnWalkIn
import Derived.TacticsInMore
import Derived.RegionIn
import Derived.LoopNIn
import Derived.LoopIn
import Derived.Maps.AppendAt
import Derived.Shelf.Abstract
import Derived.Shelf.SlSortCmp.NoneTotal
import Derived.Shelf.Lay
import Derived.Ground.SlsfProg
import Derived.Lib.Small
-- halved
namespace Go.Proofs.YtabccmobmppdnaaGreat
open Go Fk Go.RowKit
set_option linter.unusedVariables false
set_option maxRecDepth 8000
theorem cells_of {w : World} {b len cap : Nat} {cs : List C3} (h : IsVs w (some ⟨b, 0, none⟩) len cap cs) (j : Nat) (hj : j < len * 3) : ∃ v, w.cell? ⟨b, 0 + j, none⟩ = some v := by
 obtain ⟨p, q, r, k0, k1, k2, _⟩ := h.2.2.2.2 _ rfl (j / 3) (by omega)
 rw [addr_add', Nat.zero_add] at k0 k1 k2
 rw [Nat.zero_add]
 have : j = j / 3 * 3 ∨ j = j / 3 * 3 + 1 ∨ j = j / 3 * 3 + 2 := by omega
 rcases this with e | e | e
 ·exact ⟨_, by rw [e]; simpa using k0⟩
 ·exact ⟨_, by rw [e]; simpa using k1⟩
 ·exact ⟨_, by rw [e]; simpa using k2⟩
theorem Rows.wide {lo hi lo' g o len : Nat} {w : World} {ts : List (List Int)} (h : Rows lo hi w g o len ts) (hl : lo' ≤ lo) : Rows lo' hi w g o len ts := by
 intro j hj
 obtain ⟨G, O, c, h1, h2, h3⟩ := h j hj
 exact ⟨G, O, c, h1, h2, Nat.le_trans hl h3.1, h3.2⟩
theorem OwnM.mark {lo hi lo' hi' b o b' o' pl tl : Nat} {ts : List (List Int)} {w w' : World} (h : OwnM lo hi w b o b' o' pl tl ts) (hM : Mark lo' hi' w w') (hs : ∀ i, w'.cell? ⟨b', i, none⟩ = w.cell? ⟨b', i, none⟩) : OwnM lo hi w' b o b' o' pl tl ts :=
 ⟨h.1.mark hM, h.2.1.mark hs hM, h.2.2.1, Nat.lt_of_lt_of_le h.2.2.2 hM.below.size⟩
set_option maxHeartbeats 400000 in
theorem laws_toInt64S' (a : Option Addr) (len cap : Nat) (zs : List Int) (w : World) (h : IsIs w a len cap zs) (hlen : len ≤ 1048576) :
  Calls Tryz.prog 19 #[.slice a len cap] w fun e w' => e = .returned (.slice (some ⟨w.heap.size, 0, none⟩) len len) ∧ IsIs w' (some ⟨w.heap.size, 0, none⟩) len len zs ∧ Below w.heap.size w w' ∧ w.heap.size < w'.heap.size ∧ ∀ i, w'.frozen? ⟨w.heap.size, i, none⟩ = false := by
 obtain ⟨i0, hi, hz0, hz1, hz2⟩ := info_parts info64
 have hzl := h.1
 have hil : (ints zs).length = len := by unfold ints; simp; exact hzl
 have hzb := h.2.2.2.1
 have hmk : (Instr.makeSlice 33 (.int .i64 len) (.int .i64 len)).run Tryz.prog w = .ok (.slice (some ⟨w.heap.size, 0, none⟩) len len) (w.alloc (.cells (curL (ints zs) (.int .i64 0) len 0) 2)) := by
  have := run_make (P := Tryz.prog) w 33 2 i0 (.int .i64 0) Tryz.underlying33 hi hz0 .i64 .i64 len len (by omega) (Int.le_refl _) (by rw [hz2]; omega) (by omega)
  rw [this, hz1, curL_zero]; simp; rfl
 have hfin : IsIs (w.alloc (.cells (curL (ints zs) (.int .i64 0) len len) 2)) (some ⟨w.heap.size, 0, none⟩) len len zs := by
  refine ⟨hzl, Nat.le_refl _, by unfold maxLen; omega, hzb, by simp, fun x hx i hi => ?_⟩
  cases hx
  have := curL_end (ints zs) (.int .i64 0) len hil i hi
  rw [ints_getD] at this
  rw [addr_add', Nat.zero_add]; simp [this]
 have HF := Lib.hid hfin
 clear hfin hzb
 go_enter Tryz.func19, Tryz.ntmps19
 go_wp2
 go_loopw [4] (fun i w' => ∃ k : Nat, k ≤ len ∧ i = .int .i64 k ∧ w' = w.alloc (.cells (curL (ints zs) (.int .i64 0) len k) 2)) (fun i _ => len - (intOf i).toNat)
 case atStart => exact ⟨0, Nat.zero_le _, rfl, rfl⟩
 case round =>
  obtain ⟨k, hk, rfl, rfl⟩ := hrel
  by_cases hlt : k < len
  ·obtain ⟨b, o, rfl, hcell⟩ := h.some (by omega)
   have hc0 := hcell k hlt
   have hblt := World.block_lt_of_cell? w _ hc0
   have hc : (w.alloc (.cells (curL (ints zs) (.int .i64 0) len k) 2)).cell? ⟨b, o + k, none⟩ = some (.int .i64 (zs.getD k 0)) := by rw [World.cell?_alloc_lt (h := hblt)]; exact hc0
   have hsz := curL_size (ints zs) (.int .i64 0) len k hk hil
   have hd : (w.alloc (.cells (curL (ints zs) (.int .i64 0) len k) 2)).cell? ⟨w.heap.size, k, none⟩ = some ((curL (ints zs) (.int .i64 0) len k)[k]'(by omega)) := by simp [hsz, hlt]
   have hset2 : (curL (ints zs) (.int .i64 0) len k).setIfInBounds k (.int .i64 (zs.getD k 0)) = curL (ints zs) (.int .i64 0) len (k + 1) := by
    have := curL_set (ints zs) (.int .i64 0) len k hlt hil
    rwa [ints_getD] at this
   generalize zs.getD k 0 = z at *
   have HS := Lib.hid hset2
   clear hset2 hcell hc0 hblt
   go_wp2
   go_roundw
   case rel => exact ⟨k + 1, by omega, by go_num, by rw [HS.out]⟩
   case measure => simp [intOf]; omega
  ·obtain rfl : k = len := by omega
   go_wp2
   go_ret
   exact ⟨rfl, HF.out, (Below.refl _ _).alloc (Nat.le_refl _) _, by simp, fun i => by simp⟩
set_option maxHeartbeats 400000 in
theorem laws_toVectorS' (a : Option Addr) (len cap : Nat) (cs : List C3) (w : World) (h : IsVs w a len cap cs) (hlen : len ≤ 1048576) :
  Calls Tryz.prog 20 #[.slice a len cap] w fun e w' => e = .returned (.slice (some ⟨w.heap.size, 0, none⟩) len len) ∧ IsVs w' (some ⟨w.heap.size, 0, none⟩) len len cs ∧ Below w.heap.size w w' ∧ w.heap.size < w'.heap.size ∧ ∀ i, w'.frozen? ⟨w.heap.size, i, none⟩ = false := by
 have uv := Tryz.underlying42
 have ul := Tryz.underlying30
 have u := Tryz.underlying27
 obtain ⟨i0, hi, hz0, hz1, hz2⟩ := info_parts infoV
 have hzl := h.1
 obtain ⟨g, hg⟩ : ∃ g, g = w.heap.size := ⟨_, rfl⟩
 have hmk : (Instr.makeSlice 36 (.int .i64 len) (.int .i64 len)).run Tryz.prog w = .ok (.slice (some ⟨g, 0, none⟩) len len) (w.alloc (.cells (madeCells #[.float .f32 0, .float .f32 0, .float .f32 0] (len * 3)) 42)) := by
  have := run_make (P := Tryz.prog) w 36 42 i0 (.agg #[.float .f32 0, .float .f32 0, .float .f32 0]) Tryz.underlying36 hi hz0 .i64 .i64 len len (by omega) (Int.le_refl _) (by rw [hz2]; omega) (by omega)
  rw [this, hz1, hg]; simp; rfl
 have hstart : Below w.heap.size w (w.alloc (.cells (madeCells #[.float .f32 0, .float .f32 0, .float .f32 0] (len * 3)) 42)) ∧ g < (w.alloc (.cells (madeCells #[.float .f32 0, .float .f32 0, .float .f32 0] (len * 3)) 42)).heap.size ∧
   (∀ j, j < len * 3 → ∃ v, (w.alloc (.cells (madeCells #[.float .f32 0, .float .f32 0, .float .f32 0] (len * 3)) 42)).cell? ⟨g, j, none⟩ = some v) ∧ (∀ j, (w.alloc (.cells (madeCells #[.float .f32 0, .float .f32 0, .float .f32 0] (len * 3)) 42)).frozen? ⟨g, j, none⟩ = false) := by
  subst hg
  exact ⟨(Below.refl _ _).alloc (Nat.le_refl _) _, by simp, fun j hj => made_cell3 w _ (len * 3) j _ hj, fun j => by simp⟩
 rw [← hg] at hstart ⊢
 have HST := Lib.hid hstart
 have HG := Lib.hid hg
 clear hstart hg
 go_enter Tryz.func20, Tryz.ntmps20
 go_wp2
 generalize hw0 : w.alloc (.cells (madeCells #[.float .f32 0, .float .f32 0, .float .f32 0] (len * 3)) 42) = w0 at HST ⊢
 go_loopw [4] (fun i w' => ∃ k : Nat, k ≤ len ∧ i = .int .i64 k ∧ Aside ((Below g w w' ∧ g < w'.heap.size ∧ (∀ j, j < len * 3 → ∃ v, w'.cell? ⟨g, j, none⟩ = some v) ∧ (∀ j, w'.frozen? ⟨g, j, none⟩ = false)) ∧
   ∀ j, j < k → ∃ p q r, w'.cell? ⟨g, j * 3, none⟩ = some (.float .f32 p) ∧ w'.cell? ⟨g, j * 3 + 1, none⟩ = some (.float .f32 q) ∧ w'.cell? ⟨g, j * 3 + 2, none⟩ = some (.float .f32 r) ∧ FV .f32 p (cs.getD j c0).1 ∧ FV .f32 q (cs.getD j c0).2.1 ∧ FV .f32 r (cs.getD j c0).2.2)) (fun i _ => len - (intOf i).toNat)
 case atStart => exact ⟨0, Nat.zero_le _, rfl, HST.out, fun j hj => absurd hj (by omega)⟩
 case round =>
  obtain ⟨k, hk, rfl, hA⟩ := hrel
  by_cases hlt : k < len
  ·obtain ⟨⟨hB, hgs, hce, hfz⟩, hdone⟩ := hA.out
   have h' := h.below (HG.out ▸ hB)
   obtain ⟨b, o, rfl, hcell⟩ := h'.some (by omega)
   obtain ⟨p, q, r, hp, hq, hr, fp, fq, fr⟩ := hcell k hlt
   have hk0 : (0 : Int) ≤ (k : Int) := by omega
   have hk1 : (k : Int) < (len : Int) := by omega
   have hf0 := hfz (k * 3)
   have hf1 := hfz (k * 3 + 1)
   have hf2 := hfz (k * 3 + 2)
   obtain ⟨v0, hv0⟩ := hce (k * 3) (by omega)
   obtain ⟨v1, hv1⟩ := hce (k * 3 + 1) (by omega)
   obtain ⟨v2, hv2⟩ := hce (k * 3 + 2) (by omega)
   have HD := Lib.hid hdone
   have HC := Lib.hid hce
   have HF := Lib.hid hfz
   have HB := Lib.hid hB
   clear hA hcell h' hdone hce hfz hB h
   go_wp2_with fail
   refine (laws_toVector _ _ _ _).mono ?_
   rintro e w1 ⟨rfl, hB1⟩
   have hv0' : w1.cell? ⟨g, k * 3, none⟩ = some v0 := by rw [hB1.cell (p := ⟨g, k * 3, none⟩) hgs]; exact hv0
   have hv1' : w1.cell? ⟨g, k * 3 + 1, none⟩ = some v1 := by rw [hB1.cell (p := ⟨g, k * 3 + 1, none⟩) hgs]; exact hv1
   have hv2' : w1.cell? ⟨g, k * 3 + 2, none⟩ = some v2 := by rw [hB1.cell (p := ⟨g, k * 3 + 2, none⟩) hgs]; exact hv2
   have hf0' : w1.frozen? ⟨g, k * 3, none⟩ = false := by rw [hB1.frozen (p := ⟨g, k * 3, none⟩) hgs]; exact hf0
   have hf1' : w1.frozen? ⟨g, k * 3 + 1, none⟩ = false := by rw [hB1.frozen (p := ⟨g, k * 3 + 1, none⟩) hgs]; exact hf1
   have hf2' : w1.frozen? ⟨g, k * 3 + 2, none⟩ = false := by rw [hB1.frozen (p := ⟨g, k * 3 + 2, none⟩) hgs]; exact hf2
   have HB1 := Lib.hid hB1
   clear hB1
   go_wp2
   go_roundw
   case rel =>
    have hB1 := HB1.out
    obtain ⟨e0, e1, e2, eo⟩ := set3k (u := .float .f32 p) (v := .float .f32 q) (t := .float .f32 r) hv0' hv1' hv2'
    refine ⟨k + 1, by omega, by go_num, ⟨⟨(((HB.out.trans (hB1.mono (by omega))).setCell (Nat.le_refl _) _).setCell (Nat.le_refl _) _).setCell (Nat.le_refl _) _, by simp <;> (have := hB1.size; omega), fun j hj => ?_, fun j => ?_⟩, fun j hj => ?_⟩⟩
    ·by_cases h0 : j = k * 3
     ·subst h0; exact ⟨_, e0⟩
     ·by_cases h1 : j = k * 3 + 1
      ·subst h1; exact ⟨_, e1⟩
      ·by_cases h2 : j = k * 3 + 2
       ·subst h2; exact ⟨_, e2⟩
       ·obtain ⟨v, hv⟩ := HC.out j hj
        exact ⟨v, by rw [eo j h0 h1 h2, hB1.cell (p := ⟨g, j, none⟩) hgs]; exact hv⟩
    ·simp; rw [hB1.frozen (p := ⟨g, j, none⟩) hgs]; exact HF.out j
    ·by_cases hjk : j = k
     ·subst hjk; exact ⟨p, q, r, e0, e1, e2, fp, fq, fr⟩
     ·obtain ⟨p', q', r', k0, k1, k2, hv⟩ := HD.out j (by omega)
      exact ⟨p', q', r', by rw [eo _ (by omega) (by omega) (by omega), hB1.cell (p := ⟨g, j * 3, none⟩) hgs]; exact k0, by rw [eo _ (by omega) (by omega) (by omega), hB1.cell (p := ⟨g, j * 3 + 1, none⟩) hgs]; exact k1,
       by rw [eo _ (by omega) (by omega) (by omega), hB1.cell (p := ⟨g, j * 3 + 2, none⟩) hgs]; exact k2, hv⟩
   case measure => simp [intOf]; omega
  ·obtain rfl : k = len := by omega
   obtain ⟨⟨hB, hgs, hce, hfz⟩, hdone⟩ := hA.out
   have hfin : IsVs wr (some ⟨g, 0, none⟩) k k cs := by
    refine ⟨hzl, Nat.le_refl _, by unfold maxLen; omega, by simp, fun x hx i hi => ?_⟩
    cases hx
    obtain ⟨p, q, r, k0, k1, k2, hv⟩ := hdone i hi
    exact ⟨p, q, r, by rw [addr_add', Nat.zero_add]; exact k0, by rw [addr_add', Nat.zero_add]; exact k1, by rw [addr_add', Nat.zero_add]; exact k2, hv⟩
   have HF := Lib.hid hfin
   have HB := Lib.hid hB
   have HFZ := Lib.hid hfz
   clear hA hB hce hfz hdone hfin h
   go_wp2
   go_ret
   exact ⟨rfl, HF.out, HB.out, hgs, HFZ.out⟩
set_option maxHeartbeats 400000 in
theorem laws_toInt64SS' (a : Option Addr) (len cap : Nat) (ts : List (List Int)) (w : World) (h : IsTs w a len cap ts) (hlen : len ≤ 1048576) (hrow : ∀ k, k < len → (ts.getD k []).length ≤ 1048576) :
  Calls Tryz.prog 125 #[.slice a len cap] w fun e w' => e = .returned (.slice (some ⟨w.heap.size, 0, none⟩) len len) ∧ IsTs w' (some ⟨w.heap.size, 0, none⟩) len len ts ∧ Below w.heap.size w w' ∧ w.heap.size < w'.heap.size ∧ Rows w.heap.size w'.heap.size w' w.heap.size 0 len ts := by
 obtain ⟨i0, hi, hz0, hz1, hz2⟩ := info_parts infoS
 have hzl := h.1
 obtain ⟨g, hg⟩ : ∃ g, g = w.heap.size := ⟨_, rfl⟩
 have hmk : (Instr.makeSlice 23 (.int .i64 len) (.int .i64 len)).run Tryz.prog w = .ok (.slice (some ⟨g, 0, none⟩) len len) (w.alloc (.cells (madeCells #[.slice none 0 0] len) 33)) := by
  have := run_make (P := Tryz.prog) w 23 33 i0 (.slice none 0 0) Tryz.underlying23 hi hz0 .i64 .i64 len len (by omega) (Int.le_refl _) (by rw [hz2]; omega) (by omega)
  rw [this, hz1, hg]; simp; rfl
 have hstart : Below w.heap.size w (w.alloc (.cells (madeCells #[.slice none 0 0] len) 33)) ∧ g < (w.alloc (.cells (madeCells #[.slice none 0 0] len) 33)).heap.size ∧
   (∀ j, j < len → ∃ v, (w.alloc (.cells (madeCells #[.slice none 0 0] len) 33)).cell? ⟨g, j, none⟩ = some v) ∧ (∀ j, (w.alloc (.cells (madeCells #[.slice none 0 0] len) 33)).frozen? ⟨g, j, none⟩ = false) := by
  subst hg
  exact ⟨(Below.refl _ _).alloc (Nat.le_refl _) _, by simp, fun j hj => ⟨_, made_cell w _ len j _ hj⟩, fun j => by simp⟩
 rw [← hg] at hstart ⊢
 have HST := Lib.hid hstart
 have HG := Lib.hid hg
 clear hstart hg
 go_enter Tryz.func125, Tryz.ntmps125
 go_wp2
 generalize hw0 : w.alloc (.cells (madeCells #[.slice none 0 0] len) 33) = w0 at HST ⊢
 go_loopw [4] (fun i w' => ∃ k : Nat, k ≤ len ∧ i = .int .i64 k ∧ Aside ((Below g w w' ∧ g < w'.heap.size ∧ (∀ j, j < len → ∃ v, w'.cell? ⟨g, j, none⟩ = some v) ∧ (∀ j, w'.frozen? ⟨g, j, none⟩ = false)) ∧
   ∀ j, j < k → ∃ G, g < G ∧ w'.cell? ⟨g, j, none⟩ = some (.slice (some ⟨G, 0, none⟩) (ts.getD j []).length (ts.getD j []).length) ∧ IsIs w' (some ⟨G, 0, none⟩) (ts.getD j []).length (ts.getD j []).length (ts.getD j []) ∧ G < w'.heap.size ∧ ∀ i, w'.frozen? ⟨G, i, none⟩ = false)) (fun i _ => len - (intOf i).toNat)
 case atStart => exact ⟨0, Nat.zero_le _, rfl, HST.out, fun j hj => absurd hj (by omega)⟩
 case round =>
  obtain ⟨k, hk, rfl, hA⟩ := hrel
  by_cases hlt : k < len
  ·obtain ⟨⟨hB, hgs, hce, hfz⟩, hdone⟩ := hA.out
   have h' := h.below (HG.out ▸ hB)
   obtain ⟨b, o, rfl, hcell⟩ := h'.some (by omega)
   obtain ⟨ra, n, c, hc, hi⟩ := hcell k hlt
   have hnl : (ts.getD k []).length = n := hi.1
   have hn : n ≤ 1048576 := by rw [← hnl]; exact hrow k hlt
   have hk0 : (0 : Int) ≤ (k : Int) := by omega
   have hk1 : (k : Int) < (len : Int) := by omega
   have hfk := hfz k
   obtain ⟨v0, hv0⟩ := hce k hlt
   have HI := Lib.hid hi
   have HD := Lib.hid hdone
   have HN := Lib.hid hnl
   have HC := Lib.hid hce
   have HF := Lib.hid hfz
   have HB := Lib.hid hB
   clear hA hcell h' hi hdone hnl hce hfz hB h
   go_wp2_with fail
   refine (laws_toInt64S' _ _ _ _ _ HI.out hn).mono ?_
   rintro e w1 ⟨rfl, hI1, hB1, hS1, hF1⟩
   have hv1 : w1.cell? ⟨g, k, none⟩ = some v0 := by rw [hB1.cell (p := ⟨g, k, none⟩) hgs]; exact hv0
   have hf1 : w1.frozen? ⟨g, k, none⟩ = false := by rw [hB1.frozen (p := ⟨g, k, none⟩) hgs]; exact hfk
   have HI1 := Lib.hid hI1
   have HF1 := Lib.hid hF1
   have HS1 := Lib.hid hS1
   have HB1 := Lib.hid hB1
   clear hI1 hB1 hF1
   go_wp2
   go_roundw
   case rel =>
    have hB1 := HB1.out
    have hn' := HN.out
    refine ⟨k + 1, by omega, by go_num, ⟨⟨(HB.out.trans (hB1.mono (by omega))).setCell (Nat.le_refl _) _, by simp; omega, fun j hj => ?_, fun j => ?_⟩, fun j hj => ?_⟩⟩
    ·by_cases hjk : j = k
     ·subst hjk; exact ⟨_, World.cell?_setCell_same _ _ _ hv1⟩
     ·obtain ⟨v, hv⟩ := HC.out j hj
      exact ⟨v, by rw [World.cell?_setCell_other _ _ _ _ (by simp <;> omega), hB1.cell (p := ⟨g, j, none⟩) hgs]; exact hv⟩
    ·simp; rw [hB1.frozen (p := ⟨g, j, none⟩) hgs]; exact HF.out j
    ·by_cases hjk : j = k
     ·subst hjk
      have hS1 := HS1.out
      refine ⟨wr.heap.size, hgs, ?_, ?_, by simp; exact hS1, fun i => by simp; exact HF1.out i⟩
      ·rw [hn', World.cell?_setCell_same _ _ _ hv1]
      ·rw [hn']; exact HI1.out.set (by simp <;> omega)
     ·obtain ⟨G, hG, hcG, hiG, hGs, hGf⟩ := HD.out j (by omega)
      have := World.block_lt_of_cell? wr _ hcG
      have hs1 := HS1.out
      refine ⟨G, hG, ?_, ?_, by simp; omega, fun i => by simp; rw [hB1.frozen (p := ⟨G, i, none⟩) hGs]; exact hGf i⟩
      ·rw [World.cell?_setCell_other _ _ _ _ (by simp <;> omega), hB1.cell (p := ⟨g, j, none⟩) hgs]; exact hcG
      ·exact (hiG.below hB1).set (by simp <;> omega)
   case measure => simp [intOf]; omega
  ·obtain rfl : k = len := by omega
   obtain ⟨⟨hB, hgs, hce, hfz⟩, hdone⟩ := hA.out
   have hfin : IsTs wr (some ⟨g, 0, none⟩) k k ts := by
    refine ⟨hzl, Nat.le_refl _, by unfold maxLen; omega, by simp, fun x hx i hi => ?_⟩
    cases hx
    obtain ⟨G, hG, hc, hi, _, _⟩ := hdone i hi
    exact ⟨_, _, _, by rw [addr_add', Nat.zero_add]; exact hc, hi⟩
   have hrow : Rows g wr.heap.size wr g 0 k ts := by
    intro j hj
    obtain ⟨G, hG, hc, hi, hGs, hGf⟩ := hdone j hj
    refine ⟨G, 0, (ts.getD j []).length, by omega, by rw [Nat.zero_add]; exact hc, by omega, hGs, hGs, fun i hi' => ⟨⟨.int .i64 ((ts.getD j []).getD i 0), ?_⟩, hGf (0 + i)⟩⟩
    have := hi.2.2.2.2.2 _ rfl i hi'
    rwa [addr_add'] at this
   have HRW := Lib.hid hrow
   have HF := Lib.hid hfin
   have HB := Lib.hid hB
   clear hA hB hce hfz hdone hfin hrow h
   go_wp2
   go_ret
   exact ⟨rfl, HF.out, HB.out, hgs, HRW.out⟩
set_option maxHeartbeats 400000 in
theorem laws_toMesh' (pa ta : Option Addr) (pl pc tl tc : Nat) (cs : List C3) (ts : List (List Int)) (w : World) (hp : IsVs w pa pl pc cs) (ht : IsTs w ta tl tc ts) (hs : Small cs ts) :
  Calls Tryz.prog 67 #[.agg #[.slice pa pl pc, .slice ta tl tc]] w fun e w' => (∃ b b', e = .returned (.agg #[.slice (some ⟨b, 0, none⟩) pl pl, .slice (some ⟨b', 0, none⟩) tl tl]) ∧ w.heap.size ≤ b ∧ b < b' ∧ IsVs w' (some ⟨b, 0, none⟩) pl pl cs ∧ IsTs w' (some ⟨b', 0, none⟩) tl tl ts ∧ ∃ hi, hi ≤ w'.heap.size ∧ OwnM w.heap.size hi w' b 0 b' 0 pl tl ts) ∧ Below w.heap.size w w' := by
 have hpl := hp.1
 have htl := ht.1
 obtain ⟨s1, s2, s3⟩ := hs
 rw [hpl] at s1
 rw [htl] at s2 s3
 have hT := Lib.hid ht
 have hP := Lib.hid hp
 have hS3 := Lib.hid s3
 clear hp ht s3 hpl htl
 have ul := Tryz.underlying25
 have ui := Tryz.underlying40
 go_enter Tryz.func67, Tryz.ntmps67
 go_wp2_with fail
 have hB0 : Below w.heap.size w (((w.alloc (.cells #[.slice pa pl pc, .slice ta tl tc] 25)).alloc (.cells #[.slice none 0 0, .slice none 0 0] 40)).alloc (.cells #[.slice none 0 0, .slice none 0 0] 40)) :=
  (((Below.refl _ _).alloc (Nat.le_refl _) _).alloc (by simp) _).alloc (by simp <;> omega) _
 have c1 : (((w.alloc (.cells #[.slice pa pl pc, .slice ta tl tc] 25)).alloc (.cells #[.slice none 0 0, .slice none 0 0] 40)).alloc (.cells #[.slice none 0 0, .slice none 0 0] 40)).cell? ⟨w.heap.size, 1, none⟩ = some (.slice ta tl tc) := by go_simp
 have cs0 : ∀ i, i < 2 → (((w.alloc (.cells #[.slice pa pl pc, .slice ta tl tc] 25)).alloc (.cells #[.slice none 0 0, .slice none 0 0] 40)).alloc (.cells #[.slice none 0 0, .slice none 0 0] 40)).cell? ⟨w.heap.size + 1 + 1, i, none⟩ = some (.slice none 0 0) := by
  intro i hi
  have : i = 0 ∨ i = 1 := by omega
  rcases this with rfl | rfl <;> go_simp
 have cr0 : ∀ i, i < 2 → (((w.alloc (.cells #[.slice pa pl pc, .slice ta tl tc] 25)).alloc (.cells #[.slice none 0 0, .slice none 0 0] 40)).alloc (.cells #[.slice none 0 0, .slice none 0 0] 40)).cell? ⟨w.heap.size + 1, i, none⟩ = some (.slice none 0 0) := by
  intro i hi
  have : i = 0 ∨ i = 1 := by omega
  rcases this with rfl | rfl <;> go_simp
 have fs0 : ∀ i, (((w.alloc (.cells #[.slice pa pl pc, .slice ta tl tc] 25)).alloc (.cells #[.slice none 0 0, .slice none 0 0] 40)).alloc (.cells #[.slice none 0 0, .slice none 0 0] 40)).frozen? ⟨w.heap.size + 1 + 1, i, none⟩ = false := by intro i; go_simp
 have fr0 : ∀ i, (((w.alloc (.cells #[.slice pa pl pc, .slice ta tl tc] 25)).alloc (.cells #[.slice none 0 0, .slice none 0 0] 40)).alloc (.cells #[.slice none 0 0, .slice none 0 0] 40)).frozen? ⟨w.heap.size + 1, i, none⟩ = false := by intro i; go_simp
 have hsz : (((w.alloc (.cells #[.slice pa pl pc, .slice ta tl tc] 25)).alloc (.cells #[.slice none 0 0, .slice none 0 0] 40)).alloc (.cells #[.slice none 0 0, .slice none 0 0] 40)).heap.size = w.heap.size + 1 + 1 + 1 := by simp
 generalize (((w.alloc (.cells #[.slice pa pl pc, .slice ta tl tc] 25)).alloc (.cells #[.slice none 0 0, .slice none 0 0] 40)).alloc (.cells #[.slice none 0 0, .slice none 0 0] 40)) = W at *
 obtain ⟨n, hn⟩ : ∃ n, n = w.heap.size := ⟨_, rfl⟩
 refine (laws_toVectorS' _ _ _ _ _ (hP.out.below hB0) s1).mono ?_
 rintro e w1 ⟨rfl, hV, hB1, hS1, hF1⟩
 have HF1 := Lib.hid hF1
 clear hF1
 have lt0 : w.heap.size < W.heap.size := by rw [hsz]; omega
 have lt1 : w.heap.size + 1 < W.heap.size := by rw [hsz]; omega
 have lt2 : w.heap.size + 1 + 1 < W.heap.size := by rw [hsz]; omega
 have d1 : w1.cell? ⟨w.heap.size, 1, none⟩ = some (.slice ta tl tc) := by rw [hB1.cell (p := ⟨w.heap.size, 1, none⟩) lt0]; exact c1
 have d2 : w1.cell? ⟨w.heap.size + 1 + 1, 0, none⟩ = some (.slice none 0 0) := by rw [hB1.cell (p := ⟨w.heap.size + 1 + 1, 0, none⟩) lt2]; exact cs0 0 (by decide)
 have d3 : w1.cell? ⟨w.heap.size + 1 + 1, 1, none⟩ = some (.slice none 0 0) := by rw [hB1.cell (p := ⟨w.heap.size + 1 + 1, 1, none⟩) lt2]; exact cs0 1 (by decide)
 have d4 : w1.cell? ⟨w.heap.size + 1, 0, none⟩ = some (.slice none 0 0) := by rw [hB1.cell (p := ⟨w.heap.size + 1, 0, none⟩) lt1]; exact cr0 0 (by decide)
 have d5 : w1.cell? ⟨w.heap.size + 1, 1, none⟩ = some (.slice none 0 0) := by rw [hB1.cell (p := ⟨w.heap.size + 1, 1, none⟩) lt1]; exact cr0 1 (by decide)
 have g2 : w1.frozen? ⟨w.heap.size + 1 + 1, 0, none⟩ = false := by rw [hB1.frozen (p := ⟨w.heap.size + 1 + 1, 0, none⟩) lt2]; exact fs0 0
 have g3 : w1.frozen? ⟨w.heap.size + 1 + 1, 1, none⟩ = false := by rw [hB1.frozen (p := ⟨w.heap.size + 1 + 1, 1, none⟩) lt2]; exact fs0 1
 have g4 : w1.frozen? ⟨w.heap.size + 1, 0, none⟩ = false := by rw [hB1.frozen (p := ⟨w.heap.size + 1, 0, none⟩) lt1]; exact fr0 0
 have g5 : w1.frozen? ⟨w.heap.size + 1, 1, none⟩ = false := by rw [hB1.frozen (p := ⟨w.heap.size + 1, 1, none⟩) lt1]; exact fr0 1
 have hBW : Below w.heap.size w w1 := hB0.trans (hB1.mono (by rw [hsz]; omega))
 have hz : w.heap.size + 1 + 1 + 1 < w1.heap.size := by rw [← hsz]; exact hS1
 have HV := Lib.hid hV
 have HBW := Lib.hid hBW
 have HSZ := Lib.hid hsz
 generalize W.heap.size = B at *
 clear c1 cs0 cr0 fs0 fr0 hB0 hB1 hV hBW hsz lt0 lt1 lt2 hn
 go_wp2_with fail
 have hB2 : Below w.heap.size w (w1.setCell ⟨w.heap.size + 1 + 1, 0, none⟩ (.slice (some ⟨B, 0, none⟩) pl pl)) := HBW.out.setCell (by show w.heap.size ≤ w.heap.size + 1 + 1; omega) _
 have e2 := World.cell?_setCell_same w1 ⟨w.heap.size + 1 + 1, 0, none⟩ (.slice (some ⟨B, 0, none⟩) pl pl) d2
 have e3 : (w1.setCell ⟨w.heap.size + 1 + 1, 0, none⟩ (.slice (some ⟨B, 0, none⟩) pl pl)).cell? ⟨w.heap.size + 1 + 1, 1, none⟩ = some (.slice none 0 0) := by rw [World.cell?_setCell_other _ _ _ _ (by simp)]; exact d3
 have e4 : (w1.setCell ⟨w.heap.size + 1 + 1, 0, none⟩ (.slice (some ⟨B, 0, none⟩) pl pl)).cell? ⟨w.heap.size + 1, 0, none⟩ = some (.slice none 0 0) := by rw [World.cell?_setCell_other _ _ _ _ (by simp)]; exact d4
 have e5 : (w1.setCell ⟨w.heap.size + 1 + 1, 0, none⟩ (.slice (some ⟨B, 0, none⟩) pl pl)).cell? ⟨w.heap.size + 1, 1, none⟩ = some (.slice none 0 0) := by rw [World.cell?_setCell_other _ _ _ _ (by simp)]; exact d5
 have k3 : (w1.setCell ⟨w.heap.size + 1 + 1, 0, none⟩ (.slice (some ⟨B, 0, none⟩) pl pl)).frozen? ⟨w.heap.size + 1 + 1, 1, none⟩ = false := by simp; exact g3
 have k4 : (w1.setCell ⟨w.heap.size + 1 + 1, 0, none⟩ (.slice (some ⟨B, 0, none⟩) pl pl)).frozen? ⟨w.heap.size + 1, 0, none⟩ = false := by simp; exact g4
 have k5 : (w1.setCell ⟨w.heap.size + 1 + 1, 0, none⟩ (.slice (some ⟨B, 0, none⟩) pl pl)).frozen? ⟨w.heap.size + 1, 1, none⟩ = false := by simp; exact g5
 have hV2 : IsVs (w1.setCell ⟨w.heap.size + 1 + 1, 0, none⟩ (.slice (some ⟨B, 0, none⟩) pl pl)) (some ⟨B, 0, none⟩) pl pl cs := HV.out.set (by rw [HSZ.out]; show w.heap.size + 1 + 1 ≠ w.heap.size + 1 + 1 + 1; omega)
 have hsz2 : (w1.setCell ⟨w.heap.size + 1 + 1, 0, none⟩ (.slice (some ⟨B, 0, none⟩) pl pl)).heap.size = w1.heap.size := by simp
 have hF2 : ∀ i, (w1.setCell ⟨w.heap.size + 1 + 1, 0, none⟩ (.slice (some ⟨B, 0, none⟩) pl pl)).frozen? ⟨B, i, none⟩ = false := fun i => by simp; exact HF1.out i
 have HF2 := Lib.hid hF2
 have hS2 : B < (w1.setCell ⟨w.heap.size + 1 + 1, 0, none⟩ (.slice (some ⟨B, 0, none⟩) pl pl)).heap.size := by simp; exact hS1
 have HS2 := Lib.hid hS2
 clear hF2 hS2 HF1 d1 d2 d3 d4 d5 g2 g3 g4 g5
 generalize (w1.setCell ⟨w.heap.size + 1 + 1, 0, none⟩ (.slice (some ⟨B, 0, none⟩) pl pl)) = W2 at *
 have lt1 : w.heap.size + 1 < W2.heap.size := by rw [hsz2]; omega
 have lt2 : w.heap.size + 1 + 1 < W2.heap.size := by rw [hsz2]; omega
 refine (laws_toInt64SS' _ _ _ _ _ (hT.out.below hB2) s2 hS3.out).mono ?_
 rintro e w3 ⟨rfl, hT3, hB3, hS3', hR3⟩
 have HF3 := Lib.hid (fun i => (hB3.frozen (p := ⟨B, i, none⟩) HS2.out).trans (HF2.out i))
 have HR3 := Lib.hid hR3
 have HS3 := Lib.hid (Nat.lt_of_lt_of_le HS2.out hB3.size)
 have HSB := Lib.hid hS3'
 clear hR3
 have d2 : w3.cell? ⟨w.heap.size + 1 + 1, 0, none⟩ = some (.slice (some ⟨B, 0, none⟩) pl pl) := by rw [hB3.cell (p := ⟨w.heap.size + 1 + 1, 0, none⟩) lt2]; exact e2
 have d3 : w3.cell? ⟨w.heap.size + 1 + 1, 1, none⟩ = some (.slice none 0 0) := by rw [hB3.cell (p := ⟨w.heap.size + 1 + 1, 1, none⟩) lt2]; exact e3
 have d4 : w3.cell? ⟨w.heap.size + 1, 0, none⟩ = some (.slice none 0 0) := by rw [hB3.cell (p := ⟨w.heap.size + 1, 0, none⟩) lt1]; exact e4
 have d5 : w3.cell? ⟨w.heap.size + 1, 1, none⟩ = some (.slice none 0 0) := by rw [hB3.cell (p := ⟨w.heap.size + 1, 1, none⟩) lt1]; exact e5
 have g3 : w3.frozen? ⟨w.heap.size + 1 + 1, 1, none⟩ = false := by rw [hB3.frozen (p := ⟨w.heap.size + 1 + 1, 1, none⟩) lt2]; exact k3
 have g4 : w3.frozen? ⟨w.heap.size + 1, 0, none⟩ = false := by rw [hB3.frozen (p := ⟨w.heap.size + 1, 0, none⟩) lt1]; exact k4
 have g5 : w3.frozen? ⟨w.heap.size + 1, 1, none⟩ = false := by rw [hB3.frozen (p := ⟨w.heap.size + 1, 1, none⟩) lt1]; exact k5
 have HV3 := Lib.hid (hV2.below hB3)
 have HT3 := Lib.hid hT3
 have HB3 := Lib.hid (hB2.trans (hB3.mono (by rw [hsz2]; omega)))
 have HSZ2 := Lib.hid hsz2
 have HZ := Lib.hid hz
 generalize W2.heap.size = B2 at *
 clear hV2 hT3 hB3 hB2 e2 e3 e4 e5 k3 k4 k5 hsz2 lt1 lt2 hz hS1 hS3'
 go_wp2
 have x0 : ∀ u, ((w3.setCell ⟨w.heap.size + 1 + 1, 1, none⟩ u).cell? ⟨w.heap.size + 1, 0, none⟩) = some (.slice none 0 0) := fun u => by rw [World.cell?_setCell_other _ _ _ _ (by simp)]; exact d4
 have x1 : ∀ u v, (((w3.setCell ⟨w.heap.size + 1 + 1, 1, none⟩ u).setCell ⟨w.heap.size + 1, 0, none⟩ v).cell? ⟨w.heap.size + 1, 1, none⟩) = some (.slice none 0 0) := fun u v => by rw [World.cell?_setCell_other _ _ _ _ (by simp), World.cell?_setCell_other _ _ _ _ (by simp)]; exact d5
 have r1 : ∀ u v t, ((((w3.setCell ⟨w.heap.size + 1 + 1, 1, none⟩ u).setCell ⟨w.heap.size + 1, 0, none⟩ v).setCell ⟨w.heap.size + 1, 1, none⟩ t).cell? ⟨w.heap.size + 1, 1, none⟩) = some t := fun u v t => World.cell?_setCell_same _ _ _ (x1 u v)
 have r0 : ∀ u v t, ((((w3.setCell ⟨w.heap.size + 1 + 1, 1, none⟩ u).setCell ⟨w.heap.size + 1, 0, none⟩ v).setCell ⟨w.heap.size + 1, 1, none⟩ t).cell? ⟨w.heap.size + 1, 0, none⟩) = some v := fun u v t => by rw [World.cell?_setCell_other _ _ _ _ (by simp)]; exact World.cell?_setCell_same _ _ _ (x0 u)
 have hB := HSZ.out
 have hB2 := HSZ2.out
 have hz := HZ.out
 have n1 : ∀ z, (.slice none 0 0 : Value) ≠ .int .i64 z := fun z h => by cases h
 refine bodyPost_ret (v := .agg #[.slice (some ⟨B, 0, none⟩) pl pl, .slice (some ⟨B2, 0, none⟩) tl tl]) (by simp [results, Tryz.results67, go_sem, r0, r1]) rfl ⟨⟨B, B2, rfl, by omega, by omega, ?_, ?_, w3.heap.size, by simp, ?_⟩, ?_⟩
 ·exact ((HV3.out.set (by show w.heap.size + 1 + 1 ≠ B; omega)).set (by show w.heap.size + 1 ≠ B; omega)).set (by show w.heap.size + 1 ≠ B; omega)
 ·exact ((HT3.out.setN (by show w.heap.size + 1 + 1 ≠ B2; omega) d3 n1).setN (by show w.heap.size + 1 ≠ B2; omega) (x0 _) n1).setN (by show w.heap.size + 1 ≠ B2; omega) (x1 _ _) n1
 ·refine OwnM.mark (w := w3) (lo' := 0) (hi' := w.heap.size + 3) ⟨⟨by omega, HS3.out, HS3.out, fun j hj => ⟨cells_of HV3.out j hj, by rw [Nat.zero_add]; exact HF3.out j⟩⟩, HR3.out.wide (by omega), by omega, HSB.out⟩ (((Mark.set (Nat.zero_le _) (by omega)).trans (Mark.set (Nat.zero_le _) (by omega))).trans (Mark.set (Nat.zero_le _) (by omega))) (fun i => ?_)
  rw [World.cell?_setCell_other _ _ _ _ (by simp <;> omega), World.cell?_setCell_other _ _ _ _ (by simp <;> omega), World.cell?_setCell_other _ _ _ _ (by simp <;> omega)]
 ·exact ((HB3.out.setCell (by show w.heap.size ≤ w.heap.size + 1 + 1; omega) _).setCell (by show w.heap.size ≤ w.heap.size + 1; omega) _).setCell (by show w.heap.size ≤ w.heap.size + 1; omega) _
end Go.Proofs.YtabccmobmppdnaaGreat
namespace Go.Proofs.YtabccmobmppdnaaGreat
open Go Fk Go.RowKit
set_option linter.unusedVariables false
set_option maxRecDepth 8000
def Lst (lo hi : Nat) (w : World) (a : Option Addr) (n : Nat) : Prop := (a = none ∧ n = 0) ∨ ∃ b, a = some ⟨b, 0, none⟩ ∧ Own lo hi w b 0 n
theorem Own.below {lo hi : Nat} {w w' : World} {b o n : Nat} (h : Own lo hi w b o n) (hB : Below w.heap.size w w') : Own lo hi w' b o n :=
 ⟨h.1, h.2.1, Nat.lt_of_lt_of_le h.2.2.1 hB.size, fun j hj => by
  obtain ⟨⟨v, hv⟩, hf⟩ := h.2.2.2 j hj
  exact ⟨⟨v, cell_below hB hv⟩, by rw [hB.frozen (p := ⟨b, o + j, none⟩) h.2.2.1]; exact hf⟩⟩
theorem Lst.below {lo hi : Nat} {w w' : World} {a : Option Addr} {n : Nat} (h : Lst lo hi w a n) (hB : Below w.heap.size w w') : Lst lo hi w' a n :=
 h.imp id fun ⟨b, e, ho⟩ => ⟨b, e, ho.below hB⟩
theorem Lst.mark {lo hi lo' hi' : Nat} {w w' : World} {a : Option Addr} {n : Nat} (h : Lst lo hi w a n) (hM : Mark lo' hi' w w') : Lst lo hi w' a n :=
 h.imp id fun ⟨b, e, ho⟩ => ⟨b, e, ho.mark hM⟩
end Go.Proofs.YtabccmobmppdnaaGreat
namespace Go.Proofs.YtabccmobmppdnaaGreat
open Go Fk Go.RowKit
set_option linter.unusedVariables false
set_option maxRecDepth 8000
section
variable {P : Program} (w : World)
theorem wp_append_opt {o : Oper} {a : Act} {K : Act → World → Prop} {Q : Exit → Act → World → Prop} (s x : Operand) (t : TypeId)
  (ho : o.op = .call { callee := .builtin .append, args := #[s, x], argTypes := #[t, t] })
  (base : Nat) (e : TypeId) (i : TypeInfo) (z : Value) (size bytes : Nat) (ht : P.underlying t = some (.slice e)) (hi : P.info? e = some i) (hz : i.zero = some z)
  (hsize : i.size = size) (hby : i.bytes = bytes) (hzs : z.cells.size = size) (hsz : 0 < size)
  (v : Value) (n : Nat) (xs : List Value) (hs : a.eval s = v) (hown : w.ownsRow base e size v n xs)
  (oa : Option Addr) (m c : Nat) (news : List Value) (hx : a.eval x = .slice oa m c) (h0 : oa = none → m = 0 ∧ c = 0) (hl : news.length = m * size) (hnews : ∀ ad, oa = some ad → ∀ j u, news[j]? = some u → w.cell? (ad.add j) = some u) (h1 : ∀ u ∈ news, u.oneCell' = true)
  (h63 : n + m ≤ maxLen) (hbytes : (n + m) * bytes ≤ 140737488355328) (hbase : base ≤ w.heap.size)
  (h : ∀ v' w', w'.ownsRow base e size v' (n + m) (xs ++ news) → w.grownBy w' v.ownBlock → K (a.put o.dst v') w') : o.wp P a w K Q := by
 cases oa with
 | some ad => exact wp_append_own w s x t ho base e i z size bytes ht hi hz hsize hby hzs hsz v n xs hs hown ad m c news hx hl (hnews ad rfl) h1 h63 hbytes hbase fun v' w' h2 h3 _ => h v' w' h2 h3
 | none =>
  obtain ⟨rfl, rfl⟩ := h0 rfl
  have hn : news = [] := by apply List.eq_nil_of_length_eq_zero; omega
  subst hn
  have hr := run_append_owned_none (P := P) (w := w) base t o.type e i size ht hi v n xs hown
  unfold Oper.wp execOp
  simp only [ho, resolve, invoke, builtin, Sem.run_bind, Sem.run_pure, Result.andThen_ok, List.map_toArray, List.map_cons, List.map_nil, hs, hx, hr]
  exact h v w (by simpa using hown) ⟨rfl, rfl, rfl, Nat.le_refl _, fun _ _ _ => rfl⟩
theorem wpList_append_opt {ops : Array Oper} {rest : List Oper} {o : Oper} {a : Act} {Q : Exit → Act → World → Prop} (hgd : o.guard = none) (s x : Operand) (t : TypeId)
  (ho : o.op = .call { callee := .builtin .append, args := #[s, x], argTypes := #[t, t] })
  (base : Nat) (e : TypeId) (i : TypeInfo) (z : Value) (size bytes : Nat) (ht : P.underlying t = some (.slice e)) (hi : P.info? e = some i) (hz : i.zero = some z)
  (hsize : i.size = size) (hby : i.bytes = bytes) (hzs : z.cells.size = size) (hsz : 0 < size)
  (v : Value) (n : Nat) (xs : List Value) (hs : a.eval s = v) (hown : w.ownsRow base e size v n xs)
  (oa : Option Addr) (m c : Nat) (news : List Value) (hx : a.eval x = .slice oa m c) (h0 : oa = none → m = 0 ∧ c = 0) (hl : news.length = m * size) (hnews : ∀ ad, oa = some ad → ∀ j u, news[j]? = some u → w.cell? (ad.add j) = some u) (h1 : ∀ u ∈ news, u.oneCell' = true)
  (h63 : n + m ≤ maxLen) (hbytes : (n + m) * bytes ≤ 140737488355328) (hbase : base ≤ w.heap.size)
  (h : ∀ v' w', w'.ownsRow base e size v' (n + m) (xs ++ news) → w.grownBy w' v.ownBlock → wpList P ops Q rest (a.put o.dst v') w') : wpList P ops Q (o :: rest) a w :=
 wpList_plain hgd fun _ hK => wp_append_opt w s x t ho base e i z size bytes ht hi hz hsize hby hzs hsz v n xs hs hown oa m c news hx h0 hl hnews h1 h63 hbytes hbase fun v' w' h2 h3 => hK _ _ (h v' w' h2 h3)
end
theorem is_of_owns {w : World} {base n : Nat} {v : Value} {zs : List Int} (h : w.ownsRow base 2 1 v n (ints zs)) (hn : zs.length = n) (hz : ∀ z ∈ zs, (Lit.int .i64 z).wf = true) :
  ∃ a cap, v = .slice a n cap ∧ IsIs w a n cap zs ∧ ∀ x, a = some x → base ≤ x.block ∧ x.block < w.heap.size := by
 have h' := h
 obtain ⟨h1, h2⟩ := h
 rcases h2 with ⟨rfl, hn0⟩ | ⟨g, cap, cur, rfl, hb, hh, hc1, hc2, hs, ht⟩
 ·refine ⟨none, 0, by rw [hn0], ⟨hn, by omega, by unfold maxLen; omega, hz, fun _ => ⟨hn0, rfl⟩, fun x hx => by cases hx⟩, fun x hx => by cases hx⟩
 ·have hg := h'.lt g rfl
  refine ⟨_, cap, rfl, ⟨hn, hc1, hc2, hz, by simp, fun x hx i hi => ?_⟩, fun x hx => by cases hx; exact hg⟩
  cases hx
  rw [addr_add', Nat.zero_add, h'.cellAt i (by omega)]
  unfold ints
  simp [List.getD, hn, hi]
theorem l00Own (a : Option Addr) (len cap : Nat) (zs : List Int) (w : World) (h : IsIs w a len cap zs) (hlen : len ≤ 1048576) :
  Calls Tryz.prog 186 #[.slice a len cap] w fun e w' => (∃ v, e = .returned v ∧ w'.ownsRow w.heap.size 2 1 v len (ints zs)) ∧ Below w.heap.size w w' := by
 obtain ⟨i0, hi, hz0, hz1, hz2⟩ := info_parts info64
 have hzl := h.1
 have hzw := h.2.2.2.1
 have hil : (ints zs).length = len * 1 := by unfold ints; simp; exact hzl
 have H := Lib.hid h
 have HZ := Lib.hid hzw
 clear h hzw
 go_enter Tryz.func186, Tryz.ntmps186
 go_wp2_with (at_builtin; refine wpList_append_opt _ rfl _ _ 33 rfl w.heap.size 2 i0 (.int .i64 0) 1 8 Tryz.underlying33 hi hz0 hz1 hz2 rfl (by decide) _ 0 [] rfl (World.ownsRow_lit (e := 2) (size := 1) w #[] 0 (Nat.le_refl _) (by decide) rfl) a len cap (ints zs) rfl H.out.2.2.2.2.1 hil ?c2 ?c3 ?c4 ?c5 ?c6 ?_)
 case c2 =>
  intro ad had j u hu
  have hj : j < len := by
   have := (List.getElem?_eq_some_iff.1 hu).1; omega
  have hc := H.out.2.2.2.2.2 ad had j hj
  have : u = .int .i64 (zs.getD j 0) := by
   unfold ints at hu
   have hj' : j < zs.length := by omega
   simp [hj'] at hu
   simp [List.getD, hj', ← hu]
  rw [this, World.cell?_alloc_lt (h := World.block_lt_of_cell? _ _ hc)]
  exact hc
 case c3 =>
  intro u hu
  unfold ints at hu
  obtain ⟨z, _, rfl⟩ := List.mem_map.1 hu
  rfl
 case c4 => unfold maxLen; omega
 case c5 => omega
 case c6 => simp
 ·intro v' w1 hown hgrow
  have hB1 : Below w.heap.size w (w.alloc (.cells #[] 2)) := (Below.refl _ _).alloc (Nat.le_refl _) _
  have hB2 := hB1.grown hgrow hB1.size (fun k hk => by cases hk; exact Nat.le_refl _)
  have hown' : w1.ownsRow w.heap.size 2 1 v' len (ints zs) := by simpa using hown
  have HI := Lib.hid hown'
  have HB2 := Lib.hid hB2
  clear hown hown' hgrow hB1 hB2
  go_wp2
  go_ret
  exact ⟨⟨v', rfl, HI.out⟩, HB2.out⟩
end Go.Proofs.YtabccmobmppdnaaGreat
namespace Go.Proofs.YtabccmobmppdnaaGreat
open Go Fk Go.RowKit
set_option linter.unusedVariables false
set_option maxRecDepth 8000
theorem owns_up {w w' : World} {base : Nat} {e : TypeId} {size : Nat} {v : Value} {n : Nat} {xs : List Value} (h : w.ownsRow base e size v n xs) (hB : Below w.heap.size w w') : w'.ownsRow base e size v n xs :=
 h.kept (row := none) ⟨hB.os, hB.tape, hB.output, hB.size, fun k hk _ => hB.block k hk⟩ (by cases v.ownBlock <;> simp)
theorem owns_low {w : World} {base base' : Nat} {e : TypeId} {size : Nat} {v : Value} {n : Nat} {xs : List Value} (h : w.ownsRow base e size v n xs) (hb : base' ≤ base) : w.ownsRow base' e size v n xs := by
 obtain ⟨h1, h2⟩ := h
 refine ⟨h1, h2.imp id ?_⟩
 rintro ⟨g, cap, cur, e1, e2, e3⟩
 exact ⟨g, cap, cur, e1, Nat.le_trans hb e2, e3⟩
theorem owns_ne {w : World} {b1 b2 : Nat} {e1 e2 : TypeId} {s1 s2 : Nat} {v1 v2 : Value} {n1 n2 : Nat} {x1 x2 : List Value} (h1 : w.ownsRow b1 e1 s1 v1 n1 x1) (h2 : w.ownsRow b2 e2 s2 v2 n2 x2) (he : e1 ≠ e2) : v1.ownBlock = none ∨ v1.ownBlock ≠ v2.ownBlock := by
 rcases h1.2 with ⟨rfl, _⟩ | ⟨g, c, cur, rfl, _, hg, _⟩
 ·exact .inl rfl
 ·right
  rcases h2.2 with ⟨rfl, _⟩ | ⟨g2, c2, cur2, rfl, _, hg2, _⟩
  ·simp [Value.ownBlock]
  ·simp only [Value.ownBlock]
   intro e
   cases e
   rw [hg] at hg2
   cases hg2
   exact he rfl
theorem owns_side {w w' : World} {b1 b2 : Nat} {e1 e2 : TypeId} {s1 s2 : Nat} {v1 v2 : Value} {n1 n2 : Nat} {x1 x2 : List Value} (h1 : w.ownsRow b1 e1 s1 v1 n1 x1) (h2 : w.ownsRow b2 e2 s2 v2 n2 x2) (he : e1 ≠ e2) (hg : w.grownBy w' v2.ownBlock) : w'.ownsRow b1 e1 s1 v1 n1 x1 :=
 h1.kept hg (owns_ne h1 h2 he)
theorem grown_set (w : World) (X j : Nat) (u : Value) : w.grownBy (w.setCell ⟨X, j, none⟩ u) (some X) :=
 ⟨rfl, rfl, rfl, by simp, fun k _ hk => Below.heap_setCell _ _ _ _ (fun e => hk (by rw [e]))⟩
theorem owns_slice {w : World} {base : Nat} {v : Value} {n : Nat} {e : TypeId} {s : Nat} {xs : List Value} (h : w.ownsRow base e s v n xs) : ∃ a c, v = .slice a n c := by
 rcases h.2 with ⟨rfl, e⟩ | ⟨g, c, _, rfl, _⟩
 ·exact ⟨none, 0, by rw [e]⟩
 ·exact ⟨_, _, rfl⟩
theorem OwnT.slice {base n : Nat} {w : World} {v : Value} {ts : List (List Int)} (h : ∃ rows : List Value, w.ownsRow base 33 1 v n rows ∧ ∀ j, j < n → ∃ u, rows[j]? = some u ∧ w.ownsRow base 2 1 u (ts.getD j []).length (ints (ts.getD j []))) : ∃ a c, v = .slice a n c := owns_slice h.choose_spec.1
theorem owns_one {w : World} {base : Nat} {v : Value} {n : Nat} {e : TypeId} {s : Nat} {xs : List Value} (h : w.ownsRow base e s v n xs) : v.oneCell' = true := by
 rcases h.2 with ⟨rfl, _⟩ | ⟨g, c, cur, rfl, _⟩ <;> rfl
def OwnT (base : Nat) (w : World) (v : Value) (n : Nat) (ts : List (List Int)) : Prop := ∃ rows : List Value, w.ownsRow base 33 1 v n rows ∧ ∀ j, j < n → ∃ u, rows[j]? = some u ∧ w.ownsRow base 2 1 u (ts.getD j []).length (ints (ts.getD j []))
theorem OwnT.up {base n : Nat} {w w' : World} {v : Value} {ts : List (List Int)} (h : OwnT base w v n ts) (hB : Below w.heap.size w w') : OwnT base w' v n ts := by
 obtain ⟨rows, h1, h2⟩ := h
 refine ⟨rows, owns_up h1 hB, fun j hj => ?_⟩
 obtain ⟨u, e1, e2⟩ := h2 j hj
 exact ⟨u, e1, owns_up e2 hB⟩
theorem OwnT.low {base base' n : Nat} {w : World} {v : Value} {ts : List (List Int)} (h : OwnT base w v n ts) (hb : base' ≤ base) : OwnT base' w v n ts := by
 obtain ⟨rows, h1, h2⟩ := h
 refine ⟨rows, owns_low h1 hb, fun j hj => ?_⟩
 obtain ⟨u, e1, e2⟩ := h2 j hj
 exact ⟨u, e1, owns_low e2 hb⟩
theorem OwnT.side {base n b2 : Nat} {w w' : World} {v v2 : Value} {ts : List (List Int)} {e2 : TypeId} {s2 n2 : Nat} {x2 : List Value} (h : OwnT base w v n ts) (k : w.ownsRow b2 e2 s2 v2 n2 x2) (hg : w.grownBy w' v2.ownBlock) (he : 33 ≠ e2) (he' : 2 ≠ e2) : OwnT base w' v n ts := by
 obtain ⟨rows, h1, h2⟩ := h
 refine ⟨rows, owns_side h1 k he hg, fun j hj => ?_⟩
 obtain ⟨u, e1, e2⟩ := h2 j hj
 exact ⟨u, e1, owns_side e2 k he' hg⟩
theorem OwnT.snoc {base k : Nat} {w w' : World} {v v' : Value} {ts : List (List Int)} {rows : List Value} {u : Value} (h1 : w.ownsRow base 33 1 v k rows) (h2 : ∀ j, j < k → ∃ u, rows[j]? = some u ∧ w.ownsRow base 2 1 u (ts.getD j []).length (ints (ts.getD j [])))
  (hu : w.ownsRow base 2 1 u (ts.getD k []).length (ints (ts.getD k []))) (hg : w.grownBy w' v.ownBlock) (hv : w'.ownsRow base 33 1 v' (k + 1) (rows ++ [u])) : OwnT base w' v' (k + 1) ts := by
 refine ⟨_, hv, fun j hj => ?_⟩
 have hl : rows.length = k := by rw [h1.1]; omega
 by_cases hjk : j < k
 ·obtain ⟨u', e1, e2⟩ := h2 j hjk
  exact ⟨u', by rw [List.getElem?_append_left (by omega)]; exact e1, owns_side e2 h1 (by decide) hg⟩
 ·obtain rfl : j = k := by omega
  exact ⟨u, by rw [List.getElem?_append_right (by omega), hl]; simp, owns_side hu h1 (by decide) hg⟩
theorem OwnT.is {base n : Nat} {w : World} {v : Value} {ts : List (List Int)} (h : OwnT base w v n ts) (hn : ts.length = n) (hz : ∀ j, j < n → ∀ z ∈ ts.getD j [], (Lit.int .i64 z).wf = true) : ∃ a cap, v = .slice a n cap ∧ IsTs w a n cap ts := by
 obtain ⟨rows, h1, h2⟩ := h
 have h1' := h1
 rcases h1.2 with ⟨rfl, hn0⟩ | ⟨g, cap, cur, rfl, hb, hh, hc1, hc2, hs, ht⟩
 ·exact ⟨none, 0, by rw [hn0], hn, by omega, by unfold maxLen; omega, fun _ => ⟨hn0, rfl⟩, fun x hx => by cases hx⟩
 ·refine ⟨_, cap, rfl, hn, hc1, hc2, by simp, fun x hx i hi => ?_⟩
  cases hx
  obtain ⟨u, e1, e2⟩ := h2 i hi
  obtain ⟨b, c, rfl, hI, _⟩ := is_of_owns e2 rfl (hz i hi)
  exact ⟨b, _, c, by rw [addr_add', Nat.zero_add, h1'.cellAt i (by omega)]; exact e1, hI⟩
def PV (n : Nat) (xs : List Value) (cs : List C3) : Prop := ∀ j, j < n → ∃ p q r, xs[j * 3]? = some (.float .f32 p) ∧ xs[j * 3 + 1]? = some (.float .f32 q) ∧ xs[j * 3 + 2]? = some (.float .f32 r) ∧ FV .f32 p (cs.getD j c0).1 ∧ FV .f32 q (cs.getD j c0).2.1 ∧ FV .f32 r (cs.getD j c0).2.2
theorem vs_cells {w : World} {a : Option Addr} {n cap : Nat} {cs : List C3} (h : IsVs w a n cap cs) : ∃ xs : List Value, xs.length = n * 3 ∧ (∀ ad, a = some ad → ∀ j u, xs[j]? = some u → w.cell? (ad.add j) = some u) ∧ (∀ u ∈ xs, u.oneCell' = true) ∧ PV n xs cs := by
 obtain ⟨h1, h2, h3, h4, h5⟩ := h
 cases a with
 | none =>
  obtain ⟨rfl, _⟩ := h4 rfl
  exact ⟨[], rfl, ⟨fun _ had => (by cases had), fun u hu => absurd hu (by simp), fun j hj => absurd hj (by omega)⟩⟩
 | some x =>
  have hc : ∀ j, j < n * 3 → ∃ p, w.cell? (x.add j) = some (.float .f32 p) := by
   intro j hj
   obtain ⟨p, q, r, k0, k1, k2, _⟩ := h5 x rfl (j / 3) (by omega)
   have : j = j / 3 * 3 ∨ j = j / 3 * 3 + 1 ∨ j = j / 3 * 3 + 2 := by omega
   rcases this with e | e | e
   ·exact ⟨p, by rw [e]; exact k0⟩
   ·exact ⟨q, by rw [e]; exact k1⟩
   ·exact ⟨r, by rw [e]; exact k2⟩
  refine ⟨(List.range (n * 3)).map fun j => (w.cell? (x.add j)).getD undef, by simp, fun ad had j u hu => ?_, fun u hu => ?_, fun j hj => ?_⟩
  ·cases had
   have hj : j < n * 3 := by have := (List.getElem?_eq_some_iff.1 hu).1; simpa using this
   obtain ⟨p, hp⟩ := hc j hj
   simp [hj, hp] at hu
   rw [hp, ← hu]
  ·obtain ⟨j, hj, rfl⟩ := List.mem_map.1 hu
   obtain ⟨p, hp⟩ := hc j (List.mem_range.1 hj)
   rw [hp]; rfl
  ·obtain ⟨p, q, r, k0, k1, k2, hf⟩ := h5 x rfl j hj
   have g0 : j * 3 < n * 3 := by omega
   have g1 : j * 3 + 1 < n * 3 := by omega
   have g2 : j * 3 + 2 < n * 3 := by omega
   exact ⟨p, q, r, by simp [g0, k0], by simp [g1, k1], by simp [g2, k2], hf⟩
theorem vs_of_owns {w : World} {base n : Nat} {v : Value} {xs : List Value} {cs : List C3} (h : w.ownsRow base 42 3 v n xs) (hn : cs.length = n) (hp : PV n xs cs) : ∃ a cap, v = .slice a n cap ∧ IsVs w a n cap cs := by
 have h' := h
 rcases h.2 with ⟨rfl, hn0⟩ | ⟨g, cap, cur, rfl, hb, hh, hc1, hc2, hs, ht⟩
 ·exact ⟨none, 0, by rw [hn0], hn, by omega, by unfold maxLen; omega, fun _ => ⟨hn0, rfl⟩, fun x hx => by cases hx⟩
 ·refine ⟨_, cap, rfl, hn, hc1, hc2, by simp, fun x hx i hi => ?_⟩
  cases hx
  obtain ⟨p, q, r, e0, e1, e2, hf⟩ := hp i hi
  exact ⟨p, q, r, by rw [addr_add', Nat.zero_add, h'.cellAt _ (by omega)]; exact e0, by rw [addr_add', Nat.zero_add, h'.cellAt _ (by omega)]; exact e1, by rw [addr_add', Nat.zero_add, h'.cellAt _ (by omega)]; exact e2, hf⟩
end Go.Proofs.YtabccmobmppdnaaGreat
namespace Go.Proofs.YtabccmobmppdnaaGreat
namespace Reg5
open Go Reg
set_option linter.unusedVariables false
section
variable {P : Program} {ops : Array Oper} {Q : Exit → Act → World → Prop} {md : Region.Mode}
def narrow (ops : Array Oper) (m : Nat) : Bool :=
 decide (m < ops.size) && ((List.range m).all fun i => (List.range (m + 1)).any fun j => decide (i < j) && behind ops i j) && ((List.range ops.size).all fun i => decide (i ≤ m) || behind ops m i)
theorem narrow_lt {ops : Array Oper} {m : Nat} (h : narrow ops m = true) : m < ops.size := by
 unfold narrow at h; simp only [Bool.and_eq_true, decide_eq_true_eq] at h; exact h.1.1
theorem narrow_up {ops : Array Oper} {m i : Nat} (h : narrow ops m = true) (hi : i < ops.size) (hm : m < i) : behind ops m i = true := by
 unfold narrow at h; simp only [Bool.and_eq_true] at h
 have := List.all_eq_true.1 h.2 i (List.mem_range.2 hi)
 have hn : ¬ i ≤ m := by omega
 simpa [hn] using this
theorem below_m {ops : Array Oper} {m : Nat} {L : Array Bool} (h : narrow ops m = true) (hcl : ∀ i j, L.getD j false = true → behind ops i j = true → L.getD i false = true) (hm : L.getD m false = true) :
  ∀ d i, m - i = d → i ≤ m → L.getD i false = true := by
 intro d
 induction d using Nat.strongRecOn with
 | ind d ih =>
  intro i hd hi
  by_cases e : i = m
  ·rw [e]; exact hm
  ·have hlt : i < m := by omega
   have h' := h
   unfold narrow at h'; simp only [Bool.and_eq_true] at h'
   have := List.all_eq_true.1 h'.1.2 i (List.mem_range.2 hlt)
   rw [List.any_eq_true] at this
   obtain ⟨j, hj, hb⟩ := this
   rw [Bool.and_eq_true, decide_eq_true_eq] at hb
   have hjm := List.mem_range.1 hj
   exact hcl i j (ih (m - j) (by omega) j rfl (by omega)) hb.2
def Obl (P : Program) (ops : Array Oper) (m : Nat) (a0 : Act) (C D : World → Prop) (G G' : World → World → Prop) (R : Nat → Value → World → Prop) (T : Nat → Act → World → Prop) (Q : Exit → Act → World → Prop) (i : Nat) (o : Oper) : Prop :=
 ∀ a w, (i ≤ m → C w) → (m < i → D w) → (∀ t, ((List.range ops.size).all fun j => slotOf ops j != some t || behind ops i j) = true → a.eval (.tmp t) = a0.eval (.tmp t)) →
  (∀ j, behind ops j i = true → (i ≤ m ∨ m ≤ j) → Has ops R j a w) →
  o.wp P a w (fun a' w' => ∃ v, a' = a.put o.dst v ∧ (o.dst ≠ none → R i v w') ∧ (o.dst = none → T i a w') ∧ (i < m → C w' ∧ G w w') ∧ (m ≤ i → o.dst ≠ none → D w') ∧ (m < i → o.dst ≠ none → G' w w')) Q
def OblAll (P : Program) (ops : Array Oper) (m : Nat) (a0 : Act) (C D : World → Prop) (G G' : World → World → Prop) (R : Nat → Value → World → Prop) (T : Nat → Act → World → Prop) (Q : Exit → Act → World → Prop) : Nat → List Oper → Prop
 | _, [] => True
 | i, o :: l => Obl P ops m a0 C D G G' R T Q i o ∧ OblAll P ops m a0 C D G G' R T Q (i + 1) l
theorem OblAll.get {m : Nat} {a0 : Act} {C D : World → Prop} {G G' : World → World → Prop} {R : Nat → Value → World → Prop} {T : Nat → Act → World → Prop} :
  ∀ {l : List Oper} {k : Nat}, OblAll P ops m a0 C D G G' R T Q k l → ∀ {i : Nat} {o : Oper}, l[i]? = some o → Obl P ops m a0 C D G G' R T Q (k + i) o
 | [], _, _, _, _, h => by simp at h
 | _ :: _, _, h, 0, _, ho => by simp at ho; subst ho; exact h.1
 | _ :: l, k, h, i + 1, _, ho => by
  have := OblAll.get h.2 (i := i) (by simpa using ho)
  rwa [Nat.add_assoc, Nat.add_comm 1 i] at this
section
variable {m : Nat} {a0 : Act} {C D : World → Prop} {G G' : World → World → Prop} {R : Nat → Value → World → Prop} {T : Nat → Act → World → Prop} {i : Nat} {o : Oper}
theorem Obl.early (hi : decide (i < m) = true) (hn : o.dst.isSome = true)
  (h : ∀ a w, C w → (∀ t, ((List.range ops.size).all fun j => slotOf ops j != some t || behind ops i j) = true → a.eval (.tmp t) = a0.eval (.tmp t)) →
   (∀ j, behind ops j i = true → Has ops R j a w) → ∀ K : Act → World → Prop, (∀ v w', R i v w' → C w' → G w w' → K (a.put o.dst v) w') → o.wp P a w K Q) : Obl P ops m a0 C D G G' R T Q i o := by
 have hi' := of_decide_eq_true hi
 intro a w hC _ he hd
 refine h a w (hC (by omega)) he (fun j hj => hd j hj (.inl (by omega))) _ fun v w' h1 h2 h3 => ⟨v, rfl, fun _ => h1, fun e => ?_, fun _ => ⟨h2, h3⟩, fun hm => ?_, fun hm => ?_⟩
 ·rw [e] at hn; cases hn
 ·omega
 ·omega
theorem Obl.mid (hi : decide (i = m) = true) (hn : o.dst.isSome = true)
  (h : ∀ a w, C w → (∀ t, ((List.range ops.size).all fun j => slotOf ops j != some t || behind ops i j) = true → a.eval (.tmp t) = a0.eval (.tmp t)) →
   (∀ j, behind ops j i = true → Has ops R j a w) → ∀ K : Act → World → Prop, (∀ v w', R i v w' → D w' → K (a.put o.dst v) w') → o.wp P a w K Q) : Obl P ops m a0 C D G G' R T Q i o := by
 have hi' := of_decide_eq_true hi
 intro a w hC _ he hd
 refine h a w (hC (by omega)) he (fun j hj => hd j hj (.inl (by omega))) _ fun v w' h1 h2 => ⟨v, rfl, fun _ => h1, fun e => ?_, fun hm => ?_, fun _ _ => h2, fun hm => ?_⟩
 ·rw [e] at hn; cases hn
 ·omega
 ·omega
theorem Obl.late (hi : decide (m < i) = true)
  (h : ∀ a w, D w → (∀ t, ((List.range ops.size).all fun j => slotOf ops j != some t || behind ops i j) = true → a.eval (.tmp t) = a0.eval (.tmp t)) →
   (∀ j, behind ops j i = true → m ≤ j → Has ops R j a w) → ∀ K : Act → World → Prop, (∀ v w', (o.dst ≠ none → R i v w') → (o.dst = none → T i a w') → (o.dst ≠ none → D w') → (o.dst ≠ none → G' w w') → K (a.put o.dst v) w') → o.wp P a w K Q) : Obl P ops m a0 C D G G' R T Q i o := by
 have hi' := of_decide_eq_true hi
 intro a w _ hD he hd
 refine h a w (hD (by omega)) he (fun j hj hm => hd j hj (.inr hm)) _ fun v w' h1 h2 h3 h4 => ⟨v, rfl, h1, h2, fun hm => ?_, fun _ => h3, fun _ => h4⟩
 omega
end
theorem wp_region_inv {id m : Nat} {a0 : Act} {w0 : World} {C D : World → Prop} {G G' : World → World → Prop} {R : Nat → Value → World → Prop} {T : Nat → Act → World → Prop} (hm : P.follows .mixedOrders = true) (ht : tidy ops a0.tmps.size = true) (hnar : narrow ops m = true)
  (hG : ∀ j v w w', j < m → C w → G w w' → R j v w → R j v w') (hG' : ∀ j v w w', m ≤ j → D w → G' w w' → R j v w → R j v w') (hC : C { w0 with drawn := w0.drawn + 1 })
  (hO : OblAll P ops m a0 C D G G' R T Q 0 ops.toList)
  (hQ : ∀ a w, a.defers = a0.defers → a.tmps.size = a0.tmps.size → (∀ t, (ops.all fun o => o.dst != some t) = true → a.eval (.tmp t) = a0.eval (.tmp t)) → ((∀ j, j < ops.size → slotOf ops j ≠ none) → D w ∧ ∀ j, m ≤ j → j < ops.size → Has ops R j a w) → (∀ j, HasT ops T j a w) → Q .normal a w) :
  (Code.region id ops true).wp P Q a0 w0 := by
 unfold tidy at ht
 simp only [Bool.and_eq_true] at ht
 obtain ⟨⟨⟨⟨hlow, hgd⟩, hbd⟩, hdis⟩, hlast⟩ := ht
 have slot_lt : ∀ {j d}, slotOf ops j = some d → j < ops.size := fun {j d} h => by
  unfold slotOf at h
  cases ho : ops[j]? with
  | none => rw [ho] at h; cases h
  | some o => exact (Array.getElem?_eq_some_iff.1 ho).1
 have slot_bd : ∀ {j d}, slotOf ops j = some d → d < a0.tmps.size := fun {j d} h => by
  have hj := slot_lt h
  have := Array.all_eq_true.1 hbd j hj
  unfold slotOf at h
  rw [Array.getElem?_eq_getElem hj] at h
  simp only [Option.bind_some] at h
  rw [h] at this
  simpa using this
 have slot_ne : ∀ {i j d}, slotOf ops i = some d → slotOf ops j = some d → i = j := fun {i j d} h1 h2 => by
  have a1 := slot_lt h1
  have a2 := slot_lt h2
  have := List.all_eq_true.1 (List.all_eq_true.1 hdis i (List.mem_range.2 a1)) j (List.mem_range.2 a2)
  rw [h1, h2] at this
  simpa using this
 let Inv : Array Bool → Act → World → Prop := fun listed a w => ((∀ j, j < ops.size → slotOf ops j = none → listed.getD j false = false) → (listed.getD m false = false → C w) ∧ (listed.getD m false = true → D w) ∧ ∀ j, listed.getD j false = true → (listed.getD m false = false ∨ m ≤ j) → Has ops R j a w) ∧ a.defers = a0.defers ∧ a.tmps.size = a0.tmps.size ∧
  (∀ t, (∀ j, slotOf ops j = some t → listed.getD j false = false) → a.eval (.tmp t) = a0.eval (.tmp t)) ∧
  (∀ i j, listed.getD j false = true → behind ops i j = true → listed.getD i false = true) ∧ (∀ j, listed.getD j false = true → HasT ops T j a w)
 refine wp_region_any hm (wpAny_inv (Inv := Inv) hlow ?_ ?_ _ _ _ _ (by simp) (by simp) ⟨fun _ => ⟨fun _ => hC, fun h => ?_, fun j hj => ?_⟩, rfl, rfl, fun _ _ => rfl, ?_, ?_⟩)
 ·intro i listed a w hs hi ⟨hCw0, hd, hsz, hext, hcl, hT⟩
  obtain ⟨hun, o, ho, hdeps⟩ := mem_ready.1 hi
  have hilt : i < ops.size := (Array.getElem?_eq_some_iff.1 ho).1
  have hun' : listed.getD i false = false := by
   have : i < listed.size := by omega
   simp [this] at hun ⊢; exact hun
  have hg : o.guard = none := by
   have := Array.all_eq_true.1 hgd i hilt
   rw [Array.getElem?_eq_getElem hilt] at ho
   cases ho
   simpa using this
  have hno : ∀ j, j < ops.size → slotOf ops j = none → listed.getD j false = false := fun j hlt hn => by
   cases hl : listed.getD j false
   ·rfl
   ·exfalso
    have h1 := List.all_eq_true.1 hlast j (List.mem_range.2 hlt)
    rw [hn] at h1
    simp only [bne_self_eq_false, Bool.false_or] at h1
    have h2 := List.all_eq_true.1 h1 i (List.mem_range.2 hilt)
    have hne : i ≠ j := fun e => by subst e; rw [hun'] at hl; cases hl
    simp [hne] at h2
    have := hcl i j hl h2
    rw [hun'] at this; cases this
  obtain ⟨hC1, hD1, hhas⟩ := hCw0 hno
  have side1 : i ≤ m → listed.getD m false = false := fun him => by
   cases hl : listed.getD m false
   ·rfl
   ·have := below_m hnar hcl hl _ i rfl him; rw [hun'] at this; cases this
  have lstd : ∀ j, behind ops j i = true → listed.getD j false = true := fun j hj => by
   obtain ⟨e, he, h1, h2⟩ := behind_spec hj ho
   rw [← h1]
   exact hdeps e he h2
  have side2 : m < i → listed.getD m false = true := fun him => lstd m (narrow_up hnar hilt him)
  have hmlt := narrow_lt hnar
  have hob := OblAll.get hO (i := i) (o := o) (by simpa using ho)
  rw [Nat.zero_add] at hob
  have hwp := hob a w (fun h => hC1 (side1 h)) (fun h => hD1 (side2 h)) (fun t htt => hext t fun j hj => by
    have := List.all_eq_true.1 htt j (List.mem_range.2 (slot_lt hj))
    rw [hj] at this
    simp at this
    cases hl : listed.getD j false
    ·rfl
    ·have := hcl i j hl this; rw [hun'] at this; cases this)
   (fun j hj hm => hhas j (lstd j hj) (hm.imp side1 fun h => h))
  unfold wpOp
  rw [ho]
  simp only [Region.wanted, hg, if_true]
  refine .inl (Oper.wp_mono ?_ hwp)
  rintro a' w' ⟨v, rfl, hR, hTi, hCG, hD', hGw'⟩
  have hdst : slotOf ops i = o.dst := by unfold slotOf; rw [ho]; rfl
  have keep : ∀ t, o.dst ≠ some t → (a.put o.dst v).eval (.tmp t) = a.eval (.tmp t) := fun t h => Act.eval_put (fun d hd he => h (by rw [hd]; cases he; rfl))
  have lst : ∀ j, (listed.setIfInBounds i true).getD j false = true → j = i ∨ listed.getD j false = true := fun j h => by
   by_cases hji : i = j
   ·exact .inl hji.symm
   ·rw [getD_set_ne false hji] at h; exact .inr h
  have hli : i < listed.size := by omega
  have same : ∀ j, j ≠ i → (listed.setIfInBounds i true).getD j false = listed.getD j false := fun j h => getD_set_ne false (fun e => h e.symm)
  have hHasI : ∀ d, slotOf ops i = some d → R i ((a.put o.dst v).eval (.tmp d)) w' := fun d hjd => by
   rw [hdst] at hjd
   have hb := slot_bd (j := i) (by rw [hdst]; exact hjd)
   have : (a.put o.dst v).eval (.tmp d) = v := by
    unfold Act.put Act.eval; rw [hjd]; simp; exact fun h => absurd (Nat.lt_of_lt_of_le hb (hsz ▸ h)) (Nat.lt_irrefl _)
   rw [this]; exact hR (by rw [hjd]; simp)
  have keepHas : ∀ j, listed.getD j false = true → (∀ v', R j v' w → R j v' w') → Has ops R j a w → Has ops R j (a.put o.dst v) w' := fun j hj' hup hhj d hjd => by
   rw [keep d (fun h => by
    have := slot_ne (show slotOf ops i = some d by rw [hdst]; exact h) hjd
    subst this; rw [hun'] at hj'; cases hj')]
   exact hup _ (hhj d hjd)
  refine ⟨fun hno' => ?_, ?_, ?_, ?_, ?_, ?_⟩
  ·have hne : o.dst ≠ none := fun hn => by
    have := hno' i hilt (by rw [hdst]; exact hn)
    simp [hli] at this
   rcases Nat.lt_trichotomy i m with him | him | him
   ·have hm0 := side1 (Nat.le_of_lt him)
    have hsm := same m (by omega)
    obtain ⟨hC', hGw⟩ := hCG him
    refine ⟨fun _ => hC', fun h => ?_, fun j hj hjm => ?_⟩
    ·rw [hsm, hm0] at h; cases h
    ·rcases lst j hj with rfl | hj'
     ·exact fun d hjd => hHasI d hjd
     ·have hjlt : j < m := by
       rcases Nat.lt_or_ge j m with h | h
       ·exact h
       ·exfalso
        rcases Nat.eq_or_lt_of_le h with e | e
        ·rw [← e, hm0] at hj'; cases hj'
        ·by_cases hjs : j < ops.size
         ·have := hcl m j hj' (narrow_up hnar hjs e); rw [hm0] at this; cases this
         ·have : ¬ j < listed.size := by omega
          simp [this] at hj'
      exact keepHas j hj' (fun v' => hG j v' _ _ hjlt (hC1 hm0) hGw) (hhas j hj' (.inl hm0))
   ·subst him
    refine ⟨fun h => ?_, fun _ => hD' (Nat.le_refl _) hne, fun j hj hjm => ?_⟩
    ·simp [hli] at h
    ·rcases lst j hj with rfl | hj'
     ·exact fun d hjd => hHasI d hjd
     ·exfalso
      have hm0 := side1 (Nat.le_refl _)
      have hjge : i ≤ j := by
       rcases hjm with h | h
       ·simp [hli] at h
       ·exact h
      rcases Nat.eq_or_lt_of_le hjge with e | e
      ·rw [← e, hm0] at hj'; cases hj'
      ·by_cases hjs : j < ops.size
       ·have := hcl i j hj' (narrow_up hnar hjs e); rw [hm0] at this; cases this
       ·have : ¬ j < listed.size := by omega
        simp [this] at hj'
   ·have hm1 := side2 him
    have hsm := same m (by omega)
    refine ⟨fun h => ?_, fun _ => hD' (Nat.le_of_lt him) hne, fun j hj hjm => ?_⟩
    ·rw [hsm, hm1] at h; cases h
    ·rcases lst j hj with rfl | hj'
     ·exact fun d hjd => hHasI d hjd
     ·have hjge : m ≤ j := by
       rcases hjm with h | h
       ·rw [hsm, hm1] at h; cases h
       ·exact h
      exact keepHas j hj' (fun v' => hG' j v' _ _ hjge (hD1 hm1) (hGw' him hne)) (hhas j hj' (.inr hjge))
  ·rw [← hd]; unfold Act.put; split <;> rfl
  ·rw [← hsz]; unfold Act.put; split <;> simp
  ·intro t htt
   rw [keep t (fun h => by
    have := htt i (by rw [hdst]; exact h)
    have hlt : i < listed.size := by omega
    simp [hlt] at this)]
   refine hext t fun j hj => ?_
   have := htt j hj
   cases hl : listed.getD j false
   ·rfl
   ·rw [getD_set_true hl] at this; cases this
  ·intro i' j hj hb
   rcases lst j hj with rfl | hj'
   ·refine getD_set_true ?_
    obtain ⟨e, he, h1, h2⟩ := behind_spec hb ho
    rw [← h1]; exact hdeps e he h2
   ·exact getD_set_true (hcl i' j hj' hb)
  ·intro j hj hn hlt
   rcases lst j hj with rfl | hj'
   ·rw [hdst] at hn
    have : a.put o.dst v = a := by rw [hn]; rfl
    rw [this]; exact hTi hn
   ·exfalso
    have h1 := List.all_eq_true.1 hlast j (List.mem_range.2 hlt)
    rw [hn] at h1
    simp only [bne_self_eq_false, Bool.false_or] at h1
    have h2 := List.all_eq_true.1 h1 i (List.mem_range.2 hilt)
    have hne : i ≠ j := fun e => by subst e; rw [hun'] at hj'; cases hj'
    simp [hne] at h2
    have := hcl i j hj' h2
    rw [hun'] at this; cases this
 ·intro listed a w hall ⟨hCD, hd, hsz, hext, _, hT⟩
  refine hQ a w hd hsz (fun t htt => hext t fun j hj => ?_) (fun hns => ?_) (fun j hn hlt => hT j (hall j hlt) hn hlt)
  ·exfalso
   have hlt := slot_lt hj
   have := Array.all_eq_true.1 htt j hlt
   unfold slotOf at hj
   rw [Array.getElem?_eq_getElem hlt] at hj
   simp only [Option.bind_some] at hj
   rw [hj] at this
   simp at this
  ·obtain ⟨_, hD, hh⟩ := hCD fun j hlt hn => absurd hn (hns j hlt)
   exact ⟨hD (hall m (narrow_lt hnar)), fun j hm hj => hh j (hall j hj) (.inr hm)⟩
 ·simp at h
  rw [Array.getElem?_replicate] at h; split at h <;> simp at h
 ·simp at hj
  rw [Array.getElem?_replicate] at hj; split at hj <;> simp at hj
 ·intro i j hj
  simp at hj
  rw [Array.getElem?_replicate] at hj; split at hj <;> simp at hj
 ·intro j hj
  simp at hj
  rw [Array.getElem?_replicate] at hj; split at hj <;> simp at hj
theorem wp_region_mix {id m : Nat} {a0 : Act} {w0 : World} {C D : World → Prop} {G G' : World → World → Prop} {R : Nat → Value → World → Prop} {T : Nat → Act → World → Prop} (mk : List Bool) (hm : P.follows .mixedOrders = true) (ht : tidy ops a0.tmps.size = true) (hnar : narrow ops m = true)
  (hk : maskOk ops mk a0.tmps.size = true)
  (hG : ∀ j v w w', j < m → C w → G w w' → R j v w → R j v w') (hG' : ∀ j v w w', m ≤ j → D w → G' w w' → R j v w → R j v w') (hC : C { w0 with drawn := w0.drawn + 1 })
  (hO : OblAll P ops m a0 C D G G' R T Q 0 ops.toList)
  (hQ : ∀ (f : Nat → Value) w, ((∀ j, j < ops.size → slotOf ops j ≠ none) → D w ∧ ∀ j d, m ≤ j → slotOf ops j = some d → R j (f d) w) → (∀ j, HasT ops T j ⟨(mixL f mk 0 a0.tmps.toList).toArray, a0.defers⟩ w) → Q .normal ⟨(mixL f mk 0 a0.tmps.toList).toArray, a0.defers⟩ w) :
  (Code.region id ops true).wp P Q a0 w0 := by
 refine wp_region_inv hm ht hnar hG hG' hC hO fun a w hd hsz hext hhas hT => ?_
 unfold maskOk at hk
 simp only [Bool.and_eq_true, beq_iff_eq] at hk
 obtain ⟨hml, hmk⟩ := hk
 have e : a = ⟨(mixL (fun t => a.eval (.tmp t)) mk 0 a0.tmps.toList).toArray, a0.defers⟩ := by
  rw [mixL_eq _ _ _ _ (by simpa using hml) ?_]
  ·cases a with
   | mk tmps defers =>
    simp only [Act.mk.injEq]
    refine ⟨?_, hd⟩
    apply Array.ext'
    apply List.ext_getElem?
    intro i
    simp only at hsz
    by_cases hi : i < tmps.size
    ·have hi' : i < a0.tmps.size := by omega
     simp [hi, hi', Act.eval]
    ·have hi' : ¬ i < a0.tmps.size := by omega
     simp [hi, hi']
  ·intro i hi
   have hlt : i < a0.tmps.size := by
    have := (List.getElem?_eq_some_iff.1 hi).1; omega
   have h1 := List.all_eq_true.1 hmk i (List.mem_range.2 hlt)
   have h2 : mk.getD i false = false := by simp [List.getD, hi]
   rw [h2, Bool.false_or] at h1
   have h3 := hext i h1
   rw [Nat.zero_add, h3]
   simp [Act.eval, hlt]
 have h1 : (∀ j, j < ops.size → slotOf ops j ≠ none) → D w ∧ ∀ j d, m ≤ j → slotOf ops j = some d → R j ((fun t => a.eval (.tmp t)) d) w := fun hns => by
  obtain ⟨hD, hh⟩ := hhas hns
  refine ⟨hD, fun j d hm hj => hh j hm ?_ d hj⟩
  unfold slotOf at hj
  cases ho : ops[j]? with
  | none => rw [ho] at hj; cases hj
  | some o => exact (Array.getElem?_eq_some_iff.1 ho).1
 rw [e] at hT ⊢
 exact hQ (fun t => a.eval (.tmp t)) w h1 hT
end
end Reg5
end Go.Proofs.YtabccmobmppdnaaGreat
namespace Go.Proofs.YtabccmobmppdnaaGreat
open Go Fk Go.RowKit
set_option linter.unusedVariables false
set_option maxRecDepth 8000
def LD (w0 : World) (X Z : Nat) (va vt : Value) (pl : Nat) (xs : List Value) (w : World) : Prop :=
 Below w0.heap.size w0 w ∧ w.ownsRow w0.heap.size 40 2 (.slice (some ⟨X, 0, none⟩) 1 1) 1 [va, vt] ∧ w.ownsRow w0.heap.size 40 2 (.slice (some ⟨Z, 0, none⟩) 1 1) 1 [.slice none 0 0, .slice none 0 0] ∧ w.ownsRow w0.heap.size 42 3 va pl xs
theorem LD.up {w0 w w' : World} {X Z pl : Nat} {va vt : Value} {xs : List Value} (h : LD w0 X Z va vt pl xs w) (hB : Below w.heap.size w w') : LD w0 X Z va vt pl xs w' :=
 ⟨h.1.trans (hB.mono h.1.size), owns_up h.2.1 hB, owns_up h.2.2.1 hB, owns_up h.2.2.2 hB⟩
theorem LD.cell0 {w0 w : World} {X Z pl : Nat} {va vt : Value} {xs : List Value} (h : LD w0 X Z va vt pl xs w) : w.cell? ⟨X, 0, none⟩ = some va := by rw [h.2.1.cellAt 0 (by decide)]; rfl
theorem LD.cell1 {w0 w : World} {X Z pl : Nat} {va vt : Value} {xs : List Value} (h : LD w0 X Z va vt pl xs w) : w.cell? ⟨X, 1, none⟩ = some vt := by rw [h.2.1.cellAt 1 (by decide)]; rfl
theorem LD.grow {w0 w w' : World} {X Z pl k : Nat} {va vt : Value} {xs rows : List Value} {b : Nat} (h : LD w0 X Z va vt pl xs w) (h1 : w.ownsRow b 33 1 vt k rows) (hb : w0.heap.size ≤ b) (hg : w.grownBy w' vt.ownBlock) : LD w0 X Z va vt pl xs w' :=
 ⟨h.1.grown hg h.1.size (fun k hk => Nat.le_trans hb (h1.lt k hk).1), owns_side h.2.1 h1 (by decide) hg, owns_side h.2.2.1 h1 (by decide) hg, owns_side h.2.2.2 h1 (by decide) hg⟩
theorem LD.set1 {w0 w : World} {X Z pl : Nat} {va vt : Value} {xs : List Value} (h : LD w0 X Z va vt pl xs w) (hxz : X ≠ Z) (u : Value) : LD w0 X Z va u pl xs (w.setCell ⟨X, 1, none⟩ u) := by
 have hs := h.2.1.stored 1 u
 have hl := (h.2.1.lt X rfl).1
 refine ⟨h.1.setCell hl _, hs.1, h.2.2.1.kept hs.2 (.inr (by simp [Value.ownBlock]; exact fun e => hxz e.symm)), owns_side h.2.2.2 h.2.1 (by decide) hs.2⟩
theorem mapSet {base n : Nat} {w : World} {v : Value} {ts : List (List Int)} {X j : Nat} {x2 : List Value} {b2 s2 n2 : Nat} (h : OwnT base w v n ts) (k : w.ownsRow b2 40 s2 (.slice (some ⟨X, 0, none⟩) n2 n2) n2 x2) (u : Value) : OwnT base (w.setCell ⟨X, j, none⟩ u) v n ts :=
 h.side k (grown_set w X j u) (by decide) (by decide)
set_option maxHeartbeats 1000000 in
theorem l02Own (pb : Nat) (pa ta : Option Addr) (pl pc tl tc : Nat) (cs : List C3) (ts : List (List Int)) (w : World) (c0' : w.cell? ⟨pb, 0, none⟩ = some (.slice pa pl pc)) (c1' : w.cell? ⟨pb, 1, none⟩ = some (.slice ta tl tc)) (hp : IsVs w pa pl pc cs) (ht : IsTs w ta tl tc ts) (h1 : pl ≤ 1000) (h2 : tl ≤ 1000) (h3 : ∀ j, j < tl → (ts.getD j []).length ≤ 1000) :
  Calls Tryz.prog 158 #[.pointer (some ⟨pb, 0, none⟩)] w fun e w' => (∃ va vt xs, e = .returned (.agg #[va, vt]) ∧ w'.ownsRow w.heap.size 42 3 va pl xs ∧ PV pl xs cs ∧ OwnT w.heap.size w' vt tl ts) ∧ Below w.heap.size w w' := by
 have ui := Tryz.underlying40
 obtain ⟨i0, hi, hz0, hz1, hz2⟩ := info_parts infoV
 obtain ⟨j0, hj, hy0, hy1, hy2⟩ := info_parts infoS
 obtain ⟨xs, x1, x2, x3, x4⟩ := vs_cells hp
 have lpb := World.block_lt_of_cell? _ _ c0'
 have HPA := Lib.hid hp.2.2.2.1
 have hpl := hp.1
 have C0 := Lib.hid c0'
 have C1 := Lib.hid c1'
 have HT := Lib.hid ht
 have H3 := Lib.hid h3
 have X1 := Lib.hid x1
 have X2 := Lib.hid x2
 have X3 := Lib.hid x3
 have X4 := Lib.hid x4
 have hst : ((w.alloc (.cells #[.slice none 0 0, .slice none 0 0] 40)).alloc (.cells #[] 42)).ownsRow w.heap.size 42 3 (.slice (some ⟨w.heap.size + 1, 0, none⟩) 0 0) 0 [] := by
  have := World.ownsRow_lit (base := w.heap.size) (e := 42) (size := 3) (w.alloc (.cells #[.slice none 0 0, .slice none 0 0] 40)) #[] 0 (by simp) (by decide) rfl
  simpa using this
 have HST := Lib.hid hst
 clear hst
 have C0' := Lib.hid (fun ob => cell_alloc (o := ob) c0')
 have c0'' := fun ob ob' => cell_alloc (o := ob') (cell_alloc (o := ob) c0')
 clear hp ht h3 x1 x2 x3 x4 c0' c1'
 go_enter Tryz.func158, Tryz.ntmps158
 go_wp2_with (at_builtin; go_loud (refine wpList_append_opt _ rfl _ _ 36 rfl w.heap.size 42 i0 (.agg #[.float .f32 0, .float .f32 0, .float .f32 0]) 3 12 Tryz.underlying36 hi hz0 hz1 hz2 rfl (by decide) _ 0 [] rfl HST.out pa pl pc xs rfl HPA.out X1.out ?c2 ?c3 ?c4 ?c5 ?c6 ?_))
 case c2 =>
  intro ad had j u hu
  have := X2.out ad had j u hu
  rw [World.cell?_alloc_lt (h := by have := World.block_lt_of_cell? _ _ this; simp; omega), World.cell?_alloc_lt (h := World.block_lt_of_cell? _ _ this)]
  exact this
 case c3 => exact X3.out
 case c4 => unfold maxLen; omega
 case c5 => omega
 case c6 => omega
 ·intro va w1 hown hgrow
  have hown' : w1.ownsRow w.heap.size 42 3 va pl xs := by simpa using hown
  have hzr : ((w.alloc (.cells #[.slice none 0 0, .slice none 0 0] 40)).alloc (.cells #[] 42)).ownsRow w.heap.size 40 2 (.slice (some ⟨w.heap.size, 0, none⟩) 1 1) 1 [.slice none 0 0, .slice none 0 0] :=
   (World.ownsRow_lit (base := w.heap.size) (e := 40) (size := 2) w #[.slice none 0 0, .slice none 0 0] 1 (Nat.le_refl _) (by decide) rfl).alloc _
  have hB1 : Below w.heap.size w w1 := (((Below.refl _ _).alloc (Nat.le_refl _) _).alloc (by simp) _).grown hgrow (by simp; omega) (fun k hk => by simp [Value.ownBlock] at hk; omega)
  have hlt : w.heap.size < w1.heap.size := by have := hgrow.size; simp at this; omega
  have hz1 := owns_side hzr HST.out (by decide) hgrow
  obtain ⟨qa, qc, rfl⟩ : ∃ a c, va = .slice a pl c := by
   rcases hown'.2 with ⟨rfl, e⟩ | ⟨g, c, _, rfl, _⟩
   ·exact ⟨none, 0, by rw [e]⟩
   ·exact ⟨_, _, rfl⟩
  have hX2 : LD w (w1.heap.size + 1) w.heap.size (.slice qa pl qc) (.slice (some ⟨w1.heap.size, 0, none⟩) 0 0) pl xs ((w1.alloc (.cells #[] 33)).alloc (.cells #[.slice qa pl qc, .slice (some ⟨w1.heap.size, 0, none⟩) 0 0] 40)) := by
   have r := World.ownsRow_lit (base := w.heap.size) (e := 40) (size := 2) (w1.alloc (.cells #[] 33)) #[.slice qa pl qc, .slice (some ⟨w1.heap.size, 0, none⟩) 0 0] 1 (by simp; omega) (by decide) rfl
   exact ⟨(hB1.alloc hB1.size _).alloc (by simp; omega) _, by simpa using r, (hz1.alloc _).alloc _, (hown'.alloc _).alloc _⟩
  have hT2 : OwnT w.heap.size ((w1.alloc (.cells #[] 33)).alloc (.cells #[.slice qa pl qc, .slice (some ⟨w1.heap.size, 0, none⟩) 0 0] 40)) (.slice (some ⟨w1.heap.size, 0, none⟩) 0 0) 0 ts :=
   ⟨[], (World.ownsRow_lit (base := w.heap.size) (e := 33) (size := 1) w1 #[] 0 hB1.size (by decide) rfl).alloc _, fun j hj => absurd hj (by omega)⟩
  have HX := Lib.hid hX2
  have HTT := Lib.hid hT2
  have hxz : w1.heap.size + 1 ≠ w.heap.size := by omega
  have HXZ := Lib.hid hxz
  clear hX2 hT2 hown hown' hzr hgrow hz1 hxz c0'' hB1
  go_wp2
  generalize (w1.alloc (.cells #[] 33)).alloc (.cells #[.slice qa pl qc, .slice (some ⟨w1.heap.size, 0, none⟩) 0 0] 40) = W2 at *
  generalize (.slice (some ⟨w1.heap.size, 0, none⟩) 0 0 : Value) = vt0 at *
  generalize w1.heap.size + 1 = X at *
  go_loopw [4] (fun i w' => ∃ k : Nat, k ≤ tl ∧ i = .int .i64 k ∧ Aside (∃ vt, LD w X w.heap.size (.slice qa pl qc) vt pl xs w' ∧ OwnT w.heap.size w' vt k ts)) (fun i _ => tl - (intOf i).toNat)
  case atStart => exact ⟨0, Nat.zero_le _, rfl, _, HX.out, HTT.out⟩
  case round =>
   obtain ⟨k, hk, hik, hA⟩ := hrel
   subst hik
   obtain ⟨vt, hD, hTk⟩ := hA.out
   have kb1 := cell_below hD.1 C1.out
   have HD := Lib.hid hD
   have HTK := Lib.hid hTk
   by_cases hlt : k < tl
   ·have h' := HT.out.below hD.1
    obtain ⟨bt, ot, rfl, hrow⟩ := h'.some (by omega)
    obtain ⟨r1, n1, q1, cr, ir⟩ := hrow k hlt
    have hn1 := ir.1
    have hn2 := H3.out k hlt
    have hk0 : (0 : Int) ≤ (k : Int) := by omega
    have hk1 : (k : Int) < (tl : Int) := by omega
    have IR := Lib.hid ir
    have CR := Lib.hid cr
    clear hA hD hTk h' hrow ir cr HX HTT
    go_wp2_with fail
    refine Reg5.wp_region_mix (m := 11) (C := fun w' => Below wr.heap.size wr w') (D := fun w' => LD w X w.heap.size (.slice qa pl qc) vt pl xs w') (G := fun w1 w2 => Below w1.heap.size w1 w2) (G' := fun w1 w2 => w2 = w1) (R := fun i v w' => match i with | 0 => v = .pointer (some ⟨X, 1, none⟩) | 1 => v = vt | 2 => v = .pointer (some ⟨pb, 0, none⟩) | 3 => v = .pointer (some ⟨pb, 0, none⟩) | 4 => v = .pointer (some ⟨pb, 1, none⟩) | 5 => v = .slice (some ⟨bt, ot, none⟩) tl tc | 6 => v = .int .i64 (k : Int) | 7 => v = .pointer (some ⟨bt, ot + k, none⟩) | 8 => v = .slice r1 n1 q1 | 9 => w'.ownsRow w.heap.size 2 1 v n1 (ints (ts.getD k [])) | 10 => ∃ b u, v = .slice (some ⟨b, 0, none⟩) 1 1 ∧ w'.cell? ⟨b, 0, none⟩ = some u ∧ w'.ownsRow w.heap.size 2 1 u n1 (ints (ts.getD k [])) | 11 => OwnT w.heap.size w' v (k + 1) ts | 12 => v = .pointer (some ⟨X, 1, none⟩) | _ => True) (T := fun i _ w' => match i with | 13 => ∃ vt', LD w X w.heap.size (.slice qa pl qc) vt' pl xs w' ∧ OwnT w.heap.size w' vt' (k + 1) ts | _ => True) [false, false, false, false, false, false, false, false, false, false, false, false, false, false, false, false, false, false, false, false, false, false, true, true, true, true, true, true, true, true, true, true, true, true, true, false]
     (by kernel_rfl) (by kernel_rfl) (by kernel_rfl) (by kernel_rfl) ?_ ?_ (below_drewN (Below.refl _ _) 1) ?_ ?_
    ·intro j v w1 w2 _ _ hG hR
     match j with
     | 0 => exact hR
     | 1 => exact hR
     | 2 => exact hR
     | 3 => exact hR
     | 4 => exact hR
     | 5 => exact hR
     | 6 => exact hR
     | 7 => exact hR
     | 8 => exact hR
     | 9 => exact owns_up hR hG
     | 10 => obtain ⟨b, u, e, hc, ho⟩ := hR; exact ⟨b, u, e, cell_below hG hc, owns_up ho hG⟩
     | 11 => exact OwnT.up hR hG
     | 12 => exact hR
     | _ + 13 => trivial
    ·intro j v w1 w2 _ _ hG hR
     rw [hG]; exact hR
    ·refine ⟨?_, ?_, ?_, ?_, ?_, ?_, ?_, ?_, ?_, ?_, ?_, ?_, ?_, ?_, trivial⟩
     ·refine Reg5.Obl.early rfl rfl ?_
      rintro a w1 HC hx hd K hK
      replace HC := Lib.hid HC
      have t3 : a.tmps[3]?.getD undef = .pointer (some ⟨X, 0, none⟩) := Reg.slot_val (hx 3 (by kernel_rfl))
      go_simp
      exact hK _ _ rfl HC.out (Below.refl _ _)
     ·refine Reg5.Obl.early rfl rfl ?_
      rintro a w1 HC hx hd K hK
      replace HC := Lib.hid HC
      have t22 : a.tmps[22]?.getD undef = .pointer (some ⟨X, 1, none⟩) := Reg.slot_val (hd 0 (by kernel_rfl) 22 rfl)
      have y1 := (HD.out.up HC.out).cell1
      go_simp
      exact hK _ _ rfl HC.out (Below.refl _ _)
     ·refine Reg5.Obl.early rfl rfl ?_
      rintro a w1 HC hx hd K hK
      replace HC := Lib.hid HC
      have t0 : a.tmps[0]?.getD undef = .pointer (some ⟨pb, 0, none⟩) := Reg.slot_val (hx 0 (by kernel_rfl))
      go_simp
      exact hK _ _ rfl HC.out (Below.refl _ _)
     ·refine Reg5.Obl.early rfl rfl ?_
      rintro a w1 HC hx hd K hK
      replace HC := Lib.hid HC
      have t24 : a.tmps[24]?.getD undef = .pointer (some ⟨pb, 0, none⟩) := Reg.slot_val (hd 2 (by kernel_rfl) 24 rfl)
      go_simp
      exact hK _ _ rfl HC.out (Below.refl _ _)
     ·refine Reg5.Obl.early rfl rfl ?_
      rintro a w1 HC hx hd K hK
      replace HC := Lib.hid HC
      have t25 : a.tmps[25]?.getD undef = .pointer (some ⟨pb, 0, none⟩) := Reg.slot_val (hd 3 (by kernel_rfl) 25 rfl)
      go_simp
      exact hK _ _ rfl HC.out (Below.refl _ _)
     ·refine Reg5.Obl.early rfl rfl ?_
      rintro a w1 HC hx hd K hK
      replace HC := Lib.hid HC
      have t26 : a.tmps[26]?.getD undef = .pointer (some ⟨pb, 1, none⟩) := Reg.slot_val (hd 4 (by kernel_rfl) 26 rfl)
      have y1 := cell_below HC.out kb1
      go_simp
      exact hK _ _ rfl HC.out (Below.refl _ _)
     ·refine Reg5.Obl.early rfl rfl ?_
      rintro a w1 HC hx hd K hK
      replace HC := Lib.hid HC
      have t4 : a.tmps[4]?.getD undef = .int .i64 (k : Int) := Reg.slot_val (hx 4 (by kernel_rfl))
      go_simp
      exact hK _ _ rfl HC.out (Below.refl _ _)
     ·refine Reg5.Obl.early rfl rfl ?_
      rintro a w1 HC hx hd K hK
      replace HC := Lib.hid HC
      have t27 : a.tmps[27]?.getD undef = .slice (some ⟨bt, ot, none⟩) tl tc := Reg.slot_val (hd 5 (by kernel_rfl) 27 rfl)
      have t28 : a.tmps[28]?.getD undef = .int .i64 (k : Int) := Reg.slot_val (hd 6 (by kernel_rfl) 28 rfl)
      go_simp
      exact hK _ _ rfl HC.out (Below.refl _ _)
     ·refine Reg5.Obl.early rfl rfl ?_
      rintro a w1 HC hx hd K hK
      replace HC := Lib.hid HC
      have t29 : a.tmps[29]?.getD undef = .pointer (some ⟨bt, ot + k, none⟩) := Reg.slot_val (hd 7 (by kernel_rfl) 29 rfl)
      have y1 := cell_below HC.out CR.out
      go_simp
      exact hK _ _ rfl HC.out (Below.refl _ _)
     ·refine Reg5.Obl.early rfl rfl ?_
      rintro a w1 HC hx hd K hK
      replace HC := Lib.hid HC
      have t30 : a.tmps[30]?.getD undef = .slice r1 n1 q1 := Reg.slot_val (hd 8 (by kernel_rfl) 30 rfl)
      go_simp
      refine (l00Own r1 n1 q1 (ts.getD k []) w1 (IR.out.below HC.out) (by omega)).mono ?_
      rintro e w2 ⟨⟨v, rfl, ho⟩, hB2⟩
      exact hK _ _ (owns_low ho (HD.out.up HC.out).1.size) (HC.out.trans (hB2.mono HC.out.size)) hB2
     ·refine Reg5.Obl.early rfl rfl ?_
      rintro a w1 HC hx hd K hK
      replace HC := Lib.hid HC
      have g := hd 9 (by kernel_rfl) 31 rfl
      obtain ⟨u, hu⟩ : ∃ u, u = a.eval (.tmp 31) := ⟨_, rfl⟩
      have t31 : a.tmps[31]?.getD undef = u := Reg.slot_val hu.symm
      have g' : w1.ownsRow w.heap.size 2 1 u n1 (ints (ts.getD k [])) := by rw [hu]; exact g
      have G := Lib.hid g'
      obtain ⟨ru, cu, rfl⟩ := owns_slice g'
      have e0 : (w1.alloc (.cells #[.slice ru n1 cu] 33)).cell? ⟨w1.heap.size, 0, none⟩ = some (.slice ru n1 cu) := by simp
      have E0 := Lib.hid e0
      clear g hu e0
      go_simp
      exact hK _ _ ⟨w1.heap.size, _, rfl, E0.out, G.out.alloc _⟩ (HC.out.alloc HC.out.size _) ((Below.refl _ _).alloc (Nat.le_refl _) _)
     ·refine Reg5.Obl.mid rfl rfl ?_
      rintro a w1 hC hx hd K hK
      have t23 : a.eval (.tmp 23) = vt := hd 1 (by kernel_rfl) 23 rfl
      obtain ⟨b, u, t32, hc, hu⟩ := hd 10 (by kernel_rfl) 32 rfl
      have hD1 := HD.out.up hC
      obtain ⟨rows, hr, hrs⟩ := HTK.out.up hC
      refine wp_append_own w1 _ _ 23 rfl w.heap.size 33 j0 (.slice none 0 0) 1 24 Tryz.underlying23 hj hy0 hy1 hy2 rfl (by decide) vt k rows t23 hr ⟨b, 0, none⟩ 1 1 [u] t32 rfl (fun j u' hj => ?_) (fun u' hu' => ?_) (by unfold maxLen; omega) (by omega) hD1.1.size ?_
      ·match j, hj with
       | 0, hj => simp at hj; subst hj; rw [addr_add']; exact hc
      ·simp at hu'; subst hu'; exact owns_one hu
      ·intro v' w2 ho hg _
       exact hK _ _ (OwnT.snoc hr hrs (by rw [hn1]; exact hu) hg ho) (hD1.grow hr (Nat.le_refl _) hg)
     ·refine Reg5.Obl.late rfl ?_
      rintro a w1 hD1 hx hd K hK
      have HC := Lib.hid hD1; clear hD1
      have t3 : a.tmps[3]?.getD undef = .pointer (some ⟨X, 0, none⟩) := Reg.slot_val (hx 3 (by kernel_rfl))
      go_simp
      exact hK _ _ (fun _ => rfl) (fun h => by cases h) (fun _ => HC.out) (fun _ => rfl)
     ·refine Reg5.Obl.late rfl ?_
      rintro a w1 hD1 hx hd K hK
      have HC := Lib.hid hD1
      have y1 := hD1.cell1
      have f1 := hD1.2.1.frozenAt 1
      clear hD1
      have t34 : a.tmps[34]?.getD undef = .pointer (some ⟨X, 1, none⟩) := Reg.slot_val (hd 12 (by kernel_rfl) (by omega) 34 rfl)
      have g := hd 11 (by kernel_rfl) (by omega) 33 rfl
      obtain ⟨u, hu⟩ : ∃ u, u = a.eval (.tmp 33) := ⟨_, rfl⟩
      have t33 : a.tmps[33]?.getD undef = u := Reg.slot_val hu.symm
      have g' : OwnT w.heap.size w1 u (k + 1) ts := by rw [hu]; exact g
      have G := Lib.hid g'
      obtain ⟨ru, cu, rfl⟩ := OwnT.slice g'
      clear g hu g'
      go_simp
      exact hK undef _ (fun h => absurd rfl h) (fun _ => ⟨_, HC.out.set1 HXZ.out _, mapSet G.out HC.out.2.1 _⟩) (fun h => absurd rfl h) (fun h => absurd rfl h)
    ·rintro f wz _ hT
     obtain ⟨vt', hD', hT'⟩ := hT 13 (by kernel_rfl) (by decide)
     have HD' := Lib.hid hD'
     have HT' := Lib.hid hT'
     clear hD' hT' hT
     simp only [Reg.mixL]
     go_wp2
     go_roundw
     case rel => exact ⟨k + 1, by omega, by go_num, vt', HD'.out, HT'.out⟩
     case measure => simp [intOf]; omega
   ·obtain rfl : k = tl := by omega
    have l0 := hD.cell0
    have l1 := hD.cell1
    have z0 : wr.cell? ⟨w.heap.size, 0, none⟩ = some (.slice none 0 0) := by rw [hD.2.2.1.cellAt 0 (by decide)]; rfl
    have z1 : wr.cell? ⟨w.heap.size, 1, none⟩ = some (.slice none 0 0) := by rw [hD.2.2.1.cellAt 1 (by decide)]; rfl
    have f0 := hD.2.2.1.frozenAt 0
    have f1 := hD.2.2.1.frozenAt 1
    obtain ⟨ru, cu, rfl⟩ := OwnT.slice hTk
    have HD := Lib.hid hD
    have HTK := Lib.hid hTk
    clear hA hD hTk
    go_wp2
    have x0 : ∀ u, (wr.setCell ⟨w.heap.size, 0, none⟩ u).cell? ⟨w.heap.size, 1, none⟩ = some (.slice none 0 0) := fun u => by rw [World.cell?_setCell_other _ _ _ _ (by simp)]; exact z1
    have r1 : ∀ u v, ((wr.setCell ⟨w.heap.size, 0, none⟩ u).setCell ⟨w.heap.size, 1, none⟩ v).cell? ⟨w.heap.size, 1, none⟩ = some v := fun u v => World.cell?_setCell_same _ _ _ (x0 u)
    have r0 : ∀ u v, ((wr.setCell ⟨w.heap.size, 0, none⟩ u).setCell ⟨w.heap.size, 1, none⟩ v).cell? ⟨w.heap.size, 0, none⟩ = some u := fun u v => by rw [World.cell?_setCell_other _ _ _ _ (by simp)]; exact World.cell?_setCell_same _ _ _ z0
    have hZ := HD.out.2.2.1.stored 0 (.slice qa pl qc)
    have hZ2 := hZ.1.stored 1 (.slice ru k cu)
    refine bodyPost_ret (v := .agg #[.slice qa pl qc, .slice ru k cu]) (by simp [results, Tryz.results158, go_sem, r0, r1]) rfl ⟨⟨_, _, xs, rfl, ?_, X4.out, ?_⟩, ?_⟩
    ·exact owns_side (owns_side HD.out.2.2.2 HD.out.2.2.1 (by decide) hZ.2) hZ.1 (by decide) hZ2.2
    ·exact (HTK.out.side HD.out.2.2.1 hZ.2 (by decide) (by decide)).side hZ.1 hZ2.2 (by decide) (by decide)
    ·exact (HD.out.1.setCell (Nat.le_refl _) _).setCell (Nat.le_refl _) _
end Go.Proofs.YtabccmobmppdnaaGreat
namespace Go.Proofs.YtabccmobmppdnaaGreat
open Go Fk Go.RowKit
set_option linter.unusedVariables false
set_option maxRecDepth 8000
end Go.Proofs.YtabccmobmppdnaaGreat
namespace Go.Proofs.YtabccmobmppdnaaGreat
open Go Fk Go.RowKit
set_option linter.unusedVariables false
set_option maxRecDepth 8000
end Go.Proofs.YtabccmobmppdnaaGreat
namespace Go.Proofs.YtabccmobmppdnaaGreat
open Go Fk Go.RowKit
set_option linter.unusedVariables false
set_option maxRecDepth 8000
def LV (lo hi : Nat) (a : Option Addr) : Prop := ∀ x, a = some x → ∃ g, x = ⟨g, 0, none⟩ ∧ lo ≤ g ∧ g < hi
def LT (lo hi : Nat) (w : World) (a : Option Addr) (n : Nat) : Prop := ∀ x, a = some x → ∃ g, x = ⟨g, 0, none⟩ ∧ lo ≤ g ∧ g < hi ∧ ∀ i, i < n → ∃ b m c, w.cell? ⟨g, i, none⟩ = some (.slice b m c) ∧ ∀ y, b = some y → ∃ h o, y = ⟨h, o, none⟩ ∧ lo ≤ h ∧ h < hi
theorem LT.below {lo hi n : Nat} {w w' : World} {a : Option Addr} (h : LT lo hi w a n) (hB : Below w.heap.size w w') : LT lo hi w' a n := fun x hx => by
 obtain ⟨g, e, h1, h2, h3⟩ := h x hx
 refine ⟨g, e, h1, h2, fun i hlt => ?_⟩
 obtain ⟨b, m, c, hc, hb⟩ := h3 i hlt
 exact ⟨b, m, c, cell_below hB hc, hb⟩
theorem LV.wide {lo hi lo' hi' : Nat} {a : Option Addr} (h : LV lo hi a) (h1 : lo' ≤ lo) (h2 : hi ≤ hi') : LV lo' hi' a := fun x hx => by
 obtain ⟨g, e, k1, k2⟩ := h x hx
 exact ⟨g, e, by omega, by omega⟩
theorem LT.wide {lo hi lo' hi' n : Nat} {w : World} {a : Option Addr} (h : LT lo hi w a n) (h1 : lo' ≤ lo) (h2 : hi ≤ hi') : LT lo' hi' w a n := fun x hx => by
 obtain ⟨g, e, k1, k2, k3⟩ := h x hx
 refine ⟨g, e, by omega, by omega, fun i hlt => ?_⟩
 obtain ⟨b, m, c, hc, hb⟩ := k3 i hlt
 refine ⟨b, m, c, hc, fun y hy => ?_⟩
 obtain ⟨q, o, e, u1, u2⟩ := hb y hy
 exact ⟨q, o, e, by omega, by omega⟩
theorem cell0_of {w : World} {b Z : Nat} {e : TypeId} {x y : Value} (h : w.ownsRow b e 2 (.slice (some ⟨Z, 0, none⟩) 1 1) 1 [x, y]) : w.cell? ⟨Z, 0, none⟩ = some x := by rw [h.cellAt 0 (by decide)]; rfl
theorem cell1_of {w : World} {b Z : Nat} {e : TypeId} {x y : Value} (h : w.ownsRow b e 2 (.slice (some ⟨Z, 0, none⟩) 1 1) 1 [x, y]) : w.cell? ⟨Z, 1, none⟩ = some y := by rw [h.cellAt 1 (by decide)]; rfl
theorem lv_of_owns {w : World} {base n : Nat} {e : TypeId} {s c : Nat} {a : Option Addr} {xs : List Value} (h : w.ownsRow base e s (.slice a n c) n xs) : LV base w.heap.size a := fun x hx => by
 subst hx
 rcases h.2 with ⟨e, _⟩ | ⟨g, c, cur, e, hb, hh, _⟩
 ·cases e
 ·have := h.lt g (by rw [e]; rfl)
  cases e
  exact ⟨g, rfl, this⟩
theorem lt_of_owns {w : World} {base n : Nat} {c : Nat} {a : Option Addr} {ts : List (List Int)} (h : OwnT base w (.slice a n c) n ts) : LT base w.heap.size w a n := fun x hx => by
 obtain ⟨rows, h1, h2⟩ := h
 obtain ⟨g, e, u1, u2⟩ := lv_of_owns h1 x hx
 subst hx
 subst e
 refine ⟨g, rfl, u1, u2, fun i hlt => ?_⟩
 obtain ⟨u, e1, e2⟩ := h2 i hlt
 obtain ⟨b, c', rfl⟩ := owns_slice e2
 refine ⟨b, _, c', by rw [h1.cellAt i (by omega)]; exact e1, fun y hy => ?_⟩
 obtain ⟨q, e, v1, v2⟩ := lv_of_owns e2 y hy
 exact ⟨q, 0, e, v1, v2⟩
def PVf (n : Nat) (xs : List Value) (F : Nat → C3) : Prop := ∀ j, j < n → ∃ p q r, xs[j * 3]? = some (.float .f32 p) ∧ xs[j * 3 + 1]? = some (.float .f32 q) ∧ xs[j * 3 + 2]? = some (.float .f32 r) ∧ FV .f32 p (F j).1 ∧ FV .f32 q (F j).2.1 ∧ FV .f32 r (F j).2.2
theorem vs_owned {w : World} {base n c : Nat} {a : Option Addr} {xs : List Value} {cs : List C3} (h : w.ownsRow base 42 3 (.slice a n c) n xs) (hn : cs.length = n) (hp : PV n xs cs) : IsVs w a n c cs := by
 obtain ⟨a', c', e, hI⟩ := vs_of_owns h hn hp
 cases e
 exact hI
theorem ts_wf {w : World} {a : Option Addr} {n c : Nat} {ts : List (List Int)} (h : IsTs w a n c ts) : ∀ j, j < n → ∀ z ∈ ts.getD j [], (Lit.int .i64 z).wf = true := fun j hj => by
 obtain ⟨h1, h2, h3, h4, h5⟩ := h
 cases a with
 | none => have := (h4 rfl).1; omega
 | some x =>
  obtain ⟨b, m, c', hc, hI⟩ := h5 x rfl j hj
  exact hI.2.2.2.1
def scaleC' (c : C3) (q : Option Nat) : C3 := (fop .mul .f32 c.1 q, fop .mul .f32 c.2.1 q, fop .mul .f32 c.2.2 q)
theorem tri_partsh {n : Nat} {t : List Int} (h : triB n t = true) : t.length = 3 ∧ (∀ i, i < 3 → 0 ≤ t.getD i 0 ∧ (t.getD i 0).toNat < n) := by
 unfold triB at h
 simp only [Bool.and_eq_true, decide_eq_true_eq] at h
 obtain ⟨⟨h3, ⟨h0, h1⟩, h2⟩, _⟩ := h
 refine ⟨h3, fun i hi => ?_⟩
 have a0 := of_decide_eq_true h0
 have a1 := of_decide_eq_true h1
 have a2 := of_decide_eq_true h2
 have : i = 0 ∨ i = 1 ∨ i = 2 := by omega
 rcases this with rfl | rfl | rfl <;> omega
theorem valid_rowh {cs : List C3} {ts : List (List Int)} {k : Nat} (h : validB cs ts = true) (hk : k < ts.length) : triB cs.length (ts.getD k []) = true := by
 unfold validB at h
 simp only [Bool.and_eq_true] at h
 have := List.all_eq_true.1 h.2 (ts[k]) (List.getElem_mem hk)
 simpa [List.getD, hk] using this
theorem rows3h {cs : List C3} {ts : List (List Int)} (h : validB cs ts = true) : ∀ k, k < ts.length → (ts.getD k []).length = 3 := fun k hk => (tri_partsh (valid_rowh h hk)).1
theorem valid_pl {cs : List C3} {ts : List (List Int)} (h : validB cs ts = true) : cs.length ≤ 64 ∧ ts.length ≤ 128 := by
 unfold validB at h; simp at h; exact h.1
end Go.Proofs.YtabccmobmppdnaaGreat
namespace Go.Proofs.YtabccmobmppdnaaGreat
open Go Fk Go.RowKit
set_option linter.unusedVariables false
set_option maxRecDepth 8000
def setL (w : World) (g : Nat) : Nat → List Value → World
 | _, [] => w
 | o, v :: vs => setL (w.setCell ⟨g, o, none⟩ v) g (o + 1) vs
theorem setL_size (g : Nat) : ∀ (vs : List Value) (w : World) (o : Nat), (setL w g o vs).heap.size = w.heap.size
 | [], w, o => rfl
 | v :: vs, w, o => by rw [setL, setL_size g vs]; simp
theorem setL_frozen (g : Nat) (a : Addr) : ∀ (vs : List Value) (w : World) (o : Nat), (setL w g o vs).frozen? a = w.frozen? a
 | [], w, o => rfl
 | v :: vs, w, o => by rw [setL, setL_frozen g a vs]; simp
theorem setL_out (g m : Nat) : ∀ (vs : List Value) (w : World) (o : Nat), (m < o ∨ o + vs.length ≤ m) → (setL w g o vs).cell? ⟨g, m, none⟩ = w.cell? ⟨g, m, none⟩
 | [], w, o, h => rfl
 | v :: vs, w, o, h => by
  simp only [List.length_cons] at h
  rw [setL, setL_out g m vs _ _ (by omega), World.cell?_setCell_other _ _ _ _ (by simp <;> omega)]
theorem setL_far (g b i : Nat) (hne : g ≠ b) : ∀ (vs : List Value) (w : World) (o : Nat), (setL w g o vs).cell? ⟨b, i, none⟩ = w.cell? ⟨b, i, none⟩
 | [], w, o => rfl
 | v :: vs, w, o => by rw [setL, setL_far g b i hne vs, World.cell?_setCell_far (h := hne)]
theorem setL_in (g : Nat) : ∀ (vs : List Value) (w : World) (o : Nat), (∀ j, j < vs.length → ∃ u, w.cell? ⟨g, o + j, none⟩ = some u) → ∀ j, j < vs.length → (setL w g o vs).cell? ⟨g, o + j, none⟩ = vs[j]?
 | [], w, o, h, j, hj => by simp at hj
 | v :: vs, w, o, h, 0, hj => by
  rw [setL, setL_out g _ vs _ _ (by omega)]
  obtain ⟨u, hu⟩ := h 0 (by simp)
  simpa using World.cell?_setCell_same w ⟨g, o + 0, none⟩ v hu
 | v :: vs, w, o, h, j + 1, hj => by
  rw [setL, show o + (j + 1) = o + 1 + j by omega]
  rw [setL_in g vs _ (o + 1) (fun i hi => by
   obtain ⟨u, hu⟩ := h (i + 1) (by simp; omega)
   exact ⟨u, by rw [World.cell?_setCell_other _ _ _ _ (by simp <;> omega), show o + 1 + i = o + (i + 1) by omega]; exact hu⟩) j (by simpa using hj)]
  simp
theorem setL_below {B : Nat} {W : World} (g : Nat) (hB : B ≤ g) : ∀ (vs : List Value) (w : World) (o : Nat), Below B W w → Below B W (setL w g o vs)
 | [], w, o, h => h
 | v :: vs, w, o, h => setL_below g hB vs _ _ (h.setCell (p := ⟨g, o, none⟩) hB v)
end Go.Proofs.YtabccmobmppdnaaGreat
namespace Go.Proofs.YtabccmobmppdnaaGreat
open Go Fk Go.RowKit
set_option linter.unusedVariables false
set_option maxRecDepth 8000
structure Agree (S : Nat → Prop) (W w : World) : Prop where
 cell : ∀ b i v, S b → W.cell? ⟨b, i, none⟩ = some v → w.cell? ⟨b, i, none⟩ = some v
 frozen : ∀ b i, S b → b < W.heap.size → w.frozen? ⟨b, i, none⟩ = W.frozen? ⟨b, i, none⟩
 size : W.heap.size ≤ w.heap.size
theorem Agree.refl (S : Nat → Prop) (w : World) : Agree S w w := ⟨fun _ _ _ _ h => h, fun _ _ _ _ => rfl, Nat.le_refl _⟩
theorem Agree.trans {S : Nat → Prop} {a b c : World} (h : Agree S a b) (k : Agree S b c) : Agree S a c :=
 ⟨fun x i v hs hv => k.cell x i v hs (h.cell x i v hs hv), fun x i hs hx => (k.frozen x i hs (Nat.lt_of_lt_of_le hx h.size)).trans (h.frozen x i hs hx), Nat.le_trans h.size k.size⟩
theorem Agree.of_below {S : Nat → Prop} {W w : World} (h : Below W.heap.size W w) : Agree S W w :=
 ⟨fun b i v _ hv => cell_below h hv, fun b i _ hb => h.frozen (p := ⟨b, i, none⟩) hb, h.size⟩
theorem Agree.set {S : Nat → Prop} {W w : World} {b i : Nat} {u : Value} (h : Agree S W w) (hb : ¬ S b) : Agree S W (w.setCell ⟨b, i, none⟩ u) :=
 ⟨fun x j v hs hv => by
  have hne : b ≠ x := fun e => hb (e ▸ hs)
  rw [World.cell?_setCell_other _ _ _ _ (by simp [hne])]
  exact h.cell x j v hs hv, fun x j hs hx => by simp; exact h.frozen x j hs hx, by simpa using h.size⟩
theorem Agree.setL {S : Nat → Prop} {W : World} {g : Nat} (hg : ¬ S g) : ∀ (vs : List Value) (w : World) (o : Nat), Agree S W w → Agree S W (setL w g o vs)
 | [], w, o, h => h
 | v :: vs, w, o, h => Agree.setL hg vs _ _ (h.set hg)
theorem vs_agree {S : Nat → Prop} {W w : World} {lo hi : Nat} {a : Option Addr} {n c : Nat} {cs : List C3} (h : IsVs W a n c cs) (hl : LV lo hi a) (hS : ∀ b, lo ≤ b → b < hi → S b) (hA : Agree S W w) : IsVs w a n c cs := by
 obtain ⟨h1, h2, h3, h4, h5⟩ := h
 refine ⟨h1, h2, h3, h4, fun x hx i hlt => ?_⟩
 obtain ⟨p, q, r, k0, k1, k2, hf⟩ := h5 x hx i hlt
 obtain ⟨b, rfl, l1, l2⟩ := hl x hx
 have hs := hS b l1 l2
 rw [addr_add'] at k0 k1 k2
 exact ⟨p, q, r, by rw [addr_add']; exact hA.cell _ _ _ hs k0, by rw [addr_add']; exact hA.cell _ _ _ hs k1, by rw [addr_add']; exact hA.cell _ _ _ hs k2, hf⟩
theorem fs_agree {S : Nat → Prop} {W w : World} {lo hi : Nat} {a : Option Addr} {n c : Nat} {zs : List Nat} (h : IsFs .f32 W a n c zs) (hl : LV lo hi a) (hS : ∀ b, lo ≤ b → b < hi → S b) (hA : Agree S W w) : IsFs .f32 w a n c zs := by
 obtain ⟨h1, h2, h3, h4, h5, h6⟩ := h
 refine ⟨h1, h2, h3, h4, h5, fun x hx i hlt => ?_⟩
 have k0 := h6 x hx i hlt
 obtain ⟨b, rfl, l1, l2⟩ := hl x hx
 rw [addr_add'] at k0 ⊢
 exact hA.cell _ _ _ (hS b l1 l2) k0
theorem ss_agree {S : Nat → Prop} {W w : World} {lo hi : Nat} {a : Option Addr} {n c : Nat} {ss : List SC} (h : IsSs W a n c ss) (hl : LV lo hi a) (hS : ∀ b, lo ≤ b → b < hi → S b) (hA : Agree S W w) : IsSs w a n c ss := by
 obtain ⟨h1, h2, h3, h4, h5, h6⟩ := h
 refine ⟨h1, h2, h3, h4, h5, fun x hx i hlt => ?_⟩
 obtain ⟨p, q, k0, k1, k2, k3, hf⟩ := h6 x hx i hlt
 obtain ⟨b, rfl, l1, l2⟩ := hl x hx
 have hs := hS b l1 l2
 rw [addr_add'] at k0 k1 k2 k3
 exact ⟨p, q, by rw [addr_add']; exact hA.cell _ _ _ hs k0, by rw [addr_add']; exact hA.cell _ _ _ hs k1, by rw [addr_add']; exact hA.cell _ _ _ hs k2, by rw [addr_add']; exact hA.cell _ _ _ hs k3, hf⟩
theorem lt_agree {S : Nat → Prop} {W w : World} {lo hi n : Nat} {a : Option Addr} (hl : LT lo hi W a n) (hS : ∀ b, lo ≤ b → b < hi → S b) (hA : Agree S W w) : LT lo hi w a n := fun x hx => by
 obtain ⟨g, e, h1, h2, h3⟩ := hl x hx
 refine ⟨g, e, h1, h2, fun i hlt => ?_⟩
 obtain ⟨b, m, c, hc, hb⟩ := h3 i hlt
 exact ⟨b, m, c, hA.cell _ _ _ (hS g h1 h2) hc, hb⟩
theorem ts_agree {S : Nat → Prop} {W w : World} {lo hi : Nat} {a : Option Addr} {n c : Nat} {ts : List (List Int)} (h : IsTs W a n c ts) (hl : LT lo hi W a n) (hS : ∀ b, lo ≤ b → b < hi → S b) (hA : Agree S W w) : IsTs w a n c ts := by
 obtain ⟨h1, h2, h3, h4, h5⟩ := h
 refine ⟨h1, h2, h3, h4, fun x hx i hlt => ?_⟩
 obtain ⟨g, e, l1, l2, u3⟩ := hl x hx
 obtain ⟨b, m, q, hc, hI⟩ := h5 x hx i hlt
 subst e
 rw [addr_add', Nat.zero_add] at hc
 obtain ⟨b', m', q', hc', hb'⟩ := u3 i hlt
 rw [hc] at hc'
 cases hc'
 refine ⟨b, m, q, by rw [addr_add', Nat.zero_add]; exact hA.cell _ _ _ (hS g l1 l2) hc, ?_⟩
 obtain ⟨i1, i2, i3, i4, i5, i6⟩ := hI
 refine ⟨i1, i2, i3, i4, i5, fun z hz j hj => ?_⟩
 have := i6 z hz j hj
 obtain ⟨h', o, e', w1, w2⟩ := hb' z hz
 subst e'
 rw [addr_add'] at this ⊢
 exact hA.cell _ _ _ (hS h' w1 w2) this
def LB (lo hi : Nat) (w : World) (B : Bd) : Prop := LV lo hi B.pa ∧ LT lo hi w B.ta B.tl ∧ LV lo hi B.sa ∧ LV lo hi B.wa
theorem LB.wide {lo hi lo' hi' : Nat} {w : World} {B : Bd} (h : LB lo hi w B) (h1 : lo' ≤ lo) (h2 : hi ≤ hi') : LB lo' hi' w B :=
 ⟨h.1.wide h1 h2, h.2.1.wide h1 h2, h.2.2.1.wide h1 h2, h.2.2.2.wide h1 h2⟩
theorem at_setL {w : World} {b o : Nat} {l vs : List Value} (h : At w b l) (hl : o + vs.length ≤ l.length) : At (setL w b o vs) b (l.take o ++ vs ++ l.drop (o + vs.length)) := by
 intro i v hi
 have hin := setL_in b vs w o (fun j hj => by
  have : o + j < l.length := by omega
  exact ⟨l[o + j], h (o + j) _ (by simp [this])⟩)
 by_cases h1 : i < o
 ·rw [setL_out b i vs w o (.inl h1)]
  refine h i v ?_
  rw [List.append_assoc, List.getElem?_append_left (by simp; omega)] at hi
  simpa [h1] using hi
 ·by_cases h2 : i < o + vs.length
  ·have := hin (i - o) (by omega)
   rw [show o + (i - o) = i by omega] at this
   rw [this]
   rw [List.append_assoc, List.getElem?_append_right (by simp; omega), List.getElem?_append_left (by simp; omega)] at hi
   rw [← hi]
   congr 1
   simp; omega
  ·rw [setL_out b i vs w o (.inr (by omega))]
   refine h i v ?_
   rw [List.getElem?_append_right (by simp; omega)] at hi
   rw [List.getElem?_drop] at hi
   rw [← hi]
   congr 1
   simp; omega
end Go.Proofs.YtabccmobmppdnaaGreat
namespace Go.Proofs.YtabccmobmppdnaaGreat
open Go Fk Go.RowKit Go.Maps
open Go.ChangeShapes (lits)
set_option linter.unusedVariables false
set_option maxRecDepth 8000
theorem laidOutE : laidOutB Tryz.prog = true := by kernel_rfl
theorem sizeE : ∃ m, Tryz.prog.types.size = m + 1 := ⟨Tryz.prog.types.size - 1, by kernel_rfl⟩
theorem edgeWide : (match Tryz.prog.underlying 234 with | some (.array _ _) | some (.struct _) => true | _ => false) = true := by kernel_rfl
theorem edgeType : Tryz.prog.keyTypeAt 2 234 = true := by kernel_rfl
theorem edgeKey : Tryz.prog.keyType 234 = true := by kernel_rfl
theorem edgeCells : Tryz.prog.cellsOf 234 = 2 := by kernel_rfl
theorem intCellsE : Tryz.prog.cellsOf 2 = 1 := by kernel_rfl
theorem edgeTiled : Tryz.prog.tiled 2 234 = true := tiled_of_laidOut laidOutE 2 _ (by kernel_rfl) edgeType
theorem edgeKeyed : Keyed Tryz.prog 234 := Keyed.of_law (deep_law_laid laidOutE (m := 2) (by omega) (of_decide_eq_true (by kernel_rfl)) edgeType edgeWide)
def kE (s : Int × Int) : Lit := .string (keyBytes [.int .i64 s.1, .int .i64 s.2])
theorem keyOf_edge {a b : Int} (wa : (Lit.int .i64 a).wf = true) (wb : (Lit.int .i64 b).wf = true) : keyOf Tryz.prog 234 (.agg #[.int .i64 a, .int .i64 b]) = some (kE (a, b)) := by
 have us := Tryz.underlying234
 have ui := Tryz.underlying2
 obtain ⟨m, hm⟩ := sizeE
 unfold keyOf
 simp only [us]
 rw [if_pos (by simp [edgeKey, Value.formed, us, edgeCells]), hm]
 unfold Program.keyLits
 simp only [us, Value.cells]
 rw [if_pos (by rw [edgeCells]; exact ⟨rfl, by kernel_rfl⟩)]
 simp [Program.keyLits, ui, intCellsE, wa, wb, kE]
theorem kE_inj {a b c d : Int} (wa : (Lit.int .i64 a).wf = true) (wb : (Lit.int .i64 b).wf = true) (wc : (Lit.int .i64 c).wf = true) (wd : (Lit.int .i64 d).wf = true) (h : kE (a, b) = kE (c, d)) : (a, b) = (c, d) := by
 have h1 := keyOf_edge wa wb
 have h2 := keyOf_edge wc wd
 rw [h] at h1
 have := keyOf_inj_deep edgeTiled edgeWide h1 h2
 simpa using this
theorem kE_key (s : Int × Int) : WideAt.IsKeyLit (kE s) := by
 unfold kE
 exact trivial
theorem keyOf_edge_inv {v : Value} {l : Lit} (h : keyOf Tryz.prog 234 v = some l) : ∃ a b : Int, v = .agg #[.int .i64 a, .int .i64 b] ∧ (Lit.int .i64 a).wf = true ∧ (Lit.int .i64 b).wf = true ∧ l = kE (a, b) := by
 have us := Tryz.underlying234
 have ui := Tryz.underlying2
 obtain ⟨m, hm⟩ := sizeE
 unfold keyOf at h
 simp only [us] at h
 split at h
 ·rename_i hf
  rw [hm] at h
  simp only [Bool.and_eq_true] at hf
  have hform := hf.2
  unfold Program.keyLits at h
  simp only [us] at h
  split at h
  ·rename_i hc
   rw [edgeCells] at hc
   cases v with
   | agg cs =>
    simp only [Value.cells] at h hc
    obtain ⟨l0⟩ := cs
    match l0, hc.1 with
    | [x, y], _ =>
     cases x with
     | int k1 a =>
      by_cases h1 : k1 = IntKind.i64 ∧ (Lit.int .i64 a).wf = true
      ·obtain ⟨rfl, wa⟩ := h1
       cases y with
       | int k2 b =>
        by_cases h2 : k2 = IntKind.i64 ∧ (Lit.int .i64 b).wf = true
        ·obtain ⟨rfl, wb⟩ := h2
         simp [Program.keyLits, ui, intCellsE, wa, wb] at h
         exact ⟨a, b, rfl, wa, wb, by unfold kE; exact h.symm⟩
        ·simp [Program.keyLits, ui, intCellsE, wa, h2] at h
       | _ => simp [Program.keyLits, ui, intCellsE, wa] at h
      ·simp [Program.keyLits, ui, intCellsE, h1] at h
     | _ => simp [Program.keyLits, ui, intCellsE] at h
   | _ => simp [Value.formed, us] at hform
  ·simp at h
 ·cases h
def grp (L : List ((Int × Int) × Int)) (e : Int × Int) : List Int := (L.filter fun p => decide (p.1 = e)).map (·.2)
theorem grp_snoc (L : List ((Int × Int) × Int)) (e e' : Int × Int) (i : Int) : grp (L ++ [(e, i)]) e' = grp L e' ++ (if e = e' then [i] else []) := by
 unfold grp
 rw [List.filter_append, List.map_append]
 by_cases h : e = e' <;> simp [h]
def datG (zs : List Int) : DataW Unit := if zs = [] then .nil else .slice (lits .i64 zs) []
def GroupsOf (D : DataW Unit) (L : List ((Int × Int) × Int)) : Prop := IsMap D ∧ (∀ a b, (Lit.int .i64 a).wf = true → (Lit.int .i64 b).wf = true → D.atKey (kE (a, b)) .nil = datG (grp L (a, b))) ∧ ∀ a b, (Lit.int .i64 a).wf = true → (Lit.int .i64 b).wf = true → has D (kE (a, b)) = true → (a, b) ∈ L.map (·.1)
theorem GroupsOf.nil : GroupsOf (.map []) [] := ⟨isMap_empty, fun a b _ _ => by simp [DataW.atKey, grp, datG], fun a b _ _ h => by simp [has_eq] at h⟩
theorem GroupsOf.put {D : DataW Unit} {L : List ((Int × Int) × Int)} {x y i : Int} (h : GroupsOf D L) (wx : (Lit.int .i64 x).wf = true) (wy : (Lit.int .i64 y).wf = true) : GroupsOf (D.put (kE (x, y)) (.slice (lits .i64 (grp L (x, y) ++ [i])) [])) (L ++ [((x, y), i)]) := by
 refine ⟨h.1.put _ _, fun a b wa wb => ?_, fun a b wa wb hh => ?_⟩
 rotate_left
 ·by_cases e : (x, y) = (a, b)
  ·rw [← e]; simp
  ·rw [has_put_other (fun e' => e (kE_inj wa wb wx wy e').symm)] at hh
   rw [List.map_append]
   exact List.mem_append_left _ (h.2.2 a b wa wb hh)
 rw [grp_snoc]
 by_cases e : (x, y) = (a, b)
 ·rw [← e, atKey_put_same h.1 (kE_key _), if_pos rfl]
  unfold datG
  rw [if_neg (by simp)]
 ·rw [atKey_put_other (fun e' => e (kE_inj wa wb wx wy e').symm), h.2.1 a b wa wb, if_neg e, List.append_nil]
theorem lits_inj {zs ys : List Int} (h : lits (H := Unit) .i64 zs = lits .i64 ys) : zs = ys := by
 unfold lits at h
 exact (List.map_inj_right (fun a b hab => by simpa using hab)).1 h
theorem group_is {W : World} {base : Nat} {v : Value} {zs : List Int} {D : DataW Unit} {L : List ((Int × Int) × Int)} {x y : Int} (hF : GroupsOf D L) (wx : (Lit.int .i64 x).wf = true) (wy : (Lit.int .i64 y).wf = true) (hat : D.atKey (kE (x, y)) .nil = rowDatum .i64 v zs) (ho : W.ownsInts base 2 .i64 v zs) : zs = grp L (x, y) := by
 rw [hF.2.1 x y wx wy] at hat
 unfold datG at hat
 rcases ho.datum (H := Unit) with ⟨h1, h2⟩ | h1
 ·rw [h1] at hat
  split at hat
  ·rename_i h; rw [h2, h]
  ·cases hat
 ·rw [h1] at hat
  split at hat
  ·cases hat
  ·injection hat with h3 h4
   exact (lits_inj h3).symm
theorem GroupsOf.has_of {D : DataW Unit} {L : List ((Int × Int) × Int)} (h : GroupsOf D L) {a b : Int} (wa : (Lit.int .i64 a).wf = true) (wb : (Lit.int .i64 b).wf = true) (hm : (a, b) ∈ L.map (·.1)) : has D (kE (a, b)) = true := by
 cases hh : has D (kE (a, b))
 ·exfalso
  have h1 := h.2.1 a b wa wb
  obtain ⟨es, rfl⟩ := h.1
  have hz : (DataW.map es).atKey (kE (a, b)) .nil = .nil := by
   rw [has_eq] at hh
   simp only [DataW.atKey]
   have : es.find? (fun p => p.1.sameKey (kE (a, b))) = none := by
    rw [List.find?_eq_none]
    intro p hp
    have := List.any_eq_false.1 hh p hp
    simpa using this
   rw [this]
  rw [hz] at h1
  unfold datG at h1
  split at h1
  ·rename_i hg
   obtain ⟨p, hp, e⟩ := List.mem_map.1 hm
   have : p.2 ∈ grp L (a, b) := List.mem_map.2 ⟨p, List.mem_filter.2 ⟨hp, by simp [e]⟩, rfl⟩
   rw [hg] at this
   cases this
  ·cases h1
 ·rfl
end Go.Proofs.YtabccmobmppdnaaGreat
namespace Go.Proofs.YtabccmobmppdnaaGreat
open Go Fk Go.RowKit Go.Maps Go.Sort Go.Shelf
set_option linter.unusedVariables false
set_option maxRecDepth 100000
def wfE (x : Int × Int) : Prop := (Lit.int .i64 x.1).wf = true ∧ (Lit.int .i64 x.2).wf = true
def encE (x : Int × Int) : Value := .agg #[.int .i64 x.1, .int .i64 x.2]
theorem encE_inj {x y : Int × Int} (h : encE x = encE y) : x = y := by
 obtain ⟨a, b⟩ := x
 obtain ⟨c, d⟩ := y
 simpa [encE] using h
theorem kE_inj2 {x y : Int × Int} (wx : wfE x) (wy : wfE y) (h : kE x = kE y) : x = y := kE_inj wx.1 wx.2 wy.1 wy.2 h
theorem kE_self (x : Int × Int) : (kE x).sameKey (kE x) = true := by
 unfold kE
 simp [Lit.sameKey]
theorem kE_other {x y : Int × Int} (h : kE x ≠ kE y) : (kE x).sameKey (kE y) = false := by
 unfold kE at *
 simpa [Lit.sameKey] using h
def CollectedE (D0 : DataW Unit) (left : Lit → Bool) (ss : List (Int × Int)) : Prop := ss.Nodup ∧ ∀ x, x ∈ ss ↔ (wfE x ∧ has D0 (kE x) = true ∧ left (kE x) = false)
theorem CollectedE.start (D0 : DataW Unit) : CollectedE D0 (has D0) [] := ⟨List.nodup_nil, fun x => by cases has D0 (kE x) <;> simp⟩
theorem CollectedE.step {D0 : DataW Unit} {left : Lit → Bool} {ss : List (Int × Int)} (h : CollectedE D0 left ss) {x : Int × Int} (wx : wfE x) {y : DataW Unit} (hlk : left (kE x) = true) (hat : ∀ zd, D0.atKey (kE x) zd = y) : CollectedE D0 (fun z => left z && !z.sameKey (kE x)) (ss ++ [x]) := by
 have hhas : has D0 (kE x) = true := has_true_of_atKey hat
 have hnew : x ∉ ss := fun hx => by have := ((h.2 x).1 hx).2.2; rw [hlk] at this; cases this
 refine ⟨List.nodup_append.2 ⟨h.1, by simp, fun a ha b hb => by simp at hb; subst hb; exact fun e => hnew (e ▸ ha)⟩, fun y => ?_⟩
 by_cases hy : y = x
 ·subst hy; simp [hhas, kE_self, wx]
 ·rw [List.mem_append, h.2 y]
  simp only [List.mem_singleton, hy, or_false]
  refine and_congr_right fun wy => and_congr_right fun _ => ?_
  have : kE y ≠ kE x := fun e => hy (kE_inj2 wy wx e)
  simp [kE_other this]
def KeysE (D0 : DataW Unit) (ss : List (Int × Int)) : Prop := ss.Nodup ∧ ∀ x, x ∈ ss ↔ (wfE x ∧ has D0 (kE x) = true)
theorem CollectedE.done {D0 : DataW Unit} {left : Lit → Bool} {ss : List (Int × Int)} (h : CollectedE D0 left ss) (hl : ∀ kl, left kl = false) : KeysE D0 ss := ⟨h.1, fun x => by rw [h.2 x, hl]; simp⟩
theorem map_of_groups {w : World} {P : Program} {k : TypeId} {base : Nat} {e : TypeId} {q : IntKind} {b n : Nat} {D : DataW Unit} (h : w.ownsGroups P k base e q b n D) : w.ownsMap P k (rowElem (H := Unit) w base e q) b n D := by
 obtain ⟨es, clock, hb, F, hs, hD, _⟩ := h
 exact ⟨es, clock, hb, F, hs, hD⟩
set_option maxHeartbeats 1000000 in
theorem keysE1 (n : Nat) (hn : 1 ≤ n) (l Bm b nn : Nat) (D0 : DataW Unit) {R : Value → Option (DataW Unit × List MemPlace)} (J : List (Int × Int) → World → Prop)
  (hY : ∀ pre x W, J pre W → pre.length < Maps.size D0 → YieldAt Fence.wide (n - 1) Tryz.prog l #[encE x] W fun e W' => e = .returned (.bool true) ∧ J (pre ++ [x]) W' ∧ KeepsWalks W W')
  (W : World) (hJ : AbidesFrom W.heap.size J) (hm : W.cell? ⟨Bm, 0, none⟩ = some (.map (some b))) (hown : W.ownsMap Tryz.prog 234 R b nn D0) (h0 : J [] W) :
  CallsIn Fence.wide n Tryz.prog 208 #[.func (.yield l) #[] #[], .pointer (some ⟨Bm, 0, none⟩)] W fun e W' => (∃ v, e = .returned v) ∧ ∃ ss : List (Int × Int), KeysE D0 ss ∧ J ss W' := by
 have um := Tryz.underlying229
 have ue := Tryz.underlying234
 have hro : Fence.wide.round = none := rfl
 refine callsIn_of_wp Tryz.func208 rfl trivial ?_ rfl
 simp only [Tryz.ntmps208, List.size_toArray, List.length_cons, List.length_nil, Nat.reduceAdd, Nat.reduceSub, Array.replicate_succ, Array.replicate_zero, List.push_toArray, List.append_toArray, List.nil_append, List.cons_append]
 gi_wp2_with (first
  | (gi_at_range; refine wpListIn_range_own _ rfl _ 229 rfl 234 33 edgeKeyed um _ b nn _ rfl hown ?_; intro w0 hrg0 hg0 hs0)
  | gi_in)
 go_frame
 gi_loopw [3] (fun _ wr => ∃ (left : Lit → Bool) (cnt : Nat) (ss : List (Int × Int)), wr.ranges Tryz.prog 234 R b W.heap.size nn D0 left cnt ∧ ss.length + cnt ≤ Maps.size D0 ∧ CollectedE D0 left ss ∧ J ss wr)
  (fun _ wr => wr.rangeLeft b W.heap.size)
 case atStart =>
  exact ⟨_, _, [], hrg0, by simp, CollectedE.start D0, hJ [] W w0 none h0 hg0 (fun r e => by cases e)⟩
 case round =>
  obtain ⟨left, cnt, ss, hrg, hcs, hC, hJs⟩ := hrel
  gi_wp2_with (first
   | (gi_at_next; refine wpListIn_next_ranges _ rfl _ rfl 234 edgeKeyed R encE id (fun key kl hk => by obtain ⟨a, b, hx, _⟩ := keyOf_edge_inv hk; exact ⟨(a, b), hx⟩) (fun v _ _ => ⟨v, rfl⟩) b W.heap.size nn _ _ _ rfl hrg ?_ ?_)
   | gi_in)
  ·intro hc0 hl0
   gi_wp2
   go_end0
   exact ⟨⟨_, rfl⟩, ss, hC.done hl0, hJs⟩
  ·intro x1 x2 c kl yd yp w2 cnt2 hkey hlk hv hat hrg2 hlt hg2 hs2 hen
   obtain ⟨a, b', ex, wa, wb, rfl⟩ := keyOf_edge_inv hkey
   obtain ⟨rfl, rfl⟩ := Prod.mk.inj (encE_inj (x := (x1, x2)) (y := (a, b')) ex)
   have hJ2 : J ss w2 := hJ ss wr w2 (some W.heap.size) hJs hg2 (fun r e => by cases e; exact ⟨Nat.le_refl _, hrg.iter_walk⟩)
   have hJ3 : J ss (w2.alloc (.cells #[.int .i64 x1, .int .i64 x2] 234)) := hJ ss w2 _ none hJ2 (World.grownBy_alloc _ _ _) (fun r e => by cases e)
   obtain ⟨fn, tmps, assign, body, hy, hR⟩ := hY ss (x1, x2) _ hJ3 (by omega)
   change (Instr.yield l #[.agg #[.int .i64 x1, .int .i64 x2]]).run Tryz.prog _ = _ at hy
   change (Instr.entry _).run Tryz.prog _ = Result.ok (.tuple #[.agg #[.int .i64 x1, .int .i64 x2], c]) _ at hen
   clear hs2
   gi_wp2
   refine hR.mono ?_
   rintro e W3 ⟨rfl, hJ4, hk3⟩
   gi_wp2
   have hrg3 := hrg2.of_walks ((KeepsWalks.alloc _ _).trans hk3)
   go_roundw
   case rel => exact ⟨_, cnt2, ss ++ [(x1, x2)], hrg3, by simp; omega, hC.step ⟨wa, wb⟩ hlk hat, hJ4⟩
   case measure => rw [hrg3.left_eq, hrg.left_eq]; exact hlt
theorem keysE_gives (n : Nat) (hn : 1 ≤ n) (Bm b nn : Nat) (D0 : DataW Unit) {R : Value → Option (DataW Unit × List MemPlace)} (w : World) (hBm : Bm < w.heap.size)
  (hm : w.cell? ⟨Bm, 0, none⟩ = some (.map (some b))) (hown : w.ownsMap Tryz.prog 234 R b nn D0) :
  SeqGives Fence.wide n Tryz.prog 208 #[.pointer (some ⟨Bm, 0, none⟩)] encE (KeysE D0) (Maps.size D0) w := fun l J W hW hJ hY h0 => by
 have hown' : W.ownsMap Tryz.prog 234 R b nn D0 := by
  have hbl := hown.lt
  obtain ⟨es, clock, hb, Ft, hs, hD⟩ := hown
  exact ⟨es, clock, (hW.block b hbl).trans hb, Ft, hs, hD⟩
 exact keysE1 n hn l Bm b nn D0 J hY W hJ ((hW.cell (p := ⟨Bm, 0, none⟩) hBm).trans hm) hown' h0
theorem maps_KeysE (n : Nat) (mb : Option Nat) (w : World) :
  CallsIn Fence.wide n Tryz.prog 199 #[.map mb] w fun e w' => e = .returned (.func (.func 208) #[] #[.pointer (some ⟨w.heap.size, 0, none⟩)]) ∧ w' = w.alloc (.cells #[.map mb] 229) := by
 have um := Tryz.underlying229
 refine callsIn_of_wp Tryz.func199 rfl trivial ?_ rfl
 simp only [Tryz.ntmps199, List.size_toArray, List.length_cons, List.length_nil, Nat.reduceAdd, Nat.reduceSub, Array.replicate_succ, Array.replicate_zero, List.push_toArray, List.append_toArray, List.nil_append, List.cons_append]
 gi_wp2
 go_ret
 exact ⟨rfl, rfl⟩
end Go.Proofs.YtabccmobmppdnaaGreat
namespace Go.Proofs.YtabccmobmppdnaaGreat
open Go Fk Go.RowKit Go.Maps Go.Sort Go.Shelf
set_option linter.unusedVariables false
set_option maxRecDepth 100000
theorem infoE : (Tryz.prog.info? 234).map (fun i => (i.zero, i.size, i.bytes)) = some (some (.agg #[.int .i64 0, .int .i64 0]), 2, 16) := by kernel_rfl
def flatE (ss : List (Int × Int)) : List Value := ss.flatMap fun x => [.int .i64 x.1, .int .i64 x.2]
theorem flatE_snoc (ss : List (Int × Int)) (x : Int × Int) : flatE (ss ++ [x]) = flatE ss ++ [.int .i64 x.1, .int .i64 x.2] := by simp [flatE]
theorem cell_two_new (w : World) (x y : Value) (t : TypeId) : ∀ j u, [x, y][j]? = some u → (w.alloc (.cells #[x, y] t)).cell? ((⟨w.heap.size, 0, none⟩ : Addr).add j) = some u := by
 intro j u hj
 match j, hj with
 | 0, hj =>
  simp at hj
  subst hj
  simp [Addr.add]
 | 1, hj =>
  simp at hj
  subst hj
  simp [Addr.add]
def apAssign : Code := (Code.region 2 #[{ dst := some 5, op := Op.alloc 234, type := 0, pos := "iter.go:51", after := #[], guard := none }, { dst := none, op := Op.store 234 (Operand.tmp 5) (Operand.tmp 7), type := 0, pos := "iter.go:51", after := #[{ on := 0, ground := Ground.data }, { on := 0, ground := Ground.phase }], guard := none }] false)
def apBody : Code := (Code.block 1 (Code.region 3 #[{ dst := some 8, op := Op.load 231 (Operand.tmp 2), type := 231, pos := "iter.go:52", after := #[], guard := none }, { dst := some 9, op := Op.load 234 (Operand.tmp 5), type := 234, pos := "iter.go:52", after := #[], guard := none }, { dst := some 10, op := Op.buildSlice 231 1 #[(0, Operand.tmp 9)], type := 231, pos := "iter.go:52", after := #[{ on := 1, ground := Ground.data }], guard := none }, { dst := some 11, op := Op.call { callee := Callee.builtin Builtin.append, args := #[Operand.tmp 8, Operand.tmp 10], argTypes := #[231, 231] }, type := 231, pos := "iter.go:52", after := #[{ on := 0, ground := Ground.data }, { on := 2, ground := Ground.data }], guard := none }, { dst := none, op := Op.store 231 (Operand.tmp 2) (Operand.tmp 11), type := 0, pos := "iter.go:52", after := #[{ on := 3, ground := Ground.data }, { on := 3, ground := Ground.chain }, { on := 0, ground := Ground.phase }, { on := 1, ground := Ground.phase }, { on := 2, ground := Ground.phase }, { on := 3, ground := Ground.phase }], guard := none }] false))
def apRec (fn : FuncId) (sv : Value) (Bs D : Nat) (st : LoopState) (pend : Option Code) : Loop :=
 { state := st, pending := pend, fn, tmps := #[.slice none 0 0, sv, .pointer (some ⟨Bs, 0, none⟩), undef, .slice none 0 0, undef, sv, undef, undef, undef, undef, undef, undef], params := #[7], assign := apAssign, body := apBody, defers := D }
structure ApAt (w0 : World) (fn : FuncId) (sv : Value) (Bs l D : Nat) (ss : List (Int × Int)) (W : World) : Prop where
 box : ∃ v, W.heap[Bs]? = some (.cells #[v] 231 (0, 0)) ∧ W.ownsRow w0.heap.size 234 2 v ss.length (flatE ss) ∧ (v = .slice none 0 0 ↔ ss = [])
 L : W.heap[l]? = some (.loop (apRec fn sv Bs D .ready none))
 K : W.heap[D]? = some (.deferred (some []))
 below : Below w0.heap.size w0 W
theorem ap_abides (w0 : World) (fn : FuncId) (sv : Value) (Bs l D B : Nat) (hB : w0.heap.size ≤ B) : AbidesFrom B (ApAt w0 fn sv Bs l D) := fun s W W' row h hg hrow => by
 have hrow' : ∀ r, row = some r → ∃ o : Obj, W.heap[r]? = some o ∧ o.isWalk = true := fun r e => (hrow r e).2
 obtain ⟨v, hv, hr, hn⟩ := h.box
 exact ⟨⟨v, (grownBy_keeps hg hrow' hv rfl).trans hv, ownsRow_abides_a hr hg hrow', hn⟩, (grownBy_keeps hg hrow' h.L rfl).trans h.L, (grownBy_keeps hg hrow' h.K rfl).trans h.K,
  h.below.grown hg h.below.size (fun k e => Nat.le_trans hB (hrow k e).1)⟩
set_option maxRecDepth 100000 in
set_option maxHeartbeats 2000000 in
theorem apYield (m : Nat) (w0 : World) (fn : FuncId) (sv : Value) (Bs l D : Nat) (hBl : Bs ≠ l) (hDl : D ≠ l) (hDB : D ≠ Bs) (h0B : w0.heap.size ≤ Bs) (h0l : w0.heap.size ≤ l)
  (N : Nat) (hN : N ≤ maxLen) (hNb : N * 16 ≤ 140737488355328) (ss : List (Int × Int)) (x : Int × Int) (W : World) (h : ApAt w0 fn sv Bs l D ss W) (hlen : ss.length < N) :
  YieldAt Fence.wide m Tryz.prog l #[encE x] W fun e W' => e = .returned (.bool true) ∧ ApAt w0 fn sv Bs l D (ss ++ [x]) W' ∧ KeepsWalks W W' := by
 have u24 := Tryz.underlying231
 have u26 := Tryz.underlying234
 have u2 := Tryz.underlying2
 have hne : (231 : TypeId) ≠ 234 := by decide
 obtain ⟨i0, hi, hz0, hz1, hz2⟩ := info_parts infoE
 obtain ⟨v, hv, hrow, _⟩ := h.box
 refine ⟨fn, #[.slice none 0 0, sv, .pointer (some ⟨Bs, 0, none⟩), undef, .slice none 0 0, undef, sv, .agg #[.int .i64 x.1, .int .i64 x.2], undef, undef, undef, undef, undef], apAssign, apBody, by simpa [apRec, encE] using run_yield (P := Tryz.prog) (args := #[encE x]) h.L rfl, roundIn_of_wpIn (F := Fence.wide) trivial ?_⟩
 have hl0 : l < W.heap.size := (Array.getElem?_eq_some_iff.1 h.L).1
 have hB0 : Bs < W.heap.size := (Array.getElem?_eq_some_iff.1 hv).1
 have hD0 : D < W.heap.size := (Array.getElem?_eq_some_iff.1 h.K).1
 obtain ⟨W1, hW1⟩ : ∃ W1, W.alloc (.cells #[.int .i64 x.1, .int .i64 x.2] 234) = W1 := ⟨_, rfl⟩
 have hs1 : W1.heap.size = W.heap.size + 1 := by rw [← hW1]; simp
 have hl : l < W1.heap.size := by omega
 have hL1 : W1.heap[l]? = some (.loop (apRec fn sv Bs D .ready none)) := by rw [← hW1]; exact (Below.heap_alloc _ _ l hl0).trans h.L
 have hv1 : W1.heap[Bs]? = some (.cells #[v] 231 (0, 0)) := by rw [← hW1]; exact (Below.heap_alloc _ _ Bs hB0).trans hv
 have hK1 : W1.heap[D]? = some (.deferred (some [])) := by rw [← hW1]; exact (Below.heap_alloc _ _ D hD0).trans h.K
 have hrow1 : W1.ownsRow w0.heap.size 234 2 v ss.length (flatE ss) := by rw [← hW1]; exact hrow.alloc _
 have hb1 : Below w0.heap.size w0 W1 := by rw [← hW1]; exact h.below.alloc h.below.size _
 have hk1 : KeepsWalks W W1 := by rw [← hW1]; exact KeepsWalks.alloc _ _
 have hx1 : W1.heap[W.heap.size]? = some (.cells #[.int .i64 x.1, .int .i64 x.2] 234 (0, 0)) := by rw [← hW1]; exact World.alloc_heap_new _ _
 have hbr := run_beginRound (P := Tryz.prog) hL1 rfl
 obtain ⟨W2, hW2⟩ : ∃ W2, W1.putObj l (.loop { apRec fn sv Bs D .ready none with state := .busy }) = W2 := ⟨_, rfl⟩
 rw [hW2] at hbr
 have hg2 : W1.grownBy W2 (some l) := by rw [← hW2]; exact grownBy_putObj_a _ _ _
 have hk2 : KeepsWalks W W2 := hk1.trans (by rw [← hW2]; exact KeepsWalks.putObj _ hL1 rfl)
 have hx2 : W2.heap[W.heap.size]? = some (.cells #[.int .i64 x.1, .int .i64 x.2] 234 (0, 0)) := by rw [← hW2]; exact (World.putObj_heap_other (by omega)).trans hx1
 have hxa : W2.cell? ⟨W.heap.size, 0, none⟩ = some (.int .i64 x.1) := by simp [World.cell?, hx2]
 have hxb : W2.cell? ⟨W.heap.size, 1, none⟩ = some (.int .i64 x.2) := by simp [World.cell?, hx2]
 have hv2 : W2.heap[Bs]? = some (.cells #[v] 231 (0, 0)) := by rw [← hW2]; exact (World.putObj_heap_other hBl).trans hv1
 have hK2 : W2.heap[D]? = some (.deferred (some [])) := by rw [← hW2]; exact (World.putObj_heap_other hDl).trans hK1
 have hL2 : W2.heap[l]? = some (.loop { apRec fn sv Bs D .ready none with state := .busy }) := by rw [← hW2]; exact World.putObj_heap_same hl
 have hrow2 : W2.ownsRow w0.heap.size 234 2 v ss.length (flatE ss) := hrow1.kept hg2 (ownsRow_ne_a hrow1 hL1 (fun cur e => by first | cases e | exact hne (Obj.cells.inj e).2.1))
 have hb2 : Below w0.heap.size w0 W2 := hb1.grown hg2 hb1.size (fun k e => by cases e; exact h0l)
 obtain ⟨hc2, hf2⟩ := cell_of_box_a hv2
 have hBlt : Bs < W2.heap.size := (Array.getElem?_eq_some_iff.1 hv2).1
 have hl2 : l < W2.heap.size := (Array.getElem?_eq_some_iff.1 hL2).1
 have hDlt : D < W2.heap.size := (Array.getElem?_eq_some_iff.1 hK2).1
 have ne_of : ∀ {j : Nat} {o : Obj}, W2.heap[j]? = some o → (∀ cur, o ≠ .cells cur 234 (0, 0)) → some j ≠ v.ownBlock := fun hj hno => by
  rcases ownsRow_ne_a hrow2 hj hno with e | e
  ·rw [e]; simp
  ·exact fun e' => e e'.symm
 clear hW2
 unfold apAssign
 gi_wp2_with gi_round_op_a
 unfold apBody
 gi_wp2_with (first
  | (gi_at_builtin; refine wpListIn_append_own _ rfl _ _ 231 rfl w0.heap.size 234 i0 (.agg #[.int .i64 0, .int .i64 0]) 2 16 u24 hi hz0 hz1 hz2 rfl (by decide) _ _ _ rfl (hrow2.alloc _) ⟨W2.heap.size, 0, none⟩ 1 1 [.int .i64 x.1, .int .i64 x.2] rfl rfl (cell_two_new _ _ _ _) (by simp [Value.oneCell']) (by omega) (by omega) (by have := hb2.size; simp; omega) ?_; intro v' w3 hown' hg3 hnil3
     have hv3 : w3.heap[Bs]? = some (.cells #[v] 231 (0, 0)) := (hg3.block Bs (by simp; omega) (ne_of hv2 (fun cur e => by first | cases e | exact hne (Obj.cells.inj e).2.1))).trans ((Below.heap_alloc _ _ Bs hBlt).trans hv2)
     obtain ⟨hc3, hf3⟩ := cell_of_box_a hv3
     obtain ⟨g', cap', cur', rfl, hbase', hgb', hr1, hr2, hr3, hr4⟩ : ∃ g' cap' cur', v' = .slice (some ⟨g', 0, none⟩) (ss.length + 1) cap' ∧ w0.heap.size ≤ g' ∧ w3.heap[g']? = some (.cells cur' 234 (0, 0)) ∧ ss.length + 1 ≤ cap' ∧ cap' ≤ maxLen ∧ cur'.size = cap' * 2 ∧ cur'.toList.take ((ss.length + 1) * 2) = flatE ss ++ [.int .i64 x.1, .int .i64 x.2] := by
       rcases hown'.2 with ⟨_, h0⟩ | h'
       · exact absurd h0 (by omega)
       · exact h'
     go_frame)
  | gi_round_op_a)
 have hg3' : (W2.alloc (.cells #[.int .i64 x.1, .int .i64 x.2] 234)).grownBy w3 v.ownBlock := hg3
 have hL3 : w3.heap[l]? = some (.loop { apRec fn sv Bs D .ready none with state := .busy }) := (hg3'.block l (by simp; omega) (ne_of hL2 (fun cur e => by first | cases e | exact hne (Obj.cells.inj e).2.1))).trans ((Below.heap_alloc _ _ l hl2).trans hL2)
 have hK3 : w3.heap[D]? = some (.deferred (some [])) := (hg3'.block D (by simp; omega) (ne_of hK2 (fun cur e => by first | cases e | exact hne (Obj.cells.inj e).2.1))).trans ((Below.heap_alloc _ _ D hDlt).trans hK2)
 obtain ⟨w4, hw4⟩ : ∃ w4, w3.setCell ⟨Bs, 0, none⟩ (.slice (some ⟨g', 0, none⟩) (ss.length + 1) cap') = w4 := ⟨_, rfl⟩
 rw [hw4]
 have hg4 : w3.grownBy w4 (some Bs) := by rw [← hw4]; exact grownBy_setCell0_a _ _ _
 have hv4 : w4.heap[Bs]? = some (.cells #[.slice (some ⟨g', 0, none⟩) (ss.length + 1) cap'] 231 (0, 0)) := by rw [← hw4]; exact heap_setCell_box_a _ hv3
 have hL4 : w4.heap[l]? = some (.loop { apRec fn sv Bs D .ready none with state := .busy }) := (hg4.block l (Array.getElem?_eq_some_iff.1 hL3).1 (fun e => hBl (by cases e; rfl))).trans hL3
 have hK4 : w4.heap[D]? = some (.deferred (some [])) := (hg4.block D (Array.getElem?_eq_some_iff.1 hK3).1 (fun e => hDB (by cases e; rfl))).trans hK3
 have hrow4 := hown'.kept hg4 (ownsRow_ne_a hown' hv3 (fun cur e => by first | cases e | exact hne (Obj.cells.inj e).2.1))
 have hl4 : l < w4.heap.size := (Array.getElem?_eq_some_iff.1 hL4).1
 have hb3 : Below w0.heap.size w0 w3 := (hb2.alloc hb2.size _).grown hg3' (by have := hb2.size; simp; omega) (fun k e => (hrow2.lt k e).1)
 have hb4 : Below w0.heap.size w0 w4 := hb3.grown hg4 hb3.size (fun k e => by cases e; exact h0B)
 have hk4 : KeepsWalks W w4 := ((hk2.trans (KeepsWalks.alloc _ _)).trans (KeepsWalks.of_grownBy hg3' (ownsRow_not_walk_a (hrow2.alloc _)))).trans (by rw [← hw4]; exact KeepsWalks.setCell _ _ _)
 clear hw4
 refine ⟨_, _, run_endRound none hL4, rfl, ⟨⟨_, (World.putObj_heap_other hBl).trans hv4, ?_, by simp⟩, World.putObj_heap_same hl4, (World.putObj_heap_other hDl).trans hK4, hb4.grown (grownBy_putObj_a _ _ _) hb4.size (fun k e => by cases e; exact h0l)⟩, hk4.trans (KeepsWalks.putObj _ hL4 rfl)⟩
 have := hrow4.kept (grownBy_putObj_a w4 l (.loop { { apRec fn sv Bs D .ready none with state := .busy } with state := if (none : Option Code).isNone then .ready else .done, pending := none })) (ownsRow_ne_a hrow4 hL4 (fun cur e => by first | cases e | exact hne (Obj.cells.inj e).2.1))
 rw [flatE_snoc]
 simpa using this
set_option maxRecDepth 100000 in
set_option maxHeartbeats 2000000 in
theorem appendSeq_in (n : Nat) (hn : 2 ≤ n) (g : Nat) (lb : Array Value) (eg : ∀ args w, (callFunc g args).run Tryz.prog w = .ok (.enter g args) w)
  (S : List (Int × Int) → Prop) (N : Nat) (hN : N ≤ maxLen) (hNb : N * 16 ≤ 140737488355328) (w : World) (hseq : SeqGives Fence.wide (n - 1) Tryz.prog g lb encE S N w) :
  CallsIn Fence.wide n Tryz.prog 211 #[.slice none 0 0, .func (.func g) #[] lb] w fun e w' => ∃ (v : Value) (ss : List (Int × Int)), e = .returned v ∧ S ss ∧ w'.ownsRow w.heap.size 234 2 v ss.length (flatE ss) ∧ (v = .slice none 0 0 ↔ ss = []) ∧ Below w.heap.size w w' := by
 have h1 : 1 ≤ n := by omega
 have u24 := Tryz.underlying231
 have u26 := Tryz.underlying234
 have u2 := Tryz.underlying2
 have hne : (231 : TypeId) ≠ 234 := by decide
 have hro : Fence.wide.round = none := rfl
 refine callsIn_of_wp_marks Tryz.func211 rfl trivial ?_ hro
 simp only [Tryz.ntmps211, List.size_toArray, List.length_cons, List.length_nil, Nat.reduceAdd, Nat.reduceSub, Array.replicate_succ, Array.replicate_zero, List.push_toArray, List.append_toArray, List.nil_append, List.cons_append]
 gi_wp2
 refine wpIn_rangeFunc ?_
 intro fn hfn
 rw [hro]
 obtain ⟨W0, hW0⟩ : ∃ W0, w.alloc (.cells #[.slice none 0 0] 231) = W0 := ⟨_, rfl⟩
 have hs0 : W0.heap.size = w.heap.size + 1 := by rw [← hW0]; simp
 have hv0 : W0.heap[w.heap.size]? = some (.cells #[.slice none 0 0] 231 (0, 0)) := by rw [← hW0]; exact World.alloc_heap_new w _
 have hb0 : Below w.heap.size w W0 := by rw [← hW0]; exact (Below.refl _ w).alloc (Nat.le_refl _) _
 rw [hW0]
 obtain ⟨W1, hW1⟩ : ∃ W1, (W0.alloc (.deferred (some []))).alloc (.loop (apRec fn (.func (.func g) #[] lb) w.heap.size W0.heap.size .ready none)) = W1 := ⟨_, rfl⟩
 have hold : ∀ k, k < W0.heap.size → W1.heap[k]? = W0.heap[k]? := fun k hk => by
  rw [← hW1]; exact (Below.heap_alloc _ _ k (by simp; omega)).trans (Below.heap_alloc _ _ k hk)
 have hb1 : Below w.heap.size w W1 := by rw [← hW1]; exact (hb0.alloc hb0.size _).alloc (by have := hb0.size; simp; omega) _
 have hs1 : W1.heap.size = W0.heap.size + 2 := by rw [← hW1]; simp
 have hM : ApAt w fn (.func (.func g) #[] lb) w.heap.size (W0.heap.size + 1) W0.heap.size [] W1 :=
  ⟨⟨_, (hold w.heap.size (by omega)).trans hv0, ⟨rfl, .inl ⟨rfl, rfl⟩⟩, by simp⟩,
   by rw [← hW1]; have := World.alloc_heap_new (W0.alloc (.deferred (some []))) (.loop (apRec fn (.func (.func g) #[] lb) w.heap.size W0.heap.size .ready none)); rwa [World.size_alloc] at this,
   by rw [← hW1]; exact (Below.heap_alloc _ _ _ (by simp)).trans (World.alloc_heap_new W0 _), hb1⟩
 refine ⟨W0.heap.size + 1, [{ target := .collected W0.heap.size, args := #[] }], W1, { target := .fn (.func g) lb, args := #[.func (.yield (W0.heap.size + 1)) #[] #[]] }, W1, g,
  #[.func (.yield (W0.heap.size + 1)) #[] #[]] ++ lb, W1, ?_, ?_, ?_, ?_, fun _ => h1, ?_⟩
 ·rw [← hW1]; exact run_enterLoop_outer _ _ _ _ _
 ·simp [resolve, go_sem]
 ·intro f' hf'; simp [Target.leads] at hf'; subst hf'; trivial
 ·simp [invoke, go_sem, eg]
 ·refine (hseq (W0.heap.size + 1) (ApAt w fn (.func (.func g) #[] lb) w.heap.size (W0.heap.size + 1) W0.heap.size) W1 hb1 (ap_abides _ _ _ _ _ _ _ hb1.size)
   (fun pre x W hJ hl => apYield (n - 1 - 1) w fn _ w.heap.size (W0.heap.size + 1) W0.heap.size (by omega) (by omega) (by omega) (Nat.le_refl _) (by omega) N hN hNb pre x W hJ hl) hM).mono ?_
  rintro e W2 ⟨⟨v0, rfl⟩, ss, hS, h2⟩
  obtain ⟨v, hv, hrow, hnil⟩ := h2.box
  have hend := run_endLoop (P := Tryz.prog) h2.L (by simp [apRec])
  obtain ⟨W3, hW3⟩ : ∃ W3, W2.putObj (W0.heap.size + 1) (.loop { apRec fn (.func (.func g) #[] lb) w.heap.size W0.heap.size .ready none with state := .exhausted }) = W3 := ⟨_, rfl⟩
  rw [hW3] at hend
  have hg3 : W2.grownBy W3 (some (W0.heap.size + 1)) := by rw [← hW3]; exact grownBy_putObj_a _ _ _
  have hv3 : W3.heap[w.heap.size]? = some (.cells #[v] 231 (0, 0)) := by rw [← hW3]; exact (World.putObj_heap_other (by omega)).trans hv
  have hK3 : W3.heap[W0.heap.size]? = some (.deferred (some [])) := by rw [← hW3]; exact (World.putObj_heap_other (by omega)).trans h2.K
  have hrow3 := hrow.kept hg3 (ownsRow_ne_a hrow h2.L (fun cur e => by first | cases e | exact hne (Obj.cells.inj e).2.1))
  have hb3 : Below w.heap.size w W3 := h2.below.grown hg3 h2.below.size (fun k e => by cases e; omega)
  obtain ⟨hc3, hf3⟩ := cell_of_box_a hv3
  clear hW3
  refine ⟨none, W3, hend, ?_⟩
  gi_wp2
  rw [← hs0]
  refine ⟨by simp, .inl ⟨_, _, rfl, run_takeDeferred hK3, ?_⟩⟩
  exact ⟨_, results_tmp rfl _ _ _, v, ss, rfl, hS, hrow3.kept (grownBy_putObj_a _ _ _) (ownsRow_ne_a hrow3 hK3 (fun cur e => by first | cases e | exact hne (Obj.cells.inj e).2.1)), hnil, hb3.grown (grownBy_putObj_a _ _ _) hb3.size (fun k e => by cases e; omega)⟩
set_option maxHeartbeats 1000000 in
theorem collect_in (n : Nat) (hn : 3 ≤ n) (g : Nat) (lb : Array Value) (eg : ∀ args w, (callFunc g args).run Tryz.prog w = .ok (.enter g args) w)
  (S : List (Int × Int) → Prop) (N : Nat) (hN : N ≤ maxLen) (hNb : N * 16 ≤ 140737488355328) (w : World) (hseq : SeqGives Fence.wide (n - 1 - 1) Tryz.prog g lb encE S N w) :
  CallsIn Fence.wide n Tryz.prog 206 #[.func (.func g) #[] lb] w fun e w' => ∃ (v : Value) (ss : List (Int × Int)), e = .returned v ∧ S ss ∧ w'.ownsRow w.heap.size 234 2 v ss.length (flatE ss) ∧ (v = .slice none 0 0 ↔ ss = []) ∧ Below w.heap.size w w' := by
 have h1 : 1 ≤ n := by omega
 have h11 : Fence.wide.fn 211 := trivial
 have e11 : ∀ args w, (callFunc 211 args).run Tryz.prog w = .ok (.enter 211 args) w := enters_of Tryz.func211 (by kernel_rfl) rfl
 have u24 := Tryz.underlying231
 have u26 := Tryz.underlying234
 have u2 := Tryz.underlying2
 refine callsIn_of_wp Tryz.func206 rfl trivial ?_ rfl
 simp only [Tryz.ntmps206, List.size_toArray, List.length_cons, List.length_nil, Nat.reduceAdd, Nat.reduceSub, Array.replicate_succ, Array.replicate_zero, List.push_toArray, List.append_toArray, List.nil_append, List.cons_append]
 gi_wp2_with (gi_at_fn 211; refine (appendSeq_in (n - 1) (by omega) g lb eg S N hN hNb _ hseq).mono ?_; rintro e w' ⟨v, ss, rfl, hS, hrow, hnil, hb⟩)
 go_ret
 exact ⟨v, ss, rfl, hS, hrow, hnil, hb⟩
end Go.Proofs.YtabccmobmppdnaaGreat
namespace Go.Proofs
open Go Go.Shelf Go.RowKit Go.Lib Go.Sort
def Tryz.sortEdges_ren : Go.Shelf.Ren := ⟨fun | 6 => 207 | 15 => 213 | 14 => 212 | 28 => 223 | 29 => 224 | 20 => 215 | 21 => 216 | 22 => 217 | 23 => 218 | 24 => 219 | 25 => 220 | 26 => 221 | 27 => 222 | 46 => 225 | 47 => 226 | 48 => 227 | 49 => 228 | 50 => 229 | 57 => 230 | n => n, fun | 22 => 231 | 24 => 234 | 25 => 249 | 3 => 3 | 39 => 264 | 0 => 0 | 53 => 275 | 55 => 253 | 4 => 4 | 46 => 268 | 45 => 267 | 50 => 272 | 5 => 5 | 9 => 9 | 66 => 277 | 70 => 281 | 76 => 283 | 77 => 284 | n => n, fun | n => n⟩
theorem Tryz.sortEdges : Go.Proofs.SlLaysF0.n6 Tryz.prog Tryz.sortEdges_ren where
  mixed := by kernel_rfl
  f6 := ⟨Tryz.f207.name, by decide, Tryz.func207.trans (congrArg some (by kernel_rfl))⟩
  f14 := ⟨Tryz.f212.name, by decide, Tryz.func212.trans (congrArg some (by kernel_rfl))⟩
  f15 := Tryz.func213.trans (congrArg some (by kernel_rfl))
  f20 := ⟨Tryz.f215.name, by decide, Tryz.func215.trans (congrArg some (by kernel_rfl))⟩
  f21 := ⟨Tryz.f216.name, by decide, Tryz.func216.trans (congrArg some (by kernel_rfl))⟩
  f22 := ⟨Tryz.f217.name, by decide, Tryz.func217.trans (congrArg some (by kernel_rfl))⟩
  f23 := ⟨Tryz.f218.name, by decide, Tryz.func218.trans (congrArg some (by kernel_rfl))⟩
  f24 := ⟨Tryz.f219.name, by decide, Tryz.func219.trans (congrArg some (by kernel_rfl))⟩
  f25 := ⟨Tryz.f220.name, by decide, Tryz.func220.trans (congrArg some (by kernel_rfl))⟩
  f26 := ⟨Tryz.f221.name, by decide, Tryz.func221.trans (congrArg some (by kernel_rfl))⟩
  f27 := ⟨Tryz.f222.name, by decide, Tryz.func222.trans (congrArg some (by kernel_rfl))⟩
  f28 := Tryz.func223.trans (congrArg some (by kernel_rfl))
  f29 := Tryz.func224.trans (congrArg some (by kernel_rfl))
  f46 := ⟨Tryz.f225.name, by decide, Tryz.func225.trans (congrArg some (by kernel_rfl))⟩
  f47 := Tryz.func226.trans (congrArg some (by kernel_rfl))
  f48 := Tryz.func227.trans (congrArg some (by kernel_rfl))
  f49 := ⟨Tryz.f228.name, by decide, Tryz.func228.trans (congrArg some (by kernel_rfl))⟩
  f50 := ⟨Tryz.f229.name, by decide, Tryz.func229.trans (congrArg some (by kernel_rfl))⟩
  f57 := ⟨Tryz.f230.name, by decide, Tryz.func230.trans (congrArg some (by kernel_rfl))⟩
  t0 := Tryz.underlying0
  a0 := Tryz.isAgg0
  z0 := Tryz.sizeOf0
  v0 := Tryz.zeroValue0
  t3 := Tryz.underlying3
  a3 := Tryz.isAgg3
  z3 := Tryz.sizeOf3
  v3 := Tryz.zeroValue3
  t4 := Tryz.underlying4
  a4 := Tryz.isAgg4
  z4 := Tryz.sizeOf4
  v4 := Tryz.zeroValue4
  t5 := Tryz.underlying5
  a5 := Tryz.isAgg5
  z5 := Tryz.sizeOf5
  v5 := Tryz.zeroValue5
  t9 := Tryz.underlying9
  a9 := Tryz.isAgg9
  z9 := Tryz.sizeOf9
  v9 := Tryz.zeroValue9
  t22 := Tryz.underlying231
  a22 := Tryz.isAgg231
  z22 := Tryz.sizeOf231
  v22 := Tryz.zeroValue231
  t25 := Tryz.underlying249
  a25 := Tryz.isAgg249
  z25 := Tryz.sizeOf249
  v25 := Tryz.zeroValue249
  t39 := Tryz.underlying264
  a39 := Tryz.isAgg264
  z39 := Tryz.sizeOf264
  v39 := Tryz.zeroValue264
  t45 := Tryz.underlying267
  a45 := Tryz.isAgg267
  z45 := Tryz.sizeOf267
  v45 := Tryz.zeroValue267
  t46 := Tryz.underlying268
  a46 := Tryz.isAgg268
  z46 := Tryz.sizeOf268
  v46 := Tryz.zeroValue268
  t50 := Tryz.underlying272
  a50 := Tryz.isAgg272
  z50 := Tryz.sizeOf272
  v50 := Tryz.zeroValue272
  t53 := Tryz.underlying275
  a53 := Tryz.isAgg275
  z53 := Tryz.sizeOf275
  v53 := Tryz.zeroValue275
  t55 := Tryz.underlying253
  a55 := Tryz.isAgg253
  z55 := Tryz.sizeOf253
  v55 := Tryz.zeroValue253
  t66 := Tryz.underlying277
  a66 := Tryz.isAgg277
  z66 := Tryz.sizeOf277
  v66 := Tryz.zeroValue277
  t70 := Tryz.underlying281
  a70 := Tryz.isAgg281
  z70 := Tryz.sizeOf281
  v70 := Tryz.zeroValue281
  t76 := Tryz.underlying283
  a76 := Tryz.isAgg283
  z76 := Tryz.sizeOf283
  v76 := Tryz.zeroValue283
  t77 := Tryz.underlying284
  a77 := Tryz.isAgg284
  z77 := Tryz.sizeOf284
  v77 := Tryz.zeroValue284
end Go.Proofs
namespace Go.Proofs.YtabccmobmppdnaaGreat
open Go Fk Go.RowKit Go.Maps Go.Sort Go.Shelf Go.Lib
set_option linter.unusedVariables false
set_option maxRecDepth 16000
def cellsE (x : Int × Int) : List Value := [.int .i64 x.1, .int .i64 x.2]
def cfE (x y : Int × Int) : Int := if Lib.compareInt x.1 y.1 = 0 then Lib.compareInt x.2 y.2 else Lib.compareInt x.1 y.1
def ltE (x y : Int × Int) : Bool := decide (x.1 < y.1 ∨ x.1 = y.1 ∧ x.2 < y.2)
theorem ltOf_cfE (x y : Int × Int) : ltOf cfE x y = ltE x y := by
 unfold ltOf cfE ltE Lib.compareInt
 by_cases h1 : x.1 < y.1
 ·simp [h1]
 ·by_cases h2 : y.1 < x.1
  ·have : ¬ x.1 = y.1 := by omega
   simp [h1, h2, this]
  ·have h3 : x.1 = y.1 := by omega
   by_cases h4 : x.2 < y.2
   ·simp [h3, h4]
   ·by_cases h5 : y.2 < x.2
    ·simp [h3, h4, h5]
    ·simp [h3, h4, h5]
theorem swoE : SWO (ltOf cfE) where
 irrefl x := by rw [ltOf_cfE]; unfold ltE; simp
 trans x y z h1 h2 := by rw [ltOf_cfE] at *; unfold ltE at *; simp at *; omega
 ntrans x y z h1 h2 := by rw [ltOf_cfE] at *; unfold ltE at *; simp at *; omega
theorem totE (x y : Int × Int) (h1 : ltOf cfE x y = false) (h2 : ltOf cfE y x = false) : x = y := by
 rw [ltOf_cfE] at h1 h2
 unfold ltE at h1 h2
 simp at h1 h2
 exact Prod.ext (by omega) (by omega)
theorem cmp_isNaN (x : Int) (W : World) : Calls Tryz.prog 214 #[.int .i64 x] W fun e w' => e = .returned (.bool false) ∧ w' = W := by
 go_enter Tryz.func214, Tryz.ntmps214
 go_wp2
 go_ret
 exact ⟨by simp, rfl⟩
theorem cmp_Compare64 (x y : Int) (W : World) : Calls Tryz.prog 210 #[.int .i64 x, .int .i64 y] W fun e w' => e = .returned (.int .i64 (Lib.compareInt x y)) ∧ w' = W := by
 have J1 := Lib.hid (cmp_isNaN x)
 have J2 := Lib.hid (cmp_isNaN y)
 unfold Lib.compareInt
 by_cases h1 : x < y
 ·rw [if_pos h1]
  go_enter Tryz.func210, Tryz.ntmps210
  go_wp2_with fail
  refine (J1.out _).mono ?_
  rintro e w1 ⟨rfl, rfl⟩
  go_wp2_with fail
  refine (J2.out _).mono ?_
  rintro e w2 ⟨rfl, rfl⟩
  go_wp2
  go_ret
  exact ⟨rfl, rfl⟩
 ·rw [if_neg h1]
  by_cases h2 : x > y
  ·rw [if_pos h2]
   go_enter Tryz.func210, Tryz.ntmps210
   go_wp2_with fail
   refine (J1.out _).mono ?_
   rintro e w1 ⟨rfl, rfl⟩
   go_wp2_with fail
   refine (J2.out _).mono ?_
   rintro e w2 ⟨rfl, rfl⟩
   go_wp2
   go_ret
   exact ⟨rfl, rfl⟩
  ·rw [if_neg h2]
   go_enter Tryz.func210, Tryz.ntmps210
   go_wp2_with fail
   refine (J1.out _).mono ?_
   rintro e w1 ⟨rfl, rfl⟩
   go_wp2_with fail
   refine (J2.out _).mono ?_
   rintro e w2 ⟨rfl, rfl⟩
   go_wp2
   go_ret
   exact ⟨rfl, rfl⟩
set_option maxHeartbeats 1000000 in
theorem cmp_Or2 (g : Nat) (x y : Int) (W : World) (h0 : W.cell? ⟨g, 0, none⟩ = some (.int .i64 x)) (h1 : W.cell? ⟨g, 1, none⟩ = some (.int .i64 y)) :
  Calls Tryz.prog 209 #[.slice (some ⟨g, 0, none⟩) 2 2] W fun e w' => e = .returned (.int .i64 (if x = 0 then y else x)) ∧ w' = W := by
 by_cases hx : x = 0
 ·subst hx
  by_cases hy : y = 0
  ·subst hy
   go_enter Tryz.func209, Tryz.ntmps209
   go_wp2
   refine wp_loop_rounds 3 ?_
   rw [rounds_succ]
   go_wp2
   rw [rounds_succ]
   go_wp2
   rw [rounds_succ]
   go_wp2
   go_ret
   exact ⟨rfl, rfl⟩
  ·go_enter Tryz.func209, Tryz.ntmps209
   go_wp2
   refine wp_loop_rounds 3 ?_
   rw [rounds_succ]
   go_wp2
   rw [rounds_succ]
   go_wp2
   go_ret
   exact ⟨by simp, rfl⟩
 ·rw [if_neg hx]
  go_enter Tryz.func209, Tryz.ntmps209
  go_wp2
  refine wp_loop_rounds 3 ?_
  rw [rounds_succ]
  go_wp2
  go_ret
  exact ⟨rfl, rfl⟩
def Grew (w w' : World) : Prop := ∃ q os, w' = grow (w.drewN q) os
theorem Grew.refl (w : World) : Grew w w := ⟨0, #[], by simp [grow, World.drewN]⟩
theorem Grew.alloc {w w' : World} (h : Grew w w') (o : Obj) : Grew w (w'.alloc o) := by
 obtain ⟨q, os, rfl⟩ := h
 exact ⟨q, os ++ #[o], by rw [alloc_eq_grow, grow_grow]⟩
theorem Grew.draw {w w' : World} (h : Grew w w') : Grew w { w' with drawn := w'.drawn + 1 } := by
 obtain ⟨q, os, rfl⟩ := h
 exact ⟨q + 1, os, rfl⟩
set_option maxHeartbeats 2000000 in
theorem impl_compareEdges (x y : Int × Int) (w : World) : Calls Tryz.prog 200 #[.agg #[.int .i64 x.1, .int .i64 x.2], .agg #[.int .i64 y.1, .int .i64 y.2]] w fun e w' => e = .returned (.int .i64 (cfE x y)) ∧ Grew w w' := by
 have ue := Tryz.underlying234
 have ui := Tryz.underlying2
 have H1 := Lib.hid (cmp_Compare64 x.1 y.1)
 have H2 := Lib.hid (cmp_Compare64 x.2 y.2)
 have HE : cfE x y = if Lib.compareInt x.1 y.1 = 0 then Lib.compareInt x.2 y.2 else Lib.compareInt x.1 y.1 := rfl
 generalize cfE x y = r at HE ⊢
 generalize Lib.compareInt x.1 y.1 = c1 at *
 generalize Lib.compareInt x.2 y.2 = c2 at *
 have HR := Lib.hid HE
 clear HE
 obtain ⟨x1, x2⟩ := x
 obtain ⟨y1, y2⟩ := y
 have k0 : ((w.alloc (.cells #[.int .i64 x1, .int .i64 x2] 234)).alloc (.cells #[.int .i64 y1, .int .i64 y2] 234)).cell? ⟨w.heap.size, 0, none⟩ = some (.int .i64 x1) := by go_simp
 have k1 : ((w.alloc (.cells #[.int .i64 x1, .int .i64 x2] 234)).alloc (.cells #[.int .i64 y1, .int .i64 y2] 234)).cell? ⟨w.heap.size, 1, none⟩ = some (.int .i64 x2) := by go_simp
 have k2 : ((w.alloc (.cells #[.int .i64 x1, .int .i64 x2] 234)).alloc (.cells #[.int .i64 y1, .int .i64 y2] 234)).cell? ⟨w.heap.size + 1, 0, none⟩ = some (.int .i64 y1) := by go_simp
 have k3 : ((w.alloc (.cells #[.int .i64 x1, .int .i64 x2] 234)).alloc (.cells #[.int .i64 y1, .int .i64 y2] 234)).cell? ⟨w.heap.size + 1, 1, none⟩ = some (.int .i64 y2) := by go_simp
 have hg : Grew w ((w.alloc (.cells #[.int .i64 x1, .int .i64 x2] 234)).alloc (.cells #[.int .i64 y1, .int .i64 y2] 234)) := ((Grew.refl w).alloc _).alloc _
 have HG := Lib.hid hg
 clear hg
 go_enter Tryz.func200, Tryz.ntmps200
 go_wp2_with fail
 generalize ((w.alloc (.cells #[.int .i64 x1, .int .i64 x2] 234)).alloc (.cells #[.int .i64 y1, .int .i64 y2] 234)) = W at *
 generalize w.heap.size + 1 = b' at *
 generalize w.heap.size = b at *
 refine Reg.wp_region_mix (C := fun w' => (w'.cell? ⟨b, 0, none⟩ = some (.int .i64 x1) ∧ w'.cell? ⟨b, 1, none⟩ = some (.int .i64 x2) ∧ w'.cell? ⟨b', 0, none⟩ = some (.int .i64 y1) ∧ w'.cell? ⟨b', 1, none⟩ = some (.int .i64 y2)) ∧ Grew w w') (G := fun w1 w2 => Below w1.heap.size w1 w2)
  (R := fun i v w' => match i with
   | 0 => v = .pointer (some ⟨b, 0, none⟩)
   | 1 => v = .int .i64 x1
   | 2 => v = .pointer (some ⟨b', 0, none⟩)
   | 3 => v = .int .i64 y1
   | 4 => v = .int .i64 c1
   | 5 => v = .pointer (some ⟨b, 1, none⟩)
   | 6 => v = .int .i64 x2
   | 7 => v = .pointer (some ⟨b', 1, none⟩)
   | 8 => v = .int .i64 y2
   | 9 => v = .int .i64 c2
   | 10 => ∃ g, v = .slice (some ⟨g, 0, none⟩) 2 2 ∧ w'.cell? ⟨g, 0, none⟩ = some (.int .i64 c1) ∧ w'.cell? ⟨g, 1, none⟩ = some (.int .i64 c2)
   | 11 => v = .int .i64 r
   | 12 => v = .int .i64 r
   | _ => True) (T := fun _ _ _ => True) [false, false, false, false, true, true, true, true, true, true, true, true, true, true, true, true, true]
  (by kernel_rfl) (by kernel_rfl) (by kernel_rfl) ?_ ⟨⟨k0, k1, k2, k3⟩, HG.out.draw⟩ ?_ ?_
 ·intro j v w1 w2 _ hG hR
  match j with
  | 0 => exact hR
  | 1 => exact hR
  | 2 => exact hR
  | 3 => exact hR
  | 4 => exact hR
  | 5 => exact hR
  | 6 => exact hR
  | 7 => exact hR
  | 8 => exact hR
  | 9 => exact hR
  | 10 => obtain ⟨g, e, h1, h2⟩ := hR; exact ⟨g, e, cell_below hG h1, cell_below hG h2⟩
  | 11 => exact hR
  | 12 => exact hR
  | _ + 13 => trivial
 ·refine ⟨Reg.Obl.mk ?_, Reg.Obl.mk ?_, Reg.Obl.mk ?_, Reg.Obl.mk ?_, Reg.Obl.mk ?_, Reg.Obl.mk ?_, Reg.Obl.mk ?_, Reg.Obl.mk ?_, Reg.Obl.mk ?_, Reg.Obl.mk ?_, Reg.Obl.mk ?_, Reg.Obl.mk ?_, Reg.Obl.mk ?_, trivial⟩
  ·rintro a w1 ⟨⟨y0, y1', y2', y3⟩, hB⟩ hx hd K hK
   have t2 : a.tmps[2]?.getD undef = .pointer (some ⟨b, 0, none⟩) := Reg.slot_val (hx 2 (by kernel_rfl))
   go_simp
   exact hK _ _ (fun _ => rfl) (fun h => by cases h) ⟨⟨y0, y1', y2', y3⟩, hB⟩ (Below.refl _ _)
  ·rintro a w1 ⟨⟨y0, y1', y2', y3⟩, hB⟩ hx hd K hK
   have t5 : a.tmps[5]?.getD undef = .pointer (some ⟨b, 0, none⟩) := Reg.slot_val (hd 0 (by kernel_rfl) 5 rfl)
   go_simp
   exact hK _ _ (fun _ => rfl) (fun h => by cases h) ⟨⟨y0, y1', y2', y3⟩, hB⟩ (Below.refl _ _)
  ·rintro a w1 ⟨⟨y0, y1', y2', y3⟩, hB⟩ hx hd K hK
   have t3 : a.tmps[3]?.getD undef = .pointer (some ⟨b', 0, none⟩) := Reg.slot_val (hx 3 (by kernel_rfl))
   go_simp
   exact hK _ _ (fun _ => rfl) (fun h => by cases h) ⟨⟨y0, y1', y2', y3⟩, hB⟩ (Below.refl _ _)
  ·rintro a w1 ⟨⟨y0, y1', y2', y3⟩, hB⟩ hx hd K hK
   have t7 : a.tmps[7]?.getD undef = .pointer (some ⟨b', 0, none⟩) := Reg.slot_val (hd 2 (by kernel_rfl) 7 rfl)
   go_simp
   exact hK _ _ (fun _ => rfl) (fun h => by cases h) ⟨⟨y0, y1', y2', y3⟩, hB⟩ (Below.refl _ _)
  ·rintro a w1 ⟨⟨y0, y1', y2', y3⟩, hB⟩ hx hd K hK
   have t6 : a.tmps[6]?.getD undef = .int .i64 x1 := Reg.slot_val (hd 1 (by kernel_rfl) 6 rfl)
   have t8 : a.tmps[8]?.getD undef = .int .i64 y1 := Reg.slot_val (hd 3 (by kernel_rfl) 8 rfl)
   go_simp
   refine (H1.out w1).mono ?_
   rintro en w2 ⟨rfl, rfl⟩
   exact hK _ _ (fun _ => rfl) (fun h => by cases h) ⟨⟨y0, y1', y2', y3⟩, hB⟩ (Below.refl _ _)
  ·rintro a w1 ⟨⟨y0, y1', y2', y3⟩, hB⟩ hx hd K hK
   have t2 : a.tmps[2]?.getD undef = .pointer (some ⟨b, 0, none⟩) := Reg.slot_val (hx 2 (by kernel_rfl))
   go_simp
   exact hK _ _ (fun _ => rfl) (fun h => by cases h) ⟨⟨y0, y1', y2', y3⟩, hB⟩ (Below.refl _ _)
  ·rintro a w1 ⟨⟨y0, y1', y2', y3⟩, hB⟩ hx hd K hK
   have t10 : a.tmps[10]?.getD undef = .pointer (some ⟨b, 1, none⟩) := Reg.slot_val (hd 5 (by kernel_rfl) 10 rfl)
   go_simp
   exact hK _ _ (fun _ => rfl) (fun h => by cases h) ⟨⟨y0, y1', y2', y3⟩, hB⟩ (Below.refl _ _)
  ·rintro a w1 ⟨⟨y0, y1', y2', y3⟩, hB⟩ hx hd K hK
   have t3 : a.tmps[3]?.getD undef = .pointer (some ⟨b', 0, none⟩) := Reg.slot_val (hx 3 (by kernel_rfl))
   go_simp
   exact hK _ _ (fun _ => rfl) (fun h => by cases h) ⟨⟨y0, y1', y2', y3⟩, hB⟩ (Below.refl _ _)
  ·rintro a w1 ⟨⟨y0, y1', y2', y3⟩, hB⟩ hx hd K hK
   have t12 : a.tmps[12]?.getD undef = .pointer (some ⟨b', 1, none⟩) := Reg.slot_val (hd 7 (by kernel_rfl) 12 rfl)
   go_simp
   exact hK _ _ (fun _ => rfl) (fun h => by cases h) ⟨⟨y0, y1', y2', y3⟩, hB⟩ (Below.refl _ _)
  ·rintro a w1 ⟨⟨y0, y1', y2', y3⟩, hB⟩ hx hd K hK
   have t11 : a.tmps[11]?.getD undef = .int .i64 x2 := Reg.slot_val (hd 6 (by kernel_rfl) 11 rfl)
   have t13 : a.tmps[13]?.getD undef = .int .i64 y2 := Reg.slot_val (hd 8 (by kernel_rfl) 13 rfl)
   go_simp
   refine (H2.out w1).mono ?_
   rintro en w2 ⟨rfl, rfl⟩
   exact hK _ _ (fun _ => rfl) (fun h => by cases h) ⟨⟨y0, y1', y2', y3⟩, hB⟩ (Below.refl _ _)
  ·rintro a w1 ⟨⟨y0, y1', y2', y3⟩, hB⟩ hx hd K hK
   have t9 : a.tmps[9]?.getD undef = .int .i64 c1 := Reg.slot_val (hd 4 (by kernel_rfl) 9 rfl)
   have t14 : a.tmps[14]?.getD undef = .int .i64 c2 := Reg.slot_val (hd 9 (by kernel_rfl) 14 rfl)
   go_simp
   have hn : Below w1.heap.size w1 (w1.alloc (.cells #[.int .i64 c1, .int .i64 c2] 3)) := (Below.refl _ _).alloc (Nat.le_refl _) _
   refine hK _ _ (fun _ => ⟨_, rfl, by go_simp, by go_simp⟩) (fun h => by cases h) ⟨⟨cell_below hn y0, cell_below hn y1', cell_below hn y2', cell_below hn y3⟩, hB.alloc _⟩ hn
  ·rintro a w1 ⟨⟨y0, y1', y2', y3⟩, hB⟩ hx hd K hK
   obtain ⟨g, e15, g0, g1⟩ := hd 10 (by kernel_rfl) 15 rfl
   have t15 : a.tmps[15]?.getD undef = .slice (some ⟨g, 0, none⟩) 2 2 := Reg.slot_val e15
   go_simp
   refine (cmp_Or2 g c1 c2 w1 g0 g1).mono ?_
   rintro en w2 ⟨rfl, rfl⟩
   rw [← HR.out]
   exact hK _ _ (fun _ => rfl) (fun h => by cases h) ⟨⟨y0, y1', y2', y3⟩, hB⟩ (Below.refl _ _)
  ·rintro a w1 ⟨⟨y0, y1', y2', y3⟩, hB⟩ hx hd K hK
   have t16 : a.tmps[16]?.getD undef = .int .i64 r := Reg.slot_val (hd 11 (by kernel_rfl) 16 rfl)
   go_simp
   exact hK _ _ (fun _ => rfl) (fun h => by cases h) ⟨⟨y0, y1', y2', y3⟩, hB⟩ (Below.refl _ _)
 ·rintro f w6 ⟨_, hgw⟩ hR hT
  have e4 := hR 12 4 rfl
  clear hR hT
  go_wp2
  go_ret
  exact ⟨e4 ▸ rfl, hgw⟩
theorem cmpLaysE (blk off size : Nat) (w : World) : CmpLays Tryz.prog 200 #[] cellsE 2 cfE blk off size w :=
 fun _ _ _ _ x y => impl_compareEdges x y _
set_option maxHeartbeats 1000000 in
theorem sort_edges (blk off cap : Nat) (d : Array (Int × Int)) (w : World) (hH : HoldsK cellsE 2 w blk off d) (hblk : blk < w.heap.size) (hsz : d.size < 4611686018427387904) :
  Calls Tryz.prog 207 #[.slice (some ⟨blk, off, none⟩) d.size cap, .func (.func 200) #[] #[]] w fun e w' =>
   e = .returned (.tuple #[]) ∧ ∃ n os, w' = sortWorldK cellsE 2 w blk off n (d.toList.mergeSort fun x y => !(ltOf cfE) y x).toArray os := by
 have eg : ∀ args w, (callFunc 200 args).run Tryz.prog w = .ok (.enter 200 args) w := enters_of Tryz.func200 (by kernel_rfl) rfl
 have hcon := AnyQ.slices_SortFunc_total Tryz.sortEdges 2 Tryz.isAgg234 Tryz.sizeOf234 cellsE (fun _ => rfl) (fun x v hv => by simp [cellsE] at hv; rcases hv with rfl | rfl <;> rfl) cfE swoE 200 #[] blk off cap d w eg (cmpLaysE blk off d.size w) hH hblk hsz totE
 exact hcon
theorem sort_none (p : Option Addr) (cap : Nat) (fv : Value) (w : World) : Calls Tryz.prog 207 #[.slice p 0 cap, fv] w fun e w' => e = .returned (.tuple #[]) ∧ w' = w := by
 have hcon := AnyF.slices_SortFunc_none Tryz.sortEdges p cap fv w
 exact hcon
end Go.Proofs.YtabccmobmppdnaaGreat

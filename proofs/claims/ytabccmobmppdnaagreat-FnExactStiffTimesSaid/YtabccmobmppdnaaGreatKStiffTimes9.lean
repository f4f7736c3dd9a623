/-
Texts in one: what StiffTimes stands on, part 9. Conditions: those of each.
-/
import Derived.Test.YtabccmobmppdnaaGreatKStiffTimes8
import Derived.WalkKit
-- halved
namespace Go.Proofs.YtabccmobmppdnaaGreat
open Go Fk Go.RowKit
set_option linter.unusedVariables false
set_option maxRecDepth 8000
def Rows (lo hi : Nat) (w : World) (g o len : Nat) (ts : List (List Int)) : Prop :=
 ∀ j, j < len → ∃ G O c, G ≠ g ∧ w.cell? ⟨g, o + j, none⟩ = some (.slice (some ⟨G, O, none⟩) (ts.getD j []).length c) ∧ Own lo hi w G O (ts.getD j []).length
set_option maxHeartbeats 400000 in
theorem laws_markInt64SS (lo hi g o len cap : Nat) (ts : List (List Int)) (k0 : Nat) (w : World) (h : Rows lo hi w g o len ts) (hl : len ≤ 1048576) (hn : ∀ j, j < len → (ts.getD j []).length ≤ 1048576) (hk : k0 ≤ 1000000000000000000) :
  Calls Tryz.prog 133 #[.slice (some ⟨g, o, none⟩) len cap, .int .i64 k0] w fun e w' => ∃ z : Nat, z ≤ k0 + len * 1048576 ∧ e = .returned (.int .i64 z) ∧ (∀ i, w'.cell? ⟨g, i, none⟩ = w.cell? ⟨g, i, none⟩) ∧ Mark lo hi w w' := by
 have H := Lib.hid h
 have HN := Lib.hid hn
 clear h hn
 go_enter Tryz.func133, Tryz.ntmps133
 go_wp2
 go_loopw [1, 5] (fun q i w' => ∃ k : Nat, k ≤ len ∧ i = .int .i64 k ∧ (∃ z : Nat, z ≤ k0 + k * 1048576 ∧ q = .int .i64 z) ∧ Aside ((∀ i, w'.cell? ⟨g, i, none⟩ = w.cell? ⟨g, i, none⟩) ∧ Mark lo hi w w')) (fun _ i _ => len - (intOf i).toNat)
 case atStart => exact ⟨0, Nat.zero_le _, rfl, ⟨k0, by omega, rfl⟩, fun _ => rfl, Mark.refl _ _ _⟩
 case round =>
  obtain ⟨k, hkl, rfl, ⟨z, hz, rfl⟩, hA⟩ := hrel
  by_cases hlt : k < len
  ·obtain ⟨hsame, hM⟩ := hA.out
   obtain ⟨G, O, c, hne, hc, hown⟩ := H.out k hlt
   have hlen := HN.out k hlt
   have hc' : wr.cell? ⟨g, o + k, none⟩ = some (.slice (some ⟨G, O, none⟩) (ts.getD k []).length c) := (hsame _).trans hc
   have HS := Lib.hid hsame
   have HM := Lib.hid hM
   have HW := Lib.hid (hown.mark hM)
   have HNE := Lib.hid hne
   generalize (ts.getD k []).length = n at *
   have hk0 : (0 : Int) ≤ (k : Int) := by omega
   have hk1 : (k : Int) < (len : Int) := by omega
   clear hA hsame hM hc hown hne
   go_wp2_with (go_at_call 26; refine (laws_markInt64S lo hi G O n c z wr HW.out (by omega)).mono ?_; rintro e w1 ⟨rfl, hd, ho, hM1⟩; have HO := Lib.hid ho; have HM1 := Lib.hid hM1; clear hd ho hM1)
   go_roundw
   case rel => exact ⟨k + 1, by omega, by go_num, ⟨z + n, by omega, rfl⟩, fun i => (HO.out g i (.inl (fun h => HNE.out h.symm))).trans (HS.out i), HM.out.trans HM1.out⟩
   case measure => simp [intOf]; omega
  ·obtain rfl : k = len := by omega
   obtain ⟨hsame, hM⟩ := hA.out
   have HS := Lib.hid hsame
   have HM := Lib.hid hM
   clear hA hsame hM
   go_wp2
   go_ret
   exact ⟨z, hz, rfl, HS.out, HM.out⟩
theorem Rows.mark {lo hi g o len : Nat} {ts : List (List Int)} {w w' : World} (h : Rows lo hi w g o len ts) (hs : ∀ i, w'.cell? ⟨g, i, none⟩ = w.cell? ⟨g, i, none⟩) {lo' hi' : Nat} (hM : Mark lo' hi' w w') : Rows lo hi w' g o len ts := by
 intro j hj
 obtain ⟨G, O, c, h1, h2, h3⟩ := h j hj
 exact ⟨G, O, c, h1, (hs _).trans h2, h3.mark hM⟩
def OwnM (lo hi : Nat) (w : World) (b o b' o' pl tl : Nat) (ts : List (List Int)) : Prop := Own lo hi w b o (pl * 3) ∧ Rows lo hi w b' o' tl ts ∧ b ≠ b' ∧ b' < w.heap.size
end Go.Proofs.YtabccmobmppdnaaGreat
namespace Go.Proofs.YtabccmobmppdnaaGreat
open Go Fk Go.RowKit
set_option linter.unusedVariables false
set_option maxRecDepth 8000
theorem cells_of {w : World} {b len cap : Nat} {cs : List C3} (h : IsVs w (some ⟨b, 0, none⟩) len cap cs) (j : Nat) (hj : j < len * 3) : ∃ v, w.cell? ⟨b, 0 + j, none⟩ = some v := by
 obtain ⟨p, q, r, k0, k1, k2, _⟩ := h.2.2.2.2 _ rfl (j / 3) (by omega)
 rw [addr_add', Nat.zero_add] at k0 k1 k2
 rw [Nat.zero_add]
 have : j = j / 3 * 3 ∨ j = j / 3 * 3 + 1 ∨ j = j / 3 * 3 + 2 := by omega
 rcases this with e | e | e
 ·exact ⟨_, by rw [e]; simpa using k0⟩
 ·exact ⟨_, by rw [e]; simpa using k1⟩
 ·exact ⟨_, by rw [e]; simpa using k2⟩
theorem Rows.wide {lo hi lo' g o len : Nat} {w : World} {ts : List (List Int)} (h : Rows lo hi w g o len ts) (hl : lo' ≤ lo) : Rows lo' hi w g o len ts := by
 intro j hj
 obtain ⟨G, O, c, h1, h2, h3⟩ := h j hj
 exact ⟨G, O, c, h1, h2, Nat.le_trans hl h3.1, h3.2⟩
theorem OwnM.mark {lo hi lo' hi' b o b' o' pl tl : Nat} {ts : List (List Int)} {w w' : World} (h : OwnM lo hi w b o b' o' pl tl ts) (hM : Mark lo' hi' w w') (hs : ∀ i, w'.cell? ⟨b', i, none⟩ = w.cell? ⟨b', i, none⟩) : OwnM lo hi w' b o b' o' pl tl ts :=
 ⟨h.1.mark hM, h.2.1.mark hs hM, h.2.2.1, Nat.lt_of_lt_of_le h.2.2.2 hM.below.size⟩
set_option maxHeartbeats 400000 in
theorem laws_toInt64S' (a : Option Addr) (len cap : Nat) (zs : List Int) (w : World) (h : IsIs w a len cap zs) (hlen : len ≤ 1048576) :
  Calls Tryz.prog 19 #[.slice a len cap] w fun e w' => e = .returned (.slice (some ⟨w.heap.size, 0, none⟩) len len) ∧ IsIs w' (some ⟨w.heap.size, 0, none⟩) len len zs ∧ Below w.heap.size w w' ∧ w.heap.size < w'.heap.size ∧ ∀ i, w'.frozen? ⟨w.heap.size, i, none⟩ = false := by
 obtain ⟨i0, hi, hz0, hz1, hz2⟩ := info_parts info64
 have hzl := h.1
 have hil : (ints zs).length = len := by unfold ints; simp; exact hzl
 have hzb := h.2.2.2.1
 have hmk : (Instr.makeSlice 33 (.int .i64 len) (.int .i64 len)).run Tryz.prog w = .ok (.slice (some ⟨w.heap.size, 0, none⟩) len len) (w.alloc (.cells (curL (ints zs) (.int .i64 0) len 0) 2)) := by
  have := run_make (P := Tryz.prog) w 33 2 i0 (.int .i64 0) Tryz.underlying33 hi hz0 .i64 .i64 len len (by omega) (Int.le_refl _) (by rw [hz2]; omega) (by omega)
  rw [this, hz1, curL_zero]; simp; rfl
 have hfin : IsIs (w.alloc (.cells (curL (ints zs) (.int .i64 0) len len) 2)) (some ⟨w.heap.size, 0, none⟩) len len zs := by
  refine ⟨hzl, Nat.le_refl _, by unfold maxLen; omega, hzb, by simp, fun x hx i hi => ?_⟩
  cases hx
  have := curL_end (ints zs) (.int .i64 0) len hil i hi
  rw [ints_getD] at this
  rw [addr_add', Nat.zero_add]; simp [this]
 have HF := Lib.hid hfin
 clear hfin hzb
 go_enter Tryz.func19, Tryz.ntmps19
 go_wp2
 go_loopw [4] (fun i w' => ∃ k : Nat, k ≤ len ∧ i = .int .i64 k ∧ w' = w.alloc (.cells (curL (ints zs) (.int .i64 0) len k) 2)) (fun i _ => len - (intOf i).toNat)
 case atStart => exact ⟨0, Nat.zero_le _, rfl, rfl⟩
 case round =>
  obtain ⟨k, hk, rfl, rfl⟩ := hrel
  by_cases hlt : k < len
  ·obtain ⟨b, o, rfl, hcell⟩ := h.some (by omega)
   have hc0 := hcell k hlt
   have hblt := World.block_lt_of_cell? w _ hc0
   have hc : (w.alloc (.cells (curL (ints zs) (.int .i64 0) len k) 2)).cell? ⟨b, o + k, none⟩ = some (.int .i64 (zs.getD k 0)) := by rw [World.cell?_alloc_lt (h := hblt)]; exact hc0
   have hsz := curL_size (ints zs) (.int .i64 0) len k hk hil
   have hd : (w.alloc (.cells (curL (ints zs) (.int .i64 0) len k) 2)).cell? ⟨w.heap.size, k, none⟩ = some ((curL (ints zs) (.int .i64 0) len k)[k]'(by omega)) := by simp [hsz, hlt]
   have hset2 : (curL (ints zs) (.int .i64 0) len k).setIfInBounds k (.int .i64 (zs.getD k 0)) = curL (ints zs) (.int .i64 0) len (k + 1) := by
    have := curL_set (ints zs) (.int .i64 0) len k hlt hil
    rwa [ints_getD] at this
   generalize zs.getD k 0 = z at *
   have HS := Lib.hid hset2
   clear hset2 hcell hc0 hblt
   go_wp2
   go_roundw
   case rel => exact ⟨k + 1, by omega, by go_num, by rw [HS.out]⟩
   case measure => simp [intOf]; omega
  ·obtain rfl : k = len := by omega
   go_wp2
   go_ret
   exact ⟨rfl, HF.out, (Below.refl _ _).alloc (Nat.le_refl _) _, by simp, fun i => by simp⟩
set_option maxHeartbeats 400000 in
theorem laws_toVectorS' (a : Option Addr) (len cap : Nat) (cs : List C3) (w : World) (h : IsVs w a len cap cs) (hlen : len ≤ 1048576) :
  Calls Tryz.prog 20 #[.slice a len cap] w fun e w' => e = .returned (.slice (some ⟨w.heap.size, 0, none⟩) len len) ∧ IsVs w' (some ⟨w.heap.size, 0, none⟩) len len cs ∧ Below w.heap.size w w' ∧ w.heap.size < w'.heap.size ∧ ∀ i, w'.frozen? ⟨w.heap.size, i, none⟩ = false := by
 have uv := Tryz.underlying42
 have ul := Tryz.underlying30
 have u := Tryz.underlying27
 obtain ⟨i0, hi, hz0, hz1, hz2⟩ := info_parts infoV
 have hzl := h.1
 obtain ⟨g, hg⟩ : ∃ g, g = w.heap.size := ⟨_, rfl⟩
 have hmk : (Instr.makeSlice 36 (.int .i64 len) (.int .i64 len)).run Tryz.prog w = .ok (.slice (some ⟨g, 0, none⟩) len len) (w.alloc (.cells (madeCells #[.float .f32 0, .float .f32 0, .float .f32 0] (len * 3)) 42)) := by
  have := run_make (P := Tryz.prog) w 36 42 i0 (.agg #[.float .f32 0, .float .f32 0, .float .f32 0]) Tryz.underlying36 hi hz0 .i64 .i64 len len (by omega) (Int.le_refl _) (by rw [hz2]; omega) (by omega)
  rw [this, hz1, hg]; simp; rfl
 have hstart : Below w.heap.size w (w.alloc (.cells (madeCells #[.float .f32 0, .float .f32 0, .float .f32 0] (len * 3)) 42)) ∧ g < (w.alloc (.cells (madeCells #[.float .f32 0, .float .f32 0, .float .f32 0] (len * 3)) 42)).heap.size ∧
   (∀ j, j < len * 3 → ∃ v, (w.alloc (.cells (madeCells #[.float .f32 0, .float .f32 0, .float .f32 0] (len * 3)) 42)).cell? ⟨g, j, none⟩ = some v) ∧ (∀ j, (w.alloc (.cells (madeCells #[.float .f32 0, .float .f32 0, .float .f32 0] (len * 3)) 42)).frozen? ⟨g, j, none⟩ = false) := by
  subst hg
  exact ⟨(Below.refl _ _).alloc (Nat.le_refl _) _, by simp, fun j hj => made_cell3 w _ (len * 3) j _ hj, fun j => by simp⟩
 rw [← hg] at hstart ⊢
 have HST := Lib.hid hstart
 have HG := Lib.hid hg
 clear hstart hg
 go_enter Tryz.func20, Tryz.ntmps20
 go_wp2
 generalize hw0 : w.alloc (.cells (madeCells #[.float .f32 0, .float .f32 0, .float .f32 0] (len * 3)) 42) = w0 at HST ⊢
 go_loopw [4] (fun i w' => ∃ k : Nat, k ≤ len ∧ i = .int .i64 k ∧ Aside ((Below g w w' ∧ g < w'.heap.size ∧ (∀ j, j < len * 3 → ∃ v, w'.cell? ⟨g, j, none⟩ = some v) ∧ (∀ j, w'.frozen? ⟨g, j, none⟩ = false)) ∧
   ∀ j, j < k → ∃ p q r, w'.cell? ⟨g, j * 3, none⟩ = some (.float .f32 p) ∧ w'.cell? ⟨g, j * 3 + 1, none⟩ = some (.float .f32 q) ∧ w'.cell? ⟨g, j * 3 + 2, none⟩ = some (.float .f32 r) ∧ FV .f32 p (cs.getD j c0).1 ∧ FV .f32 q (cs.getD j c0).2.1 ∧ FV .f32 r (cs.getD j c0).2.2)) (fun i _ => len - (intOf i).toNat)
 case atStart => exact ⟨0, Nat.zero_le _, rfl, HST.out, fun j hj => absurd hj (by omega)⟩
 case round =>
  obtain ⟨k, hk, rfl, hA⟩ := hrel
  by_cases hlt : k < len
  ·obtain ⟨⟨hB, hgs, hce, hfz⟩, hdone⟩ := hA.out
   have h' := h.below (HG.out ▸ hB)
   obtain ⟨b, o, rfl, hcell⟩ := h'.some (by omega)
   obtain ⟨p, q, r, hp, hq, hr, fp, fq, fr⟩ := hcell k hlt
   have hk0 : (0 : Int) ≤ (k : Int) := by omega
   have hk1 : (k : Int) < (len : Int) := by omega
   have hf0 := hfz (k * 3)
   have hf1 := hfz (k * 3 + 1)
   have hf2 := hfz (k * 3 + 2)
   obtain ⟨v0, hv0⟩ := hce (k * 3) (by omega)
   obtain ⟨v1, hv1⟩ := hce (k * 3 + 1) (by omega)
   obtain ⟨v2, hv2⟩ := hce (k * 3 + 2) (by omega)
   have HD := Lib.hid hdone
   have HC := Lib.hid hce
   have HF := Lib.hid hfz
   have HB := Lib.hid hB
   clear hA hcell h' hdone hce hfz hB h
   go_wp2_with fail
   refine (laws_toVector _ _ _ _).mono ?_
   rintro e w1 ⟨rfl, hB1⟩
   have hv0' : w1.cell? ⟨g, k * 3, none⟩ = some v0 := by rw [hB1.cell (p := ⟨g, k * 3, none⟩) hgs]; exact hv0
   have hv1' : w1.cell? ⟨g, k * 3 + 1, none⟩ = some v1 := by rw [hB1.cell (p := ⟨g, k * 3 + 1, none⟩) hgs]; exact hv1
   have hv2' : w1.cell? ⟨g, k * 3 + 2, none⟩ = some v2 := by rw [hB1.cell (p := ⟨g, k * 3 + 2, none⟩) hgs]; exact hv2
   have hf0' : w1.frozen? ⟨g, k * 3, none⟩ = false := by rw [hB1.frozen (p := ⟨g, k * 3, none⟩) hgs]; exact hf0
   have hf1' : w1.frozen? ⟨g, k * 3 + 1, none⟩ = false := by rw [hB1.frozen (p := ⟨g, k * 3 + 1, none⟩) hgs]; exact hf1
   have hf2' : w1.frozen? ⟨g, k * 3 + 2, none⟩ = false := by rw [hB1.frozen (p := ⟨g, k * 3 + 2, none⟩) hgs]; exact hf2
   have HB1 := Lib.hid hB1
   clear hB1
   go_wp2
   go_roundw
   case rel =>
    have hB1 := HB1.out
    obtain ⟨e0, e1, e2, eo⟩ := set3k (u := .float .f32 p) (v := .float .f32 q) (t := .float .f32 r) hv0' hv1' hv2'
    refine ⟨k + 1, by omega, by go_num, ⟨⟨(((HB.out.trans (hB1.mono (by omega))).setCell (Nat.le_refl _) _).setCell (Nat.le_refl _) _).setCell (Nat.le_refl _) _, by simp <;> (have := hB1.size; omega), fun j hj => ?_, fun j => ?_⟩, fun j hj => ?_⟩⟩
    ·by_cases h0 : j = k * 3
     ·subst h0; exact ⟨_, e0⟩
     ·by_cases h1 : j = k * 3 + 1
      ·subst h1; exact ⟨_, e1⟩
      ·by_cases h2 : j = k * 3 + 2
       ·subst h2; exact ⟨_, e2⟩
       ·obtain ⟨v, hv⟩ := HC.out j hj
        exact ⟨v, by rw [eo j h0 h1 h2, hB1.cell (p := ⟨g, j, none⟩) hgs]; exact hv⟩
    ·simp; rw [hB1.frozen (p := ⟨g, j, none⟩) hgs]; exact HF.out j
    ·by_cases hjk : j = k
     ·subst hjk; exact ⟨p, q, r, e0, e1, e2, fp, fq, fr⟩
     ·obtain ⟨p', q', r', k0, k1, k2, hv⟩ := HD.out j (by omega)
      exact ⟨p', q', r', by rw [eo _ (by omega) (by omega) (by omega), hB1.cell (p := ⟨g, j * 3, none⟩) hgs]; exact k0, by rw [eo _ (by omega) (by omega) (by omega), hB1.cell (p := ⟨g, j * 3 + 1, none⟩) hgs]; exact k1,
       by rw [eo _ (by omega) (by omega) (by omega), hB1.cell (p := ⟨g, j * 3 + 2, none⟩) hgs]; exact k2, hv⟩
   case measure => simp [intOf]; omega
  ·obtain rfl : k = len := by omega
   obtain ⟨⟨hB, hgs, hce, hfz⟩, hdone⟩ := hA.out
   have hfin : IsVs wr (some ⟨g, 0, none⟩) k k cs := by
    refine ⟨hzl, Nat.le_refl _, by unfold maxLen; omega, by simp, fun x hx i hi => ?_⟩
    cases hx
    obtain ⟨p, q, r, k0, k1, k2, hv⟩ := hdone i hi
    exact ⟨p, q, r, by rw [addr_add', Nat.zero_add]; exact k0, by rw [addr_add', Nat.zero_add]; exact k1, by rw [addr_add', Nat.zero_add]; exact k2, hv⟩
   have HF := Lib.hid hfin
   have HB := Lib.hid hB
   have HFZ := Lib.hid hfz
   clear hA hB hce hfz hdone hfin h
   go_wp2
   go_ret
   exact ⟨rfl, HF.out, HB.out, hgs, HFZ.out⟩
set_option maxHeartbeats 400000 in
theorem laws_toInt64SS' (a : Option Addr) (len cap : Nat) (ts : List (List Int)) (w : World) (h : IsTs w a len cap ts) (hlen : len ≤ 1048576) (hrow : ∀ k, k < len → (ts.getD k []).length ≤ 1048576) :
  Calls Tryz.prog 125 #[.slice a len cap] w fun e w' => e = .returned (.slice (some ⟨w.heap.size, 0, none⟩) len len) ∧ IsTs w' (some ⟨w.heap.size, 0, none⟩) len len ts ∧ Below w.heap.size w w' ∧ w.heap.size < w'.heap.size ∧ Rows w.heap.size w'.heap.size w' w.heap.size 0 len ts := by
 obtain ⟨i0, hi, hz0, hz1, hz2⟩ := info_parts infoS
 have hzl := h.1
 obtain ⟨g, hg⟩ : ∃ g, g = w.heap.size := ⟨_, rfl⟩
 have hmk : (Instr.makeSlice 23 (.int .i64 len) (.int .i64 len)).run Tryz.prog w = .ok (.slice (some ⟨g, 0, none⟩) len len) (w.alloc (.cells (madeCells #[.slice none 0 0] len) 33)) := by
  have := run_make (P := Tryz.prog) w 23 33 i0 (.slice none 0 0) Tryz.underlying23 hi hz0 .i64 .i64 len len (by omega) (Int.le_refl _) (by rw [hz2]; omega) (by omega)
  rw [this, hz1, hg]; simp; rfl
 have hstart : Below w.heap.size w (w.alloc (.cells (madeCells #[.slice none 0 0] len) 33)) ∧ g < (w.alloc (.cells (madeCells #[.slice none 0 0] len) 33)).heap.size ∧
   (∀ j, j < len → ∃ v, (w.alloc (.cells (madeCells #[.slice none 0 0] len) 33)).cell? ⟨g, j, none⟩ = some v) ∧ (∀ j, (w.alloc (.cells (madeCells #[.slice none 0 0] len) 33)).frozen? ⟨g, j, none⟩ = false) := by
  subst hg
  exact ⟨(Below.refl _ _).alloc (Nat.le_refl _) _, by simp, fun j hj => ⟨_, made_cell w _ len j _ hj⟩, fun j => by simp⟩
 rw [← hg] at hstart ⊢
 have HST := Lib.hid hstart
 have HG := Lib.hid hg
 clear hstart hg
 go_enter Tryz.func125, Tryz.ntmps125
 go_wp2
 generalize hw0 : w.alloc (.cells (madeCells #[.slice none 0 0] len) 33) = w0 at HST ⊢
 go_loopw [4] (fun i w' => ∃ k : Nat, k ≤ len ∧ i = .int .i64 k ∧ Aside ((Below g w w' ∧ g < w'.heap.size ∧ (∀ j, j < len → ∃ v, w'.cell? ⟨g, j, none⟩ = some v) ∧ (∀ j, w'.frozen? ⟨g, j, none⟩ = false)) ∧
   ∀ j, j < k → ∃ G, g < G ∧ w'.cell? ⟨g, j, none⟩ = some (.slice (some ⟨G, 0, none⟩) (ts.getD j []).length (ts.getD j []).length) ∧ IsIs w' (some ⟨G, 0, none⟩) (ts.getD j []).length (ts.getD j []).length (ts.getD j []) ∧ G < w'.heap.size ∧ ∀ i, w'.frozen? ⟨G, i, none⟩ = false)) (fun i _ => len - (intOf i).toNat)
 case atStart => exact ⟨0, Nat.zero_le _, rfl, HST.out, fun j hj => absurd hj (by omega)⟩
 case round =>
  obtain ⟨k, hk, rfl, hA⟩ := hrel
  by_cases hlt : k < len
  ·obtain ⟨⟨hB, hgs, hce, hfz⟩, hdone⟩ := hA.out
   have h' := h.below (HG.out ▸ hB)
   obtain ⟨b, o, rfl, hcell⟩ := h'.some (by omega)
   obtain ⟨ra, n, c, hc, hi⟩ := hcell k hlt
   have hnl : (ts.getD k []).length = n := hi.1
   have hn : n ≤ 1048576 := by rw [← hnl]; exact hrow k hlt
   have hk0 : (0 : Int) ≤ (k : Int) := by omega
   have hk1 : (k : Int) < (len : Int) := by omega
   have hfk := hfz k
   obtain ⟨v0, hv0⟩ := hce k hlt
   have HI := Lib.hid hi
   have HD := Lib.hid hdone
   have HN := Lib.hid hnl
   have HC := Lib.hid hce
   have HF := Lib.hid hfz
   have HB := Lib.hid hB
   clear hA hcell h' hi hdone hnl hce hfz hB h
   go_wp2_with fail
   refine (laws_toInt64S' _ _ _ _ _ HI.out hn).mono ?_
   rintro e w1 ⟨rfl, hI1, hB1, hS1, hF1⟩
   have hv1 : w1.cell? ⟨g, k, none⟩ = some v0 := by rw [hB1.cell (p := ⟨g, k, none⟩) hgs]; exact hv0
   have hf1 : w1.frozen? ⟨g, k, none⟩ = false := by rw [hB1.frozen (p := ⟨g, k, none⟩) hgs]; exact hfk
   have HI1 := Lib.hid hI1
   have HF1 := Lib.hid hF1
   have HS1 := Lib.hid hS1
   have HB1 := Lib.hid hB1
   clear hI1 hB1 hF1
   go_wp2
   go_roundw
   case rel =>
    have hB1 := HB1.out
    have hn' := HN.out
    refine ⟨k + 1, by omega, by go_num, ⟨⟨(HB.out.trans (hB1.mono (by omega))).setCell (Nat.le_refl _) _, by simp; omega, fun j hj => ?_, fun j => ?_⟩, fun j hj => ?_⟩⟩
    ·by_cases hjk : j = k
     ·subst hjk; exact ⟨_, World.cell?_setCell_same _ _ _ hv1⟩
     ·obtain ⟨v, hv⟩ := HC.out j hj
      exact ⟨v, by rw [World.cell?_setCell_other _ _ _ _ (by simp <;> omega), hB1.cell (p := ⟨g, j, none⟩) hgs]; exact hv⟩
    ·simp; rw [hB1.frozen (p := ⟨g, j, none⟩) hgs]; exact HF.out j
    ·by_cases hjk : j = k
     ·subst hjk
      have hS1 := HS1.out
      refine ⟨wr.heap.size, hgs, ?_, ?_, by simp; exact hS1, fun i => by simp; exact HF1.out i⟩
      ·rw [hn', World.cell?_setCell_same _ _ _ hv1]
      ·rw [hn']; exact HI1.out.set (by simp <;> omega)
     ·obtain ⟨G, hG, hcG, hiG, hGs, hGf⟩ := HD.out j (by omega)
      have := World.block_lt_of_cell? wr _ hcG
      have hs1 := HS1.out
      refine ⟨G, hG, ?_, ?_, by simp; omega, fun i => by simp; rw [hB1.frozen (p := ⟨G, i, none⟩) hGs]; exact hGf i⟩
      ·rw [World.cell?_setCell_other _ _ _ _ (by simp <;> omega), hB1.cell (p := ⟨g, j, none⟩) hgs]; exact hcG
      ·exact (hiG.below hB1).set (by simp <;> omega)
   case measure => simp [intOf]; omega
  ·obtain rfl : k = len := by omega
   obtain ⟨⟨hB, hgs, hce, hfz⟩, hdone⟩ := hA.out
   have hfin : IsTs wr (some ⟨g, 0, none⟩) k k ts := by
    refine ⟨hzl, Nat.le_refl _, by unfold maxLen; omega, by simp, fun x hx i hi => ?_⟩
    cases hx
    obtain ⟨G, hG, hc, hi, _, _⟩ := hdone i hi
    exact ⟨_, _, _, by rw [addr_add', Nat.zero_add]; exact hc, hi⟩
   have hrow : Rows g wr.heap.size wr g 0 k ts := by
    intro j hj
    obtain ⟨G, hG, hc, hi, hGs, hGf⟩ := hdone j hj
    refine ⟨G, 0, (ts.getD j []).length, by omega, by rw [Nat.zero_add]; exact hc, by omega, hGs, hGs, fun i hi' => ⟨⟨.int .i64 ((ts.getD j []).getD i 0), ?_⟩, hGf (0 + i)⟩⟩
    have := hi.2.2.2.2.2 _ rfl i hi'
    rwa [addr_add'] at this
   have HRW := Lib.hid hrow
   have HF := Lib.hid hfin
   have HB := Lib.hid hB
   clear hA hB hce hfz hdone hfin hrow h
   go_wp2
   go_ret
   exact ⟨rfl, HF.out, HB.out, hgs, HRW.out⟩
set_option maxHeartbeats 400000 in
theorem laws_toMesh' (pa ta : Option Addr) (pl pc tl tc : Nat) (cs : List C3) (ts : List (List Int)) (w : World) (hp : IsVs w pa pl pc cs) (ht : IsTs w ta tl tc ts) (hs : Small cs ts) :
  Calls Tryz.prog 67 #[.agg #[.slice pa pl pc, .slice ta tl tc]] w fun e w' => (∃ b b', e = .returned (.agg #[.slice (some ⟨b, 0, none⟩) pl pl, .slice (some ⟨b', 0, none⟩) tl tl]) ∧ w.heap.size ≤ b ∧ b < b' ∧ IsVs w' (some ⟨b, 0, none⟩) pl pl cs ∧ IsTs w' (some ⟨b', 0, none⟩) tl tl ts ∧ ∃ hi, hi ≤ w'.heap.size ∧ OwnM w.heap.size hi w' b 0 b' 0 pl tl ts) ∧ Below w.heap.size w w' := by
 have hpl := hp.1
 have htl := ht.1
 obtain ⟨s1, s2, s3⟩ := hs
 rw [hpl] at s1
 rw [htl] at s2 s3
 have hT := Lib.hid ht
 have hP := Lib.hid hp
 have hS3 := Lib.hid s3
 clear hp ht s3 hpl htl
 have ul := Tryz.underlying25
 have ui := Tryz.underlying40
 go_enter Tryz.func67, Tryz.ntmps67
 go_wp2_with fail
 have hB0 : Below w.heap.size w (((w.alloc (.cells #[.slice pa pl pc, .slice ta tl tc] 25)).alloc (.cells #[.slice none 0 0, .slice none 0 0] 40)).alloc (.cells #[.slice none 0 0, .slice none 0 0] 40)) :=
  (((Below.refl _ _).alloc (Nat.le_refl _) _).alloc (by simp) _).alloc (by simp <;> omega) _
 have c1 : (((w.alloc (.cells #[.slice pa pl pc, .slice ta tl tc] 25)).alloc (.cells #[.slice none 0 0, .slice none 0 0] 40)).alloc (.cells #[.slice none 0 0, .slice none 0 0] 40)).cell? ⟨w.heap.size, 1, none⟩ = some (.slice ta tl tc) := by go_simp
 have cs0 : ∀ i, i < 2 → (((w.alloc (.cells #[.slice pa pl pc, .slice ta tl tc] 25)).alloc (.cells #[.slice none 0 0, .slice none 0 0] 40)).alloc (.cells #[.slice none 0 0, .slice none 0 0] 40)).cell? ⟨w.heap.size + 1 + 1, i, none⟩ = some (.slice none 0 0) := by
  intro i hi
  have : i = 0 ∨ i = 1 := by omega
  rcases this with rfl | rfl <;> go_simp
 have cr0 : ∀ i, i < 2 → (((w.alloc (.cells #[.slice pa pl pc, .slice ta tl tc] 25)).alloc (.cells #[.slice none 0 0, .slice none 0 0] 40)).alloc (.cells #[.slice none 0 0, .slice none 0 0] 40)).cell? ⟨w.heap.size + 1, i, none⟩ = some (.slice none 0 0) := by
  intro i hi
  have : i = 0 ∨ i = 1 := by omega
  rcases this with rfl | rfl <;> go_simp
 have fs0 : ∀ i, (((w.alloc (.cells #[.slice pa pl pc, .slice ta tl tc] 25)).alloc (.cells #[.slice none 0 0, .slice none 0 0] 40)).alloc (.cells #[.slice none 0 0, .slice none 0 0] 40)).frozen? ⟨w.heap.size + 1 + 1, i, none⟩ = false := by intro i; go_simp
 have fr0 : ∀ i, (((w.alloc (.cells #[.slice pa pl pc, .slice ta tl tc] 25)).alloc (.cells #[.slice none 0 0, .slice none 0 0] 40)).alloc (.cells #[.slice none 0 0, .slice none 0 0] 40)).frozen? ⟨w.heap.size + 1, i, none⟩ = false := by intro i; go_simp
 have hsz : (((w.alloc (.cells #[.slice pa pl pc, .slice ta tl tc] 25)).alloc (.cells #[.slice none 0 0, .slice none 0 0] 40)).alloc (.cells #[.slice none 0 0, .slice none 0 0] 40)).heap.size = w.heap.size + 1 + 1 + 1 := by simp
 generalize (((w.alloc (.cells #[.slice pa pl pc, .slice ta tl tc] 25)).alloc (.cells #[.slice none 0 0, .slice none 0 0] 40)).alloc (.cells #[.slice none 0 0, .slice none 0 0] 40)) = W at *
 obtain ⟨n, hn⟩ : ∃ n, n = w.heap.size := ⟨_, rfl⟩
 refine (laws_toVectorS' _ _ _ _ _ (hP.out.below hB0) s1).mono ?_
 rintro e w1 ⟨rfl, hV, hB1, hS1, hF1⟩
 have HF1 := Lib.hid hF1
 clear hF1
 have lt0 : w.heap.size < W.heap.size := by rw [hsz]; omega
 have lt1 : w.heap.size + 1 < W.heap.size := by rw [hsz]; omega
 have lt2 : w.heap.size + 1 + 1 < W.heap.size := by rw [hsz]; omega
 have d1 : w1.cell? ⟨w.heap.size, 1, none⟩ = some (.slice ta tl tc) := by rw [hB1.cell (p := ⟨w.heap.size, 1, none⟩) lt0]; exact c1
 have d2 : w1.cell? ⟨w.heap.size + 1 + 1, 0, none⟩ = some (.slice none 0 0) := by rw [hB1.cell (p := ⟨w.heap.size + 1 + 1, 0, none⟩) lt2]; exact cs0 0 (by decide)
 have d3 : w1.cell? ⟨w.heap.size + 1 + 1, 1, none⟩ = some (.slice none 0 0) := by rw [hB1.cell (p := ⟨w.heap.size + 1 + 1, 1, none⟩) lt2]; exact cs0 1 (by decide)
 have d4 : w1.cell? ⟨w.heap.size + 1, 0, none⟩ = some (.slice none 0 0) := by rw [hB1.cell (p := ⟨w.heap.size + 1, 0, none⟩) lt1]; exact cr0 0 (by decide)
 have d5 : w1.cell? ⟨w.heap.size + 1, 1, none⟩ = some (.slice none 0 0) := by rw [hB1.cell (p := ⟨w.heap.size + 1, 1, none⟩) lt1]; exact cr0 1 (by decide)
 have g2 : w1.frozen? ⟨w.heap.size + 1 + 1, 0, none⟩ = false := by rw [hB1.frozen (p := ⟨w.heap.size + 1 + 1, 0, none⟩) lt2]; exact fs0 0
 have g3 : w1.frozen? ⟨w.heap.size + 1 + 1, 1, none⟩ = false := by rw [hB1.frozen (p := ⟨w.heap.size + 1 + 1, 1, none⟩) lt2]; exact fs0 1
 have g4 : w1.frozen? ⟨w.heap.size + 1, 0, none⟩ = false := by rw [hB1.frozen (p := ⟨w.heap.size + 1, 0, none⟩) lt1]; exact fr0 0
 have g5 : w1.frozen? ⟨w.heap.size + 1, 1, none⟩ = false := by rw [hB1.frozen (p := ⟨w.heap.size + 1, 1, none⟩) lt1]; exact fr0 1
 have hBW : Below w.heap.size w w1 := hB0.trans (hB1.mono (by rw [hsz]; omega))
 have hz : w.heap.size + 1 + 1 + 1 < w1.heap.size := by rw [← hsz]; exact hS1
 have HV := Lib.hid hV
 have HBW := Lib.hid hBW
 have HSZ := Lib.hid hsz
 generalize W.heap.size = B at *
 clear c1 cs0 cr0 fs0 fr0 hB0 hB1 hV hBW hsz lt0 lt1 lt2 hn
 go_wp2_with fail
 have hB2 : Below w.heap.size w (w1.setCell ⟨w.heap.size + 1 + 1, 0, none⟩ (.slice (some ⟨B, 0, none⟩) pl pl)) := HBW.out.setCell (by show w.heap.size ≤ w.heap.size + 1 + 1; omega) _
 have e2 := World.cell?_setCell_same w1 ⟨w.heap.size + 1 + 1, 0, none⟩ (.slice (some ⟨B, 0, none⟩) pl pl) d2
 have e3 : (w1.setCell ⟨w.heap.size + 1 + 1, 0, none⟩ (.slice (some ⟨B, 0, none⟩) pl pl)).cell? ⟨w.heap.size + 1 + 1, 1, none⟩ = some (.slice none 0 0) := by rw [World.cell?_setCell_other _ _ _ _ (by simp)]; exact d3
 have e4 : (w1.setCell ⟨w.heap.size + 1 + 1, 0, none⟩ (.slice (some ⟨B, 0, none⟩) pl pl)).cell? ⟨w.heap.size + 1, 0, none⟩ = some (.slice none 0 0) := by rw [World.cell?_setCell_other _ _ _ _ (by simp)]; exact d4
 have e5 : (w1.setCell ⟨w.heap.size + 1 + 1, 0, none⟩ (.slice (some ⟨B, 0, none⟩) pl pl)).cell? ⟨w.heap.size + 1, 1, none⟩ = some (.slice none 0 0) := by rw [World.cell?_setCell_other _ _ _ _ (by simp)]; exact d5
 have k3 : (w1.setCell ⟨w.heap.size + 1 + 1, 0, none⟩ (.slice (some ⟨B, 0, none⟩) pl pl)).frozen? ⟨w.heap.size + 1 + 1, 1, none⟩ = false := by simp; exact g3
 have k4 : (w1.setCell ⟨w.heap.size + 1 + 1, 0, none⟩ (.slice (some ⟨B, 0, none⟩) pl pl)).frozen? ⟨w.heap.size + 1, 0, none⟩ = false := by simp; exact g4
 have k5 : (w1.setCell ⟨w.heap.size + 1 + 1, 0, none⟩ (.slice (some ⟨B, 0, none⟩) pl pl)).frozen? ⟨w.heap.size + 1, 1, none⟩ = false := by simp; exact g5
 have hV2 : IsVs (w1.setCell ⟨w.heap.size + 1 + 1, 0, none⟩ (.slice (some ⟨B, 0, none⟩) pl pl)) (some ⟨B, 0, none⟩) pl pl cs := HV.out.set (by rw [HSZ.out]; show w.heap.size + 1 + 1 ≠ w.heap.size + 1 + 1 + 1; omega)
 have hsz2 : (w1.setCell ⟨w.heap.size + 1 + 1, 0, none⟩ (.slice (some ⟨B, 0, none⟩) pl pl)).heap.size = w1.heap.size := by simp
 have hF2 : ∀ i, (w1.setCell ⟨w.heap.size + 1 + 1, 0, none⟩ (.slice (some ⟨B, 0, none⟩) pl pl)).frozen? ⟨B, i, none⟩ = false := fun i => by simp; exact HF1.out i
 have HF2 := Lib.hid hF2
 have hS2 : B < (w1.setCell ⟨w.heap.size + 1 + 1, 0, none⟩ (.slice (some ⟨B, 0, none⟩) pl pl)).heap.size := by simp; exact hS1
 have HS2 := Lib.hid hS2
 clear hF2 hS2 HF1 d1 d2 d3 d4 d5 g2 g3 g4 g5
 generalize (w1.setCell ⟨w.heap.size + 1 + 1, 0, none⟩ (.slice (some ⟨B, 0, none⟩) pl pl)) = W2 at *
 have lt1 : w.heap.size + 1 < W2.heap.size := by rw [hsz2]; omega
 have lt2 : w.heap.size + 1 + 1 < W2.heap.size := by rw [hsz2]; omega
 refine (laws_toInt64SS' _ _ _ _ _ (hT.out.below hB2) s2 hS3.out).mono ?_
 rintro e w3 ⟨rfl, hT3, hB3, hS3', hR3⟩
 have HF3 := Lib.hid (fun i => (hB3.frozen (p := ⟨B, i, none⟩) HS2.out).trans (HF2.out i))
 have HR3 := Lib.hid hR3
 have HS3 := Lib.hid (Nat.lt_of_lt_of_le HS2.out hB3.size)
 have HSB := Lib.hid hS3'
 clear hR3
 have d2 : w3.cell? ⟨w.heap.size + 1 + 1, 0, none⟩ = some (.slice (some ⟨B, 0, none⟩) pl pl) := by rw [hB3.cell (p := ⟨w.heap.size + 1 + 1, 0, none⟩) lt2]; exact e2
 have d3 : w3.cell? ⟨w.heap.size + 1 + 1, 1, none⟩ = some (.slice none 0 0) := by rw [hB3.cell (p := ⟨w.heap.size + 1 + 1, 1, none⟩) lt2]; exact e3
 have d4 : w3.cell? ⟨w.heap.size + 1, 0, none⟩ = some (.slice none 0 0) := by rw [hB3.cell (p := ⟨w.heap.size + 1, 0, none⟩) lt1]; exact e4
 have d5 : w3.cell? ⟨w.heap.size + 1, 1, none⟩ = some (.slice none 0 0) := by rw [hB3.cell (p := ⟨w.heap.size + 1, 1, none⟩) lt1]; exact e5
 have g3 : w3.frozen? ⟨w.heap.size + 1 + 1, 1, none⟩ = false := by rw [hB3.frozen (p := ⟨w.heap.size + 1 + 1, 1, none⟩) lt2]; exact k3
 have g4 : w3.frozen? ⟨w.heap.size + 1, 0, none⟩ = false := by rw [hB3.frozen (p := ⟨w.heap.size + 1, 0, none⟩) lt1]; exact k4
 have g5 : w3.frozen? ⟨w.heap.size + 1, 1, none⟩ = false := by rw [hB3.frozen (p := ⟨w.heap.size + 1, 1, none⟩) lt1]; exact k5
 have HV3 := Lib.hid (hV2.below hB3)
 have HT3 := Lib.hid hT3
 have HB3 := Lib.hid (hB2.trans (hB3.mono (by rw [hsz2]; omega)))
 have HSZ2 := Lib.hid hsz2
 have HZ := Lib.hid hz
 generalize W2.heap.size = B2 at *
 clear hV2 hT3 hB3 hB2 e2 e3 e4 e5 k3 k4 k5 hsz2 lt1 lt2 hz hS1 hS3'
 go_wp2
 have x0 : ∀ u, ((w3.setCell ⟨w.heap.size + 1 + 1, 1, none⟩ u).cell? ⟨w.heap.size + 1, 0, none⟩) = some (.slice none 0 0) := fun u => by rw [World.cell?_setCell_other _ _ _ _ (by simp)]; exact d4
 have x1 : ∀ u v, (((w3.setCell ⟨w.heap.size + 1 + 1, 1, none⟩ u).setCell ⟨w.heap.size + 1, 0, none⟩ v).cell? ⟨w.heap.size + 1, 1, none⟩) = some (.slice none 0 0) := fun u v => by rw [World.cell?_setCell_other _ _ _ _ (by simp), World.cell?_setCell_other _ _ _ _ (by simp)]; exact d5
 have r1 : ∀ u v t, ((((w3.setCell ⟨w.heap.size + 1 + 1, 1, none⟩ u).setCell ⟨w.heap.size + 1, 0, none⟩ v).setCell ⟨w.heap.size + 1, 1, none⟩ t).cell? ⟨w.heap.size + 1, 1, none⟩) = some t := fun u v t => World.cell?_setCell_same _ _ _ (x1 u v)
 have r0 : ∀ u v t, ((((w3.setCell ⟨w.heap.size + 1 + 1, 1, none⟩ u).setCell ⟨w.heap.size + 1, 0, none⟩ v).setCell ⟨w.heap.size + 1, 1, none⟩ t).cell? ⟨w.heap.size + 1, 0, none⟩) = some v := fun u v t => by rw [World.cell?_setCell_other _ _ _ _ (by simp)]; exact World.cell?_setCell_same _ _ _ (x0 u)
 have hB := HSZ.out
 have hB2 := HSZ2.out
 have hz := HZ.out
 have n1 : ∀ z, (.slice none 0 0 : Value) ≠ .int .i64 z := fun z h => by cases h
 refine bodyPost_ret (v := .agg #[.slice (some ⟨B, 0, none⟩) pl pl, .slice (some ⟨B2, 0, none⟩) tl tl]) (by simp [results, Tryz.results67, go_sem, r0, r1]) rfl ⟨⟨B, B2, rfl, by omega, by omega, ?_, ?_, w3.heap.size, by simp, ?_⟩, ?_⟩
 ·exact ((HV3.out.set (by show w.heap.size + 1 + 1 ≠ B; omega)).set (by show w.heap.size + 1 ≠ B; omega)).set (by show w.heap.size + 1 ≠ B; omega)
 ·exact ((HT3.out.setN (by show w.heap.size + 1 + 1 ≠ B2; omega) d3 n1).setN (by show w.heap.size + 1 ≠ B2; omega) (x0 _) n1).setN (by show w.heap.size + 1 ≠ B2; omega) (x1 _ _) n1
 ·refine OwnM.mark (w := w3) (lo' := 0) (hi' := w.heap.size + 3) ⟨⟨by omega, HS3.out, HS3.out, fun j hj => ⟨cells_of HV3.out j hj, by rw [Nat.zero_add]; exact HF3.out j⟩⟩, HR3.out.wide (by omega), by omega, HSB.out⟩ (((Mark.set (Nat.zero_le _) (by omega)).trans (Mark.set (Nat.zero_le _) (by omega))).trans (Mark.set (Nat.zero_le _) (by omega))) (fun i => ?_)
  rw [World.cell?_setCell_other _ _ _ _ (by simp <;> omega), World.cell?_setCell_other _ _ _ _ (by simp <;> omega), World.cell?_setCell_other _ _ _ _ (by simp <;> omega)]
 ·exact ((HB3.out.setCell (by show w.heap.size ≤ w.heap.size + 1 + 1; omega) _).setCell (by show w.heap.size ≤ w.heap.size + 1; omega) _).setCell (by show w.heap.size ≤ w.heap.size + 1; omega) _
end Go.Proofs.YtabccmobmppdnaaGreat
namespace Go.Proofs.YtabccmobmppdnaaGreat
open Go Fk Go.RowKit
set_option linter.unusedVariables false
set_option maxRecDepth 8000
def Lst (lo hi : Nat) (w : World) (a : Option Addr) (n : Nat) : Prop := (a = none ∧ n = 0) ∨ ∃ b, a = some ⟨b, 0, none⟩ ∧ Own lo hi w b 0 n
theorem Own.below {lo hi : Nat} {w w' : World} {b o n : Nat} (h : Own lo hi w b o n) (hB : Below w.heap.size w w') : Own lo hi w' b o n :=
 ⟨h.1, h.2.1, Nat.lt_of_lt_of_le h.2.2.1 hB.size, fun j hj => by
  obtain ⟨⟨v, hv⟩, hf⟩ := h.2.2.2 j hj
  exact ⟨⟨v, cell_below hB hv⟩, by rw [hB.frozen (p := ⟨b, o + j, none⟩) h.2.2.1]; exact hf⟩⟩
theorem Lst.below {lo hi : Nat} {w w' : World} {a : Option Addr} {n : Nat} (h : Lst lo hi w a n) (hB : Below w.heap.size w w') : Lst lo hi w' a n :=
 h.imp id fun ⟨b, e, ho⟩ => ⟨b, e, ho.below hB⟩
theorem Lst.mark {lo hi lo' hi' : Nat} {w w' : World} {a : Option Addr} {n : Nat} (h : Lst lo hi w a n) (hM : Mark lo' hi' w w') : Lst lo hi w' a n :=
 h.imp id fun ⟨b, e, ho⟩ => ⟨b, e, ho.mark hM⟩
end Go.Proofs.YtabccmobmppdnaaGreat
namespace Go.Proofs.YtabccmobmppdnaaGreat
open Go Fk Go.RowKit
set_option linter.unusedVariables false
set_option maxRecDepth 8000
section
variable {P : Program} (w : World)
theorem wp_append_opt {o : Oper} {a : Act} {K : Act → World → Prop} {Q : Exit → Act → World → Prop} (s x : Operand) (t : TypeId)
  (ho : o.op = .call { callee := .builtin .append, args := #[s, x], argTypes := #[t, t] })
  (base : Nat) (e : TypeId) (i : TypeInfo) (z : Value) (size bytes : Nat) (ht : P.underlying t = some (.slice e)) (hi : P.info? e = some i) (hz : i.zero = some z)
  (hsize : i.size = size) (hby : i.bytes = bytes) (hzs : z.cells.size = size) (hsz : 0 < size)
  (v : Value) (n : Nat) (xs : List Value) (hs : a.eval s = v) (hown : w.ownsRow base e size v n xs)
  (oa : Option Addr) (m c : Nat) (news : List Value) (hx : a.eval x = .slice oa m c) (h0 : oa = none → m = 0 ∧ c = 0) (hl : news.length = m * size) (hnews : ∀ ad, oa = some ad → ∀ j u, news[j]? = some u → w.cell? (ad.add j) = some u) (h1 : ∀ u ∈ news, u.oneCell' = true)
  (h63 : n + m ≤ maxLen) (hbytes : (n + m) * bytes ≤ 140737488355328) (hbase : base ≤ w.heap.size)
  (h : ∀ v' w', w'.ownsRow base e size v' (n + m) (xs ++ news) → w.grownBy w' v.ownBlock → K (a.put o.dst v') w') : o.wp P a w K Q := by
 cases oa with
 | some ad => exact wp_append_own w s x t ho base e i z size bytes ht hi hz hsize hby hzs hsz v n xs hs hown ad m c news hx hl (hnews ad rfl) h1 h63 hbytes hbase fun v' w' h2 h3 _ => h v' w' h2 h3
 | none =>
  obtain ⟨rfl, rfl⟩ := h0 rfl
  have hn : news = [] := by apply List.eq_nil_of_length_eq_zero; omega
  subst hn
  have hr := run_append_owned_none (P := P) (w := w) base t o.type e i size ht hi v n xs hown
  unfold Oper.wp execOp
  simp only [ho, resolve, invoke, builtin, Sem.run_bind, Sem.run_pure, Result.andThen_ok, List.map_toArray, List.map_cons, List.map_nil, hs, hx, hr]
  exact h v w (by simpa using hown) ⟨rfl, rfl, rfl, Nat.le_refl _, fun _ _ _ => rfl⟩
theorem wpList_append_opt {ops : Array Oper} {rest : List Oper} {o : Oper} {a : Act} {Q : Exit → Act → World → Prop} (hgd : o.guard = none) (s x : Operand) (t : TypeId)
  (ho : o.op = .call { callee := .builtin .append, args := #[s, x], argTypes := #[t, t] })
  (base : Nat) (e : TypeId) (i : TypeInfo) (z : Value) (size bytes : Nat) (ht : P.underlying t = some (.slice e)) (hi : P.info? e = some i) (hz : i.zero = some z)
  (hsize : i.size = size) (hby : i.bytes = bytes) (hzs : z.cells.size = size) (hsz : 0 < size)
  (v : Value) (n : Nat) (xs : List Value) (hs : a.eval s = v) (hown : w.ownsRow base e size v n xs)
  (oa : Option Addr) (m c : Nat) (news : List Value) (hx : a.eval x = .slice oa m c) (h0 : oa = none → m = 0 ∧ c = 0) (hl : news.length = m * size) (hnews : ∀ ad, oa = some ad → ∀ j u, news[j]? = some u → w.cell? (ad.add j) = some u) (h1 : ∀ u ∈ news, u.oneCell' = true)
  (h63 : n + m ≤ maxLen) (hbytes : (n + m) * bytes ≤ 140737488355328) (hbase : base ≤ w.heap.size)
  (h : ∀ v' w', w'.ownsRow base e size v' (n + m) (xs ++ news) → w.grownBy w' v.ownBlock → wpList P ops Q rest (a.put o.dst v') w') : wpList P ops Q (o :: rest) a w :=
 wpList_plain hgd fun _ hK => wp_append_opt w s x t ho base e i z size bytes ht hi hz hsize hby hzs hsz v n xs hs hown oa m c news hx h0 hl hnews h1 h63 hbytes hbase fun v' w' h2 h3 => hK _ _ (h v' w' h2 h3)
end
theorem is_of_owns {w : World} {base n : Nat} {v : Value} {zs : List Int} (h : w.ownsRow base 2 1 v n (ints zs)) (hn : zs.length = n) (hz : ∀ z ∈ zs, (Lit.int .i64 z).wf = true) :
  ∃ a cap, v = .slice a n cap ∧ IsIs w a n cap zs ∧ ∀ x, a = some x → base ≤ x.block ∧ x.block < w.heap.size := by
 have h' := h
 obtain ⟨h1, h2⟩ := h
 rcases h2 with ⟨rfl, hn0⟩ | ⟨g, cap, cur, rfl, hb, hh, hc1, hc2, hs, ht⟩
 ·refine ⟨none, 0, by rw [hn0], ⟨hn, by omega, by unfold maxLen; omega, hz, fun _ => ⟨hn0, rfl⟩, fun x hx => by cases hx⟩, fun x hx => by cases hx⟩
 ·have hg := h'.lt g rfl
  refine ⟨_, cap, rfl, ⟨hn, hc1, hc2, hz, by simp, fun x hx i hi => ?_⟩, fun x hx => by cases hx; exact hg⟩
  cases hx
  rw [addr_add', Nat.zero_add, h'.cellAt i (by omega)]
  unfold ints
  simp [List.getD, hn, hi]
theorem l00Own (a : Option Addr) (len cap : Nat) (zs : List Int) (w : World) (h : IsIs w a len cap zs) (hlen : len ≤ 1048576) :
  Calls Tryz.prog 186 #[.slice a len cap] w fun e w' => (∃ v, e = .returned v ∧ w'.ownsRow w.heap.size 2 1 v len (ints zs)) ∧ Below w.heap.size w w' := by
 obtain ⟨i0, hi, hz0, hz1, hz2⟩ := info_parts info64
 have hzl := h.1
 have hzw := h.2.2.2.1
 have hil : (ints zs).length = len * 1 := by unfold ints; simp; exact hzl
 have H := Lib.hid h
 have HZ := Lib.hid hzw
 clear h hzw
 go_enter Tryz.func186, Tryz.ntmps186
 go_wp2_with (at_builtin; refine wpList_append_opt _ rfl _ _ 33 rfl w.heap.size 2 i0 (.int .i64 0) 1 8 Tryz.underlying33 hi hz0 hz1 hz2 rfl (by decide) _ 0 [] rfl (World.ownsRow_lit (e := 2) (size := 1) w #[] 0 (Nat.le_refl _) (by decide) rfl) a len cap (ints zs) rfl H.out.2.2.2.2.1 hil ?c2 ?c3 ?c4 ?c5 ?c6 ?_)
 case c2 =>
  intro ad had j u hu
  have hj : j < len := by
   have := (List.getElem?_eq_some_iff.1 hu).1; omega
  have hc := H.out.2.2.2.2.2 ad had j hj
  have : u = .int .i64 (zs.getD j 0) := by
   unfold ints at hu
   have hj' : j < zs.length := by omega
   simp [hj'] at hu
   simp [List.getD, hj', ← hu]
  rw [this, World.cell?_alloc_lt (h := World.block_lt_of_cell? _ _ hc)]
  exact hc
 case c3 =>
  intro u hu
  unfold ints at hu
  obtain ⟨z, _, rfl⟩ := List.mem_map.1 hu
  rfl
 case c4 => unfold maxLen; omega
 case c5 => omega
 case c6 => simp
 ·intro v' w1 hown hgrow
  have hB1 : Below w.heap.size w (w.alloc (.cells #[] 2)) := (Below.refl _ _).alloc (Nat.le_refl _) _
  have hB2 := hB1.grown hgrow hB1.size (fun k hk => by cases hk; exact Nat.le_refl _)
  have hown' : w1.ownsRow w.heap.size 2 1 v' len (ints zs) := by simpa using hown
  have HI := Lib.hid hown'
  have HB2 := Lib.hid hB2
  clear hown hown' hgrow hB1 hB2
  go_wp2
  go_ret
  exact ⟨⟨v', rfl, HI.out⟩, HB2.out⟩
end Go.Proofs.YtabccmobmppdnaaGreat
namespace Go.Proofs.YtabccmobmppdnaaGreat
open Go Fk Go.RowKit
set_option linter.unusedVariables false
set_option maxRecDepth 8000
theorem owns_up {w w' : World} {base : Nat} {e : TypeId} {size : Nat} {v : Value} {n : Nat} {xs : List Value} (h : w.ownsRow base e size v n xs) (hB : Below w.heap.size w w') : w'.ownsRow base e size v n xs :=
 h.kept (row := none) ⟨hB.os, hB.tape, hB.output, hB.size, fun k hk _ => hB.block k hk⟩ (by cases v.ownBlock <;> simp)
theorem owns_low {w : World} {base base' : Nat} {e : TypeId} {size : Nat} {v : Value} {n : Nat} {xs : List Value} (h : w.ownsRow base e size v n xs) (hb : base' ≤ base) : w.ownsRow base' e size v n xs := by
 obtain ⟨h1, h2⟩ := h
 refine ⟨h1, h2.imp id ?_⟩
 rintro ⟨g, cap, cur, e1, e2, e3⟩
 exact ⟨g, cap, cur, e1, Nat.le_trans hb e2, e3⟩
theorem owns_ne {w : World} {b1 b2 : Nat} {e1 e2 : TypeId} {s1 s2 : Nat} {v1 v2 : Value} {n1 n2 : Nat} {x1 x2 : List Value} (h1 : w.ownsRow b1 e1 s1 v1 n1 x1) (h2 : w.ownsRow b2 e2 s2 v2 n2 x2) (he : e1 ≠ e2) : v1.ownBlock = none ∨ v1.ownBlock ≠ v2.ownBlock := by
 rcases h1.2 with ⟨rfl, _⟩ | ⟨g, c, cur, rfl, _, hg, _⟩
 ·exact .inl rfl
 ·right
  rcases h2.2 with ⟨rfl, _⟩ | ⟨g2, c2, cur2, rfl, _, hg2, _⟩
  ·simp [Value.ownBlock]
  ·simp only [Value.ownBlock]
   intro e
   cases e
   rw [hg] at hg2
   cases hg2
   exact he rfl
theorem owns_side {w w' : World} {b1 b2 : Nat} {e1 e2 : TypeId} {s1 s2 : Nat} {v1 v2 : Value} {n1 n2 : Nat} {x1 x2 : List Value} (h1 : w.ownsRow b1 e1 s1 v1 n1 x1) (h2 : w.ownsRow b2 e2 s2 v2 n2 x2) (he : e1 ≠ e2) (hg : w.grownBy w' v2.ownBlock) : w'.ownsRow b1 e1 s1 v1 n1 x1 :=
 h1.kept hg (owns_ne h1 h2 he)
theorem grown_set (w : World) (X j : Nat) (u : Value) : w.grownBy (w.setCell ⟨X, j, none⟩ u) (some X) :=
 ⟨rfl, rfl, rfl, by simp, fun k _ hk => Below.heap_setCell _ _ _ _ (fun e => hk (by rw [e]))⟩
theorem owns_slice {w : World} {base : Nat} {v : Value} {n : Nat} {e : TypeId} {s : Nat} {xs : List Value} (h : w.ownsRow base e s v n xs) : ∃ a c, v = .slice a n c := by
 rcases h.2 with ⟨rfl, e⟩ | ⟨g, c, _, rfl, _⟩
 ·exact ⟨none, 0, by rw [e]⟩
 ·exact ⟨_, _, rfl⟩
theorem OwnT.slice {base n : Nat} {w : World} {v : Value} {ts : List (List Int)} (h : ∃ rows : List Value, w.ownsRow base 33 1 v n rows ∧ ∀ j, j < n → ∃ u, rows[j]? = some u ∧ w.ownsRow base 2 1 u (ts.getD j []).length (ints (ts.getD j []))) : ∃ a c, v = .slice a n c := owns_slice h.choose_spec.1
theorem owns_one {w : World} {base : Nat} {v : Value} {n : Nat} {e : TypeId} {s : Nat} {xs : List Value} (h : w.ownsRow base e s v n xs) : v.oneCell' = true := by
 rcases h.2 with ⟨rfl, _⟩ | ⟨g, c, cur, rfl, _⟩ <;> rfl
def OwnT (base : Nat) (w : World) (v : Value) (n : Nat) (ts : List (List Int)) : Prop := ∃ rows : List Value, w.ownsRow base 33 1 v n rows ∧ ∀ j, j < n → ∃ u, rows[j]? = some u ∧ w.ownsRow base 2 1 u (ts.getD j []).length (ints (ts.getD j []))
theorem OwnT.up {base n : Nat} {w w' : World} {v : Value} {ts : List (List Int)} (h : OwnT base w v n ts) (hB : Below w.heap.size w w') : OwnT base w' v n ts := by
 obtain ⟨rows, h1, h2⟩ := h
 refine ⟨rows, owns_up h1 hB, fun j hj => ?_⟩
 obtain ⟨u, e1, e2⟩ := h2 j hj
 exact ⟨u, e1, owns_up e2 hB⟩
theorem OwnT.low {base base' n : Nat} {w : World} {v : Value} {ts : List (List Int)} (h : OwnT base w v n ts) (hb : base' ≤ base) : OwnT base' w v n ts := by
 obtain ⟨rows, h1, h2⟩ := h
 refine ⟨rows, owns_low h1 hb, fun j hj => ?_⟩
 obtain ⟨u, e1, e2⟩ := h2 j hj
 exact ⟨u, e1, owns_low e2 hb⟩
theorem OwnT.side {base n b2 : Nat} {w w' : World} {v v2 : Value} {ts : List (List Int)} {e2 : TypeId} {s2 n2 : Nat} {x2 : List Value} (h : OwnT base w v n ts) (k : w.ownsRow b2 e2 s2 v2 n2 x2) (hg : w.grownBy w' v2.ownBlock) (he : 33 ≠ e2) (he' : 2 ≠ e2) : OwnT base w' v n ts := by
 obtain ⟨rows, h1, h2⟩ := h
 refine ⟨rows, owns_side h1 k he hg, fun j hj => ?_⟩
 obtain ⟨u, e1, e2⟩ := h2 j hj
 exact ⟨u, e1, owns_side e2 k he' hg⟩
theorem OwnT.snoc {base k : Nat} {w w' : World} {v v' : Value} {ts : List (List Int)} {rows : List Value} {u : Value} (h1 : w.ownsRow base 33 1 v k rows) (h2 : ∀ j, j < k → ∃ u, rows[j]? = some u ∧ w.ownsRow base 2 1 u (ts.getD j []).length (ints (ts.getD j [])))
  (hu : w.ownsRow base 2 1 u (ts.getD k []).length (ints (ts.getD k []))) (hg : w.grownBy w' v.ownBlock) (hv : w'.ownsRow base 33 1 v' (k + 1) (rows ++ [u])) : OwnT base w' v' (k + 1) ts := by
 refine ⟨_, hv, fun j hj => ?_⟩
 have hl : rows.length = k := by rw [h1.1]; omega
 by_cases hjk : j < k
 ·obtain ⟨u', e1, e2⟩ := h2 j hjk
  exact ⟨u', by rw [List.getElem?_append_left (by omega)]; exact e1, owns_side e2 h1 (by decide) hg⟩
 ·obtain rfl : j = k := by omega
  exact ⟨u, by rw [List.getElem?_append_right (by omega), hl]; simp, owns_side hu h1 (by decide) hg⟩
theorem OwnT.is {base n : Nat} {w : World} {v : Value} {ts : List (List Int)} (h : OwnT base w v n ts) (hn : ts.length = n) (hz : ∀ j, j < n → ∀ z ∈ ts.getD j [], (Lit.int .i64 z).wf = true) : ∃ a cap, v = .slice a n cap ∧ IsTs w a n cap ts := by
 obtain ⟨rows, h1, h2⟩ := h
 have h1' := h1
 rcases h1.2 with ⟨rfl, hn0⟩ | ⟨g, cap, cur, rfl, hb, hh, hc1, hc2, hs, ht⟩
 ·exact ⟨none, 0, by rw [hn0], hn, by omega, by unfold maxLen; omega, fun _ => ⟨hn0, rfl⟩, fun x hx => by cases hx⟩
 ·refine ⟨_, cap, rfl, hn, hc1, hc2, by simp, fun x hx i hi => ?_⟩
  cases hx
  obtain ⟨u, e1, e2⟩ := h2 i hi
  obtain ⟨b, c, rfl, hI, _⟩ := is_of_owns e2 rfl (hz i hi)
  exact ⟨b, _, c, by rw [addr_add', Nat.zero_add, h1'.cellAt i (by omega)]; exact e1, hI⟩
def PV (n : Nat) (xs : List Value) (cs : List C3) : Prop := ∀ j, j < n → ∃ p q r, xs[j * 3]? = some (.float .f32 p) ∧ xs[j * 3 + 1]? = some (.float .f32 q) ∧ xs[j * 3 + 2]? = some (.float .f32 r) ∧ FV .f32 p (cs.getD j c0).1 ∧ FV .f32 q (cs.getD j c0).2.1 ∧ FV .f32 r (cs.getD j c0).2.2
theorem vs_cells {w : World} {a : Option Addr} {n cap : Nat} {cs : List C3} (h : IsVs w a n cap cs) : ∃ xs : List Value, xs.length = n * 3 ∧ (∀ ad, a = some ad → ∀ j u, xs[j]? = some u → w.cell? (ad.add j) = some u) ∧ (∀ u ∈ xs, u.oneCell' = true) ∧ PV n xs cs := by
 obtain ⟨h1, h2, h3, h4, h5⟩ := h
 cases a with
 | none =>
  obtain ⟨rfl, _⟩ := h4 rfl
  exact ⟨[], rfl, ⟨fun _ had => (by cases had), fun u hu => absurd hu (by simp), fun j hj => absurd hj (by omega)⟩⟩
 | some x =>
  have hc : ∀ j, j < n * 3 → ∃ p, w.cell? (x.add j) = some (.float .f32 p) := by
   intro j hj
   obtain ⟨p, q, r, k0, k1, k2, _⟩ := h5 x rfl (j / 3) (by omega)
   have : j = j / 3 * 3 ∨ j = j / 3 * 3 + 1 ∨ j = j / 3 * 3 + 2 := by omega
   rcases this with e | e | e
   ·exact ⟨p, by rw [e]; exact k0⟩
   ·exact ⟨q, by rw [e]; exact k1⟩
   ·exact ⟨r, by rw [e]; exact k2⟩
  refine ⟨(List.range (n * 3)).map fun j => (w.cell? (x.add j)).getD undef, by simp, fun ad had j u hu => ?_, fun u hu => ?_, fun j hj => ?_⟩
  ·cases had
   have hj : j < n * 3 := by have := (List.getElem?_eq_some_iff.1 hu).1; simpa using this
   obtain ⟨p, hp⟩ := hc j hj
   simp [hj, hp] at hu
   rw [hp, ← hu]
  ·obtain ⟨j, hj, rfl⟩ := List.mem_map.1 hu
   obtain ⟨p, hp⟩ := hc j (List.mem_range.1 hj)
   rw [hp]; rfl
  ·obtain ⟨p, q, r, k0, k1, k2, hf⟩ := h5 x rfl j hj
   have g0 : j * 3 < n * 3 := by omega
   have g1 : j * 3 + 1 < n * 3 := by omega
   have g2 : j * 3 + 2 < n * 3 := by omega
   exact ⟨p, q, r, by simp [g0, k0], by simp [g1, k1], by simp [g2, k2], hf⟩
theorem vs_of_owns {w : World} {base n : Nat} {v : Value} {xs : List Value} {cs : List C3} (h : w.ownsRow base 42 3 v n xs) (hn : cs.length = n) (hp : PV n xs cs) : ∃ a cap, v = .slice a n cap ∧ IsVs w a n cap cs := by
 have h' := h
 rcases h.2 with ⟨rfl, hn0⟩ | ⟨g, cap, cur, rfl, hb, hh, hc1, hc2, hs, ht⟩
 ·exact ⟨none, 0, by rw [hn0], hn, by omega, by unfold maxLen; omega, fun _ => ⟨hn0, rfl⟩, fun x hx => by cases hx⟩
 ·refine ⟨_, cap, rfl, hn, hc1, hc2, by simp, fun x hx i hi => ?_⟩
  cases hx
  obtain ⟨p, q, r, e0, e1, e2, hf⟩ := hp i hi
  exact ⟨p, q, r, by rw [addr_add', Nat.zero_add, h'.cellAt _ (by omega)]; exact e0, by rw [addr_add', Nat.zero_add, h'.cellAt _ (by omega)]; exact e1, by rw [addr_add', Nat.zero_add, h'.cellAt _ (by omega)]; exact e2, hf⟩
end Go.Proofs.YtabccmobmppdnaaGreat

/-
Texts in one: what LongsOf stands on, part 14. Conditions: those of each.
-/
import Derived.Test.YtmbekamnogbgaaaKLongsOf13

/-
Sums of lists: what the program and its model return, and that the law returns true. Conditions: none.
-/
namespace Go.Proofs.Ytmbekamnogbgaaa
open Go Fk Go.RowKit
set_option linter.unusedVariables false
set_option maxRecDepth 8000

def sumC (zs : List Nat) : Option Nat := zs.foldl (fun c z => fop .add .f32 c (cls .f32 z)) (some 0)
theorem sumC_snoc (zs : List Nat) (k : Nat) (hk : k < zs.length) : sumC (zs.take (k + 1)) = fop .add .f32 (sumC (zs.take k)) (cls .f32 (zs.getD k 0)) := by
  rw [List.take_succ_eq_append_getElem hk]
  unfold sumC
  rw [List.foldl_append]
  simp [List.getD, hk]
theorem FV_zero : FV .f32 0 (some 0) := ⟨by decide, by decide⟩
theorem FV_at {w : World} {a : Option Addr} {len cap : Nat} {zs : List Nat} (h : IsFs .f32 w a len cap zs) (k : Nat) (hk : k < len) : FV .f32 (zs.getD k 0) (cls .f32 (zs.getD k 0)) := by
  have hl := h.1
  have hkz : k < zs.length := by omega
  refine FV.self ?_
  rw [show zs.getD k 0 = zs[k] by simp [List.getD, hkz]]
  exact h.2.2.2.1 _ (List.getElem_mem _)

theorem impl_SumNumbers_many (a : Option Addr) (len cap : Nat) (w : World) (hf : ¬ len ≤ 256) :
    Calls Try.prog 173 #[.slice a len cap] w fun e w' => e = .returned (.tuple #[.float .f32 0, .bool false]) ∧ w' = w := by
  have h1 : (256 : Int) < len := by omega
  go_enter Try.func173, Try.ntmps173
  go_wp2
  go_ret2
  exact ⟨rfl, rfl⟩
set_option maxHeartbeats 400000 in
theorem impl_SumNumbers_few (a : Option Addr) (len cap : Nat) (zs : List Nat) (w : World) (ha : IsFs .f32 w a len cap zs) (hf : len ≤ 256) :
    Calls Try.prog 173 #[.slice a len cap] w fun e w' => ∃ r, e = .returned (.tuple #[.float .f32 r, .bool true]) ∧ FV .f32 r (sumC zs) ∧ ∃ n, w' = w.drewN n := by
  have u := Try.underlying31
  have h1 : ¬ (256 : Int) < len := by omega
  have hzl := ha.1
  go_enter Try.func173, Try.ntmps173
  go_wp2
  go_loopw [4, 12] (fun s i w' => ∃ k : Nat, k ≤ len ∧ i = .int .i64 k ∧ (∃ r, s = .float .f32 r ∧ FV .f32 r (sumC (zs.take k))) ∧ ∃ n, w' = w.drewN n) (fun _ i _ => len - (intOf i).toNat)
  case atStart => exact ⟨0, Nat.zero_le _, rfl, ⟨0, rfl, FV_zero⟩, 0, rfl⟩
  case round =>
    obtain ⟨k, hk, rfl, ⟨r, rfl, hr⟩, n, rfl⟩ := hrel
    by_cases hlt : k < len
    · obtain ⟨b1, o1, rfl, hcell1⟩ := IsFs_some ha (by omega)
      have c1 := hcell1 k hlt
      have hv := FV_at ha k hlt
      have hsn := Lib.hid (sumC_snoc zs k (by omega))
      generalize zs.getD k 0 = z at *
      clear hcell1 ha
      have hk0 : (0 : Int) ≤ (k : Int) := by omega
      have hk1 : (k : Int) < (len : Int) := by omega
      go_wp2
      go_roundw
      case rel => exact ⟨k + 1, by omega, by go_num, ⟨_, rfl, by rw [hsn.out]; exact FV_fR hr hv⟩, _, rfl⟩
      case measure => simp [intOf]; omega
    · have ht : zs.take k = zs := List.take_of_length_le (by omega)
      rw [ht] at hr
      go_wp2
      go_ret2
      exact ⟨_, rfl, hr, _, rfl⟩
end Go.Proofs.Ytmbekamnogbgaaa


/-
The lengths of edges in a list: what the program makes. Conditions: the edges' places are the mesh's.
-/

namespace Go.Proofs.Ytmbekamnogbgaaa
open Go Fk Go.RowKit Go.Maps Go.Sort
set_option linter.unusedVariables false
set_option maxRecDepth 16000

def longOf (cs : List C3) (e : Int × Int) : Option Nat := longE (cs.getD e.1.toNat c0) (cs.getD e.2.toNat c0)
theorem measured_long (a0 : Option Addr) (cap : Nat) (pa ta : Option Addr) (pl pc ml mc : Nat) (cs : List C3) (es : List (Int × Int)) (tl : Nat) (w : World) (hp : IsVs w pa pl pc cs) (hc : EdgesAt w a0 tl es) (htri : ∀ k, k < tl → ∃ m n : Nat, m < pl ∧ n < pl ∧ es.getD k (0, 0) = ((m : Int), (n : Int))) (hlen : tl ≤ 4096) :
    Calls Try.prog 137 #[.slice a0 tl cap, .func (.func 138) #[.agg #[.slice pa pl pc, .slice ta ml mc]] #[]] w fun e w' => ∃ zs, e = .returned (.slice (some ⟨w.heap.size, 0, none⟩) tl tl) ∧ IsFs .f32 w' (some ⟨w.heap.size, 0, none⟩) tl tl zs ∧ (∀ k, k < tl → FV .f32 (zs.getD k 0) (longOf cs (es.getD k (0, 0)))) ∧ Own w.heap.size w'.heap.size w' w.heap.size 0 tl ∧ Below w.heap.size w w' := by
  have u := Try.underlying31
  have ue := Try.underlying164
  obtain ⟨i0, hi, hz0, hz1, hz2⟩ := info_parts info32
  obtain ⟨g, hg⟩ : ∃ g, g = w.heap.size := ⟨_, rfl⟩
  have hmk : (Instr.makeSlice 32 (.int .i64 tl) (.int .i64 tl)).run Try.prog w = .ok (.slice (some ⟨g, 0, none⟩) tl tl) (w.alloc (.cells (madeCells #[.float .f32 0] tl) 31)) := by
    have := run_make (P := Try.prog) w 32 31 i0 (.float .f32 0) Try.underlying32 hi hz0 .i64 .i64 tl tl (by omega) (Int.le_refl _) (by rw [hz2]; omega) (by omega)
    rw [this, hz1, hg]; simp; rfl
  have hstart : Below w.heap.size w (w.alloc (.cells (madeCells #[.float .f32 0] tl) 31)) ∧ g < (w.alloc (.cells (madeCells #[.float .f32 0] tl) 31)).heap.size ∧
      (∀ j, j < tl → ∃ v, (w.alloc (.cells (madeCells #[.float .f32 0] tl) 31)).cell? ⟨g, j, none⟩ = some v) ∧ (∀ j, (w.alloc (.cells (madeCells #[.float .f32 0] tl) 31)).frozen? ⟨g, j, none⟩ = false) := by
    subst hg
    exact ⟨(Below.refl _ _).alloc (Nat.le_refl _) _, by simp, fun j hj => made_cell3 w _ tl j _ hj, fun j => by simp⟩
  rw [← hg] at hstart ⊢
  have HST := Lib.hid hstart
  have HG := Lib.hid hg
  clear hstart hg
  have HP := Lib.hid hp
  have HTRI := Lib.hid htri
  clear hp htri
  go_enter Try.func137, Try.ntmps137
  go_wp2
  generalize hw0 : w.alloc (.cells (madeCells #[.float .f32 0] tl) 31) = w0 at HST ⊢
  go_loopw [13] (fun i w' => ∃ k : Nat, k ≤ tl ∧ i = .int .i64 k ∧ Aside ((Below g w w' ∧ g < w'.heap.size ∧ (∀ j, j < tl → ∃ v, w'.cell? ⟨g, j, none⟩ = some v) ∧ (∀ j, w'.frozen? ⟨g, j, none⟩ = false)) ∧ ∃ zs : List Nat, zs.length = k ∧ ∀ j, j < k → w'.cell? ⟨g, j, none⟩ = some (.float .f32 (zs.getD j 0)) ∧ FV .f32 (zs.getD j 0) (longOf cs (es.getD j (0, 0))))) (fun i _ => tl - (intOf i).toNat)
  case atStart => exact ⟨0, Nat.zero_le _, rfl, HST.out, [], rfl, fun j hj => absurd hj (by omega)⟩
  case round =>
    obtain ⟨k, hk, rfl, hA⟩ := hrel
    by_cases hlt : k < tl
    · obtain ⟨⟨hB, hgs, hce, hfz⟩, zs, hzl, hdone⟩ := hA.out
      obtain ⟨ge, hge, z0, z1⟩ := (hc.below (HG.out ▸ hB)) k hlt
      obtain ⟨j0, j1, hj0, hj1, hek⟩ := HTRI.out k hlt
      rw [hek] at z0 z1
      have hk0 : (0 : Int) ≤ (k : Int) := by omega
      have hk1 : (k : Int) < (tl : Int) := by omega
      have hf0 := hfz k
      obtain ⟨v0, hv0⟩ := hce k hlt
      have hN := fun w' hp' => mesh_long pa ta pl pc ml mc cs j0 j1 w' hp' hj0 hj1
      have HEK := Lib.hid hek
      have HD := Lib.hid hdone
      have HC := Lib.hid hce
      have HF := Lib.hid hfz
      have HB := Lib.hid hB
      have HZL := Lib.hid hzl
      have HN := Lib.hid hN
      have lb := World.block_lt_of_cell? _ _ z0
      clear hA hdone hce hfz hB hzl hc hw0 HST hmk hj0 hj1 hi hN hek
      subst hge
      go_wp2_with fail
      have hG : Below wr.heap.size wr (wr.alloc (.cells #[.int .i64 j0, .int .i64 j1] 164)) := (Below.refl _ _).alloc (Nat.le_refl _) _
      have hWG : Below g w (wr.alloc (.cells #[.int .i64 j0, .int .i64 j1] 164)) := HB.out.trans (hG.mono (by omega))
      have HIP := Lib.hid ((HP.out.below (HG.out ▸ hWG)))
      have HGA := Lib.hid hG
      have HWG := Lib.hid hWG
      generalize (wr.alloc (.cells #[.int .i64 j0, .int .i64 j1] 164)) = W1 at *
      clear hG hWG
      refine (HN.out _ HIP.out).mono ?_
      rintro e w1 ⟨x, rfl, hx, hB1⟩
      have hbb : Below wr.heap.size wr w1 := HGA.out.trans (hB1.mono HGA.out.size)
      have hgs1 : g < w1.heap.size := by have := hbb.size; omega
      have hf1 : w1.frozen? ⟨g, k, none⟩ = false := by rw [hbb.frozen (p := ⟨g, k, none⟩) hgs]; exact hf0
      have hv1 : w1.cell? ⟨g, k, none⟩ = some v0 := cell_below hbb hv0
      have HBB := Lib.hid hbb
      have HX := Lib.hid hx
      clear hB1 hbb hx hv0 hf0 z0 z1
      go_wp2
      go_roundw
      case rel =>
        have hb1 := HBB.out
        have eo : ∀ j, j ≠ k → (w1.setCell ⟨g, k, none⟩ (.float .f32 x)).cell? ⟨g, j, none⟩ = wr.cell? ⟨g, j, none⟩ := by
          intro j hj
          rw [World.cell?_setCell_other _ _ _ _ (by simp <;> omega)]
          exact hb1.cell (p := ⟨g, j, none⟩) hgs
        have ek := World.cell?_setCell_same w1 ⟨g, k, none⟩ (.float .f32 x) hv1
        have hzk := HZL.out
        refine ⟨k + 1, by omega, by go_num, ⟨⟨(HB.out.trans (hb1.mono (by omega))).setCell (Nat.le_refl _) _, by simp <;> omega, fun j hj => ?_, fun j => ?_⟩, zs ++ [x], by simp [hzk], fun j hj => ?_⟩⟩
        · by_cases h0 : j = k
          · subst h0; exact ⟨_, ek⟩
          · obtain ⟨v, hv⟩ := HC.out j hj
            exact ⟨v, by rw [eo j h0]; exact hv⟩
        · simp; rw [hb1.frozen (p := ⟨g, j, none⟩) hgs]; exact HF.out j
        · by_cases hjk : j = k
          · have hgd : (zs ++ [x]).getD j 0 = x := by simp [List.getD, hjk, ← hzk]
            rw [hgd, hjk]; exact ⟨ek, by unfold longOf; rw [HEK.out]; exact HX.out⟩
          · have hjz : j < zs.length := by omega
            have hgd : (zs ++ [x]).getD j 0 = zs.getD j 0 := by simp [List.getD, List.getElem?_append_left hjz]
            rw [hgd, eo j hjk]; exact HD.out j (by omega)
      case measure => simp [intOf]; omega
    · obtain rfl : k = tl := by omega
      obtain ⟨⟨hB, hgs, hce, hfz⟩, zs, hzl, hdone⟩ := hA.out
      have hfin : IsFs .f32 wr (some ⟨g, 0, none⟩) k k zs := by
        refine ⟨hzl, Nat.le_refl _, by unfold maxLen; omega, ?_, by simp, fun x hx i hi => ?_⟩
        · intro z hz
          obtain ⟨i, hi, rfl⟩ := List.mem_iff_getElem.1 hz
          have := (hdone i (by omega)).2.1
          simpa [List.getD, hi] using this
        · cases hx
          rw [addr_add', Nat.zero_add]; exact (hdone i hi).1
      have HF := Lib.hid hfin
      have HB := Lib.hid hB
      have HD := Lib.hid (fun j hj => (hdone j hj).2)
      have HO : Hid (Own g wr.heap.size wr g 0 k) := Lib.hid ⟨Nat.le_refl _, hgs, hgs, fun j hj => by rw [Nat.zero_add]; exact ⟨hce j hj, hfz j⟩⟩
      clear hA hB hce hfz hdone hfin hc hmk hw0 HST
      go_wp2
      go_ret
      exact ⟨zs, rfl, HF.out, HD.out, HO.out, HB.out⟩
end Go.Proofs.Ytmbekamnogbgaaa


/-
Marks in rows of two numbers that lie beside one another. Conditions: none beyond their sizes.
-/
namespace Go.Proofs.Ytmbekamnogbgaaa
open Go Fk Go.RowKit
set_option linter.unusedVariables false
set_option maxRecDepth 8000
/-- The block R has n rows, which lie beside one another in the block F. -/
def FlatRows2 (w : World) (R F n : Nat) : Prop := ∀ j, j < n → ∃ c, w.cell? ⟨R, j, none⟩ = some (.slice (some ⟨F, j * 2, none⟩) 2 c)
theorem FlatRows2.same {w w' : World} {R F n : Nat} (h : FlatRows2 w R F n) (hs : ∀ i v, w.cell? ⟨R, i, none⟩ = some v → w'.cell? ⟨R, i, none⟩ = some v) : FlatRows2 w' R F n := fun j hj => by
  obtain ⟨c, hc⟩ := h j hj
  exact ⟨c, hs _ _ hc⟩
set_option maxHeartbeats 400000 in
theorem mark_flat2 (lo hi R F n cap : Nat) (k0 : Nat) (w : World) (hr : FlatRows2 w R F n) (ho : Own lo hi w F 0 (n * 2)) (hne : R ≠ F) (hl : n ≤ 1048576) (hk : k0 ≤ 1000000000000000000) :
    Calls Try.prog 63 #[.slice (some ⟨R, 0, none⟩) n cap, .int .i64 k0] w fun e w' => e = .returned (.int .i64 ((k0 + n * 2 : Nat) : Int)) ∧ (∀ j, j < n * 2 → w'.cell? ⟨F, j, none⟩ = some (.int .i64 ((k0 + j : Nat) : Int))) ∧ (∀ b i, b ≠ F → w'.cell? ⟨b, i, none⟩ = w.cell? ⟨b, i, none⟩) ∧ Mark lo hi w w' := by
  have H := Lib.hid hr
  have HO := Lib.hid ho
  have HNE := Lib.hid hne
  clear hr ho hne
  go_enter Try.func63, Try.ntmps63
  go_wp2
  go_loopw [1, 5] (fun q i w' => ∃ k : Nat, k ≤ n ∧ i = .int .i64 k ∧ q = .int .i64 ((k0 + k * 2 : Nat) : Int) ∧ Aside ((∀ j, j < k * 2 → w'.cell? ⟨F, j, none⟩ = some (.int .i64 ((k0 + j : Nat) : Int))) ∧ (∀ b i, b ≠ F → w'.cell? ⟨b, i, none⟩ = w.cell? ⟨b, i, none⟩) ∧ Mark lo hi w w')) (fun _ i _ => n - (intOf i).toNat)
  case atStart => exact ⟨0, Nat.zero_le _, rfl, by simp, fun j hj => absurd hj (by omega), fun _ _ _ => rfl, Mark.refl _ _ _⟩
  case round =>
    obtain ⟨k, hkl, rfl, rfl, hA⟩ := hrel
    by_cases hlt : k < n
    · obtain ⟨hdone, hsame, hM⟩ := hA.out
      obtain ⟨c, hc⟩ := H.out k hlt
      have hc' : wr.cell? ⟨R, k, none⟩ = some (.slice (some ⟨F, k * 2, none⟩) 2 c) := (hsame _ _ HNE.out).trans hc
      have hown : Own lo hi wr F (k * 2) 2 := by have := own_part (p := k * 2) (m := 2) (HO.out.mark hM) (by omega); rwa [Nat.zero_add] at this
      have HS := Lib.hid hsame
      have HM := Lib.hid hM
      have HW := Lib.hid hown
      have HD := Lib.hid hdone
      have hk0 : (0 : Int) ≤ (k : Int) := by omega
      have hk1 : (k : Int) < (n : Int) := by omega
      clear hA hsame hM hc hown hdone
      go_wp2_with fail
      refine (laws_markInt64S lo hi F (k * 2) 2 c (k0 + k * 2) wr HW.out (by omega)).mono ?_
      rintro e w1 ⟨rfl, hd, ho, hM1⟩
      have HO1 := Lib.hid ho
      have HD1 := Lib.hid hd
      have HM1 := Lib.hid hM1
      clear hd ho hM1
      go_wp2
      go_roundw
      case rel =>
        refine ⟨k + 1, by omega, by go_num, by congr 1 <;> omega, fun j hj => ?_, fun b i hb => (HO1.out b i (.inl hb)).trans (HS.out b i hb), HM.out.trans HM1.out⟩
        by_cases hj2 : j < k * 2
        · rw [HO1.out F j (.inr (.inl hj2))]; exact HD.out j hj2
        · have := HD1.out (j - k * 2) (by omega)
          rw [show k * 2 + (j - k * 2) = j by omega, show k0 + k * 2 + (j - k * 2) = k0 + j by omega] at this
          exact this
      case measure => simp [intOf]; omega
    · obtain rfl : k = n := by omega
      have HA := Lib.hid hA.out
      clear hA
      go_wp2
      go_ret
      exact ⟨rfl, HA.out.1, HA.out.2.1, HA.out.2.2⟩
theorem held_flat2 (R F n cap : Nat) (k0 : Nat) (w : World) (hr : FlatRows2 w R F n) (ho : ∀ j, j < n * 2 → w.cell? ⟨F, j, none⟩ = some (.int .i64 ((k0 + j : Nat) : Int))) (hl : n ≤ 1048576) (hk : k0 ≤ 1000000000000000000) :
    Calls Try.prog 64 #[.slice (some ⟨R, 0, none⟩) n cap, .int .i64 k0] w fun e w' => e = .returned (.int .i64 ((k0 + n * 2 : Nat) : Int)) ∧ w' = w := by
  have H := Lib.hid hr
  have HO := Lib.hid ho
  clear hr ho
  go_enter Try.func64, Try.ntmps64
  go_wp2
  go_loopw [1, 5] (fun q i w' => ∃ k : Nat, k ≤ n ∧ i = .int .i64 k ∧ q = .int .i64 ((k0 + k * 2 : Nat) : Int) ∧ w' = w) (fun _ i _ => n - (intOf i).toNat)
  case atStart => exact ⟨0, Nat.zero_le _, rfl, by simp, rfl⟩
  case round =>
    obtain ⟨k, hkl, rfl, rfl, hw⟩ := hrel
    by_cases hlt : k < n
    · obtain ⟨c, hc⟩ := H.out k hlt
      have hc' : wr.cell? ⟨R, k, none⟩ = some (.slice (some ⟨F, k * 2, none⟩) 2 c) := by rw [hw]; exact hc
      have hJ := laws_heldInt64S F (k * 2) 2 c (k0 + k * 2) wr (fun j hj => by rw [hw, HO.out (k * 2 + j) (by omega), Nat.add_assoc]) (by omega)
      have HJ := Lib.hid hJ
      have HW := Lib.hid hw
      have hk0 : (0 : Int) ≤ (k : Int) := by omega
      have hk1 : (k : Int) < (n : Int) := by omega
      have hn0 : ¬ ((k0 + k * 2 + 2 : Nat) : Int) < 0 := by omega
      clear hc hJ hw
      go_wp2_with fail
      refine HJ.out.mono ?_
      rintro e w1 ⟨rfl, hw1⟩
      rw [hw1]
      clear hw1 w1
      go_wp2
      go_roundw
      case rel => exact ⟨k + 1, by omega, by go_num, by congr 1 <;> omega, HW.out⟩
      case measure => simp [intOf]; omega
    · obtain rfl : k = n := by omega
      have HW := Lib.hid hw
      clear hw
      go_wp2
      go_ret
      exact ⟨rfl, HW.out⟩
def Flat2 (lo hi : Nat) (w : World) (ta : Option Addr) (n F : Nat) : Prop := (ta = none ∧ n = 0) ∨ ∃ R, ta = some ⟨R, 0, none⟩ ∧ lo ≤ R ∧ R < hi ∧ R < w.heap.size ∧ R ≠ F ∧ FlatRows2 w R F n ∧ Own lo hi w F 0 (n * 2)
theorem flat_any2 (lo hi : Nat) (a : Option Addr) (n cap F : Nat) (k0 : Nat) (w : World) (h : Flat2 lo hi w a n F) (hn : n ≤ 1000000) (hk : k0 ≤ 1000000000) :
    Calls Try.prog 63 #[.slice a n cap, .int .i64 k0] w fun e w' => e = .returned (.int .i64 ((k0 + n * 2 : Nat) : Int)) ∧ ((a = none ∧ n = 0) ∨ ∃ R, a = some ⟨R, 0, none⟩ ∧ FlatRows2 w' R F n ∧ ∀ j, j < n * 2 → w'.cell? ⟨F, j, none⟩ = some (.int .i64 ((k0 + j : Nat) : Int))) ∧ (∀ b i, b ≠ F → w'.cell? ⟨b, i, none⟩ = w.cell? ⟨b, i, none⟩) ∧ Mark lo hi w w' := by
  rcases h with ⟨rfl, rfl⟩ | ⟨R, rfl, h1, h2, h3, h4, h5, h6⟩
  · go_enter Try.func63, Try.ntmps63
    go_wp2
    refine wp_loop_rounds 1 ?_
    rw [rounds_succ]
    go_wp2
    go_ret
    refine ⟨by simp, by simp, ?_, Mark.refl _ _ _⟩
    first | exact fun _ _ _ => rfl | simp
  · refine (mark_flat2 lo hi R F n cap k0 w h5 h6 h4 (by omega) (by omega)).mono ?_
    rintro e w' ⟨he, hd, ho, hM⟩
    exact ⟨he, .inr ⟨R, rfl, h5.same (fun i v hv => (ho R i h4).trans hv), hd⟩, ho, hM⟩
theorem flat_held2 (a : Option Addr) (n cap F : Nat) (k0 : Nat) (w : World) (h : (a = none ∧ n = 0) ∨ ∃ R, a = some ⟨R, 0, none⟩ ∧ FlatRows2 w R F n ∧ ∀ j, j < n * 2 → w.cell? ⟨F, j, none⟩ = some (.int .i64 ((k0 + j : Nat) : Int))) (hn : n ≤ 1000000) (hk : k0 ≤ 1000000000) :
    Calls Try.prog 64 #[.slice a n cap, .int .i64 k0] w fun e w' => e = .returned (.int .i64 ((k0 + n * 2 : Nat) : Int)) ∧ w' = w := by
  rcases h with ⟨rfl, rfl⟩ | ⟨R, rfl, hf, hc⟩
  · go_enter Try.func64, Try.ntmps64
    go_wp2
    refine wp_loop_rounds 1 ?_
    rw [rounds_succ]
    go_wp2
    go_ret
    exact ⟨by simp, by first | rfl | trivial⟩
  · exact held_flat2 R F n cap k0 w hf hc (by omega) (by omega)
theorem Flat2.mark {lo hi lo' hi' : Nat} {w w' : World} {a : Option Addr} {n F : Nat} (h : Flat2 lo hi w a n F) (hM : Mark lo' hi' w w') (hs : ∀ R, a = some R → ∀ i v, w.cell? ⟨R.block, i, none⟩ = some v → w'.cell? ⟨R.block, i, none⟩ = some v) : Flat2 lo hi w' a n F :=
  h.imp id fun ⟨R, e, h1, h2, h3, h4, h5, h6⟩ => ⟨R, e, h1, h2, Nat.lt_of_lt_of_le h3 hM.below.size, h4, h5.same (hs _ e), h6.mark hM⟩
/-- Rows outside the blocks that are marked are as they were. -/
theorem ts_mark2 {lo hi lo' hi' : Nat} {w w' : World} {a : Option Addr} {n cap F : Nat} {ts : List (List Int)} (h : IsTs w a n cap ts) (hl : Flat2 lo' hi' w a n F) (hM : Mark lo hi w w') (ho : hi' ≤ lo ∨ hi ≤ lo') : IsTs w' a n cap ts := by
  obtain ⟨h1, h2, h3, h4, h5⟩ := h
  refine ⟨h1, h2, h3, h4, fun x hx i hlt => ?_⟩
  rcases hl with ⟨e, _⟩ | ⟨R, e, u1, u2, u3, u4, u5, u6⟩
  · rw [e] at hx; cases hx
  · rw [e] at hx; cases hx
    obtain ⟨G, c, c', hc, hI⟩ := h5 _ e i hlt
    rw [addr_add', Nat.zero_add] at hc
    obtain ⟨c2, hc2⟩ := u5 i hlt
    have hb : R < lo ∨ hi ≤ R := by omega
    have hbF : F < lo ∨ hi ≤ F := by have := u6.1; have := u6.2.1; omega
    rw [hc2] at hc
    cases hc
    refine ⟨_, _, _, by rw [addr_add', Nat.zero_add]; exact hM.cell hb hc2, ?_⟩
    obtain ⟨i1, i2, i3, i4, i5, i6⟩ := hI
    refine ⟨i1, i2, i3, i4, i5, fun y hy j hj => ?_⟩
    cases hy
    have := i6 _ rfl j hj
    rw [addr_add'] at this ⊢
    exact hM.cell hbF this
theorem Flat2.below {lo hi : Nat} {w w' : World} {ta : Option Addr} {n F : Nat} (h : Flat2 lo hi w ta n F) (hB : Below w.heap.size w w') : Flat2 lo hi w' ta n F :=
  h.imp id fun ⟨R, e, h1, h2, h3, h4, h5, h6⟩ => ⟨R, e, h1, h2, Nat.lt_of_lt_of_le h3 hB.size, h4, h5.same (fun i v hv => cell_below hB hv), h6.below hB⟩
/-- The marks that were written are there. -/
def MrkR (w : World) (a : Option Addr) (n F : Nat) : Prop := (a = none ∧ n = 0) ∨ ∃ R, a = some ⟨R, 0, none⟩ ∧ FlatRows2 w R F n ∧ ∀ j, j < n * 2 → w.cell? ⟨F, j, none⟩ = some (.int .i64 ((1 + j : Nat) : Int))
theorem MrkR.below {w w' : World} {a : Option Addr} {n F : Nat} (h : MrkR w a n F) (hB : Below w.heap.size w w') : MrkR w' a n F :=
  h.imp id fun ⟨R, e, h1, h2⟩ => ⟨R, e, h1.same (fun i v hv => cell_below hB hv), fun j hj => cell_below hB (h2 j hj)⟩
end Go.Proofs.Ytmbekamnogbgaaa


/-
Edges of a mesh, as lists; the lesser and the greater of two. Conditions: none.
-/
namespace Go.Proofs.Ytmbekamnogbgaaa
open Go Fk Go.RowKit
set_option linter.unusedVariables false
set_option maxRecDepth 8000

def eKey (a b : Int) : Int × Int := (min a b, max a b)
def triE (t : List Int) : List (Int × Int) := [eKey (t.getD 0 0) (t.getD 1 0), eKey (t.getD 1 0) (t.getD 2 0), eKey (t.getD 2 0) (t.getD 0 0)]
def keysE (ts : List (List Int)) : List (Int × Int) := ts.flatMap triE
/-- The edges of the first k triangles and of j sides of the next. -/
def preE (ts : List (List Int)) (k j : Nat) : List (Int × Int) := (ts.take k).flatMap triE ++ (triE (ts.getD k [])).take j
theorem preE_zero (ts : List (List Int)) : preE ts 0 0 = [] := by simp [preE]
theorem preE_end (ts : List (List Int)) : preE ts ts.length 0 = keysE ts := by simp [preE, keysE]
theorem preE_next {ts : List (List Int)} {k : Nat} (hk : k < ts.length) : preE ts k 3 = preE ts (k + 1) 0 := by
  have e : ts.take (k + 1) = ts.take k ++ [ts.getD k []] := by
    rw [List.take_add_one, List.getElem?_eq_getElem hk]
    simp [List.getD, List.getElem?_eq_getElem hk]
  unfold preE
  rw [e, List.flatMap_append, List.flatMap_cons, List.flatMap_nil, List.append_nil, List.take_zero, List.append_nil]
  rfl
theorem preE_step {ts : List (List Int)} {k j : Nat} (hj : j < 3) : preE ts k (j + 1) = preE ts k j ++ [(triE (ts.getD k [])).getD j (0, 0)] := by
  match j, hj with
  | 0, _ => simp [preE, triE]
  | 1, _ => simp [preE, triE]
  | 2, _ => simp [preE, triE]
/-- A table of flags, a row for each lesser place. -/
def SeenT (w : World) (b n : Nat) (L : List (Int × Int)) : Prop :=
  (∀ x y, x < n → y < n → w.cell? ⟨b, x * n + y, none⟩ = some (.bool (decide (((x : Int), (y : Int)) ∈ L)))) ∧ (∀ i, w.frozen? ⟨b, i, none⟩ = false) ∧ b < w.heap.size
theorem flat_lt {x y n : Nat} (hx : x < n) (hy : y < n) : x * n + y < n * n := by
  have : (x + 1) * n ≤ n * n := Nat.mul_le_mul_right n hx
  rw [Nat.succ_mul] at this
  omega
theorem flat_inj {x y p q n : Nat} (hy : y < n) (hq : q < n) (h : x * n + y = p * n + q) : x = p ∧ y = q := by
  have h1 : (x * n + y) / n = x := by rw [Nat.mul_comm, Nat.mul_add_div (by omega), Nat.div_eq_of_lt hy]; omega
  have h2 : (p * n + q) / n = p := by rw [Nat.mul_comm, Nat.mul_add_div (by omega), Nat.div_eq_of_lt hq]; omega
  have : x = p := by rw [← h1, ← h2, h]
  subst this
  exact ⟨rfl, by omega⟩
theorem SeenT.set {w : World} {b n p q : Nat} {L : List (Int × Int)} (h : SeenT w b n L) (hp : p < n) (hq : q < n) : SeenT (w.setCell ⟨b, p * n + q, none⟩ (.bool true)) b n (L ++ [((p : Int), (q : Int))]) := by
  refine ⟨fun x y hx hy => ?_, fun i => by simpa using h.2.1 i, by simpa using h.2.2⟩
  by_cases e : x * n + y = p * n + q
  · obtain ⟨rfl, rfl⟩ := flat_inj hy hq e
    rw [World.cell?_setCell_same _ _ _ (h.1 x y hx hy)]
    simp
  · rw [World.cell?_setCell_other _ _ _ _ (by first | (simp; done) | (simp; exact fun e' => e e'.symm)), h.1 x y hx hy]
    have hne : ¬ (((x : Int), (y : Int)) = ((p : Int), (q : Int))) := fun e' => by
      rw [Prod.mk.injEq] at e'
      obtain ⟨e1, e2⟩ := e'
      exact e (by rw [Int.ofNat.inj e1, Int.ofNat.inj e2])
    simp only [List.mem_append, List.mem_singleton, hne, or_false]
theorem SeenT.below {w w' : World} {b n : Nat} {L : List (Int × Int)} (h : SeenT w b n L) (hB : Below w.heap.size w w') : SeenT w' b n L :=
  ⟨fun x y hx hy => cell_below hB (h.1 x y hx hy), fun i => by rw [hB.frozen (p := ⟨b, i, none⟩) h.2.2]; exact h.2.1 i, Nat.lt_of_lt_of_le h.2.2 hB.size⟩
/-- The edges from x to places less than b, as rows. -/
def rowE (L : List (Int × Int)) (b x : Nat) : List (List Int) := ((List.range b).filter fun y : Nat => decide (x < y) && decide (((x : Int), (y : Int)) ∈ L)).map fun y : Nat => [(x : Int), (y : Int)]
def rowsE (L : List (Int × Int)) (n a : Nat) : List (List Int) := (List.range a).flatMap (rowE L n)
/-- All edges in ascending order, as rows. -/
def edgesT (n : Nat) (ts : List (List Int)) : List (List Int) := rowsE (keysE ts) n n
theorem rowE_start (L : List (Int × Int)) (a : Nat) : rowE L (a + 1) a = [] := by
  unfold rowE
  have : ((List.range (a + 1)).filter fun y : Nat => decide (a < y) && decide (((a : Int), (y : Int)) ∈ L)) = [] := by
    rw [List.filter_eq_nil_iff]
    intro y hy
    have := List.mem_range.1 hy
    simp; intro h; omega
  rw [this]; rfl
theorem rowE_yes {L : List (Int × Int)} {a b : Nat} (hab : a < b) (h : decide (((a : Int), (b : Int)) ∈ L) = true) : rowE L (b + 1) a = rowE L b a ++ [[(a : Int), (b : Int)]] := by
  unfold rowE
  rw [List.range_succ, List.filter_append, List.map_append]
  have : decide (a < b) = true := decide_eq_true hab
  simp only [List.filter_cons, List.filter_nil, this, h, Bool.and_self, if_true, List.map_cons, List.map_nil]
theorem rowE_no {L : List (Int × Int)} {a b : Nat} (h : decide (((a : Int), (b : Int)) ∈ L) = false) : rowE L (b + 1) a = rowE L b a := by
  unfold rowE
  rw [List.range_succ, List.filter_append, List.map_append]
  first
    | (simp [h]; done)
    | (simp [h]; intro _; simpa using h)
theorem rowsE_next (L : List (Int × Int)) (n a : Nat) : rowsE L n (a + 1) = rowsE L n a ++ rowE L n a := by
  simp [rowsE, List.range_succ]
theorem rowE_len (L : List (Int × Int)) (b x : Nat) : (rowE L b x).length ≤ b := by
  unfold rowE
  rw [List.length_map]
  exact Nat.le_trans (List.length_filter_le _ _) (by simp)
theorem rowsE_len (L : List (Int × Int)) (n : Nat) : ∀ a, (rowsE L n a).length ≤ a * n
  | 0 => by simp [rowsE]
  | a + 1 => by
    rw [rowsE_next, List.length_append, Nat.succ_mul]
    exact Nat.add_le_add (rowsE_len L n a) (rowE_len L n a)
theorem rowE_two {L : List (Int × Int)} {b x : Nat} : ∀ r ∈ rowE L b x, r.length = 2 := fun r hr => by
  unfold rowE at hr
  obtain ⟨y, _, rfl⟩ := List.mem_map.1 hr
  rfl
theorem l00Min (x y : Int) (w : World) : Calls Try.prog 184 #[.int .i64 x, .int .i64 y] w fun e w' => e = .returned (.int .i64 (min x y)) ∧ w' = w := by
  by_cases h : x < y
  · have e : min x y = x := by omega
    rw [e]
    clear e
    go_enter Try.func184, Try.ntmps184
    go_wp2
    go_ret
    exact ⟨rfl, rfl⟩
  · have e : min x y = y := by omega
    rw [e]
    clear e
    go_enter Try.func184, Try.ntmps184
    go_wp2
    go_ret
    exact ⟨rfl, rfl⟩
theorem l00Max (x y : Int) (w : World) : Calls Try.prog 185 #[.int .i64 x, .int .i64 y] w fun e w' => e = .returned (.int .i64 (max x y)) ∧ w' = w := by
  by_cases h : y < x
  · have e : max x y = x := by omega
    rw [e]
    clear e
    go_enter Try.func185, Try.ntmps185
    go_wp2
    go_ret
    exact ⟨rfl, rfl⟩
  · have e : max x y = y := by omega
    rw [e]
    clear e
    go_enter Try.func185, Try.ntmps185
    go_wp2
    go_ret
    exact ⟨rfl, rfl⟩
theorem infoBool : (Try.prog.info? 4).map (fun i => (i.zero, i.size, i.bytes)) = some (some (.bool false), 1, 1) := by kernel_rfl
end Go.Proofs.Ytmbekamnogbgaaa

/-
Texts in one: what HoldMesh stands on, part 37. Conditions: those of each.
-/
import Derived.Test.YtmbekamnogbgaaaKHoldMesh36
import Derived.Test.YtmbekamnogbgaaaRows
import Derived.WalkKit
import Derived.ProofKit
import Derived.OpenShut
import Derived.ShutString
import Derived.ChangeOld
import Derived.Below
import Derived.Lib.SmallJoins

/-
Copies of lists of holds that may be written, and marks in them. Conditions: at most 2^20 of them.
-/
namespace Go.Proofs.Ytmbekamnogbgaaa
open Go Fk Go.RowKit
set_option linter.unusedVariables false
set_option maxRecDepth 16000

set_option maxHeartbeats 1000000 in
theorem laws_toHoldSO (a : Option Addr) (len cap : Nat) (hs : List HC) (w : World) (h : IsHs w a len cap hs) (hlen : len ≤ 1048576) :
    Calls Try.prog 34 #[.slice a len cap] w fun e w' => e = .returned (.slice (some ⟨w.heap.size, 0, none⟩) len len) ∧ IsHs w' (some ⟨w.heap.size, 0, none⟩) len len hs ∧ Below w.heap.size w w' ∧ ∀ lo hi, lo ≤ w.heap.size → w.heap.size < hi → Own lo hi w' w.heap.size 0 (len * 8) := by
  have uh := Try.underlying117
  have ul := Try.underlying120
  obtain ⟨i0, hi, hz0, hz1, hz2⟩ := info_parts infoH
  have hzl := h.1
  have hwf := h.2.2.2.1
  obtain ⟨g, hg⟩ : ∃ g, g = w.heap.size := ⟨_, rfl⟩
  have hmk : (Instr.makeSlice 61 (.int .i64 len) (.int .i64 len)).run Try.prog w = .ok (.slice (some ⟨g, 0, none⟩) len len) (w.alloc (.cells (madeCells #[.int .i64 0, .int .i64 0, .float .f32 0, .float .f32 0, .float .f32 0, .float .f32 0, .float .f32 0, .float .f32 0] (len * 8)) 117)) := by
    have := run_make (P := Try.prog) w 61 117 i0 (.agg #[.int .i64 0, .int .i64 0, .float .f32 0, .float .f32 0, .float .f32 0, .float .f32 0, .float .f32 0, .float .f32 0]) Try.underlying61 hi hz0 .i64 .i64 len len (by omega) (Int.le_refl _) (by rw [hz2]; omega) (by omega)
    rw [this, hz1, hg]; simp; rfl
  have hstart : Below w.heap.size w (w.alloc (.cells (madeCells #[.int .i64 0, .int .i64 0, .float .f32 0, .float .f32 0, .float .f32 0, .float .f32 0, .float .f32 0, .float .f32 0] (len * 8)) 117)) ∧ g < (w.alloc (.cells (madeCells #[.int .i64 0, .int .i64 0, .float .f32 0, .float .f32 0, .float .f32 0, .float .f32 0, .float .f32 0, .float .f32 0] (len * 8)) 117)).heap.size ∧
      (∀ j, j < len * 8 → ∃ v, (w.alloc (.cells (madeCells #[.int .i64 0, .int .i64 0, .float .f32 0, .float .f32 0, .float .f32 0, .float .f32 0, .float .f32 0, .float .f32 0] (len * 8)) 117)).cell? ⟨g, j, none⟩ = some v) ∧ (∀ j, (w.alloc (.cells (madeCells #[.int .i64 0, .int .i64 0, .float .f32 0, .float .f32 0, .float .f32 0, .float .f32 0, .float .f32 0, .float .f32 0] (len * 8)) 117)).frozen? ⟨g, j, none⟩ = false) := by
    subst hg
    exact ⟨(Below.refl _ _).alloc (Nat.le_refl _) _, by simp, fun j hj => made_cell3 w _ (len * 8) j _ hj, fun j => by simp⟩
  rw [← hg] at hstart ⊢
  have HST := Lib.hid hstart
  have HG := Lib.hid hg
  have H := Lib.hid h
  have HWF := Lib.hid hwf
  clear hstart hg h hwf
  go_enter Try.func34, Try.ntmps34
  go_wp2
  generalize hw0 : (w.alloc (.cells (madeCells #[.int .i64 0, .int .i64 0, .float .f32 0, .float .f32 0, .float .f32 0, .float .f32 0, .float .f32 0, .float .f32 0] (len * 8)) 117)) = w0 at HST ⊢
  go_loopw [4] (fun i w' => ∃ k : Nat, k ≤ len ∧ i = .int .i64 k ∧ Aside ((Below g w w' ∧ g < w'.heap.size ∧ (∀ j, j < len * 8 → ∃ v, w'.cell? ⟨g, j, none⟩ = some v) ∧ (∀ j, w'.frozen? ⟨g, j, none⟩ = false)) ∧
      ∀ j, j < k → ∃ q : HW, q.At w' g (j * 8) ∧ q.Is (hs.getD j hd0))) (fun i _ => len - (intOf i).toNat)
  case atStart => exact ⟨0, Nat.zero_le _, rfl, HST.out, fun j hj => absurd hj (by omega)⟩
  case round =>
    obtain ⟨k, hk, rfl, hA⟩ := hrel
    by_cases hlt : k < len
    · obtain ⟨⟨hB, hgs, hce, hfz⟩, hdone⟩ := hA.out
      obtain ⟨b, o, ha, hcell⟩ := (H.out.below (HG.out ▸ hB)).some (by omega)
      obtain ⟨h, hq, hqi⟩ := hcell k hlt
      rw [ha]
      have HA := Lib.hid ha
      have hk0 : (0 : Int) ≤ (k : Int) := by omega
      have hk1 : (k : Int) < (len : Int) := by omega
      have c0 := hq 0 (by omega)
      have c1 := hq 1 (by omega)
      have c2 := hq 2 (by omega)
      have c3 := hq 3 (by omega)
      have c4 := hq 4 (by omega)
      have c5 := hq 5 (by omega)
      have c6 := hq 6 (by omega)
      have c7 := hq 7 (by omega)
      simp only [HW.l, List.getElem?_cons_zero, List.getElem?_cons_succ, Nat.add_zero] at c0 c1 c2 c3 c4 c5 c6 c7
      have HD := Lib.hid hdone
      have HC := Lib.hid hce
      have HF := Lib.hid hfz
      have HB := Lib.hid hB
      have HQI := Lib.hid hqi
      clear hA hcell hdone hce hfz hB hqi ha hq
      go_wp2_with fail
      refine (laws_toHold h _).mono ?_
      rintro e w1 ⟨rfl, hB1⟩
      clear c0 c1 c2 c3 c4 c5 c6 c7
      obtain ⟨v0, hv0⟩ := HC.out (k * 8) (by omega)
      replace hv0 := (hB1.cell (p := ⟨g, k * 8, none⟩) hgs).trans hv0
      have hf0 := (hB1.frozen (p := ⟨g, k * 8, none⟩) hgs).trans (HF.out (k * 8))
      obtain ⟨v1, hv1⟩ := HC.out (k * 8 + 1) (by omega)
      replace hv1 := (hB1.cell (p := ⟨g, k * 8 + 1, none⟩) hgs).trans hv1
      have hf1 := (hB1.frozen (p := ⟨g, k * 8 + 1, none⟩) hgs).trans (HF.out (k * 8 + 1))
      obtain ⟨v2, hv2⟩ := HC.out (k * 8 + 2) (by omega)
      replace hv2 := (hB1.cell (p := ⟨g, k * 8 + 2, none⟩) hgs).trans hv2
      have hf2 := (hB1.frozen (p := ⟨g, k * 8 + 2, none⟩) hgs).trans (HF.out (k * 8 + 2))
      obtain ⟨v3, hv3⟩ := HC.out (k * 8 + 3) (by omega)
      replace hv3 := (hB1.cell (p := ⟨g, k * 8 + 3, none⟩) hgs).trans hv3
      have hf3 := (hB1.frozen (p := ⟨g, k * 8 + 3, none⟩) hgs).trans (HF.out (k * 8 + 3))
      obtain ⟨v4, hv4⟩ := HC.out (k * 8 + 4) (by omega)
      replace hv4 := (hB1.cell (p := ⟨g, k * 8 + 4, none⟩) hgs).trans hv4
      have hf4 := (hB1.frozen (p := ⟨g, k * 8 + 4, none⟩) hgs).trans (HF.out (k * 8 + 4))
      obtain ⟨v5, hv5⟩ := HC.out (k * 8 + 5) (by omega)
      replace hv5 := (hB1.cell (p := ⟨g, k * 8 + 5, none⟩) hgs).trans hv5
      have hf5 := (hB1.frozen (p := ⟨g, k * 8 + 5, none⟩) hgs).trans (HF.out (k * 8 + 5))
      obtain ⟨v6, hv6⟩ := HC.out (k * 8 + 6) (by omega)
      replace hv6 := (hB1.cell (p := ⟨g, k * 8 + 6, none⟩) hgs).trans hv6
      have hf6 := (hB1.frozen (p := ⟨g, k * 8 + 6, none⟩) hgs).trans (HF.out (k * 8 + 6))
      obtain ⟨v7, hv7⟩ := HC.out (k * 8 + 7) (by omega)
      replace hv7 := (hB1.cell (p := ⟨g, k * 8 + 7, none⟩) hgs).trans hv7
      have hf7 := (hB1.frozen (p := ⟨g, k * 8 + 7, none⟩) hgs).trans (HF.out (k * 8 + 7))
      have HB1 := Lib.hid hB1
      have HEX : Hid (∀ j, j < h.l.length → ∃ u, w1.cell? ⟨g, k * 8 + j, none⟩ = some u) := Lib.hid (fun j hj => by
        have hj8 : j < 8 := hj
        obtain ⟨u, hu⟩ := HC.out (k * 8 + j) (by omega)
        exact ⟨u, (hB1.cell (p := ⟨g, k * 8 + j, none⟩) hgs).trans hu⟩)
      clear hB1
      unfold HW.v
      go_wp2
      clear hv0 hv1 hv2 hv3 hv4 hv5 hv6 hv7 hf0 hf1 hf2 hf3 hf4 hf5 hf6 hf7
      go_roundw
      case rel =>
        have hB1 := HB1.out
        have hin := setL_in g h.l w1 (k * 8) HEX.out
        have hout := fun m hm => setL_out g m h.l w1 (k * 8) hm
        have hsz := setL_size g h.l w1 (k * 8)
        have hfr := fun i => setL_frozen g ⟨g, i, none⟩ h.l w1 (k * 8)
        have hbl : Below g w (setL w1 g (k * 8) h.l) := setL_below g (Nat.le_refl _) h.l w1 (k * 8) (HB.out.trans (hB1.mono (by omega)))
        refine ⟨k + 1, by omega, by go_num, ⟨⟨hbl, ?_, fun j hj => ?_, fun j => ?_⟩, fun j hj => ?_⟩⟩
        · show g < (setL w1 g (k * 8) h.l).heap.size
          rw [hsz]; have := hB1.size; omega
        · show ∃ v, (setL w1 g (k * 8) h.l).cell? ⟨g, j, none⟩ = some v
          by_cases hj8 : k * 8 ≤ j ∧ j < k * 8 + 8
          · have := hin (j - k * 8) (by show j - k * 8 < 8; omega)
            rw [show k * 8 + (j - k * 8) = j by omega] at this
            rw [this]
            exact ⟨_, List.getElem?_eq_getElem (by show j - k * 8 < 8; omega)⟩
          · rw [hout j (by show j < k * 8 ∨ k * 8 + 8 ≤ j; omega)]
            obtain ⟨v, hv⟩ := HC.out j hj
            exact ⟨v, (hB1.cell (p := ⟨g, j, none⟩) hgs).trans hv⟩
        · show (setL w1 g (k * 8) h.l).frozen? ⟨g, j, none⟩ = false
          rw [hfr]; exact (hB1.frozen (p := ⟨g, j, none⟩) hgs).trans (HF.out j)
        · show ∃ q : HW, q.At (setL w1 g (k * 8) h.l) g (j * 8) ∧ q.Is (hs.getD j hd0)
          by_cases hjk : j = k
          · subst hjk
            exact ⟨h, fun i hi => hin i hi, HQI.out⟩
          · obtain ⟨q, hq, hqi⟩ := HD.out j (by omega)
            refine ⟨q, fun i hi => ?_, hqi⟩
            rw [hout _ (by show j * 8 + i < k * 8 ∨ k * 8 + 8 ≤ j * 8 + i; omega)]
            exact (hB1.cell (p := ⟨g, j * 8 + i, none⟩) hgs).trans (hq i hi)
      case measure => simp [intOf]; omega
    · obtain rfl : k = len := by omega
      obtain ⟨⟨hB, hgs, hce, hfz⟩, hdone⟩ := hA.out
      have hfin : IsHs wr (some ⟨g, 0, none⟩) k k hs := by
        refine ⟨hzl, Nat.le_refl _, by unfold maxLen; omega, HWF.out, by simp, fun x hx i hi => ?_⟩
        cases hx
        obtain ⟨q, hq, hqi⟩ := hdone i hi
        exact ⟨rfl, q, by rw [Nat.zero_add]; exact hq, hqi⟩
      have hown : ∀ lo hi, lo ≤ g → g < hi → Own lo hi wr g 0 (k * 8) := fun lo hi h1 h2 => ⟨h1, h2, hgs, fun j hj => ⟨by rw [Nat.zero_add]; exact hce j hj, by rw [Nat.zero_add]; exact hfz j⟩⟩
      have HO := Lib.hid hown
      have HF := Lib.hid hfin
      have HB := Lib.hid hB
      clear hown
      clear hA hB hce hfz hdone hfin
      go_wp2
      go_ret
      exact ⟨rfl, HF.out, HB.out, HO.out⟩
set_option maxHeartbeats 4000000 in
theorem laws_markHoldS (lo hi b o len cap : Nat) (k0 : Nat) (w : World) (h : Own lo hi w b o (len * 8)) (hk : k0 + len * 8 ≤ 9000000000000000000) :
    Calls Try.prog 37 #[.slice (some ⟨b, o, none⟩) len cap, .int .i64 k0] w fun e w' => e = .returned (.int .i64 ((k0 + len * 8 : Nat) : Int)) ∧ Mark lo hi w w' := by
  have u := Try.underlying31
  have uv := Try.underlying34
  have uh := Try.underlying117
  obtain ⟨h1, h2, h3, h4⟩ := h
  have H4 := Lib.hid h4
  have H1 := Lib.hid h1
  have H2 := Lib.hid h2
  have H3 := Lib.hid h3
  clear h1 h2 h3 h4
  go_enter Try.func37, Try.ntmps37
  go_wp2
  go_loopw [1, 5] (fun q i w' => ∃ k : Nat, k ≤ len ∧ i = .int .i64 k ∧ q = .int .i64 ((k0 + k * 8 : Nat) : Int) ∧ Aside (Mark lo hi w w')) (fun _ i _ => len - (intOf i).toNat)
  case atStart => exact ⟨0, Nat.zero_le _, rfl, rfl, Mark.refl _ _ _⟩
  case round =>
    obtain ⟨k, hkl, rfl, rfl, hA⟩ := hrel
    by_cases hlt : k < len
    · have hM := hA.out
      obtain ⟨v0, hv0⟩ := hM.alive _ _ (H4.out (k * 8) (by omega)).1
      obtain ⟨v1, hv1⟩ := hM.alive _ _ (H4.out (k * 8 + 1) (by omega)).1
      obtain ⟨v2, hv2⟩ := hM.alive _ _ (H4.out (k * 8 + 2) (by omega)).1
      obtain ⟨v3, hv3⟩ := hM.alive _ _ (H4.out (k * 8 + 3) (by omega)).1
      obtain ⟨v4, hv4⟩ := hM.alive _ _ (H4.out (k * 8 + 4) (by omega)).1
      obtain ⟨v5, hv5⟩ := hM.alive _ _ (H4.out (k * 8 + 5) (by omega)).1
      obtain ⟨v6, hv6⟩ := hM.alive _ _ (H4.out (k * 8 + 6) (by omega)).1
      obtain ⟨v7, hv7⟩ := hM.alive _ _ (H4.out (k * 8 + 7) (by omega)).1
      have hf0 : wr.frozen? ⟨b, o + k * 8, none⟩ = false := by rw [hM.frozen _ _ H3.out]; exact (H4.out (k * 8) (by omega)).2
      have hf1 : wr.frozen? ⟨b, o + k * 8 + 1, none⟩ = false := by rw [hM.frozen _ _ H3.out]; exact (H4.out (k * 8 + 1) (by omega)).2
      have hf2 : wr.frozen? ⟨b, o + k * 8 + 2, none⟩ = false := by rw [hM.frozen _ _ H3.out]; exact (H4.out (k * 8 + 2) (by omega)).2
      have hf3 : wr.frozen? ⟨b, o + k * 8 + 3, none⟩ = false := by rw [hM.frozen _ _ H3.out]; exact (H4.out (k * 8 + 3) (by omega)).2
      have hf4 : wr.frozen? ⟨b, o + k * 8 + 4, none⟩ = false := by rw [hM.frozen _ _ H3.out]; exact (H4.out (k * 8 + 4) (by omega)).2
      have hf5 : wr.frozen? ⟨b, o + k * 8 + 5, none⟩ = false := by rw [hM.frozen _ _ H3.out]; exact (H4.out (k * 8 + 5) (by omega)).2
      have hf6 : wr.frozen? ⟨b, o + k * 8 + 6, none⟩ = false := by rw [hM.frozen _ _ H3.out]; exact (H4.out (k * 8 + 6) (by omega)).2
      have hf7 : wr.frozen? ⟨b, o + k * 8 + 7, none⟩ = false := by rw [hM.frozen _ _ H3.out]; exact (H4.out (k * 8 + 7) (by omega)).2
      rw [← Nat.add_assoc] at hv1
      rw [← Nat.add_assoc] at hv2
      rw [← Nat.add_assoc] at hv3
      rw [← Nat.add_assoc] at hv4
      rw [← Nat.add_assoc] at hv5
      rw [← Nat.add_assoc] at hv6
      rw [← Nat.add_assoc] at hv7
      have HM := Lib.hid hM
      have hk0 : (0 : Int) ≤ (k : Int) := by omega
      have hk1 : (k : Int) < (len : Int) := by omega
      clear hA hM
      go_wp2
      go_roundw
      case rel => exact ⟨k + 1, by omega, by go_num, by go_num, ((((((((HM.out.trans (Mark.set H1.out H2.out)).trans (Mark.set H1.out H2.out)).trans (Mark.set H1.out H2.out)).trans (Mark.set H1.out H2.out)).trans (Mark.set H1.out H2.out)).trans (Mark.set H1.out H2.out)).trans (Mark.set H1.out H2.out)).trans (Mark.set H1.out H2.out))⟩
      case measure => simp [intOf]; omega
    · obtain rfl : k = len := by omega
      have HM := Lib.hid hA.out
      clear hA
      go_wp2
      go_ret
      exact ⟨rfl, HM.out⟩
end Go.Proofs.Ytmbekamnogbgaaa


/-
The law of meshes that are held returns true: its walk. Conditions: none beyond that both lie in memory.
-/
namespace Go.Proofs.Ytmbekamnogbgaaa
open Go Fk Go.RowKit
set_option linter.unusedVariables false
set_option maxRecDepth 16000

/-- A mesh that the model made. -/
def RM (lo hi : Nat) (w : World) (a a' : Option Addr) (n c n' c' : Nat) (cs : List C3) (ts : List (List Int)) : Prop := IsVs w a n c cs ∧ IsTs w a' n' c' ts ∧ LV lo hi a ∧ LT lo hi w a' n'
theorem RM.agree {S : Nat → Prop} {W w : World} {lo hi n c n' c' : Nat} {a a' : Option Addr} {cs : List C3} {ts : List (List Int)} (h : RM lo hi W a a' n c n' c' cs ts) (hS : ∀ b, lo ≤ b → b < hi → S b) (hA : Agree S W w) : RM lo hi w a a' n c n' c' cs ts :=
  ⟨vs_agree h.1 h.2.2.1 hS hA, ts_agree h.2.1 h.2.2.2 hS hA, h.2.2.1, lt_agree h.2.2.2 hS hA⟩
theorem RM.below {W w : World} {lo hi n c n' c' : Nat} {a a' : Option Addr} {cs : List C3} {ts : List (List Int)} (h : RM lo hi W a a' n c n' c' cs ts) (hB : Below W.heap.size W w) : RM lo hi w a a' n c n' c' cs ts :=
  h.agree (S := fun _ => True) (fun _ _ _ => trivial) (Agree.of_below hB)
/-- A mesh that the program made. -/
def RG (lo hi F : Nat) (w : World) (a a' : Option Addr) (n c n' c' : Nat) (cs : List C3) (ts : List (List Int)) : Prop := IsVs w a n c cs ∧ IsTs w a' n' c' ts ∧ GM lo hi w a a' n n' F
theorem RG.agree {S : Nat → Prop} {W w : World} {lo hi F n c n' c' : Nat} {a a' : Option Addr} {cs : List C3} {ts : List (List Int)} (h : RG lo hi F W a a' n c n' c' cs ts) (hS : ∀ b, lo ≤ b → b < hi → S b) (hA : Agree S W w) : RG lo hi F w a a' n c n' c' cs ts :=
  ⟨vs_agree h.1 h.2.2.lv hS hA, ts_agree h.2.1 h.2.2.lt hS hA, h.2.2.agree hS hA⟩
theorem RG.below {W w : World} {lo hi F n c n' c' : Nat} {a a' : Option Addr} {cs : List C3} {ts : List (List Int)} (h : RG lo hi F W a a' n c n' c' cs ts) (hB : Below W.heap.size W w) : RG lo hi F w a a' n c n' c' cs ts :=
  h.agree (S := fun _ => True) (fun _ _ _ => trivial) (Agree.of_below hB)
theorem own_holds {w w' : World} {len : Nat} (ho : ∀ lo hi, lo ≤ w.heap.size → w.heap.size < hi → Own lo hi w' w.heap.size 0 (len * 8)) : w.heap.size < w'.heap.size := (ho 0 (w.heap.size + 1) (Nat.zero_le _) (Nat.lt_succ_self _)).2.2.1
set_option maxHeartbeats 40000000 in
theorem FnExactHoldMesh_law (pa ta : Option Addr) (pl pc tl tc : Nat) (cs : List C3) (ts : List (List Int)) (ha : Option Addr) (hl hc : Nat) (hs : List HC) (w : World) (hp : IsVs w pa pl pc cs) (ht : IsTs w ta tl tc ts) (hh : IsHs w ha hl hc hs) :
    Calls Try.prog 5 #[.agg #[.slice pa pl pc, .slice ta tl tc], .slice ha hl hc] w fun e w' => e = .returned (.bool true) ∧ Below w.heap.size w w' := by
  have ulm := Try.underlying25
  have uim := Try.underlying29
  have HPL := Lib.hid hp.1
  have HTL := Lib.hid ht.1
  have hfm : hl ≤ 9223372036854775807 := by have h1 := hh.2.1; have h2 := hh.2.2.1; unfold maxLen at h2; omega
  have HP := Lib.hid hp
  have HT := Lib.hid ht
  have HF := Lib.hid hh
  have BX : Hid (Bx w [(w.heap.size, [.slice pa pl pc, .slice ta tl tc])] (w.alloc (.cells #[.slice pa pl pc, .slice ta tl tc] 25))) := Lib.hid ((Bx.nil w).box (vs := [.slice pa pl pc, .slice ta tl tc]) (t := 25))
  clear hp ht hh
  have HSP := Lib.hid (fun (pa ta ha : Option Addr) (pc tc hc : Nat) (w : World) (hp : IsVs w pa pl pc cs) (ht : IsTs w ta tl tc ts) (hh : IsHs w ha hl hc hs) => spec_HoldMesh pa ta ha pl pc tl tc hl hc cs ts hs w hp ht hh)
  have HIM := Lib.hid (fun (pa ta ha : Option Addr) (pc tc hc : Nat) (w : World) (hp : IsVs w pa pl pc cs) (ht : IsTs w ta tl tc ts) (hh : IsHs w ha hl hc hs) (hsm : hl ≤ 1048576) => impl_HoldMesh pa ta ha pl pc tl tc hl hc cs ts hs w hp ht hh hsm)
  obtain ⟨len1, len2⟩ := rH_len cs ts hs
  generalize rHV cs ts hs = rcs at *
  generalize rHT cs ts hs = rts at *
  generalize areB cs ts hs = ok at *
  have LEN := Lib.hid (And.intro len1 len2)
  clear len1 len2
  have hvb : (ok == ok) = true := by cases ok <;> rfl
  have hvb' : (ok != ok) = false := by cases ok <;> rfl
  go_enter Try.func5, Try.ntmps5
  go_wp2_with fail
  generalize (w.alloc (.cells #[.slice pa pl pc, .slice ta tl tc] 25)) = W at *
  refine (laws_szMeshR _ _ _ _ _ _ _ _ 1048576 _ (HP.out.below BX.out.bel) (HT.out.below BX.out.bel) (by decide) (by decide)).mono ?_
  rintro e w1 ⟨⟨r, rfl, hr⟩, hB1⟩
  have BX1 := Lib.hid (BX.out.call hB1)
  clear hB1
  rcases hr with rfl | ⟨hr0, hr1, s1, s2, s3⟩
  · go_wp2
    go_ret
    exact ⟨rfl, BX1.out.bel⟩
  have hS : Small cs ts := ⟨by rw [HPL.out]; exact s1, by rw [HTL.out]; exact s2, by rw [HTL.out]; exact s3⟩
  have HS := Lib.hid hS
  clear s1 s2 s3 hS
  go_wp2_with fail
  refine (laws_szHoldS _ _ _ _ _ hr0 hr1 hfm).mono ?_
  rintro e w1' ⟨⟨r', rfl, hr'⟩, rfl⟩
  rcases hr' with rfl | ⟨hq0, hq1, hlen⟩
  · go_wp2
    go_ret
    exact ⟨rfl, BX1.out.bel⟩
  have a0 := (BX1.out.mem (.head _)) 0 _ rfl
  have a1 := (BX1.out.mem (.head _)) 1 _ rfl
  go_wp2_with fail
  clear a0 a1
  refine (laws_toMesh _ _ _ _ _ _ _ _ _ (HP.out.below BX1.out.bel) (HT.out.below BX1.out.bel) HS.out).mono ?_
  rintro e w2 ⟨⟨b, b', rfl, hb1, hb', hV2, hT2⟩, hB2⟩
  have BX2 := Lib.hid (BX1.out.call hB2)
  have I0 := Lib.hid (And.intro hV2 hT2)
  clear hB2 hV2 hT2 hb1 hb'
  go_wp2_with fail
  refine (laws_toHoldS _ _ _ _ _ (HF.out.below BX2.out.bel) hlen).mono ?_
  rintro e w2' ⟨rfl, hH2, hB2⟩
  have BX2' := Lib.hid (BX2.out.call hB2)
  have I0' := Lib.hid (And.intro (I0.out.1.below hB2) (And.intro (I0.out.2.below hB2) hH2))
  clear hB2 hH2
  go_wp2_with fail
  refine (HSP.out _ _ _ _ _ _ _ I0'.out.1 I0'.out.2.1 I0'.out.2.2).mono ?_
  rintro e w3 ⟨⟨sa, sc, sa', sc', rfl, hI1⟩, hB3⟩
  have hI1 : RM w2'.heap.size w3.heap.size w3 sa sa' rcs.length sc rts.length sc' rcs rts := hI1
  have BX3 := Lib.hid (BX2'.out.call hB3)
  have hX3 : Below w3.heap.size w3 (w3.alloc (.cells #[.slice sa rcs.length sc, .slice sa' rts.length sc'] 29)) := (Below.refl _ _).alloc (Nat.le_refl _) _
  have BX4 : Hid (Bx w [(w3.heap.size, [.slice sa rcs.length sc, .slice sa' rts.length sc']), (w.heap.size, [.slice pa pl pc, .slice ta tl tc])] (w3.alloc (.cells #[.slice sa rcs.length sc, .slice sa' rts.length sc'] 29))) := Lib.hid (BX3.out.box (vs := [.slice sa rcs.length sc, .slice sa' rts.length sc']) (t := 29))
  have I1 := Lib.hid (hI1.below hX3)
  have Z1 : Hid (w2'.heap.size ≤ w3.heap.size ∧ (w3.alloc (.cells #[.slice sa rcs.length sc, .slice sa' rts.length sc'] 29)).heap.size = w3.heap.size + 1 ∧ w.heap.size ≤ w2'.heap.size) := Lib.hid ⟨hB3.size, by simp, BX2'.out.bel.size⟩
  have a0 := fun (ob : Obj) => cell_alloc (o := ob) ((BX3.out.mem (.head _)) 0 _ rfl)
  have a1 := fun (ob : Obj) => cell_alloc (o := ob) ((BX3.out.mem (.head _)) 1 _ rfl)
  clear hB3 hI1 hX3
  go_wp2_with fail
  clear a0 a1
  generalize (w3.alloc (.cells #[.slice sa rcs.length sc, .slice sa' rts.length sc'] 29)) = W3 at *
  generalize w3.heap.size = S at *
  refine (laws_toMesh' _ _ _ _ _ _ _ _ _ (HP.out.below BX4.out.bel) (HT.out.below BX4.out.bel) HS.out).mono ?_
  rintro e w4 ⟨⟨c, c', rfl, hc, hc', hV4, hT4, hi4, hi4', hO4⟩, hB4⟩
  have BX5 := Lib.hid (BX4.out.call hB4)
  have hX4 : Below w4.heap.size w4 (w4.alloc (.cells #[.slice (some ⟨c, 0, none⟩) pl pl, .slice (some ⟨c', 0, none⟩) tl tl] 29)) := (Below.refl _ _).alloc (Nat.le_refl _) _
  have BX6 : Hid (Bx w [(w4.heap.size, [.slice (some ⟨c, 0, none⟩) pl pl, .slice (some ⟨c', 0, none⟩) tl tl]), (S, [.slice sa rcs.length sc, .slice sa' rts.length sc']), (w.heap.size, [.slice pa pl pc, .slice ta tl tc])] (w4.alloc (.cells #[.slice (some ⟨c, 0, none⟩) pl pl, .slice (some ⟨c', 0, none⟩) tl tl] 29))) := Lib.hid (BX5.out.box (vs := [.slice (some ⟨c, 0, none⟩) pl pl, .slice (some ⟨c', 0, none⟩) tl tl]) (t := 29))
  have hB46 := hB4.trans (hX4.mono hB4.size)
  have I4 := Lib.hid (I1.out.below hB46)
  have M4 := Lib.hid (And.intro (hV4.below hX4) (And.intro (hT4.below hX4) (hO4.below hX4)))
  have Z4 : Hid (W3.heap.size ≤ w4.heap.size ∧ (w4.alloc (.cells #[.slice (some ⟨c, 0, none⟩) pl pl, .slice (some ⟨c', 0, none⟩) tl tl] 29)).heap.size = w4.heap.size + 1 ∧ hi4 ≤ w4.heap.size) := Lib.hid ⟨hB4.size, by simp, hi4'⟩
  clear hV4 hT4 hc hc' hO4 hi4' hB4 hX4 hB46
  go_wp2_with fail
  generalize (w4.alloc (.cells #[.slice (some ⟨c, 0, none⟩) pl pl, .slice (some ⟨c', 0, none⟩) tl tl] 29)) = W4' at *
  generalize w4.heap.size = X at *
  refine (laws_toHoldSO _ _ _ _ _ (HF.out.below BX6.out.bel) hlen).mono ?_
  rintro e W4 ⟨rfl, hHq, hB4, hQo⟩
  have hQl := own_holds hQo
  have BX6' := Lib.hid (BX6.out.call hB4)
  have I4' := Lib.hid (I4.out.below hB4)
  have M4' := Lib.hid (And.intro (M4.out.1.below hB4) (And.intro (M4.out.2.1.below hB4) (M4.out.2.2.below hB4)))
  have z4q := Z4.out
  have Q4 := Lib.hid (And.intro hHq (hQo (X + 1) W4.heap.size (Nat.le_of_eq z4q.2.1.symm) hQl))
  have ZQ : Hid (W3.heap.size ≤ X ∧ (W4'.heap.size ≤ X + 1 ∧ X + 1 ≤ W4'.heap.size) ∧ W4'.heap.size < W4.heap.size ∧ hi4 ≤ X) := Lib.hid ⟨z4q.1, ⟨Nat.le_of_eq z4q.2.1, Nat.le_of_eq z4q.2.1.symm⟩, hQl, z4q.2.2⟩
  clear hB4 hHq hQo hQl z4q Z4 I4 M4 BX6
  generalize W4'.heap.size = Q at *
  have b0 := (BX6'.out.mem (.head _)) 0 _ rfl
  have b1 := (BX6'.out.mem (.head _)) 1 _ rfl
  go_wp2_with fail
  clear b0 b1
  refine (HIM.out _ _ _ _ _ _ _ M4'.out.1 M4'.out.2.1 Q4.out.1 hlen).mono ?_
  rintro e w5 ⟨⟨ga, gc, ga', gc', F, rfl, hI2⟩, hB5⟩
  have hI2 : RG W4.heap.size w5.heap.size F w5 ga ga' rcs.length gc rts.length gc' rcs rts := hI2
  have BX7 := Lib.hid (BX6'.out.call hB5)
  have hX5 : Below w5.heap.size w5 (w5.alloc (.cells #[.slice ga rcs.length gc, .slice ga' rts.length gc'] 29)) := (Below.refl _ _).alloc (Nat.le_refl _) _
  have hB57 := hB5.trans (hX5.mono hB5.size)
  have BX8 : Hid (Bx w [(w5.heap.size, [.slice ga rcs.length gc, .slice ga' rts.length gc']), (X, [.slice (some ⟨c, 0, none⟩) pl pl, .slice (some ⟨c', 0, none⟩) tl tl]), (S, [.slice sa rcs.length sc, .slice sa' rts.length sc']), (w.heap.size, [.slice pa pl pc, .slice ta tl tc])] (w5.alloc (.cells #[.slice ga rcs.length gc, .slice ga' rts.length gc'] 29))) := Lib.hid (BX7.out.box (vs := [.slice ga rcs.length gc, .slice ga' rts.length gc']) (t := 29))
  have I5 := Lib.hid (I4'.out.below hB57)
  have M5 := Lib.hid (And.intro (M4'.out.1.below hB57) (And.intro (M4'.out.2.1.below hB57) (M4'.out.2.2.below hB57)))
  have J5 := Lib.hid (hI2.below hX5)
  have Q5 := Lib.hid (And.intro (Q4.out.1.below hB57) (Q4.out.2.below hB57))
  have Z5 : Hid (W4.heap.size ≤ w5.heap.size ∧ (w5.alloc (.cells #[.slice ga rcs.length gc, .slice ga' rts.length gc'] 29)).heap.size = w5.heap.size + 1) := Lib.hid ⟨hB5.size, by simp⟩
  have b0 := fun (ob : Obj) => cell_alloc (o := ob) ((BX7.out.mem (.tail _ (.head _))) 0 _ rfl)
  have b1 := fun (ob : Obj) => cell_alloc (o := ob) ((BX7.out.mem (.tail _ (.head _))) 1 _ rfl)
  clear hB5 hX5 hB57 hI2
  go_wp2_with fail
  clear b0 b1
  generalize (w5.alloc (.cells #[.slice ga rcs.length gc, .slice ga' rts.length gc'] 29)) = W5 at *
  generalize w5.heap.size = G at *
  refine (laws_eqMesh _ _ _ _ _ _ _ _ _ _ rcs rts _ J5.out.1 J5.out.2.1 I5.out.1 I5.out.2.1).mono ?_
  rintro e w6 ⟨rfl, hB6⟩
  have BX9 := Lib.hid (BX8.out.call hB6)
  have I6 := Lib.hid (I5.out.below hB6)
  have M6 := Lib.hid (And.intro (M5.out.1.below hB6) (And.intro (M5.out.2.1.below hB6) (M5.out.2.2.below hB6)))
  have J6 := Lib.hid (J5.out.below hB6)
  have Q6 := Lib.hid (And.intro (Q5.out.1.below hB6) (Q5.out.2.below hB6))
  have Z6 := Lib.hid hB6.size
  clear hB6
  go_wp2_with fail
  refine Reg.wp_region_mix (C := fun w' => Below w6.heap.size w6 w') (G := fun w1 w2 => Below w1.heap.size w1 w2) (R := fun i v w' => match i with | 0 => v = .agg #[.slice (some ⟨c, 0, none⟩) pl pl, .slice (some ⟨c', 0, none⟩) tl tl] | 1 => v = .agg #[.slice pa pl pc, .slice ta tl tc] | 2 => ∃ d d', v = .agg #[.slice (some ⟨d, 0, none⟩) pl pl, .slice (some ⟨d', 0, none⟩) tl tl] ∧ IsVs w' (some ⟨d, 0, none⟩) pl pl cs ∧ IsTs w' (some ⟨d', 0, none⟩) tl tl ts | 3 => v = .bool true | 4 => v = .bool false | _ => True) (T := fun _ _ _ => True) [false, false, false, false, false, false, false, false, false, false, false, false, false, false, false, false, false, false, false, false, false, false, false, false, false, false, false, false, false, false, false, false, false, false, false, false, false, false, false, false, false, false, false, false, false, false, false, false, false, false, false, false, false, false, true, true, true, true, true, false, false, false, false, false, false, false, false, false, false, false, false, false, false, false, false, false, false, false, false, false, false, false, false, false, false, false, false, false, false, false, false, false, false, false, false, false, false, false, false, false, false, false, false, false, false, false, false, false, false, false, false, false, false, false, false, false, false, false, false]
    (by kernel_rfl) (by kernel_rfl) (by kernel_rfl) ?_ (below_drewN (Below.refl _ _) 1) ?_ ?_
  · intro j v w1 w2 _ hG hR
    match j with
    | 0 => exact hR
    | 1 => exact hR
    | 2 => obtain ⟨d, d', e, h1, h2⟩ := hR; exact ⟨d, d', e, h1.below hG, h2.below hG⟩
    | 3 => exact hR
    | 4 => exact hR
    | _ + 5 => trivial
  · refine ⟨Reg.Obl.mk ?_, Reg.Obl.mk ?_, Reg.Obl.mk ?_, Reg.Obl.mk ?_, Reg.Obl.mk ?_, trivial⟩
    · rintro av wq hB hx hd K hK
      have HC := Lib.hid hB
      clear hB
      have t8 : av.tmps[8]?.getD undef = .pointer (some ⟨X, 0, none⟩) := Reg.slot_val (hx 8 (by kernel_rfl))
      have y0 := ((BX9.out.call HC.out).mem (.tail _ (.head _))) 0 _ rfl
      have y1 := ((BX9.out.call HC.out).mem (.tail _ (.head _))) 1 _ rfl
      go_simp
      exact hK _ _ (fun _ => rfl) (fun h => by cases h) HC.out (Below.refl _ _)
    · rintro av wq hB hx hd K hK
      have HC := Lib.hid hB
      clear hB
      have t2 : av.tmps[2]?.getD undef = .pointer (some ⟨w.heap.size, 0, none⟩) := Reg.slot_val (hx 2 (by kernel_rfl))
      have y0 := ((BX9.out.call HC.out).mem (.tail _ (.tail _ (.tail _ (.head _))))) 0 _ rfl
      have y1 := ((BX9.out.call HC.out).mem (.tail _ (.tail _ (.tail _ (.head _))))) 1 _ rfl
      go_simp
      exact hK _ _ (fun _ => rfl) (fun h => by cases h) HC.out (Below.refl _ _)
    · rintro av wq hB hx hd K hK
      have HC := Lib.hid hB
      clear hB
      have t55 : av.tmps[55]?.getD undef = .agg #[.slice pa pl pc, .slice ta tl tc] := Reg.slot_val (hd 1 (by kernel_rfl) 55 rfl)
      go_simp
      refine (laws_toMesh _ _ _ _ _ _ _ _ _ (HP.out.below (BX9.out.call HC.out).bel) (HT.out.below (BX9.out.call HC.out).bel) HS.out).mono ?_
      rintro en w2 ⟨⟨d, d', rfl, hd1, hd2, hV, hT⟩, hB2⟩
      exact hK _ _ (fun _ => ⟨d, d', rfl, hV, hT⟩) (fun h => by cases h) (HC.out.trans (hB2.mono HC.out.size)) hB2
    · rintro av wq hB hx hd K hK
      have HC := Lib.hid hB
      clear hB
      have t54 : av.tmps[54]?.getD undef = .agg #[.slice (some ⟨c, 0, none⟩) pl pl, .slice (some ⟨c', 0, none⟩) tl tl] := Reg.slot_val (hd 0 (by kernel_rfl) 54 rfl)
      obtain ⟨e, e', g2, hV, hT⟩ := hd 2 (by kernel_rfl) 56 rfl
      have t56 := Reg.slot_val g2
      clear g2
      have HVe := Lib.hid hV
      have HTe := Lib.hid hT
      clear hV hT
      go_simp
      refine (laws_eqMesh _ _ _ _ _ _ _ _ _ _ cs ts _ (M6.out.1.below HC.out) (M6.out.2.1.below HC.out) HVe.out HTe.out).mono ?_
      rintro en w2 ⟨rfl, hB2⟩
      exact hK _ _ (fun _ => rfl) (fun h => by cases h) (HC.out.trans (hB2.mono HC.out.size)) hB2
    · rintro av wq hB hx hd K hK
      have t57 : av.tmps[57]?.getD undef = .bool true := Reg.slot_val (hd 3 (by kernel_rfl) 57 rfl)
      go_simp
      exact hK _ _ (fun _ => rfl) (fun h => by cases h) hB (Below.refl _ _)
  rintro f wy hBz hd hTT
  have g58 : f 58 = .bool false := hd 4 58 rfl
  simp only [Reg.mixL, g58]
  have z1 := Z1.out
  have zq := ZQ.out
  have z5 := Z5.out
  have z6 := Z6.out
  have zy := hBz.size
  have hSlt : S < W3.heap.size := by omega
  have BXy := Lib.hid (BX9.out.call hBz)
  have Iy := Lib.hid (I6.out.below hBz)
  have Oy := Lib.hid (M6.out.2.2.below hBz)
  have Jy := Lib.hid (J6.out.below hBz)
  have Qy := Lib.hid (And.intro (Q6.out.1.below hBz) (Q6.out.2.below hBz))
  clear hBz hd hTT g58
  go_wp2_with fail
  refine (laws_toHoldS _ _ _ _ _ (HF.out.below BXy.out.bel) hlen).mono ?_
  rintro e wu ⟨rfl, hHu, hBu⟩
  have BXu := Lib.hid (BXy.out.call hBu)
  have Iu := Lib.hid (Iy.out.below hBu)
  have Ou := Lib.hid (Oy.out.below hBu)
  have Ju := Lib.hid (Jy.out.below hBu)
  have Qu := Lib.hid (And.intro (Qy.out.1.below hBu) (And.intro (Qy.out.2.below hBu) hHu))
  have zu := hBu.size
  clear hBu hHu
  go_wp2_with fail
  refine (laws_eqHoldS _ _ hl _ _ hs wu Qu.out.1 Qu.out.2.2).mono ?_
  rintro e wz ⟨rfl, hBz⟩
  have BXz := Lib.hid (BXu.out.call hBz)
  have Iz := Lib.hid (Iu.out.below hBz)
  have Oz := Lib.hid (Ou.out.below hBz)
  have Jz := Lib.hid (Ju.out.below hBz)
  have Qz := Lib.hid (Qu.out.2.1.below hBz)
  have zz := hBz.size
  clear hBz
  have x0 := (BXz.out.mem (.tail _ (.head _))) 0 _ rfl
  have x1 := (BXz.out.mem (.tail _ (.head _))) 1 _ rfl
  go_wp2_with fail
  clear x0 x1
  refine (laws_markMeshR W3.heap.size hi4 c 0 c' 0 pl pl tl tl ts 1 wz Oz.out (by omega) (by rw [← HPL.out]; exact HS.out.1) (by rw [← HTL.out]; exact HS.out.2.1) (fun j hj => HS.out.2.2 j (by rw [HTL.out]; exact hj)) (by decide)).mono ?_
  rintro e w7 ⟨z7, hz7, rfl, hM⟩
  have hz0 : ¬ ((z7 : Int) < 0) := by omega
  have hall : ∀ b l, (b, l) ∈ [(G, [Value.slice ga rcs.length gc, .slice ga' rts.length gc']), (X, [Value.slice (some ⟨c, 0, none⟩) pl pl, .slice (some ⟨c', 0, none⟩) tl tl]), (S, [Value.slice sa rcs.length sc, .slice sa' rts.length sc']), (w.heap.size, [Value.slice pa pl pc, .slice ta tl tc])] → b < W3.heap.size ∨ hi4 ≤ b := by
    intro b l hm
    simp only [List.mem_cons, Prod.mk.injEq, List.not_mem_nil, or_false] at hm
    rcases hm with ⟨rfl, _⟩ | ⟨rfl, _⟩ | ⟨rfl, _⟩ | ⟨rfl, _⟩
    · exact .inr (by omega)
    · exact .inr (by omega)
    · exact .inl (by omega)
    · exact .inl (by omega)
  have BX10' := Lib.hid (BXz.out.away hM (by omega) hall)
  have AG := Agree.of_mark hM
  have I7' := Lib.hid (Iz.out.agree (fun b k1 k2 => .inl (by omega)) AG)
  have J7' := Lib.hid (Jz.out.agree (fun b k1 k2 => .inr (by omega)) AG)
  have Q7 := Lib.hid (Qz.out.agree (S := fun b => b < W3.heap.size ∨ hi4 ≤ b) (fun b k1 k2 => .inr (by omega)) AG)
  have z7s := hM.below.size
  clear hM hall AG
  go_wp2_with fail
  refine (laws_markHoldS (X + 1) W4.heap.size Q 0 hl hl z7 w7 Q7.out (by omega)).mono ?_
  rintro e w7b ⟨rfl, hM⟩
  obtain ⟨zb, hzb⟩ : ∃ zb, zb = z7 + hl * 8 := ⟨_, rfl⟩
  rw [← hzb]
  have hzb0 : ¬ ((zb : Int) < 0) := by omega
  clear hzb
  have hall : ∀ b l, (b, l) ∈ [(G, [Value.slice ga rcs.length gc, .slice ga' rts.length gc']), (X, [Value.slice (some ⟨c, 0, none⟩) pl pl, .slice (some ⟨c', 0, none⟩) tl tl]), (S, [Value.slice sa rcs.length sc, .slice sa' rts.length sc']), (w.heap.size, [Value.slice pa pl pc, .slice ta tl tc])] → b < X + 1 ∨ W4.heap.size ≤ b := by
    intro b l hm
    simp only [List.mem_cons, Prod.mk.injEq, List.not_mem_nil, or_false] at hm
    rcases hm with ⟨rfl, _⟩ | ⟨rfl, _⟩ | ⟨rfl, _⟩ | ⟨rfl, _⟩
    · exact .inr (by omega)
    · exact .inl (by omega)
    · exact .inl (by omega)
    · exact .inl (by omega)
  have BX10 := Lib.hid (BX10'.out.away hM (by omega) hall)
  have AG := Agree.of_mark hM
  have I7 := Lib.hid (I7'.out.agree (fun b k1 k2 => .inl (by omega)) AG)
  have J7 := Lib.hid (J7'.out.agree (fun b k1 k2 => .inr (by omega)) AG)
  have z7b := hM.below.size
  clear hM hall AG
  have u0 := (BX10.out.mem (.head _)) 0 _ rfl
  have u1 := (BX10.out.mem (.head _)) 1 _ rfl
  have v0 := (BX10.out.mem (.tail _ (.tail _ (.head _)))) 0 _ rfl
  have v1 := (BX10.out.mem (.tail _ (.tail _ (.head _)))) 1 _ rfl
  go_wp2_with fail
  clear u0 u1 v0 v1
  refine (laws_eqMesh _ _ _ _ _ _ _ _ _ _ rcs rts _ J7.out.1 J7.out.2.1 I7.out.1 I7.out.2.1).mono ?_
  rintro e w8 ⟨rfl, hB8⟩
  have BX11 := Lib.hid (BX10.out.call hB8)
  have I8 := Lib.hid (I7.out.below hB8)
  have J8 := Lib.hid (J7.out.2.2.below hB8)
  have LN : Hid (rcs.length ≤ 1000 ∧ rts.length ≤ 1000) := Lib.hid (by have h := LEN.out; exact ⟨by omega, by omega⟩)
  have z8 := hB8.size
  clear hB8
  have u0 := (BX11.out.mem (.head _)) 0 _ rfl
  have u1 := (BX11.out.mem (.head _)) 1 _ rfl
  go_wp2_with fail
  clear u0 u1
  refine (mark_gm W4.heap.size G ga ga' rcs.length gc rts.length gc' F w8 J8.out (by omega) LN.out.1 LN.out.2).mono ?_
  rintro e w9 ⟨rfl, hmk, hM9⟩
  have hall : ∀ b l, (b, l) ∈ [(G, [Value.slice ga rcs.length gc, .slice ga' rts.length gc']), (X, [Value.slice (some ⟨c, 0, none⟩) pl pl, .slice (some ⟨c', 0, none⟩) tl tl]), (S, [Value.slice sa rcs.length sc, .slice sa' rts.length sc']), (w.heap.size, [Value.slice pa pl pc, .slice ta tl tc])] → b < W4.heap.size ∨ G ≤ b := by
    intro b l hm
    simp only [List.mem_cons, Prod.mk.injEq, List.not_mem_nil, or_false] at hm
    rcases hm with ⟨rfl, _⟩ | ⟨rfl, _⟩ | ⟨rfl, _⟩ | ⟨rfl, _⟩
    · exact .inr (by omega)
    · exact .inl (by omega)
    · exact .inl (by omega)
    · exact .inl (by omega)
  have BX12 := Lib.hid (BX11.out.away hM9 (by omega) hall)
  have AG := Agree.of_mark hM9
  have I9 := Lib.hid (I8.out.agree (fun b k1 k2 => .inl (by omega)) AG)
  have HMK := Lib.hid hmk
  have HHG := Lib.hid (fun (w : World) (h : MrkM w ga ga' rcs.length rts.length F) => held_gm ga ga' rcs.length gc rts.length gc' F w h LN.out.1 LN.out.2)
  obtain ⟨N, hN⟩ : ∃ N, N = 1 + rcs.length * 3 + rts.length * 3 := ⟨_, rfl⟩
  rw [← hN] at HHG ⊢
  have hn0 : ¬ ((N : Int) < 0) := by omega
  clear hM9 hall AG hmk hN
  have u0 := (BX12.out.mem (.head _)) 0 _ rfl
  have u1 := (BX12.out.mem (.head _)) 1 _ rfl
  go_wp2_with fail
  clear u0 u1
  refine (HHG.out w9 HMK.out).mono ?_
  rintro e w10 ⟨rfl, hB10⟩
  have BX13 := Lib.hid (BX12.out.call hB10)
  have I10 := Lib.hid (I9.out.below hB10)
  have MK10 := Lib.hid (HMK.out.below hB10)
  clear hB10
  have a0 := (BX13.out.mem (.tail _ (.tail _ (.tail _ (.head _))))) 0 _ rfl
  have a1 := (BX13.out.mem (.tail _ (.tail _ (.tail _ (.head _))))) 1 _ rfl
  go_wp2_with fail
  clear a0 a1
  refine (laws_toMesh _ _ _ _ _ _ _ _ _ (HP.out.below BX13.out.bel) (HT.out.below BX13.out.bel) HS.out).mono ?_
  rintro e w11 ⟨⟨d, d', rfl, _, _, hV, hT⟩, hB11⟩
  have BX14 := Lib.hid (BX13.out.call hB11)
  have I11 := Lib.hid (I10.out.below hB11)
  have MK11 := Lib.hid (MK10.out.below hB11)
  have HY := Lib.hid (And.intro hV hT)
  clear hB11 hV hT
  go_wp2_with fail
  refine (laws_toHoldS _ _ _ _ _ (HF.out.below BX14.out.bel) hlen).mono ?_
  rintro e w11b ⟨rfl, hHy, hB11⟩
  have BX14' := Lib.hid (BX14.out.call hB11)
  have I11' := Lib.hid (I11.out.below hB11)
  have MK11' := Lib.hid (MK11.out.below hB11)
  have HY' := Lib.hid (And.intro (HY.out.1.below hB11) (And.intro (HY.out.2.below hB11) hHy))
  clear hB11 hHy
  go_wp2_with fail
  refine (HIM.out _ _ _ _ _ _ _ HY'.out.1 HY'.out.2.1 HY'.out.2.2 hlen).mono ?_
  rintro e w12 ⟨⟨ka, kc, ka', kc', F', rfl, hK1, hK2, _⟩, hB12⟩
  have BX15 := Lib.hid (BX14'.out.call hB12)
  have hX : Below w12.heap.size w12 (w12.alloc (.cells #[.slice ka rcs.length kc, .slice ka' rts.length kc'] 29)) := (Below.refl _ _).alloc (Nat.le_refl _) _
  have hB13 := hB12.trans (hX.mono hB12.size)
  have BX16 : Hid (Bx w [(w12.heap.size, [.slice ka rcs.length kc, .slice ka' rts.length kc']), (G, [.slice ga rcs.length gc, .slice ga' rts.length gc']), (X, [.slice (some ⟨c, 0, none⟩) pl pl, .slice (some ⟨c', 0, none⟩) tl tl]), (S, [.slice sa rcs.length sc, .slice sa' rts.length sc']), (w.heap.size, [.slice pa pl pc, .slice ta tl tc])] (w12.alloc (.cells #[.slice ka rcs.length kc, .slice ka' rts.length kc'] 29))) := Lib.hid (BX15.out.box (vs := [.slice ka rcs.length kc, .slice ka' rts.length kc']) (t := 29))
  have I12 := Lib.hid (I11'.out.below hB13)
  have I3 := Lib.hid (And.intro (hK1.below hX) (hK2.below hX))
  have MK12 := Lib.hid (MK11'.out.below hB13)
  have v0 := fun (ob : Obj) => cell_alloc (o := ob) ((BX15.out.mem (.tail _ (.tail _ (.head _)))) 0 _ rfl)
  have v1 := fun (ob : Obj) => cell_alloc (o := ob) ((BX15.out.mem (.tail _ (.tail _ (.head _)))) 1 _ rfl)
  clear hB12 hX hB13 hK1 hK2
  go_wp2_with fail
  clear v0 v1
  generalize (w12.alloc (.cells #[.slice ka rcs.length kc, .slice ka' rts.length kc'] 29)) = W12 at *
  refine (laws_eqMesh _ _ _ _ _ _ _ _ _ _ rcs rts _ I3.out.1 I3.out.2 I12.out.1 I12.out.2.1).mono ?_
  rintro e w13 ⟨rfl, hB14⟩
  have BX17 := Lib.hid (BX16.out.call hB14)
  have MK13 := Lib.hid (MK12.out.below hB14)
  clear hB14
  have u0 := (BX17.out.mem (.tail _ (.head _))) 0 _ rfl
  have u1 := (BX17.out.mem (.tail _ (.head _))) 1 _ rfl
  go_wp2_with fail
  clear u0 u1
  refine (HHG.out w13 MK13.out).mono ?_
  rintro e w14 ⟨rfl, hB15⟩
  have BX18 := Lib.hid (BX17.out.call hB15)
  clear hB15
  go_wp2
  go_ret
  exact ⟨rfl, BX18.out.bel⟩
end Go.Proofs.Ytmbekamnogbgaaa


/-
The law FnExactHoldMesh holds at every input: its frame. Conditions: none.
-/
namespace Go.Proofs.Ytmbekamnogbgaaa.fnExactHoldMeshDone
open Go.ChangeShapes Go.WideShapes Go.ChangeAt Go.RowKit
open Go.ChangeMaps (open_string shut_string)
set_option linter.unusedVariables false

theorem own : ownKnob Try.prog.godebug = none := by kernel_rfl
theorem laidOut : laidOutB Try.prog = true := by kernel_rfl

set_option maxRecDepth 100000 in
theorem lifted (os : Os) (started : os.Started) (H : Type) (enc : TypeId × Value → H) :
    ReturnsInHanded {} Try.checked os 5 .any (Rows.fnExactHoldMeshSpec.pre6 enc Try.prog Try.f5 Rows.fnExactHoldMeshRow.domain false) (Rows.fnExactHoldMeshSpec.post enc Try.prog Try.f5 false true false false) := by
  refine returnsInHanded_of_change (C := Try.checked) own started (by kernel_rfl) Try.func5
    (ChangeSpec.witness6 (enc := enc) (C := Try.checked) false ⟨#[], #[.agg #[.slice none 0 0, .slice none 0 0], .slice none 0 0], []⟩ 8 (by kernel_rfl) (by kernel_rfl) (by kernel_rfl) (by kernel_rfl)) ?_
  intro W base args ds gs before hval0 hW hcnd _
  have hval : ∀ (j : Nat) t v, Try.f5.params[j]? = some t → args[j]? = some v → Value.okWide Try.prog W .any base t v := hval0
  have hW' := hW
  obtain ⟨p, q, hA0, hV, rfl, hfz, hnd⟩ := hW
  have hA : DataW.TrodAll enc Try.prog W 0 (fun _ => true) true Try.f5.params.toList args.toList ds p := hA0
  rw [Try.params5] at hA hval
  obtain ⟨v0, vs0, d0, ds0, p0, q0, hargs, rfl, rfl, h0, r0⟩ := trodAll_cons hA
  obtain ⟨v1, vs1, d1, ds1, p1, q1, rfl, rfl, rfl, h1, r1⟩ := trodAll_cons r0
  obtain ⟨rfl, rfl, rfl⟩ := trodAll_nil r1
  obtain rfl : args = #[v0, v1] := by cases args; simp_all
  obtain ⟨rfl, rfl⟩ := trodVars_none hV
  have k0 := h0
  have lt0 : ∀ x ∈ p0, x.block < W.heap.size := by obtain ⟨m, hm⟩ := k0; exact DataW.trod_lt m _ _ _ hm
  obtain ⟨pa0, ta0, pl0, pc0, tl0, tc0, cs0, ts0, e0, wp0, wt0⟩ := Fk.open_mesh Try.underlying25 (by kernel_rfl) (by kernel_rfl) Try.underlying22 Try.underlying46 (by kernel_rfl) (by kernel_rfl) Try.underlying31 Try.underlying31 Try.underlying31 Try.underlying23 Try.underlying81 Try.underlying2 (by kernel_rfl) (by kernel_rfl) (hval 0 25 v0 rfl rfl) h0
  subst e0
  have k1 := h1
  have lt1 : ∀ x ∈ p1, x.block < W.heap.size := by obtain ⟨m, hm⟩ := k1; exact DataW.trod_lt m _ _ _ hm
  obtain ⟨a1, len1, cap1, e1⟩ := okWide_slice Try.underlying57 (hval 1 57 v1 rfl rfl)
  subst e1
  obtain ⟨hs1, w1⟩ := Fk.open_holds Try.underlying57 Try.underlying120 (by kernel_rfl) (by kernel_rfl) (by kernel_rfl) Try.underlying2 Try.underlying2 Try.underlying46 (by kernel_rfl) Try.underlying31 Try.underlying31 Try.underlying31 Try.underlying46 (by kernel_rfl) Try.underlying31 Try.underlying31 Try.underlying31 h1
  clear hA0 hval0
  refine (FnExactHoldMesh_law pa0 ta0 pl0 pc0 tl0 tc0 cs0 ts0 a1 len1 cap1 hs1 W wp0 wt0 w1).mono fun e W' ⟨he, bel⟩ => ?_
  subst he
  exact ⟨_, rfl, _, _, _, [], _, [], hW', trodAll_mk1 (shut_bool Try.underlying4 _), (trodAll_cons_mk (Below.trod laidOut (by kernel_rfl) (of_decide_eq_true (by kernel_rfl)) k0 bel lt0) (trodAll_cons_mk (Below.trod laidOut (by kernel_rfl) (of_decide_eq_true (by kernel_rfl)) k1 bel lt1) trodAll_mk0)), rfl, bel.frame _, fun h => by cases h⟩
end Go.Proofs.Ytmbekamnogbgaaa.fnExactHoldMeshDone

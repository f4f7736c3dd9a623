/-
Texts in one: what BorderOf stands on, part 28. Conditions: those of each.
-/
import Derived.Test.YtockhhfehjoldaaKBorderOf27
import Derived.WalkKit
import Derived.BigQuiet
import Derived.Maps.OwnSet

/-
All edges of a mesh, in order: what the model returns. Conditions: the mesh is valid and lies in memory.
-/
namespace Go.Proofs.Ytockhhfehjoldaa
open Go Fk Go.RowKit
set_option linter.unusedVariables false
set_option maxRecDepth 64000

theorem OwnT.congr {base n : Nat} {w : World} {v : Value} {ts us : List (List Int)} (h : OwnT base w v n ts) (he : ∀ j, j < n → ts.getD j [] = us.getD j []) : OwnT base w v n us := by
  obtain ⟨rows, h1, h2⟩ := h
  refine ⟨rows, h1, fun j hj => ?_⟩
  rw [← he j hj]
  exact h2 j hj
theorem getD_app {ts us : List (List Int)} {j : Nat} (h : j < ts.length) : ts.getD j [] = (ts ++ us).getD j [] := by
  simp [List.getD, List.getElem?_append_left h]
theorem getD_end {ts : List (List Int)} {u : List Int} : (ts ++ [u]).getD ts.length [] = u := by simp [List.getD]
set_option maxHeartbeats 4000000 in
theorem l02Edges (pb : Nat) (pa ta : Option Addr) (pl pc tl tc : Nat) (cs : List C3) (ts : List (List Int)) (w : World) (c0' : w.cell? ⟨pb, 0, none⟩ = some (.slice pa pl pc)) (c1' : w.cell? ⟨pb, 1, none⟩ = some (.slice ta tl tc)) (hp' : IsVs w pa pl pc cs) (ht : IsTs w ta tl tc ts) (hv : validB cs ts = true) :
    Calls Try.prog 38 #[.pointer (some ⟨pb, 0, none⟩)] w fun e w' => (∃ v, e = .returned v ∧ OwnT w.heap.size w' v (edgesT pl ts).length (edgesT pl ts)) ∧ Below w.heap.size w w' := by
  have hpl := hp'.1
  have htl := ht.1
  obtain ⟨v1, v2⟩ := valid_pl hv
  rw [hpl] at v1
  rw [htl] at v2
  obtain ⟨i0, hi, hz0, hz1, hz2⟩ := info_parts infoBool
  obtain ⟨j0, hj, hq0, hq1, hq2⟩ := info_parts infoS
  have HV := Lib.hid (fun k (hk : k < tl) => tri_partsh (valid_rowh hv (show k < ts.length by omega)))
  rw [hpl] at HV
  have C0 := Lib.hid c0'
  have C1 := Lib.hid c1'
  have HT := Lib.hid ht
  have lpb := World.block_lt_of_cell? _ _ c0'
  obtain ⟨N, hN⟩ : ∃ N : Nat, N = pl * pl := ⟨_, rfl⟩
  have hNm : (pl : Int) * (pl : Int) = (N : Int) := by rw [hN]; push_cast; rfl
  have hNb : N ≤ 4096 := by
    have : pl * pl ≤ 64 * 64 := Nat.mul_le_mul v1 v1
    omega
  have hmk : (Instr.makeSlice 90 (.int .i64 N) (.int .i64 N)).run Try.prog w = .ok (.slice (some ⟨w.heap.size, 0, none⟩) N N) (w.alloc (.cells (madeCells #[.bool false] N) 4)) := by
    have := run_make (P := Try.prog) w 90 4 i0 (.bool false) Try.underlying90 hi hz0 .i64 .i64 N N (by omega) (Int.le_refl _) (by rw [hz2]; omega) (by omega)
    rw [this, hz1]; simp; rfl
  have hs0 : SeenT (w.alloc (.cells (madeCells #[.bool false] N) 4)) w.heap.size pl (preE ts 0 0) := by
    refine ⟨fun x y hx hy => ?_, fun i => by simp, by simp⟩
    rw [preE_zero]
    have hlt := flat_lt hx hy
    rw [← hN] at hlt
    exact made_cell w (.bool false) N _ _ hlt
  have HS0 := Lib.hid hs0
  obtain ⟨L, hL⟩ : ∃ L, L = keysE ts := ⟨_, rfl⟩
  have hPE : preE ts tl 0 = L := by rw [hL, ← htl]; exact preE_end ts
  have HPE := Lib.hid hPE
  unfold edgesT
  rw [← hL]
  clear hL hPE
  have HN := Lib.hid hN
  clear hs0 c0' c1' ht hp' hv hN
  go_enter Try.func38, Try.ntmps38
  have kb0 := C0.out
  go_wp2
  clear kb0
  have HB0 : Hid (Below w.heap.size w (w.alloc (.cells (madeCells #[.bool false] N) 4))) := Lib.hid ((Below.refl _ _).alloc (Nat.le_refl _) _)
  generalize (w.alloc (.cells (madeCells #[.bool false] N) 4)) = W at *
  go_loopw [5] (fun i w' => ∃ k : Nat, k ≤ tl ∧ i = .int .i64 k ∧ Aside (Below w.heap.size w w' ∧ SeenT w' w.heap.size pl (preE ts k 0))) (fun i _ => tl - (intOf i).toNat)
  case atStart => exact ⟨0, Nat.zero_le _, rfl, HB0.out, HS0.out⟩
  case round =>
    obtain ⟨k, hk, rfl, hA⟩ := hrel
    obtain ⟨hB, hS⟩ := hA.out
    have HB := Lib.hid hB
    have HS := Lib.hid hS
    have kb0 := cell_below hB C0.out
    have kb1 := cell_below hB C1.out
    clear hA hS
    by_cases hlt : k < tl
    · obtain ⟨bt, ot, rfl, hrow⟩ := HT.out.some (by omega)
      obtain ⟨r1, n1, q1, cr', ir⟩ := hrow k hlt
      obtain ⟨hn3, hx⟩ := HV.out k hlt
      have hn1 : n1 = 3 := ir.1.symm.trans hn3
      subst hn1
      have cr := cell_below hB cr'
      have hk0 : (0 : Int) ≤ (k : Int) := by omega
      have hk1 : (k : Int) < (tl : Int) := by omega
      obtain ⟨a0, b0⟩ := hx 0 (by decide)
      obtain ⟨a1, b1⟩ := hx 1 (by decide)
      obtain ⟨a2, b2⟩ := hx 2 (by decide)
      obtain ⟨x0, hx0⟩ : ∃ x : Nat, (ts.getD k []).getD 0 0 = (x : Int) := ⟨_, (Int.toNat_of_nonneg a0).symm⟩
      obtain ⟨x1, hx1⟩ : ∃ x : Nat, (ts.getD k []).getD 1 0 = (x : Int) := ⟨_, (Int.toNat_of_nonneg a1).symm⟩
      obtain ⟨x2, hx2⟩ : ∃ x : Nat, (ts.getD k []).getD 2 0 = (x : Int) := ⟨_, (Int.toNat_of_nonneg a2).symm⟩
      rw [hx0] at b0
      rw [hx1] at b1
      rw [hx2] at b2
      have b0' : x0 < pl := by omega
      have b1' : x1 < pl := by omega
      have b2' : x2 < pl := by omega
      obtain ⟨br, or, rfl, hz⟩ := ir.some (by decide)
      have z0 := hz 0 (by decide)
      have z1 := hz 1 (by decide)
      have z2 := hz 2 (by decide)
      rw [hx0, Nat.add_zero] at z0
      rw [hx1] at z1
      rw [hx2] at z2
      have X0 := Lib.hid hx0
      have X1 := Lib.hid hx1
      have X2 := Lib.hid hx2
      have Z0 := Lib.hid z0
      have Z1 := Lib.hid z1
      have Z2 := Lib.hid z2
      clear hB hrow cr' ir hn3 hx a0 a1 a2 b0 b1 b2 hx0 hx1 hx2 hz z0 z1 z2 HS0 HB0
      go_wp2
      clear cr kb0 kb1
      go_loopw [7] (fun i w' => ∃ m : Nat, m ≤ 3 ∧ i = .int .i64 m ∧ Aside (Below w.heap.size w w' ∧ SeenT w' w.heap.size pl (preE ts k m))) (fun i _ => 3 - (intOf i).toNat)
      case atStart => exact ⟨0, by omega, rfl, HB.out, HS.out⟩
      case round =>
        obtain ⟨m, hm, rfl, hA⟩ := hrel
        obtain ⟨hB, hS⟩ := hA.out
        have HB1 := Lib.hid hB
        have HS1 := Lib.hid hS
        have z0 := cell_below hB Z0.out
        have z1 := cell_below hB Z1.out
        have z2 := cell_below hB Z2.out
        clear hA hB hS
        by_cases hlm : m < 3
        · obtain rfl | rfl | rfl : m = 0 ∨ m = 1 ∨ m = 2 := by omega
          · have hm0 : ((min (x0 : Int) (x1 : Int)) : Int) = ((min x0 x1 : Nat) : Int) := by omega
            have hm1 : ((max (x0 : Int) (x1 : Int)) : Int) = ((max x0 x1 : Nat) : Int) := by omega
            have HK := Lib.hid (show (triE (ts.getD k [])).getD 0 (0, 0) = (((min x0 x1 : Nat) : Int), ((max x0 x1 : Nat) : Int)) by
              show eKey ((ts.getD k []).getD 0 0) ((ts.getD k []).getD 1 0) = _
              rw [X0.out, X1.out]; unfold eKey; rw [hm0, hm1])
            have hp : min x0 x1 < pl := by omega
            have hq : max x0 x1 < pl := by omega
            have M0 := Lib.hid hm0
            have M1 := Lib.hid hm1
            clear hm0 hm1
            generalize min x0 x1 = p at *
            generalize max x0 x1 = q at *
            obtain ⟨I, hI⟩ : ∃ I : Nat, I = p * pl + q := ⟨_, rfl⟩
            obtain ⟨P, hP⟩ : ∃ P : Nat, P = p * pl := ⟨_, rfl⟩
            have hlt2 := flat_lt hp hq
            rw [← HN.out] at hlt2
            have hPm : (p : Int) * (pl : Int) = (P : Int) := by rw [hP]; push_cast; rfl
            have hIm : (P : Int) + (q : Int) = (I : Int) := by rw [hI, hP]; push_cast; rfl
            have i0 : (0 : Int) ≤ (I : Int) := by omega
            have i1 : (I : Int) < (N : Int) := by rw [hI]; omega
            have hPb : P ≤ 4096 := by omega
            have cI : wr.cell? ⟨w.heap.size, I, none⟩ = some (.bool (decide (((p : Int), (q : Int)) ∈ preE ts k 0))) := by rw [hI]; exact HS1.out.1 p q hp hq
            have fI : wr.frozen? ⟨w.heap.size, I, none⟩ = false := HS1.out.2.1 I
            have HS2 : Hid (SeenT (wr.setCell ⟨w.heap.size, I, none⟩ (.bool true)) w.heap.size pl (preE ts k (0 + 1))) := Lib.hid (by
              rw [preE_step (by decide), HK.out, hI]; exact HS1.out.set hp hq)
            generalize (decide (((p : Int), (q : Int)) ∈ preE ts k 0)) = u at *
            have HI := Lib.hid hI
            clear hI hP hlt2
            go_wp2_with (first
              | (go_at_call 56; refine (l00Min _ _ _).mono ?_; rintro e w1 ⟨rfl, hw1⟩; rw [hw1, M0.out]; clear hw1)
              | (go_at_call 55; refine (l00Max _ _ _).mono ?_; rintro e w1 ⟨rfl, hw1⟩; rw [hw1, M1.out]; clear hw1))
            go_roundw
            case rel => exact ⟨0 + 1, by omega, by go_num, HB1.out.setCell (Nat.le_refl _) _, HS2.out⟩
            case measure => simp [intOf]
          · have hm0 : ((min (x1 : Int) (x2 : Int)) : Int) = ((min x1 x2 : Nat) : Int) := by omega
            have hm1 : ((max (x1 : Int) (x2 : Int)) : Int) = ((max x1 x2 : Nat) : Int) := by omega
            have HK := Lib.hid (show (triE (ts.getD k [])).getD 1 (0, 0) = (((min x1 x2 : Nat) : Int), ((max x1 x2 : Nat) : Int)) by
              show eKey ((ts.getD k []).getD 1 0) ((ts.getD k []).getD 2 0) = _
              rw [X1.out, X2.out]; unfold eKey; rw [hm0, hm1])
            have hp : min x1 x2 < pl := by omega
            have hq : max x1 x2 < pl := by omega
            have M0 := Lib.hid hm0
            have M1 := Lib.hid hm1
            clear hm0 hm1
            generalize min x1 x2 = p at *
            generalize max x1 x2 = q at *
            obtain ⟨I, hI⟩ : ∃ I : Nat, I = p * pl + q := ⟨_, rfl⟩
            obtain ⟨P, hP⟩ : ∃ P : Nat, P = p * pl := ⟨_, rfl⟩
            have hlt2 := flat_lt hp hq
            rw [← HN.out] at hlt2
            have hPm : (p : Int) * (pl : Int) = (P : Int) := by rw [hP]; push_cast; rfl
            have hIm : (P : Int) + (q : Int) = (I : Int) := by rw [hI, hP]; push_cast; rfl
            have i0 : (0 : Int) ≤ (I : Int) := by omega
            have i1 : (I : Int) < (N : Int) := by rw [hI]; omega
            have hPb : P ≤ 4096 := by omega
            have cI : wr.cell? ⟨w.heap.size, I, none⟩ = some (.bool (decide (((p : Int), (q : Int)) ∈ preE ts k 1))) := by rw [hI]; exact HS1.out.1 p q hp hq
            have fI : wr.frozen? ⟨w.heap.size, I, none⟩ = false := HS1.out.2.1 I
            have HS2 : Hid (SeenT (wr.setCell ⟨w.heap.size, I, none⟩ (.bool true)) w.heap.size pl (preE ts k (1 + 1))) := Lib.hid (by
              rw [preE_step (by decide), HK.out, hI]; exact HS1.out.set hp hq)
            generalize (decide (((p : Int), (q : Int)) ∈ preE ts k 1)) = u at *
            have HI := Lib.hid hI
            clear hI hP hlt2
            go_wp2_with (first
              | (go_at_call 56; refine (l00Min _ _ _).mono ?_; rintro e w1 ⟨rfl, hw1⟩; rw [hw1, M0.out]; clear hw1)
              | (go_at_call 55; refine (l00Max _ _ _).mono ?_; rintro e w1 ⟨rfl, hw1⟩; rw [hw1, M1.out]; clear hw1))
            go_roundw
            case rel => exact ⟨1 + 1, by omega, by go_num, HB1.out.setCell (Nat.le_refl _) _, HS2.out⟩
            case measure => simp [intOf]
          · have hm0 : ((min (x2 : Int) (x0 : Int)) : Int) = ((min x2 x0 : Nat) : Int) := by omega
            have hm1 : ((max (x2 : Int) (x0 : Int)) : Int) = ((max x2 x0 : Nat) : Int) := by omega
            have HK := Lib.hid (show (triE (ts.getD k [])).getD 2 (0, 0) = (((min x2 x0 : Nat) : Int), ((max x2 x0 : Nat) : Int)) by
              show eKey ((ts.getD k []).getD 2 0) ((ts.getD k []).getD 0 0) = _
              rw [X2.out, X0.out]; unfold eKey; rw [hm0, hm1])
            have hp : min x2 x0 < pl := by omega
            have hq : max x2 x0 < pl := by omega
            have M0 := Lib.hid hm0
            have M1 := Lib.hid hm1
            clear hm0 hm1
            generalize min x2 x0 = p at *
            generalize max x2 x0 = q at *
            obtain ⟨I, hI⟩ : ∃ I : Nat, I = p * pl + q := ⟨_, rfl⟩
            obtain ⟨P, hP⟩ : ∃ P : Nat, P = p * pl := ⟨_, rfl⟩
            have hlt2 := flat_lt hp hq
            rw [← HN.out] at hlt2
            have hPm : (p : Int) * (pl : Int) = (P : Int) := by rw [hP]; push_cast; rfl
            have hIm : (P : Int) + (q : Int) = (I : Int) := by rw [hI, hP]; push_cast; rfl
            have i0 : (0 : Int) ≤ (I : Int) := by omega
            have i1 : (I : Int) < (N : Int) := by rw [hI]; omega
            have hPb : P ≤ 4096 := by omega
            have cI : wr.cell? ⟨w.heap.size, I, none⟩ = some (.bool (decide (((p : Int), (q : Int)) ∈ preE ts k 2))) := by rw [hI]; exact HS1.out.1 p q hp hq
            have fI : wr.frozen? ⟨w.heap.size, I, none⟩ = false := HS1.out.2.1 I
            have HS2 : Hid (SeenT (wr.setCell ⟨w.heap.size, I, none⟩ (.bool true)) w.heap.size pl (preE ts k (2 + 1))) := Lib.hid (by
              rw [preE_step (by decide), HK.out, hI]; exact HS1.out.set hp hq)
            generalize (decide (((p : Int), (q : Int)) ∈ preE ts k 2)) = u at *
            have HI := Lib.hid hI
            clear hI hP hlt2
            go_wp2_with (first
              | (go_at_call 56; refine (l00Min _ _ _).mono ?_; rintro e w1 ⟨rfl, hw1⟩; rw [hw1, M0.out]; clear hw1)
              | (go_at_call 55; refine (l00Max _ _ _).mono ?_; rintro e w1 ⟨rfl, hw1⟩; rw [hw1, M1.out]; clear hw1))
            go_roundw
            case rel => exact ⟨2 + 1, by omega, by go_num, HB1.out.setCell (Nat.le_refl _) _, HS2.out⟩
            case measure => simp [intOf]
        · obtain rfl : m = 3 := by omega
          have HS2 := HS1.out
          rw [preE_next (by omega)] at HS2
          have HS3 := Lib.hid HS2
          clear HS2
          go_wp2
          go_roundw
          case rel => exact ⟨k + 1, by omega, by go_num, HB1.out, HS3.out⟩
          case measure => simp [intOf]; omega
    · obtain rfl : k = tl := by omega
      rw [HPE.out] at HS
      have hbz := hB.size
      clear kb0 HS0 HB0
      obtain ⟨V, hVe⟩ : ∃ V, V = wr := ⟨_, rfl⟩
      subst hVe
      have hT0 : OwnT V.heap.size (V.alloc (.cells #[] 38)) (.slice (some ⟨V.heap.size, 0, none⟩) 0 0) (rowsE L pl 0).length (rowsE L pl 0) :=
        ⟨[], World.ownsRow_lit (base := V.heap.size) (e := 38) (size := 1) V #[] 0 (Nat.le_refl _) (by decide) rfl, fun j hj => absurd hj (by simp [rowsE])⟩
      have HT0 := Lib.hid hT0
      have HBV : Hid (Below V.heap.size V (V.alloc (.cells #[] 38))) := Lib.hid ((Below.refl _ _).alloc (Nat.le_refl _) _)
      clear hT0 hB
      go_wp2
      clear kb1
      generalize (V.alloc (.cells #[] 38)) = V1 at *
      generalize (.slice (some ⟨V.heap.size, 0, none⟩) 0 0 : Value) = v0 at *
      go_loopw [10, 11] (fun v i w' => ∃ a : Nat, a ≤ pl ∧ i = .int .i64 a ∧ Aside (OwnT V.heap.size w' v (rowsE L pl a).length (rowsE L pl a) ∧ Below V.heap.size V w')) (fun _ i _ => pl - (intOf i).toNat)
      case atStart => exact ⟨0, Nat.zero_le _, rfl, HT0.out, HBV.out⟩
      case round =>
        obtain ⟨a, ha, hia, hA⟩ := hrel
        subst hia
        obtain ⟨hT, hBV⟩ := hA.out
        have HT1 := Lib.hid hT
        have HB1 := Lib.hid hBV
        clear hA hT hBV
        by_cases hla : a < pl
        · have hla' : (a : Int) < (pl : Int) := by omega
          go_wp2
          go_loopw [10, 12] (fun v i w' => ∃ y : Nat, a + 1 ≤ y ∧ y ≤ pl ∧ i = .int .i64 y ∧ Aside (OwnT V.heap.size w' v (rowsE L pl a ++ rowE L y a).length (rowsE L pl a ++ rowE L y a) ∧ Below V.heap.size V w')) (fun _ i _ => pl - (intOf i).toNat)
          case atStart => exact ⟨a + 1, Nat.le_refl _, hla, by go_num, by rw [rowE_start, List.append_nil]; exact HT1.out, HB1.out⟩
          case round =>
            obtain ⟨y, hy0, hy1, hiy, hA⟩ := hrel
            subst hiy
            obtain ⟨hT, hBV⟩ := hA.out
            have HT2 := Lib.hid hT
            have HB2 := Lib.hid hBV
            clear hA
            by_cases hly : y < pl
            · have hly' : (y : Int) < (pl : Int) := by omega
              obtain ⟨I, hI⟩ : ∃ I : Nat, I = a * pl + y := ⟨_, rfl⟩
              obtain ⟨P, hP⟩ : ∃ P : Nat, P = a * pl := ⟨_, rfl⟩
              have hlt2 := flat_lt hla hly
              rw [← HN.out] at hlt2
              have hPm : (a : Int) * (pl : Int) = (P : Int) := by rw [hP]; push_cast; rfl
              have hIm : (P : Int) + (y : Int) = (I : Int) := by rw [hI, hP]; push_cast; rfl
              have i0 : (0 : Int) ≤ (I : Int) := by omega
              have i1 : (I : Int) < (N : Int) := by rw [hI]; omega
              have hPb : P ≤ 4096 := by omega
              have cI : wr.cell? ⟨w.heap.size, I, none⟩ = some (.bool (decide (((a : Int), (y : Int)) ∈ L))) := by rw [hI]; exact (HS.out.below hBV).1 a y hla hly
              have hlen : (rowsE L pl a ++ rowE L y a).length ≤ 8192 := by
                rw [List.length_append]
                have e1 := rowsE_len L pl a
                have e2 := rowE_len L y a
                have e3 : a * pl ≤ 64 * 64 := Nat.mul_le_mul (by omega) v1
                omega
              have HI := Lib.hid hI
              clear hI hP hlt2 hT hBV
              cases hd : decide (((a : Int), (y : Int)) ∈ L)
              · rw [hd] at cI
                have HR := Lib.hid (rowE_no hd)
                clear hd
                go_wp2
                go_roundw
                case rel => exact ⟨y + 1, by omega, by omega, by go_num, by rw [HR.out]; exact HT2.out, HB2.out⟩
                case measure => simp [intOf]; omega
              · rw [hd] at cI
                have HR := Lib.hid (rowE_yes (show a < y by omega) hd)
                clear hd
                have hbz2 := HB2.out.size
                have hB1 : Below wr.heap.size wr ((wr.alloc (.cells #[.int .i64 (a : Int), .int .i64 (y : Int)] 2)).alloc (.cells #[.slice (some ⟨wr.heap.size, 0, none⟩) 2 2] 38)) := ((Below.refl _ _).alloc (Nat.le_refl _) _).alloc (by simp) _
                have hr1 : ((wr.alloc (.cells #[.int .i64 (a : Int), .int .i64 (y : Int)] 2)).alloc (.cells #[.slice (some ⟨wr.heap.size, 0, none⟩) 2 2] 38)).ownsRow V.heap.size 2 1 (.slice (some ⟨wr.heap.size, 0, none⟩) 2 2) 2 (ints [(a : Int), (y : Int)]) :=
                  (World.ownsRow_lit (base := V.heap.size) (e := 2) (size := 1) wr #[.int .i64 (a : Int), .int .i64 (y : Int)] 2 hbz2 (by decide) rfl).alloc _
                have hrw := World.ownsRow_lit (base := V.heap.size) (e := 38) (size := 1) (wr.alloc (.cells #[.int .i64 (a : Int), .int .i64 (y : Int)] 2)) #[.slice (some ⟨wr.heap.size, 0, none⟩) 2 2] 1 (by simp; omega) (by decide) rfl
                have e0 := hrw.cellAt 0 (by decide)
                simp only [World.size_alloc, List.getElem?_cons_zero] at e0
                have E0 := Lib.hid e0
                obtain ⟨rows, hrow, hrows⟩ := (HT2.out.up hB1).congr (us := (rowsE L pl a ++ rowE L y a) ++ [[(a : Int), (y : Int)]]) (fun j hj => getD_app hj)
                have HROW := Lib.hid hrow
                have HROWS := Lib.hid hrows
                have HR1 := Lib.hid hr1
                have HB3 := Lib.hid (HB2.out.trans (hB1.mono hbz2))
                clear hB1 hr1 hrw e0 hrow hrows
                go_wp2_with (at_builtin; go_loud (refine wpList_append_own _ rfl _ _ 23 rfl V.heap.size 38 j0 (.slice none 0 0) 1 24 Try.underlying23 hj hq0 hq1 hq2 rfl (by decide) _ _ _ rfl HROW.out ⟨wr.heap.size + 1, 0, none⟩ 1 1 [.slice (some ⟨wr.heap.size, 0, none⟩) 2 2] rfl rfl ?c1 ?c2 ?c3 ?c4 ?c5 ?_))
                case c1 =>
                  intro j u hj
                  match j, hj with
                  | 0, hj => simp at hj; subst hj; first | (simp [Addr.add]; done) | exact E0.out
                  | j + 1, hj => simp at hj
                case c2 => first | (intro u hu; simp at hu; subst hu; rfl) | exact rfl
                case c3 => unfold maxLen; omega
                case c4 => omega
                case c5 => simp; omega
                · intro v' w1 hown' hgrow hnil
                  have HT3 : Hid (OwnT V.heap.size w1 v' (rowsE L pl a ++ rowE L (y + 1) a).length (rowsE L pl a ++ rowE L (y + 1) a)) := Lib.hid (by
                    rw [HR.out, ← List.append_assoc, List.length_append, List.length_singleton]
                    exact OwnT.snoc HROW.out HROWS.out (by rw [getD_end]; exact HR1.out) hgrow (by rw [List.length_append]; exact hown'))
                  have HB4 := Lib.hid (HB3.out.grown hgrow HB3.out.size (fun k hk => (HROW.out.lt k hk).1))
                  clear hown' hgrow hnil HROW HROWS HR1
                  go_wp2
                  go_roundw
                  case rel => exact ⟨y + 1, by omega, by omega, by go_num, HT3.out, HB4.out⟩
                  case measure => simp [intOf]; omega
            · obtain rfl : y = pl := by omega
              clear hT hBV
              go_wp2
              go_roundw
              case rel => exact ⟨a + 1, by omega, by go_num, by rw [rowsE_next]; exact HT2.out, HB2.out⟩
              case measure => simp [intOf]; omega
        · obtain rfl : a = pl := by omega
          go_wp2
          go_ret
          exact ⟨⟨_, rfl, HT1.out.low hbz⟩, HB.out.trans (HB1.out.mono hbz)⟩
end Go.Proofs.Ytockhhfehjoldaa


/-
Whether a triangle goes from a place to another: what the model returns. Conditions: it has three places.
-/
namespace Go.Proofs.Ytockhhfehjoldaa
open Go Fk Go.RowKit
set_option linter.unusedVariables false
set_option maxRecDepth 16000

set_option maxHeartbeats 4000000 in
theorem l02Goes (r : Option Addr) (q : Nat) (t : List Int) (a b : Int) (w : World) (h : IsIs w r 3 q t) :
    Calls Try.prog 98 #[.slice r 3 q, .int .i64 a, .int .i64 b] w fun e w' => e = .returned (.bool (goesB t a b)) ∧ w' = w := by
  obtain ⟨br, o, rfl, hz⟩ := h.some (by decide)
  have z0 := hz 0 (by decide)
  have z1 := hz 1 (by decide)
  have z2 := hz 2 (by decide)
  rw [Nat.add_zero] at z0
  unfold goesB
  clear hz h
  generalize t.getD 0 0 = x at *
  generalize t.getD 1 0 = y at *
  generalize t.getD 2 0 = z at *
  by_cases h0a : x = a
  · by_cases h0b : y = b
    · go_enter Try.func98, Try.ntmps98
      go_wp2
      try (go_ret; exact ⟨ret_bool (by first | (simp [h0a, h0b]; done) | (simp_all; done)), rfl⟩)
    · by_cases h1a : y = a
      · by_cases h1b : z = b
        · go_enter Try.func98, Try.ntmps98
          go_wp2
          try (go_ret; exact ⟨ret_bool (by first | (simp [h0b, h1a, h1b]; done) | (simp_all; done)), rfl⟩)
        · by_cases h2a : z = a
          · by_cases h2b : x = b
            · go_enter Try.func98, Try.ntmps98
              go_wp2
              try (go_ret; exact ⟨ret_bool (by first | (simp [h0b, h1b, h2a, h2b]; done) | (simp_all; done)), rfl⟩)
            · go_enter Try.func98, Try.ntmps98
              go_wp2
              try (go_ret; exact ⟨ret_bool (by first | (simp [h0b, h1b, h2b]; done) | (simp_all; done)), rfl⟩)
          · go_enter Try.func98, Try.ntmps98
            go_wp2
            try (go_ret; exact ⟨ret_bool (by first | (simp [h0b, h1b, h2a]; done) | (simp_all; done)), rfl⟩)
      · by_cases h2a : z = a
        · by_cases h2b : x = b
          · go_enter Try.func98, Try.ntmps98
            go_wp2
            try (go_ret; exact ⟨ret_bool (by first | (simp [h0b, h1a, h2a, h2b]; done) | (simp_all; done)), rfl⟩)
          · go_enter Try.func98, Try.ntmps98
            go_wp2
            try (go_ret; exact ⟨ret_bool (by first | (simp [h0b, h1a, h2b]; done) | (simp_all; done)), rfl⟩)
        · go_enter Try.func98, Try.ntmps98
          go_wp2
          try (go_ret; exact ⟨ret_bool (by first | (simp [h0b, h1a, h2a]; done) | (simp_all; done)), rfl⟩)
  · by_cases h1a : y = a
    · by_cases h1b : z = b
      · go_enter Try.func98, Try.ntmps98
        go_wp2
        try (go_ret; exact ⟨ret_bool (by first | (simp [h0a, h1a, h1b]; done) | (simp_all; done)), rfl⟩)
      · by_cases h2a : z = a
        · by_cases h2b : x = b
          · go_enter Try.func98, Try.ntmps98
            go_wp2
            try (go_ret; exact ⟨ret_bool (by first | (simp [h0a, h1b, h2a, h2b]; done) | (simp_all; done)), rfl⟩)
          · go_enter Try.func98, Try.ntmps98
            go_wp2
            try (go_ret; exact ⟨ret_bool (by first | (simp [h0a, h1b, h2b]; done) | (simp_all; done)), rfl⟩)
        · go_enter Try.func98, Try.ntmps98
          go_wp2
          try (go_ret; exact ⟨ret_bool (by first | (simp [h0a, h1b, h2a]; done) | (simp_all; done)), rfl⟩)
    · by_cases h2a : z = a
      · by_cases h2b : x = b
        · go_enter Try.func98, Try.ntmps98
          go_wp2
          try (go_ret; exact ⟨ret_bool (by first | (simp [h0a, h1a, h2a, h2b]; done) | (simp_all; done)), rfl⟩)
        · go_enter Try.func98, Try.ntmps98
          go_wp2
          try (go_ret; exact ⟨ret_bool (by first | (simp [h0a, h1a, h2b]; done) | (simp_all; done)), rfl⟩)
      · go_enter Try.func98, Try.ntmps98
        go_wp2
        try (go_ret; exact ⟨ret_bool (by first | (simp [h0a, h1a, h2a]; done) | (simp_all; done)), rfl⟩)
end Go.Proofs.Ytockhhfehjoldaa


/-
Whether a mesh is a sheet: what the model returns. Conditions: the mesh is valid and lies in memory.
-/
namespace Go.Proofs.Ytockhhfehjoldaa
open Go Fk Go.RowKit
set_option linter.unusedVariables false
set_option maxRecDepth 16000

theorem atL_in {ts : List (List Int)} {p q : Int} {k : Nat} : ∀ z ∈ atL ts p q k, ∃ i : Nat, z = (i : Int) ∧ i < k := fun z hz => by
  rw [atL_filter] at hz
  obtain ⟨i, hi, rfl⟩ := List.mem_map.1 hz
  exact ⟨i, rfl, List.mem_range.1 (List.mem_filter.1 hi).1⟩
theorem edge_row {n : Nat} {ts : List (List Int)} {m : Nat} (hm : m < (edgesT n ts).length) : ∃ a b : Nat, a < n ∧ b < n ∧ a < b ∧ ((a : Int), (b : Int)) ∈ keysE ts ∧ (edgesT n ts).getD m [] = [(a : Int), (b : Int)] := by
  have h : (edgesT n ts).getD m [] ∈ edgesT n ts := by
    rw [List.getD, List.getElem?_eq_getElem hm]
    exact List.getElem_mem _
  obtain ⟨a, b, ha, hb, hab, hk, e⟩ := mem_rowsE.1 h
  exact ⟨a, b, ha, hb, hab, hk, e⟩
theorem edge_wf {n : Nat} {ts : List (List Int)} (hn : n ≤ 64) : ∀ j, j < (edgesT n ts).length → ∀ z ∈ (edgesT n ts).getD j [], (Lit.int .i64 z).wf = true := fun j hj z hz => by
  obtain ⟨a, b, ha, hb, _, _, e⟩ := edge_row hj
  rw [e] at hz
  simp only [List.mem_cons, List.not_mem_nil, or_false] at hz
  rcases hz with rfl | rfl <;> exact WalkArith.wf_i64 (by omega)
theorem edges_len {n : Nat} {ts : List (List Int)} (hn : n ≤ 64) : (edgesT n ts).length ≤ 4096 := by
  have := rowsE_len (keysE ts) n n
  have h2 : n * n ≤ 64 * 64 := Nat.mul_le_mul hn hn
  unfold edgesT
  omega
theorem sheetB_no {n : Nat} {ts : List (List Int)} {m : Nat} (hm : m < (edgesT n ts).length) (h : okE ts (((edgesT n ts).getD m []).getD 0 0) (((edgesT n ts).getD m []).getD 1 0) = false) : sheetB n ts = false := by
  unfold sheetB
  rw [← Bool.not_eq_true, List.all_eq_true]
  intro hh
  have := hh ((edgesT n ts).getD m []) (by rw [List.getD, List.getElem?_eq_getElem hm]; exact List.getElem_mem _)
  rw [h] at this
  cases this
theorem sheetB_yes {n : Nat} {ts : List (List Int)} (h : ∀ m, m < (edgesT n ts).length → okE ts (((edgesT n ts).getD m []).getD 0 0) (((edgesT n ts).getD m []).getD 1 0) = true) : sheetB n ts = true := by
  unfold sheetB
  rw [List.all_eq_true]
  intro r hr
  obtain ⟨i, hi, rfl⟩ := List.mem_iff_getElem.1 hr
  have := h i hi
  have e : (edgesT n ts).getD i [] = (edgesT n ts)[i] := by rw [List.getD, List.getElem?_eq_getElem hi]; rfl
  rwa [e] at this
set_option maxHeartbeats 4000000 in
theorem l02Sheet (pb : Nat) (pa ta : Option Addr) (pl pc tl tc : Nat) (cs : List C3) (ts : List (List Int)) (w : World) (c0' : w.cell? ⟨pb, 0, none⟩ = some (.slice pa pl pc)) (c1' : w.cell? ⟨pb, 1, none⟩ = some (.slice ta tl tc)) (hp : IsVs w pa pl pc cs) (ht : IsTs w ta tl tc ts) (hv : validB cs ts = true) :
    Calls Try.prog 84 #[.pointer (some ⟨pb, 0, none⟩)] w fun e w' => e = .returned (.bool (sheetB pl ts)) ∧ Below w.heap.size w w' := by
  have hpl := hp.1
  have htl := ht.1
  obtain ⟨v1, v2⟩ := valid_pl hv
  rw [hpl] at v1
  rw [htl] at v2
  have H3 := Lib.hid (fun k (hk : k < tl) => rows3h hv k (by rw [htl]; exact hk))
  have JE := Lib.hid (l02Edges pb pa ta pl pc tl tc cs ts w c0' c1' hp ht hv)
  have HT := Lib.hid ht
  have C0 := Lib.hid c0'
  have C1 := Lib.hid c1'
  have lpb := World.block_lt_of_cell? _ _ c0'
  have HLe := Lib.hid (edges_len (ts := ts) v1)
  have HRow := Lib.hid (fun m => @edge_row pl ts m)
  have HWf := Lib.hid (edge_wf (ts := ts) v1)
  have HNo := Lib.hid (fun m => @sheetB_no pl ts m)
  have HYes := Lib.hid (@sheetB_yes pl ts)
  have ok_eq : ∀ a b : Int, okE ts a b = !(decide (2 < (atL ts a b tl).length) || (decide ((atL ts a b tl).length = 2) && (goesB (ts.getD ((atL ts a b tl).getD 0 0).toNat []) a b == goesB (ts.getD ((atL ts a b tl).getD 1 0).toNat []) a b))) := fun a b => by
    unfold okE; rw [htl]
  have HOk := Lib.hid ok_eq
  clear ok_eq
  generalize hbb : sheetB pl ts = bb at *
  clear hbb
  generalize edgesT pl ts = L at *
  clear c0' c1' hp ht hv
  go_enter Try.func84, Try.ntmps84
  go_wp2_with fail
  refine JE.out.mono ?_
  rintro e W ⟨⟨v, rfl, hT⟩, hBW⟩
  obtain ⟨ra, cap, rfl, hI⟩ := hT.is rfl HWf.out
  have HBW := Lib.hid hBW
  have HL := Lib.hid hI
  have HLn := HLe.out
  clear hT hBW hI
  go_wp2
  generalize hn : L.length = n at *
  go_loopw [4] (fun i w' => ∃ m : Nat, m ≤ n ∧ i = .int .i64 m ∧ Aside ((∀ j, j < m → okE ts ((L.getD j []).getD 0 0) ((L.getD j []).getD 1 0) = true) ∧ Below W.heap.size W w')) (fun i _ => n - (intOf i).toNat)
  case atStart => exact ⟨0, Nat.zero_le _, rfl, (fun j hj => absurd hj (by omega)), Below.refl _ _⟩
  case round =>
    obtain ⟨m, hm, rfl, hA⟩ := hrel
    obtain ⟨hok, hB⟩ := hA.out
    have HOK := Lib.hid hok
    have HB := Lib.hid hB
    by_cases hlt : m < n
    · obtain ⟨a, b, ha, hb, hab, _, hrow⟩ := HRow.out m hlt
      obtain ⟨bt, ot, rfl, hrows⟩ := (HL.out.below hB).some (by omega)
      obtain ⟨r1, n1, q1, cr, ir⟩ := hrows m hlt
      have hn1 : n1 = 2 := by rw [← ir.1, hrow]; rfl
      subst hn1
      obtain ⟨br, or, rfl, hz⟩ := ir.some (by decide)
      have z0 := hz 0 (by decide)
      have z1 := hz 1 (by decide)
      rw [hrow] at z0 z1
      rw [Nat.add_zero] at z0
      simp only [List.getD_cons_zero, List.getD_cons_succ] at z0 z1
      have hk0 : (0 : Int) ≤ (m : Int) := by omega
      have hk1 : (m : Int) < (n : Int) := by omega
      have HR := Lib.hid hrow
      have hBw := HBW.out.trans (hB.mono HBW.out.size)
      have JA := Lib.hid (l02At pb pl pc tl tc pa ta ts (a : Int) (b : Int) wr (cell_below hBw C0.out) (cell_below hBw C1.out) (HT.out.below hBw) H3.out v2)
      have HBw := Lib.hid hBw
      clear hA hok hB hrows ir hz hrow hBw
      go_wp2_with fail
      refine JA.out.mono ?_
      rintro e w3 ⟨v3, rfl, hown, hB3⟩
      obtain ⟨rz, cz, rfl, hz, _⟩ := is_of_owns hown rfl (fun z hz => by obtain ⟨i, rfl, hi⟩ := atL_in z hz; exact WalkArith.wf_i64 (by omega))
      have hBw3 := HBw.out.trans (hB3.mono HBw.out.size)
      have y1 := cell_below hBw3 C1.out
      have HBw3 := Lib.hid hBw3
      have HB3 := Lib.hid (HB.out.trans (hB3.mono HB.out.size))
      have HIn := Lib.hid (@atL_in ts (a : Int) (b : Int) tl)
      have hOkE := HOk.out (a : Int) (b : Int)
      have HZ := Lib.hid hz
      clear hown hB3 z0 z1 cr JA
      have hzl := hz.1
      generalize atL ts (a : Int) (b : Int) tl = zs at *
      clear hz hBw3
      by_cases hl2 : 2 < zs.length
      · have hl2' : (2 : Int) < (zs.length : Int) := by omega
        have hf : okE ts (a : Int) (b : Int) = false := by rw [hOkE, decide_eq_true hl2]; rfl
        have HF : Hid (bb = false) := Lib.hid (HNo.out m hlt (by rw [HR.out]; exact hf))
        clear hf hOkE
        generalize zs.length = zn at *
        go_wp2_with fail
        go_quiet (fail)
        go_wp2
        go_ret
        exact ⟨ret_bool HF.out.symm, below_drewN (HBw3.out) _⟩
      · have hl2' : ¬ (2 : Int) < (zs.length : Int) := by omega
        by_cases hl3 : zs.length = 2
        · obtain ⟨bz, oz, rfl, hc⟩ := HZ.out.some (by omega)
          have e0 := hc 0 (by omega)
          have e1 := hc 1 (by omega)
          rw [Nat.add_zero] at e0
          obtain ⟨i, hi0, hi⟩ := HIn.out (zs.getD 0 0) (by rw [List.getD, List.getElem?_eq_getElem (show 0 < zs.length by omega)]; exact List.getElem_mem _)
          obtain ⟨j, hj0, hj⟩ := HIn.out (zs.getD 1 0) (by rw [List.getD, List.getElem?_eq_getElem (show 1 < zs.length by omega)]; exact List.getElem_mem _)
          rw [hi0] at e0
          rw [hj0] at e1
          have hkf : okE ts (a : Int) (b : Int) = !(goesB (ts.getD i []) (a : Int) (b : Int) == goesB (ts.getD j []) (a : Int) (b : Int)) := by
            rw [hOkE, decide_eq_false hl2, decide_eq_true hl3, hi0, hj0, Int.toNat_natCast, Int.toNat_natCast]; rfl
          have HK := Lib.hid hkf
          have hzz : (zs.length : Int) = 2 := by omega
          obtain ⟨bx, ox, rfl, hrowx⟩ := (HT.out.below HBw3.out).some (by omega)
          obtain ⟨s1, k1, u1, f1, g1⟩ := hrowx i hi
          obtain ⟨s2, k2, u2, f2, g2⟩ := hrowx j hj
          have hk1' : k1 = 3 := g1.1.symm.trans (H3.out i hi)
          have hk2' : k2 = 3 := g2.1.symm.trans (H3.out j hj)
          subst hk1' hk2'
          have i0 : (0 : Int) ≤ (i : Int) := by omega
          have i1 : (i : Int) < (tl : Int) := by omega
          have j0 : (0 : Int) ≤ (j : Int) := by omega
          have j1 : (j : Int) < (tl : Int) := by omega
          have hq1 : ∀ n, Calls Try.prog 98 #[.slice s1 3 u1, .int .i64 (a : Int), .int .i64 (b : Int)] (w3.drewN n) fun e w' => e = .returned (.bool (goesB (ts.getD i []) (a : Int) (b : Int))) ∧ ∃ m, w' = (w3.drewN n).drewN m := fun n => (l02Goes s1 u1 (ts.getD i []) (a : Int) (b : Int) (w3.drewN n) g1.drew).mono fun e w' ⟨h1, h2⟩ => ⟨h1, 0, by rw [h2]; rfl⟩
          have hq2 : ∀ n, Calls Try.prog 98 #[.slice s2 3 u2, .int .i64 (a : Int), .int .i64 (b : Int)] (w3.drewN n) fun e w' => e = .returned (.bool (goesB (ts.getD j []) (a : Int) (b : Int))) ∧ ∃ m, w' = (w3.drewN n).drewN m := fun n => (l02Goes s2 u2 (ts.getD j []) (a : Int) (b : Int) (w3.drewN n) g2.drew).mono fun e w' ⟨h1, h2⟩ => ⟨h1, 0, by rw [h2]; rfl⟩
          have HQ1 := Lib.hid hq1
          have HQ2 := Lib.hid hq2
          clear hOkE hkf hc hi0 hj0 hrowx g1 g2 hl2 hl2' hzz hq1 hq2
          generalize goesB (ts.getD i []) (a : Int) (b : Int) = x1 at *
          generalize goesB (ts.getD j []) (a : Int) (b : Int) = x2 at *
          generalize zs.length = zn at *
          subst hl3
          rcases x1 <;> rcases x2
          · have HF : Hid (bb = false) := Lib.hid (HNo.out m hlt (by rw [HR.out]; exact HK.out))
            go_wp2_with fail
            go_quiet ((first | (go_at_call 98; with_reducible exact Calls.quiet_of (HQ1.out _)) | (go_at_call 98; with_reducible exact Calls.quiet_of (HQ2.out _))))
            go_wp2
            go_ret
            exact ⟨ret_bool HF.out.symm, below_drewN (HBw3.out) _⟩
          · have HF : Aside (∀ j, j < m + 1 → okE ts ((L.getD j []).getD 0 0) ((L.getD j []).getD 1 0) = true) := by
              intro j hj
              by_cases hjm : j = m
              · subst hjm; rw [HR.out]; exact HK.out
              · exact HOK.out j (by omega)
            go_wp2_with fail
            go_quiet ((first | (go_at_call 98; with_reducible exact Calls.quiet_of (HQ1.out _)) | (go_at_call 98; with_reducible exact Calls.quiet_of (HQ2.out _))))
            go_wp2
            go_roundw
            case rel => exact ⟨m + 1, by omega, by go_num, HF, below_drewN HB3.out _⟩
            case measure => simp [intOf]; omega
          · have HF : Aside (∀ j, j < m + 1 → okE ts ((L.getD j []).getD 0 0) ((L.getD j []).getD 1 0) = true) := by
              intro j hj
              by_cases hjm : j = m
              · subst hjm; rw [HR.out]; exact HK.out
              · exact HOK.out j (by omega)
            go_wp2_with fail
            go_quiet ((first | (go_at_call 98; with_reducible exact Calls.quiet_of (HQ1.out _)) | (go_at_call 98; with_reducible exact Calls.quiet_of (HQ2.out _))))
            go_wp2
            go_roundw
            case rel => exact ⟨m + 1, by omega, by go_num, HF, below_drewN HB3.out _⟩
            case measure => simp [intOf]; omega
          · have HF : Hid (bb = false) := Lib.hid (HNo.out m hlt (by rw [HR.out]; exact HK.out))
            go_wp2_with fail
            go_quiet ((first | (go_at_call 98; with_reducible exact Calls.quiet_of (HQ1.out _)) | (go_at_call 98; with_reducible exact Calls.quiet_of (HQ2.out _))))
            go_wp2
            go_ret
            exact ⟨ret_bool HF.out.symm, below_drewN (HBw3.out) _⟩
        · have hl3' : ¬ (zs.length : Int) = 2 := by omega
          have hf : okE ts (a : Int) (b : Int) = true := by rw [hOkE, decide_eq_false hl2, decide_eq_false hl3]; rfl
          have HF : Aside (∀ j, j < m + 1 → okE ts ((L.getD j []).getD 0 0) ((L.getD j []).getD 1 0) = true) := by
            intro j hj
            by_cases hjm : j = m
            · subst hjm; rw [HR.out]; exact hf
            · exact HOK.out j (by omega)
          clear hf hOkE hl2 hl3
          rw [hzl] at hl3' hl2'
          generalize zs.length = zn at *
          go_wp2_with fail
          go_quiet (fail)
          go_wp2
          go_roundw
          case rel => exact ⟨m + 1, by omega, by go_num, HF, below_drewN HB3.out _⟩
          case measure => simp [intOf]; omega
    · obtain rfl : m = n := by omega
      have HY := Lib.hid (HYes.out (fun j hj => hok j (by omega)))
      have HBe := Lib.hid (HBW.out.trans (hB.mono HBW.out.size))
      clear hA hok hB
      go_wp2
      go_ret
      exact ⟨ret_bool HY.out.symm, HBe.out⟩
end Go.Proofs.Ytockhhfehjoldaa


/-
The edges of a mesh: the program and the model. Conditions: none beyond that the mesh lies in memory.
-/
namespace Go.Proofs.Ytockhhfehjoldaa
open Go Fk Go.RowKit Go.Maps
set_option linter.unusedVariables false
set_option maxRecDepth 16000

/-- What is answered: the edges in ascending order, if the mesh is valid. -/
def edT (cs : List C3) (ts : List (List Int)) : List (List Int) := bif validB cs ts then edgesT cs.length ts else []
theorem edT_wf (cs : List C3) (ts : List (List Int)) : ∀ j, j < (edT cs ts).length → ∀ z ∈ (edT cs ts).getD j [], (Lit.int .i64 z).wf = true := by
  unfold edT
  cases hv : validB cs ts
  · intro j hj
    simp at hj
  · exact edge_wf (valid_pl hv).1
theorem edT_len (cs : List C3) (ts : List (List Int)) : (edT cs ts).length ≤ 4096 := by
  unfold edT
  cases hv : validB cs ts
  · simp
  · exact edges_len (valid_pl hv).1
set_option maxHeartbeats 2000000 in
theorem impl_EdgesOf (pa ta : Option Addr) (pl pc tl tc : Nat) (cs : List C3) (ts : List (List Int)) (w : World) (hp : IsVs w pa pl pc cs) (ht : IsTs w ta tl tc ts) :
    Calls Try.prog 34 #[.agg #[.slice pa pl pc, .slice ta tl tc]] w fun e w' => (∃ a c F, e = .returned (.tuple #[.slice a (edT cs ts).length c, .bool (validB cs ts)]) ∧ IsTs w' a (edT cs ts).length c (edT cs ts) ∧ Flat2 w.heap.size w'.heap.size w' a (edT cs ts).length F) ∧ Below w.heap.size w w' := by
  have ui := Try.underlying31
  have hpl := hp.1
  have htl := ht.1
  have hB0 : Below w.heap.size w (w.alloc (.cells #[.slice pa pl pc, .slice ta tl tc] 31)) := (Below.refl _ _).alloc (Nat.le_refl _) _
  have a0 : (w.alloc (.cells #[.slice pa pl pc, .slice ta tl tc] 31)).cell? ⟨w.heap.size, 0, none⟩ = some (.slice pa pl pc) := by go_simp
  have a1 : (w.alloc (.cells #[.slice pa pl pc, .slice ta tl tc] 31)).cell? ⟨w.heap.size, 1, none⟩ = some (.slice ta tl tc) := by go_simp
  have J := Lib.hid (impl_ValidMesh _ _ _ _ _ _ cs ts _ (hp.below hB0) (ht.below hB0))
  have hwf := edT_wf cs ts
  cases hv : validB cs ts
  · rw [hv] at J
    have he : edT cs ts = [] := by unfold edT; rw [hv]; rfl
    rw [he]
    have HB0 := Lib.hid hB0
    clear hv hp ht hB0 hwf he
    go_enter Try.func34, Try.ntmps34
    go_wp2_with fail
    generalize (w.alloc (.cells #[.slice pa pl pc, .slice ta tl tc] 31)) = W at *
    refine J.out.mono ?_
    rintro e w1 ⟨rfl, hB1⟩
    have HB1 := Lib.hid (HB0.out.trans (hB1.mono HB0.out.size))
    clear hB1
    go_wp2
    go_ret2
    exact ⟨⟨none, 0, 0, rfl, ⟨rfl, Nat.le_refl _, by unfold maxLen; omega, fun _ => ⟨rfl, rfl⟩, fun x hx => (by cases hx)⟩, .inl ⟨rfl, rfl⟩⟩, HB1.out⟩
  · rw [hv] at J
    obtain ⟨v1, v2⟩ := valid_pl hv
    have he : edT cs ts = (pairsL (keysE ts) cs.length).map rowP := by unfold edT; rw [hv]; exact edgesT_pairs _ _
    have HV := fun k (hk : k < tl) => tri_partsh (valid_rowh hv (show k < ts.length by omega))
    have HT3 := Lib.hid (fun i (hi : i < ts.length) => tri3_of (valid_rowh hv hi))
    have h3 : ∀ k, k < tl → (ts.getD k []).length = 3 := fun k hk => (HV k hk).1
    have hin : ∀ k, k < tl → ∀ i, i < 3 → 0 ≤ (ts.getD k []).getD i 0 ∧ ((ts.getD k []).getD i 0).toNat < 64 := fun k hk i hi => by
      have := (HV k hk).2 i hi
      omega
    have HLEN : Hid ((pairsL (keysE ts) cs.length).length ≤ 4096) := by
      have := edT_len cs ts
      rw [he, List.length_map] at this
      exact Lib.hid this
    have HN := Lib.hid v1
    have H3 := Lib.hid h3
    have HIN := Lib.hid hin
    have HT := Lib.hid ht
    have HTL := Lib.hid htl
    have HWF := Lib.hid hwf
    have HB0 := Lib.hid hB0
    have ht128 : tl ≤ 128 := by omega
    have HL := Lib.hid ht128
    rw [he] at HWF ⊢
    clear hv hp ht hB0 hwf he v1 v2 h3 hin HV ht128 htl hpl
    generalize hps : pairsL (keysE ts) cs.length = ps at *
    have HPS := Lib.hid hps
    clear hps
    go_enter Try.func34, Try.ntmps34
    go_wp2_with fail
    generalize (w.alloc (.cells #[.slice pa pl pc, .slice ta tl tc] 31)) = W at *
    refine J.out.mono ?_
    rintro e w1 ⟨rfl, hB1⟩
    replace a0 := cell_below hB1 a0
    replace a1 := cell_below hB1 a1
    have HB1 := Lib.hid (HB0.out.trans (hB1.mono HB0.out.size))
    clear hB1
    go_wp2_with fail
    refine (impl_edges pa ta pl pc tl tc ts w1 (HT.out.below HB1.out) H3.out HIN.out HL.out).mono ?_
    rintro e w2 ⟨B, D, rfl, hlo, hO, hG, hB2⟩
    have hm := map_of_groups hO
    have hsz := hm.size_le
    have HO := Lib.hid hm
    have HS := Lib.hid hsz
    have HG := Lib.hid hG
    have HB2 := Lib.hid (HB1.out.trans (hB2.mono HB1.out.size))
    clear hO hm hsz hG hB2 hlo
    go_wp2_with fail
    refine (impl_sortedEdges B _ D _ w2 HO.out (by have := HS.out; have := HL.out; unfold maxLen; omega) (by have := HS.out; have := HL.out; omega)).mono ?_
    rintro e w3 ⟨v, ss, rfl, hK, hrow, hnil, hB3⟩
    have hse : sortE ss = ps := by
      rw [← HPS.out]
      refine sorted_edges ?_ hK HT3.out HN.out
      rw [HTL.out]
      exact HG.out
    have hln : ss.length = ps.length := by rw [← hse]; unfold sortE; simp
    rw [hse, hln] at hrow
    obtain ⟨a, c, rfl, hat⟩ := edges_at hrow rfl
    have HA := Lib.hid hat
    have HB3 := Lib.hid (HB2.out.trans (hB3.mono HB2.out.size))
    clear hK hrow hse hln hat hB3 hnil
    go_wp2_with fail
    refine (edge_lists a ps.length c ps w3 HA.out (by have := HLEN.out; omega)).mono ?_
    rintro e w4 ⟨v, fb, fc, rfl, hfb, hr, hf, hB4⟩
    obtain ⟨a', c', rfl, hI, hF⟩ := rows_edges hr hf rfl (fun j hj => HWF.out j (by simpa using hj))
    have HI := Lib.hid hI
    have HF := Lib.hid hF
    have HB4 := Lib.hid (HB3.out.trans (hB4.mono HB3.out.size))
    have HZ := Lib.hid HB3.out.size
    clear hfb hr hf hI hF hB4
    go_wp2
    go_ret2
    refine ⟨⟨a', c', fb, by simp, by simpa using HI.out, ?_⟩, HB4.out⟩
    rw [List.length_map]
    exact HF.out.imp id fun ⟨R, e, h1, h2, h3, h4, h5, h6⟩ => ⟨R, e, by have := HZ.out; omega, h2, h3, h4, h5, by have := h6.1; have := HZ.out; omega, h6.2⟩
set_option maxHeartbeats 2000000 in
theorem spec_EdgesOf (pa ta : Option Addr) (pl pc tl tc : Nat) (cs : List C3) (ts : List (List Int)) (w : World) (hp : IsVs w pa pl pc cs) (ht : IsTs w ta tl tc ts) :
    Calls Try.prog 33 #[.agg #[.slice pa pl pc, .slice ta tl tc]] w fun e w' => (∃ a c, e = .returned (.tuple #[.slice a (edT cs ts).length c, .bool (validB cs ts)]) ∧ IsTs w' a (edT cs ts).length c (edT cs ts)) ∧ Below w.heap.size w w' := by
  have ui := Try.underlying31
  have hpl := hp.1
  have hB0 : Below w.heap.size w (w.alloc (.cells #[.slice pa pl pc, .slice ta tl tc] 31)) := (Below.refl _ _).alloc (Nat.le_refl _) _
  have a0 : (w.alloc (.cells #[.slice pa pl pc, .slice ta tl tc] 31)).cell? ⟨w.heap.size, 0, none⟩ = some (.slice pa pl pc) := by go_simp
  have a1 : (w.alloc (.cells #[.slice pa pl pc, .slice ta tl tc] 31)).cell? ⟨w.heap.size, 1, none⟩ = some (.slice ta tl tc) := by go_simp
  have J := Lib.hid (l02Is w.heap.size pa ta pl pc tl tc cs ts _ a0 a1 (hp.below hB0) (ht.below hB0))
  have hwf := edT_wf cs ts
  cases hv : validB cs ts
  · rw [hv] at J
    have he : edT cs ts = [] := by unfold edT; rw [hv]; rfl
    rw [he]
    have HB0 := Lib.hid hB0
    clear hv hB0 a0 a1 hp ht hwf he
    go_enter Try.func33, Try.ntmps33
    go_wp2_with fail
    generalize (w.alloc (.cells #[.slice pa pl pc, .slice ta tl tc] 31)) = W at *
    refine J.out.mono ?_
    rintro e w1 ⟨rfl, n, hw⟩
    have HB := Lib.hid (below_drewN HB0.out n)
    rw [hw]
    clear hw
    go_wp2
    go_ret2
    exact ⟨⟨none, 0, rfl, rfl, Nat.le_refl _, by unfold maxLen; omega, fun _ => ⟨rfl, rfl⟩, fun x hx => (by cases hx)⟩, HB.out⟩
  · rw [hv] at J
    have he : edT cs ts = edgesT pl ts := by unfold edT; rw [hv, hpl]; rfl
    have J2 := Lib.hid (fun n => l02Edges w.heap.size pa ta pl pc tl tc cs ts (World.drewN (w.alloc (.cells #[.slice pa pl pc, .slice ta tl tc] 31)) n) a0 a1 ((hp.below hB0).below (below_drewN (Below.refl _ _) n)) ((ht.below hB0).below (below_drewN (Below.refl _ _) n)) hv)
    rw [he] at hwf ⊢
    generalize edgesT pl ts = T at *
    have HWF := Lib.hid hwf
    have HB0 := Lib.hid hB0
    clear hv hB0 a0 a1 hp ht he hwf
    go_enter Try.func33, Try.ntmps33
    go_wp2_with fail
    generalize (w.alloc (.cells #[.slice pa pl pc, .slice ta tl tc] 31)) = W at *
    refine J.out.mono ?_
    rintro e w1 ⟨rfl, n, hw⟩
    rw [hw]
    clear hw
    go_wp2_with fail
    refine (J2.out n).mono ?_
    rintro e w2 ⟨⟨v, rfl, hv⟩, hB2⟩
    obtain ⟨a, c, rfl, hI⟩ := hv.is rfl HWF.out
    have HI := Lib.hid hI
    have HB := Lib.hid ((below_drewN HB0.out n).trans (hB2.mono (below_drewN HB0.out n).size))
    clear hB2 hv hI
    go_wp2
    go_ret2
    exact ⟨⟨a, c, rfl, HI.out⟩, HB.out⟩
end Go.Proofs.Ytockhhfehjoldaa

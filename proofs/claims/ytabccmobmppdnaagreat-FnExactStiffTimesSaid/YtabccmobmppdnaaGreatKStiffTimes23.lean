/-
Texts in one: what StiffTimes stands on, part 23. Conditions: those of each.
-/
import Derived.Test.YtabccmobmppdnaaGreatKStiffTimes22
import Derived.WalkKit
import Derived.BigQuiet
import Derived.Maps.OwnSet
-- halved
namespace Go.Proofs.YtabccmobmppdnaaGreat
open Go Fk Go.RowKit Go.Maps Go.Sort
set_option linter.unusedVariables false
set_option maxRecDepth 8000
def pairsL (L : List (Int × Int)) (n : Nat) : List (Int × Int) := (List.range n).flatMap fun x : Nat => ((List.range n).filter fun y : Nat => decide (x < y) && decide (((x : Int), (y : Int)) ∈ L)).map fun y : Nat => ((x : Int), (y : Int))
def rowP (e : Int × Int) : List Int := [e.1, e.2]
theorem edgesT_pairs (n : Nat) (ts : List (List Int)) : edgesT n ts = (pairsL (keysE ts) n).map rowP := by
 unfold edgesT rowsE rowE pairsL
 rw [List.map_flatMap]
 simp only [List.map_map]
 rfl
theorem mem_pairsL {L : List (Int × Int)} {n : Nat} {e : Int × Int} : e ∈ pairsL L n ↔ ∃ a b : Nat, a < n ∧ b < n ∧ a < b ∧ ((a : Int), (b : Int)) ∈ L ∧ e = ((a : Int), (b : Int)) := by
 unfold pairsL
 simp only [List.mem_flatMap, List.mem_range, List.mem_map, List.mem_filter, Bool.and_eq_true, decide_eq_true_eq]
 constructor
 ·rintro ⟨a, ha, b, ⟨hb, hab, hm⟩, rfl⟩
  exact ⟨a, b, ha, hb, hab, hm, rfl⟩
 ·rintro ⟨a, b, ha, hb, hab, hm, rfl⟩
  exact ⟨a, ha, b, ⟨hb, hab, hm⟩, rfl⟩
theorem pairsL_sorted (L : List (Int × Int)) (n : Nat) : (pairsL L n).Pairwise fun x y => ltE x y = true := by
 unfold pairsL
 rw [List.pairwise_flatMap]
 refine ⟨fun a ha => ?_, ?_⟩
 ·rw [List.pairwise_map]
  refine (List.Pairwise.filter _ List.pairwise_lt_range).imp fun h => ?_
  unfold ltE
  simp
  omega
 ·refine List.pairwise_lt_range.imp fun {a b} h x hx y hy => ?_
  obtain ⟨c, _, rfl⟩ := List.mem_map.1 hx
  obtain ⟨d, _, rfl⟩ := List.mem_map.1 hy
  unfold ltE
  simp
  omega
theorem sortE_eq {ss ps : List (Int × Int)} (hnd : ss.Nodup) (hm : ∀ x, x ∈ ss ↔ x ∈ ps) (hp : ps.Pairwise fun x y => ltE x y = true) : sortE ss = ps := by
 have hpn : ps.Nodup := hp.imp fun h e => by subst e; unfold ltE at h; simp at h
 have hperm : ss.Perm ps := (List.perm_ext_iff_of_nodup hnd hpn).2 hm
 have e : ∀ a b, (!(ltOf cfE) b a) = !(ltE b a) := fun a b => by rw [ltOf_cfE]
 have tr : ∀ a b c : Int × Int, (!(ltOf cfE) b a) = true → (!(ltOf cfE) c b) = true → (!(ltOf cfE) c a) = true := fun a b c h1 h2 => by
  rw [e] at *
  unfold ltE at *
  simp at *
  omega
 have to : ∀ a b : Int × Int, ((!(ltOf cfE) b a) || !(ltOf cfE) a b) = true := fun a b => by
  rw [e, e]
  unfold ltE
  simp
  omega
 unfold sortE
 refine List.Perm.eq_of_pairwise (le := fun a b => (!(ltOf cfE) b a) = true) (fun a b _ _ h1 h2 => ?_) (List.pairwise_mergeSort tr to ss) (hp.imp fun {a b} h => ?_) ((List.mergeSort_perm ss _).trans hperm)
 ·exact totE a b (by simpa using h2) (by simpa using h1)
 ·rw [e]
  unfold ltE at *
  simp at *
  omega
theorem keys_in {ts : List (List Int)} {n : Nat} (hT : ∀ i, i < ts.length → Tri3 n (ts.getD i [])) {e : Int × Int} (he : e ∈ keysE ts) : ∃ a b : Nat, a < b ∧ b < n ∧ e = ((a : Int), (b : Int)) := by
 unfold keysE at he
 obtain ⟨t, ht, he⟩ := List.mem_flatMap.1 he
 obtain ⟨i, hi, rfl⟩ := List.getElem_of_mem ht
 have h := hT i hi
 rw [List.getD, List.getElem?_eq_getElem hi, Option.getD_some] at h
 obtain ⟨h1, h2, h3, ⟨p0, q0⟩, ⟨p1, q1⟩, ⟨p2, q2⟩⟩ := h
 unfold triE eKey at he
 generalize (ts[i]).getD 0 0 = x at *
 generalize (ts[i]).getD 1 0 = y at *
 generalize (ts[i]).getD 2 0 = z at *
 have main : ∀ u v : Int, 0 ≤ u → u < n → 0 ≤ v → v < n → u ≠ v → ∃ a b : Nat, a < b ∧ b < n ∧ (min u v, max u v) = ((a : Int), (b : Int)) := fun u v a1 a2 b1 b2 hne =>
  ⟨(min u v).toNat, (max u v).toNat, by omega, by omega, by rw [Int.toNat_of_nonneg (by omega), Int.toNat_of_nonneg (by omega)]⟩
 simp only [List.mem_cons, List.not_mem_nil, or_false] at he
 rcases he with rfl | rfl | rfl
 ·exact main _ _ (by omega) (by omega) (by omega) (by omega) (by omega)
 ·exact main _ _ (by omega) (by omega) (by omega) (by omega) (by omega)
 ·exact main _ _ (by omega) (by omega) (by omega) (by omega) (by omega)
theorem mem_preI (ts : List (List Int)) (e : Int × Int) : e ∈ (preI ts ts.length 0).map (·.1) ↔ e ∈ keysE ts := by
 unfold preI keysE pairsT
 rw [List.take_zero, List.append_nil]
 simp only [List.mem_map, List.mem_flatMap, List.mem_range]
 constructor
 ·rintro ⟨p, ⟨i, hi, e', he', rfl⟩, rfl⟩
  exact ⟨ts.getD i [], by rw [List.getD, List.getElem?_eq_getElem hi]; exact List.getElem_mem _, he'⟩
 ·rintro ⟨t, ht, he⟩
  obtain ⟨i, hi, rfl⟩ := List.getElem_of_mem ht
  exact ⟨(e, (i : Int)), ⟨i, hi, e, by rw [List.getD, List.getElem?_eq_getElem hi]; exact he, rfl⟩, rfl⟩
theorem sorted_edges {D : DataW Unit} {ts : List (List Int)} {n : Nat} {ss : List (Int × Int)} (hG : GroupsOf D (preI ts ts.length 0)) (hK : KeysE D ss) (hT : ∀ i, i < ts.length → Tri3 n (ts.getD i [])) (hn : n ≤ 64) : sortE ss = pairsL (keysE ts) n := by
 refine sortE_eq hK.1 (fun x => (hK.2 x).trans ⟨fun ⟨⟨wa, wb⟩, hh⟩ => ?_, fun h => ?_⟩) (pairsL_sorted _ _)
 ·have := (mem_preI ts _).1 (hG.2.2 x.1 x.2 wa wb hh)
  obtain ⟨a, b, hab, hb, e⟩ := keys_in hT this
  exact mem_pairsL.2 ⟨a, b, by omega, hb, hab, by rw [← e]; exact this, e⟩
 ·obtain ⟨a, b, ha, hb, hab, hm, rfl⟩ := mem_pairsL.1 h
  have wa : (Lit.int .i64 (a : Int)).wf = true := WalkArith.wf_i64 (by omega)
  have wb : (Lit.int .i64 (b : Int)).wf = true := WalkArith.wf_i64 (by omega)
  exact ⟨⟨wa, wb⟩, hG.has_of wa wb ((mem_preI ts _).2 hm)⟩
theorem edges_at {w : World} {base n : Nat} {v : Value} {es : List (Int × Int)} (h : w.ownsRow base 234 2 v n (flatE es)) (hn : es.length = n) : ∃ a c, v = .slice a n c ∧ EdgesAt w a n es := by
 have h' := h
 rcases h.2 with ⟨rfl, h0⟩ | ⟨g, cap, cur, rfl, _⟩
 ·exact ⟨none, 0, by rw [h0], fun k hk => absurd hk (by omega)⟩
 ·refine ⟨_, _, rfl, fun k hk => ⟨g, rfl, ?_, ?_⟩⟩
  ·rw [h'.cellAt _ (by omega), flatE_get _ _ (by omega), show k * 2 / 2 = k by omega, show k * 2 % 2 = 0 by omega]
   simp [cellsE, List.getD, hn, hk]
  ·rw [h'.cellAt _ (by omega), flatE_get _ _ (by omega), show (k * 2 + 1) / 2 = k by omega, show (k * 2 + 1) % 2 = 1 by omega]
   simp [cellsE, List.getD, hn, hk]
end Go.Proofs.YtabccmobmppdnaaGreat
namespace Go.Proofs.YtabccmobmppdnaaGreat
open Go Fk Go.RowKit
set_option linter.unusedVariables false
set_option maxRecDepth 64000
theorem OwnT.congr {base n : Nat} {w : World} {v : Value} {ts us : List (List Int)} (h : OwnT base w v n ts) (he : ∀ j, j < n → ts.getD j [] = us.getD j []) : OwnT base w v n us := by
 obtain ⟨rows, h1, h2⟩ := h
 refine ⟨rows, h1, fun j hj => ?_⟩
 rw [← he j hj]
 exact h2 j hj
theorem getD_app {ts us : List (List Int)} {j : Nat} (h : j < ts.length) : ts.getD j [] = (ts ++ us).getD j [] := by
 simp [List.getD, List.getElem?_append_left h]
theorem getD_end {ts : List (List Int)} {u : List Int} : (ts ++ [u]).getD ts.length [] = u := by simp [List.getD]
set_option maxHeartbeats 4000000 in
theorem l02Edges (pb : Nat) (pa ta : Option Addr) (pl pc tl tc : Nat) (cs : List C3) (ts : List (List Int)) (w : World) (c0' : w.cell? ⟨pb, 0, none⟩ = some (.slice pa pl pc)) (c1' : w.cell? ⟨pb, 1, none⟩ = some (.slice ta tl tc)) (hp' : IsVs w pa pl pc cs) (ht : IsTs w ta tl tc ts) (hv : validB cs ts = true) :
  Calls Tryz.prog 189 #[.pointer (some ⟨pb, 0, none⟩)] w fun e w' => (∃ v, e = .returned v ∧ OwnT w.heap.size w' v (edgesT pl ts).length (edgesT pl ts)) ∧ Below w.heap.size w w' := by
 have hpl := hp'.1
 have htl := ht.1
 obtain ⟨v1, v2⟩ := valid_pl hv
 rw [hpl] at v1
 rw [htl] at v2
 obtain ⟨i0, hi, hz0, hz1, hz2⟩ := info_parts infoBool
 obtain ⟨j0, hj, hq0, hq1, hq2⟩ := info_parts infoS
 have HV := Lib.hid (fun k (hk : k < tl) => tri_partsh (valid_rowh hv (show k < ts.length by omega)))
 rw [hpl] at HV
 have C0 := Lib.hid c0'
 have C1 := Lib.hid c1'
 have HT := Lib.hid ht
 have lpb := World.block_lt_of_cell? _ _ c0'
 obtain ⟨N, hN⟩ : ∃ N : Nat, N = pl * pl := ⟨_, rfl⟩
 have hNm : (pl : Int) * (pl : Int) = (N : Int) := by rw [hN]; push_cast; rfl
 have hNb : N ≤ 4096 := by
  have : pl * pl ≤ 64 * 64 := Nat.mul_le_mul v1 v1
  omega
 have hmk : (Instr.makeSlice 250 (.int .i64 N) (.int .i64 N)).run Tryz.prog w = .ok (.slice (some ⟨w.heap.size, 0, none⟩) N N) (w.alloc (.cells (madeCells #[.bool false] N) 4)) := by
  have := run_make (P := Tryz.prog) w 250 4 i0 (.bool false) Tryz.underlying250 hi hz0 .i64 .i64 N N (by omega) (Int.le_refl _) (by rw [hz2]; omega) (by omega)
  rw [this, hz1]; simp; rfl
 have hs0 : SeenT (w.alloc (.cells (madeCells #[.bool false] N) 4)) w.heap.size pl (preE ts 0 0) := by
  refine ⟨fun x y hx hy => ?_, fun i => by simp, by simp⟩
  rw [preE_zero]
  have hlt := flat_lt hx hy
  rw [← hN] at hlt
  exact made_cell w (.bool false) N _ _ hlt
 have HS0 := Lib.hid hs0
 obtain ⟨L, hL⟩ : ∃ L, L = keysE ts := ⟨_, rfl⟩
 have hPE : preE ts tl 0 = L := by rw [hL, ← htl]; exact preE_end ts
 have HPE := Lib.hid hPE
 unfold edgesT
 rw [← hL]
 clear hL hPE
 have HN := Lib.hid hN
 clear hs0 c0' c1' ht hp' hv hN
 go_enter Tryz.func189, Tryz.ntmps189
 have kb0 := C0.out
 go_wp2
 clear kb0
 have HB0 : Hid (Below w.heap.size w (w.alloc (.cells (madeCells #[.bool false] N) 4))) := Lib.hid ((Below.refl _ _).alloc (Nat.le_refl _) _)
 generalize (w.alloc (.cells (madeCells #[.bool false] N) 4)) = W at *
 go_loopw [5] (fun i w' => ∃ k : Nat, k ≤ tl ∧ i = .int .i64 k ∧ Aside (Below w.heap.size w w' ∧ SeenT w' w.heap.size pl (preE ts k 0))) (fun i _ => tl - (intOf i).toNat)
 case atStart => exact ⟨0, Nat.zero_le _, rfl, HB0.out, HS0.out⟩
 case round =>
  obtain ⟨k, hk, rfl, hA⟩ := hrel
  obtain ⟨hB, hS⟩ := hA.out
  have HB := Lib.hid hB
  have HS := Lib.hid hS
  have kb0 := cell_below hB C0.out
  have kb1 := cell_below hB C1.out
  clear hA hS
  by_cases hlt : k < tl
  ·obtain ⟨bt, ot, rfl, hrow⟩ := HT.out.some (by omega)
   obtain ⟨r1, n1, q1, cr', ir⟩ := hrow k hlt
   obtain ⟨hn3, hx⟩ := HV.out k hlt
   have hn1 : n1 = 3 := ir.1.symm.trans hn3
   subst hn1
   have cr := cell_below hB cr'
   have hk0 : (0 : Int) ≤ (k : Int) := by omega
   have hk1 : (k : Int) < (tl : Int) := by omega
   obtain ⟨a0, b0⟩ := hx 0 (by decide)
   obtain ⟨a1, b1⟩ := hx 1 (by decide)
   obtain ⟨a2, b2⟩ := hx 2 (by decide)
   obtain ⟨x0, hx0⟩ : ∃ x : Nat, (ts.getD k []).getD 0 0 = (x : Int) := ⟨_, (Int.toNat_of_nonneg a0).symm⟩
   obtain ⟨x1, hx1⟩ : ∃ x : Nat, (ts.getD k []).getD 1 0 = (x : Int) := ⟨_, (Int.toNat_of_nonneg a1).symm⟩
   obtain ⟨x2, hx2⟩ : ∃ x : Nat, (ts.getD k []).getD 2 0 = (x : Int) := ⟨_, (Int.toNat_of_nonneg a2).symm⟩
   rw [hx0] at b0
   rw [hx1] at b1
   rw [hx2] at b2
   have b0' : x0 < pl := by omega
   have b1' : x1 < pl := by omega
   have b2' : x2 < pl := by omega
   obtain ⟨br, or, rfl, hz⟩ := ir.some (by decide)
   have z0 := hz 0 (by decide)
   have z1 := hz 1 (by decide)
   have z2 := hz 2 (by decide)
   rw [hx0, Nat.add_zero] at z0
   rw [hx1] at z1
   rw [hx2] at z2
   have X0 := Lib.hid hx0
   have X1 := Lib.hid hx1
   have X2 := Lib.hid hx2
   have Z0 := Lib.hid z0
   have Z1 := Lib.hid z1
   have Z2 := Lib.hid z2
   clear hB hrow cr' ir hn3 hx a0 a1 a2 b0 b1 b2 hx0 hx1 hx2 hz z0 z1 z2 HS0 HB0
   go_wp2
   clear cr kb0 kb1
   go_loopw [7] (fun i w' => ∃ m : Nat, m ≤ 3 ∧ i = .int .i64 m ∧ Aside (Below w.heap.size w w' ∧ SeenT w' w.heap.size pl (preE ts k m))) (fun i _ => 3 - (intOf i).toNat)
   case atStart => exact ⟨0, by omega, rfl, HB.out, HS.out⟩
   case round =>
    obtain ⟨m, hm, rfl, hA⟩ := hrel
    obtain ⟨hB, hS⟩ := hA.out
    have HB1 := Lib.hid hB
    have HS1 := Lib.hid hS
    have z0 := cell_below hB Z0.out
    have z1 := cell_below hB Z1.out
    have z2 := cell_below hB Z2.out
    clear hA hB hS
    by_cases hlm : m < 3
    ·obtain rfl | rfl | rfl : m = 0 ∨ m = 1 ∨ m = 2 := by omega
     ·have hm0 : ((min (x0 : Int) (x1 : Int)) : Int) = ((min x0 x1 : Nat) : Int) := by omega
      have hm1 : ((max (x0 : Int) (x1 : Int)) : Int) = ((max x0 x1 : Nat) : Int) := by omega
      have HK := Lib.hid (show (triE (ts.getD k [])).getD 0 (0, 0) = (((min x0 x1 : Nat) : Int), ((max x0 x1 : Nat) : Int)) by
       show eKey ((ts.getD k []).getD 0 0) ((ts.getD k []).getD 1 0) = _
       rw [X0.out, X1.out]; unfold eKey; rw [hm0, hm1])
      have hp : min x0 x1 < pl := by omega
      have hq : max x0 x1 < pl := by omega
      have M0 := Lib.hid hm0
      have M1 := Lib.hid hm1
      clear hm0 hm1
      generalize min x0 x1 = p at *
      generalize max x0 x1 = q at *
      obtain ⟨I, hI⟩ : ∃ I : Nat, I = p * pl + q := ⟨_, rfl⟩
      obtain ⟨P, hP⟩ : ∃ P : Nat, P = p * pl := ⟨_, rfl⟩
      have hlt2 := flat_lt hp hq
      rw [← HN.out] at hlt2
      have hPm : (p : Int) * (pl : Int) = (P : Int) := by rw [hP]; push_cast; rfl
      have hIm : (P : Int) + (q : Int) = (I : Int) := by rw [hI, hP]; push_cast; rfl
      have i0 : (0 : Int) ≤ (I : Int) := by omega
      have i1 : (I : Int) < (N : Int) := by rw [hI]; omega
      have hPb : P ≤ 4096 := by omega
      have cI : wr.cell? ⟨w.heap.size, I, none⟩ = some (.bool (decide (((p : Int), (q : Int)) ∈ preE ts k 0))) := by rw [hI]; exact HS1.out.1 p q hp hq
      have fI : wr.frozen? ⟨w.heap.size, I, none⟩ = false := HS1.out.2.1 I
      have HS2 : Hid (SeenT (wr.setCell ⟨w.heap.size, I, none⟩ (.bool true)) w.heap.size pl (preE ts k (0 + 1))) := Lib.hid (by
       rw [preE_step (by decide), HK.out, hI]; exact HS1.out.set hp hq)
      generalize (decide (((p : Int), (q : Int)) ∈ preE ts k 0)) = u at *
      have HI := Lib.hid hI
      clear hI hP hlt2
      go_wp2_with (first
       | (go_at_call 201; refine (l00Min _ _ _).mono ?_; rintro e w1 ⟨rfl, hw1⟩; rw [hw1, M0.out]; clear hw1)
       | (go_at_call 202; refine (l00Max _ _ _).mono ?_; rintro e w1 ⟨rfl, hw1⟩; rw [hw1, M1.out]; clear hw1))
      go_roundw
      case rel => exact ⟨0 + 1, by omega, by go_num, HB1.out.setCell (Nat.le_refl _) _, HS2.out⟩
      case measure => simp [intOf]
     ·have hm0 : ((min (x1 : Int) (x2 : Int)) : Int) = ((min x1 x2 : Nat) : Int) := by omega
      have hm1 : ((max (x1 : Int) (x2 : Int)) : Int) = ((max x1 x2 : Nat) : Int) := by omega
      have HK := Lib.hid (show (triE (ts.getD k [])).getD 1 (0, 0) = (((min x1 x2 : Nat) : Int), ((max x1 x2 : Nat) : Int)) by
       show eKey ((ts.getD k []).getD 1 0) ((ts.getD k []).getD 2 0) = _
       rw [X1.out, X2.out]; unfold eKey; rw [hm0, hm1])
      have hp : min x1 x2 < pl := by omega
      have hq : max x1 x2 < pl := by omega
      have M0 := Lib.hid hm0
      have M1 := Lib.hid hm1
      clear hm0 hm1
      generalize min x1 x2 = p at *
      generalize max x1 x2 = q at *
      obtain ⟨I, hI⟩ : ∃ I : Nat, I = p * pl + q := ⟨_, rfl⟩
      obtain ⟨P, hP⟩ : ∃ P : Nat, P = p * pl := ⟨_, rfl⟩
      have hlt2 := flat_lt hp hq
      rw [← HN.out] at hlt2
      have hPm : (p : Int) * (pl : Int) = (P : Int) := by rw [hP]; push_cast; rfl
      have hIm : (P : Int) + (q : Int) = (I : Int) := by rw [hI, hP]; push_cast; rfl
      have i0 : (0 : Int) ≤ (I : Int) := by omega
      have i1 : (I : Int) < (N : Int) := by rw [hI]; omega
      have hPb : P ≤ 4096 := by omega
      have cI : wr.cell? ⟨w.heap.size, I, none⟩ = some (.bool (decide (((p : Int), (q : Int)) ∈ preE ts k 1))) := by rw [hI]; exact HS1.out.1 p q hp hq
      have fI : wr.frozen? ⟨w.heap.size, I, none⟩ = false := HS1.out.2.1 I
      have HS2 : Hid (SeenT (wr.setCell ⟨w.heap.size, I, none⟩ (.bool true)) w.heap.size pl (preE ts k (1 + 1))) := Lib.hid (by
       rw [preE_step (by decide), HK.out, hI]; exact HS1.out.set hp hq)
      generalize (decide (((p : Int), (q : Int)) ∈ preE ts k 1)) = u at *
      have HI := Lib.hid hI
      clear hI hP hlt2
      go_wp2_with (first
       | (go_at_call 201; refine (l00Min _ _ _).mono ?_; rintro e w1 ⟨rfl, hw1⟩; rw [hw1, M0.out]; clear hw1)
       | (go_at_call 202; refine (l00Max _ _ _).mono ?_; rintro e w1 ⟨rfl, hw1⟩; rw [hw1, M1.out]; clear hw1))
      go_roundw
      case rel => exact ⟨1 + 1, by omega, by go_num, HB1.out.setCell (Nat.le_refl _) _, HS2.out⟩
      case measure => simp [intOf]
     ·have hm0 : ((min (x2 : Int) (x0 : Int)) : Int) = ((min x2 x0 : Nat) : Int) := by omega
      have hm1 : ((max (x2 : Int) (x0 : Int)) : Int) = ((max x2 x0 : Nat) : Int) := by omega
      have HK := Lib.hid (show (triE (ts.getD k [])).getD 2 (0, 0) = (((min x2 x0 : Nat) : Int), ((max x2 x0 : Nat) : Int)) by
       show eKey ((ts.getD k []).getD 2 0) ((ts.getD k []).getD 0 0) = _
       rw [X2.out, X0.out]; unfold eKey; rw [hm0, hm1])
      have hp : min x2 x0 < pl := by omega
      have hq : max x2 x0 < pl := by omega
      have M0 := Lib.hid hm0
      have M1 := Lib.hid hm1
      clear hm0 hm1
      generalize min x2 x0 = p at *
      generalize max x2 x0 = q at *
      obtain ⟨I, hI⟩ : ∃ I : Nat, I = p * pl + q := ⟨_, rfl⟩
      obtain ⟨P, hP⟩ : ∃ P : Nat, P = p * pl := ⟨_, rfl⟩
      have hlt2 := flat_lt hp hq
      rw [← HN.out] at hlt2
      have hPm : (p : Int) * (pl : Int) = (P : Int) := by rw [hP]; push_cast; rfl
      have hIm : (P : Int) + (q : Int) = (I : Int) := by rw [hI, hP]; push_cast; rfl
      have i0 : (0 : Int) ≤ (I : Int) := by omega
      have i1 : (I : Int) < (N : Int) := by rw [hI]; omega
      have hPb : P ≤ 4096 := by omega
      have cI : wr.cell? ⟨w.heap.size, I, none⟩ = some (.bool (decide (((p : Int), (q : Int)) ∈ preE ts k 2))) := by rw [hI]; exact HS1.out.1 p q hp hq
      have fI : wr.frozen? ⟨w.heap.size, I, none⟩ = false := HS1.out.2.1 I
      have HS2 : Hid (SeenT (wr.setCell ⟨w.heap.size, I, none⟩ (.bool true)) w.heap.size pl (preE ts k (2 + 1))) := Lib.hid (by
       rw [preE_step (by decide), HK.out, hI]; exact HS1.out.set hp hq)
      generalize (decide (((p : Int), (q : Int)) ∈ preE ts k 2)) = u at *
      have HI := Lib.hid hI
      clear hI hP hlt2
      go_wp2_with (first
       | (go_at_call 201; refine (l00Min _ _ _).mono ?_; rintro e w1 ⟨rfl, hw1⟩; rw [hw1, M0.out]; clear hw1)
       | (go_at_call 202; refine (l00Max _ _ _).mono ?_; rintro e w1 ⟨rfl, hw1⟩; rw [hw1, M1.out]; clear hw1))
      go_roundw
      case rel => exact ⟨2 + 1, by omega, by go_num, HB1.out.setCell (Nat.le_refl _) _, HS2.out⟩
      case measure => simp [intOf]
    ·obtain rfl : m = 3 := by omega
     have HS2 := HS1.out
     rw [preE_next (by omega)] at HS2
     have HS3 := Lib.hid HS2
     clear HS2
     go_wp2
     go_roundw
     case rel => exact ⟨k + 1, by omega, by go_num, HB1.out, HS3.out⟩
     case measure => simp [intOf]; omega
  ·obtain rfl : k = tl := by omega
   rw [HPE.out] at HS
   have hbz := hB.size
   clear kb0 HS0 HB0
   obtain ⟨V, hVe⟩ : ∃ V, V = wr := ⟨_, rfl⟩
   subst hVe
   have hT0 : OwnT V.heap.size (V.alloc (.cells #[] 33)) (.slice (some ⟨V.heap.size, 0, none⟩) 0 0) (rowsE L pl 0).length (rowsE L pl 0) :=
    ⟨[], World.ownsRow_lit (base := V.heap.size) (e := 33) (size := 1) V #[] 0 (Nat.le_refl _) (by decide) rfl, fun j hj => absurd hj (by simp [rowsE])⟩
   have HT0 := Lib.hid hT0
   have HBV : Hid (Below V.heap.size V (V.alloc (.cells #[] 33))) := Lib.hid ((Below.refl _ _).alloc (Nat.le_refl _) _)
   clear hT0 hB
   go_wp2
   clear kb1
   generalize (V.alloc (.cells #[] 33)) = V1 at *
   generalize (.slice (some ⟨V.heap.size, 0, none⟩) 0 0 : Value) = v0 at *
   go_loopw [10, 11] (fun v i w' => ∃ a : Nat, a ≤ pl ∧ i = .int .i64 a ∧ Aside (OwnT V.heap.size w' v (rowsE L pl a).length (rowsE L pl a) ∧ Below V.heap.size V w')) (fun _ i _ => pl - (intOf i).toNat)
   case atStart => exact ⟨0, Nat.zero_le _, rfl, HT0.out, HBV.out⟩
   case round =>
    obtain ⟨a, ha, hia, hA⟩ := hrel
    subst hia
    obtain ⟨hT, hBV⟩ := hA.out
    have HT1 := Lib.hid hT
    have HB1 := Lib.hid hBV
    clear hA hT hBV
    by_cases hla : a < pl
    ·have hla' : (a : Int) < (pl : Int) := by omega
     go_wp2
     go_loopw [10, 12] (fun v i w' => ∃ y : Nat, a + 1 ≤ y ∧ y ≤ pl ∧ i = .int .i64 y ∧ Aside (OwnT V.heap.size w' v (rowsE L pl a ++ rowE L y a).length (rowsE L pl a ++ rowE L y a) ∧ Below V.heap.size V w')) (fun _ i _ => pl - (intOf i).toNat)
     case atStart => exact ⟨a + 1, Nat.le_refl _, hla, by go_num, by rw [rowE_start, List.append_nil]; exact HT1.out, HB1.out⟩
     case round =>
      obtain ⟨y, hy0, hy1, hiy, hA⟩ := hrel
      subst hiy
      obtain ⟨hT, hBV⟩ := hA.out
      have HT2 := Lib.hid hT
      have HB2 := Lib.hid hBV
      clear hA
      by_cases hly : y < pl
      ·have hly' : (y : Int) < (pl : Int) := by omega
       obtain ⟨I, hI⟩ : ∃ I : Nat, I = a * pl + y := ⟨_, rfl⟩
       obtain ⟨P, hP⟩ : ∃ P : Nat, P = a * pl := ⟨_, rfl⟩
       have hlt2 := flat_lt hla hly
       rw [← HN.out] at hlt2
       have hPm : (a : Int) * (pl : Int) = (P : Int) := by rw [hP]; push_cast; rfl
       have hIm : (P : Int) + (y : Int) = (I : Int) := by rw [hI, hP]; push_cast; rfl
       have i0 : (0 : Int) ≤ (I : Int) := by omega
       have i1 : (I : Int) < (N : Int) := by rw [hI]; omega
       have hPb : P ≤ 4096 := by omega
       have cI : wr.cell? ⟨w.heap.size, I, none⟩ = some (.bool (decide (((a : Int), (y : Int)) ∈ L))) := by rw [hI]; exact (HS.out.below hBV).1 a y hla hly
       have hlen : (rowsE L pl a ++ rowE L y a).length ≤ 8192 := by
        rw [List.length_append]
        have e1 := rowsE_len L pl a
        have e2 := rowE_len L y a
        have e3 : a * pl ≤ 64 * 64 := Nat.mul_le_mul (by omega) v1
        omega
       have HI := Lib.hid hI
       clear hI hP hlt2 hT hBV
       cases hd : decide (((a : Int), (y : Int)) ∈ L)
       ·rw [hd] at cI
        have HR := Lib.hid (rowE_no hd)
        clear hd
        go_wp2
        go_roundw
        case rel => exact ⟨y + 1, by omega, by omega, by go_num, by rw [HR.out]; exact HT2.out, HB2.out⟩
        case measure => simp [intOf]; omega
       ·rw [hd] at cI
        have HR := Lib.hid (rowE_yes (show a < y by omega) hd)
        clear hd
        have hbz2 := HB2.out.size
        have hB1 : Below wr.heap.size wr ((wr.alloc (.cells #[.int .i64 (a : Int), .int .i64 (y : Int)] 2)).alloc (.cells #[.slice (some ⟨wr.heap.size, 0, none⟩) 2 2] 33)) := ((Below.refl _ _).alloc (Nat.le_refl _) _).alloc (by simp) _
        have hr1 : ((wr.alloc (.cells #[.int .i64 (a : Int), .int .i64 (y : Int)] 2)).alloc (.cells #[.slice (some ⟨wr.heap.size, 0, none⟩) 2 2] 33)).ownsRow V.heap.size 2 1 (.slice (some ⟨wr.heap.size, 0, none⟩) 2 2) 2 (ints [(a : Int), (y : Int)]) :=
         (World.ownsRow_lit (base := V.heap.size) (e := 2) (size := 1) wr #[.int .i64 (a : Int), .int .i64 (y : Int)] 2 hbz2 (by decide) rfl).alloc _
        have hrw := World.ownsRow_lit (base := V.heap.size) (e := 33) (size := 1) (wr.alloc (.cells #[.int .i64 (a : Int), .int .i64 (y : Int)] 2)) #[.slice (some ⟨wr.heap.size, 0, none⟩) 2 2] 1 (by simp; omega) (by decide) rfl
        have e0 := hrw.cellAt 0 (by decide)
        simp only [World.size_alloc, List.getElem?_cons_zero] at e0
        have E0 := Lib.hid e0
        obtain ⟨rows, hrow, hrows⟩ := (HT2.out.up hB1).congr (us := (rowsE L pl a ++ rowE L y a) ++ [[(a : Int), (y : Int)]]) (fun j hj => getD_app hj)
        have HROW := Lib.hid hrow
        have HROWS := Lib.hid hrows
        have HR1 := Lib.hid hr1
        have HB3 := Lib.hid (HB2.out.trans (hB1.mono hbz2))
        clear hB1 hr1 hrw e0 hrow hrows
        go_wp2_with (at_builtin; go_loud (refine wpList_append_own _ rfl _ _ 23 rfl V.heap.size 33 j0 (.slice none 0 0) 1 24 Tryz.underlying23 hj hq0 hq1 hq2 rfl (by decide) _ _ _ rfl HROW.out ⟨wr.heap.size + 1, 0, none⟩ 1 1 [.slice (some ⟨wr.heap.size, 0, none⟩) 2 2] rfl rfl ?c1 ?c2 ?c3 ?c4 ?c5 ?_))
        case c1 =>
         intro j u hj
         match j, hj with
         | 0, hj => simp at hj; subst hj; first | (simp [Addr.add]; done) | exact E0.out
         | j + 1, hj => simp at hj
        case c2 => first | (intro u hu; simp at hu; subst hu; rfl) | exact rfl
        case c3 => unfold maxLen; omega
        case c4 => omega
        case c5 => simp; omega
        ·intro v' w1 hown' hgrow hnil
         have HT3 : Hid (OwnT V.heap.size w1 v' (rowsE L pl a ++ rowE L (y + 1) a).length (rowsE L pl a ++ rowE L (y + 1) a)) := Lib.hid (by
          rw [HR.out, ← List.append_assoc, List.length_append, List.length_singleton]
          exact OwnT.snoc HROW.out HROWS.out (by rw [getD_end]; exact HR1.out) hgrow (by rw [List.length_append]; exact hown'))
         have HB4 := Lib.hid (HB3.out.grown hgrow HB3.out.size (fun k hk => (HROW.out.lt k hk).1))
         clear hown' hgrow hnil HROW HROWS HR1
         go_wp2
         go_roundw
         case rel => exact ⟨y + 1, by omega, by omega, by go_num, HT3.out, HB4.out⟩
         case measure => simp [intOf]; omega
      ·obtain rfl : y = pl := by omega
       clear hT hBV
       go_wp2
       go_roundw
       case rel => exact ⟨a + 1, by omega, by go_num, by rw [rowsE_next]; exact HT2.out, HB2.out⟩
       case measure => simp [intOf]; omega
    ·obtain rfl : a = pl := by omega
     go_wp2
     go_ret
     exact ⟨⟨_, rfl, HT1.out.low hbz⟩, HB.out.trans (HB1.out.mono hbz)⟩
end Go.Proofs.YtabccmobmppdnaaGreat
namespace Go.Proofs.YtabccmobmppdnaaGreat
open Go Fk Go.RowKit
set_option linter.unusedVariables false
set_option maxRecDepth 16000
end Go.Proofs.YtabccmobmppdnaaGreat
namespace Go.Proofs.YtabccmobmppdnaaGreat
open Go Fk Go.RowKit
set_option linter.unusedVariables false
set_option maxRecDepth 16000
theorem edge_row {n : Nat} {ts : List (List Int)} {m : Nat} (hm : m < (edgesT n ts).length) : ∃ a b : Nat, a < n ∧ b < n ∧ a < b ∧ ((a : Int), (b : Int)) ∈ keysE ts ∧ (edgesT n ts).getD m [] = [(a : Int), (b : Int)] := by
 have h : (edgesT n ts).getD m [] ∈ edgesT n ts := by
  rw [List.getD, List.getElem?_eq_getElem hm]
  exact List.getElem_mem _
 obtain ⟨a, b, ha, hb, hab, hk, e⟩ := mem_rowsE.1 h
 exact ⟨a, b, ha, hb, hab, hk, e⟩
theorem edge_wf {n : Nat} {ts : List (List Int)} (hn : n ≤ 64) : ∀ j, j < (edgesT n ts).length → ∀ z ∈ (edgesT n ts).getD j [], (Lit.int .i64 z).wf = true := fun j hj z hz => by
 obtain ⟨a, b, ha, hb, _, _, e⟩ := edge_row hj
 rw [e] at hz
 simp only [List.mem_cons, List.not_mem_nil, or_false] at hz
 rcases hz with rfl | rfl <;> exact WalkArith.wf_i64 (by omega)
theorem edges_len {n : Nat} {ts : List (List Int)} (hn : n ≤ 64) : (edgesT n ts).length ≤ 4096 := by
 have := rowsE_len (keysE ts) n n
 have h2 : n * n ≤ 64 * 64 := Nat.mul_le_mul hn hn
 unfold edgesT
 omega
end Go.Proofs.YtabccmobmppdnaaGreat
namespace Go.Proofs.YtabccmobmppdnaaGreat
open Go Fk Go.RowKit Go.Maps
set_option linter.unusedVariables false
set_option maxRecDepth 16000
def edT (cs : List C3) (ts : List (List Int)) : List (List Int) := bif validB cs ts then edgesT cs.length ts else []
theorem edT_len (cs : List C3) (ts : List (List Int)) : (edT cs ts).length ≤ 4096 := by
 unfold edT
 cases hv : validB cs ts
 ·simp
 ·exact edges_len (valid_pl hv).1
end Go.Proofs.YtabccmobmppdnaaGreat

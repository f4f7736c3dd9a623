/-
Texts in one: what StiffTimes stands on, part 22. Conditions: those of each.
-/
import Derived.Test.YtabccmobmppdnaaGreatKStiffTimes21
import Derived.Lib.SmallJoins
-- halved
namespace Go.Proofs.YtabccmobmppdnaaGreat
open Go Fk Go.RowKit
set_option linter.unusedVariables false
set_option maxRecDepth 8000
def CB (w : World) (g n : Nat) : Prop := ∃ cur, w.heap[g]? = some (.cells cur 190 (0, 0)) ∧ cur.size = n * 3
theorem CB.set {w : World} {g n : Nat} (h : CB w g n) (i : Nat) (v : Value) : CB (w.setCell ⟨g, i, none⟩ v) g n := by
 obtain ⟨cur, h1, h2⟩ := h
 exact ⟨_, Joins.block_setCell h1 v, by simp [h2]⟩
theorem owns_of_cs {w : World} {base g n : Nat} {ts : List (List Int)} (h : CB w g n) (hc : IsCs w g n ts) (hb : base ≤ g) (hn : n ≤ maxLen) : w.ownsRow base 190 3 (.slice (some ⟨g, 0, none⟩) n n) n (flatV ts n) := by
 obtain ⟨cur, h1, h2⟩ := h
 have hcell : ∀ i, w.cell? ⟨g, i, none⟩ = cur[i]? := fun i => by simp [World.cell?, h1]
 refine ⟨flatV_len ts n, .inr ⟨g, n, cur, rfl, hb, h1, Nat.le_refl _, hn, h2, ?_⟩⟩
 have key : ∀ k, k ≤ n → cur.toList.take (k * 3) = flatV ts k := by
  intro k
  induction k with
  | zero => intro _; simp [flatV]
  | succ k ih =>
   intro hk
   obtain ⟨e0, e1, e2⟩ := hc k (by omega)
   rw [hcell] at e0 e1 e2
   have hl : k * 3 + 2 < cur.toList.length := by simp; omega
   rw [show (k + 1) * 3 = k * 3 + 1 + 1 + 1 by omega, List.take_add_one, List.take_add_one, List.take_add_one, ih (by omega)]
   simp only [Array.getElem?_toList] at *
   rw [e0, e1, e2]
   simp [flatV]
 exact key n (Nat.le_refl _)
set_option maxHeartbeats 1000000 in
theorem all_cornersO (pa ta : Option Addr) (pl pc tl tc : Nat) (ts : List (List Int)) (w : World) (h : IsTs w ta tl tc ts) (h3 : ∀ k, k < tl → (ts.getD k []).length = 3) (hlen : tl ≤ 128) :
  Calls Tryz.prog 153 #[.agg #[.slice pa pl pc, .slice ta tl tc]] w fun e w' => e = .returned (.slice (some ⟨w.heap.size + 1, 0, none⟩) tl tl) ∧ IsCs w' (w.heap.size + 1) tl ts ∧ Below w.heap.size w w' ∧ w.heap.size + 1 < w'.heap.size ∧ (∀ i, w'.frozen? ⟨w.heap.size + 1, i, none⟩ = false) ∧ CB w' (w.heap.size + 1) tl := by
 have ui := Tryz.underlying40
 have uc := Tryz.underlying190
 obtain ⟨i0, hi, hz0, hz1, hz2⟩ := info_parts infoC
 have hmk : (Instr.makeSlice 187 (.int .i64 tl) (.int .i64 tl)).run Tryz.prog (w.alloc (.cells #[.slice pa pl pc, .slice ta tl tc] 40)) = .ok (.slice (some ⟨w.heap.size + 1, 0, none⟩) tl tl) ((w.alloc (.cells #[.slice pa pl pc, .slice ta tl tc] 40)).alloc (.cells (madeCells #[.int .i64 0, .int .i64 0, .int .i64 0] (tl * 3)) 190)) := by
  have := run_make (P := Tryz.prog) (w.alloc (.cells #[.slice pa pl pc, .slice ta tl tc] 40)) 187 190 i0 (.agg #[.int .i64 0, .int .i64 0, .int .i64 0]) Tryz.underlying187 hi hz0 .i64 .i64 tl tl (by omega) (Int.le_refl _) (by rw [hz2]; omega) (by omega)
  rw [this, hz1]; simp; rfl
 have hstart : Below w.heap.size w ((w.alloc (.cells #[.slice pa pl pc, .slice ta tl tc] 40)).alloc (.cells (madeCells #[.int .i64 0, .int .i64 0, .int .i64 0] (tl * 3)) 190)) ∧ w.heap.size + 1 < ((w.alloc (.cells #[.slice pa pl pc, .slice ta tl tc] 40)).alloc (.cells (madeCells #[.int .i64 0, .int .i64 0, .int .i64 0] (tl * 3)) 190)).heap.size ∧
   (∀ j, j < tl * 3 → ∃ v, ((w.alloc (.cells #[.slice pa pl pc, .slice ta tl tc] 40)).alloc (.cells (madeCells #[.int .i64 0, .int .i64 0, .int .i64 0] (tl * 3)) 190)).cell? ⟨w.heap.size + 1, j, none⟩ = some v) ∧ (∀ j, ((w.alloc (.cells #[.slice pa pl pc, .slice ta tl tc] 40)).alloc (.cells (madeCells #[.int .i64 0, .int .i64 0, .int .i64 0] (tl * 3)) 190)).frozen? ⟨w.heap.size + 1, j, none⟩ = false) := by
  refine ⟨((Below.refl _ _).alloc (Nat.le_refl _) _).alloc (by simp) _, by simp, fun j hj => ?_, fun j => by simp⟩
  have := made_cell3 (w.alloc (.cells #[.slice pa pl pc, .slice ta tl tc] 40)) #[.int .i64 0, .int .i64 0, .int .i64 0] (tl * 3) j 190 hj
  simpa using this
 have HST := Lib.hid hstart
 have CB0 : Hid (CB ((w.alloc (.cells #[.slice pa pl pc, .slice ta tl tc] 40)).alloc (.cells (madeCells #[.int .i64 0, .int .i64 0, .int .i64 0] (tl * 3)) 190)) (w.heap.size + 1) tl) := Lib.hid ⟨madeCells #[.int .i64 0, .int .i64 0, .int .i64 0] (tl * 3), by have := heap_alloc_new (w.alloc (.cells #[.slice pa pl pc, .slice ta tl tc] 40)) (.cells (madeCells #[.int .i64 0, .int .i64 0, .int .i64 0] (tl * 3)) 190); simpa using this, by simp [madeCells]⟩
 clear hstart
 go_enter Tryz.func153, Tryz.ntmps153
 go_wp2
 generalize hw0 : (w.alloc (.cells #[.slice pa pl pc, .slice ta tl tc] 40)).alloc (.cells (madeCells #[.int .i64 0, .int .i64 0, .int .i64 0] (tl * 3)) 190) = w0 at HST CB0 ⊢
 go_loopw [13] (fun i w' => ∃ k : Nat, k ≤ tl ∧ i = .int .i64 k ∧ Aside ((Below w.heap.size w w' ∧ w.heap.size + 1 < w'.heap.size ∧ (∀ j, j < tl * 3 → ∃ v, w'.cell? ⟨w.heap.size + 1, j, none⟩ = some v) ∧ (∀ j, w'.frozen? ⟨w.heap.size + 1, j, none⟩ = false)) ∧ IsCs w' (w.heap.size + 1) k ts ∧ CB w' (w.heap.size + 1) tl)) (fun i _ => tl - (intOf i).toNat)
 case atStart => exact ⟨0, Nat.zero_le _, rfl, HST.out, fun j hj => absurd hj (by omega), CB0.out⟩
 case round =>
  obtain ⟨k, hk, rfl, hA⟩ := hrel
  by_cases hlt : k < tl
  ·obtain ⟨⟨hB, hgs, hce, hfz⟩, hdone, hcb⟩ := hA.out
   have HCB := Lib.hid hcb
   clear hcb
   have h' := h.below hB
   obtain ⟨bt, ot, rfl, hrow⟩ := h'.some (by omega)
   obtain ⟨r1, n1, q1, cr, ir⟩ := hrow k hlt
   have hn1 : n1 = 3 := ir.1.symm.trans (h3 k hlt)
   subst hn1
   obtain ⟨br, or, rfl, hz⟩ := ir.some (by decide)
   have z0 := hz 0 (by decide)
   have z1 := hz 1 (by decide)
   have z2 := hz 2 (by decide)
   rw [Nat.add_zero] at z0
   have hk0 : (0 : Int) ≤ (k : Int) := by omega
   have hk1 : (k : Int) < (tl : Int) := by omega
   have hf0 := hfz (k * 3)
   have hf1 := hfz (k * 3 + 1)
   have hf2 := hfz (k * 3 + 2)
   obtain ⟨v0, hv0⟩ := hce (k * 3) (by omega)
   obtain ⟨v1, hv1⟩ := hce (k * 3 + 1) (by omega)
   obtain ⟨v2, hv2⟩ := hce (k * 3 + 2) (by omega)
   have HD := Lib.hid hdone
   have HC := Lib.hid hce
   have HF := Lib.hid hfz
   have HB := Lib.hid hB
   generalize hj0 : (ts.getD k []).getD 0 0 = j0 at *
   generalize hj1 : (ts.getD k []).getD 1 0 = j1 at *
   generalize hj2 : (ts.getD k []).getD 2 0 = j2 at *
   have HJ := Lib.hid (And.intro hj0 (And.intro hj1 hj2))
   clear hA hrow h' hdone hce hfz hB h hw0 HST CB0 hmk ir hz hj0 hj1 hj2 h3 hi
   go_wp2
   rename_i hKc
   refine hKc _ _ ?_
   go_wp2
   go_roundw
   case rel =>
    obtain ⟨e0, e1, e2, eo⟩ := set3k (u := .int .i64 j0) (v := .int .i64 j1) (t := .int .i64 j2) hv0 hv1 hv2
    refine ⟨k + 1, by omega, by go_num, ⟨⟨((HB.out.setCell (Nat.le_succ _) _).setCell (Nat.le_succ _) _).setCell (Nat.le_succ _) _, by simp <;> omega, fun j hj => ?_, fun j => ?_⟩, fun j hj => ?_, ((HCB.out.set _ _).set _ _).set _ _⟩⟩
    ·by_cases h0 : j = k * 3
     ·subst h0; exact ⟨_, e0⟩
     ·by_cases h1 : j = k * 3 + 1
      ·subst h1; exact ⟨_, e1⟩
      ·by_cases h2 : j = k * 3 + 2
       ·subst h2; exact ⟨_, e2⟩
       ·obtain ⟨v, hv⟩ := HC.out j hj
        exact ⟨v, by rw [eo j h0 h1 h2]; exact hv⟩
    ·simp; exact HF.out j
    ·by_cases hjk : j = k
     ·subst hjk; rw [HJ.out.1, HJ.out.2.1, HJ.out.2.2]; exact ⟨e0, e1, e2⟩
     ·obtain ⟨k0, k1, k2⟩ := HD.out j (by omega)
      exact ⟨by rw [eo _ (by omega) (by omega) (by omega)]; exact k0, by rw [eo _ (by omega) (by omega) (by omega)]; exact k1, by rw [eo _ (by omega) (by omega) (by omega)]; exact k2⟩
   case measure => simp [intOf]; omega
  ·obtain rfl : k = tl := by omega
   obtain ⟨⟨hB, hgs, hce, hfz⟩, hdone, hcb⟩ := hA.out
   have HCB := Lib.hid hcb
   clear hcb
   have HF := Lib.hid hdone
   have HB := Lib.hid hB
   have HZ := Lib.hid hfz
   clear hA hB hce hfz hdone h h3 hmk hw0 HST CB0
   go_wp2
   go_ret
   exact ⟨rfl, HF.out, HB.out, hgs, HZ.out, HCB.out⟩
end Go.Proofs.YtabccmobmppdnaaGreat
namespace Go.Proofs.YtabccmobmppdnaaGreat
open Go Fk Go.RowKit
set_option linter.unusedVariables false
set_option maxRecDepth 8000
end Go.Proofs.YtabccmobmppdnaaGreat
namespace Go.Proofs.YtabccmobmppdnaaGreat
open Go Fk Go.RowKit
set_option linter.unusedVariables false
set_option maxRecDepth 16000
end Go.Proofs.YtabccmobmppdnaaGreat
namespace Go.Proofs.YtabccmobmppdnaaGreat
open Go Fk Go.RowKit
set_option linter.unusedVariables false
set_option maxRecDepth 8000
theorem cs_of_owns {w : World} {base cb c n : Nat} {ts : List (List Int)} (h : w.ownsRow base 190 3 (.slice (some ⟨cb, 0, none⟩) n c) n (flatV ts n)) : IsCs w cb n ts := fun k hk => by
 refine ⟨?_, ?_, ?_⟩
 ·rw [h.cellAt _ (by omega)]; have := flatV_get ts n k 0 hk (by decide); simpa using this
 ·rw [h.cellAt _ (by omega)]; exact flatV_get ts n k 1 hk (by decide)
 ·rw [h.cellAt _ (by omega)]; exact flatV_get ts n k 2 hk (by decide)
end Go.Proofs.YtabccmobmppdnaaGreat
namespace Go.Proofs.YtabccmobmppdnaaGreat
open Go Fk Go.RowKit Go.Maps
open Go.ChangeShapes (lits)
set_option linter.unusedVariables false
set_option maxRecDepth 16000
def pairsT (t : List Int) (i : Nat) : List ((Int × Int) × Int) := (triE t).map fun e => (e, (i : Int))
def preI (ts : List (List Int)) (k j : Nat) : List ((Int × Int) × Int) := ((List.range k).flatMap fun i => pairsT (ts.getD i []) i) ++ (pairsT (ts.getD k []) k).take j
theorem preI_zero (ts : List (List Int)) : preI ts 0 0 = [] := by simp [preI]
theorem preI_next (ts : List (List Int)) (k : Nat) : preI ts k 3 = preI ts (k + 1) 0 := by
 unfold preI
 rw [List.range_succ, List.flatMap_append, List.flatMap_cons, List.flatMap_nil, List.append_nil, List.take_zero, List.append_nil]
 rfl
theorem preI_step {ts : List (List Int)} {k j : Nat} (hj : j < 3) : preI ts k (j + 1) = preI ts k j ++ [((triE (ts.getD k [])).getD j (0, 0), (k : Int))] := by
 match j, hj with
 | 0, _ => simp [preI, pairsT, triE]
 | 1, _ => simp [preI, pairsT, triE]
 | 2, _ => simp [preI, pairsT, triE]
set_option maxHeartbeats 8000000 in
theorem impl_edges (pa ta : Option Addr) (pl pc tl tc : Nat) (ts : List (List Int)) (w : World) (ht : IsTs w ta tl tc ts) (h3 : ∀ k, k < tl → (ts.getD k []).length = 3) (hin : ∀ k, k < tl → ∀ i, i < 3 → 0 ≤ (ts.getD k []).getD i 0 ∧ ((ts.getD k []).getD i 0).toNat < 64) (hlen : tl ≤ 128) :
  Calls Tryz.prog 182 #[.agg #[.slice pa pl pc, .slice ta tl tc]] w fun e w' => ∃ (B : Nat) (D : DataW Unit), e = .returned (.map (some B)) ∧ w.heap.size ≤ B ∧ w'.ownsGroups Tryz.prog 234 (B + 1) 2 .i64 B (3 * tl) D ∧ GroupsOf D (preI ts tl 0) ∧ Below w.heap.size w w' := by
 have ui := Tryz.underlying40
 have uc := Tryz.underlying190
 have us := Tryz.underlying241
 have ue := Tryz.underlying234
 obtain ⟨i0, hi, hz0, hz1, hz2⟩ := info_parts info64
 have htl := ht.1
 have hB0 : Below w.heap.size w (w.alloc (.cells #[.slice pa pl pc, .slice ta tl tc] 40)) := (Below.refl _ _).alloc (Nat.le_refl _) _
 have d0' : ((w.alloc (.cells #[.slice pa pl pc, .slice ta tl tc] 40)).alloc (.map #[] 0)).cell? ⟨w.heap.size, 0, none⟩ = some (.slice pa pl pc) := by go_simp
 have d1' : ((w.alloc (.cells #[.slice pa pl pc, .slice ta tl tc] 40)).alloc (.map #[] 0)).cell? ⟨w.heap.size, 1, none⟩ = some (.slice ta tl tc) := by go_simp
 have hBM : Below w.heap.size w ((w.alloc (.cells #[.slice pa pl pc, .slice ta tl tc] 40)).alloc (.map #[] 0)) := hB0.alloc hB0.size _
 have HBM := Lib.hid hBM
 have J2 := Lib.hid (all_cornersO pa ta pl pc tl tc ts ((w.alloc (.cells #[.slice pa pl pc, .slice ta tl tc] 40)).alloc (.map #[] 0)) (ht.below hBM) h3 hlen)
 have HO0 := Lib.hid (World.ownsGroups_made (H := Unit) (w.alloc (.cells #[.slice pa pl pc, .slice ta tl tc] 40)) Tryz.prog 234 2 .i64)
 have HV := Lib.hid hin
 rw [World.size_alloc] at HO0
 have hBle : w.heap.size ≤ w.heap.size + 1 := Nat.le_succ _
 have hBlt : w.heap.size + 1 < ((w.alloc (.cells #[.slice pa pl pc, .slice ta tl tc] 40)).alloc (.map #[] 0)).heap.size := by simp
 have hmm := @run_makeMap Tryz.prog
 have lt0 : w.heap.size < (w.alloc (.cells #[.slice pa pl pc, .slice ta tl tc] 40)).heap.size := by simp
 clear hB0 hBM ht hin h3
 go_enter Tryz.func182, Tryz.ntmps182
 go_wp2_with fail
 generalize ((w.alloc (.cells #[.slice pa pl pc, .slice ta tl tc] 40)).alloc (.map #[] 0)) = W at *
 clear d0' d1' lt0
 generalize w.heap.size + 1 = B at *
 refine J2.out.mono ?_
 rintro e V ⟨rfl, hC, hBV, hcV, _, hCB⟩
 generalize hcb : W.heap.size + 1 = cb at *
 have hne : cb ≠ B := by omega
 have HCO := Lib.hid (owns_of_cs hCB hC (Nat.le_refl cb) (by unfold maxLen; omega))
 have HOV := Lib.hid (groups_below HO0.out hBV)
 have HBV := Lib.hid (HBM.out.trans (hBV.mono HBM.out.size))
 clear hC hCB hBV hcV hcb HO0 HBM J2
 go_wp2
 go_loopw [12] (fun i w' => ∃ k : Nat, k ≤ tl ∧ i = .int .i64 k ∧ Aside (∃ D : DataW Unit, w'.ownsGroups Tryz.prog 234 (B + 1) 2 .i64 B (3 * k) D ∧ GroupsOf D (preI ts k 0) ∧ w'.ownsRow cb 190 3 (.slice (some ⟨cb, 0, none⟩) tl tl) tl (flatV ts tl) ∧ Below w.heap.size w w')) (fun i _ => tl - (intOf i).toNat)
 case atStart => exact ⟨0, Nat.zero_le _, rfl, _, HOV.out, by rw [preI_zero]; exact GroupsOf.nil, HCO.out, HBV.out⟩
 case round =>
  obtain ⟨k, hk, rfl, hA⟩ := hrel
  obtain ⟨D0, hO, hF, hCR, hB⟩ := hA.out
  by_cases hlt : k < tl
  ·obtain ⟨c0, c1, c2⟩ := cs_of_owns hCR k hlt
   have hx := HV.out k hlt
   obtain ⟨p0, q0⟩ := hx 0 (by decide)
   obtain ⟨p1, q1⟩ := hx 1 (by decide)
   obtain ⟨p2, q2⟩ := hx 2 (by decide)
   generalize hx0 : (ts.getD k []).getD 0 0 = x0 at *
   generalize hx1 : (ts.getD k []).getD 1 0 = x1 at *
   generalize hx2 : (ts.getD k []).getD 2 0 = x2 at *
   have X0 := Lib.hid hx0
   have X1 := Lib.hid hx1
   have X2 := Lib.hid hx2
   have wk : (Lit.int .i64 (k : Int)).wf = true := WalkArith.wf_i64 (by omega)
   have hk0 : (0 : Int) ≤ (k : Int) := by omega
   have hk1 : (k : Int) < (tl : Int) := by omega
   have lcb : cb < wr.heap.size := (hCR.lt cb rfl).2
   have hBox : Below wr.heap.size wr (wr.alloc (.cells #[.int .i64 x0, .int .i64 x1, .int .i64 x2] 190)) := (Below.refl _ _).alloc (Nat.le_refl _) _
   have HO1 := Lib.hid (groups_below hO hBox)
   have HF := Lib.hid hF
   have HC1 := Lib.hid (owns_up hCR hBox)
   have HB0' := Lib.hid (hB.trans (hBox.mono hB.size))
   clear hA hO hF hCR hB hx hx0 hx1 hx2 hBox
   go_wp2_with (go_at_call 196; refine (impl_sides _ _ _ _).mono ?_; rintro e w3 ⟨rfl, hB3⟩; have HB3 := Lib.hid hB3; clear hB3)
   have HO2 := Lib.hid (groups_below HO1.out HB3.out)
   have HC2 := Lib.hid (owns_up HC1.out HB3.out)
   have HB2 := Lib.hid (HB0'.out.trans (HB3.out.mono HB0'.out.size))
   clear c0 c1 c2 lcb HO1 HC1 HB0' HB3
   go_loopw [19] (fun i w' => ∃ j : Nat, j ≤ 3 ∧ i = .int .i64 j ∧ Aside (∃ D : DataW Unit, w'.ownsGroups Tryz.prog 234 (B + 1) 2 .i64 B (3 * k + j) D ∧ GroupsOf D (preI ts k j) ∧ w'.ownsRow cb 190 3 (.slice (some ⟨cb, 0, none⟩) tl tl) tl (flatV ts tl) ∧ Below w.heap.size w w')) (fun i _ => 3 - (intOf i).toNat)
   case atStart => exact ⟨0, by omega, rfl, D0, HO2.out, HF.out, HC2.out, HB2.out⟩
   case round =>
    obtain ⟨j, hj, rfl, hA⟩ := hrel
    obtain ⟨D, hO, hF, hCR, hB⟩ := hA.out
    have HO := Lib.hid hO
    have HF := Lib.hid hF
    have HCR := Lib.hid hCR
    have HB1 := Lib.hid hB
    clear hA hO hF hCR hB HO2 HC2 HB2
    by_cases hlj : j < 3
    ·obtain rfl | rfl | rfl : j = 0 ∨ j = 1 ∨ j = 2 := by omega
     ·have hs : (triE (ts.getD k [])).getD 0 (0, 0) = (min x0 x1, max x0 x1) := by
       show eKey ((ts.getD k []).getD 0 0) ((ts.getD k []).getD 1 0) = _
       rw [X0.out, X1.out]; rfl
      have hix : ∀ w, (Instr.index 242 (.agg #[.int .i64 x0, .int .i64 x1, .int .i64 x1, .int .i64 x2, .int .i64 x2, .int .i64 x0]) (.int .i64 0)).run Tryz.prog w = .ok (.agg #[.int .i64 x0, .int .i64 x1]) w := side_ix x0 x1 x1 x2 x2 x0 0 (by decide)
      obtain ⟨p, hp⟩ : ∃ p, min x0 x1 = p := ⟨_, rfl⟩
      obtain ⟨q, hq⟩ : ∃ q, max x0 x1 = q := ⟨_, rfl⟩
      rw [hp, hq] at hs
      have wp : (Lit.int .i64 p).wf = true := WalkArith.wf_i64 (by omega)
      have wq : (Lit.int .i64 q).wf = true := WalkArith.wf_i64 (by omega)
      have HS := Lib.hid hs
      have HPQ := Lib.hid (And.intro hp hq)
      clear hs
      have HBX : Hid (Below wr.heap.size wr (wr.alloc (.cells #[.int .i64 x0, .int .i64 x1] 241))) := Lib.hid ((Below.refl _ _).alloc (Nat.le_refl _) _)
      have BX : Hid ((wr.alloc (.cells #[.int .i64 x0, .int .i64 x1] 241)).ownsRow wr.heap.size 241 2 (.slice (some ⟨wr.heap.size, 0, none⟩) 1 1) 1 [.int .i64 x0, .int .i64 x1]) := Lib.hid (by
       have := World.ownsRow_lit (base := wr.heap.size) (e := 241) (size := 2) wr #[.int .i64 x0, .int .i64 x1] 1 (Nat.le_refl _) (by decide) rfl
       simpa using this)
      have GR := Lib.hid (groups_below HO.out HBX.out)
      have hBw : B < wr.heap.size := by
       obtain ⟨es, clock, hb, _⟩ := HO.out
       exact (Array.getElem?_eq_some_iff.1 hb).1
      clear hp hq
      go_wp2_with fail
      have hp := HPQ.out.1
      have hq := HPQ.out.2
      refine Reg8.wp_region_mix (m := 9) (z := 10) (C := fun w' => Below (wr.alloc (.cells #[.int .i64 x0, .int .i64 x1] 241)).heap.size (wr.alloc (.cells #[.int .i64 x0, .int .i64 x1] 241)) w') (D := fun u w' => Ap (wr.alloc (.cells #[.int .i64 x0, .int .i64 x1] 241)) B (3 * k + 0) D (p, q) (grp (preI ts k 0) (p, q)) (k : Int) u w')
       (T := fun w' => w'.ownsGroups Tryz.prog 234 (B + 1) 2 .i64 B (3 * k + (0 + 1)) (D.put (kE (p, q)) (.slice (lits .i64 (grp (preI ts k 0) (p, q) ++ [(k : Int)])) [])) ∧ w'.ownsRow cb 190 3 (.slice (some ⟨cb, 0, none⟩) tl tl) tl (flatV ts tl) ∧ Below w.heap.size w w')
       (G := fun w1 w2 => Below w1.heap.size w1 w2)
       (Rv := fun i v => match i with | 0 => v = .map (some B) | 1 => v = .agg #[.int .i64 x0, .int .i64 x1] | 2 => v = .agg #[.int .i64 p, .int .i64 q] | 3 => v = .map (some B) | 4 => v = .agg #[.int .i64 x0, .int .i64 x1] | 5 => v = .agg #[.int .i64 p, .int .i64 q] | 7 => v = .int .i64 (k : Int) | _ => True)
       (Rw := fun i v w' => match i with | 6 => Lk B (3 * k + 0) D (p, q) (grp (preI ts k 0) (p, q)) v w' | 8 => ∃ g, v = .slice (some ⟨g, 0, none⟩) 1 1 ∧ w'.cell? ⟨g, 0, none⟩ = some (.int .i64 (k : Int)) | _ => True) [false, false, false, false, false, false, false, false, false, false, false, false, false, false, false, false, false, false, false, false, false, false, true, true, true, true, true, true, true, true, true, true, false, false, false]
       (by kernel_rfl) (by kernel_rfl) (by kernel_rfl) ?_ (below_drewN (Below.refl _ _) 1) ?_ ?_
      ·intro j v w1 w2 hC hG hR
       match j with
       | 0 => trivial
       | 1 => trivial
       | 2 => trivial
       | 3 => trivial
       | 4 => trivial
       | 5 => trivial
       | 6 => exact hR.below hG
       | 7 => trivial
       | 8 => obtain ⟨g, e, hg⟩ := hR; exact ⟨g, e, cell_below hG hg⟩
       | _ + 9 => trivial
      ·refine ⟨?_, ?_, ?_, ?_, ?_, ?_, ?_, ?_, ?_, ?_, ?_, trivial⟩
       ·refine Reg8.Obl.any (by kernel_rfl) (by kernel_rfl) ?_ ?_
        ·rintro a' w5 HC hx hd K hK
         replace HC := Lib.hid HC
         have t3 : a'.tmps[3]?.getD undef = .map (some B) := Reg.slot_val (hx 3 (by kernel_rfl))
         go_simp
         exact hK _ _ rfl trivial HC.out (Below.refl _ _)
        ·rintro a' w5 u5 hD hx hd K hK
         have HD := Lib.hid hD
         clear hD
         have t3 : a'.tmps[3]?.getD undef = .map (some B) := Reg.slot_val (hx 3 (by kernel_rfl))
         go_simp
         exact hK _ _ rfl HD.out
       ·refine Reg8.Obl.any (by kernel_rfl) (by kernel_rfl) ?_ ?_
        ·rintro a' w5 HC hx hd K hK
         replace HC := Lib.hid HC
         have t7 : a'.tmps[7]?.getD undef = .pointer (some ⟨wr.heap.size, 0, none⟩) := Reg.slot_val (hx 7 (by kernel_rfl))
         have r5 := owns_up BX.out HC.out
         have y0 := cell0_of r5
         have y1 := cell1_of r5
         clear r5
         go_simp
         exact hK _ _ rfl trivial HC.out (Below.refl _ _)
        ·rintro a' w5 u5 hD hx hd K hK
         have HD := Lib.hid hD
         clear hD
         have t7 : a'.tmps[7]?.getD undef = .pointer (some ⟨wr.heap.size, 0, none⟩) := Reg.slot_val (hx 7 (by kernel_rfl))
         have r5 := HD.out.row BX.out (by decide)
         have y0 := cell0_of r5
         have y1 := cell1_of r5
         clear r5
         go_simp
         exact hK _ _ rfl HD.out
       ·refine Reg8.Obl.any (by kernel_rfl) (by kernel_rfl) ?_ ?_
        ·rintro a' w5 HC hx hd K hK
         replace HC := Lib.hid HC
         have t23 : a'.tmps[23]?.getD undef = .agg #[.int .i64 x0, .int .i64 x1] := Reg.slot_val (hd 1 23 (by kernel_rfl) rfl)
         go_simp
         refine (side_edge x0 x1 w5).mono ?_
         rintro en w6 ⟨rfl, hB6⟩
         rw [hp, hq]
         exact hK _ _ rfl trivial (HC.out.trans (hB6.mono HC.out.size)) hB6
        ·rintro a' w5 u5 hD hx hd K hK
         have HD := Lib.hid hD
         clear hD
         have t23 : a'.tmps[23]?.getD undef = .agg #[.int .i64 x0, .int .i64 x1] := Reg.slot_val (hd 1 23 (by kernel_rfl) rfl)
         go_simp
         refine (side_edge x0 x1 w5).mono ?_
         rintro en w6 ⟨rfl, hB6⟩
         rw [hp, hq]
         exact hK _ _ rfl (HD.out.below hB6)
       ·refine Reg8.Obl.early (by kernel_rfl) (by kernel_rfl) (by kernel_rfl) ?_
        rintro a' w5 HC hx hd K hK
        replace HC := Lib.hid HC
        have t3 : a'.tmps[3]?.getD undef = .map (some B) := Reg.slot_val (hx 3 (by kernel_rfl))
        go_simp
        exact hK _ _ rfl trivial HC.out (Below.refl _ _)
       ·refine Reg8.Obl.early (by kernel_rfl) (by kernel_rfl) (by kernel_rfl) ?_
        rintro a' w5 HC hx hd K hK
        replace HC := Lib.hid HC
        have t7 : a'.tmps[7]?.getD undef = .pointer (some ⟨wr.heap.size, 0, none⟩) := Reg.slot_val (hx 7 (by kernel_rfl))
        have r5 := owns_up BX.out HC.out
        have y0 := cell0_of r5
        have y1 := cell1_of r5
        clear r5
        go_simp
        exact hK _ _ rfl trivial HC.out (Below.refl _ _)
       ·refine Reg8.Obl.early (by kernel_rfl) (by kernel_rfl) (by kernel_rfl) ?_
        rintro a' w5 HC hx hd K hK
        replace HC := Lib.hid HC
        have t26 : a'.tmps[26]?.getD undef = .agg #[.int .i64 x0, .int .i64 x1] := Reg.slot_val (hd 4 26 (by kernel_rfl) rfl).1
        go_simp
        refine (side_edge x0 x1 w5).mono ?_
        rintro en w6 ⟨rfl, hB6⟩
        rw [hp, hq]
        exact hK _ _ rfl trivial (HC.out.trans (hB6.mono HC.out.size)) hB6
       ·refine Reg8.Obl.early (by kernel_rfl) (by kernel_rfl) (by kernel_rfl) ?_
        rintro a' w5 HC hx hd K hK
        replace HC := Lib.hid HC
        have t25 : a'.tmps[25]?.getD undef = .map (some B) := Reg.slot_val (hd 3 25 (by kernel_rfl) rfl).1
        have t27 : a'.tmps[27]?.getD undef = .agg #[.int .i64 p, .int .i64 q] := Reg.slot_val (hd 5 27 (by kernel_rfl) rfl).1
        obtain ⟨v5, zs, hrun, hat, hoi, hzl, hback⟩ := (groups_below GR.out HC.out).at edgeKeyed Tryz.underlying229 (by kernel_rfl) (by unfold maxLen; omega) (keyOf_edge wp wq)
        obtain rfl := group_is HF.out wp wq hat hoi
        have LK : Hid (Lk B (3 * k + 0) D (p, q) (grp (preI ts k 0) (p, q)) v5 w5) := Lib.hid ⟨hoi, hzl, hback⟩
        clear hat hoi hzl hback
        go_simp
        exact hK _ _ trivial LK.out HC.out (Below.refl _ _)
       ·refine Reg8.Obl.early (by kernel_rfl) (by kernel_rfl) (by kernel_rfl) ?_
        rintro a' w5 HC hx hd K hK
        replace HC := Lib.hid HC
        have t4 : a'.tmps[4]?.getD undef = .int .i64 (k : Int) := Reg.slot_val (hx 4 (by kernel_rfl))
        go_simp
        exact hK _ _ rfl trivial HC.out (Below.refl _ _)
       ·refine Reg8.Obl.early (by kernel_rfl) (by kernel_rfl) (by kernel_rfl) ?_
        rintro a' w5 HC hx hd K hK
        replace HC := Lib.hid HC
        have t29 : a'.tmps[29]?.getD undef = .int .i64 (k : Int) := Reg.slot_val (hd 7 29 (by kernel_rfl) rfl).1
        have e0 := cell_one_new w5 (.int .i64 (k : Int)) 2 0 _ rfl
        have E0 := Lib.hid e0
        clear e0
        go_simp
        exact hK _ _ trivial ⟨_, rfl, by first | (simp; done) | exact E0.out⟩ (HC.out.alloc HC.out.size _) ((Below.refl _ _).alloc (Nat.le_refl _) _)
       ·refine Reg8.Obl.turn (by kernel_rfl) (by kernel_rfl) ?_
        rintro a' w5 hC hx hd K hK
        have hLK := (hd 6 28 (by kernel_rfl) rfl).2
        obtain ⟨g, t30, hg30⟩ := (hd 8 30 (by kernel_rfl) rfl).2
        have hBw5 : wr.heap.size ≤ w5.heap.size := Nat.le_trans (by simp) hC.size
        refine wp_append_own_at w5 _ _ 33 rfl (B + 1) 2 i0 (.int .i64 0) 1 8 Tryz.underlying33 hi hz0 hz1 hz2 rfl (by decide) _ _ _ rfl hLK.1.1 ⟨g, 0, none⟩ 1 1 [.int .i64 (k : Int)] t30 rfl (fun j u hj => ?_) (fun u hu => by simp at hu; subst hu; rfl) (by have := hLK.2.1; unfold maxLen; omega) (by have := hLK.2.1; omega) (by omega) ?_
        ·match j, hj with
         | 0, hj => simp at hj; subst hj; first | (simp [Addr.add]; done) | (simp [Addr.add]; exact hg30)
         | j + 1, hj => simp at hj
        ·intro v6 w6 ho hgr hloc
         exact hK _ _ trivial ⟨_, w5, hLK, hC, hgr, hLK.1.appended ho wk, hloc.imp id (fun h => ⟨_, h, Nat.le_refl _⟩)⟩
       ·refine Reg8.Obl.store (by kernel_rfl) ?_
        rintro a' w5 u5 hu hD hx hd K hK
        have t22 : a'.tmps[22]?.getD undef = .map (some B) := Reg.slot_val (hd 0 22 rfl)
        have t24 : a'.tmps[24]?.getD undef = .agg #[.int .i64 p, .int .i64 q] := Reg.slot_val (hd 2 24 rfl)
        have t31 : a'.tmps[31]?.getD undef = u5 := Reg.slot_val (hu 31 rfl)
        have HCR5 := Lib.hid (hD.row (owns_up HCR.out HBX.out) (by decide))
        obtain ⟨v5, wl, hLK, hBl, hgr, hoi, hloc⟩ := hD
        obtain ⟨w6, hrun, hG6, hg6⟩ := hLK.2.2 w5 u5 _ hgr hoi (by have := hLK.2.1; simp; omega) hloc
        rw [← hoi.datum_pos (by simp)] at *
        have HT6 : Hid (w6.ownsGroups Tryz.prog 234 (B + 1) 2 .i64 B (3 * k + (0 + 1)) (D.put (kE (p, q)) (rowDatum .i64 u5 (grp (preI ts k 0) (p, q) ++ [(k : Int)]))) ∧ w6.ownsRow cb 190 3 (.slice (some ⟨cb, 0, none⟩) tl tl) tl (flatV ts tl) ∧ Below w.heap.size w w6) := Lib.hid
         ⟨hG6, HCR5.out.kept hg6 (.inr (by simp [Value.ownBlock]; exact hne)), Below.groups ((HB1.out.trans (HBX.out.mono HB1.out.size)).trans (hBl.mono (HB1.out.trans (HBX.out.mono HB1.out.size)).size)) hLK.1 hgr hg6 ((HB1.out.trans (HBX.out.mono HB1.out.size)).trans (hBl.mono (HB1.out.trans (HBX.out.mono HB1.out.size)).size)).size (by omega) hBle⟩
        clear hG6 hg6 hgr hoi hloc hLK hBl
        go_simp
        exact hK _ HT6.out
      ·rintro f w6 ⟨hG6, hC6, hB6⟩ hd
       have HG6 := Lib.hid hG6
       have HC6 := Lib.hid hC6
       have HB6 := Lib.hid hB6
       have HF6 : Hid (GroupsOf (D.put (kE (p, q)) (.slice (lits .i64 (grp (preI ts k 0) (p, q) ++ [(k : Int)])) [])) (preI ts k (0 + 1))) := Lib.hid (by
        rw [preI_step (j := 0) (by decide), HS.out]; exact HF.out.put wp wq)
       clear hG6 hC6 hB6 hd hix hp hq
       simp only [Reg.mixL]
       go_wp2
       go_roundw
       case rel => exact ⟨0 + 1, by omega, by go_num, _, HG6.out, HF6.out, HC6.out, HB6.out⟩
       case measure => simp [intOf]
     ·have hs : (triE (ts.getD k [])).getD 1 (0, 0) = (min x1 x2, max x1 x2) := by
       show eKey ((ts.getD k []).getD 1 0) ((ts.getD k []).getD 2 0) = _
       rw [X1.out, X2.out]; rfl
      have hix : ∀ w, (Instr.index 242 (.agg #[.int .i64 x0, .int .i64 x1, .int .i64 x1, .int .i64 x2, .int .i64 x2, .int .i64 x0]) (.int .i64 1)).run Tryz.prog w = .ok (.agg #[.int .i64 x1, .int .i64 x2]) w := side_ix x0 x1 x1 x2 x2 x0 1 (by decide)
      obtain ⟨p, hp⟩ : ∃ p, min x1 x2 = p := ⟨_, rfl⟩
      obtain ⟨q, hq⟩ : ∃ q, max x1 x2 = q := ⟨_, rfl⟩
      rw [hp, hq] at hs
      have wp : (Lit.int .i64 p).wf = true := WalkArith.wf_i64 (by omega)
      have wq : (Lit.int .i64 q).wf = true := WalkArith.wf_i64 (by omega)
      have HS := Lib.hid hs
      have HPQ := Lib.hid (And.intro hp hq)
      clear hs
      have HBX : Hid (Below wr.heap.size wr (wr.alloc (.cells #[.int .i64 x1, .int .i64 x2] 241))) := Lib.hid ((Below.refl _ _).alloc (Nat.le_refl _) _)
      have BX : Hid ((wr.alloc (.cells #[.int .i64 x1, .int .i64 x2] 241)).ownsRow wr.heap.size 241 2 (.slice (some ⟨wr.heap.size, 0, none⟩) 1 1) 1 [.int .i64 x1, .int .i64 x2]) := Lib.hid (by
       have := World.ownsRow_lit (base := wr.heap.size) (e := 241) (size := 2) wr #[.int .i64 x1, .int .i64 x2] 1 (Nat.le_refl _) (by decide) rfl
       simpa using this)
      have GR := Lib.hid (groups_below HO.out HBX.out)
      have hBw : B < wr.heap.size := by
       obtain ⟨es, clock, hb, _⟩ := HO.out
       exact (Array.getElem?_eq_some_iff.1 hb).1
      clear hp hq
      go_wp2_with fail
      have hp := HPQ.out.1
      have hq := HPQ.out.2
      refine Reg8.wp_region_mix (m := 9) (z := 10) (C := fun w' => Below (wr.alloc (.cells #[.int .i64 x1, .int .i64 x2] 241)).heap.size (wr.alloc (.cells #[.int .i64 x1, .int .i64 x2] 241)) w') (D := fun u w' => Ap (wr.alloc (.cells #[.int .i64 x1, .int .i64 x2] 241)) B (3 * k + 1) D (p, q) (grp (preI ts k 1) (p, q)) (k : Int) u w')
       (T := fun w' => w'.ownsGroups Tryz.prog 234 (B + 1) 2 .i64 B (3 * k + (1 + 1)) (D.put (kE (p, q)) (.slice (lits .i64 (grp (preI ts k 1) (p, q) ++ [(k : Int)])) [])) ∧ w'.ownsRow cb 190 3 (.slice (some ⟨cb, 0, none⟩) tl tl) tl (flatV ts tl) ∧ Below w.heap.size w w')
       (G := fun w1 w2 => Below w1.heap.size w1 w2)
       (Rv := fun i v => match i with | 0 => v = .map (some B) | 1 => v = .agg #[.int .i64 x1, .int .i64 x2] | 2 => v = .agg #[.int .i64 p, .int .i64 q] | 3 => v = .map (some B) | 4 => v = .agg #[.int .i64 x1, .int .i64 x2] | 5 => v = .agg #[.int .i64 p, .int .i64 q] | 7 => v = .int .i64 (k : Int) | _ => True)
       (Rw := fun i v w' => match i with | 6 => Lk B (3 * k + 1) D (p, q) (grp (preI ts k 1) (p, q)) v w' | 8 => ∃ g, v = .slice (some ⟨g, 0, none⟩) 1 1 ∧ w'.cell? ⟨g, 0, none⟩ = some (.int .i64 (k : Int)) | _ => True) [false, false, false, false, false, false, false, false, false, false, false, false, false, false, false, false, false, false, false, false, false, false, true, true, true, true, true, true, true, true, true, true, false, false, false]
       (by kernel_rfl) (by kernel_rfl) (by kernel_rfl) ?_ (below_drewN (Below.refl _ _) 1) ?_ ?_
      ·intro j v w1 w2 hC hG hR
       match j with
       | 0 => trivial
       | 1 => trivial
       | 2 => trivial
       | 3 => trivial
       | 4 => trivial
       | 5 => trivial
       | 6 => exact hR.below hG
       | 7 => trivial
       | 8 => obtain ⟨g, e, hg⟩ := hR; exact ⟨g, e, cell_below hG hg⟩
       | _ + 9 => trivial
      ·refine ⟨?_, ?_, ?_, ?_, ?_, ?_, ?_, ?_, ?_, ?_, ?_, trivial⟩
       ·refine Reg8.Obl.any (by kernel_rfl) (by kernel_rfl) ?_ ?_
        ·rintro a' w5 HC hx hd K hK
         replace HC := Lib.hid HC
         have t3 : a'.tmps[3]?.getD undef = .map (some B) := Reg.slot_val (hx 3 (by kernel_rfl))
         go_simp
         exact hK _ _ rfl trivial HC.out (Below.refl _ _)
        ·rintro a' w5 u5 hD hx hd K hK
         have HD := Lib.hid hD
         clear hD
         have t3 : a'.tmps[3]?.getD undef = .map (some B) := Reg.slot_val (hx 3 (by kernel_rfl))
         go_simp
         exact hK _ _ rfl HD.out
       ·refine Reg8.Obl.any (by kernel_rfl) (by kernel_rfl) ?_ ?_
        ·rintro a' w5 HC hx hd K hK
         replace HC := Lib.hid HC
         have t7 : a'.tmps[7]?.getD undef = .pointer (some ⟨wr.heap.size, 0, none⟩) := Reg.slot_val (hx 7 (by kernel_rfl))
         have r5 := owns_up BX.out HC.out
         have y0 := cell0_of r5
         have y1 := cell1_of r5
         clear r5
         go_simp
         exact hK _ _ rfl trivial HC.out (Below.refl _ _)
        ·rintro a' w5 u5 hD hx hd K hK
         have HD := Lib.hid hD
         clear hD
         have t7 : a'.tmps[7]?.getD undef = .pointer (some ⟨wr.heap.size, 0, none⟩) := Reg.slot_val (hx 7 (by kernel_rfl))
         have r5 := HD.out.row BX.out (by decide)
         have y0 := cell0_of r5
         have y1 := cell1_of r5
         clear r5
         go_simp
         exact hK _ _ rfl HD.out
       ·refine Reg8.Obl.any (by kernel_rfl) (by kernel_rfl) ?_ ?_
        ·rintro a' w5 HC hx hd K hK
         replace HC := Lib.hid HC
         have t23 : a'.tmps[23]?.getD undef = .agg #[.int .i64 x1, .int .i64 x2] := Reg.slot_val (hd 1 23 (by kernel_rfl) rfl)
         go_simp
         refine (side_edge x1 x2 w5).mono ?_
         rintro en w6 ⟨rfl, hB6⟩
         rw [hp, hq]
         exact hK _ _ rfl trivial (HC.out.trans (hB6.mono HC.out.size)) hB6
        ·rintro a' w5 u5 hD hx hd K hK
         have HD := Lib.hid hD
         clear hD
         have t23 : a'.tmps[23]?.getD undef = .agg #[.int .i64 x1, .int .i64 x2] := Reg.slot_val (hd 1 23 (by kernel_rfl) rfl)
         go_simp
         refine (side_edge x1 x2 w5).mono ?_
         rintro en w6 ⟨rfl, hB6⟩
         rw [hp, hq]
         exact hK _ _ rfl (HD.out.below hB6)
       ·refine Reg8.Obl.early (by kernel_rfl) (by kernel_rfl) (by kernel_rfl) ?_
        rintro a' w5 HC hx hd K hK
        replace HC := Lib.hid HC
        have t3 : a'.tmps[3]?.getD undef = .map (some B) := Reg.slot_val (hx 3 (by kernel_rfl))
        go_simp
        exact hK _ _ rfl trivial HC.out (Below.refl _ _)
       ·refine Reg8.Obl.early (by kernel_rfl) (by kernel_rfl) (by kernel_rfl) ?_
        rintro a' w5 HC hx hd K hK
        replace HC := Lib.hid HC
        have t7 : a'.tmps[7]?.getD undef = .pointer (some ⟨wr.heap.size, 0, none⟩) := Reg.slot_val (hx 7 (by kernel_rfl))
        have r5 := owns_up BX.out HC.out
        have y0 := cell0_of r5
        have y1 := cell1_of r5
        clear r5
        go_simp
        exact hK _ _ rfl trivial HC.out (Below.refl _ _)
       ·refine Reg8.Obl.early (by kernel_rfl) (by kernel_rfl) (by kernel_rfl) ?_
        rintro a' w5 HC hx hd K hK
        replace HC := Lib.hid HC
        have t26 : a'.tmps[26]?.getD undef = .agg #[.int .i64 x1, .int .i64 x2] := Reg.slot_val (hd 4 26 (by kernel_rfl) rfl).1
        go_simp
        refine (side_edge x1 x2 w5).mono ?_
        rintro en w6 ⟨rfl, hB6⟩
        rw [hp, hq]
        exact hK _ _ rfl trivial (HC.out.trans (hB6.mono HC.out.size)) hB6
       ·refine Reg8.Obl.early (by kernel_rfl) (by kernel_rfl) (by kernel_rfl) ?_
        rintro a' w5 HC hx hd K hK
        replace HC := Lib.hid HC
        have t25 : a'.tmps[25]?.getD undef = .map (some B) := Reg.slot_val (hd 3 25 (by kernel_rfl) rfl).1
        have t27 : a'.tmps[27]?.getD undef = .agg #[.int .i64 p, .int .i64 q] := Reg.slot_val (hd 5 27 (by kernel_rfl) rfl).1
        obtain ⟨v5, zs, hrun, hat, hoi, hzl, hback⟩ := (groups_below GR.out HC.out).at edgeKeyed Tryz.underlying229 (by kernel_rfl) (by unfold maxLen; omega) (keyOf_edge wp wq)
        obtain rfl := group_is HF.out wp wq hat hoi
        have LK : Hid (Lk B (3 * k + 1) D (p, q) (grp (preI ts k 1) (p, q)) v5 w5) := Lib.hid ⟨hoi, hzl, hback⟩
        clear hat hoi hzl hback
        go_simp
        exact hK _ _ trivial LK.out HC.out (Below.refl _ _)
       ·refine Reg8.Obl.early (by kernel_rfl) (by kernel_rfl) (by kernel_rfl) ?_
        rintro a' w5 HC hx hd K hK
        replace HC := Lib.hid HC
        have t4 : a'.tmps[4]?.getD undef = .int .i64 (k : Int) := Reg.slot_val (hx 4 (by kernel_rfl))
        go_simp
        exact hK _ _ rfl trivial HC.out (Below.refl _ _)
       ·refine Reg8.Obl.early (by kernel_rfl) (by kernel_rfl) (by kernel_rfl) ?_
        rintro a' w5 HC hx hd K hK
        replace HC := Lib.hid HC
        have t29 : a'.tmps[29]?.getD undef = .int .i64 (k : Int) := Reg.slot_val (hd 7 29 (by kernel_rfl) rfl).1
        have e0 := cell_one_new w5 (.int .i64 (k : Int)) 2 0 _ rfl
        have E0 := Lib.hid e0
        clear e0
        go_simp
        exact hK _ _ trivial ⟨_, rfl, by first | (simp; done) | exact E0.out⟩ (HC.out.alloc HC.out.size _) ((Below.refl _ _).alloc (Nat.le_refl _) _)
       ·refine Reg8.Obl.turn (by kernel_rfl) (by kernel_rfl) ?_
        rintro a' w5 hC hx hd K hK
        have hLK := (hd 6 28 (by kernel_rfl) rfl).2
        obtain ⟨g, t30, hg30⟩ := (hd 8 30 (by kernel_rfl) rfl).2
        have hBw5 : wr.heap.size ≤ w5.heap.size := Nat.le_trans (by simp) hC.size
        refine wp_append_own_at w5 _ _ 33 rfl (B + 1) 2 i0 (.int .i64 0) 1 8 Tryz.underlying33 hi hz0 hz1 hz2 rfl (by decide) _ _ _ rfl hLK.1.1 ⟨g, 0, none⟩ 1 1 [.int .i64 (k : Int)] t30 rfl (fun j u hj => ?_) (fun u hu => by simp at hu; subst hu; rfl) (by have := hLK.2.1; unfold maxLen; omega) (by have := hLK.2.1; omega) (by omega) ?_
        ·match j, hj with
         | 0, hj => simp at hj; subst hj; first | (simp [Addr.add]; done) | (simp [Addr.add]; exact hg30)
         | j + 1, hj => simp at hj
        ·intro v6 w6 ho hgr hloc
         exact hK _ _ trivial ⟨_, w5, hLK, hC, hgr, hLK.1.appended ho wk, hloc.imp id (fun h => ⟨_, h, Nat.le_refl _⟩)⟩
       ·refine Reg8.Obl.store (by kernel_rfl) ?_
        rintro a' w5 u5 hu hD hx hd K hK
        have t22 : a'.tmps[22]?.getD undef = .map (some B) := Reg.slot_val (hd 0 22 rfl)
        have t24 : a'.tmps[24]?.getD undef = .agg #[.int .i64 p, .int .i64 q] := Reg.slot_val (hd 2 24 rfl)
        have t31 : a'.tmps[31]?.getD undef = u5 := Reg.slot_val (hu 31 rfl)
        have HCR5 := Lib.hid (hD.row (owns_up HCR.out HBX.out) (by decide))
        obtain ⟨v5, wl, hLK, hBl, hgr, hoi, hloc⟩ := hD
        obtain ⟨w6, hrun, hG6, hg6⟩ := hLK.2.2 w5 u5 _ hgr hoi (by have := hLK.2.1; simp; omega) hloc
        rw [← hoi.datum_pos (by simp)] at *
        have HT6 : Hid (w6.ownsGroups Tryz.prog 234 (B + 1) 2 .i64 B (3 * k + (1 + 1)) (D.put (kE (p, q)) (rowDatum .i64 u5 (grp (preI ts k 1) (p, q) ++ [(k : Int)]))) ∧ w6.ownsRow cb 190 3 (.slice (some ⟨cb, 0, none⟩) tl tl) tl (flatV ts tl) ∧ Below w.heap.size w w6) := Lib.hid
         ⟨hG6, HCR5.out.kept hg6 (.inr (by simp [Value.ownBlock]; exact hne)), Below.groups ((HB1.out.trans (HBX.out.mono HB1.out.size)).trans (hBl.mono (HB1.out.trans (HBX.out.mono HB1.out.size)).size)) hLK.1 hgr hg6 ((HB1.out.trans (HBX.out.mono HB1.out.size)).trans (hBl.mono (HB1.out.trans (HBX.out.mono HB1.out.size)).size)).size (by omega) hBle⟩
        clear hG6 hg6 hgr hoi hloc hLK hBl
        go_simp
        exact hK _ HT6.out
      ·rintro f w6 ⟨hG6, hC6, hB6⟩ hd
       have HG6 := Lib.hid hG6
       have HC6 := Lib.hid hC6
       have HB6 := Lib.hid hB6
       have HF6 : Hid (GroupsOf (D.put (kE (p, q)) (.slice (lits .i64 (grp (preI ts k 1) (p, q) ++ [(k : Int)])) [])) (preI ts k (1 + 1))) := Lib.hid (by
        rw [preI_step (j := 1) (by decide), HS.out]; exact HF.out.put wp wq)
       clear hG6 hC6 hB6 hd hix hp hq
       simp only [Reg.mixL]
       go_wp2
       go_roundw
       case rel => exact ⟨1 + 1, by omega, by go_num, _, HG6.out, HF6.out, HC6.out, HB6.out⟩
       case measure => simp [intOf]
     ·have hs : (triE (ts.getD k [])).getD 2 (0, 0) = (min x2 x0, max x2 x0) := by
       show eKey ((ts.getD k []).getD 2 0) ((ts.getD k []).getD 0 0) = _
       rw [X2.out, X0.out]; rfl
      have hix : ∀ w, (Instr.index 242 (.agg #[.int .i64 x0, .int .i64 x1, .int .i64 x1, .int .i64 x2, .int .i64 x2, .int .i64 x0]) (.int .i64 2)).run Tryz.prog w = .ok (.agg #[.int .i64 x2, .int .i64 x0]) w := side_ix x0 x1 x1 x2 x2 x0 2 (by decide)
      obtain ⟨p, hp⟩ : ∃ p, min x2 x0 = p := ⟨_, rfl⟩
      obtain ⟨q, hq⟩ : ∃ q, max x2 x0 = q := ⟨_, rfl⟩
      rw [hp, hq] at hs
      have wp : (Lit.int .i64 p).wf = true := WalkArith.wf_i64 (by omega)
      have wq : (Lit.int .i64 q).wf = true := WalkArith.wf_i64 (by omega)
      have HS := Lib.hid hs
      have HPQ := Lib.hid (And.intro hp hq)
      clear hs
      have HBX : Hid (Below wr.heap.size wr (wr.alloc (.cells #[.int .i64 x2, .int .i64 x0] 241))) := Lib.hid ((Below.refl _ _).alloc (Nat.le_refl _) _)
      have BX : Hid ((wr.alloc (.cells #[.int .i64 x2, .int .i64 x0] 241)).ownsRow wr.heap.size 241 2 (.slice (some ⟨wr.heap.size, 0, none⟩) 1 1) 1 [.int .i64 x2, .int .i64 x0]) := Lib.hid (by
       have := World.ownsRow_lit (base := wr.heap.size) (e := 241) (size := 2) wr #[.int .i64 x2, .int .i64 x0] 1 (Nat.le_refl _) (by decide) rfl
       simpa using this)
      have GR := Lib.hid (groups_below HO.out HBX.out)
      have hBw : B < wr.heap.size := by
       obtain ⟨es, clock, hb, _⟩ := HO.out
       exact (Array.getElem?_eq_some_iff.1 hb).1
      clear hp hq
      go_wp2_with fail
      have hp := HPQ.out.1
      have hq := HPQ.out.2
      refine Reg8.wp_region_mix (m := 9) (z := 10) (C := fun w' => Below (wr.alloc (.cells #[.int .i64 x2, .int .i64 x0] 241)).heap.size (wr.alloc (.cells #[.int .i64 x2, .int .i64 x0] 241)) w') (D := fun u w' => Ap (wr.alloc (.cells #[.int .i64 x2, .int .i64 x0] 241)) B (3 * k + 2) D (p, q) (grp (preI ts k 2) (p, q)) (k : Int) u w')
       (T := fun w' => w'.ownsGroups Tryz.prog 234 (B + 1) 2 .i64 B (3 * k + (2 + 1)) (D.put (kE (p, q)) (.slice (lits .i64 (grp (preI ts k 2) (p, q) ++ [(k : Int)])) [])) ∧ w'.ownsRow cb 190 3 (.slice (some ⟨cb, 0, none⟩) tl tl) tl (flatV ts tl) ∧ Below w.heap.size w w')
       (G := fun w1 w2 => Below w1.heap.size w1 w2)
       (Rv := fun i v => match i with | 0 => v = .map (some B) | 1 => v = .agg #[.int .i64 x2, .int .i64 x0] | 2 => v = .agg #[.int .i64 p, .int .i64 q] | 3 => v = .map (some B) | 4 => v = .agg #[.int .i64 x2, .int .i64 x0] | 5 => v = .agg #[.int .i64 p, .int .i64 q] | 7 => v = .int .i64 (k : Int) | _ => True)
       (Rw := fun i v w' => match i with | 6 => Lk B (3 * k + 2) D (p, q) (grp (preI ts k 2) (p, q)) v w' | 8 => ∃ g, v = .slice (some ⟨g, 0, none⟩) 1 1 ∧ w'.cell? ⟨g, 0, none⟩ = some (.int .i64 (k : Int)) | _ => True) [false, false, false, false, false, false, false, false, false, false, false, false, false, false, false, false, false, false, false, false, false, false, true, true, true, true, true, true, true, true, true, true, false, false, false]
       (by kernel_rfl) (by kernel_rfl) (by kernel_rfl) ?_ (below_drewN (Below.refl _ _) 1) ?_ ?_
      ·intro j v w1 w2 hC hG hR
       match j with
       | 0 => trivial
       | 1 => trivial
       | 2 => trivial
       | 3 => trivial
       | 4 => trivial
       | 5 => trivial
       | 6 => exact hR.below hG
       | 7 => trivial
       | 8 => obtain ⟨g, e, hg⟩ := hR; exact ⟨g, e, cell_below hG hg⟩
       | _ + 9 => trivial
      ·refine ⟨?_, ?_, ?_, ?_, ?_, ?_, ?_, ?_, ?_, ?_, ?_, trivial⟩
       ·refine Reg8.Obl.any (by kernel_rfl) (by kernel_rfl) ?_ ?_
        ·rintro a' w5 HC hx hd K hK
         replace HC := Lib.hid HC
         have t3 : a'.tmps[3]?.getD undef = .map (some B) := Reg.slot_val (hx 3 (by kernel_rfl))
         go_simp
         exact hK _ _ rfl trivial HC.out (Below.refl _ _)
        ·rintro a' w5 u5 hD hx hd K hK
         have HD := Lib.hid hD
         clear hD
         have t3 : a'.tmps[3]?.getD undef = .map (some B) := Reg.slot_val (hx 3 (by kernel_rfl))
         go_simp
         exact hK _ _ rfl HD.out
       ·refine Reg8.Obl.any (by kernel_rfl) (by kernel_rfl) ?_ ?_
        ·rintro a' w5 HC hx hd K hK
         replace HC := Lib.hid HC
         have t7 : a'.tmps[7]?.getD undef = .pointer (some ⟨wr.heap.size, 0, none⟩) := Reg.slot_val (hx 7 (by kernel_rfl))
         have r5 := owns_up BX.out HC.out
         have y0 := cell0_of r5
         have y1 := cell1_of r5
         clear r5
         go_simp
         exact hK _ _ rfl trivial HC.out (Below.refl _ _)
        ·rintro a' w5 u5 hD hx hd K hK
         have HD := Lib.hid hD
         clear hD
         have t7 : a'.tmps[7]?.getD undef = .pointer (some ⟨wr.heap.size, 0, none⟩) := Reg.slot_val (hx 7 (by kernel_rfl))
         have r5 := HD.out.row BX.out (by decide)
         have y0 := cell0_of r5
         have y1 := cell1_of r5
         clear r5
         go_simp
         exact hK _ _ rfl HD.out
       ·refine Reg8.Obl.any (by kernel_rfl) (by kernel_rfl) ?_ ?_
        ·rintro a' w5 HC hx hd K hK
         replace HC := Lib.hid HC
         have t23 : a'.tmps[23]?.getD undef = .agg #[.int .i64 x2, .int .i64 x0] := Reg.slot_val (hd 1 23 (by kernel_rfl) rfl)
         go_simp
         refine (side_edge x2 x0 w5).mono ?_
         rintro en w6 ⟨rfl, hB6⟩
         rw [hp, hq]
         exact hK _ _ rfl trivial (HC.out.trans (hB6.mono HC.out.size)) hB6
        ·rintro a' w5 u5 hD hx hd K hK
         have HD := Lib.hid hD
         clear hD
         have t23 : a'.tmps[23]?.getD undef = .agg #[.int .i64 x2, .int .i64 x0] := Reg.slot_val (hd 1 23 (by kernel_rfl) rfl)
         go_simp
         refine (side_edge x2 x0 w5).mono ?_
         rintro en w6 ⟨rfl, hB6⟩
         rw [hp, hq]
         exact hK _ _ rfl (HD.out.below hB6)
       ·refine Reg8.Obl.early (by kernel_rfl) (by kernel_rfl) (by kernel_rfl) ?_
        rintro a' w5 HC hx hd K hK
        replace HC := Lib.hid HC
        have t3 : a'.tmps[3]?.getD undef = .map (some B) := Reg.slot_val (hx 3 (by kernel_rfl))
        go_simp
        exact hK _ _ rfl trivial HC.out (Below.refl _ _)
       ·refine Reg8.Obl.early (by kernel_rfl) (by kernel_rfl) (by kernel_rfl) ?_
        rintro a' w5 HC hx hd K hK
        replace HC := Lib.hid HC
        have t7 : a'.tmps[7]?.getD undef = .pointer (some ⟨wr.heap.size, 0, none⟩) := Reg.slot_val (hx 7 (by kernel_rfl))
        have r5 := owns_up BX.out HC.out
        have y0 := cell0_of r5
        have y1 := cell1_of r5
        clear r5
        go_simp
        exact hK _ _ rfl trivial HC.out (Below.refl _ _)
       ·refine Reg8.Obl.early (by kernel_rfl) (by kernel_rfl) (by kernel_rfl) ?_
        rintro a' w5 HC hx hd K hK
        replace HC := Lib.hid HC
        have t26 : a'.tmps[26]?.getD undef = .agg #[.int .i64 x2, .int .i64 x0] := Reg.slot_val (hd 4 26 (by kernel_rfl) rfl).1
        go_simp
        refine (side_edge x2 x0 w5).mono ?_
        rintro en w6 ⟨rfl, hB6⟩
        rw [hp, hq]
        exact hK _ _ rfl trivial (HC.out.trans (hB6.mono HC.out.size)) hB6
       ·refine Reg8.Obl.early (by kernel_rfl) (by kernel_rfl) (by kernel_rfl) ?_
        rintro a' w5 HC hx hd K hK
        replace HC := Lib.hid HC
        have t25 : a'.tmps[25]?.getD undef = .map (some B) := Reg.slot_val (hd 3 25 (by kernel_rfl) rfl).1
        have t27 : a'.tmps[27]?.getD undef = .agg #[.int .i64 p, .int .i64 q] := Reg.slot_val (hd 5 27 (by kernel_rfl) rfl).1
        obtain ⟨v5, zs, hrun, hat, hoi, hzl, hback⟩ := (groups_below GR.out HC.out).at edgeKeyed Tryz.underlying229 (by kernel_rfl) (by unfold maxLen; omega) (keyOf_edge wp wq)
        obtain rfl := group_is HF.out wp wq hat hoi
        have LK : Hid (Lk B (3 * k + 2) D (p, q) (grp (preI ts k 2) (p, q)) v5 w5) := Lib.hid ⟨hoi, hzl, hback⟩
        clear hat hoi hzl hback
        go_simp
        exact hK _ _ trivial LK.out HC.out (Below.refl _ _)
       ·refine Reg8.Obl.early (by kernel_rfl) (by kernel_rfl) (by kernel_rfl) ?_
        rintro a' w5 HC hx hd K hK
        replace HC := Lib.hid HC
        have t4 : a'.tmps[4]?.getD undef = .int .i64 (k : Int) := Reg.slot_val (hx 4 (by kernel_rfl))
        go_simp
        exact hK _ _ rfl trivial HC.out (Below.refl _ _)
       ·refine Reg8.Obl.early (by kernel_rfl) (by kernel_rfl) (by kernel_rfl) ?_
        rintro a' w5 HC hx hd K hK
        replace HC := Lib.hid HC
        have t29 : a'.tmps[29]?.getD undef = .int .i64 (k : Int) := Reg.slot_val (hd 7 29 (by kernel_rfl) rfl).1
        have e0 := cell_one_new w5 (.int .i64 (k : Int)) 2 0 _ rfl
        have E0 := Lib.hid e0
        clear e0
        go_simp
        exact hK _ _ trivial ⟨_, rfl, by first | (simp; done) | exact E0.out⟩ (HC.out.alloc HC.out.size _) ((Below.refl _ _).alloc (Nat.le_refl _) _)
       ·refine Reg8.Obl.turn (by kernel_rfl) (by kernel_rfl) ?_
        rintro a' w5 hC hx hd K hK
        have hLK := (hd 6 28 (by kernel_rfl) rfl).2
        obtain ⟨g, t30, hg30⟩ := (hd 8 30 (by kernel_rfl) rfl).2
        have hBw5 : wr.heap.size ≤ w5.heap.size := Nat.le_trans (by simp) hC.size
        refine wp_append_own_at w5 _ _ 33 rfl (B + 1) 2 i0 (.int .i64 0) 1 8 Tryz.underlying33 hi hz0 hz1 hz2 rfl (by decide) _ _ _ rfl hLK.1.1 ⟨g, 0, none⟩ 1 1 [.int .i64 (k : Int)] t30 rfl (fun j u hj => ?_) (fun u hu => by simp at hu; subst hu; rfl) (by have := hLK.2.1; unfold maxLen; omega) (by have := hLK.2.1; omega) (by omega) ?_
        ·match j, hj with
         | 0, hj => simp at hj; subst hj; first | (simp [Addr.add]; done) | (simp [Addr.add]; exact hg30)
         | j + 1, hj => simp at hj
        ·intro v6 w6 ho hgr hloc
         exact hK _ _ trivial ⟨_, w5, hLK, hC, hgr, hLK.1.appended ho wk, hloc.imp id (fun h => ⟨_, h, Nat.le_refl _⟩)⟩
       ·refine Reg8.Obl.store (by kernel_rfl) ?_
        rintro a' w5 u5 hu hD hx hd K hK
        have t22 : a'.tmps[22]?.getD undef = .map (some B) := Reg.slot_val (hd 0 22 rfl)
        have t24 : a'.tmps[24]?.getD undef = .agg #[.int .i64 p, .int .i64 q] := Reg.slot_val (hd 2 24 rfl)
        have t31 : a'.tmps[31]?.getD undef = u5 := Reg.slot_val (hu 31 rfl)
        have HCR5 := Lib.hid (hD.row (owns_up HCR.out HBX.out) (by decide))
        obtain ⟨v5, wl, hLK, hBl, hgr, hoi, hloc⟩ := hD
        obtain ⟨w6, hrun, hG6, hg6⟩ := hLK.2.2 w5 u5 _ hgr hoi (by have := hLK.2.1; simp; omega) hloc
        rw [← hoi.datum_pos (by simp)] at *
        have HT6 : Hid (w6.ownsGroups Tryz.prog 234 (B + 1) 2 .i64 B (3 * k + (2 + 1)) (D.put (kE (p, q)) (rowDatum .i64 u5 (grp (preI ts k 2) (p, q) ++ [(k : Int)]))) ∧ w6.ownsRow cb 190 3 (.slice (some ⟨cb, 0, none⟩) tl tl) tl (flatV ts tl) ∧ Below w.heap.size w w6) := Lib.hid
         ⟨hG6, HCR5.out.kept hg6 (.inr (by simp [Value.ownBlock]; exact hne)), Below.groups ((HB1.out.trans (HBX.out.mono HB1.out.size)).trans (hBl.mono (HB1.out.trans (HBX.out.mono HB1.out.size)).size)) hLK.1 hgr hg6 ((HB1.out.trans (HBX.out.mono HB1.out.size)).trans (hBl.mono (HB1.out.trans (HBX.out.mono HB1.out.size)).size)).size (by omega) hBle⟩
        clear hG6 hg6 hgr hoi hloc hLK hBl
        go_simp
        exact hK _ HT6.out
      ·rintro f w6 ⟨hG6, hC6, hB6⟩ hd
       have HG6 := Lib.hid hG6
       have HC6 := Lib.hid hC6
       have HB6 := Lib.hid hB6
       have HF6 : Hid (GroupsOf (D.put (kE (p, q)) (.slice (lits .i64 (grp (preI ts k 2) (p, q) ++ [(k : Int)])) [])) (preI ts k (2 + 1))) := Lib.hid (by
        rw [preI_step (j := 2) (by decide), HS.out]; exact HF.out.put wp wq)
       clear hG6 hC6 hB6 hd hix hp hq
       simp only [Reg.mixL]
       go_wp2
       go_roundw
       case rel => exact ⟨2 + 1, by omega, by go_num, _, HG6.out, HF6.out, HC6.out, HB6.out⟩
       case measure => simp [intOf]
    ·obtain rfl : j = 3 := by omega
     have hf := HF.out
     rw [preI_next] at hf
     have HF1 := Lib.hid hf
     clear hf
     go_wp2
     go_roundw
     case rel => exact ⟨k + 1, by omega, by go_num, D, HO.out, HF1.out, HCR.out, HB1.out⟩
     case measure => simp [intOf]; omega
  ·obtain rfl : k = tl := by omega
   have HE := Lib.hid (And.intro hO (And.intro hF hB))
   clear hA hO hF hCR hB
   go_wp2
   go_ret
   exact ⟨B, D0, rfl, Nat.le_trans (Nat.le_of_lt_succ (by omega)) (Nat.le_refl B), HE.out.1, HE.out.2.1, HE.out.2.2⟩
end Go.Proofs.YtabccmobmppdnaaGreat

/-
Texts in one: what FreeForces stands on, part 34. Conditions: those of each.
-/
import Derived.Test.YtcgnmnbjgamedabGreatKFreeForces33

/-
The free forces: what the program and the model return. Conditions: the body and the held places lie in memory.
-/
namespace Go.Proofs.YtcgnmnbjgamedabGreat
open Go Fk Go.RowKit
set_option linter.unusedVariables false
set_option maxRecDepth 16000

set_option maxHeartbeats 4000000 in
theorem impl_FreeForces (B : Bd) (c : Bc) (a : Option Addr) (len cap : Nat) (L : List Int) (w : World) (h : IsB w B c) (hL : IsIs w a len cap L) :
    Calls Tryz.prog 20 #[B.v, .slice a len cap] w fun e w' => ∃ v, e = .returned (.tuple #[v, .bool (heldB c L)]) ∧ RV w.heap.size w' v (freT c L) ∧ Below w.heap.size w w' := by
  have uib := Tryz.underlying42
  have uim := Tryz.underlying38
  have uh := Tryz.underlying86
  have BX : Hid (Bx w [(w.heap.size, B.l)] (w.alloc (BoxB B 42))) := Lib.hid ((Bx.nil w).box (vs := B.l) (t := 42))
  have H := Lib.hid h
  have HL := Lib.hid hL
  cases hh : heldB c L
  · have he : freT c L = [] := by unfold freT; rw [hh]; rfl
    rw [he]
    have J := Lib.hid (fun w1 h1 h2 => holdBody_no B c a len cap L w1 h1 h2 hh)
    clear h hL hh he
    go_enter Tryz.func20, Tryz.ntmps20
    go_wp2_with fail
    change Calls _ _ _ (w.alloc (BoxB B 42)) _
    generalize (w.alloc (BoxB B 42)) = W at *
    refine (J.out W (H.out.below BX.out.bel) (HL.out.below BX.out.bel)).mono ?_
    rintro e w1 ⟨rfl, hB1⟩
    have BX1 := Lib.hid (BX.out.call hB1)
    clear hB1
    go_wp2
    go_ret2
    exact ⟨_, rfl, RV.nil _ _, (BX1.out.box (vs := Z11) (t := 86)).bel⟩
  · have hh2 := hh
    unfold heldB at hh2
    simp only [Bool.and_eq_true] at hh2
    obtain ⟨hb, hr⟩ := hh2
    have hpl : c.cs.length = B.pl := h.1.1
    have he : freT c L = stillF (addsF c.cs (List.replicate B.pl (some 0, some 0, some 0)) (ens c)) L := by unfold freT; rw [hh, hpl]; rfl
    rw [he]
    rw [hpl] at hr
    have J := Lib.hid (fun w1 h1 h2 => holdBody_yes B c a len cap L w1 h1 h2 hh)
    have JF := Lib.hid (fun w1 la lc h1 h2 h3 => impl_forcesAt B c a la len cap lc L w1 h1 h2 hb hpl h3 hr)
    clear h hL hh he hb hr hpl
    generalize stillF (addsF c.cs (List.replicate B.pl (some 0, some 0, some 0)) (ens c)) L = X at *
    generalize ens c = es at *
    go_enter Tryz.func20, Tryz.ntmps20
    go_wp2_with fail
    change Calls _ _ _ (w.alloc (BoxB B 42)) _
    generalize (w.alloc (BoxB B 42)) = W at *
    refine (J.out W (H.out.below BX.out.bel) (HL.out.below BX.out.bel)).mono ?_
    rintro e w1 ⟨la, lc, rfl, hE, hB1⟩
    have BX1 := Lib.hid (BX.out.call hB1)
    have BX2 := Lib.hid (BX1.out.box (vs := HbL B a la len cap es.length lc) (t := 86))
    have HE : Hid (∀ w2, Below w1.heap.size w1 w2 → EnS w2 la es) := Lib.hid (fun w2 h2 => hE.below h2)
    have hX : Below w1.heap.size w1 (w1.alloc (.cells (HbL B a la len cap es.length lc).toArray 86)) := (Below.refl _ _).alloc (Nat.le_refl _) _
    have HE2 := Lib.hid (hE.below hX)
    clear hB1 hE hX HE
    have b0 := (BX1.out.mem (.head _)) 0 _ rfl
    have hlt := World.block_lt_of_cell? _ _ b0
    go_wp2_with fail
    clear b0 hlt
    change Calls _ _ _ (w1.alloc (.cells (HbL B a la len cap es.length lc).toArray 86)) _
    generalize (w1.alloc (.cells (HbL B a la len cap es.length lc).toArray 86)) = W2 at *
    refine (JF.out W2 la lc (H.out.below BX2.out.bel).1 HE2.out (HL.out.below BX2.out.bel)).mono ?_
    rintro e w3 ⟨v, rfl, hv, hB3⟩
    have HV := Lib.hid (hv.lowF BX2.out.bel.size)
    have BX3 := Lib.hid (BX2.out.call hB3)
    clear hv hB3
    go_wp2
    go_ret2
    exact ⟨v, rfl, HV.out, BX3.out.bel⟩
end Go.Proofs.YtcgnmnbjgamedabGreat

/-
The free forces: what the model returns. Conditions: the body and the held places lie in memory.
-/
namespace Go.Proofs.YtcgnmnbjgamedabGreat
open Go Fk Go.RowKit
set_option linter.unusedVariables false
set_option maxRecDepth 16000

set_option maxHeartbeats 4000000 in
theorem l05Free (pb : Nat) (B : Bd) (c : Bc) (ha : Option Addr) (hl hc : Nat) (L : List Int) (w : World) (A : At w pb B.l) (h : IsB w B c) (hb : bodyB c = true) (hL : IsIs w ha hl hc L) (hr : riseB B.pl L = true) :
    Calls Tryz.prog 52 #[.pointer (some ⟨pb, 0, none⟩), .slice ha hl hc] w fun e w' => ∃ v, e = .returned v ∧ RV w.heap.size w' v (stillF (addsF c.cs (List.replicate B.pl (some 0, some 0, some 0)) (ens c)) L) ∧ Below w.heap.size w w' := by
  have uv := Tryz.underlying40
  have hll := hL.1
  have hm : hl ≤ 9223372036854775807 := by have h1 := hL.2.1; have h2 := hL.2.2.1; unfold maxLen at h2; omega
  have HPL : Hid (B.pl ≤ 64) := Lib.hid (by have h1 := (valid_pl (body_valid hb).1).1; have h2 : c.cs.length = B.pl := h.1.1; omega)
  have JF := Lib.hid (l03Forces pb B c w A h hb)
  have HX : Hid ((addsF c.cs (List.replicate B.pl (some 0, some 0, some 0)) (ens c)).length = B.pl) := Lib.hid (by rw [addsF_len, List.length_replicate])
  have HL := Lib.hid hL
  have HR := Lib.hid hr
  clear A h hb hL hr
  generalize addsF c.cs (List.replicate B.pl (some 0, some 0, some 0)) (ens c) = X at *
  generalize hpl : B.pl = pl at *
  have hp64 := HPL.out
  go_enter Tryz.func52, Tryz.ntmps52
  go_wp2_with fail
  refine JF.out.mono ?_
  rintro e w1 ⟨g, rfl, hS⟩
  have S1 := Lib.hid hS
  clear hS JF
  go_wp2_with fail
  go_loopw [11] (fun i w' => ∃ k : Nat, k ≤ hl ∧ i = .int .i64 k ∧ Aside (St w [] g (stillF X (L.take k)) w')) (fun i _ => hl - (intOf i).toNat)
  case atStart => exact ⟨0, Nat.zero_le _, rfl, S1.out⟩
  case round =>
    obtain ⟨k, hk, rfl, hA⟩ := hrel
    have S2 := Lib.hid hA.out
    clear hA S1
    by_cases hlt : k < hl
    · obtain ⟨b, o, rfl, hcell⟩ := (HL.out.below S2.out.bel).some (by omega)
      have hc0 := hcell k hlt
      have hk0 : (0 : Int) ≤ (k : Int) := by omega
      have hk1 : (k : Int) < (hl : Int) := by omega
      have hin := rise_in HR.out (k := k) (by omega)
      have HSN := Lib.hid (stillF_snoc X L k (by omega))
      clear hcell
      generalize L.getD k 0 = z at *
      have hz := of_decide_eq_true hin
      obtain ⟨j, rfl⟩ : ∃ j : Nat, z = (j : Int) := ⟨z.toNat, by omega⟩
      have hlx : (stillF X (L.take k)).length = pl := by rw [stillF_len]; exact HX.out
      have hj : j < (stillF X (L.take k)).length := by omega
      obtain ⟨u0, u1, u2, ⟨z0, z1, z2⟩, fu⟩ := S2.out.own.at hj
      have k0' := S2.out.own.2.1 (j * 3)
      have k1' := S2.out.own.2.1 (j * 3 + 1)
      have k2' := S2.out.own.2.1 (j * 3 + 2)
      have hj0 : (0 : Int) ≤ (j : Int) := by omega
      have hj1 : (j : Int) < (pl : Int) := by omega
      have S3 := Lib.hid (S2.out.put hj fz0)
      have hzz : zeroAt (stillF X (L.take k)) (j : Int) = (stillF X (L.take k)).set j (some 0, some 0, some 0) := rfl
      rw [← hzz, ← HSN.out] at S3
      clear hin hz hlx hj fu hzz HSN
      go_wp2
      go_roundw
      case rel => exact ⟨k + 1, by omega, by go_num, S3.out⟩
      case measure => simp [intOf]; omega
    · obtain rfl : k = hl := by omega
      have S9 : Hid (St w [] g (stillF X L) wr) := Lib.hid (by have := S2.out; rwa [List.take_of_length_le (by omega)] at this)
      have hl2 : (stillF X L).length = pl := by rw [stillF_len]; exact HX.out
      have hRV := RV.block (base := w.heap.size) (cap := pl) S9.out.2.2.1 (by rw [hl2]; exact Nat.le_refl _) (by have := HPL.out; unfold maxLen; omega) S9.out.own
      rw [hl2] at hRV
      have HRV := Lib.hid hRV
      clear hRV hl2
      go_wp2
      go_ret
      exact ⟨_, rfl, HRV.out, S9.out.bel⟩
set_option maxHeartbeats 4000000 in
theorem spec_FreeForces (B : Bd) (c : Bc) (a : Option Addr) (len cap : Nat) (L : List Int) (w : World) (h : IsB w B c) (hL : IsIs w a len cap L) :
    Calls Tryz.prog 18 #[B.v, .slice a len cap] w fun e w' => ∃ v, e = .returned (.tuple #[v, .bool (heldB c L)]) ∧ RV w.heap.size w' v (freT c L) ∧ Below w.heap.size w w' := by
  have uib := Tryz.underlying42
  have BX : Hid (Bx w [(w.heap.size, B.l)] (w.alloc (BoxB B 42))) := Lib.hid ((Bx.nil w).box (vs := B.l) (t := 42))
  have J := Lib.hid (l03Is w.heap.size B c (w.alloc (BoxB B 42)) (BX.out.mem (.head _)) (h.below BX.out.bel))
  have H := Lib.hid h
  have HL := Lib.hid hL
  have hm : B.pl ≤ 9223372036854775807 := by have h1 := h.1.2.1; have h2 := h.1.2.2.1; unfold maxLen at h2; omega
  have JH := Lib.hid (fun w1 k0 h2 => l05Held w.heap.size B c a len cap L w1 k0 hm h2)
  have hpl : c.cs.length = B.pl := h.1.1
  cases hb : bodyB c
  · rw [hb] at J
    have hh : heldB c L = false := by unfold heldB; rw [hb]; rfl
    have he : freT c L = [] := by unfold freT; rw [hh]; rfl
    rw [he, hh]
    clear h hL he hh hb hpl JH
    go_enter Tryz.func18, Tryz.ntmps18
    go_wp2_with fail
    change Calls _ _ _ (w.alloc (BoxB B 42)) _
    generalize (w.alloc (BoxB B 42)) = W at *
    refine J.out.mono ?_
    rintro e w1 ⟨rfl, n, hw⟩
    have HB := Lib.hid (below_drewN BX.out.bel n)
    rw [hw]
    clear hw
    go_wp2
    go_ret2
    exact ⟨_, rfl, RV.nil _ _, HB.out⟩
  · rw [hb] at J
    cases hr : riseB B.pl L
    · have hh : heldB c L = false := by unfold heldB; rw [hb, hpl, hr]; rfl
      have he : freT c L = [] := by unfold freT; rw [hh]; rfl
      rw [hr] at JH
      rw [he, hh]
      clear h hL he hh hb hpl hr
      go_enter Tryz.func18, Tryz.ntmps18
      go_wp2_with fail
      change Calls _ _ _ (w.alloc (BoxB B 42)) _
      generalize (w.alloc (BoxB B 42)) = W at *
      refine J.out.mono ?_
      rintro e w1 ⟨rfl, n, hw⟩
      have BX1 : Hid (Bx w [(w.heap.size, B.l)] w1) := Lib.hid (by rw [hw]; exact BX.out.call (below_drewN (Below.refl _ _) n))
      clear hw J BX
      go_wp2_with fail
      refine (JH.out w1 ((BX1.out.mem (.head _)) 0 _ rfl) (HL.out.below BX1.out.bel)).mono ?_
      rintro e w2 ⟨rfl, n2, hw⟩
      have BX2 : Hid (Bx w [(w.heap.size, B.l)] w2) := Lib.hid (by rw [hw]; exact BX1.out.call (below_drewN (Below.refl _ _) n2))
      clear hw
      go_wp2
      go_ret2
      exact ⟨_, rfl, RV.nil _ _, BX2.out.bel⟩
    · have hh : heldB c L = true := by unfold heldB; rw [hb, hpl, hr]; rfl
      have he : freT c L = stillF (addsF c.cs (List.replicate B.pl (some 0, some 0, some 0)) (ens c)) L := by unfold freT; rw [hh, hpl]; rfl
      rw [he, hh]
      have JF := Lib.hid (fun w1 h1 h2 h3 => l05Free w.heap.size B c a len cap L w1 h1 h2 hb h3 hr)
      rw [hr] at JH
      clear h hL he hh hb hpl hr
      generalize stillF (addsF c.cs (List.replicate B.pl (some 0, some 0, some 0)) (ens c)) L = X at *
      go_enter Tryz.func18, Tryz.ntmps18
      go_wp2_with fail
      change Calls _ _ _ (w.alloc (BoxB B 42)) _
      generalize (w.alloc (BoxB B 42)) = W at *
      refine J.out.mono ?_
      rintro e w1 ⟨rfl, n, hw⟩
      have BX1 : Hid (Bx w [(w.heap.size, B.l)] w1) := Lib.hid (by rw [hw]; exact BX.out.call (below_drewN (Below.refl _ _) n))
      clear hw J BX
      go_wp2_with fail
      refine (JH.out w1 ((BX1.out.mem (.head _)) 0 _ rfl) (HL.out.below BX1.out.bel)).mono ?_
      rintro e w2 ⟨rfl, n2, hw⟩
      have BX2 : Hid (Bx w [(w.heap.size, B.l)] w2) := Lib.hid (by rw [hw]; exact BX1.out.call (below_drewN (Below.refl _ _) n2))
      clear hw BX1 JH
      go_wp2_with fail
      refine (JF.out w2 (BX2.out.mem (.head _)) (H.out.below BX2.out.bel) (HL.out.below BX2.out.bel)).mono ?_
      rintro e w3 ⟨v, rfl, hv, hB3⟩
      have HV := Lib.hid (hv.lowF BX2.out.bel.size)
      have BX3 := Lib.hid (BX2.out.call hB3)
      clear hv hB3
      go_wp2
      go_ret2
      exact ⟨v, rfl, HV.out, BX3.out.bel⟩
end Go.Proofs.YtcgnmnbjgamedabGreat

/-
Marks in lists of vectors. Conditions: none.
-/
namespace Go.Proofs.YtcgnmnbjgamedabGreat
open Go Fk Go.RowKit
set_option linter.unusedVariables false
set_option maxRecDepth 16000

/-- The marks that were written are there. -/
def MrkV (w : World) (a : Option Addr) (n : Nat) : Prop := (a = none → n = 0) ∧ ∀ b o s, a = some ⟨b, o, s⟩ → s = none ∧ ∀ j, j < n * 3 → w.cell? ⟨b, o + j, none⟩ = some (.float .f32 (floatOfInt .f32 ((1 + j : Nat) : Int)))
theorem mark_anyV (lo hi : Nat) (a : Option Addr) (n cap : Nat) (w : World) (h : Lst lo hi w a (n * 3)) (hn : n ≤ 2000000) :
    Calls Tryz.prog 16 #[.slice a n cap, .int .i64 1] w fun e w' => e = .returned (.int .i64 ((1 + n * 3 : Nat) : Int)) ∧ MrkV w' a n ∧ Mark lo hi w w' := by
  rcases h with ⟨rfl, h0⟩ | ⟨b, rfl, hown⟩
  · obtain rfl : n = 0 := by omega
    go_enter Tryz.func16, Tryz.ntmps16
    go_wp2
    refine wp_loop_rounds 1 ?_
    rw [rounds_succ]
    go_wp2
    go_ret
    exact ⟨rfl, ⟨fun _ => rfl, fun _ _ _ h => by cases h⟩, Mark.refl _ _ _⟩
  · refine (laws_markVectorS lo hi b 0 n cap 1 w hown (by omega)).mono ?_
    rintro e w' ⟨he, hd, _, hM⟩
    exact ⟨he, ⟨fun h => by (cases h), fun b' o s h => by cases h; exact ⟨rfl, hd⟩⟩, hM⟩
theorem held_anyV (a : Option Addr) (n cap : Nat) (w : World) (h : MrkV w a n) (hn : n ≤ 2000000) :
    Calls Tryz.prog 17 #[.slice a n cap, .int .i64 1] w fun e w' => e = .returned (.int .i64 ((1 + n * 3 : Nat) : Int)) ∧ w' = w := by
  cases a with
  | none =>
    obtain rfl := h.1 rfl
    go_enter Tryz.func17, Tryz.ntmps17
    go_wp2
    refine wp_loop_rounds 1 ?_
    rw [rounds_succ]
    go_wp2
    go_ret
    exact ⟨rfl, by first | rfl | trivial⟩
  | some x =>
    obtain ⟨b, o, s⟩ := x
    obtain ⟨rfl, hd⟩ := h.2 b o s rfl
    exact laws_heldVectorS b o n cap 1 w hd (by omega)
theorem MrkV.below {w w' : World} {a : Option Addr} {n : Nat} (h : MrkV w a n) (hB : Below w.heap.size w w') : MrkV w' a n :=
  ⟨h.1, fun b o s e => ⟨(h.2 b o s e).1, fun j hj => cell_below hB ((h.2 b o s e).2 j hj)⟩⟩
/-- A list of vectors outside the blocks that are marked is as it was. -/
theorem isv_mark {lo hi lo' hi' : Nat} {w0 w w' : World} {a : Option Addr} {n cap : Nat} {L : List C3} (h : IsVs w a n cap L) (hl : Lst lo' hi' w0 a (n * 3)) (hM : Mark lo hi w w') (ho : hi' ≤ lo ∨ hi ≤ lo') : IsVs w' a n cap L := by
  obtain ⟨h1, h2, h3, h5, h6⟩ := h
  refine ⟨h1, h2, h3, h5, fun x hx i hi => ?_⟩
  rcases hl with ⟨e, _⟩ | ⟨b, e, hown⟩
  · rw [e] at hx; cases hx
  · rw [e] at hx; cases hx
    obtain ⟨p, q, r, k0, k1, k2, hf⟩ := h6 _ e i hi
    rw [addr_add'] at k0 k1 k2
    have u1 := hown.1
    have u2 := hown.2.1
    exact ⟨p, q, r, by rw [addr_add']; exact hM.cell (by omega) k0, by rw [addr_add']; exact hM.cell (by omega) k1, by rw [addr_add']; exact hM.cell (by omega) k2, hf⟩
end Go.Proofs.YtcgnmnbjgamedabGreat

/-
The free forces: the law returns true. Conditions: none beyond that the body and the held places lie in memory.
-/
namespace Go.Proofs.YtcgnmnbjgamedabGreat
open Go Fk Go.RowKit
set_option linter.unusedVariables false
set_option maxRecDepth 16000

theorem int_own {lo hi Q n cap : Nat} {w : World} {L : List Int} (h : IsIs w (some ⟨Q, 0, none⟩) n cap L) (hf : ∀ i, w.frozen? ⟨Q, i, none⟩ = false) (h1 : lo ≤ Q) (h2 : Q < hi) (h3 : Q < w.heap.size) : Own lo hi w Q 0 n := by
  refine ⟨h1, h2, h3, fun j hj => ⟨?_, hf _⟩⟩
  have k0 := h.2.2.2.2.2 _ rfl j hj
  rw [addr_add', Nat.zero_add] at k0
  rw [Nat.zero_add]
  exact ⟨_, k0⟩
set_option maxHeartbeats 40000000 in
theorem freeForces_law (B : Bd) (c : Bc) (a : Option Addr) (len cap : Nat) (IL : List Int) (w : World) (h : IsB w B c) (hL : IsIs w a len cap IL) :
    Calls Tryz.prog 4 #[B.v, .slice a len cap] w fun e w' => e = .returned (.bool true) ∧ Below w.heap.size w w' := by
  have ulb := Tryz.underlying32
  have uib := Tryz.underlying42
  have HB := Lib.hid h
  have BX : Hid (Bx w [(w.heap.size, B.l)] (w.alloc (BoxB B 32))) := Lib.hid ((Bx.nil w).box (vs := B.l) (t := 32))
  have HSP := Lib.hid (fun (B : Bd) (a : Option Addr) (cap : Nat) (w : World) (h : IsB w B c) (hL : IsIs w a len cap IL) => spec_FreeForces B c a len cap IL w h hL)
  have HIM := Lib.hid (fun (B : Bd) (a : Option Addr) (cap : Nat) (w : World) (h : IsB w B c) (hL : IsIs w a len cap IL) => impl_FreeForces B c a len cap IL w h hL)
  have hll := freT_len c IL
  have HIL := Lib.hid hL
  have hlm : len ≤ 9223372036854775807 := by have h1 := hL.2.1; have h2 := hL.2.2.1; unfold maxLen at h2; omega
  generalize freT c IL = L at *
  generalize heldB c IL = nb at *
  generalize hn : L.length = n at *
  have HLN := Lib.hid hn
  clear h hn hL
  have hvb : (nb == nb) = true := by cases nb <;> rfl
  have hvb' : (nb != nb) = false := by cases nb <;> rfl
  by_cases hlen : len ≤ 1048576
  case neg =>
    have hgt : (1048576 : Int) < (len : Int) := by omega
    go_enter Tryz.func4, Tryz.ntmps4
    go_wp2
    go_ret
    exact ⟨rfl, BX.out.bel⟩
  have hngt : ¬ (1048576 : Int) < (len : Int) := by omega
  go_enter Tryz.func4, Tryz.ntmps4
  go_wp2_with fail
  change Calls _ _ _ (w.alloc (BoxB B 32)) _
  generalize (w.alloc (BoxB B 32)) = W at *
  refine (laws_szBody' B c 1048576 _ (HB.out.below BX.out.bel) (by decide) (by decide)).mono ?_
  rintro e w1 ⟨⟨r, rfl, hr⟩, hB1⟩
  have BX1 := Lib.hid (BX.out.call hB1)
  clear hB1
  rcases hr with rfl | ⟨hr0, hr1, hs⟩
  · go_wp2
    go_ret
    exact ⟨rfl, BX1.out.bel⟩
  have HS := Lib.hid hs
  clear hs
  have a0 := (BX1.out.mem (.head _)) 0 _ rfl
  have a1 := (BX1.out.mem (.head _)) 1 _ rfl
  have a2 := (BX1.out.mem (.head _)) 2 _ rfl
  have a3 := (BX1.out.mem (.head _)) 3 _ rfl
  have a4 := (BX1.out.mem (.head _)) 4 _ rfl
  have a5 := (BX1.out.mem (.head _)) 5 _ rfl
  have a6 := (BX1.out.mem (.head _)) 6 _ rfl
  have a7 := (BX1.out.mem (.head _)) 7 _ rfl
  have a8 := (BX1.out.mem (.head _)) 8 _ rfl
  go_wp2_with fail
  clear a0 a1 a2 a3 a4 a5 a6 a7 a8
  refine (laws_toBody B c _ (HB.out.below BX1.out.bel) HS.out).mono ?_
  rintro e w2 ⟨B0, rfl, hI0, hB2⟩
  have BX2 := Lib.hid (BX1.out.call hB2)
  have I0 := Lib.hid hI0
  clear hB2 hI0
  go_wp2_with fail
  refine (laws_toInt64S _ _ _ _ _ (HIL.out.below BX2.out.bel) hlen).mono ?_
  rintro e w2b ⟨rfl, hi2, hB2, _⟩
  replace BX2 := Lib.hid (BX2.out.call hB2)
  replace I0 := Lib.hid (I0.out.below hB2)
  have J0 := Lib.hid hi2
  clear hB2 hi2
  go_wp2_with fail
  refine (HSP.out B0 _ _ _ I0.out J0.out).mono ?_
  rintro e w3 ⟨sv, rfl, hso, hB3⟩
  obtain ⟨sa, sc, rfl, hsi, hsl⟩ := hso
  rw [HLN.out] at hsi ⊢
  clear hsl
  have BX3 := Lib.hid (BX2.out.call hB3)
  have SI := Lib.hid hsi
  have SX := Lib.hid (Below.refl w3.heap.size w3)
  have LT3 : Hid (w.heap.size < w3.heap.size) := Lib.hid (BX3.out.mem (.head _)).lt
  clear hB3 hsi
  have a0 := (BX3.out.mem (.head _)) 0 _ rfl
  have a1 := (BX3.out.mem (.head _)) 1 _ rfl
  have a2 := (BX3.out.mem (.head _)) 2 _ rfl
  have a3 := (BX3.out.mem (.head _)) 3 _ rfl
  have a4 := (BX3.out.mem (.head _)) 4 _ rfl
  have a5 := (BX3.out.mem (.head _)) 5 _ rfl
  have a6 := (BX3.out.mem (.head _)) 6 _ rfl
  have a7 := (BX3.out.mem (.head _)) 7 _ rfl
  have a8 := (BX3.out.mem (.head _)) 8 _ rfl
  go_wp2_with fail
  clear a0 a1 a2 a3 a4 a5 a6 a7 a8
  refine (laws_toBodyO B c _ (HB.out.below BX3.out.bel) HS.out).mono ?_
  rintro e w4 ⟨X0, rfl, hIX, hOX, hB4⟩
  have BX4 := Lib.hid (BX3.out.call hB4)
  have hX4 : Below w4.heap.size w4 (w4.alloc (BoxB X0 42)) := (Below.refl _ _).alloc (Nat.le_refl _) _
  have BX5 : Hid (Bx w [(w4.heap.size, X0.l), (w.heap.size, B.l)] (w4.alloc (BoxB X0 42))) := Lib.hid (BX4.out.box (vs := X0.l) (t := 42))
  have SX5 := Lib.hid (SX.out.trans ((hB4.trans (hX4.mono hB4.size)).mono SX.out.size))
  have M5 := Lib.hid (And.intro (hIX.below hX4) (hOX.below hX4))
  have Z5 : Hid (w3.heap.size ≤ w4.heap.size ∧ (w4.alloc (BoxB X0 42)).heap.size = w4.heap.size + 1) := Lib.hid ⟨hB4.size, by simp⟩
  clear hIX hOX hB4 hX4
  go_wp2_with fail
  change Calls _ _ _ (w4.alloc (BoxB X0 42)) _
  generalize (w4.alloc (BoxB X0 42)) = W4 at *
  generalize w4.heap.size = X at *
  refine (laws_toInt64S' _ _ _ _ _ (HIL.out.below BX5.out.bel) hlen).mono ?_
  rintro e w4b ⟨rfl, hi4, hB4b, hlt4, hf4⟩
  replace BX5 := Lib.hid (BX5.out.call hB4b)
  replace SX5 := Lib.hid (SX5.out.trans (hB4b.mono SX5.out.size))
  replace M5 := Lib.hid (And.intro (M5.out.1.below hB4b) (M5.out.2.below hB4b))
  have J5 := Lib.hid hi4
  have F5 := Lib.hid (int_own (lo := W4.heap.size) (hi := w4b.heap.size) hi4 hf4 (Nat.le_refl _) hlt4 hlt4)
  have ZQ := Lib.hid hlt4
  clear hi4 hf4 hlt4 hB4b
  have hq := Z5.out.2
  rw [hq] at J5 F5 ZQ ⊢
  clear hq
  have a0 := (BX5.out.mem (.head _)) 0 _ rfl
  have a1 := (BX5.out.mem (.head _)) 1 _ rfl
  have a2 := (BX5.out.mem (.head _)) 2 _ rfl
  have a3 := (BX5.out.mem (.head _)) 3 _ rfl
  have a4 := (BX5.out.mem (.head _)) 4 _ rfl
  have a5 := (BX5.out.mem (.head _)) 5 _ rfl
  have a6 := (BX5.out.mem (.head _)) 6 _ rfl
  have a7 := (BX5.out.mem (.head _)) 7 _ rfl
  have a8 := (BX5.out.mem (.head _)) 8 _ rfl
  go_wp2_with fail
  clear a0 a1 a2 a3 a4 a5 a6 a7 a8
  refine (HIM.out X0 _ _ _ M5.out.1 J5.out).mono ?_
  rintro e w5 ⟨gv, rfl, hgo, hB5⟩
  obtain ⟨ga, gc, rfl, hgi, hgl⟩ := hgo
  rw [HLN.out] at hgi hgl ⊢
  have GI := Lib.hid hgi
  have GL := Lib.hid hgl
  have BX6 := Lib.hid (BX5.out.call hB5)
  have SX6 := Lib.hid (SX5.out.trans (hB5.mono SX5.out.size))
  have M6 := Lib.hid (And.intro (M5.out.1.below hB5) (M5.out.2.below hB5))
  have J6 := Lib.hid (And.intro (J5.out.below hB5) (F5.out.below hB5))
  have Z6 := Lib.hid hB5.size
  clear hB5 hgi hgl
  go_wp2_with fail
  refine (laws_eqVectorS _ _ _ _ _ _ _ GI.out (SI.out.below SX6.out)).mono ?_
  rintro en w6 ⟨rfl, hB6⟩
  have BX7 := Lib.hid (BX6.out.call hB6)
  have SX7 := Lib.hid (SX6.out.trans (hB6.mono SX6.out.size))
  have M7 := Lib.hid (And.intro (M6.out.1.below hB6) (M6.out.2.below hB6))
  have J7 := Lib.hid (And.intro (J6.out.1.below hB6) (J6.out.2.below hB6))
  have GI7 := Lib.hid (GI.out.below hB6)
  have GL7 := Lib.hid (GL.out.below hB6)
  have Z7 := Lib.hid hB6.size
  clear hB6
  go_wp2_with fail
  refine Reg.wp_region_mix (C := fun w' => Below w6.heap.size w6 w') (G := fun w1 w2 => Below w1.heap.size w1 w2) (R := fun i v w' => match i with | 0 => v = X0.v | 1 => v = B.v | 2 => ∃ Y : Bd, v = Y.v ∧ IsB w' Y c | 3 => v = .bool true | 4 => v = .bool false | _ => True) (T := fun _ _ _ => True) [false, false, false, false, false, false, false, false, false, false, false, false, false, false, false, false, false, false, false, false, false, false, false, false, false, false, false, false, false, false, false, false, false, false, false, false, false, false, false, false, false, false, false, false, false, false, false, false, false, false, false, false, true, true, true, true, true, false, false, false, false, false, false, false, false, false, false, false, false, false, false, false, false, false, false, false, false, false, false, false, false, false, false, false, false, false, false, false, false, false, false, false, false, false, false, false, false, false, false, false, false, false, false, false, false, false, false, false, false, false, false, false, false, false, false, false, false]
    (by kernel_rfl) (by kernel_rfl) (by kernel_rfl) ?_ (below_drewN (Below.refl _ _) 1) ?_ ?_
  · intro j v w1 w2 _ hG hR
    match j with
    | 0 => exact hR
    | 1 => exact hR
    | 2 => obtain ⟨Y, e, h1⟩ := hR; exact ⟨Y, e, h1.below hG⟩
    | 3 => exact hR
    | 4 => exact hR
    | _ + 5 => trivial
  · refine ⟨Reg.Obl.mk ?_, Reg.Obl.mk ?_, Reg.Obl.mk ?_, Reg.Obl.mk ?_, Reg.Obl.mk ?_, trivial⟩
    · rintro av wq hB hx hd K hK
      have HC := Lib.hid hB
      clear hB
      have t8 : av.tmps[8]?.getD undef = .pointer (some ⟨X, 0, none⟩) := Reg.slot_val (hx 8 (by kernel_rfl))
      have y0 := ((BX7.out.call HC.out).mem (.head _)) 0 _ rfl
      have y1 := ((BX7.out.call HC.out).mem (.head _)) 1 _ rfl
      have y2 := ((BX7.out.call HC.out).mem (.head _)) 2 _ rfl
      have y3 := ((BX7.out.call HC.out).mem (.head _)) 3 _ rfl
      have y4 := ((BX7.out.call HC.out).mem (.head _)) 4 _ rfl
      have y5 := ((BX7.out.call HC.out).mem (.head _)) 5 _ rfl
      have y6 := ((BX7.out.call HC.out).mem (.head _)) 6 _ rfl
      have y7 := ((BX7.out.call HC.out).mem (.head _)) 7 _ rfl
      have y8 := ((BX7.out.call HC.out).mem (.head _)) 8 _ rfl
      go_simp
      exact hK _ _ (fun _ => rfl) (fun h => by cases h) HC.out (Below.refl _ _)
    · rintro av wq hB hx hd K hK
      have HC := Lib.hid hB
      clear hB
      have t2 : av.tmps[2]?.getD undef = .pointer (some ⟨w.heap.size, 0, none⟩) := Reg.slot_val (hx 2 (by kernel_rfl))
      have y0 := ((BX7.out.call HC.out).mem (.tail _ (.head _))) 0 _ rfl
      have y1 := ((BX7.out.call HC.out).mem (.tail _ (.head _))) 1 _ rfl
      have y2 := ((BX7.out.call HC.out).mem (.tail _ (.head _))) 2 _ rfl
      have y3 := ((BX7.out.call HC.out).mem (.tail _ (.head _))) 3 _ rfl
      have y4 := ((BX7.out.call HC.out).mem (.tail _ (.head _))) 4 _ rfl
      have y5 := ((BX7.out.call HC.out).mem (.tail _ (.head _))) 5 _ rfl
      have y6 := ((BX7.out.call HC.out).mem (.tail _ (.head _))) 6 _ rfl
      have y7 := ((BX7.out.call HC.out).mem (.tail _ (.head _))) 7 _ rfl
      have y8 := ((BX7.out.call HC.out).mem (.tail _ (.head _))) 8 _ rfl
      go_simp
      exact hK _ _ (fun _ => rfl) (fun h => by cases h) HC.out (Below.refl _ _)
    · rintro av wq hB hx hd K hK
      have HC := Lib.hid hB
      clear hB
      have t53 : av.tmps[53]?.getD undef = B.v := Reg.slot_val (hd 1 (by kernel_rfl) 53 rfl)
      go_simp
      refine (laws_toBody B c _ (HB.out.below (BX7.out.call HC.out).bel) HS.out).mono ?_
      rintro en w2 ⟨Y, rfl, hV, hB2⟩
      exact hK _ _ (fun _ => ⟨Y, rfl, hV⟩) (fun h => by cases h) (HC.out.trans (hB2.mono HC.out.size)) hB2
    · rintro av wq hB hx hd K hK
      have HC := Lib.hid hB
      clear hB
      have t52 : av.tmps[52]?.getD undef = X0.v := Reg.slot_val (hd 0 (by kernel_rfl) 52 rfl)
      obtain ⟨Y, g2, hV⟩ := hd 2 (by kernel_rfl) 54 rfl
      have t54 := Reg.slot_val g2
      clear g2
      have HVe := Lib.hid hV
      clear hV
      go_simp
      refine (laws_eqBody X0 Y c _ (M7.out.1.below HC.out) HVe.out HS.out).mono ?_
      rintro en w2 ⟨rfl, hB2⟩
      exact hK _ _ (fun _ => rfl) (fun h => by cases h) (HC.out.trans (hB2.mono HC.out.size)) hB2
    · rintro av wq hB hx hd K hK
      have t55 : av.tmps[55]?.getD undef = .bool true := Reg.slot_val (hd 3 (by kernel_rfl) 55 rfl)
      go_simp
      exact hK _ _ (fun _ => rfl) (fun h => by cases h) hB (Below.refl _ _)
  rintro f wz hBz hd hTT
  have g56 : f 56 = .bool false := hd 4 56 rfl
  simp only [Reg.mixL, g56]
  have z5 := Z5.out
  have z6 := Z6.out
  have z7 := Z7.out
  have zz := hBz.size
  have lt3 := LT3.out
  have BXz := Lib.hid (BX7.out.call hBz)
  have SXz := Lib.hid (SX7.out.trans (hBz.mono SX7.out.size))
  have Oz := Lib.hid (And.intro (M7.out.1.below hBz) (M7.out.2.below hBz))
  have GIz := Lib.hid (GI7.out.below hBz)
  have Jz := Lib.hid (And.intro (J7.out.1.below hBz) (J7.out.2.below hBz))
  have GLz := Lib.hid (GL7.out.below hBz)
  clear hBz hd hTT g56
  go_wp2_with fail
  refine (laws_toInt64S _ _ _ _ _ (HIL.out.below BXz.out.bel) hlen).mono ?_
  rintro e wzb ⟨rfl, hiz, hBz, _⟩
  have zzb := hBz.size
  replace BXz := Lib.hid (BXz.out.call hBz)
  replace SXz := Lib.hid (SXz.out.trans (hBz.mono SXz.out.size))
  replace Oz := Lib.hid (And.intro (Oz.out.1.below hBz) (Oz.out.2.below hBz))
  replace GIz := Lib.hid (GIz.out.below hBz)
  replace GLz := Lib.hid (GLz.out.below hBz)
  replace Jz := Lib.hid (And.intro (Jz.out.1.below hBz) (Jz.out.2.below hBz))
  have JY := Lib.hid hiz
  clear hiz hBz
  go_wp2_with fail
  refine (laws_eqInt64S _ _ _ _ _ IL _ Jz.out.1 JY.out).mono ?_
  rintro e wzc ⟨rfl, nzc, hwc⟩
  have hBz : Below wzb.heap.size wzb wzc := by rw [hwc]; exact below_drewN (Below.refl _ _) _
  have zzc := hBz.size
  have zq0 := ZQ.out
  replace BXz := Lib.hid (BXz.out.call hBz)
  replace SXz := Lib.hid (SXz.out.trans (hBz.mono SXz.out.size))
  replace Oz := Lib.hid (And.intro (Oz.out.1.below hBz) (Oz.out.2.below hBz))
  replace GIz := Lib.hid (GIz.out.below hBz)
  replace GLz := Lib.hid (GLz.out.below hBz)
  replace Jz := Lib.hid (Jz.out.2.below hBz)
  clear hBz JY hwc
  have x0 := (BXz.out.mem (.head _)) 0 _ rfl
  have x1 := (BXz.out.mem (.head _)) 1 _ rfl
  have x2 := (BXz.out.mem (.head _)) 2 _ rfl
  have x3 := (BXz.out.mem (.head _)) 3 _ rfl
  have x4 := (BXz.out.mem (.head _)) 4 _ rfl
  have x5 := (BXz.out.mem (.head _)) 5 _ rfl
  have x6 := (BXz.out.mem (.head _)) 6 _ rfl
  have x7 := (BXz.out.mem (.head _)) 7 _ rfl
  have x8 := (BXz.out.mem (.head _)) 8 _ rfl
  go_wp2_with fail
  clear x0 x1 x2 x3 x4 x5 x6 x7 x8
  refine (laws_markBodyZ w3.heap.size X X0 c wzc Oz.out.2 Oz.out.1 HS.out (by omega) (by omega)).mono ?_
  rintro e w7 ⟨z7', hz7, rfl, hM⟩
  have hz0 : ¬ ((z7' : Int) < 0) := by omega
  have hall : ∀ b l, (b, l) ∈ [(X, X0.l), (w.heap.size, B.l)] → b < w3.heap.size ∨ X ≤ b := by
    intro b l hm
    simp only [List.mem_cons, Prod.mk.injEq, List.not_mem_nil, or_false] at hm
    rcases hm with ⟨rfl, _⟩ | ⟨rfl, _⟩
    · exact .inr (by omega)
    · exact .inl (by omega)
  have BX8 := Lib.hid (BXz.out.away hM (by omega) hall)
  have SX8 := Lib.hid (SXz.out.trans (hM.below.mono (Nat.le_refl _)))
  have zq := ZQ.out
  have GI8 := Lib.hid (isv_mark GIz.out GLz.out hM (.inr (by omega)))
  have GL8 := Lib.hid (GLz.out.mark hM)
  have J8 := Lib.hid (Jz.out.mark hM)
  have z8 := hM.below.size
  clear hM hall
  go_wp2_with fail
  refine (laws_markInt64S (X + 1) w4b.heap.size (X + 1) 0 len len z7' w7 J8.out (by omega)).mono ?_
  rintro e w7b ⟨rfl, _, _, hM⟩
  have hz1 : ¬ (((z7' + len : Nat) : Int) < 0) := by omega
  have hall : ∀ b l, (b, l) ∈ [(X, X0.l), (w.heap.size, B.l)] → b < X + 1 ∨ w4b.heap.size ≤ b := by
    intro b l hm
    simp only [List.mem_cons, Prod.mk.injEq, List.not_mem_nil, or_false] at hm
    rcases hm with ⟨rfl, _⟩ | ⟨rfl, _⟩
    · exact .inl (by omega)
    · exact .inl (by omega)
  replace BX8 := Lib.hid (BX8.out.away hM (by omega) hall)
  replace SX8 := Lib.hid (SX8.out.trans (hM.below.mono (by omega)))
  replace GI8 := Lib.hid (isv_mark GI8.out GL8.out hM (.inr (by omega)))
  replace GL8 := Lib.hid (GL8.out.mark hM)
  have z8b := hM.below.size
  clear hM hall
  go_wp2_with fail
  refine (laws_eqVectorS _ _ _ _ _ _ _ GI8.out (SI.out.below SX8.out)).mono ?_
  rintro en w8 ⟨rfl, hB8⟩
  have BX9 := Lib.hid (BX8.out.call hB8)
  have SX9 := Lib.hid (SX8.out.trans (hB8.mono SX8.out.size))
  have GL9 := Lib.hid (GL8.out.below hB8)
  have z9 := hB8.size
  clear hB8
  go_wp2_with fail
  refine (mark_anyV w4b.heap.size w5.heap.size ga n gc w8 GL9.out (by omega)).mono ?_
  rintro e w9 ⟨rfl, hmk, hM9⟩
  have hall : ∀ b l, (b, l) ∈ [(X, X0.l), (w.heap.size, B.l)] → b < w4b.heap.size ∨ w5.heap.size ≤ b := by
    intro b l hm
    simp only [List.mem_cons, Prod.mk.injEq, List.not_mem_nil, or_false] at hm
    rcases hm with ⟨rfl, _⟩ | ⟨rfl, _⟩
    · exact .inl (by omega)
    · exact .inl (by omega)
  have BX10 := Lib.hid (BX9.out.away hM9 (by omega) hall)
  have SX10 := Lib.hid (SX9.out.trans (hM9.below.mono (by omega)))
  have HMK := Lib.hid (show MrkV w9 ga n from hmk)
  clear hmk hM9 hall
  go_wp2_with fail
  refine (held_anyV ga n gc w9 HMK.out (by omega)).mono ?_
  rintro e w10 ⟨rfl, hw10⟩
  rw [hw10]
  clear hw10
  have a0 := (BX10.out.mem (.tail _ (.head _))) 0 _ rfl
  have a1 := (BX10.out.mem (.tail _ (.head _))) 1 _ rfl
  have a2 := (BX10.out.mem (.tail _ (.head _))) 2 _ rfl
  have a3 := (BX10.out.mem (.tail _ (.head _))) 3 _ rfl
  have a4 := (BX10.out.mem (.tail _ (.head _))) 4 _ rfl
  have a5 := (BX10.out.mem (.tail _ (.head _))) 5 _ rfl
  have a6 := (BX10.out.mem (.tail _ (.head _))) 6 _ rfl
  have a7 := (BX10.out.mem (.tail _ (.head _))) 7 _ rfl
  have a8 := (BX10.out.mem (.tail _ (.head _))) 8 _ rfl
  go_wp2_with fail
  clear a0 a1 a2 a3 a4 a5 a6 a7 a8
  refine (laws_toBody B c _ (HB.out.below BX10.out.bel) HS.out).mono ?_
  rintro e w11 ⟨Y, rfl, hY, hB11⟩
  have BX11 := Lib.hid (BX10.out.call hB11)
  have SX11 := Lib.hid (SX10.out.trans (hB11.mono SX10.out.size))
  have MK11 := Lib.hid (HMK.out.below hB11)
  have HY := Lib.hid hY
  clear hB11 hY
  go_wp2_with fail
  refine (laws_toInt64S _ _ _ _ _ (HIL.out.below BX11.out.bel) hlen).mono ?_
  rintro e w11b ⟨rfl, hi11, hB11, _⟩
  replace BX11 := Lib.hid (BX11.out.call hB11)
  replace SX11 := Lib.hid (SX11.out.trans (hB11.mono SX11.out.size))
  replace MK11 := Lib.hid (MK11.out.below hB11)
  replace HY := Lib.hid (HY.out.below hB11)
  have J11 := Lib.hid hi11
  clear hB11 hi11
  go_wp2_with fail
  refine (HIM.out Y _ _ _ HY.out J11.out).mono ?_
  rintro e w12 ⟨hv, rfl, hho, hB12⟩
  obtain ⟨ha, hc, rfl, hhi, _⟩ := hho
  rw [HLN.out] at hhi ⊢
  have HI12 := Lib.hid hhi
  have BX12 := Lib.hid (BX11.out.call hB12)
  have SX12 := Lib.hid (SX11.out.trans (hB12.mono SX11.out.size))
  have MK12 := Lib.hid (MK11.out.below hB12)
  clear hB12 hhi
  go_wp2_with fail
  refine (laws_eqVectorS _ _ _ _ _ _ _ HI12.out (SI.out.below SX12.out)).mono ?_
  rintro en w13 ⟨rfl, hB13⟩
  have MK13 := Lib.hid (MK12.out.below hB13)
  have BX13 := Lib.hid (BX12.out.call hB13)
  clear hB13
  go_wp2_with fail
  refine (held_anyV ga n gc w13 MK13.out (by omega)).mono ?_
  rintro e w14 ⟨rfl, hw14⟩
  rw [hw14]
  clear hw14
  go_wp2
  go_ret
  exact ⟨rfl, BX13.out.bel⟩
theorem FnExactFreeForces_law (pa ta sa wa : Option Addr) (pl pc tl tc sl sc wl wc : Nat) (cs : List C3) (ts : List (List Int)) (ss : List SC) (zs : List Nat) (fi be fx fy fz : Nat) (a : Option Addr) (len cap : Nat) (IL : List Int) (w : World) (hp : IsVs w pa pl pc cs) (ht : IsTs w ta tl tc ts) (hs : IsSs w sa sl sc ss) (hw : IsFs .f32 w wa wl wc zs) (hf : fi < 2 ^ FloatKind.f32.format.width ∧ be < 2 ^ FloatKind.f32.format.width ∧ fx < 2 ^ FloatKind.f32.format.width ∧ fy < 2 ^ FloatKind.f32.format.width ∧ fz < 2 ^ FloatKind.f32.format.width) (hL : IsIs w a len cap IL) :
    Calls Tryz.prog 4 #[.agg #[.slice pa pl pc, .slice ta tl tc, .slice sa sl sc, .float .f32 fi, .float .f32 be, .slice wa wl wc, .float .f32 fx, .float .f32 fy, .float .f32 fz], .slice a len cap] w fun e w' => e = .returned (.bool true) ∧ Below w.heap.size w w' :=
  freeForces_law ⟨pa, ta, sa, wa, pl, pc, tl, tc, sl, sc, wl, wc, fi, be, fx, fy, fz⟩ ⟨cs, ts, ss, zs, cls .f32 fi, cls .f32 be, (cls .f32 fx, cls .f32 fy, cls .f32 fz)⟩ a len cap IL w ⟨hp, ht, hs, hw, FV.self hf.1, FV.self hf.2.1, FV.self hf.2.2.1, FV.self hf.2.2.2.1, FV.self hf.2.2.2.2⟩ hL
end Go.Proofs.YtcgnmnbjgamedabGreat

/-
A motion that comes in as an argument, and copies of motions. Conditions: none.
-/
namespace Go.Proofs.YtcgnmnbjgamedabGreat
namespace Fk
open Go Go.RowKit
set_option linter.unusedVariables false
section
open Go.ChangeShapes Go.WideShapes Go.Deep
variable {H : Type} {enc : TypeId × Value → H} {P : Program} {w : World} {base : Nat} {held : Bool}
/-- A list of integers that came in. -/
theorem open_ilist {t e : TypeId} {a : Option Addr} {len cap : Nat} {d : DataW H} {p : List MemPlace} (ht : P.underlying t = some (.slice e)) (he : P.underlying e = some (.int .i64)) (hc : P.cellsOf e = 1)
    (h : DataW.Trod enc P w base (fun _ => true) held t (.slice a len cap) d p) : ∃ zs, IsIs w a len cap zs := by
  obtain ⟨fuel, hf⟩ := h
  obtain ⟨a', len', cap', zs, e1, hz⟩ := trod_ints ht he hc (by simpa [Value.cells] using hf)
  cases e1
  exact ⟨zs, hz⟩
end
end Fk
end Go.Proofs.YtcgnmnbjgamedabGreat

/-
Texts in one: what RestOf stands on, part 34. Conditions: those of each.
-/
import Derived.Test.YtcgnmnbjgamedabGreatKRestOf33

/-
The free forces: what the program and the model return. Conditions: the body and the held places lie in memory.
-/
namespace Go.Proofs.YtcgnmnbjgamedabGreat
open Go Fk Go.RowKit
set_option linter.unusedVariables false
set_option maxRecDepth 16000

set_option maxHeartbeats 4000000 in
theorem impl_FreeForces (B : Bd) (c : Bc) (a : Option Addr) (len cap : Nat) (L : List Int) (w : World) (h : IsB w B c) (hL : IsIs w a len cap L) :
    Calls Tryz.prog 20 #[B.v, .slice a len cap] w fun e w' => ∃ v, e = .returned (.tuple #[v, .bool (heldB c L)]) ∧ RV w.heap.size w' v (freT c L) ∧ Below w.heap.size w w' := by
  have uib := Tryz.underlying42
  have uim := Tryz.underlying38
  have uh := Tryz.underlying86
  have BX : Hid (Bx w [(w.heap.size, B.l)] (w.alloc (BoxB B 42))) := Lib.hid ((Bx.nil w).box (vs := B.l) (t := 42))
  have H := Lib.hid h
  have HL := Lib.hid hL
  cases hh : heldB c L
  · have he : freT c L = [] := by unfold freT; rw [hh]; rfl
    rw [he]
    have J := Lib.hid (fun w1 h1 h2 => holdBody_no B c a len cap L w1 h1 h2 hh)
    clear h hL hh he
    go_enter Tryz.func20, Tryz.ntmps20
    go_wp2_with fail
    change Calls _ _ _ (w.alloc (BoxB B 42)) _
    generalize (w.alloc (BoxB B 42)) = W at *
    refine (J.out W (H.out.below BX.out.bel) (HL.out.below BX.out.bel)).mono ?_
    rintro e w1 ⟨rfl, hB1⟩
    have BX1 := Lib.hid (BX.out.call hB1)
    clear hB1
    go_wp2
    go_ret2
    exact ⟨_, rfl, RV.nil _ _, (BX1.out.box (vs := Z11) (t := 86)).bel⟩
  · have hh2 := hh
    unfold heldB at hh2
    simp only [Bool.and_eq_true] at hh2
    obtain ⟨hb, hr⟩ := hh2
    have hpl : c.cs.length = B.pl := h.1.1
    have he : freT c L = stillF (addsF c.cs (List.replicate B.pl (some 0, some 0, some 0)) (ens c)) L := by unfold freT; rw [hh, hpl]; rfl
    rw [he]
    rw [hpl] at hr
    have J := Lib.hid (fun w1 h1 h2 => holdBody_yes B c a len cap L w1 h1 h2 hh)
    have JF := Lib.hid (fun w1 la lc h1 h2 h3 => impl_forcesAt B c a la len cap lc L w1 h1 h2 hb hpl h3 hr)
    clear h hL hh he hb hr hpl
    generalize stillF (addsF c.cs (List.replicate B.pl (some 0, some 0, some 0)) (ens c)) L = X at *
    generalize ens c = es at *
    go_enter Tryz.func20, Tryz.ntmps20
    go_wp2_with fail
    change Calls _ _ _ (w.alloc (BoxB B 42)) _
    generalize (w.alloc (BoxB B 42)) = W at *
    refine (J.out W (H.out.below BX.out.bel) (HL.out.below BX.out.bel)).mono ?_
    rintro e w1 ⟨la, lc, rfl, hE, hB1⟩
    have BX1 := Lib.hid (BX.out.call hB1)
    have BX2 := Lib.hid (BX1.out.box (vs := HbL B a la len cap es.length lc) (t := 86))
    have HE : Hid (∀ w2, Below w1.heap.size w1 w2 → EnS w2 la es) := Lib.hid (fun w2 h2 => hE.below h2)
    have hX : Below w1.heap.size w1 (w1.alloc (.cells (HbL B a la len cap es.length lc).toArray 86)) := (Below.refl _ _).alloc (Nat.le_refl _) _
    have HE2 := Lib.hid (hE.below hX)
    clear hB1 hE hX HE
    have b0 := (BX1.out.mem (.head _)) 0 _ rfl
    have hlt := World.block_lt_of_cell? _ _ b0
    go_wp2_with fail
    clear b0 hlt
    change Calls _ _ _ (w1.alloc (.cells (HbL B a la len cap es.length lc).toArray 86)) _
    generalize (w1.alloc (.cells (HbL B a la len cap es.length lc).toArray 86)) = W2 at *
    refine (JF.out W2 la lc (H.out.below BX2.out.bel).1 HE2.out (HL.out.below BX2.out.bel)).mono ?_
    rintro e w3 ⟨v, rfl, hv, hB3⟩
    have HV := Lib.hid (hv.lowF BX2.out.bel.size)
    have BX3 := Lib.hid (BX2.out.call hB3)
    clear hv hB3
    go_wp2
    go_ret2
    exact ⟨v, rfl, HV.out, BX3.out.bel⟩
end Go.Proofs.YtcgnmnbjgamedabGreat

/-
The free forces: what the model returns. Conditions: the body and the held places lie in memory.
-/
namespace Go.Proofs.YtcgnmnbjgamedabGreat
open Go Fk Go.RowKit
set_option linter.unusedVariables false
set_option maxRecDepth 16000

set_option maxHeartbeats 4000000 in
theorem l05Free (pb : Nat) (B : Bd) (c : Bc) (ha : Option Addr) (hl hc : Nat) (L : List Int) (w : World) (A : At w pb B.l) (h : IsB w B c) (hb : bodyB c = true) (hL : IsIs w ha hl hc L) (hr : riseB B.pl L = true) :
    Calls Tryz.prog 52 #[.pointer (some ⟨pb, 0, none⟩), .slice ha hl hc] w fun e w' => ∃ v, e = .returned v ∧ RV w.heap.size w' v (stillF (addsF c.cs (List.replicate B.pl (some 0, some 0, some 0)) (ens c)) L) ∧ Below w.heap.size w w' := by
  have uv := Tryz.underlying40
  have hll := hL.1
  have hm : hl ≤ 9223372036854775807 := by have h1 := hL.2.1; have h2 := hL.2.2.1; unfold maxLen at h2; omega
  have HPL : Hid (B.pl ≤ 64) := Lib.hid (by have h1 := (valid_pl (body_valid hb).1).1; have h2 : c.cs.length = B.pl := h.1.1; omega)
  have JF := Lib.hid (l03Forces pb B c w A h hb)
  have HX : Hid ((addsF c.cs (List.replicate B.pl (some 0, some 0, some 0)) (ens c)).length = B.pl) := Lib.hid (by rw [addsF_len, List.length_replicate])
  have HL := Lib.hid hL
  have HR := Lib.hid hr
  clear A h hb hL hr
  generalize addsF c.cs (List.replicate B.pl (some 0, some 0, some 0)) (ens c) = X at *
  generalize hpl : B.pl = pl at *
  have hp64 := HPL.out
  go_enter Tryz.func52, Tryz.ntmps52
  go_wp2_with fail
  refine JF.out.mono ?_
  rintro e w1 ⟨g, rfl, hS⟩
  have S1 := Lib.hid hS
  clear hS JF
  go_wp2_with fail
  go_loopw [11] (fun i w' => ∃ k : Nat, k ≤ hl ∧ i = .int .i64 k ∧ Aside (St w [] g (stillF X (L.take k)) w')) (fun i _ => hl - (intOf i).toNat)
  case atStart => exact ⟨0, Nat.zero_le _, rfl, S1.out⟩
  case round =>
    obtain ⟨k, hk, rfl, hA⟩ := hrel
    have S2 := Lib.hid hA.out
    clear hA S1
    by_cases hlt : k < hl
    · obtain ⟨b, o, rfl, hcell⟩ := (HL.out.below S2.out.bel).some (by omega)
      have hc0 := hcell k hlt
      have hk0 : (0 : Int) ≤ (k : Int) := by omega
      have hk1 : (k : Int) < (hl : Int) := by omega
      have hin := rise_in HR.out (k := k) (by omega)
      have HSN := Lib.hid (stillF_snoc X L k (by omega))
      clear hcell
      generalize L.getD k 0 = z at *
      have hz := of_decide_eq_true hin
      obtain ⟨j, rfl⟩ : ∃ j : Nat, z = (j : Int) := ⟨z.toNat, by omega⟩
      have hlx : (stillF X (L.take k)).length = pl := by rw [stillF_len]; exact HX.out
      have hj : j < (stillF X (L.take k)).length := by omega
      obtain ⟨u0, u1, u2, ⟨z0, z1, z2⟩, fu⟩ := S2.out.own.at hj
      have k0' := S2.out.own.2.1 (j * 3)
      have k1' := S2.out.own.2.1 (j * 3 + 1)
      have k2' := S2.out.own.2.1 (j * 3 + 2)
      have hj0 : (0 : Int) ≤ (j : Int) := by omega
      have hj1 : (j : Int) < (pl : Int) := by omega
      have S3 := Lib.hid (S2.out.put hj fz0)
      have hzz : zeroAt (stillF X (L.take k)) (j : Int) = (stillF X (L.take k)).set j (some 0, some 0, some 0) := rfl
      rw [← hzz, ← HSN.out] at S3
      clear hin hz hlx hj fu hzz HSN
      go_wp2
      go_roundw
      case rel => exact ⟨k + 1, by omega, by go_num, S3.out⟩
      case measure => simp [intOf]; omega
    · obtain rfl : k = hl := by omega
      have S9 : Hid (St w [] g (stillF X L) wr) := Lib.hid (by have := S2.out; rwa [List.take_of_length_le (by omega)] at this)
      have hl2 : (stillF X L).length = pl := by rw [stillF_len]; exact HX.out
      have hRV := RV.block (base := w.heap.size) (cap := pl) S9.out.2.2.1 (by rw [hl2]; exact Nat.le_refl _) (by have := HPL.out; unfold maxLen; omega) S9.out.own
      rw [hl2] at hRV
      have HRV := Lib.hid hRV
      clear hRV hl2
      go_wp2
      go_ret
      exact ⟨_, rfl, HRV.out, S9.out.bel⟩
end Go.Proofs.YtcgnmnbjgamedabGreat

/-
The greatest free force: what the program and the model return. Conditions: the body and the held places lie in memory.
-/
namespace Go.Proofs.YtcgnmnbjgamedabGreat
open Go Fk Go.RowKit
set_option linter.unusedVariables false
set_option maxRecDepth 16000

def resC (c : Bc) (L : List Int) : Option Nat := bif heldB c L then lonC (freT c L) else some 0
set_option maxHeartbeats 4000000 in
theorem impl_RestOf (B : Bd) (c : Bc) (a : Option Addr) (len cap : Nat) (L : List Int) (w : World) (h : IsB w B c) (hL : IsIs w a len cap L) :
    Calls Tryz.prog 24 #[B.v, .slice a len cap] w fun e w' => (∃ r, e = .returned (.tuple #[.float .f32 r, .bool (heldB c L)]) ∧ FV .f32 r (resC c L)) ∧ Below w.heap.size w w' := by
  have uib := Tryz.underlying42
  have BX : Hid (Bx w [(w.heap.size, B.l)] (w.alloc (BoxB B 42))) := Lib.hid ((Bx.nil w).box (vs := B.l) (t := 42))
  have H := Lib.hid h
  have HL := Lib.hid hL
  have J := Lib.hid (fun w1 h1 h2 => impl_FreeForces B c a len cap L w1 h1 h2)
  have hll := freT_len c L
  unfold resC
  generalize freT c L = X at *
  clear h hL
  cases hh : heldB c L
  all_goals
    rw [hh] at J
    clear hh
    go_enter Tryz.func24, Tryz.ntmps24
    go_wp2_with fail
    change Calls _ _ _ (w.alloc (BoxB B 42)) _
    generalize (w.alloc (BoxB B 42)) = W at *
    refine (J.out W (H.out.below BX.out.bel) (HL.out.below BX.out.bel)).mono ?_
    rintro e w1 ⟨v, rfl, hv, hB1⟩
    have BX1 := Lib.hid (BX.out.call hB1)
    have HV := Lib.hid hv
    clear hB1 hv
  · go_wp2
    go_ret2
    exact ⟨⟨0, rfl, FV_00⟩, BX1.out.bel⟩
  · obtain ⟨xa, xc, rfl, hi, _⟩ := HV.out
    have JL := Lib.hid (impl_LongestOf xa X.length xc X w1 hi)
    have h256 : decide (X.length ≤ 256) = true := decide_eq_true (by omega)
    have hlb : lonB X.length X = lonC X := if_pos (by omega)
    rw [h256, hlb] at JL
    clear hi HV h256 hlb
    go_wp2_with fail
    refine JL.out.mono ?_
    rintro e w2 ⟨r, rfl, fr, hB2⟩
    have BX2 := Lib.hid (BX1.out.call hB2)
    have FR := Lib.hid fr
    clear hB2 fr
    go_wp2
    go_ret2
    exact ⟨⟨r, rfl, FR.out⟩, BX2.out.bel⟩
set_option maxHeartbeats 4000000 in
theorem spec_RestOf (B : Bd) (c : Bc) (a : Option Addr) (len cap : Nat) (L : List Int) (w : World) (h : IsB w B c) (hL : IsIs w a len cap L) :
    Calls Tryz.prog 23 #[B.v, .slice a len cap] w fun e w' => (∃ r, e = .returned (.tuple #[.float .f32 r, .bool (heldB c L)]) ∧ FV .f32 r (resC c L)) ∧ Below w.heap.size w w' := by
  have uib := Tryz.underlying42
  have BX : Hid (Bx w [(w.heap.size, B.l)] (w.alloc (BoxB B 42))) := Lib.hid ((Bx.nil w).box (vs := B.l) (t := 42))
  have J := Lib.hid (l03Is w.heap.size B c (w.alloc (BoxB B 42)) (BX.out.mem (.head _)) (h.below BX.out.bel))
  have H := Lib.hid h
  have HL := Lib.hid hL
  have hm : B.pl ≤ 9223372036854775807 := by have h1 := h.1.2.1; have h2 := h.1.2.2.1; unfold maxLen at h2; omega
  have JH := Lib.hid (fun w1 k0 h2 => l05Held w.heap.size B c a len cap L w1 k0 hm h2)
  have hpl : c.cs.length = B.pl := h.1.1
  cases hb : bodyB c
  · rw [hb] at J
    have hh : heldB c L = false := by unfold heldB; rw [hb]; rfl
    have he : resC c L = some 0 := by unfold resC; rw [hh]; rfl
    rw [he, hh]
    clear h hL he hh hb hpl JH
    go_enter Tryz.func23, Tryz.ntmps23
    go_wp2_with fail
    change Calls _ _ _ (w.alloc (BoxB B 42)) _
    generalize (w.alloc (BoxB B 42)) = W at *
    refine J.out.mono ?_
    rintro e w1 ⟨rfl, n, hw⟩
    have HB := Lib.hid (below_drewN BX.out.bel n)
    rw [hw]
    clear hw
    go_wp2
    go_ret2
    exact ⟨⟨0, rfl, FV_00⟩, HB.out⟩
  · rw [hb] at J
    cases hr : riseB B.pl L
    · have hh : heldB c L = false := by unfold heldB; rw [hb, hpl, hr]; rfl
      have he : resC c L = some 0 := by unfold resC; rw [hh]; rfl
      rw [hr] at JH
      rw [he, hh]
      clear h hL he hh hb hpl hr
      go_enter Tryz.func23, Tryz.ntmps23
      go_wp2_with fail
      change Calls _ _ _ (w.alloc (BoxB B 42)) _
      generalize (w.alloc (BoxB B 42)) = W at *
      refine J.out.mono ?_
      rintro e w1 ⟨rfl, n, hw⟩
      have BX1 : Hid (Bx w [(w.heap.size, B.l)] w1) := Lib.hid (by rw [hw]; exact BX.out.call (below_drewN (Below.refl _ _) n))
      clear hw J BX
      go_wp2_with fail
      refine (JH.out w1 ((BX1.out.mem (.head _)) 0 _ rfl) (HL.out.below BX1.out.bel)).mono ?_
      rintro e w2 ⟨rfl, n2, hw⟩
      have BX2 : Hid (Bx w [(w.heap.size, B.l)] w2) := Lib.hid (by rw [hw]; exact BX1.out.call (below_drewN (Below.refl _ _) n2))
      clear hw
      go_wp2
      go_ret2
      exact ⟨⟨0, rfl, FV_00⟩, BX2.out.bel⟩
    · have hh : heldB c L = true := by unfold heldB; rw [hb, hpl, hr]; rfl
      have he : freT c L = stillF (addsF c.cs (List.replicate B.pl (some 0, some 0, some 0)) (ens c)) L := by unfold freT; rw [hh, hpl]; rfl
      have he2 : resC c L = lonC (stillF (addsF c.cs (List.replicate B.pl (some 0, some 0, some 0)) (ens c)) L) := by unfold resC; rw [hh, he]; rfl
      rw [he2, hh]
      have JF := Lib.hid (fun w1 h1 h2 h3 => l05Free w.heap.size B c a len cap L w1 h1 h2 hb h3 hr)
      rw [hr] at JH
      clear h hL he he2 hh hb hpl hr
      generalize stillF (addsF c.cs (List.replicate B.pl (some 0, some 0, some 0)) (ens c)) L = X at *
      go_enter Tryz.func23, Tryz.ntmps23
      go_wp2_with fail
      change Calls _ _ _ (w.alloc (BoxB B 42)) _
      generalize (w.alloc (BoxB B 42)) = W at *
      refine J.out.mono ?_
      rintro e w1 ⟨rfl, n, hw⟩
      have BX1 : Hid (Bx w [(w.heap.size, B.l)] w1) := Lib.hid (by rw [hw]; exact BX.out.call (below_drewN (Below.refl _ _) n))
      clear hw J BX
      go_wp2_with fail
      refine (JH.out w1 ((BX1.out.mem (.head _)) 0 _ rfl) (HL.out.below BX1.out.bel)).mono ?_
      rintro e w2 ⟨rfl, n2, hw⟩
      have BX2 : Hid (Bx w [(w.heap.size, B.l)] w2) := Lib.hid (by rw [hw]; exact BX1.out.call (below_drewN (Below.refl _ _) n2))
      clear hw BX1 JH
      go_wp2_with fail
      refine (JF.out w2 (BX2.out.mem (.head _)) (H.out.below BX2.out.bel) (HL.out.below BX2.out.bel)).mono ?_
      rintro e w3 ⟨v, rfl, hv, hB3⟩
      have BX3 := Lib.hid (BX2.out.call hB3)
      obtain ⟨xa, xc, rfl, hi, _⟩ := hv
      have JL := Lib.hid (l03Longest xa X.length xc X w3 hi)
      clear hi hB3
      go_wp2_with fail
      refine JL.out.mono ?_
      rintro e w4 ⟨r, rfl, fr, hB4⟩
      have BX4 := Lib.hid (BX3.out.call hB4)
      have FR := Lib.hid fr
      clear hB4 fr
      go_wp2
      go_ret2
      exact ⟨⟨r, rfl, FR.out⟩, BX4.out.bel⟩
end Go.Proofs.YtcgnmnbjgamedabGreat

/-
The greatest free force: the law returns true. Conditions: none beyond that the body and the held places lie in memory.
-/
namespace Go.Proofs.YtcgnmnbjgamedabGreat
open Go Fk Go.RowKit
set_option linter.unusedVariables false
set_option maxRecDepth 16000

set_option maxHeartbeats 40000000 in
theorem restOf_law (B : Bd) (c : Bc) (a : Option Addr) (len cap : Nat) (IL : List Int) (w : World) (h : IsB w B c) (hL : IsIs w a len cap IL) :
    Calls Tryz.prog 5 #[B.v, .slice a len cap] w fun e w' => e = .returned (.bool true) ∧ Below w.heap.size w w' := by
  have ulb := Tryz.underlying32
  have uib := Tryz.underlying42
  have u := Tryz.underlying27
  have u' := Tryz.underlying58
  have HB := Lib.hid h
  have BX : Hid (Bx w [(w.heap.size, B.l)] (w.alloc (BoxB B 32))) := Lib.hid ((Bx.nil w).box (vs := B.l) (t := 32))
  have HSP := Lib.hid (fun (B : Bd) (a : Option Addr) (cap : Nat) (w : World) (h : IsB w B c) (hL : IsIs w a len cap IL) => spec_RestOf B c a len cap IL w h hL)
  have HIM := Lib.hid (fun (B : Bd) (a : Option Addr) (cap : Nat) (w : World) (h : IsB w B c) (hL : IsIs w a len cap IL) => impl_RestOf B c a len cap IL w h hL)
  have HIL := Lib.hid hL
  have hlm : len ≤ 9223372036854775807 := by have h1 := hL.2.1; have h2 := hL.2.2.1; unfold maxLen at h2; omega
  generalize resC c IL = L at *
  generalize heldB c IL = nb at *
  clear h hL
  have hvb : (nb == nb) = true := by cases nb <;> rfl
  have hvb' : (nb != nb) = false := by cases nb <;> rfl
  by_cases hlen : len ≤ 1048576
  case neg =>
    have hgt : (1048576 : Int) < (len : Int) := by omega
    go_enter Tryz.func5, Tryz.ntmps5
    go_wp2
    go_ret
    exact ⟨rfl, BX.out.bel⟩
  have hngt : ¬ (1048576 : Int) < (len : Int) := by omega
  go_enter Tryz.func5, Tryz.ntmps5
  go_wp2_with fail
  change Calls _ _ _ (w.alloc (BoxB B 32)) _
  generalize (w.alloc (BoxB B 32)) = W at *
  refine (laws_szBody' B c 1048576 _ (HB.out.below BX.out.bel) (by decide) (by decide)).mono ?_
  rintro e w1 ⟨⟨r, rfl, hr⟩, hB1⟩
  have BX1 := Lib.hid (BX.out.call hB1)
  clear hB1
  rcases hr with rfl | ⟨hr0, hr1, hs⟩
  · go_wp2
    go_ret
    exact ⟨rfl, BX1.out.bel⟩
  have HS := Lib.hid hs
  clear hs
  have a0 := (BX1.out.mem (.head _)) 0 _ rfl
  have a1 := (BX1.out.mem (.head _)) 1 _ rfl
  have a2 := (BX1.out.mem (.head _)) 2 _ rfl
  have a3 := (BX1.out.mem (.head _)) 3 _ rfl
  have a4 := (BX1.out.mem (.head _)) 4 _ rfl
  have a5 := (BX1.out.mem (.head _)) 5 _ rfl
  have a6 := (BX1.out.mem (.head _)) 6 _ rfl
  have a7 := (BX1.out.mem (.head _)) 7 _ rfl
  have a8 := (BX1.out.mem (.head _)) 8 _ rfl
  go_wp2_with fail
  clear a0 a1 a2 a3 a4 a5 a6 a7 a8
  refine (laws_toBody B c _ (HB.out.below BX1.out.bel) HS.out).mono ?_
  rintro e w2 ⟨B0, rfl, hI0, hB2⟩
  have BX2 := Lib.hid (BX1.out.call hB2)
  have I0 := Lib.hid hI0
  clear hB2 hI0
  go_wp2_with fail
  refine (laws_toInt64S _ _ _ _ _ (HIL.out.below BX2.out.bel) hlen).mono ?_
  rintro e w2b ⟨rfl, hi2, hB2, _⟩
  replace BX2 := Lib.hid (BX2.out.call hB2)
  replace I0 := Lib.hid (I0.out.below hB2)
  have J0 := Lib.hid hi2
  clear hB2 hi2
  go_wp2_with fail
  refine (HSP.out B0 _ _ _ I0.out J0.out).mono ?_
  rintro e w3 ⟨⟨sx, rfl, sfx⟩, hB3⟩
  have BX3 := Lib.hid (BX2.out.call hB3)
  clear hB3
  have a0 := (BX3.out.mem (.head _)) 0 _ rfl
  have a1 := (BX3.out.mem (.head _)) 1 _ rfl
  have a2 := (BX3.out.mem (.head _)) 2 _ rfl
  have a3 := (BX3.out.mem (.head _)) 3 _ rfl
  have a4 := (BX3.out.mem (.head _)) 4 _ rfl
  have a5 := (BX3.out.mem (.head _)) 5 _ rfl
  have a6 := (BX3.out.mem (.head _)) 6 _ rfl
  have a7 := (BX3.out.mem (.head _)) 7 _ rfl
  have a8 := (BX3.out.mem (.head _)) 8 _ rfl
  go_wp2_with fail
  clear a0 a1 a2 a3 a4 a5 a6 a7 a8
  refine (laws_toBody B c _ (HB.out.below BX3.out.bel) HS.out).mono ?_
  rintro e w4 ⟨X0, rfl, hIX, hB4⟩
  have BX4 := Lib.hid (BX3.out.call hB4)
  have hX4 : Below w4.heap.size w4 (w4.alloc (BoxB X0 42)) := (Below.refl _ _).alloc (Nat.le_refl _) _
  have BX5 : Hid (Bx w [(w4.heap.size, X0.l), (w.heap.size, B.l)] (w4.alloc (BoxB X0 42))) := Lib.hid (BX4.out.box (vs := X0.l) (t := 42))
  have M5 := Lib.hid (hIX.below hX4)
  clear hIX hB4 hX4
  go_wp2_with fail
  change Calls _ _ _ (w4.alloc (BoxB X0 42)) _
  generalize (w4.alloc (BoxB X0 42)) = W4 at *
  generalize w4.heap.size = X at *
  refine (laws_toInt64S _ _ _ _ _ (HIL.out.below BX5.out.bel) hlen).mono ?_
  rintro e w4b ⟨rfl, hi4, hB4b, _⟩
  have J5 := Lib.hid hi4
  replace BX5 := Lib.hid (BX5.out.call hB4b)
  replace M5 := Lib.hid (M5.out.below hB4b)
  clear hi4 hB4b
  have a0 := (BX5.out.mem (.head _)) 0 _ rfl
  have a1 := (BX5.out.mem (.head _)) 1 _ rfl
  have a2 := (BX5.out.mem (.head _)) 2 _ rfl
  have a3 := (BX5.out.mem (.head _)) 3 _ rfl
  have a4 := (BX5.out.mem (.head _)) 4 _ rfl
  have a5 := (BX5.out.mem (.head _)) 5 _ rfl
  have a6 := (BX5.out.mem (.head _)) 6 _ rfl
  have a7 := (BX5.out.mem (.head _)) 7 _ rfl
  have a8 := (BX5.out.mem (.head _)) 8 _ rfl
  go_wp2_with fail
  clear a0 a1 a2 a3 a4 a5 a6 a7 a8
  refine (HIM.out X0 _ _ _ M5.out J5.out).mono ?_
  rintro e w5 ⟨⟨gx, rfl, gfx⟩, hB5⟩
  have BX6 := Lib.hid (BX5.out.call hB5)
  have M6 := Lib.hid (M5.out.below hB5)
  have J6 := Lib.hid (J5.out.below hB5)
  clear hB5
  go_wp2_with fail
  refine (laws_sameFloat _ _ _ _ (FV_wR gfx) (FV_wR sfx)).mono ?_
  rintro en w6 ⟨rfl, n5, hw6⟩
  have hB6 : Below w5.heap.size w5 w6 := by rw [hw6]; exact below_drewN (by first | exact Below.refl _ _ | exact below_drewN (Below.refl _ _) _ | exact below_drewN (below_drewN (Below.refl _ _) _) _) _
  have BX7 := Lib.hid (BX6.out.call hB6)
  have M7 := Lib.hid (M6.out.below hB6)
  have J7 := Lib.hid (J6.out.below hB6)
  clear hB6 hw6 gfx sfx
  go_wp2_with fail
  refine Reg.wp_region_mix (C := fun w' => Below w6.heap.size w6 w') (G := fun w1 w2 => Below w1.heap.size w1 w2) (R := fun i v w' => match i with | 0 => v = X0.v | 1 => v = B.v | 2 => ∃ Y : Bd, v = Y.v ∧ IsB w' Y c | 3 => v = .bool true | 4 => v = .bool false | _ => True) (T := fun _ _ _ => True) [false, false, false, false, false, false, false, false, false, false, false, false, false, false, false, false, false, false, false, false, false, false, false, false, false, false, false, false, false, false, false, false, false, false, false, false, false, false, false, false, false, false, false, false, false, false, false, false, false, true, true, true, true, true, false, false, false, false, false]
    (by kernel_rfl) (by kernel_rfl) (by kernel_rfl) ?_ (below_drewN (Below.refl _ _) 1) ?_ ?_
  · intro j v w1 w2 _ hG hR
    match j with
    | 0 => exact hR
    | 1 => exact hR
    | 2 => obtain ⟨Y, e, h1⟩ := hR; exact ⟨Y, e, h1.below hG⟩
    | 3 => exact hR
    | 4 => exact hR
    | _ + 5 => trivial
  · refine ⟨Reg.Obl.mk ?_, Reg.Obl.mk ?_, Reg.Obl.mk ?_, Reg.Obl.mk ?_, Reg.Obl.mk ?_, trivial⟩
    · rintro av wq hB hx hd K hK
      have HC := Lib.hid hB
      clear hB
      have t8 : av.tmps[8]?.getD undef = .pointer (some ⟨X, 0, none⟩) := Reg.slot_val (hx 8 (by kernel_rfl))
      have y0 := ((BX7.out.call HC.out).mem (.head _)) 0 _ rfl
      have y1 := ((BX7.out.call HC.out).mem (.head _)) 1 _ rfl
      have y2 := ((BX7.out.call HC.out).mem (.head _)) 2 _ rfl
      have y3 := ((BX7.out.call HC.out).mem (.head _)) 3 _ rfl
      have y4 := ((BX7.out.call HC.out).mem (.head _)) 4 _ rfl
      have y5 := ((BX7.out.call HC.out).mem (.head _)) 5 _ rfl
      have y6 := ((BX7.out.call HC.out).mem (.head _)) 6 _ rfl
      have y7 := ((BX7.out.call HC.out).mem (.head _)) 7 _ rfl
      have y8 := ((BX7.out.call HC.out).mem (.head _)) 8 _ rfl
      go_simp
      exact hK _ _ (fun _ => rfl) (fun h => by cases h) HC.out (Below.refl _ _)
    · rintro av wq hB hx hd K hK
      have HC := Lib.hid hB
      clear hB
      have t2 : av.tmps[2]?.getD undef = .pointer (some ⟨w.heap.size, 0, none⟩) := Reg.slot_val (hx 2 (by kernel_rfl))
      have y0 := ((BX7.out.call HC.out).mem (.tail _ (.head _))) 0 _ rfl
      have y1 := ((BX7.out.call HC.out).mem (.tail _ (.head _))) 1 _ rfl
      have y2 := ((BX7.out.call HC.out).mem (.tail _ (.head _))) 2 _ rfl
      have y3 := ((BX7.out.call HC.out).mem (.tail _ (.head _))) 3 _ rfl
      have y4 := ((BX7.out.call HC.out).mem (.tail _ (.head _))) 4 _ rfl
      have y5 := ((BX7.out.call HC.out).mem (.tail _ (.head _))) 5 _ rfl
      have y6 := ((BX7.out.call HC.out).mem (.tail _ (.head _))) 6 _ rfl
      have y7 := ((BX7.out.call HC.out).mem (.tail _ (.head _))) 7 _ rfl
      have y8 := ((BX7.out.call HC.out).mem (.tail _ (.head _))) 8 _ rfl
      go_simp
      exact hK _ _ (fun _ => rfl) (fun h => by cases h) HC.out (Below.refl _ _)
    · rintro av wq hB hx hd K hK
      have HC := Lib.hid hB
      clear hB
      have t50 : av.tmps[50]?.getD undef = B.v := Reg.slot_val (hd 1 (by kernel_rfl) 50 rfl)
      go_simp
      refine (laws_toBody B c _ (HB.out.below (BX7.out.call HC.out).bel) HS.out).mono ?_
      rintro en w2 ⟨Y, rfl, hV, hB2⟩
      exact hK _ _ (fun _ => ⟨Y, rfl, hV⟩) (fun h => by cases h) (HC.out.trans (hB2.mono HC.out.size)) hB2
    · rintro av wq hB hx hd K hK
      have HC := Lib.hid hB
      clear hB
      have t49 : av.tmps[49]?.getD undef = X0.v := Reg.slot_val (hd 0 (by kernel_rfl) 49 rfl)
      obtain ⟨Y, g2, hV⟩ := hd 2 (by kernel_rfl) 51 rfl
      have t51 := Reg.slot_val g2
      clear g2
      have HVe := Lib.hid hV
      clear hV
      go_simp
      refine (laws_eqBody X0 Y c _ (M7.out.below HC.out) HVe.out HS.out).mono ?_
      rintro en w2 ⟨rfl, hB2⟩
      exact hK _ _ (fun _ => rfl) (fun h => by cases h) (HC.out.trans (hB2.mono HC.out.size)) hB2
    · rintro av wq hB hx hd K hK
      have t52 : av.tmps[52]?.getD undef = .bool true := Reg.slot_val (hd 3 (by kernel_rfl) 52 rfl)
      go_simp
      exact hK _ _ (fun _ => rfl) (fun h => by cases h) hB (Below.refl _ _)
  rintro f wz hBz hd hTT
  have g53 : f 53 = .bool false := hd 4 53 rfl
  simp only [Reg.mixL, g53]
  have BXz := Lib.hid (BX7.out.call hBz)
  have Jz := Lib.hid (J7.out.below hBz)
  clear hBz hd hTT g53
  go_wp2_with fail
  refine (laws_toInt64S _ _ _ _ _ (HIL.out.below BXz.out.bel) hlen).mono ?_
  rintro e wzb ⟨rfl, hiz, hBz, _⟩
  replace BXz := Lib.hid (BXz.out.call hBz)
  replace Jz := Lib.hid (Jz.out.below hBz)
  have JY := Lib.hid hiz
  clear hiz hBz
  go_wp2_with fail
  refine (laws_eqInt64S _ _ _ _ _ IL _ Jz.out JY.out).mono ?_
  rintro e wzc ⟨rfl, nzc, hwc⟩
  have hBz : Below wzb.heap.size wzb wzc := by rw [hwc]; exact below_drewN (Below.refl _ _) _
  replace BXz := Lib.hid (BXz.out.call hBz)
  clear hBz JY hwc
  go_wp2
  go_ret
  exact ⟨rfl, BXz.out.bel⟩
theorem FnExactRestOf_law (pa ta sa wa : Option Addr) (pl pc tl tc sl sc wl wc : Nat) (cs : List C3) (ts : List (List Int)) (ss : List SC) (zs : List Nat) (fi be fx fy fz : Nat) (a : Option Addr) (len cap : Nat) (IL : List Int) (w : World) (hp : IsVs w pa pl pc cs) (ht : IsTs w ta tl tc ts) (hs : IsSs w sa sl sc ss) (hw : IsFs .f32 w wa wl wc zs) (hf : fi < 2 ^ FloatKind.f32.format.width ∧ be < 2 ^ FloatKind.f32.format.width ∧ fx < 2 ^ FloatKind.f32.format.width ∧ fy < 2 ^ FloatKind.f32.format.width ∧ fz < 2 ^ FloatKind.f32.format.width) (hL : IsIs w a len cap IL) :
    Calls Tryz.prog 5 #[.agg #[.slice pa pl pc, .slice ta tl tc, .slice sa sl sc, .float .f32 fi, .float .f32 be, .slice wa wl wc, .float .f32 fx, .float .f32 fy, .float .f32 fz], .slice a len cap] w fun e w' => e = .returned (.bool true) ∧ Below w.heap.size w w' :=
  restOf_law ⟨pa, ta, sa, wa, pl, pc, tl, tc, sl, sc, wl, wc, fi, be, fx, fy, fz⟩ ⟨cs, ts, ss, zs, cls .f32 fi, cls .f32 be, (cls .f32 fx, cls .f32 fy, cls .f32 fz)⟩ a len cap IL w ⟨hp, ht, hs, hw, FV.self hf.1, FV.self hf.2.1, FV.self hf.2.2.1, FV.self hf.2.2.2.1, FV.self hf.2.2.2.2⟩ hL
end Go.Proofs.YtcgnmnbjgamedabGreat

/-
A motion that comes in as an argument, and copies of motions. Conditions: none.
-/
namespace Go.Proofs.YtcgnmnbjgamedabGreat
namespace Fk
open Go Go.RowKit
set_option linter.unusedVariables false
section
open Go.ChangeShapes Go.WideShapes Go.Deep
variable {H : Type} {enc : TypeId × Value → H} {P : Program} {w : World} {base : Nat} {held : Bool}
/-- A list of integers that came in. -/
theorem open_ilist {t e : TypeId} {a : Option Addr} {len cap : Nat} {d : DataW H} {p : List MemPlace} (ht : P.underlying t = some (.slice e)) (he : P.underlying e = some (.int .i64)) (hc : P.cellsOf e = 1)
    (h : DataW.Trod enc P w base (fun _ => true) held t (.slice a len cap) d p) : ∃ zs, IsIs w a len cap zs := by
  obtain ⟨fuel, hf⟩ := h
  obtain ⟨a', len', cap', zs, e1, hz⟩ := trod_ints ht he hc (by simpa [Value.cells] using hf)
  cases e1
  exact ⟨zs, hz⟩
end
end Fk
end Go.Proofs.YtcgnmnbjgamedabGreat

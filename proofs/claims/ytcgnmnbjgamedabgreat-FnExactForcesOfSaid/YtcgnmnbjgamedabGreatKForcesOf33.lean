/-
Texts in one: what ForcesOf stands on, part 33. Conditions: those of each.
-/
import Derived.Test.YtcgnmnbjgamedabGreatKForcesOf32
import Derived.Test.YtcgnmnbjgamedabGreatRows
import Derived.WalkKit
import Derived.ProofKit
import Derived.OpenShut
import Derived.ShutString
import Derived.ChangeOld
import Derived.Below
import Derived.Lib.SmallJoins

/-
The forces of all places: what the model returns. Conditions: the body lies in memory.
-/
namespace Go.Proofs.YtcgnmnbjgamedabGreat
open Go Fk Go.RowKit
set_option linter.unusedVariables false
set_option maxRecDepth 16000

set_option maxHeartbeats 4000000 in
theorem spec_ForcesOf (B : Bd) (c : Bc) (w : World) (h : IsB w B c) :
    Calls Tryz.prog 10 #[B.v] w fun e w' => ∃ v, e = .returned (.tuple #[v, .bool (bodyB c)]) ∧ RV w.heap.size w' v (frT c) ∧ Below w.heap.size w w' := by
  have uib := Tryz.underlying42
  have BX : Hid (Bx w [(w.heap.size, B.l)] (w.alloc (BoxB B 42))) := Lib.hid ((Bx.nil w).box (vs := B.l) (t := 42))
  have J := Lib.hid (l03Is w.heap.size B c (w.alloc (BoxB B 42)) (BX.out.mem (.head _)) (h.below BX.out.bel))
  cases hv : bodyB c
  · rw [hv] at J
    have he : frT c = [] := by unfold frT; rw [hv]; rfl
    rw [he]
    clear hv h he
    go_enter Tryz.func10, Tryz.ntmps10
    go_wp2_with fail
    change Calls _ _ _ (w.alloc (BoxB B 42)) _
    generalize (w.alloc (BoxB B 42)) = W at *
    refine J.out.mono ?_
    rintro e w1 ⟨rfl, n, hw⟩
    have HB := Lib.hid (below_drewN BX.out.bel n)
    rw [hw]
    clear hw
    go_wp2
    go_ret2
    exact ⟨_, rfl, RV.nil _ _, HB.out⟩
  · rw [hv] at J
    have JP := Lib.hid (fun (w1 : World) (hA : At w1 w.heap.size B.l) (h1 : IsB w1 B c) => l03Forces w.heap.size B c w1 hA h1 hv)
    have hpl : c.cs.length = B.pl := h.1.1
    have he : frT c = addsF c.cs (List.replicate B.pl (some 0, some 0, some 0)) (ens c) := by unfold frT; rw [hv, hpl]; rfl
    have HPL : Hid (B.pl ≤ 64) := Lib.hid (by have := (valid_pl (body_valid hv).1).1; omega)
    rw [he]
    have H := Lib.hid h
    clear hv h he hpl
    go_enter Tryz.func10, Tryz.ntmps10
    go_wp2_with fail
    change Calls _ _ _ (w.alloc (BoxB B 42)) _
    generalize (w.alloc (BoxB B 42)) = W at *
    refine J.out.mono ?_
    rintro e w1 ⟨rfl, n, hw⟩
    have BX1 : Hid (Bx w [(w.heap.size, B.l)] w1) := Lib.hid (by rw [hw]; exact BX.out.call (below_drewN (Below.refl _ _) n))
    clear hw J BX
    go_wp2_with fail
    refine (JP.out w1 (BX1.out.mem (.head _)) (H.out.below BX1.out.bel)).mono ?_
    rintro e w2 ⟨g, rfl, hS⟩
    have hlen : (addsF c.cs (List.replicate B.pl (some 0, some 0, some 0)) (ens c)).length = B.pl := by rw [addsF_len, List.length_replicate]
    have hRV := RV.block (base := w.heap.size) (cap := B.pl) (Nat.le_trans BX1.out.bel.size hS.2.2.1) (by rw [hlen]; exact Nat.le_refl _) (by have := HPL.out; unfold maxLen; omega) hS.own
    rw [hlen] at hRV
    have HRV := Lib.hid hRV
    have HBE := Lib.hid (BX1.out.bel.trans (hS.bel.mono BX1.out.bel.size))
    clear hS hRV hlen JP
    go_wp2
    go_ret2
    exact ⟨_, rfl, HRV.out, HBE.out⟩
end Go.Proofs.YtcgnmnbjgamedabGreat

/-
Marks in lists of vectors. Conditions: none.
-/
namespace Go.Proofs.YtcgnmnbjgamedabGreat
open Go Fk Go.RowKit
set_option linter.unusedVariables false
set_option maxRecDepth 16000

/-- The marks that were written are there. -/
def MrkV (w : World) (a : Option Addr) (n : Nat) : Prop := (a = none → n = 0) ∧ ∀ b o s, a = some ⟨b, o, s⟩ → s = none ∧ ∀ j, j < n * 3 → w.cell? ⟨b, o + j, none⟩ = some (.float .f32 (floatOfInt .f32 ((1 + j : Nat) : Int)))
theorem mark_anyV (lo hi : Nat) (a : Option Addr) (n cap : Nat) (w : World) (h : Lst lo hi w a (n * 3)) (hn : n ≤ 2000000) :
    Calls Tryz.prog 16 #[.slice a n cap, .int .i64 1] w fun e w' => e = .returned (.int .i64 ((1 + n * 3 : Nat) : Int)) ∧ MrkV w' a n ∧ Mark lo hi w w' := by
  rcases h with ⟨rfl, h0⟩ | ⟨b, rfl, hown⟩
  · obtain rfl : n = 0 := by omega
    go_enter Tryz.func16, Tryz.ntmps16
    go_wp2
    refine wp_loop_rounds 1 ?_
    rw [rounds_succ]
    go_wp2
    go_ret
    exact ⟨rfl, ⟨fun _ => rfl, fun _ _ _ h => by cases h⟩, Mark.refl _ _ _⟩
  · refine (laws_markVectorS lo hi b 0 n cap 1 w hown (by omega)).mono ?_
    rintro e w' ⟨he, hd, _, hM⟩
    exact ⟨he, ⟨fun h => by (cases h), fun b' o s h => by cases h; exact ⟨rfl, hd⟩⟩, hM⟩
theorem held_anyV (a : Option Addr) (n cap : Nat) (w : World) (h : MrkV w a n) (hn : n ≤ 2000000) :
    Calls Tryz.prog 17 #[.slice a n cap, .int .i64 1] w fun e w' => e = .returned (.int .i64 ((1 + n * 3 : Nat) : Int)) ∧ w' = w := by
  cases a with
  | none =>
    obtain rfl := h.1 rfl
    go_enter Tryz.func17, Tryz.ntmps17
    go_wp2
    refine wp_loop_rounds 1 ?_
    rw [rounds_succ]
    go_wp2
    go_ret
    exact ⟨rfl, by first | rfl | trivial⟩
  | some x =>
    obtain ⟨b, o, s⟩ := x
    obtain ⟨rfl, hd⟩ := h.2 b o s rfl
    exact laws_heldVectorS b o n cap 1 w hd (by omega)
theorem MrkV.below {w w' : World} {a : Option Addr} {n : Nat} (h : MrkV w a n) (hB : Below w.heap.size w w') : MrkV w' a n :=
  ⟨h.1, fun b o s e => ⟨(h.2 b o s e).1, fun j hj => cell_below hB ((h.2 b o s e).2 j hj)⟩⟩
/-- A list of vectors outside the blocks that are marked is as it was. -/
theorem isv_mark {lo hi lo' hi' : Nat} {w0 w w' : World} {a : Option Addr} {n cap : Nat} {L : List C3} (h : IsVs w a n cap L) (hl : Lst lo' hi' w0 a (n * 3)) (hM : Mark lo hi w w') (ho : hi' ≤ lo ∨ hi ≤ lo') : IsVs w' a n cap L := by
  obtain ⟨h1, h2, h3, h5, h6⟩ := h
  refine ⟨h1, h2, h3, h5, fun x hx i hi => ?_⟩
  rcases hl with ⟨e, _⟩ | ⟨b, e, hown⟩
  · rw [e] at hx; cases hx
  · rw [e] at hx; cases hx
    obtain ⟨p, q, r, k0, k1, k2, hf⟩ := h6 _ e i hi
    rw [addr_add'] at k0 k1 k2
    have u1 := hown.1
    have u2 := hown.2.1
    exact ⟨p, q, r, by rw [addr_add']; exact hM.cell (by omega) k0, by rw [addr_add']; exact hM.cell (by omega) k1, by rw [addr_add']; exact hM.cell (by omega) k2, hf⟩
end Go.Proofs.YtcgnmnbjgamedabGreat

/-
The forces of all places: the law returns true. Conditions: none beyond that the body lies in memory.
-/
namespace Go.Proofs.YtcgnmnbjgamedabGreat
open Go Fk Go.RowKit
set_option linter.unusedVariables false
set_option maxRecDepth 16000

set_option maxHeartbeats 40000000 in
theorem forcesOf_law (B : Bd) (c : Bc) (w : World) (h : IsB w B c) :
    Calls Tryz.prog 3 #[B.v] w fun e w' => e = .returned (.bool true) ∧ Below w.heap.size w w' := by
  have ulb := Tryz.underlying32
  have uib := Tryz.underlying42
  have HB := Lib.hid h
  have BX : Hid (Bx w [(w.heap.size, B.l)] (w.alloc (BoxB B 32))) := Lib.hid ((Bx.nil w).box (vs := B.l) (t := 32))
  have HSP := Lib.hid (fun (B : Bd) (w : World) (h : IsB w B c) => spec_ForcesOf B c w h)
  have HIM := Lib.hid (fun (B : Bd) (w : World) (h : IsB w B c) => impl_ForcesOf B c w h)
  have hll := frT_len c
  generalize frT c = L at *
  generalize bodyB c = nb at *
  generalize hn : L.length = n at *
  have HLN := Lib.hid hn
  clear h hn
  have hvb : (nb == nb) = true := by cases nb <;> rfl
  have hvb' : (nb != nb) = false := by cases nb <;> rfl
  go_enter Tryz.func3, Tryz.ntmps3
  go_wp2_with fail
  change Calls _ _ _ (w.alloc (BoxB B 32)) _
  generalize (w.alloc (BoxB B 32)) = W at *
  refine (laws_szBody' B c 1048576 _ (HB.out.below BX.out.bel) (by decide) (by decide)).mono ?_
  rintro e w1 ⟨⟨r, rfl, hr⟩, hB1⟩
  have BX1 := Lib.hid (BX.out.call hB1)
  clear hB1
  rcases hr with rfl | ⟨hr0, hr1, hs⟩
  · go_wp2
    go_ret
    exact ⟨rfl, BX1.out.bel⟩
  have HS := Lib.hid hs
  clear hs
  have a0 := (BX1.out.mem (.head _)) 0 _ rfl
  have a1 := (BX1.out.mem (.head _)) 1 _ rfl
  have a2 := (BX1.out.mem (.head _)) 2 _ rfl
  have a3 := (BX1.out.mem (.head _)) 3 _ rfl
  have a4 := (BX1.out.mem (.head _)) 4 _ rfl
  have a5 := (BX1.out.mem (.head _)) 5 _ rfl
  have a6 := (BX1.out.mem (.head _)) 6 _ rfl
  have a7 := (BX1.out.mem (.head _)) 7 _ rfl
  have a8 := (BX1.out.mem (.head _)) 8 _ rfl
  go_wp2_with fail
  clear a0 a1 a2 a3 a4 a5 a6 a7 a8
  refine (laws_toBody B c _ (HB.out.below BX1.out.bel) HS.out).mono ?_
  rintro e w2 ⟨B0, rfl, hI0, hB2⟩
  have BX2 := Lib.hid (BX1.out.call hB2)
  have I0 := Lib.hid hI0
  clear hB2 hI0
  go_wp2_with fail
  refine (HSP.out B0 _ I0.out).mono ?_
  rintro e w3 ⟨sv, rfl, hso, hB3⟩
  obtain ⟨sa, sc, rfl, hsi, hsl⟩ := hso
  rw [HLN.out] at hsi ⊢
  clear hsl
  have BX3 := Lib.hid (BX2.out.call hB3)
  have SI := Lib.hid hsi
  have SX := Lib.hid (Below.refl w3.heap.size w3)
  have LT3 : Hid (w.heap.size < w3.heap.size) := Lib.hid (BX3.out.mem (.head _)).lt
  clear hB3 hsi
  have a0 := (BX3.out.mem (.head _)) 0 _ rfl
  have a1 := (BX3.out.mem (.head _)) 1 _ rfl
  have a2 := (BX3.out.mem (.head _)) 2 _ rfl
  have a3 := (BX3.out.mem (.head _)) 3 _ rfl
  have a4 := (BX3.out.mem (.head _)) 4 _ rfl
  have a5 := (BX3.out.mem (.head _)) 5 _ rfl
  have a6 := (BX3.out.mem (.head _)) 6 _ rfl
  have a7 := (BX3.out.mem (.head _)) 7 _ rfl
  have a8 := (BX3.out.mem (.head _)) 8 _ rfl
  go_wp2_with fail
  clear a0 a1 a2 a3 a4 a5 a6 a7 a8
  refine (laws_toBodyO B c _ (HB.out.below BX3.out.bel) HS.out).mono ?_
  rintro e w4 ⟨X0, rfl, hIX, hOX, hB4⟩
  have BX4 := Lib.hid (BX3.out.call hB4)
  have hX4 : Below w4.heap.size w4 (w4.alloc (BoxB X0 42)) := (Below.refl _ _).alloc (Nat.le_refl _) _
  have BX5 : Hid (Bx w [(w4.heap.size, X0.l), (w.heap.size, B.l)] (w4.alloc (BoxB X0 42))) := Lib.hid (BX4.out.box (vs := X0.l) (t := 42))
  have SX5 := Lib.hid (SX.out.trans ((hB4.trans (hX4.mono hB4.size)).mono SX.out.size))
  have M5 := Lib.hid (And.intro (hIX.below hX4) (hOX.below hX4))
  have Z5 : Hid (w3.heap.size ≤ w4.heap.size ∧ (w4.alloc (BoxB X0 42)).heap.size = w4.heap.size + 1) := Lib.hid ⟨hB4.size, by simp⟩
  clear hIX hOX hB4 hX4
  go_wp2_with fail
  change Calls _ _ _ (w4.alloc (BoxB X0 42)) _
  generalize (w4.alloc (BoxB X0 42)) = W4 at *
  generalize w4.heap.size = X at *
  refine (HIM.out X0 _ M5.out.1).mono ?_
  rintro e w5 ⟨gv, rfl, hgo, hB5⟩
  obtain ⟨ga, gc, rfl, hgi, hgl⟩ := hgo
  rw [HLN.out] at hgi hgl ⊢
  have GI := Lib.hid hgi
  have GL := Lib.hid hgl
  have BX6 := Lib.hid (BX5.out.call hB5)
  have SX6 := Lib.hid (SX5.out.trans (hB5.mono SX5.out.size))
  have M6 := Lib.hid (And.intro (M5.out.1.below hB5) (M5.out.2.below hB5))
  have Z6 := Lib.hid hB5.size
  clear hB5 hgi hgl
  go_wp2_with fail
  refine (laws_eqVectorS _ _ _ _ _ _ _ GI.out (SI.out.below SX6.out)).mono ?_
  rintro en w6 ⟨rfl, hB6⟩
  have BX7 := Lib.hid (BX6.out.call hB6)
  have SX7 := Lib.hid (SX6.out.trans (hB6.mono SX6.out.size))
  have M7 := Lib.hid (And.intro (M6.out.1.below hB6) (M6.out.2.below hB6))
  have GI7 := Lib.hid (GI.out.below hB6)
  have GL7 := Lib.hid (GL.out.below hB6)
  have Z7 := Lib.hid hB6.size
  clear hB6
  go_wp2_with fail
  refine Reg.wp_region_mix (C := fun w' => Below w6.heap.size w6 w') (G := fun w1 w2 => Below w1.heap.size w1 w2) (R := fun i v w' => match i with | 0 => v = X0.v | 1 => v = B.v | 2 => ∃ Y : Bd, v = Y.v ∧ IsB w' Y c | 3 => v = .bool true | 4 => v = .bool false | _ => True) (T := fun _ _ _ => True) [false, false, false, false, false, false, false, false, false, false, false, false, false, false, false, false, false, false, false, false, false, false, false, false, false, false, false, false, false, false, false, false, false, false, false, false, false, false, false, false, false, true, true, true, true, true, false, false, false, false, false, false, false, false, false, false, false, false, false, false, false, false, false, false, false, false, false, false, false, false, false, false, false, false, false, false, false, false, false, false, false, false, false, false, false, false, false, false, false, false, false, false, false, false, false, false]
    (by kernel_rfl) (by kernel_rfl) (by kernel_rfl) ?_ (below_drewN (Below.refl _ _) 1) ?_ ?_
  · intro j v w1 w2 _ hG hR
    match j with
    | 0 => exact hR
    | 1 => exact hR
    | 2 => obtain ⟨Y, e, h1⟩ := hR; exact ⟨Y, e, h1.below hG⟩
    | 3 => exact hR
    | 4 => exact hR
    | _ + 5 => trivial
  · refine ⟨Reg.Obl.mk ?_, Reg.Obl.mk ?_, Reg.Obl.mk ?_, Reg.Obl.mk ?_, Reg.Obl.mk ?_, trivial⟩
    · rintro av wq hB hx hd K hK
      have HC := Lib.hid hB
      clear hB
      have t6 : av.tmps[6]?.getD undef = .pointer (some ⟨X, 0, none⟩) := Reg.slot_val (hx 6 (by kernel_rfl))
      have y0 := ((BX7.out.call HC.out).mem (.head _)) 0 _ rfl
      have y1 := ((BX7.out.call HC.out).mem (.head _)) 1 _ rfl
      have y2 := ((BX7.out.call HC.out).mem (.head _)) 2 _ rfl
      have y3 := ((BX7.out.call HC.out).mem (.head _)) 3 _ rfl
      have y4 := ((BX7.out.call HC.out).mem (.head _)) 4 _ rfl
      have y5 := ((BX7.out.call HC.out).mem (.head _)) 5 _ rfl
      have y6 := ((BX7.out.call HC.out).mem (.head _)) 6 _ rfl
      have y7 := ((BX7.out.call HC.out).mem (.head _)) 7 _ rfl
      have y8 := ((BX7.out.call HC.out).mem (.head _)) 8 _ rfl
      go_simp
      exact hK _ _ (fun _ => rfl) (fun h => by cases h) HC.out (Below.refl _ _)
    · rintro av wq hB hx hd K hK
      have HC := Lib.hid hB
      clear hB
      have t1 : av.tmps[1]?.getD undef = .pointer (some ⟨w.heap.size, 0, none⟩) := Reg.slot_val (hx 1 (by kernel_rfl))
      have y0 := ((BX7.out.call HC.out).mem (.tail _ (.head _))) 0 _ rfl
      have y1 := ((BX7.out.call HC.out).mem (.tail _ (.head _))) 1 _ rfl
      have y2 := ((BX7.out.call HC.out).mem (.tail _ (.head _))) 2 _ rfl
      have y3 := ((BX7.out.call HC.out).mem (.tail _ (.head _))) 3 _ rfl
      have y4 := ((BX7.out.call HC.out).mem (.tail _ (.head _))) 4 _ rfl
      have y5 := ((BX7.out.call HC.out).mem (.tail _ (.head _))) 5 _ rfl
      have y6 := ((BX7.out.call HC.out).mem (.tail _ (.head _))) 6 _ rfl
      have y7 := ((BX7.out.call HC.out).mem (.tail _ (.head _))) 7 _ rfl
      have y8 := ((BX7.out.call HC.out).mem (.tail _ (.head _))) 8 _ rfl
      go_simp
      exact hK _ _ (fun _ => rfl) (fun h => by cases h) HC.out (Below.refl _ _)
    · rintro av wq hB hx hd K hK
      have HC := Lib.hid hB
      clear hB
      have t42 : av.tmps[42]?.getD undef = B.v := Reg.slot_val (hd 1 (by kernel_rfl) 42 rfl)
      go_simp
      refine (laws_toBody B c _ (HB.out.below (BX7.out.call HC.out).bel) HS.out).mono ?_
      rintro en w2 ⟨Y, rfl, hV, hB2⟩
      exact hK _ _ (fun _ => ⟨Y, rfl, hV⟩) (fun h => by cases h) (HC.out.trans (hB2.mono HC.out.size)) hB2
    · rintro av wq hB hx hd K hK
      have HC := Lib.hid hB
      clear hB
      have t41 : av.tmps[41]?.getD undef = X0.v := Reg.slot_val (hd 0 (by kernel_rfl) 41 rfl)
      obtain ⟨Y, g2, hV⟩ := hd 2 (by kernel_rfl) 43 rfl
      have t43 := Reg.slot_val g2
      clear g2
      have HVe := Lib.hid hV
      clear hV
      go_simp
      refine (laws_eqBody X0 Y c _ (M7.out.1.below HC.out) HVe.out HS.out).mono ?_
      rintro en w2 ⟨rfl, hB2⟩
      exact hK _ _ (fun _ => rfl) (fun h => by cases h) (HC.out.trans (hB2.mono HC.out.size)) hB2
    · rintro av wq hB hx hd K hK
      have t44 : av.tmps[44]?.getD undef = .bool true := Reg.slot_val (hd 3 (by kernel_rfl) 44 rfl)
      go_simp
      exact hK _ _ (fun _ => rfl) (fun h => by cases h) hB (Below.refl _ _)
  rintro f wz hBz hd hTT
  have g45 : f 45 = .bool false := hd 4 45 rfl
  simp only [Reg.mixL, g45]
  have z5 := Z5.out
  have z6 := Z6.out
  have z7 := Z7.out
  have zz := hBz.size
  have lt3 := LT3.out
  have BXz := Lib.hid (BX7.out.call hBz)
  have SXz := Lib.hid (SX7.out.trans (hBz.mono SX7.out.size))
  have Oz := Lib.hid (And.intro (M7.out.1.below hBz) (M7.out.2.below hBz))
  have GIz := Lib.hid (GI7.out.below hBz)
  have GLz := Lib.hid (GL7.out.below hBz)
  clear hBz hd hTT g45
  have x0 := (BXz.out.mem (.head _)) 0 _ rfl
  have x1 := (BXz.out.mem (.head _)) 1 _ rfl
  have x2 := (BXz.out.mem (.head _)) 2 _ rfl
  have x3 := (BXz.out.mem (.head _)) 3 _ rfl
  have x4 := (BXz.out.mem (.head _)) 4 _ rfl
  have x5 := (BXz.out.mem (.head _)) 5 _ rfl
  have x6 := (BXz.out.mem (.head _)) 6 _ rfl
  have x7 := (BXz.out.mem (.head _)) 7 _ rfl
  have x8 := (BXz.out.mem (.head _)) 8 _ rfl
  go_wp2_with fail
  clear x0 x1 x2 x3 x4 x5 x6 x7 x8
  refine (laws_markBodyZ w3.heap.size X X0 c wz Oz.out.2 Oz.out.1 HS.out (by omega) (by omega)).mono ?_
  rintro e w7 ⟨z7', hz7, rfl, hM⟩
  have hz0 : ¬ ((z7' : Int) < 0) := by omega
  have hall : ∀ b l, (b, l) ∈ [(X, X0.l), (w.heap.size, B.l)] → b < w3.heap.size ∨ X ≤ b := by
    intro b l hm
    simp only [List.mem_cons, Prod.mk.injEq, List.not_mem_nil, or_false] at hm
    rcases hm with ⟨rfl, _⟩ | ⟨rfl, _⟩
    · exact .inr (by omega)
    · exact .inl (by omega)
  have BX8 := Lib.hid (BXz.out.away hM (by omega) hall)
  have SX8 := Lib.hid (SXz.out.trans (hM.below.mono (Nat.le_refl _)))
  have GI8 := Lib.hid (isv_mark GIz.out GLz.out hM (.inr (by omega)))
  have GL8 := Lib.hid (GLz.out.mark hM)
  have z8 := hM.below.size
  clear hM hall
  go_wp2_with fail
  refine (laws_eqVectorS _ _ _ _ _ _ _ GI8.out (SI.out.below SX8.out)).mono ?_
  rintro en w8 ⟨rfl, hB8⟩
  have BX9 := Lib.hid (BX8.out.call hB8)
  have SX9 := Lib.hid (SX8.out.trans (hB8.mono SX8.out.size))
  have GL9 := Lib.hid (GL8.out.below hB8)
  have z9 := hB8.size
  clear hB8
  go_wp2_with fail
  refine (mark_anyV W4.heap.size w5.heap.size ga n gc w8 GL9.out (by omega)).mono ?_
  rintro e w9 ⟨rfl, hmk, hM9⟩
  have hall : ∀ b l, (b, l) ∈ [(X, X0.l), (w.heap.size, B.l)] → b < W4.heap.size ∨ w5.heap.size ≤ b := by
    intro b l hm
    simp only [List.mem_cons, Prod.mk.injEq, List.not_mem_nil, or_false] at hm
    rcases hm with ⟨rfl, _⟩ | ⟨rfl, _⟩
    · exact .inl (by omega)
    · exact .inl (by omega)
  have BX10 := Lib.hid (BX9.out.away hM9 (by omega) hall)
  have SX10 := Lib.hid (SX9.out.trans (hM9.below.mono (by omega)))
  have HMK := Lib.hid (show MrkV w9 ga n from hmk)
  clear hmk hM9 hall
  go_wp2_with fail
  refine (held_anyV ga n gc w9 HMK.out (by omega)).mono ?_
  rintro e w10 ⟨rfl, hw10⟩
  rw [hw10]
  clear hw10
  have a0 := (BX10.out.mem (.tail _ (.head _))) 0 _ rfl
  have a1 := (BX10.out.mem (.tail _ (.head _))) 1 _ rfl
  have a2 := (BX10.out.mem (.tail _ (.head _))) 2 _ rfl
  have a3 := (BX10.out.mem (.tail _ (.head _))) 3 _ rfl
  have a4 := (BX10.out.mem (.tail _ (.head _))) 4 _ rfl
  have a5 := (BX10.out.mem (.tail _ (.head _))) 5 _ rfl
  have a6 := (BX10.out.mem (.tail _ (.head _))) 6 _ rfl
  have a7 := (BX10.out.mem (.tail _ (.head _))) 7 _ rfl
  have a8 := (BX10.out.mem (.tail _ (.head _))) 8 _ rfl
  go_wp2_with fail
  clear a0 a1 a2 a3 a4 a5 a6 a7 a8
  refine (laws_toBody B c _ (HB.out.below BX10.out.bel) HS.out).mono ?_
  rintro e w11 ⟨Y, rfl, hY, hB11⟩
  have BX11 := Lib.hid (BX10.out.call hB11)
  have SX11 := Lib.hid (SX10.out.trans (hB11.mono SX10.out.size))
  have MK11 := Lib.hid (HMK.out.below hB11)
  have HY := Lib.hid hY
  clear hB11 hY
  go_wp2_with fail
  refine (HIM.out Y _ HY.out).mono ?_
  rintro e w12 ⟨hv, rfl, hho, hB12⟩
  obtain ⟨ha, hc, rfl, hhi, _⟩ := hho
  rw [HLN.out] at hhi ⊢
  have HI12 := Lib.hid hhi
  have BX12 := Lib.hid (BX11.out.call hB12)
  have SX12 := Lib.hid (SX11.out.trans (hB12.mono SX11.out.size))
  have MK12 := Lib.hid (MK11.out.below hB12)
  clear hB12 hhi
  go_wp2_with fail
  refine (laws_eqVectorS _ _ _ _ _ _ _ HI12.out (SI.out.below SX12.out)).mono ?_
  rintro en w13 ⟨rfl, hB13⟩
  have MK13 := Lib.hid (MK12.out.below hB13)
  have BX13 := Lib.hid (BX12.out.call hB13)
  clear hB13
  go_wp2_with fail
  refine (held_anyV ga n gc w13 MK13.out (by omega)).mono ?_
  rintro e w14 ⟨rfl, hw14⟩
  rw [hw14]
  clear hw14
  go_wp2
  go_ret
  exact ⟨rfl, BX13.out.bel⟩
theorem FnExactForcesOf_law (pa ta sa wa : Option Addr) (pl pc tl tc sl sc wl wc : Nat) (cs : List C3) (ts : List (List Int)) (ss : List SC) (zs : List Nat) (fi be fx fy fz : Nat) (w : World) (hp : IsVs w pa pl pc cs) (ht : IsTs w ta tl tc ts) (hs : IsSs w sa sl sc ss) (hw : IsFs .f32 w wa wl wc zs) (hf : fi < 2 ^ FloatKind.f32.format.width ∧ be < 2 ^ FloatKind.f32.format.width ∧ fx < 2 ^ FloatKind.f32.format.width ∧ fy < 2 ^ FloatKind.f32.format.width ∧ fz < 2 ^ FloatKind.f32.format.width) :
    Calls Tryz.prog 3 #[.agg #[.slice pa pl pc, .slice ta tl tc, .slice sa sl sc, .float .f32 fi, .float .f32 be, .slice wa wl wc, .float .f32 fx, .float .f32 fy, .float .f32 fz]] w fun e w' => e = .returned (.bool true) ∧ Below w.heap.size w w' :=
  forcesOf_law ⟨pa, ta, sa, wa, pl, pc, tl, tc, sl, sc, wl, wc, fi, be, fx, fy, fz⟩ ⟨cs, ts, ss, zs, cls .f32 fi, cls .f32 be, (cls .f32 fx, cls .f32 fy, cls .f32 fz)⟩ w ⟨hp, ht, hs, hw, FV.self hf.1, FV.self hf.2.1, FV.self hf.2.2.1, FV.self hf.2.2.2.1, FV.self hf.2.2.2.2⟩
end Go.Proofs.YtcgnmnbjgamedabGreat

/-
The law FnExactForcesOf holds at every input: its frame. Conditions: none.
-/
namespace Go.Proofs.YtcgnmnbjgamedabGreat.fnExactForcesOfDone
open Go.ChangeShapes Go.WideShapes Go.ChangeAt Go.RowKit
open Go.ChangeMaps (open_string shut_string)
set_option linter.unusedVariables false

theorem own : ownKnob Tryz.prog.godebug = none := by kernel_rfl
theorem laidOut : laidOutB Tryz.prog = true := by kernel_rfl

set_option maxRecDepth 100000 in
theorem lifted (os : Os) (started : os.Started) (H : Type) (enc : TypeId × Value → H) :
    ReturnsInHanded {} Tryz.checked os 3 .any (Rows.fnExactForcesOfSpec.pre6 enc Tryz.prog Tryz.f3 Rows.fnExactForcesOfRow.domain false) (Rows.fnExactForcesOfSpec.post enc Tryz.prog Tryz.f3 false true false false) := by
  refine returnsInHanded_of_change (C := Tryz.checked) own started (by kernel_rfl) Tryz.func3
    (ChangeSpec.witness6 (enc := enc) (C := Tryz.checked) false ⟨#[], #[.agg #[.slice none 0 0, .slice none 0 0, .slice none 0 0, .float .f32 0, .float .f32 0, .slice none 0 0, .float .f32 0, .float .f32 0, .float .f32 0]], []⟩ 8 (by kernel_rfl) (by kernel_rfl) (by kernel_rfl) (by kernel_rfl)) ?_
  intro W base args ds gs before hval0 hW hcnd _
  have hval : ∀ (j : Nat) t v, Tryz.f3.params[j]? = some t → args[j]? = some v → Value.okWide Tryz.prog W .any base t v := hval0
  have hW' := hW
  obtain ⟨p, q, hA0, hV, rfl, hfz, hnd⟩ := hW
  have hA : DataW.TrodAll enc Tryz.prog W 0 (fun _ => true) true Tryz.f3.params.toList args.toList ds p := hA0
  rw [Tryz.params3] at hA hval
  obtain ⟨v0, vs0, d0, ds0, p0, q0, hargs, rfl, rfl, h0, r0⟩ := trodAll_cons hA
  obtain ⟨rfl, rfl, rfl⟩ := trodAll_nil r0
  obtain rfl : args = #[v0] := by cases args; simp_all
  obtain ⟨rfl, rfl⟩ := trodVars_none hV
  have k0 := h0
  have lt0 : ∀ x ∈ p0, x.block < W.heap.size := by obtain ⟨m, hm⟩ := k0; exact DataW.trod_lt m _ _ _ hm
  obtain ⟨pa0, ta0, sa0, wa0, pl0, pc0, tl0, tc0, sl0, sc0, wl0, wc0, cs0, ts0, ss0, zs0, fi0, be0, fx0, fy0, fz0, e0, wp0, wt0, ws0, ww0, wf0⟩ := Fk.open_body Tryz.underlying32 (by kernel_rfl) (by kernel_rfl) (by kernel_rfl) Tryz.underlying25 (by kernel_rfl) Tryz.underlying22 Tryz.underlying30 (by kernel_rfl) (by kernel_rfl) Tryz.underlying27 Tryz.underlying27 Tryz.underlying27 Tryz.underlying23 Tryz.underlying49 Tryz.underlying2 (by kernel_rfl) (by kernel_rfl) Tryz.underlying26 Tryz.underlying127 (by kernel_rfl) (by kernel_rfl) Tryz.underlying2 Tryz.underlying2 Tryz.underlying27 Tryz.underlying27 Tryz.underlying27 Tryz.underlying27 Tryz.underlying28 Tryz.underlying27 (by kernel_rfl) Tryz.underlying30 (by kernel_rfl) Tryz.underlying27 Tryz.underlying27 Tryz.underlying27 (hval 0 32 v0 rfl rfl) h0
  subst e0
  clear hA0 hval0
  refine (FnExactForcesOf_law pa0 ta0 sa0 wa0 pl0 pc0 tl0 tc0 sl0 sc0 wl0 wc0 cs0 ts0 ss0 zs0 fi0 be0 fx0 fy0 fz0 W wp0 wt0 ws0 ww0 wf0).mono fun e W' ⟨he, bel⟩ => ?_
  subst he
  exact ⟨_, rfl, _, _, _, [], _, [], hW', trodAll_mk1 (shut_bool Tryz.underlying4 _), (trodAll_cons_mk (Below.trod laidOut (by kernel_rfl) (of_decide_eq_true (by kernel_rfl)) k0 bel lt0) trodAll_mk0), rfl, bel.frame _, fun h => by cases h⟩
end Go.Proofs.YtcgnmnbjgamedabGreat.fnExactForcesOfDone

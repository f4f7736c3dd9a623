/-
Texts in one: what StillMotion stands on, part 27. Conditions: those of each.
-/
import Derived.Test.YtmbekamnogbgaaaKStillMotion26
import Derived.Test.YtmbekamnogbgaaaRows
import Derived.WalkKit
import Derived.ProofKit
import Derived.OpenShut
import Derived.ShutString
import Derived.ChangeOld
import Derived.Below
import Derived.Lib.SmallJoins

/-
The law of motions that stand still returns true: its walk. Conditions: none beyond that the body lies in memory.
-/
namespace Go.Proofs.Ytmbekamnogbgaaa
open Go Fk Go.RowKit
set_option linter.unusedVariables false
set_option maxRecDepth 16000

set_option maxHeartbeats 4000000 in
theorem stillMotion_law (B : Bd) (c : Bc) (w : World) (h : IsB w B c) :
    Calls Try.prog 6 #[B.v] w fun e w' => e = .returned (.bool true) ∧ Below w.heap.size w w' := by
  have ulb := Try.underlying48
  have uib := Try.underlying36
  have uim := Try.underlying67
  have HB := Lib.hid h
  have BX : Hid (Bx w [(w.heap.size, B.l)] (w.alloc (BoxB B 48))) := Lib.hid ((Bx.nil w).box (vs := B.l) (t := 48))
  clear h
  have HSP := Lib.hid (fun (B : Bd) (w : World) (h : IsB w B c) => spec_StillMotion B c w h)
  have HIM := Lib.hid (fun (B : Bd) (w : World) (h : IsB w B c) => impl_StillMotion B c w h)
  obtain ⟨len1, len2, len3, len4, len6, len5⟩ := sti_len c
  generalize stiC c = bc at *
  generalize stiV c = bv at *
  generalize bodyB c = ok at *
  have HSB : Hid (SmallB bc) := Lib.hid ⟨⟨by omega, by omega, len5⟩, by omega, by omega⟩
  have LEN := Lib.hid (And.intro len1 (And.intro len2 (And.intro len3 (And.intro len4 len6))))
  clear len1 len2 len3 len4 len5 len6
  have hvb : (ok == ok) = true := by cases ok <;> rfl
  have hvb' : (ok != ok) = false := by cases ok <;> rfl
  go_enter Try.func6, Try.ntmps6
  go_wp2_with fail
  change Calls _ _ _ (w.alloc (BoxB B 48)) _
  generalize (w.alloc (BoxB B 48)) = W at *
  refine (laws_szBody B c 1048576 _ (HB.out.below BX.out.bel) (by decide) (by decide)).mono ?_
  rintro e w1 ⟨⟨r, rfl, hr⟩, hB1⟩
  have BX1 := Lib.hid (BX.out.call hB1)
  clear hB1
  rcases hr with rfl | ⟨hr0, hs⟩
  · go_wp2
    go_ret
    exact ⟨rfl, BX1.out.bel⟩
  have HS := Lib.hid hs
  clear hs
  have a0 := (BX1.out.mem (.head _)) 0 _ rfl
  have a1 := (BX1.out.mem (.head _)) 1 _ rfl
  have a2 := (BX1.out.mem (.head _)) 2 _ rfl
  have a3 := (BX1.out.mem (.head _)) 3 _ rfl
  have a4 := (BX1.out.mem (.head _)) 4 _ rfl
  have a5 := (BX1.out.mem (.head _)) 5 _ rfl
  have a6 := (BX1.out.mem (.head _)) 6 _ rfl
  have a7 := (BX1.out.mem (.head _)) 7 _ rfl
  have a8 := (BX1.out.mem (.head _)) 8 _ rfl
  go_wp2_with fail
  clear a0 a1 a2 a3 a4 a5 a6 a7 a8
  refine (laws_toBody B c _ (HB.out.below BX1.out.bel) HS.out).mono ?_
  rintro e w2 ⟨B0, rfl, hI0, hB2⟩
  have BX2 := Lib.hid (BX1.out.call hB2)
  have I0 := Lib.hid hI0
  clear hB2 hI0
  go_wp2_with fail
  refine (HSP.out B0 _ I0.out).mono ?_
  rintro e w3 ⟨⟨B1, va1, rfl, hI1, hV1, hL1, hLV1⟩, hB3⟩
  have BX3 := Lib.hid (BX2.out.call hB3)
  have hX3 : Below w3.heap.size w3 (w3.alloc (BoxM B1 va1 bv.length bv.length 67)) := (Below.refl _ _).alloc (Nat.le_refl _) _
  have BX4 : Hid (Bx w [(w3.heap.size, ml B1 va1 bv.length bv.length), (w.heap.size, B.l)] (w3.alloc (BoxM B1 va1 bv.length bv.length 67))) := Lib.hid (BX3.out.box (vs := ml B1 va1 bv.length bv.length) (t := 67))
  have I1 := Lib.hid (And.intro (hI1.below hX3) (And.intro (hL1.agree (S := fun _ => True) (fun _ _ _ => trivial) (Agree.of_below hX3)) (And.intro (hV1.below hX3) hLV1)))
  have Z1 : Hid (w2.heap.size ≤ w3.heap.size ∧ (w3.alloc (BoxM B1 va1 bv.length bv.length 67)).heap.size = w3.heap.size + 1 ∧ w.heap.size ≤ w2.heap.size) := Lib.hid ⟨hB3.size, by simp, BX2.out.bel.size⟩
  have a0 := fun (ob : Obj) => cell_alloc (o := ob) ((BX3.out.mem (.head _)) 0 _ rfl)
  have a1 := fun (ob : Obj) => cell_alloc (o := ob) ((BX3.out.mem (.head _)) 1 _ rfl)
  have a2 := fun (ob : Obj) => cell_alloc (o := ob) ((BX3.out.mem (.head _)) 2 _ rfl)
  have a3 := fun (ob : Obj) => cell_alloc (o := ob) ((BX3.out.mem (.head _)) 3 _ rfl)
  have a4 := fun (ob : Obj) => cell_alloc (o := ob) ((BX3.out.mem (.head _)) 4 _ rfl)
  have a5 := fun (ob : Obj) => cell_alloc (o := ob) ((BX3.out.mem (.head _)) 5 _ rfl)
  have a6 := fun (ob : Obj) => cell_alloc (o := ob) ((BX3.out.mem (.head _)) 6 _ rfl)
  have a7 := fun (ob : Obj) => cell_alloc (o := ob) ((BX3.out.mem (.head _)) 7 _ rfl)
  have a8 := fun (ob : Obj) => cell_alloc (o := ob) ((BX3.out.mem (.head _)) 8 _ rfl)
  clear hB3 hI1 hL1 hV1 hLV1 hX3
  go_wp2_with fail
  clear a0 a1 a2 a3 a4 a5 a6 a7 a8
  change Calls _ _ _ (w3.alloc (BoxM B1 va1 bv.length bv.length 67)) _
  generalize (w3.alloc (BoxM B1 va1 bv.length bv.length 67)) = W3 at *
  generalize w3.heap.size = S at *
  refine (laws_toBodyO B c _ (HB.out.below BX4.out.bel) HS.out).mono ?_
  rintro e w4 ⟨X0, rfl, hIX, hOX, hB4⟩
  have BX5 := Lib.hid (BX4.out.call hB4)
  have hX4 : Below w4.heap.size w4 (w4.alloc (BoxB X0 36)) := (Below.refl _ _).alloc (Nat.le_refl _) _
  have BX6 : Hid (Bx w [(w4.heap.size, X0.l), (S, ml B1 va1 bv.length bv.length), (w.heap.size, B.l)] (w4.alloc (BoxB X0 36))) := Lib.hid (BX5.out.box (vs := X0.l) (t := 36))
  have hB46 := hB4.trans (hX4.mono hB4.size)
  have I4 := Lib.hid (And.intro (I1.out.1.below hB46) (And.intro (I1.out.2.1.agree (S := fun _ => True) (fun _ _ _ => trivial) (Agree.of_below hB46)) (And.intro (I1.out.2.2.1.below hB46) I1.out.2.2.2)))
  have M4 := Lib.hid (And.intro (hIX.below hX4) (hOX.below hX4))
  have Z4 : Hid (W3.heap.size ≤ w4.heap.size ∧ (w4.alloc (BoxB X0 36)).heap.size = w4.heap.size + 1) := Lib.hid ⟨hB4.size, by simp⟩
  clear hIX hOX hB4 hX4 hB46
  go_wp2_with fail
  change Calls _ _ _ (w4.alloc (BoxB X0 36)) _
  generalize (w4.alloc (BoxB X0 36)) = W4 at *
  generalize w4.heap.size = X at *
  refine (HIM.out X0 _ M4.out.1).mono ?_
  rintro e w5 ⟨⟨B2, F, va2, rfl, hI2, hV2, hG2⟩, hB5⟩
  have BX7 := Lib.hid (BX6.out.call hB5)
  have hX5 : Below w5.heap.size w5 (w5.alloc (BoxM B2 va2 bv.length bv.length 67)) := (Below.refl _ _).alloc (Nat.le_refl _) _
  have hB57 := hB5.trans (hX5.mono hB5.size)
  have BX8 : Hid (Bx w [(w5.heap.size, ml B2 va2 bv.length bv.length), (X, X0.l), (S, ml B1 va1 bv.length bv.length), (w.heap.size, B.l)] (w5.alloc (BoxM B2 va2 bv.length bv.length 67))) := Lib.hid (BX7.out.box (vs := ml B2 va2 bv.length bv.length) (t := 67))
  have I5 := Lib.hid (And.intro (I4.out.1.below hB57) (And.intro (I4.out.2.1.agree (S := fun _ => True) (fun _ _ _ => trivial) (Agree.of_below hB57)) (And.intro (I4.out.2.2.1.below hB57) I4.out.2.2.2)))
  have M5 := Lib.hid (And.intro (M4.out.1.below hB57) (M4.out.2.below hB57))
  have J5 := Lib.hid (And.intro (hI2.below hX5) (And.intro (hV2.below hX5) (hG2.below hX5)))
  have Z5 : Hid (W4.heap.size ≤ w5.heap.size ∧ (w5.alloc (BoxM B2 va2 bv.length bv.length 67)).heap.size = w5.heap.size + 1) := Lib.hid ⟨hB5.size, by simp⟩
  have b0 := fun (ob : Obj) => cell_alloc (o := ob) ((BX7.out.mem (.tail _ (.head _))) 0 _ rfl)
  have b1 := fun (ob : Obj) => cell_alloc (o := ob) ((BX7.out.mem (.tail _ (.head _))) 1 _ rfl)
  have b2 := fun (ob : Obj) => cell_alloc (o := ob) ((BX7.out.mem (.tail _ (.head _))) 2 _ rfl)
  have b3 := fun (ob : Obj) => cell_alloc (o := ob) ((BX7.out.mem (.tail _ (.head _))) 3 _ rfl)
  have b4 := fun (ob : Obj) => cell_alloc (o := ob) ((BX7.out.mem (.tail _ (.head _))) 4 _ rfl)
  have b5 := fun (ob : Obj) => cell_alloc (o := ob) ((BX7.out.mem (.tail _ (.head _))) 5 _ rfl)
  have b6 := fun (ob : Obj) => cell_alloc (o := ob) ((BX7.out.mem (.tail _ (.head _))) 6 _ rfl)
  have b7 := fun (ob : Obj) => cell_alloc (o := ob) ((BX7.out.mem (.tail _ (.head _))) 7 _ rfl)
  have b8 := fun (ob : Obj) => cell_alloc (o := ob) ((BX7.out.mem (.tail _ (.head _))) 8 _ rfl)
  have b9 := fun (ob : Obj) => cell_alloc (o := ob) ((BX7.out.mem (.tail _ (.head _))) 9 _ rfl)
  clear hB5 hX5 hB57 hI2 hG2 hV2
  go_wp2_with fail
  clear b0 b1 b2 b3 b4 b5 b6 b7 b8 b9
  change Calls _ _ _ (w5.alloc (BoxM B2 va2 bv.length bv.length 67)) _
  generalize (w5.alloc (BoxM B2 va2 bv.length bv.length 67)) = W5 at *
  generalize w5.heap.size = G at *
  refine (laws_eqMotion B2 B1 bc va2 va1 bv.length bv.length bv.length bv _ J5.out.1 I5.out.1 HSB.out J5.out.2.1 I5.out.2.2.1).mono ?_
  rintro e w6 ⟨rfl, hB6⟩
  have BX9 := Lib.hid (BX8.out.call hB6)
  have I6 := Lib.hid (And.intro (I5.out.1.below hB6) (And.intro (I5.out.2.1.agree (S := fun _ => True) (fun _ _ _ => trivial) (Agree.of_below hB6)) (And.intro (I5.out.2.2.1.below hB6) I5.out.2.2.2)))
  have M6 := Lib.hid (And.intro (M5.out.1.below hB6) (M5.out.2.below hB6))
  have J6 := Lib.hid (And.intro (J5.out.1.below hB6) (And.intro (J5.out.2.1.below hB6) (J5.out.2.2.below hB6)))
  have Z6 := Lib.hid hB6.size
  clear hB6
  go_wp2_with fail
  refine Reg.wp_region_mix (C := fun w' => Below w6.heap.size w6 w') (G := fun w1 w2 => Below w1.heap.size w1 w2) (R := fun i v w' => match i with | 0 => v = X0.v | 1 => v = B.v | 2 => ∃ Y : Bd, v = Y.v ∧ IsB w' Y c | 3 => v = .bool true | 4 => v = .bool false | _ => True) (T := fun _ _ _ => True) [false, false, false, false, false, false, false, false, false, false, false, false, false, false, false, false, false, false, false, false, false, false, false, false, false, false, false, false, false, false, false, false, false, false, false, false, false, false, false, false, false, true, true, true, true, true, false, false, false, false, false, false, false, false, false, false, false, false, false, false, false, false, false, false, false, false, false, false, false, false, false, false, false, false, false, false, false, false, false, false, false, false, false, false, false, false, false, false, false, false, false, false, false, false, false, false]
    (by kernel_rfl) (by kernel_rfl) (by kernel_rfl) ?_ (below_drewN (Below.refl _ _) 1) ?_ ?_
  · intro j v w1 w2 _ hG hR
    match j with
    | 0 => exact hR
    | 1 => exact hR
    | 2 => obtain ⟨Y, e, h1⟩ := hR; exact ⟨Y, e, h1.below hG⟩
    | 3 => exact hR
    | 4 => exact hR
    | _ + 5 => trivial
  · refine ⟨Reg.Obl.mk ?_, Reg.Obl.mk ?_, Reg.Obl.mk ?_, Reg.Obl.mk ?_, Reg.Obl.mk ?_, trivial⟩
    · rintro a wq hB hx hd K hK
      have HC := Lib.hid hB
      clear hB
      have t6 : a.tmps[6]?.getD undef = .pointer (some ⟨X, 0, none⟩) := Reg.slot_val (hx 6 (by kernel_rfl))
      have y0 := ((BX9.out.call HC.out).mem (.tail _ (.head _))) 0 _ rfl
      have y1 := ((BX9.out.call HC.out).mem (.tail _ (.head _))) 1 _ rfl
      have y2 := ((BX9.out.call HC.out).mem (.tail _ (.head _))) 2 _ rfl
      have y3 := ((BX9.out.call HC.out).mem (.tail _ (.head _))) 3 _ rfl
      have y4 := ((BX9.out.call HC.out).mem (.tail _ (.head _))) 4 _ rfl
      have y5 := ((BX9.out.call HC.out).mem (.tail _ (.head _))) 5 _ rfl
      have y6 := ((BX9.out.call HC.out).mem (.tail _ (.head _))) 6 _ rfl
      have y7 := ((BX9.out.call HC.out).mem (.tail _ (.head _))) 7 _ rfl
      have y8 := ((BX9.out.call HC.out).mem (.tail _ (.head _))) 8 _ rfl
      go_simp
      exact hK _ _ (fun _ => rfl) (fun h => by cases h) HC.out (Below.refl _ _)
    · rintro a wq hB hx hd K hK
      have HC := Lib.hid hB
      clear hB
      have t1 : a.tmps[1]?.getD undef = .pointer (some ⟨w.heap.size, 0, none⟩) := Reg.slot_val (hx 1 (by kernel_rfl))
      have y0 := ((BX9.out.call HC.out).mem (.tail _ (.tail _ (.tail _ (.head _))))) 0 _ rfl
      have y1 := ((BX9.out.call HC.out).mem (.tail _ (.tail _ (.tail _ (.head _))))) 1 _ rfl
      have y2 := ((BX9.out.call HC.out).mem (.tail _ (.tail _ (.tail _ (.head _))))) 2 _ rfl
      have y3 := ((BX9.out.call HC.out).mem (.tail _ (.tail _ (.tail _ (.head _))))) 3 _ rfl
      have y4 := ((BX9.out.call HC.out).mem (.tail _ (.tail _ (.tail _ (.head _))))) 4 _ rfl
      have y5 := ((BX9.out.call HC.out).mem (.tail _ (.tail _ (.tail _ (.head _))))) 5 _ rfl
      have y6 := ((BX9.out.call HC.out).mem (.tail _ (.tail _ (.tail _ (.head _))))) 6 _ rfl
      have y7 := ((BX9.out.call HC.out).mem (.tail _ (.tail _ (.tail _ (.head _))))) 7 _ rfl
      have y8 := ((BX9.out.call HC.out).mem (.tail _ (.tail _ (.tail _ (.head _))))) 8 _ rfl
      go_simp
      exact hK _ _ (fun _ => rfl) (fun h => by cases h) HC.out (Below.refl _ _)
    · rintro a wq hB hx hd K hK
      have HC := Lib.hid hB
      clear hB
      have t42 : a.tmps[42]?.getD undef = B.v := Reg.slot_val (hd 1 (by kernel_rfl) 42 rfl)
      go_simp
      refine (laws_toBody B c _ (HB.out.below (BX9.out.call HC.out).bel) HS.out).mono ?_
      rintro en w2 ⟨Y, rfl, hV, hB2⟩
      exact hK _ _ (fun _ => ⟨Y, rfl, hV⟩) (fun h => by cases h) (HC.out.trans (hB2.mono HC.out.size)) hB2
    · rintro a wq hB hx hd K hK
      have HC := Lib.hid hB
      clear hB
      have t41 : a.tmps[41]?.getD undef = X0.v := Reg.slot_val (hd 0 (by kernel_rfl) 41 rfl)
      obtain ⟨Y, g2, hV⟩ := hd 2 (by kernel_rfl) 43 rfl
      have t43 := Reg.slot_val g2
      clear g2
      have HVe := Lib.hid hV
      clear hV
      go_simp
      refine (laws_eqBody X0 Y c _ (M6.out.1.below HC.out) HVe.out HS.out).mono ?_
      rintro en w2 ⟨rfl, hB2⟩
      exact hK _ _ (fun _ => rfl) (fun h => by cases h) (HC.out.trans (hB2.mono HC.out.size)) hB2
    · rintro a wq hB hx hd K hK
      have t44 : a.tmps[44]?.getD undef = .bool true := Reg.slot_val (hd 3 (by kernel_rfl) 44 rfl)
      go_simp
      exact hK _ _ (fun _ => rfl) (fun h => by cases h) hB (Below.refl _ _)
  rintro f wz hBz hd hTT
  have g45 : f 45 = .bool false := hd 4 45 rfl
  simp only [Reg.mixL, g45]
  have BXz := Lib.hid (BX9.out.call hBz)
  have Iz := Lib.hid (And.intro (I6.out.1.below hBz) (And.intro (I6.out.2.1.agree (S := fun _ => True) (fun _ _ _ => trivial) (Agree.of_below hBz)) (And.intro (I6.out.2.2.1.below hBz) I6.out.2.2.2)))
  have Oz := Lib.hid (And.intro (M6.out.1.below hBz) (M6.out.2.below hBz))
  have Jz := Lib.hid (And.intro (J6.out.1.below hBz) (And.intro (J6.out.2.1.below hBz) (J6.out.2.2.below hBz)))
  have Zz := Lib.hid hBz.size
  clear hBz hd hTT g45
  have z1 := Z1.out
  have z4 := Z4.out
  have z5 := Z5.out
  have z6 := Z6.out
  have zz := Zz.out
  have hSlt : S < W3.heap.size := by omega
  have x0 := (BXz.out.mem (.tail _ (.head _))) 0 _ rfl
  have x1 := (BXz.out.mem (.tail _ (.head _))) 1 _ rfl
  have x2 := (BXz.out.mem (.tail _ (.head _))) 2 _ rfl
  have x3 := (BXz.out.mem (.tail _ (.head _))) 3 _ rfl
  have x4 := (BXz.out.mem (.tail _ (.head _))) 4 _ rfl
  have x5 := (BXz.out.mem (.tail _ (.head _))) 5 _ rfl
  have x6 := (BXz.out.mem (.tail _ (.head _))) 6 _ rfl
  have x7 := (BXz.out.mem (.tail _ (.head _))) 7 _ rfl
  have x8 := (BXz.out.mem (.tail _ (.head _))) 8 _ rfl
  go_wp2_with fail
  clear x0 x1 x2 x3 x4 x5 x6 x7 x8
  refine (laws_markBodyO W3.heap.size X X0 c wz Oz.out.2 Oz.out.1 HS.out (by omega) (by omega)).mono ?_
  rintro e w7 ⟨z7, rfl, hM⟩
  have hz0 : ¬ ((z7 : Int) < 0) := by omega
  have hall : ∀ b l, (b, l) ∈ [(G, ml B2 va2 bv.length bv.length), (X, X0.l), (S, ml B1 va1 bv.length bv.length), (w.heap.size, B.l)] → b < W3.heap.size ∨ X ≤ b := by
    intro b l hm
    simp only [List.mem_cons, Prod.mk.injEq, List.not_mem_nil, or_false] at hm
    rcases hm with ⟨rfl, _⟩ | ⟨rfl, _⟩ | ⟨rfl, _⟩ | ⟨rfl, _⟩
    · exact .inr (by omega)
    · exact .inr (by omega)
    · exact .inl (by omega)
    · exact .inl (by omega)
  have BX10 := Lib.hid (BXz.out.away hM (by omega) hall)
  have AG := Agree.of_mark hM
  have I7 := Lib.hid (And.intro (Iz.out.1.agree Iz.out.2.1 (fun b k1 k2 => .inl (by omega)) AG) (And.intro (Iz.out.2.1.agree (fun b k1 k2 => .inl (by omega)) AG) (And.intro (vs_agree Iz.out.2.2.1 Iz.out.2.2.2 (fun b k1 k2 => .inl (by omega)) AG) Iz.out.2.2.2)))
  have J7 := Lib.hid (And.intro (Jz.out.1.agree Jz.out.2.2.1.lb (fun b k1 k2 => .inr (by omega)) AG) (And.intro (vs_agree Jz.out.2.1 (lst_lv Jz.out.2.2.2.1) (fun b k1 k2 => .inr (by omega)) AG) (Jz.out.2.2.agree (fun b k1 k2 => .inr (by omega)) AG)))
  have z7s := hM.below.size
  clear hM hall AG
  have u0 := (BX10.out.mem (.head _)) 0 _ rfl
  have u1 := (BX10.out.mem (.head _)) 1 _ rfl
  have u2 := (BX10.out.mem (.head _)) 2 _ rfl
  have u3 := (BX10.out.mem (.head _)) 3 _ rfl
  have u4 := (BX10.out.mem (.head _)) 4 _ rfl
  have u5 := (BX10.out.mem (.head _)) 5 _ rfl
  have u6 := (BX10.out.mem (.head _)) 6 _ rfl
  have u7 := (BX10.out.mem (.head _)) 7 _ rfl
  have u8 := (BX10.out.mem (.head _)) 8 _ rfl
  have u9 := (BX10.out.mem (.head _)) 9 _ rfl
  have v0 := (BX10.out.mem (.tail _ (.tail _ (.head _)))) 0 _ rfl
  have v1 := (BX10.out.mem (.tail _ (.tail _ (.head _)))) 1 _ rfl
  have v2 := (BX10.out.mem (.tail _ (.tail _ (.head _)))) 2 _ rfl
  have v3 := (BX10.out.mem (.tail _ (.tail _ (.head _)))) 3 _ rfl
  have v4 := (BX10.out.mem (.tail _ (.tail _ (.head _)))) 4 _ rfl
  have v5 := (BX10.out.mem (.tail _ (.tail _ (.head _)))) 5 _ rfl
  have v6 := (BX10.out.mem (.tail _ (.tail _ (.head _)))) 6 _ rfl
  have v7 := (BX10.out.mem (.tail _ (.tail _ (.head _)))) 7 _ rfl
  have v8 := (BX10.out.mem (.tail _ (.tail _ (.head _)))) 8 _ rfl
  have v9 := (BX10.out.mem (.tail _ (.tail _ (.head _)))) 9 _ rfl
  go_wp2_with fail
  clear u0 u1 u2 u3 u4 u5 u6 u7 u8 u9 v0 v1 v2 v3 v4 v5 v6 v7 v8 v9
  refine (laws_eqMotion B2 B1 bc va2 va1 bv.length bv.length bv.length bv _ J7.out.1 I7.out.1 HSB.out J7.out.2.1 I7.out.2.2.1).mono ?_
  rintro e w8 ⟨rfl, hB8⟩
  have BX11 := Lib.hid (BX10.out.call hB8)
  have I8 := Lib.hid (And.intro (I7.out.1.below hB8) (And.intro (I7.out.2.1.agree (S := fun _ => True) (fun _ _ _ => trivial) (Agree.of_below hB8)) (And.intro (I7.out.2.2.1.below hB8) I7.out.2.2.2)))
  have J8 := Lib.hid (J7.out.2.2.below hB8)
  have LN : Hid (B2.pl ≤ 1000 ∧ B2.tl ≤ 1000 ∧ B2.sl ≤ 1000 ∧ B2.wl ≤ 1000 ∧ bv.length ≤ 1000) := Lib.hid (by
    have l := J7.out.1.lens
    have h := LEN.out
    exact ⟨by omega, by omega, by omega, by omega, by omega⟩)
  have z8 := hB8.size
  clear hB8
  have u0 := (BX11.out.mem (.head _)) 0 _ rfl
  have u1 := (BX11.out.mem (.head _)) 1 _ rfl
  have u2 := (BX11.out.mem (.head _)) 2 _ rfl
  have u3 := (BX11.out.mem (.head _)) 3 _ rfl
  have u4 := (BX11.out.mem (.head _)) 4 _ rfl
  have u5 := (BX11.out.mem (.head _)) 5 _ rfl
  have u6 := (BX11.out.mem (.head _)) 6 _ rfl
  have u7 := (BX11.out.mem (.head _)) 7 _ rfl
  have u8 := (BX11.out.mem (.head _)) 8 _ rfl
  have u9 := (BX11.out.mem (.head _)) 9 _ rfl
  go_wp2_with fail
  clear u0 u1 u2 u3 u4 u5 u6 u7 u8 u9
  refine (mark_gmo W4.heap.size G F B2 va2 bv.length bv.length w8 J8.out (by omega) LN.out.1 LN.out.2.1 LN.out.2.2.1 LN.out.2.2.2.1 LN.out.2.2.2.2).mono ?_
  rintro e w9 ⟨rfl, hmk, hM9⟩
  have hall : ∀ b l, (b, l) ∈ [(G, ml B2 va2 bv.length bv.length), (X, X0.l), (S, ml B1 va1 bv.length bv.length), (w.heap.size, B.l)] → b < W4.heap.size ∨ G ≤ b := by
    intro b l hm
    simp only [List.mem_cons, Prod.mk.injEq, List.not_mem_nil, or_false] at hm
    rcases hm with ⟨rfl, _⟩ | ⟨rfl, _⟩ | ⟨rfl, _⟩ | ⟨rfl, _⟩
    · exact .inr (by omega)
    · exact .inl (by omega)
    · exact .inl (by omega)
    · exact .inl (by omega)
  have BX12 := Lib.hid (BX11.out.away hM9 (by omega) hall)
  have AG := Agree.of_mark hM9
  have I9 := Lib.hid (And.intro (I8.out.1.agree I8.out.2.1 (fun b k1 k2 => .inl (by omega)) AG) (vs_agree I8.out.2.2.1 I8.out.2.2.2 (fun b k1 k2 => .inl (by omega)) AG))
  have HMK := Lib.hid hmk
  have HHG := Lib.hid (fun (w : World) (h : MrkMo w B2 F va2 bv.length) => held_gmo F B2 va2 bv.length bv.length w h LN.out.1 LN.out.2.1 LN.out.2.2.1 LN.out.2.2.2.1 LN.out.2.2.2.2)
  obtain ⟨N, hN⟩ : ∃ N, N = 1 + B2.pl * 3 + B2.tl * 3 + B2.sl * 4 + B2.wl + bv.length * 3 := ⟨_, rfl⟩
  rw [← hN] at HHG ⊢
  have hn0 : ¬ ((N : Int) < 0) := by omega
  clear hM9 hall AG hmk hN
  have u0 := (BX12.out.mem (.head _)) 0 _ rfl
  have u1 := (BX12.out.mem (.head _)) 1 _ rfl
  have u2 := (BX12.out.mem (.head _)) 2 _ rfl
  have u3 := (BX12.out.mem (.head _)) 3 _ rfl
  have u4 := (BX12.out.mem (.head _)) 4 _ rfl
  have u5 := (BX12.out.mem (.head _)) 5 _ rfl
  have u6 := (BX12.out.mem (.head _)) 6 _ rfl
  have u7 := (BX12.out.mem (.head _)) 7 _ rfl
  have u8 := (BX12.out.mem (.head _)) 8 _ rfl
  have u9 := (BX12.out.mem (.head _)) 9 _ rfl
  go_wp2_with fail
  clear u0 u1 u2 u3 u4 u5 u6 u7 u8 u9
  refine (HHG.out w9 HMK.out).mono ?_
  rintro e w10 ⟨rfl, hB10⟩
  have BX13 := Lib.hid (BX12.out.call hB10)
  have I10 := Lib.hid (And.intro (I9.out.1.below hB10) (I9.out.2.below hB10))
  have MK10 := Lib.hid (HMK.out.below hB10)
  clear hB10
  have a0 := (BX13.out.mem (.tail _ (.tail _ (.tail _ (.head _))))) 0 _ rfl
  have a1 := (BX13.out.mem (.tail _ (.tail _ (.tail _ (.head _))))) 1 _ rfl
  have a2 := (BX13.out.mem (.tail _ (.tail _ (.tail _ (.head _))))) 2 _ rfl
  have a3 := (BX13.out.mem (.tail _ (.tail _ (.tail _ (.head _))))) 3 _ rfl
  have a4 := (BX13.out.mem (.tail _ (.tail _ (.tail _ (.head _))))) 4 _ rfl
  have a5 := (BX13.out.mem (.tail _ (.tail _ (.tail _ (.head _))))) 5 _ rfl
  have a6 := (BX13.out.mem (.tail _ (.tail _ (.tail _ (.head _))))) 6 _ rfl
  have a7 := (BX13.out.mem (.tail _ (.tail _ (.tail _ (.head _))))) 7 _ rfl
  have a8 := (BX13.out.mem (.tail _ (.tail _ (.tail _ (.head _))))) 8 _ rfl
  go_wp2_with fail
  clear a0 a1 a2 a3 a4 a5 a6 a7 a8
  refine (laws_toBody B c _ (HB.out.below BX13.out.bel) HS.out).mono ?_
  rintro e w11 ⟨Y, rfl, hY, hB11⟩
  have BX14 := Lib.hid (BX13.out.call hB11)
  have I11 := Lib.hid (And.intro (I10.out.1.below hB11) (I10.out.2.below hB11))
  have MK11 := Lib.hid (MK10.out.below hB11)
  have HY := Lib.hid hY
  clear hB11 hY
  go_wp2_with fail
  refine (HIM.out Y _ HY.out).mono ?_
  rintro e w12 ⟨⟨B3, F', va3, rfl, hI3, hV3, _⟩, hB12⟩
  have BX15 := Lib.hid (BX14.out.call hB12)
  have hX : Below w12.heap.size w12 (w12.alloc (BoxM B3 va3 bv.length bv.length 67)) := (Below.refl _ _).alloc (Nat.le_refl _) _
  have hB13 := hB12.trans (hX.mono hB12.size)
  have BX16 : Hid (Bx w [(w12.heap.size, ml B3 va3 bv.length bv.length), (G, ml B2 va2 bv.length bv.length), (X, X0.l), (S, ml B1 va1 bv.length bv.length), (w.heap.size, B.l)] (w12.alloc (BoxM B3 va3 bv.length bv.length 67))) := Lib.hid (BX15.out.box (vs := ml B3 va3 bv.length bv.length) (t := 67))
  have I12 := Lib.hid (And.intro (I11.out.1.below hB13) (I11.out.2.below hB13))
  have I3 := Lib.hid (And.intro (hI3.below hX) (hV3.below hX))
  have MK12 := Lib.hid (MK11.out.below hB13)
  have v0 := fun (ob : Obj) => cell_alloc (o := ob) ((BX15.out.mem (.tail _ (.tail _ (.head _)))) 0 _ rfl)
  have v1 := fun (ob : Obj) => cell_alloc (o := ob) ((BX15.out.mem (.tail _ (.tail _ (.head _)))) 1 _ rfl)
  have v2 := fun (ob : Obj) => cell_alloc (o := ob) ((BX15.out.mem (.tail _ (.tail _ (.head _)))) 2 _ rfl)
  have v3 := fun (ob : Obj) => cell_alloc (o := ob) ((BX15.out.mem (.tail _ (.tail _ (.head _)))) 3 _ rfl)
  have v4 := fun (ob : Obj) => cell_alloc (o := ob) ((BX15.out.mem (.tail _ (.tail _ (.head _)))) 4 _ rfl)
  have v5 := fun (ob : Obj) => cell_alloc (o := ob) ((BX15.out.mem (.tail _ (.tail _ (.head _)))) 5 _ rfl)
  have v6 := fun (ob : Obj) => cell_alloc (o := ob) ((BX15.out.mem (.tail _ (.tail _ (.head _)))) 6 _ rfl)
  have v7 := fun (ob : Obj) => cell_alloc (o := ob) ((BX15.out.mem (.tail _ (.tail _ (.head _)))) 7 _ rfl)
  have v8 := fun (ob : Obj) => cell_alloc (o := ob) ((BX15.out.mem (.tail _ (.tail _ (.head _)))) 8 _ rfl)
  have v9 := fun (ob : Obj) => cell_alloc (o := ob) ((BX15.out.mem (.tail _ (.tail _ (.head _)))) 9 _ rfl)
  clear hB12 hX hB13 hI3 hV3
  go_wp2_with fail
  clear v0 v1 v2 v3 v4 v5 v6 v7 v8 v9
  change Calls _ _ _ (w12.alloc (BoxM B3 va3 bv.length bv.length 67)) _
  generalize (w12.alloc (BoxM B3 va3 bv.length bv.length 67)) = W12 at *
  refine (laws_eqMotion B3 B1 bc va3 va1 bv.length bv.length bv.length bv _ I3.out.1 I12.out.1 HSB.out I3.out.2 I12.out.2).mono ?_
  rintro e w13 ⟨rfl, hB14⟩
  have BX17 := Lib.hid (BX16.out.call hB14)
  have MK13 := Lib.hid (MK12.out.below hB14)
  clear hB14
  have u0 := (BX17.out.mem (.tail _ (.head _))) 0 _ rfl
  have u1 := (BX17.out.mem (.tail _ (.head _))) 1 _ rfl
  have u2 := (BX17.out.mem (.tail _ (.head _))) 2 _ rfl
  have u3 := (BX17.out.mem (.tail _ (.head _))) 3 _ rfl
  have u4 := (BX17.out.mem (.tail _ (.head _))) 4 _ rfl
  have u5 := (BX17.out.mem (.tail _ (.head _))) 5 _ rfl
  have u6 := (BX17.out.mem (.tail _ (.head _))) 6 _ rfl
  have u7 := (BX17.out.mem (.tail _ (.head _))) 7 _ rfl
  have u8 := (BX17.out.mem (.tail _ (.head _))) 8 _ rfl
  have u9 := (BX17.out.mem (.tail _ (.head _))) 9 _ rfl
  go_wp2_with fail
  clear u0 u1 u2 u3 u4 u5 u6 u7 u8 u9
  refine (HHG.out w13 MK13.out).mono ?_
  rintro e w14 ⟨rfl, hB15⟩
  have BX18 := Lib.hid (BX17.out.call hB15)
  clear hB15
  go_wp2
  go_ret
  exact ⟨rfl, BX18.out.bel⟩
theorem FnExactStillMotion_law (pa ta sa wa : Option Addr) (pl pc tl tc sl sc wl wc : Nat) (cs : List C3) (ts : List (List Int)) (ss : List SC) (zs : List Nat) (fi be fx fy fz : Nat) (w : World) (hp : IsVs w pa pl pc cs) (ht : IsTs w ta tl tc ts) (hs : IsSs w sa sl sc ss) (hw : IsFs .f32 w wa wl wc zs) (hf : fi < 2 ^ FloatKind.f32.format.width ∧ be < 2 ^ FloatKind.f32.format.width ∧ fx < 2 ^ FloatKind.f32.format.width ∧ fy < 2 ^ FloatKind.f32.format.width ∧ fz < 2 ^ FloatKind.f32.format.width) :
    Calls Try.prog 6 #[.agg #[.slice pa pl pc, .slice ta tl tc, .slice sa sl sc, .float .f32 fi, .float .f32 be, .slice wa wl wc, .float .f32 fx, .float .f32 fy, .float .f32 fz]] w fun e w' => e = .returned (.bool true) ∧ Below w.heap.size w w' :=
  stillMotion_law ⟨pa, ta, sa, wa, pl, pc, tl, tc, sl, sc, wl, wc, fi, be, fx, fy, fz⟩ ⟨cs, ts, ss, zs, cls .f32 fi, cls .f32 be, (cls .f32 fx, cls .f32 fy, cls .f32 fz)⟩ w ⟨hp, ht, hs, hw, FV.self hf.1, FV.self hf.2.1, FV.self hf.2.2.1, FV.self hf.2.2.2.1, FV.self hf.2.2.2.2⟩
end Go.Proofs.Ytmbekamnogbgaaa


/-
The law FnExactStillMotion holds at every input: its frame. Conditions: none.
-/
namespace Go.Proofs.Ytmbekamnogbgaaa.fnExactStillMotionDone
open Go.ChangeShapes Go.WideShapes Go.ChangeAt Go.RowKit
open Go.ChangeMaps (open_string shut_string)
set_option linter.unusedVariables false

theorem own : ownKnob Try.prog.godebug = none := by kernel_rfl
theorem laidOut : laidOutB Try.prog = true := by kernel_rfl

set_option maxRecDepth 100000 in
theorem lifted (os : Os) (started : os.Started) (H : Type) (enc : TypeId × Value → H) :
    ReturnsInHanded {} Try.checked os 6 .any (Rows.fnExactStillMotionSpec.pre6 enc Try.prog Try.f6 Rows.fnExactStillMotionRow.domain false) (Rows.fnExactStillMotionSpec.post enc Try.prog Try.f6 false true false false) := by
  refine returnsInHanded_of_change (C := Try.checked) own started (by kernel_rfl) Try.func6
    (ChangeSpec.witness6 (enc := enc) (C := Try.checked) false ⟨#[], #[.agg #[.slice none 0 0, .slice none 0 0, .slice none 0 0, .float .f32 0, .float .f32 0, .slice none 0 0, .float .f32 0, .float .f32 0, .float .f32 0]], []⟩ 8 (by kernel_rfl) (by kernel_rfl) (by kernel_rfl) (by kernel_rfl)) ?_
  intro W base args ds gs before hval0 hW hcnd _
  have hval : ∀ (j : Nat) t v, Try.f6.params[j]? = some t → args[j]? = some v → Value.okWide Try.prog W .any base t v := hval0
  have hW' := hW
  obtain ⟨p, q, hA0, hV, rfl, hfz, hnd⟩ := hW
  have hA : DataW.TrodAll enc Try.prog W 0 (fun _ => true) true Try.f6.params.toList args.toList ds p := hA0
  rw [Try.params6] at hA hval
  obtain ⟨v0, vs0, d0, ds0, p0, q0, hargs, rfl, rfl, h0, r0⟩ := trodAll_cons hA
  obtain ⟨rfl, rfl, rfl⟩ := trodAll_nil r0
  obtain rfl : args = #[v0] := by cases args; simp_all
  obtain ⟨rfl, rfl⟩ := trodVars_none hV
  have k0 := h0
  have lt0 : ∀ x ∈ p0, x.block < W.heap.size := by obtain ⟨m, hm⟩ := k0; exact DataW.trod_lt m _ _ _ hm
  obtain ⟨pa0, ta0, sa0, wa0, pl0, pc0, tl0, tc0, sl0, sc0, wl0, wc0, cs0, ts0, ss0, zs0, fi0, be0, fx0, fy0, fz0, e0, wp0, wt0, ws0, ww0, wf0⟩ := Fk.open_body Try.underlying48 (by kernel_rfl) (by kernel_rfl) (by kernel_rfl) Try.underlying25 (by kernel_rfl) Try.underlying22 Try.underlying46 (by kernel_rfl) (by kernel_rfl) Try.underlying31 Try.underlying31 Try.underlying31 Try.underlying23 Try.underlying81 Try.underlying2 (by kernel_rfl) (by kernel_rfl) Try.underlying45 Try.underlying176 (by kernel_rfl) (by kernel_rfl) Try.underlying2 Try.underlying2 Try.underlying31 Try.underlying31 Try.underlying31 Try.underlying31 Try.underlying32 Try.underlying31 (by kernel_rfl) Try.underlying46 (by kernel_rfl) Try.underlying31 Try.underlying31 Try.underlying31 (hval 0 48 v0 rfl rfl) h0
  subst e0
  clear hA0 hval0
  refine (FnExactStillMotion_law pa0 ta0 sa0 wa0 pl0 pc0 tl0 tc0 sl0 sc0 wl0 wc0 cs0 ts0 ss0 zs0 fi0 be0 fx0 fy0 fz0 W wp0 wt0 ws0 ww0 wf0).mono fun e W' ⟨he, bel⟩ => ?_
  subst he
  exact ⟨_, rfl, _, _, _, [], _, [], hW', trodAll_mk1 (shut_bool Try.underlying4 _), (trodAll_cons_mk (Below.trod laidOut (by kernel_rfl) (of_decide_eq_true (by kernel_rfl)) k0 bel lt0) trodAll_mk0), rfl, bel.frame _, fun h => by cases h⟩
end Go.Proofs.Ytmbekamnogbgaaa.fnExactStillMotionDone

/-
Texts in one: what PushedBody stands on, part 0. Conditions: those of each.
-/
import Derived.Test.YtabccmobmppdnaaGreatKEnergiesAlong12
import Derived.Test.YtabccmobmppdnaaGreatRows
import Derived.WalkKit
import Derived.ProofKit
import Derived.OpenShut
import Derived.ShutString
import Derived.ChangeOld
import Derived.Below
import Derived.Lib.SmallJoins
-- halved
namespace Go.Proofs.YtabccmobmppdnaaGreat
open Go Fk Go.RowKit
set_option linter.unusedVariables false
set_option maxRecDepth 16000
set_option maxHeartbeats 40000000 in
theorem pushedBody_law (B : Bd) (c : Bc) (a1 : Option Addr) (n1 c1 : Nat) (y1 : List C3) (x2 : Nat) (d2 : Option Nat) (x3 : Nat) (d3 : Option Nat) (w : World) (h0 : IsB w B c) (h1 : IsVs w a1 n1 c1 y1) (h2 : FV .f32 x2 d2) (g2 : x2 < 4294967296) (h3 : FV .f32 x3 d3) (g3 : x3 < 4294967296) :
  Calls Tryz.prog 10 #[B.v, .slice a1 n1 c1, .float .f32 x2, .float .f32 x3] w fun e w' => e = .returned (.bool true) ∧ Below w.heap.size w w' := by
 have ulb := Tryz.underlying32
 have uib := Tryz.underlying44
 have BX : Hid (Bx w [(w.heap.size, B.l)] (w.alloc (BoxB B 32))) := Lib.hid ((Bx.nil w).box (vs := B.l) (t := 32))
 have HSP := Lib.hid (fun (B : Bd) (a1 : Option Addr) (c1 : Nat) (w : World) (h0 : IsB w B c) (h1 : IsVs w a1 n1 c1 y1) => spec_PushedBody B c a1 n1 c1 y1 x2 d2 x3 d3 w h0 h1 h2 g2 h3 g3)
 have HIM := Lib.hid (fun (B : Bd) (a1 : Option Addr) (c1 : Nat) (w : World) (h0 : IsB w B c) (h1 : IsVs w a1 n1 c1 y1) => impl_PushedBody B c a1 n1 c1 y1 x2 d2 x3 d3 w h0 h1 h2 g2 h3 g3)
 have HB := Lib.hid h0
 have H1 := Lib.hid h1
 have hm1 : n1 ≤ 9223372036854775807 := by have qq := h1.2.1; have qr := h1.2.2.1; unfold maxLen at qr; omega
 have H2 := Lib.hid h2
 have H3 := Lib.hid h3
 have len0 := pus_len c y1 d2 d3 n1 x3
 generalize pusO c y1 d2 d3 n1 x3 = R0 at *
 generalize canB c [] n1 x3 = R1 at *
 clear h0 h1 h2 h3
 have HSB0 := Lib.hid (show SmallB R0 from len0.1)
 have HLB0 := Lib.hid len0.2
 clear len0
 have ve1 : (R1 == R1) = true := by cases R1 <;> rfl
 have vn1 : (R1 != R1) = false := by cases R1 <;> rfl
 go_enter Tryz.func10, Tryz.ntmps10
 go_wp2_with fail
 change Calls _ _ _ (w.alloc (BoxB B 32)) _
 generalize (w.alloc (BoxB B 32)) = W0 at *
 refine (laws_szBody' B c 1048576 _ (HB.out.below BX.out.bel) (by decide) (by decide)).mono ?_
 rintro e w1 ⟨⟨r, rfl, hr⟩, hB⟩
 replace BX := Lib.hid (BX.out.call hB)
 clear hB
 rcases hr with rfl | ⟨hr0, hr1, hs⟩
 ·go_wp2
  go_ret
  exact ⟨rfl, BX.out.bel⟩
 have HS := Lib.hid hs
 clear hs
 go_wp2_with fail
 refine (laws_szVectorS a1 n1 c1 r w1 hr0 hr1 hm1).mono ?_
 rintro e w2 ⟨⟨r1_, rfl, hr⟩, hw⟩
 rw [hw]
 clear hw
 rcases hr with rfl | ⟨hq1, hp1, hl1⟩
 ·go_wp2
  go_ret
  exact ⟨rfl, BX.out.bel⟩
 have r0 := (BX.out.mem (.head _)) 0 _ rfl
 have r1 := (BX.out.mem (.head _)) 1 _ rfl
 have r2 := (BX.out.mem (.head _)) 2 _ rfl
 have r3 := (BX.out.mem (.head _)) 3 _ rfl
 have r4 := (BX.out.mem (.head _)) 4 _ rfl
 have r5 := (BX.out.mem (.head _)) 5 _ rfl
 have r6 := (BX.out.mem (.head _)) 6 _ rfl
 have r7 := (BX.out.mem (.head _)) 7 _ rfl
 have r8 := (BX.out.mem (.head _)) 8 _ rfl
 go_wp2_with fail
 clear r0 r1 r2 r3 r4 r5 r6 r7 r8
 refine (laws_toBody B c _ (HB.out.below BX.out.bel) HS.out).mono ?_
 rintro e w3 ⟨Ys, rfl, hI, hB⟩
 replace BX := Lib.hid (BX.out.call hB)
 have Z1 := Lib.hid (hB.size)
 clear hB
 have Is := Lib.hid hI
 clear hI
 go_wp2_with fail
 refine (laws_toVectorS a1 n1 c1 y1 w3 (H1.out.below BX.out.bel) hl1).mono ?_
 rintro e w4 ⟨rfl, hi, hB, _⟩
 replace BX := Lib.hid (BX.out.call hB)
 replace Is := Lib.hid (Is.out.below hB)
 have Z2 := Lib.hid (hB.size)
 clear hB
 have Js1 := Lib.hid hi
 clear hi
 go_wp2_with fail
 refine (HSP.out Ys _ _ _ Is.out Js1.out).mono ?_
 rintro e w5 ⟨⟨Bs0, Fs0, rfl, hb0, hg0⟩, hB⟩
 clear Is Js1
 replace BX := Lib.hid (BX.out.call hB)
 clear hB
 have LT : Hid (w.heap.size < w5.heap.size) := Lib.hid (BX.out.mem (.head _)).lt
 have SI0 := Lib.hid hb0
 clear hb0 hg0
 have r0 := fun (ob : Obj) => cell_alloc (o := ob) ((BX.out.mem (.head _)) 0 _ rfl)
 have r1 := fun (ob : Obj) => cell_alloc (o := ob) ((BX.out.mem (.head _)) 1 _ rfl)
 have r2 := fun (ob : Obj) => cell_alloc (o := ob) ((BX.out.mem (.head _)) 2 _ rfl)
 have r3 := fun (ob : Obj) => cell_alloc (o := ob) ((BX.out.mem (.head _)) 3 _ rfl)
 have r4 := fun (ob : Obj) => cell_alloc (o := ob) ((BX.out.mem (.head _)) 4 _ rfl)
 have r5 := fun (ob : Obj) => cell_alloc (o := ob) ((BX.out.mem (.head _)) 5 _ rfl)
 have r6 := fun (ob : Obj) => cell_alloc (o := ob) ((BX.out.mem (.head _)) 6 _ rfl)
 have r7 := fun (ob : Obj) => cell_alloc (o := ob) ((BX.out.mem (.head _)) 7 _ rfl)
 have r8 := fun (ob : Obj) => cell_alloc (o := ob) ((BX.out.mem (.head _)) 8 _ rfl)
 have hA : Below w5.heap.size w5 (w5.alloc (BoxB Bs0 44)) := (Below.refl _ _).alloc (Nat.le_refl _) _
 have BX' : Hid (Bx w [(w5.heap.size, Bs0.l), (w.heap.size, B.l)] (w5.alloc (BoxB Bs0 44))) := Lib.hid (BX.out.box (vs := Bs0.l) (t := 44))
 replace BX := BX'
 clear BX'
 replace SI0 := Lib.hid (SI0.out.below hA)
 have Z3 := Lib.hid (show (w5.alloc (BoxB Bs0 44)).heap.size = w5.heap.size + 1 by simp)
 clear hA
 go_wp2_with fail
 clear r0 r1 r2 r3 r4 r5 r6 r7 r8
 change Calls _ _ _ (w5.alloc (BoxB Bs0 44)) _
 generalize (w5.alloc (BoxB Bs0 44)) = w6 at *
 generalize w5.heap.size = S at *
 have SX := Lib.hid (Below.refl w6.heap.size w6)
 refine (laws_toBodyO B c _ (HB.out.below BX.out.bel) HS.out).mono ?_
 rintro e w7 ⟨X0, rfl, hI, hO, hB⟩
 replace BX := Lib.hid (BX.out.call hB)
 replace SX := Lib.hid (SX.out.trans (hB.mono SX.out.size))
 have Z4 := Lib.hid (hB.size)
 clear hB
 have M := Lib.hid (And.intro hI hO)
 clear hI hO
 have hA : Below w7.heap.size w7 (w7.alloc (BoxB X0 44)) := (Below.refl _ _).alloc (Nat.le_refl _) _
 have BX' : Hid (Bx w [(w7.heap.size, X0.l), (S, Bs0.l), (w.heap.size, B.l)] (w7.alloc (BoxB X0 44))) := Lib.hid (BX.out.box (vs := X0.l) (t := 44))
 replace BX := BX'
 clear BX'
 replace SX := Lib.hid (SX.out.trans (hA.mono SX.out.size))
 replace M := Lib.hid (And.intro (M.out.1.below hA) (M.out.2.below hA))
 have Z5 := Lib.hid (show (w7.alloc (BoxB X0 44)).heap.size = w7.heap.size + 1 by simp)
 clear hA
 go_wp2_with fail
 change Calls _ _ _ (w7.alloc (BoxB X0 44)) _
 generalize (w7.alloc (BoxB X0 44)) = w8 at *
 generalize w7.heap.size = X at *
 refine (laws_toVectorS' a1 n1 c1 y1 _ (H1.out.below BX.out.bel) hl1).mono ?_
 rintro e w9 ⟨rfl, hi, hB, hlt, hf⟩
 replace BX := Lib.hid (BX.out.call hB)
 replace SX := Lib.hid (SX.out.trans (hB.mono SX.out.size))
 replace M := Lib.hid (And.intro (M.out.1.below hB) (M.out.2.below hB))
 have Z6 := Lib.hid (hB.size)
 clear hB
 have J1 := Lib.hid (And.intro hi (vec_own (lo := w8.heap.size) (hi := w9.heap.size) hi hf (Nat.le_refl _) hlt hlt))
 have Z7 := Lib.hid (hlt)
 clear hi hf hlt
 obtain ⟨Q1, hQ1⟩ : ∃ Q, Q = w8.heap.size := ⟨_, rfl⟩
 have Z8 := Lib.hid (hQ1)
 rw [← hQ1] at J1 ⊢
 clear hQ1
 have r0 := (BX.out.mem (.head _)) 0 _ rfl
 have r1 := (BX.out.mem (.head _)) 1 _ rfl
 have r2 := (BX.out.mem (.head _)) 2 _ rfl
 have r3 := (BX.out.mem (.head _)) 3 _ rfl
 have r4 := (BX.out.mem (.head _)) 4 _ rfl
 have r5 := (BX.out.mem (.head _)) 5 _ rfl
 have r6 := (BX.out.mem (.head _)) 6 _ rfl
 have r7 := (BX.out.mem (.head _)) 7 _ rfl
 have r8 := (BX.out.mem (.head _)) 8 _ rfl
 go_wp2_with fail
 clear r0 r1 r2 r3 r4 r5 r6 r7 r8
 refine (HIM.out X0 _ _ _ M.out.1 J1.out.1).mono ?_
 rintro e w10 ⟨⟨Bg0, Fg0, rfl, hb0, hg0⟩, hB⟩
 replace BX := Lib.hid (BX.out.call hB)
 replace SX := Lib.hid (SX.out.trans (hB.mono SX.out.size))
 replace M := Lib.hid (And.intro (M.out.1.below hB) (M.out.2.below hB))
 replace J1 := Lib.hid (And.intro (J1.out.1.below hB) (J1.out.2.below hB))
 have Z9 := Lib.hid (hB.size)
 clear hB
 have GI0 := Lib.hid hb0
 have GL0 := Lib.hid hg0
 clear hb0 hg0
 have r0 := fun (ob : Obj) => cell_alloc (o := ob) ((BX.out.mem (.tail _ (.head _))) 0 _ rfl)
 have r1 := fun (ob : Obj) => cell_alloc (o := ob) ((BX.out.mem (.tail _ (.head _))) 1 _ rfl)
 have r2 := fun (ob : Obj) => cell_alloc (o := ob) ((BX.out.mem (.tail _ (.head _))) 2 _ rfl)
 have r3 := fun (ob : Obj) => cell_alloc (o := ob) ((BX.out.mem (.tail _ (.head _))) 3 _ rfl)
 have r4 := fun (ob : Obj) => cell_alloc (o := ob) ((BX.out.mem (.tail _ (.head _))) 4 _ rfl)
 have r5 := fun (ob : Obj) => cell_alloc (o := ob) ((BX.out.mem (.tail _ (.head _))) 5 _ rfl)
 have r6 := fun (ob : Obj) => cell_alloc (o := ob) ((BX.out.mem (.tail _ (.head _))) 6 _ rfl)
 have r7 := fun (ob : Obj) => cell_alloc (o := ob) ((BX.out.mem (.tail _ (.head _))) 7 _ rfl)
 have r8 := fun (ob : Obj) => cell_alloc (o := ob) ((BX.out.mem (.tail _ (.head _))) 8 _ rfl)
 have hA : Below w10.heap.size w10 (w10.alloc (BoxB Bg0 44)) := (Below.refl _ _).alloc (Nat.le_refl _) _
 have BX' : Hid (Bx w [(w10.heap.size, Bg0.l), (X, X0.l), (S, Bs0.l), (w.heap.size, B.l)] (w10.alloc (BoxB Bg0 44))) := Lib.hid (BX.out.box (vs := Bg0.l) (t := 44))
 replace BX := BX'
 clear BX'
 replace SX := Lib.hid (SX.out.trans (hA.mono SX.out.size))
 replace M := Lib.hid (And.intro (M.out.1.below hA) (M.out.2.below hA))
 replace J1 := Lib.hid (And.intro (J1.out.1.below hA) (J1.out.2.below hA))
 replace GI0 := Lib.hid (GI0.out.below hA)
 replace GL0 := Lib.hid (GL0.out.below hA)
 have Z10 := Lib.hid (show (w10.alloc (BoxB Bg0 44)).heap.size = w10.heap.size + 1 by simp)
 clear hA
 go_wp2_with fail
 clear r0 r1 r2 r3 r4 r5 r6 r7 r8
 change Calls _ _ _ (w10.alloc (BoxB Bg0 44)) _
 generalize (w10.alloc (BoxB Bg0 44)) = w11 at *
 generalize w10.heap.size = G at *
 have GB1 : Hid (Bg0.pl ≤ 1000 ∧ Bg0.tl ≤ 1000 ∧ Bg0.sl ≤ 1000 ∧ Bg0.wl ≤ 1000) := Lib.hid (by have l := GI0.out.lens; have h := HLB0.out; exact ⟨by omega, by omega, by omega, by omega⟩)
 refine (laws_eqBody Bg0 Bs0 R0 _ GI0.out (SI0.out.below SX.out) HSB0.out).mono ?_
 rintro e w12 ⟨rfl, hB⟩
 replace BX := Lib.hid (BX.out.call hB)
 replace SX := Lib.hid (SX.out.trans (hB.mono SX.out.size))
 replace M := Lib.hid (And.intro (M.out.1.below hB) (M.out.2.below hB))
 replace J1 := Lib.hid (And.intro (J1.out.1.below hB) (J1.out.2.below hB))
 replace GI0 := Lib.hid (GI0.out.below hB)
 replace GL0 := Lib.hid (GL0.out.below hB)
 have Z11 := Lib.hid (hB.size)
 clear hB
 go_wp2_with fail
 refine Reg.wp_region_mix (C := fun w' => Below w12.heap.size w12 w') (G := fun w1 w2 => Below w1.heap.size w1 w2) (R := fun i v w' => match i with | 0 => v = X0.v | 1 => v = B.v | 2 => ∃ Y : Bd, v = Y.v ∧ IsB w' Y c | 3 => v = .bool true | 4 => v = .bool false | _ => True) (T := fun _ _ _ => True) [false, false, false, false, false, false, false, false, false, false, false, false, false, false, false, false, false, false, false, false, false, false, false, false, false, false, false, false, false, false, false, false, false, false, false, false, false, false, false, false, false, false, false, false, false, false, false, false, false, false, false, false, false, false, false, false, false, false, false, false, false, false, true, true, true, true, true, false, false, false, false, false, false, false, false, false, false, false, false, false, false, false, false, false, false, false, false, false, false, false, false, false, false, false, false, false, false, false, false, false, false, false, false, false, false, false, false, false, false, false, false, false, false, false, false, false, false, false, false, false, false, false, false, false, false, false, false, false, false]
  (by kernel_rfl) (by kernel_rfl) (by kernel_rfl) ?_ (below_drewN (Below.refl _ _) 1) ?_ ?_
 ·intro j v w1 w2 _ hG hR
  match j with
  | 0 => exact hR
  | 1 => exact hR
  | 2 => obtain ⟨Y, e, h1⟩ := hR; exact ⟨Y, e, h1.below hG⟩
  | 3 => exact hR
  | 4 => exact hR
  | _ + 5 => trivial
 ·refine ⟨Reg.Obl.mk ?_, Reg.Obl.mk ?_, Reg.Obl.mk ?_, Reg.Obl.mk ?_, Reg.Obl.mk ?_, trivial⟩
  ·rintro av wq hB hx hd K hK
   have HC := Lib.hid hB; clear hB
   have t12 : av.tmps[12]?.getD undef = .pointer (some ⟨X, 0, none⟩) := Reg.slot_val (hx 12 (by kernel_rfl))
   have y0 := ((BX.out.call HC.out).mem (.tail _ (.head _))) 0 _ rfl
   have y1 := ((BX.out.call HC.out).mem (.tail _ (.head _))) 1 _ rfl
   have y2 := ((BX.out.call HC.out).mem (.tail _ (.head _))) 2 _ rfl
   have y3 := ((BX.out.call HC.out).mem (.tail _ (.head _))) 3 _ rfl
   have y4 := ((BX.out.call HC.out).mem (.tail _ (.head _))) 4 _ rfl
   have y5 := ((BX.out.call HC.out).mem (.tail _ (.head _))) 5 _ rfl
   have y6 := ((BX.out.call HC.out).mem (.tail _ (.head _))) 6 _ rfl
   have y7 := ((BX.out.call HC.out).mem (.tail _ (.head _))) 7 _ rfl
   have y8 := ((BX.out.call HC.out).mem (.tail _ (.head _))) 8 _ rfl
   go_simp
   exact hK _ _ (fun _ => rfl) (fun h => by cases h) HC.out (Below.refl _ _)
  ·rintro av wq hB hx hd K hK
   have HC := Lib.hid hB; clear hB
   have t4 : av.tmps[4]?.getD undef = .pointer (some ⟨w.heap.size, 0, none⟩) := Reg.slot_val (hx 4 (by kernel_rfl))
   have y0 := ((BX.out.call HC.out).mem (.tail _ (.tail _ (.tail _ (.head _))))) 0 _ rfl
   have y1 := ((BX.out.call HC.out).mem (.tail _ (.tail _ (.tail _ (.head _))))) 1 _ rfl
   have y2 := ((BX.out.call HC.out).mem (.tail _ (.tail _ (.tail _ (.head _))))) 2 _ rfl
   have y3 := ((BX.out.call HC.out).mem (.tail _ (.tail _ (.tail _ (.head _))))) 3 _ rfl
   have y4 := ((BX.out.call HC.out).mem (.tail _ (.tail _ (.tail _ (.head _))))) 4 _ rfl
   have y5 := ((BX.out.call HC.out).mem (.tail _ (.tail _ (.tail _ (.head _))))) 5 _ rfl
   have y6 := ((BX.out.call HC.out).mem (.tail _ (.tail _ (.tail _ (.head _))))) 6 _ rfl
   have y7 := ((BX.out.call HC.out).mem (.tail _ (.tail _ (.tail _ (.head _))))) 7 _ rfl
   have y8 := ((BX.out.call HC.out).mem (.tail _ (.tail _ (.tail _ (.head _))))) 8 _ rfl
   go_simp
   exact hK _ _ (fun _ => rfl) (fun h => by cases h) HC.out (Below.refl _ _)
  ·rintro av wq hB hx hd K hK
   have HC := Lib.hid hB; clear hB
   have t63 : av.tmps[63]?.getD undef = B.v := Reg.slot_val (hd 1 (by kernel_rfl) 63 rfl)
   go_simp
   refine (laws_toBody B c _ (HB.out.below (BX.out.call HC.out).bel) HS.out).mono ?_
   rintro en w2 ⟨Y, rfl, hV, hB2⟩
   exact hK _ _ (fun _ => ⟨Y, rfl, hV⟩) (fun h => by cases h) (HC.out.trans (hB2.mono HC.out.size)) hB2
  ·rintro av wq hB hx hd K hK
   have HC := Lib.hid hB; clear hB
   have t62 : av.tmps[62]?.getD undef = X0.v := Reg.slot_val (hd 0 (by kernel_rfl) 62 rfl)
   obtain ⟨Y, g2, hV⟩ := hd 2 (by kernel_rfl) 64 rfl
   have t64 := Reg.slot_val g2
   clear g2
   have HVe := Lib.hid hV
   clear hV
   go_simp
   refine (laws_eqBody X0 Y c _ (M.out.1.below HC.out) HVe.out HS.out).mono ?_
   rintro en w2 ⟨rfl, hB2⟩
   exact hK _ _ (fun _ => rfl) (fun h => by cases h) (HC.out.trans (hB2.mono HC.out.size)) hB2
  ·rintro av wq hB hx hd K hK
   have t65 : av.tmps[65]?.getD undef = .bool true := Reg.slot_val (hd 3 (by kernel_rfl) 65 rfl)
   go_simp
   exact hK _ _ (fun _ => rfl) (fun h => by cases h) hB (Below.refl _ _)
 rintro f w13 hB hd hTT
 have gg : f 66 = .bool false := hd 4 66 rfl
 simp only [Reg.mixL, gg]
 clear hd hTT gg
 replace BX := Lib.hid (BX.out.call hB)
 replace SX := Lib.hid (SX.out.trans (hB.mono SX.out.size))
 replace M := Lib.hid (And.intro (M.out.1.below hB) (M.out.2.below hB))
 replace J1 := Lib.hid (And.intro (J1.out.1.below hB) (J1.out.2.below hB))
 replace GI0 := Lib.hid (GI0.out.below hB)
 replace GL0 := Lib.hid (GL0.out.below hB)
 have Z12 := Lib.hid (hB.size)
 clear hB
 go_wp2_with fail
 refine (laws_toVectorS a1 n1 c1 y1 w13 (H1.out.below BX.out.bel) hl1).mono ?_
 rintro e w14 ⟨rfl, hi, hB, _⟩
 replace BX := Lib.hid (BX.out.call hB)
 replace SX := Lib.hid (SX.out.trans (hB.mono SX.out.size))
 replace M := Lib.hid (And.intro (M.out.1.below hB) (M.out.2.below hB))
 replace J1 := Lib.hid (And.intro (J1.out.1.below hB) (J1.out.2.below hB))
 replace GI0 := Lib.hid (GI0.out.below hB)
 replace GL0 := Lib.hid (GL0.out.below hB)
 have Z13 := Lib.hid (hB.size)
 clear hB
 have JY1 := Lib.hid hi
 clear hi
 go_wp2_with fail
 refine (laws_eqVectorS _ _ n1 _ _ y1 _ J1.out.1 JY1.out).mono ?_
 rintro e w15 ⟨rfl, hB⟩
 clear JY1
 replace BX := Lib.hid (BX.out.call hB)
 replace SX := Lib.hid (SX.out.trans (hB.mono SX.out.size))
 replace M := Lib.hid (And.intro (M.out.1.below hB) (M.out.2.below hB))
 replace J1 := Lib.hid (And.intro (J1.out.1.below hB) (J1.out.2.below hB))
 replace GI0 := Lib.hid (GI0.out.below hB)
 replace GL0 := Lib.hid (GL0.out.below hB)
 have Z14 := Lib.hid (hB.size)
 clear hB
 have r0 := (BX.out.mem (.tail _ (.head _))) 0 _ rfl
 have r1 := (BX.out.mem (.tail _ (.head _))) 1 _ rfl
 have r2 := (BX.out.mem (.tail _ (.head _))) 2 _ rfl
 have r3 := (BX.out.mem (.tail _ (.head _))) 3 _ rfl
 have r4 := (BX.out.mem (.tail _ (.head _))) 4 _ rfl
 have r5 := (BX.out.mem (.tail _ (.head _))) 5 _ rfl
 have r6 := (BX.out.mem (.tail _ (.head _))) 6 _ rfl
 have r7 := (BX.out.mem (.tail _ (.head _))) 7 _ rfl
 have r8 := (BX.out.mem (.tail _ (.head _))) 8 _ rfl
 go_wp2_with fail
 clear r0 r1 r2 r3 r4 r5 r6 r7 r8
 refine (laws_markBodyZ w6.heap.size X X0 c w15 M.out.2 M.out.1 HS.out (by have z1 := Z1.out; have z2 := Z2.out; have z3 := Z3.out; have z4 := Z4.out; have z5 := Z5.out; have z6 := Z6.out; have z7 := Z7.out; have z8 := Z8.out; have z9 := Z9.out; have z10 := Z10.out; have z11 := Z11.out; have z12 := Z12.out; have z13 := Z13.out; have z14 := Z14.out; have zl := LT.out; omega) (by have z1 := Z1.out; have z2 := Z2.out; have z3 := Z3.out; have z4 := Z4.out; have z5 := Z5.out; have z6 := Z6.out; have z7 := Z7.out; have z8 := Z8.out; have z9 := Z9.out; have z10 := Z10.out; have z11 := Z11.out; have z12 := Z12.out; have z13 := Z13.out; have z14 := Z14.out; have zl := LT.out; omega)).mono ?_
 rintro e w16 ⟨zk, hzk, rfl, hM⟩
 have hk : ¬ ((zk : Int) < 0) := by omega
 clear M
 have hall : ∀ b l, (b, l) ∈ [(G, Bg0.l), (X, X0.l), (S, Bs0.l), (w.heap.size, B.l)] → b < w6.heap.size ∨ X ≤ b := by
  intro b l hm
  simp only [List.mem_cons, Prod.mk.injEq, List.not_mem_nil, or_false] at hm
  rcases hm with ⟨rfl, _⟩ | ⟨rfl, _⟩ | ⟨rfl, _⟩ | ⟨rfl, _⟩
  ·first | exact .inl (by have z1 := Z1.out; have z2 := Z2.out; have z3 := Z3.out; have z4 := Z4.out; have z5 := Z5.out; have z6 := Z6.out; have z7 := Z7.out; have z8 := Z8.out; have z9 := Z9.out; have z10 := Z10.out; have z11 := Z11.out; have z12 := Z12.out; have z13 := Z13.out; have z14 := Z14.out; have zl := LT.out; omega) | exact .inr (by have z1 := Z1.out; have z2 := Z2.out; have z3 := Z3.out; have z4 := Z4.out; have z5 := Z5.out; have z6 := Z6.out; have z7 := Z7.out; have z8 := Z8.out; have z9 := Z9.out; have z10 := Z10.out; have z11 := Z11.out; have z12 := Z12.out; have z13 := Z13.out; have z14 := Z14.out; have zl := LT.out; omega)
  ·first | exact .inl (by have z1 := Z1.out; have z2 := Z2.out; have z3 := Z3.out; have z4 := Z4.out; have z5 := Z5.out; have z6 := Z6.out; have z7 := Z7.out; have z8 := Z8.out; have z9 := Z9.out; have z10 := Z10.out; have z11 := Z11.out; have z12 := Z12.out; have z13 := Z13.out; have z14 := Z14.out; have zl := LT.out; omega) | exact .inr (by have z1 := Z1.out; have z2 := Z2.out; have z3 := Z3.out; have z4 := Z4.out; have z5 := Z5.out; have z6 := Z6.out; have z7 := Z7.out; have z8 := Z8.out; have z9 := Z9.out; have z10 := Z10.out; have z11 := Z11.out; have z12 := Z12.out; have z13 := Z13.out; have z14 := Z14.out; have zl := LT.out; omega)
  ·first | exact .inl (by have z1 := Z1.out; have z2 := Z2.out; have z3 := Z3.out; have z4 := Z4.out; have z5 := Z5.out; have z6 := Z6.out; have z7 := Z7.out; have z8 := Z8.out; have z9 := Z9.out; have z10 := Z10.out; have z11 := Z11.out; have z12 := Z12.out; have z13 := Z13.out; have z14 := Z14.out; have zl := LT.out; omega) | exact .inr (by have z1 := Z1.out; have z2 := Z2.out; have z3 := Z3.out; have z4 := Z4.out; have z5 := Z5.out; have z6 := Z6.out; have z7 := Z7.out; have z8 := Z8.out; have z9 := Z9.out; have z10 := Z10.out; have z11 := Z11.out; have z12 := Z12.out; have z13 := Z13.out; have z14 := Z14.out; have zl := LT.out; omega)
  ·first | exact .inl (by have z1 := Z1.out; have z2 := Z2.out; have z3 := Z3.out; have z4 := Z4.out; have z5 := Z5.out; have z6 := Z6.out; have z7 := Z7.out; have z8 := Z8.out; have z9 := Z9.out; have z10 := Z10.out; have z11 := Z11.out; have z12 := Z12.out; have z13 := Z13.out; have z14 := Z14.out; have zl := LT.out; omega) | exact .inr (by have z1 := Z1.out; have z2 := Z2.out; have z3 := Z3.out; have z4 := Z4.out; have z5 := Z5.out; have z6 := Z6.out; have z7 := Z7.out; have z8 := Z8.out; have z9 := Z9.out; have z10 := Z10.out; have z11 := Z11.out; have z12 := Z12.out; have z13 := Z13.out; have z14 := Z14.out; have zl := LT.out; omega)
 replace BX := Lib.hid (BX.out.away hM (by have z1 := Z1.out; have z2 := Z2.out; have z3 := Z3.out; have z4 := Z4.out; have z5 := Z5.out; have z6 := Z6.out; have z7 := Z7.out; have z8 := Z8.out; have z9 := Z9.out; have z10 := Z10.out; have z11 := Z11.out; have z12 := Z12.out; have z13 := Z13.out; have z14 := Z14.out; have zl := LT.out; omega) hall)
 clear hall
 replace SX := Lib.hid (SX.out.trans (hM.below.mono (by have z1 := Z1.out; have z2 := Z2.out; have z3 := Z3.out; have z4 := Z4.out; have z5 := Z5.out; have z6 := Z6.out; have z7 := Z7.out; have z8 := Z8.out; have z9 := Z9.out; have z10 := Z10.out; have z11 := Z11.out; have z12 := Z12.out; have z13 := Z13.out; have z14 := Z14.out; have zl := LT.out; omega)))
 have J1' := Lib.hid (J1.out.2.mark hM)
 have AG := Agree.of_mark hM
 replace GI0 := Lib.hid (GI0.out.agree GL0.out.lb (fun b k1 k2 => by first | exact .inl (by have z1 := Z1.out; have z2 := Z2.out; have z3 := Z3.out; have z4 := Z4.out; have z5 := Z5.out; have z6 := Z6.out; have z7 := Z7.out; have z8 := Z8.out; have z9 := Z9.out; have z10 := Z10.out; have z11 := Z11.out; have z12 := Z12.out; have z13 := Z13.out; have z14 := Z14.out; have zl := LT.out; omega) | exact .inr (by have z1 := Z1.out; have z2 := Z2.out; have z3 := Z3.out; have z4 := Z4.out; have z5 := Z5.out; have z6 := Z6.out; have z7 := Z7.out; have z8 := Z8.out; have z9 := Z9.out; have z10 := Z10.out; have z11 := Z11.out; have z12 := Z12.out; have z13 := Z13.out; have z14 := Z14.out; have zl := LT.out; omega)) AG)
 clear AG
 have AG := Agree.of_mark hM
 replace GL0 := Lib.hid (GL0.out.agree (fun b k1 k2 => by first | exact .inl (by have z1 := Z1.out; have z2 := Z2.out; have z3 := Z3.out; have z4 := Z4.out; have z5 := Z5.out; have z6 := Z6.out; have z7 := Z7.out; have z8 := Z8.out; have z9 := Z9.out; have z10 := Z10.out; have z11 := Z11.out; have z12 := Z12.out; have z13 := Z13.out; have z14 := Z14.out; have zl := LT.out; omega) | exact .inr (by have z1 := Z1.out; have z2 := Z2.out; have z3 := Z3.out; have z4 := Z4.out; have z5 := Z5.out; have z6 := Z6.out; have z7 := Z7.out; have z8 := Z8.out; have z9 := Z9.out; have z10 := Z10.out; have z11 := Z11.out; have z12 := Z12.out; have z13 := Z13.out; have z14 := Z14.out; have zl := LT.out; omega)) AG)
 clear AG
 clear J1
 have J1 := Lib.hid (And.intro True.intro J1'.out)
 clear J1'
 have Z15 := Lib.hid (hM.below.size)
 clear hM
 go_wp2_with fail
 have hkb : zk ≤ 4000000000000000000 := by omega
 refine (laws_markVectorS Q1 w9.heap.size Q1 0 n1 n1 zk w16 J1.out.2 (by omega)).mono ?_
 rintro e w17 ⟨rfl, _, _, hM⟩
 clear hkb
 obtain ⟨zk1, hzk1⟩ : ∃ z, z = zk + n1 * 3 := ⟨_, rfl⟩
 have hzb1 : zk1 ≤ zk + 3145728 := by omega
 rw [← hzk1]
 clear hzk1
 have hk1 : ¬ ((zk1 : Int) < 0) := by omega
 clear J1
 have hall : ∀ b l, (b, l) ∈ [(G, Bg0.l), (X, X0.l), (S, Bs0.l), (w.heap.size, B.l)] → b < Q1 ∨ w9.heap.size ≤ b := by
  intro b l hm
  simp only [List.mem_cons, Prod.mk.injEq, List.not_mem_nil, or_false] at hm
  rcases hm with ⟨rfl, _⟩ | ⟨rfl, _⟩ | ⟨rfl, _⟩ | ⟨rfl, _⟩
  ·first | exact .inl (by have z1 := Z1.out; have z2 := Z2.out; have z3 := Z3.out; have z4 := Z4.out; have z5 := Z5.out; have z6 := Z6.out; have z7 := Z7.out; have z8 := Z8.out; have z9 := Z9.out; have z10 := Z10.out; have z11 := Z11.out; have z12 := Z12.out; have z13 := Z13.out; have z14 := Z14.out; have z15 := Z15.out; have zl := LT.out; omega) | exact .inr (by have z1 := Z1.out; have z2 := Z2.out; have z3 := Z3.out; have z4 := Z4.out; have z5 := Z5.out; have z6 := Z6.out; have z7 := Z7.out; have z8 := Z8.out; have z9 := Z9.out; have z10 := Z10.out; have z11 := Z11.out; have z12 := Z12.out; have z13 := Z13.out; have z14 := Z14.out; have z15 := Z15.out; have zl := LT.out; omega)
  ·first | exact .inl (by have z1 := Z1.out; have z2 := Z2.out; have z3 := Z3.out; have z4 := Z4.out; have z5 := Z5.out; have z6 := Z6.out; have z7 := Z7.out; have z8 := Z8.out; have z9 := Z9.out; have z10 := Z10.out; have z11 := Z11.out; have z12 := Z12.out; have z13 := Z13.out; have z14 := Z14.out; have z15 := Z15.out; have zl := LT.out; omega) | exact .inr (by have z1 := Z1.out; have z2 := Z2.out; have z3 := Z3.out; have z4 := Z4.out; have z5 := Z5.out; have z6 := Z6.out; have z7 := Z7.out; have z8 := Z8.out; have z9 := Z9.out; have z10 := Z10.out; have z11 := Z11.out; have z12 := Z12.out; have z13 := Z13.out; have z14 := Z14.out; have z15 := Z15.out; have zl := LT.out; omega)
  ·first | exact .inl (by have z1 := Z1.out; have z2 := Z2.out; have z3 := Z3.out; have z4 := Z4.out; have z5 := Z5.out; have z6 := Z6.out; have z7 := Z7.out; have z8 := Z8.out; have z9 := Z9.out; have z10 := Z10.out; have z11 := Z11.out; have z12 := Z12.out; have z13 := Z13.out; have z14 := Z14.out; have z15 := Z15.out; have zl := LT.out; omega) | exact .inr (by have z1 := Z1.out; have z2 := Z2.out; have z3 := Z3.out; have z4 := Z4.out; have z5 := Z5.out; have z6 := Z6.out; have z7 := Z7.out; have z8 := Z8.out; have z9 := Z9.out; have z10 := Z10.out; have z11 := Z11.out; have z12 := Z12.out; have z13 := Z13.out; have z14 := Z14.out; have z15 := Z15.out; have zl := LT.out; omega)
  ·first | exact .inl (by have z1 := Z1.out; have z2 := Z2.out; have z3 := Z3.out; have z4 := Z4.out; have z5 := Z5.out; have z6 := Z6.out; have z7 := Z7.out; have z8 := Z8.out; have z9 := Z9.out; have z10 := Z10.out; have z11 := Z11.out; have z12 := Z12.out; have z13 := Z13.out; have z14 := Z14.out; have z15 := Z15.out; have zl := LT.out; omega) | exact .inr (by have z1 := Z1.out; have z2 := Z2.out; have z3 := Z3.out; have z4 := Z4.out; have z5 := Z5.out; have z6 := Z6.out; have z7 := Z7.out; have z8 := Z8.out; have z9 := Z9.out; have z10 := Z10.out; have z11 := Z11.out; have z12 := Z12.out; have z13 := Z13.out; have z14 := Z14.out; have z15 := Z15.out; have zl := LT.out; omega)
 replace BX := Lib.hid (BX.out.away hM (by have z1 := Z1.out; have z2 := Z2.out; have z3 := Z3.out; have z4 := Z4.out; have z5 := Z5.out; have z6 := Z6.out; have z7 := Z7.out; have z8 := Z8.out; have z9 := Z9.out; have z10 := Z10.out; have z11 := Z11.out; have z12 := Z12.out; have z13 := Z13.out; have z14 := Z14.out; have z15 := Z15.out; have zl := LT.out; omega) hall)
 clear hall
 replace SX := Lib.hid (SX.out.trans (hM.below.mono (by have z1 := Z1.out; have z2 := Z2.out; have z3 := Z3.out; have z4 := Z4.out; have z5 := Z5.out; have z6 := Z6.out; have z7 := Z7.out; have z8 := Z8.out; have z9 := Z9.out; have z10 := Z10.out; have z11 := Z11.out; have z12 := Z12.out; have z13 := Z13.out; have z14 := Z14.out; have z15 := Z15.out; have zl := LT.out; omega)))
 have AG := Agree.of_mark hM
 replace GI0 := Lib.hid (GI0.out.agree GL0.out.lb (fun b k1 k2 => by first | exact .inl (by have z1 := Z1.out; have z2 := Z2.out; have z3 := Z3.out; have z4 := Z4.out; have z5 := Z5.out; have z6 := Z6.out; have z7 := Z7.out; have z8 := Z8.out; have z9 := Z9.out; have z10 := Z10.out; have z11 := Z11.out; have z12 := Z12.out; have z13 := Z13.out; have z14 := Z14.out; have z15 := Z15.out; have zl := LT.out; omega) | exact .inr (by have z1 := Z1.out; have z2 := Z2.out; have z3 := Z3.out; have z4 := Z4.out; have z5 := Z5.out; have z6 := Z6.out; have z7 := Z7.out; have z8 := Z8.out; have z9 := Z9.out; have z10 := Z10.out; have z11 := Z11.out; have z12 := Z12.out; have z13 := Z13.out; have z14 := Z14.out; have z15 := Z15.out; have zl := LT.out; omega)) AG)
 clear AG
 have AG := Agree.of_mark hM
 replace GL0 := Lib.hid (GL0.out.agree (fun b k1 k2 => by first | exact .inl (by have z1 := Z1.out; have z2 := Z2.out; have z3 := Z3.out; have z4 := Z4.out; have z5 := Z5.out; have z6 := Z6.out; have z7 := Z7.out; have z8 := Z8.out; have z9 := Z9.out; have z10 := Z10.out; have z11 := Z11.out; have z12 := Z12.out; have z13 := Z13.out; have z14 := Z14.out; have z15 := Z15.out; have zl := LT.out; omega) | exact .inr (by have z1 := Z1.out; have z2 := Z2.out; have z3 := Z3.out; have z4 := Z4.out; have z5 := Z5.out; have z6 := Z6.out; have z7 := Z7.out; have z8 := Z8.out; have z9 := Z9.out; have z10 := Z10.out; have z11 := Z11.out; have z12 := Z12.out; have z13 := Z13.out; have z14 := Z14.out; have z15 := Z15.out; have zl := LT.out; omega)) AG)
 clear AG
 have Z16 := Lib.hid (hM.below.size)
 clear hM
 have r0 := (BX.out.mem (.head _)) 0 _ rfl
 have r1 := (BX.out.mem (.head _)) 1 _ rfl
 have r2 := (BX.out.mem (.head _)) 2 _ rfl
 have r3 := (BX.out.mem (.head _)) 3 _ rfl
 have r4 := (BX.out.mem (.head _)) 4 _ rfl
 have r5 := (BX.out.mem (.head _)) 5 _ rfl
 have r6 := (BX.out.mem (.head _)) 6 _ rfl
 have r7 := (BX.out.mem (.head _)) 7 _ rfl
 have r8 := (BX.out.mem (.head _)) 8 _ rfl
 have r9 := (BX.out.mem (.tail _ (.tail _ (.head _)))) 0 _ rfl
 have r10 := (BX.out.mem (.tail _ (.tail _ (.head _)))) 1 _ rfl
 have r11 := (BX.out.mem (.tail _ (.tail _ (.head _)))) 2 _ rfl
 have r12 := (BX.out.mem (.tail _ (.tail _ (.head _)))) 3 _ rfl
 have r13 := (BX.out.mem (.tail _ (.tail _ (.head _)))) 4 _ rfl
 have r14 := (BX.out.mem (.tail _ (.tail _ (.head _)))) 5 _ rfl
 have r15 := (BX.out.mem (.tail _ (.tail _ (.head _)))) 6 _ rfl
 have r16 := (BX.out.mem (.tail _ (.tail _ (.head _)))) 7 _ rfl
 have r17 := (BX.out.mem (.tail _ (.tail _ (.head _)))) 8 _ rfl
 go_wp2_with fail
 clear r0 r1 r2 r3 r4 r5 r6 r7 r8 r9 r10 r11 r12 r13 r14 r15 r16 r17
 refine (laws_eqBody Bg0 Bs0 R0 _ GI0.out (SI0.out.below SX.out) HSB0.out).mono ?_
 rintro e w18 ⟨rfl, hB⟩
 replace BX := Lib.hid (BX.out.call hB)
 replace SX := Lib.hid (SX.out.trans (hB.mono SX.out.size))
 replace GI0 := Lib.hid (GI0.out.below hB)
 replace GL0 := Lib.hid (GL0.out.below hB)
 have Z17 := Lib.hid (hB.size)
 clear hB
 have r0 := (BX.out.mem (.head _)) 0 _ rfl
 have r1 := (BX.out.mem (.head _)) 1 _ rfl
 have r2 := (BX.out.mem (.head _)) 2 _ rfl
 have r3 := (BX.out.mem (.head _)) 3 _ rfl
 have r4 := (BX.out.mem (.head _)) 4 _ rfl
 have r5 := (BX.out.mem (.head _)) 5 _ rfl
 have r6 := (BX.out.mem (.head _)) 6 _ rfl
 have r7 := (BX.out.mem (.head _)) 7 _ rfl
 have r8 := (BX.out.mem (.head _)) 8 _ rfl
 go_wp2_with fail
 clear r0 r1 r2 r3 r4 r5 r6 r7 r8
 clear GI0
 have LN : Hid (Bg0.pl ≤ 1000 ∧ Bg0.tl ≤ 1000 ∧ Bg0.sl ≤ 1000 ∧ Bg0.wl ≤ 1000) := Lib.hid ⟨GB1.out.1, GB1.out.2.1, GB1.out.2.2.1, GB1.out.2.2.2⟩
 refine (mark_gb w9.heap.size G Fg0 Bg0 w18 GL0.out (by have z1 := Z1.out; have z2 := Z2.out; have z3 := Z3.out; have z4 := Z4.out; have z5 := Z5.out; have z6 := Z6.out; have z7 := Z7.out; have z8 := Z8.out; have z9 := Z9.out; have z10 := Z10.out; have z11 := Z11.out; have z12 := Z12.out; have z13 := Z13.out; have z14 := Z14.out; have z15 := Z15.out; have z16 := Z16.out; have z17 := Z17.out; have zl := LT.out; omega) LN.out.1 LN.out.2.1 LN.out.2.2.1 LN.out.2.2.2).mono ?_
 rintro e w19 ⟨rfl, hmk, hM, _⟩
 clear GL0
 have hall : ∀ b l, (b, l) ∈ [(G, Bg0.l), (X, X0.l), (S, Bs0.l), (w.heap.size, B.l)] → b < w9.heap.size ∨ G ≤ b := by
  intro b l hm
  simp only [List.mem_cons, Prod.mk.injEq, List.not_mem_nil, or_false] at hm
  rcases hm with ⟨rfl, _⟩ | ⟨rfl, _⟩ | ⟨rfl, _⟩ | ⟨rfl, _⟩
  ·first | exact .inl (by have z1 := Z1.out; have z2 := Z2.out; have z3 := Z3.out; have z4 := Z4.out; have z5 := Z5.out; have z6 := Z6.out; have z7 := Z7.out; have z8 := Z8.out; have z9 := Z9.out; have z10 := Z10.out; have z11 := Z11.out; have z12 := Z12.out; have z13 := Z13.out; have z14 := Z14.out; have z15 := Z15.out; have z16 := Z16.out; have z17 := Z17.out; have zl := LT.out; omega) | exact .inr (by have z1 := Z1.out; have z2 := Z2.out; have z3 := Z3.out; have z4 := Z4.out; have z5 := Z5.out; have z6 := Z6.out; have z7 := Z7.out; have z8 := Z8.out; have z9 := Z9.out; have z10 := Z10.out; have z11 := Z11.out; have z12 := Z12.out; have z13 := Z13.out; have z14 := Z14.out; have z15 := Z15.out; have z16 := Z16.out; have z17 := Z17.out; have zl := LT.out; omega)
  ·first | exact .inl (by have z1 := Z1.out; have z2 := Z2.out; have z3 := Z3.out; have z4 := Z4.out; have z5 := Z5.out; have z6 := Z6.out; have z7 := Z7.out; have z8 := Z8.out; have z9 := Z9.out; have z10 := Z10.out; have z11 := Z11.out; have z12 := Z12.out; have z13 := Z13.out; have z14 := Z14.out; have z15 := Z15.out; have z16 := Z16.out; have z17 := Z17.out; have zl := LT.out; omega) | exact .inr (by have z1 := Z1.out; have z2 := Z2.out; have z3 := Z3.out; have z4 := Z4.out; have z5 := Z5.out; have z6 := Z6.out; have z7 := Z7.out; have z8 := Z8.out; have z9 := Z9.out; have z10 := Z10.out; have z11 := Z11.out; have z12 := Z12.out; have z13 := Z13.out; have z14 := Z14.out; have z15 := Z15.out; have z16 := Z16.out; have z17 := Z17.out; have zl := LT.out; omega)
  ·first | exact .inl (by have z1 := Z1.out; have z2 := Z2.out; have z3 := Z3.out; have z4 := Z4.out; have z5 := Z5.out; have z6 := Z6.out; have z7 := Z7.out; have z8 := Z8.out; have z9 := Z9.out; have z10 := Z10.out; have z11 := Z11.out; have z12 := Z12.out; have z13 := Z13.out; have z14 := Z14.out; have z15 := Z15.out; have z16 := Z16.out; have z17 := Z17.out; have zl := LT.out; omega) | exact .inr (by have z1 := Z1.out; have z2 := Z2.out; have z3 := Z3.out; have z4 := Z4.out; have z5 := Z5.out; have z6 := Z6.out; have z7 := Z7.out; have z8 := Z8.out; have z9 := Z9.out; have z10 := Z10.out; have z11 := Z11.out; have z12 := Z12.out; have z13 := Z13.out; have z14 := Z14.out; have z15 := Z15.out; have z16 := Z16.out; have z17 := Z17.out; have zl := LT.out; omega)
  ·first | exact .inl (by have z1 := Z1.out; have z2 := Z2.out; have z3 := Z3.out; have z4 := Z4.out; have z5 := Z5.out; have z6 := Z6.out; have z7 := Z7.out; have z8 := Z8.out; have z9 := Z9.out; have z10 := Z10.out; have z11 := Z11.out; have z12 := Z12.out; have z13 := Z13.out; have z14 := Z14.out; have z15 := Z15.out; have z16 := Z16.out; have z17 := Z17.out; have zl := LT.out; omega) | exact .inr (by have z1 := Z1.out; have z2 := Z2.out; have z3 := Z3.out; have z4 := Z4.out; have z5 := Z5.out; have z6 := Z6.out; have z7 := Z7.out; have z8 := Z8.out; have z9 := Z9.out; have z10 := Z10.out; have z11 := Z11.out; have z12 := Z12.out; have z13 := Z13.out; have z14 := Z14.out; have z15 := Z15.out; have z16 := Z16.out; have z17 := Z17.out; have zl := LT.out; omega)
 replace BX := Lib.hid (BX.out.away hM (by have z1 := Z1.out; have z2 := Z2.out; have z3 := Z3.out; have z4 := Z4.out; have z5 := Z5.out; have z6 := Z6.out; have z7 := Z7.out; have z8 := Z8.out; have z9 := Z9.out; have z10 := Z10.out; have z11 := Z11.out; have z12 := Z12.out; have z13 := Z13.out; have z14 := Z14.out; have z15 := Z15.out; have z16 := Z16.out; have z17 := Z17.out; have zl := LT.out; omega) hall)
 clear hall
 replace SX := Lib.hid (SX.out.trans (hM.below.mono (by have z1 := Z1.out; have z2 := Z2.out; have z3 := Z3.out; have z4 := Z4.out; have z5 := Z5.out; have z6 := Z6.out; have z7 := Z7.out; have z8 := Z8.out; have z9 := Z9.out; have z10 := Z10.out; have z11 := Z11.out; have z12 := Z12.out; have z13 := Z13.out; have z14 := Z14.out; have z15 := Z15.out; have z16 := Z16.out; have z17 := Z17.out; have zl := LT.out; omega)))
 have Z18 := Lib.hid (hM.below.size)
 clear hM
 have HMK := Lib.hid (show MrkB w19 Bg0 Fg0 from hmk)
 clear hmk
 have HHG := Lib.hid (fun (w : World) (h : MrkB w Bg0 Fg0) => held_gb Fg0 Bg0 w h LN.out.1 LN.out.2.1 LN.out.2.2.1 LN.out.2.2.2)
 obtain ⟨NN, hNN⟩ : ∃ N, N = 1 + Bg0.pl * 3 + Bg0.tl * 3 + Bg0.sl * 4 + Bg0.wl := ⟨_, rfl⟩
 rw [← hNN] at HHG ⊢
 have hnn : ¬ ((NN : Int) < 0) := by omega
 clear hNN
 have r0 := (BX.out.mem (.head _)) 0 _ rfl
 have r1 := (BX.out.mem (.head _)) 1 _ rfl
 have r2 := (BX.out.mem (.head _)) 2 _ rfl
 have r3 := (BX.out.mem (.head _)) 3 _ rfl
 have r4 := (BX.out.mem (.head _)) 4 _ rfl
 have r5 := (BX.out.mem (.head _)) 5 _ rfl
 have r6 := (BX.out.mem (.head _)) 6 _ rfl
 have r7 := (BX.out.mem (.head _)) 7 _ rfl
 have r8 := (BX.out.mem (.head _)) 8 _ rfl
 go_wp2_with fail
 clear r0 r1 r2 r3 r4 r5 r6 r7 r8
 refine (HHG.out w19 HMK.out).mono ?_
 rintro e w20 ⟨rfl, hB⟩
 replace BX := Lib.hid (BX.out.call hB)
 replace SX := Lib.hid (SX.out.trans (hB.mono SX.out.size))
 replace HMK := Lib.hid (HMK.out.below hB)
 have Z19 := Lib.hid (hB.size)
 clear hB
 have r0 := (BX.out.mem (.tail _ (.tail _ (.tail _ (.head _))))) 0 _ rfl
 have r1 := (BX.out.mem (.tail _ (.tail _ (.tail _ (.head _))))) 1 _ rfl
 have r2 := (BX.out.mem (.tail _ (.tail _ (.tail _ (.head _))))) 2 _ rfl
 have r3 := (BX.out.mem (.tail _ (.tail _ (.tail _ (.head _))))) 3 _ rfl
 have r4 := (BX.out.mem (.tail _ (.tail _ (.tail _ (.head _))))) 4 _ rfl
 have r5 := (BX.out.mem (.tail _ (.tail _ (.tail _ (.head _))))) 5 _ rfl
 have r6 := (BX.out.mem (.tail _ (.tail _ (.tail _ (.head _))))) 6 _ rfl
 have r7 := (BX.out.mem (.tail _ (.tail _ (.tail _ (.head _))))) 7 _ rfl
 have r8 := (BX.out.mem (.tail _ (.tail _ (.tail _ (.head _))))) 8 _ rfl
 go_wp2_with fail
 clear r0 r1 r2 r3 r4 r5 r6 r7 r8
 refine (laws_toBody B c _ (HB.out.below BX.out.bel) HS.out).mono ?_
 rintro e w21 ⟨Yh, rfl, hI, hB⟩
 replace BX := Lib.hid (BX.out.call hB)
 replace SX := Lib.hid (SX.out.trans (hB.mono SX.out.size))
 replace HMK := Lib.hid (HMK.out.below hB)
 have Z20 := Lib.hid (hB.size)
 clear hB
 have Ih := Lib.hid hI
 clear hI
 go_wp2_with fail
 refine (laws_toVectorS a1 n1 c1 y1 w21 (H1.out.below BX.out.bel) hl1).mono ?_
 rintro e w22 ⟨rfl, hi, hB, _⟩
 replace BX := Lib.hid (BX.out.call hB)
 replace SX := Lib.hid (SX.out.trans (hB.mono SX.out.size))
 replace HMK := Lib.hid (HMK.out.below hB)
 replace Ih := Lib.hid (Ih.out.below hB)
 have Z21 := Lib.hid (hB.size)
 clear hB
 have Jh1 := Lib.hid hi
 clear hi
 go_wp2_with fail
 refine (HIM.out Yh _ _ _ Ih.out Jh1.out).mono ?_
 rintro e w23 ⟨⟨Bh0, Fh0, rfl, hb0, hg0⟩, hB⟩
 clear Ih Jh1
 replace BX := Lib.hid (BX.out.call hB)
 replace SX := Lib.hid (SX.out.trans (hB.mono SX.out.size))
 replace HMK := Lib.hid (HMK.out.below hB)
 have Z22 := Lib.hid (hB.size)
 clear hB
 have HI0 := Lib.hid hb0
 clear hb0 hg0
 have r0 := fun (ob : Obj) => cell_alloc (o := ob) ((BX.out.mem (.tail _ (.tail _ (.head _)))) 0 _ rfl)
 have r1 := fun (ob : Obj) => cell_alloc (o := ob) ((BX.out.mem (.tail _ (.tail _ (.head _)))) 1 _ rfl)
 have r2 := fun (ob : Obj) => cell_alloc (o := ob) ((BX.out.mem (.tail _ (.tail _ (.head _)))) 2 _ rfl)
 have r3 := fun (ob : Obj) => cell_alloc (o := ob) ((BX.out.mem (.tail _ (.tail _ (.head _)))) 3 _ rfl)
 have r4 := fun (ob : Obj) => cell_alloc (o := ob) ((BX.out.mem (.tail _ (.tail _ (.head _)))) 4 _ rfl)
 have r5 := fun (ob : Obj) => cell_alloc (o := ob) ((BX.out.mem (.tail _ (.tail _ (.head _)))) 5 _ rfl)
 have r6 := fun (ob : Obj) => cell_alloc (o := ob) ((BX.out.mem (.tail _ (.tail _ (.head _)))) 6 _ rfl)
 have r7 := fun (ob : Obj) => cell_alloc (o := ob) ((BX.out.mem (.tail _ (.tail _ (.head _)))) 7 _ rfl)
 have r8 := fun (ob : Obj) => cell_alloc (o := ob) ((BX.out.mem (.tail _ (.tail _ (.head _)))) 8 _ rfl)
 have hA : Below w23.heap.size w23 (w23.alloc (BoxB Bh0 44)) := (Below.refl _ _).alloc (Nat.le_refl _) _
 have BX' : Hid (Bx w [(w23.heap.size, Bh0.l), (G, Bg0.l), (X, X0.l), (S, Bs0.l), (w.heap.size, B.l)] (w23.alloc (BoxB Bh0 44))) := Lib.hid (BX.out.box (vs := Bh0.l) (t := 44))
 replace BX := BX'
 clear BX'
 replace SX := Lib.hid (SX.out.trans (hA.mono SX.out.size))
 replace HMK := Lib.hid (HMK.out.below hA)
 replace HI0 := Lib.hid (HI0.out.below hA)
 have Z23 := Lib.hid (show (w23.alloc (BoxB Bh0 44)).heap.size = w23.heap.size + 1 by simp)
 clear hA
 go_wp2_with fail
 clear r0 r1 r2 r3 r4 r5 r6 r7 r8
 change Calls _ _ _ (w23.alloc (BoxB Bh0 44)) _
 generalize (w23.alloc (BoxB Bh0 44)) = w24 at *
 generalize w23.heap.size = G3 at *
 refine (laws_eqBody Bh0 Bs0 R0 _ HI0.out (SI0.out.below SX.out) HSB0.out).mono ?_
 rintro e w25 ⟨rfl, hB⟩
 clear HI0
 replace BX := Lib.hid (BX.out.call hB)
 replace SX := Lib.hid (SX.out.trans (hB.mono SX.out.size))
 replace HMK := Lib.hid (HMK.out.below hB)
 have Z24 := Lib.hid (hB.size)
 clear hB
 have r0 := (BX.out.mem (.tail _ (.head _))) 0 _ rfl
 have r1 := (BX.out.mem (.tail _ (.head _))) 1 _ rfl
 have r2 := (BX.out.mem (.tail _ (.head _))) 2 _ rfl
 have r3 := (BX.out.mem (.tail _ (.head _))) 3 _ rfl
 have r4 := (BX.out.mem (.tail _ (.head _))) 4 _ rfl
 have r5 := (BX.out.mem (.tail _ (.head _))) 5 _ rfl
 have r6 := (BX.out.mem (.tail _ (.head _))) 6 _ rfl
 have r7 := (BX.out.mem (.tail _ (.head _))) 7 _ rfl
 have r8 := (BX.out.mem (.tail _ (.head _))) 8 _ rfl
 go_wp2_with fail
 clear r0 r1 r2 r3 r4 r5 r6 r7 r8
 refine (HHG.out w25 HMK.out).mono ?_
 rintro e w26 ⟨rfl, hB⟩
 replace BX := Lib.hid (BX.out.call hB)
 replace SX := Lib.hid (SX.out.trans (hB.mono SX.out.size))
 replace HMK := Lib.hid (HMK.out.below hB)
 have Z25 := Lib.hid (hB.size)
 clear hB
 go_wp2
 go_ret
 exact ⟨rfl, BX.out.bel⟩
theorem FnExactPushedBody_law (pa ta sa wa : Option Addr) (pl pc tl tc sl sc wl wc : Nat) (cs : List C3) (ts : List (List Int)) (ss : List SC) (zs : List Nat) (fi be fx fy fz : Nat) (a1 : Option Addr) (n1 c1 : Nat) (y1 : List C3) (x2 : Nat) (x3 : Nat) (w : World) (hp : IsVs w pa pl pc cs) (ht : IsTs w ta tl tc ts) (hs : IsSs w sa sl sc ss) (hw : IsFs .f32 w wa wl wc zs) (hf : fi < 2 ^ FloatKind.f32.format.width ∧ be < 2 ^ FloatKind.f32.format.width ∧ fx < 2 ^ FloatKind.f32.format.width ∧ fy < 2 ^ FloatKind.f32.format.width ∧ fz < 2 ^ FloatKind.f32.format.width) (h1 : IsVs w a1 n1 c1 y1) (h2 : x2 < 2 ^ FloatKind.f32.format.width) (h3 : x3 < 2 ^ FloatKind.f32.format.width) :
  Calls Tryz.prog 10 #[.agg #[.slice pa pl pc, .slice ta tl tc, .slice sa sl sc, .float .f32 fi, .float .f32 be, .slice wa wl wc, .float .f32 fx, .float .f32 fy, .float .f32 fz], .slice a1 n1 c1, .float .f32 x2, .float .f32 x3] w fun e w' => e = .returned (.bool true) ∧ Below w.heap.size w w' :=
 pushedBody_law ⟨pa, ta, sa, wa, pl, pc, tl, tc, sl, sc, wl, wc, fi, be, fx, fy, fz⟩ ⟨cs, ts, ss, zs, cls .f32 fi, cls .f32 be, (cls .f32 fx, cls .f32 fy, cls .f32 fz)⟩ a1 n1 c1 y1 x2 (cls .f32 x2) x3 (cls .f32 x3) w ⟨hp, ht, hs, hw, FV.self hf.1, FV.self hf.2.1, FV.self hf.2.2.1, FV.self hf.2.2.2.1, FV.self hf.2.2.2.2⟩ h1 (FV.self h2) (Nat.lt_of_lt_of_eq h2 (by decide)) (FV.self h3) (Nat.lt_of_lt_of_eq h3 (by decide))
end Go.Proofs.YtabccmobmppdnaaGreat
namespace Go.Proofs.YtabccmobmppdnaaGreat.fnExactPushedBodyDone
open Go.ChangeShapes Go.WideShapes Go.ChangeAt Go.RowKit
open Go.ChangeMaps (open_string shut_string)
set_option linter.unusedVariables false
theorem own : ownKnob Tryz.prog.godebug = none := by kernel_rfl
theorem laidOut : laidOutB Tryz.prog = true := by kernel_rfl
set_option maxRecDepth 100000 in
theorem lifted (os : Os) (started : os.Started) (H : Type) (enc : TypeId × Value → H) :
  ReturnsInHanded {} Tryz.checked os 10 .any (Rows.fnExactPushedBodySpec.pre6 enc Tryz.prog Tryz.f10 Rows.fnExactPushedBodyRow.domain false) (Rows.fnExactPushedBodySpec.post enc Tryz.prog Tryz.f10 false true false false) := by
 refine returnsInHanded_of_change (C := Tryz.checked) own started (by kernel_rfl) Tryz.func10
  (ChangeSpec.witness6 (enc := enc) (C := Tryz.checked) false ⟨#[], #[.agg #[.slice none 0 0, .slice none 0 0, .slice none 0 0, .float .f32 0, .float .f32 0, .slice none 0 0, .float .f32 0, .float .f32 0, .float .f32 0], .slice none 0 0, .float .f32 0, .float .f32 0], []⟩ 8 (by kernel_rfl) (by kernel_rfl) (by kernel_rfl) (by kernel_rfl)) ?_
 intro W base args ds gs before hval0 hW hcnd _
 have hval : ∀ (j : Nat) t v, Tryz.f10.params[j]? = some t → args[j]? = some v → Value.okWide Tryz.prog W .any base t v := hval0
 have hW' := hW
 obtain ⟨p, q, hA0, hV, rfl, hfz, hnd⟩ := hW
 have hA : DataW.TrodAll enc Tryz.prog W 0 (fun _ => true) true Tryz.f10.params.toList args.toList ds p := hA0
 rw [Tryz.params10] at hA hval
 obtain ⟨v0, vs0, d0, ds0, p0, q0, hargs, rfl, rfl, h0, r0⟩ := trodAll_cons hA
 obtain ⟨v1, vs1, d1, ds1, p1, q1, rfl, rfl, rfl, h1, r1⟩ := trodAll_cons r0
 obtain ⟨v2, vs2, d2, ds2, p2, q2, rfl, rfl, rfl, h2, r2⟩ := trodAll_cons r1
 obtain ⟨v3, vs3, d3, ds3, p3, q3, rfl, rfl, rfl, h3, r3⟩ := trodAll_cons r2
 obtain ⟨rfl, rfl, rfl⟩ := trodAll_nil r3
 obtain rfl : args = #[v0, v1, v2, v3] := by cases args; simp_all
 obtain ⟨rfl, rfl⟩ := trodVars_none hV
 have k0 := h0
 have lt0 : ∀ x ∈ p0, x.block < W.heap.size := by obtain ⟨m, hm⟩ := k0; exact DataW.trod_lt m _ _ _ hm
 obtain ⟨pa0, ta0, sa0, wa0, pl0, pc0, tl0, tc0, sl0, sc0, wl0, wc0, cs0, ts0, ss0, zs0, fi0, be0, fx0, fy0, fz0, e0, wp0, wt0, ws0, ww0, wf0⟩ := Fk.open_body Tryz.underlying32 (by kernel_rfl) (by kernel_rfl) (by kernel_rfl) Tryz.underlying25 (by kernel_rfl) Tryz.underlying22 Tryz.underlying30 (by kernel_rfl) (by kernel_rfl) Tryz.underlying27 Tryz.underlying27 Tryz.underlying27 Tryz.underlying23 Tryz.underlying33 Tryz.underlying2 (by kernel_rfl) (by kernel_rfl) Tryz.underlying26 Tryz.underlying168 (by kernel_rfl) (by kernel_rfl) Tryz.underlying2 Tryz.underlying2 Tryz.underlying27 Tryz.underlying27 Tryz.underlying27 Tryz.underlying27 Tryz.underlying28 Tryz.underlying27 (by kernel_rfl) Tryz.underlying30 (by kernel_rfl) Tryz.underlying27 Tryz.underlying27 Tryz.underlying27 (hval 0 32 v0 rfl rfl) h0
 subst e0
 have k1 := h1
 have lt1 : ∀ x ∈ p1, x.block < W.heap.size := by obtain ⟨m, hm⟩ := k1; exact DataW.trod_lt m _ _ _ hm
 obtain ⟨a1, len1, cap1, e1⟩ := okWide_slice Tryz.underlying22 (hval 1 22 v1 rfl rfl)
 subst e1
 obtain ⟨cs1, w1⟩ := Fk.open_vecs Tryz.underlying22 Tryz.underlying30 (by kernel_rfl) (by kernel_rfl) Tryz.underlying27 Tryz.underlying27 Tryz.underlying27 h1
 have k2 := h2
 have lt2 : ∀ x ∈ p2, x.block < W.heap.size := by obtain ⟨m, hm⟩ := k2; exact DataW.trod_lt m _ _ _ hm
 obtain ⟨a2, e2, _, _, g2⟩ := open_float Tryz.underlying27 (hval 2 27 v2 rfl rfl) h2
 subst e2
 have w2 := Fk.wf_lt g2
 have k3 := h3
 have lt3 : ∀ x ∈ p3, x.block < W.heap.size := by obtain ⟨m, hm⟩ := k3; exact DataW.trod_lt m _ _ _ hm
 obtain ⟨a3, e3, _, _, g3⟩ := open_float Tryz.underlying27 (hval 3 27 v3 rfl rfl) h3
 subst e3
 have w3 := Fk.wf_lt g3
 clear hA0 hval0
 refine (FnExactPushedBody_law pa0 ta0 sa0 wa0 pl0 pc0 tl0 tc0 sl0 sc0 wl0 wc0 cs0 ts0 ss0 zs0 fi0 be0 fx0 fy0 fz0 a1 len1 cap1 cs1 a2 a3 W wp0 wt0 ws0 ww0 wf0 w1 w2 w3).mono fun e W' ⟨he, bel⟩ => ?_
 subst he
 exact ⟨_, rfl, _, _, _, [], _, [], hW', trodAll_mk1 (shut_bool Tryz.underlying4 _), (trodAll_cons_mk (Below.trod laidOut (by kernel_rfl) (of_decide_eq_true (by kernel_rfl)) k0 bel lt0) (trodAll_cons_mk (Below.trod laidOut (by kernel_rfl) (of_decide_eq_true (by kernel_rfl)) k1 bel lt1) (trodAll_cons_mk (Below.trod laidOut (by kernel_rfl) (of_decide_eq_true (by kernel_rfl)) k2 bel lt2) (trodAll_cons_mk (Below.trod laidOut (by kernel_rfl) (of_decide_eq_true (by kernel_rfl)) k3 bel lt3) trodAll_mk0)))), rfl, bel.frame _, fun h => by cases h⟩
end Go.Proofs.YtabccmobmppdnaaGreat.fnExactPushedBodyDone

/-
Texts in one: what StiffTimes stands on, part 0. Conditions: those of each.
-/
import Derived.Test.YtabccmobmppdnaaGreatKStfS11
import Derived.Lib.SmallJoins
import Derived.Test.YtabccmobmppdnaaGreatRows
import Derived.WalkKit
import Derived.ProofKit
import Derived.OpenShut
import Derived.ShutString
import Derived.ChangeOld
import Derived.Below
-- halved
namespace Go.Proofs.YtabccmobmppdnaaGreat
open Go Fk Go.RowKit
set_option linter.unusedVariables false
theorem int_own {lo hi Q n cap : Nat} {w : World} {L : List Int} (h : IsIs w (some ⟨Q, 0, none⟩) n cap L) (hf : ∀ i, w.frozen? ⟨Q, i, none⟩ = false) (h1 : lo ≤ Q) (h2 : Q < hi) (h3 : Q < w.heap.size) : Own lo hi w Q 0 n := by
 refine ⟨h1, h2, h3, fun j hj => ⟨?_, hf _⟩⟩
 have k0 := h.2.2.2.2.2 _ rfl j hj
 rw [addr_add', Nat.zero_add] at k0
 rw [Nat.zero_add]
 exact ⟨_, k0⟩
end Go.Proofs.YtabccmobmppdnaaGreat
namespace Go.Proofs.YtabccmobmppdnaaGreat
open Go Fk Go.RowKit
set_option linter.unusedVariables false
set_option maxRecDepth 16000
def MrkV (w : World) (a : Option Addr) (n : Nat) : Prop := (a = none → n = 0) ∧ ∀ b o s, a = some ⟨b, o, s⟩ → s = none ∧ ∀ j, j < n * 3 → w.cell? ⟨b, o + j, none⟩ = some (.float .f32 (floatOfInt .f32 ((1 + j : Nat) : Int)))
theorem mark_anyV (lo hi : Nat) (a : Option Addr) (n cap : Nat) (w : World) (h : Lst lo hi w a (n * 3)) (hn : n ≤ 2000000) :
  Calls Tryz.prog 27 #[.slice a n cap, .int .i64 1] w fun e w' => e = .returned (.int .i64 ((1 + n * 3 : Nat) : Int)) ∧ MrkV w' a n ∧ Mark lo hi w w' := by
 rcases h with ⟨rfl, h0⟩ | ⟨b, rfl, hown⟩
 ·obtain rfl : n = 0 := by omega
  go_enter Tryz.func27, Tryz.ntmps27
  go_wp2
  refine wp_loop_rounds 1 ?_
  rw [rounds_succ]
  go_wp2
  go_ret
  exact ⟨rfl, ⟨fun _ => rfl, fun _ _ _ h => by cases h⟩, Mark.refl _ _ _⟩
 ·refine (laws_markVectorS lo hi b 0 n cap 1 w hown (by omega)).mono ?_
  rintro e w' ⟨he, hd, _, hM⟩
  exact ⟨he, ⟨fun h => by (cases h), fun b' o s h => by cases h; exact ⟨rfl, hd⟩⟩, hM⟩
theorem held_anyV (a : Option Addr) (n cap : Nat) (w : World) (h : MrkV w a n) (hn : n ≤ 2000000) :
  Calls Tryz.prog 28 #[.slice a n cap, .int .i64 1] w fun e w' => e = .returned (.int .i64 ((1 + n * 3 : Nat) : Int)) ∧ w' = w := by
 cases a with
 | none =>
  obtain rfl := h.1 rfl
  go_enter Tryz.func28, Tryz.ntmps28
  go_wp2
  refine wp_loop_rounds 1 ?_
  rw [rounds_succ]
  go_wp2
  go_ret
  exact ⟨rfl, by first | rfl | trivial⟩
 | some x =>
  obtain ⟨b, o, s⟩ := x
  obtain ⟨rfl, hd⟩ := h.2 b o s rfl
  exact laws_heldVectorS b o n cap 1 w hd (by omega)
theorem MrkV.below {w w' : World} {a : Option Addr} {n : Nat} (h : MrkV w a n) (hB : Below w.heap.size w w') : MrkV w' a n :=
 ⟨h.1, fun b o s e => ⟨(h.2 b o s e).1, fun j hj => cell_below hB ((h.2 b o s e).2 j hj)⟩⟩
theorem isv_mark {lo hi lo' hi' : Nat} {w0 w w' : World} {a : Option Addr} {n cap : Nat} {L : List C3} (h : IsVs w a n cap L) (hl : Lst lo' hi' w0 a (n * 3)) (hM : Mark lo hi w w') (ho : hi' ≤ lo ∨ hi ≤ lo') : IsVs w' a n cap L := by
 obtain ⟨h1, h2, h3, h5, h6⟩ := h
 refine ⟨h1, h2, h3, h5, fun x hx i hi => ?_⟩
 rcases hl with ⟨e, _⟩ | ⟨b, e, hown⟩
 ·rw [e] at hx; cases hx
 ·rw [e] at hx; cases hx
  obtain ⟨p, q, r, k0, k1, k2, hf⟩ := h6 _ e i hi
  rw [addr_add'] at k0 k1 k2
  have u1 := hown.1
  have u2 := hown.2.1
  exact ⟨p, q, r, by rw [addr_add']; exact hM.cell (by omega) k0, by rw [addr_add']; exact hM.cell (by omega) k1, by rw [addr_add']; exact hM.cell (by omega) k2, hf⟩
end Go.Proofs.YtabccmobmppdnaaGreat
namespace Go.Proofs.YtabccmobmppdnaaGreat
open Go Fk Go.RowKit
set_option linter.unusedVariables false
set_option maxRecDepth 16000
set_option maxHeartbeats 40000000 in
theorem stiffTimes_law (B : Bd) (c : Bc) (a1 : Option Addr) (n1 c1 : Nat) (L1 : List Int) (a2 : Option Addr) (n2 c2 : Nat) (y2 : List C3) (x3 : Nat) (d3 : Option Nat) (w : World) (h0 : IsB w B c) (h1 : IsIs w a1 n1 c1 L1) (h2 : IsVs w a2 n2 c2 y2) (h3 : FV .f32 x3 d3) (g3 : x3 < 4294967296) :
  Calls Tryz.prog 3 #[B.v, .slice a1 n1 c1, .slice a2 n2 c2, .float .f32 x3] w fun e w' => e = .returned (.bool true) ∧ Below w.heap.size w w' := by
 have ulb := Tryz.underlying32
 have uib := Tryz.underlying44
 have BX : Hid (Bx w [(w.heap.size, B.l)] (w.alloc (BoxB B 32))) := Lib.hid ((Bx.nil w).box (vs := B.l) (t := 32))
 have HSP := Lib.hid (fun (B : Bd) (a1 : Option Addr) (c1 : Nat) (a2 : Option Addr) (c2 : Nat) (w : World) (h0 : IsB w B c) (h1 : IsIs w a1 n1 c1 L1) (h2 : IsVs w a2 n2 c2 y2) => spec_StiffTimes B c a1 n1 c1 L1 a2 n2 c2 y2 x3 d3 w h0 h1 h2 h3 g3)
 have HIM := Lib.hid (fun (B : Bd) (a1 : Option Addr) (c1 : Nat) (a2 : Option Addr) (c2 : Nat) (w : World) (h0 : IsB w B c) (h1 : IsIs w a1 n1 c1 L1) (h2 : IsVs w a2 n2 c2 y2) => impl_StiffTimes B c a1 n1 c1 L1 a2 n2 c2 y2 x3 d3 w h0 h1 h2 h3 g3)
 have HB := Lib.hid h0
 have H1 := Lib.hid h1
 have hm1 : n1 ≤ 9223372036854775807 := by have qq := h1.2.1; have qr := h1.2.2.1; unfold maxLen at qr; omega
 have H2 := Lib.hid h2
 have hm2 : n2 ≤ 9223372036854775807 := by have qq := h2.2.1; have qr := h2.2.2.1; unfold maxLen at qr; omega
 have H3 := Lib.hid h3
 have len0 := stiT_len c L1 y2 d3 n2 x3
 generalize stiT c L1 y2 d3 n2 x3 = R0 at *
 generalize canB c L1 n2 x3 = R1 at *
 clear h0 h1 h2 h3
 generalize hR0 : R0.length = m0 at *
 have HR0 := Lib.hid hR0
 clear hR0
 have ve1 : (R1 == R1) = true := by cases R1 <;> rfl
 have vn1 : (R1 != R1) = false := by cases R1 <;> rfl
 by_cases hl1 : n1 ≤ 1048576
 case neg =>
  have hgt : (1048576 : Int) < (n1 : Int) := by omega
  go_enter Tryz.func3, Tryz.ntmps3
  go_wp2
  go_ret
  exact ⟨rfl, BX.out.bel⟩
 have hngt1 : ¬ (1048576 : Int) < (n1 : Int) := by omega
 go_enter Tryz.func3, Tryz.ntmps3
 go_wp2_with fail
 change Calls _ _ _ (w.alloc (BoxB B 32)) _
 generalize (w.alloc (BoxB B 32)) = W0 at *
 refine (laws_szBody' B c 1048576 _ (HB.out.below BX.out.bel) (by decide) (by decide)).mono ?_
 rintro e w1 ⟨⟨r, rfl, hr⟩, hB⟩
 replace BX := Lib.hid (BX.out.call hB)
 clear hB
 rcases hr with rfl | ⟨hr0, hr1, hs⟩
 ·go_wp2
  go_ret
  exact ⟨rfl, BX.out.bel⟩
 have HS := Lib.hid hs
 clear hs
 go_wp2_with fail
 refine (laws_szVectorS a2 n2 c2 r w1 hr0 hr1 hm2).mono ?_
 rintro e w2 ⟨⟨r2_, rfl, hr⟩, hw⟩
 rw [hw]
 clear hw
 rcases hr with rfl | ⟨hq2, hp2, hl2⟩
 ·go_wp2
  go_ret
  exact ⟨rfl, BX.out.bel⟩
 have r0 := (BX.out.mem (.head _)) 0 _ rfl
 have r1 := (BX.out.mem (.head _)) 1 _ rfl
 have r2 := (BX.out.mem (.head _)) 2 _ rfl
 have r3 := (BX.out.mem (.head _)) 3 _ rfl
 have r4 := (BX.out.mem (.head _)) 4 _ rfl
 have r5 := (BX.out.mem (.head _)) 5 _ rfl
 have r6 := (BX.out.mem (.head _)) 6 _ rfl
 have r7 := (BX.out.mem (.head _)) 7 _ rfl
 have r8 := (BX.out.mem (.head _)) 8 _ rfl
 go_wp2_with fail
 clear r0 r1 r2 r3 r4 r5 r6 r7 r8
 refine (laws_toBody B c _ (HB.out.below BX.out.bel) HS.out).mono ?_
 rintro e w3 ⟨Ys, rfl, hI, hB⟩
 replace BX := Lib.hid (BX.out.call hB)
 have Z1 := Lib.hid (hB.size)
 clear hB
 have Is := Lib.hid hI
 clear hI
 go_wp2_with fail
 refine (laws_toInt64S _ _ _ _ _ (H1.out.below BX.out.bel) hl1).mono ?_
 rintro e w4 ⟨rfl, hi, hB, _⟩
 replace BX := Lib.hid (BX.out.call hB)
 replace Is := Lib.hid (Is.out.below hB)
 have Z2 := Lib.hid (hB.size)
 clear hB
 have Js1 := Lib.hid hi
 clear hi
 go_wp2_with fail
 refine (laws_toVectorS a2 n2 c2 y2 w4 (H2.out.below BX.out.bel) hl2).mono ?_
 rintro e w5 ⟨rfl, hi, hB, _⟩
 replace BX := Lib.hid (BX.out.call hB)
 replace Is := Lib.hid (Is.out.below hB)
 replace Js1 := Lib.hid (Js1.out.below hB)
 have Z3 := Lib.hid (hB.size)
 clear hB
 have Js2 := Lib.hid hi
 clear hi
 go_wp2_with fail
 refine (HSP.out Ys _ _ _ _ _ Is.out Js1.out Js2.out).mono ?_
 rintro e w6 ⟨⟨vs0, rfl, hv0⟩, hB⟩
 clear Is Js1 Js2
 replace BX := Lib.hid (BX.out.call hB)
 clear hB
 have LT : Hid (w.heap.size < w6.heap.size) := Lib.hid (BX.out.mem (.head _)).lt
 obtain ⟨sa0, sc0, rfl, hsi, _⟩ := hv0
 rw [HR0.out] at hsi ⊢
 have SI0 := Lib.hid hsi
 clear hsi
 have r0 := (BX.out.mem (.head _)) 0 _ rfl
 have r1 := (BX.out.mem (.head _)) 1 _ rfl
 have r2 := (BX.out.mem (.head _)) 2 _ rfl
 have r3 := (BX.out.mem (.head _)) 3 _ rfl
 have r4 := (BX.out.mem (.head _)) 4 _ rfl
 have r5 := (BX.out.mem (.head _)) 5 _ rfl
 have r6 := (BX.out.mem (.head _)) 6 _ rfl
 have r7 := (BX.out.mem (.head _)) 7 _ rfl
 have r8 := (BX.out.mem (.head _)) 8 _ rfl
 go_wp2_with fail
 clear r0 r1 r2 r3 r4 r5 r6 r7 r8
 have SX := Lib.hid (Below.refl w6.heap.size w6)
 refine (laws_toBodyO B c _ (HB.out.below BX.out.bel) HS.out).mono ?_
 rintro e w7 ⟨X0, rfl, hI, hO, hB⟩
 replace BX := Lib.hid (BX.out.call hB)
 replace SX := Lib.hid (SX.out.trans (hB.mono SX.out.size))
 have Z4 := Lib.hid (hB.size)
 clear hB
 have M := Lib.hid (And.intro hI hO)
 clear hI hO
 have hA : Below w7.heap.size w7 (w7.alloc (BoxB X0 44)) := (Below.refl _ _).alloc (Nat.le_refl _) _
 have BX' : Hid (Bx w [(w7.heap.size, X0.l), (w.heap.size, B.l)] (w7.alloc (BoxB X0 44))) := Lib.hid (BX.out.box (vs := X0.l) (t := 44))
 replace BX := BX'
 clear BX'
 replace SX := Lib.hid (SX.out.trans (hA.mono SX.out.size))
 replace M := Lib.hid (And.intro (M.out.1.below hA) (M.out.2.below hA))
 have Z5 := Lib.hid (show (w7.alloc (BoxB X0 44)).heap.size = w7.heap.size + 1 by simp)
 clear hA
 go_wp2_with fail
 change Calls _ _ _ (w7.alloc (BoxB X0 44)) _
 generalize (w7.alloc (BoxB X0 44)) = w8 at *
 generalize w7.heap.size = X at *
 refine (laws_toInt64S' _ _ _ _ _ (H1.out.below BX.out.bel) hl1).mono ?_
 rintro e w9 ⟨rfl, hi, hB, hlt, hf⟩
 replace BX := Lib.hid (BX.out.call hB)
 replace SX := Lib.hid (SX.out.trans (hB.mono SX.out.size))
 replace M := Lib.hid (And.intro (M.out.1.below hB) (M.out.2.below hB))
 have Z6 := Lib.hid (hB.size)
 clear hB
 have J1 := Lib.hid (And.intro hi (int_own (lo := w8.heap.size) (hi := w9.heap.size) hi hf (Nat.le_refl _) hlt hlt))
 have Z7 := Lib.hid (hlt)
 clear hi hf hlt
 obtain ⟨Q1, hQ1⟩ : ∃ Q, Q = w8.heap.size := ⟨_, rfl⟩
 have Z8 := Lib.hid (hQ1)
 rw [← hQ1] at J1 ⊢
 clear hQ1
 go_wp2_with fail
 refine (laws_toVectorS' a2 n2 c2 y2 _ (H2.out.below BX.out.bel) hl2).mono ?_
 rintro e w10 ⟨rfl, hi, hB, hlt, hf⟩
 replace BX := Lib.hid (BX.out.call hB)
 replace SX := Lib.hid (SX.out.trans (hB.mono SX.out.size))
 replace M := Lib.hid (And.intro (M.out.1.below hB) (M.out.2.below hB))
 replace J1 := Lib.hid (And.intro (J1.out.1.below hB) (J1.out.2.below hB))
 have Z9 := Lib.hid (hB.size)
 clear hB
 have J2 := Lib.hid (And.intro hi (vec_own (lo := w9.heap.size) (hi := w10.heap.size) hi hf (Nat.le_refl _) hlt hlt))
 have Z10 := Lib.hid (hlt)
 clear hi hf hlt
 obtain ⟨Q2, hQ2⟩ : ∃ Q, Q = w9.heap.size := ⟨_, rfl⟩
 have Z11 := Lib.hid (hQ2)
 rw [← hQ2] at J2 ⊢
 clear hQ2
 have r0 := (BX.out.mem (.head _)) 0 _ rfl
 have r1 := (BX.out.mem (.head _)) 1 _ rfl
 have r2 := (BX.out.mem (.head _)) 2 _ rfl
 have r3 := (BX.out.mem (.head _)) 3 _ rfl
 have r4 := (BX.out.mem (.head _)) 4 _ rfl
 have r5 := (BX.out.mem (.head _)) 5 _ rfl
 have r6 := (BX.out.mem (.head _)) 6 _ rfl
 have r7 := (BX.out.mem (.head _)) 7 _ rfl
 have r8 := (BX.out.mem (.head _)) 8 _ rfl
 go_wp2_with fail
 clear r0 r1 r2 r3 r4 r5 r6 r7 r8
 refine (HIM.out X0 _ _ _ _ _ M.out.1 J1.out.1 J2.out.1).mono ?_
 rintro e w11 ⟨⟨vg0, rfl, hv0⟩, hB⟩
 replace BX := Lib.hid (BX.out.call hB)
 replace SX := Lib.hid (SX.out.trans (hB.mono SX.out.size))
 replace M := Lib.hid (And.intro (M.out.1.below hB) (M.out.2.below hB))
 replace J1 := Lib.hid (And.intro (J1.out.1.below hB) (J1.out.2.below hB))
 replace J2 := Lib.hid (And.intro (J2.out.1.below hB) (J2.out.2.below hB))
 have Z12 := Lib.hid (hB.size)
 clear hB
 obtain ⟨ga0, gc0, rfl, hgi, hgl⟩ := hv0
 rw [HR0.out] at hgi hgl ⊢
 have GI0 := Lib.hid hgi
 have GL0 := Lib.hid hgl
 clear hgi hgl
 go_wp2_with fail
 refine (laws_eqVectorS _ _ _ _ _ _ _ GI0.out (SI0.out.below SX.out)).mono ?_
 rintro e w12 ⟨rfl, hB⟩
 replace BX := Lib.hid (BX.out.call hB)
 replace SX := Lib.hid (SX.out.trans (hB.mono SX.out.size))
 replace M := Lib.hid (And.intro (M.out.1.below hB) (M.out.2.below hB))
 replace J1 := Lib.hid (And.intro (J1.out.1.below hB) (J1.out.2.below hB))
 replace J2 := Lib.hid (And.intro (J2.out.1.below hB) (J2.out.2.below hB))
 replace GI0 := Lib.hid (GI0.out.below hB)
 replace GL0 := Lib.hid (GL0.out.below hB)
 have Z13 := Lib.hid (hB.size)
 clear hB
 go_wp2_with fail
 refine Reg.wp_region_mix (C := fun w' => Below w12.heap.size w12 w') (G := fun w1 w2 => Below w1.heap.size w1 w2) (R := fun i v w' => match i with | 0 => v = X0.v | 1 => v = B.v | 2 => ∃ Y : Bd, v = Y.v ∧ IsB w' Y c | 3 => v = .bool true | 4 => v = .bool false | _ => True) (T := fun _ _ _ => True) [false, false, false, false, false, false, false, false, false, false, false, false, false, false, false, false, false, false, false, false, false, false, false, false, false, false, false, false, false, false, false, false, false, false, false, false, false, false, false, false, false, false, false, false, false, false, false, false, false, false, false, false, false, false, false, false, false, false, false, false, false, false, false, false, false, false, false, false, false, true, true, true, true, true, false, false, false, false, false, false, false, false, false, false, false, false, false, false, false, false, false, false, false, false, false, false, false, false, false, false, false, false, false, false, false, false, false, false, false, false, false, false, false, false, false, false, false, false, false, false, false, false, false, false, false, false, false, false, false, false, false, false, false, false, false, false, false, false, false, false, false, false, false, false, false]
  (by kernel_rfl) (by kernel_rfl) (by kernel_rfl) ?_ (below_drewN (Below.refl _ _) 1) ?_ ?_
 ·intro j v w1 w2 _ hG hR
  match j with
  | 0 => exact hR
  | 1 => exact hR
  | 2 => obtain ⟨Y, e, h1⟩ := hR; exact ⟨Y, e, h1.below hG⟩
  | 3 => exact hR
  | 4 => exact hR
  | _ + 5 => trivial
 ·refine ⟨Reg.Obl.mk ?_, Reg.Obl.mk ?_, Reg.Obl.mk ?_, Reg.Obl.mk ?_, Reg.Obl.mk ?_, trivial⟩
  ·rintro av wq hB hx hd K hK
   have HC := Lib.hid hB; clear hB
   have t12 : av.tmps[12]?.getD undef = .pointer (some ⟨X, 0, none⟩) := Reg.slot_val (hx 12 (by kernel_rfl))
   have y0 := ((BX.out.call HC.out).mem (.head _)) 0 _ rfl
   have y1 := ((BX.out.call HC.out).mem (.head _)) 1 _ rfl
   have y2 := ((BX.out.call HC.out).mem (.head _)) 2 _ rfl
   have y3 := ((BX.out.call HC.out).mem (.head _)) 3 _ rfl
   have y4 := ((BX.out.call HC.out).mem (.head _)) 4 _ rfl
   have y5 := ((BX.out.call HC.out).mem (.head _)) 5 _ rfl
   have y6 := ((BX.out.call HC.out).mem (.head _)) 6 _ rfl
   have y7 := ((BX.out.call HC.out).mem (.head _)) 7 _ rfl
   have y8 := ((BX.out.call HC.out).mem (.head _)) 8 _ rfl
   go_simp
   exact hK _ _ (fun _ => rfl) (fun h => by cases h) HC.out (Below.refl _ _)
  ·rintro av wq hB hx hd K hK
   have HC := Lib.hid hB; clear hB
   have t4 : av.tmps[4]?.getD undef = .pointer (some ⟨w.heap.size, 0, none⟩) := Reg.slot_val (hx 4 (by kernel_rfl))
   have y0 := ((BX.out.call HC.out).mem (.tail _ (.head _))) 0 _ rfl
   have y1 := ((BX.out.call HC.out).mem (.tail _ (.head _))) 1 _ rfl
   have y2 := ((BX.out.call HC.out).mem (.tail _ (.head _))) 2 _ rfl
   have y3 := ((BX.out.call HC.out).mem (.tail _ (.head _))) 3 _ rfl
   have y4 := ((BX.out.call HC.out).mem (.tail _ (.head _))) 4 _ rfl
   have y5 := ((BX.out.call HC.out).mem (.tail _ (.head _))) 5 _ rfl
   have y6 := ((BX.out.call HC.out).mem (.tail _ (.head _))) 6 _ rfl
   have y7 := ((BX.out.call HC.out).mem (.tail _ (.head _))) 7 _ rfl
   have y8 := ((BX.out.call HC.out).mem (.tail _ (.head _))) 8 _ rfl
   go_simp
   exact hK _ _ (fun _ => rfl) (fun h => by cases h) HC.out (Below.refl _ _)
  ·rintro av wq hB hx hd K hK
   have HC := Lib.hid hB; clear hB
   have t70 : av.tmps[70]?.getD undef = B.v := Reg.slot_val (hd 1 (by kernel_rfl) 70 rfl)
   go_simp
   refine (laws_toBody B c _ (HB.out.below (BX.out.call HC.out).bel) HS.out).mono ?_
   rintro en w2 ⟨Y, rfl, hV, hB2⟩
   exact hK _ _ (fun _ => ⟨Y, rfl, hV⟩) (fun h => by cases h) (HC.out.trans (hB2.mono HC.out.size)) hB2
  ·rintro av wq hB hx hd K hK
   have HC := Lib.hid hB; clear hB
   have t69 : av.tmps[69]?.getD undef = X0.v := Reg.slot_val (hd 0 (by kernel_rfl) 69 rfl)
   obtain ⟨Y, g2, hV⟩ := hd 2 (by kernel_rfl) 71 rfl
   have t71 := Reg.slot_val g2
   clear g2
   have HVe := Lib.hid hV
   clear hV
   go_simp
   refine (laws_eqBody X0 Y c _ (M.out.1.below HC.out) HVe.out HS.out).mono ?_
   rintro en w2 ⟨rfl, hB2⟩
   exact hK _ _ (fun _ => rfl) (fun h => by cases h) (HC.out.trans (hB2.mono HC.out.size)) hB2
  ·rintro av wq hB hx hd K hK
   have t72 : av.tmps[72]?.getD undef = .bool true := Reg.slot_val (hd 3 (by kernel_rfl) 72 rfl)
   go_simp
   exact hK _ _ (fun _ => rfl) (fun h => by cases h) hB (Below.refl _ _)
 rintro f w13 hB hd hTT
 have gg : f 73 = .bool false := hd 4 73 rfl
 simp only [Reg.mixL, gg]
 clear hd hTT gg
 replace BX := Lib.hid (BX.out.call hB)
 replace SX := Lib.hid (SX.out.trans (hB.mono SX.out.size))
 replace M := Lib.hid (And.intro (M.out.1.below hB) (M.out.2.below hB))
 replace J1 := Lib.hid (And.intro (J1.out.1.below hB) (J1.out.2.below hB))
 replace J2 := Lib.hid (And.intro (J2.out.1.below hB) (J2.out.2.below hB))
 replace GI0 := Lib.hid (GI0.out.below hB)
 replace GL0 := Lib.hid (GL0.out.below hB)
 have Z14 := Lib.hid (hB.size)
 clear hB
 go_wp2_with fail
 refine (laws_toInt64S _ _ _ _ _ (H1.out.below BX.out.bel) hl1).mono ?_
 rintro e w14 ⟨rfl, hi, hB, _⟩
 replace BX := Lib.hid (BX.out.call hB)
 replace SX := Lib.hid (SX.out.trans (hB.mono SX.out.size))
 replace M := Lib.hid (And.intro (M.out.1.below hB) (M.out.2.below hB))
 replace J1 := Lib.hid (And.intro (J1.out.1.below hB) (J1.out.2.below hB))
 replace J2 := Lib.hid (And.intro (J2.out.1.below hB) (J2.out.2.below hB))
 replace GI0 := Lib.hid (GI0.out.below hB)
 replace GL0 := Lib.hid (GL0.out.below hB)
 have Z15 := Lib.hid (hB.size)
 clear hB
 have JY1 := Lib.hid hi
 clear hi
 go_wp2_with fail
 refine (laws_eqInt64S _ _ _ _ _ L1 _ J1.out.1 JY1.out).mono ?_
 rintro e w15 ⟨rfl, nz, hw⟩
 have hB : Below w14.heap.size w14 w15 := by rw [hw]; exact below_drewN (Below.refl _ _) _
 clear hw
 clear JY1
 replace BX := Lib.hid (BX.out.call hB)
 replace SX := Lib.hid (SX.out.trans (hB.mono SX.out.size))
 replace M := Lib.hid (And.intro (M.out.1.below hB) (M.out.2.below hB))
 replace J1 := Lib.hid (And.intro (J1.out.1.below hB) (J1.out.2.below hB))
 replace J2 := Lib.hid (And.intro (J2.out.1.below hB) (J2.out.2.below hB))
 replace GI0 := Lib.hid (GI0.out.below hB)
 replace GL0 := Lib.hid (GL0.out.below hB)
 have Z16 := Lib.hid (hB.size)
 clear hB
 go_wp2_with fail
 refine (laws_toVectorS a2 n2 c2 y2 w15 (H2.out.below BX.out.bel) hl2).mono ?_
 rintro e w16 ⟨rfl, hi, hB, _⟩
 replace BX := Lib.hid (BX.out.call hB)
 replace SX := Lib.hid (SX.out.trans (hB.mono SX.out.size))
 replace M := Lib.hid (And.intro (M.out.1.below hB) (M.out.2.below hB))
 replace J1 := Lib.hid (And.intro (J1.out.1.below hB) (J1.out.2.below hB))
 replace J2 := Lib.hid (And.intro (J2.out.1.below hB) (J2.out.2.below hB))
 replace GI0 := Lib.hid (GI0.out.below hB)
 replace GL0 := Lib.hid (GL0.out.below hB)
 have Z17 := Lib.hid (hB.size)
 clear hB
 have JY2 := Lib.hid hi
 clear hi
 go_wp2_with fail
 refine (laws_eqVectorS _ _ n2 _ _ y2 _ J2.out.1 JY2.out).mono ?_
 rintro e w17 ⟨rfl, hB⟩
 clear JY2
 replace BX := Lib.hid (BX.out.call hB)
 replace SX := Lib.hid (SX.out.trans (hB.mono SX.out.size))
 replace M := Lib.hid (And.intro (M.out.1.below hB) (M.out.2.below hB))
 replace J1 := Lib.hid (And.intro (J1.out.1.below hB) (J1.out.2.below hB))
 replace J2 := Lib.hid (And.intro (J2.out.1.below hB) (J2.out.2.below hB))
 replace GI0 := Lib.hid (GI0.out.below hB)
 replace GL0 := Lib.hid (GL0.out.below hB)
 have Z18 := Lib.hid (hB.size)
 clear hB
 have r0 := (BX.out.mem (.head _)) 0 _ rfl
 have r1 := (BX.out.mem (.head _)) 1 _ rfl
 have r2 := (BX.out.mem (.head _)) 2 _ rfl
 have r3 := (BX.out.mem (.head _)) 3 _ rfl
 have r4 := (BX.out.mem (.head _)) 4 _ rfl
 have r5 := (BX.out.mem (.head _)) 5 _ rfl
 have r6 := (BX.out.mem (.head _)) 6 _ rfl
 have r7 := (BX.out.mem (.head _)) 7 _ rfl
 have r8 := (BX.out.mem (.head _)) 8 _ rfl
 go_wp2_with fail
 clear r0 r1 r2 r3 r4 r5 r6 r7 r8
 refine (laws_markBodyZ w6.heap.size X X0 c w17 M.out.2 M.out.1 HS.out (by have z1 := Z1.out; have z2 := Z2.out; have z3 := Z3.out; have z4 := Z4.out; have z5 := Z5.out; have z6 := Z6.out; have z7 := Z7.out; have z8 := Z8.out; have z9 := Z9.out; have z10 := Z10.out; have z11 := Z11.out; have z12 := Z12.out; have z13 := Z13.out; have z14 := Z14.out; have z15 := Z15.out; have z16 := Z16.out; have z17 := Z17.out; have z18 := Z18.out; have zl := LT.out; omega) (by have z1 := Z1.out; have z2 := Z2.out; have z3 := Z3.out; have z4 := Z4.out; have z5 := Z5.out; have z6 := Z6.out; have z7 := Z7.out; have z8 := Z8.out; have z9 := Z9.out; have z10 := Z10.out; have z11 := Z11.out; have z12 := Z12.out; have z13 := Z13.out; have z14 := Z14.out; have z15 := Z15.out; have z16 := Z16.out; have z17 := Z17.out; have z18 := Z18.out; have zl := LT.out; omega)).mono ?_
 rintro e w18 ⟨zk, hzk, rfl, hM⟩
 have hk : ¬ ((zk : Int) < 0) := by omega
 clear M
 have hall : ∀ b l, (b, l) ∈ [(X, X0.l), (w.heap.size, B.l)] → b < w6.heap.size ∨ X ≤ b := by
  intro b l hm
  simp only [List.mem_cons, Prod.mk.injEq, List.not_mem_nil, or_false] at hm
  rcases hm with ⟨rfl, _⟩ | ⟨rfl, _⟩
  ·first | exact .inl (by have z1 := Z1.out; have z2 := Z2.out; have z3 := Z3.out; have z4 := Z4.out; have z5 := Z5.out; have z6 := Z6.out; have z7 := Z7.out; have z8 := Z8.out; have z9 := Z9.out; have z10 := Z10.out; have z11 := Z11.out; have z12 := Z12.out; have z13 := Z13.out; have z14 := Z14.out; have z15 := Z15.out; have z16 := Z16.out; have z17 := Z17.out; have z18 := Z18.out; have zl := LT.out; omega) | exact .inr (by have z1 := Z1.out; have z2 := Z2.out; have z3 := Z3.out; have z4 := Z4.out; have z5 := Z5.out; have z6 := Z6.out; have z7 := Z7.out; have z8 := Z8.out; have z9 := Z9.out; have z10 := Z10.out; have z11 := Z11.out; have z12 := Z12.out; have z13 := Z13.out; have z14 := Z14.out; have z15 := Z15.out; have z16 := Z16.out; have z17 := Z17.out; have z18 := Z18.out; have zl := LT.out; omega)
  ·first | exact .inl (by have z1 := Z1.out; have z2 := Z2.out; have z3 := Z3.out; have z4 := Z4.out; have z5 := Z5.out; have z6 := Z6.out; have z7 := Z7.out; have z8 := Z8.out; have z9 := Z9.out; have z10 := Z10.out; have z11 := Z11.out; have z12 := Z12.out; have z13 := Z13.out; have z14 := Z14.out; have z15 := Z15.out; have z16 := Z16.out; have z17 := Z17.out; have z18 := Z18.out; have zl := LT.out; omega) | exact .inr (by have z1 := Z1.out; have z2 := Z2.out; have z3 := Z3.out; have z4 := Z4.out; have z5 := Z5.out; have z6 := Z6.out; have z7 := Z7.out; have z8 := Z8.out; have z9 := Z9.out; have z10 := Z10.out; have z11 := Z11.out; have z12 := Z12.out; have z13 := Z13.out; have z14 := Z14.out; have z15 := Z15.out; have z16 := Z16.out; have z17 := Z17.out; have z18 := Z18.out; have zl := LT.out; omega)
 replace BX := Lib.hid (BX.out.away hM (by have z1 := Z1.out; have z2 := Z2.out; have z3 := Z3.out; have z4 := Z4.out; have z5 := Z5.out; have z6 := Z6.out; have z7 := Z7.out; have z8 := Z8.out; have z9 := Z9.out; have z10 := Z10.out; have z11 := Z11.out; have z12 := Z12.out; have z13 := Z13.out; have z14 := Z14.out; have z15 := Z15.out; have z16 := Z16.out; have z17 := Z17.out; have z18 := Z18.out; have zl := LT.out; omega) hall)
 clear hall
 replace SX := Lib.hid (SX.out.trans (hM.below.mono (by have z1 := Z1.out; have z2 := Z2.out; have z3 := Z3.out; have z4 := Z4.out; have z5 := Z5.out; have z6 := Z6.out; have z7 := Z7.out; have z8 := Z8.out; have z9 := Z9.out; have z10 := Z10.out; have z11 := Z11.out; have z12 := Z12.out; have z13 := Z13.out; have z14 := Z14.out; have z15 := Z15.out; have z16 := Z16.out; have z17 := Z17.out; have z18 := Z18.out; have zl := LT.out; omega)))
 have J1' := Lib.hid (J1.out.2.mark hM)
 have J2' := Lib.hid (J2.out.2.mark hM)
 replace GI0 := Lib.hid (isv_mark GI0.out GL0.out hM (by first | exact .inl (by have z1 := Z1.out; have z2 := Z2.out; have z3 := Z3.out; have z4 := Z4.out; have z5 := Z5.out; have z6 := Z6.out; have z7 := Z7.out; have z8 := Z8.out; have z9 := Z9.out; have z10 := Z10.out; have z11 := Z11.out; have z12 := Z12.out; have z13 := Z13.out; have z14 := Z14.out; have z15 := Z15.out; have z16 := Z16.out; have z17 := Z17.out; have z18 := Z18.out; have zl := LT.out; omega) | exact .inr (by have z1 := Z1.out; have z2 := Z2.out; have z3 := Z3.out; have z4 := Z4.out; have z5 := Z5.out; have z6 := Z6.out; have z7 := Z7.out; have z8 := Z8.out; have z9 := Z9.out; have z10 := Z10.out; have z11 := Z11.out; have z12 := Z12.out; have z13 := Z13.out; have z14 := Z14.out; have z15 := Z15.out; have z16 := Z16.out; have z17 := Z17.out; have z18 := Z18.out; have zl := LT.out; omega)))
 replace GL0 := Lib.hid (GL0.out.mark hM)
 clear J1
 have J1 := Lib.hid (And.intro True.intro J1'.out)
 clear J1'
 clear J2
 have J2 := Lib.hid (And.intro True.intro J2'.out)
 clear J2'
 have Z19 := Lib.hid (hM.below.size)
 clear hM
 go_wp2_with fail
 have hkb : zk ≤ 4000000000000000000 := by omega
 refine (laws_markInt64S Q1 w9.heap.size Q1 0 n1 n1 zk w18 J1.out.2 (by omega)).mono ?_
 rintro e w19 ⟨rfl, _, _, hM⟩
 clear hkb
 obtain ⟨zk1, hzk1⟩ : ∃ z, z = zk + n1 := ⟨_, rfl⟩
 have hzb1 : zk1 ≤ zk + 3145728 := by omega
 rw [← hzk1]
 clear hzk1
 have hk1 : ¬ ((zk1 : Int) < 0) := by omega
 clear J1
 have hall : ∀ b l, (b, l) ∈ [(X, X0.l), (w.heap.size, B.l)] → b < Q1 ∨ w9.heap.size ≤ b := by
  intro b l hm
  simp only [List.mem_cons, Prod.mk.injEq, List.not_mem_nil, or_false] at hm
  rcases hm with ⟨rfl, _⟩ | ⟨rfl, _⟩
  ·first | exact .inl (by have z1 := Z1.out; have z2 := Z2.out; have z3 := Z3.out; have z4 := Z4.out; have z5 := Z5.out; have z6 := Z6.out; have z7 := Z7.out; have z8 := Z8.out; have z9 := Z9.out; have z10 := Z10.out; have z11 := Z11.out; have z12 := Z12.out; have z13 := Z13.out; have z14 := Z14.out; have z15 := Z15.out; have z16 := Z16.out; have z17 := Z17.out; have z18 := Z18.out; have z19 := Z19.out; have zl := LT.out; omega) | exact .inr (by have z1 := Z1.out; have z2 := Z2.out; have z3 := Z3.out; have z4 := Z4.out; have z5 := Z5.out; have z6 := Z6.out; have z7 := Z7.out; have z8 := Z8.out; have z9 := Z9.out; have z10 := Z10.out; have z11 := Z11.out; have z12 := Z12.out; have z13 := Z13.out; have z14 := Z14.out; have z15 := Z15.out; have z16 := Z16.out; have z17 := Z17.out; have z18 := Z18.out; have z19 := Z19.out; have zl := LT.out; omega)
  ·first | exact .inl (by have z1 := Z1.out; have z2 := Z2.out; have z3 := Z3.out; have z4 := Z4.out; have z5 := Z5.out; have z6 := Z6.out; have z7 := Z7.out; have z8 := Z8.out; have z9 := Z9.out; have z10 := Z10.out; have z11 := Z11.out; have z12 := Z12.out; have z13 := Z13.out; have z14 := Z14.out; have z15 := Z15.out; have z16 := Z16.out; have z17 := Z17.out; have z18 := Z18.out; have z19 := Z19.out; have zl := LT.out; omega) | exact .inr (by have z1 := Z1.out; have z2 := Z2.out; have z3 := Z3.out; have z4 := Z4.out; have z5 := Z5.out; have z6 := Z6.out; have z7 := Z7.out; have z8 := Z8.out; have z9 := Z9.out; have z10 := Z10.out; have z11 := Z11.out; have z12 := Z12.out; have z13 := Z13.out; have z14 := Z14.out; have z15 := Z15.out; have z16 := Z16.out; have z17 := Z17.out; have z18 := Z18.out; have z19 := Z19.out; have zl := LT.out; omega)
 replace BX := Lib.hid (BX.out.away hM (by have z1 := Z1.out; have z2 := Z2.out; have z3 := Z3.out; have z4 := Z4.out; have z5 := Z5.out; have z6 := Z6.out; have z7 := Z7.out; have z8 := Z8.out; have z9 := Z9.out; have z10 := Z10.out; have z11 := Z11.out; have z12 := Z12.out; have z13 := Z13.out; have z14 := Z14.out; have z15 := Z15.out; have z16 := Z16.out; have z17 := Z17.out; have z18 := Z18.out; have z19 := Z19.out; have zl := LT.out; omega) hall)
 clear hall
 replace SX := Lib.hid (SX.out.trans (hM.below.mono (by have z1 := Z1.out; have z2 := Z2.out; have z3 := Z3.out; have z4 := Z4.out; have z5 := Z5.out; have z6 := Z6.out; have z7 := Z7.out; have z8 := Z8.out; have z9 := Z9.out; have z10 := Z10.out; have z11 := Z11.out; have z12 := Z12.out; have z13 := Z13.out; have z14 := Z14.out; have z15 := Z15.out; have z16 := Z16.out; have z17 := Z17.out; have z18 := Z18.out; have z19 := Z19.out; have zl := LT.out; omega)))
 have J2' := Lib.hid (J2.out.2.mark hM)
 replace GI0 := Lib.hid (isv_mark GI0.out GL0.out hM (by first | exact .inl (by have z1 := Z1.out; have z2 := Z2.out; have z3 := Z3.out; have z4 := Z4.out; have z5 := Z5.out; have z6 := Z6.out; have z7 := Z7.out; have z8 := Z8.out; have z9 := Z9.out; have z10 := Z10.out; have z11 := Z11.out; have z12 := Z12.out; have z13 := Z13.out; have z14 := Z14.out; have z15 := Z15.out; have z16 := Z16.out; have z17 := Z17.out; have z18 := Z18.out; have z19 := Z19.out; have zl := LT.out; omega) | exact .inr (by have z1 := Z1.out; have z2 := Z2.out; have z3 := Z3.out; have z4 := Z4.out; have z5 := Z5.out; have z6 := Z6.out; have z7 := Z7.out; have z8 := Z8.out; have z9 := Z9.out; have z10 := Z10.out; have z11 := Z11.out; have z12 := Z12.out; have z13 := Z13.out; have z14 := Z14.out; have z15 := Z15.out; have z16 := Z16.out; have z17 := Z17.out; have z18 := Z18.out; have z19 := Z19.out; have zl := LT.out; omega)))
 replace GL0 := Lib.hid (GL0.out.mark hM)
 clear J2
 have J2 := Lib.hid (And.intro True.intro J2'.out)
 clear J2'
 have Z20 := Lib.hid (hM.below.size)
 clear hM
 go_wp2_with fail
 have hkb : zk1 ≤ 4000000000000000000 := by omega
 refine (laws_markVectorS Q2 w10.heap.size Q2 0 n2 n2 zk1 w19 J2.out.2 (by omega)).mono ?_
 rintro e w20 ⟨rfl, _, _, hM⟩
 clear hkb
 obtain ⟨zk2, hzk2⟩ : ∃ z, z = zk1 + n2 * 3 := ⟨_, rfl⟩
 have hzb2 : zk2 ≤ zk1 + 3145728 := by omega
 rw [← hzk2]
 clear hzk2
 have hk2 : ¬ ((zk2 : Int) < 0) := by omega
 clear J2
 have hall : ∀ b l, (b, l) ∈ [(X, X0.l), (w.heap.size, B.l)] → b < Q2 ∨ w10.heap.size ≤ b := by
  intro b l hm
  simp only [List.mem_cons, Prod.mk.injEq, List.not_mem_nil, or_false] at hm
  rcases hm with ⟨rfl, _⟩ | ⟨rfl, _⟩
  ·first | exact .inl (by have z1 := Z1.out; have z2 := Z2.out; have z3 := Z3.out; have z4 := Z4.out; have z5 := Z5.out; have z6 := Z6.out; have z7 := Z7.out; have z8 := Z8.out; have z9 := Z9.out; have z10 := Z10.out; have z11 := Z11.out; have z12 := Z12.out; have z13 := Z13.out; have z14 := Z14.out; have z15 := Z15.out; have z16 := Z16.out; have z17 := Z17.out; have z18 := Z18.out; have z19 := Z19.out; have z20 := Z20.out; have zl := LT.out; omega) | exact .inr (by have z1 := Z1.out; have z2 := Z2.out; have z3 := Z3.out; have z4 := Z4.out; have z5 := Z5.out; have z6 := Z6.out; have z7 := Z7.out; have z8 := Z8.out; have z9 := Z9.out; have z10 := Z10.out; have z11 := Z11.out; have z12 := Z12.out; have z13 := Z13.out; have z14 := Z14.out; have z15 := Z15.out; have z16 := Z16.out; have z17 := Z17.out; have z18 := Z18.out; have z19 := Z19.out; have z20 := Z20.out; have zl := LT.out; omega)
  ·first | exact .inl (by have z1 := Z1.out; have z2 := Z2.out; have z3 := Z3.out; have z4 := Z4.out; have z5 := Z5.out; have z6 := Z6.out; have z7 := Z7.out; have z8 := Z8.out; have z9 := Z9.out; have z10 := Z10.out; have z11 := Z11.out; have z12 := Z12.out; have z13 := Z13.out; have z14 := Z14.out; have z15 := Z15.out; have z16 := Z16.out; have z17 := Z17.out; have z18 := Z18.out; have z19 := Z19.out; have z20 := Z20.out; have zl := LT.out; omega) | exact .inr (by have z1 := Z1.out; have z2 := Z2.out; have z3 := Z3.out; have z4 := Z4.out; have z5 := Z5.out; have z6 := Z6.out; have z7 := Z7.out; have z8 := Z8.out; have z9 := Z9.out; have z10 := Z10.out; have z11 := Z11.out; have z12 := Z12.out; have z13 := Z13.out; have z14 := Z14.out; have z15 := Z15.out; have z16 := Z16.out; have z17 := Z17.out; have z18 := Z18.out; have z19 := Z19.out; have z20 := Z20.out; have zl := LT.out; omega)
 replace BX := Lib.hid (BX.out.away hM (by have z1 := Z1.out; have z2 := Z2.out; have z3 := Z3.out; have z4 := Z4.out; have z5 := Z5.out; have z6 := Z6.out; have z7 := Z7.out; have z8 := Z8.out; have z9 := Z9.out; have z10 := Z10.out; have z11 := Z11.out; have z12 := Z12.out; have z13 := Z13.out; have z14 := Z14.out; have z15 := Z15.out; have z16 := Z16.out; have z17 := Z17.out; have z18 := Z18.out; have z19 := Z19.out; have z20 := Z20.out; have zl := LT.out; omega) hall)
 clear hall
 replace SX := Lib.hid (SX.out.trans (hM.below.mono (by have z1 := Z1.out; have z2 := Z2.out; have z3 := Z3.out; have z4 := Z4.out; have z5 := Z5.out; have z6 := Z6.out; have z7 := Z7.out; have z8 := Z8.out; have z9 := Z9.out; have z10 := Z10.out; have z11 := Z11.out; have z12 := Z12.out; have z13 := Z13.out; have z14 := Z14.out; have z15 := Z15.out; have z16 := Z16.out; have z17 := Z17.out; have z18 := Z18.out; have z19 := Z19.out; have z20 := Z20.out; have zl := LT.out; omega)))
 replace GI0 := Lib.hid (isv_mark GI0.out GL0.out hM (by first | exact .inl (by have z1 := Z1.out; have z2 := Z2.out; have z3 := Z3.out; have z4 := Z4.out; have z5 := Z5.out; have z6 := Z6.out; have z7 := Z7.out; have z8 := Z8.out; have z9 := Z9.out; have z10 := Z10.out; have z11 := Z11.out; have z12 := Z12.out; have z13 := Z13.out; have z14 := Z14.out; have z15 := Z15.out; have z16 := Z16.out; have z17 := Z17.out; have z18 := Z18.out; have z19 := Z19.out; have z20 := Z20.out; have zl := LT.out; omega) | exact .inr (by have z1 := Z1.out; have z2 := Z2.out; have z3 := Z3.out; have z4 := Z4.out; have z5 := Z5.out; have z6 := Z6.out; have z7 := Z7.out; have z8 := Z8.out; have z9 := Z9.out; have z10 := Z10.out; have z11 := Z11.out; have z12 := Z12.out; have z13 := Z13.out; have z14 := Z14.out; have z15 := Z15.out; have z16 := Z16.out; have z17 := Z17.out; have z18 := Z18.out; have z19 := Z19.out; have z20 := Z20.out; have zl := LT.out; omega)))
 replace GL0 := Lib.hid (GL0.out.mark hM)
 have Z21 := Lib.hid (hM.below.size)
 clear hM
 go_wp2_with fail
 refine (laws_eqVectorS _ _ _ _ _ _ _ GI0.out (SI0.out.below SX.out)).mono ?_
 rintro e w21 ⟨rfl, hB⟩
 replace BX := Lib.hid (BX.out.call hB)
 replace SX := Lib.hid (SX.out.trans (hB.mono SX.out.size))
 replace GI0 := Lib.hid (GI0.out.below hB)
 replace GL0 := Lib.hid (GL0.out.below hB)
 have Z22 := Lib.hid (hB.size)
 clear hB
 go_wp2_with fail
 clear GI0
 refine (mark_anyV w10.heap.size w11.heap.size ga0 m0 gc0 w21 GL0.out (by omega)).mono ?_
 rintro e w22 ⟨rfl, hmk, hM⟩
 clear GL0
 have hall : ∀ b l, (b, l) ∈ [(X, X0.l), (w.heap.size, B.l)] → b < w10.heap.size ∨ w11.heap.size ≤ b := by
  intro b l hm
  simp only [List.mem_cons, Prod.mk.injEq, List.not_mem_nil, or_false] at hm
  rcases hm with ⟨rfl, _⟩ | ⟨rfl, _⟩
  ·first | exact .inl (by have z1 := Z1.out; have z2 := Z2.out; have z3 := Z3.out; have z4 := Z4.out; have z5 := Z5.out; have z6 := Z6.out; have z7 := Z7.out; have z8 := Z8.out; have z9 := Z9.out; have z10 := Z10.out; have z11 := Z11.out; have z12 := Z12.out; have z13 := Z13.out; have z14 := Z14.out; have z15 := Z15.out; have z16 := Z16.out; have z17 := Z17.out; have z18 := Z18.out; have z19 := Z19.out; have z20 := Z20.out; have z21 := Z21.out; have z22 := Z22.out; have zl := LT.out; omega) | exact .inr (by have z1 := Z1.out; have z2 := Z2.out; have z3 := Z3.out; have z4 := Z4.out; have z5 := Z5.out; have z6 := Z6.out; have z7 := Z7.out; have z8 := Z8.out; have z9 := Z9.out; have z10 := Z10.out; have z11 := Z11.out; have z12 := Z12.out; have z13 := Z13.out; have z14 := Z14.out; have z15 := Z15.out; have z16 := Z16.out; have z17 := Z17.out; have z18 := Z18.out; have z19 := Z19.out; have z20 := Z20.out; have z21 := Z21.out; have z22 := Z22.out; have zl := LT.out; omega)
  ·first | exact .inl (by have z1 := Z1.out; have z2 := Z2.out; have z3 := Z3.out; have z4 := Z4.out; have z5 := Z5.out; have z6 := Z6.out; have z7 := Z7.out; have z8 := Z8.out; have z9 := Z9.out; have z10 := Z10.out; have z11 := Z11.out; have z12 := Z12.out; have z13 := Z13.out; have z14 := Z14.out; have z15 := Z15.out; have z16 := Z16.out; have z17 := Z17.out; have z18 := Z18.out; have z19 := Z19.out; have z20 := Z20.out; have z21 := Z21.out; have z22 := Z22.out; have zl := LT.out; omega) | exact .inr (by have z1 := Z1.out; have z2 := Z2.out; have z3 := Z3.out; have z4 := Z4.out; have z5 := Z5.out; have z6 := Z6.out; have z7 := Z7.out; have z8 := Z8.out; have z9 := Z9.out; have z10 := Z10.out; have z11 := Z11.out; have z12 := Z12.out; have z13 := Z13.out; have z14 := Z14.out; have z15 := Z15.out; have z16 := Z16.out; have z17 := Z17.out; have z18 := Z18.out; have z19 := Z19.out; have z20 := Z20.out; have z21 := Z21.out; have z22 := Z22.out; have zl := LT.out; omega)
 replace BX := Lib.hid (BX.out.away hM (by have z1 := Z1.out; have z2 := Z2.out; have z3 := Z3.out; have z4 := Z4.out; have z5 := Z5.out; have z6 := Z6.out; have z7 := Z7.out; have z8 := Z8.out; have z9 := Z9.out; have z10 := Z10.out; have z11 := Z11.out; have z12 := Z12.out; have z13 := Z13.out; have z14 := Z14.out; have z15 := Z15.out; have z16 := Z16.out; have z17 := Z17.out; have z18 := Z18.out; have z19 := Z19.out; have z20 := Z20.out; have z21 := Z21.out; have z22 := Z22.out; have zl := LT.out; omega) hall)
 clear hall
 replace SX := Lib.hid (SX.out.trans (hM.below.mono (by have z1 := Z1.out; have z2 := Z2.out; have z3 := Z3.out; have z4 := Z4.out; have z5 := Z5.out; have z6 := Z6.out; have z7 := Z7.out; have z8 := Z8.out; have z9 := Z9.out; have z10 := Z10.out; have z11 := Z11.out; have z12 := Z12.out; have z13 := Z13.out; have z14 := Z14.out; have z15 := Z15.out; have z16 := Z16.out; have z17 := Z17.out; have z18 := Z18.out; have z19 := Z19.out; have z20 := Z20.out; have z21 := Z21.out; have z22 := Z22.out; have zl := LT.out; omega)))
 have Z23 := Lib.hid (hM.below.size)
 clear hM
 have HMK := Lib.hid (show MrkV w22 ga0 m0 from hmk)
 clear hmk
 go_wp2_with fail
 refine (held_anyV ga0 m0 gc0 w22 HMK.out (by omega)).mono ?_
 rintro e w23 ⟨rfl, hw⟩
 rw [hw]
 clear hw
 have r0 := (BX.out.mem (.tail _ (.head _))) 0 _ rfl
 have r1 := (BX.out.mem (.tail _ (.head _))) 1 _ rfl
 have r2 := (BX.out.mem (.tail _ (.head _))) 2 _ rfl
 have r3 := (BX.out.mem (.tail _ (.head _))) 3 _ rfl
 have r4 := (BX.out.mem (.tail _ (.head _))) 4 _ rfl
 have r5 := (BX.out.mem (.tail _ (.head _))) 5 _ rfl
 have r6 := (BX.out.mem (.tail _ (.head _))) 6 _ rfl
 have r7 := (BX.out.mem (.tail _ (.head _))) 7 _ rfl
 have r8 := (BX.out.mem (.tail _ (.head _))) 8 _ rfl
 go_wp2_with fail
 clear r0 r1 r2 r3 r4 r5 r6 r7 r8
 refine (laws_toBody B c _ (HB.out.below BX.out.bel) HS.out).mono ?_
 rintro e w24 ⟨Yh, rfl, hI, hB⟩
 replace BX := Lib.hid (BX.out.call hB)
 replace SX := Lib.hid (SX.out.trans (hB.mono SX.out.size))
 replace HMK := Lib.hid (HMK.out.below hB)
 have Z24 := Lib.hid (hB.size)
 clear hB
 have Ih := Lib.hid hI
 clear hI
 go_wp2_with fail
 refine (laws_toInt64S _ _ _ _ _ (H1.out.below BX.out.bel) hl1).mono ?_
 rintro e w25 ⟨rfl, hi, hB, _⟩
 replace BX := Lib.hid (BX.out.call hB)
 replace SX := Lib.hid (SX.out.trans (hB.mono SX.out.size))
 replace HMK := Lib.hid (HMK.out.below hB)
 replace Ih := Lib.hid (Ih.out.below hB)
 have Z25 := Lib.hid (hB.size)
 clear hB
 have Jh1 := Lib.hid hi
 clear hi
 go_wp2_with fail
 refine (laws_toVectorS a2 n2 c2 y2 w25 (H2.out.below BX.out.bel) hl2).mono ?_
 rintro e w26 ⟨rfl, hi, hB, _⟩
 replace BX := Lib.hid (BX.out.call hB)
 replace SX := Lib.hid (SX.out.trans (hB.mono SX.out.size))
 replace HMK := Lib.hid (HMK.out.below hB)
 replace Ih := Lib.hid (Ih.out.below hB)
 replace Jh1 := Lib.hid (Jh1.out.below hB)
 have Z26 := Lib.hid (hB.size)
 clear hB
 have Jh2 := Lib.hid hi
 clear hi
 go_wp2_with fail
 refine (HIM.out Yh _ _ _ _ _ Ih.out Jh1.out Jh2.out).mono ?_
 rintro e w27 ⟨⟨vh0, rfl, hv0⟩, hB⟩
 clear Ih Jh1 Jh2
 replace BX := Lib.hid (BX.out.call hB)
 replace SX := Lib.hid (SX.out.trans (hB.mono SX.out.size))
 replace HMK := Lib.hid (HMK.out.below hB)
 have Z27 := Lib.hid (hB.size)
 clear hB
 obtain ⟨ha0, hc0, rfl, hhi, _⟩ := hv0
 rw [HR0.out] at hhi ⊢
 have HI0 := Lib.hid hhi
 clear hhi
 go_wp2_with fail
 refine (laws_eqVectorS _ _ _ _ _ _ _ HI0.out (SI0.out.below SX.out)).mono ?_
 rintro e w28 ⟨rfl, hB⟩
 clear HI0
 replace BX := Lib.hid (BX.out.call hB)
 replace SX := Lib.hid (SX.out.trans (hB.mono SX.out.size))
 replace HMK := Lib.hid (HMK.out.below hB)
 have Z28 := Lib.hid (hB.size)
 clear hB
 go_wp2_with fail
 refine (held_anyV ga0 m0 gc0 w28 HMK.out (by omega)).mono ?_
 rintro e w29 ⟨rfl, hw⟩
 rw [hw]
 clear hw
 go_wp2
 go_ret
 exact ⟨rfl, BX.out.bel⟩
theorem FnExactStiffTimes_law (pa ta sa wa : Option Addr) (pl pc tl tc sl sc wl wc : Nat) (cs : List C3) (ts : List (List Int)) (ss : List SC) (zs : List Nat) (fi be fx fy fz : Nat) (a1 : Option Addr) (n1 c1 : Nat) (L1 : List Int) (a2 : Option Addr) (n2 c2 : Nat) (y2 : List C3) (x3 : Nat) (w : World) (hp : IsVs w pa pl pc cs) (ht : IsTs w ta tl tc ts) (hs : IsSs w sa sl sc ss) (hw : IsFs .f32 w wa wl wc zs) (hf : fi < 2 ^ FloatKind.f32.format.width ∧ be < 2 ^ FloatKind.f32.format.width ∧ fx < 2 ^ FloatKind.f32.format.width ∧ fy < 2 ^ FloatKind.f32.format.width ∧ fz < 2 ^ FloatKind.f32.format.width) (h1 : IsIs w a1 n1 c1 L1) (h2 : IsVs w a2 n2 c2 y2) (h3 : x3 < 2 ^ FloatKind.f32.format.width) :
  Calls Tryz.prog 3 #[.agg #[.slice pa pl pc, .slice ta tl tc, .slice sa sl sc, .float .f32 fi, .float .f32 be, .slice wa wl wc, .float .f32 fx, .float .f32 fy, .float .f32 fz], .slice a1 n1 c1, .slice a2 n2 c2, .float .f32 x3] w fun e w' => e = .returned (.bool true) ∧ Below w.heap.size w w' :=
 stiffTimes_law ⟨pa, ta, sa, wa, pl, pc, tl, tc, sl, sc, wl, wc, fi, be, fx, fy, fz⟩ ⟨cs, ts, ss, zs, cls .f32 fi, cls .f32 be, (cls .f32 fx, cls .f32 fy, cls .f32 fz)⟩ a1 n1 c1 L1 a2 n2 c2 y2 x3 (cls .f32 x3) w ⟨hp, ht, hs, hw, FV.self hf.1, FV.self hf.2.1, FV.self hf.2.2.1, FV.self hf.2.2.2.1, FV.self hf.2.2.2.2⟩ h1 h2 (FV.self h3) (Nat.lt_of_lt_of_eq h3 (by decide))
end Go.Proofs.YtabccmobmppdnaaGreat
namespace Go.Proofs.YtabccmobmppdnaaGreat
namespace Fk
open Go Go.RowKit
set_option linter.unusedVariables false
section
open Go.ChangeShapes Go.WideShapes Go.Deep
variable {H : Type} {enc : TypeId × Value → H} {P : Program} {w : World} {base : Nat} {held : Bool}
theorem open_vecs {t ev : TypeId} {f0 f1 f2 : Field} {a : Option Addr} {len cap : Nat} {d : DataW H} {p : List MemPlace}
  (hp : P.underlying t = some (.slice ev)) (hev : P.underlying ev = some (.struct #[f0, f1, f2])) (honev : oneCellFields P #[f0, f1, f2] = true) (hCv : P.cellsOf ev = 3)
  (he0 : P.underlying f0.type = some (.float .f32)) (he1 : P.underlying f1.type = some (.float .f32)) (he2 : P.underlying f2.type = some (.float .f32))
  (h : DataW.Trod enc P w base (fun _ => true) held t (.slice a len cap) d p) : ∃ cs, IsVs w a len cap cs := by
 obtain ⟨fuel, hf⟩ := h
 obtain ⟨a', len', cap', cs, e, hv⟩ := trod_vecs hp hev honev hCv he0 he1 he2 (by simpa [Value.cells] using hf)
 cases e
 exact ⟨cs, hv⟩
end
end Fk
end Go.Proofs.YtabccmobmppdnaaGreat
namespace Go.Proofs.YtabccmobmppdnaaGreat
namespace Fk
open Go Go.RowKit
set_option linter.unusedVariables false
section
open Go.ChangeShapes Go.WideShapes Go.Deep
variable {H : Type} {enc : TypeId × Value → H} {P : Program} {w : World} {base : Nat} {held : Bool}
theorem open_ilist {t e : TypeId} {a : Option Addr} {len cap : Nat} {d : DataW H} {p : List MemPlace} (ht : P.underlying t = some (.slice e)) (he : P.underlying e = some (.int .i64)) (hc : P.cellsOf e = 1)
  (h : DataW.Trod enc P w base (fun _ => true) held t (.slice a len cap) d p) : ∃ zs, IsIs w a len cap zs := by
 obtain ⟨fuel, hf⟩ := h
 obtain ⟨a', len', cap', zs, e1, hz⟩ := trod_ints ht he hc (by simpa [Value.cells] using hf)
 cases e1
 exact ⟨zs, hz⟩
end
end Fk
end Go.Proofs.YtabccmobmppdnaaGreat
namespace Go.Proofs.YtabccmobmppdnaaGreat.fnExactStiffTimesDone
open Go.ChangeShapes Go.WideShapes Go.ChangeAt Go.RowKit
open Go.ChangeMaps (open_string shut_string)
set_option linter.unusedVariables false
theorem own : ownKnob Tryz.prog.godebug = none := by kernel_rfl
theorem laidOut : laidOutB Tryz.prog = true := by kernel_rfl
set_option maxRecDepth 100000 in
theorem lifted (os : Os) (started : os.Started) (H : Type) (enc : TypeId × Value → H) :
  ReturnsInHanded {} Tryz.checked os 3 .any (Rows.fnExactStiffTimesSpec.pre6 enc Tryz.prog Tryz.f3 Rows.fnExactStiffTimesRow.domain false) (Rows.fnExactStiffTimesSpec.post enc Tryz.prog Tryz.f3 false true false false) := by
 refine returnsInHanded_of_change (C := Tryz.checked) own started (by kernel_rfl) Tryz.func3
  (ChangeSpec.witness6 (enc := enc) (C := Tryz.checked) false ⟨#[], #[.agg #[.slice none 0 0, .slice none 0 0, .slice none 0 0, .float .f32 0, .float .f32 0, .slice none 0 0, .float .f32 0, .float .f32 0, .float .f32 0], .slice none 0 0, .slice none 0 0, .float .f32 0], []⟩ 8 (by kernel_rfl) (by kernel_rfl) (by kernel_rfl) (by kernel_rfl)) ?_
 intro W base args ds gs before hval0 hW hcnd _
 have hval : ∀ (j : Nat) t v, Tryz.f3.params[j]? = some t → args[j]? = some v → Value.okWide Tryz.prog W .any base t v := hval0
 have hW' := hW
 obtain ⟨p, q, hA0, hV, rfl, hfz, hnd⟩ := hW
 have hA : DataW.TrodAll enc Tryz.prog W 0 (fun _ => true) true Tryz.f3.params.toList args.toList ds p := hA0
 rw [Tryz.params3] at hA hval
 obtain ⟨v0, vs0, d0, ds0, p0, q0, hargs, rfl, rfl, h0, r0⟩ := trodAll_cons hA
 obtain ⟨v1, vs1, d1, ds1, p1, q1, rfl, rfl, rfl, h1, r1⟩ := trodAll_cons r0
 obtain ⟨v2, vs2, d2, ds2, p2, q2, rfl, rfl, rfl, h2, r2⟩ := trodAll_cons r1
 obtain ⟨v3, vs3, d3, ds3, p3, q3, rfl, rfl, rfl, h3, r3⟩ := trodAll_cons r2
 obtain ⟨rfl, rfl, rfl⟩ := trodAll_nil r3
 obtain rfl : args = #[v0, v1, v2, v3] := by cases args; simp_all
 obtain ⟨rfl, rfl⟩ := trodVars_none hV
 have k0 := h0
 have lt0 : ∀ x ∈ p0, x.block < W.heap.size := by obtain ⟨m, hm⟩ := k0; exact DataW.trod_lt m _ _ _ hm
 obtain ⟨pa0, ta0, sa0, wa0, pl0, pc0, tl0, tc0, sl0, sc0, wl0, wc0, cs0, ts0, ss0, zs0, fi0, be0, fx0, fy0, fz0, e0, wp0, wt0, ws0, ww0, wf0⟩ := Fk.open_body Tryz.underlying32 (by kernel_rfl) (by kernel_rfl) (by kernel_rfl) Tryz.underlying25 (by kernel_rfl) Tryz.underlying22 Tryz.underlying30 (by kernel_rfl) (by kernel_rfl) Tryz.underlying27 Tryz.underlying27 Tryz.underlying27 Tryz.underlying23 Tryz.underlying33 Tryz.underlying2 (by kernel_rfl) (by kernel_rfl) Tryz.underlying26 Tryz.underlying168 (by kernel_rfl) (by kernel_rfl) Tryz.underlying2 Tryz.underlying2 Tryz.underlying27 Tryz.underlying27 Tryz.underlying27 Tryz.underlying27 Tryz.underlying28 Tryz.underlying27 (by kernel_rfl) Tryz.underlying30 (by kernel_rfl) Tryz.underlying27 Tryz.underlying27 Tryz.underlying27 (hval 0 32 v0 rfl rfl) h0
 subst e0
 have k1 := h1
 have lt1 : ∀ x ∈ p1, x.block < W.heap.size := by obtain ⟨m, hm⟩ := k1; exact DataW.trod_lt m _ _ _ hm
 obtain ⟨a1, len1, cap1, e1⟩ := okWide_slice Tryz.underlying33 (hval 1 33 v1 rfl rfl)
 subst e1
 obtain ⟨z1, w1⟩ := Fk.open_ilist Tryz.underlying33 Tryz.underlying2 (by kernel_rfl) h1
 have k2 := h2
 have lt2 : ∀ x ∈ p2, x.block < W.heap.size := by obtain ⟨m, hm⟩ := k2; exact DataW.trod_lt m _ _ _ hm
 obtain ⟨a2, len2, cap2, e2⟩ := okWide_slice Tryz.underlying22 (hval 2 22 v2 rfl rfl)
 subst e2
 obtain ⟨cs2, w2⟩ := Fk.open_vecs Tryz.underlying22 Tryz.underlying30 (by kernel_rfl) (by kernel_rfl) Tryz.underlying27 Tryz.underlying27 Tryz.underlying27 h2
 have k3 := h3
 have lt3 : ∀ x ∈ p3, x.block < W.heap.size := by obtain ⟨m, hm⟩ := k3; exact DataW.trod_lt m _ _ _ hm
 obtain ⟨a3, e3, _, _, g3⟩ := open_float Tryz.underlying27 (hval 3 27 v3 rfl rfl) h3
 subst e3
 have w3 := Fk.wf_lt g3
 clear hA0 hval0
 refine (FnExactStiffTimes_law pa0 ta0 sa0 wa0 pl0 pc0 tl0 tc0 sl0 sc0 wl0 wc0 cs0 ts0 ss0 zs0 fi0 be0 fx0 fy0 fz0 a1 len1 cap1 z1 a2 len2 cap2 cs2 a3 W wp0 wt0 ws0 ww0 wf0 w1 w2 w3).mono fun e W' ⟨he, bel⟩ => ?_
 subst he
 exact ⟨_, rfl, _, _, _, [], _, [], hW', trodAll_mk1 (shut_bool Tryz.underlying4 _), (trodAll_cons_mk (Below.trod laidOut (by kernel_rfl) (of_decide_eq_true (by kernel_rfl)) k0 bel lt0) (trodAll_cons_mk (Below.trod laidOut (by kernel_rfl) (of_decide_eq_true (by kernel_rfl)) k1 bel lt1) (trodAll_cons_mk (Below.trod laidOut (by kernel_rfl) (of_decide_eq_true (by kernel_rfl)) k2 bel lt2) (trodAll_cons_mk (Below.trod laidOut (by kernel_rfl) (of_decide_eq_true (by kernel_rfl)) k3 bel lt3) trodAll_mk0)))), rfl, bel.frame _, fun h => by cases h⟩
end Go.Proofs.YtabccmobmppdnaaGreat.fnExactStiffTimesDone

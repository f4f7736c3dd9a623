/-
Texts in one: what StfS stands on, part 11. Conditions: those of each.
-/
import Derived.Test.YtabccmobmppdnaaGreatKStfS10
-- halved
namespace Go.Proofs.YtabccmobmppdnaaGreat
open Go Fk Go.RowKit
set_option linter.unusedVariables false
set_option maxRecDepth 16000
theorem Bx.setAll {w w1 : World} {L : List (Nat × List Value)} {b : Nat} {l vs : List Value} (h : Bx w ((b, l) :: L) w1) (hd : ∀ b' l', (b', l') ∈ L → b ≠ b') (hl : vs.length = l.length) : Bx w ((b, vs) :: L) (setL w1 b 0 vs) := by
 have hb := h.low (.head _)
 refine ⟨setL_below b hb vs w1 0 h.1, fun b' l' hm => ?_⟩
 rcases List.mem_cons.1 hm with e | hm
 ·cases e
  have hh := h.2 b l (.head _)
  refine ⟨fun i v hi => ?_, fun i => by rw [setL_frozen]; exact hh.2.1 i, by rw [setL_size]; exact hh.2.2.1, hb⟩
  have hlt : i < vs.length := (List.getElem?_eq_some_iff.1 hi).1
  have := setL_in b vs w1 0 (fun j hj => ⟨l.getD j undef, by
   rw [Nat.zero_add]
   exact hh.1 j _ (by rw [List.getD, List.getElem?_eq_getElem (by omega)]; rfl)⟩) i hlt
  rw [Nat.zero_add] at this
  rw [this]; exact hi
 ·have hh := h.2 b' l' (.tail _ hm)
  refine ⟨fun i v hi => by rw [setL_far b b' i (hd b' l' hm)]; exact hh.1 i v hi, fun i => by rw [setL_frozen]; exact hh.2.1 i, by rw [setL_size]; exact hh.2.2.1, hh.2.2.2⟩
def EnB (base : Nat) (w : World) (a : Option Addr) (es : List En) : Prop := ∀ j, j < es.length → ∃ g u, a = some ⟨g, 0, none⟩ ∧ base ≤ g ∧ w.cell? ⟨g, j, none⟩ = some u ∧ (es.getD j (.sp s0)).Is u
theorem EnL.low' {base : Nat} {w : World} {v : Value} {es : List En} (h : EnL base w v es) : ∃ a c, v = .slice a es.length c ∧ EnB base w a es := by
 obtain ⟨vals, h1, h2⟩ := h
 have h1' := h1
 rcases h1.2 with ⟨rfl, h0⟩ | ⟨g, cap, cur, rfl, hb, _⟩
 ·exact ⟨none, 0, by rw [h0], fun j hj => absurd hj (by omega)⟩
 ·refine ⟨_, _, rfl, fun j hj => ?_⟩
  obtain ⟨u, e1, e2⟩ := h2 j hj
  exact ⟨g, u, rfl, hb, by rw [h1'.cellAt j (by omega)]; exact e1, e2⟩
theorem EnB.below {base : Nat} {w w' : World} {a : Option Addr} {es : List En} (h : EnB base w a es) (hB : Below w.heap.size w w') : EnB base w' a es := fun j hj => by
 obtain ⟨g, u, e, h1, h2, h3⟩ := h j hj
 exact ⟨g, u, e, h1, cell_below hB h2, h3⟩
theorem EnB.low {base base' : Nat} {w : World} {a : Option Addr} {es : List En} (h : EnB base w a es) (hb : base' ≤ base) : EnB base' w a es := fun j hj => by
 obtain ⟨g, u, e, h1, h2, h3⟩ := h j hj
 exact ⟨g, u, e, Nat.le_trans hb h1, h2, h3⟩
theorem EnB.ens {base : Nat} {w : World} {a : Option Addr} {es : List En} (h : EnB base w a es) : EnS w a es := fun j hj => by
 obtain ⟨g, u, e, h1, h2, h3⟩ := h j hj
 exact ⟨g, u, e, h2, h3⟩
theorem EnB.setB {base b : Nat} {w : World} {a : Option Addr} {es : List En} {vs : List Value} (h : EnB base w a es) (hb : b < base) : EnB base (setL w b 0 vs) a es := fun j hj => by
 obtain ⟨g, u, e, h1, h2, h3⟩ := h j hj
 exact ⟨g, u, e, h1, by rw [setL_far b g j (by omega)]; exact h2, h3⟩
abbrev Z11 : List Value := [.slice none 0 0, .slice none 0 0, .slice none 0 0, .float .f32 0, .float .f32 0, .slice none 0 0, .float .f32 0, .float .f32 0, .float .f32 0, .slice none 0 0, .slice none 0 0]
set_option maxHeartbeats 4000000 in
theorem holdBody_no (B : Bd) (c : Bc) (a : Option Addr) (len cap : Nat) (L : List Int) (w : World) (h : IsB w B c) (hL : IsIs w a len cap L) (hh : heldB c L = false) :
  Calls Tryz.prog 113 #[B.v, .slice a len cap] w fun e w' => e = .returned (.tuple #[.agg Z11.toArray, .bool false]) ∧ Below w.heap.size w w' := by
 have uib := Tryz.underlying44
 have uh := Tryz.underlying107
 have bx1 := (Bx.nil w).box (vs := B.l) (t := 44)
 have bx2 := bx1.box (vs := Z11) (t := 107)
 simp at bx2
 have BX := Lib.hid bx2
 have J := Lib.hid (fun w1 h1 h2 => impl_IsHeld B c a len cap L w1 h1 h2)
 rw [hh] at J
 have H := Lib.hid h
 have HL := Lib.hid hL
 clear h hL hh bx1 bx2
 go_enter Tryz.func113, Tryz.ntmps113
 go_wp2_with fail
 generalize hW : (w.alloc (BoxB B 44)).alloc (.cells #[.slice none 0 0, .slice none 0 0, .slice none 0 0, .float .f32 0, .float .f32 0, .slice none 0 0, .float .f32 0, .float .f32 0, .float .f32 0, .slice none 0 0, .slice none 0 0] 107) = W
 have BX1 : Hid (Bx w [(w.heap.size + 1, Z11), (w.heap.size, B.l)] W) := Lib.hid (hW ▸ BX.out)
 clear BX hW
 refine (J.out W (H.out.below BX1.out.bel) (HL.out.below BX1.out.bel)).mono ?_
 rintro e w1 ⟨rfl, hB1⟩
 have BX2 := Lib.hid (BX1.out.call hB1)
 have BX3 := Lib.hid (Bx.setAll (vs := Z11) BX2.out (fun b' l' hm => by simp only [List.mem_cons, Prod.mk.injEq, List.not_mem_nil, or_false] at hm; omega) rfl)
 simp only [setL, Nat.zero_add, Nat.reduceAdd] at BX3
 clear hB1
 have q0 := (BX2.out.mem (.head _)) 0 _ rfl
 have q1 := (BX2.out.mem (.head _)) 1 _ rfl
 have q2 := (BX2.out.mem (.head _)) 2 _ rfl
 have q3 := (BX2.out.mem (.head _)) 3 _ rfl
 have q4 := (BX2.out.mem (.head _)) 4 _ rfl
 have q5 := (BX2.out.mem (.head _)) 5 _ rfl
 have q6 := (BX2.out.mem (.head _)) 6 _ rfl
 have q7 := (BX2.out.mem (.head _)) 7 _ rfl
 have q8 := (BX2.out.mem (.head _)) 8 _ rfl
 have q9 := (BX2.out.mem (.head _)) 9 _ rfl
 have q10 := (BX2.out.mem (.head _)) 10 _ rfl
 have p0 := BX2.out.free (.head _) 0
 have p1 := BX2.out.free (.head _) 1
 have p2 := BX2.out.free (.head _) 2
 have p3 := BX2.out.free (.head _) 3
 have p4 := BX2.out.free (.head _) 4
 have p5 := BX2.out.free (.head _) 5
 have p6 := BX2.out.free (.head _) 6
 have p7 := BX2.out.free (.head _) 7
 have p8 := BX2.out.free (.head _) 8
 have p9 := BX2.out.free (.head _) 9
 have p10 := BX2.out.free (.head _) 10
 go_wp2
 clear q0 q1 q2 q3 q4 q5 q6 q7 q8 q9 q10
 clear p0 p1 p2 p3 p4 p5 p6 p7 p8 p9 p10
 have m0 := (BX3.out.mem (.head _)) 0 _ rfl
 have m1 := (BX3.out.mem (.head _)) 1 _ rfl
 have m2 := (BX3.out.mem (.head _)) 2 _ rfl
 have m3 := (BX3.out.mem (.head _)) 3 _ rfl
 have m4 := (BX3.out.mem (.head _)) 4 _ rfl
 have m5 := (BX3.out.mem (.head _)) 5 _ rfl
 have m6 := (BX3.out.mem (.head _)) 6 _ rfl
 have m7 := (BX3.out.mem (.head _)) 7 _ rfl
 have m8 := (BX3.out.mem (.head _)) 8 _ rfl
 have m9 := (BX3.out.mem (.head _)) 9 _ rfl
 have m10 := (BX3.out.mem (.head _)) 10 _ rfl
 refine bodyPost_ret (v := .tuple #[.agg Z11.toArray, .bool false]) (by simp [results, Tryz.results113, go_sem, m0, m1, m2, m3, m4, m5, m6, m7, m8, m9, m10]) rfl ?_
 exact ⟨rfl, BX3.out.bel⟩
set_option maxHeartbeats 4000000 in
theorem holdBody_yesB (B : Bd) (c : Bc) (a : Option Addr) (len cap : Nat) (L : List Int) (w : World) (h : IsB w B c) (hL : IsIs w a len cap L) (hh : heldB c L = true) :
  Calls Tryz.prog 113 #[B.v, .slice a len cap] w fun e w' => ∃ la lc, e = .returned (.tuple #[HbV B a la len cap (ens c).length lc, .bool true]) ∧ EnB w.heap.size w' la (ens c) ∧ Below w.heap.size w w' := by
 have uib := Tryz.underlying44
 have uh := Tryz.underlying107
 have bx1 := (Bx.nil w).box (vs := B.l) (t := 44)
 have bx2 := bx1.box (vs := Z11) (t := 107)
 simp at bx2
 have BX := Lib.hid bx2
 have J := Lib.hid (fun w1 h1 h2 => impl_IsHeld B c a len cap L w1 h1 h2)
 have hb : bodyB c = true := by unfold heldB at hh; simp only [Bool.and_eq_true] at hh; exact hh.1
 have JE := Lib.hid (fun w1 h1 => impl_energies B c w1 h1 hb)
 rw [hh] at J
 have H := Lib.hid h
 have HL := Lib.hid hL
 clear h hL hh bx1 bx2 hb
 generalize ens c = es at *
 go_enter Tryz.func113, Tryz.ntmps113
 go_wp2_with fail
 generalize hW : (w.alloc (BoxB B 44)).alloc (.cells #[.slice none 0 0, .slice none 0 0, .slice none 0 0, .float .f32 0, .float .f32 0, .slice none 0 0, .float .f32 0, .float .f32 0, .float .f32 0, .slice none 0 0, .slice none 0 0] 107) = W
 have BX1 : Hid (Bx w [(w.heap.size + 1, Z11), (w.heap.size, B.l)] W) := Lib.hid (hW ▸ BX.out)
 clear BX hW
 refine (J.out W (H.out.below BX1.out.bel) (HL.out.below BX1.out.bel)).mono ?_
 rintro e w1 ⟨rfl, hB1⟩
 have BX2 := Lib.hid (BX1.out.call hB1)
 have LT : Hid (w.heap.size + 1 < w1.heap.size) := Lib.hid ((BX2.out.2 _ _ (.head _)).2.2.1)
 clear hB1 BX1 J
 go_wp2_with fail
 refine Reg6.wp_region_mix (s := 5) (C := fun w' => Below w1.heap.size w1 w') (D := fun _ w' => ∃ (wp : World) (la : Option Addr) (lc : Nat), Below w1.heap.size w1 wp ∧ EnB w1.heap.size wp la es ∧ w' = setL wp (w.heap.size + 1) 0 (HbL B a la len cap es.length lc)) (G := fun w1 w2 => Below w1.heap.size w1 w2)
  (Rv := fun i v => match i with | 0 => v = B.v | 1 => v = .slice a len cap | 2 => v = B.v | 6 => v = .bool true | _ => True)
  (Rw := fun i v w' => match i with
   | 3 => ∃ la lc, v = .slice la es.length lc ∧ EnB w1.heap.size w' la es
   | 4 => ∃ la lc, v = HbV B a la len cap es.length lc ∧ EnB w1.heap.size w' la es
   | _ => True) [false, false, false, false, false, true, false, false, false, false, false, true, true, true, true, true]
  (by kernel_rfl) (by kernel_rfl) (by kernel_rfl) ?_ (below_drewN (Below.refl _ _) 1) ?_ ?_
 ·intro j v w1 w2 hC hG hR
  match j with
  | 0 => trivial
  | 1 => trivial
  | 2 => trivial
  | 3 => obtain ⟨la, lc, e, h1⟩ := hR; exact ⟨la, lc, e, h1.below hG⟩
  | 4 => obtain ⟨la, lc, e, h1⟩ := hR; exact ⟨la, lc, e, h1.below hG⟩
  | 5 => trivial
  | 6 => trivial
  | _ + 7 => trivial
 ·refine ⟨?_, ?_, ?_, ?_, ?_, ?_, ?_, trivial⟩
  ·refine Reg6.Obl.early rfl (by kernel_rfl) ?_
   rintro a' wq HC hx hd K hK
   replace HC := Lib.hid HC
   have t2 : a'.tmps[2]?.getD undef = .pointer (some ⟨w.heap.size, 0, none⟩) := Reg.slot_val (hx 2 (by kernel_rfl))
   have BXw := BX2.out.call HC.out
   have y0 := (BXw.mem (.tail _ (.head _))) 0 _ rfl
   have y1 := (BXw.mem (.tail _ (.head _))) 1 _ rfl
   have y2 := (BXw.mem (.tail _ (.head _))) 2 _ rfl
   have y3 := (BXw.mem (.tail _ (.head _))) 3 _ rfl
   have y4 := (BXw.mem (.tail _ (.head _))) 4 _ rfl
   have y5 := (BXw.mem (.tail _ (.head _))) 5 _ rfl
   have y6 := (BXw.mem (.tail _ (.head _))) 6 _ rfl
   have y7 := (BXw.mem (.tail _ (.head _))) 7 _ rfl
   have y8 := (BXw.mem (.tail _ (.head _))) 8 _ rfl
   go_simp
   exact hK _ _ rfl trivial HC.out (Below.refl _ _)
  ·refine Reg6.Obl.early rfl (by kernel_rfl) ?_
   rintro a' wq HC hx hd K hK
   replace HC := Lib.hid HC
   have t1 : a'.tmps[1]?.getD undef = .slice a len cap := Reg.slot_val (hx 1 (by kernel_rfl))
   go_simp
   exact hK _ _ rfl trivial HC.out (Below.refl _ _)
  ·refine Reg6.Obl.early rfl (by kernel_rfl) ?_
   rintro a' wq HC hx hd K hK
   replace HC := Lib.hid HC
   have t2 : a'.tmps[2]?.getD undef = .pointer (some ⟨w.heap.size, 0, none⟩) := Reg.slot_val (hx 2 (by kernel_rfl))
   have BXw := BX2.out.call HC.out
   have y0 := (BXw.mem (.tail _ (.head _))) 0 _ rfl
   have y1 := (BXw.mem (.tail _ (.head _))) 1 _ rfl
   have y2 := (BXw.mem (.tail _ (.head _))) 2 _ rfl
   have y3 := (BXw.mem (.tail _ (.head _))) 3 _ rfl
   have y4 := (BXw.mem (.tail _ (.head _))) 4 _ rfl
   have y5 := (BXw.mem (.tail _ (.head _))) 5 _ rfl
   have y6 := (BXw.mem (.tail _ (.head _))) 6 _ rfl
   have y7 := (BXw.mem (.tail _ (.head _))) 7 _ rfl
   have y8 := (BXw.mem (.tail _ (.head _))) 8 _ rfl
   go_simp
   exact hK _ _ rfl trivial HC.out (Below.refl _ _)
  ·refine Reg6.Obl.early rfl (by kernel_rfl) ?_
   rintro a' wq HC hx hd K hK
   replace HC := Lib.hid HC
   have t13 : a'.tmps[13]?.getD undef = B.v := Reg.slot_val (hd 2 13 (by kernel_rfl) rfl).1
   go_simp
   refine (JE.out wq (H.out.below (BX2.out.call HC.out).bel)).mono ?_
   rintro en w2 ⟨v, rfl, hv, hB2⟩
   obtain ⟨la, lc, rfl, hE⟩ := hv.low'
   have hE' : EnB w1.heap.size w2 la es := fun j hj => by
    obtain ⟨g, u, e, h1, h2⟩ := hE j hj
    exact ⟨g, u, e, Nat.le_trans HC.out.size h1, h2⟩
   exact hK _ _ trivial ⟨la, lc, rfl, hE'⟩ (HC.out.trans (hB2.mono HC.out.size)) hB2
  ·refine Reg6.Obl.early rfl (by kernel_rfl) ?_
   rintro a' wq HC hx hd K hK
   replace HC := Lib.hid HC
   have t11 : a'.tmps[11]?.getD undef = B.v := Reg.slot_val (hd 0 11 (by kernel_rfl) rfl).1
   have t12 : a'.tmps[12]?.getD undef = .slice a len cap := Reg.slot_val (hd 1 12 (by kernel_rfl) rfl).1
   obtain ⟨la, lc, g14, hE⟩ := (hd 3 14 (by kernel_rfl) rfl).2
   have t14 := Reg.slot_val g14
   have HE := Lib.hid hE
   clear g14 hE
   go_simp
   exact hK _ _ trivial ⟨la, lc, rfl, HE.out⟩ HC.out (Below.refl _ _)
  ·refine Reg6.Obl.store rfl ?_
   rintro a' wq HC hx hd K hK
   replace HC := Lib.hid HC
   have t4 : a'.tmps[4]?.getD undef = .pointer (some ⟨w.heap.size + 1, 0, none⟩) := Reg.slot_val (hx 4 (by kernel_rfl))
   obtain ⟨la, lc, g15, hE⟩ := (hd 4 15 (by kernel_rfl) rfl).2
   have t15 := Reg.slot_val g15
   have HS : Hid (∃ (wp : World) (la' : Option Addr) (lc' : Nat), Below w1.heap.size w1 wp ∧ EnB w1.heap.size wp la' es ∧ setL wq (w.heap.size + 1) 0 (HbL B a la len cap es.length lc) = setL wp (w.heap.size + 1) 0 (HbL B a la' len cap es.length lc')) := Lib.hid ⟨wq, la, lc, HC.out, hE, rfl⟩
   have TT := BX2.out.call HC.out
   have y0 := (TT.mem (.head _)) 0 _ rfl
   have f0 := TT.free (.head _) 0
   have y1 := (TT.mem (.head _)) 1 _ rfl
   have f1 := TT.free (.head _) 1
   have y2 := (TT.mem (.head _)) 2 _ rfl
   have f2 := TT.free (.head _) 2
   have y3 := (TT.mem (.head _)) 3 _ rfl
   have f3 := TT.free (.head _) 3
   have y4 := (TT.mem (.head _)) 4 _ rfl
   have f4 := TT.free (.head _) 4
   have y5 := (TT.mem (.head _)) 5 _ rfl
   have f5 := TT.free (.head _) 5
   have y6 := (TT.mem (.head _)) 6 _ rfl
   have f6 := TT.free (.head _) 6
   have y7 := (TT.mem (.head _)) 7 _ rfl
   have f7 := TT.free (.head _) 7
   have y8 := (TT.mem (.head _)) 8 _ rfl
   have f8 := TT.free (.head _) 8
   have y9 := (TT.mem (.head _)) 9 _ rfl
   have f9 := TT.free (.head _) 9
   have y10 := (TT.mem (.head _)) 10 _ rfl
   have f10 := TT.free (.head _) 10
   clear g15 hE TT
   go_simp
   exact hK _ HS.out
  ·refine Reg6.Obl.late rfl (by kernel_rfl) ?_
   rintro a' wq hx hd K hK
   go_simp
   exact hK _ rfl (fun w hD => hD)
 rintro f w2 hD hd
 obtain ⟨wp, la, lc, hB1, hE, rfl⟩ := hD
 have f5 : f 5 = .bool true := hd 6 5 rfl
 simp only [Reg.mixL, Nat.zero_add, Nat.reduceAdd, f5]
 have hlt := LT.out
 have BX3 := Lib.hid (Bx.setAll (vs := HbL B a la len cap es.length lc) (BX2.out.call hB1) (fun b' l' hm => by simp only [List.mem_cons, Prod.mk.injEq, List.not_mem_nil, or_false] at hm; omega) rfl)
 have HE := Lib.hid ((EnB.setB (b := w.heap.size + 1) (vs := HbL B a la len cap es.length lc) hE (by omega)).low (base' := w.heap.size) (by omega))
 clear hE hB1 hd
 generalize (setL wp (w.heap.size + 1) 0 (HbL B a la len cap es.length lc)) = W2 at *
 have m0 := (BX3.out.mem (.head _)) 0 _ rfl
 have m1 := (BX3.out.mem (.head _)) 1 _ rfl
 have m2 := (BX3.out.mem (.head _)) 2 _ rfl
 have m3 := (BX3.out.mem (.head _)) 3 _ rfl
 have m4 := (BX3.out.mem (.head _)) 4 _ rfl
 have m5 := (BX3.out.mem (.head _)) 5 _ rfl
 have m6 := (BX3.out.mem (.head _)) 6 _ rfl
 have m7 := (BX3.out.mem (.head _)) 7 _ rfl
 have m8 := (BX3.out.mem (.head _)) 8 _ rfl
 have m9 := (BX3.out.mem (.head _)) 9 _ rfl
 have m10 := (BX3.out.mem (.head _)) 10 _ rfl
 go_wp2
 refine bodyPost_ret (v := .tuple #[HbV B a la len cap es.length lc, .bool true]) (by simp [results, Tryz.results113, go_sem, m0, m1, m2, m3, m4, m5, m6, m7, m8, m9, m10]) rfl ?_
 exact ⟨la, lc, rfl, HE.out, BX3.out.bel⟩
theorem holdBody_yes (B : Bd) (c : Bc) (a : Option Addr) (len cap : Nat) (L : List Int) (w : World) (h : IsB w B c) (hL : IsIs w a len cap L) (hh : heldB c L = true) :
  Calls Tryz.prog 113 #[B.v, .slice a len cap] w fun e w' => ∃ la lc, e = .returned (.tuple #[HbV B a la len cap (ens c).length lc, .bool true]) ∧ EnS w' la (ens c) ∧ Below w.heap.size w w' :=
 (holdBody_yesB B c a len cap L w h hL hh).mono fun _ _ ⟨la, lc, e, hE, hB⟩ => ⟨la, lc, e, hE.ens, hB⟩
end Go.Proofs.YtabccmobmppdnaaGreat
namespace Go.Proofs.YtabccmobmppdnaaGreat
open Go Fk Go.RowKit
set_option linter.unusedVariables false
set_option maxRecDepth 16000
def RowsS (w : World) (la : Option Addr) (rows : List (Option Addr × Nat × Nat)) : Prop := ∀ j, j < rows.length → ∃ R, la = some ⟨R, 0, none⟩ ∧ w.cell? ⟨R, j, none⟩ = some (.slice (rows.getD j (none, 0, 0)).1 (rows.getD j (none, 0, 0)).2.1 (rows.getD j (none, 0, 0)).2.2)
theorem RowsS.below {w w' : World} {la : Option Addr} {rows : List (Option Addr × Nat × Nat)} (h : RowsS w la rows) (hB : Below w.heap.size w w') : RowsS w' la rows := fun j hj => by
 obtain ⟨R, e, h1⟩ := h j hj
 exact ⟨R, e, cell_below hB h1⟩
def lensB (n : Nat) (rows : List (Option Addr × Nat × Nat)) : Bool := rows.all fun r => decide (r.2.1 = n)
theorem lens_not {n : Nat} {rows : List (Option Addr × Nat × Nat)} {k : Nat} (hk : k < rows.length) (h : (rows.getD k (none, 0, 0)).2.1 ≠ n) : lensB n rows = false := by
 rw [Bool.eq_false_iff]
 intro hh
 have := List.all_eq_true.1 hh (rows[k]) (List.getElem_mem hk)
 rw [List.getD, List.getElem?_eq_getElem hk] at h
 exact h (of_decide_eq_true this)
theorem lens_all {n : Nat} {rows : List (Option Addr × Nat × Nat)} (h : ∀ j, j < rows.length → (rows.getD j (none, 0, 0)).2.1 = n) : lensB n rows = true := by
 unfold lensB
 rw [List.all_eq_true]
 intro x hx
 obtain ⟨i, hi, rfl⟩ := List.mem_iff_getElem.1 hx
 have := h i hi
 rw [List.getD, List.getElem?_eq_getElem hi] at this
 exact decide_eq_true this
abbrev Z14 : List Value := [.slice none 0 0, .slice none 0 0, .slice none 0 0, .float .f32 0, .float .f32 0, .slice none 0 0, .float .f32 0, .float .f32 0, .float .f32 0, .slice none 0 0, .slice none 0 0, .float .f32 0, .float .f32 0, .slice none 0 0]
abbrev StL (B : Bd) (ha la : Option Addr) (hl hc ln lc x s : Nat) (fa : Option Addr) (fl fc : Nat) : List Value := [.slice B.pa B.pl B.pc, .slice B.ta B.tl B.tc, .slice B.sa B.sl B.sc, .float .f32 B.film, .float .f32 B.bend, .slice B.wa B.wl B.wc, .float .f32 B.x, .float .f32 B.y, .float .f32 B.z, .slice ha hl hc, .slice la ln lc, .float .f32 x, .float .f32 s, .slice fa fl fc]
abbrev StV (B : Bd) (ha la : Option Addr) (hl hc ln lc x s : Nat) (fa : Option Addr) (fl fc : Nat) : Value := .agg #[.slice B.pa B.pl B.pc, .slice B.ta B.tl B.tc, .slice B.sa B.sl B.sc, .float .f32 B.film, .float .f32 B.bend, .slice B.wa B.wl B.wc, .float .f32 B.x, .float .f32 B.y, .float .f32 B.z, .slice ha hl hc, .slice la ln lc, .float .f32 x, .float .f32 s, .slice fa fl fc]
def stfB (c : Bc) (L : List Int) (x : Nat) (rows : List (Option Addr × Nat × Nat)) : Bool := heldB c L && (sizeB x && lensB c.cs.length rows)
theorem Bx.re {w w1 : World} {L L' : List (Nat × List Value)} (h : Bx w L w1) (hs : ∀ x, x ∈ L' → x ∈ L) : Bx w L' w1 := ⟨h.1, fun b l hm => h.2 b l (hs _ hm)⟩
set_option maxHeartbeats 4000000 in
theorem stiff_no1 (B : Bd) (c : Bc) (a : Option Addr) (len cap : Nat) (L : List Int) (x : Nat) (la : Option Addr) (lc : Nat) (rows : List (Option Addr × Nat × Nat)) (w : World) (h : IsB w B c) (hL : IsIs w a len cap L) (hx' : x < 4294967296) (hR : RowsS w la rows) (hk : rows.length ≤ 1000) (hh : heldB c L = false) :
  Calls Tryz.prog 71 #[B.v, .slice a len cap, .float .f32 x, .slice la rows.length lc] w fun e w' => e = .returned (.tuple #[.agg Z14.toArray, .bool false]) ∧ Below w.heap.size w w' := by
 have uib := Tryz.underlying44
 have uim := Tryz.underlying40
 have uh := Tryz.underlying107
 have us := Tryz.underlying109
 have bx1 := (Bx.nil w).box (vs := B.l) (t := 44)
 have bx2 := bx1.box (vs := Z14) (t := 109)
 simp at bx2
 have BX := Lib.hid bx2
 have H := Lib.hid h
 have HL := Lib.hid hL
 have HR := Lib.hid hR
 have hm : rows.length ≤ 9223372036854775807 := by omega
 clear bx1 bx2
 have J := Lib.hid (fun w1 h1 h2 => holdBody_no B c a len cap L w1 h1 h2 hh)
 clear h hL hR hh
 go_enter Tryz.func71, Tryz.ntmps71
 go_wp2_with fail
 generalize hW : (w.alloc (BoxB B 44)).alloc (.cells #[.slice none 0 0, .slice none 0 0, .slice none 0 0, .float .f32 0, .float .f32 0, .slice none 0 0, .float .f32 0, .float .f32 0, .float .f32 0, .slice none 0 0, .slice none 0 0, .float .f32 0, .float .f32 0, .slice none 0 0] 109) = W
 have BX1 : Hid (Bx w [(w.heap.size + 1, Z14), (w.heap.size, B.l)] W) := Lib.hid (hW ▸ BX.out)
 have HWS0 : Hid (W.heap.size = w.heap.size + 2) := Lib.hid (by rw [← hW]; simp)
 clear BX hW
 refine (J.out W (H.out.below BX1.out.bel) (HL.out.below BX1.out.bel)).mono ?_
 rintro e w1 ⟨rfl, hB1⟩
 have BX2 := Lib.hid (BX1.out.call hB1)
 have LT : Hid (w.heap.size + 1 < w1.heap.size) := Lib.hid ((BX2.out.2 _ _ (.head _)).2.2.1)
 have BX3 := Lib.hid (BX2.out.box (vs := Z11) (t := 107))
 have hX : Below w1.heap.size w1 (w1.alloc (.cells (Z11).toArray 107)) := (Below.refl _ _).alloc (Nat.le_refl _) _
 have BX4 := Lib.hid (BX3.out.re (L' := [(w.heap.size + 1, Z14), (w1.heap.size, Z11), (w.heap.size, B.l)]) (fun x hx => by simp only [List.mem_cons, List.not_mem_nil, or_false] at hx ⊢; rcases hx with h | h | h <;> simp [h]))
 clear hB1 hX BX3 BX1 J
 have q0 := (BX4.out.mem (.head _)) 0 _ rfl
 have p0 := BX4.out.free (.head _) 0
 have q1 := (BX4.out.mem (.head _)) 1 _ rfl
 have p1 := BX4.out.free (.head _) 1
 have q2 := (BX4.out.mem (.head _)) 2 _ rfl
 have p2 := BX4.out.free (.head _) 2
 have q3 := (BX4.out.mem (.head _)) 3 _ rfl
 have p3 := BX4.out.free (.head _) 3
 have q4 := (BX4.out.mem (.head _)) 4 _ rfl
 have p4 := BX4.out.free (.head _) 4
 have q5 := (BX4.out.mem (.head _)) 5 _ rfl
 have p5 := BX4.out.free (.head _) 5
 have q6 := (BX4.out.mem (.head _)) 6 _ rfl
 have p6 := BX4.out.free (.head _) 6
 have q7 := (BX4.out.mem (.head _)) 7 _ rfl
 have p7 := BX4.out.free (.head _) 7
 have q8 := (BX4.out.mem (.head _)) 8 _ rfl
 have p8 := BX4.out.free (.head _) 8
 have q9 := (BX4.out.mem (.head _)) 9 _ rfl
 have p9 := BX4.out.free (.head _) 9
 have q10 := (BX4.out.mem (.head _)) 10 _ rfl
 have p10 := BX4.out.free (.head _) 10
 have q11 := (BX4.out.mem (.head _)) 11 _ rfl
 have p11 := BX4.out.free (.head _) 11
 have q12 := (BX4.out.mem (.head _)) 12 _ rfl
 have p12 := BX4.out.free (.head _) 12
 have q13 := (BX4.out.mem (.head _)) 13 _ rfl
 have p13 := BX4.out.free (.head _) 13
 have BZ := Lib.hid (Bx.setAll (vs := Z14) BX4.out (fun b' l' hm => by simp only [List.mem_cons, Prod.mk.injEq, List.not_mem_nil, or_false] at hm; have hz := LT.out; omega) rfl)
 simp only [setL, Nat.zero_add, Nat.reduceAdd] at BZ
 go_wp2
 clear q0 p0 q1 p1 q2 p2 q3 p3 q4 p4 q5 p5 q6 p6 q7 p7 q8 p8 q9 p9 q10 p10 q11 p11 q12 p12 q13 p13
 have m0 := (BZ.out.mem (.head _)) 0 _ rfl
 have m1 := (BZ.out.mem (.head _)) 1 _ rfl
 have m2 := (BZ.out.mem (.head _)) 2 _ rfl
 have m3 := (BZ.out.mem (.head _)) 3 _ rfl
 have m4 := (BZ.out.mem (.head _)) 4 _ rfl
 have m5 := (BZ.out.mem (.head _)) 5 _ rfl
 have m6 := (BZ.out.mem (.head _)) 6 _ rfl
 have m7 := (BZ.out.mem (.head _)) 7 _ rfl
 have m8 := (BZ.out.mem (.head _)) 8 _ rfl
 have m9 := (BZ.out.mem (.head _)) 9 _ rfl
 have m10 := (BZ.out.mem (.head _)) 10 _ rfl
 have m11 := (BZ.out.mem (.head _)) 11 _ rfl
 have m12 := (BZ.out.mem (.head _)) 12 _ rfl
 have m13 := (BZ.out.mem (.head _)) 13 _ rfl
 refine bodyPost_ret (v := .tuple #[.agg Z14.toArray, .bool false]) (by simp [results, Tryz.results71, go_sem, m0, m1, m2, m3, m4, m5, m6, m7, m8, m9, m10, m11, m12, m13]) rfl ?_
 exact ⟨rfl, BZ.out.bel⟩
set_option maxHeartbeats 4000000 in
theorem stiff_no2 (B : Bd) (c : Bc) (a : Option Addr) (len cap : Nat) (L : List Int) (x : Nat) (la : Option Addr) (lc : Nat) (rows : List (Option Addr × Nat × Nat)) (w : World) (h : IsB w B c) (hL : IsIs w a len cap L) (hx' : x < 4294967296) (hR : RowsS w la rows) (hk : rows.length ≤ 1000) (hh : heldB c L = true) (hs : sizeB x = false) :
  Calls Tryz.prog 71 #[B.v, .slice a len cap, .float .f32 x, .slice la rows.length lc] w fun e w' => e = .returned (.tuple #[.agg Z14.toArray, .bool false]) ∧ Below w.heap.size w w' := by
 have uib := Tryz.underlying44
 have uim := Tryz.underlying40
 have uh := Tryz.underlying107
 have us := Tryz.underlying109
 have bx1 := (Bx.nil w).box (vs := B.l) (t := 44)
 have bx2 := bx1.box (vs := Z14) (t := 109)
 simp at bx2
 have BX := Lib.hid bx2
 have H := Lib.hid h
 have HL := Lib.hid hL
 have HR := Lib.hid hR
 have hm : rows.length ≤ 9223372036854775807 := by omega
 clear bx1 bx2
 have J := Lib.hid (fun w1 h1 h2 => holdBody_yes B c a len cap L w1 h1 h2 hh)
 have JM := Lib.hid (fun w1 => impl_isMeasure x w1 hx')
 rw [hs] at JM
 generalize hn : (ens c).length = n at *
 clear h hL hR hh hn hs
 go_enter Tryz.func71, Tryz.ntmps71
 go_wp2_with fail
 generalize hW : (w.alloc (BoxB B 44)).alloc (.cells #[.slice none 0 0, .slice none 0 0, .slice none 0 0, .float .f32 0, .float .f32 0, .slice none 0 0, .float .f32 0, .float .f32 0, .float .f32 0, .slice none 0 0, .slice none 0 0, .float .f32 0, .float .f32 0, .slice none 0 0] 109) = W
 have BX1 : Hid (Bx w [(w.heap.size + 1, Z14), (w.heap.size, B.l)] W) := Lib.hid (hW ▸ BX.out)
 have HWS0 : Hid (W.heap.size = w.heap.size + 2) := Lib.hid (by rw [← hW]; simp)
 clear BX hW
 refine (J.out W (H.out.below BX1.out.bel) (HL.out.below BX1.out.bel)).mono ?_
 rintro e w1 ⟨ea, ec, rfl, hE, hB1⟩
 have BX2 := Lib.hid (BX1.out.call hB1)
 have LT : Hid (w.heap.size + 1 < w1.heap.size) := Lib.hid ((BX2.out.2 _ _ (.head _)).2.2.1)
 have BX3 := Lib.hid (BX2.out.box (vs := HbL B a ea len cap n ec) (t := 107))
 have hX : Below w1.heap.size w1 (w1.alloc (.cells (HbL B a ea len cap n ec).toArray 107)) := (Below.refl _ _).alloc (Nat.le_refl _) _
 have BX4 := Lib.hid (BX3.out.re (L' := [(w.heap.size + 1, Z14), (w1.heap.size, HbL B a ea len cap n ec), (w.heap.size, B.l)]) (fun x hx => by simp only [List.mem_cons, List.not_mem_nil, or_false] at hx ⊢; rcases hx with h | h | h <;> simp [h]))
 clear hB1 hX BX3 BX1 J hE
 go_wp2_with fail
 change Calls _ _ _ (w1.alloc (.cells (HbL B a ea len cap n ec).toArray 107)) _
 generalize (w1.alloc (.cells (HbL B a ea len cap n ec).toArray 107)) = W2 at *
 refine (JM.out W2).mono ?_
 rintro e w2 ⟨rfl, nd, hw⟩
 have BX5 := Lib.hid (BX4.out.drewN nd)
 rw [← hw] at BX5
 clear hw JM BX4
 have q0 := (BX5.out.mem (.head _)) 0 _ rfl
 have p0 := BX5.out.free (.head _) 0
 have q1 := (BX5.out.mem (.head _)) 1 _ rfl
 have p1 := BX5.out.free (.head _) 1
 have q2 := (BX5.out.mem (.head _)) 2 _ rfl
 have p2 := BX5.out.free (.head _) 2
 have q3 := (BX5.out.mem (.head _)) 3 _ rfl
 have p3 := BX5.out.free (.head _) 3
 have q4 := (BX5.out.mem (.head _)) 4 _ rfl
 have p4 := BX5.out.free (.head _) 4
 have q5 := (BX5.out.mem (.head _)) 5 _ rfl
 have p5 := BX5.out.free (.head _) 5
 have q6 := (BX5.out.mem (.head _)) 6 _ rfl
 have p6 := BX5.out.free (.head _) 6
 have q7 := (BX5.out.mem (.head _)) 7 _ rfl
 have p7 := BX5.out.free (.head _) 7
 have q8 := (BX5.out.mem (.head _)) 8 _ rfl
 have p8 := BX5.out.free (.head _) 8
 have q9 := (BX5.out.mem (.head _)) 9 _ rfl
 have p9 := BX5.out.free (.head _) 9
 have q10 := (BX5.out.mem (.head _)) 10 _ rfl
 have p10 := BX5.out.free (.head _) 10
 have q11 := (BX5.out.mem (.head _)) 11 _ rfl
 have p11 := BX5.out.free (.head _) 11
 have q12 := (BX5.out.mem (.head _)) 12 _ rfl
 have p12 := BX5.out.free (.head _) 12
 have q13 := (BX5.out.mem (.head _)) 13 _ rfl
 have p13 := BX5.out.free (.head _) 13
 have BZ := Lib.hid (Bx.setAll (vs := Z14) BX5.out (fun b' l' hm => by simp only [List.mem_cons, Prod.mk.injEq, List.not_mem_nil, or_false] at hm; have hz := LT.out; omega) rfl)
 simp only [setL, Nat.zero_add, Nat.reduceAdd] at BZ
 go_wp2
 clear q0 p0 q1 p1 q2 p2 q3 p3 q4 p4 q5 p5 q6 p6 q7 p7 q8 p8 q9 p9 q10 p10 q11 p11 q12 p12 q13 p13
 have m0 := (BZ.out.mem (.head _)) 0 _ rfl
 have m1 := (BZ.out.mem (.head _)) 1 _ rfl
 have m2 := (BZ.out.mem (.head _)) 2 _ rfl
 have m3 := (BZ.out.mem (.head _)) 3 _ rfl
 have m4 := (BZ.out.mem (.head _)) 4 _ rfl
 have m5 := (BZ.out.mem (.head _)) 5 _ rfl
 have m6 := (BZ.out.mem (.head _)) 6 _ rfl
 have m7 := (BZ.out.mem (.head _)) 7 _ rfl
 have m8 := (BZ.out.mem (.head _)) 8 _ rfl
 have m9 := (BZ.out.mem (.head _)) 9 _ rfl
 have m10 := (BZ.out.mem (.head _)) 10 _ rfl
 have m11 := (BZ.out.mem (.head _)) 11 _ rfl
 have m12 := (BZ.out.mem (.head _)) 12 _ rfl
 have m13 := (BZ.out.mem (.head _)) 13 _ rfl
 refine bodyPost_ret (v := .tuple #[.agg Z14.toArray, .bool false]) (by simp [results, Tryz.results71, go_sem, m0, m1, m2, m3, m4, m5, m6, m7, m8, m9, m10, m11, m12, m13]) rfl ?_
 exact ⟨rfl, BZ.out.bel⟩
set_option maxHeartbeats 4000000 in
theorem stiff_yes (B : Bd) (c : Bc) (a : Option Addr) (len cap : Nat) (L : List Int) (x : Nat) (la : Option Addr) (lc : Nat) (rows : List (Option Addr × Nat × Nat)) (w : World) (h : IsB w B c) (hL : IsIs w a len cap L) (hx' : x < 4294967296) (hR : RowsS w la rows) (hk : rows.length ≤ 1000) (hh : heldB c L = true) (hs : sizeB x = true) :
  Calls Tryz.prog 71 #[B.v, .slice a len cap, .float .f32 x, .slice la rows.length lc] w fun e w' => (lensB B.pl rows = true → ∃ ea ec, e = .returned (.tuple #[StV B a ea len cap (ens c).length ec x 0 none 0 0, .bool true]) ∧ EnB w.heap.size w' ea (ens c) ∧ Below w.heap.size w w') ∧ (lensB B.pl rows = false → e = .returned (.tuple #[.agg Z14.toArray, .bool false]) ∧ Below w.heap.size w w') := by
 have uib := Tryz.underlying44
 have uim := Tryz.underlying40
 have uh := Tryz.underlying107
 have us := Tryz.underlying109
 have bx1 := (Bx.nil w).box (vs := B.l) (t := 44)
 have bx2 := bx1.box (vs := Z14) (t := 109)
 simp at bx2
 have BX := Lib.hid bx2
 have H := Lib.hid h
 have HL := Lib.hid hL
 have HR := Lib.hid hR
 have hm : rows.length ≤ 9223372036854775807 := by omega
 clear bx1 bx2
 have J := Lib.hid (fun w1 h1 h2 => holdBody_yesB B c a len cap L w1 h1 h2 hh)
 have JM := Lib.hid (fun w1 => impl_isMeasure x w1 hx')
 rw [hs] at JM
 generalize ens c = es at *
 generalize hn : es.length = n at *
 obtain ⟨kn, hkn⟩ : ∃ kn, kn = rows.length := ⟨_, rfl⟩
 have HKN := Lib.hid hkn
 rw [← hkn] at hm ⊢
 clear h hL hR hh hn hs hkn
 go_enter Tryz.func71, Tryz.ntmps71
 go_wp2_with fail
 generalize hW : (w.alloc (BoxB B 44)).alloc (.cells #[.slice none 0 0, .slice none 0 0, .slice none 0 0, .float .f32 0, .float .f32 0, .slice none 0 0, .float .f32 0, .float .f32 0, .float .f32 0, .slice none 0 0, .slice none 0 0, .float .f32 0, .float .f32 0, .slice none 0 0] 109) = W
 have BX1 : Hid (Bx w [(w.heap.size + 1, Z14), (w.heap.size, B.l)] W) := Lib.hid (hW ▸ BX.out)
 have HWS0 : Hid (W.heap.size = w.heap.size + 2) := Lib.hid (by rw [← hW]; simp)
 clear BX hW
 refine (J.out W (H.out.below BX1.out.bel) (HL.out.below BX1.out.bel)).mono ?_
 rintro e w1 ⟨ea, ec, rfl, hE, hB1⟩
 have BX2 := Lib.hid (BX1.out.call hB1)
 have LT : Hid (w.heap.size + 1 < w1.heap.size) := Lib.hid ((BX2.out.2 _ _ (.head _)).2.2.1)
 have BX3 := Lib.hid (BX2.out.box (vs := HbL B a ea len cap n ec) (t := 107))
 have hX : Below w1.heap.size w1 (w1.alloc (.cells (HbL B a ea len cap n ec).toArray 107)) := (Below.refl _ _).alloc (Nat.le_refl _) _
 have HE := Lib.hid (hE.below hX)
 have HWS : Hid (W.heap.size = w.heap.size + 2) := HWS0
 clear hB1 hX BX1 J hE
 go_wp2_with fail
 change Calls _ _ _ (w1.alloc (.cells (HbL B a ea len cap n ec).toArray 107)) _
 generalize (w1.alloc (.cells (HbL B a ea len cap n ec).toArray 107)) = W2 at *
 refine (JM.out W2).mono ?_
 rintro e w2 ⟨rfl, nd, hw⟩
 have BX5 := Lib.hid (BX3.out.drewN nd)
 have HE5 := Lib.hid (hw ▸ HE.out.below (below_drewN (Below.refl _ _) nd))
 rw [← hw] at BX5
 clear hw JM BX3 HE
 generalize w1.heap.size = X at *
 go_wp2_with fail
 go_loopw [30] (fun i w' => ∃ k : Nat, k ≤ kn ∧ i = .int .i64 k ∧ Aside ((∀ j, j < k → (rows.getD j (none, 0, 0)).2.1 = B.pl) ∧ ∃ nd, w' = w2.drewN nd)) (fun i _ => kn - (intOf i).toNat)
 case atStart => exact ⟨0, Nat.zero_le _, rfl, fun j hj => absurd hj (by omega), 0, rfl⟩
 case round =>
  obtain ⟨k, hk, rfl, hA⟩ := hrel
  obtain ⟨nd', hw'⟩ := hA.out.2
  have HP := Lib.hid hA.out.1
  have BX6 := Lib.hid (BX5.out.drewN nd')
  have HE6 := Lib.hid (HE5.out.below (below_drewN (Below.refl _ _) nd'))
  rw [← hw'] at BX6 HE6
  have HW := Lib.hid hw'
  clear hA hw'
  by_cases hlt : k < kn
  ·obtain ⟨R, rfl, hc⟩ := (HR.out.below BX6.out.bel) k (by rw [← HKN.out]; exact hlt)
   have hk0 : (0 : Int) ≤ (k : Int) := by omega
   have hk1 : (k : Int) < (kn : Int) := by omega
   have b0 := (BX6.out.mem (.tail _ (.tail _ (.head _)))) 0 _ rfl
   have HLN := Lib.hid (lens_not (n := B.pl) (rows := rows) (k := k) (by rw [← HKN.out]; exact hlt))
   have HPK : Hid ((rows.getD k (none, 0, 0)).2.1 = B.pl → ∀ j, j < k + 1 → (rows.getD j (none, 0, 0)).2.1 = B.pl) := Lib.hid (fun he j hj => if h : j < k then HP.out j h else (show j = k by omega) ▸ he)
   generalize hrow : rows.getD k (none, 0, 0) = rw' at *
   obtain ⟨r1, r2, r3⟩ := rw'
   have hrl : r2 ≤ 9223372036854775807 ∨ True := .inr trivial
   by_cases hne : r2 = B.pl
   ·have HNX := Lib.hid (HPK.out hne)
    clear HPK HLN hrow hrl
    subst hne
    go_wp2
    go_roundw
    case rel => exact ⟨k + 1, by omega, by go_num, HNX.out, nd', HW.out⟩
    case measure => simp [intOf]; omega
   ·have hz : lensB B.pl rows = false := HLN.out hne
    have he1 : ((r2 : Int) == (B.pl : Int)) = false := by simp; omega
    have he2 : ((r2 : Int) != (B.pl : Int)) = true := by simp; omega
    have HZ := Lib.hid hz
    have BX7 := Lib.hid (BX6.out.re (L' := [(w.heap.size + 1, Z14), (X, HbL B a ea len cap n ec), (w.heap.size, B.l)]) (fun x hx => by simp only [List.mem_cons, List.not_mem_nil, or_false] at hx ⊢; rcases hx with h | h | h <;> simp [h]))
    clear HPK HLN hrow hrl hz
    have q0 := (BX7.out.mem (.head _)) 0 _ rfl
    have p0 := BX7.out.free (.head _) 0
    have q1 := (BX7.out.mem (.head _)) 1 _ rfl
    have p1 := BX7.out.free (.head _) 1
    have q2 := (BX7.out.mem (.head _)) 2 _ rfl
    have p2 := BX7.out.free (.head _) 2
    have q3 := (BX7.out.mem (.head _)) 3 _ rfl
    have p3 := BX7.out.free (.head _) 3
    have q4 := (BX7.out.mem (.head _)) 4 _ rfl
    have p4 := BX7.out.free (.head _) 4
    have q5 := (BX7.out.mem (.head _)) 5 _ rfl
    have p5 := BX7.out.free (.head _) 5
    have q6 := (BX7.out.mem (.head _)) 6 _ rfl
    have p6 := BX7.out.free (.head _) 6
    have q7 := (BX7.out.mem (.head _)) 7 _ rfl
    have p7 := BX7.out.free (.head _) 7
    have q8 := (BX7.out.mem (.head _)) 8 _ rfl
    have p8 := BX7.out.free (.head _) 8
    have q9 := (BX7.out.mem (.head _)) 9 _ rfl
    have p9 := BX7.out.free (.head _) 9
    have q10 := (BX7.out.mem (.head _)) 10 _ rfl
    have p10 := BX7.out.free (.head _) 10
    have q11 := (BX7.out.mem (.head _)) 11 _ rfl
    have p11 := BX7.out.free (.head _) 11
    have q12 := (BX7.out.mem (.head _)) 12 _ rfl
    have p12 := BX7.out.free (.head _) 12
    have q13 := (BX7.out.mem (.head _)) 13 _ rfl
    have p13 := BX7.out.free (.head _) 13
    have BZ := Lib.hid (Bx.setAll (vs := Z14) BX7.out (fun b' l' hm => by simp only [List.mem_cons, Prod.mk.injEq, List.not_mem_nil, or_false] at hm; have hz := LT.out; omega) rfl)
    simp only [setL, Nat.zero_add, Nat.reduceAdd] at BZ
    go_wp2
    clear q0 p0 q1 p1 q2 p2 q3 p3 q4 p4 q5 p5 q6 p6 q7 p7 q8 p8 q9 p9 q10 p10 q11 p11 q12 p12 q13 p13
    have m0 := (BZ.out.mem (.head _)) 0 _ rfl
    have m1 := (BZ.out.mem (.head _)) 1 _ rfl
    have m2 := (BZ.out.mem (.head _)) 2 _ rfl
    have m3 := (BZ.out.mem (.head _)) 3 _ rfl
    have m4 := (BZ.out.mem (.head _)) 4 _ rfl
    have m5 := (BZ.out.mem (.head _)) 5 _ rfl
    have m6 := (BZ.out.mem (.head _)) 6 _ rfl
    have m7 := (BZ.out.mem (.head _)) 7 _ rfl
    have m8 := (BZ.out.mem (.head _)) 8 _ rfl
    have m9 := (BZ.out.mem (.head _)) 9 _ rfl
    have m10 := (BZ.out.mem (.head _)) 10 _ rfl
    have m11 := (BZ.out.mem (.head _)) 11 _ rfl
    have m12 := (BZ.out.mem (.head _)) 12 _ rfl
    have m13 := (BZ.out.mem (.head _)) 13 _ rfl
    refine bodyPost_ret (v := .tuple #[.agg Z14.toArray, .bool false]) (by simp [results, Tryz.results71, go_sem, m0, m1, m2, m3, m4, m5, m6, m7, m8, m9, m10, m11, m12, m13]) rfl ?_
    exact ⟨fun h => absurd (HZ.out.symm.trans h) (by decide), fun _ => ⟨rfl, BZ.out.bel⟩⟩
  ·obtain rfl : k = kn := by omega
   have HZ : Hid (lensB B.pl rows = true) := Lib.hid (lens_all (fun j hj => HP.out j (by rw [HKN.out]; exact hj)))
   have BX7 := Lib.hid (BX6.out.re (L' := [(w.heap.size + 1, Z14), (X, HbL B a ea len cap n ec), (w.heap.size, B.l)]) (fun x hx => by simp only [List.mem_cons, List.not_mem_nil, or_false] at hx ⊢; rcases hx with h | h | h <;> simp [h]))
   have b0 := (BX7.out.mem (.tail _ (.head _))) 0 _ rfl
   have b1 := (BX7.out.mem (.tail _ (.head _))) 1 _ rfl
   have b2 := (BX7.out.mem (.tail _ (.head _))) 2 _ rfl
   have b3 := (BX7.out.mem (.tail _ (.head _))) 3 _ rfl
   have b4 := (BX7.out.mem (.tail _ (.head _))) 4 _ rfl
   have b5 := (BX7.out.mem (.tail _ (.head _))) 5 _ rfl
   have b6 := (BX7.out.mem (.tail _ (.head _))) 6 _ rfl
   have b7 := (BX7.out.mem (.tail _ (.head _))) 7 _ rfl
   have b8 := (BX7.out.mem (.tail _ (.head _))) 8 _ rfl
   have b9 := (BX7.out.mem (.tail _ (.head _))) 9 _ rfl
   have b10 := (BX7.out.mem (.tail _ (.head _))) 10 _ rfl
   have q0 := (BX7.out.mem (.head _)) 0 _ rfl
   have p0 := BX7.out.free (.head _) 0
   have q1 := (BX7.out.mem (.head _)) 1 _ rfl
   have p1 := BX7.out.free (.head _) 1
   have q2 := (BX7.out.mem (.head _)) 2 _ rfl
   have p2 := BX7.out.free (.head _) 2
   have q3 := (BX7.out.mem (.head _)) 3 _ rfl
   have p3 := BX7.out.free (.head _) 3
   have q4 := (BX7.out.mem (.head _)) 4 _ rfl
   have p4 := BX7.out.free (.head _) 4
   have q5 := (BX7.out.mem (.head _)) 5 _ rfl
   have p5 := BX7.out.free (.head _) 5
   have q6 := (BX7.out.mem (.head _)) 6 _ rfl
   have p6 := BX7.out.free (.head _) 6
   have q7 := (BX7.out.mem (.head _)) 7 _ rfl
   have p7 := BX7.out.free (.head _) 7
   have q8 := (BX7.out.mem (.head _)) 8 _ rfl
   have p8 := BX7.out.free (.head _) 8
   have q9 := (BX7.out.mem (.head _)) 9 _ rfl
   have p9 := BX7.out.free (.head _) 9
   have q10 := (BX7.out.mem (.head _)) 10 _ rfl
   have p10 := BX7.out.free (.head _) 10
   have q11 := (BX7.out.mem (.head _)) 11 _ rfl
   have p11 := BX7.out.free (.head _) 11
   have q12 := (BX7.out.mem (.head _)) 12 _ rfl
   have p12 := BX7.out.free (.head _) 12
   have q13 := (BX7.out.mem (.head _)) 13 _ rfl
   have p13 := BX7.out.free (.head _) 13
   have BZ := Lib.hid (Bx.setAll (vs := StL B a ea len cap n ec x 0 none 0 0) BX7.out (fun b' l' hm => by simp only [List.mem_cons, Prod.mk.injEq, List.not_mem_nil, or_false] at hm; have hz := LT.out; omega) rfl)
   have HE7 := Lib.hid ((EnB.setB (b := w.heap.size + 1) (vs := StL B a ea len cap n ec x 0 none 0 0) HE6.out (by have hz := HWS.out; omega)).low (base' := w.heap.size) (by have hz := HWS.out; omega))
   simp only [setL, Nat.zero_add, Nat.reduceAdd] at BZ HE7
   go_wp2
   clear b0 b1 b2 b3 b4 b5 b6 b7 b8 b9 b10 q0 p0 q1 p1 q2 p2 q3 p3 q4 p4 q5 p5 q6 p6 q7 p7 q8 p8 q9 p9 q10 p10 q11 p11 q12 p12 q13 p13
   have m0 := (BZ.out.mem (.head _)) 0 _ rfl
   have m1 := (BZ.out.mem (.head _)) 1 _ rfl
   have m2 := (BZ.out.mem (.head _)) 2 _ rfl
   have m3 := (BZ.out.mem (.head _)) 3 _ rfl
   have m4 := (BZ.out.mem (.head _)) 4 _ rfl
   have m5 := (BZ.out.mem (.head _)) 5 _ rfl
   have m6 := (BZ.out.mem (.head _)) 6 _ rfl
   have m7 := (BZ.out.mem (.head _)) 7 _ rfl
   have m8 := (BZ.out.mem (.head _)) 8 _ rfl
   have m9 := (BZ.out.mem (.head _)) 9 _ rfl
   have m10 := (BZ.out.mem (.head _)) 10 _ rfl
   have m11 := (BZ.out.mem (.head _)) 11 _ rfl
   have m12 := (BZ.out.mem (.head _)) 12 _ rfl
   have m13 := (BZ.out.mem (.head _)) 13 _ rfl
   refine bodyPost_ret (v := .tuple #[StV B a ea len cap n ec x 0 none 0 0, .bool true]) (by simp [results, Tryz.results71, go_sem, m0, m1, m2, m3, m4, m5, m6, m7, m8, m9, m10, m11, m12, m13]) rfl ?_
   exact ⟨fun _ => ⟨ea, ec, rfl, HE7.out, BZ.out.bel⟩, fun h => absurd (HZ.out.symm.trans h) (by decide)⟩
end Go.Proofs.YtabccmobmppdnaaGreat
namespace Go.Proofs.YtabccmobmppdnaaGreat
open Go Fk Go.RowKit
set_option linter.unusedVariables false
set_option maxRecDepth 16000
theorem rise_nil {L : List Int} (h : riseB 0 L = true) : L = [] := by
 cases L with
 | nil => rfl
 | cons z L =>
  have := rise_in (k := 0) h (by simp)
  have hz := of_decide_eq_true this
  omega
set_option maxHeartbeats 4000000 in
theorem impl_still0 (B : Bd) (ha la : Option Addr) (hc ln lc : Nat) (v : Value) (W : World) :
  Calls Tryz.prog 130 #[HbV B ha la 0 hc ln lc, v] W fun e w' => e = .returned (.tuple #[]) ∧ Below W.heap.size W w' := by
 have uh := Tryz.underlying107
 have hB := (Below.refl W.heap.size W).alloc (Nat.le_refl _) (.cells (HbL B ha la 0 hc ln lc).toArray 107)
 have HB := Lib.hid hB
 clear hB
 go_enter Tryz.func130, Tryz.ntmps130
 go_wp2
 generalize hW : (W.alloc (.cells #[.slice B.pa B.pl B.pc, .slice B.ta B.tl B.tc, .slice B.sa B.sl B.sc, .float .f32 B.film, .float .f32 B.bend, .slice B.wa B.wl B.wc, .float .f32 B.x, .float .f32 B.y, .float .f32 B.z, .slice ha 0 hc, .slice la ln lc] 107)) = W1
 have HB1 := Lib.hid HB.out
 rw [show (W.alloc (.cells (HbL B ha la 0 hc ln lc).toArray 107)) = W1 from hW] at HB1
 clear HB hW
 go_loopw [9] (fun i w' => i = .int .i64 0 ∧ w' = W1) (fun i _ => 0)
 case atStart => exact ⟨rfl, rfl⟩
 case round =>
  obtain ⟨rfl, hw⟩ := hrel
  have HB2 : Hid (Below W.heap.size W wr) := Lib.hid (by rw [hw]; exact HB1.out)
  clear hw HB1
  go_wp2
  exact ⟨rfl, .tuple #[], by first | exact results_none rfl _ _ _ | rfl | kernel_rfl, rfl, HB2.out⟩
set_option maxHeartbeats 4000000 in
theorem impl_free (B : Bd) (ha la : Option Addr) (hl hc ln lc : Nat) (L : List Int) (a : Option Addr) (n cap : Nat) (ys : List C3) (w : World) (hv : IsVs w a n cap ys) (hL : IsIs w ha hl hc L) (hr : riseB n L = true) (hn : n ≤ 1048576) :
  Calls Tryz.prog 84 #[HbV B ha la hl hc ln lc, .slice a n cap] w fun e w' => ∃ v, e = .returned v ∧ RV w.heap.size w' v (stillF ys L) ∧ Below w.heap.size w w' := by
 have uh := Tryz.underlying107
 have BX := Lib.hid ((Bx.nil w).box (vs := HbL B ha la hl hc ln lc) (t := 107))
 have J := Lib.hid (fun w1 h => clone_vecs a n cap ys w1 h hn)
 have HV := Lib.hid hv
 have HL := Lib.hid hL
 have HR := Lib.hid hr
 have hln := hv.1
 have hll := hL.1
 clear hv hL hr
 go_enter Tryz.func84, Tryz.ntmps84
 go_wp2_with fail
 generalize hW : (w.alloc (.cells #[.slice B.pa B.pl B.pc, .slice B.ta B.tl B.tc, .slice B.sa B.sl B.sc, .float .f32 B.film, .float .f32 B.bend, .slice B.wa B.wl B.wc, .float .f32 B.x, .float .f32 B.y, .float .f32 B.z, .slice ha hl hc, .slice la ln lc] 107)) = W
 have BX1 := Lib.hid BX.out
 rw [show (w.alloc (.cells (HbL B ha la hl hc ln lc).toArray 107)) = W from hW] at BX1
 clear BX hW
 refine (J.out W (HV.out.below BX1.out.bel)).mono ?_
 rintro e w1 ⟨⟨v, xs, rfl, hO, hP⟩, hB1⟩
 have BX2 := Lib.hid (BX1.out.call hB1)
 have HLn := Lib.hid (And.intro hln hll)
 rcases own_block hO hP hln with ⟨rfl, hz⟩ | ⟨g, gc, rfl, hg, hnc, hcm, hOV⟩
 ·have hL0 : L = [] := by have := HR.out; rw [hz] at this; exact rise_nil this
  have hy0 : ys = [] := List.eq_nil_of_length_eq_zero (by omega)
  have hl0 : hl = 0 := by rw [hL0] at hll; exact hll.symm
  subst hL0 hy0 hl0 hz
  have BX3 := Lib.hid BX2.out
  clear hO hP hB1 HV HL HR HLn hln hll BX2 J BX1
  have b0 := (BX3.out.mem (.head _)) 0 _ rfl
  have b1 := (BX3.out.mem (.head _)) 1 _ rfl
  have b2 := (BX3.out.mem (.head _)) 2 _ rfl
  have b3 := (BX3.out.mem (.head _)) 3 _ rfl
  have b4 := (BX3.out.mem (.head _)) 4 _ rfl
  have b5 := (BX3.out.mem (.head _)) 5 _ rfl
  have b6 := (BX3.out.mem (.head _)) 6 _ rfl
  have b7 := (BX3.out.mem (.head _)) 7 _ rfl
  have b8 := (BX3.out.mem (.head _)) 8 _ rfl
  have b9 := (BX3.out.mem (.head _)) 9 _ rfl
  have b10 := (BX3.out.mem (.head _)) 10 _ rfl
  go_wp2_with fail
  clear b0 b1 b2 b3 b4 b5 b6 b7 b8 b9 b10
  refine (impl_still0 B ha la hc ln lc (.slice none 0 0) w1).mono ?_
  rintro e w2 ⟨rfl, hB2⟩
  have BX4 := Lib.hid (BX3.out.call hB2)
  clear hB2
  go_wp2
  go_ret
  exact ⟨_, rfl, RV.nil _ _, BX4.out.bel⟩
 ·have S0 : Hid (St w [] g ys w1) := Lib.hid (St.of (Bx.nil w) BX2.out.bel (Nat.le_trans BX1.out.bel.size hg) hOV)
  have HG := Lib.hid (Nat.le_trans BX1.out.bel.size hg)
  have HC := Lib.hid (And.intro hnc hcm)
  clear hO hP hB1 hOV J BX1 hg
  have b0 := (BX2.out.mem (.head _)) 0 _ rfl
  have b1 := (BX2.out.mem (.head _)) 1 _ rfl
  have b2 := (BX2.out.mem (.head _)) 2 _ rfl
  have b3 := (BX2.out.mem (.head _)) 3 _ rfl
  have b4 := (BX2.out.mem (.head _)) 4 _ rfl
  have b5 := (BX2.out.mem (.head _)) 5 _ rfl
  have b6 := (BX2.out.mem (.head _)) 6 _ rfl
  have b7 := (BX2.out.mem (.head _)) 7 _ rfl
  have b8 := (BX2.out.mem (.head _)) 8 _ rfl
  have b9 := (BX2.out.mem (.head _)) 9 _ rfl
  have b10 := (BX2.out.mem (.head _)) 10 _ rfl
  go_wp2_with fail
  clear b0 b1 b2 b3 b4 b5 b6 b7 b8 b9 b10
  refine (impl_still B ha la hl hc ln lc L w w1 g n gc ys S0.out HLn.out.1 HL.out (fun k hk => rise_in HR.out hk) hn).mono ?_
  rintro e w2 ⟨rfl, hS⟩
  have hl2 : (stillF ys L).length = n := by rw [stillF_len]; exact HLn.out.1
  have hRV := RV.block (base := w.heap.size) (cap := gc) HG.out (by rw [hl2]; exact HC.out.1) HC.out.2 hS.own
  rw [hl2] at hRV
  have HRV := Lib.hid hRV
  have HB := Lib.hid hS.bel
  clear hS hRV hl2
  go_wp2
  go_ret
  exact ⟨_, rfl, HRV.out, HB.out⟩
end Go.Proofs.YtabccmobmppdnaaGreat
namespace Go.Proofs.YtabccmobmppdnaaGreat
namespace Fk
open Go
set_option linter.unusedVariables false
end Fk
end Go.Proofs.YtabccmobmppdnaaGreat
namespace Go.Proofs.YtabccmobmppdnaaGreat
open Go Fk Go.RowKit
set_option linter.unusedVariables false
set_option maxRecDepth 16000
def difC (c d : C3) : C3 := (fop .sub .f32 c.1 d.1, fop .sub .f32 c.2.1 d.2.1, fop .sub .f32 c.2.2 d.2.2)
end Go.Proofs.YtabccmobmppdnaaGreat
namespace Go.Proofs.YtabccmobmppdnaaGreat
open Go Fk Go.RowKit
set_option linter.unusedVariables false
set_option maxRecDepth 16000
def mkG (f : Nat → C3) (n k : Nat) : List C3 := (List.range n).map fun j => if j < k then f j else z3
theorem mkG_len (f : Nat → C3) (n k : Nat) : (mkG f n k).length = n := by simp [mkG]
theorem mkG_zero (f : Nat → C3) (n : Nat) : mkG f n 0 = List.replicate n z3 := by
 apply List.ext_getElem (by simp [mkG])
 intro i h1 h2
 simp [mkG]
theorem mkG_set {f : Nat → C3} {n k : Nat} (hk : k < n) : (mkG f n k).set k (f k) = mkG f n (k + 1) := by
 apply List.ext_getElem (by simp [mkG])
 intro i h1 h2
 simp only [mkG, List.getElem_set, List.getElem_map, List.getElem_range]
 by_cases hik : k = i
 ·subst hik; simp
 ·rw [if_neg hik]
  by_cases h : i < k
  ·rw [if_pos h, if_pos (by omega)]
  ·rw [if_neg h, if_neg (by omega)]
def two32 : Option Nat := cls .f32 1073741824
theorem two_FV : FV .f32 1073741824 two32 := ⟨by decide, rfl⟩
def one32 : Option Nat := cls .f32 1065353216
theorem one_FV32 : FV .f32 1065353216 one32 := ⟨by decide, rfl⟩
def frcT (c : Bc) (ys : List C3) (d : Option Nat) : List C3 := addsF (mkM c.cs ys d c.cs.length c.cs.length) (List.replicate c.cs.length (some 0, some 0, some 0)) (ens c)
def shrC (d : Option Nat) : Option Nat := fop .quo .f32 one32 (fop .mul .f32 two32 d)
def timF (c : Bc) (ys : List C3) (d : Option Nat) (j : Nat) : C3 := scaleC' (difC ((frcT c ys (negC32 d)).getD j c0) ((frcT c ys d).getD j c0)) (shrC d)
def timT (c : Bc) (L : List Int) (ys : List C3) (d : Option Nat) : List C3 := stillF (mkG (timF c (stillF ys L) d) c.cs.length c.cs.length) L
theorem timT_len (c : Bc) (L : List Int) (ys : List C3) (d : Option Nat) : (timT c L ys d).length = c.cs.length := by
 unfold timT; rw [stillF_len, mkG_len]
theorem frcT_len (c : Bc) (ys : List C3) (d : Option Nat) : (frcT c ys d).length = c.cs.length := by
 unfold frcT; rw [addsF_len, List.length_replicate]
set_option maxHeartbeats 8000000 in
theorem impl_times (B : Bd) (c : Bc) (ha la : Option Addr) (hl hc lc : Nat) (L : List Int) (a : Option Addr) (cap : Nat) (ys : List C3) (x s : Nat) (d : Option Nat) (fa : Option Addr) (fl fc : Nat) (w : World) (hP : IsVs w B.pa B.pl B.pc c.cs) (hE : EnS w la (ens c)) (hb : bodyB c = true) (hpl : c.cs.length = B.pl) (hL : IsIs w ha hl hc L) (hr : riseB B.pl L = true) (hv : IsVs w a B.pl cap ys) (hx : FV .f32 x d) :
  Calls Tryz.prog 72 #[StV B ha la hl hc (ens c).length lc x s fa fl fc, .slice a B.pl cap] w fun e w' => ∃ g, e = .returned (.slice (some ⟨g, 0, none⟩) B.pl B.pl) ∧ St w [] g (timT c L ys d) w' := by
 have us := Tryz.underlying109
 have uh := Tryz.underlying107
 have ub := Tryz.underlying44
 have um := Tryz.underlying40
 have uv := Tryz.underlying42
 have u := Tryz.underlying27
 obtain ⟨hel, hok⟩ := ens_ok hb
 rw [hpl] at hok
 have HPL : Hid (B.pl ≤ 64) := Lib.hid (by have := (valid_pl (body_valid hb).1).1; omega)
 have HLT : Hid ((stillF ys L).length = B.pl) := Lib.hid (by rw [stillF_len]; exact hv.1)
 have hm : B.pl ≤ 9223372036854775807 := by have := HPL.out; omega
 have BX := Lib.hid ((Bx.nil w).box (vs := StL B ha la hl hc (ens c).length lc x s fa fl fc) (t := 109))
 have HES : Hid (∀ w1, Below w.heap.size w w1 → EnS w1 la (ens c)) := Lib.hid (fun w1 h => hE.below h)
 have JF := Lib.hid (fun w1 h1 h2 => impl_free B ha la hl hc (ens c).length lc L a B.pl cap ys w1 h1 h2 hr (by have := HPL.out; omega))
 have JS := Lib.hid (fun pa pc cs w1 h1 h2 => impl_sumForces pa la B.pl pc lc cs (ens c) w1 h1 h2 hel (by have := HPL.out; omega) hok)
 have JL := Lib.hid (fun W w1 g X h1 h2 h3 => impl_still B ha la hl hc (ens c).length lc L W w1 g B.pl B.pl X h1 h2 h3 (fun k hk => rise_in hr hk) (by have := HPL.out; omega))
 have HP := Lib.hid hP
 have HL := Lib.hid hL
 have HV := Lib.hid hv
 have HX := Lib.hid hx
 have HNX := Lib.hid (FV_neg32 hx)
 have HT : Hid (∀ g W, St w [] g (stillF (mkG (timF c (stillF ys L) d) B.pl B.pl) L) W → St w [] g (timT c L ys d) W) := Lib.hid (fun g W h => by unfold timT; rw [hpl]; exact h)
 have HB1 : Hid (frcT c (stillF ys L) (negC32 d) = addsF (mkM c.cs (stillF ys L) (negC32 d) B.pl B.pl) (List.replicate B.pl (some 0, some 0, some 0)) (ens c)) := Lib.hid (by unfold frcT; rw [hpl])
 have HB2 : Hid (frcT c (stillF ys L) d = addsF (mkM c.cs (stillF ys L) d B.pl B.pl) (List.replicate B.pl (some 0, some 0, some 0)) (ens c)) := Lib.hid (by unfold frcT; rw [hpl])
 have HL1 : Hid ((frcT c (stillF ys L) (negC32 d)).length = B.pl) := Lib.hid (by rw [frcT_len, hpl])
 have HL2 : Hid ((frcT c (stillF ys L) d).length = B.pl) := Lib.hid (by rw [frcT_len, hpl])
 clear hP hE hb hpl hL hr hv hx hel hok
 have HTF : Hid (∀ j, timF c (stillF ys L) d j = scaleC' (difC ((frcT c (stillF ys L) (negC32 d)).getD j c0) ((frcT c (stillF ys L) d).getD j c0)) (shrC d)) := Lib.hid (fun j => rfl)
 generalize timF c (stillF ys L) d = TF at *
 generalize frcT c (stillF ys L) (negC32 d) = X1 at *
 generalize frcT c (stillF ys L) d = X2 at *
 generalize hYF : stillF ys L = YF at *
 generalize hes : ens c = es at *
 generalize hn : es.length = n at *
 clear hYF hes hn
 go_enter Tryz.func72, Tryz.ntmps72
 go_wp2_with fail
 have BX1 := Lib.hid BX.out
 change Calls _ _ _ (w.alloc (.cells (StL B ha la hl hc n lc x s fa fl fc).toArray 109)) _
 generalize (w.alloc (.cells (StL B ha la hl hc n lc x s fa fl fc).toArray 109)) = W at *
 clear BX
 generalize hS : w.heap.size = S at *
 have HS := Lib.hid hS
 clear hS
 refine (JF.out W (HV.out.below (HS.out ▸ BX1.out.bel)) (HL.out.below (HS.out ▸ BX1.out.bel))).mono ?_
 rintro e w1 ⟨v, rfl, ⟨fa', fc', rfl, hvs, _⟩, hB1⟩
 rw [HLT.out] at hvs ⊢
 have BX2 := Lib.hid (BX1.out.call hB1)
 have HVS := Lib.hid hvs
 clear hvs hB1 BX1
 go_wp2_with fail
 refine Reg.wp_region_mix (C := fun w' => Below w1.heap.size w1 w') (G := fun w1 w2 => Below w1.heap.size w1 w2) (R := fun i v w' => match i with
  | 0 => v = .pointer (some ⟨S, 0, none⟩)
  | 1 => v = .pointer (some ⟨S, 10, none⟩)
  | 2 => v = .slice la n lc
  | 3 => v = .pointer (some ⟨S, 0, none⟩)
  | 4 => v = .pointer (some ⟨S, 0, none⟩)
  | 5 => v = .pointer (some ⟨S, 0, none⟩)
  | 6 => v = .pointer (some ⟨S, 0, none⟩)
  | 7 => v = .slice B.pa B.pl B.pc
  | 8 => v = .slice fa' B.pl fc'
  | 9 => v = .pointer (some ⟨S, 11, none⟩)
  | 10 => v = .float .f32 x
  | 11 => v = .float .f32 (Op.negFloat .f32 x)
  | 12 => ∃ g, v = .slice (some ⟨g, 0, none⟩) B.pl B.pl ∧ OwnVs w' g (mkM c.cs YF (negC32 d) B.pl B.pl)
  | 13 => ∃ g, v = .slice (some ⟨g, 0, none⟩) B.pl B.pl ∧ OwnVs w' g (X1)
  | 14 => ∃ g, v = .slice (some ⟨g, 0, none⟩) B.pl B.pl ∧ OwnVs w' g (X1)
  | _ => True) (T := fun _ _ _ => True) [false, false, false, false, false, true, false, false, false, false, false, false, false, false, true, true, true, true, true, true, true, true, true, true, true, true, true, true, false, false, false, false, false, false, false, false, false, false, false, false, false, false, false, false, false, false, false, false, false, false, false, false, false, false, false, false, false, false, false, false, false, false, false, false, false, false, false, false, false, false, false, false, false]
  (by kernel_rfl) (by kernel_rfl) (by kernel_rfl) ?_ (below_drewN (Below.refl _ _) 1) ?_ ?_
 ·intro j v wa wb _ hG hR
  match j with
  | 0 => exact hR
  | 1 => exact hR
  | 2 => exact hR
  | 3 => exact hR
  | 4 => exact hR
  | 5 => exact hR
  | 6 => exact hR
  | 7 => exact hR
  | 8 => exact hR
  | 9 => exact hR
  | 10 => exact hR
  | 11 => exact hR
  | 12 => obtain ⟨g, e, h⟩ := hR; exact ⟨g, e, h.below hG⟩
  | 13 => obtain ⟨g, e, h⟩ := hR; exact ⟨g, e, h.below hG⟩
  | 14 => obtain ⟨g, e, h⟩ := hR; exact ⟨g, e, h.below hG⟩
  | _ + 15 => trivial
 ·refine ⟨Reg.Obl.mk ?_, Reg.Obl.mk ?_, Reg.Obl.mk ?_, Reg.Obl.mk ?_, Reg.Obl.mk ?_, Reg.Obl.mk ?_, Reg.Obl.mk ?_, Reg.Obl.mk ?_, Reg.Obl.mk ?_, Reg.Obl.mk ?_, Reg.Obl.mk ?_, Reg.Obl.mk ?_, Reg.Obl.mk ?_, Reg.Obl.mk ?_, Reg.Obl.mk ?_, trivial⟩
  ·rintro av wq HC hx hd K hK
   replace HC := Lib.hid HC
   have t2 : av.tmps[2]?.getD undef = .pointer (some ⟨S, 0, none⟩) := Reg.slot_val (hx 2 (by kernel_rfl))
   go_simp
   exact hK _ _ (fun _ => rfl) (fun h => by cases h) HC.out (Below.refl _ _)
  ·rintro av wq HC hx hd K hK
   replace HC := Lib.hid HC
   have t14 : av.tmps[14]?.getD undef = .pointer (some ⟨S, 0, none⟩) := Reg.slot_val (hd 0 (by kernel_rfl) 14 rfl)
   go_simp
   exact hK _ _ (fun _ => rfl) (fun h => by cases h) HC.out (Below.refl _ _)
  ·rintro av wq HC hx hd K hK
   replace HC := Lib.hid HC
   have t15 : av.tmps[15]?.getD undef = .pointer (some ⟨S, 10, none⟩) := Reg.slot_val (hd 1 (by kernel_rfl) 15 rfl)
   have y := ((BX2.out.call HC.out).mem (.head _)) 10 _ rfl
   go_simp
   exact hK _ _ (fun _ => rfl) (fun h => by cases h) HC.out (Below.refl _ _)
  ·rintro av wq HC hx hd K hK
   replace HC := Lib.hid HC
   have t2 : av.tmps[2]?.getD undef = .pointer (some ⟨S, 0, none⟩) := Reg.slot_val (hx 2 (by kernel_rfl))
   go_simp
   exact hK _ _ (fun _ => rfl) (fun h => by cases h) HC.out (Below.refl _ _)
  ·rintro av wq HC hx hd K hK
   replace HC := Lib.hid HC
   have t17 : av.tmps[17]?.getD undef = .pointer (some ⟨S, 0, none⟩) := Reg.slot_val (hd 3 (by kernel_rfl) 17 rfl)
   go_simp
   exact hK _ _ (fun _ => rfl) (fun h => by cases h) HC.out (Below.refl _ _)
  ·rintro av wq HC hx hd K hK
   replace HC := Lib.hid HC
   have t18 : av.tmps[18]?.getD undef = .pointer (some ⟨S, 0, none⟩) := Reg.slot_val (hd 4 (by kernel_rfl) 18 rfl)
   go_simp
   exact hK _ _ (fun _ => rfl) (fun h => by cases h) HC.out (Below.refl _ _)
  ·rintro av wq HC hx hd K hK
   replace HC := Lib.hid HC
   have t19 : av.tmps[19]?.getD undef = .pointer (some ⟨S, 0, none⟩) := Reg.slot_val (hd 5 (by kernel_rfl) 19 rfl)
   go_simp
   exact hK _ _ (fun _ => rfl) (fun h => by cases h) HC.out (Below.refl _ _)
  ·rintro av wq HC hx hd K hK
   replace HC := Lib.hid HC
   have t20 : av.tmps[20]?.getD undef = .pointer (some ⟨S, 0, none⟩) := Reg.slot_val (hd 6 (by kernel_rfl) 20 rfl)
   have y := ((BX2.out.call HC.out).mem (.head _)) 0 _ rfl
   go_simp
   exact hK _ _ (fun _ => rfl) (fun h => by cases h) HC.out (Below.refl _ _)
  ·rintro av wq HC hx hd K hK
   replace HC := Lib.hid HC
   have t1 : av.tmps[1]?.getD undef = .slice fa' B.pl fc' := Reg.slot_val (hx 1 (by kernel_rfl))
   go_simp
   exact hK _ _ (fun _ => rfl) (fun h => by cases h) HC.out (Below.refl _ _)
  ·rintro av wq HC hx hd K hK
   replace HC := Lib.hid HC
   have t2 : av.tmps[2]?.getD undef = .pointer (some ⟨S, 0, none⟩) := Reg.slot_val (hx 2 (by kernel_rfl))
   go_simp
   exact hK _ _ (fun _ => rfl) (fun h => by cases h) HC.out (Below.refl _ _)
  ·rintro av wq HC hx hd K hK
   replace HC := Lib.hid HC
   have t23 : av.tmps[23]?.getD undef = .pointer (some ⟨S, 11, none⟩) := Reg.slot_val (hd 9 (by kernel_rfl) 23 rfl)
   have y := ((BX2.out.call HC.out).mem (.head _)) 11 _ rfl
   go_simp
   exact hK _ _ (fun _ => rfl) (fun h => by cases h) HC.out (Below.refl _ _)
  ·rintro av wq HC hx hd K hK
   replace HC := Lib.hid HC
   have t24 : av.tmps[24]?.getD undef = .float .f32 x := Reg.slot_val (hd 10 (by kernel_rfl) 24 rfl)
   go_simp
   exact hK _ _ (fun _ => rfl) (fun h => by cases h) HC.out (Below.refl _ _)
  ·rintro av wq HC hx hd K hK
   replace HC := Lib.hid HC
   have t21 : av.tmps[21]?.getD undef = .slice B.pa B.pl B.pc := Reg.slot_val (hd 7 (by kernel_rfl) 21 rfl)
   have t22 : av.tmps[22]?.getD undef = .slice fa' B.pl fc' := Reg.slot_val (hd 8 (by kernel_rfl) 22 rfl)
   have t25 : av.tmps[25]?.getD undef = .float .f32 (Op.negFloat .f32 x) := Reg.slot_val (hd 11 (by kernel_rfl) 25 rfl)
   go_simp
   refine (impl_addScaled _ _ _ _ _ c.cs YF _ _ _ (HP.out.below (HS.out ▸ (BX2.out.call HC.out).bel)) (HVS.out.below HC.out) HNX.out (by have := HPL.out; omega)).mono ?_
   rintro en w9 ⟨g, rfl, hO, _, hB9⟩
   exact hK _ _ (fun _ => ⟨g, rfl, hO⟩) (fun h => by cases h) (HC.out.trans (hB9.mono HC.out.size)) hB9
  ·rintro av wq HC hx hd K hK
   replace HC := Lib.hid HC
   have t16 : av.tmps[16]?.getD undef = .slice la n lc := Reg.slot_val (hd 2 (by kernel_rfl) 16 rfl)
   obtain ⟨g, g26, hO⟩ := hd 12 (by kernel_rfl) 26 rfl
   have t26 := Reg.slot_val g26
   have HO := Lib.hid hO.is
   clear g26 hO
   go_simp
   rw [mkM_len] at HO
   refine (JS.out _ _ _ _ HO.out (HES.out _ (HS.out ▸ (BX2.out.call HC.out).bel))).mono ?_
   rintro en w9 ⟨g9, rfl, hS9⟩
   exact hK _ _ (fun _ => ⟨g9, rfl, by rw [HB1.out]; exact hS9.own⟩) (fun h => by cases h) (HC.out.trans (hS9.bel.mono HC.out.size)) hS9.bel
  ·rintro av wq HC hx hd K hK
   replace HC := Lib.hid HC
   obtain ⟨g, g27, hO⟩ := hd 13 (by kernel_rfl) 27 rfl
   have t27 := Reg.slot_val g27
   have HO := Lib.hid hO
   clear g27 hO
   go_simp
   exact hK _ _ (fun _ => ⟨g, rfl, HO.out⟩) (fun h => by cases h) HC.out (Below.refl _ _)
 rintro f wa hC hd hT
 obtain ⟨ga, e5, hOa⟩ := hd 14 5 rfl
 simp only [Reg.mixL, Nat.zero_add, Nat.reduceAdd, e5]
 have BX3 := Lib.hid (BX2.out.call hC)
 have HVS3 := Lib.hid (HVS.out.below hC)
 have OA := Lib.hid hOa
 clear hC hd hT hOa e5 HVS BX2
 go_wp2_with fail
 refine Reg.wp_region_mix (C := fun w' => Below wa.heap.size wa w') (G := fun w1 w2 => Below w1.heap.size w1 w2) (R := fun i v w' => match i with
  | 0 => v = .pointer (some ⟨S, 0, none⟩)
  | 1 => v = .pointer (some ⟨S, 10, none⟩)
  | 2 => v = .slice la n lc
  | 3 => v = .pointer (some ⟨S, 0, none⟩)
  | 4 => v = .pointer (some ⟨S, 0, none⟩)
  | 5 => v = .pointer (some ⟨S, 0, none⟩)
  | 6 => v = .pointer (some ⟨S, 0, none⟩)
  | 7 => v = .slice B.pa B.pl B.pc
  | 8 => v = .slice fa' B.pl fc'
  | 9 => v = .pointer (some ⟨S, 11, none⟩)
  | 10 => v = .float .f32 x
  | 11 => ∃ g, v = .slice (some ⟨g, 0, none⟩) B.pl B.pl ∧ OwnVs w' g (mkM c.cs YF d B.pl B.pl)
  | 12 => ∃ g, v = .slice (some ⟨g, 0, none⟩) B.pl B.pl ∧ OwnVs w' g (X2)
  | 13 => ∃ g, v = .slice (some ⟨g, 0, none⟩) B.pl B.pl ∧ OwnVs w' g (X2)
  | _ => True) (T := fun _ _ _ => True) [false, false, false, false, false, false, true, false, false, false, false, false, false, false, false, false, false, false, false, false, false, false, false, false, false, false, false, false, true, true, true, true, true, true, true, true, true, true, true, true, true, false, false, false, false, false, false, false, false, false, false, false, false, false, false, false, false, false, false, false, false, false, false, false, false, false, false, false, false, false, false, false, false]
  (by kernel_rfl) (by kernel_rfl) (by kernel_rfl) ?_ (below_drewN (Below.refl _ _) 1) ?_ ?_
 ·intro j v wa wb _ hG hR
  match j with
  | 0 => exact hR
  | 1 => exact hR
  | 2 => exact hR
  | 3 => exact hR
  | 4 => exact hR
  | 5 => exact hR
  | 6 => exact hR
  | 7 => exact hR
  | 8 => exact hR
  | 9 => exact hR
  | 10 => exact hR
  | 11 => obtain ⟨g, e, h⟩ := hR; exact ⟨g, e, h.below hG⟩
  | 12 => obtain ⟨g, e, h⟩ := hR; exact ⟨g, e, h.below hG⟩
  | 13 => obtain ⟨g, e, h⟩ := hR; exact ⟨g, e, h.below hG⟩
  | _ + 14 => trivial
 ·refine ⟨Reg.Obl.mk ?_, Reg.Obl.mk ?_, Reg.Obl.mk ?_, Reg.Obl.mk ?_, Reg.Obl.mk ?_, Reg.Obl.mk ?_, Reg.Obl.mk ?_, Reg.Obl.mk ?_, Reg.Obl.mk ?_, Reg.Obl.mk ?_, Reg.Obl.mk ?_, Reg.Obl.mk ?_, Reg.Obl.mk ?_, Reg.Obl.mk ?_, trivial⟩
  ·rintro av wq HC hx hd K hK
   replace HC := Lib.hid HC
   have t2 : av.tmps[2]?.getD undef = .pointer (some ⟨S, 0, none⟩) := Reg.slot_val (hx 2 (by kernel_rfl))
   go_simp
   exact hK _ _ (fun _ => rfl) (fun h => by cases h) HC.out (Below.refl _ _)
  ·rintro av wq HC hx hd K hK
   replace HC := Lib.hid HC
   have t28 : av.tmps[28]?.getD undef = .pointer (some ⟨S, 0, none⟩) := Reg.slot_val (hd 0 (by kernel_rfl) 28 rfl)
   go_simp
   exact hK _ _ (fun _ => rfl) (fun h => by cases h) HC.out (Below.refl _ _)
  ·rintro av wq HC hx hd K hK
   replace HC := Lib.hid HC
   have t29 : av.tmps[29]?.getD undef = .pointer (some ⟨S, 10, none⟩) := Reg.slot_val (hd 1 (by kernel_rfl) 29 rfl)
   have y := ((BX3.out.call HC.out).mem (.head _)) 10 _ rfl
   go_simp
   exact hK _ _ (fun _ => rfl) (fun h => by cases h) HC.out (Below.refl _ _)
  ·rintro av wq HC hx hd K hK
   replace HC := Lib.hid HC
   have t2 : av.tmps[2]?.getD undef = .pointer (some ⟨S, 0, none⟩) := Reg.slot_val (hx 2 (by kernel_rfl))
   go_simp
   exact hK _ _ (fun _ => rfl) (fun h => by cases h) HC.out (Below.refl _ _)
  ·rintro av wq HC hx hd K hK
   replace HC := Lib.hid HC
   have t31 : av.tmps[31]?.getD undef = .pointer (some ⟨S, 0, none⟩) := Reg.slot_val (hd 3 (by kernel_rfl) 31 rfl)
   go_simp
   exact hK _ _ (fun _ => rfl) (fun h => by cases h) HC.out (Below.refl _ _)
  ·rintro av wq HC hx hd K hK
   replace HC := Lib.hid HC
   have t32 : av.tmps[32]?.getD undef = .pointer (some ⟨S, 0, none⟩) := Reg.slot_val (hd 4 (by kernel_rfl) 32 rfl)
   go_simp
   exact hK _ _ (fun _ => rfl) (fun h => by cases h) HC.out (Below.refl _ _)
  ·rintro av wq HC hx hd K hK
   replace HC := Lib.hid HC
   have t33 : av.tmps[33]?.getD undef = .pointer (some ⟨S, 0, none⟩) := Reg.slot_val (hd 5 (by kernel_rfl) 33 rfl)
   go_simp
   exact hK _ _ (fun _ => rfl) (fun h => by cases h) HC.out (Below.refl _ _)
  ·rintro av wq HC hx hd K hK
   replace HC := Lib.hid HC
   have t34 : av.tmps[34]?.getD undef = .pointer (some ⟨S, 0, none⟩) := Reg.slot_val (hd 6 (by kernel_rfl) 34 rfl)
   have y := ((BX3.out.call HC.out).mem (.head _)) 0 _ rfl
   go_simp
   exact hK _ _ (fun _ => rfl) (fun h => by cases h) HC.out (Below.refl _ _)
  ·rintro av wq HC hx hd K hK
   replace HC := Lib.hid HC
   have t1 : av.tmps[1]?.getD undef = .slice fa' B.pl fc' := Reg.slot_val (hx 1 (by kernel_rfl))
   go_simp
   exact hK _ _ (fun _ => rfl) (fun h => by cases h) HC.out (Below.refl _ _)
  ·rintro av wq HC hx hd K hK
   replace HC := Lib.hid HC
   have t2 : av.tmps[2]?.getD undef = .pointer (some ⟨S, 0, none⟩) := Reg.slot_val (hx 2 (by kernel_rfl))
   go_simp
   exact hK _ _ (fun _ => rfl) (fun h => by cases h) HC.out (Below.refl _ _)
  ·rintro av wq HC hx hd K hK
   replace HC := Lib.hid HC
   have t37 : av.tmps[37]?.getD undef = .pointer (some ⟨S, 11, none⟩) := Reg.slot_val (hd 9 (by kernel_rfl) 37 rfl)
   have y := ((BX3.out.call HC.out).mem (.head _)) 11 _ rfl
   go_simp
   exact hK _ _ (fun _ => rfl) (fun h => by cases h) HC.out (Below.refl _ _)
  ·rintro av wq HC hx hd K hK
   replace HC := Lib.hid HC
   have t35 : av.tmps[35]?.getD undef = .slice B.pa B.pl B.pc := Reg.slot_val (hd 7 (by kernel_rfl) 35 rfl)
   have t36 : av.tmps[36]?.getD undef = .slice fa' B.pl fc' := Reg.slot_val (hd 8 (by kernel_rfl) 36 rfl)
   have t38 : av.tmps[38]?.getD undef = .float .f32 x := Reg.slot_val (hd 10 (by kernel_rfl) 38 rfl)
   go_simp
   refine (impl_addScaled _ _ _ _ _ c.cs YF _ _ _ (HP.out.below (HS.out ▸ (BX3.out.call HC.out).bel)) (HVS3.out.below HC.out) HX.out (by have := HPL.out; omega)).mono ?_
   rintro en w9 ⟨g, rfl, hO, _, hB9⟩
   exact hK _ _ (fun _ => ⟨g, rfl, hO⟩) (fun h => by cases h) (HC.out.trans (hB9.mono HC.out.size)) hB9
  ·rintro av wq HC hx hd K hK
   replace HC := Lib.hid HC
   have t30 : av.tmps[30]?.getD undef = .slice la n lc := Reg.slot_val (hd 2 (by kernel_rfl) 30 rfl)
   obtain ⟨g, g39, hO⟩ := hd 11 (by kernel_rfl) 39 rfl
   have t39 := Reg.slot_val g39
   have HO := Lib.hid hO.is
   clear g39 hO
   go_simp
   rw [mkM_len] at HO
   refine (JS.out _ _ _ _ HO.out (HES.out _ (HS.out ▸ (BX3.out.call HC.out).bel))).mono ?_
   rintro en w9 ⟨g9, rfl, hS9⟩
   exact hK _ _ (fun _ => ⟨g9, rfl, by rw [HB2.out]; exact hS9.own⟩) (fun h => by cases h) (HC.out.trans (hS9.bel.mono HC.out.size)) hS9.bel
  ·rintro av wq HC hx hd K hK
   replace HC := Lib.hid HC
   obtain ⟨g, g40, hO⟩ := hd 12 (by kernel_rfl) 40 rfl
   have t40 := Reg.slot_val g40
   have HO := Lib.hid hO
   clear g40 hO
   go_simp
   exact hK _ _ (fun _ => ⟨g, rfl, HO.out⟩) (fun h => by cases h) HC.out (Below.refl _ _)
 rintro f wb hC hd hT
 obtain ⟨gb, e6, hOb⟩ := hd 13 6 rfl
 simp only [Reg.mixL, Nat.zero_add, Nat.reduceAdd, e6]
 have BX4 := Lib.hid (BX3.out.call hC)
 have OA4 := Lib.hid (OA.out.below hC)
 have OB4 := Lib.hid hOb
 clear hC hd hT hOb e6 HVS3 BX3 OA
 have y := (BX4.out.mem (.head _)) 11 _ rfl
 go_wp2_with fail
 clear y
 refine (impl_product32 _ _ _ _ _ two_FV HX.out).mono ?_
 rintro e wc ⟨q, rfl, hq, nd, hw⟩
 have hB : Below wb.heap.size wb wc := by rw [hw]; exact below_drewN (Below.refl _ _) _
 have BX5 := Lib.hid (BX4.out.call hB)
 have OA5 := Lib.hid (OA4.out.below hB)
 have OB5 := Lib.hid (OB4.out.below hB)
 have HSH := Lib.hid (fun w9 : World => (show FV .f32 (fR .quo .f32 1065353216 q w9) (shrC d) from FV_fR one_FV32 hq))
 clear hB hw hq BX4 OA4 OB4
 have hmk := fun W : World => make_vecs W B.pl (by have := HPL.out; omega)
 have u3 := Tryz.underlying27
 go_wp2_with fail
 generalize hsh : fR BinOp.quo FloatKind.f32 1065353216 q wc = sh at *
 have FSH : Hid (FV .f32 sh (shrC d)) := Lib.hid (hsh ▸ HSH.out wc)
 clear HSH hsh
 have hA : Below wc.heap.size wc (wc.alloc (.cells (madeCells #[.float .f32 0, .float .f32 0, .float .f32 0] (B.pl * 3)) 42)) := (Below.refl _ _).alloc (Nat.le_refl _) _
 have S0 : Hid (St w [(S, StL B ha la hl hc n lc x s fa fl fc)] wc.heap.size (mkG TF B.pl 0) (wc.alloc (.cells (madeCells #[.float .f32 0, .float .f32 0, .float .f32 0] (B.pl * 3)) 42))) := Lib.hid (St.of BX5.out hA (Nat.le_refl _) (by rw [mkG_zero]; exact OwnVs.made (by have := HPL.out; omega)))
 have OA7 := Lib.hid (OA5.out.below hA)
 have OB7 := Lib.hid (OB5.out.below hA)
 have HNE : Hid (ga ≠ wc.heap.size ∧ gb ≠ wc.heap.size) := Lib.hid ⟨Nat.ne_of_lt OA5.out.2.2, Nat.ne_of_lt OB5.out.2.2⟩
 clear hA OA5 OB5 BX5 hmk
 generalize (wc.alloc (.cells (madeCells #[.float .f32 0, .float .f32 0, .float .f32 0] (B.pl * 3)) 42)) = W7 at *
 generalize wc.heap.size = g at *
 replace S0 := Lib.hid (S0.out.drewN (fN BinOp.quo FloatKind.f32 1065353216 q))
 replace OA7 := Lib.hid (OA7.out.below (below_drewN (Below.refl _ _) (fN BinOp.quo FloatKind.f32 1065353216 q)))
 replace OB7 := Lib.hid (OB7.out.below (below_drewN (Below.refl _ _) (fN BinOp.quo FloatKind.f32 1065353216 q)))
 generalize (W7.drewN (fN BinOp.quo FloatKind.f32 1065353216 q)) = W8 at *
 go_loopw [50] (fun i w' => ∃ k : Nat, k ≤ B.pl ∧ i = .int .i64 k ∧ Aside (St w [(S, StL B ha la hl hc n lc x s fa fl fc)] g (mkG TF B.pl k) w' ∧ OwnVs w' ga X1 ∧ OwnVs w' gb X2)) (fun i _ => B.pl - (intOf i).toNat)
 case atStart => exact ⟨0, Nat.zero_le _, rfl, S0.out, OA7.out, OB7.out⟩
 case round =>
  obtain ⟨k, hk, rfl, hA⟩ := hrel
  have SK := Lib.hid hA.out.1
  have AK := Lib.hid hA.out.2.1
  have BK := Lib.hid hA.out.2.2
  clear hA S0 OA7 OB7
  by_cases hlt : k < B.pl
  ·obtain ⟨p', q', t', ⟨c0', c1', c2'⟩, fA⟩ := AK.out.at (k := k) (by rw [HL1.out]; exact hlt)
   obtain ⟨p2, q2, t2', ⟨d0', d1', d2'⟩, fB⟩ := BK.out.at (k := k) (by rw [HL2.out]; exact hlt)
   have hk0 : (0 : Int) ≤ (k : Int) := by omega
   have hk1 : (k : Int) < (B.pl : Int) := by omega
   have HSN := Lib.hid (mkG_set (f := TF) hlt)
   have HTK := Lib.hid (HTF.out k)
   have FA := Lib.hid fA
   have FB := Lib.hid fB
   have CA := Lib.hid (And.intro c0' (And.intro c1' c2'))
   have CB := Lib.hid (And.intro d0' (And.intro d1' d2'))
   have OWN := Lib.hid SK.out.own
   clear fA fB c0' c1' c2' d0' d1' d2'
   generalize X1.getD k c0 = C1 at *
   generalize X2.getD k c0 = C2 at *
   go_wp2_with fail
   refine Reg6.wp_region_mix (s := 14) (C := fun w' => Below wr.heap.size wr w') (D := fun _ w' => ∃ wp y z v, Below wr.heap.size wr wp ∧ F3 y z v (scaleC' (difC C1 C2) (shrC d)) ∧ w' = put3 wp g k y z v) (G := fun w1 w2 => Below w1.heap.size w1 w2)
    (Rv := fun i v => match i with
     | 0 => v = .slice (some ⟨g, 0, none⟩) B.pl B.pl
     | 1 => v = .int .i64 k
     | 2 => v = .slice (some ⟨ga, 0, none⟩) B.pl B.pl
     | 3 => v = .int .i64 k
     | 4 => v = .pointer (some ⟨ga, k * 3, none⟩)
     | 5 => v = vv p' q' t'
     | 6 => v = .slice (some ⟨gb, 0, none⟩) B.pl B.pl
     | 7 => v = .int .i64 k
     | 8 => v = .pointer (some ⟨gb, k * 3, none⟩)
     | 9 => v = vv p2 q2 t2'
     | 10 => ∃ y z u, v = vv y z u ∧ F3 y z u (difC C1 C2)
     | 11 => v = .float .f32 sh
     | 12 => ∃ y z u, v = vv y z u ∧ F3 y z u (scaleC' (difC C1 C2) (shrC d))
     | 13 => v = .pointer (some ⟨g, k * 3, none⟩)
     | _ => True) (Rw := fun _ _ _ => True) [false, false, false, false, false, false, false, false, false, false, false, false, false, false, false, false, false, false, false, false, false, false, false, false, false, false, false, false, false, false, false, false, false, false, false, false, false, false, false, false, false, false, false, false, false, false, false, false, false, false, false, false, false, true, true, true, true, true, true, true, true, true, true, true, true, true, true, false, false, false, false, false, false]
    (by kernel_rfl) (by kernel_rfl) (by kernel_rfl) (fun _ _ _ _ _ _ _ => trivial) (below_drewN (Below.refl _ _) 1) ?_ ?_
   ·refine ⟨?_, ?_, ?_, ?_, ?_, ?_, ?_, ?_, ?_, ?_, ?_, ?_, ?_, ?_, ?_, trivial⟩
    ·refine Reg6.Obl.early rfl (by kernel_rfl) ?_
     rintro av wq HC hx hd K hK
     replace HC := Lib.hid HC
     have t8 : av.tmps[8]?.getD undef = .slice (some ⟨g, 0, none⟩) B.pl B.pl := Reg.slot_val (hx 8 (by kernel_rfl))
     go_simp
     exact hK _ _ (by first | rfl | simp) trivial HC.out (Below.refl _ _)
    ·refine Reg6.Obl.early rfl (by kernel_rfl) ?_
     rintro av wq HC hx hd K hK
     replace HC := Lib.hid HC
     have t9 : av.tmps[9]?.getD undef = .int .i64 k := Reg.slot_val (hx 9 (by kernel_rfl))
     go_simp
     exact hK _ _ (by first | rfl | simp) trivial HC.out (Below.refl _ _)
    ·refine Reg6.Obl.early rfl (by kernel_rfl) ?_
     rintro av wq HC hx hd K hK
     replace HC := Lib.hid HC
     have t5 : av.tmps[5]?.getD undef = .slice (some ⟨ga, 0, none⟩) B.pl B.pl := Reg.slot_val (hx 5 (by kernel_rfl))
     go_simp
     exact hK _ _ (by first | rfl | simp) trivial HC.out (Below.refl _ _)
    ·refine Reg6.Obl.early rfl (by kernel_rfl) ?_
     rintro av wq HC hx hd K hK
     replace HC := Lib.hid HC
     have t9 : av.tmps[9]?.getD undef = .int .i64 k := Reg.slot_val (hx 9 (by kernel_rfl))
     go_simp
     exact hK _ _ (by first | rfl | simp) trivial HC.out (Below.refl _ _)
    ·refine Reg6.Obl.early rfl (by kernel_rfl) ?_
     rintro av wq HC hx hd K hK
     replace HC := Lib.hid HC
     have t55 : av.tmps[55]?.getD undef = .slice (some ⟨ga, 0, none⟩) B.pl B.pl := Reg.slot_val (hd 2 55 (by kernel_rfl) rfl).1
     have t56 : av.tmps[56]?.getD undef = .int .i64 k := Reg.slot_val (hd 3 56 (by kernel_rfl) rfl).1
     go_simp
     exact hK _ _ (by first | rfl | simp) trivial HC.out (Below.refl _ _)
    ·refine Reg6.Obl.early rfl (by kernel_rfl) ?_
     rintro av wq HC hx hd K hK
     replace HC := Lib.hid HC
     have t57 : av.tmps[57]?.getD undef = .pointer (some ⟨ga, k * 3, none⟩) := Reg.slot_val (hd 4 57 (by kernel_rfl) rfl).1
     have y0 := cell_below HC.out CA.out.1
     have y1 := cell_below HC.out CA.out.2.1
     have y2 := cell_below HC.out CA.out.2.2
     go_simp
     exact hK _ _ (by first | rfl | simp) trivial HC.out (Below.refl _ _)
    ·refine Reg6.Obl.early rfl (by kernel_rfl) ?_
     rintro av wq HC hx hd K hK
     replace HC := Lib.hid HC
     have t6 : av.tmps[6]?.getD undef = .slice (some ⟨gb, 0, none⟩) B.pl B.pl := Reg.slot_val (hx 6 (by kernel_rfl))
     go_simp
     exact hK _ _ (by first | rfl | simp) trivial HC.out (Below.refl _ _)
    ·refine Reg6.Obl.early rfl (by kernel_rfl) ?_
     rintro av wq HC hx hd K hK
     replace HC := Lib.hid HC
     have t9 : av.tmps[9]?.getD undef = .int .i64 k := Reg.slot_val (hx 9 (by kernel_rfl))
     go_simp
     exact hK _ _ (by first | rfl | simp) trivial HC.out (Below.refl _ _)
    ·refine Reg6.Obl.early rfl (by kernel_rfl) ?_
     rintro av wq HC hx hd K hK
     replace HC := Lib.hid HC
     have t59 : av.tmps[59]?.getD undef = .slice (some ⟨gb, 0, none⟩) B.pl B.pl := Reg.slot_val (hd 6 59 (by kernel_rfl) rfl).1
     have t60 : av.tmps[60]?.getD undef = .int .i64 k := Reg.slot_val (hd 7 60 (by kernel_rfl) rfl).1
     go_simp
     exact hK _ _ (by first | rfl | simp) trivial HC.out (Below.refl _ _)
    ·refine Reg6.Obl.early rfl (by kernel_rfl) ?_
     rintro av wq HC hx hd K hK
     replace HC := Lib.hid HC
     have t61 : av.tmps[61]?.getD undef = .pointer (some ⟨gb, k * 3, none⟩) := Reg.slot_val (hd 8 61 (by kernel_rfl) rfl).1
     have y0 := cell_below HC.out CB.out.1
     have y1 := cell_below HC.out CB.out.2.1
     have y2 := cell_below HC.out CB.out.2.2
     go_simp
     exact hK _ _ (by first | rfl | simp) trivial HC.out (Below.refl _ _)
    ·refine Reg6.Obl.early rfl (by kernel_rfl) ?_
     rintro av wq HC hx hd K hK
     replace HC := Lib.hid HC
     have t58 : av.tmps[58]?.getD undef = vv p' q' t' := Reg.slot_val (hd 5 58 (by kernel_rfl) rfl).1
     have t62 : av.tmps[62]?.getD undef = vv p2 q2 t2' := Reg.slot_val (hd 9 62 (by kernel_rfl) rfl).1
     go_simp
     refine (impl_LessVectors _ _ _ _ _ _ _ _ _ _ _ _ _ FA.out.1 FA.out.2.1 FA.out.2.2 FB.out.1 FB.out.2.1 FB.out.2.2).mono ?_
     rintro en w9 ⟨y', z', u', rfl, f0, f1, f2, hB9⟩
     exact hK _ _ ⟨y', z', u', rfl, f0, f1, f2⟩ trivial (HC.out.trans (hB9.mono HC.out.size)) hB9
    ·refine Reg6.Obl.early rfl (by kernel_rfl) ?_
     rintro av wq HC hx hd K hK
     replace HC := Lib.hid HC
     have t7 : av.tmps[7]?.getD undef = .float .f32 sh := Reg.slot_val (hx 7 (by kernel_rfl))
     go_simp
     exact hK _ _ (by first | rfl | simp) trivial HC.out (Below.refl _ _)
    ·refine Reg6.Obl.early rfl (by kernel_rfl) ?_
     rintro av wq HC hx hd K hK
     replace HC := Lib.hid HC
     have t64 : av.tmps[64]?.getD undef = .float .f32 sh := Reg.slot_val (hd 11 64 (by kernel_rfl) rfl).1
     obtain ⟨y, z, u', g63, f63⟩ := (hd 10 63 (by kernel_rfl) rfl).1
     have t63 := Reg.slot_val g63
     have F63 := Lib.hid f63
     clear g63 f63
     go_simp
     refine (impl_ScaleVector _ _ _ _ _ _ _ _ _ F63.out.1 F63.out.2.1 F63.out.2.2 FSH.out).mono ?_
     rintro en w9 ⟨y', z', u', rfl, f0, f1, f2, hB9⟩
     exact hK _ _ ⟨y', z', u', rfl, f0, f1, f2⟩ trivial (HC.out.trans (hB9.mono HC.out.size)) hB9
    ·refine Reg6.Obl.early rfl (by kernel_rfl) ?_
     rintro av wq HC hx hd K hK
     replace HC := Lib.hid HC
     have t53 : av.tmps[53]?.getD undef = .slice (some ⟨g, 0, none⟩) B.pl B.pl := Reg.slot_val (hd 0 53 (by kernel_rfl) rfl).1
     have t54 : av.tmps[54]?.getD undef = .int .i64 k := Reg.slot_val (hd 1 54 (by kernel_rfl) rfl).1
     go_simp
     exact hK _ _ (by first | rfl | simp) trivial HC.out (Below.refl _ _)
    ·refine Reg6.Obl.store rfl ?_
     rintro av wq HC hx hd K hK
     replace HC := Lib.hid HC
     have t66 : av.tmps[66]?.getD undef = .pointer (some ⟨g, k * 3, none⟩) := Reg.slot_val (hd 13 66 (by kernel_rfl) rfl).1
     obtain ⟨y, z, v, gv, fv⟩ := (hd 12 65 (by kernel_rfl) rfl).1
     have t65 := Reg.slot_val gv
     have HPX : Hid (∃ wp y' z' v', Below wr.heap.size wr wp ∧ F3 y' z' v' (scaleC' (difC C1 C2) (shrC d)) ∧ put3 wq g k y z v = put3 wp g k y' z' v') := Lib.hid ⟨wq, y, z, v, HC.out, fv, rfl⟩
     obtain ⟨p0, q0, r0, ⟨y0, y1, y2⟩, -⟩ := (OWN.out.below HC.out).at (k := k) (by rw [mkG_len]; exact hlt)
     have f0 := (OWN.out.below HC.out).2.1 (k * 3)
     have f1 := (OWN.out.below HC.out).2.1 (k * 3 + 1)
     have f2 := (OWN.out.below HC.out).2.1 (k * 3 + 2)
     clear gv fv
     go_simp
     exact hK _ HPX.out
   ·rintro f w2 hD hd
    obtain ⟨wp, y, z, v, hB, hF, rfl⟩ := hD
    simp only [Reg.mixL, Nat.zero_add, Nat.reduceAdd]
    have S2 := Lib.hid ((SK.out.call hB).put (k := k) (by rw [mkG_len]; exact hlt) hF)
    have hne := HNE.out
    have A2 : Hid (OwnVs (put3 wp g k y z v) ga X1) := Lib.hid ((((AK.out.below hB).far (a := ⟨g, k * 3, none⟩) (Ne.symm hne.1)).far (a := ⟨g, k * 3 + 1, none⟩) (Ne.symm hne.1)).far (a := ⟨g, k * 3 + 2, none⟩) (Ne.symm hne.1))
    have B2 : Hid (OwnVs (put3 wp g k y z v) gb X2) := Lib.hid ((((BK.out.below hB).far (a := ⟨g, k * 3, none⟩) (Ne.symm hne.2)).far (a := ⟨g, k * 3 + 1, none⟩) (Ne.symm hne.2)).far (a := ⟨g, k * 3 + 2, none⟩) (Ne.symm hne.2))
    rw [← HTK.out, HSN.out] at S2
    clear hB hF hd hne
    unfold put3 at *
    go_wp2
    go_roundw
    case rel => exact ⟨k + 1, by omega, by go_num, S2.out, A2.out, B2.out⟩
    case measure => simp [intOf]; omega
  ·obtain rfl : k = B.pl := by omega
   have S3 : Hid (St w [] g (mkG TF B.pl B.pl) wr) := Lib.hid SK.out.drop
   have BXr := Lib.hid SK.out
   clear AK BK SK
   have b0 := (BXr.out.mem (.head _)) 0 _ rfl
   have b1 := (BXr.out.mem (.head _)) 1 _ rfl
   have b2 := (BXr.out.mem (.head _)) 2 _ rfl
   have b3 := (BXr.out.mem (.head _)) 3 _ rfl
   have b4 := (BXr.out.mem (.head _)) 4 _ rfl
   have b5 := (BXr.out.mem (.head _)) 5 _ rfl
   have b6 := (BXr.out.mem (.head _)) 6 _ rfl
   have b7 := (BXr.out.mem (.head _)) 7 _ rfl
   have b8 := (BXr.out.mem (.head _)) 8 _ rfl
   have b9 := (BXr.out.mem (.head _)) 9 _ rfl
   have b10 := (BXr.out.mem (.head _)) 10 _ rfl
   go_wp2_with fail
   clear b0 b1 b2 b3 b4 b5 b6 b7 b8 b9 b10
   refine (JL.out w wr g _ S3.out (mkG_len _ _ _) HL.out).mono ?_
   rintro e w9 ⟨rfl, hS⟩
   have HSS := Lib.hid hS
   clear hS
   go_wp2
   go_ret
   exact ⟨g, rfl, HT.out g _ HSS.out⟩
end Go.Proofs.YtabccmobmppdnaaGreat
namespace Go.Proofs.YtabccmobmppdnaaGreat
open Go Fk Go.RowKit
set_option linter.unusedVariables false
set_option maxRecDepth 16000
theorem stiff_all (B : Bd) (c : Bc) (a : Option Addr) (len cap : Nat) (L : List Int) (x : Nat) (la : Option Addr) (lc : Nat) (rows : List (Option Addr × Nat × Nat)) (w : World) (h : IsB w B c) (hL : IsIs w a len cap L) (hx' : x < 4294967296) (hR : RowsS w la rows) (hk : rows.length ≤ 1000) :
  Calls Tryz.prog 71 #[B.v, .slice a len cap, .float .f32 x, .slice la rows.length lc] w fun e w' => ((stfB c L x rows = true ∧ ∃ ea ec, e = .returned (.tuple #[StV B a ea len cap (ens c).length ec x 0 none 0 0, .bool true]) ∧ EnB w.heap.size w' ea (ens c)) ∨ (stfB c L x rows = false ∧ e = .returned (.tuple #[.agg Z14.toArray, .bool false]))) ∧ Below w.heap.size w w' := by
 have hpl : c.cs.length = B.pl := h.1.1
 unfold stfB
 rw [hpl]
 cases hh : heldB c L
 ·exact (stiff_no1 B c a len cap L x la lc rows w h hL hx' hR hk hh).mono fun e w' ⟨he, hB⟩ => ⟨.inr ⟨rfl, he⟩, hB⟩
 ·cases hs : sizeB x
  ·exact (stiff_no2 B c a len cap L x la lc rows w h hL hx' hR hk hh hs).mono fun e w' ⟨he, hB⟩ => ⟨.inr ⟨rfl, he⟩, hB⟩
  ·refine (stiff_yes B c a len cap L x la lc rows w h hL hx' hR hk hh hs).mono fun e w' ⟨h1, h2⟩ => ?_
   cases hl : lensB B.pl rows
   ·exact ⟨.inr ⟨rfl, (h2 hl).1⟩, (h2 hl).2⟩
   ·obtain ⟨ea, ec, he, hE, hB⟩ := h1 hl
    exact ⟨.inl ⟨rfl, ea, ec, he, hE⟩, hB⟩
def canB (c : Bc) (L : List Int) (n x : Nat) : Bool := heldB c L && (sizeB x && decide (n = c.cs.length))
def stiT (c : Bc) (L : List Int) (ys : List C3) (d : Option Nat) (n x : Nat) : List C3 := bif canB c L n x then timT c L ys d else []
theorem stf_can (c : Bc) (L : List Int) (x : Nat) (a : Option Addr) (n cap : Nat) : stfB c L x [(a, n, cap)] = canB c L n x := by
 unfold stfB canB lensB; simp
theorem can_parts {c : Bc} {L : List Int} {n x : Nat} (h : canB c L n x = true) : bodyB c = true ∧ riseB c.cs.length L = true ∧ sizeB x = true ∧ n = c.cs.length := by
 unfold canB heldB at h
 simp only [Bool.and_eq_true, decide_eq_true_eq] at h
 exact ⟨h.1.1, h.1.2, h.2.1, h.2.2⟩
theorem body64 {c : Bc} (h : bodyB c = true) : c.cs.length ≤ 64 := (valid_pl (body_valid h).1).1
theorem stiT_len (c : Bc) (L : List Int) (ys : List C3) (d : Option Nat) (n x : Nat) : (stiT c L ys d n x).length ≤ 64 := by
 unfold stiT
 cases h : canB c L n x
 ·simp
 ·rw [cond_true, timT_len]; exact body64 (can_parts h).1
set_option maxHeartbeats 4000000 in
theorem impl_StiffTimes (B : Bd) (c : Bc) (a1 : Option Addr) (n1 c1 : Nat) (L1 : List Int) (a2 : Option Addr) (n2 c2 : Nat) (y2 : List C3) (x : Nat) (d : Option Nat) (w : World) (h : IsB w B c) (h1 : IsIs w a1 n1 c1 L1) (h2 : IsVs w a2 n2 c2 y2) (h3 : FV .f32 x d) (g3 : x < 4294967296) :
  Calls Tryz.prog 21 #[B.v, .slice a1 n1 c1, .slice a2 n2 c2, .float .f32 x] w fun e w' => (∃ v, e = .returned (.tuple #[v, .bool (canB c L1 n2 x)]) ∧ RV w.heap.size w' v (stiT c L1 y2 d n2 x)) ∧ Below w.heap.size w w' := by
 have uib := Tryz.underlying44
 have us := Tryz.underlying109
 have uv := Tryz.underlying36
 have bx1 := (Bx.nil w).box (vs := B.l) (t := 44)
 have bx2 := bx1.box (vs := [.slice a2 n2 c2]) (t := 36)
 simp at bx2
 have BX := Lib.hid bx2
 have hpl : c.cs.length = B.pl := h.1.1
 have H := Lib.hid h
 have HL := Lib.hid h1
 have HV := Lib.hid h2
 have JS := Lib.hid (fun la lc w1 hb hi hr => stiff_all B c a1 n1 c1 L1 x la lc [(a2, n2, c2)] w1 hb hi g3 hr (by simp))
 rw [stf_can] at JS
 have JT : Hid (canB c L1 n2 x = true → n2 = B.pl ∧ ∀ (la : Option Addr) (lc : Nat) (w1 : World), IsVs w1 B.pa B.pl B.pc c.cs → EnS w1 la (ens c) → IsIs w1 a1 n1 c1 L1 → IsVs w1 a2 B.pl c2 y2 → Calls Tryz.prog 72 #[StV B a1 la n1 c1 (ens c).length lc x 0 none 0 0, .slice a2 B.pl c2] w1 fun e w' => ∃ g, e = .returned (.slice (some ⟨g, 0, none⟩) B.pl B.pl) ∧ St w1 [] g (timT c L1 y2 d) w') := Lib.hid (fun hc => by
  obtain ⟨q1, q2, q3, q4⟩ := can_parts hc
  exact ⟨q4.trans hpl, fun la lc w1 k1 k2 k3 k4 => impl_times B c a1 la n1 c1 lc L1 a2 c2 y2 x 0 d none 0 0 w1 k1 k2 q1 hpl k3 (hpl ▸ q2) k4 h3⟩)
 have JP : Hid (canB c L1 n2 x = true → B.pl ≤ 64) := Lib.hid (fun hc => hpl ▸ body64 (can_parts hc).1)
 have HTL : Hid ((timT c L1 y2 d).length = B.pl) := Lib.hid (by rw [timT_len, hpl])
 unfold stiT
 clear h h1 h2 h3 bx1 bx2 hpl
 generalize canB c L1 n2 x = cb at *
 generalize timT c L1 y2 d = T at *
 generalize ens c = es at *
 go_enter Tryz.func21, Tryz.ntmps21
 go_wp2_with fail
 generalize hW : (w.alloc (BoxB B 44)).alloc (.cells #[.slice a2 n2 c2] 36) = W
 have BX1 : Hid (Bx w [(w.heap.size + 1, [.slice a2 n2 c2]), (w.heap.size, B.l)] W) := Lib.hid (hW ▸ BX.out)
 clear BX hW
 have HRW : Hid (RowsS W (some ⟨w.heap.size + 1, 0, none⟩) [(a2, n2, c2)]) := Lib.hid (fun j hj => by
  obtain rfl : j = 0 := by simpa using hj
  exact ⟨_, rfl, (BX1.out.mem (.head _)) 0 _ rfl⟩)
 refine (JS.out (some ⟨w.heap.size + 1, 0, none⟩) _ W (H.out.below BX1.out.bel) (HL.out.below BX1.out.bel) HRW.out).mono ?_
 rintro e w1 ⟨⟨hc, ea, ec, rfl, hE⟩ | ⟨hc, rfl⟩, hB1⟩
 ·subst hc
  obtain ⟨rfl, hJ⟩ := JT.out rfl
  have BX2 := Lib.hid (BX1.out.call hB1)
  have BX3 := Lib.hid (BX2.out.box (vs := StL B a1 ea n1 c1 es.length ec x 0 none 0 0) (t := 109))
  have hX : Below w1.heap.size w1 (w1.alloc (.cells (StL B a1 ea n1 c1 es.length ec x 0 none 0 0).toArray 109)) := (Below.refl _ _).alloc (Nat.le_refl _) _
  have HE := Lib.hid (hE.ens.below hX)
  have HJ := Lib.hid hJ
  clear hE hB1 hX hJ JS JT HRW BX1
  go_wp2_with fail
  change Calls _ _ _ (w1.alloc (.cells (StL B a1 ea n1 c1 es.length ec x 0 none 0 0).toArray 109)) _
  generalize (w1.alloc (.cells (StL B a1 ea n1 c1 es.length ec x 0 none 0 0).toArray 109)) = W2 at *
  refine (HJ.out ea ec W2 (H.out.below BX3.out.bel).1 HE.out (HL.out.below BX3.out.bel) (HV.out.below BX3.out.bel)).mono ?_
  rintro e w3 ⟨g, rfl, hS⟩
  have hRV := RV.block (base := w.heap.size) (cap := B.pl) (Nat.le_trans BX3.out.bel.size hS.2.2.1) (by rw [HTL.out]; exact Nat.le_refl _) (by have := JP.out (by first | trivial | rfl); unfold maxLen; omega) hS.own
  rw [HTL.out] at hRV
  have HRV := Lib.hid hRV
  have BX4 := Lib.hid (BX3.out.call hS.bel)
  clear hS hRV
  go_wp2
  go_ret2
  exact ⟨⟨_, rfl, HRV.out⟩, BX4.out.bel⟩
 ·subst hc
  have BX2 := Lib.hid (BX1.out.call hB1)
  have BX3 := Lib.hid (BX2.out.box (vs := Z14) (t := 109))
  clear hB1 JS JT HRW BX1
  go_wp2
  go_ret2
  exact ⟨⟨_, rfl, RV.nil _ _⟩, BX3.out.bel⟩
end Go.Proofs.YtabccmobmppdnaaGreat
namespace Go.Proofs.YtabccmobmppdnaaGreat
open Go Fk Go.RowKit
set_option linter.unusedVariables false
set_option maxRecDepth 8000
def innV (a b : C3) : Option Nat := fop .add .f32 (fop .add .f32 (fop .mul .f32 a.1 b.1) (fop .mul .f32 a.2.1 b.2.1)) (fop .mul .f32 a.2.2 b.2.2)
def innL (xs ys : List C3) : Nat → Option Nat
 | 0 => some 0
 | k + 1 => fop .add .f32 (innL xs ys k) (innV (xs.getD k c0) (ys.getD k c0))
theorem FV_0v : FV .f32 0 (some 0) := ⟨by decide, by decide⟩
set_option maxHeartbeats 1000000 in
theorem impl_innerSum (a b : Option Addr) (n cap cap' : Nat) (xs ys : List C3) (w : World) (h : IsVs w a n cap xs) (h' : IsVs w b n cap' ys) :
  Calls Tryz.prog 135 #[.slice a n cap, .slice b n cap'] w fun e w' => ∃ r, e = .returned (.float .f32 r) ∧ FV .f32 r (innL xs ys n) ∧ Below w.heap.size w w' := by
 have u := Tryz.underlying27
 have uv := Tryz.underlying42
 have hm : n ≤ 9223372036854775807 := by have h1 := h.2.1; have h2 := h.2.2.1; unfold maxLen at h2; omega
 have H := Lib.hid h
 have H' := Lib.hid h'
 clear h h'
 go_enter Tryz.func135, Tryz.ntmps135
 go_wp2
 go_loopw [5, 10] (fun s i w' => ∃ k : Nat, k ≤ n ∧ i = .int .i64 k ∧ (∃ r, s = .float .f32 r ∧ FV .f32 r (innL xs ys k)) ∧ Aside (Below w.heap.size w w')) (fun _ i _ => n - (intOf i).toNat)
 case atStart => exact ⟨0, Nat.zero_le _, rfl, ⟨0, rfl, FV_0v⟩, Below.refl _ _⟩
 case round =>
  obtain ⟨k, hk, rfl, ⟨s, rfl, hs⟩, hA⟩ := hrel
  have HB := Lib.hid hA.out
  have HF := Lib.hid hs
  clear hA hs
  by_cases hlt : k < n
  ·obtain ⟨b1, o1, rfl, hcell1⟩ := (H.out.below HB.out).some (by omega)
   obtain ⟨b2, o2, rfl, hcell2⟩ := (H'.out.below HB.out).some (by omega)
   obtain ⟨p, q, t, ca0', ca1', ca2', e0, e1, e2⟩ := hcell1 k hlt
   obtain ⟨p', q', t', d0', d1', d2', g0, g1, g2⟩ := hcell2 k hlt
   have hk0 : (0 : Int) ≤ (k : Int) := by omega
   have hk1 : (k : Int) < (n : Int) := by omega
   have HSN := Lib.hid (show innL xs ys (k + 1) = (fop .add .f32 (innL xs ys k) (innV (xs.getD k c0) (ys.getD k c0))) from rfl)
   clear hcell1 hcell2
   go_wp2_with fail
   have hG : Below wr.heap.size wr (wr.alloc (.cells #[.float .f32 p, .float .f32 q, .float .f32 t] 42)) := (Below.refl _ _).alloc (Nat.le_refl _) _
   have V : V3 (wr.alloc (.cells #[.float .f32 p, .float .f32 q, .float .f32 t] 42)) wr.heap.size p q t := V3.new
   have ca0 := V.1.1
   have ca1 := V.1.2.1
   have ca2 := V.1.2.2
   have d0 := cell_below hG d0'
   have d1 := cell_below hG d1'
   have d2 := cell_below hG d2'
   have HG := Lib.hid (HB.out.trans (hG.mono HB.out.size))
   clear hG V ca0' ca1' ca2' d0' d1' d2'
   generalize (wr.alloc (.cells #[.float .f32 p, .float .f32 q, .float .f32 t] 42)) = W1 at *
   generalize wr.heap.size = BX at *
   refine Reg.wp_region_mix (C := fun w' => Below W1.heap.size W1 w') (G := fun _ _ => True) (R := fun i v w' => match i with | 0 => v = .float .f32 s | 1 => v = vv p q t | 2 => v = .slice (some ⟨b2, o2, none⟩) n cap' | 3 => v = .int .i64 k | 4 => v = .pointer (some ⟨b2, o2 + k * 3, none⟩) | 5 => v = vv p' q' t' | 6 => isF (innV (xs.getD k c0) (ys.getD k c0)) v | 7 => isF (fop .add .f32 (innL xs ys k) (innV (xs.getD k c0) (ys.getD k c0))) v | 8 => isF (fop .add .f32 (innL xs ys k) (innV (xs.getD k c0) (ys.getD k c0))) v | _ => True) (T := fun _ _ _ => True) [false, false, false, false, false, true, false, false, false, false, false, false, false, false, false, true, true, true, true, true, true, true, true, false, false]
    (by kernel_rfl) (by kernel_rfl) (by kernel_rfl) (fun _ _ _ _ _ _ h => h) (below_drewN (Below.refl _ _) 1) ?_ ?_
   ·refine ⟨Reg.Obl.mk ?_, Reg.Obl.mk ?_, Reg.Obl.mk ?_, Reg.Obl.mk ?_, Reg.Obl.mk ?_, Reg.Obl.mk ?_, Reg.Obl.mk ?_, Reg.Obl.mk ?_, Reg.Obl.mk ?_, trivial⟩
    ·rintro a w1 HC hx hd K hK
     replace HC := Lib.hid HC
     have t5 : a.tmps[5]?.getD undef = .float .f32 s := Reg.slot_val (hx 5 (by kernel_rfl))
     go_simp
     exact hK _ _ (fun _ => rfl) (fun h => by cases h) HC.out trivial
    ·rintro a w1 HC hx hd K hK
     replace HC := Lib.hid HC
     have y0 := cell_below HC.out ca0
     have y1 := cell_below HC.out ca1
     have y2 := cell_below HC.out ca2
     have t7 : a.tmps[7]?.getD undef = .pointer (some ⟨BX, 0, none⟩) := Reg.slot_val (hx 7 (by kernel_rfl))
     go_simp
     exact hK _ _ (fun _ => rfl) (fun h => by cases h) HC.out trivial
    ·rintro a w1 HC hx hd K hK
     replace HC := Lib.hid HC
     have t1 : a.tmps[1]?.getD undef = .slice (some ⟨b2, o2, none⟩) n cap' := Reg.slot_val (hx 1 (by kernel_rfl))
     go_simp
     exact hK _ _ (fun _ => rfl) (fun h => by cases h) HC.out trivial
    ·rintro a w1 HC hx hd K hK
     replace HC := Lib.hid HC
     have t6 : a.tmps[6]?.getD undef = .int .i64 k := Reg.slot_val (hx 6 (by kernel_rfl))
     go_simp
     exact hK _ _ (fun _ => rfl) (fun h => by cases h) HC.out trivial
    ·rintro a w1 HC hx hd K hK
     replace HC := Lib.hid HC
     have t17 : a.tmps[17]?.getD undef = .slice (some ⟨b2, o2, none⟩) n cap' := Reg.slot_val (hd 2 (by kernel_rfl) 17 rfl)
     have t18 : a.tmps[18]?.getD undef = .int .i64 k := Reg.slot_val (hd 3 (by kernel_rfl) 18 rfl)
     go_simp
     exact hK _ _ (fun _ => rfl) (fun h => by cases h) HC.out trivial
    ·rintro a w1 HC hx hd K hK
     replace HC := Lib.hid HC
     have y0 := cell_below HC.out d0
     have y1 := cell_below HC.out d1
     have y2 := cell_below HC.out d2
     have t19 : a.tmps[19]?.getD undef = .pointer (some ⟨b2, o2 + k * 3, none⟩) := Reg.slot_val (hd 4 (by kernel_rfl) 19 rfl)
     go_simp
     exact hK _ _ (fun _ => rfl) (fun h => by cases h) HC.out trivial
    ·rintro a w1 HC hx hd K hK
     replace HC := Lib.hid HC
     have t16 : a.tmps[16]?.getD undef = vv p q t := Reg.slot_val (hd 1 (by kernel_rfl) 16 rfl)
     have t20 : a.tmps[20]?.getD undef = vv p' q' t' := Reg.slot_val (hd 5 (by kernel_rfl) 20 rfl)
     go_simp
     refine (impl_InnerOf _ _ _ _ _ _ _ _ _ _ _ _ _ e0 e1 e2 g0 g1 g2).mono ?_
     rintro en w2 ⟨z, rfl, hz, hB2⟩
     exact hK _ _ (fun _ => ⟨z, rfl, hz⟩) (fun h => by cases h) (HC.out.trans (hB2.mono HC.out.size)) trivial
    ·rintro a w1 HC hx hd K hK
     replace HC := Lib.hid HC
     have t15 : a.tmps[15]?.getD undef = .float .f32 s := Reg.slot_val (hd 0 (by kernel_rfl) 15 rfl)
     obtain ⟨r21, g21, f21⟩ := hd 6 (by kernel_rfl) 21 rfl
     have t21 := Reg.slot_val g21
     clear g21
     go_simp
     exact hK _ _ (fun _ => ⟨_, rfl, FV_fR HF.out f21⟩) (fun h => by cases h) (below_drewN HC.out _) trivial
    ·rintro a w1 HC hx hd K hK
     replace HC := Lib.hid HC
     obtain ⟨r22, g22, f22⟩ := hd 7 (by kernel_rfl) 22 rfl
     have t22 := Reg.slot_val g22
     clear g22
     go_simp
     exact hK _ _ (fun _ => ⟨_, rfl, f22⟩) (fun h => by cases h) HC.out trivial
   ·rintro f w1 hC hd hT
    obtain ⟨r5, g5, f5⟩ := hd 8 5 rfl
    have HC := Lib.hid (HG.out.trans (hC.mono HG.out.size))
    clear hC hd hT
    simp only [Reg.mixL, g5]
    go_wp2
    go_roundw
    case rel => exact ⟨k + 1, by omega, by go_num, ⟨_, rfl, by rw [HSN.out]; exact f5⟩, HC.out⟩
    case measure => simp [intOf]; omega
  ·obtain rfl : k = n := by omega
   go_wp2
   go_ret
   exact ⟨s, rfl, HF.out, HB.out⟩
set_option maxHeartbeats 1000000 in
theorem l05Inner (a b : Option Addr) (n cap cap' : Nat) (xs ys : List C3) (w : World) (h : IsVs w a n cap xs) (h' : IsVs w b n cap' ys) :
  Calls Tryz.prog 134 #[.slice a n cap, .slice b n cap'] w fun e w' => ∃ r, e = .returned (.float .f32 r) ∧ FV .f32 r (innL xs ys n) ∧ Below w.heap.size w w' := by
 have u := Tryz.underlying27
 have uv := Tryz.underlying42
 have hm : n ≤ 9223372036854775807 := by have h1 := h.2.1; have h2 := h.2.2.1; unfold maxLen at h2; omega
 have H := Lib.hid h
 have H' := Lib.hid h'
 clear h h'
 go_enter Tryz.func134, Tryz.ntmps134
 go_wp2
 go_loopw [5, 9] (fun s i w' => ∃ k : Nat, k ≤ n ∧ i = .int .i64 k ∧ (∃ r, s = .float .f32 r ∧ FV .f32 r (innL xs ys k)) ∧ Aside (Below w.heap.size w w')) (fun _ i _ => n - (intOf i).toNat)
 case atStart => exact ⟨0, Nat.zero_le _, rfl, ⟨0, rfl, FV_0v⟩, Below.refl _ _⟩
 case round =>
  obtain ⟨k, hk, rfl, ⟨s, rfl, hs⟩, hA⟩ := hrel
  have HB := Lib.hid hA.out
  have HF := Lib.hid hs
  clear hA hs
  by_cases hlt : k < n
  ·obtain ⟨b1, o1, rfl, hcell1⟩ := (H.out.below HB.out).some (by omega)
   obtain ⟨b2, o2, rfl, hcell2⟩ := (H'.out.below HB.out).some (by omega)
   obtain ⟨p, q, t, ca0', ca1', ca2', e0, e1, e2⟩ := hcell1 k hlt
   obtain ⟨p', q', t', d0', d1', d2', g0, g1, g2⟩ := hcell2 k hlt
   have hk0 : (0 : Int) ≤ (k : Int) := by omega
   have hk1 : (k : Int) < (n : Int) := by omega
   have HSN := Lib.hid (show innL xs ys (k + 1) = (fop .add .f32 (innL xs ys k) (innV (xs.getD k c0) (ys.getD k c0))) from rfl)
   clear hcell1 hcell2
   go_wp2_with fail
   have ca0 := ca0'
   have ca1 := ca1'
   have ca2 := ca2'
   have d0 := d0'
   have d1 := d1'
   have d2 := d2'
   have HG := HB
   clear ca0' ca1' ca2' d0' d1' d2'
   obtain ⟨W1, hW1⟩ : ∃ W1, W1 = wr := ⟨_, rfl⟩
   subst hW1
   refine Reg.wp_region_mix (C := fun w' => Below W1.heap.size W1 w') (G := fun _ _ => True) (R := fun i v w' => match i with | 0 => v = .float .f32 s | 1 => v = .slice (some ⟨b1, o1, none⟩) n cap | 2 => v = .int .i64 k | 3 => v = .pointer (some ⟨b1, o1 + k * 3, none⟩) | 4 => v = vv p q t | 5 => v = .slice (some ⟨b2, o2, none⟩) n cap' | 6 => v = .int .i64 k | 7 => v = .pointer (some ⟨b2, o2 + k * 3, none⟩) | 8 => v = vv p' q' t' | 9 => isF (innV (xs.getD k c0) (ys.getD k c0)) v | 10 => isF (fop .add .f32 (innL xs ys k) (innV (xs.getD k c0) (ys.getD k c0))) v | 11 => isF (fop .add .f32 (innL xs ys k) (innV (xs.getD k c0) (ys.getD k c0))) v | _ => True) (T := fun _ _ _ => True) [false, false, false, false, false, true, false, false, false, false, false, false, true, true, true, true, true, true, true, true, true, true, true, false, false]
    (by kernel_rfl) (by kernel_rfl) (by kernel_rfl) (fun _ _ _ _ _ _ h => h) (below_drewN (Below.refl _ _) 1) ?_ ?_
   ·refine ⟨Reg.Obl.mk ?_, Reg.Obl.mk ?_, Reg.Obl.mk ?_, Reg.Obl.mk ?_, Reg.Obl.mk ?_, Reg.Obl.mk ?_, Reg.Obl.mk ?_, Reg.Obl.mk ?_, Reg.Obl.mk ?_, Reg.Obl.mk ?_, Reg.Obl.mk ?_, Reg.Obl.mk ?_, trivial⟩
    ·rintro a w1 HC hx hd K hK
     replace HC := Lib.hid HC
     have t5 : a.tmps[5]?.getD undef = .float .f32 s := Reg.slot_val (hx 5 (by kernel_rfl))
     go_simp
     exact hK _ _ (fun _ => rfl) (fun h => by cases h) HC.out trivial
    ·rintro a w1 HC hx hd K hK
     replace HC := Lib.hid HC
     have t0 : a.tmps[0]?.getD undef = .slice (some ⟨b1, o1, none⟩) n cap := Reg.slot_val (hx 0 (by kernel_rfl))
     go_simp
     exact hK _ _ (fun _ => rfl) (fun h => by cases h) HC.out trivial
    ·rintro a w1 HC hx hd K hK
     replace HC := Lib.hid HC
     have t6 : a.tmps[6]?.getD undef = .int .i64 k := Reg.slot_val (hx 6 (by kernel_rfl))
     go_simp
     exact hK _ _ (fun _ => rfl) (fun h => by cases h) HC.out trivial
    ·rintro a w1 HC hx hd K hK
     replace HC := Lib.hid HC
     have t13 : a.tmps[13]?.getD undef = .slice (some ⟨b1, o1, none⟩) n cap := Reg.slot_val (hd 1 (by kernel_rfl) 13 rfl)
     have t14 : a.tmps[14]?.getD undef = .int .i64 k := Reg.slot_val (hd 2 (by kernel_rfl) 14 rfl)
     go_simp
     exact hK _ _ (fun _ => rfl) (fun h => by cases h) HC.out trivial
    ·rintro a w1 HC hx hd K hK
     replace HC := Lib.hid HC
     have y0 := cell_below HC.out ca0
     have y1 := cell_below HC.out ca1
     have y2 := cell_below HC.out ca2
     have t15 : a.tmps[15]?.getD undef = .pointer (some ⟨b1, o1 + k * 3, none⟩) := Reg.slot_val (hd 3 (by kernel_rfl) 15 rfl)
     go_simp
     exact hK _ _ (fun _ => rfl) (fun h => by cases h) HC.out trivial
    ·rintro a w1 HC hx hd K hK
     replace HC := Lib.hid HC
     have t1 : a.tmps[1]?.getD undef = .slice (some ⟨b2, o2, none⟩) n cap' := Reg.slot_val (hx 1 (by kernel_rfl))
     go_simp
     exact hK _ _ (fun _ => rfl) (fun h => by cases h) HC.out trivial
    ·rintro a w1 HC hx hd K hK
     replace HC := Lib.hid HC
     have t6 : a.tmps[6]?.getD undef = .int .i64 k := Reg.slot_val (hx 6 (by kernel_rfl))
     go_simp
     exact hK _ _ (fun _ => rfl) (fun h => by cases h) HC.out trivial
    ·rintro a w1 HC hx hd K hK
     replace HC := Lib.hid HC
     have t17 : a.tmps[17]?.getD undef = .slice (some ⟨b2, o2, none⟩) n cap' := Reg.slot_val (hd 5 (by kernel_rfl) 17 rfl)
     have t18 : a.tmps[18]?.getD undef = .int .i64 k := Reg.slot_val (hd 6 (by kernel_rfl) 18 rfl)
     go_simp
     exact hK _ _ (fun _ => rfl) (fun h => by cases h) HC.out trivial
    ·rintro a w1 HC hx hd K hK
     replace HC := Lib.hid HC
     have y0 := cell_below HC.out d0
     have y1 := cell_below HC.out d1
     have y2 := cell_below HC.out d2
     have t19 : a.tmps[19]?.getD undef = .pointer (some ⟨b2, o2 + k * 3, none⟩) := Reg.slot_val (hd 7 (by kernel_rfl) 19 rfl)
     go_simp
     exact hK _ _ (fun _ => rfl) (fun h => by cases h) HC.out trivial
    ·rintro a w1 HC hx hd K hK
     replace HC := Lib.hid HC
     have t16 : a.tmps[16]?.getD undef = vv p q t := Reg.slot_val (hd 4 (by kernel_rfl) 16 rfl)
     have t20 : a.tmps[20]?.getD undef = vv p' q' t' := Reg.slot_val (hd 8 (by kernel_rfl) 20 rfl)
     go_simp
     refine (l01Inner _ _ _ _ _ _ _ _ _ _ _ _ _ e0 e1 e2 g0 g1 g2).mono ?_
     rintro en w2 ⟨z, rfl, hz, hB2⟩
     exact hK _ _ (fun _ => ⟨z, rfl, hz⟩) (fun h => by cases h) (HC.out.trans (hB2.mono HC.out.size)) trivial
    ·rintro a w1 HC hx hd K hK
     replace HC := Lib.hid HC
     have t12 : a.tmps[12]?.getD undef = .float .f32 s := Reg.slot_val (hd 0 (by kernel_rfl) 12 rfl)
     obtain ⟨r21, g21, f21⟩ := hd 9 (by kernel_rfl) 21 rfl
     have t21 := Reg.slot_val g21
     clear g21
     go_simp
     exact hK _ _ (fun _ => ⟨_, rfl, FV_fR HF.out f21⟩) (fun h => by cases h) (below_drewN HC.out _) trivial
    ·rintro a w1 HC hx hd K hK
     replace HC := Lib.hid HC
     obtain ⟨r22, g22, f22⟩ := hd 10 (by kernel_rfl) 22 rfl
     have t22 := Reg.slot_val g22
     clear g22
     go_simp
     exact hK _ _ (fun _ => ⟨_, rfl, f22⟩) (fun h => by cases h) HC.out trivial
   ·rintro f w1 hC hd hT
    obtain ⟨r5, g5, f5⟩ := hd 11 5 rfl
    have HC := Lib.hid (HG.out.trans (hC.mono HG.out.size))
    clear hC hd hT
    simp only [Reg.mixL, g5]
    go_wp2
    go_roundw
    case rel => exact ⟨k + 1, by omega, by go_num, ⟨_, rfl, by rw [HSN.out]; exact f5⟩, HC.out⟩
    case measure => simp [intOf]; omega
  ·obtain rfl : k = n := by omega
   go_wp2
   go_ret
   exact ⟨s, rfl, HF.out, HB.out⟩
end Go.Proofs.YtabccmobmppdnaaGreat
namespace Go.Proofs.YtabccmobmppdnaaGreat
open Go Fk Go.RowKit
set_option linter.unusedVariables false
set_option maxRecDepth 16000
theorem zero_comm (X : List C3) (a b : Int) : zeroAt (zeroAt X a) b = zeroAt (zeroAt X b) a := by
 unfold zeroAt
 by_cases h : a.toNat = b.toNat
 ·rw [h]
 ·exact List.set_comm _ _ h
theorem zero_idem (X : List C3) (a : Int) : zeroAt (zeroAt X a) a = zeroAt X a := by
 unfold zeroAt; rw [List.set_set]
theorem still_comm (L : List Int) : ∀ (X : List C3) (z : Int), zeroAt (stillF X L) z = stillF (zeroAt X z) L := by
 induction L with
 | nil => intro X z; rfl
 | cons a L ih =>
  intro X z
  show zeroAt (stillF (zeroAt X a) L) z = stillF (zeroAt (zeroAt X z) a) L
  rw [ih, zero_comm]
theorem still_idem (L : List Int) : ∀ (X : List C3), stillF (stillF X L) L = stillF X L := by
 induction L with
 | nil => intro X; rfl
 | cons a L ih =>
  intro X
  show stillF (zeroAt (stillF (zeroAt X a) L) a) L = stillF (zeroAt X a) L
  rw [still_comm, zero_idem, ih]
def posC (c : Option Nat) : Bool := ford .f32 c (some 0) == some .gt
theorem pos_order {x : Nat} {c : Option Nat} (h : FV .f32 x c) : (FloatKind.f32.format.order x 0 == some .gt) = posC c := by
 rw [ford_of h FV_0v]; rfl
def sqrC (L : List Int) (ys : List C3) (n : Nat) : Option Nat := innL (stillF ys L) (stillF ys L) n
def rayC (c : Bc) (L : List Int) (ys : List C3) (d : Option Nat) (n : Nat) : Option Nat := bif posC (sqrC L ys n) then fop .quo .f32 (innL (stillF ys L) (timT c L ys d) n) (sqrC L ys n) else some 0
def rayB (c : Bc) (L : List Int) (ys : List C3) (n x : Nat) : Bool := canB c L n x && posC (sqrC L ys n)
def rayR (c : Bc) (L : List Int) (ys : List C3) (d : Option Nat) (n x : Nat) : Option Nat := bif canB c L n x then rayC c L ys d n else some 0
theorem tim_idem (c : Bc) (L : List Int) (ys : List C3) (d : Option Nat) : timT c L (stillF ys L) d = timT c L ys d := by
 unfold timT; rw [still_idem]
set_option maxHeartbeats 4000000 in
theorem impl_rayleigh (B : Bd) (c : Bc) (ha la : Option Addr) (hl hc lc : Nat) (L : List Int) (a : Option Addr) (cap : Nat) (ys : List C3) (x s : Nat) (d : Option Nat) (fa : Option Addr) (fl fc : Nat) (w : World) (hP : IsVs w B.pa B.pl B.pc c.cs) (hE : EnS w la (ens c)) (hb : bodyB c = true) (hpl : c.cs.length = B.pl) (hL : IsIs w ha hl hc L) (hr : riseB B.pl L = true) (hv : IsVs w a B.pl cap ys) (hx : FV .f32 x d) :
  Calls Tryz.prog 79 #[StV B ha la hl hc (ens c).length lc x s fa fl fc, .slice a B.pl cap] w fun e w' => (∃ r, e = .returned (.tuple #[.float .f32 r, .bool (posC (sqrC L ys B.pl))]) ∧ FV .f32 r (rayC c L ys d B.pl)) ∧ Below w.heap.size w w' := by
 have us := Tryz.underlying109
 have uh := Tryz.underlying107
 have u := Tryz.underlying27
 have hm : B.pl ≤ 64 := by have := body64 hb; omega
 have HLT : Hid ((stillF ys L).length = B.pl) := Lib.hid (by rw [stillF_len]; exact hv.1)
 have BX := Lib.hid ((Bx.nil w).box (vs := StL B ha la hl hc (ens c).length lc x s fa fl fc) (t := 109))
 have HES : Hid (∀ w1, Below w.heap.size w w1 → EnS w1 la (ens c)) := Lib.hid (fun w1 h => hE.below h)
 have JF := Lib.hid (fun w1 h1 h2 => impl_free B ha la hl hc (ens c).length lc L a B.pl cap ys w1 h1 h2 hr (by omega))
 have JT := Lib.hid (fun va vc w1 h1 h2 h3 h4 => impl_times B c ha la hl hc lc L va vc (stillF ys L) x s d fa fl fc w1 h1 h2 hb hpl h3 hr h4 hx)
 rw [tim_idem] at JT
 have HTL : Hid ((timT c L ys d).length = B.pl) := Lib.hid (by rw [timT_len, hpl])
 have HP := Lib.hid hP
 have HL := Lib.hid hL
 have HV := Lib.hid hv
 have HR : Hid (rayC c L ys d B.pl = bif posC (sqrC L ys B.pl) then fop .quo .f32 (innL (stillF ys L) (timT c L ys d) B.pl) (sqrC L ys B.pl) else some 0) := Lib.hid rfl
 have HS : Hid (innL (stillF ys L) (stillF ys L) B.pl = sqrC L ys B.pl) := Lib.hid rfl
 clear hP hE hb hpl hL hr hv hx
 generalize rayC c L ys d B.pl = RC at *
 generalize sqrC L ys B.pl = SQ at *
 generalize stillF ys L = YF at *
 generalize timT c L ys d = T at *
 generalize ens c = es at *
 generalize es.length = n at *
 have HPO : Hid (∀ q, FV .f32 q SQ → (FloatKind.f32.format.order q 0 == some .gt) = posC SQ) := Lib.hid (fun q h => pos_order h)
 cases hp : posC SQ
 ·rw [hp] at HPO HR
  go_enter Tryz.func79, Tryz.ntmps79
  go_wp2_with fail
  have BX1 := Lib.hid BX.out
  change Calls _ _ _ (w.alloc (.cells (StL B ha la hl hc n lc x s fa fl fc).toArray 109)) _
  generalize (w.alloc (.cells (StL B ha la hl hc n lc x s fa fl fc).toArray 109)) = W at *
  clear BX
  refine (JF.out W (HV.out.below BX1.out.bel) (HL.out.below BX1.out.bel)).mono ?_
  rintro e w1 ⟨v, rfl, ⟨va, vc, rfl, hvs, _⟩, hB1⟩
  rw [HLT.out] at hvs ⊢
  have BX2 := Lib.hid (BX1.out.call hB1)
  have HVS := Lib.hid hvs
  clear hvs hB1 BX1
  go_wp2_with fail
  refine (impl_innerSum va va B.pl vc vc YF YF w1 HVS.out HVS.out).mono ?_
  rintro e w2 ⟨q, rfl, hq, hB2⟩
  rw [HS.out] at hq
  have ho := HPO.out _ hq
  have HQ := Lib.hid hq
  have BX3 := Lib.hid (BX2.out.call hB2)
  have HVS2 := Lib.hid (HVS.out.below hB2)
  clear hq hB2 BX2 HVS
  go_wp2
  go_ret2
  exact ⟨⟨0, rfl, by rw [HR.out]; exact FV_0v⟩, BX3.out.bel⟩
 ·rw [hp] at HPO HR
  go_enter Tryz.func79, Tryz.ntmps79
  go_wp2_with fail
  have BX1 := Lib.hid BX.out
  change Calls _ _ _ (w.alloc (.cells (StL B ha la hl hc n lc x s fa fl fc).toArray 109)) _
  generalize (w.alloc (.cells (StL B ha la hl hc n lc x s fa fl fc).toArray 109)) = W at *
  clear BX
  refine (JF.out W (HV.out.below BX1.out.bel) (HL.out.below BX1.out.bel)).mono ?_
  rintro e w1 ⟨v, rfl, ⟨va, vc, rfl, hvs, _⟩, hB1⟩
  rw [HLT.out] at hvs ⊢
  have BX2 := Lib.hid (BX1.out.call hB1)
  have HVS := Lib.hid hvs
  clear hvs hB1 BX1
  go_wp2_with fail
  refine (impl_innerSum va va B.pl vc vc YF YF w1 HVS.out HVS.out).mono ?_
  rintro e w2 ⟨q, rfl, hq, hB2⟩
  rw [HS.out] at hq
  have ho := HPO.out _ hq
  have HQ := Lib.hid hq
  have BX3 := Lib.hid (BX2.out.call hB2)
  have HVS2 := Lib.hid (HVS.out.below hB2)
  clear hq hB2 BX2 HVS
  have b0 := (BX3.out.mem (.head _)) 0 _ rfl
  have b1 := (BX3.out.mem (.head _)) 1 _ rfl
  have b2 := (BX3.out.mem (.head _)) 2 _ rfl
  have b3 := (BX3.out.mem (.head _)) 3 _ rfl
  have b4 := (BX3.out.mem (.head _)) 4 _ rfl
  have b5 := (BX3.out.mem (.head _)) 5 _ rfl
  have b6 := (BX3.out.mem (.head _)) 6 _ rfl
  have b7 := (BX3.out.mem (.head _)) 7 _ rfl
  have b8 := (BX3.out.mem (.head _)) 8 _ rfl
  have b9 := (BX3.out.mem (.head _)) 9 _ rfl
  have b10 := (BX3.out.mem (.head _)) 10 _ rfl
  have b11 := (BX3.out.mem (.head _)) 11 _ rfl
  have b12 := (BX3.out.mem (.head _)) 12 _ rfl
  have b13 := (BX3.out.mem (.head _)) 13 _ rfl
  go_wp2_with fail
  clear b0 b1 b2 b3 b4 b5 b6 b7 b8 b9 b10 b11 b12 b13
  refine (JT.out va vc _ (HP.out.below BX3.out.bel) (HES.out _ BX3.out.bel) (HL.out.below BX3.out.bel) HVS2.out).mono ?_
  rintro e w3 ⟨g, rfl, hS⟩
  have hG := hS.own.is
  rw [HTL.out] at hG
  have HG := Lib.hid hG
  have HVS3 := Lib.hid (HVS2.out.below hS.bel)
  have BX4 := Lib.hid (BX3.out.call hS.bel)
  clear hS hG HVS2
  go_wp2_with fail
  refine (impl_innerSum va _ B.pl vc _ YF T w3 HVS3.out HG.out).mono ?_
  rintro e w4 ⟨r, rfl, hr, hB4⟩
  have BX5 := Lib.hid (BX4.out.call hB4)
  have HRR := Lib.hid hr
  clear hB4 hr
  go_wp2
  go_ret2
  exact ⟨⟨_, rfl, by rw [HR.out]; exact FV_fR HRR.out HQ.out⟩, below_drewN BX5.out.bel _⟩
set_option maxHeartbeats 4000000 in
theorem impl_RayleighOf (B : Bd) (c : Bc) (a1 : Option Addr) (n1 c1 : Nat) (L1 : List Int) (a2 : Option Addr) (n2 c2 : Nat) (y2 : List C3) (x : Nat) (d : Option Nat) (w : World) (h : IsB w B c) (h1 : IsIs w a1 n1 c1 L1) (h2 : IsVs w a2 n2 c2 y2) (h3 : FV .f32 x d) (g3 : x < 4294967296) :
  Calls Tryz.prog 30 #[B.v, .slice a1 n1 c1, .slice a2 n2 c2, .float .f32 x] w fun e w' => (∃ r, e = .returned (.tuple #[.float .f32 r, .bool (rayB c L1 y2 n2 x)]) ∧ FV .f32 r (rayR c L1 y2 d n2 x)) ∧ Below w.heap.size w w' := by
 have uib := Tryz.underlying44
 have us := Tryz.underlying109
 have uv := Tryz.underlying36
 have bx1 := (Bx.nil w).box (vs := B.l) (t := 44)
 have bx2 := bx1.box (vs := [.slice a2 n2 c2]) (t := 36)
 simp at bx2
 have BX := Lib.hid bx2
 have hpl : c.cs.length = B.pl := h.1.1
 have H := Lib.hid h
 have HL := Lib.hid h1
 have HV := Lib.hid h2
 have JS := Lib.hid (fun la lc w1 hb hi hr => stiff_all B c a1 n1 c1 L1 x la lc [(a2, n2, c2)] w1 hb hi g3 hr (by simp))
 rw [stf_can] at JS
 have JT : Hid (canB c L1 n2 x = true → n2 = B.pl ∧ ∀ (la : Option Addr) (lc : Nat) (w1 : World), IsVs w1 B.pa B.pl B.pc c.cs → EnS w1 la (ens c) → IsIs w1 a1 n1 c1 L1 → IsVs w1 a2 B.pl c2 y2 → Calls Tryz.prog 79 #[StV B a1 la n1 c1 (ens c).length lc x 0 none 0 0, .slice a2 B.pl c2] w1 fun e w' => (∃ r, e = .returned (.tuple #[.float .f32 r, .bool (posC (sqrC L1 y2 n2))]) ∧ FV .f32 r (rayC c L1 y2 d n2)) ∧ Below w1.heap.size w1 w') := Lib.hid (fun hc => by
  obtain ⟨q1, q2, q3, q4⟩ := can_parts hc
  exact ⟨q4.trans hpl, fun la lc w1 k1 k2 k3 k4 => by rw [q4.trans hpl]; exact impl_rayleigh B c a1 la n1 c1 lc L1 a2 c2 y2 x 0 d none 0 0 w1 k1 k2 q1 hpl k3 (hpl ▸ q2) k4 h3⟩)
 unfold rayB rayR
 clear h h1 h2 h3 bx1 bx2 hpl
 generalize canB c L1 n2 x = cb at *
 generalize rayC c L1 y2 d n2 = RC at *
 generalize posC (sqrC L1 y2 n2) = pb at *
 generalize ens c = es at *
 go_enter Tryz.func30, Tryz.ntmps30
 go_wp2_with fail
 generalize hW : (w.alloc (BoxB B 44)).alloc (.cells #[.slice a2 n2 c2] 36) = W
 have BX1 : Hid (Bx w [(w.heap.size + 1, [.slice a2 n2 c2]), (w.heap.size, B.l)] W) := Lib.hid (hW ▸ BX.out)
 clear BX hW
 have HRW : Hid (RowsS W (some ⟨w.heap.size + 1, 0, none⟩) [(a2, n2, c2)]) := Lib.hid (fun j hj => by
  obtain rfl : j = 0 := by simpa using hj
  exact ⟨_, rfl, (BX1.out.mem (.head _)) 0 _ rfl⟩)
 refine (JS.out (some ⟨w.heap.size + 1, 0, none⟩) _ W (H.out.below BX1.out.bel) (HL.out.below BX1.out.bel) HRW.out).mono ?_
 rintro e w1 ⟨⟨hc, ea, ec, rfl, hE⟩ | ⟨hc, rfl⟩, hB1⟩
 ·subst hc
  obtain ⟨rfl, hJ⟩ := JT.out rfl
  have BX2 := Lib.hid (BX1.out.call hB1)
  have BX3 := Lib.hid (BX2.out.box (vs := StL B a1 ea n1 c1 es.length ec x 0 none 0 0) (t := 109))
  have hX : Below w1.heap.size w1 (w1.alloc (.cells (StL B a1 ea n1 c1 es.length ec x 0 none 0 0).toArray 109)) := (Below.refl _ _).alloc (Nat.le_refl _) _
  have HE := Lib.hid (hE.ens.below hX)
  have HJ := Lib.hid hJ
  clear hE hB1 hX hJ JS JT HRW BX1
  go_wp2_with fail
  change Calls _ _ _ (w1.alloc (.cells (StL B a1 ea n1 c1 es.length ec x 0 none 0 0).toArray 109)) _
  generalize (w1.alloc (.cells (StL B a1 ea n1 c1 es.length ec x 0 none 0 0).toArray 109)) = W2 at *
  refine (HJ.out ea ec W2 (H.out.below BX3.out.bel).1 HE.out (HL.out.below BX3.out.bel) (HV.out.below BX3.out.bel)).mono ?_
  rintro e w3 ⟨⟨r, rfl, hr⟩, hB3⟩
  have HR := Lib.hid hr
  have BX4 := Lib.hid (BX3.out.call hB3)
  clear hB3 hr
  go_wp2
  go_ret2
  exact ⟨⟨_, rfl, HR.out⟩, BX4.out.bel⟩
 ·subst hc
  have BX2 := Lib.hid (BX1.out.call hB1)
  have BX3 := Lib.hid (BX2.out.box (vs := Z14) (t := 109))
  clear hB1 JS JT HRW BX1
  go_wp2
  go_ret2
  exact ⟨⟨0, rfl, FV_0v⟩, BX3.out.bel⟩
end Go.Proofs.YtabccmobmppdnaaGreat
namespace Go.Proofs.YtabccmobmppdnaaGreat
open Go Fk Go.RowKit
set_option linter.unusedVariables false
set_option maxRecDepth 8000
theorem l03Positive (x : Nat) (w : World) (hx : x < 4294967296) :
  Calls Tryz.prog 100 #[.float .f32 x] w fun e w' => e = .returned (.bool (sizeB x)) ∧ ∃ n, w' = w.drewN n := by
 have u := Tryz.underlying27
 unfold sizeB
 have HJ := Lib.hid (fun w => l01Finite x w hx)
 generalize finB x = f at *
 cases f
 ·go_enter Tryz.func100, Tryz.ntmps100
  go_wp2_with (go_at_call 137; refine (HJ.out _).mono ?_; rintro e w1 ⟨rfl, n, hw⟩; rw [hw]; clear hw w1)
  go_ret
  exact ⟨rfl, _, rfl⟩
 ·go_enter Tryz.func100, Tryz.ntmps100
  go_wp2_with (go_at_call 137; refine (HJ.out _).mono ?_; rintro e w1 ⟨rfl, n, hw⟩; rw [hw]; clear hw w1)
  go_ret
  exact ⟨rfl, _, rfl⟩
end Go.Proofs.YtabccmobmppdnaaGreat
namespace Go.Proofs.YtabccmobmppdnaaGreat
open Go Fk Go.RowKit
set_option linter.unusedVariables false
set_option maxRecDepth 16000
set_option maxHeartbeats 4000000 in
theorem l09Freed (fa : Option Addr) (fl fc : Nat) (ys : List C3) (ha : Option Addr) (hl hc : Nat) (L : List Int) (w : World) (hf : IsVs w fa fl fc ys) (hL : IsIs w ha hl hc L) (hr : riseB fl L = true) (hb : fl ≤ 1048576) :
  Calls Tryz.prog 66 #[.slice fa fl fc, .slice ha hl hc] w fun e w' => ∃ v, e = .returned v ∧ RV w.heap.size w' v (stillF ys L) ∧ Below w.heap.size w w' := by
 have uv := Tryz.underlying42
 obtain ⟨i0, hi, hz0, hz1, hz2⟩ := info_parts infoV
 obtain ⟨xs, x1, x2, x3, x4⟩ := vs_cells hf
 have h0 := hf.2.2.2.1
 have hfl := hf.1
 have hhl := hL.1
 have X2 := Lib.hid x2
 have X3 := Lib.hid x3
 have X4 := Lib.hid x4
 have X1 := Lib.hid x1
 have HL := Lib.hid hL
 have HR := Lib.hid hr
 have HPA := Lib.hid h0
 have hm : hl ≤ 9223372036854775807 := by have h1 := hL.2.1; have h2 := hL.2.2.1; unfold maxLen at h2; omega
 clear x1 x2 x3 x4 hf hL hr h0
 have HST := Lib.hid (World.ownsRow_lit (base := w.heap.size) (e := 42) (size := 3) w #[] 0 (Nat.le_refl _) (by decide) rfl)
 go_enter Tryz.func66, Tryz.ntmps66
 go_wp2_with (at_builtin; go_loud (refine wpList_append_opt _ rfl _ _ 36 rfl w.heap.size 42 i0 (.agg #[.float .f32 0, .float .f32 0, .float .f32 0]) 3 12 Tryz.underlying36 hi hz0 hz1 hz2 rfl (by decide) _ 0 [] rfl HST.out fa fl fc xs rfl HPA.out X1.out ?c2 ?c3 ?c4 ?c5 ?c6 ?_))
 case c2 =>
  intro ad had j u hu
  have := X2.out ad had j u hu
  rw [World.cell?_alloc_lt (h := World.block_lt_of_cell? _ _ this)]
  exact this
 case c3 => exact X3.out
 case c4 => unfold maxLen; omega
 case c5 => omega
 ·intro v w1 hown hgrow
  have hown' : w1.ownsRow w.heap.size 42 3 v fl xs := by simpa using hown
  have hB1 : Below w.heap.size w w1 := ((Below.refl _ _).alloc (Nat.le_refl _) _).grown hgrow (by simp) (fun k hk => by simp [Value.ownBlock] at hk; omega)
  have HB := Lib.hid hB1
  rcases own_block hown' X4.out hfl with ⟨rfl, hz⟩ | ⟨g, cap, rfl, hgb, hc1, hc2, hov⟩
  ·have hL0 : L = [] := by have := HR.out; rw [hz] at this; exact rise_nil this
   have hl0 : hl = 0 := by rw [← hhl, hL0]; rfl
   have hnil : stillF ys L = [] := List.eq_nil_of_length_eq_zero (by rw [stillF_len]; omega)
   subst hl0
   clear hown hgrow hown' hB1
   go_wp2
   refine wp_loop_rounds 1 ?_
   rw [rounds_succ]
   go_wp2
   go_ret
   exact ⟨_, rfl, by rw [hnil]; exact RV.nil _ _, HB.out⟩
  ·have S1 : Hid (St w ([] : List (Nat × List Value)) g (stillF ys (L.take 0)) w1) := Lib.hid ⟨hB1, fun b l hm => absurd hm (by simp), hgb, hov⟩
   have HX := Lib.hid hfl
   have HC := Lib.hid (And.intro hc1 hc2)
   clear hown hgrow hown' hB1 hov
   generalize hpl : fl = pl at *
   go_wp2
   go_loopw [12] (fun i w' => ∃ k : Nat, k ≤ hl ∧ i = .int .i64 k ∧ Aside (St w ([] : List (Nat × List Value)) g (stillF ys (L.take k)) w')) (fun i _ => hl - (intOf i).toNat)
   case atStart => exact ⟨0, Nat.zero_le _, rfl, S1.out⟩
   case round =>
    obtain ⟨k, hk, rfl, hA⟩ := hrel
    have S2 := Lib.hid hA.out
    clear hA S1
    by_cases hlt : k < hl
    ·obtain ⟨b, o, rfl, hcell⟩ := (HL.out.below S2.out.bel).some (by omega)
     have hc0 := hcell k hlt
     have hk0 : (0 : Int) ≤ (k : Int) := by omega
     have hk1 : (k : Int) < (hl : Int) := by omega
     have hin := rise_in HR.out (k := k) (by omega)
     have HSN := Lib.hid (stillF_snoc ys L k (by omega))
     clear hcell
     generalize L.getD k 0 = z at *
     have hz := of_decide_eq_true hin
     obtain ⟨j, rfl⟩ : ∃ j : Nat, z = (j : Int) := ⟨z.toNat, by omega⟩
     have hlx : (stillF ys (L.take k)).length = pl := by rw [stillF_len]; exact HX.out
     have hj : j < (stillF ys (L.take k)).length := by omega
     obtain ⟨u0, u1, u2, ⟨z0, z1, z2⟩, fu⟩ := S2.out.own.at hj
     have k0' := S2.out.own.2.1 (j * 3)
     have k1' := S2.out.own.2.1 (j * 3 + 1)
     have k2' := S2.out.own.2.1 (j * 3 + 2)
     have hj0 : (0 : Int) ≤ (j : Int) := by omega
     have hj1 : (j : Int) < (pl : Int) := by omega
     have S3 := Lib.hid (S2.out.put hj fz0)
     have hzz : zeroAt (stillF ys (L.take k)) (j : Int) = (stillF ys (L.take k)).set j (some 0, some 0, some 0) := rfl
     rw [← hzz, ← HSN.out] at S3
     clear hin hz hlx hj fu hzz HSN
     go_wp2
     go_roundw
     case rel => exact ⟨k + 1, by omega, by go_num, S3.out⟩
     case measure => simp [intOf]; omega
    ·obtain rfl : k = hl := by omega
     have S9 : Hid (St w ([] : List (Nat × List Value)) g (stillF ys L) wr) := Lib.hid (by have := S2.out; rwa [List.take_of_length_le (by omega)] at this)
     have hl2 : (stillF ys L).length = pl := by rw [stillF_len]; exact HX.out
     have hRV := RV.block (base := w.heap.size) (cap := cap) S9.out.2.2.1 (by rw [hl2]; exact HC.out.1) HC.out.2 S9.out.own
     rw [hl2] at hRV
     have HRV := Lib.hid hRV
     clear hRV hl2
     go_wp2
     go_ret
     exact ⟨_, rfl, HRV.out, S9.out.bel⟩
set_option maxHeartbeats 4000000 in
theorem l09Can (pb : Nat) (B : Bd) (c : Bc) (a1 : Option Addr) (n1 c1 : Nat) (L : List Int) (a2 : Option Addr) (n2 c2 : Nat) (x : Nat) (w : World) (A : At w pb B.l) (h : IsB w B c) (hL : IsIs w a1 n1 c1 L) (hx' : x < 4294967296) (hn : n2 ≤ 9223372036854775807) :
  Calls Tryz.prog 64 #[.pointer (some ⟨pb, 0, none⟩), .slice a1 n1 c1, .slice a2 n2 c2, .float .f32 x] w fun e w' => e = .returned (.bool (canB c L n2 x)) ∧ ∃ n, w' = w.drewN n := by
 have uib := Tryz.underlying44
 have uim := Tryz.underlying40
 have hpl : c.cs.length = B.pl := h.1.1
 have hm : B.pl ≤ 9223372036854775807 := by have h1 := h.1.2.1; have h2 := h.1.2.2.1; unfold maxLen at h2; omega
 have J := Lib.hid (l03Is pb B c w A h)
 have JH : Hid (∀ n, Calls Tryz.prog 116 #[.pointer (some ⟨pb, 0, none⟩), .slice a1 n1 c1] (w.drewN n) fun e w' => e = .returned (.bool (riseB B.pl L)) ∧ ∃ m, w' = (w.drewN n).drewN m) := Lib.hid (fun n => l05Held pb B c a1 n1 c1 L (w.drewN n) ((A.below (below_drewN (Below.refl _ _) n)) 0 _ rfl) hm (hL.below (below_drewN (Below.refl _ _) n)))
 have JP := Lib.hid (fun w1 => l03Positive x w1 hx')
 have k0 := A 0 _ rfl
 unfold canB heldB
 rw [hpl]
 clear h hL A hpl
 have he : ((n2 : Int) == (B.pl : Int)) = decide (n2 = B.pl) := by
  by_cases h : n2 = B.pl
  ·subst h; simp
  ·rw [decide_eq_false h]; simp; omega
 generalize decide (n2 = B.pl) = eb at *
 generalize bodyB c = bb at *
 generalize riseB B.pl L = rb at *
 generalize sizeB x = sb at *
 cases bb <;> cases rb <;> cases eb <;> cases sb
 all_goals
  go_enter Tryz.func64, Tryz.ntmps64
  go_wp2_with (first
   | (go_at_call 99; refine J.out.mono ?_; rintro e w1 ⟨rfl, n, hw⟩; rw [hw]; clear hw w1)
   | (go_at_call 116; refine (JH.out _).mono ?_; rintro e w1 ⟨rfl, n', hw⟩; rw [hw]; clear hw w1)
   | (go_at_call 100; refine (JP.out _).mono ?_; rintro e w1 ⟨rfl, n', hw⟩; rw [hw]; clear hw w1))
  go_ret
  exact ⟨rfl, _, by first | rfl | exact (by simp; rfl)⟩
end Go.Proofs.YtabccmobmppdnaaGreat
namespace Go.Proofs.YtabccmobmppdnaaGreat
open Go Fk Go.RowKit
set_option linter.unusedVariables false
set_option maxRecDepth 16000
def OwV (base : Nat) (w : World) (v : Value) (k : Nat) (G : Nat → C3) : Prop := ∃ xs, w.ownsRow base 42 3 v k xs ∧ PVf k xs G
theorem OwV.up {base : Nat} {w w' : World} {v : Value} {k : Nat} {G : Nat → C3} (h : OwV base w v k G) (hB : Below w.heap.size w w') : OwV base w' v k G := by
 obtain ⟨xs, h1, h2⟩ := h
 exact ⟨xs, owns_up h1 hB, h2⟩
theorem OwV.lit {w : World} {G : Nat → C3} (e : World) (he : e = w.alloc (.cells #[] 42)) : OwV w.heap.size e (.slice (some ⟨w.heap.size, 0, none⟩) 0 0) 0 G := by
 subst he
 exact ⟨[], World.ownsRow_lit (base := w.heap.size) (e := 42) (size := 3) w #[] 0 (Nat.le_refl _) (by decide) rfl, fun j hj => absurd hj (by omega)⟩
theorem PVf.app {k p q r : Nat} {xs : List Value} {G : Nat → C3} (h : PVf k xs G) (hl : xs.length = k * 3) (hf : F3 p q r (G k)) : PVf (k + 1) (xs ++ [.float .f32 p, .float .f32 q, .float .f32 r]) G := fun j hj => by
 by_cases hjk : j = k
 ·subst hjk
  refine ⟨p, q, r, ?_, ?_, ?_, hf⟩
  ·rw [List.getElem?_append_right (by omega), hl]; simp
  ·rw [List.getElem?_append_right (by omega), hl, show j * 3 + 1 - j * 3 = 1 by omega]; rfl
  ·rw [List.getElem?_append_right (by omega), hl, show j * 3 + 2 - j * 3 = 2 by omega]; rfl
 ·obtain ⟨p', q', r', e0, e1, e2, f⟩ := h j (by omega)
  exact ⟨p', q', r', by rw [List.getElem?_append_left (by omega)]; exact e0, by rw [List.getElem?_append_left (by omega)]; exact e1, by rw [List.getElem?_append_left (by omega)]; exact e2, f⟩
theorem OwV.rv {base : Nat} {w : World} {v : Value} {k : Nat} {G : Nat → C3} (h : OwV base w v k G) : RV base w v (mkG G k k) := by
 obtain ⟨xs, h1, h2⟩ := h
 have hp : PV k xs (mkG G k k) := fun j hj => by
  have e : (mkG G k k).getD j c0 = G j := by simp [mkG, List.getD, hj]
  rw [e]; exact h2 j hj
 rcases own_block h1 hp (mkG_len _ _ _) with ⟨rfl, hz⟩ | ⟨g, cap, rfl, hb, hc1, hc2, hO⟩
 ·subst hz
  exact RV.nil _ _
 ·have := RV.block (base := base) (cap := cap) hb (by rw [mkG_len]; exact hc1) hc2 hO
  rwa [mkG_len] at this
theorem ens_mv (c : Bc) (ys : List C3) (d : Option Nat) : ens (mvC c ys d) = ens c := by
 have hl : (mvC c ys d).cs.length = c.cs.length := mkM_len _ _ _ _ _
 have hg : hgT (mvC c ys d).cs (mvC c ys d).ts = hgT c.cs c.ts := by
  unfold hgT validB
  rw [hl]
  rfl
 unfold ens
 rw [hg]
 rfl
theorem frc_mv (c : Bc) (ys : List C3) (d : Option Nat) (n : Nat) (hn : n = c.cs.length) : addsF (mvC c ys d).cs (List.replicate n (some 0, some 0, some 0)) (ens (mvC c ys d)) = frcT c ys d := by
 rw [ens_mv, hn]
 rfl
set_option maxHeartbeats 8000000 in
theorem l09Times (pb : Nat) (B : Bd) (c : Bc) (ha : Option Addr) (hl hc : Nat) (L : List Int) (a : Option Addr) (cap : Nat) (ys : List C3) (x : Nat) (d : Option Nat) (w : World) (A : At w pb B.l) (h : IsB w B c) (hb : bodyB c = true) (hL : IsIs w ha hl hc L) (hr : riseB B.pl L = true) (hv : IsVs w a B.pl cap ys) (hx : FV .f32 x d) :
  Calls Tryz.prog 65 #[.pointer (some ⟨pb, 0, none⟩), .slice ha hl hc, .slice a B.pl cap, .float .f32 x] w fun e w' => ∃ v, e = .returned v ∧ RV w.heap.size w' v (stillF (mkG (timF c ys d) B.pl B.pl) L) ∧ Below w.heap.size w w' := by
 have uv := Tryz.underlying42
 have u := Tryz.underlying27
 obtain ⟨i0, hi, hz0, hz1, hz2⟩ := info_parts infoV
 have hpl : c.cs.length = B.pl := h.1.1
 have HPL : Hid (B.pl ≤ 64) := Lib.hid (by have := body64 hb; omega)
 have hm : B.pl ≤ 9223372036854775807 := by have := HPL.out; omega
 obtain ⟨q1, q2, q3, q4, q5⟩ := body_sizes hb
 have hln := h.lens
 have JM := Lib.hid (fun (x' : Nat) (d' : Option Nat) (hx' : FV .f32 x' d') (w1 : World) (hB : Below w.heap.size w w1) => l03Moved pb B c a cap ys x' d' w1 (A.below hB) (h.below hB) (hv.below hB) hx' (by omega) (by omega) (fun k hk => by have := q5 k (by omega); omega) (by omega) (by omega))
 have JF := Lib.hid (fun (d' : Option Nat) (B' : Bd) (b' : Nat) (w1 : World) (k1 : At w1 b' B'.l) (k2 : IsB w1 B' (mvC c ys d')) => l03Forces b' B' (mvC c ys d') w1 k1 k2 (mvC_body ys d' hb))
 have JE : Hid (∀ (d' : Option Nat) (B' : Bd) (w1 : World), IsB w1 B' (mvC c ys d') → B'.pl = B.pl ∧ addsF (mvC c ys d').cs (List.replicate B.pl (some 0, some 0, some 0)) (ens (mvC c ys d')) = frcT c ys d') := Lib.hid (fun d' B' w1 hI => ⟨by have h1 : (mvC c ys d').cs.length = B'.pl := hI.1.1; have h2 : (mvC c ys d').cs.length = c.cs.length := mkM_len _ _ _ _ _; omega, frc_mv c ys d' B.pl hpl.symm⟩)
 have JR := Lib.hid (fun va vc zs w1 k1 k2 => l09Freed va B.pl vc zs ha hl hc L w1 k1 k2 hr (by have := HPL.out; omega))
 have HL := Lib.hid hL
 have HX := Lib.hid hx
 have HNX : Hid (FV .f32 (Op.negFloat .f32 x) (negC32 d)) := Lib.hid (FV_neg32 hx)
 have HL1 : Hid ((frcT c ys (negC32 d)).length = B.pl) := Lib.hid (by rw [frcT_len, hpl])
 have HL2 : Hid ((frcT c ys d).length = B.pl) := Lib.hid (by rw [frcT_len, hpl])
 have HTF : Hid (∀ j, timF c ys d j = scaleC' (difC ((frcT c ys (negC32 d)).getD j c0) ((frcT c ys d).getD j c0)) (shrC d)) := Lib.hid (fun j => rfl)
 have E1 := Lib.hid (fun (B' : Bd) w1 (k : IsB w1 B' (mvC c ys (negC32 d))) => JE.out (negC32 d) B' w1 k)
 have E2 := Lib.hid (fun (B' : Bd) w1 (k : IsB w1 B' (mvC c ys d)) => JE.out d B' w1 k)
 clear h hv hL hx A q1 q2 q3 q4 q5 hln hpl hb JE hr
 generalize timF c ys d = TF at *
 generalize frcT c ys (negC32 d) = X1 at *
 generalize frcT c ys d = X2 at *
 go_enter Tryz.func65, Tryz.ntmps65
 go_wp2_with fail
 refine (JM.out _ _ HNX.out w (Below.refl _ _)).mono ?_
 rintro e w1 ⟨B1, rfl, hI1, _, hB1⟩
 have BX1 := Lib.hid ((Bx.nil w).call hB1)
 have BX2 := Lib.hid (BX1.out.box (vs := B1.l) (t := 44))
 have hX : Below w1.heap.size w1 (w1.alloc (BoxB B1 44)) := (Below.refl _ _).alloc (Nat.le_refl _) _
 have I1 := Lib.hid (hI1.below hX)
 clear hI1 hB1 hX BX1
 go_wp2_with fail
 change Calls _ _ _ (w1.alloc (BoxB B1 44)) _
 have BX3 : Hid (Bx w [(w1.heap.size, B1.l)] (w1.alloc (BoxB B1 44))) := BX2
 clear BX2
 generalize (w1.alloc (BoxB B1 44)) = W1 at *
 generalize w1.heap.size = S1 at *
 refine (JM.out _ _ HX.out W1 BX3.out.bel).mono ?_
 rintro e w2 ⟨B2, rfl, hI2, _, hB2⟩
 have BX4 := Lib.hid (BX3.out.call hB2)
 have BX5 : Hid (Bx w [(w2.heap.size, B2.l), (S1, B1.l)] (w2.alloc (BoxB B2 44))) := Lib.hid (BX4.out.box (vs := B2.l) (t := 44))
 have hX : Below w2.heap.size w2 (w2.alloc (BoxB B2 44)) := (Below.refl _ _).alloc (Nat.le_refl _) _
 have I2 := Lib.hid (hI2.below hX)
 have I1' := Lib.hid ((I1.out.below hB2).below hX)
 clear hI2 hB2 hX BX4 BX3 I1
 go_wp2_with fail
 change Calls _ _ _ (w2.alloc (BoxB B2 44)) _
 generalize (w2.alloc (BoxB B2 44)) = W2 at *
 generalize w2.heap.size = S2 at *
 refine (JF.out _ B1 S1 W2 (BX5.out.mem (.tail _ (.head _))) I1'.out).mono ?_
 rintro e w3 ⟨ga, rfl, hS⟩
 obtain ⟨hp1, hq1⟩ := E1.out B1 _ I1'.out
 rw [hp1, hq1] at hS
 rw [hp1]
 have OA := Lib.hid hS.own
 have BX6 := Lib.hid (BX5.out.call hS.bel)
 have I2' := Lib.hid (I2.out.below hS.bel)
 clear hS hp1 hq1 BX5 I2 I1'
 go_wp2_with fail
 refine (JF.out _ B2 S2 w3 (BX6.out.mem (.head _)) I2'.out).mono ?_
 rintro e w4 ⟨gb, rfl, hS⟩
 obtain ⟨hp2, hq2⟩ := E2.out B2 _ I2'.out
 rw [hp2, hq2] at hS
 rw [hp2]
 have OB := Lib.hid hS.own
 have OA' := Lib.hid (OA.out.below hS.bel)
 have BX7 := Lib.hid (BX6.out.call hS.bel)
 clear hS hp2 hq2 BX6 I2' OA
 have HSH := Lib.hid (fun w8 w9 : World => (show FV .f32 (fR .quo .f32 1065353216 (fR .mul .f32 1073741824 x w8) w9) (shrC d) from FV_fR one_FV32 (FV_fR two_FV HX.out)))
 go_wp2_with fail
 generalize hsh : fR BinOp.quo FloatKind.f32 1065353216 (fR BinOp.mul FloatKind.f32 1073741824 x w4) (w4.drewN (fN BinOp.mul FloatKind.f32 1073741824 x)) = sh at *
 have FSH : Hid (FV .f32 sh (shrC d)) := Lib.hid (hsh ▸ HSH.out w4 _)
 generalize (fN BinOp.mul FloatKind.f32 1073741824 x + fN BinOp.quo FloatKind.f32 1065353216 (fR BinOp.mul FloatKind.f32 1073741824 x w4)) = nd
 have hA : Below w4.heap.size w4 (w4.alloc (.cells #[] 42)) := (Below.refl _ _).alloc (Nat.le_refl _) _
 have B0 : Hid (Below w4.heap.size w4 ((w4.alloc (.cells #[] 42)).drewN nd)) := Lib.hid (below_drewN hA nd)
 have V0 : Hid (OwV w4.heap.size ((w4.alloc (.cells #[] 42)).drewN nd) (.slice (some ⟨w4.heap.size, 0, none⟩) 0 0) 0 TF) := Lib.hid ((OwV.lit _ rfl).up (below_drewN (Below.refl _ _) nd))
 clear HSH hsh hA
 generalize ((w4.alloc (.cells #[] 42)).drewN nd) = W5 at *
 generalize (Value.slice (some ⟨w4.heap.size, 0, none⟩) 0 0) = u0 at *
 go_loopw [33, 14] (fun i u14 w' => ∃ k : Nat, k ≤ B.pl ∧ i = .int .i64 k ∧ Aside (OwV w4.heap.size w' u14 k TF ∧ Below w4.heap.size w4 w')) (fun i _ _ => B.pl - (intOf i).toNat)
 case atStart => exact ⟨0, Nat.zero_le _, rfl, V0.out, B0.out⟩
 case round =>
  obtain ⟨k, hk, rfl, hA⟩ := hrel
  have VK := Lib.hid hA.out.1
  have BK := Lib.hid hA.out.2
  clear hA V0 B0
  by_cases hlt : k < B.pl
  ·obtain ⟨p', q', t', ⟨c0', c1', c2'⟩, fA⟩ := (OA'.out.below BK.out).at (k := k) (by rw [HL1.out]; exact hlt)
   obtain ⟨p2, q2, t2', ⟨d0', d1', d2'⟩, fB⟩ := (OB.out.below BK.out).at (k := k) (by rw [HL2.out]; exact hlt)
   have hk0 : (0 : Int) ≤ (k : Int) := by omega
   have hk1 : (k : Int) < (B.pl : Int) := by omega
   have HTK := Lib.hid (HTF.out k)
   have FA := Lib.hid fA
   have FB := Lib.hid fB
   have CA := Lib.hid (And.intro c0' (And.intro c1' c2'))
   have CB := Lib.hid (And.intro d0' (And.intro d1' d2'))
   have HKL := Lib.hid hlt
   clear fA fB c0' c1' c2' d0' d1' d2'
   generalize X1.getD k c0 = C1 at *
   generalize X2.getD k c0 = C2 at *
   go_wp2_with fail
   refine Reg5.wp_region_mix (m := 13) (C := fun w' => Below wr.heap.size wr w') (D := fun w' => Below w4.heap.size w4 w') (G := fun w1 w2 => Below w1.heap.size w1 w2) (G' := fun w1 w2 => w2 = w1)
    (R := fun i v w' => match i with
     | 0 => v = u14
     | 1 => v = .slice (some ⟨ga, 0, none⟩) B.pl B.pl
     | 2 => v = .int .i64 k
     | 3 => v = .pointer (some ⟨ga, k * 3, none⟩)
     | 4 => v = vv p' q' t'
     | 5 => v = .slice (some ⟨gb, 0, none⟩) B.pl B.pl
     | 6 => v = .int .i64 k
     | 7 => v = .pointer (some ⟨gb, k * 3, none⟩)
     | 8 => v = vv p2 q2 t2'
     | 9 => ∃ y z u, v = vv y z u ∧ F3 y z u (difC C1 C2)
     | 10 => v = .float .f32 sh
     | 11 => ∃ y z u, v = vv y z u ∧ F3 y z u (scaleC' (difC C1 C2) (shrC d))
     | 12 => ∃ b y z u', v = .slice (some ⟨b, 0, none⟩) 1 1 ∧ (w'.cell? ⟨b, 0, none⟩ = some (.float .f32 y) ∧ w'.cell? ⟨b, 1, none⟩ = some (.float .f32 z) ∧ w'.cell? ⟨b, 2, none⟩ = some (.float .f32 u')) ∧ F3 y z u' (scaleC' (difC C1 C2) (shrC d))
     | 13 => OwV w4.heap.size w' v (k + 1) TF
     | 14 => OwV w4.heap.size w' v (k + 1) TF
     | _ => True) (T := fun _ _ _ => True) [false, false, false, false, false, false, false, false, false, false, false, false, false, false, true, false, false, false, false, false, false, false, false, false, false, false, false, false, false, false, false, false, false, false, false, false, true, true, true, true, true, true, true, true, true, true, true, true, true, true, false, false, false, false]
    (by kernel_rfl) (by kernel_rfl) (by kernel_rfl) (by kernel_rfl) ?_ ?_ (below_drewN (Below.refl _ _) 1) ?_ ?_
   ·intro j v wa wb hjm _ hG hR
    match j with
    | 0 => exact hR
    | 1 => exact hR
    | 2 => exact hR
    | 3 => exact hR
    | 4 => exact hR
    | 5 => exact hR
    | 6 => exact hR
    | 7 => exact hR
    | 8 => exact hR
    | 9 => exact hR
    | 10 => exact hR
    | 11 => exact hR
    | 12 => obtain ⟨b, y, z, u', e, ⟨k0, k1, k2⟩, hf⟩ := hR; exact ⟨b, y, z, u', e, ⟨cell_below hG k0, cell_below hG k1, cell_below hG k2⟩, hf⟩
    | j + 13 => exact absurd hjm (by omega)
   ·intro j v wa wb _ _ hG hR
    rw [hG]; exact hR
   ·refine ⟨?_, ?_, ?_, ?_, ?_, ?_, ?_, ?_, ?_, ?_, ?_, ?_, ?_, ?_, ?_, trivial⟩
    ·refine Reg5.Obl.early rfl rfl ?_
     rintro av wq HC hx hd K hK
     replace HC := Lib.hid HC
     have t36 : av.tmps[14]?.getD undef = u14 := Reg.slot_val (hx 14 (by kernel_rfl))
     go_simp
     exact hK _ _ rfl HC.out (Below.refl _ _)
    ·refine Reg5.Obl.early rfl rfl ?_
     rintro av wq HC hx hd K hK
     replace HC := Lib.hid HC
     have t11 : av.tmps[11]?.getD undef = .slice (some ⟨ga, 0, none⟩) B.pl B.pl := Reg.slot_val (hx 11 (by kernel_rfl))
     go_simp
     exact hK _ _ rfl HC.out (Below.refl _ _)
    ·refine Reg5.Obl.early rfl rfl ?_
     rintro av wq HC hx hd K hK
     replace HC := Lib.hid HC
     have t15 : av.tmps[15]?.getD undef = .int .i64 k := Reg.slot_val (hx 15 (by kernel_rfl))
     go_simp
     exact hK _ _ rfl HC.out (Below.refl _ _)
    ·refine Reg5.Obl.early rfl rfl ?_
     rintro av wq HC hx hd K hK
     replace HC := Lib.hid HC
     have t37 : av.tmps[37]?.getD undef = .slice (some ⟨ga, 0, none⟩) B.pl B.pl := Reg.slot_val (hd 1 (by kernel_rfl) 37 rfl)
     have t38 : av.tmps[38]?.getD undef = .int .i64 k := Reg.slot_val (hd 2 (by kernel_rfl) 38 rfl)
     go_simp
     exact hK _ _ (by first | rfl | simp) HC.out (Below.refl _ _)
    ·refine Reg5.Obl.early rfl rfl ?_
     rintro av wq HC hx hd K hK
     replace HC := Lib.hid HC
     have t39 : av.tmps[39]?.getD undef = .pointer (some ⟨ga, k * 3, none⟩) := Reg.slot_val (hd 3 (by kernel_rfl) 39 rfl)
     have y0 := cell_below HC.out CA.out.1
     have y1 := cell_below HC.out CA.out.2.1
     have y2 := cell_below HC.out CA.out.2.2
     go_simp
     exact hK _ _ rfl HC.out (Below.refl _ _)
    ·refine Reg5.Obl.early rfl rfl ?_
     rintro av wq HC hx hd K hK
     replace HC := Lib.hid HC
     have t12 : av.tmps[12]?.getD undef = .slice (some ⟨gb, 0, none⟩) B.pl B.pl := Reg.slot_val (hx 12 (by kernel_rfl))
     go_simp
     exact hK _ _ rfl HC.out (Below.refl _ _)
    ·refine Reg5.Obl.early rfl rfl ?_
     rintro av wq HC hx hd K hK
     replace HC := Lib.hid HC
     have t15 : av.tmps[15]?.getD undef = .int .i64 k := Reg.slot_val (hx 15 (by kernel_rfl))
     go_simp
     exact hK _ _ rfl HC.out (Below.refl _ _)
    ·refine Reg5.Obl.early rfl rfl ?_
     rintro av wq HC hx hd K hK
     replace HC := Lib.hid HC
     have t41 : av.tmps[41]?.getD undef = .slice (some ⟨gb, 0, none⟩) B.pl B.pl := Reg.slot_val (hd 5 (by kernel_rfl) 41 rfl)
     have t42 : av.tmps[42]?.getD undef = .int .i64 k := Reg.slot_val (hd 6 (by kernel_rfl) 42 rfl)
     go_simp
     exact hK _ _ (by first | rfl | simp) HC.out (Below.refl _ _)
    ·refine Reg5.Obl.early rfl rfl ?_
     rintro av wq HC hx hd K hK
     replace HC := Lib.hid HC
     have t43 : av.tmps[43]?.getD undef = .pointer (some ⟨gb, k * 3, none⟩) := Reg.slot_val (hd 7 (by kernel_rfl) 43 rfl)
     have y0 := cell_below HC.out CB.out.1
     have y1 := cell_below HC.out CB.out.2.1
     have y2 := cell_below HC.out CB.out.2.2
     go_simp
     exact hK _ _ rfl HC.out (Below.refl _ _)
    ·refine Reg5.Obl.early rfl rfl ?_
     rintro av wq HC hx hd K hK
     replace HC := Lib.hid HC
     have t40 : av.tmps[40]?.getD undef = vv p' q' t' := Reg.slot_val (hd 4 (by kernel_rfl) 40 rfl)
     have t44 : av.tmps[44]?.getD undef = vv p2 q2 t2' := Reg.slot_val (hd 8 (by kernel_rfl) 44 rfl)
     go_simp
     refine (l01Less _ _ _ _ _ _ _ _ _ _ _ _ _ FA.out.1 FA.out.2.1 FA.out.2.2 FB.out.1 FB.out.2.1 FB.out.2.2).mono ?_
     rintro en w9 ⟨y', z', u', rfl, f0, f1, f2, hB9⟩
     exact hK _ _ ⟨y', z', u', rfl, f0, f1, f2⟩ (HC.out.trans (hB9.mono HC.out.size)) hB9
    ·refine Reg5.Obl.early rfl rfl ?_
     rintro av wq HC hx hd K hK
     replace HC := Lib.hid HC
     have t13 : av.tmps[13]?.getD undef = .float .f32 sh := Reg.slot_val (hx 13 (by kernel_rfl))
     go_simp
     exact hK _ _ rfl HC.out (Below.refl _ _)
    ·refine Reg5.Obl.early rfl rfl ?_
     rintro av wq HC hx hd K hK
     replace HC := Lib.hid HC
     have t46 : av.tmps[46]?.getD undef = .float .f32 sh := Reg.slot_val (hd 10 (by kernel_rfl) 46 rfl)
     obtain ⟨y, z, u', g45, f45⟩ := hd 9 (by kernel_rfl) 45 rfl
     have t45 := Reg.slot_val g45
     have F45 := Lib.hid f45
     clear g45 f45
     go_simp
     refine (l01Scale _ _ _ _ _ _ _ _ _ F45.out.1 F45.out.2.1 F45.out.2.2 FSH.out).mono ?_
     rintro en w9 ⟨y', z', u', rfl, f0, f1, f2, hB9⟩
     exact hK _ _ ⟨y', z', u', rfl, f0, f1, f2⟩ (HC.out.trans (hB9.mono HC.out.size)) hB9
    ·refine Reg5.Obl.early rfl rfl ?_
     rintro av wq HC hx hd K hK
     replace HC := Lib.hid HC
     obtain ⟨y, z, u', g47, f47⟩ := hd 11 (by kernel_rfl) 47 rfl
     have t47 := Reg.slot_val g47
     have F47 := Lib.hid f47
     clear g47 f47
     go_simp
     exact hK _ _ ⟨wq.heap.size, y, z, u', rfl, ⟨by simp, by simp, by simp⟩, F47.out⟩ (HC.out.alloc HC.out.size _) ((Below.refl _ _).alloc (Nat.le_refl _) _)
    ·refine Reg5.Obl.mid rfl rfl ?_
     rintro av wq hC hx hd K hK
     have t36 : av.eval (.tmp 36) = u14 := hd 0 (by kernel_rfl) 36 rfl
     obtain ⟨b, y, z, u', t48, ⟨k0, k1, k2⟩, f48⟩ := hd 12 (by kernel_rfl) 48 rfl
     obtain ⟨xs, hr, hxf⟩ := VK.out.up hC
     have hxl : xs.length = k * 3 := hr.1
     refine wp_append_own wq _ _ 36 rfl w4.heap.size 42 i0 (.agg #[.float .f32 0, .float .f32 0, .float .f32 0]) 3 12 Tryz.underlying36 hi hz0 hz1 hz2 rfl (by decide) u14 k xs t36 hr ⟨b, 0, none⟩ 1 1 [.float .f32 y, .float .f32 z, .float .f32 u'] t48 rfl (fun j u9 hj => ?_) (fun u9 hu9 => ?_) (by have := HPL.out; have := HKL.out; unfold maxLen; omega) (by have := HPL.out; have := HKL.out; omega) (Nat.le_trans BK.out.size hC.size) ?_
     ·match j, hj with
      | 0, hj => simp at hj; subst hj; rw [addr_add']; exact k0
      | 1, hj => simp at hj; subst hj; rw [addr_add']; exact k1
      | 2, hj => simp at hj; subst hj; rw [addr_add']; exact k2
     ·simp at hu9; rcases hu9 with rfl | rfl | rfl <;> rfl
     ·intro v' w9 ho hg _
      have hsz : w4.heap.size ≤ wq.heap.size := Nat.le_trans BK.out.size hC.size
      exact hK _ _ ⟨xs ++ [.float .f32 y, .float .f32 z, .float .f32 u'], by simpa using ho, hxf.app hxl (by rw [HTK.out]; exact f48)⟩ ((BK.out.trans (hC.mono BK.out.size)).grown hg hsz (fun q hq => (hr.lt q hq).1))
    ·refine Reg5.Obl.late rfl ?_
     rintro av wq hD1 hx hd K hK
     have HC := Lib.hid hD1; clear hD1
     have g := hd 13 (by kernel_rfl) (by omega) 49 rfl
     obtain ⟨u9, hu9⟩ : ∃ u9, u9 = av.eval (.tmp 49) := ⟨_, rfl⟩
     have t49 : av.tmps[49]?.getD undef = u9 := Reg.slot_val hu9.symm
     have g' : OwV w4.heap.size wq u9 (k + 1) TF := by rw [hu9]; exact g
     have G := Lib.hid g'
     clear g hu9 g'
     go_simp
     exact hK _ _ (fun _ => G.out) (fun h => by cases h) (fun _ => HC.out) (fun _ => rfl)
   ·rintro f wz hDR hT
    obtain ⟨hDD, hR⟩ := hDR (by decide)
    have g14 := hR 14 14 (by omega) rfl
    clear hDR
    have HG := Lib.hid g14
    have HDD := Lib.hid hDD
    clear g14 hDD hR hT
    simp only [Reg.mixL, Nat.zero_add, Nat.reduceAdd]
    go_wp2
    go_roundw
    case rel => exact ⟨k + 1, by omega, by go_num, HG.out, HDD.out⟩
    case measure => simp [intOf]; omega
  ·obtain rfl : k = B.pl := by omega
   have hrv := VK.out.rv
   obtain ⟨va, vc, e, hvs, _⟩ := hrv
   rw [mkG_len] at e hvs
   subst e
   have HVS := Lib.hid hvs
   have BXr := Lib.hid (BX7.out.call BK.out)
   clear VK hvs
   go_wp2_with fail
   refine (JR.out va vc _ wr HVS.out (HL.out.below BXr.out.bel)).mono ?_
   rintro e w9 ⟨v, rfl, hv9, hB9⟩
   have HV9 := Lib.hid (hv9.lowF (base' := w.heap.size) BXr.out.bel.size)
   have BX9 := Lib.hid (BXr.out.call hB9)
   clear hv9 hB9
   go_wp2
   go_ret
   exact ⟨v, rfl, HV9.out, BX9.out.bel⟩
end Go.Proofs.YtabccmobmppdnaaGreat
namespace Go.Proofs.YtabccmobmppdnaaGreat
open Go Fk Go.RowKit
set_option linter.unusedVariables false
set_option maxRecDepth 16000
set_option maxHeartbeats 4000000 in
theorem spec_StiffTimes (B : Bd) (c : Bc) (a1 : Option Addr) (n1 c1 : Nat) (L1 : List Int) (a2 : Option Addr) (n2 c2 : Nat) (y2 : List C3) (x : Nat) (d : Option Nat) (w : World) (h : IsB w B c) (h1 : IsIs w a1 n1 c1 L1) (h2 : IsVs w a2 n2 c2 y2) (h3 : FV .f32 x d) (g3 : x < 4294967296) :
  Calls Tryz.prog 17 #[B.v, .slice a1 n1 c1, .slice a2 n2 c2, .float .f32 x] w fun e w' => (∃ v, e = .returned (.tuple #[v, .bool (canB c L1 n2 x)]) ∧ RV w.heap.size w' v (stiT c L1 y2 d n2 x)) ∧ Below w.heap.size w w' := by
 have uib := Tryz.underlying44
 have BX : Hid (Bx w [(w.heap.size, B.l)] (w.alloc (BoxB B 44))) := Lib.hid ((Bx.nil w).box (vs := B.l) (t := 44))
 have hpl : c.cs.length = B.pl := h.1.1
 have hm : n2 ≤ 9223372036854775807 := by have k1 := h2.2.1; have k2 := h2.2.2.1; unfold maxLen at k2; omega
 have H := Lib.hid h
 have HL := Lib.hid h1
 have HV := Lib.hid h2
 have JC := Lib.hid (l09Can w.heap.size B c a1 n1 c1 L1 a2 n2 c2 x (w.alloc (BoxB B 44)) (BX.out.mem (.head _)) (h.below BX.out.bel) (h1.below BX.out.bel) g3 hm)
 cases hc : canB c L1 n2 x
 ·rw [hc] at JC
  have he : stiT c L1 y2 d n2 x = [] := by unfold stiT; rw [hc]; rfl
  rw [he]
  clear h h1 h2 h3 hpl hc he
  go_enter Tryz.func17, Tryz.ntmps17
  go_wp2_with fail
  change Calls _ _ _ (w.alloc (BoxB B 44)) _
  generalize (w.alloc (BoxB B 44)) = W at *
  refine JC.out.mono ?_
  rintro e w1 ⟨rfl, n, hw⟩
  have HB := Lib.hid (below_drewN BX.out.bel n)
  rw [hw]
  clear hw
  go_wp2
  go_ret2
  exact ⟨⟨_, rfl, RV.nil _ _⟩, HB.out⟩
 ·obtain ⟨q1, q2, q3, q4⟩ := can_parts hc
  have hn : n2 = B.pl := q4.trans hpl
  subst hn
  have JF := Lib.hid (fun w1 k1 k2 => l09Freed a2 B.pl c2 y2 a1 n1 c1 L1 w1 k1 k2 (hpl ▸ q2) (by have := body64 q1; omega))
  have JT := Lib.hid (fun va vc zs w1 k1 k2 k3 k4 => l09Times w.heap.size B c a1 n1 c1 L1 va vc zs x d w1 k1 k2 q1 k3 (hpl ▸ q2) k4 h3)
  have HE : Hid (stillF (mkG (timF c (stillF y2 L1) d) B.pl B.pl) L1 = timT c L1 y2 d) := Lib.hid (by unfold timT; rw [hpl])
  have HLT : Hid ((stillF y2 L1).length = B.pl) := Lib.hid (by rw [stillF_len]; exact h2.1)
  rw [hc] at JC
  have he : stiT c L1 y2 d B.pl x = timT c L1 y2 d := by unfold stiT; rw [hc]; rfl
  rw [he]
  generalize timT c L1 y2 d = T at *
  clear h h1 h2 h3 hpl hc he q1 q2 q3 q4
  go_enter Tryz.func17, Tryz.ntmps17
  go_wp2_with fail
  change Calls _ _ _ (w.alloc (BoxB B 44)) _
  generalize (w.alloc (BoxB B 44)) = W at *
  refine JC.out.mono ?_
  rintro e w1 ⟨rfl, n, hw⟩
  have BX1 : Hid (Bx w [(w.heap.size, B.l)] w1) := Lib.hid (by rw [hw]; exact BX.out.drewN n)
  clear hw BX JC
  go_wp2_with fail
  refine (JF.out w1 (HV.out.below BX1.out.bel) (HL.out.below BX1.out.bel)).mono ?_
  rintro e w2 ⟨v, rfl, ⟨va, vc, rfl, hvs, _⟩, hB2⟩
  rw [HLT.out] at hvs ⊢
  have BX2 := Lib.hid (BX1.out.call hB2)
  have HVS := Lib.hid hvs
  clear hB2 hvs BX1
  go_wp2_with fail
  refine (JT.out va vc _ w2 (BX2.out.mem (.head _)) (H.out.below BX2.out.bel) (HL.out.below BX2.out.bel) HVS.out).mono ?_
  rintro e w3 ⟨v, rfl, hv3, hB3⟩
  rw [HE.out] at hv3
  have HV3 := Lib.hid (hv3.lowF (base' := w.heap.size) BX2.out.bel.size)
  have BX3 := Lib.hid (BX2.out.call hB3)
  clear hv3 hB3
  go_wp2
  go_ret2
  exact ⟨⟨v, rfl, HV3.out⟩, BX3.out.bel⟩
end Go.Proofs.YtabccmobmppdnaaGreat

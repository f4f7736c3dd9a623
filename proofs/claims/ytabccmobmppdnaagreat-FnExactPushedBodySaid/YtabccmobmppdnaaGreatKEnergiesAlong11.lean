/-
Texts in one: what EnergiesAlong stands on, part 11. Conditions: those of each.
-/
import Derived.Test.YtabccmobmppdnaaGreatKEnergiesAlong10
-- halved
namespace Go.Proofs.YtabccmobmppdnaaGreat
open Go Fk Go.RowKit
set_option linter.unusedVariables false
set_option maxRecDepth 16000
theorem Bx.setAll {w w1 : World} {L : List (Nat × List Value)} {b : Nat} {l vs : List Value} (h : Bx w ((b, l) :: L) w1) (hd : ∀ b' l', (b', l') ∈ L → b ≠ b') (hl : vs.length = l.length) : Bx w ((b, vs) :: L) (setL w1 b 0 vs) := by
 have hb := h.low (.head _)
 refine ⟨setL_below b hb vs w1 0 h.1, fun b' l' hm => ?_⟩
 rcases List.mem_cons.1 hm with e | hm
 ·cases e
  have hh := h.2 b l (.head _)
  refine ⟨fun i v hi => ?_, fun i => by rw [setL_frozen]; exact hh.2.1 i, by rw [setL_size]; exact hh.2.2.1, hb⟩
  have hlt : i < vs.length := (List.getElem?_eq_some_iff.1 hi).1
  have := setL_in b vs w1 0 (fun j hj => ⟨l.getD j undef, by
   rw [Nat.zero_add]
   exact hh.1 j _ (by rw [List.getD, List.getElem?_eq_getElem (by omega)]; rfl)⟩) i hlt
  rw [Nat.zero_add] at this
  rw [this]; exact hi
 ·have hh := h.2 b' l' (.tail _ hm)
  refine ⟨fun i v hi => by rw [setL_far b b' i (hd b' l' hm)]; exact hh.1 i v hi, fun i => by rw [setL_frozen]; exact hh.2.1 i, by rw [setL_size]; exact hh.2.2.1, hh.2.2.2⟩
def EnB (base : Nat) (w : World) (a : Option Addr) (es : List En) : Prop := ∀ j, j < es.length → ∃ g u, a = some ⟨g, 0, none⟩ ∧ base ≤ g ∧ w.cell? ⟨g, j, none⟩ = some u ∧ (es.getD j (.sp s0)).Is u
theorem EnL.low' {base : Nat} {w : World} {v : Value} {es : List En} (h : EnL base w v es) : ∃ a c, v = .slice a es.length c ∧ EnB base w a es := by
 obtain ⟨vals, h1, h2⟩ := h
 have h1' := h1
 rcases h1.2 with ⟨rfl, h0⟩ | ⟨g, cap, cur, rfl, hb, _⟩
 ·exact ⟨none, 0, by rw [h0], fun j hj => absurd hj (by omega)⟩
 ·refine ⟨_, _, rfl, fun j hj => ?_⟩
  obtain ⟨u, e1, e2⟩ := h2 j hj
  exact ⟨g, u, rfl, hb, by rw [h1'.cellAt j (by omega)]; exact e1, e2⟩
theorem EnB.below {base : Nat} {w w' : World} {a : Option Addr} {es : List En} (h : EnB base w a es) (hB : Below w.heap.size w w') : EnB base w' a es := fun j hj => by
 obtain ⟨g, u, e, h1, h2, h3⟩ := h j hj
 exact ⟨g, u, e, h1, cell_below hB h2, h3⟩
theorem EnB.low {base base' : Nat} {w : World} {a : Option Addr} {es : List En} (h : EnB base w a es) (hb : base' ≤ base) : EnB base' w a es := fun j hj => by
 obtain ⟨g, u, e, h1, h2, h3⟩ := h j hj
 exact ⟨g, u, e, Nat.le_trans hb h1, h2, h3⟩
theorem EnB.ens {base : Nat} {w : World} {a : Option Addr} {es : List En} (h : EnB base w a es) : EnS w a es := fun j hj => by
 obtain ⟨g, u, e, h1, h2, h3⟩ := h j hj
 exact ⟨g, u, e, h2, h3⟩
theorem EnB.setB {base b : Nat} {w : World} {a : Option Addr} {es : List En} {vs : List Value} (h : EnB base w a es) (hb : b < base) : EnB base (setL w b 0 vs) a es := fun j hj => by
 obtain ⟨g, u, e, h1, h2, h3⟩ := h j hj
 exact ⟨g, u, e, h1, by rw [setL_far b g j (by omega)]; exact h2, h3⟩
abbrev Z11 : List Value := [.slice none 0 0, .slice none 0 0, .slice none 0 0, .float .f32 0, .float .f32 0, .slice none 0 0, .float .f32 0, .float .f32 0, .float .f32 0, .slice none 0 0, .slice none 0 0]
set_option maxHeartbeats 4000000 in
theorem holdBody_no (B : Bd) (c : Bc) (a : Option Addr) (len cap : Nat) (L : List Int) (w : World) (h : IsB w B c) (hL : IsIs w a len cap L) (hh : heldB c L = false) :
  Calls Tryz.prog 113 #[B.v, .slice a len cap] w fun e w' => e = .returned (.tuple #[.agg Z11.toArray, .bool false]) ∧ Below w.heap.size w w' := by
 have uib := Tryz.underlying44
 have uh := Tryz.underlying107
 have bx1 := (Bx.nil w).box (vs := B.l) (t := 44)
 have bx2 := bx1.box (vs := Z11) (t := 107)
 simp at bx2
 have BX := Lib.hid bx2
 have J := Lib.hid (fun w1 h1 h2 => impl_IsHeld B c a len cap L w1 h1 h2)
 rw [hh] at J
 have H := Lib.hid h
 have HL := Lib.hid hL
 clear h hL hh bx1 bx2
 go_enter Tryz.func113, Tryz.ntmps113
 go_wp2_with fail
 generalize hW : (w.alloc (BoxB B 44)).alloc (.cells #[.slice none 0 0, .slice none 0 0, .slice none 0 0, .float .f32 0, .float .f32 0, .slice none 0 0, .float .f32 0, .float .f32 0, .float .f32 0, .slice none 0 0, .slice none 0 0] 107) = W
 have BX1 : Hid (Bx w [(w.heap.size + 1, Z11), (w.heap.size, B.l)] W) := Lib.hid (hW ▸ BX.out)
 clear BX hW
 refine (J.out W (H.out.below BX1.out.bel) (HL.out.below BX1.out.bel)).mono ?_
 rintro e w1 ⟨rfl, hB1⟩
 have BX2 := Lib.hid (BX1.out.call hB1)
 have BX3 := Lib.hid (Bx.setAll (vs := Z11) BX2.out (fun b' l' hm => by simp only [List.mem_cons, Prod.mk.injEq, List.not_mem_nil, or_false] at hm; omega) rfl)
 simp only [setL, Nat.zero_add, Nat.reduceAdd] at BX3
 clear hB1
 have q0 := (BX2.out.mem (.head _)) 0 _ rfl
 have q1 := (BX2.out.mem (.head _)) 1 _ rfl
 have q2 := (BX2.out.mem (.head _)) 2 _ rfl
 have q3 := (BX2.out.mem (.head _)) 3 _ rfl
 have q4 := (BX2.out.mem (.head _)) 4 _ rfl
 have q5 := (BX2.out.mem (.head _)) 5 _ rfl
 have q6 := (BX2.out.mem (.head _)) 6 _ rfl
 have q7 := (BX2.out.mem (.head _)) 7 _ rfl
 have q8 := (BX2.out.mem (.head _)) 8 _ rfl
 have q9 := (BX2.out.mem (.head _)) 9 _ rfl
 have q10 := (BX2.out.mem (.head _)) 10 _ rfl
 have p0 := BX2.out.free (.head _) 0
 have p1 := BX2.out.free (.head _) 1
 have p2 := BX2.out.free (.head _) 2
 have p3 := BX2.out.free (.head _) 3
 have p4 := BX2.out.free (.head _) 4
 have p5 := BX2.out.free (.head _) 5
 have p6 := BX2.out.free (.head _) 6
 have p7 := BX2.out.free (.head _) 7
 have p8 := BX2.out.free (.head _) 8
 have p9 := BX2.out.free (.head _) 9
 have p10 := BX2.out.free (.head _) 10
 go_wp2
 clear q0 q1 q2 q3 q4 q5 q6 q7 q8 q9 q10
 clear p0 p1 p2 p3 p4 p5 p6 p7 p8 p9 p10
 have m0 := (BX3.out.mem (.head _)) 0 _ rfl
 have m1 := (BX3.out.mem (.head _)) 1 _ rfl
 have m2 := (BX3.out.mem (.head _)) 2 _ rfl
 have m3 := (BX3.out.mem (.head _)) 3 _ rfl
 have m4 := (BX3.out.mem (.head _)) 4 _ rfl
 have m5 := (BX3.out.mem (.head _)) 5 _ rfl
 have m6 := (BX3.out.mem (.head _)) 6 _ rfl
 have m7 := (BX3.out.mem (.head _)) 7 _ rfl
 have m8 := (BX3.out.mem (.head _)) 8 _ rfl
 have m9 := (BX3.out.mem (.head _)) 9 _ rfl
 have m10 := (BX3.out.mem (.head _)) 10 _ rfl
 refine bodyPost_ret (v := .tuple #[.agg Z11.toArray, .bool false]) (by simp [results, Tryz.results113, go_sem, m0, m1, m2, m3, m4, m5, m6, m7, m8, m9, m10]) rfl ?_
 exact ⟨rfl, BX3.out.bel⟩
set_option maxHeartbeats 4000000 in
theorem holdBody_yesB (B : Bd) (c : Bc) (a : Option Addr) (len cap : Nat) (L : List Int) (w : World) (h : IsB w B c) (hL : IsIs w a len cap L) (hh : heldB c L = true) :
  Calls Tryz.prog 113 #[B.v, .slice a len cap] w fun e w' => ∃ la lc, e = .returned (.tuple #[HbV B a la len cap (ens c).length lc, .bool true]) ∧ EnB w.heap.size w' la (ens c) ∧ Below w.heap.size w w' := by
 have uib := Tryz.underlying44
 have uh := Tryz.underlying107
 have bx1 := (Bx.nil w).box (vs := B.l) (t := 44)
 have bx2 := bx1.box (vs := Z11) (t := 107)
 simp at bx2
 have BX := Lib.hid bx2
 have J := Lib.hid (fun w1 h1 h2 => impl_IsHeld B c a len cap L w1 h1 h2)
 have hb : bodyB c = true := by unfold heldB at hh; simp only [Bool.and_eq_true] at hh; exact hh.1
 have JE := Lib.hid (fun w1 h1 => impl_energies B c w1 h1 hb)
 rw [hh] at J
 have H := Lib.hid h
 have HL := Lib.hid hL
 clear h hL hh bx1 bx2 hb
 generalize ens c = es at *
 go_enter Tryz.func113, Tryz.ntmps113
 go_wp2_with fail
 generalize hW : (w.alloc (BoxB B 44)).alloc (.cells #[.slice none 0 0, .slice none 0 0, .slice none 0 0, .float .f32 0, .float .f32 0, .slice none 0 0, .float .f32 0, .float .f32 0, .float .f32 0, .slice none 0 0, .slice none 0 0] 107) = W
 have BX1 : Hid (Bx w [(w.heap.size + 1, Z11), (w.heap.size, B.l)] W) := Lib.hid (hW ▸ BX.out)
 clear BX hW
 refine (J.out W (H.out.below BX1.out.bel) (HL.out.below BX1.out.bel)).mono ?_
 rintro e w1 ⟨rfl, hB1⟩
 have BX2 := Lib.hid (BX1.out.call hB1)
 have LT : Hid (w.heap.size + 1 < w1.heap.size) := Lib.hid ((BX2.out.2 _ _ (.head _)).2.2.1)
 clear hB1 BX1 J
 go_wp2_with fail
 refine Reg6.wp_region_mix (s := 5) (C := fun w' => Below w1.heap.size w1 w') (D := fun _ w' => ∃ (wp : World) (la : Option Addr) (lc : Nat), Below w1.heap.size w1 wp ∧ EnB w1.heap.size wp la es ∧ w' = setL wp (w.heap.size + 1) 0 (HbL B a la len cap es.length lc)) (G := fun w1 w2 => Below w1.heap.size w1 w2)
  (Rv := fun i v => match i with | 0 => v = B.v | 1 => v = .slice a len cap | 2 => v = B.v | 6 => v = .bool true | _ => True)
  (Rw := fun i v w' => match i with
   | 3 => ∃ la lc, v = .slice la es.length lc ∧ EnB w1.heap.size w' la es
   | 4 => ∃ la lc, v = HbV B a la len cap es.length lc ∧ EnB w1.heap.size w' la es
   | _ => True) [false, false, false, false, false, true, false, false, false, false, false, true, true, true, true, true]
  (by kernel_rfl) (by kernel_rfl) (by kernel_rfl) ?_ (below_drewN (Below.refl _ _) 1) ?_ ?_
 ·intro j v w1 w2 hC hG hR
  match j with
  | 0 => trivial
  | 1 => trivial
  | 2 => trivial
  | 3 => obtain ⟨la, lc, e, h1⟩ := hR; exact ⟨la, lc, e, h1.below hG⟩
  | 4 => obtain ⟨la, lc, e, h1⟩ := hR; exact ⟨la, lc, e, h1.below hG⟩
  | 5 => trivial
  | 6 => trivial
  | _ + 7 => trivial
 ·refine ⟨?_, ?_, ?_, ?_, ?_, ?_, ?_, trivial⟩
  ·refine Reg6.Obl.early rfl (by kernel_rfl) ?_
   rintro a' wq HC hx hd K hK
   replace HC := Lib.hid HC
   have t2 : a'.tmps[2]?.getD undef = .pointer (some ⟨w.heap.size, 0, none⟩) := Reg.slot_val (hx 2 (by kernel_rfl))
   have BXw := BX2.out.call HC.out
   have y0 := (BXw.mem (.tail _ (.head _))) 0 _ rfl
   have y1 := (BXw.mem (.tail _ (.head _))) 1 _ rfl
   have y2 := (BXw.mem (.tail _ (.head _))) 2 _ rfl
   have y3 := (BXw.mem (.tail _ (.head _))) 3 _ rfl
   have y4 := (BXw.mem (.tail _ (.head _))) 4 _ rfl
   have y5 := (BXw.mem (.tail _ (.head _))) 5 _ rfl
   have y6 := (BXw.mem (.tail _ (.head _))) 6 _ rfl
   have y7 := (BXw.mem (.tail _ (.head _))) 7 _ rfl
   have y8 := (BXw.mem (.tail _ (.head _))) 8 _ rfl
   go_simp
   exact hK _ _ rfl trivial HC.out (Below.refl _ _)
  ·refine Reg6.Obl.early rfl (by kernel_rfl) ?_
   rintro a' wq HC hx hd K hK
   replace HC := Lib.hid HC
   have t1 : a'.tmps[1]?.getD undef = .slice a len cap := Reg.slot_val (hx 1 (by kernel_rfl))
   go_simp
   exact hK _ _ rfl trivial HC.out (Below.refl _ _)
  ·refine Reg6.Obl.early rfl (by kernel_rfl) ?_
   rintro a' wq HC hx hd K hK
   replace HC := Lib.hid HC
   have t2 : a'.tmps[2]?.getD undef = .pointer (some ⟨w.heap.size, 0, none⟩) := Reg.slot_val (hx 2 (by kernel_rfl))
   have BXw := BX2.out.call HC.out
   have y0 := (BXw.mem (.tail _ (.head _))) 0 _ rfl
   have y1 := (BXw.mem (.tail _ (.head _))) 1 _ rfl
   have y2 := (BXw.mem (.tail _ (.head _))) 2 _ rfl
   have y3 := (BXw.mem (.tail _ (.head _))) 3 _ rfl
   have y4 := (BXw.mem (.tail _ (.head _))) 4 _ rfl
   have y5 := (BXw.mem (.tail _ (.head _))) 5 _ rfl
   have y6 := (BXw.mem (.tail _ (.head _))) 6 _ rfl
   have y7 := (BXw.mem (.tail _ (.head _))) 7 _ rfl
   have y8 := (BXw.mem (.tail _ (.head _))) 8 _ rfl
   go_simp
   exact hK _ _ rfl trivial HC.out (Below.refl _ _)
  ·refine Reg6.Obl.early rfl (by kernel_rfl) ?_
   rintro a' wq HC hx hd K hK
   replace HC := Lib.hid HC
   have t13 : a'.tmps[13]?.getD undef = B.v := Reg.slot_val (hd 2 13 (by kernel_rfl) rfl).1
   go_simp
   refine (JE.out wq (H.out.below (BX2.out.call HC.out).bel)).mono ?_
   rintro en w2 ⟨v, rfl, hv, hB2⟩
   obtain ⟨la, lc, rfl, hE⟩ := hv.low'
   have hE' : EnB w1.heap.size w2 la es := fun j hj => by
    obtain ⟨g, u, e, h1, h2⟩ := hE j hj
    exact ⟨g, u, e, Nat.le_trans HC.out.size h1, h2⟩
   exact hK _ _ trivial ⟨la, lc, rfl, hE'⟩ (HC.out.trans (hB2.mono HC.out.size)) hB2
  ·refine Reg6.Obl.early rfl (by kernel_rfl) ?_
   rintro a' wq HC hx hd K hK
   replace HC := Lib.hid HC
   have t11 : a'.tmps[11]?.getD undef = B.v := Reg.slot_val (hd 0 11 (by kernel_rfl) rfl).1
   have t12 : a'.tmps[12]?.getD undef = .slice a len cap := Reg.slot_val (hd 1 12 (by kernel_rfl) rfl).1
   obtain ⟨la, lc, g14, hE⟩ := (hd 3 14 (by kernel_rfl) rfl).2
   have t14 := Reg.slot_val g14
   have HE := Lib.hid hE
   clear g14 hE
   go_simp
   exact hK _ _ trivial ⟨la, lc, rfl, HE.out⟩ HC.out (Below.refl _ _)
  ·refine Reg6.Obl.store rfl ?_
   rintro a' wq HC hx hd K hK
   replace HC := Lib.hid HC
   have t4 : a'.tmps[4]?.getD undef = .pointer (some ⟨w.heap.size + 1, 0, none⟩) := Reg.slot_val (hx 4 (by kernel_rfl))
   obtain ⟨la, lc, g15, hE⟩ := (hd 4 15 (by kernel_rfl) rfl).2
   have t15 := Reg.slot_val g15
   have HS : Hid (∃ (wp : World) (la' : Option Addr) (lc' : Nat), Below w1.heap.size w1 wp ∧ EnB w1.heap.size wp la' es ∧ setL wq (w.heap.size + 1) 0 (HbL B a la len cap es.length lc) = setL wp (w.heap.size + 1) 0 (HbL B a la' len cap es.length lc')) := Lib.hid ⟨wq, la, lc, HC.out, hE, rfl⟩
   have TT := BX2.out.call HC.out
   have y0 := (TT.mem (.head _)) 0 _ rfl
   have f0 := TT.free (.head _) 0
   have y1 := (TT.mem (.head _)) 1 _ rfl
   have f1 := TT.free (.head _) 1
   have y2 := (TT.mem (.head _)) 2 _ rfl
   have f2 := TT.free (.head _) 2
   have y3 := (TT.mem (.head _)) 3 _ rfl
   have f3 := TT.free (.head _) 3
   have y4 := (TT.mem (.head _)) 4 _ rfl
   have f4 := TT.free (.head _) 4
   have y5 := (TT.mem (.head _)) 5 _ rfl
   have f5 := TT.free (.head _) 5
   have y6 := (TT.mem (.head _)) 6 _ rfl
   have f6 := TT.free (.head _) 6
   have y7 := (TT.mem (.head _)) 7 _ rfl
   have f7 := TT.free (.head _) 7
   have y8 := (TT.mem (.head _)) 8 _ rfl
   have f8 := TT.free (.head _) 8
   have y9 := (TT.mem (.head _)) 9 _ rfl
   have f9 := TT.free (.head _) 9
   have y10 := (TT.mem (.head _)) 10 _ rfl
   have f10 := TT.free (.head _) 10
   clear g15 hE TT
   go_simp
   exact hK _ HS.out
  ·refine Reg6.Obl.late rfl (by kernel_rfl) ?_
   rintro a' wq hx hd K hK
   go_simp
   exact hK _ rfl (fun w hD => hD)
 rintro f w2 hD hd
 obtain ⟨wp, la, lc, hB1, hE, rfl⟩ := hD
 have f5 : f 5 = .bool true := hd 6 5 rfl
 simp only [Reg.mixL, Nat.zero_add, Nat.reduceAdd, f5]
 have hlt := LT.out
 have BX3 := Lib.hid (Bx.setAll (vs := HbL B a la len cap es.length lc) (BX2.out.call hB1) (fun b' l' hm => by simp only [List.mem_cons, Prod.mk.injEq, List.not_mem_nil, or_false] at hm; omega) rfl)
 have HE := Lib.hid ((EnB.setB (b := w.heap.size + 1) (vs := HbL B a la len cap es.length lc) hE (by omega)).low (base' := w.heap.size) (by omega))
 clear hE hB1 hd
 generalize (setL wp (w.heap.size + 1) 0 (HbL B a la len cap es.length lc)) = W2 at *
 have m0 := (BX3.out.mem (.head _)) 0 _ rfl
 have m1 := (BX3.out.mem (.head _)) 1 _ rfl
 have m2 := (BX3.out.mem (.head _)) 2 _ rfl
 have m3 := (BX3.out.mem (.head _)) 3 _ rfl
 have m4 := (BX3.out.mem (.head _)) 4 _ rfl
 have m5 := (BX3.out.mem (.head _)) 5 _ rfl
 have m6 := (BX3.out.mem (.head _)) 6 _ rfl
 have m7 := (BX3.out.mem (.head _)) 7 _ rfl
 have m8 := (BX3.out.mem (.head _)) 8 _ rfl
 have m9 := (BX3.out.mem (.head _)) 9 _ rfl
 have m10 := (BX3.out.mem (.head _)) 10 _ rfl
 go_wp2
 refine bodyPost_ret (v := .tuple #[HbV B a la len cap es.length lc, .bool true]) (by simp [results, Tryz.results113, go_sem, m0, m1, m2, m3, m4, m5, m6, m7, m8, m9, m10]) rfl ?_
 exact ⟨la, lc, rfl, HE.out, BX3.out.bel⟩
theorem holdBody_yes (B : Bd) (c : Bc) (a : Option Addr) (len cap : Nat) (L : List Int) (w : World) (h : IsB w B c) (hL : IsIs w a len cap L) (hh : heldB c L = true) :
  Calls Tryz.prog 113 #[B.v, .slice a len cap] w fun e w' => ∃ la lc, e = .returned (.tuple #[HbV B a la len cap (ens c).length lc, .bool true]) ∧ EnS w' la (ens c) ∧ Below w.heap.size w w' :=
 (holdBody_yesB B c a len cap L w h hL hh).mono fun _ _ ⟨la, lc, e, hE, hB⟩ => ⟨la, lc, e, hE.ens, hB⟩
end Go.Proofs.YtabccmobmppdnaaGreat
namespace Go.Proofs.YtabccmobmppdnaaGreat
open Go Fk Go.RowKit
set_option linter.unusedVariables false
set_option maxRecDepth 16000
def RowsS (w : World) (la : Option Addr) (rows : List (Option Addr × Nat × Nat)) : Prop := ∀ j, j < rows.length → ∃ R, la = some ⟨R, 0, none⟩ ∧ w.cell? ⟨R, j, none⟩ = some (.slice (rows.getD j (none, 0, 0)).1 (rows.getD j (none, 0, 0)).2.1 (rows.getD j (none, 0, 0)).2.2)
theorem RowsS.below {w w' : World} {la : Option Addr} {rows : List (Option Addr × Nat × Nat)} (h : RowsS w la rows) (hB : Below w.heap.size w w') : RowsS w' la rows := fun j hj => by
 obtain ⟨R, e, h1⟩ := h j hj
 exact ⟨R, e, cell_below hB h1⟩
def lensB (n : Nat) (rows : List (Option Addr × Nat × Nat)) : Bool := rows.all fun r => decide (r.2.1 = n)
theorem lens_not {n : Nat} {rows : List (Option Addr × Nat × Nat)} {k : Nat} (hk : k < rows.length) (h : (rows.getD k (none, 0, 0)).2.1 ≠ n) : lensB n rows = false := by
 rw [Bool.eq_false_iff]
 intro hh
 have := List.all_eq_true.1 hh (rows[k]) (List.getElem_mem hk)
 rw [List.getD, List.getElem?_eq_getElem hk] at h
 exact h (of_decide_eq_true this)
theorem lens_all {n : Nat} {rows : List (Option Addr × Nat × Nat)} (h : ∀ j, j < rows.length → (rows.getD j (none, 0, 0)).2.1 = n) : lensB n rows = true := by
 unfold lensB
 rw [List.all_eq_true]
 intro x hx
 obtain ⟨i, hi, rfl⟩ := List.mem_iff_getElem.1 hx
 have := h i hi
 rw [List.getD, List.getElem?_eq_getElem hi] at this
 exact decide_eq_true this
abbrev Z14 : List Value := [.slice none 0 0, .slice none 0 0, .slice none 0 0, .float .f32 0, .float .f32 0, .slice none 0 0, .float .f32 0, .float .f32 0, .float .f32 0, .slice none 0 0, .slice none 0 0, .float .f32 0, .float .f32 0, .slice none 0 0]
abbrev StL (B : Bd) (ha la : Option Addr) (hl hc ln lc x s : Nat) (fa : Option Addr) (fl fc : Nat) : List Value := [.slice B.pa B.pl B.pc, .slice B.ta B.tl B.tc, .slice B.sa B.sl B.sc, .float .f32 B.film, .float .f32 B.bend, .slice B.wa B.wl B.wc, .float .f32 B.x, .float .f32 B.y, .float .f32 B.z, .slice ha hl hc, .slice la ln lc, .float .f32 x, .float .f32 s, .slice fa fl fc]
abbrev StV (B : Bd) (ha la : Option Addr) (hl hc ln lc x s : Nat) (fa : Option Addr) (fl fc : Nat) : Value := .agg #[.slice B.pa B.pl B.pc, .slice B.ta B.tl B.tc, .slice B.sa B.sl B.sc, .float .f32 B.film, .float .f32 B.bend, .slice B.wa B.wl B.wc, .float .f32 B.x, .float .f32 B.y, .float .f32 B.z, .slice ha hl hc, .slice la ln lc, .float .f32 x, .float .f32 s, .slice fa fl fc]
def stfB (c : Bc) (L : List Int) (x : Nat) (rows : List (Option Addr × Nat × Nat)) : Bool := heldB c L && (sizeB x && lensB c.cs.length rows)
theorem Bx.re {w w1 : World} {L L' : List (Nat × List Value)} (h : Bx w L w1) (hs : ∀ x, x ∈ L' → x ∈ L) : Bx w L' w1 := ⟨h.1, fun b l hm => h.2 b l (hs _ hm)⟩
set_option maxHeartbeats 4000000 in
theorem stiff_no1 (B : Bd) (c : Bc) (a : Option Addr) (len cap : Nat) (L : List Int) (x : Nat) (la : Option Addr) (lc : Nat) (rows : List (Option Addr × Nat × Nat)) (w : World) (h : IsB w B c) (hL : IsIs w a len cap L) (hx' : x < 4294967296) (hR : RowsS w la rows) (hk : rows.length ≤ 1000) (hh : heldB c L = false) :
  Calls Tryz.prog 71 #[B.v, .slice a len cap, .float .f32 x, .slice la rows.length lc] w fun e w' => e = .returned (.tuple #[.agg Z14.toArray, .bool false]) ∧ Below w.heap.size w w' := by
 have uib := Tryz.underlying44
 have uim := Tryz.underlying40
 have uh := Tryz.underlying107
 have us := Tryz.underlying109
 have bx1 := (Bx.nil w).box (vs := B.l) (t := 44)
 have bx2 := bx1.box (vs := Z14) (t := 109)
 simp at bx2
 have BX := Lib.hid bx2
 have H := Lib.hid h
 have HL := Lib.hid hL
 have HR := Lib.hid hR
 have hm : rows.length ≤ 9223372036854775807 := by omega
 clear bx1 bx2
 have J := Lib.hid (fun w1 h1 h2 => holdBody_no B c a len cap L w1 h1 h2 hh)
 clear h hL hR hh
 go_enter Tryz.func71, Tryz.ntmps71
 go_wp2_with fail
 generalize hW : (w.alloc (BoxB B 44)).alloc (.cells #[.slice none 0 0, .slice none 0 0, .slice none 0 0, .float .f32 0, .float .f32 0, .slice none 0 0, .float .f32 0, .float .f32 0, .float .f32 0, .slice none 0 0, .slice none 0 0, .float .f32 0, .float .f32 0, .slice none 0 0] 109) = W
 have BX1 : Hid (Bx w [(w.heap.size + 1, Z14), (w.heap.size, B.l)] W) := Lib.hid (hW ▸ BX.out)
 have HWS0 : Hid (W.heap.size = w.heap.size + 2) := Lib.hid (by rw [← hW]; simp)
 clear BX hW
 refine (J.out W (H.out.below BX1.out.bel) (HL.out.below BX1.out.bel)).mono ?_
 rintro e w1 ⟨rfl, hB1⟩
 have BX2 := Lib.hid (BX1.out.call hB1)
 have LT : Hid (w.heap.size + 1 < w1.heap.size) := Lib.hid ((BX2.out.2 _ _ (.head _)).2.2.1)
 have BX3 := Lib.hid (BX2.out.box (vs := Z11) (t := 107))
 have hX : Below w1.heap.size w1 (w1.alloc (.cells (Z11).toArray 107)) := (Below.refl _ _).alloc (Nat.le_refl _) _
 have BX4 := Lib.hid (BX3.out.re (L' := [(w.heap.size + 1, Z14), (w1.heap.size, Z11), (w.heap.size, B.l)]) (fun x hx => by simp only [List.mem_cons, List.not_mem_nil, or_false] at hx ⊢; rcases hx with h | h | h <;> simp [h]))
 clear hB1 hX BX3 BX1 J
 have q0 := (BX4.out.mem (.head _)) 0 _ rfl
 have p0 := BX4.out.free (.head _) 0
 have q1 := (BX4.out.mem (.head _)) 1 _ rfl
 have p1 := BX4.out.free (.head _) 1
 have q2 := (BX4.out.mem (.head _)) 2 _ rfl
 have p2 := BX4.out.free (.head _) 2
 have q3 := (BX4.out.mem (.head _)) 3 _ rfl
 have p3 := BX4.out.free (.head _) 3
 have q4 := (BX4.out.mem (.head _)) 4 _ rfl
 have p4 := BX4.out.free (.head _) 4
 have q5 := (BX4.out.mem (.head _)) 5 _ rfl
 have p5 := BX4.out.free (.head _) 5
 have q6 := (BX4.out.mem (.head _)) 6 _ rfl
 have p6 := BX4.out.free (.head _) 6
 have q7 := (BX4.out.mem (.head _)) 7 _ rfl
 have p7 := BX4.out.free (.head _) 7
 have q8 := (BX4.out.mem (.head _)) 8 _ rfl
 have p8 := BX4.out.free (.head _) 8
 have q9 := (BX4.out.mem (.head _)) 9 _ rfl
 have p9 := BX4.out.free (.head _) 9
 have q10 := (BX4.out.mem (.head _)) 10 _ rfl
 have p10 := BX4.out.free (.head _) 10
 have q11 := (BX4.out.mem (.head _)) 11 _ rfl
 have p11 := BX4.out.free (.head _) 11
 have q12 := (BX4.out.mem (.head _)) 12 _ rfl
 have p12 := BX4.out.free (.head _) 12
 have q13 := (BX4.out.mem (.head _)) 13 _ rfl
 have p13 := BX4.out.free (.head _) 13
 have BZ := Lib.hid (Bx.setAll (vs := Z14) BX4.out (fun b' l' hm => by simp only [List.mem_cons, Prod.mk.injEq, List.not_mem_nil, or_false] at hm; have hz := LT.out; omega) rfl)
 simp only [setL, Nat.zero_add, Nat.reduceAdd] at BZ
 go_wp2
 clear q0 p0 q1 p1 q2 p2 q3 p3 q4 p4 q5 p5 q6 p6 q7 p7 q8 p8 q9 p9 q10 p10 q11 p11 q12 p12 q13 p13
 have m0 := (BZ.out.mem (.head _)) 0 _ rfl
 have m1 := (BZ.out.mem (.head _)) 1 _ rfl
 have m2 := (BZ.out.mem (.head _)) 2 _ rfl
 have m3 := (BZ.out.mem (.head _)) 3 _ rfl
 have m4 := (BZ.out.mem (.head _)) 4 _ rfl
 have m5 := (BZ.out.mem (.head _)) 5 _ rfl
 have m6 := (BZ.out.mem (.head _)) 6 _ rfl
 have m7 := (BZ.out.mem (.head _)) 7 _ rfl
 have m8 := (BZ.out.mem (.head _)) 8 _ rfl
 have m9 := (BZ.out.mem (.head _)) 9 _ rfl
 have m10 := (BZ.out.mem (.head _)) 10 _ rfl
 have m11 := (BZ.out.mem (.head _)) 11 _ rfl
 have m12 := (BZ.out.mem (.head _)) 12 _ rfl
 have m13 := (BZ.out.mem (.head _)) 13 _ rfl
 refine bodyPost_ret (v := .tuple #[.agg Z14.toArray, .bool false]) (by simp [results, Tryz.results71, go_sem, m0, m1, m2, m3, m4, m5, m6, m7, m8, m9, m10, m11, m12, m13]) rfl ?_
 exact ⟨rfl, BZ.out.bel⟩
set_option maxHeartbeats 4000000 in
theorem stiff_no2 (B : Bd) (c : Bc) (a : Option Addr) (len cap : Nat) (L : List Int) (x : Nat) (la : Option Addr) (lc : Nat) (rows : List (Option Addr × Nat × Nat)) (w : World) (h : IsB w B c) (hL : IsIs w a len cap L) (hx' : x < 4294967296) (hR : RowsS w la rows) (hk : rows.length ≤ 1000) (hh : heldB c L = true) (hs : sizeB x = false) :
  Calls Tryz.prog 71 #[B.v, .slice a len cap, .float .f32 x, .slice la rows.length lc] w fun e w' => e = .returned (.tuple #[.agg Z14.toArray, .bool false]) ∧ Below w.heap.size w w' := by
 have uib := Tryz.underlying44
 have uim := Tryz.underlying40
 have uh := Tryz.underlying107
 have us := Tryz.underlying109
 have bx1 := (Bx.nil w).box (vs := B.l) (t := 44)
 have bx2 := bx1.box (vs := Z14) (t := 109)
 simp at bx2
 have BX := Lib.hid bx2
 have H := Lib.hid h
 have HL := Lib.hid hL
 have HR := Lib.hid hR
 have hm : rows.length ≤ 9223372036854775807 := by omega
 clear bx1 bx2
 have J := Lib.hid (fun w1 h1 h2 => holdBody_yes B c a len cap L w1 h1 h2 hh)
 have JM := Lib.hid (fun w1 => impl_isMeasure x w1 hx')
 rw [hs] at JM
 generalize hn : (ens c).length = n at *
 clear h hL hR hh hn hs
 go_enter Tryz.func71, Tryz.ntmps71
 go_wp2_with fail
 generalize hW : (w.alloc (BoxB B 44)).alloc (.cells #[.slice none 0 0, .slice none 0 0, .slice none 0 0, .float .f32 0, .float .f32 0, .slice none 0 0, .float .f32 0, .float .f32 0, .float .f32 0, .slice none 0 0, .slice none 0 0, .float .f32 0, .float .f32 0, .slice none 0 0] 109) = W
 have BX1 : Hid (Bx w [(w.heap.size + 1, Z14), (w.heap.size, B.l)] W) := Lib.hid (hW ▸ BX.out)
 have HWS0 : Hid (W.heap.size = w.heap.size + 2) := Lib.hid (by rw [← hW]; simp)
 clear BX hW
 refine (J.out W (H.out.below BX1.out.bel) (HL.out.below BX1.out.bel)).mono ?_
 rintro e w1 ⟨ea, ec, rfl, hE, hB1⟩
 have BX2 := Lib.hid (BX1.out.call hB1)
 have LT : Hid (w.heap.size + 1 < w1.heap.size) := Lib.hid ((BX2.out.2 _ _ (.head _)).2.2.1)
 have BX3 := Lib.hid (BX2.out.box (vs := HbL B a ea len cap n ec) (t := 107))
 have hX : Below w1.heap.size w1 (w1.alloc (.cells (HbL B a ea len cap n ec).toArray 107)) := (Below.refl _ _).alloc (Nat.le_refl _) _
 have BX4 := Lib.hid (BX3.out.re (L' := [(w.heap.size + 1, Z14), (w1.heap.size, HbL B a ea len cap n ec), (w.heap.size, B.l)]) (fun x hx => by simp only [List.mem_cons, List.not_mem_nil, or_false] at hx ⊢; rcases hx with h | h | h <;> simp [h]))
 clear hB1 hX BX3 BX1 J hE
 go_wp2_with fail
 change Calls _ _ _ (w1.alloc (.cells (HbL B a ea len cap n ec).toArray 107)) _
 generalize (w1.alloc (.cells (HbL B a ea len cap n ec).toArray 107)) = W2 at *
 refine (JM.out W2).mono ?_
 rintro e w2 ⟨rfl, nd, hw⟩
 have BX5 := Lib.hid (BX4.out.drewN nd)
 rw [← hw] at BX5
 clear hw JM BX4
 have q0 := (BX5.out.mem (.head _)) 0 _ rfl
 have p0 := BX5.out.free (.head _) 0
 have q1 := (BX5.out.mem (.head _)) 1 _ rfl
 have p1 := BX5.out.free (.head _) 1
 have q2 := (BX5.out.mem (.head _)) 2 _ rfl
 have p2 := BX5.out.free (.head _) 2
 have q3 := (BX5.out.mem (.head _)) 3 _ rfl
 have p3 := BX5.out.free (.head _) 3
 have q4 := (BX5.out.mem (.head _)) 4 _ rfl
 have p4 := BX5.out.free (.head _) 4
 have q5 := (BX5.out.mem (.head _)) 5 _ rfl
 have p5 := BX5.out.free (.head _) 5
 have q6 := (BX5.out.mem (.head _)) 6 _ rfl
 have p6 := BX5.out.free (.head _) 6
 have q7 := (BX5.out.mem (.head _)) 7 _ rfl
 have p7 := BX5.out.free (.head _) 7
 have q8 := (BX5.out.mem (.head _)) 8 _ rfl
 have p8 := BX5.out.free (.head _) 8
 have q9 := (BX5.out.mem (.head _)) 9 _ rfl
 have p9 := BX5.out.free (.head _) 9
 have q10 := (BX5.out.mem (.head _)) 10 _ rfl
 have p10 := BX5.out.free (.head _) 10
 have q11 := (BX5.out.mem (.head _)) 11 _ rfl
 have p11 := BX5.out.free (.head _) 11
 have q12 := (BX5.out.mem (.head _)) 12 _ rfl
 have p12 := BX5.out.free (.head _) 12
 have q13 := (BX5.out.mem (.head _)) 13 _ rfl
 have p13 := BX5.out.free (.head _) 13
 have BZ := Lib.hid (Bx.setAll (vs := Z14) BX5.out (fun b' l' hm => by simp only [List.mem_cons, Prod.mk.injEq, List.not_mem_nil, or_false] at hm; have hz := LT.out; omega) rfl)
 simp only [setL, Nat.zero_add, Nat.reduceAdd] at BZ
 go_wp2
 clear q0 p0 q1 p1 q2 p2 q3 p3 q4 p4 q5 p5 q6 p6 q7 p7 q8 p8 q9 p9 q10 p10 q11 p11 q12 p12 q13 p13
 have m0 := (BZ.out.mem (.head _)) 0 _ rfl
 have m1 := (BZ.out.mem (.head _)) 1 _ rfl
 have m2 := (BZ.out.mem (.head _)) 2 _ rfl
 have m3 := (BZ.out.mem (.head _)) 3 _ rfl
 have m4 := (BZ.out.mem (.head _)) 4 _ rfl
 have m5 := (BZ.out.mem (.head _)) 5 _ rfl
 have m6 := (BZ.out.mem (.head _)) 6 _ rfl
 have m7 := (BZ.out.mem (.head _)) 7 _ rfl
 have m8 := (BZ.out.mem (.head _)) 8 _ rfl
 have m9 := (BZ.out.mem (.head _)) 9 _ rfl
 have m10 := (BZ.out.mem (.head _)) 10 _ rfl
 have m11 := (BZ.out.mem (.head _)) 11 _ rfl
 have m12 := (BZ.out.mem (.head _)) 12 _ rfl
 have m13 := (BZ.out.mem (.head _)) 13 _ rfl
 refine bodyPost_ret (v := .tuple #[.agg Z14.toArray, .bool false]) (by simp [results, Tryz.results71, go_sem, m0, m1, m2, m3, m4, m5, m6, m7, m8, m9, m10, m11, m12, m13]) rfl ?_
 exact ⟨rfl, BZ.out.bel⟩
set_option maxHeartbeats 4000000 in
theorem stiff_yes (B : Bd) (c : Bc) (a : Option Addr) (len cap : Nat) (L : List Int) (x : Nat) (la : Option Addr) (lc : Nat) (rows : List (Option Addr × Nat × Nat)) (w : World) (h : IsB w B c) (hL : IsIs w a len cap L) (hx' : x < 4294967296) (hR : RowsS w la rows) (hk : rows.length ≤ 1000) (hh : heldB c L = true) (hs : sizeB x = true) :
  Calls Tryz.prog 71 #[B.v, .slice a len cap, .float .f32 x, .slice la rows.length lc] w fun e w' => (lensB B.pl rows = true → ∃ ea ec, e = .returned (.tuple #[StV B a ea len cap (ens c).length ec x 0 none 0 0, .bool true]) ∧ EnB w.heap.size w' ea (ens c) ∧ Below w.heap.size w w') ∧ (lensB B.pl rows = false → e = .returned (.tuple #[.agg Z14.toArray, .bool false]) ∧ Below w.heap.size w w') := by
 have uib := Tryz.underlying44
 have uim := Tryz.underlying40
 have uh := Tryz.underlying107
 have us := Tryz.underlying109
 have bx1 := (Bx.nil w).box (vs := B.l) (t := 44)
 have bx2 := bx1.box (vs := Z14) (t := 109)
 simp at bx2
 have BX := Lib.hid bx2
 have H := Lib.hid h
 have HL := Lib.hid hL
 have HR := Lib.hid hR
 have hm : rows.length ≤ 9223372036854775807 := by omega
 clear bx1 bx2
 have J := Lib.hid (fun w1 h1 h2 => holdBody_yesB B c a len cap L w1 h1 h2 hh)
 have JM := Lib.hid (fun w1 => impl_isMeasure x w1 hx')
 rw [hs] at JM
 generalize ens c = es at *
 generalize hn : es.length = n at *
 obtain ⟨kn, hkn⟩ : ∃ kn, kn = rows.length := ⟨_, rfl⟩
 have HKN := Lib.hid hkn
 rw [← hkn] at hm ⊢
 clear h hL hR hh hn hs hkn
 go_enter Tryz.func71, Tryz.ntmps71
 go_wp2_with fail
 generalize hW : (w.alloc (BoxB B 44)).alloc (.cells #[.slice none 0 0, .slice none 0 0, .slice none 0 0, .float .f32 0, .float .f32 0, .slice none 0 0, .float .f32 0, .float .f32 0, .float .f32 0, .slice none 0 0, .slice none 0 0, .float .f32 0, .float .f32 0, .slice none 0 0] 109) = W
 have BX1 : Hid (Bx w [(w.heap.size + 1, Z14), (w.heap.size, B.l)] W) := Lib.hid (hW ▸ BX.out)
 have HWS0 : Hid (W.heap.size = w.heap.size + 2) := Lib.hid (by rw [← hW]; simp)
 clear BX hW
 refine (J.out W (H.out.below BX1.out.bel) (HL.out.below BX1.out.bel)).mono ?_
 rintro e w1 ⟨ea, ec, rfl, hE, hB1⟩
 have BX2 := Lib.hid (BX1.out.call hB1)
 have LT : Hid (w.heap.size + 1 < w1.heap.size) := Lib.hid ((BX2.out.2 _ _ (.head _)).2.2.1)
 have BX3 := Lib.hid (BX2.out.box (vs := HbL B a ea len cap n ec) (t := 107))
 have hX : Below w1.heap.size w1 (w1.alloc (.cells (HbL B a ea len cap n ec).toArray 107)) := (Below.refl _ _).alloc (Nat.le_refl _) _
 have HE := Lib.hid (hE.below hX)
 have HWS : Hid (W.heap.size = w.heap.size + 2) := HWS0
 clear hB1 hX BX1 J hE
 go_wp2_with fail
 change Calls _ _ _ (w1.alloc (.cells (HbL B a ea len cap n ec).toArray 107)) _
 generalize (w1.alloc (.cells (HbL B a ea len cap n ec).toArray 107)) = W2 at *
 refine (JM.out W2).mono ?_
 rintro e w2 ⟨rfl, nd, hw⟩
 have BX5 := Lib.hid (BX3.out.drewN nd)
 have HE5 := Lib.hid (hw ▸ HE.out.below (below_drewN (Below.refl _ _) nd))
 rw [← hw] at BX5
 clear hw JM BX3 HE
 generalize w1.heap.size = X at *
 go_wp2_with fail
 go_loopw [30] (fun i w' => ∃ k : Nat, k ≤ kn ∧ i = .int .i64 k ∧ Aside ((∀ j, j < k → (rows.getD j (none, 0, 0)).2.1 = B.pl) ∧ ∃ nd, w' = w2.drewN nd)) (fun i _ => kn - (intOf i).toNat)
 case atStart => exact ⟨0, Nat.zero_le _, rfl, fun j hj => absurd hj (by omega), 0, rfl⟩
 case round =>
  obtain ⟨k, hk, rfl, hA⟩ := hrel
  obtain ⟨nd', hw'⟩ := hA.out.2
  have HP := Lib.hid hA.out.1
  have BX6 := Lib.hid (BX5.out.drewN nd')
  have HE6 := Lib.hid (HE5.out.below (below_drewN (Below.refl _ _) nd'))
  rw [← hw'] at BX6 HE6
  have HW := Lib.hid hw'
  clear hA hw'
  by_cases hlt : k < kn
  ·obtain ⟨R, rfl, hc⟩ := (HR.out.below BX6.out.bel) k (by rw [← HKN.out]; exact hlt)
   have hk0 : (0 : Int) ≤ (k : Int) := by omega
   have hk1 : (k : Int) < (kn : Int) := by omega
   have b0 := (BX6.out.mem (.tail _ (.tail _ (.head _)))) 0 _ rfl
   have HLN := Lib.hid (lens_not (n := B.pl) (rows := rows) (k := k) (by rw [← HKN.out]; exact hlt))
   have HPK : Hid ((rows.getD k (none, 0, 0)).2.1 = B.pl → ∀ j, j < k + 1 → (rows.getD j (none, 0, 0)).2.1 = B.pl) := Lib.hid (fun he j hj => if h : j < k then HP.out j h else (show j = k by omega) ▸ he)
   generalize hrow : rows.getD k (none, 0, 0) = rw' at *
   obtain ⟨r1, r2, r3⟩ := rw'
   have hrl : r2 ≤ 9223372036854775807 ∨ True := .inr trivial
   by_cases hne : r2 = B.pl
   ·have HNX := Lib.hid (HPK.out hne)
    clear HPK HLN hrow hrl
    subst hne
    go_wp2
    go_roundw
    case rel => exact ⟨k + 1, by omega, by go_num, HNX.out, nd', HW.out⟩
    case measure => simp [intOf]; omega
   ·have hz : lensB B.pl rows = false := HLN.out hne
    have he1 : ((r2 : Int) == (B.pl : Int)) = false := by simp; omega
    have he2 : ((r2 : Int) != (B.pl : Int)) = true := by simp; omega
    have HZ := Lib.hid hz
    have BX7 := Lib.hid (BX6.out.re (L' := [(w.heap.size + 1, Z14), (X, HbL B a ea len cap n ec), (w.heap.size, B.l)]) (fun x hx => by simp only [List.mem_cons, List.not_mem_nil, or_false] at hx ⊢; rcases hx with h | h | h <;> simp [h]))
    clear HPK HLN hrow hrl hz
    have q0 := (BX7.out.mem (.head _)) 0 _ rfl
    have p0 := BX7.out.free (.head _) 0
    have q1 := (BX7.out.mem (.head _)) 1 _ rfl
    have p1 := BX7.out.free (.head _) 1
    have q2 := (BX7.out.mem (.head _)) 2 _ rfl
    have p2 := BX7.out.free (.head _) 2
    have q3 := (BX7.out.mem (.head _)) 3 _ rfl
    have p3 := BX7.out.free (.head _) 3
    have q4 := (BX7.out.mem (.head _)) 4 _ rfl
    have p4 := BX7.out.free (.head _) 4
    have q5 := (BX7.out.mem (.head _)) 5 _ rfl
    have p5 := BX7.out.free (.head _) 5
    have q6 := (BX7.out.mem (.head _)) 6 _ rfl
    have p6 := BX7.out.free (.head _) 6
    have q7 := (BX7.out.mem (.head _)) 7 _ rfl
    have p7 := BX7.out.free (.head _) 7
    have q8 := (BX7.out.mem (.head _)) 8 _ rfl
    have p8 := BX7.out.free (.head _) 8
    have q9 := (BX7.out.mem (.head _)) 9 _ rfl
    have p9 := BX7.out.free (.head _) 9
    have q10 := (BX7.out.mem (.head _)) 10 _ rfl
    have p10 := BX7.out.free (.head _) 10
    have q11 := (BX7.out.mem (.head _)) 11 _ rfl
    have p11 := BX7.out.free (.head _) 11
    have q12 := (BX7.out.mem (.head _)) 12 _ rfl
    have p12 := BX7.out.free (.head _) 12
    have q13 := (BX7.out.mem (.head _)) 13 _ rfl
    have p13 := BX7.out.free (.head _) 13
    have BZ := Lib.hid (Bx.setAll (vs := Z14) BX7.out (fun b' l' hm => by simp only [List.mem_cons, Prod.mk.injEq, List.not_mem_nil, or_false] at hm; have hz := LT.out; omega) rfl)
    simp only [setL, Nat.zero_add, Nat.reduceAdd] at BZ
    go_wp2
    clear q0 p0 q1 p1 q2 p2 q3 p3 q4 p4 q5 p5 q6 p6 q7 p7 q8 p8 q9 p9 q10 p10 q11 p11 q12 p12 q13 p13
    have m0 := (BZ.out.mem (.head _)) 0 _ rfl
    have m1 := (BZ.out.mem (.head _)) 1 _ rfl
    have m2 := (BZ.out.mem (.head _)) 2 _ rfl
    have m3 := (BZ.out.mem (.head _)) 3 _ rfl
    have m4 := (BZ.out.mem (.head _)) 4 _ rfl
    have m5 := (BZ.out.mem (.head _)) 5 _ rfl
    have m6 := (BZ.out.mem (.head _)) 6 _ rfl
    have m7 := (BZ.out.mem (.head _)) 7 _ rfl
    have m8 := (BZ.out.mem (.head _)) 8 _ rfl
    have m9 := (BZ.out.mem (.head _)) 9 _ rfl
    have m10 := (BZ.out.mem (.head _)) 10 _ rfl
    have m11 := (BZ.out.mem (.head _)) 11 _ rfl
    have m12 := (BZ.out.mem (.head _)) 12 _ rfl
    have m13 := (BZ.out.mem (.head _)) 13 _ rfl
    refine bodyPost_ret (v := .tuple #[.agg Z14.toArray, .bool false]) (by simp [results, Tryz.results71, go_sem, m0, m1, m2, m3, m4, m5, m6, m7, m8, m9, m10, m11, m12, m13]) rfl ?_
    exact ⟨fun h => absurd (HZ.out.symm.trans h) (by decide), fun _ => ⟨rfl, BZ.out.bel⟩⟩
  ·obtain rfl : k = kn := by omega
   have HZ : Hid (lensB B.pl rows = true) := Lib.hid (lens_all (fun j hj => HP.out j (by rw [HKN.out]; exact hj)))
   have BX7 := Lib.hid (BX6.out.re (L' := [(w.heap.size + 1, Z14), (X, HbL B a ea len cap n ec), (w.heap.size, B.l)]) (fun x hx => by simp only [List.mem_cons, List.not_mem_nil, or_false] at hx ⊢; rcases hx with h | h | h <;> simp [h]))
   have b0 := (BX7.out.mem (.tail _ (.head _))) 0 _ rfl
   have b1 := (BX7.out.mem (.tail _ (.head _))) 1 _ rfl
   have b2 := (BX7.out.mem (.tail _ (.head _))) 2 _ rfl
   have b3 := (BX7.out.mem (.tail _ (.head _))) 3 _ rfl
   have b4 := (BX7.out.mem (.tail _ (.head _))) 4 _ rfl
   have b5 := (BX7.out.mem (.tail _ (.head _))) 5 _ rfl
   have b6 := (BX7.out.mem (.tail _ (.head _))) 6 _ rfl
   have b7 := (BX7.out.mem (.tail _ (.head _))) 7 _ rfl
   have b8 := (BX7.out.mem (.tail _ (.head _))) 8 _ rfl
   have b9 := (BX7.out.mem (.tail _ (.head _))) 9 _ rfl
   have b10 := (BX7.out.mem (.tail _ (.head _))) 10 _ rfl
   have q0 := (BX7.out.mem (.head _)) 0 _ rfl
   have p0 := BX7.out.free (.head _) 0
   have q1 := (BX7.out.mem (.head _)) 1 _ rfl
   have p1 := BX7.out.free (.head _) 1
   have q2 := (BX7.out.mem (.head _)) 2 _ rfl
   have p2 := BX7.out.free (.head _) 2
   have q3 := (BX7.out.mem (.head _)) 3 _ rfl
   have p3 := BX7.out.free (.head _) 3
   have q4 := (BX7.out.mem (.head _)) 4 _ rfl
   have p4 := BX7.out.free (.head _) 4
   have q5 := (BX7.out.mem (.head _)) 5 _ rfl
   have p5 := BX7.out.free (.head _) 5
   have q6 := (BX7.out.mem (.head _)) 6 _ rfl
   have p6 := BX7.out.free (.head _) 6
   have q7 := (BX7.out.mem (.head _)) 7 _ rfl
   have p7 := BX7.out.free (.head _) 7
   have q8 := (BX7.out.mem (.head _)) 8 _ rfl
   have p8 := BX7.out.free (.head _) 8
   have q9 := (BX7.out.mem (.head _)) 9 _ rfl
   have p9 := BX7.out.free (.head _) 9
   have q10 := (BX7.out.mem (.head _)) 10 _ rfl
   have p10 := BX7.out.free (.head _) 10
   have q11 := (BX7.out.mem (.head _)) 11 _ rfl
   have p11 := BX7.out.free (.head _) 11
   have q12 := (BX7.out.mem (.head _)) 12 _ rfl
   have p12 := BX7.out.free (.head _) 12
   have q13 := (BX7.out.mem (.head _)) 13 _ rfl
   have p13 := BX7.out.free (.head _) 13
   have BZ := Lib.hid (Bx.setAll (vs := StL B a ea len cap n ec x 0 none 0 0) BX7.out (fun b' l' hm => by simp only [List.mem_cons, Prod.mk.injEq, List.not_mem_nil, or_false] at hm; have hz := LT.out; omega) rfl)
   have HE7 := Lib.hid ((EnB.setB (b := w.heap.size + 1) (vs := StL B a ea len cap n ec x 0 none 0 0) HE6.out (by have hz := HWS.out; omega)).low (base' := w.heap.size) (by have hz := HWS.out; omega))
   simp only [setL, Nat.zero_add, Nat.reduceAdd] at BZ HE7
   go_wp2
   clear b0 b1 b2 b3 b4 b5 b6 b7 b8 b9 b10 q0 p0 q1 p1 q2 p2 q3 p3 q4 p4 q5 p5 q6 p6 q7 p7 q8 p8 q9 p9 q10 p10 q11 p11 q12 p12 q13 p13
   have m0 := (BZ.out.mem (.head _)) 0 _ rfl
   have m1 := (BZ.out.mem (.head _)) 1 _ rfl
   have m2 := (BZ.out.mem (.head _)) 2 _ rfl
   have m3 := (BZ.out.mem (.head _)) 3 _ rfl
   have m4 := (BZ.out.mem (.head _)) 4 _ rfl
   have m5 := (BZ.out.mem (.head _)) 5 _ rfl
   have m6 := (BZ.out.mem (.head _)) 6 _ rfl
   have m7 := (BZ.out.mem (.head _)) 7 _ rfl
   have m8 := (BZ.out.mem (.head _)) 8 _ rfl
   have m9 := (BZ.out.mem (.head _)) 9 _ rfl
   have m10 := (BZ.out.mem (.head _)) 10 _ rfl
   have m11 := (BZ.out.mem (.head _)) 11 _ rfl
   have m12 := (BZ.out.mem (.head _)) 12 _ rfl
   have m13 := (BZ.out.mem (.head _)) 13 _ rfl
   refine bodyPost_ret (v := .tuple #[StV B a ea len cap n ec x 0 none 0 0, .bool true]) (by simp [results, Tryz.results71, go_sem, m0, m1, m2, m3, m4, m5, m6, m7, m8, m9, m10, m11, m12, m13]) rfl ?_
   exact ⟨fun _ => ⟨ea, ec, rfl, HE7.out, BZ.out.bel⟩, fun h => absurd (HZ.out.symm.trans h) (by decide)⟩
end Go.Proofs.YtabccmobmppdnaaGreat
namespace Go.Proofs.YtabccmobmppdnaaGreat
open Go Fk Go.RowKit
set_option linter.unusedVariables false
set_option maxRecDepth 16000
end Go.Proofs.YtabccmobmppdnaaGreat
namespace Go.Proofs.YtabccmobmppdnaaGreat
namespace Fk
open Go
set_option linter.unusedVariables false
end Fk
end Go.Proofs.YtabccmobmppdnaaGreat
namespace Go.Proofs.YtabccmobmppdnaaGreat
open Go Fk Go.RowKit
set_option linter.unusedVariables false
set_option maxRecDepth 16000
end Go.Proofs.YtabccmobmppdnaaGreat
namespace Go.Proofs.YtabccmobmppdnaaGreat
open Go Fk Go.RowKit
set_option linter.unusedVariables false
set_option maxRecDepth 16000
end Go.Proofs.YtabccmobmppdnaaGreat
namespace Go.Proofs.YtabccmobmppdnaaGreat
open Go Fk Go.RowKit
set_option linter.unusedVariables false
set_option maxRecDepth 16000
theorem stiff_all (B : Bd) (c : Bc) (a : Option Addr) (len cap : Nat) (L : List Int) (x : Nat) (la : Option Addr) (lc : Nat) (rows : List (Option Addr × Nat × Nat)) (w : World) (h : IsB w B c) (hL : IsIs w a len cap L) (hx' : x < 4294967296) (hR : RowsS w la rows) (hk : rows.length ≤ 1000) :
  Calls Tryz.prog 71 #[B.v, .slice a len cap, .float .f32 x, .slice la rows.length lc] w fun e w' => ((stfB c L x rows = true ∧ ∃ ea ec, e = .returned (.tuple #[StV B a ea len cap (ens c).length ec x 0 none 0 0, .bool true]) ∧ EnB w.heap.size w' ea (ens c)) ∨ (stfB c L x rows = false ∧ e = .returned (.tuple #[.agg Z14.toArray, .bool false]))) ∧ Below w.heap.size w w' := by
 have hpl : c.cs.length = B.pl := h.1.1
 unfold stfB
 rw [hpl]
 cases hh : heldB c L
 ·exact (stiff_no1 B c a len cap L x la lc rows w h hL hx' hR hk hh).mono fun e w' ⟨he, hB⟩ => ⟨.inr ⟨rfl, he⟩, hB⟩
 ·cases hs : sizeB x
  ·exact (stiff_no2 B c a len cap L x la lc rows w h hL hx' hR hk hh hs).mono fun e w' ⟨he, hB⟩ => ⟨.inr ⟨rfl, he⟩, hB⟩
  ·refine (stiff_yes B c a len cap L x la lc rows w h hL hx' hR hk hh hs).mono fun e w' ⟨h1, h2⟩ => ?_
   cases hl : lensB B.pl rows
   ·exact ⟨.inr ⟨rfl, (h2 hl).1⟩, (h2 hl).2⟩
   ·obtain ⟨ea, ec, he, hE, hB⟩ := h1 hl
    exact ⟨.inl ⟨rfl, ea, ec, he, hE⟩, hB⟩
def canB (c : Bc) (L : List Int) (n x : Nat) : Bool := heldB c L && (sizeB x && decide (n = c.cs.length))
theorem stf_can (c : Bc) (L : List Int) (x : Nat) (a : Option Addr) (n cap : Nat) : stfB c L x [(a, n, cap)] = canB c L n x := by
 unfold stfB canB lensB; simp
theorem can_parts {c : Bc} {L : List Int} {n x : Nat} (h : canB c L n x = true) : bodyB c = true ∧ riseB c.cs.length L = true ∧ sizeB x = true ∧ n = c.cs.length := by
 unfold canB heldB at h
 simp only [Bool.and_eq_true, decide_eq_true_eq] at h
 exact ⟨h.1.1, h.1.2, h.2.1, h.2.2⟩
theorem body64 {c : Bc} (h : bodyB c = true) : c.cs.length ≤ 64 := (valid_pl (body_valid h).1).1
end Go.Proofs.YtabccmobmppdnaaGreat
namespace Go.Proofs.YtabccmobmppdnaaGreat
open Go Fk Go.RowKit
set_option linter.unusedVariables false
set_option maxRecDepth 16000
set_option maxHeartbeats 4000000 in
theorem l03Energy (pb : Nat) (B : Bd) (c : Bc) (w : World) (A : At w pb B.l) (h : IsB w B c) (hb : bodyB c = true) :
  Calls Tryz.prog 91 #[.pointer (some ⟨pb, 0, none⟩)] w fun e w' => ∃ r, e = .returned (.float .f32 r) ∧ FV .f32 r (fop .add .f32 (fop .add .f32 (fop .add .f32 (partC c.cs (ens c) 0) (partC c.cs (ens c) 1)) (partC c.cs (ens c) 2)) (partC c.cs (ens c) 3)) ∧ Below w.heap.size w w' := by
 have u := Tryz.underlying27
 have JP := Lib.hid (l03Parts pb B c w A h hb)
 clear A h hb
 generalize partC c.cs (ens c) = P at *
 go_enter Tryz.func91, Tryz.ntmps91
 go_wp2_with fail
 refine JP.out.mono ?_
 rintro e w1 ⟨p, sb, rfl, hB, hF⟩
 have HB := Lib.hid hB
 have HF := Lib.hid hF
 clear hB hF
 go_wp2_with fail
 refine Reg.wp_region_mix (C := fun w' => Below w1.heap.size w1 w') (G := fun _ _ => True) (R := fun i v w' => match i with | 0 => v = .slice (some ⟨sb, 0, none⟩) 4 4 | 1 => v = .pointer (some ⟨sb, 0, none⟩) | 2 => v = .float .f32 (p 0) | 3 => v = .slice (some ⟨sb, 0, none⟩) 4 4 | 4 => v = .pointer (some ⟨sb, 1, none⟩) | 5 => v = .float .f32 (p 1) | 6 => ∃ r, v = .float .f32 r ∧ FV .f32 r (fop .add .f32 (P 0) (P 1)) | 7 => v = .slice (some ⟨sb, 0, none⟩) 4 4 | 8 => v = .pointer (some ⟨sb, 2, none⟩) | 9 => v = .float .f32 (p 2) | 10 => ∃ r, v = .float .f32 r ∧ FV .f32 r (fop .add .f32 (fop .add .f32 (P 0) (P 1)) (P 2)) | 11 => v = .slice (some ⟨sb, 0, none⟩) 4 4 | 12 => v = .pointer (some ⟨sb, 3, none⟩) | 13 => v = .float .f32 (p 3) | 14 => ∃ r, v = .float .f32 r ∧ FV .f32 r (fop .add .f32 (fop .add .f32 (fop .add .f32 (P 0) (P 1)) (P 2)) (P 3)) | 15 => ∃ r, v = .float .f32 r ∧ FV .f32 r (fop .add .f32 (fop .add .f32 (fop .add .f32 (P 0) (P 1)) (P 2)) (P 3)) | _ => True) (T := fun _ _ _ => True) [false, false, true, false, false, false, true, true, true, true, true, true, true, true, true, true, true, true, true, true, true]
  (by kernel_rfl) (by kernel_rfl) (by kernel_rfl) (fun _ _ _ _ _ _ h => h) (below_drewN (Below.refl _ _) 1) ?_ ?_
 ·refine ⟨Reg.Obl.mk ?_, Reg.Obl.mk ?_, Reg.Obl.mk ?_, Reg.Obl.mk ?_, Reg.Obl.mk ?_, Reg.Obl.mk ?_, Reg.Obl.mk ?_, Reg.Obl.mk ?_, Reg.Obl.mk ?_, Reg.Obl.mk ?_, Reg.Obl.mk ?_, Reg.Obl.mk ?_, Reg.Obl.mk ?_, Reg.Obl.mk ?_, Reg.Obl.mk ?_, Reg.Obl.mk ?_, trivial⟩
  ·rintro a w2 HC hx hd K hK
   replace HC := Lib.hid HC
   have t3 : a.tmps[3]?.getD undef = .slice (some ⟨sb, 0, none⟩) 4 4 := Reg.slot_val (hx 3 (by kernel_rfl))
   go_simp
   exact hK _ _ (fun _ => rfl) (fun h => by cases h) HC.out trivial
  ·rintro a w2 HC hx hd K hK
   replace HC := Lib.hid HC
   have t6 : a.tmps[6]?.getD undef = .slice (some ⟨sb, 0, none⟩) 4 4 := Reg.slot_val (hd 0 (by kernel_rfl) 6 rfl)
   go_simp
   exact hK _ _ (fun _ => rfl) (fun h => by cases h) HC.out trivial
  ·rintro a w2 HC hx hd K hK
   replace HC := Lib.hid HC
   have t7 : a.tmps[7]?.getD undef = .pointer (some ⟨sb, 0, none⟩) := Reg.slot_val (hd 1 (by kernel_rfl) 7 rfl)
   have z9 := cell_below HC.out ((HB.out.mem (.head _)) 0 _ rfl)
   go_simp
   exact hK _ _ (fun _ => rfl) (fun h => by cases h) HC.out trivial
  ·rintro a w2 HC hx hd K hK
   replace HC := Lib.hid HC
   have t3 : a.tmps[3]?.getD undef = .slice (some ⟨sb, 0, none⟩) 4 4 := Reg.slot_val (hx 3 (by kernel_rfl))
   go_simp
   exact hK _ _ (fun _ => rfl) (fun h => by cases h) HC.out trivial
  ·rintro a w2 HC hx hd K hK
   replace HC := Lib.hid HC
   have t9 : a.tmps[9]?.getD undef = .slice (some ⟨sb, 0, none⟩) 4 4 := Reg.slot_val (hd 3 (by kernel_rfl) 9 rfl)
   go_simp
   exact hK _ _ (fun _ => rfl) (fun h => by cases h) HC.out trivial
  ·rintro a w2 HC hx hd K hK
   replace HC := Lib.hid HC
   have t10 : a.tmps[10]?.getD undef = .pointer (some ⟨sb, 1, none⟩) := Reg.slot_val (hd 4 (by kernel_rfl) 10 rfl)
   have z9 := cell_below HC.out ((HB.out.mem (.head _)) 1 _ rfl)
   go_simp
   exact hK _ _ (fun _ => rfl) (fun h => by cases h) HC.out trivial
  ·rintro a w2 HC hx hd K hK
   replace HC := Lib.hid HC
   have t8 : a.tmps[8]?.getD undef = .float .f32 (p 0) := Reg.slot_val (hd 2 (by kernel_rfl) 8 rfl)
   have t11 : a.tmps[11]?.getD undef = .float .f32 (p 1) := Reg.slot_val (hd 5 (by kernel_rfl) 11 rfl)
   go_simp
   exact hK _ _ (fun _ => ⟨_, rfl, FV_fR (HF.out 0 (by decide)) (HF.out 1 (by decide))⟩) (fun h => by cases h) (below_drewN HC.out _) trivial
  ·rintro a w2 HC hx hd K hK
   replace HC := Lib.hid HC
   have t3 : a.tmps[3]?.getD undef = .slice (some ⟨sb, 0, none⟩) 4 4 := Reg.slot_val (hx 3 (by kernel_rfl))
   go_simp
   exact hK _ _ (fun _ => rfl) (fun h => by cases h) HC.out trivial
  ·rintro a w2 HC hx hd K hK
   replace HC := Lib.hid HC
   have t13 : a.tmps[13]?.getD undef = .slice (some ⟨sb, 0, none⟩) 4 4 := Reg.slot_val (hd 7 (by kernel_rfl) 13 rfl)
   go_simp
   exact hK _ _ (fun _ => rfl) (fun h => by cases h) HC.out trivial
  ·rintro a w2 HC hx hd K hK
   replace HC := Lib.hid HC
   have t14 : a.tmps[14]?.getD undef = .pointer (some ⟨sb, 2, none⟩) := Reg.slot_val (hd 8 (by kernel_rfl) 14 rfl)
   have z9 := cell_below HC.out ((HB.out.mem (.head _)) 2 _ rfl)
   go_simp
   exact hK _ _ (fun _ => rfl) (fun h => by cases h) HC.out trivial
  ·rintro a w2 HC hx hd K hK
   replace HC := Lib.hid HC
   obtain ⟨r12, g12, f12⟩ := hd 6 (by kernel_rfl) 12 rfl
   have t12 := Reg.slot_val g12
   clear g12
   have t15 : a.tmps[15]?.getD undef = .float .f32 (p 2) := Reg.slot_val (hd 9 (by kernel_rfl) 15 rfl)
   go_simp
   exact hK _ _ (fun _ => ⟨_, rfl, FV_fR f12 (HF.out 2 (by decide))⟩) (fun h => by cases h) (below_drewN HC.out _) trivial
  ·rintro a w2 HC hx hd K hK
   replace HC := Lib.hid HC
   have t3 : a.tmps[3]?.getD undef = .slice (some ⟨sb, 0, none⟩) 4 4 := Reg.slot_val (hx 3 (by kernel_rfl))
   go_simp
   exact hK _ _ (fun _ => rfl) (fun h => by cases h) HC.out trivial
  ·rintro a w2 HC hx hd K hK
   replace HC := Lib.hid HC
   have t17 : a.tmps[17]?.getD undef = .slice (some ⟨sb, 0, none⟩) 4 4 := Reg.slot_val (hd 11 (by kernel_rfl) 17 rfl)
   go_simp
   exact hK _ _ (fun _ => rfl) (fun h => by cases h) HC.out trivial
  ·rintro a w2 HC hx hd K hK
   replace HC := Lib.hid HC
   have t18 : a.tmps[18]?.getD undef = .pointer (some ⟨sb, 3, none⟩) := Reg.slot_val (hd 12 (by kernel_rfl) 18 rfl)
   have z9 := cell_below HC.out ((HB.out.mem (.head _)) 3 _ rfl)
   go_simp
   exact hK _ _ (fun _ => rfl) (fun h => by cases h) HC.out trivial
  ·rintro a w2 HC hx hd K hK
   replace HC := Lib.hid HC
   obtain ⟨r16, g16, f16⟩ := hd 10 (by kernel_rfl) 16 rfl
   have t16 := Reg.slot_val g16
   clear g16
   have t19 : a.tmps[19]?.getD undef = .float .f32 (p 3) := Reg.slot_val (hd 13 (by kernel_rfl) 19 rfl)
   go_simp
   exact hK _ _ (fun _ => ⟨_, rfl, FV_fR f16 (HF.out 3 (by decide))⟩) (fun h => by cases h) (below_drewN HC.out _) trivial
  ·rintro a w2 HC hx hd K hK
   replace HC := Lib.hid HC
   obtain ⟨r20, g20, f20⟩ := hd 14 (by kernel_rfl) 20 rfl
   have t20 := Reg.slot_val g20
   clear g20
   go_simp
   exact hK _ _ (fun _ => ⟨_, rfl, f20⟩) (fun h => by cases h) HC.out trivial
 ·rintro f wz hBz hR hT
  obtain ⟨r, e2, hr⟩ := hR 15 2 rfl
  simp only [Reg.mixL, Nat.zero_add, Nat.reduceAdd, e2]
  have HBz := Lib.hid (HB.out.bel.trans (hBz.mono HB.out.bel.size))
  have HR := Lib.hid hr
  clear hR hT hBz hr e2
  go_wp2
  go_ret
  exact ⟨r, rfl, HR.out, HBz.out⟩
end Go.Proofs.YtabccmobmppdnaaGreat
namespace Go.Proofs.YtabccmobmppdnaaGreat
open Go Fk Go.RowKit
set_option linter.unusedVariables false
set_option maxRecDepth 16000
def sum4 (cs : List C3) (es : List En) : Option Nat := fop .add .f32 (fop .add .f32 (fop .add .f32 (partC cs es 0) (partC cs es 1)) (partC cs es 2)) (partC cs es 3)
def engC (c : Bc) (ys : List C3) (d : Option Nat) : Option Nat := sum4 (mkM c.cs ys d c.cs.length c.cs.length) (ens c)
set_option maxHeartbeats 4000000 in
theorem impl_energyAt (B : Bd) (ha la pa : Option Addr) (hl hc lc pl pc : Nat) (cs : List C3) (es : List En) (w : World) (h : IsVs w pa pl pc cs) (hE : EnS w la es) (hn : es.length ≤ 8192) (hok : ∀ j, j < es.length → (es.getD j (.sp s0)).ok pl) :
  Calls Tryz.prog 93 #[HbV B ha la hl hc es.length lc, .slice pa pl pc] w fun en w' => ∃ r, en = .returned (.float .f32 r) ∧ FV .f32 r (sum4 cs es) ∧ Below w.heap.size w w' := by
 have uh := Tryz.underlying107
 have BX := Lib.hid ((Bx.nil w).box (vs := HbL B ha la hl hc es.length lc) (t := 107))
 have J := Lib.hid (fun w1 (hB : Below w.heap.size w w1) => impl_sumEnergy pa la pl pc lc cs es w1 (h.below hB) (hE.below hB) hn hok)
 unfold sum4
 clear h hE hok hn
 generalize es.length = n at *
 go_enter Tryz.func93, Tryz.ntmps93
 go_wp2_with fail
 change Calls _ _ _ (w.alloc (.cells (HbL B ha la hl hc n lc).toArray 107)) _
 have BX1 := Lib.hid BX.out
 generalize (w.alloc (.cells (HbL B ha la hl hc n lc).toArray 107)) = W at *
 refine (J.out W BX1.out.bel).mono ?_
 rintro e w1 ⟨r, rfl, hr, hB⟩
 have HR := Lib.hid hr
 have BX2 := Lib.hid (BX1.out.call hB)
 clear hr hB
 go_wp2
 go_ret
 exact ⟨r, rfl, HR.out, BX2.out.bel⟩
abbrev nilC : Bc := ⟨[], [], [], [], some 0, some 0, z3⟩
def pusG (c : Bc) (ys : List C3) (p : Option Nat) : Bool := ford .f32 (engC c ys p) (engC c ys (negC32 p)) == some .gt
def pusC (c : Bc) (ys : List C3) (p : Option Nat) : Bc := bif pusG c ys p then mvC c ys (negC32 p) else mvC c ys p
def pusO (c : Bc) (ys : List C3) (d e : Option Nat) (n x : Nat) : Bc := bif canB c [] n x then pusC c ys (fop .mul .f32 d e) else nilC
theorem isis_nil (w : World) : IsIs w none 0 0 [] := ⟨rfl, Nat.le_refl _, Nat.zero_le _, fun z hz => absurd hz (by simp), fun _ => ⟨rfl, rfl⟩, fun x hx => by cases hx⟩
set_option maxHeartbeats 8000000 in
theorem impl_PushedBody (B : Bd) (c : Bc) (a1 : Option Addr) (n1 c1 : Nat) (y1 : List C3) (x2 : Nat) (d2 : Option Nat) (x3 : Nat) (d3 : Option Nat) (w : World) (h : IsB w B c) (h1 : IsVs w a1 n1 c1 y1) (h2 : FV .f32 x2 d2) (g2 : x2 < 4294967296) (h3 : FV .f32 x3 d3) (g3 : x3 < 4294967296) :
  Calls Tryz.prog 46 #[B.v, .slice a1 n1 c1, .float .f32 x2, .float .f32 x3] w fun e w' => (∃ (B' : Bd) (F : Nat), e = .returned (.tuple #[B'.v, .bool (canB c [] n1 x3)]) ∧ IsB w' B' (pusO c y1 d2 d3 n1 x3) ∧ GB w.heap.size w'.heap.size w' B' F) ∧ Below w.heap.size w w' := by
 have uib := Tryz.underlying44
 have uim := Tryz.underlying40
 have us := Tryz.underlying109
 have uh := Tryz.underlying107
 have uv := Tryz.underlying36
 have u := Tryz.underlying27
 have bx1 := (Bx.nil w).box (vs := B.l) (t := 44)
 have bx2 := bx1.box (vs := Z9') (t := 44)
 have bx3 := bx2.box (vs := [.slice a1 n1 c1]) (t := 36)
 simp at bx3
 have BX := Lib.hid bx3
 have hpl : c.cs.length = B.pl := h.1.1
 have H := Lib.hid h
 have HV := Lib.hid h1
 have HX2 := Lib.hid h2
 have HX3 := Lib.hid h3
 have JS := Lib.hid (fun la lc w1 hb hr => stiff_all B c none 0 0 [] x3 la lc [(a1, n1, c1)] w1 hb (isis_nil w1) g3 hr (by simp))
 rw [stf_can] at JS
 cases hc : canB c [] n1 x3
 ·rw [hc] at JS
  have he : pusO c y1 d2 d3 n1 x3 = nilC := by unfold pusO; rw [hc]; rfl
  rw [he]
  clear h h1 h2 h3 bx1 bx2 bx3 hpl hc he
  go_enter Tryz.func46, Tryz.ntmps46
  go_wp2_with fail
  generalize hW : ((w.alloc (BoxB B 44)).alloc (.cells #[.slice none 0 0, .slice none 0 0, .slice none 0 0, .float .f32 0, .float .f32 0, .slice none 0 0, .float .f32 0, .float .f32 0, .float .f32 0] 44)).alloc (.cells #[.slice a1 n1 c1] 36) = W
  have BX1 : Hid (Bx w [(w.heap.size + 1 + 1, [.slice a1 n1 c1]), (w.heap.size + 1, Z9'), (w.heap.size, B.l)] W) := Lib.hid (hW ▸ BX.out)
  clear BX hW
  have HRW : Hid (RowsS W (some ⟨w.heap.size + 1 + 1, 0, none⟩) [(a1, n1, c1)]) := Lib.hid (fun j hj => by
   obtain rfl : j = 0 := by simpa using hj
   exact ⟨_, rfl, (BX1.out.mem (.head _)) 0 _ rfl⟩)
  refine (JS.out (some ⟨w.heap.size + 1 + 1, 0, none⟩) _ W (H.out.below BX1.out.bel) HRW.out).mono ?_
  rintro e w1 ⟨⟨hc, _⟩ | ⟨_, rfl⟩, hB1⟩
  ·cases hc
  have BX2 := Lib.hid (BX1.out.call hB1)
  have LT : Hid (w.heap.size + 1 < w1.heap.size) := Lib.hid ((BX2.out.2 _ _ (.tail _ (.head _))).2.2.1)
  have BX3 := Lib.hid (BX2.out.box (vs := Z14) (t := 109))
  have BX4 := Lib.hid (BX3.out.re (L' := [(w.heap.size + 1, Z9'), (w1.heap.size, Z14), (w.heap.size, B.l)]) (fun x hx => by simp only [List.mem_cons, List.not_mem_nil, or_false] at hx ⊢; rcases hx with h | h | h <;> simp [h]))
  clear hB1 BX3 BX1 JS HRW
  have q0 := (BX4.out.mem (.head _)) 0 _ rfl
  have p0 := BX4.out.free (.head _) 0
  have q1 := (BX4.out.mem (.head _)) 1 _ rfl
  have p1 := BX4.out.free (.head _) 1
  have q2 := (BX4.out.mem (.head _)) 2 _ rfl
  have p2 := BX4.out.free (.head _) 2
  have q3 := (BX4.out.mem (.head _)) 3 _ rfl
  have p3 := BX4.out.free (.head _) 3
  have q4 := (BX4.out.mem (.head _)) 4 _ rfl
  have p4 := BX4.out.free (.head _) 4
  have q5 := (BX4.out.mem (.head _)) 5 _ rfl
  have p5 := BX4.out.free (.head _) 5
  have q6 := (BX4.out.mem (.head _)) 6 _ rfl
  have p6 := BX4.out.free (.head _) 6
  have q7 := (BX4.out.mem (.head _)) 7 _ rfl
  have p7 := BX4.out.free (.head _) 7
  have q8 := (BX4.out.mem (.head _)) 8 _ rfl
  have p8 := BX4.out.free (.head _) 8
  have BZ := Lib.hid (Bx.setAll (vs := Z9') BX4.out (fun b' l' hm => by simp only [List.mem_cons, Prod.mk.injEq, List.not_mem_nil, or_false] at hm; have hz := LT.out; omega) rfl)
  simp only [setL, Nat.zero_add, Nat.reduceAdd] at BZ
  go_wp2
  clear q0 q1 q2 q3 q4 q5 q6 q7 q8 p0 p1 p2 p3 p4 p5 p6 p7 p8
  have m0 := (BZ.out.mem (.head _)) 0 _ rfl
  have m1 := (BZ.out.mem (.head _)) 1 _ rfl
  have m2 := (BZ.out.mem (.head _)) 2 _ rfl
  have m3 := (BZ.out.mem (.head _)) 3 _ rfl
  have m4 := (BZ.out.mem (.head _)) 4 _ rfl
  have m5 := (BZ.out.mem (.head _)) 5 _ rfl
  have m6 := (BZ.out.mem (.head _)) 6 _ rfl
  have m7 := (BZ.out.mem (.head _)) 7 _ rfl
  have m8 := (BZ.out.mem (.head _)) 8 _ rfl
  refine bodyPost_ret (v := .tuple #[nilB.v, .bool false]) (by simp [results, Tryz.results46, go_sem, nilB, m0, m1, m2, m3, m4, m5, m6, m7, m8]) rfl ?_
  exact ⟨⟨nilB, 0, rfl, nil_isb _, nil_gb _ _ _ _⟩, BZ.out.bel⟩
 ·rw [hc] at JS
  obtain ⟨q1, q2, q3, q4⟩ := can_parts hc
  have hn : n1 = B.pl := q4.trans hpl
  subst hn
  have he : pusO c y1 d2 d3 B.pl x3 = pusC c y1 (fop .mul .f32 d2 d3) := by unfold pusO; rw [hc]; rfl
  rw [he]
  obtain ⟨hel, hok⟩ := ens_ok q1
  rw [hpl] at hok
  have HPL : Hid (B.pl ≤ 64) := Lib.hid (by have := body64 q1; omega)
  obtain ⟨s1, s2, s3, s4, s5⟩ := body_sizes q1
  have hln := h.lens
  have H3 : Hid (∀ k, k < B.tl → (c.ts.getD k []).length = 3) := Lib.hid (fun k hk => s5 k (by omega))
  have HBL : Hid (B.tl ≤ 128 ∧ B.sl ≤ 1000 ∧ B.wl ≤ 1000) := Lib.hid ⟨by omega, by omega, by omega⟩
  have JE := Lib.hid (fun la lc pa pc cs w1 k1 k2 => impl_energyAt B none la pa 0 0 lc B.pl pc cs (ens c) w1 k1 k2 hel hok)
  have JP := Lib.hid (fun pa pc d w1 k1 k2 => impl_placed B c pa B.pl pc (mkM c.cs y1 d B.pl B.pl) w1 k1 k2 (by have := HPL.out; omega) H3.out HBL.out.1 HBL.out.2.1 HBL.out.2.2)
  have HEN : Hid (∀ d, sum4 (mkM c.cs y1 d B.pl B.pl) (ens c) = engC c y1 d) := Lib.hid (fun d => by unfold engC; rw [hpl])
  have HMV : Hid (∀ d, (⟨mkM c.cs y1 d B.pl B.pl, c.ts, c.ss, c.zs, c.film, c.bend, c.fall⟩ : Bc) = mvC c y1 d) := Lib.hid (fun d => by unfold mvC; rw [hpl])
  clear h h1 h2 h3 bx1 bx2 bx3 hpl hc he q1 q2 q3 q4 s1 s2 s3 s4 s5 hln hel hok
  unfold pusC pusG
  generalize engC c y1 = EG at *
  generalize hes : ens c = es at *
  generalize hnn : es.length = nn at *
  clear hes hnn
  go_enter Tryz.func46, Tryz.ntmps46
  go_wp2_with fail
  generalize hW : ((w.alloc (BoxB B 44)).alloc (.cells #[.slice none 0 0, .slice none 0 0, .slice none 0 0, .float .f32 0, .float .f32 0, .slice none 0 0, .float .f32 0, .float .f32 0, .float .f32 0] 44)).alloc (.cells #[.slice a1 B.pl c1] 36) = W
  have BX1 : Hid (Bx w [(w.heap.size + 1 + 1, [.slice a1 B.pl c1]), (w.heap.size + 1, Z9'), (w.heap.size, B.l)] W) := Lib.hid (hW ▸ BX.out)
  clear BX hW
  have HRW : Hid (RowsS W (some ⟨w.heap.size + 1 + 1, 0, none⟩) [(a1, B.pl, c1)]) := Lib.hid (fun j hj => by
   obtain rfl : j = 0 := by simpa using hj
   exact ⟨_, rfl, (BX1.out.mem (.head _)) 0 _ rfl⟩)
  refine (JS.out (some ⟨w.heap.size + 1 + 1, 0, none⟩) _ W (H.out.below BX1.out.bel) HRW.out).mono ?_
  rintro e w1 ⟨⟨_, la, lc, rfl, hE⟩ | ⟨hc, _⟩, hB1⟩
  case inr => cases hc
  have BX2 := Lib.hid (BX1.out.call hB1)
  have LT : Hid (w.heap.size + 1 < w1.heap.size) := Lib.hid ((BX2.out.2 _ _ (.tail _ (.head _))).2.2.1)
  have BX3 := Lib.hid (BX2.out.box (vs := StL B none la 0 0 nn lc x3 0 none 0 0) (t := 109))
  have hX : Below w1.heap.size w1 (w1.alloc (.cells (StL B none la 0 0 nn lc x3 0 none 0 0).toArray 109)) := (Below.refl _ _).alloc (Nat.le_refl _) _
  have HE := Lib.hid (hE.ens.below hX)
  clear hE hB1 hX JS HRW BX1 BX2
  go_wp2_with fail
  have BX4 := Lib.hid BX3.out
  change Calls _ _ _ (w1.alloc (.cells (StL B none la 0 0 nn lc x3 0 none 0 0).toArray 109)) _
  generalize (w1.alloc (.cells (StL B none la 0 0 nn lc x3 0 none 0 0).toArray 109)) = W2 at *
  generalize w1.heap.size = S at *
  clear BX3
  refine (impl_product32 _ _ _ _ _ HX2.out HX3.out).mono ?_
  rintro e w2 ⟨q, rfl, hq, nd, hw⟩
  have hB : Below W2.heap.size W2 w2 := by rw [hw]; exact below_drewN (Below.refl _ _) _
  have BX5 := Lib.hid (BX4.out.call hB)
  have HE5 := Lib.hid (HE.out.below hB)
  have HQ := Lib.hid hq
  have HNQ : Hid (FV .f32 (Op.negFloat .f32 q) (negC32 (fop .mul .f32 d2 d3))) := Lib.hid (FV_neg32 hq)
  generalize hDD : fop .mul .f32 d2 d3 = DD at *
  have HDD := Lib.hid hDD
  clear hB hw hq BX4 HE hDD
  go_wp2_with fail
  refine Reg.wp_region_mix (C := fun w' => Below w2.heap.size w2 w') (G := fun w1 w2 => Below w1.heap.size w1 w2) (R := fun i v w' => match i with
   | 0 => v = .pointer (some ⟨w.heap.size, 0, none⟩)
   | 1 => v = .pointer (some ⟨w.heap.size, 0, none⟩)
   | 2 => v = .slice B.pa B.pl B.pc
   | 3 => v = .slice a1 B.pl c1
   | 4 => v = .float .f32 q
   | 5 => ∃ g, v = .slice (some ⟨g, 0, none⟩) B.pl B.pl ∧ OwnVs w' g (mkM c.cs y1 DD B.pl B.pl)
   | 6 => v = .pointer (some ⟨w.heap.size, 0, none⟩)
   | 7 => v = .pointer (some ⟨w.heap.size, 0, none⟩)
   | 8 => v = .slice B.pa B.pl B.pc
   | 9 => v = .slice a1 B.pl c1
   | 10 => v = .float .f32 q
   | 11 => v = .float .f32 (Op.negFloat .f32 q)
   | 12 => ∃ g, v = .slice (some ⟨g, 0, none⟩) B.pl B.pl ∧ OwnVs w' g (mkM c.cs y1 (negC32 DD) B.pl B.pl)
   | 13 => ∃ g, v = .slice (some ⟨g, 0, none⟩) B.pl B.pl ∧ OwnVs w' g (mkM c.cs y1 DD B.pl B.pl)
   | 14 => ∃ g, v = .slice (some ⟨g, 0, none⟩) B.pl B.pl ∧ OwnVs w' g (mkM c.cs y1 (negC32 DD) B.pl B.pl)
   | _ => True) (T := fun _ _ _ => True) [false, false, false, false, false, false, false, false, false, false, false, false, false, true, true, false, false, false, false, false, false, false, false, false, false, false, false, false, false, true, true, true, true, true, true, true, true, true, true, true, true, true, false, false, false, false, false, false, false, false, false, false, false, false, false, false, false, false, false, false, false]
   (by kernel_rfl) (by kernel_rfl) (by kernel_rfl) ?_ (below_drewN (Below.refl _ _) 1) ?_ ?_
  ·intro j v wa wb _ hG hR
   match j with
   | 0 => exact hR
   | 1 => exact hR
   | 2 => exact hR
   | 3 => exact hR
   | 4 => exact hR
   | 5 => obtain ⟨g, e, h⟩ := hR; exact ⟨g, e, h.below hG⟩
   | 6 => exact hR
   | 7 => exact hR
   | 8 => exact hR
   | 9 => exact hR
   | 10 => exact hR
   | 11 => exact hR
   | 12 => obtain ⟨g, e, h⟩ := hR; exact ⟨g, e, h.below hG⟩
   | 13 => obtain ⟨g, e, h⟩ := hR; exact ⟨g, e, h.below hG⟩
   | 14 => obtain ⟨g, e, h⟩ := hR; exact ⟨g, e, h.below hG⟩
   | _ + 15 => trivial
  ·refine ⟨Reg.Obl.mk ?_, Reg.Obl.mk ?_, Reg.Obl.mk ?_, Reg.Obl.mk ?_, Reg.Obl.mk ?_, Reg.Obl.mk ?_, Reg.Obl.mk ?_, Reg.Obl.mk ?_, Reg.Obl.mk ?_, Reg.Obl.mk ?_, Reg.Obl.mk ?_, Reg.Obl.mk ?_, Reg.Obl.mk ?_, Reg.Obl.mk ?_, Reg.Obl.mk ?_, trivial⟩
   ·rintro av wq HC hx hd K hK
    replace HC := Lib.hid HC
    have t4 : av.tmps[4]?.getD undef = .pointer (some ⟨w.heap.size, 0, none⟩) := Reg.slot_val (hx 4 (by kernel_rfl))
    go_simp
    exact hK _ _ (fun _ => rfl) (fun h => by cases h) HC.out (Below.refl _ _)
   ·rintro av wq HC hx hd K hK
    replace HC := Lib.hid HC
    have t29 : av.tmps[29]?.getD undef = .pointer (some ⟨w.heap.size, 0, none⟩) := Reg.slot_val (hd 0 (by kernel_rfl) 29 rfl)
    go_simp
    exact hK _ _ (fun _ => rfl) (fun h => by cases h) HC.out (Below.refl _ _)
   ·rintro av wq HC hx hd K hK
    replace HC := Lib.hid HC
    have t30 : av.tmps[30]?.getD undef = .pointer (some ⟨w.heap.size, 0, none⟩) := Reg.slot_val (hd 1 (by kernel_rfl) 30 rfl)
    have y := ((BX5.out.call HC.out).mem (.tail _ (.tail _ (.tail _ (.head _))))) 0 _ rfl
    go_simp
    exact hK _ _ (fun _ => rfl) (fun h => by cases h) HC.out (Below.refl _ _)
   ·rintro av wq HC hx hd K hK
    replace HC := Lib.hid HC
    have t1 : av.tmps[1]?.getD undef = .slice a1 B.pl c1 := Reg.slot_val (hx 1 (by kernel_rfl))
    go_simp
    exact hK _ _ (fun _ => rfl) (fun h => by cases h) HC.out (Below.refl _ _)
   ·rintro av wq HC hx hd K hK
    replace HC := Lib.hid HC
    have t12 : av.tmps[12]?.getD undef = .float .f32 q := Reg.slot_val (hx 12 (by kernel_rfl))
    go_simp
    exact hK _ _ (fun _ => rfl) (fun h => by cases h) HC.out (Below.refl _ _)
   ·rintro av wq HC hx hd K hK
    replace HC := Lib.hid HC
    have t31 : av.tmps[31]?.getD undef = .slice B.pa B.pl B.pc := Reg.slot_val (hd 2 (by kernel_rfl) 31 rfl)
    have t32 : av.tmps[32]?.getD undef = .slice a1 B.pl c1 := Reg.slot_val (hd 3 (by kernel_rfl) 32 rfl)
    have t33 : av.tmps[33]?.getD undef = .float .f32 q := Reg.slot_val (hd 4 (by kernel_rfl) 33 rfl)
    go_simp
    refine (impl_addScaled _ _ _ _ _ c.cs y1 _ _ _ (H.out.below (BX5.out.call HC.out).bel).1 (HV.out.below (BX5.out.call HC.out).bel) HQ.out (by have := HPL.out; omega)).mono ?_
    rintro en w9 ⟨g, rfl, hO, _, hB9⟩
    exact hK _ _ (fun _ => ⟨g, rfl, hO⟩) (fun h => by cases h) (HC.out.trans (hB9.mono HC.out.size)) hB9
   ·rintro av wq HC hx hd K hK
    replace HC := Lib.hid HC
    have t4 : av.tmps[4]?.getD undef = .pointer (some ⟨w.heap.size, 0, none⟩) := Reg.slot_val (hx 4 (by kernel_rfl))
    go_simp
    exact hK _ _ (fun _ => rfl) (fun h => by cases h) HC.out (Below.refl _ _)
   ·rintro av wq HC hx hd K hK
    replace HC := Lib.hid HC
    have t35 : av.tmps[35]?.getD undef = .pointer (some ⟨w.heap.size, 0, none⟩) := Reg.slot_val (hd 6 (by kernel_rfl) 35 rfl)
    go_simp
    exact hK _ _ (fun _ => rfl) (fun h => by cases h) HC.out (Below.refl _ _)
   ·rintro av wq HC hx hd K hK
    replace HC := Lib.hid HC
    have t36 : av.tmps[36]?.getD undef = .pointer (some ⟨w.heap.size, 0, none⟩) := Reg.slot_val (hd 7 (by kernel_rfl) 36 rfl)
    have y := ((BX5.out.call HC.out).mem (.tail _ (.tail _ (.tail _ (.head _))))) 0 _ rfl
    go_simp
    exact hK _ _ (fun _ => rfl) (fun h => by cases h) HC.out (Below.refl _ _)
   ·rintro av wq HC hx hd K hK
    replace HC := Lib.hid HC
    have t1 : av.tmps[1]?.getD undef = .slice a1 B.pl c1 := Reg.slot_val (hx 1 (by kernel_rfl))
    go_simp
    exact hK _ _ (fun _ => rfl) (fun h => by cases h) HC.out (Below.refl _ _)
   ·rintro av wq HC hx hd K hK
    replace HC := Lib.hid HC
    have t12 : av.tmps[12]?.getD undef = .float .f32 q := Reg.slot_val (hx 12 (by kernel_rfl))
    go_simp
    exact hK _ _ (fun _ => rfl) (fun h => by cases h) HC.out (Below.refl _ _)
   ·rintro av wq HC hx hd K hK
    replace HC := Lib.hid HC
    have t39 : av.tmps[39]?.getD undef = .float .f32 q := Reg.slot_val (hd 10 (by kernel_rfl) 39 rfl)
    go_simp
    exact hK _ _ (fun _ => rfl) (fun h => by cases h) HC.out (Below.refl _ _)
   ·rintro av wq HC hx hd K hK
    replace HC := Lib.hid HC
    have t37 : av.tmps[37]?.getD undef = .slice B.pa B.pl B.pc := Reg.slot_val (hd 8 (by kernel_rfl) 37 rfl)
    have t38 : av.tmps[38]?.getD undef = .slice a1 B.pl c1 := Reg.slot_val (hd 9 (by kernel_rfl) 38 rfl)
    have t40 : av.tmps[40]?.getD undef = .float .f32 (Op.negFloat .f32 q) := Reg.slot_val (hd 11 (by kernel_rfl) 40 rfl)
    go_simp
    refine (impl_addScaled _ _ _ _ _ c.cs y1 _ _ _ (H.out.below (BX5.out.call HC.out).bel).1 (HV.out.below (BX5.out.call HC.out).bel) HNQ.out (by have := HPL.out; omega)).mono ?_
    rintro en w9 ⟨g, rfl, hO, _, hB9⟩
    exact hK _ _ (fun _ => ⟨g, rfl, hO⟩) (fun h => by cases h) (HC.out.trans (hB9.mono HC.out.size)) hB9
   ·rintro av wq HC hx hd K hK
    replace HC := Lib.hid HC
    obtain ⟨g, g34, hO⟩ := hd 5 (by kernel_rfl) 34 rfl
    have t34 := Reg.slot_val g34
    have HO := Lib.hid hO
    clear g34 hO
    go_simp
    exact hK _ _ (fun _ => ⟨g, rfl, HO.out⟩) (fun h => by cases h) HC.out (Below.refl _ _)
   ·rintro av wq HC hx hd K hK
    replace HC := Lib.hid HC
    obtain ⟨g, g41, hO⟩ := hd 12 (by kernel_rfl) 41 rfl
    have t41 := Reg.slot_val g41
    have HO := Lib.hid hO
    clear g41 hO
    go_simp
    exact hK _ _ (fun _ => ⟨g, rfl, HO.out⟩) (fun h => by cases h) HC.out (Below.refl _ _)
  rintro f wa hC hd hT
  obtain ⟨ga, e13, hOa⟩ := hd 13 13 rfl
  obtain ⟨gb, e14, hOb⟩ := hd 14 14 rfl
  simp only [Reg.mixL, Nat.zero_add, Nat.reduceAdd, e13, e14]
  have BX6 := Lib.hid (BX5.out.call hC)
  have HE6 := Lib.hid (HE5.out.below hC)
  have OA := Lib.hid hOa
  have OB := Lib.hid hOb
  have IA : Hid (IsVs wa (some ⟨ga, 0, none⟩) B.pl B.pl (mkM c.cs y1 DD B.pl B.pl)) := Lib.hid (by have := hOa.is; rwa [mkM_len] at this)
  have IB : Hid (IsVs wa (some ⟨gb, 0, none⟩) B.pl B.pl (mkM c.cs y1 (negC32 DD) B.pl B.pl)) := Lib.hid (by have := hOb.is; rwa [mkM_len] at this)
  clear hC hd hT hOa hOb e13 e14 HE5 BX5 OA OB
  go_wp2_with fail
  refine Reg.wp_region_mix (C := fun w' => Below wa.heap.size wa w') (G := fun w1 w2 => Below w1.heap.size w1 w2) (R := fun i v w' => match i with
   | 0 => v = .pointer (some ⟨S, 0, none⟩)
   | 1 => v = HbV B none la 0 0 nn lc
   | 2 => v = .slice (some ⟨ga, 0, none⟩) B.pl B.pl
   | 3 => ∃ r, v = .float .f32 r ∧ FV .f32 r (EG DD)
   | 4 => v = .pointer (some ⟨S, 0, none⟩)
   | 5 => v = HbV B none la 0 0 nn lc
   | 6 => v = .slice (some ⟨gb, 0, none⟩) B.pl B.pl
   | 7 => ∃ r, v = .float .f32 r ∧ FV .f32 r (EG (negC32 DD))
   | 8 => v = .bool (ford .f32 (EG DD) (EG (negC32 DD)) == some .gt)
   | _ => True) (T := fun _ _ _ => True) [false, false, false, false, false, false, false, false, false, false, false, false, false, false, false, false, false, false, false, false, false, false, false, false, false, false, false, false, false, false, false, false, false, false, false, false, false, false, false, false, false, false, true, true, true, true, true, true, true, true, true, false, false, false, false, false, false, false, false, false, false]
   (by kernel_rfl) (by kernel_rfl) (by kernel_rfl) ?_ (below_drewN (Below.refl _ _) 1) ?_ ?_
  ·intro j v wa wb _ hG hR
   match j with
   | 0 => exact hR
   | 1 => exact hR
   | 2 => exact hR
   | 3 => exact hR
   | 4 => exact hR
   | 5 => exact hR
   | 6 => exact hR
   | 7 => exact hR
   | 8 => exact hR
   | _ + 9 => trivial
  ·refine ⟨Reg.Obl.mk ?_, Reg.Obl.mk ?_, Reg.Obl.mk ?_, Reg.Obl.mk ?_, Reg.Obl.mk ?_, Reg.Obl.mk ?_, Reg.Obl.mk ?_, Reg.Obl.mk ?_, Reg.Obl.mk ?_, trivial⟩
   ·rintro av wq HC hx hd K hK
    replace HC := Lib.hid HC
    have t10 : av.tmps[10]?.getD undef = .pointer (some ⟨S, 0, none⟩) := Reg.slot_val (hx 10 (by kernel_rfl))
    go_simp
    exact hK _ _ (fun _ => rfl) (fun h => by cases h) HC.out (Below.refl _ _)
   ·rintro av wq HC hx hd K hK
    replace HC := Lib.hid HC
    have t42 : av.tmps[42]?.getD undef = .pointer (some ⟨S, 0, none⟩) := Reg.slot_val (hd 0 (by kernel_rfl) 42 rfl)
    have y0 := ((BX6.out.call HC.out).mem (.head _)) 0 _ rfl
    have y1 := ((BX6.out.call HC.out).mem (.head _)) 1 _ rfl
    have y2 := ((BX6.out.call HC.out).mem (.head _)) 2 _ rfl
    have y3 := ((BX6.out.call HC.out).mem (.head _)) 3 _ rfl
    have y4 := ((BX6.out.call HC.out).mem (.head _)) 4 _ rfl
    have y5 := ((BX6.out.call HC.out).mem (.head _)) 5 _ rfl
    have y6 := ((BX6.out.call HC.out).mem (.head _)) 6 _ rfl
    have y7 := ((BX6.out.call HC.out).mem (.head _)) 7 _ rfl
    have y8 := ((BX6.out.call HC.out).mem (.head _)) 8 _ rfl
    have y9 := ((BX6.out.call HC.out).mem (.head _)) 9 _ rfl
    have y10 := ((BX6.out.call HC.out).mem (.head _)) 10 _ rfl
    go_simp
    exact hK _ _ (fun _ => rfl) (fun h => by cases h) HC.out (Below.refl _ _)
   ·rintro av wq HC hx hd K hK
    replace HC := Lib.hid HC
    have t13 : av.tmps[13]?.getD undef = .slice (some ⟨ga, 0, none⟩) B.pl B.pl := Reg.slot_val (hx 13 (by kernel_rfl))
    go_simp
    exact hK _ _ (fun _ => rfl) (fun h => by cases h) HC.out (Below.refl _ _)
   ·rintro av wq HC hx hd K hK
    replace HC := Lib.hid HC
    have t43 : av.tmps[43]?.getD undef = HbV B none la 0 0 nn lc := Reg.slot_val (hd 1 (by kernel_rfl) 43 rfl)
    have t44 : av.tmps[44]?.getD undef = .slice (some ⟨ga, 0, none⟩) B.pl B.pl := Reg.slot_val (hd 2 (by kernel_rfl) 44 rfl)
    go_simp
    refine (JE.out la lc _ _ _ _ (IA.out.below HC.out) (HE6.out.below HC.out)).mono ?_
    rintro en w9 ⟨r, rfl, hr, hB9⟩
    rw [HEN.out] at hr
    exact hK _ _ (fun _ => ⟨r, rfl, hr⟩) (fun h => by cases h) (HC.out.trans (hB9.mono HC.out.size)) hB9
   ·rintro av wq HC hx hd K hK
    replace HC := Lib.hid HC
    have t10 : av.tmps[10]?.getD undef = .pointer (some ⟨S, 0, none⟩) := Reg.slot_val (hx 10 (by kernel_rfl))
    go_simp
    exact hK _ _ (fun _ => rfl) (fun h => by cases h) HC.out (Below.refl _ _)
   ·rintro av wq HC hx hd K hK
    replace HC := Lib.hid HC
    have t46 : av.tmps[46]?.getD undef = .pointer (some ⟨S, 0, none⟩) := Reg.slot_val (hd 4 (by kernel_rfl) 46 rfl)
    have y0 := ((BX6.out.call HC.out).mem (.head _)) 0 _ rfl
    have y1 := ((BX6.out.call HC.out).mem (.head _)) 1 _ rfl
    have y2 := ((BX6.out.call HC.out).mem (.head _)) 2 _ rfl
    have y3 := ((BX6.out.call HC.out).mem (.head _)) 3 _ rfl
    have y4 := ((BX6.out.call HC.out).mem (.head _)) 4 _ rfl
    have y5 := ((BX6.out.call HC.out).mem (.head _)) 5 _ rfl
    have y6 := ((BX6.out.call HC.out).mem (.head _)) 6 _ rfl
    have y7 := ((BX6.out.call HC.out).mem (.head _)) 7 _ rfl
    have y8 := ((BX6.out.call HC.out).mem (.head _)) 8 _ rfl
    have y9 := ((BX6.out.call HC.out).mem (.head _)) 9 _ rfl
    have y10 := ((BX6.out.call HC.out).mem (.head _)) 10 _ rfl
    go_simp
    exact hK _ _ (fun _ => rfl) (fun h => by cases h) HC.out (Below.refl _ _)
   ·rintro av wq HC hx hd K hK
    replace HC := Lib.hid HC
    have t14 : av.tmps[14]?.getD undef = .slice (some ⟨gb, 0, none⟩) B.pl B.pl := Reg.slot_val (hx 14 (by kernel_rfl))
    go_simp
    exact hK _ _ (fun _ => rfl) (fun h => by cases h) HC.out (Below.refl _ _)
   ·rintro av wq HC hx hd K hK
    replace HC := Lib.hid HC
    have t47 : av.tmps[47]?.getD undef = HbV B none la 0 0 nn lc := Reg.slot_val (hd 5 (by kernel_rfl) 47 rfl)
    have t48 : av.tmps[48]?.getD undef = .slice (some ⟨gb, 0, none⟩) B.pl B.pl := Reg.slot_val (hd 6 (by kernel_rfl) 48 rfl)
    go_simp
    refine (JE.out la lc _ _ _ _ (IB.out.below HC.out) (HE6.out.below HC.out)).mono ?_
    rintro en w9 ⟨r, rfl, hr, hB9⟩
    rw [HEN.out] at hr
    exact hK _ _ (fun _ => ⟨r, rfl, hr⟩) (fun h => by cases h) (HC.out.trans (hB9.mono HC.out.size)) hB9
   ·rintro av wq HC hx hd K hK
    replace HC := Lib.hid HC
    obtain ⟨r, g45, f45⟩ := hd 3 (by kernel_rfl) 45 rfl
    have t45 := Reg.slot_val g45
    obtain ⟨r', g49, f49⟩ := hd 7 (by kernel_rfl) 49 rfl
    have t49 := Reg.slot_val g49
    have ho : (FloatKind.f32.format.order r r' == some .gt) = (ford .f32 (EG DD) (EG (negC32 DD)) == some .gt) := by rw [ford_of f45 f49]
    clear g45 g49 f45 f49
    go_simp
    exact hK _ _ (fun _ => by rw [← ho]; rfl) (fun h => by cases h) HC.out (Below.refl _ _)
  rintro f wb hC hd hT
  have e50 : f 50 = .bool (ford .f32 (EG DD) (EG (negC32 DD)) == some .gt) := hd 8 50 rfl
  simp only [Reg.mixL, Nat.zero_add, Nat.reduceAdd, e50]
  have BX7 := Lib.hid (BX6.out.call hC)
  have IA7 := Lib.hid (IA.out.below hC)
  have IB7 := Lib.hid (IB.out.below hC)
  clear hC hd hT e50 IA IB BX6 HE6
  generalize hgt : (ford .f32 (EG DD) (EG (negC32 DD)) == some .gt) = gt at *
  have HGT := Lib.hid hgt
  clear hgt
  cases gt
  ·have b0 := (BX7.out.mem (.head _)) 0 _ rfl
   have b1 := (BX7.out.mem (.head _)) 1 _ rfl
   have b2 := (BX7.out.mem (.head _)) 2 _ rfl
   have b3 := (BX7.out.mem (.head _)) 3 _ rfl
   have b4 := (BX7.out.mem (.head _)) 4 _ rfl
   have b5 := (BX7.out.mem (.head _)) 5 _ rfl
   have b6 := (BX7.out.mem (.head _)) 6 _ rfl
   have b7 := (BX7.out.mem (.head _)) 7 _ rfl
   have b8 := (BX7.out.mem (.head _)) 8 _ rfl
   go_wp2_with fail
   clear b0 b1 b2 b3 b4 b5 b6 b7 b8
   refine (JP.out _ _ DD wb (H.out.below BX7.out.bel) IA7.out).mono ?_
   rintro e wc ⟨B', F, rfl, hI, hG, hB⟩
   rw [HMV.out] at hI
   have BX8 := Lib.hid (BX7.out.call hB)
   have BX9 := Lib.hid (BX8.out.re (L' := [(w.heap.size + 1, Z9'), (w.heap.size, B.l)]) (fun x hx => by simp only [List.mem_cons, List.not_mem_nil, or_false] at hx ⊢; rcases hx with h | h <;> simp [h]))
   have BZ := Lib.hid (Bx.setAll (vs := B'.l) BX9.out (fun b' l' hm => by simp only [List.mem_cons, Prod.mk.injEq, List.not_mem_nil, or_false] at hm; omega) rfl)
   have hlo : w.heap.size + 1 < wb.heap.size := (BX7.out.2 _ _ (.tail _ (.tail _ (.head _)))).2.2.1
   have hsw : w.heap.size ≤ wb.heap.size := by omega
   have AG := Agree.setL (S := fun b => b ≠ w.heap.size + 1) (g := w.heap.size + 1) (fun h => h rfl) B'.l wc 0 (Agree.refl _ wc)
   have hI' := hI.agree hG.lb (fun b k1 k2 => by show b ≠ _; omega) AG
   have hG' := (hG.agree (fun b k1 k2 => by show b ≠ _; omega) AG).wide (lo' := w.heap.size) (hi' := (setL wc (w.heap.size + 1) 0 B'.l).heap.size) hsw (by rw [setL_size]; exact Nat.le_refl _)
   have HI := Lib.hid hI'
   have HG := Lib.hid hG'
   simp only [setL, Nat.zero_add, Nat.reduceAdd] at BZ HI HG
   clear hI hG hB hlo hsw AG hI' hG' BX8
   have q0 := (BX9.out.mem (.head _)) 0 _ rfl
   have p0 := BX9.out.free (.head _) 0
   have q1 := (BX9.out.mem (.head _)) 1 _ rfl
   have p1 := BX9.out.free (.head _) 1
   have q2 := (BX9.out.mem (.head _)) 2 _ rfl
   have p2 := BX9.out.free (.head _) 2
   have q3 := (BX9.out.mem (.head _)) 3 _ rfl
   have p3 := BX9.out.free (.head _) 3
   have q4 := (BX9.out.mem (.head _)) 4 _ rfl
   have p4 := BX9.out.free (.head _) 4
   have q5 := (BX9.out.mem (.head _)) 5 _ rfl
   have p5 := BX9.out.free (.head _) 5
   have q6 := (BX9.out.mem (.head _)) 6 _ rfl
   have p6 := BX9.out.free (.head _) 6
   have q7 := (BX9.out.mem (.head _)) 7 _ rfl
   have p7 := BX9.out.free (.head _) 7
   have q8 := (BX9.out.mem (.head _)) 8 _ rfl
   have p8 := BX9.out.free (.head _) 8
   go_wp2
   clear q0 q1 q2 q3 q4 q5 q6 q7 q8 p0 p1 p2 p3 p4 p5 p6 p7 p8
   have m0 := (BZ.out.mem (.head _)) 0 _ rfl
   have m1 := (BZ.out.mem (.head _)) 1 _ rfl
   have m2 := (BZ.out.mem (.head _)) 2 _ rfl
   have m3 := (BZ.out.mem (.head _)) 3 _ rfl
   have m4 := (BZ.out.mem (.head _)) 4 _ rfl
   have m5 := (BZ.out.mem (.head _)) 5 _ rfl
   have m6 := (BZ.out.mem (.head _)) 6 _ rfl
   have m7 := (BZ.out.mem (.head _)) 7 _ rfl
   have m8 := (BZ.out.mem (.head _)) 8 _ rfl
   refine bodyPost_ret (v := .tuple #[B'.v, .bool true]) (by simp [results, Tryz.results46, go_sem, m0, m1, m2, m3, m4, m5, m6, m7, m8]) rfl ?_
   exact ⟨⟨B', F, rfl, by rw [HDD.out, HGT.out]; exact HI.out, HG.out⟩, BZ.out.bel⟩
  ·have b0 := (BX7.out.mem (.head _)) 0 _ rfl
   have b1 := (BX7.out.mem (.head _)) 1 _ rfl
   have b2 := (BX7.out.mem (.head _)) 2 _ rfl
   have b3 := (BX7.out.mem (.head _)) 3 _ rfl
   have b4 := (BX7.out.mem (.head _)) 4 _ rfl
   have b5 := (BX7.out.mem (.head _)) 5 _ rfl
   have b6 := (BX7.out.mem (.head _)) 6 _ rfl
   have b7 := (BX7.out.mem (.head _)) 7 _ rfl
   have b8 := (BX7.out.mem (.head _)) 8 _ rfl
   go_wp2_with fail
   clear b0 b1 b2 b3 b4 b5 b6 b7 b8
   refine (JP.out _ _ (negC32 DD) wb (H.out.below BX7.out.bel) IB7.out).mono ?_
   rintro e wc ⟨B', F, rfl, hI, hG, hB⟩
   rw [HMV.out] at hI
   have BX8 := Lib.hid (BX7.out.call hB)
   have BX9 := Lib.hid (BX8.out.re (L' := [(w.heap.size + 1, Z9'), (w.heap.size, B.l)]) (fun x hx => by simp only [List.mem_cons, List.not_mem_nil, or_false] at hx ⊢; rcases hx with h | h <;> simp [h]))
   have BZ := Lib.hid (Bx.setAll (vs := B'.l) BX9.out (fun b' l' hm => by simp only [List.mem_cons, Prod.mk.injEq, List.not_mem_nil, or_false] at hm; omega) rfl)
   have hlo : w.heap.size + 1 < wb.heap.size := (BX7.out.2 _ _ (.tail _ (.tail _ (.head _)))).2.2.1
   have hsw : w.heap.size ≤ wb.heap.size := by omega
   have AG := Agree.setL (S := fun b => b ≠ w.heap.size + 1) (g := w.heap.size + 1) (fun h => h rfl) B'.l wc 0 (Agree.refl _ wc)
   have hI' := hI.agree hG.lb (fun b k1 k2 => by show b ≠ _; omega) AG
   have hG' := (hG.agree (fun b k1 k2 => by show b ≠ _; omega) AG).wide (lo' := w.heap.size) (hi' := (setL wc (w.heap.size + 1) 0 B'.l).heap.size) hsw (by rw [setL_size]; exact Nat.le_refl _)
   have HI := Lib.hid hI'
   have HG := Lib.hid hG'
   simp only [setL, Nat.zero_add, Nat.reduceAdd] at BZ HI HG
   clear hI hG hB hlo hsw AG hI' hG' BX8
   have q0 := (BX9.out.mem (.head _)) 0 _ rfl
   have p0 := BX9.out.free (.head _) 0
   have q1 := (BX9.out.mem (.head _)) 1 _ rfl
   have p1 := BX9.out.free (.head _) 1
   have q2 := (BX9.out.mem (.head _)) 2 _ rfl
   have p2 := BX9.out.free (.head _) 2
   have q3 := (BX9.out.mem (.head _)) 3 _ rfl
   have p3 := BX9.out.free (.head _) 3
   have q4 := (BX9.out.mem (.head _)) 4 _ rfl
   have p4 := BX9.out.free (.head _) 4
   have q5 := (BX9.out.mem (.head _)) 5 _ rfl
   have p5 := BX9.out.free (.head _) 5
   have q6 := (BX9.out.mem (.head _)) 6 _ rfl
   have p6 := BX9.out.free (.head _) 6
   have q7 := (BX9.out.mem (.head _)) 7 _ rfl
   have p7 := BX9.out.free (.head _) 7
   have q8 := (BX9.out.mem (.head _)) 8 _ rfl
   have p8 := BX9.out.free (.head _) 8
   go_wp2
   clear q0 q1 q2 q3 q4 q5 q6 q7 q8 p0 p1 p2 p3 p4 p5 p6 p7 p8
   have m0 := (BZ.out.mem (.head _)) 0 _ rfl
   have m1 := (BZ.out.mem (.head _)) 1 _ rfl
   have m2 := (BZ.out.mem (.head _)) 2 _ rfl
   have m3 := (BZ.out.mem (.head _)) 3 _ rfl
   have m4 := (BZ.out.mem (.head _)) 4 _ rfl
   have m5 := (BZ.out.mem (.head _)) 5 _ rfl
   have m6 := (BZ.out.mem (.head _)) 6 _ rfl
   have m7 := (BZ.out.mem (.head _)) 7 _ rfl
   have m8 := (BZ.out.mem (.head _)) 8 _ rfl
   refine bodyPost_ret (v := .tuple #[B'.v, .bool true]) (by simp [results, Tryz.results46, go_sem, m0, m1, m2, m3, m4, m5, m6, m7, m8]) rfl ?_
   exact ⟨⟨B', F, rfl, by rw [HDD.out, HGT.out]; exact HI.out, HG.out⟩, BZ.out.bel⟩
end Go.Proofs.YtabccmobmppdnaaGreat
namespace Go.Proofs.YtabccmobmppdnaaGreat
open Go Fk Go.RowKit
set_option linter.unusedVariables false
set_option maxRecDepth 8000
def OwnC (base : Nat) (w : World) (v : Value) (n : Nat) (F : Nat → Option Nat) : Prop := ∃ zs : List Nat, w.ownsRow base 27 1 v n (zs.map (Value.float .f32)) ∧ zs.length = n ∧ ∀ k, k < n → FV .f32 (zs.getD k 0) (F k)
theorem OwnC.up {base n : Nat} {w w' : World} {v : Value} {F : Nat → Option Nat} (h : OwnC base w v n F) (hB : Below w.heap.size w w') : OwnC base w' v n F := by
 obtain ⟨zs, h1, h2, h3⟩ := h
 exact ⟨zs, owns_up h1 hB, h2, h3⟩
theorem OwnC.is {base n : Nat} {w : World} {v : Value} {fs : List (Option Nat)} (h : OwnC base w v n fun k => fs.getD k none) (hn : fs.length = n) : ∃ a c, v = .slice a n c ∧ IsCs32 w a n c fs := by
 obtain ⟨zs, h1, h2, h3⟩ := h
 have h1' := h1
 have hb : ∀ z ∈ zs, z < 2 ^ FloatKind.f32.format.width := fun z hz => by
  obtain ⟨i, hi, rfl⟩ := List.mem_iff_getElem.1 hz
  have := (h3 i (by omega)).1
  simpa [List.getD, hi] using this
 rcases h1.2 with ⟨rfl, h0⟩ | ⟨g, cap, cur, rfl, hb', hh, hc1, hc2, hs, ht⟩
 ·exact ⟨none, 0, by rw [h0], zs, ⟨h2, by omega, by unfold maxLen; omega, hb, fun _ => ⟨h0, rfl⟩, fun x hx => (by cases hx)⟩, h3, hn⟩
 ·refine ⟨_, cap, rfl, zs, ⟨h2, hc1, hc2, hb, by simp, fun x hx i hi => ?_⟩, h3, hn⟩
  cases hx
  have hi' : i < zs.length := by omega
  rw [addr_add', Nat.zero_add, h1'.cellAt i (by omega)]
  simp [List.getD, hi']
end Go.Proofs.YtabccmobmppdnaaGreat
namespace Go.Proofs.YtabccmobmppdnaaGreat
open Go Fk Go.RowKit
set_option linter.unusedVariables false
set_option maxRecDepth 8000
end Go.Proofs.YtabccmobmppdnaaGreat
namespace Go.Proofs.YtabccmobmppdnaaGreat
open Go Fk Go.RowKit
set_option linter.unusedVariables false
set_option maxRecDepth 8000
theorem fvInt (n : Int) : FV .f32 (floatOfInt .f32 n) (some (floatOfInt .f32 n)) :=
 ⟨FloatKind.f32.format.write_lt (.number (n < 0) n.natAbs 0), cls_num (isNaN_write .f32 (.number (n < 0) n.natAbs 0) rfl)⟩
end Go.Proofs.YtabccmobmppdnaaGreat
namespace Go.Proofs.YtabccmobmppdnaaGreat
open Go Fk Go.RowKit
set_option linter.unusedVariables false
set_option maxRecDepth 16000
def inR (z : Int) : Bool := decide (0 ≤ z ∧ z ≤ 40)
theorem impl_areRounds (z : Int) (w : World) : Calls Tryz.prog 92 #[.int .i64 z] w fun e w' => e = .returned (.bool (inR z)) ∧ w' = w := by
 unfold inR
 by_cases h : 0 ≤ z
 ·by_cases h2 : z ≤ 40
  ·rw [decide_eq_true ⟨h, h2⟩]
   go_enter Tryz.func92, Tryz.ntmps92
   go_wp2
   go_ret
   exact ⟨rfl, rfl⟩
  ·rw [decide_eq_false (fun k => h2 k.2)]
   go_enter Tryz.func92, Tryz.ntmps92
   go_wp2
   go_ret
   exact ⟨rfl, rfl⟩
 ·rw [decide_eq_false (fun k => h k.1)]
  go_enter Tryz.func92, Tryz.ntmps92
  go_wp2
  go_ret
  exact ⟨rfl, rfl⟩
theorem OwnC.lst {base n c : Nat} {w : World} {a : Option Addr} {F : Nat → Option Nat} (h : OwnC base w (.slice a n c) n F) : Lst base w.heap.size w a n := by
 obtain ⟨zs, h1, h2, h3⟩ := h
 have h1' := h1
 rcases h1.2 with ⟨e, h0⟩ | ⟨g, cap, cur, e, hb', hh, hc1, hc2, hs, ht⟩
 ·cases e; exact .inl ⟨rfl, h0⟩
 ·cases e
  refine .inr ⟨g, rfl, hb', (h1'.lt g rfl).2, (h1'.lt g rfl).2, fun j hj => ⟨?_, h1'.frozenAt _⟩⟩
  rw [Nat.zero_add, h1'.cellAt j (by omega)]
  exact ⟨.float .f32 (zs.getD j 0), by rw [List.getElem?_map, List.getD, List.getElem?_eq_getElem (by omega)]; rfl⟩
theorem OwnC.app {base k x : Nat} {w w' : World} {v v' : Value} {F : Nat → Option Nat} {zs : List Nat} (h2 : zs.length = k) (h3 : ∀ j, j < k → FV .f32 (zs.getD j 0) (F j)) (ho : w'.ownsRow base 27 1 v' (k + 1) ((zs ++ [x]).map (Value.float .f32))) (hx : FV .f32 x (F k)) : OwnC base w' v' (k + 1) F := by
 refine ⟨zs ++ [x], ho, by simp [h2], fun j hj => ?_⟩
 by_cases hjk : j = k
 ·have : (zs ++ [x]).getD j 0 = x := by simp [List.getD, hjk, ← h2]
  rw [this, hjk]
  exact hx
 ·have hjz : j < zs.length := by omega
  have : (zs ++ [x]).getD j 0 = zs.getD j 0 := by simp [List.getD, List.getElem?_append_left hjz]
  rw [this]; exact h3 j (by omega)
def stpC (d : Option Nat) (n j : Nat) : Option Nat := fop .mul .f32 d (some (floatOfInt .f32 (-(n : Int) + (j : Int))))
def eaF (c : Bc) (ys : List C3) (d : Option Nat) (n j : Nat) : Option Nat := engC c ys (stpC d n j)
def eaL (c : Bc) (ys : List C3) (d : Option Nat) (n : Nat) : List (Option Nat) := (List.range (2 * n + 1)).map (eaF c ys d n)
def eaB (c : Bc) (n x : Nat) (z : Int) : Bool := canB c [] n x && inR z
def eaO (c : Bc) (ys : List C3) (d : Option Nat) (n x : Nat) (z : Int) : List (Option Nat) := bif eaB c n x z then eaL c ys d z.toNat else []
theorem eaL_get (c : Bc) (ys : List C3) (d : Option Nat) (n : Nat) {j : Nat} (hj : j < 2 * n + 1) : (eaL c ys d n).getD j none = eaF c ys d n j := by
 simp [eaL, List.getD, hj]
theorem eaL_len (c : Bc) (ys : List C3) (d : Option Nat) (n : Nat) : (eaL c ys d n).length = 2 * n + 1 := by simp [eaL]
theorem inR_parts {z : Int} (h : inR z = true) : ∃ n : Nat, z = (n : Int) ∧ n ≤ 40 := by
 have := of_decide_eq_true h
 exact ⟨z.toNat, by omega, by omega⟩
theorem eaO_len (c : Bc) (ys : List C3) (d : Option Nat) (n x : Nat) (z : Int) : (eaO c ys d n x z).length ≤ 81 := by
 unfold eaO eaB
 cases canB c [] n x
 ·simp
 ·cases h : inR z
  ·simp
  ·obtain ⟨k, rfl, hk⟩ := inR_parts h
   simp [eaL]
   omega
theorem OwnC.fin {base n : Nat} {w : World} {v : Value} {c : Bc} {ys : List C3} {d : Option Nat} (h : OwnC base w v (2 * n + 1) (eaF c ys d n)) (hn : n ≤ 40) : ∃ a q, v = .slice a (2 * n + 1) q ∧ IsCs32 w a (2 * n + 1) q (eaL c ys d n) ∧ Lst base w.heap.size w a (2 * n + 1) := by
 have h' : OwnC base w v (2 * n + 1) fun k => (eaL c ys d n).getD k none := by
  obtain ⟨zs, h1, h2, h3⟩ := h
  exact ⟨zs, h1, h2, fun j hj => by show FV .f32 (zs.getD j 0) ((eaL c ys d n).getD j none); rw [eaL_get c ys d n hj]; exact h3 j hj⟩
 obtain ⟨a, q, e, hI⟩ := h'.is (eaL_len _ _ _ _)
 subst e
 exact ⟨a, q, rfl, hI, h.lst⟩
theorem nil_cs (w : World) : IsCs32 w none 0 0 [] := ⟨[], ⟨rfl, Nat.le_refl _, Nat.zero_le _, fun z hz => absurd hz (by simp), fun _ => ⟨rfl, rfl⟩, fun x hx => by cases hx⟩, fun k hk => absurd hk (by omega), rfl⟩
set_option maxHeartbeats 8000000 in
theorem impl_EnergiesAlong (B : Bd) (c : Bc) (a1 : Option Addr) (n1 c1 : Nat) (y1 : List C3) (x2 : Nat) (d2 : Option Nat) (z3 : Int) (w : World) (h : IsB w B c) (h1 : IsVs w a1 n1 c1 y1) (h2 : FV .f32 x2 d2) (g2 : x2 < 4294967296) (h3 : (Lit.int .i64 z3).wf = true) :
  Calls Tryz.prog 41 #[B.v, .slice a1 n1 c1, .float .f32 x2, .int .i64 z3] w fun e w' => (∃ (a : Option Addr) (q : Nat), e = .returned (.tuple #[.slice a (eaO c y1 d2 n1 x2 z3).length q, .bool (eaB c n1 x2 z3)]) ∧ IsCs32 w' a (eaO c y1 d2 n1 x2 z3).length q (eaO c y1 d2 n1 x2 z3) ∧ Lst w.heap.size w'.heap.size w' a (eaO c y1 d2 n1 x2 z3).length) ∧ Below w.heap.size w w' := by
 have uib := Tryz.underlying44
 have uim := Tryz.underlying40
 have us := Tryz.underlying109
 have uh := Tryz.underlying107
 have uv := Tryz.underlying36
 have u := Tryz.underlying27
 obtain ⟨i0, hi, hz0, hz1, hz2⟩ := info_parts info32
 have bx1 := (Bx.nil w).box (vs := B.l) (t := 44)
 have bx2 := bx1.box (vs := [.slice a1 n1 c1]) (t := 36)
 simp at bx2
 have BX := Lib.hid bx2
 have hpl : c.cs.length = B.pl := h.1.1
 have H := Lib.hid h
 have HV := Lib.hid h1
 have HX2 := Lib.hid h2
 have JS := Lib.hid (fun la lc w1 hb hr => stiff_all B c none 0 0 [] x2 la lc [(a1, n1, c1)] w1 hb (isis_nil w1) g2 hr (by simp))
 rw [stf_can] at JS
 have JA := Lib.hid (fun w1 => impl_areRounds z3 w1)
 cases hc : canB c [] n1 x2
 ·rw [hc] at JS
  have he : eaO c y1 d2 n1 x2 z3 = [] := by unfold eaO eaB; rw [hc]; rfl
  have he2 : eaB c n1 x2 z3 = false := by unfold eaB; rw [hc]; rfl
  rw [he, he2]
  clear h h1 h2 h3 bx1 bx2 hpl hc he he2
  go_enter Tryz.func41, Tryz.ntmps41
  go_wp2_with fail
  generalize hW : (w.alloc (BoxB B 44)).alloc (.cells #[.slice a1 n1 c1] 36) = W
  have BX1 : Hid (Bx w [(w.heap.size + 1, [.slice a1 n1 c1]), (w.heap.size, B.l)] W) := Lib.hid (hW ▸ BX.out)
  clear BX hW
  have HRW : Hid (RowsS W (some ⟨w.heap.size + 1, 0, none⟩) [(a1, n1, c1)]) := Lib.hid (fun j hj => by
   obtain rfl : j = 0 := by simpa using hj
   exact ⟨_, rfl, (BX1.out.mem (.head _)) 0 _ rfl⟩)
  refine (JS.out (some ⟨w.heap.size + 1, 0, none⟩) _ W (H.out.below BX1.out.bel) HRW.out).mono ?_
  rintro e w1 ⟨⟨hc, _⟩ | ⟨_, rfl⟩, hB1⟩
  ·cases hc
  have BX2 := Lib.hid (BX1.out.call hB1)
  have BX3 := Lib.hid (BX2.out.box (vs := Z14) (t := 109))
  clear hB1 JS HRW BX1
  go_wp2
  go_ret2
  exact ⟨⟨none, 0, rfl, nil_cs _, .inl ⟨rfl, rfl⟩⟩, BX3.out.bel⟩
 ·rw [hc] at JS
  have he2 : eaB c n1 x2 z3 = inR z3 := by unfold eaB; rw [hc]; rfl
  cases hz : inR z3
  ·rw [hz] at JA he2
   have he : eaO c y1 d2 n1 x2 z3 = [] := by unfold eaO; rw [he2]; rfl
   rw [he, he2]
   clear h h1 h2 h3 bx1 bx2 hpl hc he he2 hz
   go_enter Tryz.func41, Tryz.ntmps41
   go_wp2_with fail
   generalize hW : (w.alloc (BoxB B 44)).alloc (.cells #[.slice a1 n1 c1] 36) = W
   have BX1 : Hid (Bx w [(w.heap.size + 1, [.slice a1 n1 c1]), (w.heap.size, B.l)] W) := Lib.hid (hW ▸ BX.out)
   clear BX hW
   have HRW : Hid (RowsS W (some ⟨w.heap.size + 1, 0, none⟩) [(a1, n1, c1)]) := Lib.hid (fun j hj => by
    obtain rfl : j = 0 := by simpa using hj
    exact ⟨_, rfl, (BX1.out.mem (.head _)) 0 _ rfl⟩)
   refine (JS.out (some ⟨w.heap.size + 1, 0, none⟩) _ W (H.out.below BX1.out.bel) HRW.out).mono ?_
   rintro e w1 ⟨⟨_, la, lc, rfl, hE⟩ | ⟨hc, _⟩, hB1⟩
   case inr => cases hc
   have BX2 := Lib.hid (BX1.out.call hB1)
   have BX3 := Lib.hid (BX2.out.box (vs := StL B none la 0 0 (ens c).length lc x2 0 none 0 0) (t := 109))
   clear hB1 JS HRW BX1 hE
   go_wp2_with fail
   refine (JA.out _).mono ?_
   rintro e w2 ⟨rfl, hw⟩
   rw [hw]
   clear hw
   go_wp2
   go_ret2
   exact ⟨⟨none, 0, rfl, nil_cs _, .inl ⟨rfl, rfl⟩⟩, BX3.out.bel⟩
  ·rw [hz] at JA he2
   obtain ⟨q1, q2, q3, q4⟩ := can_parts hc
   have hn : n1 = B.pl := q4.trans hpl
   subst hn
   obtain ⟨N, rfl, hN⟩ := inR_parts hz
   have he : eaO c y1 d2 B.pl x2 (N : Int) = eaL c y1 d2 N := by unfold eaO; rw [he2, Int.toNat_natCast]; rfl
   rw [he, he2, eaL_len]
   obtain ⟨hel, hok⟩ := ens_ok q1
   rw [hpl] at hok
   have HPL : Hid (B.pl ≤ 64) := Lib.hid (by have := body64 q1; omega)
   have JE := Lib.hid (fun la lc pa pc cs w1 k1 k2 => impl_energyAt B none la pa 0 0 lc B.pl pc cs (ens c) w1 k1 k2 hel hok)
   have HEN : Hid (∀ d, sum4 (mkM c.cs y1 d B.pl B.pl) (ens c) = engC c y1 d) := Lib.hid (fun d => by unfold engC; rw [hpl])
   have HFE : Hid (∀ j, eaF c y1 d2 N j = engC c y1 (stpC d2 N j)) := Lib.hid (fun j => rfl)
   have HFIN := Lib.hid (fun (W w9 : World) v (k : OwnC W.heap.size w9 v (2 * N + 1) (eaF c y1 d2 N)) => k.fin hN)
   clear h h1 h2 h3 bx1 bx2 hpl hc he he2 hz q1 q2 q3 q4 hel hok
   generalize eaF c y1 d2 N = EF at *
   generalize eaL c y1 d2 N = EL at *
   generalize engC c y1 = EG at *
   generalize hes : ens c = es at *
   generalize hnn : es.length = nn at *
   clear hes hnn
   go_enter Tryz.func41, Tryz.ntmps41
   go_wp2_with fail
   generalize hW : (w.alloc (BoxB B 44)).alloc (.cells #[.slice a1 B.pl c1] 36) = W
   have BX1 : Hid (Bx w [(w.heap.size + 1, [.slice a1 B.pl c1]), (w.heap.size, B.l)] W) := Lib.hid (hW ▸ BX.out)
   clear BX hW
   have HRW : Hid (RowsS W (some ⟨w.heap.size + 1, 0, none⟩) [(a1, B.pl, c1)]) := Lib.hid (fun j hj => by
    obtain rfl : j = 0 := by simpa using hj
    exact ⟨_, rfl, (BX1.out.mem (.head _)) 0 _ rfl⟩)
   refine (JS.out (some ⟨w.heap.size + 1, 0, none⟩) _ W (H.out.below BX1.out.bel) HRW.out).mono ?_
   rintro e w1 ⟨⟨_, la, lc, rfl, hE⟩ | ⟨hc, _⟩, hB1⟩
   case inr => cases hc
   have BX2 := Lib.hid (BX1.out.call hB1)
   have BX3 := Lib.hid (BX2.out.box (vs := StL B none la 0 0 nn lc x2 0 none 0 0) (t := 109))
   have hX : Below w1.heap.size w1 (w1.alloc (.cells (StL B none la 0 0 nn lc x2 0 none 0 0).toArray 109)) := (Below.refl _ _).alloc (Nat.le_refl _) _
   have HE := Lib.hid (hE.ens.below hX)
   clear hE hB1 hX JS HRW BX1 BX2
   go_wp2_with fail
   have BX4 := Lib.hid BX3.out
   change Calls _ _ _ (w1.alloc (.cells (StL B none la 0 0 nn lc x2 0 none 0 0).toArray 109)) _
   generalize (w1.alloc (.cells (StL B none la 0 0 nn lc x2 0 none 0 0).toArray 109)) = W2 at *
   generalize w1.heap.size = S at *
   clear BX3
   refine (JA.out W2).mono ?_
   rintro e w2 ⟨rfl, hw⟩
   rw [hw]
   clear hw
   go_wp2_with fail
   have V0 : Hid (OwnC W2.heap.size W2 (.slice none 0 0) 0 EF) := Lib.hid ⟨[], World.ownsRow_nil _ _ _ _, rfl, fun k hk => absurd hk (by omega)⟩
   go_loopw [13, 12] (fun i u12 w' => ∃ j : Nat, j ≤ 2 * N + 1 ∧ i = .int .i64 (-(N : Int) + (j : Int)) ∧ Aside (OwnC W2.heap.size w' u12 j EF ∧ Below W2.heap.size W2 w')) (fun i _ _ => (N + 1 - intOf i).toNat)
   case atStart => exact ⟨0, Nat.zero_le _, by simp, V0.out, Below.refl _ _⟩
   case round =>
    obtain ⟨j, hj, rfl, hA⟩ := hrel
    have VK := Lib.hid hA.out.1
    have HBW := Lib.hid hA.out.2
    have BK := Lib.hid (BX4.out.call hA.out.2)
    have EK := Lib.hid (HE.out.below hA.out.2)
    clear hA V0
    generalize hzz : -(N : Int) + (j : Int) = zz at *
    by_cases hlt : j < 2 * N + 1
    ·have hk1 : zz ≤ (N : Int) := by omega
     have HZ := Lib.hid hzz
     have HJL := Lib.hid hlt
     have HST : Hid (stpC d2 N j = fop .mul .f32 d2 (some (floatOfInt .f32 zz))) := Lib.hid (by unfold stpC; rw [hzz])
     have HEJ := Lib.hid (HFE.out j)
     generalize stpC d2 N j = DJ at *
     clear hzz hlt hj
     go_wp2_with fail
     refine Reg5.wp_region_mix (m := 14) (C := fun w' => Below wr.heap.size wr w') (D := fun w' => Below W2.heap.size W2 w') (G := fun w1 w2 => Below w1.heap.size w1 w2) (G' := fun w1 w2 => w2 = w1)
      (R := fun i v w' => match i with
       | 0 => v = u12
       | 1 => v = .pointer (some ⟨S, 0, none⟩)
       | 2 => v = HbV B none la 0 0 nn lc
       | 3 => v = .pointer (some ⟨w.heap.size, 0, none⟩)
       | 4 => v = .pointer (some ⟨w.heap.size, 0, none⟩)
       | 5 => v = .slice B.pa B.pl B.pc
       | 6 => v = .slice a1 B.pl c1
       | 7 => v = .float .f32 x2
       | 8 => v = .int .i64 zz
       | 9 => v = .float .f32 (floatOfInt .f32 zz)
       | 10 => ∃ r, v = .float .f32 r ∧ FV .f32 r DJ
       | 11 => ∃ g, v = .slice (some ⟨g, 0, none⟩) B.pl B.pl ∧ OwnVs w' g (mkM c.cs y1 DJ B.pl B.pl)
       | 12 => ∃ r, v = .float .f32 r ∧ FV .f32 r (EG DJ)
       | 13 => ∃ b r, v = .slice (some ⟨b, 0, none⟩) 1 1 ∧ w'.cell? ⟨b, 0, none⟩ = some (.float .f32 r) ∧ FV .f32 r (EG DJ)
       | 14 => OwnC W2.heap.size w' v (j + 1) EF
       | 15 => OwnC W2.heap.size w' v (j + 1) EF
       | _ => True) (T := fun _ _ _ => True) [false, false, false, false, false, false, false, false, false, false, false, false, true, false, false, false, false, false, false, false, false, false, false, false, false, false, false, false, false, false, false, false, false, false, false, false, true, true, true, true, true, true, true, true, true, true, true, true, true, true, true, false]
      (by kernel_rfl) (by kernel_rfl) (by kernel_rfl) (by kernel_rfl) ?_ ?_ (below_drewN (Below.refl _ _) 1) ?_ ?_
     ·intro j v wa wb hjm _ hG hR
      match j with
      | 0 => exact hR
      | 1 => exact hR
      | 2 => exact hR
      | 3 => exact hR
      | 4 => exact hR
      | 5 => exact hR
      | 6 => exact hR
      | 7 => exact hR
      | 8 => exact hR
      | 9 => exact hR
      | 10 => exact hR
      | 11 => obtain ⟨g, e, h⟩ := hR; exact ⟨g, e, h.below hG⟩
      | 12 => exact hR
      | 13 => obtain ⟨b, r, e, k0, hf⟩ := hR; exact ⟨b, r, e, cell_below hG k0, hf⟩
      | j + 14 => exact absurd hjm (by omega)
     ·intro j v wa wb _ _ hG hR
      rw [hG]; exact hR
     ·refine ⟨?_, ?_, ?_, ?_, ?_, ?_, ?_, ?_, ?_, ?_, ?_, ?_, ?_, ?_, ?_, ?_, trivial⟩
      ·refine Reg5.Obl.early rfl rfl ?_
       rintro av wq HC hx hd K hK
       replace HC := Lib.hid HC
       have t36 : av.tmps[12]?.getD undef = u12 := Reg.slot_val (hx 12 (by kernel_rfl))
       go_simp
       exact hK _ _ rfl HC.out (Below.refl _ _)
      ·refine Reg5.Obl.early rfl rfl ?_
       rintro av wq HC hx hd K hK
       replace HC := Lib.hid HC
       have t10 : av.tmps[10]?.getD undef = .pointer (some ⟨S, 0, none⟩) := Reg.slot_val (hx 10 (by kernel_rfl))
       go_simp
       exact hK _ _ rfl HC.out (Below.refl _ _)
      ·refine Reg5.Obl.early rfl rfl ?_
       rintro av wq HC hx hd K hK
       replace HC := Lib.hid HC
       have t37 : av.tmps[37]?.getD undef = .pointer (some ⟨S, 0, none⟩) := Reg.slot_val (hd 1 (by kernel_rfl) 37 rfl)
       have y0 := ((BK.out.call HC.out).mem (.head _)) 0 _ rfl
       have y1 := ((BK.out.call HC.out).mem (.head _)) 1 _ rfl
       have y2 := ((BK.out.call HC.out).mem (.head _)) 2 _ rfl
       have y3 := ((BK.out.call HC.out).mem (.head _)) 3 _ rfl
       have y4 := ((BK.out.call HC.out).mem (.head _)) 4 _ rfl
       have y5 := ((BK.out.call HC.out).mem (.head _)) 5 _ rfl
       have y6 := ((BK.out.call HC.out).mem (.head _)) 6 _ rfl
       have y7 := ((BK.out.call HC.out).mem (.head _)) 7 _ rfl
       have y8 := ((BK.out.call HC.out).mem (.head _)) 8 _ rfl
       have y9 := ((BK.out.call HC.out).mem (.head _)) 9 _ rfl
       have y10 := ((BK.out.call HC.out).mem (.head _)) 10 _ rfl
       go_simp
       exact hK _ _ rfl HC.out (Below.refl _ _)
      ·refine Reg5.Obl.early rfl rfl ?_
       rintro av wq HC hx hd K hK
       replace HC := Lib.hid HC
       have t4 : av.tmps[4]?.getD undef = .pointer (some ⟨w.heap.size, 0, none⟩) := Reg.slot_val (hx 4 (by kernel_rfl))
       go_simp
       exact hK _ _ rfl HC.out (Below.refl _ _)
      ·refine Reg5.Obl.early rfl rfl ?_
       rintro av wq HC hx hd K hK
       replace HC := Lib.hid HC
       have t39 : av.tmps[39]?.getD undef = .pointer (some ⟨w.heap.size, 0, none⟩) := Reg.slot_val (hd 3 (by kernel_rfl) 39 rfl)
       go_simp
       exact hK _ _ rfl HC.out (Below.refl _ _)
      ·refine Reg5.Obl.early rfl rfl ?_
       rintro av wq HC hx hd K hK
       replace HC := Lib.hid HC
       have t40 : av.tmps[40]?.getD undef = .pointer (some ⟨w.heap.size, 0, none⟩) := Reg.slot_val (hd 4 (by kernel_rfl) 40 rfl)
       have y0 := ((BK.out.call HC.out).mem (.tail _ (.tail _ (.head _)))) 0 _ rfl
       go_simp
       exact hK _ _ rfl HC.out (Below.refl _ _)
      ·refine Reg5.Obl.early rfl rfl ?_
       rintro av wq HC hx hd K hK
       replace HC := Lib.hid HC
       have t1 : av.tmps[1]?.getD undef = .slice a1 B.pl c1 := Reg.slot_val (hx 1 (by kernel_rfl))
       go_simp
       exact hK _ _ rfl HC.out (Below.refl _ _)
      ·refine Reg5.Obl.early rfl rfl ?_
       rintro av wq HC hx hd K hK
       replace HC := Lib.hid HC
       have t2 : av.tmps[2]?.getD undef = .float .f32 x2 := Reg.slot_val (hx 2 (by kernel_rfl))
       go_simp
       exact hK _ _ rfl HC.out (Below.refl _ _)
      ·refine Reg5.Obl.early rfl rfl ?_
       rintro av wq HC hx hd K hK
       replace HC := Lib.hid HC
       have t13 : av.tmps[13]?.getD undef = .int .i64 zz := Reg.slot_val (hx 13 (by kernel_rfl))
       go_simp
       exact hK _ _ rfl HC.out (Below.refl _ _)
      ·refine Reg5.Obl.early rfl rfl ?_
       rintro av wq HC hx hd K hK
       replace HC := Lib.hid HC
       have t44 : av.tmps[44]?.getD undef = .int .i64 zz := Reg.slot_val (hd 8 (by kernel_rfl) 44 rfl)
       go_simp
       exact hK _ _ rfl HC.out (Below.refl _ _)
      ·refine Reg5.Obl.early rfl rfl ?_
       rintro av wq HC hx hd K hK
       replace HC := Lib.hid HC
       have t43 : av.tmps[43]?.getD undef = .float .f32 x2 := Reg.slot_val (hd 7 (by kernel_rfl) 43 rfl)
       have t45 : av.tmps[45]?.getD undef = .float .f32 (floatOfInt .f32 zz) := Reg.slot_val (hd 9 (by kernel_rfl) 45 rfl)
       go_simp
       refine (impl_product32 _ _ _ _ _ HX2.out (fvInt zz)).mono ?_
       rintro en w9 ⟨r, rfl, hr, n9, hw9⟩
       rw [← HST.out] at hr
       have hB9 : Below wq.heap.size wq w9 := by rw [hw9]; exact below_drewN (Below.refl _ _) _
       exact hK _ _ ⟨r, rfl, hr⟩ (HC.out.trans (hB9.mono HC.out.size)) hB9
      ·refine Reg5.Obl.early rfl rfl ?_
       rintro av wq HC hx hd K hK
       replace HC := Lib.hid HC
       have t41 : av.tmps[41]?.getD undef = .slice B.pa B.pl B.pc := Reg.slot_val (hd 5 (by kernel_rfl) 41 rfl)
       have t42 : av.tmps[42]?.getD undef = .slice a1 B.pl c1 := Reg.slot_val (hd 6 (by kernel_rfl) 42 rfl)
       obtain ⟨r46, g46, f46⟩ := hd 10 (by kernel_rfl) 46 rfl
       have t46 := Reg.slot_val g46
       have F46 := Lib.hid f46
       clear g46 f46
       go_simp
       refine (impl_addScaled _ _ _ _ _ c.cs y1 _ _ _ (H.out.below (BK.out.call HC.out).bel).1 (HV.out.below (BK.out.call HC.out).bel) F46.out (by have := HPL.out; omega)).mono ?_
       rintro en w9 ⟨g, rfl, hO, _, hB9⟩
       exact hK _ _ ⟨g, rfl, hO⟩ (HC.out.trans (hB9.mono HC.out.size)) hB9
      ·refine Reg5.Obl.early rfl rfl ?_
       rintro av wq HC hx hd K hK
       replace HC := Lib.hid HC
       have t38 : av.tmps[38]?.getD undef = HbV B none la 0 0 nn lc := Reg.slot_val (hd 2 (by kernel_rfl) 38 rfl)
       obtain ⟨g, g47, hO⟩ := hd 11 (by kernel_rfl) 47 rfl
       have t47 := Reg.slot_val g47
       have HO := Lib.hid hO.is
       clear g47 hO
       go_simp
       rw [mkM_len] at HO
       refine (JE.out la lc _ _ _ _ HO.out (EK.out.below HC.out)).mono ?_
       rintro en w9 ⟨r, rfl, hr, hB9⟩
       rw [HEN.out] at hr
       exact hK _ _ ⟨r, rfl, hr⟩ (HC.out.trans (hB9.mono HC.out.size)) hB9
      ·refine Reg5.Obl.early rfl rfl ?_
       rintro av wq HC hx hd K hK
       replace HC := Lib.hid HC
       obtain ⟨r48, g48, f48⟩ := hd 12 (by kernel_rfl) 48 rfl
       have t48 := Reg.slot_val g48
       have F48 := Lib.hid f48
       clear g48 f48
       go_simp
       exact hK _ _ ⟨wq.heap.size, r48, rfl, by simp, F48.out⟩ (HC.out.alloc HC.out.size _) ((Below.refl _ _).alloc (Nat.le_refl _) _)
      ·refine Reg5.Obl.mid rfl rfl ?_
       rintro av wq hC hx hd K hK
       have t36 : av.eval (.tmp 36) = u12 := hd 0 (by kernel_rfl) 36 rfl
       obtain ⟨b, r, t49, k0, f49⟩ := hd 13 (by kernel_rfl) 49 rfl
       obtain ⟨zs, hr, hzl, hzf⟩ := VK.out.up hC
       refine wp_append_own wq _ _ 28 rfl W2.heap.size 27 i0 (.float .f32 0) 1 4 Tryz.underlying28 hi hz0 hz1 hz2 rfl (by decide) u12 j (zs.map (Value.float .f32)) t36 hr ⟨b, 0, none⟩ 1 1 [.float .f32 r] t49 rfl (fun i9 u9 hj9 => ?_) (fun u9 hu9 => ?_) (by have := HJL.out; unfold maxLen; omega) (by have := HJL.out; omega) (Nat.le_trans HBW.out.size hC.size) ?_
       ·match i9, hj9 with
        | 0, hj9 => simp at hj9; subst hj9; rw [addr_add']; exact k0
       ·simp at hu9; subst hu9; rfl
       ·intro v' w9 ho hg _
        have hsz : W2.heap.size ≤ wq.heap.size := Nat.le_trans HBW.out.size hC.size
        exact hK _ _ (OwnC.app (x := r) (v := u12) (w := wq) hzl hzf (by simpa using ho) (by rw [HEJ.out]; exact f49)) ((HBW.out.trans (hC.mono HBW.out.size)).grown hg hsz (fun q hq => (hr.lt q hq).1))
      ·refine Reg5.Obl.late rfl ?_
       rintro av wq hD1 hx hd K hK
       have HC := Lib.hid hD1; clear hD1
       have g := hd 14 (by kernel_rfl) (by omega) 50 rfl
       obtain ⟨u9, hu9⟩ : ∃ u9, u9 = av.eval (.tmp 50) := ⟨_, rfl⟩
       have t50 : av.tmps[50]?.getD undef = u9 := Reg.slot_val hu9.symm
       have g' : OwnC W2.heap.size wq u9 (j + 1) EF := by rw [hu9]; exact g
       have G := Lib.hid g'
       clear g hu9 g'
       go_simp
       exact hK _ _ (fun _ => G.out) (fun h => by cases h) (fun _ => HC.out) (fun _ => rfl)
     ·rintro f wz hDR hT
      obtain ⟨hDD, hR⟩ := hDR (by decide)
      have g12 := hR 15 12 (by omega) rfl
      clear hDR
      have HG := Lib.hid g12
      have HDD := Lib.hid hDD
      clear g12 hDD hR hT
      simp only [Reg.mixL, Nat.zero_add, Nat.reduceAdd]
      have hz' := HZ.out
      have hj' := HJL.out
      have hw1 : wrap64 (zz + 1) = zz + 1 := by first | exact wrap64_id (by omega) (by omega) | (unfold wrap64; omega)
      go_wp2
      go_roundw
      case rel => exact ⟨j + 1, by omega, by rw [show zz + 1 = -(N : Int) + ((j + 1 : Nat) : Int) by omega], HG.out, HDD.out⟩
      case measure => simp [intOf]; omega
    ·obtain rfl : j = 2 * N + 1 := by omega
     have hk1 : ¬ zz ≤ (N : Int) := by omega
     obtain ⟨ga, gq, e, hI, hLs⟩ := HFIN.out W2 wr u12 VK.out
     subst e
     have HI := Lib.hid hI
     have HLs := Lib.hid (lst_widen hLs (lo' := w.heap.size) BX4.out.bel.size (Nat.le_refl _))
     have HBB := Lib.hid BK.out.bel
     clear hI hLs VK BK EK hzz
     go_wp2
     go_ret2
     exact ⟨⟨ga, gq, rfl, HI.out, HLs.out⟩, HBB.out⟩
end Go.Proofs.YtabccmobmppdnaaGreat
namespace Go.Proofs.YtabccmobmppdnaaGreat
open Go Fk Go.RowKit
set_option linter.unusedVariables false
set_option maxRecDepth 8000
theorem l03Positive (x : Nat) (w : World) (hx : x < 4294967296) :
  Calls Tryz.prog 100 #[.float .f32 x] w fun e w' => e = .returned (.bool (sizeB x)) ∧ ∃ n, w' = w.drewN n := by
 have u := Tryz.underlying27
 unfold sizeB
 have HJ := Lib.hid (fun w => l01Finite x w hx)
 generalize finB x = f at *
 cases f
 ·go_enter Tryz.func100, Tryz.ntmps100
  go_wp2_with (go_at_call 137; refine (HJ.out _).mono ?_; rintro e w1 ⟨rfl, n, hw⟩; rw [hw]; clear hw w1)
  go_ret
  exact ⟨rfl, _, rfl⟩
 ·go_enter Tryz.func100, Tryz.ntmps100
  go_wp2_with (go_at_call 137; refine (HJ.out _).mono ?_; rintro e w1 ⟨rfl, n, hw⟩; rw [hw]; clear hw w1)
  go_ret
  exact ⟨rfl, _, rfl⟩
end Go.Proofs.YtabccmobmppdnaaGreat

/-
Texts in one: what StiffTimes stands on, part 28. Conditions: those of each.
-/
import Derived.Test.YtabccmobmppdnaaGreatKStiffTimes27
-- halved
namespace Go.Proofs.YtabccmobmppdnaaGreat
open Go Fk Go.RowKit
set_option linter.unusedVariables false
set_option maxRecDepth 8000
set_option maxHeartbeats 4000000 in
theorem l03Moved (pb : Nat) (B : Bd) (c : Bc) (a : Option Addr) (cap : Nat) (ys : List C3) (x : Nat) (d : Option Nat) (w : World) (A : At w pb B.l) (h : IsB w B c) (hv : IsVs w a B.pl cap ys) (hx : FV .f32 x d) (hpl : B.pl ≤ 1000) (htl : B.tl ≤ 1000) (h3 : ∀ k, k < B.tl → (c.ts.getD k []).length ≤ 1000) (hsl : B.sl ≤ 1000) (hwl : B.wl ≤ 1000) :
  Calls Tryz.prog 90 #[.pointer (some ⟨pb, 0, none⟩), .slice a B.pl cap, .float .f32 x] w fun e w' => ∃ B' : Bd, e = .returned B'.v ∧ IsB w' B' (mvC c ys d) ∧ LB w.heap.size w'.heap.size w' B' ∧ Below w.heap.size w w' := by
 have ui := Tryz.underlying44
 have uim := Tryz.underlying40
 have hm : B.pl ≤ 9223372036854775807 := by omega
 have B0 : Hid (Below w.heap.size w (w.alloc (.cells #[.slice none 0 0, .slice none 0 0, .slice none 0 0, .float .f32 0, .float .f32 0, .slice none 0 0, .float .f32 0, .float .f32 0, .float .f32 0] 44))) := Lib.hid ((Below.refl _ _).alloc (Nat.le_refl _) _)
 have A0 : Hid (At (w.alloc (.cells #[.slice none 0 0, .slice none 0 0, .slice none 0 0, .float .f32 0, .float .f32 0, .slice none 0 0, .float .f32 0, .float .f32 0, .float .f32 0] 44)) w.heap.size Z9') := Lib.hid At.new
 have F0 : Hid (∀ i, (w.alloc (.cells #[.slice none 0 0, .slice none 0 0, .slice none 0 0, .float .f32 0, .float .f32 0, .slice none 0 0, .float .f32 0, .float .f32 0, .float .f32 0] 44)).frozen? ⟨w.heap.size, i, none⟩ = false) := Lib.hid (fun i => by go_simp)
 have hsz : (w.alloc (.cells #[.slice none 0 0, .slice none 0 0, .slice none 0 0, .float .f32 0, .float .f32 0, .slice none 0 0, .float .f32 0, .float .f32 0, .float .f32 0] 44)).heap.size = w.heap.size + 1 := by simp
 have SZ := Lib.hid hsz
 have HA := Lib.hid A
 have H := Lib.hid h
 have HV := Lib.hid hv
 have HX := Lib.hid hx
 have LN := Lib.hid h.lens
 have HOWN := Lib.hid (l03OwnP pb B c _ (A.below B0.out) (h.below B0.out) hpl htl h3 hsl hwl)
 unfold mvC
 rw [LN.out.1]
 clear h hv hx h3 hsz A
 go_enter Tryz.func90, Tryz.ntmps90
 go_wp2_with fail
 generalize (w.alloc (.cells #[.slice none 0 0, .slice none 0 0, .slice none 0 0, .float .f32 0, .float .f32 0, .slice none 0 0, .float .f32 0, .float .f32 0, .float .f32 0] 44)) = W at *
 refine HOWN.out.mono ?_
 rintro e w1 ⟨B', rfl, hI, hL, hX, hpl', hB1⟩
 have hs1 := hB1.size
 rw [SZ.out] at hs1 hL
 rw [← hpl'] at hX
 obtain ⟨g, g1, g2, hZ⟩ := pz_of hL hX hs1
 have hN : Below w1.heap.size w1 (w1.alloc (.cells #[.slice B'.pa B'.pl B'.pc, .slice B'.ta B'.tl B'.tc, .slice B'.sa B'.sl B'.sc, .float .f32 B'.film, .float .f32 B'.bend, .slice B'.wa B'.wl B'.wc, .float .f32 B'.x, .float .f32 B'.y, .float .f32 B'.z] 44)) := (Below.refl _ _).alloc (Nat.le_refl _) _
 have T0 : Hid (Tc w w1.heap.size w.heap.size B'.l Z9' (w1.alloc (.cells #[.slice B'.pa B'.pl B'.pc, .slice B'.ta B'.tl B'.tc, .slice B'.sa B'.sl B'.sc, .float .f32 B'.film, .float .f32 B'.bend, .slice B'.wa B'.wl B'.wc, .float .f32 B'.x, .float .f32 B'.y, .float .f32 B'.z] 44))) := Lib.hid
  ⟨At.new, (A0.out.below hB1).below hN, fun i => by go_simp, fun i => by rw [hN.frozen (p := ⟨w.heap.size, i, none⟩) (show w.heap.size < w1.heap.size by omega), hB1.frozen (p := ⟨w.heap.size, i, none⟩) (show w.heap.size < W.heap.size by rw [SZ.out]; omega)]; exact F0.out i, (B0.out.trans (hB1.mono B0.out.size)).trans (hN.mono (by omega)), ⟨by omega, Nat.le_refl _, by omega⟩, by simp <;> omega⟩
 have K := Lib.hid (And.intro hI (And.intro hL hZ))
 have G := Lib.hid (And.intro g1 g2)
 have O0 : Hid (B'.pl = 0 ∨ OwnVs (w1.alloc (.cells #[.slice B'.pa B'.pl B'.pc, .slice B'.ta B'.tl B'.tc, .slice B'.sa B'.sl B'.sc, .float .f32 B'.film, .float .f32 B'.bend, .slice B'.wa B'.wl B'.wc, .float .f32 B'.x, .float .f32 B'.y, .float .f32 B'.z] 44)) g (mkW c.cs ys d B.pl 0)) := Lib.hid (hZ.1.imp id fun k => by rw [mkW_zero LN.out.1]; exact k.2.below hN)
 have E0 : Hid (Agree (fun b => b ≠ g ∧ w.heap.size + 1 ≤ b ∧ b < w1.heap.size) w1 (w1.alloc (.cells #[.slice B'.pa B'.pl B'.pc, .slice B'.ta B'.tl B'.tc, .slice B'.sa B'.sl B'.sc, .float .f32 B'.film, .float .f32 B'.bend, .slice B'.wa B'.wl B'.wc, .float .f32 B'.x, .float .f32 B'.y, .float .f32 B'.z] 44))) := Lib.hid (Agree.of_below hN)
 have HPL := Lib.hid hpl'
 have PA : Hid (B'.pl = 0 ∨ B'.pa = some ⟨g, 0, none⟩) := Lib.hid (hZ.1.imp id (fun k => k.1))
 have S1 := Lib.hid hs1
 clear hI hL hX hZ hN hB1 hs1 hpl' g1 g2
 go_wp2
 generalize (w1.alloc (.cells #[.slice B'.pa B'.pl B'.pc, .slice B'.ta B'.tl B'.tc, .slice B'.sa B'.sl B'.sc, .float .f32 B'.film, .float .f32 B'.bend, .slice B'.wa B'.wl B'.wc, .float .f32 B'.x, .float .f32 B'.y, .float .f32 B'.z] 44)) = W2 at *
 go_loopw [13] (fun i w' => ∃ k : Nat, k ≤ B.pl ∧ i = .int .i64 k ∧ Aside (Tc w w1.heap.size w.heap.size B'.l Z9' w' ∧ (B'.pl = 0 ∨ OwnVs w' g (mkW c.cs ys d B.pl k)) ∧ Agree (fun b => b ≠ g ∧ w.heap.size + 1 ≤ b ∧ b < w1.heap.size) w1 w')) (fun i _ => B.pl - (intOf i).toNat)
 case atStart => exact ⟨0, Nat.zero_le _, rfl, T0.out, O0.out, E0.out⟩
 case round =>
  obtain ⟨k, hk, rfl, hA⟩ := hrel
  have TK := Lib.hid hA.out.1
  have OK := Lib.hid hA.out.2.1
  have EK := Lib.hid hA.out.2.2
  clear hA
  by_cases hlt : k < B.pl
  ·obtain ⟨b1, o1, e1, hcell1⟩ := (H.out.1.below TK.out.bel).some (by omega)
   obtain ⟨b2, o2, rfl, hcell2⟩ := (HV.out.below TK.out.bel).some (by omega)
   obtain ⟨p, q, t, c0', c1', c2', e0, e1', e2⟩ := hcell1 k hlt
   obtain ⟨p', q', t', d0', d1', d2', g0, g1, g2⟩ := hcell2 k hlt
   have hne : ¬ B'.pl = 0 := by rw [HPL.out]; omega
   have hk0 : (0 : Int) ≤ (k : Int) := by omega
   have hk1 : (k : Int) < (B.pl : Int) := by omega
   have hk2 : (k : Int) < (B'.pl : Int) := by rw [HPL.out]; omega
   have HSN := Lib.hid (mkW_set (xs := c.cs) (ys := ys) (d := d) hlt)
   have FA := Lib.hid (And.intro e0 (And.intro e1' e2))
   have FB := Lib.hid (And.intro g0 (And.intro g1 g2))
   have CC := Lib.hid (And.intro c0' (And.intro c1' c2'))
   have DD := Lib.hid (And.intro d0' (And.intro d1' d2'))
   have O1 := Lib.hid (OK.out.resolve_left hne)
   have hpa := PA.out.resolve_left hne
   have CO := TK.out.out 0 _ rfl
   rw [hpa] at CO
   have CM := (HA.out.below TK.out.bel) 0 _ rfl
   rw [e1] at CM
   have CO := Lib.hid CO
   have CM := Lib.hid CM
   clear hcell1 hcell2 e0 e1' e2 g0 g1 g2 c0' c1' c2' d0' d1' d2' hpa e1 hne
   go_wp2_with fail
   refine Reg6.wp_region_mix (s := 20) (C := fun w' => Below wr.heap.size wr w') (D := fun _ w' => ∃ wp y z v, Below wr.heap.size wr wp ∧ F3 y z v (movC (c.cs.getD k c0) (ys.getD k c0) d) ∧ w' = put3 wp g k y z v) (G := fun w1 w2 => Below w1.heap.size w1 w2)
    (Rv := fun i v => match i with | 0 => v = .pointer (some ⟨w1.heap.size, 0, none⟩) | 1 => v = .pointer (some ⟨w1.heap.size, 0, none⟩) | 2 => v = .slice (some ⟨g, 0, none⟩) B'.pl B'.pc | 3 => v = .int .i64 k | 4 => v = .pointer (some ⟨pb, 0, none⟩) | 5 => v = .pointer (some ⟨pb, 0, none⟩) | 6 => v = .pointer (some ⟨pb, 0, none⟩) | 7 => v = .pointer (some ⟨pb, 0, none⟩) | 8 => v = .slice (some ⟨b1, o1, none⟩) B.pl B.pc | 9 => v = .int .i64 k | 10 => v = .pointer (some ⟨b1, o1 + k * 3, none⟩) | 11 => v = vv p q t | 12 => v = .slice (some ⟨b2, o2, none⟩) B.pl cap | 13 => v = .int .i64 k | 14 => v = .pointer (some ⟨b2, o2 + k * 3, none⟩) | 15 => v = vv p' q' t' | 16 => v = .float .f32 x | 17 => ∃ y z u, v = vv y z u ∧ F3 y z u (scaleC' (ys.getD k c0) d) | 18 => ∃ y z u, v = vv y z u ∧ F3 y z u (movC (c.cs.getD k c0) (ys.getD k c0) d) | 19 => v = .pointer (some ⟨g, k * 3, none⟩) | _ => True)
    (Rw := fun _ _ _ => True) [false, false, false, false, false, false, false, false, false, false, false, false, false, false, false, false, true, true, true, true, true, true, true, true, true, true, true, true, true, true, true, true, true, true, true, true, false, false]
    (by kernel_rfl) (by kernel_rfl) (by kernel_rfl) (fun _ _ _ _ _ _ _ => trivial) (below_drewN (Below.refl _ _) 1) ?_ ?_
   ·refine ⟨?_, ?_, ?_, ?_, ?_, ?_, ?_, ?_, ?_, ?_, ?_, ?_, ?_, ?_, ?_, ?_, ?_, ?_, ?_, ?_, ?_, trivial⟩
    ·refine Reg6.Obl.early rfl (by kernel_rfl) ?_
     rintro av wq HC hx hd K hK
     replace HC := Lib.hid HC
     have t7 : av.tmps[7]?.getD undef = .pointer (some ⟨w1.heap.size, 0, none⟩) := Reg.slot_val (hx 7 (by kernel_rfl))
     go_simp
     exact hK _ _ rfl trivial HC.out (Below.refl _ _)
    ·refine Reg6.Obl.early rfl (by kernel_rfl) ?_
     rintro av wq HC hx hd K hK
     replace HC := Lib.hid HC
     have t16 : av.tmps[16]?.getD undef = .pointer (some ⟨w1.heap.size, 0, none⟩) := Reg.slot_val (hd 0 16 (by kernel_rfl) rfl).1
     go_simp
     exact hK _ _ rfl trivial HC.out (Below.refl _ _)
    ·refine Reg6.Obl.early rfl (by kernel_rfl) ?_
     rintro av wq HC hx hd K hK
     replace HC := Lib.hid HC
     have t17 : av.tmps[17]?.getD undef = .pointer (some ⟨w1.heap.size, 0, none⟩) := Reg.slot_val (hd 1 17 (by kernel_rfl) rfl).1
     have y0 := cell_below HC.out CO.out
     go_simp
     exact hK _ _ rfl trivial HC.out (Below.refl _ _)
    ·refine Reg6.Obl.early rfl (by kernel_rfl) ?_
     rintro av wq HC hx hd K hK
     replace HC := Lib.hid HC
     have t8 : av.tmps[8]?.getD undef = .int .i64 k := Reg.slot_val (hx 8 (by kernel_rfl))
     go_simp
     exact hK _ _ rfl trivial HC.out (Below.refl _ _)
    ·refine Reg6.Obl.early rfl (by kernel_rfl) ?_
     rintro av wq HC hx hd K hK
     replace HC := Lib.hid HC
     have t0 : av.tmps[0]?.getD undef = .pointer (some ⟨pb, 0, none⟩) := Reg.slot_val (hx 0 (by kernel_rfl))
     go_simp
     exact hK _ _ rfl trivial HC.out (Below.refl _ _)
    ·refine Reg6.Obl.early rfl (by kernel_rfl) ?_
     rintro av wq HC hx hd K hK
     replace HC := Lib.hid HC
     have t20 : av.tmps[20]?.getD undef = .pointer (some ⟨pb, 0, none⟩) := Reg.slot_val (hd 4 20 (by kernel_rfl) rfl).1
     go_simp
     exact hK _ _ rfl trivial HC.out (Below.refl _ _)
    ·refine Reg6.Obl.early rfl (by kernel_rfl) ?_
     rintro av wq HC hx hd K hK
     replace HC := Lib.hid HC
     have t21 : av.tmps[21]?.getD undef = .pointer (some ⟨pb, 0, none⟩) := Reg.slot_val (hd 5 21 (by kernel_rfl) rfl).1
     go_simp
     exact hK _ _ rfl trivial HC.out (Below.refl _ _)
    ·refine Reg6.Obl.early rfl (by kernel_rfl) ?_
     rintro av wq HC hx hd K hK
     replace HC := Lib.hid HC
     have t22 : av.tmps[22]?.getD undef = .pointer (some ⟨pb, 0, none⟩) := Reg.slot_val (hd 6 22 (by kernel_rfl) rfl).1
     go_simp
     exact hK _ _ rfl trivial HC.out (Below.refl _ _)
    ·refine Reg6.Obl.early rfl (by kernel_rfl) ?_
     rintro av wq HC hx hd K hK
     replace HC := Lib.hid HC
     have t23 : av.tmps[23]?.getD undef = .pointer (some ⟨pb, 0, none⟩) := Reg.slot_val (hd 7 23 (by kernel_rfl) rfl).1
     have y0 := cell_below HC.out CM.out
     go_simp
     exact hK _ _ rfl trivial HC.out (Below.refl _ _)
    ·refine Reg6.Obl.early rfl (by kernel_rfl) ?_
     rintro av wq HC hx hd K hK
     replace HC := Lib.hid HC
     have t8 : av.tmps[8]?.getD undef = .int .i64 k := Reg.slot_val (hx 8 (by kernel_rfl))
     go_simp
     exact hK _ _ rfl trivial HC.out (Below.refl _ _)
    ·refine Reg6.Obl.early rfl (by kernel_rfl) ?_
     rintro av wq HC hx hd K hK
     replace HC := Lib.hid HC
     have t24 : av.tmps[24]?.getD undef = .slice (some ⟨b1, o1, none⟩) B.pl B.pc := Reg.slot_val (hd 8 24 (by kernel_rfl) rfl).1
     have t25 : av.tmps[25]?.getD undef = .int .i64 k := Reg.slot_val (hd 9 25 (by kernel_rfl) rfl).1
     go_simp
     exact hK _ _ rfl trivial HC.out (Below.refl _ _)
    ·refine Reg6.Obl.early rfl (by kernel_rfl) ?_
     rintro av wq HC hx hd K hK
     replace HC := Lib.hid HC
     have t26 : av.tmps[26]?.getD undef = .pointer (some ⟨b1, o1 + k * 3, none⟩) := Reg.slot_val (hd 10 26 (by kernel_rfl) rfl).1
     have y0 := cell_below HC.out CC.out.1
     have y1 := cell_below HC.out CC.out.2.1
     have y2 := cell_below HC.out CC.out.2.2
     go_simp
     exact hK _ _ rfl trivial HC.out (Below.refl _ _)
    ·refine Reg6.Obl.early rfl (by kernel_rfl) ?_
     rintro av wq HC hx hd K hK
     replace HC := Lib.hid HC
     have t1 : av.tmps[1]?.getD undef = .slice (some ⟨b2, o2, none⟩) B.pl cap := Reg.slot_val (hx 1 (by kernel_rfl))
     go_simp
     exact hK _ _ rfl trivial HC.out (Below.refl _ _)
    ·refine Reg6.Obl.early rfl (by kernel_rfl) ?_
     rintro av wq HC hx hd K hK
     replace HC := Lib.hid HC
     have t8 : av.tmps[8]?.getD undef = .int .i64 k := Reg.slot_val (hx 8 (by kernel_rfl))
     go_simp
     exact hK _ _ rfl trivial HC.out (Below.refl _ _)
    ·refine Reg6.Obl.early rfl (by kernel_rfl) ?_
     rintro av wq HC hx hd K hK
     replace HC := Lib.hid HC
     have t28 : av.tmps[28]?.getD undef = .slice (some ⟨b2, o2, none⟩) B.pl cap := Reg.slot_val (hd 12 28 (by kernel_rfl) rfl).1
     have t29 : av.tmps[29]?.getD undef = .int .i64 k := Reg.slot_val (hd 13 29 (by kernel_rfl) rfl).1
     go_simp
     exact hK _ _ rfl trivial HC.out (Below.refl _ _)
    ·refine Reg6.Obl.early rfl (by kernel_rfl) ?_
     rintro av wq HC hx hd K hK
     replace HC := Lib.hid HC
     have t30 : av.tmps[30]?.getD undef = .pointer (some ⟨b2, o2 + k * 3, none⟩) := Reg.slot_val (hd 14 30 (by kernel_rfl) rfl).1
     have y0 := cell_below HC.out DD.out.1
     have y1 := cell_below HC.out DD.out.2.1
     have y2 := cell_below HC.out DD.out.2.2
     go_simp
     exact hK _ _ rfl trivial HC.out (Below.refl _ _)
    ·refine Reg6.Obl.early rfl (by kernel_rfl) ?_
     rintro av wq HC hx hd K hK
     replace HC := Lib.hid HC
     have t2 : av.tmps[2]?.getD undef = .float .f32 x := Reg.slot_val (hx 2 (by kernel_rfl))
     go_simp
     exact hK _ _ rfl trivial HC.out (Below.refl _ _)
    ·refine Reg6.Obl.early rfl (by kernel_rfl) ?_
     rintro av wq HC hx hd K hK
     replace HC := Lib.hid HC
     have t31 : av.tmps[31]?.getD undef = vv p' q' t' := Reg.slot_val (hd 15 31 (by kernel_rfl) rfl).1
     have t32 : av.tmps[32]?.getD undef = .float .f32 x := Reg.slot_val (hd 16 32 (by kernel_rfl) rfl).1
     go_simp
     refine (l01Scale _ _ _ _ _ _ _ _ _ FB.out.1 FB.out.2.1 FB.out.2.2 HX.out).mono ?_
     rintro en w2 ⟨y, z, u, rfl, f0, f1, f2, hB2⟩
     exact hK _ _ ⟨y, z, u, rfl, f0, f1, f2⟩ trivial (HC.out.trans (hB2.mono HC.out.size)) hB2
    ·refine Reg6.Obl.early rfl (by kernel_rfl) ?_
     rintro av wq HC hx hd K hK
     replace HC := Lib.hid HC
     have t27 : av.tmps[27]?.getD undef = vv p q t := Reg.slot_val (hd 11 27 (by kernel_rfl) rfl).1
     obtain ⟨y, z, u, g33, f33⟩ := (hd 17 33 (by kernel_rfl) rfl).1
     have t33 := Reg.slot_val g33
     have F33 := Lib.hid f33
     clear g33 f33
     go_simp
     refine (l01Add _ _ _ _ _ _ _ _ _ _ _ _ _ FA.out.1 FA.out.2.1 FA.out.2.2 F33.out.1 F33.out.2.1 F33.out.2.2).mono ?_
     rintro en w2 ⟨y', z', u', rfl, f0, f1, f2, hB2⟩
     exact hK _ _ ⟨y', z', u', rfl, f0, f1, f2⟩ trivial (HC.out.trans (hB2.mono HC.out.size)) hB2
    ·refine Reg6.Obl.early rfl (by kernel_rfl) ?_
     rintro av wq HC hx hd K hK
     replace HC := Lib.hid HC
     have t18 : av.tmps[18]?.getD undef = .slice (some ⟨g, 0, none⟩) B'.pl B'.pc := Reg.slot_val (hd 2 18 (by kernel_rfl) rfl).1
     have t19 : av.tmps[19]?.getD undef = .int .i64 k := Reg.slot_val (hd 3 19 (by kernel_rfl) rfl).1
     go_simp
     exact hK _ _ (by first | rfl | simp) trivial HC.out (Below.refl _ _)
    ·refine Reg6.Obl.store rfl ?_
     rintro av wq HC hx hd K hK
     replace HC := Lib.hid HC
     have t35 : av.tmps[35]?.getD undef = .pointer (some ⟨g, k * 3, none⟩) := Reg.slot_val (hd 19 35 (by kernel_rfl) rfl).1
     obtain ⟨y, z, v, g34, f34⟩ := (hd 18 34 (by kernel_rfl) rfl).1
     have t34 := Reg.slot_val g34
     have HP : Hid (∃ wp y' z' v', Below wr.heap.size wr wp ∧ F3 y' z' v' (movC (c.cs.getD k c0) (ys.getD k c0) d) ∧ put3 wq g k y z v = put3 wp g k y' z' v') := Lib.hid ⟨wq, y, z, v, HC.out, f34, rfl⟩
     obtain ⟨p0, q0, r0, ⟨y0, y1, y2⟩, -⟩ := (O1.out.below HC.out).at (k := k) (by rw [mkW_len]; exact hlt)
     have f0 := (O1.out.below HC.out).2.1 (k * 3)
     have f1 := (O1.out.below HC.out).2.1 (k * 3 + 1)
     have f2 := (O1.out.below HC.out).2.1 (k * 3 + 2)
     clear g34 f34
     go_simp
     exact hK _ HP.out
   ·rintro f w2 hD hd
    obtain ⟨wp, y, z, v, hB, hF, rfl⟩ := hD
    simp only [Reg.mixL]
    have O2 := Lib.hid ((O1.out.below hB).put (k := k) (by rw [mkW_len]; exact hlt) hF)
    have T2 := Lib.hid ((TK.out.call hB).put3 (k := k) (y := y) (z := z) (v := v) (show w.heap.size ≤ g by have := G.out.1; omega) G.out.2 (show g ≠ w.heap.size by have := G.out.1; omega))
    have E2 := Lib.hid ((EK.out.trans (Agree.of_below hB)).put3 (k := k) (y := y) (z := z) (v := v) (fun hb => hb.1 rfl))
    clear hB hF hd
    go_wp2
    go_roundw
    case rel => exact ⟨k + 1, by omega, by go_num, T2.out, .inr (by rw [← HSN.out]; exact O2.out), E2.out⟩
    case measure => simp [intOf]; omega
  ·obtain rfl : k = B.pl := by omega
   have k0 := TK.out.out 0 _ rfl
   have k1 := TK.out.out 1 _ rfl
   have k2 := TK.out.out 2 _ rfl
   have k3 := TK.out.out 3 _ rfl
   have k4 := TK.out.out 4 _ rfl
   have k5 := TK.out.out 5 _ rfl
   have k6 := TK.out.out 6 _ rfl
   have k7 := TK.out.out 7 _ rfl
   have k8 := TK.out.out 8 _ rfl
   have q0 := TK.out.res 0 _ rfl
   have p0 := TK.out.fr 0
   have q1 := TK.out.res 1 _ rfl
   have p1 := TK.out.fr 1
   have q2 := TK.out.res 2 _ rfl
   have p2 := TK.out.fr 2
   have q3 := TK.out.res 3 _ rfl
   have p3 := TK.out.fr 3
   have q4 := TK.out.res 4 _ rfl
   have p4 := TK.out.fr 4
   have q5 := TK.out.res 5 _ rfl
   have p5 := TK.out.fr 5
   have q6 := TK.out.res 6 _ rfl
   have p6 := TK.out.fr 6
   have q7 := TK.out.res 7 _ rfl
   have p7 := TK.out.fr 7
   have q8 := TK.out.res 8 _ rfl
   have p8 := TK.out.fr 8
   obtain ⟨hR, hBB⟩ := TK.out.fin (vs' := B'.l) rfl
   have hE := Agree.setL (S := fun b => b ≠ g ∧ w.heap.size + 1 ≤ b ∧ b < w1.heap.size) (g := w.heap.size) (fun hb => by omega) B'.l _ 0 EK.out
   have hO := OK.out.imp id (fun k => OwnVs.agree (S := fun b => b ≠ w.heap.size) k (show g ≠ w.heap.size by have := G.out.1; omega) (Agree.setL (fun hb => hb rfl) B'.l _ 0 (Agree.refl _ _)))
   have hF := pz_fin K.out.1 K.out.2.1 K.out.2.2 hE hO (by rw [mkW_len, HPL.out])
   have hsz := hE.size
   simp only [setL, Nat.zero_add, Nat.reduceAdd] at hR hBB hF hsz
   have HR := Lib.hid hR
   have HBB := Lib.hid hBB
   have HF := Lib.hid hF
   have HSZ := Lib.hid hsz
   clear hR hBB hE hO hF hsz
   go_wp2
   clear k0 k1 k2 k3 k4 k5 k6 k7 k8 q0 q1 q2 q3 q4 q5 q6 q7 q8 p0 p1 p2 p3 p4 p5 p6 p7 p8
   have m0 := HR.out 0 _ rfl
   have m1 := HR.out 1 _ rfl
   have m2 := HR.out 2 _ rfl
   have m3 := HR.out 3 _ rfl
   have m4 := HR.out 4 _ rfl
   have m5 := HR.out 5 _ rfl
   have m6 := HR.out 6 _ rfl
   have m7 := HR.out 7 _ rfl
   have m8 := HR.out 8 _ rfl
   refine bodyPost_ret (v := B'.v) (by simp [results, Tryz.results90, go_sem, m0, m1, m2, m3, m4, m5, m6, m7, m8]) rfl ?_
   refine ⟨B', rfl, ?_, HF.out.2.wide (by omega) HSZ.out, HBB.out⟩
   have := HF.out.1
   rw [mkW_full] at this
   exact this
end Go.Proofs.YtabccmobmppdnaaGreat
namespace Go.Proofs.YtabccmobmppdnaaGreat
open Go Fk Go.RowKit
set_option linter.unusedVariables false
set_option maxRecDepth 8000
theorem mvC_body {c : Bc} (ys : List C3) (d : Option Nat) (h : bodyB c = true) : bodyB (mvC c ys d) = true := by
 have hl : (mvC c ys d).cs.length = c.cs.length := mkM_len _ _ _ _ _
 unfold bodyB validB at h ⊢
 rw [hl]
 exact h
end Go.Proofs.YtabccmobmppdnaaGreat
namespace Go.Proofs.YtabccmobmppdnaaGreat
open Go Fk Go.RowKit
set_option linter.unusedVariables false
set_option maxRecDepth 16000
theorem Bx.away {w w1 w2 : World} {L : List (Nat × List Value)} {lo hi : Nat} (h : Bx w L w1) (hM : Mark lo hi w1 w2) (hl : w.heap.size ≤ lo) (ho : ∀ b l, (b, l) ∈ L → b < lo ∨ hi ≤ b) : Bx w L w2 :=
 ⟨h.1.trans (hM.below.mono hl), fun b l hm => ⟨fun i v hv => hM.cell (ho b l hm) ((h.2 b l hm).1 i v hv), fun i => by rw [hM.frozen _ _ (h.2 b l hm).2.2.1]; exact (h.2 b l hm).2.1 i, Nat.lt_of_lt_of_le (h.2 b l hm).2.2.1 hM.below.size, (h.2 b l hm).2.2.2⟩⟩
end Go.Proofs.YtabccmobmppdnaaGreat
namespace Go.Proofs.YtabccmobmppdnaaGreat
open Go Fk Go.RowKit
set_option linter.unusedVariables false
set_option maxRecDepth 8000
set_option maxHeartbeats 1000000 in
theorem laws_markBodyZ (lo hi : Nat) (B : Bd) (c : Bc) (w : World) (h : OwnB lo hi w B c.ts) (hI : IsB w B c) (hs : SmallB c) (hlo : lo ≤ w.heap.size) (hhi : hi ≤ w.heap.size) :
  Calls Tryz.prog 25 #[B.v, .int .i64 1] w fun e w' => ∃ z : Nat, z ≤ 3000000000000000000 ∧ e = .returned (.int .i64 z) ∧ Mark lo hi w w' := by
 have ui := Tryz.underlying44
 have uim := Tryz.underlying40
 have A0 : Hid (At (w.alloc (BoxB B 44)) w.heap.size B.l) := Lib.hid At.new
 have B0 : Hid (Below w.heap.size w (w.alloc (BoxB B 44))) := Lib.hid ((Below.refl _ _).alloc (Nat.le_refl _) _)
 have M0 : Hid (Mark lo hi w (w.alloc (BoxB B 44))) := Lib.hid (Mark.alloc hlo _)
 have hz : lo ≤ (w.alloc (BoxB B 44)).heap.size := by simp; omega
 have ln := hI.lens
 have h1 : B.pl ≤ 1048576 := by rw [← ln.1]; exact hs.1.1
 have h2 : B.tl ≤ 1048576 := by rw [← ln.2.1]; exact hs.1.2.1
 have h3 : ∀ j, j < B.tl → (c.ts.getD j []).length ≤ 1048576 := fun j hj => hs.1.2.2 j (by rw [ln.2.1]; exact hj)
 have h4 : B.sl ≤ 1048576 := by rw [← ln.2.2.1]; exact hs.2.1
 have h5 : B.wl ≤ 1048576 := by rw [← ln.2.2.2]; exact hs.2.2
 obtain ⟨P, R, T, G, e1, e2, e3, e4, m, r, s, g⟩ := h.below B0.out
 have J := Lib.hid (laws_markMeshB lo hi P 0 R 0 B.pl B.pc B.tl B.tc c.ts 1 _ m hz h1 h2 h3 (by decide))
 have SG := Lib.hid (And.intro s g)
 have HHI := Lib.hid hhi
 clear hI hs m s g h h3
 rw [← e1, ← e2] at J
 have ES := Lib.hid (And.intro e3 e4)
 clear e1 e2 e3 e4 r
 go_enter Tryz.func25, Tryz.ntmps25
 go_wp2_with fail
 change Calls _ _ _ (w.alloc (BoxB B 44)) _
 generalize (w.alloc (BoxB B 44)) = W at *
 refine J.out.mono ?_
 rintro e w1 ⟨z, hzb, rfl, hM1⟩
 have k2 := hM1.cell (.inr HHI.out) (A0.out 2 _ rfl)
 have k5 := hM1.cell (.inr HHI.out) (A0.out 5 _ rfl)
 have X1 := Lib.hid (M0.out.trans hM1)
 have J2 := Lib.hid (laws_markSpringS lo hi T 0 B.sl B.sc z w1 (SG.out.1.mark hM1) (by omega))
 rw [← ES.out.1] at J2
 have L2 := Lib.hid (SG.out.2.mark hM1)
 clear hM1
 go_wp2_with fail
 refine J2.out.mono ?_
 rintro e w2 ⟨rfl, _, _, hM2⟩
 have k5' := hM2.cell (.inr HHI.out) k5
 have X2 := Lib.hid (X1.out.trans hM2)
 have J3 := Lib.hid (laws_markFloat32S lo hi G 0 B.wl B.wc (z + B.sl * 4) w2 (L2.out.mark hM2) (by omega))
 rw [← ES.out.2] at J3
 clear hM2 k2 k5
 obtain ⟨y, hy⟩ : ∃ y, y = z + B.sl * 4 := ⟨_, rfl⟩
 rw [← hy] at J3 ⊢
 have hyb : y + B.wl ≤ 3000000000000000000 := by omega
 clear hy
 go_wp2_with fail
 refine J3.out.mono ?_
 rintro e w3 ⟨rfl, _, _, hM3⟩
 have X3 := Lib.hid (X2.out.trans hM3)
 clear hM3
 go_wp2
 go_ret
 exact ⟨y + B.wl, hyb, by first | rfl | simp, X3.out⟩
theorem vec_own {lo hi Q n cap : Nat} {w : World} {ys : List C3} (h : IsVs w (some ⟨Q, 0, none⟩) n cap ys) (hf : ∀ i, w.frozen? ⟨Q, i, none⟩ = false) (h1 : lo ≤ Q) (h2 : Q < hi) (h3 : Q < w.heap.size) : Own lo hi w Q 0 (n * 3) := by
 refine ⟨h1, h2, h3, fun j hj => ⟨?_, hf _⟩⟩
 obtain ⟨p, q, r, k0, k1, k2, _⟩ := h.2.2.2.2 _ rfl (j / 3) (by omega)
 rw [addr_add', Nat.zero_add] at k0 k1 k2
 rw [Nat.zero_add]
 rcases (show j % 3 = 0 ∨ j % 3 = 1 ∨ j % 3 = 2 by omega) with e | e | e
 ·rw [show j / 3 * 3 = j by omega] at k0; exact ⟨_, k0⟩
 ·rw [show j / 3 * 3 + 1 = j by omega] at k1; exact ⟨_, k1⟩
 ·rw [show j / 3 * 3 + 2 = j by omega] at k2; exact ⟨_, k2⟩
end Go.Proofs.YtabccmobmppdnaaGreat
namespace Go.Proofs.YtabccmobmppdnaaGreat
open Go Fk Go.RowKit
set_option linter.unusedVariables false
set_option maxRecDepth 8000
end Go.Proofs.YtabccmobmppdnaaGreat

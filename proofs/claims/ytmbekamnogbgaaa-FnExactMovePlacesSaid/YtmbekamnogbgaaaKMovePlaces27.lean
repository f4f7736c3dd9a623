/-
Texts in one: what MovePlaces stands on, part 27. Conditions: those of each.
-/
import Derived.Test.YtmbekamnogbgaaaKMovePlaces26
import Derived.Lib.SmallJoins

/-
A body whose places are moved: what the model makes. Conditions: all lie in memory, of one length.
-/
namespace Go.Proofs.Ytmbekamnogbgaaa
open Go Fk Go.RowKit
set_option linter.unusedVariables false
set_option maxRecDepth 8000

set_option maxHeartbeats 4000000 in
theorem l03Moved (pb : Nat) (B : Bd) (c : Bc) (a : Option Addr) (cap : Nat) (ys : List C3) (x : Nat) (d : Option Nat) (w : World) (A : At w pb B.l) (h : IsB w B c) (hv : IsVs w a B.pl cap ys) (hx : FV .f32 x d) (hpl : B.pl ≤ 1000) (htl : B.tl ≤ 1000) (h3 : ∀ k, k < B.tl → (c.ts.getD k []).length ≤ 1000) (hsl : B.sl ≤ 1000) (hwl : B.wl ≤ 1000) :
    Calls Try.prog 83 #[.pointer (some ⟨pb, 0, none⟩), .slice a B.pl cap, .float .f32 x] w fun e w' => ∃ B' : Bd, e = .returned B'.v ∧ IsB w' B' (mvC c ys d) ∧ LB w.heap.size w'.heap.size w' B' ∧ Below w.heap.size w w' := by
  have ui := Try.underlying36
  have uim := Try.underlying29
  have hm : B.pl ≤ 9223372036854775807 := by omega
  have B0 : Hid (Below w.heap.size w (w.alloc (.cells #[.slice none 0 0, .slice none 0 0, .slice none 0 0, .float .f32 0, .float .f32 0, .slice none 0 0, .float .f32 0, .float .f32 0, .float .f32 0] 36))) := Lib.hid ((Below.refl _ _).alloc (Nat.le_refl _) _)
  have A0 : Hid (At (w.alloc (.cells #[.slice none 0 0, .slice none 0 0, .slice none 0 0, .float .f32 0, .float .f32 0, .slice none 0 0, .float .f32 0, .float .f32 0, .float .f32 0] 36)) w.heap.size Z9') := Lib.hid At.new
  have F0 : Hid (∀ i, (w.alloc (.cells #[.slice none 0 0, .slice none 0 0, .slice none 0 0, .float .f32 0, .float .f32 0, .slice none 0 0, .float .f32 0, .float .f32 0, .float .f32 0] 36)).frozen? ⟨w.heap.size, i, none⟩ = false) := Lib.hid (fun i => by go_simp)
  have hsz : (w.alloc (.cells #[.slice none 0 0, .slice none 0 0, .slice none 0 0, .float .f32 0, .float .f32 0, .slice none 0 0, .float .f32 0, .float .f32 0, .float .f32 0] 36)).heap.size = w.heap.size + 1 := by simp
  have SZ := Lib.hid hsz
  have HA := Lib.hid A
  have H := Lib.hid h
  have HV := Lib.hid hv
  have HX := Lib.hid hx
  have LN := Lib.hid h.lens
  have HOWN := Lib.hid (l03OwnP pb B c _ (A.below B0.out) (h.below B0.out) hpl htl h3 hsl hwl)
  unfold mvC
  rw [LN.out.1]
  clear h hv hx h3 hsz A
  go_enter Try.func83, Try.ntmps83
  go_wp2_with fail
  generalize (w.alloc (.cells #[.slice none 0 0, .slice none 0 0, .slice none 0 0, .float .f32 0, .float .f32 0, .slice none 0 0, .float .f32 0, .float .f32 0, .float .f32 0] 36)) = W at *
  refine HOWN.out.mono ?_
  rintro e w1 ⟨B', rfl, hI, hL, hX, hpl', hB1⟩
  have hs1 := hB1.size
  rw [SZ.out] at hs1 hL
  rw [← hpl'] at hX
  obtain ⟨g, g1, g2, hZ⟩ := pz_of hL hX hs1
  have hN : Below w1.heap.size w1 (w1.alloc (.cells #[.slice B'.pa B'.pl B'.pc, .slice B'.ta B'.tl B'.tc, .slice B'.sa B'.sl B'.sc, .float .f32 B'.film, .float .f32 B'.bend, .slice B'.wa B'.wl B'.wc, .float .f32 B'.x, .float .f32 B'.y, .float .f32 B'.z] 36)) := (Below.refl _ _).alloc (Nat.le_refl _) _
  have T0 : Hid (Tc w w1.heap.size w.heap.size B'.l Z9' (w1.alloc (.cells #[.slice B'.pa B'.pl B'.pc, .slice B'.ta B'.tl B'.tc, .slice B'.sa B'.sl B'.sc, .float .f32 B'.film, .float .f32 B'.bend, .slice B'.wa B'.wl B'.wc, .float .f32 B'.x, .float .f32 B'.y, .float .f32 B'.z] 36))) := Lib.hid
    ⟨At.new, (A0.out.below hB1).below hN, fun i => by go_simp, fun i => by rw [hN.frozen (p := ⟨w.heap.size, i, none⟩) (show w.heap.size < w1.heap.size by omega), hB1.frozen (p := ⟨w.heap.size, i, none⟩) (show w.heap.size < W.heap.size by rw [SZ.out]; omega)]; exact F0.out i, (B0.out.trans (hB1.mono B0.out.size)).trans (hN.mono (by omega)), ⟨by omega, Nat.le_refl _, by omega⟩, by simp <;> omega⟩
  have K := Lib.hid (And.intro hI (And.intro hL hZ))
  have G := Lib.hid (And.intro g1 g2)
  have O0 : Hid (B'.pl = 0 ∨ OwnVs (w1.alloc (.cells #[.slice B'.pa B'.pl B'.pc, .slice B'.ta B'.tl B'.tc, .slice B'.sa B'.sl B'.sc, .float .f32 B'.film, .float .f32 B'.bend, .slice B'.wa B'.wl B'.wc, .float .f32 B'.x, .float .f32 B'.y, .float .f32 B'.z] 36)) g (mkW c.cs ys d B.pl 0)) := Lib.hid (hZ.1.imp id fun k => by rw [mkW_zero LN.out.1]; exact k.2.below hN)
  have E0 : Hid (Agree (fun b => b ≠ g ∧ w.heap.size + 1 ≤ b ∧ b < w1.heap.size) w1 (w1.alloc (.cells #[.slice B'.pa B'.pl B'.pc, .slice B'.ta B'.tl B'.tc, .slice B'.sa B'.sl B'.sc, .float .f32 B'.film, .float .f32 B'.bend, .slice B'.wa B'.wl B'.wc, .float .f32 B'.x, .float .f32 B'.y, .float .f32 B'.z] 36))) := Lib.hid (Agree.of_below hN)
  have HPL := Lib.hid hpl'
  have PA : Hid (B'.pl = 0 ∨ B'.pa = some ⟨g, 0, none⟩) := Lib.hid (hZ.1.imp id (fun k => k.1))
  have S1 := Lib.hid hs1
  clear hI hL hX hZ hN hB1 hs1 hpl' g1 g2
  go_wp2
  generalize (w1.alloc (.cells #[.slice B'.pa B'.pl B'.pc, .slice B'.ta B'.tl B'.tc, .slice B'.sa B'.sl B'.sc, .float .f32 B'.film, .float .f32 B'.bend, .slice B'.wa B'.wl B'.wc, .float .f32 B'.x, .float .f32 B'.y, .float .f32 B'.z] 36)) = W2 at *
  go_loopw [13] (fun i w' => ∃ k : Nat, k ≤ B.pl ∧ i = .int .i64 k ∧ Aside (Tc w w1.heap.size w.heap.size B'.l Z9' w' ∧ (B'.pl = 0 ∨ OwnVs w' g (mkW c.cs ys d B.pl k)) ∧ Agree (fun b => b ≠ g ∧ w.heap.size + 1 ≤ b ∧ b < w1.heap.size) w1 w')) (fun i _ => B.pl - (intOf i).toNat)
  case atStart => exact ⟨0, Nat.zero_le _, rfl, T0.out, O0.out, E0.out⟩
  case round =>
    obtain ⟨k, hk, rfl, hA⟩ := hrel
    have TK := Lib.hid hA.out.1
    have OK := Lib.hid hA.out.2.1
    have EK := Lib.hid hA.out.2.2
    clear hA
    by_cases hlt : k < B.pl
    · obtain ⟨b1, o1, e1, hcell1⟩ := (H.out.1.below TK.out.bel).some (by omega)
      obtain ⟨b2, o2, rfl, hcell2⟩ := (HV.out.below TK.out.bel).some (by omega)
      obtain ⟨p, q, t, c0', c1', c2', e0, e1', e2⟩ := hcell1 k hlt
      obtain ⟨p', q', t', d0', d1', d2', g0, g1, g2⟩ := hcell2 k hlt
      have hne : ¬ B'.pl = 0 := by rw [HPL.out]; omega
      have hk0 : (0 : Int) ≤ (k : Int) := by omega
      have hk1 : (k : Int) < (B.pl : Int) := by omega
      have hk2 : (k : Int) < (B'.pl : Int) := by rw [HPL.out]; omega
      have HSN := Lib.hid (mkW_set (xs := c.cs) (ys := ys) (d := d) hlt)
      have FA := Lib.hid (And.intro e0 (And.intro e1' e2))
      have FB := Lib.hid (And.intro g0 (And.intro g1 g2))
      have CC := Lib.hid (And.intro c0' (And.intro c1' c2'))
      have DD := Lib.hid (And.intro d0' (And.intro d1' d2'))
      have O1 := Lib.hid (OK.out.resolve_left hne)
      have hpa := PA.out.resolve_left hne
      have CO := TK.out.out 0 _ rfl
      rw [hpa] at CO
      have CM := (HA.out.below TK.out.bel) 0 _ rfl
      rw [e1] at CM
      have CO := Lib.hid CO
      have CM := Lib.hid CM
      clear hcell1 hcell2 e0 e1' e2 g0 g1 g2 c0' c1' c2' d0' d1' d2' hpa e1 hne
      go_wp2_with fail
      refine Reg6.wp_region_mix (s := 20) (C := fun w' => Below wr.heap.size wr w') (D := fun _ w' => ∃ wp y z v, Below wr.heap.size wr wp ∧ F3 y z v (movC (c.cs.getD k c0) (ys.getD k c0) d) ∧ w' = put3 wp g k y z v) (G := fun w1 w2 => Below w1.heap.size w1 w2)
        (Rv := fun i v => match i with | 0 => v = .pointer (some ⟨w1.heap.size, 0, none⟩) | 1 => v = .pointer (some ⟨w1.heap.size, 0, none⟩) | 2 => v = .slice (some ⟨g, 0, none⟩) B'.pl B'.pc | 3 => v = .int .i64 k | 4 => v = .pointer (some ⟨pb, 0, none⟩) | 5 => v = .pointer (some ⟨pb, 0, none⟩) | 6 => v = .pointer (some ⟨pb, 0, none⟩) | 7 => v = .pointer (some ⟨pb, 0, none⟩) | 8 => v = .slice (some ⟨b1, o1, none⟩) B.pl B.pc | 9 => v = .int .i64 k | 10 => v = .pointer (some ⟨b1, o1 + k * 3, none⟩) | 11 => v = vv p q t | 12 => v = .slice (some ⟨b2, o2, none⟩) B.pl cap | 13 => v = .int .i64 k | 14 => v = .pointer (some ⟨b2, o2 + k * 3, none⟩) | 15 => v = vv p' q' t' | 16 => v = .float .f32 x | 17 => ∃ y z u, v = vv y z u ∧ F3 y z u (scaleC' (ys.getD k c0) d) | 18 => ∃ y z u, v = vv y z u ∧ F3 y z u (movC (c.cs.getD k c0) (ys.getD k c0) d) | 19 => v = .pointer (some ⟨g, k * 3, none⟩) | _ => True)
        (Rw := fun _ _ _ => True) [false, false, false, false, false, false, false, false, false, false, false, false, false, false, false, false, true, true, true, true, true, true, true, true, true, true, true, true, true, true, true, true, true, true, true, true, false, false]
        (by kernel_rfl) (by kernel_rfl) (by kernel_rfl) (fun _ _ _ _ _ _ _ => trivial) (below_drewN (Below.refl _ _) 1) ?_ ?_
      · refine ⟨?_, ?_, ?_, ?_, ?_, ?_, ?_, ?_, ?_, ?_, ?_, ?_, ?_, ?_, ?_, ?_, ?_, ?_, ?_, ?_, ?_, trivial⟩
        · refine Reg6.Obl.early rfl (by kernel_rfl) ?_
          rintro av wq hC hx hd K hK
          have HC := Lib.hid hC
          clear hC
          have t7 : av.tmps[7]?.getD undef = .pointer (some ⟨w1.heap.size, 0, none⟩) := Reg.slot_val (hx 7 (by kernel_rfl))
          go_simp
          exact hK _ _ rfl trivial HC.out (Below.refl _ _)
        · refine Reg6.Obl.early rfl (by kernel_rfl) ?_
          rintro av wq hC hx hd K hK
          have HC := Lib.hid hC
          clear hC
          have t16 : av.tmps[16]?.getD undef = .pointer (some ⟨w1.heap.size, 0, none⟩) := Reg.slot_val (hd 0 16 (by kernel_rfl) rfl).1
          go_simp
          exact hK _ _ rfl trivial HC.out (Below.refl _ _)
        · refine Reg6.Obl.early rfl (by kernel_rfl) ?_
          rintro av wq hC hx hd K hK
          have HC := Lib.hid hC
          clear hC
          have t17 : av.tmps[17]?.getD undef = .pointer (some ⟨w1.heap.size, 0, none⟩) := Reg.slot_val (hd 1 17 (by kernel_rfl) rfl).1
          have y0 := cell_below HC.out CO.out
          go_simp
          exact hK _ _ rfl trivial HC.out (Below.refl _ _)
        · refine Reg6.Obl.early rfl (by kernel_rfl) ?_
          rintro av wq hC hx hd K hK
          have HC := Lib.hid hC
          clear hC
          have t8 : av.tmps[8]?.getD undef = .int .i64 k := Reg.slot_val (hx 8 (by kernel_rfl))
          go_simp
          exact hK _ _ rfl trivial HC.out (Below.refl _ _)
        · refine Reg6.Obl.early rfl (by kernel_rfl) ?_
          rintro av wq hC hx hd K hK
          have HC := Lib.hid hC
          clear hC
          have t0 : av.tmps[0]?.getD undef = .pointer (some ⟨pb, 0, none⟩) := Reg.slot_val (hx 0 (by kernel_rfl))
          go_simp
          exact hK _ _ rfl trivial HC.out (Below.refl _ _)
        · refine Reg6.Obl.early rfl (by kernel_rfl) ?_
          rintro av wq hC hx hd K hK
          have HC := Lib.hid hC
          clear hC
          have t20 : av.tmps[20]?.getD undef = .pointer (some ⟨pb, 0, none⟩) := Reg.slot_val (hd 4 20 (by kernel_rfl) rfl).1
          go_simp
          exact hK _ _ rfl trivial HC.out (Below.refl _ _)
        · refine Reg6.Obl.early rfl (by kernel_rfl) ?_
          rintro av wq hC hx hd K hK
          have HC := Lib.hid hC
          clear hC
          have t21 : av.tmps[21]?.getD undef = .pointer (some ⟨pb, 0, none⟩) := Reg.slot_val (hd 5 21 (by kernel_rfl) rfl).1
          go_simp
          exact hK _ _ rfl trivial HC.out (Below.refl _ _)
        · refine Reg6.Obl.early rfl (by kernel_rfl) ?_
          rintro av wq hC hx hd K hK
          have HC := Lib.hid hC
          clear hC
          have t22 : av.tmps[22]?.getD undef = .pointer (some ⟨pb, 0, none⟩) := Reg.slot_val (hd 6 22 (by kernel_rfl) rfl).1
          go_simp
          exact hK _ _ rfl trivial HC.out (Below.refl _ _)
        · refine Reg6.Obl.early rfl (by kernel_rfl) ?_
          rintro av wq hC hx hd K hK
          have HC := Lib.hid hC
          clear hC
          have t23 : av.tmps[23]?.getD undef = .pointer (some ⟨pb, 0, none⟩) := Reg.slot_val (hd 7 23 (by kernel_rfl) rfl).1
          have y0 := cell_below HC.out CM.out
          go_simp
          exact hK _ _ rfl trivial HC.out (Below.refl _ _)
        · refine Reg6.Obl.early rfl (by kernel_rfl) ?_
          rintro av wq hC hx hd K hK
          have HC := Lib.hid hC
          clear hC
          have t8 : av.tmps[8]?.getD undef = .int .i64 k := Reg.slot_val (hx 8 (by kernel_rfl))
          go_simp
          exact hK _ _ rfl trivial HC.out (Below.refl _ _)
        · refine Reg6.Obl.early rfl (by kernel_rfl) ?_
          rintro av wq hC hx hd K hK
          have HC := Lib.hid hC
          clear hC
          have t24 : av.tmps[24]?.getD undef = .slice (some ⟨b1, o1, none⟩) B.pl B.pc := Reg.slot_val (hd 8 24 (by kernel_rfl) rfl).1
          have t25 : av.tmps[25]?.getD undef = .int .i64 k := Reg.slot_val (hd 9 25 (by kernel_rfl) rfl).1
          go_simp
          exact hK _ _ rfl trivial HC.out (Below.refl _ _)
        · refine Reg6.Obl.early rfl (by kernel_rfl) ?_
          rintro av wq hC hx hd K hK
          have HC := Lib.hid hC
          clear hC
          have t26 : av.tmps[26]?.getD undef = .pointer (some ⟨b1, o1 + k * 3, none⟩) := Reg.slot_val (hd 10 26 (by kernel_rfl) rfl).1
          have y0 := cell_below HC.out CC.out.1
          have y1 := cell_below HC.out CC.out.2.1
          have y2 := cell_below HC.out CC.out.2.2
          go_simp
          exact hK _ _ rfl trivial HC.out (Below.refl _ _)
        · refine Reg6.Obl.early rfl (by kernel_rfl) ?_
          rintro av wq hC hx hd K hK
          have HC := Lib.hid hC
          clear hC
          have t1 : av.tmps[1]?.getD undef = .slice (some ⟨b2, o2, none⟩) B.pl cap := Reg.slot_val (hx 1 (by kernel_rfl))
          go_simp
          exact hK _ _ rfl trivial HC.out (Below.refl _ _)
        · refine Reg6.Obl.early rfl (by kernel_rfl) ?_
          rintro av wq hC hx hd K hK
          have HC := Lib.hid hC
          clear hC
          have t8 : av.tmps[8]?.getD undef = .int .i64 k := Reg.slot_val (hx 8 (by kernel_rfl))
          go_simp
          exact hK _ _ rfl trivial HC.out (Below.refl _ _)
        · refine Reg6.Obl.early rfl (by kernel_rfl) ?_
          rintro av wq hC hx hd K hK
          have HC := Lib.hid hC
          clear hC
          have t28 : av.tmps[28]?.getD undef = .slice (some ⟨b2, o2, none⟩) B.pl cap := Reg.slot_val (hd 12 28 (by kernel_rfl) rfl).1
          have t29 : av.tmps[29]?.getD undef = .int .i64 k := Reg.slot_val (hd 13 29 (by kernel_rfl) rfl).1
          go_simp
          exact hK _ _ rfl trivial HC.out (Below.refl _ _)
        · refine Reg6.Obl.early rfl (by kernel_rfl) ?_
          rintro av wq hC hx hd K hK
          have HC := Lib.hid hC
          clear hC
          have t30 : av.tmps[30]?.getD undef = .pointer (some ⟨b2, o2 + k * 3, none⟩) := Reg.slot_val (hd 14 30 (by kernel_rfl) rfl).1
          have y0 := cell_below HC.out DD.out.1
          have y1 := cell_below HC.out DD.out.2.1
          have y2 := cell_below HC.out DD.out.2.2
          go_simp
          exact hK _ _ rfl trivial HC.out (Below.refl _ _)
        · refine Reg6.Obl.early rfl (by kernel_rfl) ?_
          rintro av wq hC hx hd K hK
          have HC := Lib.hid hC
          clear hC
          have t2 : av.tmps[2]?.getD undef = .float .f32 x := Reg.slot_val (hx 2 (by kernel_rfl))
          go_simp
          exact hK _ _ rfl trivial HC.out (Below.refl _ _)
        · refine Reg6.Obl.early rfl (by kernel_rfl) ?_
          rintro av wq hC hx hd K hK
          have HC := Lib.hid hC
          clear hC
          have t31 : av.tmps[31]?.getD undef = vv p' q' t' := Reg.slot_val (hd 15 31 (by kernel_rfl) rfl).1
          have t32 : av.tmps[32]?.getD undef = .float .f32 x := Reg.slot_val (hd 16 32 (by kernel_rfl) rfl).1
          go_simp
          refine (l01Scale _ _ _ _ _ _ _ _ _ FB.out.1 FB.out.2.1 FB.out.2.2 HX.out).mono ?_
          rintro en w2 ⟨y, z, u, rfl, f0, f1, f2, hB2⟩
          exact hK _ _ ⟨y, z, u, rfl, f0, f1, f2⟩ trivial (HC.out.trans (hB2.mono HC.out.size)) hB2
        · refine Reg6.Obl.early rfl (by kernel_rfl) ?_
          rintro av wq hC hx hd K hK
          have HC := Lib.hid hC
          clear hC
          have t27 : av.tmps[27]?.getD undef = vv p q t := Reg.slot_val (hd 11 27 (by kernel_rfl) rfl).1
          obtain ⟨y, z, u, g33, f33⟩ := (hd 17 33 (by kernel_rfl) rfl).1
          have t33 := Reg.slot_val g33
          have F33 := Lib.hid f33
          clear g33 f33
          go_simp
          refine (l01Add _ _ _ _ _ _ _ _ _ _ _ _ _ FA.out.1 FA.out.2.1 FA.out.2.2 F33.out.1 F33.out.2.1 F33.out.2.2).mono ?_
          rintro en w2 ⟨y', z', u', rfl, f0, f1, f2, hB2⟩
          exact hK _ _ ⟨y', z', u', rfl, f0, f1, f2⟩ trivial (HC.out.trans (hB2.mono HC.out.size)) hB2
        · refine Reg6.Obl.early rfl (by kernel_rfl) ?_
          rintro av wq hC hx hd K hK
          have HC := Lib.hid hC
          clear hC
          have t18 : av.tmps[18]?.getD undef = .slice (some ⟨g, 0, none⟩) B'.pl B'.pc := Reg.slot_val (hd 2 18 (by kernel_rfl) rfl).1
          have t19 : av.tmps[19]?.getD undef = .int .i64 k := Reg.slot_val (hd 3 19 (by kernel_rfl) rfl).1
          go_simp
          exact hK _ _ (by first | rfl | simp) trivial HC.out (Below.refl _ _)
        · refine Reg6.Obl.store rfl ?_
          rintro av wq hC hx hd K hK
          have HC := Lib.hid hC
          clear hC
          have t35 : av.tmps[35]?.getD undef = .pointer (some ⟨g, k * 3, none⟩) := Reg.slot_val (hd 19 35 (by kernel_rfl) rfl).1
          obtain ⟨y, z, v, g34, f34⟩ := (hd 18 34 (by kernel_rfl) rfl).1
          have t34 := Reg.slot_val g34
          have HP : Hid (∃ wp y' z' v', Below wr.heap.size wr wp ∧ F3 y' z' v' (movC (c.cs.getD k c0) (ys.getD k c0) d) ∧ put3 wq g k y z v = put3 wp g k y' z' v') := Lib.hid ⟨wq, y, z, v, HC.out, f34, rfl⟩
          obtain ⟨p0, q0, r0, ⟨y0, y1, y2⟩, -⟩ := (O1.out.below HC.out).at (k := k) (by rw [mkW_len]; exact hlt)
          have f0 := (O1.out.below HC.out).2.1 (k * 3)
          have f1 := (O1.out.below HC.out).2.1 (k * 3 + 1)
          have f2 := (O1.out.below HC.out).2.1 (k * 3 + 2)
          clear g34 f34
          go_simp
          exact hK _ HP.out
      · rintro f w2 hD hd
        obtain ⟨wp, y, z, v, hB, hF, rfl⟩ := hD
        simp only [Reg.mixL]
        have O2 := Lib.hid ((O1.out.below hB).put (k := k) (by rw [mkW_len]; exact hlt) hF)
        have T2 := Lib.hid ((TK.out.call hB).put3 (k := k) (y := y) (z := z) (v := v) (show w.heap.size ≤ g by have := G.out.1; omega) G.out.2 (show g ≠ w.heap.size by have := G.out.1; omega))
        have E2 := Lib.hid ((EK.out.trans (Agree.of_below hB)).put3 (k := k) (y := y) (z := z) (v := v) (fun hb => hb.1 rfl))
        clear hB hF hd
        go_wp2
        go_roundw
        case rel => exact ⟨k + 1, by omega, by go_num, T2.out, .inr (by rw [← HSN.out]; exact O2.out), E2.out⟩
        case measure => simp [intOf]; omega
    · obtain rfl : k = B.pl := by omega
      have k0 := TK.out.out 0 _ rfl
      have k1 := TK.out.out 1 _ rfl
      have k2 := TK.out.out 2 _ rfl
      have k3 := TK.out.out 3 _ rfl
      have k4 := TK.out.out 4 _ rfl
      have k5 := TK.out.out 5 _ rfl
      have k6 := TK.out.out 6 _ rfl
      have k7 := TK.out.out 7 _ rfl
      have k8 := TK.out.out 8 _ rfl
      have q0 := TK.out.res 0 _ rfl
      have p0 := TK.out.fr 0
      have q1 := TK.out.res 1 _ rfl
      have p1 := TK.out.fr 1
      have q2 := TK.out.res 2 _ rfl
      have p2 := TK.out.fr 2
      have q3 := TK.out.res 3 _ rfl
      have p3 := TK.out.fr 3
      have q4 := TK.out.res 4 _ rfl
      have p4 := TK.out.fr 4
      have q5 := TK.out.res 5 _ rfl
      have p5 := TK.out.fr 5
      have q6 := TK.out.res 6 _ rfl
      have p6 := TK.out.fr 6
      have q7 := TK.out.res 7 _ rfl
      have p7 := TK.out.fr 7
      have q8 := TK.out.res 8 _ rfl
      have p8 := TK.out.fr 8
      obtain ⟨hR, hBB⟩ := TK.out.fin (vs' := B'.l) rfl
      have hE := Agree.setL (S := fun b => b ≠ g ∧ w.heap.size + 1 ≤ b ∧ b < w1.heap.size) (g := w.heap.size) (fun hb => by omega) B'.l _ 0 EK.out
      have hO := OK.out.imp id (fun k => OwnVs.agree (S := fun b => b ≠ w.heap.size) k (show g ≠ w.heap.size by have := G.out.1; omega) (Agree.setL (fun hb => hb rfl) B'.l _ 0 (Agree.refl _ _)))
      have hF := pz_fin K.out.1 K.out.2.1 K.out.2.2 hE hO (by rw [mkW_len, HPL.out])
      have hsz := hE.size
      simp only [setL, Nat.zero_add, Nat.reduceAdd] at hR hBB hF hsz
      have HR := Lib.hid hR
      have HBB := Lib.hid hBB
      have HF := Lib.hid hF
      have HSZ := Lib.hid hsz
      clear hR hBB hE hO hF hsz
      go_wp2
      clear k0 k1 k2 k3 k4 k5 k6 k7 k8 q0 q1 q2 q3 q4 q5 q6 q7 q8 p0 p1 p2 p3 p4 p5 p6 p7 p8
      have m0 := HR.out 0 _ rfl
      have m1 := HR.out 1 _ rfl
      have m2 := HR.out 2 _ rfl
      have m3 := HR.out 3 _ rfl
      have m4 := HR.out 4 _ rfl
      have m5 := HR.out 5 _ rfl
      have m6 := HR.out 6 _ rfl
      have m7 := HR.out 7 _ rfl
      have m8 := HR.out 8 _ rfl
      refine bodyPost_ret (v := B'.v) (by simp [results, Try.results83, go_sem, m0, m1, m2, m3, m4, m5, m6, m7, m8]) rfl ?_
      refine ⟨B', rfl, ?_, HF.out.2.wide (by omega) HSZ.out, HBB.out⟩
      have := HF.out.1
      rw [mkW_full] at this
      exact this
end Go.Proofs.Ytmbekamnogbgaaa


/-
A body whose places are moved: what the model returns. Conditions: all lie in memory.
-/
namespace Go.Proofs.Ytmbekamnogbgaaa
open Go Fk Go.RowKit
set_option linter.unusedVariables false
set_option maxRecDepth 8000

theorem mvC_body {c : Bc} (ys : List C3) (d : Option Nat) (h : bodyB c = true) : bodyB (mvC c ys d) = true := by
  have hl : (mvC c ys d).cs.length = c.cs.length := mkM_len _ _ _ _ _
  unfold bodyB validB at h ⊢
  rw [hl]
  exact h
theorem mv_len (c : Bc) (ys : List C3) (n : Nat) (d : Option Nat) : (mvO c ys n d).cs.length ≤ 64 ∧ (mvO c ys n d).ts.length ≤ 128 ∧ (mvO c ys n d).ss.length ≤ 200 ∧ (mvO c ys n d).zs.length ≤ 64 ∧ ∀ k, k < (mvO c ys n d).ts.length → ((mvO c ys n d).ts.getD k []).length ≤ 1048576 := by
  unfold mvO okM
  cases hv : bodyB c
  · exact ⟨Nat.zero_le _, Nat.zero_le _, Nat.zero_le _, Nat.zero_le _, fun k hk => absurd hk (Nat.not_lt_zero k)⟩
  cases decide (n = c.cs.length)
  · exact ⟨Nat.zero_le _, Nat.zero_le _, Nat.zero_le _, Nat.zero_le _, fun k hk => absurd hk (Nat.not_lt_zero k)⟩
  obtain ⟨q1, q2, q3, q4, q5⟩ := body_sizes (mvC_body ys d hv)
  exact ⟨q1, q2, q3, q4, fun k hk => (by have := q5 k hk; show ((mvC c ys d).ts.getD k []).length ≤ 1048576; omega)⟩
set_option maxHeartbeats 4000000 in
theorem spec_MovePlaces (B : Bd) (c : Bc) (a : Option Addr) (n cap : Nat) (ys : List C3) (x : Nat) (d : Option Nat) (w : World) (h : IsB w B c) (hv : IsVs w a n cap ys) (hx : FV .f32 x d) :
    Calls Try.prog 26 #[B.v, .slice a n cap, .float .f32 x] w fun e w' => (∃ B' : Bd, e = .returned (.tuple #[B'.v, .bool (okM c n)]) ∧ IsB w' B' (mvO c ys n d) ∧ LB w.heap.size w'.heap.size w' B') ∧ Below w.heap.size w w' := by
  have ui := Try.underlying36
  have uim := Try.underlying29
  have T0 : Hid (Tc w w.heap.size (w.heap.size + 1) B.l Z9' ((w.alloc (BoxB B 36)).alloc (.cells #[.slice none 0 0, .slice none 0 0, .slice none 0 0, .float .f32 0, .float .f32 0, .slice none 0 0, .float .f32 0, .float .f32 0, .float .f32 0] 36))) := Lib.hid
    ⟨At.new.alloc, by
      have := At.new (w := w.alloc (BoxB B 36)) (vs := Z9') (t := 36)
      simpa using this, fun i => by go_simp, fun i => by go_simp, ((Below.refl _ _).alloc (Nat.le_refl _) _).alloc (by simp) _, ⟨Nat.le_refl _, by omega, by omega⟩, by simp <;> omega⟩
  have H := Lib.hid h
  have HV := Lib.hid hv
  have HX := Lib.hid hx
  have LN := Lib.hid h.lens
  have hm : n ≤ 9223372036854775807 := by have h1 := hv.2.1; have h2 := hv.2.2.1; unfold maxLen at h2; omega
  have J := Lib.hid ((l03Is w.heap.size B c _ T0.out.out (h.below T0.out.bel)).mono (R' := fun e w' => e = .returned (.bool (bodyB c)) ∧ Below ((w.alloc (BoxB B 36)).alloc (.cells #[.slice none 0 0, .slice none 0 0, .slice none 0 0, .float .f32 0, .float .f32 0, .slice none 0 0, .float .f32 0, .float .f32 0, .float .f32 0] 36)).heap.size ((w.alloc (BoxB B 36)).alloc (.cells #[.slice none 0 0, .slice none 0 0, .slice none 0 0, .float .f32 0, .float .f32 0, .slice none 0 0, .float .f32 0, .float .f32 0, .float .f32 0] 36)) w') (fun _ _ ⟨he, n, hw⟩ => ⟨he, by rw [hw]; exact below_drewN (Below.refl _ _) n⟩))
  unfold mvO okM
  clear h hv hx
  cases hvb : bodyB c
  · rw [hvb] at J
    clear hvb
    go_enter Try.func26, Try.ntmps26
    go_wp2_with fail
    change Calls _ _ _ ((w.alloc (BoxB B 36)).alloc (.cells #[.slice none 0 0, .slice none 0 0, .slice none 0 0, .float .f32 0, .float .f32 0, .slice none 0 0, .float .f32 0, .float .f32 0, .float .f32 0] 36)) _
    generalize ((w.alloc (BoxB B 36)).alloc (.cells #[.slice none 0 0, .slice none 0 0, .slice none 0 0, .float .f32 0, .float .f32 0, .slice none 0 0, .float .f32 0, .float .f32 0, .float .f32 0] 36)) = W at *
    refine J.out.mono ?_
    rintro e w2 ⟨rfl, hB1⟩
    have T2 := Lib.hid (T0.out.call hB1)
    clear hB1
    have k0 := T2.out.out 0 _ rfl
    have k1 := T2.out.out 1 _ rfl
    have q0 := T2.out.res 0 _ rfl
    have p0 := T2.out.fr 0
    have q1 := T2.out.res 1 _ rfl
    have p1 := T2.out.fr 1
    have q2 := T2.out.res 2 _ rfl
    have p2 := T2.out.fr 2
    have q3 := T2.out.res 3 _ rfl
    have p3 := T2.out.fr 3
    have q4 := T2.out.res 4 _ rfl
    have p4 := T2.out.fr 4
    have q5 := T2.out.res 5 _ rfl
    have p5 := T2.out.fr 5
    have q6 := T2.out.res 6 _ rfl
    have p6 := T2.out.fr 6
    have q7 := T2.out.res 7 _ rfl
    have p7 := T2.out.fr 7
    have q8 := T2.out.res 8 _ rfl
    have p8 := T2.out.fr 8
    obtain ⟨hR, hBB⟩ := T2.out.fin (vs' := nilB.l) rfl
    simp only [setL, nilB, Nat.zero_add, Nat.reduceAdd] at hR hBB
    have HR := Lib.hid hR
    have HBB := Lib.hid hBB
    clear hR hBB
    go_wp2
    clear k0 k1 q0 q1 q2 q3 q4 q5 q6 q7 q8 p0 p1 p2 p3 p4 p5 p6 p7 p8
    have m0 := HR.out 0 _ rfl
    have m1 := HR.out 1 _ rfl
    have m2 := HR.out 2 _ rfl
    have m3 := HR.out 3 _ rfl
    have m4 := HR.out 4 _ rfl
    have m5 := HR.out 5 _ rfl
    have m6 := HR.out 6 _ rfl
    have m7 := HR.out 7 _ rfl
    have m8 := HR.out 8 _ rfl
    refine bodyPost_ret (v := .tuple #[nilB.v, .bool false]) (by simp [results, Try.results26, go_sem, nilB, m0, m1, m2, m3, m4, m5, m6, m7, m8]) rfl ?_
    exact ⟨⟨nilB, rfl, nil_isb _, nil_lb _ _ _⟩, HBB.out⟩
  rw [hvb] at J
  obtain ⟨q1, q2, q3, q4, q5⟩ := body_sizes hvb
  have H3 := Lib.hid (fun k (hk : k < B.tl) => show (c.ts.getD k []).length ≤ 1000 by have := q5 k (by rw [LN.out.2.1]; exact hk); omega)
  have hpl : B.pl ≤ 64 := by rw [← LN.out.1]; exact q1
  have htl : B.tl ≤ 128 := by rw [← LN.out.2.1]; exact q2
  have hsl : B.sl ≤ 200 := by rw [← LN.out.2.2.1]; exact q3
  have hwl : B.wl ≤ 64 := by rw [← LN.out.2.2.2]; exact q4
  have HVB := Lib.hid (mvC_body ys d hvb)
  clear hvb q5
  rw [LN.out.1]
  by_cases hn : n = B.pl
  case neg =>
    rw [decide_eq_false hn]
    have hne : ¬ (n : Int) = B.pl := by omega
    clear hn
    go_enter Try.func26, Try.ntmps26
    go_wp2_with fail
    change Calls _ _ _ ((w.alloc (BoxB B 36)).alloc (.cells #[.slice none 0 0, .slice none 0 0, .slice none 0 0, .float .f32 0, .float .f32 0, .slice none 0 0, .float .f32 0, .float .f32 0, .float .f32 0] 36)) _
    generalize ((w.alloc (BoxB B 36)).alloc (.cells #[.slice none 0 0, .slice none 0 0, .slice none 0 0, .float .f32 0, .float .f32 0, .slice none 0 0, .float .f32 0, .float .f32 0, .float .f32 0] 36)) = W at *
    refine J.out.mono ?_
    rintro e w2 ⟨rfl, hB1⟩
    have T2 := Lib.hid (T0.out.call hB1)
    clear hB1
    have k0 := T2.out.out 0 _ rfl
    have k1 := T2.out.out 1 _ rfl
    have q0 := T2.out.res 0 _ rfl
    have p0 := T2.out.fr 0
    have q1 := T2.out.res 1 _ rfl
    have p1 := T2.out.fr 1
    have q2 := T2.out.res 2 _ rfl
    have p2 := T2.out.fr 2
    have q3 := T2.out.res 3 _ rfl
    have p3 := T2.out.fr 3
    have q4 := T2.out.res 4 _ rfl
    have p4 := T2.out.fr 4
    have q5 := T2.out.res 5 _ rfl
    have p5 := T2.out.fr 5
    have q6 := T2.out.res 6 _ rfl
    have p6 := T2.out.fr 6
    have q7 := T2.out.res 7 _ rfl
    have p7 := T2.out.fr 7
    have q8 := T2.out.res 8 _ rfl
    have p8 := T2.out.fr 8
    obtain ⟨hR, hBB⟩ := T2.out.fin (vs' := nilB.l) rfl
    simp only [setL, nilB, Nat.zero_add, Nat.reduceAdd] at hR hBB
    have HR := Lib.hid hR
    have HBB := Lib.hid hBB
    clear hR hBB
    go_wp2
    clear k0 k1 q0 q1 q2 q3 q4 q5 q6 q7 q8 p0 p1 p2 p3 p4 p5 p6 p7 p8
    have m0 := HR.out 0 _ rfl
    have m1 := HR.out 1 _ rfl
    have m2 := HR.out 2 _ rfl
    have m3 := HR.out 3 _ rfl
    have m4 := HR.out 4 _ rfl
    have m5 := HR.out 5 _ rfl
    have m6 := HR.out 6 _ rfl
    have m7 := HR.out 7 _ rfl
    have m8 := HR.out 8 _ rfl
    refine bodyPost_ret (v := .tuple #[nilB.v, .bool false]) (by simp [results, Try.results26, go_sem, nilB, m0, m1, m2, m3, m4, m5, m6, m7, m8]) rfl ?_
    exact ⟨⟨nilB, rfl, nil_isb _, nil_lb _ _ _⟩, HBB.out⟩
  subst hn
  rw [decide_eq_true rfl]
  show Calls _ _ _ _ (fun e w' => (∃ B' : Bd, e = .returned (.tuple #[B'.v, .bool true]) ∧ IsB w' B' (mvC c ys d) ∧ LB w.heap.size w'.heap.size w' B') ∧ Below w.heap.size w w')
  go_enter Try.func26, Try.ntmps26
  go_wp2_with fail
  change Calls _ _ _ ((w.alloc (BoxB B 36)).alloc (.cells #[.slice none 0 0, .slice none 0 0, .slice none 0 0, .float .f32 0, .float .f32 0, .slice none 0 0, .float .f32 0, .float .f32 0, .float .f32 0] 36)) _
  generalize ((w.alloc (BoxB B 36)).alloc (.cells #[.slice none 0 0, .slice none 0 0, .slice none 0 0, .float .f32 0, .float .f32 0, .slice none 0 0, .float .f32 0, .float .f32 0, .float .f32 0] 36)) = W at *
  refine J.out.mono ?_
  rintro e w1 ⟨rfl, hB0⟩
  have T1 := Lib.hid (T0.out.call hB0)
  clear hB0
  have k0 := T1.out.out 0 _ rfl
  have k1 := T1.out.out 1 _ rfl
  go_wp2_with fail
  clear k0 k1
  refine (l03Moved w.heap.size B c a cap ys x d w1 T1.out.out (H.out.below T1.out.bel) (HV.out.below T1.out.bel) HX.out (by omega) (by omega) H3.out (by omega) (by omega)).mono ?_
  rintro e w2 ⟨B', rfl, hI, hL, hB2⟩
  have hN : Below w2.heap.size w2 (w2.alloc (.cells #[.slice B'.pa B'.pl B'.pc, .slice B'.ta B'.tl B'.tc, .slice B'.sa B'.sl B'.sc, .float .f32 B'.film, .float .f32 B'.bend, .slice B'.wa B'.wl B'.wc, .float .f32 B'.x, .float .f32 B'.y, .float .f32 B'.z] 36)) := (Below.refl _ _).alloc (Nat.le_refl _) _
  have T2 := Lib.hid (T1.out.call (hB2.trans (hN.mono hB2.size)))
  have AO : Hid (At (w2.alloc (.cells #[.slice B'.pa B'.pl B'.pc, .slice B'.ta B'.tl B'.tc, .slice B'.sa B'.sl B'.sc, .float .f32 B'.film, .float .f32 B'.bend, .slice B'.wa B'.wl B'.wc, .float .f32 B'.x, .float .f32 B'.y, .float .f32 B'.z] 36)) w2.heap.size B'.l) := Lib.hid At.new
  have J2 := Lib.hid ((l03Is w2.heap.size B' (mvC c ys d) _ AO.out (hI.below hN)).mono (R' := fun e w' => e = .returned (.bool true) ∧ Below (w2.alloc (.cells #[.slice B'.pa B'.pl B'.pc, .slice B'.ta B'.tl B'.tc, .slice B'.sa B'.sl B'.sc, .float .f32 B'.film, .float .f32 B'.bend, .slice B'.wa B'.wl B'.wc, .float .f32 B'.x, .float .f32 B'.y, .float .f32 B'.z] 36)).heap.size (w2.alloc (.cells #[.slice B'.pa B'.pl B'.pc, .slice B'.ta B'.tl B'.tc, .slice B'.sa B'.sl B'.sc, .float .f32 B'.film, .float .f32 B'.bend, .slice B'.wa B'.wl B'.wc, .float .f32 B'.x, .float .f32 B'.y, .float .f32 B'.z] 36)) w') (fun _ _ ⟨he, n, hw⟩ => ⟨by rw [he, HVB.out], by rw [hw]; exact below_drewN (Below.refl _ _) n⟩))
  have IB := Lib.hid (And.intro (hI.below hN) ((hL.agree (S := fun _ => True) (fun _ _ _ => trivial) (Agree.of_below hN)).wide (Nat.le_refl _) hN.size))
  have hs2 := hB2.size
  clear hI hL hB2 hN
  go_wp2_with fail
  generalize (w2.alloc (.cells #[.slice B'.pa B'.pl B'.pc, .slice B'.ta B'.tl B'.tc, .slice B'.sa B'.sl B'.sc, .float .f32 B'.film, .float .f32 B'.bend, .slice B'.wa B'.wl B'.wc, .float .f32 B'.x, .float .f32 B'.y, .float .f32 B'.z] 36)) = W2 at *
  refine J2.out.mono ?_
  rintro e w3 ⟨rfl, hB3⟩
  have hlt := T1.out.lt
  have T3 := Lib.hid (T2.out.call hB3)
  have A3 := AO.out.below hB3
  have hA0 : Agree (Sy w.heap.size (w.heap.size + 1)) W2 w3 := Agree.of_below hB3
  have hA := Agree.setL (Sy.res (bo := w.heap.size) (br := w.heap.size + 1)) B'.l _ 0 hA0
  obtain ⟨hR, hBB⟩ := T3.out.fin (vs' := B'.l) rfl
  simp only [setL, Nat.zero_add, Nat.reduceAdd] at hR hBB hA
  have HR := Lib.hid hR
  have HBB := Lib.hid hBB
  have HA := Lib.hid hA
  have k0 := A3 0 _ rfl
  have k1 := A3 1 _ rfl
  have k2 := A3 2 _ rfl
  have k3 := A3 3 _ rfl
  have k4 := A3 4 _ rfl
  have k5 := A3 5 _ rfl
  have k6 := A3 6 _ rfl
  have k7 := A3 7 _ rfl
  have k8 := A3 8 _ rfl
  have q0 := T3.out.res 0 _ rfl
  have p0 := T3.out.fr 0
  have q1 := T3.out.res 1 _ rfl
  have p1 := T3.out.fr 1
  have q2 := T3.out.res 2 _ rfl
  have p2 := T3.out.fr 2
  have q3 := T3.out.res 3 _ rfl
  have p3 := T3.out.fr 3
  have q4 := T3.out.res 4 _ rfl
  have p4 := T3.out.fr 4
  have q5 := T3.out.res 5 _ rfl
  have p5 := T3.out.fr 5
  have q6 := T3.out.res 6 _ rfl
  have p6 := T3.out.fr 6
  have q7 := T3.out.res 7 _ rfl
  have p7 := T3.out.fr 7
  have q8 := T3.out.res 8 _ rfl
  have p8 := T3.out.fr 8
  clear hR hBB hA hA0 A3 hB3
  go_wp2
  clear k0 k1 k2 k3 k4 k5 k6 k7 k8 q0 q1 q2 q3 q4 q5 q6 q7 q8 p0 p1 p2 p3 p4 p5 p6 p7 p8
  have m0 := HR.out 0 _ rfl
  have m1 := HR.out 1 _ rfl
  have m2 := HR.out 2 _ rfl
  have m3 := HR.out 3 _ rfl
  have m4 := HR.out 4 _ rfl
  have m5 := HR.out 5 _ rfl
  have m6 := HR.out 6 _ rfl
  have m7 := HR.out 7 _ rfl
  have m8 := HR.out 8 _ rfl
  refine bodyPost_ret (v := .tuple #[B'.v, .bool true]) (by simp [results, Try.results26, go_sem, m0, m1, m2, m3, m4, m5, m6, m7, m8]) rfl ?_
  have hs : ∀ q, w1.heap.size ≤ q → q < W2.heap.size → Sy w.heap.size (w.heap.size + 1) q := Sy.new hlt.1 hlt.2
  exact ⟨⟨B', rfl, IB.out.1.agree IB.out.2 hs HA.out, (IB.out.2.agree hs HA.out).wide (by omega) HA.out.size⟩, HBB.out⟩
end Go.Proofs.Ytmbekamnogbgaaa


/-
A mesh that comes in as an argument. Conditions: none.
-/
namespace Go.Proofs.Ytmbekamnogbgaaa
namespace Fk
open Go Go.RowKit
set_option linter.unusedVariables false
section
open Go.ChangeShapes Go.WideShapes Go.Deep
variable {H : Type} {enc : TypeId × Value → H} {P : Program} {w : World} {base : Nat} {held : Bool}
/-- A mesh that came in. -/
theorem open_mesh {r : Reach} {b0 : Nat} {t : TypeId} {g0 g1 : Field} {ev eq : TypeId} {f0 f1 f2 : Field} {er : TypeId} {v : Value} {d : DataW H} {p : List MemPlace} (hs : P.underlying t = some (.struct #[g0, g1])) (hone : oneCellFields P #[g0, g1] = true) (hC : P.cellsOf t = 2)
    (hp : P.underlying g0.type = some (.slice ev)) (hev : P.underlying ev = some (.struct #[f0, f1, f2])) (honev : oneCellFields P #[f0, f1, f2] = true) (hCv : P.cellsOf ev = 3)
    (he0 : P.underlying f0.type = some (.float .f32)) (he1 : P.underlying f1.type = some (.float .f32)) (he2 : P.underlying f2.type = some (.float .f32))
    (ht : P.underlying g1.type = some (.slice er)) (her : P.underlying er = some (.slice eq)) (heq : P.underlying eq = some (.int .i64)) (ce : P.cellsOf er = 1) (cq : P.cellsOf eq = 1)
    (hv : Value.okWide P w r b0 t v) (h : DataW.Trod enc P w base (fun _ => true) held t v d p) :
    ∃ pa ta pl pc tl tc cs ts, v = .agg #[.slice pa pl pc, .slice ta tl tc] ∧ IsVs w pa pl pc cs ∧ IsTs w ta tl tc ts := by
  obtain ⟨v0, v1, y0, y1, n, rfl, _, _, h0, h1⟩ := Joins.open_agg2 hs hone hC hv h
  obtain ⟨pa, pl, pc, cs, e0, w0⟩ := trod_vecs hp hev honev hCv he0 he1 he2 h0
  obtain ⟨ta, tl, tc, ts, e1, w1⟩ := trod_rows ht her heq ce cq h1
  cases e0; cases e1
  exact ⟨pa, ta, pl, pc, tl, tc, cs, ts, rfl, w0, w1⟩
end
end Fk
end Go.Proofs.Ytmbekamnogbgaaa

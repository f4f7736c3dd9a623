/-
Texts in one: what StfS stands on, part 10. Conditions: those of each.
-/
import Derived.Test.YtabccmobmppdnaaGreatKStfS9
-- halved
namespace Go.Proofs.YtabccmobmppdnaaGreat
open Go Fk Go.RowKit
set_option linter.unusedVariables false
set_option maxRecDepth 16000
def filmJ (cs X : List C3) (t : List Int) (P : Option Nat) : Nat → List C3
 | 0 => X
 | j + 1 => addAt (filmJ cs X t P j) (t.getD j 0).toNat (scaleC (crossC (normalC cs t) (lessC (placeC cs (t.getD ((j + 2) % 3) 0)) (placeC cs (t.getD ((j + 1) % 3) 0)))) P)
theorem filmJ_len (cs X : List C3) (t : List Int) (P : Option Nat) : ∀ j, (filmJ cs X t P j).length = X.length
 | 0 => rfl
 | j + 1 => by unfold filmJ; rw [addAt_len, filmJ_len cs X t P j]
theorem filmJ_3 (cs X : List C3) (t : List Int) (f : Option Nat) : filmJ cs X t (gainC (negC32 (fop .mul .f32 halfC f)) (longC (normalC cs t))) 3 = (En.fi t f).add cs X := rfl
set_option maxHeartbeats 16000000 in
theorem l03Forces (pb : Nat) (B : Bd) (c : Bc) (w : World) (A : At w pb B.l) (h : IsB w B c) (hb : bodyB c = true) :
  Calls Tryz.prog 122 #[.pointer (some ⟨pb, 0, none⟩)] w fun e w' => ∃ g, e = .returned (.slice (some ⟨g, 0, none⟩) B.pl B.pl) ∧ St w [] g (addsF c.cs (List.replicate B.pl (some 0, some 0, some 0)) (ens c)) w' := by
 have uib := Tryz.underlying44
 have um := Tryz.underlying40
 have uv := Tryz.underlying42
 have us := Tryz.underlying166
 have u32 := Tryz.underlying27
 obtain ⟨hvb, hzl⟩ := body_valid hb
 obtain ⟨v1, v2⟩ := body_ss hb
 obtain ⟨w1, w2⟩ := valid_pl hvb
 have hh4 := hgT_len hvb
 obtain ⟨k1, k2, k3, k4⟩ := h.lens
 have hpl : c.cs.length = B.pl := k1
 rw [hpl, k3] at v2
 have V2 := Lib.hid v2
 have HWR : Hid (∀ k, k < B.tl → triB B.pl (c.ts.getD k []) = true) := Lib.hid (fun k hk => by
  have h1 : k < c.ts.length := by omega
  have := valid_rowh hvb h1
  rwa [hpl] at this)
 have HRH : Hid (∀ k, k < (hgT c.cs c.ts).length → ((hgT c.cs c.ts).getD k []).length = 4 ∧ (∀ z ∈ (hgT c.cs c.ts).getD k [], (Lit.int .i64 z).wf = true) ∧ ∀ i, i < 4 → inB B.pl (((hgT c.cs c.ts).getD k []).getD i 0) = true) := Lib.hid (fun k hk => by
  have hm : (hgT c.cs c.ts).getD k [] ∈ hgT c.cs c.ts := by
   rw [List.getD, List.getElem?_eq_getElem hk]
   exact List.getElem_mem _
  generalize (hgT c.cs c.ts).getD k [] = r at *
  unfold hgT at hm
  rw [hvb, cond_true] at hm
  obtain ⟨a, b, hab, hbn, rfl, h4⟩ := hgK_mem hm
  have hl := hrow_four h4
  have hin := hrow_in (n := c.cs.length) (fun i (hi : i < c.ts.length) => tri3_of (valid_rowh hvb hi)) hab hbn
  refine ⟨hl, fun z hz => WalkArith.wf_i64 (by have := hin z hz; omega), fun i hi => ?_⟩
  generalize hrow c.ts ((a : Int), (b : Int)) = r at *
  have hm2 : r.getD i 0 ∈ r := by
   have hir : i < r.length := by omega
   rw [List.getD, List.getElem?_eq_getElem hir]
   exact List.getElem_mem _
  have := hin _ hm2
  unfold inB
  exact decide_eq_true ⟨this.1, by omega⟩)
 have HHG : Hid (∀ w1 : World, Below w.heap.size w w1 → Calls Tryz.prog 168 #[.pointer (some ⟨pb, 0, none⟩)] w1 fun e w' => (∃ v, e = .returned v ∧ OwnT w1.heap.size w' v (hgT c.cs c.ts).length (hgT c.cs c.ts)) ∧ Below w1.heap.size w1 w') := Lib.hid (fun w1 hB => l03Hinges pb B.pa B.ta B.pl B.pc B.tl B.tc c.cs c.ts w1 (cell_below hB (A 0 _ rfl)) (cell_below hB (A 1 _ rfl)) (h.below hB).1 (h.below hB).2.1 hvb)
 generalize hhs : hgT c.cs c.ts = hs at *
 obtain ⟨e0, e1, e2, e3, e4⟩ := ens_parts k3 k2 (k4.trans (k4.symm.trans (hzl.trans hpl))) hhs
 generalize ens c = es at *
 have EL := Lib.hid e0
 have E1 := Lib.hid e1
 have E2 := Lib.hid e2
 have E3 := Lib.hid e3
 have E4 := Lib.hid e4
 have HWL : Hid (B.wl = B.pl) := Lib.hid (by omega)
 have HLEN : Hid (B.sl ≤ 200 ∧ B.tl ≤ 128 ∧ B.pl ≤ 64 ∧ hs.length ≤ 4096) := Lib.hid (by omega)
 have HA := Lib.hid A
 have H := Lib.hid h
 have hmk := make_vecs w B.pl (by have := HLEN.out; omega)
 have hS0 : St w [] w.heap.size (List.replicate B.pl (some 0, some 0, some 0)) (w.alloc (.cells (madeCells #[.float .f32 0, .float .f32 0, .float .f32 0] (B.pl * 3)) 42)) := St.of (Bx.nil w) ((Below.refl _ _).alloc (Nat.le_refl _) _) (Nat.le_refl _) (OwnVs.made (by have := HLEN.out; omega))
 have S0 := Lib.hid hS0
 have a0 := A 0 _ rfl
 have a2 := cell_below S0.out.bel (A 2 _ rfl)
 clear v1 v2 w1 w2 hh4 k1 k2 k3 k4 hpl e0 e1 e2 e3 e4 h A hb hvb hzl hhs hS0
 go_enter Tryz.func122, Tryz.ntmps122
 go_wp2
 clear a0 a2 hmk
 generalize (w.alloc (.cells (madeCells #[.float .f32 0, .float .f32 0, .float .f32 0] (B.pl * 3)) 42)) = W at *
 have hz : (List.replicate B.pl ((some 0, some 0, some 0) : C3)).length = B.pl := by simp
 generalize hX0 : List.replicate B.pl ((some 0, some 0, some 0) : C3) = X0 at S0 hz
 have HX0 := Lib.hid hX0
 have HZ := Lib.hid hz
 generalize hg : w.heap.size = g at S0 ⊢
 clear hX0 hz hg
 go_loopw [34] (fun i w' => ∃ k : Nat, k ≤ B.sl ∧ i = .int .i64 k ∧ Aside (St w [] g (addsF c.cs X0 (es.take k)) w')) (fun i _ => B.sl - (intOf i).toNat)
 case atStart => exact ⟨0, Nat.zero_le _, rfl, S0.out⟩
 case round =>
  obtain ⟨k, hk, rfl, hA⟩ := hrel
  have S1 := Lib.hid hA.out
  clear hA S0
  by_cases hlt : k < B.sl
  ·have hIB := H.out
   obtain ⟨bs, os, hbs, hsp⟩ := hIB.2.2.1.some (by omega)
   obtain ⟨x, y, e0, e1, e2, e3, fx, fy⟩ := hsp k hlt
   obtain ⟨hi1, hi2⟩ := V2.out k hlt
   have HE := Lib.hid (E1.out k hlt)
   have HXL : Hid ((addsF c.cs X0 (List.take k es)).length = B.pl) := Lib.hid (by rw [addsF_len]; exact HZ.out)
   have HKS := Lib.hid (addsF_s c.cs X0 es (show k < es.length by have := EL.out; omega))
   have HB2 : Hid (w.cell? ⟨pb, 2, none⟩ = some (.slice (some ⟨bs, os, none⟩) B.sl B.sc)) := Lib.hid (by rw [← hbs]; exact HA.out 2 _ rfl)
   have b2 := cell_below S1.out.bel HB2.out
   generalize hX : addsF c.cs X0 (List.take k es) = X at *
   obtain ⟨m, hm', hm⟩ := inB_nat hi1
   obtain ⟨n, hn', hn⟩ := inB_nat hi2
   have HAD := Lib.hid (add_sp (cs := c.cs) (X := X) hm' hn')
   rw [hm'] at e0
   rw [hn'] at e1
   have HEC := Lib.hid (And.intro e0 (And.intro e1 (And.intro e2 e3)))
   have FX := Lib.hid (And.intro fx fy)
   have m0 : (0 : Int) ≤ (m : Int) := by omega
   have m1 : (m : Int) < (B.pl : Int) := by omega
   have n0 : (0 : Int) ≤ (n : Int) := by omega
   have n1 : (n : Int) < (B.pl : Int) := by omega
   have hk0 : (0 : Int) ≤ (k : Int) := by omega
   have hk1 : (k : Int) < (B.sl : Int) := by omega
   have HM := Lib.hid (And.intro hm hn)
   clear hsp hIB hbs fx fy e0 e1 e2 e3
   go_wp2_with fail
   clear b2
   generalize hD9 : wayC c.cs (m : Int) (n : Int) = D at *
   refine (l03Way pb bs (os + k * 4) (m : Int) (n : Int) x y (c.ss.getD k s0).2.2.1 (c.ss.getD k s0).2.2.2 B.pa B.pl B.pc c.cs wr (H.out.below S1.out.bel).1 (cell_below S1.out.bel (HA.out 0 _ rfl)) (cell_below S1.out.bel HEC.out.1) (cell_below S1.out.bel HEC.out.2.1) (cell_below S1.out.bel HEC.out.2.2.1) (cell_below S1.out.bel HEC.out.2.2.2) FX.out.1 FX.out.2 (decide_eq_true ⟨by omega, by omega⟩) (decide_eq_true ⟨by omega, by omega⟩)).mono ?_
   rintro e w2 ⟨dx, dy, dz, gv, rfl, hD, hG, hB2⟩
   rw [hD9] at hD hG
   generalize hPC : perC D (c.ss.getD k s0).2.2.1 (c.ss.getD k s0).2.2.2 = PC at *
   have S2' : St w [(w2.heap.size, [.float .f32 dx, .float .f32 dy, .float .f32 dz])] g X (w2.alloc (.cells #[.float .f32 dx, .float .f32 dy, .float .f32 dz] 42)) := (S1.out.call hB2).box
   have S2 := Lib.hid S2'
   have HDV : Hid (F3 dx dy dz D) := Lib.hid hD
   have HG := Lib.hid hG
   clear hB2 S2' hD hG S1
   go_wp2_with fail
   generalize (w2.alloc (.cells #[.float .f32 dx, .float .f32 dy, .float .f32 dz] 42)) = W2 at *
   generalize w2.heap.size = V at *
   have HMX : Hid (m < X.length) := Lib.hid (by have := HXL.out; omega)
   refine Reg3.wp_region_mix (C := St w [(V, [.float .f32 dx, .float .f32 dy, .float .f32 dz])] g X) (G := fun _ _ => True) (R := fun i v w' => match i with | 0 => v = .slice (some ⟨g, 0, none⟩) B.pl B.pl | 1 => v = .pointer (some ⟨bs, os + k * 4, none⟩) | 2 => v = .pointer (some ⟨bs, os + k * 4, none⟩) | 3 => v = .pointer (some ⟨bs, os + k * 4, none⟩) | 4 => v = .int .i64 (m : Int) | 5 => v = .slice (some ⟨g, 0, none⟩) B.pl B.pl | 6 => v = .pointer (some ⟨bs, os + k * 4, none⟩) | 7 => v = .pointer (some ⟨bs, os + k * 4, none⟩) | 8 => v = .pointer (some ⟨bs, os + k * 4, none⟩) | 9 => v = .int .i64 (m : Int) | 10 => v = .pointer (some ⟨g, m * 3, none⟩) | 11 => ∃ p q r, v = vv p q r ∧ F3 p q r (X.getD m c0) | 12 => v = vv dx dy dz | 13 => v = .float .f32 gv | 14 => ∃ p q r, v = vv p q r ∧ F3 p q r (scaleC D PC) | 15 => ∃ p q r, v = vv p q r ∧ F3 p q r (plusC (X.getD m c0) (scaleC D PC)) | 16 => v = .pointer (some ⟨g, m * 3, none⟩) | _ => True) (T := fun _ _ w' => St w [(V, [.float .f32 dx, .float .f32 dy, .float .f32 dz])] g (addAt X m (scaleC D PC)) w') [false, false, false, false, false, false, false, false, false, false, false, false, false, false, false, false, false, false, false, false, false, false, false, false, false, false, false, false, false, false, false, false, false, false, false, false, false, false, false, false, false, false, false, false, false, false, false, false, false, true, true, true, true, true, true, true, true, true, true, true, true, true, true, true, true, true, false, false, false, false, false, false, false, false, false, false, false, false, false, false, false, false, false, false, false, false, false, false, false, false, false, false, false, false, false, false, false, false, false, false, false, false, false, false, false, false, false, false, false, false, false, false, false, false, false, false, false, false, false, false, false, false, false, false, false, false, false, false, false, false, false, false, false, false, false, false, false, false, false, false, false, false, false, false, false, false, false, false, false, false, false, false, false, false, false, false, false, false, false, false, false, false, false, false, false, false, false, false, false, false, false, false, false, false, false, false, false, false, false, false, false, false, false, false, false, false, false, false, false, false, false, false, false, false, false, false, false, false, false, false, false, false, false, false, false, false, false, false, false, false, false, false, false, false, false, false, false, false, false, false, false, false, false, false, false, false, false, false, false, false, false, false, false, false, false, false, false, false, false, false, false, false, false, false, false, false, false, false, false, false, false, false, false, false, false, false, false, false, false, false, false, false, false, false, false, false, false, false, false, false, false, false, false, false, false, false, false, false, false, false]
    (by kernel_rfl) (by kernel_rfl) (by kernel_rfl) (fun _ _ _ _ _ _ h => h) (S2.out.drewN 1) ?_ ?_
   ·refine ⟨Reg3.Obl.mk ?_, Reg3.Obl.mk ?_, Reg3.Obl.mk ?_, Reg3.Obl.mk ?_, Reg3.Obl.mk ?_, Reg3.Obl.mk ?_, Reg3.Obl.mk ?_, Reg3.Obl.mk ?_, Reg3.Obl.mk ?_, Reg3.Obl.mk ?_, Reg3.Obl.mk ?_, Reg3.Obl.mk ?_, Reg3.Obl.mk ?_, Reg3.Obl.mk ?_, Reg3.Obl.mk ?_, Reg3.Obl.mk ?_, Reg3.Obl.mk ?_, Reg3.Obl.mk ?_, trivial⟩
    ·rintro a w1 HC hx hd K hK
     replace HC := Lib.hid HC
     have t4 : a.tmps[4]?.getD undef = .slice (some ⟨g, 0, none⟩) B.pl B.pl := Reg.slot_val (hx 4 (by kernel_rfl))
     go_simp
     exact hK _ _ (fun _ => rfl) (fun h => by cases h) (fun _ => HC.out) trivial
    ·rintro a w1 HC hx hd K hK
     replace HC := Lib.hid HC
     have t6 : a.tmps[6]?.getD undef = .pointer (some ⟨bs, os + k * 4, none⟩) := Reg.slot_val (hx 6 (by kernel_rfl))
     go_simp
     exact hK _ _ (fun _ => rfl) (fun h => by cases h) (fun _ => HC.out) trivial
    ·rintro a w1 HC hx hd K hK
     replace HC := Lib.hid HC
     have t50 : a.tmps[50]?.getD undef = .pointer (some ⟨bs, os + k * 4, none⟩) := Reg.slot_val (hd 1 (by kernel_rfl) 50 rfl)
     go_simp
     exact hK _ _ (fun _ => rfl) (fun h => by cases h) (fun _ => HC.out) trivial
    ·rintro a w1 HC hx hd K hK
     replace HC := Lib.hid HC
     have t51 : a.tmps[51]?.getD undef = .pointer (some ⟨bs, os + k * 4, none⟩) := Reg.slot_val (hd 2 (by kernel_rfl) 51 rfl)
     go_simp
     exact hK _ _ (fun _ => rfl) (fun h => by cases h) (fun _ => HC.out) trivial
    ·rintro a w1 HC hx hd K hK
     replace HC := Lib.hid HC
     have y9 := cell_below HC.out.bel HEC.out.1
     have t52 : a.tmps[52]?.getD undef = .pointer (some ⟨bs, os + k * 4, none⟩) := Reg.slot_val (hd 3 (by kernel_rfl) 52 rfl)
     go_simp
     exact hK _ _ (fun _ => rfl) (fun h => by cases h) (fun _ => HC.out) trivial
    ·rintro a w1 HC hx hd K hK
     replace HC := Lib.hid HC
     have t4 : a.tmps[4]?.getD undef = .slice (some ⟨g, 0, none⟩) B.pl B.pl := Reg.slot_val (hx 4 (by kernel_rfl))
     go_simp
     exact hK _ _ (fun _ => rfl) (fun h => by cases h) (fun _ => HC.out) trivial
    ·rintro a w1 HC hx hd K hK
     replace HC := Lib.hid HC
     have t6 : a.tmps[6]?.getD undef = .pointer (some ⟨bs, os + k * 4, none⟩) := Reg.slot_val (hx 6 (by kernel_rfl))
     go_simp
     exact hK _ _ (fun _ => rfl) (fun h => by cases h) (fun _ => HC.out) trivial
    ·rintro a w1 HC hx hd K hK
     replace HC := Lib.hid HC
     have t55 : a.tmps[55]?.getD undef = .pointer (some ⟨bs, os + k * 4, none⟩) := Reg.slot_val (hd 6 (by kernel_rfl) 55 rfl)
     go_simp
     exact hK _ _ (fun _ => rfl) (fun h => by cases h) (fun _ => HC.out) trivial
    ·rintro a w1 HC hx hd K hK
     replace HC := Lib.hid HC
     have t56 : a.tmps[56]?.getD undef = .pointer (some ⟨bs, os + k * 4, none⟩) := Reg.slot_val (hd 7 (by kernel_rfl) 56 rfl)
     go_simp
     exact hK _ _ (fun _ => rfl) (fun h => by cases h) (fun _ => HC.out) trivial
    ·rintro a w1 HC hx hd K hK
     replace HC := Lib.hid HC
     have y9 := cell_below HC.out.bel HEC.out.1
     have t57 : a.tmps[57]?.getD undef = .pointer (some ⟨bs, os + k * 4, none⟩) := Reg.slot_val (hd 8 (by kernel_rfl) 57 rfl)
     go_simp
     exact hK _ _ (fun _ => rfl) (fun h => by cases h) (fun _ => HC.out) trivial
    ·rintro a w1 HC hx hd K hK
     replace HC := Lib.hid HC
     have t54 : a.tmps[54]?.getD undef = .slice (some ⟨g, 0, none⟩) B.pl B.pl := Reg.slot_val (hd 5 (by kernel_rfl) 54 rfl)
     have t58 : a.tmps[58]?.getD undef = .int .i64 (m : Int) := Reg.slot_val (hd 9 (by kernel_rfl) 58 rfl)
     go_simp
     exact hK _ _ (fun _ => rfl) (fun h => by cases h) (fun _ => HC.out) trivial
    ·rintro a w1 HC hx hd K hK
     replace HC := Lib.hid HC
     obtain ⟨u0, u1, u2, ⟨z0, z1, z2⟩, fu⟩ := HC.out.own.at HMX.out
     have t59 : a.tmps[59]?.getD undef = .pointer (some ⟨g, m * 3, none⟩) := Reg.slot_val (hd 10 (by kernel_rfl) 59 rfl)
     go_simp
     exact hK _ _ (fun _ => ⟨u0, u1, u2, rfl, fu⟩) (fun h => by cases h) (fun _ => HC.out) trivial
    ·rintro a w1 HC hx hd K hK
     replace HC := Lib.hid HC
     have x0 := (HC.out.mem (.head _)) 0 _ rfl
     have x1 := (HC.out.mem (.head _)) 1 _ rfl
     have x2 := (HC.out.mem (.head _)) 2 _ rfl
     have t7 : a.tmps[7]?.getD undef = .pointer (some ⟨V, 0, none⟩) := Reg.slot_val (hx 7 (by kernel_rfl))
     go_simp
     exact hK _ _ (fun _ => rfl) (fun h => by cases h) (fun _ => HC.out) trivial
    ·rintro a w1 HC hx hd K hK
     replace HC := Lib.hid HC
     have t8 : a.tmps[8]?.getD undef = .float .f32 gv := Reg.slot_val (hx 8 (by kernel_rfl))
     go_simp
     exact hK _ _ (fun _ => rfl) (fun h => by cases h) (fun _ => HC.out) trivial
    ·rintro a w1 HC hx hd K hK
     replace HC := Lib.hid HC
     have t61 : a.tmps[61]?.getD undef = vv dx dy dz := Reg.slot_val (hd 12 (by kernel_rfl) 61 rfl)
     have t62 : a.tmps[62]?.getD undef = .float .f32 gv := Reg.slot_val (hd 13 (by kernel_rfl) 62 rfl)
     go_simp
     refine (l01Scale _ _ _ _ _ _ _ _ _ HDV.out.1 HDV.out.2.1 HDV.out.2.2 HG.out).mono ?_
     rintro en w2 ⟨p', q', r', rfl, fp', fq', fr', hB2⟩
     exact hK _ _ (fun _ => ⟨p', q', r', rfl, fp', fq', fr'⟩) (fun h => by cases h) (fun _ => HC.out.call hB2) trivial
    ·rintro a w1 HC hx hd K hK
     replace HC := Lib.hid HC
     obtain ⟨p60, q60, r60, g60, f60⟩ := hd 11 (by kernel_rfl) 60 rfl
     have t60 := Reg.slot_val g60
     clear g60
     obtain ⟨p63, q63, r63, g63, f63⟩ := hd 14 (by kernel_rfl) 63 rfl
     have t63 := Reg.slot_val g63
     clear g63
     go_simp
     refine (l01Add _ _ _ _ _ _ _ _ _ _ _ _ _ f60.1 f60.2.1 f60.2.2 f63.1 f63.2.1 f63.2.2).mono ?_
     rintro en w2 ⟨p', q', r', rfl, fp', fq', fr', hB2⟩
     exact hK _ _ (fun _ => ⟨p', q', r', rfl, fp', fq', fr'⟩) (fun h => by cases h) (fun _ => HC.out.call hB2) trivial
    ·rintro a w1 HC hx hd K hK
     replace HC := Lib.hid HC
     have t49 : a.tmps[49]?.getD undef = .slice (some ⟨g, 0, none⟩) B.pl B.pl := Reg.slot_val (hd 0 (by kernel_rfl) 49 rfl)
     have t53 : a.tmps[53]?.getD undef = .int .i64 (m : Int) := Reg.slot_val (hd 4 (by kernel_rfl) 53 rfl)
     go_simp
     exact hK _ _ (fun _ => rfl) (fun h => by cases h) (fun _ => HC.out) trivial
    ·rintro a w1 HC hx hd K hK
     replace HC := Lib.hid HC
     obtain ⟨u0, u1, u2, ⟨z0, z1, z2⟩, fu⟩ := HC.out.own.at HMX.out
     have k0 := HC.out.own.2.1 (m * 3)
     have k1 := HC.out.own.2.1 (m * 3 + 1)
     have k2 := HC.out.own.2.1 (m * 3 + 2)
     have t65 : a.tmps[65]?.getD undef = .pointer (some ⟨g, m * 3, none⟩) := Reg.slot_val (hd 16 (by kernel_rfl) 65 rfl)
     obtain ⟨p64, q64, r64, g64, f64⟩ := hd 15 (by kernel_rfl) 64 rfl
     have t64 := Reg.slot_val g64
     clear g64
     go_simp
     exact hK undef _ (fun h => absurd rfl h) (fun _ => HC.out.put HMX.out f64) (fun h => absurd rfl h) trivial
   ·rintro f W3 hR hT
    have h3 := hT 17 rfl (Nat.le_of_ble_eq_true rfl)
    simp only [Reg.mixL, Nat.zero_add, Nat.reduceAdd]
    have S3 := Lib.hid h3
    generalize hX4 : addAt X m (scaleC D PC) = X4 at *
    have HNX : Hid (n < X4.length) := Lib.hid (by rw [← hX4, addAt_len]; have := HXL.out; omega)
    clear hR hT h3 S2
    go_wp2_with fail
    refine Reg3.wp_region_mix (C := St w [(V, [.float .f32 dx, .float .f32 dy, .float .f32 dz])] g X4) (G := fun _ _ => True) (R := fun i v w' => match i with | 0 => v = .slice (some ⟨g, 0, none⟩) B.pl B.pl | 1 => v = .pointer (some ⟨bs, os + k * 4, none⟩) | 2 => v = .pointer (some ⟨bs, os + k * 4, none⟩) | 3 => v = .pointer (some ⟨bs, os + k * 4 + 1, none⟩) | 4 => v = .int .i64 (n : Int) | 5 => v = .slice (some ⟨g, 0, none⟩) B.pl B.pl | 6 => v = .pointer (some ⟨bs, os + k * 4, none⟩) | 7 => v = .pointer (some ⟨bs, os + k * 4, none⟩) | 8 => v = .pointer (some ⟨bs, os + k * 4 + 1, none⟩) | 9 => v = .int .i64 (n : Int) | 10 => v = .pointer (some ⟨g, n * 3, none⟩) | 11 => ∃ p q r, v = vv p q r ∧ F3 p q r (X4.getD n c0) | 12 => v = vv dx dy dz | 13 => v = .float .f32 gv | 14 => ∃ r, v = .float .f32 r ∧ FV .f32 r (negC32 PC) | 15 => ∃ p q r, v = vv p q r ∧ F3 p q r (scaleC D (negC32 PC)) | 16 => ∃ p q r, v = vv p q r ∧ F3 p q r (plusC (X4.getD n c0) (scaleC D (negC32 PC))) | 17 => v = .pointer (some ⟨g, n * 3, none⟩) | _ => True) (T := fun _ _ w' => St w [(V, [.float .f32 dx, .float .f32 dy, .float .f32 dz])] g (addAt X4 n (scaleC D (negC32 PC))) w') [false, false, false, false, false, false, false, false, false, false, false, false, false, false, false, false, false, false, false, false, false, false, false, false, false, false, false, false, false, false, false, false, false, false, false, false, false, false, false, false, false, false, false, false, false, false, false, false, false, false, false, false, false, false, false, false, false, false, false, false, false, false, false, false, false, false, true, true, true, true, true, true, true, true, true, true, true, true, true, true, true, true, true, true, false, false, false, false, false, false, false, false, false, false, false, false, false, false, false, false, false, false, false, false, false, false, false, false, false, false, false, false, false, false, false, false, false, false, false, false, false, false, false, false, false, false, false, false, false, false, false, false, false, false, false, false, false, false, false, false, false, false, false, false, false, false, false, false, false, false, false, false, false, false, false, false, false, false, false, false, false, false, false, false, false, false, false, false, false, false, false, false, false, false, false, false, false, false, false, false, false, false, false, false, false, false, false, false, false, false, false, false, false, false, false, false, false, false, false, false, false, false, false, false, false, false, false, false, false, false, false, false, false, false, false, false, false, false, false, false, false, false, false, false, false, false, false, false, false, false, false, false, false, false, false, false, false, false, false, false, false, false, false, false, false, false, false, false, false, false, false, false, false, false, false, false, false, false, false, false, false, false, false, false, false, false, false, false, false, false, false, false, false, false, false, false, false, false, false, false]
     (by kernel_rfl) (by kernel_rfl) (by kernel_rfl) (fun _ _ _ _ _ _ h => h) (S3.out.drewN 1) ?_ ?_
    ·refine ⟨Reg3.Obl.mk ?_, Reg3.Obl.mk ?_, Reg3.Obl.mk ?_, Reg3.Obl.mk ?_, Reg3.Obl.mk ?_, Reg3.Obl.mk ?_, Reg3.Obl.mk ?_, Reg3.Obl.mk ?_, Reg3.Obl.mk ?_, Reg3.Obl.mk ?_, Reg3.Obl.mk ?_, Reg3.Obl.mk ?_, Reg3.Obl.mk ?_, Reg3.Obl.mk ?_, Reg3.Obl.mk ?_, Reg3.Obl.mk ?_, Reg3.Obl.mk ?_, Reg3.Obl.mk ?_, Reg3.Obl.mk ?_, trivial⟩
     ·rintro a w1 HC hx hd K hK
      replace HC := Lib.hid HC
      have t4 : a.tmps[4]?.getD undef = .slice (some ⟨g, 0, none⟩) B.pl B.pl := Reg.slot_val (hx 4 (by kernel_rfl))
      go_simp
      exact hK _ _ (fun _ => rfl) (fun h => by cases h) (fun _ => HC.out) trivial
     ·rintro a w1 HC hx hd K hK
      replace HC := Lib.hid HC
      have t6 : a.tmps[6]?.getD undef = .pointer (some ⟨bs, os + k * 4, none⟩) := Reg.slot_val (hx 6 (by kernel_rfl))
      go_simp
      exact hK _ _ (fun _ => rfl) (fun h => by cases h) (fun _ => HC.out) trivial
     ·rintro a w1 HC hx hd K hK
      replace HC := Lib.hid HC
      have t67 : a.tmps[67]?.getD undef = .pointer (some ⟨bs, os + k * 4, none⟩) := Reg.slot_val (hd 1 (by kernel_rfl) 67 rfl)
      go_simp
      exact hK _ _ (fun _ => rfl) (fun h => by cases h) (fun _ => HC.out) trivial
     ·rintro a w1 HC hx hd K hK
      replace HC := Lib.hid HC
      have t68 : a.tmps[68]?.getD undef = .pointer (some ⟨bs, os + k * 4, none⟩) := Reg.slot_val (hd 2 (by kernel_rfl) 68 rfl)
      go_simp
      exact hK _ _ (fun _ => rfl) (fun h => by cases h) (fun _ => HC.out) trivial
     ·rintro a w1 HC hx hd K hK
      replace HC := Lib.hid HC
      have y9 := cell_below HC.out.bel HEC.out.2.1
      have t69 : a.tmps[69]?.getD undef = .pointer (some ⟨bs, os + k * 4 + 1, none⟩) := Reg.slot_val (hd 3 (by kernel_rfl) 69 rfl)
      go_simp
      exact hK _ _ (fun _ => rfl) (fun h => by cases h) (fun _ => HC.out) trivial
     ·rintro a w1 HC hx hd K hK
      replace HC := Lib.hid HC
      have t4 : a.tmps[4]?.getD undef = .slice (some ⟨g, 0, none⟩) B.pl B.pl := Reg.slot_val (hx 4 (by kernel_rfl))
      go_simp
      exact hK _ _ (fun _ => rfl) (fun h => by cases h) (fun _ => HC.out) trivial
     ·rintro a w1 HC hx hd K hK
      replace HC := Lib.hid HC
      have t6 : a.tmps[6]?.getD undef = .pointer (some ⟨bs, os + k * 4, none⟩) := Reg.slot_val (hx 6 (by kernel_rfl))
      go_simp
      exact hK _ _ (fun _ => rfl) (fun h => by cases h) (fun _ => HC.out) trivial
     ·rintro a w1 HC hx hd K hK
      replace HC := Lib.hid HC
      have t72 : a.tmps[72]?.getD undef = .pointer (some ⟨bs, os + k * 4, none⟩) := Reg.slot_val (hd 6 (by kernel_rfl) 72 rfl)
      go_simp
      exact hK _ _ (fun _ => rfl) (fun h => by cases h) (fun _ => HC.out) trivial
     ·rintro a w1 HC hx hd K hK
      replace HC := Lib.hid HC
      have t73 : a.tmps[73]?.getD undef = .pointer (some ⟨bs, os + k * 4, none⟩) := Reg.slot_val (hd 7 (by kernel_rfl) 73 rfl)
      go_simp
      exact hK _ _ (fun _ => rfl) (fun h => by cases h) (fun _ => HC.out) trivial
     ·rintro a w1 HC hx hd K hK
      replace HC := Lib.hid HC
      have y9 := cell_below HC.out.bel HEC.out.2.1
      have t74 : a.tmps[74]?.getD undef = .pointer (some ⟨bs, os + k * 4 + 1, none⟩) := Reg.slot_val (hd 8 (by kernel_rfl) 74 rfl)
      go_simp
      exact hK _ _ (fun _ => rfl) (fun h => by cases h) (fun _ => HC.out) trivial
     ·rintro a w1 HC hx hd K hK
      replace HC := Lib.hid HC
      have t71 : a.tmps[71]?.getD undef = .slice (some ⟨g, 0, none⟩) B.pl B.pl := Reg.slot_val (hd 5 (by kernel_rfl) 71 rfl)
      have t75 : a.tmps[75]?.getD undef = .int .i64 (n : Int) := Reg.slot_val (hd 9 (by kernel_rfl) 75 rfl)
      go_simp
      exact hK _ _ (fun _ => rfl) (fun h => by cases h) (fun _ => HC.out) trivial
     ·rintro a w1 HC hx hd K hK
      replace HC := Lib.hid HC
      obtain ⟨u0, u1, u2, ⟨z0, z1, z2⟩, fu⟩ := HC.out.own.at HNX.out
      have t76 : a.tmps[76]?.getD undef = .pointer (some ⟨g, n * 3, none⟩) := Reg.slot_val (hd 10 (by kernel_rfl) 76 rfl)
      go_simp
      exact hK _ _ (fun _ => ⟨u0, u1, u2, rfl, fu⟩) (fun h => by cases h) (fun _ => HC.out) trivial
     ·rintro a w1 HC hx hd K hK
      replace HC := Lib.hid HC
      have x0 := (HC.out.mem (.head _)) 0 _ rfl
      have x1 := (HC.out.mem (.head _)) 1 _ rfl
      have x2 := (HC.out.mem (.head _)) 2 _ rfl
      have t7 : a.tmps[7]?.getD undef = .pointer (some ⟨V, 0, none⟩) := Reg.slot_val (hx 7 (by kernel_rfl))
      go_simp
      exact hK _ _ (fun _ => rfl) (fun h => by cases h) (fun _ => HC.out) trivial
     ·rintro a w1 HC hx hd K hK
      replace HC := Lib.hid HC
      have t8 : a.tmps[8]?.getD undef = .float .f32 gv := Reg.slot_val (hx 8 (by kernel_rfl))
      go_simp
      exact hK _ _ (fun _ => rfl) (fun h => by cases h) (fun _ => HC.out) trivial
     ·rintro a w1 HC hx hd K hK
      replace HC := Lib.hid HC
      have t79 : a.tmps[79]?.getD undef = .float .f32 gv := Reg.slot_val (hd 13 (by kernel_rfl) 79 rfl)
      go_simp
      exact hK _ _ (fun _ => ⟨_, rfl, FV_neg32 HG.out⟩) (fun h => by cases h) (fun _ => HC.out) trivial
     ·rintro a w1 HC hx hd K hK
      replace HC := Lib.hid HC
      have t78 : a.tmps[78]?.getD undef = vv dx dy dz := Reg.slot_val (hd 12 (by kernel_rfl) 78 rfl)
      obtain ⟨r80, g80, f80⟩ := hd 14 (by kernel_rfl) 80 rfl
      have t80 := Reg.slot_val g80
      clear g80
      go_simp
      refine (l01Scale _ _ _ _ _ _ _ _ _ HDV.out.1 HDV.out.2.1 HDV.out.2.2 f80).mono ?_
      rintro en w2 ⟨p', q', r', rfl, fp', fq', fr', hB2⟩
      exact hK _ _ (fun _ => ⟨p', q', r', rfl, fp', fq', fr'⟩) (fun h => by cases h) (fun _ => HC.out.call hB2) trivial
     ·rintro a w1 HC hx hd K hK
      replace HC := Lib.hid HC
      obtain ⟨p77, q77, r77, g77, f77⟩ := hd 11 (by kernel_rfl) 77 rfl
      have t77 := Reg.slot_val g77
      clear g77
      obtain ⟨p81, q81, r81, g81, f81⟩ := hd 15 (by kernel_rfl) 81 rfl
      have t81 := Reg.slot_val g81
      clear g81
      go_simp
      refine (l01Add _ _ _ _ _ _ _ _ _ _ _ _ _ f77.1 f77.2.1 f77.2.2 f81.1 f81.2.1 f81.2.2).mono ?_
      rintro en w2 ⟨p', q', r', rfl, fp', fq', fr', hB2⟩
      exact hK _ _ (fun _ => ⟨p', q', r', rfl, fp', fq', fr'⟩) (fun h => by cases h) (fun _ => HC.out.call hB2) trivial
     ·rintro a w1 HC hx hd K hK
      replace HC := Lib.hid HC
      have t66 : a.tmps[66]?.getD undef = .slice (some ⟨g, 0, none⟩) B.pl B.pl := Reg.slot_val (hd 0 (by kernel_rfl) 66 rfl)
      have t70 : a.tmps[70]?.getD undef = .int .i64 (n : Int) := Reg.slot_val (hd 4 (by kernel_rfl) 70 rfl)
      go_simp
      exact hK _ _ (fun _ => rfl) (fun h => by cases h) (fun _ => HC.out) trivial
     ·rintro a w1 HC hx hd K hK
      replace HC := Lib.hid HC
      obtain ⟨u0, u1, u2, ⟨z0, z1, z2⟩, fu⟩ := HC.out.own.at HNX.out
      have k0 := HC.out.own.2.1 (n * 3)
      have k1 := HC.out.own.2.1 (n * 3 + 1)
      have k2 := HC.out.own.2.1 (n * 3 + 2)
      have t83 : a.tmps[83]?.getD undef = .pointer (some ⟨g, n * 3, none⟩) := Reg.slot_val (hd 17 (by kernel_rfl) 83 rfl)
      obtain ⟨p82, q82, r82, g82, f82⟩ := hd 16 (by kernel_rfl) 82 rfl
      have t82 := Reg.slot_val g82
      clear g82
      go_simp
      exact hK undef _ (fun h => absurd rfl h) (fun _ => HC.out.put HNX.out f82) (fun h => absurd rfl h) trivial
    ·rintro f W5 hR hT
     have h5 := hT 18 rfl (Nat.le_of_ble_eq_true rfl)
     simp only [Reg.mixL, Nat.zero_add, Nat.reduceAdd]
     have S6 : Hid (St w [] g (addsF c.cs X0 (es.take (k + 1))) W5) := Lib.hid (by
      rw [HKS.out, HE.out, HAD.out]
      exact h5.drop)
     have HLE := HLEN.out
     clear hR hT h5
     go_wp2
     go_roundw
     case rel => exact ⟨k + 1, by omega, by go_num, S6.out⟩
     case measure => simp [intOf]; omega
  ·obtain rfl : k = B.sl := by omega
   have b1 := cell_below S1.out.bel (HA.out 1 _ rfl)
   go_wp2
   clear b1
   go_loopw [90] (fun i w' => ∃ k : Nat, k ≤ B.tl ∧ i = .int .i64 k ∧ Aside (St w [] g (addsF c.cs X0 (es.take (B.sl + k))) w')) (fun i _ => B.tl - (intOf i).toNat)
   case atStart => exact ⟨0, Nat.zero_le _, rfl, S1.out⟩
   case round =>
    clear S1
    obtain ⟨k, hk, rfl, hA⟩ := hrel
    have S1 := Lib.hid hA.out
    clear hA
    by_cases hlt2 : k < B.tl
    ·obtain ⟨bt, ot, hbt, hrow⟩ := H.out.2.1.some (by omega)
     obtain ⟨r1, n1, q1, cr, ir⟩ := hrow k hlt2
     have htri := HWR.out k hlt2
     obtain ⟨h3, hin⟩ := tri_parts htri
     have hn1 : n1 = 3 := ir.1.symm.trans h3
     subst hn1
     obtain ⟨br, orr, rfl, hcell⟩ := ir.some (by omega)
     have HE := Lib.hid (E2.out k hlt2)
     have HXL : Hid ((addsF c.cs X0 (List.take (B.sl + k) es)).length = B.pl) := Lib.hid (by rw [addsF_len]; exact HZ.out)
     have HKS := Lib.hid (addsF_s c.cs X0 es (show B.sl + k < es.length by have := EL.out; omega))
     generalize hX : addsF c.cs X0 (List.take (B.sl + k) es) = X at *
     generalize htk : c.ts.getD k [] = tk at *
     have HTN : Hid (∀ j, j < 3 → ∃ m : Nat, tk.getD j 0 = m ∧ m < B.pl ∧ w.cell? ⟨br, orr + j, none⟩ = some (.int .i64 (m : Int))) := Lib.hid (fun j hj => by
      obtain ⟨t0, l0⟩ := hin j hj
      refine ⟨(tk.getD j 0).toNat, (Int.toNat_of_nonneg t0).symm, l0, ?_⟩
      have := hcell j (by omega)
      rw [Int.toNat_of_nonneg t0]
      exact this)
     obtain ⟨m0, hm0, hm0', R0'⟩ := HTN.out 0 (by decide)
     obtain ⟨m1, hm1, hm1', R1'⟩ := HTN.out 1 (by decide)
     obtain ⟨m2, hm2, hm2', R2'⟩ := HTN.out 2 (by decide)
     rw [Nat.add_zero] at R0'
     have HRS := Lib.hid (And.intro R0' (And.intro R1' R2'))
     have HA1 : Hid (w.cell? ⟨pb, 1, none⟩ = some (.slice (some ⟨bt, ot, none⟩) B.tl B.tc)) := Lib.hid (by rw [← hbt]; exact HA.out 1 _ rfl)
     have HNC : Hid (normalC c.cs tk = crossC (lessC (c.cs.getD m1 c0) (c.cs.getD m0 c0)) (lessC (c.cs.getD m2 c0) (c.cs.getD m0 c0))) := Lib.hid (by
      unfold normalC cornerC
      rw [hm0, hm1, hm2]
      rfl)
     have hk0 : (0 : Int) ≤ (k : Int) := by omega
     have hk1 : (k : Int) < (B.tl : Int) := by omega
     have HFI := Lib.hid H.out.2.2.2.2.1
     have y1 := cell_below S1.out.bel HA1.out
     have y2 := cell_below S1.out.bel cr
     clear hrow cr ir hcell hin htri h3 hm0 hm1 hm2 R0' R1' R2' hbt
     go_wp2_with fail
     clear y1 y2
     refine (l03Normal pb br orr q1 m0 m1 m2 B.pa B.pl B.pc c.cs wr (cell_below S1.out.bel (HA.out 0 _ rfl)) (cell_below S1.out.bel HRS.out.1) (cell_below S1.out.bel HRS.out.2.1) (cell_below S1.out.bel HRS.out.2.2) (H.out.below S1.out.bel).1 hm0' hm1' hm2').mono ?_
     rintro e w2 ⟨nx, ny, nz, rfl, hN, hB2⟩
     rw [← HNC.out] at hN
     generalize hNN : normalC c.cs tk = N at *
     have S2' : St w [(w2.heap.size, [.float .f32 nx, .float .f32 ny, .float .f32 nz])] g X (w2.alloc (.cells #[.float .f32 nx, .float .f32 ny, .float .f32 nz] 42)) := (S1.out.call hB2).box
     have S2 := Lib.hid S2'
     have HN := Lib.hid hN
     clear hB2 S2' hN S1
     go_wp2_with fail
     generalize (w2.alloc (.cells #[.float .f32 nx, .float .f32 ny, .float .f32 nz] 42)) = W2 at *
     generalize w2.heap.size = V at *
     refine Reg.wp_region_mix (C := St w [(V, [.float .f32 nx, .float .f32 ny, .float .f32 nz])] g X) (G := fun _ _ => True) (R := fun i v w' => match i with | 0 => v = .pointer (some ⟨pb, 0, none⟩) | 1 => v = .pointer (some ⟨pb, 0, none⟩) | 2 => v = .pointer (some ⟨pb, 3, none⟩) | 3 => v = .float .f32 B.film | 4 => ∃ r, v = .float .f32 r ∧ FV .f32 r (fop .mul .f32 halfC c.film) | 5 => ∃ r, v = .float .f32 r ∧ FV .f32 r (negC32 (fop .mul .f32 halfC c.film)) | 6 => v = vv nx ny nz | 7 => ∃ r, v = .float .f32 r ∧ FV .f32 r (longC N) | 8 => ∃ r, v = .float .f32 r ∧ FV .f32 r (gainC (negC32 (fop .mul .f32 halfC c.film)) (longC N)) | 9 => ∃ r, v = .float .f32 r ∧ FV .f32 r (gainC (negC32 (fop .mul .f32 halfC c.film)) (longC N)) | _ => True) (T := fun _ _ _ => True) [false, false, false, false, false, false, false, false, false, false, false, false, true, false, false, false, false, false, false, false, false, false, false, false, false, false, false, false, false, false, false, false, false, false, false, false, false, false, false, false, false, false, false, false, false, false, false, false, false, false, false, false, false, false, false, false, false, false, false, false, false, false, false, false, false, false, false, false, false, false, false, false, false, false, false, false, false, false, false, false, false, false, false, false, false, false, false, false, false, false, false, false, false, false, false, false, false, false, false, false, false, false, false, true, true, true, true, true, true, true, true, true, false, false, false, false, false, false, false, false, false, false, false, false, false, false, false, false, false, false, false, false, false, false, false, false, false, false, false, false, false, false, false, false, false, false, false, false, false, false, false, false, false, false, false, false, false, false, false, false, false, false, false, false, false, false, false, false, false, false, false, false, false, false, false, false, false, false, false, false, false, false, false, false, false, false, false, false, false, false, false, false, false, false, false, false, false, false, false, false, false, false, false, false, false, false, false, false, false, false, false, false, false, false, false, false, false, false, false, false, false, false, false, false, false, false, false, false, false, false, false, false, false, false, false, false, false, false, false, false, false, false, false, false, false, false, false, false, false, false, false, false, false, false, false, false, false, false, false, false, false, false, false, false, false, false, false, false, false, false, false, false, false, false, false, false, false, false, false, false]
      (by kernel_rfl) (by kernel_rfl) (by kernel_rfl) (fun _ _ _ _ _ _ h => h) (S2.out.drewN 1) ?_ ?_
     ·refine ⟨Reg.Obl.mk ?_, Reg.Obl.mk ?_, Reg.Obl.mk ?_, Reg.Obl.mk ?_, Reg.Obl.mk ?_, Reg.Obl.mk ?_, Reg.Obl.mk ?_, Reg.Obl.mk ?_, Reg.Obl.mk ?_, Reg.Obl.mk ?_, trivial⟩
      ·rintro a w1 HC hx hd K hK
       replace HC := Lib.hid HC
       have t0 : a.tmps[0]?.getD undef = .pointer (some ⟨pb, 0, none⟩) := Reg.slot_val (hx 0 (by kernel_rfl))
       go_simp
       exact hK _ _ (fun _ => rfl) (fun h => by cases h) HC.out trivial
      ·rintro a w1 HC hx hd K hK
       replace HC := Lib.hid HC
       have t103 : a.tmps[103]?.getD undef = .pointer (some ⟨pb, 0, none⟩) := Reg.slot_val (hd 0 (by kernel_rfl) 103 rfl)
       go_simp
       exact hK _ _ (fun _ => rfl) (fun h => by cases h) HC.out trivial
      ·rintro a w1 HC hx hd K hK
       replace HC := Lib.hid HC
       have t104 : a.tmps[104]?.getD undef = .pointer (some ⟨pb, 0, none⟩) := Reg.slot_val (hd 1 (by kernel_rfl) 104 rfl)
       go_simp
       exact hK _ _ (fun _ => rfl) (fun h => by cases h) HC.out trivial
      ·rintro a w1 HC hx hd K hK
       replace HC := Lib.hid HC
       have y9 := cell_below HC.out.bel (HA.out 3 _ rfl)
       have t105 : a.tmps[105]?.getD undef = .pointer (some ⟨pb, 3, none⟩) := Reg.slot_val (hd 2 (by kernel_rfl) 105 rfl)
       go_simp
       exact hK _ _ (fun _ => rfl) (fun h => by cases h) HC.out trivial
      ·rintro a w1 HC hx hd K hK
       replace HC := Lib.hid HC
       have t106 : a.tmps[106]?.getD undef = .float .f32 B.film := Reg.slot_val (hd 3 (by kernel_rfl) 106 rfl)
       go_simp
       exact hK _ _ (fun _ => ⟨_, rfl, FV_fR half_FV HFI.out⟩) (fun h => by cases h) (HC.out.drewN _) trivial
      ·rintro a w1 HC hx hd K hK
       replace HC := Lib.hid HC
       obtain ⟨r107, g107, f107⟩ := hd 4 (by kernel_rfl) 107 rfl
       have t107 := Reg.slot_val g107
       clear g107
       go_simp
       exact hK _ _ (fun _ => ⟨_, rfl, FV_neg32 f107⟩) (fun h => by cases h) HC.out trivial
      ·rintro a w1 HC hx hd K hK
       replace HC := Lib.hid HC
       have x0 := (HC.out.mem (.head _)) 0 _ rfl
       have x1 := (HC.out.mem (.head _)) 1 _ rfl
       have x2 := (HC.out.mem (.head _)) 2 _ rfl
       have t11 : a.tmps[11]?.getD undef = .pointer (some ⟨V, 0, none⟩) := Reg.slot_val (hx 11 (by kernel_rfl))
       go_simp
       exact hK _ _ (fun _ => rfl) (fun h => by cases h) HC.out trivial
      ·rintro a w1 HC hx hd K hK
       replace HC := Lib.hid HC
       have t109 : a.tmps[109]?.getD undef = vv nx ny nz := Reg.slot_val (hd 6 (by kernel_rfl) 109 rfl)
       go_simp
       refine (l01Long _ _ _ _ _ _ _ HN.out.1 HN.out.2.1 HN.out.2.2).mono ?_
       rintro en w2 ⟨r, rfl, hr, hB2⟩
       exact hK _ _ (fun _ => ⟨r, rfl, hr⟩) (fun h => by cases h) (HC.out.call hB2) trivial
      ·rintro a w1 HC hx hd K hK
       replace HC := Lib.hid HC
       obtain ⟨r108, g108, f108⟩ := hd 5 (by kernel_rfl) 108 rfl
       have t108 := Reg.slot_val g108
       clear g108
       obtain ⟨r110, g110, f110⟩ := hd 7 (by kernel_rfl) 110 rfl
       have t110 := Reg.slot_val g110
       clear g110
       go_simp
       refine (l03Gain _ _ _ _ w1 f108 f110).mono ?_
       rintro en w2 ⟨r, rfl, hr, n9, hw9⟩
       have hB2 : Below w1.heap.size w1 w2 := by rw [hw9]; exact below_drewN (Below.refl _ _) _
       clear hw9
       exact hK _ _ (fun _ => ⟨r, rfl, hr⟩) (fun h => by cases h) (HC.out.call hB2) trivial
      ·rintro a w1 HC hx hd K hK
       replace HC := Lib.hid HC
       obtain ⟨r111, g111, f111⟩ := hd 8 (by kernel_rfl) 111 rfl
       have t111 := Reg.slot_val g111
       clear g111
       go_simp
       exact hK _ _ (fun _ => ⟨_, rfl, f111⟩) (fun h => by cases h) HC.out trivial
     ·rintro f W3 hC hR hT
      obtain ⟨pv, e12, hpv⟩ := hR 9 12 rfl
      simp only [Reg.mixL, Nat.zero_add, Nat.reduceAdd, e12]
      have S3 := Lib.hid hC
      have HPV := Lib.hid hpv
      generalize hGA : gainC (negC32 (fop .mul .f32 halfC c.film)) (longC N) = PV at *
      clear hC hR hT hpv e12 S2
      go_wp2
      go_loopw [13] (fun i w' => ∃ j : Nat, j ≤ 3 ∧ i = .int .i64 j ∧ Aside (St w [(V, [.float .f32 nx, .float .f32 ny, .float .f32 nz])] g (filmJ c.cs X tk PV j) w')) (fun i _ => 3 - (intOf i).toNat)
      case atStart => exact ⟨0, by omega, rfl, S3.out⟩
      case round =>
       clear S3
       obtain ⟨j, hj, rfl, hA⟩ := hrel
       have S4 := Lib.hid hA.out
       clear hA
       by_cases hj3 : j < 3
       ·obtain ⟨ma, hma, hma', ra⟩ := HTN.out j hj3
        obtain ⟨mb, hmb, hmb', rb⟩ := HTN.out ((j + 1) % 3) (Nat.mod_lt _ (by decide))
        obtain ⟨mc, hmc, hmc', rc⟩ := HTN.out ((j + 2) % 3) (Nat.mod_lt _ (by decide))
        have HST : Hid (filmJ c.cs X tk PV (j + 1) = addAt (filmJ c.cs X tk PV j) ma (scaleC (crossC N (lessC (c.cs.getD mc c0) (c.cs.getD mb c0))) PV)) := Lib.hid (by
         simp only [filmJ, placeC]
         rw [hma, hmb, hmc, hNN]
         simp only [Int.toNat_natCast])
        have HLJ : Hid ((filmJ c.cs X tk PV j).length = B.pl) := Lib.hid (by rw [filmJ_len]; exact HXL.out)
        have hmod1 : ((j : Int) + 1).tmod 3 = (((j + 1) % 3 : Nat) : Int) := by
         have := (Int.ofNat_tmod (j + 1) 3).symm
         simpa using this
        have hmod2 : ((j : Int) + 2).tmod 3 = (((j + 2) % 3 : Nat) : Int) := by
         have := (Int.ofNat_tmod (j + 2) 3).symm
         simpa using this
        have hw1 : IntKind.i64.wrap ((j : Int) + 1) = (j : Int) + 1 := IntWalk.i64_in _ (by omega)
        have hw2 : IntKind.i64.wrap ((j : Int) + 2) = (j : Int) + 2 := IntWalk.i64_in _ (by omega)
        have hb1 : (j + 1) % 3 < 3 := Nat.mod_lt _ (by decide)
        have hb2 : (j + 2) % 3 < 3 := Nat.mod_lt _ (by decide)
        generalize (j + 1) % 3 = a1 at *
        generalize (j + 2) % 3 = a2 at *
        generalize filmJ c.cs X tk PV j = XJ at *
        have hw3 : IntKind.i64.wrap (a1 : Int) = (a1 : Int) := IntWalk.i64_in _ (by omega)
        have hw4 : IntKind.i64.wrap (a2 : Int) = (a2 : Int) := IntWalk.i64_in _ (by omega)
        obtain ⟨bp, op, hbp, hcp⟩ := H.out.1.some (by omega)
        obtain ⟨pB, qB, rB, d00, d01, d02, f00, f01, f02⟩ := hcp mb hmb'
        obtain ⟨pC, qC, rC, d10, d11, d12, f10, f11, f12⟩ := hcp mc hmc'
        have DB := Lib.hid (And.intro d00 (And.intro d01 d02))
        have DC := Lib.hid (And.intro d10 (And.intro d11 d12))
        have FB := Lib.hid (And.intro f00 (And.intro f01 f02))
        have FC := Lib.hid (And.intro f10 (And.intro f11 f12))
        have HA0 : Hid (w.cell? ⟨pb, 0, none⟩ = some (.slice (some ⟨bp, op, none⟩) B.pl B.pc)) := Lib.hid (by rw [← hbp]; exact HA.out 0 _ rfl)
        have RA := Lib.hid ra
        have RB := Lib.hid rb
        have RC := Lib.hid rc
        have hj0 : (0 : Int) ≤ (j : Int) ∧ (j : Int) < 3 := by omega
        have ha0 : (0 : Int) ≤ (a1 : Int) ∧ (a1 : Int) < 3 := by omega
        have hc0' : (0 : Int) ≤ (a2 : Int) ∧ (a2 : Int) < 3 := by omega
        have hna : (0 : Int) ≤ (ma : Int) ∧ (ma : Int) < (B.pl : Int) := by omega
        have hnb : (0 : Int) ≤ (mb : Int) ∧ (mb : Int) < (B.pl : Int) := by omega
        have hnc : (0 : Int) ≤ (mc : Int) ∧ (mc : Int) < (B.pl : Int) := by omega
        have HMX : Hid (ma < XJ.length) := Lib.hid (by have := HLJ.out; omega)
        clear hma hmb hmc ra rb rc hcp d00 d01 d02 d10 d11 d12 f00 f01 f02 f10 f11 f12 hbp
        go_wp2_with fail
        refine Reg5.wp_region_mix (m := 26) (C := St w ([(V, [Value.float .f32 nx, Value.float .f32 ny, Value.float .f32 nz])]) g XJ) (D := fun _ => True) (G := fun w1 w2 => Below w1.heap.size w1 w2) (G' := fun w1 w2 => w2 = w1) (R := fun i' v w' => match i' with | 0 => v = .pointer (some ⟨pb, 0, none⟩) | 1 => v = .pointer (some ⟨pb, 0, none⟩) | 2 => v = .pointer (some ⟨pb, 0, none⟩) | 3 => v = .slice (some ⟨bp, op, none⟩) B.pl B.pc | 4 => v = .slice (some ⟨br, orr, none⟩) 3 q1 | 5 => v = .int .i64 (j : Int) | 6 => v = .int .i64 ((j : Int) + 2) | 7 => v = .int .i64 (a2 : Int) | 8 => v = .pointer (some ⟨br, orr + a2, none⟩) | 9 => v = .int .i64 (mc : Int) | 10 => v = .pointer (some ⟨bp, op + mc * 3, none⟩) | 11 => v = vv pC qC rC | 12 => v = .pointer (some ⟨pb, 0, none⟩) | 13 => v = .pointer (some ⟨pb, 0, none⟩) | 14 => v = .pointer (some ⟨pb, 0, none⟩) | 15 => v = .slice (some ⟨bp, op, none⟩) B.pl B.pc | 16 => v = .slice (some ⟨br, orr, none⟩) 3 q1 | 17 => v = .int .i64 (j : Int) | 18 => v = .int .i64 ((j : Int) + 1) | 19 => v = .int .i64 (a1 : Int) | 20 => v = .pointer (some ⟨br, orr + a1, none⟩) | 21 => v = .int .i64 (mb : Int) | 22 => v = .pointer (some ⟨bp, op + mb * 3, none⟩) | 23 => v = vv pB qB rB | 24 => ∃ p q r, v = vv p q r ∧ F3 p q r (lessC (c.cs.getD mc c0) (c.cs.getD mb c0)) | 25 => ∃ b9, v = .pointer (some ⟨b9, 0, none⟩) ∧ St w ((b9, [.float .f32 0, .float .f32 0, .float .f32 0]) :: [(V, [Value.float .f32 nx, Value.float .f32 ny, Value.float .f32 nz])]) g XJ w' ∧ w.heap.size ≤ b9 ∧ ∀ x9 ∈ ([(V, [Value.float .f32 nx, Value.float .f32 ny, Value.float .f32 nz])]), x9.1 < b9 | _ => True) (T := fun _ a w' => ∃ b9 x9 y9 z9, a.tmps[14]?.getD undef = .pointer (some ⟨b9, 0, none⟩) ∧ F3 x9 y9 z9 (lessC (c.cs.getD mc c0) (c.cs.getD mb c0)) ∧ St w ((b9, [.float .f32 x9, .float .f32 y9, .float .f32 z9]) :: [(V, [.float .f32 nx, .float .f32 ny, .float .f32 nz])]) g XJ w') [false, false, false, false, false, false, false, false, false, false, false, false, false, false, true, false, false, false, false, false, false, false, false, false, false, false, false, false, false, false, false, false, false, false, false, false, false, false, false, false, false, false, false, false, false, false, false, false, false, false, false, false, false, false, false, false, false, false, false, false, false, false, false, false, false, false, false, false, false, false, false, false, false, false, false, false, false, false, false, false, false, false, false, false, false, false, false, false, false, false, false, false, false, false, false, false, false, false, false, false, false, false, false, false, false, false, false, false, false, false, false, false, false, false, false, false, true, true, true, true, true, true, true, true, true, true, true, true, true, true, true, true, true, true, true, true, true, true, true, true, true, false, false, false, false, false, false, false, false, false, false, false, false, false, false, false, false, false, false, false, false, false, false, false, false, false, false, false, false, false, false, false, false, false, false, false, false, false, false, false, false, false, false, false, false, false, false, false, false, false, false, false, false, false, false, false, false, false, false, false, false, false, false, false, false, false, false, false, false, false, false, false, false, false, false, false, false, false, false, false, false, false, false, false, false, false, false, false, false, false, false, false, false, false, false, false, false, false, false, false, false, false, false, false, false, false, false, false, false, false, false, false, false, false, false, false, false, false, false, false, false, false, false, false, false, false, false, false, false, false, false, false, false, false, false, false, false, false, false, false]
         (by kernel_rfl) (by kernel_rfl) (by kernel_rfl) (by kernel_rfl) ?_ (fun _ _ _ _ _ _ hG hR => by rw [hG]; exact hR) (S4.out.drewN 1) ?_ ?_
        ·intro j9 v9 wa wb hj9 _ hG hR
         match j9 with
         | 0 => exact hR
         | 1 => exact hR
         | 2 => exact hR
         | 3 => exact hR
         | 4 => exact hR
         | 5 => exact hR
         | 6 => exact hR
         | 7 => exact hR
         | 8 => exact hR
         | 9 => exact hR
         | 10 => exact hR
         | 11 => exact hR
         | 12 => exact hR
         | 13 => exact hR
         | 14 => exact hR
         | 15 => exact hR
         | 16 => exact hR
         | 17 => exact hR
         | 18 => exact hR
         | 19 => exact hR
         | 20 => exact hR
         | 21 => exact hR
         | 22 => exact hR
         | 23 => exact hR
         | 24 => exact hR
         | 25 => obtain ⟨b9, e9, h1, h2, h3⟩ := hR; exact ⟨b9, e9, h1.call hG, h2, h3⟩
         | _ + 26 => exact absurd hj9 (by omega)
        ·refine ⟨Reg5.Obl.early rfl rfl ?_, Reg5.Obl.early rfl rfl ?_, Reg5.Obl.early rfl rfl ?_, Reg5.Obl.early rfl rfl ?_, Reg5.Obl.early rfl rfl ?_, Reg5.Obl.early rfl rfl ?_, Reg5.Obl.early rfl rfl ?_, Reg5.Obl.early rfl rfl ?_, Reg5.Obl.early rfl rfl ?_, Reg5.Obl.early rfl rfl ?_, Reg5.Obl.early rfl rfl ?_, Reg5.Obl.early rfl rfl ?_, Reg5.Obl.early rfl rfl ?_, Reg5.Obl.early rfl rfl ?_, Reg5.Obl.early rfl rfl ?_, Reg5.Obl.early rfl rfl ?_, Reg5.Obl.early rfl rfl ?_, Reg5.Obl.early rfl rfl ?_, Reg5.Obl.early rfl rfl ?_, Reg5.Obl.early rfl rfl ?_, Reg5.Obl.early rfl rfl ?_, Reg5.Obl.early rfl rfl ?_, Reg5.Obl.early rfl rfl ?_, Reg5.Obl.early rfl rfl ?_, Reg5.Obl.early rfl rfl ?_, Reg5.Obl.early rfl rfl ?_, Reg5.Obl.fin rfl rfl ?_, trivial⟩
         ·rintro a w1 HC hx hd K hK
          replace HC := Lib.hid HC
          have t3 : a.tmps[3]?.getD undef = .pointer (some ⟨pb, 0, none⟩) := Reg.slot_val (hx 3 (by kernel_rfl))
          go_simp
          exact hK _ _ rfl HC.out (Below.refl _ _)
         ·rintro a w1 HC hx hd K hK
          replace HC := Lib.hid HC
          have t116 : a.tmps[116]?.getD undef = .pointer (some ⟨pb, 0, none⟩) := Reg.slot_val (hd 0 (by kernel_rfl) 116 rfl)
          go_simp
          exact hK _ _ rfl HC.out (Below.refl _ _)
         ·rintro a w1 HC hx hd K hK
          replace HC := Lib.hid HC
          have t117 : a.tmps[117]?.getD undef = .pointer (some ⟨pb, 0, none⟩) := Reg.slot_val (hd 1 (by kernel_rfl) 117 rfl)
          go_simp
          exact hK _ _ rfl HC.out (Below.refl _ _)
         ·rintro a w1 HC hx hd K hK
          replace HC := Lib.hid HC
          have y9 := cell_below HC.out.bel HA0.out
          have t118 : a.tmps[118]?.getD undef = .pointer (some ⟨pb, 0, none⟩) := Reg.slot_val (hd 2 (by kernel_rfl) 118 rfl)
          go_simp
          exact hK _ _ rfl HC.out (Below.refl _ _)
         ·rintro a w1 HC hx hd K hK
          replace HC := Lib.hid HC
          have t10 : a.tmps[10]?.getD undef = .slice (some ⟨br, orr, none⟩) 3 q1 := Reg.slot_val (hx 10 (by kernel_rfl))
          go_simp
          exact hK _ _ rfl HC.out (Below.refl _ _)
         ·rintro a w1 HC hx hd K hK
          replace HC := Lib.hid HC
          have t13 : a.tmps[13]?.getD undef = .int .i64 (j : Int) := Reg.slot_val (hx 13 (by kernel_rfl))
          go_simp
          exact hK _ _ rfl HC.out (Below.refl _ _)
         ·rintro a w1 HC hx hd K hK
          replace HC := Lib.hid HC
          have t121 : a.tmps[121]?.getD undef = .int .i64 (j : Int) := Reg.slot_val (hd 5 (by kernel_rfl) 121 rfl)
          go_simp
          exact hK _ _ rfl HC.out (Below.refl _ _)
         ·rintro a w1 HC hx hd K hK
          replace HC := Lib.hid HC
          have t122 : a.tmps[122]?.getD undef = .int .i64 ((j : Int) + 2) := Reg.slot_val (hd 6 (by kernel_rfl) 122 rfl)
          go_simp
          exact hK _ _ rfl HC.out (Below.refl _ _)
         ·rintro a w1 HC hx hd K hK
          replace HC := Lib.hid HC
          have t120 : a.tmps[120]?.getD undef = .slice (some ⟨br, orr, none⟩) 3 q1 := Reg.slot_val (hd 4 (by kernel_rfl) 120 rfl)
          have t123 : a.tmps[123]?.getD undef = .int .i64 (a2 : Int) := Reg.slot_val (hd 7 (by kernel_rfl) 123 rfl)
          go_simp
          exact hK _ _ rfl HC.out (Below.refl _ _)
         ·rintro a w1 HC hx hd K hK
          replace HC := Lib.hid HC
          have y9 := cell_below HC.out.bel RC.out
          have t124 : a.tmps[124]?.getD undef = .pointer (some ⟨br, orr + a2, none⟩) := Reg.slot_val (hd 8 (by kernel_rfl) 124 rfl)
          go_simp
          exact hK _ _ rfl HC.out (Below.refl _ _)
         ·rintro a w1 HC hx hd K hK
          replace HC := Lib.hid HC
          have t119 : a.tmps[119]?.getD undef = .slice (some ⟨bp, op, none⟩) B.pl B.pc := Reg.slot_val (hd 3 (by kernel_rfl) 119 rfl)
          have t125 : a.tmps[125]?.getD undef = .int .i64 (mc : Int) := Reg.slot_val (hd 9 (by kernel_rfl) 125 rfl)
          go_simp
          exact hK _ _ rfl HC.out (Below.refl _ _)
         ·rintro a w1 HC hx hd K hK
          replace HC := Lib.hid HC
          have y0 := cell_below HC.out.bel DC.out.1
          have y1 := cell_below HC.out.bel DC.out.2.1
          have y2 := cell_below HC.out.bel DC.out.2.2
          have t126 : a.tmps[126]?.getD undef = .pointer (some ⟨bp, op + mc * 3, none⟩) := Reg.slot_val (hd 10 (by kernel_rfl) 126 rfl)
          go_simp
          exact hK _ _ rfl HC.out (Below.refl _ _)
         ·rintro a w1 HC hx hd K hK
          replace HC := Lib.hid HC
          have t3 : a.tmps[3]?.getD undef = .pointer (some ⟨pb, 0, none⟩) := Reg.slot_val (hx 3 (by kernel_rfl))
          go_simp
          exact hK _ _ rfl HC.out (Below.refl _ _)
         ·rintro a w1 HC hx hd K hK
          replace HC := Lib.hid HC
          have t128 : a.tmps[128]?.getD undef = .pointer (some ⟨pb, 0, none⟩) := Reg.slot_val (hd 12 (by kernel_rfl) 128 rfl)
          go_simp
          exact hK _ _ rfl HC.out (Below.refl _ _)
         ·rintro a w1 HC hx hd K hK
          replace HC := Lib.hid HC
          have t129 : a.tmps[129]?.getD undef = .pointer (some ⟨pb, 0, none⟩) := Reg.slot_val (hd 13 (by kernel_rfl) 129 rfl)
          go_simp
          exact hK _ _ rfl HC.out (Below.refl _ _)
         ·rintro a w1 HC hx hd K hK
          replace HC := Lib.hid HC
          have y9 := cell_below HC.out.bel HA0.out
          have t130 : a.tmps[130]?.getD undef = .pointer (some ⟨pb, 0, none⟩) := Reg.slot_val (hd 14 (by kernel_rfl) 130 rfl)
          go_simp
          exact hK _ _ rfl HC.out (Below.refl _ _)
         ·rintro a w1 HC hx hd K hK
          replace HC := Lib.hid HC
          have t10 : a.tmps[10]?.getD undef = .slice (some ⟨br, orr, none⟩) 3 q1 := Reg.slot_val (hx 10 (by kernel_rfl))
          go_simp
          exact hK _ _ rfl HC.out (Below.refl _ _)
         ·rintro a w1 HC hx hd K hK
          replace HC := Lib.hid HC
          have t13 : a.tmps[13]?.getD undef = .int .i64 (j : Int) := Reg.slot_val (hx 13 (by kernel_rfl))
          go_simp
          exact hK _ _ rfl HC.out (Below.refl _ _)
         ·rintro a w1 HC hx hd K hK
          replace HC := Lib.hid HC
          have t133 : a.tmps[133]?.getD undef = .int .i64 (j : Int) := Reg.slot_val (hd 17 (by kernel_rfl) 133 rfl)
          go_simp
          exact hK _ _ rfl HC.out (Below.refl _ _)
         ·rintro a w1 HC hx hd K hK
          replace HC := Lib.hid HC
          have t134 : a.tmps[134]?.getD undef = .int .i64 ((j : Int) + 1) := Reg.slot_val (hd 18 (by kernel_rfl) 134 rfl)
          go_simp
          exact hK _ _ rfl HC.out (Below.refl _ _)
         ·rintro a w1 HC hx hd K hK
          replace HC := Lib.hid HC
          have t132 : a.tmps[132]?.getD undef = .slice (some ⟨br, orr, none⟩) 3 q1 := Reg.slot_val (hd 16 (by kernel_rfl) 132 rfl)
          have t135 : a.tmps[135]?.getD undef = .int .i64 (a1 : Int) := Reg.slot_val (hd 19 (by kernel_rfl) 135 rfl)
          go_simp
          exact hK _ _ rfl HC.out (Below.refl _ _)
         ·rintro a w1 HC hx hd K hK
          replace HC := Lib.hid HC
          have y9 := cell_below HC.out.bel RB.out
          have t136 : a.tmps[136]?.getD undef = .pointer (some ⟨br, orr + a1, none⟩) := Reg.slot_val (hd 20 (by kernel_rfl) 136 rfl)
          go_simp
          exact hK _ _ rfl HC.out (Below.refl _ _)
         ·rintro a w1 HC hx hd K hK
          replace HC := Lib.hid HC
          have t131 : a.tmps[131]?.getD undef = .slice (some ⟨bp, op, none⟩) B.pl B.pc := Reg.slot_val (hd 15 (by kernel_rfl) 131 rfl)
          have t137 : a.tmps[137]?.getD undef = .int .i64 (mb : Int) := Reg.slot_val (hd 21 (by kernel_rfl) 137 rfl)
          go_simp
          exact hK _ _ rfl HC.out (Below.refl _ _)
         ·rintro a w1 HC hx hd K hK
          replace HC := Lib.hid HC
          have y0 := cell_below HC.out.bel DB.out.1
          have y1 := cell_below HC.out.bel DB.out.2.1
          have y2 := cell_below HC.out.bel DB.out.2.2
          have t138 : a.tmps[138]?.getD undef = .pointer (some ⟨bp, op + mb * 3, none⟩) := Reg.slot_val (hd 22 (by kernel_rfl) 138 rfl)
          go_simp
          exact hK _ _ rfl HC.out (Below.refl _ _)
         ·rintro a w1 HC hx hd K hK
          replace HC := Lib.hid HC
          have t127 : a.tmps[127]?.getD undef = vv pC qC rC := Reg.slot_val (hd 11 (by kernel_rfl) 127 rfl)
          have t139 : a.tmps[139]?.getD undef = vv pB qB rB := Reg.slot_val (hd 23 (by kernel_rfl) 139 rfl)
          go_simp
          refine (l01Less _ _ _ _ _ _ _ _ _ _ _ _ _ FC.out.1 FC.out.2.1 FC.out.2.2 FB.out.1 FB.out.2.1 FB.out.2.2).mono ?_
          rintro en w2 ⟨p', q', r', rfl, fp', fq', fr', hB2⟩
          exact hK _ _ ⟨p', q', r', rfl, fp', fq', fr'⟩ (HC.out.call hB2) hB2
         ·rintro a w1 HC hx hd K hK
          replace HC := Lib.hid HC
          go_simp
          have hB2 : Below w1.heap.size w1 (w1.alloc (.cells #[.float .f32 0, .float .f32 0, .float .f32 0] 42)) := (Below.refl _ _).alloc (Nat.le_refl _) _
          exact hK _ _ ⟨w1.heap.size, rfl, HC.out.box, HC.out.bel.size, fun x9 hx9 => (HC.out.2.1 x9.1 x9.2 hx9).2.2.1⟩ (HC.out.call hB2) hB2
         ·rintro a w1 HC hx hd K hK
          replace HC := Lib.hid HC
          obtain ⟨b9, g14, hS9, hb9, hl9⟩ := hd 25 (by kernel_rfl) 14 rfl
          have t14 := Reg.slot_val g14
          clear g14
          have z0 := (hS9.mem (.head _)) 0 _ rfl
          have z1 := (hS9.mem (.head _)) 1 _ rfl
          have z2 := (hS9.mem (.head _)) 2 _ rfl
          have k0 := hS9.free (.head _) 0
          have k1 := hS9.free (.head _) 1
          have k2 := hS9.free (.head _) 2
          have HS9 := Lib.hid (And.intro hS9 (And.intro hb9 hl9))
          clear hS9 hb9 hl9
          obtain ⟨p140, q140, r140, g140, f140⟩ := hd 24 (by kernel_rfl) 140 rfl
          have t140 := Reg.slot_val g140
          clear g140
          go_simp
          exact hK undef _ ⟨b9, _, _, _, t14, f140, ((HS9.out.1.setB HS9.out.2.1 HS9.out.2.2 0 _).setB HS9.out.2.1 HS9.out.2.2 1 _).setB HS9.out.2.1 HS9.out.2.2 2 _⟩
        ·rintro f' W5 hD hT
         obtain ⟨U, sx, sy, sz, e14, hF8, hS⟩ := hT 26 rfl (Nat.le_of_ble_eq_true rfl)
         have g14 : f' 14 = .pointer (some ⟨U, 0, none⟩) := e14
         simp only [Reg.mixL, Nat.zero_add, Nat.reduceAdd, g14]
         have S5 := Lib.hid hS
         have HSI := Lib.hid hF8
         clear hD hT e14 hF8 hS g14 S4
         go_wp2_with fail
         refine Reg3.wp_region_mix (C := St w ((U, [.float .f32 sx, .float .f32 sy, .float .f32 sz]) :: [(V, [.float .f32 nx, .float .f32 ny, .float .f32 nz])]) g XJ) (G := fun _ _ => True) (R := fun i v w' => match i with | 0 => v = .slice (some ⟨g, 0, none⟩) B.pl B.pl | 1 => v = .slice (some ⟨br, orr, none⟩) 3 q1 | 2 => v = .int .i64 (j : Int) | 3 => v = .pointer (some ⟨br, orr + j, none⟩) | 4 => v = .int .i64 (ma : Int) | 5 => v = .slice (some ⟨g, 0, none⟩) B.pl B.pl | 6 => v = .slice (some ⟨br, orr, none⟩) 3 q1 | 7 => v = .int .i64 (j : Int) | 8 => v = .pointer (some ⟨br, orr + j, none⟩) | 9 => v = .int .i64 (ma : Int) | 10 => v = .pointer (some ⟨g, ma * 3, none⟩) | 11 => ∃ p q r, v = vv p q r ∧ F3 p q r (XJ.getD ma c0) | 12 => v = vv nx ny nz | 13 => v = vv sx sy sz | 14 => ∃ p q r, v = vv p q r ∧ F3 p q r (crossC N (lessC (c.cs.getD mc c0) (c.cs.getD mb c0))) | 15 => v = .float .f32 pv | 16 => ∃ p q r, v = vv p q r ∧ F3 p q r (scaleC (crossC N (lessC (c.cs.getD mc c0) (c.cs.getD mb c0))) PV) | 17 => ∃ p q r, v = vv p q r ∧ F3 p q r (plusC (XJ.getD ma c0) (scaleC (crossC N (lessC (c.cs.getD mc c0) (c.cs.getD mb c0))) PV)) | 18 => v = .pointer (some ⟨g, ma * 3, none⟩) | _ => True) (T := fun _ _ w' => St w ((U, [.float .f32 sx, .float .f32 sy, .float .f32 sz]) :: [(V, [.float .f32 nx, .float .f32 ny, .float .f32 nz])]) g (addAt XJ ma (scaleC (crossC N (lessC (c.cs.getD mc c0) (c.cs.getD mb c0))) PV)) w') [false, false, false, false, false, false, false, false, false, false, false, false, false, false, false, false, false, false, false, false, false, false, false, false, false, false, false, false, false, false, false, false, false, false, false, false, false, false, false, false, false, false, false, false, false, false, false, false, false, false, false, false, false, false, false, false, false, false, false, false, false, false, false, false, false, false, false, false, false, false, false, false, false, false, false, false, false, false, false, false, false, false, false, false, false, false, false, false, false, false, false, false, false, false, false, false, false, false, false, false, false, false, false, false, false, false, false, false, false, false, false, false, false, false, false, false, false, false, false, false, false, false, false, false, false, false, false, false, false, false, false, false, false, false, false, false, false, false, false, false, false, true, true, true, true, true, true, true, true, true, true, true, true, true, true, true, true, true, true, true, false, false, false, false, false, false, false, false, false, false, false, false, false, false, false, false, false, false, false, false, false, false, false, false, false, false, false, false, false, false, false, false, false, false, false, false, false, false, false, false, false, false, false, false, false, false, false, false, false, false, false, false, false, false, false, false, false, false, false, false, false, false, false, false, false, false, false, false, false, false, false, false, false, false, false, false, false, false, false, false, false, false, false, false, false, false, false, false, false, false, false, false, false, false, false, false, false, false, false, false, false, false, false, false, false, false, false, false, false, false, false, false, false, false, false, false, false, false, false, false]
          (by kernel_rfl) (by kernel_rfl) (by kernel_rfl) (fun _ _ _ _ _ _ h => h) (S5.out.drewN 1) ?_ ?_
         ·refine ⟨Reg3.Obl.mk ?_, Reg3.Obl.mk ?_, Reg3.Obl.mk ?_, Reg3.Obl.mk ?_, Reg3.Obl.mk ?_, Reg3.Obl.mk ?_, Reg3.Obl.mk ?_, Reg3.Obl.mk ?_, Reg3.Obl.mk ?_, Reg3.Obl.mk ?_, Reg3.Obl.mk ?_, Reg3.Obl.mk ?_, Reg3.Obl.mk ?_, Reg3.Obl.mk ?_, Reg3.Obl.mk ?_, Reg3.Obl.mk ?_, Reg3.Obl.mk ?_, Reg3.Obl.mk ?_, Reg3.Obl.mk ?_, Reg3.Obl.mk ?_, trivial⟩
          ·rintro a w1 HC hx hd K hK
           replace HC := Lib.hid HC
           have t4 : a.tmps[4]?.getD undef = .slice (some ⟨g, 0, none⟩) B.pl B.pl := Reg.slot_val (hx 4 (by kernel_rfl))
           go_simp
           exact hK _ _ (fun _ => rfl) (fun h => by cases h) (fun _ => HC.out) trivial
          ·rintro a w1 HC hx hd K hK
           replace HC := Lib.hid HC
           have t10 : a.tmps[10]?.getD undef = .slice (some ⟨br, orr, none⟩) 3 q1 := Reg.slot_val (hx 10 (by kernel_rfl))
           go_simp
           exact hK _ _ (fun _ => rfl) (fun h => by cases h) (fun _ => HC.out) trivial
          ·rintro a w1 HC hx hd K hK
           replace HC := Lib.hid HC
           have t13 : a.tmps[13]?.getD undef = .int .i64 (j : Int) := Reg.slot_val (hx 13 (by kernel_rfl))
           go_simp
           exact hK _ _ (fun _ => rfl) (fun h => by cases h) (fun _ => HC.out) trivial
          ·rintro a w1 HC hx hd K hK
           replace HC := Lib.hid HC
           have t142 : a.tmps[142]?.getD undef = .slice (some ⟨br, orr, none⟩) 3 q1 := Reg.slot_val (hd 1 (by kernel_rfl) 142 rfl)
           have t143 : a.tmps[143]?.getD undef = .int .i64 (j : Int) := Reg.slot_val (hd 2 (by kernel_rfl) 143 rfl)
           go_simp
           exact hK _ _ (fun _ => rfl) (fun h => by cases h) (fun _ => HC.out) trivial
          ·rintro a w1 HC hx hd K hK
           replace HC := Lib.hid HC
           have y9 := cell_below HC.out.bel RA.out
           have t144 : a.tmps[144]?.getD undef = .pointer (some ⟨br, orr + j, none⟩) := Reg.slot_val (hd 3 (by kernel_rfl) 144 rfl)
           go_simp
           exact hK _ _ (fun _ => rfl) (fun h => by cases h) (fun _ => HC.out) trivial
          ·rintro a w1 HC hx hd K hK
           replace HC := Lib.hid HC
           have t4 : a.tmps[4]?.getD undef = .slice (some ⟨g, 0, none⟩) B.pl B.pl := Reg.slot_val (hx 4 (by kernel_rfl))
           go_simp
           exact hK _ _ (fun _ => rfl) (fun h => by cases h) (fun _ => HC.out) trivial
          ·rintro a w1 HC hx hd K hK
           replace HC := Lib.hid HC
           have t10 : a.tmps[10]?.getD undef = .slice (some ⟨br, orr, none⟩) 3 q1 := Reg.slot_val (hx 10 (by kernel_rfl))
           go_simp
           exact hK _ _ (fun _ => rfl) (fun h => by cases h) (fun _ => HC.out) trivial
          ·rintro a w1 HC hx hd K hK
           replace HC := Lib.hid HC
           have t13 : a.tmps[13]?.getD undef = .int .i64 (j : Int) := Reg.slot_val (hx 13 (by kernel_rfl))
           go_simp
           exact hK _ _ (fun _ => rfl) (fun h => by cases h) (fun _ => HC.out) trivial
          ·rintro a w1 HC hx hd K hK
           replace HC := Lib.hid HC
           have t147 : a.tmps[147]?.getD undef = .slice (some ⟨br, orr, none⟩) 3 q1 := Reg.slot_val (hd 6 (by kernel_rfl) 147 rfl)
           have t148 : a.tmps[148]?.getD undef = .int .i64 (j : Int) := Reg.slot_val (hd 7 (by kernel_rfl) 148 rfl)
           go_simp
           exact hK _ _ (fun _ => rfl) (fun h => by cases h) (fun _ => HC.out) trivial
          ·rintro a w1 HC hx hd K hK
           replace HC := Lib.hid HC
           have y9 := cell_below HC.out.bel RA.out
           have t149 : a.tmps[149]?.getD undef = .pointer (some ⟨br, orr + j, none⟩) := Reg.slot_val (hd 8 (by kernel_rfl) 149 rfl)
           go_simp
           exact hK _ _ (fun _ => rfl) (fun h => by cases h) (fun _ => HC.out) trivial
          ·rintro a w1 HC hx hd K hK
           replace HC := Lib.hid HC
           have t146 : a.tmps[146]?.getD undef = .slice (some ⟨g, 0, none⟩) B.pl B.pl := Reg.slot_val (hd 5 (by kernel_rfl) 146 rfl)
           have t150 : a.tmps[150]?.getD undef = .int .i64 (ma : Int) := Reg.slot_val (hd 9 (by kernel_rfl) 150 rfl)
           go_simp
           exact hK _ _ (fun _ => rfl) (fun h => by cases h) (fun _ => HC.out) trivial
          ·rintro a w1 HC hx hd K hK
           replace HC := Lib.hid HC
           obtain ⟨u0, u1, u2, ⟨z0, z1, z2⟩, fu⟩ := HC.out.own.at HMX.out
           have t151 : a.tmps[151]?.getD undef = .pointer (some ⟨g, ma * 3, none⟩) := Reg.slot_val (hd 10 (by kernel_rfl) 151 rfl)
           go_simp
           exact hK _ _ (fun _ => ⟨u0, u1, u2, rfl, fu⟩) (fun h => by cases h) (fun _ => HC.out) trivial
          ·rintro a w1 HC hx hd K hK
           replace HC := Lib.hid HC
           have x0 := (HC.out.mem (.tail _ (.head _))) 0 _ rfl
           have x1 := (HC.out.mem (.tail _ (.head _))) 1 _ rfl
           have x2 := (HC.out.mem (.tail _ (.head _))) 2 _ rfl
           have t11 : a.tmps[11]?.getD undef = .pointer (some ⟨V, 0, none⟩) := Reg.slot_val (hx 11 (by kernel_rfl))
           go_simp
           exact hK _ _ (fun _ => rfl) (fun h => by cases h) (fun _ => HC.out) trivial
          ·rintro a w1 HC hx hd K hK
           replace HC := Lib.hid HC
           have x0 := (HC.out.mem (.head _)) 0 _ rfl
           have x1 := (HC.out.mem (.head _)) 1 _ rfl
           have x2 := (HC.out.mem (.head _)) 2 _ rfl
           have t14 : a.tmps[14]?.getD undef = .pointer (some ⟨U, 0, none⟩) := Reg.slot_val (hx 14 (by kernel_rfl))
           go_simp
           exact hK _ _ (fun _ => rfl) (fun h => by cases h) (fun _ => HC.out) trivial
          ·rintro a w1 HC hx hd K hK
           replace HC := Lib.hid HC
           have t153 : a.tmps[153]?.getD undef = vv nx ny nz := Reg.slot_val (hd 12 (by kernel_rfl) 153 rfl)
           have t154 : a.tmps[154]?.getD undef = vv sx sy sz := Reg.slot_val (hd 13 (by kernel_rfl) 154 rfl)
           go_simp
           refine (l01Cross _ _ _ _ _ _ _ _ _ _ _ _ _ HN.out.1 HN.out.2.1 HN.out.2.2 HSI.out.1 HSI.out.2.1 HSI.out.2.2).mono ?_
           rintro en w2 ⟨p', q', r', rfl, fp', fq', fr', hB2⟩
           exact hK _ _ (fun _ => ⟨p', q', r', rfl, fp', fq', fr'⟩) (fun h => by cases h) (fun _ => HC.out.call hB2) trivial
          ·rintro a w1 HC hx hd K hK
           replace HC := Lib.hid HC
           have t12 : a.tmps[12]?.getD undef = .float .f32 pv := Reg.slot_val (hx 12 (by kernel_rfl))
           go_simp
           exact hK _ _ (fun _ => rfl) (fun h => by cases h) (fun _ => HC.out) trivial
          ·rintro a w1 HC hx hd K hK
           replace HC := Lib.hid HC
           obtain ⟨p155, q155, r155, g155, f155⟩ := hd 14 (by kernel_rfl) 155 rfl
           have t155 := Reg.slot_val g155
           clear g155
           have t156 : a.tmps[156]?.getD undef = .float .f32 pv := Reg.slot_val (hd 15 (by kernel_rfl) 156 rfl)
           go_simp
           refine (l01Scale _ _ _ _ _ _ _ _ _ f155.1 f155.2.1 f155.2.2 HPV.out).mono ?_
           rintro en w2 ⟨p', q', r', rfl, fp', fq', fr', hB2⟩
           exact hK _ _ (fun _ => ⟨p', q', r', rfl, fp', fq', fr'⟩) (fun h => by cases h) (fun _ => HC.out.call hB2) trivial
          ·rintro a w1 HC hx hd K hK
           replace HC := Lib.hid HC
           obtain ⟨p152, q152, r152, g152, f152⟩ := hd 11 (by kernel_rfl) 152 rfl
           have t152 := Reg.slot_val g152
           clear g152
           obtain ⟨p157, q157, r157, g157, f157⟩ := hd 16 (by kernel_rfl) 157 rfl
           have t157 := Reg.slot_val g157
           clear g157
           go_simp
           refine (l01Add _ _ _ _ _ _ _ _ _ _ _ _ _ f152.1 f152.2.1 f152.2.2 f157.1 f157.2.1 f157.2.2).mono ?_
           rintro en w2 ⟨p', q', r', rfl, fp', fq', fr', hB2⟩
           exact hK _ _ (fun _ => ⟨p', q', r', rfl, fp', fq', fr'⟩) (fun h => by cases h) (fun _ => HC.out.call hB2) trivial
          ·rintro a w1 HC hx hd K hK
           replace HC := Lib.hid HC
           have t141 : a.tmps[141]?.getD undef = .slice (some ⟨g, 0, none⟩) B.pl B.pl := Reg.slot_val (hd 0 (by kernel_rfl) 141 rfl)
           have t145 : a.tmps[145]?.getD undef = .int .i64 (ma : Int) := Reg.slot_val (hd 4 (by kernel_rfl) 145 rfl)
           go_simp
           exact hK _ _ (fun _ => rfl) (fun h => by cases h) (fun _ => HC.out) trivial
          ·rintro a w1 HC hx hd K hK
           replace HC := Lib.hid HC
           obtain ⟨u0, u1, u2, ⟨z0, z1, z2⟩, fu⟩ := HC.out.own.at HMX.out
           have k0 := HC.out.own.2.1 (ma * 3)
           have k1 := HC.out.own.2.1 (ma * 3 + 1)
           have k2 := HC.out.own.2.1 (ma * 3 + 2)
           have t159 : a.tmps[159]?.getD undef = .pointer (some ⟨g, ma * 3, none⟩) := Reg.slot_val (hd 18 (by kernel_rfl) 159 rfl)
           obtain ⟨p158, q158, r158, g158, f158⟩ := hd 17 (by kernel_rfl) 158 rfl
           have t158 := Reg.slot_val g158
           clear g158
           go_simp
           exact hK undef _ (fun h => absurd rfl h) (fun _ => HC.out.put HMX.out f158) (fun h => absurd rfl h) trivial
         ·rintro f' W6 hR hT
          have h6 := hT 19 rfl (Nat.le_of_ble_eq_true rfl)
          simp only [Reg.mixL, Nat.zero_add, Nat.reduceAdd]
          have S6 : Hid (St w [(V, [.float .f32 nx, .float .f32 ny, .float .f32 nz])] g (filmJ c.cs X tk PV (j + 1)) W6) := Lib.hid (by rw [HST.out]; exact h6.drop)
          clear hR hT h6 S5
          go_wp2
          go_roundw
          case rel => exact ⟨j + 1, by omega, by go_num, S6.out⟩
          case measure => simp [intOf]; omega
       ·obtain rfl : j = 3 := by omega
        have S6 : Hid (St w [] g (addsF c.cs X0 (es.take (B.sl + (k + 1)))) wr) := Lib.hid (by
         have h5 := S4.out.drop
         rw [show B.sl + (k + 1) = B.sl + k + 1 by omega, HKS.out, HE.out, ← filmJ_3, hNN, hGA]
         exact h5)
        have HLE := HLEN.out
        clear S4
        go_wp2
        go_roundw
        case rel => exact ⟨k + 1, by omega, by go_num, S6.out⟩
        case measure => simp [intOf]; omega
    ·obtain rfl : k = B.tl := by omega
     go_wp2_with fail
     refine (HHG.out wr S1.out.bel).mono ?_
     rintro e V0 ⟨⟨v, rfl, hO⟩, hBV⟩
     obtain ⟨ha, hc, rfl, hI⟩ := hO.is rfl (fun j hj => (HRH.out j hj).2.1)
     have hLT := lt_of_owns hO
     have HI := Lib.hid hI
     have HLT := Lib.hid hLT
     have hsl := S1.out.own.2.2
     have SV := Lib.hid (S1.out.call hBV)
     generalize hlo : wr.heap.size = lo at *
     obtain ⟨S, hS⟩ : ∃ S : Nat → Prop, S = fun b => lo ≤ b ∧ b < V0.heap.size := ⟨_, rfl⟩
     have HSL : Hid (¬ S g) := Lib.hid (by rw [hS]; show ¬ (lo ≤ g ∧ g < V0.heap.size); omega)
     have HSS : Hid (∀ b, lo ≤ b → b < V0.heap.size → S b) := Lib.hid (fun b h1 h2 => by rw [hS]; exact ⟨h1, h2⟩)
     clear hO hI hLT hBV hS hsl S1 hlo
     go_wp2
     go_loopw [165] (fun i w' => ∃ k : Nat, k ≤ hs.length ∧ i = .int .i64 k ∧ Aside (St w [] g (addsF c.cs X0 (es.take (B.sl + B.tl + k))) w' ∧ Agree S V0 w')) (fun i _ => hs.length - (intOf i).toNat)
     case atStart => exact ⟨0, Nat.zero_le _, rfl, SV.out, Agree.refl _ _⟩
     case round =>
      clear SV
      obtain ⟨k, hk, rfl, hA⟩ := hrel
      obtain ⟨hA1, hA2⟩ := hA.out
      have S1 := Lib.hid hA1
      have HAG := Lib.hid hA2
      clear hA hA1 hA2
      by_cases hlt3 : k < hs.length
      ·obtain ⟨bt, ot, rfl, hrow⟩ := HI.out.some (by omega)
       obtain ⟨r1, n1, q1, cr, ir⟩ := hrow k hlt3
       obtain ⟨h4, _, hin⟩ := HRH.out k hlt3
       have hn1 : n1 = 4 := ir.1.symm.trans h4
       subst hn1
       obtain ⟨br, orr, rfl, hcell⟩ := ir.some (by omega)
       obtain ⟨R, eR, u1, u2, u3⟩ := HLT.out _ rfl
       cases eR
       obtain ⟨b', m', c', hc', hb'⟩ := u3 k hlt3
       have cr' := cr
       rw [Nat.zero_add, hc'] at cr'
       cases cr'
       obtain ⟨F', o', eF, v1', v2'⟩ := hb' _ rfl
       cases eF
       have HSB := Lib.hid (HSS.out _ v1' v2')
       have HSR := Lib.hid (HSS.out _ u1 u2)
       obtain ⟨m0, hm0, hm0'⟩ := inB_nat (hin 0 (by decide))
       obtain ⟨m1, hm1, hm1'⟩ := inB_nat (hin 1 (by decide))
       obtain ⟨m2, hm2, hm2'⟩ := inB_nat (hin 2 (by decide))
       obtain ⟨m3, hm3, hm3'⟩ := inB_nat (hin 3 (by decide))
       have R0' := hcell 0 (by omega)
       have R1' := hcell 1 (by omega)
       have R2' := hcell 2 (by omega)
       have R3' := hcell 3 (by omega)
       rw [hm0, Nat.add_zero] at R0'
       rw [hm1] at R1'
       rw [hm2] at R2'
       rw [hm3] at R3'
       have HR0 := Lib.hid R0'
       have HR1 := Lib.hid R1'
       have HR2 := Lib.hid R2'
       have HR3 := Lib.hid R3'
       have HE := Lib.hid (E3.out k hlt3)
       have HXL : Hid ((addsF c.cs X0 (List.take (B.sl + B.tl + k) es)).length = B.pl) := Lib.hid (by rw [addsF_len]; exact HZ.out)
       have HKS := Lib.hid (addsF_s c.cs X0 es (show B.sl + B.tl + k < es.length by have := EL.out; omega))
       generalize hX : addsF c.cs X0 (List.take (B.sl + B.tl + k) es) = X at *
       have HAD := Lib.hid (add_hi (cs := c.cs) (X := X) (b := c.bend) hm0 hm1 hm2 hm3)
       have HBE := Lib.hid H.out.2.2.2.2.2.1
       have hk0 : (0 : Int) ≤ (k : Int) := by omega
       have hk1 : (k : Int) < (hs.length : Int) := by omega
       have hn0 : (0 : Int) ≤ (m0 : Int) ∧ (m0 : Int) < (B.pl : Int) := by omega
       have hn1' : (0 : Int) ≤ (m1 : Int) ∧ (m1 : Int) < (B.pl : Int) := by omega
       have hn2 : (0 : Int) ≤ (m2 : Int) ∧ (m2 : Int) < (B.pl : Int) := by omega
       have hn3 : (0 : Int) ≤ (m3 : Int) ∧ (m3 : Int) < (B.pl : Int) := by omega
       rw [Nat.zero_add] at cr
       have cw := HAG.out.cell _ _ _ HSR.out cr
       clear hrow ir hcell hin h4 hm0 hm1 hm2 hm3 R0' R1' R2' R3' u3 hc' hb' cr
       go_wp2_with fail
       clear cw
       refine (l03Bent pb br orr q1 m0 m1 m2 m3 B.pa B.pl B.pc c.cs wr (cell_below S1.out.bel (HA.out 0 _ rfl)) (HAG.out.cell _ _ _ HSB.out HR0.out) (HAG.out.cell _ _ _ HSB.out HR1.out) (HAG.out.cell _ _ _ HSB.out HR2.out) (HAG.out.cell _ _ _ HSB.out HR3.out) (H.out.below S1.out.bel).1 hm0' hm1' hm2' hm3').mono ?_
       rintro e w2 ⟨nx, ny, nz, rfl, hN, hB2⟩
       generalize lessC (plusC (c.cs.getD m2 c0) (c.cs.getD m3 c0)) (plusC (c.cs.getD m0 c0) (c.cs.getD m1 c0)) = N at *
       have S2' : St w [(w2.heap.size, [.float .f32 nx, .float .f32 ny, .float .f32 nz])] g X (w2.alloc (.cells #[.float .f32 nx, .float .f32 ny, .float .f32 nz] 42)) := (S1.out.call hB2).box
       have S2 := Lib.hid S2'
       have A2 : Hid (Agree S V0 (w2.alloc (.cells #[.float .f32 nx, .float .f32 ny, .float .f32 nz] 42))) := Lib.hid ((HAG.out.trans (Agree.of_below hB2)).trans (Agree.of_below ((Below.refl _ _).alloc (Nat.le_refl _) _)))
       have HN := Lib.hid hN
       have HM0 : Hid (m0 < X.length) := Lib.hid (by have := HXL.out; omega)
       clear hB2 S2' hN S1 HAG
       go_wp2_with fail
       generalize (w2.alloc (.cells #[.float .f32 nx, .float .f32 ny, .float .f32 nz] 42)) = W2 at *
       generalize w2.heap.size = V at *
       refine Reg3.wp_region_mix (C := fun w' => St w [(V, [.float .f32 nx, .float .f32 ny, .float .f32 nz])] g X w' ∧ Agree S V0 w') (G := fun _ _ => True) (R := fun i v w' => match i with | 0 => v = .slice (some ⟨g, 0, none⟩) B.pl B.pl | 1 => v = .slice (some ⟨br, orr, none⟩) 4 q1 | 2 => v = .pointer (some ⟨br, orr, none⟩) | 3 => v = .int .i64 (m0 : Int) | 4 => v = .slice (some ⟨g, 0, none⟩) B.pl B.pl | 5 => v = .slice (some ⟨br, orr, none⟩) 4 q1 | 6 => v = .pointer (some ⟨br, orr, none⟩) | 7 => v = .int .i64 (m0 : Int) | 8 => v = .pointer (some ⟨g, m0 * 3, none⟩) | 9 => ∃ p q r, v = vv p q r ∧ F3 p q r (X.getD m0 c0) | 10 => v = vv nx ny nz | 11 => v = .pointer (some ⟨pb, 0, none⟩) | 12 => v = .pointer (some ⟨pb, 0, none⟩) | 13 => v = .pointer (some ⟨pb, 4, none⟩) | 14 => v = .float .f32 B.bend | 15 => ∃ p q r, v = vv p q r ∧ F3 p q r (scaleC N c.bend) | 16 => ∃ p q r, v = vv p q r ∧ F3 p q r (plusC (X.getD m0 c0) (scaleC N c.bend)) | 17 => v = .pointer (some ⟨g, m0 * 3, none⟩) | _ => True) (T := fun _ _ w' => St w [(V, [.float .f32 nx, .float .f32 ny, .float .f32 nz])] g (addAt X m0 (scaleC N c.bend)) w' ∧ Agree S V0 w') [false, false, false, false, false, false, false, false, false, false, false, false, false, false, false, false, false, false, false, false, false, false, false, false, false, false, false, false, false, false, false, false, false, false, false, false, false, false, false, false, false, false, false, false, false, false, false, false, false, false, false, false, false, false, false, false, false, false, false, false, false, false, false, false, false, false, false, false, false, false, false, false, false, false, false, false, false, false, false, false, false, false, false, false, false, false, false, false, false, false, false, false, false, false, false, false, false, false, false, false, false, false, false, false, false, false, false, false, false, false, false, false, false, false, false, false, false, false, false, false, false, false, false, false, false, false, false, false, false, false, false, false, false, false, false, false, false, false, false, false, false, false, false, false, false, false, false, false, false, false, false, false, false, false, false, false, false, false, false, false, false, false, false, false, false, false, false, false, false, false, false, false, false, false, false, true, true, true, true, true, true, true, true, true, true, true, true, true, true, true, true, true, true, false, false, false, false, false, false, false, false, false, false, false, false, false, false, false, false, false, false, false, false, false, false, false, false, false, false, false, false, false, false, false, false, false, false, false, false, false, false, false, false, false, false, false, false, false, false, false, false, false, false, false, false, false, false, false, false, false, false, false, false, false, false, false, false, false, false, false, false, false, false, false, false, false, false, false, false, false, false, false, false, false, false, false, false, false, false, false]
        (by kernel_rfl) (by kernel_rfl) (by kernel_rfl) (fun _ _ _ _ _ _ h => h) (⟨S2.out.drewN 1, A2.out.trans (Agree.of_below (below_drewN (Below.refl _ _) 1))⟩) ?_ ?_
       ·refine ⟨Reg3.Obl.mk ?_, Reg3.Obl.mk ?_, Reg3.Obl.mk ?_, Reg3.Obl.mk ?_, Reg3.Obl.mk ?_, Reg3.Obl.mk ?_, Reg3.Obl.mk ?_, Reg3.Obl.mk ?_, Reg3.Obl.mk ?_, Reg3.Obl.mk ?_, Reg3.Obl.mk ?_, Reg3.Obl.mk ?_, Reg3.Obl.mk ?_, Reg3.Obl.mk ?_, Reg3.Obl.mk ?_, Reg3.Obl.mk ?_, Reg3.Obl.mk ?_, Reg3.Obl.mk ?_, Reg3.Obl.mk ?_, trivial⟩
        ·rintro a w1 HC hx hd K hK
         replace HC := Lib.hid HC
         have t4 : a.tmps[4]?.getD undef = .slice (some ⟨g, 0, none⟩) B.pl B.pl := Reg.slot_val (hx 4 (by kernel_rfl))
         go_simp
         exact hK _ _ (fun _ => rfl) (fun h => by cases h) (fun _ => HC.out) trivial
        ·rintro a w1 HC hx hd K hK
         replace HC := Lib.hid HC
         have t17 : a.tmps[17]?.getD undef = .slice (some ⟨br, orr, none⟩) 4 q1 := Reg.slot_val (hx 17 (by kernel_rfl))
         go_simp
         exact hK _ _ (fun _ => rfl) (fun h => by cases h) (fun _ => HC.out) trivial
        ·rintro a w1 HC hx hd K hK
         replace HC := Lib.hid HC
         have t176 : a.tmps[176]?.getD undef = .slice (some ⟨br, orr, none⟩) 4 q1 := Reg.slot_val (hd 1 (by kernel_rfl) 176 rfl)
         go_simp
         exact hK _ _ (fun _ => rfl) (fun h => by cases h) (fun _ => HC.out) trivial
        ·rintro a w1 HC hx hd K hK
         replace HC := Lib.hid HC
         have x9 := HC.out.2.cell _ _ _ HSB.out HR0.out
         have t177 : a.tmps[177]?.getD undef = .pointer (some ⟨br, orr, none⟩) := Reg.slot_val (hd 2 (by kernel_rfl) 177 rfl)
         go_simp
         exact hK _ _ (fun _ => rfl) (fun h => by cases h) (fun _ => HC.out) trivial
        ·rintro a w1 HC hx hd K hK
         replace HC := Lib.hid HC
         have t4 : a.tmps[4]?.getD undef = .slice (some ⟨g, 0, none⟩) B.pl B.pl := Reg.slot_val (hx 4 (by kernel_rfl))
         go_simp
         exact hK _ _ (fun _ => rfl) (fun h => by cases h) (fun _ => HC.out) trivial
        ·rintro a w1 HC hx hd K hK
         replace HC := Lib.hid HC
         have t17 : a.tmps[17]?.getD undef = .slice (some ⟨br, orr, none⟩) 4 q1 := Reg.slot_val (hx 17 (by kernel_rfl))
         go_simp
         exact hK _ _ (fun _ => rfl) (fun h => by cases h) (fun _ => HC.out) trivial
        ·rintro a w1 HC hx hd K hK
         replace HC := Lib.hid HC
         have t180 : a.tmps[180]?.getD undef = .slice (some ⟨br, orr, none⟩) 4 q1 := Reg.slot_val (hd 5 (by kernel_rfl) 180 rfl)
         go_simp
         exact hK _ _ (fun _ => rfl) (fun h => by cases h) (fun _ => HC.out) trivial
        ·rintro a w1 HC hx hd K hK
         replace HC := Lib.hid HC
         have x9 := HC.out.2.cell _ _ _ HSB.out HR0.out
         have t181 : a.tmps[181]?.getD undef = .pointer (some ⟨br, orr, none⟩) := Reg.slot_val (hd 6 (by kernel_rfl) 181 rfl)
         go_simp
         exact hK _ _ (fun _ => rfl) (fun h => by cases h) (fun _ => HC.out) trivial
        ·rintro a w1 HC hx hd K hK
         replace HC := Lib.hid HC
         have t179 : a.tmps[179]?.getD undef = .slice (some ⟨g, 0, none⟩) B.pl B.pl := Reg.slot_val (hd 4 (by kernel_rfl) 179 rfl)
         have t182 : a.tmps[182]?.getD undef = .int .i64 (m0 : Int) := Reg.slot_val (hd 7 (by kernel_rfl) 182 rfl)
         go_simp
         exact hK _ _ (fun _ => rfl) (fun h => by cases h) (fun _ => HC.out) trivial
        ·rintro a w1 HC hx hd K hK
         replace HC := Lib.hid HC
         obtain ⟨u0, u1, u2, ⟨z0, z1, z2⟩, fu⟩ := HC.out.1.own.at HM0.out
         have t183 : a.tmps[183]?.getD undef = .pointer (some ⟨g, m0 * 3, none⟩) := Reg.slot_val (hd 8 (by kernel_rfl) 183 rfl)
         go_simp
         exact hK _ _ (fun _ => ⟨u0, u1, u2, rfl, fu⟩) (fun h => by cases h) (fun _ => HC.out) trivial
        ·rintro a w1 HC hx hd K hK
         replace HC := Lib.hid HC
         have x0 := (HC.out.1.mem (.head _)) 0 _ rfl
         have x1 := (HC.out.1.mem (.head _)) 1 _ rfl
         have x2 := (HC.out.1.mem (.head _)) 2 _ rfl
         have t18 : a.tmps[18]?.getD undef = .pointer (some ⟨V, 0, none⟩) := Reg.slot_val (hx 18 (by kernel_rfl))
         go_simp
         exact hK _ _ (fun _ => rfl) (fun h => by cases h) (fun _ => HC.out) trivial
        ·rintro a w1 HC hx hd K hK
         replace HC := Lib.hid HC
         have t0 : a.tmps[0]?.getD undef = .pointer (some ⟨pb, 0, none⟩) := Reg.slot_val (hx 0 (by kernel_rfl))
         go_simp
         exact hK _ _ (fun _ => rfl) (fun h => by cases h) (fun _ => HC.out) trivial
        ·rintro a w1 HC hx hd K hK
         replace HC := Lib.hid HC
         have t186 : a.tmps[186]?.getD undef = .pointer (some ⟨pb, 0, none⟩) := Reg.slot_val (hd 11 (by kernel_rfl) 186 rfl)
         go_simp
         exact hK _ _ (fun _ => rfl) (fun h => by cases h) (fun _ => HC.out) trivial
        ·rintro a w1 HC hx hd K hK
         replace HC := Lib.hid HC
         have t187 : a.tmps[187]?.getD undef = .pointer (some ⟨pb, 0, none⟩) := Reg.slot_val (hd 12 (by kernel_rfl) 187 rfl)
         go_simp
         exact hK _ _ (fun _ => rfl) (fun h => by cases h) (fun _ => HC.out) trivial
        ·rintro a w1 HC hx hd K hK
         replace HC := Lib.hid HC
         have y9 := cell_below HC.out.1.bel (HA.out 4 _ rfl)
         have t188 : a.tmps[188]?.getD undef = .pointer (some ⟨pb, 4, none⟩) := Reg.slot_val (hd 13 (by kernel_rfl) 188 rfl)
         go_simp
         exact hK _ _ (fun _ => rfl) (fun h => by cases h) (fun _ => HC.out) trivial
        ·rintro a w1 HC hx hd K hK
         replace HC := Lib.hid HC
         have t185 : a.tmps[185]?.getD undef = vv nx ny nz := Reg.slot_val (hd 10 (by kernel_rfl) 185 rfl)
         have t189 : a.tmps[189]?.getD undef = .float .f32 B.bend := Reg.slot_val (hd 14 (by kernel_rfl) 189 rfl)
         go_simp
         refine (l01Scale _ _ _ _ _ _ _ _ _ HN.out.1 HN.out.2.1 HN.out.2.2 HBE.out).mono ?_
         rintro en w2 ⟨p', q', r', rfl, fp', fq', fr', hB2⟩
         exact hK _ _ (fun _ => ⟨p', q', r', rfl, fp', fq', fr'⟩) (fun h => by cases h) (fun _ => ⟨HC.out.1.call hB2, HC.out.2.trans (Agree.of_below hB2)⟩) trivial
        ·rintro a w1 HC hx hd K hK
         replace HC := Lib.hid HC
         obtain ⟨p184, q184, r184, g184, f184⟩ := hd 9 (by kernel_rfl) 184 rfl
         have t184 := Reg.slot_val g184
         clear g184
         obtain ⟨p190, q190, r190, g190, f190⟩ := hd 15 (by kernel_rfl) 190 rfl
         have t190 := Reg.slot_val g190
         clear g190
         go_simp
         refine (l01Add _ _ _ _ _ _ _ _ _ _ _ _ _ f184.1 f184.2.1 f184.2.2 f190.1 f190.2.1 f190.2.2).mono ?_
         rintro en w2 ⟨p', q', r', rfl, fp', fq', fr', hB2⟩
         exact hK _ _ (fun _ => ⟨p', q', r', rfl, fp', fq', fr'⟩) (fun h => by cases h) (fun _ => ⟨HC.out.1.call hB2, HC.out.2.trans (Agree.of_below hB2)⟩) trivial
        ·rintro a w1 HC hx hd K hK
         replace HC := Lib.hid HC
         have t175 : a.tmps[175]?.getD undef = .slice (some ⟨g, 0, none⟩) B.pl B.pl := Reg.slot_val (hd 0 (by kernel_rfl) 175 rfl)
         have t178 : a.tmps[178]?.getD undef = .int .i64 (m0 : Int) := Reg.slot_val (hd 3 (by kernel_rfl) 178 rfl)
         go_simp
         exact hK _ _ (fun _ => rfl) (fun h => by cases h) (fun _ => HC.out) trivial
        ·rintro a w1 HC hx hd K hK
         replace HC := Lib.hid HC
         obtain ⟨u0, u1, u2, ⟨z0, z1, z2⟩, fu⟩ := HC.out.1.own.at HM0.out
         have k0 := HC.out.1.own.2.1 (m0 * 3)
         have k1 := HC.out.1.own.2.1 (m0 * 3 + 1)
         have k2 := HC.out.1.own.2.1 (m0 * 3 + 2)
         have t192 : a.tmps[192]?.getD undef = .pointer (some ⟨g, m0 * 3, none⟩) := Reg.slot_val (hd 17 (by kernel_rfl) 192 rfl)
         obtain ⟨p191, q191, r191, g191, f191⟩ := hd 16 (by kernel_rfl) 191 rfl
         have t191 := Reg.slot_val g191
         clear g191
         go_simp
         exact hK undef _ (fun h => absurd rfl h) (fun _ => ⟨HC.out.1.put HM0.out f191, ((HC.out.2.set HSL.out).set HSL.out).set HSL.out⟩) (fun h => absurd rfl h) trivial
       ·rintro f0 W5 hR hT
        obtain ⟨h6, h7⟩ := hT 18 rfl (Nat.le_of_ble_eq_true rfl)
        simp only [Reg.mixL, Nat.zero_add, Nat.reduceAdd]
        have T0 := Lib.hid h6
        have B0 := Lib.hid h7
        generalize hX6 : addAt X m0 (scaleC N c.bend) = X6 at *
        have HL0 : Hid (m1 < X6.length) := Lib.hid (by rw [← hX6, addAt_len]; have := HM0.out; have := HXL.out; omega)
        have H91 : Hid (X6.length = B.pl) := Lib.hid (by rw [← hX6, addAt_len]; exact HXL.out)
        clear hR hT h6 h7 S2 A2
        go_wp2_with fail
        refine Reg3.wp_region_mix (C := fun w' => St w [(V, [.float .f32 nx, .float .f32 ny, .float .f32 nz])] g X6 w' ∧ Agree S V0 w') (G := fun _ _ => True) (R := fun i v w' => match i with | 0 => v = .slice (some ⟨g, 0, none⟩) B.pl B.pl | 1 => v = .slice (some ⟨br, orr, none⟩) 4 q1 | 2 => v = .pointer (some ⟨br, orr + 1, none⟩) | 3 => v = .int .i64 (m1 : Int) | 4 => v = .slice (some ⟨g, 0, none⟩) B.pl B.pl | 5 => v = .slice (some ⟨br, orr, none⟩) 4 q1 | 6 => v = .pointer (some ⟨br, orr + 1, none⟩) | 7 => v = .int .i64 (m1 : Int) | 8 => v = .pointer (some ⟨g, m1 * 3, none⟩) | 9 => ∃ p q r, v = vv p q r ∧ F3 p q r (X6.getD m1 c0) | 10 => v = vv nx ny nz | 11 => v = .pointer (some ⟨pb, 0, none⟩) | 12 => v = .pointer (some ⟨pb, 0, none⟩) | 13 => v = .pointer (some ⟨pb, 4, none⟩) | 14 => v = .float .f32 B.bend | 15 => ∃ p q r, v = vv p q r ∧ F3 p q r (scaleC N c.bend) | 16 => ∃ p q r, v = vv p q r ∧ F3 p q r (plusC (X6.getD m1 c0) (scaleC N c.bend)) | 17 => v = .pointer (some ⟨g, m1 * 3, none⟩) | _ => True) (T := fun _ _ w' => St w [(V, [.float .f32 nx, .float .f32 ny, .float .f32 nz])] g (addAt X6 m1 (scaleC N c.bend)) w' ∧ Agree S V0 w') [false, false, false, false, false, false, false, false, false, false, false, false, false, false, false, false, false, false, false, false, false, false, false, false, false, false, false, false, false, false, false, false, false, false, false, false, false, false, false, false, false, false, false, false, false, false, false, false, false, false, false, false, false, false, false, false, false, false, false, false, false, false, false, false, false, false, false, false, false, false, false, false, false, false, false, false, false, false, false, false, false, false, false, false, false, false, false, false, false, false, false, false, false, false, false, false, false, false, false, false, false, false, false, false, false, false, false, false, false, false, false, false, false, false, false, false, false, false, false, false, false, false, false, false, false, false, false, false, false, false, false, false, false, false, false, false, false, false, false, false, false, false, false, false, false, false, false, false, false, false, false, false, false, false, false, false, false, false, false, false, false, false, false, false, false, false, false, false, false, false, false, false, false, false, false, false, false, false, false, false, false, false, false, false, false, false, false, false, false, false, false, false, false, true, true, true, true, true, true, true, true, true, true, true, true, true, true, true, true, true, true, false, false, false, false, false, false, false, false, false, false, false, false, false, false, false, false, false, false, false, false, false, false, false, false, false, false, false, false, false, false, false, false, false, false, false, false, false, false, false, false, false, false, false, false, false, false, false, false, false, false, false, false, false, false, false, false, false, false, false, false, false, false, false, false, false, false, false, false, false]
         (by kernel_rfl) (by kernel_rfl) (by kernel_rfl) (fun _ _ _ _ _ _ h => h) (⟨T0.out.drewN 1, B0.out.trans (Agree.of_below (below_drewN (Below.refl _ _) 1))⟩) ?_ ?_
        ·refine ⟨Reg3.Obl.mk ?_, Reg3.Obl.mk ?_, Reg3.Obl.mk ?_, Reg3.Obl.mk ?_, Reg3.Obl.mk ?_, Reg3.Obl.mk ?_, Reg3.Obl.mk ?_, Reg3.Obl.mk ?_, Reg3.Obl.mk ?_, Reg3.Obl.mk ?_, Reg3.Obl.mk ?_, Reg3.Obl.mk ?_, Reg3.Obl.mk ?_, Reg3.Obl.mk ?_, Reg3.Obl.mk ?_, Reg3.Obl.mk ?_, Reg3.Obl.mk ?_, Reg3.Obl.mk ?_, Reg3.Obl.mk ?_, trivial⟩
         ·rintro a w1 HC hx hd K hK
          replace HC := Lib.hid HC
          have t4 : a.tmps[4]?.getD undef = .slice (some ⟨g, 0, none⟩) B.pl B.pl := Reg.slot_val (hx 4 (by kernel_rfl))
          go_simp
          exact hK _ _ (fun _ => rfl) (fun h => by cases h) (fun _ => HC.out) trivial
         ·rintro a w1 HC hx hd K hK
          replace HC := Lib.hid HC
          have t17 : a.tmps[17]?.getD undef = .slice (some ⟨br, orr, none⟩) 4 q1 := Reg.slot_val (hx 17 (by kernel_rfl))
          go_simp
          exact hK _ _ (fun _ => rfl) (fun h => by cases h) (fun _ => HC.out) trivial
         ·rintro a w1 HC hx hd K hK
          replace HC := Lib.hid HC
          have t194 : a.tmps[194]?.getD undef = .slice (some ⟨br, orr, none⟩) 4 q1 := Reg.slot_val (hd 1 (by kernel_rfl) 194 rfl)
          go_simp
          exact hK _ _ (fun _ => rfl) (fun h => by cases h) (fun _ => HC.out) trivial
         ·rintro a w1 HC hx hd K hK
          replace HC := Lib.hid HC
          have x9 := HC.out.2.cell _ _ _ HSB.out HR1.out
          have t195 : a.tmps[195]?.getD undef = .pointer (some ⟨br, orr + 1, none⟩) := Reg.slot_val (hd 2 (by kernel_rfl) 195 rfl)
          go_simp
          exact hK _ _ (fun _ => rfl) (fun h => by cases h) (fun _ => HC.out) trivial
         ·rintro a w1 HC hx hd K hK
          replace HC := Lib.hid HC
          have t4 : a.tmps[4]?.getD undef = .slice (some ⟨g, 0, none⟩) B.pl B.pl := Reg.slot_val (hx 4 (by kernel_rfl))
          go_simp
          exact hK _ _ (fun _ => rfl) (fun h => by cases h) (fun _ => HC.out) trivial
         ·rintro a w1 HC hx hd K hK
          replace HC := Lib.hid HC
          have t17 : a.tmps[17]?.getD undef = .slice (some ⟨br, orr, none⟩) 4 q1 := Reg.slot_val (hx 17 (by kernel_rfl))
          go_simp
          exact hK _ _ (fun _ => rfl) (fun h => by cases h) (fun _ => HC.out) trivial
         ·rintro a w1 HC hx hd K hK
          replace HC := Lib.hid HC
          have t198 : a.tmps[198]?.getD undef = .slice (some ⟨br, orr, none⟩) 4 q1 := Reg.slot_val (hd 5 (by kernel_rfl) 198 rfl)
          go_simp
          exact hK _ _ (fun _ => rfl) (fun h => by cases h) (fun _ => HC.out) trivial
         ·rintro a w1 HC hx hd K hK
          replace HC := Lib.hid HC
          have x9 := HC.out.2.cell _ _ _ HSB.out HR1.out
          have t199 : a.tmps[199]?.getD undef = .pointer (some ⟨br, orr + 1, none⟩) := Reg.slot_val (hd 6 (by kernel_rfl) 199 rfl)
          go_simp
          exact hK _ _ (fun _ => rfl) (fun h => by cases h) (fun _ => HC.out) trivial
         ·rintro a w1 HC hx hd K hK
          replace HC := Lib.hid HC
          have t197 : a.tmps[197]?.getD undef = .slice (some ⟨g, 0, none⟩) B.pl B.pl := Reg.slot_val (hd 4 (by kernel_rfl) 197 rfl)
          have t200 : a.tmps[200]?.getD undef = .int .i64 (m1 : Int) := Reg.slot_val (hd 7 (by kernel_rfl) 200 rfl)
          go_simp
          exact hK _ _ (fun _ => rfl) (fun h => by cases h) (fun _ => HC.out) trivial
         ·rintro a w1 HC hx hd K hK
          replace HC := Lib.hid HC
          obtain ⟨u0, u1, u2, ⟨z0, z1, z2⟩, fu⟩ := HC.out.1.own.at HL0.out
          have t201 : a.tmps[201]?.getD undef = .pointer (some ⟨g, m1 * 3, none⟩) := Reg.slot_val (hd 8 (by kernel_rfl) 201 rfl)
          go_simp
          exact hK _ _ (fun _ => ⟨u0, u1, u2, rfl, fu⟩) (fun h => by cases h) (fun _ => HC.out) trivial
         ·rintro a w1 HC hx hd K hK
          replace HC := Lib.hid HC
          have x0 := (HC.out.1.mem (.head _)) 0 _ rfl
          have x1 := (HC.out.1.mem (.head _)) 1 _ rfl
          have x2 := (HC.out.1.mem (.head _)) 2 _ rfl
          have t18 : a.tmps[18]?.getD undef = .pointer (some ⟨V, 0, none⟩) := Reg.slot_val (hx 18 (by kernel_rfl))
          go_simp
          exact hK _ _ (fun _ => rfl) (fun h => by cases h) (fun _ => HC.out) trivial
         ·rintro a w1 HC hx hd K hK
          replace HC := Lib.hid HC
          have t0 : a.tmps[0]?.getD undef = .pointer (some ⟨pb, 0, none⟩) := Reg.slot_val (hx 0 (by kernel_rfl))
          go_simp
          exact hK _ _ (fun _ => rfl) (fun h => by cases h) (fun _ => HC.out) trivial
         ·rintro a w1 HC hx hd K hK
          replace HC := Lib.hid HC
          have t204 : a.tmps[204]?.getD undef = .pointer (some ⟨pb, 0, none⟩) := Reg.slot_val (hd 11 (by kernel_rfl) 204 rfl)
          go_simp
          exact hK _ _ (fun _ => rfl) (fun h => by cases h) (fun _ => HC.out) trivial
         ·rintro a w1 HC hx hd K hK
          replace HC := Lib.hid HC
          have t205 : a.tmps[205]?.getD undef = .pointer (some ⟨pb, 0, none⟩) := Reg.slot_val (hd 12 (by kernel_rfl) 205 rfl)
          go_simp
          exact hK _ _ (fun _ => rfl) (fun h => by cases h) (fun _ => HC.out) trivial
         ·rintro a w1 HC hx hd K hK
          replace HC := Lib.hid HC
          have y9 := cell_below HC.out.1.bel (HA.out 4 _ rfl)
          have t206 : a.tmps[206]?.getD undef = .pointer (some ⟨pb, 4, none⟩) := Reg.slot_val (hd 13 (by kernel_rfl) 206 rfl)
          go_simp
          exact hK _ _ (fun _ => rfl) (fun h => by cases h) (fun _ => HC.out) trivial
         ·rintro a w1 HC hx hd K hK
          replace HC := Lib.hid HC
          have t203 : a.tmps[203]?.getD undef = vv nx ny nz := Reg.slot_val (hd 10 (by kernel_rfl) 203 rfl)
          have t207 : a.tmps[207]?.getD undef = .float .f32 B.bend := Reg.slot_val (hd 14 (by kernel_rfl) 207 rfl)
          go_simp
          refine (l01Scale _ _ _ _ _ _ _ _ _ HN.out.1 HN.out.2.1 HN.out.2.2 HBE.out).mono ?_
          rintro en w2 ⟨p', q', r', rfl, fp', fq', fr', hB2⟩
          exact hK _ _ (fun _ => ⟨p', q', r', rfl, fp', fq', fr'⟩) (fun h => by cases h) (fun _ => ⟨HC.out.1.call hB2, HC.out.2.trans (Agree.of_below hB2)⟩) trivial
         ·rintro a w1 HC hx hd K hK
          replace HC := Lib.hid HC
          obtain ⟨p202, q202, r202, g202, f202⟩ := hd 9 (by kernel_rfl) 202 rfl
          have t202 := Reg.slot_val g202
          clear g202
          obtain ⟨p208, q208, r208, g208, f208⟩ := hd 15 (by kernel_rfl) 208 rfl
          have t208 := Reg.slot_val g208
          clear g208
          go_simp
          refine (l01Add _ _ _ _ _ _ _ _ _ _ _ _ _ f202.1 f202.2.1 f202.2.2 f208.1 f208.2.1 f208.2.2).mono ?_
          rintro en w2 ⟨p', q', r', rfl, fp', fq', fr', hB2⟩
          exact hK _ _ (fun _ => ⟨p', q', r', rfl, fp', fq', fr'⟩) (fun h => by cases h) (fun _ => ⟨HC.out.1.call hB2, HC.out.2.trans (Agree.of_below hB2)⟩) trivial
         ·rintro a w1 HC hx hd K hK
          replace HC := Lib.hid HC
          have t193 : a.tmps[193]?.getD undef = .slice (some ⟨g, 0, none⟩) B.pl B.pl := Reg.slot_val (hd 0 (by kernel_rfl) 193 rfl)
          have t196 : a.tmps[196]?.getD undef = .int .i64 (m1 : Int) := Reg.slot_val (hd 3 (by kernel_rfl) 196 rfl)
          go_simp
          exact hK _ _ (fun _ => rfl) (fun h => by cases h) (fun _ => HC.out) trivial
         ·rintro a w1 HC hx hd K hK
          replace HC := Lib.hid HC
          obtain ⟨u0, u1, u2, ⟨z0, z1, z2⟩, fu⟩ := HC.out.1.own.at HL0.out
          have k0 := HC.out.1.own.2.1 (m1 * 3)
          have k1 := HC.out.1.own.2.1 (m1 * 3 + 1)
          have k2 := HC.out.1.own.2.1 (m1 * 3 + 2)
          have t210 : a.tmps[210]?.getD undef = .pointer (some ⟨g, m1 * 3, none⟩) := Reg.slot_val (hd 17 (by kernel_rfl) 210 rfl)
          obtain ⟨p209, q209, r209, g209, f209⟩ := hd 16 (by kernel_rfl) 209 rfl
          have t209 := Reg.slot_val g209
          clear g209
          go_simp
          exact hK undef _ (fun h => absurd rfl h) (fun _ => ⟨HC.out.1.put HL0.out f209, ((HC.out.2.set HSL.out).set HSL.out).set HSL.out⟩) (fun h => absurd rfl h) trivial
        ·rintro f1 W6 hR hT
         obtain ⟨h6, h7⟩ := hT 18 rfl (Nat.le_of_ble_eq_true rfl)
         simp only [Reg.mixL, Nat.zero_add, Nat.reduceAdd]
         have T1 := Lib.hid h6
         have B1 := Lib.hid h7
         generalize hX7 : addAt X6 m1 (scaleC N c.bend) = X7 at *
         have HL1 : Hid (m2 < X7.length) := Lib.hid (by rw [← hX7, addAt_len]; have := HL0.out; have := HXL.out; have := H91.out; omega)
         have H92 : Hid (X7.length = B.pl) := Lib.hid (by rw [← hX7, addAt_len]; exact H91.out)
         clear hR hT h6 h7 T0 B0
         go_wp2_with fail
         refine Reg3.wp_region_mix (C := fun w' => St w [(V, [.float .f32 nx, .float .f32 ny, .float .f32 nz])] g X7 w' ∧ Agree S V0 w') (G := fun _ _ => True) (R := fun i v w' => match i with | 0 => v = .slice (some ⟨g, 0, none⟩) B.pl B.pl | 1 => v = .slice (some ⟨br, orr, none⟩) 4 q1 | 2 => v = .pointer (some ⟨br, orr + 2, none⟩) | 3 => v = .int .i64 (m2 : Int) | 4 => v = .slice (some ⟨g, 0, none⟩) B.pl B.pl | 5 => v = .slice (some ⟨br, orr, none⟩) 4 q1 | 6 => v = .pointer (some ⟨br, orr + 2, none⟩) | 7 => v = .int .i64 (m2 : Int) | 8 => v = .pointer (some ⟨g, m2 * 3, none⟩) | 9 => ∃ p q r, v = vv p q r ∧ F3 p q r (X7.getD m2 c0) | 10 => v = vv nx ny nz | 11 => v = .pointer (some ⟨pb, 0, none⟩) | 12 => v = .pointer (some ⟨pb, 0, none⟩) | 13 => v = .pointer (some ⟨pb, 4, none⟩) | 14 => v = .float .f32 B.bend | 15 => ∃ r, v = .float .f32 r ∧ FV .f32 r (negC32 c.bend) | 16 => ∃ p q r, v = vv p q r ∧ F3 p q r (scaleC N (negC32 c.bend)) | 17 => ∃ p q r, v = vv p q r ∧ F3 p q r (plusC (X7.getD m2 c0) (scaleC N (negC32 c.bend))) | 18 => v = .pointer (some ⟨g, m2 * 3, none⟩) | _ => True) (T := fun _ _ w' => St w [(V, [.float .f32 nx, .float .f32 ny, .float .f32 nz])] g (addAt X7 m2 (scaleC N (negC32 c.bend))) w' ∧ Agree S V0 w') [false, false, false, false, false, false, false, false, false, false, false, false, false, false, false, false, false, false, false, false, false, false, false, false, false, false, false, false, false, false, false, false, false, false, false, false, false, false, false, false, false, false, false, false, false, false, false, false, false, false, false, false, false, false, false, false, false, false, false, false, false, false, false, false, false, false, false, false, false, false, false, false, false, false, false, false, false, false, false, false, false, false, false, false, false, false, false, false, false, false, false, false, false, false, false, false, false, false, false, false, false, false, false, false, false, false, false, false, false, false, false, false, false, false, false, false, false, false, false, false, false, false, false, false, false, false, false, false, false, false, false, false, false, false, false, false, false, false, false, false, false, false, false, false, false, false, false, false, false, false, false, false, false, false, false, false, false, false, false, false, false, false, false, false, false, false, false, false, false, false, false, false, false, false, false, false, false, false, false, false, false, false, false, false, false, false, false, false, false, false, false, false, false, false, false, false, false, false, false, false, false, false, false, false, false, false, false, false, false, false, false, true, true, true, true, true, true, true, true, true, true, true, true, true, true, true, true, true, true, true, false, false, false, false, false, false, false, false, false, false, false, false, false, false, false, false, false, false, false, false, false, false, false, false, false, false, false, false, false, false, false, false, false, false, false, false, false, false, false, false, false, false, false, false, false, false, false, false, false, false]
          (by kernel_rfl) (by kernel_rfl) (by kernel_rfl) (fun _ _ _ _ _ _ h => h) (⟨T1.out.drewN 1, B1.out.trans (Agree.of_below (below_drewN (Below.refl _ _) 1))⟩) ?_ ?_
         ·refine ⟨Reg3.Obl.mk ?_, Reg3.Obl.mk ?_, Reg3.Obl.mk ?_, Reg3.Obl.mk ?_, Reg3.Obl.mk ?_, Reg3.Obl.mk ?_, Reg3.Obl.mk ?_, Reg3.Obl.mk ?_, Reg3.Obl.mk ?_, Reg3.Obl.mk ?_, Reg3.Obl.mk ?_, Reg3.Obl.mk ?_, Reg3.Obl.mk ?_, Reg3.Obl.mk ?_, Reg3.Obl.mk ?_, Reg3.Obl.mk ?_, Reg3.Obl.mk ?_, Reg3.Obl.mk ?_, Reg3.Obl.mk ?_, Reg3.Obl.mk ?_, trivial⟩
          ·rintro a w1 HC hx hd K hK
           replace HC := Lib.hid HC
           have t4 : a.tmps[4]?.getD undef = .slice (some ⟨g, 0, none⟩) B.pl B.pl := Reg.slot_val (hx 4 (by kernel_rfl))
           go_simp
           exact hK _ _ (fun _ => rfl) (fun h => by cases h) (fun _ => HC.out) trivial
          ·rintro a w1 HC hx hd K hK
           replace HC := Lib.hid HC
           have t17 : a.tmps[17]?.getD undef = .slice (some ⟨br, orr, none⟩) 4 q1 := Reg.slot_val (hx 17 (by kernel_rfl))
           go_simp
           exact hK _ _ (fun _ => rfl) (fun h => by cases h) (fun _ => HC.out) trivial
          ·rintro a w1 HC hx hd K hK
           replace HC := Lib.hid HC
           have t212 : a.tmps[212]?.getD undef = .slice (some ⟨br, orr, none⟩) 4 q1 := Reg.slot_val (hd 1 (by kernel_rfl) 212 rfl)
           go_simp
           exact hK _ _ (fun _ => rfl) (fun h => by cases h) (fun _ => HC.out) trivial
          ·rintro a w1 HC hx hd K hK
           replace HC := Lib.hid HC
           have x9 := HC.out.2.cell _ _ _ HSB.out HR2.out
           have t213 : a.tmps[213]?.getD undef = .pointer (some ⟨br, orr + 2, none⟩) := Reg.slot_val (hd 2 (by kernel_rfl) 213 rfl)
           go_simp
           exact hK _ _ (fun _ => rfl) (fun h => by cases h) (fun _ => HC.out) trivial
          ·rintro a w1 HC hx hd K hK
           replace HC := Lib.hid HC
           have t4 : a.tmps[4]?.getD undef = .slice (some ⟨g, 0, none⟩) B.pl B.pl := Reg.slot_val (hx 4 (by kernel_rfl))
           go_simp
           exact hK _ _ (fun _ => rfl) (fun h => by cases h) (fun _ => HC.out) trivial
          ·rintro a w1 HC hx hd K hK
           replace HC := Lib.hid HC
           have t17 : a.tmps[17]?.getD undef = .slice (some ⟨br, orr, none⟩) 4 q1 := Reg.slot_val (hx 17 (by kernel_rfl))
           go_simp
           exact hK _ _ (fun _ => rfl) (fun h => by cases h) (fun _ => HC.out) trivial
          ·rintro a w1 HC hx hd K hK
           replace HC := Lib.hid HC
           have t216 : a.tmps[216]?.getD undef = .slice (some ⟨br, orr, none⟩) 4 q1 := Reg.slot_val (hd 5 (by kernel_rfl) 216 rfl)
           go_simp
           exact hK _ _ (fun _ => rfl) (fun h => by cases h) (fun _ => HC.out) trivial
          ·rintro a w1 HC hx hd K hK
           replace HC := Lib.hid HC
           have x9 := HC.out.2.cell _ _ _ HSB.out HR2.out
           have t217 : a.tmps[217]?.getD undef = .pointer (some ⟨br, orr + 2, none⟩) := Reg.slot_val (hd 6 (by kernel_rfl) 217 rfl)
           go_simp
           exact hK _ _ (fun _ => rfl) (fun h => by cases h) (fun _ => HC.out) trivial
          ·rintro a w1 HC hx hd K hK
           replace HC := Lib.hid HC
           have t215 : a.tmps[215]?.getD undef = .slice (some ⟨g, 0, none⟩) B.pl B.pl := Reg.slot_val (hd 4 (by kernel_rfl) 215 rfl)
           have t218 : a.tmps[218]?.getD undef = .int .i64 (m2 : Int) := Reg.slot_val (hd 7 (by kernel_rfl) 218 rfl)
           go_simp
           exact hK _ _ (fun _ => rfl) (fun h => by cases h) (fun _ => HC.out) trivial
          ·rintro a w1 HC hx hd K hK
           replace HC := Lib.hid HC
           obtain ⟨u0, u1, u2, ⟨z0, z1, z2⟩, fu⟩ := HC.out.1.own.at HL1.out
           have t219 : a.tmps[219]?.getD undef = .pointer (some ⟨g, m2 * 3, none⟩) := Reg.slot_val (hd 8 (by kernel_rfl) 219 rfl)
           go_simp
           exact hK _ _ (fun _ => ⟨u0, u1, u2, rfl, fu⟩) (fun h => by cases h) (fun _ => HC.out) trivial
          ·rintro a w1 HC hx hd K hK
           replace HC := Lib.hid HC
           have x0 := (HC.out.1.mem (.head _)) 0 _ rfl
           have x1 := (HC.out.1.mem (.head _)) 1 _ rfl
           have x2 := (HC.out.1.mem (.head _)) 2 _ rfl
           have t18 : a.tmps[18]?.getD undef = .pointer (some ⟨V, 0, none⟩) := Reg.slot_val (hx 18 (by kernel_rfl))
           go_simp
           exact hK _ _ (fun _ => rfl) (fun h => by cases h) (fun _ => HC.out) trivial
          ·rintro a w1 HC hx hd K hK
           replace HC := Lib.hid HC
           have t0 : a.tmps[0]?.getD undef = .pointer (some ⟨pb, 0, none⟩) := Reg.slot_val (hx 0 (by kernel_rfl))
           go_simp
           exact hK _ _ (fun _ => rfl) (fun h => by cases h) (fun _ => HC.out) trivial
          ·rintro a w1 HC hx hd K hK
           replace HC := Lib.hid HC
           have t222 : a.tmps[222]?.getD undef = .pointer (some ⟨pb, 0, none⟩) := Reg.slot_val (hd 11 (by kernel_rfl) 222 rfl)
           go_simp
           exact hK _ _ (fun _ => rfl) (fun h => by cases h) (fun _ => HC.out) trivial
          ·rintro a w1 HC hx hd K hK
           replace HC := Lib.hid HC
           have t223 : a.tmps[223]?.getD undef = .pointer (some ⟨pb, 0, none⟩) := Reg.slot_val (hd 12 (by kernel_rfl) 223 rfl)
           go_simp
           exact hK _ _ (fun _ => rfl) (fun h => by cases h) (fun _ => HC.out) trivial
          ·rintro a w1 HC hx hd K hK
           replace HC := Lib.hid HC
           have y9 := cell_below HC.out.1.bel (HA.out 4 _ rfl)
           have t224 : a.tmps[224]?.getD undef = .pointer (some ⟨pb, 4, none⟩) := Reg.slot_val (hd 13 (by kernel_rfl) 224 rfl)
           go_simp
           exact hK _ _ (fun _ => rfl) (fun h => by cases h) (fun _ => HC.out) trivial
          ·rintro a w1 HC hx hd K hK
           replace HC := Lib.hid HC
           have t225 : a.tmps[225]?.getD undef = .float .f32 B.bend := Reg.slot_val (hd 14 (by kernel_rfl) 225 rfl)
           go_simp
           exact hK _ _ (fun _ => ⟨_, rfl, FV_neg32 HBE.out⟩) (fun h => by cases h) (fun _ => HC.out) trivial
          ·rintro a w1 HC hx hd K hK
           replace HC := Lib.hid HC
           have t221 : a.tmps[221]?.getD undef = vv nx ny nz := Reg.slot_val (hd 10 (by kernel_rfl) 221 rfl)
           obtain ⟨r226, g226, f226⟩ := hd 15 (by kernel_rfl) 226 rfl
           have t226 := Reg.slot_val g226
           clear g226
           go_simp
           refine (l01Scale _ _ _ _ _ _ _ _ _ HN.out.1 HN.out.2.1 HN.out.2.2 f226).mono ?_
           rintro en w2 ⟨p', q', r', rfl, fp', fq', fr', hB2⟩
           exact hK _ _ (fun _ => ⟨p', q', r', rfl, fp', fq', fr'⟩) (fun h => by cases h) (fun _ => ⟨HC.out.1.call hB2, HC.out.2.trans (Agree.of_below hB2)⟩) trivial
          ·rintro a w1 HC hx hd K hK
           replace HC := Lib.hid HC
           obtain ⟨p220, q220, r220, g220, f220⟩ := hd 9 (by kernel_rfl) 220 rfl
           have t220 := Reg.slot_val g220
           clear g220
           obtain ⟨p227, q227, r227, g227, f227⟩ := hd 16 (by kernel_rfl) 227 rfl
           have t227 := Reg.slot_val g227
           clear g227
           go_simp
           refine (l01Add _ _ _ _ _ _ _ _ _ _ _ _ _ f220.1 f220.2.1 f220.2.2 f227.1 f227.2.1 f227.2.2).mono ?_
           rintro en w2 ⟨p', q', r', rfl, fp', fq', fr', hB2⟩
           exact hK _ _ (fun _ => ⟨p', q', r', rfl, fp', fq', fr'⟩) (fun h => by cases h) (fun _ => ⟨HC.out.1.call hB2, HC.out.2.trans (Agree.of_below hB2)⟩) trivial
          ·rintro a w1 HC hx hd K hK
           replace HC := Lib.hid HC
           have t211 : a.tmps[211]?.getD undef = .slice (some ⟨g, 0, none⟩) B.pl B.pl := Reg.slot_val (hd 0 (by kernel_rfl) 211 rfl)
           have t214 : a.tmps[214]?.getD undef = .int .i64 (m2 : Int) := Reg.slot_val (hd 3 (by kernel_rfl) 214 rfl)
           go_simp
           exact hK _ _ (fun _ => rfl) (fun h => by cases h) (fun _ => HC.out) trivial
          ·rintro a w1 HC hx hd K hK
           replace HC := Lib.hid HC
           obtain ⟨u0, u1, u2, ⟨z0, z1, z2⟩, fu⟩ := HC.out.1.own.at HL1.out
           have k0 := HC.out.1.own.2.1 (m2 * 3)
           have k1 := HC.out.1.own.2.1 (m2 * 3 + 1)
           have k2 := HC.out.1.own.2.1 (m2 * 3 + 2)
           have t229 : a.tmps[229]?.getD undef = .pointer (some ⟨g, m2 * 3, none⟩) := Reg.slot_val (hd 18 (by kernel_rfl) 229 rfl)
           obtain ⟨p228, q228, r228, g228, f228⟩ := hd 17 (by kernel_rfl) 228 rfl
           have t228 := Reg.slot_val g228
           clear g228
           go_simp
           exact hK undef _ (fun h => absurd rfl h) (fun _ => ⟨HC.out.1.put HL1.out f228, ((HC.out.2.set HSL.out).set HSL.out).set HSL.out⟩) (fun h => absurd rfl h) trivial
         ·rintro f2 W7 hR hT
          obtain ⟨h6, h7⟩ := hT 19 rfl (Nat.le_of_ble_eq_true rfl)
          simp only [Reg.mixL, Nat.zero_add, Nat.reduceAdd]
          have T2 := Lib.hid h6
          have B2 := Lib.hid h7
          generalize hX8 : addAt X7 m2 (scaleC N (negC32 c.bend)) = X8 at *
          have HL2 : Hid (m3 < X8.length) := Lib.hid (by rw [← hX8, addAt_len]; have := HL1.out; have := HXL.out; have := H92.out; omega)
          have H93 : Hid (X8.length = B.pl) := Lib.hid (by rw [← hX8, addAt_len]; exact H92.out)
          clear hR hT h6 h7 T1 B1
          go_wp2_with fail
          refine Reg3.wp_region_mix (C := fun w' => St w [(V, [.float .f32 nx, .float .f32 ny, .float .f32 nz])] g X8 w' ∧ Agree S V0 w') (G := fun _ _ => True) (R := fun i v w' => match i with | 0 => v = .slice (some ⟨g, 0, none⟩) B.pl B.pl | 1 => v = .slice (some ⟨br, orr, none⟩) 4 q1 | 2 => v = .pointer (some ⟨br, orr + 3, none⟩) | 3 => v = .int .i64 (m3 : Int) | 4 => v = .slice (some ⟨g, 0, none⟩) B.pl B.pl | 5 => v = .slice (some ⟨br, orr, none⟩) 4 q1 | 6 => v = .pointer (some ⟨br, orr + 3, none⟩) | 7 => v = .int .i64 (m3 : Int) | 8 => v = .pointer (some ⟨g, m3 * 3, none⟩) | 9 => ∃ p q r, v = vv p q r ∧ F3 p q r (X8.getD m3 c0) | 10 => v = vv nx ny nz | 11 => v = .pointer (some ⟨pb, 0, none⟩) | 12 => v = .pointer (some ⟨pb, 0, none⟩) | 13 => v = .pointer (some ⟨pb, 4, none⟩) | 14 => v = .float .f32 B.bend | 15 => ∃ r, v = .float .f32 r ∧ FV .f32 r (negC32 c.bend) | 16 => ∃ p q r, v = vv p q r ∧ F3 p q r (scaleC N (negC32 c.bend)) | 17 => ∃ p q r, v = vv p q r ∧ F3 p q r (plusC (X8.getD m3 c0) (scaleC N (negC32 c.bend))) | 18 => v = .pointer (some ⟨g, m3 * 3, none⟩) | _ => True) (T := fun _ _ w' => St w [(V, [.float .f32 nx, .float .f32 ny, .float .f32 nz])] g (addAt X8 m3 (scaleC N (negC32 c.bend))) w' ∧ Agree S V0 w') [false, false, false, false, false, false, false, false, false, false, false, false, false, false, false, false, false, false, false, false, false, false, false, false, false, false, false, false, false, false, false, false, false, false, false, false, false, false, false, false, false, false, false, false, false, false, false, false, false, false, false, false, false, false, false, false, false, false, false, false, false, false, false, false, false, false, false, false, false, false, false, false, false, false, false, false, false, false, false, false, false, false, false, false, false, false, false, false, false, false, false, false, false, false, false, false, false, false, false, false, false, false, false, false, false, false, false, false, false, false, false, false, false, false, false, false, false, false, false, false, false, false, false, false, false, false, false, false, false, false, false, false, false, false, false, false, false, false, false, false, false, false, false, false, false, false, false, false, false, false, false, false, false, false, false, false, false, false, false, false, false, false, false, false, false, false, false, false, false, false, false, false, false, false, false, false, false, false, false, false, false, false, false, false, false, false, false, false, false, false, false, false, false, false, false, false, false, false, false, false, false, false, false, false, false, false, false, false, false, false, false, false, false, false, false, false, false, false, false, false, false, false, false, false, false, false, false, false, false, false, true, true, true, true, true, true, true, true, true, true, true, true, true, true, true, true, true, true, true, false, false, false, false, false, false, false, false, false, false, false, false, false, false, false, false, false, false, false, false, false, false, false, false, false, false, false, false, false, false, false]
           (by kernel_rfl) (by kernel_rfl) (by kernel_rfl) (fun _ _ _ _ _ _ h => h) (⟨T2.out.drewN 1, B2.out.trans (Agree.of_below (below_drewN (Below.refl _ _) 1))⟩) ?_ ?_
          ·refine ⟨Reg3.Obl.mk ?_, Reg3.Obl.mk ?_, Reg3.Obl.mk ?_, Reg3.Obl.mk ?_, Reg3.Obl.mk ?_, Reg3.Obl.mk ?_, Reg3.Obl.mk ?_, Reg3.Obl.mk ?_, Reg3.Obl.mk ?_, Reg3.Obl.mk ?_, Reg3.Obl.mk ?_, Reg3.Obl.mk ?_, Reg3.Obl.mk ?_, Reg3.Obl.mk ?_, Reg3.Obl.mk ?_, Reg3.Obl.mk ?_, Reg3.Obl.mk ?_, Reg3.Obl.mk ?_, Reg3.Obl.mk ?_, Reg3.Obl.mk ?_, trivial⟩
           ·rintro a w1 HC hx hd K hK
            replace HC := Lib.hid HC
            have t4 : a.tmps[4]?.getD undef = .slice (some ⟨g, 0, none⟩) B.pl B.pl := Reg.slot_val (hx 4 (by kernel_rfl))
            go_simp
            exact hK _ _ (fun _ => rfl) (fun h => by cases h) (fun _ => HC.out) trivial
           ·rintro a w1 HC hx hd K hK
            replace HC := Lib.hid HC
            have t17 : a.tmps[17]?.getD undef = .slice (some ⟨br, orr, none⟩) 4 q1 := Reg.slot_val (hx 17 (by kernel_rfl))
            go_simp
            exact hK _ _ (fun _ => rfl) (fun h => by cases h) (fun _ => HC.out) trivial
           ·rintro a w1 HC hx hd K hK
            replace HC := Lib.hid HC
            have t231 : a.tmps[231]?.getD undef = .slice (some ⟨br, orr, none⟩) 4 q1 := Reg.slot_val (hd 1 (by kernel_rfl) 231 rfl)
            go_simp
            exact hK _ _ (fun _ => rfl) (fun h => by cases h) (fun _ => HC.out) trivial
           ·rintro a w1 HC hx hd K hK
            replace HC := Lib.hid HC
            have x9 := HC.out.2.cell _ _ _ HSB.out HR3.out
            have t232 : a.tmps[232]?.getD undef = .pointer (some ⟨br, orr + 3, none⟩) := Reg.slot_val (hd 2 (by kernel_rfl) 232 rfl)
            go_simp
            exact hK _ _ (fun _ => rfl) (fun h => by cases h) (fun _ => HC.out) trivial
           ·rintro a w1 HC hx hd K hK
            replace HC := Lib.hid HC
            have t4 : a.tmps[4]?.getD undef = .slice (some ⟨g, 0, none⟩) B.pl B.pl := Reg.slot_val (hx 4 (by kernel_rfl))
            go_simp
            exact hK _ _ (fun _ => rfl) (fun h => by cases h) (fun _ => HC.out) trivial
           ·rintro a w1 HC hx hd K hK
            replace HC := Lib.hid HC
            have t17 : a.tmps[17]?.getD undef = .slice (some ⟨br, orr, none⟩) 4 q1 := Reg.slot_val (hx 17 (by kernel_rfl))
            go_simp
            exact hK _ _ (fun _ => rfl) (fun h => by cases h) (fun _ => HC.out) trivial
           ·rintro a w1 HC hx hd K hK
            replace HC := Lib.hid HC
            have t235 : a.tmps[235]?.getD undef = .slice (some ⟨br, orr, none⟩) 4 q1 := Reg.slot_val (hd 5 (by kernel_rfl) 235 rfl)
            go_simp
            exact hK _ _ (fun _ => rfl) (fun h => by cases h) (fun _ => HC.out) trivial
           ·rintro a w1 HC hx hd K hK
            replace HC := Lib.hid HC
            have x9 := HC.out.2.cell _ _ _ HSB.out HR3.out
            have t236 : a.tmps[236]?.getD undef = .pointer (some ⟨br, orr + 3, none⟩) := Reg.slot_val (hd 6 (by kernel_rfl) 236 rfl)
            go_simp
            exact hK _ _ (fun _ => rfl) (fun h => by cases h) (fun _ => HC.out) trivial
           ·rintro a w1 HC hx hd K hK
            replace HC := Lib.hid HC
            have t234 : a.tmps[234]?.getD undef = .slice (some ⟨g, 0, none⟩) B.pl B.pl := Reg.slot_val (hd 4 (by kernel_rfl) 234 rfl)
            have t237 : a.tmps[237]?.getD undef = .int .i64 (m3 : Int) := Reg.slot_val (hd 7 (by kernel_rfl) 237 rfl)
            go_simp
            exact hK _ _ (fun _ => rfl) (fun h => by cases h) (fun _ => HC.out) trivial
           ·rintro a w1 HC hx hd K hK
            replace HC := Lib.hid HC
            obtain ⟨u0, u1, u2, ⟨z0, z1, z2⟩, fu⟩ := HC.out.1.own.at HL2.out
            have t238 : a.tmps[238]?.getD undef = .pointer (some ⟨g, m3 * 3, none⟩) := Reg.slot_val (hd 8 (by kernel_rfl) 238 rfl)
            go_simp
            exact hK _ _ (fun _ => ⟨u0, u1, u2, rfl, fu⟩) (fun h => by cases h) (fun _ => HC.out) trivial
           ·rintro a w1 HC hx hd K hK
            replace HC := Lib.hid HC
            have x0 := (HC.out.1.mem (.head _)) 0 _ rfl
            have x1 := (HC.out.1.mem (.head _)) 1 _ rfl
            have x2 := (HC.out.1.mem (.head _)) 2 _ rfl
            have t18 : a.tmps[18]?.getD undef = .pointer (some ⟨V, 0, none⟩) := Reg.slot_val (hx 18 (by kernel_rfl))
            go_simp
            exact hK _ _ (fun _ => rfl) (fun h => by cases h) (fun _ => HC.out) trivial
           ·rintro a w1 HC hx hd K hK
            replace HC := Lib.hid HC
            have t0 : a.tmps[0]?.getD undef = .pointer (some ⟨pb, 0, none⟩) := Reg.slot_val (hx 0 (by kernel_rfl))
            go_simp
            exact hK _ _ (fun _ => rfl) (fun h => by cases h) (fun _ => HC.out) trivial
           ·rintro a w1 HC hx hd K hK
            replace HC := Lib.hid HC
            have t241 : a.tmps[241]?.getD undef = .pointer (some ⟨pb, 0, none⟩) := Reg.slot_val (hd 11 (by kernel_rfl) 241 rfl)
            go_simp
            exact hK _ _ (fun _ => rfl) (fun h => by cases h) (fun _ => HC.out) trivial
           ·rintro a w1 HC hx hd K hK
            replace HC := Lib.hid HC
            have t242 : a.tmps[242]?.getD undef = .pointer (some ⟨pb, 0, none⟩) := Reg.slot_val (hd 12 (by kernel_rfl) 242 rfl)
            go_simp
            exact hK _ _ (fun _ => rfl) (fun h => by cases h) (fun _ => HC.out) trivial
           ·rintro a w1 HC hx hd K hK
            replace HC := Lib.hid HC
            have y9 := cell_below HC.out.1.bel (HA.out 4 _ rfl)
            have t243 : a.tmps[243]?.getD undef = .pointer (some ⟨pb, 4, none⟩) := Reg.slot_val (hd 13 (by kernel_rfl) 243 rfl)
            go_simp
            exact hK _ _ (fun _ => rfl) (fun h => by cases h) (fun _ => HC.out) trivial
           ·rintro a w1 HC hx hd K hK
            replace HC := Lib.hid HC
            have t244 : a.tmps[244]?.getD undef = .float .f32 B.bend := Reg.slot_val (hd 14 (by kernel_rfl) 244 rfl)
            go_simp
            exact hK _ _ (fun _ => ⟨_, rfl, FV_neg32 HBE.out⟩) (fun h => by cases h) (fun _ => HC.out) trivial
           ·rintro a w1 HC hx hd K hK
            replace HC := Lib.hid HC
            have t240 : a.tmps[240]?.getD undef = vv nx ny nz := Reg.slot_val (hd 10 (by kernel_rfl) 240 rfl)
            obtain ⟨r245, g245, f245⟩ := hd 15 (by kernel_rfl) 245 rfl
            have t245 := Reg.slot_val g245
            clear g245
            go_simp
            refine (l01Scale _ _ _ _ _ _ _ _ _ HN.out.1 HN.out.2.1 HN.out.2.2 f245).mono ?_
            rintro en w2 ⟨p', q', r', rfl, fp', fq', fr', hB2⟩
            exact hK _ _ (fun _ => ⟨p', q', r', rfl, fp', fq', fr'⟩) (fun h => by cases h) (fun _ => ⟨HC.out.1.call hB2, HC.out.2.trans (Agree.of_below hB2)⟩) trivial
           ·rintro a w1 HC hx hd K hK
            replace HC := Lib.hid HC
            obtain ⟨p239, q239, r239, g239, f239⟩ := hd 9 (by kernel_rfl) 239 rfl
            have t239 := Reg.slot_val g239
            clear g239
            obtain ⟨p246, q246, r246, g246, f246⟩ := hd 16 (by kernel_rfl) 246 rfl
            have t246 := Reg.slot_val g246
            clear g246
            go_simp
            refine (l01Add _ _ _ _ _ _ _ _ _ _ _ _ _ f239.1 f239.2.1 f239.2.2 f246.1 f246.2.1 f246.2.2).mono ?_
            rintro en w2 ⟨p', q', r', rfl, fp', fq', fr', hB2⟩
            exact hK _ _ (fun _ => ⟨p', q', r', rfl, fp', fq', fr'⟩) (fun h => by cases h) (fun _ => ⟨HC.out.1.call hB2, HC.out.2.trans (Agree.of_below hB2)⟩) trivial
           ·rintro a w1 HC hx hd K hK
            replace HC := Lib.hid HC
            have t230 : a.tmps[230]?.getD undef = .slice (some ⟨g, 0, none⟩) B.pl B.pl := Reg.slot_val (hd 0 (by kernel_rfl) 230 rfl)
            have t233 : a.tmps[233]?.getD undef = .int .i64 (m3 : Int) := Reg.slot_val (hd 3 (by kernel_rfl) 233 rfl)
            go_simp
            exact hK _ _ (fun _ => rfl) (fun h => by cases h) (fun _ => HC.out) trivial
           ·rintro a w1 HC hx hd K hK
            replace HC := Lib.hid HC
            obtain ⟨u0, u1, u2, ⟨z0, z1, z2⟩, fu⟩ := HC.out.1.own.at HL2.out
            have k0 := HC.out.1.own.2.1 (m3 * 3)
            have k1 := HC.out.1.own.2.1 (m3 * 3 + 1)
            have k2 := HC.out.1.own.2.1 (m3 * 3 + 2)
            have t248 : a.tmps[248]?.getD undef = .pointer (some ⟨g, m3 * 3, none⟩) := Reg.slot_val (hd 18 (by kernel_rfl) 248 rfl)
            obtain ⟨p247, q247, r247, g247, f247⟩ := hd 17 (by kernel_rfl) 247 rfl
            have t247 := Reg.slot_val g247
            clear g247
            go_simp
            exact hK undef _ (fun h => absurd rfl h) (fun _ => ⟨HC.out.1.put HL2.out f247, ((HC.out.2.set HSL.out).set HSL.out).set HSL.out⟩) (fun h => absurd rfl h) trivial
          ·rintro f3 W9 hR hT
           obtain ⟨h6, h7⟩ := hT 19 rfl (Nat.le_of_ble_eq_true rfl)
           simp only [Reg.mixL, Nat.zero_add, Nat.reduceAdd]
           have S9 : Hid (St w [] g (addsF c.cs X0 (es.take (B.sl + B.tl + (k + 1)))) W9) := Lib.hid (by
            rw [show B.sl + B.tl + (k + 1) = B.sl + B.tl + k + 1 by omega, HKS.out, HE.out, HAD.out]
            exact h6.drop)
           have A9 := Lib.hid h7
           have HLE := HLEN.out
           clear hR hT h6 h7
           go_wp2
           go_roundw
           case rel => exact ⟨k + 1, by omega, by go_num, S9.out, A9.out⟩
           case measure => simp [intOf]; omega
      ·obtain rfl : k = hs.length := by omega
       have b0 := cell_below S1.out.bel (HA.out 0 _ rfl)
       clear HI HLT HAG HSS HSL
       go_wp2
       clear b0
       go_loopw [255] (fun i w' => ∃ k : Nat, k ≤ B.pl ∧ i = .int .i64 k ∧ Aside (St w [] g (addsF c.cs X0 (es.take (B.sl + B.tl + hs.length + k))) w')) (fun i _ => B.pl - (intOf i).toNat)
       case atStart => exact ⟨0, Nat.zero_le _, rfl, S1.out⟩
       case round =>
        clear S1
        obtain ⟨k, hk, rfl, hA⟩ := hrel
        have S1 := Lib.hid hA.out
        clear hA
        by_cases hlt4 : k < B.pl
        ·obtain ⟨wb, wo, hwb, hwc⟩ := fs_at H.out.2.2.2.1 (show k < B.wl by rw [HWL.out]; exact hlt4)
         have hzk : c.zs.getD k 0 < 2 ^ FloatKind.f32.format.width := by
          have hkz : k < c.zs.length := by have h1 := H.out.2.2.2.1.1; have h2 := HWL.out; omega
          have e : c.zs.getD k 0 = c.zs[k] := by simp [List.getD, hkz]
          rw [e]
          exact H.out.2.2.2.1.2.2.2.1 _ (List.getElem_mem hkz)
         have HZK := Lib.hid (FV.self hzk)
         have HA5 : Hid (w.cell? ⟨pb, 5, none⟩ = some (.slice (some ⟨wb, wo, none⟩) B.wl B.wc)) := Lib.hid (by rw [← hwb]; exact HA.out 5 _ rfl)
         have WC := Lib.hid hwc
         have HE := Lib.hid (E4.out k hlt4)
         have HXL : Hid ((addsF c.cs X0 (List.take (B.sl + B.tl + hs.length + k) es)).length = B.pl) := Lib.hid (by rw [addsF_len]; exact HZ.out)
         have HKS := Lib.hid (addsF_s c.cs X0 es (show B.sl + B.tl + hs.length + k < es.length by have := EL.out; omega))
         generalize hX : addsF c.cs X0 (List.take (B.sl + B.tl + hs.length + k) es) = X at *
         have HAD := Lib.hid (add_we (cs := c.cs) (X := X) (w := cls .f32 (c.zs.getD k 0)) (f := c.fall) (rfl : (k : Int) = (k : Int)))
         have hk0 : (0 : Int) ≤ (k : Int) := by omega
         have hk1 : (k : Int) < (B.pl : Int) := by omega
         have hk2 : (k : Int) < (B.wl : Int) := by have := HWL.out; omega
         have HFF := Lib.hid H.out.2.2.2.2.2.2
         have HMX : Hid (k < X.length) := Lib.hid (by have := HXL.out; omega)
         clear hwb hwc hzk
         generalize c.zs.getD k 0 = zk at *
         go_wp2_with fail
         refine Reg3.wp_region_mix (C := St w [] g X) (G := fun _ _ => True) (R := fun i v w' => match i with | 0 => v = .slice (some ⟨g, 0, none⟩) B.pl B.pl | 1 => v = .int .i64 (k : Int) | 2 => v = .slice (some ⟨g, 0, none⟩) B.pl B.pl | 3 => v = .int .i64 (k : Int) | 4 => v = .pointer (some ⟨g, k * 3, none⟩) | 5 => ∃ p q r, v = vv p q r ∧ F3 p q r (X.getD k c0) | 6 => v = .pointer (some ⟨pb, 0, none⟩) | 7 => v = .pointer (some ⟨pb, 0, none⟩) | 8 => v = .pointer (some ⟨pb, 6, none⟩) | 9 => v = vv B.x B.y B.z | 10 => v = .pointer (some ⟨pb, 0, none⟩) | 11 => v = .pointer (some ⟨pb, 0, none⟩) | 12 => v = .pointer (some ⟨pb, 5, none⟩) | 13 => v = .slice (some ⟨wb, wo, none⟩) B.wl B.wc | 14 => v = .int .i64 (k : Int) | 15 => v = .pointer (some ⟨wb, wo + k, none⟩) | 16 => v = .float .f32 zk | 17 => ∃ p q r, v = vv p q r ∧ F3 p q r (scaleC c.fall (cls .f32 zk)) | 18 => ∃ p q r, v = vv p q r ∧ F3 p q r (plusC (X.getD k c0) (scaleC c.fall (cls .f32 zk))) | 19 => v = .pointer (some ⟨g, k * 3, none⟩) | _ => True) (T := fun _ _ w' => St w [] g (addAt X k (scaleC c.fall (cls .f32 zk))) w') [false, false, false, false, false, false, false, false, false, false, false, false, false, false, false, false, false, false, false, false, false, false, false, false, false, false, false, false, false, false, false, false, false, false, false, false, false, false, false, false, false, false, false, false, false, false, false, false, false, false, false, false, false, false, false, false, false, false, false, false, false, false, false, false, false, false, false, false, false, false, false, false, false, false, false, false, false, false, false, false, false, false, false, false, false, false, false, false, false, false, false, false, false, false, false, false, false, false, false, false, false, false, false, false, false, false, false, false, false, false, false, false, false, false, false, false, false, false, false, false, false, false, false, false, false, false, false, false, false, false, false, false, false, false, false, false, false, false, false, false, false, false, false, false, false, false, false, false, false, false, false, false, false, false, false, false, false, false, false, false, false, false, false, false, false, false, false, false, false, false, false, false, false, false, false, false, false, false, false, false, false, false, false, false, false, false, false, false, false, false, false, false, false, false, false, false, false, false, false, false, false, false, false, false, false, false, false, false, false, false, false, false, false, false, false, false, false, false, false, false, false, false, false, false, false, false, false, false, false, false, false, false, false, false, false, false, false, false, false, false, false, false, false, false, false, false, false, false, false, false, false, false, false, false, false, false, false, false, true, true, true, true, true, true, true, true, true, true, true, true, true, true, true, true, true, true, true, true, false, false]
          (by kernel_rfl) (by kernel_rfl) (by kernel_rfl) (fun _ _ _ _ _ _ h => h) (S1.out.drewN 1) ?_ ?_
         ·refine ⟨Reg3.Obl.mk ?_, Reg3.Obl.mk ?_, Reg3.Obl.mk ?_, Reg3.Obl.mk ?_, Reg3.Obl.mk ?_, Reg3.Obl.mk ?_, Reg3.Obl.mk ?_, Reg3.Obl.mk ?_, Reg3.Obl.mk ?_, Reg3.Obl.mk ?_, Reg3.Obl.mk ?_, Reg3.Obl.mk ?_, Reg3.Obl.mk ?_, Reg3.Obl.mk ?_, Reg3.Obl.mk ?_, Reg3.Obl.mk ?_, Reg3.Obl.mk ?_, Reg3.Obl.mk ?_, Reg3.Obl.mk ?_, Reg3.Obl.mk ?_, Reg3.Obl.mk ?_, trivial⟩
          ·rintro a w1 HC hx hd K hK
           replace HC := Lib.hid HC
           have t4 : a.tmps[4]?.getD undef = .slice (some ⟨g, 0, none⟩) B.pl B.pl := Reg.slot_val (hx 4 (by kernel_rfl))
           go_simp
           exact hK _ _ (fun _ => rfl) (fun h => by cases h) (fun _ => HC.out) trivial
          ·rintro a w1 HC hx hd K hK
           replace HC := Lib.hid HC
           have t19 : a.tmps[19]?.getD undef = .int .i64 (k : Int) := Reg.slot_val (hx 19 (by kernel_rfl))
           go_simp
           exact hK _ _ (fun _ => rfl) (fun h => by cases h) (fun _ => HC.out) trivial
          ·rintro a w1 HC hx hd K hK
           replace HC := Lib.hid HC
           have t4 : a.tmps[4]?.getD undef = .slice (some ⟨g, 0, none⟩) B.pl B.pl := Reg.slot_val (hx 4 (by kernel_rfl))
           go_simp
           exact hK _ _ (fun _ => rfl) (fun h => by cases h) (fun _ => HC.out) trivial
          ·rintro a w1 HC hx hd K hK
           replace HC := Lib.hid HC
           have t19 : a.tmps[19]?.getD undef = .int .i64 (k : Int) := Reg.slot_val (hx 19 (by kernel_rfl))
           go_simp
           exact hK _ _ (fun _ => rfl) (fun h => by cases h) (fun _ => HC.out) trivial
          ·rintro a w1 HC hx hd K hK
           replace HC := Lib.hid HC
           have t260 : a.tmps[260]?.getD undef = .slice (some ⟨g, 0, none⟩) B.pl B.pl := Reg.slot_val (hd 2 (by kernel_rfl) 260 rfl)
           have t261 : a.tmps[261]?.getD undef = .int .i64 (k : Int) := Reg.slot_val (hd 3 (by kernel_rfl) 261 rfl)
           go_simp
           exact hK _ _ (fun _ => rfl) (fun h => by cases h) (fun _ => HC.out) trivial
          ·rintro a w1 HC hx hd K hK
           replace HC := Lib.hid HC
           obtain ⟨u0, u1, u2, ⟨z0, z1, z2⟩, fu⟩ := HC.out.own.at HMX.out
           have t262 : a.tmps[262]?.getD undef = .pointer (some ⟨g, k * 3, none⟩) := Reg.slot_val (hd 4 (by kernel_rfl) 262 rfl)
           go_simp
           exact hK _ _ (fun _ => ⟨u0, u1, u2, rfl, fu⟩) (fun h => by cases h) (fun _ => HC.out) trivial
          ·rintro a w1 HC hx hd K hK
           replace HC := Lib.hid HC
           have t0 : a.tmps[0]?.getD undef = .pointer (some ⟨pb, 0, none⟩) := Reg.slot_val (hx 0 (by kernel_rfl))
           go_simp
           exact hK _ _ (fun _ => rfl) (fun h => by cases h) (fun _ => HC.out) trivial
          ·rintro a w1 HC hx hd K hK
           replace HC := Lib.hid HC
           have t264 : a.tmps[264]?.getD undef = .pointer (some ⟨pb, 0, none⟩) := Reg.slot_val (hd 6 (by kernel_rfl) 264 rfl)
           go_simp
           exact hK _ _ (fun _ => rfl) (fun h => by cases h) (fun _ => HC.out) trivial
          ·rintro a w1 HC hx hd K hK
           replace HC := Lib.hid HC
           have t265 : a.tmps[265]?.getD undef = .pointer (some ⟨pb, 0, none⟩) := Reg.slot_val (hd 7 (by kernel_rfl) 265 rfl)
           go_simp
           exact hK _ _ (fun _ => rfl) (fun h => by cases h) (fun _ => HC.out) trivial
          ·rintro a w1 HC hx hd K hK
           replace HC := Lib.hid HC
           have y0 := cell_below HC.out.bel (HA.out 6 _ rfl)
           have y1 := cell_below HC.out.bel (HA.out 7 _ rfl)
           have y2 := cell_below HC.out.bel (HA.out 8 _ rfl)
           have t266 : a.tmps[266]?.getD undef = .pointer (some ⟨pb, 6, none⟩) := Reg.slot_val (hd 8 (by kernel_rfl) 266 rfl)
           go_simp
           exact hK _ _ (fun _ => rfl) (fun h => by cases h) (fun _ => HC.out) trivial
          ·rintro a w1 HC hx hd K hK
           replace HC := Lib.hid HC
           have t0 : a.tmps[0]?.getD undef = .pointer (some ⟨pb, 0, none⟩) := Reg.slot_val (hx 0 (by kernel_rfl))
           go_simp
           exact hK _ _ (fun _ => rfl) (fun h => by cases h) (fun _ => HC.out) trivial
          ·rintro a w1 HC hx hd K hK
           replace HC := Lib.hid HC
           have t268 : a.tmps[268]?.getD undef = .pointer (some ⟨pb, 0, none⟩) := Reg.slot_val (hd 10 (by kernel_rfl) 268 rfl)
           go_simp
           exact hK _ _ (fun _ => rfl) (fun h => by cases h) (fun _ => HC.out) trivial
          ·rintro a w1 HC hx hd K hK
           replace HC := Lib.hid HC
           have t269 : a.tmps[269]?.getD undef = .pointer (some ⟨pb, 0, none⟩) := Reg.slot_val (hd 11 (by kernel_rfl) 269 rfl)
           go_simp
           exact hK _ _ (fun _ => rfl) (fun h => by cases h) (fun _ => HC.out) trivial
          ·rintro a w1 HC hx hd K hK
           replace HC := Lib.hid HC
           have y9 := cell_below HC.out.bel HA5.out
           have t270 : a.tmps[270]?.getD undef = .pointer (some ⟨pb, 5, none⟩) := Reg.slot_val (hd 12 (by kernel_rfl) 270 rfl)
           go_simp
           exact hK _ _ (fun _ => rfl) (fun h => by cases h) (fun _ => HC.out) trivial
          ·rintro a w1 HC hx hd K hK
           replace HC := Lib.hid HC
           have t19 : a.tmps[19]?.getD undef = .int .i64 (k : Int) := Reg.slot_val (hx 19 (by kernel_rfl))
           go_simp
           exact hK _ _ (fun _ => rfl) (fun h => by cases h) (fun _ => HC.out) trivial
          ·rintro a w1 HC hx hd K hK
           replace HC := Lib.hid HC
           have t271 : a.tmps[271]?.getD undef = .slice (some ⟨wb, wo, none⟩) B.wl B.wc := Reg.slot_val (hd 13 (by kernel_rfl) 271 rfl)
           have t272 : a.tmps[272]?.getD undef = .int .i64 (k : Int) := Reg.slot_val (hd 14 (by kernel_rfl) 272 rfl)
           go_simp
           exact hK _ _ (fun _ => rfl) (fun h => by cases h) (fun _ => HC.out) trivial
          ·rintro a w1 HC hx hd K hK
           replace HC := Lib.hid HC
           have y9 := cell_below HC.out.bel WC.out
           have t273 : a.tmps[273]?.getD undef = .pointer (some ⟨wb, wo + k, none⟩) := Reg.slot_val (hd 15 (by kernel_rfl) 273 rfl)
           go_simp
           exact hK _ _ (fun _ => rfl) (fun h => by cases h) (fun _ => HC.out) trivial
          ·rintro a w1 HC hx hd K hK
           replace HC := Lib.hid HC
           have t267 : a.tmps[267]?.getD undef = vv B.x B.y B.z := Reg.slot_val (hd 9 (by kernel_rfl) 267 rfl)
           have t274 : a.tmps[274]?.getD undef = .float .f32 zk := Reg.slot_val (hd 16 (by kernel_rfl) 274 rfl)
           go_simp
           refine (l01Scale _ _ _ _ _ _ _ _ _ HFF.out.1 HFF.out.2.1 HFF.out.2.2 HZK.out).mono ?_
           rintro en w2 ⟨p', q', r', rfl, fp', fq', fr', hB2⟩
           exact hK _ _ (fun _ => ⟨p', q', r', rfl, fp', fq', fr'⟩) (fun h => by cases h) (fun _ => HC.out.call hB2) trivial
          ·rintro a w1 HC hx hd K hK
           replace HC := Lib.hid HC
           obtain ⟨p263, q263, r263, g263, f263⟩ := hd 5 (by kernel_rfl) 263 rfl
           have t263 := Reg.slot_val g263
           clear g263
           obtain ⟨p275, q275, r275, g275, f275⟩ := hd 17 (by kernel_rfl) 275 rfl
           have t275 := Reg.slot_val g275
           clear g275
           go_simp
           refine (l01Add _ _ _ _ _ _ _ _ _ _ _ _ _ f263.1 f263.2.1 f263.2.2 f275.1 f275.2.1 f275.2.2).mono ?_
           rintro en w2 ⟨p', q', r', rfl, fp', fq', fr', hB2⟩
           exact hK _ _ (fun _ => ⟨p', q', r', rfl, fp', fq', fr'⟩) (fun h => by cases h) (fun _ => HC.out.call hB2) trivial
          ·rintro a w1 HC hx hd K hK
           replace HC := Lib.hid HC
           have t258 : a.tmps[258]?.getD undef = .slice (some ⟨g, 0, none⟩) B.pl B.pl := Reg.slot_val (hd 0 (by kernel_rfl) 258 rfl)
           have t259 : a.tmps[259]?.getD undef = .int .i64 (k : Int) := Reg.slot_val (hd 1 (by kernel_rfl) 259 rfl)
           go_simp
           exact hK _ _ (fun _ => rfl) (fun h => by cases h) (fun _ => HC.out) trivial
          ·rintro a w1 HC hx hd K hK
           replace HC := Lib.hid HC
           obtain ⟨u0, u1, u2, ⟨z0, z1, z2⟩, fu⟩ := HC.out.own.at HMX.out
           have k0' := HC.out.own.2.1 (k * 3)
           have k1' := HC.out.own.2.1 (k * 3 + 1)
           have k2' := HC.out.own.2.1 (k * 3 + 2)
           have t277 : a.tmps[277]?.getD undef = .pointer (some ⟨g, k * 3, none⟩) := Reg.slot_val (hd 19 (by kernel_rfl) 277 rfl)
           obtain ⟨p276, q276, r276, g276, f276⟩ := hd 18 (by kernel_rfl) 276 rfl
           have t276 := Reg.slot_val g276
           clear g276
           go_simp
           exact hK undef _ (fun h => absurd rfl h) (fun _ => HC.out.put HMX.out f276) (fun h => absurd rfl h) trivial
         ·rintro f4 W9 hR hT
          have h6 := hT 20 rfl (Nat.le_of_ble_eq_true rfl)
          simp only [Reg.mixL, Nat.zero_add, Nat.reduceAdd]
          have S9 : Hid (St w [] g (addsF c.cs X0 (es.take (B.sl + B.tl + hs.length + (k + 1)))) W9) := Lib.hid (by
           rw [show B.sl + B.tl + hs.length + (k + 1) = B.sl + B.tl + hs.length + k + 1 by omega, HKS.out, HE.out, HAD.out]
           exact h6)
          have HLE := HLEN.out
          clear hR hT h6
          go_wp2
          go_roundw
          case rel => exact ⟨k + 1, by omega, by go_num, S9.out⟩
          case measure => simp [intOf]; omega
        ·obtain rfl : k = B.pl := by omega
         have S9 : Hid (St w [] g (addsF c.cs X0 es) wr) := Lib.hid (by have := S1.out; rwa [List.take_of_length_le (by have := EL.out; omega)] at this)
         go_wp2
         go_ret
         exact ⟨g, rfl, by rw [HX0.out]; exact S9.out⟩
end Go.Proofs.YtabccmobmppdnaaGreat
namespace Go.Proofs.YtabccmobmppdnaaGreat
open Go Fk Go.RowKit
set_option linter.unusedVariables false
set_option maxRecDepth 16000
end Go.Proofs.YtabccmobmppdnaaGreat
namespace Go.Proofs.YtabccmobmppdnaaGreat
open Go Fk Go.RowKit
set_option linter.unusedVariables false
set_option maxRecDepth 8000
def heldB (c : Bc) (L : List Int) : Bool := bodyB c && riseB c.cs.length L
theorem bodyB_pl {B : Bd} {c : Bc} {w : World} (h : IsB w B c) (hb : bodyB c = true) : B.pl ≤ 64 := by
 have hl := h.1.1
 unfold bodyB validB at hb
 simp only [Bool.and_eq_true] at hb
 have := of_decide_eq_true hb.1.1.1.1.1
 omega
set_option maxHeartbeats 1000000 in
theorem impl_IsHeld (B : Bd) (c : Bc) (a : Option Addr) (len cap : Nat) (L : List Int) (w : World) (h : IsB w B c) (hL : IsIs w a len cap L) :
  Calls Tryz.prog 159 #[B.v, .slice a len cap] w fun e w' => e = .returned (.bool (heldB c L)) ∧ Below w.heap.size w w' := by
 have ui := Tryz.underlying44
 have uim := Tryz.underlying40
 have A0 : Hid (At (w.alloc (BoxB B 44)) w.heap.size B.l) := Lib.hid At.new
 have B0 : Hid (Below w.heap.size w (w.alloc (BoxB B 44))) := Lib.hid ((Below.refl _ _).alloc (Nat.le_refl _) _)
 have HL := Lib.hid (hL.below B0.out)
 have hpl := h.1.1
 have JV := Lib.hid (impl_ValidBody B c _ (h.below B0.out))
 unfold heldB
 rw [hpl]
 cases hv : bodyB c
 ·rw [hv] at JV
  clear hL h hv
  go_enter Tryz.func159, Tryz.ntmps159
  go_wp2_with fail
  change Calls _ _ _ (w.alloc (BoxB B 44)) _
  generalize (w.alloc (BoxB B 44)) = W at *
  refine JV.out.mono ?_
  rintro e w1 ⟨rfl, hB1⟩
  have B1 := Lib.hid (B0.out.trans (hB1.mono B0.out.size))
  clear hB1
  go_wp2
  go_ret
  exact ⟨rfl, B1.out⟩
 ·have h64 := bodyB_pl h hv
  rw [hv] at JV
  clear hL h hv
  go_enter Tryz.func159, Tryz.ntmps159
  go_wp2_with fail
  change Calls _ _ _ (w.alloc (BoxB B 44)) _
  generalize (w.alloc (BoxB B 44)) = W at *
  refine JV.out.mono ?_
  rintro e w1 ⟨rfl, hB1⟩
  have k0 := A0.out.below hB1 0 _ rfl
  have k1 := A0.out.below hB1 1 _ rfl
  have HL1 := Lib.hid (HL.out.below hB1)
  have B1 := Lib.hid (B0.out.trans (hB1.mono B0.out.size))
  clear hB1
  go_wp2_with fail
  refine (impl_isIndexSet _ _ _ _ _ _ HL1.out (by omega)).mono ?_
  rintro e w2 ⟨rfl, hw2⟩
  rw [hw2]
  clear hw2 w2
  go_wp2
  go_ret
  exact ⟨rfl, B1.out⟩
theorem l05Held (pb : Nat) (B : Bd) (c : Bc) (a : Option Addr) (len cap : Nat) (L : List Int) (w : World) (k0 : w.cell? ⟨pb, 0, none⟩ = some (.slice B.pa B.pl B.pc)) (hm : B.pl ≤ 9223372036854775807) (hL : IsIs w a len cap L) :
  Calls Tryz.prog 116 #[.pointer (some ⟨pb, 0, none⟩), .slice a len cap] w fun e w' => e = .returned (.bool (riseB B.pl L)) ∧ ∃ m, w' = w.drewN m := by
 have ui := Tryz.underlying44
 have uim := Tryz.underlying40
 have htw : IntKind.i64.wrap ((B.pl : Int) - 1) = (B.pl : Int) - 1 := IntWalk.i64_in _ (by omega)
 have J := Lib.hid (fun m => l00Rises a len cap B.pl L (w.drewN m) hL.drew)
 clear hL
 go_enter Tryz.func116, Tryz.ntmps116
 go_wp2_with fail
 refine (J.out 0).mono ?_
 rintro e w1 ⟨rfl, m, hw1⟩
 rw [hw1]
 clear hw1 w1
 go_wp2
 go_ret
 exact ⟨rfl, ⟨_, rfl⟩⟩
end Go.Proofs.YtabccmobmppdnaaGreat
namespace Go.Proofs.YtabccmobmppdnaaGreat
open Go Fk Go.RowKit
set_option linter.unusedVariables false
set_option maxRecDepth 16000
def zeroAt (X : List C3) (i : Int) : List C3 := X.set i.toNat (some 0, some 0, some 0)
def stillF (X : List C3) (L : List Int) : List C3 := L.foldl zeroAt X
theorem stillF_snoc (X : List C3) (L : List Int) (k : Nat) (hk : k < L.length) : stillF X (L.take (k + 1)) = zeroAt (stillF X (L.take k)) (L.getD k 0) := by
 unfold stillF
 rw [← List.take_append_getElem hk, List.foldl_append]
 show zeroAt _ L[k] = _
 rw [List.getD, List.getElem?_eq_getElem hk]
 rfl
theorem stillF_len (X : List C3) (L : List Int) : (stillF X L).length = X.length := by
 unfold stillF
 induction L generalizing X with
 | nil => rfl
 | cons z L ih => rw [List.foldl_cons, ih]; unfold zeroAt; rw [List.length_set]
theorem fz0 : F3 0 0 0 ((some 0, some 0, some 0) : C3) := ⟨⟨by decide, by decide⟩, ⟨by decide, by decide⟩, ⟨by decide, by decide⟩⟩
abbrev HbL (B : Bd) (ha la : Option Addr) (hl hc ln lc : Nat) : List Value := [.slice B.pa B.pl B.pc, .slice B.ta B.tl B.tc, .slice B.sa B.sl B.sc, .float .f32 B.film, .float .f32 B.bend, .slice B.wa B.wl B.wc, .float .f32 B.x, .float .f32 B.y, .float .f32 B.z, .slice ha hl hc, .slice la ln lc]
abbrev HbV (B : Bd) (ha la : Option Addr) (hl hc ln lc : Nat) : Value := .agg #[.slice B.pa B.pl B.pc, .slice B.ta B.tl B.tc, .slice B.sa B.sl B.sc, .float .f32 B.film, .float .f32 B.bend, .slice B.wa B.wl B.wc, .float .f32 B.x, .float .f32 B.y, .float .f32 B.z, .slice ha hl hc, .slice la ln lc]
set_option maxHeartbeats 4000000 in
theorem impl_still (B : Bd) (ha la : Option Addr) (hl hc ln lc : Nat) (L : List Int) (w W : World) (g pl cap : Nat) (X : List C3) (S : St w [] g X W) (hX : X.length = pl) (hL : IsIs w ha hl hc L) (hr : ∀ k, k < L.length → inB pl (L.getD k 0) = true) (hp : pl ≤ 1048576) :
  Calls Tryz.prog 130 #[HbV B ha la hl hc ln lc, .slice (some ⟨g, 0, none⟩) pl cap] W fun e w' => e = .returned (.tuple #[]) ∧ St w [] g (stillF X L) w' := by
 have uh := Tryz.underlying107
 have uv := Tryz.underlying42
 have hll := hL.1
 have hm : hl ≤ 9223372036854775807 := by have h1 := hL.2.1; have h2 := hL.2.2.1; unfold maxLen at h2; omega
 have S0 := Lib.hid (S.box (vs := HbL B ha la hl hc ln lc) (t := 107))
 have HL := Lib.hid hL
 have HR := Lib.hid hr
 have HX := Lib.hid hX
 clear S hL hr hX
 go_enter Tryz.func130, Tryz.ntmps130
 go_wp2
 generalize hW : (W.alloc (.cells #[.slice B.pa B.pl B.pc, .slice B.ta B.tl B.tc, .slice B.sa B.sl B.sc, .float .f32 B.film, .float .f32 B.bend, .slice B.wa B.wl B.wc, .float .f32 B.x, .float .f32 B.y, .float .f32 B.z, .slice ha hl hc, .slice la ln lc] 107)) = W1
 have S1 := Lib.hid S0.out.drop
 rw [show (W.alloc (.cells (HbL B ha la hl hc ln lc).toArray 107)) = W1 from hW] at S1
 clear S0 hW
 go_loopw [9] (fun i w' => ∃ k : Nat, k ≤ hl ∧ i = .int .i64 k ∧ Aside (St w [] g (stillF X (L.take k)) w')) (fun i _ => hl - (intOf i).toNat)
 case atStart => exact ⟨0, Nat.zero_le _, rfl, S1.out⟩
 case round =>
  obtain ⟨k, hk, rfl, hA⟩ := hrel
  have S2 := Lib.hid hA.out
  clear hA S1
  by_cases hlt : k < hl
  ·obtain ⟨b, o, rfl, hcell⟩ := (HL.out.below S2.out.bel).some (by omega)
   have hc0 := hcell k hlt
   have hk0 : (0 : Int) ≤ (k : Int) := by omega
   have hk1 : (k : Int) < (hl : Int) := by omega
   have hin := HR.out k (by omega)
   have HSN := Lib.hid (stillF_snoc X L k (by omega))
   clear hcell
   generalize L.getD k 0 = z at *
   have hz := of_decide_eq_true hin
   obtain ⟨j, rfl⟩ : ∃ j : Nat, z = (j : Int) := ⟨z.toNat, by omega⟩
   have hlx : (stillF X (L.take k)).length = pl := by rw [stillF_len]; exact HX.out
   have hj : j < (stillF X (L.take k)).length := by omega
   obtain ⟨u0, u1, u2, ⟨z0, z1, z2⟩, fu⟩ := S2.out.own.at hj
   have k0' := S2.out.own.2.1 (j * 3)
   have k1' := S2.out.own.2.1 (j * 3 + 1)
   have k2' := S2.out.own.2.1 (j * 3 + 2)
   have hj0 : (0 : Int) ≤ (j : Int) := by omega
   have hj1 : (j : Int) < (pl : Int) := by omega
   have S3 := Lib.hid (S2.out.put hj fz0)
   have hzz : zeroAt (stillF X (L.take k)) (j : Int) = (stillF X (L.take k)).set j (some 0, some 0, some 0) := rfl
   rw [← hzz, ← HSN.out] at S3
   clear hin hz hlx hj fu hzz HSN
   go_wp2
   go_roundw
   case rel => exact ⟨k + 1, by omega, by go_num, S3.out⟩
   case measure => simp [intOf]; omega
  ·obtain rfl : k = hl := by omega
   have S9 : Hid (St w [] g (stillF X L) wr) := Lib.hid (by have := S2.out; rwa [List.take_of_length_le (by omega)] at this)
   go_wp2
   exact ⟨rfl, .tuple #[], by first | exact results_none rfl _ _ _ | rfl | kernel_rfl, rfl, S9.out⟩
end Go.Proofs.YtabccmobmppdnaaGreat
namespace Go.Proofs.YtabccmobmppdnaaGreat
open Go Fk Go.RowKit
set_option linter.unusedVariables false
set_option maxRecDepth 16000
theorem rise_in {n : Nat} {L : List Int} (h : riseB n L = true) {k : Nat} (hk : k < L.length) : inB n (L.getD k 0) = true := by
 have := rise_at h hk
 unfold stepI at this
 simp only [Bool.and_eq_true] at this
 exact this.1
end Go.Proofs.YtabccmobmppdnaaGreat

/-
Texts in one: what EnergiesAlong stands on, part 9. Conditions: those of each.
-/
import Derived.Test.YtabccmobmppdnaaGreatKEnergiesAlong8
-- halved
namespace Go.Proofs.YtabccmobmppdnaaGreat
open Go Fk Go.RowKit
set_option linter.unusedVariables false
set_option maxRecDepth 16000
theorem getD_app1 {A B : List En} {k : Nat} {d : En} (h : k < A.length) : (A ++ B).getD k d = A.getD k d := by
 rw [List.getD, List.getElem?_append_left h, List.getD]
theorem getD_app2 {A B : List En} {n k : Nat} {d : En} (h : A.length = n) : (A ++ B).getD (n + k) d = B.getD k d := by
 rw [List.getD, List.getElem?_append_right (by omega), h, Nat.add_sub_cancel_left, List.getD]
theorem ens_parts {c : Bc} {sl tl pl : Nat} {hs : List (List Int)} (h1 : c.ss.length = sl) (h2 : c.ts.length = tl) (h3 : c.zs.length = pl) (h4 : hgT c.cs c.ts = hs) :
  (ens c).length = sl + tl + hs.length + pl ∧ (∀ k, k < sl → (ens c).getD k (.sp s0) = .sp (c.ss.getD k s0)) ∧ (∀ k, k < tl → (ens c).getD (sl + k) (.sp s0) = .fi (c.ts.getD k []) c.film) ∧ (∀ k, k < hs.length → (ens c).getD (sl + tl + k) (.sp s0) = .hi (hs.getD k []) c.bend) ∧ ∀ k, k < pl → (ens c).getD (sl + tl + hs.length + k) (.sp s0) = .we (k : Int) (cls .f32 (c.zs.getD k 0)) c.fall := by
 subst h1 h2 h3 h4
 unfold ens
 have hw : ∀ n, (ensW c.zs c.fall n).length = n := fun n => by simp [ensW]
 refine ⟨by simp [hw]; omega, fun k hk => ?_, fun k hk => ?_, fun k hk => ?_, fun k hk => ?_⟩
 ·rw [getD_app1 (by simp; omega), getD_app1 (by simp; omega), getD_app1 (by simpa using hk)]
  simp [List.getD, hk]
 ·rw [getD_app1 (by simp; omega), getD_app1 (by simp; omega), getD_app2 (by simp)]
  simp [List.getD, hk]
 ·rw [getD_app1 (by simp; omega), getD_app2 (by simp)]
  simp [List.getD, hk]
 ·rw [getD_app2 (by simp; omega)]
  exact ensW_get _ _ _ _ hk
theorem part_step {cs : List C3} {es : List En} {K i r : Nat} {e : En} {q : Nat → Nat} (hK : K < es.length) (he : es.getD K (.sp s0) = e) (hi : e.part = i) (hq : ∀ j, j < 4 → FV .f32 (q j) (partC cs (es.take K) j)) (hr : FV .f32 r (fop .add .f32 (partC cs (es.take K) i) (e.E cs))) : ∀ j, j < 4 → FV .f32 (upd q i r j) (partC cs (es.take (K + 1)) j) := fun j hj => by
 rw [partC_s cs es hK j, he]
 unfold upd
 by_cases h : j = i
 ·subst h
  rw [if_pos rfl, if_pos hi]
  exact hr
 ·rw [if_neg h, if_neg (fun e' => h (by rw [← e', hi]))]
  exact hq j hj
theorem Bx.swap {w w1 : World} {L : List (Nat × List Value)} {x y : Nat × List Value} (h : Bx w (x :: y :: L) w1) : Bx w (y :: x :: L) w1 := ⟨h.1, fun b l hm => h.2 b l (by
 rcases List.mem_cons.1 hm with e | hm
 ·rw [e]; exact .tail _ (.head _)
 ·rcases List.mem_cons.1 hm with e | hm
  ·rw [e]; exact .head _
  ·exact .tail _ (.tail _ hm))⟩
theorem Bx.one {w w1 : World} {L : List (Nat × List Value)} {x : Nat × List Value} (h : Bx w (x :: L) w1) : Bx w [x] w1 := ⟨h.1, fun b l hm => h.2 b l (by
 rcases List.mem_cons.1 hm with e | hm
 ·rw [e]; exact .head _
 ·cases hm)⟩
set_option maxHeartbeats 16000000 in
theorem l03Parts (pb : Nat) (B : Bd) (c : Bc) (w : World) (A : At w pb B.l) (h : IsB w B c) (hb : bodyB c = true) :
  Calls Tryz.prog 142 #[.pointer (some ⟨pb, 0, none⟩)] w fun e w' => ∃ p sb, e = .returned (.slice (some ⟨sb, 0, none⟩) 4 4) ∧ Bx w [(sb, fl4 p)] w' ∧ ∀ j, j < 4 → FV .f32 (p j) (partC c.cs (ens c) j) := by
 have uib := Tryz.underlying44
 have um := Tryz.underlying40
 have uv := Tryz.underlying42
 have us := Tryz.underlying166
 have u32 := Tryz.underlying27
 obtain ⟨i0, hi, hz0, hz1, hz2⟩ := info_parts info32
 have hmk : (Instr.makeSlice 28 (.int .i64 4) (.int .i64 4)).run Tryz.prog w = .ok (.slice (some ⟨w.heap.size, 0, none⟩) 4 4) (w.alloc (.cells #[.float .f32 0, .float .f32 0, .float .f32 0, .float .f32 0] 27)) := by
  have := run_make (P := Tryz.prog) w 28 27 i0 (.float .f32 0) Tryz.underlying28 hi hz0 .i64 .i64 4 4 (by omega) (by omega) (by rw [hz2]; omega) (by omega)
  have hmc : madeCells (Value.float .f32 0).cells (Int.toNat 4 * 1) = #[.float .f32 0, .float .f32 0, .float .f32 0, .float .f32 0] := by first | decide | kernel_rfl | (unfold madeCells; rfl) | (unfold madeCells; simp [Value.cells]; rfl)
  rw [this, hz1, hmc]; rfl
 obtain ⟨hvb, hzl⟩ := body_valid hb
 obtain ⟨v1, v2⟩ := body_ss hb
 obtain ⟨w1, w2⟩ := valid_pl hvb
 have hh4 := hgT_len hvb
 obtain ⟨k1, k2, k3, k4⟩ := h.lens
 have hpl : c.cs.length = B.pl := k1
 rw [hpl, k3] at v2
 have V2 := Lib.hid v2
 have HWR : Hid (∀ k, k < B.tl → triB B.pl (c.ts.getD k []) = true) := Lib.hid (fun k hk => by
  have h1 : k < c.ts.length := by omega
  have := valid_rowh hvb h1
  rwa [hpl] at this)
 have HRH : Hid (∀ k, k < (hgT c.cs c.ts).length → ((hgT c.cs c.ts).getD k []).length = 4 ∧ (∀ z ∈ (hgT c.cs c.ts).getD k [], (Lit.int .i64 z).wf = true) ∧ ∀ i, i < 4 → inB B.pl (((hgT c.cs c.ts).getD k []).getD i 0) = true) := Lib.hid (fun k hk => by
  have hm : (hgT c.cs c.ts).getD k [] ∈ hgT c.cs c.ts := by
   rw [List.getD, List.getElem?_eq_getElem hk]
   exact List.getElem_mem _
  generalize (hgT c.cs c.ts).getD k [] = r at *
  unfold hgT at hm
  rw [hvb, cond_true] at hm
  obtain ⟨a, b, hab, hbn, rfl, h4⟩ := hgK_mem hm
  have hl := hrow_four h4
  have hin := hrow_in (n := c.cs.length) (fun i (hi : i < c.ts.length) => tri3_of (valid_rowh hvb hi)) hab hbn
  refine ⟨hl, fun z hz => WalkArith.wf_i64 (by have := hin z hz; omega), fun i hi => ?_⟩
  generalize hrow c.ts ((a : Int), (b : Int)) = r at *
  have hm2 : r.getD i 0 ∈ r := by
   have hir : i < r.length := by omega
   rw [List.getD, List.getElem?_eq_getElem hir]
   exact List.getElem_mem _
  have := hin _ hm2
  unfold inB
  exact decide_eq_true ⟨this.1, by omega⟩)
 have HHG : Hid (∀ w1 : World, Below w.heap.size w w1 → Calls Tryz.prog 168 #[.pointer (some ⟨pb, 0, none⟩)] w1 fun e w' => (∃ v, e = .returned v ∧ OwnT w1.heap.size w' v (hgT c.cs c.ts).length (hgT c.cs c.ts)) ∧ Below w1.heap.size w1 w') := Lib.hid (fun w1 hB => l03Hinges pb B.pa B.ta B.pl B.pc B.tl B.tc c.cs c.ts w1 (cell_below hB (A 0 _ rfl)) (cell_below hB (A 1 _ rfl)) (h.below hB).1 (h.below hB).2.1 hvb)
 generalize hhs : hgT c.cs c.ts = hs at *
 obtain ⟨e0, e1, e2, e3, e4⟩ := ens_parts k3 k2 (k4.trans (k4.symm.trans (hzl.trans hpl))) hhs
 generalize ens c = es at *
 have EL := Lib.hid e0
 have E1 := Lib.hid e1
 have E2 := Lib.hid e2
 have E3 := Lib.hid e3
 have E4 := Lib.hid e4
 have HWL : Hid (B.wl = B.pl) := Lib.hid (by omega)
 have HLEN : Hid (B.sl ≤ 200 ∧ B.tl ≤ 128 ∧ B.pl ≤ 64 ∧ hs.length ≤ 4096) := Lib.hid (by omega)
 have HA := Lib.hid A
 have H := Lib.hid h
 have BX : Hid (Bx w [(w.heap.size, fl4 fun _ => 0)] (w.alloc (.cells #[.float .f32 0, .float .f32 0, .float .f32 0, .float .f32 0] 27))) := Lib.hid ((Bx.nil w).box (vs := fl4 fun _ => 0) (t := 27))
 have a2 := cell_below BX.out.bel (A 2 _ rfl)
 clear v1 v2 w1 w2 hh4 k1 k2 k3 k4 hpl e0 e1 e2 e3 e4 h A hb hvb hzl hhs
 go_enter Tryz.func142, Tryz.ntmps142
 go_wp2
 clear a2
 generalize (w.alloc (.cells #[.float .f32 0, .float .f32 0, .float .f32 0, .float .f32 0] 27)) = W at *
 generalize hsb : w.heap.size = sb at BX ⊢
 have HSB := Lib.hid hsb
 clear hsb hmk
 go_loopw [22] (fun i w' => ∃ k : Nat, k ≤ B.sl ∧ i = .int .i64 k ∧ Aside (∃ p, Bx w [(sb, fl4 p)] w' ∧ ∀ j, j < 4 → FV .f32 (p j) (partC c.cs (es.take (k)) j))) (fun i _ => B.sl - (intOf i).toNat)
 case atStart => exact ⟨0, Nat.zero_le _, rfl, _, BX.out, fun j _ => (⟨by decide, by decide⟩ : FV .f32 0 (some 0))⟩
 case round =>
  obtain ⟨k, hk, rfl, hA⟩ := hrel
  obtain ⟨p, hBX, hF⟩ := hA.out
  have BX := Lib.hid hBX
  have HFK := Lib.hid hF
  clear hA hBX hF
  by_cases hlt : k < B.sl
  ·have hIB := H.out.below BX.out.bel
   obtain ⟨bs, os, hbs, hsp⟩ := hIB.2.2.1.some (by omega)
   obtain ⟨x, y, e0, e1, e2, e3, fx, fy⟩ := hsp k hlt
   obtain ⟨hi1, hi2⟩ := V2.out k hlt
   obtain ⟨m, hm', hm⟩ := inB_nat hi1
   obtain ⟨n, hn', hn⟩ := inB_nat hi2
   obtain ⟨bp, op, hbp, hcp⟩ := H.out.1.some (by omega)
   obtain ⟨p0, q0, r0, d00, d01, d02, f00, f01, f02⟩ := hcp n hn
   obtain ⟨p1, q1, r1, d10, d11, d12, f10, f11, f12⟩ := hcp m hm
   have HE := Lib.hid (E1.out k hlt)
   have HLATE : Hid (lateC c.cs (c.ss.getD k s0) = fop .sub .f32 (longC (lessC (c.cs.getD n c0) (c.cs.getD m c0))) (c.ss.getD k s0).2.2.1) := Lib.hid (by
    unfold lateC wayC
    rw [hm', hn']
    rfl)
   rw [hm'] at e0
   rw [hn'] at e1
   have A0' := HA.out 0 _ rfl
   rw [hbp] at A0'
   have A0 := Lib.hid A0'
   have b2 := cell_below BX.out.bel (HA.out 2 _ rfl)
   rw [hbs] at b2
   have m0 : (0 : Int) ≤ (m : Int) := by omega
   have m1 : (m : Int) < (B.pl : Int) := by omega
   have n0 : (0 : Int) ≤ (n : Int) := by omega
   have n1 : (n : Int) < (B.pl : Int) := by omega
   have hk0 : (0 : Int) ≤ (k : Int) := by omega
   have hk1 : (k : Int) < (B.sl : Int) := by omega
   have lt0 := World.block_lt_of_cell? _ _ e0
   generalize hsk : c.ss.getD k s0 = sk at *
   have BX2' : Bx w [(sb, fl4 p), (wr.heap.size, [.int .i64 (m : Int), .int .i64 (n : Int), .float .f32 x, .float .f32 y])] (wr.alloc (.cells #[.int .i64 (m : Int), .int .i64 (n : Int), .float .f32 x, .float .f32 y] 166)) := (BX.out.box (vs := [.int .i64 (m : Int), .int .i64 (n : Int), .float .f32 x, .float .f32 y]) (t := 166)).swap
   have BX2 := Lib.hid BX2'
   have HD : Hid (∀ y' ∈ [(wr.heap.size, [Value.int .i64 (m : Int), .int .i64 (n : Int), .float .f32 x, .float .f32 y])], y'.1 ≠ sb) := Lib.hid (fun y' hy => by
    simp at hy; subst hy
    have := (BX.out.2 _ _ (.head _)).2.2.1
    show wr.heap.size ≠ sb
    omega)
   have D0 := Lib.hid (And.intro d00 (And.intro d01 d02))
   have D1 := Lib.hid (And.intro d10 (And.intro d11 d12))
   have F0 := Lib.hid (And.intro f00 (And.intro f01 f02))
   have F1 := Lib.hid (And.intro f10 (And.intro f11 f12))
   have FX := Lib.hid (And.intro fx fy)
   clear hsp hcp hi1 hi2 hm' hn' hm hn hIB d00 d01 d02 d10 d11 d12 f00 f01 f02 f10 f11 f12 hbp hbs A0' BX2' fx fy
   go_wp2_with fail
   clear e0 e1 e2 e3 b2 BX
   generalize (wr.alloc (.cells #[.int .i64 (m : Int), .int .i64 (n : Int), .float .f32 x, .float .f32 y] 166)) = W2 at *
   generalize wr.heap.size = X at *
   refine Reg.wp_region_mix (C := Bx w [(sb, fl4 p), (X, [.int .i64 (m : Int), .int .i64 (n : Int), .float .f32 x, .float .f32 y])]) (G := fun _ _ => True) (R := fun i v w' => match i with | 0 => v = .pointer (some ⟨pb, 0, none⟩) | 1 => v = .pointer (some ⟨pb, 0, none⟩) | 2 => v = .pointer (some ⟨pb, 0, none⟩) | 3 => v = .slice (some ⟨bp, op, none⟩) B.pl B.pc | 4 => v = .pointer (some ⟨X, 1, none⟩) | 5 => v = .int .i64 (n : Int) | 6 => v = .pointer (some ⟨bp, op + n * 3, none⟩) | 7 => v = vv p0 q0 r0 | 8 => v = .pointer (some ⟨pb, 0, none⟩) | 9 => v = .pointer (some ⟨pb, 0, none⟩) | 10 => v = .pointer (some ⟨pb, 0, none⟩) | 11 => v = .slice (some ⟨bp, op, none⟩) B.pl B.pc | 12 => v = .pointer (some ⟨X, 0, none⟩) | 13 => v = .int .i64 (m : Int) | 14 => v = .pointer (some ⟨bp, op + m * 3, none⟩) | 15 => v = vv p1 q1 r1 | 16 => ∃ p q r, v = vv p q r ∧ F3 p q r (lessC (c.cs.getD n c0) (c.cs.getD m c0)) | 17 => ∃ r, v = .float .f32 r ∧ FV .f32 r (longC (lessC (c.cs.getD n c0) (c.cs.getD m c0))) | 18 => v = .pointer (some ⟨X, 2, none⟩) | 19 => v = .float .f32 x | 20 => ∃ r, v = .float .f32 r ∧ FV .f32 r (fop .sub .f32 (longC (lessC (c.cs.getD n c0) (c.cs.getD m c0))) sk.2.2.1) | 21 => ∃ r, v = .float .f32 r ∧ FV .f32 r (fop .sub .f32 (longC (lessC (c.cs.getD n c0) (c.cs.getD m c0))) sk.2.2.1) | _ => True) (T := fun _ _ _ => True) [false, false, false, false, false, false, false, true, false, false, false, false, false, false, false, false, false, false, false, false, false, false, false, false, false, false, false, false, false, false, false, false, true, true, true, true, true, true, true, true, true, true, true, true, true, true, true, true, true, true, true, true, true, false, false, false, false, false, false, false, false, false, false, false, false, false, false, false, false, false, false, false, false, false, false, false, false, false, false, false, false, false, false, false, false, false, false, false, false, false, false, false, false, false, false, false, false, false, false, false, false, false, false, false, false, false, false, false, false, false, false, false, false, false, false, false, false, false, false, false, false, false, false, false, false, false, false, false, false, false, false, false, false, false, false, false, false, false, false, false, false, false, false, false, false, false, false, false, false, false, false, false, false, false, false, false, false, false, false, false]
    (by kernel_rfl) (by kernel_rfl) (by kernel_rfl) (fun _ _ _ _ _ _ h => h) (BX2.out.drewN 1) ?_ ?_
   ·refine ⟨Reg.Obl.mk ?_, Reg.Obl.mk ?_, Reg.Obl.mk ?_, Reg.Obl.mk ?_, Reg.Obl.mk ?_, Reg.Obl.mk ?_, Reg.Obl.mk ?_, Reg.Obl.mk ?_, Reg.Obl.mk ?_, Reg.Obl.mk ?_, Reg.Obl.mk ?_, Reg.Obl.mk ?_, Reg.Obl.mk ?_, Reg.Obl.mk ?_, Reg.Obl.mk ?_, Reg.Obl.mk ?_, Reg.Obl.mk ?_, Reg.Obl.mk ?_, Reg.Obl.mk ?_, Reg.Obl.mk ?_, Reg.Obl.mk ?_, Reg.Obl.mk ?_, trivial⟩
    ·rintro a w1 HC hx hd K hK
     replace HC := Lib.hid HC
     have t4 : a.tmps[4]?.getD undef = .pointer (some ⟨pb, 0, none⟩) := Reg.slot_val (hx 4 (by kernel_rfl))
     go_simp
     exact hK _ _ (fun _ => rfl) (fun h => by cases h) HC.out trivial
    ·rintro a w1 HC hx hd K hK
     replace HC := Lib.hid HC
     have t32 : a.tmps[32]?.getD undef = .pointer (some ⟨pb, 0, none⟩) := Reg.slot_val (hd 0 (by kernel_rfl) 32 rfl)
     go_simp
     exact hK _ _ (fun _ => rfl) (fun h => by cases h) HC.out trivial
    ·rintro a w1 HC hx hd K hK
     replace HC := Lib.hid HC
     have t33 : a.tmps[33]?.getD undef = .pointer (some ⟨pb, 0, none⟩) := Reg.slot_val (hd 1 (by kernel_rfl) 33 rfl)
     go_simp
     exact hK _ _ (fun _ => rfl) (fun h => by cases h) HC.out trivial
    ·rintro a w1 HC hx hd K hK
     replace HC := Lib.hid HC
     have y9 := cell_below HC.out.bel A0.out
     have t34 : a.tmps[34]?.getD undef = .pointer (some ⟨pb, 0, none⟩) := Reg.slot_val (hd 2 (by kernel_rfl) 34 rfl)
     go_simp
     exact hK _ _ (fun _ => rfl) (fun h => by cases h) HC.out trivial
    ·rintro a w1 HC hx hd K hK
     replace HC := Lib.hid HC
     have t6 : a.tmps[6]?.getD undef = .pointer (some ⟨X, 0, none⟩) := Reg.slot_val (hx 6 (by kernel_rfl))
     go_simp
     exact hK _ _ (fun _ => rfl) (fun h => by cases h) HC.out trivial
    ·rintro a w1 HC hx hd K hK
     replace HC := Lib.hid HC
     have x1 := (HC.out.mem (.tail _ (.head _))) 1 _ rfl
     have t36 : a.tmps[36]?.getD undef = .pointer (some ⟨X, 1, none⟩) := Reg.slot_val (hd 4 (by kernel_rfl) 36 rfl)
     go_simp
     exact hK _ _ (fun _ => rfl) (fun h => by cases h) HC.out trivial
    ·rintro a w1 HC hx hd K hK
     replace HC := Lib.hid HC
     have t35 : a.tmps[35]?.getD undef = .slice (some ⟨bp, op, none⟩) B.pl B.pc := Reg.slot_val (hd 3 (by kernel_rfl) 35 rfl)
     have t37 : a.tmps[37]?.getD undef = .int .i64 (n : Int) := Reg.slot_val (hd 5 (by kernel_rfl) 37 rfl)
     go_simp
     exact hK _ _ (fun _ => rfl) (fun h => by cases h) HC.out trivial
    ·rintro a w1 HC hx hd K hK
     replace HC := Lib.hid HC
     have y0 := cell_below HC.out.bel D0.out.1
     have y1 := cell_below HC.out.bel D0.out.2.1
     have y2 := cell_below HC.out.bel D0.out.2.2
     have t38 : a.tmps[38]?.getD undef = .pointer (some ⟨bp, op + n * 3, none⟩) := Reg.slot_val (hd 6 (by kernel_rfl) 38 rfl)
     go_simp
     exact hK _ _ (fun _ => rfl) (fun h => by cases h) HC.out trivial
    ·rintro a w1 HC hx hd K hK
     replace HC := Lib.hid HC
     have t4 : a.tmps[4]?.getD undef = .pointer (some ⟨pb, 0, none⟩) := Reg.slot_val (hx 4 (by kernel_rfl))
     go_simp
     exact hK _ _ (fun _ => rfl) (fun h => by cases h) HC.out trivial
    ·rintro a w1 HC hx hd K hK
     replace HC := Lib.hid HC
     have t40 : a.tmps[40]?.getD undef = .pointer (some ⟨pb, 0, none⟩) := Reg.slot_val (hd 8 (by kernel_rfl) 40 rfl)
     go_simp
     exact hK _ _ (fun _ => rfl) (fun h => by cases h) HC.out trivial
    ·rintro a w1 HC hx hd K hK
     replace HC := Lib.hid HC
     have t41 : a.tmps[41]?.getD undef = .pointer (some ⟨pb, 0, none⟩) := Reg.slot_val (hd 9 (by kernel_rfl) 41 rfl)
     go_simp
     exact hK _ _ (fun _ => rfl) (fun h => by cases h) HC.out trivial
    ·rintro a w1 HC hx hd K hK
     replace HC := Lib.hid HC
     have y9 := cell_below HC.out.bel A0.out
     have t42 : a.tmps[42]?.getD undef = .pointer (some ⟨pb, 0, none⟩) := Reg.slot_val (hd 10 (by kernel_rfl) 42 rfl)
     go_simp
     exact hK _ _ (fun _ => rfl) (fun h => by cases h) HC.out trivial
    ·rintro a w1 HC hx hd K hK
     replace HC := Lib.hid HC
     have t6 : a.tmps[6]?.getD undef = .pointer (some ⟨X, 0, none⟩) := Reg.slot_val (hx 6 (by kernel_rfl))
     go_simp
     exact hK _ _ (fun _ => rfl) (fun h => by cases h) HC.out trivial
    ·rintro a w1 HC hx hd K hK
     replace HC := Lib.hid HC
     have x0 := (HC.out.mem (.tail _ (.head _))) 0 _ rfl
     have t44 : a.tmps[44]?.getD undef = .pointer (some ⟨X, 0, none⟩) := Reg.slot_val (hd 12 (by kernel_rfl) 44 rfl)
     go_simp
     exact hK _ _ (fun _ => rfl) (fun h => by cases h) HC.out trivial
    ·rintro a w1 HC hx hd K hK
     replace HC := Lib.hid HC
     have t43 : a.tmps[43]?.getD undef = .slice (some ⟨bp, op, none⟩) B.pl B.pc := Reg.slot_val (hd 11 (by kernel_rfl) 43 rfl)
     have t45 : a.tmps[45]?.getD undef = .int .i64 (m : Int) := Reg.slot_val (hd 13 (by kernel_rfl) 45 rfl)
     go_simp
     exact hK _ _ (fun _ => rfl) (fun h => by cases h) HC.out trivial
    ·rintro a w1 HC hx hd K hK
     replace HC := Lib.hid HC
     have y0 := cell_below HC.out.bel D1.out.1
     have y1 := cell_below HC.out.bel D1.out.2.1
     have y2 := cell_below HC.out.bel D1.out.2.2
     have t46 : a.tmps[46]?.getD undef = .pointer (some ⟨bp, op + m * 3, none⟩) := Reg.slot_val (hd 14 (by kernel_rfl) 46 rfl)
     go_simp
     exact hK _ _ (fun _ => rfl) (fun h => by cases h) HC.out trivial
    ·rintro a w1 HC hx hd K hK
     replace HC := Lib.hid HC
     have t39 : a.tmps[39]?.getD undef = vv p0 q0 r0 := Reg.slot_val (hd 7 (by kernel_rfl) 39 rfl)
     have t47 : a.tmps[47]?.getD undef = vv p1 q1 r1 := Reg.slot_val (hd 15 (by kernel_rfl) 47 rfl)
     go_simp
     refine (l01Less _ _ _ _ _ _ _ _ _ _ _ _ _ F0.out.1 F0.out.2.1 F0.out.2.2 F1.out.1 F1.out.2.1 F1.out.2.2).mono ?_
     rintro en w2 ⟨p', q', r', rfl, fp', fq', fr', hB2⟩
     exact hK _ _ (fun _ => ⟨p', q', r', rfl, fp', fq', fr'⟩) (fun h => by cases h) (HC.out.call hB2) trivial
    ·rintro a w1 HC hx hd K hK
     replace HC := Lib.hid HC
     obtain ⟨p48, q48, r48, g48, f48⟩ := hd 16 (by kernel_rfl) 48 rfl
     have t48 := Reg.slot_val g48
     clear g48
     go_simp
     refine (l01Long _ _ _ _ _ _ _ f48.1 f48.2.1 f48.2.2).mono ?_
     rintro en w2 ⟨r, rfl, hr, hB2⟩
     exact hK _ _ (fun _ => ⟨r, rfl, hr⟩) (fun h => by cases h) (HC.out.call hB2) trivial
    ·rintro a w1 HC hx hd K hK
     replace HC := Lib.hid HC
     have t6 : a.tmps[6]?.getD undef = .pointer (some ⟨X, 0, none⟩) := Reg.slot_val (hx 6 (by kernel_rfl))
     go_simp
     exact hK _ _ (fun _ => rfl) (fun h => by cases h) HC.out trivial
    ·rintro a w1 HC hx hd K hK
     replace HC := Lib.hid HC
     have x2 := (HC.out.mem (.tail _ (.head _))) 2 _ rfl
     have t50 : a.tmps[50]?.getD undef = .pointer (some ⟨X, 2, none⟩) := Reg.slot_val (hd 18 (by kernel_rfl) 50 rfl)
     go_simp
     exact hK _ _ (fun _ => rfl) (fun h => by cases h) HC.out trivial
    ·rintro a w1 HC hx hd K hK
     replace HC := Lib.hid HC
     obtain ⟨r49, g49, f49⟩ := hd 17 (by kernel_rfl) 49 rfl
     have t49 := Reg.slot_val g49
     clear g49
     have t51 : a.tmps[51]?.getD undef = .float .f32 x := Reg.slot_val (hd 19 (by kernel_rfl) 51 rfl)
     go_simp
     exact hK _ _ (fun _ => ⟨_, rfl, FV_fR f49 FX.out.1⟩) (fun h => by cases h) (HC.out.drewN _) trivial
    ·rintro a w1 HC hx hd K hK
     replace HC := Lib.hid HC
     obtain ⟨r52, g52, f52⟩ := hd 20 (by kernel_rfl) 52 rfl
     have t52 := Reg.slot_val g52
     clear g52
     go_simp
     exact hK _ _ (fun _ => ⟨_, rfl, f52⟩) (fun h => by cases h) HC.out trivial
   ·rintro f W3 hC hR hT
    obtain ⟨z, e7, hz⟩ := hR 21 7 rfl
    simp only [Reg.mixL, Nat.zero_add, Nat.reduceAdd, e7]
    have BX3 := Lib.hid hC
    have HZ : Hid (FV .f32 z (lateC c.cs sk)) := Lib.hid (by rw [HLATE.out]; exact hz)
    have HF := Lib.hid (HFK.out 0 (by decide))
    generalize hcc : partC c.cs (List.take k es) 0 = cc at HF
    clear hC hR hT hz e7 BX2
    go_wp2_with fail
    refine Reg3.wp_region_mix (C := Bx w [(sb, fl4 p), (X, [.int .i64 (m : Int), .int .i64 (n : Int), .float .f32 x, .float .f32 y])]) (G := fun _ _ => True) (R := fun i v w' => match i with | 0 => v = .slice (some ⟨sb, 0, none⟩) 4 4 | 1 => v = .pointer (some ⟨sb, 0, none⟩) | 2 => v = .float .f32 (p 0) | 3 => v = .pointer (some ⟨X, 3, none⟩) | 4 => v = .float .f32 y | 5 => ∃ r, v = .float .f32 r ∧ FV .f32 r (fop .mul .f32 halfC sk.2.2.2) | 6 => v = .float .f32 z | 7 => v = .float .f32 z | 8 => ∃ r, v = .float .f32 r ∧ FV .f32 r (fop .mul .f32 (lateC c.cs sk) (lateC c.cs sk)) | 9 => ∃ r, v = .float .f32 r ∧ FV .f32 r (fop .mul .f32 (fop .mul .f32 halfC sk.2.2.2) (fop .mul .f32 (lateC c.cs sk) (lateC c.cs sk))) | 10 => ∃ r, v = .float .f32 r ∧ FV .f32 r (fop .add .f32 cc (fop .mul .f32 (fop .mul .f32 halfC sk.2.2.2) (fop .mul .f32 (lateC c.cs sk) (lateC c.cs sk)))) | 11 => v = .pointer (some ⟨sb, 0, none⟩) | _ => True) (T := fun _ _ w' => ∃ r, FV .f32 r (fop .add .f32 cc (fop .mul .f32 (fop .mul .f32 halfC sk.2.2.2) (fop .mul .f32 (lateC c.cs sk) (lateC c.cs sk)))) ∧ Bx w ((sb, fl4 (upd p 0 r)) :: [(X, [.int .i64 (m : Int), .int .i64 (n : Int), .float .f32 x, .float .f32 y])]) w') [false, false, false, false, false, false, false, false, false, false, false, false, false, false, false, false, false, false, false, false, false, false, false, false, false, false, false, false, false, false, false, false, false, false, false, false, false, false, false, false, false, false, false, false, false, false, false, false, false, false, false, false, false, true, true, true, true, true, true, true, true, true, true, true, true, false, false, false, false, false, false, false, false, false, false, false, false, false, false, false, false, false, false, false, false, false, false, false, false, false, false, false, false, false, false, false, false, false, false, false, false, false, false, false, false, false, false, false, false, false, false, false, false, false, false, false, false, false, false, false, false, false, false, false, false, false, false, false, false, false, false, false, false, false, false, false, false, false, false, false, false, false, false, false, false, false, false, false, false, false, false, false, false, false, false, false, false, false, false, false]
     (by kernel_rfl) (by kernel_rfl) (by kernel_rfl) (fun _ _ _ _ _ _ h => h) (BX3.out.drewN 1) ?_ ?_
    ·refine ⟨Reg3.Obl.mk ?_, Reg3.Obl.mk ?_, Reg3.Obl.mk ?_, Reg3.Obl.mk ?_, Reg3.Obl.mk ?_, Reg3.Obl.mk ?_, Reg3.Obl.mk ?_, Reg3.Obl.mk ?_, Reg3.Obl.mk ?_, Reg3.Obl.mk ?_, Reg3.Obl.mk ?_, Reg3.Obl.mk ?_, Reg3.Obl.mk ?_, trivial⟩
     ·rintro a w1 HC hx hd K hK
      replace HC := Lib.hid HC
      have t3 : a.tmps[3]?.getD undef = .slice (some ⟨sb, 0, none⟩) 4 4 := Reg.slot_val (hx 3 (by kernel_rfl))
      go_simp
      exact hK _ _ (fun _ => rfl) (fun h => by cases h) (fun _ => HC.out) trivial
     ·rintro a w1 HC hx hd K hK
      replace HC := Lib.hid HC
      have t53 : a.tmps[53]?.getD undef = .slice (some ⟨sb, 0, none⟩) 4 4 := Reg.slot_val (hd 0 (by kernel_rfl) 53 rfl)
      go_simp
      exact hK _ _ (fun _ => rfl) (fun h => by cases h) (fun _ => HC.out) trivial
     ·rintro a w1 HC hx hd K hK
      replace HC := Lib.hid HC
      have z9 := (HC.out.mem (.head _)) 0 _ rfl
      have t54 : a.tmps[54]?.getD undef = .pointer (some ⟨sb, 0, none⟩) := Reg.slot_val (hd 1 (by kernel_rfl) 54 rfl)
      go_simp
      exact hK _ _ (fun _ => rfl) (fun h => by cases h) (fun _ => HC.out) trivial
     ·rintro a w1 HC hx hd K hK
      replace HC := Lib.hid HC
      have t6 : a.tmps[6]?.getD undef = .pointer (some ⟨X, 0, none⟩) := Reg.slot_val (hx 6 (by kernel_rfl))
      go_simp
      exact hK _ _ (fun _ => rfl) (fun h => by cases h) (fun _ => HC.out) trivial
     ·rintro a w1 HC hx hd K hK
      replace HC := Lib.hid HC
      have x3 := (HC.out.mem (.tail _ (.head _))) 3 _ rfl
      have t56 : a.tmps[56]?.getD undef = .pointer (some ⟨X, 3, none⟩) := Reg.slot_val (hd 3 (by kernel_rfl) 56 rfl)
      go_simp
      exact hK _ _ (fun _ => rfl) (fun h => by cases h) (fun _ => HC.out) trivial
     ·rintro a w1 HC hx hd K hK
      replace HC := Lib.hid HC
      have t57 : a.tmps[57]?.getD undef = .float .f32 y := Reg.slot_val (hd 4 (by kernel_rfl) 57 rfl)
      go_simp
      exact hK _ _ (fun _ => ⟨_, rfl, FV_fR half_FV FX.out.2⟩) (fun h => by cases h) (fun _ => HC.out.drewN _) trivial
     ·rintro a w1 HC hx hd K hK
      replace HC := Lib.hid HC
      have t7 : a.tmps[7]?.getD undef = .float .f32 z := Reg.slot_val (hx 7 (by kernel_rfl))
      go_simp
      exact hK _ _ (fun _ => rfl) (fun h => by cases h) (fun _ => HC.out) trivial
     ·rintro a w1 HC hx hd K hK
      replace HC := Lib.hid HC
      have t7 : a.tmps[7]?.getD undef = .float .f32 z := Reg.slot_val (hx 7 (by kernel_rfl))
      go_simp
      exact hK _ _ (fun _ => rfl) (fun h => by cases h) (fun _ => HC.out) trivial
     ·rintro a w1 HC hx hd K hK
      replace HC := Lib.hid HC
      have t59 : a.tmps[59]?.getD undef = .float .f32 z := Reg.slot_val (hd 6 (by kernel_rfl) 59 rfl)
      have t60 : a.tmps[60]?.getD undef = .float .f32 z := Reg.slot_val (hd 7 (by kernel_rfl) 60 rfl)
      go_simp
      exact hK _ _ (fun _ => ⟨_, rfl, FV_fR HZ.out HZ.out⟩) (fun h => by cases h) (fun _ => HC.out.drewN _) trivial
     ·rintro a w1 HC hx hd K hK
      replace HC := Lib.hid HC
      obtain ⟨r58, g58, f58⟩ := hd 5 (by kernel_rfl) 58 rfl
      have t58 := Reg.slot_val g58
      clear g58
      obtain ⟨r61, g61, f61⟩ := hd 8 (by kernel_rfl) 61 rfl
      have t61 := Reg.slot_val g61
      clear g61
      go_simp
      exact hK _ _ (fun _ => ⟨_, rfl, FV_fR f58 f61⟩) (fun h => by cases h) (fun _ => HC.out.drewN _) trivial
     ·rintro a w1 HC hx hd K hK
      replace HC := Lib.hid HC
      have t55 : a.tmps[55]?.getD undef = .float .f32 (p 0) := Reg.slot_val (hd 2 (by kernel_rfl) 55 rfl)
      obtain ⟨r62, g62, f62⟩ := hd 9 (by kernel_rfl) 62 rfl
      have t62 := Reg.slot_val g62
      clear g62
      go_simp
      exact hK _ _ (fun _ => ⟨_, rfl, FV_fR HF.out f62⟩) (fun h => by cases h) (fun _ => HC.out.drewN _) trivial
     ·rintro a w1 HC hx hd K hK
      replace HC := Lib.hid HC
      have t53 : a.tmps[53]?.getD undef = .slice (some ⟨sb, 0, none⟩) 4 4 := Reg.slot_val (hd 0 (by kernel_rfl) 53 rfl)
      go_simp
      exact hK _ _ (fun _ => rfl) (fun h => by cases h) (fun _ => HC.out) trivial
     ·rintro a w1 HC hx hd K hK
      replace HC := Lib.hid HC
      have z9 := (HC.out.mem (.head _)) 0 _ rfl
      have k9 := HC.out.free (.head _) 0
      have t64 : a.tmps[64]?.getD undef = .pointer (some ⟨sb, 0, none⟩) := Reg.slot_val (hd 11 (by kernel_rfl) 64 rfl)
      obtain ⟨r63, g63, f63⟩ := hd 10 (by kernel_rfl) 63 rfl
      have t63 := Reg.slot_val g63
      clear g63
      go_simp
      exact hK undef _ (fun h => absurd rfl h) (fun _ => ⟨_, f63, by rw [← fl4_set p (i := 0) (by decide)]; exact HC.out.set HD.out 0 _⟩) (fun h => absurd rfl h) trivial
    ·rintro f W4 hR hT
     obtain ⟨r, hr, hB⟩ := hT 12 rfl (Nat.le_of_ble_eq_true rfl)
     simp only [Reg.mixL, Nat.zero_add, Nat.reduceAdd]
     have HB1 := Lib.hid hB.one
     have HLE := HLEN.out
     have HF1 := Lib.hid (part_step (by have := EL.out; omega) HE.out rfl HFK.out (by rw [← hcc] at hr; exact hr))
     clear hR hT hB hr
     go_wp2
     go_roundw
     case rel => exact ⟨k + 1, by omega, by go_num, _, HB1.out, HF1.out⟩
     case measure => simp [intOf]; omega
  ·obtain rfl : k = B.sl := by omega
   have b1 := cell_below BX.out.bel (HA.out 1 _ rfl)
   go_wp2
   clear b1
   go_loopw [71] (fun i w' => ∃ k : Nat, k ≤ B.tl ∧ i = .int .i64 k ∧ Aside (∃ p, Bx w [(sb, fl4 p)] w' ∧ ∀ j, j < 4 → FV .f32 (p j) (partC c.cs (es.take (B.sl + k)) j))) (fun i _ => B.tl - (intOf i).toNat)
   case atStart => exact ⟨0, Nat.zero_le _, rfl, p, BX.out, HFK.out⟩
   case round =>
    clear HFK BX
    obtain ⟨k, hk, rfl, hA⟩ := hrel
    obtain ⟨p, hBX, hF⟩ := hA.out
    have BX := Lib.hid hBX
    have HFK := Lib.hid hF
    clear hA hBX hF
    by_cases hlt2 : k < B.tl
    ·obtain ⟨bt, ot, hbt, hrow⟩ := H.out.2.1.some (by omega)
     obtain ⟨r1, n1, q1, cr, ir⟩ := hrow k hlt2
     have htri := HWR.out k hlt2
     obtain ⟨h3, hin⟩ := tri_parts htri
     have hn1 : n1 = 3 := ir.1.symm.trans h3
     subst hn1
     obtain ⟨br, orr, rfl, hcell⟩ := ir.some (by omega)
     obtain ⟨t0, l0⟩ := hin 0 (by decide)
     obtain ⟨t1, l1⟩ := hin 1 (by decide)
     obtain ⟨t2, l2⟩ := hin 2 (by decide)
     obtain ⟨m0, hm0⟩ : ∃ m0 : Nat, (c.ts.getD k []).getD 0 0 = m0 := ⟨_, (Int.toNat_of_nonneg t0).symm⟩
     obtain ⟨m1, hm1⟩ : ∃ m1 : Nat, (c.ts.getD k []).getD 1 0 = m1 := ⟨_, (Int.toNat_of_nonneg t1).symm⟩
     obtain ⟨m2, hm2⟩ : ∃ m2 : Nat, (c.ts.getD k []).getD 2 0 = m2 := ⟨_, (Int.toNat_of_nonneg t2).symm⟩
     have hm0' : m0 < B.pl := by omega
     have hm1' : m1 < B.pl := by omega
     have hm2' : m2 < B.pl := by omega
     have R0' := hcell 0 (by omega)
     have R1' := hcell 1 (by omega)
     have R2' := hcell 2 (by omega)
     rw [hm0, Nat.add_zero] at R0'
     rw [hm1] at R1'
     rw [hm2] at R2'
     have R0 := Lib.hid R0'
     have R1 := Lib.hid R1'
     have R2 := Lib.hid R2'
     have CR0 := Lib.hid cr
     have A1' := HA.out 1 _ rfl
     rw [hbt] at A1'
     have A1 := Lib.hid A1'
     have HE := Lib.hid (E2.out k hlt2)
     have HNC : Hid (normalC c.cs (c.ts.getD k []) = crossC (lessC (c.cs.getD m1 c0) (c.cs.getD m0 c0)) (lessC (c.cs.getD m2 c0) (c.cs.getD m0 c0))) := Lib.hid (by
      unfold normalC cornerC
      rw [hm0, hm1, hm2]
      rfl)
     have hk0 : (0 : Int) ≤ (k : Int) := by omega
     have hk1 : (k : Int) < (B.tl : Int) := by omega
     have HD : Hid (∀ y' ∈ ([] : List (Nat × List Value)), y'.1 ≠ sb) := Lib.hid (fun y' hy => by cases hy)
     have HFI := Lib.hid H.out.2.2.2.2.1
     have HF := Lib.hid (HFK.out 1 (by decide))
     generalize hcc : partC c.cs (List.take (B.sl + k) es) 1 = cc at HF
     generalize hsk : c.ts.getD k [] = tk at *
     clear hrow cr ir hcell hin htri h3 t0 t1 t2 l0 l1 l2 hm0 hm1 hm2 R0' R1' R2' A1' hbt
     go_wp2_with fail
     refine Reg3.wp_region_mix (C := Bx w [(sb, fl4 p)]) (G := fun _ _ => True) (R := fun i v w' => match i with | 0 => v = .slice (some ⟨sb, 0, none⟩) 4 4 | 1 => v = .pointer (some ⟨sb, 1, none⟩) | 2 => v = .float .f32 (p 1) | 3 => v = .pointer (some ⟨pb, 0, none⟩) | 4 => v = .pointer (some ⟨pb, 0, none⟩) | 5 => v = .pointer (some ⟨pb, 3, none⟩) | 6 => v = .float .f32 B.film | 7 => v = .pointer (some ⟨pb, 0, none⟩) | 8 => v = .pointer (some ⟨pb, 0, none⟩) | 9 => v = .pointer (some ⟨pb, 0, none⟩) | 10 => v = .pointer (some ⟨pb, 1, none⟩) | 11 => v = .slice (some ⟨bt, ot, none⟩) B.tl B.tc | 12 => v = .int .i64 (k : Int) | 13 => v = .pointer (some ⟨bt, ot + k, none⟩) | 14 => v = .slice (some ⟨br, orr, none⟩) 3 q1 | 15 => ∃ p q r, v = vv p q r ∧ F3 p q r (crossC (lessC (c.cs.getD m1 c0) (c.cs.getD m0 c0)) (lessC (c.cs.getD m2 c0) (c.cs.getD m0 c0))) | 16 => ∃ r, v = .float .f32 r ∧ FV .f32 r (longC (crossC (lessC (c.cs.getD m1 c0) (c.cs.getD m0 c0)) (lessC (c.cs.getD m2 c0) (c.cs.getD m0 c0)))) | 17 => ∃ r, v = .float .f32 r ∧ FV .f32 r (fop .mul .f32 halfC (longC (crossC (lessC (c.cs.getD m1 c0) (c.cs.getD m0 c0)) (lessC (c.cs.getD m2 c0) (c.cs.getD m0 c0))))) | 18 => ∃ r, v = .float .f32 r ∧ FV .f32 r (fop .mul .f32 c.film (fop .mul .f32 halfC (longC (crossC (lessC (c.cs.getD m1 c0) (c.cs.getD m0 c0)) (lessC (c.cs.getD m2 c0) (c.cs.getD m0 c0)))))) | 19 => ∃ r, v = .float .f32 r ∧ FV .f32 r (fop .add .f32 cc (fop .mul .f32 c.film (fop .mul .f32 halfC (longC (crossC (lessC (c.cs.getD m1 c0) (c.cs.getD m0 c0)) (lessC (c.cs.getD m2 c0) (c.cs.getD m0 c0))))))) | 20 => v = .pointer (some ⟨sb, 1, none⟩) | _ => True) (T := fun _ _ w' => ∃ r, FV .f32 r (fop .add .f32 cc (fop .mul .f32 c.film (fop .mul .f32 halfC (longC (crossC (lessC (c.cs.getD m1 c0) (c.cs.getD m0 c0)) (lessC (c.cs.getD m2 c0) (c.cs.getD m0 c0))))))) ∧ Bx w [(sb, fl4 (upd p 1 r))] w') [false, false, false, false, false, false, false, false, false, false, false, false, false, false, false, false, false, false, false, false, false, false, false, false, false, false, false, false, false, false, false, false, false, false, false, false, false, false, false, false, false, false, false, false, false, false, false, false, false, false, false, false, false, false, false, false, false, false, false, false, false, false, false, false, false, false, false, false, false, false, false, false, false, false, true, true, true, true, true, true, true, true, true, true, true, true, true, true, true, true, true, true, true, true, true, false, false, false, false, false, false, false, false, false, false, false, false, false, false, false, false, false, false, false, false, false, false, false, false, false, false, false, false, false, false, false, false, false, false, false, false, false, false, false, false, false, false, false, false, false, false, false, false, false, false, false, false, false, false, false, false, false, false, false, false, false, false, false, false, false]
      (by kernel_rfl) (by kernel_rfl) (by kernel_rfl) (fun _ _ _ _ _ _ h => h) (BX.out.drewN 1) ?_ ?_
     ·refine ⟨Reg3.Obl.mk ?_, Reg3.Obl.mk ?_, Reg3.Obl.mk ?_, Reg3.Obl.mk ?_, Reg3.Obl.mk ?_, Reg3.Obl.mk ?_, Reg3.Obl.mk ?_, Reg3.Obl.mk ?_, Reg3.Obl.mk ?_, Reg3.Obl.mk ?_, Reg3.Obl.mk ?_, Reg3.Obl.mk ?_, Reg3.Obl.mk ?_, Reg3.Obl.mk ?_, Reg3.Obl.mk ?_, Reg3.Obl.mk ?_, Reg3.Obl.mk ?_, Reg3.Obl.mk ?_, Reg3.Obl.mk ?_, Reg3.Obl.mk ?_, Reg3.Obl.mk ?_, Reg3.Obl.mk ?_, trivial⟩
      ·rintro a w1 HC hx hd K hK
       replace HC := Lib.hid HC
       have t3 : a.tmps[3]?.getD undef = .slice (some ⟨sb, 0, none⟩) 4 4 := Reg.slot_val (hx 3 (by kernel_rfl))
       go_simp
       exact hK _ _ (fun _ => rfl) (fun h => by cases h) (fun _ => HC.out) trivial
      ·rintro a w1 HC hx hd K hK
       replace HC := Lib.hid HC
       have t74 : a.tmps[74]?.getD undef = .slice (some ⟨sb, 0, none⟩) 4 4 := Reg.slot_val (hd 0 (by kernel_rfl) 74 rfl)
       go_simp
       exact hK _ _ (fun _ => rfl) (fun h => by cases h) (fun _ => HC.out) trivial
      ·rintro a w1 HC hx hd K hK
       replace HC := Lib.hid HC
       have z9 := (HC.out.mem (.head _)) 1 _ rfl
       have t75 : a.tmps[75]?.getD undef = .pointer (some ⟨sb, 1, none⟩) := Reg.slot_val (hd 1 (by kernel_rfl) 75 rfl)
       go_simp
       exact hK _ _ (fun _ => rfl) (fun h => by cases h) (fun _ => HC.out) trivial
      ·rintro a w1 HC hx hd K hK
       replace HC := Lib.hid HC
       have t0 : a.tmps[0]?.getD undef = .pointer (some ⟨pb, 0, none⟩) := Reg.slot_val (hx 0 (by kernel_rfl))
       go_simp
       exact hK _ _ (fun _ => rfl) (fun h => by cases h) (fun _ => HC.out) trivial
      ·rintro a w1 HC hx hd K hK
       replace HC := Lib.hid HC
       have t77 : a.tmps[77]?.getD undef = .pointer (some ⟨pb, 0, none⟩) := Reg.slot_val (hd 3 (by kernel_rfl) 77 rfl)
       go_simp
       exact hK _ _ (fun _ => rfl) (fun h => by cases h) (fun _ => HC.out) trivial
      ·rintro a w1 HC hx hd K hK
       replace HC := Lib.hid HC
       have t78 : a.tmps[78]?.getD undef = .pointer (some ⟨pb, 0, none⟩) := Reg.slot_val (hd 4 (by kernel_rfl) 78 rfl)
       go_simp
       exact hK _ _ (fun _ => rfl) (fun h => by cases h) (fun _ => HC.out) trivial
      ·rintro a w1 HC hx hd K hK
       replace HC := Lib.hid HC
       have y9 := cell_below HC.out.bel (HA.out 3 _ rfl)
       have t79 : a.tmps[79]?.getD undef = .pointer (some ⟨pb, 3, none⟩) := Reg.slot_val (hd 5 (by kernel_rfl) 79 rfl)
       go_simp
       exact hK _ _ (fun _ => rfl) (fun h => by cases h) (fun _ => HC.out) trivial
      ·rintro a w1 HC hx hd K hK
       replace HC := Lib.hid HC
       have t4 : a.tmps[4]?.getD undef = .pointer (some ⟨pb, 0, none⟩) := Reg.slot_val (hx 4 (by kernel_rfl))
       go_simp
       exact hK _ _ (fun _ => rfl) (fun h => by cases h) (fun _ => HC.out) trivial
      ·rintro a w1 HC hx hd K hK
       replace HC := Lib.hid HC
       have t4 : a.tmps[4]?.getD undef = .pointer (some ⟨pb, 0, none⟩) := Reg.slot_val (hx 4 (by kernel_rfl))
       go_simp
       exact hK _ _ (fun _ => rfl) (fun h => by cases h) (fun _ => HC.out) trivial
      ·rintro a w1 HC hx hd K hK
       replace HC := Lib.hid HC
       have t82 : a.tmps[82]?.getD undef = .pointer (some ⟨pb, 0, none⟩) := Reg.slot_val (hd 8 (by kernel_rfl) 82 rfl)
       go_simp
       exact hK _ _ (fun _ => rfl) (fun h => by cases h) (fun _ => HC.out) trivial
      ·rintro a w1 HC hx hd K hK
       replace HC := Lib.hid HC
       have t83 : a.tmps[83]?.getD undef = .pointer (some ⟨pb, 0, none⟩) := Reg.slot_val (hd 9 (by kernel_rfl) 83 rfl)
       go_simp
       exact hK _ _ (fun _ => rfl) (fun h => by cases h) (fun _ => HC.out) trivial
      ·rintro a w1 HC hx hd K hK
       replace HC := Lib.hid HC
       have y9 := cell_below HC.out.bel A1.out
       have t84 : a.tmps[84]?.getD undef = .pointer (some ⟨pb, 1, none⟩) := Reg.slot_val (hd 10 (by kernel_rfl) 84 rfl)
       go_simp
       exact hK _ _ (fun _ => rfl) (fun h => by cases h) (fun _ => HC.out) trivial
      ·rintro a w1 HC hx hd K hK
       replace HC := Lib.hid HC
       have t8 : a.tmps[8]?.getD undef = .int .i64 (k : Int) := Reg.slot_val (hx 8 (by kernel_rfl))
       go_simp
       exact hK _ _ (fun _ => rfl) (fun h => by cases h) (fun _ => HC.out) trivial
      ·rintro a w1 HC hx hd K hK
       replace HC := Lib.hid HC
       have t85 : a.tmps[85]?.getD undef = .slice (some ⟨bt, ot, none⟩) B.tl B.tc := Reg.slot_val (hd 11 (by kernel_rfl) 85 rfl)
       have t86 : a.tmps[86]?.getD undef = .int .i64 (k : Int) := Reg.slot_val (hd 12 (by kernel_rfl) 86 rfl)
       go_simp
       exact hK _ _ (fun _ => rfl) (fun h => by cases h) (fun _ => HC.out) trivial
      ·rintro a w1 HC hx hd K hK
       replace HC := Lib.hid HC
       have y9 := cell_below HC.out.bel CR0.out
       have t87 : a.tmps[87]?.getD undef = .pointer (some ⟨bt, ot + k, none⟩) := Reg.slot_val (hd 13 (by kernel_rfl) 87 rfl)
       go_simp
       exact hK _ _ (fun _ => rfl) (fun h => by cases h) (fun _ => HC.out) trivial
      ·rintro a w1 HC hx hd K hK
       replace HC := Lib.hid HC
       have t81 : a.tmps[81]?.getD undef = .pointer (some ⟨pb, 0, none⟩) := Reg.slot_val (hd 7 (by kernel_rfl) 81 rfl)
       have t88 : a.tmps[88]?.getD undef = .slice (some ⟨br, orr, none⟩) 3 q1 := Reg.slot_val (hd 14 (by kernel_rfl) 88 rfl)
       go_simp
       refine (l03Normal pb br orr q1 m0 m1 m2 B.pa B.pl B.pc c.cs w1 (cell_below HC.out.bel (HA.out 0 _ rfl)) (cell_below HC.out.bel R0.out) (cell_below HC.out.bel R1.out) (cell_below HC.out.bel R2.out) (H.out.below HC.out.bel).1 hm0' hm1' hm2').mono ?_
       rintro en w2 ⟨p', q', r', rfl, hF, hB2⟩
       exact hK _ _ (fun _ => ⟨p', q', r', rfl, hF⟩) (fun h => by cases h) (fun _ => HC.out.call hB2) trivial
      ·rintro a w1 HC hx hd K hK
       replace HC := Lib.hid HC
       obtain ⟨p89, q89, r89, g89, f89⟩ := hd 15 (by kernel_rfl) 89 rfl
       have t89 := Reg.slot_val g89
       clear g89
       go_simp
       refine (l01Long _ _ _ _ _ _ _ f89.1 f89.2.1 f89.2.2).mono ?_
       rintro en w2 ⟨r, rfl, hr, hB2⟩
       exact hK _ _ (fun _ => ⟨r, rfl, hr⟩) (fun h => by cases h) (fun _ => HC.out.call hB2) trivial
      ·rintro a w1 HC hx hd K hK
       replace HC := Lib.hid HC
       obtain ⟨r90, g90, f90⟩ := hd 16 (by kernel_rfl) 90 rfl
       have t90 := Reg.slot_val g90
       clear g90
       go_simp
       exact hK _ _ (fun _ => ⟨_, rfl, FV_fR half_FV f90⟩) (fun h => by cases h) (fun _ => HC.out.drewN _) trivial
      ·rintro a w1 HC hx hd K hK
       replace HC := Lib.hid HC
       have t80 : a.tmps[80]?.getD undef = .float .f32 B.film := Reg.slot_val (hd 6 (by kernel_rfl) 80 rfl)
       obtain ⟨r91, g91, f91⟩ := hd 17 (by kernel_rfl) 91 rfl
       have t91 := Reg.slot_val g91
       clear g91
       go_simp
       exact hK _ _ (fun _ => ⟨_, rfl, FV_fR HFI.out f91⟩) (fun h => by cases h) (fun _ => HC.out.drewN _) trivial
      ·rintro a w1 HC hx hd K hK
       replace HC := Lib.hid HC
       have t76 : a.tmps[76]?.getD undef = .float .f32 (p 1) := Reg.slot_val (hd 2 (by kernel_rfl) 76 rfl)
       obtain ⟨r92, g92, f92⟩ := hd 18 (by kernel_rfl) 92 rfl
       have t92 := Reg.slot_val g92
       clear g92
       go_simp
       exact hK _ _ (fun _ => ⟨_, rfl, FV_fR HF.out f92⟩) (fun h => by cases h) (fun _ => HC.out.drewN _) trivial
      ·rintro a w1 HC hx hd K hK
       replace HC := Lib.hid HC
       have t74 : a.tmps[74]?.getD undef = .slice (some ⟨sb, 0, none⟩) 4 4 := Reg.slot_val (hd 0 (by kernel_rfl) 74 rfl)
       go_simp
       exact hK _ _ (fun _ => rfl) (fun h => by cases h) (fun _ => HC.out) trivial
      ·rintro a w1 HC hx hd K hK
       replace HC := Lib.hid HC
       have z9 := (HC.out.mem (.head _)) 1 _ rfl
       have k9 := HC.out.free (.head _) 1
       have t94 : a.tmps[94]?.getD undef = .pointer (some ⟨sb, 1, none⟩) := Reg.slot_val (hd 20 (by kernel_rfl) 94 rfl)
       obtain ⟨r93, g93, f93⟩ := hd 19 (by kernel_rfl) 93 rfl
       have t93 := Reg.slot_val g93
       clear g93
       go_simp
       exact hK undef _ (fun h => absurd rfl h) (fun _ => ⟨_, f93, by rw [← fl4_set p (i := 1) (by decide)]; exact HC.out.set HD.out 1 _⟩) (fun h => absurd rfl h) trivial
     ·rintro f W4 hR hT
      obtain ⟨r, hr, hB⟩ := hT 21 rfl (Nat.le_of_ble_eq_true rfl)
      simp only [Reg.mixL, Nat.zero_add, Nat.reduceAdd]
      have HB1 := Lib.hid hB
      have HLE := HLEN.out
      have HF1 := Lib.hid (part_step (by have := EL.out; omega) HE.out rfl HFK.out (by rw [← hcc] at hr; exact (by rw [← HNC.out] at hr; exact hr)))
      clear hR hT hB hr
      go_wp2
      go_roundw
      case rel => exact ⟨k + 1, by omega, by go_num, _, HB1.out, HF1.out⟩
      case measure => simp [intOf]; omega
    ·obtain rfl : k = B.tl := by omega
     go_wp2_with fail
     refine (HHG.out wr BX.out.bel).mono ?_
     rintro e V0 ⟨⟨v, rfl, hO⟩, hBV⟩
     obtain ⟨ha, hc, rfl, hI⟩ := hO.is rfl (fun j hj => (HRH.out j hj).2.1)
     have hLT := lt_of_owns hO
     have HI := Lib.hid hI
     have HLT := Lib.hid hLT
     have hsl := (BX.out.2 _ _ (.head _)).2.2.1
     have BXV := Lib.hid (BX.out.call hBV)
     generalize hlo : wr.heap.size = lo at *
     obtain ⟨S, hS⟩ : ∃ S : Nat → Prop, S = fun b => lo ≤ b ∧ b < V0.heap.size := ⟨_, rfl⟩
     have HSL : Hid (¬ S sb) := Lib.hid (by rw [hS]; show ¬ (lo ≤ sb ∧ sb < V0.heap.size); omega)
     have HSS : Hid (∀ b, lo ≤ b → b < V0.heap.size → S b) := Lib.hid (fun b h1 h2 => by rw [hS]; exact ⟨h1, h2⟩)
     clear hO hI hLT hBV hS hsl BX hlo
     go_wp2
     go_loopw [100] (fun i w' => ∃ k : Nat, k ≤ hs.length ∧ i = .int .i64 k ∧ Aside (∃ p, Bx w [(sb, fl4 p)] w' ∧ (∀ j, j < 4 → FV .f32 (p j) (partC c.cs (es.take (B.sl + B.tl + k)) j)) ∧ Agree S V0 w')) (fun i _ => hs.length - (intOf i).toNat)
     case atStart => exact ⟨0, Nat.zero_le _, rfl, p, BXV.out, HFK.out, Agree.refl _ _⟩
     case round =>
      clear HFK BXV
      obtain ⟨k, hk, rfl, hA⟩ := hrel
      obtain ⟨p, hBX, hF, hAg⟩ := hA.out
      have BX := Lib.hid hBX
      have HFK := Lib.hid hF
      have HAG := Lib.hid hAg
      clear hA hBX hF hAg
      by_cases hlt3 : k < hs.length
      ·obtain ⟨bt, ot, rfl, hrow⟩ := (ts_agree HI.out HLT.out HSS.out HAG.out).some (by omega)
       obtain ⟨r1, n1, q1, cr, ir⟩ := hrow k hlt3
       obtain ⟨h4, _, hin⟩ := HRH.out k hlt3
       have hn1 : n1 = 4 := ir.1.symm.trans h4
       subst hn1
       obtain ⟨br, orr, rfl, hcell⟩ := ir.some (by omega)
       obtain ⟨m0, hm0, hm0'⟩ := inB_nat (hin 0 (by decide))
       obtain ⟨m1, hm1, hm1'⟩ := inB_nat (hin 1 (by decide))
       obtain ⟨m2, hm2, hm2'⟩ := inB_nat (hin 2 (by decide))
       obtain ⟨m3, hm3, hm3'⟩ := inB_nat (hin 3 (by decide))
       have R0' := hcell 0 (by omega)
       have R1' := hcell 1 (by omega)
       have R2' := hcell 2 (by omega)
       have R3' := hcell 3 (by omega)
       rw [hm0, Nat.add_zero] at R0'
       rw [hm1] at R1'
       rw [hm2] at R2'
       rw [hm3] at R3'
       have HRS := Lib.hid (And.intro R0' (And.intro R1' (And.intro R2' R3')))
       have HE := Lib.hid (E3.out k hlt3)
       have HFO : Hid (foldC c.cs (hs.getD k []) = lessC (plusC (c.cs.getD m2 c0) (c.cs.getD m3 c0)) (plusC (c.cs.getD m0 c0) (c.cs.getD m1 c0))) := Lib.hid (by
        unfold foldC placeC
        rw [hm0, hm1, hm2, hm3]
        rfl)
       have hk0 : (0 : Int) ≤ (k : Int) := by omega
       have hk1 : (k : Int) < (hs.length : Int) := by omega
       have HBE := Lib.hid H.out.2.2.2.2.2.1
       have HF := Lib.hid (HFK.out 2 (by decide))
       generalize hcc : partC c.cs (List.take (B.sl + B.tl + k) es) 2 = cc at HF
       generalize hsk : hs.getD k [] = tk at *
       clear hrow ir hcell hin h4 hm0 hm1 hm2 hm3 R0' R1' R2' R3'
       go_wp2_with fail
       refine (l03Bent pb br orr q1 m0 m1 m2 m3 B.pa B.pl B.pc c.cs wr (cell_below BX.out.bel (HA.out 0 _ rfl)) HRS.out.1 HRS.out.2.1 HRS.out.2.2.1 HRS.out.2.2.2 (H.out.below BX.out.bel).1 hm0' hm1' hm2' hm3').mono ?_
       rintro e W3 ⟨x, y, z, rfl, hf3, hB3⟩
       have HV3 := Lib.hid hf3
       have BX3' : Bx w [(sb, fl4 p), (W3.heap.size, [.float .f32 x, .float .f32 y, .float .f32 z])] (W3.alloc (.cells #[.float .f32 x, .float .f32 y, .float .f32 z] 42)) := ((BX.out.call hB3).box (vs := [.float .f32 x, .float .f32 y, .float .f32 z]) (t := 42)).swap
       have BX3 := Lib.hid BX3'
       have HAG3 : Hid (Agree S V0 (W3.alloc (.cells #[.float .f32 x, .float .f32 y, .float .f32 z] 42))) := Lib.hid ((HAG.out.trans (Agree.of_below hB3)).trans (Agree.of_below ((Below.refl _ _).alloc (Nat.le_refl _) _)))
       have HD : Hid (∀ y' ∈ [(W3.heap.size, [Value.float .f32 x, .float .f32 y, .float .f32 z])], y'.1 ≠ sb) := Lib.hid (fun y' hy => by
        simp at hy; subst hy
        have := ((BX.out.call hB3).2 _ _ (.head _)).2.2.1
        show W3.heap.size ≠ sb
        omega)
       clear hf3 hB3 BX3' cr
       go_wp2_with fail
       generalize (W3.alloc (.cells #[.float .f32 x, .float .f32 y, .float .f32 z] 42)) = W4 at *
       generalize W3.heap.size = V at *
       refine Reg3.wp_region_mix (C := fun w' => Bx w [(sb, fl4 p), (V, [.float .f32 x, .float .f32 y, .float .f32 z])] w' ∧ Agree S V0 w') (G := fun _ _ => True) (R := fun i v w' => match i with | 0 => v = .slice (some ⟨sb, 0, none⟩) 4 4 | 1 => v = .pointer (some ⟨sb, 2, none⟩) | 2 => v = .float .f32 (p 2) | 3 => v = .pointer (some ⟨pb, 0, none⟩) | 4 => v = .pointer (some ⟨pb, 0, none⟩) | 5 => v = .pointer (some ⟨pb, 4, none⟩) | 6 => v = .float .f32 B.bend | 7 => ∃ r, v = .float .f32 r ∧ FV .f32 r (fop .mul .f32 halfC c.bend) | 8 => v = vv x y z | 9 => v = vv x y z | 10 => ∃ r, v = .float .f32 r ∧ FV .f32 r (innerC (lessC (plusC (c.cs.getD m2 c0) (c.cs.getD m3 c0)) (plusC (c.cs.getD m0 c0) (c.cs.getD m1 c0))) (lessC (plusC (c.cs.getD m2 c0) (c.cs.getD m3 c0)) (plusC (c.cs.getD m0 c0) (c.cs.getD m1 c0)))) | 11 => ∃ r, v = .float .f32 r ∧ FV .f32 r (fop .mul .f32 (fop .mul .f32 halfC c.bend) (innerC (lessC (plusC (c.cs.getD m2 c0) (c.cs.getD m3 c0)) (plusC (c.cs.getD m0 c0) (c.cs.getD m1 c0))) (lessC (plusC (c.cs.getD m2 c0) (c.cs.getD m3 c0)) (plusC (c.cs.getD m0 c0) (c.cs.getD m1 c0))))) | 12 => ∃ r, v = .float .f32 r ∧ FV .f32 r (fop .add .f32 cc (fop .mul .f32 (fop .mul .f32 halfC c.bend) (innerC (lessC (plusC (c.cs.getD m2 c0) (c.cs.getD m3 c0)) (plusC (c.cs.getD m0 c0) (c.cs.getD m1 c0))) (lessC (plusC (c.cs.getD m2 c0) (c.cs.getD m3 c0)) (plusC (c.cs.getD m0 c0) (c.cs.getD m1 c0)))))) | 13 => v = .pointer (some ⟨sb, 2, none⟩) | _ => True) (T := fun _ _ w' => ∃ r, FV .f32 r (fop .add .f32 cc (fop .mul .f32 (fop .mul .f32 halfC c.bend) (innerC (lessC (plusC (c.cs.getD m2 c0) (c.cs.getD m3 c0)) (plusC (c.cs.getD m0 c0) (c.cs.getD m1 c0))) (lessC (plusC (c.cs.getD m2 c0) (c.cs.getD m3 c0)) (plusC (c.cs.getD m0 c0) (c.cs.getD m1 c0)))))) ∧ Bx w [(sb, fl4 (upd p 2 r)), (V, [.float .f32 x, .float .f32 y, .float .f32 z])] w' ∧ Agree S V0 w') [false, false, false, false, false, false, false, false, false, false, false, false, false, false, false, false, false, false, false, false, false, false, false, false, false, false, false, false, false, false, false, false, false, false, false, false, false, false, false, false, false, false, false, false, false, false, false, false, false, false, false, false, false, false, false, false, false, false, false, false, false, false, false, false, false, false, false, false, false, false, false, false, false, false, false, false, false, false, false, false, false, false, false, false, false, false, false, false, false, false, false, false, false, false, false, false, false, false, false, false, false, false, false, false, false, false, false, false, false, true, true, true, true, true, true, true, true, true, true, true, true, true, true, false, false, false, false, false, false, false, false, false, false, false, false, false, false, false, false, false, false, false, false, false, false, false, false, false, false, false, false, false, false, false, false, false, false, false, false, false]
        (by kernel_rfl) (by kernel_rfl) (by kernel_rfl) (fun _ _ _ _ _ _ h => h) (⟨BX3.out.drewN 1, HAG3.out.trans (Agree.of_below (below_drewN (Below.refl _ _) 1))⟩) ?_ ?_
       ·refine ⟨Reg3.Obl.mk ?_, Reg3.Obl.mk ?_, Reg3.Obl.mk ?_, Reg3.Obl.mk ?_, Reg3.Obl.mk ?_, Reg3.Obl.mk ?_, Reg3.Obl.mk ?_, Reg3.Obl.mk ?_, Reg3.Obl.mk ?_, Reg3.Obl.mk ?_, Reg3.Obl.mk ?_, Reg3.Obl.mk ?_, Reg3.Obl.mk ?_, Reg3.Obl.mk ?_, Reg3.Obl.mk ?_, trivial⟩
        ·rintro a w1 HC hx hd K hK
         replace HC := Lib.hid HC
         have t3 : a.tmps[3]?.getD undef = .slice (some ⟨sb, 0, none⟩) 4 4 := Reg.slot_val (hx 3 (by kernel_rfl))
         go_simp
         exact hK _ _ (fun _ => rfl) (fun h => by cases h) (fun _ => HC.out) trivial
        ·rintro a w1 HC hx hd K hK
         replace HC := Lib.hid HC
         have t109 : a.tmps[109]?.getD undef = .slice (some ⟨sb, 0, none⟩) 4 4 := Reg.slot_val (hd 0 (by kernel_rfl) 109 rfl)
         go_simp
         exact hK _ _ (fun _ => rfl) (fun h => by cases h) (fun _ => HC.out) trivial
        ·rintro a w1 HC hx hd K hK
         replace HC := Lib.hid HC
         have z9 := (HC.out.1.mem (.head _)) 2 _ rfl
         have t110 : a.tmps[110]?.getD undef = .pointer (some ⟨sb, 2, none⟩) := Reg.slot_val (hd 1 (by kernel_rfl) 110 rfl)
         go_simp
         exact hK _ _ (fun _ => rfl) (fun h => by cases h) (fun _ => HC.out) trivial
        ·rintro a w1 HC hx hd K hK
         replace HC := Lib.hid HC
         have t0 : a.tmps[0]?.getD undef = .pointer (some ⟨pb, 0, none⟩) := Reg.slot_val (hx 0 (by kernel_rfl))
         go_simp
         exact hK _ _ (fun _ => rfl) (fun h => by cases h) (fun _ => HC.out) trivial
        ·rintro a w1 HC hx hd K hK
         replace HC := Lib.hid HC
         have t112 : a.tmps[112]?.getD undef = .pointer (some ⟨pb, 0, none⟩) := Reg.slot_val (hd 3 (by kernel_rfl) 112 rfl)
         go_simp
         exact hK _ _ (fun _ => rfl) (fun h => by cases h) (fun _ => HC.out) trivial
        ·rintro a w1 HC hx hd K hK
         replace HC := Lib.hid HC
         have t113 : a.tmps[113]?.getD undef = .pointer (some ⟨pb, 0, none⟩) := Reg.slot_val (hd 4 (by kernel_rfl) 113 rfl)
         go_simp
         exact hK _ _ (fun _ => rfl) (fun h => by cases h) (fun _ => HC.out) trivial
        ·rintro a w1 HC hx hd K hK
         replace HC := Lib.hid HC
         have y9 := cell_below HC.out.1.bel (HA.out 4 _ rfl)
         have t114 : a.tmps[114]?.getD undef = .pointer (some ⟨pb, 4, none⟩) := Reg.slot_val (hd 5 (by kernel_rfl) 114 rfl)
         go_simp
         exact hK _ _ (fun _ => rfl) (fun h => by cases h) (fun _ => HC.out) trivial
        ·rintro a w1 HC hx hd K hK
         replace HC := Lib.hid HC
         have t115 : a.tmps[115]?.getD undef = .float .f32 B.bend := Reg.slot_val (hd 6 (by kernel_rfl) 115 rfl)
         go_simp
         exact hK _ _ (fun _ => ⟨_, rfl, FV_fR half_FV HBE.out⟩) (fun h => by cases h) (fun _ => ⟨HC.out.1.drewN _, HC.out.2.trans (Agree.of_below (below_drewN (Below.refl _ _) _))⟩) trivial
        ·rintro a w1 HC hx hd K hK
         replace HC := Lib.hid HC
         have x0 := (HC.out.1.mem (.tail _ (.head _))) 0 _ rfl
         have x1 := (HC.out.1.mem (.tail _ (.head _))) 1 _ rfl
         have x2 := (HC.out.1.mem (.tail _ (.head _))) 2 _ rfl
         have t11 : a.tmps[11]?.getD undef = .pointer (some ⟨V, 0, none⟩) := Reg.slot_val (hx 11 (by kernel_rfl))
         go_simp
         exact hK _ _ (fun _ => rfl) (fun h => by cases h) (fun _ => HC.out) trivial
        ·rintro a w1 HC hx hd K hK
         replace HC := Lib.hid HC
         have x0 := (HC.out.1.mem (.tail _ (.head _))) 0 _ rfl
         have x1 := (HC.out.1.mem (.tail _ (.head _))) 1 _ rfl
         have x2 := (HC.out.1.mem (.tail _ (.head _))) 2 _ rfl
         have t11 : a.tmps[11]?.getD undef = .pointer (some ⟨V, 0, none⟩) := Reg.slot_val (hx 11 (by kernel_rfl))
         go_simp
         exact hK _ _ (fun _ => rfl) (fun h => by cases h) (fun _ => HC.out) trivial
        ·rintro a w1 HC hx hd K hK
         replace HC := Lib.hid HC
         have t117 : a.tmps[117]?.getD undef = vv x y z := Reg.slot_val (hd 8 (by kernel_rfl) 117 rfl)
         have t118 : a.tmps[118]?.getD undef = vv x y z := Reg.slot_val (hd 9 (by kernel_rfl) 118 rfl)
         go_simp
         refine (l01Inner _ _ _ _ _ _ _ _ _ _ _ _ _ HV3.out.1 HV3.out.2.1 HV3.out.2.2 HV3.out.1 HV3.out.2.1 HV3.out.2.2 ).mono ?_
         rintro en w2 ⟨r, rfl, hr, hB2⟩
         exact hK _ _ (fun _ => ⟨r, rfl, hr⟩) (fun h => by cases h) (fun _ => ⟨HC.out.1.call hB2, HC.out.2.trans (Agree.of_below hB2)⟩) trivial
        ·rintro a w1 HC hx hd K hK
         replace HC := Lib.hid HC
         obtain ⟨r116, g116, f116⟩ := hd 7 (by kernel_rfl) 116 rfl
         have t116 := Reg.slot_val g116
         clear g116
         obtain ⟨r119, g119, f119⟩ := hd 10 (by kernel_rfl) 119 rfl
         have t119 := Reg.slot_val g119
         clear g119
         go_simp
         exact hK _ _ (fun _ => ⟨_, rfl, FV_fR f116 f119⟩) (fun h => by cases h) (fun _ => ⟨HC.out.1.drewN _, HC.out.2.trans (Agree.of_below (below_drewN (Below.refl _ _) _))⟩) trivial
        ·rintro a w1 HC hx hd K hK
         replace HC := Lib.hid HC
         have t111 : a.tmps[111]?.getD undef = .float .f32 (p 2) := Reg.slot_val (hd 2 (by kernel_rfl) 111 rfl)
         obtain ⟨r120, g120, f120⟩ := hd 11 (by kernel_rfl) 120 rfl
         have t120 := Reg.slot_val g120
         clear g120
         go_simp
         exact hK _ _ (fun _ => ⟨_, rfl, FV_fR HF.out f120⟩) (fun h => by cases h) (fun _ => ⟨HC.out.1.drewN _, HC.out.2.trans (Agree.of_below (below_drewN (Below.refl _ _) _))⟩) trivial
        ·rintro a w1 HC hx hd K hK
         replace HC := Lib.hid HC
         have t109 : a.tmps[109]?.getD undef = .slice (some ⟨sb, 0, none⟩) 4 4 := Reg.slot_val (hd 0 (by kernel_rfl) 109 rfl)
         go_simp
         exact hK _ _ (fun _ => rfl) (fun h => by cases h) (fun _ => HC.out) trivial
        ·rintro a w1 HC hx hd K hK
         replace HC := Lib.hid HC
         have z9 := (HC.out.1.mem (.head _)) 2 _ rfl
         have k9 := HC.out.1.free (.head _) 2
         have t122 : a.tmps[122]?.getD undef = .pointer (some ⟨sb, 2, none⟩) := Reg.slot_val (hd 13 (by kernel_rfl) 122 rfl)
         obtain ⟨r121, g121, f121⟩ := hd 12 (by kernel_rfl) 121 rfl
         have t121 := Reg.slot_val g121
         clear g121
         go_simp
         exact hK undef _ (fun h => absurd rfl h) (fun _ => ⟨_, f121, by rw [← fl4_set p (i := 2) (by decide)]; exact HC.out.1.set HD.out 2 _, HC.out.2.set HSL.out⟩) (fun h => absurd rfl h) trivial
       ·rintro f W4 hR hT
        obtain ⟨r, hr, hB, hAg⟩ := hT 14 rfl (Nat.le_of_ble_eq_true rfl)
        simp only [Reg.mixL, Nat.zero_add, Nat.reduceAdd]
        have HB1 := Lib.hid hB.one
        have HLE := HLEN.out
        have HF1 := Lib.hid (part_step (by have := EL.out; omega) HE.out rfl HFK.out (by rw [← hcc] at hr; exact (by rw [← HFO.out] at hr; exact hr)))
        have HAG5 := Lib.hid hAg
        clear hR hT hB hr hAg
        go_wp2
        go_roundw
        case rel => exact ⟨k + 1, by omega, by go_num, _, HB1.out, HF1.out, HAG5.out⟩
        case measure => simp [intOf]; omega
      ·obtain rfl : k = hs.length := by omega
       have b0 := cell_below BX.out.bel (HA.out 0 _ rfl)
       clear HI HLT HAG HSS HSL
       go_wp2
       clear b0
       go_loopw [129] (fun i w' => ∃ k : Nat, k ≤ B.pl ∧ i = .int .i64 k ∧ Aside (∃ p, Bx w [(sb, fl4 p)] w' ∧ ∀ j, j < 4 → FV .f32 (p j) (partC c.cs (es.take (B.sl + B.tl + hs.length + k)) j))) (fun i _ => B.pl - (intOf i).toNat)
       case atStart => exact ⟨0, Nat.zero_le _, rfl, p, BX.out, HFK.out⟩
       case round =>
        clear HFK BX
        obtain ⟨k, hk, rfl, hA⟩ := hrel
        obtain ⟨p, hBX, hF⟩ := hA.out
        have BX := Lib.hid hBX
        have HFK := Lib.hid hF
        clear hA hBX hF
        by_cases hlt4 : k < B.pl
        ·obtain ⟨bp, op, hbp, hcp⟩ := H.out.1.some (by omega)
         obtain ⟨p0, q0, r0, d00, d01, d02, f00, f01, f02⟩ := hcp k hlt4
         obtain ⟨wb, wo, hwb, hwc⟩ := fs_at H.out.2.2.2.1 (show k < B.wl by rw [HWL.out]; exact hlt4)
         have hzk : c.zs.getD k 0 < 2 ^ FloatKind.f32.format.width := by
          have hkz : k < c.zs.length := by have h1 := H.out.2.2.2.1.1; have h2 := HWL.out; omega
          have e : c.zs.getD k 0 = c.zs[k] := by simp [List.getD, hkz]
          rw [e]
          exact H.out.2.2.2.1.2.2.2.1 _ (List.getElem_mem hkz)
         have HZK := Lib.hid (FV.self hzk)
         have A0' := HA.out 0 _ rfl
         rw [hbp] at A0'
         have A0 := Lib.hid A0'
         have A5' := HA.out 5 _ rfl
         rw [hwb] at A5'
         have A5 := Lib.hid A5'
         have WC := Lib.hid hwc
         have D0 := Lib.hid (And.intro d00 (And.intro d01 d02))
         have F0 := Lib.hid (And.intro f00 (And.intro f01 f02))
         have HE := Lib.hid (E4.out k hlt4)
         have hk0 : (0 : Int) ≤ (k : Int) := by omega
         have hk1 : (k : Int) < (B.pl : Int) := by omega
         have hk2 : (k : Int) < (B.wl : Int) := by have := HWL.out; omega
         have HFF := Lib.hid H.out.2.2.2.2.2.2
         have HD : Hid (∀ y' ∈ ([] : List (Nat × List Value)), y'.1 ≠ sb) := Lib.hid (fun y' hy => by cases hy)
         have HF := Lib.hid (HFK.out 3 (by decide))
         generalize hcc : partC c.cs (List.take (B.sl + B.tl + hs.length + k) es) 3 = cc at HF
         clear hcp d00 d01 d02 f00 f01 f02 hbp hwb hwc hzk A0' A5'
         generalize c.zs.getD k 0 = zk at *
         go_wp2_with fail
         refine Reg3.wp_region_mix (C := Bx w [(sb, fl4 p)]) (G := fun _ _ => True) (R := fun i v w' => match i with | 0 => v = .slice (some ⟨sb, 0, none⟩) 4 4 | 1 => v = .pointer (some ⟨sb, 3, none⟩) | 2 => v = .float .f32 (p 3) | 3 => v = .pointer (some ⟨pb, 0, none⟩) | 4 => v = .pointer (some ⟨pb, 0, none⟩) | 5 => v = .pointer (some ⟨pb, 5, none⟩) | 6 => v = .slice (some ⟨wb, wo, none⟩) B.wl B.wc | 7 => v = .int .i64 (k : Int) | 8 => v = .pointer (some ⟨wb, wo + k, none⟩) | 9 => v = .float .f32 zk | 10 => v = .pointer (some ⟨pb, 0, none⟩) | 11 => v = .pointer (some ⟨pb, 0, none⟩) | 12 => v = .pointer (some ⟨pb, 6, none⟩) | 13 => v = vv B.x B.y B.z | 14 => v = .pointer (some ⟨pb, 0, none⟩) | 15 => v = .pointer (some ⟨pb, 0, none⟩) | 16 => v = .pointer (some ⟨pb, 0, none⟩) | 17 => v = .slice (some ⟨bp, op, none⟩) B.pl B.pc | 18 => v = .int .i64 (k : Int) | 19 => v = .pointer (some ⟨bp, op + k * 3, none⟩) | 20 => v = vv p0 q0 r0 | 21 => ∃ r, v = .float .f32 r ∧ FV .f32 r (innerC c.fall (c.cs.getD k c0)) | 22 => ∃ r, v = .float .f32 r ∧ FV .f32 r (fop .mul .f32 (cls .f32 zk) (innerC c.fall (c.cs.getD k c0))) | 23 => ∃ r, v = .float .f32 r ∧ FV .f32 r (negC32 (fop .mul .f32 (cls .f32 zk) (innerC c.fall (c.cs.getD k c0)))) | 24 => ∃ r, v = .float .f32 r ∧ FV .f32 r (fop .add .f32 cc (negC32 (fop .mul .f32 (cls .f32 zk) (innerC c.fall (c.cs.getD k c0))))) | 25 => v = .pointer (some ⟨sb, 3, none⟩) | _ => True) (T := fun _ _ w' => ∃ r, FV .f32 r (fop .add .f32 cc (negC32 (fop .mul .f32 (cls .f32 zk) (innerC c.fall (c.cs.getD k c0))))) ∧ Bx w [(sb, fl4 (upd p 3 r))] w') [false, false, false, false, false, false, false, false, false, false, false, false, false, false, false, false, false, false, false, false, false, false, false, false, false, false, false, false, false, false, false, false, false, false, false, false, false, false, false, false, false, false, false, false, false, false, false, false, false, false, false, false, false, false, false, false, false, false, false, false, false, false, false, false, false, false, false, false, false, false, false, false, false, false, false, false, false, false, false, false, false, false, false, false, false, false, false, false, false, false, false, false, false, false, false, false, false, false, false, false, false, false, false, false, false, false, false, false, false, false, false, false, false, false, false, false, false, false, false, false, false, false, false, false, false, false, false, false, false, false, false, false, true, true, true, true, true, true, true, true, true, true, true, true, true, true, true, true, true, true, true, true, true, true, true, true, true, true, false, false]
          (by kernel_rfl) (by kernel_rfl) (by kernel_rfl) (fun _ _ _ _ _ _ h => h) (BX.out.drewN 1) ?_ ?_
         ·refine ⟨Reg3.Obl.mk ?_, Reg3.Obl.mk ?_, Reg3.Obl.mk ?_, Reg3.Obl.mk ?_, Reg3.Obl.mk ?_, Reg3.Obl.mk ?_, Reg3.Obl.mk ?_, Reg3.Obl.mk ?_, Reg3.Obl.mk ?_, Reg3.Obl.mk ?_, Reg3.Obl.mk ?_, Reg3.Obl.mk ?_, Reg3.Obl.mk ?_, Reg3.Obl.mk ?_, Reg3.Obl.mk ?_, Reg3.Obl.mk ?_, Reg3.Obl.mk ?_, Reg3.Obl.mk ?_, Reg3.Obl.mk ?_, Reg3.Obl.mk ?_, Reg3.Obl.mk ?_, Reg3.Obl.mk ?_, Reg3.Obl.mk ?_, Reg3.Obl.mk ?_, Reg3.Obl.mk ?_, Reg3.Obl.mk ?_, Reg3.Obl.mk ?_, trivial⟩
          ·rintro a w1 HC hx hd K hK
           replace HC := Lib.hid HC
           have t3 : a.tmps[3]?.getD undef = .slice (some ⟨sb, 0, none⟩) 4 4 := Reg.slot_val (hx 3 (by kernel_rfl))
           go_simp
           exact hK _ _ (fun _ => rfl) (fun h => by cases h) (fun _ => HC.out) trivial
          ·rintro a w1 HC hx hd K hK
           replace HC := Lib.hid HC
           have t132 : a.tmps[132]?.getD undef = .slice (some ⟨sb, 0, none⟩) 4 4 := Reg.slot_val (hd 0 (by kernel_rfl) 132 rfl)
           go_simp
           exact hK _ _ (fun _ => rfl) (fun h => by cases h) (fun _ => HC.out) trivial
          ·rintro a w1 HC hx hd K hK
           replace HC := Lib.hid HC
           have z9 := (HC.out.mem (.head _)) 3 _ rfl
           have t133 : a.tmps[133]?.getD undef = .pointer (some ⟨sb, 3, none⟩) := Reg.slot_val (hd 1 (by kernel_rfl) 133 rfl)
           go_simp
           exact hK _ _ (fun _ => rfl) (fun h => by cases h) (fun _ => HC.out) trivial
          ·rintro a w1 HC hx hd K hK
           replace HC := Lib.hid HC
           have t0 : a.tmps[0]?.getD undef = .pointer (some ⟨pb, 0, none⟩) := Reg.slot_val (hx 0 (by kernel_rfl))
           go_simp
           exact hK _ _ (fun _ => rfl) (fun h => by cases h) (fun _ => HC.out) trivial
          ·rintro a w1 HC hx hd K hK
           replace HC := Lib.hid HC
           have t135 : a.tmps[135]?.getD undef = .pointer (some ⟨pb, 0, none⟩) := Reg.slot_val (hd 3 (by kernel_rfl) 135 rfl)
           go_simp
           exact hK _ _ (fun _ => rfl) (fun h => by cases h) (fun _ => HC.out) trivial
          ·rintro a w1 HC hx hd K hK
           replace HC := Lib.hid HC
           have t136 : a.tmps[136]?.getD undef = .pointer (some ⟨pb, 0, none⟩) := Reg.slot_val (hd 4 (by kernel_rfl) 136 rfl)
           go_simp
           exact hK _ _ (fun _ => rfl) (fun h => by cases h) (fun _ => HC.out) trivial
          ·rintro a w1 HC hx hd K hK
           replace HC := Lib.hid HC
           have y9 := cell_below HC.out.bel A5.out
           have t137 : a.tmps[137]?.getD undef = .pointer (some ⟨pb, 5, none⟩) := Reg.slot_val (hd 5 (by kernel_rfl) 137 rfl)
           go_simp
           exact hK _ _ (fun _ => rfl) (fun h => by cases h) (fun _ => HC.out) trivial
          ·rintro a w1 HC hx hd K hK
           replace HC := Lib.hid HC
           have t12 : a.tmps[12]?.getD undef = .int .i64 (k : Int) := Reg.slot_val (hx 12 (by kernel_rfl))
           go_simp
           exact hK _ _ (fun _ => rfl) (fun h => by cases h) (fun _ => HC.out) trivial
          ·rintro a w1 HC hx hd K hK
           replace HC := Lib.hid HC
           have t138 : a.tmps[138]?.getD undef = .slice (some ⟨wb, wo, none⟩) B.wl B.wc := Reg.slot_val (hd 6 (by kernel_rfl) 138 rfl)
           have t139 : a.tmps[139]?.getD undef = .int .i64 (k : Int) := Reg.slot_val (hd 7 (by kernel_rfl) 139 rfl)
           go_simp
           exact hK _ _ (fun _ => rfl) (fun h => by cases h) (fun _ => HC.out) trivial
          ·rintro a w1 HC hx hd K hK
           replace HC := Lib.hid HC
           have y9 := cell_below HC.out.bel WC.out
           have t140 : a.tmps[140]?.getD undef = .pointer (some ⟨wb, wo + k, none⟩) := Reg.slot_val (hd 8 (by kernel_rfl) 140 rfl)
           go_simp
           exact hK _ _ (fun _ => rfl) (fun h => by cases h) (fun _ => HC.out) trivial
          ·rintro a w1 HC hx hd K hK
           replace HC := Lib.hid HC
           have t0 : a.tmps[0]?.getD undef = .pointer (some ⟨pb, 0, none⟩) := Reg.slot_val (hx 0 (by kernel_rfl))
           go_simp
           exact hK _ _ (fun _ => rfl) (fun h => by cases h) (fun _ => HC.out) trivial
          ·rintro a w1 HC hx hd K hK
           replace HC := Lib.hid HC
           have t142 : a.tmps[142]?.getD undef = .pointer (some ⟨pb, 0, none⟩) := Reg.slot_val (hd 10 (by kernel_rfl) 142 rfl)
           go_simp
           exact hK _ _ (fun _ => rfl) (fun h => by cases h) (fun _ => HC.out) trivial
          ·rintro a w1 HC hx hd K hK
           replace HC := Lib.hid HC
           have t143 : a.tmps[143]?.getD undef = .pointer (some ⟨pb, 0, none⟩) := Reg.slot_val (hd 11 (by kernel_rfl) 143 rfl)
           go_simp
           exact hK _ _ (fun _ => rfl) (fun h => by cases h) (fun _ => HC.out) trivial
          ·rintro a w1 HC hx hd K hK
           replace HC := Lib.hid HC
           have y0 := cell_below HC.out.bel (HA.out 6 _ rfl)
           have y1 := cell_below HC.out.bel (HA.out 7 _ rfl)
           have y2 := cell_below HC.out.bel (HA.out 8 _ rfl)
           have t144 : a.tmps[144]?.getD undef = .pointer (some ⟨pb, 6, none⟩) := Reg.slot_val (hd 12 (by kernel_rfl) 144 rfl)
           go_simp
           exact hK _ _ (fun _ => rfl) (fun h => by cases h) (fun _ => HC.out) trivial
          ·rintro a w1 HC hx hd K hK
           replace HC := Lib.hid HC
           have t4 : a.tmps[4]?.getD undef = .pointer (some ⟨pb, 0, none⟩) := Reg.slot_val (hx 4 (by kernel_rfl))
           go_simp
           exact hK _ _ (fun _ => rfl) (fun h => by cases h) (fun _ => HC.out) trivial
          ·rintro a w1 HC hx hd K hK
           replace HC := Lib.hid HC
           have t146 : a.tmps[146]?.getD undef = .pointer (some ⟨pb, 0, none⟩) := Reg.slot_val (hd 14 (by kernel_rfl) 146 rfl)
           go_simp
           exact hK _ _ (fun _ => rfl) (fun h => by cases h) (fun _ => HC.out) trivial
          ·rintro a w1 HC hx hd K hK
           replace HC := Lib.hid HC
           have t147 : a.tmps[147]?.getD undef = .pointer (some ⟨pb, 0, none⟩) := Reg.slot_val (hd 15 (by kernel_rfl) 147 rfl)
           go_simp
           exact hK _ _ (fun _ => rfl) (fun h => by cases h) (fun _ => HC.out) trivial
          ·rintro a w1 HC hx hd K hK
           replace HC := Lib.hid HC
           have y9 := cell_below HC.out.bel A0.out
           have t148 : a.tmps[148]?.getD undef = .pointer (some ⟨pb, 0, none⟩) := Reg.slot_val (hd 16 (by kernel_rfl) 148 rfl)
           go_simp
           exact hK _ _ (fun _ => rfl) (fun h => by cases h) (fun _ => HC.out) trivial
          ·rintro a w1 HC hx hd K hK
           replace HC := Lib.hid HC
           have t12 : a.tmps[12]?.getD undef = .int .i64 (k : Int) := Reg.slot_val (hx 12 (by kernel_rfl))
           go_simp
           exact hK _ _ (fun _ => rfl) (fun h => by cases h) (fun _ => HC.out) trivial
          ·rintro a w1 HC hx hd K hK
           replace HC := Lib.hid HC
           have t149 : a.tmps[149]?.getD undef = .slice (some ⟨bp, op, none⟩) B.pl B.pc := Reg.slot_val (hd 17 (by kernel_rfl) 149 rfl)
           have t150 : a.tmps[150]?.getD undef = .int .i64 (k : Int) := Reg.slot_val (hd 18 (by kernel_rfl) 150 rfl)
           go_simp
           exact hK _ _ (fun _ => rfl) (fun h => by cases h) (fun _ => HC.out) trivial
          ·rintro a w1 HC hx hd K hK
           replace HC := Lib.hid HC
           have y0 := cell_below HC.out.bel D0.out.1
           have y1 := cell_below HC.out.bel D0.out.2.1
           have y2 := cell_below HC.out.bel D0.out.2.2
           have t151 : a.tmps[151]?.getD undef = .pointer (some ⟨bp, op + k * 3, none⟩) := Reg.slot_val (hd 19 (by kernel_rfl) 151 rfl)
           go_simp
           exact hK _ _ (fun _ => rfl) (fun h => by cases h) (fun _ => HC.out) trivial
          ·rintro a w1 HC hx hd K hK
           replace HC := Lib.hid HC
           have t145 : a.tmps[145]?.getD undef = vv B.x B.y B.z := Reg.slot_val (hd 13 (by kernel_rfl) 145 rfl)
           have t152 : a.tmps[152]?.getD undef = vv p0 q0 r0 := Reg.slot_val (hd 20 (by kernel_rfl) 152 rfl)
           go_simp
           refine (l01Inner _ _ _ _ _ _ _ _ _ _ _ _ _ HFF.out.1 HFF.out.2.1 HFF.out.2.2 F0.out.1 F0.out.2.1 F0.out.2.2).mono ?_
           rintro en w2 ⟨r, rfl, hr, hB2⟩
           exact hK _ _ (fun _ => ⟨r, rfl, hr⟩) (fun h => by cases h) (fun _ => HC.out.call hB2) trivial
          ·rintro a w1 HC hx hd K hK
           replace HC := Lib.hid HC
           have t141 : a.tmps[141]?.getD undef = .float .f32 zk := Reg.slot_val (hd 9 (by kernel_rfl) 141 rfl)
           obtain ⟨r153, g153, f153⟩ := hd 21 (by kernel_rfl) 153 rfl
           have t153 := Reg.slot_val g153
           clear g153
           go_simp
           exact hK _ _ (fun _ => ⟨_, rfl, FV_fR HZK.out f153⟩) (fun h => by cases h) (fun _ => HC.out.drewN _) trivial
          ·rintro a w1 HC hx hd K hK
           replace HC := Lib.hid HC
           obtain ⟨r154, g154, f154⟩ := hd 22 (by kernel_rfl) 154 rfl
           have t154 := Reg.slot_val g154
           clear g154
           go_simp
           exact hK _ _ (fun _ => ⟨_, rfl, FV_neg32 f154⟩) (fun h => by cases h) (fun _ => HC.out) trivial
          ·rintro a w1 HC hx hd K hK
           replace HC := Lib.hid HC
           have t134 : a.tmps[134]?.getD undef = .float .f32 (p 3) := Reg.slot_val (hd 2 (by kernel_rfl) 134 rfl)
           obtain ⟨r155, g155, f155⟩ := hd 23 (by kernel_rfl) 155 rfl
           have t155 := Reg.slot_val g155
           clear g155
           go_simp
           exact hK _ _ (fun _ => ⟨_, rfl, FV_fR HF.out f155⟩) (fun h => by cases h) (fun _ => HC.out.drewN _) trivial
          ·rintro a w1 HC hx hd K hK
           replace HC := Lib.hid HC
           have t132 : a.tmps[132]?.getD undef = .slice (some ⟨sb, 0, none⟩) 4 4 := Reg.slot_val (hd 0 (by kernel_rfl) 132 rfl)
           go_simp
           exact hK _ _ (fun _ => rfl) (fun h => by cases h) (fun _ => HC.out) trivial
          ·rintro a w1 HC hx hd K hK
           replace HC := Lib.hid HC
           have z9 := (HC.out.mem (.head _)) 3 _ rfl
           have k9 := HC.out.free (.head _) 3
           have t157 : a.tmps[157]?.getD undef = .pointer (some ⟨sb, 3, none⟩) := Reg.slot_val (hd 25 (by kernel_rfl) 157 rfl)
           obtain ⟨r156, g156, f156⟩ := hd 24 (by kernel_rfl) 156 rfl
           have t156 := Reg.slot_val g156
           clear g156
           go_simp
           exact hK undef _ (fun h => absurd rfl h) (fun _ => ⟨_, f156, by rw [← fl4_set p (i := 3) (by decide)]; exact HC.out.set HD.out 3 _⟩) (fun h => absurd rfl h) trivial
         ·rintro f W4 hR hT
          obtain ⟨r, hr, hB⟩ := hT 26 rfl (Nat.le_of_ble_eq_true rfl)
          simp only [Reg.mixL, Nat.zero_add, Nat.reduceAdd]
          have HB1 := Lib.hid hB
          have HLE := HLEN.out
          have HF1 := Lib.hid (part_step (by have := EL.out; omega) HE.out rfl HFK.out (by rw [← hcc] at hr; exact hr))
          clear hR hT hB hr
          go_wp2
          go_roundw
          case rel => exact ⟨k + 1, by omega, by go_num, _, HB1.out, HF1.out⟩
          case measure => simp [intOf]; omega
        ·obtain rfl : k = B.pl := by omega
         have HF1 : Hid (∀ j, j < 4 → FV .f32 (p j) (partC c.cs es j)) := Lib.hid (by have := HFK.out; rwa [List.take_of_length_le (by have := EL.out; omega)] at this)
         go_wp2
         go_ret
         exact ⟨p, sb, rfl, BX.out, HF1.out⟩
end Go.Proofs.YtabccmobmppdnaaGreat
namespace Go.Proofs.YtabccmobmppdnaaGreat
open Go Fk Go.RowKit
set_option linter.unusedVariables false
set_option maxRecDepth 8000
end Go.Proofs.YtabccmobmppdnaaGreat

/-
Texts in one: what StretchesOf stands on, part 31. Conditions: those of each.
-/
import Derived.Test.YtmbekamnogbgaabKStretchesOf30
import Derived.Test.YtmbekamnogbgaabRows
import Derived.WalkKit
import Derived.ProofKit
import Derived.OpenShut
import Derived.ShutString
import Derived.ChangeOld
import Derived.Below
import Derived.Lib.SmallJoins

/-
How far the springs of a body are stretched: the model. Conditions: none beyond that the body lies in memory.
-/
namespace Go.Proofs.Ytmbekamnogbgaab
open Go Fk Go.RowKit
set_option linter.unusedVariables false
set_option maxRecDepth 16000

set_option maxHeartbeats 4000000 in
theorem spec_StretchesOf (B : Bd) (c : Bc) (w : World) (h : IsB w B c) :
    Calls Try.prog 37 #[B.v] w fun e w' => (∃ a cap, e = .returned (.tuple #[.slice a (stT c).length cap, .bool (bodyB c)]) ∧ IsCs32 w' a (stT c).length cap (stT c)) ∧ Below w.heap.size w w' := by
  have uib := Try.underlying64
  have um := Try.underlying32
  have uv := Try.underlying62
  have us := Try.underlying116
  have u32 := Try.underlying52
  have BX : Hid (Bx w [(w.heap.size, B.l)] (w.alloc (BoxB B 64))) := Lib.hid ((Bx.nil w).box (vs := B.l) (t := 64))
  have J := Lib.hid (l03Is w.heap.size B c (w.alloc (BoxB B 64)) (BX.out.mem (.head _)) (h.below BX.out.bel))
  cases hv : bodyB c
  · rw [hv] at J
    have he : stT c = [] := by unfold stT; rw [hv]; rfl
    rw [he]
    clear hv h he
    go_enter Try.func37, Try.ntmps37
    go_wp2_with fail
    change Calls _ _ _ (w.alloc (BoxB B 64)) _
    generalize (w.alloc (BoxB B 64)) = W at *
    refine J.out.mono ?_
    rintro e w1 ⟨rfl, n, hw⟩
    have HB := Lib.hid (below_drewN BX.out.bel n)
    rw [hw]
    clear hw
    go_wp2
    go_ret2
    exact ⟨⟨none, 0, rfl, ⟨[], ⟨rfl, Nat.le_refl _, by unfold maxLen; omega, fun z hz => (by cases hz), fun _ => ⟨rfl, rfl⟩, fun x hx => (by cases hx)⟩, fun k hk => absurd hk (by simp), rfl⟩⟩, HB.out⟩
  · rw [hv] at J
    obtain ⟨v1, v2⟩ := body_ss hv
    obtain ⟨i0, hi, hz0, hz1, hz2⟩ := info_parts info32
    have he : stT c = c.ss.map (strC c.cs) := by unfold stT; rw [hv]; rfl
    have hpl : c.cs.length = B.pl := h.1.1
    have hsl : c.ss.length = B.sl := h.2.2.1.1
    rw [hpl, hsl] at v2
    rw [hsl] at v1
    rw [he]
    have H := Lib.hid h
    have V2 := Lib.hid v2
    have V1 := Lib.hid v1
    have HSL := Lib.hid hsl
    clear hv h he v1 v2 hpl hsl
    go_enter Try.func37, Try.ntmps37
    go_wp2_with fail
    change Calls _ _ _ (w.alloc (BoxB B 64)) _
    generalize (w.alloc (BoxB B 64)) = W at *
    refine J.out.mono ?_
    rintro e w1 ⟨rfl, n, hw⟩
    have BX1 : Hid (Bx w [(w.heap.size, B.l)] w1) := Lib.hid (by rw [hw]; exact BX.out.call (below_drewN (Below.refl _ _) n))
    clear hw J BX
    have hst : (w1.alloc (.cells #[] 52)).ownsRow w1.heap.size 52 1 (.slice (some ⟨w1.heap.size, 0, none⟩) 0 0) 0 [] :=
      World.ownsRow_lit (base := w1.heap.size) (e := 52) (size := 1) w1 #[] 0 (Nat.le_refl _) (by decide) rfl
    have HST : Hid (OwnC w1.heap.size (w1.alloc (.cells #[] 52)) (.slice (some ⟨w1.heap.size, 0, none⟩) 0 0) 0 fun k => strC c.cs (c.ss.getD k s0)) := Lib.hid ⟨[], hst, rfl, fun k hk => absurd hk (by omega)⟩
    have HB3 := Lib.hid ((Below.refl w1.heap.size w1).alloc (Nat.le_refl _) (.cells #[] 52))
    have a2 := cell_below HB3.out ((BX1.out.mem (.head _)) 2 _ rfl)
    clear hst
    go_wp2
    clear a2
    generalize w1.alloc (.cells #[] 52) = W3 at *
    generalize (.slice (some ⟨w1.heap.size, 0, none⟩) 0 0 : Value) = v0 at *
    go_loopw [4, 13] (fun v i w' => ∃ k : Nat, k ≤ B.sl ∧ i = .int .i64 k ∧ Aside (OwnC w1.heap.size w' v k (fun k => strC c.cs (c.ss.getD k s0)) ∧ Below w1.heap.size w1 w')) (fun _ i _ => B.sl - (intOf i).toNat)
    case atStart => exact ⟨0, Nat.zero_le _, rfl, HST.out, HB3.out⟩
    case round =>
      obtain ⟨k, hk, hik, hA⟩ := hrel
      subst hik
      obtain ⟨hO, hB'⟩ := hA.out
      have HO := Lib.hid hO
      have HC' := Lib.hid hB'
      have BX2 := Lib.hid (BX1.out.call hB')
      by_cases hlt : k < B.sl
      · have hIB := H.out.below BX2.out.bel
        obtain ⟨bs, os, hbs, hsp⟩ := hIB.2.2.1.some (by omega)
        obtain ⟨x, y, e0, e1, e2, e3, fx, fy⟩ := hsp k hlt
        obtain ⟨hi1, hi2⟩ := V2.out k hlt
        obtain ⟨m, hm', hm⟩ := inB_nat hi1
        obtain ⟨n, hn', hn⟩ := inB_nat hi2
        obtain ⟨bp, op, hbp, hcp⟩ := hIB.1.some (by omega)
        obtain ⟨p0, q0, r0, d00, d01, d02, f00, f01, f02⟩ := hcp n hn
        obtain ⟨p1, q1, r1, d10, d11, d12, f10, f11, f12⟩ := hcp m hm
        have HSTR : Hid (strC c.cs (c.ss.getD k s0) = fop .quo .f32 (longC (lessC (c.cs.getD n c0) (c.cs.getD m c0))) (c.ss.getD k s0).2.2.1) := Lib.hid (by
          unfold strC wayC
          rw [hm', hn']
          rfl)
        rw [hm'] at e0
        rw [hn'] at e1
        have b0 := (BX2.out.mem (.head _)) 0 _ rfl
        have b2 := (BX2.out.mem (.head _)) 2 _ rfl
        rw [hbp] at b0
        rw [hbs] at b2
        have m0 : (0 : Int) ≤ (m : Int) := by omega
        have m1 : (m : Int) < (B.pl : Int) := by omega
        have n0 : (0 : Int) ≤ (n : Int) := by omega
        have n1 : (n : Int) < (B.pl : Int) := by omega
        have hk0 : (0 : Int) ≤ (k : Int) := by omega
        have hk1 : (k : Int) < (B.sl : Int) := by omega
        have HLK := Lib.hid hlt
        have lt0 := World.block_lt_of_cell? _ _ e0
        generalize (c.ss.getD k s0).2.2.1 = lc at *
        have HSP : Hid (Below wr.heap.size wr (wr.alloc (.cells #[.int .i64 (m : Int), .int .i64 (n : Int), .float .f32 x, .float .f32 y] 116))) := Lib.hid ((Below.refl _ _).alloc (Nat.le_refl _) _)
        have HX : Hid (At (wr.alloc (.cells #[.int .i64 (m : Int), .int .i64 (n : Int), .float .f32 x, .float .f32 y] 116)) wr.heap.size [.int .i64 (m : Int), .int .i64 (n : Int), .float .f32 x, .float .f32 y]) := Lib.hid At.new
        have D00 := Lib.hid (And.intro d00 (And.intro d01 d02))
        have D10 := Lib.hid (And.intro d10 (And.intro d11 d12))
        have F0 := Lib.hid (And.intro f00 (And.intro f01 f02))
        have F1 := Lib.hid (And.intro f10 (And.intro f11 f12))
        clear hA hO hB' hsp hcp hi1 hi2 hm' hn' hlt hm hn hIB d00 d01 d02 d10 d11 d12 f00 f01 f02 f10 f11 f12 hbp hbs fy
        go_wp2_with fail
        generalize hW2 : (wr.alloc (.cells #[.int .i64 (m : Int), .int .i64 (n : Int), .float .f32 x, .float .f32 y] 116)) = W2 at *
        have kb0 := cell_below HSP.out b0
        clear e0 e1 e2 e3 b2 b0
        refine Reg5.wp_region_mix (m := 21) (C := fun w' => Below W2.heap.size W2 w') (D := fun w' => Below w1.heap.size w1 w') (G := fun w1 w2 => Below w1.heap.size w1 w2) (G' := fun w1 w2 => w2 = w1)
          (R := fun i v w' => match i with
            | 0 => v = u4
            | 1 => v = .pointer (some ⟨w.heap.size, 0, none⟩)
            | 2 => v = .pointer (some ⟨w.heap.size, 0, none⟩)
            | 3 => v = .slice (some ⟨bp, op, none⟩) B.pl B.pc
            | 4 => v = .pointer (some ⟨wr.heap.size, 1, none⟩)
            | 5 => v = .int .i64 (n : Int)
            | 6 => v = .pointer (some ⟨bp, op + n * 3, none⟩)
            | 7 => v = vv p0 q0 r0
            | 8 => v = .pointer (some ⟨w.heap.size, 0, none⟩)
            | 9 => v = .pointer (some ⟨w.heap.size, 0, none⟩)
            | 10 => v = .slice (some ⟨bp, op, none⟩) B.pl B.pc
            | 11 => v = .pointer (some ⟨wr.heap.size, 0, none⟩)
            | 12 => v = .int .i64 (m : Int)
            | 13 => v = .pointer (some ⟨bp, op + m * 3, none⟩)
            | 14 => v = vv p1 q1 r1
            | 15 => ∃ x y z, v = vv x y z ∧ FV3 x y z (lessC (c.cs.getD n c0) (c.cs.getD m c0))
            | 16 => ∃ x, v = .float .f32 x ∧ FV .f32 x (longC (lessC (c.cs.getD n c0) (c.cs.getD m c0)))
            | 17 => v = .pointer (some ⟨wr.heap.size, 2, none⟩)
            | 18 => v = .float .f32 x
            | 19 => ∃ x, v = .float .f32 x ∧ FV .f32 x (fop .quo .f32 (longC (lessC (c.cs.getD n c0) (c.cs.getD m c0))) lc)
            | 20 => ∃ g x, v = .slice (some ⟨g, 0, none⟩) 1 1 ∧ w'.cell? ⟨g, 0, none⟩ = some (.float .f32 x) ∧ FV .f32 x (fop .quo .f32 (longC (lessC (c.cs.getD n c0) (c.cs.getD m c0))) lc)
            | 21 => OwnC w1.heap.size w' v (k + 1) (fun k => strC c.cs (c.ss.getD k s0))
            | 22 => OwnC w1.heap.size w' v (k + 1) (fun k => strC c.cs (c.ss.getD k s0))
            | _ => True) (T := fun _ _ _ => True) [false, false, false, false, true, false, false, false, false, false, false, false, false, false, false, false, false, false, false, false, false, true, true, true, true, true, true, true, true, true, true, true, true, true, true, true, true, true, true, true, true, true, true, false, false]
          (by kernel_rfl) (by kernel_rfl) (by kernel_rfl) (by kernel_rfl) ?_ ?_ (below_drewN (Below.refl _ _) 1) ?_ ?_
        · intro j v wa wb _ _ hG hR
          match j with
          | 0 => exact hR
          | 1 => exact hR
          | 2 => exact hR
          | 3 => exact hR
          | 4 => exact hR
          | 5 => exact hR
          | 6 => exact hR
          | 7 => exact hR
          | 8 => exact hR
          | 9 => exact hR
          | 10 => exact hR
          | 11 => exact hR
          | 12 => exact hR
          | 13 => exact hR
          | 14 => exact hR
          | 15 => exact hR
          | 16 => exact hR
          | 17 => exact hR
          | 18 => exact hR
          | 19 => exact hR
          | 20 => obtain ⟨g, x, e, h1, h2⟩ := hR; exact ⟨g, x, e, cell_below hG h1, h2⟩
          | 21 => exact OwnC.up hR hG
          | 22 => exact OwnC.up hR hG
          | _ + 23 => trivial
        · intro j v wa wb _ _ hG hR
          rw [hG]; exact hR
        · refine ⟨?_, ?_, ?_, ?_, ?_, ?_, ?_, ?_, ?_, ?_, ?_, ?_, ?_, ?_, ?_, ?_, ?_, ?_, ?_, ?_, ?_, ?_, ?_, trivial⟩
          · refine Reg5.Obl.early rfl rfl ?_
            rintro av wq hC hx hd K hK
            have HC := Lib.hid hC
            clear hC
            have t4 : av.tmps[4]?.getD undef = u4 := Reg.slot_val (hx 4 (by kernel_rfl))
            go_simp
            exact hK _ _ rfl HC.out (Below.refl _ _)
          · refine Reg5.Obl.early rfl rfl ?_
            rintro av wq hC hx hd K hK
            have HC := Lib.hid hC
            clear hC
            have t1 : av.tmps[1]?.getD undef = .pointer (some ⟨w.heap.size, 0, none⟩) := Reg.slot_val (hx 1 (by kernel_rfl))
            go_simp
            exact hK _ _ rfl HC.out (Below.refl _ _)
          · refine Reg5.Obl.early rfl rfl ?_
            rintro av wq hC hx hd K hK
            have HC := Lib.hid hC
            clear hC
            have t22 : av.tmps[22]?.getD undef = .pointer (some ⟨w.heap.size, 0, none⟩) := Reg.slot_val (hd 1 (by kernel_rfl) 22 rfl)
            go_simp
            exact hK _ _ rfl HC.out (Below.refl _ _)
          · refine Reg5.Obl.early rfl rfl ?_
            rintro av wq hC hx hd K hK
            have HC := Lib.hid hC
            clear hC
            have t23 : av.tmps[23]?.getD undef = .pointer (some ⟨w.heap.size, 0, none⟩) := Reg.slot_val (hd 2 (by kernel_rfl) 23 rfl)
            have y0 := cell_below HC.out kb0
            go_simp
            exact hK _ _ rfl HC.out (Below.refl _ _)
          · refine Reg5.Obl.early rfl rfl ?_
            rintro av wq hC hx hd K hK
            have HC := Lib.hid hC
            clear hC
            have t6 : av.tmps[6]?.getD undef = .pointer (some ⟨wr.heap.size, 0, none⟩) := Reg.slot_val (hx 6 (by kernel_rfl))
            go_simp
            exact hK _ _ rfl HC.out (Below.refl _ _)
          · refine Reg5.Obl.early rfl rfl ?_
            rintro av wq hC hx hd K hK
            have HC := Lib.hid hC
            clear hC
            have t25 : av.tmps[25]?.getD undef = .pointer (some ⟨wr.heap.size, 1, none⟩) := Reg.slot_val (hd 4 (by kernel_rfl) 25 rfl)
            have y0 := (HX.out.below HC.out) 1 _ rfl
            go_simp
            exact hK _ _ rfl HC.out (Below.refl _ _)
          · refine Reg5.Obl.early rfl rfl ?_
            rintro av wq hC hx hd K hK
            have HC := Lib.hid hC
            clear hC
            have t24 : av.tmps[24]?.getD undef = .slice (some ⟨bp, op, none⟩) B.pl B.pc := Reg.slot_val (hd 3 (by kernel_rfl) 24 rfl)
            have t26 : av.tmps[26]?.getD undef = .int .i64 (n : Int) := Reg.slot_val (hd 5 (by kernel_rfl) 26 rfl)
            go_simp
            exact hK _ _ rfl HC.out (Below.refl _ _)
          · refine Reg5.Obl.early rfl rfl ?_
            rintro av wq hC hx hd K hK
            have HC := Lib.hid hC
            clear hC
            have t27 : av.tmps[27]?.getD undef = .pointer (some ⟨bp, op + n * 3, none⟩) := Reg.slot_val (hd 6 (by kernel_rfl) 27 rfl)
            have y0 := cell_below (HSP.out.trans (HC.out.mono HSP.out.size)) D00.out.1
            have y1 := cell_below (HSP.out.trans (HC.out.mono HSP.out.size)) D00.out.2.1
            have y2 := cell_below (HSP.out.trans (HC.out.mono HSP.out.size)) D00.out.2.2
            go_simp
            exact hK _ _ rfl HC.out (Below.refl _ _)
          · refine Reg5.Obl.early rfl rfl ?_
            rintro av wq hC hx hd K hK
            have HC := Lib.hid hC
            clear hC
            have t1 : av.tmps[1]?.getD undef = .pointer (some ⟨w.heap.size, 0, none⟩) := Reg.slot_val (hx 1 (by kernel_rfl))
            go_simp
            exact hK _ _ rfl HC.out (Below.refl _ _)
          · refine Reg5.Obl.early rfl rfl ?_
            rintro av wq hC hx hd K hK
            have HC := Lib.hid hC
            clear hC
            have t29 : av.tmps[29]?.getD undef = .pointer (some ⟨w.heap.size, 0, none⟩) := Reg.slot_val (hd 8 (by kernel_rfl) 29 rfl)
            go_simp
            exact hK _ _ rfl HC.out (Below.refl _ _)
          · refine Reg5.Obl.early rfl rfl ?_
            rintro av wq hC hx hd K hK
            have HC := Lib.hid hC
            clear hC
            have t30 : av.tmps[30]?.getD undef = .pointer (some ⟨w.heap.size, 0, none⟩) := Reg.slot_val (hd 9 (by kernel_rfl) 30 rfl)
            have y0 := cell_below HC.out kb0
            go_simp
            exact hK _ _ rfl HC.out (Below.refl _ _)
          · refine Reg5.Obl.early rfl rfl ?_
            rintro av wq hC hx hd K hK
            have HC := Lib.hid hC
            clear hC
            have t6 : av.tmps[6]?.getD undef = .pointer (some ⟨wr.heap.size, 0, none⟩) := Reg.slot_val (hx 6 (by kernel_rfl))
            go_simp
            exact hK _ _ rfl HC.out (Below.refl _ _)
          · refine Reg5.Obl.early rfl rfl ?_
            rintro av wq hC hx hd K hK
            have HC := Lib.hid hC
            clear hC
            have t32 : av.tmps[32]?.getD undef = .pointer (some ⟨wr.heap.size, 0, none⟩) := Reg.slot_val (hd 11 (by kernel_rfl) 32 rfl)
            have y0 := (HX.out.below HC.out) 0 _ rfl
            go_simp
            exact hK _ _ rfl HC.out (Below.refl _ _)
          · refine Reg5.Obl.early rfl rfl ?_
            rintro av wq hC hx hd K hK
            have HC := Lib.hid hC
            clear hC
            have t31 : av.tmps[31]?.getD undef = .slice (some ⟨bp, op, none⟩) B.pl B.pc := Reg.slot_val (hd 10 (by kernel_rfl) 31 rfl)
            have t33 : av.tmps[33]?.getD undef = .int .i64 (m : Int) := Reg.slot_val (hd 12 (by kernel_rfl) 33 rfl)
            go_simp
            exact hK _ _ rfl HC.out (Below.refl _ _)
          · refine Reg5.Obl.early rfl rfl ?_
            rintro av wq hC hx hd K hK
            have HC := Lib.hid hC
            clear hC
            have t34 : av.tmps[34]?.getD undef = .pointer (some ⟨bp, op + m * 3, none⟩) := Reg.slot_val (hd 13 (by kernel_rfl) 34 rfl)
            have y0 := cell_below (HSP.out.trans (HC.out.mono HSP.out.size)) D10.out.1
            have y1 := cell_below (HSP.out.trans (HC.out.mono HSP.out.size)) D10.out.2.1
            have y2 := cell_below (HSP.out.trans (HC.out.mono HSP.out.size)) D10.out.2.2
            go_simp
            exact hK _ _ rfl HC.out (Below.refl _ _)
          · refine Reg5.Obl.early rfl rfl ?_
            rintro av wq hC hx hd K hK
            have HC := Lib.hid hC
            clear hC
            have t28 : av.tmps[28]?.getD undef = vv p0 q0 r0 := Reg.slot_val (hd 7 (by kernel_rfl) 28 rfl)
            have t35 : av.tmps[35]?.getD undef = vv p1 q1 r1 := Reg.slot_val (hd 14 (by kernel_rfl) 35 rfl)
            go_simp
            refine (l01Less _ _ _ _ _ _ wq _ _ _ _ _ _ F0.out.1 F0.out.2.1 F0.out.2.2 F1.out.1 F1.out.2.1 F1.out.2.2).mono ?_
            rintro en w2' ⟨ra, rb, rc, rfl, ha, hb, hc, hB2⟩
            exact hK _ _ ⟨ra, rb, rc, rfl, ha, hb, hc⟩ (HC.out.trans (hB2.mono HC.out.size)) hB2
          · refine Reg5.Obl.early rfl rfl ?_
            rintro av wq hC hx hd K hK
            have HC := Lib.hid hC
            clear hC
            obtain ⟨x', y', z', g36, h1, h2, h3⟩ := hd 15 (by kernel_rfl) 36 rfl
            have t36 := Reg.slot_val g36
            clear g36
            go_simp
            refine (l01Long _ _ _ wq _ _ _ h1 h2 h3).mono ?_
            rintro en w2' ⟨r, rfl, hr, hB2⟩
            exact hK _ _ ⟨r, rfl, hr⟩ (HC.out.trans (hB2.mono HC.out.size)) hB2
          · refine Reg5.Obl.early rfl rfl ?_
            rintro av wq hC hx hd K hK
            have HC := Lib.hid hC
            clear hC
            have t6 : av.tmps[6]?.getD undef = .pointer (some ⟨wr.heap.size, 0, none⟩) := Reg.slot_val (hx 6 (by kernel_rfl))
            go_simp
            exact hK _ _ rfl HC.out (Below.refl _ _)
          · refine Reg5.Obl.early rfl rfl ?_
            rintro av wq hC hx hd K hK
            have HC := Lib.hid hC
            clear hC
            have t38 : av.tmps[38]?.getD undef = .pointer (some ⟨wr.heap.size, 2, none⟩) := Reg.slot_val (hd 17 (by kernel_rfl) 38 rfl)
            have y0 := (HX.out.below HC.out) 2 _ rfl
            go_simp
            exact hK _ _ rfl HC.out (Below.refl _ _)
          · refine Reg5.Obl.early rfl rfl ?_
            rintro av wq hC hx hd K hK
            have HC := Lib.hid hC
            clear hC
            obtain ⟨x', g37, h1⟩ := hd 16 (by kernel_rfl) 37 rfl
            have t37 := Reg.slot_val g37
            clear g37
            have t39 : av.tmps[39]?.getD undef = .float .f32 x := Reg.slot_val (hd 18 (by kernel_rfl) 39 rfl)
            go_simp
            exact hK _ _ ⟨_, rfl, FV_fR h1 fx⟩ (below_drewN HC.out _) (below_drewN (Below.refl _ _) _)
          · refine Reg5.Obl.early rfl rfl ?_
            rintro av wq hC hx hd K hK
            have HC := Lib.hid hC
            clear hC
            obtain ⟨x', g40, h1⟩ := hd 19 (by kernel_rfl) 40 rfl
            have t40 := Reg.slot_val g40
            clear g40
            go_simp
            exact hK _ _ ⟨wq.heap.size, x', rfl, by simp, h1⟩ (HC.out.alloc HC.out.size _) ((Below.refl _ _).alloc (Nat.le_refl _) _)
          · refine Reg5.Obl.mid rfl rfl ?_
            rintro av wq hC hx hd K hK
            have t21 : av.eval (.tmp 21) = u4 := hd 0 (by kernel_rfl) 21 rfl
            obtain ⟨b, z, t41, hc, hx'⟩ := hd 20 (by kernel_rfl) 41 rfl
            have hBw : Below wr.heap.size wr wq := HSP.out.trans (hC.mono HSP.out.size)
            obtain ⟨zs, hr, hzl, hzf⟩ := HO.out.up hBw
            refine wp_append_own wq _ _ 53 rfl w1.heap.size 52 i0 (.float .f32 0) 1 4 Try.underlying53 hi hz0 hz1 hz2 rfl (by decide) u4 k (zs.map (Value.float .f32)) t21 hr ⟨b, 0, none⟩ 1 1 [.float .f32 z] t41 rfl (fun j u' hj => ?_) (fun u' hu' => ?_) (by have := HLK.out; have := V1.out; unfold maxLen; omega) (by have := HLK.out; have := V1.out; omega) (Nat.le_trans HC'.out.size hBw.size) ?_
            · match j, hj with
              | 0, hj => simp at hj; subst hj; rw [addr_add']; exact hc
            · simp at hu'; subst hu'; rfl
            · intro v' w2' ho hg _
              have hsz : w1.heap.size ≤ wq.heap.size := Nat.le_trans HC'.out.size hBw.size
              refine hK _ _ ⟨zs ++ [z], by simpa using ho, by simp [hzl], fun j hj => ?_⟩ ((HC'.out.trans (hBw.mono HC'.out.size)).grown hg hsz (fun q hq => (hr.lt q hq).1))
              by_cases hjk : j = k
              · have : (zs ++ [z]).getD j 0 = z := by simp [List.getD, hjk, ← hzl]
                rw [this, hjk]
                show FV .f32 z (strC c.cs (c.ss.getD k s0))
                rw [HSTR.out]
                exact hx'
              · have hjz : j < zs.length := by omega
                have : (zs ++ [z]).getD j 0 = zs.getD j 0 := by simp [List.getD, List.getElem?_append_left hjz]
                rw [this]; exact hzf j (by omega)
          · refine Reg5.Obl.late rfl ?_
            rintro av wq hD1 hx hd K hK
            have HC := Lib.hid hD1
            clear hD1
            have g := hd 21 (by kernel_rfl) (by omega) 42 rfl
            obtain ⟨u, hu⟩ : ∃ u, u = av.eval (.tmp 42) := ⟨_, rfl⟩
            have t42 : av.tmps[42]?.getD undef = u := Reg.slot_val hu.symm
            have g' : OwnC w1.heap.size wq u (k + 1) (fun k => strC c.cs (c.ss.getD k s0)) := by rw [hu]; exact g
            have G := Lib.hid g'
            clear g hu g'
            go_simp
            exact hK _ _ (fun _ => G.out) (fun h => by cases h) (fun _ => HC.out) (fun _ => rfl)
        · rintro f wz hDR hT
          obtain ⟨hDD, hR⟩ := hDR (by decide)
          have g4 := hR 22 4 (by omega) rfl
          clear hDR
          have HG := Lib.hid g4
          have HDD := Lib.hid hDD
          have hlen4 := V1.out
          clear g4 hDD hR hT
          simp only [Reg.mixL]
          go_wp2
          go_roundw
          case rel => exact ⟨k + 1, by omega, by go_num, HG.out, HDD.out⟩
          case measure => simp [intOf]; omega
      · obtain rfl : k = B.sl := by omega
        have hl : (c.ss.map (strC c.cs)).length = B.sl := by rw [List.length_map]; exact HSL.out
        have hO2 : OwnC w1.heap.size wr u4 B.sl (fun k => (c.ss.map (strC c.cs)).getD k none) := by
          obtain ⟨zs, h1, h2, h3⟩ := hO
          refine ⟨zs, h1, h2, fun j hj => ?_⟩
          have hj' : j < c.ss.length := by rw [HSL.out]; exact hj
          simpa [List.getD, hj'] using h3 j hj
        obtain ⟨ga, gc, rfl, hI⟩ := hO2.is hl
        have HI2 := Lib.hid hI
        clear hA hO hB' hO2 hI H
        go_wp2
        go_ret2
        rw [hl]
        exact ⟨⟨ga, gc, rfl, HI2.out⟩, BX2.out.bel⟩
end Go.Proofs.Ytmbekamnogbgaab


/-
How far the springs of a body are stretched: the law returns true. Conditions: none beyond that the body lies in memory.
-/
namespace Go.Proofs.Ytmbekamnogbgaab
open Go Fk Go.RowKit
set_option linter.unusedVariables false
set_option maxRecDepth 16000

theorem FlM.below {w w' : World} {a : Option Addr} {n q : Nat} (h : FlM w a n q) (hB : Below w.heap.size w w') : FlM w' a n q := h.same fun b i v hv _ => cell_below hB hv
set_option maxHeartbeats 40000000 in
theorem stretchesOf_law (B : Bd) (c : Bc) (w : World) (h : IsB w B c) :
    Calls Try.prog 9 #[B.v] w fun e w' => e = .returned (.bool true) ∧ Below w.heap.size w w' := by
  have ulb := Try.underlying57
  have uib := Try.underlying64
  have HB := Lib.hid h
  have BX : Hid (Bx w [(w.heap.size, B.l)] (w.alloc (BoxB B 57))) := Lib.hid ((Bx.nil w).box (vs := B.l) (t := 57))
  have HSP := Lib.hid (fun (B : Bd) (w : World) (h : IsB w B c) => spec_StretchesOf B c w h)
  have HIM := Lib.hid (fun (B : Bd) (w : World) (h : IsB w B c) => impl_StretchesOf B c w h)
  have hll := stT_len c
  generalize stT c = L at *
  generalize bodyB c = nb at *
  generalize hn : L.length = n at *
  clear h hn
  have hvb : (nb == nb) = true := by cases nb <;> rfl
  have hvb' : (nb != nb) = false := by cases nb <;> rfl
  go_enter Try.func9, Try.ntmps9
  go_wp2_with fail
  change Calls _ _ _ (w.alloc (BoxB B 57)) _
  generalize (w.alloc (BoxB B 57)) = W at *
  refine (laws_szBody' B c 1048576 _ (HB.out.below BX.out.bel) (by decide) (by decide)).mono ?_
  rintro e w1 ⟨⟨r, rfl, hr⟩, hB1⟩
  have BX1 := Lib.hid (BX.out.call hB1)
  clear hB1
  rcases hr with rfl | ⟨hr0, hr1, hs⟩
  · go_wp2
    go_ret
    exact ⟨rfl, BX1.out.bel⟩
  have HS := Lib.hid hs
  clear hs
  have a0 := (BX1.out.mem (.head _)) 0 _ rfl
  have a1 := (BX1.out.mem (.head _)) 1 _ rfl
  have a2 := (BX1.out.mem (.head _)) 2 _ rfl
  have a3 := (BX1.out.mem (.head _)) 3 _ rfl
  have a4 := (BX1.out.mem (.head _)) 4 _ rfl
  have a5 := (BX1.out.mem (.head _)) 5 _ rfl
  have a6 := (BX1.out.mem (.head _)) 6 _ rfl
  have a7 := (BX1.out.mem (.head _)) 7 _ rfl
  have a8 := (BX1.out.mem (.head _)) 8 _ rfl
  go_wp2_with fail
  clear a0 a1 a2 a3 a4 a5 a6 a7 a8
  refine (laws_toBody B c _ (HB.out.below BX1.out.bel) HS.out).mono ?_
  rintro e w2 ⟨B0, rfl, hI0, hB2⟩
  have BX2 := Lib.hid (BX1.out.call hB2)
  have I0 := Lib.hid hI0
  clear hB2 hI0
  go_wp2_with fail
  refine (HSP.out B0 _ I0.out).mono ?_
  rintro e w3 ⟨⟨sa, sc, rfl, hsi⟩, hB3⟩
  have BX3 := Lib.hid (BX2.out.call hB3)
  have SI := Lib.hid hsi
  have SX := Lib.hid (Below.refl w3.heap.size w3)
  have LT3 : Hid (w.heap.size < w3.heap.size) := Lib.hid (BX3.out.mem (.head _)).lt
  clear hB3 hsi
  have a0 := (BX3.out.mem (.head _)) 0 _ rfl
  have a1 := (BX3.out.mem (.head _)) 1 _ rfl
  have a2 := (BX3.out.mem (.head _)) 2 _ rfl
  have a3 := (BX3.out.mem (.head _)) 3 _ rfl
  have a4 := (BX3.out.mem (.head _)) 4 _ rfl
  have a5 := (BX3.out.mem (.head _)) 5 _ rfl
  have a6 := (BX3.out.mem (.head _)) 6 _ rfl
  have a7 := (BX3.out.mem (.head _)) 7 _ rfl
  have a8 := (BX3.out.mem (.head _)) 8 _ rfl
  go_wp2_with fail
  clear a0 a1 a2 a3 a4 a5 a6 a7 a8
  refine (laws_toBodyO B c _ (HB.out.below BX3.out.bel) HS.out).mono ?_
  rintro e w4 ⟨X0, rfl, hIX, hOX, hB4⟩
  have BX4 := Lib.hid (BX3.out.call hB4)
  have hX4 : Below w4.heap.size w4 (w4.alloc (BoxB X0 64)) := (Below.refl _ _).alloc (Nat.le_refl _) _
  have BX5 : Hid (Bx w [(w4.heap.size, X0.l), (w.heap.size, B.l)] (w4.alloc (BoxB X0 64))) := Lib.hid (BX4.out.box (vs := X0.l) (t := 64))
  have SX5 := Lib.hid (SX.out.trans ((hB4.trans (hX4.mono hB4.size)).mono SX.out.size))
  have M5 := Lib.hid (And.intro (hIX.below hX4) (hOX.below hX4))
  have Z5 : Hid (w3.heap.size ≤ w4.heap.size ∧ (w4.alloc (BoxB X0 64)).heap.size = w4.heap.size + 1) := Lib.hid ⟨hB4.size, by simp⟩
  clear hIX hOX hB4 hX4
  go_wp2_with fail
  change Calls _ _ _ (w4.alloc (BoxB X0 64)) _
  generalize (w4.alloc (BoxB X0 64)) = W4 at *
  generalize w4.heap.size = X at *
  refine (HIM.out X0 _ M5.out.1).mono ?_
  rintro e w5 ⟨⟨ga, gc, rfl, hgi, hgl⟩, hB5⟩
  have GI := Lib.hid hgi
  have GL := Lib.hid hgl
  have BX6 := Lib.hid (BX5.out.call hB5)
  have SX6 := Lib.hid (SX5.out.trans (hB5.mono SX5.out.size))
  have M6 := Lib.hid (And.intro (M5.out.1.below hB5) (M5.out.2.below hB5))
  have Z6 := Lib.hid hB5.size
  clear hB5 hgi hgl
  go_wp2_with fail
  refine (eq_floats _ _ _ _ _ _ _ GI.out (SI.out.below SX6.out) (by omega)).mono ?_
  rintro en w6 ⟨rfl, n5, hw6⟩
  have hB6 : Below w5.heap.size w5 w6 := by rw [hw6]; exact below_drewN (Below.refl _ _) _
  have BX7 := Lib.hid (BX6.out.call hB6)
  have SX7 := Lib.hid (SX6.out.trans (hB6.mono SX6.out.size))
  have M7 := Lib.hid (And.intro (M6.out.1.below hB6) (M6.out.2.below hB6))
  have GI7 := Lib.hid (GI.out.below hB6)
  have GL7 := Lib.hid (GL.out.below hB6)
  have Z7 := Lib.hid hB6.size
  clear hB6 hw6
  go_wp2_with fail
  refine Reg.wp_region_mix (C := fun w' => Below w6.heap.size w6 w') (G := fun w1 w2 => Below w1.heap.size w1 w2) (R := fun i v w' => match i with | 0 => v = X0.v | 1 => v = B.v | 2 => ∃ Y : Bd, v = Y.v ∧ IsB w' Y c | 3 => v = .bool true | 4 => v = .bool false | _ => True) (T := fun _ _ _ => True) [false, false, false, false, false, false, false, false, false, false, false, false, false, false, false, false, false, false, false, false, false, false, false, false, false, false, false, false, false, false, false, false, false, false, false, false, false, false, false, false, false, true, true, true, true, true, false, false, false, false, false, false, false, false, false, false, false, false, false, false, false, false, false, false, false, false, false, false, false, false, false, false, false, false, false, false, false, false, false, false, false, false, false, false, false, false, false, false, false, false, false, false, false, false, false, false]
    (by kernel_rfl) (by kernel_rfl) (by kernel_rfl) ?_ (below_drewN (Below.refl _ _) 1) ?_ ?_
  · intro j v w1 w2 _ hG hR
    match j with
    | 0 => exact hR
    | 1 => exact hR
    | 2 => obtain ⟨Y, e, h1⟩ := hR; exact ⟨Y, e, h1.below hG⟩
    | 3 => exact hR
    | 4 => exact hR
    | _ + 5 => trivial
  · refine ⟨Reg.Obl.mk ?_, Reg.Obl.mk ?_, Reg.Obl.mk ?_, Reg.Obl.mk ?_, Reg.Obl.mk ?_, trivial⟩
    · rintro av wq hB hx hd K hK
      have HC := Lib.hid hB
      clear hB
      have t6 : av.tmps[6]?.getD undef = .pointer (some ⟨X, 0, none⟩) := Reg.slot_val (hx 6 (by kernel_rfl))
      have y0 := ((BX7.out.call HC.out).mem (.head _)) 0 _ rfl
      have y1 := ((BX7.out.call HC.out).mem (.head _)) 1 _ rfl
      have y2 := ((BX7.out.call HC.out).mem (.head _)) 2 _ rfl
      have y3 := ((BX7.out.call HC.out).mem (.head _)) 3 _ rfl
      have y4 := ((BX7.out.call HC.out).mem (.head _)) 4 _ rfl
      have y5 := ((BX7.out.call HC.out).mem (.head _)) 5 _ rfl
      have y6 := ((BX7.out.call HC.out).mem (.head _)) 6 _ rfl
      have y7 := ((BX7.out.call HC.out).mem (.head _)) 7 _ rfl
      have y8 := ((BX7.out.call HC.out).mem (.head _)) 8 _ rfl
      go_simp
      exact hK _ _ (fun _ => rfl) (fun h => by cases h) HC.out (Below.refl _ _)
    · rintro av wq hB hx hd K hK
      have HC := Lib.hid hB
      clear hB
      have t1 : av.tmps[1]?.getD undef = .pointer (some ⟨w.heap.size, 0, none⟩) := Reg.slot_val (hx 1 (by kernel_rfl))
      have y0 := ((BX7.out.call HC.out).mem (.tail _ (.head _))) 0 _ rfl
      have y1 := ((BX7.out.call HC.out).mem (.tail _ (.head _))) 1 _ rfl
      have y2 := ((BX7.out.call HC.out).mem (.tail _ (.head _))) 2 _ rfl
      have y3 := ((BX7.out.call HC.out).mem (.tail _ (.head _))) 3 _ rfl
      have y4 := ((BX7.out.call HC.out).mem (.tail _ (.head _))) 4 _ rfl
      have y5 := ((BX7.out.call HC.out).mem (.tail _ (.head _))) 5 _ rfl
      have y6 := ((BX7.out.call HC.out).mem (.tail _ (.head _))) 6 _ rfl
      have y7 := ((BX7.out.call HC.out).mem (.tail _ (.head _))) 7 _ rfl
      have y8 := ((BX7.out.call HC.out).mem (.tail _ (.head _))) 8 _ rfl
      go_simp
      exact hK _ _ (fun _ => rfl) (fun h => by cases h) HC.out (Below.refl _ _)
    · rintro av wq hB hx hd K hK
      have HC := Lib.hid hB
      clear hB
      have t42 : av.tmps[42]?.getD undef = B.v := Reg.slot_val (hd 1 (by kernel_rfl) 42 rfl)
      go_simp
      refine (laws_toBody B c _ (HB.out.below (BX7.out.call HC.out).bel) HS.out).mono ?_
      rintro en w2 ⟨Y, rfl, hV, hB2⟩
      exact hK _ _ (fun _ => ⟨Y, rfl, hV⟩) (fun h => by cases h) (HC.out.trans (hB2.mono HC.out.size)) hB2
    · rintro av wq hB hx hd K hK
      have HC := Lib.hid hB
      clear hB
      have t41 : av.tmps[41]?.getD undef = X0.v := Reg.slot_val (hd 0 (by kernel_rfl) 41 rfl)
      obtain ⟨Y, g2, hV⟩ := hd 2 (by kernel_rfl) 43 rfl
      have t43 := Reg.slot_val g2
      clear g2
      have HVe := Lib.hid hV
      clear hV
      go_simp
      refine (laws_eqBody X0 Y c _ (M7.out.1.below HC.out) HVe.out HS.out).mono ?_
      rintro en w2 ⟨rfl, hB2⟩
      exact hK _ _ (fun _ => rfl) (fun h => by cases h) (HC.out.trans (hB2.mono HC.out.size)) hB2
    · rintro av wq hB hx hd K hK
      have t44 : av.tmps[44]?.getD undef = .bool true := Reg.slot_val (hd 3 (by kernel_rfl) 44 rfl)
      go_simp
      exact hK _ _ (fun _ => rfl) (fun h => by cases h) hB (Below.refl _ _)
  rintro f wz hBz hd hTT
  have g45 : f 45 = .bool false := hd 4 45 rfl
  simp only [Reg.mixL, g45]
  have z5 := Z5.out
  have z6 := Z6.out
  have z7 := Z7.out
  have zz := hBz.size
  have lt3 := LT3.out
  have BXz := Lib.hid (BX7.out.call hBz)
  have SXz := Lib.hid (SX7.out.trans (hBz.mono SX7.out.size))
  have Oz := Lib.hid (And.intro (M7.out.1.below hBz) (M7.out.2.below hBz))
  have GIz := Lib.hid (GI7.out.below hBz)
  have GLz := Lib.hid (GL7.out.below hBz)
  clear hBz hd hTT g45
  have x0 := (BXz.out.mem (.head _)) 0 _ rfl
  have x1 := (BXz.out.mem (.head _)) 1 _ rfl
  have x2 := (BXz.out.mem (.head _)) 2 _ rfl
  have x3 := (BXz.out.mem (.head _)) 3 _ rfl
  have x4 := (BXz.out.mem (.head _)) 4 _ rfl
  have x5 := (BXz.out.mem (.head _)) 5 _ rfl
  have x6 := (BXz.out.mem (.head _)) 6 _ rfl
  have x7 := (BXz.out.mem (.head _)) 7 _ rfl
  have x8 := (BXz.out.mem (.head _)) 8 _ rfl
  go_wp2_with fail
  clear x0 x1 x2 x3 x4 x5 x6 x7 x8
  refine (laws_markBodyZ w3.heap.size X X0 c wz Oz.out.2 Oz.out.1 HS.out (by omega) (by omega)).mono ?_
  rintro e w7 ⟨z7', hz7, rfl, hM⟩
  have hz0 : ¬ ((z7' : Int) < 0) := by omega
  have hall : ∀ b l, (b, l) ∈ [(X, X0.l), (w.heap.size, B.l)] → b < w3.heap.size ∨ X ≤ b := by
    intro b l hm
    simp only [List.mem_cons, Prod.mk.injEq, List.not_mem_nil, or_false] at hm
    rcases hm with ⟨rfl, _⟩ | ⟨rfl, _⟩
    · exact .inr (by omega)
    · exact .inl (by omega)
  have BX8 := Lib.hid (BXz.out.away hM (by omega) hall)
  have SX8 := Lib.hid (SXz.out.trans (hM.below.mono (Nat.le_refl _)))
  have GI8 := Lib.hid (cs32_mark GIz.out GLz.out hM (.inr (by omega)))
  have GL8 := Lib.hid (GLz.out.mark hM)
  have z8 := hM.below.size
  clear hM hall
  go_wp2_with fail
  refine (eq_floats _ _ _ _ _ _ _ GI8.out (SI.out.below SX8.out) (by omega)).mono ?_
  rintro en w8 ⟨rfl, n8, hw8⟩
  have hB8 : Below w7.heap.size w7 w8 := by rw [hw8]; exact below_drewN (Below.refl _ _) _
  have BX9 := Lib.hid (BX8.out.call hB8)
  have SX9 := Lib.hid (SX8.out.trans (hB8.mono SX8.out.size))
  have GL9 := Lib.hid (GL8.out.below hB8)
  have z9 := hB8.size
  clear hB8 hw8
  go_wp2_with fail
  refine (fl_any W4.heap.size w5.heap.size ga n gc 1 w8 GL9.out (by omega) (by omega)).mono ?_
  rintro e w9 ⟨rfl, hmk, _, hM9⟩
  have hall : ∀ b l, (b, l) ∈ [(X, X0.l), (w.heap.size, B.l)] → b < W4.heap.size ∨ w5.heap.size ≤ b := by
    intro b l hm
    simp only [List.mem_cons, Prod.mk.injEq, List.not_mem_nil, or_false] at hm
    rcases hm with ⟨rfl, _⟩ | ⟨rfl, _⟩
    · exact .inl (by omega)
    · exact .inl (by omega)
  have BX10 := Lib.hid (BX9.out.away hM9 (by omega) hall)
  have SX10 := Lib.hid (SX9.out.trans (hM9.below.mono (by omega)))
  have HMK := Lib.hid (show FlM w9 ga n 1 from hmk)
  clear hmk hM9 hall
  go_wp2_with fail
  refine (fl_held ga n gc 1 w9 HMK.out (by omega) (by omega)).mono ?_
  rintro e w10 ⟨rfl, hw10⟩
  rw [hw10]
  clear hw10
  have a0 := (BX10.out.mem (.tail _ (.head _))) 0 _ rfl
  have a1 := (BX10.out.mem (.tail _ (.head _))) 1 _ rfl
  have a2 := (BX10.out.mem (.tail _ (.head _))) 2 _ rfl
  have a3 := (BX10.out.mem (.tail _ (.head _))) 3 _ rfl
  have a4 := (BX10.out.mem (.tail _ (.head _))) 4 _ rfl
  have a5 := (BX10.out.mem (.tail _ (.head _))) 5 _ rfl
  have a6 := (BX10.out.mem (.tail _ (.head _))) 6 _ rfl
  have a7 := (BX10.out.mem (.tail _ (.head _))) 7 _ rfl
  have a8 := (BX10.out.mem (.tail _ (.head _))) 8 _ rfl
  go_wp2_with fail
  clear a0 a1 a2 a3 a4 a5 a6 a7 a8
  refine (laws_toBody B c _ (HB.out.below BX10.out.bel) HS.out).mono ?_
  rintro e w11 ⟨Y, rfl, hY, hB11⟩
  have BX11 := Lib.hid (BX10.out.call hB11)
  have SX11 := Lib.hid (SX10.out.trans (hB11.mono SX10.out.size))
  have MK11 := Lib.hid (HMK.out.below hB11)
  have HY := Lib.hid hY
  clear hB11 hY
  go_wp2_with fail
  refine (HIM.out Y _ HY.out).mono ?_
  rintro e w12 ⟨⟨ha, hc, rfl, hhi, _⟩, hB12⟩
  have HI12 := Lib.hid hhi
  have BX12 := Lib.hid (BX11.out.call hB12)
  have SX12 := Lib.hid (SX11.out.trans (hB12.mono SX11.out.size))
  have MK12 := Lib.hid (MK11.out.below hB12)
  clear hB12 hhi
  go_wp2_with fail
  refine (eq_floats _ _ _ _ _ _ _ HI12.out (SI.out.below SX12.out) (by omega)).mono ?_
  rintro en w13 ⟨rfl, n13, hw13⟩
  have hB13 : Below w12.heap.size w12 w13 := by rw [hw13]; exact below_drewN (Below.refl _ _) _
  have MK13 := Lib.hid (MK12.out.below hB13)
  have BX13 := Lib.hid (BX12.out.call hB13)
  clear hB13 hw13
  go_wp2_with fail
  refine (fl_held ga n gc 1 w13 MK13.out (by omega) (by omega)).mono ?_
  rintro e w14 ⟨rfl, hw14⟩
  rw [hw14]
  clear hw14
  go_wp2
  go_ret
  exact ⟨rfl, BX13.out.bel⟩
theorem FnExactStretchesOf_law (pa ta sa wa : Option Addr) (pl pc tl tc sl sc wl wc : Nat) (cs : List C3) (ts : List (List Int)) (ss : List SC) (zs : List Nat) (fi be fx fy fz : Nat) (w : World) (hp : IsVs w pa pl pc cs) (ht : IsTs w ta tl tc ts) (hs : IsSs w sa sl sc ss) (hw : IsFs .f32 w wa wl wc zs) (hf : fi < 2 ^ FloatKind.f32.format.width ∧ be < 2 ^ FloatKind.f32.format.width ∧ fx < 2 ^ FloatKind.f32.format.width ∧ fy < 2 ^ FloatKind.f32.format.width ∧ fz < 2 ^ FloatKind.f32.format.width) :
    Calls Try.prog 9 #[.agg #[.slice pa pl pc, .slice ta tl tc, .slice sa sl sc, .float .f32 fi, .float .f32 be, .slice wa wl wc, .float .f32 fx, .float .f32 fy, .float .f32 fz]] w fun e w' => e = .returned (.bool true) ∧ Below w.heap.size w w' :=
  stretchesOf_law ⟨pa, ta, sa, wa, pl, pc, tl, tc, sl, sc, wl, wc, fi, be, fx, fy, fz⟩ ⟨cs, ts, ss, zs, cls .f32 fi, cls .f32 be, (cls .f32 fx, cls .f32 fy, cls .f32 fz)⟩ w ⟨hp, ht, hs, hw, FV.self hf.1, FV.self hf.2.1, FV.self hf.2.2.1, FV.self hf.2.2.2.1, FV.self hf.2.2.2.2⟩
end Go.Proofs.Ytmbekamnogbgaab


/-
The law FnExactStretchesOf holds at every input: its frame. Conditions: none.
-/
namespace Go.Proofs.Ytmbekamnogbgaab.fnExactStretchesOfDone
open Go.ChangeShapes Go.WideShapes Go.ChangeAt Go.RowKit
open Go.ChangeMaps (open_string shut_string)
set_option linter.unusedVariables false

theorem own : ownKnob Try.prog.godebug = none := by kernel_rfl
theorem laidOut : laidOutB Try.prog = true := by kernel_rfl

set_option maxRecDepth 100000 in
theorem lifted (os : Os) (started : os.Started) (H : Type) (enc : TypeId × Value → H) :
    ReturnsInHanded {} Try.checked os 9 .any (Rows.fnExactStretchesOfSpec.pre6 enc Try.prog Try.f9 Rows.fnExactStretchesOfRow.domain false) (Rows.fnExactStretchesOfSpec.post enc Try.prog Try.f9 false true false false) := by
  refine returnsInHanded_of_change (C := Try.checked) own started (by kernel_rfl) Try.func9
    (ChangeSpec.witness6 (enc := enc) (C := Try.checked) false ⟨#[], #[.agg #[.slice none 0 0, .slice none 0 0, .slice none 0 0, .float .f32 0, .float .f32 0, .slice none 0 0, .float .f32 0, .float .f32 0, .float .f32 0]], []⟩ 8 (by kernel_rfl) (by kernel_rfl) (by kernel_rfl) (by kernel_rfl)) ?_
  intro W base args ds gs before hval0 hW hcnd _
  have hval : ∀ (j : Nat) t v, Try.f9.params[j]? = some t → args[j]? = some v → Value.okWide Try.prog W .any base t v := hval0
  have hW' := hW
  obtain ⟨p, q, hA0, hV, rfl, hfz, hnd⟩ := hW
  have hA : DataW.TrodAll enc Try.prog W 0 (fun _ => true) true Try.f9.params.toList args.toList ds p := hA0
  rw [Try.params9] at hA hval
  obtain ⟨v0, vs0, d0, ds0, p0, q0, hargs, rfl, rfl, h0, r0⟩ := trodAll_cons hA
  obtain ⟨rfl, rfl, rfl⟩ := trodAll_nil r0
  obtain rfl : args = #[v0] := by cases args; simp_all
  obtain ⟨rfl, rfl⟩ := trodVars_none hV
  have k0 := h0
  have lt0 : ∀ x ∈ p0, x.block < W.heap.size := by obtain ⟨m, hm⟩ := k0; exact DataW.trod_lt m _ _ _ hm
  obtain ⟨pa0, ta0, sa0, wa0, pl0, pc0, tl0, tc0, sl0, sc0, wl0, wc0, cs0, ts0, ss0, zs0, fi0, be0, fx0, fy0, fz0, e0, wp0, wt0, ws0, ww0, wf0⟩ := Fk.open_body Try.underlying57 (by kernel_rfl) (by kernel_rfl) (by kernel_rfl) Try.underlying25 (by kernel_rfl) Try.underlying22 Try.underlying55 (by kernel_rfl) (by kernel_rfl) Try.underlying52 Try.underlying52 Try.underlying52 Try.underlying23 Try.underlying27 Try.underlying2 (by kernel_rfl) (by kernel_rfl) Try.underlying51 Try.underlying162 (by kernel_rfl) (by kernel_rfl) Try.underlying2 Try.underlying2 Try.underlying52 Try.underlying52 Try.underlying52 Try.underlying52 Try.underlying53 Try.underlying52 (by kernel_rfl) Try.underlying55 (by kernel_rfl) Try.underlying52 Try.underlying52 Try.underlying52 (hval 0 57 v0 rfl rfl) h0
  subst e0
  clear hA0 hval0
  refine (FnExactStretchesOf_law pa0 ta0 sa0 wa0 pl0 pc0 tl0 tc0 sl0 sc0 wl0 wc0 cs0 ts0 ss0 zs0 fi0 be0 fx0 fy0 fz0 W wp0 wt0 ws0 ww0 wf0).mono fun e W' ⟨he, bel⟩ => ?_
  subst he
  exact ⟨_, rfl, _, _, _, [], _, [], hW', trodAll_mk1 (shut_bool Try.underlying4 _), (trodAll_cons_mk (Below.trod laidOut (by kernel_rfl) (of_decide_eq_true (by kernel_rfl)) k0 bel lt0) trodAll_mk0), rfl, bel.frame _, fun h => by cases h⟩
end Go.Proofs.Ytmbekamnogbgaab.fnExactStretchesOfDone

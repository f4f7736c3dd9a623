/-
Texts in one: what StiffTimes stands on, part 26. Conditions: those of each.
-/
import Derived.Test.YtabccmobmppdnaaGreatKStiffTimes25
-- halved
namespace Go.Proofs.YtabccmobmppdnaaGreat
open Go Fk Go.RowKit
set_option linter.unusedVariables false
set_option maxRecDepth 8000
end Go.Proofs.YtabccmobmppdnaaGreat
namespace Go.Proofs.YtabccmobmppdnaaGreat
open Go Fk Go.RowKit
set_option linter.unusedVariables false
set_option maxRecDepth 8000
def movC (a b : C3) (d : Option Nat) : C3 := addC a (scaleC' b d)
def mkM (xs ys : List C3) (d : Option Nat) (n k : Nat) : List C3 := (List.range n).map fun j => if j < k then movC (xs.getD j c0) (ys.getD j c0) d else z3
theorem mkM_len (xs ys : List C3) (d : Option Nat) (n k : Nat) : (mkM xs ys d n k).length = n := by simp [mkM]
theorem mkM_zero (xs ys : List C3) (d : Option Nat) (n : Nat) : mkM xs ys d n 0 = List.replicate n z3 := by
 apply List.ext_getElem (by simp [mkM])
 intro i h1 h2
 simp [mkM]
theorem mkM_set {xs ys : List C3} {d : Option Nat} {n k : Nat} (hk : k < n) : (mkM xs ys d n k).set k (movC (xs.getD k c0) (ys.getD k c0) d) = mkM xs ys d n (k + 1) := by
 apply List.ext_getElem (by simp [mkM])
 intro i h1 h2
 simp only [mkM, List.getElem_set, List.getElem_map, List.getElem_range]
 by_cases hik : k = i
 ·subst hik; simp
 ·rw [if_neg hik]
  by_cases h : i < k
  ·rw [if_pos h, if_pos (by omega)]
  ·rw [if_neg h, if_neg (by omega)]
def put3 (w : World) (g k p q r : Nat) : World := ((w.setCell ⟨g, k * 3, none⟩ (.float .f32 p)).setCell ⟨g, k * 3 + 1, none⟩ (.float .f32 q)).setCell ⟨g, k * 3 + 2, none⟩ (.float .f32 r)
set_option maxHeartbeats 4000000 in
theorem impl_addScaled (a b : Option Addr) (n cap cap' : Nat) (xs ys : List C3) (x : Nat) (d : Option Nat) (w : World) (h : IsVs w a n cap xs) (h' : IsVs w b n cap' ys) (hx : FV .f32 x d) (hn : n ≤ 1048576) :
  Calls Tryz.prog 94 #[.slice a n cap, .slice b n cap', .float .f32 x] w fun e w' => ∃ g, e = .returned (.slice (some ⟨g, 0, none⟩) n n) ∧ OwnVs w' g (mkM xs ys d n n) ∧ w.heap.size ≤ g ∧ Below w.heap.size w w' := by
 have uv := Tryz.underlying42
 have u := Tryz.underlying27
 have hm : n ≤ 9223372036854775807 := by omega
 have hmk := make_vecs w n hn
 have hO0 : OwnVs (w.alloc (.cells (madeCells #[.float .f32 0, .float .f32 0, .float .f32 0] (n * 3)) 42)) w.heap.size (mkM xs ys d n 0) := by rw [mkM_zero]; exact OwnVs.made hn
 have O0 := Lib.hid hO0
 have B0 : Hid (Below w.heap.size w (w.alloc (.cells (madeCells #[.float .f32 0, .float .f32 0, .float .f32 0] (n * 3)) 42))) := Lib.hid ((Below.refl _ _).alloc (Nat.le_refl _) _)
 have H := Lib.hid h
 have H' := Lib.hid h'
 have HX := Lib.hid hx
 clear h h' hx hO0
 go_enter Tryz.func94, Tryz.ntmps94
 go_wp2
 generalize (w.alloc (.cells (madeCells #[.float .f32 0, .float .f32 0, .float .f32 0] (n * 3)) 42)) = W0 at *
 obtain ⟨g, hg⟩ : ∃ g, g = w.heap.size := ⟨_, rfl⟩
 rw [← hg] at O0 ⊢
 have HGS := Lib.hid hg
 clear hg hmk
 go_loopw [15] (fun i w' => ∃ k : Nat, k ≤ n ∧ i = .int .i64 k ∧ Aside (OwnVs w' g (mkM xs ys d n k) ∧ Below w.heap.size w w')) (fun i _ => n - (intOf i).toNat)
 case atStart => exact ⟨0, Nat.zero_le _, rfl, O0.out, B0.out⟩
 case round =>
  obtain ⟨k, hk, rfl, hA⟩ := hrel
  have OK := Lib.hid hA.out.1
  have BK := Lib.hid hA.out.2
  clear hA
  by_cases hlt : k < n
  ·obtain ⟨b1, o1, rfl, hcell1⟩ := (H.out.below BK.out).some (by omega)
   obtain ⟨b2, o2, rfl, hcell2⟩ := (H'.out.below BK.out).some (by omega)
   obtain ⟨p, q, t, c0', c1', c2', e0, e1, e2⟩ := hcell1 k hlt
   obtain ⟨p', q', t', d0', d1', d2', g0, g1, g2⟩ := hcell2 k hlt
   have hk0 : (0 : Int) ≤ (k : Int) := by omega
   have hk1 : (k : Int) < (n : Int) := by omega
   have HSN := Lib.hid (mkM_set (xs := xs) (ys := ys) (d := d) hlt)
   have FA := Lib.hid (And.intro e0 (And.intro e1 e2))
   have FB := Lib.hid (And.intro g0 (And.intro g1 g2))
   clear hcell1 hcell2 e0 e1 e2 g0 g1 g2
   go_wp2_with fail
   have hG : Below wr.heap.size wr (wr.alloc (.cells #[.float .f32 p, .float .f32 q, .float .f32 t] 42)) := (Below.refl _ _).alloc (Nat.le_refl _) _
   have V : Hid (V3 (wr.alloc (.cells #[.float .f32 p, .float .f32 q, .float .f32 t] 42)) wr.heap.size p q t) := Lib.hid V3.new
   have D0 := Lib.hid (And.intro (cell_below hG d0') (And.intro (cell_below hG d1') (cell_below hG d2')))
   have O1 := Lib.hid (OK.out.below hG)
   have B1 := Lib.hid (BK.out.trans (hG.mono BK.out.size))
   clear hG c0' c1' c2' d0' d1' d2'
   generalize (wr.alloc (.cells #[.float .f32 p, .float .f32 q, .float .f32 t] 42)) = W1 at *
   generalize wr.heap.size = BX at *
   refine Reg6.wp_region_mix (s := 11) (C := fun w' => Below W1.heap.size W1 w') (D := fun _ w' => ∃ wp y z v, Below W1.heap.size W1 wp ∧ F3 y z v (movC (xs.getD k c0) (ys.getD k c0) d) ∧ w' = put3 wp g k y z v) (G := fun w1 w2 => Below w1.heap.size w1 w2)
    (Rv := fun i v => match i with | 0 => v = .slice (some ⟨g, 0, none⟩) n n | 1 => v = .int .i64 k | 2 => v = vv p q t | 3 => v = .slice (some ⟨b2, o2, none⟩) n cap' | 4 => v = .int .i64 k | 5 => v = .pointer (some ⟨b2, o2 + k * 3, none⟩) | 6 => v = vv p' q' t' | 7 => v = .float .f32 x | 8 => ∃ y z u, v = vv y z u ∧ F3 y z u (scaleC' (ys.getD k c0) d) | 9 => ∃ y z u, v = vv y z u ∧ F3 y z u (movC (xs.getD k c0) (ys.getD k c0) d) | 10 => v = .pointer (some ⟨g, k * 3, none⟩) | _ => True)
    (Rw := fun _ _ _ => True) [false, false, false, false, false, false, false, false, false, false, false, false, false, false, false, false, false, false, false, false, true, true, true, true, true, true, true, true, true, true, true, false, false]
    (by kernel_rfl) (by kernel_rfl) (by kernel_rfl) (fun _ _ _ _ _ _ _ => trivial) (below_drewN (Below.refl _ _) 1) ?_ ?_
   ·refine ⟨?_, ?_, ?_, ?_, ?_, ?_, ?_, ?_, ?_, ?_, ?_, ?_, trivial⟩
    ·refine Reg6.Obl.early rfl (by kernel_rfl) ?_
     rintro a wq hC hx hd K hK
     have t7 : a.tmps[7]?.getD undef = .slice (some ⟨g, 0, none⟩) n n := Reg.slot_val (hx 7 (by kernel_rfl))
     go_simp
     exact hK _ _ rfl trivial hC (Below.refl _ _)
    ·refine Reg6.Obl.early rfl (by kernel_rfl) ?_
     rintro a wq hC hx hd K hK
     have t8 : a.tmps[8]?.getD undef = .int .i64 k := Reg.slot_val (hx 8 (by kernel_rfl))
     go_simp
     exact hK _ _ rfl trivial hC (Below.refl _ _)
    ·refine Reg6.Obl.early rfl (by kernel_rfl) ?_
     rintro a wq HC hx hd K hK
     replace HC := Lib.hid HC
     have t9 : a.tmps[9]?.getD undef = .pointer (some ⟨BX, 0, none⟩) := Reg.slot_val (hx 9 (by kernel_rfl))
     obtain ⟨⟨y0, y1, y2⟩, -⟩ := V.out.below HC.out
     go_simp
     exact hK _ _ rfl trivial HC.out (Below.refl _ _)
    ·refine Reg6.Obl.early rfl (by kernel_rfl) ?_
     rintro a wq hC hx hd K hK
     have t1 : a.tmps[1]?.getD undef = .slice (some ⟨b2, o2, none⟩) n cap' := Reg.slot_val (hx 1 (by kernel_rfl))
     go_simp
     exact hK _ _ rfl trivial hC (Below.refl _ _)
    ·refine Reg6.Obl.early rfl (by kernel_rfl) ?_
     rintro a wq hC hx hd K hK
     have t8 : a.tmps[8]?.getD undef = .int .i64 k := Reg.slot_val (hx 8 (by kernel_rfl))
     go_simp
     exact hK _ _ rfl trivial hC (Below.refl _ _)
    ·refine Reg6.Obl.early rfl (by kernel_rfl) ?_
     rintro a wq HC hx hd K hK
     replace HC := Lib.hid HC
     have t23 : a.tmps[23]?.getD undef = .slice (some ⟨b2, o2, none⟩) n cap' := Reg.slot_val (hd 3 23 (by kernel_rfl) rfl).1
     have t24 : a.tmps[24]?.getD undef = .int .i64 k := Reg.slot_val (hd 4 24 (by kernel_rfl) rfl).1
     go_simp
     exact hK _ _ rfl trivial HC.out (Below.refl _ _)
    ·refine Reg6.Obl.early rfl (by kernel_rfl) ?_
     rintro a wq HC hx hd K hK
     replace HC := Lib.hid HC
     have t25 : a.tmps[25]?.getD undef = .pointer (some ⟨b2, o2 + k * 3, none⟩) := Reg.slot_val (hd 5 25 (by kernel_rfl) rfl).1
     have y0 := cell_below HC.out D0.out.1
     have y1 := cell_below HC.out D0.out.2.1
     have y2 := cell_below HC.out D0.out.2.2
     go_simp
     exact hK _ _ rfl trivial HC.out (Below.refl _ _)
    ·refine Reg6.Obl.early rfl (by kernel_rfl) ?_
     rintro a wq hC hx hd K hK
     have t2 : a.tmps[2]?.getD undef = .float .f32 x := Reg.slot_val (hx 2 (by kernel_rfl))
     go_simp
     exact hK _ _ rfl trivial hC (Below.refl _ _)
    ·refine Reg6.Obl.early rfl (by kernel_rfl) ?_
     rintro a wq HC hx hd K hK
     replace HC := Lib.hid HC
     have t26 : a.tmps[26]?.getD undef = vv p' q' t' := Reg.slot_val (hd 6 26 (by kernel_rfl) rfl).1
     have t27 : a.tmps[27]?.getD undef = .float .f32 x := Reg.slot_val (hd 7 27 (by kernel_rfl) rfl).1
     go_simp
     refine (impl_ScaleVector _ _ _ _ _ _ _ _ _ FB.out.1 FB.out.2.1 FB.out.2.2 HX.out).mono ?_
     rintro en w2 ⟨y, z, u, rfl, f0, f1, f2, hB2⟩
     exact hK _ _ ⟨y, z, u, rfl, f0, f1, f2⟩ trivial (HC.out.trans (hB2.mono HC.out.size)) hB2
    ·refine Reg6.Obl.early rfl (by kernel_rfl) ?_
     rintro a wq HC hx hd K hK
     replace HC := Lib.hid HC
     have t22 : a.tmps[22]?.getD undef = vv p q t := Reg.slot_val (hd 2 22 (by kernel_rfl) rfl).1
     obtain ⟨y, z, u, g28, f28⟩ := (hd 8 28 (by kernel_rfl) rfl).1
     have t28 := Reg.slot_val g28
     have F28 := Lib.hid f28
     clear g28 f28
     go_simp
     refine (impl_AddVectors _ _ _ _ _ _ _ _ _ _ _ _ _ FA.out.1 FA.out.2.1 FA.out.2.2 F28.out.1 F28.out.2.1 F28.out.2.2).mono ?_
     rintro en w2 ⟨y', z', u', rfl, f0, f1, f2, hB2⟩
     exact hK _ _ ⟨y', z', u', rfl, f0, f1, f2⟩ trivial (HC.out.trans (hB2.mono HC.out.size)) hB2
    ·refine Reg6.Obl.early rfl (by kernel_rfl) ?_
     rintro a wq HC hx hd K hK
     replace HC := Lib.hid HC
     have t20 : a.tmps[20]?.getD undef = .slice (some ⟨g, 0, none⟩) n n := Reg.slot_val (hd 0 20 (by kernel_rfl) rfl).1
     have t21 : a.tmps[21]?.getD undef = .int .i64 k := Reg.slot_val (hd 1 21 (by kernel_rfl) rfl).1
     go_simp
     exact hK _ _ (by first | rfl | simp) trivial HC.out (Below.refl _ _)
    ·refine Reg6.Obl.store rfl ?_
     rintro a wq HC hx hd K hK
     replace HC := Lib.hid HC
     have t30 : a.tmps[30]?.getD undef = .pointer (some ⟨g, k * 3, none⟩) := Reg.slot_val (hd 10 30 (by kernel_rfl) rfl).1
     obtain ⟨y, z, v, g29, f29⟩ := (hd 9 29 (by kernel_rfl) rfl).1
     have t29 := Reg.slot_val g29
     have HP : Hid (∃ wp y' z' v', Below W1.heap.size W1 wp ∧ F3 y' z' v' (movC (xs.getD k c0) (ys.getD k c0) d) ∧ put3 wq g k y z v = put3 wp g k y' z' v') := Lib.hid ⟨wq, y, z, v, HC.out, f29, rfl⟩
     obtain ⟨p0, q0, r0, ⟨y0, y1, y2⟩, -⟩ := (O1.out.below HC.out).at (k := k) (by rw [mkM_len]; exact hlt)
     have f0 := (O1.out.below HC.out).2.1 (k * 3)
     have f1 := (O1.out.below HC.out).2.1 (k * 3 + 1)
     have f2 := (O1.out.below HC.out).2.1 (k * 3 + 2)
     clear g29 f29
     go_simp
     exact hK _ HP.out
   ·rintro f w2 hD hd
    obtain ⟨wp, y, z, v, hB, hF, rfl⟩ := hD
    simp only [Reg.mixL]
    have O2 := Lib.hid ((O1.out.below hB).put (k := k) (by rw [mkM_len]; exact hlt) hF)
    have B2 := Lib.hid (B1.out.trans (hB.mono B1.out.size))
    have B3 := Lib.hid (below_set3 (o1 := k * 3) (o2 := k * 3 + 1) (o3 := k * 3 + 2) (u := .float .f32 y) (v := .float .f32 z) (t := .float .f32 v) B2.out (show w.heap.size ≤ g by rw [HGS.out]; exact Nat.le_refl _))
    clear hB hF hd
    unfold put3
    go_wp2
    go_roundw
    case rel => exact ⟨k + 1, by omega, by go_num, by rw [← HSN.out]; exact O2.out, B3.out⟩
    case measure => simp [intOf]; omega
  ·obtain rfl : k = n := by omega
   go_wp2
   go_ret
   exact ⟨g, rfl, OK.out, by rw [HGS.out]; exact Nat.le_refl _, BK.out⟩
end Go.Proofs.YtabccmobmppdnaaGreat
namespace Go.Proofs.YtabccmobmppdnaaGreat
open Go Fk Go.RowKit
set_option linter.unusedVariables false
set_option maxRecDepth 8000
end Go.Proofs.YtabccmobmppdnaaGreat
namespace Go.Proofs.YtabccmobmppdnaaGreat
open Go Fk Go.RowKit
set_option linter.unusedVariables false
set_option maxRecDepth 8000
end Go.Proofs.YtabccmobmppdnaaGreat
namespace Go.Proofs.YtabccmobmppdnaaGreat
open Go Fk Go.RowKit
set_option linter.unusedVariables false
set_option maxRecDepth 8000
end Go.Proofs.YtabccmobmppdnaaGreat

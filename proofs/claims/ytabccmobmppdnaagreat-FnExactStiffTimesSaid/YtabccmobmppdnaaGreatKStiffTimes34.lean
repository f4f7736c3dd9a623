/-
Texts in one: what StiffTimes stands on, part 34. Conditions: those of each.
-/
import Derived.Test.YtabccmobmppdnaaGreatKStiffTimes33
-- halved
namespace Go.Proofs.YtabccmobmppdnaaGreat
open Go Fk Go.RowKit
set_option linter.unusedVariables false
set_option maxRecDepth 16000
theorem rise_nil {L : List Int} (h : riseB 0 L = true) : L = [] := by
 cases L with
 | nil => rfl
 | cons z L =>
  have := rise_in (k := 0) h (by simp)
  have hz := of_decide_eq_true this
  omega
set_option maxHeartbeats 4000000 in
theorem impl_still0 (B : Bd) (ha la : Option Addr) (hc ln lc : Nat) (v : Value) (W : World) :
  Calls Tryz.prog 130 #[HbV B ha la 0 hc ln lc, v] W fun e w' => e = .returned (.tuple #[]) ∧ Below W.heap.size W w' := by
 have uh := Tryz.underlying107
 have hB := (Below.refl W.heap.size W).alloc (Nat.le_refl _) (.cells (HbL B ha la 0 hc ln lc).toArray 107)
 have HB := Lib.hid hB
 clear hB
 go_enter Tryz.func130, Tryz.ntmps130
 go_wp2
 generalize hW : (W.alloc (.cells #[.slice B.pa B.pl B.pc, .slice B.ta B.tl B.tc, .slice B.sa B.sl B.sc, .float .f32 B.film, .float .f32 B.bend, .slice B.wa B.wl B.wc, .float .f32 B.x, .float .f32 B.y, .float .f32 B.z, .slice ha 0 hc, .slice la ln lc] 107)) = W1
 have HB1 := Lib.hid HB.out
 rw [show (W.alloc (.cells (HbL B ha la 0 hc ln lc).toArray 107)) = W1 from hW] at HB1
 clear HB hW
 go_loopw [9] (fun i w' => i = .int .i64 0 ∧ w' = W1) (fun i _ => 0)
 case atStart => exact ⟨rfl, rfl⟩
 case round =>
  obtain ⟨rfl, hw⟩ := hrel
  have HB2 : Hid (Below W.heap.size W wr) := Lib.hid (by rw [hw]; exact HB1.out)
  clear hw HB1
  go_wp2
  exact ⟨rfl, .tuple #[], by first | exact results_none rfl _ _ _ | rfl | kernel_rfl, rfl, HB2.out⟩
set_option maxHeartbeats 4000000 in
theorem impl_free (B : Bd) (ha la : Option Addr) (hl hc ln lc : Nat) (L : List Int) (a : Option Addr) (n cap : Nat) (ys : List C3) (w : World) (hv : IsVs w a n cap ys) (hL : IsIs w ha hl hc L) (hr : riseB n L = true) (hn : n ≤ 1048576) :
  Calls Tryz.prog 84 #[HbV B ha la hl hc ln lc, .slice a n cap] w fun e w' => ∃ v, e = .returned v ∧ RV w.heap.size w' v (stillF ys L) ∧ Below w.heap.size w w' := by
 have uh := Tryz.underlying107
 have BX := Lib.hid ((Bx.nil w).box (vs := HbL B ha la hl hc ln lc) (t := 107))
 have J := Lib.hid (fun w1 h => clone_vecs a n cap ys w1 h hn)
 have HV := Lib.hid hv
 have HL := Lib.hid hL
 have HR := Lib.hid hr
 have hln := hv.1
 have hll := hL.1
 clear hv hL hr
 go_enter Tryz.func84, Tryz.ntmps84
 go_wp2_with fail
 generalize hW : (w.alloc (.cells #[.slice B.pa B.pl B.pc, .slice B.ta B.tl B.tc, .slice B.sa B.sl B.sc, .float .f32 B.film, .float .f32 B.bend, .slice B.wa B.wl B.wc, .float .f32 B.x, .float .f32 B.y, .float .f32 B.z, .slice ha hl hc, .slice la ln lc] 107)) = W
 have BX1 := Lib.hid BX.out
 rw [show (w.alloc (.cells (HbL B ha la hl hc ln lc).toArray 107)) = W from hW] at BX1
 clear BX hW
 refine (J.out W (HV.out.below BX1.out.bel)).mono ?_
 rintro e w1 ⟨⟨v, xs, rfl, hO, hP⟩, hB1⟩
 have BX2 := Lib.hid (BX1.out.call hB1)
 have HLn := Lib.hid (And.intro hln hll)
 rcases own_block hO hP hln with ⟨rfl, hz⟩ | ⟨g, gc, rfl, hg, hnc, hcm, hOV⟩
 ·have hL0 : L = [] := by have := HR.out; rw [hz] at this; exact rise_nil this
  have hy0 : ys = [] := List.eq_nil_of_length_eq_zero (by omega)
  have hl0 : hl = 0 := by rw [hL0] at hll; exact hll.symm
  subst hL0 hy0 hl0 hz
  have BX3 := Lib.hid BX2.out
  clear hO hP hB1 HV HL HR HLn hln hll BX2 J BX1
  have b0 := (BX3.out.mem (.head _)) 0 _ rfl
  have b1 := (BX3.out.mem (.head _)) 1 _ rfl
  have b2 := (BX3.out.mem (.head _)) 2 _ rfl
  have b3 := (BX3.out.mem (.head _)) 3 _ rfl
  have b4 := (BX3.out.mem (.head _)) 4 _ rfl
  have b5 := (BX3.out.mem (.head _)) 5 _ rfl
  have b6 := (BX3.out.mem (.head _)) 6 _ rfl
  have b7 := (BX3.out.mem (.head _)) 7 _ rfl
  have b8 := (BX3.out.mem (.head _)) 8 _ rfl
  have b9 := (BX3.out.mem (.head _)) 9 _ rfl
  have b10 := (BX3.out.mem (.head _)) 10 _ rfl
  go_wp2_with fail
  clear b0 b1 b2 b3 b4 b5 b6 b7 b8 b9 b10
  refine (impl_still0 B ha la hc ln lc (.slice none 0 0) w1).mono ?_
  rintro e w2 ⟨rfl, hB2⟩
  have BX4 := Lib.hid (BX3.out.call hB2)
  clear hB2
  go_wp2
  go_ret
  exact ⟨_, rfl, RV.nil _ _, BX4.out.bel⟩
 ·have S0 : Hid (St w [] g ys w1) := Lib.hid (St.of (Bx.nil w) BX2.out.bel (Nat.le_trans BX1.out.bel.size hg) hOV)
  have HG := Lib.hid (Nat.le_trans BX1.out.bel.size hg)
  have HC := Lib.hid (And.intro hnc hcm)
  clear hO hP hB1 hOV J BX1 hg
  have b0 := (BX2.out.mem (.head _)) 0 _ rfl
  have b1 := (BX2.out.mem (.head _)) 1 _ rfl
  have b2 := (BX2.out.mem (.head _)) 2 _ rfl
  have b3 := (BX2.out.mem (.head _)) 3 _ rfl
  have b4 := (BX2.out.mem (.head _)) 4 _ rfl
  have b5 := (BX2.out.mem (.head _)) 5 _ rfl
  have b6 := (BX2.out.mem (.head _)) 6 _ rfl
  have b7 := (BX2.out.mem (.head _)) 7 _ rfl
  have b8 := (BX2.out.mem (.head _)) 8 _ rfl
  have b9 := (BX2.out.mem (.head _)) 9 _ rfl
  have b10 := (BX2.out.mem (.head _)) 10 _ rfl
  go_wp2_with fail
  clear b0 b1 b2 b3 b4 b5 b6 b7 b8 b9 b10
  refine (impl_still B ha la hl hc ln lc L w w1 g n gc ys S0.out HLn.out.1 HL.out (fun k hk => rise_in HR.out hk) hn).mono ?_
  rintro e w2 ⟨rfl, hS⟩
  have hl2 : (stillF ys L).length = n := by rw [stillF_len]; exact HLn.out.1
  have hRV := RV.block (base := w.heap.size) (cap := gc) HG.out (by rw [hl2]; exact HC.out.1) HC.out.2 hS.own
  rw [hl2] at hRV
  have HRV := Lib.hid hRV
  have HB := Lib.hid hS.bel
  clear hS hRV hl2
  go_wp2
  go_ret
  exact ⟨_, rfl, HRV.out, HB.out⟩
end Go.Proofs.YtabccmobmppdnaaGreat
namespace Go.Proofs.YtabccmobmppdnaaGreat
namespace Fk
open Go
set_option linter.unusedVariables false
end Fk
end Go.Proofs.YtabccmobmppdnaaGreat
namespace Go.Proofs.YtabccmobmppdnaaGreat
open Go Fk Go.RowKit
set_option linter.unusedVariables false
set_option maxRecDepth 16000
def difC (c d : C3) : C3 := (fop .sub .f32 c.1 d.1, fop .sub .f32 c.2.1 d.2.1, fop .sub .f32 c.2.2 d.2.2)
end Go.Proofs.YtabccmobmppdnaaGreat
namespace Go.Proofs.YtabccmobmppdnaaGreat
open Go Fk Go.RowKit
set_option linter.unusedVariables false
set_option maxRecDepth 16000
def mkG (f : Nat → C3) (n k : Nat) : List C3 := (List.range n).map fun j => if j < k then f j else z3
theorem mkG_len (f : Nat → C3) (n k : Nat) : (mkG f n k).length = n := by simp [mkG]
theorem mkG_zero (f : Nat → C3) (n : Nat) : mkG f n 0 = List.replicate n z3 := by
 apply List.ext_getElem (by simp [mkG])
 intro i h1 h2
 simp [mkG]
theorem mkG_set {f : Nat → C3} {n k : Nat} (hk : k < n) : (mkG f n k).set k (f k) = mkG f n (k + 1) := by
 apply List.ext_getElem (by simp [mkG])
 intro i h1 h2
 simp only [mkG, List.getElem_set, List.getElem_map, List.getElem_range]
 by_cases hik : k = i
 ·subst hik; simp
 ·rw [if_neg hik]
  by_cases h : i < k
  ·rw [if_pos h, if_pos (by omega)]
  ·rw [if_neg h, if_neg (by omega)]
def two32 : Option Nat := cls .f32 1073741824
theorem two_FV : FV .f32 1073741824 two32 := ⟨by decide, rfl⟩
def one32 : Option Nat := cls .f32 1065353216
theorem one_FV32 : FV .f32 1065353216 one32 := ⟨by decide, rfl⟩
def frcT (c : Bc) (ys : List C3) (d : Option Nat) : List C3 := addsF (mkM c.cs ys d c.cs.length c.cs.length) (List.replicate c.cs.length (some 0, some 0, some 0)) (ens c)
def shrC (d : Option Nat) : Option Nat := fop .quo .f32 one32 (fop .mul .f32 two32 d)
def timF (c : Bc) (ys : List C3) (d : Option Nat) (j : Nat) : C3 := scaleC' (difC ((frcT c ys (negC32 d)).getD j c0) ((frcT c ys d).getD j c0)) (shrC d)
def timT (c : Bc) (L : List Int) (ys : List C3) (d : Option Nat) : List C3 := stillF (mkG (timF c (stillF ys L) d) c.cs.length c.cs.length) L
theorem timT_len (c : Bc) (L : List Int) (ys : List C3) (d : Option Nat) : (timT c L ys d).length = c.cs.length := by
 unfold timT; rw [stillF_len, mkG_len]
theorem frcT_len (c : Bc) (ys : List C3) (d : Option Nat) : (frcT c ys d).length = c.cs.length := by
 unfold frcT; rw [addsF_len, List.length_replicate]
set_option maxHeartbeats 8000000 in
theorem impl_times (B : Bd) (c : Bc) (ha la : Option Addr) (hl hc lc : Nat) (L : List Int) (a : Option Addr) (cap : Nat) (ys : List C3) (x s : Nat) (d : Option Nat) (fa : Option Addr) (fl fc : Nat) (w : World) (hP : IsVs w B.pa B.pl B.pc c.cs) (hE : EnS w la (ens c)) (hb : bodyB c = true) (hpl : c.cs.length = B.pl) (hL : IsIs w ha hl hc L) (hr : riseB B.pl L = true) (hv : IsVs w a B.pl cap ys) (hx : FV .f32 x d) :
  Calls Tryz.prog 72 #[StV B ha la hl hc (ens c).length lc x s fa fl fc, .slice a B.pl cap] w fun e w' => ∃ g, e = .returned (.slice (some ⟨g, 0, none⟩) B.pl B.pl) ∧ St w [] g (timT c L ys d) w' := by
 have us := Tryz.underlying109
 have uh := Tryz.underlying107
 have ub := Tryz.underlying44
 have um := Tryz.underlying40
 have uv := Tryz.underlying42
 have u := Tryz.underlying27
 obtain ⟨hel, hok⟩ := ens_ok hb
 rw [hpl] at hok
 have HPL : Hid (B.pl ≤ 64) := Lib.hid (by have := (valid_pl (body_valid hb).1).1; omega)
 have HLT : Hid ((stillF ys L).length = B.pl) := Lib.hid (by rw [stillF_len]; exact hv.1)
 have hm : B.pl ≤ 9223372036854775807 := by have := HPL.out; omega
 have BX := Lib.hid ((Bx.nil w).box (vs := StL B ha la hl hc (ens c).length lc x s fa fl fc) (t := 109))
 have HES : Hid (∀ w1, Below w.heap.size w w1 → EnS w1 la (ens c)) := Lib.hid (fun w1 h => hE.below h)
 have JF := Lib.hid (fun w1 h1 h2 => impl_free B ha la hl hc (ens c).length lc L a B.pl cap ys w1 h1 h2 hr (by have := HPL.out; omega))
 have JS := Lib.hid (fun pa pc cs w1 h1 h2 => impl_sumForces pa la B.pl pc lc cs (ens c) w1 h1 h2 hel (by have := HPL.out; omega) hok)
 have JL := Lib.hid (fun W w1 g X h1 h2 h3 => impl_still B ha la hl hc (ens c).length lc L W w1 g B.pl B.pl X h1 h2 h3 (fun k hk => rise_in hr hk) (by have := HPL.out; omega))
 have HP := Lib.hid hP
 have HL := Lib.hid hL
 have HV := Lib.hid hv
 have HX := Lib.hid hx
 have HNX := Lib.hid (FV_neg32 hx)
 have HT : Hid (∀ g W, St w [] g (stillF (mkG (timF c (stillF ys L) d) B.pl B.pl) L) W → St w [] g (timT c L ys d) W) := Lib.hid (fun g W h => by unfold timT; rw [hpl]; exact h)
 have HB1 : Hid (frcT c (stillF ys L) (negC32 d) = addsF (mkM c.cs (stillF ys L) (negC32 d) B.pl B.pl) (List.replicate B.pl (some 0, some 0, some 0)) (ens c)) := Lib.hid (by unfold frcT; rw [hpl])
 have HB2 : Hid (frcT c (stillF ys L) d = addsF (mkM c.cs (stillF ys L) d B.pl B.pl) (List.replicate B.pl (some 0, some 0, some 0)) (ens c)) := Lib.hid (by unfold frcT; rw [hpl])
 have HL1 : Hid ((frcT c (stillF ys L) (negC32 d)).length = B.pl) := Lib.hid (by rw [frcT_len, hpl])
 have HL2 : Hid ((frcT c (stillF ys L) d).length = B.pl) := Lib.hid (by rw [frcT_len, hpl])
 clear hP hE hb hpl hL hr hv hx hel hok
 have HTF : Hid (∀ j, timF c (stillF ys L) d j = scaleC' (difC ((frcT c (stillF ys L) (negC32 d)).getD j c0) ((frcT c (stillF ys L) d).getD j c0)) (shrC d)) := Lib.hid (fun j => rfl)
 generalize timF c (stillF ys L) d = TF at *
 generalize frcT c (stillF ys L) (negC32 d) = X1 at *
 generalize frcT c (stillF ys L) d = X2 at *
 generalize hYF : stillF ys L = YF at *
 generalize hes : ens c = es at *
 generalize hn : es.length = n at *
 clear hYF hes hn
 go_enter Tryz.func72, Tryz.ntmps72
 go_wp2_with fail
 have BX1 := Lib.hid BX.out
 change Calls _ _ _ (w.alloc (.cells (StL B ha la hl hc n lc x s fa fl fc).toArray 109)) _
 generalize (w.alloc (.cells (StL B ha la hl hc n lc x s fa fl fc).toArray 109)) = W at *
 clear BX
 generalize hS : w.heap.size = S at *
 have HS := Lib.hid hS
 clear hS
 refine (JF.out W (HV.out.below (HS.out ▸ BX1.out.bel)) (HL.out.below (HS.out ▸ BX1.out.bel))).mono ?_
 rintro e w1 ⟨v, rfl, ⟨fa', fc', rfl, hvs, _⟩, hB1⟩
 rw [HLT.out] at hvs ⊢
 have BX2 := Lib.hid (BX1.out.call hB1)
 have HVS := Lib.hid hvs
 clear hvs hB1 BX1
 go_wp2_with fail
 refine Reg.wp_region_mix (C := fun w' => Below w1.heap.size w1 w') (G := fun w1 w2 => Below w1.heap.size w1 w2) (R := fun i v w' => match i with
  | 0 => v = .pointer (some ⟨S, 0, none⟩)
  | 1 => v = .pointer (some ⟨S, 10, none⟩)
  | 2 => v = .slice la n lc
  | 3 => v = .pointer (some ⟨S, 0, none⟩)
  | 4 => v = .pointer (some ⟨S, 0, none⟩)
  | 5 => v = .pointer (some ⟨S, 0, none⟩)
  | 6 => v = .pointer (some ⟨S, 0, none⟩)
  | 7 => v = .slice B.pa B.pl B.pc
  | 8 => v = .slice fa' B.pl fc'
  | 9 => v = .pointer (some ⟨S, 11, none⟩)
  | 10 => v = .float .f32 x
  | 11 => v = .float .f32 (Op.negFloat .f32 x)
  | 12 => ∃ g, v = .slice (some ⟨g, 0, none⟩) B.pl B.pl ∧ OwnVs w' g (mkM c.cs YF (negC32 d) B.pl B.pl)
  | 13 => ∃ g, v = .slice (some ⟨g, 0, none⟩) B.pl B.pl ∧ OwnVs w' g (X1)
  | 14 => ∃ g, v = .slice (some ⟨g, 0, none⟩) B.pl B.pl ∧ OwnVs w' g (X1)
  | _ => True) (T := fun _ _ _ => True) [false, false, false, false, false, true, false, false, false, false, false, false, false, false, true, true, true, true, true, true, true, true, true, true, true, true, true, true, false, false, false, false, false, false, false, false, false, false, false, false, false, false, false, false, false, false, false, false, false, false, false, false, false, false, false, false, false, false, false, false, false, false, false, false, false, false, false, false, false, false, false, false, false]
  (by kernel_rfl) (by kernel_rfl) (by kernel_rfl) ?_ (below_drewN (Below.refl _ _) 1) ?_ ?_
 ·intro j v wa wb _ hG hR
  match j with
  | 0 => exact hR
  | 1 => exact hR
  | 2 => exact hR
  | 3 => exact hR
  | 4 => exact hR
  | 5 => exact hR
  | 6 => exact hR
  | 7 => exact hR
  | 8 => exact hR
  | 9 => exact hR
  | 10 => exact hR
  | 11 => exact hR
  | 12 => obtain ⟨g, e, h⟩ := hR; exact ⟨g, e, h.below hG⟩
  | 13 => obtain ⟨g, e, h⟩ := hR; exact ⟨g, e, h.below hG⟩
  | 14 => obtain ⟨g, e, h⟩ := hR; exact ⟨g, e, h.below hG⟩
  | _ + 15 => trivial
 ·refine ⟨Reg.Obl.mk ?_, Reg.Obl.mk ?_, Reg.Obl.mk ?_, Reg.Obl.mk ?_, Reg.Obl.mk ?_, Reg.Obl.mk ?_, Reg.Obl.mk ?_, Reg.Obl.mk ?_, Reg.Obl.mk ?_, Reg.Obl.mk ?_, Reg.Obl.mk ?_, Reg.Obl.mk ?_, Reg.Obl.mk ?_, Reg.Obl.mk ?_, Reg.Obl.mk ?_, trivial⟩
  ·rintro av wq HC hx hd K hK
   replace HC := Lib.hid HC
   have t2 : av.tmps[2]?.getD undef = .pointer (some ⟨S, 0, none⟩) := Reg.slot_val (hx 2 (by kernel_rfl))
   go_simp
   exact hK _ _ (fun _ => rfl) (fun h => by cases h) HC.out (Below.refl _ _)
  ·rintro av wq HC hx hd K hK
   replace HC := Lib.hid HC
   have t14 : av.tmps[14]?.getD undef = .pointer (some ⟨S, 0, none⟩) := Reg.slot_val (hd 0 (by kernel_rfl) 14 rfl)
   go_simp
   exact hK _ _ (fun _ => rfl) (fun h => by cases h) HC.out (Below.refl _ _)
  ·rintro av wq HC hx hd K hK
   replace HC := Lib.hid HC
   have t15 : av.tmps[15]?.getD undef = .pointer (some ⟨S, 10, none⟩) := Reg.slot_val (hd 1 (by kernel_rfl) 15 rfl)
   have y := ((BX2.out.call HC.out).mem (.head _)) 10 _ rfl
   go_simp
   exact hK _ _ (fun _ => rfl) (fun h => by cases h) HC.out (Below.refl _ _)
  ·rintro av wq HC hx hd K hK
   replace HC := Lib.hid HC
   have t2 : av.tmps[2]?.getD undef = .pointer (some ⟨S, 0, none⟩) := Reg.slot_val (hx 2 (by kernel_rfl))
   go_simp
   exact hK _ _ (fun _ => rfl) (fun h => by cases h) HC.out (Below.refl _ _)
  ·rintro av wq HC hx hd K hK
   replace HC := Lib.hid HC
   have t17 : av.tmps[17]?.getD undef = .pointer (some ⟨S, 0, none⟩) := Reg.slot_val (hd 3 (by kernel_rfl) 17 rfl)
   go_simp
   exact hK _ _ (fun _ => rfl) (fun h => by cases h) HC.out (Below.refl _ _)
  ·rintro av wq HC hx hd K hK
   replace HC := Lib.hid HC
   have t18 : av.tmps[18]?.getD undef = .pointer (some ⟨S, 0, none⟩) := Reg.slot_val (hd 4 (by kernel_rfl) 18 rfl)
   go_simp
   exact hK _ _ (fun _ => rfl) (fun h => by cases h) HC.out (Below.refl _ _)
  ·rintro av wq HC hx hd K hK
   replace HC := Lib.hid HC
   have t19 : av.tmps[19]?.getD undef = .pointer (some ⟨S, 0, none⟩) := Reg.slot_val (hd 5 (by kernel_rfl) 19 rfl)
   go_simp
   exact hK _ _ (fun _ => rfl) (fun h => by cases h) HC.out (Below.refl _ _)
  ·rintro av wq HC hx hd K hK
   replace HC := Lib.hid HC
   have t20 : av.tmps[20]?.getD undef = .pointer (some ⟨S, 0, none⟩) := Reg.slot_val (hd 6 (by kernel_rfl) 20 rfl)
   have y := ((BX2.out.call HC.out).mem (.head _)) 0 _ rfl
   go_simp
   exact hK _ _ (fun _ => rfl) (fun h => by cases h) HC.out (Below.refl _ _)
  ·rintro av wq HC hx hd K hK
   replace HC := Lib.hid HC
   have t1 : av.tmps[1]?.getD undef = .slice fa' B.pl fc' := Reg.slot_val (hx 1 (by kernel_rfl))
   go_simp
   exact hK _ _ (fun _ => rfl) (fun h => by cases h) HC.out (Below.refl _ _)
  ·rintro av wq HC hx hd K hK
   replace HC := Lib.hid HC
   have t2 : av.tmps[2]?.getD undef = .pointer (some ⟨S, 0, none⟩) := Reg.slot_val (hx 2 (by kernel_rfl))
   go_simp
   exact hK _ _ (fun _ => rfl) (fun h => by cases h) HC.out (Below.refl _ _)
  ·rintro av wq HC hx hd K hK
   replace HC := Lib.hid HC
   have t23 : av.tmps[23]?.getD undef = .pointer (some ⟨S, 11, none⟩) := Reg.slot_val (hd 9 (by kernel_rfl) 23 rfl)
   have y := ((BX2.out.call HC.out).mem (.head _)) 11 _ rfl
   go_simp
   exact hK _ _ (fun _ => rfl) (fun h => by cases h) HC.out (Below.refl _ _)
  ·rintro av wq HC hx hd K hK
   replace HC := Lib.hid HC
   have t24 : av.tmps[24]?.getD undef = .float .f32 x := Reg.slot_val (hd 10 (by kernel_rfl) 24 rfl)
   go_simp
   exact hK _ _ (fun _ => rfl) (fun h => by cases h) HC.out (Below.refl _ _)
  ·rintro av wq HC hx hd K hK
   replace HC := Lib.hid HC
   have t21 : av.tmps[21]?.getD undef = .slice B.pa B.pl B.pc := Reg.slot_val (hd 7 (by kernel_rfl) 21 rfl)
   have t22 : av.tmps[22]?.getD undef = .slice fa' B.pl fc' := Reg.slot_val (hd 8 (by kernel_rfl) 22 rfl)
   have t25 : av.tmps[25]?.getD undef = .float .f32 (Op.negFloat .f32 x) := Reg.slot_val (hd 11 (by kernel_rfl) 25 rfl)
   go_simp
   refine (impl_addScaled _ _ _ _ _ c.cs YF _ _ _ (HP.out.below (HS.out ▸ (BX2.out.call HC.out).bel)) (HVS.out.below HC.out) HNX.out (by have := HPL.out; omega)).mono ?_
   rintro en w9 ⟨g, rfl, hO, _, hB9⟩
   exact hK _ _ (fun _ => ⟨g, rfl, hO⟩) (fun h => by cases h) (HC.out.trans (hB9.mono HC.out.size)) hB9
  ·rintro av wq HC hx hd K hK
   replace HC := Lib.hid HC
   have t16 : av.tmps[16]?.getD undef = .slice la n lc := Reg.slot_val (hd 2 (by kernel_rfl) 16 rfl)
   obtain ⟨g, g26, hO⟩ := hd 12 (by kernel_rfl) 26 rfl
   have t26 := Reg.slot_val g26
   have HO := Lib.hid hO.is
   clear g26 hO
   go_simp
   rw [mkM_len] at HO
   refine (JS.out _ _ _ _ HO.out (HES.out _ (HS.out ▸ (BX2.out.call HC.out).bel))).mono ?_
   rintro en w9 ⟨g9, rfl, hS9⟩
   exact hK _ _ (fun _ => ⟨g9, rfl, by rw [HB1.out]; exact hS9.own⟩) (fun h => by cases h) (HC.out.trans (hS9.bel.mono HC.out.size)) hS9.bel
  ·rintro av wq HC hx hd K hK
   replace HC := Lib.hid HC
   obtain ⟨g, g27, hO⟩ := hd 13 (by kernel_rfl) 27 rfl
   have t27 := Reg.slot_val g27
   have HO := Lib.hid hO
   clear g27 hO
   go_simp
   exact hK _ _ (fun _ => ⟨g, rfl, HO.out⟩) (fun h => by cases h) HC.out (Below.refl _ _)
 rintro f wa hC hd hT
 obtain ⟨ga, e5, hOa⟩ := hd 14 5 rfl
 simp only [Reg.mixL, Nat.zero_add, Nat.reduceAdd, e5]
 have BX3 := Lib.hid (BX2.out.call hC)
 have HVS3 := Lib.hid (HVS.out.below hC)
 have OA := Lib.hid hOa
 clear hC hd hT hOa e5 HVS BX2
 go_wp2_with fail
 refine Reg.wp_region_mix (C := fun w' => Below wa.heap.size wa w') (G := fun w1 w2 => Below w1.heap.size w1 w2) (R := fun i v w' => match i with
  | 0 => v = .pointer (some ⟨S, 0, none⟩)
  | 1 => v = .pointer (some ⟨S, 10, none⟩)
  | 2 => v = .slice la n lc
  | 3 => v = .pointer (some ⟨S, 0, none⟩)
  | 4 => v = .pointer (some ⟨S, 0, none⟩)
  | 5 => v = .pointer (some ⟨S, 0, none⟩)
  | 6 => v = .pointer (some ⟨S, 0, none⟩)
  | 7 => v = .slice B.pa B.pl B.pc
  | 8 => v = .slice fa' B.pl fc'
  | 9 => v = .pointer (some ⟨S, 11, none⟩)
  | 10 => v = .float .f32 x
  | 11 => ∃ g, v = .slice (some ⟨g, 0, none⟩) B.pl B.pl ∧ OwnVs w' g (mkM c.cs YF d B.pl B.pl)
  | 12 => ∃ g, v = .slice (some ⟨g, 0, none⟩) B.pl B.pl ∧ OwnVs w' g (X2)
  | 13 => ∃ g, v = .slice (some ⟨g, 0, none⟩) B.pl B.pl ∧ OwnVs w' g (X2)
  | _ => True) (T := fun _ _ _ => True) [false, false, false, false, false, false, true, false, false, false, false, false, false, false, false, false, false, false, false, false, false, false, false, false, false, false, false, false, true, true, true, true, true, true, true, true, true, true, true, true, true, false, false, false, false, false, false, false, false, false, false, false, false, false, false, false, false, false, false, false, false, false, false, false, false, false, false, false, false, false, false, false, false]
  (by kernel_rfl) (by kernel_rfl) (by kernel_rfl) ?_ (below_drewN (Below.refl _ _) 1) ?_ ?_
 ·intro j v wa wb _ hG hR
  match j with
  | 0 => exact hR
  | 1 => exact hR
  | 2 => exact hR
  | 3 => exact hR
  | 4 => exact hR
  | 5 => exact hR
  | 6 => exact hR
  | 7 => exact hR
  | 8 => exact hR
  | 9 => exact hR
  | 10 => exact hR
  | 11 => obtain ⟨g, e, h⟩ := hR; exact ⟨g, e, h.below hG⟩
  | 12 => obtain ⟨g, e, h⟩ := hR; exact ⟨g, e, h.below hG⟩
  | 13 => obtain ⟨g, e, h⟩ := hR; exact ⟨g, e, h.below hG⟩
  | _ + 14 => trivial
 ·refine ⟨Reg.Obl.mk ?_, Reg.Obl.mk ?_, Reg.Obl.mk ?_, Reg.Obl.mk ?_, Reg.Obl.mk ?_, Reg.Obl.mk ?_, Reg.Obl.mk ?_, Reg.Obl.mk ?_, Reg.Obl.mk ?_, Reg.Obl.mk ?_, Reg.Obl.mk ?_, Reg.Obl.mk ?_, Reg.Obl.mk ?_, Reg.Obl.mk ?_, trivial⟩
  ·rintro av wq HC hx hd K hK
   replace HC := Lib.hid HC
   have t2 : av.tmps[2]?.getD undef = .pointer (some ⟨S, 0, none⟩) := Reg.slot_val (hx 2 (by kernel_rfl))
   go_simp
   exact hK _ _ (fun _ => rfl) (fun h => by cases h) HC.out (Below.refl _ _)
  ·rintro av wq HC hx hd K hK
   replace HC := Lib.hid HC
   have t28 : av.tmps[28]?.getD undef = .pointer (some ⟨S, 0, none⟩) := Reg.slot_val (hd 0 (by kernel_rfl) 28 rfl)
   go_simp
   exact hK _ _ (fun _ => rfl) (fun h => by cases h) HC.out (Below.refl _ _)
  ·rintro av wq HC hx hd K hK
   replace HC := Lib.hid HC
   have t29 : av.tmps[29]?.getD undef = .pointer (some ⟨S, 10, none⟩) := Reg.slot_val (hd 1 (by kernel_rfl) 29 rfl)
   have y := ((BX3.out.call HC.out).mem (.head _)) 10 _ rfl
   go_simp
   exact hK _ _ (fun _ => rfl) (fun h => by cases h) HC.out (Below.refl _ _)
  ·rintro av wq HC hx hd K hK
   replace HC := Lib.hid HC
   have t2 : av.tmps[2]?.getD undef = .pointer (some ⟨S, 0, none⟩) := Reg.slot_val (hx 2 (by kernel_rfl))
   go_simp
   exact hK _ _ (fun _ => rfl) (fun h => by cases h) HC.out (Below.refl _ _)
  ·rintro av wq HC hx hd K hK
   replace HC := Lib.hid HC
   have t31 : av.tmps[31]?.getD undef = .pointer (some ⟨S, 0, none⟩) := Reg.slot_val (hd 3 (by kernel_rfl) 31 rfl)
   go_simp
   exact hK _ _ (fun _ => rfl) (fun h => by cases h) HC.out (Below.refl _ _)
  ·rintro av wq HC hx hd K hK
   replace HC := Lib.hid HC
   have t32 : av.tmps[32]?.getD undef = .pointer (some ⟨S, 0, none⟩) := Reg.slot_val (hd 4 (by kernel_rfl) 32 rfl)
   go_simp
   exact hK _ _ (fun _ => rfl) (fun h => by cases h) HC.out (Below.refl _ _)
  ·rintro av wq HC hx hd K hK
   replace HC := Lib.hid HC
   have t33 : av.tmps[33]?.getD undef = .pointer (some ⟨S, 0, none⟩) := Reg.slot_val (hd 5 (by kernel_rfl) 33 rfl)
   go_simp
   exact hK _ _ (fun _ => rfl) (fun h => by cases h) HC.out (Below.refl _ _)
  ·rintro av wq HC hx hd K hK
   replace HC := Lib.hid HC
   have t34 : av.tmps[34]?.getD undef = .pointer (some ⟨S, 0, none⟩) := Reg.slot_val (hd 6 (by kernel_rfl) 34 rfl)
   have y := ((BX3.out.call HC.out).mem (.head _)) 0 _ rfl
   go_simp
   exact hK _ _ (fun _ => rfl) (fun h => by cases h) HC.out (Below.refl _ _)
  ·rintro av wq HC hx hd K hK
   replace HC := Lib.hid HC
   have t1 : av.tmps[1]?.getD undef = .slice fa' B.pl fc' := Reg.slot_val (hx 1 (by kernel_rfl))
   go_simp
   exact hK _ _ (fun _ => rfl) (fun h => by cases h) HC.out (Below.refl _ _)
  ·rintro av wq HC hx hd K hK
   replace HC := Lib.hid HC
   have t2 : av.tmps[2]?.getD undef = .pointer (some ⟨S, 0, none⟩) := Reg.slot_val (hx 2 (by kernel_rfl))
   go_simp
   exact hK _ _ (fun _ => rfl) (fun h => by cases h) HC.out (Below.refl _ _)
  ·rintro av wq HC hx hd K hK
   replace HC := Lib.hid HC
   have t37 : av.tmps[37]?.getD undef = .pointer (some ⟨S, 11, none⟩) := Reg.slot_val (hd 9 (by kernel_rfl) 37 rfl)
   have y := ((BX3.out.call HC.out).mem (.head _)) 11 _ rfl
   go_simp
   exact hK _ _ (fun _ => rfl) (fun h => by cases h) HC.out (Below.refl _ _)
  ·rintro av wq HC hx hd K hK
   replace HC := Lib.hid HC
   have t35 : av.tmps[35]?.getD undef = .slice B.pa B.pl B.pc := Reg.slot_val (hd 7 (by kernel_rfl) 35 rfl)
   have t36 : av.tmps[36]?.getD undef = .slice fa' B.pl fc' := Reg.slot_val (hd 8 (by kernel_rfl) 36 rfl)
   have t38 : av.tmps[38]?.getD undef = .float .f32 x := Reg.slot_val (hd 10 (by kernel_rfl) 38 rfl)
   go_simp
   refine (impl_addScaled _ _ _ _ _ c.cs YF _ _ _ (HP.out.below (HS.out ▸ (BX3.out.call HC.out).bel)) (HVS3.out.below HC.out) HX.out (by have := HPL.out; omega)).mono ?_
   rintro en w9 ⟨g, rfl, hO, _, hB9⟩
   exact hK _ _ (fun _ => ⟨g, rfl, hO⟩) (fun h => by cases h) (HC.out.trans (hB9.mono HC.out.size)) hB9
  ·rintro av wq HC hx hd K hK
   replace HC := Lib.hid HC
   have t30 : av.tmps[30]?.getD undef = .slice la n lc := Reg.slot_val (hd 2 (by kernel_rfl) 30 rfl)
   obtain ⟨g, g39, hO⟩ := hd 11 (by kernel_rfl) 39 rfl
   have t39 := Reg.slot_val g39
   have HO := Lib.hid hO.is
   clear g39 hO
   go_simp
   rw [mkM_len] at HO
   refine (JS.out _ _ _ _ HO.out (HES.out _ (HS.out ▸ (BX3.out.call HC.out).bel))).mono ?_
   rintro en w9 ⟨g9, rfl, hS9⟩
   exact hK _ _ (fun _ => ⟨g9, rfl, by rw [HB2.out]; exact hS9.own⟩) (fun h => by cases h) (HC.out.trans (hS9.bel.mono HC.out.size)) hS9.bel
  ·rintro av wq HC hx hd K hK
   replace HC := Lib.hid HC
   obtain ⟨g, g40, hO⟩ := hd 12 (by kernel_rfl) 40 rfl
   have t40 := Reg.slot_val g40
   have HO := Lib.hid hO
   clear g40 hO
   go_simp
   exact hK _ _ (fun _ => ⟨g, rfl, HO.out⟩) (fun h => by cases h) HC.out (Below.refl _ _)
 rintro f wb hC hd hT
 obtain ⟨gb, e6, hOb⟩ := hd 13 6 rfl
 simp only [Reg.mixL, Nat.zero_add, Nat.reduceAdd, e6]
 have BX4 := Lib.hid (BX3.out.call hC)
 have OA4 := Lib.hid (OA.out.below hC)
 have OB4 := Lib.hid hOb
 clear hC hd hT hOb e6 HVS3 BX3 OA
 have y := (BX4.out.mem (.head _)) 11 _ rfl
 go_wp2_with fail
 clear y
 refine (impl_product32 _ _ _ _ _ two_FV HX.out).mono ?_
 rintro e wc ⟨q, rfl, hq, nd, hw⟩
 have hB : Below wb.heap.size wb wc := by rw [hw]; exact below_drewN (Below.refl _ _) _
 have BX5 := Lib.hid (BX4.out.call hB)
 have OA5 := Lib.hid (OA4.out.below hB)
 have OB5 := Lib.hid (OB4.out.below hB)
 have HSH := Lib.hid (fun w9 : World => (show FV .f32 (fR .quo .f32 1065353216 q w9) (shrC d) from FV_fR one_FV32 hq))
 clear hB hw hq BX4 OA4 OB4
 have hmk := fun W : World => make_vecs W B.pl (by have := HPL.out; omega)
 have u3 := Tryz.underlying27
 go_wp2_with fail
 generalize hsh : fR BinOp.quo FloatKind.f32 1065353216 q wc = sh at *
 have FSH : Hid (FV .f32 sh (shrC d)) := Lib.hid (hsh ▸ HSH.out wc)
 clear HSH hsh
 have hA : Below wc.heap.size wc (wc.alloc (.cells (madeCells #[.float .f32 0, .float .f32 0, .float .f32 0] (B.pl * 3)) 42)) := (Below.refl _ _).alloc (Nat.le_refl _) _
 have S0 : Hid (St w [(S, StL B ha la hl hc n lc x s fa fl fc)] wc.heap.size (mkG TF B.pl 0) (wc.alloc (.cells (madeCells #[.float .f32 0, .float .f32 0, .float .f32 0] (B.pl * 3)) 42))) := Lib.hid (St.of BX5.out hA (Nat.le_refl _) (by rw [mkG_zero]; exact OwnVs.made (by have := HPL.out; omega)))
 have OA7 := Lib.hid (OA5.out.below hA)
 have OB7 := Lib.hid (OB5.out.below hA)
 have HNE : Hid (ga ≠ wc.heap.size ∧ gb ≠ wc.heap.size) := Lib.hid ⟨Nat.ne_of_lt OA5.out.2.2, Nat.ne_of_lt OB5.out.2.2⟩
 clear hA OA5 OB5 BX5 hmk
 generalize (wc.alloc (.cells (madeCells #[.float .f32 0, .float .f32 0, .float .f32 0] (B.pl * 3)) 42)) = W7 at *
 generalize wc.heap.size = g at *
 replace S0 := Lib.hid (S0.out.drewN (fN BinOp.quo FloatKind.f32 1065353216 q))
 replace OA7 := Lib.hid (OA7.out.below (below_drewN (Below.refl _ _) (fN BinOp.quo FloatKind.f32 1065353216 q)))
 replace OB7 := Lib.hid (OB7.out.below (below_drewN (Below.refl _ _) (fN BinOp.quo FloatKind.f32 1065353216 q)))
 generalize (W7.drewN (fN BinOp.quo FloatKind.f32 1065353216 q)) = W8 at *
 go_loopw [50] (fun i w' => ∃ k : Nat, k ≤ B.pl ∧ i = .int .i64 k ∧ Aside (St w [(S, StL B ha la hl hc n lc x s fa fl fc)] g (mkG TF B.pl k) w' ∧ OwnVs w' ga X1 ∧ OwnVs w' gb X2)) (fun i _ => B.pl - (intOf i).toNat)
 case atStart => exact ⟨0, Nat.zero_le _, rfl, S0.out, OA7.out, OB7.out⟩
 case round =>
  obtain ⟨k, hk, rfl, hA⟩ := hrel
  have SK := Lib.hid hA.out.1
  have AK := Lib.hid hA.out.2.1
  have BK := Lib.hid hA.out.2.2
  clear hA S0 OA7 OB7
  by_cases hlt : k < B.pl
  ·obtain ⟨p', q', t', ⟨c0', c1', c2'⟩, fA⟩ := AK.out.at (k := k) (by rw [HL1.out]; exact hlt)
   obtain ⟨p2, q2, t2', ⟨d0', d1', d2'⟩, fB⟩ := BK.out.at (k := k) (by rw [HL2.out]; exact hlt)
   have hk0 : (0 : Int) ≤ (k : Int) := by omega
   have hk1 : (k : Int) < (B.pl : Int) := by omega
   have HSN := Lib.hid (mkG_set (f := TF) hlt)
   have HTK := Lib.hid (HTF.out k)
   have FA := Lib.hid fA
   have FB := Lib.hid fB
   have CA := Lib.hid (And.intro c0' (And.intro c1' c2'))
   have CB := Lib.hid (And.intro d0' (And.intro d1' d2'))
   have OWN := Lib.hid SK.out.own
   clear fA fB c0' c1' c2' d0' d1' d2'
   generalize X1.getD k c0 = C1 at *
   generalize X2.getD k c0 = C2 at *
   go_wp2_with fail
   refine Reg6.wp_region_mix (s := 14) (C := fun w' => Below wr.heap.size wr w') (D := fun _ w' => ∃ wp y z v, Below wr.heap.size wr wp ∧ F3 y z v (scaleC' (difC C1 C2) (shrC d)) ∧ w' = put3 wp g k y z v) (G := fun w1 w2 => Below w1.heap.size w1 w2)
    (Rv := fun i v => match i with
     | 0 => v = .slice (some ⟨g, 0, none⟩) B.pl B.pl
     | 1 => v = .int .i64 k
     | 2 => v = .slice (some ⟨ga, 0, none⟩) B.pl B.pl
     | 3 => v = .int .i64 k
     | 4 => v = .pointer (some ⟨ga, k * 3, none⟩)
     | 5 => v = vv p' q' t'
     | 6 => v = .slice (some ⟨gb, 0, none⟩) B.pl B.pl
     | 7 => v = .int .i64 k
     | 8 => v = .pointer (some ⟨gb, k * 3, none⟩)
     | 9 => v = vv p2 q2 t2'
     | 10 => ∃ y z u, v = vv y z u ∧ F3 y z u (difC C1 C2)
     | 11 => v = .float .f32 sh
     | 12 => ∃ y z u, v = vv y z u ∧ F3 y z u (scaleC' (difC C1 C2) (shrC d))
     | 13 => v = .pointer (some ⟨g, k * 3, none⟩)
     | _ => True) (Rw := fun _ _ _ => True) [false, false, false, false, false, false, false, false, false, false, false, false, false, false, false, false, false, false, false, false, false, false, false, false, false, false, false, false, false, false, false, false, false, false, false, false, false, false, false, false, false, false, false, false, false, false, false, false, false, false, false, false, false, true, true, true, true, true, true, true, true, true, true, true, true, true, true, false, false, false, false, false, false]
    (by kernel_rfl) (by kernel_rfl) (by kernel_rfl) (fun _ _ _ _ _ _ _ => trivial) (below_drewN (Below.refl _ _) 1) ?_ ?_
   ·refine ⟨?_, ?_, ?_, ?_, ?_, ?_, ?_, ?_, ?_, ?_, ?_, ?_, ?_, ?_, ?_, trivial⟩
    ·refine Reg6.Obl.early rfl (by kernel_rfl) ?_
     rintro av wq HC hx hd K hK
     replace HC := Lib.hid HC
     have t8 : av.tmps[8]?.getD undef = .slice (some ⟨g, 0, none⟩) B.pl B.pl := Reg.slot_val (hx 8 (by kernel_rfl))
     go_simp
     exact hK _ _ (by first | rfl | simp) trivial HC.out (Below.refl _ _)
    ·refine Reg6.Obl.early rfl (by kernel_rfl) ?_
     rintro av wq HC hx hd K hK
     replace HC := Lib.hid HC
     have t9 : av.tmps[9]?.getD undef = .int .i64 k := Reg.slot_val (hx 9 (by kernel_rfl))
     go_simp
     exact hK _ _ (by first | rfl | simp) trivial HC.out (Below.refl _ _)
    ·refine Reg6.Obl.early rfl (by kernel_rfl) ?_
     rintro av wq HC hx hd K hK
     replace HC := Lib.hid HC
     have t5 : av.tmps[5]?.getD undef = .slice (some ⟨ga, 0, none⟩) B.pl B.pl := Reg.slot_val (hx 5 (by kernel_rfl))
     go_simp
     exact hK _ _ (by first | rfl | simp) trivial HC.out (Below.refl _ _)
    ·refine Reg6.Obl.early rfl (by kernel_rfl) ?_
     rintro av wq HC hx hd K hK
     replace HC := Lib.hid HC
     have t9 : av.tmps[9]?.getD undef = .int .i64 k := Reg.slot_val (hx 9 (by kernel_rfl))
     go_simp
     exact hK _ _ (by first | rfl | simp) trivial HC.out (Below.refl _ _)
    ·refine Reg6.Obl.early rfl (by kernel_rfl) ?_
     rintro av wq HC hx hd K hK
     replace HC := Lib.hid HC
     have t55 : av.tmps[55]?.getD undef = .slice (some ⟨ga, 0, none⟩) B.pl B.pl := Reg.slot_val (hd 2 55 (by kernel_rfl) rfl).1
     have t56 : av.tmps[56]?.getD undef = .int .i64 k := Reg.slot_val (hd 3 56 (by kernel_rfl) rfl).1
     go_simp
     exact hK _ _ (by first | rfl | simp) trivial HC.out (Below.refl _ _)
    ·refine Reg6.Obl.early rfl (by kernel_rfl) ?_
     rintro av wq HC hx hd K hK
     replace HC := Lib.hid HC
     have t57 : av.tmps[57]?.getD undef = .pointer (some ⟨ga, k * 3, none⟩) := Reg.slot_val (hd 4 57 (by kernel_rfl) rfl).1
     have y0 := cell_below HC.out CA.out.1
     have y1 := cell_below HC.out CA.out.2.1
     have y2 := cell_below HC.out CA.out.2.2
     go_simp
     exact hK _ _ (by first | rfl | simp) trivial HC.out (Below.refl _ _)
    ·refine Reg6.Obl.early rfl (by kernel_rfl) ?_
     rintro av wq HC hx hd K hK
     replace HC := Lib.hid HC
     have t6 : av.tmps[6]?.getD undef = .slice (some ⟨gb, 0, none⟩) B.pl B.pl := Reg.slot_val (hx 6 (by kernel_rfl))
     go_simp
     exact hK _ _ (by first | rfl | simp) trivial HC.out (Below.refl _ _)
    ·refine Reg6.Obl.early rfl (by kernel_rfl) ?_
     rintro av wq HC hx hd K hK
     replace HC := Lib.hid HC
     have t9 : av.tmps[9]?.getD undef = .int .i64 k := Reg.slot_val (hx 9 (by kernel_rfl))
     go_simp
     exact hK _ _ (by first | rfl | simp) trivial HC.out (Below.refl _ _)
    ·refine Reg6.Obl.early rfl (by kernel_rfl) ?_
     rintro av wq HC hx hd K hK
     replace HC := Lib.hid HC
     have t59 : av.tmps[59]?.getD undef = .slice (some ⟨gb, 0, none⟩) B.pl B.pl := Reg.slot_val (hd 6 59 (by kernel_rfl) rfl).1
     have t60 : av.tmps[60]?.getD undef = .int .i64 k := Reg.slot_val (hd 7 60 (by kernel_rfl) rfl).1
     go_simp
     exact hK _ _ (by first | rfl | simp) trivial HC.out (Below.refl _ _)
    ·refine Reg6.Obl.early rfl (by kernel_rfl) ?_
     rintro av wq HC hx hd K hK
     replace HC := Lib.hid HC
     have t61 : av.tmps[61]?.getD undef = .pointer (some ⟨gb, k * 3, none⟩) := Reg.slot_val (hd 8 61 (by kernel_rfl) rfl).1
     have y0 := cell_below HC.out CB.out.1
     have y1 := cell_below HC.out CB.out.2.1
     have y2 := cell_below HC.out CB.out.2.2
     go_simp
     exact hK _ _ (by first | rfl | simp) trivial HC.out (Below.refl _ _)
    ·refine Reg6.Obl.early rfl (by kernel_rfl) ?_
     rintro av wq HC hx hd K hK
     replace HC := Lib.hid HC
     have t58 : av.tmps[58]?.getD undef = vv p' q' t' := Reg.slot_val (hd 5 58 (by kernel_rfl) rfl).1
     have t62 : av.tmps[62]?.getD undef = vv p2 q2 t2' := Reg.slot_val (hd 9 62 (by kernel_rfl) rfl).1
     go_simp
     refine (impl_LessVectors _ _ _ _ _ _ _ _ _ _ _ _ _ FA.out.1 FA.out.2.1 FA.out.2.2 FB.out.1 FB.out.2.1 FB.out.2.2).mono ?_
     rintro en w9 ⟨y', z', u', rfl, f0, f1, f2, hB9⟩
     exact hK _ _ ⟨y', z', u', rfl, f0, f1, f2⟩ trivial (HC.out.trans (hB9.mono HC.out.size)) hB9
    ·refine Reg6.Obl.early rfl (by kernel_rfl) ?_
     rintro av wq HC hx hd K hK
     replace HC := Lib.hid HC
     have t7 : av.tmps[7]?.getD undef = .float .f32 sh := Reg.slot_val (hx 7 (by kernel_rfl))
     go_simp
     exact hK _ _ (by first | rfl | simp) trivial HC.out (Below.refl _ _)
    ·refine Reg6.Obl.early rfl (by kernel_rfl) ?_
     rintro av wq HC hx hd K hK
     replace HC := Lib.hid HC
     have t64 : av.tmps[64]?.getD undef = .float .f32 sh := Reg.slot_val (hd 11 64 (by kernel_rfl) rfl).1
     obtain ⟨y, z, u', g63, f63⟩ := (hd 10 63 (by kernel_rfl) rfl).1
     have t63 := Reg.slot_val g63
     have F63 := Lib.hid f63
     clear g63 f63
     go_simp
     refine (impl_ScaleVector _ _ _ _ _ _ _ _ _ F63.out.1 F63.out.2.1 F63.out.2.2 FSH.out).mono ?_
     rintro en w9 ⟨y', z', u', rfl, f0, f1, f2, hB9⟩
     exact hK _ _ ⟨y', z', u', rfl, f0, f1, f2⟩ trivial (HC.out.trans (hB9.mono HC.out.size)) hB9
    ·refine Reg6.Obl.early rfl (by kernel_rfl) ?_
     rintro av wq HC hx hd K hK
     replace HC := Lib.hid HC
     have t53 : av.tmps[53]?.getD undef = .slice (some ⟨g, 0, none⟩) B.pl B.pl := Reg.slot_val (hd 0 53 (by kernel_rfl) rfl).1
     have t54 : av.tmps[54]?.getD undef = .int .i64 k := Reg.slot_val (hd 1 54 (by kernel_rfl) rfl).1
     go_simp
     exact hK _ _ (by first | rfl | simp) trivial HC.out (Below.refl _ _)
    ·refine Reg6.Obl.store rfl ?_
     rintro av wq HC hx hd K hK
     replace HC := Lib.hid HC
     have t66 : av.tmps[66]?.getD undef = .pointer (some ⟨g, k * 3, none⟩) := Reg.slot_val (hd 13 66 (by kernel_rfl) rfl).1
     obtain ⟨y, z, v, gv, fv⟩ := (hd 12 65 (by kernel_rfl) rfl).1
     have t65 := Reg.slot_val gv
     have HPX : Hid (∃ wp y' z' v', Below wr.heap.size wr wp ∧ F3 y' z' v' (scaleC' (difC C1 C2) (shrC d)) ∧ put3 wq g k y z v = put3 wp g k y' z' v') := Lib.hid ⟨wq, y, z, v, HC.out, fv, rfl⟩
     obtain ⟨p0, q0, r0, ⟨y0, y1, y2⟩, -⟩ := (OWN.out.below HC.out).at (k := k) (by rw [mkG_len]; exact hlt)
     have f0 := (OWN.out.below HC.out).2.1 (k * 3)
     have f1 := (OWN.out.below HC.out).2.1 (k * 3 + 1)
     have f2 := (OWN.out.below HC.out).2.1 (k * 3 + 2)
     clear gv fv
     go_simp
     exact hK _ HPX.out
   ·rintro f w2 hD hd
    obtain ⟨wp, y, z, v, hB, hF, rfl⟩ := hD
    simp only [Reg.mixL, Nat.zero_add, Nat.reduceAdd]
    have S2 := Lib.hid ((SK.out.call hB).put (k := k) (by rw [mkG_len]; exact hlt) hF)
    have hne := HNE.out
    have A2 : Hid (OwnVs (put3 wp g k y z v) ga X1) := Lib.hid ((((AK.out.below hB).far (a := ⟨g, k * 3, none⟩) (Ne.symm hne.1)).far (a := ⟨g, k * 3 + 1, none⟩) (Ne.symm hne.1)).far (a := ⟨g, k * 3 + 2, none⟩) (Ne.symm hne.1))
    have B2 : Hid (OwnVs (put3 wp g k y z v) gb X2) := Lib.hid ((((BK.out.below hB).far (a := ⟨g, k * 3, none⟩) (Ne.symm hne.2)).far (a := ⟨g, k * 3 + 1, none⟩) (Ne.symm hne.2)).far (a := ⟨g, k * 3 + 2, none⟩) (Ne.symm hne.2))
    rw [← HTK.out, HSN.out] at S2
    clear hB hF hd hne
    unfold put3 at *
    go_wp2
    go_roundw
    case rel => exact ⟨k + 1, by omega, by go_num, S2.out, A2.out, B2.out⟩
    case measure => simp [intOf]; omega
  ·obtain rfl : k = B.pl := by omega
   have S3 : Hid (St w [] g (mkG TF B.pl B.pl) wr) := Lib.hid SK.out.drop
   have BXr := Lib.hid SK.out
   clear AK BK SK
   have b0 := (BXr.out.mem (.head _)) 0 _ rfl
   have b1 := (BXr.out.mem (.head _)) 1 _ rfl
   have b2 := (BXr.out.mem (.head _)) 2 _ rfl
   have b3 := (BXr.out.mem (.head _)) 3 _ rfl
   have b4 := (BXr.out.mem (.head _)) 4 _ rfl
   have b5 := (BXr.out.mem (.head _)) 5 _ rfl
   have b6 := (BXr.out.mem (.head _)) 6 _ rfl
   have b7 := (BXr.out.mem (.head _)) 7 _ rfl
   have b8 := (BXr.out.mem (.head _)) 8 _ rfl
   have b9 := (BXr.out.mem (.head _)) 9 _ rfl
   have b10 := (BXr.out.mem (.head _)) 10 _ rfl
   go_wp2_with fail
   clear b0 b1 b2 b3 b4 b5 b6 b7 b8 b9 b10
   refine (JL.out w wr g _ S3.out (mkG_len _ _ _) HL.out).mono ?_
   rintro e w9 ⟨rfl, hS⟩
   have HSS := Lib.hid hS
   clear hS
   go_wp2
   go_ret
   exact ⟨g, rfl, HT.out g _ HSS.out⟩
end Go.Proofs.YtabccmobmppdnaaGreat
namespace Go.Proofs.YtabccmobmppdnaaGreat
open Go Fk Go.RowKit
set_option linter.unusedVariables false
set_option maxRecDepth 16000
theorem stiff_all (B : Bd) (c : Bc) (a : Option Addr) (len cap : Nat) (L : List Int) (x : Nat) (la : Option Addr) (lc : Nat) (rows : List (Option Addr × Nat × Nat)) (w : World) (h : IsB w B c) (hL : IsIs w a len cap L) (hx' : x < 4294967296) (hR : RowsS w la rows) (hk : rows.length ≤ 1000) :
  Calls Tryz.prog 71 #[B.v, .slice a len cap, .float .f32 x, .slice la rows.length lc] w fun e w' => ((stfB c L x rows = true ∧ ∃ ea ec, e = .returned (.tuple #[StV B a ea len cap (ens c).length ec x 0 none 0 0, .bool true]) ∧ EnB w.heap.size w' ea (ens c)) ∨ (stfB c L x rows = false ∧ e = .returned (.tuple #[.agg Z14.toArray, .bool false]))) ∧ Below w.heap.size w w' := by
 have hpl : c.cs.length = B.pl := h.1.1
 unfold stfB
 rw [hpl]
 cases hh : heldB c L
 ·exact (stiff_no1 B c a len cap L x la lc rows w h hL hx' hR hk hh).mono fun e w' ⟨he, hB⟩ => ⟨.inr ⟨rfl, he⟩, hB⟩
 ·cases hs : sizeB x
  ·exact (stiff_no2 B c a len cap L x la lc rows w h hL hx' hR hk hh hs).mono fun e w' ⟨he, hB⟩ => ⟨.inr ⟨rfl, he⟩, hB⟩
  ·refine (stiff_yes B c a len cap L x la lc rows w h hL hx' hR hk hh hs).mono fun e w' ⟨h1, h2⟩ => ?_
   cases hl : lensB B.pl rows
   ·exact ⟨.inr ⟨rfl, (h2 hl).1⟩, (h2 hl).2⟩
   ·obtain ⟨ea, ec, he, hE, hB⟩ := h1 hl
    exact ⟨.inl ⟨rfl, ea, ec, he, hE⟩, hB⟩
def canB (c : Bc) (L : List Int) (n x : Nat) : Bool := heldB c L && (sizeB x && decide (n = c.cs.length))
def stiT (c : Bc) (L : List Int) (ys : List C3) (d : Option Nat) (n x : Nat) : List C3 := bif canB c L n x then timT c L ys d else []
theorem stf_can (c : Bc) (L : List Int) (x : Nat) (a : Option Addr) (n cap : Nat) : stfB c L x [(a, n, cap)] = canB c L n x := by
 unfold stfB canB lensB; simp
theorem can_parts {c : Bc} {L : List Int} {n x : Nat} (h : canB c L n x = true) : bodyB c = true ∧ riseB c.cs.length L = true ∧ sizeB x = true ∧ n = c.cs.length := by
 unfold canB heldB at h
 simp only [Bool.and_eq_true, decide_eq_true_eq] at h
 exact ⟨h.1.1, h.1.2, h.2.1, h.2.2⟩
theorem body64 {c : Bc} (h : bodyB c = true) : c.cs.length ≤ 64 := (valid_pl (body_valid h).1).1
theorem stiT_len (c : Bc) (L : List Int) (ys : List C3) (d : Option Nat) (n x : Nat) : (stiT c L ys d n x).length ≤ 64 := by
 unfold stiT
 cases h : canB c L n x
 ·simp
 ·rw [cond_true, timT_len]; exact body64 (can_parts h).1
set_option maxHeartbeats 4000000 in
theorem impl_StiffTimes (B : Bd) (c : Bc) (a1 : Option Addr) (n1 c1 : Nat) (L1 : List Int) (a2 : Option Addr) (n2 c2 : Nat) (y2 : List C3) (x : Nat) (d : Option Nat) (w : World) (h : IsB w B c) (h1 : IsIs w a1 n1 c1 L1) (h2 : IsVs w a2 n2 c2 y2) (h3 : FV .f32 x d) (g3 : x < 4294967296) :
  Calls Tryz.prog 21 #[B.v, .slice a1 n1 c1, .slice a2 n2 c2, .float .f32 x] w fun e w' => (∃ v, e = .returned (.tuple #[v, .bool (canB c L1 n2 x)]) ∧ RV w.heap.size w' v (stiT c L1 y2 d n2 x)) ∧ Below w.heap.size w w' := by
 have uib := Tryz.underlying44
 have us := Tryz.underlying109
 have uv := Tryz.underlying36
 have bx1 := (Bx.nil w).box (vs := B.l) (t := 44)
 have bx2 := bx1.box (vs := [.slice a2 n2 c2]) (t := 36)
 simp at bx2
 have BX := Lib.hid bx2
 have hpl : c.cs.length = B.pl := h.1.1
 have H := Lib.hid h
 have HL := Lib.hid h1
 have HV := Lib.hid h2
 have JS := Lib.hid (fun la lc w1 hb hi hr => stiff_all B c a1 n1 c1 L1 x la lc [(a2, n2, c2)] w1 hb hi g3 hr (by simp))
 rw [stf_can] at JS
 have JT : Hid (canB c L1 n2 x = true → n2 = B.pl ∧ ∀ (la : Option Addr) (lc : Nat) (w1 : World), IsVs w1 B.pa B.pl B.pc c.cs → EnS w1 la (ens c) → IsIs w1 a1 n1 c1 L1 → IsVs w1 a2 B.pl c2 y2 → Calls Tryz.prog 72 #[StV B a1 la n1 c1 (ens c).length lc x 0 none 0 0, .slice a2 B.pl c2] w1 fun e w' => ∃ g, e = .returned (.slice (some ⟨g, 0, none⟩) B.pl B.pl) ∧ St w1 [] g (timT c L1 y2 d) w') := Lib.hid (fun hc => by
  obtain ⟨q1, q2, q3, q4⟩ := can_parts hc
  exact ⟨q4.trans hpl, fun la lc w1 k1 k2 k3 k4 => impl_times B c a1 la n1 c1 lc L1 a2 c2 y2 x 0 d none 0 0 w1 k1 k2 q1 hpl k3 (hpl ▸ q2) k4 h3⟩)
 have JP : Hid (canB c L1 n2 x = true → B.pl ≤ 64) := Lib.hid (fun hc => hpl ▸ body64 (can_parts hc).1)
 have HTL : Hid ((timT c L1 y2 d).length = B.pl) := Lib.hid (by rw [timT_len, hpl])
 unfold stiT
 clear h h1 h2 h3 bx1 bx2 hpl
 generalize canB c L1 n2 x = cb at *
 generalize timT c L1 y2 d = T at *
 generalize ens c = es at *
 go_enter Tryz.func21, Tryz.ntmps21
 go_wp2_with fail
 generalize hW : (w.alloc (BoxB B 44)).alloc (.cells #[.slice a2 n2 c2] 36) = W
 have BX1 : Hid (Bx w [(w.heap.size + 1, [.slice a2 n2 c2]), (w.heap.size, B.l)] W) := Lib.hid (hW ▸ BX.out)
 clear BX hW
 have HRW : Hid (RowsS W (some ⟨w.heap.size + 1, 0, none⟩) [(a2, n2, c2)]) := Lib.hid (fun j hj => by
  obtain rfl : j = 0 := by simpa using hj
  exact ⟨_, rfl, (BX1.out.mem (.head _)) 0 _ rfl⟩)
 refine (JS.out (some ⟨w.heap.size + 1, 0, none⟩) _ W (H.out.below BX1.out.bel) (HL.out.below BX1.out.bel) HRW.out).mono ?_
 rintro e w1 ⟨⟨hc, ea, ec, rfl, hE⟩ | ⟨hc, rfl⟩, hB1⟩
 ·subst hc
  obtain ⟨rfl, hJ⟩ := JT.out rfl
  have BX2 := Lib.hid (BX1.out.call hB1)
  have BX3 := Lib.hid (BX2.out.box (vs := StL B a1 ea n1 c1 es.length ec x 0 none 0 0) (t := 109))
  have hX : Below w1.heap.size w1 (w1.alloc (.cells (StL B a1 ea n1 c1 es.length ec x 0 none 0 0).toArray 109)) := (Below.refl _ _).alloc (Nat.le_refl _) _
  have HE := Lib.hid (hE.ens.below hX)
  have HJ := Lib.hid hJ
  clear hE hB1 hX hJ JS JT HRW BX1
  go_wp2_with fail
  change Calls _ _ _ (w1.alloc (.cells (StL B a1 ea n1 c1 es.length ec x 0 none 0 0).toArray 109)) _
  generalize (w1.alloc (.cells (StL B a1 ea n1 c1 es.length ec x 0 none 0 0).toArray 109)) = W2 at *
  refine (HJ.out ea ec W2 (H.out.below BX3.out.bel).1 HE.out (HL.out.below BX3.out.bel) (HV.out.below BX3.out.bel)).mono ?_
  rintro e w3 ⟨g, rfl, hS⟩
  have hRV := RV.block (base := w.heap.size) (cap := B.pl) (Nat.le_trans BX3.out.bel.size hS.2.2.1) (by rw [HTL.out]; exact Nat.le_refl _) (by have := JP.out (by first | trivial | rfl); unfold maxLen; omega) hS.own
  rw [HTL.out] at hRV
  have HRV := Lib.hid hRV
  have BX4 := Lib.hid (BX3.out.call hS.bel)
  clear hS hRV
  go_wp2
  go_ret2
  exact ⟨⟨_, rfl, HRV.out⟩, BX4.out.bel⟩
 ·subst hc
  have BX2 := Lib.hid (BX1.out.call hB1)
  have BX3 := Lib.hid (BX2.out.box (vs := Z14) (t := 109))
  clear hB1 JS JT HRW BX1
  go_wp2
  go_ret2
  exact ⟨⟨_, rfl, RV.nil _ _⟩, BX3.out.bel⟩
end Go.Proofs.YtabccmobmppdnaaGreat

/-
Texts in one: what GreatMode stands on, part 13. Conditions: those of each.
-/
import Derived.Test.YtabccmobmppdnaaGreatKGreatMode12
import Derived.Lib.SmallJoins
import Derived.Test.YtabccmobmppdnaaGreatRows
import Derived.WalkKit
import Derived.ProofKit
import Derived.OpenShut
import Derived.ShutString
import Derived.ChangeOld
import Derived.Below
namespace Go.Proofs.YtabccmobmppdnaaGreat
open Bool renaming false → QQ
open Option renaming none → QZ
open Go.Lib renaming hid → QY
open Nat renaming le_refl → QX
open And renaming intro → QJ
open Go renaming undef → QK
open Go.Proofs.YtabccmobmppdnaaGreat.Reg renaming slot_val → QW
open Go.Proofs.YtabccmobmppdnaaGreat.Reg.Obl renaming mk → Qq
open Go Fk Go.RowKit
set_option linter.unusedVariables false
set_option maxRecDepth 16000
set_option maxRecDepth 8000
set_option maxRecDepth 16000
def inR (z : Int) : Bool := decide (0 ≤ z ∧ z ≤ 40)
theorem impl_areRounds (z : Int) (w : World) : Calls Tryz.prog 92 #[.int .i64 z] w fun e w' => e = .returned (.bool (inR z)) ∧ w' = w := by
 unfold inR
 by_cases h : 0 ≤ z
 ·by_cases h2 : z ≤ 40
  ·rw [decide_eq_true ⟨h, h2⟩]
   go_enter Tryz.func92, Tryz.ntmps92
   go_wp2
   go_ret
   exact ⟨rfl, rfl⟩
  ·rw [decide_eq_false (fun k => h2 k.2)]
   go_enter Tryz.func92, Tryz.ntmps92
   go_wp2
   go_ret
   exact ⟨rfl, rfl⟩
 ·rw [decide_eq_false (fun k => h k.1)]
  go_enter Tryz.func92, Tryz.ntmps92
  go_wp2
  go_ret
  exact ⟨rfl, rfl⟩
theorem inR_parts {z : Int} (h : inR z = true) : ∃ n : Nat, z = (n : Int) ∧ n ≤ 40 := by
 have := of_decide_eq_true h
 exact ⟨z.toNat, by omega, by omega⟩
theorem RV.upM {base : Nat} {w w' : World} {v : Value} {X : List C3} (h : RV base w v X) (hB : Below w.heap.size w w') (hb : base ≤ w.heap.size) : RV base w' v X := by
 obtain ⟨a, cap, e, h1, h2⟩ := h
 exact ⟨a, cap, e, h1.below hB, h2.imp id fun ⟨b, e, ho⟩ => ⟨b, e, ⟨ho.1, Nat.lt_of_lt_of_le ho.2.1 hB.size, (ho.below hB).2.2⟩⟩⟩
abbrev fTim : Value := .func (.func 72) #[] #[]
set_option maxHeartbeats 8000000 in
theorem impl_mode (B : Bd) (c : Bc) (ha la : Option Addr) (hl hc lc : Nat) (L : List Int) (a : Option Addr) (cap : Nat) (ys : List C3) (x s : Nat) (d : Option Nat) (fa : Option Addr) (fl fc : Nat) (N base : Nat) (w : World) (hP : IsVs w B.pa B.pl B.pc c.cs) (hE : EnS w la (ens c)) (hb : bodyB c = true) (hpl : c.cs.length = B.pl) (hL : IsIs w ha hl hc L) (hr : riseB B.pl L = true) (hv : RV base w (.slice a B.pl cap) ys) (hyl : ys.length = B.pl) (hbase : base ≤ w.heap.size) (hx : FV .f32 x d) (hN : inR (N : Int) = true) :
  Calls Tryz.prog 83 #[StV B ha la hl hc (ens c).length lc x s fa fl fc, .slice a B.pl cap, .int .i64 N, fTim] w fun e w' => (∃ v r, e = .returned (.tuple #[v, .float .f32 r, .bool (enB L B.pl (grI c L d B.pl N ys))]) ∧ RV base w' v (enL L B.pl (grI c L d B.pl N ys)) ∧ FV .f32 r (enC c L d B.pl (grI c L d B.pl N ys))) ∧ Below w.heap.size w w' := by
 have us := Tryz.underlying109
 have uh := Tryz.underlying107
 have u := Tryz.underlying27
 have hN40 : N ≤ 40 := by have := of_decide_eq_true hN; omega
 have hm : B.pl ≤ 64 := by have := body64 hb; omega
 have BX := QY ((Bx.nil w).box (vs := StL B ha la hl hc (ens c).length lc x s fa fl fc) (t := 109))
 have HB0 := QY hbase
 have HES : Hid (∀ w1, Below w.heap.size w w1 → EnS w1 la (ens c)) := QY (fun w1 h => hE.below h)
 have JT := QY (fun va vc Y w1 h1 h2 h3 h4 => impl_times B c ha la hl hc lc L va vc Y x s d fa fl fc w1 h1 h2 hb hpl h3 hr h4 hx)
 have JR := QY (fun va vc Y w1 h1 h2 h3 h4 => impl_rayleigh B c ha la hl hc lc L va vc Y x s d fa fl fc w1 h1 h2 hb hpl h3 hr h4 hx)
 have JA := QY (fun w1 => impl_areRounds (N : Int) w1)
 rw [hN] at JA
 have HTL : Hid (∀ Y, (timT c L Y d).length = B.pl) := QY (fun Y => by rw [timT_len, hpl])
 have HP := QY hP
 have HL := QY hL
 obtain ⟨va, vc, e, hvs, hls⟩ := hv
 rw [hyl] at e hvs hls
 cases e
 have HV0 : Hid (RV base w (.slice a B.pl cap) ys) := QY ⟨a, cap, by rw [hyl], by rw [hyl]; exact hvs, by rw [hyl]; exact hls⟩
 have HYL := QY hyl
 have HGS : Hid (∀ k Y, grI c L d B.pl (k + 1) Y = bif nmB (timT c L Y d) B.pl then grI c L d B.pl k (nmT (timT c L Y d) B.pl) else QZ) := QY (fun k Y => rfl)
 have HG0 : Hid (∀ Y, grI c L d B.pl 0 Y = some Y) := QY (fun Y => rfl)
 have HEC : Hid (∀ Y, enC c L d B.pl (some Y) = rayC c L Y d B.pl ∧ (posC (sqrC L Y B.pl) = QQ → rayC c L Y d B.pl = some 0) ∧ enC c L d B.pl QZ = some 0) := QY (fun Y => ⟨rfl, enC_no, rfl⟩)
 clear hP hE hb hpl hL hr hx hN hvs hls hyl hbase
 generalize hGI : grI c L d B.pl = GI at *
 generalize enC c L d B.pl = EC at *
 clear hGI
 generalize hG : GI N ys = G at *
 have HG := QY hG
 clear hG
 generalize hes : ens c = es at *
 generalize hnn : es.length = nn at *
 clear hes hnn
 go_enter Tryz.func83, Tryz.ntmps83
 go_wp2_with fail
 have BX1 := QY BX.out
 change Calls _ _ _ (w.alloc (.cells (StL B ha la hl hc nn lc x s fa fl fc).toArray 109)) _
 generalize (w.alloc (.cells (StL B ha la hl hc nn lc x s fa fl fc).toArray 109)) = W at *
 clear BX
 refine (JA.out W).mono ?_
 rintro e w1 ⟨rfl, hw⟩
 rw [hw]
 clear hw
 have HV1 := QY (show RV base W (.slice a B.pl cap) ys from RV.upM HV0.out BX1.out.bel HB0.out)
 go_wp2_with fail
 go_loopw [19, 1] (fun i v w' => ∃ j : Nat, j ≤ N ∧ i = .int .i64 j ∧ Aside (∃ Y : List C3, RV base w' v Y ∧ Y.length = B.pl ∧ GI (N - j) Y = G ∧ Below W.heap.size W w')) (fun i _ _ => N - (intOf i).toNat)
 case atStart => exact ⟨0, Nat.zero_le _, rfl, ys, HV1.out, HYL.out, HG.out, Below.refl _ _⟩
 case round =>
  obtain ⟨j, hj, rfl, hA⟩ := hrel
  obtain ⟨Y, ⟨ya, yc, rfl, hys, hyl⟩, hYL, hYG, hBW⟩ := hA.out
  rw [hYL] at hys hyl ⊢
  have BXr := QY (BX1.out.call hBW)
  have HBW := QY hBW
  have YS := QY (QJ hys hyl)
  have YG := QY hYG
  have YL := QY hYL
  clear hA hys hyl hYG hBW hYL HV1
  by_cases hlt : j < N
  ·have hk1 : (j : Int) < (N : Int) := by omega
   have hstep : N - j = (N - (j + 1)) + 1 := by omega
   have HST := QY hstep
   have HLT := QY hlt
   clear hstep
   obtain ⟨b0, b1, b2, b3, b4, b5, b6, b7, b8, b9, b10, b11, b12, b13⟩ := at14 (BXr.out.mem (.head _)) rfl
   go_wp2_with fail
   clear b0 b1 b2 b3 b4 b5 b6 b7 b8 b9 b10 b11 b12 b13
   refine (JT.out ya yc Y wr (HP.out.below BXr.out.bel) (HES.out _ BXr.out.bel) (HL.out.below BXr.out.bel) YS.out.1).mono ?_
   rintro e w2 ⟨g, rfl, hS⟩
   have hG2 := hS.own.is
   rw [HTL.out] at hG2
   have HT2 := QY hG2
   have HB2 := QY (HBW.out.trans (hS.bel.mono HBW.out.size))
   clear hS hG2
   have HSTP := QY (HGS.out (N - (j + 1)) Y)
   generalize timT c L Y d = T at *
   go_wp2_with fail
   refine (impl_normed _ B.pl B.pl T w2 HT2.out (by omega)).mono ?_
   rintro e w3 ⟨h1, h2⟩
   cases hnb : nmB T B.pl
   ·obtain ⟨rfl, hB3⟩ := h2 hnb
    have HB3 := QY (HB2.out.trans (hB3.mono HB2.out.size))
    have BX3 := QY (BX1.out.call HB3.out)
    have hGn : G = QZ := by have k1 := YG.out; rw [HST.out, HSTP.out, hnb] at k1; exact k1.symm
    have HGN := QY hGn
    have HE0 := QY (HEC.out Y).2.2
    clear h1 h2 hB3 hGn
    go_wp2
    refine bodyPost_ret (v := .tuple #[.slice QZ 0 0, .float .f32 0, .bool QQ]) (by simp [results, Tryz.results83, go_sem]) rfl ?_
    refine ⟨⟨.slice QZ 0 0, 0, ?_, ?_, ?_⟩, BX3.out.bel⟩
    ·rw [HGN.out]; rfl
    ·rw [HGN.out]; exact RV.nil _ _
    ·rw [HGN.out, HE0.out]; exact FV_0v
   ·obtain ⟨g3, rfl, hS⟩ := h1 hnb
    have hNL : (nmT T B.pl).length = B.pl := by unfold nmT; rw [hnb, cond_true, mkN_len]
    have hlo : base ≤ g3 := Nat.le_trans (Nat.le_trans HB0.out BX1.out.bel.size) (Nat.le_trans HB2.out.size hS.2.2.1)
    have hRV := RV.block (base := base) (cap := B.pl) hlo (by rw [hNL]; exact QX _) (by unfold maxLen; omega) hS.own
    rw [hNL] at hRV
    have HRV := QY hRV
    have HB3 := QY (HB2.out.trans (hS.bel.mono HB2.out.size))
    have hGn : GI (N - (j + 1)) (nmT T B.pl) = G := by have k1 := YG.out; rw [HST.out, HSTP.out, hnb] at k1; exact k1
    have HGN := QY (QJ hNL hGn)
    clear h1 h2 hS hRV hlo hNL hGn
    go_wp2
    go_roundw
    case rel => exact ⟨j + 1, by omega, by go_num, _, HRV.out, HGN.out.1, HGN.out.2, HB3.out⟩
    case measure => simp [intOf]; omega
  ·obtain rfl : j = N := by omega
   have hGY : G = some Y := by have k1 := YG.out; rw [Nat.sub_self, HG0.out] at k1; exact k1.symm
   have HGY := QY hGY
   clear hGY
   obtain ⟨b0, b1, b2, b3, b4, b5, b6, b7, b8, b9, b10, b11, b12, b13⟩ := at14 (BXr.out.mem (.head _)) rfl
   go_wp2_with fail
   clear b0 b1 b2 b3 b4 b5 b6 b7 b8 b9 b10 b11 b12 b13
   refine (JR.out ya yc Y wr (HP.out.below BXr.out.bel) (HES.out _ BXr.out.bel) (HL.out.below BXr.out.bel) YS.out.1).mono ?_
   rintro e w2 ⟨⟨r, rfl, hr⟩, hB2⟩
   have HR := QY hr
   have BX2 := QY (BXr.out.call hB2)
   have HV2 : Hid (RV base w2 (.slice ya B.pl yc) Y) := QY (RV.upM (⟨ya, yc, by rw [YL.out], by rw [YL.out]; exact YS.out.1, by rw [YL.out]; exact YS.out.2⟩ : RV base wr (.slice ya B.pl yc) Y) hB2 (Nat.le_trans HB0.out BXr.out.bel.size))
   have HECY := QY (HEC.out Y)
   clear hr hB2
   cases hp : posC (sqrC L Y B.pl)
   ·have HP0 := QY hp
    clear hp
    go_wp2
    refine bodyPost_ret (v := .tuple #[.slice QZ 0 0, .float .f32 0, .bool QQ]) (by simp [results, Tryz.results83, go_sem]) rfl ?_
    refine ⟨⟨.slice QZ 0 0, 0, ?_, ?_, ?_⟩, BX2.out.bel⟩
    ·rw [HGY.out]; show _ = Ending.returned (.tuple #[.slice QZ 0 0, .float .f32 0, .bool (posC (sqrC L Y B.pl))]); rw [HP0.out]
    ·rw [HGY.out]; show RV base w2 _ (bif posC (sqrC L Y B.pl) then Y else []); rw [HP0.out]; exact RV.nil _ _
    ·rw [HGY.out, HECY.out.1, HECY.out.2.1 HP0.out]; exact FV_0v
   ·have HP0 := QY hp
    clear hp
    go_wp2
    refine bodyPost_ret (v := .tuple #[.slice ya B.pl yc, .float .f32 r, .bool true]) (by simp [results, Tryz.results83, go_sem]) rfl ?_
    refine ⟨⟨.slice ya B.pl yc, r, ?_, ?_, ?_⟩, BX2.out.bel⟩
    ·rw [HGY.out]; show _ = Ending.returned (.tuple #[.slice ya B.pl yc, .float .f32 r, .bool (posC (sqrC L Y B.pl))]); rw [HP0.out]
    ·rw [HGY.out]; show RV base w2 _ (bif posC (sqrC L Y B.pl) then Y else []); rw [HP0.out]; exact HV2.out
    ·rw [HGY.out, HECY.out.1]; exact HR.out
set_option maxHeartbeats 4000000 in
theorem impl_mode_no (B : Bd) (ha la : Option Addr) (hl hc ln lc x s : Nat) (fa : Option Addr) (fl fc : Nat) (v fn : Value) (z : Int) (w : World) (hN : inR z = QQ) :
  Calls Tryz.prog 83 #[StV B ha la hl hc ln lc x s fa fl fc, v, .int .i64 z, fn] w fun e w' => e = .returned (.tuple #[.slice QZ 0 0, .float .f32 0, .bool QQ]) ∧ Below w.heap.size w w' := by
 have us := Tryz.underlying109
 have BX := QY ((Bx.nil w).box (vs := StL B ha la hl hc ln lc x s fa fl fc) (t := 109))
 have JA := QY (fun w1 => impl_areRounds z w1)
 rw [hN] at JA
 clear hN
 go_enter Tryz.func83, Tryz.ntmps83
 go_wp2_with fail
 have BX1 := QY BX.out
 change Calls _ _ _ (w.alloc (.cells (StL B ha la hl hc ln lc x s fa fl fc).toArray 109)) _
 generalize (w.alloc (.cells (StL B ha la hl hc ln lc x s fa fl fc).toArray 109)) = W at *
 refine (JA.out W).mono ?_
 rintro e w1 ⟨rfl, hw⟩
 rw [hw]
 clear hw
 go_wp2
 refine bodyPost_ret (v := .tuple #[.slice QZ 0 0, .float .f32 0, .bool QQ]) (by simp [results, Tryz.results83, go_sem]) rfl ?_
 exact ⟨rfl, BX1.out.bel⟩
theorem RV.upB {base : Nat} {w w' : World} {v : Value} {X : List C3} (h : RV base w v X) (hB : Below w.heap.size w w') : RV base w' v X := by
 obtain ⟨a, cap, e, h1, h2⟩ := h
 exact ⟨a, cap, e, h1.below hB, h2.imp id fun ⟨b, e, ho⟩ => ⟨b, e, ⟨ho.1, Nat.lt_of_lt_of_le ho.2.1 hB.size, (ho.below hB).2.2⟩⟩⟩
def mdB (L : List Int) (n : Nat) (z : Int) (G : Option (List C3)) : Bool := inR z && enB L n G
def mdL (L : List Int) (n : Nat) (z : Int) (G : Option (List C3)) : List C3 := bif inR z then enL L n G else []
def mdC (c : Bc) (L : List Int) (d : Option Nat) (n : Nat) (z : Int) (G : Option (List C3)) : Option Nat := bif inR z then enC c L d n G else some 0
theorem impl_modeZ (B : Bd) (c : Bc) (ha la : Option Addr) (hl hc lc : Nat) (L : List Int) (a : Option Addr) (cap : Nat) (ys : List C3) (x s : Nat) (d : Option Nat) (fa : Option Addr) (fl fc : Nat) (z : Int) (base : Nat) (w : World) (hP : IsVs w B.pa B.pl B.pc c.cs) (hE : EnS w la (ens c)) (hb : bodyB c = true) (hpl : c.cs.length = B.pl) (hL : IsIs w ha hl hc L) (hr : riseB B.pl L = true) (hv : RV base w (.slice a B.pl cap) ys) (hyl : ys.length = B.pl) (hbase : base ≤ w.heap.size) (hx : FV .f32 x d) :
  Calls Tryz.prog 83 #[StV B ha la hl hc (ens c).length lc x s fa fl fc, .slice a B.pl cap, .int .i64 z, fTim] w fun e w' => (∃ v r, e = .returned (.tuple #[v, .float .f32 r, .bool (mdB L B.pl z (grI c L d B.pl z.toNat ys))]) ∧ RV base w' v (mdL L B.pl z (grI c L d B.pl z.toNat ys)) ∧ FV .f32 r (mdC c L d B.pl z (grI c L d B.pl z.toNat ys))) ∧ Below w.heap.size w w' := by
 unfold mdB mdL mdC
 cases hz : inR z
 ·exact (impl_mode_no B ha la hl hc _ lc x s fa fl fc _ _ z w hz).mono fun e w' ⟨he, hB⟩ => ⟨⟨.slice QZ 0 0, 0, he, RV.nil _ _, FV_0v⟩, hB⟩
 ·obtain ⟨N, rfl, hN⟩ := inR_parts hz
  exact impl_mode B c ha la hl hc lc L a cap ys x s d fa fl fc N base w hP hE hb hpl hL hr hv hyl hbase hx hz
theorem gr_md (c : Bc) (L : List Int) (ys : List C3) (d : Option Nat) (n x : Nat) (z : Int) (h : canB c L n x = true) : grB c L ys d n x z = mdB L n z (grI c L d n z.toNat (stillF ys L)) ∧ grL c L ys d n x z = mdL L n z (grI c L d n z.toNat (stillF ys L)) ∧ grC c L ys d n x z = mdC c L d n z (grI c L d n z.toNat (stillF ys L)) := by
 unfold grB grL grC grOk grG mdB mdL mdC inR
 rw [h]
 exact ⟨rfl, rfl, rfl⟩
theorem gr_no (c : Bc) (L : List Int) (ys : List C3) (d : Option Nat) (n x : Nat) (z : Int) (h : canB c L n x = QQ) : grB c L ys d n x z = QQ ∧ grL c L ys d n x z = [] ∧ grC c L ys d n x z = some 0 := by
 unfold grB grL grC grOk
 rw [h]
 exact ⟨rfl, rfl, rfl⟩
set_option maxHeartbeats 8000000 in
theorem impl_GreatMode (B : Bd) (c : Bc) (a1 : Option Addr) (n1 c1 : Nat) (L1 : List Int) (a2 : Option Addr) (n2 c2 : Nat) (y2 : List C3) (x : Nat) (d : Option Nat) (z : Int) (w : World) (h : IsB w B c) (h1 : IsIs w a1 n1 c1 L1) (h2 : IsVs w a2 n2 c2 y2) (h3 : FV .f32 x d) (g3 : x < 4294967296) (h4 : (Lit.int .i64 z).wf = true) :
  Calls Tryz.prog 33 #[B.v, .slice a1 n1 c1, .slice a2 n2 c2, .float .f32 x, .int .i64 z] w fun e w' => (∃ v r, e = .returned (.tuple #[v, .float .f32 r, .bool (grB c L1 y2 d n2 x z)]) ∧ RV w.heap.size w' v (grL c L1 y2 d n2 x z) ∧ FV .f32 r (grC c L1 y2 d n2 x z)) ∧ Below w.heap.size w w' := by
 have uib := Tryz.underlying44
 have us := Tryz.underlying109
 have uh := Tryz.underlying107
 have uv := Tryz.underlying36
 have bx1 := (Bx.nil w).box (vs := B.l) (t := 44)
 have bx2 := bx1.box (vs := [.slice a2 n2 c2]) (t := 36)
 simp at bx2
 have BX := QY bx2
 have hpl : c.cs.length = B.pl := h.1.1
 have H := QY h
 have HL := QY h1
 have HV := QY h2
 have JS := QY (fun la lc w1 hb hi hr => stiff_all B c a1 n1 c1 L1 x la lc [(a2, n2, c2)] w1 hb hi g3 hr (by simp))
 rw [stf_can] at JS
 cases hc : canB c L1 n2 x
 ·rw [hc] at JS
  obtain ⟨e1, e2, e3⟩ := gr_no c L1 y2 d n2 x z hc
  rw [e1, e2, e3]
  clear h h1 h2 h3 bx1 bx2 hpl hc e1 e2 e3
  go_enter Tryz.func33, Tryz.ntmps33
  go_wp2_with fail
  generalize hW : (w.alloc (BoxB B 44)).alloc (.cells #[.slice a2 n2 c2] 36) = W
  have BX1 : Hid (Bx w [(w.heap.size + 1, [.slice a2 n2 c2]), (w.heap.size, B.l)] W) := QY (hW ▸ BX.out)
  clear BX hW
  have HRW : Hid (RowsS W (some ⟨w.heap.size + 1, 0, QZ⟩) [(a2, n2, c2)]) := QY (fun j hj => by
   obtain rfl : j = 0 := by simpa using hj
   exact ⟨_, rfl, (BX1.out.mem (.head _)) 0 _ rfl⟩)
  refine (JS.out (some ⟨w.heap.size + 1, 0, QZ⟩) _ W (H.out.below BX1.out.bel) (HL.out.below BX1.out.bel) HRW.out).mono ?_
  rintro e w1 ⟨⟨hc, _⟩ | ⟨_, rfl⟩, hB1⟩
  ·cases hc
  have BX2 := QY (BX1.out.call hB1)
  have BX3 := QY (BX2.out.box (vs := Z14) (t := 109))
  clear hB1 JS HRW BX1
  go_wp2
  refine bodyPost_ret (v := .tuple #[.slice QZ 0 0, .float .f32 0, .bool QQ]) (by simp [results, Tryz.results33, go_sem]) rfl ?_
  exact ⟨⟨_, 0, rfl, RV.nil _ _, FV_0v⟩, BX3.out.bel⟩
 ·rw [hc] at JS
  obtain ⟨q1, q2, q3, q4⟩ := can_parts hc
  have hn : n2 = B.pl := q4.trans hpl
  subst hn
  obtain ⟨e1, e2, e3⟩ := gr_md c L1 y2 d B.pl x z hc
  rw [e1, e2, e3]
  have HLT : Hid ((stillF y2 L1).length = B.pl) := QY (by rw [stillF_len]; exact h2.1)
  have JF := QY (fun la lc w1 k1 k2 => impl_free B a1 la n1 c1 (ens c).length lc L1 a2 B.pl c2 y2 w1 k1 k2 (hpl ▸ q2) (by have := body64 q1; omega))
  have JM := QY (fun la lc va vc base w1 k1 k2 k3 k4 k5 => impl_modeZ B c a1 la n1 c1 lc L1 va vc (stillF y2 L1) x 0 d QZ 0 0 z base w1 k1 k2 q1 hpl k3 (hpl ▸ q2) k4 HLT.out k5 h3)
  clear h h1 h2 h3 bx1 bx2 hpl hc e1 e2 e3 q1 q2 q3 q4
  generalize stillF y2 L1 = Y0 at *
  generalize mdB L1 B.pl z (grI c L1 d B.pl z.toNat Y0) = RB at *
  generalize mdL L1 B.pl z (grI c L1 d B.pl z.toNat Y0) = RL at *
  generalize mdC c L1 d B.pl z (grI c L1 d B.pl z.toNat Y0) = RC at *
  generalize ens c = es at *
  generalize hnn : es.length = nn at *
  clear hnn
  go_enter Tryz.func33, Tryz.ntmps33
  go_wp2_with fail
  generalize hW : (w.alloc (BoxB B 44)).alloc (.cells #[.slice a2 B.pl c2] 36) = W
  have BX1 : Hid (Bx w [(w.heap.size + 1, [.slice a2 B.pl c2]), (w.heap.size, B.l)] W) := QY (hW ▸ BX.out)
  clear BX hW
  have HRW : Hid (RowsS W (some ⟨w.heap.size + 1, 0, QZ⟩) [(a2, B.pl, c2)]) := QY (fun j hj => by
   obtain rfl : j = 0 := by simpa using hj
   exact ⟨_, rfl, (BX1.out.mem (.head _)) 0 _ rfl⟩)
  refine (JS.out (some ⟨w.heap.size + 1, 0, QZ⟩) _ W (H.out.below BX1.out.bel) (HL.out.below BX1.out.bel) HRW.out).mono ?_
  rintro e w1 ⟨⟨_, la, lc, rfl, hE⟩ | ⟨hc, _⟩, hB1⟩
  case inr => cases hc
  have BX2 := QY (BX1.out.call hB1)
  have BX3 := QY (BX2.out.box (vs := StL B a1 la n1 c1 nn lc x 0 QZ 0 0) (t := 109))
  have hX : Below w1.heap.size w1 (w1.alloc (.cells (StL B a1 la n1 c1 nn lc x 0 QZ 0 0).toArray 109)) := (Below.refl _ _).alloc (QX _) _
  have HE := QY (hE.ens.below hX)
  clear hE hB1 hX JS HRW BX1 BX2
  go_wp2_with fail
  have BX4 := QY BX3.out
  try change Code.wp _ _ _ _ (w1.alloc (.cells (StL B a1 la n1 c1 nn lc x 0 QZ 0 0).toArray 109)) _
  generalize hW2 : (w1.alloc (.cells #[.slice B.pa B.pl B.pc, .slice B.ta B.tl B.tc, .slice B.sa B.sl B.sc, .float .f32 B.film, .float .f32 B.bend, .slice B.wa B.wl B.wc, .float .f32 B.x, .float .f32 B.y, .float .f32 B.z, .slice a1 n1 c1, .slice la nn lc, .float .f32 x, .float .f32 0, .slice QZ 0 0] 109)) = W2 at *
  replace BX4 : Hid (Bx w [(w1.heap.size, StL B a1 la n1 c1 nn lc x 0 QZ 0 0), (w.heap.size + 1, [.slice a2 B.pl c2]), (w.heap.size, B.l)] W2) := QY (hW2 ▸ BX4.out)
  replace HE : Hid (EnS W2 la es) := QY (hW2 ▸ HE.out)
  generalize w1.heap.size = S at *
  clear BX3 hW2
  refine Reg.wp_region_mix (C := fun w' => Below W2.heap.size W2 w') (G := fun w1 w2 => Below w1.heap.size w1 w2) (R := fun i v w' => match i with
   | 0 => v = StV B a1 la n1 c1 nn lc x 0 QZ 0 0
   | 1 => v = .pointer (some ⟨S, 0, QZ⟩)
   | 2 => v = HbV B a1 la n1 c1 nn lc
   | 3 => v = .slice a2 B.pl c2
   | 4 => ∃ va vc, v = .slice va B.pl vc ∧ RV w.heap.size w' (.slice va B.pl vc) Y0
   | 5 => v = .int .i64 z
   | 6 => ∃ v0 r, v = .tuple #[v0, .float .f32 r, .bool RB] ∧ RV w.heap.size w' v0 RL ∧ FV .f32 r RC
   | 7 => RV w.heap.size w' v RL
   | 8 => ∃ r, v = .float .f32 r ∧ FV .f32 r RC
   | 9 => v = .bool RB
   | 10 => RV w.heap.size w' v RL
   | 11 => ∃ r, v = .float .f32 r ∧ FV .f32 r RC
   | 12 => v = .bool RB
   | _ => True) (T := fun _ _ _ => True) [QQ, QQ, QQ, QQ, QQ, QQ, QQ, QQ, QQ, QQ, true, true, true, QQ, QQ, QQ, QQ, QQ, QQ, QQ, QQ, QQ, QQ, QQ, QQ, QQ, true, true, true, true, true, true, true, true, true, true]
   (by kernel_rfl) (by kernel_rfl) (by kernel_rfl) ?_ (below_drewN (Below.refl _ _) 1) ?_ ?_
  ·intro j v wa wb _ hG hR
   match j with
   | 0 => exact hR
   | 1 => exact hR
   | 2 => exact hR
   | 3 => exact hR
   | 4 => obtain ⟨va, vc, e, h⟩ := hR; exact ⟨va, vc, e, h.upB hG⟩
   | 5 => exact hR
   | 6 => obtain ⟨v0, r, e, h, hf⟩ := hR; exact ⟨v0, r, e, h.upB hG, hf⟩
   | 7 => exact RV.upB hR hG
   | 8 => exact hR
   | 9 => exact hR
   | 10 => exact RV.upB hR hG
   | 11 => exact hR
   | 12 => exact hR
   | _ + 13 => trivial
  ·refine ⟨Qq ?_, Qq ?_, Qq ?_, Qq ?_, Qq ?_, Qq ?_, Qq ?_, Qq ?_, Qq ?_, Qq ?_, Qq ?_, Qq ?_, Qq ?_, trivial⟩
   ·rintro av wq HC hx hd K hK
    replace HC := QY HC
    have t13 : av.tmps[13]?.getD QK = .pointer (some ⟨S, 0, QZ⟩) := QW (hx 13 (by kernel_rfl))
    obtain ⟨y0, y1, y2, y3, y4, y5, y6, y7, y8, y9, y10, y11, y12, y13⟩ := at14 ((BX4.out.call HC.out).mem (.head _)) rfl
    go_simp
    exact hK _ _ (fun _ => rfl) nofun HC.out (Below.refl _ _)
   ·rintro av wq HC hx hd K hK
    replace HC := QY HC
    have t13 : av.tmps[13]?.getD QK = .pointer (some ⟨S, 0, QZ⟩) := QW (hx 13 (by kernel_rfl))
    go_simp
    exact hK _ _ (fun _ => rfl) nofun HC.out (Below.refl _ _)
   ·rintro av wq HC hx hd K hK
    replace HC := QY HC
    have t27 : av.tmps[27]?.getD QK = .pointer (some ⟨S, 0, QZ⟩) := QW (hd 1 (by kernel_rfl) 27 rfl)
    obtain ⟨y0, y1, y2, y3, y4, y5, y6, y7, y8, y9, y10⟩ := at11 ((BX4.out.call HC.out).mem (.head _)) rfl
    go_simp
    exact hK _ _ (fun _ => rfl) nofun HC.out (Below.refl _ _)
   ·rintro av wq HC hx hd K hK
    replace HC := QY HC
    have t2 : av.tmps[2]?.getD QK = .slice a2 B.pl c2 := QW (hx 2 (by kernel_rfl))
    go_simp
    exact hK _ _ (fun _ => rfl) nofun HC.out (Below.refl _ _)
   ·rintro av wq HC hx hd K hK
    replace HC := QY HC
    have t28 : av.tmps[28]?.getD QK = HbV B a1 la n1 c1 nn lc := QW (hd 2 (by kernel_rfl) 28 rfl)
    have t29 : av.tmps[29]?.getD QK = .slice a2 B.pl c2 := QW (hd 3 (by kernel_rfl) 29 rfl)
    go_simp
    refine (JF.out la lc _ (HV.out.below (BX4.out.call HC.out).bel) (HL.out.below (BX4.out.call HC.out).bel)).mono ?_
    rintro en w9 ⟨v, rfl, hv9, hB9⟩
    obtain ⟨va, vc, e9, hvs, hls⟩ := hv9
    rw [HLT.out] at e9 hvs hls
    subst e9
    exact hK _ _ (fun _ => ⟨va, vc, rfl, RV.lowF (⟨va, vc, by rw [HLT.out], by rw [HLT.out]; exact hvs, by rw [HLT.out]; exact hls⟩ : RV _ w9 (.slice va B.pl vc) Y0) (BX4.out.call HC.out).bel.size⟩) nofun (HC.out.trans (hB9.mono HC.out.size)) hB9
   ·rintro av wq HC hx hd K hK
    replace HC := QY HC
    have t4 : av.tmps[4]?.getD QK = .int .i64 z := QW (hx 4 (by kernel_rfl))
    go_simp
    exact hK _ _ (fun _ => rfl) nofun HC.out (Below.refl _ _)
   ·rintro av wq HC hx hd K hK
    replace HC := QY HC
    have t26 : av.tmps[26]?.getD QK = StV B a1 la n1 c1 nn lc x 0 QZ 0 0 := QW (hd 0 (by kernel_rfl) 26 rfl)
    have t31 : av.tmps[31]?.getD QK = .int .i64 z := QW (hd 5 (by kernel_rfl) 31 rfl)
    obtain ⟨va, vc, g30, hv0⟩ := hd 4 (by kernel_rfl) 30 rfl
    have t30 := QW g30
    have HV0 := QY hv0
    clear g30 hv0
    go_simp
    refine (JM.out la lc va vc w.heap.size _ (H.out.below (BX4.out.call HC.out).bel).1 (HE.out.below HC.out) (HL.out.below (BX4.out.call HC.out).bel) HV0.out (BX4.out.call HC.out).bel.size).mono ?_
    rintro en w9 ⟨⟨v0, r, rfl, hv9, hr9⟩, hB9⟩
    exact hK _ _ (fun _ => ⟨v0, r, rfl, hv9, hr9⟩) nofun (HC.out.trans (hB9.mono HC.out.size)) hB9
   ·rintro av wq HC hx hd K hK
    replace HC := QY HC
    obtain ⟨v0, r, g32, hv0, hr0⟩ := hd 6 (by kernel_rfl) 32 rfl
    have t32 := QW g32
    have HV0 := QY hv0
    have HR0 := QY hr0
    clear g32 hv0 hr0
    go_simp
    exact hK _ _ (fun _ => HV0.out) nofun HC.out (Below.refl _ _)
   ·rintro av wq HC hx hd K hK
    replace HC := QY HC
    obtain ⟨v0, r, g32, hv0, hr0⟩ := hd 6 (by kernel_rfl) 32 rfl
    have t32 := QW g32
    have HV0 := QY hv0
    have HR0 := QY hr0
    clear g32 hv0 hr0
    go_simp
    exact hK _ _ (fun _ => ⟨r, rfl, HR0.out⟩) nofun HC.out (Below.refl _ _)
   ·rintro av wq HC hx hd K hK
    replace HC := QY HC
    obtain ⟨v0, r, g32, hv0, hr0⟩ := hd 6 (by kernel_rfl) 32 rfl
    have t32 := QW g32
    have HV0 := QY hv0
    have HR0 := QY hr0
    clear g32 hv0 hr0
    go_simp
    exact hK _ _ (fun _ => rfl) nofun HC.out (Below.refl _ _)
   ·rintro av wq HC hx hd K hK
    replace HC := QY HC
    have g := hd 7 (by kernel_rfl) 33 rfl
    obtain ⟨u9, hu9⟩ : ∃ u9, u9 = av.eval (.tmp 33) := ⟨_, rfl⟩
    have t33 : av.tmps[33]?.getD QK = u9 := QW hu9.symm
    have G : Hid (RV w.heap.size wq u9 RL) := QY (by rw [hu9]; exact g)
    clear g hu9
    go_simp
    exact hK _ _ (fun _ => G.out) nofun HC.out (Below.refl _ _)
   ·rintro av wq HC hx hd K hK
    replace HC := QY HC
    obtain ⟨r, g34, hr0⟩ := hd 8 (by kernel_rfl) 34 rfl
    have t34 := QW g34
    have HR0 := QY hr0
    clear g34 hr0
    go_simp
    exact hK _ _ (fun _ => ⟨r, rfl, HR0.out⟩) nofun HC.out (Below.refl _ _)
   ·rintro av wq HC hx hd K hK
    replace HC := QY HC
    have t35 : av.tmps[35]?.getD QK = .bool RB := QW (hd 9 (by kernel_rfl) 35 rfl)
    go_simp
    exact hK _ _ (fun _ => rfl) nofun HC.out (Below.refl _ _)
  rintro f wz hC hd hT
  have g10 := hd 10 10 rfl
  obtain ⟨r, e11, hr⟩ := hd 11 11 rfl
  have e12 : f 12 = .bool RB := hd 12 12 rfl
  simp only [Reg.mixL, Nat.zero_add, Nat.reduceAdd, e11, e12]
  generalize f 10 = v at *
  have HG := QY g10
  have HR := QY hr
  have BX5 := QY (BX4.out.call hC)
  clear g10 hr hC hd hT e11 e12
  go_wp2
  refine bodyPost_ret (v := .tuple #[v, .float .f32 r, .bool RB]) (by simp [results, Tryz.results33, go_sem]) rfl ?_
  exact ⟨⟨v, r, rfl, HG.out, HR.out⟩, BX5.out.bel⟩
theorem innL_fv (xs ys : List C3) : ∀ n, ∃ q, FV .f32 q (innL xs ys n)
 | 0 => ⟨0, FV_0v⟩
 | n + 1 => by
  cases hc : innL xs ys (n + 1) with
  | none => exact ⟨2143289344, by decide, by decide⟩
  | some r =>
   unfold innL at hc
   generalize innL xs ys n = a at hc
   generalize innV (xs.getD n c0) (ys.getD n c0) = b at hc
   cases a with
   | none => cases hc
   | some x =>
    cases b with
    | none => cases hc
    | some y =>
     have h := floatBits_ok (op := .add) (k := .f32) (x := x) (y := y) (r := r) hc
     exact ⟨r, h.2.2.2, cls_num h.2.2.1⟩
theorem norm_free' {L : List Int} {Y : List C3} {n : Nat} (h : FreeL L Y) (hn : Y.length = n) (hb : nmB Y n = true) : FreeL L (nmT Y n) := by
 obtain ⟨q, hq⟩ := innL_fv Y Y n
 exact norm_free h hn hq hb
theorem tim_free (c : Bc) (L : List Int) (Y : List C3) (d : Option Nat) : FreeL L (timT c L Y d) := by unfold timT; exact still_free _ _
theorem tim_of_free {c : Bc} {L : List Int} {Y : List C3} (d : Option Nat) (h : FreeL L Y) : stillF (mkG (timF c Y d) c.cs.length c.cs.length) L = timT c L Y d := by
 unfold timT; rw [still_fix L Y h]
set_option maxHeartbeats 4000000 in
theorem l09End (pb : Nat) (B : Bd) (c : Bc) (ha : Option Addr) (hl hc : Nat) (L : List Int) (a : Option Addr) (cap : Nat) (ys : List C3) (x : Nat) (d : Option Nat) (w : World) (A : At w pb B.l) (h : IsB w B c) (hb : bodyB c = true) (hL : IsIs w ha hl hc L) (hr : riseB B.pl L = true) (hv : IsVs w a B.pl cap ys) (hx : FV .f32 x d) :
  Calls Tryz.prog 82 #[.pointer (some ⟨pb, 0, QZ⟩), .slice ha hl hc, .slice a B.pl cap, .float .f32 x] w fun e w' => (posC (sqrC L ys B.pl) = true → ∃ r, e = .returned (.tuple #[.slice a B.pl cap, .float .f32 r, .bool true]) ∧ FV .f32 r (rayC c L ys d B.pl)) ∧ (posC (sqrC L ys B.pl) = QQ → e = .returned (.tuple #[.slice QZ 0 0, .float .f32 0, .bool QQ])) ∧ Below w.heap.size w w' := by
 have u := Tryz.underlying27
 have hpl : c.cs.length = B.pl := h.1.1
 have JF := QY (l09Freed a B.pl cap ys ha hl hc L w hv hL hr (by have := body64 hb; omega))
 have JR := QY (fun va vc w1 (hB : Below w.heap.size w w1) k => l09Rayleigh pb B c ha hl hc L va vc ys x d w1 (A.below hB) (h.below hB) hb (hL.below hB) hr k hx)
 have HLT : Hid ((stillF ys L).length = B.pl) := QY (by rw [stillF_len]; exact hv.1)
 clear A h hb hL hr hv hx hpl
 generalize rayC c L ys d B.pl = RC at *
 generalize stillF ys L = YF at *
 cases hp : posC (sqrC L ys B.pl)
 all_goals
  rw [hp] at JR
  have HPP : True := trivial
  clear hp
  go_enter Tryz.func82, Tryz.ntmps82
  go_wp2_with fail
  refine JF.out.mono ?_
  rintro e w1 ⟨v, rfl, ⟨va, vc, rfl, hvs, _⟩, hB1⟩
  rw [HLT.out] at hvs ⊢
  have HB1 := QY hB1
  have HVS := QY hvs
  clear hB1 hvs
  go_wp2_with fail
  refine (JR.out va vc w1 HB1.out HVS.out).mono ?_
  rintro e w2 ⟨⟨r, rfl, hr⟩, hB2⟩
  have HB2 := QY (HB1.out.trans (hB2.mono HB1.out.size))
  have HR := QY hr
  clear hB2 hr
  go_wp2
  go_ret3
 ·refine ⟨fun h => absurd h (by decide), fun _ => ?_, HB2.out⟩
  rfl
 ·refine ⟨fun _ => ?_, fun h => absurd h (by decide), HB2.out⟩
  exact ⟨r, rfl, HR.out⟩
set_option maxHeartbeats 8000000 in
theorem spec_GreatMode (B : Bd) (c : Bc) (a1 : Option Addr) (n1 c1 : Nat) (L1 : List Int) (a2 : Option Addr) (n2 c2 : Nat) (y2 : List C3) (x : Nat) (d : Option Nat) (z : Int) (w : World) (h : IsB w B c) (h1 : IsIs w a1 n1 c1 L1) (h2 : IsVs w a2 n2 c2 y2) (h3 : FV .f32 x d) (g3 : x < 4294967296) (h4 : (Lit.int .i64 z).wf = true) :
  Calls Tryz.prog 32 #[B.v, .slice a1 n1 c1, .slice a2 n2 c2, .float .f32 x, .int .i64 z] w fun e w' => (∃ v r, e = .returned (.tuple #[v, .float .f32 r, .bool (grB c L1 y2 d n2 x z)]) ∧ RV w.heap.size w' v (grL c L1 y2 d n2 x z) ∧ FV .f32 r (grC c L1 y2 d n2 x z)) ∧ Below w.heap.size w w' := by
 have uib := Tryz.underlying44
 have BX : Hid (Bx w [(w.heap.size, B.l)] (w.alloc (BoxB B 44))) := QY ((Bx.nil w).box (vs := B.l) (t := 44))
 have hpl : c.cs.length = B.pl := h.1.1
 have hm : n2 ≤ 9223372036854775807 := by have k1 := h2.2.1; have k2 := h2.2.2.1; unfold maxLen at k2; omega
 have H := QY h
 have HL := QY h1
 have HV := QY h2
 have JC := QY (l09Can w.heap.size B c a1 n1 c1 L1 a2 n2 c2 x (w.alloc (BoxB B 44)) (BX.out.mem (.head _)) (h.below BX.out.bel) (h1.below BX.out.bel) g3 hm)
 have JA : Hid (∀ w1, Calls Tryz.prog 80 #[.int .i64 z, .int .i64 0, .int .i64 40] w1 fun e w' => e = .returned (.bool (inR z)) ∧ w' = w1) := QY (fun w1 => l00In' z 0 40 w1)
 cases hc : canB c L1 n2 x
 ·rw [hc] at JC
  obtain ⟨e1, e2, e3⟩ := gr_no c L1 y2 d n2 x z hc
  rw [e1, e2, e3]
  clear h h1 h2 h3 hpl hc e1 e2 e3
  go_enter Tryz.func32, Tryz.ntmps32
  go_wp2_with fail
  change Calls _ _ _ (w.alloc (BoxB B 44)) _
  generalize (w.alloc (BoxB B 44)) = W at *
  refine JC.out.mono ?_
  rintro e w1 ⟨rfl, n, hw⟩
  have BX1 : Hid (Bx w [(w.heap.size, B.l)] w1) := QY (by rw [hw]; exact BX.out.drewN n)
  clear hw BX JC
  go_wp2
  refine bodyPost_ret (v := .tuple #[.slice QZ 0 0, .float .f32 0, .bool QQ]) (by simp [results, Tryz.results32, go_sem]) rfl ?_
  exact ⟨⟨_, 0, rfl, RV.nil _ _, FV_0v⟩, BX1.out.bel⟩
 ·rw [hc] at JC
  obtain ⟨e1, e2, e3⟩ := gr_md c L1 y2 d n2 x z hc
  rw [e1, e2, e3]
  unfold mdB mdL mdC
  cases hz : inR z
  ·rw [hz] at JA
   clear h h1 h2 h3 hpl hc e1 e2 e3 hz
   go_enter Tryz.func32, Tryz.ntmps32
   go_wp2_with fail
   change Calls _ _ _ (w.alloc (BoxB B 44)) _
   generalize (w.alloc (BoxB B 44)) = W at *
   refine JC.out.mono ?_
   rintro e w1 ⟨rfl, n, hw⟩
   have BX1 : Hid (Bx w [(w.heap.size, B.l)] w1) := QY (by rw [hw]; exact BX.out.drewN n)
   clear hw BX JC
   go_wp2_with fail
   refine (JA.out _).mono ?_
   rintro e w2 ⟨rfl, hw⟩
   rw [hw]
   clear hw
   go_wp2
   refine bodyPost_ret (v := .tuple #[.slice QZ 0 0, .float .f32 0, .bool QQ]) (by simp [results, Tryz.results32, go_sem]) rfl ?_
   exact ⟨⟨_, 0, rfl, RV.nil _ _, FV_0v⟩, BX1.out.bel⟩
  ·rw [hz] at JA
   obtain ⟨q1, q2, q3, q4⟩ := can_parts hc
   have hn : n2 = B.pl := q4.trans hpl
   subst hn
   obtain ⟨N, rfl, hN⟩ := inR_parts hz
   rw [Int.toNat_natCast]
   have JF := QY (fun w1 k1 k2 => l09Freed a2 B.pl c2 y2 a1 n1 c1 L1 w1 k1 k2 (hpl ▸ q2) (by have := body64 q1; omega))
   have JT := QY (fun va vc Y w1 k1 k2 k3 k4 => l09Times w.heap.size B c a1 n1 c1 L1 va vc Y x d w1 k1 k2 q1 k3 (hpl ▸ q2) k4 h3)
   have JE := QY (fun va vc Y w1 k1 k2 k3 k4 => l09End w.heap.size B c a1 n1 c1 L1 va vc Y x d w1 k1 k2 q1 k3 (hpl ▸ q2) k4 h3)
   have HTE : Hid (∀ Y, FreeL L1 Y → stillF (mkG (timF c Y d) B.pl B.pl) L1 = timT c L1 Y d) := QY (fun Y hY => by have := tim_of_free (c := c) d hY; rwa [hpl] at this)
   have HTL : Hid (∀ Y, (timT c L1 Y d).length = B.pl) := QY (fun Y => by rw [timT_len, hpl])
   have HTF : Hid (∀ Y, FreeL L1 (timT c L1 Y d)) := QY (fun Y => tim_free c L1 Y d)
   have HLT : Hid ((stillF y2 L1).length = B.pl) := QY (by rw [stillF_len]; exact h2.1)
   have HF0 := QY (still_free L1 y2)
   have HB64 : Hid (B.pl ≤ 64) := QY (by have := body64 q1; omega)
   have HGS : Hid (∀ k Y, grI c L1 d B.pl (k + 1) Y = bif nmB (timT c L1 Y d) B.pl then grI c L1 d B.pl k (nmT (timT c L1 Y d) B.pl) else QZ) := QY (fun k Y => rfl)
   have HG0 : Hid (∀ Y, grI c L1 d B.pl 0 Y = some Y) := QY (fun Y => rfl)
   have HEC : Hid (∀ Y, enC c L1 d B.pl (some Y) = rayC c L1 Y d B.pl ∧ (posC (sqrC L1 Y B.pl) = QQ → rayC c L1 Y d B.pl = some 0) ∧ enC c L1 d B.pl QZ = some 0) := QY (fun Y => ⟨rfl, enC_no, rfl⟩)
   clear h h1 h2 h3 hpl hc e1 e2 e3 hz q1 q2 q3 q4
   generalize stillF y2 L1 = Y0 at *
   generalize hGI : grI c L1 d B.pl = GI at *
   generalize enC c L1 d B.pl = EC at *
   clear hGI
   generalize hG : GI N Y0 = G at *
   have HG := QY hG
   clear hG
   simp only [Bool.true_and, cond_true]
   go_enter Tryz.func32, Tryz.ntmps32
   go_wp2_with fail
   change Calls _ _ _ (w.alloc (BoxB B 44)) _
   generalize (w.alloc (BoxB B 44)) = W at *
   refine JC.out.mono ?_
   rintro e w1 ⟨rfl, n, hw⟩
   have BX1 : Hid (Bx w [(w.heap.size, B.l)] w1) := QY (by rw [hw]; exact BX.out.drewN n)
   clear hw BX JC
   go_wp2_with fail
   refine (JA.out _).mono ?_
   rintro e w2 ⟨rfl, hw⟩
   rw [hw]
   clear hw
   go_wp2_with fail
   refine (JF.out w1 (HV.out.below BX1.out.bel) (HL.out.below BX1.out.bel)).mono ?_
   rintro e w3 ⟨v0, rfl, hv0, hB3⟩
   have HV0 := QY (hv0.lowF (base' := w.heap.size) BX1.out.bel.size)
   have BX3 := QY (BX1.out.call hB3)
   clear hv0 hB3 BX1
   go_wp2_with fail
   go_loopw [4, 13] (fun i v w' => ∃ j : Nat, j ≤ N ∧ i = .int .i64 ((N : Int) - (j : Int)) ∧ Aside (∃ Y : List C3, RV w.heap.size w' v Y ∧ Y.length = B.pl ∧ FreeL L1 Y ∧ GI (N - j) Y = G ∧ Below w3.heap.size w3 w')) (fun i _ _ => (intOf i).toNat)
   case atStart => exact ⟨0, Nat.zero_le _, by simp, Y0, HV0.out, HLT.out, HF0.out, HG.out, Below.refl _ _⟩
   case round =>
    obtain ⟨j, hj, rfl, hA⟩ := hrel
    obtain ⟨Y, ⟨ya, yc, rfl, hys, hyl⟩, hYL, hYF, hYG, hBW⟩ := hA.out
    rw [hYL] at hys hyl ⊢
    have BXr := QY (BX3.out.call hBW)
    have HBW := QY hBW
    have YS := QY (QJ hys hyl)
    have YG := QY hYG
    have YL := QY hYL
    have YF := QY hYF
    clear hA hys hyl hYG hBW hYL hYF HV0
    generalize hzz : (N : Int) - (j : Int) = zz at *
    by_cases hlt : j < N
    ·have hk1 : (0 : Int) < zz := by omega
     have HST : Hid (N - j = (N - (j + 1)) + 1) := QY (by omega)
     have HLT2 := QY (QJ hlt hzz)
     have hw1 : wrap64 (zz - 1) = zz - 1 := by first | exact wrap64_id (by omega) (by omega) | (unfold wrap64; omega)
     clear hzz
     go_wp2_with fail
     refine (JT.out ya yc Y wr (BXr.out.mem (.head _)) (H.out.below BXr.out.bel) (HL.out.below BXr.out.bel) YS.out.1).mono ?_
     rintro e w4 ⟨v4, rfl, hv4, hB4⟩
     rw [HTE.out Y YF.out] at hv4
     have HSTP := QY (HGS.out (N - (j + 1)) Y)
     have TL := QY (HTL.out Y)
     have TF := QY (HTF.out Y)
     generalize timT c L1 Y d = T at *
     obtain ⟨ta, tc, rfl, hts, _⟩ := hv4
     rw [TL.out] at hts ⊢
     have HT2 := QY hts
     have HB2 := QY (HBW.out.trans (hB4.mono HBW.out.size))
     have BX4 := QY (BXr.out.call hB4)
     clear hB4 hts
     go_wp2_with fail
     refine (l09Norm ta B.pl tc T w4 HT2.out (by have := HB64.out; omega)).mono ?_
     rintro e w5 ⟨⟨v5, rfl, hv5⟩, hB5⟩
     have HB5 := QY (HB2.out.trans (hB5.mono HB2.out.size))
     have HV5 := QY (hv5.lowF (base' := w.heap.size) BX4.out.bel.size)
     have BX5 := QY (BX4.out.call hB5)
     clear hv5 hB5
     cases hnb : nmB T B.pl
     ·have hGn : G = QZ := by have k1 := YG.out; rw [HST.out, HSTP.out, hnb] at k1; exact k1.symm
      have HGN := QY hGn
      have HE0 := QY (HEC.out Y).2.2
      clear hnb hGn
      go_wp2
      refine bodyPost_ret (v := .tuple #[.slice QZ 0 0, .float .f32 0, .bool QQ]) (by simp [results, Tryz.results32, go_sem]) rfl ?_
      refine ⟨⟨.slice QZ 0 0, 0, ?_, ?_, ?_⟩, BX5.out.bel⟩
      ·rw [HGN.out]; rfl
      ·rw [HGN.out]; exact RV.nil _ _
      ·rw [HGN.out, HE0.out]; exact FV_0v
     ·have hNL : (nmT T B.pl).length = B.pl := by unfold nmT; rw [hnb, cond_true, mkN_len]
      have hGn : GI (N - (j + 1)) (nmT T B.pl) = G := by have k1 := YG.out; rw [HST.out, HSTP.out, hnb] at k1; exact k1
      have hNF : FreeL L1 (nmT T B.pl) := norm_free' TF.out TL.out hnb
      have HGN := QY (QJ hNL (QJ hNF hGn))
      clear hnb hNL hNF hGn
      have hll := HLT2.out.1
      have hlz := HLT2.out.2
      go_wp2
      go_roundw
      case rel => exact ⟨j + 1, by omega, by rw [show zz - 1 = (N : Int) - ((j + 1 : Nat) : Int) by omega], _, HV5.out, HGN.out.1, HGN.out.2.1, HGN.out.2.2, HB5.out⟩
      case measure => simp [intOf]; omega
    ·obtain rfl : j = N := by omega
     have hk1 : ¬ (0 : Int) < zz := by omega
     have hGY : G = some Y := by have k1 := YG.out; rw [Nat.sub_self, HG0.out] at k1; exact k1.symm
     have HGY := QY hGY
     clear hGY hzz
     go_wp2_with fail
     refine (JE.out ya yc Y wr (BXr.out.mem (.head _)) (H.out.below BXr.out.bel) (HL.out.below BXr.out.bel) YS.out.1).mono ?_
     rintro e w4 ⟨h1, h2, hB4⟩
     have BX4 := QY (BXr.out.call hB4)
     have HV4 : Hid (RV w.heap.size w4 (.slice ya B.pl yc) Y) := QY (RV.upB (⟨ya, yc, by rw [YL.out], by rw [YL.out]; exact YS.out.1, by rw [YL.out]; exact YS.out.2⟩ : RV w.heap.size wr (.slice ya B.pl yc) Y) hB4)
     have HECY := QY (HEC.out Y)
     clear hB4
     cases hp : posC (sqrC L1 Y B.pl)
     ·have he := h2 hp
      subst he
      have HP0 := QY hp
      clear hp h1 h2
      go_wp2
      refine bodyPost_ret (v := .tuple #[.slice QZ 0 0, .float .f32 0, .bool QQ]) (by simp [results, Tryz.results32, go_sem]) rfl ?_
      refine ⟨⟨.slice QZ 0 0, 0, ?_, ?_, ?_⟩, BX4.out.bel⟩
      ·rw [HGY.out]; show _ = Ending.returned (.tuple #[.slice QZ 0 0, .float .f32 0, .bool (posC (sqrC L1 Y B.pl))]); rw [HP0.out]
      ·rw [HGY.out]; show RV w.heap.size w4 _ (bif posC (sqrC L1 Y B.pl) then Y else []); rw [HP0.out]; exact RV.nil _ _
      ·rw [HGY.out, HECY.out.1, HECY.out.2.1 HP0.out]; exact FV_0v
     ·obtain ⟨r, he, hr⟩ := h1 hp
      subst he
      have HP0 := QY hp
      have HR := QY hr
      clear hp h1 h2 hr
      go_wp2
      refine bodyPost_ret (v := .tuple #[.slice ya B.pl yc, .float .f32 r, .bool true]) (by simp [results, Tryz.results32, go_sem]) rfl ?_
      refine ⟨⟨.slice ya B.pl yc, r, ?_, ?_, ?_⟩, BX4.out.bel⟩
      ·rw [HGY.out]; show _ = Ending.returned (.tuple #[.slice ya B.pl yc, .float .f32 r, .bool (posC (sqrC L1 Y B.pl))]); rw [HP0.out]
      ·rw [HGY.out]; show RV w.heap.size w4 _ (bif posC (sqrC L1 Y B.pl) then Y else []); rw [HP0.out]; exact HV4.out
      ·rw [HGY.out, HECY.out.1]; exact HR.out
theorem int_own {lo hi Q n cap : Nat} {w : World} {L : List Int} (h : IsIs w (some ⟨Q, 0, QZ⟩) n cap L) (hf : ∀ i, w.frozen? ⟨Q, i, QZ⟩ = QQ) (h1 : lo ≤ Q) (h2 : Q < hi) (h3 : Q < w.heap.size) : Own lo hi w Q 0 n := by
 refine ⟨h1, h2, h3, fun j hj => ⟨?_, hf _⟩⟩
 have k0 := h.2.2.2.2.2 _ rfl j hj
 rw [addr_add', Nat.zero_add] at k0
 rw [Nat.zero_add]
 exact ⟨_, k0⟩
def MrkV (w : World) (a : Option Addr) (n : Nat) : Prop := (a = QZ → n = 0) ∧ ∀ b o s, a = some ⟨b, o, s⟩ → s = QZ ∧ ∀ j, j < n * 3 → w.cell? ⟨b, o + j, QZ⟩ = some (.float .f32 (floatOfInt .f32 ((1 + j : Nat) : Int)))
theorem mark_anyV (lo hi : Nat) (a : Option Addr) (n cap : Nat) (w : World) (h : Lst lo hi w a (n * 3)) (hn : n ≤ 2000000) :
  Calls Tryz.prog 27 #[.slice a n cap, .int .i64 1] w fun e w' => e = .returned (.int .i64 ((1 + n * 3 : Nat) : Int)) ∧ MrkV w' a n ∧ Mark lo hi w w' := by
 rcases h with ⟨rfl, h0⟩ | ⟨b, rfl, hown⟩
 ·obtain rfl : n = 0 := by omega
  go_enter Tryz.func27, Tryz.ntmps27
  go_wp2
  refine wp_loop_rounds 1 ?_
  rw [rounds_succ]
  go_wp2
  go_ret
  exact ⟨rfl, ⟨fun _ => rfl, fun _ _ _ h => by cases h⟩, Mark.refl _ _ _⟩
 ·refine (laws_markVectorS lo hi b 0 n cap 1 w hown (by omega)).mono ?_
  rintro e w' ⟨he, hd, _, hM⟩
  exact ⟨he, ⟨fun h => by (cases h), fun b' o s h => by cases h; exact ⟨rfl, hd⟩⟩, hM⟩
theorem held_anyV (a : Option Addr) (n cap : Nat) (w : World) (h : MrkV w a n) (hn : n ≤ 2000000) :
  Calls Tryz.prog 28 #[.slice a n cap, .int .i64 1] w fun e w' => e = .returned (.int .i64 ((1 + n * 3 : Nat) : Int)) ∧ w' = w := by
 cases a with
 | none =>
  obtain rfl := h.1 rfl
  go_enter Tryz.func28, Tryz.ntmps28
  go_wp2
  refine wp_loop_rounds 1 ?_
  rw [rounds_succ]
  go_wp2
  go_ret
  exact ⟨rfl, by first | rfl | trivial⟩
 | some x =>
  obtain ⟨b, o, s⟩ := x
  obtain ⟨rfl, hd⟩ := h.2 b o s rfl
  exact laws_heldVectorS b o n cap 1 w hd (by omega)
theorem MrkV.below {w w' : World} {a : Option Addr} {n : Nat} (h : MrkV w a n) (hB : Below w.heap.size w w') : MrkV w' a n :=
 ⟨h.1, fun b o s e => ⟨(h.2 b o s e).1, fun j hj => cell_below hB ((h.2 b o s e).2 j hj)⟩⟩
theorem isv_mark {lo hi lo' hi' : Nat} {w0 w w' : World} {a : Option Addr} {n cap : Nat} {L : List C3} (h : IsVs w a n cap L) (hl : Lst lo' hi' w0 a (n * 3)) (hM : Mark lo hi w w') (ho : hi' ≤ lo ∨ hi ≤ lo') : IsVs w' a n cap L := by
 obtain ⟨h1, h2, h3, h5, h6⟩ := h
 refine ⟨h1, h2, h3, h5, fun x hx i hi => ?_⟩
 rcases hl with ⟨e, _⟩ | ⟨b, e, hown⟩
 ·rw [e] at hx; cases hx
 ·rw [e] at hx; cases hx
  obtain ⟨p, q, r, k0, k1, k2, hf⟩ := h6 _ e i hi
  rw [addr_add'] at k0 k1 k2
  have u1 := hown.1
  have u2 := hown.2.1
  exact ⟨p, q, r, by rw [addr_add']; exact hM.cell (by omega) k0, by rw [addr_add']; exact hM.cell (by omega) k1, by rw [addr_add']; exact hM.cell (by omega) k2, hf⟩
set_option maxHeartbeats 40000000 in
theorem greatMode_law (B : Bd) (c : Bc) (a1 : Option Addr) (n1 c1 : Nat) (L1 : List Int) (a2 : Option Addr) (n2 c2 : Nat) (y2 : List C3) (x3 : Nat) (d3 : Option Nat) (z4 : Int) (w : World) (h0 : IsB w B c) (h1 : IsIs w a1 n1 c1 L1) (h2 : IsVs w a2 n2 c2 y2) (h3 : FV .f32 x3 d3) (g3 : x3 < 4294967296) (h4 : (Lit.int .i64 z4).wf = true) :
  Calls Tryz.prog 5 #[B.v, .slice a1 n1 c1, .slice a2 n2 c2, .float .f32 x3, .int .i64 z4] w fun e w' => e = .returned (.bool true) ∧ Below w.heap.size w w' := by
 have ulb := Tryz.underlying32
 have uib := Tryz.underlying44
 have u := Tryz.underlying27
 have u' := Tryz.underlying58
 have BX : Hid (Bx w [(w.heap.size, B.l)] (w.alloc (BoxB B 32))) := QY ((Bx.nil w).box (vs := B.l) (t := 32))
 have HSP := QY (fun (B : Bd) (a1 : Option Addr) (c1 : Nat) (a2 : Option Addr) (c2 : Nat) (w : World) (h0 : IsB w B c) (h1 : IsIs w a1 n1 c1 L1) (h2 : IsVs w a2 n2 c2 y2) => spec_GreatMode B c a1 n1 c1 L1 a2 n2 c2 y2 x3 d3 z4 w h0 h1 h2 h3 g3 h4)
 have HIM := QY (fun (B : Bd) (a1 : Option Addr) (c1 : Nat) (a2 : Option Addr) (c2 : Nat) (w : World) (h0 : IsB w B c) (h1 : IsIs w a1 n1 c1 L1) (h2 : IsVs w a2 n2 c2 y2) => impl_GreatMode B c a1 n1 c1 L1 a2 n2 c2 y2 x3 d3 z4 w h0 h1 h2 h3 g3 h4)
 have HB := QY h0
 have H1 := QY h1
 have hm1 : n1 ≤ 9223372036854775807 := by have qq := h1.2.1; have qr := h1.2.2.1; unfold maxLen at qr; omega
 have H2 := QY h2
 have hm2 : n2 ≤ 9223372036854775807 := by have qq := h2.2.1; have qr := h2.2.2.1; unfold maxLen at qr; omega
 have H3 := QY h3
 have H4 := QY h4
 have len0 := grL_len c L1 y2 d3 n2 x3 z4 h2.1
 generalize grL c L1 y2 d3 n2 x3 z4 = R0 at *
 generalize grC c L1 y2 d3 n2 x3 z4 = R1 at *
 generalize grB c L1 y2 d3 n2 x3 z4 = R2 at *
 clear h0 h1 h2 h3 h4
 generalize hR0 : R0.length = m0 at *
 have HR0 := QY hR0
 clear hR0
 have ve2 : (R2 == R2) = true := by cases R2 <;> rfl
 have vn2 : (R2 != R2) = QQ := by cases R2 <;> rfl
 by_cases hl1 : n1 ≤ 1048576
 case neg =>
  have hgt : (1048576 : Int) < (n1 : Int) := by omega
  go_enter Tryz.func5, Tryz.ntmps5
  go_wp2
  go_ret
  exact ⟨rfl, BX.out.bel⟩
 have hngt1 : ¬ (1048576 : Int) < (n1 : Int) := by omega
 go_enter Tryz.func5, Tryz.ntmps5
 go_wp2_with fail
 change Calls _ _ _ (w.alloc (BoxB B 32)) _
 generalize (w.alloc (BoxB B 32)) = W0 at *
 refine (laws_szBody' B c 1048576 _ (HB.out.below BX.out.bel) (by decide) (by decide)).mono ?_
 rintro e w1 ⟨⟨r, rfl, hr⟩, hB⟩
 replace BX := QY (BX.out.call hB)
 clear hB
 rcases hr with rfl | ⟨hr0, hr1, hs⟩
 ·go_wp2
  go_ret
  exact ⟨rfl, BX.out.bel⟩
 have HS := QY hs
 clear hs
 go_wp2_with fail
 refine (laws_szVectorS a2 n2 c2 r w1 hr0 hr1 hm2).mono ?_
 rintro e w2 ⟨⟨r2_, rfl, hr⟩, hw⟩
 rw [hw]
 clear hw
 rcases hr with rfl | ⟨hq2, hp2, hl2⟩
 ·go_wp2
  go_ret
  exact ⟨rfl, BX.out.bel⟩
 obtain ⟨r0, r1, r2, r3, r4, r5, r6, r7, r8⟩ := at9 (BX.out.mem (.head _)) rfl
 go_wp2_with fail
 clear r0 r1 r2 r3 r4 r5 r6 r7 r8
 refine (laws_toBody B c _ (HB.out.below BX.out.bel) HS.out).mono ?_
 rintro e w3 ⟨Ys, rfl, hI, hB⟩
 replace BX := QY (BX.out.call hB)
 have Z1 := QY (hB.size)
 clear hB
 have Is := QY hI
 clear hI
 go_wp2_with fail
 refine (laws_toInt64S _ _ _ _ _ (H1.out.below BX.out.bel) hl1).mono ?_
 rintro e w4 ⟨rfl, hi, hB, _⟩
 replace BX := QY (BX.out.call hB)
 replace Is := QY (Is.out.below hB)
 have Z2 := QY (hB.size)
 clear hB
 have Js1 := QY hi
 clear hi
 go_wp2_with fail
 refine (laws_toVectorS a2 n2 c2 y2 w4 (H2.out.below BX.out.bel) hl2).mono ?_
 rintro e w5 ⟨rfl, hi, hB, _⟩
 replace BX := QY (BX.out.call hB)
 replace Is := QY (Is.out.below hB)
 replace Js1 := QY (Js1.out.below hB)
 have Z3 := QY (hB.size)
 clear hB
 have Js2 := QY hi
 clear hi
 go_wp2_with fail
 refine (HSP.out Ys _ _ _ _ _ Is.out Js1.out Js2.out).mono ?_
 rintro e w6 ⟨⟨vs0, xs1, rfl, hv0, hxs1⟩, hB⟩
 clear Is Js1 Js2
 replace BX := QY (BX.out.call hB)
 clear hB
 have LT : Hid (w.heap.size < w6.heap.size) := QY (BX.out.mem (.head _)).lt
 obtain ⟨sa0, sc0, rfl, hsi, _⟩ := hv0
 rw [HR0.out] at hsi ⊢
 have SI0 := QY hsi
 clear hsi
 obtain ⟨r0, r1, r2, r3, r4, r5, r6, r7, r8⟩ := at9 (BX.out.mem (.head _)) rfl
 go_wp2_with fail
 clear r0 r1 r2 r3 r4 r5 r6 r7 r8
 have SX := QY (Below.refl w6.heap.size w6)
 refine (laws_toBodyO B c _ (HB.out.below BX.out.bel) HS.out).mono ?_
 rintro e w7 ⟨X0, rfl, hI, hO, hB⟩
 replace BX := QY (BX.out.call hB)
 replace SX := QY (SX.out.trans (hB.mono SX.out.size))
 have Z4 := QY (hB.size)
 clear hB
 have M := QY (QJ hI hO)
 clear hI hO
 have hA : Below w7.heap.size w7 (w7.alloc (BoxB X0 44)) := (Below.refl _ _).alloc (QX _) _
 have BX' : Hid (Bx w [(w7.heap.size, X0.l), (w.heap.size, B.l)] (w7.alloc (BoxB X0 44))) := QY (BX.out.box (vs := X0.l) (t := 44))
 replace BX := BX'
 clear BX'
 replace SX := QY (SX.out.trans (hA.mono SX.out.size))
 replace M := QY (QJ (M.out.1.below hA) (M.out.2.below hA))
 have Z5 := QY (show (w7.alloc (BoxB X0 44)).heap.size = w7.heap.size + 1 by simp)
 clear hA
 go_wp2_with fail
 change Calls _ _ _ (w7.alloc (BoxB X0 44)) _
 generalize (w7.alloc (BoxB X0 44)) = w8 at *
 generalize w7.heap.size = X at *
 refine (laws_toInt64S' _ _ _ _ _ (H1.out.below BX.out.bel) hl1).mono ?_
 rintro e w9 ⟨rfl, hi, hB, hlt, hf⟩
 replace BX := QY (BX.out.call hB)
 replace SX := QY (SX.out.trans (hB.mono SX.out.size))
 replace M := QY (QJ (M.out.1.below hB) (M.out.2.below hB))
 have Z6 := QY (hB.size)
 clear hB
 have J1 := QY (QJ hi (int_own (lo := w8.heap.size) (hi := w9.heap.size) hi hf (QX _) hlt hlt))
 have Z7 := QY (hlt)
 clear hi hf hlt
 obtain ⟨Q1, hQ1⟩ : ∃ Q, Q = w8.heap.size := ⟨_, rfl⟩
 have Z8 := QY (hQ1)
 rw [← hQ1] at J1 ⊢
 clear hQ1
 go_wp2_with fail
 refine (laws_toVectorS' a2 n2 c2 y2 _ (H2.out.below BX.out.bel) hl2).mono ?_
 rintro e w10 ⟨rfl, hi, hB, hlt, hf⟩
 replace BX := QY (BX.out.call hB)
 replace SX := QY (SX.out.trans (hB.mono SX.out.size))
 replace M := QY (QJ (M.out.1.below hB) (M.out.2.below hB))
 replace J1 := QY (QJ (J1.out.1.below hB) (J1.out.2.below hB))
 have Z9 := QY (hB.size)
 clear hB
 have J2 := QY (QJ hi (vec_own (lo := w9.heap.size) (hi := w10.heap.size) hi hf (QX _) hlt hlt))
 have Z10 := QY (hlt)
 clear hi hf hlt
 obtain ⟨Q2, hQ2⟩ : ∃ Q, Q = w9.heap.size := ⟨_, rfl⟩
 have Z11 := QY (hQ2)
 rw [← hQ2] at J2 ⊢
 clear hQ2
 obtain ⟨r0, r1, r2, r3, r4, r5, r6, r7, r8⟩ := at9 (BX.out.mem (.head _)) rfl
 go_wp2_with fail
 clear r0 r1 r2 r3 r4 r5 r6 r7 r8
 refine (HIM.out X0 _ _ _ _ _ M.out.1 J1.out.1 J2.out.1).mono ?_
 rintro e w11 ⟨⟨vg0, xg1, rfl, hv0, hxg1⟩, hB⟩
 replace BX := QY (BX.out.call hB)
 replace SX := QY (SX.out.trans (hB.mono SX.out.size))
 replace M := QY (QJ (M.out.1.below hB) (M.out.2.below hB))
 replace J1 := QY (QJ (J1.out.1.below hB) (J1.out.2.below hB))
 replace J2 := QY (QJ (J2.out.1.below hB) (J2.out.2.below hB))
 have Z12 := QY (hB.size)
 clear hB
 obtain ⟨ga0, gc0, rfl, hgi, hgl⟩ := hv0
 rw [HR0.out] at hgi hgl ⊢
 have GI0 := QY hgi
 have GL0 := QY hgl
 clear hgi hgl
 go_wp2_with fail
 refine (laws_eqVectorS _ _ _ _ _ _ _ GI0.out (SI0.out.below SX.out)).mono ?_
 rintro e w12 ⟨rfl, hB⟩
 replace BX := QY (BX.out.call hB)
 replace SX := QY (SX.out.trans (hB.mono SX.out.size))
 replace M := QY (QJ (M.out.1.below hB) (M.out.2.below hB))
 replace J1 := QY (QJ (J1.out.1.below hB) (J1.out.2.below hB))
 replace J2 := QY (QJ (J2.out.1.below hB) (J2.out.2.below hB))
 replace GI0 := QY (GI0.out.below hB)
 replace GL0 := QY (GL0.out.below hB)
 have Z13 := QY (hB.size)
 clear hB
 go_wp2_with fail
 refine (laws_sameFloat _ _ _ _ (FV_wR hxg1) (FV_wR hxs1)).mono ?_
 rintro e w13 ⟨rfl, nd, hw⟩
 have hB : Below w12.heap.size w12 w13 := by rw [hw]; exact below_drewN (by first | exact Below.refl _ _ | exact below_drewN (Below.refl _ _) _ | exact below_drewN (below_drewN (Below.refl _ _) _) _) _
 clear hw
 replace BX := QY (BX.out.call hB)
 replace SX := QY (SX.out.trans (hB.mono SX.out.size))
 replace M := QY (QJ (M.out.1.below hB) (M.out.2.below hB))
 replace J1 := QY (QJ (J1.out.1.below hB) (J1.out.2.below hB))
 replace J2 := QY (QJ (J2.out.1.below hB) (J2.out.2.below hB))
 replace GI0 := QY (GI0.out.below hB)
 replace GL0 := QY (GL0.out.below hB)
 have Z14 := QY (hB.size)
 clear hB
 go_wp2_with fail
 refine Reg.wp_region_mix (C := fun w' => Below w13.heap.size w13 w') (G := fun w1 w2 => Below w1.heap.size w1 w2) (R := fun i v w' => match i with | 0 => v = X0.v | 1 => v = B.v | 2 => ∃ Y : Bd, v = Y.v ∧ IsB w' Y c | 3 => v = .bool true | 4 => v = .bool QQ | _ => True) (T := fun _ _ _ => True) [QQ, QQ, QQ, QQ, QQ, QQ, QQ, QQ, QQ, QQ, QQ, QQ, QQ, QQ, QQ, QQ, QQ, QQ, QQ, QQ, QQ, QQ, QQ, QQ, QQ, QQ, QQ, QQ, QQ, QQ, QQ, QQ, QQ, QQ, QQ, QQ, QQ, QQ, QQ, QQ, QQ, QQ, QQ, QQ, QQ, QQ, QQ, QQ, QQ, QQ, QQ, QQ, QQ, QQ, QQ, QQ, QQ, QQ, QQ, QQ, QQ, QQ, QQ, QQ, QQ, QQ, QQ, QQ, QQ, QQ, QQ, QQ, QQ, QQ, QQ, QQ, QQ, QQ, QQ, QQ, QQ, QQ, QQ, QQ, QQ, QQ, true, true, true, true, true, QQ, QQ, QQ, QQ, QQ, QQ, QQ, QQ, QQ, QQ, QQ, QQ, QQ, QQ, QQ, QQ, QQ, QQ, QQ, QQ, QQ, QQ, QQ, QQ, QQ, QQ, QQ, QQ, QQ, QQ, QQ, QQ, QQ, QQ, QQ, QQ, QQ, QQ, QQ, QQ, QQ, QQ, QQ, QQ, QQ, QQ, QQ, QQ, QQ, QQ, QQ, QQ, QQ, QQ, QQ, QQ, QQ, QQ, QQ, QQ, QQ, QQ, QQ, QQ, QQ, QQ, QQ, QQ, QQ, QQ, QQ, QQ, QQ, QQ, QQ, QQ, QQ, QQ, QQ, QQ, QQ, QQ, QQ, QQ, QQ, QQ, QQ, QQ, QQ]
  (by kernel_rfl) (by kernel_rfl) (by kernel_rfl) ?_ (below_drewN (Below.refl _ _) 1) ?_ ?_
 ·intro j v w1 w2 _ hG hR
  match j with
  | 0 => exact hR
  | 1 => exact hR
  | 2 => obtain ⟨Y, e, h1⟩ := hR; exact ⟨Y, e, h1.below hG⟩
  | 3 => exact hR
  | 4 => exact hR
  | _ + 5 => trivial
 ·refine ⟨Qq ?_, Qq ?_, Qq ?_, Qq ?_, Qq ?_, trivial⟩
  ·rintro av wq hB hx hd K hK
   have HC := QY hB; clear hB
   have t15 : av.tmps[15]?.getD QK = .pointer (some ⟨X, 0, QZ⟩) := QW (hx 15 (by kernel_rfl))
   obtain ⟨y0, y1, y2, y3, y4, y5, y6, y7, y8⟩ := at9 ((BX.out.call HC.out).mem (.head _)) rfl
   go_simp
   exact hK _ _ (fun _ => rfl) nofun HC.out (Below.refl _ _)
  ·rintro av wq hB hx hd K hK
   have HC := QY hB; clear hB
   have t5 : av.tmps[5]?.getD QK = .pointer (some ⟨w.heap.size, 0, QZ⟩) := QW (hx 5 (by kernel_rfl))
   obtain ⟨y0, y1, y2, y3, y4, y5, y6, y7, y8⟩ := at9 ((BX.out.call HC.out).mem (.tail _ (.head _))) rfl
   go_simp
   exact hK _ _ (fun _ => rfl) nofun HC.out (Below.refl _ _)
  ·rintro av wq hB hx hd K hK
   have HC := QY hB; clear hB
   have t87 : av.tmps[87]?.getD QK = B.v := QW (hd 1 (by kernel_rfl) 87 rfl)
   go_simp
   refine (laws_toBody B c _ (HB.out.below (BX.out.call HC.out).bel) HS.out).mono ?_
   rintro en w2 ⟨Y, rfl, hV, hB2⟩
   exact hK _ _ (fun _ => ⟨Y, rfl, hV⟩) nofun (HC.out.trans (hB2.mono HC.out.size)) hB2
  ·rintro av wq hB hx hd K hK
   have HC := QY hB; clear hB
   have t86 : av.tmps[86]?.getD QK = X0.v := QW (hd 0 (by kernel_rfl) 86 rfl)
   obtain ⟨Y, g2, hV⟩ := hd 2 (by kernel_rfl) 88 rfl
   have t88 := QW g2
   clear g2
   have HVe := QY hV
   clear hV
   go_simp
   refine (laws_eqBody X0 Y c _ (M.out.1.below HC.out) HVe.out HS.out).mono ?_
   rintro en w2 ⟨rfl, hB2⟩
   exact hK _ _ (fun _ => rfl) nofun (HC.out.trans (hB2.mono HC.out.size)) hB2
  ·rintro av wq hB hx hd K hK
   have t89 : av.tmps[89]?.getD QK = .bool true := QW (hd 3 (by kernel_rfl) 89 rfl)
   go_simp
   exact hK _ _ (fun _ => rfl) nofun hB (Below.refl _ _)
 rintro f w14 hB hd hTT
 have gg : f 90 = .bool QQ := hd 4 90 rfl
 simp only [Reg.mixL, gg]
 clear hd hTT gg
 replace BX := QY (BX.out.call hB)
 replace SX := QY (SX.out.trans (hB.mono SX.out.size))
 replace M := QY (QJ (M.out.1.below hB) (M.out.2.below hB))
 replace J1 := QY (QJ (J1.out.1.below hB) (J1.out.2.below hB))
 replace J2 := QY (QJ (J2.out.1.below hB) (J2.out.2.below hB))
 replace GI0 := QY (GI0.out.below hB)
 replace GL0 := QY (GL0.out.below hB)
 have Z15 := QY (hB.size)
 clear hB
 go_wp2_with fail
 refine (laws_toInt64S _ _ _ _ _ (H1.out.below BX.out.bel) hl1).mono ?_
 rintro e w15 ⟨rfl, hi, hB, _⟩
 replace BX := QY (BX.out.call hB)
 replace SX := QY (SX.out.trans (hB.mono SX.out.size))
 replace M := QY (QJ (M.out.1.below hB) (M.out.2.below hB))
 replace J1 := QY (QJ (J1.out.1.below hB) (J1.out.2.below hB))
 replace J2 := QY (QJ (J2.out.1.below hB) (J2.out.2.below hB))
 replace GI0 := QY (GI0.out.below hB)
 replace GL0 := QY (GL0.out.below hB)
 have Z16 := QY (hB.size)
 clear hB
 have JY1 := QY hi
 clear hi
 go_wp2_with fail
 refine (laws_eqInt64S _ _ _ _ _ L1 _ J1.out.1 JY1.out).mono ?_
 rintro e w16 ⟨rfl, nz, hw⟩
 have hB : Below w15.heap.size w15 w16 := by rw [hw]; exact below_drewN (Below.refl _ _) _
 clear hw
 clear JY1
 replace BX := QY (BX.out.call hB)
 replace SX := QY (SX.out.trans (hB.mono SX.out.size))
 replace M := QY (QJ (M.out.1.below hB) (M.out.2.below hB))
 replace J1 := QY (QJ (J1.out.1.below hB) (J1.out.2.below hB))
 replace J2 := QY (QJ (J2.out.1.below hB) (J2.out.2.below hB))
 replace GI0 := QY (GI0.out.below hB)
 replace GL0 := QY (GL0.out.below hB)
 have Z17 := QY (hB.size)
 clear hB
 go_wp2_with fail
 refine (laws_toVectorS a2 n2 c2 y2 w16 (H2.out.below BX.out.bel) hl2).mono ?_
 rintro e w17 ⟨rfl, hi, hB, _⟩
 replace BX := QY (BX.out.call hB)
 replace SX := QY (SX.out.trans (hB.mono SX.out.size))
 replace M := QY (QJ (M.out.1.below hB) (M.out.2.below hB))
 replace J1 := QY (QJ (J1.out.1.below hB) (J1.out.2.below hB))
 replace J2 := QY (QJ (J2.out.1.below hB) (J2.out.2.below hB))
 replace GI0 := QY (GI0.out.below hB)
 replace GL0 := QY (GL0.out.below hB)
 have Z18 := QY (hB.size)
 clear hB
 have JY2 := QY hi
 clear hi
 go_wp2_with fail
 refine (laws_eqVectorS _ _ n2 _ _ y2 _ J2.out.1 JY2.out).mono ?_
 rintro e w18 ⟨rfl, hB⟩
 clear JY2
 replace BX := QY (BX.out.call hB)
 replace SX := QY (SX.out.trans (hB.mono SX.out.size))
 replace M := QY (QJ (M.out.1.below hB) (M.out.2.below hB))
 replace J1 := QY (QJ (J1.out.1.below hB) (J1.out.2.below hB))
 replace J2 := QY (QJ (J2.out.1.below hB) (J2.out.2.below hB))
 replace GI0 := QY (GI0.out.below hB)
 replace GL0 := QY (GL0.out.below hB)
 have Z19 := QY (hB.size)
 clear hB
 obtain ⟨r0, r1, r2, r3, r4, r5, r6, r7, r8⟩ := at9 (BX.out.mem (.head _)) rfl
 go_wp2_with fail
 clear r0 r1 r2 r3 r4 r5 r6 r7 r8
 refine (laws_markBodyZ w6.heap.size X X0 c w18 M.out.2 M.out.1 HS.out (by have z1 := Z1.out; have z2 := Z2.out; have z3 := Z3.out; have z4 := Z4.out; have z5 := Z5.out; have z6 := Z6.out; have z7 := Z7.out; have z8 := Z8.out; have z9 := Z9.out; have z10 := Z10.out; have z11 := Z11.out; have z12 := Z12.out; have z13 := Z13.out; have z14 := Z14.out; have z15 := Z15.out; have z16 := Z16.out; have z17 := Z17.out; have z18 := Z18.out; have z19 := Z19.out; have zl := LT.out; omega) (by have z1 := Z1.out; have z2 := Z2.out; have z3 := Z3.out; have z4 := Z4.out; have z5 := Z5.out; have z6 := Z6.out; have z7 := Z7.out; have z8 := Z8.out; have z9 := Z9.out; have z10 := Z10.out; have z11 := Z11.out; have z12 := Z12.out; have z13 := Z13.out; have z14 := Z14.out; have z15 := Z15.out; have z16 := Z16.out; have z17 := Z17.out; have z18 := Z18.out; have z19 := Z19.out; have zl := LT.out; omega)).mono ?_
 rintro e w19 ⟨zk, hzk, rfl, hM⟩
 have hk : ¬ ((zk : Int) < 0) := by omega
 clear M
 have hall : ∀ b l, (b, l) ∈ [(X, X0.l), (w.heap.size, B.l)] → b < w6.heap.size ∨ X ≤ b := by
  intro b l hm
  simp only [List.mem_cons, Prod.mk.injEq, List.not_mem_nil, or_false] at hm
  rcases hm with ⟨rfl, _⟩ | ⟨rfl, _⟩
  ·first | exact .inl (by have z1 := Z1.out; have z2 := Z2.out; have z3 := Z3.out; have z4 := Z4.out; have z5 := Z5.out; have z6 := Z6.out; have z7 := Z7.out; have z8 := Z8.out; have z9 := Z9.out; have z10 := Z10.out; have z11 := Z11.out; have z12 := Z12.out; have z13 := Z13.out; have z14 := Z14.out; have z15 := Z15.out; have z16 := Z16.out; have z17 := Z17.out; have z18 := Z18.out; have z19 := Z19.out; have zl := LT.out; omega) | exact .inr (by have z1 := Z1.out; have z2 := Z2.out; have z3 := Z3.out; have z4 := Z4.out; have z5 := Z5.out; have z6 := Z6.out; have z7 := Z7.out; have z8 := Z8.out; have z9 := Z9.out; have z10 := Z10.out; have z11 := Z11.out; have z12 := Z12.out; have z13 := Z13.out; have z14 := Z14.out; have z15 := Z15.out; have z16 := Z16.out; have z17 := Z17.out; have z18 := Z18.out; have z19 := Z19.out; have zl := LT.out; omega)
  ·first | exact .inl (by have z1 := Z1.out; have z2 := Z2.out; have z3 := Z3.out; have z4 := Z4.out; have z5 := Z5.out; have z6 := Z6.out; have z7 := Z7.out; have z8 := Z8.out; have z9 := Z9.out; have z10 := Z10.out; have z11 := Z11.out; have z12 := Z12.out; have z13 := Z13.out; have z14 := Z14.out; have z15 := Z15.out; have z16 := Z16.out; have z17 := Z17.out; have z18 := Z18.out; have z19 := Z19.out; have zl := LT.out; omega) | exact .inr (by have z1 := Z1.out; have z2 := Z2.out; have z3 := Z3.out; have z4 := Z4.out; have z5 := Z5.out; have z6 := Z6.out; have z7 := Z7.out; have z8 := Z8.out; have z9 := Z9.out; have z10 := Z10.out; have z11 := Z11.out; have z12 := Z12.out; have z13 := Z13.out; have z14 := Z14.out; have z15 := Z15.out; have z16 := Z16.out; have z17 := Z17.out; have z18 := Z18.out; have z19 := Z19.out; have zl := LT.out; omega)
 replace BX := QY (BX.out.away hM (by have z1 := Z1.out; have z2 := Z2.out; have z3 := Z3.out; have z4 := Z4.out; have z5 := Z5.out; have z6 := Z6.out; have z7 := Z7.out; have z8 := Z8.out; have z9 := Z9.out; have z10 := Z10.out; have z11 := Z11.out; have z12 := Z12.out; have z13 := Z13.out; have z14 := Z14.out; have z15 := Z15.out; have z16 := Z16.out; have z17 := Z17.out; have z18 := Z18.out; have z19 := Z19.out; have zl := LT.out; omega) hall)
 clear hall
 replace SX := QY (SX.out.trans (hM.below.mono (by have z1 := Z1.out; have z2 := Z2.out; have z3 := Z3.out; have z4 := Z4.out; have z5 := Z5.out; have z6 := Z6.out; have z7 := Z7.out; have z8 := Z8.out; have z9 := Z9.out; have z10 := Z10.out; have z11 := Z11.out; have z12 := Z12.out; have z13 := Z13.out; have z14 := Z14.out; have z15 := Z15.out; have z16 := Z16.out; have z17 := Z17.out; have z18 := Z18.out; have z19 := Z19.out; have zl := LT.out; omega)))
 have J1' := QY (J1.out.2.mark hM)
 have J2' := QY (J2.out.2.mark hM)
 replace GI0 := QY (isv_mark GI0.out GL0.out hM (by first | exact .inl (by have z1 := Z1.out; have z2 := Z2.out; have z3 := Z3.out; have z4 := Z4.out; have z5 := Z5.out; have z6 := Z6.out; have z7 := Z7.out; have z8 := Z8.out; have z9 := Z9.out; have z10 := Z10.out; have z11 := Z11.out; have z12 := Z12.out; have z13 := Z13.out; have z14 := Z14.out; have z15 := Z15.out; have z16 := Z16.out; have z17 := Z17.out; have z18 := Z18.out; have z19 := Z19.out; have zl := LT.out; omega) | exact .inr (by have z1 := Z1.out; have z2 := Z2.out; have z3 := Z3.out; have z4 := Z4.out; have z5 := Z5.out; have z6 := Z6.out; have z7 := Z7.out; have z8 := Z8.out; have z9 := Z9.out; have z10 := Z10.out; have z11 := Z11.out; have z12 := Z12.out; have z13 := Z13.out; have z14 := Z14.out; have z15 := Z15.out; have z16 := Z16.out; have z17 := Z17.out; have z18 := Z18.out; have z19 := Z19.out; have zl := LT.out; omega)))
 replace GL0 := QY (GL0.out.mark hM)
 clear J1
 have J1 := QY (QJ True.intro J1'.out)
 clear J1'
 clear J2
 have J2 := QY (QJ True.intro J2'.out)
 clear J2'
 have Z20 := QY (hM.below.size)
 clear hM
 go_wp2_with fail
 have hkb : zk ≤ 4000000000000000000 := by omega
 refine (laws_markInt64S Q1 w9.heap.size Q1 0 n1 n1 zk w19 J1.out.2 (by omega)).mono ?_
 rintro e w20 ⟨rfl, _, _, hM⟩
 clear hkb
 obtain ⟨zk1, hzk1⟩ : ∃ z, z = zk + n1 := ⟨_, rfl⟩
 have hzb1 : zk1 ≤ zk + 3145728 := by omega
 rw [← hzk1]
 clear hzk1
 have hk1 : ¬ ((zk1 : Int) < 0) := by omega
 clear J1
 have hall : ∀ b l, (b, l) ∈ [(X, X0.l), (w.heap.size, B.l)] → b < Q1 ∨ w9.heap.size ≤ b := by
  intro b l hm
  simp only [List.mem_cons, Prod.mk.injEq, List.not_mem_nil, or_false] at hm
  rcases hm with ⟨rfl, _⟩ | ⟨rfl, _⟩
  ·first | exact .inl (by have z1 := Z1.out; have z2 := Z2.out; have z3 := Z3.out; have z4 := Z4.out; have z5 := Z5.out; have z6 := Z6.out; have z7 := Z7.out; have z8 := Z8.out; have z9 := Z9.out; have z10 := Z10.out; have z11 := Z11.out; have z12 := Z12.out; have z13 := Z13.out; have z14 := Z14.out; have z15 := Z15.out; have z16 := Z16.out; have z17 := Z17.out; have z18 := Z18.out; have z19 := Z19.out; have z20 := Z20.out; have zl := LT.out; omega) | exact .inr (by have z1 := Z1.out; have z2 := Z2.out; have z3 := Z3.out; have z4 := Z4.out; have z5 := Z5.out; have z6 := Z6.out; have z7 := Z7.out; have z8 := Z8.out; have z9 := Z9.out; have z10 := Z10.out; have z11 := Z11.out; have z12 := Z12.out; have z13 := Z13.out; have z14 := Z14.out; have z15 := Z15.out; have z16 := Z16.out; have z17 := Z17.out; have z18 := Z18.out; have z19 := Z19.out; have z20 := Z20.out; have zl := LT.out; omega)
  ·first | exact .inl (by have z1 := Z1.out; have z2 := Z2.out; have z3 := Z3.out; have z4 := Z4.out; have z5 := Z5.out; have z6 := Z6.out; have z7 := Z7.out; have z8 := Z8.out; have z9 := Z9.out; have z10 := Z10.out; have z11 := Z11.out; have z12 := Z12.out; have z13 := Z13.out; have z14 := Z14.out; have z15 := Z15.out; have z16 := Z16.out; have z17 := Z17.out; have z18 := Z18.out; have z19 := Z19.out; have z20 := Z20.out; have zl := LT.out; omega) | exact .inr (by have z1 := Z1.out; have z2 := Z2.out; have z3 := Z3.out; have z4 := Z4.out; have z5 := Z5.out; have z6 := Z6.out; have z7 := Z7.out; have z8 := Z8.out; have z9 := Z9.out; have z10 := Z10.out; have z11 := Z11.out; have z12 := Z12.out; have z13 := Z13.out; have z14 := Z14.out; have z15 := Z15.out; have z16 := Z16.out; have z17 := Z17.out; have z18 := Z18.out; have z19 := Z19.out; have z20 := Z20.out; have zl := LT.out; omega)
 replace BX := QY (BX.out.away hM (by have z1 := Z1.out; have z2 := Z2.out; have z3 := Z3.out; have z4 := Z4.out; have z5 := Z5.out; have z6 := Z6.out; have z7 := Z7.out; have z8 := Z8.out; have z9 := Z9.out; have z10 := Z10.out; have z11 := Z11.out; have z12 := Z12.out; have z13 := Z13.out; have z14 := Z14.out; have z15 := Z15.out; have z16 := Z16.out; have z17 := Z17.out; have z18 := Z18.out; have z19 := Z19.out; have z20 := Z20.out; have zl := LT.out; omega) hall)
 clear hall
 replace SX := QY (SX.out.trans (hM.below.mono (by have z1 := Z1.out; have z2 := Z2.out; have z3 := Z3.out; have z4 := Z4.out; have z5 := Z5.out; have z6 := Z6.out; have z7 := Z7.out; have z8 := Z8.out; have z9 := Z9.out; have z10 := Z10.out; have z11 := Z11.out; have z12 := Z12.out; have z13 := Z13.out; have z14 := Z14.out; have z15 := Z15.out; have z16 := Z16.out; have z17 := Z17.out; have z18 := Z18.out; have z19 := Z19.out; have z20 := Z20.out; have zl := LT.out; omega)))
 have J2' := QY (J2.out.2.mark hM)
 replace GI0 := QY (isv_mark GI0.out GL0.out hM (by first | exact .inl (by have z1 := Z1.out; have z2 := Z2.out; have z3 := Z3.out; have z4 := Z4.out; have z5 := Z5.out; have z6 := Z6.out; have z7 := Z7.out; have z8 := Z8.out; have z9 := Z9.out; have z10 := Z10.out; have z11 := Z11.out; have z12 := Z12.out; have z13 := Z13.out; have z14 := Z14.out; have z15 := Z15.out; have z16 := Z16.out; have z17 := Z17.out; have z18 := Z18.out; have z19 := Z19.out; have z20 := Z20.out; have zl := LT.out; omega) | exact .inr (by have z1 := Z1.out; have z2 := Z2.out; have z3 := Z3.out; have z4 := Z4.out; have z5 := Z5.out; have z6 := Z6.out; have z7 := Z7.out; have z8 := Z8.out; have z9 := Z9.out; have z10 := Z10.out; have z11 := Z11.out; have z12 := Z12.out; have z13 := Z13.out; have z14 := Z14.out; have z15 := Z15.out; have z16 := Z16.out; have z17 := Z17.out; have z18 := Z18.out; have z19 := Z19.out; have z20 := Z20.out; have zl := LT.out; omega)))
 replace GL0 := QY (GL0.out.mark hM)
 clear J2
 have J2 := QY (QJ True.intro J2'.out)
 clear J2'
 have Z21 := QY (hM.below.size)
 clear hM
 go_wp2_with fail
 have hkb : zk1 ≤ 4000000000000000000 := by omega
 refine (laws_markVectorS Q2 w10.heap.size Q2 0 n2 n2 zk1 w20 J2.out.2 (by omega)).mono ?_
 rintro e w21 ⟨rfl, _, _, hM⟩
 clear hkb
 obtain ⟨zk2, hzk2⟩ : ∃ z, z = zk1 + n2 * 3 := ⟨_, rfl⟩
 have hzb2 : zk2 ≤ zk1 + 3145728 := by omega
 rw [← hzk2]
 clear hzk2
 have hk2 : ¬ ((zk2 : Int) < 0) := by omega
 clear J2
 have hall : ∀ b l, (b, l) ∈ [(X, X0.l), (w.heap.size, B.l)] → b < Q2 ∨ w10.heap.size ≤ b := by
  intro b l hm
  simp only [List.mem_cons, Prod.mk.injEq, List.not_mem_nil, or_false] at hm
  rcases hm with ⟨rfl, _⟩ | ⟨rfl, _⟩
  ·first | exact .inl (by have z1 := Z1.out; have z2 := Z2.out; have z3 := Z3.out; have z4 := Z4.out; have z5 := Z5.out; have z6 := Z6.out; have z7 := Z7.out; have z8 := Z8.out; have z9 := Z9.out; have z10 := Z10.out; have z11 := Z11.out; have z12 := Z12.out; have z13 := Z13.out; have z14 := Z14.out; have z15 := Z15.out; have z16 := Z16.out; have z17 := Z17.out; have z18 := Z18.out; have z19 := Z19.out; have z20 := Z20.out; have z21 := Z21.out; have zl := LT.out; omega) | exact .inr (by have z1 := Z1.out; have z2 := Z2.out; have z3 := Z3.out; have z4 := Z4.out; have z5 := Z5.out; have z6 := Z6.out; have z7 := Z7.out; have z8 := Z8.out; have z9 := Z9.out; have z10 := Z10.out; have z11 := Z11.out; have z12 := Z12.out; have z13 := Z13.out; have z14 := Z14.out; have z15 := Z15.out; have z16 := Z16.out; have z17 := Z17.out; have z18 := Z18.out; have z19 := Z19.out; have z20 := Z20.out; have z21 := Z21.out; have zl := LT.out; omega)
  ·first | exact .inl (by have z1 := Z1.out; have z2 := Z2.out; have z3 := Z3.out; have z4 := Z4.out; have z5 := Z5.out; have z6 := Z6.out; have z7 := Z7.out; have z8 := Z8.out; have z9 := Z9.out; have z10 := Z10.out; have z11 := Z11.out; have z12 := Z12.out; have z13 := Z13.out; have z14 := Z14.out; have z15 := Z15.out; have z16 := Z16.out; have z17 := Z17.out; have z18 := Z18.out; have z19 := Z19.out; have z20 := Z20.out; have z21 := Z21.out; have zl := LT.out; omega) | exact .inr (by have z1 := Z1.out; have z2 := Z2.out; have z3 := Z3.out; have z4 := Z4.out; have z5 := Z5.out; have z6 := Z6.out; have z7 := Z7.out; have z8 := Z8.out; have z9 := Z9.out; have z10 := Z10.out; have z11 := Z11.out; have z12 := Z12.out; have z13 := Z13.out; have z14 := Z14.out; have z15 := Z15.out; have z16 := Z16.out; have z17 := Z17.out; have z18 := Z18.out; have z19 := Z19.out; have z20 := Z20.out; have z21 := Z21.out; have zl := LT.out; omega)
 replace BX := QY (BX.out.away hM (by have z1 := Z1.out; have z2 := Z2.out; have z3 := Z3.out; have z4 := Z4.out; have z5 := Z5.out; have z6 := Z6.out; have z7 := Z7.out; have z8 := Z8.out; have z9 := Z9.out; have z10 := Z10.out; have z11 := Z11.out; have z12 := Z12.out; have z13 := Z13.out; have z14 := Z14.out; have z15 := Z15.out; have z16 := Z16.out; have z17 := Z17.out; have z18 := Z18.out; have z19 := Z19.out; have z20 := Z20.out; have z21 := Z21.out; have zl := LT.out; omega) hall)
 clear hall
 replace SX := QY (SX.out.trans (hM.below.mono (by have z1 := Z1.out; have z2 := Z2.out; have z3 := Z3.out; have z4 := Z4.out; have z5 := Z5.out; have z6 := Z6.out; have z7 := Z7.out; have z8 := Z8.out; have z9 := Z9.out; have z10 := Z10.out; have z11 := Z11.out; have z12 := Z12.out; have z13 := Z13.out; have z14 := Z14.out; have z15 := Z15.out; have z16 := Z16.out; have z17 := Z17.out; have z18 := Z18.out; have z19 := Z19.out; have z20 := Z20.out; have z21 := Z21.out; have zl := LT.out; omega)))
 replace GI0 := QY (isv_mark GI0.out GL0.out hM (by first | exact .inl (by have z1 := Z1.out; have z2 := Z2.out; have z3 := Z3.out; have z4 := Z4.out; have z5 := Z5.out; have z6 := Z6.out; have z7 := Z7.out; have z8 := Z8.out; have z9 := Z9.out; have z10 := Z10.out; have z11 := Z11.out; have z12 := Z12.out; have z13 := Z13.out; have z14 := Z14.out; have z15 := Z15.out; have z16 := Z16.out; have z17 := Z17.out; have z18 := Z18.out; have z19 := Z19.out; have z20 := Z20.out; have z21 := Z21.out; have zl := LT.out; omega) | exact .inr (by have z1 := Z1.out; have z2 := Z2.out; have z3 := Z3.out; have z4 := Z4.out; have z5 := Z5.out; have z6 := Z6.out; have z7 := Z7.out; have z8 := Z8.out; have z9 := Z9.out; have z10 := Z10.out; have z11 := Z11.out; have z12 := Z12.out; have z13 := Z13.out; have z14 := Z14.out; have z15 := Z15.out; have z16 := Z16.out; have z17 := Z17.out; have z18 := Z18.out; have z19 := Z19.out; have z20 := Z20.out; have z21 := Z21.out; have zl := LT.out; omega)))
 replace GL0 := QY (GL0.out.mark hM)
 have Z22 := QY (hM.below.size)
 clear hM
 go_wp2_with fail
 refine (laws_eqVectorS _ _ _ _ _ _ _ GI0.out (SI0.out.below SX.out)).mono ?_
 rintro e w22 ⟨rfl, hB⟩
 replace BX := QY (BX.out.call hB)
 replace SX := QY (SX.out.trans (hB.mono SX.out.size))
 replace GI0 := QY (GI0.out.below hB)
 replace GL0 := QY (GL0.out.below hB)
 have Z23 := QY (hB.size)
 clear hB
 go_wp2_with fail
 refine (laws_sameFloat _ _ _ _ (FV_wR hxg1) (FV_wR hxs1)).mono ?_
 rintro e w23 ⟨rfl, nd, hw⟩
 have hB : Below w22.heap.size w22 w23 := by rw [hw]; exact below_drewN (by first | exact Below.refl _ _ | exact below_drewN (Below.refl _ _) _ | exact below_drewN (below_drewN (Below.refl _ _) _) _) _
 clear hw
 replace BX := QY (BX.out.call hB)
 replace SX := QY (SX.out.trans (hB.mono SX.out.size))
 replace GI0 := QY (GI0.out.below hB)
 replace GL0 := QY (GL0.out.below hB)
 have Z24 := QY (hB.size)
 clear hB
 go_wp2_with fail
 clear GI0
 refine (mark_anyV w10.heap.size w11.heap.size ga0 m0 gc0 w23 GL0.out (by omega)).mono ?_
 rintro e w24 ⟨rfl, hmk, hM⟩
 clear GL0
 have hall : ∀ b l, (b, l) ∈ [(X, X0.l), (w.heap.size, B.l)] → b < w10.heap.size ∨ w11.heap.size ≤ b := by
  intro b l hm
  simp only [List.mem_cons, Prod.mk.injEq, List.not_mem_nil, or_false] at hm
  rcases hm with ⟨rfl, _⟩ | ⟨rfl, _⟩
  ·first | exact .inl (by have z1 := Z1.out; have z2 := Z2.out; have z3 := Z3.out; have z4 := Z4.out; have z5 := Z5.out; have z6 := Z6.out; have z7 := Z7.out; have z8 := Z8.out; have z9 := Z9.out; have z10 := Z10.out; have z11 := Z11.out; have z12 := Z12.out; have z13 := Z13.out; have z14 := Z14.out; have z15 := Z15.out; have z16 := Z16.out; have z17 := Z17.out; have z18 := Z18.out; have z19 := Z19.out; have z20 := Z20.out; have z21 := Z21.out; have z22 := Z22.out; have z23 := Z23.out; have z24 := Z24.out; have zl := LT.out; omega) | exact .inr (by have z1 := Z1.out; have z2 := Z2.out; have z3 := Z3.out; have z4 := Z4.out; have z5 := Z5.out; have z6 := Z6.out; have z7 := Z7.out; have z8 := Z8.out; have z9 := Z9.out; have z10 := Z10.out; have z11 := Z11.out; have z12 := Z12.out; have z13 := Z13.out; have z14 := Z14.out; have z15 := Z15.out; have z16 := Z16.out; have z17 := Z17.out; have z18 := Z18.out; have z19 := Z19.out; have z20 := Z20.out; have z21 := Z21.out; have z22 := Z22.out; have z23 := Z23.out; have z24 := Z24.out; have zl := LT.out; omega)
  ·first | exact .inl (by have z1 := Z1.out; have z2 := Z2.out; have z3 := Z3.out; have z4 := Z4.out; have z5 := Z5.out; have z6 := Z6.out; have z7 := Z7.out; have z8 := Z8.out; have z9 := Z9.out; have z10 := Z10.out; have z11 := Z11.out; have z12 := Z12.out; have z13 := Z13.out; have z14 := Z14.out; have z15 := Z15.out; have z16 := Z16.out; have z17 := Z17.out; have z18 := Z18.out; have z19 := Z19.out; have z20 := Z20.out; have z21 := Z21.out; have z22 := Z22.out; have z23 := Z23.out; have z24 := Z24.out; have zl := LT.out; omega) | exact .inr (by have z1 := Z1.out; have z2 := Z2.out; have z3 := Z3.out; have z4 := Z4.out; have z5 := Z5.out; have z6 := Z6.out; have z7 := Z7.out; have z8 := Z8.out; have z9 := Z9.out; have z10 := Z10.out; have z11 := Z11.out; have z12 := Z12.out; have z13 := Z13.out; have z14 := Z14.out; have z15 := Z15.out; have z16 := Z16.out; have z17 := Z17.out; have z18 := Z18.out; have z19 := Z19.out; have z20 := Z20.out; have z21 := Z21.out; have z22 := Z22.out; have z23 := Z23.out; have z24 := Z24.out; have zl := LT.out; omega)
 replace BX := QY (BX.out.away hM (by have z1 := Z1.out; have z2 := Z2.out; have z3 := Z3.out; have z4 := Z4.out; have z5 := Z5.out; have z6 := Z6.out; have z7 := Z7.out; have z8 := Z8.out; have z9 := Z9.out; have z10 := Z10.out; have z11 := Z11.out; have z12 := Z12.out; have z13 := Z13.out; have z14 := Z14.out; have z15 := Z15.out; have z16 := Z16.out; have z17 := Z17.out; have z18 := Z18.out; have z19 := Z19.out; have z20 := Z20.out; have z21 := Z21.out; have z22 := Z22.out; have z23 := Z23.out; have z24 := Z24.out; have zl := LT.out; omega) hall)
 clear hall
 replace SX := QY (SX.out.trans (hM.below.mono (by have z1 := Z1.out; have z2 := Z2.out; have z3 := Z3.out; have z4 := Z4.out; have z5 := Z5.out; have z6 := Z6.out; have z7 := Z7.out; have z8 := Z8.out; have z9 := Z9.out; have z10 := Z10.out; have z11 := Z11.out; have z12 := Z12.out; have z13 := Z13.out; have z14 := Z14.out; have z15 := Z15.out; have z16 := Z16.out; have z17 := Z17.out; have z18 := Z18.out; have z19 := Z19.out; have z20 := Z20.out; have z21 := Z21.out; have z22 := Z22.out; have z23 := Z23.out; have z24 := Z24.out; have zl := LT.out; omega)))
 have Z25 := QY (hM.below.size)
 clear hM
 have HMK := QY (show MrkV w24 ga0 m0 from hmk)
 clear hmk
 go_wp2_with fail
 refine (held_anyV ga0 m0 gc0 w24 HMK.out (by omega)).mono ?_
 rintro e w25 ⟨rfl, hw⟩
 rw [hw]
 clear hw
 obtain ⟨r0, r1, r2, r3, r4, r5, r6, r7, r8⟩ := at9 (BX.out.mem (.tail _ (.head _))) rfl
 go_wp2_with fail
 clear r0 r1 r2 r3 r4 r5 r6 r7 r8
 refine (laws_toBody B c _ (HB.out.below BX.out.bel) HS.out).mono ?_
 rintro e w26 ⟨Yh, rfl, hI, hB⟩
 replace BX := QY (BX.out.call hB)
 replace SX := QY (SX.out.trans (hB.mono SX.out.size))
 replace HMK := QY (HMK.out.below hB)
 have Z26 := QY (hB.size)
 clear hB
 have Ih := QY hI
 clear hI
 go_wp2_with fail
 refine (laws_toInt64S _ _ _ _ _ (H1.out.below BX.out.bel) hl1).mono ?_
 rintro e w27 ⟨rfl, hi, hB, _⟩
 replace BX := QY (BX.out.call hB)
 replace SX := QY (SX.out.trans (hB.mono SX.out.size))
 replace HMK := QY (HMK.out.below hB)
 replace Ih := QY (Ih.out.below hB)
 have Z27 := QY (hB.size)
 clear hB
 have Jh1 := QY hi
 clear hi
 go_wp2_with fail
 refine (laws_toVectorS a2 n2 c2 y2 w27 (H2.out.below BX.out.bel) hl2).mono ?_
 rintro e w28 ⟨rfl, hi, hB, _⟩
 replace BX := QY (BX.out.call hB)
 replace SX := QY (SX.out.trans (hB.mono SX.out.size))
 replace HMK := QY (HMK.out.below hB)
 replace Ih := QY (Ih.out.below hB)
 replace Jh1 := QY (Jh1.out.below hB)
 have Z28 := QY (hB.size)
 clear hB
 have Jh2 := QY hi
 clear hi
 go_wp2_with fail
 refine (HIM.out Yh _ _ _ _ _ Ih.out Jh1.out Jh2.out).mono ?_
 rintro e w29 ⟨⟨vh0, xh1, rfl, hv0, hxh1⟩, hB⟩
 clear Ih Jh1 Jh2
 replace BX := QY (BX.out.call hB)
 replace SX := QY (SX.out.trans (hB.mono SX.out.size))
 replace HMK := QY (HMK.out.below hB)
 have Z29 := QY (hB.size)
 clear hB
 obtain ⟨ha0, hc0, rfl, hhi, _⟩ := hv0
 rw [HR0.out] at hhi ⊢
 have HI0 := QY hhi
 clear hhi
 go_wp2_with fail
 refine (laws_eqVectorS _ _ _ _ _ _ _ HI0.out (SI0.out.below SX.out)).mono ?_
 rintro e w30 ⟨rfl, hB⟩
 clear HI0
 replace BX := QY (BX.out.call hB)
 replace SX := QY (SX.out.trans (hB.mono SX.out.size))
 replace HMK := QY (HMK.out.below hB)
 have Z30 := QY (hB.size)
 clear hB
 go_wp2_with fail
 refine (laws_sameFloat _ _ _ _ (FV_wR hxh1) (FV_wR hxs1)).mono ?_
 rintro e w31 ⟨rfl, nd, hw⟩
 have hB : Below w30.heap.size w30 w31 := by rw [hw]; exact below_drewN (by first | exact Below.refl _ _ | exact below_drewN (Below.refl _ _) _ | exact below_drewN (below_drewN (Below.refl _ _) _) _) _
 clear hw
 replace BX := QY (BX.out.call hB)
 replace SX := QY (SX.out.trans (hB.mono SX.out.size))
 replace HMK := QY (HMK.out.below hB)
 have Z31 := QY (hB.size)
 clear hB
 go_wp2_with fail
 refine (held_anyV ga0 m0 gc0 w31 HMK.out (by omega)).mono ?_
 rintro e w32 ⟨rfl, hw⟩
 rw [hw]
 clear hw
 go_wp2
 go_ret
 exact ⟨rfl, BX.out.bel⟩
theorem FnExactGreatMode_law (pa ta sa wa : Option Addr) (pl pc tl tc sl sc wl wc : Nat) (cs : List C3) (ts : List (List Int)) (ss : List SC) (zs : List Nat) (fi be fx fy fz : Nat) (a1 : Option Addr) (n1 c1 : Nat) (L1 : List Int) (a2 : Option Addr) (n2 c2 : Nat) (y2 : List C3) (x3 : Nat) (z4 : Int) (w : World) (hp : IsVs w pa pl pc cs) (ht : IsTs w ta tl tc ts) (hs : IsSs w sa sl sc ss) (hw : IsFs .f32 w wa wl wc zs) (hf : fi < 2 ^ FloatKind.f32.format.width ∧ be < 2 ^ FloatKind.f32.format.width ∧ fx < 2 ^ FloatKind.f32.format.width ∧ fy < 2 ^ FloatKind.f32.format.width ∧ fz < 2 ^ FloatKind.f32.format.width) (h1 : IsIs w a1 n1 c1 L1) (h2 : IsVs w a2 n2 c2 y2) (h3 : x3 < 2 ^ FloatKind.f32.format.width) (h4 : (Lit.int .i64 z4).wf = true) :
  Calls Tryz.prog 5 #[.agg #[.slice pa pl pc, .slice ta tl tc, .slice sa sl sc, .float .f32 fi, .float .f32 be, .slice wa wl wc, .float .f32 fx, .float .f32 fy, .float .f32 fz], .slice a1 n1 c1, .slice a2 n2 c2, .float .f32 x3, .int .i64 z4] w fun e w' => e = .returned (.bool true) ∧ Below w.heap.size w w' :=
 greatMode_law ⟨pa, ta, sa, wa, pl, pc, tl, tc, sl, sc, wl, wc, fi, be, fx, fy, fz⟩ ⟨cs, ts, ss, zs, cls .f32 fi, cls .f32 be, (cls .f32 fx, cls .f32 fy, cls .f32 fz)⟩ a1 n1 c1 L1 a2 n2 c2 y2 x3 (cls .f32 x3) z4 w ⟨hp, ht, hs, hw, FV.self hf.1, FV.self hf.2.1, FV.self hf.2.2.1, FV.self hf.2.2.2.1, FV.self hf.2.2.2.2⟩ h1 h2 (FV.self h3) (Nat.lt_of_lt_of_eq h3 (by decide)) h4
namespace Fk
section
open Go.ChangeShapes Go.WideShapes Go.Deep
variable {H : Type} {enc : TypeId × Value → H} {P : Program} {w : World} {base : Nat} {held : Bool}
theorem open_vecs {t ev : TypeId} {f0 f1 f2 : Field} {a : Option Addr} {len cap : Nat} {d : DataW H} {p : List MemPlace}
  (hp : P.underlying t = some (.slice ev)) (hev : P.underlying ev = some (.struct #[f0, f1, f2])) (honev : oneCellFields P #[f0, f1, f2] = true) (hCv : P.cellsOf ev = 3)
  (he0 : P.underlying f0.type = some (.float .f32)) (he1 : P.underlying f1.type = some (.float .f32)) (he2 : P.underlying f2.type = some (.float .f32))
  (h : DataW.Trod enc P w base (fun _ => true) held t (.slice a len cap) d p) : ∃ cs, IsVs w a len cap cs := by
 obtain ⟨fuel, hf⟩ := h
 obtain ⟨a', len', cap', cs, e, hv⟩ := trod_vecs hp hev honev hCv he0 he1 he2 (by simpa [Value.cells] using hf)
 cases e
 exact ⟨cs, hv⟩
end
end Fk
namespace Fk
section
open Go.ChangeShapes Go.WideShapes Go.Deep
variable {H : Type} {enc : TypeId × Value → H} {P : Program} {w : World} {base : Nat} {held : Bool}
theorem open_ilist {t e : TypeId} {a : Option Addr} {len cap : Nat} {d : DataW H} {p : List MemPlace} (ht : P.underlying t = some (.slice e)) (he : P.underlying e = some (.int .i64)) (hc : P.cellsOf e = 1)
  (h : DataW.Trod enc P w base (fun _ => true) held t (.slice a len cap) d p) : ∃ zs, IsIs w a len cap zs := by
 obtain ⟨fuel, hf⟩ := h
 obtain ⟨a', len', cap', zs, e1, hz⟩ := trod_ints ht he hc (by simpa [Value.cells] using hf)
 cases e1
 exact ⟨zs, hz⟩
end
end Fk
namespace Go.Proofs.YtabccmobmppdnaaGreat.fnExactGreatModeDone
open Go.ChangeShapes Go.WideShapes Go.ChangeAt
open Go.ChangeMaps (open_string shut_string)
theorem own : ownKnob Tryz.prog.godebug = QZ := by kernel_rfl
theorem laidOut : laidOutB Tryz.prog = true := by kernel_rfl
set_option maxRecDepth 100000 in
theorem lifted (os : Os) (started : os.Started) (H : Type) (enc : TypeId × Value → H) :
  ReturnsInHanded {} Tryz.checked os 5 .any (Rows.fnExactGreatModeSpec.pre6 enc Tryz.prog Tryz.f5 Rows.fnExactGreatModeRow.domain QQ) (Rows.fnExactGreatModeSpec.post enc Tryz.prog Tryz.f5 QQ true QQ QQ) := by
 refine returnsInHanded_of_change (C := Tryz.checked) own started (by kernel_rfl) Tryz.func5
  (ChangeSpec.witness6 (enc := enc) (C := Tryz.checked) QQ ⟨#[], #[.agg #[.slice QZ 0 0, .slice QZ 0 0, .slice QZ 0 0, .float .f32 0, .float .f32 0, .slice QZ 0 0, .float .f32 0, .float .f32 0, .float .f32 0], .slice QZ 0 0, .slice QZ 0 0, .float .f32 0, .int .i64 0], []⟩ 8 (by kernel_rfl) (by kernel_rfl) (by kernel_rfl) (by kernel_rfl)) ?_
 intro W base args ds gs before hval0 hW hcnd _
 have hval : ∀ (j : Nat) t v, Tryz.f5.params[j]? = some t → args[j]? = some v → Value.okWide Tryz.prog W .any base t v := hval0
 have hW' := hW
 obtain ⟨p, q, hA0, hV, rfl, hfz, hnd⟩ := hW
 have hA : DataW.TrodAll enc Tryz.prog W 0 (fun _ => true) true Tryz.f5.params.toList args.toList ds p := hA0
 rw [Tryz.params5] at hA hval
 obtain ⟨v0, vs0, d0, ds0, p0, q0, hargs, rfl, rfl, h0, r0⟩ := trodAll_cons hA
 obtain ⟨v1, vs1, d1, ds1, p1, q1, rfl, rfl, rfl, h1, r1⟩ := trodAll_cons r0
 obtain ⟨v2, vs2, d2, ds2, p2, q2, rfl, rfl, rfl, h2, r2⟩ := trodAll_cons r1
 obtain ⟨v3, vs3, d3, ds3, p3, q3, rfl, rfl, rfl, h3, r3⟩ := trodAll_cons r2
 obtain ⟨v4, vs4, d4, ds4, p4, q4, rfl, rfl, rfl, h4, r4⟩ := trodAll_cons r3
 obtain ⟨rfl, rfl, rfl⟩ := trodAll_nil r4
 obtain rfl : args = #[v0, v1, v2, v3, v4] := by cases args; simp_all
 obtain ⟨rfl, rfl⟩ := trodVars_none hV
 have k0 := h0
 have lt0 : ∀ x ∈ p0, x.block < W.heap.size := by obtain ⟨m, hm⟩ := k0; exact DataW.trod_lt m _ _ _ hm
 obtain ⟨pa0, ta0, sa0, wa0, pl0, pc0, tl0, tc0, sl0, sc0, wl0, wc0, cs0, ts0, ss0, zs0, fi0, be0, fx0, fy0, fz0, e0, wp0, wt0, ws0, ww0, wf0⟩ := Fk.open_body Tryz.underlying32 (by kernel_rfl) (by kernel_rfl) (by kernel_rfl) Tryz.underlying25 (by kernel_rfl) Tryz.underlying22 Tryz.underlying30 (by kernel_rfl) (by kernel_rfl) Tryz.underlying27 Tryz.underlying27 Tryz.underlying27 Tryz.underlying23 Tryz.underlying33 Tryz.underlying2 (by kernel_rfl) (by kernel_rfl) Tryz.underlying26 Tryz.underlying168 (by kernel_rfl) (by kernel_rfl) Tryz.underlying2 Tryz.underlying2 Tryz.underlying27 Tryz.underlying27 Tryz.underlying27 Tryz.underlying27 Tryz.underlying28 Tryz.underlying27 (by kernel_rfl) Tryz.underlying30 (by kernel_rfl) Tryz.underlying27 Tryz.underlying27 Tryz.underlying27 (hval 0 32 v0 rfl rfl) h0
 subst e0
 have k1 := h1
 have lt1 : ∀ x ∈ p1, x.block < W.heap.size := by obtain ⟨m, hm⟩ := k1; exact DataW.trod_lt m _ _ _ hm
 obtain ⟨a1, len1, cap1, e1⟩ := okWide_slice Tryz.underlying33 (hval 1 33 v1 rfl rfl)
 subst e1
 obtain ⟨z1, w1⟩ := Fk.open_ilist Tryz.underlying33 Tryz.underlying2 (by kernel_rfl) h1
 have k2 := h2
 have lt2 : ∀ x ∈ p2, x.block < W.heap.size := by obtain ⟨m, hm⟩ := k2; exact DataW.trod_lt m _ _ _ hm
 obtain ⟨a2, len2, cap2, e2⟩ := okWide_slice Tryz.underlying22 (hval 2 22 v2 rfl rfl)
 subst e2
 obtain ⟨cs2, w2⟩ := Fk.open_vecs Tryz.underlying22 Tryz.underlying30 (by kernel_rfl) (by kernel_rfl) Tryz.underlying27 Tryz.underlying27 Tryz.underlying27 h2
 have k3 := h3
 have lt3 : ∀ x ∈ p3, x.block < W.heap.size := by obtain ⟨m, hm⟩ := k3; exact DataW.trod_lt m _ _ _ hm
 obtain ⟨a3, e3, _, _, g3⟩ := open_float Tryz.underlying27 (hval 3 27 v3 rfl rfl) h3
 subst e3
 have w3 := Fk.wf_lt g3
 have k4 := h4
 have lt4 : ∀ x ∈ p4, x.block < W.heap.size := by obtain ⟨m, hm⟩ := k4; exact DataW.trod_lt m _ _ _ hm
 obtain ⟨a4, e4, _, _, w4⟩ := open_int Tryz.underlying2 (hval 4 2 v4 rfl rfl) h4
 subst e4
 clear hA0 hval0
 refine (FnExactGreatMode_law pa0 ta0 sa0 wa0 pl0 pc0 tl0 tc0 sl0 sc0 wl0 wc0 cs0 ts0 ss0 zs0 fi0 be0 fx0 fy0 fz0 a1 len1 cap1 z1 a2 len2 cap2 cs2 a3 a4 W wp0 wt0 ws0 ww0 wf0 w1 w2 w3 w4).mono fun e W' ⟨he, bel⟩ => ?_
 subst he
 exact ⟨_, rfl, _, _, _, [], _, [], hW', trodAll_mk1 (shut_bool Tryz.underlying4 _), (trodAll_cons_mk (Below.trod laidOut (by kernel_rfl) (of_decide_eq_true (by kernel_rfl)) k0 bel lt0) (trodAll_cons_mk (Below.trod laidOut (by kernel_rfl) (of_decide_eq_true (by kernel_rfl)) k1 bel lt1) (trodAll_cons_mk (Below.trod laidOut (by kernel_rfl) (of_decide_eq_true (by kernel_rfl)) k2 bel lt2) (trodAll_cons_mk (Below.trod laidOut (by kernel_rfl) (of_decide_eq_true (by kernel_rfl)) k3 bel lt3) (trodAll_cons_mk (Below.trod laidOut (by kernel_rfl) (of_decide_eq_true (by kernel_rfl)) k4 bel lt4) trodAll_mk0))))), rfl, bel.frame _, fun h => by cases h⟩
end Go.Proofs.YtabccmobmppdnaaGreat.fnExactGreatModeDone
end Go.Proofs.YtabccmobmppdnaaGreat

/-
Texts in one: what StiffTimes stands on, part 35. Conditions: those of each.
-/
import Derived.Test.YtabccmobmppdnaaGreatKStiffTimes34
-- halved
namespace Go.Proofs.YtabccmobmppdnaaGreat
open Go Fk Go.RowKit
set_option linter.unusedVariables false
set_option maxRecDepth 8000
theorem l03Positive (x : Nat) (w : World) (hx : x < 4294967296) :
  Calls Tryz.prog 100 #[.float .f32 x] w fun e w' => e = .returned (.bool (sizeB x)) ∧ ∃ n, w' = w.drewN n := by
 have u := Tryz.underlying27
 unfold sizeB
 have HJ := Lib.hid (fun w => l01Finite x w hx)
 generalize finB x = f at *
 cases f
 ·go_enter Tryz.func100, Tryz.ntmps100
  go_wp2_with (go_at_call 137; refine (HJ.out _).mono ?_; rintro e w1 ⟨rfl, n, hw⟩; rw [hw]; clear hw w1)
  go_ret
  exact ⟨rfl, _, rfl⟩
 ·go_enter Tryz.func100, Tryz.ntmps100
  go_wp2_with (go_at_call 137; refine (HJ.out _).mono ?_; rintro e w1 ⟨rfl, n, hw⟩; rw [hw]; clear hw w1)
  go_ret
  exact ⟨rfl, _, rfl⟩
end Go.Proofs.YtabccmobmppdnaaGreat
namespace Go.Proofs.YtabccmobmppdnaaGreat
open Go Fk Go.RowKit
set_option linter.unusedVariables false
set_option maxRecDepth 16000
set_option maxHeartbeats 4000000 in
theorem l09Freed (fa : Option Addr) (fl fc : Nat) (ys : List C3) (ha : Option Addr) (hl hc : Nat) (L : List Int) (w : World) (hf : IsVs w fa fl fc ys) (hL : IsIs w ha hl hc L) (hr : riseB fl L = true) (hb : fl ≤ 1048576) :
  Calls Tryz.prog 66 #[.slice fa fl fc, .slice ha hl hc] w fun e w' => ∃ v, e = .returned v ∧ RV w.heap.size w' v (stillF ys L) ∧ Below w.heap.size w w' := by
 have uv := Tryz.underlying42
 obtain ⟨i0, hi, hz0, hz1, hz2⟩ := info_parts infoV
 obtain ⟨xs, x1, x2, x3, x4⟩ := vs_cells hf
 have h0 := hf.2.2.2.1
 have hfl := hf.1
 have hhl := hL.1
 have X2 := Lib.hid x2
 have X3 := Lib.hid x3
 have X4 := Lib.hid x4
 have X1 := Lib.hid x1
 have HL := Lib.hid hL
 have HR := Lib.hid hr
 have HPA := Lib.hid h0
 have hm : hl ≤ 9223372036854775807 := by have h1 := hL.2.1; have h2 := hL.2.2.1; unfold maxLen at h2; omega
 clear x1 x2 x3 x4 hf hL hr h0
 have HST := Lib.hid (World.ownsRow_lit (base := w.heap.size) (e := 42) (size := 3) w #[] 0 (Nat.le_refl _) (by decide) rfl)
 go_enter Tryz.func66, Tryz.ntmps66
 go_wp2_with (at_builtin; go_loud (refine wpList_append_opt _ rfl _ _ 36 rfl w.heap.size 42 i0 (.agg #[.float .f32 0, .float .f32 0, .float .f32 0]) 3 12 Tryz.underlying36 hi hz0 hz1 hz2 rfl (by decide) _ 0 [] rfl HST.out fa fl fc xs rfl HPA.out X1.out ?c2 ?c3 ?c4 ?c5 ?c6 ?_))
 case c2 =>
  intro ad had j u hu
  have := X2.out ad had j u hu
  rw [World.cell?_alloc_lt (h := World.block_lt_of_cell? _ _ this)]
  exact this
 case c3 => exact X3.out
 case c4 => unfold maxLen; omega
 case c5 => omega
 ·intro v w1 hown hgrow
  have hown' : w1.ownsRow w.heap.size 42 3 v fl xs := by simpa using hown
  have hB1 : Below w.heap.size w w1 := ((Below.refl _ _).alloc (Nat.le_refl _) _).grown hgrow (by simp) (fun k hk => by simp [Value.ownBlock] at hk; omega)
  have HB := Lib.hid hB1
  rcases own_block hown' X4.out hfl with ⟨rfl, hz⟩ | ⟨g, cap, rfl, hgb, hc1, hc2, hov⟩
  ·have hL0 : L = [] := by have := HR.out; rw [hz] at this; exact rise_nil this
   have hl0 : hl = 0 := by rw [← hhl, hL0]; rfl
   have hnil : stillF ys L = [] := List.eq_nil_of_length_eq_zero (by rw [stillF_len]; omega)
   subst hl0
   clear hown hgrow hown' hB1
   go_wp2
   refine wp_loop_rounds 1 ?_
   rw [rounds_succ]
   go_wp2
   go_ret
   exact ⟨_, rfl, by rw [hnil]; exact RV.nil _ _, HB.out⟩
  ·have S1 : Hid (St w ([] : List (Nat × List Value)) g (stillF ys (L.take 0)) w1) := Lib.hid ⟨hB1, fun b l hm => absurd hm (by simp), hgb, hov⟩
   have HX := Lib.hid hfl
   have HC := Lib.hid (And.intro hc1 hc2)
   clear hown hgrow hown' hB1 hov
   generalize hpl : fl = pl at *
   go_wp2
   go_loopw [12] (fun i w' => ∃ k : Nat, k ≤ hl ∧ i = .int .i64 k ∧ Aside (St w ([] : List (Nat × List Value)) g (stillF ys (L.take k)) w')) (fun i _ => hl - (intOf i).toNat)
   case atStart => exact ⟨0, Nat.zero_le _, rfl, S1.out⟩
   case round =>
    obtain ⟨k, hk, rfl, hA⟩ := hrel
    have S2 := Lib.hid hA.out
    clear hA S1
    by_cases hlt : k < hl
    ·obtain ⟨b, o, rfl, hcell⟩ := (HL.out.below S2.out.bel).some (by omega)
     have hc0 := hcell k hlt
     have hk0 : (0 : Int) ≤ (k : Int) := by omega
     have hk1 : (k : Int) < (hl : Int) := by omega
     have hin := rise_in HR.out (k := k) (by omega)
     have HSN := Lib.hid (stillF_snoc ys L k (by omega))
     clear hcell
     generalize L.getD k 0 = z at *
     have hz := of_decide_eq_true hin
     obtain ⟨j, rfl⟩ : ∃ j : Nat, z = (j : Int) := ⟨z.toNat, by omega⟩
     have hlx : (stillF ys (L.take k)).length = pl := by rw [stillF_len]; exact HX.out
     have hj : j < (stillF ys (L.take k)).length := by omega
     obtain ⟨u0, u1, u2, ⟨z0, z1, z2⟩, fu⟩ := S2.out.own.at hj
     have k0' := S2.out.own.2.1 (j * 3)
     have k1' := S2.out.own.2.1 (j * 3 + 1)
     have k2' := S2.out.own.2.1 (j * 3 + 2)
     have hj0 : (0 : Int) ≤ (j : Int) := by omega
     have hj1 : (j : Int) < (pl : Int) := by omega
     have S3 := Lib.hid (S2.out.put hj fz0)
     have hzz : zeroAt (stillF ys (L.take k)) (j : Int) = (stillF ys (L.take k)).set j (some 0, some 0, some 0) := rfl
     rw [← hzz, ← HSN.out] at S3
     clear hin hz hlx hj fu hzz HSN
     go_wp2
     go_roundw
     case rel => exact ⟨k + 1, by omega, by go_num, S3.out⟩
     case measure => simp [intOf]; omega
    ·obtain rfl : k = hl := by omega
     have S9 : Hid (St w ([] : List (Nat × List Value)) g (stillF ys L) wr) := Lib.hid (by have := S2.out; rwa [List.take_of_length_le (by omega)] at this)
     have hl2 : (stillF ys L).length = pl := by rw [stillF_len]; exact HX.out
     have hRV := RV.block (base := w.heap.size) (cap := cap) S9.out.2.2.1 (by rw [hl2]; exact HC.out.1) HC.out.2 S9.out.own
     rw [hl2] at hRV
     have HRV := Lib.hid hRV
     clear hRV hl2
     go_wp2
     go_ret
     exact ⟨_, rfl, HRV.out, S9.out.bel⟩
set_option maxHeartbeats 4000000 in
theorem l09Can (pb : Nat) (B : Bd) (c : Bc) (a1 : Option Addr) (n1 c1 : Nat) (L : List Int) (a2 : Option Addr) (n2 c2 : Nat) (x : Nat) (w : World) (A : At w pb B.l) (h : IsB w B c) (hL : IsIs w a1 n1 c1 L) (hx' : x < 4294967296) (hn : n2 ≤ 9223372036854775807) :
  Calls Tryz.prog 64 #[.pointer (some ⟨pb, 0, none⟩), .slice a1 n1 c1, .slice a2 n2 c2, .float .f32 x] w fun e w' => e = .returned (.bool (canB c L n2 x)) ∧ ∃ n, w' = w.drewN n := by
 have uib := Tryz.underlying44
 have uim := Tryz.underlying40
 have hpl : c.cs.length = B.pl := h.1.1
 have hm : B.pl ≤ 9223372036854775807 := by have h1 := h.1.2.1; have h2 := h.1.2.2.1; unfold maxLen at h2; omega
 have J := Lib.hid (l03Is pb B c w A h)
 have JH : Hid (∀ n, Calls Tryz.prog 116 #[.pointer (some ⟨pb, 0, none⟩), .slice a1 n1 c1] (w.drewN n) fun e w' => e = .returned (.bool (riseB B.pl L)) ∧ ∃ m, w' = (w.drewN n).drewN m) := Lib.hid (fun n => l05Held pb B c a1 n1 c1 L (w.drewN n) ((A.below (below_drewN (Below.refl _ _) n)) 0 _ rfl) hm (hL.below (below_drewN (Below.refl _ _) n)))
 have JP := Lib.hid (fun w1 => l03Positive x w1 hx')
 have k0 := A 0 _ rfl
 unfold canB heldB
 rw [hpl]
 clear h hL A hpl
 have he : ((n2 : Int) == (B.pl : Int)) = decide (n2 = B.pl) := by
  by_cases h : n2 = B.pl
  ·subst h; simp
  ·rw [decide_eq_false h]; simp; omega
 generalize decide (n2 = B.pl) = eb at *
 generalize bodyB c = bb at *
 generalize riseB B.pl L = rb at *
 generalize sizeB x = sb at *
 cases bb <;> cases rb <;> cases eb <;> cases sb
 all_goals
  go_enter Tryz.func64, Tryz.ntmps64
  go_wp2_with (first
   | (go_at_call 99; refine J.out.mono ?_; rintro e w1 ⟨rfl, n, hw⟩; rw [hw]; clear hw w1)
   | (go_at_call 116; refine (JH.out _).mono ?_; rintro e w1 ⟨rfl, n', hw⟩; rw [hw]; clear hw w1)
   | (go_at_call 100; refine (JP.out _).mono ?_; rintro e w1 ⟨rfl, n', hw⟩; rw [hw]; clear hw w1))
  go_ret
  exact ⟨rfl, _, by first | rfl | exact (by simp; rfl)⟩
end Go.Proofs.YtabccmobmppdnaaGreat
namespace Go.Proofs.YtabccmobmppdnaaGreat
open Go Fk Go.RowKit
set_option linter.unusedVariables false
set_option maxRecDepth 16000
def OwV (base : Nat) (w : World) (v : Value) (k : Nat) (G : Nat → C3) : Prop := ∃ xs, w.ownsRow base 42 3 v k xs ∧ PVf k xs G
theorem OwV.up {base : Nat} {w w' : World} {v : Value} {k : Nat} {G : Nat → C3} (h : OwV base w v k G) (hB : Below w.heap.size w w') : OwV base w' v k G := by
 obtain ⟨xs, h1, h2⟩ := h
 exact ⟨xs, owns_up h1 hB, h2⟩
theorem OwV.lit {w : World} {G : Nat → C3} (e : World) (he : e = w.alloc (.cells #[] 42)) : OwV w.heap.size e (.slice (some ⟨w.heap.size, 0, none⟩) 0 0) 0 G := by
 subst he
 exact ⟨[], World.ownsRow_lit (base := w.heap.size) (e := 42) (size := 3) w #[] 0 (Nat.le_refl _) (by decide) rfl, fun j hj => absurd hj (by omega)⟩
theorem PVf.app {k p q r : Nat} {xs : List Value} {G : Nat → C3} (h : PVf k xs G) (hl : xs.length = k * 3) (hf : F3 p q r (G k)) : PVf (k + 1) (xs ++ [.float .f32 p, .float .f32 q, .float .f32 r]) G := fun j hj => by
 by_cases hjk : j = k
 ·subst hjk
  refine ⟨p, q, r, ?_, ?_, ?_, hf⟩
  ·rw [List.getElem?_append_right (by omega), hl]; simp
  ·rw [List.getElem?_append_right (by omega), hl, show j * 3 + 1 - j * 3 = 1 by omega]; rfl
  ·rw [List.getElem?_append_right (by omega), hl, show j * 3 + 2 - j * 3 = 2 by omega]; rfl
 ·obtain ⟨p', q', r', e0, e1, e2, f⟩ := h j (by omega)
  exact ⟨p', q', r', by rw [List.getElem?_append_left (by omega)]; exact e0, by rw [List.getElem?_append_left (by omega)]; exact e1, by rw [List.getElem?_append_left (by omega)]; exact e2, f⟩
theorem OwV.rv {base : Nat} {w : World} {v : Value} {k : Nat} {G : Nat → C3} (h : OwV base w v k G) : RV base w v (mkG G k k) := by
 obtain ⟨xs, h1, h2⟩ := h
 have hp : PV k xs (mkG G k k) := fun j hj => by
  have e : (mkG G k k).getD j c0 = G j := by simp [mkG, List.getD, hj]
  rw [e]; exact h2 j hj
 rcases own_block h1 hp (mkG_len _ _ _) with ⟨rfl, hz⟩ | ⟨g, cap, rfl, hb, hc1, hc2, hO⟩
 ·subst hz
  exact RV.nil _ _
 ·have := RV.block (base := base) (cap := cap) hb (by rw [mkG_len]; exact hc1) hc2 hO
  rwa [mkG_len] at this
theorem ens_mv (c : Bc) (ys : List C3) (d : Option Nat) : ens (mvC c ys d) = ens c := by
 have hl : (mvC c ys d).cs.length = c.cs.length := mkM_len _ _ _ _ _
 have hg : hgT (mvC c ys d).cs (mvC c ys d).ts = hgT c.cs c.ts := by
  unfold hgT validB
  rw [hl]
  rfl
 unfold ens
 rw [hg]
 rfl
theorem frc_mv (c : Bc) (ys : List C3) (d : Option Nat) (n : Nat) (hn : n = c.cs.length) : addsF (mvC c ys d).cs (List.replicate n (some 0, some 0, some 0)) (ens (mvC c ys d)) = frcT c ys d := by
 rw [ens_mv, hn]
 rfl
set_option maxHeartbeats 8000000 in
theorem l09Times (pb : Nat) (B : Bd) (c : Bc) (ha : Option Addr) (hl hc : Nat) (L : List Int) (a : Option Addr) (cap : Nat) (ys : List C3) (x : Nat) (d : Option Nat) (w : World) (A : At w pb B.l) (h : IsB w B c) (hb : bodyB c = true) (hL : IsIs w ha hl hc L) (hr : riseB B.pl L = true) (hv : IsVs w a B.pl cap ys) (hx : FV .f32 x d) :
  Calls Tryz.prog 65 #[.pointer (some ⟨pb, 0, none⟩), .slice ha hl hc, .slice a B.pl cap, .float .f32 x] w fun e w' => ∃ v, e = .returned v ∧ RV w.heap.size w' v (stillF (mkG (timF c ys d) B.pl B.pl) L) ∧ Below w.heap.size w w' := by
 have uv := Tryz.underlying42
 have u := Tryz.underlying27
 obtain ⟨i0, hi, hz0, hz1, hz2⟩ := info_parts infoV
 have hpl : c.cs.length = B.pl := h.1.1
 have HPL : Hid (B.pl ≤ 64) := Lib.hid (by have := body64 hb; omega)
 have hm : B.pl ≤ 9223372036854775807 := by have := HPL.out; omega
 obtain ⟨q1, q2, q3, q4, q5⟩ := body_sizes hb
 have hln := h.lens
 have JM := Lib.hid (fun (x' : Nat) (d' : Option Nat) (hx' : FV .f32 x' d') (w1 : World) (hB : Below w.heap.size w w1) => l03Moved pb B c a cap ys x' d' w1 (A.below hB) (h.below hB) (hv.below hB) hx' (by omega) (by omega) (fun k hk => by have := q5 k (by omega); omega) (by omega) (by omega))
 have JF := Lib.hid (fun (d' : Option Nat) (B' : Bd) (b' : Nat) (w1 : World) (k1 : At w1 b' B'.l) (k2 : IsB w1 B' (mvC c ys d')) => l03Forces b' B' (mvC c ys d') w1 k1 k2 (mvC_body ys d' hb))
 have JE : Hid (∀ (d' : Option Nat) (B' : Bd) (w1 : World), IsB w1 B' (mvC c ys d') → B'.pl = B.pl ∧ addsF (mvC c ys d').cs (List.replicate B.pl (some 0, some 0, some 0)) (ens (mvC c ys d')) = frcT c ys d') := Lib.hid (fun d' B' w1 hI => ⟨by have h1 : (mvC c ys d').cs.length = B'.pl := hI.1.1; have h2 : (mvC c ys d').cs.length = c.cs.length := mkM_len _ _ _ _ _; omega, frc_mv c ys d' B.pl hpl.symm⟩)
 have JR := Lib.hid (fun va vc zs w1 k1 k2 => l09Freed va B.pl vc zs ha hl hc L w1 k1 k2 hr (by have := HPL.out; omega))
 have HL := Lib.hid hL
 have HX := Lib.hid hx
 have HNX : Hid (FV .f32 (Op.negFloat .f32 x) (negC32 d)) := Lib.hid (FV_neg32 hx)
 have HL1 : Hid ((frcT c ys (negC32 d)).length = B.pl) := Lib.hid (by rw [frcT_len, hpl])
 have HL2 : Hid ((frcT c ys d).length = B.pl) := Lib.hid (by rw [frcT_len, hpl])
 have HTF : Hid (∀ j, timF c ys d j = scaleC' (difC ((frcT c ys (negC32 d)).getD j c0) ((frcT c ys d).getD j c0)) (shrC d)) := Lib.hid (fun j => rfl)
 have E1 := Lib.hid (fun (B' : Bd) w1 (k : IsB w1 B' (mvC c ys (negC32 d))) => JE.out (negC32 d) B' w1 k)
 have E2 := Lib.hid (fun (B' : Bd) w1 (k : IsB w1 B' (mvC c ys d)) => JE.out d B' w1 k)
 clear h hv hL hx A q1 q2 q3 q4 q5 hln hpl hb JE hr
 generalize timF c ys d = TF at *
 generalize frcT c ys (negC32 d) = X1 at *
 generalize frcT c ys d = X2 at *
 go_enter Tryz.func65, Tryz.ntmps65
 go_wp2_with fail
 refine (JM.out _ _ HNX.out w (Below.refl _ _)).mono ?_
 rintro e w1 ⟨B1, rfl, hI1, _, hB1⟩
 have BX1 := Lib.hid ((Bx.nil w).call hB1)
 have BX2 := Lib.hid (BX1.out.box (vs := B1.l) (t := 44))
 have hX : Below w1.heap.size w1 (w1.alloc (BoxB B1 44)) := (Below.refl _ _).alloc (Nat.le_refl _) _
 have I1 := Lib.hid (hI1.below hX)
 clear hI1 hB1 hX BX1
 go_wp2_with fail
 change Calls _ _ _ (w1.alloc (BoxB B1 44)) _
 have BX3 : Hid (Bx w [(w1.heap.size, B1.l)] (w1.alloc (BoxB B1 44))) := BX2
 clear BX2
 generalize (w1.alloc (BoxB B1 44)) = W1 at *
 generalize w1.heap.size = S1 at *
 refine (JM.out _ _ HX.out W1 BX3.out.bel).mono ?_
 rintro e w2 ⟨B2, rfl, hI2, _, hB2⟩
 have BX4 := Lib.hid (BX3.out.call hB2)
 have BX5 : Hid (Bx w [(w2.heap.size, B2.l), (S1, B1.l)] (w2.alloc (BoxB B2 44))) := Lib.hid (BX4.out.box (vs := B2.l) (t := 44))
 have hX : Below w2.heap.size w2 (w2.alloc (BoxB B2 44)) := (Below.refl _ _).alloc (Nat.le_refl _) _
 have I2 := Lib.hid (hI2.below hX)
 have I1' := Lib.hid ((I1.out.below hB2).below hX)
 clear hI2 hB2 hX BX4 BX3 I1
 go_wp2_with fail
 change Calls _ _ _ (w2.alloc (BoxB B2 44)) _
 generalize (w2.alloc (BoxB B2 44)) = W2 at *
 generalize w2.heap.size = S2 at *
 refine (JF.out _ B1 S1 W2 (BX5.out.mem (.tail _ (.head _))) I1'.out).mono ?_
 rintro e w3 ⟨ga, rfl, hS⟩
 obtain ⟨hp1, hq1⟩ := E1.out B1 _ I1'.out
 rw [hp1, hq1] at hS
 rw [hp1]
 have OA := Lib.hid hS.own
 have BX6 := Lib.hid (BX5.out.call hS.bel)
 have I2' := Lib.hid (I2.out.below hS.bel)
 clear hS hp1 hq1 BX5 I2 I1'
 go_wp2_with fail
 refine (JF.out _ B2 S2 w3 (BX6.out.mem (.head _)) I2'.out).mono ?_
 rintro e w4 ⟨gb, rfl, hS⟩
 obtain ⟨hp2, hq2⟩ := E2.out B2 _ I2'.out
 rw [hp2, hq2] at hS
 rw [hp2]
 have OB := Lib.hid hS.own
 have OA' := Lib.hid (OA.out.below hS.bel)
 have BX7 := Lib.hid (BX6.out.call hS.bel)
 clear hS hp2 hq2 BX6 I2' OA
 have HSH := Lib.hid (fun w8 w9 : World => (show FV .f32 (fR .quo .f32 1065353216 (fR .mul .f32 1073741824 x w8) w9) (shrC d) from FV_fR one_FV32 (FV_fR two_FV HX.out)))
 go_wp2_with fail
 generalize hsh : fR BinOp.quo FloatKind.f32 1065353216 (fR BinOp.mul FloatKind.f32 1073741824 x w4) (w4.drewN (fN BinOp.mul FloatKind.f32 1073741824 x)) = sh at *
 have FSH : Hid (FV .f32 sh (shrC d)) := Lib.hid (hsh ▸ HSH.out w4 _)
 generalize (fN BinOp.mul FloatKind.f32 1073741824 x + fN BinOp.quo FloatKind.f32 1065353216 (fR BinOp.mul FloatKind.f32 1073741824 x w4)) = nd
 have hA : Below w4.heap.size w4 (w4.alloc (.cells #[] 42)) := (Below.refl _ _).alloc (Nat.le_refl _) _
 have B0 : Hid (Below w4.heap.size w4 ((w4.alloc (.cells #[] 42)).drewN nd)) := Lib.hid (below_drewN hA nd)
 have V0 : Hid (OwV w4.heap.size ((w4.alloc (.cells #[] 42)).drewN nd) (.slice (some ⟨w4.heap.size, 0, none⟩) 0 0) 0 TF) := Lib.hid ((OwV.lit _ rfl).up (below_drewN (Below.refl _ _) nd))
 clear HSH hsh hA
 generalize ((w4.alloc (.cells #[] 42)).drewN nd) = W5 at *
 generalize (Value.slice (some ⟨w4.heap.size, 0, none⟩) 0 0) = u0 at *
 go_loopw [33, 14] (fun i u14 w' => ∃ k : Nat, k ≤ B.pl ∧ i = .int .i64 k ∧ Aside (OwV w4.heap.size w' u14 k TF ∧ Below w4.heap.size w4 w')) (fun i _ _ => B.pl - (intOf i).toNat)
 case atStart => exact ⟨0, Nat.zero_le _, rfl, V0.out, B0.out⟩
 case round =>
  obtain ⟨k, hk, rfl, hA⟩ := hrel
  have VK := Lib.hid hA.out.1
  have BK := Lib.hid hA.out.2
  clear hA V0 B0
  by_cases hlt : k < B.pl
  ·obtain ⟨p', q', t', ⟨c0', c1', c2'⟩, fA⟩ := (OA'.out.below BK.out).at (k := k) (by rw [HL1.out]; exact hlt)
   obtain ⟨p2, q2, t2', ⟨d0', d1', d2'⟩, fB⟩ := (OB.out.below BK.out).at (k := k) (by rw [HL2.out]; exact hlt)
   have hk0 : (0 : Int) ≤ (k : Int) := by omega
   have hk1 : (k : Int) < (B.pl : Int) := by omega
   have HTK := Lib.hid (HTF.out k)
   have FA := Lib.hid fA
   have FB := Lib.hid fB
   have CA := Lib.hid (And.intro c0' (And.intro c1' c2'))
   have CB := Lib.hid (And.intro d0' (And.intro d1' d2'))
   have HKL := Lib.hid hlt
   clear fA fB c0' c1' c2' d0' d1' d2'
   generalize X1.getD k c0 = C1 at *
   generalize X2.getD k c0 = C2 at *
   go_wp2_with fail
   refine Reg5.wp_region_mix (m := 13) (C := fun w' => Below wr.heap.size wr w') (D := fun w' => Below w4.heap.size w4 w') (G := fun w1 w2 => Below w1.heap.size w1 w2) (G' := fun w1 w2 => w2 = w1)
    (R := fun i v w' => match i with
     | 0 => v = u14
     | 1 => v = .slice (some ⟨ga, 0, none⟩) B.pl B.pl
     | 2 => v = .int .i64 k
     | 3 => v = .pointer (some ⟨ga, k * 3, none⟩)
     | 4 => v = vv p' q' t'
     | 5 => v = .slice (some ⟨gb, 0, none⟩) B.pl B.pl
     | 6 => v = .int .i64 k
     | 7 => v = .pointer (some ⟨gb, k * 3, none⟩)
     | 8 => v = vv p2 q2 t2'
     | 9 => ∃ y z u, v = vv y z u ∧ F3 y z u (difC C1 C2)
     | 10 => v = .float .f32 sh
     | 11 => ∃ y z u, v = vv y z u ∧ F3 y z u (scaleC' (difC C1 C2) (shrC d))
     | 12 => ∃ b y z u', v = .slice (some ⟨b, 0, none⟩) 1 1 ∧ (w'.cell? ⟨b, 0, none⟩ = some (.float .f32 y) ∧ w'.cell? ⟨b, 1, none⟩ = some (.float .f32 z) ∧ w'.cell? ⟨b, 2, none⟩ = some (.float .f32 u')) ∧ F3 y z u' (scaleC' (difC C1 C2) (shrC d))
     | 13 => OwV w4.heap.size w' v (k + 1) TF
     | 14 => OwV w4.heap.size w' v (k + 1) TF
     | _ => True) (T := fun _ _ _ => True) [false, false, false, false, false, false, false, false, false, false, false, false, false, false, true, false, false, false, false, false, false, false, false, false, false, false, false, false, false, false, false, false, false, false, false, false, true, true, true, true, true, true, true, true, true, true, true, true, true, true, false, false, false, false]
    (by kernel_rfl) (by kernel_rfl) (by kernel_rfl) (by kernel_rfl) ?_ ?_ (below_drewN (Below.refl _ _) 1) ?_ ?_
   ·intro j v wa wb hjm _ hG hR
    match j with
    | 0 => exact hR
    | 1 => exact hR
    | 2 => exact hR
    | 3 => exact hR
    | 4 => exact hR
    | 5 => exact hR
    | 6 => exact hR
    | 7 => exact hR
    | 8 => exact hR
    | 9 => exact hR
    | 10 => exact hR
    | 11 => exact hR
    | 12 => obtain ⟨b, y, z, u', e, ⟨k0, k1, k2⟩, hf⟩ := hR; exact ⟨b, y, z, u', e, ⟨cell_below hG k0, cell_below hG k1, cell_below hG k2⟩, hf⟩
    | j + 13 => exact absurd hjm (by omega)
   ·intro j v wa wb _ _ hG hR
    rw [hG]; exact hR
   ·refine ⟨?_, ?_, ?_, ?_, ?_, ?_, ?_, ?_, ?_, ?_, ?_, ?_, ?_, ?_, ?_, trivial⟩
    ·refine Reg5.Obl.early rfl rfl ?_
     rintro av wq HC hx hd K hK
     replace HC := Lib.hid HC
     have t36 : av.tmps[14]?.getD undef = u14 := Reg.slot_val (hx 14 (by kernel_rfl))
     go_simp
     exact hK _ _ rfl HC.out (Below.refl _ _)
    ·refine Reg5.Obl.early rfl rfl ?_
     rintro av wq HC hx hd K hK
     replace HC := Lib.hid HC
     have t11 : av.tmps[11]?.getD undef = .slice (some ⟨ga, 0, none⟩) B.pl B.pl := Reg.slot_val (hx 11 (by kernel_rfl))
     go_simp
     exact hK _ _ rfl HC.out (Below.refl _ _)
    ·refine Reg5.Obl.early rfl rfl ?_
     rintro av wq HC hx hd K hK
     replace HC := Lib.hid HC
     have t15 : av.tmps[15]?.getD undef = .int .i64 k := Reg.slot_val (hx 15 (by kernel_rfl))
     go_simp
     exact hK _ _ rfl HC.out (Below.refl _ _)
    ·refine Reg5.Obl.early rfl rfl ?_
     rintro av wq HC hx hd K hK
     replace HC := Lib.hid HC
     have t37 : av.tmps[37]?.getD undef = .slice (some ⟨ga, 0, none⟩) B.pl B.pl := Reg.slot_val (hd 1 (by kernel_rfl) 37 rfl)
     have t38 : av.tmps[38]?.getD undef = .int .i64 k := Reg.slot_val (hd 2 (by kernel_rfl) 38 rfl)
     go_simp
     exact hK _ _ (by first | rfl | simp) HC.out (Below.refl _ _)
    ·refine Reg5.Obl.early rfl rfl ?_
     rintro av wq HC hx hd K hK
     replace HC := Lib.hid HC
     have t39 : av.tmps[39]?.getD undef = .pointer (some ⟨ga, k * 3, none⟩) := Reg.slot_val (hd 3 (by kernel_rfl) 39 rfl)
     have y0 := cell_below HC.out CA.out.1
     have y1 := cell_below HC.out CA.out.2.1
     have y2 := cell_below HC.out CA.out.2.2
     go_simp
     exact hK _ _ rfl HC.out (Below.refl _ _)
    ·refine Reg5.Obl.early rfl rfl ?_
     rintro av wq HC hx hd K hK
     replace HC := Lib.hid HC
     have t12 : av.tmps[12]?.getD undef = .slice (some ⟨gb, 0, none⟩) B.pl B.pl := Reg.slot_val (hx 12 (by kernel_rfl))
     go_simp
     exact hK _ _ rfl HC.out (Below.refl _ _)
    ·refine Reg5.Obl.early rfl rfl ?_
     rintro av wq HC hx hd K hK
     replace HC := Lib.hid HC
     have t15 : av.tmps[15]?.getD undef = .int .i64 k := Reg.slot_val (hx 15 (by kernel_rfl))
     go_simp
     exact hK _ _ rfl HC.out (Below.refl _ _)
    ·refine Reg5.Obl.early rfl rfl ?_
     rintro av wq HC hx hd K hK
     replace HC := Lib.hid HC
     have t41 : av.tmps[41]?.getD undef = .slice (some ⟨gb, 0, none⟩) B.pl B.pl := Reg.slot_val (hd 5 (by kernel_rfl) 41 rfl)
     have t42 : av.tmps[42]?.getD undef = .int .i64 k := Reg.slot_val (hd 6 (by kernel_rfl) 42 rfl)
     go_simp
     exact hK _ _ (by first | rfl | simp) HC.out (Below.refl _ _)
    ·refine Reg5.Obl.early rfl rfl ?_
     rintro av wq HC hx hd K hK
     replace HC := Lib.hid HC
     have t43 : av.tmps[43]?.getD undef = .pointer (some ⟨gb, k * 3, none⟩) := Reg.slot_val (hd 7 (by kernel_rfl) 43 rfl)
     have y0 := cell_below HC.out CB.out.1
     have y1 := cell_below HC.out CB.out.2.1
     have y2 := cell_below HC.out CB.out.2.2
     go_simp
     exact hK _ _ rfl HC.out (Below.refl _ _)
    ·refine Reg5.Obl.early rfl rfl ?_
     rintro av wq HC hx hd K hK
     replace HC := Lib.hid HC
     have t40 : av.tmps[40]?.getD undef = vv p' q' t' := Reg.slot_val (hd 4 (by kernel_rfl) 40 rfl)
     have t44 : av.tmps[44]?.getD undef = vv p2 q2 t2' := Reg.slot_val (hd 8 (by kernel_rfl) 44 rfl)
     go_simp
     refine (l01Less _ _ _ _ _ _ _ _ _ _ _ _ _ FA.out.1 FA.out.2.1 FA.out.2.2 FB.out.1 FB.out.2.1 FB.out.2.2).mono ?_
     rintro en w9 ⟨y', z', u', rfl, f0, f1, f2, hB9⟩
     exact hK _ _ ⟨y', z', u', rfl, f0, f1, f2⟩ (HC.out.trans (hB9.mono HC.out.size)) hB9
    ·refine Reg5.Obl.early rfl rfl ?_
     rintro av wq HC hx hd K hK
     replace HC := Lib.hid HC
     have t13 : av.tmps[13]?.getD undef = .float .f32 sh := Reg.slot_val (hx 13 (by kernel_rfl))
     go_simp
     exact hK _ _ rfl HC.out (Below.refl _ _)
    ·refine Reg5.Obl.early rfl rfl ?_
     rintro av wq HC hx hd K hK
     replace HC := Lib.hid HC
     have t46 : av.tmps[46]?.getD undef = .float .f32 sh := Reg.slot_val (hd 10 (by kernel_rfl) 46 rfl)
     obtain ⟨y, z, u', g45, f45⟩ := hd 9 (by kernel_rfl) 45 rfl
     have t45 := Reg.slot_val g45
     have F45 := Lib.hid f45
     clear g45 f45
     go_simp
     refine (l01Scale _ _ _ _ _ _ _ _ _ F45.out.1 F45.out.2.1 F45.out.2.2 FSH.out).mono ?_
     rintro en w9 ⟨y', z', u', rfl, f0, f1, f2, hB9⟩
     exact hK _ _ ⟨y', z', u', rfl, f0, f1, f2⟩ (HC.out.trans (hB9.mono HC.out.size)) hB9
    ·refine Reg5.Obl.early rfl rfl ?_
     rintro av wq HC hx hd K hK
     replace HC := Lib.hid HC
     obtain ⟨y, z, u', g47, f47⟩ := hd 11 (by kernel_rfl) 47 rfl
     have t47 := Reg.slot_val g47
     have F47 := Lib.hid f47
     clear g47 f47
     go_simp
     exact hK _ _ ⟨wq.heap.size, y, z, u', rfl, ⟨by simp, by simp, by simp⟩, F47.out⟩ (HC.out.alloc HC.out.size _) ((Below.refl _ _).alloc (Nat.le_refl _) _)
    ·refine Reg5.Obl.mid rfl rfl ?_
     rintro av wq hC hx hd K hK
     have t36 : av.eval (.tmp 36) = u14 := hd 0 (by kernel_rfl) 36 rfl
     obtain ⟨b, y, z, u', t48, ⟨k0, k1, k2⟩, f48⟩ := hd 12 (by kernel_rfl) 48 rfl
     obtain ⟨xs, hr, hxf⟩ := VK.out.up hC
     have hxl : xs.length = k * 3 := hr.1
     refine wp_append_own wq _ _ 36 rfl w4.heap.size 42 i0 (.agg #[.float .f32 0, .float .f32 0, .float .f32 0]) 3 12 Tryz.underlying36 hi hz0 hz1 hz2 rfl (by decide) u14 k xs t36 hr ⟨b, 0, none⟩ 1 1 [.float .f32 y, .float .f32 z, .float .f32 u'] t48 rfl (fun j u9 hj => ?_) (fun u9 hu9 => ?_) (by have := HPL.out; have := HKL.out; unfold maxLen; omega) (by have := HPL.out; have := HKL.out; omega) (Nat.le_trans BK.out.size hC.size) ?_
     ·match j, hj with
      | 0, hj => simp at hj; subst hj; rw [addr_add']; exact k0
      | 1, hj => simp at hj; subst hj; rw [addr_add']; exact k1
      | 2, hj => simp at hj; subst hj; rw [addr_add']; exact k2
     ·simp at hu9; rcases hu9 with rfl | rfl | rfl <;> rfl
     ·intro v' w9 ho hg _
      have hsz : w4.heap.size ≤ wq.heap.size := Nat.le_trans BK.out.size hC.size
      exact hK _ _ ⟨xs ++ [.float .f32 y, .float .f32 z, .float .f32 u'], by simpa using ho, hxf.app hxl (by rw [HTK.out]; exact f48)⟩ ((BK.out.trans (hC.mono BK.out.size)).grown hg hsz (fun q hq => (hr.lt q hq).1))
    ·refine Reg5.Obl.late rfl ?_
     rintro av wq hD1 hx hd K hK
     have HC := Lib.hid hD1; clear hD1
     have g := hd 13 (by kernel_rfl) (by omega) 49 rfl
     obtain ⟨u9, hu9⟩ : ∃ u9, u9 = av.eval (.tmp 49) := ⟨_, rfl⟩
     have t49 : av.tmps[49]?.getD undef = u9 := Reg.slot_val hu9.symm
     have g' : OwV w4.heap.size wq u9 (k + 1) TF := by rw [hu9]; exact g
     have G := Lib.hid g'
     clear g hu9 g'
     go_simp
     exact hK _ _ (fun _ => G.out) (fun h => by cases h) (fun _ => HC.out) (fun _ => rfl)
   ·rintro f wz hDR hT
    obtain ⟨hDD, hR⟩ := hDR (by decide)
    have g14 := hR 14 14 (by omega) rfl
    clear hDR
    have HG := Lib.hid g14
    have HDD := Lib.hid hDD
    clear g14 hDD hR hT
    simp only [Reg.mixL, Nat.zero_add, Nat.reduceAdd]
    go_wp2
    go_roundw
    case rel => exact ⟨k + 1, by omega, by go_num, HG.out, HDD.out⟩
    case measure => simp [intOf]; omega
  ·obtain rfl : k = B.pl := by omega
   have hrv := VK.out.rv
   obtain ⟨va, vc, e, hvs, _⟩ := hrv
   rw [mkG_len] at e hvs
   subst e
   have HVS := Lib.hid hvs
   have BXr := Lib.hid (BX7.out.call BK.out)
   clear VK hvs
   go_wp2_with fail
   refine (JR.out va vc _ wr HVS.out (HL.out.below BXr.out.bel)).mono ?_
   rintro e w9 ⟨v, rfl, hv9, hB9⟩
   have HV9 := Lib.hid (hv9.lowF (base' := w.heap.size) BXr.out.bel.size)
   have BX9 := Lib.hid (BXr.out.call hB9)
   clear hv9 hB9
   go_wp2
   go_ret
   exact ⟨v, rfl, HV9.out, BX9.out.bel⟩
end Go.Proofs.YtabccmobmppdnaaGreat
namespace Go.Proofs.YtabccmobmppdnaaGreat
open Go Fk Go.RowKit
set_option linter.unusedVariables false
set_option maxRecDepth 16000
set_option maxHeartbeats 4000000 in
theorem spec_StiffTimes (B : Bd) (c : Bc) (a1 : Option Addr) (n1 c1 : Nat) (L1 : List Int) (a2 : Option Addr) (n2 c2 : Nat) (y2 : List C3) (x : Nat) (d : Option Nat) (w : World) (h : IsB w B c) (h1 : IsIs w a1 n1 c1 L1) (h2 : IsVs w a2 n2 c2 y2) (h3 : FV .f32 x d) (g3 : x < 4294967296) :
  Calls Tryz.prog 17 #[B.v, .slice a1 n1 c1, .slice a2 n2 c2, .float .f32 x] w fun e w' => (∃ v, e = .returned (.tuple #[v, .bool (canB c L1 n2 x)]) ∧ RV w.heap.size w' v (stiT c L1 y2 d n2 x)) ∧ Below w.heap.size w w' := by
 have uib := Tryz.underlying44
 have BX : Hid (Bx w [(w.heap.size, B.l)] (w.alloc (BoxB B 44))) := Lib.hid ((Bx.nil w).box (vs := B.l) (t := 44))
 have hpl : c.cs.length = B.pl := h.1.1
 have hm : n2 ≤ 9223372036854775807 := by have k1 := h2.2.1; have k2 := h2.2.2.1; unfold maxLen at k2; omega
 have H := Lib.hid h
 have HL := Lib.hid h1
 have HV := Lib.hid h2
 have JC := Lib.hid (l09Can w.heap.size B c a1 n1 c1 L1 a2 n2 c2 x (w.alloc (BoxB B 44)) (BX.out.mem (.head _)) (h.below BX.out.bel) (h1.below BX.out.bel) g3 hm)
 cases hc : canB c L1 n2 x
 ·rw [hc] at JC
  have he : stiT c L1 y2 d n2 x = [] := by unfold stiT; rw [hc]; rfl
  rw [he]
  clear h h1 h2 h3 hpl hc he
  go_enter Tryz.func17, Tryz.ntmps17
  go_wp2_with fail
  change Calls _ _ _ (w.alloc (BoxB B 44)) _
  generalize (w.alloc (BoxB B 44)) = W at *
  refine JC.out.mono ?_
  rintro e w1 ⟨rfl, n, hw⟩
  have HB := Lib.hid (below_drewN BX.out.bel n)
  rw [hw]
  clear hw
  go_wp2
  go_ret2
  exact ⟨⟨_, rfl, RV.nil _ _⟩, HB.out⟩
 ·obtain ⟨q1, q2, q3, q4⟩ := can_parts hc
  have hn : n2 = B.pl := q4.trans hpl
  subst hn
  have JF := Lib.hid (fun w1 k1 k2 => l09Freed a2 B.pl c2 y2 a1 n1 c1 L1 w1 k1 k2 (hpl ▸ q2) (by have := body64 q1; omega))
  have JT := Lib.hid (fun va vc zs w1 k1 k2 k3 k4 => l09Times w.heap.size B c a1 n1 c1 L1 va vc zs x d w1 k1 k2 q1 k3 (hpl ▸ q2) k4 h3)
  have HE : Hid (stillF (mkG (timF c (stillF y2 L1) d) B.pl B.pl) L1 = timT c L1 y2 d) := Lib.hid (by unfold timT; rw [hpl])
  have HLT : Hid ((stillF y2 L1).length = B.pl) := Lib.hid (by rw [stillF_len]; exact h2.1)
  rw [hc] at JC
  have he : stiT c L1 y2 d B.pl x = timT c L1 y2 d := by unfold stiT; rw [hc]; rfl
  rw [he]
  generalize timT c L1 y2 d = T at *
  clear h h1 h2 h3 hpl hc he q1 q2 q3 q4
  go_enter Tryz.func17, Tryz.ntmps17
  go_wp2_with fail
  change Calls _ _ _ (w.alloc (BoxB B 44)) _
  generalize (w.alloc (BoxB B 44)) = W at *
  refine JC.out.mono ?_
  rintro e w1 ⟨rfl, n, hw⟩
  have BX1 : Hid (Bx w [(w.heap.size, B.l)] w1) := Lib.hid (by rw [hw]; exact BX.out.drewN n)
  clear hw BX JC
  go_wp2_with fail
  refine (JF.out w1 (HV.out.below BX1.out.bel) (HL.out.below BX1.out.bel)).mono ?_
  rintro e w2 ⟨v, rfl, ⟨va, vc, rfl, hvs, _⟩, hB2⟩
  rw [HLT.out] at hvs ⊢
  have BX2 := Lib.hid (BX1.out.call hB2)
  have HVS := Lib.hid hvs
  clear hB2 hvs BX1
  go_wp2_with fail
  refine (JT.out va vc _ w2 (BX2.out.mem (.head _)) (H.out.below BX2.out.bel) (HL.out.below BX2.out.bel) HVS.out).mono ?_
  rintro e w3 ⟨v, rfl, hv3, hB3⟩
  rw [HE.out] at hv3
  have HV3 := Lib.hid (hv3.lowF (base' := w.heap.size) BX2.out.bel.size)
  have BX3 := Lib.hid (BX2.out.call hB3)
  clear hv3 hB3
  go_wp2
  go_ret2
  exact ⟨⟨v, rfl, HV3.out⟩, BX3.out.bel⟩
end Go.Proofs.YtabccmobmppdnaaGreat
namespace Go.Proofs.YtabccmobmppdnaaGreat
open Go Fk Go.RowKit
set_option linter.unusedVariables false
theorem int_own {lo hi Q n cap : Nat} {w : World} {L : List Int} (h : IsIs w (some ⟨Q, 0, none⟩) n cap L) (hf : ∀ i, w.frozen? ⟨Q, i, none⟩ = false) (h1 : lo ≤ Q) (h2 : Q < hi) (h3 : Q < w.heap.size) : Own lo hi w Q 0 n := by
 refine ⟨h1, h2, h3, fun j hj => ⟨?_, hf _⟩⟩
 have k0 := h.2.2.2.2.2 _ rfl j hj
 rw [addr_add', Nat.zero_add] at k0
 rw [Nat.zero_add]
 exact ⟨_, k0⟩
end Go.Proofs.YtabccmobmppdnaaGreat

/-
Texts in one: what EnergiesAlong stands on, part 12. Conditions: those of each.
-/
import Derived.Test.YtabccmobmppdnaaGreatKEnergiesAlong11
import Derived.Lib.SmallJoins
import Derived.Test.YtabccmobmppdnaaGreatRows
import Derived.WalkKit
import Derived.ProofKit
import Derived.OpenShut
import Derived.ShutString
import Derived.ChangeOld
import Derived.Below
-- halved
namespace Go.Proofs.YtabccmobmppdnaaGreat
open Go Fk Go.RowKit
set_option linter.unusedVariables false
set_option maxRecDepth 16000
set_option maxHeartbeats 4000000 in
theorem l09Can (pb : Nat) (B : Bd) (c : Bc) (a1 : Option Addr) (n1 c1 : Nat) (L : List Int) (a2 : Option Addr) (n2 c2 : Nat) (x : Nat) (w : World) (A : At w pb B.l) (h : IsB w B c) (hL : IsIs w a1 n1 c1 L) (hx' : x < 4294967296) (hn : n2 ≤ 9223372036854775807) :
  Calls Tryz.prog 64 #[.pointer (some ⟨pb, 0, none⟩), .slice a1 n1 c1, .slice a2 n2 c2, .float .f32 x] w fun e w' => e = .returned (.bool (canB c L n2 x)) ∧ ∃ n, w' = w.drewN n := by
 have uib := Tryz.underlying44
 have uim := Tryz.underlying40
 have hpl : c.cs.length = B.pl := h.1.1
 have hm : B.pl ≤ 9223372036854775807 := by have h1 := h.1.2.1; have h2 := h.1.2.2.1; unfold maxLen at h2; omega
 have J := Lib.hid (l03Is pb B c w A h)
 have JH : Hid (∀ n, Calls Tryz.prog 116 #[.pointer (some ⟨pb, 0, none⟩), .slice a1 n1 c1] (w.drewN n) fun e w' => e = .returned (.bool (riseB B.pl L)) ∧ ∃ m, w' = (w.drewN n).drewN m) := Lib.hid (fun n => l05Held pb B c a1 n1 c1 L (w.drewN n) ((A.below (below_drewN (Below.refl _ _) n)) 0 _ rfl) hm (hL.below (below_drewN (Below.refl _ _) n)))
 have JP := Lib.hid (fun w1 => l03Positive x w1 hx')
 have k0 := A 0 _ rfl
 unfold canB heldB
 rw [hpl]
 clear h hL A hpl
 have he : ((n2 : Int) == (B.pl : Int)) = decide (n2 = B.pl) := by
  by_cases h : n2 = B.pl
  ·subst h; simp
  ·rw [decide_eq_false h]; simp; omega
 generalize decide (n2 = B.pl) = eb at *
 generalize bodyB c = bb at *
 generalize riseB B.pl L = rb at *
 generalize sizeB x = sb at *
 cases bb <;> cases rb <;> cases eb <;> cases sb
 all_goals
  go_enter Tryz.func64, Tryz.ntmps64
  go_wp2_with (first
   | (go_at_call 99; refine J.out.mono ?_; rintro e w1 ⟨rfl, n, hw⟩; rw [hw]; clear hw w1)
   | (go_at_call 116; refine (JH.out _).mono ?_; rintro e w1 ⟨rfl, n', hw⟩; rw [hw]; clear hw w1)
   | (go_at_call 100; refine (JP.out _).mono ?_; rintro e w1 ⟨rfl, n', hw⟩; rw [hw]; clear hw w1))
  go_ret
  exact ⟨rfl, _, by first | rfl | exact (by simp; rfl)⟩
end Go.Proofs.YtabccmobmppdnaaGreat
namespace Go.Proofs.YtabccmobmppdnaaGreat
open Go Fk Go.RowKit
set_option linter.unusedVariables false
set_option maxRecDepth 16000
theorem ens_mv (c : Bc) (ys : List C3) (d : Option Nat) : ens (mvC c ys d) = ens c := by
 have hl : (mvC c ys d).cs.length = c.cs.length := mkM_len _ _ _ _ _
 have hg : hgT (mvC c ys d).cs (mvC c ys d).ts = hgT c.cs c.ts := by
  unfold hgT validB
  rw [hl]
  rfl
 unfold ens
 rw [hg]
 rfl
end Go.Proofs.YtabccmobmppdnaaGreat
namespace Go.Proofs.YtabccmobmppdnaaGreat
open Go Fk Go.RowKit
set_option linter.unusedVariables false
set_option maxRecDepth 16000
theorem eng_mv (c : Bc) (ys : List C3) (d : Option Nat) : sum4 (mvC c ys d).cs (ens (mvC c ys d)) = engC c ys d := by
 rw [ens_mv]; rfl
theorem l03EnergyM (pb : Nat) (B : Bd) (c : Bc) (ys : List C3) (d : Option Nat) (w : World) (A : At w pb B.l) (h : IsB w B (mvC c ys d)) (hb : bodyB c = true) :
  Calls Tryz.prog 91 #[.pointer (some ⟨pb, 0, none⟩)] w fun e w' => ∃ r, e = .returned (.float .f32 r) ∧ FV .f32 r (engC c ys d) ∧ Below w.heap.size w w' := by
 rw [← eng_mv]
 exact l03Energy pb B (mvC c ys d) w A h (mvC_body ys d hb)
theorem pus_len (c : Bc) (ys : List C3) (d e : Option Nat) (n x : Nat) : SmallB (pusO c ys d e n x) ∧ ((pusO c ys d e n x).cs.length ≤ 64 ∧ (pusO c ys d e n x).ts.length ≤ 128 ∧ (pusO c ys d e n x).ss.length ≤ 200 ∧ (pusO c ys d e n x).zs.length ≤ 64) := by
 have key : ∀ C : Bc, bodyB C = true → SmallB C ∧ (C.cs.length ≤ 64 ∧ C.ts.length ≤ 128 ∧ C.ss.length ≤ 200 ∧ C.zs.length ≤ 64) := fun C hb => by
  obtain ⟨q1, q2, q3, q4, q5⟩ := body_sizes hb
  exact ⟨⟨⟨by omega, by omega, fun k hk => by have := q5 k hk; omega⟩, by omega, by omega⟩, q1, q2, q3, q4⟩
 unfold pusO
 cases h : canB c [] n x
 ·exact ⟨⟨⟨Nat.zero_le _, Nat.zero_le _, fun k hk => absurd hk (Nat.not_lt_zero k)⟩, Nat.zero_le _, Nat.zero_le _⟩, Nat.zero_le _, Nat.zero_le _, Nat.zero_le _, Nat.zero_le _⟩
 ·have hb := (can_parts h).1
  rw [cond_true]
  unfold pusC
  cases pusG c ys (fop .mul .f32 d e)
  ·exact key _ (mvC_body ys _ hb)
  ·exact key _ (mvC_body ys _ hb)
set_option maxHeartbeats 8000000 in
theorem spec_PushedBody (B : Bd) (c : Bc) (a1 : Option Addr) (n1 c1 : Nat) (y1 : List C3) (x2 : Nat) (d2 : Option Nat) (x3 : Nat) (d3 : Option Nat) (w : World) (h : IsB w B c) (h1 : IsVs w a1 n1 c1 y1) (h2 : FV .f32 x2 d2) (g2 : x2 < 4294967296) (h3 : FV .f32 x3 d3) (g3 : x3 < 4294967296) :
  Calls Tryz.prog 45 #[B.v, .slice a1 n1 c1, .float .f32 x2, .float .f32 x3] w fun e w' => (∃ (B' : Bd) (F : Nat), e = .returned (.tuple #[B'.v, .bool (canB c [] n1 x3)]) ∧ IsB w' B' (pusO c y1 d2 d3 n1 x3) ∧ F = 0) ∧ Below w.heap.size w w' := by
 have uib := Tryz.underlying44
 have u := Tryz.underlying27
 have bx1 := (Bx.nil w).box (vs := B.l) (t := 44)
 have bx2 := bx1.box (vs := Z9') (t := 44)
 have bx3 := bx2.box (vs := []) (t := 2)
 simp at bx3
 have BX := Lib.hid bx3
 have hpl : c.cs.length = B.pl := h.1.1
 have hm : n1 ≤ 9223372036854775807 := by have k1 := h1.2.1; have k2 := h1.2.2.1; unfold maxLen at k2; omega
 have H := Lib.hid h
 have HV := Lib.hid h1
 have HX2 := Lib.hid h2
 have HX3 := Lib.hid h3
 have HNI : Hid (∀ w1 : World, IsIs w1 (some ⟨w.heap.size + 1 + 1, 0, none⟩) 0 0 []) := Lib.hid (fun w1 => ⟨rfl, Nat.le_refl _, Nat.zero_le _, fun z hz => absurd hz (by simp), fun e => (by cases e), fun x hx j hj => absurd hj (by omega)⟩)
 have JC := Lib.hid (fun w1 k1 k2 => l09Can w.heap.size B c (some ⟨w.heap.size + 1 + 1, 0, none⟩) 0 0 [] a1 n1 c1 x3 w1 k1 k2 (HNI.out w1) g3 hm)
 cases hc : canB c [] n1 x3
 ·rw [hc] at JC
  have he : pusO c y1 d2 d3 n1 x3 = nilC := by unfold pusO; rw [hc]; rfl
  rw [he]
  clear h h1 h2 h3 bx1 bx2 bx3 hpl hc he
  go_enter Tryz.func45, Tryz.ntmps45
  go_wp2_with fail
  generalize hW : ((w.alloc (BoxB B 44)).alloc (.cells #[.slice none 0 0, .slice none 0 0, .slice none 0 0, .float .f32 0, .float .f32 0, .slice none 0 0, .float .f32 0, .float .f32 0, .float .f32 0] 44)).alloc (.cells #[] 2) = W
  have BX1 : Hid (Bx w [(w.heap.size + 1 + 1, []), (w.heap.size + 1, Z9'), (w.heap.size, B.l)] W) := Lib.hid (hW ▸ BX.out)
  clear BX hW
  refine (JC.out W (BX1.out.mem (.tail _ (.tail _ (.head _)))) (H.out.below BX1.out.bel)).mono ?_
  rintro e w1 ⟨rfl, n, hw⟩
  have BX2 : Hid (Bx w [(w.heap.size + 1, Z9'), (w.heap.size, B.l)] w1) := Lib.hid (by rw [hw]; exact (BX1.out.re (fun x hx => .tail _ hx)).drewN n)
  clear hw BX1 JC
  have q0 := (BX2.out.mem (.head _)) 0 _ rfl
  have p0 := BX2.out.free (.head _) 0
  have q1 := (BX2.out.mem (.head _)) 1 _ rfl
  have p1 := BX2.out.free (.head _) 1
  have q2 := (BX2.out.mem (.head _)) 2 _ rfl
  have p2 := BX2.out.free (.head _) 2
  have q3 := (BX2.out.mem (.head _)) 3 _ rfl
  have p3 := BX2.out.free (.head _) 3
  have q4 := (BX2.out.mem (.head _)) 4 _ rfl
  have p4 := BX2.out.free (.head _) 4
  have q5 := (BX2.out.mem (.head _)) 5 _ rfl
  have p5 := BX2.out.free (.head _) 5
  have q6 := (BX2.out.mem (.head _)) 6 _ rfl
  have p6 := BX2.out.free (.head _) 6
  have q7 := (BX2.out.mem (.head _)) 7 _ rfl
  have p7 := BX2.out.free (.head _) 7
  have q8 := (BX2.out.mem (.head _)) 8 _ rfl
  have p8 := BX2.out.free (.head _) 8
  have BZ := Lib.hid (Bx.setAll (vs := Z9') BX2.out (fun b' l' hm => by simp only [List.mem_cons, Prod.mk.injEq, List.not_mem_nil, or_false] at hm; omega) rfl)
  simp only [setL, Nat.zero_add, Nat.reduceAdd] at BZ
  go_wp2
  clear q0 q1 q2 q3 q4 q5 q6 q7 q8 p0 p1 p2 p3 p4 p5 p6 p7 p8
  have m0 := (BZ.out.mem (.head _)) 0 _ rfl
  have m1 := (BZ.out.mem (.head _)) 1 _ rfl
  have m2 := (BZ.out.mem (.head _)) 2 _ rfl
  have m3 := (BZ.out.mem (.head _)) 3 _ rfl
  have m4 := (BZ.out.mem (.head _)) 4 _ rfl
  have m5 := (BZ.out.mem (.head _)) 5 _ rfl
  have m6 := (BZ.out.mem (.head _)) 6 _ rfl
  have m7 := (BZ.out.mem (.head _)) 7 _ rfl
  have m8 := (BZ.out.mem (.head _)) 8 _ rfl
  refine bodyPost_ret (v := .tuple #[nilB.v, .bool false]) (by simp [results, Tryz.results45, go_sem, nilB, m0, m1, m2, m3, m4, m5, m6, m7, m8]) rfl ?_
  exact ⟨⟨nilB, 0, rfl, nil_isb _, rfl⟩, BZ.out.bel⟩
 ·rw [hc] at JC
  obtain ⟨q1, q2, q3, q4⟩ := can_parts hc
  have hn : n1 = B.pl := q4.trans hpl
  subst hn
  have he : pusO c y1 d2 d3 B.pl x3 = pusC c y1 (fop .mul .f32 d2 d3) := by unfold pusO; rw [hc]; rfl
  rw [he]
  obtain ⟨s1, s2, s3, s4, s5⟩ := body_sizes q1
  have hln := h.lens
  have JM := Lib.hid (fun (x' : Nat) (d' : Option Nat) (hx' : FV .f32 x' d') (w1 : World) k1 k2 k3 => l03Moved w.heap.size B c a1 c1 y1 x' d' w1 k1 k2 k3 hx' (by omega) (by omega) (fun k hk => by have := s5 k (by omega); omega) (by omega) (by omega))
  have JE := Lib.hid (fun pb (B' : Bd) d w1 k1 k2 => l03EnergyM pb B' c y1 d w1 k1 k2 q1)
  have HQ := Lib.hid (fun w9 : World => (show FV .f32 (fR .mul .f32 x2 x3 w9) (fop .mul .f32 d2 d3) from FV_fR h2 h3))
  clear h h1 h2 h3 bx1 bx2 bx3 hpl hc he q1 q2 q3 q4 s1 s2 s3 s4 s5 hln
  unfold pusC pusG
  generalize hDD : fop .mul .f32 d2 d3 = DD at *
  have HDD := Lib.hid hDD
  clear hDD
  go_enter Tryz.func45, Tryz.ntmps45
  go_wp2_with fail
  generalize hW : ((w.alloc (BoxB B 44)).alloc (.cells #[.slice none 0 0, .slice none 0 0, .slice none 0 0, .float .f32 0, .float .f32 0, .slice none 0 0, .float .f32 0, .float .f32 0, .float .f32 0] 44)).alloc (.cells #[] 2) = W
  have BX1 : Hid (Bx w [(w.heap.size + 1 + 1, []), (w.heap.size + 1, Z9'), (w.heap.size, B.l)] W) := Lib.hid (hW ▸ BX.out)
  clear BX hW
  refine (JC.out W (BX1.out.mem (.tail _ (.tail _ (.head _)))) (H.out.below BX1.out.bel)).mono ?_
  rintro e w1 ⟨rfl, n, hw⟩
  have BX2 : Hid (Bx w [(w.heap.size + 1, Z9'), (w.heap.size, B.l)] w1) := Lib.hid (by rw [hw]; exact (BX1.out.re (fun x hx => .tail _ hx)).drewN n)
  clear hw BX1 JC
  go_wp2_with fail
  generalize hq : fR .mul .f32 x2 x3 w1 = q at *
  generalize fN .mul .f32 x2 x3 = nq at *
  have FQ : Hid (FV .f32 q DD) := Lib.hid (hq ▸ HQ.out w1)
  have FNQ : Hid (FV .f32 (Op.negFloat .f32 q) (negC32 DD)) := Lib.hid (FV_neg32 FQ.out)
  have BX3 := Lib.hid (BX2.out.drewN nq)
  clear hq HQ BX2
  generalize w1.drewN nq = w2 at *
  refine (JM.out _ _ FQ.out w2 (BX3.out.mem (.tail _ (.head _))) (H.out.below BX3.out.bel) (HV.out.below BX3.out.bel)).mono ?_
  rintro e w3 ⟨B1, rfl, hI1, hL1, hB1⟩
  have BX4 := Lib.hid (BX3.out.call hB1)
  have BX5 : Hid (Bx w [(w3.heap.size, B1.l), (w.heap.size + 1, Z9'), (w.heap.size, B.l)] (w3.alloc (BoxB B1 44))) := Lib.hid (BX4.out.box (vs := B1.l) (t := 44))
  have hX : Below w3.heap.size w3 (w3.alloc (BoxB B1 44)) := (Below.refl _ _).alloc (Nat.le_refl _) _
  have hs1 : w.heap.size + 1 < w2.heap.size := (BX3.out.2 _ _ (.head _)).2.2.1
  have I1 := Lib.hid (And.intro (hI1.below hX) (hL1.agree (S := fun _ => True) (fun _ _ _ => trivial) (Agree.of_below hX)))
  have HS1 := Lib.hid hs1
  clear hI1 hL1 hB1 hX hs1 BX3 BX4
  go_wp2_with fail
  change Calls _ _ _ (w3.alloc (BoxB B1 44)) _
  generalize (w3.alloc (BoxB B1 44)) = W3 at *
  generalize hsz3 : w3.heap.size = S1 at *
  clear hsz3
  refine (JM.out _ _ FNQ.out W3 (BX5.out.mem (.tail _ (.tail _ (.head _)))) (H.out.below BX5.out.bel) (HV.out.below BX5.out.bel)).mono ?_
  rintro e w4 ⟨B2, rfl, hI2, hL2, hB2⟩
  have BX6 := Lib.hid (BX5.out.call hB2)
  have BX7 : Hid (Bx w [(w4.heap.size, B2.l), (S1, B1.l), (w.heap.size + 1, Z9'), (w.heap.size, B.l)] (w4.alloc (BoxB B2 44))) := Lib.hid (BX6.out.box (vs := B2.l) (t := 44))
  have hX : Below w4.heap.size w4 (w4.alloc (BoxB B2 44)) := (Below.refl _ _).alloc (Nat.le_refl _) _
  have hs2 : w.heap.size + 1 < W3.heap.size := (BX5.out.2 _ _ (.tail _ (.head _))).2.2.1
  have I2 := Lib.hid (And.intro (hI2.below hX) (hL2.agree (S := fun _ => True) (fun _ _ _ => trivial) (Agree.of_below hX)))
  have I1' := Lib.hid (And.intro ((I1.out.1.below hB2).below hX) ((I1.out.2.agree (S := fun _ => True) (fun _ _ _ => trivial) (Agree.of_below hB2)).agree (S := fun _ => True) (fun _ _ _ => trivial) (Agree.of_below hX)))
  have HS2 := Lib.hid hs2
  clear hI2 hL2 hB2 hX hs2 BX5 BX6 I1
  go_wp2_with fail
  change Calls _ _ _ (w4.alloc (BoxB B2 44)) _
  generalize (w4.alloc (BoxB B2 44)) = W4 at *
  generalize hsz4 : w4.heap.size = S2 at *
  clear hsz4
  refine (JE.out S1 B1 _ W4 (BX7.out.mem (.tail _ (.head _))) I1'.out.1).mono ?_
  rintro e w5 ⟨r1, rfl, hr1, hB5⟩
  have BX8 := Lib.hid (BX7.out.call hB5)
  have I2' := Lib.hid (And.intro (I2.out.1.below hB5) (I2.out.2.agree (S := fun _ => True) (fun _ _ _ => trivial) (Agree.of_below hB5)))
  have I1'' := Lib.hid (And.intro (I1'.out.1.below hB5) (I1'.out.2.agree (S := fun _ => True) (fun _ _ _ => trivial) (Agree.of_below hB5)))
  have R1 := Lib.hid hr1
  clear hr1 hB5 BX7 I2 I1'
  go_wp2_with fail
  refine (JE.out S2 B2 _ w5 (BX8.out.mem (.head _)) I2'.out.1).mono ?_
  rintro e w6 ⟨r2, rfl, hr2, hB6⟩
  have BX9 := Lib.hid (BX8.out.call hB6)
  have J2 := Lib.hid (And.intro (I2'.out.1.below hB6) (I2'.out.2.agree (S := fun _ => True) (fun _ _ _ => trivial) (Agree.of_below hB6)))
  have J1 := Lib.hid (And.intro (I1''.out.1.below hB6) (I1''.out.2.agree (S := fun _ => True) (fun _ _ _ => trivial) (Agree.of_below hB6)))
  have ho := ford_of R1.out hr2
  clear hr2 hB6 BX8 I2' I1'' R1
  have hgo : (FloatKind.f32.format.order r1 r2 == some .gt) = (ford .f32 (engC c y1 DD) (engC c y1 (negC32 DD)) == some .gt) := by rw [ho]
  clear ho
  generalize hgt : (ford .f32 (engC c y1 DD) (engC c y1 (negC32 DD)) == some .gt) = gt at *
  have HGT := Lib.hid hgt
  clear hgt
  cases gt
  ·have b0 := (BX9.out.mem (.tail _ (.head _))) 0 _ rfl
   have b1 := (BX9.out.mem (.tail _ (.head _))) 1 _ rfl
   have b2 := (BX9.out.mem (.tail _ (.head _))) 2 _ rfl
   have b3 := (BX9.out.mem (.tail _ (.head _))) 3 _ rfl
   have b4 := (BX9.out.mem (.tail _ (.head _))) 4 _ rfl
   have b5 := (BX9.out.mem (.tail _ (.head _))) 5 _ rfl
   have b6 := (BX9.out.mem (.tail _ (.head _))) 6 _ rfl
   have b7 := (BX9.out.mem (.tail _ (.head _))) 7 _ rfl
   have b8 := (BX9.out.mem (.tail _ (.head _))) 8 _ rfl
   have BXa := Lib.hid (BX9.out.re (L' := [(w.heap.size + 1, Z9'), (w.heap.size, B.l)]) (fun x hx => by simp only [List.mem_cons, List.not_mem_nil, or_false] at hx ⊢; rcases hx with h | h <;> simp [h]))
   have BZ := Lib.hid (Bx.setAll (vs := B1.l) BXa.out (fun b' l' hm => by simp only [List.mem_cons, Prod.mk.injEq, List.not_mem_nil, or_false] at hm; omega) rfl)
   have hs1 := HS1.out
   have hs2 := HS2.out
   have AG := Agree.setL (S := fun b => b ≠ w.heap.size + 1) (g := w.heap.size + 1) (fun h => h rfl) B1.l w6 0 (Agree.refl _ w6)
   have hI' := J1.out.1.agree J1.out.2 (fun b k1 k2 => by show b ≠ _; omega) AG
   have HI := Lib.hid hI'
   simp only [setL, Nat.zero_add, Nat.reduceAdd] at BZ HI
   clear AG hI' hs1 hs2
   have q0 := (BXa.out.mem (.head _)) 0 _ rfl
   have p0 := BXa.out.free (.head _) 0
   have q1 := (BXa.out.mem (.head _)) 1 _ rfl
   have p1 := BXa.out.free (.head _) 1
   have q2 := (BXa.out.mem (.head _)) 2 _ rfl
   have p2 := BXa.out.free (.head _) 2
   have q3 := (BXa.out.mem (.head _)) 3 _ rfl
   have p3 := BXa.out.free (.head _) 3
   have q4 := (BXa.out.mem (.head _)) 4 _ rfl
   have p4 := BXa.out.free (.head _) 4
   have q5 := (BXa.out.mem (.head _)) 5 _ rfl
   have p5 := BXa.out.free (.head _) 5
   have q6 := (BXa.out.mem (.head _)) 6 _ rfl
   have p6 := BXa.out.free (.head _) 6
   have q7 := (BXa.out.mem (.head _)) 7 _ rfl
   have p7 := BXa.out.free (.head _) 7
   have q8 := (BXa.out.mem (.head _)) 8 _ rfl
   have p8 := BXa.out.free (.head _) 8
   go_wp2
   clear q0 q1 q2 q3 q4 q5 q6 q7 q8 p0 p1 p2 p3 p4 p5 p6 p7 p8 b0 b1 b2 b3 b4 b5 b6 b7 b8
   have m0 := (BZ.out.mem (.head _)) 0 _ rfl
   have m1 := (BZ.out.mem (.head _)) 1 _ rfl
   have m2 := (BZ.out.mem (.head _)) 2 _ rfl
   have m3 := (BZ.out.mem (.head _)) 3 _ rfl
   have m4 := (BZ.out.mem (.head _)) 4 _ rfl
   have m5 := (BZ.out.mem (.head _)) 5 _ rfl
   have m6 := (BZ.out.mem (.head _)) 6 _ rfl
   have m7 := (BZ.out.mem (.head _)) 7 _ rfl
   have m8 := (BZ.out.mem (.head _)) 8 _ rfl
   refine bodyPost_ret (v := .tuple #[B1.v, .bool true]) (by simp [results, Tryz.results45, go_sem, m0, m1, m2, m3, m4, m5, m6, m7, m8]) rfl ?_
   exact ⟨⟨B1, 0, rfl, by rw [HGT.out]; exact HI.out, rfl⟩, BZ.out.bel⟩
  ·have b0 := (BX9.out.mem (.head _)) 0 _ rfl
   have b1 := (BX9.out.mem (.head _)) 1 _ rfl
   have b2 := (BX9.out.mem (.head _)) 2 _ rfl
   have b3 := (BX9.out.mem (.head _)) 3 _ rfl
   have b4 := (BX9.out.mem (.head _)) 4 _ rfl
   have b5 := (BX9.out.mem (.head _)) 5 _ rfl
   have b6 := (BX9.out.mem (.head _)) 6 _ rfl
   have b7 := (BX9.out.mem (.head _)) 7 _ rfl
   have b8 := (BX9.out.mem (.head _)) 8 _ rfl
   have BXa := Lib.hid (BX9.out.re (L' := [(w.heap.size + 1, Z9'), (w.heap.size, B.l)]) (fun x hx => by simp only [List.mem_cons, List.not_mem_nil, or_false] at hx ⊢; rcases hx with h | h <;> simp [h]))
   have BZ := Lib.hid (Bx.setAll (vs := B2.l) BXa.out (fun b' l' hm => by simp only [List.mem_cons, Prod.mk.injEq, List.not_mem_nil, or_false] at hm; omega) rfl)
   have hs1 := HS1.out
   have hs2 := HS2.out
   have AG := Agree.setL (S := fun b => b ≠ w.heap.size + 1) (g := w.heap.size + 1) (fun h => h rfl) B2.l w6 0 (Agree.refl _ w6)
   have hI' := J2.out.1.agree J2.out.2 (fun b k1 k2 => by show b ≠ _; omega) AG
   have HI := Lib.hid hI'
   simp only [setL, Nat.zero_add, Nat.reduceAdd] at BZ HI
   clear AG hI' hs1 hs2
   have q0 := (BXa.out.mem (.head _)) 0 _ rfl
   have p0 := BXa.out.free (.head _) 0
   have q1 := (BXa.out.mem (.head _)) 1 _ rfl
   have p1 := BXa.out.free (.head _) 1
   have q2 := (BXa.out.mem (.head _)) 2 _ rfl
   have p2 := BXa.out.free (.head _) 2
   have q3 := (BXa.out.mem (.head _)) 3 _ rfl
   have p3 := BXa.out.free (.head _) 3
   have q4 := (BXa.out.mem (.head _)) 4 _ rfl
   have p4 := BXa.out.free (.head _) 4
   have q5 := (BXa.out.mem (.head _)) 5 _ rfl
   have p5 := BXa.out.free (.head _) 5
   have q6 := (BXa.out.mem (.head _)) 6 _ rfl
   have p6 := BXa.out.free (.head _) 6
   have q7 := (BXa.out.mem (.head _)) 7 _ rfl
   have p7 := BXa.out.free (.head _) 7
   have q8 := (BXa.out.mem (.head _)) 8 _ rfl
   have p8 := BXa.out.free (.head _) 8
   go_wp2
   clear q0 q1 q2 q3 q4 q5 q6 q7 q8 p0 p1 p2 p3 p4 p5 p6 p7 p8 b0 b1 b2 b3 b4 b5 b6 b7 b8
   have m0 := (BZ.out.mem (.head _)) 0 _ rfl
   have m1 := (BZ.out.mem (.head _)) 1 _ rfl
   have m2 := (BZ.out.mem (.head _)) 2 _ rfl
   have m3 := (BZ.out.mem (.head _)) 3 _ rfl
   have m4 := (BZ.out.mem (.head _)) 4 _ rfl
   have m5 := (BZ.out.mem (.head _)) 5 _ rfl
   have m6 := (BZ.out.mem (.head _)) 6 _ rfl
   have m7 := (BZ.out.mem (.head _)) 7 _ rfl
   have m8 := (BZ.out.mem (.head _)) 8 _ rfl
   refine bodyPost_ret (v := .tuple #[B2.v, .bool true]) (by simp [results, Tryz.results45, go_sem, m0, m1, m2, m3, m4, m5, m6, m7, m8]) rfl ?_
   exact ⟨⟨B2, 0, rfl, by rw [HGT.out]; exact HI.out, rfl⟩, BZ.out.bel⟩
end Go.Proofs.YtabccmobmppdnaaGreat
namespace Go.Proofs.YtabccmobmppdnaaGreat
open Go Fk Go.RowKit
set_option linter.unusedVariables false
set_option maxRecDepth 16000
set_option maxHeartbeats 8000000 in
theorem spec_EnergiesAlong (B : Bd) (c : Bc) (a1 : Option Addr) (n1 c1 : Nat) (y1 : List C3) (x2 : Nat) (d2 : Option Nat) (z3 : Int) (w : World) (h : IsB w B c) (h1 : IsVs w a1 n1 c1 y1) (h2 : FV .f32 x2 d2) (g2 : x2 < 4294967296) (h3 : (Lit.int .i64 z3).wf = true) :
  Calls Tryz.prog 40 #[B.v, .slice a1 n1 c1, .float .f32 x2, .int .i64 z3] w fun e w' => (∃ (a : Option Addr) (q : Nat), e = .returned (.tuple #[.slice a (eaO c y1 d2 n1 x2 z3).length q, .bool (eaB c n1 x2 z3)]) ∧ IsCs32 w' a (eaO c y1 d2 n1 x2 z3).length q (eaO c y1 d2 n1 x2 z3) ∧ Lst w.heap.size w'.heap.size w' a (eaO c y1 d2 n1 x2 z3).length) ∧ Below w.heap.size w w' := by
 have uib := Tryz.underlying44
 have u := Tryz.underlying27
 obtain ⟨i0, hi, hz0, hz1, hz2⟩ := info_parts info32
 have bx1 := (Bx.nil w).box (vs := B.l) (t := 44)
 have bx2 := bx1.box (vs := []) (t := 2)
 simp at bx2
 have BX := Lib.hid bx2
 have hpl : c.cs.length = B.pl := h.1.1
 have hm : n1 ≤ 9223372036854775807 := by have k1 := h1.2.1; have k2 := h1.2.2.1; unfold maxLen at k2; omega
 have H := Lib.hid h
 have HV := Lib.hid h1
 have HX2 := Lib.hid h2
 have HNI : Hid (∀ w1 : World, IsIs w1 (some ⟨w.heap.size + 1, 0, none⟩) 0 0 []) := Lib.hid (fun w1 => ⟨rfl, Nat.le_refl _, Nat.zero_le _, fun z hz => absurd hz (by simp), fun e => (by cases e), fun x hx j hj => absurd hj (by omega)⟩)
 have JC := Lib.hid (fun w1 k1 k2 => l09Can w.heap.size B c (some ⟨w.heap.size + 1, 0, none⟩) 0 0 [] a1 n1 c1 x2 w1 k1 k2 (HNI.out w1) g2 hm)
 have JA : Hid (∀ w1, Calls Tryz.prog 80 #[.int .i64 z3, .int .i64 0, .int .i64 40] w1 fun e w' => e = .returned (.bool (inR z3)) ∧ w' = w1) := Lib.hid (fun w1 => l00In' z3 0 40 w1)
 cases hc : canB c [] n1 x2
 ·rw [hc] at JC
  have he : eaO c y1 d2 n1 x2 z3 = [] := by unfold eaO eaB; rw [hc]; rfl
  have he2 : eaB c n1 x2 z3 = false := by unfold eaB; rw [hc]; rfl
  rw [he, he2]
  clear h h1 h2 h3 bx1 bx2 hpl hc he he2
  go_enter Tryz.func40, Tryz.ntmps40
  go_wp2_with fail
  generalize hW : (w.alloc (BoxB B 44)).alloc (.cells #[] 2) = W
  have BX1 : Hid (Bx w [(w.heap.size + 1, []), (w.heap.size, B.l)] W) := Lib.hid (hW ▸ BX.out)
  clear BX hW
  refine (JC.out W (BX1.out.mem (.tail _ (.head _))) (H.out.below BX1.out.bel)).mono ?_
  rintro e w1 ⟨rfl, n, hw⟩
  have BX2 : Hid (Bx w [(w.heap.size, B.l)] w1) := Lib.hid (by rw [hw]; exact (BX1.out.re (fun x hx => .tail _ hx)).drewN n)
  clear hw BX1 JC
  go_wp2
  go_ret2
  exact ⟨⟨none, 0, rfl, nil_cs _, .inl ⟨rfl, rfl⟩⟩, BX2.out.bel⟩
 ·rw [hc] at JC
  have he2 : eaB c n1 x2 z3 = inR z3 := by unfold eaB; rw [hc]; rfl
  cases hz : inR z3
  ·rw [hz] at JA he2
   have he : eaO c y1 d2 n1 x2 z3 = [] := by unfold eaO; rw [he2]; rfl
   rw [he, he2]
   clear h h1 h2 h3 bx1 bx2 hpl hc he he2 hz
   go_enter Tryz.func40, Tryz.ntmps40
   go_wp2_with fail
   generalize hW : (w.alloc (BoxB B 44)).alloc (.cells #[] 2) = W
   have BX1 : Hid (Bx w [(w.heap.size + 1, []), (w.heap.size, B.l)] W) := Lib.hid (hW ▸ BX.out)
   clear BX hW
   refine (JC.out W (BX1.out.mem (.tail _ (.head _))) (H.out.below BX1.out.bel)).mono ?_
   rintro e w1 ⟨rfl, n, hw⟩
   have BX2 : Hid (Bx w [(w.heap.size, B.l)] w1) := Lib.hid (by rw [hw]; exact (BX1.out.re (fun x hx => .tail _ hx)).drewN n)
   clear hw BX1 JC
   go_wp2_with fail
   refine (JA.out _).mono ?_
   rintro e w2 ⟨rfl, hw⟩
   rw [hw]
   clear hw
   go_wp2
   go_ret2
   exact ⟨⟨none, 0, rfl, nil_cs _, .inl ⟨rfl, rfl⟩⟩, BX2.out.bel⟩
  ·rw [hz] at JA he2
   obtain ⟨q1, q2, q3, q4⟩ := can_parts hc
   have hn : n1 = B.pl := q4.trans hpl
   subst hn
   obtain ⟨N, rfl, hN⟩ := inR_parts hz
   have he : eaO c y1 d2 B.pl x2 (N : Int) = eaL c y1 d2 N := by unfold eaO; rw [he2, Int.toNat_natCast]; rfl
   rw [he, he2, eaL_len]
   obtain ⟨s1, s2, s3, s4, s5⟩ := body_sizes q1
   have hln := h.lens
   have JM := Lib.hid (fun (x' : Nat) (d' : Option Nat) (hx' : FV .f32 x' d') (w1 : World) k1 k2 k3 => l03Moved w.heap.size B c a1 c1 y1 x' d' w1 k1 k2 k3 hx' (by omega) (by omega) (fun k hk => by have := s5 k (by omega); omega) (by omega) (by omega))
   have JE := Lib.hid (fun pb (B' : Bd) d w1 k1 k2 => l03EnergyM pb B' c y1 d w1 k1 k2 q1)
   have HFE : Hid (∀ j, eaF c y1 d2 N j = engC c y1 (stpC d2 N j)) := Lib.hid (fun j => rfl)
   have HFIN := Lib.hid (fun (W w9 : World) v (k : OwnC W.heap.size w9 v (2 * N + 1) (eaF c y1 d2 N)) => k.fin hN)
   clear h h1 h2 h3 bx1 bx2 hpl hc he he2 hz q1 q2 q3 q4 s1 s2 s3 s4 s5 hln
   generalize eaF c y1 d2 N = EF at *
   generalize eaL c y1 d2 N = EL at *
   go_enter Tryz.func40, Tryz.ntmps40
   go_wp2_with fail
   generalize hW : (w.alloc (BoxB B 44)).alloc (.cells #[] 2) = W
   have BX1 : Hid (Bx w [(w.heap.size + 1, []), (w.heap.size, B.l)] W) := Lib.hid (hW ▸ BX.out)
   clear BX hW
   refine (JC.out W (BX1.out.mem (.tail _ (.head _))) (H.out.below BX1.out.bel)).mono ?_
   rintro e w1 ⟨rfl, n, hw⟩
   have BX2 : Hid (Bx w [(w.heap.size, B.l)] w1) := Lib.hid (by rw [hw]; exact (BX1.out.re (fun x hx => .tail _ hx)).drewN n)
   clear hw BX1 JC
   go_wp2_with fail
   refine (JA.out _).mono ?_
   rintro e w2 ⟨rfl, hw⟩
   rw [hw]
   clear hw
   go_wp2_with fail
   have hV0 : OwnC w1.heap.size (w1.alloc (.cells #[] 27)) (.slice (some ⟨w1.heap.size, 0, none⟩) 0 0) 0 EF := ⟨[], World.ownsRow_lit (base := w1.heap.size) (e := 27) (size := 1) w1 #[] 0 (Nat.le_refl _) (by decide) rfl, rfl, fun k hk => absurd hk (by omega)⟩
   have V0 := Lib.hid hV0
   have B0 : Hid (Below w1.heap.size w1 (w1.alloc (.cells #[] 27))) := Lib.hid ((Below.refl _ _).alloc (Nat.le_refl _) _)
   clear hV0
   generalize (w1.alloc (.cells #[] 27)) = W3 at *
   generalize (Value.slice (some ⟨w1.heap.size, 0, none⟩) 0 0) = u0 at *
   go_loopw [11, 10] (fun i u10 w' => ∃ j : Nat, j ≤ 2 * N + 1 ∧ i = .int .i64 (-(N : Int) + (j : Int)) ∧ Aside (OwnC w1.heap.size w' u10 j EF ∧ Below w1.heap.size w1 w')) (fun i _ _ => (N + 1 - intOf i).toNat)
   case atStart => exact ⟨0, Nat.zero_le _, by simp, V0.out, B0.out⟩
   case round =>
    obtain ⟨j, hj, rfl, hA⟩ := hrel
    have VK := Lib.hid hA.out.1
    have HBW := Lib.hid hA.out.2
    have BK := Lib.hid (BX2.out.call hA.out.2)
    clear hA V0 B0
    generalize hzz : -(N : Int) + (j : Int) = zz at *
    by_cases hlt : j < 2 * N + 1
    ·have hk1 : zz ≤ (N : Int) := by omega
     have HZ := Lib.hid hzz
     have HJL := Lib.hid hlt
     have HQ : Hid (FV .f32 (fR .mul .f32 x2 (floatOfInt .f32 zz) wr) (stpC d2 N j)) := Lib.hid (by unfold stpC; rw [hzz]; exact FV_fR HX2.out (fvInt zz))
     have HEJ := Lib.hid (HFE.out j)
     generalize stpC d2 N j = DJ at *
     clear hzz hlt hj
     go_wp2_with fail
     generalize fR .mul .f32 x2 (floatOfInt .f32 zz) wr = q at *
     generalize fN .mul .f32 x2 (floatOfInt .f32 zz) = nq at *
     have BK1 := Lib.hid (BK.out.drewN nq)
     have HB1 : Hid (Below wr.heap.size wr (wr.drewN nq)) := Lib.hid (below_drewN (Below.refl _ _) nq)
     generalize wr.drewN nq = w4 at *
     refine (JM.out q DJ HQ.out w4 (BK1.out.mem (.head _)) (H.out.below BK1.out.bel) (HV.out.below BK1.out.bel)).mono ?_
     rintro e w5 ⟨B1, rfl, hI1, _, hB5⟩
     have hX : Below w5.heap.size w5 (w5.alloc (BoxB B1 44)) := (Below.refl _ _).alloc (Nat.le_refl _) _
     have A1 : Hid (At (w5.alloc (BoxB B1 44)) w5.heap.size B1.l) := Lib.hid At.new
     have I1 := Lib.hid (hI1.below hX)
     have HB6 := Lib.hid (HB1.out.trans ((hB5.trans (hX.mono hB5.size)).mono HB1.out.size))
     clear hI1 hB5 hX BK1 HB1
     go_wp2_with fail
     change Calls _ _ _ (w5.alloc (BoxB B1 44)) _
     generalize (w5.alloc (BoxB B1 44)) = W5 at *
     generalize w5.heap.size = S5 at *
     refine (JE.out S5 B1 DJ W5 A1.out I1.out).mono ?_
     rintro e w6 ⟨r, rfl, hr, hB7⟩
     have HB8 := Lib.hid (HB6.out.trans (hB7.mono HB6.out.size))
     have HB9 := Lib.hid (HBW.out.trans (HB8.out.mono HBW.out.size))
     have HR := Lib.hid hr
     have VK2 := Lib.hid (VK.out.up HB8.out)
     clear hB7 hr A1 I1 HB6
     obtain ⟨zs, hzr, hzl, hzf⟩ := VK2.out
     have HZR := Lib.hid hzr
     have HZF := Lib.hid (And.intro hzl hzf)
     have hbz := HB9.out.size
     clear hzr hzl hzf VK2
     go_wp2_with (at_builtin; refine wpList_append_own _ rfl _ _ 28 rfl w1.heap.size 27 i0 (.float .f32 0) 1 4 Tryz.underlying28 hi hz0 hz1 hz2 rfl (by decide) _ _ _ rfl (HZR.out.alloc _) ⟨w6.heap.size, 0, none⟩ 1 1 [.float .f32 r] ?c0 rfl ?c1 ?c2 ?c3 ?c4 ?c5 ?_)
     try (case c0 => first | rfl | (simp [Act.eval]))
     case c1 =>
      intro j9 u9 hj9
      match j9, hj9 with
      | 0, hj9 => simp at hj9; subst hj9; rw [addr_add']; simp
     case c2 => first | exact ⟨rfl, trivial⟩ | (intro u9 hu9; simp at hu9; subst hu9; rfl)
     case c3 => have := HJL.out; unfold maxLen; omega
     case c4 => have := HJL.out; omega
     case c5 => simp; omega
     intro v' w7 hown' hgrow hnil
     have hB1 := HB9.out.alloc hbz (.cells #[.float .f32 r] 27)
     have HB10 := Lib.hid (hB1.grown hgrow hB1.size (fun k hk => (HZR.out.lt k hk).1))
     have HO1 := Lib.hid (OwnC.app (x := r) (v := u10) (w := w6) HZF.out.1 HZF.out.2 (by simpa using hown') (by rw [HEJ.out]; exact HR.out))
     have hz' := HZ.out
     have hj' := HJL.out
     have hw1 : wrap64 (zz + 1) = zz + 1 := by first | exact wrap64_id (by omega) (by omega) | (unfold wrap64; omega)
     clear hown' hgrow hB1 hnil
     go_wp2
     go_roundw
     case rel => exact ⟨j + 1, by omega, by rw [show zz + 1 = -(N : Int) + ((j + 1 : Nat) : Int) by omega], HO1.out, HB10.out⟩
     case measure => simp [intOf]; omega
    ·obtain rfl : j = 2 * N + 1 := by omega
     have hk1 : ¬ zz ≤ (N : Int) := by omega
     obtain ⟨ga, gq, e, hI, hLs⟩ := HFIN.out w1 wr u10 VK.out
     subst e
     have HI := Lib.hid hI
     have HLs := Lib.hid (lst_widen hLs (lo' := w.heap.size) BX2.out.bel.size (Nat.le_refl _))
     have HBB := Lib.hid BK.out.bel
     clear hI hLs VK BK hzz
     go_wp2
     go_ret2
     exact ⟨⟨ga, gq, rfl, HI.out, HLs.out⟩, HBB.out⟩
end Go.Proofs.YtabccmobmppdnaaGreat
namespace Go.Proofs.YtabccmobmppdnaaGreat
open Go Fk Go.RowKit
set_option linter.unusedVariables false
theorem FlM.below {w w' : World} {a : Option Addr} {n q : Nat} (h : FlM w a n q) (hB : Below w.heap.size w w') : FlM w' a n q := h.imp id fun ⟨P, e, hc⟩ => ⟨P, e, fun j hj => cell_below hB (hc j hj)⟩
end Go.Proofs.YtabccmobmppdnaaGreat
namespace Go.Proofs.YtabccmobmppdnaaGreat
open Go Fk Go.RowKit
set_option linter.unusedVariables false
set_option maxRecDepth 16000
set_option maxHeartbeats 40000000 in
theorem energiesAlong_law (B : Bd) (c : Bc) (a1 : Option Addr) (n1 c1 : Nat) (y1 : List C3) (x2 : Nat) (d2 : Option Nat) (z3 : Int) (w : World) (h0 : IsB w B c) (h1 : IsVs w a1 n1 c1 y1) (h2 : FV .f32 x2 d2) (g2 : x2 < 4294967296) (h3 : (Lit.int .i64 z3).wf = true) :
  Calls Tryz.prog 9 #[B.v, .slice a1 n1 c1, .float .f32 x2, .int .i64 z3] w fun e w' => e = .returned (.bool true) ∧ Below w.heap.size w w' := by
 have ulb := Tryz.underlying32
 have uib := Tryz.underlying44
 have BX : Hid (Bx w [(w.heap.size, B.l)] (w.alloc (BoxB B 32))) := Lib.hid ((Bx.nil w).box (vs := B.l) (t := 32))
 have HSP := Lib.hid (fun (B : Bd) (a1 : Option Addr) (c1 : Nat) (w : World) (h0 : IsB w B c) (h1 : IsVs w a1 n1 c1 y1) => spec_EnergiesAlong B c a1 n1 c1 y1 x2 d2 z3 w h0 h1 h2 g2 h3)
 have HIM := Lib.hid (fun (B : Bd) (a1 : Option Addr) (c1 : Nat) (w : World) (h0 : IsB w B c) (h1 : IsVs w a1 n1 c1 y1) => impl_EnergiesAlong B c a1 n1 c1 y1 x2 d2 z3 w h0 h1 h2 g2 h3)
 have HB := Lib.hid h0
 have H1 := Lib.hid h1
 have hm1 : n1 ≤ 9223372036854775807 := by have qq := h1.2.1; have qr := h1.2.2.1; unfold maxLen at qr; omega
 have H2 := Lib.hid h2
 have H3 := Lib.hid h3
 have len0 := eaO_len c y1 d2 n1 x2 z3
 generalize eaO c y1 d2 n1 x2 z3 = R0 at *
 generalize eaB c n1 x2 z3 = R1 at *
 clear h0 h1 h2 h3
 generalize hR0 : R0.length = m0 at *
 have HR0 := Lib.hid hR0
 clear hR0
 have ve1 : (R1 == R1) = true := by cases R1 <;> rfl
 have vn1 : (R1 != R1) = false := by cases R1 <;> rfl
 go_enter Tryz.func9, Tryz.ntmps9
 go_wp2_with fail
 change Calls _ _ _ (w.alloc (BoxB B 32)) _
 generalize (w.alloc (BoxB B 32)) = W0 at *
 refine (laws_szBody' B c 1048576 _ (HB.out.below BX.out.bel) (by decide) (by decide)).mono ?_
 rintro e w1 ⟨⟨r, rfl, hr⟩, hB⟩
 replace BX := Lib.hid (BX.out.call hB)
 clear hB
 rcases hr with rfl | ⟨hr0, hr1, hs⟩
 ·go_wp2
  go_ret
  exact ⟨rfl, BX.out.bel⟩
 have HS := Lib.hid hs
 clear hs
 go_wp2_with fail
 refine (laws_szVectorS a1 n1 c1 r w1 hr0 hr1 hm1).mono ?_
 rintro e w2 ⟨⟨r1_, rfl, hr⟩, hw⟩
 rw [hw]
 clear hw
 rcases hr with rfl | ⟨hq1, hp1, hl1⟩
 ·go_wp2
  go_ret
  exact ⟨rfl, BX.out.bel⟩
 have r0 := (BX.out.mem (.head _)) 0 _ rfl
 have r1 := (BX.out.mem (.head _)) 1 _ rfl
 have r2 := (BX.out.mem (.head _)) 2 _ rfl
 have r3 := (BX.out.mem (.head _)) 3 _ rfl
 have r4 := (BX.out.mem (.head _)) 4 _ rfl
 have r5 := (BX.out.mem (.head _)) 5 _ rfl
 have r6 := (BX.out.mem (.head _)) 6 _ rfl
 have r7 := (BX.out.mem (.head _)) 7 _ rfl
 have r8 := (BX.out.mem (.head _)) 8 _ rfl
 go_wp2_with fail
 clear r0 r1 r2 r3 r4 r5 r6 r7 r8
 refine (laws_toBody B c _ (HB.out.below BX.out.bel) HS.out).mono ?_
 rintro e w3 ⟨Ys, rfl, hI, hB⟩
 replace BX := Lib.hid (BX.out.call hB)
 have Z1 := Lib.hid (hB.size)
 clear hB
 have Is := Lib.hid hI
 clear hI
 go_wp2_with fail
 refine (laws_toVectorS a1 n1 c1 y1 w3 (H1.out.below BX.out.bel) hl1).mono ?_
 rintro e w4 ⟨rfl, hi, hB, _⟩
 replace BX := Lib.hid (BX.out.call hB)
 replace Is := Lib.hid (Is.out.below hB)
 have Z2 := Lib.hid (hB.size)
 clear hB
 have Js1 := Lib.hid hi
 clear hi
 go_wp2_with fail
 refine (HSP.out Ys _ _ _ Is.out Js1.out).mono ?_
 rintro e w5 ⟨⟨fs0, qs0, rfl, hf0, hls0⟩, hB⟩
 clear Is Js1
 replace BX := Lib.hid (BX.out.call hB)
 clear hB
 have LT : Hid (w.heap.size < w5.heap.size) := Lib.hid (BX.out.mem (.head _)).lt
 have SI0 := Lib.hid hf0
 clear hf0 hls0
 have r0 := (BX.out.mem (.head _)) 0 _ rfl
 have r1 := (BX.out.mem (.head _)) 1 _ rfl
 have r2 := (BX.out.mem (.head _)) 2 _ rfl
 have r3 := (BX.out.mem (.head _)) 3 _ rfl
 have r4 := (BX.out.mem (.head _)) 4 _ rfl
 have r5 := (BX.out.mem (.head _)) 5 _ rfl
 have r6 := (BX.out.mem (.head _)) 6 _ rfl
 have r7 := (BX.out.mem (.head _)) 7 _ rfl
 have r8 := (BX.out.mem (.head _)) 8 _ rfl
 go_wp2_with fail
 clear r0 r1 r2 r3 r4 r5 r6 r7 r8
 have SX := Lib.hid (Below.refl w5.heap.size w5)
 refine (laws_toBodyO B c _ (HB.out.below BX.out.bel) HS.out).mono ?_
 rintro e w6 ⟨X0, rfl, hI, hO, hB⟩
 replace BX := Lib.hid (BX.out.call hB)
 replace SX := Lib.hid (SX.out.trans (hB.mono SX.out.size))
 have Z3 := Lib.hid (hB.size)
 clear hB
 have M := Lib.hid (And.intro hI hO)
 clear hI hO
 have hA : Below w6.heap.size w6 (w6.alloc (BoxB X0 44)) := (Below.refl _ _).alloc (Nat.le_refl _) _
 have BX' : Hid (Bx w [(w6.heap.size, X0.l), (w.heap.size, B.l)] (w6.alloc (BoxB X0 44))) := Lib.hid (BX.out.box (vs := X0.l) (t := 44))
 replace BX := BX'
 clear BX'
 replace SX := Lib.hid (SX.out.trans (hA.mono SX.out.size))
 replace M := Lib.hid (And.intro (M.out.1.below hA) (M.out.2.below hA))
 have Z4 := Lib.hid (show (w6.alloc (BoxB X0 44)).heap.size = w6.heap.size + 1 by simp)
 clear hA
 go_wp2_with fail
 change Calls _ _ _ (w6.alloc (BoxB X0 44)) _
 generalize (w6.alloc (BoxB X0 44)) = w7 at *
 generalize w6.heap.size = X at *
 refine (laws_toVectorS' a1 n1 c1 y1 _ (H1.out.below BX.out.bel) hl1).mono ?_
 rintro e w8 ⟨rfl, hi, hB, hlt, hf⟩
 replace BX := Lib.hid (BX.out.call hB)
 replace SX := Lib.hid (SX.out.trans (hB.mono SX.out.size))
 replace M := Lib.hid (And.intro (M.out.1.below hB) (M.out.2.below hB))
 have Z5 := Lib.hid (hB.size)
 clear hB
 have J1 := Lib.hid (And.intro hi (vec_own (lo := w7.heap.size) (hi := w8.heap.size) hi hf (Nat.le_refl _) hlt hlt))
 have Z6 := Lib.hid (hlt)
 clear hi hf hlt
 obtain ⟨Q1, hQ1⟩ : ∃ Q, Q = w7.heap.size := ⟨_, rfl⟩
 have Z7 := Lib.hid (hQ1)
 rw [← hQ1] at J1 ⊢
 clear hQ1
 have r0 := (BX.out.mem (.head _)) 0 _ rfl
 have r1 := (BX.out.mem (.head _)) 1 _ rfl
 have r2 := (BX.out.mem (.head _)) 2 _ rfl
 have r3 := (BX.out.mem (.head _)) 3 _ rfl
 have r4 := (BX.out.mem (.head _)) 4 _ rfl
 have r5 := (BX.out.mem (.head _)) 5 _ rfl
 have r6 := (BX.out.mem (.head _)) 6 _ rfl
 have r7 := (BX.out.mem (.head _)) 7 _ rfl
 have r8 := (BX.out.mem (.head _)) 8 _ rfl
 go_wp2_with fail
 clear r0 r1 r2 r3 r4 r5 r6 r7 r8
 refine (HIM.out X0 _ _ _ M.out.1 J1.out.1).mono ?_
 rintro e w9 ⟨⟨fg0, qg0, rfl, hf0, hlg0⟩, hB⟩
 replace BX := Lib.hid (BX.out.call hB)
 replace SX := Lib.hid (SX.out.trans (hB.mono SX.out.size))
 replace M := Lib.hid (And.intro (M.out.1.below hB) (M.out.2.below hB))
 replace J1 := Lib.hid (And.intro (J1.out.1.below hB) (J1.out.2.below hB))
 have Z8 := Lib.hid (hB.size)
 clear hB
 have GI0 := Lib.hid hf0
 have GL0 := Lib.hid hlg0
 clear hf0 hlg0
 go_wp2_with fail
 refine (eq_floats _ _ _ _ _ _ _ GI0.out (SI0.out.below SX.out) (by omega)).mono ?_
 rintro e w10 ⟨rfl, nd, hw⟩
 have hB : Below w9.heap.size w9 w10 := by rw [hw]; exact below_drewN (Below.refl _ _) _
 clear hw
 replace BX := Lib.hid (BX.out.call hB)
 replace SX := Lib.hid (SX.out.trans (hB.mono SX.out.size))
 replace M := Lib.hid (And.intro (M.out.1.below hB) (M.out.2.below hB))
 replace J1 := Lib.hid (And.intro (J1.out.1.below hB) (J1.out.2.below hB))
 replace GI0 := Lib.hid (GI0.out.below hB)
 replace GL0 := Lib.hid (GL0.out.below hB)
 have Z9 := Lib.hid (hB.size)
 clear hB
 go_wp2_with fail
 refine Reg.wp_region_mix (C := fun w' => Below w10.heap.size w10 w') (G := fun w1 w2 => Below w1.heap.size w1 w2) (R := fun i v w' => match i with | 0 => v = X0.v | 1 => v = B.v | 2 => ∃ Y : Bd, v = Y.v ∧ IsB w' Y c | 3 => v = .bool true | 4 => v = .bool false | _ => True) (T := fun _ _ _ => True) [false, false, false, false, false, false, false, false, false, false, false, false, false, false, false, false, false, false, false, false, false, false, false, false, false, false, false, false, false, false, false, false, false, false, false, false, false, false, false, false, false, false, false, false, false, false, false, false, false, false, false, false, false, false, false, false, false, false, false, false, false, false, true, true, true, true, true, false, false, false, false, false, false, false, false, false, false, false, false, false, false, false, false, false, false, false, false, false, false, false, false, false, false, false, false, false, false, false, false, false, false, false, false, false, false, false, false, false, false, false, false, false, false, false, false, false, false, false, false, false, false, false, false, false, false, false, false, false, false]
  (by kernel_rfl) (by kernel_rfl) (by kernel_rfl) ?_ (below_drewN (Below.refl _ _) 1) ?_ ?_
 ·intro j v w1 w2 _ hG hR
  match j with
  | 0 => exact hR
  | 1 => exact hR
  | 2 => obtain ⟨Y, e, h1⟩ := hR; exact ⟨Y, e, h1.below hG⟩
  | 3 => exact hR
  | 4 => exact hR
  | _ + 5 => trivial
 ·refine ⟨Reg.Obl.mk ?_, Reg.Obl.mk ?_, Reg.Obl.mk ?_, Reg.Obl.mk ?_, Reg.Obl.mk ?_, trivial⟩
  ·rintro av wq hB hx hd K hK
   have HC := Lib.hid hB; clear hB
   have t12 : av.tmps[12]?.getD undef = .pointer (some ⟨X, 0, none⟩) := Reg.slot_val (hx 12 (by kernel_rfl))
   have y0 := ((BX.out.call HC.out).mem (.head _)) 0 _ rfl
   have y1 := ((BX.out.call HC.out).mem (.head _)) 1 _ rfl
   have y2 := ((BX.out.call HC.out).mem (.head _)) 2 _ rfl
   have y3 := ((BX.out.call HC.out).mem (.head _)) 3 _ rfl
   have y4 := ((BX.out.call HC.out).mem (.head _)) 4 _ rfl
   have y5 := ((BX.out.call HC.out).mem (.head _)) 5 _ rfl
   have y6 := ((BX.out.call HC.out).mem (.head _)) 6 _ rfl
   have y7 := ((BX.out.call HC.out).mem (.head _)) 7 _ rfl
   have y8 := ((BX.out.call HC.out).mem (.head _)) 8 _ rfl
   go_simp
   exact hK _ _ (fun _ => rfl) (fun h => by cases h) HC.out (Below.refl _ _)
  ·rintro av wq hB hx hd K hK
   have HC := Lib.hid hB; clear hB
   have t4 : av.tmps[4]?.getD undef = .pointer (some ⟨w.heap.size, 0, none⟩) := Reg.slot_val (hx 4 (by kernel_rfl))
   have y0 := ((BX.out.call HC.out).mem (.tail _ (.head _))) 0 _ rfl
   have y1 := ((BX.out.call HC.out).mem (.tail _ (.head _))) 1 _ rfl
   have y2 := ((BX.out.call HC.out).mem (.tail _ (.head _))) 2 _ rfl
   have y3 := ((BX.out.call HC.out).mem (.tail _ (.head _))) 3 _ rfl
   have y4 := ((BX.out.call HC.out).mem (.tail _ (.head _))) 4 _ rfl
   have y5 := ((BX.out.call HC.out).mem (.tail _ (.head _))) 5 _ rfl
   have y6 := ((BX.out.call HC.out).mem (.tail _ (.head _))) 6 _ rfl
   have y7 := ((BX.out.call HC.out).mem (.tail _ (.head _))) 7 _ rfl
   have y8 := ((BX.out.call HC.out).mem (.tail _ (.head _))) 8 _ rfl
   go_simp
   exact hK _ _ (fun _ => rfl) (fun h => by cases h) HC.out (Below.refl _ _)
  ·rintro av wq hB hx hd K hK
   have HC := Lib.hid hB; clear hB
   have t63 : av.tmps[63]?.getD undef = B.v := Reg.slot_val (hd 1 (by kernel_rfl) 63 rfl)
   go_simp
   refine (laws_toBody B c _ (HB.out.below (BX.out.call HC.out).bel) HS.out).mono ?_
   rintro en w2 ⟨Y, rfl, hV, hB2⟩
   exact hK _ _ (fun _ => ⟨Y, rfl, hV⟩) (fun h => by cases h) (HC.out.trans (hB2.mono HC.out.size)) hB2
  ·rintro av wq hB hx hd K hK
   have HC := Lib.hid hB; clear hB
   have t62 : av.tmps[62]?.getD undef = X0.v := Reg.slot_val (hd 0 (by kernel_rfl) 62 rfl)
   obtain ⟨Y, g2, hV⟩ := hd 2 (by kernel_rfl) 64 rfl
   have t64 := Reg.slot_val g2
   clear g2
   have HVe := Lib.hid hV
   clear hV
   go_simp
   refine (laws_eqBody X0 Y c _ (M.out.1.below HC.out) HVe.out HS.out).mono ?_
   rintro en w2 ⟨rfl, hB2⟩
   exact hK _ _ (fun _ => rfl) (fun h => by cases h) (HC.out.trans (hB2.mono HC.out.size)) hB2
  ·rintro av wq hB hx hd K hK
   have t65 : av.tmps[65]?.getD undef = .bool true := Reg.slot_val (hd 3 (by kernel_rfl) 65 rfl)
   go_simp
   exact hK _ _ (fun _ => rfl) (fun h => by cases h) hB (Below.refl _ _)
 rintro f w11 hB hd hTT
 have gg : f 66 = .bool false := hd 4 66 rfl
 simp only [Reg.mixL, gg]
 clear hd hTT gg
 replace BX := Lib.hid (BX.out.call hB)
 replace SX := Lib.hid (SX.out.trans (hB.mono SX.out.size))
 replace M := Lib.hid (And.intro (M.out.1.below hB) (M.out.2.below hB))
 replace J1 := Lib.hid (And.intro (J1.out.1.below hB) (J1.out.2.below hB))
 replace GI0 := Lib.hid (GI0.out.below hB)
 replace GL0 := Lib.hid (GL0.out.below hB)
 have Z10 := Lib.hid (hB.size)
 clear hB
 go_wp2_with fail
 refine (laws_toVectorS a1 n1 c1 y1 w11 (H1.out.below BX.out.bel) hl1).mono ?_
 rintro e w12 ⟨rfl, hi, hB, _⟩
 replace BX := Lib.hid (BX.out.call hB)
 replace SX := Lib.hid (SX.out.trans (hB.mono SX.out.size))
 replace M := Lib.hid (And.intro (M.out.1.below hB) (M.out.2.below hB))
 replace J1 := Lib.hid (And.intro (J1.out.1.below hB) (J1.out.2.below hB))
 replace GI0 := Lib.hid (GI0.out.below hB)
 replace GL0 := Lib.hid (GL0.out.below hB)
 have Z11 := Lib.hid (hB.size)
 clear hB
 have JY1 := Lib.hid hi
 clear hi
 go_wp2_with fail
 refine (laws_eqVectorS _ _ n1 _ _ y1 _ J1.out.1 JY1.out).mono ?_
 rintro e w13 ⟨rfl, hB⟩
 clear JY1
 replace BX := Lib.hid (BX.out.call hB)
 replace SX := Lib.hid (SX.out.trans (hB.mono SX.out.size))
 replace M := Lib.hid (And.intro (M.out.1.below hB) (M.out.2.below hB))
 replace J1 := Lib.hid (And.intro (J1.out.1.below hB) (J1.out.2.below hB))
 replace GI0 := Lib.hid (GI0.out.below hB)
 replace GL0 := Lib.hid (GL0.out.below hB)
 have Z12 := Lib.hid (hB.size)
 clear hB
 have r0 := (BX.out.mem (.head _)) 0 _ rfl
 have r1 := (BX.out.mem (.head _)) 1 _ rfl
 have r2 := (BX.out.mem (.head _)) 2 _ rfl
 have r3 := (BX.out.mem (.head _)) 3 _ rfl
 have r4 := (BX.out.mem (.head _)) 4 _ rfl
 have r5 := (BX.out.mem (.head _)) 5 _ rfl
 have r6 := (BX.out.mem (.head _)) 6 _ rfl
 have r7 := (BX.out.mem (.head _)) 7 _ rfl
 have r8 := (BX.out.mem (.head _)) 8 _ rfl
 go_wp2_with fail
 clear r0 r1 r2 r3 r4 r5 r6 r7 r8
 refine (laws_markBodyZ w5.heap.size X X0 c w13 M.out.2 M.out.1 HS.out (by have z1 := Z1.out; have z2 := Z2.out; have z3 := Z3.out; have z4 := Z4.out; have z5 := Z5.out; have z6 := Z6.out; have z7 := Z7.out; have z8 := Z8.out; have z9 := Z9.out; have z10 := Z10.out; have z11 := Z11.out; have z12 := Z12.out; have zl := LT.out; omega) (by have z1 := Z1.out; have z2 := Z2.out; have z3 := Z3.out; have z4 := Z4.out; have z5 := Z5.out; have z6 := Z6.out; have z7 := Z7.out; have z8 := Z8.out; have z9 := Z9.out; have z10 := Z10.out; have z11 := Z11.out; have z12 := Z12.out; have zl := LT.out; omega)).mono ?_
 rintro e w14 ⟨zk, hzk, rfl, hM⟩
 have hk : ¬ ((zk : Int) < 0) := by omega
 clear M
 have hall : ∀ b l, (b, l) ∈ [(X, X0.l), (w.heap.size, B.l)] → b < w5.heap.size ∨ X ≤ b := by
  intro b l hm
  simp only [List.mem_cons, Prod.mk.injEq, List.not_mem_nil, or_false] at hm
  rcases hm with ⟨rfl, _⟩ | ⟨rfl, _⟩
  ·first | exact .inl (by have z1 := Z1.out; have z2 := Z2.out; have z3 := Z3.out; have z4 := Z4.out; have z5 := Z5.out; have z6 := Z6.out; have z7 := Z7.out; have z8 := Z8.out; have z9 := Z9.out; have z10 := Z10.out; have z11 := Z11.out; have z12 := Z12.out; have zl := LT.out; omega) | exact .inr (by have z1 := Z1.out; have z2 := Z2.out; have z3 := Z3.out; have z4 := Z4.out; have z5 := Z5.out; have z6 := Z6.out; have z7 := Z7.out; have z8 := Z8.out; have z9 := Z9.out; have z10 := Z10.out; have z11 := Z11.out; have z12 := Z12.out; have zl := LT.out; omega)
  ·first | exact .inl (by have z1 := Z1.out; have z2 := Z2.out; have z3 := Z3.out; have z4 := Z4.out; have z5 := Z5.out; have z6 := Z6.out; have z7 := Z7.out; have z8 := Z8.out; have z9 := Z9.out; have z10 := Z10.out; have z11 := Z11.out; have z12 := Z12.out; have zl := LT.out; omega) | exact .inr (by have z1 := Z1.out; have z2 := Z2.out; have z3 := Z3.out; have z4 := Z4.out; have z5 := Z5.out; have z6 := Z6.out; have z7 := Z7.out; have z8 := Z8.out; have z9 := Z9.out; have z10 := Z10.out; have z11 := Z11.out; have z12 := Z12.out; have zl := LT.out; omega)
 replace BX := Lib.hid (BX.out.away hM (by have z1 := Z1.out; have z2 := Z2.out; have z3 := Z3.out; have z4 := Z4.out; have z5 := Z5.out; have z6 := Z6.out; have z7 := Z7.out; have z8 := Z8.out; have z9 := Z9.out; have z10 := Z10.out; have z11 := Z11.out; have z12 := Z12.out; have zl := LT.out; omega) hall)
 clear hall
 replace SX := Lib.hid (SX.out.trans (hM.below.mono (by have z1 := Z1.out; have z2 := Z2.out; have z3 := Z3.out; have z4 := Z4.out; have z5 := Z5.out; have z6 := Z6.out; have z7 := Z7.out; have z8 := Z8.out; have z9 := Z9.out; have z10 := Z10.out; have z11 := Z11.out; have z12 := Z12.out; have zl := LT.out; omega)))
 have J1' := Lib.hid (J1.out.2.mark hM)
 replace GI0 := Lib.hid (cs32_mark GI0.out GL0.out hM (by first | exact .inl (by have z1 := Z1.out; have z2 := Z2.out; have z3 := Z3.out; have z4 := Z4.out; have z5 := Z5.out; have z6 := Z6.out; have z7 := Z7.out; have z8 := Z8.out; have z9 := Z9.out; have z10 := Z10.out; have z11 := Z11.out; have z12 := Z12.out; have zl := LT.out; omega) | exact .inr (by have z1 := Z1.out; have z2 := Z2.out; have z3 := Z3.out; have z4 := Z4.out; have z5 := Z5.out; have z6 := Z6.out; have z7 := Z7.out; have z8 := Z8.out; have z9 := Z9.out; have z10 := Z10.out; have z11 := Z11.out; have z12 := Z12.out; have zl := LT.out; omega)))
 replace GL0 := Lib.hid (GL0.out.mark hM)
 clear J1
 have J1 := Lib.hid (And.intro True.intro J1'.out)
 clear J1'
 have Z13 := Lib.hid (hM.below.size)
 clear hM
 go_wp2_with fail
 have hkb : zk ≤ 4000000000000000000 := by omega
 refine (laws_markVectorS Q1 w8.heap.size Q1 0 n1 n1 zk w14 J1.out.2 (by omega)).mono ?_
 rintro e w15 ⟨rfl, _, _, hM⟩
 clear hkb
 obtain ⟨zk1, hzk1⟩ : ∃ z, z = zk + n1 * 3 := ⟨_, rfl⟩
 have hzb1 : zk1 ≤ zk + 3145728 := by omega
 rw [← hzk1]
 clear hzk1
 have hk1 : ¬ ((zk1 : Int) < 0) := by omega
 clear J1
 have hall : ∀ b l, (b, l) ∈ [(X, X0.l), (w.heap.size, B.l)] → b < Q1 ∨ w8.heap.size ≤ b := by
  intro b l hm
  simp only [List.mem_cons, Prod.mk.injEq, List.not_mem_nil, or_false] at hm
  rcases hm with ⟨rfl, _⟩ | ⟨rfl, _⟩
  ·first | exact .inl (by have z1 := Z1.out; have z2 := Z2.out; have z3 := Z3.out; have z4 := Z4.out; have z5 := Z5.out; have z6 := Z6.out; have z7 := Z7.out; have z8 := Z8.out; have z9 := Z9.out; have z10 := Z10.out; have z11 := Z11.out; have z12 := Z12.out; have z13 := Z13.out; have zl := LT.out; omega) | exact .inr (by have z1 := Z1.out; have z2 := Z2.out; have z3 := Z3.out; have z4 := Z4.out; have z5 := Z5.out; have z6 := Z6.out; have z7 := Z7.out; have z8 := Z8.out; have z9 := Z9.out; have z10 := Z10.out; have z11 := Z11.out; have z12 := Z12.out; have z13 := Z13.out; have zl := LT.out; omega)
  ·first | exact .inl (by have z1 := Z1.out; have z2 := Z2.out; have z3 := Z3.out; have z4 := Z4.out; have z5 := Z5.out; have z6 := Z6.out; have z7 := Z7.out; have z8 := Z8.out; have z9 := Z9.out; have z10 := Z10.out; have z11 := Z11.out; have z12 := Z12.out; have z13 := Z13.out; have zl := LT.out; omega) | exact .inr (by have z1 := Z1.out; have z2 := Z2.out; have z3 := Z3.out; have z4 := Z4.out; have z5 := Z5.out; have z6 := Z6.out; have z7 := Z7.out; have z8 := Z8.out; have z9 := Z9.out; have z10 := Z10.out; have z11 := Z11.out; have z12 := Z12.out; have z13 := Z13.out; have zl := LT.out; omega)
 replace BX := Lib.hid (BX.out.away hM (by have z1 := Z1.out; have z2 := Z2.out; have z3 := Z3.out; have z4 := Z4.out; have z5 := Z5.out; have z6 := Z6.out; have z7 := Z7.out; have z8 := Z8.out; have z9 := Z9.out; have z10 := Z10.out; have z11 := Z11.out; have z12 := Z12.out; have z13 := Z13.out; have zl := LT.out; omega) hall)
 clear hall
 replace SX := Lib.hid (SX.out.trans (hM.below.mono (by have z1 := Z1.out; have z2 := Z2.out; have z3 := Z3.out; have z4 := Z4.out; have z5 := Z5.out; have z6 := Z6.out; have z7 := Z7.out; have z8 := Z8.out; have z9 := Z9.out; have z10 := Z10.out; have z11 := Z11.out; have z12 := Z12.out; have z13 := Z13.out; have zl := LT.out; omega)))
 replace GI0 := Lib.hid (cs32_mark GI0.out GL0.out hM (by first | exact .inl (by have z1 := Z1.out; have z2 := Z2.out; have z3 := Z3.out; have z4 := Z4.out; have z5 := Z5.out; have z6 := Z6.out; have z7 := Z7.out; have z8 := Z8.out; have z9 := Z9.out; have z10 := Z10.out; have z11 := Z11.out; have z12 := Z12.out; have z13 := Z13.out; have zl := LT.out; omega) | exact .inr (by have z1 := Z1.out; have z2 := Z2.out; have z3 := Z3.out; have z4 := Z4.out; have z5 := Z5.out; have z6 := Z6.out; have z7 := Z7.out; have z8 := Z8.out; have z9 := Z9.out; have z10 := Z10.out; have z11 := Z11.out; have z12 := Z12.out; have z13 := Z13.out; have zl := LT.out; omega)))
 replace GL0 := Lib.hid (GL0.out.mark hM)
 have Z14 := Lib.hid (hM.below.size)
 clear hM
 go_wp2_with fail
 refine (eq_floats _ _ _ _ _ _ _ GI0.out (SI0.out.below SX.out) (by omega)).mono ?_
 rintro e w16 ⟨rfl, nd, hw⟩
 have hB : Below w15.heap.size w15 w16 := by rw [hw]; exact below_drewN (Below.refl _ _) _
 clear hw
 replace BX := Lib.hid (BX.out.call hB)
 replace SX := Lib.hid (SX.out.trans (hB.mono SX.out.size))
 replace GI0 := Lib.hid (GI0.out.below hB)
 replace GL0 := Lib.hid (GL0.out.below hB)
 have Z15 := Lib.hid (hB.size)
 clear hB
 go_wp2_with fail
 clear GI0
 refine (fl_any w8.heap.size w9.heap.size fg0 m0 qg0 1 w16 GL0.out (by omega) (by omega)).mono ?_
 rintro e w17 ⟨rfl, hmk, _, hM⟩
 clear GL0
 have hall : ∀ b l, (b, l) ∈ [(X, X0.l), (w.heap.size, B.l)] → b < w8.heap.size ∨ w9.heap.size ≤ b := by
  intro b l hm
  simp only [List.mem_cons, Prod.mk.injEq, List.not_mem_nil, or_false] at hm
  rcases hm with ⟨rfl, _⟩ | ⟨rfl, _⟩
  ·first | exact .inl (by have z1 := Z1.out; have z2 := Z2.out; have z3 := Z3.out; have z4 := Z4.out; have z5 := Z5.out; have z6 := Z6.out; have z7 := Z7.out; have z8 := Z8.out; have z9 := Z9.out; have z10 := Z10.out; have z11 := Z11.out; have z12 := Z12.out; have z13 := Z13.out; have z14 := Z14.out; have z15 := Z15.out; have zl := LT.out; omega) | exact .inr (by have z1 := Z1.out; have z2 := Z2.out; have z3 := Z3.out; have z4 := Z4.out; have z5 := Z5.out; have z6 := Z6.out; have z7 := Z7.out; have z8 := Z8.out; have z9 := Z9.out; have z10 := Z10.out; have z11 := Z11.out; have z12 := Z12.out; have z13 := Z13.out; have z14 := Z14.out; have z15 := Z15.out; have zl := LT.out; omega)
  ·first | exact .inl (by have z1 := Z1.out; have z2 := Z2.out; have z3 := Z3.out; have z4 := Z4.out; have z5 := Z5.out; have z6 := Z6.out; have z7 := Z7.out; have z8 := Z8.out; have z9 := Z9.out; have z10 := Z10.out; have z11 := Z11.out; have z12 := Z12.out; have z13 := Z13.out; have z14 := Z14.out; have z15 := Z15.out; have zl := LT.out; omega) | exact .inr (by have z1 := Z1.out; have z2 := Z2.out; have z3 := Z3.out; have z4 := Z4.out; have z5 := Z5.out; have z6 := Z6.out; have z7 := Z7.out; have z8 := Z8.out; have z9 := Z9.out; have z10 := Z10.out; have z11 := Z11.out; have z12 := Z12.out; have z13 := Z13.out; have z14 := Z14.out; have z15 := Z15.out; have zl := LT.out; omega)
 replace BX := Lib.hid (BX.out.away hM (by have z1 := Z1.out; have z2 := Z2.out; have z3 := Z3.out; have z4 := Z4.out; have z5 := Z5.out; have z6 := Z6.out; have z7 := Z7.out; have z8 := Z8.out; have z9 := Z9.out; have z10 := Z10.out; have z11 := Z11.out; have z12 := Z12.out; have z13 := Z13.out; have z14 := Z14.out; have z15 := Z15.out; have zl := LT.out; omega) hall)
 clear hall
 replace SX := Lib.hid (SX.out.trans (hM.below.mono (by have z1 := Z1.out; have z2 := Z2.out; have z3 := Z3.out; have z4 := Z4.out; have z5 := Z5.out; have z6 := Z6.out; have z7 := Z7.out; have z8 := Z8.out; have z9 := Z9.out; have z10 := Z10.out; have z11 := Z11.out; have z12 := Z12.out; have z13 := Z13.out; have z14 := Z14.out; have z15 := Z15.out; have zl := LT.out; omega)))
 have Z16 := Lib.hid (hM.below.size)
 clear hM
 have HMK := Lib.hid (show FlM w17 fg0 m0 1 from hmk)
 clear hmk
 go_wp2_with fail
 refine (fl_held fg0 m0 qg0 1 w17 HMK.out (by omega) (by omega)).mono ?_
 rintro e w18 ⟨rfl, hw⟩
 rw [hw]
 clear hw
 have r0 := (BX.out.mem (.tail _ (.head _))) 0 _ rfl
 have r1 := (BX.out.mem (.tail _ (.head _))) 1 _ rfl
 have r2 := (BX.out.mem (.tail _ (.head _))) 2 _ rfl
 have r3 := (BX.out.mem (.tail _ (.head _))) 3 _ rfl
 have r4 := (BX.out.mem (.tail _ (.head _))) 4 _ rfl
 have r5 := (BX.out.mem (.tail _ (.head _))) 5 _ rfl
 have r6 := (BX.out.mem (.tail _ (.head _))) 6 _ rfl
 have r7 := (BX.out.mem (.tail _ (.head _))) 7 _ rfl
 have r8 := (BX.out.mem (.tail _ (.head _))) 8 _ rfl
 go_wp2_with fail
 clear r0 r1 r2 r3 r4 r5 r6 r7 r8
 refine (laws_toBody B c _ (HB.out.below BX.out.bel) HS.out).mono ?_
 rintro e w19 ⟨Yh, rfl, hI, hB⟩
 replace BX := Lib.hid (BX.out.call hB)
 replace SX := Lib.hid (SX.out.trans (hB.mono SX.out.size))
 replace HMK := Lib.hid (HMK.out.below hB)
 have Z17 := Lib.hid (hB.size)
 clear hB
 have Ih := Lib.hid hI
 clear hI
 go_wp2_with fail
 refine (laws_toVectorS a1 n1 c1 y1 w19 (H1.out.below BX.out.bel) hl1).mono ?_
 rintro e w20 ⟨rfl, hi, hB, _⟩
 replace BX := Lib.hid (BX.out.call hB)
 replace SX := Lib.hid (SX.out.trans (hB.mono SX.out.size))
 replace HMK := Lib.hid (HMK.out.below hB)
 replace Ih := Lib.hid (Ih.out.below hB)
 have Z18 := Lib.hid (hB.size)
 clear hB
 have Jh1 := Lib.hid hi
 clear hi
 go_wp2_with fail
 refine (HIM.out Yh _ _ _ Ih.out Jh1.out).mono ?_
 rintro e w21 ⟨⟨fh0, qh0, rfl, hf0, hlh0⟩, hB⟩
 clear Ih Jh1
 replace BX := Lib.hid (BX.out.call hB)
 replace SX := Lib.hid (SX.out.trans (hB.mono SX.out.size))
 replace HMK := Lib.hid (HMK.out.below hB)
 have Z19 := Lib.hid (hB.size)
 clear hB
 have HI0 := Lib.hid hf0
 clear hf0 hlh0
 go_wp2_with fail
 refine (eq_floats _ _ _ _ _ _ _ HI0.out (SI0.out.below SX.out) (by omega)).mono ?_
 rintro e w22 ⟨rfl, nd, hw⟩
 have hB : Below w21.heap.size w21 w22 := by rw [hw]; exact below_drewN (Below.refl _ _) _
 clear hw
 clear HI0
 replace BX := Lib.hid (BX.out.call hB)
 replace SX := Lib.hid (SX.out.trans (hB.mono SX.out.size))
 replace HMK := Lib.hid (HMK.out.below hB)
 have Z20 := Lib.hid (hB.size)
 clear hB
 go_wp2_with fail
 refine (fl_held fg0 m0 qg0 1 w22 HMK.out (by omega) (by omega)).mono ?_
 rintro e w23 ⟨rfl, hw⟩
 rw [hw]
 clear hw
 go_wp2
 go_ret
 exact ⟨rfl, BX.out.bel⟩
theorem FnExactEnergiesAlong_law (pa ta sa wa : Option Addr) (pl pc tl tc sl sc wl wc : Nat) (cs : List C3) (ts : List (List Int)) (ss : List SC) (zs : List Nat) (fi be fx fy fz : Nat) (a1 : Option Addr) (n1 c1 : Nat) (y1 : List C3) (x2 : Nat) (z3 : Int) (w : World) (hp : IsVs w pa pl pc cs) (ht : IsTs w ta tl tc ts) (hs : IsSs w sa sl sc ss) (hw : IsFs .f32 w wa wl wc zs) (hf : fi < 2 ^ FloatKind.f32.format.width ∧ be < 2 ^ FloatKind.f32.format.width ∧ fx < 2 ^ FloatKind.f32.format.width ∧ fy < 2 ^ FloatKind.f32.format.width ∧ fz < 2 ^ FloatKind.f32.format.width) (h1 : IsVs w a1 n1 c1 y1) (h2 : x2 < 2 ^ FloatKind.f32.format.width) (h3 : (Lit.int .i64 z3).wf = true) :
  Calls Tryz.prog 9 #[.agg #[.slice pa pl pc, .slice ta tl tc, .slice sa sl sc, .float .f32 fi, .float .f32 be, .slice wa wl wc, .float .f32 fx, .float .f32 fy, .float .f32 fz], .slice a1 n1 c1, .float .f32 x2, .int .i64 z3] w fun e w' => e = .returned (.bool true) ∧ Below w.heap.size w w' :=
 energiesAlong_law ⟨pa, ta, sa, wa, pl, pc, tl, tc, sl, sc, wl, wc, fi, be, fx, fy, fz⟩ ⟨cs, ts, ss, zs, cls .f32 fi, cls .f32 be, (cls .f32 fx, cls .f32 fy, cls .f32 fz)⟩ a1 n1 c1 y1 x2 (cls .f32 x2) z3 w ⟨hp, ht, hs, hw, FV.self hf.1, FV.self hf.2.1, FV.self hf.2.2.1, FV.self hf.2.2.2.1, FV.self hf.2.2.2.2⟩ h1 (FV.self h2) (Nat.lt_of_lt_of_eq h2 (by decide)) h3
end Go.Proofs.YtabccmobmppdnaaGreat
namespace Go.Proofs.YtabccmobmppdnaaGreat
namespace Fk
open Go Go.RowKit
set_option linter.unusedVariables false
section
open Go.ChangeShapes Go.WideShapes Go.Deep
variable {H : Type} {enc : TypeId × Value → H} {P : Program} {w : World} {base : Nat} {held : Bool}
theorem open_vecs {t ev : TypeId} {f0 f1 f2 : Field} {a : Option Addr} {len cap : Nat} {d : DataW H} {p : List MemPlace}
  (hp : P.underlying t = some (.slice ev)) (hev : P.underlying ev = some (.struct #[f0, f1, f2])) (honev : oneCellFields P #[f0, f1, f2] = true) (hCv : P.cellsOf ev = 3)
  (he0 : P.underlying f0.type = some (.float .f32)) (he1 : P.underlying f1.type = some (.float .f32)) (he2 : P.underlying f2.type = some (.float .f32))
  (h : DataW.Trod enc P w base (fun _ => true) held t (.slice a len cap) d p) : ∃ cs, IsVs w a len cap cs := by
 obtain ⟨fuel, hf⟩ := h
 obtain ⟨a', len', cap', cs, e, hv⟩ := trod_vecs hp hev honev hCv he0 he1 he2 (by simpa [Value.cells] using hf)
 cases e
 exact ⟨cs, hv⟩
end
end Fk
end Go.Proofs.YtabccmobmppdnaaGreat
namespace Go.Proofs.YtabccmobmppdnaaGreat.fnExactEnergiesAlongDone
open Go.ChangeShapes Go.WideShapes Go.ChangeAt Go.RowKit
open Go.ChangeMaps (open_string shut_string)
set_option linter.unusedVariables false
theorem own : ownKnob Tryz.prog.godebug = none := by kernel_rfl
theorem laidOut : laidOutB Tryz.prog = true := by kernel_rfl
set_option maxRecDepth 100000 in
theorem lifted (os : Os) (started : os.Started) (H : Type) (enc : TypeId × Value → H) :
  ReturnsInHanded {} Tryz.checked os 9 .any (Rows.fnExactEnergiesAlongSpec.pre6 enc Tryz.prog Tryz.f9 Rows.fnExactEnergiesAlongRow.domain false) (Rows.fnExactEnergiesAlongSpec.post enc Tryz.prog Tryz.f9 false true false false) := by
 refine returnsInHanded_of_change (C := Tryz.checked) own started (by kernel_rfl) Tryz.func9
  (ChangeSpec.witness6 (enc := enc) (C := Tryz.checked) false ⟨#[], #[.agg #[.slice none 0 0, .slice none 0 0, .slice none 0 0, .float .f32 0, .float .f32 0, .slice none 0 0, .float .f32 0, .float .f32 0, .float .f32 0], .slice none 0 0, .float .f32 0, .int .i64 0], []⟩ 8 (by kernel_rfl) (by kernel_rfl) (by kernel_rfl) (by kernel_rfl)) ?_
 intro W base args ds gs before hval0 hW hcnd _
 have hval : ∀ (j : Nat) t v, Tryz.f9.params[j]? = some t → args[j]? = some v → Value.okWide Tryz.prog W .any base t v := hval0
 have hW' := hW
 obtain ⟨p, q, hA0, hV, rfl, hfz, hnd⟩ := hW
 have hA : DataW.TrodAll enc Tryz.prog W 0 (fun _ => true) true Tryz.f9.params.toList args.toList ds p := hA0
 rw [Tryz.params9] at hA hval
 obtain ⟨v0, vs0, d0, ds0, p0, q0, hargs, rfl, rfl, h0, r0⟩ := trodAll_cons hA
 obtain ⟨v1, vs1, d1, ds1, p1, q1, rfl, rfl, rfl, h1, r1⟩ := trodAll_cons r0
 obtain ⟨v2, vs2, d2, ds2, p2, q2, rfl, rfl, rfl, h2, r2⟩ := trodAll_cons r1
 obtain ⟨v3, vs3, d3, ds3, p3, q3, rfl, rfl, rfl, h3, r3⟩ := trodAll_cons r2
 obtain ⟨rfl, rfl, rfl⟩ := trodAll_nil r3
 obtain rfl : args = #[v0, v1, v2, v3] := by cases args; simp_all
 obtain ⟨rfl, rfl⟩ := trodVars_none hV
 have k0 := h0
 have lt0 : ∀ x ∈ p0, x.block < W.heap.size := by obtain ⟨m, hm⟩ := k0; exact DataW.trod_lt m _ _ _ hm
 obtain ⟨pa0, ta0, sa0, wa0, pl0, pc0, tl0, tc0, sl0, sc0, wl0, wc0, cs0, ts0, ss0, zs0, fi0, be0, fx0, fy0, fz0, e0, wp0, wt0, ws0, ww0, wf0⟩ := Fk.open_body Tryz.underlying32 (by kernel_rfl) (by kernel_rfl) (by kernel_rfl) Tryz.underlying25 (by kernel_rfl) Tryz.underlying22 Tryz.underlying30 (by kernel_rfl) (by kernel_rfl) Tryz.underlying27 Tryz.underlying27 Tryz.underlying27 Tryz.underlying23 Tryz.underlying33 Tryz.underlying2 (by kernel_rfl) (by kernel_rfl) Tryz.underlying26 Tryz.underlying168 (by kernel_rfl) (by kernel_rfl) Tryz.underlying2 Tryz.underlying2 Tryz.underlying27 Tryz.underlying27 Tryz.underlying27 Tryz.underlying27 Tryz.underlying28 Tryz.underlying27 (by kernel_rfl) Tryz.underlying30 (by kernel_rfl) Tryz.underlying27 Tryz.underlying27 Tryz.underlying27 (hval 0 32 v0 rfl rfl) h0
 subst e0
 have k1 := h1
 have lt1 : ∀ x ∈ p1, x.block < W.heap.size := by obtain ⟨m, hm⟩ := k1; exact DataW.trod_lt m _ _ _ hm
 obtain ⟨a1, len1, cap1, e1⟩ := okWide_slice Tryz.underlying22 (hval 1 22 v1 rfl rfl)
 subst e1
 obtain ⟨cs1, w1⟩ := Fk.open_vecs Tryz.underlying22 Tryz.underlying30 (by kernel_rfl) (by kernel_rfl) Tryz.underlying27 Tryz.underlying27 Tryz.underlying27 h1
 have k2 := h2
 have lt2 : ∀ x ∈ p2, x.block < W.heap.size := by obtain ⟨m, hm⟩ := k2; exact DataW.trod_lt m _ _ _ hm
 obtain ⟨a2, e2, _, _, g2⟩ := open_float Tryz.underlying27 (hval 2 27 v2 rfl rfl) h2
 subst e2
 have w2 := Fk.wf_lt g2
 have k3 := h3
 have lt3 : ∀ x ∈ p3, x.block < W.heap.size := by obtain ⟨m, hm⟩ := k3; exact DataW.trod_lt m _ _ _ hm
 obtain ⟨a3, e3, _, _, w3⟩ := open_int Tryz.underlying2 (hval 3 2 v3 rfl rfl) h3
 subst e3
 clear hA0 hval0
 refine (FnExactEnergiesAlong_law pa0 ta0 sa0 wa0 pl0 pc0 tl0 tc0 sl0 sc0 wl0 wc0 cs0 ts0 ss0 zs0 fi0 be0 fx0 fy0 fz0 a1 len1 cap1 cs1 a2 a3 W wp0 wt0 ws0 ww0 wf0 w1 w2 w3).mono fun e W' ⟨he, bel⟩ => ?_
 subst he
 exact ⟨_, rfl, _, _, _, [], _, [], hW', trodAll_mk1 (shut_bool Tryz.underlying4 _), (trodAll_cons_mk (Below.trod laidOut (by kernel_rfl) (of_decide_eq_true (by kernel_rfl)) k0 bel lt0) (trodAll_cons_mk (Below.trod laidOut (by kernel_rfl) (of_decide_eq_true (by kernel_rfl)) k1 bel lt1) (trodAll_cons_mk (Below.trod laidOut (by kernel_rfl) (of_decide_eq_true (by kernel_rfl)) k2 bel lt2) (trodAll_cons_mk (Below.trod laidOut (by kernel_rfl) (of_decide_eq_true (by kernel_rfl)) k3 bel lt3) trodAll_mk0)))), rfl, bel.frame _, fun h => by cases h⟩
end Go.Proofs.YtabccmobmppdnaaGreat.fnExactEnergiesAlongDone

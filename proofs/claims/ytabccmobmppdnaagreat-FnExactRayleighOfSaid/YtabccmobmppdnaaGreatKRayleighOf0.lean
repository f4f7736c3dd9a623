/-
Texts in one: what RayleighOf stands on, part 0. Conditions: those of each.
-/
import Derived.Test.YtabccmobmppdnaaGreatKStfS11
import Derived.Lib.SmallJoins
import Derived.Test.YtabccmobmppdnaaGreatRows
import Derived.WalkKit
import Derived.ProofKit
import Derived.OpenShut
import Derived.ShutString
import Derived.ChangeOld
import Derived.Below
-- halved
namespace Go.Proofs.YtabccmobmppdnaaGreat
open Go Fk Go.RowKit
set_option linter.unusedVariables false
set_option maxRecDepth 16000
set_option maxHeartbeats 4000000 in
theorem l09Rayleigh (pb : Nat) (B : Bd) (c : Bc) (ha : Option Addr) (hl hc : Nat) (L : List Int) (a : Option Addr) (cap : Nat) (ys : List C3) (x : Nat) (d : Option Nat) (w : World) (A : At w pb B.l) (h : IsB w B c) (hb : bodyB c = true) (hL : IsIs w ha hl hc L) (hr : riseB B.pl L = true) (hv : IsVs w a B.pl cap (stillF ys L)) (hx : FV .f32 x d) :
  Calls Tryz.prog 78 #[.pointer (some ⟨pb, 0, none⟩), .slice ha hl hc, .slice a B.pl cap, .float .f32 x] w fun e w' => (∃ r, e = .returned (.tuple #[.float .f32 r, .bool (posC (sqrC L ys B.pl))]) ∧ FV .f32 r (rayC c L ys d B.pl)) ∧ Below w.heap.size w w' := by
 have u := Tryz.underlying27
 have hpl : c.cs.length = B.pl := h.1.1
 have JT := Lib.hid (fun w1 (hB : Below w.heap.size w w1) => l09Times pb B c ha hl hc L a cap (stillF ys L) x d w1 (A.below hB) (h.below hB) hb (hL.below hB) hr (hv.below hB) hx)
 have HE : Hid (stillF (mkG (timF c (stillF ys L) d) B.pl B.pl) L = timT c L ys d) := Lib.hid (by unfold timT; rw [hpl])
 have HTL : Hid ((timT c L ys d).length = B.pl) := Lib.hid (by rw [timT_len, hpl])
 have HV := Lib.hid hv
 have HR : Hid (rayC c L ys d B.pl = bif posC (sqrC L ys B.pl) then fop .quo .f32 (innL (stillF ys L) (timT c L ys d) B.pl) (sqrC L ys B.pl) else some 0) := Lib.hid rfl
 have HS : Hid (innL (stillF ys L) (stillF ys L) B.pl = sqrC L ys B.pl) := Lib.hid rfl
 clear A h hb hL hr hv hx hpl
 generalize rayC c L ys d B.pl = RC at *
 generalize sqrC L ys B.pl = SQ at *
 generalize timT c L ys d = T at *
 generalize timF c (stillF ys L) d = TF at *
 generalize stillF ys L = YF at *
 have HPO : Hid (∀ q, FV .f32 q SQ → (FloatKind.f32.format.order q 0 == some .gt) = posC SQ) := Lib.hid (fun q h => pos_order h)
 cases hp : posC SQ
 ·rw [hp] at HPO HR
  go_enter Tryz.func78, Tryz.ntmps78
  go_wp2_with fail
  refine (l05Inner a a B.pl cap cap YF YF w HV.out HV.out).mono ?_
  rintro e w2 ⟨q, rfl, hq, hB2⟩
  rw [HS.out] at hq
  have ho := HPO.out _ hq
  have HQ := Lib.hid hq
  have HB2 := Lib.hid hB2
  clear hq hB2
  go_wp2
  go_ret2
  exact ⟨⟨0, rfl, by rw [HR.out]; exact FV_0v⟩, HB2.out⟩
 ·rw [hp] at HPO HR
  go_enter Tryz.func78, Tryz.ntmps78
  go_wp2_with fail
  refine (l05Inner a a B.pl cap cap YF YF w HV.out HV.out).mono ?_
  rintro e w2 ⟨q, rfl, hq, hB2⟩
  rw [HS.out] at hq
  have ho := HPO.out _ hq
  have HQ := Lib.hid hq
  have HB2 := Lib.hid hB2
  clear hq hB2
  go_wp2_with fail
  refine (JT.out _ (by first | exact HB2.out | exact below_drewN HB2.out _)).mono ?_
  rintro e w3 ⟨v, rfl, hv3, hB3⟩
  rw [HE.out] at hv3
  obtain ⟨va, vc, rfl, hvs, _⟩ := hv3
  rw [HTL.out] at hvs ⊢
  have HB3 : Hid (Below w.heap.size w w3) := Lib.hid (by first | exact HB2.out.trans (hB3.mono HB2.out.size) | exact (below_drewN HB2.out _).trans (hB3.mono (below_drewN HB2.out _).size))
  have HVS := Lib.hid hvs
  clear hvs hB3
  go_wp2_with fail
  refine (l05Inner a va B.pl cap vc YF T w3 (HV.out.below HB3.out) HVS.out).mono ?_
  rintro e w4 ⟨r, rfl, hr, hB4⟩
  have HB4 := Lib.hid (HB3.out.trans (hB4.mono HB3.out.size))
  have HRR := Lib.hid hr
  clear hB4 hr
  go_wp2
  go_ret2
  exact ⟨⟨_, rfl, by rw [HR.out]; exact FV_fR HRR.out HQ.out⟩, below_drewN HB4.out _⟩
set_option maxHeartbeats 4000000 in
theorem spec_RayleighOf (B : Bd) (c : Bc) (a1 : Option Addr) (n1 c1 : Nat) (L1 : List Int) (a2 : Option Addr) (n2 c2 : Nat) (y2 : List C3) (x : Nat) (d : Option Nat) (w : World) (h : IsB w B c) (h1 : IsIs w a1 n1 c1 L1) (h2 : IsVs w a2 n2 c2 y2) (h3 : FV .f32 x d) (g3 : x < 4294967296) :
  Calls Tryz.prog 29 #[B.v, .slice a1 n1 c1, .slice a2 n2 c2, .float .f32 x] w fun e w' => (∃ r, e = .returned (.tuple #[.float .f32 r, .bool (rayB c L1 y2 n2 x)]) ∧ FV .f32 r (rayR c L1 y2 d n2 x)) ∧ Below w.heap.size w w' := by
 have uib := Tryz.underlying44
 have BX : Hid (Bx w [(w.heap.size, B.l)] (w.alloc (BoxB B 44))) := Lib.hid ((Bx.nil w).box (vs := B.l) (t := 44))
 have hpl : c.cs.length = B.pl := h.1.1
 have hm : n2 ≤ 9223372036854775807 := by have k1 := h2.2.1; have k2 := h2.2.2.1; unfold maxLen at k2; omega
 have H := Lib.hid h
 have HL := Lib.hid h1
 have HV := Lib.hid h2
 have JC := Lib.hid (l09Can w.heap.size B c a1 n1 c1 L1 a2 n2 c2 x (w.alloc (BoxB B 44)) (BX.out.mem (.head _)) (h.below BX.out.bel) (h1.below BX.out.bel) g3 hm)
 cases hc : canB c L1 n2 x
 ·rw [hc] at JC
  have he : rayR c L1 y2 d n2 x = some 0 := by unfold rayR; rw [hc]; rfl
  have he2 : rayB c L1 y2 n2 x = false := by unfold rayB; rw [hc]; rfl
  rw [he, he2]
  clear h h1 h2 h3 hpl hc he he2
  go_enter Tryz.func29, Tryz.ntmps29
  go_wp2_with fail
  change Calls _ _ _ (w.alloc (BoxB B 44)) _
  generalize (w.alloc (BoxB B 44)) = W at *
  refine JC.out.mono ?_
  rintro e w1 ⟨rfl, n, hw⟩
  have HB := Lib.hid (below_drewN BX.out.bel n)
  rw [hw]
  clear hw
  go_wp2
  go_ret2
  exact ⟨⟨0, rfl, FV_0v⟩, HB.out⟩
 ·obtain ⟨q1, q2, q3, q4⟩ := can_parts hc
  have hn : n2 = B.pl := q4.trans hpl
  subst hn
  have JF := Lib.hid (fun w1 k1 k2 => l09Freed a2 B.pl c2 y2 a1 n1 c1 L1 w1 k1 k2 (hpl ▸ q2) (by have := body64 q1; omega))
  have JT := Lib.hid (fun va vc w1 k1 k2 k3 k4 => l09Rayleigh w.heap.size B c a1 n1 c1 L1 va vc y2 x d w1 k1 k2 q1 k3 (hpl ▸ q2) k4 h3)
  have HLT : Hid ((stillF y2 L1).length = B.pl) := Lib.hid (by rw [stillF_len]; exact h2.1)
  rw [hc] at JC
  have he : rayR c L1 y2 d B.pl x = rayC c L1 y2 d B.pl := by unfold rayR; rw [hc]; rfl
  have he2 : rayB c L1 y2 B.pl x = posC (sqrC L1 y2 B.pl) := by unfold rayB; rw [hc]; rfl
  rw [he, he2]
  generalize rayC c L1 y2 d B.pl = RC at *
  generalize posC (sqrC L1 y2 B.pl) = pb at *
  clear h h1 h2 h3 hpl hc he he2 q1 q2 q3 q4
  go_enter Tryz.func29, Tryz.ntmps29
  go_wp2_with fail
  change Calls _ _ _ (w.alloc (BoxB B 44)) _
  generalize (w.alloc (BoxB B 44)) = W at *
  refine JC.out.mono ?_
  rintro e w1 ⟨rfl, n, hw⟩
  have BX1 : Hid (Bx w [(w.heap.size, B.l)] w1) := Lib.hid (by rw [hw]; exact BX.out.drewN n)
  clear hw BX JC
  go_wp2_with fail
  refine (JF.out w1 (HV.out.below BX1.out.bel) (HL.out.below BX1.out.bel)).mono ?_
  rintro e w2 ⟨v, rfl, ⟨va, vc, rfl, hvs, _⟩, hB2⟩
  rw [HLT.out] at hvs ⊢
  have BX2 := Lib.hid (BX1.out.call hB2)
  have HVS := Lib.hid hvs
  clear hB2 hvs BX1
  go_wp2_with fail
  refine (JT.out va vc w2 (BX2.out.mem (.head _)) (H.out.below BX2.out.bel) (HL.out.below BX2.out.bel) HVS.out).mono ?_
  rintro e w3 ⟨⟨r, rfl, hr⟩, hB3⟩
  have HR := Lib.hid hr
  have BX3 := Lib.hid (BX2.out.call hB3)
  clear hr hB3
  go_wp2
  go_ret2
  exact ⟨⟨_, rfl, HR.out⟩, BX3.out.bel⟩
end Go.Proofs.YtabccmobmppdnaaGreat
namespace Go.Proofs.YtabccmobmppdnaaGreat
open Go Fk Go.RowKit
set_option linter.unusedVariables false
theorem int_own {lo hi Q n cap : Nat} {w : World} {L : List Int} (h : IsIs w (some ⟨Q, 0, none⟩) n cap L) (hf : ∀ i, w.frozen? ⟨Q, i, none⟩ = false) (h1 : lo ≤ Q) (h2 : Q < hi) (h3 : Q < w.heap.size) : Own lo hi w Q 0 n := by
 refine ⟨h1, h2, h3, fun j hj => ⟨?_, hf _⟩⟩
 have k0 := h.2.2.2.2.2 _ rfl j hj
 rw [addr_add', Nat.zero_add] at k0
 rw [Nat.zero_add]
 exact ⟨_, k0⟩
end Go.Proofs.YtabccmobmppdnaaGreat
namespace Go.Proofs.YtabccmobmppdnaaGreat
open Go Fk Go.RowKit
set_option linter.unusedVariables false
set_option maxRecDepth 16000
set_option maxHeartbeats 40000000 in
theorem rayleighOf_law (B : Bd) (c : Bc) (a1 : Option Addr) (n1 c1 : Nat) (L1 : List Int) (a2 : Option Addr) (n2 c2 : Nat) (y2 : List C3) (x3 : Nat) (d3 : Option Nat) (w : World) (h0 : IsB w B c) (h1 : IsIs w a1 n1 c1 L1) (h2 : IsVs w a2 n2 c2 y2) (h3 : FV .f32 x3 d3) (g3 : x3 < 4294967296) :
  Calls Tryz.prog 4 #[B.v, .slice a1 n1 c1, .slice a2 n2 c2, .float .f32 x3] w fun e w' => e = .returned (.bool true) ∧ Below w.heap.size w w' := by
 have ulb := Tryz.underlying32
 have uib := Tryz.underlying44
 have u := Tryz.underlying27
 have u' := Tryz.underlying58
 have BX : Hid (Bx w [(w.heap.size, B.l)] (w.alloc (BoxB B 32))) := Lib.hid ((Bx.nil w).box (vs := B.l) (t := 32))
 have HSP := Lib.hid (fun (B : Bd) (a1 : Option Addr) (c1 : Nat) (a2 : Option Addr) (c2 : Nat) (w : World) (h0 : IsB w B c) (h1 : IsIs w a1 n1 c1 L1) (h2 : IsVs w a2 n2 c2 y2) => spec_RayleighOf B c a1 n1 c1 L1 a2 n2 c2 y2 x3 d3 w h0 h1 h2 h3 g3)
 have HIM := Lib.hid (fun (B : Bd) (a1 : Option Addr) (c1 : Nat) (a2 : Option Addr) (c2 : Nat) (w : World) (h0 : IsB w B c) (h1 : IsIs w a1 n1 c1 L1) (h2 : IsVs w a2 n2 c2 y2) => impl_RayleighOf B c a1 n1 c1 L1 a2 n2 c2 y2 x3 d3 w h0 h1 h2 h3 g3)
 have HB := Lib.hid h0
 have H1 := Lib.hid h1
 have hm1 : n1 ≤ 9223372036854775807 := by have qq := h1.2.1; have qr := h1.2.2.1; unfold maxLen at qr; omega
 have H2 := Lib.hid h2
 have hm2 : n2 ≤ 9223372036854775807 := by have qq := h2.2.1; have qr := h2.2.2.1; unfold maxLen at qr; omega
 have H3 := Lib.hid h3
 generalize rayR c L1 y2 d3 n2 x3 = R0 at *
 generalize rayB c L1 y2 n2 x3 = R1 at *
 clear h0 h1 h2 h3
 have ve1 : (R1 == R1) = true := by cases R1 <;> rfl
 have vn1 : (R1 != R1) = false := by cases R1 <;> rfl
 by_cases hl1 : n1 ≤ 1048576
 case neg =>
  have hgt : (1048576 : Int) < (n1 : Int) := by omega
  go_enter Tryz.func4, Tryz.ntmps4
  go_wp2
  go_ret
  exact ⟨rfl, BX.out.bel⟩
 have hngt1 : ¬ (1048576 : Int) < (n1 : Int) := by omega
 go_enter Tryz.func4, Tryz.ntmps4
 go_wp2_with fail
 change Calls _ _ _ (w.alloc (BoxB B 32)) _
 generalize (w.alloc (BoxB B 32)) = W0 at *
 refine (laws_szBody' B c 1048576 _ (HB.out.below BX.out.bel) (by decide) (by decide)).mono ?_
 rintro e w1 ⟨⟨r, rfl, hr⟩, hB⟩
 replace BX := Lib.hid (BX.out.call hB)
 clear hB
 rcases hr with rfl | ⟨hr0, hr1, hs⟩
 ·go_wp2
  go_ret
  exact ⟨rfl, BX.out.bel⟩
 have HS := Lib.hid hs
 clear hs
 go_wp2_with fail
 refine (laws_szVectorS a2 n2 c2 r w1 hr0 hr1 hm2).mono ?_
 rintro e w2 ⟨⟨r2_, rfl, hr⟩, hw⟩
 rw [hw]
 clear hw
 rcases hr with rfl | ⟨hq2, hp2, hl2⟩
 ·go_wp2
  go_ret
  exact ⟨rfl, BX.out.bel⟩
 have r0 := (BX.out.mem (.head _)) 0 _ rfl
 have r1 := (BX.out.mem (.head _)) 1 _ rfl
 have r2 := (BX.out.mem (.head _)) 2 _ rfl
 have r3 := (BX.out.mem (.head _)) 3 _ rfl
 have r4 := (BX.out.mem (.head _)) 4 _ rfl
 have r5 := (BX.out.mem (.head _)) 5 _ rfl
 have r6 := (BX.out.mem (.head _)) 6 _ rfl
 have r7 := (BX.out.mem (.head _)) 7 _ rfl
 have r8 := (BX.out.mem (.head _)) 8 _ rfl
 go_wp2_with fail
 clear r0 r1 r2 r3 r4 r5 r6 r7 r8
 refine (laws_toBody B c _ (HB.out.below BX.out.bel) HS.out).mono ?_
 rintro e w3 ⟨Ys, rfl, hI, hB⟩
 replace BX := Lib.hid (BX.out.call hB)
 have Z1 := Lib.hid (hB.size)
 clear hB
 have Is := Lib.hid hI
 clear hI
 go_wp2_with fail
 refine (laws_toInt64S _ _ _ _ _ (H1.out.below BX.out.bel) hl1).mono ?_
 rintro e w4 ⟨rfl, hi, hB, _⟩
 replace BX := Lib.hid (BX.out.call hB)
 replace Is := Lib.hid (Is.out.below hB)
 have Z2 := Lib.hid (hB.size)
 clear hB
 have Js1 := Lib.hid hi
 clear hi
 go_wp2_with fail
 refine (laws_toVectorS a2 n2 c2 y2 w4 (H2.out.below BX.out.bel) hl2).mono ?_
 rintro e w5 ⟨rfl, hi, hB, _⟩
 replace BX := Lib.hid (BX.out.call hB)
 replace Is := Lib.hid (Is.out.below hB)
 replace Js1 := Lib.hid (Js1.out.below hB)
 have Z3 := Lib.hid (hB.size)
 clear hB
 have Js2 := Lib.hid hi
 clear hi
 go_wp2_with fail
 refine (HSP.out Ys _ _ _ _ _ Is.out Js1.out Js2.out).mono ?_
 rintro e w6 ⟨⟨xs0, rfl, hxs0⟩, hB⟩
 clear Is Js1 Js2
 replace BX := Lib.hid (BX.out.call hB)
 clear hB
 have LT : Hid (w.heap.size < w6.heap.size) := Lib.hid (BX.out.mem (.head _)).lt
 have r0 := (BX.out.mem (.head _)) 0 _ rfl
 have r1 := (BX.out.mem (.head _)) 1 _ rfl
 have r2 := (BX.out.mem (.head _)) 2 _ rfl
 have r3 := (BX.out.mem (.head _)) 3 _ rfl
 have r4 := (BX.out.mem (.head _)) 4 _ rfl
 have r5 := (BX.out.mem (.head _)) 5 _ rfl
 have r6 := (BX.out.mem (.head _)) 6 _ rfl
 have r7 := (BX.out.mem (.head _)) 7 _ rfl
 have r8 := (BX.out.mem (.head _)) 8 _ rfl
 go_wp2_with fail
 clear r0 r1 r2 r3 r4 r5 r6 r7 r8
 have SX := Lib.hid (Below.refl w6.heap.size w6)
 refine (laws_toBodyO B c _ (HB.out.below BX.out.bel) HS.out).mono ?_
 rintro e w7 ⟨X0, rfl, hI, hO, hB⟩
 replace BX := Lib.hid (BX.out.call hB)
 replace SX := Lib.hid (SX.out.trans (hB.mono SX.out.size))
 have Z4 := Lib.hid (hB.size)
 clear hB
 have M := Lib.hid (And.intro hI hO)
 clear hI hO
 have hA : Below w7.heap.size w7 (w7.alloc (BoxB X0 44)) := (Below.refl _ _).alloc (Nat.le_refl _) _
 have BX' : Hid (Bx w [(w7.heap.size, X0.l), (w.heap.size, B.l)] (w7.alloc (BoxB X0 44))) := Lib.hid (BX.out.box (vs := X0.l) (t := 44))
 replace BX := BX'
 clear BX'
 replace SX := Lib.hid (SX.out.trans (hA.mono SX.out.size))
 replace M := Lib.hid (And.intro (M.out.1.below hA) (M.out.2.below hA))
 have Z5 := Lib.hid (show (w7.alloc (BoxB X0 44)).heap.size = w7.heap.size + 1 by simp)
 clear hA
 go_wp2_with fail
 change Calls _ _ _ (w7.alloc (BoxB X0 44)) _
 generalize (w7.alloc (BoxB X0 44)) = w8 at *
 generalize w7.heap.size = X at *
 refine (laws_toInt64S' _ _ _ _ _ (H1.out.below BX.out.bel) hl1).mono ?_
 rintro e w9 ⟨rfl, hi, hB, hlt, hf⟩
 replace BX := Lib.hid (BX.out.call hB)
 replace SX := Lib.hid (SX.out.trans (hB.mono SX.out.size))
 replace M := Lib.hid (And.intro (M.out.1.below hB) (M.out.2.below hB))
 have Z6 := Lib.hid (hB.size)
 clear hB
 have J1 := Lib.hid (And.intro hi (int_own (lo := w8.heap.size) (hi := w9.heap.size) hi hf (Nat.le_refl _) hlt hlt))
 have Z7 := Lib.hid (hlt)
 clear hi hf hlt
 obtain ⟨Q1, hQ1⟩ : ∃ Q, Q = w8.heap.size := ⟨_, rfl⟩
 have Z8 := Lib.hid (hQ1)
 rw [← hQ1] at J1 ⊢
 clear hQ1
 go_wp2_with fail
 refine (laws_toVectorS' a2 n2 c2 y2 _ (H2.out.below BX.out.bel) hl2).mono ?_
 rintro e w10 ⟨rfl, hi, hB, hlt, hf⟩
 replace BX := Lib.hid (BX.out.call hB)
 replace SX := Lib.hid (SX.out.trans (hB.mono SX.out.size))
 replace M := Lib.hid (And.intro (M.out.1.below hB) (M.out.2.below hB))
 replace J1 := Lib.hid (And.intro (J1.out.1.below hB) (J1.out.2.below hB))
 have Z9 := Lib.hid (hB.size)
 clear hB
 have J2 := Lib.hid (And.intro hi (vec_own (lo := w9.heap.size) (hi := w10.heap.size) hi hf (Nat.le_refl _) hlt hlt))
 have Z10 := Lib.hid (hlt)
 clear hi hf hlt
 obtain ⟨Q2, hQ2⟩ : ∃ Q, Q = w9.heap.size := ⟨_, rfl⟩
 have Z11 := Lib.hid (hQ2)
 rw [← hQ2] at J2 ⊢
 clear hQ2
 have r0 := (BX.out.mem (.head _)) 0 _ rfl
 have r1 := (BX.out.mem (.head _)) 1 _ rfl
 have r2 := (BX.out.mem (.head _)) 2 _ rfl
 have r3 := (BX.out.mem (.head _)) 3 _ rfl
 have r4 := (BX.out.mem (.head _)) 4 _ rfl
 have r5 := (BX.out.mem (.head _)) 5 _ rfl
 have r6 := (BX.out.mem (.head _)) 6 _ rfl
 have r7 := (BX.out.mem (.head _)) 7 _ rfl
 have r8 := (BX.out.mem (.head _)) 8 _ rfl
 go_wp2_with fail
 clear r0 r1 r2 r3 r4 r5 r6 r7 r8
 refine (HIM.out X0 _ _ _ _ _ M.out.1 J1.out.1 J2.out.1).mono ?_
 rintro e w11 ⟨⟨xg0, rfl, hxg0⟩, hB⟩
 replace BX := Lib.hid (BX.out.call hB)
 replace SX := Lib.hid (SX.out.trans (hB.mono SX.out.size))
 replace M := Lib.hid (And.intro (M.out.1.below hB) (M.out.2.below hB))
 replace J1 := Lib.hid (And.intro (J1.out.1.below hB) (J1.out.2.below hB))
 replace J2 := Lib.hid (And.intro (J2.out.1.below hB) (J2.out.2.below hB))
 have Z12 := Lib.hid (hB.size)
 clear hB
 go_wp2_with fail
 refine (laws_sameFloat _ _ _ _ (FV_wR hxg0) (FV_wR hxs0)).mono ?_
 rintro e w12 ⟨rfl, nd, hw⟩
 have hB : Below w11.heap.size w11 w12 := by rw [hw]; exact below_drewN (by first | exact Below.refl _ _ | exact below_drewN (Below.refl _ _) _ | exact below_drewN (below_drewN (Below.refl _ _) _) _) _
 clear hw
 replace BX := Lib.hid (BX.out.call hB)
 replace SX := Lib.hid (SX.out.trans (hB.mono SX.out.size))
 replace M := Lib.hid (And.intro (M.out.1.below hB) (M.out.2.below hB))
 replace J1 := Lib.hid (And.intro (J1.out.1.below hB) (J1.out.2.below hB))
 replace J2 := Lib.hid (And.intro (J2.out.1.below hB) (J2.out.2.below hB))
 have Z13 := Lib.hid (hB.size)
 clear hB
 go_wp2_with fail
 refine Reg.wp_region_mix (C := fun w' => Below w12.heap.size w12 w') (G := fun w1 w2 => Below w1.heap.size w1 w2) (R := fun i v w' => match i with | 0 => v = X0.v | 1 => v = B.v | 2 => ∃ Y : Bd, v = Y.v ∧ IsB w' Y c | 3 => v = .bool true | 4 => v = .bool false | _ => True) (T := fun _ _ _ => True) [false, false, false, false, false, false, false, false, false, false, false, false, false, false, false, false, false, false, false, false, false, false, false, false, false, false, false, false, false, false, false, false, false, false, false, false, false, false, false, false, false, false, false, false, false, false, false, false, false, false, false, false, false, false, false, false, false, false, false, false, false, false, false, false, false, false, true, true, true, true, true, false, false, false, false, false, false, false, false, false, false]
  (by kernel_rfl) (by kernel_rfl) (by kernel_rfl) ?_ (below_drewN (Below.refl _ _) 1) ?_ ?_
 ·intro j v w1 w2 _ hG hR
  match j with
  | 0 => exact hR
  | 1 => exact hR
  | 2 => obtain ⟨Y, e, h1⟩ := hR; exact ⟨Y, e, h1.below hG⟩
  | 3 => exact hR
  | 4 => exact hR
  | _ + 5 => trivial
 ·refine ⟨Reg.Obl.mk ?_, Reg.Obl.mk ?_, Reg.Obl.mk ?_, Reg.Obl.mk ?_, Reg.Obl.mk ?_, trivial⟩
  ·rintro av wq hB hx hd K hK
   have HC := Lib.hid hB; clear hB
   have t12 : av.tmps[12]?.getD undef = .pointer (some ⟨X, 0, none⟩) := Reg.slot_val (hx 12 (by kernel_rfl))
   have y0 := ((BX.out.call HC.out).mem (.head _)) 0 _ rfl
   have y1 := ((BX.out.call HC.out).mem (.head _)) 1 _ rfl
   have y2 := ((BX.out.call HC.out).mem (.head _)) 2 _ rfl
   have y3 := ((BX.out.call HC.out).mem (.head _)) 3 _ rfl
   have y4 := ((BX.out.call HC.out).mem (.head _)) 4 _ rfl
   have y5 := ((BX.out.call HC.out).mem (.head _)) 5 _ rfl
   have y6 := ((BX.out.call HC.out).mem (.head _)) 6 _ rfl
   have y7 := ((BX.out.call HC.out).mem (.head _)) 7 _ rfl
   have y8 := ((BX.out.call HC.out).mem (.head _)) 8 _ rfl
   go_simp
   exact hK _ _ (fun _ => rfl) (fun h => by cases h) HC.out (Below.refl _ _)
  ·rintro av wq hB hx hd K hK
   have HC := Lib.hid hB; clear hB
   have t4 : av.tmps[4]?.getD undef = .pointer (some ⟨w.heap.size, 0, none⟩) := Reg.slot_val (hx 4 (by kernel_rfl))
   have y0 := ((BX.out.call HC.out).mem (.tail _ (.head _))) 0 _ rfl
   have y1 := ((BX.out.call HC.out).mem (.tail _ (.head _))) 1 _ rfl
   have y2 := ((BX.out.call HC.out).mem (.tail _ (.head _))) 2 _ rfl
   have y3 := ((BX.out.call HC.out).mem (.tail _ (.head _))) 3 _ rfl
   have y4 := ((BX.out.call HC.out).mem (.tail _ (.head _))) 4 _ rfl
   have y5 := ((BX.out.call HC.out).mem (.tail _ (.head _))) 5 _ rfl
   have y6 := ((BX.out.call HC.out).mem (.tail _ (.head _))) 6 _ rfl
   have y7 := ((BX.out.call HC.out).mem (.tail _ (.head _))) 7 _ rfl
   have y8 := ((BX.out.call HC.out).mem (.tail _ (.head _))) 8 _ rfl
   go_simp
   exact hK _ _ (fun _ => rfl) (fun h => by cases h) HC.out (Below.refl _ _)
  ·rintro av wq hB hx hd K hK
   have HC := Lib.hid hB; clear hB
   have t67 : av.tmps[67]?.getD undef = B.v := Reg.slot_val (hd 1 (by kernel_rfl) 67 rfl)
   go_simp
   refine (laws_toBody B c _ (HB.out.below (BX.out.call HC.out).bel) HS.out).mono ?_
   rintro en w2 ⟨Y, rfl, hV, hB2⟩
   exact hK _ _ (fun _ => ⟨Y, rfl, hV⟩) (fun h => by cases h) (HC.out.trans (hB2.mono HC.out.size)) hB2
  ·rintro av wq hB hx hd K hK
   have HC := Lib.hid hB; clear hB
   have t66 : av.tmps[66]?.getD undef = X0.v := Reg.slot_val (hd 0 (by kernel_rfl) 66 rfl)
   obtain ⟨Y, g2, hV⟩ := hd 2 (by kernel_rfl) 68 rfl
   have t68 := Reg.slot_val g2
   clear g2
   have HVe := Lib.hid hV
   clear hV
   go_simp
   refine (laws_eqBody X0 Y c _ (M.out.1.below HC.out) HVe.out HS.out).mono ?_
   rintro en w2 ⟨rfl, hB2⟩
   exact hK _ _ (fun _ => rfl) (fun h => by cases h) (HC.out.trans (hB2.mono HC.out.size)) hB2
  ·rintro av wq hB hx hd K hK
   have t69 : av.tmps[69]?.getD undef = .bool true := Reg.slot_val (hd 3 (by kernel_rfl) 69 rfl)
   go_simp
   exact hK _ _ (fun _ => rfl) (fun h => by cases h) hB (Below.refl _ _)
 rintro f w13 hB hd hTT
 have gg : f 70 = .bool false := hd 4 70 rfl
 simp only [Reg.mixL, gg]
 clear hd hTT gg
 replace BX := Lib.hid (BX.out.call hB)
 replace SX := Lib.hid (SX.out.trans (hB.mono SX.out.size))
 replace M := Lib.hid (And.intro (M.out.1.below hB) (M.out.2.below hB))
 replace J1 := Lib.hid (And.intro (J1.out.1.below hB) (J1.out.2.below hB))
 replace J2 := Lib.hid (And.intro (J2.out.1.below hB) (J2.out.2.below hB))
 have Z14 := Lib.hid (hB.size)
 clear hB
 go_wp2_with fail
 refine (laws_toInt64S _ _ _ _ _ (H1.out.below BX.out.bel) hl1).mono ?_
 rintro e w14 ⟨rfl, hi, hB, _⟩
 replace BX := Lib.hid (BX.out.call hB)
 replace SX := Lib.hid (SX.out.trans (hB.mono SX.out.size))
 replace M := Lib.hid (And.intro (M.out.1.below hB) (M.out.2.below hB))
 replace J1 := Lib.hid (And.intro (J1.out.1.below hB) (J1.out.2.below hB))
 replace J2 := Lib.hid (And.intro (J2.out.1.below hB) (J2.out.2.below hB))
 have Z15 := Lib.hid (hB.size)
 clear hB
 have JY1 := Lib.hid hi
 clear hi
 go_wp2_with fail
 refine (laws_eqInt64S _ _ _ _ _ L1 _ J1.out.1 JY1.out).mono ?_
 rintro e w15 ⟨rfl, nz, hw⟩
 have hB : Below w14.heap.size w14 w15 := by rw [hw]; exact below_drewN (Below.refl _ _) _
 clear hw
 clear JY1
 replace BX := Lib.hid (BX.out.call hB)
 replace SX := Lib.hid (SX.out.trans (hB.mono SX.out.size))
 replace M := Lib.hid (And.intro (M.out.1.below hB) (M.out.2.below hB))
 replace J1 := Lib.hid (And.intro (J1.out.1.below hB) (J1.out.2.below hB))
 replace J2 := Lib.hid (And.intro (J2.out.1.below hB) (J2.out.2.below hB))
 have Z16 := Lib.hid (hB.size)
 clear hB
 go_wp2_with fail
 refine (laws_toVectorS a2 n2 c2 y2 w15 (H2.out.below BX.out.bel) hl2).mono ?_
 rintro e w16 ⟨rfl, hi, hB, _⟩
 replace BX := Lib.hid (BX.out.call hB)
 replace SX := Lib.hid (SX.out.trans (hB.mono SX.out.size))
 replace M := Lib.hid (And.intro (M.out.1.below hB) (M.out.2.below hB))
 replace J1 := Lib.hid (And.intro (J1.out.1.below hB) (J1.out.2.below hB))
 replace J2 := Lib.hid (And.intro (J2.out.1.below hB) (J2.out.2.below hB))
 have Z17 := Lib.hid (hB.size)
 clear hB
 have JY2 := Lib.hid hi
 clear hi
 go_wp2_with fail
 refine (laws_eqVectorS _ _ n2 _ _ y2 _ J2.out.1 JY2.out).mono ?_
 rintro e w17 ⟨rfl, hB⟩
 clear JY2
 replace BX := Lib.hid (BX.out.call hB)
 replace SX := Lib.hid (SX.out.trans (hB.mono SX.out.size))
 replace M := Lib.hid (And.intro (M.out.1.below hB) (M.out.2.below hB))
 replace J1 := Lib.hid (And.intro (J1.out.1.below hB) (J1.out.2.below hB))
 replace J2 := Lib.hid (And.intro (J2.out.1.below hB) (J2.out.2.below hB))
 have Z18 := Lib.hid (hB.size)
 clear hB
 go_wp2
 go_ret
 exact ⟨rfl, BX.out.bel⟩
theorem FnExactRayleighOf_law (pa ta sa wa : Option Addr) (pl pc tl tc sl sc wl wc : Nat) (cs : List C3) (ts : List (List Int)) (ss : List SC) (zs : List Nat) (fi be fx fy fz : Nat) (a1 : Option Addr) (n1 c1 : Nat) (L1 : List Int) (a2 : Option Addr) (n2 c2 : Nat) (y2 : List C3) (x3 : Nat) (w : World) (hp : IsVs w pa pl pc cs) (ht : IsTs w ta tl tc ts) (hs : IsSs w sa sl sc ss) (hw : IsFs .f32 w wa wl wc zs) (hf : fi < 2 ^ FloatKind.f32.format.width ∧ be < 2 ^ FloatKind.f32.format.width ∧ fx < 2 ^ FloatKind.f32.format.width ∧ fy < 2 ^ FloatKind.f32.format.width ∧ fz < 2 ^ FloatKind.f32.format.width) (h1 : IsIs w a1 n1 c1 L1) (h2 : IsVs w a2 n2 c2 y2) (h3 : x3 < 2 ^ FloatKind.f32.format.width) :
  Calls Tryz.prog 4 #[.agg #[.slice pa pl pc, .slice ta tl tc, .slice sa sl sc, .float .f32 fi, .float .f32 be, .slice wa wl wc, .float .f32 fx, .float .f32 fy, .float .f32 fz], .slice a1 n1 c1, .slice a2 n2 c2, .float .f32 x3] w fun e w' => e = .returned (.bool true) ∧ Below w.heap.size w w' :=
 rayleighOf_law ⟨pa, ta, sa, wa, pl, pc, tl, tc, sl, sc, wl, wc, fi, be, fx, fy, fz⟩ ⟨cs, ts, ss, zs, cls .f32 fi, cls .f32 be, (cls .f32 fx, cls .f32 fy, cls .f32 fz)⟩ a1 n1 c1 L1 a2 n2 c2 y2 x3 (cls .f32 x3) w ⟨hp, ht, hs, hw, FV.self hf.1, FV.self hf.2.1, FV.self hf.2.2.1, FV.self hf.2.2.2.1, FV.self hf.2.2.2.2⟩ h1 h2 (FV.self h3) (Nat.lt_of_lt_of_eq h3 (by decide))
end Go.Proofs.YtabccmobmppdnaaGreat
namespace Go.Proofs.YtabccmobmppdnaaGreat
namespace Fk
open Go Go.RowKit
set_option linter.unusedVariables false
section
open Go.ChangeShapes Go.WideShapes Go.Deep
variable {H : Type} {enc : TypeId × Value → H} {P : Program} {w : World} {base : Nat} {held : Bool}
theorem open_vecs {t ev : TypeId} {f0 f1 f2 : Field} {a : Option Addr} {len cap : Nat} {d : DataW H} {p : List MemPlace}
  (hp : P.underlying t = some (.slice ev)) (hev : P.underlying ev = some (.struct #[f0, f1, f2])) (honev : oneCellFields P #[f0, f1, f2] = true) (hCv : P.cellsOf ev = 3)
  (he0 : P.underlying f0.type = some (.float .f32)) (he1 : P.underlying f1.type = some (.float .f32)) (he2 : P.underlying f2.type = some (.float .f32))
  (h : DataW.Trod enc P w base (fun _ => true) held t (.slice a len cap) d p) : ∃ cs, IsVs w a len cap cs := by
 obtain ⟨fuel, hf⟩ := h
 obtain ⟨a', len', cap', cs, e, hv⟩ := trod_vecs hp hev honev hCv he0 he1 he2 (by simpa [Value.cells] using hf)
 cases e
 exact ⟨cs, hv⟩
end
end Fk
end Go.Proofs.YtabccmobmppdnaaGreat
namespace Go.Proofs.YtabccmobmppdnaaGreat
namespace Fk
open Go Go.RowKit
set_option linter.unusedVariables false
section
open Go.ChangeShapes Go.WideShapes Go.Deep
variable {H : Type} {enc : TypeId × Value → H} {P : Program} {w : World} {base : Nat} {held : Bool}
theorem open_ilist {t e : TypeId} {a : Option Addr} {len cap : Nat} {d : DataW H} {p : List MemPlace} (ht : P.underlying t = some (.slice e)) (he : P.underlying e = some (.int .i64)) (hc : P.cellsOf e = 1)
  (h : DataW.Trod enc P w base (fun _ => true) held t (.slice a len cap) d p) : ∃ zs, IsIs w a len cap zs := by
 obtain ⟨fuel, hf⟩ := h
 obtain ⟨a', len', cap', zs, e1, hz⟩ := trod_ints ht he hc (by simpa [Value.cells] using hf)
 cases e1
 exact ⟨zs, hz⟩
end
end Fk
end Go.Proofs.YtabccmobmppdnaaGreat
namespace Go.Proofs.YtabccmobmppdnaaGreat.fnExactRayleighOfDone
open Go.ChangeShapes Go.WideShapes Go.ChangeAt Go.RowKit
open Go.ChangeMaps (open_string shut_string)
set_option linter.unusedVariables false
theorem own : ownKnob Tryz.prog.godebug = none := by kernel_rfl
theorem laidOut : laidOutB Tryz.prog = true := by kernel_rfl
set_option maxRecDepth 100000 in
theorem lifted (os : Os) (started : os.Started) (H : Type) (enc : TypeId × Value → H) :
  ReturnsInHanded {} Tryz.checked os 4 .any (Rows.fnExactRayleighOfSpec.pre6 enc Tryz.prog Tryz.f4 Rows.fnExactRayleighOfRow.domain false) (Rows.fnExactRayleighOfSpec.post enc Tryz.prog Tryz.f4 false true false false) := by
 refine returnsInHanded_of_change (C := Tryz.checked) own started (by kernel_rfl) Tryz.func4
  (ChangeSpec.witness6 (enc := enc) (C := Tryz.checked) false ⟨#[], #[.agg #[.slice none 0 0, .slice none 0 0, .slice none 0 0, .float .f32 0, .float .f32 0, .slice none 0 0, .float .f32 0, .float .f32 0, .float .f32 0], .slice none 0 0, .slice none 0 0, .float .f32 0], []⟩ 8 (by kernel_rfl) (by kernel_rfl) (by kernel_rfl) (by kernel_rfl)) ?_
 intro W base args ds gs before hval0 hW hcnd _
 have hval : ∀ (j : Nat) t v, Tryz.f4.params[j]? = some t → args[j]? = some v → Value.okWide Tryz.prog W .any base t v := hval0
 have hW' := hW
 obtain ⟨p, q, hA0, hV, rfl, hfz, hnd⟩ := hW
 have hA : DataW.TrodAll enc Tryz.prog W 0 (fun _ => true) true Tryz.f4.params.toList args.toList ds p := hA0
 rw [Tryz.params4] at hA hval
 obtain ⟨v0, vs0, d0, ds0, p0, q0, hargs, rfl, rfl, h0, r0⟩ := trodAll_cons hA
 obtain ⟨v1, vs1, d1, ds1, p1, q1, rfl, rfl, rfl, h1, r1⟩ := trodAll_cons r0
 obtain ⟨v2, vs2, d2, ds2, p2, q2, rfl, rfl, rfl, h2, r2⟩ := trodAll_cons r1
 obtain ⟨v3, vs3, d3, ds3, p3, q3, rfl, rfl, rfl, h3, r3⟩ := trodAll_cons r2
 obtain ⟨rfl, rfl, rfl⟩ := trodAll_nil r3
 obtain rfl : args = #[v0, v1, v2, v3] := by cases args; simp_all
 obtain ⟨rfl, rfl⟩ := trodVars_none hV
 have k0 := h0
 have lt0 : ∀ x ∈ p0, x.block < W.heap.size := by obtain ⟨m, hm⟩ := k0; exact DataW.trod_lt m _ _ _ hm
 obtain ⟨pa0, ta0, sa0, wa0, pl0, pc0, tl0, tc0, sl0, sc0, wl0, wc0, cs0, ts0, ss0, zs0, fi0, be0, fx0, fy0, fz0, e0, wp0, wt0, ws0, ww0, wf0⟩ := Fk.open_body Tryz.underlying32 (by kernel_rfl) (by kernel_rfl) (by kernel_rfl) Tryz.underlying25 (by kernel_rfl) Tryz.underlying22 Tryz.underlying30 (by kernel_rfl) (by kernel_rfl) Tryz.underlying27 Tryz.underlying27 Tryz.underlying27 Tryz.underlying23 Tryz.underlying33 Tryz.underlying2 (by kernel_rfl) (by kernel_rfl) Tryz.underlying26 Tryz.underlying168 (by kernel_rfl) (by kernel_rfl) Tryz.underlying2 Tryz.underlying2 Tryz.underlying27 Tryz.underlying27 Tryz.underlying27 Tryz.underlying27 Tryz.underlying28 Tryz.underlying27 (by kernel_rfl) Tryz.underlying30 (by kernel_rfl) Tryz.underlying27 Tryz.underlying27 Tryz.underlying27 (hval 0 32 v0 rfl rfl) h0
 subst e0
 have k1 := h1
 have lt1 : ∀ x ∈ p1, x.block < W.heap.size := by obtain ⟨m, hm⟩ := k1; exact DataW.trod_lt m _ _ _ hm
 obtain ⟨a1, len1, cap1, e1⟩ := okWide_slice Tryz.underlying33 (hval 1 33 v1 rfl rfl)
 subst e1
 obtain ⟨z1, w1⟩ := Fk.open_ilist Tryz.underlying33 Tryz.underlying2 (by kernel_rfl) h1
 have k2 := h2
 have lt2 : ∀ x ∈ p2, x.block < W.heap.size := by obtain ⟨m, hm⟩ := k2; exact DataW.trod_lt m _ _ _ hm
 obtain ⟨a2, len2, cap2, e2⟩ := okWide_slice Tryz.underlying22 (hval 2 22 v2 rfl rfl)
 subst e2
 obtain ⟨cs2, w2⟩ := Fk.open_vecs Tryz.underlying22 Tryz.underlying30 (by kernel_rfl) (by kernel_rfl) Tryz.underlying27 Tryz.underlying27 Tryz.underlying27 h2
 have k3 := h3
 have lt3 : ∀ x ∈ p3, x.block < W.heap.size := by obtain ⟨m, hm⟩ := k3; exact DataW.trod_lt m _ _ _ hm
 obtain ⟨a3, e3, _, _, g3⟩ := open_float Tryz.underlying27 (hval 3 27 v3 rfl rfl) h3
 subst e3
 have w3 := Fk.wf_lt g3
 clear hA0 hval0
 refine (FnExactRayleighOf_law pa0 ta0 sa0 wa0 pl0 pc0 tl0 tc0 sl0 sc0 wl0 wc0 cs0 ts0 ss0 zs0 fi0 be0 fx0 fy0 fz0 a1 len1 cap1 z1 a2 len2 cap2 cs2 a3 W wp0 wt0 ws0 ww0 wf0 w1 w2 w3).mono fun e W' ⟨he, bel⟩ => ?_
 subst he
 exact ⟨_, rfl, _, _, _, [], _, [], hW', trodAll_mk1 (shut_bool Tryz.underlying4 _), (trodAll_cons_mk (Below.trod laidOut (by kernel_rfl) (of_decide_eq_true (by kernel_rfl)) k0 bel lt0) (trodAll_cons_mk (Below.trod laidOut (by kernel_rfl) (of_decide_eq_true (by kernel_rfl)) k1 bel lt1) (trodAll_cons_mk (Below.trod laidOut (by kernel_rfl) (of_decide_eq_true (by kernel_rfl)) k2 bel lt2) (trodAll_cons_mk (Below.trod laidOut (by kernel_rfl) (of_decide_eq_true (by kernel_rfl)) k3 bel lt3) trodAll_mk0)))), rfl, bel.frame _, fun h => by cases h⟩
end Go.Proofs.YtabccmobmppdnaaGreat.fnExactRayleighOfDone


/-
Whether lists of springs are the same, and bodies: what the program returns. Conditions: none.
-/
import Derived.Test.YtmmiadkmldaegabSbC
namespace Go.Proofs.Ytmmiadkmldaegab
open Go Fk Go.RowKit
set_option linter.unusedVariables false
set_option maxRecDepth 8000
def sameSp (s t : SC) : Bool := s.1 == t.1 && s.2.1 == t.2.1 && bitsC s.2.2.1 == bitsC t.2.2.1 && bitsC s.2.2.2 == bitsC t.2.2.2
def sameSs (ss tt : List SC) : Bool := sameL sameSp s0 ss tt
set_option maxHeartbeats 1000000 in
theorem equalSprings (a b : Option Addr) (len cap len' cap' : Nat) (zs ys : List SC) (w : World) (ha : IsSs w a len cap zs) (hb : IsSs w b len' cap' ys) :
    Calls Try.prog 44 #[.slice a len cap, .slice b len' cap', .func (.func 45) #[] #[]] w fun e w' => e = .returned (.bool (sameSs zs ys)) ∧ Below w.heap.size w w' := by
  have uv := Try.underlying75
  have hm : len ≤ 9223372036854775807 := by have h1 := ha.2.1; have h2 := ha.2.2.1; unfold maxLen at h2; omega
  have hzl := ha.1
  have hyl := hb.1
  by_cases hll : len = len'
  · subst hll
    generalize hr : sameSs zs ys = res
    have HR := Lib.hid hr
    have HE := Lib.hid (sameL_eq (q := sameSp) (d := s0) (hzl.trans hyl.symm))
    have HNE := Lib.hid (fun k => @sameL_ne _ sameSp s0 zs ys k)
    have HZ := Lib.hid hzl
    clear hr hzl hyl
    go_enter Try.func44, Try.ntmps44
    go_wp2
    go_loopw [17] (fun i w' => ∃ k : Nat, k ≤ len ∧ i = .int .i64 k ∧ Aside (∀ j, j < k → sameSp (zs.getD j s0) (ys.getD j s0) = true) ∧ Below w.heap.size w w') (fun i _ => len - (intOf i).toNat)
    case atStart => exact ⟨0, Nat.zero_le _, rfl, (fun j hj => absurd hj (by omega)), Below.refl _ _⟩
    case round =>
      obtain ⟨k, hk, rfl, hall, hw⟩ := hrel
      have HW := Lib.hid hw
      by_cases hlt : k < len
      · obtain ⟨b1, o1, rfl, hcell1⟩ := (ha.below hw).some (by omega)
        obtain ⟨b2, o2, rfl, hcell2⟩ := (hb.below hw).some (by omega)
        obtain ⟨p1, q1, c11, c12, c13, c14, f11, f12⟩ := hcell1 k hlt
        obtain ⟨p2, q2, c21, c22, c23, c24, f21, f22⟩ := hcell2 k hlt
        have hk0 : (0 : Int) ≤ (k : Int) := by omega
        have hk1 : (k : Int) < (len : Int) := by omega
        have hsv : ((zs.getD k s0).1 == (ys.getD k s0).1 && (zs.getD k s0).2.1 == (ys.getD k s0).2.1 && bitsZ p1 == bitsZ p2 && bitsZ q1 == bitsZ q2) = sameSp (zs.getD k s0) (ys.getD k s0) := by
          unfold sameSp; rw [bitsZ_of f11, bitsZ_of f12, bitsZ_of f21, bitsZ_of f22]
        have hJ := fun w => impl_sameSpring (zs.getD k s0).1 (zs.getD k s0).2.1 (ys.getD k s0).1 (ys.getD k s0).2.1 p1 q1 p2 q2 w f11.1 f12.1 f21.1 f22.1
        rw [hsv] at hJ
        obtain ⟨ua, hua⟩ : ∃ ua, ua = (zs.getD k s0).1 := ⟨_, rfl⟩
        obtain ⟨ub, hub⟩ : ∃ ub, ub = (zs.getD k s0).2.1 := ⟨_, rfl⟩
        obtain ⟨va, hva⟩ : ∃ va, va = (ys.getD k s0).1 := ⟨_, rfl⟩
        obtain ⟨vb, hvb⟩ : ∃ vb, vb = (ys.getD k s0).2.1 := ⟨_, rfl⟩
        rw [← hua] at c11 hJ
        rw [← hub] at c12 hJ
        rw [← hva] at c21 hJ
        rw [← hvb] at c22 hJ
        have l21 := fun ob => cell_alloc (o := ob) c21
        have l22 := fun ob => cell_alloc (o := ob) c22
        have l23 := fun ob => cell_alloc (o := ob) c23
        have l24 := fun ob => cell_alloc (o := ob) c24
        cases hz : sameSp (zs.getD k s0) (ys.getD k s0)
        · have hres := Lib.hid (HNE.out k (by rw [HZ.out]; exact hlt) hz)
          rw [hz] at hJ
          have HJ := Lib.hid hJ
          clear hall hcell1 hcell2 ha hb hw HNE hJ hz hsv f11 f12 f21 f22 hua hub hva hvb
          go_wp2_with (go_at_call 45; refine (HJ.out _).mono ?_; rintro e w1 ⟨rfl, hb1⟩; have HB1 := Lib.hid hb1; clear hb1)
          go_ret
          exact ⟨ret_bool (by rw [← HR.out]; exact hres.out.symm), (((HW.out.alloc HW.out.size _).alloc (by have := HW.out.size; simp; omega) _).trans (HB1.out.mono (by have := HW.out.size; simp; omega)))⟩
        · have hall' : Aside (∀ j, j < k + 1 → sameSp (zs.getD j s0) (ys.getD j s0) = true) := by
            intro j hj
            by_cases hjk : j = k
            · subst hjk; exact hz
            · exact hall.out j (by omega)
          rw [hz] at hJ
          have HJ := Lib.hid hJ
          clear hz hall hcell1 hcell2 ha hb hw hJ hsv f11 f12 f21 f22 hua hub hva hvb
          go_wp2_with (go_at_call 45; refine (HJ.out _).mono ?_; rintro e w1 ⟨rfl, hb1⟩; have HB1 := Lib.hid hb1; clear hb1)
          go_roundw
          case rel => exact ⟨k + 1, by omega, by go_num, hall', (((HW.out.alloc HW.out.size _).alloc (by have := HW.out.size; simp; omega) _).trans (HB1.out.mono (by have := HW.out.size; simp; omega)))⟩
          case measure => simp [intOf]; omega
      · obtain rfl : k = len := by omega
        have hres := Lib.hid (HE.out (fun j hj => hall.out j (by rw [HZ.out] at hj; exact hj)))
        clear hall hw ha hb
        go_wp2
        go_ret
        exact ⟨ret_bool (by rw [← HR.out]; exact hres.out.symm), HW.out⟩
  · have hf : sameSs zs ys = false := sameL_len (by omega)
    have hll' : ¬ (len : Int) = len' := by omega
    rw [hf]
    clear hf hzl hyl ha hb
    go_enter Try.func44, Try.ntmps44
    go_wp2
    go_ret
    exact ⟨rfl, Below.refl _ _⟩
/-- Whether two bodies are the same, in the order of the program. -/
def bd1 (c c' : Bc) : Bool := sameVs c.cs c'.cs && decide (c.ts = c'.ts)
def sameBd (c c' : Bc) : Bool := bd1 c c' && sameSs c.ss c'.ss && (bitsC c.film == bitsC c'.film) && (bitsC c.bend == bitsC c'.bend) && sameFs c.zs c'.zs && sameV c.fall c'.fall
set_option maxHeartbeats 2000000 in
theorem impl_SameBody (B B' : Bd) (c c' : Bc) (w : World) (h : IsB w B c) (h' : IsB w B' c') :
    Calls Try.prog 11 #[B.v, B'.v] w fun e w' => e = .returned (.bool (sameBd c c')) ∧ Below w.heap.size w w' := by
  have ui := Try.underlying41
  have um := Try.underlying37
  have uv := Try.underlying39
  have hA0 : At ((w.alloc (BoxB B 41)).alloc (BoxB B' 41)) w.heap.size B.l := At.new.alloc
  have hA1 : At ((w.alloc (BoxB B 41)).alloc (BoxB B' 41)) (w.heap.size + 1) B'.l := by
    have := At.new (w := w.alloc (BoxB B 41)) (vs := B'.l) (t := 41)
    simpa using this
  have hB0 := ((Below.refl w.heap.size w).alloc (Nat.le_refl _) (BoxB B 41)).alloc (by simp) (BoxB B' 41)
  have H := Lib.hid (h.below hB0)
  have H' := Lib.hid (h'.below hB0)
  have A0 := Lib.hid hA0
  have A1 := Lib.hid hA1
  have B0 := Lib.hid hB0
  clear h h' hA0 hA1 hB0
  have J1 := impl_SameMesh _ _ _ _ _ _ _ _ _ _ _ _ c.cs c'.cs c.ts c'.ts _ H.out.1 H.out.2.1 H'.out.1 H'.out.2.1
  unfold sameBd bd1
  have e3 : (bitsC c.film == bitsC c'.film) = (bitsZ B.film == bitsZ B'.film) := by rw [bitsZ_of H.out.2.2.2.2.1, bitsZ_of H'.out.2.2.2.2.1]
  have e4 : (bitsC c.bend == bitsC c'.bend) = (bitsZ B.bend == bitsZ B'.bend) := by rw [bitsZ_of H.out.2.2.2.2.2.1, bitsZ_of H'.out.2.2.2.2.2.1]
  have e6 : sameV c.fall c'.fall = ((bitsZ B.x == bitsZ B'.x) && (bitsZ B.y == bitsZ B'.y) && (bitsZ B.z == bitsZ B'.z)) := by
    unfold sameV
    rw [bitsZ_of H.out.2.2.2.2.2.2.1, bitsZ_of H.out.2.2.2.2.2.2.2.1, bitsZ_of H.out.2.2.2.2.2.2.2.2, bitsZ_of H'.out.2.2.2.2.2.2.1, bitsZ_of H'.out.2.2.2.2.2.2.2.1, bitsZ_of H'.out.2.2.2.2.2.2.2.2]
  rw [e3, e4, e6]
  have J2 := fun w (hs : IsSs w B.sa B.sl B.sc c.ss) (hs' : IsSs w B'.sa B'.sl B'.sc c'.ss) => equalSprings _ _ _ _ _ _ c.ss c'.ss w hs hs'
  have J3 := fun w => impl_SameNumber B.film B'.film w H.out.2.2.2.2.1.1 H'.out.2.2.2.2.1.1
  have J4 := fun w => impl_SameNumber B.bend B'.bend w H.out.2.2.2.2.2.1.1 H'.out.2.2.2.2.2.1.1
  have J5 := fun w (hs : IsFs .f32 w B.wa B.wl B.wc c.zs) (hs' : IsFs .f32 w B'.wa B'.wl B'.wc c'.zs) => equalNums _ _ _ _ _ _ c.zs c'.zs w hs hs'
  have J6 := fun w => impl_SameVector B.x B.y B.z B'.x B'.y B'.z w H.out.2.2.2.2.2.2.1.1 H.out.2.2.2.2.2.2.2.1.1 H.out.2.2.2.2.2.2.2.2.1 H'.out.2.2.2.2.2.2.1.1 H'.out.2.2.2.2.2.2.2.1.1 H'.out.2.2.2.2.2.2.2.2.1
  generalize (sameVs c.cs c'.cs && decide (c.ts = c'.ts)) = b1 at *
  generalize sameSs c.ss c'.ss = b2 at *
  generalize (bitsZ B.film == bitsZ B'.film) = b3 at *
  generalize (bitsZ B.bend == bitsZ B'.bend) = b4 at *
  generalize sameFs c.zs c'.zs = b5 at *
  generalize ((bitsZ B.x == bitsZ B'.x) && (bitsZ B.y == bitsZ B'.y) && (bitsZ B.z == bitsZ B'.z)) = b6 at *
  have J1 := Lib.hid J1
  have J2 := Lib.hid J2
  have J3 := Lib.hid J3
  have J4 := Lib.hid J4
  have J5 := Lib.hid J5
  have J6 := Lib.hid J6
  clear e3 e4 e6
  go_enter Try.func11, Try.ntmps11
  go_wp2_with fail
  change Calls _ _ _ ((w.alloc (BoxB B 41)).alloc (BoxB B' 41)) _
  generalize ((w.alloc (BoxB B 41)).alloc (BoxB B' 41)) = W at *
  refine J1.out.mono ?_
  rintro e w1 ⟨rfl, hB1⟩
  have A0 := Lib.hid (A0.out.below hB1)
  have A1 := Lib.hid (A1.out.below hB1)
  have H := Lib.hid (H.out.below hB1)
  have H' := Lib.hid (H'.out.below hB1)
  have B1 := Lib.hid (B0.out.trans (hB1.mono B0.out.size))
  clear hB1 J1
  have k2 := A0.out 2 _ rfl
  have j2 := A1.out 2 _ rfl
  cases b1
  · go_wp2
    go_ret
    exact ⟨by first | rfl | simp, B1.out⟩
  go_wp2_with fail
  refine (J2.out _ H.out.2.2.1 H'.out.2.2.1).mono ?_
  rintro e w2 ⟨rfl, hB2⟩
  have A0 := Lib.hid (A0.out.below hB2)
  have A1 := Lib.hid (A1.out.below hB2)
  have H := Lib.hid (H.out.below hB2)
  have H' := Lib.hid (H'.out.below hB2)
  have B2 := Lib.hid (B1.out.trans (hB2.mono B1.out.size))
  clear hB2 J2 k2 j2
  have k3 := A0.out 3 _ rfl
  have j3 := A1.out 3 _ rfl
  have k4 := A0.out 4 _ rfl
  have j4 := A1.out 4 _ rfl
  have k5 := A0.out 5 _ rfl
  have j5 := A1.out 5 _ rfl
  have k6 := A0.out 6 _ rfl
  have j6 := A1.out 6 _ rfl
  have k7 := A0.out 7 _ rfl
  have j7 := A1.out 7 _ rfl
  have k8 := A0.out 8 _ rfl
  have j8 := A1.out 8 _ rfl
  cases b2
  · go_wp2
    go_ret
    exact ⟨by first | rfl | simp, B2.out⟩
  go_wp2_with fail
  refine (J3.out _).mono ?_
  rintro e w3 ⟨rfl, n3, hw⟩
  rw [hw]; clear hw w3
  cases b3
  · go_wp2
    go_ret
    exact ⟨by first | rfl | simp, below_drewN B2.out _⟩
  go_wp2_with fail
  refine (J4.out _).mono ?_
  rintro e w3 ⟨rfl, n4, hw⟩
  rw [hw]; clear hw w3
  cases b4
  · go_wp2
    go_ret
    exact ⟨by first | rfl | simp, below_drewN B2.out _⟩
  go_wp2_with fail
  refine (J5.out _ (IsFs_drewN H.out.2.2.2.1) (IsFs_drewN H'.out.2.2.2.1)).mono ?_
  rintro e w3 ⟨rfl, n5, hw⟩
  rw [hw]; clear hw w3
  cases b5
  · go_wp2
    go_ret
    exact ⟨by first | rfl | simp, below_drewN B2.out _⟩
  go_wp2_with fail
  refine (J6.out _).mono ?_
  rintro e w3 ⟨rfl, hB3⟩
  have B3 := Lib.hid ((below_drewN B2.out _).trans (hB3.mono (below_drewN B2.out _).size))
  clear hB3
  cases b6
  all_goals
    go_wp2
    go_ret
    exact ⟨by first | rfl | simp, B3.out⟩
end Go.Proofs.Ytmmiadkmldaegab


/-
The law of the sum of inner products returns true: its walk. Conditions: none beyond that the lists lie in memory.
-/
import Derived.Test.YtajglpkeojaelaaInA
namespace Go.Proofs.Ytajglpkeojaelaa
open Go Fk Go.RowKit
set_option linter.unusedVariables false
set_option maxRecDepth 8000

set_option maxHeartbeats 1000000 in
theorem FnExactInnerAll_law (a : Option Addr) (len cap : Nat) (cs : List C3) (a' : Option Addr) (len' cap' : Nat) (cs' : List C3) (w : World) (h : IsVs w a len cap cs) (h' : IsVs w a' len' cap' cs') :
    Calls Try.prog 4 #[.slice a len cap, .slice a' len' cap'] w fun e w' => e = .returned (.bool true) ∧ Below w.heap.size w w' := by
  have uv := Try.underlying40
  have u := Try.underlying27
  have u' := Try.underlying53
  have hm : len ≤ 9223372036854775807 := by have h1 := h.2.1; have h2 := h.2.2.1; unfold maxLen at h2; omega
  have hm' : len' ≤ 9223372036854775807 := by have h1 := h'.2.1; have h2 := h'.2.2.1; unfold maxLen at h2; omega
  have H := Lib.hid h
  have H' := Lib.hid h'
  clear h h'
  obtain ⟨nb, hnb⟩ : ∃ nb : Bool, nb = inaB len len' := ⟨_, rfl⟩
  have hbb : (nb == nb) = true := by simp
  have hbb' : (nb != nb) = false := by simp
  have HNB := Lib.hid hnb
  clear hnb
  go_enter Try.func4, Try.ntmps4
  go_wp2_with fail
  refine (laws_szVectorS _ _ _ _ _ (by decide) (by decide) hm).mono ?_
  rintro e w1 ⟨⟨r, rfl, hr⟩, hw1⟩
  rw [hw1]
  clear hw1 w1
  rcases hr with rfl | ⟨hr0, hr1, hlen⟩
  · go_wp2
    go_ret
    exact ⟨rfl, Below.refl _ _⟩
  go_wp2_with fail
  refine (laws_szVectorS _ _ _ _ _ hr0 hr1 hm').mono ?_
  rintro e w1 ⟨⟨r2, rfl, hr2⟩, hw1⟩
  rw [hw1]
  clear hw1 w1
  rcases hr2 with rfl | ⟨hr20, hr21, hlen'⟩
  · go_wp2
    go_ret
    exact ⟨rfl, Below.refl _ _⟩
  go_wp2_with fail
  refine (laws_toVectorS _ _ _ _ _ H.out hlen).mono ?_
  rintro e w1 ⟨rfl, hV, hB, hS⟩
  have HV := Lib.hid hV
  have HB := Lib.hid hB
  clear hV hB hS
  go_wp2_with fail
  refine (laws_toVectorS _ _ _ _ _ (H'.out.below HB.out) hlen').mono ?_
  rintro e w2 ⟨rfl, hV2, hB2, hS2⟩
  have HV' := Lib.hid (HV.out.below hB2)
  have HW := Lib.hid hV2
  have HB2 := Lib.hid (HB.out.trans (hB2.mono HB.out.size))
  clear hV2 hB2 hS2 HV
  generalize w1.heap.size = y0 at *
  go_wp2_with fail
  refine (spec_InnerAll _ _ _ _ _ _ _ _ _ HV'.out HW.out).mono ?_
  rintro e w3 ⟨s, rfl, hF, hB3⟩
  have HF := Lib.hid hF
  have HB3 := Lib.hid (HB2.out.trans (hB3.mono HB2.out.size))
  clear hF hB3 HV' HW
  rw [← HNB.out]
  go_wp2_with fail
  refine (laws_toVectorS _ _ _ _ _ (H.out.below HB3.out) hlen).mono ?_
  rintro e w4 ⟨rfl, hX, hB4, hS4⟩
  have HB4 := Lib.hid (HB3.out.trans (hB4.mono HB3.out.size))
  have HX := Lib.hid hX
  clear hX hB4 hS4
  generalize w3.heap.size = X at *
  go_wp2_with fail
  refine (laws_toVectorS _ _ _ _ _ (H'.out.below HB4.out) hlen').mono ?_
  rintro e w5 ⟨rfl, hY, hB5, hS5⟩
  have HB5 := Lib.hid (HB4.out.trans (hB5.mono HB4.out.size))
  have HX5 := Lib.hid (HX.out.below hB5)
  have HY := Lib.hid hY
  clear hY hB5 hS5 HX
  generalize w4.heap.size = Y at *
  go_wp2_with fail
  refine (impl_InnerAll _ _ _ _ _ _ _ _ _ HX5.out HY.out).mono ?_
  rintro e w6 ⟨g, rfl, gF, hB6⟩
  have HG := Lib.hid gF
  have HX6 := Lib.hid (HX5.out.below hB6)
  have HY6 := Lib.hid (HY.out.below hB6)
  have HB6 := Lib.hid (HB5.out.trans (hB6.mono HB5.out.size))
  clear gF hB6
  rw [← HNB.out]
  go_wp2_with fail
  refine (laws_sameFloat _ _ _ _ (FV_wR HG.out) (FV_wR HF.out)).mono ?_
  rintro e w7 ⟨rfl, n, hw7⟩
  have HX7 : RowKit.Hid (IsVs w7 (some ⟨X, 0, none⟩) len len cs) := Lib.hid (by rw [hw7]; exact HX6.out)
  have HY7 : RowKit.Hid (IsVs w7 (some ⟨Y, 0, none⟩) len' len' cs') := Lib.hid (by rw [hw7]; exact HY6.out)
  have HB7 : RowKit.Hid (Below w.heap.size w w7) := Lib.hid (by rw [hw7]; exact below_drewN (below_drewN HB6.out _) _)
  clear hw7
  go_wp2_with fail
  refine (laws_toVectorS _ _ _ _ _ (H.out.below HB7.out) hlen).mono ?_
  rintro e w8 ⟨rfl, hZ, hB8, hS8⟩
  have HZ := Lib.hid hZ
  have HX8 := Lib.hid (HX7.out.below hB8)
  have HY8 := Lib.hid (HY7.out.below hB8)
  have HB8 := Lib.hid (HB7.out.trans (hB8.mono HB7.out.size))
  clear hZ hB8 hS8
  go_wp2_with fail
  refine (laws_eqVectorS _ _ _ _ _ cs _ HX8.out HZ.out).mono ?_
  rintro e w9 ⟨rfl, hB9⟩
  have HY9 := Lib.hid (HY8.out.below hB9)
  have HB9 := Lib.hid (HB8.out.trans (hB9.mono HB8.out.size))
  clear hB9
  go_wp2_with fail
  refine (laws_toVectorS _ _ _ _ _ (H'.out.below HB9.out) hlen').mono ?_
  rintro e w10 ⟨rfl, hZ, hB10, hS10⟩
  have HZ' := Lib.hid hZ
  have HY10 := Lib.hid (HY9.out.below hB10)
  have HB10 := Lib.hid (HB9.out.trans (hB10.mono HB9.out.size))
  clear hZ hB10 hS10
  go_wp2_with fail
  refine (laws_eqVectorS _ _ _ _ _ cs' _ HY10.out HZ'.out).mono ?_
  rintro e w11 ⟨rfl, hB11⟩
  have HB11 := Lib.hid (HB10.out.trans (hB11.mono HB10.out.size))
  clear hB11
  go_wp2
  go_ret
  exact ⟨rfl, HB11.out⟩
end Go.Proofs.Ytajglpkeojaelaa

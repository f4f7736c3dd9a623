
/-
The law of the greatest length returns true: its walk. Conditions: none beyond that the list lies in memory.
-/
import Derived.Test.YtcdpehkpifiliaaLo
import Derived.Test.YtcdpehkpifiliaaMwE
namespace Go.Proofs.Ytcdpehkpifiliaa
open Go Fk Go.RowKit
set_option linter.unusedVariables false
set_option maxRecDepth 8000

set_option maxHeartbeats 1000000 in
theorem FnExactLongestOf_law (a : Option Addr) (len cap : Nat) (cs : List C3) (w : World) (h : IsVs w a len cap cs) :
    Calls Try.prog 4 #[.slice a len cap] w fun e w' => e = .returned (.bool true) ∧ Below w.heap.size w w' := by
  have uv := Try.underlying26
  have u := Try.underlying24
  have u' := Try.underlying37
  have hm : len ≤ 9223372036854775807 := by have h1 := h.2.1; have h2 := h.2.2.1; unfold maxLen at h2; omega
  have H := Lib.hid h
  clear h
  go_enter Try.func4, Try.ntmps4
  go_wp2_with fail
  refine (laws_szVectorS _ _ _ _ _ (by decide) (by decide) hm).mono ?_
  rintro e w1 ⟨⟨r, rfl, hr⟩, hw1⟩
  rw [hw1]
  clear hw1 w1
  rcases hr with rfl | ⟨hr0, hr1, hlen⟩
  · go_wp2
    go_ret
    exact ⟨rfl, Below.refl _ _⟩
  · go_wp2_with fail
    refine (laws_toVectorS _ _ _ _ _ H.out hlen).mono ?_
    rintro e w1 ⟨rfl, hV, hB, hS⟩
    have HV := Lib.hid hV
    have HB := Lib.hid hB
    clear hV hB hS
    go_wp2_with fail
    refine (spec_LongestOf _ _ _ _ _ HV.out).mono ?_
    rintro e w2 ⟨s, rfl, hF, hB2⟩
    have HF := Lib.hid hF
    have HB2 := Lib.hid (HB.out.trans (hB2.mono HB.out.size))
    clear hF hB2 HV
    go_wp2_with fail
    refine (laws_toVectorS _ _ _ _ _ (H.out.below HB2.out) hlen).mono ?_
    rintro e w3 ⟨rfl, hX, hB4, hS4⟩
    have HB4 := Lib.hid (HB2.out.trans (hB4.mono HB2.out.size))
    have HX := Lib.hid hX
    clear hX hB4 hS4
    generalize w2.heap.size = X at *
    go_wp2_with fail
    refine (impl_LongestOf _ _ _ _ _ HX.out).mono ?_
    rintro e w4 ⟨g, rfl, gF, hB5⟩
    have HG := Lib.hid gF
    have HX5 := Lib.hid (HX.out.below hB5)
    have HB5 := Lib.hid (HB4.out.trans (hB5.mono HB4.out.size))
    clear gF hB5
    go_wp2_with fail
    refine (laws_sameFloat _ _ _ _ (FV_wR HG.out) (FV_wR HF.out)).mono ?_
    rintro e w5 ⟨rfl, n, hw5⟩
    have hB7 := below_drewN (below_drewN (below_drewN HB5.out (wN g)) (wN s)) n
    rw [World.drewN_drewN] at hw5
    have HX7 : RowKit.Hid (IsVs w5 (some ⟨X, 0, none⟩) len len cs) := Lib.hid (by rw [hw5]; exact HX5.out)
    have HB7 : RowKit.Hid (Below w.heap.size w w5) := Lib.hid (by rw [hw5]; exact below_drewN HB5.out _)
    clear hB7 hw5
    go_wp2_with fail
    refine (laws_toVectorS _ _ _ _ _ (H.out.below HB7.out) hlen).mono ?_
    rintro e w6 ⟨rfl, hY, hB8, hS8⟩
    have HY := Lib.hid hY
    have HX8 := Lib.hid (HX7.out.below hB8)
    have HB8 := Lib.hid (HB7.out.trans (hB8.mono HB7.out.size))
    clear hY hB8 hS8
    go_wp2_with fail
    refine (laws_eqVectorS _ _ _ _ _ cs _ HX8.out HY.out).mono ?_
    rintro e w7 ⟨rfl, hB9⟩
    have HB9 := Lib.hid (HB8.out.trans (hB9.mono HB8.out.size))
    clear hB9
    go_wp2
    go_ret
    exact ⟨rfl, HB9.out⟩
end Go.Proofs.Ytcdpehkpifiliaa


/-
The law of sums of vectors returns true: its walk. Conditions: none beyond that the list lies in memory.
-/
import Derived.Test.YtcdpehkpifiliaaTo
import Derived.Test.YtcdpehkpifiliaaMwE
namespace Go.Proofs.Ytcdpehkpifiliaa
open Go Fk Go.RowKit
set_option linter.unusedVariables false
set_option maxRecDepth 8000

set_option maxHeartbeats 1000000 in
theorem FnExactTotalOf_law (a : Option Addr) (len cap : Nat) (cs : List C3) (w : World) (h : IsVs w a len cap cs) :
    Calls Try.prog 3 #[.slice a len cap] w fun e w' => e = .returned (.bool true) ∧ Below w.heap.size w w' := by
  have uv := Try.underlying26
  have hm : len ≤ 9223372036854775807 := by have h1 := h.2.1; have h2 := h.2.2.1; unfold maxLen at h2; omega
  have H := Lib.hid h
  clear h
  go_enter Try.func3, Try.ntmps3
  go_wp2_with fail
  refine (laws_szVectorS _ _ _ _ _ (by decide) (by decide) hm).mono ?_
  rintro e w1 ⟨⟨r, rfl, hr⟩, hw1⟩
  rw [hw1]
  clear hw1 w1
  rcases hr with rfl | ⟨hr0, hr1, hlen⟩
  · go_wp2
    go_ret
    exact ⟨rfl, Below.refl _ _⟩
  · go_wp2_with fail
    refine (laws_toVectorS _ _ _ _ _ H.out hlen).mono ?_
    rintro e w1 ⟨rfl, hV, hB, hS⟩
    have HV := Lib.hid hV
    have HB := Lib.hid hB
    clear hV hB hS
    go_wp2_with fail
    refine (spec_TotalOf _ _ _ _ _ HV.out).mono ?_
    rintro e w2 ⟨sx, sy, sz, rfl, hF, hB2⟩
    have HF := Lib.hid hF
    have HB2 := Lib.hid (HB.out.trans (hB2.mono HB.out.size))
    clear hF hB2 HV
    go_wp2_with fail
    have HV2 : RowKit.Hid (V3 (w2.alloc (.cells #[.float .f32 sx, .float .f32 sy, .float .f32 sz] 26)) w2.heap.size sx sy sz) := Lib.hid V3.new
    have HB3 := Lib.hid (below_new (o := .cells #[.float .f32 sx, .float .f32 sy, .float .f32 sz] 26) HB2.out (Nat.le_refl _))
    generalize (w2.alloc (.cells #[.float .f32 sx, .float .f32 sy, .float .f32 sz] 26)) = W2 at *
    generalize w2.heap.size = S at *
    refine (laws_toVectorS _ _ _ _ _ (H.out.below HB3.out) hlen).mono ?_
    rintro e w3 ⟨rfl, hX, hB4, hS4⟩
    have HV3 := Lib.hid (HV2.out.below hB4)
    have HB4 := Lib.hid (HB3.out.trans (hB4.mono HB3.out.size))
    have HX := Lib.hid hX
    clear hX hB4 hS4
    generalize W2.heap.size = X at *
    go_wp2_with fail
    refine (impl_TotalOf _ _ _ _ _ HX.out).mono ?_
    rintro e w4 ⟨gx, gy, gz, rfl, gF, hB5⟩
    have HG := Lib.hid gF
    have HX5 := Lib.hid (HX.out.below hB5)
    have HB5 := Lib.hid (HB4.out.trans (hB5.mono HB4.out.size))
    have hV4 := HV3.out.below hB5
    clear gF hB5
    obtain ⟨⟨v0, v1, v2⟩, -⟩ := hV4
    have lv0 := fun ob => cell_alloc (o := ob) v0
    have lv1 := fun ob => cell_alloc (o := ob) v1
    have lv2 := fun ob => cell_alloc (o := ob) v2
    go_wp2_with fail
    clear lv0 lv1 lv2 v0 v1 v2
    have HB6 := Lib.hid (below_new (o := .cells #[.float .f32 gx, .float .f32 gy, .float .f32 gz] 26) HB5.out (Nat.le_refl _))
    have HX6 := Lib.hid (HX5.out.below (below_new (o := .cells #[.float .f32 gx, .float .f32 gy, .float .f32 gz] 26) (Below.refl w4.heap.size w4) (Nat.le_refl _)))
    generalize (w4.alloc (.cells #[.float .f32 gx, .float .f32 gy, .float .f32 gz] 26)) = W4 at *
    refine (laws_eqVector _ _ _ _ _ _ _ _ _ _ HG.out.1 HG.out.2.1 HG.out.2.2 HF.out.1 HF.out.2.1 HF.out.2.2).mono ?_
    rintro e w5 ⟨rfl, hB7⟩
    have HX7 := Lib.hid (HX6.out.below hB7)
    have HB7 := Lib.hid (HB6.out.trans (hB7.mono HB6.out.size))
    clear hB7
    go_wp2_with fail
    refine (laws_toVectorS _ _ _ _ _ (H.out.below HB7.out) hlen).mono ?_
    rintro e w6 ⟨rfl, hY, hB8, hS8⟩
    have HY := Lib.hid hY
    have HX8 := Lib.hid (HX7.out.below hB8)
    have HB8 := Lib.hid (HB7.out.trans (hB8.mono HB7.out.size))
    clear hY hB8 hS8
    go_wp2_with fail
    refine (laws_eqVectorS _ _ _ _ _ cs _ HX8.out HY.out).mono ?_
    rintro e w7 ⟨rfl, hB9⟩
    have HB9 := Lib.hid (HB8.out.trans (hB9.mono HB8.out.size))
    clear hB9
    go_wp2
    go_ret
    exact ⟨rfl, HB9.out⟩
end Go.Proofs.Ytcdpehkpifiliaa

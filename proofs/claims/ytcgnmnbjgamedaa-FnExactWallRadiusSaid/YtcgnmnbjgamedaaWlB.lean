
/-
Walls between bubbles: what the program, its model and the law return. Conditions: none beyond that the words fit.
-/
import Derived.Test.YtcgnmnbjgamedaaWlA
import Derived.Test.YtcgnmnbjgamedaaBuA
import Derived.Test.YtcgnmnbjgamedaaNn
namespace Go.Proofs.Ytcgnmnbjgamedaa
open Go Fk Go.RowKit
set_option linter.unusedVariables false
set_option maxRecDepth 8000

theorem size_word {v : Nat} (hlt : v < 4294967296) (hs : sizeB v = true) : v < 2139095040 := by
  unfold sizeB at hs
  simp only [Bool.and_eq_true] at hs
  have hf := hs.1
  unfold finB at hf
  have hf2 := of_decide_eq_true hf
  have hn : nan32 v = false := by rw [nan32_iff]; exact decide_eq_false (by omega)
  rcases Nat.lt_or_ge v 2147483648 with h | h
  · omega
  · exfalso
    have h2 := hs.2
    by_cases h0 : v = 2147483648
    · subst h0; exact absurd h2 (by decide)
    · rw [ord0_lt hlt hn (by omega)] at h2
      cases h2
theorem neg_back {r : Nat} (h : r ≤ 2139095040) : Op.negFloat .f32 (2147483648 + r) = r := by
  have h1 := neg32 (x := 2147483648 + r) (by omega)
  have h2 : Op.negFloat .f32 (Op.negFloat .f32 (2147483648 + r)) = 2147483648 + r := by unfold Op.negFloat; rw [Nat.xor_assoc, Nat.xor_self, Nat.xor_zero]
  have h3 : Op.negFloat .f32 (2147483648 + r) % 2147483648 = r := by rw [h1.2]; omega
  have h4 : ¬ 2147483648 ≤ Op.negFloat .f32 (2147483648 + r) := fun h5 => by
    have h6 : Op.negFloat .f32 (2147483648 + r) = 2147483648 + r := by omega
    rw [h6] at h2
    have h7 : (2147483648 + r) ^^^ 2147483648 = 2147483648 + r := h6
    have h8 : (2147483648 + r) ^^^ ((2147483648 + r) ^^^ 2147483648) = 2147483648 := by rw [← Nat.xor_assoc, Nat.xor_self, Nat.zero_xor]
    rw [h7, Nat.xor_self] at h8
    cases h8
  omega
def wallO (x y : Nat) : Ordering := (FloatKind.f32.format.order x y).getD .eq
def wallB (x y : Nat) : Bool := sizeB x && (sizeB y && (wallO x y != .eq))
def wallC (x y : Nat) : Option Nat := bif wallB x y then fop .quo .f32 (fop .mul .f32 (some x) (some y)) (if wallO x y = .lt then fop .sub .f32 (some y) (some x) else fop .sub .f32 (some x) (some y)) else some 0
theorem wall_ok {x y : Nat} {o : Ordering} (hx : sizeB x = true) (hy : sizeB y = true) (ho : FloatKind.f32.format.order x y = some o) : wallB x y = (o != .eq) ∧ wallC x y = bif (o != .eq) then fop .quo .f32 (fop .mul .f32 (some x) (some y)) (if o = .lt then fop .sub .f32 (some y) (some x) else fop .sub .f32 (some x) (some y)) else some 0 := by
  have h1 : wallO x y = o := by unfold wallO; rw [ho]; rfl
  have h2 : wallB x y = (o != .eq) := by unfold wallB; rw [hx, hy, h1]; rfl
  exact ⟨h2, by unfold wallC; rw [h2, h1]⟩
theorem wall_no {x y : Nat} (h : (sizeB x && sizeB y) = false) : wallB x y = false ∧ wallC x y = some 0 := by
  have h2 : wallB x y = false := by
    unfold wallB
    cases h3 : sizeB x <;> cases h4 : sizeB y <;> rw [h3, h4] at h <;> first | rfl | cases h
  exact ⟨h2, by unfold wallC; rw [h2]; rfl⟩
theorem fv_some {x : Nat} (h : x ≤ 2139095040) : FV .f32 x (some x) := by
  have hn : nan32 x = false := by rw [nan32_iff]; exact decide_eq_false (by omega)
  exact ⟨by show x < 4294967296; omega, cls_num hn⟩
theorem run_max_lt {P : Program} (x y : Nat) (h : FloatKind.f32.format.order x y = some .lt) : ∀ ats ty w, (Builtin.max_ ats ty #[.float .f32 x, .float .f32 y]).run P w = .ok (.float .f32 y) w := fun ats ty w => by simp [Builtin.max_, Builtin.max2, h]
theorem run_min_lt {P : Program} (x y : Nat) (h : FloatKind.f32.format.order x y = some .lt) : ∀ ats ty w, (Builtin.min_ ats ty #[.float .f32 x, .float .f32 y]).run P w = .ok (.float .f32 x) w := fun ats ty w => by simp [Builtin.min_, Builtin.min2, h]
theorem run_max_gt {P : Program} (x y : Nat) (h : FloatKind.f32.format.order x y = some .gt) : ∀ ats ty w, (Builtin.max_ ats ty #[.float .f32 x, .float .f32 y]).run P w = .ok (.float .f32 x) w := fun ats ty w => by simp [Builtin.max_, Builtin.max2, h]
theorem run_min_gt {P : Program} (x y : Nat) (h : FloatKind.f32.format.order x y = some .gt) : ∀ ats ty w, (Builtin.min_ ats ty #[.float .f32 x, .float .f32 y]).run P w = .ok (.float .f32 y) w := fun ats ty w => by simp [Builtin.min_, Builtin.min2, h]
theorem mx_lt {x y : Nat} (h : FloatKind.f32.format.order x y = some .lt) (w : World) : mxR .f32 x y w = y ∧ mxN .f32 x y = 0 := by unfold mxR mxN; rw [h]; exact ⟨rfl, rfl⟩
theorem mx_gt {x y : Nat} (h : FloatKind.f32.format.order x y = some .gt) (w : World) : mxR .f32 x y w = x ∧ mxN .f32 x y = 0 := by unfold mxR mxN; rw [h]; exact ⟨rfl, rfl⟩

theorem impl_WallRadius (x y : Nat) (w : World) (hx : x < 4294967296) (hy : y < 4294967296) :
    Calls Try.prog 23 #[.float .f32 x, .float .f32 y] w fun e w' => ∃ r, e = .returned (.tuple #[.float .f32 r, .bool (wallB x y)]) ∧ FV .f32 r (wallC x y) ∧ ∃ n, w' = w.drewN n := by
  have u := Try.underlying22
  have HJ := Lib.hid (fun w => impl_isMeasure x w hx)
  have HK := Lib.hid (fun w => impl_isMeasure y w hy)
  cases hf : sizeB x
  · obtain ⟨e1, e2⟩ := wall_no (x := x) (y := y) (by rw [hf]; rfl)
    rw [e1, e2]
    rw [hf] at HJ
    clear hf e1 e2
    go_enter Try.func23, Try.ntmps23
    go_wp2_with (go_at_call 49; refine (HJ.out _).mono ?_; rintro e w1 ⟨rfl, n, hw⟩; rw [hw]; clear hw w1)
    go_ret2
    exact ⟨_, rfl, Fk.FV.zero, _, rfl⟩
  · cases hg : sizeB y
    · obtain ⟨e1, e2⟩ := wall_no (x := x) (y := y) (by rw [hf, hg]; rfl)
      rw [e1, e2]
      rw [hf] at HJ
      rw [hg] at HK
      clear hf hg e1 e2
      go_enter Try.func23, Try.ntmps23
      go_wp2_with fail
      refine (HJ.out _).mono ?_
      rintro e w1 ⟨rfl, n, hw⟩
      rw [hw]; clear hw w1
      go_wp2_with (go_at_call 49; refine (HK.out _).mono ?_; rintro e w2 ⟨rfl, n2, hw⟩; rw [hw]; clear hw w2)
      go_ret2
      exact ⟨_, rfl, Fk.FV.zero, _, rfl⟩
    · have fx := fv_some (Nat.le_of_lt (size_word hx hf))
      have fy := fv_some (Nat.le_of_lt (size_word hy hg))
      rcases wall_sub (size_word hx hf) (size_word hy hg) with ⟨ho, _⟩ | ho | ⟨ho, _⟩
      · obtain ⟨e1, e2⟩ := wall_ok hf hg ho
        rw [e1, e2]
        rw [hf] at HJ
        rw [hg] at HK
        have he : (FloatKind.f32.format.order x y == some .eq) = false := by rw [ho]; rfl
        have hmn := run_min_lt (P := Try.prog) x y ho
        have hmx := fun w => mx_lt ho w
        have HMX := Lib.hid hmx
        have FP := Lib.hid (fun w => impl_product32 x y w (some x) (some y) fx fy)
        have FX := Lib.hid fx
        have FY := Lib.hid fy
        clear hf hg e1 e2 hmx fx fy ho
        go_enter Try.func23, Try.ntmps23
        go_wp2_with fail
        refine (HJ.out _).mono ?_
        rintro e w1 ⟨rfl, n, hw⟩
        rw [hw]; clear hw w1
        go_wp2_with fail
        refine (HK.out _).mono ?_
        rintro e w2 ⟨rfl, n2, hw⟩
        rw [hw]; clear hw w2
        go_wp2_with (go_at_call 50; refine (FP.out _).mono ?_; rintro en w3 ⟨s, rfl, hs, n3, hw⟩; rw [hw]; clear hw w3)
        go_ret2
        exact ⟨_, rfl, FV_fR hs (FV_fR (by rw [(HMX.out _).1]; exact FY.out) FX.out), _, rfl⟩
      · obtain ⟨e1, e2⟩ := wall_ok hf hg ho
        rw [e1, e2]
        rw [hf] at HJ
        rw [hg] at HK
        have he : (FloatKind.f32.format.order x y == some .eq) = true := by rw [ho]; rfl
        clear hf hg e1 e2 fx fy ho
        go_enter Try.func23, Try.ntmps23
        go_wp2_with fail
        refine (HJ.out _).mono ?_
        rintro e w1 ⟨rfl, n, hw⟩
        rw [hw]; clear hw w1
        go_wp2_with (go_at_call 49; refine (HK.out _).mono ?_; rintro e w2 ⟨rfl, n2, hw⟩; rw [hw]; clear hw w2)
        go_ret2
        exact ⟨_, rfl, Fk.FV.zero, _, rfl⟩
      · obtain ⟨e1, e2⟩ := wall_ok hf hg ho
        rw [e1, e2]
        rw [hf] at HJ
        rw [hg] at HK
        have he : (FloatKind.f32.format.order x y == some .eq) = false := by rw [ho]; rfl
        have hmn := run_min_gt (P := Try.prog) x y ho
        have hmx := fun w => mx_gt ho w
        have HMX := Lib.hid hmx
        have FP := Lib.hid (fun w => impl_product32 x y w (some x) (some y) fx fy)
        have FX := Lib.hid fx
        have FY := Lib.hid fy
        clear hf hg e1 e2 hmx fx fy ho
        go_enter Try.func23, Try.ntmps23
        go_wp2_with fail
        refine (HJ.out _).mono ?_
        rintro e w1 ⟨rfl, n, hw⟩
        rw [hw]; clear hw w1
        go_wp2_with fail
        refine (HK.out _).mono ?_
        rintro e w2 ⟨rfl, n2, hw⟩
        rw [hw]; clear hw w2
        go_wp2_with (go_at_call 50; refine (FP.out _).mono ?_; rintro en w3 ⟨s, rfl, hs, n3, hw⟩; rw [hw]; clear hw w3)
        go_ret2
        exact ⟨_, rfl, FV_fR hs (FV_fR (by rw [(HMX.out _).1]; exact FX.out) FY.out), _, rfl⟩
theorem spec_WallRadius (x y : Nat) (w : World) (hx : x < 4294967296) (hy : y < 4294967296) :
    Calls Try.prog 22 #[.float .f32 x, .float .f32 y] w fun e w' => ∃ r, e = .returned (.tuple #[.float .f32 r, .bool (wallB x y)]) ∧ FV .f32 r (wallC x y) ∧ ∃ n, w' = w.drewN n := by
  have u := Try.underlying22
  have HJ := Lib.hid (fun w => l02Size x w hx)
  have HK := Lib.hid (fun w => l02Size y w hy)
  cases hf : sizeB x
  · obtain ⟨e1, e2⟩ := wall_no (x := x) (y := y) (by rw [hf]; rfl)
    rw [e1, e2]
    rw [hf] at HJ
    clear hf e1 e2
    go_enter Try.func22, Try.ntmps22
    go_wp2_with (go_at_call 47; refine (HJ.out _).mono ?_; rintro e w1 ⟨rfl, n, hw⟩; rw [hw]; clear hw w1)
    go_ret2
    exact ⟨_, rfl, Fk.FV.zero, _, rfl⟩
  · cases hg : sizeB y
    · obtain ⟨e1, e2⟩ := wall_no (x := x) (y := y) (by rw [hf, hg]; rfl)
      rw [e1, e2]
      rw [hf] at HJ
      rw [hg] at HK
      clear hf hg e1 e2
      go_enter Try.func22, Try.ntmps22
      go_wp2_with fail
      refine (HJ.out _).mono ?_
      rintro e w1 ⟨rfl, n, hw⟩
      rw [hw]; clear hw w1
      go_wp2_with (go_at_call 47; refine (HK.out _).mono ?_; rintro e w2 ⟨rfl, n2, hw⟩; rw [hw]; clear hw w2)
      go_ret2
      exact ⟨_, rfl, Fk.FV.zero, _, rfl⟩
    · have fx := fv_some (Nat.le_of_lt (size_word hx hf))
      have fy := fv_some (Nat.le_of_lt (size_word hy hg))
      rcases wall_sub (size_word hx hf) (size_word hy hg) with ⟨ho, r, r1, r2, d1, d2⟩ | ho | ⟨ho, r, r1, r2, d1⟩
      · obtain ⟨e1, e2⟩ := wall_ok hf hg ho
        rw [e1, e2]
        rw [hf] at HJ
        rw [hg] at HK
        have he : (FloatKind.f32.format.order x y == some .eq) = false := by rw [ho]; rfl
        have hsub : ∀ w, fR .sub .f32 x y w = 2147483648 + r := fun w => by
          have := FV_fR (op := .sub) (w := w) fx fy
          rw [d1] at this
          exact this.num
        have hlt : (FloatKind.f32.format.order (2147483648 + r) 0 == some .lt) = true := by
          rw [ord0_lt (by omega) (by rw [nan32_iff]; exact decide_eq_false (by omega)) (by omega)]; rfl
        have hng := neg_back r2
        have FR : Hid (FV .f32 r (fop .sub .f32 (some y) (some x))) := Lib.hid (by rw [d2]; exact fv_some r2)
        have FX := Lib.hid fx
        have FY := Lib.hid fy
        clear hf hg e1 e2 fx fy ho d1 d2 r1 r2
        go_enter Try.func22, Try.ntmps22
        go_wp2_with fail
        refine (HJ.out _).mono ?_
        rintro e w1 ⟨rfl, n, hw⟩
        rw [hw]; clear hw w1
        go_wp2_with fail
        refine (HK.out _).mono ?_
        rintro e w2 ⟨rfl, n2, hw⟩
        rw [hw]; clear hw w2
        go_wp2
        go_ret2
        exact ⟨_, rfl, FV_fR (FV_fR FX.out FY.out) FR.out, _, rfl⟩
      · obtain ⟨e1, e2⟩ := wall_ok hf hg ho
        rw [e1, e2]
        rw [hf] at HJ
        rw [hg] at HK
        have he : (FloatKind.f32.format.order x y == some .eq) = true := by rw [ho]; rfl
        clear hf hg e1 e2 fx fy ho
        go_enter Try.func22, Try.ntmps22
        go_wp2_with fail
        refine (HJ.out _).mono ?_
        rintro e w1 ⟨rfl, n, hw⟩
        rw [hw]; clear hw w1
        go_wp2_with (go_at_call 47; refine (HK.out _).mono ?_; rintro e w2 ⟨rfl, n2, hw⟩; rw [hw]; clear hw w2)
        go_ret2
        exact ⟨_, rfl, Fk.FV.zero, _, rfl⟩
      · obtain ⟨e1, e2⟩ := wall_ok hf hg ho
        rw [e1, e2]
        rw [hf] at HJ
        rw [hg] at HK
        have he : (FloatKind.f32.format.order x y == some .eq) = false := by rw [ho]; rfl
        have hsub : ∀ w, fR .sub .f32 x y w = r := fun w => by
          have := FV_fR (op := .sub) (w := w) fx fy
          rw [d1] at this
          exact this.num
        have hlt : (FloatKind.f32.format.order r 0 == some .lt) = false := by
          rw [ord0_gt (by omega) (by rw [nan32_iff]; exact decide_eq_false (by omega)) ⟨r1, by omega⟩]; rfl
        have FR : Hid (FV .f32 r (fop .sub .f32 (some x) (some y))) := Lib.hid (by rw [d1]; exact fv_some r2)
        have FX := Lib.hid fx
        have FY := Lib.hid fy
        clear hf hg e1 e2 fx fy ho d1 r1 r2
        go_enter Try.func22, Try.ntmps22
        go_wp2_with fail
        refine (HJ.out _).mono ?_
        rintro e w1 ⟨rfl, n, hw⟩
        rw [hw]; clear hw w1
        go_wp2_with fail
        refine (HK.out _).mono ?_
        rintro e w2 ⟨rfl, n2, hw⟩
        rw [hw]; clear hw w2
        go_wp2
        go_ret2
        exact ⟨_, rfl, FV_fR (FV_fR FX.out FY.out) FR.out, _, rfl⟩
theorem FnExactWallRadius_law (x y : Nat) (w : World) (hx : x < 2 ^ FloatKind.f32.format.width) (hy : y < 2 ^ FloatKind.f32.format.width) :
    Calls Try.prog 6 #[.float .f32 x, .float .f32 y] w fun e w' => e = .returned (.bool true) ∧ Below w.heap.size w w' := by
  have u := Try.underlying22
  have u' := Try.underlying26
  go_enter Try.func6, Try.ntmps6
  go_wp2_with (first
    | (go_at_call 22; refine (spec_WallRadius _ _ _ hx hy).mono ?_; rintro e w1 ⟨r, rfl, hr, n, hw⟩; rw [hw]; clear hw w1)
    | (go_at_call 23; refine (impl_WallRadius _ _ _ hx hy).mono ?_; rintro e w1 ⟨s, rfl, hs, n', hw⟩; rw [hw]; clear hw w1)
    | (go_at_call 17; refine (laws_sameFloat _ _ _ _ (FV_wR hs) (FV_wR hr)).mono ?_; rintro en w' ⟨rfl, n1, rfl⟩))
  go_ret
  exact ⟨rfl, below_drewN (Below.refl _ _) _⟩
end Go.Proofs.Ytcgnmnbjgamedaa

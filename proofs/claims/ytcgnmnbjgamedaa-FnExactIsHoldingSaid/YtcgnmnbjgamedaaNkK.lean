
/-
Necks of films: what the model returns, and the law. Conditions: none beyond that the words fit.
-/
import Derived.Test.YtcgnmnbjgamedaaNkI
namespace Go.Proofs.Ytcgnmnbjgamedaa
open Go Fk Go.RowKit
set_option linter.unusedVariables false
set_option maxRecDepth 8000

theorem l08Cosh (x : Nat) (w : World) (hx : x < 4294967296) (h1 : QLE .f32 x 1 6) (h2 : QLE .f32 (Op.negFloat .f32 x) 1 6) :
    Calls Try.prog 128 #[.float .f32 x] w fun e w' => ∃ r, e = .returned (.float .f32 r) ∧ FV .f32 r (coshN x) ∧ ∃ n, w' = w.drewN n := by
  have u := Try.underlying22
  have J1 := Lib.hid (fun w => l01Exp x w hx h1)
  have J2 := Lib.hid (fun w => l01Exp (Op.negFloat .f32 x) w (neg32 hx).1 h2)
  clear h1 h2
  go_enter Try.func128, Try.ntmps128
  go_wp2_with fail
  refine (J1.out _).mono ?_
  rintro e w1 ⟨r1, rfl, f1, n1, hw⟩
  rw [hw]; clear hw w1
  go_wp2_with fail
  refine (J2.out _).mono ?_
  rintro e w2 ⟨r2, rfl, f2, n2, hw⟩
  rw [hw]; clear hw w2
  go_wp2
  go_ret
  exact ⟨_, rfl, FV_fR fv_halfN (FV_fR f1 f2), _, rfl⟩
theorem l08Width (c h x : Nat) (w : World) (fc : FV .f32 c (some c)) (fh : FV .f32 h (some h)) (hq : fop .quo .f32 (some h) (some c) = some x) (hx : x < 4294967296) (h1 : QLE .f32 x 1 6) (h2 : QLE .f32 (Op.negFloat .f32 x) 1 6) :
    Calls Try.prog 93 #[.float .f32 c, .float .f32 h] w fun e w' => ∃ r, e = .returned (.float .f32 r) ∧ FV .f32 r (widthC c h) ∧ ∃ n, w' = w.drewN n := by
  have u := Try.underlying22
  have hr : ∀ w, fR .quo .f32 h c w = x := fun w => by
    have := FV_fR (op := .quo) (w := w) fh fc
    rw [hq] at this
    exact this.num
  have HW : Hid (widthC c h = fop .mul .f32 (some c) (coshN x)) := Lib.hid (by unfold widthC; rw [hq]; rfl)
  have JC := Lib.hid (fun w => l08Cosh x w hx h1 h2)
  have FC := Lib.hid fc
  clear h1 h2 fc hq fh
  go_enter Try.func93, Try.ntmps93
  go_wp2_with fail
  refine (JC.out _).mono ?_
  rintro e w2 ⟨r2, rfl, f2, n2, hw⟩
  rw [hw]; clear hw w2
  go_wp2
  go_ret
  exact ⟨_, rfl, by rw [HW.out]; exact FV_fR FC.out f2, _, rfl⟩
/-! A neck of nothing -/
theorem l01ExpWide_nan (X : Nat) (w : World) (h : FV .f64 X none) :
    Calls Try.prog 116 #[.float .f64 X] w fun e w' => e = .returned (.float .f64 X) ∧ ∃ n, w' = w.drewN n := by
  have u := Try.underlying26
  have ho : (FloatKind.f64.format.order X X != some .eq) = true := by
    have : FloatKind.f64.format.order X X = none := order_nan (.inl h.nan)
    rw [this]; rfl
  go_enter Try.func116, Try.ntmps116
  go_wp2
  go_ret
  exact ⟨rfl, 0, rfl⟩
theorem ovf_nanQ {g : Nat} (h : FV .f64 g none) : ovf g = false := by
  have hn : (FloatKind.f64.decode g).isNaN = true := h.nan
  unfold ovf
  generalize FloatKind.f64.decode g = d at *
  cases d with
  | number s m p => cases hn
  | infinity s => rfl
  | nan s t => rfl
theorem l01Exp_nan (x : Nat) (w : World) (h : FV .f32 x none) :
    Calls Try.prog 81 #[.float .f32 x] w fun e w' => ∃ r, e = .returned (.float .f32 r) ∧ FV .f32 r none ∧ ∃ n, w' = w.drewN n := by
  have u := Try.underlying26
  have u' := Try.underlying22
  have HX := Lib.hid (fun w => (FV_wR (w := w) h : FV .f64 (wR x w) none))
  clear h
  go_enter Try.func81, Try.ntmps81
  go_wp2_with fail
  refine (l01ExpWide_nan _ _ (HX.out _)).mono ?_
  rintro e w' ⟨rfl, n, rfl⟩
  go_wp2_with fail
  refine (spec_Narrow _ _).mono ?_
  rintro e w' ⟨rfl, n, rfl⟩
  go_wp2
  go_ret
  exact ⟨_, rfl, FV_nR (HX.out _) (ovf_nanQ (HX.out _)), _, rfl⟩
theorem neg_nan {x : Nat} (h : FV .f32 x none) : FV .f32 (Op.negFloat .f32 x) none := by
  obtain ⟨h1, h2⟩ := neg32 h.1
  refine ⟨h1, ?_⟩
  have hn : nan32 x = true := h.nan
  rw [nan32_iff] at hn
  have h3 := of_decide_eq_true hn
  have h4 : nan32 (Op.negFloat .f32 x) = true := by rw [nan32_iff]; exact decide_eq_true (by omega)
  exact cls_nan h4
theorem l08Width_zero (w : World) :
    Calls Try.prog 93 #[.float .f32 0, .float .f32 0] w fun e w' => ∃ r, e = .returned (.float .f32 r) ∧ FV .f32 r none ∧ ∃ n, w' = w.drewN n := by
  have u := Try.underlying22
  have f0 : FV .f32 0 (some 0) := ⟨by decide, by decide⟩
  have hz : fop .quo .f32 (some 0) (some 0) = none := by decide
  have HR := Lib.hid (fun w => (by have := FV_fR (op := .quo) (w := w) f0 f0; rw [hz] at this; exact this : FV .f32 (fR .quo .f32 0 0 w) none))
  have HC : Hid (∀ x w, FV .f32 x none → Calls Try.prog 128 #[.float .f32 x] w fun e w' => ∃ r, e = .returned (.float .f32 r) ∧ FV .f32 r none ∧ ∃ n, w' = w.drewN n) := Lib.hid (fun x w h => by
    have J1 := Lib.hid (fun w => l01Exp_nan x w h)
    have J2 := Lib.hid (fun w => l01Exp_nan (Op.negFloat .f32 x) w (neg_nan h))
    clear h HR hz
    go_enter Try.func128, Try.ntmps128
    go_wp2_with fail
    refine (J1.out _).mono ?_
    rintro e w1 ⟨r1, rfl, f1, n1, hw⟩
    rw [hw]; clear hw w1
    go_wp2_with fail
    refine (J2.out _).mono ?_
    rintro e w2 ⟨r2, rfl, f2, n2, hw⟩
    rw [hw]; clear hw w2
    go_wp2
    go_ret
    exact ⟨_, rfl, (FV_fR fv_halfN (FV_fR (op := .add) f1 f2) : FV .f32 _ none), _, rfl⟩)
  clear hz
  go_enter Try.func93, Try.ntmps93
  go_wp2_with fail
  refine (HC.out _ _ (HR.out _)).mono ?_
  rintro e w2 ⟨r2, rfl, f2, n2, hw⟩
  rw [hw]; clear hw w2
  go_wp2
  go_ret
  exact ⟨_, rfl, (FV_fR f0 f2 : FV .f32 _ none), _, rfl⟩
end Go.Proofs.Ytcgnmnbjgamedaa
namespace Go.Proofs.Ytcgnmnbjgamedaa
open Go Fk Go.RowKit
set_option linter.unusedVariables false
set_option maxRecDepth 8000

theorem l08Neck (r g : Nat) (w : World) (hr : r < 4294967296) (hg : g < 4294967296) (hs : sizeB r = true) (ht : sizeB g = true) :
    Calls Try.prog 85 #[.float .f32 r, .float .f32 g] w fun e w' => e = .returned (.tuple #[.float .f32 (neckW r g), .bool (neckOk r g)]) ∧ ∃ n, w' = w.drewN n := by
  have u := Try.underlying22
  obtain ⟨E, eh, el, hh, _, hl⟩ := neck_gap hg ht
  have hr1 := (size_lt hr hs).1
  have hg1 := (size_lt hg ht).1
  have HO : Hid (neckOk r g = (lN g != 0 && fitN (hN g) r (lN g))) := Lib.hid (by unfold neckOk; rw [hs, ht]; rfl)
  have HY := Lib.hid (@neck_yes r g)
  have HNo := Lib.hid (@neck_no r g)
  have hm : ∀ w, fR .mul .f32 1056964608 g w = hN g := fun w => by
    have := FV_fR (op := .mul) (w := w) fv_halfN (fv_meas hg1)
    rw [eh] at this
    exact this.num
  have hq : ∀ w, fR .quo .f32 (hN g) 1067028242 w = lN g := fun w => by
    have := FV_fR (op := .quo) (w := w) hh.fv fv_KN
    rw [el] at this
    exact this.num
  have HH := Lib.hid hh
  have HL := Lib.hid hl
  have HR := Lib.hid hr1
  clear hs ht eh el hh hl hr1 hg1
  generalize hN g = h at *
  generalize lN g = l at *
  go_enter Try.func85, Try.ntmps85
  go_wp2_with fail
  clear hm hq
  rcases HL.out with ⟨z1, z2⟩ | ⟨hw, h0, hfit⟩
  · subst z1 z2
    have ho : neckOk r g = false := by rw [HO.out]; rfl
    have HZ := Lib.hid (And.intro ho (HNo.out ho))
    clear ho HL
    refine (l08Width_zero _).mono ?_
    rintro e w1 ⟨s, rfl, hs, n1, hw1⟩
    rw [hw1]; clear hw1 w1
    have hle := le_of (r := r) hs
    have hle2 : leW s r = false := hle
    unfold leW at hle2
    simp only [Bool.or_eq_false_iff] at hle2
    obtain ⟨c1, c2⟩ := hle2
    clear hle hs
    go_wp2
    go_ret2
    exact ⟨by (rw [HZ.out.1, HZ.out.2]) <;> rfl, _, rfl⟩
  · obtain ⟨x, k1, k2, k3, k4⟩ := arg_ok HH.out hw.2
    have JW := Lib.hid (fun w => l08Width l h x w hw.fv HH.out.fv k1 k2 k3 k4)
    have HW := Lib.hid hw
    have HF := Lib.hid hfit
    have HO2 : Hid (neckOk r g = fitN h r l) := Lib.hid (by rw [HO.out, show (l != 0) = true from by simpa using h0]; rfl)
    clear hw h0 hfit k1 k2 k3 k4 HL HO
    refine (JW.out _).mono ?_
    rintro e w1 ⟨s, rfl, hs, n1, hw1⟩
    rw [hw1]; clear hw1 w1
    have hle : leW s r = fitN h r l := le_of (r := r) hs
    clear hs JW
    unfold leW at hle
    cases hb1 : (FloatKind.f32.format.order s r == some .lt) <;> cases hb2 : (FloatKind.f32.format.order s r == some .eq) <;> rw [hb1, hb2] at hle
    · have ho : neckOk r g = false := HO2.out.trans hle.symm
      have HZ := Lib.hid (And.intro ho (HNo.out ho))
      clear ho hle
      go_wp2
      go_ret2
      exact ⟨by (rw [HZ.out.1, HZ.out.2]) <;> rfl, _, rfl⟩
    all_goals
      have ho : neckOk r g = true := HO2.out.trans hle.symm
      obtain ⟨hgt, hwr⟩ := HF.out r HR.out hle.symm
      have HZ := Lib.hid (And.intro ho (HY.out ho))
      have BW := Lib.hid (bis_wd (h := h) (r := r) (s := (l, r)) HH.out.2.2.2 HW.out hwr)
      clear ho hle hwr
      go_wp2
      clear hb1 hb2 hgt
      go_loopw [7, 8, 9] (fun a b i w' => ∃ k : Nat, k ≤ 30 ∧ i = .int .i64 k ∧ a = .float .f32 (bisN h r k (l, r)).1 ∧ b = .float .f32 (bisN h r k (l, r)).2 ∧ ∃ n, w' = w.drewN n) (fun _ _ i _ => 30 - (intOf i).toNat)
      case atStart => exact ⟨0, Nat.zero_le _, rfl, rfl, rfl, _, rfl⟩
      case round =>
        obtain ⟨k, hk, rfl, rfl, rfl, m, rfl⟩ := hrel
        by_cases hlt : k < 30
        · have hk0 : (0 : Int) ≤ (k : Int) := by omega
          have hk1 : (k : Int) < 30 := by omega
          obtain ⟨w1, w2⟩ := BW.out k
          have HST : Hid (bisN h r (k + 1) (l, r) = stepN h r (bisN h r k (l, r))) := Lib.hid rfl
          generalize bisN h r k (l, r) = S at *
          obtain ⟨p, q⟩ := S
          obtain ⟨em, wm⟩ := mid_wd w1 w2 HH.out.2.2.2
          have hm : ∀ w w', fR .mul .f32 1056964608 (fR .add .f32 p q w) w' = midN p q := fun w w' => by
            have := FV_fR (op := .mul) (w := w') fv_halfN (FV_fR (op := .add) (w := w) w1.fv w2.fv)
            rw [em] at this
            exact this.num
          obtain ⟨x, k1, k2, k3, k4⟩ := arg_ok HH.out wm.2
          have JW := Lib.hid (fun w => l08Width (midN p q) h x w wm.fv HH.out.fv k1 k2 k3 k4)
          have HS2 : Hid (stepN h r (p, q) = bif fitN h r (midN p q) then (midN p q, q) else (p, midN p q)) := Lib.hid rfl
          clear w1 w2 em wm k1 k2 k3 k4
          dsimp only at *
          go_wp2_with fail
          clear hm
          refine (JW.out _).mono ?_
          rintro e w4 ⟨s4, rfl, hs4, n4, hw4⟩
          rw [hw4]; clear hw4 w4
          have hle : leW s4 r = fitN h r (midN p q) := le_of (r := r) hs4
          clear hs4 JW
          unfold leW at hle
          cases hb1 : (FloatKind.f32.format.order s4 r == some .lt) <;> cases hb2 : (FloatKind.f32.format.order s4 r == some .eq) <;> rw [hb1, hb2] at hle
          all_goals
            have HLE := Lib.hid hle
            clear hle
            go_wp2
            go_roundw
            case rel => exact ⟨k + 1, by omega, by go_num, by rw [HST.out, HS2.out, ← HLE.out]; rfl, by rw [HST.out, HS2.out, ← HLE.out]; rfl, _, rfl⟩
            case measure => simp [intOf]; omega
        · obtain rfl : k = 30 := by omega
          go_wp2
          go_ret2
          exact ⟨by (rw [HZ.out.1, HZ.out.2]) <;> rfl, _, rfl⟩
theorem spec_NeckOf (r g : Nat) (w : World) (hr : r < 4294967296) (hg : g < 4294967296) :
    Calls Try.prog 41 #[.float .f32 r, .float .f32 g] w fun e w' => e = .returned (.tuple #[.float .f32 (neckW r g), .bool (neckOk r g)]) ∧ ∃ n, w' = w.drewN n := by
  have u := Try.underlying22
  have MR := Lib.hid (fun w => l02Size r w hr)
  have MG := Lib.hid (fun w => l02Size g w hg)
  cases hs : sizeB r
  · have ho : neckOk r g = false := by unfold neckOk; rw [hs]; rfl
    rw [ho, neck_no ho]
    rw [hs] at MR
    clear hs ho
    go_enter Try.func41, Try.ntmps41
    go_wp2_with (go_at_call 47; refine (MR.out _).mono ?_; rintro e w1 ⟨rfl, n, hw⟩; rw [hw]; clear hw w1)
    go_ret2
    exact ⟨rfl, _, rfl⟩
  · cases ht : sizeB g
    · have ho : neckOk r g = false := by unfold neckOk; rw [hs, ht]; rfl
      rw [ho, neck_no ho]
      rw [hs] at MR
      rw [ht] at MG
      clear hs ht ho
      go_enter Try.func41, Try.ntmps41
      go_wp2_with fail
      refine (MR.out _).mono ?_
      rintro e w1 ⟨rfl, n1, hw⟩
      rw [hw]; clear hw w1
      go_wp2_with (go_at_call 47; refine (MG.out _).mono ?_; rintro e w1 ⟨rfl, n, hw⟩; rw [hw]; clear hw w1)
      go_ret2
      exact ⟨rfl, _, rfl⟩
    · have JN := Lib.hid (fun w => l08Neck r g w hr hg hs ht)
      rw [hs] at MR
      rw [ht] at MG
      clear hs ht
      generalize neckW r g = a at *
      generalize neckOk r g = b at *
      go_enter Try.func41, Try.ntmps41
      go_wp2_with fail
      refine (MR.out _).mono ?_
      rintro e w1 ⟨rfl, n1, hw⟩
      rw [hw]; clear hw w1
      go_wp2_with fail
      refine (MG.out _).mono ?_
      rintro e w1 ⟨rfl, n2, hw⟩
      rw [hw]; clear hw w1
      go_wp2_with (go_at_call 85; refine (JN.out _).mono ?_; rintro e w1 ⟨rfl, n, hw⟩; rw [hw]; clear hw w1)
      go_ret2
      exact ⟨rfl, _, rfl⟩
end Go.Proofs.Ytcgnmnbjgamedaa
namespace Go.Proofs.Ytcgnmnbjgamedaa
open Go Fk Go.RowKit
set_option linter.unusedVariables false
set_option maxRecDepth 8000

theorem neckW_lt {r g : Nat} (hr : r < 4294967296) (hg : g < 4294967296) : neckW r g < 4294967296 := by
  cases ho : neckOk r g
  · rw [neck_no ho]; decide
  · rw [neck_yes ho]
    unfold neckOk at ho
    simp only [Bool.and_eq_true] at ho
    obtain ⟨hs, ht, h0, hf⟩ := ho
    obtain ⟨E, _, _, hh, _, hl⟩ := neck_gap hg ht
    rcases hl with ⟨_, z⟩ | ⟨hw, _, hfit⟩
    · rw [z] at h0; cases h0
    · exact (bis_wd (h := hN g) (r := r) (s := (lN g, r)) hh.2.2.2 hw (hfit r (size_lt hr hs).1 hf).2 30).1.1
theorem FnExactNeckOf_law (x y : Nat) (w : World) (hx : x < 2 ^ FloatKind.f32.format.width) (hy : y < 2 ^ FloatKind.f32.format.width) :
    Calls Try.prog 12 #[.float .f32 x, .float .f32 y] w fun e w' => e = .returned (.bool true) ∧ Below w.heap.size w w' := by
  have u := Try.underlying22
  have u' := Try.underlying26
  have fn : FV .f32 (neckW x y) (cls .f32 (neckW x y)) := FV.self (neckW_lt hx hy)
  have JS := Lib.hid (fun w => spec_NeckOf x y w hx hy)
  have JI := Lib.hid (fun w => impl_NeckOf x y w hx hy)
  have FN := Lib.hid fn
  clear fn
  generalize neckW x y = a at *
  generalize neckOk x y = b at *
  have hb1 : (b == b) = true := by cases b <;> rfl
  have hb2 : (b != b) = false := by cases b <;> rfl
  go_enter Try.func12, Try.ntmps12
  go_wp2_with fail
  refine (JS.out _).mono ?_
  rintro e w1 ⟨rfl, n, hw⟩
  rw [hw]; clear hw w1
  go_wp2_with fail
  refine (JI.out _).mono ?_
  rintro e w1 ⟨rfl, hB⟩
  have HB : Hid (Below w.heap.size w w1) := Lib.hid ((below_drewN (Below.refl _ _) _).trans (hB.mono (by first | exact Nat.le_refl _ | simp)))
  clear hB
  go_wp2_with (go_at_call 17; refine (laws_sameFloat _ _ _ _ (FV_wR FN.out) (FV_wR FN.out)).mono ?_; rintro en w' ⟨rfl, n1, hw⟩; rw [hw]; clear hw)
  go_ret
  exact ⟨rfl, below_drewN HB.out _⟩
end Go.Proofs.Ytcgnmnbjgamedaa

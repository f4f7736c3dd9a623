
/-
Necks of films: what the program returns. Conditions: none beyond that the words fit.
-/
import Derived.Test.YtcgnmnbjgamedaaNkG
import Derived.Test.YtcgnmnbjgamedaaExW
import Derived.Test.YtcgnmnbjgamedaaHoM
import Derived.Test.YtcgnmnbjgamedaaVecB
import Derived.Test.YtcgnmnbjgamedaaOv
import Derived.Test.YtcgnmnbjgamedaaScalB
namespace Go.Proofs.Ytcgnmnbjgamedaa
open Go Fk Go.RowKit
set_option linter.unusedVariables false
set_option maxRecDepth 8000

theorem fv_halfN : FV .f32 1056964608 (some 1056964608) := ⟨by decide, by decide⟩
theorem fv_KN : FV .f32 1067028242 (some 1067028242) := ⟨by decide, by decide⟩
def Wd (c : Nat) (E : Int) : Prop := c < 4294967296 ∧ QGE .f32 c 1 E
theorem Wd.fv {c : Nat} {E : Int} (h : Wd c E) : FV .f32 c (some c) := by
  refine ⟨h.1, cls_num ?_⟩
  rcases h.2 with ⟨m, p, h1, _⟩ | h1 <;> rw [h1] <;> rfl
theorem mid_wd {l u : Nat} {E : Int} (hl : Wd l E) (hu : Wd u E) (hE : -149 ≤ E) : fop .mul .f32 (some 1056964608) (fop .add .f32 (some l) (some u)) = some (midN l u) ∧ Wd (midN l u) E := by
  obtain ⟨h1, h2⟩ := mid_ok hl.2 hu.2 hE
  refine ⟨h1, ?_, h2⟩
  cases hs : fop .add .f32 (some l) (some u) with
  | none => rw [hs] at h1; cases h1
  | some s =>
    rw [hs] at h1
    exact (floatBits_ok (show floatBits .mul .f32 1056964608 s = some (midN l u) from h1)).2.2.2
theorem bis_wd {h r : Nat} {E : Int} (hE : -149 ≤ E) {s : Nat × Nat} (h1 : Wd s.1 E) (h2 : Wd s.2 E) : ∀ k, Wd (bisN h r k s).1 E ∧ Wd (bisN h r k s).2 E
  | 0 => ⟨h1, h2⟩
  | k + 1 => by
    obtain ⟨a, b⟩ := bis_wd hE h1 h2 k
    have hm := (mid_wd a b hE).2
    show Wd (stepN h r (bisN h r k s)).1 E ∧ Wd (stepN h r (bisN h r k s)).2 E
    unfold stepN
    cases fitN h r (midN (bisN h r k s).1 (bisN h r k s).2)
    · exact ⟨a, hm⟩
    · exact ⟨hm, b⟩
theorem fin_lt {c : Nat} (hc : c < 2139095040) : finB c = true := by unfold finB; exact decide_eq_true (by omega)
theorem size_yes {c : Nat} (hc : c < 2139095040) (h0 : c ≠ 0) : sizeB c = true := by
  unfold sizeB
  rw [fin_lt hc, ord0_gt (by omega) (by rw [nan32_iff]; exact decide_eq_false (by omega)) ⟨by omega, by omega⟩]
  rfl
theorem size_lt {v : Nat} (hlt : v < 4294967296) (hs : sizeB v = true) : v < 2139095040 ∧ v ≠ 0 := by
  have h0 : v ≠ 0 := by rintro rfl; exact absurd hs (by decide)
  unfold sizeB at hs
  simp only [Bool.and_eq_true] at hs
  have hf := hs.1
  unfold finB at hf
  have hf2 := of_decide_eq_true hf
  have hn : nan32 v = false := by rw [nan32_iff]; exact decide_eq_false (by omega)
  refine ⟨?_, h0⟩
  rcases Nat.lt_or_ge v 2147483648 with h | h
  · omega
  · exfalso
    have h2 := hs.2
    by_cases h0 : v = 2147483648
    · subst h0; exact absurd h2 (by decide)
    · rw [ord0_lt hlt hn (by omega)] at h2
      cases h2
/-- A word that is a number of at least 2^E, or infinity: both ways. -/
theorem wd_cases {c : Nat} {E : Int} (h : Wd c E) : (c < 2139095040 ∧ c ≠ 0) ∨ (sizeB c = false ∧ FloatKind.f32.decode c = .infinity false) := by
  obtain ⟨hlt, hq⟩ := h
  cases hs : sizeB c
  · right
    refine ⟨rfl, ?_⟩
    rcases hq with ⟨m, p, h1, h2⟩ | h1
    · exfalso
      have m0 : m ≠ 0 := by
        rintro rfl
        unfold Qr at h2
        rw [Nat.zero_mul, Nat.one_mul] at h2
        have := Nat.two_pow_pos (E - p).toNat
        omega
      have hn : nan32 c = false := by show (FloatKind.f32.decode c).isNaN = false; rw [h1]; rfl
      have hn2 := hn
      rw [nan32_iff] at hn2
      have h4 := of_decide_eq_false hn2
      have hneg : c < 2147483648 := by
        rcases Nat.lt_or_ge c 2147483648 with k | k
        · exact k
        · exfalso
          have h5 : FloatKind.f32.format.read c = .number false m p := h1
          have e5 : FloatKind.f32.format.signWeight = 2147483648 := by decide
          unfold Ieee.Format.read at h5
          dsimp only at h5
          rw [e5] at h5
          have h6 : (c / 2147483648 % 2 == 1) = true := by
            have : c / 2147483648 = 1 := by omega
            rw [this]; rfl
          rw [h6] at h5
          split at h5
          · cases h5
          · split at h5
            · cases h5
            · split at h5 <;> cases h5
      have hle : c ≤ 2139095040 := by omega
      have hne : c ≠ 2139095040 := by rintro rfl; rw [inf_dec] at h1; cases h1
      have h0 : c ≠ 0 := by
        rintro rfl
        rw [show FloatKind.f32.decode 0 = .number false 0 (-149) by decide] at h1
        cases h1
        exact m0 rfl
      rw [size_yes (by omega) h0] at hs
      cases hs
    · exact h1
  · exact .inl (size_lt hlt hs)
theorem impl_half (x : Nat) (c : Option Nat) (w : World) (hx : FV .f32 x c) :
    Calls Try.prog 88 #[.float .f32 x] w fun e w' => ∃ r, e = .returned (.float .f32 r) ∧ FV .f32 r (fop .mul .f32 (some 1056964608) c) ∧ ∃ n, w' = w.drewN n := by
  have u := Try.underlying22
  go_enter Try.func88, Try.ntmps88
  go_wp2_with (go_at_call 50; refine (impl_product32 _ _ _ _ _ fv_halfN hx).mono ?_; rintro en w3 ⟨s, rfl, hs, n3, hw⟩; rw [hw]; clear hw w3)
  go_ret
  exact ⟨_, rfl, hs, _, rfl⟩
theorem impl_CoshNumber (x : Nat) (w : World) (hx : x < 4294967296) (h1 : QLE .f32 x 1 6) (h2 : QLE .f32 (Op.negFloat .f32 x) 1 6) :
    Calls Try.prog 123 #[.float .f32 x] w fun e w' => ∃ r, e = .returned (.float .f32 r) ∧ FV .f32 r (coshN x) ∧ ∃ n, w' = w.drewN n := by
  have u := Try.underlying22
  have J1 := Lib.hid (fun w => impl_ExpNumber x w hx h1)
  have J2 := Lib.hid (fun w => impl_ExpNumber (Op.negFloat .f32 x) w (neg32 hx).1 h2)
  clear h1 h2
  go_enter Try.func123, Try.ntmps123
  go_wp2_with fail
  refine (J1.out _).mono ?_
  rintro e w1 ⟨r1, rfl, f1, n1, hw⟩
  rw [hw]; clear hw w1
  go_wp2_with fail
  refine (J2.out _).mono ?_
  rintro e w2 ⟨r2, rfl, f2, n2, hw⟩
  rw [hw]; clear hw w2
  have HS := Lib.hid (fun w => FV_fR (op := .add) (w := w) f1 f2)
  go_wp2_with (go_at_call 88; refine (impl_half _ _ _ (HS.out _)).mono ?_; rintro e w3 ⟨s, rfl, hs, n3, hw⟩; rw [hw]; clear hw w3)
  go_ret
  exact ⟨_, rfl, hs, _, rfl⟩
theorem impl_WidthAt (c h x : Nat) (w : World) (hc : c < 2139095040) (h0 : c ≠ 0) (fh : FV .f32 h (some h)) (hq : fop .quo .f32 (some h) (some c) = some x) (hx : x < 4294967296) (h1 : QLE .f32 x 1 6) (h2 : QLE .f32 (Op.negFloat .f32 x) 1 6) :
    Calls Try.prog 87 #[.float .f32 c, .float .f32 h] w fun e w' => ∃ r, e = .returned (.tuple #[.float .f32 r, .bool true]) ∧ FV .f32 r (widthC c h) ∧ ∃ n, w' = w.drewN n := by
  have u := Try.underlying22
  have hs := size_yes hc h0
  have HM := Lib.hid (fun w => impl_isMeasure c w (by omega))
  rw [hs] at HM
  have fc : FV .f32 c (some c) := ⟨by show c < 4294967296; omega, cls_num (by have : nan32 c = false := by rw [nan32_iff]; exact decide_eq_false (by omega)
                                                                              exact this)⟩
  have hr : ∀ w, fR .quo .f32 h c w = x := fun w => by
    have := FV_fR (op := .quo) (w := w) fh fc
    rw [hq] at this
    exact this.num
  have HW : Hid (widthC c h = fop .mul .f32 (some c) (coshN x)) := Lib.hid (by unfold widthC; rw [hq]; rfl)
  have JC := Lib.hid (fun w => impl_CoshNumber x w hx h1 h2)
  have FC := Lib.hid fc
  clear hs h1 h2 fc hq fh
  go_enter Try.func87, Try.ntmps87
  go_wp2_with fail
  refine (HM.out _).mono ?_
  rintro e w1 ⟨rfl, n1, hw⟩
  rw [hw]; clear hw w1
  go_wp2_with fail
  refine (JC.out _).mono ?_
  rintro e w2 ⟨r2, rfl, f2, n2, hw⟩
  rw [hw]; clear hw w2
  go_wp2_with (go_at_call 50; refine (impl_product32 _ _ _ _ _ FC.out f2).mono ?_; rintro en w3 ⟨s, rfl, hs, n3, hw⟩; rw [hw]; clear hw w3)
  go_ret2
  exact ⟨_, rfl, by rw [HW.out]; exact hs, _, rfl⟩
theorem impl_WidthAt_no (c h : Nat) (w : World) (hc : c < 4294967296) (hs : sizeB c = false) :
    Calls Try.prog 87 #[.float .f32 c, .float .f32 h] w fun e w' => e = .returned (.tuple #[.float .f32 0, .bool false]) ∧ ∃ n, w' = w.drewN n := by
  have u := Try.underlying22
  have HM := Lib.hid (fun w => impl_isMeasure c w hc)
  rw [hs] at HM
  clear hs
  go_enter Try.func87, Try.ntmps87
  go_wp2_with (go_at_call 49; refine (HM.out _).mono ?_; rintro e w1 ⟨rfl, n, hw⟩; rw [hw]; clear hw w1)
  go_ret2
  exact ⟨rfl, _, rfl⟩
end Go.Proofs.Ytcgnmnbjgamedaa

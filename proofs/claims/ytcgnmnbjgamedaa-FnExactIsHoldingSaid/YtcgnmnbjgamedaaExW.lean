
/-
The exponential function of numbers of at most 64 in size: the program and the model. Conditions: the size.
-/
import Derived.Test.YtcgnmnbjgamedaaExB
import Derived.Test.YtcgnmnbjgamedaaLogL
namespace Go.Proofs.Ytcgnmnbjgamedaa
open Go Fk Go.RowKit
set_option linter.unusedVariables false
set_option maxRecDepth 8000

theorem gt200 {x : Nat} (h : QLE .f32 x 1 6) : (FloatKind.f32.format.order x 1128792064 == some .gt) = false ∧ (FloatKind.f32.format.order x 3276275712 == some .lt) = false := by
  have d1 : FloatKind.f32.decode 1128792064 = .number false 13107200 (-16) := by decide
  have d2 : FloatKind.f32.decode 3276275712 = .number true 13107200 (-16) := by decide
  constructor
  · rw [ord_far h d1 (by decide)]; rfl
  · rw [ord_far h d2 (by decide)]; rfl
theorem gt200w {x : Nat} (h : QLE .f64 x 1 6) : (FloatKind.f64.format.order x x != some .eq) = false ∧ (FloatKind.f64.format.order x 4641240890982006784 == some .gt) = false ∧ (FloatKind.f64.format.order x 13864612927836782592 == some .lt) = false := by
  have d1 : FloatKind.f64.decode 4641240890982006784 = .number false 7036874417766400 (-45) := by decide
  have d2 : FloatKind.f64.decode 13864612927836782592 = .number true 7036874417766400 (-45) := by decide
  refine ⟨?_, ?_, ?_⟩
  · obtain ⟨s, m, p, h1, _⟩ := h
    rw [order_self (by rw [h1]; rfl)]; rfl
  · rw [ord_far h d1 (by decide)]; rfl
  · rw [ord_far h d2 (by decide)]; rfl
theorem Fk.QLE.num32 {x n : Nat} {e : Int} (h : QLE .f32 x n e) : nan32 x = false := by
  obtain ⟨s, m, p, h1, _⟩ := h
  show (FloatKind.f32.decode x).isNaN = false
  rw [h1]; rfl
theorem Fk.QLE.fv {k : FloatKind} {x n : Nat} {e : Int} (h : QLE k x n e) (hx : x < 2 ^ k.format.width) : FV k x (some x) := by
  obtain ⟨s, m, p, h1, _⟩ := h
  exact ⟨hx, cls_num (by rw [h1]; rfl)⟩
theorem q126 : Qr 1 119 1 126 := by decide
set_option maxHeartbeats 2000000 in
theorem impl_ExpNumber (x : Nat) (w : World) (hx : x < 4294967296) (hq : QLE .f32 x 1 6) :
    Calls Try.prog 83 #[.float .f32 x] w fun e w' => ∃ r, e = .returned (.float .f32 r) ∧ FV .f32 r ((expC (wid x)).map nar) ∧ ∃ n, w' = w.drewN n := by
  have u := Try.underlying26
  have u' := Try.underlying22
  have wx : ∀ w, wR x w = wid x := fun w => wR_num w hq.num32
  have lx : wid x < 18446744073709551616 := wid_lt x
  obtain ⟨g1, g2⟩ := gt200 hq
  have hw := QLE_wid hq (by decide) (by decide) (by decide)
  have HE := Lib.hid (q_expC hw)
  have fw : FV .f64 (wid x) (some (wid x)) := hw.fv lx
  clear hq hw
  generalize wid x = X at *
  unfold expC at HE ⊢
  generalize hT : fop .quo .f64 (some X) (some c256) = T at *
  go_enter Try.func83, Try.ntmps83
  go_wp2
  have ft : ∀ w, FV .f64 (fR .quo .f64 X 4643211215818981376 w) T := fun w => by rw [← hT]; exact FV_fR fw fv_256
  have HFT := Lib.hid ft
  clear ft hT
  go_loopw [4, 5] (fun q i w' => ∃ k : Nat, k ≤ 12 ∧ i = .int .i64 (12 - (k : Int)) ∧ (∃ p, q = .float .f64 p ∧ FV .f64 p (expP T k)) ∧ ∃ n, w' = w.drewN n) (fun _ i _ => (intOf i).toNat)
  case atStart => exact ⟨0, by decide, rfl, ⟨_, rfl, fv_one⟩, _, rfl⟩
  case round =>
    obtain ⟨k, hk, rfl, ⟨p, rfl, hp⟩, m, rfl⟩ := hrel
    by_cases hlt : k < 12
    · have hge : (1 : Int) ≤ 12 - (k : Int) := by omega
      go_wp2_with (go_at_call 119; refine (impl_product64 _ _ _ _ _ (HFT.out _) hp).mono ?_; rintro e w' ⟨r1, rfl, hr1, n1, rfl⟩)
      go_roundw
      case rel => exact ⟨k + 1, by omega, by rw [show (12 : Int) - ((k + 1 : Nat) : Int) = 12 - (k : Int) - 1 by omega], ⟨_, rfl, FV_fR fv_one (FV_fR hr1 (fv_int _))⟩, _, rfl⟩
      case measure => simp [intOf]; omega
    · obtain rfl : k = 12 := by omega
      rw [show (12 : Int) - ((12 : Nat) : Int) = 0 from rfl]
      go_wp2
      go_loopw [4, 25] (fun q i w' => ∃ k : Nat, k ≤ 8 ∧ i = .int .i64 k ∧ (∃ p, q = .float .f64 p ∧ FV .f64 p (expS (expP T 12) k)) ∧ ∃ n, w' = w.drewN n) (fun _ i _ => 8 - (intOf i).toNat)
      case atStart => exact ⟨0, by decide, rfl, ⟨_, rfl, hp⟩, _, rfl⟩
      case round =>
        obtain ⟨k, hk, rfl, ⟨p, rfl, hp⟩, m, rfl⟩ := hrel
        by_cases hlt : k < 8
        · have h8 : (k : Int) < 8 := by omega
          go_wp2_with (go_at_call 119; refine (impl_product64 _ _ _ _ _ hp hp).mono ?_; rintro e w' ⟨r1, rfl, hr1, n1, rfl⟩)
          go_roundw
          case rel => exact ⟨k + 1, by omega, by go_num, ⟨_, rfl, hr1⟩, _, rfl⟩
          case measure => simp [intOf]; omega
        · obtain rfl : k = 8 := by omega
          go_wp2_with (go_at_call 120; refine (impl_Narrow _ _).mono ?_; rintro e w' ⟨rfl, n4, rfl⟩)
          go_ret
          exact ⟨_, rfl, FV_nR hp (QLC_ovf hp HE.out q126), _, rfl⟩
set_option maxHeartbeats 2000000 in
theorem l01ExpWide (X : Nat) (w : World) (lx : X < 18446744073709551616) (hq : QLE .f64 X 1 6) :
    Calls Try.prog 116 #[.float .f64 X] w fun e w' => ∃ r, e = .returned (.float .f64 r) ∧ (FV .f64 r (expC X) ∧ ovf r = false) ∧ ∃ n, w' = w.drewN n := by
  have u := Try.underlying26
  obtain ⟨g0, g1, g2⟩ := gt200w hq
  have HE := Lib.hid (q_expC hq)
  have fw : FV .f64 X (some X) := hq.fv lx
  clear hq
  unfold expC at HE ⊢
  generalize hT : fop .quo .f64 (some X) (some c256) = T at *
  go_enter Try.func116, Try.ntmps116
  go_wp2
  have ft : ∀ w, FV .f64 (fR .quo .f64 X 4643211215818981376 w) T := fun w => by rw [← hT]; exact FV_fR fw fv_256
  have HFT := Lib.hid ft
  clear ft hT
  go_loopw [4, 5] (fun q i w' => ∃ k : Nat, k ≤ 12 ∧ i = .int .i64 (12 - (k : Int)) ∧ (∃ p, q = .float .f64 p ∧ FV .f64 p (expP T k)) ∧ ∃ n, w' = w.drewN n) (fun _ i _ => (intOf i).toNat)
  case atStart => exact ⟨0, by decide, rfl, ⟨_, rfl, fv_one⟩, _, rfl⟩
  case round =>
    obtain ⟨k, hk, rfl, ⟨p, rfl, hp⟩, m, rfl⟩ := hrel
    by_cases hlt : k < 12
    · have hge : (1 : Int) ≤ 12 - (k : Int) := by omega
      go_wp2
      go_roundw
      case rel => exact ⟨k + 1, by omega, by rw [show (12 : Int) - ((k + 1 : Nat) : Int) = 12 - (k : Int) - 1 by omega], ⟨_, rfl, FV_fR fv_one (FV_fR (FV_fR (HFT.out _) hp) (fv_int _))⟩, _, rfl⟩
      case measure => simp [intOf]; omega
    · obtain rfl : k = 12 := by omega
      rw [show (12 : Int) - ((12 : Nat) : Int) = 0 from rfl]
      go_wp2
      go_loopw [4, 6] (fun q i w' => ∃ k : Nat, k ≤ 8 ∧ i = .int .i64 k ∧ (∃ p, q = .float .f64 p ∧ FV .f64 p (expS (expP T 12) k)) ∧ ∃ n, w' = w.drewN n) (fun _ i _ => 8 - (intOf i).toNat)
      case atStart => exact ⟨0, by decide, rfl, ⟨_, rfl, hp⟩, _, rfl⟩
      case round =>
        obtain ⟨k, hk, rfl, ⟨p, rfl, hp⟩, m, rfl⟩ := hrel
        by_cases hlt : k < 8
        · have h8 : (k : Int) < 8 := by omega
          go_wp2
          go_roundw
          case rel => exact ⟨k + 1, by omega, by go_num, ⟨_, rfl, FV_fR hp hp⟩, _, rfl⟩
          case measure => simp [intOf]; omega
        · obtain rfl : k = 8 := by omega
          go_wp2
          go_ret
          exact ⟨_, rfl, ⟨hp, QLC_ovf hp HE.out q126⟩, _, rfl⟩
theorem l01Exp (x : Nat) (w : World) (hx : x < 4294967296) (hq : QLE .f32 x 1 6) :
    Calls Try.prog 81 #[.float .f32 x] w fun e w' => ∃ r, e = .returned (.float .f32 r) ∧ FV .f32 r ((expC (wid x)).map nar) ∧ ∃ n, w' = w.drewN n := by
  have u := Try.underlying26
  have u' := Try.underlying22
  have wx : ∀ w, wR x w = wid x := fun w => wR_num w hq.num32
  have HM := Lib.hid (fun w => l01ExpWide (wid x) w (wid_lt x) (QLE_wid hq (by decide) (by decide) (by decide)))
  clear hq
  go_enter Try.func81, Try.ntmps81
  go_wp2_with fail
  refine (HM.out _).mono ?_
  rintro e w' ⟨g, rfl, ⟨hg, ho⟩, n, rfl⟩
  go_wp2_with fail
  refine (spec_Narrow _ _).mono ?_
  rintro e w' ⟨rfl, n, rfl⟩
  go_wp2
  go_ret
  exact ⟨_, rfl, FV_nR hg ho, _, rfl⟩
end Go.Proofs.Ytcgnmnbjgamedaa


/-
Necks of films: what the program returns (its closure, the bisection, the whole). Conditions: none beyond that the words fit.
-/
import Derived.Test.YtcgnmnbjgamedaaNkH
namespace Go.Proofs.Ytcgnmnbjgamedaa
open Go Fk Go.RowKit
set_option linter.unusedVariables false
set_option maxRecDepth 8000

def FNeck (gb rb : Nat) : Value := .func (.func 86) #[] #[.pointer (some ⟨gb, 0, none⟩), .pointer (some ⟨rb, 0, none⟩)]
theorem fv_meas {c : Nat} (hc : c < 2139095040) : FV .f32 c (some c) := by
  refine ⟨by show c < 4294967296; omega, cls_num ?_⟩
  have : nan32 c = false := by rw [nan32_iff]; exact decide_eq_false (by omega)
  exact this
theorem Fk.Hgt.fv {h : Nat} {E : Int} (hh : Hgt h E) : FV .f32 h (some h) := by
  refine ⟨hh.1, cls_num ?_⟩
  obtain ⟨m, p, h1⟩ := hh.2.2.1
  rw [h1]; rfl
theorem fits_neck (c g r h gb rb : Nat) (E : Int) (w : World) (hc : Wd c E) (hh : Hgt h E) (eh : fop .mul .f32 (some 1056964608) (some g) = some h) (hg : g < 2139095040) (hr : r < 2139095040)
    (kg : w.cell? ⟨gb, 0, none⟩ = some (.float .f32 g)) (kr : w.cell? ⟨rb, 0, none⟩ = some (.float .f32 r)) :
    Calls Try.prog 86 #[.float .f32 c, .pointer (some ⟨gb, 0, none⟩), .pointer (some ⟨rb, 0, none⟩)] w fun e w' => e = .returned (.bool (fitN h r c)) ∧ ∃ n, w' = w.drewN n := by
  have u := Try.underlying22
  have JH := Lib.hid (fun w => impl_half g _ w (fv_meas hg))
  rcases wd_cases hc with ⟨h1, h2⟩ | ⟨h1, h2⟩
  · obtain ⟨x, k1, k2, k3, k4⟩ := arg_ok hh hc.2
    have JW := Lib.hid (fun w => impl_WidthAt c h x w h1 h2 hh.fv k1 k2 k3 k4)
    have EH := Lib.hid eh
    clear h1 h2 k1 k2 k3 k4 hh hc eh hg hr
    go_enter Try.func86, Try.ntmps86
    go_wp2_with fail
    refine (JH.out _).mono ?_
    rintro e w1 ⟨s, rfl, hs, n1, hw⟩
    rw [EH.out] at hs
    obtain rfl : s = h := hs.num
    rw [hw]; clear hw w1 hs
    go_wp2_with fail
    refine (JW.out _).mono ?_
    rintro e w2 ⟨s2, rfl, hs2, n2, hw⟩
    rw [hw]; clear hw w2
    have hle := le_of (r := r) hs2
    have HF : Hid (fitN s r c = leW s2 r) := Lib.hid hle.symm
    clear hs2 hle
    go_wp2
    go_ret
    exact ⟨by rw [HF.out]; rfl, _, rfl⟩
  · have hf := fit_inf hh hc.2 h2 hr
    have JW := Lib.hid (fun w => impl_WidthAt_no c h w hc.1 h1)
    have EH := Lib.hid eh
    rw [hf]
    clear h1 h2 hh hc eh hg hr hf
    go_enter Try.func86, Try.ntmps86
    go_wp2_with fail
    refine (JH.out _).mono ?_
    rintro e w1 ⟨s, rfl, hs, n1, hw⟩
    rw [EH.out] at hs
    obtain rfl : s = h := hs.num
    rw [hw]; clear hw w1 hs
    go_wp2_with fail
    refine (JW.out _).mono ?_
    rintro e w2 ⟨rfl, n2, hw⟩
    rw [hw]; clear hw w2
    go_wp2
    go_ret
    exact ⟨rfl, _, rfl⟩
/-- A neck of nothing does not fit. -/
theorem fits_zero (g r gb rb : Nat) (w : World) (hg : g < 2139095040)
    (kg : w.cell? ⟨gb, 0, none⟩ = some (.float .f32 g)) (kr : w.cell? ⟨rb, 0, none⟩ = some (.float .f32 r)) :
    Calls Try.prog 86 #[.float .f32 0, .pointer (some ⟨gb, 0, none⟩), .pointer (some ⟨rb, 0, none⟩)] w fun e w' => e = .returned (.bool false) ∧ ∃ n, w' = w.drewN n := by
  have u := Try.underlying22
  have JH := Lib.hid (fun w => impl_half g _ w (fv_meas hg))
  go_enter Try.func86, Try.ntmps86
  go_wp2_with fail
  refine (JH.out _).mono ?_
  rintro e w1 ⟨s, rfl, hs, n1, hw⟩
  rw [hw]; clear hw w1 hs
  go_wp2_with fail
  refine (impl_WidthAt_no 0 s _ (by decide) (by decide)).mono ?_
  rintro e w2 ⟨rfl, n2, hw⟩
  rw [hw]; clear hw w2
  go_wp2
  go_ret
  exact ⟨rfl, _, rfl⟩
theorem impl_bisect (l u0 g r h gb rb : Nat) (E : Int) (w : World) (hl : Wd l E) (hu : Wd u0 E) (hh : Hgt h E) (eh : fop .mul .f32 (some 1056964608) (some g) = some h) (hg : g < 2139095040) (hr : r < 2139095040)
    (kg : w.cell? ⟨gb, 0, none⟩ = some (.float .f32 g)) (kr : w.cell? ⟨rb, 0, none⟩ = some (.float .f32 r)) :
    Calls Try.prog 89 #[.float .f32 l, .float .f32 u0, .int .i64 30, FNeck gb rb] w fun e w' => e = .returned (.float .f32 (bisN h r 30 (l, u0)).1) ∧ ∃ n, w' = w.drewN n := by
  have u := Try.underlying22
  have JF := Lib.hid (fun c w' (hc : Wd c E) kg kr => fits_neck c g r h gb rb E w' hc hh eh hg hr kg kr)
  have BW := Lib.hid (bis_wd (h := h) (r := r) (s := (l, u0)) hh.2.2.2 hl hu)
  have HE := Lib.hid hh.2.2.2
  have KG := Lib.hid kg
  have KR := Lib.hid kr
  unfold FNeck
  clear hh eh hg hr hl hu kg kr
  go_enter Try.func89, Try.ntmps89
  go_wp2
  go_loopw [0, 1, 11] (fun a b i w' => ∃ k : Nat, k ≤ 30 ∧ i = .int .i64 k ∧ a = .float .f32 (bisN h r k (l, u0)).1 ∧ b = .float .f32 (bisN h r k (l, u0)).2 ∧ ∃ n, w' = w.drewN n) (fun _ _ i _ => 30 - (intOf i).toNat)
  case atStart => exact ⟨0, Nat.zero_le _, rfl, rfl, rfl, 0, rfl⟩
  case round =>
    obtain ⟨k, hk, rfl, rfl, rfl, m, rfl⟩ := hrel
    by_cases hlt : k < 30
    · have hk0 : (0 : Int) ≤ (k : Int) := by omega
      have hk1 : (k : Int) < 30 := by omega
      obtain ⟨w1, w2⟩ := BW.out k
      have HST : Hid (bisN h r (k + 1) (l, u0) = stepN h r (bisN h r k (l, u0))) := Lib.hid rfl
      generalize bisN h r k (l, u0) = S at *
      obtain ⟨p, q⟩ := S
      obtain ⟨em, wm⟩ := mid_wd w1 w2 HE.out
      have FA := Lib.hid (fun w => FV_fR (op := .add) (w := w) w1.fv w2.fv)
      have EM := Lib.hid em
      have WM := Lib.hid wm
      clear w1 w2 em wm
      dsimp only at *
      go_wp2_with fail
      refine (impl_product32 _ _ _ _ _ fv_halfN (FA.out _)).mono ?_
      rintro e w3 ⟨s, rfl, hs, n3, hw⟩
      rw [EM.out] at hs
      obtain rfl := hs.num
      rw [hw]; clear hw w3 hs
      go_wp2_with fail
      refine (JF.out _ (w.drewN _) WM.out KG.out KR.out).mono ?_
      rintro e w4 ⟨rfl, n4, hw⟩
      rw [hw]; clear hw w4
      have HS2 : Hid (stepN h r (p, q) = bif fitN h r (midN p q) then (midN p q, q) else (p, midN p q)) := Lib.hid rfl
      generalize fitN h r (midN p q) = ff at *
      cases ff
      · go_wp2
        go_roundw
        case rel => exact ⟨k + 1, by omega, by go_num, by rw [HST.out, HS2.out]; rfl, by rw [HST.out, HS2.out]; rfl, _, rfl⟩
        case measure => simp [intOf]; omega
      · go_wp2
        go_roundw
        case rel => exact ⟨k + 1, by omega, by go_num, by rw [HST.out, HS2.out]; rfl, by rw [HST.out, HS2.out]; rfl, _, rfl⟩
        case measure => simp [intOf]; omega
    · obtain rfl : k = 30 := by omega
      go_wp2
      go_ret
      exact ⟨rfl, _, rfl⟩
end Go.Proofs.Ytcgnmnbjgamedaa
namespace Go.Proofs.Ytcgnmnbjgamedaa
open Go Fk Go.RowKit
set_option linter.unusedVariables false
set_option maxRecDepth 8000

def hN (g : Nat) : Nat := (fop .mul .f32 (some 1056964608) (some g)).getD 0
def lN (g : Nat) : Nat := (fop .quo .f32 (some (hN g)) (some 1067028242)).getD 0
def neckOk (r g : Nat) : Bool := sizeB r && (sizeB g && (lN g != 0 && fitN (hN g) r (lN g)))
def neckW (r g : Nat) : Nat := bif neckOk r g then (bisN (hN g) r 30 (lN g, r)).1 else 0
theorem neck_no {r g : Nat} (h : neckOk r g = false) : neckW r g = 0 := by unfold neckW; rw [h]; rfl
theorem neck_yes {r g : Nat} (h : neckOk r g = true) : neckW r g = (bisN (hN g) r 30 (lN g, r)).1 := by unfold neckW; rw [h]; rfl
/-- All that the walks need of a gap. -/
theorem neck_gap {g : Nat} (hg : g < 4294967296) (hs : sizeB g = true) : ∃ E, fop .mul .f32 (some 1056964608) (some g) = some (hN g) ∧ fop .quo .f32 (some (hN g)) (some 1067028242) = some (lN g) ∧ Hgt (hN g) E ∧ QLE .f32 g 1 (E + 3) ∧
    ((hN g = 0 ∧ lN g = 0) ∨ (Wd (lN g) E ∧ lN g ≠ 0 ∧ ∀ r, r < 2139095040 → fitN (hN g) r (lN g) = true → (FloatKind.f32.format.order (lN g) r == some .gt) = false ∧ Wd r E)) := by
  obtain ⟨h1, h2⟩ := size_lt hg hs
  obtain ⟨h, l, E, e1, e2, hh, hgq, hl⟩ := neck_all h2 h1
  have a1 : hN g = h := by unfold hN; rw [e1]; rfl
  have a2 : lN g = l := by unfold lN; rw [a1, e2]; rfl
  rw [a1, a2]
  refine ⟨E, e1, e2, hh, hgq, ?_⟩
  rcases hl with hl | ⟨k1, k2, k3, k4⟩
  · exact .inl hl
  · exact .inr ⟨⟨by omega, k1⟩, k2, fun r hr hf => ⟨(k4 r hr hf).1, by omega, (k4 r hr hf).2⟩⟩
theorem impl_NeckOf (r g : Nat) (w : World) (hr : r < 4294967296) (hg : g < 4294967296) :
    Calls Try.prog 42 #[.float .f32 r, .float .f32 g] w fun e w' => e = .returned (.tuple #[.float .f32 (neckW r g), .bool (neckOk r g)]) ∧ Below w.heap.size w w' := by
  have u := Try.underlying22
  have hmf : ∀ (fn : Fn) (first cap : Array Value) (w : World), (Instr.makeFunc fn first cap).run Try.prog w = .ok (.func fn first cap) w := fun _ _ _ _ => rfl
  have MR := Lib.hid (fun w => impl_isMeasure r w hr)
  have MG := Lib.hid (fun w => impl_isMeasure g w hg)
  have kr : ((w.alloc (.cells #[.float .f32 r] 22)).alloc (.cells #[.float .f32 g] 22)).cell? ⟨w.heap.size, 0, none⟩ = some (.float .f32 r) := by simp
  have kg : ((w.alloc (.cells #[.float .f32 r] 22)).alloc (.cells #[.float .f32 g] 22)).cell? ⟨w.heap.size + 1, 0, none⟩ = some (.float .f32 g) := by simp
  have hB0 : Below w.heap.size w ((w.alloc (.cells #[.float .f32 r] 22)).alloc (.cells #[.float .f32 g] 22)) := ((Below.refl _ _).alloc (Nat.le_refl _) _).alloc (by simp) _
  have HB := Lib.hid hB0
  clear hB0
  cases hs : sizeB r
  · have ho : neckOk r g = false := by unfold neckOk; rw [hs]; rfl
    rw [ho, neck_no ho]
    rw [hs] at MR
    clear hs ho kg
    go_enter Try.func42, Try.ntmps42
    go_wp2_with fail
    generalize ((w.alloc (.cells #[.float .f32 r] 22)).alloc (.cells #[.float .f32 g] 22)) = W at *
    refine (MR.out _).mono ?_
    rintro e w1 ⟨rfl, n1, hw⟩
    rw [hw]; clear hw w1
    go_wp2
    go_ret2
    exact ⟨rfl, below_drewN HB.out _⟩
  · cases ht : sizeB g
    · have ho : neckOk r g = false := by unfold neckOk; rw [hs, ht]; rfl
      rw [ho, neck_no ho]
      rw [hs] at MR
      rw [ht] at MG
      clear hs ht ho
      go_enter Try.func42, Try.ntmps42
      go_wp2_with fail
      generalize ((w.alloc (.cells #[.float .f32 r] 22)).alloc (.cells #[.float .f32 g] 22)) = W at *
      refine (MR.out _).mono ?_
      rintro e w1 ⟨rfl, n1, hw⟩
      rw [hw]; clear hw w1
      go_wp2_with fail
      refine (MG.out _).mono ?_
      rintro e w1 ⟨rfl, n2, hw⟩
      rw [hw]; clear hw w1
      go_wp2
      go_ret2
      exact ⟨rfl, below_drewN HB.out _⟩
    · obtain ⟨E, eh, el, hh, _, hl⟩ := neck_gap hg ht
      have hr1 := (size_lt hr hs).1
      have hg1 := (size_lt hg ht).1
      have HO : Hid (neckOk r g = (lN g != 0 && fitN (hN g) r (lN g))) := Lib.hid (by unfold neckOk; rw [hs, ht]; rfl)
      have HY := Lib.hid (@neck_yes r g)
      have HNo := Lib.hid (@neck_no r g)
      rw [hs] at MR
      rw [ht] at MG
      have JH := Lib.hid (fun w => impl_half g _ w (fv_meas hg1))
      have EH := Lib.hid eh
      have FQ := Lib.hid (fun w => FV_fR (op := .quo) (w := w) hh.fv fv_KN)
      have EL := Lib.hid el
      have HH := Lib.hid hh
      have HL := Lib.hid hl
      have HR := Lib.hid (And.intro hr1 hg1)
      clear hs ht eh el hh hl hr1 hg1
      generalize hN g = h at *
      generalize lN g = l at *
      go_enter Try.func42, Try.ntmps42
      go_wp2_with fail
      generalize ((w.alloc (.cells #[.float .f32 r] 22)).alloc (.cells #[.float .f32 g] 22)) = W at *
      generalize hgb : w.heap.size + 1 = gb at *
      have KR := Lib.hid kr
      have KG := Lib.hid kg
      clear hgb
      refine (MR.out _).mono ?_
      rintro e w1 ⟨rfl, n1, hw⟩
      rw [hw]; clear hw w1
      go_wp2_with fail
      refine (MG.out _).mono ?_
      rintro e w1 ⟨rfl, n2, hw⟩
      rw [hw]; clear hw w1
      go_wp2_with fail
      refine (JH.out _).mono ?_
      rintro e w1 ⟨s, rfl, hs, n3, hw⟩
      rw [EH.out] at hs
      obtain rfl : s = h := hs.num
      rw [hw]; clear hw w1 hs
      have hq : ∀ w, fR .quo .f32 s 1067028242 w = l := fun w => by
        have := FQ.out w
        rw [EL.out] at this
        exact this.num
      go_wp2_with fail
      clear hq
      rcases HL.out with ⟨_, h0⟩ | ⟨hw, h0, hfit⟩
      · subst h0
        have ho : neckOk r g = false := by rw [HO.out]; rfl
        have HZ := Lib.hid (And.intro ho (HNo.out ho))
        refine (fits_zero g r gb w.heap.size (W.drewN _) HR.out.2 KG.out KR.out).mono ?_
        rintro e w1 ⟨rfl, n4, hw⟩
        rw [hw]; clear hw w1 ho
        go_wp2
        go_ret2
        exact ⟨by (rw [HZ.out.1, HZ.out.2]) <;> rfl, below_drewN HB.out _⟩
      · refine (fits_neck l g r s gb w.heap.size E (W.drewN _) hw HH.out EH.out HR.out.2 HR.out.1 KG.out KR.out).mono ?_
        rintro e w1 ⟨rfl, n4, hw1⟩
        rw [hw1]; clear hw1 w1
        have ho : neckOk r g = fitN s r l := by rw [HO.out, show (l != 0) = true from by simpa using h0]; rfl
        cases hf : fitN s r l
        · rw [hf] at ho
          have HZ := Lib.hid (And.intro ho (HNo.out ho))
          clear ho hf hw h0 hfit
          go_wp2
          go_ret2
          exact ⟨by (rw [HZ.out.1, HZ.out.2]) <;> rfl, below_drewN HB.out _⟩
        · rw [hf] at ho
          have HZ := Lib.hid (And.intro ho (HY.out ho))
          obtain ⟨_, hwr⟩ := hfit r HR.out.1 hf
          have JB := Lib.hid (fun n => impl_bisect l r g r s gb w.heap.size E (W.drewN n) hw hwr HH.out EH.out HR.out.2 HR.out.1 KG.out KR.out)
          unfold FNeck at JB
          clear ho hf hw h0 hfit hwr
          go_wp2_with fail
          refine (JB.out _).mono ?_
          rintro e w1 ⟨rfl, n5, hw1⟩
          rw [hw1]; clear hw1 w1
          go_wp2
          go_ret2
          exact ⟨by (rw [HZ.out.1, HZ.out.2]) <;> rfl, below_drewN HB.out _⟩
end Go.Proofs.Ytcgnmnbjgamedaa

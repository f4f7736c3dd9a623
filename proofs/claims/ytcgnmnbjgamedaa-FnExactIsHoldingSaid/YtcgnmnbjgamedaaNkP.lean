
/-
Areas of films, and whether films hold: the program, its model and the law. Conditions: none beyond that the words fit.
-/
import Derived.Test.YtcgnmnbjgamedaaNkK
import Derived.Test.YtcgnmnbjgamedaaFmA
namespace Go.Proofs.Ytcgnmnbjgamedaa
open Go Fk Go.RowKit
set_option linter.unusedVariables false
set_option maxRecDepth 8000

def piK : Option Nat := cls .f32 1078530011
theorem fv_piK : FV .f32 1078530011 piK := ⟨by decide, rfl⟩
def sinhN (x : Nat) : Option Nat := fop .mul .f32 (some 1056964608) (fop .sub .f32 (expN x) (expN (Op.negFloat .f32 x)))
def areaN (c g x : Nat) : Option Nat := fop .mul .f32 (fop .mul .f32 piK (some c)) (fop .add .f32 (some g) (fop .mul .f32 (some c) (sinhN x)))
theorem impl_SinhNumber (x : Nat) (w : World) (hx : x < 4294967296) (h1 : QLE .f32 x 1 6) (h2 : QLE .f32 (Op.negFloat .f32 x) 1 6) :
    Calls Try.prog 125 #[.float .f32 x] w fun e w' => ∃ r, e = .returned (.float .f32 r) ∧ FV .f32 r (sinhN x) ∧ ∃ n, w' = w.drewN n := by
  have u := Try.underlying22
  have J1 := Lib.hid (fun w => impl_ExpNumber x w hx h1)
  have J2 := Lib.hid (fun w => impl_ExpNumber (Op.negFloat .f32 x) w (neg32 hx).1 h2)
  clear h1 h2
  go_enter Try.func125, Try.ntmps125
  go_wp2_with fail
  refine (J1.out _).mono ?_
  rintro e w1 ⟨r1, rfl, f1, n1, hw⟩
  rw [hw]; clear hw w1
  go_wp2_with fail
  refine (J2.out _).mono ?_
  rintro e w2 ⟨r2, rfl, f2, n2, hw⟩
  rw [hw]; clear hw w2
  have HS := Lib.hid (fun w => FV_fR (op := .sub) (w := w) f1 f2)
  go_wp2_with (go_at_call 88; refine (impl_half _ _ _ (HS.out _)).mono ?_; rintro e w3 ⟨s, rfl, hs, n3, hw⟩; rw [hw]; clear hw w3)
  go_ret
  exact ⟨_, rfl, hs, _, rfl⟩
theorem l08Sinh (x : Nat) (w : World) (hx : x < 4294967296) (h1 : QLE .f32 x 1 6) (h2 : QLE .f32 (Op.negFloat .f32 x) 1 6) :
    Calls Try.prog 124 #[.float .f32 x] w fun e w' => ∃ r, e = .returned (.float .f32 r) ∧ FV .f32 r (sinhN x) ∧ ∃ n, w' = w.drewN n := by
  have u := Try.underlying22
  have J1 := Lib.hid (fun w => l01Exp x w hx h1)
  have J2 := Lib.hid (fun w => l01Exp (Op.negFloat .f32 x) w (neg32 hx).1 h2)
  clear h1 h2
  go_enter Try.func124, Try.ntmps124
  go_wp2_with fail
  refine (J1.out _).mono ?_
  rintro e w1 ⟨r1, rfl, f1, n1, hw⟩
  rw [hw]; clear hw w1
  go_wp2_with fail
  refine (J2.out _).mono ?_
  rintro e w2 ⟨r2, rfl, f2, n2, hw⟩
  rw [hw]; clear hw w2
  go_wp2
  go_ret
  exact ⟨_, rfl, FV_fR fv_halfN (FV_fR f1 f2), _, rfl⟩
theorem impl_FilmArea (c g x : Nat) (w : World) (hc : c < 2139095040) (h0 : c ≠ 0) (hg : g < 2139095040) (g0 : g ≠ 0) (hq : fop .quo .f32 (some g) (some c) = some x) (hx : x < 4294967296) (h1 : QLE .f32 x 1 6) (h2 : QLE .f32 (Op.negFloat .f32 x) 1 6) :
    Calls Try.prog 91 #[.float .f32 c, .float .f32 g] w fun e w' => ∃ r, e = .returned (.tuple #[.float .f32 r, .bool true]) ∧ FV .f32 r (areaN c g x) ∧ ∃ n, w' = w.drewN n := by
  have u := Try.underlying22
  have M1 := Lib.hid (fun w => impl_isMeasure c w (by omega))
  have M2 := Lib.hid (fun w => impl_isMeasure g w (by omega))
  rw [size_yes hc h0] at M1
  rw [size_yes hg g0] at M2
  have fc := fv_meas hc
  have fg := fv_meas hg
  have hr : ∀ w, fR .quo .f32 g c w = x := fun w => by
    have := FV_fR (op := .quo) (w := w) fg fc
    rw [hq] at this
    exact this.num
  have JC := Lib.hid (fun w => impl_SinhNumber x w hx h1 h2)
  have FC := Lib.hid fc
  have FG := Lib.hid fg
  clear h1 h2 fc fg hq h0 g0
  go_enter Try.func91, Try.ntmps91
  go_wp2_with fail
  refine (M1.out _).mono ?_
  rintro e w1 ⟨rfl, n1, hw⟩
  rw [hw]; clear hw w1
  go_wp2_with fail
  refine (M2.out _).mono ?_
  rintro e w1 ⟨rfl, n2, hw⟩
  rw [hw]; clear hw w1
  go_wp2_with fail
  refine (impl_product32 _ _ _ _ _ fv_piK FC.out).mono ?_
  rintro e w1 ⟨s1, rfl, hs1, n3, hw⟩
  rw [hw]; clear hw w1
  go_wp2_with fail
  refine (JC.out _).mono ?_
  rintro e w2 ⟨r2, rfl, f2, n4, hw⟩
  rw [hw]; clear hw w2
  go_wp2_with fail
  refine (impl_product32 _ _ _ _ _ FC.out f2).mono ?_
  rintro e w1 ⟨s2, rfl, hs2, n5, hw⟩
  rw [hw]; clear hw w1
  have HS := Lib.hid (fun w => FV_fR (op := .add) (w := w) FG.out hs2)
  go_wp2_with fail
  refine (impl_product32 _ _ _ _ _ hs1 (HS.out _)).mono ?_
  rintro e w1 ⟨s3, rfl, hs3, n6, hw⟩
  rw [hw]; clear hw w1
  go_wp2
  go_ret2
  exact ⟨_, rfl, hs3, _, rfl⟩
theorem l08Area (c g x : Nat) (w : World) (hc : c < 2139095040) (hg : g < 2139095040) (hq : fop .quo .f32 (some g) (some c) = some x) (hx : x < 4294967296) (h1 : QLE .f32 x 1 6) (h2 : QLE .f32 (Op.negFloat .f32 x) 1 6) :
    Calls Try.prog 90 #[.float .f32 c, .float .f32 g] w fun e w' => ∃ r, e = .returned (.float .f32 r) ∧ FV .f32 r (areaN c g x) ∧ ∃ n, w' = w.drewN n := by
  have u := Try.underlying22
  have fc := fv_meas hc
  have fg := fv_meas hg
  have hr : ∀ w, fR .quo .f32 g c w = x := fun w => by
    have := FV_fR (op := .quo) (w := w) fg fc
    rw [hq] at this
    exact this.num
  have JC := Lib.hid (fun w => l08Sinh x w hx h1 h2)
  have FC := Lib.hid fc
  have FG := Lib.hid fg
  clear h1 h2 fc fg hq
  go_enter Try.func90, Try.ntmps90
  go_wp2_with fail
  refine (JC.out _).mono ?_
  rintro e w2 ⟨r2, rfl, f2, n4, hw⟩
  rw [hw]; clear hw w2
  go_wp2
  go_ret
  exact ⟨_, rfl, FV_fR (FV_fR fv_piK FC.out) (FV_fR FG.out (FV_fR FC.out f2)), _, rfl⟩
end Go.Proofs.Ytcgnmnbjgamedaa
namespace Go.Proofs.Ytcgnmnbjgamedaa
open Go Fk Go.RowKit
set_option linter.unusedVariables false
set_option maxRecDepth 8000

def leCC (A B : Option Nat) : Bool := match A, B with | some a, some b => leW a b | _, _ => false
theorem leCC_of {a b : Nat} {A B : Option Nat} (ha : FV .f32 a A) (hb : FV .f32 b B) : leW a b = leCC A B := by
  have hn : ∀ x y, (FloatKind.f32.decode x).isNaN = true ∨ (FloatKind.f32.decode y).isNaN = true → leW x y = false := fun x y h => by
    unfold leW
    have : FloatKind.f32.format.order x y = none := order_nan h
    rw [this]; rfl
  cases A with
  | none => rw [hn _ _ (.inl ha.nan)]; rfl
  | some x =>
    cases B with
    | none => rw [hn _ _ (.inr hb.nan)]; rfl
    | some y => rw [ha.num, hb.num]; rfl
theorem bis_fit {h r : Nat} {s : Nat × Nat} (h1 : fitN h r s.1 = true) : ∀ k, fitN h r (bisN h r k s).1 = true
  | 0 => h1
  | k + 1 => by
    have a := bis_fit h1 k
    show fitN h r (stepN h r (bisN h r k s)).1 = true
    unfold stepN
    cases hf : fitN h r (midN (bisN h r k s).1 (bisN h r k s).2)
    · exact a
    · exact hf
theorem fit_meas {h r c : Nat} {E : Int} (hh : Hgt h E) (hc : Wd c E) (hr : r < 2139095040) (hf : fitN h r c = true) : c < 2139095040 ∧ c ≠ 0 := by
  rcases wd_cases hc with h1 | ⟨_, h2⟩
  · exact h1
  · rw [fit_inf hh hc.2 h2 hr] at hf; cases hf
def argN (r g : Nat) : Nat := (fop .quo .f32 (some g) (some (neckW r g))).getD 0
/-- What is known of a neck that was found. -/
theorem neck_found {r g : Nat} (hr : r < 4294967296) (hg : g < 4294967296) (ho : neckOk r g = true) : sizeB r = true ∧ sizeB g = true ∧ neckW r g < 2139095040 ∧ neckW r g ≠ 0 ∧ fop .quo .f32 (some g) (some (neckW r g)) = some (argN r g) ∧ argN r g < 4294967296 ∧ QLE .f32 (argN r g) 1 6 ∧ QLE .f32 (Op.negFloat .f32 (argN r g)) 1 6 := by
  have hy := neck_yes ho
  have ho' := ho
  unfold neckOk at ho
  simp only [Bool.and_eq_true] at ho
  obtain ⟨hs, ht, h0, hf⟩ := ho
  obtain ⟨E, _, _, hh, hgq, hl⟩ := neck_gap hg ht
  rcases hl with ⟨_, z⟩ | ⟨hw, _, hfit⟩
  · rw [z] at h0; cases h0
  · have hr1 := (size_lt hr hs).1
    have hb := (bis_wd (h := hN g) (r := r) (s := (lN g, r)) hh.2.2.2 hw (hfit r hr1 hf).2 30).1
    have hbf := bis_fit (h := hN g) (r := r) (s := (lN g, r)) hf 30
    rw [← hy] at hb hbf
    obtain ⟨c1, c2⟩ := fit_meas hh hb hr1 hbf
    obtain ⟨mg, pg, hd, _⟩ := meas_dec (size_lt hg ht).1
    obtain ⟨x, k1, k2⟩ := quo_arg hgq hb.2 ⟨mg, pg, hd⟩ (by omega) (by omega)
    have hx : argN r g = x := by unfold argN; rw [k1]; rfl
    have hlt : x < 4294967296 := (floatBits_ok (show floatBits .quo .f32 g (neckW r g) = some x from k1)).2.2.2
    rw [hx]
    exact ⟨hs, ht, c1, c2, k1, hlt, k2, QLE_neg hlt k2⟩
def discN (r : Nat) : Option Nat := fop .mul .f32 (fop .mul .f32 twoPi (some r)) (some r)
def holdN (r g : Nat) : Bool := neckOk r g && leCC (areaN (neckW r g) g (argN r g)) (discN r)
theorem impl_IsHolding (r g : Nat) (w : World) (hr : r < 4294967296) (hg : g < 4294967296) :
    Calls Try.prog 44 #[.float .f32 r, .float .f32 g] w fun e w' => e = .returned (.bool (holdN r g)) ∧ Below w.heap.size w w' := by
  have u := Try.underlying22
  have JN := Lib.hid (fun w => impl_NeckOf r g w hr hg)
  cases ho : neckOk r g
  · have hh : holdN r g = false := by unfold holdN; rw [ho]; rfl
    rw [hh]
    rw [ho] at JN
    clear ho hh
    go_enter Try.func44, Try.ntmps44
    go_wp2_with fail
    refine (JN.out _).mono ?_
    rintro e w1 ⟨rfl, hB⟩
    have HB := Lib.hid hB
    clear hB
    go_wp2
    go_ret
    exact ⟨rfl, HB.out⟩
  · obtain ⟨hs, ht, c1, c2, k1, k2, k3, k4⟩ := neck_found hr hg ho
    have hh : holdN r g = leCC (areaN (neckW r g) g (argN r g)) (discN r) := by unfold holdN; rw [ho]; rfl
    rw [hh]
    rw [ho] at JN
    have JA := Lib.hid (fun w => impl_FilmArea (neckW r g) g (argN r g) w c1 c2 (size_lt hg ht).1 (size_lt hg ht).2 k1 k2 k3 k4)
    have fr := fv_meas (size_lt hr hs).1
    have JD := Lib.hid (fun w => impl_DiscsArea r (some r) w fr)
    have hD : discsC (some r) = discN r := by
      unfold discsC
      have : sizeC (some r) = true := hs
      rw [this]; rfl
    rw [hD] at JD
    clear ho hh hs ht c1 c2 k1 k2 k3 k4 fr hD
    generalize discN r = DD at *
    generalize areaN (neckW r g) g (argN r g) = AA at *
    generalize neckW r g = c at *
    go_enter Try.func44, Try.ntmps44
    go_wp2_with fail
    refine (JN.out _).mono ?_
    rintro e w1 ⟨rfl, hB⟩
    have HB := Lib.hid hB
    clear hB
    go_wp2_with fail
    refine (JA.out _).mono ?_
    rintro e w2 ⟨a, rfl, fa, n2, hw⟩
    rw [hw]; clear hw w2
    go_wp2_with fail
    refine (JD.out _).mono ?_
    rintro e w2 ⟨d, rfl, fd, n3, hw⟩
    rw [hw]; clear hw w2
    have HL := Lib.hid (leCC_of fa fd)
    clear fa fd
    go_wp2
    go_ret
    exact ⟨by rw [← HL.out]; rfl, below_drewN HB.out _⟩
theorem spec_IsHolding (r g : Nat) (w : World) (hr : r < 4294967296) (hg : g < 4294967296) :
    Calls Try.prog 43 #[.float .f32 r, .float .f32 g] w fun e w' => e = .returned (.bool (holdN r g)) ∧ ∃ n, w' = w.drewN n := by
  have u := Try.underlying22
  have MR := Lib.hid (fun w => l02Size r w hr)
  have MG := Lib.hid (fun w => l02Size g w hg)
  cases hs : sizeB r
  · have hh : holdN r g = false := by unfold holdN neckOk; rw [hs]; rfl
    rw [hh]
    rw [hs] at MR
    clear hs hh
    go_enter Try.func43, Try.ntmps43
    go_wp2_with (go_at_call 47; refine (MR.out _).mono ?_; rintro e w1 ⟨rfl, n, hw⟩; rw [hw]; clear hw w1)
    go_ret
    exact ⟨rfl, _, rfl⟩
  · cases ht : sizeB g
    · have hh : holdN r g = false := by unfold holdN neckOk; rw [hs, ht]; rfl
      rw [hh]
      rw [hs] at MR
      rw [ht] at MG
      clear hs ht hh
      go_enter Try.func43, Try.ntmps43
      go_wp2_with fail
      refine (MR.out _).mono ?_
      rintro e w1 ⟨rfl, n1, hw⟩
      rw [hw]; clear hw w1
      go_wp2_with (go_at_call 47; refine (MG.out _).mono ?_; rintro e w1 ⟨rfl, n, hw⟩; rw [hw]; clear hw w1)
      go_ret
      exact ⟨rfl, _, rfl⟩
    · have JN := Lib.hid (fun w => l08Neck r g w hr hg hs ht)
      have fr := fv_meas (size_lt hr hs).1
      have JD := Lib.hid (fun w => l08Discs r (some r) w fr)
      have hg1 := (size_lt hg ht).1
      rw [hs] at MR
      rw [ht] at MG
      cases ho : neckOk r g
      · have hh : holdN r g = false := by unfold holdN; rw [ho]; rfl
        rw [hh]
        rw [ho] at JN
        clear ho hh hs ht fr hg1
        go_enter Try.func43, Try.ntmps43
        go_wp2_with fail
        refine (MR.out _).mono ?_
        rintro e w1 ⟨rfl, n1, hw⟩
        rw [hw]; clear hw w1
        go_wp2_with fail
        refine (MG.out _).mono ?_
        rintro e w1 ⟨rfl, n2, hw⟩
        rw [hw]; clear hw w1
        go_wp2_with fail
        refine (JN.out _).mono ?_
        rintro e w1 ⟨rfl, n3, hw⟩
        rw [hw]; clear hw w1
        go_wp2
        go_ret
        exact ⟨rfl, _, rfl⟩
      · obtain ⟨_, _, c1, c2, k1, k2, k3, k4⟩ := neck_found hr hg ho
        have hh : holdN r g = leCC (areaN (neckW r g) g (argN r g)) (discN r) := by unfold holdN; rw [ho]; rfl
        rw [hh]
        rw [ho] at JN
        have JA := Lib.hid (fun w => l08Area (neckW r g) g (argN r g) w c1 hg1 k1 k2 k3 k4)
        have hD : fop .mul .f32 (fop .mul .f32 twoPi (some r)) (some r) = discN r := rfl
        rw [hD] at JD
        clear ho hh hs ht c1 c2 k1 k2 k3 k4 fr hD hg1
        generalize discN r = DD at *
        generalize areaN (neckW r g) g (argN r g) = AA at *
        generalize neckW r g = c at *
        go_enter Try.func43, Try.ntmps43
        go_wp2_with fail
        refine (MR.out _).mono ?_
        rintro e w1 ⟨rfl, n1, hw⟩
        rw [hw]; clear hw w1
        go_wp2_with fail
        refine (MG.out _).mono ?_
        rintro e w1 ⟨rfl, n2, hw⟩
        rw [hw]; clear hw w1
        go_wp2_with fail
        refine (JN.out _).mono ?_
        rintro e w1 ⟨rfl, n3, hw⟩
        rw [hw]; clear hw w1
        go_wp2_with fail
        refine (JA.out _).mono ?_
        rintro e w2 ⟨a, rfl, fa, n4, hw⟩
        rw [hw]; clear hw w2
        go_wp2_with fail
        refine (JD.out _).mono ?_
        rintro e w2 ⟨d, rfl, fd, n5, hw⟩
        rw [hw]; clear hw w2
        have HL := Lib.hid (leCC_of fa fd)
        clear fa fd
        go_wp2
        go_ret
        exact ⟨by rw [← HL.out]; rfl, _, rfl⟩
theorem FnExactIsHolding_law (x y : Nat) (w : World) (hx : x < 2 ^ FloatKind.f32.format.width) (hy : y < 2 ^ FloatKind.f32.format.width) :
    Calls Try.prog 13 #[.float .f32 x, .float .f32 y] w fun e w' => e = .returned (.bool true) ∧ Below w.heap.size w w' := by
  have u := Try.underlying22
  have JS := Lib.hid (fun w => spec_IsHolding x y w hx hy)
  have JI := Lib.hid (fun w => impl_IsHolding x y w hx hy)
  generalize holdN x y = b at *
  have hb1 : (b == b) = true := by cases b <;> rfl
  have hb2 : (b != b) = false := by cases b <;> rfl
  go_enter Try.func13, Try.ntmps13
  go_wp2_with fail
  refine (JS.out _).mono ?_
  rintro e w1 ⟨rfl, n, hw⟩
  rw [hw]; clear hw w1
  go_wp2_with fail
  refine (JI.out _).mono ?_
  rintro e w1 ⟨rfl, hB⟩
  have HB : Hid (Below w.heap.size w w1) := Lib.hid ((below_drewN (Below.refl _ _) _).trans (hB.mono (by first | exact Nat.le_refl _ | simp)))
  clear hB
  go_wp2
  go_ret
  exact ⟨rfl, HB.out⟩
end Go.Proofs.Ytcgnmnbjgamedaa

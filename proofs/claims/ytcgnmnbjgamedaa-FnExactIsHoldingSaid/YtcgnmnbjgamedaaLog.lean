
/-
Logarithms: what the program and its model return, and that the law returns true. Conditions: none beyond that the words fit.
-/
import Derived.Test.YtcgnmnbjgamedaaAng
import Derived.Test.YtcgnmnbjgamedaaLogM
import Derived.Below
import Derived.Deep.LoopGhost
namespace Go.Proofs.Ytcgnmnbjgamedaa
open Go Fk Go.RowKit
set_option linter.unusedVariables false
set_option maxRecDepth 8000

theorem fv_two : FV .f64 4611686018427387904 (some two64) := ⟨by decide, by decide⟩
theorem fv_ln : FV .f64 4604418534313441775 (some ln64) := ⟨by decide, by decide⟩
theorem half_get {x : Nat} {e : Int} (h : NLE x e) (h1 : -900 ≤ e) (h2 : e ≤ 200) : ∀ w, fR .quo .f64 x 4611686018427387904 w = (fop .quo .f64 (some x) (some two64)).getD 0 := by
  intro w
  obtain ⟨y, hy, _⟩ := NLE_half h h1 h2
  unfold fR
  have : floatBits .quo .f64 x 4611686018427387904 = some y := hy
  rw [this, hy]; rfl
theorem double_get {x : Nat} {e : Int} (h : NLE x e) (h1 : -900 ≤ e) (h2 : e ≤ 100) : ∀ w, fR .mul .f64 x 4611686018427387904 w = (fop .mul .f64 (some x) (some two64)).getD 0 := by
  intro w
  obtain ⟨y, hy, _⟩ := NLE_double h h1 h2
  unfold fR
  have : floatBits .mul .f64 x 4611686018427387904 = some y := hy
  rw [this, hy]; rfl
theorem word_fop {op : BinOp} {x y z : Nat} (h : fop op .f64 (some x) (some y) = some z) (hx : FV .f64 x (some x)) (hy : FV .f64 y (some y)) : z < 18446744073709551616 := by
  have := FV_fR (op := op) (w := default) hx hy
  rw [h] at this
  have h1 := this.1
  rw [this.num] at h1
  exact h1
theorem PB_ge {y : Nat} (hy : y < 9218868437227405312) (h : geB y = true) : PB .f64 y 0 := by
  rw [geB_eq hy] at h
  have h' := of_decide_eq_true h
  have hd := dec_pos hy
  rw [if_neg (by omega)] at hd
  refine ⟨_, _, hd, by omega, ?_⟩
  rw [log2_52 (by omega) (by omega)]
  omega
theorem PB_mono {y : Nat} {e e' : Int} (h : PB .f64 y e) (he : e' ≤ e) : PB .f64 y e' := by
  obtain ⟨m, p, h1, h2, h3⟩ := h; exact ⟨m, p, h1, h2, by omega⟩
theorem PB_writeE (k : FloatKind) (m : Nat) (p e e' : Int) (h0 : m ≠ 0) (h : e ≤ p + m.log2) (h' : p + m.log2 < e') (he : k.format.leastPlace + k.format.fractionBits ≤ e) (E : Int) (hi : e' ≤ E) (hinf : (E + 1 - k.format.fractionBits - k.format.leastPlace + 1).toNat * k.format.binade < k.format.infRung) :
    PB k (k.format.write (.number false m p)) e := by
  obtain ⟨r, hr, hb, _⟩ := nearest_small k.format false m p e' (fun _ => h') (by omega)
  obtain ⟨r', hr', hb'⟩ := nearest_great k.format false m p e h0 h he
  have hB : 0 < k.format.binade := Nat.two_pow_pos _
  have hSB : k.format.infRung < k.format.signWeight := k.format.infRung_lt
  have hle : (e' - k.format.fractionBits - k.format.leastPlace + 1).toNat ≤ (E + 1 - k.format.fractionBits - k.format.leastPlace + 1).toNat := by omega
  have hle' : (e - k.format.fractionBits - k.format.leastPlace + 1).toNat ≤ (E + 1 - k.format.fractionBits - k.format.leastPlace + 1).toNat := by omega
  have hlt : r < k.format.infRung := Nat.lt_of_le_of_lt (Nat.le_trans hb (Nat.mul_le_mul_right _ hle)) hinf
  have hlt' := Nat.lt_of_le_of_lt (Nat.mul_le_mul_right k.format.binade hle') hinf
  have hrr : r' = r := by
    have : k.format.word false r' = k.format.word false r := hr'.symm.trans hr
    simpa [Ieee.Format.word] using this
  rw [hrr] at hb'
  have hlow : (e - k.format.fractionBits - k.format.leastPlace + 1).toNat * k.format.binade ≤ r := by omega
  show PB k (k.format.nearest false m p) e
  rw [hr]
  show ∃ m' p', k.format.read (k.format.word false r) = .number false m' p' ∧ _
  have hq : (e - k.format.fractionBits - k.format.leastPlace + 1).toNat ≤ r / k.format.binade := (Nat.le_div_iff_mul_le hB).2 hlow
  have h1 : ¬ r < k.format.binade := by
    have := Nat.mul_le_mul_right k.format.binade (show 1 ≤ (e - k.format.fractionBits - k.format.leastPlace + 1).toNat by omega)
    omega
  have hw : k.format.word false r = r := by simp [Ieee.Format.word]
  have hfb : k.format.binade = 2 ^ k.format.fractionBits := rfl
  unfold Ieee.Format.read
  dsimp only
  rw [word_mod _ _ _ (by omega), if_neg h1, if_pos hlt, hw, Nat.div_eq_of_lt (by omega)]
  refine ⟨_, _, rfl, by omega, ?_⟩
  have hl : k.format.fractionBits ≤ (k.format.binade + r % k.format.binade).log2 := (Nat.le_log2 (by omega)).2 (by omega)
  omega

theorem inf300 : ((300 : Int) + 1 - FloatKind.f64.format.fractionBits - FloatKind.f64.format.leastPlace + 1).toNat * FloatKind.f64.format.binade < FloatKind.f64.format.infRung := by
  rw [show FloatKind.f64.format.fractionBits = 52 from rfl, show FloatKind.f64.format.leastPlace = -1074 by decide, show FloatKind.f64.format.binade = 4503599627370496 by decide, show FloatKind.f64.format.infRung = 9218868437227405312 by decide]
  decide
theorem PB_half {x : Nat} {e : Int} (h : PB .f64 x e) (hx : MB .f64 x 129) (h1 : -800 ≤ e) : ∀ y, fop .quo .f64 (some x) (some two64) = some y → PB .f64 y (e - 1) := by
  obtain ⟨m, p, hd, h0, he⟩ := h
  obtain ⟨s', m', p', hd2, hup⟩ := hx
  rw [hd] at hd2
  obtain ⟨rfl, rfl, rfl⟩ : false = s' ∧ m = m' ∧ p = p' := by simpa using hd2
  have hup := hup h0
  intro y hy
  have t52 : (4503599627370496 : Nat) = 2 ^ 52 := by decide
  have hlog : (4503599627370496 : Nat).log2 = 52 := by decide
  have hdg : FloatKind.f64.format.fractionBits + 2 = 54 := by decide
  have hf : fop .quo .f64 (some x) (some two64) = some (FloatKind.f64.format.write (.number false (2 * ((m <<< (54 + 52 - m.log2)) / 4503599627370496) + ((m <<< (54 + 52 - m.log2)) % 4503599627370496 != 0).toNat) (p - -51 - (54 + 52 - m.log2 : Nat) - 1))) := by
    show ((FloatKind.f64.decode x).quotient (FloatKind.f64.format.fractionBits + 2) (FloatKind.f64.decode two64)).map FloatKind.f64.format.write = _
    rw [hd, dec_two, hdg]
    simp only [Ieee.Datum.quotient, show (4503599627370496 : Nat) ≠ 0 by decide, if_false, hlog, Option.map_some]
    rw [show (false ^^ false) = false from rfl]
  rw [hf] at hy
  cases hy
  have hbit : ((m <<< (54 + 52 - m.log2)) % 4503599627370496 != 0).toNat ≤ 1 := by cases ((m <<< (54 + 52 - m.log2)) % 4503599627370496 != 0) <;> simp
  generalize ((m <<< (54 + 52 - m.log2)) % 4503599627370496 != 0).toNat = b at hbit ⊢
  generalize hmore : 54 + 52 - m.log2 = more
  rw [Nat.shiftLeft_eq]
  have hge : 2 ^ m.log2 ≤ m := Nat.log2_self_le h0
  have hlt : m < 2 ^ (m.log2 + 1) := Nat.lt_log2_self
  have lo : 2 ^ (m.log2 + more - 52) ≤ m * 2 ^ more / 4503599627370496 := by
    rw [Nat.le_div_iff_mul_le (by decide), t52, ← Nat.pow_add, show m.log2 + more - 52 + 52 = m.log2 + more by omega, Nat.pow_add]
    exact Nat.mul_le_mul_right _ hge
  have hi : m * 2 ^ more / 4503599627370496 < 2 ^ (m.log2 + 1 + more - 52) := by
    rw [Nat.div_lt_iff_lt_mul (by decide), t52, ← Nat.pow_add, show m.log2 + 1 + more - 52 + 52 = m.log2 + 1 + more by omega, Nat.pow_add]
    exact Nat.mul_lt_mul_of_pos_right hlt (Nat.two_pow_pos _)
  generalize m * 2 ^ more / 4503599627370496 = q at lo hi
  have hpos := Nat.two_pow_pos (m.log2 + more - 52)
  have l1 : m.log2 + more - 52 + 1 ≤ (2 * q + b).log2 := (Nat.le_log2 (by omega)).2 (by rw [Nat.pow_succ]; omega)
  have l2 : (2 * q + b).log2 < m.log2 + 1 + more - 52 + 1 := (Nat.log2_lt (by omega)).2 (by rw [Nat.pow_succ]; omega)
  exact PB_writeE .f64 (2 * q + b) _ (e - 1) 200 (by omega) (by omega) (by omega) (by rw [show FloatKind.f64.format.leastPlace + FloatKind.f64.format.fractionBits = -1022 by decide]; omega) 300 (by decide) inf300
theorem steps {e : Int} (h1 : -200 ≤ e) (h2 : e < 200) : (∀ w, fR .add .f64 (floatOfInt .f64 e) 4607182418800017408 w = floatOfInt .f64 (e + 1)) ∧ (∀ w, fR .sub .f64 (floatOfInt .f64 e) 4607182418800017408 w = floatOfInt .f64 (e - 1)) := by
  have a : floatBits .add .f64 (floatOfInt .f64 e) 4607182418800017408 = some (floatOfInt .f64 (e + 1)) := step_up h1 h2
  have b : floatBits .sub .f64 (floatOfInt .f64 e) 4607182418800017408 = some (floatOfInt .f64 (e - 1)) := step_dn h1 h2
  exact ⟨fun w => by unfold fR; rw [a], fun w => by unfold fR; rw [b]⟩
theorem half_next {y : Nat} {k : Nat} (hy : y < 18446744073709551616) (hk : k ≤ 140) (hN : NLE y ((k : Int) - 12)) (hg : geB y = true) :
    ∃ k', k = k' + 1 ∧ ∃ y', (∀ w, fR .quo .f64 y 4611686018427387904 w = y') ∧ y' < 18446744073709551616 ∧ NLE y' ((k' : Int) - 12) ∧ PB .f64 y' (-149) ∧ ∀ e, down k (y, e) = down k' (y', e + 1) := by
  have hw := hN.word hy
  by_cases h0 : k ≤ 11
  · exfalso
    have := not_ge hw (hN.mono (by omega))
    rw [hg] at this; cases this
  · obtain ⟨k', rfl⟩ : ∃ k', k = k' + 1 := ⟨k - 1, by omega⟩
    obtain ⟨y', hy', hN'⟩ := NLE_half hN (by omega) (by omega)
    have hb : PB .f64 y' (-149) := PB_mono (PB_half (PB_ge hw hg) ((hN.le.mb).mono (by omega)) (by decide) y' hy') (by decide)
    refine ⟨k', rfl, y', fun w => ?_, word_fop hy' (hN.fv hy) fv_two, hN'.mono (by omega), hb, fun e => ?_⟩
    · rw [half_get hN (by omega) (by omega) w, hy']; rfl
    · rw [down, if_pos hg, hy']; rfl
theorem double_next {y : Nat} {k : Nat} (hy : y < 18446744073709551616) (hN : NLE y 1) (hP : PB .f64 y (11 - (k : Int))) (hk : k ≤ 160) (hg : ltB y = true) :
    ∃ k', k = k' + 1 ∧ ∃ y', (∀ w, fR .mul .f64 y 4611686018427387904 w = y') ∧ y' < 18446744073709551616 ∧ NLE y' 1 ∧ PB .f64 y' (11 - (k' : Int)) ∧ ∀ e, upw k (y, e) = upw k' (y', e - 1) := by
  have hw := hN.word hy
  by_cases h0 : k = 0
  · exfalso
    have := not_lt hw (PB_mono hP (by omega))
    rw [hg] at this; cases this
  · obtain ⟨k', rfl⟩ : ∃ k', k = k' + 1 := ⟨k - 1, by omega⟩
    have hN0 := NLE_of_lt75 hw hg
    obtain ⟨y', hy', hN'⟩ := NLE_double hN0 (by decide) (by decide)
    refine ⟨k', rfl, y', fun w => ?_, word_fop hy' (hN.fv hy) fv_two, hN', PB_mono (PB_double hP hN0 (by omega) y' hy') (by omega), fun e => ?_⟩
    · rw [double_get hN0 (by decide) (by decide) w, hy']; rfl
    · rw [upw, if_pos hg, hy']; rfl
theorem impl_nearOne (X : Nat) (w : World) (hX : X < 18446744073709551616) (h : NLE X 128) (hp : PB .f64 X (-149)) :
    Calls Try.prog 122 #[.float .f64 X] w fun e w' => (∃ s : Nat × Int, e = .returned (.tuple #[.float .f64 s.1, .float .f64 (floatOfInt .f64 s.2)]) ∧ s = upw 160 (down 140 (X, 0)) ∧ s.1 < 18446744073709551616 ∧ NLE s.1 1 ∧ -200 ≤ s.2 ∧ s.2 ≤ 200) ∧ ∃ n, w' = w.drewN n := by
  have u := Try.underlying26
  have z0 : floatOfInt .f64 0 = 0 := by decide
  go_enter Try.func122, Try.ntmps122
  go_wp2
  go_loopg [0, 4] 140 (fun k x v w' => k ≤ 140 ∧ (∃ y, x = .float .f64 y ∧ v = .float .f64 (floatOfInt .f64 (140 - (k : Int))) ∧ y < 18446744073709551616 ∧ NLE y ((k : Int) - 12) ∧ PB .f64 y (-149) ∧ Aside (down k (y, 140 - (k : Int)) = down 140 (X, 0))) ∧ ∃ n, w' = w.drewN n)
  case atStart => exact ⟨by decide, ⟨X, rfl, by rw [show (140 : Int) - ((140 : Nat) : Int) = 0 by decide, z0], hX, h, hp, rfl⟩, 0, rfl⟩
  case round =>
    obtain ⟨hk, ⟨y, rfl, rfl, hy, hN, hP, hD⟩, n, rfl⟩ := hrel
    have hw := hN.word hy
    cases hg : geB y
    · have hgo : (FloatKind.f64.format.order y 4609434218613702656 == some .gt || FloatKind.f64.format.order y 4609434218613702656 == some .eq) = false := hg
      have hN1 := NLE_of_lt15 hw hg
      have hD' : Aside ((y, 140 - (gk : Int)) = down 140 (X, 0)) := by rw [← hD.out, down_stop hg]; exact rfl
      clear hD hN hg
      go_wp2
      go_loopg [0, 4] 160 (fun k x v w' => k ≤ 160 ∧ (∃ y' : Nat, ∃ e : Int, x = .float .f64 y' ∧ v = .float .f64 (floatOfInt .f64 e) ∧ y' < 18446744073709551616 ∧ NLE y' 1 ∧ PB .f64 y' (11 - (k : Int)) ∧ e = 140 - (gk : Int) - (160 - (k : Int)) ∧ Aside (upw k (y', e) = upw 160 (down 140 (X, 0)))) ∧ ∃ n, w' = w.drewN n)
      case atStart => exact ⟨by decide, ⟨y, _, rfl, rfl, hy, hN1, PB_mono hP (by decide), by omega, by rw [← hD'.out]; exact rfl⟩, _, rfl⟩
      case round =>
        rename_i gk'
        obtain ⟨hk', ⟨y', e, rfl, rfl, hy', hN', hP', he, hU⟩, m, rfl⟩ := hrel
        have hw' := hN'.word hy'
        cases hl : ltB y'
        · have hlo : (FloatKind.f64.format.order y' 4604930618986332160 == some .lt) = false := hl
          have hres : Aside ((y', e) = upw 160 (down 140 (X, 0))) := by rw [← hU.out, upw_stop hl]; exact rfl
          clear hU hl
          have e1 : -200 ≤ e := by omega
          have e2 : e ≤ 200 := by omega
          clear he
          go_wp2
          go_ret2
          exact ⟨⟨(y', e), rfl, hres.out, hy', hN', e1, e2⟩, _, rfl⟩
        · have hlo : (FloatKind.f64.format.order y' 4604930618986332160 == some .lt) = true := hl
          obtain ⟨k', rfl, y2, hq, hy2, hN2, hP2, hU2⟩ := double_next hy' hN' hP' hk' hl
          obtain ⟨_, hs⟩ := steps (e := e) (by omega) (by omega)
          have hU3 : Aside (upw k' (y2, e - 1) = upw 160 (down 140 (X, 0))) := by rw [← hU2 e]; exact hU
          have he3 : Aside (e - 1 = 140 - (gk : Int) - (160 - (k' : Int))) := by show e - 1 = 140 - (gk : Int) - (160 - (k' : Int)); omega
          clear hU hU2 hl he
          go_wp2
          go_roundg k'
          case measure => omega
          case rel => exact ⟨by omega, ⟨y2, e - 1, rfl, rfl, hy2, hN2, hP2, he3.out, hU3⟩, _, rfl⟩
    · have hgo : (FloatKind.f64.format.order y 4609434218613702656 == some .gt || FloatKind.f64.format.order y 4609434218613702656 == some .eq) = true := hg
      obtain ⟨k', rfl, y2, hq, hy2, hN2, hP2, hD2⟩ := half_next hy hk hN hg
      obtain ⟨hs, _⟩ := steps (e := 140 - ((k' : Int) + 1)) (by omega) (by omega)
      have he4 : (140 : Int) - ((k' : Int) + 1) + 1 = 140 - (k' : Int) := by omega
      have he3 : (140 : Int) - ((k' + 1 : Nat) : Int) + 1 = 140 - (k' : Int) := by omega
      rw [he4] at hs
      have hD3 : Aside (down k' (y2, 140 - (k' : Int)) = down 140 (X, 0)) := by rw [← he3, ← hD2]; exact hD
      clear he4
      clear hD hD2 hg he3
      go_wp2
      go_roundg k'
      case measure => omega
      case rel => exact ⟨by omega, ⟨y2, rfl, rfl, hy2, hN2, hP2, hD3⟩, _, rfl⟩
end Go.Proofs.Ytcgnmnbjgamedaa

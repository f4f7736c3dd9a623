
/-
The exponential function of one and more is at least two; a film is not narrower than its neck. Conditions: none.
-/
import Derived.Test.YtcgnmnbjgamedaaNge
import Derived.Test.YtcgnmnbjgamedaaExB
import Derived.Test.YtcgnmnbjgamedaaWlA
namespace Go.Proofs.Ytcgnmnbjgamedaa
namespace Fk
open Go
set_option linter.unusedVariables false

theorem NGC.qge {k : FloatKind} {c : Option Nat} {n : Nat} {e : Int} (h : NGC k c n e) : ∃ x, c = some x ∧ QGE k x n e := by
  obtain ⟨x, m, p, h1, h2, h3⟩ := h
  exact ⟨x, h1, .inl ⟨m, p, h2, h3⟩⟩
theorem ngc_pos {k : FloatKind} {c : Option Nat} {N : Nat} {E e : Int} (hq : QLC k c N E) (hp : Pos k c) : NGC k c 0 e := by
  obtain ⟨x, rfl, s, m, p, h2, _⟩ := hq
  have hn := neg_decode (hp x rfl)
  rw [h2] at hn
  obtain rfl : s = false := hn
  exact ⟨x, m, p, rfl, h2, Qr.zero⟩
theorem n_one : NGC .f64 (some one64) 1 0 := ⟨one64, 4503599627370496, -52, rfl, by decide, by decide⟩
def divOk : Bool := (List.range 12).all fun j => match FloatKind.f64.decode (floatOfInt .f64 (12 - (j : Int))) with | .number false m p => m != 0 | _ => false
theorem divOk_true : divOk = true := by decide +kernel
theorem div_int {j : Nat} (hj : j < 12) : ∃ m p, FloatKind.f64.decode (floatOfInt .f64 (12 - (j : Int))) = .number false m p ∧ m ≠ 0 := by
  have h := List.all_eq_true.1 divOk_true j (List.mem_range.2 hj)
  generalize floatOfInt .f64 (12 - (j : Int)) = x at *
  cases hd : FloatKind.f64.decode x with
  | number s m p =>
    rw [hd] at h
    cases s
    · exact ⟨m, p, rfl, by simpa using h⟩
    · cases h
  | infinity s => rw [hd] at h; cases h
  | nan s f => rw [hd] at h; cases h
theorem Qr.refl' {m : Nat} {p : Int} : Qr m p m p := by unfold Qr; exact Nat.le_refl _
/-- The sums are at least one. -/
theorem n_expP {t : Option Nat} (ht : QLC .f64 t 1 (-2)) (hl : NGC .f64 t 1 (-8)) : ∀ j, j ≤ 12 → NGC .f64 (expP t j) 1 0
  | 0, _ => n_one
  | j + 1, h => by
    have ih := n_expP ht hl j (by omega)
    have u := q_expP ht j (by omega)
    have u1 := QLC_mul ht u (by rw [bin64]; decide) (ok64 (by decide) (by decide))
    have u2 := QLC_quo u1 (lb_int (show j < 12 by omega)) (by rw [bin64]; decide) (ok64 (by decide) (by decide))
    have u3 := QLC_add (q_one.mono (n' := 32) (e' := -5) (by decide)) u2 (by rw [bin64]; decide) (ok64 (by decide) (by decide))
    have l1 := NGC_mul hl ih u1 (by rw [bin64]; decide) (by decide) okl64
    obtain ⟨m, p, hd, h0⟩ := div_int (show j < 12 by omega)
    have l2 := NGC_quo (n3 := 0) (e3 := 0) l1 hd h0 Qr.refl' (by rw [Nat.zero_mul]; exact Qr.zero) u2 (by rw [bin64]; decide) (by decide) okl64
    have l3 := NGC_add n_one l2 u3 (by rw [bin64]; decide) (by decide) okl64
    exact l3
theorem n_exp12 {t : Option Nat} (ht : QLC .f64 t 1 (-2)) (hl : NGC .f64 t 1 (-8)) : NGC .f64 (expP t 12) 257 (-8) := by
  have ih := n_expP ht hl 11 (by decide)
  have u := q_expP ht 11 (by decide)
  have u1 := QLC_mul ht u (by rw [bin64]; decide) (ok64 (by decide) (by decide))
  have u2 := QLC_quo u1 (lb_int (show 11 < 12 by decide)) (by rw [bin64]; decide) (ok64 (by decide) (by decide))
  have u3 := QLC_add (q_one.mono (n' := 32) (e' := -5) (by decide)) u2 (by rw [bin64]; decide) (ok64 (by decide) (by decide))
  have l1 := NGC_mul hl ih u1 (by rw [bin64]; decide) (by decide) okl64
  have hd : FloatKind.f64.decode (floatOfInt .f64 (12 - ((11 : Nat) : Int))) = .number false 4503599627370496 (-52) := by decide
  have l2 := NGC_quo (n3 := 1) (e3 := -8) l1 hd (by decide) (n2 := 1) (e2 := 0) (by decide) (by decide) u2 (by rw [bin64]; decide) (by decide) okl64
  exact NGC_add (n_one.mono (n' := 256) (e' := -8) (by decide)) l2 u3 (by rw [bin64]; decide) (by decide) okl64
theorem n_expC {X : Nat} (hX : QLE .f64 X 1 6) (hl : NGC .f64 (some X) 1 0) : NGC .f64 (expC X) 1 1 := by
  have h1 : QLC .f64 (fop .quo .f64 (some X) (some c256)) 1 (-2) := QLC_quo ⟨X, rfl, hX⟩ lb_256 (by rw [bin64]; decide) (ok64 (by decide) (by decide))
  have d256 : FloatKind.f64.decode c256 = .number false 4503599627370496 (-44) := by decide
  have l1 : NGC .f64 (fop .quo .f64 (some X) (some c256)) 1 (-8) := NGC_quo (n3 := 1) (e3 := -8) hl d256 (by decide) (n2 := 1) (e2 := 8) (by decide) (by decide) h1 (by rw [bin64]; decide) (by decide) okl64
  have h2 := q_expP h1 12 (by decide)
  have l2 := n_exp12 h1 l1
  unfold expC
  generalize expP (fop .quo .f64 (some X) (some c256)) 12 = p at *
  have sq : ∀ {c : Option Nat} {n : Nat} {e : Int}, QLC .f64 c n e → n * n < 2 * FloatKind.f64.format.binade → -1000 ≤ e + e → e + e ≤ 200 → QLC .f64 (fop .mul .f64 c c) (n * n) (e + e) := fun h a b c => QLC_mul h h a (ok64 b c)
  have s1 := sq h2 (by rw [bin64]; decide) (by decide) (by decide)
  have s2 := sq s1 (by rw [bin64]; decide) (by decide) (by decide)
  have s3 := sq s2 (by rw [bin64]; decide) (by decide) (by decide)
  have s3' : QLC .f64 (expS p 3) 13 0 := s3.mono (by decide)
  have s4 := sq s3' (by rw [bin64]; decide) (by decide) (by decide)
  have s5 := sq s4 (by rw [bin64]; decide) (by decide) (by decide)
  have s6 := sq s5 (by rw [bin64]; decide) (by decide) (by decide)
  have s6' : QLC .f64 (expS p 6) 779 20 := s6.mono (by decide)
  have s7 := sq s6' (by rw [bin64]; decide) (by decide) (by decide)
  have s8 := sq s7 (by rw [bin64]; decide) (by decide) (by decide)
  have m1 := NGC_mul l2 l2 s1 (by rw [bin64]; decide) (by decide) okl64
  have m2 := NGC_mul m1 m1 s2 (by rw [bin64]; decide) (by decide) okl64
  have m2' := m2.mono (n' := 1040) (e' := -10) (by decide)
  have m3 := NGC_mul m2' m2' s3 (by rw [bin64]; decide) (by decide) okl64
  have m3' : NGC .f64 (expS p 3) 1056 (-10) := m3.mono (by decide)
  have m4 := NGC_mul m3' m3' s4 (by rw [bin64]; decide) (by decide) okl64
  have m4' := m4.mono (n' := 1089) (e' := -10) (by decide)
  have m5 := NGC_mul m4' m4' s5 (by rw [bin64]; decide) (by decide) okl64
  have m5' := m5.mono (n' := 1158) (e' := -10) (by decide)
  have m6 := NGC_mul m5' m5' s6 (by rw [bin64]; decide) (by decide) okl64
  have m6' : NGC .f64 (expS p 6) 1309 (-10) := m6.mono (by decide)
  have m7 := NGC_mul m6' m6' s7 (by rw [bin64]; decide) (by decide) okl64
  have m7' := m7.mono (n' := 1673) (e' := -10) (by decide)
  exact (NGC_mul m7' m7' s8 (by rw [bin64]; decide) (by decide) okl64).mono (by decide)
theorem NGC_nar {c : Option Nat} {n N : Nat} {e E : Int} (h : NGC .f64 c n e) (hq : QLC .f32 (c.map nar) N E) (hn : n < 16777216) (he : -149 ≤ e) : NGC .f32 (c.map nar) n e := by
  obtain ⟨x, m, p, rfl, h2, h3⟩ := h
  refine ngc_of (m := m) (p := p) ?_ hq h3 (by rw [bin32]; omega) he okl32
  show some (nar x) = _
  unfold nar
  rw [h2]; rfl
theorem NGC_wid {x n N : Nat} {e E : Int} (h : NGC .f32 (some x) n e) (hq : QLE .f64 (wid x) N E) (hn : n < 9007199254740992) (he : -1000 ≤ e) : NGC .f64 (some (wid x)) n e := by
  obtain ⟨y, m, p, h1, h2, h3⟩ := h
  cases h1
  refine ngc_of (m := m) (p := p) ?_ ⟨_, rfl, hq⟩ h3 (by rw [bin64]; omega) (by rw [show FloatKind.f64.format.leastPlace = -1074 by decide]; omega) okl64
  unfold wid
  rw [h2]; rfl
/-- The exponential of a number of at most 64 in size, and the hyperbolic cosine. -/
def expN (x : Nat) : Option Nat := (expC (wid x)).map nar
def coshN (x : Nat) : Option Nat := fop .mul .f32 (some 1056964608) (fop .add .f32 (expN x) (expN (Op.negFloat .f32 x)))
theorem q_expN {x : Nat} (hx : QLE .f32 x 1 6) : QLC .f32 (expN x) 65536 103 ∧ NGC .f32 (expN x) 0 103 := by
  have hw := QLE_wid hx (by decide) (by decide) (by decide)
  have h0 : QLC .f64 (expC (wid x)) 65536 103 := (q_expC hw).mono (by decide)
  have h1 : QLC .f32 (expN x) 65536 103 := QLC_nar h0 (by decide) (ok32' (by decide) (by decide))
  refine ⟨h1, ?_⟩
  have hp : NGC .f64 (expC (wid x)) 0 103 := ngc_pos (q_expC hw) (by unfold expC; exact Pos_square _)
  exact NGC_nar hp h1 (by decide) (by decide)
theorem q_cosh {x : Nat} (hx : QLE .f32 x 1 6) (hy : QLE .f32 (Op.negFloat .f32 x) 1 6) : NGC .f32 (coshN x) 0 0 ∧ (NGC .f32 (some x) 1 0 → NGC .f32 (coshN x) 1 0) := by
  obtain ⟨a1, a2⟩ := q_expN hx
  obtain ⟨b1, b2⟩ := q_expN hy
  have u1 := QLC_add a1 b1 (by rw [bin32]; decide) (ok32' (by decide) (by decide))
  have hh : QLC .f32 (some 1056964608) 1 (-1) := ⟨_, rfl, false, 8388608, -24, half_dec, by decide⟩
  have hg : NGC .f32 (some 1056964608) 1 (-1) := ⟨_, 8388608, -24, rfl, half_dec, by decide⟩
  have u2 : QLC .f32 (coshN x) (1 * (65536 + 65536)) (-1 + 103) := QLC_mul hh u1 (by rw [bin32]; decide) (ok32' (by decide) (by decide))
  constructor
  · have l1 := NGC_add a2 b2 u1 (by rw [bin32]; decide) (by decide) okl32
    have l2 : NGC .f32 (coshN x) (1 * (0 + 0)) (-1 + 103) := NGC_mul hg l1 u2 (by rw [bin32]; decide) (by decide) okl32
    exact l2.mono (by decide)
  · intro h1
    have hw := QLE_wid hx (by decide) (by decide) (by decide)
    have e1 := n_expC hw (NGC_wid h1 hw (by decide) (by decide))
    have e2 : NGC .f32 (expN x) 1 1 := NGC_nar e1 a1 (by decide) (by decide)
    have l1 := NGC_add e2 (b2.mono (n' := 0) (e' := 1) Qr.zero) u1 (by rw [bin32]; decide) (by decide) okl32
    have l2 : NGC .f32 (coshN x) (1 * (1 + 0)) (-1 + 1) := NGC_mul hg l1 u2 (by rw [bin32]; decide) (by decide) okl32
    exact l2.mono (by decide)
end Fk
end Go.Proofs.Ytcgnmnbjgamedaa

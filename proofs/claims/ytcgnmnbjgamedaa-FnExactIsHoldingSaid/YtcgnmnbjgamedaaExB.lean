
/-
The exponential function near zero: classes and sizes. Conditions: none.
-/
import Derived.Test.YtcgnmnbjgamedaaQlo
namespace Go.Proofs.Ytcgnmnbjgamedaa
namespace Fk
open Go
set_option linter.unusedVariables false

theorem compare_lt' {a b : Int} (h : a < b) : compare a b = .lt := by simp [compare, compareOfLessAndEq, h]
theorem compare_gt' {a b : Int} (h : b < a) : compare a b = .gt := by
  have h1 : ¬ a < b := by omega
  have h2 : ¬ a = b := by omega
  simp [compare, compareOfLessAndEq, h1, h2]
/-- A number of known size and a greater one. -/
theorem ord_far {k : FloatKind} {x C n : Nat} {e : Int} {u : Bool} {M : Nat} {P : Int} (h : QLE k x n e) (hC : k.decode C = .number u M P) (hlt : n * 2 ^ (e - P).toNat < M * 2 ^ (P - e).toNat) :
    k.format.order x C = some (if u = true then .gt else .lt) := by
  obtain ⟨s, m, p, h1, h2⟩ := h
  show (k.decode x).order (k.decode C) = _
  rw [h1, hC]
  have hx : m <<< (p - min p P).toNat < M <<< (P - min p P).toNat := by
    rw [Nat.shiftLeft_eq, Nat.shiftLeft_eq]
    rcases Nat.lt_or_ge (m * 2 ^ (p - min p P).toNat) (M * 2 ^ (P - min p P).toNat) with h3 | h3
    · exact h3
    · exfalso
      have h4 : Qr M P m p := (Qr_iff (c := min p P) (by omega) (by omega)).2 h3
      have h5 : Qr M P n e := h4.trans h2
      unfold Qr at h5
      omega
  have hd : (Ieee.Datum.number s m p).order (Ieee.Datum.number u M P) = some (compare (Ieee.signed s m (p - min p P).toNat) (Ieee.signed u M (P - min p P).toNat)) := rfl
  rw [hd]
  have hs : ∀ t (a b : Nat), Ieee.signed t a b = if t = true then -((a <<< b : Nat) : Int) else ((a <<< b : Nat) : Int) := fun t a b => by cases t <;> rfl
  rw [hs, hs]
  generalize m <<< (p - min p P).toNat = A at hx ⊢
  generalize M <<< (P - min p P).toNat = B at hx ⊢
  clear hlt hd hs h2
  cases u
  · rw [compare_lt' (by cases s <;> simp <;> omega)]; rfl
  · rw [compare_gt' (by cases s <;> simp <;> omega)]; rfl
def c256 : Nat := 4643211215818981376
theorem fv_256 : FV .f64 4643211215818981376 (some c256) := ⟨by decide, by decide⟩
theorem lb_256 : LBk .f64 (some c256) 8 := ⟨c256, false, 4503599627370496, -44, rfl, by decide, by decide, by decide⟩
/-- The sum of the exponential function behind so many steps. -/
def expP (t : Option Nat) : Nat → Option Nat
  | 0 => some one64
  | j + 1 => fop .add .f64 (some one64) (fop .quo .f64 (fop .mul .f64 t (expP t j)) (some (floatOfInt .f64 (12 - (j : Int)))))
/-- It is squared. -/
def expS (p : Option Nat) : Nat → Option Nat
  | 0 => p
  | j + 1 => fop .mul .f64 (expS p j) (expS p j)
def expC (X : Nat) : Option Nat := expS (expP (fop .quo .f64 (some X) (some c256)) 12) 8
def lbOk : Bool := (List.range 12).all fun j => match FloatKind.f64.decode (floatOfInt .f64 (12 - (j : Int))) with | .number _ m p => m != 0 && decide (0 ≤ p + m.log2) | _ => false
theorem lbOk_true : lbOk = true := by decide +kernel
theorem lb_int {j : Nat} (hj : j < 12) : LBk .f64 (some (floatOfInt .f64 (12 - (j : Int)))) 0 := by
  have h := List.all_eq_true.1 lbOk_true j (List.mem_range.2 hj)
  generalize floatOfInt .f64 (12 - (j : Int)) = x at *
  cases hd : FloatKind.f64.decode x with
  | number s m p =>
    rw [hd] at h
    simp only [Bool.and_eq_true, bne_iff_ne, decide_eq_true_eq] at h
    exact ⟨x, s, m, p, rfl, hd, h.1, h.2⟩
  | infinity s => rw [hd] at h; cases h
  | nan s f => rw [hd] at h; cases h
theorem q_one : QLC .f64 (some one64) 1 0 := ⟨one64, rfl, false, 4503599627370496, -52, by decide, by decide⟩
theorem bin64 : FloatKind.f64.format.binade = 4503599627370496 := by decide
theorem bin32 : FloatKind.f32.format.binade = 8388608 := by decide
theorem q_expP {t : Option Nat} (ht : QLC .f64 t 1 (-2)) : ∀ j, j ≤ 12 → QLC .f64 (expP t j) 11 (-3)
  | 0, _ => q_one.mono (by decide)
  | j + 1, h => by
    have h1 := QLC_mul ht (q_expP ht j (by omega)) (by rw [bin64]; decide) (ok64 (by decide) (by decide))
    have h2 := QLC_quo h1 (lb_int (show j < 12 by omega)) (by rw [bin64]; decide) (ok64 (by decide) (by decide))
    have h3 := QLC_add (q_one.mono (n' := 32) (e' := -5) (by decide)) h2 (by rw [bin64]; decide) (ok64 (by decide) (by decide))
    exact h3.mono (by decide)
theorem q_expC {X : Nat} (hX : QLE .f64 X 1 6) : QLC .f64 (expC X) 1 119 := by
  have h1 : QLC .f64 (fop .quo .f64 (some X) (some c256)) 1 (-2) := QLC_quo ⟨X, rfl, hX⟩ lb_256 (by rw [bin64]; decide) (ok64 (by decide) (by decide))
  have h2 := q_expP h1 12 (by decide)
  unfold expC
  generalize expP (fop .quo .f64 (some X) (some c256)) 12 = p at *
  have sq : ∀ {c : Option Nat} {n : Nat} {e : Int}, QLC .f64 c n e → n * n < 2 * FloatKind.f64.format.binade → -1000 ≤ e + e → e + e ≤ 200 → QLC .f64 (fop .mul .f64 c c) (n * n) (e + e) := fun h a b c => QLC_mul h h a (ok64 b c)
  have s1 := sq h2 (by rw [bin64]; decide) (by decide) (by decide)
  have s2 := sq s1 (by rw [bin64]; decide) (by decide) (by decide)
  have s3 := sq s2 (by rw [bin64]; decide) (by decide) (by decide)
  have s3' : QLC .f64 (expS p 3) 13 0 := s3.mono (by decide)
  have s4 := sq s3' (by rw [bin64]; decide) (by decide) (by decide)
  have s5 := sq s4 (by rw [bin64]; decide) (by decide) (by decide)
  have s6 := sq s5 (by rw [bin64]; decide) (by decide) (by decide)
  have s6' : QLC .f64 (expS p 6) 779 20 := s6.mono (by decide)
  have s7 := sq s6' (by rw [bin64]; decide) (by decide) (by decide)
  exact (sq s7 (by rw [bin64]; decide) (by decide) (by decide)).mono (by decide)
end Fk
end Go.Proofs.Ytcgnmnbjgamedaa

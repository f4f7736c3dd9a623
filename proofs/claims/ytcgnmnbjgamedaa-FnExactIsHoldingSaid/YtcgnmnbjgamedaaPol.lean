
/-
Sizes of the chains of operations that make angles and sines. Conditions: none.
-/
import Derived.Test.YtcgnmnbjgamedaaWid
namespace Go.Proofs.Ytcgnmnbjgamedaa
namespace Fk
open Go
set_option linter.unusedVariables false

theorem PB_int {n : Nat} (h0 : n ≠ 0) (h : n < 1000000) : PB .f64 (floatOfInt .f64 (n : Int)) n.log2 := by
  have hl : n.log2 < 20 := (Nat.log2_lt h0).2 (by omega)
  have := PB_write .f64 n 0 (n.log2 : Int) 30 h0 (by omega) (by omega) (by rw [show FloatKind.f64.format.leastPlace + FloatKind.f64.format.fractionBits = -1022 by decide]; omega) (by decide)
  unfold floatOfInt FloatKind.nearest
  rw [show decide ((n : Int) < 0) = false from decide_eq_false (by omega), Int.natAbs_natCast]
  exact this
theorem LE_int {n : Nat} {e : Nat} (h : n ≤ 2 ^ e) (he : e ≤ 100) : LE (floatOfInt .f64 (n : Int)) e := by
  unfold floatOfInt FloatKind.nearest
  exact LE_write _ _ 0 _ (fun _ => ⟨by omega, by rw [Int.natAbs_natCast, show ((e : Int) - 0).toNat = e by omega]; exact h⟩) (by omega) (by omega)
theorem fv_int (n : Int) : FV .f64 (floatOfInt .f64 n) (some (floatOfInt .f64 n)) :=
  ⟨FloatKind.f64.format.write_lt (.number (n < 0) n.natAbs 0), cls_num (isNaN_write .f64 (.number (n < 0) n.natAbs 0) rfl)⟩

def halveC (c : Option Nat) : Option Nat := fop .quo .f64 c (fop .add .f64 (some one64) (fsq (fop .add .f64 (some one64) (fop .mul .f64 c c))))
theorem LEC_halveC {c : Option Nat} (h : LEC c 1) : LEC (halveC c) 1 := by
  obtain ⟨t, rfl, ht⟩ := h; exact LEC_halve ht (by decide) (by decide)
def halves (c : Option Nat) : Nat → Option Nat
  | 0 => c
  | n + 1 => halveC (halves c n)
theorem LEC_halves {c : Option Nat} (h : LEC c 1) : ∀ n, LEC (halves c n) 1
  | 0 => h
  | n + 1 => LEC_halveC (LEC_halves h n)
/-- The polynomial of the angle, after j steps. -/
def polA (u : Option Nat) : Nat → Option Nat
  | 0 => some 0
  | j + 1 => fop .sub .f64 (fop .quo .f64 (some one64) (some (floatOfInt .f64 (15 - 2 * (j : Int))))) (fop .mul .f64 u (polA u j))
theorem zero_LE (e : Int) (h : -1074 ≤ e) : LE 0 e := ⟨false, 0, -1074, by decide, by omega, Nat.zero_le _⟩
theorem LEC_polA {u : Option Nat} (hu : LEC u 2) : ∀ j : Nat, j ≤ 8 → LEC (polA u j) (3 * (j : Int))
  | 0, _ => ⟨0, rfl, zero_LE _ (by decide)⟩
  | j + 1, h => by
    have hj : (15 - 2 * (j : Int)) = ((15 - 2 * j : Nat) : Int) := by omega
    have hp := PB_int (n := 15 - 2 * j) (by omega) (by omega)
    have hq := LEC_quo ⟨one64, rfl, one_LE⟩ hp.lbc (by have := Nat.log2_le_self (15 - 2 * j); omega) (by omega)
    rw [← hj] at hq
    have hm := LEC_mul hu (LEC_polA hu j (by omega)) (by omega) (by omega)
    have := LEC_sub (hq.mono (e' := 2 + 3 * (j : Int)) (by omega)) hm (by omega) (by omega)
    exact this.mono (by omega)
def eight64 : Nat := 4620693217682128896
def turn64 : Nat := 4618760256179416344
def quarter64 : Nat := 4598175219545276416
def half64 : Nat := 4602678819172646912
/-- The angle of a tangent from 0 to 1. -/
def flatC (c : Option Nat) : Option Nat :=
  fop .quo .f64 (fop .mul .f64 (some eight64) (fop .mul .f64 (halves c 3) (polA (fop .mul .f64 (halves c 3) (halves c 3)) 8))) (some turn64)
theorem LEC_const {x : Nat} (e : Int) (h : LE x e) : LEC (some x) e := ⟨x, rfl, h⟩
theorem LEC_flat {c : Option Nat} (h : LEC c 1) : LEC (flatC c) 26 := by
  have ht := LEC_halves h 3
  have hu := LEC_mul ht ht (by decide) (by decide)
  have hp := LEC_polA hu 8 (by decide)
  have h1 := LEC_mul ht hp (by decide) (by decide)
  have h2 := LEC_mul (LEC_const 3 (x := eight64) ⟨false, _, _, rfl, by decide, by decide⟩) h1 (by decide) (by decide)
  have hd : LBC (some turn64) 2 := ⟨_, _, _, _, rfl, rfl, by decide, by decide⟩
  exact (LEC_quo h2 hd (by decide) (by decide)).mono (by decide)
theorem LEC_quarter {c : Option Nat} (h : LEC c 26) : LEC (fop .sub .f64 (some quarter64) c) 27 :=
  LEC_sub (LEC_const 26 (x := quarter64) ⟨false, _, _, rfl, by decide, by decide⟩) h (by decide) (by decide)
theorem LEC_half {c : Option Nat} (h : LEC c 27) : LEC (fop .sub .f64 (some half64) c) 28 :=
  LEC_sub (LEC_const 27 (x := half64) ⟨false, _, _, rfl, by decide, by decide⟩) h (by decide) (by decide)

/-! The sine -/
def polS (u : Option Nat) : Nat → Option Nat
  | 0 => some one64
  | j + 1 => fop .sub .f64 (some one64) (fop .quo .f64 (fop .mul .f64 u (polS u j)) (some (floatOfInt .f64 (2 * (8 - (j : Int)) * (2 * (8 - (j : Int)) + 1)))))
theorem LEC_polS {u : Option Nat} (hu : LEC u 12) : ∀ j : Nat, j ≤ 8 → LEC (polS u j) (11 * (j : Int))
  | 0, _ => ⟨one64, rfl, one_LE⟩
  | j + 1, h => by
    have hj : (2 * (8 - (j : Int)) * (2 * (8 - (j : Int)) + 1)) = ((2 * (8 - j) * (2 * (8 - j) + 1) : Nat) : Int) := by
      have : (8 : Int) - (j : Int) = ((8 - j : Nat) : Int) := by omega
      rw [this]; norm_cast
    obtain ⟨d, hd⟩ : ∃ d, d = 2 * (8 - j) * (2 * (8 - j) + 1) := ⟨_, rfl⟩
    have hd1 : 6 ≤ d ∧ d < 1000000 := by
      rw [hd]
      have : 8 - j ≤ 8 ∧ 1 ≤ 8 - j := by omega
      generalize 8 - j = i at this
      have : i = 1 ∨ i = 2 ∨ i = 3 ∨ i = 4 ∨ i = 5 ∨ i = 6 ∨ i = 7 ∨ i = 8 := by omega
      rcases this with h | h | h | h | h | h | h | h <;> subst h <;> decide
    rw [← hd] at hj
    have hp := PB_int (n := d) (by omega) hd1.2
    have hl2 : 2 ≤ d.log2 := (Nat.le_log2 (by omega)).2 (by omega)
    have hl20 : d.log2 < 20 := (Nat.log2_lt (by omega)).2 (by omega)
    have hm := LEC_mul hu (LEC_polS hu j (by omega)) (by omega) (by omega)
    have hq := LEC_quo hm hp.lbc (by omega) (by omega)
    rw [← hj] at hq
    have := LEC_sub (LEC_const (11 * (j : Int) + 10) (one_LE.mono (by omega))) (hq.mono (e' := 11 * (j : Int) + 10) (by omega)) (by omega) (by omega)
    exact this.mono (by omega)
end Fk
end Go.Proofs.Ytcgnmnbjgamedaa

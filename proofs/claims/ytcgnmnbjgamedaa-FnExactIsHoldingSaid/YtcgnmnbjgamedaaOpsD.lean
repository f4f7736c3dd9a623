
/-
Roots of numbers without a minus sign, and what one and such a number divide. Conditions: none.
-/
import Derived.Test.YtcgnmnbjgamedaaOpsC
namespace Go.Proofs.Ytcgnmnbjgamedaa
namespace Fk
open Go
set_option linter.unusedVariables false

theorem NB_root {x : Nat} (h : NB .f64 x 129) : ∃ r, fsq (some x) = some r ∧ NB .f64 r 68 := by
  obtain ⟨m, i, h1, h2⟩ := h
  cases hr : (Ieee.Datum.number false m i).root (FloatKind.f64.format.fractionBits + 2) with
  | none =>
    simp only [Ieee.Datum.root] at hr
    split at hr
    · cases hr
    · simp at hr
  | some y =>
    obtain ⟨s', m', i', hy, hb⟩ := root_small _ _ y false m i rfl h2 hr
    have hs : s' = false := by
      subst hy
      simp only [Ieee.Datum.root] at hr
      split at hr
      · simp only [Option.some.injEq, Ieee.Datum.number.injEq] at hr; exact hr.1.symm
      · simp at hr; first | exact hr.1.symm | exact hr.1
    subst hs
    refine ⟨FloatKind.f64.format.write y, ?_, ?_⟩
    · show (FloatKind.f64.format.sqrt x) = _
      unfold Ieee.Format.sqrt
      have : FloatKind.f64.format.read x = .number false m i := h1
      rw [this, hr]; rfl
    · rw [hy]
      exact NB_write .f64 m' i' 67 hb (by decide) (by decide)

def one64 : Nat := 4607182418800017408
theorem one_PB : PB .f64 one64 0 := ⟨4503599627370496, -52, by decide, by decide, by decide⟩
theorem one_LE : LE one64 0 := ⟨false, 4503599627370496, -52, by decide, by decide, by decide⟩
/-- One step of the halving of an angle: at most as great as before. -/
theorem LEC_halve {t : Nat} {e : Int} (ht : LE t e) (h0 : 0 ≤ e) (h1 : e ≤ 40) :
    LEC (fop .quo .f64 (some t) (fop .add .f64 (some one64) (fsq (fop .add .f64 (some one64) (fop .mul .f64 (some t) (some t)))))) e := by
  obtain ⟨y, hy, ny⟩ := NB_square ht.mb (by omega) (by omega)
  rw [hy]
  obtain ⟨z, hz, pz, nz⟩ := PB_sum one_PB (E := e + 1 + (e + 1) + 1) (one_LE.mb.mono (by omega)) ny (by omega) (by omega) (by omega)
  rw [hz]
  have nz' : NB .f64 z 129 := by
    obtain ⟨m, p, a, b⟩ := nz
    exact ⟨m, p, a, fun h => by have := b h; omega⟩
  obtain ⟨r, hr, nr⟩ := NB_root nz'
  rw [hr]
  obtain ⟨d, hd, pd, _⟩ := PB_sum one_PB (E := 68) (one_LE.mb.mono (by omega)) nr (by omega) (by omega) (by omega)
  rw [hd]
  have := LEC_quo ⟨t, rfl, ht⟩ pd.lbc (by omega) (by omega)
  rwa [Int.sub_zero] at this
end Fk
end Go.Proofs.Ytcgnmnbjgamedaa

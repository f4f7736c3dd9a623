
/-
Where meshes that a function made stay. Conditions: none.
-/
import Derived.Test.YtcgnmnbjgamedaaHmH
namespace Go.Proofs.Ytcgnmnbjgamedaa
open Go Fk Go.RowKit
set_option linter.unusedVariables false
set_option maxRecDepth 8000
theorem Own.wide {lo hi lo' hi' b o n : Nat} {w : World} (h : Own lo hi w b o n) (h1 : lo' ≤ lo) (h2 : hi ≤ hi') : Own lo' hi' w b o n := ⟨by have := h.1; omega, by have := h.2.1; omega, h.2.2⟩
theorem GM.wide {lo hi lo' hi' pl tl F : Nat} {w : World} {a a' : Option Addr} (h : GM lo hi w a a' pl tl F) (h1 : lo' ≤ lo) (h2 : hi ≤ hi') : GM lo' hi' w a a' pl tl F :=
  ⟨h.1.imp id fun ⟨b, e, ho⟩ => ⟨b, e, ho.wide h1 h2⟩, h.2.1.imp id fun ⟨R, e, k1, k2, k3, k4, k5, k6⟩ => ⟨R, e, by omega, by omega, k3, k4, k5, k6.wide h1 h2⟩, h.2.2⟩
theorem GM.mark {lo hi lo' hi' pl tl F : Nat} {w w' : World} {a a' : Option Addr} (h : GM lo hi w a a' pl tl F) (hM : Mark lo' hi' w w') (ho : hi' ≤ lo ∨ hi ≤ lo') : GM lo hi w' a a' pl tl F := by
  refine ⟨h.1.mark hM, h.2.1.mark hM (fun R hR i v hv => ?_), h.2.2⟩
  rcases h.2.1 with ⟨e, _⟩ | ⟨R', e, k1, k2, _⟩
  · rw [e] at hR; cases hR
  · rw [e] at hR; cases hR
    exact hM.cell (by show R' < lo' ∨ hi' ≤ R'; omega) hv
theorem GM.vs {lo hi lo' hi' pl tl F c : Nat} {w w' : World} {a a' : Option Addr} {cs : List C3} (h : GM lo hi w a a' pl tl F) (hI : IsVs w a pl c cs) (hM : Mark lo' hi' w w') (ho : hi' ≤ lo ∨ hi ≤ lo') : IsVs w' a pl c cs := vs_mark hI h.1 hM (by omega)
theorem GM.ts {lo hi lo' hi' pl tl F c : Nat} {w w' : World} {a a' : Option Addr} {ts : List (List Int)} (h : GM lo hi w a a' pl tl F) (hI : IsTs w a' tl c ts) (hM : Mark lo' hi' w w') (ho : hi' ≤ lo ∨ hi ≤ lo') : IsTs w' a' tl c ts := ts_mark hI h.2.1 hM (by omega)
end Go.Proofs.Ytcgnmnbjgamedaa

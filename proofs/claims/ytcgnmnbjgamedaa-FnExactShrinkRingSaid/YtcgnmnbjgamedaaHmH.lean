
/-
Meshes that the program makes: rows in one list, and where all lies. Conditions: none.
-/
import Derived.Test.YtcgnmnbjgamedaaHmF
import Derived.Test.YtcgnmnbjgamedaaRoB
namespace Go.Proofs.Ytcgnmnbjgamedaa
open Go Fk Go.RowKit
set_option linter.unusedVariables false
set_option maxRecDepth 8000
theorem flatV_get (ts : List (List Int)) (k j i : Nat) (hj : j < k) (hi : i < 3) : (flatV ts k)[j * 3 + i]? = some (.int .i64 ((ts.getD j []).getD i 0)) := by
  induction k with
  | zero => omega
  | succ k ih =>
    unfold flatV
    by_cases h : j < k
    · rw [List.getElem?_append_left (by rw [flatV_len]; omega)]
      exact ih h
    · obtain rfl : j = k := by omega
      rw [List.getElem?_append_right (by rw [flatV_len]; omega), flatV_len]
      have : i = 0 ∨ i = 1 ∨ i = 2 := by omega
      rcases this with rfl | rfl | rfl
      · rw [show j * 3 + 0 - j * 3 = 0 by omega]; rfl
      · rw [show j * 3 + 1 - j * 3 = 1 by omega]; rfl
      · rw [show j * 3 + 2 - j * 3 = 2 by omega]; rfl
theorem rows_mesh {w : World} {lo fb fc tl : Nat} {v : Value} {ts : List (List Int)} (hv : w.ownsRow (fb + 1) 90 1 v tl (rowVs fb tl)) (hf : w.ownsRow lo 2 1 (.slice (some ⟨fb, 0, none⟩) (tl * 3) fc) (tl * 3) (flatV ts tl)) (hn : ts.length = tl) (h3 : ∀ j, j < tl → (ts.getD j []).length = 3) (hz : ∀ j, j < tl → ∀ z ∈ ts.getD j [], (Lit.int .i64 z).wf = true) :
    ∃ a c, v = .slice a tl c ∧ IsTs w a tl c ts ∧ Flat lo w.heap.size w a tl fb := by
  have hv' := hv
  obtain ⟨f1, f2⟩ := hf.lt fb rfl
  rcases hv.2 with ⟨rfl, hn0⟩ | ⟨g, cap, cur, rfl, hb, hh, hc1, hc2, hs, ht⟩
  · exact ⟨none, 0, by rw [hn0], ⟨hn, by omega, by unfold maxLen; omega, fun _ => ⟨hn0, rfl⟩, fun x hx => (by cases hx)⟩, .inl ⟨rfl, hn0⟩⟩
  · obtain ⟨g1, g2⟩ := hv'.lt g rfl
    have hrow : ∀ j, j < tl → w.cell? ⟨g, j, none⟩ = some (.slice (some ⟨fb, j * 3, none⟩) 3 3) := fun j hj => by
      rw [hv'.cellAt j (by omega)]; unfold rowVs; simp [hj]
    refine ⟨_, cap, rfl, ⟨hn, hc1, hc2, by simp, fun x hx i hi => ?_⟩, .inr ⟨g, rfl, by omega, g2, g2, by omega, fun j hj => ⟨3, hrow j hj⟩, f1, f2, f2, fun j hj => ?_⟩⟩
    · cases hx
      refine ⟨_, _, _, by rw [addr_add', Nat.zero_add]; exact hrow i hi, h3 i hi, Nat.le_refl _, by unfold maxLen; omega, hz i hi, by simp, fun y hy q hq => ?_⟩
      cases hy
      rw [addr_add', hf.cellAt _ (by omega), flatV_get ts tl i q hi hq]
    · refine ⟨⟨.int .i64 ((ts.getD (j / 3) []).getD (j % 3) 0), ?_⟩, by rw [Nat.zero_add]; exact hf.frozenAt j⟩
      rw [Nat.zero_add, hf.cellAt _ (by omega)]
      have := flatV_get ts tl (j / 3) (j % 3) (by omega) (by omega)
      rwa [show j / 3 * 3 + j % 3 = j by omega] at this
theorem PVf.more {n k : Nat} {xs : List Value} {F : Nat → C3} (h : PVf k xs F) (hl : xs.length = n * 3) (hk : k < n) {p q r : Nat} (hf : FV .f32 p (F k).1 ∧ FV .f32 q (F k).2.1 ∧ FV .f32 r (F k).2.2) :
    PVf (k + 1) (((xs.set (k * 3) (.float .f32 p)).set (k * 3 + 1) (.float .f32 q)).set (k * 3 + 2) (.float .f32 r)) F := fun j hj => by
  by_cases hjk : j = k
  · subst hjk
    refine ⟨p, q, r, ?_, ?_, ?_, hf⟩
    · rw [List.getElem?_set_ne (by omega), List.getElem?_set_ne (by omega), List.getElem?_set_self (by omega)]
    · rw [List.getElem?_set_ne (by omega), List.getElem?_set_self (by simp; omega)]
    · rw [List.getElem?_set_self (by simp; omega)]
  · obtain ⟨p', q', r', h1, h2, h3, h4⟩ := h j (by omega)
    refine ⟨p', q', r', ?_, ?_, ?_, h4⟩
    · rw [List.getElem?_set_ne (by omega), List.getElem?_set_ne (by omega), List.getElem?_set_ne (by omega)]; exact h1
    · rw [List.getElem?_set_ne (by omega), List.getElem?_set_ne (by omega), List.getElem?_set_ne (by omega)]; exact h2
    · rw [List.getElem?_set_ne (by omega), List.getElem?_set_ne (by omega), List.getElem?_set_ne (by omega)]; exact h3
/-- The answer of a function of the program that makes a mesh, or none. -/
def MadeG (w w' : World) (e : Ending) (ok : Bool) (cs : List C3) (ts : List (List Int)) : Prop :=
  (∃ a c a' c' F, e = .returned (.tuple #[.agg #[.slice a cs.length c, .slice a' ts.length c'], .bool ok]) ∧ IsVs w' a cs.length c cs ∧ IsTs w' a' ts.length c' ts ∧ GM w.heap.size w'.heap.size w' a a' cs.length ts.length F) ∧ Below w.heap.size w w'
theorem madeG_none {w w' : World} {ok : Bool} (hB : Below w.heap.size w w') : MadeG w w' (.returned (.tuple #[.agg #[.slice none 0 0, .slice none 0 0], .bool ok])) ok [] [] :=
  ⟨⟨none, 0, none, 0, 0, rfl, ⟨rfl, Nat.le_refl _, by unfold maxLen; omega, fun _ => ⟨rfl, rfl⟩, fun x hx => (by cases hx)⟩, ⟨rfl, Nat.le_refl _, by unfold maxLen; omega, fun _ => ⟨rfl, rfl⟩, fun x hx => (by cases hx)⟩, .inl ⟨rfl, rfl⟩, .inl ⟨rfl, rfl⟩, fun x hx => (by cases hx)⟩, hB⟩
theorem lst_of_owns {w : World} {base n c : Nat} {e : TypeId} {a : Option Addr} {xs : List Value} (h : w.ownsRow base e 3 (.slice a n c) n xs) : Lst base w.heap.size w a (n * 3) := by
  have h' := h
  rcases h.2 with ⟨e, e0⟩ | ⟨g, cap, cur, e, hb, hh, hc1, hc2, hs, ht⟩
  · cases e; exact .inl ⟨rfl, by omega⟩
  · obtain ⟨g1, g2⟩ := h'.lt g (by rw [e]; rfl)
    cases e
    refine .inr ⟨g, rfl, g1, g2, g2, fun j hj => ⟨?_, by rw [Nat.zero_add]; exact h'.frozenAt j⟩⟩
    rw [Nat.zero_add, h'.cellAt j hj]
    have : j < xs.length := by rw [h'.1]; exact hj
    exact ⟨_, List.getElem?_eq_getElem this⟩
theorem gm_of {w : World} {base b2 pl tl c fb : Nat} {a a' : Option Addr} {xs : List Value} (h : w.ownsRow b2 33 3 (.slice a pl c) pl xs) (hb : base ≤ b2) (hF : Flat b2 w.heap.size w a' tl fb) (h1 : ∀ P, a = some P → P.block ≠ fb ∧ ∀ R, a' = some R → P.block ≠ R.block) : GM base w.heap.size w a a' pl tl fb :=
  ⟨lst_of_owns (owns_low h hb), hF.imp id fun ⟨R, e, k1, k2, k3, k4, k5, k6⟩ => ⟨R, e, by omega, k2, k3, k4, k5, by have := k6.1; omega, k6.2⟩, h1⟩
end Go.Proofs.Ytcgnmnbjgamedaa

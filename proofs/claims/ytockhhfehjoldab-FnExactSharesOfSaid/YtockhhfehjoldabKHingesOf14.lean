/-
Texts in one: what HingesOf stands on, part 14. Conditions: those of each.
-/
import Derived.Test.YtockhhfehjoldabKHingesOf13
import Derived.WalkKit

/-
Rows of three numbers: what the program divides a list into. Conditions: a list of whole rows at the head of a block.
-/
namespace Go.Proofs.Ytockhhfehjoldab
open Go Fk Go.RowKit
set_option linter.unusedVariables false
set_option maxRecDepth 8000

def rowVs (fb : Nat) (k : Nat) : List Value := (List.range k).map fun j => Value.slice (some ⟨fb, j * 3, none⟩) 3 3
theorem rowVs_snoc (fb k : Nat) : rowVs fb (k + 1) = rowVs fb k ++ [Value.slice (some ⟨fb, k * 3, none⟩) 3 3] := by
  unfold rowVs; rw [List.range_succ, List.map_append]; rfl
set_option maxHeartbeats 1000000 in
theorem rows_of (fb n fc : Nat) (w : World) (hn : n ≤ 1000000) (hc : n * 3 ≤ fc) :
    Calls Try.prog 71 #[.slice (some ⟨fb, 0, none⟩) (n * 3) fc, .int .i64 3] w fun e w' => ∃ v, e = .returned v ∧ w'.ownsRow w.heap.size 39 1 v n (rowVs fb n) ∧ Below w.heap.size w w' := by
  obtain ⟨i0, hi, hz0, hz1, hz2⟩ := info_parts infoS
  have hq' : ((n : Int) * 3).tdiv 3 = n := Int.mul_tdiv_cancel _ (by decide)
  have hq : ((n * 3 : Nat) : Int).tdiv 3 = n := by rw [Int.natCast_mul]; exact hq'
  have hmk : (Instr.makeSlice 22 (.int .i64 0) (.int .i64 n)).run Try.prog w = .ok (.slice (some ⟨w.heap.size, 0, none⟩) 0 n) (w.alloc (.cells (madeCells #[.slice none 0 0] n) 39)) := by
    have := run_make (P := Try.prog) w 22 39 i0 (.slice none 0 0) Try.underlying22 hi hz0 .i64 .i64 0 n (by omega) (by omega) (by rw [hz2]; omega) (by omega)
    rw [this, hz1]; simp; rfl
  have hst : (w.alloc (.cells (madeCells #[.slice none 0 0] n) 39)).ownsRow w.heap.size 39 1 (.slice (some ⟨w.heap.size, 0, none⟩) 0 n) 0 [] :=
    World.ownsRow_made (e := 39) (size := 1) w _ n (Nat.le_refl _) (by unfold maxLen; omega) (by unfold madeCells; simp)
  have HST := Lib.hid hst
  have HB0 := Lib.hid ((Below.refl w.heap.size w).alloc (Nat.le_refl _) (.cells (madeCells #[.slice none 0 0] n) 39))
  clear hst
  go_enter Try.func71, Try.ntmps71
  go_wp2
  generalize hCH : w.alloc (.cells (madeCells #[.slice none 0 0] n) 39) = W at *
  go_loopw [5, 6] (fun v i w' => ∃ k : Nat, k ≤ n ∧ i = .int .i64 ((k * 3 : Nat) : Int) ∧ Aside (w'.ownsRow w.heap.size 39 1 v k (rowVs fb k) ∧ Below w.heap.size w w')) (fun _ i _ => n * 3 - (intOf i).toNat)
  case atStart => exact ⟨0, Nat.zero_le _, rfl, HST.out, HB0.out⟩
  case round =>
    obtain ⟨k, hk, hik, hA⟩ := hrel
    subst hik
    obtain ⟨hown, hB⟩ := hA.out
    have HB := Lib.hid hB
    have HOWN := Lib.hid hown
    have hbz := Lib.hid hB.size
    clear hmk HST hq hq'
    by_cases hlt : k < n
    · have hk0 : (0 : Int) ≤ (k : Int) := by omega
      have hk1 : (k : Int) * 3 < (n : Int) * 3 := by omega
      clear hA hB hown
      go_wp2_with (at_builtin; refine wpList_append_own _ rfl _ _ 22 rfl w.heap.size 39 i0 (.slice none 0 0) 1 24 Try.underlying22 hi hz0 hz1 hz2 rfl (by decide) _ _ _ rfl (HOWN.out.alloc _) ⟨wr.heap.size, 0, none⟩ 1 1 [.slice (some ⟨fb, k * 3, none⟩) 3 3] rfl rfl ?c1 ?c2 ?c3 ?c4 ?c5 ?_)
      case c1 =>
        intro j u hj
        match j, hj with
        | 0, hj => simp at hj; subst hj; simp [Addr.add]
      case c2 => intro u hu; simp at hu; subst hu; rfl
      case c3 => unfold maxLen; omega
      case c4 => omega
      case c5 => have := hbz.out; simp; omega
      · intro v' w1 hown' hgrow _
        have hB1 : Below w.heap.size w (wr.alloc (.cells #[.slice (some ⟨fb, k * 3, none⟩) 3 3] 39)) := HB.out.alloc hbz.out _
        have HB1 := Lib.hid (hB1.grown hgrow hB1.size (fun k hk => (HOWN.out.lt k hk).1))
        have HO1 := Lib.hid hown'
        clear hown' hgrow hB1
        go_wp2
        go_roundw
        case rel => exact ⟨k + 1, by omega, by go_num, by rw [rowVs_snoc]; exact HO1.out, HB1.out⟩
        case measure => simp [intOf]; omega
    · obtain rfl : k = n := by omega
      clear hA hB hown
      go_wp2
      go_ret
      exact ⟨_, rfl, HOWN.out, HB.out⟩
end Go.Proofs.Ytockhhfehjoldab


/-
Triangles in the form in which callers get them: what the program makes. Conditions: arrays of three numbers that lie in memory.
-/
namespace Go.Proofs.Ytockhhfehjoldab
open Go Fk Go.RowKit
set_option linter.unusedVariables false
set_option maxRecDepth 8000

def flatV (ts : List (List Int)) : Nat → List Value
  | 0 => []
  | k + 1 => flatV ts k ++ [.int .i64 ((ts.getD k []).getD 0 0), .int .i64 ((ts.getD k []).getD 1 0), .int .i64 ((ts.getD k []).getD 2 0)]
theorem flatV_len (ts : List (List Int)) (k : Nat) : (flatV ts k).length = k * 3 := by
  induction k with
  | zero => rfl
  | succ k ih => unfold flatV; rw [List.length_append, ih]; simp; omega
theorem owns_below' {w w' : World} {base : Nat} {e : TypeId} {size : Nat} {v : Value} {n : Nat} {xs : List Value} (h : w.ownsRow base e size v n xs) (hB : Below w.heap.size w w') : w'.ownsRow base e size v n xs :=
  h.kept (row := none) ⟨hB.os, hB.tape, hB.output, hB.size, fun k hk _ => hB.block k hk⟩ (by cases v.ownBlock <;> simp)
end Go.Proofs.Ytockhhfehjoldab


/-
Meshes that the program makes: rows in one list, and where all lies. Conditions: none.
-/
namespace Go.Proofs.Ytockhhfehjoldab
open Go Fk Go.RowKit
set_option linter.unusedVariables false
set_option maxRecDepth 8000
theorem flatV_get (ts : List (List Int)) (k j i : Nat) (hj : j < k) (hi : i < 3) : (flatV ts k)[j * 3 + i]? = some (.int .i64 ((ts.getD j []).getD i 0)) := by
  induction k with
  | zero => omega
  | succ k ih =>
    unfold flatV
    by_cases h : j < k
    · rw [List.getElem?_append_left (by rw [flatV_len]; omega)]
      exact ih h
    · obtain rfl : j = k := by omega
      rw [List.getElem?_append_right (by rw [flatV_len]; omega), flatV_len]
      have : i = 0 ∨ i = 1 ∨ i = 2 := by omega
      rcases this with rfl | rfl | rfl
      · rw [show j * 3 + 0 - j * 3 = 0 by omega]; rfl
      · rw [show j * 3 + 1 - j * 3 = 1 by omega]; rfl
      · rw [show j * 3 + 2 - j * 3 = 2 by omega]; rfl
theorem rows_mesh {w : World} {lo fb fc tl : Nat} {v : Value} {ts : List (List Int)} (hv : w.ownsRow (fb + 1) 39 1 v tl (rowVs fb tl)) (hf : w.ownsRow lo 2 1 (.slice (some ⟨fb, 0, none⟩) (tl * 3) fc) (tl * 3) (flatV ts tl)) (hn : ts.length = tl) (h3 : ∀ j, j < tl → (ts.getD j []).length = 3) (hz : ∀ j, j < tl → ∀ z ∈ ts.getD j [], (Lit.int .i64 z).wf = true) :
    ∃ a c, v = .slice a tl c ∧ IsTs w a tl c ts ∧ Flat lo w.heap.size w a tl fb := by
  have hv' := hv
  obtain ⟨f1, f2⟩ := hf.lt fb rfl
  rcases hv.2 with ⟨rfl, hn0⟩ | ⟨g, cap, cur, rfl, hb, hh, hc1, hc2, hs, ht⟩
  · exact ⟨none, 0, by rw [hn0], ⟨hn, by omega, by unfold maxLen; omega, fun _ => ⟨hn0, rfl⟩, fun x hx => (by cases hx)⟩, .inl ⟨rfl, hn0⟩⟩
  · obtain ⟨g1, g2⟩ := hv'.lt g rfl
    have hrow : ∀ j, j < tl → w.cell? ⟨g, j, none⟩ = some (.slice (some ⟨fb, j * 3, none⟩) 3 3) := fun j hj => by
      rw [hv'.cellAt j (by omega)]; unfold rowVs; simp [hj]
    refine ⟨_, cap, rfl, ⟨hn, hc1, hc2, by simp, fun x hx i hi => ?_⟩, .inr ⟨g, rfl, by omega, g2, g2, by omega, fun j hj => ⟨3, hrow j hj⟩, f1, f2, f2, fun j hj => ?_⟩⟩
    · cases hx
      refine ⟨_, _, _, by rw [addr_add', Nat.zero_add]; exact hrow i hi, h3 i hi, Nat.le_refl _, by unfold maxLen; omega, hz i hi, by simp, fun y hy q hq => ?_⟩
      cases hy
      rw [addr_add', hf.cellAt _ (by omega), flatV_get ts tl i q hi hq]
    · refine ⟨⟨.int .i64 ((ts.getD (j / 3) []).getD (j % 3) 0), ?_⟩, by rw [Nat.zero_add]; exact hf.frozenAt j⟩
      rw [Nat.zero_add, hf.cellAt _ (by omega)]
      have := flatV_get ts tl (j / 3) (j % 3) (by omega) (by omega)
      rwa [show j / 3 * 3 + j % 3 = j by omega] at this
theorem PVf.more {n k : Nat} {xs : List Value} {F : Nat → C3} (h : PVf k xs F) (hl : xs.length = n * 3) (hk : k < n) {p q r : Nat} (hf : FV .f32 p (F k).1 ∧ FV .f32 q (F k).2.1 ∧ FV .f32 r (F k).2.2) :
    PVf (k + 1) (((xs.set (k * 3) (.float .f32 p)).set (k * 3 + 1) (.float .f32 q)).set (k * 3 + 2) (.float .f32 r)) F := fun j hj => by
  by_cases hjk : j = k
  · subst hjk
    refine ⟨p, q, r, ?_, ?_, ?_, hf⟩
    · rw [List.getElem?_set_ne (by omega), List.getElem?_set_ne (by omega), List.getElem?_set_self (by omega)]
    · rw [List.getElem?_set_ne (by omega), List.getElem?_set_self (by simp; omega)]
    · rw [List.getElem?_set_self (by simp; omega)]
  · obtain ⟨p', q', r', h1, h2, h3, h4⟩ := h j (by omega)
    refine ⟨p', q', r', ?_, ?_, ?_, h4⟩
    · rw [List.getElem?_set_ne (by omega), List.getElem?_set_ne (by omega), List.getElem?_set_ne (by omega)]; exact h1
    · rw [List.getElem?_set_ne (by omega), List.getElem?_set_ne (by omega), List.getElem?_set_ne (by omega)]; exact h2
    · rw [List.getElem?_set_ne (by omega), List.getElem?_set_ne (by omega), List.getElem?_set_ne (by omega)]; exact h3
/-- The answer of a function of the program that makes a mesh, or none. -/
def MadeG (w w' : World) (e : Ending) (ok : Bool) (cs : List C3) (ts : List (List Int)) : Prop :=
  (∃ a c a' c' F, e = .returned (.tuple #[.agg #[.slice a cs.length c, .slice a' ts.length c'], .bool ok]) ∧ IsVs w' a cs.length c cs ∧ IsTs w' a' ts.length c' ts ∧ GM w.heap.size w'.heap.size w' a a' cs.length ts.length F) ∧ Below w.heap.size w w'
theorem madeG_none {w w' : World} {ok : Bool} (hB : Below w.heap.size w w') : MadeG w w' (.returned (.tuple #[.agg #[.slice none 0 0, .slice none 0 0], .bool ok])) ok [] [] :=
  ⟨⟨none, 0, none, 0, 0, rfl, ⟨rfl, Nat.le_refl _, by unfold maxLen; omega, fun _ => ⟨rfl, rfl⟩, fun x hx => (by cases hx)⟩, ⟨rfl, Nat.le_refl _, by unfold maxLen; omega, fun _ => ⟨rfl, rfl⟩, fun x hx => (by cases hx)⟩, .inl ⟨rfl, rfl⟩, .inl ⟨rfl, rfl⟩, fun x hx => (by cases hx)⟩, hB⟩
theorem lst_of_owns {w : World} {base n c : Nat} {e : TypeId} {a : Option Addr} {xs : List Value} (h : w.ownsRow base e 3 (.slice a n c) n xs) : Lst base w.heap.size w a (n * 3) := by
  have h' := h
  rcases h.2 with ⟨e, e0⟩ | ⟨g, cap, cur, e, hb, hh, hc1, hc2, hs, ht⟩
  · cases e; exact .inl ⟨rfl, by omega⟩
  · obtain ⟨g1, g2⟩ := h'.lt g (by rw [e]; rfl)
    cases e
    refine .inr ⟨g, rfl, g1, g2, g2, fun j hj => ⟨?_, by rw [Nat.zero_add]; exact h'.frozenAt j⟩⟩
    rw [Nat.zero_add, h'.cellAt j hj]
    have : j < xs.length := by rw [h'.1]; exact hj
    exact ⟨_, List.getElem?_eq_getElem this⟩
theorem gm_of {w : World} {base b2 pl tl c fb : Nat} {a a' : Option Addr} {xs : List Value} (h : w.ownsRow b2 46 3 (.slice a pl c) pl xs) (hb : base ≤ b2) (hF : Flat b2 w.heap.size w a' tl fb) (h1 : ∀ P, a = some P → P.block ≠ fb ∧ ∀ R, a' = some R → P.block ≠ R.block) : GM base w.heap.size w a a' pl tl fb :=
  ⟨lst_of_owns (owns_low h hb), hF.imp id fun ⟨R, e, k1, k2, k3, k4, k5, k6⟩ => ⟨R, e, by omega, k2, k3, k4, k5, by have := k6.1; omega, k6.2⟩, h1⟩
end Go.Proofs.Ytockhhfehjoldab


/-
Where meshes that a function made stay. Conditions: none.
-/
namespace Go.Proofs.Ytockhhfehjoldab
open Go Fk Go.RowKit
set_option linter.unusedVariables false
set_option maxRecDepth 8000
theorem Own.wide {lo hi lo' hi' b o n : Nat} {w : World} (h : Own lo hi w b o n) (h1 : lo' ≤ lo) (h2 : hi ≤ hi') : Own lo' hi' w b o n := ⟨by have := h.1; omega, by have := h.2.1; omega, h.2.2⟩
theorem GM.wide {lo hi lo' hi' pl tl F : Nat} {w : World} {a a' : Option Addr} (h : GM lo hi w a a' pl tl F) (h1 : lo' ≤ lo) (h2 : hi ≤ hi') : GM lo' hi' w a a' pl tl F :=
  ⟨h.1.imp id fun ⟨b, e, ho⟩ => ⟨b, e, ho.wide h1 h2⟩, h.2.1.imp id fun ⟨R, e, k1, k2, k3, k4, k5, k6⟩ => ⟨R, e, by omega, by omega, k3, k4, k5, k6.wide h1 h2⟩, h.2.2⟩
theorem GM.mark {lo hi lo' hi' pl tl F : Nat} {w w' : World} {a a' : Option Addr} (h : GM lo hi w a a' pl tl F) (hM : Mark lo' hi' w w') (ho : hi' ≤ lo ∨ hi ≤ lo') : GM lo hi w' a a' pl tl F := by
  refine ⟨h.1.mark hM, h.2.1.mark hM (fun R hR i v hv => ?_), h.2.2⟩
  rcases h.2.1 with ⟨e, _⟩ | ⟨R', e, k1, k2, _⟩
  · rw [e] at hR; cases hR
  · rw [e] at hR; cases hR
    exact hM.cell (by show R' < lo' ∨ hi' ≤ R'; omega) hv
theorem GM.vs {lo hi lo' hi' pl tl F c : Nat} {w w' : World} {a a' : Option Addr} {cs : List C3} (h : GM lo hi w a a' pl tl F) (hI : IsVs w a pl c cs) (hM : Mark lo' hi' w w') (ho : hi' ≤ lo ∨ hi ≤ lo') : IsVs w' a pl c cs := vs_mark hI h.1 hM (by omega)
theorem GM.ts {lo hi lo' hi' pl tl F c : Nat} {w w' : World} {a a' : Option Addr} {ts : List (List Int)} (h : GM lo hi w a a' pl tl F) (hI : IsTs w a' tl c ts) (hM : Mark lo' hi' w w') (ho : hi' ≤ lo ∨ hi ≤ lo') : IsTs w' a' tl c ts := ts_mark hI h.2.1 hM (by omega)
end Go.Proofs.Ytockhhfehjoldab

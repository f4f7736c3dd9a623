/-
Texts in one: what HoldMesh stands on, part 30. Conditions: those of each.
-/
import Derived.Test.YtajglpkeojaelaaKHoldMesh29

/-
A body of its own: what the model makes. Conditions: it lies in memory, within the limits.
-/
namespace Go.Proofs.Ytajglpkeojaelaa
open Go Fk Go.RowKit
set_option linter.unusedVariables false
set_option maxRecDepth 8000

end Go.Proofs.Ytajglpkeojaelaa


/-
Places that are moved by shares of vectors: what the program makes. Conditions: both lists lie in memory and are of one length.
-/
namespace Go.Proofs.Ytajglpkeojaelaa
open Go Fk Go.RowKit
set_option linter.unusedVariables false
set_option maxRecDepth 8000

def movC (a b : C3) (d : Option Nat) : C3 := addC a (scaleC' b d)
/-- The first k places are moved, the others are zero. -/
def mkM (xs ys : List C3) (d : Option Nat) (n k : Nat) : List C3 := (List.range n).map fun j => if j < k then movC (xs.getD j c0) (ys.getD j c0) d else z3
theorem mkM_len (xs ys : List C3) (d : Option Nat) (n k : Nat) : (mkM xs ys d n k).length = n := by simp [mkM]
theorem mkM_zero (xs ys : List C3) (d : Option Nat) (n : Nat) : mkM xs ys d n 0 = List.replicate n z3 := by
  apply List.ext_getElem (by simp [mkM])
  intro i h1 h2
  simp [mkM]
theorem mkM_set {xs ys : List C3} {d : Option Nat} {n k : Nat} (hk : k < n) : (mkM xs ys d n k).set k (movC (xs.getD k c0) (ys.getD k c0) d) = mkM xs ys d n (k + 1) := by
  apply List.ext_getElem (by simp [mkM])
  intro i h1 h2
  simp only [mkM, List.getElem_set, List.getElem_map, List.getElem_range]
  by_cases hik : k = i
  · subst hik; simp
  · rw [if_neg hik]
    by_cases h : i < k
    · rw [if_pos h, if_pos (by omega)]
    · rw [if_neg h, if_neg (by omega)]
def put3 (w : World) (g k p q r : Nat) : World := ((w.setCell ⟨g, k * 3, none⟩ (.float .f32 p)).setCell ⟨g, k * 3 + 1, none⟩ (.float .f32 q)).setCell ⟨g, k * 3 + 2, none⟩ (.float .f32 r)
end Go.Proofs.Ytajglpkeojaelaa


/-
A bare body: what the model makes. Conditions: the mesh lies in memory.
-/
namespace Go.Proofs.Ytajglpkeojaelaa
open Go Fk Go.RowKit
set_option linter.unusedVariables false
set_option maxRecDepth 8000

def bareC (cs : List C3) (ts : List (List Int)) : Bc := ⟨cs, ts, [], List.replicate cs.length 0, some 0, some 0, z3⟩
def barO (cs : List C3) (ts : List (List Int)) : Bc := bif validB cs ts then bareC cs ts else ⟨[], [], [], [], some 0, some 0, z3⟩
def nilB : Bd := ⟨none, none, none, none, 0, 0, 0, 0, 0, 0, 0, 0, 0, 0, 0, 0, 0⟩
theorem fv_0 : FV .f32 0 (some 0) := ⟨by decide, by decide⟩
theorem fv3_0 : FV3 0 0 0 z3 := ⟨fv_0, fv_0, fv_0⟩
theorem nil_vs (w : World) : IsVs w none 0 0 [] := ⟨rfl, Nat.le_refl _, by unfold maxLen; omega, fun _ => ⟨rfl, rfl⟩, fun x hx => by cases hx⟩
theorem nil_ts (w : World) : IsTs w none 0 0 [] := ⟨rfl, Nat.le_refl _, by unfold maxLen; omega, fun _ => ⟨rfl, rfl⟩, fun x hx => by cases hx⟩
theorem nil_ss (w : World) : IsSs w none 0 0 [] := ⟨rfl, Nat.le_refl _, by unfold maxLen; omega, (fun s hs => by cases hs), fun _ => ⟨rfl, rfl⟩, fun x hx => by cases hx⟩
theorem nil_fs (w : World) : IsFs .f32 w none 0 0 [] := ⟨rfl, Nat.le_refl _, by unfold maxLen; omega, (fun s hs => by cases hs), fun _ => ⟨rfl, rfl⟩, fun x hx => by cases hx⟩
theorem nil_isb (w : World) : IsB w nilB ⟨[], [], [], [], some 0, some 0, z3⟩ := ⟨nil_vs w, nil_ts w, nil_ss w, nil_fs w, fv_0, fv_0, fv3_0⟩
theorem nil_lb (lo hi : Nat) (w : World) : LB lo hi w nilB := ⟨fun x hx => (by cases hx), fun x hx => (by cases hx), fun x hx => (by cases hx), fun x hx => (by cases hx)⟩
/-- A list of zeros that was made. -/
theorem zeros_fs (w : World) (n : Nat) (hn : n ≤ 1048576) : IsFs .f32 (w.alloc (.cells (madeCells #[.float .f32 0] n) 27)) (some ⟨w.heap.size, 0, none⟩) n n (List.replicate n 0) ∧ ∀ i, (w.alloc (.cells (madeCells #[.float .f32 0] n) 27)).frozen? ⟨w.heap.size, i, none⟩ = false := by
  refine ⟨⟨List.length_replicate .., Nat.le_refl _, by unfold maxLen; omega, fun z hz => ?_, fun e => (by cases e), fun x hx i hi => ?_⟩, fun i => by simp⟩
  · have := List.eq_of_mem_replicate hz
    subst this; decide
  · cases hx
    have hm : (madeCells #[.float .f32 0] n : Array Value)[i]? = some (.float .f32 0) := by
      unfold madeCells
      simp [hi, Nat.mod_one]
    rw [addr_add', Nat.zero_add]
    simp [hm, List.getD, hi]
theorem make_floats (W : World) (n : Nat) (hn : n ≤ 1048576) : (Instr.makeSlice 28 (.int .i64 n) (.int .i64 n)).run Try.prog W = .ok (.slice (some ⟨W.heap.size, 0, none⟩) n n) (W.alloc (.cells (madeCells #[.float .f32 0] n) 27)) := by
  obtain ⟨i0, hi, hz0, hz1, hz2⟩ := info_parts info32
  have := run_make (P := Try.prog) W 28 27 i0 (.float .f32 0) Try.underlying28 hi hz0 .i64 .i64 n n (by omega) (Int.le_refl _) (by rw [hz2]; omega) (by omega)
  rw [this, hz1]; simp; rfl
def BR (W : World) (c : Bc) (br : Nat) (w' : World) : Prop := ∃ (w1 : World) (B' : Bd), Below W.heap.size W w1 ∧ IsB w1 B' c ∧ LB W.heap.size w1.heap.size w1 B' ∧ w' = setL w1 br 0 B'.l
end Go.Proofs.Ytajglpkeojaelaa

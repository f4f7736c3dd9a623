/-
Texts in one: what PartsOf stands on, part 33. Conditions: those of each.
-/
import Derived.Test.YtnbfaedopjkgpaaGreatKPartsOf32

/-
Places that are moved by shares of vectors: what the program makes. Conditions: both lists lie in memory and are of one length.
-/
namespace Go.Proofs.YtnbfaedopjkgpaaGreat
open Go Fk Go.RowKit
set_option linter.unusedVariables false
set_option maxRecDepth 8000

def movC (a b : C3) (d : Option Nat) : C3 := addC a (scaleC' b d)
/-- The first k places are moved, the others are zero. -/
def mkM (xs ys : List C3) (d : Option Nat) (n k : Nat) : List C3 := (List.range n).map fun j => if j < k then movC (xs.getD j c0) (ys.getD j c0) d else z3
theorem mkM_len (xs ys : List C3) (d : Option Nat) (n k : Nat) : (mkM xs ys d n k).length = n := by simp [mkM]
theorem mkM_zero (xs ys : List C3) (d : Option Nat) (n : Nat) : mkM xs ys d n 0 = List.replicate n z3 := by
  apply List.ext_getElem (by simp [mkM])
  intro i h1 h2
  simp [mkM]
theorem mkM_set {xs ys : List C3} {d : Option Nat} {n k : Nat} (hk : k < n) : (mkM xs ys d n k).set k (movC (xs.getD k c0) (ys.getD k c0) d) = mkM xs ys d n (k + 1) := by
  apply List.ext_getElem (by simp [mkM])
  intro i h1 h2
  simp only [mkM, List.getElem_set, List.getElem_map, List.getElem_range]
  by_cases hik : k = i
  · subst hik; simp
  · rw [if_neg hik]
    by_cases h : i < k
    · rw [if_pos h, if_pos (by omega)]
    · rw [if_neg h, if_neg (by omega)]
def put3 (w : World) (g k p q r : Nat) : World := ((w.setCell ⟨g, k * 3, none⟩ (.float .f32 p)).setCell ⟨g, k * 3 + 1, none⟩ (.float .f32 q)).setCell ⟨g, k * 3 + 2, none⟩ (.float .f32 r)
end Go.Proofs.YtnbfaedopjkgpaaGreat


/-
A bare body: what the model makes. Conditions: the mesh lies in memory.
-/
namespace Go.Proofs.YtnbfaedopjkgpaaGreat
open Go Fk Go.RowKit
set_option linter.unusedVariables false
set_option maxRecDepth 8000

def bareC (cs : List C3) (ts : List (List Int)) : Bc := ⟨cs, ts, [], List.replicate cs.length 0, some 0, some 0, z3⟩
def barO (cs : List C3) (ts : List (List Int)) : Bc := bif validB cs ts then bareC cs ts else ⟨[], [], [], [], some 0, some 0, z3⟩
def nilB : Bd := ⟨none, none, none, none, 0, 0, 0, 0, 0, 0, 0, 0, 0, 0, 0, 0, 0⟩
theorem fv_0 : FV .f32 0 (some 0) := ⟨by decide, by decide⟩
theorem fv3_0 : FV3 0 0 0 z3 := ⟨fv_0, fv_0, fv_0⟩
theorem nil_vs (w : World) : IsVs w none 0 0 [] := ⟨rfl, Nat.le_refl _, by unfold maxLen; omega, fun _ => ⟨rfl, rfl⟩, fun x hx => by cases hx⟩
theorem nil_ts (w : World) : IsTs w none 0 0 [] := ⟨rfl, Nat.le_refl _, by unfold maxLen; omega, fun _ => ⟨rfl, rfl⟩, fun x hx => by cases hx⟩
theorem nil_ss (w : World) : IsSs w none 0 0 [] := ⟨rfl, Nat.le_refl _, by unfold maxLen; omega, (fun s hs => by cases hs), fun _ => ⟨rfl, rfl⟩, fun x hx => by cases hx⟩
theorem nil_fs (w : World) : IsFs .f32 w none 0 0 [] := ⟨rfl, Nat.le_refl _, by unfold maxLen; omega, (fun s hs => by cases hs), fun _ => ⟨rfl, rfl⟩, fun x hx => by cases hx⟩
theorem nil_isb (w : World) : IsB w nilB ⟨[], [], [], [], some 0, some 0, z3⟩ := ⟨nil_vs w, nil_ts w, nil_ss w, nil_fs w, fv_0, fv_0, fv3_0⟩
theorem nil_lb (lo hi : Nat) (w : World) : LB lo hi w nilB := ⟨fun x hx => (by cases hx), fun x hx => (by cases hx), fun x hx => (by cases hx), fun x hx => (by cases hx)⟩
/-- A list of zeros that was made. -/
theorem zeros_fs (w : World) (n : Nat) (hn : n ≤ 1048576) : IsFs .f32 (w.alloc (.cells (madeCells #[.float .f32 0] n) 27)) (some ⟨w.heap.size, 0, none⟩) n n (List.replicate n 0) ∧ ∀ i, (w.alloc (.cells (madeCells #[.float .f32 0] n) 27)).frozen? ⟨w.heap.size, i, none⟩ = false := by
  refine ⟨⟨List.length_replicate .., Nat.le_refl _, by unfold maxLen; omega, fun z hz => ?_, fun e => (by cases e), fun x hx i hi => ?_⟩, fun i => by simp⟩
  · have := List.eq_of_mem_replicate hz
    subst this; decide
  · cases hx
    have hm : (madeCells #[.float .f32 0] n : Array Value)[i]? = some (.float .f32 0) := by
      unfold madeCells
      simp [hi, Nat.mod_one]
    rw [addr_add', Nat.zero_add]
    simp [hm, List.getD, hi]
theorem make_floats (W : World) (n : Nat) (hn : n ≤ 1048576) : (Instr.makeSlice 28 (.int .i64 n) (.int .i64 n)).run Tryz.prog W = .ok (.slice (some ⟨W.heap.size, 0, none⟩) n n) (W.alloc (.cells (madeCells #[.float .f32 0] n) 27)) := by
  obtain ⟨i0, hi, hz0, hz1, hz2⟩ := info_parts info32
  have := run_make (P := Tryz.prog) W 28 27 i0 (.float .f32 0) Tryz.underlying28 hi hz0 .i64 .i64 n n (by omega) (Int.le_refl _) (by rw [hz2]; omega) (by omega)
  rw [this, hz1]; simp; rfl
def BR (W : World) (c : Bc) (br : Nat) (w' : World) : Prop := ∃ (w1 : World) (B' : Bd), Below W.heap.size W w1 ∧ IsB w1 B' c ∧ LB W.heap.size w1.heap.size w1 B' ∧ w' = setL w1 br 0 B'.l
end Go.Proofs.YtnbfaedopjkgpaaGreat


/-
A bare body: what the program and its model return. Conditions: the mesh lies in memory.
-/
namespace Go.Proofs.YtnbfaedopjkgpaaGreat
open Go Fk Go.RowKit
set_option linter.unusedVariables false
set_option maxRecDepth 8000

theorem nil_gb (lo hi F : Nat) (w : World) : GB lo hi w nilB F :=
  ⟨⟨.inl ⟨rfl, rfl⟩, .inl ⟨rfl, rfl⟩, fun P e => by cases e⟩, .inl ⟨rfl, rfl⟩, .inl ⟨rfl, rfl⟩, fun X e => (by cases e), fun X e => (by cases e)⟩
theorem bar_len (cs : List C3) (ts : List (List Int)) : (barO cs ts).cs.length ≤ 64 ∧ (barO cs ts).ts.length ≤ 128 ∧ (barO cs ts).ss.length = 0 ∧ (barO cs ts).zs.length ≤ 64 ∧ ∀ k, k < (barO cs ts).ts.length → ((barO cs ts).ts.getD k []).length ≤ 1048576 := by
  unfold barO
  cases hv : validB cs ts
  · exact ⟨Nat.zero_le _, Nat.zero_le _, rfl, Nat.zero_le _, fun k hk => absurd hk (Nat.not_lt_zero k)⟩
  · obtain ⟨h1, h2⟩ := valid_pl hv
    refine ⟨h1, h2, rfl, ?_, fun k hk => ?_⟩
    · show (List.replicate cs.length 0).length ≤ 64
      rw [List.length_replicate]; exact h1
    · show (ts.getD k []).length ≤ 1048576
      have := rows3h hv k hk
      omega
theorem GB.wide {lo hi lo' hi' F : Nat} {w : World} {B : Bd} (h : GB lo hi w B F) (h1 : lo' ≤ lo) (h2 : hi ≤ hi') : GB lo' hi' w B F :=
  ⟨h.1.widen h1 h2, lst_widen h.2.1 h1 h2, lst_widen h.2.2.1 h1 h2, h.2.2.2⟩
/-- The bare body before it is copied. -/
def bareB (pa ta : Option Addr) (pl pc tl tc g : Nat) : Bd := ⟨pa, ta, none, some ⟨g, 0, none⟩, pl, pc, tl, tc, 0, 0, pl, pl, 0, 0, 0, 0, 0⟩
end Go.Proofs.YtnbfaedopjkgpaaGreat


/-
Copies of motions, and that they are the same: what the law's own functions return. Conditions: at most 2^20 of each.
-/
namespace Go.Proofs.YtnbfaedopjkgpaaGreat
open Go Fk Go.RowKit
set_option linter.unusedVariables false
set_option maxRecDepth 8000

/-- A motion's value. -/
abbrev mv (B : Bd) (va : Option Addr) (vl vc : Nat) : Value := .agg #[.slice B.pa B.pl B.pc, .slice B.ta B.tl B.tc, .slice B.sa B.sl B.sc, .float .f32 B.film, .float .f32 B.bend, .slice B.wa B.wl B.wc, .float .f32 B.x, .float .f32 B.y, .float .f32 B.z, .slice va vl vc]
abbrev ml (B : Bd) (va : Option Addr) (vl vc : Nat) : List Value := [.slice B.pa B.pl B.pc, .slice B.ta B.tl B.tc, .slice B.sa B.sl B.sc, .float .f32 B.film, .float .f32 B.bend, .slice B.wa B.wl B.wc, .float .f32 B.x, .float .f32 B.y, .float .f32 B.z, .slice va vl vc]
abbrev BoxM (B : Bd) (va : Option Addr) (vl vc : Nat) (t : TypeId) : Obj := .cells #[.slice B.pa B.pl B.pc, .slice B.ta B.tl B.tc, .slice B.sa B.sl B.sc, .float .f32 B.film, .float .f32 B.bend, .slice B.wa B.wl B.wc, .float .f32 B.x, .float .f32 B.y, .float .f32 B.z, .slice va vl vc] t
abbrev Z10 : List Value := [.slice none 0 0, .slice none 0 0, .slice none 0 0, .float .f32 0, .float .f32 0, .slice none 0 0, .float .f32 0, .float .f32 0, .float .f32 0, .slice none 0 0]
theorem own_vs {w : World} {lo b n c : Nat} {cs : List C3} (h : IsVs w (some ⟨b, 0, none⟩) n c cs) (h1 : lo ≤ b) (h2 : b < w.heap.size) (hf : ∀ i, w.frozen? ⟨b, i, none⟩ = false) : Own lo w.heap.size w b 0 (n * 3) :=
  ⟨h1, h2, h2, fun j hj => ⟨by obtain ⟨v, hv⟩ := cells_of h j hj; exact ⟨v, hv⟩, hf _⟩⟩
end Go.Proofs.YtnbfaedopjkgpaaGreat

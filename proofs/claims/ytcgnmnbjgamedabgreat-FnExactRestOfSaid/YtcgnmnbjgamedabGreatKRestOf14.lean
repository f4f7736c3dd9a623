/-
Texts in one: what RestOf stands on, part 14. Conditions: those of each.
-/
import Derived.Test.YtcgnmnbjgamedabGreatKRestOf13
import Derived.WalkKit

/-
The copy of a body that the law makes, and that its lists may be written. Conditions: at most 2^20 of each.
-/
namespace Go.Proofs.YtcgnmnbjgamedabGreat
open Go Fk Go.RowKit
set_option linter.unusedVariables false
set_option maxRecDepth 8000

/-- While a copy is filled: the argument's box, the box that is filled, and the result's box. -/
structure Tb (w : World) (l lo lr : List Value) (w1 : World) : Prop where
  arg : At w1 w.heap.size l
  out : At w1 (w.heap.size + 1 + 1) lo
  res : At w1 (w.heap.size + 1) lr
  fo : ∀ i, w1.frozen? ⟨w.heap.size + 1 + 1, i, none⟩ = false
  fr : ∀ i, w1.frozen? ⟨w.heap.size + 1, i, none⟩ = false
  bel : Below w.heap.size w w1
  big : w.heap.size + 1 + 1 < w1.heap.size
theorem Tb.start {w : World} {l z : List Value} {t t' : TypeId} : Tb w l z z (((w.alloc (.cells l.toArray t)).alloc (.cells z.toArray t')).alloc (.cells z.toArray t')) := by
  refine ⟨At.new.alloc.alloc, ?_, ?_, fun i => by go_simp, fun i => by go_simp, (((Below.refl _ _).alloc (Nat.le_refl _) _).alloc (by simp) _).alloc (by simp <;> omega) _, by simp⟩
  · have := At.new (w := (w.alloc (.cells l.toArray t)).alloc (.cells z.toArray t')) (vs := z) (t := t')
    simpa using this
  · have := (At.new (w := w.alloc (.cells l.toArray t)) (vs := z) (t := t')).alloc (o := .cells z.toArray t')
    simpa using this
theorem Tb.call {w w1 w2 : World} {l lo lr : List Value} (h : Tb w l lo lr w1) (hB : Below w1.heap.size w1 w2) : Tb w l lo lr w2 :=
  have hb := h.big
  ⟨h.arg.below hB, h.out.below hB, h.res.below hB, fun i => by rw [hB.frozen (p := ⟨w.heap.size + 1 + 1, i, none⟩) hb]; exact h.fo i,
    fun i => by rw [hB.frozen (p := ⟨w.heap.size + 1, i, none⟩) (by show w.heap.size + 1 < _; omega)]; exact h.fr i, h.bel.trans (hB.mono h.bel.size), Nat.lt_of_lt_of_le hb hB.size⟩
theorem at_setL_far {w : World} {b g o : Nat} {l vs : List Value} (h : At w b l) (hne : g ≠ b) : At (setL w g o vs) b l := fun i v hi => by rw [setL_far g b i hne]; exact h i v hi
theorem Tb.put {w w1 : World} {l lo lr vs : List Value} (h : Tb w l lo lr w1) (o : Nat) (hl : o + vs.length ≤ lo.length) : Tb w l (lo.take o ++ vs ++ lo.drop (o + vs.length)) lr (setL w1 (w.heap.size + 1 + 1) o vs) :=
  ⟨at_setL_far h.arg (by omega), at_setL h.out hl, at_setL_far h.res (by omega), fun i => by rw [setL_frozen]; exact h.fo i, fun i => by rw [setL_frozen]; exact h.fr i,
    setL_below _ (by omega) _ _ _ h.bel, by rw [setL_size]; exact h.big⟩
theorem Tb.fin {w w1 : World} {l lo lr vs' : List Value} (h : Tb w l lo lr w1) (hl : vs'.length = lr.length) : At (setL w1 (w.heap.size + 1) 0 vs') (w.heap.size + 1) vs' ∧ Below w.heap.size w (setL w1 (w.heap.size + 1) 0 vs') := by
  refine ⟨?_, setL_below _ (by omega) _ _ _ h.bel⟩
  have := at_setL (vs := vs') (o := 0) h.res (by omega)
  simpa [hl] using this
/-- All blocks but the two that are filled. -/
def Sx (w : World) (b : Nat) : Prop := b ≠ w.heap.size + 1 + 1 ∧ b ≠ w.heap.size + 1
theorem Sx.out {w : World} : ¬ Sx w (w.heap.size + 1 + 1) := fun h => h.1 rfl
theorem Sx.res {w : World} : ¬ Sx w (w.heap.size + 1) := fun h => h.2 rfl
theorem Sx.new {w : World} {lo hi : Nat} (h : w.heap.size + 1 + 1 < lo) : ∀ b, lo ≤ b → b < hi → Sx w b := fun b h1 _ => ⟨by omega, by omega⟩

theorem Own.agree {S : Nat → Prop} {W w : World} {lo hi b o n : Nat} (h : Own lo hi W b o n) (hS : ∀ b, lo ≤ b → b < hi → S b) (hA : Agree S W w) : Own lo hi w b o n :=
  ⟨h.1, h.2.1, Nat.lt_of_lt_of_le h.2.2.1 hA.size, fun j hj => by
    obtain ⟨⟨v, hv⟩, hf⟩ := h.2.2.2 j hj
    have hs := hS b h.1 h.2.1
    exact ⟨⟨v, hA.cell _ _ _ hs hv⟩, by rw [hA.frozen _ _ hs h.2.2.1]; exact hf⟩⟩
theorem OwnM.agree {S : Nat → Prop} {W w : World} {lo hi b b' pl tl : Nat} {ts : List (List Int)} (h : OwnM lo hi W b 0 b' 0 pl tl ts) (h1 : lo ≤ b') (h2 : b' < hi) (hS : ∀ b, lo ≤ b → b < hi → S b) (hA : Agree S W w) : OwnM lo hi w b 0 b' 0 pl tl ts := by
  obtain ⟨k1, k2, k3, k4⟩ := h
  refine ⟨k1.agree hS hA, fun j hj => ?_, k3, Nat.lt_of_lt_of_le k4 hA.size⟩
  obtain ⟨G, O, c, e1, e2, e3⟩ := k2 j hj
  exact ⟨G, O, c, e1, hA.cell _ _ _ (hS b' h1 h2) e2, e3.agree hS hA⟩
theorem Own.widen {lo hi lo' hi' : Nat} {w : World} {b o n : Nat} (h : Own lo hi w b o n) (h1 : lo' ≤ lo) (h2 : hi ≤ hi') : Own lo' hi' w b o n :=
  ⟨Nat.le_trans h1 h.1, Nat.lt_of_lt_of_le h.2.1 h2, h.2.2⟩
theorem OwnM.widen {lo hi lo' hi' : Nat} {w : World} {b b' pl tl : Nat} {ts : List (List Int)} (h : OwnM lo hi w b 0 b' 0 pl tl ts) (h1 : lo' ≤ lo) (h2 : hi ≤ hi') : OwnM lo' hi' w b 0 b' 0 pl tl ts := by
  obtain ⟨k1, k2, k3, k4⟩ := h
  refine ⟨k1.widen h1 h2, fun j hj => ?_, k3, k4⟩
  obtain ⟨G, O, c, e1, e2, e3⟩ := k2 j hj
  exact ⟨G, O, c, e1, e2, e3.widen h1 h2⟩
/-- A body's lists that may be written. -/
def OwnB (lo hi : Nat) (w : World) (B : Bd) (ts : List (List Int)) : Prop :=
  ∃ P R S G, B.pa = some ⟨P, 0, none⟩ ∧ B.ta = some ⟨R, 0, none⟩ ∧ B.sa = some ⟨S, 0, none⟩ ∧ B.wa = some ⟨G, 0, none⟩ ∧ OwnM lo hi w P 0 R 0 B.pl B.tl ts ∧ (lo ≤ R ∧ R < hi) ∧ Own lo hi w S 0 (B.sl * 4) ∧ Own lo hi w G 0 B.wl
theorem OwnB.agree {S : Nat → Prop} {W w : World} {lo hi : Nat} {B : Bd} {ts : List (List Int)} (h : OwnB lo hi W B ts) (hS : ∀ b, lo ≤ b → b < hi → S b) (hA : Agree S W w) : OwnB lo hi w B ts := by
  obtain ⟨P, R, T, G, e1, e2, e3, e4, m, r, s, g⟩ := h
  exact ⟨P, R, T, G, e1, e2, e3, e4, m.agree r.1 r.2 hS hA, r, s.agree hS hA, g.agree hS hA⟩
theorem OwnB.wide {lo hi lo' hi' : Nat} {w : World} {B : Bd} {ts : List (List Int)} (h : OwnB lo hi w B ts) (h1 : lo' ≤ lo) (h2 : hi ≤ hi') : OwnB lo' hi' w B ts := by
  obtain ⟨P, R, T, G, e1, e2, e3, e4, m, r, s, g⟩ := h
  exact ⟨P, R, T, G, e1, e2, e3, e4, m.widen h1 h2, ⟨by omega, by omega⟩, s.widen h1 h2, g.widen h1 h2⟩
theorem OwnB.below {W w : World} {lo hi : Nat} {B : Bd} {ts : List (List Int)} (h : OwnB lo hi W B ts) (hB : Below W.heap.size W w) : OwnB lo hi w B ts :=
  h.agree (S := fun _ => True) (fun _ _ _ => trivial) (Agree.of_below hB)
theorem OwnB.lb {w : World} {lo hi : Nat} {B : Bd} {ts : List (List Int)} (h : OwnB lo hi w B ts) : LB lo hi w B := by
  obtain ⟨P, R, T, G, e1, e2, e3, e4, m, r, s, g⟩ := h
  refine ⟨fun x hx => ?_, fun x hx => ?_, fun x hx => ?_, fun x hx => ?_⟩
  · rw [e1] at hx; cases hx; exact ⟨P, rfl, m.1.1, m.1.2.1⟩
  · rw [e2] at hx; cases hx
    refine ⟨R, rfl, r.1, r.2, fun i hi => ?_⟩
    obtain ⟨G', O, c, _, k2, k3⟩ := m.2.1 i hi
    rw [Nat.zero_add] at k2
    exact ⟨_, _, c, k2, fun y hy => by cases hy; exact ⟨G', O, rfl, k3.1, k3.2.1⟩⟩
  · rw [e3] at hx; cases hx; exact ⟨T, rfl, s.1, s.2.1⟩
  · rw [e4] at hx; cases hx; exact ⟨G, rfl, g.1, g.2.1⟩
end Go.Proofs.YtcgnmnbjgamedabGreat

/-
Rows of three numbers: what the program divides a list into. Conditions: a list of whole rows at the head of a block.
-/
namespace Go.Proofs.YtcgnmnbjgamedabGreat
open Go Fk Go.RowKit
set_option linter.unusedVariables false
set_option maxRecDepth 8000

end Go.Proofs.YtcgnmnbjgamedabGreat

/-
Triangles in the form in which callers get them: what the program makes. Conditions: arrays of three numbers that lie in memory.
-/
namespace Go.Proofs.YtcgnmnbjgamedabGreat
open Go Fk Go.RowKit
set_option linter.unusedVariables false
set_option maxRecDepth 8000

def flatV (ts : List (List Int)) : Nat → List Value
  | 0 => []
  | k + 1 => flatV ts k ++ [.int .i64 ((ts.getD k []).getD 0 0), .int .i64 ((ts.getD k []).getD 1 0), .int .i64 ((ts.getD k []).getD 2 0)]
theorem flatV_len (ts : List (List Int)) (k : Nat) : (flatV ts k).length = k * 3 := by
  induction k with
  | zero => rfl
  | succ k ih => unfold flatV; rw [List.length_append, ih]; simp; omega
end Go.Proofs.YtcgnmnbjgamedabGreat

/-
Meshes that the program makes: rows in one list, and where all lies. Conditions: none.
-/
namespace Go.Proofs.YtcgnmnbjgamedabGreat
open Go Fk Go.RowKit
set_option linter.unusedVariables false
set_option maxRecDepth 8000
theorem flatV_get (ts : List (List Int)) (k j i : Nat) (hj : j < k) (hi : i < 3) : (flatV ts k)[j * 3 + i]? = some (.int .i64 ((ts.getD j []).getD i 0)) := by
  induction k with
  | zero => omega
  | succ k ih =>
    unfold flatV
    by_cases h : j < k
    · rw [List.getElem?_append_left (by rw [flatV_len]; omega)]
      exact ih h
    · obtain rfl : j = k := by omega
      rw [List.getElem?_append_right (by rw [flatV_len]; omega), flatV_len]
      have : i = 0 ∨ i = 1 ∨ i = 2 := by omega
      rcases this with rfl | rfl | rfl
      · rw [show j * 3 + 0 - j * 3 = 0 by omega]; rfl
      · rw [show j * 3 + 1 - j * 3 = 1 by omega]; rfl
      · rw [show j * 3 + 2 - j * 3 = 2 by omega]; rfl
theorem PVf.more {n k : Nat} {xs : List Value} {F : Nat → C3} (h : PVf k xs F) (hl : xs.length = n * 3) (hk : k < n) {p q r : Nat} (hf : FV .f32 p (F k).1 ∧ FV .f32 q (F k).2.1 ∧ FV .f32 r (F k).2.2) :
    PVf (k + 1) (((xs.set (k * 3) (.float .f32 p)).set (k * 3 + 1) (.float .f32 q)).set (k * 3 + 2) (.float .f32 r)) F := fun j hj => by
  by_cases hjk : j = k
  · subst hjk
    refine ⟨p, q, r, ?_, ?_, ?_, hf⟩
    · rw [List.getElem?_set_ne (by omega), List.getElem?_set_ne (by omega), List.getElem?_set_self (by omega)]
    · rw [List.getElem?_set_ne (by omega), List.getElem?_set_self (by simp; omega)]
    · rw [List.getElem?_set_self (by simp; omega)]
  · obtain ⟨p', q', r', h1, h2, h3, h4⟩ := h j (by omega)
    refine ⟨p', q', r', ?_, ?_, ?_, h4⟩
    · rw [List.getElem?_set_ne (by omega), List.getElem?_set_ne (by omega), List.getElem?_set_ne (by omega)]; exact h1
    · rw [List.getElem?_set_ne (by omega), List.getElem?_set_ne (by omega), List.getElem?_set_ne (by omega)]; exact h2
    · rw [List.getElem?_set_ne (by omega), List.getElem?_set_ne (by omega), List.getElem?_set_ne (by omega)]; exact h3
end Go.Proofs.YtcgnmnbjgamedabGreat

/-
Where meshes that a function made stay. Conditions: none.
-/
namespace Go.Proofs.YtcgnmnbjgamedabGreat
open Go Fk Go.RowKit
set_option linter.unusedVariables false
set_option maxRecDepth 8000
theorem Own.wide {lo hi lo' hi' b o n : Nat} {w : World} (h : Own lo hi w b o n) (h1 : lo' ≤ lo) (h2 : hi ≤ hi') : Own lo' hi' w b o n := ⟨by have := h.1; omega, by have := h.2.1; omega, h.2.2⟩
theorem GM.wide {lo hi lo' hi' pl tl F : Nat} {w : World} {a a' : Option Addr} (h : GM lo hi w a a' pl tl F) (h1 : lo' ≤ lo) (h2 : hi ≤ hi') : GM lo' hi' w a a' pl tl F :=
  ⟨h.1.imp id fun ⟨b, e, ho⟩ => ⟨b, e, ho.wide h1 h2⟩, h.2.1.imp id fun ⟨R, e, k1, k2, k3, k4, k5, k6⟩ => ⟨R, e, by omega, by omega, k3, k4, k5, k6.wide h1 h2⟩, h.2.2⟩
theorem GM.mark {lo hi lo' hi' pl tl F : Nat} {w w' : World} {a a' : Option Addr} (h : GM lo hi w a a' pl tl F) (hM : Mark lo' hi' w w') (ho : hi' ≤ lo ∨ hi ≤ lo') : GM lo hi w' a a' pl tl F := by
  refine ⟨h.1.mark hM, h.2.1.mark hM (fun R hR i v hv => ?_), h.2.2⟩
  rcases h.2.1 with ⟨e, _⟩ | ⟨R', e, k1, k2, _⟩
  · rw [e] at hR; cases hR
  · rw [e] at hR; cases hR
    exact hM.cell (by show R' < lo' ∨ hi' ≤ R'; omega) hv
theorem GM.vs {lo hi lo' hi' pl tl F c : Nat} {w w' : World} {a a' : Option Addr} {cs : List C3} (h : GM lo hi w a a' pl tl F) (hI : IsVs w a pl c cs) (hM : Mark lo' hi' w w') (ho : hi' ≤ lo ∨ hi ≤ lo') : IsVs w' a pl c cs := vs_mark hI h.1 hM (by omega)
theorem GM.ts {lo hi lo' hi' pl tl F c : Nat} {w w' : World} {a a' : Option Addr} {ts : List (List Int)} (h : GM lo hi w a a' pl tl F) (hI : IsTs w a' tl c ts) (hM : Mark lo' hi' w w') (ho : hi' ≤ lo ∨ hi ≤ lo') : IsTs w' a' tl c ts := ts_mark hI h.2.1 hM (by omega)
end Go.Proofs.YtcgnmnbjgamedabGreat

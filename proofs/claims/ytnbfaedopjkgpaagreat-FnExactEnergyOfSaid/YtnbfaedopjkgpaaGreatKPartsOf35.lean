/-
Texts in one: what PartsOf stands on, part 35. Conditions: those of each.
-/
import Derived.Test.YtnbfaedopjkgpaaGreatKPartsOf34

/-
Places that are moved one by one, the rest of the body as it was. Conditions: the body lies in blocks of its own.
-/
namespace Go.Proofs.YtnbfaedopjkgpaaGreat
open Go Fk Go.RowKit
set_option linter.unusedVariables false
set_option maxRecDepth 8000

/-- The first k places are moved, the others are as they were. -/
def mkW (xs ys : List C3) (d : Option Nat) (n k : Nat) : List C3 := (List.range n).map fun j => if j < k then movC (xs.getD j c0) (ys.getD j c0) d else xs.getD j c0
theorem mkW_len (xs ys : List C3) (d : Option Nat) (n k : Nat) : (mkW xs ys d n k).length = n := by simp [mkW]
theorem mkW_zero {xs ys : List C3} {d : Option Nat} {n : Nat} (h : xs.length = n) : mkW xs ys d n 0 = xs := by
  subst h
  apply List.ext_getElem (by simp [mkW])
  intro i h1 h2
  simp [mkW, List.getD, h2]
theorem mkW_full (xs ys : List C3) (d : Option Nat) (n : Nat) : mkW xs ys d n n = mkM xs ys d n n := by
  apply List.ext_getElem (by simp [mkW, mkM])
  intro i h1 h2
  have hi : i < n := by simpa [mkW] using h1
  simp [mkW, mkM, hi]
theorem mkW_set {xs ys : List C3} {d : Option Nat} {n k : Nat} (hk : k < n) : (mkW xs ys d n k).set k (movC (xs.getD k c0) (ys.getD k c0) d) = mkW xs ys d n (k + 1) := by
  apply List.ext_getElem (by simp [mkW])
  intro i h1 h2
  simp only [mkW, List.getElem_set, List.getElem_map, List.getElem_range]
  by_cases hik : k = i
  · subst hik; simp
  · rw [if_neg hik]
    by_cases h : i < k
    · rw [if_pos h, if_pos (by omega)]
    · rw [if_neg h, if_neg (by omega)]
theorem LTs.and {S T : Nat → Prop} {w : World} {a : Option Addr} {n : Nat} (h : LTs S w a n) (k : LTs T w a n) : LTs (fun b => S b ∧ T b) w a n := fun x hx => by
  obtain ⟨g, e, h1, h2⟩ := h x hx
  obtain ⟨g', e', k1, k2⟩ := k x hx
  subst e
  cases e'
  refine ⟨g, rfl, ⟨h1, k1⟩, fun i hi => ?_⟩
  obtain ⟨b, m, c, hc, hb⟩ := h2 i hi
  obtain ⟨b', m', c', hc', hb'⟩ := k2 i hi
  rw [hc] at hc'
  cases hc'
  refine ⟨b, m, c, hc, fun y hy => ?_⟩
  obtain ⟨q, o, e, z⟩ := hb y hy
  obtain ⟨q', o', e', z'⟩ := hb' y hy
  subst e
  cases e'
  exact ⟨q, o, rfl, z, z'⟩
theorem lts_of_lt {lo hi : Nat} {w : World} {a : Option Addr} {n : Nat} (h : LT lo hi w a n) : LTs (fun b => lo ≤ b ∧ b < hi) w a n := fun x hx => by
  obtain ⟨g, e, h1, h2, h3⟩ := h x hx
  refine ⟨g, e, ⟨h1, h2⟩, fun i hi => ?_⟩
  obtain ⟨b, m, c, hc, hb⟩ := h3 i hi
  refine ⟨b, m, c, hc, fun y hy => ?_⟩
  obtain ⟨q, o, e, z1, z2⟩ := hb y hy
  exact ⟨q, o, e, z1, z2⟩
theorem lt_of_lts {lo hi : Nat} {w : World} {a : Option Addr} {n : Nat} (h : LTs (fun b => lo ≤ b ∧ b < hi) w a n) : LT lo hi w a n := fun x hx => by
  obtain ⟨g, e, ⟨h1, h2⟩, h3⟩ := h x hx
  refine ⟨g, e, h1, h2, fun i hi => ?_⟩
  obtain ⟨b, m, c, hc, hb⟩ := h3 i hi
  refine ⟨b, m, c, hc, fun y hy => ?_⟩
  obtain ⟨q, o, e, z1, z2⟩ := hb y hy
  exact ⟨q, o, e, z1, z2⟩
/-- A body whose places lie in block g, its other lists in blocks that are told. -/
def PZ (S : Nat → Prop) (w : World) (g : Nat) (B : Bd) (cs : List C3) : Prop := (B.pl = 0 ∨ (B.pa = some ⟨g, 0, none⟩ ∧ OwnVs w g cs)) ∧ LTs S w B.ta B.tl ∧ (∀ x, B.sa = some x → ∃ b, x = ⟨b, 0, none⟩ ∧ S b) ∧ (∀ x, B.wa = some x → ∃ b, x = ⟨b, 0, none⟩ ∧ S b)
theorem pz_of {lo hi : Nat} {w : World} {B : Bd} {cs : List C3} (hL : LB lo hi w B) (hX : PX w B.pl B cs) (hlo : lo ≤ hi) : ∃ g, lo ≤ g ∧ g ≠ hi ∧ PZ (fun b => b ≠ g ∧ lo ≤ b ∧ b < hi) w g B cs := by
  obtain ⟨l1, l2, l3, l4⟩ := hL
  have key : ∀ g, (∀ x, B.sa = some x → ∃ b, x = ⟨b, 0, none⟩ ∧ b ≠ g) → (∀ x, B.wa = some x → ∃ b, x = ⟨b, 0, none⟩ ∧ b ≠ g) → LTs (fun b => b ≠ g) w B.ta B.tl → LTs (fun b => b ≠ g ∧ lo ≤ b ∧ b < hi) w B.ta B.tl ∧ (∀ x, B.sa = some x → ∃ b, x = ⟨b, 0, none⟩ ∧ b ≠ g ∧ lo ≤ b ∧ b < hi) ∧ (∀ x, B.wa = some x → ∃ b, x = ⟨b, 0, none⟩ ∧ b ≠ g ∧ lo ≤ b ∧ b < hi) := fun g k1 k2 k3 =>
    ⟨k3.and (lts_of_lt l2), fun x hx => by
      obtain ⟨b, e, h1, h2⟩ := l3 x hx
      obtain ⟨b', e', h3⟩ := k1 x hx
      subst e; cases e'
      exact ⟨b, rfl, h3, h1, h2⟩, fun x hx => by
      obtain ⟨b, e, h1, h2⟩ := l4 x hx
      obtain ⟨b', e', h3⟩ := k2 x hx
      subst e; cases e'
      exact ⟨b, rfl, h3, h1, h2⟩⟩
  rcases hX with h0 | ⟨g, e, hO, k3, k1, k2⟩
  · refine ⟨hi + 1, by omega, by omega, .inl h0, key (hi + 1) (fun x hx => ?_) (fun x hx => ?_) ((lts_of_lt l2).less (fun b hb => by omega))⟩
    · obtain ⟨b, e, h1, h2⟩ := l3 x hx
      exact ⟨b, e, by omega⟩
    · obtain ⟨b, e, h1, h2⟩ := l4 x hx
      exact ⟨b, e, by omega⟩
  · obtain ⟨g', e', h1, h2⟩ := l1 _ e
    cases e'
    exact ⟨g, h1, by omega, .inr ⟨e, hO⟩, key g k1 k2 k3⟩
theorem lv_S {S : Nat → Prop} {a : Option Addr} (h : ∀ x, a = some x → ∃ b, x = ⟨b, 0, none⟩ ∧ S b) : ∃ lo hi, LV lo hi a ∧ ∀ b, lo ≤ b → b < hi → S b := by
  cases a with
  | none => exact ⟨0, 0, fun x hx => (by cases hx), fun b _ hb => absurd hb (Nat.not_lt_zero b)⟩
  | some x =>
    obtain ⟨b, e, hb⟩ := h x rfl
    exact ⟨b, b + 1, fun y hy => ⟨b, (by cases hy; exact e), Nat.le_refl _, Nat.lt_succ_self _⟩, fun q h1 h2 => by
      have : q = b := by omega
      subst this; exact hb⟩
theorem pz_fin {lo hi : Nat} {W w : World} {g : Nat} {B : Bd} {c : Bc} {cs' : List C3} (h : IsB W B c) (hL : LB lo hi W B) (hZ : PZ (fun b => b ≠ g ∧ lo ≤ b ∧ b < hi) W g B c.cs) (hA : Agree (fun b => b ≠ g ∧ lo ≤ b ∧ b < hi) W w) (hO : B.pl = 0 ∨ OwnVs w g cs') (hl : cs'.length = B.pl) :
    IsB w B ⟨cs', c.ts, c.ss, c.zs, c.film, c.bend, c.fall⟩ ∧ LB lo hi w B := by
  obtain ⟨z1, z2, z3, z4⟩ := hZ
  obtain ⟨la, ha, s1, s2⟩ := lv_S z3
  obtain ⟨lb, hb, w1, w2⟩ := lv_S z4
  refine ⟨⟨?_, ts_agreeS h.2.1 z2 (fun _ hb => hb) hA, ss_agree h.2.2.1 s1 s2 hA, fs_agree h.2.2.2.1 w1 w2 hA, h.2.2.2.2⟩, hL.1, lt_of_lts ((z2.agree (fun _ hb => hb) hA).less (fun b hb => hb.2)), hL.2.2⟩
  refine ⟨hl, h.1.2.1, h.1.2.2.1, h.1.2.2.2.1, fun x hx i hi => ?_⟩
  rcases z1 with z1 | ⟨z1, _⟩
  · rw [z1] at hi; exact absurd hi (Nat.not_lt_zero i)
  rcases hO with hO | hO
  · rw [hO] at hi; exact absurd hi (Nat.not_lt_zero i)
  · exact hO.is.2.2.2.2 x (by rw [← hx, z1]) i (by rw [hl]; exact hi)
theorem Tc.put3 {w w1 : World} {bo br g k y z v : Nat} {lo lr : List Value} (h : Tc w bo br lo lr w1) (hg : w.heap.size ≤ g) (h1 : g ≠ bo) (h2 : g ≠ br) : Tc w bo br lo lr (put3 w1 g k y z v) := by
  unfold Go.Proofs.YtnbfaedopjkgpaaGreat.put3
  exact ⟨((h.out.far h1).far h1).far h1, ((h.res.far h2).far h2).far h2, fun i => by simpa using h.fo i, fun i => by simpa using h.fr i, below_set3 h.bel hg, h.ge, by simpa using h.lt⟩
theorem Agree.put3 {S : Nat → Prop} {W w : World} {g k y z v : Nat} (h : Agree S W w) (hg : ¬ S g) : Agree S W (put3 w g k y z v) := ((h.set hg).set hg).set hg
end Go.Proofs.YtnbfaedopjkgpaaGreat


/-
A body whose places are moved: what the model makes. Conditions: all lie in memory, of one length.
-/
namespace Go.Proofs.YtnbfaedopjkgpaaGreat
open Go Fk Go.RowKit
set_option linter.unusedVariables false
set_option maxRecDepth 8000

end Go.Proofs.YtnbfaedopjkgpaaGreat


/-
A body whose places are moved: what the model returns. Conditions: all lie in memory.
-/
namespace Go.Proofs.YtnbfaedopjkgpaaGreat
open Go Fk Go.RowKit
set_option linter.unusedVariables false
set_option maxRecDepth 8000

theorem mvC_body {c : Bc} (ys : List C3) (d : Option Nat) (h : bodyB c = true) : bodyB (mvC c ys d) = true := by
  have hl : (mvC c ys d).cs.length = c.cs.length := mkM_len _ _ _ _ _
  unfold bodyB validB at h ⊢
  rw [hl]
  exact h
theorem mv_len (c : Bc) (ys : List C3) (n : Nat) (d : Option Nat) : (mvO c ys n d).cs.length ≤ 64 ∧ (mvO c ys n d).ts.length ≤ 128 ∧ (mvO c ys n d).ss.length ≤ 200 ∧ (mvO c ys n d).zs.length ≤ 64 ∧ ∀ k, k < (mvO c ys n d).ts.length → ((mvO c ys n d).ts.getD k []).length ≤ 1048576 := by
  unfold mvO okM
  cases hv : bodyB c
  · exact ⟨Nat.zero_le _, Nat.zero_le _, Nat.zero_le _, Nat.zero_le _, fun k hk => absurd hk (Nat.not_lt_zero k)⟩
  cases decide (n = c.cs.length)
  · exact ⟨Nat.zero_le _, Nat.zero_le _, Nat.zero_le _, Nat.zero_le _, fun k hk => absurd hk (Nat.not_lt_zero k)⟩
  obtain ⟨q1, q2, q3, q4, q5⟩ := body_sizes (mvC_body ys d hv)
  exact ⟨q1, q2, q3, q4, fun k hk => (by have := q5 k hk; show ((mvC c ys d).ts.getD k []).length ≤ 1048576; omega)⟩
end Go.Proofs.YtnbfaedopjkgpaaGreat


/-
The law of bare bodies returns true: its walk. Conditions: none beyond that the mesh lies in memory.
-/
namespace Go.Proofs.YtnbfaedopjkgpaaGreat
open Go Fk Go.RowKit
set_option linter.unusedVariables false
set_option maxRecDepth 16000

/-- Boxes outside what is marked stay. -/
theorem Bx.away {w w1 w2 : World} {L : List (Nat × List Value)} {lo hi : Nat} (h : Bx w L w1) (hM : Mark lo hi w1 w2) (hl : w.heap.size ≤ lo) (ho : ∀ b l, (b, l) ∈ L → b < lo ∨ hi ≤ b) : Bx w L w2 :=
  ⟨h.1.trans (hM.below.mono hl), fun b l hm => ⟨fun i v hv => hM.cell (ho b l hm) ((h.2 b l hm).1 i v hv), fun i => by rw [hM.frozen _ _ (h.2 b l hm).2.2.1]; exact (h.2 b l hm).2.1 i, Nat.lt_of_lt_of_le (h.2 b l hm).2.2.1 hM.below.size, (h.2 b l hm).2.2.2⟩⟩
theorem Bx.lt {w w' : World} {L : List (Nat × List Value)} {b : Nat} {l : List Value} (h : Bx w L w') (hm : (b, l) ∈ L) : b < w'.heap.size := (h.2 b l hm).2.2.1
end Go.Proofs.YtnbfaedopjkgpaaGreat

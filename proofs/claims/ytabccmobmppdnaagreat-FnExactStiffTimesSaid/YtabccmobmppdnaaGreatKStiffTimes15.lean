/-
Texts in one: what StiffTimes stands on, part 15. Conditions: those of each.
-/
import Derived.Test.YtabccmobmppdnaaGreatKStiffTimes14
import Derived.Lib.SliceRun
import Derived.Handy
-- halved
namespace Go.Proofs.YtabccmobmppdnaaGreat
open Go Fk Go.RowKit
set_option linter.unusedVariables false
set_option maxRecDepth 8000
end Go.Proofs.YtabccmobmppdnaaGreat
namespace Go.Proofs.YtabccmobmppdnaaGreat
open Go Fk Go.RowKit
set_option linter.unusedVariables false
set_option maxRecDepth 8000
theorem lst_lv {lo hi n : Nat} {w : World} {a : Option Addr} (h : Lst lo hi w a n) : LV lo hi a := fun x hx => by
 rcases h with ⟨e, _⟩ | ⟨b, e, ho⟩
 ·rw [e] at hx; cases hx
 ·rw [e] at hx; cases hx; exact ⟨b, rfl, ho.1, ho.2.1⟩
end Go.Proofs.YtabccmobmppdnaaGreat
namespace Go.Proofs.YtabccmobmppdnaaGreat
open Go Fk Go.RowKit
set_option linter.unusedVariables false
set_option maxRecDepth 8000
end Go.Proofs.YtabccmobmppdnaaGreat
namespace Go.Proofs.YtabccmobmppdnaaGreat
open Go Fk Go.RowKit
set_option linter.unusedVariables false
set_option maxRecDepth 8000
def SPV (n : Nat) (xs : List Value) (ss : List SC) : Prop := ∀ j, j < n → ∃ p q, xs[j * 4]? = some (.int .i64 (ss.getD j s0).1) ∧ xs[j * 4 + 1]? = some (.int .i64 (ss.getD j s0).2.1) ∧ xs[j * 4 + 2]? = some (.float .f32 p) ∧ xs[j * 4 + 3]? = some (.float .f32 q) ∧ FV .f32 p (ss.getD j s0).2.2.1 ∧ FV .f32 q (ss.getD j s0).2.2.2
def FPV (n : Nat) (xs : List Value) (zs : List Nat) : Prop := ∀ j, j < n → xs[j]? = some (.float .f32 (zs.getD j 0))
theorem ss_cells {w : World} {a : Option Addr} {n cap : Nat} {ss : List SC} (h : IsSs w a n cap ss) : ∃ xs : List Value, xs.length = n * 4 ∧ (∀ ad, a = some ad → ∀ j u, xs[j]? = some u → w.cell? (ad.add j) = some u) ∧ (∀ u ∈ xs, u.oneCell' = true) ∧ SPV n xs ss := by
 obtain ⟨h1, h2, h3, h4', h4, h5⟩ := h
 cases a with
 | none =>
  obtain ⟨rfl, _⟩ := h4 rfl
  exact ⟨[], rfl, ⟨fun _ had => (by cases had), fun u hu => absurd hu (by simp), fun j hj => absurd hj (by omega)⟩⟩
 | some x =>
  have hc : ∀ j, j < n * 4 → ∃ u, w.cell? (x.add j) = some u ∧ u.oneCell' = true := by
   intro j hj
   obtain ⟨p, q, k0, k1, k2, k3, _⟩ := h5 x rfl (j / 4) (by omega)
   have : j = j / 4 * 4 ∨ j = j / 4 * 4 + 1 ∨ j = j / 4 * 4 + 2 ∨ j = j / 4 * 4 + 3 := by omega
   rcases this with e | e | e | e
   ·exact ⟨_, by rw [e]; exact k0, rfl⟩
   ·exact ⟨_, by rw [e]; exact k1, rfl⟩
   ·exact ⟨_, by rw [e]; exact k2, rfl⟩
   ·exact ⟨_, by rw [e]; exact k3, rfl⟩
  refine ⟨(List.range (n * 4)).map fun j => (w.cell? (x.add j)).getD undef, by simp, fun ad had j u hu => ?_, fun u hu => ?_, fun j hj => ?_⟩
  ·cases had
   have hj : j < n * 4 := by have := (List.getElem?_eq_some_iff.1 hu).1; simpa using this
   obtain ⟨p, hp, _⟩ := hc j hj
   simp [hj, hp] at hu
   rw [hp, ← hu]
  ·obtain ⟨j, hj, rfl⟩ := List.mem_map.1 hu
   obtain ⟨p, hp, ho⟩ := hc j (List.mem_range.1 hj)
   rw [hp]; exact ho
  ·obtain ⟨p, q, k0, k1, k2, k3, hf⟩ := h5 x rfl j hj
   have g0 : j * 4 < n * 4 := by omega
   have g1 : j * 4 + 1 < n * 4 := by omega
   have g2 : j * 4 + 2 < n * 4 := by omega
   have g3 : j * 4 + 3 < n * 4 := by omega
   exact ⟨p, q, by simp [g0, k0], by simp [g1, k1], by simp [g2, k2], by simp [g3, k3], hf⟩
theorem fs_cells {w : World} {a : Option Addr} {n cap : Nat} {zs : List Nat} (h : IsFs .f32 w a n cap zs) : ∃ xs : List Value, xs.length = n * 1 ∧ (∀ ad, a = some ad → ∀ j u, xs[j]? = some u → w.cell? (ad.add j) = some u) ∧ (∀ u ∈ xs, u.oneCell' = true) ∧ FPV n xs zs := by
 obtain ⟨h1, h2, h3, h4', h4, h5⟩ := h
 refine ⟨zs.map (.float .f32), by simp [h1], fun ad had j u hu => ?_, fun u hu => ?_, fun j hj => ?_⟩
 ·have hj : j < n := by have := (List.getElem?_eq_some_iff.1 hu).1; rw [← h1]; simpa using this
  have := h5 ad had j hj
  rw [this, ← hu]
  have hz : j < zs.length := by omega
  simp [List.getD, hz]
 ·obtain ⟨z, _, rfl⟩ := List.mem_map.1 hu
  rfl
 ·have hz : j < zs.length := by omega
  simp [List.getD, hz]
theorem lst_of_ownsG {w : World} {base size n c : Nat} {e : TypeId} {a : Option Addr} {xs : List Value} (h : w.ownsRow base e size (.slice a n c) n xs) : Lst base w.heap.size w a (n * size) := by
 have h' := h
 rcases h.2 with ⟨e, e0⟩ | ⟨g, cap, cur, e, hb, hh, hc1, hc2, hs, ht⟩
 ·cases e; exact .inl ⟨rfl, by rw [e0, Nat.zero_mul]⟩
 ·obtain ⟨g1, g2⟩ := h'.lt g (by rw [e]; rfl)
  cases e
  refine .inr ⟨g, rfl, g1, g2, g2, fun j hj => ⟨?_, by rw [Nat.zero_add]; exact h'.frozenAt j⟩⟩
  rw [Nat.zero_add, h'.cellAt j hj]
  have : j < xs.length := by rw [h'.1]; exact hj
  exact ⟨_, List.getElem?_eq_getElem this⟩
theorem ss_of_owns {w : World} {base n : Nat} {v : Value} {xs : List Value} {ss : List SC} (h : w.ownsRow base 166 4 v n xs) (hn : ss.length = n) (hp : SPV n xs ss) (hwf : ∀ s ∈ ss, (Lit.int .i64 s.1).wf = true ∧ (Lit.int .i64 s.2.1).wf = true) : ∃ a cap, v = .slice a n cap ∧ IsSs w a n cap ss ∧ Lst base w.heap.size w a (n * 4) := by
 have h' := h
 rcases h.2 with ⟨rfl, hn0⟩ | ⟨g, cap, cur, rfl, hb, hh, hc1, hc2, hs, ht⟩
 ·exact ⟨none, 0, by rw [hn0], ⟨hn, by omega, by unfold maxLen; omega, hwf, fun _ => ⟨hn0, rfl⟩, fun x hx => by cases hx⟩, .inl ⟨rfl, by omega⟩⟩
 ·refine ⟨_, cap, rfl, ⟨hn, hc1, hc2, hwf, by simp, fun x hx i hi => ?_⟩, lst_of_ownsG h'⟩
  cases hx
  obtain ⟨p, q, e0, e1, e2, e3, hf⟩ := hp i hi
  exact ⟨p, q, by rw [addr_add', Nat.zero_add, h'.cellAt _ (by omega)]; exact e0, by rw [addr_add', Nat.zero_add, h'.cellAt _ (by omega)]; exact e1, by rw [addr_add', Nat.zero_add, h'.cellAt _ (by omega)]; exact e2, by rw [addr_add', Nat.zero_add, h'.cellAt _ (by omega)]; exact e3, hf⟩
theorem fs_of_owns {w : World} {base n : Nat} {v : Value} {xs : List Value} {zs : List Nat} (h : w.ownsRow base 27 1 v n xs) (hn : zs.length = n) (hp : FPV n xs zs) (hwf : ∀ z ∈ zs, z < 2 ^ FloatKind.f32.format.width) : ∃ a cap, v = .slice a n cap ∧ IsFs .f32 w a n cap zs ∧ Lst base w.heap.size w a n := by
 have h' := h
 rcases h.2 with ⟨rfl, hn0⟩ | ⟨g, cap, cur, rfl, hb, hh, hc1, hc2, hs, ht⟩
 ·exact ⟨none, 0, by rw [hn0], ⟨hn, by omega, by unfold maxLen; omega, hwf, fun _ => ⟨hn0, rfl⟩, fun x hx => by cases hx⟩, .inl ⟨rfl, by omega⟩⟩
 ·refine ⟨_, cap, rfl, ⟨hn, hc1, hc2, hwf, by simp, fun x hx i hi => ?_⟩, by have := lst_of_ownsG h'; rwa [Nat.mul_one] at this⟩
  cases hx
  rw [addr_add', Nat.zero_add, h'.cellAt _ (by omega)]
  exact hp i hi
end Go.Proofs.YtabccmobmppdnaaGreat
namespace Go.Proofs.YtabccmobmppdnaaGreat
open Go Fk Go.RowKit
set_option linter.unusedVariables false
set_option maxRecDepth 8000
structure Tc (w : World) (bo br : Nat) (lo lr : List Value) (w1 : World) : Prop where
 out : At w1 bo lo
 res : At w1 br lr
 fo : ∀ i, w1.frozen? ⟨bo, i, none⟩ = false
 fr : ∀ i, w1.frozen? ⟨br, i, none⟩ = false
 bel : Below w.heap.size w w1
 ge : w.heap.size ≤ bo ∧ w.heap.size ≤ br ∧ bo ≠ br
 lt : bo < w1.heap.size ∧ br < w1.heap.size
theorem Tc.call {w w1 w2 : World} {bo br : Nat} {lo lr : List Value} (h : Tc w bo br lo lr w1) (hB : Below w1.heap.size w1 w2) : Tc w bo br lo lr w2 :=
 ⟨h.out.below hB, h.res.below hB, fun i => by rw [hB.frozen (p := ⟨bo, i, none⟩) h.lt.1]; exact h.fo i,
  fun i => by rw [hB.frozen (p := ⟨br, i, none⟩) h.lt.2]; exact h.fr i, h.bel.trans (hB.mono h.bel.size), h.ge, Nat.lt_of_lt_of_le h.lt.1 hB.size, Nat.lt_of_lt_of_le h.lt.2 hB.size⟩
theorem Tc.put {w w1 : World} {bo br : Nat} {lo lr vs : List Value} (h : Tc w bo br lo lr w1) (o : Nat) (hl : o + vs.length ≤ lo.length) : Tc w bo br (lo.take o ++ vs ++ lo.drop (o + vs.length)) lr (setL w1 bo o vs) :=
 ⟨at_setL h.out hl, at_setL_far h.res h.ge.2.2, fun i => by rw [setL_frozen]; exact h.fo i, fun i => by rw [setL_frozen]; exact h.fr i,
  setL_below _ h.ge.1 _ _ _ h.bel, h.ge, by rw [setL_size]; exact h.lt⟩
theorem Tc.fin {w w1 : World} {bo br : Nat} {lo lr vs' : List Value} (h : Tc w bo br lo lr w1) (hl : vs'.length = lr.length) : At (setL w1 br 0 vs') br vs' ∧ Below w.heap.size w (setL w1 br 0 vs') := by
 refine ⟨?_, setL_below _ h.ge.2.1 _ _ _ h.bel⟩
 have := at_setL (vs := vs') (o := 0) h.res (by omega)
 simpa [hl] using this
def Sy (bo br b : Nat) : Prop := b ≠ bo ∧ b ≠ br
theorem Sy.out {bo br : Nat} : ¬ Sy bo br bo := fun h => h.1 rfl
theorem Sy.res {bo br : Nat} : ¬ Sy bo br br := fun h => h.2 rfl
theorem Sy.new {bo br lo hi : Nat} (h1 : bo < lo) (h2 : br < lo) : ∀ b, lo ≤ b → b < hi → Sy bo br b := fun b k1 _ => ⟨by omega, by omega⟩
end Go.Proofs.YtabccmobmppdnaaGreat

/-
Texts in one: what StretchesOf stands on, part 22. Conditions: those of each.
-/
import Derived.Test.YtmbekamnogbgaabKStretchesOf21

/-
A box that is filled, and the result's box. Conditions: none.
-/
namespace Go.Proofs.Ytmbekamnogbgaab
open Go Fk Go.RowKit
set_option linter.unusedVariables false
set_option maxRecDepth 8000

structure Tc (w : World) (bo br : Nat) (lo lr : List Value) (w1 : World) : Prop where
  out : At w1 bo lo
  res : At w1 br lr
  fo : ∀ i, w1.frozen? ⟨bo, i, none⟩ = false
  fr : ∀ i, w1.frozen? ⟨br, i, none⟩ = false
  bel : Below w.heap.size w w1
  ge : w.heap.size ≤ bo ∧ w.heap.size ≤ br ∧ bo ≠ br
  lt : bo < w1.heap.size ∧ br < w1.heap.size
theorem Tc.call {w w1 w2 : World} {bo br : Nat} {lo lr : List Value} (h : Tc w bo br lo lr w1) (hB : Below w1.heap.size w1 w2) : Tc w bo br lo lr w2 :=
  ⟨h.out.below hB, h.res.below hB, fun i => by rw [hB.frozen (p := ⟨bo, i, none⟩) h.lt.1]; exact h.fo i,
    fun i => by rw [hB.frozen (p := ⟨br, i, none⟩) h.lt.2]; exact h.fr i, h.bel.trans (hB.mono h.bel.size), h.ge, Nat.lt_of_lt_of_le h.lt.1 hB.size, Nat.lt_of_lt_of_le h.lt.2 hB.size⟩
theorem Tc.put {w w1 : World} {bo br : Nat} {lo lr vs : List Value} (h : Tc w bo br lo lr w1) (o : Nat) (hl : o + vs.length ≤ lo.length) : Tc w bo br (lo.take o ++ vs ++ lo.drop (o + vs.length)) lr (setL w1 bo o vs) :=
  ⟨at_setL h.out hl, at_setL_far h.res h.ge.2.2, fun i => by rw [setL_frozen]; exact h.fo i, fun i => by rw [setL_frozen]; exact h.fr i,
    setL_below _ h.ge.1 _ _ _ h.bel, h.ge, by rw [setL_size]; exact h.lt⟩
theorem Tc.fin {w w1 : World} {bo br : Nat} {lo lr vs' : List Value} (h : Tc w bo br lo lr w1) (hl : vs'.length = lr.length) : At (setL w1 br 0 vs') br vs' ∧ Below w.heap.size w (setL w1 br 0 vs') := by
  refine ⟨?_, setL_below _ h.ge.2.1 _ _ _ h.bel⟩
  have := at_setL (vs := vs') (o := 0) h.res (by omega)
  simpa [hl] using this
/-- All blocks but the two that are filled. -/
def Sy (bo br b : Nat) : Prop := b ≠ bo ∧ b ≠ br
theorem Sy.out {bo br : Nat} : ¬ Sy bo br bo := fun h => h.1 rfl
theorem Sy.res {bo br : Nat} : ¬ Sy bo br br := fun h => h.2 rfl
theorem Sy.new {bo br lo hi : Nat} (h1 : bo < lo) (h2 : br < lo) : ∀ b, lo ≤ b → b < hi → Sy bo br b := fun b k1 _ => ⟨by omega, by omega⟩
theorem GM.widen {lo hi lo' hi' pl tl F : Nat} {w : World} {pa ta : Option Addr} (h : GM lo hi w pa ta pl tl F) (h1 : lo' ≤ lo) (h2 : hi ≤ hi') : GM lo' hi' w pa ta pl tl F :=
  ⟨h.1.imp id fun ⟨b, e, ho⟩ => ⟨b, e, ho.widen h1 h2⟩, h.2.1.imp id fun ⟨R, e, k1, k2, k3, k4, k5, k6⟩ => ⟨R, e, by omega, by omega, k3, k4, k5, k6.widen h1 h2⟩, h.2.2⟩
theorem lst_widen {lo hi lo' hi' n : Nat} {w : World} {a : Option Addr} (h : Lst lo hi w a n) (h1 : lo' ≤ lo) (h2 : hi ≤ hi') : Lst lo' hi' w a n :=
  h.imp id fun ⟨b, e, ho⟩ => ⟨b, e, ho.widen h1 h2⟩
/-- Parts that lie apart make a body that was made. -/
theorem gb_of {lo h1 h2 h3 h4 F : Nat} {w : World} {B : Bd} (m : GM lo h1 w B.pa B.ta B.pl B.tl F) (hF : F < h1 ∨ B.tl = 0) (s : Lst h1 h2 w B.sa (B.sl * 4)) (g : Lst h2 h3 w B.wa B.wl) (h12 : h1 ≤ h2) (h23 : h2 ≤ h3) (h34 : h3 ≤ h4) (hlo : lo ≤ h1) (hF' : F < h1) : GB lo h4 w B F := by
  have lp := lst_lv m.1
  have lt := m.lt
  have ls := lst_lv s
  have lg := lst_lv g
  refine ⟨m.widen (Nat.le_refl _) (by omega), lst_widen s (by omega) (by omega), lst_widen g (by omega) (by omega), fun X e => ?_, fun X e => ?_⟩
  · obtain ⟨x, ex, x1, x2⟩ := ls _ e
    cases ex
    refine ⟨by omega, fun e' => ?_, fun e' => ?_, fun e' => ?_⟩
    · obtain ⟨y, ey, y1, y2⟩ := lp _ e'; cases ey; omega
    · obtain ⟨y, ey, y1, y2, _⟩ := lt _ e'; cases ey; omega
    · obtain ⟨y, ey, y1, y2⟩ := lg _ e'; cases ey; omega
  · obtain ⟨x, ex, x1, x2⟩ := lg _ e
    cases ex
    refine ⟨by omega, fun e' => ?_, fun e' => ?_⟩
    · obtain ⟨y, ey, y1, y2⟩ := lp _ e'; cases ey; omega
    · obtain ⟨y, ey, y1, y2, _⟩ := lt _ e'; cases ey; omega
end Go.Proofs.Ytmbekamnogbgaab


/-
A copy of a mesh: what the program makes. Conditions: the mesh lies in memory, its triangles have three places each.
-/
namespace Go.Proofs.Ytmbekamnogbgaab
open Go Fk Go.RowKit
set_option linter.unusedVariables false
set_option maxRecDepth 8000

theorem owns_apart {w : World} {b1 b2 : Nat} {e1 e2 : TypeId} {s1 s2 n1 n2 c1 c2 : Nat} {a1 a2 : Option Addr} {x1 x2 : List Value} (h1 : w.ownsRow b1 e1 s1 (.slice a1 n1 c1) n1 x1) (h2 : w.ownsRow b2 e2 s2 (.slice a2 n2 c2) n2 x2) (he : e1 ≠ e2) : ∀ P R, a1 = some P → a2 = some R → P.block ≠ R.block := by
  intro P R hP hR hb
  subst hP
  subst hR
  rcases h1.2 with ⟨e, _⟩ | ⟨g, cap, cur, e, _, hh, _⟩
  · cases e
  rcases h2.2 with ⟨e', _⟩ | ⟨g', cap', cur', e', _, hh', _⟩
  · cases e'
  cases e
  cases e'
  have hb' : g = g' := hb
  subst hb'
  rw [hh] at hh'
  cases hh'
  exact he rfl
theorem owns_set {w : World} {base : Nat} {e : TypeId} {s : Nat} {v : Value} {n : Nat} {xs : List Value} (h : w.ownsRow base e s v n xs) (b o : Nat) (hb : b < base) (u : Value) : (w.setCell ⟨b, o, none⟩ u).ownsRow base e s v n xs :=
  h.kept (grown_set w b o u) (by
    rcases hv : v.ownBlock with _ | g
    · exact .inl rfl
    · refine .inr fun e' => ?_
      have := (h.lt g hv).1
      cases e'
      omega)
theorem owns_setL {base : Nat} {e : TypeId} {s : Nat} {v : Value} {n : Nat} {xs : List Value} (b : Nat) (hb : b < base) : ∀ (vs : List Value) (w : World) (o : Nat), w.ownsRow base e s v n xs → (setL w b o vs).ownsRow base e s v n xs
  | [], _, _, h => h
  | x :: vs, w, o, h => owns_setL b hb vs _ _ (owns_set h b o hb x)
/-- What the parts of the mesh are before they are put into the box. -/
def PM (W : World) (n tl bo : Nat) (cs : List C3) (ts : List (List Int)) (w' : World) : Prop :=
  ∃ w1 qa qc ra rc fb fc xs, Below W.heap.size W w1 ∧ w1.ownsRow W.heap.size 62 3 (.slice qa n qc) n xs ∧ PV n xs cs ∧ w1.ownsRow (fb + 1) 27 1 (.slice ra tl rc) tl (rowVs fb tl) ∧ w1.ownsRow W.heap.size 2 1 (.slice (some ⟨fb, 0, none⟩) (tl * 3) fc) (tl * 3) (flatV ts tl) ∧ w' = setL w1 bo 0 [.slice qa n qc, .slice ra tl rc]
/-- A copy of a mesh, of the call's own. -/
def CP (w : World) (pl tl : Nat) (cs : List C3) (ts : List (List Int)) (v : Value) (w' : World) : Prop :=
  ∃ qa qc ra rc fb fc xs, v = .agg #[.slice qa pl qc, .slice ra tl rc] ∧ w'.ownsRow w.heap.size 62 3 (.slice qa pl qc) pl xs ∧ PV pl xs cs ∧ w'.ownsRow (fb + 1) 27 1 (.slice ra tl rc) tl (rowVs fb tl) ∧ w'.ownsRow w.heap.size 2 1 (.slice (some ⟨fb, 0, none⟩) (tl * 3) fc) (tl * 3) (flatV ts tl) ∧ Below w.heap.size w w'
end Go.Proofs.Ytmbekamnogbgaab


/-
A body with other places, its lists copied: what the program makes. Conditions: it lies in memory, its triangles have three places each.
-/
namespace Go.Proofs.Ytmbekamnogbgaab
open Go Fk Go.RowKit
set_option linter.unusedVariables false
set_option maxRecDepth 8000

end Go.Proofs.Ytmbekamnogbgaab

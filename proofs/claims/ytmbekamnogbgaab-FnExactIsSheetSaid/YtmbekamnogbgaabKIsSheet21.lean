/-
Texts in one: what IsSheet stands on, part 21. Conditions: those of each.
-/
import Derived.Test.YtmbekamnogbgaabKIsSheet20

/-
Writing a list of values beside one another into one block. Conditions: none.
-/
namespace Go.Proofs.Ytmbekamnogbgaab
open Go Fk Go.RowKit
set_option linter.unusedVariables false
set_option maxRecDepth 8000

/-- Cells that are written one behind another. -/
def setL (w : World) (g : Nat) : Nat → List Value → World
  | _, [] => w
  | o, v :: vs => setL (w.setCell ⟨g, o, none⟩ v) g (o + 1) vs
theorem setL_size (g : Nat) : ∀ (vs : List Value) (w : World) (o : Nat), (setL w g o vs).heap.size = w.heap.size
  | [], w, o => rfl
  | v :: vs, w, o => by rw [setL, setL_size g vs]; simp
theorem setL_frozen (g : Nat) (a : Addr) : ∀ (vs : List Value) (w : World) (o : Nat), (setL w g o vs).frozen? a = w.frozen? a
  | [], w, o => rfl
  | v :: vs, w, o => by rw [setL, setL_frozen g a vs]; simp
theorem setL_out (g m : Nat) : ∀ (vs : List Value) (w : World) (o : Nat), (m < o ∨ o + vs.length ≤ m) → (setL w g o vs).cell? ⟨g, m, none⟩ = w.cell? ⟨g, m, none⟩
  | [], w, o, h => rfl
  | v :: vs, w, o, h => by
    simp only [List.length_cons] at h
    rw [setL, setL_out g m vs _ _ (by omega), World.cell?_setCell_other _ _ _ _ (by simp <;> omega)]
theorem setL_far (g b i : Nat) (hne : g ≠ b) : ∀ (vs : List Value) (w : World) (o : Nat), (setL w g o vs).cell? ⟨b, i, none⟩ = w.cell? ⟨b, i, none⟩
  | [], w, o => rfl
  | v :: vs, w, o => by rw [setL, setL_far g b i hne vs, World.cell?_setCell_far (h := hne)]
theorem setL_in (g : Nat) : ∀ (vs : List Value) (w : World) (o : Nat), (∀ j, j < vs.length → ∃ u, w.cell? ⟨g, o + j, none⟩ = some u) → ∀ j, j < vs.length → (setL w g o vs).cell? ⟨g, o + j, none⟩ = vs[j]?
  | [], w, o, h, j, hj => by simp at hj
  | v :: vs, w, o, h, 0, hj => by
    rw [setL, setL_out g _ vs _ _ (by omega)]
    obtain ⟨u, hu⟩ := h 0 (by simp)
    simpa using World.cell?_setCell_same w ⟨g, o + 0, none⟩ v hu
  | v :: vs, w, o, h, j + 1, hj => by
    rw [setL, show o + (j + 1) = o + 1 + j by omega]
    rw [setL_in g vs _ (o + 1) (fun i hi => by
      obtain ⟨u, hu⟩ := h (i + 1) (by simp; omega)
      exact ⟨u, by rw [World.cell?_setCell_other _ _ _ _ (by simp <;> omega), show o + 1 + i = o + (i + 1) by omega]; exact hu⟩) j (by simpa using hj)]
    simp
theorem setL_below {B : Nat} {W : World} (g : Nat) (hB : B ≤ g) : ∀ (vs : List Value) (w : World) (o : Nat), Below B W w → Below B W (setL w g o vs)
  | [], w, o, h => h
  | v :: vs, w, o, h => setL_below g hB vs _ _ (h.setCell (p := ⟨g, o, none⟩) hB v)
end Go.Proofs.Ytmbekamnogbgaab


/-
What a call leaves as it was, by blocks; bodies that lie in some blocks; copies of bodies. Conditions: at most 2^20 of each.
-/
namespace Go.Proofs.Ytmbekamnogbgaab
open Go Fk Go.RowKit
set_option linter.unusedVariables false
set_option maxRecDepth 8000

/-- Cells of some blocks are as they were. -/
structure Agree (S : Nat → Prop) (W w : World) : Prop where
  cell : ∀ b i v, S b → W.cell? ⟨b, i, none⟩ = some v → w.cell? ⟨b, i, none⟩ = some v
  frozen : ∀ b i, S b → b < W.heap.size → w.frozen? ⟨b, i, none⟩ = W.frozen? ⟨b, i, none⟩
  size : W.heap.size ≤ w.heap.size
theorem Agree.refl (S : Nat → Prop) (w : World) : Agree S w w := ⟨fun _ _ _ _ h => h, fun _ _ _ _ => rfl, Nat.le_refl _⟩
theorem Agree.trans {S : Nat → Prop} {a b c : World} (h : Agree S a b) (k : Agree S b c) : Agree S a c :=
  ⟨fun x i v hs hv => k.cell x i v hs (h.cell x i v hs hv), fun x i hs hx => (k.frozen x i hs (Nat.lt_of_lt_of_le hx h.size)).trans (h.frozen x i hs hx), Nat.le_trans h.size k.size⟩
theorem Agree.of_below {S : Nat → Prop} {W w : World} (h : Below W.heap.size W w) : Agree S W w :=
  ⟨fun b i v _ hv => cell_below h hv, fun b i _ hb => h.frozen (p := ⟨b, i, none⟩) hb, h.size⟩
theorem Agree.set {S : Nat → Prop} {W w : World} {b i : Nat} {u : Value} (h : Agree S W w) (hb : ¬ S b) : Agree S W (w.setCell ⟨b, i, none⟩ u) :=
  ⟨fun x j v hs hv => by
    have hne : b ≠ x := fun e => hb (e ▸ hs)
    rw [World.cell?_setCell_other _ _ _ _ (by simp [hne])]
    exact h.cell x j v hs hv, fun x j hs hx => by simp; exact h.frozen x j hs hx, by simpa using h.size⟩
theorem Agree.setL {S : Nat → Prop} {W : World} {g : Nat} (hg : ¬ S g) : ∀ (vs : List Value) (w : World) (o : Nat), Agree S W w → Agree S W (setL w g o vs)
  | [], w, o, h => h
  | v :: vs, w, o, h => Agree.setL hg vs _ _ (h.set hg)
theorem Agree.of_mark {lo hi : Nat} {w w' : World} (h : Mark lo hi w w') : Agree (fun b => b < lo ∨ hi ≤ b) w w' :=
  ⟨fun b i v hb hv => h.cell hb hv, fun b i _ hb => h.frozen b i hb, h.below.size⟩
theorem Agree.less {S T : Nat → Prop} {W w : World} (h : Agree S W w) (hT : ∀ b, T b → S b) : Agree T W w :=
  ⟨fun b i v hb hv => h.cell b i v (hT b hb) hv, fun b i hb hl => h.frozen b i (hT b hb) hl, h.size⟩

theorem vs_agree {S : Nat → Prop} {W w : World} {lo hi : Nat} {a : Option Addr} {n c : Nat} {cs : List C3} (h : IsVs W a n c cs) (hl : LV lo hi a) (hS : ∀ b, lo ≤ b → b < hi → S b) (hA : Agree S W w) : IsVs w a n c cs := by
  obtain ⟨h1, h2, h3, h4, h5⟩ := h
  refine ⟨h1, h2, h3, h4, fun x hx i hlt => ?_⟩
  obtain ⟨p, q, r, k0, k1, k2, hf⟩ := h5 x hx i hlt
  obtain ⟨b, rfl, l1, l2⟩ := hl x hx
  have hs := hS b l1 l2
  rw [addr_add'] at k0 k1 k2
  exact ⟨p, q, r, by rw [addr_add']; exact hA.cell _ _ _ hs k0, by rw [addr_add']; exact hA.cell _ _ _ hs k1, by rw [addr_add']; exact hA.cell _ _ _ hs k2, hf⟩
theorem fs_agree {S : Nat → Prop} {W w : World} {lo hi : Nat} {a : Option Addr} {n c : Nat} {zs : List Nat} (h : IsFs .f32 W a n c zs) (hl : LV lo hi a) (hS : ∀ b, lo ≤ b → b < hi → S b) (hA : Agree S W w) : IsFs .f32 w a n c zs := by
  obtain ⟨h1, h2, h3, h4, h5, h6⟩ := h
  refine ⟨h1, h2, h3, h4, h5, fun x hx i hlt => ?_⟩
  have k0 := h6 x hx i hlt
  obtain ⟨b, rfl, l1, l2⟩ := hl x hx
  rw [addr_add'] at k0 ⊢
  exact hA.cell _ _ _ (hS b l1 l2) k0
theorem ss_agree {S : Nat → Prop} {W w : World} {lo hi : Nat} {a : Option Addr} {n c : Nat} {ss : List SC} (h : IsSs W a n c ss) (hl : LV lo hi a) (hS : ∀ b, lo ≤ b → b < hi → S b) (hA : Agree S W w) : IsSs w a n c ss := by
  obtain ⟨h1, h2, h3, h4, h5, h6⟩ := h
  refine ⟨h1, h2, h3, h4, h5, fun x hx i hlt => ?_⟩
  obtain ⟨p, q, k0, k1, k2, k3, hf⟩ := h6 x hx i hlt
  obtain ⟨b, rfl, l1, l2⟩ := hl x hx
  have hs := hS b l1 l2
  rw [addr_add'] at k0 k1 k2 k3
  exact ⟨p, q, by rw [addr_add']; exact hA.cell _ _ _ hs k0, by rw [addr_add']; exact hA.cell _ _ _ hs k1, by rw [addr_add']; exact hA.cell _ _ _ hs k2, by rw [addr_add']; exact hA.cell _ _ _ hs k3, hf⟩
theorem lt_agree {S : Nat → Prop} {W w : World} {lo hi n : Nat} {a : Option Addr} (hl : LT lo hi W a n) (hS : ∀ b, lo ≤ b → b < hi → S b) (hA : Agree S W w) : LT lo hi w a n := fun x hx => by
  obtain ⟨g, e, h1, h2, h3⟩ := hl x hx
  refine ⟨g, e, h1, h2, fun i hlt => ?_⟩
  obtain ⟨b, m, c, hc, hb⟩ := h3 i hlt
  exact ⟨b, m, c, hA.cell _ _ _ (hS g h1 h2) hc, hb⟩
theorem ts_agree {S : Nat → Prop} {W w : World} {lo hi : Nat} {a : Option Addr} {n c : Nat} {ts : List (List Int)} (h : IsTs W a n c ts) (hl : LT lo hi W a n) (hS : ∀ b, lo ≤ b → b < hi → S b) (hA : Agree S W w) : IsTs w a n c ts := by
  obtain ⟨h1, h2, h3, h4, h5⟩ := h
  refine ⟨h1, h2, h3, h4, fun x hx i hlt => ?_⟩
  obtain ⟨g, e, l1, l2, u3⟩ := hl x hx
  obtain ⟨b, m, q, hc, hI⟩ := h5 x hx i hlt
  subst e
  rw [addr_add', Nat.zero_add] at hc
  obtain ⟨b', m', q', hc', hb'⟩ := u3 i hlt
  rw [hc] at hc'
  cases hc'
  refine ⟨b, m, q, by rw [addr_add', Nat.zero_add]; exact hA.cell _ _ _ (hS g l1 l2) hc, ?_⟩
  obtain ⟨i1, i2, i3, i4, i5, i6⟩ := hI
  refine ⟨i1, i2, i3, i4, i5, fun z hz j hj => ?_⟩
  have := i6 z hz j hj
  obtain ⟨h', o, e', w1, w2⟩ := hb' z hz
  subst e'
  rw [addr_add'] at this ⊢
  exact hA.cell _ _ _ (hS h' w1 w2) this
/-- A body that lies in blocks from lo to hi. -/
def LB (lo hi : Nat) (w : World) (B : Bd) : Prop := LV lo hi B.pa ∧ LT lo hi w B.ta B.tl ∧ LV lo hi B.sa ∧ LV lo hi B.wa
theorem LB.agree {S : Nat → Prop} {W w : World} {lo hi : Nat} {B : Bd} (h : LB lo hi W B) (hS : ∀ b, lo ≤ b → b < hi → S b) (hA : Agree S W w) : LB lo hi w B :=
  ⟨h.1, lt_agree h.2.1 hS hA, h.2.2⟩
theorem LB.wide {lo hi lo' hi' : Nat} {w : World} {B : Bd} (h : LB lo hi w B) (h1 : lo' ≤ lo) (h2 : hi ≤ hi') : LB lo' hi' w B :=
  ⟨h.1.wide h1 h2, h.2.1.wide h1 h2, h.2.2.1.wide h1 h2, h.2.2.2.wide h1 h2⟩
theorem IsB.agree {S : Nat → Prop} {W w : World} {lo hi : Nat} {B : Bd} {c : Bc} (h : IsB W B c) (hl : LB lo hi W B) (hS : ∀ b, lo ≤ b → b < hi → S b) (hA : Agree S W w) : IsB w B c :=
  ⟨vs_agree h.1 hl.1 hS hA, ts_agree h.2.1 hl.2.1 hS hA, ss_agree h.2.2.1 hl.2.2.1 hS hA, fs_agree h.2.2.2.1 hl.2.2.2 hS hA, h.2.2.2.2⟩
/-- What an own box holds when it is filled. -/
theorem at_setL {w : World} {b o : Nat} {l vs : List Value} (h : At w b l) (hl : o + vs.length ≤ l.length) : At (setL w b o vs) b (l.take o ++ vs ++ l.drop (o + vs.length)) := by
  intro i v hi
  have hin := setL_in b vs w o (fun j hj => by
    have : o + j < l.length := by omega
    exact ⟨l[o + j], h (o + j) _ (by simp [this])⟩)
  by_cases h1 : i < o
  · rw [setL_out b i vs w o (.inl h1)]
    refine h i v ?_
    rw [List.append_assoc, List.getElem?_append_left (by simp; omega)] at hi
    simpa [h1] using hi
  · by_cases h2 : i < o + vs.length
    · have := hin (i - o) (by omega)
      rw [show o + (i - o) = i by omega] at this
      rw [this]
      rw [List.append_assoc, List.getElem?_append_right (by simp; omega), List.getElem?_append_left (by simp; omega)] at hi
      rw [← hi]
      congr 1
      simp; omega
    · rw [setL_out b i vs w o (.inr (by omega))]
      refine h i v ?_
      rw [List.getElem?_append_right (by simp; omega)] at hi
      rw [List.getElem?_drop] at hi
      rw [← hi]
      congr 1
      simp; omega
end Go.Proofs.Ytmbekamnogbgaab

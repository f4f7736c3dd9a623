/-
Texts in one: what MovePlaces stands on, part 22. Conditions: those of each.
-/
import Derived.Test.YtmbekamnogbgaaaKMovePlaces21

/-
What a region keeps that fills one new block of three cells: what lay before the call, boxes of the call's own, and that block. Conditions: none.
-/
namespace Go.Proofs.Ytmbekamnogbgaaa
open Go Fk Go.RowKit
set_option linter.unusedVariables false

/-- What is kept: w's own memory, boxes with known cells, and a block of three cells that may be written. -/
def Frm (w : World) (L : List (Nat × List Value)) (R : Nat) (w' : World) : Prop :=
  Below w.heap.size w w' ∧ (∀ b l, (b, l) ∈ L → At w' b l ∧ b ≠ R) ∧ w.heap.size ≤ R ∧ (∃ u v t, w'.cell? ⟨R, 0, none⟩ = some u ∧ w'.cell? ⟨R, 1, none⟩ = some v ∧ w'.cell? ⟨R, 2, none⟩ = some t) ∧ Fr w' R
/-- The block holds a vector of these classes. -/
def TV (R : Nat) (c : C3) (w : World) : Prop := ∃ x y z, (w.cell? ⟨R, 0, none⟩ = some (.float .f32 x) ∧ w.cell? ⟨R, 1, none⟩ = some (.float .f32 y) ∧ w.cell? ⟨R, 2, none⟩ = some (.float .f32 z)) ∧ FV .f32 x c.1 ∧ FV .f32 y c.2.1 ∧ FV .f32 z c.2.2
def F3 (x y z : Nat) (c : C3) : Prop := FV .f32 x c.1 ∧ FV .f32 y c.2.1 ∧ FV .f32 z c.2.2
theorem Frm.bel {w w' : World} {L : List (Nat × List Value)} {R : Nat} (h : Frm w L R w') : Below w.heap.size w w' := h.1
theorem Frm.mem {w w' : World} {L : List (Nat × List Value)} {R b : Nat} {l : List Value} (h : Frm w L R w') (hm : (b, l) ∈ L) : At w' b l := (h.2.1 b l hm).1
theorem Frm.lt {w w' : World} {L : List (Nat × List Value)} {R : Nat} (h : Frm w L R w') : R < w'.heap.size := by
  obtain ⟨u, v, t, e, _⟩ := h.2.2.2.1
  exact World.block_lt_of_cell? w' _ e
theorem Frm.call {w w1 w2 : World} {L : List (Nat × List Value)} {R : Nat} (h : Frm w L R w1) (hb : Below w1.heap.size w1 w2) : Frm w L R w2 := by
  have hl := h.lt
  obtain ⟨h1, h2, h3, ⟨u, v, t, e0, e1, e2⟩, h5⟩ := h
  exact ⟨h1.trans (hb.mono h1.size), fun b l hm => ⟨(h2 b l hm).1.below hb, (h2 b l hm).2⟩, h3, ⟨u, v, t, cell_below hb e0, cell_below hb e1, cell_below hb e2⟩, h5.below hb hl⟩
theorem Frm.drewN {w w1 : World} {L : List (Nat × List Value)} {R : Nat} (h : Frm w L R w1) (n : Nat) : Frm w L R (w1.drewN n) := h.call (below_drewN (Below.refl _ _) n)
theorem Frm.put {w w1 : World} {L : List (Nat × List Value)} {R : Nat} (h : Frm w L R w1) (p q r : Value) : Frm w L R (((w1.setCell ⟨R, 0, none⟩ p).setCell ⟨R, 1, none⟩ q).setCell ⟨R, 2, none⟩ r) := by
  obtain ⟨h1, h2, h3, ⟨u, v, t, e0, e1, e2⟩, h5⟩ := h
  have s := set3 (u := p) (v := q) (t := r) e0 e1 e2
  exact ⟨below_set3 h1 h3, fun b l hm => ⟨(((h2 b l hm).1.far (Ne.symm (h2 b l hm).2)).far (Ne.symm (h2 b l hm).2)).far (Ne.symm (h2 b l hm).2), (h2 b l hm).2⟩, h3, ⟨p, q, r, s⟩, ((h5.setC).setC).setC⟩
theorem TV.call {w1 w2 : World} {R : Nat} {c : C3} (hb : Below w1.heap.size w1 w2) (h : TV R c w1) : TV R c w2 := by
  obtain ⟨x, y, z, ⟨e0, e1, e2⟩, f⟩ := h
  exact ⟨x, y, z, ⟨cell_below hb e0, cell_below hb e1, cell_below hb e2⟩, f⟩
theorem TV.drewN {w1 : World} {R : Nat} {c : C3} (n : Nat) (h : TV R c w1) : TV R c (w1.drewN n) := h
theorem TV.put {w w1 : World} {L : List (Nat × List Value)} {R p q r : Nat} {c : C3} (h : Frm w L R w1) (f : F3 p q r c) : TV R c (((w1.setCell ⟨R, 0, none⟩ (.float .f32 p)).setCell ⟨R, 1, none⟩ (.float .f32 q)).setCell ⟨R, 2, none⟩ (.float .f32 r)) := by
  obtain ⟨u, v, t, e0, e1, e2⟩ := h.2.2.2.1
  exact ⟨p, q, r, set3 e0 e1 e2, f⟩
theorem Frm.cells {w w' : World} {L : List (Nat × List Value)} {R : Nat} (h : Frm w L R w') : ∃ u v t, w'.cell? ⟨R, 0, none⟩ = some u ∧ w'.cell? ⟨R, 1, none⟩ = some v ∧ w'.cell? ⟨R, 2, none⟩ = some t := h.2.2.2.1
theorem Frm.free {w w' : World} {L : List (Nat × List Value)} {R : Nat} (h : Frm w L R w') (i : Nat) : w'.frozen? ⟨R, i, none⟩ = false := h.2.2.2.2 i
end Go.Proofs.Ytmbekamnogbgaaa


/-
Lists of vectors that a call may write, and what a region keeps that writes into one. Conditions: none.
-/
namespace Go.Proofs.Ytmbekamnogbgaaa
open Go Fk Go.RowKit
set_option linter.unusedVariables false

/-- A list of vectors in a block of its own, which may be written. -/
def OwnVs (w : World) (g : Nat) (X : List C3) : Prop := (X.length ≤ maxLen ∧ ∀ i, i < X.length → ∃ p q r, (w.cell? ⟨g, i * 3, none⟩ = some (.float .f32 p) ∧ w.cell? ⟨g, i * 3 + 1, none⟩ = some (.float .f32 q) ∧ w.cell? ⟨g, i * 3 + 2, none⟩ = some (.float .f32 r)) ∧ F3 p q r (X.getD i c0)) ∧ Fr w g ∧ g < w.heap.size
theorem OwnVs.is {w : World} {g : Nat} {X : List C3} (h : OwnVs w g X) : IsVs w (some ⟨g, 0, none⟩) X.length X.length X := by
  refine ⟨rfl, Nat.le_refl _, h.1.1, by simp, fun x hx i hi => ?_⟩
  cases hx
  obtain ⟨p, q, r, ⟨k0, k1, k2⟩, f⟩ := h.1.2 i hi
  exact ⟨p, q, r, by rw [addr_add', Nat.zero_add]; exact k0, by rw [addr_add', Nat.zero_add]; exact k1, by rw [addr_add', Nat.zero_add]; exact k2, f⟩
theorem OwnVs.of {w : World} {g n : Nat} {X : List C3} (h : IsVs w (some ⟨g, 0, none⟩) n n X) (hf : Fr w g) (hg : g < w.heap.size) : OwnVs w g X := by
  have hl : X.length = n := h.1
  refine ⟨⟨by rw [hl]; exact h.2.2.1, fun i hi => ?_⟩, hf, hg⟩
  obtain ⟨p, q, r, k0, k1, k2, f⟩ := h.2.2.2.2 _ rfl i (by omega)
  rw [addr_add', Nat.zero_add] at k0 k1 k2
  exact ⟨p, q, r, ⟨k0, k1, k2⟩, f⟩
theorem OwnVs.below {W w : World} {g : Nat} {X : List C3} (hb : Below W.heap.size W w) (h : OwnVs W g X) : OwnVs w g X := by
  refine ⟨⟨h.1.1, fun i hi => ?_⟩, h.2.1.below hb h.2.2, Nat.lt_of_lt_of_le h.2.2 hb.size⟩
  obtain ⟨p, q, r, ⟨k0, k1, k2⟩, f⟩ := h.1.2 i hi
  exact ⟨p, q, r, ⟨cell_below hb k0, cell_below hb k1, cell_below hb k2⟩, f⟩
theorem OwnVs.far {w : World} {g : Nat} {X : List C3} {a : Addr} {u : Value} (hne : a.block ≠ g) (h : OwnVs w g X) : OwnVs (w.setCell a u) g X := by
  refine ⟨⟨h.1.1, fun i hi => ?_⟩, h.2.1.setC, by simpa using h.2.2⟩
  obtain ⟨p, q, r, ⟨k0, k1, k2⟩, f⟩ := h.1.2 i hi
  exact ⟨p, q, r, ⟨cell_set hne k0, cell_set hne k1, cell_set hne k2⟩, f⟩
theorem OwnVs.put {w : World} {g k p q r : Nat} {X : List C3} {c : C3} (h : OwnVs w g X) (hk : k < X.length) (f : F3 p q r c) :
    OwnVs (((w.setCell ⟨g, k * 3, none⟩ (.float .f32 p)).setCell ⟨g, k * 3 + 1, none⟩ (.float .f32 q)).setCell ⟨g, k * 3 + 2, none⟩ (.float .f32 r)) g (X.set k c) := by
  obtain ⟨p0, q0, r0, ⟨k0, k1, k2⟩, _⟩ := h.1.2 k hk
  obtain ⟨e0, e1, e2, eo⟩ := set3k (u := .float .f32 p) (v := .float .f32 q) (t := .float .f32 r) k0 k1 k2
  refine ⟨⟨by rw [List.length_set]; exact h.1.1, fun i hi => ?_⟩, ((h.2.1.setC).setC).setC, by simpa using h.2.2⟩
  rw [List.length_set] at hi
  by_cases hik : i = k
  · subst hik
    refine ⟨p, q, r, ⟨e0, e1, e2⟩, ?_⟩
    have : (X.set i c).getD i c0 = c := by simp [List.getD, hi]
    rw [this]; exact f
  · obtain ⟨p', q', r', ⟨j0, j1, j2⟩, f'⟩ := h.1.2 i hi
    refine ⟨p', q', r', ⟨by rw [eo _ (by omega) (by omega) (by omega)]; exact j0, by rw [eo _ (by omega) (by omega) (by omega)]; exact j1, by rw [eo _ (by omega) (by omega) (by omega)]; exact j2⟩, ?_⟩
    have : (X.set k c).getD i c0 = X.getD i c0 := by simp [List.getD, List.getElem?_set, Ne.symm hik]
    rw [this]; exact f'
theorem OwnVs.at {w : World} {g k : Nat} {X : List C3} (h : OwnVs w g X) (hk : k < X.length) : ∃ p q r, (w.cell? ⟨g, k * 3, none⟩ = some (.float .f32 p) ∧ w.cell? ⟨g, k * 3 + 1, none⟩ = some (.float .f32 q) ∧ w.cell? ⟨g, k * 3 + 2, none⟩ = some (.float .f32 r)) ∧ F3 p q r (X.getD k c0) := h.1.2 k hk
/-- What is kept: w's own memory, boxes of the call's own with known cells, which may be written, and a list of vectors of its own. -/
def St (w : World) (L : List (Nat × List Value)) (g : Nat) (X : List C3) (w' : World) : Prop :=
  Below w.heap.size w w' ∧ (∀ b l, (b, l) ∈ L → At w' b l ∧ Fr w' b ∧ b < w'.heap.size ∧ b ≠ g) ∧ w.heap.size ≤ g ∧ OwnVs w' g X
theorem St.bel {w w' : World} {L : List (Nat × List Value)} {g : Nat} {X : List C3} (h : St w L g X w') : Below w.heap.size w w' := h.1
theorem St.mem {w w' : World} {L : List (Nat × List Value)} {g b : Nat} {X : List C3} {l : List Value} (h : St w L g X w') (hm : (b, l) ∈ L) : At w' b l := (h.2.1 b l hm).1
theorem St.free {w w' : World} {L : List (Nat × List Value)} {g b : Nat} {X : List C3} {l : List Value} (h : St w L g X w') (hm : (b, l) ∈ L) (i : Nat) : w'.frozen? ⟨b, i, none⟩ = false := (h.2.1 b l hm).2.1 i
theorem St.own {w w' : World} {L : List (Nat × List Value)} {g : Nat} {X : List C3} (h : St w L g X w') : OwnVs w' g X := h.2.2.2
theorem St.call {w w1 w2 : World} {L : List (Nat × List Value)} {g : Nat} {X : List C3} (h : St w L g X w1) (hb : Below w1.heap.size w1 w2) : St w L g X w2 :=
  ⟨h.1.trans (hb.mono h.1.size), fun b l hm => ⟨(h.2.1 b l hm).1.below hb, (h.2.1 b l hm).2.1.below hb (h.2.1 b l hm).2.2.1, Nat.lt_of_lt_of_le (h.2.1 b l hm).2.2.1 hb.size, (h.2.1 b l hm).2.2.2⟩, h.2.2.1, h.2.2.2.below hb⟩
theorem St.drewN {w w1 : World} {L : List (Nat × List Value)} {g : Nat} {X : List C3} (h : St w L g X w1) (n : Nat) : St w L g X (w1.drewN n) := h.call (below_drewN (Below.refl _ _) n)
theorem St.put {w w1 : World} {L : List (Nat × List Value)} {g k p q r : Nat} {X : List C3} {c : C3} (h : St w L g X w1) (hk : k < X.length) (f : F3 p q r c) :
    St w L g (X.set k c) (((w1.setCell ⟨g, k * 3, none⟩ (.float .f32 p)).setCell ⟨g, k * 3 + 1, none⟩ (.float .f32 q)).setCell ⟨g, k * 3 + 2, none⟩ (.float .f32 r)) :=
  ⟨((h.1.setCell (p := ⟨g, k * 3, none⟩) h.2.2.1 _).setCell (p := ⟨g, k * 3 + 1, none⟩) h.2.2.1 _).setCell (p := ⟨g, k * 3 + 2, none⟩) h.2.2.1 _,
    fun b l hm => ⟨(((h.2.1 b l hm).1.far (Ne.symm (h.2.1 b l hm).2.2.2)).far (Ne.symm (h.2.1 b l hm).2.2.2)).far (Ne.symm (h.2.1 b l hm).2.2.2), (((h.2.1 b l hm).2.1.setC).setC).setC, by simpa using (h.2.1 b l hm).2.2.1, (h.2.1 b l hm).2.2.2⟩, h.2.2.1, h.2.2.2.put hk f⟩
/-- A new box comes to those that are kept. -/
theorem St.box {w w1 : World} {L : List (Nat × List Value)} {g : Nat} {X : List C3} {vs : List Value} {t : TypeId} (h : St w L g X w1) : St w ((w1.heap.size, vs) :: L) g X (w1.alloc (.cells vs.toArray t)) := by
  have hb : Below w1.heap.size w1 (w1.alloc (.cells vs.toArray t)) := (Below.refl _ _).alloc (Nat.le_refl _) _
  have h2 := h.call hb
  refine ⟨h2.1, fun b l hm => ?_, h2.2.2⟩
  rcases List.mem_cons.1 hm with e | hm
  · cases e; exact ⟨At.new, Fr.new, by simp, fun e => by have := h.2.2.2.2.2; omega⟩
  · exact h2.2.1 b l hm
theorem St.drop {w w1 : World} {L : List (Nat × List Value)} {g : Nat} {X : List C3} {x : Nat × List Value} (h : St w (x :: L) g X w1) : St w L g X w1 := ⟨h.1, fun b l hm => h.2.1 b l (.tail _ hm), h.2.2⟩
/-- Which list a new one is. -/
theorem OwnVs.made {w : World} {n : Nat} (hn : n ≤ 1048576) : OwnVs (w.alloc (.cells (madeCells #[.float .f32 0, .float .f32 0, .float .f32 0] (n * 3)) 34)) w.heap.size (List.replicate n (some 0, some 0, some 0)) := by
  have cell : ∀ j, j < n * 3 → (w.alloc (.cells (madeCells #[.float .f32 0, .float .f32 0, .float .f32 0] (n * 3)) 34)).cell? ⟨w.heap.size, j, none⟩ = some (.float .f32 0) := by
    intro j hj
    have hm : (madeCells #[.float .f32 0, .float .f32 0, .float .f32 0] (n * 3) : Array Value)[j]? = some (.float .f32 0) := by
      unfold madeCells
      have h3 : j % 3 = 0 ∨ j % 3 = 1 ∨ j % 3 = 2 := by omega
      rcases h3 with h | h | h <;> simp [hj, h]
    simp [hm]
  refine ⟨⟨by rw [List.length_replicate]; unfold maxLen; omega, fun i hi => ?_⟩, Fr.new, by simp⟩
  rw [List.length_replicate] at hi
  refine ⟨0, 0, 0, ⟨cell _ (by omega), cell _ (by omega), cell _ (by omega)⟩, ?_⟩
  have : (List.replicate n ((some 0, some 0, some 0) : C3)).getD i c0 = (some 0, some 0, some 0) := by simp [List.getD, hi]
  rw [this]
  exact ⟨⟨by decide, by decide⟩, ⟨by decide, by decide⟩, ⟨by decide, by decide⟩⟩
/-- Boxes of the call's own with known cells, which may be written. -/
def Bx (w : World) (L : List (Nat × List Value)) (w' : World) : Prop :=
  Below w.heap.size w w' ∧ ∀ b l, (b, l) ∈ L → At w' b l ∧ Fr w' b ∧ b < w'.heap.size ∧ w.heap.size ≤ b
theorem Bx.nil (w : World) : Bx w [] w := ⟨Below.refl _ _, fun b l hm => by cases hm⟩
theorem Bx.bel {w w' : World} {L : List (Nat × List Value)} (h : Bx w L w') : Below w.heap.size w w' := h.1
theorem Bx.mem {w w' : World} {L : List (Nat × List Value)} {b : Nat} {l : List Value} (h : Bx w L w') (hm : (b, l) ∈ L) : At w' b l := (h.2 b l hm).1
theorem Bx.free {w w' : World} {L : List (Nat × List Value)} {b : Nat} {l : List Value} (h : Bx w L w') (hm : (b, l) ∈ L) (i : Nat) : w'.frozen? ⟨b, i, none⟩ = false := (h.2 b l hm).2.1 i
theorem Bx.low {w w' : World} {L : List (Nat × List Value)} {b : Nat} {l : List Value} (h : Bx w L w') (hm : (b, l) ∈ L) : w.heap.size ≤ b := (h.2 b l hm).2.2.2
theorem Bx.call {w w1 w2 : World} {L : List (Nat × List Value)} (h : Bx w L w1) (hb : Below w1.heap.size w1 w2) : Bx w L w2 :=
  ⟨h.1.trans (hb.mono h.1.size), fun b l hm => ⟨(h.2 b l hm).1.below hb, (h.2 b l hm).2.1.below hb (h.2 b l hm).2.2.1, Nat.lt_of_lt_of_le (h.2 b l hm).2.2.1 hb.size, (h.2 b l hm).2.2.2⟩⟩
theorem Bx.drewN {w w1 : World} {L : List (Nat × List Value)} (h : Bx w L w1) (n : Nat) : Bx w L (w1.drewN n) := h.call (below_drewN (Below.refl _ _) n)
theorem Bx.box {w w1 : World} {L : List (Nat × List Value)} {vs : List Value} {t : TypeId} (h : Bx w L w1) : Bx w ((w1.heap.size, vs) :: L) (w1.alloc (.cells vs.toArray t)) := by
  have hb : Below w1.heap.size w1 (w1.alloc (.cells vs.toArray t)) := (Below.refl _ _).alloc (Nat.le_refl _) _
  have h2 := h.call hb
  refine ⟨h2.1, fun b l hm => ?_⟩
  rcases List.mem_cons.1 hm with e | hm
  · cases e; exact ⟨At.new, Fr.new, by simp, h.1.size⟩
  · exact h2.2 b l hm
theorem Bx.drop {w w1 : World} {L : List (Nat × List Value)} {x : Nat × List Value} (h : Bx w (x :: L) w1) : Bx w L w1 := ⟨h.1, fun b l hm => h.2 b l (.tail _ hm)⟩
theorem Bx.v3 {w w1 : World} {L : List (Nat × List Value)} {b x y z : Nat} (h : Bx w L w1) (hm : (b, [.float .f32 x, .float .f32 y, .float .f32 z]) ∈ L) : V3 w1 b x y z :=
  ⟨⟨(h.mem hm) 0 _ rfl, (h.mem hm) 1 _ rfl, (h.mem hm) 2 _ rfl⟩, fun i => h.free hm i⟩
/-- A list comes to the boxes. -/
theorem St.of {w w1 w2 : World} {L : List (Nat × List Value)} {g : Nat} {X : List C3} (h : Bx w L w1) (hb : Below w1.heap.size w1 w2) (hg : w1.heap.size ≤ g) (ho : OwnVs w2 g X) : St w L g X w2 := by
  have h2 := h.call hb
  exact ⟨h2.1, fun b l hm => ⟨(h2.2 b l hm).1, (h2.2 b l hm).2.1, (h2.2 b l hm).2.2.1, fun e => by have := (h.2 b l hm).2.2.1; omega⟩, Nat.le_trans h.1.size hg, ho⟩
theorem St.v3 {w w1 : World} {L : List (Nat × List Value)} {g b x y z : Nat} {X : List C3} (h : St w L g X w1) (hm : (b, [.float .f32 x, .float .f32 y, .float .f32 z]) ∈ L) : V3 w1 b x y z :=
  ⟨⟨(h.mem hm) 0 _ rfl, (h.mem hm) 1 _ rfl, (h.mem hm) 2 _ rfl⟩, fun i => h.free hm i⟩
theorem St.ne {w w1 : World} {L : List (Nat × List Value)} {g b : Nat} {X : List C3} {l : List Value} (h : St w L g X w1) (hm : (b, l) ∈ L) : b ≠ g := (h.2.1 b l hm).2.2.2
/-- A new list of vectors. -/
theorem make_vecs (W : World) (n : Nat) (hn : n ≤ 1048576) : (Instr.makeSlice 27 (.int .i64 n) (.int .i64 n)).run Try.prog W = .ok (.slice (some ⟨W.heap.size, 0, none⟩) n n) (W.alloc (.cells (madeCells #[.float .f32 0, .float .f32 0, .float .f32 0] (n * 3)) 34)) := by
  obtain ⟨i0, hi, hz0, hz1, hz2⟩ := info_parts infoV
  have := run_make (P := Try.prog) W 27 34 i0 (.agg #[.float .f32 0, .float .f32 0, .float .f32 0]) Try.underlying27 hi hz0 .i64 .i64 n n (by omega) (Int.le_refl _) (by rw [hz2]; omega) (by omega)
  rw [this, hz1]; simp; rfl
end Go.Proofs.Ytmbekamnogbgaaa


/-
Places that are moved by shares of vectors: what the program makes. Conditions: both lists lie in memory and are of one length.
-/
namespace Go.Proofs.Ytmbekamnogbgaaa
open Go Fk Go.RowKit
set_option linter.unusedVariables false
set_option maxRecDepth 8000

def movC (a b : C3) (d : Option Nat) : C3 := addC a (scaleC' b d)
/-- The first k places are moved, the others are zero. -/
def mkM (xs ys : List C3) (d : Option Nat) (n k : Nat) : List C3 := (List.range n).map fun j => if j < k then movC (xs.getD j c0) (ys.getD j c0) d else z3
theorem mkM_len (xs ys : List C3) (d : Option Nat) (n k : Nat) : (mkM xs ys d n k).length = n := by simp [mkM]
theorem mkM_zero (xs ys : List C3) (d : Option Nat) (n : Nat) : mkM xs ys d n 0 = List.replicate n z3 := by
  apply List.ext_getElem (by simp [mkM])
  intro i h1 h2
  simp [mkM]
theorem mkM_set {xs ys : List C3} {d : Option Nat} {n k : Nat} (hk : k < n) : (mkM xs ys d n k).set k (movC (xs.getD k c0) (ys.getD k c0) d) = mkM xs ys d n (k + 1) := by
  apply List.ext_getElem (by simp [mkM])
  intro i h1 h2
  simp only [mkM, List.getElem_set, List.getElem_map, List.getElem_range]
  by_cases hik : k = i
  · subst hik; simp
  · rw [if_neg hik]
    by_cases h : i < k
    · rw [if_pos h, if_pos (by omega)]
    · rw [if_neg h, if_neg (by omega)]
def put3 (w : World) (g k p q r : Nat) : World := ((w.setCell ⟨g, k * 3, none⟩ (.float .f32 p)).setCell ⟨g, k * 3 + 1, none⟩ (.float .f32 q)).setCell ⟨g, k * 3 + 2, none⟩ (.float .f32 r)
set_option maxHeartbeats 4000000 in
theorem impl_addScaled (a b : Option Addr) (n cap cap' : Nat) (xs ys : List C3) (x : Nat) (d : Option Nat) (w : World) (h : IsVs w a n cap xs) (h' : IsVs w b n cap' ys) (hx : FV .f32 x d) (hn : n ≤ 1048576) :
    Calls Try.prog 88 #[.slice a n cap, .slice b n cap', .float .f32 x] w fun e w' => ∃ g, e = .returned (.slice (some ⟨g, 0, none⟩) n n) ∧ OwnVs w' g (mkM xs ys d n n) ∧ w.heap.size ≤ g ∧ Below w.heap.size w w' := by
  have uv := Try.underlying34
  have u := Try.underlying31
  have hm : n ≤ 9223372036854775807 := by omega
  have hmk := make_vecs w n hn
  have hO0 : OwnVs (w.alloc (.cells (madeCells #[.float .f32 0, .float .f32 0, .float .f32 0] (n * 3)) 34)) w.heap.size (mkM xs ys d n 0) := by rw [mkM_zero]; exact OwnVs.made hn
  have O0 := Lib.hid hO0
  have B0 : Hid (Below w.heap.size w (w.alloc (.cells (madeCells #[.float .f32 0, .float .f32 0, .float .f32 0] (n * 3)) 34))) := Lib.hid ((Below.refl _ _).alloc (Nat.le_refl _) _)
  have H := Lib.hid h
  have H' := Lib.hid h'
  have HX := Lib.hid hx
  clear h h' hx hO0
  go_enter Try.func88, Try.ntmps88
  go_wp2
  generalize (w.alloc (.cells (madeCells #[.float .f32 0, .float .f32 0, .float .f32 0] (n * 3)) 34)) = W0 at *
  obtain ⟨g, hg⟩ : ∃ g, g = w.heap.size := ⟨_, rfl⟩
  rw [← hg] at O0 ⊢
  have HGS := Lib.hid hg
  clear hg hmk
  go_loopw [15] (fun i w' => ∃ k : Nat, k ≤ n ∧ i = .int .i64 k ∧ Aside (OwnVs w' g (mkM xs ys d n k) ∧ Below w.heap.size w w')) (fun i _ => n - (intOf i).toNat)
  case atStart => exact ⟨0, Nat.zero_le _, rfl, O0.out, B0.out⟩
  case round =>
    obtain ⟨k, hk, rfl, hA⟩ := hrel
    have OK := Lib.hid hA.out.1
    have BK := Lib.hid hA.out.2
    clear hA
    by_cases hlt : k < n
    · obtain ⟨b1, o1, rfl, hcell1⟩ := (H.out.below BK.out).some (by omega)
      obtain ⟨b2, o2, rfl, hcell2⟩ := (H'.out.below BK.out).some (by omega)
      obtain ⟨p, q, t, c0', c1', c2', e0, e1, e2⟩ := hcell1 k hlt
      obtain ⟨p', q', t', d0', d1', d2', g0, g1, g2⟩ := hcell2 k hlt
      have hk0 : (0 : Int) ≤ (k : Int) := by omega
      have hk1 : (k : Int) < (n : Int) := by omega
      have HSN := Lib.hid (mkM_set (xs := xs) (ys := ys) (d := d) hlt)
      have FA := Lib.hid (And.intro e0 (And.intro e1 e2))
      have FB := Lib.hid (And.intro g0 (And.intro g1 g2))
      clear hcell1 hcell2 e0 e1 e2 g0 g1 g2
      go_wp2_with fail
      have hG : Below wr.heap.size wr (wr.alloc (.cells #[.float .f32 p, .float .f32 q, .float .f32 t] 34)) := (Below.refl _ _).alloc (Nat.le_refl _) _
      have V : Hid (V3 (wr.alloc (.cells #[.float .f32 p, .float .f32 q, .float .f32 t] 34)) wr.heap.size p q t) := Lib.hid V3.new
      have D0 := Lib.hid (And.intro (cell_below hG d0') (And.intro (cell_below hG d1') (cell_below hG d2')))
      have O1 := Lib.hid (OK.out.below hG)
      have B1 := Lib.hid (BK.out.trans (hG.mono BK.out.size))
      clear hG c0' c1' c2' d0' d1' d2'
      generalize (wr.alloc (.cells #[.float .f32 p, .float .f32 q, .float .f32 t] 34)) = W1 at *
      generalize wr.heap.size = BX at *
      refine Reg6.wp_region_mix (s := 11) (C := fun w' => Below W1.heap.size W1 w') (D := fun _ w' => ∃ wp y z v, Below W1.heap.size W1 wp ∧ F3 y z v (movC (xs.getD k c0) (ys.getD k c0) d) ∧ w' = put3 wp g k y z v) (G := fun w1 w2 => Below w1.heap.size w1 w2)
        (Rv := fun i v => match i with | 0 => v = .slice (some ⟨g, 0, none⟩) n n | 1 => v = .int .i64 k | 2 => v = vv p q t | 3 => v = .slice (some ⟨b2, o2, none⟩) n cap' | 4 => v = .int .i64 k | 5 => v = .pointer (some ⟨b2, o2 + k * 3, none⟩) | 6 => v = vv p' q' t' | 7 => v = .float .f32 x | 8 => ∃ y z u, v = vv y z u ∧ F3 y z u (scaleC' (ys.getD k c0) d) | 9 => ∃ y z u, v = vv y z u ∧ F3 y z u (movC (xs.getD k c0) (ys.getD k c0) d) | 10 => v = .pointer (some ⟨g, k * 3, none⟩) | _ => True)
        (Rw := fun _ _ _ => True) [false, false, false, false, false, false, false, false, false, false, false, false, false, false, false, false, false, false, false, false, true, true, true, true, true, true, true, true, true, true, true, false, false]
        (by kernel_rfl) (by kernel_rfl) (by kernel_rfl) (fun _ _ _ _ _ _ _ => trivial) (below_drewN (Below.refl _ _) 1) ?_ ?_
      · refine ⟨?_, ?_, ?_, ?_, ?_, ?_, ?_, ?_, ?_, ?_, ?_, ?_, trivial⟩
        · refine Reg6.Obl.early rfl (by kernel_rfl) ?_
          rintro a wq hC hx hd K hK
          have t7 : a.tmps[7]?.getD undef = .slice (some ⟨g, 0, none⟩) n n := Reg.slot_val (hx 7 (by kernel_rfl))
          go_simp
          exact hK _ _ rfl trivial hC (Below.refl _ _)
        · refine Reg6.Obl.early rfl (by kernel_rfl) ?_
          rintro a wq hC hx hd K hK
          have t8 : a.tmps[8]?.getD undef = .int .i64 k := Reg.slot_val (hx 8 (by kernel_rfl))
          go_simp
          exact hK _ _ rfl trivial hC (Below.refl _ _)
        · refine Reg6.Obl.early rfl (by kernel_rfl) ?_
          rintro a wq hC hx hd K hK
          have HC := Lib.hid hC
          clear hC
          have t9 : a.tmps[9]?.getD undef = .pointer (some ⟨BX, 0, none⟩) := Reg.slot_val (hx 9 (by kernel_rfl))
          obtain ⟨⟨y0, y1, y2⟩, -⟩ := V.out.below HC.out
          go_simp
          exact hK _ _ rfl trivial HC.out (Below.refl _ _)
        · refine Reg6.Obl.early rfl (by kernel_rfl) ?_
          rintro a wq hC hx hd K hK
          have t1 : a.tmps[1]?.getD undef = .slice (some ⟨b2, o2, none⟩) n cap' := Reg.slot_val (hx 1 (by kernel_rfl))
          go_simp
          exact hK _ _ rfl trivial hC (Below.refl _ _)
        · refine Reg6.Obl.early rfl (by kernel_rfl) ?_
          rintro a wq hC hx hd K hK
          have t8 : a.tmps[8]?.getD undef = .int .i64 k := Reg.slot_val (hx 8 (by kernel_rfl))
          go_simp
          exact hK _ _ rfl trivial hC (Below.refl _ _)
        · refine Reg6.Obl.early rfl (by kernel_rfl) ?_
          rintro a wq hC hx hd K hK
          have HC := Lib.hid hC
          clear hC
          have t23 : a.tmps[23]?.getD undef = .slice (some ⟨b2, o2, none⟩) n cap' := Reg.slot_val (hd 3 23 (by kernel_rfl) rfl).1
          have t24 : a.tmps[24]?.getD undef = .int .i64 k := Reg.slot_val (hd 4 24 (by kernel_rfl) rfl).1
          go_simp
          exact hK _ _ rfl trivial HC.out (Below.refl _ _)
        · refine Reg6.Obl.early rfl (by kernel_rfl) ?_
          rintro a wq hC hx hd K hK
          have HC := Lib.hid hC
          clear hC
          have t25 : a.tmps[25]?.getD undef = .pointer (some ⟨b2, o2 + k * 3, none⟩) := Reg.slot_val (hd 5 25 (by kernel_rfl) rfl).1
          have y0 := cell_below HC.out D0.out.1
          have y1 := cell_below HC.out D0.out.2.1
          have y2 := cell_below HC.out D0.out.2.2
          go_simp
          exact hK _ _ rfl trivial HC.out (Below.refl _ _)
        · refine Reg6.Obl.early rfl (by kernel_rfl) ?_
          rintro a wq hC hx hd K hK
          have t2 : a.tmps[2]?.getD undef = .float .f32 x := Reg.slot_val (hx 2 (by kernel_rfl))
          go_simp
          exact hK _ _ rfl trivial hC (Below.refl _ _)
        · refine Reg6.Obl.early rfl (by kernel_rfl) ?_
          rintro a wq hC hx hd K hK
          have HC := Lib.hid hC
          clear hC
          have t26 : a.tmps[26]?.getD undef = vv p' q' t' := Reg.slot_val (hd 6 26 (by kernel_rfl) rfl).1
          have t27 : a.tmps[27]?.getD undef = .float .f32 x := Reg.slot_val (hd 7 27 (by kernel_rfl) rfl).1
          go_simp
          refine (impl_ScaleVector _ _ _ _ _ _ _ _ _ FB.out.1 FB.out.2.1 FB.out.2.2 HX.out).mono ?_
          rintro en w2 ⟨y, z, u, rfl, f0, f1, f2, hB2⟩
          exact hK _ _ ⟨y, z, u, rfl, f0, f1, f2⟩ trivial (HC.out.trans (hB2.mono HC.out.size)) hB2
        · refine Reg6.Obl.early rfl (by kernel_rfl) ?_
          rintro a wq hC hx hd K hK
          have HC := Lib.hid hC
          clear hC
          have t22 : a.tmps[22]?.getD undef = vv p q t := Reg.slot_val (hd 2 22 (by kernel_rfl) rfl).1
          obtain ⟨y, z, u, g28, f28⟩ := (hd 8 28 (by kernel_rfl) rfl).1
          have t28 := Reg.slot_val g28
          have F28 := Lib.hid f28
          clear g28 f28
          go_simp
          refine (impl_AddVectors _ _ _ _ _ _ _ _ _ _ _ _ _ FA.out.1 FA.out.2.1 FA.out.2.2 F28.out.1 F28.out.2.1 F28.out.2.2).mono ?_
          rintro en w2 ⟨y', z', u', rfl, f0, f1, f2, hB2⟩
          exact hK _ _ ⟨y', z', u', rfl, f0, f1, f2⟩ trivial (HC.out.trans (hB2.mono HC.out.size)) hB2
        · refine Reg6.Obl.early rfl (by kernel_rfl) ?_
          rintro a wq hC hx hd K hK
          have HC := Lib.hid hC
          clear hC
          have t20 : a.tmps[20]?.getD undef = .slice (some ⟨g, 0, none⟩) n n := Reg.slot_val (hd 0 20 (by kernel_rfl) rfl).1
          have t21 : a.tmps[21]?.getD undef = .int .i64 k := Reg.slot_val (hd 1 21 (by kernel_rfl) rfl).1
          go_simp
          exact hK _ _ (by first | rfl | simp) trivial HC.out (Below.refl _ _)
        · refine Reg6.Obl.store rfl ?_
          rintro a wq hC hx hd K hK
          have HC := Lib.hid hC
          clear hC
          have t30 : a.tmps[30]?.getD undef = .pointer (some ⟨g, k * 3, none⟩) := Reg.slot_val (hd 10 30 (by kernel_rfl) rfl).1
          obtain ⟨y, z, v, g29, f29⟩ := (hd 9 29 (by kernel_rfl) rfl).1
          have t29 := Reg.slot_val g29
          have HP : Hid (∃ wp y' z' v', Below W1.heap.size W1 wp ∧ F3 y' z' v' (movC (xs.getD k c0) (ys.getD k c0) d) ∧ put3 wq g k y z v = put3 wp g k y' z' v') := Lib.hid ⟨wq, y, z, v, HC.out, f29, rfl⟩
          obtain ⟨p0, q0, r0, ⟨y0, y1, y2⟩, -⟩ := (O1.out.below HC.out).at (k := k) (by rw [mkM_len]; exact hlt)
          have f0 := (O1.out.below HC.out).2.1 (k * 3)
          have f1 := (O1.out.below HC.out).2.1 (k * 3 + 1)
          have f2 := (O1.out.below HC.out).2.1 (k * 3 + 2)
          clear g29 f29
          go_simp
          exact hK _ HP.out
      · rintro f w2 hD hd
        obtain ⟨wp, y, z, v, hB, hF, rfl⟩ := hD
        simp only [Reg.mixL]
        have O2 := Lib.hid ((O1.out.below hB).put (k := k) (by rw [mkM_len]; exact hlt) hF)
        have B2 := Lib.hid (B1.out.trans (hB.mono B1.out.size))
        have B3 := Lib.hid (below_set3 (o1 := k * 3) (o2 := k * 3 + 1) (o3 := k * 3 + 2) (u := .float .f32 y) (v := .float .f32 z) (t := .float .f32 v) B2.out (show w.heap.size ≤ g by rw [HGS.out]; exact Nat.le_refl _))
        clear hB hF hd
        unfold put3
        go_wp2
        go_roundw
        case rel => exact ⟨k + 1, by omega, by go_num, by rw [← HSN.out]; exact O2.out, B3.out⟩
        case measure => simp [intOf]; omega
    · obtain rfl : k = n := by omega
      go_wp2
      go_ret
      exact ⟨g, rfl, OK.out, by rw [HGS.out]; exact Nat.le_refl _, BK.out⟩
end Go.Proofs.Ytmbekamnogbgaaa

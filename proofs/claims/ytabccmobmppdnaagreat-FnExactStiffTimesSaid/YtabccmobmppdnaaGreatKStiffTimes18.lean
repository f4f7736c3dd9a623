/-
Texts in one: what StiffTimes stands on, part 18. Conditions: those of each.
-/
import Derived.Test.YtabccmobmppdnaaGreatKStiffTimes17
-- halved
namespace Go.Proofs.YtabccmobmppdnaaGreat
open Go Fk Go.RowKit
set_option linter.unusedVariables false
set_option maxRecDepth 8000
end Go.Proofs.YtabccmobmppdnaaGreat
namespace Go.Proofs.YtabccmobmppdnaaGreat
open Go Fk Go.RowKit
set_option linter.unusedVariables false
set_option maxRecDepth 8000
end Go.Proofs.YtabccmobmppdnaaGreat
namespace Go.Proofs.YtabccmobmppdnaaGreat
open Go Fk Go.RowKit
set_option linter.unusedVariables false
set_option maxRecDepth 8000
end Go.Proofs.YtabccmobmppdnaaGreat
namespace Go.Proofs.YtabccmobmppdnaaGreat
open Go Fk Go.RowKit
set_option linter.unusedVariables false
set_option maxRecDepth 8000
end Go.Proofs.YtabccmobmppdnaaGreat
namespace Go.Proofs.YtabccmobmppdnaaGreat
open Go Fk Go.RowKit
set_option linter.unusedVariables false
def OwnVs (w : World) (g : Nat) (X : List C3) : Prop := (X.length ≤ maxLen ∧ ∀ i, i < X.length → ∃ p q r, (w.cell? ⟨g, i * 3, none⟩ = some (.float .f32 p) ∧ w.cell? ⟨g, i * 3 + 1, none⟩ = some (.float .f32 q) ∧ w.cell? ⟨g, i * 3 + 2, none⟩ = some (.float .f32 r)) ∧ F3 p q r (X.getD i c0)) ∧ Fr w g ∧ g < w.heap.size
theorem OwnVs.is {w : World} {g : Nat} {X : List C3} (h : OwnVs w g X) : IsVs w (some ⟨g, 0, none⟩) X.length X.length X := by
 refine ⟨rfl, Nat.le_refl _, h.1.1, by simp, fun x hx i hi => ?_⟩
 cases hx
 obtain ⟨p, q, r, ⟨k0, k1, k2⟩, f⟩ := h.1.2 i hi
 exact ⟨p, q, r, by rw [addr_add', Nat.zero_add]; exact k0, by rw [addr_add', Nat.zero_add]; exact k1, by rw [addr_add', Nat.zero_add]; exact k2, f⟩
theorem OwnVs.below {W w : World} {g : Nat} {X : List C3} (hb : Below W.heap.size W w) (h : OwnVs W g X) : OwnVs w g X := by
 refine ⟨⟨h.1.1, fun i hi => ?_⟩, h.2.1.below hb h.2.2, Nat.lt_of_lt_of_le h.2.2 hb.size⟩
 obtain ⟨p, q, r, ⟨k0, k1, k2⟩, f⟩ := h.1.2 i hi
 exact ⟨p, q, r, ⟨cell_below hb k0, cell_below hb k1, cell_below hb k2⟩, f⟩
theorem OwnVs.far {w : World} {g : Nat} {X : List C3} {a : Addr} {u : Value} (hne : a.block ≠ g) (h : OwnVs w g X) : OwnVs (w.setCell a u) g X := by
 refine ⟨⟨h.1.1, fun i hi => ?_⟩, h.2.1.setC, by simpa using h.2.2⟩
 obtain ⟨p, q, r, ⟨k0, k1, k2⟩, f⟩ := h.1.2 i hi
 exact ⟨p, q, r, ⟨cell_set hne k0, cell_set hne k1, cell_set hne k2⟩, f⟩
theorem OwnVs.put {w : World} {g k p q r : Nat} {X : List C3} {c : C3} (h : OwnVs w g X) (hk : k < X.length) (f : F3 p q r c) :
  OwnVs (((w.setCell ⟨g, k * 3, none⟩ (.float .f32 p)).setCell ⟨g, k * 3 + 1, none⟩ (.float .f32 q)).setCell ⟨g, k * 3 + 2, none⟩ (.float .f32 r)) g (X.set k c) := by
 obtain ⟨p0, q0, r0, ⟨k0, k1, k2⟩, _⟩ := h.1.2 k hk
 obtain ⟨e0, e1, e2, eo⟩ := set3k (u := .float .f32 p) (v := .float .f32 q) (t := .float .f32 r) k0 k1 k2
 refine ⟨⟨by rw [List.length_set]; exact h.1.1, fun i hi => ?_⟩, ((h.2.1.setC).setC).setC, by simpa using h.2.2⟩
 rw [List.length_set] at hi
 by_cases hik : i = k
 ·subst hik
  refine ⟨p, q, r, ⟨e0, e1, e2⟩, ?_⟩
  have : (X.set i c).getD i c0 = c := by simp [List.getD, hi]
  rw [this]; exact f
 ·obtain ⟨p', q', r', ⟨j0, j1, j2⟩, f'⟩ := h.1.2 i hi
  refine ⟨p', q', r', ⟨by rw [eo _ (by omega) (by omega) (by omega)]; exact j0, by rw [eo _ (by omega) (by omega) (by omega)]; exact j1, by rw [eo _ (by omega) (by omega) (by omega)]; exact j2⟩, ?_⟩
  have : (X.set k c).getD i c0 = X.getD i c0 := by simp [List.getD, List.getElem?_set, Ne.symm hik]
  rw [this]; exact f'
theorem OwnVs.at {w : World} {g k : Nat} {X : List C3} (h : OwnVs w g X) (hk : k < X.length) : ∃ p q r, (w.cell? ⟨g, k * 3, none⟩ = some (.float .f32 p) ∧ w.cell? ⟨g, k * 3 + 1, none⟩ = some (.float .f32 q) ∧ w.cell? ⟨g, k * 3 + 2, none⟩ = some (.float .f32 r)) ∧ F3 p q r (X.getD k c0) := h.1.2 k hk
def St (w : World) (L : List (Nat × List Value)) (g : Nat) (X : List C3) (w' : World) : Prop :=
 Below w.heap.size w w' ∧ (∀ b l, (b, l) ∈ L → At w' b l ∧ Fr w' b ∧ b < w'.heap.size ∧ b ≠ g) ∧ w.heap.size ≤ g ∧ OwnVs w' g X
theorem St.bel {w w' : World} {L : List (Nat × List Value)} {g : Nat} {X : List C3} (h : St w L g X w') : Below w.heap.size w w' := h.1
theorem St.mem {w w' : World} {L : List (Nat × List Value)} {g b : Nat} {X : List C3} {l : List Value} (h : St w L g X w') (hm : (b, l) ∈ L) : At w' b l := (h.2.1 b l hm).1
theorem St.free {w w' : World} {L : List (Nat × List Value)} {g b : Nat} {X : List C3} {l : List Value} (h : St w L g X w') (hm : (b, l) ∈ L) (i : Nat) : w'.frozen? ⟨b, i, none⟩ = false := (h.2.1 b l hm).2.1 i
theorem St.own {w w' : World} {L : List (Nat × List Value)} {g : Nat} {X : List C3} (h : St w L g X w') : OwnVs w' g X := h.2.2.2
theorem St.call {w w1 w2 : World} {L : List (Nat × List Value)} {g : Nat} {X : List C3} (h : St w L g X w1) (hb : Below w1.heap.size w1 w2) : St w L g X w2 :=
 ⟨h.1.trans (hb.mono h.1.size), fun b l hm => ⟨(h.2.1 b l hm).1.below hb, (h.2.1 b l hm).2.1.below hb (h.2.1 b l hm).2.2.1, Nat.lt_of_lt_of_le (h.2.1 b l hm).2.2.1 hb.size, (h.2.1 b l hm).2.2.2⟩, h.2.2.1, h.2.2.2.below hb⟩
theorem St.drewN {w w1 : World} {L : List (Nat × List Value)} {g : Nat} {X : List C3} (h : St w L g X w1) (n : Nat) : St w L g X (w1.drewN n) := h.call (below_drewN (Below.refl _ _) n)
theorem St.put {w w1 : World} {L : List (Nat × List Value)} {g k p q r : Nat} {X : List C3} {c : C3} (h : St w L g X w1) (hk : k < X.length) (f : F3 p q r c) :
  St w L g (X.set k c) (((w1.setCell ⟨g, k * 3, none⟩ (.float .f32 p)).setCell ⟨g, k * 3 + 1, none⟩ (.float .f32 q)).setCell ⟨g, k * 3 + 2, none⟩ (.float .f32 r)) :=
 ⟨((h.1.setCell (p := ⟨g, k * 3, none⟩) h.2.2.1 _).setCell (p := ⟨g, k * 3 + 1, none⟩) h.2.2.1 _).setCell (p := ⟨g, k * 3 + 2, none⟩) h.2.2.1 _,
  fun b l hm => ⟨(((h.2.1 b l hm).1.far (Ne.symm (h.2.1 b l hm).2.2.2)).far (Ne.symm (h.2.1 b l hm).2.2.2)).far (Ne.symm (h.2.1 b l hm).2.2.2), (((h.2.1 b l hm).2.1.setC).setC).setC, by simpa using (h.2.1 b l hm).2.2.1, (h.2.1 b l hm).2.2.2⟩, h.2.2.1, h.2.2.2.put hk f⟩
theorem St.box {w w1 : World} {L : List (Nat × List Value)} {g : Nat} {X : List C3} {vs : List Value} {t : TypeId} (h : St w L g X w1) : St w ((w1.heap.size, vs) :: L) g X (w1.alloc (.cells vs.toArray t)) := by
 have hb : Below w1.heap.size w1 (w1.alloc (.cells vs.toArray t)) := (Below.refl _ _).alloc (Nat.le_refl _) _
 have h2 := h.call hb
 refine ⟨h2.1, fun b l hm => ?_, h2.2.2⟩
 rcases List.mem_cons.1 hm with e | hm
 ·cases e; exact ⟨At.new, Fr.new, by simp, fun e => by have := h.2.2.2.2.2; omega⟩
 ·exact h2.2.1 b l hm
theorem St.drop {w w1 : World} {L : List (Nat × List Value)} {g : Nat} {X : List C3} {x : Nat × List Value} (h : St w (x :: L) g X w1) : St w L g X w1 := ⟨h.1, fun b l hm => h.2.1 b l (.tail _ hm), h.2.2⟩
theorem OwnVs.made {w : World} {n : Nat} (hn : n ≤ 1048576) : OwnVs (w.alloc (.cells (madeCells #[.float .f32 0, .float .f32 0, .float .f32 0] (n * 3)) 42)) w.heap.size (List.replicate n (some 0, some 0, some 0)) := by
 have cell : ∀ j, j < n * 3 → (w.alloc (.cells (madeCells #[.float .f32 0, .float .f32 0, .float .f32 0] (n * 3)) 42)).cell? ⟨w.heap.size, j, none⟩ = some (.float .f32 0) := by
  intro j hj
  have hm : (madeCells #[.float .f32 0, .float .f32 0, .float .f32 0] (n * 3) : Array Value)[j]? = some (.float .f32 0) := by
   unfold madeCells
   have h3 : j % 3 = 0 ∨ j % 3 = 1 ∨ j % 3 = 2 := by omega
   rcases h3 with h | h | h <;> simp [hj, h]
  simp [hm]
 refine ⟨⟨by rw [List.length_replicate]; unfold maxLen; omega, fun i hi => ?_⟩, Fr.new, by simp⟩
 rw [List.length_replicate] at hi
 refine ⟨0, 0, 0, ⟨cell _ (by omega), cell _ (by omega), cell _ (by omega)⟩, ?_⟩
 have : (List.replicate n ((some 0, some 0, some 0) : C3)).getD i c0 = (some 0, some 0, some 0) := by simp [List.getD, hi]
 rw [this]
 exact ⟨⟨by decide, by decide⟩, ⟨by decide, by decide⟩, ⟨by decide, by decide⟩⟩
def Bx (w : World) (L : List (Nat × List Value)) (w' : World) : Prop :=
 Below w.heap.size w w' ∧ ∀ b l, (b, l) ∈ L → At w' b l ∧ Fr w' b ∧ b < w'.heap.size ∧ w.heap.size ≤ b
theorem Bx.nil (w : World) : Bx w [] w := ⟨Below.refl _ _, fun b l hm => by cases hm⟩
theorem Bx.bel {w w' : World} {L : List (Nat × List Value)} (h : Bx w L w') : Below w.heap.size w w' := h.1
theorem Bx.mem {w w' : World} {L : List (Nat × List Value)} {b : Nat} {l : List Value} (h : Bx w L w') (hm : (b, l) ∈ L) : At w' b l := (h.2 b l hm).1
theorem Bx.free {w w' : World} {L : List (Nat × List Value)} {b : Nat} {l : List Value} (h : Bx w L w') (hm : (b, l) ∈ L) (i : Nat) : w'.frozen? ⟨b, i, none⟩ = false := (h.2 b l hm).2.1 i
theorem Bx.low {w w' : World} {L : List (Nat × List Value)} {b : Nat} {l : List Value} (h : Bx w L w') (hm : (b, l) ∈ L) : w.heap.size ≤ b := (h.2 b l hm).2.2.2
theorem Bx.call {w w1 w2 : World} {L : List (Nat × List Value)} (h : Bx w L w1) (hb : Below w1.heap.size w1 w2) : Bx w L w2 :=
 ⟨h.1.trans (hb.mono h.1.size), fun b l hm => ⟨(h.2 b l hm).1.below hb, (h.2 b l hm).2.1.below hb (h.2 b l hm).2.2.1, Nat.lt_of_lt_of_le (h.2 b l hm).2.2.1 hb.size, (h.2 b l hm).2.2.2⟩⟩
theorem Bx.drewN {w w1 : World} {L : List (Nat × List Value)} (h : Bx w L w1) (n : Nat) : Bx w L (w1.drewN n) := h.call (below_drewN (Below.refl _ _) n)
theorem Bx.box {w w1 : World} {L : List (Nat × List Value)} {vs : List Value} {t : TypeId} (h : Bx w L w1) : Bx w ((w1.heap.size, vs) :: L) (w1.alloc (.cells vs.toArray t)) := by
 have hb : Below w1.heap.size w1 (w1.alloc (.cells vs.toArray t)) := (Below.refl _ _).alloc (Nat.le_refl _) _
 have h2 := h.call hb
 refine ⟨h2.1, fun b l hm => ?_⟩
 rcases List.mem_cons.1 hm with e | hm
 ·cases e; exact ⟨At.new, Fr.new, by simp, h.1.size⟩
 ·exact h2.2 b l hm
theorem St.of {w w1 w2 : World} {L : List (Nat × List Value)} {g : Nat} {X : List C3} (h : Bx w L w1) (hb : Below w1.heap.size w1 w2) (hg : w1.heap.size ≤ g) (ho : OwnVs w2 g X) : St w L g X w2 := by
 have h2 := h.call hb
 exact ⟨h2.1, fun b l hm => ⟨(h2.2 b l hm).1, (h2.2 b l hm).2.1, (h2.2 b l hm).2.2.1, fun e => by have := (h.2 b l hm).2.2.1; omega⟩, Nat.le_trans h.1.size hg, ho⟩
theorem make_vecs (W : World) (n : Nat) (hn : n ≤ 1048576) : (Instr.makeSlice 36 (.int .i64 n) (.int .i64 n)).run Tryz.prog W = .ok (.slice (some ⟨W.heap.size, 0, none⟩) n n) (W.alloc (.cells (madeCells #[.float .f32 0, .float .f32 0, .float .f32 0] (n * 3)) 42)) := by
 obtain ⟨i0, hi, hz0, hz1, hz2⟩ := info_parts infoV
 have := run_make (P := Tryz.prog) W 36 42 i0 (.agg #[.float .f32 0, .float .f32 0, .float .f32 0]) Tryz.underlying36 hi hz0 .i64 .i64 n n (by omega) (Int.le_refl _) (by rw [hz2]; omega) (by omega)
 rw [this, hz1]; simp; rfl
end Go.Proofs.YtabccmobmppdnaaGreat

/-
Texts in one: what RestOf stands on, part 11. Conditions: those of each.
-/
import Derived.Test.YtcgnmnbjgamedabGreatKRestOf10
import Derived.Maps.OwnOps
import Derived.Maps.OwnSet
import Derived.Maps.OwnRows
import Derived.DeepKeys4
import Derived.Lib.Hide
import Derived.Shelf.SlIter.Collect
import Derived.Shelf.AbstractIn
import Derived.RangeFuncSeq
import Derived.RangeFuncGives
import Derived.Sort.MapsRangeIn
import Derived.Sort.KeysCollected
import Derived.WalkKit
import Derived.OwnWalkIn
import Derived.TacticsInMore
import Derived.RegionIn
import Derived.LoopNIn
import Derived.LoopIn

/-
Where lists lie that a function made, and what moved meshes are. Conditions: none.
-/
namespace Go.Proofs.YtcgnmnbjgamedabGreat
open Go Fk Go.RowKit
set_option linter.unusedVariables false
set_option maxRecDepth 8000
/-- A list at the head of a block from lo to hi, or none. -/
def LV (lo hi : Nat) (a : Option Addr) : Prop := ∀ x, a = some x → ∃ g, x = ⟨g, 0, none⟩ ∧ lo ≤ g ∧ g < hi
/-- A list of rows, it and its rows in blocks from lo to hi. -/
def LT (lo hi : Nat) (w : World) (a : Option Addr) (n : Nat) : Prop := ∀ x, a = some x → ∃ g, x = ⟨g, 0, none⟩ ∧ lo ≤ g ∧ g < hi ∧ ∀ i, i < n → ∃ b m c, w.cell? ⟨g, i, none⟩ = some (.slice b m c) ∧ ∀ y, b = some y → ∃ h o, y = ⟨h, o, none⟩ ∧ lo ≤ h ∧ h < hi
theorem LT.below {lo hi n : Nat} {w w' : World} {a : Option Addr} (h : LT lo hi w a n) (hB : Below w.heap.size w w') : LT lo hi w' a n := fun x hx => by
  obtain ⟨g, e, h1, h2, h3⟩ := h x hx
  refine ⟨g, e, h1, h2, fun i hlt => ?_⟩
  obtain ⟨b, m, c, hc, hb⟩ := h3 i hlt
  exact ⟨b, m, c, cell_below hB hc, hb⟩
theorem LV.wide {lo hi lo' hi' : Nat} {a : Option Addr} (h : LV lo hi a) (h1 : lo' ≤ lo) (h2 : hi ≤ hi') : LV lo' hi' a := fun x hx => by
  obtain ⟨g, e, k1, k2⟩ := h x hx
  exact ⟨g, e, by omega, by omega⟩
theorem LT.wide {lo hi lo' hi' n : Nat} {w : World} {a : Option Addr} (h : LT lo hi w a n) (h1 : lo' ≤ lo) (h2 : hi ≤ hi') : LT lo' hi' w a n := fun x hx => by
  obtain ⟨g, e, k1, k2, k3⟩ := h x hx
  refine ⟨g, e, by omega, by omega, fun i hlt => ?_⟩
  obtain ⟨b, m, c, hc, hb⟩ := k3 i hlt
  refine ⟨b, m, c, hc, fun y hy => ?_⟩
  obtain ⟨q, o, e, u1, u2⟩ := hb y hy
  exact ⟨q, o, e, by omega, by omega⟩
theorem cell0_of {w : World} {b Z : Nat} {e : TypeId} {x y : Value} (h : w.ownsRow b e 2 (.slice (some ⟨Z, 0, none⟩) 1 1) 1 [x, y]) : w.cell? ⟨Z, 0, none⟩ = some x := by rw [h.cellAt 0 (by decide)]; rfl
theorem cell1_of {w : World} {b Z : Nat} {e : TypeId} {x y : Value} (h : w.ownsRow b e 2 (.slice (some ⟨Z, 0, none⟩) 1 1) 1 [x, y]) : w.cell? ⟨Z, 1, none⟩ = some y := by rw [h.cellAt 1 (by decide)]; rfl
theorem lv_of_owns {w : World} {base n : Nat} {e : TypeId} {s c : Nat} {a : Option Addr} {xs : List Value} (h : w.ownsRow base e s (.slice a n c) n xs) : LV base w.heap.size a := fun x hx => by
  subst hx
  rcases h.2 with ⟨e, _⟩ | ⟨g, c, cur, e, hb, hh, _⟩
  · cases e
  · have := h.lt g (by rw [e]; rfl)
    cases e
    exact ⟨g, rfl, this⟩
theorem lt_of_owns {w : World} {base n : Nat} {c : Nat} {a : Option Addr} {ts : List (List Int)} (h : OwnT base w (.slice a n c) n ts) : LT base w.heap.size w a n := fun x hx => by
  obtain ⟨rows, h1, h2⟩ := h
  obtain ⟨g, e, u1, u2⟩ := lv_of_owns h1 x hx
  subst hx
  subst e
  refine ⟨g, rfl, u1, u2, fun i hlt => ?_⟩
  obtain ⟨u, e1, e2⟩ := h2 i hlt
  obtain ⟨b, c', rfl⟩ := owns_slice e2
  refine ⟨b, _, c', by rw [h1.cellAt i (by omega)]; exact e1, fun y hy => ?_⟩
  obtain ⟨q, e, v1, v2⟩ := lv_of_owns e2 y hy
  exact ⟨q, 0, e, v1, v2⟩
/-- Cells that hold the vectors that F names. -/
def PVf (n : Nat) (xs : List Value) (F : Nat → C3) : Prop := ∀ j, j < n → ∃ p q r, xs[j * 3]? = some (.float .f32 p) ∧ xs[j * 3 + 1]? = some (.float .f32 q) ∧ xs[j * 3 + 2]? = some (.float .f32 r) ∧ FV .f32 p (F j).1 ∧ FV .f32 q (F j).2.1 ∧ FV .f32 r (F j).2.2
def upto (f : C3 → C3) (cs : List C3) (k j : Nat) : C3 := if j < k then f (cs.getD j c0) else cs.getD j c0
theorem PVf.start {n : Nat} {xs : List Value} {cs : List C3} (f : C3 → C3) (h : PV n xs cs) : PVf n xs (upto f cs 0) := fun j hj => by
  obtain ⟨p, q, r, h1⟩ := h j hj
  exact ⟨p, q, r, by unfold upto; rw [if_neg (by omega)]; exact h1⟩
theorem PVf.step {n k : Nat} {xs : List Value} {cs : List C3} {f : C3 → C3} (h : PVf n xs (upto f cs k)) (hl : xs.length = n * 3) (hk : k < n) {p q r : Nat} (hf : FV .f32 p (f (cs.getD k c0)).1 ∧ FV .f32 q (f (cs.getD k c0)).2.1 ∧ FV .f32 r (f (cs.getD k c0)).2.2) :
    PVf n (((xs.set (k * 3) (.float .f32 p)).set (k * 3 + 1) (.float .f32 q)).set (k * 3 + 2) (.float .f32 r)) (upto f cs (k + 1)) := fun j hj => by
  by_cases hjk : j = k
  · subst hjk
    refine ⟨p, q, r, ?_, ?_, ?_, by unfold upto; rw [if_pos (by omega)]; exact hf⟩
    · rw [List.getElem?_set_ne (by omega), List.getElem?_set_ne (by omega), List.getElem?_set_self (by omega)]
    · rw [List.getElem?_set_ne (by omega), List.getElem?_set_self (by simp; omega)]
    · rw [List.getElem?_set_self (by simp; omega)]
  · obtain ⟨p', q', r', h1, h2, h3, h4⟩ := h j hj
    refine ⟨p', q', r', ?_, ?_, ?_, ?_⟩
    · rw [List.getElem?_set_ne (by omega), List.getElem?_set_ne (by omega), List.getElem?_set_ne (by omega)]; exact h1
    · rw [List.getElem?_set_ne (by omega), List.getElem?_set_ne (by omega), List.getElem?_set_ne (by omega)]; exact h2
    · rw [List.getElem?_set_ne (by omega), List.getElem?_set_ne (by omega), List.getElem?_set_ne (by omega)]; exact h3
    · have : upto f cs (k + 1) j = upto f cs k j := by
        unfold upto
        by_cases h : j < k
        · rw [if_pos h, if_pos (by omega)]
        · rw [if_neg h, if_neg (by omega)]
      rw [this]; exact h4
theorem PVf.done {n : Nat} {xs : List Value} {cs : List C3} {f : C3 → C3} (h : PVf n xs (upto f cs n)) (hn : cs.length = n) : PV n xs (cs.map f) := fun j hj => by
  obtain ⟨p, q, r, h1, h2, h3, h4⟩ := h j hj
  refine ⟨p, q, r, h1, h2, h3, ?_⟩
  have : (cs.map f).getD j c0 = upto f cs n j := by
    unfold upto
    rw [if_pos hj]
    simp [List.getD, hn, hj]
  rw [this]; exact h4
/-- A vector of three cells that stays. -/
def VB (w : World) (b x y z : Nat) : Prop := w.cell? ⟨b, 0, none⟩ = some (.float .f32 x) ∧ w.cell? ⟨b, 1, none⟩ = some (.float .f32 y) ∧ w.cell? ⟨b, 2, none⟩ = some (.float .f32 z)
theorem VB.below {w w' : World} {b x y z : Nat} (h : VB w b x y z) (hB : Below w.heap.size w w') : VB w' b x y z := ⟨cell_below hB h.1, cell_below hB h.2.1, cell_below hB h.2.2⟩
theorem VB.set {w : World} {b x y z g j : Nat} {u : Value} (h : VB w b x y z) (hg : g ≠ b) : VB (w.setCell ⟨g, j, none⟩ u) b x y z :=
  ⟨by rw [World.cell?_setCell_other _ _ _ _ (by simp [hg])]; exact h.1, by rw [World.cell?_setCell_other _ _ _ _ (by simp [hg])]; exact h.2.1, by rw [World.cell?_setCell_other _ _ _ _ (by simp [hg])]; exact h.2.2⟩
theorem tri_partsh {n : Nat} {t : List Int} (h : triB n t = true) : t.length = 3 ∧ (∀ i, i < 3 → 0 ≤ t.getD i 0 ∧ (t.getD i 0).toNat < n) := by
  unfold triB at h
  simp only [Bool.and_eq_true, decide_eq_true_eq] at h
  obtain ⟨⟨h3, ⟨h0, h1⟩, h2⟩, _⟩ := h
  refine ⟨h3, fun i hi => ?_⟩
  have a0 := of_decide_eq_true h0
  have a1 := of_decide_eq_true h1
  have a2 := of_decide_eq_true h2
  have : i = 0 ∨ i = 1 ∨ i = 2 := by omega
  rcases this with rfl | rfl | rfl <;> omega
theorem valid_rowh {cs : List C3} {ts : List (List Int)} {k : Nat} (h : validB cs ts = true) (hk : k < ts.length) : triB cs.length (ts.getD k []) = true := by
  unfold validB at h
  simp only [Bool.and_eq_true] at h
  have := List.all_eq_true.1 h.2 (ts[k]) (List.getElem_mem hk)
  simpa [List.getD, hk] using this
theorem valid_pl {cs : List C3} {ts : List (List Int)} (h : validB cs ts = true) : cs.length ≤ 64 ∧ ts.length ≤ 128 := by
  unfold validB at h; simp at h; exact h.1
end Go.Proofs.YtcgnmnbjgamedabGreat

/-
Writing a list of values beside one another into one block. Conditions: none.
-/
namespace Go.Proofs.YtcgnmnbjgamedabGreat
open Go Fk Go.RowKit
set_option linter.unusedVariables false
set_option maxRecDepth 8000

/-- Cells that are written one behind another. -/
def setL (w : World) (g : Nat) : Nat → List Value → World
  | _, [] => w
  | o, v :: vs => setL (w.setCell ⟨g, o, none⟩ v) g (o + 1) vs
theorem setL_size (g : Nat) : ∀ (vs : List Value) (w : World) (o : Nat), (setL w g o vs).heap.size = w.heap.size
  | [], w, o => rfl
  | v :: vs, w, o => by rw [setL, setL_size g vs]; simp
theorem setL_frozen (g : Nat) (a : Addr) : ∀ (vs : List Value) (w : World) (o : Nat), (setL w g o vs).frozen? a = w.frozen? a
  | [], w, o => rfl
  | v :: vs, w, o => by rw [setL, setL_frozen g a vs]; simp
theorem setL_out (g m : Nat) : ∀ (vs : List Value) (w : World) (o : Nat), (m < o ∨ o + vs.length ≤ m) → (setL w g o vs).cell? ⟨g, m, none⟩ = w.cell? ⟨g, m, none⟩
  | [], w, o, h => rfl
  | v :: vs, w, o, h => by
    simp only [List.length_cons] at h
    rw [setL, setL_out g m vs _ _ (by omega), World.cell?_setCell_other _ _ _ _ (by simp <;> omega)]
theorem setL_far (g b i : Nat) (hne : g ≠ b) : ∀ (vs : List Value) (w : World) (o : Nat), (setL w g o vs).cell? ⟨b, i, none⟩ = w.cell? ⟨b, i, none⟩
  | [], w, o => rfl
  | v :: vs, w, o => by rw [setL, setL_far g b i hne vs, World.cell?_setCell_far (h := hne)]
theorem setL_in (g : Nat) : ∀ (vs : List Value) (w : World) (o : Nat), (∀ j, j < vs.length → ∃ u, w.cell? ⟨g, o + j, none⟩ = some u) → ∀ j, j < vs.length → (setL w g o vs).cell? ⟨g, o + j, none⟩ = vs[j]?
  | [], w, o, h, j, hj => by simp at hj
  | v :: vs, w, o, h, 0, hj => by
    rw [setL, setL_out g _ vs _ _ (by omega)]
    obtain ⟨u, hu⟩ := h 0 (by simp)
    simpa using World.cell?_setCell_same w ⟨g, o + 0, none⟩ v hu
  | v :: vs, w, o, h, j + 1, hj => by
    rw [setL, show o + (j + 1) = o + 1 + j by omega]
    rw [setL_in g vs _ (o + 1) (fun i hi => by
      obtain ⟨u, hu⟩ := h (i + 1) (by simp; omega)
      exact ⟨u, by rw [World.cell?_setCell_other _ _ _ _ (by simp <;> omega), show o + 1 + i = o + (i + 1) by omega]; exact hu⟩) j (by simpa using hj)]
    simp
theorem setL_below {B : Nat} {W : World} (g : Nat) (hB : B ≤ g) : ∀ (vs : List Value) (w : World) (o : Nat), Below B W w → Below B W (setL w g o vs)
  | [], w, o, h => h
  | v :: vs, w, o, h => setL_below g hB vs _ _ (h.setCell (p := ⟨g, o, none⟩) hB v)
end Go.Proofs.YtcgnmnbjgamedabGreat

/-
What a call leaves as it was, by blocks; bodies that lie in some blocks; copies of bodies. Conditions: at most 2^20 of each.
-/
namespace Go.Proofs.YtcgnmnbjgamedabGreat
open Go Fk Go.RowKit
set_option linter.unusedVariables false
set_option maxRecDepth 8000

/-- Cells of some blocks are as they were. -/
structure Agree (S : Nat → Prop) (W w : World) : Prop where
  cell : ∀ b i v, S b → W.cell? ⟨b, i, none⟩ = some v → w.cell? ⟨b, i, none⟩ = some v
  frozen : ∀ b i, S b → b < W.heap.size → w.frozen? ⟨b, i, none⟩ = W.frozen? ⟨b, i, none⟩
  size : W.heap.size ≤ w.heap.size
theorem Agree.refl (S : Nat → Prop) (w : World) : Agree S w w := ⟨fun _ _ _ _ h => h, fun _ _ _ _ => rfl, Nat.le_refl _⟩
theorem Agree.trans {S : Nat → Prop} {a b c : World} (h : Agree S a b) (k : Agree S b c) : Agree S a c :=
  ⟨fun x i v hs hv => k.cell x i v hs (h.cell x i v hs hv), fun x i hs hx => (k.frozen x i hs (Nat.lt_of_lt_of_le hx h.size)).trans (h.frozen x i hs hx), Nat.le_trans h.size k.size⟩
theorem Agree.of_below {S : Nat → Prop} {W w : World} (h : Below W.heap.size W w) : Agree S W w :=
  ⟨fun b i v _ hv => cell_below h hv, fun b i _ hb => h.frozen (p := ⟨b, i, none⟩) hb, h.size⟩
theorem Agree.set {S : Nat → Prop} {W w : World} {b i : Nat} {u : Value} (h : Agree S W w) (hb : ¬ S b) : Agree S W (w.setCell ⟨b, i, none⟩ u) :=
  ⟨fun x j v hs hv => by
    have hne : b ≠ x := fun e => hb (e ▸ hs)
    rw [World.cell?_setCell_other _ _ _ _ (by simp [hne])]
    exact h.cell x j v hs hv, fun x j hs hx => by simp; exact h.frozen x j hs hx, by simpa using h.size⟩
theorem Agree.setL {S : Nat → Prop} {W : World} {g : Nat} (hg : ¬ S g) : ∀ (vs : List Value) (w : World) (o : Nat), Agree S W w → Agree S W (setL w g o vs)
  | [], w, o, h => h
  | v :: vs, w, o, h => Agree.setL hg vs _ _ (h.set hg)
theorem Agree.less {S T : Nat → Prop} {W w : World} (h : Agree S W w) (hT : ∀ b, T b → S b) : Agree T W w :=
  ⟨fun b i v hb hv => h.cell b i v (hT b hb) hv, fun b i hb hl => h.frozen b i (hT b hb) hl, h.size⟩

theorem vs_agree {S : Nat → Prop} {W w : World} {lo hi : Nat} {a : Option Addr} {n c : Nat} {cs : List C3} (h : IsVs W a n c cs) (hl : LV lo hi a) (hS : ∀ b, lo ≤ b → b < hi → S b) (hA : Agree S W w) : IsVs w a n c cs := by
  obtain ⟨h1, h2, h3, h4, h5⟩ := h
  refine ⟨h1, h2, h3, h4, fun x hx i hlt => ?_⟩
  obtain ⟨p, q, r, k0, k1, k2, hf⟩ := h5 x hx i hlt
  obtain ⟨b, rfl, l1, l2⟩ := hl x hx
  have hs := hS b l1 l2
  rw [addr_add'] at k0 k1 k2
  exact ⟨p, q, r, by rw [addr_add']; exact hA.cell _ _ _ hs k0, by rw [addr_add']; exact hA.cell _ _ _ hs k1, by rw [addr_add']; exact hA.cell _ _ _ hs k2, hf⟩
theorem fs_agree {S : Nat → Prop} {W w : World} {lo hi : Nat} {a : Option Addr} {n c : Nat} {zs : List Nat} (h : IsFs .f32 W a n c zs) (hl : LV lo hi a) (hS : ∀ b, lo ≤ b → b < hi → S b) (hA : Agree S W w) : IsFs .f32 w a n c zs := by
  obtain ⟨h1, h2, h3, h4, h5, h6⟩ := h
  refine ⟨h1, h2, h3, h4, h5, fun x hx i hlt => ?_⟩
  have k0 := h6 x hx i hlt
  obtain ⟨b, rfl, l1, l2⟩ := hl x hx
  rw [addr_add'] at k0 ⊢
  exact hA.cell _ _ _ (hS b l1 l2) k0
theorem ss_agree {S : Nat → Prop} {W w : World} {lo hi : Nat} {a : Option Addr} {n c : Nat} {ss : List SC} (h : IsSs W a n c ss) (hl : LV lo hi a) (hS : ∀ b, lo ≤ b → b < hi → S b) (hA : Agree S W w) : IsSs w a n c ss := by
  obtain ⟨h1, h2, h3, h4, h5, h6⟩ := h
  refine ⟨h1, h2, h3, h4, h5, fun x hx i hlt => ?_⟩
  obtain ⟨p, q, k0, k1, k2, k3, hf⟩ := h6 x hx i hlt
  obtain ⟨b, rfl, l1, l2⟩ := hl x hx
  have hs := hS b l1 l2
  rw [addr_add'] at k0 k1 k2 k3
  exact ⟨p, q, by rw [addr_add']; exact hA.cell _ _ _ hs k0, by rw [addr_add']; exact hA.cell _ _ _ hs k1, by rw [addr_add']; exact hA.cell _ _ _ hs k2, by rw [addr_add']; exact hA.cell _ _ _ hs k3, hf⟩
theorem lt_agree {S : Nat → Prop} {W w : World} {lo hi n : Nat} {a : Option Addr} (hl : LT lo hi W a n) (hS : ∀ b, lo ≤ b → b < hi → S b) (hA : Agree S W w) : LT lo hi w a n := fun x hx => by
  obtain ⟨g, e, h1, h2, h3⟩ := hl x hx
  refine ⟨g, e, h1, h2, fun i hlt => ?_⟩
  obtain ⟨b, m, c, hc, hb⟩ := h3 i hlt
  exact ⟨b, m, c, hA.cell _ _ _ (hS g h1 h2) hc, hb⟩
theorem ts_agree {S : Nat → Prop} {W w : World} {lo hi : Nat} {a : Option Addr} {n c : Nat} {ts : List (List Int)} (h : IsTs W a n c ts) (hl : LT lo hi W a n) (hS : ∀ b, lo ≤ b → b < hi → S b) (hA : Agree S W w) : IsTs w a n c ts := by
  obtain ⟨h1, h2, h3, h4, h5⟩ := h
  refine ⟨h1, h2, h3, h4, fun x hx i hlt => ?_⟩
  obtain ⟨g, e, l1, l2, u3⟩ := hl x hx
  obtain ⟨b, m, q, hc, hI⟩ := h5 x hx i hlt
  subst e
  rw [addr_add', Nat.zero_add] at hc
  obtain ⟨b', m', q', hc', hb'⟩ := u3 i hlt
  rw [hc] at hc'
  cases hc'
  refine ⟨b, m, q, by rw [addr_add', Nat.zero_add]; exact hA.cell _ _ _ (hS g l1 l2) hc, ?_⟩
  obtain ⟨i1, i2, i3, i4, i5, i6⟩ := hI
  refine ⟨i1, i2, i3, i4, i5, fun z hz j hj => ?_⟩
  have := i6 z hz j hj
  obtain ⟨h', o, e', w1, w2⟩ := hb' z hz
  subst e'
  rw [addr_add'] at this ⊢
  exact hA.cell _ _ _ (hS h' w1 w2) this
/-- A body that lies in blocks from lo to hi. -/
def LB (lo hi : Nat) (w : World) (B : Bd) : Prop := LV lo hi B.pa ∧ LT lo hi w B.ta B.tl ∧ LV lo hi B.sa ∧ LV lo hi B.wa
theorem LB.agree {S : Nat → Prop} {W w : World} {lo hi : Nat} {B : Bd} (h : LB lo hi W B) (hS : ∀ b, lo ≤ b → b < hi → S b) (hA : Agree S W w) : LB lo hi w B :=
  ⟨h.1, lt_agree h.2.1 hS hA, h.2.2⟩
theorem LB.wide {lo hi lo' hi' : Nat} {w : World} {B : Bd} (h : LB lo hi w B) (h1 : lo' ≤ lo) (h2 : hi ≤ hi') : LB lo' hi' w B :=
  ⟨h.1.wide h1 h2, h.2.1.wide h1 h2, h.2.2.1.wide h1 h2, h.2.2.2.wide h1 h2⟩
theorem IsB.agree {S : Nat → Prop} {W w : World} {lo hi : Nat} {B : Bd} {c : Bc} (h : IsB W B c) (hl : LB lo hi W B) (hS : ∀ b, lo ≤ b → b < hi → S b) (hA : Agree S W w) : IsB w B c :=
  ⟨vs_agree h.1 hl.1 hS hA, ts_agree h.2.1 hl.2.1 hS hA, ss_agree h.2.2.1 hl.2.2.1 hS hA, fs_agree h.2.2.2.1 hl.2.2.2 hS hA, h.2.2.2.2⟩
/-- What an own box holds when it is filled. -/
theorem at_setL {w : World} {b o : Nat} {l vs : List Value} (h : At w b l) (hl : o + vs.length ≤ l.length) : At (setL w b o vs) b (l.take o ++ vs ++ l.drop (o + vs.length)) := by
  intro i v hi
  have hin := setL_in b vs w o (fun j hj => by
    have : o + j < l.length := by omega
    exact ⟨l[o + j], h (o + j) _ (by simp [this])⟩)
  by_cases h1 : i < o
  · rw [setL_out b i vs w o (.inl h1)]
    refine h i v ?_
    rw [List.append_assoc, List.getElem?_append_left (by simp; omega)] at hi
    simpa [h1] using hi
  · by_cases h2 : i < o + vs.length
    · have := hin (i - o) (by omega)
      rw [show o + (i - o) = i by omega] at this
      rw [this]
      rw [List.append_assoc, List.getElem?_append_right (by simp; omega), List.getElem?_append_left (by simp; omega)] at hi
      rw [← hi]
      congr 1
      simp; omega
    · rw [setL_out b i vs w o (.inr (by omega))]
      refine h i v ?_
      rw [List.getElem?_append_right (by simp; omega)] at hi
      rw [List.getElem?_drop] at hi
      rw [← hi]
      congr 1
      simp; omega
end Go.Proofs.YtcgnmnbjgamedabGreat

/-
Maps whose keys are edges: how a key reads, and what a map of lists holds. Conditions: none.
-/
namespace Go.Proofs.YtcgnmnbjgamedabGreat
open Go Fk Go.RowKit Go.Maps
open Go.ChangeShapes (lits)
set_option linter.unusedVariables false
set_option maxRecDepth 8000

theorem laidOutE : laidOutB Tryz.prog = true := by kernel_rfl
theorem sizeE : ∃ m, Tryz.prog.types.size = m + 1 := ⟨Tryz.prog.types.size - 1, by kernel_rfl⟩
theorem edgeWide : (match Tryz.prog.underlying 181 with | some (.array _ _) | some (.struct _) => true | _ => false) = true := by kernel_rfl
theorem edgeType : Tryz.prog.keyTypeAt 2 181 = true := by kernel_rfl
theorem edgeKey : Tryz.prog.keyType 181 = true := by kernel_rfl
theorem edgeCells : Tryz.prog.cellsOf 181 = 2 := by kernel_rfl
theorem intCellsE : Tryz.prog.cellsOf 2 = 1 := by kernel_rfl
theorem edgeTiled : Tryz.prog.tiled 2 181 = true := tiled_of_laidOut laidOutE 2 _ (by kernel_rfl) edgeType
theorem edgeKeyed : Keyed Tryz.prog 181 := Keyed.of_law (deep_law_laid laidOutE (m := 2) (by omega) (of_decide_eq_true (by kernel_rfl)) edgeType edgeWide)
/-- What a pair of numbers reads as. -/
def kE (s : Int × Int) : Lit := .string (keyBytes [.int .i64 s.1, .int .i64 s.2])
theorem keyOf_edge {a b : Int} (wa : (Lit.int .i64 a).wf = true) (wb : (Lit.int .i64 b).wf = true) : keyOf Tryz.prog 181 (.agg #[.int .i64 a, .int .i64 b]) = some (kE (a, b)) := by
  have us := Tryz.underlying181
  have ui := Tryz.underlying2
  obtain ⟨m, hm⟩ := sizeE
  unfold keyOf
  simp only [us]
  rw [if_pos (by simp [edgeKey, Value.formed, us, edgeCells]), hm]
  unfold Program.keyLits
  simp only [us, Value.cells]
  rw [if_pos (by rw [edgeCells]; exact ⟨rfl, by kernel_rfl⟩)]
  simp [Program.keyLits, ui, intCellsE, wa, wb, kE]
theorem kE_inj {a b c d : Int} (wa : (Lit.int .i64 a).wf = true) (wb : (Lit.int .i64 b).wf = true) (wc : (Lit.int .i64 c).wf = true) (wd : (Lit.int .i64 d).wf = true) (h : kE (a, b) = kE (c, d)) : (a, b) = (c, d) := by
  have h1 := keyOf_edge wa wb
  have h2 := keyOf_edge wc wd
  rw [h] at h1
  have := keyOf_inj_deep edgeTiled edgeWide h1 h2
  simpa using this
theorem kE_key (s : Int × Int) : WideAt.IsKeyLit (kE s) := by
  unfold kE
  exact trivial
/-- What a key that can be read is. -/
theorem keyOf_edge_inv {v : Value} {l : Lit} (h : keyOf Tryz.prog 181 v = some l) : ∃ a b : Int, v = .agg #[.int .i64 a, .int .i64 b] ∧ (Lit.int .i64 a).wf = true ∧ (Lit.int .i64 b).wf = true ∧ l = kE (a, b) := by
  have us := Tryz.underlying181
  have ui := Tryz.underlying2
  obtain ⟨m, hm⟩ := sizeE
  unfold keyOf at h
  simp only [us] at h
  split at h
  · rename_i hf
    rw [hm] at h
    simp only [Bool.and_eq_true] at hf
    have hform := hf.2
    unfold Program.keyLits at h
    simp only [us] at h
    split at h
    · rename_i hc
      rw [edgeCells] at hc
      cases v with
      | agg cs =>
        simp only [Value.cells] at h hc
        obtain ⟨l0⟩ := cs
        match l0, hc.1 with
        | [x, y], _ =>
          cases x with
          | int k1 a =>
            by_cases h1 : k1 = IntKind.i64 ∧ (Lit.int .i64 a).wf = true
            · obtain ⟨rfl, wa⟩ := h1
              cases y with
              | int k2 b =>
                by_cases h2 : k2 = IntKind.i64 ∧ (Lit.int .i64 b).wf = true
                · obtain ⟨rfl, wb⟩ := h2
                  simp [Program.keyLits, ui, intCellsE, wa, wb] at h
                  exact ⟨a, b, rfl, wa, wb, by unfold kE; exact h.symm⟩
                · simp [Program.keyLits, ui, intCellsE, wa, h2] at h
              | _ => simp [Program.keyLits, ui, intCellsE, wa] at h
            · simp [Program.keyLits, ui, intCellsE, h1] at h
          | _ => simp [Program.keyLits, ui, intCellsE] at h
      | _ => simp [Value.formed, us] at hform
    · simp at h
  · cases h
/-- The numbers of the triangles that a list of pairs has for an edge. -/
def grp (L : List ((Int × Int) × Int)) (e : Int × Int) : List Int := (L.filter fun p => decide (p.1 = e)).map (·.2)
theorem grp_snoc (L : List ((Int × Int) × Int)) (e e' : Int × Int) (i : Int) : grp (L ++ [(e, i)]) e' = grp L e' ++ (if e = e' then [i] else []) := by
  unfold grp
  rw [List.filter_append, List.map_append]
  by_cases h : e = e' <;> simp [h]
def datG (zs : List Int) : DataW Unit := if zs = [] then .nil else .slice (lits .i64 zs) []
/-- A map that holds these lists. -/
def GroupsOf (D : DataW Unit) (L : List ((Int × Int) × Int)) : Prop := IsMap D ∧ (∀ a b, (Lit.int .i64 a).wf = true → (Lit.int .i64 b).wf = true → D.atKey (kE (a, b)) .nil = datG (grp L (a, b))) ∧ ∀ a b, (Lit.int .i64 a).wf = true → (Lit.int .i64 b).wf = true → has D (kE (a, b)) = true → (a, b) ∈ L.map (·.1)
theorem GroupsOf.nil : GroupsOf (.map []) [] := ⟨isMap_empty, fun a b _ _ => by simp [DataW.atKey, grp, datG], fun a b _ _ h => by simp [has_eq] at h⟩
theorem GroupsOf.put {D : DataW Unit} {L : List ((Int × Int) × Int)} {x y i : Int} (h : GroupsOf D L) (wx : (Lit.int .i64 x).wf = true) (wy : (Lit.int .i64 y).wf = true) : GroupsOf (D.put (kE (x, y)) (.slice (lits .i64 (grp L (x, y) ++ [i])) [])) (L ++ [((x, y), i)]) := by
  refine ⟨h.1.put _ _, fun a b wa wb => ?_, fun a b wa wb hh => ?_⟩
  rotate_left
  · by_cases e : (x, y) = (a, b)
    · rw [← e]; simp
    · rw [has_put_other (fun e' => e (kE_inj wa wb wx wy e').symm)] at hh
      rw [List.map_append]
      exact List.mem_append_left _ (h.2.2 a b wa wb hh)
  rw [grp_snoc]
  by_cases e : (x, y) = (a, b)
  · rw [← e, atKey_put_same h.1 (kE_key _), if_pos rfl]
    unfold datG
    rw [if_neg (by simp)]
  · rw [atKey_put_other (fun e' => e (kE_inj wa wb wx wy e').symm), h.2.1 a b wa wb, if_neg e, List.append_nil]
theorem lits_inj {zs ys : List Int} (h : lits (H := Unit) .i64 zs = lits .i64 ys) : zs = ys := by
  unfold lits at h
  exact (List.map_inj_right (fun a b hab => by simpa using hab)).1 h
theorem group_is {W : World} {base : Nat} {v : Value} {zs : List Int} {D : DataW Unit} {L : List ((Int × Int) × Int)} {x y : Int} (hF : GroupsOf D L) (wx : (Lit.int .i64 x).wf = true) (wy : (Lit.int .i64 y).wf = true) (hat : D.atKey (kE (x, y)) .nil = rowDatum .i64 v zs) (ho : W.ownsInts base 2 .i64 v zs) : zs = grp L (x, y) := by
  rw [hF.2.1 x y wx wy] at hat
  unfold datG at hat
  rcases ho.datum (H := Unit) with ⟨h1, h2⟩ | h1
  · rw [h1] at hat
    split at hat
    · rename_i h; rw [h2, h]
    · cases hat
  · rw [h1] at hat
    split at hat
    · cases hat
    · injection hat with h3 h4
      exact (lits_inj h3).symm
/-- A key that stands in the list stands in the map. -/
theorem GroupsOf.has_of {D : DataW Unit} {L : List ((Int × Int) × Int)} (h : GroupsOf D L) {a b : Int} (wa : (Lit.int .i64 a).wf = true) (wb : (Lit.int .i64 b).wf = true) (hm : (a, b) ∈ L.map (·.1)) : has D (kE (a, b)) = true := by
  cases hh : has D (kE (a, b))
  · exfalso
    have h1 := h.2.1 a b wa wb
    obtain ⟨es, rfl⟩ := h.1
    have hz : (DataW.map es).atKey (kE (a, b)) .nil = .nil := by
      rw [has_eq] at hh
      simp only [DataW.atKey]
      have : es.find? (fun p => p.1.sameKey (kE (a, b))) = none := by
        rw [List.find?_eq_none]
        intro p hp
        have := List.any_eq_false.1 hh p hp
        simpa using this
      rw [this]
    rw [hz] at h1
    unfold datG at h1
    split at h1
    · rename_i hg
      obtain ⟨p, hp, e⟩ := List.mem_map.1 hm
      have : p.2 ∈ grp L (a, b) := List.mem_map.2 ⟨p, List.mem_filter.2 ⟨hp, by simp [e]⟩, rfl⟩
      rw [hg] at this
      cases this
    · cases h1
  · rfl
end Go.Proofs.YtcgnmnbjgamedabGreat

/-
maps.Keys at a map of lists by edges: its iterator gives the keys, each once. Conditions: none.
-/
namespace Go.Proofs.YtcgnmnbjgamedabGreat
open Go Fk Go.RowKit Go.Maps Go.Sort Go.Shelf
set_option linter.unusedVariables false
set_option maxRecDepth 100000

def wfE (x : Int × Int) : Prop := (Lit.int .i64 x.1).wf = true ∧ (Lit.int .i64 x.2).wf = true
def encE (x : Int × Int) : Value := .agg #[.int .i64 x.1, .int .i64 x.2]
theorem encE_inj {x y : Int × Int} (h : encE x = encE y) : x = y := by
  obtain ⟨a, b⟩ := x
  obtain ⟨c, d⟩ := y
  simpa [encE] using h
theorem kE_inj2 {x y : Int × Int} (wx : wfE x) (wy : wfE y) (h : kE x = kE y) : x = y := kE_inj wx.1 wx.2 wy.1 wy.2 h
theorem kE_self (x : Int × Int) : (kE x).sameKey (kE x) = true := by
  unfold kE
  simp [Lit.sameKey]
theorem kE_other {x y : Int × Int} (h : kE x ≠ kE y) : (kE x).sameKey (kE y) = false := by
  unfold kE at *
  simpa [Lit.sameKey] using h
/-- No key twice; a key is on the list just where the map has it and it is no longer to come. -/
def CollectedE (D0 : DataW Unit) (left : Lit → Bool) (ss : List (Int × Int)) : Prop := ss.Nodup ∧ ∀ x, x ∈ ss ↔ (wfE x ∧ has D0 (kE x) = true ∧ left (kE x) = false)
theorem CollectedE.start (D0 : DataW Unit) : CollectedE D0 (has D0) [] := ⟨List.nodup_nil, fun x => by cases has D0 (kE x) <;> simp⟩
theorem CollectedE.step {D0 : DataW Unit} {left : Lit → Bool} {ss : List (Int × Int)} (h : CollectedE D0 left ss) {x : Int × Int} (wx : wfE x) {y : DataW Unit} (hlk : left (kE x) = true) (hat : ∀ zd, D0.atKey (kE x) zd = y) : CollectedE D0 (fun z => left z && !z.sameKey (kE x)) (ss ++ [x]) := by
  have hhas : has D0 (kE x) = true := has_true_of_atKey hat
  have hnew : x ∉ ss := fun hx => by have := ((h.2 x).1 hx).2.2; rw [hlk] at this; cases this
  refine ⟨List.nodup_append.2 ⟨h.1, by simp, fun a ha b hb => by simp at hb; subst hb; exact fun e => hnew (e ▸ ha)⟩, fun y => ?_⟩
  by_cases hy : y = x
  · subst hy; simp [hhas, kE_self, wx]
  · rw [List.mem_append, h.2 y]
    simp only [List.mem_singleton, hy, or_false]
    refine and_congr_right fun wy => and_congr_right fun _ => ?_
    have : kE y ≠ kE x := fun e => hy (kE_inj2 wy wx e)
    simp [kE_other this]
/-- What an iterator over a map's keys gives. -/
def KeysE (D0 : DataW Unit) (ss : List (Int × Int)) : Prop := ss.Nodup ∧ ∀ x, x ∈ ss ↔ (wfE x ∧ has D0 (kE x) = true)
theorem CollectedE.done {D0 : DataW Unit} {left : Lit → Bool} {ss : List (Int × Int)} (h : CollectedE D0 left ss) (hl : ∀ kl, left kl = false) : KeysE D0 ss := ⟨h.1, fun x => by rw [h.2 x, hl]; simp⟩
theorem map_of_groups {w : World} {P : Program} {k : TypeId} {base : Nat} {e : TypeId} {q : IntKind} {b n : Nat} {D : DataW Unit} (h : w.ownsGroups P k base e q b n D) : w.ownsMap P k (rowElem (H := Unit) w base e q) b n D := by
  obtain ⟨es, clock, hb, F, hs, hD, _⟩ := h
  exact ⟨es, clock, hb, F, hs, hD⟩

set_option maxHeartbeats 1000000 in
theorem keysE1 (n : Nat) (hn : 1 ≤ n) (l Bm b nn : Nat) (D0 : DataW Unit) {R : Value → Option (DataW Unit × List MemPlace)} (J : List (Int × Int) → World → Prop)
    (hY : ∀ pre x W, J pre W → pre.length < Maps.size D0 → YieldAt Fence.wide (n - 1) Tryz.prog l #[encE x] W fun e W' => e = .returned (.bool true) ∧ J (pre ++ [x]) W' ∧ KeepsWalks W W')
    (W : World) (hJ : AbidesFrom W.heap.size J) (hm : W.cell? ⟨Bm, 0, none⟩ = some (.map (some b))) (hown : W.ownsMap Tryz.prog 181 R b nn D0) (h0 : J [] W) :
    CallsIn Fence.wide n Tryz.prog 171 #[.func (.yield l) #[] #[], .pointer (some ⟨Bm, 0, none⟩)] W fun e W' => (∃ v, e = .returned v) ∧ ∃ ss : List (Int × Int), KeysE D0 ss ∧ J ss W' := by
  have um := Tryz.underlying176
  have ue := Tryz.underlying181
  have hro : Fence.wide.round = none := rfl
  refine callsIn_of_wp Tryz.func171 rfl trivial ?_ rfl
  simp only [Tryz.ntmps171, List.size_toArray, List.length_cons, List.length_nil, Nat.reduceAdd, Nat.reduceSub, Array.replicate_succ, Array.replicate_zero, List.push_toArray, List.append_toArray, List.nil_append, List.cons_append]
  gi_wp2_with (first
    | (gi_at_range; refine wpListIn_range_own _ rfl _ 176 rfl 181 49 edgeKeyed um _ b nn _ rfl hown ?_; intro w0 hrg0 hg0 hs0)
    | gi_in)
  go_frame
  gi_loopw [3] (fun _ wr => ∃ (left : Lit → Bool) (cnt : Nat) (ss : List (Int × Int)), wr.ranges Tryz.prog 181 R b W.heap.size nn D0 left cnt ∧ ss.length + cnt ≤ Maps.size D0 ∧ CollectedE D0 left ss ∧ J ss wr)
    (fun _ wr => wr.rangeLeft b W.heap.size)
  case atStart =>
    exact ⟨_, _, [], hrg0, by simp, CollectedE.start D0, hJ [] W w0 none h0 hg0 (fun r e => by cases e)⟩
  case round =>
    obtain ⟨left, cnt, ss, hrg, hcs, hC, hJs⟩ := hrel
    gi_wp2_with (first
      | (gi_at_next; refine wpListIn_next_ranges _ rfl _ rfl 181 edgeKeyed R encE id (fun key kl hk => by obtain ⟨a, b, hx, _⟩ := keyOf_edge_inv hk; exact ⟨(a, b), hx⟩) (fun v _ _ => ⟨v, rfl⟩) b W.heap.size nn _ _ _ rfl hrg ?_ ?_)
      | gi_in)
    · intro hc0 hl0
      gi_wp2
      go_end0
      exact ⟨⟨_, rfl⟩, ss, hC.done hl0, hJs⟩
    · intro x1 x2 c kl yd yp w2 cnt2 hkey hlk hv hat hrg2 hlt hg2 hs2 hen
      obtain ⟨a, b', ex, wa, wb, rfl⟩ := keyOf_edge_inv hkey
      obtain ⟨rfl, rfl⟩ := Prod.mk.inj (encE_inj (x := (x1, x2)) (y := (a, b')) ex)
      have hJ2 : J ss w2 := hJ ss wr w2 (some W.heap.size) hJs hg2 (fun r e => by cases e; exact ⟨Nat.le_refl _, hrg.iter_walk⟩)
      have hJ3 : J ss (w2.alloc (.cells #[.int .i64 x1, .int .i64 x2] 181)) := hJ ss w2 _ none hJ2 (World.grownBy_alloc _ _ _) (fun r e => by cases e)
      obtain ⟨fn, tmps, assign, body, hy, hR⟩ := hY ss (x1, x2) _ hJ3 (by omega)
      change (Instr.yield l #[.agg #[.int .i64 x1, .int .i64 x2]]).run Tryz.prog _ = _ at hy
      change (Instr.entry _).run Tryz.prog _ = Result.ok (.tuple #[.agg #[.int .i64 x1, .int .i64 x2], c]) _ at hen
      clear hs2
      gi_wp2
      refine hR.mono ?_
      rintro e W3 ⟨rfl, hJ4, hk3⟩
      gi_wp2
      have hrg3 := hrg2.of_walks ((KeepsWalks.alloc _ _).trans hk3)
      go_roundw
      case rel => exact ⟨_, cnt2, ss ++ [(x1, x2)], hrg3, by simp; omega, hC.step ⟨wa, wb⟩ hlk hat, hJ4⟩
      case measure => rw [hrg3.left_eq, hrg.left_eq]; exact hlt
theorem keysE_gives (n : Nat) (hn : 1 ≤ n) (Bm b nn : Nat) (D0 : DataW Unit) {R : Value → Option (DataW Unit × List MemPlace)} (w : World) (hBm : Bm < w.heap.size)
    (hm : w.cell? ⟨Bm, 0, none⟩ = some (.map (some b))) (hown : w.ownsMap Tryz.prog 181 R b nn D0) :
    SeqGives Fence.wide n Tryz.prog 171 #[.pointer (some ⟨Bm, 0, none⟩)] encE (KeysE D0) (Maps.size D0) w := fun l J W hW hJ hY h0 => by
  have hown' : W.ownsMap Tryz.prog 181 R b nn D0 := by
    have hbl := hown.lt
    obtain ⟨es, clock, hb, Ft, hs, hD⟩ := hown
    exact ⟨es, clock, (hW.block b hbl).trans hb, Ft, hs, hD⟩
  exact keysE1 n hn l Bm b nn D0 J hY W hJ ((hW.cell (p := ⟨Bm, 0, none⟩) hBm).trans hm) hown' h0
/-- maps.Keys: the map is boxed; the function value holds the box. -/
theorem maps_KeysE (n : Nat) (mb : Option Nat) (w : World) :
    CallsIn Fence.wide n Tryz.prog 156 #[.map mb] w fun e w' => e = .returned (.func (.func 171) #[] #[.pointer (some ⟨w.heap.size, 0, none⟩)]) ∧ w' = w.alloc (.cells #[.map mb] 176) := by
  have um := Tryz.underlying176
  refine callsIn_of_wp Tryz.func156 rfl trivial ?_ rfl
  simp only [Tryz.ntmps156, List.size_toArray, List.length_cons, List.length_nil, Nat.reduceAdd, Nat.reduceSub, Array.replicate_succ, Array.replicate_zero, List.push_toArray, List.append_toArray, List.nil_append, List.cons_append]
  gi_wp2
  go_ret
  exact ⟨rfl, rfl⟩
end Go.Proofs.YtcgnmnbjgamedabGreat

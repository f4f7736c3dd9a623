/-
Texts in one: what HingesOf stands on, part 10. Conditions: those of each.
-/
import Derived.Test.YtockhhfehjoldabKHingesOf9
import Derived.Maps.OwnOps
import Derived.Maps.OwnSet
import Derived.Maps.OwnRows
import Derived.DeepKeys4
import Derived.Lib.Hide

/-
Where lists lie that a function made, and what moved meshes are. Conditions: none.
-/
namespace Go.Proofs.Ytockhhfehjoldab
open Go Fk Go.RowKit
set_option linter.unusedVariables false
set_option maxRecDepth 8000
/-- A list at the head of a block from lo to hi, or none. -/
def LV (lo hi : Nat) (a : Option Addr) : Prop := ∀ x, a = some x → ∃ g, x = ⟨g, 0, none⟩ ∧ lo ≤ g ∧ g < hi
/-- A list of rows, it and its rows in blocks from lo to hi. -/
def LT (lo hi : Nat) (w : World) (a : Option Addr) (n : Nat) : Prop := ∀ x, a = some x → ∃ g, x = ⟨g, 0, none⟩ ∧ lo ≤ g ∧ g < hi ∧ ∀ i, i < n → ∃ b m c, w.cell? ⟨g, i, none⟩ = some (.slice b m c) ∧ ∀ y, b = some y → ∃ h o, y = ⟨h, o, none⟩ ∧ lo ≤ h ∧ h < hi
theorem LT.below {lo hi n : Nat} {w w' : World} {a : Option Addr} (h : LT lo hi w a n) (hB : Below w.heap.size w w') : LT lo hi w' a n := fun x hx => by
  obtain ⟨g, e, h1, h2, h3⟩ := h x hx
  refine ⟨g, e, h1, h2, fun i hlt => ?_⟩
  obtain ⟨b, m, c, hc, hb⟩ := h3 i hlt
  exact ⟨b, m, c, cell_below hB hc, hb⟩
theorem LV.wide {lo hi lo' hi' : Nat} {a : Option Addr} (h : LV lo hi a) (h1 : lo' ≤ lo) (h2 : hi ≤ hi') : LV lo' hi' a := fun x hx => by
  obtain ⟨g, e, k1, k2⟩ := h x hx
  exact ⟨g, e, by omega, by omega⟩
theorem LT.wide {lo hi lo' hi' n : Nat} {w : World} {a : Option Addr} (h : LT lo hi w a n) (h1 : lo' ≤ lo) (h2 : hi ≤ hi') : LT lo' hi' w a n := fun x hx => by
  obtain ⟨g, e, k1, k2, k3⟩ := h x hx
  refine ⟨g, e, by omega, by omega, fun i hlt => ?_⟩
  obtain ⟨b, m, c, hc, hb⟩ := k3 i hlt
  refine ⟨b, m, c, hc, fun y hy => ?_⟩
  obtain ⟨q, o, e, u1, u2⟩ := hb y hy
  exact ⟨q, o, e, by omega, by omega⟩
theorem vs_away {lo hi lo' hi' : Nat} {w w' : World} {a : Option Addr} {n cap : Nat} {cs : List C3} (h : IsVs w a n cap cs) (hl : LV lo' hi' a) (hM : Mark lo hi w w') (ho : hi' ≤ lo ∨ hi ≤ lo') : IsVs w' a n cap cs := by
  obtain ⟨h1, h2, h3, h4, h5⟩ := h
  refine ⟨h1, h2, h3, h4, fun x hx i hlt => ?_⟩
  obtain ⟨b, e, u1, u2⟩ := hl x hx
  obtain ⟨p, q, r, k0, k1, k2, hf⟩ := h5 x hx i hlt
  subst e
  rw [addr_add'] at k0 k1 k2
  have hb : b < lo ∨ hi ≤ b := by omega
  exact ⟨p, q, r, by rw [addr_add']; exact hM.cell hb k0, by rw [addr_add']; exact hM.cell hb k1, by rw [addr_add']; exact hM.cell hb k2, hf⟩
theorem ts_away {lo hi lo' hi' : Nat} {w w' : World} {a : Option Addr} {n cap : Nat} {ts : List (List Int)} (h : IsTs w a n cap ts) (hl : LT lo' hi' w a n) (hM : Mark lo hi w w') (ho : hi' ≤ lo ∨ hi ≤ lo') : IsTs w' a n cap ts ∧ LT lo' hi' w' a n := by
  obtain ⟨h1, h2, h3, h4, h5⟩ := h
  refine ⟨⟨h1, h2, h3, h4, fun x hx i hlt => ?_⟩, fun x hx => ?_⟩
  · obtain ⟨R, e, u1, u2, u3⟩ := hl x hx
    obtain ⟨G, c, c', hc, hI⟩ := h5 x hx i hlt
    obtain ⟨b, m, c2, hc2, hb⟩ := u3 i hlt
    subst e
    rw [addr_add', Nat.zero_add] at hc
    have hbR : R < lo ∨ hi ≤ R := by omega
    rw [hc2] at hc
    cases hc
    refine ⟨_, _, _, by rw [addr_add', Nat.zero_add]; exact hM.cell hbR hc2, ?_⟩
    obtain ⟨i1, i2, i3, i4, i5, i6⟩ := hI
    refine ⟨i1, i2, i3, i4, i5, fun y hy j hj => ?_⟩
    obtain ⟨F, o, e, v1, v2⟩ := hb y hy
    have := i6 y hy j hj
    subst e
    rw [addr_add'] at this ⊢
    have hbF : F < lo ∨ hi ≤ F := by omega
    exact hM.cell hbF this
  · obtain ⟨R, e, u1, u2, u3⟩ := hl x hx
    refine ⟨R, e, u1, u2, fun i hlt => ?_⟩
    obtain ⟨b, m, c2, hc2, hb⟩ := u3 i hlt
    have hbR : R < lo ∨ hi ≤ R := by omega
    exact ⟨b, m, c2, hM.cell hbR hc2, hb⟩
/-- The answer of a function that makes a mesh, or none: where its lists lie, and what is in them. -/
def Made (w w' : World) (e : Ending) (ok : Bool) (cs : List C3) (ts : List (List Int)) : Prop :=
  (∃ a c a' c', e = .returned (.tuple #[.agg #[.slice a cs.length c, .slice a' ts.length c'], .bool ok]) ∧ IsVs w' a cs.length c cs ∧ IsTs w' a' ts.length c' ts ∧ LV w.heap.size w'.heap.size a ∧ LT w.heap.size w'.heap.size w' a' ts.length) ∧ Below w.heap.size w w'
theorem made_none {w w' : World} {ok : Bool} (hB : Below w.heap.size w w') : Made w w' (.returned (.tuple #[.agg #[.slice none 0 0, .slice none 0 0], .bool ok])) ok [] [] :=
  ⟨⟨none, 0, none, 0, rfl, ⟨rfl, Nat.le_refl _, by unfold maxLen; omega, fun _ => ⟨rfl, rfl⟩, fun x hx => (by cases hx)⟩, ⟨rfl, Nat.le_refl _, by unfold maxLen; omega, fun _ => ⟨rfl, rfl⟩, fun x hx => (by cases hx)⟩, fun x hx => (by cases hx), fun x hx => (by cases hx)⟩, hB⟩
def rV (f : C3 → C3) (cs : List C3) (ts : List (List Int)) : List C3 := if validB cs ts = true then cs.map f else []
def rT (cs : List C3) (ts : List (List Int)) : List (List Int) := if validB cs ts = true then ts else []
theorem rV_no {f : C3 → C3} {cs : List C3} {ts : List (List Int)} (h : validB cs ts = false) : rV f cs ts = [] := by unfold rV; rw [if_neg (by rw [h]; decide)]
theorem rT_no {cs : List C3} {ts : List (List Int)} (h : validB cs ts = false) : rT cs ts = [] := by unfold rT; rw [if_neg (by rw [h]; decide)]
theorem rV_yes {f : C3 → C3} {cs : List C3} {ts : List (List Int)} (h : validB cs ts = true) : rV f cs ts = cs.map f := by unfold rV; rw [if_pos h]
theorem rT_yes {cs : List C3} {ts : List (List Int)} (h : validB cs ts = true) : rT cs ts = ts := by unfold rT; rw [if_pos h]
theorem cell0_of {w : World} {b Z : Nat} {e : TypeId} {x y : Value} (h : w.ownsRow b e 2 (.slice (some ⟨Z, 0, none⟩) 1 1) 1 [x, y]) : w.cell? ⟨Z, 0, none⟩ = some x := by rw [h.cellAt 0 (by decide)]; rfl
theorem cell1_of {w : World} {b Z : Nat} {e : TypeId} {x y : Value} (h : w.ownsRow b e 2 (.slice (some ⟨Z, 0, none⟩) 1 1) 1 [x, y]) : w.cell? ⟨Z, 1, none⟩ = some y := by rw [h.cellAt 1 (by decide)]; rfl
theorem lv_of_owns {w : World} {base n : Nat} {e : TypeId} {s c : Nat} {a : Option Addr} {xs : List Value} (h : w.ownsRow base e s (.slice a n c) n xs) : LV base w.heap.size a := fun x hx => by
  subst hx
  rcases h.2 with ⟨e, _⟩ | ⟨g, c, cur, e, hb, hh, _⟩
  · cases e
  · have := h.lt g (by rw [e]; rfl)
    cases e
    exact ⟨g, rfl, this⟩
theorem lt_of_owns {w : World} {base n : Nat} {c : Nat} {a : Option Addr} {ts : List (List Int)} (h : OwnT base w (.slice a n c) n ts) : LT base w.heap.size w a n := fun x hx => by
  obtain ⟨rows, h1, h2⟩ := h
  obtain ⟨g, e, u1, u2⟩ := lv_of_owns h1 x hx
  subst hx
  subst e
  refine ⟨g, rfl, u1, u2, fun i hlt => ?_⟩
  obtain ⟨u, e1, e2⟩ := h2 i hlt
  obtain ⟨b, c', rfl⟩ := owns_slice e2
  refine ⟨b, _, c', by rw [h1.cellAt i (by omega)]; exact e1, fun y hy => ?_⟩
  obtain ⟨q, e, v1, v2⟩ := lv_of_owns e2 y hy
  exact ⟨q, 0, e, v1, v2⟩
/-- Cells that hold the vectors that F names. -/
def PVf (n : Nat) (xs : List Value) (F : Nat → C3) : Prop := ∀ j, j < n → ∃ p q r, xs[j * 3]? = some (.float .f32 p) ∧ xs[j * 3 + 1]? = some (.float .f32 q) ∧ xs[j * 3 + 2]? = some (.float .f32 r) ∧ FV .f32 p (F j).1 ∧ FV .f32 q (F j).2.1 ∧ FV .f32 r (F j).2.2
def upto (f : C3 → C3) (cs : List C3) (k j : Nat) : C3 := if j < k then f (cs.getD j c0) else cs.getD j c0
theorem PVf.start {n : Nat} {xs : List Value} {cs : List C3} (f : C3 → C3) (h : PV n xs cs) : PVf n xs (upto f cs 0) := fun j hj => by
  obtain ⟨p, q, r, h1⟩ := h j hj
  exact ⟨p, q, r, by unfold upto; rw [if_neg (by omega)]; exact h1⟩
theorem PVf.step {n k : Nat} {xs : List Value} {cs : List C3} {f : C3 → C3} (h : PVf n xs (upto f cs k)) (hl : xs.length = n * 3) (hk : k < n) {p q r : Nat} (hf : FV .f32 p (f (cs.getD k c0)).1 ∧ FV .f32 q (f (cs.getD k c0)).2.1 ∧ FV .f32 r (f (cs.getD k c0)).2.2) :
    PVf n (((xs.set (k * 3) (.float .f32 p)).set (k * 3 + 1) (.float .f32 q)).set (k * 3 + 2) (.float .f32 r)) (upto f cs (k + 1)) := fun j hj => by
  by_cases hjk : j = k
  · subst hjk
    refine ⟨p, q, r, ?_, ?_, ?_, by unfold upto; rw [if_pos (by omega)]; exact hf⟩
    · rw [List.getElem?_set_ne (by omega), List.getElem?_set_ne (by omega), List.getElem?_set_self (by omega)]
    · rw [List.getElem?_set_ne (by omega), List.getElem?_set_self (by simp; omega)]
    · rw [List.getElem?_set_self (by simp; omega)]
  · obtain ⟨p', q', r', h1, h2, h3, h4⟩ := h j hj
    refine ⟨p', q', r', ?_, ?_, ?_, ?_⟩
    · rw [List.getElem?_set_ne (by omega), List.getElem?_set_ne (by omega), List.getElem?_set_ne (by omega)]; exact h1
    · rw [List.getElem?_set_ne (by omega), List.getElem?_set_ne (by omega), List.getElem?_set_ne (by omega)]; exact h2
    · rw [List.getElem?_set_ne (by omega), List.getElem?_set_ne (by omega), List.getElem?_set_ne (by omega)]; exact h3
    · have : upto f cs (k + 1) j = upto f cs k j := by
        unfold upto
        by_cases h : j < k
        · rw [if_pos h, if_pos (by omega)]
        · rw [if_neg h, if_neg (by omega)]
      rw [this]; exact h4
theorem PVf.done {n : Nat} {xs : List Value} {cs : List C3} {f : C3 → C3} (h : PVf n xs (upto f cs n)) (hn : cs.length = n) : PV n xs (cs.map f) := fun j hj => by
  obtain ⟨p, q, r, h1, h2, h3, h4⟩ := h j hj
  refine ⟨p, q, r, h1, h2, h3, ?_⟩
  have : (cs.map f).getD j c0 = upto f cs n j := by
    unfold upto
    rw [if_pos hj]
    simp [List.getD, hn, hj]
  rw [this]; exact h4
theorem LD.setV {w0 w : World} {X Z pl g c j : Nat} {vt : Value} {xs : List Value} (h : LD w0 X Z (.slice (some ⟨g, 0, none⟩) pl c) vt pl xs w) (u : Value) : LD w0 X Z (.slice (some ⟨g, 0, none⟩) pl c) vt pl (xs.set j u) (w.setCell ⟨g, j, none⟩ u) := by
  have hs := h.2.2.2.stored j u
  have hl := (h.2.2.2.lt g rfl).1
  exact ⟨h.1.setCell hl _, owns_side h.2.1 h.2.2.2 (by decide) hs.2, owns_side h.2.2.1 h.2.2.2 (by decide) hs.2, hs.1⟩
theorem OwnT.setV {base n : Nat} {w w0 : World} {X Z pl g c j : Nat} {v vt : Value} {xs : List Value} {ts : List (List Int)} (h : OwnT base w v n ts) (k : LD w0 X Z (.slice (some ⟨g, 0, none⟩) pl c) vt pl xs w) (u : Value) : OwnT base (w.setCell ⟨g, j, none⟩ u) v n ts :=
  h.side k.2.2.2 (k.2.2.2.stored j u).2 (by decide) (by decide)
theorem vs_owned {w : World} {base n c : Nat} {a : Option Addr} {xs : List Value} {cs : List C3} (h : w.ownsRow base 46 3 (.slice a n c) n xs) (hn : cs.length = n) (hp : PV n xs cs) : IsVs w a n c cs := by
  obtain ⟨a', c', e, hI⟩ := vs_of_owns h hn hp
  cases e
  exact hI
theorem ts_owned {w : World} {base n c : Nat} {a : Option Addr} {ts : List (List Int)} (h : OwnT base w (.slice a n c) n ts) (hn : ts.length = n) (hz : ∀ j, j < n → ∀ z ∈ ts.getD j [], (Lit.int .i64 z).wf = true) : IsTs w a n c ts := by
  obtain ⟨a', c', e, hI⟩ := h.is hn hz
  cases e
  exact hI
theorem ts_wf {w : World} {a : Option Addr} {n c : Nat} {ts : List (List Int)} (h : IsTs w a n c ts) : ∀ j, j < n → ∀ z ∈ ts.getD j [], (Lit.int .i64 z).wf = true := fun j hj => by
  obtain ⟨h1, h2, h3, h4, h5⟩ := h
  cases a with
  | none => have := (h4 rfl).1; omega
  | some x =>
    obtain ⟨b, m, c', hc, hI⟩ := h5 x rfl j hj
    exact hI.2.2.2.1
/-- A vector of three cells that stays. -/
def VB (w : World) (b x y z : Nat) : Prop := w.cell? ⟨b, 0, none⟩ = some (.float .f32 x) ∧ w.cell? ⟨b, 1, none⟩ = some (.float .f32 y) ∧ w.cell? ⟨b, 2, none⟩ = some (.float .f32 z)
theorem VB.below {w w' : World} {b x y z : Nat} (h : VB w b x y z) (hB : Below w.heap.size w w') : VB w' b x y z := ⟨cell_below hB h.1, cell_below hB h.2.1, cell_below hB h.2.2⟩
theorem VB.set {w : World} {b x y z g j : Nat} {u : Value} (h : VB w b x y z) (hg : g ≠ b) : VB (w.setCell ⟨g, j, none⟩ u) b x y z :=
  ⟨by rw [World.cell?_setCell_other _ _ _ _ (by simp [hg])]; exact h.1, by rw [World.cell?_setCell_other _ _ _ _ (by simp [hg])]; exact h.2.1, by rw [World.cell?_setCell_other _ _ _ _ (by simp [hg])]; exact h.2.2⟩
def scaleC' (c : C3) (q : Option Nat) : C3 := (fop .mul .f32 c.1 q, fop .mul .f32 c.2.1 q, fop .mul .f32 c.2.2 q)
theorem tri_partsh {n : Nat} {t : List Int} (h : triB n t = true) : t.length = 3 ∧ (∀ i, i < 3 → 0 ≤ t.getD i 0 ∧ (t.getD i 0).toNat < n) := by
  unfold triB at h
  simp only [Bool.and_eq_true, decide_eq_true_eq] at h
  obtain ⟨⟨h3, ⟨h0, h1⟩, h2⟩, _⟩ := h
  refine ⟨h3, fun i hi => ?_⟩
  have a0 := of_decide_eq_true h0
  have a1 := of_decide_eq_true h1
  have a2 := of_decide_eq_true h2
  have : i = 0 ∨ i = 1 ∨ i = 2 := by omega
  rcases this with rfl | rfl | rfl <;> omega
theorem valid_rowh {cs : List C3} {ts : List (List Int)} {k : Nat} (h : validB cs ts = true) (hk : k < ts.length) : triB cs.length (ts.getD k []) = true := by
  unfold validB at h
  simp only [Bool.and_eq_true] at h
  have := List.all_eq_true.1 h.2 (ts[k]) (List.getElem_mem hk)
  simpa [List.getD, hk] using this
/-- A corner of a triangle of a valid mesh lies in memory. -/

theorem rows3h {cs : List C3} {ts : List (List Int)} (h : validB cs ts = true) : ∀ k, k < ts.length → (ts.getD k []).length = 3 := fun k hk => (tri_partsh (valid_rowh h hk)).1
theorem valid_pl {cs : List C3} {ts : List (List Int)} (h : validB cs ts = true) : cs.length ≤ 64 ∧ ts.length ≤ 128 := by
  unfold validB at h; simp at h; exact h.1
end Go.Proofs.Ytockhhfehjoldab


/-
Writing a list of values beside one another into one block. Conditions: none.
-/
namespace Go.Proofs.Ytockhhfehjoldab
open Go Fk Go.RowKit
set_option linter.unusedVariables false
set_option maxRecDepth 8000

/-- Cells that are written one behind another. -/
def setL (w : World) (g : Nat) : Nat → List Value → World
  | _, [] => w
  | o, v :: vs => setL (w.setCell ⟨g, o, none⟩ v) g (o + 1) vs
theorem setL_size (g : Nat) : ∀ (vs : List Value) (w : World) (o : Nat), (setL w g o vs).heap.size = w.heap.size
  | [], w, o => rfl
  | v :: vs, w, o => by rw [setL, setL_size g vs]; simp
theorem setL_frozen (g : Nat) (a : Addr) : ∀ (vs : List Value) (w : World) (o : Nat), (setL w g o vs).frozen? a = w.frozen? a
  | [], w, o => rfl
  | v :: vs, w, o => by rw [setL, setL_frozen g a vs]; simp
theorem setL_out (g m : Nat) : ∀ (vs : List Value) (w : World) (o : Nat), (m < o ∨ o + vs.length ≤ m) → (setL w g o vs).cell? ⟨g, m, none⟩ = w.cell? ⟨g, m, none⟩
  | [], w, o, h => rfl
  | v :: vs, w, o, h => by
    simp only [List.length_cons] at h
    rw [setL, setL_out g m vs _ _ (by omega), World.cell?_setCell_other _ _ _ _ (by simp <;> omega)]
theorem setL_far (g b i : Nat) (hne : g ≠ b) : ∀ (vs : List Value) (w : World) (o : Nat), (setL w g o vs).cell? ⟨b, i, none⟩ = w.cell? ⟨b, i, none⟩
  | [], w, o => rfl
  | v :: vs, w, o => by rw [setL, setL_far g b i hne vs, World.cell?_setCell_far (h := hne)]
theorem setL_in (g : Nat) : ∀ (vs : List Value) (w : World) (o : Nat), (∀ j, j < vs.length → ∃ u, w.cell? ⟨g, o + j, none⟩ = some u) → ∀ j, j < vs.length → (setL w g o vs).cell? ⟨g, o + j, none⟩ = vs[j]?
  | [], w, o, h, j, hj => by simp at hj
  | v :: vs, w, o, h, 0, hj => by
    rw [setL, setL_out g _ vs _ _ (by omega)]
    obtain ⟨u, hu⟩ := h 0 (by simp)
    simpa using World.cell?_setCell_same w ⟨g, o + 0, none⟩ v hu
  | v :: vs, w, o, h, j + 1, hj => by
    rw [setL, show o + (j + 1) = o + 1 + j by omega]
    rw [setL_in g vs _ (o + 1) (fun i hi => by
      obtain ⟨u, hu⟩ := h (i + 1) (by simp; omega)
      exact ⟨u, by rw [World.cell?_setCell_other _ _ _ _ (by simp <;> omega), show o + 1 + i = o + (i + 1) by omega]; exact hu⟩) j (by simpa using hj)]
    simp
theorem setL_below {B : Nat} {W : World} (g : Nat) (hB : B ≤ g) : ∀ (vs : List Value) (w : World) (o : Nat), Below B W w → Below B W (setL w g o vs)
  | [], w, o, h => h
  | v :: vs, w, o, h => setL_below g hB vs _ _ (h.setCell (p := ⟨g, o, none⟩) hB v)
end Go.Proofs.Ytockhhfehjoldab


/-
What a call leaves as it was, by blocks; bodies that lie in some blocks; copies of bodies. Conditions: at most 2^20 of each.
-/
namespace Go.Proofs.Ytockhhfehjoldab
open Go Fk Go.RowKit
set_option linter.unusedVariables false
set_option maxRecDepth 8000

/-- Cells of some blocks are as they were. -/
structure Agree (S : Nat → Prop) (W w : World) : Prop where
  cell : ∀ b i v, S b → W.cell? ⟨b, i, none⟩ = some v → w.cell? ⟨b, i, none⟩ = some v
  frozen : ∀ b i, S b → b < W.heap.size → w.frozen? ⟨b, i, none⟩ = W.frozen? ⟨b, i, none⟩
  size : W.heap.size ≤ w.heap.size
theorem Agree.refl (S : Nat → Prop) (w : World) : Agree S w w := ⟨fun _ _ _ _ h => h, fun _ _ _ _ => rfl, Nat.le_refl _⟩
theorem Agree.trans {S : Nat → Prop} {a b c : World} (h : Agree S a b) (k : Agree S b c) : Agree S a c :=
  ⟨fun x i v hs hv => k.cell x i v hs (h.cell x i v hs hv), fun x i hs hx => (k.frozen x i hs (Nat.lt_of_lt_of_le hx h.size)).trans (h.frozen x i hs hx), Nat.le_trans h.size k.size⟩
theorem Agree.of_below {S : Nat → Prop} {W w : World} (h : Below W.heap.size W w) : Agree S W w :=
  ⟨fun b i v _ hv => cell_below h hv, fun b i _ hb => h.frozen (p := ⟨b, i, none⟩) hb, h.size⟩
theorem Agree.set {S : Nat → Prop} {W w : World} {b i : Nat} {u : Value} (h : Agree S W w) (hb : ¬ S b) : Agree S W (w.setCell ⟨b, i, none⟩ u) :=
  ⟨fun x j v hs hv => by
    have hne : b ≠ x := fun e => hb (e ▸ hs)
    rw [World.cell?_setCell_other _ _ _ _ (by simp [hne])]
    exact h.cell x j v hs hv, fun x j hs hx => by simp; exact h.frozen x j hs hx, by simpa using h.size⟩
theorem Agree.setL {S : Nat → Prop} {W : World} {g : Nat} (hg : ¬ S g) : ∀ (vs : List Value) (w : World) (o : Nat), Agree S W w → Agree S W (setL w g o vs)
  | [], w, o, h => h
  | v :: vs, w, o, h => Agree.setL hg vs _ _ (h.set hg)
theorem Agree.of_mark {lo hi : Nat} {w w' : World} (h : Mark lo hi w w') : Agree (fun b => b < lo ∨ hi ≤ b) w w' :=
  ⟨fun b i v hb hv => h.cell hb hv, fun b i _ hb => h.frozen b i hb, h.below.size⟩
theorem Agree.less {S T : Nat → Prop} {W w : World} (h : Agree S W w) (hT : ∀ b, T b → S b) : Agree T W w :=
  ⟨fun b i v hb hv => h.cell b i v (hT b hb) hv, fun b i hb hl => h.frozen b i (hT b hb) hl, h.size⟩

theorem vs_agree {S : Nat → Prop} {W w : World} {lo hi : Nat} {a : Option Addr} {n c : Nat} {cs : List C3} (h : IsVs W a n c cs) (hl : LV lo hi a) (hS : ∀ b, lo ≤ b → b < hi → S b) (hA : Agree S W w) : IsVs w a n c cs := by
  obtain ⟨h1, h2, h3, h4, h5⟩ := h
  refine ⟨h1, h2, h3, h4, fun x hx i hlt => ?_⟩
  obtain ⟨p, q, r, k0, k1, k2, hf⟩ := h5 x hx i hlt
  obtain ⟨b, rfl, l1, l2⟩ := hl x hx
  have hs := hS b l1 l2
  rw [addr_add'] at k0 k1 k2
  exact ⟨p, q, r, by rw [addr_add']; exact hA.cell _ _ _ hs k0, by rw [addr_add']; exact hA.cell _ _ _ hs k1, by rw [addr_add']; exact hA.cell _ _ _ hs k2, hf⟩
theorem fs_agree {S : Nat → Prop} {W w : World} {lo hi : Nat} {a : Option Addr} {n c : Nat} {zs : List Nat} (h : IsFs .f32 W a n c zs) (hl : LV lo hi a) (hS : ∀ b, lo ≤ b → b < hi → S b) (hA : Agree S W w) : IsFs .f32 w a n c zs := by
  obtain ⟨h1, h2, h3, h4, h5, h6⟩ := h
  refine ⟨h1, h2, h3, h4, h5, fun x hx i hlt => ?_⟩
  have k0 := h6 x hx i hlt
  obtain ⟨b, rfl, l1, l2⟩ := hl x hx
  rw [addr_add'] at k0 ⊢
  exact hA.cell _ _ _ (hS b l1 l2) k0
theorem ss_agree {S : Nat → Prop} {W w : World} {lo hi : Nat} {a : Option Addr} {n c : Nat} {ss : List SC} (h : IsSs W a n c ss) (hl : LV lo hi a) (hS : ∀ b, lo ≤ b → b < hi → S b) (hA : Agree S W w) : IsSs w a n c ss := by
  obtain ⟨h1, h2, h3, h4, h5, h6⟩ := h
  refine ⟨h1, h2, h3, h4, h5, fun x hx i hlt => ?_⟩
  obtain ⟨p, q, k0, k1, k2, k3, hf⟩ := h6 x hx i hlt
  obtain ⟨b, rfl, l1, l2⟩ := hl x hx
  have hs := hS b l1 l2
  rw [addr_add'] at k0 k1 k2 k3
  exact ⟨p, q, by rw [addr_add']; exact hA.cell _ _ _ hs k0, by rw [addr_add']; exact hA.cell _ _ _ hs k1, by rw [addr_add']; exact hA.cell _ _ _ hs k2, by rw [addr_add']; exact hA.cell _ _ _ hs k3, hf⟩
theorem lt_agree {S : Nat → Prop} {W w : World} {lo hi n : Nat} {a : Option Addr} (hl : LT lo hi W a n) (hS : ∀ b, lo ≤ b → b < hi → S b) (hA : Agree S W w) : LT lo hi w a n := fun x hx => by
  obtain ⟨g, e, h1, h2, h3⟩ := hl x hx
  refine ⟨g, e, h1, h2, fun i hlt => ?_⟩
  obtain ⟨b, m, c, hc, hb⟩ := h3 i hlt
  exact ⟨b, m, c, hA.cell _ _ _ (hS g h1 h2) hc, hb⟩
theorem ts_agree {S : Nat → Prop} {W w : World} {lo hi : Nat} {a : Option Addr} {n c : Nat} {ts : List (List Int)} (h : IsTs W a n c ts) (hl : LT lo hi W a n) (hS : ∀ b, lo ≤ b → b < hi → S b) (hA : Agree S W w) : IsTs w a n c ts := by
  obtain ⟨h1, h2, h3, h4, h5⟩ := h
  refine ⟨h1, h2, h3, h4, fun x hx i hlt => ?_⟩
  obtain ⟨g, e, l1, l2, u3⟩ := hl x hx
  obtain ⟨b, m, q, hc, hI⟩ := h5 x hx i hlt
  subst e
  rw [addr_add', Nat.zero_add] at hc
  obtain ⟨b', m', q', hc', hb'⟩ := u3 i hlt
  rw [hc] at hc'
  cases hc'
  refine ⟨b, m, q, by rw [addr_add', Nat.zero_add]; exact hA.cell _ _ _ (hS g l1 l2) hc, ?_⟩
  obtain ⟨i1, i2, i3, i4, i5, i6⟩ := hI
  refine ⟨i1, i2, i3, i4, i5, fun z hz j hj => ?_⟩
  have := i6 z hz j hj
  obtain ⟨h', o, e', w1, w2⟩ := hb' z hz
  subst e'
  rw [addr_add'] at this ⊢
  exact hA.cell _ _ _ (hS h' w1 w2) this
/-- A body that lies in blocks from lo to hi. -/
def LB (lo hi : Nat) (w : World) (B : Bd) : Prop := LV lo hi B.pa ∧ LT lo hi w B.ta B.tl ∧ LV lo hi B.sa ∧ LV lo hi B.wa
theorem LB.agree {S : Nat → Prop} {W w : World} {lo hi : Nat} {B : Bd} (h : LB lo hi W B) (hS : ∀ b, lo ≤ b → b < hi → S b) (hA : Agree S W w) : LB lo hi w B :=
  ⟨h.1, lt_agree h.2.1 hS hA, h.2.2⟩
theorem LB.wide {lo hi lo' hi' : Nat} {w : World} {B : Bd} (h : LB lo hi w B) (h1 : lo' ≤ lo) (h2 : hi ≤ hi') : LB lo' hi' w B :=
  ⟨h.1.wide h1 h2, h.2.1.wide h1 h2, h.2.2.1.wide h1 h2, h.2.2.2.wide h1 h2⟩
theorem IsB.agree {S : Nat → Prop} {W w : World} {lo hi : Nat} {B : Bd} {c : Bc} (h : IsB W B c) (hl : LB lo hi W B) (hS : ∀ b, lo ≤ b → b < hi → S b) (hA : Agree S W w) : IsB w B c :=
  ⟨vs_agree h.1 hl.1 hS hA, ts_agree h.2.1 hl.2.1 hS hA, ss_agree h.2.2.1 hl.2.2.1 hS hA, fs_agree h.2.2.2.1 hl.2.2.2 hS hA, h.2.2.2.2⟩
/-- What an own box holds when it is filled. -/
theorem at_setL {w : World} {b o : Nat} {l vs : List Value} (h : At w b l) (hl : o + vs.length ≤ l.length) : At (setL w b o vs) b (l.take o ++ vs ++ l.drop (o + vs.length)) := by
  intro i v hi
  have hin := setL_in b vs w o (fun j hj => by
    have : o + j < l.length := by omega
    exact ⟨l[o + j], h (o + j) _ (by simp [this])⟩)
  by_cases h1 : i < o
  · rw [setL_out b i vs w o (.inl h1)]
    refine h i v ?_
    rw [List.append_assoc, List.getElem?_append_left (by simp; omega)] at hi
    simpa [h1] using hi
  · by_cases h2 : i < o + vs.length
    · have := hin (i - o) (by omega)
      rw [show o + (i - o) = i by omega] at this
      rw [this]
      rw [List.append_assoc, List.getElem?_append_right (by simp; omega), List.getElem?_append_left (by simp; omega)] at hi
      rw [← hi]
      congr 1
      simp; omega
    · rw [setL_out b i vs w o (.inr (by omega))]
      refine h i v ?_
      rw [List.getElem?_append_right (by simp; omega)] at hi
      rw [List.getElem?_drop] at hi
      rw [← hi]
      congr 1
      simp; omega
end Go.Proofs.Ytockhhfehjoldab


/-
Maps whose keys are edges: how a key reads, and what a map of lists holds. Conditions: none.
-/
namespace Go.Proofs.Ytockhhfehjoldab
open Go Fk Go.RowKit Go.Maps
open Go.ChangeShapes (lits)
set_option linter.unusedVariables false
set_option maxRecDepth 8000

theorem laidOutE : laidOutB Try.prog = true := by kernel_rfl
theorem sizeE : ∃ m, Try.prog.types.size = m + 1 := ⟨Try.prog.types.size - 1, by kernel_rfl⟩
theorem edgeWide : (match Try.prog.underlying 140 with | some (.array _ _) | some (.struct _) => true | _ => false) = true := by kernel_rfl
theorem edgeType : Try.prog.keyTypeAt 2 140 = true := by kernel_rfl
theorem edgeKey : Try.prog.keyType 140 = true := by kernel_rfl
theorem edgeCells : Try.prog.cellsOf 140 = 2 := by kernel_rfl
theorem intCellsE : Try.prog.cellsOf 2 = 1 := by kernel_rfl
theorem edgeTiled : Try.prog.tiled 2 140 = true := tiled_of_laidOut laidOutE 2 _ (by kernel_rfl) edgeType
theorem edgeKeyed : Keyed Try.prog 140 := Keyed.of_law (deep_law_laid laidOutE (m := 2) (by omega) (of_decide_eq_true (by kernel_rfl)) edgeType edgeWide)
/-- What a pair of numbers reads as. -/
def kE (s : Int × Int) : Lit := .string (keyBytes [.int .i64 s.1, .int .i64 s.2])
theorem keyOf_edge {a b : Int} (wa : (Lit.int .i64 a).wf = true) (wb : (Lit.int .i64 b).wf = true) : keyOf Try.prog 140 (.agg #[.int .i64 a, .int .i64 b]) = some (kE (a, b)) := by
  have us := Try.underlying140
  have ui := Try.underlying2
  obtain ⟨m, hm⟩ := sizeE
  unfold keyOf
  simp only [us]
  rw [if_pos (by simp [edgeKey, Value.formed, us, edgeCells]), hm]
  unfold Program.keyLits
  simp only [us, Value.cells]
  rw [if_pos (by rw [edgeCells]; exact ⟨rfl, by kernel_rfl⟩)]
  simp [Program.keyLits, ui, intCellsE, wa, wb, kE]
theorem kE_inj {a b c d : Int} (wa : (Lit.int .i64 a).wf = true) (wb : (Lit.int .i64 b).wf = true) (wc : (Lit.int .i64 c).wf = true) (wd : (Lit.int .i64 d).wf = true) (h : kE (a, b) = kE (c, d)) : (a, b) = (c, d) := by
  have h1 := keyOf_edge wa wb
  have h2 := keyOf_edge wc wd
  rw [h] at h1
  have := keyOf_inj_deep edgeTiled edgeWide h1 h2
  simpa using this
theorem kE_key (s : Int × Int) : WideAt.IsKeyLit (kE s) := by
  unfold kE
  exact trivial
/-- What a key that can be read is. -/
theorem keyOf_edge_inv {v : Value} {l : Lit} (h : keyOf Try.prog 140 v = some l) : ∃ a b : Int, v = .agg #[.int .i64 a, .int .i64 b] ∧ (Lit.int .i64 a).wf = true ∧ (Lit.int .i64 b).wf = true ∧ l = kE (a, b) := by
  have us := Try.underlying140
  have ui := Try.underlying2
  obtain ⟨m, hm⟩ := sizeE
  unfold keyOf at h
  simp only [us] at h
  split at h
  · rename_i hf
    rw [hm] at h
    simp only [Bool.and_eq_true] at hf
    have hform := hf.2
    unfold Program.keyLits at h
    simp only [us] at h
    split at h
    · rename_i hc
      rw [edgeCells] at hc
      cases v with
      | agg cs =>
        simp only [Value.cells] at h hc
        obtain ⟨l0⟩ := cs
        match l0, hc.1 with
        | [x, y], _ =>
          cases x with
          | int k1 a =>
            by_cases h1 : k1 = IntKind.i64 ∧ (Lit.int .i64 a).wf = true
            · obtain ⟨rfl, wa⟩ := h1
              cases y with
              | int k2 b =>
                by_cases h2 : k2 = IntKind.i64 ∧ (Lit.int .i64 b).wf = true
                · obtain ⟨rfl, wb⟩ := h2
                  simp [Program.keyLits, ui, intCellsE, wa, wb] at h
                  exact ⟨a, b, rfl, wa, wb, by unfold kE; exact h.symm⟩
                · simp [Program.keyLits, ui, intCellsE, wa, h2] at h
              | _ => simp [Program.keyLits, ui, intCellsE, wa] at h
            · simp [Program.keyLits, ui, intCellsE, h1] at h
          | _ => simp [Program.keyLits, ui, intCellsE] at h
      | _ => simp [Value.formed, us] at hform
    · simp at h
  · cases h
/-- The numbers of the triangles that a list of pairs has for an edge. -/
def grp (L : List ((Int × Int) × Int)) (e : Int × Int) : List Int := (L.filter fun p => decide (p.1 = e)).map (·.2)
theorem grp_snoc (L : List ((Int × Int) × Int)) (e e' : Int × Int) (i : Int) : grp (L ++ [(e, i)]) e' = grp L e' ++ (if e = e' then [i] else []) := by
  unfold grp
  rw [List.filter_append, List.map_append]
  by_cases h : e = e' <;> simp [h]
def datG (zs : List Int) : DataW Unit := if zs = [] then .nil else .slice (lits .i64 zs) []
/-- A map that holds these lists. -/
def GroupsOf (D : DataW Unit) (L : List ((Int × Int) × Int)) : Prop := IsMap D ∧ (∀ a b, (Lit.int .i64 a).wf = true → (Lit.int .i64 b).wf = true → D.atKey (kE (a, b)) .nil = datG (grp L (a, b))) ∧ ∀ a b, (Lit.int .i64 a).wf = true → (Lit.int .i64 b).wf = true → has D (kE (a, b)) = true → (a, b) ∈ L.map (·.1)
theorem GroupsOf.nil : GroupsOf (.map []) [] := ⟨isMap_empty, fun a b _ _ => by simp [DataW.atKey, grp, datG], fun a b _ _ h => by simp [has_eq] at h⟩
theorem GroupsOf.put {D : DataW Unit} {L : List ((Int × Int) × Int)} {x y i : Int} (h : GroupsOf D L) (wx : (Lit.int .i64 x).wf = true) (wy : (Lit.int .i64 y).wf = true) : GroupsOf (D.put (kE (x, y)) (.slice (lits .i64 (grp L (x, y) ++ [i])) [])) (L ++ [((x, y), i)]) := by
  refine ⟨h.1.put _ _, fun a b wa wb => ?_, fun a b wa wb hh => ?_⟩
  rotate_left
  · by_cases e : (x, y) = (a, b)
    · rw [← e]; simp
    · rw [has_put_other (fun e' => e (kE_inj wa wb wx wy e').symm)] at hh
      rw [List.map_append]
      exact List.mem_append_left _ (h.2.2 a b wa wb hh)
  rw [grp_snoc]
  by_cases e : (x, y) = (a, b)
  · rw [← e, atKey_put_same h.1 (kE_key _), if_pos rfl]
    unfold datG
    rw [if_neg (by simp)]
  · rw [atKey_put_other (fun e' => e (kE_inj wa wb wx wy e').symm), h.2.1 a b wa wb, if_neg e, List.append_nil]
theorem lits_inj {zs ys : List Int} (h : lits (H := Unit) .i64 zs = lits .i64 ys) : zs = ys := by
  unfold lits at h
  exact (List.map_inj_right (fun a b hab => by simpa using hab)).1 h
theorem group_is {W : World} {base : Nat} {v : Value} {zs : List Int} {D : DataW Unit} {L : List ((Int × Int) × Int)} {x y : Int} (hF : GroupsOf D L) (wx : (Lit.int .i64 x).wf = true) (wy : (Lit.int .i64 y).wf = true) (hat : D.atKey (kE (x, y)) .nil = rowDatum .i64 v zs) (ho : W.ownsInts base 2 .i64 v zs) : zs = grp L (x, y) := by
  rw [hF.2.1 x y wx wy] at hat
  unfold datG at hat
  rcases ho.datum (H := Unit) with ⟨h1, h2⟩ | h1
  · rw [h1] at hat
    split at hat
    · rename_i h; rw [h2, h]
    · cases hat
  · rw [h1] at hat
    split at hat
    · cases hat
    · injection hat with h3 h4
      exact (lits_inj h3).symm
/-- A key that stands in the list stands in the map. -/
theorem GroupsOf.has_of {D : DataW Unit} {L : List ((Int × Int) × Int)} (h : GroupsOf D L) {a b : Int} (wa : (Lit.int .i64 a).wf = true) (wb : (Lit.int .i64 b).wf = true) (hm : (a, b) ∈ L.map (·.1)) : has D (kE (a, b)) = true := by
  cases hh : has D (kE (a, b))
  · exfalso
    have h1 := h.2.1 a b wa wb
    obtain ⟨es, rfl⟩ := h.1
    have hz : (DataW.map es).atKey (kE (a, b)) .nil = .nil := by
      rw [has_eq] at hh
      simp only [DataW.atKey]
      have : es.find? (fun p => p.1.sameKey (kE (a, b))) = none := by
        rw [List.find?_eq_none]
        intro p hp
        have := List.any_eq_false.1 hh p hp
        simpa using this
      rw [this]
    rw [hz] at h1
    unfold datG at h1
    split at h1
    · rename_i hg
      obtain ⟨p, hp, e⟩ := List.mem_map.1 hm
      have : p.2 ∈ grp L (a, b) := List.mem_map.2 ⟨p, List.mem_filter.2 ⟨hp, by simp [e]⟩, rfl⟩
      rw [hg] at this
      cases this
    · cases h1
  · rfl
end Go.Proofs.Ytockhhfehjoldab


/-
Where lists lie that a function made, and what moved meshes are. Conditions: none.
-/
import Derived.Test.YtcgnmnbjgamedaaHmE
import Derived.Test.YtcgnmnbjgamedaaTo
import Derived.Test.YtcgnmnbjgamedaaHmB
namespace Go.Proofs.Ytcgnmnbjgamedaa
open Go Fk Go.RowKit
set_option linter.unusedVariables false
set_option maxRecDepth 8000
/-- A list at the head of a block from lo to hi, or none. -/
def LV (lo hi : Nat) (a : Option Addr) : Prop := ∀ x, a = some x → ∃ g, x = ⟨g, 0, none⟩ ∧ lo ≤ g ∧ g < hi
/-- A list of rows, it and its rows in blocks from lo to hi. -/
def LT (lo hi : Nat) (w : World) (a : Option Addr) (n : Nat) : Prop := ∀ x, a = some x → ∃ g, x = ⟨g, 0, none⟩ ∧ lo ≤ g ∧ g < hi ∧ ∀ i, i < n → ∃ b m c, w.cell? ⟨g, i, none⟩ = some (.slice b m c) ∧ ∀ y, b = some y → ∃ h o, y = ⟨h, o, none⟩ ∧ lo ≤ h ∧ h < hi
theorem LT.below {lo hi n : Nat} {w w' : World} {a : Option Addr} (h : LT lo hi w a n) (hB : Below w.heap.size w w') : LT lo hi w' a n := fun x hx => by
  obtain ⟨g, e, h1, h2, h3⟩ := h x hx
  refine ⟨g, e, h1, h2, fun i hlt => ?_⟩
  obtain ⟨b, m, c, hc, hb⟩ := h3 i hlt
  exact ⟨b, m, c, cell_below hB hc, hb⟩
theorem LV.wide {lo hi lo' hi' : Nat} {a : Option Addr} (h : LV lo hi a) (h1 : lo' ≤ lo) (h2 : hi ≤ hi') : LV lo' hi' a := fun x hx => by
  obtain ⟨g, e, k1, k2⟩ := h x hx
  exact ⟨g, e, by omega, by omega⟩
theorem LT.wide {lo hi lo' hi' n : Nat} {w : World} {a : Option Addr} (h : LT lo hi w a n) (h1 : lo' ≤ lo) (h2 : hi ≤ hi') : LT lo' hi' w a n := fun x hx => by
  obtain ⟨g, e, k1, k2, k3⟩ := h x hx
  refine ⟨g, e, by omega, by omega, fun i hlt => ?_⟩
  obtain ⟨b, m, c, hc, hb⟩ := k3 i hlt
  refine ⟨b, m, c, hc, fun y hy => ?_⟩
  obtain ⟨q, o, e, u1, u2⟩ := hb y hy
  exact ⟨q, o, e, by omega, by omega⟩
theorem vs_away {lo hi lo' hi' : Nat} {w w' : World} {a : Option Addr} {n cap : Nat} {cs : List C3} (h : IsVs w a n cap cs) (hl : LV lo' hi' a) (hM : Mark lo hi w w') (ho : hi' ≤ lo ∨ hi ≤ lo') : IsVs w' a n cap cs := by
  obtain ⟨h1, h2, h3, h4, h5⟩ := h
  refine ⟨h1, h2, h3, h4, fun x hx i hlt => ?_⟩
  obtain ⟨b, e, u1, u2⟩ := hl x hx
  obtain ⟨p, q, r, k0, k1, k2, hf⟩ := h5 x hx i hlt
  subst e
  rw [addr_add'] at k0 k1 k2
  have hb : b < lo ∨ hi ≤ b := by omega
  exact ⟨p, q, r, by rw [addr_add']; exact hM.cell hb k0, by rw [addr_add']; exact hM.cell hb k1, by rw [addr_add']; exact hM.cell hb k2, hf⟩
theorem ts_away {lo hi lo' hi' : Nat} {w w' : World} {a : Option Addr} {n cap : Nat} {ts : List (List Int)} (h : IsTs w a n cap ts) (hl : LT lo' hi' w a n) (hM : Mark lo hi w w') (ho : hi' ≤ lo ∨ hi ≤ lo') : IsTs w' a n cap ts ∧ LT lo' hi' w' a n := by
  obtain ⟨h1, h2, h3, h4, h5⟩ := h
  refine ⟨⟨h1, h2, h3, h4, fun x hx i hlt => ?_⟩, fun x hx => ?_⟩
  · obtain ⟨R, e, u1, u2, u3⟩ := hl x hx
    obtain ⟨G, c, c', hc, hI⟩ := h5 x hx i hlt
    obtain ⟨b, m, c2, hc2, hb⟩ := u3 i hlt
    subst e
    rw [addr_add', Nat.zero_add] at hc
    have hbR : R < lo ∨ hi ≤ R := by omega
    rw [hc2] at hc
    cases hc
    refine ⟨_, _, _, by rw [addr_add', Nat.zero_add]; exact hM.cell hbR hc2, ?_⟩
    obtain ⟨i1, i2, i3, i4, i5, i6⟩ := hI
    refine ⟨i1, i2, i3, i4, i5, fun y hy j hj => ?_⟩
    obtain ⟨F, o, e, v1, v2⟩ := hb y hy
    have := i6 y hy j hj
    subst e
    rw [addr_add'] at this ⊢
    have hbF : F < lo ∨ hi ≤ F := by omega
    exact hM.cell hbF this
  · obtain ⟨R, e, u1, u2, u3⟩ := hl x hx
    refine ⟨R, e, u1, u2, fun i hlt => ?_⟩
    obtain ⟨b, m, c2, hc2, hb⟩ := u3 i hlt
    have hbR : R < lo ∨ hi ≤ R := by omega
    exact ⟨b, m, c2, hM.cell hbR hc2, hb⟩
/-- The answer of a function that makes a mesh, or none: where its lists lie, and what is in them. -/
def Made (w w' : World) (e : Ending) (ok : Bool) (cs : List C3) (ts : List (List Int)) : Prop :=
  (∃ a c a' c', e = .returned (.tuple #[.agg #[.slice a cs.length c, .slice a' ts.length c'], .bool ok]) ∧ IsVs w' a cs.length c cs ∧ IsTs w' a' ts.length c' ts ∧ LV w.heap.size w'.heap.size a ∧ LT w.heap.size w'.heap.size w' a' ts.length) ∧ Below w.heap.size w w'
theorem made_none {w w' : World} {ok : Bool} (hB : Below w.heap.size w w') : Made w w' (.returned (.tuple #[.agg #[.slice none 0 0, .slice none 0 0], .bool ok])) ok [] [] :=
  ⟨⟨none, 0, none, 0, rfl, ⟨rfl, Nat.le_refl _, by unfold maxLen; omega, fun _ => ⟨rfl, rfl⟩, fun x hx => (by cases hx)⟩, ⟨rfl, Nat.le_refl _, by unfold maxLen; omega, fun _ => ⟨rfl, rfl⟩, fun x hx => (by cases hx)⟩, fun x hx => (by cases hx), fun x hx => (by cases hx)⟩, hB⟩
def rV (f : C3 → C3) (cs : List C3) (ts : List (List Int)) : List C3 := if validB cs ts = true then cs.map f else []
def rT (cs : List C3) (ts : List (List Int)) : List (List Int) := if validB cs ts = true then ts else []
theorem rV_no {f : C3 → C3} {cs : List C3} {ts : List (List Int)} (h : validB cs ts = false) : rV f cs ts = [] := by unfold rV; rw [if_neg (by rw [h]; decide)]
theorem rT_no {cs : List C3} {ts : List (List Int)} (h : validB cs ts = false) : rT cs ts = [] := by unfold rT; rw [if_neg (by rw [h]; decide)]
theorem rV_yes {f : C3 → C3} {cs : List C3} {ts : List (List Int)} (h : validB cs ts = true) : rV f cs ts = cs.map f := by unfold rV; rw [if_pos h]
theorem rT_yes {cs : List C3} {ts : List (List Int)} (h : validB cs ts = true) : rT cs ts = ts := by unfold rT; rw [if_pos h]
theorem cell0_of {w : World} {b Z : Nat} {e : TypeId} {x y : Value} (h : w.ownsRow b e 2 (.slice (some ⟨Z, 0, none⟩) 1 1) 1 [x, y]) : w.cell? ⟨Z, 0, none⟩ = some x := by rw [h.cellAt 0 (by decide)]; rfl
theorem cell1_of {w : World} {b Z : Nat} {e : TypeId} {x y : Value} (h : w.ownsRow b e 2 (.slice (some ⟨Z, 0, none⟩) 1 1) 1 [x, y]) : w.cell? ⟨Z, 1, none⟩ = some y := by rw [h.cellAt 1 (by decide)]; rfl
theorem lv_of_owns {w : World} {base n : Nat} {e : TypeId} {s c : Nat} {a : Option Addr} {xs : List Value} (h : w.ownsRow base e s (.slice a n c) n xs) : LV base w.heap.size a := fun x hx => by
  subst hx
  rcases h.2 with ⟨e, _⟩ | ⟨g, c, cur, e, hb, hh, _⟩
  · cases e
  · have := h.lt g (by rw [e]; rfl)
    cases e
    exact ⟨g, rfl, this⟩
theorem lt_of_owns {w : World} {base n : Nat} {c : Nat} {a : Option Addr} {ts : List (List Int)} (h : OwnT base w (.slice a n c) n ts) : LT base w.heap.size w a n := fun x hx => by
  obtain ⟨rows, h1, h2⟩ := h
  obtain ⟨g, e, u1, u2⟩ := lv_of_owns h1 x hx
  subst hx
  subst e
  refine ⟨g, rfl, u1, u2, fun i hlt => ?_⟩
  obtain ⟨u, e1, e2⟩ := h2 i hlt
  obtain ⟨b, c', rfl⟩ := owns_slice e2
  refine ⟨b, _, c', by rw [h1.cellAt i (by omega)]; exact e1, fun y hy => ?_⟩
  obtain ⟨q, e, v1, v2⟩ := lv_of_owns e2 y hy
  exact ⟨q, 0, e, v1, v2⟩
/-- Cells that hold the vectors that F names. -/
def PVf (n : Nat) (xs : List Value) (F : Nat → C3) : Prop := ∀ j, j < n → ∃ p q r, xs[j * 3]? = some (.float .f32 p) ∧ xs[j * 3 + 1]? = some (.float .f32 q) ∧ xs[j * 3 + 2]? = some (.float .f32 r) ∧ FV .f32 p (F j).1 ∧ FV .f32 q (F j).2.1 ∧ FV .f32 r (F j).2.2
def upto (f : C3 → C3) (cs : List C3) (k j : Nat) : C3 := if j < k then f (cs.getD j c0) else cs.getD j c0
theorem PVf.start {n : Nat} {xs : List Value} {cs : List C3} (f : C3 → C3) (h : PV n xs cs) : PVf n xs (upto f cs 0) := fun j hj => by
  obtain ⟨p, q, r, h1⟩ := h j hj
  exact ⟨p, q, r, by unfold upto; rw [if_neg (by omega)]; exact h1⟩
theorem PVf.step {n k : Nat} {xs : List Value} {cs : List C3} {f : C3 → C3} (h : PVf n xs (upto f cs k)) (hl : xs.length = n * 3) (hk : k < n) {p q r : Nat} (hf : FV .f32 p (f (cs.getD k c0)).1 ∧ FV .f32 q (f (cs.getD k c0)).2.1 ∧ FV .f32 r (f (cs.getD k c0)).2.2) :
    PVf n (((xs.set (k * 3) (.float .f32 p)).set (k * 3 + 1) (.float .f32 q)).set (k * 3 + 2) (.float .f32 r)) (upto f cs (k + 1)) := fun j hj => by
  by_cases hjk : j = k
  · subst hjk
    refine ⟨p, q, r, ?_, ?_, ?_, by unfold upto; rw [if_pos (by omega)]; exact hf⟩
    · rw [List.getElem?_set_ne (by omega), List.getElem?_set_ne (by omega), List.getElem?_set_self (by omega)]
    · rw [List.getElem?_set_ne (by omega), List.getElem?_set_self (by simp; omega)]
    · rw [List.getElem?_set_self (by simp; omega)]
  · obtain ⟨p', q', r', h1, h2, h3, h4⟩ := h j hj
    refine ⟨p', q', r', ?_, ?_, ?_, ?_⟩
    · rw [List.getElem?_set_ne (by omega), List.getElem?_set_ne (by omega), List.getElem?_set_ne (by omega)]; exact h1
    · rw [List.getElem?_set_ne (by omega), List.getElem?_set_ne (by omega), List.getElem?_set_ne (by omega)]; exact h2
    · rw [List.getElem?_set_ne (by omega), List.getElem?_set_ne (by omega), List.getElem?_set_ne (by omega)]; exact h3
    · have : upto f cs (k + 1) j = upto f cs k j := by
        unfold upto
        by_cases h : j < k
        · rw [if_pos h, if_pos (by omega)]
        · rw [if_neg h, if_neg (by omega)]
      rw [this]; exact h4
theorem PVf.done {n : Nat} {xs : List Value} {cs : List C3} {f : C3 → C3} (h : PVf n xs (upto f cs n)) (hn : cs.length = n) : PV n xs (cs.map f) := fun j hj => by
  obtain ⟨p, q, r, h1, h2, h3, h4⟩ := h j hj
  refine ⟨p, q, r, h1, h2, h3, ?_⟩
  have : (cs.map f).getD j c0 = upto f cs n j := by
    unfold upto
    rw [if_pos hj]
    simp [List.getD, hn, hj]
  rw [this]; exact h4
theorem LD.setV {w0 w : World} {X Z pl g c j : Nat} {vt : Value} {xs : List Value} (h : LD w0 X Z (.slice (some ⟨g, 0, none⟩) pl c) vt pl xs w) (u : Value) : LD w0 X Z (.slice (some ⟨g, 0, none⟩) pl c) vt pl (xs.set j u) (w.setCell ⟨g, j, none⟩ u) := by
  have hs := h.2.2.2.stored j u
  have hl := (h.2.2.2.lt g rfl).1
  exact ⟨h.1.setCell hl _, owns_side h.2.1 h.2.2.2 (by decide) hs.2, owns_side h.2.2.1 h.2.2.2 (by decide) hs.2, hs.1⟩
theorem OwnT.setV {base n : Nat} {w w0 : World} {X Z pl g c j : Nat} {v vt : Value} {xs : List Value} {ts : List (List Int)} (h : OwnT base w v n ts) (k : LD w0 X Z (.slice (some ⟨g, 0, none⟩) pl c) vt pl xs w) (u : Value) : OwnT base (w.setCell ⟨g, j, none⟩ u) v n ts :=
  h.side k.2.2.2 (k.2.2.2.stored j u).2 (by decide) (by decide)
theorem vs_owned {w : World} {base n c : Nat} {a : Option Addr} {xs : List Value} {cs : List C3} (h : w.ownsRow base 33 3 (.slice a n c) n xs) (hn : cs.length = n) (hp : PV n xs cs) : IsVs w a n c cs := by
  obtain ⟨a', c', e, hI⟩ := vs_of_owns h hn hp
  cases e
  exact hI
theorem ts_owned {w : World} {base n c : Nat} {a : Option Addr} {ts : List (List Int)} (h : OwnT base w (.slice a n c) n ts) (hn : ts.length = n) (hz : ∀ j, j < n → ∀ z ∈ ts.getD j [], (Lit.int .i64 z).wf = true) : IsTs w a n c ts := by
  obtain ⟨a', c', e, hI⟩ := h.is hn hz
  cases e
  exact hI
theorem ts_wf {w : World} {a : Option Addr} {n c : Nat} {ts : List (List Int)} (h : IsTs w a n c ts) : ∀ j, j < n → ∀ z ∈ ts.getD j [], (Lit.int .i64 z).wf = true := fun j hj => by
  obtain ⟨h1, h2, h3, h4, h5⟩ := h
  cases a with
  | none => have := (h4 rfl).1; omega
  | some x =>
    obtain ⟨b, m, c', hc, hI⟩ := h5 x rfl j hj
    exact hI.2.2.2.1
/-- A vector of three cells that stays. -/
def VB (w : World) (b x y z : Nat) : Prop := w.cell? ⟨b, 0, none⟩ = some (.float .f32 x) ∧ w.cell? ⟨b, 1, none⟩ = some (.float .f32 y) ∧ w.cell? ⟨b, 2, none⟩ = some (.float .f32 z)
theorem VB.below {w w' : World} {b x y z : Nat} (h : VB w b x y z) (hB : Below w.heap.size w w') : VB w' b x y z := ⟨cell_below hB h.1, cell_below hB h.2.1, cell_below hB h.2.2⟩
theorem VB.set {w : World} {b x y z g j : Nat} {u : Value} (h : VB w b x y z) (hg : g ≠ b) : VB (w.setCell ⟨g, j, none⟩ u) b x y z :=
  ⟨by rw [World.cell?_setCell_other _ _ _ _ (by simp [hg])]; exact h.1, by rw [World.cell?_setCell_other _ _ _ _ (by simp [hg])]; exact h.2.1, by rw [World.cell?_setCell_other _ _ _ _ (by simp [hg])]; exact h.2.2⟩
def scaleC' (c : C3) (q : Option Nat) : C3 := (fop .mul .f32 c.1 q, fop .mul .f32 c.2.1 q, fop .mul .f32 c.2.2 q)
theorem tri_partsh {n : Nat} {t : List Int} (h : triB n t = true) : t.length = 3 ∧ (∀ i, i < 3 → 0 ≤ t.getD i 0 ∧ (t.getD i 0).toNat < n) := by
  unfold triB at h
  simp only [Bool.and_eq_true, decide_eq_true_eq] at h
  obtain ⟨⟨h3, ⟨h0, h1⟩, h2⟩, _⟩ := h
  refine ⟨h3, fun i hi => ?_⟩
  have a0 := of_decide_eq_true h0
  have a1 := of_decide_eq_true h1
  have a2 := of_decide_eq_true h2
  have : i = 0 ∨ i = 1 ∨ i = 2 := by omega
  rcases this with rfl | rfl | rfl <;> omega
theorem valid_rowh {cs : List C3} {ts : List (List Int)} {k : Nat} (h : validB cs ts = true) (hk : k < ts.length) : triB cs.length (ts.getD k []) = true := by
  unfold validB at h
  simp only [Bool.and_eq_true] at h
  have := List.all_eq_true.1 h.2 (ts[k]) (List.getElem_mem hk)
  simpa [List.getD, hk] using this
/-- A corner of a triangle of a valid mesh lies in memory. -/

theorem rows3h {cs : List C3} {ts : List (List Int)} (h : validB cs ts = true) : ∀ k, k < ts.length → (ts.getD k []).length = 3 := fun k hk => (tri_partsh (valid_rowh h hk)).1
theorem valid_pl {cs : List C3} {ts : List (List Int)} (h : validB cs ts = true) : cs.length ≤ 64 ∧ ts.length ≤ 128 := by
  unfold validB at h; simp at h; exact h.1
end Go.Proofs.Ytcgnmnbjgamedaa

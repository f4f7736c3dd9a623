
/-
Lists of one's own of different kinds lie in different blocks; lists of rows, and what is read off a list of vectors. Conditions: none.
-/
import Derived.Test.YtcgnmnbjgamedaaHmC
namespace Go.Proofs.Ytcgnmnbjgamedaa
open Go Fk Go.RowKit
set_option linter.unusedVariables false
set_option maxRecDepth 8000
theorem owns_up {w w' : World} {base : Nat} {e : TypeId} {size : Nat} {v : Value} {n : Nat} {xs : List Value} (h : w.ownsRow base e size v n xs) (hB : Below w.heap.size w w') : w'.ownsRow base e size v n xs :=
  h.kept (row := none) ⟨hB.os, hB.tape, hB.output, hB.size, fun k hk _ => hB.block k hk⟩ (by cases v.ownBlock <;> simp)
theorem owns_low {w : World} {base base' : Nat} {e : TypeId} {size : Nat} {v : Value} {n : Nat} {xs : List Value} (h : w.ownsRow base e size v n xs) (hb : base' ≤ base) : w.ownsRow base' e size v n xs := by
  obtain ⟨h1, h2⟩ := h
  refine ⟨h1, h2.imp id ?_⟩
  rintro ⟨g, cap, cur, e1, e2, e3⟩
  exact ⟨g, cap, cur, e1, Nat.le_trans hb e2, e3⟩
theorem owns_ne {w : World} {b1 b2 : Nat} {e1 e2 : TypeId} {s1 s2 : Nat} {v1 v2 : Value} {n1 n2 : Nat} {x1 x2 : List Value} (h1 : w.ownsRow b1 e1 s1 v1 n1 x1) (h2 : w.ownsRow b2 e2 s2 v2 n2 x2) (he : e1 ≠ e2) : v1.ownBlock = none ∨ v1.ownBlock ≠ v2.ownBlock := by
  rcases h1.2 with ⟨rfl, _⟩ | ⟨g, c, cur, rfl, _, hg, _⟩
  · exact .inl rfl
  · right
    rcases h2.2 with ⟨rfl, _⟩ | ⟨g2, c2, cur2, rfl, _, hg2, _⟩
    · simp [Value.ownBlock]
    · simp only [Value.ownBlock]
      intro e
      cases e
      rw [hg] at hg2
      cases hg2
      exact he rfl
/-- An own list of another kind is kept where this one grows. -/
theorem owns_side {w w' : World} {b1 b2 : Nat} {e1 e2 : TypeId} {s1 s2 : Nat} {v1 v2 : Value} {n1 n2 : Nat} {x1 x2 : List Value} (h1 : w.ownsRow b1 e1 s1 v1 n1 x1) (h2 : w.ownsRow b2 e2 s2 v2 n2 x2) (he : e1 ≠ e2) (hg : w.grownBy w' v2.ownBlock) : w'.ownsRow b1 e1 s1 v1 n1 x1 :=
  h1.kept hg (owns_ne h1 h2 he)
theorem grown_set (w : World) (X j : Nat) (u : Value) : w.grownBy (w.setCell ⟨X, j, none⟩ u) (some X) :=
  ⟨rfl, rfl, rfl, by simp, fun k _ hk => Below.heap_setCell _ _ _ _ (fun e => hk (by rw [e]))⟩
theorem owns_slice {w : World} {base : Nat} {v : Value} {n : Nat} {e : TypeId} {s : Nat} {xs : List Value} (h : w.ownsRow base e s v n xs) : ∃ a c, v = .slice a n c := by
  rcases h.2 with ⟨rfl, e⟩ | ⟨g, c, _, rfl, _⟩
  · exact ⟨none, 0, by rw [e]⟩
  · exact ⟨_, _, rfl⟩
theorem OwnT.slice {base n : Nat} {w : World} {v : Value} {ts : List (List Int)} (h : ∃ rows : List Value, w.ownsRow base 90 1 v n rows ∧ ∀ j, j < n → ∃ u, rows[j]? = some u ∧ w.ownsRow base 2 1 u (ts.getD j []).length (ints (ts.getD j []))) : ∃ a c, v = .slice a n c := owns_slice h.choose_spec.1
theorem owns_one {w : World} {base : Nat} {v : Value} {n : Nat} {e : TypeId} {s : Nat} {xs : List Value} (h : w.ownsRow base e s v n xs) : v.oneCell' = true := by
  rcases h.2 with ⟨rfl, _⟩ | ⟨g, c, cur, rfl, _⟩ <;> rfl
/-- A list of rows of one's own, each of which is a list of integers of one's own. -/
def OwnT (base : Nat) (w : World) (v : Value) (n : Nat) (ts : List (List Int)) : Prop := ∃ rows : List Value, w.ownsRow base 90 1 v n rows ∧ ∀ j, j < n → ∃ u, rows[j]? = some u ∧ w.ownsRow base 2 1 u (ts.getD j []).length (ints (ts.getD j []))
theorem OwnT.up {base n : Nat} {w w' : World} {v : Value} {ts : List (List Int)} (h : OwnT base w v n ts) (hB : Below w.heap.size w w') : OwnT base w' v n ts := by
  obtain ⟨rows, h1, h2⟩ := h
  refine ⟨rows, owns_up h1 hB, fun j hj => ?_⟩
  obtain ⟨u, e1, e2⟩ := h2 j hj
  exact ⟨u, e1, owns_up e2 hB⟩
theorem OwnT.low {base base' n : Nat} {w : World} {v : Value} {ts : List (List Int)} (h : OwnT base w v n ts) (hb : base' ≤ base) : OwnT base' w v n ts := by
  obtain ⟨rows, h1, h2⟩ := h
  refine ⟨rows, owns_low h1 hb, fun j hj => ?_⟩
  obtain ⟨u, e1, e2⟩ := h2 j hj
  exact ⟨u, e1, owns_low e2 hb⟩
theorem OwnT.side {base n b2 : Nat} {w w' : World} {v v2 : Value} {ts : List (List Int)} {e2 : TypeId} {s2 n2 : Nat} {x2 : List Value} (h : OwnT base w v n ts) (k : w.ownsRow b2 e2 s2 v2 n2 x2) (hg : w.grownBy w' v2.ownBlock) (he : 90 ≠ e2) (he' : 2 ≠ e2) : OwnT base w' v n ts := by
  obtain ⟨rows, h1, h2⟩ := h
  refine ⟨rows, owns_side h1 k he hg, fun j hj => ?_⟩
  obtain ⟨u, e1, e2⟩ := h2 j hj
  exact ⟨u, e1, owns_side e2 k he' hg⟩
theorem OwnT.snoc {base k : Nat} {w w' : World} {v v' : Value} {ts : List (List Int)} {rows : List Value} {u : Value} (h1 : w.ownsRow base 90 1 v k rows) (h2 : ∀ j, j < k → ∃ u, rows[j]? = some u ∧ w.ownsRow base 2 1 u (ts.getD j []).length (ints (ts.getD j [])))
    (hu : w.ownsRow base 2 1 u (ts.getD k []).length (ints (ts.getD k []))) (hg : w.grownBy w' v.ownBlock) (hv : w'.ownsRow base 90 1 v' (k + 1) (rows ++ [u])) : OwnT base w' v' (k + 1) ts := by
  refine ⟨_, hv, fun j hj => ?_⟩
  have hl : rows.length = k := by rw [h1.1]; omega
  by_cases hjk : j < k
  · obtain ⟨u', e1, e2⟩ := h2 j hjk
    exact ⟨u', by rw [List.getElem?_append_left (by omega)]; exact e1, owns_side e2 h1 (by decide) hg⟩
  · obtain rfl : j = k := by omega
    exact ⟨u, by rw [List.getElem?_append_right (by omega), hl]; simp, owns_side hu h1 (by decide) hg⟩
/-- Rows of one's own are a list of triangles. -/
theorem OwnT.is {base n : Nat} {w : World} {v : Value} {ts : List (List Int)} (h : OwnT base w v n ts) (hn : ts.length = n) (hz : ∀ j, j < n → ∀ z ∈ ts.getD j [], (Lit.int .i64 z).wf = true) : ∃ a cap, v = .slice a n cap ∧ IsTs w a n cap ts := by
  obtain ⟨rows, h1, h2⟩ := h
  have h1' := h1
  rcases h1.2 with ⟨rfl, hn0⟩ | ⟨g, cap, cur, rfl, hb, hh, hc1, hc2, hs, ht⟩
  · exact ⟨none, 0, by rw [hn0], hn, by omega, by unfold maxLen; omega, fun _ => ⟨hn0, rfl⟩, fun x hx => by cases hx⟩
  · refine ⟨_, cap, rfl, hn, hc1, hc2, by simp, fun x hx i hi => ?_⟩
    cases hx
    obtain ⟨u, e1, e2⟩ := h2 i hi
    obtain ⟨b, c, rfl, hI, _⟩ := is_of_owns e2 rfl (hz i hi)
    exact ⟨b, _, c, by rw [addr_add', Nat.zero_add, h1'.cellAt i (by omega)]; exact e1, hI⟩
/-- Cells that hold vectors of these classes. -/
def PV (n : Nat) (xs : List Value) (cs : List C3) : Prop := ∀ j, j < n → ∃ p q r, xs[j * 3]? = some (.float .f32 p) ∧ xs[j * 3 + 1]? = some (.float .f32 q) ∧ xs[j * 3 + 2]? = some (.float .f32 r) ∧ FV .f32 p (cs.getD j c0).1 ∧ FV .f32 q (cs.getD j c0).2.1 ∧ FV .f32 r (cs.getD j c0).2.2
theorem vs_cells {w : World} {a : Option Addr} {n cap : Nat} {cs : List C3} (h : IsVs w a n cap cs) : ∃ xs : List Value, xs.length = n * 3 ∧ (∀ ad, a = some ad → ∀ j u, xs[j]? = some u → w.cell? (ad.add j) = some u) ∧ (∀ u ∈ xs, u.oneCell' = true) ∧ PV n xs cs := by
  obtain ⟨h1, h2, h3, h4, h5⟩ := h
  cases a with
  | none =>
    obtain ⟨rfl, _⟩ := h4 rfl
    exact ⟨[], rfl, ⟨fun _ had => (by cases had), fun u hu => absurd hu (by simp), fun j hj => absurd hj (by omega)⟩⟩
  | some x =>
    have hc : ∀ j, j < n * 3 → ∃ p, w.cell? (x.add j) = some (.float .f32 p) := by
      intro j hj
      obtain ⟨p, q, r, k0, k1, k2, _⟩ := h5 x rfl (j / 3) (by omega)
      have : j = j / 3 * 3 ∨ j = j / 3 * 3 + 1 ∨ j = j / 3 * 3 + 2 := by omega
      rcases this with e | e | e
      · exact ⟨p, by rw [e]; exact k0⟩
      · exact ⟨q, by rw [e]; exact k1⟩
      · exact ⟨r, by rw [e]; exact k2⟩
    refine ⟨(List.range (n * 3)).map fun j => (w.cell? (x.add j)).getD undef, by simp, fun ad had j u hu => ?_, fun u hu => ?_, fun j hj => ?_⟩
    · cases had
      have hj : j < n * 3 := by have := (List.getElem?_eq_some_iff.1 hu).1; simpa using this
      obtain ⟨p, hp⟩ := hc j hj
      simp [hj, hp] at hu
      rw [hp, ← hu]
    · obtain ⟨j, hj, rfl⟩ := List.mem_map.1 hu
      obtain ⟨p, hp⟩ := hc j (List.mem_range.1 hj)
      rw [hp]; rfl
    · obtain ⟨p, q, r, k0, k1, k2, hf⟩ := h5 x rfl j hj
      have g0 : j * 3 < n * 3 := by omega
      have g1 : j * 3 + 1 < n * 3 := by omega
      have g2 : j * 3 + 2 < n * 3 := by omega
      exact ⟨p, q, r, by simp [g0, k0], by simp [g1, k1], by simp [g2, k2], hf⟩
theorem vs_of_owns {w : World} {base n : Nat} {v : Value} {xs : List Value} {cs : List C3} (h : w.ownsRow base 33 3 v n xs) (hn : cs.length = n) (hp : PV n xs cs) : ∃ a cap, v = .slice a n cap ∧ IsVs w a n cap cs := by
  have h' := h
  rcases h.2 with ⟨rfl, hn0⟩ | ⟨g, cap, cur, rfl, hb, hh, hc1, hc2, hs, ht⟩
  · exact ⟨none, 0, by rw [hn0], hn, by omega, by unfold maxLen; omega, fun _ => ⟨hn0, rfl⟩, fun x hx => by cases hx⟩
  · refine ⟨_, cap, rfl, hn, hc1, hc2, by simp, fun x hx i hi => ?_⟩
    cases hx
    obtain ⟨p, q, r, e0, e1, e2, hf⟩ := hp i hi
    exact ⟨p, q, r, by rw [addr_add', Nat.zero_add, h'.cellAt _ (by omega)]; exact e0, by rw [addr_add', Nat.zero_add, h'.cellAt _ (by omega)]; exact e1, by rw [addr_add', Nat.zero_add, h'.cellAt _ (by omega)]; exact e2, hf⟩
end Go.Proofs.Ytcgnmnbjgamedaa

/-
Texts in one: what RestOf stands on, part 10. Conditions: those of each.
-/
import Derived.Test.YtcgnmnbjgamedabGreatKRestOf9

/-
Lists of one's own of different kinds lie in different blocks; lists of rows, and what is read off a list of vectors. Conditions: none.
-/
namespace Go.Proofs.YtcgnmnbjgamedabGreat
open Go Fk Go.RowKit
set_option linter.unusedVariables false
set_option maxRecDepth 8000
theorem owns_up {w w' : World} {base : Nat} {e : TypeId} {size : Nat} {v : Value} {n : Nat} {xs : List Value} (h : w.ownsRow base e size v n xs) (hB : Below w.heap.size w w') : w'.ownsRow base e size v n xs :=
  h.kept (row := none) ⟨hB.os, hB.tape, hB.output, hB.size, fun k hk _ => hB.block k hk⟩ (by cases v.ownBlock <;> simp)
theorem owns_low {w : World} {base base' : Nat} {e : TypeId} {size : Nat} {v : Value} {n : Nat} {xs : List Value} (h : w.ownsRow base e size v n xs) (hb : base' ≤ base) : w.ownsRow base' e size v n xs := by
  obtain ⟨h1, h2⟩ := h
  refine ⟨h1, h2.imp id ?_⟩
  rintro ⟨g, cap, cur, e1, e2, e3⟩
  exact ⟨g, cap, cur, e1, Nat.le_trans hb e2, e3⟩
theorem owns_ne {w : World} {b1 b2 : Nat} {e1 e2 : TypeId} {s1 s2 : Nat} {v1 v2 : Value} {n1 n2 : Nat} {x1 x2 : List Value} (h1 : w.ownsRow b1 e1 s1 v1 n1 x1) (h2 : w.ownsRow b2 e2 s2 v2 n2 x2) (he : e1 ≠ e2) : v1.ownBlock = none ∨ v1.ownBlock ≠ v2.ownBlock := by
  rcases h1.2 with ⟨rfl, _⟩ | ⟨g, c, cur, rfl, _, hg, _⟩
  · exact .inl rfl
  · right
    rcases h2.2 with ⟨rfl, _⟩ | ⟨g2, c2, cur2, rfl, _, hg2, _⟩
    · simp [Value.ownBlock]
    · simp only [Value.ownBlock]
      intro e
      cases e
      rw [hg] at hg2
      cases hg2
      exact he rfl
/-- An own list of another kind is kept where this one grows. -/
theorem owns_side {w w' : World} {b1 b2 : Nat} {e1 e2 : TypeId} {s1 s2 : Nat} {v1 v2 : Value} {n1 n2 : Nat} {x1 x2 : List Value} (h1 : w.ownsRow b1 e1 s1 v1 n1 x1) (h2 : w.ownsRow b2 e2 s2 v2 n2 x2) (he : e1 ≠ e2) (hg : w.grownBy w' v2.ownBlock) : w'.ownsRow b1 e1 s1 v1 n1 x1 :=
  h1.kept hg (owns_ne h1 h2 he)
theorem owns_slice {w : World} {base : Nat} {v : Value} {n : Nat} {e : TypeId} {s : Nat} {xs : List Value} (h : w.ownsRow base e s v n xs) : ∃ a c, v = .slice a n c := by
  rcases h.2 with ⟨rfl, e⟩ | ⟨g, c, _, rfl, _⟩
  · exact ⟨none, 0, by rw [e]⟩
  · exact ⟨_, _, rfl⟩
theorem OwnT.slice {base n : Nat} {w : World} {v : Value} {ts : List (List Int)} (h : ∃ rows : List Value, w.ownsRow base 49 1 v n rows ∧ ∀ j, j < n → ∃ u, rows[j]? = some u ∧ w.ownsRow base 2 1 u (ts.getD j []).length (ints (ts.getD j []))) : ∃ a c, v = .slice a n c := owns_slice h.choose_spec.1
/-- A list of rows of one's own, each of which is a list of integers of one's own. -/
def OwnT (base : Nat) (w : World) (v : Value) (n : Nat) (ts : List (List Int)) : Prop := ∃ rows : List Value, w.ownsRow base 49 1 v n rows ∧ ∀ j, j < n → ∃ u, rows[j]? = some u ∧ w.ownsRow base 2 1 u (ts.getD j []).length (ints (ts.getD j []))
theorem OwnT.up {base n : Nat} {w w' : World} {v : Value} {ts : List (List Int)} (h : OwnT base w v n ts) (hB : Below w.heap.size w w') : OwnT base w' v n ts := by
  obtain ⟨rows, h1, h2⟩ := h
  refine ⟨rows, owns_up h1 hB, fun j hj => ?_⟩
  obtain ⟨u, e1, e2⟩ := h2 j hj
  exact ⟨u, e1, owns_up e2 hB⟩
theorem OwnT.low {base base' n : Nat} {w : World} {v : Value} {ts : List (List Int)} (h : OwnT base w v n ts) (hb : base' ≤ base) : OwnT base' w v n ts := by
  obtain ⟨rows, h1, h2⟩ := h
  refine ⟨rows, owns_low h1 hb, fun j hj => ?_⟩
  obtain ⟨u, e1, e2⟩ := h2 j hj
  exact ⟨u, e1, owns_low e2 hb⟩
theorem OwnT.side {base n b2 : Nat} {w w' : World} {v v2 : Value} {ts : List (List Int)} {e2 : TypeId} {s2 n2 : Nat} {x2 : List Value} (h : OwnT base w v n ts) (k : w.ownsRow b2 e2 s2 v2 n2 x2) (hg : w.grownBy w' v2.ownBlock) (he : 49 ≠ e2) (he' : 2 ≠ e2) : OwnT base w' v n ts := by
  obtain ⟨rows, h1, h2⟩ := h
  refine ⟨rows, owns_side h1 k he hg, fun j hj => ?_⟩
  obtain ⟨u, e1, e2⟩ := h2 j hj
  exact ⟨u, e1, owns_side e2 k he' hg⟩
theorem OwnT.snoc {base k : Nat} {w w' : World} {v v' : Value} {ts : List (List Int)} {rows : List Value} {u : Value} (h1 : w.ownsRow base 49 1 v k rows) (h2 : ∀ j, j < k → ∃ u, rows[j]? = some u ∧ w.ownsRow base 2 1 u (ts.getD j []).length (ints (ts.getD j [])))
    (hu : w.ownsRow base 2 1 u (ts.getD k []).length (ints (ts.getD k []))) (hg : w.grownBy w' v.ownBlock) (hv : w'.ownsRow base 49 1 v' (k + 1) (rows ++ [u])) : OwnT base w' v' (k + 1) ts := by
  refine ⟨_, hv, fun j hj => ?_⟩
  have hl : rows.length = k := by rw [h1.1]; omega
  by_cases hjk : j < k
  · obtain ⟨u', e1, e2⟩ := h2 j hjk
    exact ⟨u', by rw [List.getElem?_append_left (by omega)]; exact e1, owns_side e2 h1 (by decide) hg⟩
  · obtain rfl : j = k := by omega
    exact ⟨u, by rw [List.getElem?_append_right (by omega), hl]; simp, owns_side hu h1 (by decide) hg⟩
/-- Rows of one's own are a list of triangles. -/
theorem OwnT.is {base n : Nat} {w : World} {v : Value} {ts : List (List Int)} (h : OwnT base w v n ts) (hn : ts.length = n) (hz : ∀ j, j < n → ∀ z ∈ ts.getD j [], (Lit.int .i64 z).wf = true) : ∃ a cap, v = .slice a n cap ∧ IsTs w a n cap ts := by
  obtain ⟨rows, h1, h2⟩ := h
  have h1' := h1
  rcases h1.2 with ⟨rfl, hn0⟩ | ⟨g, cap, cur, rfl, hb, hh, hc1, hc2, hs, ht⟩
  · exact ⟨none, 0, by rw [hn0], hn, by omega, by unfold maxLen; omega, fun _ => ⟨hn0, rfl⟩, fun x hx => by cases hx⟩
  · refine ⟨_, cap, rfl, hn, hc1, hc2, by simp, fun x hx i hi => ?_⟩
    cases hx
    obtain ⟨u, e1, e2⟩ := h2 i hi
    obtain ⟨b, c, rfl, hI, _⟩ := is_of_owns e2 rfl (hz i hi)
    exact ⟨b, _, c, by rw [addr_add', Nat.zero_add, h1'.cellAt i (by omega)]; exact e1, hI⟩
/-- Cells that hold vectors of these classes. -/
def PV (n : Nat) (xs : List Value) (cs : List C3) : Prop := ∀ j, j < n → ∃ p q r, xs[j * 3]? = some (.float .f32 p) ∧ xs[j * 3 + 1]? = some (.float .f32 q) ∧ xs[j * 3 + 2]? = some (.float .f32 r) ∧ FV .f32 p (cs.getD j c0).1 ∧ FV .f32 q (cs.getD j c0).2.1 ∧ FV .f32 r (cs.getD j c0).2.2
end Go.Proofs.YtcgnmnbjgamedabGreat

/-
A region whose order is open, with a narrow place: an operation before or behind which every other one comes (an append), and a store that comes last. Conditions: no operation is guarded, every edge leads to an earlier operation, no slot is written twice, the store comes last.
-/
namespace Go.Proofs.YtcgnmnbjgamedabGreat
namespace Reg5
open Go Reg
set_option linter.unusedVariables false
section
variable {P : Program} {ops : Array Oper} {Q : Exit → Act → World → Prop} {md : Region.Mode}
/-- Operation m is a narrow place: what is before it comes before it, what is behind it comes behind it. -/
def narrow (ops : Array Oper) (m : Nat) : Bool :=
  decide (m < ops.size) && ((List.range m).all fun i => (List.range (m + 1)).any fun j => decide (i < j) && behind ops i j) && ((List.range ops.size).all fun i => decide (i ≤ m) || behind ops m i)
theorem narrow_lt {ops : Array Oper} {m : Nat} (h : narrow ops m = true) : m < ops.size := by
  unfold narrow at h; simp only [Bool.and_eq_true, decide_eq_true_eq] at h; exact h.1.1
theorem narrow_up {ops : Array Oper} {m i : Nat} (h : narrow ops m = true) (hi : i < ops.size) (hm : m < i) : behind ops m i = true := by
  unfold narrow at h; simp only [Bool.and_eq_true] at h
  have := List.all_eq_true.1 h.2 i (List.mem_range.2 hi)
  have hn : ¬ i ≤ m := by omega
  simpa [hn] using this
theorem below_m {ops : Array Oper} {m : Nat} {L : Array Bool} (h : narrow ops m = true) (hcl : ∀ i j, L.getD j false = true → behind ops i j = true → L.getD i false = true) (hm : L.getD m false = true) :
    ∀ d i, m - i = d → i ≤ m → L.getD i false = true := by
  intro d
  induction d using Nat.strongRecOn with
  | ind d ih =>
    intro i hd hi
    by_cases e : i = m
    · rw [e]; exact hm
    · have hlt : i < m := by omega
      have h' := h
      unfold narrow at h'; simp only [Bool.and_eq_true] at h'
      have := List.all_eq_true.1 h'.1.2 i (List.mem_range.2 hlt)
      rw [List.any_eq_true] at this
      obtain ⟨j, hj, hb⟩ := this
      rw [Bool.and_eq_true, decide_eq_true_eq] at hb
      have hjm := List.mem_range.1 hj
      exact hcl i j (ih (m - j) (by omega) j rfl (by omega)) hb.2
/-- What is asked of operation i: before the narrow place with C, behind it with D. -/
def Obl (P : Program) (ops : Array Oper) (m : Nat) (a0 : Act) (C D : World → Prop) (G G' : World → World → Prop) (R : Nat → Value → World → Prop) (T : Nat → Act → World → Prop) (Q : Exit → Act → World → Prop) (i : Nat) (o : Oper) : Prop :=
  ∀ a w, (i ≤ m → C w) → (m < i → D w) → (∀ t, ((List.range ops.size).all fun j => slotOf ops j != some t || behind ops i j) = true → a.eval (.tmp t) = a0.eval (.tmp t)) →
    (∀ j, behind ops j i = true → (i ≤ m ∨ m ≤ j) → Has ops R j a w) →
    o.wp P a w (fun a' w' => ∃ v, a' = a.put o.dst v ∧ (o.dst ≠ none → R i v w') ∧ (o.dst = none → T i a w') ∧ (i < m → C w' ∧ G w w') ∧ (m ≤ i → o.dst ≠ none → D w') ∧ (m < i → o.dst ≠ none → G' w w')) Q
def OblAll (P : Program) (ops : Array Oper) (m : Nat) (a0 : Act) (C D : World → Prop) (G G' : World → World → Prop) (R : Nat → Value → World → Prop) (T : Nat → Act → World → Prop) (Q : Exit → Act → World → Prop) : Nat → List Oper → Prop
  | _, [] => True
  | i, o :: l => Obl P ops m a0 C D G G' R T Q i o ∧ OblAll P ops m a0 C D G G' R T Q (i + 1) l
theorem OblAll.get {m : Nat} {a0 : Act} {C D : World → Prop} {G G' : World → World → Prop} {R : Nat → Value → World → Prop} {T : Nat → Act → World → Prop} :
    ∀ {l : List Oper} {k : Nat}, OblAll P ops m a0 C D G G' R T Q k l → ∀ {i : Nat} {o : Oper}, l[i]? = some o → Obl P ops m a0 C D G G' R T Q (k + i) o
  | [], _, _, _, _, h => by simp at h
  | _ :: _, _, h, 0, _, ho => by simp at ho; subst ho; exact h.1
  | _ :: l, k, h, i + 1, _, ho => by
    have := OblAll.get h.2 (i := i) (by simpa using ho)
    rwa [Nat.add_assoc, Nat.add_comm 1 i] at this

section
variable {m : Nat} {a0 : Act} {C D : World → Prop} {G G' : World → World → Prop} {R : Nat → Value → World → Prop} {T : Nat → Act → World → Prop} {i : Nat} {o : Oper}
theorem Obl.early (hi : decide (i < m) = true) (hn : o.dst.isSome = true)
    (h : ∀ a w, C w → (∀ t, ((List.range ops.size).all fun j => slotOf ops j != some t || behind ops i j) = true → a.eval (.tmp t) = a0.eval (.tmp t)) →
      (∀ j, behind ops j i = true → Has ops R j a w) → ∀ K : Act → World → Prop, (∀ v w', R i v w' → C w' → G w w' → K (a.put o.dst v) w') → o.wp P a w K Q) : Obl P ops m a0 C D G G' R T Q i o := by
  have hi' := of_decide_eq_true hi
  intro a w hC _ he hd
  refine h a w (hC (by omega)) he (fun j hj => hd j hj (.inl (by omega))) _ fun v w' h1 h2 h3 => ⟨v, rfl, fun _ => h1, fun e => ?_, fun _ => ⟨h2, h3⟩, fun hm => ?_, fun hm => ?_⟩
  · rw [e] at hn; cases hn
  · omega
  · omega
theorem Obl.mid (hi : decide (i = m) = true) (hn : o.dst.isSome = true)
    (h : ∀ a w, C w → (∀ t, ((List.range ops.size).all fun j => slotOf ops j != some t || behind ops i j) = true → a.eval (.tmp t) = a0.eval (.tmp t)) →
      (∀ j, behind ops j i = true → Has ops R j a w) → ∀ K : Act → World → Prop, (∀ v w', R i v w' → D w' → K (a.put o.dst v) w') → o.wp P a w K Q) : Obl P ops m a0 C D G G' R T Q i o := by
  have hi' := of_decide_eq_true hi
  intro a w hC _ he hd
  refine h a w (hC (by omega)) he (fun j hj => hd j hj (.inl (by omega))) _ fun v w' h1 h2 => ⟨v, rfl, fun _ => h1, fun e => ?_, fun hm => ?_, fun _ _ => h2, fun hm => ?_⟩
  · rw [e] at hn; cases hn
  · omega
  · omega
theorem Obl.late (hi : decide (m < i) = true)
    (h : ∀ a w, D w → (∀ t, ((List.range ops.size).all fun j => slotOf ops j != some t || behind ops i j) = true → a.eval (.tmp t) = a0.eval (.tmp t)) →
      (∀ j, behind ops j i = true → m ≤ j → Has ops R j a w) → ∀ K : Act → World → Prop, (∀ v w', (o.dst ≠ none → R i v w') → (o.dst = none → T i a w') → (o.dst ≠ none → D w') → (o.dst ≠ none → G' w w') → K (a.put o.dst v) w') → o.wp P a w K Q) : Obl P ops m a0 C D G G' R T Q i o := by
  have hi' := of_decide_eq_true hi
  intro a w _ hD he hd
  refine h a w (hD (by omega)) he (fun j hj hm => hd j hj (.inr hm)) _ fun v w' h1 h2 h3 h4 => ⟨v, rfl, h1, h2, fun hm => ?_, fun _ => h3, fun _ => h4⟩
  omega
end

theorem wp_region_inv {id m : Nat} {a0 : Act} {w0 : World} {C D : World → Prop} {G G' : World → World → Prop} {R : Nat → Value → World → Prop} {T : Nat → Act → World → Prop} (hm : P.follows .mixedOrders = true) (ht : tidy ops a0.tmps.size = true) (hnar : narrow ops m = true)
    (hG : ∀ j v w w', j < m → C w → G w w' → R j v w → R j v w') (hG' : ∀ j v w w', m ≤ j → D w → G' w w' → R j v w → R j v w') (hC : C { w0 with drawn := w0.drawn + 1 })
    (hO : OblAll P ops m a0 C D G G' R T Q 0 ops.toList)
    (hQ : ∀ a w, a.defers = a0.defers → a.tmps.size = a0.tmps.size → (∀ t, (ops.all fun o => o.dst != some t) = true → a.eval (.tmp t) = a0.eval (.tmp t)) → ((∀ j, j < ops.size → slotOf ops j ≠ none) → D w ∧ ∀ j, m ≤ j → j < ops.size → Has ops R j a w) → (∀ j, HasT ops T j a w) → Q .normal a w) :
    (Code.region id ops true).wp P Q a0 w0 := by
  unfold tidy at ht
  simp only [Bool.and_eq_true] at ht
  obtain ⟨⟨⟨⟨hlow, hgd⟩, hbd⟩, hdis⟩, hlast⟩ := ht
  have slot_lt : ∀ {j d}, slotOf ops j = some d → j < ops.size := fun {j d} h => by
    unfold slotOf at h
    cases ho : ops[j]? with
    | none => rw [ho] at h; cases h
    | some o => exact (Array.getElem?_eq_some_iff.1 ho).1
  have slot_bd : ∀ {j d}, slotOf ops j = some d → d < a0.tmps.size := fun {j d} h => by
    have hj := slot_lt h
    have := Array.all_eq_true.1 hbd j hj
    unfold slotOf at h
    rw [Array.getElem?_eq_getElem hj] at h
    simp only [Option.bind_some] at h
    rw [h] at this
    simpa using this
  have slot_ne : ∀ {i j d}, slotOf ops i = some d → slotOf ops j = some d → i = j := fun {i j d} h1 h2 => by
    have a1 := slot_lt h1
    have a2 := slot_lt h2
    have := List.all_eq_true.1 (List.all_eq_true.1 hdis i (List.mem_range.2 a1)) j (List.mem_range.2 a2)
    rw [h1, h2] at this
    simpa using this
  let Inv : Array Bool → Act → World → Prop := fun listed a w => ((∀ j, j < ops.size → slotOf ops j = none → listed.getD j false = false) → (listed.getD m false = false → C w) ∧ (listed.getD m false = true → D w) ∧ ∀ j, listed.getD j false = true → (listed.getD m false = false ∨ m ≤ j) → Has ops R j a w) ∧ a.defers = a0.defers ∧ a.tmps.size = a0.tmps.size ∧
    (∀ t, (∀ j, slotOf ops j = some t → listed.getD j false = false) → a.eval (.tmp t) = a0.eval (.tmp t)) ∧
    (∀ i j, listed.getD j false = true → behind ops i j = true → listed.getD i false = true) ∧ (∀ j, listed.getD j false = true → HasT ops T j a w)
  refine wp_region_any hm (wpAny_inv (Inv := Inv) hlow ?_ ?_ _ _ _ _ (by simp) (by simp) ⟨fun _ => ⟨fun _ => hC, fun h => ?_, fun j hj => ?_⟩, rfl, rfl, fun _ _ => rfl, ?_, ?_⟩)
  · intro i listed a w hs hi ⟨hCw0, hd, hsz, hext, hcl, hT⟩
    obtain ⟨hun, o, ho, hdeps⟩ := mem_ready.1 hi
    have hilt : i < ops.size := (Array.getElem?_eq_some_iff.1 ho).1
    have hun' : listed.getD i false = false := by
      have : i < listed.size := by omega
      simp [this] at hun ⊢; exact hun
    have hg : o.guard = none := by
      have := Array.all_eq_true.1 hgd i hilt
      rw [Array.getElem?_eq_getElem hilt] at ho
      cases ho
      simpa using this
    have hno : ∀ j, j < ops.size → slotOf ops j = none → listed.getD j false = false := fun j hlt hn => by
      cases hl : listed.getD j false
      · rfl
      · exfalso
        have h1 := List.all_eq_true.1 hlast j (List.mem_range.2 hlt)
        rw [hn] at h1
        simp only [bne_self_eq_false, Bool.false_or] at h1
        have h2 := List.all_eq_true.1 h1 i (List.mem_range.2 hilt)
        have hne : i ≠ j := fun e => by subst e; rw [hun'] at hl; cases hl
        simp [hne] at h2
        have := hcl i j hl h2
        rw [hun'] at this; cases this
    obtain ⟨hC1, hD1, hhas⟩ := hCw0 hno
    have side1 : i ≤ m → listed.getD m false = false := fun him => by
      cases hl : listed.getD m false
      · rfl
      · have := below_m hnar hcl hl _ i rfl him; rw [hun'] at this; cases this
    have lstd : ∀ j, behind ops j i = true → listed.getD j false = true := fun j hj => by
      obtain ⟨e, he, h1, h2⟩ := behind_spec hj ho
      rw [← h1]
      exact hdeps e he h2
    have side2 : m < i → listed.getD m false = true := fun him => lstd m (narrow_up hnar hilt him)
    have hmlt := narrow_lt hnar
    have hob := OblAll.get hO (i := i) (o := o) (by simpa using ho)
    rw [Nat.zero_add] at hob
    have hwp := hob a w (fun h => hC1 (side1 h)) (fun h => hD1 (side2 h)) (fun t htt => hext t fun j hj => by
        have := List.all_eq_true.1 htt j (List.mem_range.2 (slot_lt hj))
        rw [hj] at this
        simp at this
        cases hl : listed.getD j false
        · rfl
        · have := hcl i j hl this; rw [hun'] at this; cases this)
      (fun j hj hm => hhas j (lstd j hj) (hm.imp side1 fun h => h))
    unfold wpOp
    rw [ho]
    simp only [Region.wanted, hg, if_true]
    refine .inl (Oper.wp_mono ?_ hwp)
    rintro a' w' ⟨v, rfl, hR, hTi, hCG, hD', hGw'⟩
    have hdst : slotOf ops i = o.dst := by unfold slotOf; rw [ho]; rfl
    have keep : ∀ t, o.dst ≠ some t → (a.put o.dst v).eval (.tmp t) = a.eval (.tmp t) := fun t h => Act.eval_put (fun d hd he => h (by rw [hd]; cases he; rfl))
    have lst : ∀ j, (listed.setIfInBounds i true).getD j false = true → j = i ∨ listed.getD j false = true := fun j h => by
      by_cases hji : i = j
      · exact .inl hji.symm
      · rw [getD_set_ne false hji] at h; exact .inr h
    have hli : i < listed.size := by omega
    have same : ∀ j, j ≠ i → (listed.setIfInBounds i true).getD j false = listed.getD j false := fun j h => getD_set_ne false (fun e => h e.symm)
    have hHasI : ∀ d, slotOf ops i = some d → R i ((a.put o.dst v).eval (.tmp d)) w' := fun d hjd => by
      rw [hdst] at hjd
      have hb := slot_bd (j := i) (by rw [hdst]; exact hjd)
      have : (a.put o.dst v).eval (.tmp d) = v := by
        unfold Act.put Act.eval; rw [hjd]; simp; exact fun h => absurd (Nat.lt_of_lt_of_le hb (hsz ▸ h)) (Nat.lt_irrefl _)
      rw [this]; exact hR (by rw [hjd]; simp)
    have keepHas : ∀ j, listed.getD j false = true → (∀ v', R j v' w → R j v' w') → Has ops R j a w → Has ops R j (a.put o.dst v) w' := fun j hj' hup hhj d hjd => by
      rw [keep d (fun h => by
        have := slot_ne (show slotOf ops i = some d by rw [hdst]; exact h) hjd
        subst this; rw [hun'] at hj'; cases hj')]
      exact hup _ (hhj d hjd)
    refine ⟨fun hno' => ?_, ?_, ?_, ?_, ?_, ?_⟩
    · have hne : o.dst ≠ none := fun hn => by
        have := hno' i hilt (by rw [hdst]; exact hn)
        simp [hli] at this
      rcases Nat.lt_trichotomy i m with him | him | him
      · have hm0 := side1 (Nat.le_of_lt him)
        have hsm := same m (by omega)
        obtain ⟨hC', hGw⟩ := hCG him
        refine ⟨fun _ => hC', fun h => ?_, fun j hj hjm => ?_⟩
        · rw [hsm, hm0] at h; cases h
        · rcases lst j hj with rfl | hj'
          · exact fun d hjd => hHasI d hjd
          · have hjlt : j < m := by
              rcases Nat.lt_or_ge j m with h | h
              · exact h
              · exfalso
                rcases Nat.eq_or_lt_of_le h with e | e
                · rw [← e, hm0] at hj'; cases hj'
                · by_cases hjs : j < ops.size
                  · have := hcl m j hj' (narrow_up hnar hjs e); rw [hm0] at this; cases this
                  · have : ¬ j < listed.size := by omega
                    simp [this] at hj'
            exact keepHas j hj' (fun v' => hG j v' _ _ hjlt (hC1 hm0) hGw) (hhas j hj' (.inl hm0))
      · subst him
        refine ⟨fun h => ?_, fun _ => hD' (Nat.le_refl _) hne, fun j hj hjm => ?_⟩
        · simp [hli] at h
        · rcases lst j hj with rfl | hj'
          · exact fun d hjd => hHasI d hjd
          · exfalso
            have hm0 := side1 (Nat.le_refl _)
            have hjge : i ≤ j := by
              rcases hjm with h | h
              · simp [hli] at h
              · exact h
            rcases Nat.eq_or_lt_of_le hjge with e | e
            · rw [← e, hm0] at hj'; cases hj'
            · by_cases hjs : j < ops.size
              · have := hcl i j hj' (narrow_up hnar hjs e); rw [hm0] at this; cases this
              · have : ¬ j < listed.size := by omega
                simp [this] at hj'
      · have hm1 := side2 him
        have hsm := same m (by omega)
        refine ⟨fun h => ?_, fun _ => hD' (Nat.le_of_lt him) hne, fun j hj hjm => ?_⟩
        · rw [hsm, hm1] at h; cases h
        · rcases lst j hj with rfl | hj'
          · exact fun d hjd => hHasI d hjd
          · have hjge : m ≤ j := by
              rcases hjm with h | h
              · rw [hsm, hm1] at h; cases h
              · exact h
            exact keepHas j hj' (fun v' => hG' j v' _ _ hjge (hD1 hm1) (hGw' him hne)) (hhas j hj' (.inr hjge))
    · rw [← hd]; unfold Act.put; split <;> rfl
    · rw [← hsz]; unfold Act.put; split <;> simp
    · intro t htt
      rw [keep t (fun h => by
        have := htt i (by rw [hdst]; exact h)
        have hlt : i < listed.size := by omega
        simp [hlt] at this)]
      refine hext t fun j hj => ?_
      have := htt j hj
      cases hl : listed.getD j false
      · rfl
      · rw [getD_set_true hl] at this; cases this
    · intro i' j hj hb
      rcases lst j hj with rfl | hj'
      · refine getD_set_true ?_
        obtain ⟨e, he, h1, h2⟩ := behind_spec hb ho
        rw [← h1]; exact hdeps e he h2
      · exact getD_set_true (hcl i' j hj' hb)
    · intro j hj hn hlt
      rcases lst j hj with rfl | hj'
      · rw [hdst] at hn
        have : a.put o.dst v = a := by rw [hn]; rfl
        rw [this]; exact hTi hn
      · exfalso
        have h1 := List.all_eq_true.1 hlast j (List.mem_range.2 hlt)
        rw [hn] at h1
        simp only [bne_self_eq_false, Bool.false_or] at h1
        have h2 := List.all_eq_true.1 h1 i (List.mem_range.2 hilt)
        have hne : i ≠ j := fun e => by subst e; rw [hun'] at hj'; cases hj'
        simp [hne] at h2
        have := hcl i j hj' h2
        rw [hun'] at this; cases this
  · intro listed a w hall ⟨hCD, hd, hsz, hext, _, hT⟩
    refine hQ a w hd hsz (fun t htt => hext t fun j hj => ?_) (fun hns => ?_) (fun j hn hlt => hT j (hall j hlt) hn hlt)
    · exfalso
      have hlt := slot_lt hj
      have := Array.all_eq_true.1 htt j hlt
      unfold slotOf at hj
      rw [Array.getElem?_eq_getElem hlt] at hj
      simp only [Option.bind_some] at hj
      rw [hj] at this
      simp at this
    · obtain ⟨_, hD, hh⟩ := hCD fun j hlt hn => absurd hn (hns j hlt)
      exact ⟨hD (hall m (narrow_lt hnar)), fun j hm hj => hh j (hall j hj) (.inr hm)⟩
  · simp at h
    rw [Array.getElem?_replicate] at h; split at h <;> simp at h
  · simp at hj
    rw [Array.getElem?_replicate] at hj; split at hj <;> simp at hj
  · intro i j hj
    simp at hj
    rw [Array.getElem?_replicate] at hj; split at hj <;> simp at hj
  · intro j hj
    simp at hj
    rw [Array.getElem?_replicate] at hj; split at hj <;> simp at hj

theorem wp_region_mix {id m : Nat} {a0 : Act} {w0 : World} {C D : World → Prop} {G G' : World → World → Prop} {R : Nat → Value → World → Prop} {T : Nat → Act → World → Prop} (mk : List Bool) (hm : P.follows .mixedOrders = true) (ht : tidy ops a0.tmps.size = true) (hnar : narrow ops m = true)
    (hk : maskOk ops mk a0.tmps.size = true)
    (hG : ∀ j v w w', j < m → C w → G w w' → R j v w → R j v w') (hG' : ∀ j v w w', m ≤ j → D w → G' w w' → R j v w → R j v w') (hC : C { w0 with drawn := w0.drawn + 1 })
    (hO : OblAll P ops m a0 C D G G' R T Q 0 ops.toList)
    (hQ : ∀ (f : Nat → Value) w, ((∀ j, j < ops.size → slotOf ops j ≠ none) → D w ∧ ∀ j d, m ≤ j → slotOf ops j = some d → R j (f d) w) → (∀ j, HasT ops T j ⟨(mixL f mk 0 a0.tmps.toList).toArray, a0.defers⟩ w) → Q .normal ⟨(mixL f mk 0 a0.tmps.toList).toArray, a0.defers⟩ w) :
    (Code.region id ops true).wp P Q a0 w0 := by
  refine wp_region_inv hm ht hnar hG hG' hC hO fun a w hd hsz hext hhas hT => ?_
  unfold maskOk at hk
  simp only [Bool.and_eq_true, beq_iff_eq] at hk
  obtain ⟨hml, hmk⟩ := hk
  have e : a = ⟨(mixL (fun t => a.eval (.tmp t)) mk 0 a0.tmps.toList).toArray, a0.defers⟩ := by
    rw [mixL_eq _ _ _ _ (by simpa using hml) ?_]
    · cases a with
      | mk tmps defers =>
        simp only [Act.mk.injEq]
        refine ⟨?_, hd⟩
        apply Array.ext'
        apply List.ext_getElem?
        intro i
        simp only at hsz
        by_cases hi : i < tmps.size
        · have hi' : i < a0.tmps.size := by omega
          simp [hi, hi', Act.eval]
        · have hi' : ¬ i < a0.tmps.size := by omega
          simp [hi, hi']
    · intro i hi
      have hlt : i < a0.tmps.size := by
        have := (List.getElem?_eq_some_iff.1 hi).1; omega
      have h1 := List.all_eq_true.1 hmk i (List.mem_range.2 hlt)
      have h2 : mk.getD i false = false := by simp [List.getD, hi]
      rw [h2, Bool.false_or] at h1
      have h3 := hext i h1
      rw [Nat.zero_add, h3]
      simp [Act.eval, hlt]
  have h1 : (∀ j, j < ops.size → slotOf ops j ≠ none) → D w ∧ ∀ j d, m ≤ j → slotOf ops j = some d → R j ((fun t => a.eval (.tmp t)) d) w := fun hns => by
    obtain ⟨hD, hh⟩ := hhas hns
    refine ⟨hD, fun j d hm hj => hh j hm ?_ d hj⟩
    unfold slotOf at hj
    cases ho : ops[j]? with
    | none => rw [ho] at hj; cases hj
    | some o => exact (Array.getElem?_eq_some_iff.1 ho).1
  rw [e] at hT ⊢
  exact hQ (fun t => a.eval (.tmp t)) w h1 hT
end
end Reg5
end Go.Proofs.YtcgnmnbjgamedabGreat

/-
The model's copy of a mesh: lists of its own. Conditions: the mesh lies in memory and is not greater than a thousand.
-/
namespace Go.Proofs.YtcgnmnbjgamedabGreat
open Go Fk Go.RowKit
set_option linter.unusedVariables false
set_option maxRecDepth 8000
/-- The mesh that is made lies in block X, the answer in block Z; its places are a list of one's own. -/
def LD (w0 : World) (X Z : Nat) (va vt : Value) (pl : Nat) (xs : List Value) (w : World) : Prop :=
  Below w0.heap.size w0 w ∧ w.ownsRow w0.heap.size 38 2 (.slice (some ⟨X, 0, none⟩) 1 1) 1 [va, vt] ∧ w.ownsRow w0.heap.size 38 2 (.slice (some ⟨Z, 0, none⟩) 1 1) 1 [.slice none 0 0, .slice none 0 0] ∧ w.ownsRow w0.heap.size 40 3 va pl xs
theorem LD.up {w0 w w' : World} {X Z pl : Nat} {va vt : Value} {xs : List Value} (h : LD w0 X Z va vt pl xs w) (hB : Below w.heap.size w w') : LD w0 X Z va vt pl xs w' :=
  ⟨h.1.trans (hB.mono h.1.size), owns_up h.2.1 hB, owns_up h.2.2.1 hB, owns_up h.2.2.2 hB⟩
theorem LD.grow {w0 w w' : World} {X Z pl k : Nat} {va vt : Value} {xs rows : List Value} {b : Nat} (h : LD w0 X Z va vt pl xs w) (h1 : w.ownsRow b 49 1 vt k rows) (hb : w0.heap.size ≤ b) (hg : w.grownBy w' vt.ownBlock) : LD w0 X Z va vt pl xs w' :=
  ⟨h.1.grown hg h.1.size (fun k hk => Nat.le_trans hb (h1.lt k hk).1), owns_side h.2.1 h1 (by decide) hg, owns_side h.2.2.1 h1 (by decide) hg, owns_side h.2.2.2 h1 (by decide) hg⟩
end Go.Proofs.YtcgnmnbjgamedabGreat

/-
Marks in rows that lie beside one another in one block. Conditions: none.
-/
namespace Go.Proofs.YtcgnmnbjgamedabGreat
open Go Fk Go.RowKit
set_option linter.unusedVariables false
set_option maxRecDepth 8000
/-- The block R has n rows, which lie beside one another in the block F. -/
def FlatRows (w : World) (R F n : Nat) : Prop := ∀ j, j < n → ∃ c, w.cell? ⟨R, j, none⟩ = some (.slice (some ⟨F, j * 3, none⟩) 3 c)
theorem FlatRows.same {w w' : World} {R F n : Nat} (h : FlatRows w R F n) (hs : ∀ i v, w.cell? ⟨R, i, none⟩ = some v → w'.cell? ⟨R, i, none⟩ = some v) : FlatRows w' R F n := fun j hj => by
  obtain ⟨c, hc⟩ := h j hj
  exact ⟨c, hs _ _ hc⟩
end Go.Proofs.YtcgnmnbjgamedabGreat

/-
Marks in meshes whose rows lie beside one another: what is written is there, and nothing else turns. Conditions: none beyond their sizes.
-/
namespace Go.Proofs.YtcgnmnbjgamedabGreat
open Go Fk Go.RowKit
set_option linter.unusedVariables false
set_option maxRecDepth 8000
def Flat (lo hi : Nat) (w : World) (ta : Option Addr) (n F : Nat) : Prop := (ta = none ∧ n = 0) ∨ ∃ R, ta = some ⟨R, 0, none⟩ ∧ lo ≤ R ∧ R < hi ∧ R < w.heap.size ∧ R ≠ F ∧ FlatRows w R F n ∧ Own lo hi w F 0 (n * 3)
/-- A mesh that a function made: its places, its rows and their numbers lie in blocks of their own. -/
def GM (lo hi : Nat) (w : World) (pa ta : Option Addr) (pl tl F : Nat) : Prop := Lst lo hi w pa (pl * 3) ∧ Flat lo hi w ta tl F ∧ ∀ P, pa = some P → P.block ≠ F ∧ ∀ R, ta = some R → P.block ≠ R.block
/-- The marks that were written are there. -/
def MrkM (w : World) (pa ta : Option Addr) (pl tl F : Nat) : Prop :=
  ((pa = none ∧ pl = 0) ∨ ∃ P, pa = some ⟨P, 0, none⟩ ∧ ∀ j, j < pl * 3 → w.cell? ⟨P, 0 + j, none⟩ = some (.float .f32 (floatOfInt .f32 ((1 + j : Nat) : Int)))) ∧
  ((ta = none ∧ tl = 0) ∨ ∃ R, ta = some ⟨R, 0, none⟩ ∧ FlatRows w R F tl ∧ ∀ j, j < tl * 3 → w.cell? ⟨F, j, none⟩ = some (.int .i64 ((1 + pl * 3 + j : Nat) : Int)))
theorem MrkM.below {w w' : World} {pa ta : Option Addr} {pl tl F : Nat} (h : MrkM w pa ta pl tl F) (hB : Below w.heap.size w w') : MrkM w' pa ta pl tl F := by
  obtain ⟨h1, h2⟩ := h
  refine ⟨h1.imp id fun ⟨P, e, hc⟩ => ⟨P, e, fun j hj => cell_below hB (hc j hj)⟩, h2.imp id fun ⟨R, e, hf, hc⟩ => ⟨R, e, hf.same (fun i v hv => cell_below hB hv), fun j hj => cell_below hB (hc j hj)⟩⟩
theorem Flat.mark {lo hi lo' hi' : Nat} {w w' : World} {a : Option Addr} {n F : Nat} (h : Flat lo hi w a n F) (hM : Mark lo' hi' w w') (hs : ∀ R, a = some R → ∀ i v, w.cell? ⟨R.block, i, none⟩ = some v → w'.cell? ⟨R.block, i, none⟩ = some v) : Flat lo hi w' a n F :=
  h.imp id fun ⟨R, e, h1, h2, h3, h4, h5, h6⟩ => ⟨R, e, h1, h2, Nat.lt_of_lt_of_le h3 hM.below.size, h4, h5.same (hs _ e), h6.mark hM⟩
theorem GM.below {lo hi : Nat} {w w' : World} {pa ta : Option Addr} {pl tl F : Nat} (h : GM lo hi w pa ta pl tl F) (hB : Below w.heap.size w w') : GM lo hi w' pa ta pl tl F :=
  ⟨h.1.below hB, h.2.1.imp id fun ⟨R, e, h1, h2, h3, h4, h5, h6⟩ => ⟨R, e, h1, h2, Nat.lt_of_lt_of_le h3 hB.size, h4, h5.same (fun i v hv => cell_below hB hv), h6.below hB⟩, h.2.2⟩
/-- Vectors outside the blocks that are marked are as they were. -/
theorem vs_mark {lo hi lo' hi' : Nat} {w0 w w' : World} {a : Option Addr} {n cap : Nat} {cs : List C3} (h : IsVs w a n cap cs) (hl : Lst lo' hi' w0 a (n * 3)) (hM : Mark lo hi w w') (ho : hi' ≤ lo ∨ hi ≤ lo') : IsVs w' a n cap cs := by
  obtain ⟨h1, h2, h3, h4, h5⟩ := h
  refine ⟨h1, h2, h3, h4, fun x hx i hlt => ?_⟩
  rcases hl with ⟨e, _⟩ | ⟨b, e, hown⟩
  · rw [e] at hx; cases hx
  · rw [e] at hx; cases hx
    obtain ⟨p, q, r, k0, k1, k2, hf⟩ := h5 _ e i hlt
    rw [addr_add'] at k0 k1 k2
    have u1 := hown.1
    have u2 := hown.2.1
    have hb : b < lo ∨ hi ≤ b := by omega
    exact ⟨p, q, r, by rw [addr_add']; exact hM.cell hb k0, by rw [addr_add']; exact hM.cell hb k1, by rw [addr_add']; exact hM.cell hb k2, hf⟩
/-- Rows outside the blocks that are marked are as they were. -/
theorem ts_mark {lo hi lo' hi' : Nat} {w w' : World} {a : Option Addr} {n cap F : Nat} {ts : List (List Int)} (h : IsTs w a n cap ts) (hl : Flat lo' hi' w a n F) (hM : Mark lo hi w w') (ho : hi' ≤ lo ∨ hi ≤ lo') : IsTs w' a n cap ts := by
  obtain ⟨h1, h2, h3, h4, h5⟩ := h
  refine ⟨h1, h2, h3, h4, fun x hx i hlt => ?_⟩
  rcases hl with ⟨e, _⟩ | ⟨R, e, u1, u2, u3, u4, u5, u6⟩
  · rw [e] at hx; cases hx
  · rw [e] at hx; cases hx
    obtain ⟨G, c, c', hc, hI⟩ := h5 _ e i hlt
    rw [addr_add', Nat.zero_add] at hc
    obtain ⟨c2, hc2⟩ := u5 i hlt
    have hb : R < lo ∨ hi ≤ R := by omega
    have hbF : F < lo ∨ hi ≤ F := by have := u6.1; have := u6.2.1; omega
    rw [hc2] at hc
    cases hc
    refine ⟨_, _, _, by rw [addr_add', Nat.zero_add]; exact hM.cell hb hc2, ?_⟩
    obtain ⟨i1, i2, i3, i4, i5, i6⟩ := hI
    refine ⟨i1, i2, i3, i4, i5, fun y hy j hj => ?_⟩
    cases hy
    have := i6 _ rfl j hj
    rw [addr_add'] at this ⊢
    exact hM.cell hbF this
end Go.Proofs.YtcgnmnbjgamedabGreat

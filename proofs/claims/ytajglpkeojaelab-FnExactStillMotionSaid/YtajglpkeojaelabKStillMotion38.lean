/-
Texts in one: what StillMotion stands on, part 38. Conditions: those of each.
-/
import Derived.Test.YtajglpkeojaelabKStillMotion37

/-
A region whose order is open, with one store, where what holds before the store may speak of slots. Conditions: no operation is guarded, every edge that binds leads to an earlier operation, no slot is written twice, one operation alone has no slot.
-/
namespace Go.Proofs.Ytajglpkeojaelab
namespace Reg7
open Go Reg Reg6
set_option linter.unusedVariables false
section
variable {P : Program} {ops : Array Oper} {Q : Exit → Act → World → Prop}
/-- Operation s is the store; what an operation before it waits for also comes before it. -/
def tidy7 (ops : Array Oper) (s n : Nat) : Bool :=
  lowb ops && (ops.all fun o => o.guard.isNone) && (ops.all fun o => (o.dst.map fun d => decide (d < n)).getD true) &&
  ((List.range ops.size).all fun i => (List.range ops.size).all fun j => i == j || slotOf ops i == none || slotOf ops i != slotOf ops j) &&
  ((List.range ops.size).all fun i => (slotOf ops i).isSome || i == s) && decide (s < ops.size) && (slotOf ops s).isNone &&
  ((List.range ops.size).all fun i => (List.range ops.size).all fun j => !(behind ops i s && behind ops j i) || behind ops j s)
/-- What is asked of operation i: before the store, at the store, and of one that may come behind it. -/
def Obl (P : Program) (ops : Array Oper) (s : Nat) (a0 : Act) (C : Act → World → Prop) (D : Act → World → Prop) (G : World → World → Prop) (Rv : Nat → Value → Prop) (Rw : Nat → Value → World → Prop) (Q : Exit → Act → World → Prop) (i : Nat) (o : Oper) : Prop :=
  if i = s then
    ∀ a w, C a w → (∀ t, ((List.range ops.size).all fun j => slotOf ops j != some t || behind ops i j) = true → a.eval (.tmp t) = a0.eval (.tmp t)) →
      (∀ j d, behind ops j i = true → slotOf ops j = some d → Rv j (a.eval (.tmp d)) ∧ Rw j (a.eval (.tmp d)) w) →
      o.wp P a w (fun a' w' => a' = a ∧ D a w') Q
  else if behind ops i s = true then
    ∀ a w, C a w → (∀ t, ((List.range ops.size).all fun j => slotOf ops j != some t || behind ops i j) = true → a.eval (.tmp t) = a0.eval (.tmp t)) →
      (∀ j d, behind ops j i = true → slotOf ops j = some d → Rv j (a.eval (.tmp d)) ∧ Rw j (a.eval (.tmp d)) w) →
      o.wp P a w (fun a' w' => ∃ v, a' = a.put o.dst v ∧ Rv i v ∧ Rw i v w' ∧ C (a.put o.dst v) w' ∧ G w w') Q
  else
    ∀ a w, (∀ t, ((List.range ops.size).all fun j => slotOf ops j != some t || behind ops i j) = true → a.eval (.tmp t) = a0.eval (.tmp t)) →
      (∀ j d, behind ops j i = true → slotOf ops j = some d → Rv j (a.eval (.tmp d))) →
      o.wp P a w (fun a' w' => ∃ v, a' = a.put o.dst v ∧ Rv i v ∧ w' = w ∧ (∀ w, C a w → C (a.put o.dst v) w) ∧ ∀ w, D a w → D (a.put o.dst v) w) Q
def OblAll (P : Program) (ops : Array Oper) (s : Nat) (a0 : Act) (C : Act → World → Prop) (D : Act → World → Prop) (G : World → World → Prop) (Rv : Nat → Value → Prop) (Rw : Nat → Value → World → Prop) (Q : Exit → Act → World → Prop) : Nat → List Oper → Prop
  | _, [] => True
  | i, o :: l => Obl P ops s a0 C D G Rv Rw Q i o ∧ OblAll P ops s a0 C D G Rv Rw Q (i + 1) l
variable {s : Nat} {a0 : Act} {C : Act → World → Prop} {D : Act → World → Prop} {G : World → World → Prop} {Rv : Nat → Value → Prop} {Rw : Nat → Value → World → Prop}
theorem OblAll.get :
    ∀ {l : List Oper} {k : Nat}, OblAll P ops s a0 C D G Rv Rw Q k l → ∀ {i : Nat} {o : Oper}, l[i]? = some o → Obl P ops s a0 C D G Rv Rw Q (k + i) o
  | [], _, _, _, _, h => by simp at h
  | _ :: _, _, h, 0, _, ho => by simp at ho; subst ho; exact h.1
  | _ :: l, k, h, i + 1, _, ho => by
    have := OblAll.get h.2 (i := i) (by simpa using ho)
    rwa [Nat.add_assoc, Nat.add_comm 1 i] at this
section
variable {i : Nat} {o : Oper}
theorem Obl.early (h1 : (i == s) = false) (h2 : behind ops i s = true)
    (h : ∀ a w, C a w → (∀ t, ((List.range ops.size).all fun j => slotOf ops j != some t || behind ops i j) = true → a.eval (.tmp t) = a0.eval (.tmp t)) →
      (∀ j d, behind ops j i = true → slotOf ops j = some d → Rv j (a.eval (.tmp d)) ∧ Rw j (a.eval (.tmp d)) w) →
      ∀ K : Act → World → Prop, (∀ v w', Rv i v → Rw i v w' → C (a.put o.dst v) w' → G w w' → K (a.put o.dst v) w') → o.wp P a w K Q) : Obl P ops s a0 C D G Rv Rw Q i o := by
  unfold Obl
  rw [if_neg (by simpa using h1), if_pos h2]
  exact fun a w hC he hd => h a w hC he hd _ fun v w' k1 k2 k3 k4 => ⟨v, rfl, k1, k2, k3, k4⟩
theorem Obl.store (h1 : (i == s) = true)
    (h : ∀ a w, C a w → (∀ t, ((List.range ops.size).all fun j => slotOf ops j != some t || behind ops i j) = true → a.eval (.tmp t) = a0.eval (.tmp t)) →
      (∀ j d, behind ops j i = true → slotOf ops j = some d → Rv j (a.eval (.tmp d)) ∧ Rw j (a.eval (.tmp d)) w) →
      ∀ K : Act → World → Prop, (∀ w', D a w' → K a w') → o.wp P a w K Q) : Obl P ops s a0 C D G Rv Rw Q i o := by
  unfold Obl
  rw [if_pos (by simpa using h1)]
  exact fun a w hC he hd => h a w hC he hd _ fun w' k1 => ⟨rfl, k1⟩
theorem Obl.late (h1 : (i == s) = false) (h2 : behind ops i s = false)
    (h : ∀ a w, (∀ t, ((List.range ops.size).all fun j => slotOf ops j != some t || behind ops i j) = true → a.eval (.tmp t) = a0.eval (.tmp t)) →
      (∀ j d, behind ops j i = true → slotOf ops j = some d → Rv j (a.eval (.tmp d))) →
      ∀ K : Act → World → Prop, (∀ v, Rv i v → (∀ w, C a w → C (a.put o.dst v) w) → (∀ w, D a w → D (a.put o.dst v) w) → K (a.put o.dst v) w) → o.wp P a w K Q) : Obl P ops s a0 C D G Rv Rw Q i o := by
  unfold Obl
  rw [if_neg (by simpa using h1), if_neg (by rw [h2]; decide)]
  exact fun a w he hd => h a w he hd _ fun v k1 kc k2 => ⟨v, rfl, k1, rfl, kc, k2⟩
end
theorem wp_region_inv {id : Nat} {w0 : World} (hm : P.follows .mixedOrders = true) (ht : tidy7 ops s a0.tmps.size = true)
    (hG : ∀ a j v w w', C a w → G w w' → Rw j v w → Rw j v w') (hC : C a0 { w0 with drawn := w0.drawn + 1 })
    (hO : OblAll P ops s a0 C D G Rv Rw Q 0 ops.toList)
    (hQ : ∀ a w, D a w → a.defers = a0.defers → a.tmps.size = a0.tmps.size → (∀ t, (ops.all fun o => o.dst != some t) = true → a.eval (.tmp t) = a0.eval (.tmp t)) → (∀ j d, slotOf ops j = some d → Rv j (a.eval (.tmp d))) → Q .normal a w) :
    (Code.region id ops true).wp P Q a0 w0 := by
  unfold tidy7 at ht
  simp only [Bool.and_eq_true] at ht
  obtain ⟨⟨⟨⟨⟨⟨⟨hlow, hgd⟩, hbd⟩, hdis⟩, hone⟩, hslt⟩, hsn⟩, hclo⟩ := ht
  have hslt := of_decide_eq_true hslt
  have slot_lt : ∀ {j d}, slotOf ops j = some d → j < ops.size := fun {j d} h => by
    unfold slotOf at h
    cases ho : ops[j]? with
    | none => rw [ho] at h; cases h
    | some o => exact (Array.getElem?_eq_some_iff.1 ho).1
  have slot_bd : ∀ {j d}, slotOf ops j = some d → d < a0.tmps.size := fun {j d} h => by
    have hj := slot_lt h
    have := Array.all_eq_true.1 hbd j hj
    unfold slotOf at h
    rw [Array.getElem?_eq_getElem hj] at h
    simp only [Option.bind_some] at h
    rw [h] at this
    simpa using this
  have slot_ne : ∀ {i j d}, slotOf ops i = some d → slotOf ops j = some d → i = j := fun {i j d} h1 h2 => by
    have a1 := slot_lt h1
    have a2 := slot_lt h2
    have := List.all_eq_true.1 (List.all_eq_true.1 hdis i (List.mem_range.2 a1)) j (List.mem_range.2 a2)
    rw [h1, h2] at this
    simpa using this
  let Inv : Array Bool → Act → World → Prop := fun listed a w =>
    (listed.getD s false = false → C a w ∧ ∀ j d, listed.getD j false = true → behind ops j s = true → slotOf ops j = some d → Rw j (a.eval (.tmp d)) w) ∧
    (listed.getD s false = true → D a w) ∧ a.defers = a0.defers ∧ a.tmps.size = a0.tmps.size ∧
    (∀ t, (∀ j, slotOf ops j = some t → listed.getD j false = false) → a.eval (.tmp t) = a0.eval (.tmp t)) ∧
    (∀ j d, listed.getD j false = true → slotOf ops j = some d → Rv j (a.eval (.tmp d))) ∧ (∀ i j, listed.getD j false = true → behind ops i j = true → listed.getD i false = true)
  refine wp_region_any hm (wpAny_inv (Inv := Inv) hlow ?_ ?_ _ _ _ _ (by simp) (by simp) ⟨fun _ => ⟨hC, fun j d hj => ?_⟩, fun h => ?_, rfl, rfl, fun _ _ => rfl, ?_, ?_⟩)
  · intro i listed a w hs hi ⟨hpre, hpost, hd, hsz, hext, hrv, hcl⟩
    obtain ⟨hun, o, ho, hdeps⟩ := mem_ready.1 hi
    have hilt : i < ops.size := (Array.getElem?_eq_some_iff.1 ho).1
    have hli : i < listed.size := by omega
    have hun' : listed.getD i false = false := by simp [hli] at hun ⊢; exact hun
    have hg : o.guard = none := by
      have := Array.all_eq_true.1 hgd i hilt
      rw [Array.getElem?_eq_getElem hilt] at ho
      cases ho
      simpa using this
    have hob := OblAll.get hO (i := i) (o := o) (by simpa using ho)
    rw [Nat.zero_add] at hob
    have he : ∀ t, ((List.range ops.size).all fun j => slotOf ops j != some t || behind ops i j) = true → a.eval (.tmp t) = a0.eval (.tmp t) := fun t htt => hext t fun j hj => by
      have := List.all_eq_true.1 htt j (List.mem_range.2 (slot_lt hj))
      rw [hj] at this
      simp at this
      cases hl : listed.getD j false
      · rfl
      · have := hcl i j hl this; rw [hun'] at this; cases this
    have lstd : ∀ j, behind ops j i = true → listed.getD j false = true := fun j hj => by
      obtain ⟨e, he, h1, h2⟩ := behind_spec hj ho
      rw [← h1]
      exact hdeps e he h2
    have hdst : slotOf ops i = o.dst := by unfold slotOf; rw [ho]; rfl
    have keep : ∀ v t, o.dst ≠ some t → (a.put o.dst v).eval (.tmp t) = a.eval (.tmp t) := fun v t h => Act.eval_put (fun d hd he => h (by rw [hd]; cases he; rfl))
    have lst : ∀ j, (listed.setIfInBounds i true).getD j false = true → j = i ∨ listed.getD j false = true := fun j h => by
      by_cases hji : i = j
      · exact .inl hji.symm
      · rw [getD_set_ne false hji] at h; exact .inr h
    have same : ∀ j, j ≠ i → (listed.setIfInBounds i true).getD j false = listed.getD j false := fun j h => getD_set_ne false (fun e => h e.symm)
    have hcl' : ∀ i' j, (listed.setIfInBounds i true).getD j false = true → behind ops i' j = true → (listed.setIfInBounds i true).getD i' false = true := fun i' j hj hb => by
      rcases lst j hj with rfl | hj'
      · exact getD_set_true (lstd i' hb)
      · exact getD_set_true (hcl i' j hj' hb)
    have newv : ∀ v d, slotOf ops i = some d → (a.put o.dst v).eval (.tmp d) = v := fun v d hjd => by
      rw [hdst] at hjd
      have hb := slot_bd (j := i) (by rw [hdst]; exact hjd)
      unfold Act.put Act.eval; rw [hjd]; simp; exact fun h => absurd (Nat.lt_of_lt_of_le hb (hsz ▸ h)) (Nat.lt_irrefl _)
    have oldv : ∀ v j d, listed.getD j false = true → slotOf ops j = some d → (a.put o.dst v).eval (.tmp d) = a.eval (.tmp d) := fun v j d hj' hjd => keep v d (fun h => by
      have := slot_ne (show slotOf ops i = some d by rw [hdst]; exact h) hjd
      subst this; rw [hun'] at hj'; cases hj')
    have hext' : ∀ v t, (∀ j, slotOf ops j = some t → (listed.setIfInBounds i true).getD j false = false) → (a.put o.dst v).eval (.tmp t) = a0.eval (.tmp t) := fun v t htt => by
      rw [keep v t (fun h => by
        have := htt i (by rw [hdst]; exact h)
        simp [hli] at this)]
      refine hext t fun j hj => ?_
      have := htt j hj
      cases hl : listed.getD j false
      · rfl
      · rw [getD_set_true hl] at this; cases this
    have hd' : ∀ v, (a.put o.dst v).defers = a0.defers := fun v => by rw [← hd]; unfold Act.put; split <;> rfl
    have hsz' : ∀ v, (a.put o.dst v).tmps.size = a0.tmps.size := fun v => by rw [← hsz]; unfold Act.put; split <;> simp
    unfold wpOp
    rw [ho]
    simp only [Region.wanted, hg, if_true]
    by_cases his : i = s
    · subst his
      unfold Obl at hob
      rw [if_pos rfl] at hob
      obtain ⟨hCw, hrw⟩ := hpre hun'
      refine .inl (Oper.wp_mono ?_ (hob a w hCw he fun j d hj hjd => ⟨hrv j d (lstd j hj) hjd, hrw j d (lstd j hj) hj hjd⟩))
      rintro a' w' ⟨rfl, hDa⟩
      have hn : o.dst = none := by rw [← hdst]; simpa using hsn
      refine ⟨fun h => ?_, fun _ => hDa, hd, hsz, ?_, fun j d hj hjd => ?_, hcl'⟩
      · simp [hli] at h
      · have := hext' undef
        rw [hn] at this
        exact this
      · rcases lst j hj with rfl | hj'
        · rw [hdst, hn] at hjd; cases hjd
        · exact hrv j d hj' hjd
    · have hss := same s (fun e => his e.symm)
      by_cases hbs : behind ops i s = true
      · unfold Obl at hob
        rw [if_neg his, if_pos hbs] at hob
        have hs0 : listed.getD s false = false := by
          cases hl : listed.getD s false
          · rfl
          · have := hcl i s hl hbs; rw [hun'] at this; cases this
        obtain ⟨hCw, hrw⟩ := hpre hs0
        have dep : ∀ j, behind ops j i = true → behind ops j s = true := fun j hj => by
          have hjl : j < ops.size := by
            obtain ⟨e, he, h1, h2⟩ := behind_spec hj ho
            have := lowb_spec hlow ho e he h2
            omega
          have := List.all_eq_true.1 (List.all_eq_true.1 hclo i (List.mem_range.2 hilt)) j (List.mem_range.2 hjl)
          rw [hbs, hj] at this
          simpa using this
        refine .inl (Oper.wp_mono ?_ (hob a w hCw he fun j d hj hjd => ⟨hrv j d (lstd j hj) hjd, hrw j d (lstd j hj) (dep j hj) hjd⟩))
        rintro a' w' ⟨v, rfl, k1, k2, k3, k4⟩
        refine ⟨fun _ => ⟨k3, fun j d hj hjb hjd => ?_⟩, fun h => ?_, hd' v, hsz' v, hext' v, fun j d hj hjd => ?_, hcl'⟩
        · rcases lst j hj with rfl | hj'
          · rw [newv v d hjd]; exact k2
          · rw [oldv v j d hj' hjd]; exact hG _ _ _ _ _ hCw k4 (hrw j d hj' hjb hjd)
        · rw [hss, hs0] at h; cases h
        · rcases lst j hj with rfl | hj'
          · rw [newv v d hjd]; exact k1
          · rw [oldv v j d hj' hjd]; exact hrv j d hj' hjd
      · unfold Obl at hob
        rw [if_neg his, if_neg hbs] at hob
        refine .inl (Oper.wp_mono ?_ (hob a w he fun j d hj hjd => hrv j d (lstd j hj) hjd))
        rintro a' w' ⟨v, rfl, k1, rfl, kc, k2⟩
        refine ⟨fun h => ?_, fun h => ?_, hd' v, hsz' v, hext' v, fun j d hj hjd => ?_, hcl'⟩
        · rw [hss] at h
          obtain ⟨hCw, hrw⟩ := hpre h
          refine ⟨kc _ hCw, fun j d hj hjb hjd => ?_⟩
          rcases lst j hj with rfl | hj'
          · exact absurd hjb hbs
          · rw [oldv v j d hj' hjd]; exact hrw j d hj' hjb hjd
        · rw [hss] at h
          exact k2 _ (hpost h)
        · rcases lst j hj with rfl | hj'
          · rw [newv v d hjd]; exact k1
          · rw [oldv v j d hj' hjd]; exact hrv j d hj' hjd
  · intro listed a w hall ⟨_, hpost, hd, hsz, hext, hrv, _⟩
    refine hQ a w (hpost (hall s hslt)) hd hsz (fun t htt => hext t fun j hj => ?_) (fun j d hj => hrv j d (hall j (slot_lt hj)) hj)
    exfalso
    have hlt := slot_lt hj
    have := Array.all_eq_true.1 htt j hlt
    unfold slotOf at hj
    rw [Array.getElem?_eq_getElem hlt] at hj
    simp only [Option.bind_some] at hj
    rw [hj] at this
    simp at this
  · simp at hj
    rw [Array.getElem?_replicate] at hj; split at hj <;> simp at hj
  · simp at h
    rw [Array.getElem?_replicate] at h; split at h <;> simp at h
  · intro j d hj
    simp at hj
    rw [Array.getElem?_replicate] at hj; split at hj <;> simp at hj
  · intro i j hj
    simp at hj
    rw [Array.getElem?_replicate] at hj; split at hj <;> simp at hj
theorem wp_region_mix {id : Nat} {w0 : World} (m : List Bool) (hm : P.follows .mixedOrders = true) (ht : tidy7 ops s a0.tmps.size = true)
    (hk : maskOk ops m a0.tmps.size = true)
    (hG : ∀ a j v w w', C a w → G w w' → Rw j v w → Rw j v w') (hC : C a0 { w0 with drawn := w0.drawn + 1 })
    (hO : OblAll P ops s a0 C D G Rv Rw Q 0 ops.toList)
    (hQ : ∀ (f : Nat → Value) w, D ⟨(mixL f m 0 a0.tmps.toList).toArray, a0.defers⟩ w → (∀ j d, slotOf ops j = some d → Rv j (f d)) → Q .normal ⟨(mixL f m 0 a0.tmps.toList).toArray, a0.defers⟩ w) :
    (Code.region id ops true).wp P Q a0 w0 := by
  refine wp_region_inv hm ht hG hC hO fun a w hD hd hsz hext hrv => ?_
  unfold maskOk at hk
  simp only [Bool.and_eq_true, beq_iff_eq] at hk
  obtain ⟨hml, hmk⟩ := hk
  have e : a = ⟨(mixL (fun t => a.eval (.tmp t)) m 0 a0.tmps.toList).toArray, a0.defers⟩ := by
    rw [mixL_eq _ _ _ _ (by simpa using hml) ?_]
    · cases a with
      | mk tmps defers =>
        simp only [Act.mk.injEq]
        refine ⟨?_, hd⟩
        apply Array.ext'
        apply List.ext_getElem?
        intro i
        simp only at hsz
        by_cases hi : i < tmps.size
        · have hi' : i < a0.tmps.size := by omega
          simp [hi, hi', Act.eval]
        · have hi' : ¬ i < a0.tmps.size := by omega
          simp [hi, hi']
    · intro i hi
      have hlt : i < a0.tmps.size := by
        have := (List.getElem?_eq_some_iff.1 hi).1; omega
      have h1 := List.all_eq_true.1 hmk i (List.mem_range.2 hlt)
      have h2 : m.getD i false = false := by simp [List.getD, hi]
      rw [h2, Bool.false_or] at h1
      have h3 := hext i h1
      rw [Nat.zero_add, h3]
      simp [Act.eval, hlt]
  have hQ' := hQ (fun t => a.eval (.tmp t)) w
  rw [← e] at hQ'
  exact hQ' hD fun j d hj => hrv j d hj
end
end Reg7
end Go.Proofs.Ytajglpkeojaelab


/-
A motion that stands still: what the program makes. Conditions: the body lies in memory.
-/
namespace Go.Proofs.Ytajglpkeojaelab
open Go Fk Go.RowKit
set_option linter.unusedVariables false
set_option maxRecDepth 8000

theorem put_same_or (a : Act) (d : Tmp) (v : Value) : (a.put (some d) v).eval (.tmp d) = v ∨ (a.put (some d) v).eval (.tmp d) = undef := by
  unfold Act.put Act.eval
  by_cases h : d < a.tmps.size
  · exact .inl (by simp [h])
  · exact .inr (by simp [h])
theorem bd_inj {B B' : Bd} (h : B.v = B'.v) : B = B' := by
  obtain ⟨a1, a2, a3, a4, b1, b2, b3, b4, b5, b6, b7, b8, b9, b10, b11, b12, b13⟩ := B
  obtain ⟨c1, c2, c3, c4, d1, d2, d3, d4, d5, d6, d7, d8, d9, d10, d11, d12, d13⟩ := B'
  simp at h
  obtain ⟨⟨rfl, rfl, rfl⟩, ⟨rfl, rfl, rfl⟩, ⟨rfl, rfl, rfl⟩, rfl, rfl, ⟨rfl, rfl, rfl⟩, rfl, rfl, rfl⟩ := h
  rfl
theorem undef_bd (B : Bd) : undef ≠ B.v := fun h => by cases h
theorem undef_sl (a : Option Addr) (n c : Nat) : undef ≠ .slice a n c := fun h => by cases h
/-- The body and the speeds lie apart, whichever is made first. -/
def CI (W : World) (a : Act) (w : World) : Prop :=
  Below W.heap.size W w ∧ (∀ B' : Bd, a.eval (.tmp 12) = B'.v → ∃ lo hi F, W.heap.size ≤ lo ∧ hi ≤ w.heap.size ∧ GB lo hi w B' F ∧ (lo ≤ F ∧ F < hi) ∧ ∀ g n k, a.eval (.tmp 17) = .slice (some ⟨g, 0, none⟩) n k → (g < lo ∨ hi ≤ g)) ∧
  (∀ g n k, a.eval (.tmp 17) = .slice (some ⟨g, 0, none⟩) n k → W.heap.size ≤ g ∧ g < w.heap.size)
theorem CI.step {W w w' : World} {a : Act} {d : Tmp} {v : Value} (h : CI W a w) (h1 : some d ≠ some 12) (h2 : some d ≠ some 17) (hB : Below w.heap.size w w') : CI W (a.put (some d) v) w' := by
  obtain ⟨c1, c2, c3⟩ := h
  refine ⟨c1.trans (hB.mono c1.size), fun B' e => ?_, fun g n k e => ?_⟩
  · rw [eval_put_ne h1] at e
    obtain ⟨lo, hi, F, k1, k2, k3, k4, k5⟩ := c2 B' e
    exact ⟨lo, hi, F, k1, Nat.le_trans k2 hB.size, k3.below hB, k4, fun g n k e => k5 g n k (by rw [eval_put_ne h2] at e; exact e)⟩
  · rw [eval_put_ne h2] at e
    exact ⟨(c3 g n k e).1, Nat.lt_of_lt_of_le (c3 g n k e).2 hB.size⟩
theorem CI.body {W w w' : World} {a : Act} {B' : Bd} {F : Nat} (h : CI W a w) (hB : Below w.heap.size w w') (hG : GB w.heap.size w'.heap.size w' B' F) (hF : w.heap.size ≤ F ∧ F < w'.heap.size) : CI W (a.put (some 12) B'.v) w' := by
  obtain ⟨c1, c2, c3⟩ := h
  refine ⟨c1.trans (hB.mono c1.size), fun B'' e => ?_, fun g n k e => ?_⟩
  · rcases put_same_or a 12 B'.v with e' | e'
    · rw [e'] at e
      obtain rfl := bd_inj e
      refine ⟨w.heap.size, w'.heap.size, F, c1.size, Nat.le_refl _, hG, hF, fun g n k e => ?_⟩
      rw [eval_put_ne (by decide)] at e
      exact .inl (c3 g n k e).2
    · rw [e'] at e; exact absurd e (undef_bd _)
  · rw [eval_put_ne (by decide)] at e
    exact ⟨(c3 g n k e).1, Nat.lt_of_lt_of_le (c3 g n k e).2 hB.size⟩
theorem CI.list {W w w' : World} {a : Act} {n k : Nat} (h : CI W a w) (hB : Below w.heap.size w w') (hlt : w.heap.size < w'.heap.size) : CI W (a.put (some 17) (.slice (some ⟨w.heap.size, 0, none⟩) n k)) w' := by
  obtain ⟨c1, c2, c3⟩ := h
  refine ⟨c1.trans (hB.mono c1.size), fun B'' e => ?_, fun g n' k' e => ?_⟩
  · rw [eval_put_ne (by decide)] at e
    obtain ⟨lo, hi, F, k1, k2, k3, k4, k5⟩ := c2 B'' e
    refine ⟨lo, hi, F, k1, Nat.le_trans k2 hB.size, k3.below hB, k4, fun g n' k' e => ?_⟩
    rcases put_same_or a 17 (.slice (some ⟨w.heap.size, 0, none⟩) n k) with e' | e'
    · rw [e'] at e; cases e; exact .inr k2
    · rw [e'] at e; exact absurd e (undef_sl _ _ _)
  · rcases put_same_or a 17 (.slice (some ⟨w.heap.size, 0, none⟩) n k) with e' | e'
    · rw [e'] at e; cases e; exact ⟨c1.size, hlt⟩
    · rw [e'] at e; exact absurd e (undef_sl _ _ _)
/-- What the region leaves. -/
def SI (W : World) (c : Bc) (n br : Nat) (w' : World) : Prop := ∃ (w1 : World) (B' : Bd) (g lo hi F : Nat), Below W.heap.size W w1 ∧ IsB w1 B' c ∧ (W.heap.size ≤ lo ∧ hi ≤ w1.heap.size ∧ GB lo hi w1 B' F ∧ (lo ≤ F ∧ F < hi) ∧ (g < lo ∨ hi ≤ g)) ∧ (W.heap.size ≤ g ∧ g < w1.heap.size ∧ ∀ i, w1.frozen? ⟨g, i, none⟩ = false) ∧ IsVs w1 (some ⟨g, 0, none⟩) n n (List.replicate n z3) ∧ w' = setL w1 br 0 (ml B' (some ⟨g, 0, none⟩) n n)
theorem gmo_of {lo hi lo' hi' F g n : Nat} {w : World} {B : Bd} (h : GB lo hi w B F) (hF : lo ≤ F ∧ F < hi) (h1 : lo' ≤ lo) (h2 : hi ≤ hi') (hg : g < lo ∨ hi ≤ g) (g1 : lo' ≤ g) (g2 : g < hi') (ho : Own lo' hi' w g 0 (n * 3)) : GMo lo' hi' w B F (some ⟨g, 0, none⟩) n := by
  refine ⟨h.wide h1 h2, .inr ⟨g, rfl, ho⟩, fun X e => ?_⟩
  cases e
  have lb := h.lb
  refine ⟨by omega, fun e => ?_, fun e => ?_, fun e => ?_, fun e => ?_⟩
  · obtain ⟨y, ey, y1, y2⟩ := lb.1 _ e; cases ey; omega
  · obtain ⟨y, ey, y1, y2, _⟩ := lb.2.1 _ e; cases ey; omega
  · obtain ⟨y, ey, y1, y2⟩ := lb.2.2.1 _ e; cases ey; omega
  · obtain ⟨y, ey, y1, y2⟩ := lb.2.2.2 _ e; cases ey; omega
set_option maxHeartbeats 4000000 in
theorem impl_StillMotion (B : Bd) (c : Bc) (w : World) (h : IsB w B c) :
    Calls Try.prog 17 #[B.v] w fun e w' => (∃ (B' : Bd) (F : Nat) (va : Option Addr), e = .returned (.tuple #[mv B' va (stiV c).length (stiV c).length, .bool (bodyB c)]) ∧ IsB w' B' (stiC c) ∧ IsVs w' va (stiV c).length (stiV c).length (stiV c) ∧ GMo w.heap.size w'.heap.size w' B' F va (stiV c).length) ∧ Below w.heap.size w w' := by
  have ui := Try.underlying42
  have uib := Try.underlying40
  have uim := Try.underlying36
  have T0 : Hid (Tc w w.heap.size (w.heap.size + 1) B.l Z10 ((w.alloc (BoxB B 40)).alloc (.cells #[.slice none 0 0, .slice none 0 0, .slice none 0 0, .float .f32 0, .float .f32 0, .slice none 0 0, .float .f32 0, .float .f32 0, .float .f32 0, .slice none 0 0] 42))) := Lib.hid
    ⟨At.new.alloc, by
      have := At.new (w := w.alloc (BoxB B 40)) (vs := Z10) (t := 42)
      simpa using this, fun i => by go_simp, fun i => by go_simp, ((Below.refl _ _).alloc (Nat.le_refl _) _).alloc (by simp) _, ⟨Nat.le_refl _, by omega, by omega⟩, by simp <;> omega⟩
  have H := Lib.hid h
  have LN := Lib.hid h.lens
  have J := Lib.hid (impl_ValidBody B c _ (h.below T0.out.bel))
  unfold stiC stiV
  cases hv : bodyB c
  · rw [hv] at J
    clear hv h
    go_enter Try.func17, Try.ntmps17
    go_wp2_with fail
    change Calls _ _ _ ((w.alloc (BoxB B 40)).alloc (.cells #[.slice none 0 0, .slice none 0 0, .slice none 0 0, .float .f32 0, .float .f32 0, .slice none 0 0, .float .f32 0, .float .f32 0, .float .f32 0, .slice none 0 0] 42)) _
    generalize ((w.alloc (BoxB B 40)).alloc (.cells #[.slice none 0 0, .slice none 0 0, .slice none 0 0, .float .f32 0, .float .f32 0, .slice none 0 0, .float .f32 0, .float .f32 0, .float .f32 0, .slice none 0 0] 42)) = W at *
    refine J.out.mono ?_
    rintro e w2 ⟨rfl, hB1⟩
    have T2 := Lib.hid (T0.out.call hB1)
    clear hB1
    have q0 := T2.out.res 0 _ rfl
    have p0 := T2.out.fr 0
    have q1 := T2.out.res 1 _ rfl
    have p1 := T2.out.fr 1
    have q2 := T2.out.res 2 _ rfl
    have p2 := T2.out.fr 2
    have q3 := T2.out.res 3 _ rfl
    have p3 := T2.out.fr 3
    have q4 := T2.out.res 4 _ rfl
    have p4 := T2.out.fr 4
    have q5 := T2.out.res 5 _ rfl
    have p5 := T2.out.fr 5
    have q6 := T2.out.res 6 _ rfl
    have p6 := T2.out.fr 6
    have q7 := T2.out.res 7 _ rfl
    have p7 := T2.out.fr 7
    have q8 := T2.out.res 8 _ rfl
    have p8 := T2.out.fr 8
    have q9 := T2.out.res 9 _ rfl
    have p9 := T2.out.fr 9
    obtain ⟨hR, hBB⟩ := T2.out.fin (vs' := ml nilB none 0 0) rfl
    simp only [setL, nilB, Nat.zero_add, Nat.reduceAdd] at hR hBB
    have HR := Lib.hid hR
    have HBB := Lib.hid hBB
    clear hR hBB
    go_wp2
    clear q0 q1 q2 q3 q4 q5 q6 q7 q8 q9 p0 p1 p2 p3 p4 p5 p6 p7 p8 p9
    have m0 := HR.out 0 _ rfl
    have m1 := HR.out 1 _ rfl
    have m2 := HR.out 2 _ rfl
    have m3 := HR.out 3 _ rfl
    have m4 := HR.out 4 _ rfl
    have m5 := HR.out 5 _ rfl
    have m6 := HR.out 6 _ rfl
    have m7 := HR.out 7 _ rfl
    have m8 := HR.out 8 _ rfl
    have m9 := HR.out 9 _ rfl
    refine bodyPost_ret (v := .tuple #[mv nilB none 0 0, .bool false]) (by simp [results, Try.results17, go_sem, nilB, m0, m1, m2, m3, m4, m5, m6, m7, m8, m9]) rfl ?_
    exact ⟨⟨nilB, 0, none, rfl, nil_isb _, nil_vs _, nil_gb _ _ _ _, .inl ⟨rfl, rfl⟩, fun X e => by cases e⟩, HBB.out⟩
  · rw [hv] at J
    obtain ⟨q1, q2, q3, q4, q5⟩ := body_sizes hv
    have H3 := Lib.hid (fun k (hk : k < B.tl) => q5 k (by rw [LN.out.2.1]; exact hk))
    have hpl : B.pl ≤ 64 := by rw [← LN.out.1]; exact q1
    have htl : B.tl ≤ 128 := by rw [← LN.out.2.1]; exact q2
    have hsl : B.sl ≤ 200 := by rw [← LN.out.2.2.1]; exact q3
    have hwl : B.wl ≤ 64 := by rw [← LN.out.2.2.2]; exact q4
    clear hv h q5
    show Calls _ _ _ _ (fun e w' => (∃ (B' : Bd) (F : Nat) (va : Option Addr), e = .returned (.tuple #[mv B' va (List.replicate c.cs.length z3).length (List.replicate c.cs.length z3).length, .bool true]) ∧ IsB w' B' c ∧ IsVs w' va (List.replicate c.cs.length z3).length (List.replicate c.cs.length z3).length (List.replicate c.cs.length z3) ∧ GMo w.heap.size w'.heap.size w' B' F va (List.replicate c.cs.length z3).length) ∧ Below w.heap.size w w')
    rw [List.length_replicate, LN.out.1]
    go_enter Try.func17, Try.ntmps17
    go_wp2_with fail
    change Calls _ _ _ ((w.alloc (BoxB B 40)).alloc (.cells #[.slice none 0 0, .slice none 0 0, .slice none 0 0, .float .f32 0, .float .f32 0, .slice none 0 0, .float .f32 0, .float .f32 0, .float .f32 0, .slice none 0 0] 42)) _
    generalize ((w.alloc (BoxB B 40)).alloc (.cells #[.slice none 0 0, .slice none 0 0, .slice none 0 0, .float .f32 0, .float .f32 0, .slice none 0 0, .float .f32 0, .float .f32 0, .float .f32 0, .slice none 0 0] 42)) = W at *
    refine J.out.mono ?_
    rintro e w1 ⟨rfl, hB0⟩
    have T1 := Lib.hid (T0.out.call hB0)
    clear hB0
    go_wp2_with fail
    refine Reg7.wp_region_mix (s := 11) (C := fun a w' => CI w1 a w') (D := fun _ w' => SI w1 c B.pl (w.heap.size + 1) w') (G := fun w1 w2 => Below w1.heap.size w1 w2)
      (Rv := fun i v => match i with | 0 => v = B.v | 1 => v = .pointer (some ⟨w.heap.size, 0, none⟩) | 2 => v = .pointer (some ⟨w.heap.size, 0, none⟩) | 3 => v = .slice B.pa B.pl B.pc | 5 => v = .pointer (some ⟨w.heap.size, 0, none⟩) | 6 => v = .pointer (some ⟨w.heap.size, 0, none⟩) | 7 => v = .slice B.pa B.pl B.pc | 8 => v = .int .i64 B.pl | 12 => v = .bool true | _ => True)
      (Rw := fun i v w' => match i with
        | 4 => ∃ B' : Bd, v = B'.v ∧ IsB w' B' c
        | 9 => ∃ g, v = .slice (some ⟨g, 0, none⟩) B.pl B.pl ∧ g < w'.heap.size ∧ IsVs w' (some ⟨g, 0, none⟩) B.pl B.pl (List.replicate B.pl z3) ∧ ∀ i, w'.frozen? ⟨g, i, none⟩ = false
        | 10 => ∃ (B' : Bd) (g lo hi F : Nat), v = mv B' (some ⟨g, 0, none⟩) B.pl B.pl ∧ IsB w' B' c ∧ (w1.heap.size ≤ lo ∧ hi ≤ w'.heap.size ∧ GB lo hi w' B' F ∧ (lo ≤ F ∧ F < hi) ∧ (g < lo ∨ hi ≤ g)) ∧ (w1.heap.size ≤ g ∧ g < w'.heap.size ∧ ∀ i, w'.frozen? ⟨g, i, none⟩ = false) ∧ IsVs w' (some ⟨g, 0, none⟩) B.pl B.pl (List.replicate B.pl z3)
        | _ => True) [false, false, false, true, false, false, false, false, true, true, true, true, true, true, true, true, true, true, true]
      (by kernel_rfl) (by kernel_rfl) (by kernel_rfl) ?_ ⟨below_drewN (Below.refl _ _) 1, fun B' e => absurd e (undef_bd _), fun g n k e => absurd e (undef_sl _ _ _)⟩ ?_ ?_
    · intro a j v w1 w2 hC hG hR
      match j with
      | 0 => trivial
      | 1 => trivial
      | 2 => trivial
      | 3 => trivial
      | 4 => obtain ⟨B', e, h1⟩ := hR; exact ⟨B', e, h1.below hG⟩
      | 5 => trivial
      | 6 => trivial
      | 7 => trivial
      | 8 => trivial
      | 9 => obtain ⟨g, e, h1, h2, h3⟩ := hR; exact ⟨g, e, Nat.lt_of_lt_of_le h1 hG.size, h2.below hG, fun i => by rw [hG.frozen (p := ⟨g, i, none⟩) h1]; exact h3 i⟩
      | 10 =>
        obtain ⟨B', g, lo, hi, F, e, k1, ⟨k2, k3, k4, k5, k6⟩, ⟨k7, k8, k9⟩, k10⟩ := hR
        exact ⟨B', g, lo, hi, F, e, k1.below hG, ⟨k2, Nat.le_trans k3 hG.size, k4.below hG, k5, k6⟩, ⟨k7, Nat.lt_of_lt_of_le k8 hG.size, fun i => by rw [hG.frozen (p := ⟨g, i, none⟩) k8]; exact k9 i⟩, k10.below hG⟩
      | 11 => trivial
      | 12 => trivial
      | _ + 13 => trivial
    · refine ⟨?_, ?_, ?_, ?_, ?_, ?_, ?_, ?_, ?_, ?_, ?_, ?_, ?_, trivial⟩
      · refine Reg7.Obl.early rfl (by kernel_rfl) ?_
        rintro a wq hC hx hd K hK
        have HC := Lib.hid hC
        clear hC
        have t1 : a.tmps[1]?.getD undef = .pointer (some ⟨w.heap.size, 0, none⟩) := Reg.slot_val (hx 1 (by kernel_rfl))
        have y0 := (T1.out.call HC.out.1).out 0 _ rfl
        have y1 := (T1.out.call HC.out.1).out 1 _ rfl
        have y2 := (T1.out.call HC.out.1).out 2 _ rfl
        have y3 := (T1.out.call HC.out.1).out 3 _ rfl
        have y4 := (T1.out.call HC.out.1).out 4 _ rfl
        have y5 := (T1.out.call HC.out.1).out 5 _ rfl
        have y6 := (T1.out.call HC.out.1).out 6 _ rfl
        have y7 := (T1.out.call HC.out.1).out 7 _ rfl
        have y8 := (T1.out.call HC.out.1).out 8 _ rfl
        go_simp
        exact hK _ _ rfl trivial (HC.out.step (by decide) (by decide) (Below.refl _ _)) (Below.refl _ _)
      · refine Reg7.Obl.early rfl (by kernel_rfl) ?_
        rintro a wq hC hx hd K hK
        have HC := Lib.hid hC
        clear hC
        have t1 : a.tmps[1]?.getD undef = .pointer (some ⟨w.heap.size, 0, none⟩) := Reg.slot_val (hx 1 (by kernel_rfl))
        go_simp
        exact hK _ _ rfl trivial (HC.out.step (by decide) (by decide) (Below.refl _ _)) (Below.refl _ _)
      · refine Reg7.Obl.early rfl (by kernel_rfl) ?_
        rintro a wq hC hx hd K hK
        have HC := Lib.hid hC
        clear hC
        have t9 : a.tmps[9]?.getD undef = .pointer (some ⟨w.heap.size, 0, none⟩) := Reg.slot_val (hd 1 9 (by kernel_rfl) rfl).1
        go_simp
        exact hK _ _ rfl trivial (HC.out.step (by decide) (by decide) (Below.refl _ _)) (Below.refl _ _)
      · refine Reg7.Obl.early rfl (by kernel_rfl) ?_
        rintro a wq hC hx hd K hK
        have HC := Lib.hid hC
        clear hC
        have t10 : a.tmps[10]?.getD undef = .pointer (some ⟨w.heap.size, 0, none⟩) := Reg.slot_val (hd 2 10 (by kernel_rfl) rfl).1
        have y0 := (T1.out.call HC.out.1).out 0 _ rfl
        go_simp
        exact hK _ _ rfl trivial (HC.out.step (by decide) (by decide) (Below.refl _ _)) (Below.refl _ _)
      · refine Reg7.Obl.early rfl (by kernel_rfl) ?_
        rintro a wq hC hx hd K hK
        have HC := Lib.hid hC
        clear hC
        have t8 : a.tmps[8]?.getD undef = B.v := Reg.slot_val (hd 0 8 (by kernel_rfl) rfl).1
        have t11 : a.tmps[11]?.getD undef = .slice B.pa B.pl B.pc := Reg.slot_val (hd 3 11 (by kernel_rfl) rfl).1
        go_simp
        refine (impl_placed' B c B.pa B.pl B.pc c.cs wq (H.out.below (T1.out.call HC.out.1).bel) (H.out.1.below (T1.out.call HC.out.1).bel) (by omega) H3.out htl (by omega) (by omega)).mono ?_
        rintro en w2 ⟨B', F, rfl, hI, hG, hF, hB2⟩
        exact hK _ _ trivial ⟨B', rfl, hI⟩ (HC.out.body hB2 hG hF) hB2
      · refine Reg7.Obl.early rfl (by kernel_rfl) ?_
        rintro a wq hC hx hd K hK
        have HC := Lib.hid hC
        clear hC
        have t1 : a.tmps[1]?.getD undef = .pointer (some ⟨w.heap.size, 0, none⟩) := Reg.slot_val (hx 1 (by kernel_rfl))
        go_simp
        exact hK _ _ rfl trivial (HC.out.step (by decide) (by decide) (Below.refl _ _)) (Below.refl _ _)
      · refine Reg7.Obl.early rfl (by kernel_rfl) ?_
        rintro a wq hC hx hd K hK
        have HC := Lib.hid hC
        clear hC
        have t13 : a.tmps[13]?.getD undef = .pointer (some ⟨w.heap.size, 0, none⟩) := Reg.slot_val (hd 5 13 (by kernel_rfl) rfl).1
        go_simp
        exact hK _ _ rfl trivial (HC.out.step (by decide) (by decide) (Below.refl _ _)) (Below.refl _ _)
      · refine Reg7.Obl.early rfl (by kernel_rfl) ?_
        rintro a wq hC hx hd K hK
        have HC := Lib.hid hC
        clear hC
        have t14 : a.tmps[14]?.getD undef = .pointer (some ⟨w.heap.size, 0, none⟩) := Reg.slot_val (hd 6 14 (by kernel_rfl) rfl).1
        have y0 := (T1.out.call HC.out.1).out 0 _ rfl
        go_simp
        exact hK _ _ rfl trivial (HC.out.step (by decide) (by decide) (Below.refl _ _)) (Below.refl _ _)
      · refine Reg7.Obl.early rfl (by kernel_rfl) ?_
        rintro a wq hC hx hd K hK
        have HC := Lib.hid hC
        clear hC
        have t15 : a.tmps[15]?.getD undef = .slice B.pa B.pl B.pc := Reg.slot_val (hd 7 15 (by kernel_rfl) rfl).1
        go_simp
        exact hK _ _ rfl trivial (HC.out.step (by decide) (by decide) (Below.refl _ _)) (Below.refl _ _)
      · refine Reg7.Obl.early rfl (by kernel_rfl) ?_
        rintro a wq hC hx hd K hK
        have HC := Lib.hid hC
        clear hC
        have t16 : a.tmps[16]?.getD undef = .int .i64 B.pl := Reg.slot_val (hd 8 16 (by kernel_rfl) rfl).1
        have hmk := make_vecs wq B.pl (by omega)
        have HZ := Lib.hid (zeros_vs wq B.pl (by omega))
        go_simp
        exact hK _ _ trivial ⟨_, rfl, by simp, HZ.out.1, HZ.out.2⟩ (HC.out.list ((Below.refl _ _).alloc (Nat.le_refl _) _) (by simp)) ((Below.refl _ _).alloc (Nat.le_refl _) _)
      · refine Reg7.Obl.early rfl (by kernel_rfl) ?_
        rintro a wq hC hx hd K hK
        have HC := Lib.hid hC
        clear hC
        obtain ⟨B', g12, b1⟩ := (hd 4 12 (by kernel_rfl) rfl).2
        have t12 := Reg.slot_val g12
        obtain ⟨g, g17, v1, v2, v3⟩ := (hd 9 17 (by kernel_rfl) rfl).2
        have t17 := Reg.slot_val g17
        obtain ⟨lo, hi, F, k1, k2, k3, k4, k5⟩ := HC.out.2.1 B' g12
        have HZ := Lib.hid (And.intro b1 (And.intro (And.intro k1 (And.intro k2 (And.intro k3 (And.intro k4 (k5 g _ _ g17))))) (And.intro (And.intro (HC.out.2.2 g _ _ g17).1 (And.intro v1 v3)) v2)))
        clear g12 b1 g17 v1 v2 v3 k1 k2 k3 k4 k5
        go_simp
        exact hK _ _ trivial ⟨B', g, lo, hi, F, rfl, HZ.out.1, HZ.out.2.1, HZ.out.2.2.1, HZ.out.2.2.2⟩ (HC.out.step (by decide) (by decide) (Below.refl _ _)) (Below.refl _ _)
      · refine Reg7.Obl.store rfl ?_
        rintro a wq hC hx hd K hK
        have HC := Lib.hid hC
        clear hC
        have t2 : a.tmps[2]?.getD undef = .pointer (some ⟨w.heap.size + 1, 0, none⟩) := Reg.slot_val (hx 2 (by kernel_rfl))
        obtain ⟨B', g, lo, hi, F, g18, k1, k2, k3, k4⟩ := (hd 10 18 (by kernel_rfl) rfl).2
        have t18 := Reg.slot_val g18
        have HS : Hid (SI w1 c B.pl (w.heap.size + 1) (setL wq (w.heap.size + 1) 0 (ml B' (some ⟨g, 0, none⟩) B.pl B.pl))) := Lib.hid ⟨wq, B', g, lo, hi, F, HC.out.1, k1, k2, k3, k4, rfl⟩
        have TT := T1.out.call HC.out.1
        have y0 := TT.res 0 _ rfl
        have y1 := TT.res 1 _ rfl
        have y2 := TT.res 2 _ rfl
        have y3 := TT.res 3 _ rfl
        have y4 := TT.res 4 _ rfl
        have y5 := TT.res 5 _ rfl
        have y6 := TT.res 6 _ rfl
        have y7 := TT.res 7 _ rfl
        have y8 := TT.res 8 _ rfl
        have y9 := TT.res 9 _ rfl
        have f0 := TT.fr 0
        have f1 := TT.fr 1
        have f2 := TT.fr 2
        have f3 := TT.fr 3
        have f4 := TT.fr 4
        have f5 := TT.fr 5
        have f6 := TT.fr 6
        have f7 := TT.fr 7
        have f8 := TT.fr 8
        have f9 := TT.fr 9
        clear g18 k1 k2 k3 k4 TT
        go_simp
        exact hK _ HS.out
      · refine Reg7.Obl.late rfl (by kernel_rfl) ?_
        rintro a wq hx hd K hK
        go_simp
        exact hK _ rfl (fun w hC => hC.step (by decide) (by decide) (Below.refl _ _)) (fun w hD => hD)
    rintro f w2 hD hd
    obtain ⟨wf, B', g, lo, hi, F, hB1, hI, ⟨k1, k2, k3, k4, k5⟩, ⟨g1, g2, g3⟩, hV, rfl⟩ := hD
    have f3 : f 3 = .bool true := hd 12 3 rfl
    simp only [Reg.mixL, f3]
    have hlt := T1.out.lt
    have T2 := Lib.hid (T1.out.call hB1)
    obtain ⟨hR, hBB⟩ := T2.out.fin (vs' := ml B' (some ⟨g, 0, none⟩) B.pl B.pl) rfl
    have hA := Agree.setL (Sy.res (bo := w.heap.size) (br := w.heap.size + 1)) (ml B' (some ⟨g, 0, none⟩) B.pl B.pl) wf 0 (Agree.refl (Sy w.heap.size (w.heap.size + 1)) wf)
    have hs : ∀ q, w1.heap.size ≤ q → q < wf.heap.size → Sy w.heap.size (w.heap.size + 1) q := Sy.new hlt.1 hlt.2
    have hs' : ∀ q, lo ≤ q → q < hi → Sy w.heap.size (w.heap.size + 1) q := fun q h1 h2 => hs q (by omega) (by omega)
    have hb0 := T1.out.bel.size
    have hOV := own_vs hV (Nat.le_refl g) g2 g3
    have hsg : ∀ q, g ≤ q → q < wf.heap.size → Sy w.heap.size (w.heap.size + 1) q := fun q h1 h2 => hs q (by omega) h2
    have z2 := hA.size
    have M := Lib.hid (And.intro (hI.agree k3.lb hs' hA) (And.intro (vs_agree hV (fun x hx => by cases hx; exact ⟨g, rfl, g1, g2⟩) hs hA) (And.intro (gmo_of (k3.agree hs' hA) k4 (show w.heap.size ≤ lo by omega) (show hi ≤ (setL wf (w.heap.size + 1) 0 (ml B' (some ⟨g, 0, none⟩) B.pl B.pl)).heap.size by omega) k5 (by omega) (by omega) ((hOV.agree hsg hA).widen (by omega) z2)) hBB)))
    have HR := Lib.hid hR
    clear hR hBB hA hs hs' hsg hI hV k1 k2 k3 k4 k5 g1 g2 g3 hB1 hd hOV z2
    generalize (setL wf (w.heap.size + 1) 0 (ml B' (some ⟨g, 0, none⟩) B.pl B.pl)) = W2 at *
    have m0 := HR.out 0 _ rfl
    have m1 := HR.out 1 _ rfl
    have m2 := HR.out 2 _ rfl
    have m3 := HR.out 3 _ rfl
    have m4 := HR.out 4 _ rfl
    have m5 := HR.out 5 _ rfl
    have m6 := HR.out 6 _ rfl
    have m7 := HR.out 7 _ rfl
    have m8 := HR.out 8 _ rfl
    have m9 := HR.out 9 _ rfl
    go_wp2
    refine bodyPost_ret (v := .tuple #[mv B' (some ⟨g, 0, none⟩) B.pl B.pl, .bool true]) (by simp [results, Try.results17, go_sem, m0, m1, m2, m3, m4, m5, m6, m7, m8, m9]) rfl ?_
    exact ⟨⟨B', F, some ⟨g, 0, none⟩, rfl, M.out.1, M.out.2.1, M.out.2.2.1⟩, M.out.2.2.2⟩
end Go.Proofs.Ytajglpkeojaelab

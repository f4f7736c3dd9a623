/-
Texts in one: what HingesOf stands on, part 15. Conditions: those of each.
-/
import Derived.Test.YtockhhfehjoldabKHingesOf14

/-
A region whose order is open, with one store that neither comes last nor first: what may come behind the store leaves the world as it is. Conditions: no operation is guarded, every edge that binds leads to an earlier operation, no slot is written twice, one operation alone has no slot.
-/
namespace Go.Proofs.Ytockhhfehjoldab
namespace Reg6
open Go Reg
set_option linter.unusedVariables false
section
variable {P : Program} {ops : Array Oper} {Q : Exit → Act → World → Prop}
def lowb (ops : Array Oper) : Bool := (List.range ops.size).all fun i => ((ops[i]?).map fun o => o.after.all fun e => !Region.binds .any e || decide (e.on < i)).getD true
theorem lowb_spec {ops : Array Oper} (h : lowb ops = true) {i : Nat} {o : Oper} (ho : ops[i]? = some o) : ∀ e ∈ o.after, Region.binds .any e = true → e.on < i := by
  have hlt : i < ops.size := (Array.getElem?_eq_some_iff.1 ho).1
  unfold lowb at h
  rw [List.all_eq_true] at h
  have := h i (List.mem_range.2 hlt)
  rw [ho] at this
  simp only [Option.map_some, Option.getD_some, Array.all_eq_true_iff_forall_mem] at this
  intro e he hb
  have := this e he
  rw [hb] at this
  simpa using this
theorem all_of_none (hlow : lowb ops = true) {listed : Array Bool} (hs : listed.size = ops.size) (hr : Region.ready .any ops listed = []) : ∀ i, i < ops.size → listed.getD i false = true := by
  intro i
  induction i using Nat.strongRecOn with
  | _ i ih =>
    intro hi
    cases hl : listed.getD i false
    · exfalso
      obtain ⟨o, ho⟩ : ∃ o, ops[i]? = some o := ⟨_, Array.getElem?_eq_getElem hi⟩
      have hm : i ∈ Region.ready .any ops listed := by
        refine mem_ready.2 ⟨?_, o, ho, fun e he hb => ih e.on (lowb_spec hlow ho e he hb) (Nat.lt_trans (lowb_spec hlow ho e he hb) hi)⟩
        have hlt : i < listed.size := by omega
        simp [hlt] at hl ⊢; exact hl
      rw [hr] at hm; cases hm
    · rfl
theorem wpAny_inv (hlow : lowb ops = true) {Inv : Array Bool → Act → World → Prop}
    (hstep : ∀ i listed a w, listed.size = ops.size → i ∈ Region.ready .any ops listed → Inv listed a w → wpOp P ops Q i (Inv (listed.setIfInBounds i true)) a w)
    (hend : ∀ listed a w, (∀ i, i < ops.size → listed.getD i false = true) → Inv listed a w → Q .normal a w) :
    ∀ (fuel : Nat) (listed : Array Bool) (a : Act) (w : World), listed.size = ops.size → listed.toList.count false ≤ fuel → Inv listed a w → wpAny P .any ops Q fuel listed a w
  | 0, listed, a, w, hs, hf, hI => by
    have hall : ∀ i, i < ops.size → listed.getD i false = true := by
      intro i hi
      have := cnt_zero listed.toList (by omega) i (by simp; omega)
      have hlt : i < listed.size := by omega
      simp [hlt] at this ⊢; exact this
    refine ⟨?_, hend _ _ _ hall hI⟩
    cases hr : Region.ready .any ops listed with
    | nil => rfl
    | cons j l =>
      have hj : j ∈ Region.ready .any ops listed := by rw [hr]; exact List.mem_cons_self
      obtain ⟨h1, o, ho, _⟩ := mem_ready.1 hj
      have hlt : j < ops.size := (Array.getElem?_eq_some_iff.1 ho).1
      have h2 := hall j hlt
      have hlt' : j < listed.size := by omega
      simp [hlt'] at h1 h2
      rw [h1] at h2; cases h2
  | fuel + 1, listed, a, w, hs, hf, hI => by
    refine ⟨fun hr => hend _ _ _ (all_of_none hlow hs hr) hI, fun i hi => ?_⟩
    refine wpOp_mono (fun a' w' h => wpAny_inv hlow hstep hend fuel _ a' w' (by simpa using hs) ?_ h) (hstep i listed a w hs hi hI)
    obtain ⟨h1, o, ho, _⟩ := mem_ready.1 hi
    have hlt : i < listed.size := by have := (Array.getElem?_eq_some_iff.1 ho).1; omega
    have hg : listed.toList[i]? = some false := by simp [hlt] at h1 ⊢; exact h1
    have := cnt_set listed.toList i hg
    rw [Array.toList_setIfInBounds]
    omega
/-- Operation s is the store; what an operation before it waits for also comes before it. -/
def tidy (ops : Array Oper) (s n : Nat) : Bool :=
  lowb ops && (ops.all fun o => o.guard.isNone) && (ops.all fun o => (o.dst.map fun d => decide (d < n)).getD true) &&
  ((List.range ops.size).all fun i => (List.range ops.size).all fun j => i == j || slotOf ops i == none || slotOf ops i != slotOf ops j) &&
  ((List.range ops.size).all fun i => (slotOf ops i).isSome || i == s) && decide (s < ops.size) && (slotOf ops s).isNone &&
  ((List.range ops.size).all fun i => (List.range ops.size).all fun j => !(behind ops i s && behind ops j i) || behind ops j s)
/-- What is asked of operation i: before the store, at the store, and of one that may come behind it. -/
def Obl (P : Program) (ops : Array Oper) (s : Nat) (a0 : Act) (C : World → Prop) (D : Act → World → Prop) (G : World → World → Prop) (Rv : Nat → Value → Prop) (Rw : Nat → Value → World → Prop) (Q : Exit → Act → World → Prop) (i : Nat) (o : Oper) : Prop :=
  if i = s then
    ∀ a w, C w → (∀ t, ((List.range ops.size).all fun j => slotOf ops j != some t || behind ops i j) = true → a.eval (.tmp t) = a0.eval (.tmp t)) →
      (∀ j d, behind ops j i = true → slotOf ops j = some d → Rv j (a.eval (.tmp d)) ∧ Rw j (a.eval (.tmp d)) w) →
      o.wp P a w (fun a' w' => a' = a ∧ D a w') Q
  else if behind ops i s = true then
    ∀ a w, C w → (∀ t, ((List.range ops.size).all fun j => slotOf ops j != some t || behind ops i j) = true → a.eval (.tmp t) = a0.eval (.tmp t)) →
      (∀ j d, behind ops j i = true → slotOf ops j = some d → Rv j (a.eval (.tmp d)) ∧ Rw j (a.eval (.tmp d)) w) →
      o.wp P a w (fun a' w' => ∃ v, a' = a.put o.dst v ∧ Rv i v ∧ Rw i v w' ∧ C w' ∧ G w w') Q
  else
    ∀ a w, (∀ t, ((List.range ops.size).all fun j => slotOf ops j != some t || behind ops i j) = true → a.eval (.tmp t) = a0.eval (.tmp t)) →
      (∀ j d, behind ops j i = true → slotOf ops j = some d → Rv j (a.eval (.tmp d))) →
      o.wp P a w (fun a' w' => ∃ v, a' = a.put o.dst v ∧ Rv i v ∧ w' = w ∧ ∀ w, D a w → D (a.put o.dst v) w) Q
def OblAll (P : Program) (ops : Array Oper) (s : Nat) (a0 : Act) (C : World → Prop) (D : Act → World → Prop) (G : World → World → Prop) (Rv : Nat → Value → Prop) (Rw : Nat → Value → World → Prop) (Q : Exit → Act → World → Prop) : Nat → List Oper → Prop
  | _, [] => True
  | i, o :: l => Obl P ops s a0 C D G Rv Rw Q i o ∧ OblAll P ops s a0 C D G Rv Rw Q (i + 1) l
variable {s : Nat} {a0 : Act} {C : World → Prop} {D : Act → World → Prop} {G : World → World → Prop} {Rv : Nat → Value → Prop} {Rw : Nat → Value → World → Prop}
theorem OblAll.get :
    ∀ {l : List Oper} {k : Nat}, OblAll P ops s a0 C D G Rv Rw Q k l → ∀ {i : Nat} {o : Oper}, l[i]? = some o → Obl P ops s a0 C D G Rv Rw Q (k + i) o
  | [], _, _, _, _, h => by simp at h
  | _ :: _, _, h, 0, _, ho => by simp at ho; subst ho; exact h.1
  | _ :: l, k, h, i + 1, _, ho => by
    have := OblAll.get h.2 (i := i) (by simpa using ho)
    rwa [Nat.add_assoc, Nat.add_comm 1 i] at this
section
variable {i : Nat} {o : Oper}
theorem Obl.early (h1 : (i == s) = false) (h2 : behind ops i s = true)
    (h : ∀ a w, C w → (∀ t, ((List.range ops.size).all fun j => slotOf ops j != some t || behind ops i j) = true → a.eval (.tmp t) = a0.eval (.tmp t)) →
      (∀ j d, behind ops j i = true → slotOf ops j = some d → Rv j (a.eval (.tmp d)) ∧ Rw j (a.eval (.tmp d)) w) →
      ∀ K : Act → World → Prop, (∀ v w', Rv i v → Rw i v w' → C w' → G w w' → K (a.put o.dst v) w') → o.wp P a w K Q) : Obl P ops s a0 C D G Rv Rw Q i o := by
  unfold Obl
  rw [if_neg (by simpa using h1), if_pos h2]
  exact fun a w hC he hd => h a w hC he hd _ fun v w' k1 k2 k3 k4 => ⟨v, rfl, k1, k2, k3, k4⟩
theorem Obl.store (h1 : (i == s) = true)
    (h : ∀ a w, C w → (∀ t, ((List.range ops.size).all fun j => slotOf ops j != some t || behind ops i j) = true → a.eval (.tmp t) = a0.eval (.tmp t)) →
      (∀ j d, behind ops j i = true → slotOf ops j = some d → Rv j (a.eval (.tmp d)) ∧ Rw j (a.eval (.tmp d)) w) →
      ∀ K : Act → World → Prop, (∀ w', D a w' → K a w') → o.wp P a w K Q) : Obl P ops s a0 C D G Rv Rw Q i o := by
  unfold Obl
  rw [if_pos (by simpa using h1)]
  exact fun a w hC he hd => h a w hC he hd _ fun w' k1 => ⟨rfl, k1⟩
theorem Obl.late (h1 : (i == s) = false) (h2 : behind ops i s = false)
    (h : ∀ a w, (∀ t, ((List.range ops.size).all fun j => slotOf ops j != some t || behind ops i j) = true → a.eval (.tmp t) = a0.eval (.tmp t)) →
      (∀ j d, behind ops j i = true → slotOf ops j = some d → Rv j (a.eval (.tmp d))) →
      ∀ K : Act → World → Prop, (∀ v, Rv i v → (∀ w, D a w → D (a.put o.dst v) w) → K (a.put o.dst v) w) → o.wp P a w K Q) : Obl P ops s a0 C D G Rv Rw Q i o := by
  unfold Obl
  rw [if_neg (by simpa using h1), if_neg (by rw [h2]; decide)]
  exact fun a w he hd => h a w he hd _ fun v k1 k2 => ⟨v, rfl, k1, rfl, k2⟩
end
theorem wp_region_inv {id : Nat} {w0 : World} (hm : P.follows .mixedOrders = true) (ht : tidy ops s a0.tmps.size = true)
    (hG : ∀ j v w w', C w → G w w' → Rw j v w → Rw j v w') (hC : C { w0 with drawn := w0.drawn + 1 })
    (hO : OblAll P ops s a0 C D G Rv Rw Q 0 ops.toList)
    (hQ : ∀ a w, D a w → a.defers = a0.defers → a.tmps.size = a0.tmps.size → (∀ t, (ops.all fun o => o.dst != some t) = true → a.eval (.tmp t) = a0.eval (.tmp t)) → (∀ j d, slotOf ops j = some d → Rv j (a.eval (.tmp d))) → Q .normal a w) :
    (Code.region id ops true).wp P Q a0 w0 := by
  unfold tidy at ht
  simp only [Bool.and_eq_true] at ht
  obtain ⟨⟨⟨⟨⟨⟨⟨hlow, hgd⟩, hbd⟩, hdis⟩, hone⟩, hslt⟩, hsn⟩, hclo⟩ := ht
  have hslt := of_decide_eq_true hslt
  have slot_lt : ∀ {j d}, slotOf ops j = some d → j < ops.size := fun {j d} h => by
    unfold slotOf at h
    cases ho : ops[j]? with
    | none => rw [ho] at h; cases h
    | some o => exact (Array.getElem?_eq_some_iff.1 ho).1
  have slot_bd : ∀ {j d}, slotOf ops j = some d → d < a0.tmps.size := fun {j d} h => by
    have hj := slot_lt h
    have := Array.all_eq_true.1 hbd j hj
    unfold slotOf at h
    rw [Array.getElem?_eq_getElem hj] at h
    simp only [Option.bind_some] at h
    rw [h] at this
    simpa using this
  have slot_ne : ∀ {i j d}, slotOf ops i = some d → slotOf ops j = some d → i = j := fun {i j d} h1 h2 => by
    have a1 := slot_lt h1
    have a2 := slot_lt h2
    have := List.all_eq_true.1 (List.all_eq_true.1 hdis i (List.mem_range.2 a1)) j (List.mem_range.2 a2)
    rw [h1, h2] at this
    simpa using this
  let Inv : Array Bool → Act → World → Prop := fun listed a w =>
    (listed.getD s false = false → C w ∧ ∀ j d, listed.getD j false = true → behind ops j s = true → slotOf ops j = some d → Rw j (a.eval (.tmp d)) w) ∧
    (listed.getD s false = true → D a w) ∧ a.defers = a0.defers ∧ a.tmps.size = a0.tmps.size ∧
    (∀ t, (∀ j, slotOf ops j = some t → listed.getD j false = false) → a.eval (.tmp t) = a0.eval (.tmp t)) ∧
    (∀ j d, listed.getD j false = true → slotOf ops j = some d → Rv j (a.eval (.tmp d))) ∧ (∀ i j, listed.getD j false = true → behind ops i j = true → listed.getD i false = true)
  refine wp_region_any hm (wpAny_inv (Inv := Inv) hlow ?_ ?_ _ _ _ _ (by simp) (by simp) ⟨fun _ => ⟨hC, fun j d hj => ?_⟩, fun h => ?_, rfl, rfl, fun _ _ => rfl, ?_, ?_⟩)
  · intro i listed a w hs hi ⟨hpre, hpost, hd, hsz, hext, hrv, hcl⟩
    obtain ⟨hun, o, ho, hdeps⟩ := mem_ready.1 hi
    have hilt : i < ops.size := (Array.getElem?_eq_some_iff.1 ho).1
    have hli : i < listed.size := by omega
    have hun' : listed.getD i false = false := by simp [hli] at hun ⊢; exact hun
    have hg : o.guard = none := by
      have := Array.all_eq_true.1 hgd i hilt
      rw [Array.getElem?_eq_getElem hilt] at ho
      cases ho
      simpa using this
    have hob := OblAll.get hO (i := i) (o := o) (by simpa using ho)
    rw [Nat.zero_add] at hob
    have he : ∀ t, ((List.range ops.size).all fun j => slotOf ops j != some t || behind ops i j) = true → a.eval (.tmp t) = a0.eval (.tmp t) := fun t htt => hext t fun j hj => by
      have := List.all_eq_true.1 htt j (List.mem_range.2 (slot_lt hj))
      rw [hj] at this
      simp at this
      cases hl : listed.getD j false
      · rfl
      · have := hcl i j hl this; rw [hun'] at this; cases this
    have lstd : ∀ j, behind ops j i = true → listed.getD j false = true := fun j hj => by
      obtain ⟨e, he, h1, h2⟩ := behind_spec hj ho
      rw [← h1]
      exact hdeps e he h2
    have hdst : slotOf ops i = o.dst := by unfold slotOf; rw [ho]; rfl
    have keep : ∀ v t, o.dst ≠ some t → (a.put o.dst v).eval (.tmp t) = a.eval (.tmp t) := fun v t h => Act.eval_put (fun d hd he => h (by rw [hd]; cases he; rfl))
    have lst : ∀ j, (listed.setIfInBounds i true).getD j false = true → j = i ∨ listed.getD j false = true := fun j h => by
      by_cases hji : i = j
      · exact .inl hji.symm
      · rw [getD_set_ne false hji] at h; exact .inr h
    have same : ∀ j, j ≠ i → (listed.setIfInBounds i true).getD j false = listed.getD j false := fun j h => getD_set_ne false (fun e => h e.symm)
    have hcl' : ∀ i' j, (listed.setIfInBounds i true).getD j false = true → behind ops i' j = true → (listed.setIfInBounds i true).getD i' false = true := fun i' j hj hb => by
      rcases lst j hj with rfl | hj'
      · exact getD_set_true (lstd i' hb)
      · exact getD_set_true (hcl i' j hj' hb)
    have newv : ∀ v d, slotOf ops i = some d → (a.put o.dst v).eval (.tmp d) = v := fun v d hjd => by
      rw [hdst] at hjd
      have hb := slot_bd (j := i) (by rw [hdst]; exact hjd)
      unfold Act.put Act.eval; rw [hjd]; simp; exact fun h => absurd (Nat.lt_of_lt_of_le hb (hsz ▸ h)) (Nat.lt_irrefl _)
    have oldv : ∀ v j d, listed.getD j false = true → slotOf ops j = some d → (a.put o.dst v).eval (.tmp d) = a.eval (.tmp d) := fun v j d hj' hjd => keep v d (fun h => by
      have := slot_ne (show slotOf ops i = some d by rw [hdst]; exact h) hjd
      subst this; rw [hun'] at hj'; cases hj')
    have hext' : ∀ v t, (∀ j, slotOf ops j = some t → (listed.setIfInBounds i true).getD j false = false) → (a.put o.dst v).eval (.tmp t) = a0.eval (.tmp t) := fun v t htt => by
      rw [keep v t (fun h => by
        have := htt i (by rw [hdst]; exact h)
        simp [hli] at this)]
      refine hext t fun j hj => ?_
      have := htt j hj
      cases hl : listed.getD j false
      · rfl
      · rw [getD_set_true hl] at this; cases this
    have hd' : ∀ v, (a.put o.dst v).defers = a0.defers := fun v => by rw [← hd]; unfold Act.put; split <;> rfl
    have hsz' : ∀ v, (a.put o.dst v).tmps.size = a0.tmps.size := fun v => by rw [← hsz]; unfold Act.put; split <;> simp
    unfold wpOp
    rw [ho]
    simp only [Region.wanted, hg, if_true]
    by_cases his : i = s
    · subst his
      unfold Obl at hob
      rw [if_pos rfl] at hob
      obtain ⟨hCw, hrw⟩ := hpre hun'
      refine .inl (Oper.wp_mono ?_ (hob a w hCw he fun j d hj hjd => ⟨hrv j d (lstd j hj) hjd, hrw j d (lstd j hj) hj hjd⟩))
      rintro a' w' ⟨rfl, hDa⟩
      have hn : o.dst = none := by rw [← hdst]; simpa using hsn
      refine ⟨fun h => ?_, fun _ => hDa, hd, hsz, ?_, fun j d hj hjd => ?_, hcl'⟩
      · simp [hli] at h
      · have := hext' undef
        rw [hn] at this
        exact this
      · rcases lst j hj with rfl | hj'
        · rw [hdst, hn] at hjd; cases hjd
        · exact hrv j d hj' hjd
    · have hss := same s (fun e => his e.symm)
      by_cases hbs : behind ops i s = true
      · unfold Obl at hob
        rw [if_neg his, if_pos hbs] at hob
        have hs0 : listed.getD s false = false := by
          cases hl : listed.getD s false
          · rfl
          · have := hcl i s hl hbs; rw [hun'] at this; cases this
        obtain ⟨hCw, hrw⟩ := hpre hs0
        have dep : ∀ j, behind ops j i = true → behind ops j s = true := fun j hj => by
          have hjl : j < ops.size := by
            obtain ⟨e, he, h1, h2⟩ := behind_spec hj ho
            have := lowb_spec hlow ho e he h2
            omega
          have := List.all_eq_true.1 (List.all_eq_true.1 hclo i (List.mem_range.2 hilt)) j (List.mem_range.2 hjl)
          rw [hbs, hj] at this
          simpa using this
        refine .inl (Oper.wp_mono ?_ (hob a w hCw he fun j d hj hjd => ⟨hrv j d (lstd j hj) hjd, hrw j d (lstd j hj) (dep j hj) hjd⟩))
        rintro a' w' ⟨v, rfl, k1, k2, k3, k4⟩
        refine ⟨fun _ => ⟨k3, fun j d hj hjb hjd => ?_⟩, fun h => ?_, hd' v, hsz' v, hext' v, fun j d hj hjd => ?_, hcl'⟩
        · rcases lst j hj with rfl | hj'
          · rw [newv v d hjd]; exact k2
          · rw [oldv v j d hj' hjd]; exact hG _ _ _ _ hCw k4 (hrw j d hj' hjb hjd)
        · rw [hss, hs0] at h; cases h
        · rcases lst j hj with rfl | hj'
          · rw [newv v d hjd]; exact k1
          · rw [oldv v j d hj' hjd]; exact hrv j d hj' hjd
      · unfold Obl at hob
        rw [if_neg his, if_neg hbs] at hob
        refine .inl (Oper.wp_mono ?_ (hob a w he fun j d hj hjd => hrv j d (lstd j hj) hjd))
        rintro a' w' ⟨v, rfl, k1, rfl, k2⟩
        refine ⟨fun h => ?_, fun h => ?_, hd' v, hsz' v, hext' v, fun j d hj hjd => ?_, hcl'⟩
        · rw [hss] at h
          obtain ⟨hCw, hrw⟩ := hpre h
          refine ⟨hCw, fun j d hj hjb hjd => ?_⟩
          rcases lst j hj with rfl | hj'
          · exact absurd hjb hbs
          · rw [oldv v j d hj' hjd]; exact hrw j d hj' hjb hjd
        · rw [hss] at h
          exact k2 _ (hpost h)
        · rcases lst j hj with rfl | hj'
          · rw [newv v d hjd]; exact k1
          · rw [oldv v j d hj' hjd]; exact hrv j d hj' hjd
  · intro listed a w hall ⟨_, hpost, hd, hsz, hext, hrv, _⟩
    refine hQ a w (hpost (hall s hslt)) hd hsz (fun t htt => hext t fun j hj => ?_) (fun j d hj => hrv j d (hall j (slot_lt hj)) hj)
    exfalso
    have hlt := slot_lt hj
    have := Array.all_eq_true.1 htt j hlt
    unfold slotOf at hj
    rw [Array.getElem?_eq_getElem hlt] at hj
    simp only [Option.bind_some] at hj
    rw [hj] at this
    simp at this
  · simp at hj
    rw [Array.getElem?_replicate] at hj; split at hj <;> simp at hj
  · simp at h
    rw [Array.getElem?_replicate] at h; split at h <;> simp at h
  · intro j d hj
    simp at hj
    rw [Array.getElem?_replicate] at hj; split at hj <;> simp at hj
  · intro i j hj
    simp at hj
    rw [Array.getElem?_replicate] at hj; split at hj <;> simp at hj
theorem wp_region_mix {id : Nat} {w0 : World} (m : List Bool) (hm : P.follows .mixedOrders = true) (ht : tidy ops s a0.tmps.size = true)
    (hk : maskOk ops m a0.tmps.size = true)
    (hG : ∀ j v w w', C w → G w w' → Rw j v w → Rw j v w') (hC : C { w0 with drawn := w0.drawn + 1 })
    (hO : OblAll P ops s a0 C D G Rv Rw Q 0 ops.toList)
    (hQ : ∀ (f : Nat → Value) w, D ⟨(mixL f m 0 a0.tmps.toList).toArray, a0.defers⟩ w → (∀ j d, slotOf ops j = some d → Rv j (f d)) → Q .normal ⟨(mixL f m 0 a0.tmps.toList).toArray, a0.defers⟩ w) :
    (Code.region id ops true).wp P Q a0 w0 := by
  refine wp_region_inv hm ht hG hC hO fun a w hD hd hsz hext hrv => ?_
  unfold maskOk at hk
  simp only [Bool.and_eq_true, beq_iff_eq] at hk
  obtain ⟨hml, hmk⟩ := hk
  have e : a = ⟨(mixL (fun t => a.eval (.tmp t)) m 0 a0.tmps.toList).toArray, a0.defers⟩ := by
    rw [mixL_eq _ _ _ _ (by simpa using hml) ?_]
    · cases a with
      | mk tmps defers =>
        simp only [Act.mk.injEq]
        refine ⟨?_, hd⟩
        apply Array.ext'
        apply List.ext_getElem?
        intro i
        simp only at hsz
        by_cases hi : i < tmps.size
        · have hi' : i < a0.tmps.size := by omega
          simp [hi, hi', Act.eval]
        · have hi' : ¬ i < a0.tmps.size := by omega
          simp [hi, hi']
    · intro i hi
      have hlt : i < a0.tmps.size := by
        have := (List.getElem?_eq_some_iff.1 hi).1; omega
      have h1 := List.all_eq_true.1 hmk i (List.mem_range.2 hlt)
      have h2 : m.getD i false = false := by simp [List.getD, hi]
      rw [h2, Bool.false_or] at h1
      have h3 := hext i h1
      rw [Nat.zero_add, h3]
      simp [Act.eval, hlt]
  have hQ' := hQ (fun t => a.eval (.tmp t)) w
  rw [← e] at hQ'
  exact hQ' hD fun j d hj => hrv j d hj
end
end Reg6
end Go.Proofs.Ytockhhfehjoldab


/-
A box that is empty, and what is kept when it is filled; marks in meshes, told for every block. Conditions: none.
-/
namespace Go.Proofs.Ytockhhfehjoldab
open Go Fk Go.RowKit
set_option linter.unusedVariables false
set_option maxRecDepth 8000
/-- A box for a mesh, still empty. -/
def NilBox (w : World) (b : Nat) : Prop := w.cell? ⟨b, 0, none⟩ = some (.slice none 0 0) ∧ w.cell? ⟨b, 1, none⟩ = some (.slice none 0 0) ∧ (∀ i, 2 ≤ i → w.cell? ⟨b, i, none⟩ = none) ∧ ∀ i, w.frozen? ⟨b, i, none⟩ = false
theorem NilBox.lt {w : World} {b : Nat} (h : NilBox w b) : b < w.heap.size := World.block_lt_of_cell? w _ h.1
theorem NilBox.new {w : World} {t : TypeId} : NilBox (w.alloc (.cells #[.slice none 0 0, .slice none 0 0] t)) w.heap.size :=
  ⟨by simp, by simp, fun i hi => by simp; omega, fun i => by simp⟩
theorem NilBox.below {w w' : World} {b : Nat} (h : NilBox w b) (hB : Below w.heap.size w w') : NilBox w' b :=
  ⟨cell_below hB h.1, cell_below hB h.2.1, fun i hi => by rw [hB.cell (p := ⟨b, i, none⟩) h.lt]; exact h.2.2.1 i hi, fun i => by rw [hB.frozen (p := ⟨b, i, none⟩) h.lt]; exact h.2.2.2 i⟩
theorem NilBox.ne {w : World} {b k i : Nat} {v : Value} (h : NilBox w b) (hv : w.cell? ⟨k, i, none⟩ = some v) (hn : v ≠ .slice none 0 0) : k ≠ b := by
  rintro rfl
  match i with
  | 0 => rw [h.1] at hv; cases hv; exact hn rfl
  | 1 => rw [h.2.1] at hv; cases hv; exact hn rfl
  | i + 2 => rw [h.2.2.1 (i + 2) (by omega)] at hv; cases hv
/-- What is no empty list is kept. -/
def KeepC (w w' : World) : Prop := (∀ k i v, w.cell? ⟨k, i, none⟩ = some v → v ≠ .slice none 0 0 → w'.cell? ⟨k, i, none⟩ = some v) ∧ w'.heap.size = w.heap.size
theorem NilBox.keep {w : World} {b : Nat} (h : NilBox w b) (x y : Value) : KeepC w ((w.setCell ⟨b, 0, none⟩ x).setCell ⟨b, 1, none⟩ y) :=
  ⟨fun k i v hv hn => by
    have := h.ne hv hn
    rw [World.cell?_setCell_other _ _ _ _ (by simp [this.symm]), World.cell?_setCell_other _ _ _ _ (by simp [this.symm])]
    exact hv, by simp⟩
theorem vs_keep {w w' : World} {lo hi : Nat} {a : Option Addr} {n c : Nat} {cs : List C3} (h : IsVs w a n c cs) (hl : LV lo hi a) (hK : KeepC w w') : IsVs w' a n c cs := by
  obtain ⟨h1, h2, h3, h4, h5⟩ := h
  refine ⟨h1, h2, h3, h4, fun x hx i hlt => ?_⟩
  obtain ⟨p, q, r, k0, k1, k2, hf⟩ := h5 x hx i hlt
  obtain ⟨b, rfl, _, _⟩ := hl x hx
  rw [addr_add'] at k0 k1 k2
  exact ⟨p, q, r, by rw [addr_add']; exact hK.1 _ _ _ k0 (by simp), by rw [addr_add']; exact hK.1 _ _ _ k1 (by simp), by rw [addr_add']; exact hK.1 _ _ _ k2 (by simp), hf⟩
theorem ts_keep {w w' : World} {lo hi : Nat} {a : Option Addr} {n c : Nat} {ts : List (List Int)} (h : IsTs w a n c ts) (hl : LT lo hi w a n) (h3 : ∀ j, j < n → (ts.getD j []).length = 3) (hK : KeepC w w') : IsTs w' a n c ts ∧ LT lo hi w' a n := by
  obtain ⟨h1, h2, h3', h4, h5⟩ := h
  have key : ∀ x, a = some x → ∃ g, x = ⟨g, 0, none⟩ ∧ lo ≤ g ∧ g < hi ∧ ∀ i, i < n → ∃ y m q, w'.cell? ⟨g, i, none⟩ = some (.slice (some y) m q) ∧ w.cell? ⟨g, i, none⟩ = some (.slice (some y) m q) ∧ IsIs w (some y) m q (ts.getD i []) ∧ ∃ h o, y = ⟨h, o, none⟩ ∧ lo ≤ h ∧ h < hi := by
    intro x hx
    obtain ⟨g, e, u1, u2, u3⟩ := hl x hx
    refine ⟨g, e, u1, u2, fun i hlt => ?_⟩
    obtain ⟨b, m, q, hc, hI⟩ := h5 x hx i hlt
    subst e
    rw [addr_add', Nat.zero_add] at hc
    obtain ⟨b', m', q', hc', hb'⟩ := u3 i hlt
    rw [hc] at hc'
    cases hc'
    cases b with
    | none => have := (hI.2.2.2.2.1 rfl).1; have := hI.1; have := h3 i hlt; omega
    | some y => exact ⟨y, m, q, hK.1 _ _ _ hc (by simp), hc, hI, hb' y rfl⟩
  refine ⟨⟨h1, h2, h3', h4, fun x hx i hlt => ?_⟩, fun x hx => ?_⟩
  · obtain ⟨g, e, u1, u2, u3⟩ := key x hx
    obtain ⟨y, m, q, hc, _, hI, f, o, e', _, _⟩ := u3 i hlt
    subst e
    refine ⟨some y, m, q, by rw [addr_add', Nat.zero_add]; exact hc, ?_⟩
    obtain ⟨i1, i2, i3, i4, i5, i6⟩ := hI
    refine ⟨i1, i2, i3, i4, i5, fun z hz j hj => ?_⟩
    have := i6 z hz j hj
    cases hz
    subst e'
    rw [addr_add'] at this ⊢
    exact hK.1 _ _ _ this (by simp)
  · obtain ⟨g, e, u1, u2, u3⟩ := key x hx
    refine ⟨g, e, u1, u2, fun i hlt => ?_⟩
    obtain ⟨y, m, q, hc, _, _, hb⟩ := u3 i hlt
    exact ⟨some y, m, q, hc, fun z hz => by cases hz; exact hb⟩
theorem GM.lv {lo hi pl tl F : Nat} {w : World} {a a' : Option Addr} (h : GM lo hi w a a' pl tl F) : LV lo hi a := fun x hx => by
  rcases h.1 with ⟨e, _⟩ | ⟨b, e, ho⟩
  · rw [e] at hx; cases hx
  · rw [e] at hx; cases hx; exact ⟨b, rfl, ho.1, ho.2.1⟩
theorem GM.lt {lo hi pl tl F : Nat} {w : World} {a a' : Option Addr} (h : GM lo hi w a a' pl tl F) : LT lo hi w a' tl := fun x hx => by
  rcases h.2.1 with ⟨e, _⟩ | ⟨R, e, k1, k2, k3, k4, k5, k6⟩
  · rw [e] at hx; cases hx
  · rw [e] at hx; cases hx
    refine ⟨R, rfl, k1, k2, fun i hlt => ?_⟩
    obtain ⟨c, hc⟩ := k5 i hlt
    exact ⟨_, _, c, hc, fun y hy => by cases hy; exact ⟨F, _, rfl, k6.1, k6.2.1⟩⟩
theorem GM.keep {lo hi pl tl F b : Nat} {w : World} {a a' : Option Addr} (h : GM lo hi w a a' pl tl F) (hb : NilBox w b) (x y : Value) : GM lo hi ((w.setCell ⟨b, 0, none⟩ x).setCell ⟨b, 1, none⟩ y) a a' pl tl F := by
  have hM : Mark b (b + 1) w ((w.setCell ⟨b, 0, none⟩ x).setCell ⟨b, 1, none⟩ y) := (Mark.set (Nat.le_refl _) (by omega)).trans (Mark.set (Nat.le_refl _) (by omega))
  have hK := hb.keep x y
  refine ⟨h.1.mark hM, h.2.1.imp id fun ⟨R, e, k1, k2, k3, k4, k5, k6⟩ => ⟨R, e, k1, k2, by rw [hK.2]; exact k3, k4, fun j hj => ?_, k6.mark hM⟩, h.2.2⟩
  obtain ⟨c, hc⟩ := k5 j hj
  exact ⟨c, hK.1 _ _ _ hc (by simp)⟩
/-- The lists of a mesh that the model made. -/
def TupS (lo : Nat) (cs : List C3) (ts : List (List Int)) (sa : Option Addr) (sc : Nat) (sa' : Option Addr) (sc' : Nat) (w : World) : Prop := IsVs w sa cs.length sc cs ∧ IsTs w sa' ts.length sc' ts ∧ LV lo w.heap.size sa ∧ LT lo w.heap.size w sa' ts.length
theorem TupS.below {lo sc sc' : Nat} {cs : List C3} {ts : List (List Int)} {sa sa' : Option Addr} {w w' : World} (h : TupS lo cs ts sa sc sa' sc' w) (hB : Below w.heap.size w w') : TupS lo cs ts sa sc sa' sc' w' :=
  ⟨h.1.below hB, h.2.1.below hB, h.2.2.1.wide (Nat.le_refl _) hB.size, (h.2.2.2.below hB).wide (Nat.le_refl _) hB.size⟩
theorem TupS.low {lo lo' sc sc' : Nat} {cs : List C3} {ts : List (List Int)} {sa sa' : Option Addr} {w : World} (h : TupS lo cs ts sa sc sa' sc' w) (hl : lo' ≤ lo) : TupS lo' cs ts sa sc sa' sc' w :=
  ⟨h.1, h.2.1, h.2.2.1.wide hl (Nat.le_refl _), h.2.2.2.wide hl (Nat.le_refl _)⟩
theorem TupS.keep {lo sc sc' b : Nat} {cs : List C3} {ts : List (List Int)} {sa sa' : Option Addr} {w : World} (h : TupS lo cs ts sa sc sa' sc' w) (h3 : ∀ j, j < ts.length → (ts.getD j []).length = 3) (hb : NilBox w b) (x y : Value) : TupS lo cs ts sa sc sa' sc' ((w.setCell ⟨b, 0, none⟩ x).setCell ⟨b, 1, none⟩ y) := by
  have hK := hb.keep x y
  obtain ⟨k1, k2⟩ := ts_keep h.2.1 h.2.2.2 h3 hK
  exact ⟨vs_keep h.1 h.2.2.1 hK, k1, by rw [hK.2]; exact h.2.2.1, by rw [hK.2]; exact k2⟩
/-- The lists of a mesh that the program made. -/
def TupG (lo : Nat) (cs : List C3) (ts : List (List Int)) (sa : Option Addr) (sc : Nat) (sa' : Option Addr) (sc' : Nat) (w : World) : Prop := ∃ F, IsVs w sa cs.length sc cs ∧ IsTs w sa' ts.length sc' ts ∧ GM lo w.heap.size w sa sa' cs.length ts.length F
theorem TupG.below {lo sc sc' : Nat} {cs : List C3} {ts : List (List Int)} {sa sa' : Option Addr} {w w' : World} (h : TupG lo cs ts sa sc sa' sc' w) (hB : Below w.heap.size w w') : TupG lo cs ts sa sc sa' sc' w' := by
  obtain ⟨F, h1, h2, h3⟩ := h
  exact ⟨F, h1.below hB, h2.below hB, (h3.below hB).wide (Nat.le_refl _) hB.size⟩
theorem TupG.low {lo lo' sc sc' : Nat} {cs : List C3} {ts : List (List Int)} {sa sa' : Option Addr} {w : World} (h : TupG lo cs ts sa sc sa' sc' w) (hl : lo' ≤ lo) : TupG lo' cs ts sa sc sa' sc' w := by
  obtain ⟨F, h1, h2, h3⟩ := h
  exact ⟨F, h1, h2, h3.wide hl (Nat.le_refl _)⟩
theorem TupG.keep {lo sc sc' b : Nat} {cs : List C3} {ts : List (List Int)} {sa sa' : Option Addr} {w : World} (h : TupG lo cs ts sa sc sa' sc' w) (h3 : ∀ j, j < ts.length → (ts.getD j []).length = 3) (hb : NilBox w b) (x y : Value) : TupG lo cs ts sa sc sa' sc' ((w.setCell ⟨b, 0, none⟩ x).setCell ⟨b, 1, none⟩ y) := by
  obtain ⟨F, h1, h2, hG⟩ := h
  have hK := hb.keep x y
  obtain ⟨k1, _⟩ := ts_keep h2 hG.lt h3 hK
  exact ⟨F, vs_keep h1 hG.lv hK, k1, by rw [hK.2]; exact hG.keep hb x y⟩
theorem Made.tup {w w' : World} {e : Ending} {ok : Bool} {cs : List C3} {ts : List (List Int)} (h : Made w w' e ok cs ts) : (∃ sa sc sa' sc', e = .returned (.tuple #[.agg #[.slice sa cs.length sc, .slice sa' ts.length sc'], .bool ok]) ∧ TupS w.heap.size cs ts sa sc sa' sc' w') ∧ Below w.heap.size w w' := by
  obtain ⟨⟨a, c, a', c', e, h1, h2, h3, h4⟩, hB⟩ := h
  exact ⟨⟨a, c, a', c', e, h1, h2, h3, h4⟩, hB⟩
theorem MadeG.tup {w w' : World} {e : Ending} {ok : Bool} {cs : List C3} {ts : List (List Int)} (h : MadeG w w' e ok cs ts) : (∃ sa sc sa' sc', e = .returned (.tuple #[.agg #[.slice sa cs.length sc, .slice sa' ts.length sc'], .bool ok]) ∧ TupG w.heap.size cs ts sa sc sa' sc' w') ∧ Below w.heap.size w w' := by
  obtain ⟨⟨a, c, a', c', F, e, h1, h2, h3⟩, hB⟩ := h
  exact ⟨⟨a, c, a', c', e, F, h1, h2, h3⟩, hB⟩
theorem vec_any' (lo hi : Nat) (a : Option Addr) (n cap : Nat) (k0 : Nat) (w : World) (h : Lst lo hi w a (n * 3)) (hn : n ≤ 1000000) (hk : k0 ≤ 1000000) :
    Calls Try.prog 73 #[.slice a n cap, .int .i64 k0] w fun e w' => e = .returned (.int .i64 ((k0 + n * 3 : Nat) : Int)) ∧ ((a = none ∧ n = 0) ∨ ∃ P, a = some ⟨P, 0, none⟩ ∧ ∀ j, j < n * 3 → w'.cell? ⟨P, 0 + j, none⟩ = some (.float .f32 (floatOfInt .f32 ((k0 + j : Nat) : Int)))) ∧ (∀ b i, (n = 0 ∨ a ≠ some ⟨b, 0, none⟩) → w'.cell? ⟨b, i, none⟩ = w.cell? ⟨b, i, none⟩) ∧ Mark lo hi w w' := by
  rcases h with ⟨rfl, h0⟩ | ⟨b, rfl, hown⟩
  · refine (vec_any lo hi none n cap k0 w (.inl ⟨rfl, h0⟩) hn hk).mono ?_
    rintro e w' ⟨he, hd, ho, hM⟩
    exact ⟨he, hd, fun b i _ => ho b i (by simp), hM⟩
  · refine (laws_markVectorS lo hi b 0 n cap k0 w hown (by omega)).mono ?_
    rintro e w' ⟨he, hd, ho, hM⟩
    refine ⟨he, .inr ⟨b, rfl, hd⟩, fun c i hc => ho c i ?_, hM⟩
    rcases hc with rfl | hc
    · exact .inr (.inr (by omega))
    · exact .inl (fun h => hc (by rw [h]))
theorem flat_any' (lo hi : Nat) (a : Option Addr) (n cap F : Nat) (k0 : Nat) (w : World) (h : Flat lo hi w a n F) (hn : n ≤ 1000000) (hk : k0 ≤ 1000000000) :
    Calls Try.prog 13 #[.slice a n cap, .int .i64 k0] w fun e w' => e = .returned (.int .i64 ((k0 + n * 3 : Nat) : Int)) ∧ ((a = none ∧ n = 0) ∨ ∃ R, a = some ⟨R, 0, none⟩ ∧ FlatRows w' R F n ∧ ∀ j, j < n * 3 → w'.cell? ⟨F, j, none⟩ = some (.int .i64 ((k0 + j : Nat) : Int))) ∧ (∀ b i, (n = 0 ∨ b ≠ F) → w'.cell? ⟨b, i, none⟩ = w.cell? ⟨b, i, none⟩) ∧ Mark lo hi w w' := by
  by_cases h0 : n = 0
  · subst h0
    have hd : (a = none ∧ (0 : Nat) = 0) ∨ ∃ R, a = some ⟨R, 0, none⟩ ∧ FlatRows w R F 0 ∧ ∀ j, j < 0 * 3 → w.cell? ⟨F, j, none⟩ = some (.int .i64 ((k0 + j : Nat) : Int)) := h.imp (fun h => ⟨h.1, rfl⟩) fun ⟨R, e, _⟩ => ⟨R, e, fun j hj => absurd hj (by omega), fun j hj => absurd hj (by omega)⟩
    have HD := Lib.hid hd
    clear hd h
    go_enter Try.func13, Try.ntmps13
    go_wp2
    refine wp_loop_rounds 1 ?_
    rw [rounds_succ]
    go_wp2
    go_ret
    refine ⟨by simp, by first | exact HD.out | simpa using HD.out, ?_, Mark.refl _ _ _⟩
    first | exact fun _ _ _ => rfl | simp
  · refine (flat_any lo hi a n cap F k0 w h hn hk).mono ?_
    rintro e w' ⟨he, hd, ho, hM⟩
    exact ⟨he, hd, fun b i hb => ho b i (hb.resolve_left h0), hM⟩
theorem mark_gm' (lo hi : Nat) (pa ta : Option Addr) (pl pc tl tc F : Nat) (w : World) (h : GM lo hi w pa ta pl tl F) (hlo : lo ≤ w.heap.size) (h1 : pl ≤ 1000) (h2 : tl ≤ 1000) :
    Calls Try.prog 36 #[.agg #[.slice pa pl pc, .slice ta tl tc], .int .i64 1] w fun e w' => e = .returned (.int .i64 ((1 + pl * 3 + tl * 3 : Nat) : Int)) ∧ MrkM w' pa ta pl tl F ∧ Mark lo hi w w' ∧ ∀ b i v, w.cell? ⟨b, i, none⟩ = some v → (pl = 0 ∨ pa ≠ some ⟨b, 0, none⟩) → (tl = 0 ∨ b ≠ F) → w'.cell? ⟨b, i, none⟩ = some v := by
  have ui := Try.underlying44
  have hA : Mark lo hi w (w.alloc (.cells #[.slice pa pl pc, .slice ta tl tc] 44)) := Mark.alloc hlo _
  have a1 : (w.alloc (.cells #[.slice pa pl pc, .slice ta tl tc] 44)).cell? ⟨w.heap.size, 1, none⟩ = some (.slice ta tl tc) := by go_simp
  have a0 : (w.alloc (.cells #[.slice pa pl pc, .slice ta tl tc] 44)).cell? ⟨w.heap.size, 0, none⟩ = some (.slice pa pl pc) := by go_simp
  have nP : pa ≠ some ⟨w.heap.size, 0, none⟩ := fun e => by
    rcases h.1 with ⟨e', _⟩ | ⟨b, e', ho⟩
    · rw [e'] at e; cases e
    · rw [e'] at e; cases e; exact absurd ho.2.2.1 (Nat.lt_irrefl _)
  have hG := h.below ((Below.refl _ _).alloc (Nat.le_refl _) (.cells #[.slice pa pl pc, .slice ta tl tc] 44))
  have HV := Lib.hid (vec_any' lo hi pa pl pc 1 _ hG.1 (by omega) (by omega))
  have HF := Lib.hid hG.2.1
  have HN := Lib.hid hG.2.2
  have HA := Lib.hid hA
  have HNP := Lib.hid nP
  have HCA := Lib.hid (fun (b i : Nat) (v : Value) (hv : w.cell? ⟨b, i, none⟩ = some v) => cell_alloc (o := (.cells #[.slice pa pl pc, .slice ta tl tc] 44)) hv)
  clear h hA hG nP
  generalize hCH : w.alloc (.cells #[.slice pa pl pc, .slice ta tl tc] 44) = W at *
  go_enter Try.func36, Try.ntmps36
  go_wp2_with fail
  refine HV.out.mono ?_
  rintro e w1 ⟨rfl, hd, ho, hM1⟩
  have a1' : w1.cell? ⟨w.heap.size, 1, none⟩ = some (.slice ta tl tc) := (ho _ _ (.inr HNP.out)).trans a1
  have hF1 : Flat lo hi w1 ta tl F := HF.out.mark hM1 (fun R hR i v hv => by
    refine (ho _ _ (.inr (fun hp => ?_))).trans hv
    exact (HN.out _ hp).2 _ hR rfl)
  have HF1 := Lib.hid (flat_any' lo hi ta tl tc F (1 + pl * 3) w1 hF1 (by omega) (by omega))
  have HD := Lib.hid hd
  have HO1 := Lib.hid ho
  have HM1 := Lib.hid (HA.out.trans hM1)
  clear ho hM1 a0 a1 HV HF hCH hd hF1
  generalize hq : 1 + pl * 3 = q at *
  have hq' : q ≤ 10000 := by omega
  go_wp2_with fail
  refine HF1.out.mono ?_
  rintro e w2 ⟨rfl, hd2, ho2, hM2⟩
  have HD2 := Lib.hid hd2
  have HO2 := Lib.hid ho2
  have HM2 := Lib.hid hM2
  clear hd2 ho2 hM2
  go_wp2
  go_ret
  refine ⟨by rw [show 1 + pl * 3 + tl * 3 = q + tl * 3 by omega]; rfl, ⟨?_, ?_⟩, HM1.out.trans HM2.out, fun b i v hv k1 k2 => ?_⟩
  · exact HD.out.imp id fun ⟨P, e, hc⟩ => ⟨P, e, fun j hj => (HO2.out P (0 + j) (.inr (HN.out _ e).1)).trans (hc j hj)⟩
  · first | exact HD2.out | (rw [hq]; exact HD2.out) | (subst hq; exact HD2.out)
  · exact (HO2.out b i k2).trans ((HO1.out b i k1).trans (HCA.out b i v hv))
/-- A box for a mesh is none of the blocks that are marked. -/
theorem gm_box {lo hi n m c c' F B k q : Nat} {w : World} {a a' x : Option Addr} {cs : List C3} {ts : List (List Int)} (hI : IsVs w a n c cs) (hT : IsTs w a' m c' ts) (hG : GM lo hi w a a' n m F) (h3 : ∀ j, j < m → (ts.getD j []).length = 3) (h0 : w.cell? ⟨B, 0, none⟩ = some (.slice x k q)) : (n = 0 ∨ a ≠ some ⟨B, 0, none⟩) ∧ (m = 0 ∨ B ≠ F) := by
  constructor
  · by_cases hn : n = 0
    · exact .inl hn
    · refine .inr fun e => ?_
      obtain ⟨p, _, _, k0, _⟩ := hI.2.2.2.2 _ e 0 (by omega)
      rw [addr_add', Nat.zero_mul, Nat.add_zero, h0] at k0
      cases k0
  · by_cases hm : m = 0
    · exact .inl hm
    · refine .inr ?_
      rintro rfl
      rcases hG.2.1 with ⟨_, e⟩ | ⟨R, e, _, _, _, _, k5, _⟩
      · exact hm e
      · obtain ⟨q', hc⟩ := k5 0 (by omega)
        obtain ⟨b, l, q2, hc2, hI2⟩ := hT.2.2.2.2 _ e 0 (by omega)
        rw [addr_add', Nat.zero_add, hc] at hc2
        cases hc2
        have := hI2.2.2.2.2.2 _ rfl 0 (by omega)
        rw [addr_add', Nat.zero_mul, Nat.add_zero, h0] at this
        cases this
theorem eval_put_ne {a : Act} {d : Option Tmp} {v : Value} {t : Tmp} (h : d ≠ some t) : (a.put d v).eval (.tmp t) = a.eval (.tmp t) := Act.eval_put (fun d' hd he => h (by rw [hd]; cases he; rfl))
end Go.Proofs.Ytockhhfehjoldab


/-
The copy of a body that the law makes. Conditions: at most 2^20 of each.
-/
namespace Go.Proofs.Ytockhhfehjoldab
open Go Fk Go.RowKit
set_option linter.unusedVariables false
set_option maxRecDepth 8000

theorem _root_.Go.Proofs.Ytockhhfehjoldab.IsFs_set {w : World} {a : Addr} {v : Value} {b len cap : Nat} {o : Nat} {zs : List Nat} (h : IsFs .f32 w (some ⟨b, o, none⟩) len cap zs) (hne : a.block ≠ b) : IsFs .f32 (w.setCell a v) (some ⟨b, o, none⟩) len cap zs := by
  obtain ⟨h1, h2, h3, h4, h5, h6⟩ := h
  refine ⟨h1, h2, h3, h4, h5, fun x hx i hi => ?_⟩
  have hc := h6 x hx i hi
  cases hx
  rw [addr_add'] at hc ⊢
  rw [World.cell?_setCell_other _ _ _ _ (by intro h; apply hne; rw [h])]; exact hc
abbrev Z9 : List Value := [.slice none 0 0, .slice none 0 0, .slice none 0 0, .float .f32 0, .float .f32 0, .slice none 0 0, .float .f32 0, .float .f32 0, .float .f32 0]
theorem ne_sl {a : Option Addr} {l c : Nat} : ∀ z, (.slice a l c : Value) ≠ .int .i64 z := fun z h => by cases h
theorem ne_fl {x : Nat} : ∀ z, (.float .f32 x : Value) ≠ .int .i64 z := fun z h => by cases h
set_option maxHeartbeats 2000000 in
theorem laws_toBody (B : Bd) (c : Bc) (w : World) (h : IsB w B c) (hs : SmallB c) :
    Calls Try.prog 17 #[B.v] w fun e w' => ∃ B' : Bd, e = .returned B'.v ∧ IsB w' B' c ∧ Below w.heap.size w w' := by
  have ul := Try.underlying37
  have ui := Try.underlying48
  have ulm := Try.underlying30
  have uim := Try.underlying44
  have ulv := Try.underlying35
  have uiv := Try.underlying46
  have u := Try.underlying32
  have hsl : B.sl ≤ 1048576 := by rw [← h.2.2.1.1]; exact hs.2.1
  have hwl : B.wl ≤ 1048576 := by rw [← h.2.2.2.1.1]; exact hs.2.2
  have H := Lib.hid h
  have HS := Lib.hid hs
  clear h hs
  go_enter Try.func17, Try.ntmps17
  go_wp2_with fail
  have a0 : At (((w.alloc (.cells #[.slice B.pa B.pl B.pc, .slice B.ta B.tl B.tc, .slice B.sa B.sl B.sc, .float .f32 B.film, .float .f32 B.bend, .slice B.wa B.wl B.wc, .float .f32 B.x, .float .f32 B.y, .float .f32 B.z] 37)).alloc (.cells #[.slice none 0 0, .slice none 0 0, .slice none 0 0, .float .f32 0, .float .f32 0, .slice none 0 0, .float .f32 0, .float .f32 0, .float .f32 0] 48)).alloc (.cells #[.slice none 0 0, .slice none 0 0, .slice none 0 0, .float .f32 0, .float .f32 0, .slice none 0 0, .float .f32 0, .float .f32 0, .float .f32 0] 48)) w.heap.size B.l := At.new.alloc.alloc
  have r0 : At (((w.alloc (.cells #[.slice B.pa B.pl B.pc, .slice B.ta B.tl B.tc, .slice B.sa B.sl B.sc, .float .f32 B.film, .float .f32 B.bend, .slice B.wa B.wl B.wc, .float .f32 B.x, .float .f32 B.y, .float .f32 B.z] 37)).alloc (.cells #[.slice none 0 0, .slice none 0 0, .slice none 0 0, .float .f32 0, .float .f32 0, .slice none 0 0, .float .f32 0, .float .f32 0, .float .f32 0] 48)).alloc (.cells #[.slice none 0 0, .slice none 0 0, .slice none 0 0, .float .f32 0, .float .f32 0, .slice none 0 0, .float .f32 0, .float .f32 0, .float .f32 0] 48)) (w.heap.size + 1) Z9 := by
    have := (At.new (w := w.alloc (.cells #[.slice B.pa B.pl B.pc, .slice B.ta B.tl B.tc, .slice B.sa B.sl B.sc, .float .f32 B.film, .float .f32 B.bend, .slice B.wa B.wl B.wc, .float .f32 B.x, .float .f32 B.y, .float .f32 B.z] 37)) (vs := Z9) (t := 48)).alloc (o := (.cells #[.slice none 0 0, .slice none 0 0, .slice none 0 0, .float .f32 0, .float .f32 0, .slice none 0 0, .float .f32 0, .float .f32 0, .float .f32 0] 48))
    simpa using this
  have o0 : At (((w.alloc (.cells #[.slice B.pa B.pl B.pc, .slice B.ta B.tl B.tc, .slice B.sa B.sl B.sc, .float .f32 B.film, .float .f32 B.bend, .slice B.wa B.wl B.wc, .float .f32 B.x, .float .f32 B.y, .float .f32 B.z] 37)).alloc (.cells #[.slice none 0 0, .slice none 0 0, .slice none 0 0, .float .f32 0, .float .f32 0, .slice none 0 0, .float .f32 0, .float .f32 0, .float .f32 0] 48)).alloc (.cells #[.slice none 0 0, .slice none 0 0, .slice none 0 0, .float .f32 0, .float .f32 0, .slice none 0 0, .float .f32 0, .float .f32 0, .float .f32 0] 48)) (w.heap.size + 1 + 1) Z9 := by
    have := (At.new (w := (w.alloc (.cells #[.slice B.pa B.pl B.pc, .slice B.ta B.tl B.tc, .slice B.sa B.sl B.sc, .float .f32 B.film, .float .f32 B.bend, .slice B.wa B.wl B.wc, .float .f32 B.x, .float .f32 B.y, .float .f32 B.z] 37)).alloc (.cells #[.slice none 0 0, .slice none 0 0, .slice none 0 0, .float .f32 0, .float .f32 0, .slice none 0 0, .float .f32 0, .float .f32 0, .float .f32 0] 48)) (vs := Z9) (t := 48))
    simpa using this
  have fr0 : Fr (((w.alloc (.cells #[.slice B.pa B.pl B.pc, .slice B.ta B.tl B.tc, .slice B.sa B.sl B.sc, .float .f32 B.film, .float .f32 B.bend, .slice B.wa B.wl B.wc, .float .f32 B.x, .float .f32 B.y, .float .f32 B.z] 37)).alloc (.cells #[.slice none 0 0, .slice none 0 0, .slice none 0 0, .float .f32 0, .float .f32 0, .slice none 0 0, .float .f32 0, .float .f32 0, .float .f32 0] 48)).alloc (.cells #[.slice none 0 0, .slice none 0 0, .slice none 0 0, .float .f32 0, .float .f32 0, .slice none 0 0, .float .f32 0, .float .f32 0, .float .f32 0] 48)) (w.heap.size + 1) := fun i => by go_simp
  have fo0 : Fr (((w.alloc (.cells #[.slice B.pa B.pl B.pc, .slice B.ta B.tl B.tc, .slice B.sa B.sl B.sc, .float .f32 B.film, .float .f32 B.bend, .slice B.wa B.wl B.wc, .float .f32 B.x, .float .f32 B.y, .float .f32 B.z] 37)).alloc (.cells #[.slice none 0 0, .slice none 0 0, .slice none 0 0, .float .f32 0, .float .f32 0, .slice none 0 0, .float .f32 0, .float .f32 0, .float .f32 0] 48)).alloc (.cells #[.slice none 0 0, .slice none 0 0, .slice none 0 0, .float .f32 0, .float .f32 0, .slice none 0 0, .float .f32 0, .float .f32 0, .float .f32 0] 48)) (w.heap.size + 1 + 1) := fun i => by go_simp
  have b0 : Below w.heap.size w (((w.alloc (.cells #[.slice B.pa B.pl B.pc, .slice B.ta B.tl B.tc, .slice B.sa B.sl B.sc, .float .f32 B.film, .float .f32 B.bend, .slice B.wa B.wl B.wc, .float .f32 B.x, .float .f32 B.y, .float .f32 B.z] 37)).alloc (.cells #[.slice none 0 0, .slice none 0 0, .slice none 0 0, .float .f32 0, .float .f32 0, .slice none 0 0, .float .f32 0, .float .f32 0, .float .f32 0] 48)).alloc (.cells #[.slice none 0 0, .slice none 0 0, .slice none 0 0, .float .f32 0, .float .f32 0, .slice none 0 0, .float .f32 0, .float .f32 0, .float .f32 0] 48)) := (((Below.refl _ _).alloc (Nat.le_refl _) _).alloc (by simp) _).alloc (by simp <;> omega) _
  generalize (((w.alloc (.cells #[.slice B.pa B.pl B.pc, .slice B.ta B.tl B.tc, .slice B.sa B.sl B.sc, .float .f32 B.film, .float .f32 B.bend, .slice B.wa B.wl B.wc, .float .f32 B.x, .float .f32 B.y, .float .f32 B.z] 37)).alloc (.cells #[.slice none 0 0, .slice none 0 0, .slice none 0 0, .float .f32 0, .float .f32 0, .slice none 0 0, .float .f32 0, .float .f32 0, .float .f32 0] 48)).alloc (.cells #[.slice none 0 0, .slice none 0 0, .slice none 0 0, .float .f32 0, .float .f32 0, .slice none 0 0, .float .f32 0, .float .f32 0, .float .f32 0] 48)) = W at *
  have A0 := Lib.hid a0
  have R0 := Lib.hid r0
  have O0 := Lib.hid o0
  have FR0 := Lib.hid fr0
  have FO0 := Lib.hid fo0
  have B0 := Lib.hid b0
  clear a0 r0 o0 fr0 fo0 b0
  have H0 := Lib.hid (H.out.below B0.out)
  refine (laws_toMesh _ _ _ _ _ _ c.cs c.ts _ H0.out.1 H0.out.2.1 HS.out.1).mono ?_
  rintro e w1 ⟨⟨b, b', rfl, hb, hb', hV, hT⟩, hB1⟩
  have l2 : w.heap.size + 1 + 1 < W.heap.size := O0.out.lt
  have A1 := Lib.hid (A0.out.below hB1)
  have R1 := Lib.hid (R0.out.below hB1)
  have O1 := Lib.hid (O0.out.below hB1)
  have FR1 := Lib.hid (FR0.out.below hB1 R0.out.lt)
  have FO1 := Lib.hid (FO0.out.below hB1 O0.out.lt)
  have B1 := Lib.hid (B0.out.trans (hB1.mono B0.out.size))
  have V1 := Lib.hid hV
  have T1 := Lib.hid hT
  have NB := Lib.hid (And.intro (show w.heap.size + 1 + 1 ≠ b by omega) (And.intro (show w.heap.size + 1 + 1 ≠ b' by omega) (And.intro (show w.heap.size + 1 ≠ b by omega) (show w.heap.size + 1 ≠ b' by omega))))
  clear hV hT hB1 hb hb' l2
  have k2 := A1.out 2 _ rfl
  have e0 := O1.out 0 _ rfl
  have e1 := O1.out 1 _ rfl
  have g0 := FO1.out 0
  have g1 := FO1.out 1
  go_wp2_with fail
  clear k2 e0 e1 g0 g1
  have b2 := (B1.out.setCell (p := ⟨w.heap.size + 1 + 1, 0, none⟩) (show w.heap.size ≤ w.heap.size + 1 + 1 by omega) (.slice (some ⟨b, 0, none⟩) B.pl B.pl)).setCell (p := ⟨w.heap.size + 1 + 1, 1, none⟩) (show w.heap.size ≤ w.heap.size + 1 + 1 by omega) (.slice (some ⟨b', 0, none⟩) B.tl B.tl)
  have a2 := (A1.out.far (a := ⟨w.heap.size + 1 + 1, 0, none⟩) (u := .slice (some ⟨b, 0, none⟩) B.pl B.pl) (show w.heap.size + 1 + 1 ≠ w.heap.size by omega)).far (a := ⟨w.heap.size + 1 + 1, 1, none⟩) (u := .slice (some ⟨b', 0, none⟩) B.tl B.tl) (show w.heap.size + 1 + 1 ≠ w.heap.size by omega)
  have r2 := (R1.out.far (a := ⟨w.heap.size + 1 + 1, 0, none⟩) (u := .slice (some ⟨b, 0, none⟩) B.pl B.pl) (show w.heap.size + 1 + 1 ≠ w.heap.size + 1 by omega)).far (a := ⟨w.heap.size + 1 + 1, 1, none⟩) (u := .slice (some ⟨b', 0, none⟩) B.tl B.tl) (show w.heap.size + 1 + 1 ≠ w.heap.size + 1 by omega)
  have o2 : At _ (w.heap.size + 1 + 1) [.slice (some ⟨b, 0, none⟩) B.pl B.pl, .slice (some ⟨b', 0, none⟩) B.tl B.tl, .slice none 0 0, .float .f32 0, .float .f32 0, .slice none 0 0, .float .f32 0, .float .f32 0, .float .f32 0] := (O1.out.set 0 (.slice (some ⟨b, 0, none⟩) B.pl B.pl)).set 1 (.slice (some ⟨b', 0, none⟩) B.tl B.tl)
  have fr2 := (FR1.out.setC (a := ⟨w.heap.size + 1 + 1, 0, none⟩) (u := .slice (some ⟨b, 0, none⟩) B.pl B.pl)).setC (a := ⟨w.heap.size + 1 + 1, 1, none⟩) (u := .slice (some ⟨b', 0, none⟩) B.tl B.tl)
  have fo2 := (FO1.out.setC (a := ⟨w.heap.size + 1 + 1, 0, none⟩) (u := .slice (some ⟨b, 0, none⟩) B.pl B.pl)).setC (a := ⟨w.heap.size + 1 + 1, 1, none⟩) (u := .slice (some ⟨b', 0, none⟩) B.tl B.tl)
  have v2 := (V1.out.set (a := ⟨w.heap.size + 1 + 1, 0, none⟩) (v := .slice (some ⟨b, 0, none⟩) B.pl B.pl) NB.out.1).set (a := ⟨w.heap.size + 1 + 1, 1, none⟩) (v := .slice (some ⟨b', 0, none⟩) B.tl B.tl) NB.out.1
  have t2 := (T1.out.setN (a := ⟨w.heap.size + 1 + 1, 0, none⟩) (v := .slice (some ⟨b, 0, none⟩) B.pl B.pl) NB.out.2.1 (O1.out 0 _ rfl) ne_sl).setN (a := ⟨w.heap.size + 1 + 1, 1, none⟩) (v := .slice (some ⟨b', 0, none⟩) B.tl B.tl) NB.out.2.1 (O1.out.set 0 _ 1 _ rfl) ne_sl
  generalize ((w1.setCell ⟨w.heap.size + 1 + 1, 0, none⟩ (.slice (some ⟨b, 0, none⟩) B.pl B.pl)).setCell ⟨w.heap.size + 1 + 1, 1, none⟩ (.slice (some ⟨b', 0, none⟩) B.tl B.tl)) = W1 at *
  have l2 : w.heap.size + 1 + 1 < W1.heap.size := o2.lt
  refine (laws_toSpringS _ _ _ c.ss _ (H.out.below b2).2.2.1 hsl).mono ?_
  rintro e w2 ⟨rfl, hSp, hB2, -⟩
  have A2 := Lib.hid (a2.below hB2)
  have R2 := Lib.hid (r2.below hB2)
  have O2 := Lib.hid (o2.below hB2)
  have FR2 := Lib.hid (fr2.below hB2 r2.lt)
  have FO2 := Lib.hid (fo2.below hB2 o2.lt)
  have B2 := Lib.hid (b2.trans (hB2.mono b2.size))
  have V2 := Lib.hid (v2.below hB2)
  have T2 := Lib.hid (t2.below hB2)
  have S2 := Lib.hid hSp
  generalize W1.heap.size = gs at *
  have NS := Lib.hid (And.intro (show w.heap.size + 1 + 1 ≠ gs by omega) (show w.heap.size + 1 ≠ gs by omega))
  clear a2 r2 o2 fr2 fo2 b2 v2 t2 hSp hB2 l2
  have k3 := A2.out 3 _ rfl
  have k4 := A2.out 4 _ rfl
  have k5 := A2.out 5 _ rfl
  have e2 := O2.out 2 _ rfl
  have e3 := O2.out 3 _ rfl
  have e4 := O2.out 4 _ rfl
  have g2 := FO2.out 2
  have g3 := FO2.out 3
  have g4 := FO2.out 4
  go_wp2_with fail
  clear k3 k4 k5 e2 e3 e4 g2 g3 g4
  have b3 := ((B2.out.setCell (p := ⟨w.heap.size + 1 + 1, 2, none⟩) (show w.heap.size ≤ w.heap.size + 1 + 1 by omega) (.slice (some ⟨gs, 0, none⟩) B.sl B.sl)).setCell (p := ⟨w.heap.size + 1 + 1, 3, none⟩) (show w.heap.size ≤ w.heap.size + 1 + 1 by omega) (.float .f32 B.film)).setCell (p := ⟨w.heap.size + 1 + 1, 4, none⟩) (show w.heap.size ≤ w.heap.size + 1 + 1 by omega) (.float .f32 B.bend)
  have a3 := ((A2.out.far (a := ⟨w.heap.size + 1 + 1, 2, none⟩) (u := (.slice (some ⟨gs, 0, none⟩) B.sl B.sl)) (show w.heap.size + 1 + 1 ≠ w.heap.size by omega)).far (a := ⟨w.heap.size + 1 + 1, 3, none⟩) (u := (.float .f32 B.film)) (show w.heap.size + 1 + 1 ≠ w.heap.size by omega)).far (a := ⟨w.heap.size + 1 + 1, 4, none⟩) (u := (.float .f32 B.bend)) (show w.heap.size + 1 + 1 ≠ w.heap.size by omega)
  have r3 := ((R2.out.far (a := ⟨w.heap.size + 1 + 1, 2, none⟩) (u := (.slice (some ⟨gs, 0, none⟩) B.sl B.sl)) (show w.heap.size + 1 + 1 ≠ w.heap.size + 1 by omega)).far (a := ⟨w.heap.size + 1 + 1, 3, none⟩) (u := (.float .f32 B.film)) (show w.heap.size + 1 + 1 ≠ w.heap.size + 1 by omega)).far (a := ⟨w.heap.size + 1 + 1, 4, none⟩) (u := (.float .f32 B.bend)) (show w.heap.size + 1 + 1 ≠ w.heap.size + 1 by omega)
  have o3 : At _ (w.heap.size + 1 + 1) [.slice (some ⟨b, 0, none⟩) B.pl B.pl, .slice (some ⟨b', 0, none⟩) B.tl B.tl, .slice (some ⟨gs, 0, none⟩) B.sl B.sl, .float .f32 B.film, .float .f32 B.bend, .slice none 0 0, .float .f32 0, .float .f32 0, .float .f32 0] := ((O2.out.set 2 (.slice (some ⟨gs, 0, none⟩) B.sl B.sl)).set 3 (.float .f32 B.film)).set 4 (.float .f32 B.bend)
  have fr3 := ((FR2.out.setC (a := ⟨w.heap.size + 1 + 1, 2, none⟩) (u := (.slice (some ⟨gs, 0, none⟩) B.sl B.sl))).setC (a := ⟨w.heap.size + 1 + 1, 3, none⟩) (u := (.float .f32 B.film))).setC (a := ⟨w.heap.size + 1 + 1, 4, none⟩) (u := (.float .f32 B.bend))
  have fo3 := ((FO2.out.setC (a := ⟨w.heap.size + 1 + 1, 2, none⟩) (u := (.slice (some ⟨gs, 0, none⟩) B.sl B.sl))).setC (a := ⟨w.heap.size + 1 + 1, 3, none⟩) (u := (.float .f32 B.film))).setC (a := ⟨w.heap.size + 1 + 1, 4, none⟩) (u := (.float .f32 B.bend))
  have v3 := ((V2.out.set (a := ⟨w.heap.size + 1 + 1, 2, none⟩) (v := (.slice (some ⟨gs, 0, none⟩) B.sl B.sl)) NB.out.1).set (a := ⟨w.heap.size + 1 + 1, 3, none⟩) (v := (.float .f32 B.film)) NB.out.1).set (a := ⟨w.heap.size + 1 + 1, 4, none⟩) (v := (.float .f32 B.bend)) NB.out.1
  have s3 := ((S2.out.set (a := ⟨w.heap.size + 1 + 1, 2, none⟩) (v := (.slice (some ⟨gs, 0, none⟩) B.sl B.sl)) NS.out.1).set (a := ⟨w.heap.size + 1 + 1, 3, none⟩) (v := (.float .f32 B.film)) NS.out.1).set (a := ⟨w.heap.size + 1 + 1, 4, none⟩) (v := (.float .f32 B.bend)) NS.out.1
  have t3 := ((T2.out.setN (a := ⟨w.heap.size + 1 + 1, 2, none⟩) (v := (.slice (some ⟨gs, 0, none⟩) B.sl B.sl)) NB.out.2.1 (O2.out 2 _ rfl) ne_sl).setN (a := ⟨w.heap.size + 1 + 1, 3, none⟩) (v := (.float .f32 B.film)) NB.out.2.1 (O2.out.set 2 _ 3 _ rfl) ne_fl).setN (a := ⟨w.heap.size + 1 + 1, 4, none⟩) (v := (.float .f32 B.bend)) NB.out.2.1 ((O2.out.set 2 _).set 3 _ 4 _ rfl) ne_fl
  generalize (((w2.setCell ⟨w.heap.size + 1 + 1, 2, none⟩ (.slice (some ⟨gs, 0, none⟩) B.sl B.sl)).setCell ⟨w.heap.size + 1 + 1, 3, none⟩ (.float .f32 B.film)).setCell ⟨w.heap.size + 1 + 1, 4, none⟩ (.float .f32 B.bend)) = W2 at *
  have l3 : w.heap.size + 1 + 1 < W2.heap.size := o3.lt
  refine (laws_toFloat32S' _ _ _ c.zs _ (H.out.below b3).2.2.2.1 hwl).mono ?_
  rintro e w3 ⟨rfl, hFs, hB3, -⟩
  have A3 := Lib.hid (a3.below hB3)
  have R3 := Lib.hid (r3.below hB3)
  have O3 := Lib.hid (o3.below hB3)
  have FR3 := Lib.hid (fr3.below hB3 r3.lt)
  have FO3 := Lib.hid (fo3.below hB3 o3.lt)
  have B3 := Lib.hid (b3.trans (hB3.mono b3.size))
  have V3' := Lib.hid (v3.below hB3)
  have S3 := Lib.hid (s3.below hB3)
  have T3 := Lib.hid (t3.below hB3)
  have F3 := Lib.hid hFs
  generalize W2.heap.size = gw at *
  have NW := Lib.hid (And.intro (show w.heap.size + 1 + 1 ≠ gw by omega) (show w.heap.size + 1 ≠ gw by omega))
  clear a3 r3 o3 fr3 fo3 b3 v3 s3 t3 hFs hB3 l3
  have k6 := A3.out 6 _ rfl
  have k7 := A3.out 7 _ rfl
  have k8 := A3.out 8 _ rfl
  have e5 := O3.out 5 _ rfl
  have g5 := FO3.out 5
  go_wp2_with fail
  clear k6 k7 k8 e5 g5
  have b4 := B3.out.setCell (p := ⟨w.heap.size + 1 + 1, 5, none⟩) (show w.heap.size ≤ w.heap.size + 1 + 1 by omega) (.slice (some ⟨gw, 0, none⟩) B.wl B.wl)
  have r4 := R3.out.far (a := ⟨w.heap.size + 1 + 1, 5, none⟩) (u := (.slice (some ⟨gw, 0, none⟩) B.wl B.wl)) (show w.heap.size + 1 + 1 ≠ w.heap.size + 1 by omega)
  have o4 : At _ (w.heap.size + 1 + 1) [.slice (some ⟨b, 0, none⟩) B.pl B.pl, .slice (some ⟨b', 0, none⟩) B.tl B.tl, .slice (some ⟨gs, 0, none⟩) B.sl B.sl, .float .f32 B.film, .float .f32 B.bend, .slice (some ⟨gw, 0, none⟩) B.wl B.wl, .float .f32 0, .float .f32 0, .float .f32 0] := O3.out.set 5 (.slice (some ⟨gw, 0, none⟩) B.wl B.wl)
  have fr4 := FR3.out.setC (a := ⟨w.heap.size + 1 + 1, 5, none⟩) (u := (.slice (some ⟨gw, 0, none⟩) B.wl B.wl))
  have fo4 := FO3.out.setC (a := ⟨w.heap.size + 1 + 1, 5, none⟩) (u := (.slice (some ⟨gw, 0, none⟩) B.wl B.wl))
  have v4 := V3'.out.set (a := ⟨w.heap.size + 1 + 1, 5, none⟩) (v := (.slice (some ⟨gw, 0, none⟩) B.wl B.wl)) NB.out.1
  have s4 := S3.out.set (a := ⟨w.heap.size + 1 + 1, 5, none⟩) (v := (.slice (some ⟨gw, 0, none⟩) B.wl B.wl)) NS.out.1
  have t4 := T3.out.setN (a := ⟨w.heap.size + 1 + 1, 5, none⟩) (v := (.slice (some ⟨gw, 0, none⟩) B.wl B.wl)) NB.out.2.1 (O3.out 5 _ rfl) ne_sl
  have f4 := IsFs_set (a := ⟨w.heap.size + 1 + 1, 5, none⟩) (v := (.slice (some ⟨gw, 0, none⟩) B.wl B.wl)) F3.out NW.out.1
  generalize (w3.setCell ⟨w.heap.size + 1 + 1, 5, none⟩ (.slice (some ⟨gw, 0, none⟩) B.wl B.wl)) = W3 at *
  refine (laws_toVector _ _ _ _).mono ?_
  rintro e w4 ⟨rfl, hB4⟩
  have R4 := Lib.hid (r4.below hB4)
  have O4 := Lib.hid (o4.below hB4)
  have FR4 := Lib.hid (fr4.below hB4 r4.lt)
  have FO4 := Lib.hid (fo4.below hB4 o4.lt)
  have B4 := Lib.hid (b4.trans (hB4.mono b4.size))
  have V4 := Lib.hid (v4.below hB4)
  have S4 := Lib.hid (s4.below hB4)
  have T4 := Lib.hid (t4.below hB4)
  have F4 := Lib.hid (IsFs_below hB4 f4)
  clear r4 o4 fr4 fo4 b4 v4 s4 t4 f4 hB4
  have e0 := O4.out 0 _ rfl
  have e1 := O4.out 1 _ rfl
  have e2 := O4.out 2 _ rfl
  have e3 := O4.out 3 _ rfl
  have e4 := O4.out 4 _ rfl
  have e5 := O4.out 5 _ rfl
  have e6 := O4.out 6 _ rfl
  have e7 := O4.out 7 _ rfl
  have e8 := O4.out 8 _ rfl
  have g6 := FO4.out 6
  have g7 := FO4.out 7
  have g8 := FO4.out 8
  have q0 := R4.out 0 _ rfl
  have p0 := FR4.out 0
  have q1 := R4.out 1 _ rfl
  have p1 := FR4.out 1
  have q2 := R4.out 2 _ rfl
  have p2 := FR4.out 2
  have q3 := R4.out 3 _ rfl
  have p3 := FR4.out 3
  have q4 := R4.out 4 _ rfl
  have p4 := FR4.out 4
  have q5 := R4.out 5 _ rfl
  have p5 := FR4.out 5
  have q6 := R4.out 6 _ rfl
  have p6 := FR4.out 6
  have q7 := R4.out 7 _ rfl
  have p7 := FR4.out 7
  have q8 := R4.out 8 _ rfl
  have p8 := FR4.out 8
  have HR : RowKit.Hid (At _ (w.heap.size + 1) [.slice (some ⟨b, 0, none⟩) B.pl B.pl, .slice (some ⟨b', 0, none⟩) B.tl B.tl, .slice (some ⟨gs, 0, none⟩) B.sl B.sl, .float .f32 B.film, .float .f32 B.bend, .slice (some ⟨gw, 0, none⟩) B.wl B.wl, .float .f32 B.x, .float .f32 B.y, .float .f32 B.z]) := Lib.hid ((((((((((((R4.out.far (a := ⟨w.heap.size + 1 + 1, 6, none⟩) (u := .float .f32 B.x) (show w.heap.size + 1 + 1 ≠ w.heap.size + 1 by omega)).far (a := ⟨w.heap.size + 1 + 1, 7, none⟩) (u := .float .f32 B.y) (show w.heap.size + 1 + 1 ≠ w.heap.size + 1 by omega)).far (a := ⟨w.heap.size + 1 + 1, 8, none⟩) (u := .float .f32 B.z) (show w.heap.size + 1 + 1 ≠ w.heap.size + 1 by omega)).set 0 (.slice (some ⟨b, 0, none⟩) B.pl B.pl)).set 1 (.slice (some ⟨b', 0, none⟩) B.tl B.tl)).set 2 (.slice (some ⟨gs, 0, none⟩) B.sl B.sl)).set 3 (.float .f32 B.film)).set 4 (.float .f32 B.bend)).set 5 (.slice (some ⟨gw, 0, none⟩) B.wl B.wl)).set 6 (.float .f32 B.x)).set 7 (.float .f32 B.y)).set 8 (.float .f32 B.z))
  have HB := Lib.hid ((((((((((((B4.out.setCell (p := ⟨w.heap.size + 1 + 1, 6, none⟩) (show w.heap.size ≤ w.heap.size + 1 + 1 by omega) (.float .f32 B.x)).setCell (p := ⟨w.heap.size + 1 + 1, 7, none⟩) (show w.heap.size ≤ w.heap.size + 1 + 1 by omega) (.float .f32 B.y)).setCell (p := ⟨w.heap.size + 1 + 1, 8, none⟩) (show w.heap.size ≤ w.heap.size + 1 + 1 by omega) (.float .f32 B.z)).setCell (p := ⟨w.heap.size + 1, 0, none⟩) (show w.heap.size ≤ w.heap.size + 1 by omega) (.slice (some ⟨b, 0, none⟩) B.pl B.pl)).setCell (p := ⟨w.heap.size + 1, 1, none⟩) (show w.heap.size ≤ w.heap.size + 1 by omega) (.slice (some ⟨b', 0, none⟩) B.tl B.tl)).setCell (p := ⟨w.heap.size + 1, 2, none⟩) (show w.heap.size ≤ w.heap.size + 1 by omega) (.slice (some ⟨gs, 0, none⟩) B.sl B.sl)).setCell (p := ⟨w.heap.size + 1, 3, none⟩) (show w.heap.size ≤ w.heap.size + 1 by omega) (.float .f32 B.film)).setCell (p := ⟨w.heap.size + 1, 4, none⟩) (show w.heap.size ≤ w.heap.size + 1 by omega) (.float .f32 B.bend)).setCell (p := ⟨w.heap.size + 1, 5, none⟩) (show w.heap.size ≤ w.heap.size + 1 by omega) (.slice (some ⟨gw, 0, none⟩) B.wl B.wl)).setCell (p := ⟨w.heap.size + 1, 6, none⟩) (show w.heap.size ≤ w.heap.size + 1 by omega) (.float .f32 B.x)).setCell (p := ⟨w.heap.size + 1, 7, none⟩) (show w.heap.size ≤ w.heap.size + 1 by omega) (.float .f32 B.y)).setCell (p := ⟨w.heap.size + 1, 8, none⟩) (show w.heap.size ≤ w.heap.size + 1 by omega) (.float .f32 B.z))
  have HV := Lib.hid ((((((((((((V4.out.set (a := ⟨w.heap.size + 1 + 1, 6, none⟩) (v := .float .f32 B.x) NB.out.1).set (a := ⟨w.heap.size + 1 + 1, 7, none⟩) (v := .float .f32 B.y) NB.out.1).set (a := ⟨w.heap.size + 1 + 1, 8, none⟩) (v := .float .f32 B.z) NB.out.1).set (a := ⟨w.heap.size + 1, 0, none⟩) (v := .slice (some ⟨b, 0, none⟩) B.pl B.pl) NB.out.2.2.1).set (a := ⟨w.heap.size + 1, 1, none⟩) (v := .slice (some ⟨b', 0, none⟩) B.tl B.tl) NB.out.2.2.1).set (a := ⟨w.heap.size + 1, 2, none⟩) (v := .slice (some ⟨gs, 0, none⟩) B.sl B.sl) NB.out.2.2.1).set (a := ⟨w.heap.size + 1, 3, none⟩) (v := .float .f32 B.film) NB.out.2.2.1).set (a := ⟨w.heap.size + 1, 4, none⟩) (v := .float .f32 B.bend) NB.out.2.2.1).set (a := ⟨w.heap.size + 1, 5, none⟩) (v := .slice (some ⟨gw, 0, none⟩) B.wl B.wl) NB.out.2.2.1).set (a := ⟨w.heap.size + 1, 6, none⟩) (v := .float .f32 B.x) NB.out.2.2.1).set (a := ⟨w.heap.size + 1, 7, none⟩) (v := .float .f32 B.y) NB.out.2.2.1).set (a := ⟨w.heap.size + 1, 8, none⟩) (v := .float .f32 B.z) NB.out.2.2.1)
  have HSp := Lib.hid ((((((((((((S4.out.set (a := ⟨w.heap.size + 1 + 1, 6, none⟩) (v := .float .f32 B.x) NS.out.1).set (a := ⟨w.heap.size + 1 + 1, 7, none⟩) (v := .float .f32 B.y) NS.out.1).set (a := ⟨w.heap.size + 1 + 1, 8, none⟩) (v := .float .f32 B.z) NS.out.1).set (a := ⟨w.heap.size + 1, 0, none⟩) (v := .slice (some ⟨b, 0, none⟩) B.pl B.pl) NS.out.2).set (a := ⟨w.heap.size + 1, 1, none⟩) (v := .slice (some ⟨b', 0, none⟩) B.tl B.tl) NS.out.2).set (a := ⟨w.heap.size + 1, 2, none⟩) (v := .slice (some ⟨gs, 0, none⟩) B.sl B.sl) NS.out.2).set (a := ⟨w.heap.size + 1, 3, none⟩) (v := .float .f32 B.film) NS.out.2).set (a := ⟨w.heap.size + 1, 4, none⟩) (v := .float .f32 B.bend) NS.out.2).set (a := ⟨w.heap.size + 1, 5, none⟩) (v := .slice (some ⟨gw, 0, none⟩) B.wl B.wl) NS.out.2).set (a := ⟨w.heap.size + 1, 6, none⟩) (v := .float .f32 B.x) NS.out.2).set (a := ⟨w.heap.size + 1, 7, none⟩) (v := .float .f32 B.y) NS.out.2).set (a := ⟨w.heap.size + 1, 8, none⟩) (v := .float .f32 B.z) NS.out.2)
  have HF := Lib.hid (IsFs_set (a := ⟨w.heap.size + 1, 8, none⟩) (v := .float .f32 B.z) (IsFs_set (a := ⟨w.heap.size + 1, 7, none⟩) (v := .float .f32 B.y) (IsFs_set (a := ⟨w.heap.size + 1, 6, none⟩) (v := .float .f32 B.x) (IsFs_set (a := ⟨w.heap.size + 1, 5, none⟩) (v := .slice (some ⟨gw, 0, none⟩) B.wl B.wl) (IsFs_set (a := ⟨w.heap.size + 1, 4, none⟩) (v := .float .f32 B.bend) (IsFs_set (a := ⟨w.heap.size + 1, 3, none⟩) (v := .float .f32 B.film) (IsFs_set (a := ⟨w.heap.size + 1, 2, none⟩) (v := .slice (some ⟨gs, 0, none⟩) B.sl B.sl) (IsFs_set (a := ⟨w.heap.size + 1, 1, none⟩) (v := .slice (some ⟨b', 0, none⟩) B.tl B.tl) (IsFs_set (a := ⟨w.heap.size + 1, 0, none⟩) (v := .slice (some ⟨b, 0, none⟩) B.pl B.pl) (IsFs_set (a := ⟨w.heap.size + 1 + 1, 8, none⟩) (v := .float .f32 B.z) (IsFs_set (a := ⟨w.heap.size + 1 + 1, 7, none⟩) (v := .float .f32 B.y) (IsFs_set (a := ⟨w.heap.size + 1 + 1, 6, none⟩) (v := .float .f32 B.x) F4.out NW.out.1) NW.out.1) NW.out.1) NW.out.2) NW.out.2) NW.out.2) NW.out.2) NW.out.2) NW.out.2) NW.out.2) NW.out.2) NW.out.2)
  have HT := Lib.hid ((((((((((((T4.out.setN (a := ⟨w.heap.size + 1 + 1, 6, none⟩) (v := .float .f32 B.x) NB.out.2.1 (O4.out 6 _ rfl) ne_fl).setN (a := ⟨w.heap.size + 1 + 1, 7, none⟩) (v := .float .f32 B.y) NB.out.2.1 ((O4.out.set 6 (.float .f32 B.x)) 7 _ rfl) ne_fl).setN (a := ⟨w.heap.size + 1 + 1, 8, none⟩) (v := .float .f32 B.z) NB.out.2.1 (((O4.out.set 6 (.float .f32 B.x)).set 7 (.float .f32 B.y)) 8 _ rfl) ne_fl).setN (a := ⟨w.heap.size + 1, 0, none⟩) (v := .slice (some ⟨b, 0, none⟩) B.pl B.pl) NB.out.2.2.2 ((((R4.out.far (a := ⟨w.heap.size + 1 + 1, 6, none⟩) (u := .float .f32 B.x) (show w.heap.size + 1 + 1 ≠ w.heap.size + 1 by omega)).far (a := ⟨w.heap.size + 1 + 1, 7, none⟩) (u := .float .f32 B.y) (show w.heap.size + 1 + 1 ≠ w.heap.size + 1 by omega)).far (a := ⟨w.heap.size + 1 + 1, 8, none⟩) (u := .float .f32 B.z) (show w.heap.size + 1 + 1 ≠ w.heap.size + 1 by omega)) 0 _ rfl) ne_sl).setN (a := ⟨w.heap.size + 1, 1, none⟩) (v := .slice (some ⟨b', 0, none⟩) B.tl B.tl) NB.out.2.2.2 (((((R4.out.far (a := ⟨w.heap.size + 1 + 1, 6, none⟩) (u := .float .f32 B.x) (show w.heap.size + 1 + 1 ≠ w.heap.size + 1 by omega)).far (a := ⟨w.heap.size + 1 + 1, 7, none⟩) (u := .float .f32 B.y) (show w.heap.size + 1 + 1 ≠ w.heap.size + 1 by omega)).far (a := ⟨w.heap.size + 1 + 1, 8, none⟩) (u := .float .f32 B.z) (show w.heap.size + 1 + 1 ≠ w.heap.size + 1 by omega)).set 0 (.slice (some ⟨b, 0, none⟩) B.pl B.pl)) 1 _ rfl) ne_sl).setN (a := ⟨w.heap.size + 1, 2, none⟩) (v := .slice (some ⟨gs, 0, none⟩) B.sl B.sl) NB.out.2.2.2 ((((((R4.out.far (a := ⟨w.heap.size + 1 + 1, 6, none⟩) (u := .float .f32 B.x) (show w.heap.size + 1 + 1 ≠ w.heap.size + 1 by omega)).far (a := ⟨w.heap.size + 1 + 1, 7, none⟩) (u := .float .f32 B.y) (show w.heap.size + 1 + 1 ≠ w.heap.size + 1 by omega)).far (a := ⟨w.heap.size + 1 + 1, 8, none⟩) (u := .float .f32 B.z) (show w.heap.size + 1 + 1 ≠ w.heap.size + 1 by omega)).set 0 (.slice (some ⟨b, 0, none⟩) B.pl B.pl)).set 1 (.slice (some ⟨b', 0, none⟩) B.tl B.tl)) 2 _ rfl) ne_sl).setN (a := ⟨w.heap.size + 1, 3, none⟩) (v := .float .f32 B.film) NB.out.2.2.2 (((((((R4.out.far (a := ⟨w.heap.size + 1 + 1, 6, none⟩) (u := .float .f32 B.x) (show w.heap.size + 1 + 1 ≠ w.heap.size + 1 by omega)).far (a := ⟨w.heap.size + 1 + 1, 7, none⟩) (u := .float .f32 B.y) (show w.heap.size + 1 + 1 ≠ w.heap.size + 1 by omega)).far (a := ⟨w.heap.size + 1 + 1, 8, none⟩) (u := .float .f32 B.z) (show w.heap.size + 1 + 1 ≠ w.heap.size + 1 by omega)).set 0 (.slice (some ⟨b, 0, none⟩) B.pl B.pl)).set 1 (.slice (some ⟨b', 0, none⟩) B.tl B.tl)).set 2 (.slice (some ⟨gs, 0, none⟩) B.sl B.sl)) 3 _ rfl) ne_fl).setN (a := ⟨w.heap.size + 1, 4, none⟩) (v := .float .f32 B.bend) NB.out.2.2.2 ((((((((R4.out.far (a := ⟨w.heap.size + 1 + 1, 6, none⟩) (u := .float .f32 B.x) (show w.heap.size + 1 + 1 ≠ w.heap.size + 1 by omega)).far (a := ⟨w.heap.size + 1 + 1, 7, none⟩) (u := .float .f32 B.y) (show w.heap.size + 1 + 1 ≠ w.heap.size + 1 by omega)).far (a := ⟨w.heap.size + 1 + 1, 8, none⟩) (u := .float .f32 B.z) (show w.heap.size + 1 + 1 ≠ w.heap.size + 1 by omega)).set 0 (.slice (some ⟨b, 0, none⟩) B.pl B.pl)).set 1 (.slice (some ⟨b', 0, none⟩) B.tl B.tl)).set 2 (.slice (some ⟨gs, 0, none⟩) B.sl B.sl)).set 3 (.float .f32 B.film)) 4 _ rfl) ne_fl).setN (a := ⟨w.heap.size + 1, 5, none⟩) (v := .slice (some ⟨gw, 0, none⟩) B.wl B.wl) NB.out.2.2.2 (((((((((R4.out.far (a := ⟨w.heap.size + 1 + 1, 6, none⟩) (u := .float .f32 B.x) (show w.heap.size + 1 + 1 ≠ w.heap.size + 1 by omega)).far (a := ⟨w.heap.size + 1 + 1, 7, none⟩) (u := .float .f32 B.y) (show w.heap.size + 1 + 1 ≠ w.heap.size + 1 by omega)).far (a := ⟨w.heap.size + 1 + 1, 8, none⟩) (u := .float .f32 B.z) (show w.heap.size + 1 + 1 ≠ w.heap.size + 1 by omega)).set 0 (.slice (some ⟨b, 0, none⟩) B.pl B.pl)).set 1 (.slice (some ⟨b', 0, none⟩) B.tl B.tl)).set 2 (.slice (some ⟨gs, 0, none⟩) B.sl B.sl)).set 3 (.float .f32 B.film)).set 4 (.float .f32 B.bend)) 5 _ rfl) ne_sl).setN (a := ⟨w.heap.size + 1, 6, none⟩) (v := .float .f32 B.x) NB.out.2.2.2 ((((((((((R4.out.far (a := ⟨w.heap.size + 1 + 1, 6, none⟩) (u := .float .f32 B.x) (show w.heap.size + 1 + 1 ≠ w.heap.size + 1 by omega)).far (a := ⟨w.heap.size + 1 + 1, 7, none⟩) (u := .float .f32 B.y) (show w.heap.size + 1 + 1 ≠ w.heap.size + 1 by omega)).far (a := ⟨w.heap.size + 1 + 1, 8, none⟩) (u := .float .f32 B.z) (show w.heap.size + 1 + 1 ≠ w.heap.size + 1 by omega)).set 0 (.slice (some ⟨b, 0, none⟩) B.pl B.pl)).set 1 (.slice (some ⟨b', 0, none⟩) B.tl B.tl)).set 2 (.slice (some ⟨gs, 0, none⟩) B.sl B.sl)).set 3 (.float .f32 B.film)).set 4 (.float .f32 B.bend)).set 5 (.slice (some ⟨gw, 0, none⟩) B.wl B.wl)) 6 _ rfl) ne_fl).setN (a := ⟨w.heap.size + 1, 7, none⟩) (v := .float .f32 B.y) NB.out.2.2.2 (((((((((((R4.out.far (a := ⟨w.heap.size + 1 + 1, 6, none⟩) (u := .float .f32 B.x) (show w.heap.size + 1 + 1 ≠ w.heap.size + 1 by omega)).far (a := ⟨w.heap.size + 1 + 1, 7, none⟩) (u := .float .f32 B.y) (show w.heap.size + 1 + 1 ≠ w.heap.size + 1 by omega)).far (a := ⟨w.heap.size + 1 + 1, 8, none⟩) (u := .float .f32 B.z) (show w.heap.size + 1 + 1 ≠ w.heap.size + 1 by omega)).set 0 (.slice (some ⟨b, 0, none⟩) B.pl B.pl)).set 1 (.slice (some ⟨b', 0, none⟩) B.tl B.tl)).set 2 (.slice (some ⟨gs, 0, none⟩) B.sl B.sl)).set 3 (.float .f32 B.film)).set 4 (.float .f32 B.bend)).set 5 (.slice (some ⟨gw, 0, none⟩) B.wl B.wl)).set 6 (.float .f32 B.x)) 7 _ rfl) ne_fl).setN (a := ⟨w.heap.size + 1, 8, none⟩) (v := .float .f32 B.z) NB.out.2.2.2 ((((((((((((R4.out.far (a := ⟨w.heap.size + 1 + 1, 6, none⟩) (u := .float .f32 B.x) (show w.heap.size + 1 + 1 ≠ w.heap.size + 1 by omega)).far (a := ⟨w.heap.size + 1 + 1, 7, none⟩) (u := .float .f32 B.y) (show w.heap.size + 1 + 1 ≠ w.heap.size + 1 by omega)).far (a := ⟨w.heap.size + 1 + 1, 8, none⟩) (u := .float .f32 B.z) (show w.heap.size + 1 + 1 ≠ w.heap.size + 1 by omega)).set 0 (.slice (some ⟨b, 0, none⟩) B.pl B.pl)).set 1 (.slice (some ⟨b', 0, none⟩) B.tl B.tl)).set 2 (.slice (some ⟨gs, 0, none⟩) B.sl B.sl)).set 3 (.float .f32 B.film)).set 4 (.float .f32 B.bend)).set 5 (.slice (some ⟨gw, 0, none⟩) B.wl B.wl)).set 6 (.float .f32 B.x)).set 7 (.float .f32 B.y)) 8 _ rfl) ne_fl)
  go_wp2
  clear e0 e1 e2 e3 e4 e5 e6 e7 e8 g6 g7 g8 q0 q1 q2 q3 q4 q5 q6 q7 q8 p0 p1 p2 p3 p4 p5 p6 p7 p8
  have m0 := HR.out 0 _ rfl
  have m1 := HR.out 1 _ rfl
  have m2 := HR.out 2 _ rfl
  have m3 := HR.out 3 _ rfl
  have m4 := HR.out 4 _ rfl
  have m5 := HR.out 5 _ rfl
  have m6 := HR.out 6 _ rfl
  have m7 := HR.out 7 _ rfl
  have m8 := HR.out 8 _ rfl
  refine bodyPost_ret (v := (⟨some ⟨b, 0, none⟩, some ⟨b', 0, none⟩, some ⟨gs, 0, none⟩, some ⟨gw, 0, none⟩, B.pl, B.pl, B.tl, B.tl, B.sl, B.sl, B.wl, B.wl, B.film, B.bend, B.x, B.y, B.z⟩ : Bd).v) (by simp [results, Try.results17, go_sem, m0, m1, m2, m3, m4, m5, m6, m7, m8]) rfl ⟨_, rfl, ⟨HV.out, HT.out, HSp.out, HF.out, H.out.2.2.2.2⟩, HB.out⟩
end Go.Proofs.Ytockhhfehjoldab


/-
Inner and cross products: what the program returns. Conditions: none beyond that the words fit.
-/
namespace Go.Proofs.Ytockhhfehjoldab
open Go Fk Go.RowKit
set_option linter.unusedVariables false
set_option maxRecDepth 8000

def isF (c : Option Nat) (v : Value) : Prop := ∃ r, v = .float .f32 r ∧ FV .f32 r c

theorem impl_InnerOf (x y z x' y' z' : Nat) (w : World) (c d e c' d' e' : Option Nat) (h1 : FV .f32 x c) (h2 : FV .f32 y d) (h3 : FV .f32 z e) (h1' : FV .f32 x' c') (h2' : FV .f32 y' d') (h3' : FV .f32 z' e') :
    Calls Try.prog 106 #[vv x y z, vv x' y' z'] w fun en w' => ∃ a, en = .returned (.float .f32 a) ∧ FV .f32 a (fop .add .f32 (fop .add .f32 (fop .mul .f32 c c') (fop .mul .f32 d d')) (fop .mul .f32 e e')) ∧ Below w.heap.size w w' := by
  have u := Try.underlying32
  have uv := Try.underlying46
  go_enter Try.func106, Try.ntmps106
  go_wp2_with fail
  have k0 : (((w.alloc (.cells #[.float .f32 x, .float .f32 y, .float .f32 z] 46)).alloc (.cells #[.float .f32 x', .float .f32 y', .float .f32 z'] 46)).drewN 1).cell? ⟨w.heap.size, 0, none⟩ = some (.float .f32 x) := by simp
  have k1 : (((w.alloc (.cells #[.float .f32 x, .float .f32 y, .float .f32 z] 46)).alloc (.cells #[.float .f32 x', .float .f32 y', .float .f32 z'] 46)).drewN 1).cell? ⟨w.heap.size, 1, none⟩ = some (.float .f32 y) := by simp
  have k2 : (((w.alloc (.cells #[.float .f32 x, .float .f32 y, .float .f32 z] 46)).alloc (.cells #[.float .f32 x', .float .f32 y', .float .f32 z'] 46)).drewN 1).cell? ⟨w.heap.size, 2, none⟩ = some (.float .f32 z) := by simp
  have k3 : (((w.alloc (.cells #[.float .f32 x, .float .f32 y, .float .f32 z] 46)).alloc (.cells #[.float .f32 x', .float .f32 y', .float .f32 z'] 46)).drewN 1).cell? ⟨w.heap.size + 1, 0, none⟩ = some (.float .f32 x') := by simp
  have k4 : (((w.alloc (.cells #[.float .f32 x, .float .f32 y, .float .f32 z] 46)).alloc (.cells #[.float .f32 x', .float .f32 y', .float .f32 z'] 46)).drewN 1).cell? ⟨w.heap.size + 1, 1, none⟩ = some (.float .f32 y') := by simp
  have k5 : (((w.alloc (.cells #[.float .f32 x, .float .f32 y, .float .f32 z] 46)).alloc (.cells #[.float .f32 x', .float .f32 y', .float .f32 z'] 46)).drewN 1).cell? ⟨w.heap.size + 1, 2, none⟩ = some (.float .f32 z') := by simp
  refine Reg.wp_region_mix (C := fun w' => (w'.cell? ⟨w.heap.size, 0, none⟩ = some (.float .f32 x) ∧ w'.cell? ⟨w.heap.size, 1, none⟩ = some (.float .f32 y) ∧ w'.cell? ⟨w.heap.size, 2, none⟩ = some (.float .f32 z) ∧ w'.cell? ⟨w.heap.size + 1, 0, none⟩ = some (.float .f32 x') ∧ w'.cell? ⟨w.heap.size + 1, 1, none⟩ = some (.float .f32 y') ∧ w'.cell? ⟨w.heap.size + 1, 2, none⟩ = some (.float .f32 z')) ∧ Below w.heap.size w w') (G := fun _ _ => True) (R := fun i v _ => match i with | 0 => v = .pointer (some ⟨w.heap.size, 0, none⟩) | 1 => v = .float .f32 x | 2 => v = .pointer (some ⟨w.heap.size + 1, 0, none⟩) | 3 => v = .float .f32 x' | 4 => isF (fop .mul .f32 c c') v | 5 => v = .pointer (some ⟨w.heap.size, 1, none⟩) | 6 => v = .float .f32 y | 7 => v = .pointer (some ⟨w.heap.size + 1, 1, none⟩) | 8 => v = .float .f32 y' | 9 => isF (fop .mul .f32 d d') v | 10 => isF (fop .add .f32 (fop .mul .f32 c c') (fop .mul .f32 d d')) v | 11 => v = .pointer (some ⟨w.heap.size, 2, none⟩) | 12 => v = .float .f32 z | 13 => v = .pointer (some ⟨w.heap.size + 1, 2, none⟩) | 14 => v = .float .f32 z' | 15 => isF (fop .mul .f32 e e') v | 16 => isF (fop .add .f32 (fop .add .f32 (fop .mul .f32 c c') (fop .mul .f32 d d')) (fop .mul .f32 e e')) v | 17 => isF (fop .add .f32 (fop .add .f32 (fop .mul .f32 c c') (fop .mul .f32 d d')) (fop .mul .f32 e e')) v | _ => True) (T := fun _ a w' => True) [false, false, false, false, true, true, true, true, true, true, true, true, true, true, true, true, true, true, true, true, true, true]
    (by kernel_rfl) (by kernel_rfl) (by kernel_rfl) (fun _ _ _ _ _ _ h => h) ⟨⟨k0, k1, k2, k3, k4, k5⟩, below_drewN (((Below.refl _ _).alloc (Nat.le_refl _) _).alloc (by simp) _) 1⟩ ?_ ?_
  · refine ⟨Reg.Obl.mk ?_, Reg.Obl.mk ?_, Reg.Obl.mk ?_, Reg.Obl.mk ?_, Reg.Obl.mk ?_, Reg.Obl.mk ?_, Reg.Obl.mk ?_, Reg.Obl.mk ?_, Reg.Obl.mk ?_, Reg.Obl.mk ?_, Reg.Obl.mk ?_, Reg.Obl.mk ?_, Reg.Obl.mk ?_, Reg.Obl.mk ?_, Reg.Obl.mk ?_, Reg.Obl.mk ?_, Reg.Obl.mk ?_, Reg.Obl.mk ?_, trivial⟩
    · rintro a w1 ⟨hcs, hB⟩ hx hd K hK
      have hcs' := hcs
      obtain ⟨c0, c1, c2, c3, c4, c5⟩ := hcs'
      have t2 : a.tmps[2]?.getD undef = .pointer (some ⟨w.heap.size, 0, none⟩) := Reg.slot_val (hx 2 (by kernel_rfl))
      go_simp
      exact hK _ _ (fun _ => rfl) (fun h => by cases h) ⟨hcs, hB⟩ trivial
    · rintro a w1 ⟨hcs, hB⟩ hx hd K hK
      have hcs' := hcs
      obtain ⟨c0, c1, c2, c3, c4, c5⟩ := hcs'
      have t5 : a.tmps[5]?.getD undef = .pointer (some ⟨w.heap.size, 0, none⟩) := Reg.slot_val (hd 0 (by kernel_rfl) 5 rfl)
      go_simp
      exact hK _ _ (fun _ => rfl) (fun h => by cases h) ⟨hcs, hB⟩ trivial
    · rintro a w1 ⟨hcs, hB⟩ hx hd K hK
      have hcs' := hcs
      obtain ⟨c0, c1, c2, c3, c4, c5⟩ := hcs'
      have t3 : a.tmps[3]?.getD undef = .pointer (some ⟨w.heap.size + 1, 0, none⟩) := Reg.slot_val (hx 3 (by kernel_rfl))
      go_simp
      exact hK _ _ (fun _ => rfl) (fun h => by cases h) ⟨hcs, hB⟩ trivial
    · rintro a w1 ⟨hcs, hB⟩ hx hd K hK
      have hcs' := hcs
      obtain ⟨c0, c1, c2, c3, c4, c5⟩ := hcs'
      have t7 : a.tmps[7]?.getD undef = .pointer (some ⟨w.heap.size + 1, 0, none⟩) := Reg.slot_val (hd 2 (by kernel_rfl) 7 rfl)
      go_simp
      exact hK _ _ (fun _ => rfl) (fun h => by cases h) ⟨hcs, hB⟩ trivial
    · rintro a w1 ⟨hcs, hB⟩ hx hd K hK
      have hcs' := hcs
      obtain ⟨c0, c1, c2, c3, c4, c5⟩ := hcs'
      have t6 : a.tmps[6]?.getD undef = .float .f32 x := Reg.slot_val (hd 1 (by kernel_rfl) 6 rfl)
      have t8 : a.tmps[8]?.getD undef = .float .f32 x' := Reg.slot_val (hd 3 (by kernel_rfl) 8 rfl)
      go_simp
      refine (impl_product32 _ _ _ _ _ h1 h1').mono ?_
      rintro en w2 ⟨r, rfl, hr, n1, rfl⟩
      exact hK _ _ (fun _ => ⟨r, rfl, hr⟩) (fun h => by cases h) ⟨hcs, below_drewN hB _⟩ trivial
    · rintro a w1 ⟨hcs, hB⟩ hx hd K hK
      have hcs' := hcs
      obtain ⟨c0, c1, c2, c3, c4, c5⟩ := hcs'
      have t2 : a.tmps[2]?.getD undef = .pointer (some ⟨w.heap.size, 0, none⟩) := Reg.slot_val (hx 2 (by kernel_rfl))
      go_simp
      exact hK _ _ (fun _ => rfl) (fun h => by cases h) ⟨hcs, hB⟩ trivial
    · rintro a w1 ⟨hcs, hB⟩ hx hd K hK
      have hcs' := hcs
      obtain ⟨c0, c1, c2, c3, c4, c5⟩ := hcs'
      have t10 : a.tmps[10]?.getD undef = .pointer (some ⟨w.heap.size, 1, none⟩) := Reg.slot_val (hd 5 (by kernel_rfl) 10 rfl)
      go_simp
      exact hK _ _ (fun _ => rfl) (fun h => by cases h) ⟨hcs, hB⟩ trivial
    · rintro a w1 ⟨hcs, hB⟩ hx hd K hK
      have hcs' := hcs
      obtain ⟨c0, c1, c2, c3, c4, c5⟩ := hcs'
      have t3 : a.tmps[3]?.getD undef = .pointer (some ⟨w.heap.size + 1, 0, none⟩) := Reg.slot_val (hx 3 (by kernel_rfl))
      go_simp
      exact hK _ _ (fun _ => rfl) (fun h => by cases h) ⟨hcs, hB⟩ trivial
    · rintro a w1 ⟨hcs, hB⟩ hx hd K hK
      have hcs' := hcs
      obtain ⟨c0, c1, c2, c3, c4, c5⟩ := hcs'
      have t12 : a.tmps[12]?.getD undef = .pointer (some ⟨w.heap.size + 1, 1, none⟩) := Reg.slot_val (hd 7 (by kernel_rfl) 12 rfl)
      go_simp
      exact hK _ _ (fun _ => rfl) (fun h => by cases h) ⟨hcs, hB⟩ trivial
    · rintro a w1 ⟨hcs, hB⟩ hx hd K hK
      have hcs' := hcs
      obtain ⟨c0, c1, c2, c3, c4, c5⟩ := hcs'
      have t11 : a.tmps[11]?.getD undef = .float .f32 y := Reg.slot_val (hd 6 (by kernel_rfl) 11 rfl)
      have t13 : a.tmps[13]?.getD undef = .float .f32 y' := Reg.slot_val (hd 8 (by kernel_rfl) 13 rfl)
      go_simp
      refine (impl_product32 _ _ _ _ _ h2 h2').mono ?_
      rintro en w2 ⟨r, rfl, hr, n1, rfl⟩
      exact hK _ _ (fun _ => ⟨r, rfl, hr⟩) (fun h => by cases h) ⟨hcs, below_drewN hB _⟩ trivial
    · rintro a w1 ⟨hcs, hB⟩ hx hd K hK
      have hcs' := hcs
      obtain ⟨c0, c1, c2, c3, c4, c5⟩ := hcs'
      obtain ⟨r9, g9, f9⟩ := hd 4 (by kernel_rfl) 9 rfl
      have t9 := Reg.slot_val g9
      clear g9
      obtain ⟨r14, g14, f14⟩ := hd 9 (by kernel_rfl) 14 rfl
      have t14 := Reg.slot_val g14
      clear g14
      go_simp
      exact hK _ _ (fun _ => ⟨_, rfl, FV_fR f9 f14⟩) (fun h => by cases h) ⟨hcs, below_drewN hB _⟩ trivial
    · rintro a w1 ⟨hcs, hB⟩ hx hd K hK
      have hcs' := hcs
      obtain ⟨c0, c1, c2, c3, c4, c5⟩ := hcs'
      have t2 : a.tmps[2]?.getD undef = .pointer (some ⟨w.heap.size, 0, none⟩) := Reg.slot_val (hx 2 (by kernel_rfl))
      go_simp
      exact hK _ _ (fun _ => rfl) (fun h => by cases h) ⟨hcs, hB⟩ trivial
    · rintro a w1 ⟨hcs, hB⟩ hx hd K hK
      have hcs' := hcs
      obtain ⟨c0, c1, c2, c3, c4, c5⟩ := hcs'
      have t16 : a.tmps[16]?.getD undef = .pointer (some ⟨w.heap.size, 2, none⟩) := Reg.slot_val (hd 11 (by kernel_rfl) 16 rfl)
      go_simp
      exact hK _ _ (fun _ => rfl) (fun h => by cases h) ⟨hcs, hB⟩ trivial
    · rintro a w1 ⟨hcs, hB⟩ hx hd K hK
      have hcs' := hcs
      obtain ⟨c0, c1, c2, c3, c4, c5⟩ := hcs'
      have t3 : a.tmps[3]?.getD undef = .pointer (some ⟨w.heap.size + 1, 0, none⟩) := Reg.slot_val (hx 3 (by kernel_rfl))
      go_simp
      exact hK _ _ (fun _ => rfl) (fun h => by cases h) ⟨hcs, hB⟩ trivial
    · rintro a w1 ⟨hcs, hB⟩ hx hd K hK
      have hcs' := hcs
      obtain ⟨c0, c1, c2, c3, c4, c5⟩ := hcs'
      have t18 : a.tmps[18]?.getD undef = .pointer (some ⟨w.heap.size + 1, 2, none⟩) := Reg.slot_val (hd 13 (by kernel_rfl) 18 rfl)
      go_simp
      exact hK _ _ (fun _ => rfl) (fun h => by cases h) ⟨hcs, hB⟩ trivial
    · rintro a w1 ⟨hcs, hB⟩ hx hd K hK
      have hcs' := hcs
      obtain ⟨c0, c1, c2, c3, c4, c5⟩ := hcs'
      have t17 : a.tmps[17]?.getD undef = .float .f32 z := Reg.slot_val (hd 12 (by kernel_rfl) 17 rfl)
      have t19 : a.tmps[19]?.getD undef = .float .f32 z' := Reg.slot_val (hd 14 (by kernel_rfl) 19 rfl)
      go_simp
      refine (impl_product32 _ _ _ _ _ h3 h3').mono ?_
      rintro en w2 ⟨r, rfl, hr, n1, rfl⟩
      exact hK _ _ (fun _ => ⟨r, rfl, hr⟩) (fun h => by cases h) ⟨hcs, below_drewN hB _⟩ trivial
    · rintro a w1 ⟨hcs, hB⟩ hx hd K hK
      have hcs' := hcs
      obtain ⟨c0, c1, c2, c3, c4, c5⟩ := hcs'
      obtain ⟨r15, g15, f15⟩ := hd 10 (by kernel_rfl) 15 rfl
      have t15 := Reg.slot_val g15
      clear g15
      obtain ⟨r20, g20, f20⟩ := hd 15 (by kernel_rfl) 20 rfl
      have t20 := Reg.slot_val g20
      clear g20
      go_simp
      exact hK _ _ (fun _ => ⟨_, rfl, FV_fR f15 f20⟩) (fun h => by cases h) ⟨hcs, below_drewN hB _⟩ trivial
    · rintro a w1 ⟨hcs, hB⟩ hx hd K hK
      have hcs' := hcs
      obtain ⟨c0, c1, c2, c3, c4, c5⟩ := hcs'
      obtain ⟨r21, g21, f21⟩ := hd 16 (by kernel_rfl) 21 rfl
      have t21 := Reg.slot_val g21
      clear g21
      go_simp
      exact hK _ _ (fun _ => ⟨_, rfl, f21⟩) (fun h => by cases h) ⟨hcs, hB⟩ trivial
  · rintro f w1 ⟨hcs, hB⟩ hd hT
    obtain ⟨r, g, fr⟩ := hd 17 4 rfl
    simp only [Reg.mixL, g]
    go_wp2
    go_ret
    exact ⟨r, rfl, fr, hB⟩
end Go.Proofs.Ytockhhfehjoldab

/-
Texts in one: what StiffTimes stands on, part 16. Conditions: those of each.
-/
import Derived.Test.YtabccmobmppdnaaGreatKStiffTimes15
import Derived.Maps.GroupsBeside
import Derived.WalkKit
-- halved
namespace Go.Proofs.YtabccmobmppdnaaGreat
namespace Reg8
open Go Reg
set_option linter.unusedVariables false
section
variable {P : Program} {ops : Array Oper} {Q : Exit → Act → World → Prop}
def lowb (ops : Array Oper) : Bool := (List.range ops.size).all fun i => ((ops[i]?).map fun o => o.after.all fun e => !Region.binds .any e || decide (e.on < i)).getD true
theorem lowb_spec {ops : Array Oper} (h : lowb ops = true) {i : Nat} {o : Oper} (ho : ops[i]? = some o) : ∀ e ∈ o.after, Region.binds .any e = true → e.on < i := by
 have hlt : i < ops.size := (Array.getElem?_eq_some_iff.1 ho).1
 unfold lowb at h
 rw [List.all_eq_true] at h
 have := h i (List.mem_range.2 hlt)
 rw [ho] at this
 simp only [Option.map_some, Option.getD_some, Array.all_eq_true_iff_forall_mem] at this
 intro e he hb
 have := this e he
 rw [hb] at this
 simpa using this
theorem all_of_none (hlow : lowb ops = true) {listed : Array Bool} (hs : listed.size = ops.size) (hr : Region.ready .any ops listed = []) : ∀ i, i < ops.size → listed.getD i false = true := by
 intro i
 induction i using Nat.strongRecOn with
 | _ i ih =>
  intro hi
  cases hl : listed.getD i false
  ·exfalso
   obtain ⟨o, ho⟩ : ∃ o, ops[i]? = some o := ⟨_, Array.getElem?_eq_getElem hi⟩
   have hm : i ∈ Region.ready .any ops listed := by
    refine mem_ready.2 ⟨?_, o, ho, fun e he hb => ih e.on (lowb_spec hlow ho e he hb) (Nat.lt_trans (lowb_spec hlow ho e he hb) hi)⟩
    have hlt : i < listed.size := by omega
    simp [hlt] at hl ⊢; exact hl
   rw [hr] at hm; cases hm
  ·rfl
theorem wpAny_inv (hlow : lowb ops = true) {Inv : Array Bool → Act → World → Prop}
  (hstep : ∀ i listed a w, listed.size = ops.size → i ∈ Region.ready .any ops listed → Inv listed a w → wpOp P ops Q i (Inv (listed.setIfInBounds i true)) a w)
  (hend : ∀ listed a w, (∀ i, i < ops.size → listed.getD i false = true) → Inv listed a w → Q .normal a w) :
  ∀ (fuel : Nat) (listed : Array Bool) (a : Act) (w : World), listed.size = ops.size → listed.toList.count false ≤ fuel → Inv listed a w → wpAny P .any ops Q fuel listed a w
 | 0, listed, a, w, hs, hf, hI => by
  have hall : ∀ i, i < ops.size → listed.getD i false = true := by
   intro i hi
   have := cnt_zero listed.toList (by omega) i (by simp; omega)
   have hlt : i < listed.size := by omega
   simp [hlt] at this ⊢; exact this
  refine ⟨?_, hend _ _ _ hall hI⟩
  cases hr : Region.ready .any ops listed with
  | nil => rfl
  | cons j l =>
   have hj : j ∈ Region.ready .any ops listed := by rw [hr]; exact List.mem_cons_self
   obtain ⟨h1, o, ho, _⟩ := mem_ready.1 hj
   have hlt : j < ops.size := (Array.getElem?_eq_some_iff.1 ho).1
   have h2 := hall j hlt
   have hlt' : j < listed.size := by omega
   simp [hlt'] at h1 h2
   rw [h1] at h2; cases h2
 | fuel + 1, listed, a, w, hs, hf, hI => by
  refine ⟨fun hr => hend _ _ _ (all_of_none hlow hs hr) hI, fun i hi => ?_⟩
  refine wpOp_mono (fun a' w' h => wpAny_inv hlow hstep hend fuel _ a' w' (by simpa using hs) ?_ h) (hstep i listed a w hs hi hI)
  obtain ⟨h1, o, ho, _⟩ := mem_ready.1 hi
  have hlt : i < listed.size := by have := (Array.getElem?_eq_some_iff.1 ho).1; omega
  have hg : listed.toList[i]? = some false := by simp [hlt] at h1 ⊢; exact h1
  have := cnt_set listed.toList i hg
  rw [Array.toList_setIfInBounds]
  omega
def reach (ops : Array Oper) : Nat → Nat → Nat → Bool
 | 0, _, _ => false
 | f + 1, i, m => behind ops i m || (List.range ops.size).any fun j => behind ops i j && reach ops f j m
theorem reach_listed {ops : Array Oper} {listed : Array Bool} (hcl : ∀ i j, listed.getD j false = true → behind ops i j = true → listed.getD i false = true) {m : Nat} (hm : listed.getD m false = true) : ∀ f i, reach ops f i m = true → listed.getD i false = true
 | 0, i, h => by cases h
 | f + 1, i, h => by
  unfold reach at h
  rw [Bool.or_eq_true, List.any_eq_true] at h
  rcases h with h | ⟨j, _, h⟩
  ·exact hcl i m hm h
  ·rw [Bool.and_eq_true] at h
   exact hcl i j (reach_listed hcl hm f j h.2) h.1
def tidy (ops : Array Oper) (m z n : Nat) : Bool :=
 lowb ops && (ops.all fun o => o.guard.isNone) && (ops.all fun o => (o.dst.map fun d => decide (d < n)).getD true) &&
 ((List.range ops.size).all fun i => (List.range ops.size).all fun j => i == j || slotOf ops i == none || slotOf ops i != slotOf ops j) &&
 ((List.range ops.size).all fun i => (slotOf ops i).isSome || i == z) && decide (z < ops.size) && (slotOf ops z).isNone &&
 ((List.range ops.size).all fun i => i == z || behind ops i z) && decide (m < ops.size) && (m != z) && (slotOf ops m).isSome
def Obl (P : Program) (ops : Array Oper) (m z : Nat) (a0 : Act) (C : World → Prop) (D : Value → World → Prop) (T : World → Prop) (G : World → World → Prop) (Rv : Nat → Value → Prop) (Rw : Nat → Value → World → Prop) (Q : Exit → Act → World → Prop) (i : Nat) (o : Oper) : Prop :=
 if i = z then
  ∀ a w u, (∀ d, slotOf ops m = some d → a.eval (.tmp d) = u) → D u w → (∀ t, ((List.range ops.size).all fun j => slotOf ops j != some t || behind ops i j) = true → a.eval (.tmp t) = a0.eval (.tmp t)) →
   (∀ j d, slotOf ops j = some d → Rv j (a.eval (.tmp d))) →
   o.wp P a w (fun a' w' => a' = a ∧ T w') Q
 else if i = m then
  ∀ a w, C w → (∀ t, ((List.range ops.size).all fun j => slotOf ops j != some t || behind ops i j) = true → a.eval (.tmp t) = a0.eval (.tmp t)) →
   (∀ j d, behind ops j i = true → slotOf ops j = some d → Rv j (a.eval (.tmp d)) ∧ Rw j (a.eval (.tmp d)) w) →
   o.wp P a w (fun a' w' => ∃ v, a' = a.put o.dst v ∧ Rv i v ∧ D v w') Q
 else
  (∀ a w, C w → (∀ t, ((List.range ops.size).all fun j => slotOf ops j != some t || behind ops i j) = true → a.eval (.tmp t) = a0.eval (.tmp t)) →
   (∀ j d, behind ops j i = true → slotOf ops j = some d → Rv j (a.eval (.tmp d)) ∧ Rw j (a.eval (.tmp d)) w) →
   o.wp P a w (fun a' w' => ∃ v, a' = a.put o.dst v ∧ Rv i v ∧ Rw i v w' ∧ C w' ∧ G w w') Q) ∧
  (reach ops 5 i m = false → ∀ a w u, D u w → (∀ t, ((List.range ops.size).all fun j => slotOf ops j != some t || behind ops i j) = true → a.eval (.tmp t) = a0.eval (.tmp t)) →
   (∀ j d, behind ops j i = true → slotOf ops j = some d → Rv j (a.eval (.tmp d))) →
   o.wp P a w (fun a' w' => ∃ v, a' = a.put o.dst v ∧ Rv i v ∧ D u w') Q)
def OblAll (P : Program) (ops : Array Oper) (m z : Nat) (a0 : Act) (C : World → Prop) (D : Value → World → Prop) (T : World → Prop) (G : World → World → Prop) (Rv : Nat → Value → Prop) (Rw : Nat → Value → World → Prop) (Q : Exit → Act → World → Prop) : Nat → List Oper → Prop
 | _, [] => True
 | i, o :: l => Obl P ops m z a0 C D T G Rv Rw Q i o ∧ OblAll P ops m z a0 C D T G Rv Rw Q (i + 1) l
variable {m z : Nat} {a0 : Act} {C : World → Prop} {D : Value → World → Prop} {T : World → Prop} {G : World → World → Prop} {Rv : Nat → Value → Prop} {Rw : Nat → Value → World → Prop}
theorem OblAll.get :
  ∀ {l : List Oper} {k : Nat}, OblAll P ops m z a0 C D T G Rv Rw Q k l → ∀ {i : Nat} {o : Oper}, l[i]? = some o → Obl P ops m z a0 C D T G Rv Rw Q (k + i) o
 | [], _, _, _, _, h => by simp at h
 | _ :: _, _, h, 0, _, ho => by simp at ho; subst ho; exact h.1
 | _ :: l, k, h, i + 1, _, ho => by
  have := OblAll.get h.2 (i := i) (by simpa using ho)
  rwa [Nat.add_assoc, Nat.add_comm 1 i] at this
section
variable {i : Nat} {o : Oper}
theorem Obl.early (h1 : (i == z) = false) (h2 : (i == m) = false) (h3 : reach ops 5 i m = true)
  (h : ∀ a w, C w → (∀ t, ((List.range ops.size).all fun j => slotOf ops j != some t || behind ops i j) = true → a.eval (.tmp t) = a0.eval (.tmp t)) →
   (∀ j d, behind ops j i = true → slotOf ops j = some d → Rv j (a.eval (.tmp d)) ∧ Rw j (a.eval (.tmp d)) w) →
   ∀ K : Act → World → Prop, (∀ v w', Rv i v → Rw i v w' → C w' → G w w' → K (a.put o.dst v) w') → o.wp P a w K Q) : Obl P ops m z a0 C D T G Rv Rw Q i o := by
 unfold Obl
 rw [if_neg (by simpa using h1), if_neg (by simpa using h2)]
 exact ⟨fun a w hC he hd => h a w hC he hd _ fun v w' k1 k2 k3 k4 => ⟨v, rfl, k1, k2, k3, k4⟩, fun h' => by rw [h3] at h'; cases h'⟩
theorem Obl.any (h1 : (i == z) = false) (h2 : (i == m) = false)
  (h : ∀ a w, C w → (∀ t, ((List.range ops.size).all fun j => slotOf ops j != some t || behind ops i j) = true → a.eval (.tmp t) = a0.eval (.tmp t)) →
   (∀ j d, behind ops j i = true → slotOf ops j = some d → Rv j (a.eval (.tmp d))) →
   ∀ K : Act → World → Prop, (∀ v w', Rv i v → Rw i v w' → C w' → G w w' → K (a.put o.dst v) w') → o.wp P a w K Q)
  (h' : ∀ a w u, D u w → (∀ t, ((List.range ops.size).all fun j => slotOf ops j != some t || behind ops i j) = true → a.eval (.tmp t) = a0.eval (.tmp t)) →
   (∀ j d, behind ops j i = true → slotOf ops j = some d → Rv j (a.eval (.tmp d))) →
   ∀ K : Act → World → Prop, (∀ v w', Rv i v → D u w' → K (a.put o.dst v) w') → o.wp P a w K Q) : Obl P ops m z a0 C D T G Rv Rw Q i o := by
 unfold Obl
 rw [if_neg (by simpa using h1), if_neg (by simpa using h2)]
 exact ⟨fun a w hC he hd => h a w hC he (fun j d h1 h2 => (hd j d h1 h2).1) _ fun v w' k1 k2 k3 k4 => ⟨v, rfl, k1, k2, k3, k4⟩, fun _ a w u hD he hd => h' a w u hD he hd _ fun v w' k1 k2 => ⟨v, rfl, k1, k2⟩⟩
theorem Obl.turn (h1 : (i == z) = false) (h2 : (i == m) = true)
  (h : ∀ a w, C w → (∀ t, ((List.range ops.size).all fun j => slotOf ops j != some t || behind ops i j) = true → a.eval (.tmp t) = a0.eval (.tmp t)) →
   (∀ j d, behind ops j i = true → slotOf ops j = some d → Rv j (a.eval (.tmp d)) ∧ Rw j (a.eval (.tmp d)) w) →
   ∀ K : Act → World → Prop, (∀ v w', Rv i v → D v w' → K (a.put o.dst v) w') → o.wp P a w K Q) : Obl P ops m z a0 C D T G Rv Rw Q i o := by
 unfold Obl
 rw [if_neg (by simpa using h1), if_pos (by simpa using h2)]
 exact fun a w hC he hd => h a w hC he hd _ fun v w' k1 k2 => ⟨v, rfl, k1, k2⟩
theorem Obl.store (h1 : (i == z) = true)
  (h : ∀ a w u, (∀ d, slotOf ops m = some d → a.eval (.tmp d) = u) → D u w → (∀ t, ((List.range ops.size).all fun j => slotOf ops j != some t || behind ops i j) = true → a.eval (.tmp t) = a0.eval (.tmp t)) →
   (∀ j d, slotOf ops j = some d → Rv j (a.eval (.tmp d))) →
   ∀ K : Act → World → Prop, (∀ w', T w' → K a w') → o.wp P a w K Q) : Obl P ops m z a0 C D T G Rv Rw Q i o := by
 unfold Obl
 rw [if_pos (by simpa using h1)]
 exact fun a w u hu hD he hd => h a w u hu hD he hd _ fun w' k1 => ⟨rfl, k1⟩
end
theorem wp_region_inv {id : Nat} {w0 : World} (hm : P.follows .mixedOrders = true) (ht : tidy ops m z a0.tmps.size = true)
  (hG : ∀ j v w w', C w → G w w' → Rw j v w → Rw j v w') (hC : C { w0 with drawn := w0.drawn + 1 })
  (hO : OblAll P ops m z a0 C D T G Rv Rw Q 0 ops.toList)
  (hQ : ∀ a w, T w → a.defers = a0.defers → a.tmps.size = a0.tmps.size → (∀ t, (ops.all fun o => o.dst != some t) = true → a.eval (.tmp t) = a0.eval (.tmp t)) → (∀ j d, slotOf ops j = some d → Rv j (a.eval (.tmp d))) → Q .normal a w) :
  (Code.region id ops true).wp P Q a0 w0 := by
 unfold tidy at ht
 simp only [Bool.and_eq_true] at ht
 obtain ⟨⟨⟨⟨⟨⟨⟨⟨⟨⟨hlow, hgd⟩, hbd⟩, hdis⟩, hone⟩, hzlt⟩, hzn⟩, hlast⟩, hmlt⟩, hmz⟩, hms⟩ := ht
 have hzlt := of_decide_eq_true hzlt
 have hmlt := of_decide_eq_true hmlt
 have hmz : m ≠ z := by simpa using hmz
 have slot_lt : ∀ {j d}, slotOf ops j = some d → j < ops.size := fun {j d} h => by
  unfold slotOf at h
  cases ho : ops[j]? with
  | none => rw [ho] at h; cases h
  | some o => exact (Array.getElem?_eq_some_iff.1 ho).1
 have slot_bd : ∀ {j d}, slotOf ops j = some d → d < a0.tmps.size := fun {j d} h => by
  have hj := slot_lt h
  have := Array.all_eq_true.1 hbd j hj
  unfold slotOf at h
  rw [Array.getElem?_eq_getElem hj] at h
  simp only [Option.bind_some] at h
  rw [h] at this
  simpa using this
 have slot_ne : ∀ {i j d}, slotOf ops i = some d → slotOf ops j = some d → i = j := fun {i j d} h1 h2 => by
  have a1 := slot_lt h1
  have a2 := slot_lt h2
  have := List.all_eq_true.1 (List.all_eq_true.1 hdis i (List.mem_range.2 a1)) j (List.mem_range.2 a2)
  rw [h1, h2] at this
  simpa using this
 let Inv : Array Bool → Act → World → Prop := fun listed a w =>
  (listed.getD z false = false → listed.getD m false = false → C w ∧ ∀ j d, listed.getD j false = true → slotOf ops j = some d → Rw j (a.eval (.tmp d)) w) ∧
  (listed.getD z false = false → listed.getD m false = true → ∃ u, (∀ d, slotOf ops m = some d → a.eval (.tmp d) = u) ∧ D u w) ∧
  (listed.getD z false = true → T w) ∧ a.defers = a0.defers ∧ a.tmps.size = a0.tmps.size ∧
  (∀ t, (∀ j, slotOf ops j = some t → listed.getD j false = false) → a.eval (.tmp t) = a0.eval (.tmp t)) ∧
  (∀ j d, listed.getD j false = true → slotOf ops j = some d → Rv j (a.eval (.tmp d))) ∧ (∀ i j, listed.getD j false = true → behind ops i j = true → listed.getD i false = true)
 refine wp_region_any hm (wpAny_inv (Inv := Inv) hlow ?_ ?_ _ _ _ _ (by simp) (by simp) ⟨fun _ _ => ⟨hC, fun j d hj => ?_⟩, fun _ h => ?_, fun h => ?_, rfl, rfl, fun _ _ => rfl, ?_, ?_⟩)
 ·intro i listed a w hs hi ⟨hpre, hpost, hend, hd, hsz, hext, hrv, hcl⟩
  obtain ⟨hun, o, ho, hdeps⟩ := mem_ready.1 hi
  have hilt : i < ops.size := (Array.getElem?_eq_some_iff.1 ho).1
  have hli : i < listed.size := by omega
  have hun' : listed.getD i false = false := by simp [hli] at hun ⊢; exact hun
  have hg : o.guard = none := by
   have := Array.all_eq_true.1 hgd i hilt
   rw [Array.getElem?_eq_getElem hilt] at ho
   cases ho
   simpa using this
  have hob := OblAll.get hO (i := i) (o := o) (by simpa using ho)
  rw [Nat.zero_add] at hob
  have he : ∀ t, ((List.range ops.size).all fun j => slotOf ops j != some t || behind ops i j) = true → a.eval (.tmp t) = a0.eval (.tmp t) := fun t htt => hext t fun j hj => by
   have := List.all_eq_true.1 htt j (List.mem_range.2 (slot_lt hj))
   rw [hj] at this
   simp at this
   cases hl : listed.getD j false
   ·rfl
   ·have := hcl i j hl this; rw [hun'] at this; cases this
  have lstd : ∀ j, behind ops j i = true → listed.getD j false = true := fun j hj => by
   obtain ⟨e, he, h1, h2⟩ := behind_spec hj ho
   rw [← h1]
   exact hdeps e he h2
  have hdst : slotOf ops i = o.dst := by unfold slotOf; rw [ho]; rfl
  have keep : ∀ v t, o.dst ≠ some t → (a.put o.dst v).eval (.tmp t) = a.eval (.tmp t) := fun v t h => Act.eval_put (fun d hd he => h (by rw [hd]; cases he; rfl))
  have lst : ∀ j, (listed.setIfInBounds i true).getD j false = true → j = i ∨ listed.getD j false = true := fun j h => by
   by_cases hji : i = j
   ·exact .inl hji.symm
   ·rw [getD_set_ne false hji] at h; exact .inr h
  have same : ∀ j, j ≠ i → (listed.setIfInBounds i true).getD j false = listed.getD j false := fun j h => getD_set_ne false (fun e => h e.symm)
  have hcl' : ∀ i' j, (listed.setIfInBounds i true).getD j false = true → behind ops i' j = true → (listed.setIfInBounds i true).getD i' false = true := fun i' j hj hb => by
   rcases lst j hj with rfl | hj'
   ·exact getD_set_true (lstd i' hb)
   ·exact getD_set_true (hcl i' j hj' hb)
  have newv : ∀ v d, slotOf ops i = some d → (a.put o.dst v).eval (.tmp d) = v := fun v d hjd => by
   rw [hdst] at hjd
   have hb := slot_bd (j := i) (by rw [hdst]; exact hjd)
   unfold Act.put Act.eval; rw [hjd]; simp; exact fun h => absurd (Nat.lt_of_lt_of_le hb (hsz ▸ h)) (Nat.lt_irrefl _)
  have oldv : ∀ v j d, listed.getD j false = true → slotOf ops j = some d → (a.put o.dst v).eval (.tmp d) = a.eval (.tmp d) := fun v j d hj' hjd => keep v d (fun h => by
   have := slot_ne (show slotOf ops i = some d by rw [hdst]; exact h) hjd
   subst this; rw [hun'] at hj'; cases hj')
  have hext' : ∀ v t, (∀ j, slotOf ops j = some t → (listed.setIfInBounds i true).getD j false = false) → (a.put o.dst v).eval (.tmp t) = a0.eval (.tmp t) := fun v t htt => by
   rw [keep v t (fun h => by
    have := htt i (by rw [hdst]; exact h)
    simp [hli] at this)]
   refine hext t fun j hj => ?_
   have := htt j hj
   cases hl : listed.getD j false
   ·rfl
   ·rw [getD_set_true hl] at this; cases this
  have hd' : ∀ v, (a.put o.dst v).defers = a0.defers := fun v => by rw [← hd]; unfold Act.put; split <;> rfl
  have hsz' : ∀ v, (a.put o.dst v).tmps.size = a0.tmps.size := fun v => by rw [← hsz]; unfold Act.put; split <;> simp
  have hself : (listed.setIfInBounds i true).getD i false = true := by simp [hli]
  have hz0 : i ≠ z → listed.getD z false = false := fun hiz => by
   cases hl : listed.getD z false
   ·rfl
   ·have hb := List.all_eq_true.1 hlast i (List.mem_range.2 hilt)
    have hb' : behind ops i z = true := by simpa [hiz] using hb
    have := hcl i z hl hb'; rw [hun'] at this; cases this
  unfold wpOp
  rw [ho]
  simp only [Region.wanted, hg, if_true]
  by_cases hiz : i = z
  ·subst hiz
   unfold Obl at hob
   rw [if_pos rfl] at hob
   have hall : ∀ j, j < ops.size → j ≠ i → listed.getD j false = true := fun j hj hne => lstd j (by
    have hb := List.all_eq_true.1 hlast j (List.mem_range.2 hj)
    simpa [hne] using hb)
   obtain ⟨u, hu, hDu⟩ := hpost hun' (hall m hmlt hmz)
   have hn : o.dst = none := by rw [← hdst]; simpa using hzn
   refine .inl (Oper.wp_mono ?_ (hob a w u hu hDu he fun j d hjd => hrv j d (hall j (slot_lt hjd) (fun e => by subst e; rw [hdst, hn] at hjd; cases hjd)) hjd))
   rintro a' w' ⟨rfl, hT⟩
   refine ⟨fun h => ?_, fun h => ?_, fun _ => hT, hd, hsz, ?_, fun j d hj hjd => ?_, hcl'⟩
   ·rw [hself] at h; cases h
   ·rw [hself] at h; cases h
   ·have := hext' undef
    rw [hn] at this
    exact this
   ·rcases lst j hj with rfl | hj'
    ·rw [hdst, hn] at hjd; cases hjd
    ·exact hrv j d hj' hjd
  ·have hzz := same z (fun e => hiz e.symm)
   have hz0 := hz0 hiz
   by_cases him : i = m
   ·subst him
    unfold Obl at hob
    rw [if_neg hiz, if_pos rfl] at hob
    obtain ⟨hCw, hrw⟩ := hpre hz0 hun'
    refine .inl (Oper.wp_mono ?_ (hob a w hCw he fun j d hj hjd => ⟨hrv j d (lstd j hj) hjd, hrw j d (lstd j hj) hjd⟩))
    rintro a' w' ⟨v, rfl, k1, k2⟩
    refine ⟨fun _ h => ?_, fun _ _ => ⟨v, fun d hjd => newv v d hjd, k2⟩, fun h => ?_, hd' v, hsz' v, hext' v, fun j d hj hjd => ?_, hcl'⟩
    ·rw [hself] at h; cases h
    ·rw [hzz, hz0] at h; cases h
    ·rcases lst j hj with rfl | hj'
     ·rw [newv v d hjd]; exact k1
     ·rw [oldv v j d hj' hjd]; exact hrv j d hj' hjd
   ·have hmm := same m (fun e => him e.symm)
    unfold Obl at hob
    rw [if_neg hiz, if_neg him] at hob
    cases hl : listed.getD m false
    ·obtain ⟨hCw, hrw⟩ := hpre hz0 hl
     refine .inl (Oper.wp_mono ?_ (hob.1 a w hCw he fun j d hj hjd => ⟨hrv j d (lstd j hj) hjd, hrw j d (lstd j hj) hjd⟩))
     rintro a' w' ⟨v, rfl, k1, k2, k3, k4⟩
     refine ⟨fun _ _ => ⟨k3, fun j d hj hjd => ?_⟩, fun _ h => ?_, fun h => ?_, hd' v, hsz' v, hext' v, fun j d hj hjd => ?_, hcl'⟩
     ·rcases lst j hj with rfl | hj'
      ·rw [newv v d hjd]; exact k2
      ·rw [oldv v j d hj' hjd]; exact hG _ _ _ _ hCw k4 (hrw j d hj' hjd)
     ·rw [hmm, hl] at h; cases h
     ·rw [hzz, hz0] at h; cases h
     ·rcases lst j hj with rfl | hj'
      ·rw [newv v d hjd]; exact k1
      ·rw [oldv v j d hj' hjd]; exact hrv j d hj' hjd
    ·obtain ⟨u, hu, hDu⟩ := hpost hz0 hl
     have hbm : reach ops 5 i m = false := by
      cases hb : reach ops 5 i m
      ·rfl
      ·have := reach_listed hcl hl 5 i hb; rw [hun'] at this; cases this
     refine .inl (Oper.wp_mono ?_ (hob.2 hbm a w u hDu he fun j d hj hjd => hrv j d (lstd j hj) hjd))
     rintro a' w' ⟨v, rfl, k1, k2⟩
     refine ⟨fun _ h => ?_, fun _ _ => ⟨u, fun d hjd => by rw [oldv v m d hl hjd]; exact hu d hjd, k2⟩, fun h => ?_, hd' v, hsz' v, hext' v, fun j d hj hjd => ?_, hcl'⟩
     ·rw [hmm, hl] at h; cases h
     ·rw [hzz, hz0] at h; cases h
     ·rcases lst j hj with rfl | hj'
      ·rw [newv v d hjd]; exact k1
      ·rw [oldv v j d hj' hjd]; exact hrv j d hj' hjd
 ·intro listed a w hall ⟨_, _, hend, hd, hsz, hext, hrv, _⟩
  refine hQ a w (hend (hall z hzlt)) hd hsz (fun t htt => hext t fun j hj => ?_) (fun j d hj => hrv j d (hall j (slot_lt hj)) hj)
  exfalso
  have hlt := slot_lt hj
  have := Array.all_eq_true.1 htt j hlt
  unfold slotOf at hj
  rw [Array.getElem?_eq_getElem hlt] at hj
  simp only [Option.bind_some] at hj
  rw [hj] at this
  simp at this
 ·simp at hj
  rw [Array.getElem?_replicate] at hj; split at hj <;> simp at hj
 ·simp at h
  rw [Array.getElem?_replicate] at h; split at h <;> simp at h
 ·simp at h
  rw [Array.getElem?_replicate] at h; split at h <;> simp at h
 ·intro j d hj
  simp at hj
  rw [Array.getElem?_replicate] at hj; split at hj <;> simp at hj
 ·intro i j hj
  simp at hj
  rw [Array.getElem?_replicate] at hj; split at hj <;> simp at hj
theorem wp_region_mix {id : Nat} {w0 : World} (mk : List Bool) (hm : P.follows .mixedOrders = true) (ht : tidy ops m z a0.tmps.size = true)
  (hk : maskOk ops mk a0.tmps.size = true)
  (hG : ∀ j v w w', C w → G w w' → Rw j v w → Rw j v w') (hC : C { w0 with drawn := w0.drawn + 1 })
  (hO : OblAll P ops m z a0 C D T G Rv Rw Q 0 ops.toList)
  (hQ : ∀ (f : Nat → Value) w, T w → (∀ j d, slotOf ops j = some d → Rv j (f d)) → Q .normal ⟨(mixL f mk 0 a0.tmps.toList).toArray, a0.defers⟩ w) :
  (Code.region id ops true).wp P Q a0 w0 := by
 refine wp_region_inv hm ht hG hC hO fun a w hD hd hsz hext hrv => ?_
 unfold maskOk at hk
 simp only [Bool.and_eq_true, beq_iff_eq] at hk
 obtain ⟨hml, hmk⟩ := hk
 have e : a = ⟨(mixL (fun t => a.eval (.tmp t)) mk 0 a0.tmps.toList).toArray, a0.defers⟩ := by
  rw [mixL_eq _ _ _ _ (by simpa using hml) ?_]
  ·cases a with
   | mk tmps defers =>
    simp only [Act.mk.injEq]
    refine ⟨?_, hd⟩
    apply Array.ext'
    apply List.ext_getElem?
    intro i
    simp only at hsz
    by_cases hi : i < tmps.size
    ·have hi' : i < a0.tmps.size := by omega
     simp [hi, hi', Act.eval]
    ·have hi' : ¬ i < a0.tmps.size := by omega
     simp [hi, hi']
  ·intro i hi
   have hlt : i < a0.tmps.size := by
    have := (List.getElem?_eq_some_iff.1 hi).1; omega
   have h1 := List.all_eq_true.1 hmk i (List.mem_range.2 hlt)
   have h2 : mk.getD i false = false := by simp [List.getD, hi]
   rw [h2, Bool.false_or] at h1
   have h3 := hext i h1
   rw [Nat.zero_add, h3]
   simp [Act.eval, hlt]
 have hQ' := hQ (fun t => a.eval (.tmp t)) w
 rw [← e] at hQ'
 exact hQ' hD fun j d hj => hrv j d hj
end
end Reg8
end Go.Proofs.YtabccmobmppdnaaGreat
namespace Go.Proofs.YtabccmobmppdnaaGreat
open Go Fk Go.RowKit Go.Maps
set_option linter.unusedVariables false
set_option maxRecDepth 16000
theorem grown_of_below {w w' : World} (hb : Below w.heap.size w w') (row : Option Nat) : w.grownBy w' row := ⟨hb.os, hb.tape, hb.output, hb.size, fun k hk _ => hb.block k hk⟩
theorem groups_below {W V : World} {P : Program} {k : TypeId} {base : Nat} {e : TypeId} {q : IntKind} {b n : Nat} {D : DataW Unit} (h : W.ownsGroups P k base e q b n D) (hB : Below W.heap.size W V) : V.ownsGroups P k base e q b n D :=
 h.kept (grown_of_below hB none) (by simp) (fun es clock hb x hx => by
  cases hv : x.val.ownBlock
  ·exact .inl rfl
  ·exact .inr (by simp))
def Lk (B n : Nat) (D : DataW Unit) (e : Int × Int) (zs : List Int) (v : Value) (w : World) : Prop :=
 w.ownsInts (B + 1) 2 .i64 v zs ∧ zs.length ≤ n ∧ w.groupBack Tryz.prog 229 234 (B + 1) 2 .i64 B n D (.agg #[.int .i64 e.1, .int .i64 e.2]) (kE e) v
theorem ints_below {W V : World} {base : Nat} {e : TypeId} {q : IntKind} {v : Value} {zs : List Int} (h : W.ownsInts base e q v zs) (hB : Below W.heap.size W V) : V.ownsInts base e q v zs :=
 h.kept (grown_of_below hB none) (by cases hv : v.ownBlock; exact .inl rfl; exact .inr (by simp))
theorem grown_trans {a b c : World} {row : Option Nat} (h : Below a.heap.size a b) (k : b.grownBy c row) : a.grownBy c row := (grown_of_below h row).trans k
theorem Lk.below {B n : Nat} {D : DataW Unit} {e : Int × Int} {zs : List Int} {v : Value} {W V : World} (h : Lk B n D e zs v W) (hB : Below W.heap.size W V) : Lk B n D e zs v V :=
 ⟨ints_below h.1 hB, h.2.1, fun w1 v' zs' hg ho hl hloc => h.2.2 w1 v' zs' (grown_trans hB hg) ho hl (hloc.imp id fun ⟨g, e1, e2⟩ => ⟨g, e1, Nat.le_trans hB.size e2⟩)⟩
def Ap (w0 : World) (B n : Nat) (D : DataW Unit) (e : Int × Int) (zs : List Int) (k : Int) (u : Value) (w : World) : Prop :=
 ∃ v wl, Lk B n D e zs v wl ∧ Below w0.heap.size w0 wl ∧ wl.grownBy w v.ownBlock ∧ w.ownsInts (B + 1) 2 .i64 u (zs ++ [k]) ∧ (u.ownBlock = v.ownBlock ∨ ∃ g, u.ownBlock = some g ∧ wl.heap.size ≤ g)
theorem grown_below' {a b c : World} {row : Option Nat} (h : a.grownBy b row) (k : Below b.heap.size b c) : a.grownBy c row := h.trans (grown_of_below k row)
theorem Ap.below {w0 : World} {B n : Nat} {D : DataW Unit} {e : Int × Int} {zs : List Int} {k : Int} {u : Value} {w w' : World} (h : Ap w0 B n D e zs k u w) (hB : Below w.heap.size w w') : Ap w0 B n D e zs k u w' := by
 obtain ⟨v, wl, h1, h2, h3, h4, h5⟩ := h
 exact ⟨v, wl, h1, h2, grown_below' h3 hB, ints_below h4 hB, h5⟩
theorem Ap.row {w0 : World} {B n : Nat} {D : DataW Unit} {e : Int × Int} {zs : List Int} {k : Int} {u : Value} {w : World} {b1 : Nat} {e1 : TypeId} {s1 n1 : Nat} {v1 : Value} {x1 : List Value} (h : Ap w0 B n D e zs k u w) (hr : w0.ownsRow b1 e1 s1 v1 n1 x1) (he : e1 ≠ 2) : w.ownsRow b1 e1 s1 v1 n1 x1 := by
 obtain ⟨v, wl, h1, h2, h3, _, _⟩ := h
 exact owns_side (owns_up hr h2) h1.1.1 he h3
theorem wp_append_own_at {P : Program} {o : Oper} {a : Act} {K : Act → World → Prop} {Q : Exit → Act → World → Prop} (w : World) (s x : Operand) (t : TypeId)
  (ho : o.op = .call { callee := .builtin .append, args := #[s, x], argTypes := #[t, t] })
  (base : Nat) (e : TypeId) (i : TypeInfo) (z : Value) (size bytes : Nat) (ht : P.underlying t = some (.slice e)) (hi : P.info? e = some i) (hz : i.zero = some z)
  (hsize : i.size = size) (hby : i.bytes = bytes) (hzs : z.cells.size = size) (hsz : 0 < size)
  (v : Value) (n : Nat) (xs : List Value) (hs : a.eval s = v) (hown : w.ownsRow base e size v n xs)
  (ad : Addr) (m c : Nat) (news : List Value) (hx : a.eval x = .slice (some ad) m c) (hl : news.length = m * size) (hnews : ∀ j u, news[j]? = some u → w.cell? (ad.add j) = some u) (h1 : ∀ u ∈ news, u.oneCell' = true)
  (h63 : n + m ≤ maxLen) (hbytes : (n + m) * bytes ≤ 140737488355328) (hbase : base ≤ w.heap.size)
  (h : ∀ v' w', w'.ownsRow base e size v' (n + m) (xs ++ news) → w.grownBy w' v.ownBlock → (v'.ownBlock = v.ownBlock ∨ v'.ownBlock = some w.heap.size) → K (a.put o.dst v') w') : o.wp P a w K Q := by
 obtain ⟨v', w', hr, h2, h3, _, h5⟩ := run_append_own_at (P := P) w base t o.type e i z size bytes ht hi hz hsize hby hzs hsz v n xs hown ad m c news hl hnews h1 h63 hbytes hbase
 unfold Oper.wp execOp
 simp only [ho, resolve, invoke, builtin, Sem.run_bind, Sem.run_pure, Result.andThen_ok, List.map_toArray, List.map_cons, List.map_nil, hs, hx, hr]
 exact h v' w' h2 h3 h5
theorem impl_edgeOf (x y : Int) (w : World) : Calls Tryz.prog 205 #[.int .i64 x, .int .i64 y] w fun e w' => e = .returned (.agg #[.int .i64 (min x y), .int .i64 (max x y)]) ∧ Below w.heap.size w w' := by
 have ue := Tryz.underlying234
 have ui := Tryz.underlying2
 go_enter Tryz.func205, Tryz.ntmps205
 go_wp2
 all_goals
  refine bodyPost_ret (v := .agg #[.int .i64 (min x y), .int .i64 (max x y)]) (by first | (simp [results, Tryz.results205, go_sem]; done) | (simp [results, Tryz.results205, go_sem]; omega)) rfl ?_
  exact ⟨rfl, (Below.refl _ _).alloc (Nat.le_refl _) _⟩
theorem side_edge (x y : Int) (w : World) : Calls Tryz.prog 197 #[.agg #[.int .i64 x, .int .i64 y]] w fun e w' => e = .returned (.agg #[.int .i64 (min x y), .int .i64 (max x y)]) ∧ Below w.heap.size w w' := by
 have ue := Tryz.underlying234
 have us := Tryz.underlying241
 have ui := Tryz.underlying2
 have T0 : Hid (Tc w w.heap.size (w.heap.size + 1) [.int .i64 x, .int .i64 y] [.int .i64 0, .int .i64 0] ((w.alloc (.cells #[.int .i64 x, .int .i64 y] 241)).alloc (.cells #[.int .i64 0, .int .i64 0] 234))) := Lib.hid
  ⟨At.new.alloc, by
   have := At.new (w := w.alloc (.cells #[.int .i64 x, .int .i64 y] 241)) (vs := [.int .i64 0, .int .i64 0]) (t := 234)
   simpa using this, fun i => by go_simp, fun i => by go_simp, ((Below.refl _ _).alloc (Nat.le_refl _) _).alloc (by simp) _, ⟨Nat.le_refl _, by omega, by omega⟩, by simp <;> omega⟩
 go_enter Tryz.func197, Tryz.ntmps197
 go_wp2_with fail
 generalize ((w.alloc (.cells #[.int .i64 x, .int .i64 y] 241)).alloc (.cells #[.int .i64 0, .int .i64 0] 234)) = W at *
 refine (impl_edgeOf x y W).mono ?_
 rintro e w1 ⟨rfl, hB1⟩
 have T1 := Lib.hid (T0.out.call hB1)
 have q0 := T1.out.res 0 _ rfl
 have q1 := T1.out.res 1 _ rfl
 have p0 := T1.out.fr 0
 have p1 := T1.out.fr 1
 obtain ⟨hR, hBB⟩ := T1.out.fin (vs' := [.int .i64 (min x y), .int .i64 (max x y)]) rfl
 simp only [setL, Nat.zero_add, Nat.reduceAdd] at hR hBB
 have HR := Lib.hid hR
 have HBB := Lib.hid hBB
 clear hR hBB hB1
 go_wp2
 clear q0 q1 p0 p1
 have m0 := HR.out 0 _ rfl
 have m1 := HR.out 1 _ rfl
 refine bodyPost_ret (v := .agg #[.int .i64 (min x y), .int .i64 (max x y)]) (by simp [results, Tryz.results197, go_sem, m0, m1]) rfl ?_
 exact ⟨rfl, HBB.out⟩
end Go.Proofs.YtabccmobmppdnaaGreat
namespace Go.Proofs.YtabccmobmppdnaaGreat
open Go Fk Go.RowKit Go.Maps
set_option linter.unusedVariables false
set_option maxRecDepth 16000
end Go.Proofs.YtabccmobmppdnaaGreat
namespace Go.Proofs.YtabccmobmppdnaaGreat
open Go Fk Go.RowKit
set_option linter.unusedVariables false
set_option maxRecDepth 8000
end Go.Proofs.YtabccmobmppdnaaGreat
namespace Go.Proofs.YtabccmobmppdnaaGreat
open Go Fk Go.RowKit
set_option linter.unusedVariables false
set_option maxRecDepth 8000
def EdgesAt (w : World) (a : Option Addr) (n : Nat) (es : List (Int × Int)) : Prop := ∀ k, k < n → ∃ g, a = some ⟨g, 0, none⟩ ∧ w.cell? ⟨g, k * 2, none⟩ = some (.int .i64 (es.getD k (0, 0)).1) ∧ w.cell? ⟨g, k * 2 + 1, none⟩ = some (.int .i64 (es.getD k (0, 0)).2)
theorem EdgesAt.below {w w' : World} {a : Option Addr} {n : Nat} {es : List (Int × Int)} (h : EdgesAt w a n es) (hB : Below w.heap.size w w') : EdgesAt w' a n es := fun k hk => by
 obtain ⟨g, e, h1, h2⟩ := h k hk
 exact ⟨g, e, cell_below hB h1, cell_below hB h2⟩
end Go.Proofs.YtabccmobmppdnaaGreat

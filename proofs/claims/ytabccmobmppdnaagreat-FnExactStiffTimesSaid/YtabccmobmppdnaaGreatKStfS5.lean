/-
Texts in one: what StfS stands on, part 5. Conditions: those of each.
-/
import Derived.Test.YtabccmobmppdnaaGreatKStfS4
import Derived.Maps.GroupsBeside
import Derived.WalkKit
import Derived.Lib.SliceRun
import Derived.Lib.SmallJoins
import Derived.ChangeSlices
import Derived.Handy
import Derived.Lib.AppendZeros
-- halved
namespace Go.Proofs.YtabccmobmppdnaaGreat
namespace Reg8
open Go Reg
set_option linter.unusedVariables false
section
variable {P : Program} {ops : Array Oper} {Q : Exit → Act → World → Prop}
def lowb (ops : Array Oper) : Bool := (List.range ops.size).all fun i => ((ops[i]?).map fun o => o.after.all fun e => !Region.binds .any e || decide (e.on < i)).getD true
theorem lowb_spec {ops : Array Oper} (h : lowb ops = true) {i : Nat} {o : Oper} (ho : ops[i]? = some o) : ∀ e ∈ o.after, Region.binds .any e = true → e.on < i := by
 have hlt : i < ops.size := (Array.getElem?_eq_some_iff.1 ho).1
 unfold lowb at h
 rw [List.all_eq_true] at h
 have := h i (List.mem_range.2 hlt)
 rw [ho] at this
 simp only [Option.map_some, Option.getD_some, Array.all_eq_true_iff_forall_mem] at this
 intro e he hb
 have := this e he
 rw [hb] at this
 simpa using this
theorem all_of_none (hlow : lowb ops = true) {listed : Array Bool} (hs : listed.size = ops.size) (hr : Region.ready .any ops listed = []) : ∀ i, i < ops.size → listed.getD i false = true := by
 intro i
 induction i using Nat.strongRecOn with
 | _ i ih =>
  intro hi
  cases hl : listed.getD i false
  ·exfalso
   obtain ⟨o, ho⟩ : ∃ o, ops[i]? = some o := ⟨_, Array.getElem?_eq_getElem hi⟩
   have hm : i ∈ Region.ready .any ops listed := by
    refine mem_ready.2 ⟨?_, o, ho, fun e he hb => ih e.on (lowb_spec hlow ho e he hb) (Nat.lt_trans (lowb_spec hlow ho e he hb) hi)⟩
    have hlt : i < listed.size := by omega
    simp [hlt] at hl ⊢; exact hl
   rw [hr] at hm; cases hm
  ·rfl
theorem wpAny_inv (hlow : lowb ops = true) {Inv : Array Bool → Act → World → Prop}
  (hstep : ∀ i listed a w, listed.size = ops.size → i ∈ Region.ready .any ops listed → Inv listed a w → wpOp P ops Q i (Inv (listed.setIfInBounds i true)) a w)
  (hend : ∀ listed a w, (∀ i, i < ops.size → listed.getD i false = true) → Inv listed a w → Q .normal a w) :
  ∀ (fuel : Nat) (listed : Array Bool) (a : Act) (w : World), listed.size = ops.size → listed.toList.count false ≤ fuel → Inv listed a w → wpAny P .any ops Q fuel listed a w
 | 0, listed, a, w, hs, hf, hI => by
  have hall : ∀ i, i < ops.size → listed.getD i false = true := by
   intro i hi
   have := cnt_zero listed.toList (by omega) i (by simp; omega)
   have hlt : i < listed.size := by omega
   simp [hlt] at this ⊢; exact this
  refine ⟨?_, hend _ _ _ hall hI⟩
  cases hr : Region.ready .any ops listed with
  | nil => rfl
  | cons j l =>
   have hj : j ∈ Region.ready .any ops listed := by rw [hr]; exact List.mem_cons_self
   obtain ⟨h1, o, ho, _⟩ := mem_ready.1 hj
   have hlt : j < ops.size := (Array.getElem?_eq_some_iff.1 ho).1
   have h2 := hall j hlt
   have hlt' : j < listed.size := by omega
   simp [hlt'] at h1 h2
   rw [h1] at h2; cases h2
 | fuel + 1, listed, a, w, hs, hf, hI => by
  refine ⟨fun hr => hend _ _ _ (all_of_none hlow hs hr) hI, fun i hi => ?_⟩
  refine wpOp_mono (fun a' w' h => wpAny_inv hlow hstep hend fuel _ a' w' (by simpa using hs) ?_ h) (hstep i listed a w hs hi hI)
  obtain ⟨h1, o, ho, _⟩ := mem_ready.1 hi
  have hlt : i < listed.size := by have := (Array.getElem?_eq_some_iff.1 ho).1; omega
  have hg : listed.toList[i]? = some false := by simp [hlt] at h1 ⊢; exact h1
  have := cnt_set listed.toList i hg
  rw [Array.toList_setIfInBounds]
  omega
def reach (ops : Array Oper) : Nat → Nat → Nat → Bool
 | 0, _, _ => false
 | f + 1, i, m => behind ops i m || (List.range ops.size).any fun j => behind ops i j && reach ops f j m
theorem reach_listed {ops : Array Oper} {listed : Array Bool} (hcl : ∀ i j, listed.getD j false = true → behind ops i j = true → listed.getD i false = true) {m : Nat} (hm : listed.getD m false = true) : ∀ f i, reach ops f i m = true → listed.getD i false = true
 | 0, i, h => by cases h
 | f + 1, i, h => by
  unfold reach at h
  rw [Bool.or_eq_true, List.any_eq_true] at h
  rcases h with h | ⟨j, _, h⟩
  ·exact hcl i m hm h
  ·rw [Bool.and_eq_true] at h
   exact hcl i j (reach_listed hcl hm f j h.2) h.1
def tidy (ops : Array Oper) (m z n : Nat) : Bool :=
 lowb ops && (ops.all fun o => o.guard.isNone) && (ops.all fun o => (o.dst.map fun d => decide (d < n)).getD true) &&
 ((List.range ops.size).all fun i => (List.range ops.size).all fun j => i == j || slotOf ops i == none || slotOf ops i != slotOf ops j) &&
 ((List.range ops.size).all fun i => (slotOf ops i).isSome || i == z) && decide (z < ops.size) && (slotOf ops z).isNone &&
 ((List.range ops.size).all fun i => i == z || behind ops i z) && decide (m < ops.size) && (m != z) && (slotOf ops m).isSome
def Obl (P : Program) (ops : Array Oper) (m z : Nat) (a0 : Act) (C : World → Prop) (D : Value → World → Prop) (T : World → Prop) (G : World → World → Prop) (Rv : Nat → Value → Prop) (Rw : Nat → Value → World → Prop) (Q : Exit → Act → World → Prop) (i : Nat) (o : Oper) : Prop :=
 if i = z then
  ∀ a w u, (∀ d, slotOf ops m = some d → a.eval (.tmp d) = u) → D u w → (∀ t, ((List.range ops.size).all fun j => slotOf ops j != some t || behind ops i j) = true → a.eval (.tmp t) = a0.eval (.tmp t)) →
   (∀ j d, slotOf ops j = some d → Rv j (a.eval (.tmp d))) →
   o.wp P a w (fun a' w' => a' = a ∧ T w') Q
 else if i = m then
  ∀ a w, C w → (∀ t, ((List.range ops.size).all fun j => slotOf ops j != some t || behind ops i j) = true → a.eval (.tmp t) = a0.eval (.tmp t)) →
   (∀ j d, behind ops j i = true → slotOf ops j = some d → Rv j (a.eval (.tmp d)) ∧ Rw j (a.eval (.tmp d)) w) →
   o.wp P a w (fun a' w' => ∃ v, a' = a.put o.dst v ∧ Rv i v ∧ D v w') Q
 else
  (∀ a w, C w → (∀ t, ((List.range ops.size).all fun j => slotOf ops j != some t || behind ops i j) = true → a.eval (.tmp t) = a0.eval (.tmp t)) →
   (∀ j d, behind ops j i = true → slotOf ops j = some d → Rv j (a.eval (.tmp d)) ∧ Rw j (a.eval (.tmp d)) w) →
   o.wp P a w (fun a' w' => ∃ v, a' = a.put o.dst v ∧ Rv i v ∧ Rw i v w' ∧ C w' ∧ G w w') Q) ∧
  (reach ops 5 i m = false → ∀ a w u, D u w → (∀ t, ((List.range ops.size).all fun j => slotOf ops j != some t || behind ops i j) = true → a.eval (.tmp t) = a0.eval (.tmp t)) →
   (∀ j d, behind ops j i = true → slotOf ops j = some d → Rv j (a.eval (.tmp d))) →
   o.wp P a w (fun a' w' => ∃ v, a' = a.put o.dst v ∧ Rv i v ∧ D u w') Q)
def OblAll (P : Program) (ops : Array Oper) (m z : Nat) (a0 : Act) (C : World → Prop) (D : Value → World → Prop) (T : World → Prop) (G : World → World → Prop) (Rv : Nat → Value → Prop) (Rw : Nat → Value → World → Prop) (Q : Exit → Act → World → Prop) : Nat → List Oper → Prop
 | _, [] => True
 | i, o :: l => Obl P ops m z a0 C D T G Rv Rw Q i o ∧ OblAll P ops m z a0 C D T G Rv Rw Q (i + 1) l
variable {m z : Nat} {a0 : Act} {C : World → Prop} {D : Value → World → Prop} {T : World → Prop} {G : World → World → Prop} {Rv : Nat → Value → Prop} {Rw : Nat → Value → World → Prop}
theorem OblAll.get :
  ∀ {l : List Oper} {k : Nat}, OblAll P ops m z a0 C D T G Rv Rw Q k l → ∀ {i : Nat} {o : Oper}, l[i]? = some o → Obl P ops m z a0 C D T G Rv Rw Q (k + i) o
 | [], _, _, _, _, h => by simp at h
 | _ :: _, _, h, 0, _, ho => by simp at ho; subst ho; exact h.1
 | _ :: l, k, h, i + 1, _, ho => by
  have := OblAll.get h.2 (i := i) (by simpa using ho)
  rwa [Nat.add_assoc, Nat.add_comm 1 i] at this
section
variable {i : Nat} {o : Oper}
theorem Obl.early (h1 : (i == z) = false) (h2 : (i == m) = false) (h3 : reach ops 5 i m = true)
  (h : ∀ a w, C w → (∀ t, ((List.range ops.size).all fun j => slotOf ops j != some t || behind ops i j) = true → a.eval (.tmp t) = a0.eval (.tmp t)) →
   (∀ j d, behind ops j i = true → slotOf ops j = some d → Rv j (a.eval (.tmp d)) ∧ Rw j (a.eval (.tmp d)) w) →
   ∀ K : Act → World → Prop, (∀ v w', Rv i v → Rw i v w' → C w' → G w w' → K (a.put o.dst v) w') → o.wp P a w K Q) : Obl P ops m z a0 C D T G Rv Rw Q i o := by
 unfold Obl
 rw [if_neg (by simpa using h1), if_neg (by simpa using h2)]
 exact ⟨fun a w hC he hd => h a w hC he hd _ fun v w' k1 k2 k3 k4 => ⟨v, rfl, k1, k2, k3, k4⟩, fun h' => by rw [h3] at h'; cases h'⟩
theorem Obl.any (h1 : (i == z) = false) (h2 : (i == m) = false)
  (h : ∀ a w, C w → (∀ t, ((List.range ops.size).all fun j => slotOf ops j != some t || behind ops i j) = true → a.eval (.tmp t) = a0.eval (.tmp t)) →
   (∀ j d, behind ops j i = true → slotOf ops j = some d → Rv j (a.eval (.tmp d))) →
   ∀ K : Act → World → Prop, (∀ v w', Rv i v → Rw i v w' → C w' → G w w' → K (a.put o.dst v) w') → o.wp P a w K Q)
  (h' : ∀ a w u, D u w → (∀ t, ((List.range ops.size).all fun j => slotOf ops j != some t || behind ops i j) = true → a.eval (.tmp t) = a0.eval (.tmp t)) →
   (∀ j d, behind ops j i = true → slotOf ops j = some d → Rv j (a.eval (.tmp d))) →
   ∀ K : Act → World → Prop, (∀ v w', Rv i v → D u w' → K (a.put o.dst v) w') → o.wp P a w K Q) : Obl P ops m z a0 C D T G Rv Rw Q i o := by
 unfold Obl
 rw [if_neg (by simpa using h1), if_neg (by simpa using h2)]
 exact ⟨fun a w hC he hd => h a w hC he (fun j d h1 h2 => (hd j d h1 h2).1) _ fun v w' k1 k2 k3 k4 => ⟨v, rfl, k1, k2, k3, k4⟩, fun _ a w u hD he hd => h' a w u hD he hd _ fun v w' k1 k2 => ⟨v, rfl, k1, k2⟩⟩
theorem Obl.turn (h1 : (i == z) = false) (h2 : (i == m) = true)
  (h : ∀ a w, C w → (∀ t, ((List.range ops.size).all fun j => slotOf ops j != some t || behind ops i j) = true → a.eval (.tmp t) = a0.eval (.tmp t)) →
   (∀ j d, behind ops j i = true → slotOf ops j = some d → Rv j (a.eval (.tmp d)) ∧ Rw j (a.eval (.tmp d)) w) →
   ∀ K : Act → World → Prop, (∀ v w', Rv i v → D v w' → K (a.put o.dst v) w') → o.wp P a w K Q) : Obl P ops m z a0 C D T G Rv Rw Q i o := by
 unfold Obl
 rw [if_neg (by simpa using h1), if_pos (by simpa using h2)]
 exact fun a w hC he hd => h a w hC he hd _ fun v w' k1 k2 => ⟨v, rfl, k1, k2⟩
theorem Obl.store (h1 : (i == z) = true)
  (h : ∀ a w u, (∀ d, slotOf ops m = some d → a.eval (.tmp d) = u) → D u w → (∀ t, ((List.range ops.size).all fun j => slotOf ops j != some t || behind ops i j) = true → a.eval (.tmp t) = a0.eval (.tmp t)) →
   (∀ j d, slotOf ops j = some d → Rv j (a.eval (.tmp d))) →
   ∀ K : Act → World → Prop, (∀ w', T w' → K a w') → o.wp P a w K Q) : Obl P ops m z a0 C D T G Rv Rw Q i o := by
 unfold Obl
 rw [if_pos (by simpa using h1)]
 exact fun a w u hu hD he hd => h a w u hu hD he hd _ fun w' k1 => ⟨rfl, k1⟩
end
theorem wp_region_inv {id : Nat} {w0 : World} (hm : P.follows .mixedOrders = true) (ht : tidy ops m z a0.tmps.size = true)
  (hG : ∀ j v w w', C w → G w w' → Rw j v w → Rw j v w') (hC : C { w0 with drawn := w0.drawn + 1 })
  (hO : OblAll P ops m z a0 C D T G Rv Rw Q 0 ops.toList)
  (hQ : ∀ a w, T w → a.defers = a0.defers → a.tmps.size = a0.tmps.size → (∀ t, (ops.all fun o => o.dst != some t) = true → a.eval (.tmp t) = a0.eval (.tmp t)) → (∀ j d, slotOf ops j = some d → Rv j (a.eval (.tmp d))) → Q .normal a w) :
  (Code.region id ops true).wp P Q a0 w0 := by
 unfold tidy at ht
 simp only [Bool.and_eq_true] at ht
 obtain ⟨⟨⟨⟨⟨⟨⟨⟨⟨⟨hlow, hgd⟩, hbd⟩, hdis⟩, hone⟩, hzlt⟩, hzn⟩, hlast⟩, hmlt⟩, hmz⟩, hms⟩ := ht
 have hzlt := of_decide_eq_true hzlt
 have hmlt := of_decide_eq_true hmlt
 have hmz : m ≠ z := by simpa using hmz
 have slot_lt : ∀ {j d}, slotOf ops j = some d → j < ops.size := fun {j d} h => by
  unfold slotOf at h
  cases ho : ops[j]? with
  | none => rw [ho] at h; cases h
  | some o => exact (Array.getElem?_eq_some_iff.1 ho).1
 have slot_bd : ∀ {j d}, slotOf ops j = some d → d < a0.tmps.size := fun {j d} h => by
  have hj := slot_lt h
  have := Array.all_eq_true.1 hbd j hj
  unfold slotOf at h
  rw [Array.getElem?_eq_getElem hj] at h
  simp only [Option.bind_some] at h
  rw [h] at this
  simpa using this
 have slot_ne : ∀ {i j d}, slotOf ops i = some d → slotOf ops j = some d → i = j := fun {i j d} h1 h2 => by
  have a1 := slot_lt h1
  have a2 := slot_lt h2
  have := List.all_eq_true.1 (List.all_eq_true.1 hdis i (List.mem_range.2 a1)) j (List.mem_range.2 a2)
  rw [h1, h2] at this
  simpa using this
 let Inv : Array Bool → Act → World → Prop := fun listed a w =>
  (listed.getD z false = false → listed.getD m false = false → C w ∧ ∀ j d, listed.getD j false = true → slotOf ops j = some d → Rw j (a.eval (.tmp d)) w) ∧
  (listed.getD z false = false → listed.getD m false = true → ∃ u, (∀ d, slotOf ops m = some d → a.eval (.tmp d) = u) ∧ D u w) ∧
  (listed.getD z false = true → T w) ∧ a.defers = a0.defers ∧ a.tmps.size = a0.tmps.size ∧
  (∀ t, (∀ j, slotOf ops j = some t → listed.getD j false = false) → a.eval (.tmp t) = a0.eval (.tmp t)) ∧
  (∀ j d, listed.getD j false = true → slotOf ops j = some d → Rv j (a.eval (.tmp d))) ∧ (∀ i j, listed.getD j false = true → behind ops i j = true → listed.getD i false = true)
 refine wp_region_any hm (wpAny_inv (Inv := Inv) hlow ?_ ?_ _ _ _ _ (by simp) (by simp) ⟨fun _ _ => ⟨hC, fun j d hj => ?_⟩, fun _ h => ?_, fun h => ?_, rfl, rfl, fun _ _ => rfl, ?_, ?_⟩)
 ·intro i listed a w hs hi ⟨hpre, hpost, hend, hd, hsz, hext, hrv, hcl⟩
  obtain ⟨hun, o, ho, hdeps⟩ := mem_ready.1 hi
  have hilt : i < ops.size := (Array.getElem?_eq_some_iff.1 ho).1
  have hli : i < listed.size := by omega
  have hun' : listed.getD i false = false := by simp [hli] at hun ⊢; exact hun
  have hg : o.guard = none := by
   have := Array.all_eq_true.1 hgd i hilt
   rw [Array.getElem?_eq_getElem hilt] at ho
   cases ho
   simpa using this
  have hob := OblAll.get hO (i := i) (o := o) (by simpa using ho)
  rw [Nat.zero_add] at hob
  have he : ∀ t, ((List.range ops.size).all fun j => slotOf ops j != some t || behind ops i j) = true → a.eval (.tmp t) = a0.eval (.tmp t) := fun t htt => hext t fun j hj => by
   have := List.all_eq_true.1 htt j (List.mem_range.2 (slot_lt hj))
   rw [hj] at this
   simp at this
   cases hl : listed.getD j false
   ·rfl
   ·have := hcl i j hl this; rw [hun'] at this; cases this
  have lstd : ∀ j, behind ops j i = true → listed.getD j false = true := fun j hj => by
   obtain ⟨e, he, h1, h2⟩ := behind_spec hj ho
   rw [← h1]
   exact hdeps e he h2
  have hdst : slotOf ops i = o.dst := by unfold slotOf; rw [ho]; rfl
  have keep : ∀ v t, o.dst ≠ some t → (a.put o.dst v).eval (.tmp t) = a.eval (.tmp t) := fun v t h => Act.eval_put (fun d hd he => h (by rw [hd]; cases he; rfl))
  have lst : ∀ j, (listed.setIfInBounds i true).getD j false = true → j = i ∨ listed.getD j false = true := fun j h => by
   by_cases hji : i = j
   ·exact .inl hji.symm
   ·rw [getD_set_ne false hji] at h; exact .inr h
  have same : ∀ j, j ≠ i → (listed.setIfInBounds i true).getD j false = listed.getD j false := fun j h => getD_set_ne false (fun e => h e.symm)
  have hcl' : ∀ i' j, (listed.setIfInBounds i true).getD j false = true → behind ops i' j = true → (listed.setIfInBounds i true).getD i' false = true := fun i' j hj hb => by
   rcases lst j hj with rfl | hj'
   ·exact getD_set_true (lstd i' hb)
   ·exact getD_set_true (hcl i' j hj' hb)
  have newv : ∀ v d, slotOf ops i = some d → (a.put o.dst v).eval (.tmp d) = v := fun v d hjd => by
   rw [hdst] at hjd
   have hb := slot_bd (j := i) (by rw [hdst]; exact hjd)
   unfold Act.put Act.eval; rw [hjd]; simp; exact fun h => absurd (Nat.lt_of_lt_of_le hb (hsz ▸ h)) (Nat.lt_irrefl _)
  have oldv : ∀ v j d, listed.getD j false = true → slotOf ops j = some d → (a.put o.dst v).eval (.tmp d) = a.eval (.tmp d) := fun v j d hj' hjd => keep v d (fun h => by
   have := slot_ne (show slotOf ops i = some d by rw [hdst]; exact h) hjd
   subst this; rw [hun'] at hj'; cases hj')
  have hext' : ∀ v t, (∀ j, slotOf ops j = some t → (listed.setIfInBounds i true).getD j false = false) → (a.put o.dst v).eval (.tmp t) = a0.eval (.tmp t) := fun v t htt => by
   rw [keep v t (fun h => by
    have := htt i (by rw [hdst]; exact h)
    simp [hli] at this)]
   refine hext t fun j hj => ?_
   have := htt j hj
   cases hl : listed.getD j false
   ·rfl
   ·rw [getD_set_true hl] at this; cases this
  have hd' : ∀ v, (a.put o.dst v).defers = a0.defers := fun v => by rw [← hd]; unfold Act.put; split <;> rfl
  have hsz' : ∀ v, (a.put o.dst v).tmps.size = a0.tmps.size := fun v => by rw [← hsz]; unfold Act.put; split <;> simp
  have hself : (listed.setIfInBounds i true).getD i false = true := by simp [hli]
  have hz0 : i ≠ z → listed.getD z false = false := fun hiz => by
   cases hl : listed.getD z false
   ·rfl
   ·have hb := List.all_eq_true.1 hlast i (List.mem_range.2 hilt)
    have hb' : behind ops i z = true := by simpa [hiz] using hb
    have := hcl i z hl hb'; rw [hun'] at this; cases this
  unfold wpOp
  rw [ho]
  simp only [Region.wanted, hg, if_true]
  by_cases hiz : i = z
  ·subst hiz
   unfold Obl at hob
   rw [if_pos rfl] at hob
   have hall : ∀ j, j < ops.size → j ≠ i → listed.getD j false = true := fun j hj hne => lstd j (by
    have hb := List.all_eq_true.1 hlast j (List.mem_range.2 hj)
    simpa [hne] using hb)
   obtain ⟨u, hu, hDu⟩ := hpost hun' (hall m hmlt hmz)
   have hn : o.dst = none := by rw [← hdst]; simpa using hzn
   refine .inl (Oper.wp_mono ?_ (hob a w u hu hDu he fun j d hjd => hrv j d (hall j (slot_lt hjd) (fun e => by subst e; rw [hdst, hn] at hjd; cases hjd)) hjd))
   rintro a' w' ⟨rfl, hT⟩
   refine ⟨fun h => ?_, fun h => ?_, fun _ => hT, hd, hsz, ?_, fun j d hj hjd => ?_, hcl'⟩
   ·rw [hself] at h; cases h
   ·rw [hself] at h; cases h
   ·have := hext' undef
    rw [hn] at this
    exact this
   ·rcases lst j hj with rfl | hj'
    ·rw [hdst, hn] at hjd; cases hjd
    ·exact hrv j d hj' hjd
  ·have hzz := same z (fun e => hiz e.symm)
   have hz0 := hz0 hiz
   by_cases him : i = m
   ·subst him
    unfold Obl at hob
    rw [if_neg hiz, if_pos rfl] at hob
    obtain ⟨hCw, hrw⟩ := hpre hz0 hun'
    refine .inl (Oper.wp_mono ?_ (hob a w hCw he fun j d hj hjd => ⟨hrv j d (lstd j hj) hjd, hrw j d (lstd j hj) hjd⟩))
    rintro a' w' ⟨v, rfl, k1, k2⟩
    refine ⟨fun _ h => ?_, fun _ _ => ⟨v, fun d hjd => newv v d hjd, k2⟩, fun h => ?_, hd' v, hsz' v, hext' v, fun j d hj hjd => ?_, hcl'⟩
    ·rw [hself] at h; cases h
    ·rw [hzz, hz0] at h; cases h
    ·rcases lst j hj with rfl | hj'
     ·rw [newv v d hjd]; exact k1
     ·rw [oldv v j d hj' hjd]; exact hrv j d hj' hjd
   ·have hmm := same m (fun e => him e.symm)
    unfold Obl at hob
    rw [if_neg hiz, if_neg him] at hob
    cases hl : listed.getD m false
    ·obtain ⟨hCw, hrw⟩ := hpre hz0 hl
     refine .inl (Oper.wp_mono ?_ (hob.1 a w hCw he fun j d hj hjd => ⟨hrv j d (lstd j hj) hjd, hrw j d (lstd j hj) hjd⟩))
     rintro a' w' ⟨v, rfl, k1, k2, k3, k4⟩
     refine ⟨fun _ _ => ⟨k3, fun j d hj hjd => ?_⟩, fun _ h => ?_, fun h => ?_, hd' v, hsz' v, hext' v, fun j d hj hjd => ?_, hcl'⟩
     ·rcases lst j hj with rfl | hj'
      ·rw [newv v d hjd]; exact k2
      ·rw [oldv v j d hj' hjd]; exact hG _ _ _ _ hCw k4 (hrw j d hj' hjd)
     ·rw [hmm, hl] at h; cases h
     ·rw [hzz, hz0] at h; cases h
     ·rcases lst j hj with rfl | hj'
      ·rw [newv v d hjd]; exact k1
      ·rw [oldv v j d hj' hjd]; exact hrv j d hj' hjd
    ·obtain ⟨u, hu, hDu⟩ := hpost hz0 hl
     have hbm : reach ops 5 i m = false := by
      cases hb : reach ops 5 i m
      ·rfl
      ·have := reach_listed hcl hl 5 i hb; rw [hun'] at this; cases this
     refine .inl (Oper.wp_mono ?_ (hob.2 hbm a w u hDu he fun j d hj hjd => hrv j d (lstd j hj) hjd))
     rintro a' w' ⟨v, rfl, k1, k2⟩
     refine ⟨fun _ h => ?_, fun _ _ => ⟨u, fun d hjd => by rw [oldv v m d hl hjd]; exact hu d hjd, k2⟩, fun h => ?_, hd' v, hsz' v, hext' v, fun j d hj hjd => ?_, hcl'⟩
     ·rw [hmm, hl] at h; cases h
     ·rw [hzz, hz0] at h; cases h
     ·rcases lst j hj with rfl | hj'
      ·rw [newv v d hjd]; exact k1
      ·rw [oldv v j d hj' hjd]; exact hrv j d hj' hjd
 ·intro listed a w hall ⟨_, _, hend, hd, hsz, hext, hrv, _⟩
  refine hQ a w (hend (hall z hzlt)) hd hsz (fun t htt => hext t fun j hj => ?_) (fun j d hj => hrv j d (hall j (slot_lt hj)) hj)
  exfalso
  have hlt := slot_lt hj
  have := Array.all_eq_true.1 htt j hlt
  unfold slotOf at hj
  rw [Array.getElem?_eq_getElem hlt] at hj
  simp only [Option.bind_some] at hj
  rw [hj] at this
  simp at this
 ·simp at hj
  rw [Array.getElem?_replicate] at hj; split at hj <;> simp at hj
 ·simp at h
  rw [Array.getElem?_replicate] at h; split at h <;> simp at h
 ·simp at h
  rw [Array.getElem?_replicate] at h; split at h <;> simp at h
 ·intro j d hj
  simp at hj
  rw [Array.getElem?_replicate] at hj; split at hj <;> simp at hj
 ·intro i j hj
  simp at hj
  rw [Array.getElem?_replicate] at hj; split at hj <;> simp at hj
theorem wp_region_mix {id : Nat} {w0 : World} (mk : List Bool) (hm : P.follows .mixedOrders = true) (ht : tidy ops m z a0.tmps.size = true)
  (hk : maskOk ops mk a0.tmps.size = true)
  (hG : ∀ j v w w', C w → G w w' → Rw j v w → Rw j v w') (hC : C { w0 with drawn := w0.drawn + 1 })
  (hO : OblAll P ops m z a0 C D T G Rv Rw Q 0 ops.toList)
  (hQ : ∀ (f : Nat → Value) w, T w → (∀ j d, slotOf ops j = some d → Rv j (f d)) → Q .normal ⟨(mixL f mk 0 a0.tmps.toList).toArray, a0.defers⟩ w) :
  (Code.region id ops true).wp P Q a0 w0 := by
 refine wp_region_inv hm ht hG hC hO fun a w hD hd hsz hext hrv => ?_
 unfold maskOk at hk
 simp only [Bool.and_eq_true, beq_iff_eq] at hk
 obtain ⟨hml, hmk⟩ := hk
 have e : a = ⟨(mixL (fun t => a.eval (.tmp t)) mk 0 a0.tmps.toList).toArray, a0.defers⟩ := by
  rw [mixL_eq _ _ _ _ (by simpa using hml) ?_]
  ·cases a with
   | mk tmps defers =>
    simp only [Act.mk.injEq]
    refine ⟨?_, hd⟩
    apply Array.ext'
    apply List.ext_getElem?
    intro i
    simp only at hsz
    by_cases hi : i < tmps.size
    ·have hi' : i < a0.tmps.size := by omega
     simp [hi, hi', Act.eval]
    ·have hi' : ¬ i < a0.tmps.size := by omega
     simp [hi, hi']
  ·intro i hi
   have hlt : i < a0.tmps.size := by
    have := (List.getElem?_eq_some_iff.1 hi).1; omega
   have h1 := List.all_eq_true.1 hmk i (List.mem_range.2 hlt)
   have h2 : mk.getD i false = false := by simp [List.getD, hi]
   rw [h2, Bool.false_or] at h1
   have h3 := hext i h1
   rw [Nat.zero_add, h3]
   simp [Act.eval, hlt]
 have hQ' := hQ (fun t => a.eval (.tmp t)) w
 rw [← e] at hQ'
 exact hQ' hD fun j d hj => hrv j d hj
end
end Reg8
end Go.Proofs.YtabccmobmppdnaaGreat
namespace Go.Proofs.YtabccmobmppdnaaGreat
open Go Fk Go.RowKit Go.Maps
set_option linter.unusedVariables false
set_option maxRecDepth 16000
theorem grown_of_below {w w' : World} (hb : Below w.heap.size w w') (row : Option Nat) : w.grownBy w' row := ⟨hb.os, hb.tape, hb.output, hb.size, fun k hk _ => hb.block k hk⟩
theorem groups_below {W V : World} {P : Program} {k : TypeId} {base : Nat} {e : TypeId} {q : IntKind} {b n : Nat} {D : DataW Unit} (h : W.ownsGroups P k base e q b n D) (hB : Below W.heap.size W V) : V.ownsGroups P k base e q b n D :=
 h.kept (grown_of_below hB none) (by simp) (fun es clock hb x hx => by
  cases hv : x.val.ownBlock
  ·exact .inl rfl
  ·exact .inr (by simp))
def Lk (B n : Nat) (D : DataW Unit) (e : Int × Int) (zs : List Int) (v : Value) (w : World) : Prop :=
 w.ownsInts (B + 1) 2 .i64 v zs ∧ zs.length ≤ n ∧ w.groupBack Tryz.prog 229 234 (B + 1) 2 .i64 B n D (.agg #[.int .i64 e.1, .int .i64 e.2]) (kE e) v
theorem ints_below {W V : World} {base : Nat} {e : TypeId} {q : IntKind} {v : Value} {zs : List Int} (h : W.ownsInts base e q v zs) (hB : Below W.heap.size W V) : V.ownsInts base e q v zs :=
 h.kept (grown_of_below hB none) (by cases hv : v.ownBlock; exact .inl rfl; exact .inr (by simp))
theorem grown_trans {a b c : World} {row : Option Nat} (h : Below a.heap.size a b) (k : b.grownBy c row) : a.grownBy c row := (grown_of_below h row).trans k
theorem Lk.below {B n : Nat} {D : DataW Unit} {e : Int × Int} {zs : List Int} {v : Value} {W V : World} (h : Lk B n D e zs v W) (hB : Below W.heap.size W V) : Lk B n D e zs v V :=
 ⟨ints_below h.1 hB, h.2.1, fun w1 v' zs' hg ho hl hloc => h.2.2 w1 v' zs' (grown_trans hB hg) ho hl (hloc.imp id fun ⟨g, e1, e2⟩ => ⟨g, e1, Nat.le_trans hB.size e2⟩)⟩
def Ap (w0 : World) (B n : Nat) (D : DataW Unit) (e : Int × Int) (zs : List Int) (k : Int) (u : Value) (w : World) : Prop :=
 ∃ v wl, Lk B n D e zs v wl ∧ Below w0.heap.size w0 wl ∧ wl.grownBy w v.ownBlock ∧ w.ownsInts (B + 1) 2 .i64 u (zs ++ [k]) ∧ (u.ownBlock = v.ownBlock ∨ ∃ g, u.ownBlock = some g ∧ wl.heap.size ≤ g)
theorem grown_below' {a b c : World} {row : Option Nat} (h : a.grownBy b row) (k : Below b.heap.size b c) : a.grownBy c row := h.trans (grown_of_below k row)
theorem Ap.below {w0 : World} {B n : Nat} {D : DataW Unit} {e : Int × Int} {zs : List Int} {k : Int} {u : Value} {w w' : World} (h : Ap w0 B n D e zs k u w) (hB : Below w.heap.size w w') : Ap w0 B n D e zs k u w' := by
 obtain ⟨v, wl, h1, h2, h3, h4, h5⟩ := h
 exact ⟨v, wl, h1, h2, grown_below' h3 hB, ints_below h4 hB, h5⟩
theorem Ap.row {w0 : World} {B n : Nat} {D : DataW Unit} {e : Int × Int} {zs : List Int} {k : Int} {u : Value} {w : World} {b1 : Nat} {e1 : TypeId} {s1 n1 : Nat} {v1 : Value} {x1 : List Value} (h : Ap w0 B n D e zs k u w) (hr : w0.ownsRow b1 e1 s1 v1 n1 x1) (he : e1 ≠ 2) : w.ownsRow b1 e1 s1 v1 n1 x1 := by
 obtain ⟨v, wl, h1, h2, h3, _, _⟩ := h
 exact owns_side (owns_up hr h2) h1.1.1 he h3
theorem wp_append_own_at {P : Program} {o : Oper} {a : Act} {K : Act → World → Prop} {Q : Exit → Act → World → Prop} (w : World) (s x : Operand) (t : TypeId)
  (ho : o.op = .call { callee := .builtin .append, args := #[s, x], argTypes := #[t, t] })
  (base : Nat) (e : TypeId) (i : TypeInfo) (z : Value) (size bytes : Nat) (ht : P.underlying t = some (.slice e)) (hi : P.info? e = some i) (hz : i.zero = some z)
  (hsize : i.size = size) (hby : i.bytes = bytes) (hzs : z.cells.size = size) (hsz : 0 < size)
  (v : Value) (n : Nat) (xs : List Value) (hs : a.eval s = v) (hown : w.ownsRow base e size v n xs)
  (ad : Addr) (m c : Nat) (news : List Value) (hx : a.eval x = .slice (some ad) m c) (hl : news.length = m * size) (hnews : ∀ j u, news[j]? = some u → w.cell? (ad.add j) = some u) (h1 : ∀ u ∈ news, u.oneCell' = true)
  (h63 : n + m ≤ maxLen) (hbytes : (n + m) * bytes ≤ 140737488355328) (hbase : base ≤ w.heap.size)
  (h : ∀ v' w', w'.ownsRow base e size v' (n + m) (xs ++ news) → w.grownBy w' v.ownBlock → (v'.ownBlock = v.ownBlock ∨ v'.ownBlock = some w.heap.size) → K (a.put o.dst v') w') : o.wp P a w K Q := by
 obtain ⟨v', w', hr, h2, h3, _, h5⟩ := run_append_own_at (P := P) w base t o.type e i z size bytes ht hi hz hsize hby hzs hsz v n xs hown ad m c news hl hnews h1 h63 hbytes hbase
 unfold Oper.wp execOp
 simp only [ho, resolve, invoke, builtin, Sem.run_bind, Sem.run_pure, Result.andThen_ok, List.map_toArray, List.map_cons, List.map_nil, hs, hx, hr]
 exact h v' w' h2 h3 h5
theorem impl_edgeOf (x y : Int) (w : World) : Calls Tryz.prog 205 #[.int .i64 x, .int .i64 y] w fun e w' => e = .returned (.agg #[.int .i64 (min x y), .int .i64 (max x y)]) ∧ Below w.heap.size w w' := by
 have ue := Tryz.underlying234
 have ui := Tryz.underlying2
 go_enter Tryz.func205, Tryz.ntmps205
 go_wp2
 all_goals
  refine bodyPost_ret (v := .agg #[.int .i64 (min x y), .int .i64 (max x y)]) (by first | (simp [results, Tryz.results205, go_sem]; done) | (simp [results, Tryz.results205, go_sem]; omega)) rfl ?_
  exact ⟨rfl, (Below.refl _ _).alloc (Nat.le_refl _) _⟩
theorem side_edge (x y : Int) (w : World) : Calls Tryz.prog 197 #[.agg #[.int .i64 x, .int .i64 y]] w fun e w' => e = .returned (.agg #[.int .i64 (min x y), .int .i64 (max x y)]) ∧ Below w.heap.size w w' := by
 have ue := Tryz.underlying234
 have us := Tryz.underlying241
 have ui := Tryz.underlying2
 have T0 : Hid (Tc w w.heap.size (w.heap.size + 1) [.int .i64 x, .int .i64 y] [.int .i64 0, .int .i64 0] ((w.alloc (.cells #[.int .i64 x, .int .i64 y] 241)).alloc (.cells #[.int .i64 0, .int .i64 0] 234))) := Lib.hid
  ⟨At.new.alloc, by
   have := At.new (w := w.alloc (.cells #[.int .i64 x, .int .i64 y] 241)) (vs := [.int .i64 0, .int .i64 0]) (t := 234)
   simpa using this, fun i => by go_simp, fun i => by go_simp, ((Below.refl _ _).alloc (Nat.le_refl _) _).alloc (by simp) _, ⟨Nat.le_refl _, by omega, by omega⟩, by simp <;> omega⟩
 go_enter Tryz.func197, Tryz.ntmps197
 go_wp2_with fail
 generalize ((w.alloc (.cells #[.int .i64 x, .int .i64 y] 241)).alloc (.cells #[.int .i64 0, .int .i64 0] 234)) = W at *
 refine (impl_edgeOf x y W).mono ?_
 rintro e w1 ⟨rfl, hB1⟩
 have T1 := Lib.hid (T0.out.call hB1)
 have q0 := T1.out.res 0 _ rfl
 have q1 := T1.out.res 1 _ rfl
 have p0 := T1.out.fr 0
 have p1 := T1.out.fr 1
 obtain ⟨hR, hBB⟩ := T1.out.fin (vs' := [.int .i64 (min x y), .int .i64 (max x y)]) rfl
 simp only [setL, Nat.zero_add, Nat.reduceAdd] at hR hBB
 have HR := Lib.hid hR
 have HBB := Lib.hid hBB
 clear hR hBB hB1
 go_wp2
 clear q0 q1 p0 p1
 have m0 := HR.out 0 _ rfl
 have m1 := HR.out 1 _ rfl
 refine bodyPost_ret (v := .agg #[.int .i64 (min x y), .int .i64 (max x y)]) (by simp [results, Tryz.results197, go_sem, m0, m1]) rfl ?_
 exact ⟨rfl, HBB.out⟩
end Go.Proofs.YtabccmobmppdnaaGreat
namespace Go.Proofs.YtabccmobmppdnaaGreat
open Go Fk Go.RowKit Go.Maps
set_option linter.unusedVariables false
set_option maxRecDepth 16000
end Go.Proofs.YtabccmobmppdnaaGreat
namespace Go.Proofs.YtabccmobmppdnaaGreat
open Go Fk Go.RowKit
set_option linter.unusedVariables false
set_option maxRecDepth 8000
end Go.Proofs.YtabccmobmppdnaaGreat
namespace Go.Proofs.YtabccmobmppdnaaGreat
open Go Fk Go.RowKit
set_option linter.unusedVariables false
set_option maxRecDepth 8000
def EdgesAt (w : World) (a : Option Addr) (n : Nat) (es : List (Int × Int)) : Prop := ∀ k, k < n → ∃ g, a = some ⟨g, 0, none⟩ ∧ w.cell? ⟨g, k * 2, none⟩ = some (.int .i64 (es.getD k (0, 0)).1) ∧ w.cell? ⟨g, k * 2 + 1, none⟩ = some (.int .i64 (es.getD k (0, 0)).2)
theorem EdgesAt.below {w w' : World} {a : Option Addr} {n : Nat} {es : List (Int × Int)} (h : EdgesAt w a n es) (hB : Below w.heap.size w w') : EdgesAt w' a n es := fun k hk => by
 obtain ⟨g, e, h1, h2⟩ := h k hk
 exact ⟨g, e, cell_below hB h1, cell_below hB h2⟩
end Go.Proofs.YtabccmobmppdnaaGreat
namespace Go.Proofs.YtabccmobmppdnaaGreat
open Go Fk Go.RowKit Go.Maps
set_option linter.unusedVariables false
set_option maxRecDepth 16000
structure Tab (w0 : World) (tb B n : Nat) (D : DataW Unit) (L : List ((Int × Int) × Int)) : Prop where
 box : w0.cell? ⟨tb, 0, none⟩ = some (.map (some B))
 own : w0.ownsGroups Tryz.prog 234 (B + 1) 2 .i64 B n D
 is : GroupsOf D L
 few : n < 4096
 short : ∀ x, (grp L x).length < 4096
end Go.Proofs.YtabccmobmppdnaaGreat
namespace Go.Proofs.YtabccmobmppdnaaGreat
open Go Fk Go.RowKit Go.Maps
set_option linter.unusedVariables false
set_option maxRecDepth 16000
structure RowI (w0 : World) (g n j : Nat) (es ks : List (Int × Int)) (W : World) : Prop where
 below : Below w0.heap.size w0 W
 lo : w0.heap.size ≤ g
 lt : g < W.heap.size
 alive : ∀ q, q < n * 2 → ∃ v, W.cell? ⟨g, q, none⟩ = some v
 free : ∀ q, W.frozen? ⟨g, q, none⟩ = false
 kept : ∀ t, t < ks.length → W.cell? ⟨g, t * 2, none⟩ = some (.int .i64 (ks.getD t (0, 0)).1) ∧ W.cell? ⟨g, t * 2 + 1, none⟩ = some (.int .i64 (ks.getD t (0, 0)).2)
 rest : ∀ t, j ≤ t → t < n → W.cell? ⟨g, t * 2, none⟩ = some (.int .i64 (es.getD t (0, 0)).1) ∧ W.cell? ⟨g, t * 2 + 1, none⟩ = some (.int .i64 (es.getD t (0, 0)).2)
end Go.Proofs.YtabccmobmppdnaaGreat
namespace Go.Proofs.YtabccmobmppdnaaGreat
open Go Fk Go.RowKit
set_option linter.unusedVariables false
set_option maxRecDepth 8000
end Go.Proofs.YtabccmobmppdnaaGreat
namespace Go.Proofs.YtabccmobmppdnaaGreat
namespace Fk
open Go Go.RowKit
set_option linter.unusedVariables false
structure HW where
 p : Int
 k : Int
 x : Nat
 y : Nat
 z : Nat
 s : Nat
 t : Nat
 u : Nat
section
open Go.ChangeShapes Go.WideShapes Go.Deep
variable {H : Type} {enc : TypeId × Value → H} {P : Program} {w : World} {base : Nat} {held : Bool}
end
end Fk
end Go.Proofs.YtabccmobmppdnaaGreat
namespace Go.Proofs.YtabccmobmppdnaaGreat
open Go Fk Go.RowKit
set_option linter.unusedVariables false
set_option maxRecDepth 8000
def sizeB (x : Nat) : Bool := finB x && (FloatKind.f32.format.order x 0 == some .gt)
def finC (c : Option Nat) : Bool := match c with | none => false | some x => finB x
def sizeC (c : Option Nat) : Bool := match c with | none => false | some x => sizeB x
theorem Fk.FV.fin {x : Nat} {c : Option Nat} (h : FV .f32 x c) : finB x = finC c := by
 cases c with
 | none =>
  have := h.nan
  have h2 : nan32 x = true := this
  rw [nan32_iff, decide_eq_true_eq] at h2
  show finB x = false
  unfold finB
  exact decide_eq_false (by omega)
 | some y => rw [h.num]; rfl
theorem Fk.FV.size {x : Nat} {c : Option Nat} (h : FV .f32 x c) : sizeB x = sizeC c := by
 cases c with
 | none =>
  show sizeB x = false
  unfold sizeB
  rw [Fk.FV.fin h]; rfl
 | some y => rw [h.num]; rfl
theorem impl_isMeasure (x : Nat) (w : World) (hx : x < 4294967296) :
  Calls Tryz.prog 104 #[.float .f32 x] w fun e w' => e = .returned (.bool (sizeB x)) ∧ ∃ n, w' = w.drewN n := by
 have u := Tryz.underlying27
 unfold sizeB
 have HJ := Lib.hid (fun w => impl_IsFinite x w hx)
 generalize finB x = f at *
 cases f
 ·go_enter Tryz.func104, Tryz.ntmps104
  go_wp2_with (go_at_call 152; refine (HJ.out _).mono ?_; rintro e w1 ⟨rfl, n, hw⟩; rw [hw]; clear hw w1)
  go_ret
  exact ⟨rfl, _, rfl⟩
 ·go_enter Tryz.func104, Tryz.ntmps104
  go_wp2_with (go_at_call 152; refine (HJ.out _).mono ?_; rintro e w1 ⟨rfl, n, hw⟩; rw [hw]; clear hw w1)
  go_ret
  exact ⟨rfl, _, rfl⟩
end Go.Proofs.YtabccmobmppdnaaGreat
namespace Go.Proofs.YtabccmobmppdnaaGreat
open Go Fk Go.RowKit
set_option linter.unusedVariables false
set_option maxRecDepth 8000
end Go.Proofs.YtabccmobmppdnaaGreat
namespace Go.Proofs.YtabccmobmppdnaaGreat
open Go Fk Go.RowKit
set_option linter.unusedVariables false
set_option maxRecDepth 8000
end Go.Proofs.YtabccmobmppdnaaGreat
namespace Go.Proofs.YtabccmobmppdnaaGreat
open Go Fk Go.RowKit
set_option linter.unusedVariables false
set_option maxRecDepth 8000
end Go.Proofs.YtabccmobmppdnaaGreat
namespace Go.Proofs.YtabccmobmppdnaaGreat
open Go Fk Go.RowKit
set_option linter.unusedVariables false
set_option maxRecDepth 8000
end Go.Proofs.YtabccmobmppdnaaGreat
namespace Go.Proofs.YtabccmobmppdnaaGreat
open Go Fk Go.RowKit
set_option linter.unusedVariables false
def OwnVs (w : World) (g : Nat) (X : List C3) : Prop := (X.length ≤ maxLen ∧ ∀ i, i < X.length → ∃ p q r, (w.cell? ⟨g, i * 3, none⟩ = some (.float .f32 p) ∧ w.cell? ⟨g, i * 3 + 1, none⟩ = some (.float .f32 q) ∧ w.cell? ⟨g, i * 3 + 2, none⟩ = some (.float .f32 r)) ∧ F3 p q r (X.getD i c0)) ∧ Fr w g ∧ g < w.heap.size
theorem OwnVs.is {w : World} {g : Nat} {X : List C3} (h : OwnVs w g X) : IsVs w (some ⟨g, 0, none⟩) X.length X.length X := by
 refine ⟨rfl, Nat.le_refl _, h.1.1, by simp, fun x hx i hi => ?_⟩
 cases hx
 obtain ⟨p, q, r, ⟨k0, k1, k2⟩, f⟩ := h.1.2 i hi
 exact ⟨p, q, r, by rw [addr_add', Nat.zero_add]; exact k0, by rw [addr_add', Nat.zero_add]; exact k1, by rw [addr_add', Nat.zero_add]; exact k2, f⟩
theorem OwnVs.below {W w : World} {g : Nat} {X : List C3} (hb : Below W.heap.size W w) (h : OwnVs W g X) : OwnVs w g X := by
 refine ⟨⟨h.1.1, fun i hi => ?_⟩, h.2.1.below hb h.2.2, Nat.lt_of_lt_of_le h.2.2 hb.size⟩
 obtain ⟨p, q, r, ⟨k0, k1, k2⟩, f⟩ := h.1.2 i hi
 exact ⟨p, q, r, ⟨cell_below hb k0, cell_below hb k1, cell_below hb k2⟩, f⟩
theorem OwnVs.far {w : World} {g : Nat} {X : List C3} {a : Addr} {u : Value} (hne : a.block ≠ g) (h : OwnVs w g X) : OwnVs (w.setCell a u) g X := by
 refine ⟨⟨h.1.1, fun i hi => ?_⟩, h.2.1.setC, by simpa using h.2.2⟩
 obtain ⟨p, q, r, ⟨k0, k1, k2⟩, f⟩ := h.1.2 i hi
 exact ⟨p, q, r, ⟨cell_set hne k0, cell_set hne k1, cell_set hne k2⟩, f⟩
theorem OwnVs.put {w : World} {g k p q r : Nat} {X : List C3} {c : C3} (h : OwnVs w g X) (hk : k < X.length) (f : F3 p q r c) :
  OwnVs (((w.setCell ⟨g, k * 3, none⟩ (.float .f32 p)).setCell ⟨g, k * 3 + 1, none⟩ (.float .f32 q)).setCell ⟨g, k * 3 + 2, none⟩ (.float .f32 r)) g (X.set k c) := by
 obtain ⟨p0, q0, r0, ⟨k0, k1, k2⟩, _⟩ := h.1.2 k hk
 obtain ⟨e0, e1, e2, eo⟩ := set3k (u := .float .f32 p) (v := .float .f32 q) (t := .float .f32 r) k0 k1 k2
 refine ⟨⟨by rw [List.length_set]; exact h.1.1, fun i hi => ?_⟩, ((h.2.1.setC).setC).setC, by simpa using h.2.2⟩
 rw [List.length_set] at hi
 by_cases hik : i = k
 ·subst hik
  refine ⟨p, q, r, ⟨e0, e1, e2⟩, ?_⟩
  have : (X.set i c).getD i c0 = c := by simp [List.getD, hi]
  rw [this]; exact f
 ·obtain ⟨p', q', r', ⟨j0, j1, j2⟩, f'⟩ := h.1.2 i hi
  refine ⟨p', q', r', ⟨by rw [eo _ (by omega) (by omega) (by omega)]; exact j0, by rw [eo _ (by omega) (by omega) (by omega)]; exact j1, by rw [eo _ (by omega) (by omega) (by omega)]; exact j2⟩, ?_⟩
  have : (X.set k c).getD i c0 = X.getD i c0 := by simp [List.getD, List.getElem?_set, Ne.symm hik]
  rw [this]; exact f'
theorem OwnVs.at {w : World} {g k : Nat} {X : List C3} (h : OwnVs w g X) (hk : k < X.length) : ∃ p q r, (w.cell? ⟨g, k * 3, none⟩ = some (.float .f32 p) ∧ w.cell? ⟨g, k * 3 + 1, none⟩ = some (.float .f32 q) ∧ w.cell? ⟨g, k * 3 + 2, none⟩ = some (.float .f32 r)) ∧ F3 p q r (X.getD k c0) := h.1.2 k hk
def St (w : World) (L : List (Nat × List Value)) (g : Nat) (X : List C3) (w' : World) : Prop :=
 Below w.heap.size w w' ∧ (∀ b l, (b, l) ∈ L → At w' b l ∧ Fr w' b ∧ b < w'.heap.size ∧ b ≠ g) ∧ w.heap.size ≤ g ∧ OwnVs w' g X
theorem St.bel {w w' : World} {L : List (Nat × List Value)} {g : Nat} {X : List C3} (h : St w L g X w') : Below w.heap.size w w' := h.1
theorem St.mem {w w' : World} {L : List (Nat × List Value)} {g b : Nat} {X : List C3} {l : List Value} (h : St w L g X w') (hm : (b, l) ∈ L) : At w' b l := (h.2.1 b l hm).1
theorem St.free {w w' : World} {L : List (Nat × List Value)} {g b : Nat} {X : List C3} {l : List Value} (h : St w L g X w') (hm : (b, l) ∈ L) (i : Nat) : w'.frozen? ⟨b, i, none⟩ = false := (h.2.1 b l hm).2.1 i
theorem St.own {w w' : World} {L : List (Nat × List Value)} {g : Nat} {X : List C3} (h : St w L g X w') : OwnVs w' g X := h.2.2.2
theorem St.call {w w1 w2 : World} {L : List (Nat × List Value)} {g : Nat} {X : List C3} (h : St w L g X w1) (hb : Below w1.heap.size w1 w2) : St w L g X w2 :=
 ⟨h.1.trans (hb.mono h.1.size), fun b l hm => ⟨(h.2.1 b l hm).1.below hb, (h.2.1 b l hm).2.1.below hb (h.2.1 b l hm).2.2.1, Nat.lt_of_lt_of_le (h.2.1 b l hm).2.2.1 hb.size, (h.2.1 b l hm).2.2.2⟩, h.2.2.1, h.2.2.2.below hb⟩
theorem St.drewN {w w1 : World} {L : List (Nat × List Value)} {g : Nat} {X : List C3} (h : St w L g X w1) (n : Nat) : St w L g X (w1.drewN n) := h.call (below_drewN (Below.refl _ _) n)
theorem St.put {w w1 : World} {L : List (Nat × List Value)} {g k p q r : Nat} {X : List C3} {c : C3} (h : St w L g X w1) (hk : k < X.length) (f : F3 p q r c) :
  St w L g (X.set k c) (((w1.setCell ⟨g, k * 3, none⟩ (.float .f32 p)).setCell ⟨g, k * 3 + 1, none⟩ (.float .f32 q)).setCell ⟨g, k * 3 + 2, none⟩ (.float .f32 r)) :=
 ⟨((h.1.setCell (p := ⟨g, k * 3, none⟩) h.2.2.1 _).setCell (p := ⟨g, k * 3 + 1, none⟩) h.2.2.1 _).setCell (p := ⟨g, k * 3 + 2, none⟩) h.2.2.1 _,
  fun b l hm => ⟨(((h.2.1 b l hm).1.far (Ne.symm (h.2.1 b l hm).2.2.2)).far (Ne.symm (h.2.1 b l hm).2.2.2)).far (Ne.symm (h.2.1 b l hm).2.2.2), (((h.2.1 b l hm).2.1.setC).setC).setC, by simpa using (h.2.1 b l hm).2.2.1, (h.2.1 b l hm).2.2.2⟩, h.2.2.1, h.2.2.2.put hk f⟩
theorem St.box {w w1 : World} {L : List (Nat × List Value)} {g : Nat} {X : List C3} {vs : List Value} {t : TypeId} (h : St w L g X w1) : St w ((w1.heap.size, vs) :: L) g X (w1.alloc (.cells vs.toArray t)) := by
 have hb : Below w1.heap.size w1 (w1.alloc (.cells vs.toArray t)) := (Below.refl _ _).alloc (Nat.le_refl _) _
 have h2 := h.call hb
 refine ⟨h2.1, fun b l hm => ?_, h2.2.2⟩
 rcases List.mem_cons.1 hm with e | hm
 ·cases e; exact ⟨At.new, Fr.new, by simp, fun e => by have := h.2.2.2.2.2; omega⟩
 ·exact h2.2.1 b l hm
theorem St.drop {w w1 : World} {L : List (Nat × List Value)} {g : Nat} {X : List C3} {x : Nat × List Value} (h : St w (x :: L) g X w1) : St w L g X w1 := ⟨h.1, fun b l hm => h.2.1 b l (.tail _ hm), h.2.2⟩
theorem OwnVs.made {w : World} {n : Nat} (hn : n ≤ 1048576) : OwnVs (w.alloc (.cells (madeCells #[.float .f32 0, .float .f32 0, .float .f32 0] (n * 3)) 42)) w.heap.size (List.replicate n (some 0, some 0, some 0)) := by
 have cell : ∀ j, j < n * 3 → (w.alloc (.cells (madeCells #[.float .f32 0, .float .f32 0, .float .f32 0] (n * 3)) 42)).cell? ⟨w.heap.size, j, none⟩ = some (.float .f32 0) := by
  intro j hj
  have hm : (madeCells #[.float .f32 0, .float .f32 0, .float .f32 0] (n * 3) : Array Value)[j]? = some (.float .f32 0) := by
   unfold madeCells
   have h3 : j % 3 = 0 ∨ j % 3 = 1 ∨ j % 3 = 2 := by omega
   rcases h3 with h | h | h <;> simp [hj, h]
  simp [hm]
 refine ⟨⟨by rw [List.length_replicate]; unfold maxLen; omega, fun i hi => ?_⟩, Fr.new, by simp⟩
 rw [List.length_replicate] at hi
 refine ⟨0, 0, 0, ⟨cell _ (by omega), cell _ (by omega), cell _ (by omega)⟩, ?_⟩
 have : (List.replicate n ((some 0, some 0, some 0) : C3)).getD i c0 = (some 0, some 0, some 0) := by simp [List.getD, hi]
 rw [this]
 exact ⟨⟨by decide, by decide⟩, ⟨by decide, by decide⟩, ⟨by decide, by decide⟩⟩
def Bx (w : World) (L : List (Nat × List Value)) (w' : World) : Prop :=
 Below w.heap.size w w' ∧ ∀ b l, (b, l) ∈ L → At w' b l ∧ Fr w' b ∧ b < w'.heap.size ∧ w.heap.size ≤ b
theorem Bx.nil (w : World) : Bx w [] w := ⟨Below.refl _ _, fun b l hm => by cases hm⟩
theorem Bx.bel {w w' : World} {L : List (Nat × List Value)} (h : Bx w L w') : Below w.heap.size w w' := h.1
theorem Bx.mem {w w' : World} {L : List (Nat × List Value)} {b : Nat} {l : List Value} (h : Bx w L w') (hm : (b, l) ∈ L) : At w' b l := (h.2 b l hm).1
theorem Bx.free {w w' : World} {L : List (Nat × List Value)} {b : Nat} {l : List Value} (h : Bx w L w') (hm : (b, l) ∈ L) (i : Nat) : w'.frozen? ⟨b, i, none⟩ = false := (h.2 b l hm).2.1 i
theorem Bx.low {w w' : World} {L : List (Nat × List Value)} {b : Nat} {l : List Value} (h : Bx w L w') (hm : (b, l) ∈ L) : w.heap.size ≤ b := (h.2 b l hm).2.2.2
theorem Bx.call {w w1 w2 : World} {L : List (Nat × List Value)} (h : Bx w L w1) (hb : Below w1.heap.size w1 w2) : Bx w L w2 :=
 ⟨h.1.trans (hb.mono h.1.size), fun b l hm => ⟨(h.2 b l hm).1.below hb, (h.2 b l hm).2.1.below hb (h.2 b l hm).2.2.1, Nat.lt_of_lt_of_le (h.2 b l hm).2.2.1 hb.size, (h.2 b l hm).2.2.2⟩⟩
theorem Bx.drewN {w w1 : World} {L : List (Nat × List Value)} (h : Bx w L w1) (n : Nat) : Bx w L (w1.drewN n) := h.call (below_drewN (Below.refl _ _) n)
theorem Bx.box {w w1 : World} {L : List (Nat × List Value)} {vs : List Value} {t : TypeId} (h : Bx w L w1) : Bx w ((w1.heap.size, vs) :: L) (w1.alloc (.cells vs.toArray t)) := by
 have hb : Below w1.heap.size w1 (w1.alloc (.cells vs.toArray t)) := (Below.refl _ _).alloc (Nat.le_refl _) _
 have h2 := h.call hb
 refine ⟨h2.1, fun b l hm => ?_⟩
 rcases List.mem_cons.1 hm with e | hm
 ·cases e; exact ⟨At.new, Fr.new, by simp, h.1.size⟩
 ·exact h2.2 b l hm
theorem St.of {w w1 w2 : World} {L : List (Nat × List Value)} {g : Nat} {X : List C3} (h : Bx w L w1) (hb : Below w1.heap.size w1 w2) (hg : w1.heap.size ≤ g) (ho : OwnVs w2 g X) : St w L g X w2 := by
 have h2 := h.call hb
 exact ⟨h2.1, fun b l hm => ⟨(h2.2 b l hm).1, (h2.2 b l hm).2.1, (h2.2 b l hm).2.2.1, fun e => by have := (h.2 b l hm).2.2.1; omega⟩, Nat.le_trans h.1.size hg, ho⟩
theorem make_vecs (W : World) (n : Nat) (hn : n ≤ 1048576) : (Instr.makeSlice 36 (.int .i64 n) (.int .i64 n)).run Tryz.prog W = .ok (.slice (some ⟨W.heap.size, 0, none⟩) n n) (W.alloc (.cells (madeCells #[.float .f32 0, .float .f32 0, .float .f32 0] (n * 3)) 42)) := by
 obtain ⟨i0, hi, hz0, hz1, hz2⟩ := info_parts infoV
 have := run_make (P := Tryz.prog) W 36 42 i0 (.agg #[.float .f32 0, .float .f32 0, .float .f32 0]) Tryz.underlying36 hi hz0 .i64 .i64 n n (by omega) (Int.le_refl _) (by rw [hz2]; omega) (by omega)
 rw [this, hz1]; simp; rfl
end Go.Proofs.YtabccmobmppdnaaGreat
namespace Go.Proofs.YtabccmobmppdnaaGreat
open Go Fk Go.RowKit
set_option linter.unusedVariables false
set_option maxRecDepth 8000
def stepI (n : Nat) (L : List Int) (k : Nat) : Bool := inB n (L.getD k 0) && (decide (k = 0) || decide (L.getD (k - 1) 0 < L.getD k 0))
def riseB (n : Nat) (L : List Int) : Bool := (List.range L.length).all (stepI n L)
theorem rise_not {n : Nat} {L : List Int} {k : Nat} (hk : k < L.length) (h : stepI n L k = false) : riseB n L = false := by
 rw [Bool.eq_false_iff]
 intro hh
 have := List.all_eq_true.1 hh k (List.mem_range.2 hk)
 rw [this] at h; cases h
theorem rise_all {n : Nat} {L : List Int} (h : ∀ j, j < L.length → stepI n L j = true) : riseB n L = true := by
 unfold riseB
 rw [List.all_eq_true]
 intro j hj
 exact h j (List.mem_range.1 hj)
theorem rise_at {n : Nat} {L : List Int} (h : riseB n L = true) {k : Nat} (hk : k < L.length) : stepI n L k = true := List.all_eq_true.1 h k (List.mem_range.2 hk)
def nextZ (L : List Int) (k : Nat) : Int := if k = 0 then 0 else L.getD (k - 1) 0 + 1
set_option maxHeartbeats 1000000 in
theorem impl_isIndexSet (a : Option Addr) (len cap n : Nat) (L : List Int) (w : World) (h : IsIs w a len cap L) (hn : n ≤ 9223372036854775806) :
  Calls Tryz.prog 187 #[.slice a len cap, .int .i64 n] w fun e w' => e = .returned (.bool (riseB n L)) ∧ w' = w := by
 have hm : len ≤ 9223372036854775807 := by have h1 := h.2.1; have h2 := h.2.2.1; unfold maxLen at h2; omega
 have hll := h.1
 have H := Lib.hid h
 clear h
 go_enter Tryz.func187, Tryz.ntmps187
 go_wp2
 go_loopw [5, 10] (fun f i w' => ∃ k : Nat, k ≤ len ∧ i = .int .i64 k ∧ f = .int .i64 (nextZ L k) ∧ w' = w ∧ Aside (∀ j, j < k → stepI n L j = true)) (fun _ i _ => len - (intOf i).toNat)
 case atStart => exact ⟨0, Nat.zero_le _, rfl, rfl, rfl, fun j hj => absurd hj (by omega)⟩
 case round =>
  obtain ⟨k, hk, rfl, rfl, rfl, hA⟩ := hrel
  have OK := Lib.hid hA.out
  clear hA
  by_cases hlt : k < len
  ·obtain ⟨b, o, rfl, hcell⟩ := H.out.some (by omega)
   have hc0 := hcell k hlt
   have hk0 : (0 : Int) ≤ (k : Int) := by omega
   have hk1 : (k : Int) < (len : Int) := by omega
   have hlk : k < L.length := by omega
   have hstep : stepI n L k = (inB n (L.getD k 0) && (decide (k = 0) || decide (L.getD (k - 1) 0 < L.getD k 0))) := rfl
   have hprev : ∀ j, j < k → 0 ≤ L.getD j 0 ∧ L.getD j 0 < n := by
    intro j hj
    have := OK.out j hj
    unfold stepI at this
    simp only [Bool.and_eq_true] at this
    exact of_decide_eq_true this.1
   have hfz : nextZ L k = if k = 0 then 0 else L.getD (k - 1) 0 + 1 := rfl
   have hfree0 : 0 ≤ nextZ L k ∧ nextZ L k ≤ n := by
    rw [hfz]
    by_cases h0 : k = 0
    ·rw [if_pos h0]; omega
    ·rw [if_neg h0]; have := hprev (k - 1) (by omega); omega
   have hnext : nextZ L (k + 1) = L.getD k 0 + 1 := by unfold nextZ; rw [if_neg (by omega), Nat.add_sub_cancel]
   clear hcell hprev
   generalize hz : L.getD k 0 = z at *
   by_cases hfl : z < nextZ L k
   ·have hres : riseB n L = false := rise_not hlk (by
     rw [hstep]
     by_cases h0 : k = 0
     ·rw [hfz, if_pos h0] at hfl
      have : inB n z = false := decide_eq_false (by omega)
      rw [this]; rfl
     ·rw [hfz, if_neg h0] at hfl
      rw [decide_eq_false h0, decide_eq_false (by omega)]
      cases inB n z <;> rfl)
    have HR := Lib.hid hres
    clear hstep hfz hres hz hnext
    generalize nextZ L k = fz at *
    go_wp2
    go_ret
    exact ⟨ret_bool HR.out.symm, by first | rfl | trivial⟩
   ·have JX := Lib.hid (fun w => impl_isIndex z n w)
    cases hb2 : inB n z
    ·rw [hb2] at JX
     have hres : riseB n L = false := rise_not hlk (by rw [hstep, hb2]; rfl)
     have HR := Lib.hid hres
     clear hstep hfz hres hb2 hz hnext
     generalize nextZ L k = fz at *
     go_wp2_with fail
     refine (JX.out _).mono ?_
     rintro e w3 ⟨rfl, hw3⟩
     rw [hw3]; clear hw3 w3
     go_wp2
     go_ret
     exact ⟨ret_bool HR.out.symm, by first | rfl | trivial⟩
    ·rw [hb2] at JX
     have hpn := of_decide_eq_true hb2
     have hok : ∀ j, j < k + 1 → stepI n L j = true := by
      intro j hj
      by_cases hjk : j = k
      ·subst hjk
       rw [hstep, hb2]
       by_cases h0 : j = 0
       ·rw [decide_eq_true h0]; rfl
       ·rw [hfz, if_neg h0] at hfl
        rw [decide_eq_true (show L.getD (j - 1) 0 < z by omega)]
        simp
      ·exact OK.out j (by omega)
     have HOK := Lib.hid hok
     have HNX := Lib.hid hnext
     clear hstep hfz hb2 hok hnext hz
     generalize hfe : nextZ L k = fz at *
     clear hfe
     go_wp2_with fail
     refine (JX.out _).mono ?_
     rintro e w3 ⟨rfl, hw3⟩
     rw [hw3]; clear hw3 w3
     have hwrap : IntKind.i64.wrap (z + 1) = z + 1 := IntWalk.i64_in _ (by omega)
     go_wp2
     go_roundw
     case rel => exact ⟨k + 1, by omega, by go_num, by rw [HNX.out], by first | rfl | trivial, HOK.out⟩
     case measure => simp [intOf]; omega
  ·obtain rfl : k = len := by omega
   have HR := Lib.hid (rise_all (n := n) (L := L) (fun j hj => OK.out j (by omega)))
   go_wp2
   go_ret
   exact ⟨ret_bool HR.out.symm, by first | rfl | trivial⟩
set_option maxHeartbeats 2000000 in
theorem l00Rises (a : Option Addr) (len cap n : Nat) (L : List Int) (w : World) (h : IsIs w a len cap L) :
  Calls Tryz.prog 160 #[.slice a len cap, .int .i64 0, .int .i64 ((n : Int) - 1)] w fun e w' => e = .returned (.bool (riseB n L)) ∧ ∃ m, w' = w.drewN m := by
 have hm : len ≤ 9223372036854775807 := by have h1 := h.2.1; have h2 := h.2.2.1; unfold maxLen at h2; omega
 have hll := h.1
 go_enter Tryz.func160, Tryz.ntmps160
 go_wp2
 go_loopw [7] (fun i w' => ∃ k : Nat, k ≤ len ∧ i = .int .i64 k ∧ Aside (∀ j, j < k → stepI n L j = true) ∧ ∃ m, w' = w.drewN m) (fun i _ => len - (intOf i).toNat)
 case atStart => exact ⟨0, Nat.zero_le _, rfl, (fun j hj => absurd hj (by omega)), 0, rfl⟩
 case round =>
  obtain ⟨k, hk, rfl, hall, m, hw⟩ := hrel
  have HW := Lib.hid hw
  have OK := Lib.hid hall.out
  by_cases hlt : k < len
  ·obtain ⟨b, o, rfl, hcell⟩ := (h.drewE hw).some (by omega)
   have hc0 := hcell k hlt
   have hk0 : (0 : Int) ≤ (k : Int) := by omega
   have hk1 : (k : Int) < (len : Int) := by omega
   have hlk : k < L.length := by omega
   have J := Lib.hid (fun w => (l00In (L.getD k 0) n w).mono (R' := fun e w' => e = .returned (.bool (inB n (L.getD k 0))) ∧ ∃ m, w' = w.drewN m) (fun _ _ h => ⟨h.1, 0, h.2⟩))
   have hstep : stepI n L k = (inB n (L.getD k 0) && (decide (k = 0) || decide (L.getD (k - 1) 0 < L.getD k 0))) := rfl
   have HS := Lib.hid hstep
   cases hb : inB n (L.getD k 0)
   ·have HR := Lib.hid (rise_not (n := n) hlk (by rw [HS.out, hb]; rfl))
    rw [hb] at J
    clear hcell h hw hall hstep hb
    generalize L.getD k 0 = z at *
    go_wp2_with fail
    go_quiet ((go_at_call 80; exact Calls.quiet_of (J.out _)))
    go_wp2
    go_ret
    exact ⟨ret_bool HR.out.symm, by first | exact drewn_end HW.out | exact ⟨_, HW.out⟩⟩
   ·rw [hb] at J
    by_cases h0 : k = 0
    ·have HOK : Hid (∀ j, j < k + 1 → stepI n L j = true) := Lib.hid (fun j hj => by
      have : j = k := by omega
      subst this
      rw [HS.out, hb, decide_eq_true h0]; rfl)
     have h00 : ¬ (0 : Int) < (k : Int) := by omega
     have h01 : ¬ 0 < k := by omega
     clear hcell h hw hall hstep hb h0 hlk hlt
     generalize L.getD k 0 = z at *
     go_wp2_with fail
     go_quiet ((go_at_call 80; exact Calls.quiet_of (J.out _)))
     go_wp2
     go_roundw
     case rel => exact ⟨k + 1, by omega, by go_num, HOK.out, by first | exact drewn_end HW.out | exact ⟨_, HW.out⟩⟩
     case measure => simp [intOf]; omega
    ·obtain ⟨q, rfl⟩ : ∃ q, k = q + 1 := ⟨k - 1, by omega⟩
     have hcq := hcell q (by omega)
     have h00 : (0 : Int) < ((q + 1 : Nat) : Int) := by omega
     have hq0 : (0 : Int) ≤ (q : Int) := by omega
     have hq1 : (q : Int) < (len : Int) := by omega
     have hsub : ((q + 1 : Nat) : Int) - 1 = (q : Int) := by omega
     have hsub' : (q : Int) + 1 - 1 = (q : Int) := by omega
     have hwr : IntKind.i64.wrap (q : Int) = (q : Int) := IntWalk.i64_in _ (by omega)
     by_cases hlt2 : L.getD q 0 < L.getD (q + 1) 0
     ·have HOK : Hid (∀ j, j < q + 1 + 1 → stepI n L j = true) := Lib.hid (fun j hj => by
       by_cases hjk : j = q + 1
       ·subst hjk
        rw [HS.out, hb, Nat.add_sub_cancel, decide_eq_true hlt2]; simp
       ·exact OK.out j (by omega))
      have hge : ¬ L.getD (q + 1) 0 ≤ L.getD q 0 := by omega
      clear hcell h hw hall hstep hb HS
      generalize L.getD (q + 1) 0 = z at *
      generalize L.getD q 0 = y at *
      go_wp2_with fail
      go_quiet ((go_at_call 80; exact Calls.quiet_of (J.out _)))
      go_wp2
      go_roundw
      case rel => exact ⟨q + 1 + 1, by omega, by go_num, HOK.out, by first | exact drewn_end HW.out | exact ⟨_, HW.out⟩⟩
      case measure => simp [intOf]; omega
     ·have HR := Lib.hid (rise_not (n := n) hlk (by rw [HS.out, hb, Nat.add_sub_cancel, decide_eq_false hlt2]; simp))
      have hge : L.getD (q + 1) 0 ≤ L.getD q 0 := by omega
      clear hcell h hw hall hstep hb HS
      generalize L.getD (q + 1) 0 = z at *
      generalize L.getD q 0 = y at *
      go_wp2_with fail
      go_quiet ((go_at_call 80; exact Calls.quiet_of (J.out _)))
      go_wp2
      go_ret
      exact ⟨ret_bool HR.out.symm, by first | exact drewn_end HW.out | exact ⟨_, HW.out⟩⟩
  ·obtain rfl : k = len := by omega
   have HR := Lib.hid (rise_all (n := n) (L := L) (fun j hj => OK.out j (by omega)))
   clear hw h hall
   go_wp2
   go_ret
   exact ⟨ret_bool HR.out.symm, by rw [HW.out]; exact ⟨_, rfl⟩⟩
end Go.Proofs.YtabccmobmppdnaaGreat
namespace Go.Proofs.YtabccmobmppdnaaGreat
open Go Fk Go.RowKit
set_option linter.unusedVariables false
set_option maxRecDepth 8000
end Go.Proofs.YtabccmobmppdnaaGreat
namespace Go.Proofs.YtabccmobmppdnaaGreat
open Go Fk Go.RowKit
set_option linter.unusedVariables false
set_option maxRecDepth 8000
end Go.Proofs.YtabccmobmppdnaaGreat
namespace Go.Proofs.YtabccmobmppdnaaGreat
open Go Fk Go.RowKit
set_option linter.unusedVariables false
set_option maxRecDepth 8000
end Go.Proofs.YtabccmobmppdnaaGreat
namespace Go.Proofs.YtabccmobmppdnaaGreat
namespace RegG
open Go Reg
set_option linter.unusedVariables false
section
variable {P : Program} {ops : Array Oper} {Q : Exit → Act → World → Prop}
def Obl (P : Program) (ops : Array Oper) (a0 : Act) (C : World → Prop) (G : World → World → Prop) (R : Nat → Value → World → Prop) (T : Nat → Act → World → Prop) (Q : Exit → Act → World → Prop) (i : Nat) (o : Oper) : Prop :=
 ∀ a w, C w → (∀ t, ((List.range ops.size).all fun j => slotOf ops j != some t || behind ops i j) = true → a.eval (.tmp t) = a0.eval (.tmp t)) →
  (∀ j, behind ops j i = true → Has ops R j a w) →
  (Region.wanted o (yielded ops a.tmps) = true ∧ o.wp P a w (fun a' w' => ∃ v, a' = a.put o.dst v ∧ (o.dst ≠ none → R i v w') ∧ (o.dst = none → T i a w') ∧ C w' ∧ G w w') Q) ∨
  (Region.wanted o (yielded ops a.tmps) = false ∧ (o.dst ≠ none → R i undef w) ∧ (o.dst = none → T i a w))
end
end RegG
end Go.Proofs.YtabccmobmppdnaaGreat
namespace Go.Proofs.YtabccmobmppdnaaGreat
open Go Fk Go.RowKit
set_option linter.unusedVariables false
set_option maxRecDepth 8000
end Go.Proofs.YtabccmobmppdnaaGreat
namespace Go.Proofs.YtabccmobmppdnaaGreat
namespace Fk
open Go Go.RowKit
set_option linter.unusedVariables false
section
open Go.ChangeShapes Go.WideShapes Go.Deep
variable {H : Type} {enc : TypeId × Value → H} {P : Program} {w : World} {base : Nat} {held : Bool}
end
end Fk
end Go.Proofs.YtabccmobmppdnaaGreat
namespace Go.Proofs.YtabccmobmppdnaaGreat
open Go Fk Go.RowKit
set_option linter.unusedVariables false
set_option maxRecDepth 8000
end Go.Proofs.YtabccmobmppdnaaGreat
namespace Go.Proofs.YtabccmobmppdnaaGreat
open Go Fk Go.RowKit
set_option linter.unusedVariables false
set_option maxRecDepth 8000
end Go.Proofs.YtabccmobmppdnaaGreat
namespace Go.Proofs.YtabccmobmppdnaaGreat
open Go Fk Go.RowKit
set_option linter.unusedVariables false
set_option maxRecDepth 8000
end Go.Proofs.YtabccmobmppdnaaGreat
namespace Go.Proofs.YtabccmobmppdnaaGreat
open Go Fk Go.RowKit
set_option linter.unusedVariables false
set_option maxRecDepth 8000
end Go.Proofs.YtabccmobmppdnaaGreat
namespace Go.Proofs.YtabccmobmppdnaaGreat
open Go Fk Go.RowKit
end Go.Proofs.YtabccmobmppdnaaGreat
namespace Go.Proofs.YtabccmobmppdnaaGreat
open Go Fk Go.RowKit
set_option linter.unusedVariables false
set_option maxRecDepth 16000
def RV (base : Nat) (w : World) (v : Value) (X : List C3) : Prop := ∃ a cap, v = .slice a X.length cap ∧ IsVs w a X.length cap X ∧ Lst base w.heap.size w a (X.length * 3)
theorem RV.nil (base : Nat) (w : World) : RV base w (.slice none 0 0) [] :=
 ⟨none, 0, rfl, ⟨rfl, Nat.le_refl _, by unfold maxLen; omega, fun _ => ⟨rfl, rfl⟩, fun x hx => by cases hx⟩, .inl ⟨rfl, rfl⟩⟩
theorem RV.block {base g cap : Nat} {w : World} {X : List C3} (hg : base ≤ g) (h1 : X.length ≤ cap) (h2 : cap ≤ maxLen) (h : OwnVs w g X) : RV base w (.slice (some ⟨g, 0, none⟩) X.length cap) X := by
 refine ⟨_, cap, rfl, ⟨rfl, h1, h2, by simp, fun x hx i hi => ?_⟩, .inr ⟨g, rfl, hg, h.2.2, h.2.2, fun j hj => ⟨?_, by rw [Nat.zero_add]; exact h.2.1 j⟩⟩⟩
 ·cases hx
  obtain ⟨p, q, r, ⟨k0, k1, k2⟩, f⟩ := h.1.2 i hi
  exact ⟨p, q, r, by rw [addr_add', Nat.zero_add]; exact k0, by rw [addr_add', Nat.zero_add]; exact k1, by rw [addr_add', Nat.zero_add]; exact k2, f⟩
 ·obtain ⟨p, q, r, ⟨k0, k1, k2⟩, f⟩ := h.1.2 (j / 3) (by omega)
  rw [Nat.zero_add]
  have : j = j / 3 * 3 ∨ j = j / 3 * 3 + 1 ∨ j = j / 3 * 3 + 2 := by omega
  rcases this with e | e | e
  ·exact ⟨_, by rw [e]; exact k0⟩
  ·exact ⟨_, by rw [e]; exact k1⟩
  ·exact ⟨_, by rw [e]; exact k2⟩
theorem own_block {w : World} {base n : Nat} {v : Value} {xs : List Value} {cs : List C3} (h : w.ownsRow base 42 3 v n xs) (hp : PV n xs cs) (hn : cs.length = n) :
  (v = .slice none 0 0 ∧ n = 0) ∨ ∃ g cap, v = .slice (some ⟨g, 0, none⟩) n cap ∧ base ≤ g ∧ n ≤ cap ∧ cap ≤ maxLen ∧ OwnVs w g cs := by
 have h' := h
 obtain ⟨h1, h2⟩ := h
 rcases h2 with ⟨rfl, hz⟩ | ⟨g, cap, cur, rfl, hb, hh, hc1, hc2, hs, ht⟩
 ·exact .inl ⟨rfl, hz⟩
 ·refine .inr ⟨g, cap, rfl, hb, hc1, hc2, ⟨by omega, fun i hi => ?_⟩, fun j => h'.frozenAt j, (h'.lt g rfl).2⟩
  obtain ⟨p, q, r, e0, e1, e2, f⟩ := hp i (by omega)
  exact ⟨p, q, r, ⟨by rw [h'.cellAt _ (by omega)]; exact e0, by rw [h'.cellAt _ (by omega)]; exact e1, by rw [h'.cellAt _ (by omega)]; exact e2⟩, f⟩
end Go.Proofs.YtabccmobmppdnaaGreat
namespace Go.Proofs.YtabccmobmppdnaaGreat
open Go Fk Go.RowKit
set_option linter.unusedVariables false
set_option maxRecDepth 16000
theorem clone_vecs (a : Option Addr) (n c : Nat) (cs : List C3) (w : World) (h : IsVs w a n c cs) (hn : n ≤ 1048576) :
  Calls Tryz.prog 107 #[.slice a n c] w fun e w' => (∃ v xs, e = .returned v ∧ w'.ownsRow w.heap.size 42 3 v n xs ∧ PV n xs cs) ∧ Below w.heap.size w w' := by
 obtain ⟨i0, hi, hz0, hz1, hz2⟩ := info_parts infoV
 obtain ⟨xs, x1, x2, x3, x4⟩ := vs_cells h
 have h0 := h.2.2.2.1
 have X2 := Lib.hid x2
 have X3 := Lib.hid x3
 have X4 := Lib.hid x4
 have X1 := Lib.hid x1
 clear x1 x2 x3 x4 h
 have q : ∀ (w : World) (a : Option Addr) (n c : Nat), (binOp .eql 36 (.slice a n c) (.slice none 0 0)).run Tryz.prog w = .ok (.bool a.isNone) w := fun w a n c => Lib.run_eql_slice_nil w _ _ a n c 0 0 Tryz.underlying36
 cases a with
 | none =>
  obtain ⟨rfl, rfl⟩ := h0 rfl
  go_enter Tryz.func107, Tryz.ntmps107
  go_wp2
  refine bodyPost_ret (v := .slice none 0 0) (by simp [results, Tryz.results107, go_sem]) rfl ?_
  exact ⟨⟨_, rfl, [], World.ownsRow_nil _ _ _ _, fun j hj => absurd hj (by omega)⟩, Below.refl _ _⟩
 | some x =>
  have HST := Lib.hid (World.ownsRow_lit (base := w.heap.size) (e := 42) (size := 3) w #[] 0 (Nat.le_refl _) (by decide) rfl)
  go_enter Tryz.func107, Tryz.ntmps107
  go_wp2_with (at_builtin; refine wpList_append_opt _ rfl _ _ 36 rfl w.heap.size 42 i0 (.agg #[.float .f32 0, .float .f32 0, .float .f32 0]) 3 12 Tryz.underlying36 hi hz0 hz1 hz2 rfl (by decide) _ 0 [] rfl HST.out (some x) n c xs rfl (fun h => by cases h) X1.out ?c2 ?c3 ?c4 ?c5 ?c6 ?_)
  case c2 =>
   intro j u hu
   have := X2.out x rfl j u hu
   rw [World.cell?_alloc_lt (h := World.block_lt_of_cell? _ _ this)]
   exact this
  case c3 => exact X3.out
  case c4 => unfold maxLen; omega
  case c5 => omega
  ·intro v w1 hown hgrow
   have hown' : w1.ownsRow w.heap.size 42 3 v n xs := by simpa using hown
   have hB1 : Below w.heap.size w w1 := ((Below.refl _ _).alloc (Nat.le_refl _) _).grown hgrow (by simp) (fun k hk => by simp [Value.ownBlock] at hk; omega)
   have HO := Lib.hid hown'
   have HB := Lib.hid hB1
   clear hown hgrow hown' hB1
   go_wp2
   refine bodyPost_ret (v := v) (by simp [results, Tryz.results107, go_sem]) rfl ?_
   exact ⟨⟨v, xs, rfl, HO.out, X4.out⟩, HB.out⟩
end Go.Proofs.YtabccmobmppdnaaGreat
namespace Go.Proofs.YtabccmobmppdnaaGreat
open Go Fk Go.RowKit
set_option linter.unusedVariables false
set_option maxRecDepth 16000
end Go.Proofs.YtabccmobmppdnaaGreat
namespace Go.Proofs.YtabccmobmppdnaaGreat
open Go Fk Go.RowKit
set_option linter.unusedVariables false
set_option maxRecDepth 8000
def CB (w : World) (g n : Nat) : Prop := ∃ cur, w.heap[g]? = some (.cells cur 190 (0, 0)) ∧ cur.size = n * 3
theorem CB.set {w : World} {g n : Nat} (h : CB w g n) (i : Nat) (v : Value) : CB (w.setCell ⟨g, i, none⟩ v) g n := by
 obtain ⟨cur, h1, h2⟩ := h
 exact ⟨_, Joins.block_setCell h1 v, by simp [h2]⟩
theorem owns_of_cs {w : World} {base g n : Nat} {ts : List (List Int)} (h : CB w g n) (hc : IsCs w g n ts) (hb : base ≤ g) (hn : n ≤ maxLen) : w.ownsRow base 190 3 (.slice (some ⟨g, 0, none⟩) n n) n (flatV ts n) := by
 obtain ⟨cur, h1, h2⟩ := h
 have hcell : ∀ i, w.cell? ⟨g, i, none⟩ = cur[i]? := fun i => by simp [World.cell?, h1]
 refine ⟨flatV_len ts n, .inr ⟨g, n, cur, rfl, hb, h1, Nat.le_refl _, hn, h2, ?_⟩⟩
 have key : ∀ k, k ≤ n → cur.toList.take (k * 3) = flatV ts k := by
  intro k
  induction k with
  | zero => intro _; simp [flatV]
  | succ k ih =>
   intro hk
   obtain ⟨e0, e1, e2⟩ := hc k (by omega)
   rw [hcell] at e0 e1 e2
   have hl : k * 3 + 2 < cur.toList.length := by simp; omega
   rw [show (k + 1) * 3 = k * 3 + 1 + 1 + 1 by omega, List.take_add_one, List.take_add_one, List.take_add_one, ih (by omega)]
   simp only [Array.getElem?_toList] at *
   rw [e0, e1, e2]
   simp [flatV]
 exact key n (Nat.le_refl _)
set_option maxHeartbeats 1000000 in
theorem all_cornersO (pa ta : Option Addr) (pl pc tl tc : Nat) (ts : List (List Int)) (w : World) (h : IsTs w ta tl tc ts) (h3 : ∀ k, k < tl → (ts.getD k []).length = 3) (hlen : tl ≤ 128) :
  Calls Tryz.prog 153 #[.agg #[.slice pa pl pc, .slice ta tl tc]] w fun e w' => e = .returned (.slice (some ⟨w.heap.size + 1, 0, none⟩) tl tl) ∧ IsCs w' (w.heap.size + 1) tl ts ∧ Below w.heap.size w w' ∧ w.heap.size + 1 < w'.heap.size ∧ (∀ i, w'.frozen? ⟨w.heap.size + 1, i, none⟩ = false) ∧ CB w' (w.heap.size + 1) tl := by
 have ui := Tryz.underlying40
 have uc := Tryz.underlying190
 obtain ⟨i0, hi, hz0, hz1, hz2⟩ := info_parts infoC
 have hmk : (Instr.makeSlice 187 (.int .i64 tl) (.int .i64 tl)).run Tryz.prog (w.alloc (.cells #[.slice pa pl pc, .slice ta tl tc] 40)) = .ok (.slice (some ⟨w.heap.size + 1, 0, none⟩) tl tl) ((w.alloc (.cells #[.slice pa pl pc, .slice ta tl tc] 40)).alloc (.cells (madeCells #[.int .i64 0, .int .i64 0, .int .i64 0] (tl * 3)) 190)) := by
  have := run_make (P := Tryz.prog) (w.alloc (.cells #[.slice pa pl pc, .slice ta tl tc] 40)) 187 190 i0 (.agg #[.int .i64 0, .int .i64 0, .int .i64 0]) Tryz.underlying187 hi hz0 .i64 .i64 tl tl (by omega) (Int.le_refl _) (by rw [hz2]; omega) (by omega)
  rw [this, hz1]; simp; rfl
 have hstart : Below w.heap.size w ((w.alloc (.cells #[.slice pa pl pc, .slice ta tl tc] 40)).alloc (.cells (madeCells #[.int .i64 0, .int .i64 0, .int .i64 0] (tl * 3)) 190)) ∧ w.heap.size + 1 < ((w.alloc (.cells #[.slice pa pl pc, .slice ta tl tc] 40)).alloc (.cells (madeCells #[.int .i64 0, .int .i64 0, .int .i64 0] (tl * 3)) 190)).heap.size ∧
   (∀ j, j < tl * 3 → ∃ v, ((w.alloc (.cells #[.slice pa pl pc, .slice ta tl tc] 40)).alloc (.cells (madeCells #[.int .i64 0, .int .i64 0, .int .i64 0] (tl * 3)) 190)).cell? ⟨w.heap.size + 1, j, none⟩ = some v) ∧ (∀ j, ((w.alloc (.cells #[.slice pa pl pc, .slice ta tl tc] 40)).alloc (.cells (madeCells #[.int .i64 0, .int .i64 0, .int .i64 0] (tl * 3)) 190)).frozen? ⟨w.heap.size + 1, j, none⟩ = false) := by
  refine ⟨((Below.refl _ _).alloc (Nat.le_refl _) _).alloc (by simp) _, by simp, fun j hj => ?_, fun j => by simp⟩
  have := made_cell3 (w.alloc (.cells #[.slice pa pl pc, .slice ta tl tc] 40)) #[.int .i64 0, .int .i64 0, .int .i64 0] (tl * 3) j 190 hj
  simpa using this
 have HST := Lib.hid hstart
 have CB0 : Hid (CB ((w.alloc (.cells #[.slice pa pl pc, .slice ta tl tc] 40)).alloc (.cells (madeCells #[.int .i64 0, .int .i64 0, .int .i64 0] (tl * 3)) 190)) (w.heap.size + 1) tl) := Lib.hid ⟨madeCells #[.int .i64 0, .int .i64 0, .int .i64 0] (tl * 3), by have := heap_alloc_new (w.alloc (.cells #[.slice pa pl pc, .slice ta tl tc] 40)) (.cells (madeCells #[.int .i64 0, .int .i64 0, .int .i64 0] (tl * 3)) 190); simpa using this, by simp [madeCells]⟩
 clear hstart
 go_enter Tryz.func153, Tryz.ntmps153
 go_wp2
 generalize hw0 : (w.alloc (.cells #[.slice pa pl pc, .slice ta tl tc] 40)).alloc (.cells (madeCells #[.int .i64 0, .int .i64 0, .int .i64 0] (tl * 3)) 190) = w0 at HST CB0 ⊢
 go_loopw [13] (fun i w' => ∃ k : Nat, k ≤ tl ∧ i = .int .i64 k ∧ Aside ((Below w.heap.size w w' ∧ w.heap.size + 1 < w'.heap.size ∧ (∀ j, j < tl * 3 → ∃ v, w'.cell? ⟨w.heap.size + 1, j, none⟩ = some v) ∧ (∀ j, w'.frozen? ⟨w.heap.size + 1, j, none⟩ = false)) ∧ IsCs w' (w.heap.size + 1) k ts ∧ CB w' (w.heap.size + 1) tl)) (fun i _ => tl - (intOf i).toNat)
 case atStart => exact ⟨0, Nat.zero_le _, rfl, HST.out, fun j hj => absurd hj (by omega), CB0.out⟩
 case round =>
  obtain ⟨k, hk, rfl, hA⟩ := hrel
  by_cases hlt : k < tl
  ·obtain ⟨⟨hB, hgs, hce, hfz⟩, hdone, hcb⟩ := hA.out
   have HCB := Lib.hid hcb
   clear hcb
   have h' := h.below hB
   obtain ⟨bt, ot, rfl, hrow⟩ := h'.some (by omega)
   obtain ⟨r1, n1, q1, cr, ir⟩ := hrow k hlt
   have hn1 : n1 = 3 := ir.1.symm.trans (h3 k hlt)
   subst hn1
   obtain ⟨br, or, rfl, hz⟩ := ir.some (by decide)
   have z0 := hz 0 (by decide)
   have z1 := hz 1 (by decide)
   have z2 := hz 2 (by decide)
   rw [Nat.add_zero] at z0
   have hk0 : (0 : Int) ≤ (k : Int) := by omega
   have hk1 : (k : Int) < (tl : Int) := by omega
   have hf0 := hfz (k * 3)
   have hf1 := hfz (k * 3 + 1)
   have hf2 := hfz (k * 3 + 2)
   obtain ⟨v0, hv0⟩ := hce (k * 3) (by omega)
   obtain ⟨v1, hv1⟩ := hce (k * 3 + 1) (by omega)
   obtain ⟨v2, hv2⟩ := hce (k * 3 + 2) (by omega)
   have HD := Lib.hid hdone
   have HC := Lib.hid hce
   have HF := Lib.hid hfz
   have HB := Lib.hid hB
   generalize hj0 : (ts.getD k []).getD 0 0 = j0 at *
   generalize hj1 : (ts.getD k []).getD 1 0 = j1 at *
   generalize hj2 : (ts.getD k []).getD 2 0 = j2 at *
   have HJ := Lib.hid (And.intro hj0 (And.intro hj1 hj2))
   clear hA hrow h' hdone hce hfz hB h hw0 HST CB0 hmk ir hz hj0 hj1 hj2 h3 hi
   go_wp2
   rename_i hKc
   refine hKc _ _ ?_
   go_wp2
   go_roundw
   case rel =>
    obtain ⟨e0, e1, e2, eo⟩ := set3k (u := .int .i64 j0) (v := .int .i64 j1) (t := .int .i64 j2) hv0 hv1 hv2
    refine ⟨k + 1, by omega, by go_num, ⟨⟨((HB.out.setCell (Nat.le_succ _) _).setCell (Nat.le_succ _) _).setCell (Nat.le_succ _) _, by simp <;> omega, fun j hj => ?_, fun j => ?_⟩, fun j hj => ?_, ((HCB.out.set _ _).set _ _).set _ _⟩⟩
    ·by_cases h0 : j = k * 3
     ·subst h0; exact ⟨_, e0⟩
     ·by_cases h1 : j = k * 3 + 1
      ·subst h1; exact ⟨_, e1⟩
      ·by_cases h2 : j = k * 3 + 2
       ·subst h2; exact ⟨_, e2⟩
       ·obtain ⟨v, hv⟩ := HC.out j hj
        exact ⟨v, by rw [eo j h0 h1 h2]; exact hv⟩
    ·simp; exact HF.out j
    ·by_cases hjk : j = k
     ·subst hjk; rw [HJ.out.1, HJ.out.2.1, HJ.out.2.2]; exact ⟨e0, e1, e2⟩
     ·obtain ⟨k0, k1, k2⟩ := HD.out j (by omega)
      exact ⟨by rw [eo _ (by omega) (by omega) (by omega)]; exact k0, by rw [eo _ (by omega) (by omega) (by omega)]; exact k1, by rw [eo _ (by omega) (by omega) (by omega)]; exact k2⟩
   case measure => simp [intOf]; omega
  ·obtain rfl : k = tl := by omega
   obtain ⟨⟨hB, hgs, hce, hfz⟩, hdone, hcb⟩ := hA.out
   have HCB := Lib.hid hcb
   clear hcb
   have HF := Lib.hid hdone
   have HB := Lib.hid hB
   have HZ := Lib.hid hfz
   clear hA hB hce hfz hdone h h3 hmk hw0 HST CB0
   go_wp2
   go_ret
   exact ⟨rfl, HF.out, HB.out, hgs, HZ.out, HCB.out⟩
end Go.Proofs.YtabccmobmppdnaaGreat
namespace Go.Proofs.YtabccmobmppdnaaGreat
open Go Fk Go.RowKit
set_option linter.unusedVariables false
set_option maxRecDepth 8000
end Go.Proofs.YtabccmobmppdnaaGreat
namespace Go.Proofs.YtabccmobmppdnaaGreat
open Go Fk Go.RowKit
set_option linter.unusedVariables false
set_option maxRecDepth 16000
end Go.Proofs.YtabccmobmppdnaaGreat
namespace Go.Proofs.YtabccmobmppdnaaGreat
open Go Fk Go.RowKit
set_option linter.unusedVariables false
set_option maxRecDepth 8000
theorem l00In' (n a b : Int) (w : World) :
  Calls Tryz.prog 80 #[.int .i64 n, .int .i64 a, .int .i64 b] w fun e w' => e = .returned (.bool (decide (a ≤ n ∧ n ≤ b))) ∧ w' = w := by
 by_cases h1 : a ≤ n
 ·by_cases h2 : n ≤ b
  ·rw [decide_eq_true (And.intro h1 h2)]
   go_enter Tryz.func80, Tryz.ntmps80
   go_wp2
   go_ret
   exact ⟨ret_bool (by simp), rfl⟩
  ·rw [decide_eq_false (fun h => h2 h.2)]
   go_enter Tryz.func80, Tryz.ntmps80
   go_wp2
   go_ret
   exact ⟨ret_bool (by simp), rfl⟩
 ·rw [decide_eq_false (fun h => h1 h.1)]
  go_enter Tryz.func80, Tryz.ntmps80
  go_wp2
  go_ret
  exact ⟨rfl, rfl⟩
theorem cs_of_owns {w : World} {base cb c n : Nat} {ts : List (List Int)} (h : w.ownsRow base 190 3 (.slice (some ⟨cb, 0, none⟩) n c) n (flatV ts n)) : IsCs w cb n ts := fun k hk => by
 refine ⟨?_, ?_, ?_⟩
 ·rw [h.cellAt _ (by omega)]; have := flatV_get ts n k 0 hk (by decide); simpa using this
 ·rw [h.cellAt _ (by omega)]; exact flatV_get ts n k 1 hk (by decide)
 ·rw [h.cellAt _ (by omega)]; exact flatV_get ts n k 2 hk (by decide)
end Go.Proofs.YtabccmobmppdnaaGreat

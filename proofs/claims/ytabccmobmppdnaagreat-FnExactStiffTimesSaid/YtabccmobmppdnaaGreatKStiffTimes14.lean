/-
Texts in one: what StiffTimes stands on, part 14. Conditions: those of each.
-/
import Derived.Test.YtabccmobmppdnaaGreatKStiffTimes13
import Derived.WalkKit
-- halved
namespace Go.Proofs.YtabccmobmppdnaaGreat
open Go Fk Go.RowKit
set_option linter.unusedVariables false
set_option maxRecDepth 8000
end Go.Proofs.YtabccmobmppdnaaGreat
namespace Go.Proofs.YtabccmobmppdnaaGreat
open Go Fk Go.RowKit
set_option linter.unusedVariables false
set_option maxRecDepth 8000
def flatV (ts : List (List Int)) : Nat → List Value
 | 0 => []
 | k + 1 => flatV ts k ++ [.int .i64 ((ts.getD k []).getD 0 0), .int .i64 ((ts.getD k []).getD 1 0), .int .i64 ((ts.getD k []).getD 2 0)]
theorem flatV_len (ts : List (List Int)) (k : Nat) : (flatV ts k).length = k * 3 := by
 induction k with
 | zero => rfl
 | succ k ih => unfold flatV; rw [List.length_append, ih]; simp; omega
end Go.Proofs.YtabccmobmppdnaaGreat
namespace Go.Proofs.YtabccmobmppdnaaGreat
open Go Fk Go.RowKit
set_option linter.unusedVariables false
set_option maxRecDepth 8000
theorem flatV_get (ts : List (List Int)) (k j i : Nat) (hj : j < k) (hi : i < 3) : (flatV ts k)[j * 3 + i]? = some (.int .i64 ((ts.getD j []).getD i 0)) := by
 induction k with
 | zero => omega
 | succ k ih =>
  unfold flatV
  by_cases h : j < k
  ·rw [List.getElem?_append_left (by rw [flatV_len]; omega)]
   exact ih h
  ·obtain rfl : j = k := by omega
   rw [List.getElem?_append_right (by rw [flatV_len]; omega), flatV_len]
   have : i = 0 ∨ i = 1 ∨ i = 2 := by omega
   rcases this with rfl | rfl | rfl
   ·rw [show j * 3 + 0 - j * 3 = 0 by omega]; rfl
   ·rw [show j * 3 + 1 - j * 3 = 1 by omega]; rfl
   ·rw [show j * 3 + 2 - j * 3 = 2 by omega]; rfl
end Go.Proofs.YtabccmobmppdnaaGreat
namespace Go.Proofs.YtabccmobmppdnaaGreat
open Go Fk Go.RowKit
set_option linter.unusedVariables false
set_option maxRecDepth 8000
end Go.Proofs.YtabccmobmppdnaaGreat
namespace Go.Proofs.YtabccmobmppdnaaGreat
namespace Reg6
open Go Reg
set_option linter.unusedVariables false
section
variable {P : Program} {ops : Array Oper} {Q : Exit → Act → World → Prop}
def lowb (ops : Array Oper) : Bool := (List.range ops.size).all fun i => ((ops[i]?).map fun o => o.after.all fun e => !Region.binds .any e || decide (e.on < i)).getD true
theorem lowb_spec {ops : Array Oper} (h : lowb ops = true) {i : Nat} {o : Oper} (ho : ops[i]? = some o) : ∀ e ∈ o.after, Region.binds .any e = true → e.on < i := by
 have hlt : i < ops.size := (Array.getElem?_eq_some_iff.1 ho).1
 unfold lowb at h
 rw [List.all_eq_true] at h
 have := h i (List.mem_range.2 hlt)
 rw [ho] at this
 simp only [Option.map_some, Option.getD_some, Array.all_eq_true_iff_forall_mem] at this
 intro e he hb
 have := this e he
 rw [hb] at this
 simpa using this
theorem all_of_none (hlow : lowb ops = true) {listed : Array Bool} (hs : listed.size = ops.size) (hr : Region.ready .any ops listed = []) : ∀ i, i < ops.size → listed.getD i false = true := by
 intro i
 induction i using Nat.strongRecOn with
 | _ i ih =>
  intro hi
  cases hl : listed.getD i false
  ·exfalso
   obtain ⟨o, ho⟩ : ∃ o, ops[i]? = some o := ⟨_, Array.getElem?_eq_getElem hi⟩
   have hm : i ∈ Region.ready .any ops listed := by
    refine mem_ready.2 ⟨?_, o, ho, fun e he hb => ih e.on (lowb_spec hlow ho e he hb) (Nat.lt_trans (lowb_spec hlow ho e he hb) hi)⟩
    have hlt : i < listed.size := by omega
    simp [hlt] at hl ⊢; exact hl
   rw [hr] at hm; cases hm
  ·rfl
theorem wpAny_inv (hlow : lowb ops = true) {Inv : Array Bool → Act → World → Prop}
  (hstep : ∀ i listed a w, listed.size = ops.size → i ∈ Region.ready .any ops listed → Inv listed a w → wpOp P ops Q i (Inv (listed.setIfInBounds i true)) a w)
  (hend : ∀ listed a w, (∀ i, i < ops.size → listed.getD i false = true) → Inv listed a w → Q .normal a w) :
  ∀ (fuel : Nat) (listed : Array Bool) (a : Act) (w : World), listed.size = ops.size → listed.toList.count false ≤ fuel → Inv listed a w → wpAny P .any ops Q fuel listed a w
 | 0, listed, a, w, hs, hf, hI => by
  have hall : ∀ i, i < ops.size → listed.getD i false = true := by
   intro i hi
   have := cnt_zero listed.toList (by omega) i (by simp; omega)
   have hlt : i < listed.size := by omega
   simp [hlt] at this ⊢; exact this
  refine ⟨?_, hend _ _ _ hall hI⟩
  cases hr : Region.ready .any ops listed with
  | nil => rfl
  | cons j l =>
   have hj : j ∈ Region.ready .any ops listed := by rw [hr]; exact List.mem_cons_self
   obtain ⟨h1, o, ho, _⟩ := mem_ready.1 hj
   have hlt : j < ops.size := (Array.getElem?_eq_some_iff.1 ho).1
   have h2 := hall j hlt
   have hlt' : j < listed.size := by omega
   simp [hlt'] at h1 h2
   rw [h1] at h2; cases h2
 | fuel + 1, listed, a, w, hs, hf, hI => by
  refine ⟨fun hr => hend _ _ _ (all_of_none hlow hs hr) hI, fun i hi => ?_⟩
  refine wpOp_mono (fun a' w' h => wpAny_inv hlow hstep hend fuel _ a' w' (by simpa using hs) ?_ h) (hstep i listed a w hs hi hI)
  obtain ⟨h1, o, ho, _⟩ := mem_ready.1 hi
  have hlt : i < listed.size := by have := (Array.getElem?_eq_some_iff.1 ho).1; omega
  have hg : listed.toList[i]? = some false := by simp [hlt] at h1 ⊢; exact h1
  have := cnt_set listed.toList i hg
  rw [Array.toList_setIfInBounds]
  omega
def tidy (ops : Array Oper) (s n : Nat) : Bool :=
 lowb ops && (ops.all fun o => o.guard.isNone) && (ops.all fun o => (o.dst.map fun d => decide (d < n)).getD true) &&
 ((List.range ops.size).all fun i => (List.range ops.size).all fun j => i == j || slotOf ops i == none || slotOf ops i != slotOf ops j) &&
 ((List.range ops.size).all fun i => (slotOf ops i).isSome || i == s) && decide (s < ops.size) && (slotOf ops s).isNone &&
 ((List.range ops.size).all fun i => (List.range ops.size).all fun j => !(behind ops i s && behind ops j i) || behind ops j s)
def Obl (P : Program) (ops : Array Oper) (s : Nat) (a0 : Act) (C : World → Prop) (D : Act → World → Prop) (G : World → World → Prop) (Rv : Nat → Value → Prop) (Rw : Nat → Value → World → Prop) (Q : Exit → Act → World → Prop) (i : Nat) (o : Oper) : Prop :=
 if i = s then
  ∀ a w, C w → (∀ t, ((List.range ops.size).all fun j => slotOf ops j != some t || behind ops i j) = true → a.eval (.tmp t) = a0.eval (.tmp t)) →
   (∀ j d, behind ops j i = true → slotOf ops j = some d → Rv j (a.eval (.tmp d)) ∧ Rw j (a.eval (.tmp d)) w) →
   o.wp P a w (fun a' w' => a' = a ∧ D a w') Q
 else if behind ops i s = true then
  ∀ a w, C w → (∀ t, ((List.range ops.size).all fun j => slotOf ops j != some t || behind ops i j) = true → a.eval (.tmp t) = a0.eval (.tmp t)) →
   (∀ j d, behind ops j i = true → slotOf ops j = some d → Rv j (a.eval (.tmp d)) ∧ Rw j (a.eval (.tmp d)) w) →
   o.wp P a w (fun a' w' => ∃ v, a' = a.put o.dst v ∧ Rv i v ∧ Rw i v w' ∧ C w' ∧ G w w') Q
 else
  ∀ a w, (∀ t, ((List.range ops.size).all fun j => slotOf ops j != some t || behind ops i j) = true → a.eval (.tmp t) = a0.eval (.tmp t)) →
   (∀ j d, behind ops j i = true → slotOf ops j = some d → Rv j (a.eval (.tmp d))) →
   o.wp P a w (fun a' w' => ∃ v, a' = a.put o.dst v ∧ Rv i v ∧ w' = w ∧ ∀ w, D a w → D (a.put o.dst v) w) Q
def OblAll (P : Program) (ops : Array Oper) (s : Nat) (a0 : Act) (C : World → Prop) (D : Act → World → Prop) (G : World → World → Prop) (Rv : Nat → Value → Prop) (Rw : Nat → Value → World → Prop) (Q : Exit → Act → World → Prop) : Nat → List Oper → Prop
 | _, [] => True
 | i, o :: l => Obl P ops s a0 C D G Rv Rw Q i o ∧ OblAll P ops s a0 C D G Rv Rw Q (i + 1) l
variable {s : Nat} {a0 : Act} {C : World → Prop} {D : Act → World → Prop} {G : World → World → Prop} {Rv : Nat → Value → Prop} {Rw : Nat → Value → World → Prop}
theorem OblAll.get :
  ∀ {l : List Oper} {k : Nat}, OblAll P ops s a0 C D G Rv Rw Q k l → ∀ {i : Nat} {o : Oper}, l[i]? = some o → Obl P ops s a0 C D G Rv Rw Q (k + i) o
 | [], _, _, _, _, h => by simp at h
 | _ :: _, _, h, 0, _, ho => by simp at ho; subst ho; exact h.1
 | _ :: l, k, h, i + 1, _, ho => by
  have := OblAll.get h.2 (i := i) (by simpa using ho)
  rwa [Nat.add_assoc, Nat.add_comm 1 i] at this
section
variable {i : Nat} {o : Oper}
theorem Obl.early (h1 : (i == s) = false) (h2 : behind ops i s = true)
  (h : ∀ a w, C w → (∀ t, ((List.range ops.size).all fun j => slotOf ops j != some t || behind ops i j) = true → a.eval (.tmp t) = a0.eval (.tmp t)) →
   (∀ j d, behind ops j i = true → slotOf ops j = some d → Rv j (a.eval (.tmp d)) ∧ Rw j (a.eval (.tmp d)) w) →
   ∀ K : Act → World → Prop, (∀ v w', Rv i v → Rw i v w' → C w' → G w w' → K (a.put o.dst v) w') → o.wp P a w K Q) : Obl P ops s a0 C D G Rv Rw Q i o := by
 unfold Obl
 rw [if_neg (by simpa using h1), if_pos h2]
 exact fun a w hC he hd => h a w hC he hd _ fun v w' k1 k2 k3 k4 => ⟨v, rfl, k1, k2, k3, k4⟩
theorem Obl.store (h1 : (i == s) = true)
  (h : ∀ a w, C w → (∀ t, ((List.range ops.size).all fun j => slotOf ops j != some t || behind ops i j) = true → a.eval (.tmp t) = a0.eval (.tmp t)) →
   (∀ j d, behind ops j i = true → slotOf ops j = some d → Rv j (a.eval (.tmp d)) ∧ Rw j (a.eval (.tmp d)) w) →
   ∀ K : Act → World → Prop, (∀ w', D a w' → K a w') → o.wp P a w K Q) : Obl P ops s a0 C D G Rv Rw Q i o := by
 unfold Obl
 rw [if_pos (by simpa using h1)]
 exact fun a w hC he hd => h a w hC he hd _ fun w' k1 => ⟨rfl, k1⟩
theorem Obl.late (h1 : (i == s) = false) (h2 : behind ops i s = false)
  (h : ∀ a w, (∀ t, ((List.range ops.size).all fun j => slotOf ops j != some t || behind ops i j) = true → a.eval (.tmp t) = a0.eval (.tmp t)) →
   (∀ j d, behind ops j i = true → slotOf ops j = some d → Rv j (a.eval (.tmp d))) →
   ∀ K : Act → World → Prop, (∀ v, Rv i v → (∀ w, D a w → D (a.put o.dst v) w) → K (a.put o.dst v) w) → o.wp P a w K Q) : Obl P ops s a0 C D G Rv Rw Q i o := by
 unfold Obl
 rw [if_neg (by simpa using h1), if_neg (by rw [h2]; decide)]
 exact fun a w he hd => h a w he hd _ fun v k1 k2 => ⟨v, rfl, k1, rfl, k2⟩
end
theorem wp_region_inv {id : Nat} {w0 : World} (hm : P.follows .mixedOrders = true) (ht : tidy ops s a0.tmps.size = true)
  (hG : ∀ j v w w', C w → G w w' → Rw j v w → Rw j v w') (hC : C { w0 with drawn := w0.drawn + 1 })
  (hO : OblAll P ops s a0 C D G Rv Rw Q 0 ops.toList)
  (hQ : ∀ a w, D a w → a.defers = a0.defers → a.tmps.size = a0.tmps.size → (∀ t, (ops.all fun o => o.dst != some t) = true → a.eval (.tmp t) = a0.eval (.tmp t)) → (∀ j d, slotOf ops j = some d → Rv j (a.eval (.tmp d))) → Q .normal a w) :
  (Code.region id ops true).wp P Q a0 w0 := by
 unfold tidy at ht
 simp only [Bool.and_eq_true] at ht
 obtain ⟨⟨⟨⟨⟨⟨⟨hlow, hgd⟩, hbd⟩, hdis⟩, hone⟩, hslt⟩, hsn⟩, hclo⟩ := ht
 have hslt := of_decide_eq_true hslt
 have slot_lt : ∀ {j d}, slotOf ops j = some d → j < ops.size := fun {j d} h => by
  unfold slotOf at h
  cases ho : ops[j]? with
  | none => rw [ho] at h; cases h
  | some o => exact (Array.getElem?_eq_some_iff.1 ho).1
 have slot_bd : ∀ {j d}, slotOf ops j = some d → d < a0.tmps.size := fun {j d} h => by
  have hj := slot_lt h
  have := Array.all_eq_true.1 hbd j hj
  unfold slotOf at h
  rw [Array.getElem?_eq_getElem hj] at h
  simp only [Option.bind_some] at h
  rw [h] at this
  simpa using this
 have slot_ne : ∀ {i j d}, slotOf ops i = some d → slotOf ops j = some d → i = j := fun {i j d} h1 h2 => by
  have a1 := slot_lt h1
  have a2 := slot_lt h2
  have := List.all_eq_true.1 (List.all_eq_true.1 hdis i (List.mem_range.2 a1)) j (List.mem_range.2 a2)
  rw [h1, h2] at this
  simpa using this
 let Inv : Array Bool → Act → World → Prop := fun listed a w =>
  (listed.getD s false = false → C w ∧ ∀ j d, listed.getD j false = true → behind ops j s = true → slotOf ops j = some d → Rw j (a.eval (.tmp d)) w) ∧
  (listed.getD s false = true → D a w) ∧ a.defers = a0.defers ∧ a.tmps.size = a0.tmps.size ∧
  (∀ t, (∀ j, slotOf ops j = some t → listed.getD j false = false) → a.eval (.tmp t) = a0.eval (.tmp t)) ∧
  (∀ j d, listed.getD j false = true → slotOf ops j = some d → Rv j (a.eval (.tmp d))) ∧ (∀ i j, listed.getD j false = true → behind ops i j = true → listed.getD i false = true)
 refine wp_region_any hm (wpAny_inv (Inv := Inv) hlow ?_ ?_ _ _ _ _ (by simp) (by simp) ⟨fun _ => ⟨hC, fun j d hj => ?_⟩, fun h => ?_, rfl, rfl, fun _ _ => rfl, ?_, ?_⟩)
 ·intro i listed a w hs hi ⟨hpre, hpost, hd, hsz, hext, hrv, hcl⟩
  obtain ⟨hun, o, ho, hdeps⟩ := mem_ready.1 hi
  have hilt : i < ops.size := (Array.getElem?_eq_some_iff.1 ho).1
  have hli : i < listed.size := by omega
  have hun' : listed.getD i false = false := by simp [hli] at hun ⊢; exact hun
  have hg : o.guard = none := by
   have := Array.all_eq_true.1 hgd i hilt
   rw [Array.getElem?_eq_getElem hilt] at ho
   cases ho
   simpa using this
  have hob := OblAll.get hO (i := i) (o := o) (by simpa using ho)
  rw [Nat.zero_add] at hob
  have he : ∀ t, ((List.range ops.size).all fun j => slotOf ops j != some t || behind ops i j) = true → a.eval (.tmp t) = a0.eval (.tmp t) := fun t htt => hext t fun j hj => by
   have := List.all_eq_true.1 htt j (List.mem_range.2 (slot_lt hj))
   rw [hj] at this
   simp at this
   cases hl : listed.getD j false
   ·rfl
   ·have := hcl i j hl this; rw [hun'] at this; cases this
  have lstd : ∀ j, behind ops j i = true → listed.getD j false = true := fun j hj => by
   obtain ⟨e, he, h1, h2⟩ := behind_spec hj ho
   rw [← h1]
   exact hdeps e he h2
  have hdst : slotOf ops i = o.dst := by unfold slotOf; rw [ho]; rfl
  have keep : ∀ v t, o.dst ≠ some t → (a.put o.dst v).eval (.tmp t) = a.eval (.tmp t) := fun v t h => Act.eval_put (fun d hd he => h (by rw [hd]; cases he; rfl))
  have lst : ∀ j, (listed.setIfInBounds i true).getD j false = true → j = i ∨ listed.getD j false = true := fun j h => by
   by_cases hji : i = j
   ·exact .inl hji.symm
   ·rw [getD_set_ne false hji] at h; exact .inr h
  have same : ∀ j, j ≠ i → (listed.setIfInBounds i true).getD j false = listed.getD j false := fun j h => getD_set_ne false (fun e => h e.symm)
  have hcl' : ∀ i' j, (listed.setIfInBounds i true).getD j false = true → behind ops i' j = true → (listed.setIfInBounds i true).getD i' false = true := fun i' j hj hb => by
   rcases lst j hj with rfl | hj'
   ·exact getD_set_true (lstd i' hb)
   ·exact getD_set_true (hcl i' j hj' hb)
  have newv : ∀ v d, slotOf ops i = some d → (a.put o.dst v).eval (.tmp d) = v := fun v d hjd => by
   rw [hdst] at hjd
   have hb := slot_bd (j := i) (by rw [hdst]; exact hjd)
   unfold Act.put Act.eval; rw [hjd]; simp; exact fun h => absurd (Nat.lt_of_lt_of_le hb (hsz ▸ h)) (Nat.lt_irrefl _)
  have oldv : ∀ v j d, listed.getD j false = true → slotOf ops j = some d → (a.put o.dst v).eval (.tmp d) = a.eval (.tmp d) := fun v j d hj' hjd => keep v d (fun h => by
   have := slot_ne (show slotOf ops i = some d by rw [hdst]; exact h) hjd
   subst this; rw [hun'] at hj'; cases hj')
  have hext' : ∀ v t, (∀ j, slotOf ops j = some t → (listed.setIfInBounds i true).getD j false = false) → (a.put o.dst v).eval (.tmp t) = a0.eval (.tmp t) := fun v t htt => by
   rw [keep v t (fun h => by
    have := htt i (by rw [hdst]; exact h)
    simp [hli] at this)]
   refine hext t fun j hj => ?_
   have := htt j hj
   cases hl : listed.getD j false
   ·rfl
   ·rw [getD_set_true hl] at this; cases this
  have hd' : ∀ v, (a.put o.dst v).defers = a0.defers := fun v => by rw [← hd]; unfold Act.put; split <;> rfl
  have hsz' : ∀ v, (a.put o.dst v).tmps.size = a0.tmps.size := fun v => by rw [← hsz]; unfold Act.put; split <;> simp
  unfold wpOp
  rw [ho]
  simp only [Region.wanted, hg, if_true]
  by_cases his : i = s
  ·subst his
   unfold Obl at hob
   rw [if_pos rfl] at hob
   obtain ⟨hCw, hrw⟩ := hpre hun'
   refine .inl (Oper.wp_mono ?_ (hob a w hCw he fun j d hj hjd => ⟨hrv j d (lstd j hj) hjd, hrw j d (lstd j hj) hj hjd⟩))
   rintro a' w' ⟨rfl, hDa⟩
   have hn : o.dst = none := by rw [← hdst]; simpa using hsn
   refine ⟨fun h => ?_, fun _ => hDa, hd, hsz, ?_, fun j d hj hjd => ?_, hcl'⟩
   ·simp [hli] at h
   ·have := hext' undef
    rw [hn] at this
    exact this
   ·rcases lst j hj with rfl | hj'
    ·rw [hdst, hn] at hjd; cases hjd
    ·exact hrv j d hj' hjd
  ·have hss := same s (fun e => his e.symm)
   by_cases hbs : behind ops i s = true
   ·unfold Obl at hob
    rw [if_neg his, if_pos hbs] at hob
    have hs0 : listed.getD s false = false := by
     cases hl : listed.getD s false
     ·rfl
     ·have := hcl i s hl hbs; rw [hun'] at this; cases this
    obtain ⟨hCw, hrw⟩ := hpre hs0
    have dep : ∀ j, behind ops j i = true → behind ops j s = true := fun j hj => by
     have hjl : j < ops.size := by
      obtain ⟨e, he, h1, h2⟩ := behind_spec hj ho
      have := lowb_spec hlow ho e he h2
      omega
     have := List.all_eq_true.1 (List.all_eq_true.1 hclo i (List.mem_range.2 hilt)) j (List.mem_range.2 hjl)
     rw [hbs, hj] at this
     simpa using this
    refine .inl (Oper.wp_mono ?_ (hob a w hCw he fun j d hj hjd => ⟨hrv j d (lstd j hj) hjd, hrw j d (lstd j hj) (dep j hj) hjd⟩))
    rintro a' w' ⟨v, rfl, k1, k2, k3, k4⟩
    refine ⟨fun _ => ⟨k3, fun j d hj hjb hjd => ?_⟩, fun h => ?_, hd' v, hsz' v, hext' v, fun j d hj hjd => ?_, hcl'⟩
    ·rcases lst j hj with rfl | hj'
     ·rw [newv v d hjd]; exact k2
     ·rw [oldv v j d hj' hjd]; exact hG _ _ _ _ hCw k4 (hrw j d hj' hjb hjd)
    ·rw [hss, hs0] at h; cases h
    ·rcases lst j hj with rfl | hj'
     ·rw [newv v d hjd]; exact k1
     ·rw [oldv v j d hj' hjd]; exact hrv j d hj' hjd
   ·unfold Obl at hob
    rw [if_neg his, if_neg hbs] at hob
    refine .inl (Oper.wp_mono ?_ (hob a w he fun j d hj hjd => hrv j d (lstd j hj) hjd))
    rintro a' w' ⟨v, rfl, k1, rfl, k2⟩
    refine ⟨fun h => ?_, fun h => ?_, hd' v, hsz' v, hext' v, fun j d hj hjd => ?_, hcl'⟩
    ·rw [hss] at h
     obtain ⟨hCw, hrw⟩ := hpre h
     refine ⟨hCw, fun j d hj hjb hjd => ?_⟩
     rcases lst j hj with rfl | hj'
     ·exact absurd hjb hbs
     ·rw [oldv v j d hj' hjd]; exact hrw j d hj' hjb hjd
    ·rw [hss] at h
     exact k2 _ (hpost h)
    ·rcases lst j hj with rfl | hj'
     ·rw [newv v d hjd]; exact k1
     ·rw [oldv v j d hj' hjd]; exact hrv j d hj' hjd
 ·intro listed a w hall ⟨_, hpost, hd, hsz, hext, hrv, _⟩
  refine hQ a w (hpost (hall s hslt)) hd hsz (fun t htt => hext t fun j hj => ?_) (fun j d hj => hrv j d (hall j (slot_lt hj)) hj)
  exfalso
  have hlt := slot_lt hj
  have := Array.all_eq_true.1 htt j hlt
  unfold slotOf at hj
  rw [Array.getElem?_eq_getElem hlt] at hj
  simp only [Option.bind_some] at hj
  rw [hj] at this
  simp at this
 ·simp at hj
  rw [Array.getElem?_replicate] at hj; split at hj <;> simp at hj
 ·simp at h
  rw [Array.getElem?_replicate] at h; split at h <;> simp at h
 ·intro j d hj
  simp at hj
  rw [Array.getElem?_replicate] at hj; split at hj <;> simp at hj
 ·intro i j hj
  simp at hj
  rw [Array.getElem?_replicate] at hj; split at hj <;> simp at hj
theorem wp_region_mix {id : Nat} {w0 : World} (m : List Bool) (hm : P.follows .mixedOrders = true) (ht : tidy ops s a0.tmps.size = true)
  (hk : maskOk ops m a0.tmps.size = true)
  (hG : ∀ j v w w', C w → G w w' → Rw j v w → Rw j v w') (hC : C { w0 with drawn := w0.drawn + 1 })
  (hO : OblAll P ops s a0 C D G Rv Rw Q 0 ops.toList)
  (hQ : ∀ (f : Nat → Value) w, D ⟨(mixL f m 0 a0.tmps.toList).toArray, a0.defers⟩ w → (∀ j d, slotOf ops j = some d → Rv j (f d)) → Q .normal ⟨(mixL f m 0 a0.tmps.toList).toArray, a0.defers⟩ w) :
  (Code.region id ops true).wp P Q a0 w0 := by
 refine wp_region_inv hm ht hG hC hO fun a w hD hd hsz hext hrv => ?_
 unfold maskOk at hk
 simp only [Bool.and_eq_true, beq_iff_eq] at hk
 obtain ⟨hml, hmk⟩ := hk
 have e : a = ⟨(mixL (fun t => a.eval (.tmp t)) m 0 a0.tmps.toList).toArray, a0.defers⟩ := by
  rw [mixL_eq _ _ _ _ (by simpa using hml) ?_]
  ·cases a with
   | mk tmps defers =>
    simp only [Act.mk.injEq]
    refine ⟨?_, hd⟩
    apply Array.ext'
    apply List.ext_getElem?
    intro i
    simp only at hsz
    by_cases hi : i < tmps.size
    ·have hi' : i < a0.tmps.size := by omega
     simp [hi, hi', Act.eval]
    ·have hi' : ¬ i < a0.tmps.size := by omega
     simp [hi, hi']
  ·intro i hi
   have hlt : i < a0.tmps.size := by
    have := (List.getElem?_eq_some_iff.1 hi).1; omega
   have h1 := List.all_eq_true.1 hmk i (List.mem_range.2 hlt)
   have h2 : m.getD i false = false := by simp [List.getD, hi]
   rw [h2, Bool.false_or] at h1
   have h3 := hext i h1
   rw [Nat.zero_add, h3]
   simp [Act.eval, hlt]
 have hQ' := hQ (fun t => a.eval (.tmp t)) w
 rw [← e] at hQ'
 exact hQ' hD fun j d hj => hrv j d hj
end
end Reg6
end Go.Proofs.YtabccmobmppdnaaGreat

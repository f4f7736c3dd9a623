/-
Texts in one: what StiffTimes stands on, part 10. Conditions: those of each.
-/
import Derived.Test.YtabccmobmppdnaaGreatKStiffTimes9
-- halved
namespace Go.Proofs.YtabccmobmppdnaaGreat
namespace Reg5
open Go Reg
set_option linter.unusedVariables false
section
variable {P : Program} {ops : Array Oper} {Q : Exit → Act → World → Prop} {md : Region.Mode}
def narrow (ops : Array Oper) (m : Nat) : Bool :=
 decide (m < ops.size) && ((List.range m).all fun i => (List.range (m + 1)).any fun j => decide (i < j) && behind ops i j) && ((List.range ops.size).all fun i => decide (i ≤ m) || behind ops m i)
theorem narrow_lt {ops : Array Oper} {m : Nat} (h : narrow ops m = true) : m < ops.size := by
 unfold narrow at h; simp only [Bool.and_eq_true, decide_eq_true_eq] at h; exact h.1.1
theorem narrow_up {ops : Array Oper} {m i : Nat} (h : narrow ops m = true) (hi : i < ops.size) (hm : m < i) : behind ops m i = true := by
 unfold narrow at h; simp only [Bool.and_eq_true] at h
 have := List.all_eq_true.1 h.2 i (List.mem_range.2 hi)
 have hn : ¬ i ≤ m := by omega
 simpa [hn] using this
theorem below_m {ops : Array Oper} {m : Nat} {L : Array Bool} (h : narrow ops m = true) (hcl : ∀ i j, L.getD j false = true → behind ops i j = true → L.getD i false = true) (hm : L.getD m false = true) :
  ∀ d i, m - i = d → i ≤ m → L.getD i false = true := by
 intro d
 induction d using Nat.strongRecOn with
 | ind d ih =>
  intro i hd hi
  by_cases e : i = m
  ·rw [e]; exact hm
  ·have hlt : i < m := by omega
   have h' := h
   unfold narrow at h'; simp only [Bool.and_eq_true] at h'
   have := List.all_eq_true.1 h'.1.2 i (List.mem_range.2 hlt)
   rw [List.any_eq_true] at this
   obtain ⟨j, hj, hb⟩ := this
   rw [Bool.and_eq_true, decide_eq_true_eq] at hb
   have hjm := List.mem_range.1 hj
   exact hcl i j (ih (m - j) (by omega) j rfl (by omega)) hb.2
def Obl (P : Program) (ops : Array Oper) (m : Nat) (a0 : Act) (C D : World → Prop) (G G' : World → World → Prop) (R : Nat → Value → World → Prop) (T : Nat → Act → World → Prop) (Q : Exit → Act → World → Prop) (i : Nat) (o : Oper) : Prop :=
 ∀ a w, (i ≤ m → C w) → (m < i → D w) → (∀ t, ((List.range ops.size).all fun j => slotOf ops j != some t || behind ops i j) = true → a.eval (.tmp t) = a0.eval (.tmp t)) →
  (∀ j, behind ops j i = true → (i ≤ m ∨ m ≤ j) → Has ops R j a w) →
  o.wp P a w (fun a' w' => ∃ v, a' = a.put o.dst v ∧ (o.dst ≠ none → R i v w') ∧ (o.dst = none → T i a w') ∧ (i < m → C w' ∧ G w w') ∧ (m ≤ i → o.dst ≠ none → D w') ∧ (m < i → o.dst ≠ none → G' w w')) Q
def OblAll (P : Program) (ops : Array Oper) (m : Nat) (a0 : Act) (C D : World → Prop) (G G' : World → World → Prop) (R : Nat → Value → World → Prop) (T : Nat → Act → World → Prop) (Q : Exit → Act → World → Prop) : Nat → List Oper → Prop
 | _, [] => True
 | i, o :: l => Obl P ops m a0 C D G G' R T Q i o ∧ OblAll P ops m a0 C D G G' R T Q (i + 1) l
theorem OblAll.get {m : Nat} {a0 : Act} {C D : World → Prop} {G G' : World → World → Prop} {R : Nat → Value → World → Prop} {T : Nat → Act → World → Prop} :
  ∀ {l : List Oper} {k : Nat}, OblAll P ops m a0 C D G G' R T Q k l → ∀ {i : Nat} {o : Oper}, l[i]? = some o → Obl P ops m a0 C D G G' R T Q (k + i) o
 | [], _, _, _, _, h => by simp at h
 | _ :: _, _, h, 0, _, ho => by simp at ho; subst ho; exact h.1
 | _ :: l, k, h, i + 1, _, ho => by
  have := OblAll.get h.2 (i := i) (by simpa using ho)
  rwa [Nat.add_assoc, Nat.add_comm 1 i] at this
section
variable {m : Nat} {a0 : Act} {C D : World → Prop} {G G' : World → World → Prop} {R : Nat → Value → World → Prop} {T : Nat → Act → World → Prop} {i : Nat} {o : Oper}
theorem Obl.early (hi : decide (i < m) = true) (hn : o.dst.isSome = true)
  (h : ∀ a w, C w → (∀ t, ((List.range ops.size).all fun j => slotOf ops j != some t || behind ops i j) = true → a.eval (.tmp t) = a0.eval (.tmp t)) →
   (∀ j, behind ops j i = true → Has ops R j a w) → ∀ K : Act → World → Prop, (∀ v w', R i v w' → C w' → G w w' → K (a.put o.dst v) w') → o.wp P a w K Q) : Obl P ops m a0 C D G G' R T Q i o := by
 have hi' := of_decide_eq_true hi
 intro a w hC _ he hd
 refine h a w (hC (by omega)) he (fun j hj => hd j hj (.inl (by omega))) _ fun v w' h1 h2 h3 => ⟨v, rfl, fun _ => h1, fun e => ?_, fun _ => ⟨h2, h3⟩, fun hm => ?_, fun hm => ?_⟩
 ·rw [e] at hn; cases hn
 ·omega
 ·omega
theorem Obl.mid (hi : decide (i = m) = true) (hn : o.dst.isSome = true)
  (h : ∀ a w, C w → (∀ t, ((List.range ops.size).all fun j => slotOf ops j != some t || behind ops i j) = true → a.eval (.tmp t) = a0.eval (.tmp t)) →
   (∀ j, behind ops j i = true → Has ops R j a w) → ∀ K : Act → World → Prop, (∀ v w', R i v w' → D w' → K (a.put o.dst v) w') → o.wp P a w K Q) : Obl P ops m a0 C D G G' R T Q i o := by
 have hi' := of_decide_eq_true hi
 intro a w hC _ he hd
 refine h a w (hC (by omega)) he (fun j hj => hd j hj (.inl (by omega))) _ fun v w' h1 h2 => ⟨v, rfl, fun _ => h1, fun e => ?_, fun hm => ?_, fun _ _ => h2, fun hm => ?_⟩
 ·rw [e] at hn; cases hn
 ·omega
 ·omega
theorem Obl.late (hi : decide (m < i) = true)
  (h : ∀ a w, D w → (∀ t, ((List.range ops.size).all fun j => slotOf ops j != some t || behind ops i j) = true → a.eval (.tmp t) = a0.eval (.tmp t)) →
   (∀ j, behind ops j i = true → m ≤ j → Has ops R j a w) → ∀ K : Act → World → Prop, (∀ v w', (o.dst ≠ none → R i v w') → (o.dst = none → T i a w') → (o.dst ≠ none → D w') → (o.dst ≠ none → G' w w') → K (a.put o.dst v) w') → o.wp P a w K Q) : Obl P ops m a0 C D G G' R T Q i o := by
 have hi' := of_decide_eq_true hi
 intro a w _ hD he hd
 refine h a w (hD (by omega)) he (fun j hj hm => hd j hj (.inr hm)) _ fun v w' h1 h2 h3 h4 => ⟨v, rfl, h1, h2, fun hm => ?_, fun _ => h3, fun _ => h4⟩
 omega
end
theorem wp_region_inv {id m : Nat} {a0 : Act} {w0 : World} {C D : World → Prop} {G G' : World → World → Prop} {R : Nat → Value → World → Prop} {T : Nat → Act → World → Prop} (hm : P.follows .mixedOrders = true) (ht : tidy ops a0.tmps.size = true) (hnar : narrow ops m = true)
  (hG : ∀ j v w w', j < m → C w → G w w' → R j v w → R j v w') (hG' : ∀ j v w w', m ≤ j → D w → G' w w' → R j v w → R j v w') (hC : C { w0 with drawn := w0.drawn + 1 })
  (hO : OblAll P ops m a0 C D G G' R T Q 0 ops.toList)
  (hQ : ∀ a w, a.defers = a0.defers → a.tmps.size = a0.tmps.size → (∀ t, (ops.all fun o => o.dst != some t) = true → a.eval (.tmp t) = a0.eval (.tmp t)) → ((∀ j, j < ops.size → slotOf ops j ≠ none) → D w ∧ ∀ j, m ≤ j → j < ops.size → Has ops R j a w) → (∀ j, HasT ops T j a w) → Q .normal a w) :
  (Code.region id ops true).wp P Q a0 w0 := by
 unfold tidy at ht
 simp only [Bool.and_eq_true] at ht
 obtain ⟨⟨⟨⟨hlow, hgd⟩, hbd⟩, hdis⟩, hlast⟩ := ht
 have slot_lt : ∀ {j d}, slotOf ops j = some d → j < ops.size := fun {j d} h => by
  unfold slotOf at h
  cases ho : ops[j]? with
  | none => rw [ho] at h; cases h
  | some o => exact (Array.getElem?_eq_some_iff.1 ho).1
 have slot_bd : ∀ {j d}, slotOf ops j = some d → d < a0.tmps.size := fun {j d} h => by
  have hj := slot_lt h
  have := Array.all_eq_true.1 hbd j hj
  unfold slotOf at h
  rw [Array.getElem?_eq_getElem hj] at h
  simp only [Option.bind_some] at h
  rw [h] at this
  simpa using this
 have slot_ne : ∀ {i j d}, slotOf ops i = some d → slotOf ops j = some d → i = j := fun {i j d} h1 h2 => by
  have a1 := slot_lt h1
  have a2 := slot_lt h2
  have := List.all_eq_true.1 (List.all_eq_true.1 hdis i (List.mem_range.2 a1)) j (List.mem_range.2 a2)
  rw [h1, h2] at this
  simpa using this
 let Inv : Array Bool → Act → World → Prop := fun listed a w => ((∀ j, j < ops.size → slotOf ops j = none → listed.getD j false = false) → (listed.getD m false = false → C w) ∧ (listed.getD m false = true → D w) ∧ ∀ j, listed.getD j false = true → (listed.getD m false = false ∨ m ≤ j) → Has ops R j a w) ∧ a.defers = a0.defers ∧ a.tmps.size = a0.tmps.size ∧
  (∀ t, (∀ j, slotOf ops j = some t → listed.getD j false = false) → a.eval (.tmp t) = a0.eval (.tmp t)) ∧
  (∀ i j, listed.getD j false = true → behind ops i j = true → listed.getD i false = true) ∧ (∀ j, listed.getD j false = true → HasT ops T j a w)
 refine wp_region_any hm (wpAny_inv (Inv := Inv) hlow ?_ ?_ _ _ _ _ (by simp) (by simp) ⟨fun _ => ⟨fun _ => hC, fun h => ?_, fun j hj => ?_⟩, rfl, rfl, fun _ _ => rfl, ?_, ?_⟩)
 ·intro i listed a w hs hi ⟨hCw0, hd, hsz, hext, hcl, hT⟩
  obtain ⟨hun, o, ho, hdeps⟩ := mem_ready.1 hi
  have hilt : i < ops.size := (Array.getElem?_eq_some_iff.1 ho).1
  have hun' : listed.getD i false = false := by
   have : i < listed.size := by omega
   simp [this] at hun ⊢; exact hun
  have hg : o.guard = none := by
   have := Array.all_eq_true.1 hgd i hilt
   rw [Array.getElem?_eq_getElem hilt] at ho
   cases ho
   simpa using this
  have hno : ∀ j, j < ops.size → slotOf ops j = none → listed.getD j false = false := fun j hlt hn => by
   cases hl : listed.getD j false
   ·rfl
   ·exfalso
    have h1 := List.all_eq_true.1 hlast j (List.mem_range.2 hlt)
    rw [hn] at h1
    simp only [bne_self_eq_false, Bool.false_or] at h1
    have h2 := List.all_eq_true.1 h1 i (List.mem_range.2 hilt)
    have hne : i ≠ j := fun e => by subst e; rw [hun'] at hl; cases hl
    simp [hne] at h2
    have := hcl i j hl h2
    rw [hun'] at this; cases this
  obtain ⟨hC1, hD1, hhas⟩ := hCw0 hno
  have side1 : i ≤ m → listed.getD m false = false := fun him => by
   cases hl : listed.getD m false
   ·rfl
   ·have := below_m hnar hcl hl _ i rfl him; rw [hun'] at this; cases this
  have lstd : ∀ j, behind ops j i = true → listed.getD j false = true := fun j hj => by
   obtain ⟨e, he, h1, h2⟩ := behind_spec hj ho
   rw [← h1]
   exact hdeps e he h2
  have side2 : m < i → listed.getD m false = true := fun him => lstd m (narrow_up hnar hilt him)
  have hmlt := narrow_lt hnar
  have hob := OblAll.get hO (i := i) (o := o) (by simpa using ho)
  rw [Nat.zero_add] at hob
  have hwp := hob a w (fun h => hC1 (side1 h)) (fun h => hD1 (side2 h)) (fun t htt => hext t fun j hj => by
    have := List.all_eq_true.1 htt j (List.mem_range.2 (slot_lt hj))
    rw [hj] at this
    simp at this
    cases hl : listed.getD j false
    ·rfl
    ·have := hcl i j hl this; rw [hun'] at this; cases this)
   (fun j hj hm => hhas j (lstd j hj) (hm.imp side1 fun h => h))
  unfold wpOp
  rw [ho]
  simp only [Region.wanted, hg, if_true]
  refine .inl (Oper.wp_mono ?_ hwp)
  rintro a' w' ⟨v, rfl, hR, hTi, hCG, hD', hGw'⟩
  have hdst : slotOf ops i = o.dst := by unfold slotOf; rw [ho]; rfl
  have keep : ∀ t, o.dst ≠ some t → (a.put o.dst v).eval (.tmp t) = a.eval (.tmp t) := fun t h => Act.eval_put (fun d hd he => h (by rw [hd]; cases he; rfl))
  have lst : ∀ j, (listed.setIfInBounds i true).getD j false = true → j = i ∨ listed.getD j false = true := fun j h => by
   by_cases hji : i = j
   ·exact .inl hji.symm
   ·rw [getD_set_ne false hji] at h; exact .inr h
  have hli : i < listed.size := by omega
  have same : ∀ j, j ≠ i → (listed.setIfInBounds i true).getD j false = listed.getD j false := fun j h => getD_set_ne false (fun e => h e.symm)
  have hHasI : ∀ d, slotOf ops i = some d → R i ((a.put o.dst v).eval (.tmp d)) w' := fun d hjd => by
   rw [hdst] at hjd
   have hb := slot_bd (j := i) (by rw [hdst]; exact hjd)
   have : (a.put o.dst v).eval (.tmp d) = v := by
    unfold Act.put Act.eval; rw [hjd]; simp; exact fun h => absurd (Nat.lt_of_lt_of_le hb (hsz ▸ h)) (Nat.lt_irrefl _)
   rw [this]; exact hR (by rw [hjd]; simp)
  have keepHas : ∀ j, listed.getD j false = true → (∀ v', R j v' w → R j v' w') → Has ops R j a w → Has ops R j (a.put o.dst v) w' := fun j hj' hup hhj d hjd => by
   rw [keep d (fun h => by
    have := slot_ne (show slotOf ops i = some d by rw [hdst]; exact h) hjd
    subst this; rw [hun'] at hj'; cases hj')]
   exact hup _ (hhj d hjd)
  refine ⟨fun hno' => ?_, ?_, ?_, ?_, ?_, ?_⟩
  ·have hne : o.dst ≠ none := fun hn => by
    have := hno' i hilt (by rw [hdst]; exact hn)
    simp [hli] at this
   rcases Nat.lt_trichotomy i m with him | him | him
   ·have hm0 := side1 (Nat.le_of_lt him)
    have hsm := same m (by omega)
    obtain ⟨hC', hGw⟩ := hCG him
    refine ⟨fun _ => hC', fun h => ?_, fun j hj hjm => ?_⟩
    ·rw [hsm, hm0] at h; cases h
    ·rcases lst j hj with rfl | hj'
     ·exact fun d hjd => hHasI d hjd
     ·have hjlt : j < m := by
       rcases Nat.lt_or_ge j m with h | h
       ·exact h
       ·exfalso
        rcases Nat.eq_or_lt_of_le h with e | e
        ·rw [← e, hm0] at hj'; cases hj'
        ·by_cases hjs : j < ops.size
         ·have := hcl m j hj' (narrow_up hnar hjs e); rw [hm0] at this; cases this
         ·have : ¬ j < listed.size := by omega
          simp [this] at hj'
      exact keepHas j hj' (fun v' => hG j v' _ _ hjlt (hC1 hm0) hGw) (hhas j hj' (.inl hm0))
   ·subst him
    refine ⟨fun h => ?_, fun _ => hD' (Nat.le_refl _) hne, fun j hj hjm => ?_⟩
    ·simp [hli] at h
    ·rcases lst j hj with rfl | hj'
     ·exact fun d hjd => hHasI d hjd
     ·exfalso
      have hm0 := side1 (Nat.le_refl _)
      have hjge : i ≤ j := by
       rcases hjm with h | h
       ·simp [hli] at h
       ·exact h
      rcases Nat.eq_or_lt_of_le hjge with e | e
      ·rw [← e, hm0] at hj'; cases hj'
      ·by_cases hjs : j < ops.size
       ·have := hcl i j hj' (narrow_up hnar hjs e); rw [hm0] at this; cases this
       ·have : ¬ j < listed.size := by omega
        simp [this] at hj'
   ·have hm1 := side2 him
    have hsm := same m (by omega)
    refine ⟨fun h => ?_, fun _ => hD' (Nat.le_of_lt him) hne, fun j hj hjm => ?_⟩
    ·rw [hsm, hm1] at h; cases h
    ·rcases lst j hj with rfl | hj'
     ·exact fun d hjd => hHasI d hjd
     ·have hjge : m ≤ j := by
       rcases hjm with h | h
       ·rw [hsm, hm1] at h; cases h
       ·exact h
      exact keepHas j hj' (fun v' => hG' j v' _ _ hjge (hD1 hm1) (hGw' him hne)) (hhas j hj' (.inr hjge))
  ·rw [← hd]; unfold Act.put; split <;> rfl
  ·rw [← hsz]; unfold Act.put; split <;> simp
  ·intro t htt
   rw [keep t (fun h => by
    have := htt i (by rw [hdst]; exact h)
    have hlt : i < listed.size := by omega
    simp [hlt] at this)]
   refine hext t fun j hj => ?_
   have := htt j hj
   cases hl : listed.getD j false
   ·rfl
   ·rw [getD_set_true hl] at this; cases this
  ·intro i' j hj hb
   rcases lst j hj with rfl | hj'
   ·refine getD_set_true ?_
    obtain ⟨e, he, h1, h2⟩ := behind_spec hb ho
    rw [← h1]; exact hdeps e he h2
   ·exact getD_set_true (hcl i' j hj' hb)
  ·intro j hj hn hlt
   rcases lst j hj with rfl | hj'
   ·rw [hdst] at hn
    have : a.put o.dst v = a := by rw [hn]; rfl
    rw [this]; exact hTi hn
   ·exfalso
    have h1 := List.all_eq_true.1 hlast j (List.mem_range.2 hlt)
    rw [hn] at h1
    simp only [bne_self_eq_false, Bool.false_or] at h1
    have h2 := List.all_eq_true.1 h1 i (List.mem_range.2 hilt)
    have hne : i ≠ j := fun e => by subst e; rw [hun'] at hj'; cases hj'
    simp [hne] at h2
    have := hcl i j hj' h2
    rw [hun'] at this; cases this
 ·intro listed a w hall ⟨hCD, hd, hsz, hext, _, hT⟩
  refine hQ a w hd hsz (fun t htt => hext t fun j hj => ?_) (fun hns => ?_) (fun j hn hlt => hT j (hall j hlt) hn hlt)
  ·exfalso
   have hlt := slot_lt hj
   have := Array.all_eq_true.1 htt j hlt
   unfold slotOf at hj
   rw [Array.getElem?_eq_getElem hlt] at hj
   simp only [Option.bind_some] at hj
   rw [hj] at this
   simp at this
  ·obtain ⟨_, hD, hh⟩ := hCD fun j hlt hn => absurd hn (hns j hlt)
   exact ⟨hD (hall m (narrow_lt hnar)), fun j hm hj => hh j (hall j hj) (.inr hm)⟩
 ·simp at h
  rw [Array.getElem?_replicate] at h; split at h <;> simp at h
 ·simp at hj
  rw [Array.getElem?_replicate] at hj; split at hj <;> simp at hj
 ·intro i j hj
  simp at hj
  rw [Array.getElem?_replicate] at hj; split at hj <;> simp at hj
 ·intro j hj
  simp at hj
  rw [Array.getElem?_replicate] at hj; split at hj <;> simp at hj
theorem wp_region_mix {id m : Nat} {a0 : Act} {w0 : World} {C D : World → Prop} {G G' : World → World → Prop} {R : Nat → Value → World → Prop} {T : Nat → Act → World → Prop} (mk : List Bool) (hm : P.follows .mixedOrders = true) (ht : tidy ops a0.tmps.size = true) (hnar : narrow ops m = true)
  (hk : maskOk ops mk a0.tmps.size = true)
  (hG : ∀ j v w w', j < m → C w → G w w' → R j v w → R j v w') (hG' : ∀ j v w w', m ≤ j → D w → G' w w' → R j v w → R j v w') (hC : C { w0 with drawn := w0.drawn + 1 })
  (hO : OblAll P ops m a0 C D G G' R T Q 0 ops.toList)
  (hQ : ∀ (f : Nat → Value) w, ((∀ j, j < ops.size → slotOf ops j ≠ none) → D w ∧ ∀ j d, m ≤ j → slotOf ops j = some d → R j (f d) w) → (∀ j, HasT ops T j ⟨(mixL f mk 0 a0.tmps.toList).toArray, a0.defers⟩ w) → Q .normal ⟨(mixL f mk 0 a0.tmps.toList).toArray, a0.defers⟩ w) :
  (Code.region id ops true).wp P Q a0 w0 := by
 refine wp_region_inv hm ht hnar hG hG' hC hO fun a w hd hsz hext hhas hT => ?_
 unfold maskOk at hk
 simp only [Bool.and_eq_true, beq_iff_eq] at hk
 obtain ⟨hml, hmk⟩ := hk
 have e : a = ⟨(mixL (fun t => a.eval (.tmp t)) mk 0 a0.tmps.toList).toArray, a0.defers⟩ := by
  rw [mixL_eq _ _ _ _ (by simpa using hml) ?_]
  ·cases a with
   | mk tmps defers =>
    simp only [Act.mk.injEq]
    refine ⟨?_, hd⟩
    apply Array.ext'
    apply List.ext_getElem?
    intro i
    simp only at hsz
    by_cases hi : i < tmps.size
    ·have hi' : i < a0.tmps.size := by omega
     simp [hi, hi', Act.eval]
    ·have hi' : ¬ i < a0.tmps.size := by omega
     simp [hi, hi']
  ·intro i hi
   have hlt : i < a0.tmps.size := by
    have := (List.getElem?_eq_some_iff.1 hi).1; omega
   have h1 := List.all_eq_true.1 hmk i (List.mem_range.2 hlt)
   have h2 : mk.getD i false = false := by simp [List.getD, hi]
   rw [h2, Bool.false_or] at h1
   have h3 := hext i h1
   rw [Nat.zero_add, h3]
   simp [Act.eval, hlt]
 have h1 : (∀ j, j < ops.size → slotOf ops j ≠ none) → D w ∧ ∀ j d, m ≤ j → slotOf ops j = some d → R j ((fun t => a.eval (.tmp t)) d) w := fun hns => by
  obtain ⟨hD, hh⟩ := hhas hns
  refine ⟨hD, fun j d hm hj => hh j hm ?_ d hj⟩
  unfold slotOf at hj
  cases ho : ops[j]? with
  | none => rw [ho] at hj; cases hj
  | some o => exact (Array.getElem?_eq_some_iff.1 ho).1
 rw [e] at hT ⊢
 exact hQ (fun t => a.eval (.tmp t)) w h1 hT
end
end Reg5
end Go.Proofs.YtabccmobmppdnaaGreat
namespace Go.Proofs.YtabccmobmppdnaaGreat
open Go Fk Go.RowKit
set_option linter.unusedVariables false
set_option maxRecDepth 8000
def LD (w0 : World) (X Z : Nat) (va vt : Value) (pl : Nat) (xs : List Value) (w : World) : Prop :=
 Below w0.heap.size w0 w ∧ w.ownsRow w0.heap.size 40 2 (.slice (some ⟨X, 0, none⟩) 1 1) 1 [va, vt] ∧ w.ownsRow w0.heap.size 40 2 (.slice (some ⟨Z, 0, none⟩) 1 1) 1 [.slice none 0 0, .slice none 0 0] ∧ w.ownsRow w0.heap.size 42 3 va pl xs
theorem LD.up {w0 w w' : World} {X Z pl : Nat} {va vt : Value} {xs : List Value} (h : LD w0 X Z va vt pl xs w) (hB : Below w.heap.size w w') : LD w0 X Z va vt pl xs w' :=
 ⟨h.1.trans (hB.mono h.1.size), owns_up h.2.1 hB, owns_up h.2.2.1 hB, owns_up h.2.2.2 hB⟩
theorem LD.cell0 {w0 w : World} {X Z pl : Nat} {va vt : Value} {xs : List Value} (h : LD w0 X Z va vt pl xs w) : w.cell? ⟨X, 0, none⟩ = some va := by rw [h.2.1.cellAt 0 (by decide)]; rfl
theorem LD.cell1 {w0 w : World} {X Z pl : Nat} {va vt : Value} {xs : List Value} (h : LD w0 X Z va vt pl xs w) : w.cell? ⟨X, 1, none⟩ = some vt := by rw [h.2.1.cellAt 1 (by decide)]; rfl
theorem LD.grow {w0 w w' : World} {X Z pl k : Nat} {va vt : Value} {xs rows : List Value} {b : Nat} (h : LD w0 X Z va vt pl xs w) (h1 : w.ownsRow b 33 1 vt k rows) (hb : w0.heap.size ≤ b) (hg : w.grownBy w' vt.ownBlock) : LD w0 X Z va vt pl xs w' :=
 ⟨h.1.grown hg h.1.size (fun k hk => Nat.le_trans hb (h1.lt k hk).1), owns_side h.2.1 h1 (by decide) hg, owns_side h.2.2.1 h1 (by decide) hg, owns_side h.2.2.2 h1 (by decide) hg⟩
theorem LD.set1 {w0 w : World} {X Z pl : Nat} {va vt : Value} {xs : List Value} (h : LD w0 X Z va vt pl xs w) (hxz : X ≠ Z) (u : Value) : LD w0 X Z va u pl xs (w.setCell ⟨X, 1, none⟩ u) := by
 have hs := h.2.1.stored 1 u
 have hl := (h.2.1.lt X rfl).1
 refine ⟨h.1.setCell hl _, hs.1, h.2.2.1.kept hs.2 (.inr (by simp [Value.ownBlock]; exact fun e => hxz e.symm)), owns_side h.2.2.2 h.2.1 (by decide) hs.2⟩
theorem mapSet {base n : Nat} {w : World} {v : Value} {ts : List (List Int)} {X j : Nat} {x2 : List Value} {b2 s2 n2 : Nat} (h : OwnT base w v n ts) (k : w.ownsRow b2 40 s2 (.slice (some ⟨X, 0, none⟩) n2 n2) n2 x2) (u : Value) : OwnT base (w.setCell ⟨X, j, none⟩ u) v n ts :=
 h.side k (grown_set w X j u) (by decide) (by decide)
set_option maxHeartbeats 1000000 in
theorem l02Own (pb : Nat) (pa ta : Option Addr) (pl pc tl tc : Nat) (cs : List C3) (ts : List (List Int)) (w : World) (c0' : w.cell? ⟨pb, 0, none⟩ = some (.slice pa pl pc)) (c1' : w.cell? ⟨pb, 1, none⟩ = some (.slice ta tl tc)) (hp : IsVs w pa pl pc cs) (ht : IsTs w ta tl tc ts) (h1 : pl ≤ 1000) (h2 : tl ≤ 1000) (h3 : ∀ j, j < tl → (ts.getD j []).length ≤ 1000) :
  Calls Tryz.prog 158 #[.pointer (some ⟨pb, 0, none⟩)] w fun e w' => (∃ va vt xs, e = .returned (.agg #[va, vt]) ∧ w'.ownsRow w.heap.size 42 3 va pl xs ∧ PV pl xs cs ∧ OwnT w.heap.size w' vt tl ts) ∧ Below w.heap.size w w' := by
 have ui := Tryz.underlying40
 obtain ⟨i0, hi, hz0, hz1, hz2⟩ := info_parts infoV
 obtain ⟨j0, hj, hy0, hy1, hy2⟩ := info_parts infoS
 obtain ⟨xs, x1, x2, x3, x4⟩ := vs_cells hp
 have lpb := World.block_lt_of_cell? _ _ c0'
 have HPA := Lib.hid hp.2.2.2.1
 have hpl := hp.1
 have C0 := Lib.hid c0'
 have C1 := Lib.hid c1'
 have HT := Lib.hid ht
 have H3 := Lib.hid h3
 have X1 := Lib.hid x1
 have X2 := Lib.hid x2
 have X3 := Lib.hid x3
 have X4 := Lib.hid x4
 have hst : ((w.alloc (.cells #[.slice none 0 0, .slice none 0 0] 40)).alloc (.cells #[] 42)).ownsRow w.heap.size 42 3 (.slice (some ⟨w.heap.size + 1, 0, none⟩) 0 0) 0 [] := by
  have := World.ownsRow_lit (base := w.heap.size) (e := 42) (size := 3) (w.alloc (.cells #[.slice none 0 0, .slice none 0 0] 40)) #[] 0 (by simp) (by decide) rfl
  simpa using this
 have HST := Lib.hid hst
 clear hst
 have C0' := Lib.hid (fun ob => cell_alloc (o := ob) c0')
 have c0'' := fun ob ob' => cell_alloc (o := ob') (cell_alloc (o := ob) c0')
 clear hp ht h3 x1 x2 x3 x4 c0' c1'
 go_enter Tryz.func158, Tryz.ntmps158
 go_wp2_with (at_builtin; go_loud (refine wpList_append_opt _ rfl _ _ 36 rfl w.heap.size 42 i0 (.agg #[.float .f32 0, .float .f32 0, .float .f32 0]) 3 12 Tryz.underlying36 hi hz0 hz1 hz2 rfl (by decide) _ 0 [] rfl HST.out pa pl pc xs rfl HPA.out X1.out ?c2 ?c3 ?c4 ?c5 ?c6 ?_))
 case c2 =>
  intro ad had j u hu
  have := X2.out ad had j u hu
  rw [World.cell?_alloc_lt (h := by have := World.block_lt_of_cell? _ _ this; simp; omega), World.cell?_alloc_lt (h := World.block_lt_of_cell? _ _ this)]
  exact this
 case c3 => exact X3.out
 case c4 => unfold maxLen; omega
 case c5 => omega
 case c6 => omega
 ·intro va w1 hown hgrow
  have hown' : w1.ownsRow w.heap.size 42 3 va pl xs := by simpa using hown
  have hzr : ((w.alloc (.cells #[.slice none 0 0, .slice none 0 0] 40)).alloc (.cells #[] 42)).ownsRow w.heap.size 40 2 (.slice (some ⟨w.heap.size, 0, none⟩) 1 1) 1 [.slice none 0 0, .slice none 0 0] :=
   (World.ownsRow_lit (base := w.heap.size) (e := 40) (size := 2) w #[.slice none 0 0, .slice none 0 0] 1 (Nat.le_refl _) (by decide) rfl).alloc _
  have hB1 : Below w.heap.size w w1 := (((Below.refl _ _).alloc (Nat.le_refl _) _).alloc (by simp) _).grown hgrow (by simp; omega) (fun k hk => by simp [Value.ownBlock] at hk; omega)
  have hlt : w.heap.size < w1.heap.size := by have := hgrow.size; simp at this; omega
  have hz1 := owns_side hzr HST.out (by decide) hgrow
  obtain ⟨qa, qc, rfl⟩ : ∃ a c, va = .slice a pl c := by
   rcases hown'.2 with ⟨rfl, e⟩ | ⟨g, c, _, rfl, _⟩
   ·exact ⟨none, 0, by rw [e]⟩
   ·exact ⟨_, _, rfl⟩
  have hX2 : LD w (w1.heap.size + 1) w.heap.size (.slice qa pl qc) (.slice (some ⟨w1.heap.size, 0, none⟩) 0 0) pl xs ((w1.alloc (.cells #[] 33)).alloc (.cells #[.slice qa pl qc, .slice (some ⟨w1.heap.size, 0, none⟩) 0 0] 40)) := by
   have r := World.ownsRow_lit (base := w.heap.size) (e := 40) (size := 2) (w1.alloc (.cells #[] 33)) #[.slice qa pl qc, .slice (some ⟨w1.heap.size, 0, none⟩) 0 0] 1 (by simp; omega) (by decide) rfl
   exact ⟨(hB1.alloc hB1.size _).alloc (by simp; omega) _, by simpa using r, (hz1.alloc _).alloc _, (hown'.alloc _).alloc _⟩
  have hT2 : OwnT w.heap.size ((w1.alloc (.cells #[] 33)).alloc (.cells #[.slice qa pl qc, .slice (some ⟨w1.heap.size, 0, none⟩) 0 0] 40)) (.slice (some ⟨w1.heap.size, 0, none⟩) 0 0) 0 ts :=
   ⟨[], (World.ownsRow_lit (base := w.heap.size) (e := 33) (size := 1) w1 #[] 0 hB1.size (by decide) rfl).alloc _, fun j hj => absurd hj (by omega)⟩
  have HX := Lib.hid hX2
  have HTT := Lib.hid hT2
  have hxz : w1.heap.size + 1 ≠ w.heap.size := by omega
  have HXZ := Lib.hid hxz
  clear hX2 hT2 hown hown' hzr hgrow hz1 hxz c0'' hB1
  go_wp2
  generalize (w1.alloc (.cells #[] 33)).alloc (.cells #[.slice qa pl qc, .slice (some ⟨w1.heap.size, 0, none⟩) 0 0] 40) = W2 at *
  generalize (.slice (some ⟨w1.heap.size, 0, none⟩) 0 0 : Value) = vt0 at *
  generalize w1.heap.size + 1 = X at *
  go_loopw [4] (fun i w' => ∃ k : Nat, k ≤ tl ∧ i = .int .i64 k ∧ Aside (∃ vt, LD w X w.heap.size (.slice qa pl qc) vt pl xs w' ∧ OwnT w.heap.size w' vt k ts)) (fun i _ => tl - (intOf i).toNat)
  case atStart => exact ⟨0, Nat.zero_le _, rfl, _, HX.out, HTT.out⟩
  case round =>
   obtain ⟨k, hk, hik, hA⟩ := hrel
   subst hik
   obtain ⟨vt, hD, hTk⟩ := hA.out
   have kb1 := cell_below hD.1 C1.out
   have HD := Lib.hid hD
   have HTK := Lib.hid hTk
   by_cases hlt : k < tl
   ·have h' := HT.out.below hD.1
    obtain ⟨bt, ot, rfl, hrow⟩ := h'.some (by omega)
    obtain ⟨r1, n1, q1, cr, ir⟩ := hrow k hlt
    have hn1 := ir.1
    have hn2 := H3.out k hlt
    have hk0 : (0 : Int) ≤ (k : Int) := by omega
    have hk1 : (k : Int) < (tl : Int) := by omega
    have IR := Lib.hid ir
    have CR := Lib.hid cr
    clear hA hD hTk h' hrow ir cr HX HTT
    go_wp2_with fail
    refine Reg5.wp_region_mix (m := 11) (C := fun w' => Below wr.heap.size wr w') (D := fun w' => LD w X w.heap.size (.slice qa pl qc) vt pl xs w') (G := fun w1 w2 => Below w1.heap.size w1 w2) (G' := fun w1 w2 => w2 = w1) (R := fun i v w' => match i with | 0 => v = .pointer (some ⟨X, 1, none⟩) | 1 => v = vt | 2 => v = .pointer (some ⟨pb, 0, none⟩) | 3 => v = .pointer (some ⟨pb, 0, none⟩) | 4 => v = .pointer (some ⟨pb, 1, none⟩) | 5 => v = .slice (some ⟨bt, ot, none⟩) tl tc | 6 => v = .int .i64 (k : Int) | 7 => v = .pointer (some ⟨bt, ot + k, none⟩) | 8 => v = .slice r1 n1 q1 | 9 => w'.ownsRow w.heap.size 2 1 v n1 (ints (ts.getD k [])) | 10 => ∃ b u, v = .slice (some ⟨b, 0, none⟩) 1 1 ∧ w'.cell? ⟨b, 0, none⟩ = some u ∧ w'.ownsRow w.heap.size 2 1 u n1 (ints (ts.getD k [])) | 11 => OwnT w.heap.size w' v (k + 1) ts | 12 => v = .pointer (some ⟨X, 1, none⟩) | _ => True) (T := fun i _ w' => match i with | 13 => ∃ vt', LD w X w.heap.size (.slice qa pl qc) vt' pl xs w' ∧ OwnT w.heap.size w' vt' (k + 1) ts | _ => True) [false, false, false, false, false, false, false, false, false, false, false, false, false, false, false, false, false, false, false, false, false, false, true, true, true, true, true, true, true, true, true, true, true, true, true, false]
     (by kernel_rfl) (by kernel_rfl) (by kernel_rfl) (by kernel_rfl) ?_ ?_ (below_drewN (Below.refl _ _) 1) ?_ ?_
    ·intro j v w1 w2 _ _ hG hR
     match j with
     | 0 => exact hR
     | 1 => exact hR
     | 2 => exact hR
     | 3 => exact hR
     | 4 => exact hR
     | 5 => exact hR
     | 6 => exact hR
     | 7 => exact hR
     | 8 => exact hR
     | 9 => exact owns_up hR hG
     | 10 => obtain ⟨b, u, e, hc, ho⟩ := hR; exact ⟨b, u, e, cell_below hG hc, owns_up ho hG⟩
     | 11 => exact OwnT.up hR hG
     | 12 => exact hR
     | _ + 13 => trivial
    ·intro j v w1 w2 _ _ hG hR
     rw [hG]; exact hR
    ·refine ⟨?_, ?_, ?_, ?_, ?_, ?_, ?_, ?_, ?_, ?_, ?_, ?_, ?_, ?_, trivial⟩
     ·refine Reg5.Obl.early rfl rfl ?_
      rintro a w1 HC hx hd K hK
      replace HC := Lib.hid HC
      have t3 : a.tmps[3]?.getD undef = .pointer (some ⟨X, 0, none⟩) := Reg.slot_val (hx 3 (by kernel_rfl))
      go_simp
      exact hK _ _ rfl HC.out (Below.refl _ _)
     ·refine Reg5.Obl.early rfl rfl ?_
      rintro a w1 HC hx hd K hK
      replace HC := Lib.hid HC
      have t22 : a.tmps[22]?.getD undef = .pointer (some ⟨X, 1, none⟩) := Reg.slot_val (hd 0 (by kernel_rfl) 22 rfl)
      have y1 := (HD.out.up HC.out).cell1
      go_simp
      exact hK _ _ rfl HC.out (Below.refl _ _)
     ·refine Reg5.Obl.early rfl rfl ?_
      rintro a w1 HC hx hd K hK
      replace HC := Lib.hid HC
      have t0 : a.tmps[0]?.getD undef = .pointer (some ⟨pb, 0, none⟩) := Reg.slot_val (hx 0 (by kernel_rfl))
      go_simp
      exact hK _ _ rfl HC.out (Below.refl _ _)
     ·refine Reg5.Obl.early rfl rfl ?_
      rintro a w1 HC hx hd K hK
      replace HC := Lib.hid HC
      have t24 : a.tmps[24]?.getD undef = .pointer (some ⟨pb, 0, none⟩) := Reg.slot_val (hd 2 (by kernel_rfl) 24 rfl)
      go_simp
      exact hK _ _ rfl HC.out (Below.refl _ _)
     ·refine Reg5.Obl.early rfl rfl ?_
      rintro a w1 HC hx hd K hK
      replace HC := Lib.hid HC
      have t25 : a.tmps[25]?.getD undef = .pointer (some ⟨pb, 0, none⟩) := Reg.slot_val (hd 3 (by kernel_rfl) 25 rfl)
      go_simp
      exact hK _ _ rfl HC.out (Below.refl _ _)
     ·refine Reg5.Obl.early rfl rfl ?_
      rintro a w1 HC hx hd K hK
      replace HC := Lib.hid HC
      have t26 : a.tmps[26]?.getD undef = .pointer (some ⟨pb, 1, none⟩) := Reg.slot_val (hd 4 (by kernel_rfl) 26 rfl)
      have y1 := cell_below HC.out kb1
      go_simp
      exact hK _ _ rfl HC.out (Below.refl _ _)
     ·refine Reg5.Obl.early rfl rfl ?_
      rintro a w1 HC hx hd K hK
      replace HC := Lib.hid HC
      have t4 : a.tmps[4]?.getD undef = .int .i64 (k : Int) := Reg.slot_val (hx 4 (by kernel_rfl))
      go_simp
      exact hK _ _ rfl HC.out (Below.refl _ _)
     ·refine Reg5.Obl.early rfl rfl ?_
      rintro a w1 HC hx hd K hK
      replace HC := Lib.hid HC
      have t27 : a.tmps[27]?.getD undef = .slice (some ⟨bt, ot, none⟩) tl tc := Reg.slot_val (hd 5 (by kernel_rfl) 27 rfl)
      have t28 : a.tmps[28]?.getD undef = .int .i64 (k : Int) := Reg.slot_val (hd 6 (by kernel_rfl) 28 rfl)
      go_simp
      exact hK _ _ rfl HC.out (Below.refl _ _)
     ·refine Reg5.Obl.early rfl rfl ?_
      rintro a w1 HC hx hd K hK
      replace HC := Lib.hid HC
      have t29 : a.tmps[29]?.getD undef = .pointer (some ⟨bt, ot + k, none⟩) := Reg.slot_val (hd 7 (by kernel_rfl) 29 rfl)
      have y1 := cell_below HC.out CR.out
      go_simp
      exact hK _ _ rfl HC.out (Below.refl _ _)
     ·refine Reg5.Obl.early rfl rfl ?_
      rintro a w1 HC hx hd K hK
      replace HC := Lib.hid HC
      have t30 : a.tmps[30]?.getD undef = .slice r1 n1 q1 := Reg.slot_val (hd 8 (by kernel_rfl) 30 rfl)
      go_simp
      refine (l00Own r1 n1 q1 (ts.getD k []) w1 (IR.out.below HC.out) (by omega)).mono ?_
      rintro e w2 ⟨⟨v, rfl, ho⟩, hB2⟩
      exact hK _ _ (owns_low ho (HD.out.up HC.out).1.size) (HC.out.trans (hB2.mono HC.out.size)) hB2
     ·refine Reg5.Obl.early rfl rfl ?_
      rintro a w1 HC hx hd K hK
      replace HC := Lib.hid HC
      have g := hd 9 (by kernel_rfl) 31 rfl
      obtain ⟨u, hu⟩ : ∃ u, u = a.eval (.tmp 31) := ⟨_, rfl⟩
      have t31 : a.tmps[31]?.getD undef = u := Reg.slot_val hu.symm
      have g' : w1.ownsRow w.heap.size 2 1 u n1 (ints (ts.getD k [])) := by rw [hu]; exact g
      have G := Lib.hid g'
      obtain ⟨ru, cu, rfl⟩ := owns_slice g'
      have e0 : (w1.alloc (.cells #[.slice ru n1 cu] 33)).cell? ⟨w1.heap.size, 0, none⟩ = some (.slice ru n1 cu) := by simp
      have E0 := Lib.hid e0
      clear g hu e0
      go_simp
      exact hK _ _ ⟨w1.heap.size, _, rfl, E0.out, G.out.alloc _⟩ (HC.out.alloc HC.out.size _) ((Below.refl _ _).alloc (Nat.le_refl _) _)
     ·refine Reg5.Obl.mid rfl rfl ?_
      rintro a w1 hC hx hd K hK
      have t23 : a.eval (.tmp 23) = vt := hd 1 (by kernel_rfl) 23 rfl
      obtain ⟨b, u, t32, hc, hu⟩ := hd 10 (by kernel_rfl) 32 rfl
      have hD1 := HD.out.up hC
      obtain ⟨rows, hr, hrs⟩ := HTK.out.up hC
      refine wp_append_own w1 _ _ 23 rfl w.heap.size 33 j0 (.slice none 0 0) 1 24 Tryz.underlying23 hj hy0 hy1 hy2 rfl (by decide) vt k rows t23 hr ⟨b, 0, none⟩ 1 1 [u] t32 rfl (fun j u' hj => ?_) (fun u' hu' => ?_) (by unfold maxLen; omega) (by omega) hD1.1.size ?_
      ·match j, hj with
       | 0, hj => simp at hj; subst hj; rw [addr_add']; exact hc
      ·simp at hu'; subst hu'; exact owns_one hu
      ·intro v' w2 ho hg _
       exact hK _ _ (OwnT.snoc hr hrs (by rw [hn1]; exact hu) hg ho) (hD1.grow hr (Nat.le_refl _) hg)
     ·refine Reg5.Obl.late rfl ?_
      rintro a w1 hD1 hx hd K hK
      have HC := Lib.hid hD1; clear hD1
      have t3 : a.tmps[3]?.getD undef = .pointer (some ⟨X, 0, none⟩) := Reg.slot_val (hx 3 (by kernel_rfl))
      go_simp
      exact hK _ _ (fun _ => rfl) (fun h => by cases h) (fun _ => HC.out) (fun _ => rfl)
     ·refine Reg5.Obl.late rfl ?_
      rintro a w1 hD1 hx hd K hK
      have HC := Lib.hid hD1
      have y1 := hD1.cell1
      have f1 := hD1.2.1.frozenAt 1
      clear hD1
      have t34 : a.tmps[34]?.getD undef = .pointer (some ⟨X, 1, none⟩) := Reg.slot_val (hd 12 (by kernel_rfl) (by omega) 34 rfl)
      have g := hd 11 (by kernel_rfl) (by omega) 33 rfl
      obtain ⟨u, hu⟩ : ∃ u, u = a.eval (.tmp 33) := ⟨_, rfl⟩
      have t33 : a.tmps[33]?.getD undef = u := Reg.slot_val hu.symm
      have g' : OwnT w.heap.size w1 u (k + 1) ts := by rw [hu]; exact g
      have G := Lib.hid g'
      obtain ⟨ru, cu, rfl⟩ := OwnT.slice g'
      clear g hu g'
      go_simp
      exact hK undef _ (fun h => absurd rfl h) (fun _ => ⟨_, HC.out.set1 HXZ.out _, mapSet G.out HC.out.2.1 _⟩) (fun h => absurd rfl h) (fun h => absurd rfl h)
    ·rintro f wz _ hT
     obtain ⟨vt', hD', hT'⟩ := hT 13 (by kernel_rfl) (by decide)
     have HD' := Lib.hid hD'
     have HT' := Lib.hid hT'
     clear hD' hT' hT
     simp only [Reg.mixL]
     go_wp2
     go_roundw
     case rel => exact ⟨k + 1, by omega, by go_num, vt', HD'.out, HT'.out⟩
     case measure => simp [intOf]; omega
   ·obtain rfl : k = tl := by omega
    have l0 := hD.cell0
    have l1 := hD.cell1
    have z0 : wr.cell? ⟨w.heap.size, 0, none⟩ = some (.slice none 0 0) := by rw [hD.2.2.1.cellAt 0 (by decide)]; rfl
    have z1 : wr.cell? ⟨w.heap.size, 1, none⟩ = some (.slice none 0 0) := by rw [hD.2.2.1.cellAt 1 (by decide)]; rfl
    have f0 := hD.2.2.1.frozenAt 0
    have f1 := hD.2.2.1.frozenAt 1
    obtain ⟨ru, cu, rfl⟩ := OwnT.slice hTk
    have HD := Lib.hid hD
    have HTK := Lib.hid hTk
    clear hA hD hTk
    go_wp2
    have x0 : ∀ u, (wr.setCell ⟨w.heap.size, 0, none⟩ u).cell? ⟨w.heap.size, 1, none⟩ = some (.slice none 0 0) := fun u => by rw [World.cell?_setCell_other _ _ _ _ (by simp)]; exact z1
    have r1 : ∀ u v, ((wr.setCell ⟨w.heap.size, 0, none⟩ u).setCell ⟨w.heap.size, 1, none⟩ v).cell? ⟨w.heap.size, 1, none⟩ = some v := fun u v => World.cell?_setCell_same _ _ _ (x0 u)
    have r0 : ∀ u v, ((wr.setCell ⟨w.heap.size, 0, none⟩ u).setCell ⟨w.heap.size, 1, none⟩ v).cell? ⟨w.heap.size, 0, none⟩ = some u := fun u v => by rw [World.cell?_setCell_other _ _ _ _ (by simp)]; exact World.cell?_setCell_same _ _ _ z0
    have hZ := HD.out.2.2.1.stored 0 (.slice qa pl qc)
    have hZ2 := hZ.1.stored 1 (.slice ru k cu)
    refine bodyPost_ret (v := .agg #[.slice qa pl qc, .slice ru k cu]) (by simp [results, Tryz.results158, go_sem, r0, r1]) rfl ⟨⟨_, _, xs, rfl, ?_, X4.out, ?_⟩, ?_⟩
    ·exact owns_side (owns_side HD.out.2.2.2 HD.out.2.2.1 (by decide) hZ.2) hZ.1 (by decide) hZ2.2
    ·exact (HTK.out.side HD.out.2.2.1 hZ.2 (by decide) (by decide)).side hZ.1 hZ2.2 (by decide) (by decide)
    ·exact (HD.out.1.setCell (Nat.le_refl _) _).setCell (Nat.le_refl _) _
end Go.Proofs.YtabccmobmppdnaaGreat
namespace Go.Proofs.YtabccmobmppdnaaGreat
open Go Fk Go.RowKit
set_option linter.unusedVariables false
set_option maxRecDepth 8000
end Go.Proofs.YtabccmobmppdnaaGreat
namespace Go.Proofs.YtabccmobmppdnaaGreat
open Go Fk Go.RowKit
set_option linter.unusedVariables false
set_option maxRecDepth 8000
end Go.Proofs.YtabccmobmppdnaaGreat
namespace Go.Proofs.YtabccmobmppdnaaGreat
open Go Fk Go.RowKit
set_option linter.unusedVariables false
set_option maxRecDepth 8000
def LV (lo hi : Nat) (a : Option Addr) : Prop := ∀ x, a = some x → ∃ g, x = ⟨g, 0, none⟩ ∧ lo ≤ g ∧ g < hi
def LT (lo hi : Nat) (w : World) (a : Option Addr) (n : Nat) : Prop := ∀ x, a = some x → ∃ g, x = ⟨g, 0, none⟩ ∧ lo ≤ g ∧ g < hi ∧ ∀ i, i < n → ∃ b m c, w.cell? ⟨g, i, none⟩ = some (.slice b m c) ∧ ∀ y, b = some y → ∃ h o, y = ⟨h, o, none⟩ ∧ lo ≤ h ∧ h < hi
theorem LT.below {lo hi n : Nat} {w w' : World} {a : Option Addr} (h : LT lo hi w a n) (hB : Below w.heap.size w w') : LT lo hi w' a n := fun x hx => by
 obtain ⟨g, e, h1, h2, h3⟩ := h x hx
 refine ⟨g, e, h1, h2, fun i hlt => ?_⟩
 obtain ⟨b, m, c, hc, hb⟩ := h3 i hlt
 exact ⟨b, m, c, cell_below hB hc, hb⟩
theorem LV.wide {lo hi lo' hi' : Nat} {a : Option Addr} (h : LV lo hi a) (h1 : lo' ≤ lo) (h2 : hi ≤ hi') : LV lo' hi' a := fun x hx => by
 obtain ⟨g, e, k1, k2⟩ := h x hx
 exact ⟨g, e, by omega, by omega⟩
theorem LT.wide {lo hi lo' hi' n : Nat} {w : World} {a : Option Addr} (h : LT lo hi w a n) (h1 : lo' ≤ lo) (h2 : hi ≤ hi') : LT lo' hi' w a n := fun x hx => by
 obtain ⟨g, e, k1, k2, k3⟩ := h x hx
 refine ⟨g, e, by omega, by omega, fun i hlt => ?_⟩
 obtain ⟨b, m, c, hc, hb⟩ := k3 i hlt
 refine ⟨b, m, c, hc, fun y hy => ?_⟩
 obtain ⟨q, o, e, u1, u2⟩ := hb y hy
 exact ⟨q, o, e, by omega, by omega⟩
theorem cell0_of {w : World} {b Z : Nat} {e : TypeId} {x y : Value} (h : w.ownsRow b e 2 (.slice (some ⟨Z, 0, none⟩) 1 1) 1 [x, y]) : w.cell? ⟨Z, 0, none⟩ = some x := by rw [h.cellAt 0 (by decide)]; rfl
theorem cell1_of {w : World} {b Z : Nat} {e : TypeId} {x y : Value} (h : w.ownsRow b e 2 (.slice (some ⟨Z, 0, none⟩) 1 1) 1 [x, y]) : w.cell? ⟨Z, 1, none⟩ = some y := by rw [h.cellAt 1 (by decide)]; rfl
theorem lv_of_owns {w : World} {base n : Nat} {e : TypeId} {s c : Nat} {a : Option Addr} {xs : List Value} (h : w.ownsRow base e s (.slice a n c) n xs) : LV base w.heap.size a := fun x hx => by
 subst hx
 rcases h.2 with ⟨e, _⟩ | ⟨g, c, cur, e, hb, hh, _⟩
 ·cases e
 ·have := h.lt g (by rw [e]; rfl)
  cases e
  exact ⟨g, rfl, this⟩
theorem lt_of_owns {w : World} {base n : Nat} {c : Nat} {a : Option Addr} {ts : List (List Int)} (h : OwnT base w (.slice a n c) n ts) : LT base w.heap.size w a n := fun x hx => by
 obtain ⟨rows, h1, h2⟩ := h
 obtain ⟨g, e, u1, u2⟩ := lv_of_owns h1 x hx
 subst hx
 subst e
 refine ⟨g, rfl, u1, u2, fun i hlt => ?_⟩
 obtain ⟨u, e1, e2⟩ := h2 i hlt
 obtain ⟨b, c', rfl⟩ := owns_slice e2
 refine ⟨b, _, c', by rw [h1.cellAt i (by omega)]; exact e1, fun y hy => ?_⟩
 obtain ⟨q, e, v1, v2⟩ := lv_of_owns e2 y hy
 exact ⟨q, 0, e, v1, v2⟩
def PVf (n : Nat) (xs : List Value) (F : Nat → C3) : Prop := ∀ j, j < n → ∃ p q r, xs[j * 3]? = some (.float .f32 p) ∧ xs[j * 3 + 1]? = some (.float .f32 q) ∧ xs[j * 3 + 2]? = some (.float .f32 r) ∧ FV .f32 p (F j).1 ∧ FV .f32 q (F j).2.1 ∧ FV .f32 r (F j).2.2
theorem vs_owned {w : World} {base n c : Nat} {a : Option Addr} {xs : List Value} {cs : List C3} (h : w.ownsRow base 42 3 (.slice a n c) n xs) (hn : cs.length = n) (hp : PV n xs cs) : IsVs w a n c cs := by
 obtain ⟨a', c', e, hI⟩ := vs_of_owns h hn hp
 cases e
 exact hI
theorem ts_wf {w : World} {a : Option Addr} {n c : Nat} {ts : List (List Int)} (h : IsTs w a n c ts) : ∀ j, j < n → ∀ z ∈ ts.getD j [], (Lit.int .i64 z).wf = true := fun j hj => by
 obtain ⟨h1, h2, h3, h4, h5⟩ := h
 cases a with
 | none => have := (h4 rfl).1; omega
 | some x =>
  obtain ⟨b, m, c', hc, hI⟩ := h5 x rfl j hj
  exact hI.2.2.2.1
def scaleC' (c : C3) (q : Option Nat) : C3 := (fop .mul .f32 c.1 q, fop .mul .f32 c.2.1 q, fop .mul .f32 c.2.2 q)
theorem tri_partsh {n : Nat} {t : List Int} (h : triB n t = true) : t.length = 3 ∧ (∀ i, i < 3 → 0 ≤ t.getD i 0 ∧ (t.getD i 0).toNat < n) := by
 unfold triB at h
 simp only [Bool.and_eq_true, decide_eq_true_eq] at h
 obtain ⟨⟨h3, ⟨h0, h1⟩, h2⟩, _⟩ := h
 refine ⟨h3, fun i hi => ?_⟩
 have a0 := of_decide_eq_true h0
 have a1 := of_decide_eq_true h1
 have a2 := of_decide_eq_true h2
 have : i = 0 ∨ i = 1 ∨ i = 2 := by omega
 rcases this with rfl | rfl | rfl <;> omega
theorem valid_rowh {cs : List C3} {ts : List (List Int)} {k : Nat} (h : validB cs ts = true) (hk : k < ts.length) : triB cs.length (ts.getD k []) = true := by
 unfold validB at h
 simp only [Bool.and_eq_true] at h
 have := List.all_eq_true.1 h.2 (ts[k]) (List.getElem_mem hk)
 simpa [List.getD, hk] using this
theorem rows3h {cs : List C3} {ts : List (List Int)} (h : validB cs ts = true) : ∀ k, k < ts.length → (ts.getD k []).length = 3 := fun k hk => (tri_partsh (valid_rowh h hk)).1
theorem valid_pl {cs : List C3} {ts : List (List Int)} (h : validB cs ts = true) : cs.length ≤ 64 ∧ ts.length ≤ 128 := by
 unfold validB at h; simp at h; exact h.1
end Go.Proofs.YtabccmobmppdnaaGreat

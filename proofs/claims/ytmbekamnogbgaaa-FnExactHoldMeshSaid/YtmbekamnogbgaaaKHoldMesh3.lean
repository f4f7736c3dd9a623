/-
Texts in one: what HoldMesh stands on, part 3. Conditions: those of each.
-/
import Derived.Test.YtmbekamnogbgaaaKHoldMesh2
import Derived.Orders
import Derived.BigFrame
import Derived.Deep.Draws

/-
A region whose order is open, whose operations may give values that hang on the world: one proof for each operation serves every order. Conditions: no operation is guarded, every edge leads to an earlier operation, no slot is written twice.
-/
namespace Go.Proofs.Ytmbekamnogbgaaa
namespace Reg
open Go
set_option linter.unusedVariables false

def low (ops : Array Oper) : Bool := (List.range ops.size).all fun i => ((ops[i]?).map fun o => o.after.all fun e => decide (e.on < i)).getD true
theorem low_spec {ops : Array Oper} (h : low ops = true) {i : Nat} {o : Oper} (ho : ops[i]? = some o) : ∀ e ∈ o.after, e.on < i := by
  have hlt : i < ops.size := (Array.getElem?_eq_some_iff.1 ho).1
  unfold low at h
  rw [List.all_eq_true] at h
  have := h i (List.mem_range.2 hlt)
  rw [ho] at this
  simp only [Option.map_some, Option.getD_some, Array.all_eq_true_iff_forall_mem, decide_eq_true_eq] at this
  exact this

theorem cnt_set : ∀ (l : List Bool) (i : Nat), l[i]? = some false → (l.set i true).count false + 1 = l.count false
  | [], i, h => by simp at h
  | b :: l, 0, h => by simp at h; subst h; simp
  | b :: l, i + 1, h => by
    have ih := cnt_set l i (by simpa using h)
    simp only [List.set_cons_succ, List.count_cons]
    omega
theorem cnt_zero : ∀ (l : List Bool), l.count false = 0 → ∀ i : Nat, i < l.length → l[i]? = some true
  | [], _, i, hi => by simp at hi
  | b :: l, h, i, hi => by
    cases b
    · simp at h
    · cases i with
      | zero => rfl
      | succ i => simpa using cnt_zero l (by simpa using h) i (by simpa using hi)

section
variable {P : Program} {ops : Array Oper} {Q : Exit → Act → World → Prop} {md : Region.Mode}

theorem all_of_none (hlow : low ops = true) {listed : Array Bool} (hs : listed.size = ops.size) (hr : Region.ready md ops listed = []) : ∀ i, i < ops.size → listed.getD i false = true := by
  intro i
  induction i using Nat.strongRecOn with
  | _ i ih =>
    intro hi
    cases hl : listed.getD i false
    · exfalso
      obtain ⟨o, ho⟩ : ∃ o, ops[i]? = some o := ⟨_, Array.getElem?_eq_getElem hi⟩
      have hm : i ∈ Region.ready md ops listed := by
        refine mem_ready.2 ⟨?_, o, ho, fun e he _ => ih e.on (low_spec hlow ho e he) (Nat.lt_trans (low_spec hlow ho e he) hi)⟩
        have hlt : i < listed.size := by omega
        simp [hlt] at hl ⊢; exact hl
      rw [hr] at hm; cases hm
    · rfl

theorem wpAny_inv (hlow : low ops = true) {Inv : Array Bool → Act → World → Prop}
    (hstep : ∀ i listed a w, listed.size = ops.size → i ∈ Region.ready md ops listed → Inv listed a w → wpOp P ops Q i (Inv (listed.setIfInBounds i true)) a w)
    (hend : ∀ listed a w, (∀ i, i < ops.size → listed.getD i false = true) → Inv listed a w → Q .normal a w) :
    ∀ (fuel : Nat) (listed : Array Bool) (a : Act) (w : World), listed.size = ops.size → listed.toList.count false ≤ fuel → Inv listed a w → wpAny P md ops Q fuel listed a w
  | 0, listed, a, w, hs, hf, hI => by
    have hall : ∀ i, i < ops.size → listed.getD i false = true := by
      intro i hi
      have := cnt_zero listed.toList (by omega) i (by simp; omega)
      have hlt : i < listed.size := by omega
      simp [hlt] at this ⊢; exact this
    refine ⟨?_, hend _ _ _ hall hI⟩
    cases hr : Region.ready md ops listed with
    | nil => rfl
    | cons j l =>
      have hj : j ∈ Region.ready md ops listed := by rw [hr]; exact List.mem_cons_self
      obtain ⟨h1, o, ho, _⟩ := mem_ready.1 hj
      have hlt : j < ops.size := (Array.getElem?_eq_some_iff.1 ho).1
      have h2 := hall j hlt
      have hlt' : j < listed.size := by omega
      simp [hlt'] at h1 h2
      rw [h1] at h2; cases h2
  | fuel + 1, listed, a, w, hs, hf, hI => by
    refine ⟨fun hr => hend _ _ _ (all_of_none hlow hs hr) hI, fun i hi => ?_⟩
    refine wpOp_mono (fun a' w' h => wpAny_inv hlow hstep hend fuel _ a' w' (by simpa using hs) ?_ h) (hstep i listed a w hs hi hI)
    obtain ⟨h1, o, ho, _⟩ := mem_ready.1 hi
    have hlt : i < listed.size := by have := (Array.getElem?_eq_some_iff.1 ho).1; omega
    have hg : listed.toList[i]? = some false := by simp [hlt] at h1 ⊢; exact h1
    have := cnt_set listed.toList i hg
    rw [Array.toList_setIfInBounds]
    omega

/-- The slot that an operation writes. -/
def slotOf (ops : Array Oper) (j : Nat) : Option Tmp := (ops[j]?).bind (·.dst)
/-- Operation j stands behind operation i. -/
def behind (ops : Array Oper) (i j : Nat) : Bool := ((ops[j]?).map fun o => o.after.any fun e => e.on == i && Region.binds .any e).getD false

def tidy (ops : Array Oper) (n : Nat) : Bool :=
  low ops && (ops.all fun o => o.guard.isNone) && (ops.all fun o => (o.dst.map fun d => decide (d < n)).getD true) &&
  ((List.range ops.size).all fun i => (List.range ops.size).all fun j => i == j || slotOf ops i == none || slotOf ops i != slotOf ops j) &&
  (List.range ops.size).all fun j => slotOf ops j != none || (List.range ops.size).all fun i => i == j || behind ops i j
theorem slot_val {a : Act} {t : Tmp} {v : Value} (h : a.eval (.tmp t) = v) : a.tmps[t]?.getD undef = v := by simpa [Act.eval] using h
/-- What is known of the slot of operation j. -/
def Has (ops : Array Oper) (R : Nat → Value → World → Prop) (j : Nat) (a : Act) (w : World) : Prop := ∀ d, slotOf ops j = some d → R j (a.eval (.tmp d)) w
/-- What is known of the frame and the world behind an operation without a slot, which comes last. -/
def HasT (ops : Array Oper) (T : Nat → Act → World → Prop) (j : Nat) (a : Act) (w : World) : Prop := slotOf ops j = none → j < ops.size → T j a w
theorem behind_spec {ops : Array Oper} {i j : Nat} {o : Oper} (h : behind ops i j = true) (ho : ops[j]? = some o) : ∃ e ∈ o.after, e.on = i ∧ Region.binds .any e = true := by
  unfold behind at h
  rw [ho] at h
  simp only [Option.map_some, Option.getD_some] at h
  obtain ⟨k, hk, hp⟩ := Array.any_eq_true.1 h
  simp only [Bool.and_eq_true, beq_iff_eq] at hp
  exact ⟨_, Array.getElem_mem hk, hp.1, hp.2⟩
/-- What is asked of operation i. -/
def Obl (P : Program) (ops : Array Oper) (a0 : Act) (C : World → Prop) (G : World → World → Prop) (R : Nat → Value → World → Prop) (T : Nat → Act → World → Prop) (Q : Exit → Act → World → Prop) (i : Nat) (o : Oper) : Prop :=
  ∀ a w, C w → (∀ t, ((List.range ops.size).all fun j => slotOf ops j != some t || behind ops i j) = true → a.eval (.tmp t) = a0.eval (.tmp t)) →
    (∀ j, behind ops j i = true → Has ops R j a w) →
    o.wp P a w (fun a' w' => ∃ v, a' = a.put o.dst v ∧ (o.dst ≠ none → R i v w') ∧ (o.dst = none → T i a w') ∧ C w' ∧ G w w') Q
def OblAll (P : Program) (ops : Array Oper) (a0 : Act) (C : World → Prop) (G : World → World → Prop) (R : Nat → Value → World → Prop) (T : Nat → Act → World → Prop) (Q : Exit → Act → World → Prop) : Nat → List Oper → Prop
  | _, [] => True
  | i, o :: l => Obl P ops a0 C G R T Q i o ∧ OblAll P ops a0 C G R T Q (i + 1) l
theorem OblAll.get {a0 : Act} {C : World → Prop} {G : World → World → Prop} {R : Nat → Value → World → Prop} {T : Nat → Act → World → Prop} :
    ∀ {l : List Oper} {k : Nat}, OblAll P ops a0 C G R T Q k l → ∀ {i : Nat} {o : Oper}, l[i]? = some o → Obl P ops a0 C G R T Q (k + i) o
  | [], _, _, _, _, h => by simp at h
  | _ :: _, _, h, 0, _, ho => by simp at ho; subst ho; exact h.1
  | _ :: l, k, h, i + 1, _, ho => by
    have := OblAll.get h.2 (i := i) (by simpa using ho)
    rwa [Nat.add_assoc, Nat.add_comm 1 i] at this

theorem Obl.mk {a0 : Act} {C : World → Prop} {G : World → World → Prop} {R : Nat → Value → World → Prop} {T : Nat → Act → World → Prop} {i : Nat} {o : Oper}
    (h : ∀ a w, C w → (∀ t, ((List.range ops.size).all fun j => slotOf ops j != some t || behind ops i j) = true → a.eval (.tmp t) = a0.eval (.tmp t)) →
      (∀ j, behind ops j i = true → Has ops R j a w) → ∀ K : Act → World → Prop, (∀ v w', (o.dst ≠ none → R i v w') → (o.dst = none → T i a w') → C w' → G w w' → K (a.put o.dst v) w') → o.wp P a w K Q) : Obl P ops a0 C G R T Q i o :=
  fun a w hC he hd => h a w hC he hd _ fun v w' h1 h2 h3 h4 => ⟨v, rfl, h1, h2, h3, h4⟩

theorem wp_region_inv {id : Nat} {a0 : Act} {w0 : World} {C : World → Prop} {G : World → World → Prop} {R : Nat → Value → World → Prop} {T : Nat → Act → World → Prop} (hm : P.follows .mixedOrders = true) (ht : tidy ops a0.tmps.size = true)
    (hG : ∀ j v w w', C w → G w w' → R j v w → R j v w') (hC : C { w0 with drawn := w0.drawn + 1 })
    (hO : OblAll P ops a0 C G R T Q 0 ops.toList)
    (hQ : ∀ a w, C w → a.defers = a0.defers → a.tmps.size = a0.tmps.size → (∀ t, (ops.all fun o => o.dst != some t) = true → a.eval (.tmp t) = a0.eval (.tmp t)) → (∀ j, j < ops.size → Has ops R j a w) → (∀ j, HasT ops T j a w) → Q .normal a w) :
    (Code.region id ops true).wp P Q a0 w0 := by
  unfold tidy at ht
  simp only [Bool.and_eq_true] at ht
  obtain ⟨⟨⟨⟨hlow, hgd⟩, hbd⟩, hdis⟩, hlast⟩ := ht
  have slot_lt : ∀ {j d}, slotOf ops j = some d → j < ops.size := fun {j d} h => by
    unfold slotOf at h
    cases ho : ops[j]? with
    | none => rw [ho] at h; cases h
    | some o => exact (Array.getElem?_eq_some_iff.1 ho).1
  have slot_bd : ∀ {j d}, slotOf ops j = some d → d < a0.tmps.size := fun {j d} h => by
    have hj := slot_lt h
    have := Array.all_eq_true.1 hbd j hj
    unfold slotOf at h
    rw [Array.getElem?_eq_getElem hj] at h
    simp only [Option.bind_some] at h
    rw [h] at this
    simpa using this
  have slot_ne : ∀ {i j d}, slotOf ops i = some d → slotOf ops j = some d → i = j := fun {i j d} h1 h2 => by
    have a1 := slot_lt h1
    have a2 := slot_lt h2
    have := List.all_eq_true.1 (List.all_eq_true.1 hdis i (List.mem_range.2 a1)) j (List.mem_range.2 a2)
    rw [h1, h2] at this
    simpa using this
  let Inv : Array Bool → Act → World → Prop := fun listed a w => C w ∧ a.defers = a0.defers ∧ a.tmps.size = a0.tmps.size ∧
    (∀ t, (∀ j, slotOf ops j = some t → listed.getD j false = false) → a.eval (.tmp t) = a0.eval (.tmp t)) ∧
    (∀ j, listed.getD j false = true → Has ops R j a w) ∧ (∀ i j, listed.getD j false = true → behind ops i j = true → listed.getD i false = true) ∧ (∀ j, listed.getD j false = true → HasT ops T j a w)
  refine wp_region_any hm (wpAny_inv (Inv := Inv) hlow ?_ ?_ _ _ _ _ (by simp) (by simp) ⟨hC, rfl, rfl, fun _ _ => rfl, ?_, ?_, ?_⟩)
  · intro i listed a w hs hi ⟨hCw, hd, hsz, hext, hhas, hcl, hT⟩
    obtain ⟨hun, o, ho, hdeps⟩ := mem_ready.1 hi
    have hilt : i < ops.size := (Array.getElem?_eq_some_iff.1 ho).1
    have hun' : listed.getD i false = false := by
      have : i < listed.size := by omega
      simp [this] at hun ⊢; exact hun
    have hg : o.guard = none := by
      have := Array.all_eq_true.1 hgd i hilt
      rw [Array.getElem?_eq_getElem hilt] at ho
      cases ho
      simpa using this
    have hob := OblAll.get hO (i := i) (o := o) (by simpa using ho)
    rw [Nat.zero_add] at hob
    have hwp := hob a w hCw (fun t htt => hext t fun j hj => by
        have := List.all_eq_true.1 htt j (List.mem_range.2 (slot_lt hj))
        rw [hj] at this
        simp at this
        cases hl : listed.getD j false
        · rfl
        · have := hcl i j hl this; rw [hun'] at this; cases this)
      (fun j hj => hhas j (by
        obtain ⟨e, he, h1, h2⟩ := behind_spec hj ho
        rw [← h1]
        exact hdeps e he h2))
    unfold wpOp
    rw [ho]
    simp only [Region.wanted, hg, if_true]
    refine .inl (Oper.wp_mono ?_ hwp)
    rintro a' w' ⟨v, rfl, hR, hTi, hC', hGw⟩
    have hdst : slotOf ops i = o.dst := by unfold slotOf; rw [ho]; rfl
    have keep : ∀ t, o.dst ≠ some t → (a.put o.dst v).eval (.tmp t) = a.eval (.tmp t) := fun t h => Act.eval_put (fun d hd he => h (by rw [hd]; cases he; rfl))
    have lst : ∀ j, (listed.setIfInBounds i true).getD j false = true → j = i ∨ listed.getD j false = true := fun j h => by
      by_cases hji : i = j
      · exact .inl hji.symm
      · rw [getD_set_ne false hji] at h; exact .inr h
    refine ⟨hC', ?_, ?_, ?_, ?_, ?_, ?_⟩
    · rw [← hd]; unfold Act.put; split <;> rfl
    · rw [← hsz]; unfold Act.put; split <;> simp
    · intro t htt
      rw [keep t (fun h => by
        have := htt i (by rw [hdst]; exact h)
        have hlt : i < listed.size := by omega
        simp [hlt] at this)]
      refine hext t fun j hj => ?_
      have := htt j hj
      cases hl : listed.getD j false
      · rfl
      · rw [getD_set_true hl] at this; cases this
    · intro j hj d hjd
      rcases lst j hj with rfl | hj'
      · rw [hdst] at hjd
        have hb := slot_bd (j := j) (by rw [hdst]; exact hjd)
        have : (a.put o.dst v).eval (.tmp d) = v := by
          unfold Act.put Act.eval; rw [hjd]; simp; exact fun h => absurd (Nat.lt_of_lt_of_le hb (hsz ▸ h)) (Nat.lt_irrefl _)
        rw [this]; exact hR (by rw [hjd]; simp)
      · rw [keep d (fun h => by
          have := slot_ne (show slotOf ops i = some d by rw [hdst]; exact h) hjd
          subst this; rw [hun'] at hj'; cases hj')]
        exact hG _ _ _ _ hCw hGw (hhas j hj' d hjd)
    · intro i' j hj hb
      rcases lst j hj with rfl | hj'
      · refine getD_set_true ?_
        obtain ⟨e, he, h1, h2⟩ := behind_spec hb ho
        rw [← h1]; exact hdeps e he h2
      · exact getD_set_true (hcl i' j hj' hb)
    · intro j hj hn hlt
      rcases lst j hj with rfl | hj'
      · rw [hdst] at hn
        have : a.put o.dst v = a := by rw [hn]; rfl
        rw [this]; exact hTi hn
      · exfalso
        have h1 := List.all_eq_true.1 hlast j (List.mem_range.2 hlt)
        rw [hn] at h1
        simp only [bne_self_eq_false, Bool.false_or] at h1
        have h2 := List.all_eq_true.1 h1 i (List.mem_range.2 hilt)
        have hne : i ≠ j := fun e => by subst e; rw [hun'] at hj'; cases hj'
        simp [hne] at h2
        have := hcl i j hj' h2
        rw [hun'] at this; cases this
  · intro listed a w hall ⟨hCw, hd, hsz, hext, hhas, _, hT⟩
    refine hQ a w hCw hd hsz (fun t htt => hext t fun j hj => ?_) (fun j hj => hhas j (hall j hj)) (fun j hn hlt => hT j (hall j hlt) hn hlt)
    exfalso
    have hlt := slot_lt hj
    have := Array.all_eq_true.1 htt j hlt
    unfold slotOf at hj
    rw [Array.getElem?_eq_getElem hlt] at hj
    simp only [Option.bind_some] at hj
    rw [hj] at this
    simp at this
  · intro j hj
    simp at hj
    rw [Array.getElem?_replicate] at hj; split at hj <;> simp at hj
  · intro i j hj
    simp at hj
    rw [Array.getElem?_replicate] at hj; split at hj <;> simp at hj
  · intro j hj
    simp at hj
    rw [Array.getElem?_replicate] at hj; split at hj <;> simp at hj

/-- A frame whose marked slots are given anew. -/
def mixL (f : Nat → Value) : List Bool → Nat → List Value → List Value
  | true :: m, k, _ :: l => f k :: mixL f m (k + 1) l
  | false :: m, k, v :: l => v :: mixL f m (k + 1) l
  | _, _, _ => []
theorem mixL_eq (f : Nat → Value) : ∀ (m : List Bool) (k : Nat) (l : List Value), m.length = l.length → (∀ i, m[i]? = some false → l[i]? = some (f (k + i))) → mixL f m k l = (List.range' k l.length).map f
  | [], k, [], _, _ => rfl
  | true :: m, k, v :: l, hl, h => by
    rw [mixL, mixL_eq f m (k + 1) l (by simpa using hl) (fun i hi => by have := h (i + 1) (by simpa using hi); rw [show k + 1 + i = k + (i + 1) by omega]; simpa using this)]
    simp [List.range'_succ]
  | false :: m, k, v :: l, hl, h => by
    have h0 := h 0 rfl
    rw [mixL, mixL_eq f m (k + 1) l (by simpa using hl) (fun i hi => by have := h (i + 1) (by simpa using hi); rw [show k + 1 + i = k + (i + 1) by omega]; simpa using this)]
    simp at h0
    simp [List.range'_succ, h0]
  | [], _, _ :: _, hl, _ => by simp at hl
  | _ :: _, _, [], hl, _ => by simp at hl
def maskOk (ops : Array Oper) (m : List Bool) (n : Nat) : Bool := (m.length == n) && (List.range n).all fun t => m.getD t false || ops.all fun o => o.dst != some t

theorem wp_region_mix {id : Nat} {a0 : Act} {w0 : World} {C : World → Prop} {G : World → World → Prop} {R : Nat → Value → World → Prop} {T : Nat → Act → World → Prop} (m : List Bool) (hm : P.follows .mixedOrders = true) (ht : tidy ops a0.tmps.size = true)
    (hk : maskOk ops m a0.tmps.size = true)
    (hG : ∀ j v w w', C w → G w w' → R j v w → R j v w') (hC : C { w0 with drawn := w0.drawn + 1 })
    (hO : OblAll P ops a0 C G R T Q 0 ops.toList)
    (hQ : ∀ (f : Nat → Value) w, C w → (∀ j d, slotOf ops j = some d → R j (f d) w) → (∀ j, HasT ops T j ⟨(mixL f m 0 a0.tmps.toList).toArray, a0.defers⟩ w) → Q .normal ⟨(mixL f m 0 a0.tmps.toList).toArray, a0.defers⟩ w) :
    (Code.region id ops true).wp P Q a0 w0 := by
  refine wp_region_inv hm ht hG hC hO fun a w hCw hd hsz hext hhas hT => ?_
  unfold maskOk at hk
  simp only [Bool.and_eq_true, beq_iff_eq] at hk
  obtain ⟨hml, hmk⟩ := hk
  have e : a = ⟨(mixL (fun t => a.eval (.tmp t)) m 0 a0.tmps.toList).toArray, a0.defers⟩ := by
    rw [mixL_eq _ _ _ _ (by simpa using hml) ?_]
    · cases a with
      | mk tmps defers =>
        simp only [Act.mk.injEq]
        refine ⟨?_, hd⟩
        apply Array.ext'
        apply List.ext_getElem?
        intro i
        simp only at hsz
        by_cases hi : i < tmps.size
        · have hi' : i < a0.tmps.size := by omega
          simp [hi, hi', Act.eval]
        · have hi' : ¬ i < a0.tmps.size := by omega
          simp [hi, hi']
    · intro i hi
      have hlt : i < a0.tmps.size := by
        have := (List.getElem?_eq_some_iff.1 hi).1; omega
      have h1 := List.all_eq_true.1 hmk i (List.mem_range.2 hlt)
      have h2 : m.getD i false = false := by simp [List.getD, hi]
      rw [h2, Bool.false_or] at h1
      have h3 := hext i h1
      rw [Nat.zero_add, h3]
      simp [Act.eval, hlt]
  have h1 : ∀ j d, slotOf ops j = some d → R j ((fun t => a.eval (.tmp t)) d) w := fun j d hj => hhas j (by
    unfold slotOf at hj
    cases ho : ops[j]? with
    | none => rw [ho] at hj; cases hj
    | some o => exact (Array.getElem?_eq_some_iff.1 ho).1) d hj
  rw [e] at hT ⊢
  exact hQ (fun t => a.eval (.tmp t)) w hCw h1 hT
end
end Reg
end Go.Proofs.Ytmbekamnogbgaaa


/-
Inner and cross products: what the program returns. Conditions: none beyond that the words fit.
-/
namespace Go.Proofs.Ytmbekamnogbgaaa
open Go Fk Go.RowKit
set_option linter.unusedVariables false
set_option maxRecDepth 8000

def isF (c : Option Nat) (v : Value) : Prop := ∃ r, v = .float .f32 r ∧ FV .f32 r c

theorem impl_InnerOf (x y z x' y' z' : Nat) (w : World) (c d e c' d' e' : Option Nat) (h1 : FV .f32 x c) (h2 : FV .f32 y d) (h3 : FV .f32 z e) (h1' : FV .f32 x' c') (h2' : FV .f32 y' d') (h3' : FV .f32 z' e') :
    Calls Try.prog 164 #[vv x y z, vv x' y' z'] w fun en w' => ∃ a, en = .returned (.float .f32 a) ∧ FV .f32 a (fop .add .f32 (fop .add .f32 (fop .mul .f32 c c') (fop .mul .f32 d d')) (fop .mul .f32 e e')) ∧ Below w.heap.size w w' := by
  have u := Try.underlying31
  have uv := Try.underlying34
  go_enter Try.func164, Try.ntmps164
  go_wp2_with fail
  have k0 : (((w.alloc (.cells #[.float .f32 x, .float .f32 y, .float .f32 z] 34)).alloc (.cells #[.float .f32 x', .float .f32 y', .float .f32 z'] 34)).drewN 1).cell? ⟨w.heap.size, 0, none⟩ = some (.float .f32 x) := by simp
  have k1 : (((w.alloc (.cells #[.float .f32 x, .float .f32 y, .float .f32 z] 34)).alloc (.cells #[.float .f32 x', .float .f32 y', .float .f32 z'] 34)).drewN 1).cell? ⟨w.heap.size, 1, none⟩ = some (.float .f32 y) := by simp
  have k2 : (((w.alloc (.cells #[.float .f32 x, .float .f32 y, .float .f32 z] 34)).alloc (.cells #[.float .f32 x', .float .f32 y', .float .f32 z'] 34)).drewN 1).cell? ⟨w.heap.size, 2, none⟩ = some (.float .f32 z) := by simp
  have k3 : (((w.alloc (.cells #[.float .f32 x, .float .f32 y, .float .f32 z] 34)).alloc (.cells #[.float .f32 x', .float .f32 y', .float .f32 z'] 34)).drewN 1).cell? ⟨w.heap.size + 1, 0, none⟩ = some (.float .f32 x') := by simp
  have k4 : (((w.alloc (.cells #[.float .f32 x, .float .f32 y, .float .f32 z] 34)).alloc (.cells #[.float .f32 x', .float .f32 y', .float .f32 z'] 34)).drewN 1).cell? ⟨w.heap.size + 1, 1, none⟩ = some (.float .f32 y') := by simp
  have k5 : (((w.alloc (.cells #[.float .f32 x, .float .f32 y, .float .f32 z] 34)).alloc (.cells #[.float .f32 x', .float .f32 y', .float .f32 z'] 34)).drewN 1).cell? ⟨w.heap.size + 1, 2, none⟩ = some (.float .f32 z') := by simp
  refine Reg.wp_region_mix (C := fun w' => (w'.cell? ⟨w.heap.size, 0, none⟩ = some (.float .f32 x) ∧ w'.cell? ⟨w.heap.size, 1, none⟩ = some (.float .f32 y) ∧ w'.cell? ⟨w.heap.size, 2, none⟩ = some (.float .f32 z) ∧ w'.cell? ⟨w.heap.size + 1, 0, none⟩ = some (.float .f32 x') ∧ w'.cell? ⟨w.heap.size + 1, 1, none⟩ = some (.float .f32 y') ∧ w'.cell? ⟨w.heap.size + 1, 2, none⟩ = some (.float .f32 z')) ∧ Below w.heap.size w w') (G := fun _ _ => True) (R := fun i v _ => match i with | 0 => v = .pointer (some ⟨w.heap.size, 0, none⟩) | 1 => v = .float .f32 x | 2 => v = .pointer (some ⟨w.heap.size + 1, 0, none⟩) | 3 => v = .float .f32 x' | 4 => isF (fop .mul .f32 c c') v | 5 => v = .pointer (some ⟨w.heap.size, 1, none⟩) | 6 => v = .float .f32 y | 7 => v = .pointer (some ⟨w.heap.size + 1, 1, none⟩) | 8 => v = .float .f32 y' | 9 => isF (fop .mul .f32 d d') v | 10 => isF (fop .add .f32 (fop .mul .f32 c c') (fop .mul .f32 d d')) v | 11 => v = .pointer (some ⟨w.heap.size, 2, none⟩) | 12 => v = .float .f32 z | 13 => v = .pointer (some ⟨w.heap.size + 1, 2, none⟩) | 14 => v = .float .f32 z' | 15 => isF (fop .mul .f32 e e') v | 16 => isF (fop .add .f32 (fop .add .f32 (fop .mul .f32 c c') (fop .mul .f32 d d')) (fop .mul .f32 e e')) v | 17 => isF (fop .add .f32 (fop .add .f32 (fop .mul .f32 c c') (fop .mul .f32 d d')) (fop .mul .f32 e e')) v | _ => True) (T := fun _ a w' => True) [false, false, false, false, true, true, true, true, true, true, true, true, true, true, true, true, true, true, true, true, true, true]
    (by kernel_rfl) (by kernel_rfl) (by kernel_rfl) (fun _ _ _ _ _ _ h => h) ⟨⟨k0, k1, k2, k3, k4, k5⟩, below_drewN (((Below.refl _ _).alloc (Nat.le_refl _) _).alloc (by simp) _) 1⟩ ?_ ?_
  · refine ⟨Reg.Obl.mk ?_, Reg.Obl.mk ?_, Reg.Obl.mk ?_, Reg.Obl.mk ?_, Reg.Obl.mk ?_, Reg.Obl.mk ?_, Reg.Obl.mk ?_, Reg.Obl.mk ?_, Reg.Obl.mk ?_, Reg.Obl.mk ?_, Reg.Obl.mk ?_, Reg.Obl.mk ?_, Reg.Obl.mk ?_, Reg.Obl.mk ?_, Reg.Obl.mk ?_, Reg.Obl.mk ?_, Reg.Obl.mk ?_, Reg.Obl.mk ?_, trivial⟩
    · rintro a w1 ⟨hcs, hB⟩ hx hd K hK
      have hcs' := hcs
      obtain ⟨c0, c1, c2, c3, c4, c5⟩ := hcs'
      have t2 : a.tmps[2]?.getD undef = .pointer (some ⟨w.heap.size, 0, none⟩) := Reg.slot_val (hx 2 (by kernel_rfl))
      go_simp
      exact hK _ _ (fun _ => rfl) (fun h => by cases h) ⟨hcs, hB⟩ trivial
    · rintro a w1 ⟨hcs, hB⟩ hx hd K hK
      have hcs' := hcs
      obtain ⟨c0, c1, c2, c3, c4, c5⟩ := hcs'
      have t5 : a.tmps[5]?.getD undef = .pointer (some ⟨w.heap.size, 0, none⟩) := Reg.slot_val (hd 0 (by kernel_rfl) 5 rfl)
      go_simp
      exact hK _ _ (fun _ => rfl) (fun h => by cases h) ⟨hcs, hB⟩ trivial
    · rintro a w1 ⟨hcs, hB⟩ hx hd K hK
      have hcs' := hcs
      obtain ⟨c0, c1, c2, c3, c4, c5⟩ := hcs'
      have t3 : a.tmps[3]?.getD undef = .pointer (some ⟨w.heap.size + 1, 0, none⟩) := Reg.slot_val (hx 3 (by kernel_rfl))
      go_simp
      exact hK _ _ (fun _ => rfl) (fun h => by cases h) ⟨hcs, hB⟩ trivial
    · rintro a w1 ⟨hcs, hB⟩ hx hd K hK
      have hcs' := hcs
      obtain ⟨c0, c1, c2, c3, c4, c5⟩ := hcs'
      have t7 : a.tmps[7]?.getD undef = .pointer (some ⟨w.heap.size + 1, 0, none⟩) := Reg.slot_val (hd 2 (by kernel_rfl) 7 rfl)
      go_simp
      exact hK _ _ (fun _ => rfl) (fun h => by cases h) ⟨hcs, hB⟩ trivial
    · rintro a w1 ⟨hcs, hB⟩ hx hd K hK
      have hcs' := hcs
      obtain ⟨c0, c1, c2, c3, c4, c5⟩ := hcs'
      have t6 : a.tmps[6]?.getD undef = .float .f32 x := Reg.slot_val (hd 1 (by kernel_rfl) 6 rfl)
      have t8 : a.tmps[8]?.getD undef = .float .f32 x' := Reg.slot_val (hd 3 (by kernel_rfl) 8 rfl)
      go_simp
      refine (impl_product32 _ _ _ _ _ h1 h1').mono ?_
      rintro en w2 ⟨r, rfl, hr, n1, rfl⟩
      exact hK _ _ (fun _ => ⟨r, rfl, hr⟩) (fun h => by cases h) ⟨hcs, below_drewN hB _⟩ trivial
    · rintro a w1 ⟨hcs, hB⟩ hx hd K hK
      have hcs' := hcs
      obtain ⟨c0, c1, c2, c3, c4, c5⟩ := hcs'
      have t2 : a.tmps[2]?.getD undef = .pointer (some ⟨w.heap.size, 0, none⟩) := Reg.slot_val (hx 2 (by kernel_rfl))
      go_simp
      exact hK _ _ (fun _ => rfl) (fun h => by cases h) ⟨hcs, hB⟩ trivial
    · rintro a w1 ⟨hcs, hB⟩ hx hd K hK
      have hcs' := hcs
      obtain ⟨c0, c1, c2, c3, c4, c5⟩ := hcs'
      have t10 : a.tmps[10]?.getD undef = .pointer (some ⟨w.heap.size, 1, none⟩) := Reg.slot_val (hd 5 (by kernel_rfl) 10 rfl)
      go_simp
      exact hK _ _ (fun _ => rfl) (fun h => by cases h) ⟨hcs, hB⟩ trivial
    · rintro a w1 ⟨hcs, hB⟩ hx hd K hK
      have hcs' := hcs
      obtain ⟨c0, c1, c2, c3, c4, c5⟩ := hcs'
      have t3 : a.tmps[3]?.getD undef = .pointer (some ⟨w.heap.size + 1, 0, none⟩) := Reg.slot_val (hx 3 (by kernel_rfl))
      go_simp
      exact hK _ _ (fun _ => rfl) (fun h => by cases h) ⟨hcs, hB⟩ trivial
    · rintro a w1 ⟨hcs, hB⟩ hx hd K hK
      have hcs' := hcs
      obtain ⟨c0, c1, c2, c3, c4, c5⟩ := hcs'
      have t12 : a.tmps[12]?.getD undef = .pointer (some ⟨w.heap.size + 1, 1, none⟩) := Reg.slot_val (hd 7 (by kernel_rfl) 12 rfl)
      go_simp
      exact hK _ _ (fun _ => rfl) (fun h => by cases h) ⟨hcs, hB⟩ trivial
    · rintro a w1 ⟨hcs, hB⟩ hx hd K hK
      have hcs' := hcs
      obtain ⟨c0, c1, c2, c3, c4, c5⟩ := hcs'
      have t11 : a.tmps[11]?.getD undef = .float .f32 y := Reg.slot_val (hd 6 (by kernel_rfl) 11 rfl)
      have t13 : a.tmps[13]?.getD undef = .float .f32 y' := Reg.slot_val (hd 8 (by kernel_rfl) 13 rfl)
      go_simp
      refine (impl_product32 _ _ _ _ _ h2 h2').mono ?_
      rintro en w2 ⟨r, rfl, hr, n1, rfl⟩
      exact hK _ _ (fun _ => ⟨r, rfl, hr⟩) (fun h => by cases h) ⟨hcs, below_drewN hB _⟩ trivial
    · rintro a w1 ⟨hcs, hB⟩ hx hd K hK
      have hcs' := hcs
      obtain ⟨c0, c1, c2, c3, c4, c5⟩ := hcs'
      obtain ⟨r9, g9, f9⟩ := hd 4 (by kernel_rfl) 9 rfl
      have t9 := Reg.slot_val g9
      clear g9
      obtain ⟨r14, g14, f14⟩ := hd 9 (by kernel_rfl) 14 rfl
      have t14 := Reg.slot_val g14
      clear g14
      go_simp
      exact hK _ _ (fun _ => ⟨_, rfl, FV_fR f9 f14⟩) (fun h => by cases h) ⟨hcs, below_drewN hB _⟩ trivial
    · rintro a w1 ⟨hcs, hB⟩ hx hd K hK
      have hcs' := hcs
      obtain ⟨c0, c1, c2, c3, c4, c5⟩ := hcs'
      have t2 : a.tmps[2]?.getD undef = .pointer (some ⟨w.heap.size, 0, none⟩) := Reg.slot_val (hx 2 (by kernel_rfl))
      go_simp
      exact hK _ _ (fun _ => rfl) (fun h => by cases h) ⟨hcs, hB⟩ trivial
    · rintro a w1 ⟨hcs, hB⟩ hx hd K hK
      have hcs' := hcs
      obtain ⟨c0, c1, c2, c3, c4, c5⟩ := hcs'
      have t16 : a.tmps[16]?.getD undef = .pointer (some ⟨w.heap.size, 2, none⟩) := Reg.slot_val (hd 11 (by kernel_rfl) 16 rfl)
      go_simp
      exact hK _ _ (fun _ => rfl) (fun h => by cases h) ⟨hcs, hB⟩ trivial
    · rintro a w1 ⟨hcs, hB⟩ hx hd K hK
      have hcs' := hcs
      obtain ⟨c0, c1, c2, c3, c4, c5⟩ := hcs'
      have t3 : a.tmps[3]?.getD undef = .pointer (some ⟨w.heap.size + 1, 0, none⟩) := Reg.slot_val (hx 3 (by kernel_rfl))
      go_simp
      exact hK _ _ (fun _ => rfl) (fun h => by cases h) ⟨hcs, hB⟩ trivial
    · rintro a w1 ⟨hcs, hB⟩ hx hd K hK
      have hcs' := hcs
      obtain ⟨c0, c1, c2, c3, c4, c5⟩ := hcs'
      have t18 : a.tmps[18]?.getD undef = .pointer (some ⟨w.heap.size + 1, 2, none⟩) := Reg.slot_val (hd 13 (by kernel_rfl) 18 rfl)
      go_simp
      exact hK _ _ (fun _ => rfl) (fun h => by cases h) ⟨hcs, hB⟩ trivial
    · rintro a w1 ⟨hcs, hB⟩ hx hd K hK
      have hcs' := hcs
      obtain ⟨c0, c1, c2, c3, c4, c5⟩ := hcs'
      have t17 : a.tmps[17]?.getD undef = .float .f32 z := Reg.slot_val (hd 12 (by kernel_rfl) 17 rfl)
      have t19 : a.tmps[19]?.getD undef = .float .f32 z' := Reg.slot_val (hd 14 (by kernel_rfl) 19 rfl)
      go_simp
      refine (impl_product32 _ _ _ _ _ h3 h3').mono ?_
      rintro en w2 ⟨r, rfl, hr, n1, rfl⟩
      exact hK _ _ (fun _ => ⟨r, rfl, hr⟩) (fun h => by cases h) ⟨hcs, below_drewN hB _⟩ trivial
    · rintro a w1 ⟨hcs, hB⟩ hx hd K hK
      have hcs' := hcs
      obtain ⟨c0, c1, c2, c3, c4, c5⟩ := hcs'
      obtain ⟨r15, g15, f15⟩ := hd 10 (by kernel_rfl) 15 rfl
      have t15 := Reg.slot_val g15
      clear g15
      obtain ⟨r20, g20, f20⟩ := hd 15 (by kernel_rfl) 20 rfl
      have t20 := Reg.slot_val g20
      clear g20
      go_simp
      exact hK _ _ (fun _ => ⟨_, rfl, FV_fR f15 f20⟩) (fun h => by cases h) ⟨hcs, below_drewN hB _⟩ trivial
    · rintro a w1 ⟨hcs, hB⟩ hx hd K hK
      have hcs' := hcs
      obtain ⟨c0, c1, c2, c3, c4, c5⟩ := hcs'
      obtain ⟨r21, g21, f21⟩ := hd 16 (by kernel_rfl) 21 rfl
      have t21 := Reg.slot_val g21
      clear g21
      go_simp
      exact hK _ _ (fun _ => ⟨_, rfl, f21⟩) (fun h => by cases h) ⟨hcs, hB⟩ trivial
  · rintro f w1 ⟨hcs, hB⟩ hd hT
    obtain ⟨r, g, fr⟩ := hd 17 4 rfl
    simp only [Reg.mixL, g]
    go_wp2
    go_ret
    exact ⟨r, rfl, fr, hB⟩
set_option maxHeartbeats 1000000 in
theorem impl_CrossOf (x y z x' y' z' : Nat) (w : World) (c d e c' d' e' : Option Nat) (h1 : FV .f32 x c) (h2 : FV .f32 y d) (h3 : FV .f32 z e) (h1' : FV .f32 x' c') (h2' : FV .f32 y' d') (h3' : FV .f32 z' e') :
    Calls Try.prog 198 #[vv x y z, vv x' y' z'] w fun en w' => ∃ a b g, en = .returned (vv a b g) ∧ FV .f32 a (fop .sub .f32 (fop .mul .f32 d e') (fop .mul .f32 e d')) ∧ FV .f32 b (fop .sub .f32 (fop .mul .f32 e c') (fop .mul .f32 c e')) ∧ FV .f32 g (fop .sub .f32 (fop .mul .f32 c d') (fop .mul .f32 d c')) ∧ Below w.heap.size w w' := by
  have u := Try.underlying31
  have uv := Try.underlying34
  go_enter Try.func198, Try.ntmps198
  go_wp2_with fail
  have k0 : ((((w.alloc (.cells #[.float .f32 x, .float .f32 y, .float .f32 z] 34)).alloc (.cells #[.float .f32 x', .float .f32 y', .float .f32 z'] 34)).alloc (.cells #[.float .f32 0, .float .f32 0, .float .f32 0] 34)).drewN 1).cell? ⟨w.heap.size, 0, none⟩ = some (.float .f32 x) := by go_simp
  have k1 : ((((w.alloc (.cells #[.float .f32 x, .float .f32 y, .float .f32 z] 34)).alloc (.cells #[.float .f32 x', .float .f32 y', .float .f32 z'] 34)).alloc (.cells #[.float .f32 0, .float .f32 0, .float .f32 0] 34)).drewN 1).cell? ⟨w.heap.size, 1, none⟩ = some (.float .f32 y) := by go_simp
  have k2 : ((((w.alloc (.cells #[.float .f32 x, .float .f32 y, .float .f32 z] 34)).alloc (.cells #[.float .f32 x', .float .f32 y', .float .f32 z'] 34)).alloc (.cells #[.float .f32 0, .float .f32 0, .float .f32 0] 34)).drewN 1).cell? ⟨w.heap.size, 2, none⟩ = some (.float .f32 z) := by go_simp
  have k3 : ((((w.alloc (.cells #[.float .f32 x, .float .f32 y, .float .f32 z] 34)).alloc (.cells #[.float .f32 x', .float .f32 y', .float .f32 z'] 34)).alloc (.cells #[.float .f32 0, .float .f32 0, .float .f32 0] 34)).drewN 1).cell? ⟨w.heap.size + 1, 0, none⟩ = some (.float .f32 x') := by go_simp
  have k4 : ((((w.alloc (.cells #[.float .f32 x, .float .f32 y, .float .f32 z] 34)).alloc (.cells #[.float .f32 x', .float .f32 y', .float .f32 z'] 34)).alloc (.cells #[.float .f32 0, .float .f32 0, .float .f32 0] 34)).drewN 1).cell? ⟨w.heap.size + 1, 1, none⟩ = some (.float .f32 y') := by go_simp
  have k5 : ((((w.alloc (.cells #[.float .f32 x, .float .f32 y, .float .f32 z] 34)).alloc (.cells #[.float .f32 x', .float .f32 y', .float .f32 z'] 34)).alloc (.cells #[.float .f32 0, .float .f32 0, .float .f32 0] 34)).drewN 1).cell? ⟨w.heap.size + 1, 2, none⟩ = some (.float .f32 z') := by go_simp
  have k6 : ((((w.alloc (.cells #[.float .f32 x, .float .f32 y, .float .f32 z] 34)).alloc (.cells #[.float .f32 x', .float .f32 y', .float .f32 z'] 34)).alloc (.cells #[.float .f32 0, .float .f32 0, .float .f32 0] 34)).drewN 1).cell? ⟨w.heap.size + 1 + 1, 0, none⟩ = some (.float .f32 0) := by go_simp
  have k7 : ((((w.alloc (.cells #[.float .f32 x, .float .f32 y, .float .f32 z] 34)).alloc (.cells #[.float .f32 x', .float .f32 y', .float .f32 z'] 34)).alloc (.cells #[.float .f32 0, .float .f32 0, .float .f32 0] 34)).drewN 1).cell? ⟨w.heap.size + 1 + 1, 1, none⟩ = some (.float .f32 0) := by go_simp
  have k8 : ((((w.alloc (.cells #[.float .f32 x, .float .f32 y, .float .f32 z] 34)).alloc (.cells #[.float .f32 x', .float .f32 y', .float .f32 z'] 34)).alloc (.cells #[.float .f32 0, .float .f32 0, .float .f32 0] 34)).drewN 1).cell? ⟨w.heap.size + 1 + 1, 2, none⟩ = some (.float .f32 0) := by go_simp
  have k9 : ((((w.alloc (.cells #[.float .f32 x, .float .f32 y, .float .f32 z] 34)).alloc (.cells #[.float .f32 x', .float .f32 y', .float .f32 z'] 34)).alloc (.cells #[.float .f32 0, .float .f32 0, .float .f32 0] 34)).drewN 1).frozen? ⟨w.heap.size + 1 + 1, 0, none⟩ = false := by go_simp
  have k10 : ((((w.alloc (.cells #[.float .f32 x, .float .f32 y, .float .f32 z] 34)).alloc (.cells #[.float .f32 x', .float .f32 y', .float .f32 z'] 34)).alloc (.cells #[.float .f32 0, .float .f32 0, .float .f32 0] 34)).drewN 1).frozen? ⟨w.heap.size + 1 + 1, 1, none⟩ = false := by go_simp
  have k11 : ((((w.alloc (.cells #[.float .f32 x, .float .f32 y, .float .f32 z] 34)).alloc (.cells #[.float .f32 x', .float .f32 y', .float .f32 z'] 34)).alloc (.cells #[.float .f32 0, .float .f32 0, .float .f32 0] 34)).drewN 1).frozen? ⟨w.heap.size + 1 + 1, 2, none⟩ = false := by go_simp
  refine Reg.wp_region_mix (C := fun w' => (w'.cell? ⟨w.heap.size, 0, none⟩ = some (.float .f32 x) ∧ w'.cell? ⟨w.heap.size, 1, none⟩ = some (.float .f32 y) ∧ w'.cell? ⟨w.heap.size, 2, none⟩ = some (.float .f32 z) ∧ w'.cell? ⟨w.heap.size + 1, 0, none⟩ = some (.float .f32 x') ∧ w'.cell? ⟨w.heap.size + 1, 1, none⟩ = some (.float .f32 y') ∧ w'.cell? ⟨w.heap.size + 1, 2, none⟩ = some (.float .f32 z')) ∧ (∃ u0 u1 u2, w'.cell? ⟨w.heap.size + 1 + 1, 0, none⟩ = some u0 ∧ w'.cell? ⟨w.heap.size + 1 + 1, 1, none⟩ = some u1 ∧ w'.cell? ⟨w.heap.size + 1 + 1, 2, none⟩ = some u2) ∧ (w'.frozen? ⟨w.heap.size + 1 + 1, 0, none⟩ = false ∧ w'.frozen? ⟨w.heap.size + 1 + 1, 1, none⟩ = false ∧ w'.frozen? ⟨w.heap.size + 1 + 1, 2, none⟩ = false) ∧ Below w.heap.size w w') (G := fun _ _ => True) (R := fun i v _ => match i with | 0 => v = .pointer (some ⟨w.heap.size, 1, none⟩) | 1 => v = .float .f32 y | 2 => v = .pointer (some ⟨w.heap.size + 1, 2, none⟩) | 3 => v = .float .f32 z' | 4 => isF (fop .mul .f32 d e') v | 5 => v = .pointer (some ⟨w.heap.size, 2, none⟩) | 6 => v = .float .f32 z | 7 => v = .pointer (some ⟨w.heap.size + 1, 1, none⟩) | 8 => v = .float .f32 y' | 9 => isF (fop .mul .f32 e d') v | 10 => isF (fop .sub .f32 (fop .mul .f32 d e') (fop .mul .f32 e d')) v | 11 => v = .pointer (some ⟨w.heap.size, 2, none⟩) | 12 => v = .float .f32 z | 13 => v = .pointer (some ⟨w.heap.size + 1, 0, none⟩) | 14 => v = .float .f32 x' | 15 => isF (fop .mul .f32 e c') v | 16 => v = .pointer (some ⟨w.heap.size, 0, none⟩) | 17 => v = .float .f32 x | 18 => v = .pointer (some ⟨w.heap.size + 1, 2, none⟩) | 19 => v = .float .f32 z' | 20 => isF (fop .mul .f32 c e') v | 21 => isF (fop .sub .f32 (fop .mul .f32 e c') (fop .mul .f32 c e')) v | 22 => v = .pointer (some ⟨w.heap.size, 0, none⟩) | 23 => v = .float .f32 x | 24 => v = .pointer (some ⟨w.heap.size + 1, 1, none⟩) | 25 => v = .float .f32 y' | 26 => isF (fop .mul .f32 c d') v | 27 => v = .pointer (some ⟨w.heap.size, 1, none⟩) | 28 => v = .float .f32 y | 29 => v = .pointer (some ⟨w.heap.size + 1, 0, none⟩) | 30 => v = .float .f32 x' | 31 => isF (fop .mul .f32 d c') v | 32 => isF (fop .sub .f32 (fop .mul .f32 c d') (fop .mul .f32 d c')) v | 33 => ∃ a b g, v = vv a b g ∧ FV .f32 a (fop .sub .f32 (fop .mul .f32 d e') (fop .mul .f32 e d')) ∧ FV .f32 b (fop .sub .f32 (fop .mul .f32 e c') (fop .mul .f32 c e')) ∧ FV .f32 g (fop .sub .f32 (fop .mul .f32 c d') (fop .mul .f32 d c')) | 34 => True | _ => True) (T := fun _ a w' => ∃ a b g, w'.cell? ⟨w.heap.size + 1 + 1, 0, none⟩ = some (.float .f32 a) ∧ w'.cell? ⟨w.heap.size + 1 + 1, 1, none⟩ = some (.float .f32 b) ∧ w'.cell? ⟨w.heap.size + 1 + 1, 2, none⟩ = some (.float .f32 g) ∧ FV .f32 a (fop .sub .f32 (fop .mul .f32 d e') (fop .mul .f32 e d')) ∧ FV .f32 b (fop .sub .f32 (fop .mul .f32 e c') (fop .mul .f32 c e')) ∧ FV .f32 g (fop .sub .f32 (fop .mul .f32 c d') (fop .mul .f32 d c'))) [false, false, false, false, false, true, true, true, true, true, true, true, true, true, true, true, true, true, true, true, true, true, true, true, true, true, true, true, true, true, true, true, true, true, true, true, true, true, true]
    (by kernel_rfl) (by kernel_rfl) (by kernel_rfl) (fun _ _ _ _ _ _ h => h) ⟨⟨k0, k1, k2, k3, k4, k5⟩, ⟨_, _, _, k6, k7, k8⟩, ⟨k9, k10, k11⟩, below_drewN ((((Below.refl _ _).alloc (Nat.le_refl _) _).alloc (by simp) _).alloc (by simp; omega) _) 1⟩ ?_ ?_
  · refine ⟨Reg.Obl.mk ?_, Reg.Obl.mk ?_, Reg.Obl.mk ?_, Reg.Obl.mk ?_, Reg.Obl.mk ?_, Reg.Obl.mk ?_, Reg.Obl.mk ?_, Reg.Obl.mk ?_, Reg.Obl.mk ?_, Reg.Obl.mk ?_, Reg.Obl.mk ?_, Reg.Obl.mk ?_, Reg.Obl.mk ?_, Reg.Obl.mk ?_, Reg.Obl.mk ?_, Reg.Obl.mk ?_, Reg.Obl.mk ?_, Reg.Obl.mk ?_, Reg.Obl.mk ?_, Reg.Obl.mk ?_, Reg.Obl.mk ?_, Reg.Obl.mk ?_, Reg.Obl.mk ?_, Reg.Obl.mk ?_, Reg.Obl.mk ?_, Reg.Obl.mk ?_, Reg.Obl.mk ?_, Reg.Obl.mk ?_, Reg.Obl.mk ?_, Reg.Obl.mk ?_, Reg.Obl.mk ?_, Reg.Obl.mk ?_, Reg.Obl.mk ?_, Reg.Obl.mk ?_, Reg.Obl.mk ?_, trivial⟩
    · rintro a w1 ⟨hcs, hrb, hfz, hB⟩ hx hd K hK
      have hcs' := hcs
      obtain ⟨c0, c1, c2, c3, c4, c5⟩ := hcs'
      have t2 : a.tmps[2]?.getD undef = .pointer (some ⟨w.heap.size, 0, none⟩) := Reg.slot_val (hx 2 (by kernel_rfl))
      go_simp
      exact hK _ _ (fun _ => rfl) (fun h => by cases h) ⟨hcs, hrb, hfz, hB⟩ trivial
    · rintro a w1 ⟨hcs, hrb, hfz, hB⟩ hx hd K hK
      have hcs' := hcs
      obtain ⟨c0, c1, c2, c3, c4, c5⟩ := hcs'
      have t5 : a.tmps[5]?.getD undef = .pointer (some ⟨w.heap.size, 1, none⟩) := Reg.slot_val (hd 0 (by kernel_rfl) 5 rfl)
      go_simp
      exact hK _ _ (fun _ => rfl) (fun h => by cases h) ⟨hcs, hrb, hfz, hB⟩ trivial
    · rintro a w1 ⟨hcs, hrb, hfz, hB⟩ hx hd K hK
      have hcs' := hcs
      obtain ⟨c0, c1, c2, c3, c4, c5⟩ := hcs'
      have t3 : a.tmps[3]?.getD undef = .pointer (some ⟨w.heap.size + 1, 0, none⟩) := Reg.slot_val (hx 3 (by kernel_rfl))
      go_simp
      exact hK _ _ (fun _ => rfl) (fun h => by cases h) ⟨hcs, hrb, hfz, hB⟩ trivial
    · rintro a w1 ⟨hcs, hrb, hfz, hB⟩ hx hd K hK
      have hcs' := hcs
      obtain ⟨c0, c1, c2, c3, c4, c5⟩ := hcs'
      have t7 : a.tmps[7]?.getD undef = .pointer (some ⟨w.heap.size + 1, 2, none⟩) := Reg.slot_val (hd 2 (by kernel_rfl) 7 rfl)
      go_simp
      exact hK _ _ (fun _ => rfl) (fun h => by cases h) ⟨hcs, hrb, hfz, hB⟩ trivial
    · rintro a w1 ⟨hcs, hrb, hfz, hB⟩ hx hd K hK
      have hcs' := hcs
      obtain ⟨c0, c1, c2, c3, c4, c5⟩ := hcs'
      have t6 : a.tmps[6]?.getD undef = .float .f32 y := Reg.slot_val (hd 1 (by kernel_rfl) 6 rfl)
      have t8 : a.tmps[8]?.getD undef = .float .f32 z' := Reg.slot_val (hd 3 (by kernel_rfl) 8 rfl)
      go_simp
      refine (impl_product32 _ _ _ _ _ h2 h3').mono ?_
      rintro en w2 ⟨r, rfl, hr, n1, rfl⟩
      exact hK _ _ (fun _ => ⟨r, rfl, hr⟩) (fun h => by cases h) ⟨hcs, hrb, hfz, below_drewN hB _⟩ trivial
    · rintro a w1 ⟨hcs, hrb, hfz, hB⟩ hx hd K hK
      have hcs' := hcs
      obtain ⟨c0, c1, c2, c3, c4, c5⟩ := hcs'
      have t2 : a.tmps[2]?.getD undef = .pointer (some ⟨w.heap.size, 0, none⟩) := Reg.slot_val (hx 2 (by kernel_rfl))
      go_simp
      exact hK _ _ (fun _ => rfl) (fun h => by cases h) ⟨hcs, hrb, hfz, hB⟩ trivial
    · rintro a w1 ⟨hcs, hrb, hfz, hB⟩ hx hd K hK
      have hcs' := hcs
      obtain ⟨c0, c1, c2, c3, c4, c5⟩ := hcs'
      have t10 : a.tmps[10]?.getD undef = .pointer (some ⟨w.heap.size, 2, none⟩) := Reg.slot_val (hd 5 (by kernel_rfl) 10 rfl)
      go_simp
      exact hK _ _ (fun _ => rfl) (fun h => by cases h) ⟨hcs, hrb, hfz, hB⟩ trivial
    · rintro a w1 ⟨hcs, hrb, hfz, hB⟩ hx hd K hK
      have hcs' := hcs
      obtain ⟨c0, c1, c2, c3, c4, c5⟩ := hcs'
      have t3 : a.tmps[3]?.getD undef = .pointer (some ⟨w.heap.size + 1, 0, none⟩) := Reg.slot_val (hx 3 (by kernel_rfl))
      go_simp
      exact hK _ _ (fun _ => rfl) (fun h => by cases h) ⟨hcs, hrb, hfz, hB⟩ trivial
    · rintro a w1 ⟨hcs, hrb, hfz, hB⟩ hx hd K hK
      have hcs' := hcs
      obtain ⟨c0, c1, c2, c3, c4, c5⟩ := hcs'
      have t12 : a.tmps[12]?.getD undef = .pointer (some ⟨w.heap.size + 1, 1, none⟩) := Reg.slot_val (hd 7 (by kernel_rfl) 12 rfl)
      go_simp
      exact hK _ _ (fun _ => rfl) (fun h => by cases h) ⟨hcs, hrb, hfz, hB⟩ trivial
    · rintro a w1 ⟨hcs, hrb, hfz, hB⟩ hx hd K hK
      have hcs' := hcs
      obtain ⟨c0, c1, c2, c3, c4, c5⟩ := hcs'
      have t11 : a.tmps[11]?.getD undef = .float .f32 z := Reg.slot_val (hd 6 (by kernel_rfl) 11 rfl)
      have t13 : a.tmps[13]?.getD undef = .float .f32 y' := Reg.slot_val (hd 8 (by kernel_rfl) 13 rfl)
      go_simp
      refine (impl_product32 _ _ _ _ _ h3 h2').mono ?_
      rintro en w2 ⟨r, rfl, hr, n1, rfl⟩
      exact hK _ _ (fun _ => ⟨r, rfl, hr⟩) (fun h => by cases h) ⟨hcs, hrb, hfz, below_drewN hB _⟩ trivial
    · rintro a w1 ⟨hcs, hrb, hfz, hB⟩ hx hd K hK
      have hcs' := hcs
      obtain ⟨c0, c1, c2, c3, c4, c5⟩ := hcs'
      obtain ⟨r9, g9, f9⟩ := hd 4 (by kernel_rfl) 9 rfl
      have t9 := Reg.slot_val g9
      clear g9
      obtain ⟨r14, g14, f14⟩ := hd 9 (by kernel_rfl) 14 rfl
      have t14 := Reg.slot_val g14
      clear g14
      go_simp
      exact hK _ _ (fun _ => ⟨_, rfl, FV_fR f9 f14⟩) (fun h => by cases h) ⟨hcs, hrb, hfz, below_drewN hB _⟩ trivial
    · rintro a w1 ⟨hcs, hrb, hfz, hB⟩ hx hd K hK
      have hcs' := hcs
      obtain ⟨c0, c1, c2, c3, c4, c5⟩ := hcs'
      have t2 : a.tmps[2]?.getD undef = .pointer (some ⟨w.heap.size, 0, none⟩) := Reg.slot_val (hx 2 (by kernel_rfl))
      go_simp
      exact hK _ _ (fun _ => rfl) (fun h => by cases h) ⟨hcs, hrb, hfz, hB⟩ trivial
    · rintro a w1 ⟨hcs, hrb, hfz, hB⟩ hx hd K hK
      have hcs' := hcs
      obtain ⟨c0, c1, c2, c3, c4, c5⟩ := hcs'
      have t16 : a.tmps[16]?.getD undef = .pointer (some ⟨w.heap.size, 2, none⟩) := Reg.slot_val (hd 11 (by kernel_rfl) 16 rfl)
      go_simp
      exact hK _ _ (fun _ => rfl) (fun h => by cases h) ⟨hcs, hrb, hfz, hB⟩ trivial
    · rintro a w1 ⟨hcs, hrb, hfz, hB⟩ hx hd K hK
      have hcs' := hcs
      obtain ⟨c0, c1, c2, c3, c4, c5⟩ := hcs'
      have t3 : a.tmps[3]?.getD undef = .pointer (some ⟨w.heap.size + 1, 0, none⟩) := Reg.slot_val (hx 3 (by kernel_rfl))
      go_simp
      exact hK _ _ (fun _ => rfl) (fun h => by cases h) ⟨hcs, hrb, hfz, hB⟩ trivial
    · rintro a w1 ⟨hcs, hrb, hfz, hB⟩ hx hd K hK
      have hcs' := hcs
      obtain ⟨c0, c1, c2, c3, c4, c5⟩ := hcs'
      have t18 : a.tmps[18]?.getD undef = .pointer (some ⟨w.heap.size + 1, 0, none⟩) := Reg.slot_val (hd 13 (by kernel_rfl) 18 rfl)
      go_simp
      exact hK _ _ (fun _ => rfl) (fun h => by cases h) ⟨hcs, hrb, hfz, hB⟩ trivial
    · rintro a w1 ⟨hcs, hrb, hfz, hB⟩ hx hd K hK
      have hcs' := hcs
      obtain ⟨c0, c1, c2, c3, c4, c5⟩ := hcs'
      have t17 : a.tmps[17]?.getD undef = .float .f32 z := Reg.slot_val (hd 12 (by kernel_rfl) 17 rfl)
      have t19 : a.tmps[19]?.getD undef = .float .f32 x' := Reg.slot_val (hd 14 (by kernel_rfl) 19 rfl)
      go_simp
      refine (impl_product32 _ _ _ _ _ h3 h1').mono ?_
      rintro en w2 ⟨r, rfl, hr, n1, rfl⟩
      exact hK _ _ (fun _ => ⟨r, rfl, hr⟩) (fun h => by cases h) ⟨hcs, hrb, hfz, below_drewN hB _⟩ trivial
    · rintro a w1 ⟨hcs, hrb, hfz, hB⟩ hx hd K hK
      have hcs' := hcs
      obtain ⟨c0, c1, c2, c3, c4, c5⟩ := hcs'
      have t2 : a.tmps[2]?.getD undef = .pointer (some ⟨w.heap.size, 0, none⟩) := Reg.slot_val (hx 2 (by kernel_rfl))
      go_simp
      exact hK _ _ (fun _ => rfl) (fun h => by cases h) ⟨hcs, hrb, hfz, hB⟩ trivial
    · rintro a w1 ⟨hcs, hrb, hfz, hB⟩ hx hd K hK
      have hcs' := hcs
      obtain ⟨c0, c1, c2, c3, c4, c5⟩ := hcs'
      have t21 : a.tmps[21]?.getD undef = .pointer (some ⟨w.heap.size, 0, none⟩) := Reg.slot_val (hd 16 (by kernel_rfl) 21 rfl)
      go_simp
      exact hK _ _ (fun _ => rfl) (fun h => by cases h) ⟨hcs, hrb, hfz, hB⟩ trivial
    · rintro a w1 ⟨hcs, hrb, hfz, hB⟩ hx hd K hK
      have hcs' := hcs
      obtain ⟨c0, c1, c2, c3, c4, c5⟩ := hcs'
      have t3 : a.tmps[3]?.getD undef = .pointer (some ⟨w.heap.size + 1, 0, none⟩) := Reg.slot_val (hx 3 (by kernel_rfl))
      go_simp
      exact hK _ _ (fun _ => rfl) (fun h => by cases h) ⟨hcs, hrb, hfz, hB⟩ trivial
    · rintro a w1 ⟨hcs, hrb, hfz, hB⟩ hx hd K hK
      have hcs' := hcs
      obtain ⟨c0, c1, c2, c3, c4, c5⟩ := hcs'
      have t23 : a.tmps[23]?.getD undef = .pointer (some ⟨w.heap.size + 1, 2, none⟩) := Reg.slot_val (hd 18 (by kernel_rfl) 23 rfl)
      go_simp
      exact hK _ _ (fun _ => rfl) (fun h => by cases h) ⟨hcs, hrb, hfz, hB⟩ trivial
    · rintro a w1 ⟨hcs, hrb, hfz, hB⟩ hx hd K hK
      have hcs' := hcs
      obtain ⟨c0, c1, c2, c3, c4, c5⟩ := hcs'
      have t22 : a.tmps[22]?.getD undef = .float .f32 x := Reg.slot_val (hd 17 (by kernel_rfl) 22 rfl)
      have t24 : a.tmps[24]?.getD undef = .float .f32 z' := Reg.slot_val (hd 19 (by kernel_rfl) 24 rfl)
      go_simp
      refine (impl_product32 _ _ _ _ _ h1 h3').mono ?_
      rintro en w2 ⟨r, rfl, hr, n1, rfl⟩
      exact hK _ _ (fun _ => ⟨r, rfl, hr⟩) (fun h => by cases h) ⟨hcs, hrb, hfz, below_drewN hB _⟩ trivial
    · rintro a w1 ⟨hcs, hrb, hfz, hB⟩ hx hd K hK
      have hcs' := hcs
      obtain ⟨c0, c1, c2, c3, c4, c5⟩ := hcs'
      obtain ⟨r20, g20, f20⟩ := hd 15 (by kernel_rfl) 20 rfl
      have t20 := Reg.slot_val g20
      clear g20
      obtain ⟨r25, g25, f25⟩ := hd 20 (by kernel_rfl) 25 rfl
      have t25 := Reg.slot_val g25
      clear g25
      go_simp
      exact hK _ _ (fun _ => ⟨_, rfl, FV_fR f20 f25⟩) (fun h => by cases h) ⟨hcs, hrb, hfz, below_drewN hB _⟩ trivial
    · rintro a w1 ⟨hcs, hrb, hfz, hB⟩ hx hd K hK
      have hcs' := hcs
      obtain ⟨c0, c1, c2, c3, c4, c5⟩ := hcs'
      have t2 : a.tmps[2]?.getD undef = .pointer (some ⟨w.heap.size, 0, none⟩) := Reg.slot_val (hx 2 (by kernel_rfl))
      go_simp
      exact hK _ _ (fun _ => rfl) (fun h => by cases h) ⟨hcs, hrb, hfz, hB⟩ trivial
    · rintro a w1 ⟨hcs, hrb, hfz, hB⟩ hx hd K hK
      have hcs' := hcs
      obtain ⟨c0, c1, c2, c3, c4, c5⟩ := hcs'
      have t27 : a.tmps[27]?.getD undef = .pointer (some ⟨w.heap.size, 0, none⟩) := Reg.slot_val (hd 22 (by kernel_rfl) 27 rfl)
      go_simp
      exact hK _ _ (fun _ => rfl) (fun h => by cases h) ⟨hcs, hrb, hfz, hB⟩ trivial
    · rintro a w1 ⟨hcs, hrb, hfz, hB⟩ hx hd K hK
      have hcs' := hcs
      obtain ⟨c0, c1, c2, c3, c4, c5⟩ := hcs'
      have t3 : a.tmps[3]?.getD undef = .pointer (some ⟨w.heap.size + 1, 0, none⟩) := Reg.slot_val (hx 3 (by kernel_rfl))
      go_simp
      exact hK _ _ (fun _ => rfl) (fun h => by cases h) ⟨hcs, hrb, hfz, hB⟩ trivial
    · rintro a w1 ⟨hcs, hrb, hfz, hB⟩ hx hd K hK
      have hcs' := hcs
      obtain ⟨c0, c1, c2, c3, c4, c5⟩ := hcs'
      have t29 : a.tmps[29]?.getD undef = .pointer (some ⟨w.heap.size + 1, 1, none⟩) := Reg.slot_val (hd 24 (by kernel_rfl) 29 rfl)
      go_simp
      exact hK _ _ (fun _ => rfl) (fun h => by cases h) ⟨hcs, hrb, hfz, hB⟩ trivial
    · rintro a w1 ⟨hcs, hrb, hfz, hB⟩ hx hd K hK
      have hcs' := hcs
      obtain ⟨c0, c1, c2, c3, c4, c5⟩ := hcs'
      have t28 : a.tmps[28]?.getD undef = .float .f32 x := Reg.slot_val (hd 23 (by kernel_rfl) 28 rfl)
      have t30 : a.tmps[30]?.getD undef = .float .f32 y' := Reg.slot_val (hd 25 (by kernel_rfl) 30 rfl)
      go_simp
      refine (impl_product32 _ _ _ _ _ h1 h2').mono ?_
      rintro en w2 ⟨r, rfl, hr, n1, rfl⟩
      exact hK _ _ (fun _ => ⟨r, rfl, hr⟩) (fun h => by cases h) ⟨hcs, hrb, hfz, below_drewN hB _⟩ trivial
    · rintro a w1 ⟨hcs, hrb, hfz, hB⟩ hx hd K hK
      have hcs' := hcs
      obtain ⟨c0, c1, c2, c3, c4, c5⟩ := hcs'
      have t2 : a.tmps[2]?.getD undef = .pointer (some ⟨w.heap.size, 0, none⟩) := Reg.slot_val (hx 2 (by kernel_rfl))
      go_simp
      exact hK _ _ (fun _ => rfl) (fun h => by cases h) ⟨hcs, hrb, hfz, hB⟩ trivial
    · rintro a w1 ⟨hcs, hrb, hfz, hB⟩ hx hd K hK
      have hcs' := hcs
      obtain ⟨c0, c1, c2, c3, c4, c5⟩ := hcs'
      have t32 : a.tmps[32]?.getD undef = .pointer (some ⟨w.heap.size, 1, none⟩) := Reg.slot_val (hd 27 (by kernel_rfl) 32 rfl)
      go_simp
      exact hK _ _ (fun _ => rfl) (fun h => by cases h) ⟨hcs, hrb, hfz, hB⟩ trivial
    · rintro a w1 ⟨hcs, hrb, hfz, hB⟩ hx hd K hK
      have hcs' := hcs
      obtain ⟨c0, c1, c2, c3, c4, c5⟩ := hcs'
      have t3 : a.tmps[3]?.getD undef = .pointer (some ⟨w.heap.size + 1, 0, none⟩) := Reg.slot_val (hx 3 (by kernel_rfl))
      go_simp
      exact hK _ _ (fun _ => rfl) (fun h => by cases h) ⟨hcs, hrb, hfz, hB⟩ trivial
    · rintro a w1 ⟨hcs, hrb, hfz, hB⟩ hx hd K hK
      have hcs' := hcs
      obtain ⟨c0, c1, c2, c3, c4, c5⟩ := hcs'
      have t34 : a.tmps[34]?.getD undef = .pointer (some ⟨w.heap.size + 1, 0, none⟩) := Reg.slot_val (hd 29 (by kernel_rfl) 34 rfl)
      go_simp
      exact hK _ _ (fun _ => rfl) (fun h => by cases h) ⟨hcs, hrb, hfz, hB⟩ trivial
    · rintro a w1 ⟨hcs, hrb, hfz, hB⟩ hx hd K hK
      have hcs' := hcs
      obtain ⟨c0, c1, c2, c3, c4, c5⟩ := hcs'
      have t33 : a.tmps[33]?.getD undef = .float .f32 y := Reg.slot_val (hd 28 (by kernel_rfl) 33 rfl)
      have t35 : a.tmps[35]?.getD undef = .float .f32 x' := Reg.slot_val (hd 30 (by kernel_rfl) 35 rfl)
      go_simp
      refine (impl_product32 _ _ _ _ _ h2 h1').mono ?_
      rintro en w2 ⟨r, rfl, hr, n1, rfl⟩
      exact hK _ _ (fun _ => ⟨r, rfl, hr⟩) (fun h => by cases h) ⟨hcs, hrb, hfz, below_drewN hB _⟩ trivial
    · rintro a w1 ⟨hcs, hrb, hfz, hB⟩ hx hd K hK
      have hcs' := hcs
      obtain ⟨c0, c1, c2, c3, c4, c5⟩ := hcs'
      obtain ⟨r31, g31, f31⟩ := hd 26 (by kernel_rfl) 31 rfl
      have t31 := Reg.slot_val g31
      clear g31
      obtain ⟨r36, g36, f36⟩ := hd 31 (by kernel_rfl) 36 rfl
      have t36 := Reg.slot_val g36
      clear g36
      go_simp
      exact hK _ _ (fun _ => ⟨_, rfl, FV_fR f31 f36⟩) (fun h => by cases h) ⟨hcs, hrb, hfz, below_drewN hB _⟩ trivial
    · rintro a w1 ⟨hcs, hrb, hfz, hB⟩ hx hd K hK
      have hcs' := hcs
      obtain ⟨c0, c1, c2, c3, c4, c5⟩ := hcs'
      obtain ⟨r15, g15, f15⟩ := hd 10 (by kernel_rfl) 15 rfl
      have t15 := Reg.slot_val g15
      clear g15
      obtain ⟨r26, g26, f26⟩ := hd 21 (by kernel_rfl) 26 rfl
      have t26 := Reg.slot_val g26
      clear g26
      obtain ⟨r37, g37, f37⟩ := hd 32 (by kernel_rfl) 37 rfl
      have t37 := Reg.slot_val g37
      clear g37
      go_simp
      exact hK _ _ (fun _ => ⟨_, _, _, rfl, f15, f26, f37⟩) (fun h => by cases h) ⟨hcs, hrb, hfz, hB⟩ trivial
    · rintro a w1 ⟨hcs, hrb, hfz, hB⟩ hx hd K hK
      have hcs' := hcs
      obtain ⟨c0, c1, c2, c3, c4, c5⟩ := hcs'
      have t4 : a.tmps[4]?.getD undef = .pointer (some ⟨w.heap.size + 1 + 1, 0, none⟩) := Reg.slot_val (hx 4 (by kernel_rfl))
      obtain ⟨r38, p38, q38, g38, f38⟩ := hd 33 (by kernel_rfl) 38 rfl
      have t38 := Reg.slot_val g38
      clear g38
      obtain ⟨u0, u1, u2, q0, q1, q2⟩ := hrb
      obtain ⟨z0, z1, z2⟩ := hfz
      go_simp
      have s3 := set3 (u := .float .f32 r38) (v := .float .f32 p38) (t := .float .f32 q38) q0 q1 q2
      refine hK undef _ (fun h => absurd rfl h) (fun _ => ⟨r38, p38, q38, s3.1, s3.2.1, s3.2.2, f38⟩) ⟨⟨cell_set (by first | omega | (simp <;> omega)) (cell_set (by first | omega | (simp <;> omega)) (cell_set (by first | omega | (simp <;> omega)) c0)), cell_set (by first | omega | (simp <;> omega)) (cell_set (by first | omega | (simp <;> omega)) (cell_set (by first | omega | (simp <;> omega)) c1)), cell_set (by first | omega | (simp <;> omega)) (cell_set (by first | omega | (simp <;> omega)) (cell_set (by first | omega | (simp <;> omega)) c2)), cell_set (by first | omega | (simp <;> omega)) (cell_set (by first | omega | (simp <;> omega)) (cell_set (by first | omega | (simp <;> omega)) c3)), cell_set (by first | omega | (simp <;> omega)) (cell_set (by first | omega | (simp <;> omega)) (cell_set (by first | omega | (simp <;> omega)) c4)), cell_set (by first | omega | (simp <;> omega)) (cell_set (by first | omega | (simp <;> omega)) (cell_set (by first | omega | (simp <;> omega)) c5))⟩, ⟨_, _, _, s3⟩, ⟨by simp [z0], by simp [z1], by simp [z2]⟩, below_set3 hB (by first | omega | (simp <;> omega))⟩ trivial
  · rintro f w1 ⟨hcs, hrb, hfz, hB⟩ hd hT
    obtain ⟨a, b, g, s0, s1, s2, fa, fb, fg⟩ := hT 34 rfl (by decide)
    simp only [Reg.mixL]
    go_wp2
    refine bodyPost_ret (v := vv a b g) (by simp [results, Try.results198, go_sem, s0, s1, s2]) rfl ⟨_, _, _, rfl, fa, fb, fg, hB⟩
end Go.Proofs.Ytmbekamnogbgaaa


/-
Finite numbers and measures, by the program and by its model. Conditions: none beyond that the words fit.
-/
namespace Go.Proofs.Ytmbekamnogbgaaa
open Go Fk Go.RowKit
set_option linter.unusedVariables false
set_option maxRecDepth 8000
def sizeB (x : Nat) : Bool := finB x && (FloatKind.f32.format.order x 0 == some .gt)
def finC (c : Option Nat) : Bool := match c with | none => false | some x => finB x
def sizeC (c : Option Nat) : Bool := match c with | none => false | some x => sizeB x
theorem Fk.FV.fin {x : Nat} {c : Option Nat} (h : FV .f32 x c) : finB x = finC c := by
  cases c with
  | none =>
    have := h.nan
    have h2 : nan32 x = true := this
    rw [nan32_iff, decide_eq_true_eq] at h2
    show finB x = false
    unfold finB
    exact decide_eq_false (by omega)
  | some y => rw [h.num]; rfl
theorem Fk.FV.size {x : Nat} {c : Option Nat} (h : FV .f32 x c) : sizeB x = sizeC c := by
  cases c with
  | none =>
    show sizeB x = false
    unfold sizeB
    rw [Fk.FV.fin h]; rfl
  | some y => rw [h.num]; rfl
theorem impl_isMeasure (x : Nat) (w : World) (hx : x < 4294967296) :
    Calls Try.prog 124 #[.float .f32 x] w fun e w' => e = .returned (.bool (sizeB x)) ∧ ∃ n, w' = w.drewN n := by
  have u := Try.underlying31
  unfold sizeB
  have HJ := Lib.hid (fun w => impl_IsFinite x w hx)
  generalize finB x = f at *
  cases f
  · go_enter Try.func124, Try.ntmps124
    go_wp2_with (go_at_call 128; refine (HJ.out _).mono ?_; rintro e w1 ⟨rfl, n, hw⟩; rw [hw]; clear hw w1)
    go_ret
    exact ⟨rfl, _, rfl⟩
  · go_enter Try.func124, Try.ntmps124
    go_wp2_with (go_at_call 128; refine (HJ.out _).mono ?_; rintro e w1 ⟨rfl, n, hw⟩; rw [hw]; clear hw w1)
    go_ret
    exact ⟨rfl, _, rfl⟩
theorem l02Size (x : Nat) (w : World) (hx : x < 4294967296) :
    Calls Try.prog 114 #[.float .f32 x] w fun e w' => e = .returned (.bool (sizeB x)) ∧ ∃ n, w' = w.drewN n := by
  have u := Try.underlying31
  unfold sizeB
  have HJ := Lib.hid (fun w => l01Finite x w hx)
  generalize finB x = f at *
  cases f
  · go_enter Try.func114, Try.ntmps114
    go_wp2_with (go_at_call 118; refine (HJ.out _).mono ?_; rintro e w1 ⟨rfl, n, hw⟩; rw [hw]; clear hw w1)
    go_ret
    exact ⟨rfl, _, rfl⟩
  · go_enter Try.func114, Try.ntmps114
    go_wp2_with (go_at_call 118; refine (HJ.out _).mono ?_; rintro e w1 ⟨rfl, n, hw⟩; rw [hw]; clear hw w1)
    go_ret
    exact ⟨rfl, _, rfl⟩
/-- An amount and a volume. -/
def gasB (c d : Option Nat) : Bool := finC c && sizeC d
theorem Fk.FV.zero : FV .f32 0 (some 0) := ⟨by decide, by decide⟩
def pressC (c d : Option Nat) : Option Nat := bif gasB c d then fop .quo .f32 c d else some 0
end Go.Proofs.Ytmbekamnogbgaaa

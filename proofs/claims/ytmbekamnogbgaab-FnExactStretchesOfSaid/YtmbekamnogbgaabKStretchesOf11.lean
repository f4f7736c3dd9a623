/-
Texts in one: what StretchesOf stands on, part 11. Conditions: those of each.
-/
import Derived.Test.YtmbekamnogbgaabKStretchesOf10

/-
A region whose order is open, with a store that need not come last: what the store leaves is kept by all that comes behind it. Conditions: no operation is guarded, every edge leads to an earlier operation, no slot is written twice.
-/
namespace Go.Proofs.Ytmbekamnogbgaab
namespace Reg2
open Go Reg
set_option linter.unusedVariables false
section
variable {P : Program} {ops : Array Oper} {Q : Exit → Act → World → Prop} {md : Region.Mode}
def tidy (ops : Array Oper) (n : Nat) : Bool :=
  low ops && (ops.all fun o => o.guard.isNone) && (ops.all fun o => (o.dst.map fun d => decide (d < n)).getD true) &&
  ((List.range ops.size).all fun i => (List.range ops.size).all fun j => i == j || slotOf ops i == none || slotOf ops i != slotOf ops j)
/-- What is known of the world behind an operation without a slot. -/
def HasT (ops : Array Oper) (T : Nat → World → Prop) (j : Nat) (w : World) : Prop := slotOf ops j = none → j < ops.size → T j w
/-- What is asked of operation i. -/
def Obl (P : Program) (ops : Array Oper) (a0 : Act) (C : World → Prop) (G : World → World → Prop) (R : Nat → Value → World → Prop) (T : Nat → World → Prop) (Q : Exit → Act → World → Prop) (i : Nat) (o : Oper) : Prop :=
  ∀ a w, C w → (∀ t, ((List.range ops.size).all fun j => slotOf ops j != some t || behind ops i j) = true → a.eval (.tmp t) = a0.eval (.tmp t)) →
    (∀ j, behind ops j i = true → Has ops R j a w) →
    o.wp P a w (fun a' w' => ∃ v, a' = a.put o.dst v ∧ (o.dst ≠ none → R i v w') ∧ (o.dst = none → T i w') ∧ C w' ∧ G w w') Q
def OblAll (P : Program) (ops : Array Oper) (a0 : Act) (C : World → Prop) (G : World → World → Prop) (R : Nat → Value → World → Prop) (T : Nat → World → Prop) (Q : Exit → Act → World → Prop) : Nat → List Oper → Prop
  | _, [] => True
  | i, o :: l => Obl P ops a0 C G R T Q i o ∧ OblAll P ops a0 C G R T Q (i + 1) l
theorem OblAll.get {a0 : Act} {C : World → Prop} {G : World → World → Prop} {R : Nat → Value → World → Prop} {T : Nat → World → Prop} :
    ∀ {l : List Oper} {k : Nat}, OblAll P ops a0 C G R T Q k l → ∀ {i : Nat} {o : Oper}, l[i]? = some o → Obl P ops a0 C G R T Q (k + i) o
  | [], _, _, _, _, h => by simp at h
  | _ :: _, _, h, 0, _, ho => by simp at ho; subst ho; exact h.1
  | _ :: l, k, h, i + 1, _, ho => by
    have := OblAll.get h.2 (i := i) (by simpa using ho)
    rwa [Nat.add_assoc, Nat.add_comm 1 i] at this

theorem Obl.mk {a0 : Act} {C : World → Prop} {G : World → World → Prop} {R : Nat → Value → World → Prop} {T : Nat → World → Prop} {i : Nat} {o : Oper}
    (h : ∀ a w, C w → (∀ t, ((List.range ops.size).all fun j => slotOf ops j != some t || behind ops i j) = true → a.eval (.tmp t) = a0.eval (.tmp t)) →
      (∀ j, behind ops j i = true → Has ops R j a w) → ∀ K : Act → World → Prop, (∀ v w', (o.dst ≠ none → R i v w') → (o.dst = none → T i w') → C w' → G w w' → K (a.put o.dst v) w') → o.wp P a w K Q) : Obl P ops a0 C G R T Q i o :=
  fun a w hC he hd => h a w hC he hd _ fun v w' h1 h2 h3 h4 => ⟨v, rfl, h1, h2, h3, h4⟩

theorem wp_region_inv {id : Nat} {a0 : Act} {w0 : World} {C : World → Prop} {G : World → World → Prop} {R : Nat → Value → World → Prop} {T : Nat → World → Prop} (hm : P.follows .mixedOrders = true) (ht : tidy ops a0.tmps.size = true)
    (hG : ∀ j v w w', C w → G w w' → R j v w → R j v w') (hGT : ∀ j w w', C w → G w w' → T j w → T j w') (hC : C { w0 with drawn := w0.drawn + 1 })
    (hO : OblAll P ops a0 C G R T Q 0 ops.toList)
    (hQ : ∀ a w, C w → a.defers = a0.defers → a.tmps.size = a0.tmps.size → (∀ t, (ops.all fun o => o.dst != some t) = true → a.eval (.tmp t) = a0.eval (.tmp t)) → (∀ j, j < ops.size → Has ops R j a w) → (∀ j, HasT ops T j w) → Q .normal a w) :
    (Code.region id ops true).wp P Q a0 w0 := by
  unfold tidy at ht
  simp only [Bool.and_eq_true] at ht
  obtain ⟨⟨⟨hlow, hgd⟩, hbd⟩, hdis⟩ := ht
  have slot_lt : ∀ {j d}, slotOf ops j = some d → j < ops.size := fun {j d} h => by
    unfold slotOf at h
    cases ho : ops[j]? with
    | none => rw [ho] at h; cases h
    | some o => exact (Array.getElem?_eq_some_iff.1 ho).1
  have slot_bd : ∀ {j d}, slotOf ops j = some d → d < a0.tmps.size := fun {j d} h => by
    have hj := slot_lt h
    have := Array.all_eq_true.1 hbd j hj
    unfold slotOf at h
    rw [Array.getElem?_eq_getElem hj] at h
    simp only [Option.bind_some] at h
    rw [h] at this
    simpa using this
  have slot_ne : ∀ {i j d}, slotOf ops i = some d → slotOf ops j = some d → i = j := fun {i j d} h1 h2 => by
    have a1 := slot_lt h1
    have a2 := slot_lt h2
    have := List.all_eq_true.1 (List.all_eq_true.1 hdis i (List.mem_range.2 a1)) j (List.mem_range.2 a2)
    rw [h1, h2] at this
    simpa using this
  let Inv : Array Bool → Act → World → Prop := fun listed a w => C w ∧ a.defers = a0.defers ∧ a.tmps.size = a0.tmps.size ∧
    (∀ t, (∀ j, slotOf ops j = some t → listed.getD j false = false) → a.eval (.tmp t) = a0.eval (.tmp t)) ∧
    (∀ j, listed.getD j false = true → Has ops R j a w) ∧ (∀ i j, listed.getD j false = true → behind ops i j = true → listed.getD i false = true) ∧ (∀ j, listed.getD j false = true → HasT ops T j w)
  refine wp_region_any hm (wpAny_inv (Inv := Inv) hlow ?_ ?_ _ _ _ _ (by simp) (by simp) ⟨hC, rfl, rfl, fun _ _ => rfl, ?_, ?_, ?_⟩)
  · intro i listed a w hs hi ⟨hCw, hd, hsz, hext, hhas, hcl, hT⟩
    obtain ⟨hun, o, ho, hdeps⟩ := mem_ready.1 hi
    have hilt : i < ops.size := (Array.getElem?_eq_some_iff.1 ho).1
    have hun' : listed.getD i false = false := by
      have : i < listed.size := by omega
      simp [this] at hun ⊢; exact hun
    have hg : o.guard = none := by
      have := Array.all_eq_true.1 hgd i hilt
      rw [Array.getElem?_eq_getElem hilt] at ho
      cases ho
      simpa using this
    have hob := OblAll.get hO (i := i) (o := o) (by simpa using ho)
    rw [Nat.zero_add] at hob
    have hwp := hob a w hCw (fun t htt => hext t fun j hj => by
        have := List.all_eq_true.1 htt j (List.mem_range.2 (slot_lt hj))
        rw [hj] at this
        simp at this
        cases hl : listed.getD j false
        · rfl
        · have := hcl i j hl this; rw [hun'] at this; cases this)
      (fun j hj => hhas j (by
        obtain ⟨e, he, h1, h2⟩ := behind_spec hj ho
        rw [← h1]
        exact hdeps e he h2))
    unfold wpOp
    rw [ho]
    simp only [Region.wanted, hg, if_true]
    refine .inl (Oper.wp_mono ?_ hwp)
    rintro a' w' ⟨v, rfl, hR, hTi, hC', hGw⟩
    have hdst : slotOf ops i = o.dst := by unfold slotOf; rw [ho]; rfl
    have keep : ∀ t, o.dst ≠ some t → (a.put o.dst v).eval (.tmp t) = a.eval (.tmp t) := fun t h => Act.eval_put (fun d hd he => h (by rw [hd]; cases he; rfl))
    have lst : ∀ j, (listed.setIfInBounds i true).getD j false = true → j = i ∨ listed.getD j false = true := fun j h => by
      by_cases hji : i = j
      · exact .inl hji.symm
      · rw [getD_set_ne false hji] at h; exact .inr h
    refine ⟨hC', ?_, ?_, ?_, ?_, ?_, ?_⟩
    · rw [← hd]; unfold Act.put; split <;> rfl
    · rw [← hsz]; unfold Act.put; split <;> simp
    · intro t htt
      rw [keep t (fun h => by
        have := htt i (by rw [hdst]; exact h)
        have hlt : i < listed.size := by omega
        simp [hlt] at this)]
      refine hext t fun j hj => ?_
      have := htt j hj
      cases hl : listed.getD j false
      · rfl
      · rw [getD_set_true hl] at this; cases this
    · intro j hj d hjd
      rcases lst j hj with rfl | hj'
      · rw [hdst] at hjd
        have hb := slot_bd (j := j) (by rw [hdst]; exact hjd)
        have : (a.put o.dst v).eval (.tmp d) = v := by
          unfold Act.put Act.eval; rw [hjd]; simp; exact fun h => absurd (Nat.lt_of_lt_of_le hb (hsz ▸ h)) (Nat.lt_irrefl _)
        rw [this]; exact hR (by rw [hjd]; simp)
      · rw [keep d (fun h => by
          have := slot_ne (show slotOf ops i = some d by rw [hdst]; exact h) hjd
          subst this; rw [hun'] at hj'; cases hj')]
        exact hG _ _ _ _ hCw hGw (hhas j hj' d hjd)
    · intro i' j hj hb
      rcases lst j hj with rfl | hj'
      · refine getD_set_true ?_
        obtain ⟨e, he, h1, h2⟩ := behind_spec hb ho
        rw [← h1]; exact hdeps e he h2
      · exact getD_set_true (hcl i' j hj' hb)
    · intro j hj hn hlt
      rcases lst j hj with rfl | hj'
      · rw [hdst] at hn
        exact hTi hn
      · exact hGT _ _ _ hCw hGw (hT j hj' hn hlt)
  · intro listed a w hall ⟨hCw, hd, hsz, hext, hhas, _, hT⟩
    refine hQ a w hCw hd hsz (fun t htt => hext t fun j hj => ?_) (fun j hj => hhas j (hall j hj)) (fun j hn hlt => hT j (hall j hlt) hn hlt)
    exfalso
    have hlt := slot_lt hj
    have := Array.all_eq_true.1 htt j hlt
    unfold slotOf at hj
    rw [Array.getElem?_eq_getElem hlt] at hj
    simp only [Option.bind_some] at hj
    rw [hj] at this
    simp at this
  · intro j hj
    simp at hj
    rw [Array.getElem?_replicate] at hj; split at hj <;> simp at hj
  · intro i j hj
    simp at hj
    rw [Array.getElem?_replicate] at hj; split at hj <;> simp at hj
  · intro j hj
    simp at hj
    rw [Array.getElem?_replicate] at hj; split at hj <;> simp at hj

theorem wp_region_mix {id : Nat} {a0 : Act} {w0 : World} {C : World → Prop} {G : World → World → Prop} {R : Nat → Value → World → Prop} {T : Nat → World → Prop} (m : List Bool) (hm : P.follows .mixedOrders = true) (ht : tidy ops a0.tmps.size = true)
    (hk : maskOk ops m a0.tmps.size = true)
    (hG : ∀ j v w w', C w → G w w' → R j v w → R j v w') (hGT : ∀ j w w', C w → G w w' → T j w → T j w') (hC : C { w0 with drawn := w0.drawn + 1 })
    (hO : OblAll P ops a0 C G R T Q 0 ops.toList)
    (hQ : ∀ (f : Nat → Value) w, C w → (∀ j d, slotOf ops j = some d → R j (f d) w) → (∀ j, HasT ops T j w) → Q .normal ⟨(mixL f m 0 a0.tmps.toList).toArray, a0.defers⟩ w) :
    (Code.region id ops true).wp P Q a0 w0 := by
  refine wp_region_inv hm ht hG hGT hC hO fun a w hCw hd hsz hext hhas hT => ?_
  unfold maskOk at hk
  simp only [Bool.and_eq_true, beq_iff_eq] at hk
  obtain ⟨hml, hmk⟩ := hk
  have e : a = ⟨(mixL (fun t => a.eval (.tmp t)) m 0 a0.tmps.toList).toArray, a0.defers⟩ := by
    rw [mixL_eq _ _ _ _ (by simpa using hml) ?_]
    · cases a with
      | mk tmps defers =>
        simp only [Act.mk.injEq]
        refine ⟨?_, hd⟩
        apply Array.ext'
        apply List.ext_getElem?
        intro i
        simp only at hsz
        by_cases hi : i < tmps.size
        · have hi' : i < a0.tmps.size := by omega
          simp [hi, hi', Act.eval]
        · have hi' : ¬ i < a0.tmps.size := by omega
          simp [hi, hi']
    · intro i hi
      have hlt : i < a0.tmps.size := by
        have := (List.getElem?_eq_some_iff.1 hi).1; omega
      have h1 := List.all_eq_true.1 hmk i (List.mem_range.2 hlt)
      have h2 : m.getD i false = false := by simp [List.getD, hi]
      rw [h2, Bool.false_or] at h1
      have h3 := hext i h1
      rw [Nat.zero_add, h3]
      simp [Act.eval, hlt]
  have h1 : ∀ j d, slotOf ops j = some d → R j ((fun t => a.eval (.tmp t)) d) w := fun j d hj => hhas j (by
    unfold slotOf at hj
    cases ho : ops[j]? with
    | none => rw [ho] at hj; cases hj
    | some o => exact (Array.getElem?_eq_some_iff.1 ho).1) d hj
  rw [e]
  exact hQ (fun t => a.eval (.tmp t)) w hCw h1 hT
end
end Reg2
end Go.Proofs.Ytmbekamnogbgaab


/-
How a spring pulls: what the program's own parts return. Conditions: the spring's places are places of the list.
-/
namespace Go.Proofs.Ytmbekamnogbgaab
open Go Fk Go.RowKit
set_option linter.unusedVariables false
set_option maxRecDepth 8000

def gainC (x l : Option Nat) : Option Nat := if ford .f32 l (some 0) == some .gt then fop .quo .f32 x l else some 0
def wayC (cs : List C3) (i j : Int) : C3 := lessC (cs.getD j.toNat c0) (cs.getD i.toNat c0)
def perC (d : C3) (l s : Option Nat) : Option Nat := gainC (fop .mul .f32 s (fop .sub .f32 (longC d) l)) (longC d)
def scaleC (c : C3) (q : Option Nat) : C3 := (fop .mul .f32 c.1 q, fop .mul .f32 c.2.1 q, fop .mul .f32 c.2.2 q)
def pullC (cs : List C3) (s : SC) : C3 := scaleC (wayC cs s.1 s.2.1) (perC (wayC cs s.1 s.2.1) s.2.2.1 s.2.2.2)
theorem inB_nat {n : Nat} {z : Int} (h : inB n z = true) : ∃ k : Nat, z = k ∧ k < n := by
  have := of_decide_eq_true h
  exact ⟨z.toNat, by omega, by omega⟩
set_option maxHeartbeats 2000000 in
theorem impl_way (a b : Int) (x y : Nat) (pa : Option Addr) (pl pc : Nat) (cs : List C3) (w : World) (h : IsVs w pa pl pc cs) (ha : inB pl a = true) (hb : inB pl b = true) :
    Calls Try.prog 93 #[sv a b x y, .slice pa pl pc] w fun e w' => ∃ s t u, e = .returned (vv s t u) ∧ FV3 s t u (wayC cs a b) ∧ Below w.heap.size w w' := by
  obtain ⟨i, rfl, hi⟩ := inB_nat ha
  obtain ⟨j, rfl, hj⟩ := inB_nat hb
  have u := Try.underlying52
  have ui := Try.underlying2
  have us := Try.underlying116
  have uv := Try.underlying62
  have hm : pl ≤ 9223372036854775807 := by have h1 := h.2.1; have h2 := h.2.2.1; unfold maxLen at h2; omega
  obtain ⟨pb, po, rfl, hcell⟩ := h.some (by omega)
  obtain ⟨p, q, r, i0, i1, i2, fi⟩ := hcell i hi
  obtain ⟨p', q', r', j0, j1, j2, fj⟩ := hcell j hj
  have a0 : At ((w.alloc (.cells #[.int .i64 (i : Int), .int .i64 (j : Int), .float .f32 x, .float .f32 y] 116)).alloc (.cells #[.float .f32 0, .float .f32 0, .float .f32 0] 62)) w.heap.size [.int .i64 (i : Int), .int .i64 (j : Int), .float .f32 x, .float .f32 y] := At.new.alloc
  have r0 : V3 ((w.alloc (.cells #[.int .i64 (i : Int), .int .i64 (j : Int), .float .f32 x, .float .f32 y] 116)).alloc (.cells #[.float .f32 0, .float .f32 0, .float .f32 0] 62)) (w.heap.size + 1) 0 0 0 := by
    have := V3.new (w := w.alloc (.cells #[.int .i64 (i : Int), .int .i64 (j : Int), .float .f32 x, .float .f32 y] 116)) (x := 0) (y := 0) (z := 0) (t := 62)
    simpa using this
  have b0 : Below w.heap.size w ((w.alloc (.cells #[.int .i64 (i : Int), .int .i64 (j : Int), .float .f32 x, .float .f32 y] 116)).alloc (.cells #[.float .f32 0, .float .f32 0, .float .f32 0] 62)) := ((Below.refl _ _).alloc (Nat.le_refl _) _).alloc (by simp) _
  have HK := Lib.hid (And.intro b0 (And.intro a0 (And.intro r0 (And.intro (And.intro (cell_below b0 j0) (And.intro (cell_below b0 j1) (cell_below b0 j2))) (And.intro (cell_below b0 i0) (And.intro (cell_below b0 i1) (cell_below b0 i2)))))))
  have hi0 : (0 : Int) ≤ (i : Int) := by omega
  have hi1 : (i : Int) < (pl : Int) := by omega
  have hj0 : (0 : Int) ≤ (j : Int) := by omega
  have hj1 : (j : Int) < (pl : Int) := by omega
  clear h hcell a0 r0 b0 i0 i1 i2 j0 j1 j2
  go_enter Try.func93, Try.ntmps93
  go_wp2_with fail
  generalize ((w.alloc (.cells #[.int .i64 (i : Int), .int .i64 (j : Int), .float .f32 x, .float .f32 y] 116)).alloc (.cells #[.float .f32 0, .float .f32 0, .float .f32 0] 62)) = W at *
  refine Reg3.wp_region_mix (C := fun w' => Below w.heap.size w w' ∧ At w' w.heap.size [.int .i64 (i : Int), .int .i64 (j : Int), .float .f32 x, .float .f32 y] ∧ V3 w' (w.heap.size + 1) 0 0 0 ∧ (w'.cell? ⟨pb, po + j * 3, none⟩ = some (.float .f32 p') ∧ w'.cell? ⟨pb, po + j * 3 + 1, none⟩ = some (.float .f32 q') ∧ w'.cell? ⟨pb, po + j * 3 + 2, none⟩ = some (.float .f32 r')) ∧ w'.cell? ⟨pb, po + i * 3, none⟩ = some (.float .f32 p) ∧ w'.cell? ⟨pb, po + i * 3 + 1, none⟩ = some (.float .f32 q) ∧ w'.cell? ⟨pb, po + i * 3 + 2, none⟩ = some (.float .f32 r)) (G := fun _ _ => True)
    (R := fun k v _ => match k with | 0 => v = (.slice (some ⟨pb, po, none⟩) pl pc) | 1 => v = .pointer (some ⟨w.heap.size, 1, none⟩) | 2 => v = .int .i64 (j : Int) | 3 => v = .pointer (some ⟨pb, po + j * 3, none⟩) | 4 => v = vv p' q' r' | 5 => v = (.slice (some ⟨pb, po, none⟩) pl pc) | 6 => v = .pointer (some ⟨w.heap.size, 0, none⟩) | 7 => v = .int .i64 (i : Int) | 8 => v = .pointer (some ⟨pb, po + i * 3, none⟩) | 9 => v = vv p q r | 10 => ∃ s t u, v = vv s t u ∧ FV3 s t u (lessC (cs.getD j c0) (cs.getD i c0)) | _ => True)
    (T := fun _ _ w' => Below w.heap.size w w' ∧ ∃ s t u, V3 w' (w.heap.size + 1) s t u ∧ FV3 s t u (lessC (cs.getD j c0) (cs.getD i c0))) [false, false, false, false, false, true, true, true, true, true, true, true, true, true, true, true]
    (by kernel_rfl) (by kernel_rfl) (by kernel_rfl) (fun _ _ _ _ _ _ h => h) ⟨below_drewN HK.out.1 1, HK.out.2⟩ ?_ ?_
  · refine ⟨Reg3.Obl.mk ?_, Reg3.Obl.mk ?_, Reg3.Obl.mk ?_, Reg3.Obl.mk ?_, Reg3.Obl.mk ?_, Reg3.Obl.mk ?_, Reg3.Obl.mk ?_, Reg3.Obl.mk ?_, Reg3.Obl.mk ?_, Reg3.Obl.mk ?_, Reg3.Obl.mk ?_, Reg3.Obl.mk ?_, trivial⟩
    · rintro a w1 hC hx hd K hK
      have HC := Lib.hid hC
      clear hC
      have t1 : a.tmps[1]?.getD undef = (.slice (some ⟨pb, po, none⟩) pl pc) := Reg.slot_val (hx 1 (by kernel_rfl))
      go_simp
      exact hK _ _ (fun _ => rfl) (fun h => by cases h) (fun _ => HC.out) trivial
    · rintro a w1 hC hx hd K hK
      have HC := Lib.hid hC
      clear hC
      have t2 : a.tmps[2]?.getD undef = .pointer (some ⟨w.heap.size, 0, none⟩) := Reg.slot_val (hx 2 (by kernel_rfl))
      go_simp
      exact hK _ _ (fun _ => rfl) (fun h => by cases h) (fun _ => HC.out) trivial
    · rintro a w1 hC hx hd K hK
      have HC := Lib.hid hC
      clear hC
      have y1 := HC.out.2.1 1 _ rfl
      have t6 : a.tmps[6]?.getD undef = .pointer (some ⟨w.heap.size, 1, none⟩) := Reg.slot_val (hd 1 (by kernel_rfl) 6 rfl)
      go_simp
      exact hK _ _ (fun _ => rfl) (fun h => by cases h) (fun _ => HC.out) trivial
    · rintro a w1 hC hx hd K hK
      have HC := Lib.hid hC
      clear hC
      have t5 : a.tmps[5]?.getD undef = (.slice (some ⟨pb, po, none⟩) pl pc) := Reg.slot_val (hd 0 (by kernel_rfl) 5 rfl)
      have t7 : a.tmps[7]?.getD undef = .int .i64 (j : Int) := Reg.slot_val (hd 2 (by kernel_rfl) 7 rfl)
      go_simp
      exact hK _ _ (fun _ => rfl) (fun h => by cases h) (fun _ => HC.out) trivial
    · rintro a w1 hC hx hd K hK
      have HC := Lib.hid hC
      clear hC
      obtain ⟨y0, y1, y2⟩ := HC.out.2.2.2.1
      have t8 : a.tmps[8]?.getD undef = .pointer (some ⟨pb, po + j * 3, none⟩) := Reg.slot_val (hd 3 (by kernel_rfl) 8 rfl)
      go_simp
      exact hK _ _ (fun _ => rfl) (fun h => by cases h) (fun _ => HC.out) trivial
    · rintro a w1 hC hx hd K hK
      have HC := Lib.hid hC
      clear hC
      have t1 : a.tmps[1]?.getD undef = (.slice (some ⟨pb, po, none⟩) pl pc) := Reg.slot_val (hx 1 (by kernel_rfl))
      go_simp
      exact hK _ _ (fun _ => rfl) (fun h => by cases h) (fun _ => HC.out) trivial
    · rintro a w1 hC hx hd K hK
      have HC := Lib.hid hC
      clear hC
      have t2 : a.tmps[2]?.getD undef = .pointer (some ⟨w.heap.size, 0, none⟩) := Reg.slot_val (hx 2 (by kernel_rfl))
      go_simp
      exact hK _ _ (fun _ => rfl) (fun h => by cases h) (fun _ => HC.out) trivial
    · rintro a w1 hC hx hd K hK
      have HC := Lib.hid hC
      clear hC
      have y1 := HC.out.2.1 0 _ rfl
      have t11 : a.tmps[11]?.getD undef = .pointer (some ⟨w.heap.size, 0, none⟩) := Reg.slot_val (hd 6 (by kernel_rfl) 11 rfl)
      go_simp
      exact hK _ _ (fun _ => rfl) (fun h => by cases h) (fun _ => HC.out) trivial
    · rintro a w1 hC hx hd K hK
      have HC := Lib.hid hC
      clear hC
      have t10 : a.tmps[10]?.getD undef = (.slice (some ⟨pb, po, none⟩) pl pc) := Reg.slot_val (hd 5 (by kernel_rfl) 10 rfl)
      have t12 : a.tmps[12]?.getD undef = .int .i64 (i : Int) := Reg.slot_val (hd 7 (by kernel_rfl) 12 rfl)
      go_simp
      exact hK _ _ (fun _ => rfl) (fun h => by cases h) (fun _ => HC.out) trivial
    · rintro a w1 hC hx hd K hK
      have HC := Lib.hid hC
      clear hC
      obtain ⟨y0, y1, y2⟩ := HC.out.2.2.2.2
      have t13 : a.tmps[13]?.getD undef = .pointer (some ⟨pb, po + i * 3, none⟩) := Reg.slot_val (hd 8 (by kernel_rfl) 13 rfl)
      go_simp
      exact hK _ _ (fun _ => rfl) (fun h => by cases h) (fun _ => HC.out) trivial
    · rintro a w1 hC hx hd K hK
      have HC := Lib.hid hC
      clear hC
      have t9 : a.tmps[9]?.getD undef = vv p' q' r' := Reg.slot_val (hd 4 (by kernel_rfl) 9 rfl)
      have t14 : a.tmps[14]?.getD undef = vv p q r := Reg.slot_val (hd 9 (by kernel_rfl) 14 rfl)
      go_simp
      refine (impl_LessVectors _ _ _ _ _ _ _ _ _ _ _ _ _ fj.1 fj.2.1 fj.2.2 fi.1 fi.2.1 fi.2.2).mono ?_
      rintro e w2 ⟨ax, ay, az, rfl, fx, fy, fz, hB1⟩
      obtain ⟨hB, hA, hR, ⟨z0, z1, z2⟩, z3, z4, z5⟩ := HC.out
      exact hK _ _ (fun _ => ⟨ax, ay, az, rfl, fx, fy, fz⟩) (fun h => by cases h) (fun _ => ⟨hB.trans (hB1.mono hB.size), hA.below hB1, hR.below hB1, ⟨cell_below hB1 z0, cell_below hB1 z1, cell_below hB1 z2⟩, cell_below hB1 z3, cell_below hB1 z4, cell_below hB1 z5⟩) trivial
    · rintro a w1 hC hx hd K hK
      have HC := Lib.hid hC
      clear hC
      have t4 : a.tmps[4]?.getD undef = .pointer (some ⟨w.heap.size + 1, 0, none⟩) := Reg.slot_val (hx 4 (by kernel_rfl))
      obtain ⟨s, t, u, g5, hG⟩ := hd 10 (by kernel_rfl) 15 rfl
      have t15 := Reg.slot_val g5
      clear g5
      have HP := Lib.hid (HC.out.2.2.1.put (p := s) (q := t) (r := u))
      have HB2 := Lib.hid (below_set3 (n := w.heap.size + 1) (o1 := 0) (o2 := 1) (o3 := 2) (u := .float .f32 s) (v := .float .f32 t) (t := .float .f32 u) HC.out.1 (Nat.le_succ _))
      obtain ⟨⟨u0, u1, u2⟩, uf⟩ := HC.out.2.2.1
      have uf0 := uf 0
      have uf1 := uf 1
      have uf2 := uf 2
      have HG := Lib.hid hG
      clear uf hG
      go_simp
      exact hK undef _ (fun h => absurd rfl h) (fun _ => ⟨HB2.out, s, t, u, HP.out, HG.out⟩) (fun h => absurd rfl h) trivial
  · rintro f w1 hd hT
    obtain ⟨hB, s, t, u, hV, hG⟩ := hT 11 (by kernel_rfl) (by decide)
    simp only [Reg.mixL]
    obtain ⟨⟨v0, v1, v2⟩, -⟩ := hV
    have HB := Lib.hid hB
    have HG := Lib.hid hG
    clear hB hG hd hT
    go_wp2
    refine bodyPost_ret (v := vv s t u) (by simp [results, Try.results93, go_sem, v0, v1, v2]) rfl ⟨s, t, u, rfl, HG.out, HB.out⟩
end Go.Proofs.Ytmbekamnogbgaab


/-
Which bodies are valid: what the program and its model return. Conditions: none.
-/
namespace Go.Proofs.Ytmbekamnogbgaab
open Go Fk Go.RowKit
set_option linter.unusedVariables false
set_option maxRecDepth 8000

theorem ss_all {n : Nat} {ss : List SC} (h : ∀ j, j < ss.length → springB n (ss.getD j s0) = true) : ss.all (springB n) = true := by
  rw [List.all_eq_true]
  intro x hx
  obtain ⟨j, hj, rfl⟩ := List.getElem_of_mem hx
  have := h j hj
  simpa [List.getD, hj] using this
theorem ss_not {n : Nat} {ss : List SC} {k : Nat} (hk : k < ss.length) (h : springB n (ss.getD k s0) = false) : ss.all (springB n) = false := by
  rw [Bool.eq_false_iff]
  intro hh
  have := List.all_eq_true.1 hh (ss[k]) (List.getElem_mem hk)
  have h' : springB n ss[k] = false := by simpa [List.getD, hk] using h
  rw [this] at h'; cases h'
/-- What there is to know of the lengths of a body's lists. -/
theorem IsB.lens {w : World} {B : Bd} {c : Bc} (h : IsB w B c) : c.cs.length = B.pl ∧ c.ts.length = B.tl ∧ c.ss.length = B.sl ∧ c.zs.length = B.wl := ⟨h.1.1, h.2.1.1, h.2.2.1.1, h.2.2.2.1.1⟩
abbrev BoxB (B : Bd) (t : TypeId) : Obj := .cells #[.slice B.pa B.pl B.pc, .slice B.ta B.tl B.tc, .slice B.sa B.sl B.sc, .float .f32 B.film, .float .f32 B.bend, .slice B.wa B.wl B.wc, .float .f32 B.x, .float .f32 B.y, .float .f32 B.z] t
set_option maxHeartbeats 2000000 in
theorem impl_ValidBody (B : Bd) (c : Bc) (w : World) (h : IsB w B c) :
    Calls Try.prog 90 #[B.v] w fun e w' => e = .returned (.bool (bodyB c)) ∧ Below w.heap.size w w' := by
  have ui := Try.underlying64
  have um := Try.underlying32
  have us := Try.underlying116
  have hA0 : At (w.alloc (BoxB B 64)) w.heap.size B.l := At.new
  have hB0 := (Below.refl w.heap.size w).alloc (Nat.le_refl _) (BoxB B 64)
  obtain ⟨lp, lt, ls, lw⟩ := h.lens
  have H0 := Lib.hid (h.below hB0)
  have A0 := Lib.hid hA0
  have B0 := Lib.hid hB0
  have hJ := impl_ValidMesh _ _ _ _ _ _ c.cs c.ts _ H0.out.1 H0.out.2.1
  have LS := Lib.hid ls
  unfold bodyB
  rw [ls, lw, lp]
  clear h hA0 hB0 lp lt lw ls
  cases hv : validB c.cs c.ts
  · rw [hv] at hJ
    have HJ := Lib.hid hJ
    clear hJ hv
    go_enter Try.func90, Try.ntmps90
    go_wp2_with fail
    refine HJ.out.mono ?_
    rintro e w1 ⟨rfl, hB1⟩
    have B1 := Lib.hid (B0.out.trans (hB1.mono B0.out.size))
    clear hB1
    go_wp2
    go_ret
    exact ⟨rfl, B1.out⟩
  · rw [hv] at hJ
    have HJ := Lib.hid hJ
    clear hJ hv
    by_cases h1 : B.sl ≤ 200
    · have g1 : ¬ (200 : Int) < B.sl := by omega
      rw [decide_eq_true h1]
      by_cases h2 : B.wl = B.pl
      · have g2 : ((B.wl : Int) == (B.pl : Int)) = true := by simp [h2]
        have g2' : ((B.wl : Int) != (B.pl : Int)) = false := by simp [h2]
        rw [decide_eq_true h2]
        have H2 := Lib.hid h2
        clear h2
        go_enter Try.func90, Try.ntmps90
        go_wp2_with fail
        refine HJ.out.mono ?_
        rintro e w1 ⟨rfl, hB1⟩
        have A1 := Lib.hid (A0.out.below hB1)
        have B1 := Lib.hid (B0.out.trans (hB1.mono B0.out.size))
        have H1 := Lib.hid (H0.out.below hB1)
        have k1 := A1.out 2 _ rfl
        have k4 := A1.out 5 _ rfl
        clear hB1
        go_wp2
        have hm : B.sl ≤ 9223372036854775807 := by omega
        go_loopw [30] (fun i w' => ∃ k : Nat, k ≤ B.sl ∧ i = .int .i64 k ∧ Aside (∀ j, j < k → springB B.pl (c.ss.getD j s0) = true) ∧ Aside (Below w1.heap.size w1 w')) (fun i _ => B.sl - (intOf i).toNat)
        case atStart => exact ⟨0, Nat.zero_le _, rfl, (fun j hj => absurd hj (by omega)), Below.refl _ _⟩
        case round =>
          obtain ⟨k, hk, rfl, hall, hA⟩ := hrel
          have HB := Lib.hid hA.out
          clear hA
          by_cases hlt : k < B.sl
          · obtain ⟨b, o, hsa, hcell⟩ := (H1.out.below HB.out).2.2.1.some (by omega)
            obtain ⟨p, q, c0, c1, c2, c3, fp, fq⟩ := hcell k hlt
            have hJ := fun w => impl_isBetween (c.ss.getD k s0).1 (c.ss.getD k s0).2.1 p q B.pl (c.ss.getD k s0).2.2.1 (c.ss.getD k s0).2.2.2 w fp
            have hsp : springB B.pl ((c.ss.getD k s0).1, (c.ss.getD k s0).2.1, (c.ss.getD k s0).2.2.1, (c.ss.getD k s0).2.2.2) = springB B.pl (c.ss.getD k s0) := rfl
            rw [hsp] at hJ
            have hk0 : (0 : Int) ≤ (k : Int) := by omega
            have hk1 : (k : Int) < (B.sl : Int) := by omega
            obtain ⟨ua, hua⟩ : ∃ ua, ua = (c.ss.getD k s0).1 := ⟨_, rfl⟩
            obtain ⟨ub, hub⟩ : ∃ ub, ub = (c.ss.getD k s0).2.1 := ⟨_, rfl⟩
            rw [← hua] at c0 hJ
            rw [← hub] at c1 hJ
            rw [hsa]
            clear hcell hsp hua hub hsa fp fq
            cases hb : springB B.pl (c.ss.getD k s0)
            · have hres : Aside ((true && true && true && c.ss.all (springB B.pl)) = false) := by show (true && true && true && c.ss.all (springB B.pl)) = false; rw [ss_not (by rw [LS.out]; exact hlt) hb]; rfl
              rw [hb] at hJ
              have HJ2 := Lib.hid hJ
              clear hJ hall hb
              go_wp2_with fail
              refine (HJ2.out _).mono ?_
              rintro e w2 ⟨rfl, hB2⟩
              have B2 := Lib.hid (B1.out.trans (((below_new HB.out (Nat.le_refl _)).trans (hB2.mono (below_new HB.out (Nat.le_refl _)).size)).mono B1.out.size))
              clear hB2
              go_wp2
              go_ret
              exact ⟨ret_bool hres.out.symm, B2.out⟩
            · have hall' : Aside (∀ j, j < k + 1 → springB B.pl (c.ss.getD j s0) = true) := by
                intro j hj
                by_cases hjk : j = k
                · subst hjk; exact hb
                · exact hall.out j (by omega)
              rw [hb] at hJ
              have HJ2 := Lib.hid hJ
              clear hJ hall hb
              go_wp2_with fail
              refine (HJ2.out _).mono ?_
              rintro e w2 ⟨rfl, hB2⟩
              have B2 := Lib.hid ((below_new HB.out (Nat.le_refl _)).trans (hB2.mono (below_new HB.out (Nat.le_refl _)).size))
              clear hB2
              go_wp2
              go_roundw
              case rel => exact ⟨k + 1, by omega, by go_num, hall', B2.out⟩
              case measure => simp [intOf]; omega
          · have hkl : k = B.sl := by omega
            have hres : Aside ((true && true && true && c.ss.all (springB B.pl)) = true) := by show (true && true && true && c.ss.all (springB B.pl)) = true; rw [ss_all (by rw [LS.out, ← hkl]; exact hall.out)]; rfl
            have g3 : ¬ (k : Int) < (B.sl : Int) := by omega
            clear hall hkl
            go_wp2
            go_ret
            exact ⟨ret_bool hres.out.symm, B1.out.trans (HB.out.mono B1.out.size)⟩
      · have g2 : ((B.wl : Int) == (B.pl : Int)) = false := beq_eq_false_iff_ne.2 (by omega)
        have g2' : ((B.wl : Int) != (B.pl : Int)) = true := by simp; omega
        rw [decide_eq_false h2]
        clear h2
        go_enter Try.func90, Try.ntmps90
        go_wp2_with fail
        refine HJ.out.mono ?_
        rintro e w1 ⟨rfl, hB1⟩
        have A1 := Lib.hid (A0.out.below hB1)
        have B1 := Lib.hid (B0.out.trans (hB1.mono B0.out.size))
        have k1 := A1.out 2 _ rfl
        have k4 := A1.out 5 _ rfl
        clear hB1
        go_wp2
        go_ret
        exact ⟨rfl, B1.out⟩
    · have g1 : (200 : Int) < B.sl := by omega
      rw [decide_eq_false h1]
      go_enter Try.func90, Try.ntmps90
      go_wp2_with fail
      refine HJ.out.mono ?_
      rintro e w1 ⟨rfl, hB1⟩
      have A1 := Lib.hid (A0.out.below hB1)
      have B1 := Lib.hid (B0.out.trans (hB1.mono B0.out.size))
      have k1 := A1.out 2 _ rfl
      have k4 := A1.out 5 _ rfl
      clear hB1
      go_wp2
      go_ret
      exact ⟨rfl, B1.out⟩
end Go.Proofs.Ytmbekamnogbgaab

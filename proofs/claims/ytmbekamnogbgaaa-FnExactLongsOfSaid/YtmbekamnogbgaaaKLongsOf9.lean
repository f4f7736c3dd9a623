/-
Texts in one: what LongsOf stands on, part 9. Conditions: those of each.
-/
import Derived.Test.YtmbekamnogbgaaaKLongsOf8

/-
A region whose order is open, with a store that comes last and changes what the others have read: what is asked of the memory is asked up to the store. Conditions: no operation is guarded, every edge leads to an earlier operation, no slot is written twice, the store comes last.
-/
namespace Go.Proofs.Ytmbekamnogbgaaa
namespace Reg3
open Go Reg
set_option linter.unusedVariables false
section
variable {P : Program} {ops : Array Oper} {Q : Exit → Act → World → Prop} {md : Region.Mode}
/-- What is asked of operation i. -/
def Obl (P : Program) (ops : Array Oper) (a0 : Act) (C : World → Prop) (G : World → World → Prop) (R : Nat → Value → World → Prop) (T : Nat → Act → World → Prop) (Q : Exit → Act → World → Prop) (i : Nat) (o : Oper) : Prop :=
  ∀ a w, C w → (∀ t, ((List.range ops.size).all fun j => slotOf ops j != some t || behind ops i j) = true → a.eval (.tmp t) = a0.eval (.tmp t)) →
    (∀ j, behind ops j i = true → Has ops R j a w) →
    o.wp P a w (fun a' w' => ∃ v, a' = a.put o.dst v ∧ (o.dst ≠ none → R i v w') ∧ (o.dst = none → T i a w') ∧ (o.dst ≠ none → C w') ∧ G w w') Q
def OblAll (P : Program) (ops : Array Oper) (a0 : Act) (C : World → Prop) (G : World → World → Prop) (R : Nat → Value → World → Prop) (T : Nat → Act → World → Prop) (Q : Exit → Act → World → Prop) : Nat → List Oper → Prop
  | _, [] => True
  | i, o :: l => Obl P ops a0 C G R T Q i o ∧ OblAll P ops a0 C G R T Q (i + 1) l
theorem OblAll.get {a0 : Act} {C : World → Prop} {G : World → World → Prop} {R : Nat → Value → World → Prop} {T : Nat → Act → World → Prop} :
    ∀ {l : List Oper} {k : Nat}, OblAll P ops a0 C G R T Q k l → ∀ {i : Nat} {o : Oper}, l[i]? = some o → Obl P ops a0 C G R T Q (k + i) o
  | [], _, _, _, _, h => by simp at h
  | _ :: _, _, h, 0, _, ho => by simp at ho; subst ho; exact h.1
  | _ :: l, k, h, i + 1, _, ho => by
    have := OblAll.get h.2 (i := i) (by simpa using ho)
    rwa [Nat.add_assoc, Nat.add_comm 1 i] at this

theorem Obl.mk {a0 : Act} {C : World → Prop} {G : World → World → Prop} {R : Nat → Value → World → Prop} {T : Nat → Act → World → Prop} {i : Nat} {o : Oper}
    (h : ∀ a w, C w → (∀ t, ((List.range ops.size).all fun j => slotOf ops j != some t || behind ops i j) = true → a.eval (.tmp t) = a0.eval (.tmp t)) →
      (∀ j, behind ops j i = true → Has ops R j a w) → ∀ K : Act → World → Prop, (∀ v w', (o.dst ≠ none → R i v w') → (o.dst = none → T i a w') → (o.dst ≠ none → C w') → G w w' → K (a.put o.dst v) w') → o.wp P a w K Q) : Obl P ops a0 C G R T Q i o :=
  fun a w hC he hd => h a w hC he hd _ fun v w' h1 h2 h3 h4 => ⟨v, rfl, h1, h2, h3, h4⟩

theorem wp_region_inv {id : Nat} {a0 : Act} {w0 : World} {C : World → Prop} {G : World → World → Prop} {R : Nat → Value → World → Prop} {T : Nat → Act → World → Prop} (hm : P.follows .mixedOrders = true) (ht : tidy ops a0.tmps.size = true)
    (hG : ∀ j v w w', C w → G w w' → R j v w → R j v w') (hC : C { w0 with drawn := w0.drawn + 1 })
    (hO : OblAll P ops a0 C G R T Q 0 ops.toList)
    (hQ : ∀ a w, a.defers = a0.defers → a.tmps.size = a0.tmps.size → (∀ t, (ops.all fun o => o.dst != some t) = true → a.eval (.tmp t) = a0.eval (.tmp t)) → (∀ j, j < ops.size → Has ops R j a w) → (∀ j, HasT ops T j a w) → Q .normal a w) :
    (Code.region id ops true).wp P Q a0 w0 := by
  unfold tidy at ht
  simp only [Bool.and_eq_true] at ht
  obtain ⟨⟨⟨⟨hlow, hgd⟩, hbd⟩, hdis⟩, hlast⟩ := ht
  have slot_lt : ∀ {j d}, slotOf ops j = some d → j < ops.size := fun {j d} h => by
    unfold slotOf at h
    cases ho : ops[j]? with
    | none => rw [ho] at h; cases h
    | some o => exact (Array.getElem?_eq_some_iff.1 ho).1
  have slot_bd : ∀ {j d}, slotOf ops j = some d → d < a0.tmps.size := fun {j d} h => by
    have hj := slot_lt h
    have := Array.all_eq_true.1 hbd j hj
    unfold slotOf at h
    rw [Array.getElem?_eq_getElem hj] at h
    simp only [Option.bind_some] at h
    rw [h] at this
    simpa using this
  have slot_ne : ∀ {i j d}, slotOf ops i = some d → slotOf ops j = some d → i = j := fun {i j d} h1 h2 => by
    have a1 := slot_lt h1
    have a2 := slot_lt h2
    have := List.all_eq_true.1 (List.all_eq_true.1 hdis i (List.mem_range.2 a1)) j (List.mem_range.2 a2)
    rw [h1, h2] at this
    simpa using this
  let Inv : Array Bool → Act → World → Prop := fun listed a w => ((∀ j, j < ops.size → slotOf ops j = none → listed.getD j false = false) → C w) ∧ a.defers = a0.defers ∧ a.tmps.size = a0.tmps.size ∧
    (∀ t, (∀ j, slotOf ops j = some t → listed.getD j false = false) → a.eval (.tmp t) = a0.eval (.tmp t)) ∧
    (∀ j, listed.getD j false = true → Has ops R j a w) ∧ (∀ i j, listed.getD j false = true → behind ops i j = true → listed.getD i false = true) ∧ (∀ j, listed.getD j false = true → HasT ops T j a w)
  refine wp_region_any hm (wpAny_inv (Inv := Inv) hlow ?_ ?_ _ _ _ _ (by simp) (by simp) ⟨fun _ => hC, rfl, rfl, fun _ _ => rfl, ?_, ?_, ?_⟩)
  · intro i listed a w hs hi ⟨hCw0, hd, hsz, hext, hhas, hcl, hT⟩
    obtain ⟨hun, o, ho, hdeps⟩ := mem_ready.1 hi
    have hilt : i < ops.size := (Array.getElem?_eq_some_iff.1 ho).1
    have hun' : listed.getD i false = false := by
      have : i < listed.size := by omega
      simp [this] at hun ⊢; exact hun
    have hg : o.guard = none := by
      have := Array.all_eq_true.1 hgd i hilt
      rw [Array.getElem?_eq_getElem hilt] at ho
      cases ho
      simpa using this
    have hCw : C w := hCw0 fun j hlt hn => by
      cases hl : listed.getD j false
      · rfl
      · exfalso
        have h1 := List.all_eq_true.1 hlast j (List.mem_range.2 hlt)
        rw [hn] at h1
        simp only [bne_self_eq_false, Bool.false_or] at h1
        have h2 := List.all_eq_true.1 h1 i (List.mem_range.2 hilt)
        have hne : i ≠ j := fun e => by subst e; rw [hun'] at hl; cases hl
        simp [hne] at h2
        have := hcl i j hl h2
        rw [hun'] at this; cases this
    have hob := OblAll.get hO (i := i) (o := o) (by simpa using ho)
    rw [Nat.zero_add] at hob
    have hwp := hob a w hCw (fun t htt => hext t fun j hj => by
        have := List.all_eq_true.1 htt j (List.mem_range.2 (slot_lt hj))
        rw [hj] at this
        simp at this
        cases hl : listed.getD j false
        · rfl
        · have := hcl i j hl this; rw [hun'] at this; cases this)
      (fun j hj => hhas j (by
        obtain ⟨e, he, h1, h2⟩ := behind_spec hj ho
        rw [← h1]
        exact hdeps e he h2))
    unfold wpOp
    rw [ho]
    simp only [Region.wanted, hg, if_true]
    refine .inl (Oper.wp_mono ?_ hwp)
    rintro a' w' ⟨v, rfl, hR, hTi, hC', hGw⟩
    have hdst : slotOf ops i = o.dst := by unfold slotOf; rw [ho]; rfl
    have keep : ∀ t, o.dst ≠ some t → (a.put o.dst v).eval (.tmp t) = a.eval (.tmp t) := fun t h => Act.eval_put (fun d hd he => h (by rw [hd]; cases he; rfl))
    have lst : ∀ j, (listed.setIfInBounds i true).getD j false = true → j = i ∨ listed.getD j false = true := fun j h => by
      by_cases hji : i = j
      · exact .inl hji.symm
      · rw [getD_set_ne false hji] at h; exact .inr h
    refine ⟨fun hno => hC' fun hn => ?_, ?_, ?_, ?_, ?_, ?_, ?_⟩
    · have := hno i hilt (by rw [hdst]; exact hn)
      have hlt : i < listed.size := by omega
      simp [hlt] at this
    · rw [← hd]; unfold Act.put; split <;> rfl
    · rw [← hsz]; unfold Act.put; split <;> simp
    · intro t htt
      rw [keep t (fun h => by
        have := htt i (by rw [hdst]; exact h)
        have hlt : i < listed.size := by omega
        simp [hlt] at this)]
      refine hext t fun j hj => ?_
      have := htt j hj
      cases hl : listed.getD j false
      · rfl
      · rw [getD_set_true hl] at this; cases this
    · intro j hj d hjd
      rcases lst j hj with rfl | hj'
      · rw [hdst] at hjd
        have hb := slot_bd (j := j) (by rw [hdst]; exact hjd)
        have : (a.put o.dst v).eval (.tmp d) = v := by
          unfold Act.put Act.eval; rw [hjd]; simp; exact fun h => absurd (Nat.lt_of_lt_of_le hb (hsz ▸ h)) (Nat.lt_irrefl _)
        rw [this]; exact hR (by rw [hjd]; simp)
      · rw [keep d (fun h => by
          have := slot_ne (show slotOf ops i = some d by rw [hdst]; exact h) hjd
          subst this; rw [hun'] at hj'; cases hj')]
        exact hG _ _ _ _ hCw hGw (hhas j hj' d hjd)
    · intro i' j hj hb
      rcases lst j hj with rfl | hj'
      · refine getD_set_true ?_
        obtain ⟨e, he, h1, h2⟩ := behind_spec hb ho
        rw [← h1]; exact hdeps e he h2
      · exact getD_set_true (hcl i' j hj' hb)
    · intro j hj hn hlt
      rcases lst j hj with rfl | hj'
      · rw [hdst] at hn
        have : a.put o.dst v = a := by rw [hn]; rfl
        rw [this]; exact hTi hn
      · exfalso
        have h1 := List.all_eq_true.1 hlast j (List.mem_range.2 hlt)
        rw [hn] at h1
        simp only [bne_self_eq_false, Bool.false_or] at h1
        have h2 := List.all_eq_true.1 h1 i (List.mem_range.2 hilt)
        have hne : i ≠ j := fun e => by subst e; rw [hun'] at hj'; cases hj'
        simp [hne] at h2
        have := hcl i j hj' h2
        rw [hun'] at this; cases this
  · intro listed a w hall ⟨_, hd, hsz, hext, hhas, _, hT⟩
    refine hQ a w hd hsz (fun t htt => hext t fun j hj => ?_) (fun j hj => hhas j (hall j hj)) (fun j hn hlt => hT j (hall j hlt) hn hlt)
    exfalso
    have hlt := slot_lt hj
    have := Array.all_eq_true.1 htt j hlt
    unfold slotOf at hj
    rw [Array.getElem?_eq_getElem hlt] at hj
    simp only [Option.bind_some] at hj
    rw [hj] at this
    simp at this
  · intro j hj
    simp at hj
    rw [Array.getElem?_replicate] at hj; split at hj <;> simp at hj
  · intro i j hj
    simp at hj
    rw [Array.getElem?_replicate] at hj; split at hj <;> simp at hj
  · intro j hj
    simp at hj
    rw [Array.getElem?_replicate] at hj; split at hj <;> simp at hj

theorem wp_region_mix {id : Nat} {a0 : Act} {w0 : World} {C : World → Prop} {G : World → World → Prop} {R : Nat → Value → World → Prop} {T : Nat → Act → World → Prop} (m : List Bool) (hm : P.follows .mixedOrders = true) (ht : tidy ops a0.tmps.size = true)
    (hk : maskOk ops m a0.tmps.size = true)
    (hG : ∀ j v w w', C w → G w w' → R j v w → R j v w') (hC : C { w0 with drawn := w0.drawn + 1 })
    (hO : OblAll P ops a0 C G R T Q 0 ops.toList)
    (hQ : ∀ (f : Nat → Value) w, (∀ j d, slotOf ops j = some d → R j (f d) w) → (∀ j, HasT ops T j ⟨(mixL f m 0 a0.tmps.toList).toArray, a0.defers⟩ w) → Q .normal ⟨(mixL f m 0 a0.tmps.toList).toArray, a0.defers⟩ w) :
    (Code.region id ops true).wp P Q a0 w0 := by
  refine wp_region_inv hm ht hG hC hO fun a w hd hsz hext hhas hT => ?_
  unfold maskOk at hk
  simp only [Bool.and_eq_true, beq_iff_eq] at hk
  obtain ⟨hml, hmk⟩ := hk
  have e : a = ⟨(mixL (fun t => a.eval (.tmp t)) m 0 a0.tmps.toList).toArray, a0.defers⟩ := by
    rw [mixL_eq _ _ _ _ (by simpa using hml) ?_]
    · cases a with
      | mk tmps defers =>
        simp only [Act.mk.injEq]
        refine ⟨?_, hd⟩
        apply Array.ext'
        apply List.ext_getElem?
        intro i
        simp only at hsz
        by_cases hi : i < tmps.size
        · have hi' : i < a0.tmps.size := by omega
          simp [hi, hi', Act.eval]
        · have hi' : ¬ i < a0.tmps.size := by omega
          simp [hi, hi']
    · intro i hi
      have hlt : i < a0.tmps.size := by
        have := (List.getElem?_eq_some_iff.1 hi).1; omega
      have h1 := List.all_eq_true.1 hmk i (List.mem_range.2 hlt)
      have h2 : m.getD i false = false := by simp [List.getD, hi]
      rw [h2, Bool.false_or] at h1
      have h3 := hext i h1
      rw [Nat.zero_add, h3]
      simp [Act.eval, hlt]
  have h1 : ∀ j d, slotOf ops j = some d → R j ((fun t => a.eval (.tmp t)) d) w := fun j d hj => hhas j (by
    unfold slotOf at hj
    cases ho : ops[j]? with
    | none => rw [ho] at hj; cases hj
    | some o => exact (Array.getElem?_eq_some_iff.1 ho).1) d hj
  rw [e] at hT ⊢
  exact hQ (fun t => a.eval (.tmp t)) w h1 hT
end
end Reg3
end Go.Proofs.Ytmbekamnogbgaaa


/-
Sums of lists of vectors: what the program and its model return. Conditions: none.
-/
namespace Go.Proofs.Ytmbekamnogbgaaa
open Go Fk Go.RowKit
set_option linter.unusedVariables false
set_option maxRecDepth 8000

def addC (a b : C3) : C3 := (fop .add .f32 a.1 b.1, fop .add .f32 a.2.1 b.2.1, fop .add .f32 a.2.2 b.2.2)
abbrev z3 : C3 := (some 0, some 0, some 0)
def totC (cs : List C3) : C3 := cs.foldl addC z3
theorem totC_snoc (cs : List C3) (k : Nat) (hk : k < cs.length) : totC (cs.take (k + 1)) = addC (totC (cs.take k)) (cs.getD k c0) := by
  rw [List.take_succ_eq_append_getElem hk]
  unfold totC
  rw [List.foldl_append]
  simp [List.getD, hk]
def FV3 (x y z : Nat) (c : C3) : Prop := FV .f32 x c.1 ∧ FV .f32 y c.2.1 ∧ FV .f32 z c.2.2
/-- A vector of one's own in memory. -/
def V3 (w : World) (b x y z : Nat) : Prop :=
  (w.cell? ⟨b, 0, none⟩ = some (.float .f32 x) ∧ w.cell? ⟨b, 1, none⟩ = some (.float .f32 y) ∧ w.cell? ⟨b, 2, none⟩ = some (.float .f32 z)) ∧ ∀ i, w.frozen? ⟨b, i, none⟩ = false
theorem V3.lt {w : World} {b x y z : Nat} (h : V3 w b x y z) : b < w.heap.size := World.block_lt_of_cell? w _ h.1.1
theorem V3.below {W w : World} {b x y z : Nat} (hb : Below W.heap.size W w) (h : V3 W b x y z) : V3 w b x y z :=
  ⟨⟨cell_below hb h.1.1, cell_below hb h.1.2.1, cell_below hb h.1.2.2⟩, fun i => frozen_below hb h.lt (h.2 i)⟩
theorem V3.drew {w : World} {n b x y z : Nat} (h : V3 w b x y z) : V3 (w.drewN n) b x y z := h
theorem V3.new {w : World} {x y z : Nat} {t : TypeId} : V3 (w.alloc (.cells #[.float .f32 x, .float .f32 y, .float .f32 z] t)) w.heap.size x y z := ⟨⟨new0, new1, new2⟩, fun i => newf⟩
theorem V3.alloc {w : World} {b x y z : Nat} {o : Obj} (h : V3 w b x y z) : V3 (w.alloc o) b x y z :=
  h.below ((Below.refl _ _).alloc (Nat.le_refl _) _)
theorem V3.put {w : World} {b x y z p q r : Nat} (h : V3 w b x y z) : V3 (((w.setCell ⟨b, 0, none⟩ (.float .f32 p)).setCell ⟨b, 1, none⟩ (.float .f32 q)).setCell ⟨b, 2, none⟩ (.float .f32 r)) b p q r := by
  obtain ⟨k0, k1, k2, _⟩ := set3k (u := .float .f32 p) (v := .float .f32 q) (t := .float .f32 r) (n := b) (o := 0) h.1.1 h.1.2.1 h.1.2.2
  exact ⟨⟨k0, k1, k2⟩, fun i => by simp; exact h.2 i⟩
theorem V3.far {w : World} {b x y z n : Nat} {u v t : Value} (h : V3 w b x y z) (hne : n ≠ b) : V3 (((w.setCell ⟨n, 0, none⟩ u).setCell ⟨n, 1, none⟩ v).setCell ⟨n, 2, none⟩ t) b x y z := by
  refine ⟨⟨?_, ?_, ?_⟩, fun i => by simp; exact h.2 i⟩
  · exact cell_set hne (cell_set hne (cell_set hne h.1.1))
  · exact cell_set hne (cell_set hne (cell_set hne h.1.2.1))
  · exact cell_set hne (cell_set hne (cell_set hne h.1.2.2))
def totB (n : Nat) (cs : List C3) : C3 := if n ≤ 256 then totC cs else z3
theorem FV3_zero : FV3 0 0 0 z3 := ⟨⟨by decide, by decide⟩, ⟨by decide, by decide⟩, ⟨by decide, by decide⟩⟩

set_option maxHeartbeats 1000000 in
theorem impl_TotalOf (a : Option Addr) (len cap : Nat) (cs : List C3) (w : World) (h : IsVs w a len cap cs) :
    Calls Try.prog 176 #[.slice a len cap] w fun e w' => ∃ x y z, e = .returned (.tuple #[vv x y z, .bool (decide (len ≤ 256))]) ∧ FV3 x y z (totB len cs) ∧ Below w.heap.size w w' := by
  have uv := Try.underlying34
  have hm : len ≤ 9223372036854775807 := by have h1 := h.2.1; have h2 := h.2.2.1; unfold maxLen at h2; omega
  have hzl := h.1
  have H := Lib.hid h
  have HZ := Lib.hid hzl
  clear h hzl
  by_cases hl : len ≤ 256
  · have HL := Lib.hid hl
    go_enter Try.func176, Try.ntmps176
    go_wp2
    have r0 : V3 ((w.alloc (.cells #[.float .f32 0, .float .f32 0, .float .f32 0] 34)).alloc (.cells #[.float .f32 0, .float .f32 0, .float .f32 0] 34)) w.heap.size 0 0 0 := V3.new.alloc
    have t0 : V3 ((w.alloc (.cells #[.float .f32 0, .float .f32 0, .float .f32 0] 34)).alloc (.cells #[.float .f32 0, .float .f32 0, .float .f32 0] 34)) (w.heap.size + 1) 0 0 0 := by have := V3.new (w := w.alloc (.cells #[.float .f32 0, .float .f32 0, .float .f32 0] 34)) (x := 0) (y := 0) (z := 0) (t := 34); simpa using this
    have b0 : Below w.heap.size w ((w.alloc (.cells #[.float .f32 0, .float .f32 0, .float .f32 0] 34)).alloc (.cells #[.float .f32 0, .float .f32 0, .float .f32 0] 34)) := ((Below.refl _ _).alloc (Nat.le_refl _) _).alloc (by simp) _
    generalize ((w.alloc (.cells #[.float .f32 0, .float .f32 0, .float .f32 0] 34)).alloc (.cells #[.float .f32 0, .float .f32 0, .float .f32 0] 34)) = w0 at *
    have R0 := Lib.hid r0
    have T0 := Lib.hid t0
    have B0 := Lib.hid b0
    clear r0 t0 b0
    go_loopw [13] (fun i w' => ∃ k : Nat, k ≤ len ∧ i = .int .i64 k ∧ Aside (Below w.heap.size w w' ∧ V3 w' w.heap.size 0 0 0 ∧ ∃ x y z, V3 w' (w.heap.size + 1) x y z ∧ FV3 x y z (totC (cs.take k)))) (fun i _ => len - (intOf i).toNat)
    case atStart => exact ⟨0, Nat.zero_le _, rfl, B0.out, R0.out, 0, 0, 0, T0.out, FV3_zero⟩
    case round =>
      obtain ⟨k, hk, rfl, hA⟩ := hrel
      obtain ⟨hB, hR, x, y, z, hT, hF⟩ := hA.out
      clear hA
      by_cases hlt : k < len
      · obtain ⟨b, o, rfl, hcell⟩ := (H.out.below hB).some (by omega)
        obtain ⟨p, q, r, k0, k1, k2, f0, f1, f2⟩ := hcell k hlt
        have hsn := Lib.hid (totC_snoc cs k (by rw [HZ.out]; exact hlt))
        have hlt1 : w.heap.size + 1 < wr.heap.size := hT.lt
        obtain ⟨⟨t0, t1, t2⟩, tf⟩ := hT
        have tf0 := tf 0
        have tf1 := tf 1
        have tf2 := tf 2
        have hk0 : (0 : Int) ≤ (k : Int) := by omega
        have hk1 : (k : Int) < (len : Int) := by omega
        have HB := Lib.hid hB
        have HR := Lib.hid hR
        have HF := Lib.hid hF
        have HT : RowKit.Hid (V3 wr (w.heap.size + 1) x y z) := Lib.hid ⟨⟨t0, t1, t2⟩, tf⟩
        clear hcell hB hR hF tf
        go_wp2_with fail
        refine (impl_AddVectors _ _ _ _ _ _ _ _ _ _ _ _ _ HF.out.1 HF.out.2.1 HF.out.2.2 f0 f1 f2).mono ?_
        rintro e w1 ⟨ax, ay, az, rfl, fx, fy, fz, hB1⟩
        have HT1 := HT.out.alloc.below hB1
        have HR1 := HR.out.alloc.below hB1
        have hB2 := (below_new HB.out (Nat.le_refl _)).trans (hB1.mono (below_new HB.out (Nat.le_refl _)).size)
        have hsn' := hsn.out
        have HP := Lib.hid (And.intro (HT1.put (p := ax) (q := ay) (r := az)) (HR1.far (n := w.heap.size + 1) (u := .float .f32 ax) (v := .float .f32 ay) (t := .float .f32 az) (by omega)))
        have HB2 := Lib.hid (below_set3 (o1 := 0) (o2 := 1) (o3 := 2) (u := .float .f32 ax) (v := .float .f32 ay) (t := .float .f32 az) hB2 (Nat.le_succ _))
        have HFF : RowKit.Hid (FV3 ax ay az (totC (cs.take (k + 1)))) := Lib.hid (by rw [hsn']; exact ⟨fx, fy, fz⟩)
        have hlt2 : w.heap.size + 1 < w1.heap.size := HT1.lt
        obtain ⟨⟨u0, u1, u2⟩, uf⟩ := HT1
        have uf0 := uf 0
        have uf1 := uf 1
        have uf2 := uf 2
        clear hB1 hB2 HR1 uf hsn' t0 t1 t2 tf0 tf1 tf2
        go_wp2
        go_roundw
        case rel => exact ⟨k + 1, by omega, by go_num, HB2.out, HP.out.2, ax, ay, az, HP.out.1, HFF.out⟩
        case measure => simp [intOf]; omega
      · obtain rfl : k = len := by omega
        have hF' : FV3 x y z (totB k cs) := by unfold totB; rw [if_pos HL.out]; rwa [List.take_of_length_le (by rw [HZ.out]; omega)] at hF
        have hlt1 : w.heap.size + 1 < wr.heap.size := hT.lt
        have HP := Lib.hid (hR.put (p := x) (q := y) (r := z))
        obtain ⟨⟨t0, t1, t2⟩, tf⟩ := hT
        obtain ⟨⟨r0, r1, r2⟩, rf⟩ := hR
        have rf0 := rf 0
        have rf1 := rf 1
        have rf2 := rf 2
        have HB := Lib.hid hB
        have HF := Lib.hid hF'
        clear hB hF hF' tf rf
        go_wp2
        obtain ⟨⟨e0, e1, e2⟩, -⟩ := HP.out
        refine bodyPost_ret (v := .tuple #[vv x y z, .bool true]) (by simp [results, Try.results176, go_sem, e0, e1, e2]) rfl ⟨x, y, z, by rw [decide_eq_true HL.out], HF.out, below_set3 HB.out (Nat.le_refl _)⟩
  · have HL := Lib.hid hl
    go_enter Try.func176, Try.ntmps176
    go_wp2
    refine bodyPost_ret (v := .tuple #[vv 0 0 0, .bool false]) (by simp [results, Try.results176, go_sem]) rfl ⟨0, 0, 0, by rw [decide_eq_false HL.out], by unfold totB; rw [if_neg HL.out]; exact FV3_zero, ?_⟩
    exact (Below.refl _ _).alloc (Nat.le_refl _) _
end Go.Proofs.Ytmbekamnogbgaaa


/-
Blocks of memory whose cells are known. Conditions: none.
-/
namespace Go.Proofs.Ytmbekamnogbgaaa
open Go Fk Go.RowKit
set_option linter.unusedVariables false

/-- A block whose cells hold these values. -/
def At (w : World) (b : Nat) (vs : List Value) : Prop := ∀ i v, vs[i]? = some v → w.cell? ⟨b, i, none⟩ = some v
theorem At.below {W w : World} {b : Nat} {vs : List Value} (hb : Below W.heap.size W w) (h : At W b vs) : At w b vs := fun i v hv => cell_below hb (h i v hv)
theorem At.alloc {w : World} {b : Nat} {vs : List Value} {o : Obj} (h : At w b vs) : At (w.alloc o) b vs := fun i v hv => cell_alloc (h i v hv)
theorem At.drew {w : World} {b n : Nat} {vs : List Value} (h : At w b vs) : At (w.drewN n) b vs := h
theorem At.new {w : World} {vs : List Value} {t : TypeId} : At (w.alloc (.cells vs.toArray t)) w.heap.size vs := by
  intro i v hv
  simp [hv]
theorem At.far {w : World} {b : Nat} {vs : List Value} {a : Addr} {u : Value} (hne : a.block ≠ b) (h : At w b vs) : At (w.setCell a u) b vs := fun i v hv => cell_set hne (h i v hv)
theorem At.set {w : World} {b : Nat} {vs : List Value} (h : At w b vs) (i : Nat) (u : Value) : At (w.setCell ⟨b, i, none⟩ u) b (vs.set i u) := by
  intro j v hv
  rw [List.getElem?_set] at hv
  by_cases hij : i = j
  · subst hij
    rw [if_pos rfl] at hv
    split at hv
    · rename_i hlt
      cases hv
      exact World.cell?_setCell_same _ _ _ (h i vs[i] (List.getElem?_eq_getElem hlt))
    · cases hv
  · rw [if_neg hij] at hv
    rw [World.cell?_setCell_other _ _ _ _ (by simp <;> omega)]
    exact h j v hv
theorem At.lt {w : World} {b : Nat} {v : Value} {vs : List Value} (h : At w b (v :: vs)) : b < w.heap.size := World.block_lt_of_cell? w _ (h 0 v rfl)
/-- A block that may be written. -/
def Fr (w : World) (b : Nat) : Prop := ∀ i, w.frozen? ⟨b, i, none⟩ = false
theorem Fr.below {W w : World} {b : Nat} (hb : Below W.heap.size W w) (hlt : b < W.heap.size) (h : Fr W b) : Fr w b := fun i => frozen_below hb hlt (h i)
theorem Fr.setC {w : World} {b : Nat} {a : Addr} {u : Value} (h : Fr w b) : Fr (w.setCell a u) b := fun i => by simp; exact h i
theorem Fr.new {w : World} {vs : Array Value} {t : TypeId} : Fr (w.alloc (.cells vs t)) w.heap.size := fun i => by simp
theorem Fr.alloc {w : World} {b : Nat} {o : Obj} (hlt : b < w.heap.size) (h : Fr w b) : Fr (w.alloc o) b := h.below ((Below.refl _ _).alloc (Nat.le_refl _) _) hlt

end Go.Proofs.Ytmbekamnogbgaaa


/-
Copies of bodies, and that they are the same: what the law's own functions return. Conditions: at most 2^20 of each.
-/
namespace Go.Proofs.Ytmbekamnogbgaaa
open Go Fk Go.RowKit
set_option linter.unusedVariables false
set_option maxRecDepth 8000

/-- Where a body's parts lie, and its numbers. -/
structure Bd where
  (pa ta sa wa : Option Addr)
  (pl pc tl tc sl sc wl wc film bend x y z : Nat)
/-- The body's value. -/
abbrev Bd.v (B : Bd) : Value := .agg #[.slice B.pa B.pl B.pc, .slice B.ta B.tl B.tc, .slice B.sa B.sl B.sc, .float .f32 B.film, .float .f32 B.bend, .slice B.wa B.wl B.wc, .float .f32 B.x, .float .f32 B.y, .float .f32 B.z]
/-- The body's cells. -/
abbrev Bd.l (B : Bd) : List Value := [.slice B.pa B.pl B.pc, .slice B.ta B.tl B.tc, .slice B.sa B.sl B.sc, .float .f32 B.film, .float .f32 B.bend, .slice B.wa B.wl B.wc, .float .f32 B.x, .float .f32 B.y, .float .f32 B.z]
/-- What a body is. -/
structure Bc where
  (cs : List C3) (ts : List (List Int)) (ss : List SC) (zs : List Nat) (film bend : Option Nat) (fall : C3)
def IsB (w : World) (B : Bd) (c : Bc) : Prop :=
  IsVs w B.pa B.pl B.pc c.cs ∧ IsTs w B.ta B.tl B.tc c.ts ∧ IsSs w B.sa B.sl B.sc c.ss ∧ IsFs .f32 w B.wa B.wl B.wc c.zs ∧ FV .f32 B.film c.film ∧ FV .f32 B.bend c.bend ∧ FV3 B.x B.y B.z c.fall
theorem IsB.below {W w : World} {B : Bd} {c : Bc} (hb : Below W.heap.size W w) (h : IsB W B c) : IsB w B c :=
  ⟨h.1.below hb, h.2.1.below hb, h.2.2.1.below hb, IsFs_below hb h.2.2.2.1, h.2.2.2.2⟩
def SmallB (c : Bc) : Prop := Small c.cs c.ts ∧ c.ss.length ≤ 1048576 ∧ c.zs.length ≤ 1048576

theorem laws_szBody' (B : Bd) (c : Bc) (left : Int) (w : World) (h : IsB w B c) (h0 : 0 ≤ left) (h1 : left ≤ 1048576) :
    Calls Try.prog 24 #[B.v, .int .i64 left] w fun e w' => (∃ r : Int, e = .returned (.int .i64 r) ∧ (r = -1 ∨ (0 ≤ r ∧ r ≤ 1048576 ∧ SmallB c))) ∧ Below w.heap.size w w' := by
  have ul := Try.underlying48
  have um := Try.underlying25
  have hA0 : At (w.alloc (.cells #[.slice B.pa B.pl B.pc, .slice B.ta B.tl B.tc, .slice B.sa B.sl B.sc, .float .f32 B.film, .float .f32 B.bend, .slice B.wa B.wl B.wc, .float .f32 B.x, .float .f32 B.y, .float .f32 B.z] 48)) w.heap.size B.l := At.new
  have hB0 := (Below.refl w.heap.size w).alloc (Nat.le_refl _) (.cells #[.slice B.pa B.pl B.pc, .slice B.ta B.tl B.tc, .slice B.sa B.sl B.sc, .float .f32 B.film, .float .f32 B.bend, .slice B.wa B.wl B.wc, .float .f32 B.x, .float .f32 B.y, .float .f32 B.z] 48)
  have H0 := Lib.hid (h.below hB0)
  have hsm : B.sl ≤ 9223372036854775807 := by have h1 := h.2.2.1.2.1; have h2 := h.2.2.1.2.2.1; unfold maxLen at h2; omega
  have hwm : B.wl ≤ 9223372036854775807 := by have h1 := h.2.2.2.1.2.1; have h2 := h.2.2.2.1.2.2.1; unfold maxLen at h2; omega
  have L := Lib.hid (And.intro h.1.1 (And.intro h.2.1.1 (And.intro h.2.2.1.1 h.2.2.2.1.1)))
  have HA0 := Lib.hid hA0
  have HB0 := Lib.hid hB0
  clear hA0 hB0 h
  go_enter Try.func24, Try.ntmps24
  go_wp2_with fail
  generalize (w.alloc (.cells #[.slice B.pa B.pl B.pc, .slice B.ta B.tl B.tc, .slice B.sa B.sl B.sc, .float .f32 B.film, .float .f32 B.bend, .slice B.wa B.wl B.wc, .float .f32 B.x, .float .f32 B.y, .float .f32 B.z] 48)) = W at *
  refine (laws_szMesh' _ _ _ _ _ _ _ _ _ _ H0.out.1 H0.out.2.1 h0 h1).mono ?_
  rintro e w1 ⟨⟨r, rfl, hr⟩, hB1⟩
  have hA1 := HA0.out.below hB1
  have k2 := hA1 2 _ rfl
  have k5 := hA1 5 _ rfl
  have HB1 := Lib.hid (HB0.out.trans (hB1.mono HB0.out.size))
  clear hA1 hB1
  rcases hr with rfl | ⟨r0, r1, s1, s2, s3⟩
  · go_wp2
    go_ret
    exact ⟨⟨-1, rfl, .inl rfl⟩, HB1.out⟩
  · have HS3 := Lib.hid s3
    clear s3
    go_wp2_with (go_at_call 80; refine (laws_szSpringS _ _ _ _ _ r0 r1 hsm).mono ?_; rintro e w2 ⟨⟨q, rfl, hq⟩, hw2⟩; rw [hw2]; clear hw2 w2; rcases hq with rfl | ⟨q0, q1, q2⟩)
    · go_ret
      exact ⟨⟨-1, rfl, .inl rfl⟩, HB1.out⟩
    · go_wp2_with (go_at_call 81; refine (laws_szFloat32S _ _ _ _ _ q0 q1 hwm).mono ?_; rintro e w2 ⟨⟨p, rfl, hp⟩, hw2⟩; rw [hw2]; clear hw2 w2; rcases hp with rfl | ⟨p0, p1, p2⟩)
      · go_ret
        exact ⟨⟨-1, rfl, .inl rfl⟩, HB1.out⟩
      · go_wp2
        go_ret
        exact ⟨⟨p, rfl, .inr ⟨p0, p1, ⟨by rw [L.out.1]; exact s1, by rw [L.out.2.1]; exact s2, by rw [L.out.2.1]; exact HS3.out⟩, by rw [L.out.2.2.1]; exact q2, by rw [L.out.2.2.2]; exact p2⟩⟩, HB1.out⟩
theorem laws_szBody (B : Bd) (c : Bc) (left : Int) (w : World) (h : IsB w B c) (h0 : 0 ≤ left) (h1 : left ≤ 1048576) :
    Calls Try.prog 24 #[B.v, .int .i64 left] w fun e w' => (∃ r : Int, e = .returned (.int .i64 r) ∧ (r = -1 ∨ (0 ≤ r ∧ SmallB c))) ∧ Below w.heap.size w w' :=
  (laws_szBody' B c left w h h0 h1).mono fun _ _ ⟨⟨r, he, hr⟩, hb⟩ => ⟨⟨r, he, hr.imp id fun h => ⟨h.1, h.2.2⟩⟩, hb⟩
theorem eqMesh' (pa ta pa' ta' : Option Addr) (pl pl' pc tl tl' tc pc' tc' : Nat) (cs : List C3) (ts : List (List Int)) (w : World) (hp : IsVs w pa pl pc cs) (ht : IsTs w ta tl tc ts) (hp' : IsVs w pa' pl' pc' cs) (ht' : IsTs w ta' tl' tc' ts) :
    Calls Try.prog 20 #[.agg #[.slice pa pl pc, .slice ta tl tc], .agg #[.slice pa' pl' pc', .slice ta' tl' tc']] w fun e w' => e = .returned (.bool true) ∧ Below w.heap.size w w' := by
  obtain rfl := hp'.1.symm.trans hp.1
  obtain rfl := ht'.1.symm.trans ht.1
  exact laws_eqMesh _ _ _ _ _ _ _ _ _ _ cs ts w hp ht hp' ht'
theorem eqSpringS' (a b : Option Addr) (len len' cap cap' : Nat) (ss : List SC) (w : World) (ha : IsSs w a len cap ss) (hb : IsSs w b len' cap' ss) :
    Calls Try.prog 76 #[.slice a len cap, .slice b len' cap'] w fun e w' => e = .returned (.bool true) ∧ Below w.heap.size w w' := by
  obtain rfl := hb.1.symm.trans ha.1
  exact laws_eqSpringS _ _ _ _ _ ss w ha hb
theorem eqFloat32S' (a b : Option Addr) (len len' cap cap' : Nat) (zs : List Nat) (w : World) (ha : IsFs .f32 w a len cap zs) (hb : IsFs .f32 w b len' cap' zs) (hl : zs.length ≤ 1048576) :
    Calls Try.prog 67 #[.slice a len cap, .slice b len' cap'] w fun e w' => e = .returned (.bool true) ∧ ∃ n, w' = w.drewN n := by
  obtain rfl := hb.1.symm.trans ha.1
  exact laws_eqFloat32S _ _ _ _ _ zs w ha hb (by rw [← hb.1]; exact hl)
set_option maxHeartbeats 1000000 in
theorem laws_eqBody (B B' : Bd) (c : Bc) (w : World) (h : IsB w B c) (h' : IsB w B' c) (hs : SmallB c) :
    Calls Try.prog 19 #[B.v, B'.v] w fun e w' => e = .returned (.bool true) ∧ Below w.heap.size w w' := by
  have ui := Try.underlying36
  have um := Try.underlying29
  have uv := Try.underlying34
  have u := Try.underlying31
  have u' := Try.underlying80
  have a0 : At ((w.alloc (.cells #[.slice B.pa B.pl B.pc, .slice B.ta B.tl B.tc, .slice B.sa B.sl B.sc, .float .f32 B.film, .float .f32 B.bend, .slice B.wa B.wl B.wc, .float .f32 B.x, .float .f32 B.y, .float .f32 B.z] 36)).alloc (.cells #[.slice B'.pa B'.pl B'.pc, .slice B'.ta B'.tl B'.tc, .slice B'.sa B'.sl B'.sc, .float .f32 B'.film, .float .f32 B'.bend, .slice B'.wa B'.wl B'.wc, .float .f32 B'.x, .float .f32 B'.y, .float .f32 B'.z] 36)) w.heap.size B.l := At.new.alloc
  have a1 : At ((w.alloc (.cells #[.slice B.pa B.pl B.pc, .slice B.ta B.tl B.tc, .slice B.sa B.sl B.sc, .float .f32 B.film, .float .f32 B.bend, .slice B.wa B.wl B.wc, .float .f32 B.x, .float .f32 B.y, .float .f32 B.z] 36)).alloc (.cells #[.slice B'.pa B'.pl B'.pc, .slice B'.ta B'.tl B'.tc, .slice B'.sa B'.sl B'.sc, .float .f32 B'.film, .float .f32 B'.bend, .slice B'.wa B'.wl B'.wc, .float .f32 B'.x, .float .f32 B'.y, .float .f32 B'.z] 36)) (w.heap.size + 1) B'.l := by
    have := At.new (w := w.alloc (.cells #[.slice B.pa B.pl B.pc, .slice B.ta B.tl B.tc, .slice B.sa B.sl B.sc, .float .f32 B.film, .float .f32 B.bend, .slice B.wa B.wl B.wc, .float .f32 B.x, .float .f32 B.y, .float .f32 B.z] 36)) (vs := B'.l) (t := 36)
    simpa using this
  have b0 := ((Below.refl w.heap.size w).alloc (Nat.le_refl _) (.cells #[.slice B.pa B.pl B.pc, .slice B.ta B.tl B.tc, .slice B.sa B.sl B.sc, .float .f32 B.film, .float .f32 B.bend, .slice B.wa B.wl B.wc, .float .f32 B.x, .float .f32 B.y, .float .f32 B.z] 36)).alloc (by simp) (.cells #[.slice B'.pa B'.pl B'.pc, .slice B'.ta B'.tl B'.tc, .slice B'.sa B'.sl B'.sc, .float .f32 B'.film, .float .f32 B'.bend, .slice B'.wa B'.wl B'.wc, .float .f32 B'.x, .float .f32 B'.y, .float .f32 B'.z] 36)
  have H := Lib.hid (h.below b0)
  have H' := Lib.hid (h'.below b0)
  have HS := Lib.hid hs
  have A0 := Lib.hid a0
  have A1 := Lib.hid a1
  have B0 := Lib.hid b0
  clear h h' hs a0 a1 b0
  go_enter Try.func19, Try.ntmps19
  go_wp2_with fail
  generalize ((w.alloc (.cells #[.slice B.pa B.pl B.pc, .slice B.ta B.tl B.tc, .slice B.sa B.sl B.sc, .float .f32 B.film, .float .f32 B.bend, .slice B.wa B.wl B.wc, .float .f32 B.x, .float .f32 B.y, .float .f32 B.z] 36)).alloc (.cells #[.slice B'.pa B'.pl B'.pc, .slice B'.ta B'.tl B'.tc, .slice B'.sa B'.sl B'.sc, .float .f32 B'.film, .float .f32 B'.bend, .slice B'.wa B'.wl B'.wc, .float .f32 B'.x, .float .f32 B'.y, .float .f32 B'.z] 36)) = W at *
  refine (eqMesh' _ _ _ _ _ _ _ _ _ _ _ _ c.cs c.ts _ H.out.1 H.out.2.1 H'.out.1 H'.out.2.1).mono ?_
  rintro e w1 ⟨rfl, hB1⟩
  have k2 := A0.out.below hB1 2 _ rfl
  have j2 := A1.out.below hB1 2 _ rfl
  have A2 := Lib.hid (A0.out.below hB1)
  have A3 := Lib.hid (A1.out.below hB1)
  have H1 := Lib.hid (H.out.below hB1)
  have H1' := Lib.hid (H'.out.below hB1)
  have B1 := Lib.hid (B0.out.trans (hB1.mono B0.out.size))
  clear hB1
  go_wp2_with fail
  refine (eqSpringS' _ _ _ _ _ _ c.ss _ H1.out.2.2.1 H1'.out.2.2.1).mono ?_
  rintro e w2 ⟨rfl, hB2⟩
  clear k2 j2
  have k3 := A2.out.below hB2 3 _ rfl
  have j3 := A3.out.below hB2 3 _ rfl
  have k4 := A2.out.below hB2 4 _ rfl
  have j4 := A3.out.below hB2 4 _ rfl
  have k5 := A2.out.below hB2 5 _ rfl
  have j5 := A3.out.below hB2 5 _ rfl
  have k6 := A2.out.below hB2 6 _ rfl
  have j6 := A3.out.below hB2 6 _ rfl
  have k7 := A2.out.below hB2 7 _ rfl
  have j7 := A3.out.below hB2 7 _ rfl
  have k8 := A2.out.below hB2 8 _ rfl
  have j8 := A3.out.below hB2 8 _ rfl
  have H2 := Lib.hid (H1.out.below hB2)
  have H2' := Lib.hid (H1'.out.below hB2)
  have B2 := Lib.hid (B1.out.trans (hB2.mono B1.out.size))
  clear hB2
  go_wp2_with fail
  refine (laws_sameFloat _ _ _ _ (FV_wR H2.out.2.2.2.2.1) (FV_wR H2'.out.2.2.2.2.1)).mono ?_
  rintro en w3 ⟨rfl, n1, hw3⟩
  have B3 : RowKit.Hid (Below w.heap.size w w3) := Lib.hid (by rw [hw3]; exact below_drewN (below_drewN B2.out _) _)
  have cc : ∀ a v, w2.cell? a = some v → w3.cell? a = some v := by rw [hw3]; exact fun a v h => h
  replace k4 := cc _ _ k4
  replace j4 := cc _ _ j4
  replace k5 := cc _ _ k5
  replace j5 := cc _ _ j5
  replace k6 := cc _ _ k6
  replace j6 := cc _ _ j6
  replace k7 := cc _ _ k7
  replace j7 := cc _ _ j7
  replace k8 := cc _ _ k8
  replace j8 := cc _ _ j8
  have W3 : RowKit.Hid (IsFs .f32 w3 B.wa B.wl B.wc c.zs ∧ IsFs .f32 w3 B'.wa B'.wl B'.wc c.zs) := Lib.hid (by rw [hw3]; exact ⟨H2.out.2.2.2.1, H2'.out.2.2.2.1⟩)
  clear cc hw3 k3 j3
  go_wp2_with fail
  refine (laws_sameFloat _ _ _ _ (FV_wR H2.out.2.2.2.2.2.1) (FV_wR H2'.out.2.2.2.2.2.1)).mono ?_
  rintro en w4 ⟨rfl, n2, hw4⟩
  have B4 : RowKit.Hid (Below w.heap.size w w4) := Lib.hid (by rw [hw4]; exact below_drewN (below_drewN B3.out _) _)
  have cc : ∀ a v, w3.cell? a = some v → w4.cell? a = some v := by rw [hw4]; exact fun a v h => h
  replace k5 := cc _ _ k5
  replace j5 := cc _ _ j5
  replace k6 := cc _ _ k6
  replace j6 := cc _ _ j6
  replace k7 := cc _ _ k7
  replace j7 := cc _ _ j7
  replace k8 := cc _ _ k8
  replace j8 := cc _ _ j8
  have W4 : RowKit.Hid (IsFs .f32 w4 B.wa B.wl B.wc c.zs ∧ IsFs .f32 w4 B'.wa B'.wl B'.wc c.zs) := Lib.hid (by rw [hw4]; exact W3.out)
  clear cc hw4 k4 j4
  go_wp2_with fail
  refine (eqFloat32S' _ _ _ _ _ _ c.zs _ W4.out.1 W4.out.2 HS.out.2.2).mono ?_
  rintro en w5 ⟨rfl, n3, hw5⟩
  have B5 : RowKit.Hid (Below w.heap.size w w5) := Lib.hid (by rw [hw5]; exact below_drewN B4.out _)
  have cc : ∀ a v, w4.cell? a = some v → w5.cell? a = some v := by rw [hw5]; exact fun a v h => h
  replace k6 := cc _ _ k6
  replace j6 := cc _ _ j6
  replace k7 := cc _ _ k7
  replace j7 := cc _ _ j7
  replace k8 := cc _ _ k8
  replace j8 := cc _ _ j8
  clear cc hw5 k5 j5
  go_wp2_with fail
  refine (laws_eqVector _ _ _ _ _ _ _ _ _ _ H2.out.2.2.2.2.2.2.1 H2.out.2.2.2.2.2.2.2.1 H2.out.2.2.2.2.2.2.2.2 H2'.out.2.2.2.2.2.2.1 H2'.out.2.2.2.2.2.2.2.1 H2'.out.2.2.2.2.2.2.2.2).mono ?_
  rintro en w6 ⟨rfl, hB6⟩
  have B6 := Lib.hid (B5.out.trans (hB6.mono B5.out.size))
  clear hB6
  go_wp2
  go_ret
  exact ⟨rfl, B6.out⟩
end Go.Proofs.Ytmbekamnogbgaaa

/-
Texts in one: what StiffTimes stands on, part 6. Conditions: those of each.
-/
import Derived.Test.YtabccmobmppdnaaGreatKStiffTimes5
-- halved
namespace Go.Proofs.YtabccmobmppdnaaGreat
open Go Fk Go.RowKit
set_option linter.unusedVariables false
set_option maxRecDepth 8000
def longC (c : C3) : Option Nat := rootC (fop .add .f32 (fop .add .f32 (fop .mul .f32 c.1 c.1) (fop .mul .f32 c.2.1 c.2.1)) (fop .mul .f32 c.2.2 c.2.2))
theorem FV_00 : FV .f32 0 (some 0) := ⟨by decide, by decide⟩
end Go.Proofs.YtabccmobmppdnaaGreat
namespace Go.Proofs.YtabccmobmppdnaaGreat
open Go Fk Go.RowKit
set_option linter.unusedVariables false
set_option maxRecDepth 8000
def geB (c : Option Nat) : Bool := ford .f32 c (some 0) == some .gt || ford .f32 c (some 0) == some .eq
def springB (n : Nat) (s : SC) : Bool := inB n s.1 && inB n s.2.1 && decide (s.1 ≠ s.2.1) && geB s.2.2.1
def bodyB (c : Bc) : Bool := validB c.cs c.ts && decide (c.ss.length ≤ 200) && decide (c.zs.length = c.cs.length) && c.ss.all (springB c.cs.length)
theorem geB_order {p : Nat} {c : Option Nat} (h : FV .f32 p c) : (FloatKind.f32.format.order p 0 == some .gt || FloatKind.f32.format.order p 0 == some .eq) = geB c := by
 rw [ford_of h FV_00]; rfl
theorem impl_isBetween (a b : Int) (x y n : Nat) (c d : Option Nat) (w : World) (hx : FV .f32 x c) :
  Calls Tryz.prog 151 #[sv a b x y, .int .i64 n] w fun e w' => e = .returned (.bool (springB n (a, b, c, d))) ∧ Below w.heap.size w w' := by
 have us := Tryz.underlying166
 have u := Tryz.underlying27
 have ui := Tryz.underlying2
 have hg := geB_order hx
 show Calls _ _ _ w fun e w' => e = .returned (.bool (inB n a && inB n b && decide (a ≠ b) && geB c)) ∧ Below w.heap.size w w'
 have J0 := Lib.hid (fun w => impl_isIndex a n w)
 have J1 := Lib.hid (fun w => impl_isIndex b n w)
 generalize geB c = g at *
 generalize inB n a = i0 at *
 generalize inB n b = i1 at *
 have B0 := Lib.hid ((Below.refl w.heap.size w).alloc (Nat.le_refl _) (.cells #[.int .i64 a, .int .i64 b, .float .f32 x, .float .f32 y] 166))
 clear hx
 cases i0
 ·go_enter Tryz.func151, Tryz.ntmps151
  go_wp2_with fail
  refine (J0.out _).mono ?_
  rintro e w1 ⟨rfl, hw1⟩
  rw [hw1]; clear hw1 w1
  go_wp2
  go_ret
  exact ⟨rfl, B0.out⟩
 ·cases i1
  ·go_enter Tryz.func151, Tryz.ntmps151
   go_wp2_with fail
   refine (J0.out _).mono ?_
   rintro e w1 ⟨rfl, hw1⟩
   rw [hw1]; clear hw1 w1
   go_wp2_with fail
   refine (J1.out _).mono ?_
   rintro e w1 ⟨rfl, hw1⟩
   rw [hw1]; clear hw1 w1
   go_wp2
   go_ret
   exact ⟨rfl, B0.out⟩
  ·by_cases hab : a = b
   ·have hd : decide (a ≠ b) = false := decide_eq_false (fun h => h hab)
    rw [hd]
    clear hd
    subst hab
    go_enter Tryz.func151, Tryz.ntmps151
    go_wp2_with fail
    refine (J0.out _).mono ?_
    rintro e w1 ⟨rfl, hw1⟩
    rw [hw1]; clear hw1 w1
    go_wp2_with fail
    refine (J1.out _).mono ?_
    rintro e w1 ⟨rfl, hw1⟩
    rw [hw1]; clear hw1 w1
    go_wp2
    go_ret
    exact ⟨rfl, B0.out⟩
   ·have hd : decide (a ≠ b) = true := decide_eq_true hab
    have hq : (a == b) = false := beq_eq_false_iff_ne.2 hab
    rw [hd]
    clear hd
    cases g
    all_goals
     go_enter Tryz.func151, Tryz.ntmps151
     go_wp2_with fail
     refine (J0.out _).mono ?_
     rintro e w1 ⟨rfl, hw1⟩
     rw [hw1]; clear hw1 w1
     go_wp2_with fail
     refine (J1.out _).mono ?_
     rintro e w1 ⟨rfl, hw1⟩
     rw [hw1]; clear hw1 w1
     go_wp2
     go_ret
     exact ⟨ret_bool (by simp [hg, hab]), B0.out⟩
set_option maxHeartbeats 8000000 in
theorem l03Spring (b o : Nat) (u v : Int) (p n : Nat) (c d : Option Nat) (w : World) (c0 : w.cell? ⟨b, o, none⟩ = some (.int .i64 u)) (c1 : w.cell? ⟨b, o + 1, none⟩ = some (.int .i64 v)) (c2 : w.cell? ⟨b, o + 2, none⟩ = some (.float .f32 p)) (hp : FV .f32 p c) (hn : (n : Int) ≤ 9223372036854775807) :
  Calls Tryz.prog 149 #[.pointer (some ⟨b, o, none⟩), .int .i64 n] w fun e w' => e = .returned (.bool (springB n (u, v, c, d))) ∧ ∃ m, w' = w.drewN m := by
 have us := Tryz.underlying166
 have uf := Tryz.underlying27
 have ui := Tryz.underlying2
 have hg := geB_order hp
 have e1 : IntKind.i64.wrap ((n : Int) - 1) = (n : Int) - 1 := IntWalk.i64_in _ (by omega)
 show Calls _ _ _ w fun e w' => e = .returned (.bool (inB n u && inB n v && decide (u ≠ v) && geB c)) ∧ ∃ m, w' = w.drewN m
 have J0 := Lib.hid (fun w => (l00In u n w).mono (R' := fun e w' => e = .returned (.bool (inB n u)) ∧ ∃ m, w' = w.drewN m) (fun _ _ h => ⟨h.1, 0, h.2⟩))
 have J1 := Lib.hid (fun w => (l00In v n w).mono (R' := fun e w' => e = .returned (.bool (inB n v)) ∧ ∃ m, w' = w.drewN m) (fun _ _ h => ⟨h.1, 0, h.2⟩))
 generalize geB c = g at *
 generalize inB n u = i0 at *
 generalize inB n v = i1 at *
 clear hp hn
 by_cases huv : u = v
 ·have hd : decide (u ≠ v) = false := decide_eq_false (fun h => h huv)
  rw [hd]
  clear hd
  subst huv
  cases i0 <;> cases i1
  all_goals
   go_enter Tryz.func149, Tryz.ntmps149
   go_wp2_with fail
   go_quiet ((go_at_call 80; first | with_reducible exact Calls.quiet_of (J0.out _) | with_reducible exact Calls.quiet_of (J1.out _)))
   go_wp2
   go_ret
   exact ⟨ret_bool (by simp), _, rfl⟩
 ·have hd : decide (u ≠ v) = true := decide_eq_true huv
  have hq : (u == v) = false := beq_eq_false_iff_ne.2 huv
  rw [hd]
  clear hd
  cases i0 <;> cases i1 <;> cases g
  all_goals
   go_enter Tryz.func149, Tryz.ntmps149
   go_wp2_with fail
   go_quiet ((go_at_call 80; first | with_reducible exact Calls.quiet_of (J0.out _) | with_reducible exact Calls.quiet_of (J1.out _)))
   go_wp2
   go_ret
   exact ⟨ret_bool (by simp [hg, huv]), _, rfl⟩
end Go.Proofs.YtabccmobmppdnaaGreat
namespace Go.Proofs.YtabccmobmppdnaaGreat
open Go Fk Go.RowKit
set_option linter.unusedVariables false
set_option maxRecDepth 8000
def lessC (a b : C3) : C3 := (fop .sub .f32 a.1 b.1, fop .sub .f32 a.2.1 b.2.1, fop .sub .f32 a.2.2 b.2.2)
def crossC (a b : C3) : C3 := (fop .sub .f32 (fop .mul .f32 a.2.1 b.2.2) (fop .mul .f32 a.2.2 b.2.1), fop .sub .f32 (fop .mul .f32 a.2.2 b.1) (fop .mul .f32 a.1 b.2.2), fop .sub .f32 (fop .mul .f32 a.1 b.2.1) (fop .mul .f32 a.2.1 b.1))
def cornerC (cs : List C3) (t : List Int) (i : Nat) : C3 := cs.getD (t.getD i 0).toNat c0
def normalC (cs : List C3) (t : List Int) : C3 := crossC (lessC (cornerC cs t 1) (cornerC cs t 0)) (lessC (cornerC cs t 2) (cornerC cs t 0))
theorem tri_parts {n : Nat} {t : List Int} (h : triB n t = true) : t.length = 3 ∧ (∀ i, i < 3 → 0 ≤ t.getD i 0 ∧ (t.getD i 0).toNat < n) := by
 unfold triB at h
 simp only [Bool.and_eq_true, decide_eq_true_eq] at h
 obtain ⟨⟨h3, ⟨h0, h1⟩, h2⟩, _⟩ := h
 refine ⟨h3, fun i hi => ?_⟩
 have a0 := of_decide_eq_true h0
 have a1 := of_decide_eq_true h1
 have a2 := of_decide_eq_true h2
 have : i = 0 ∨ i = 1 ∨ i = 2 := by omega
 rcases this with rfl | rfl | rfl <;> omega
theorem corner_cell {w : World} {pa : Option Addr} {pl pc : Nat} {cs : List C3} {t : List Int} (hp : IsVs w pa pl pc cs) (ht : triB pl t = true) : ∃ b o, pa = some ⟨b, o, none⟩ ∧ ∀ i, i < 3 → ∃ p q r, w.cell? ⟨b, o + (t.getD i 0).toNat * 3, none⟩ = some (.float .f32 p) ∧ w.cell? ⟨b, o + (t.getD i 0).toNat * 3 + 1, none⟩ = some (.float .f32 q) ∧ w.cell? ⟨b, o + (t.getD i 0).toNat * 3 + 2, none⟩ = some (.float .f32 r) ∧
  FV .f32 p (cornerC cs t i).1 ∧ FV .f32 q (cornerC cs t i).2.1 ∧ FV .f32 r (cornerC cs t i).2.2 := by
 obtain ⟨h3, hi⟩ := tri_parts ht
 obtain ⟨b, o, e, hc⟩ := hp.some (by have := (hi 0 (by decide)).2; omega)
 exact ⟨b, o, e, fun i hi' => hc _ (hi i hi').2⟩
end Go.Proofs.YtabccmobmppdnaaGreat
namespace Go.Proofs.YtabccmobmppdnaaGreat
namespace Reg2
open Go Reg
set_option linter.unusedVariables false
section
variable {P : Program} {ops : Array Oper} {Q : Exit → Act → World → Prop} {md : Region.Mode}
def tidy (ops : Array Oper) (n : Nat) : Bool :=
 low ops && (ops.all fun o => o.guard.isNone) && (ops.all fun o => (o.dst.map fun d => decide (d < n)).getD true) &&
 ((List.range ops.size).all fun i => (List.range ops.size).all fun j => i == j || slotOf ops i == none || slotOf ops i != slotOf ops j)
def HasT (ops : Array Oper) (T : Nat → World → Prop) (j : Nat) (w : World) : Prop := slotOf ops j = none → j < ops.size → T j w
def Obl (P : Program) (ops : Array Oper) (a0 : Act) (C : World → Prop) (G : World → World → Prop) (R : Nat → Value → World → Prop) (T : Nat → World → Prop) (Q : Exit → Act → World → Prop) (i : Nat) (o : Oper) : Prop :=
 ∀ a w, C w → (∀ t, ((List.range ops.size).all fun j => slotOf ops j != some t || behind ops i j) = true → a.eval (.tmp t) = a0.eval (.tmp t)) →
  (∀ j, behind ops j i = true → Has ops R j a w) →
  o.wp P a w (fun a' w' => ∃ v, a' = a.put o.dst v ∧ (o.dst ≠ none → R i v w') ∧ (o.dst = none → T i w') ∧ C w' ∧ G w w') Q
def OblAll (P : Program) (ops : Array Oper) (a0 : Act) (C : World → Prop) (G : World → World → Prop) (R : Nat → Value → World → Prop) (T : Nat → World → Prop) (Q : Exit → Act → World → Prop) : Nat → List Oper → Prop
 | _, [] => True
 | i, o :: l => Obl P ops a0 C G R T Q i o ∧ OblAll P ops a0 C G R T Q (i + 1) l
theorem OblAll.get {a0 : Act} {C : World → Prop} {G : World → World → Prop} {R : Nat → Value → World → Prop} {T : Nat → World → Prop} :
  ∀ {l : List Oper} {k : Nat}, OblAll P ops a0 C G R T Q k l → ∀ {i : Nat} {o : Oper}, l[i]? = some o → Obl P ops a0 C G R T Q (k + i) o
 | [], _, _, _, _, h => by simp at h
 | _ :: _, _, h, 0, _, ho => by simp at ho; subst ho; exact h.1
 | _ :: l, k, h, i + 1, _, ho => by
  have := OblAll.get h.2 (i := i) (by simpa using ho)
  rwa [Nat.add_assoc, Nat.add_comm 1 i] at this
theorem Obl.mk {a0 : Act} {C : World → Prop} {G : World → World → Prop} {R : Nat → Value → World → Prop} {T : Nat → World → Prop} {i : Nat} {o : Oper}
  (h : ∀ a w, C w → (∀ t, ((List.range ops.size).all fun j => slotOf ops j != some t || behind ops i j) = true → a.eval (.tmp t) = a0.eval (.tmp t)) →
   (∀ j, behind ops j i = true → Has ops R j a w) → ∀ K : Act → World → Prop, (∀ v w', (o.dst ≠ none → R i v w') → (o.dst = none → T i w') → C w' → G w w' → K (a.put o.dst v) w') → o.wp P a w K Q) : Obl P ops a0 C G R T Q i o :=
 fun a w hC he hd => h a w hC he hd _ fun v w' h1 h2 h3 h4 => ⟨v, rfl, h1, h2, h3, h4⟩
theorem wp_region_inv {id : Nat} {a0 : Act} {w0 : World} {C : World → Prop} {G : World → World → Prop} {R : Nat → Value → World → Prop} {T : Nat → World → Prop} (hm : P.follows .mixedOrders = true) (ht : tidy ops a0.tmps.size = true)
  (hG : ∀ j v w w', C w → G w w' → R j v w → R j v w') (hGT : ∀ j w w', C w → G w w' → T j w → T j w') (hC : C { w0 with drawn := w0.drawn + 1 })
  (hO : OblAll P ops a0 C G R T Q 0 ops.toList)
  (hQ : ∀ a w, C w → a.defers = a0.defers → a.tmps.size = a0.tmps.size → (∀ t, (ops.all fun o => o.dst != some t) = true → a.eval (.tmp t) = a0.eval (.tmp t)) → (∀ j, j < ops.size → Has ops R j a w) → (∀ j, HasT ops T j w) → Q .normal a w) :
  (Code.region id ops true).wp P Q a0 w0 := by
 unfold tidy at ht
 simp only [Bool.and_eq_true] at ht
 obtain ⟨⟨⟨hlow, hgd⟩, hbd⟩, hdis⟩ := ht
 have slot_lt : ∀ {j d}, slotOf ops j = some d → j < ops.size := fun {j d} h => by
  unfold slotOf at h
  cases ho : ops[j]? with
  | none => rw [ho] at h; cases h
  | some o => exact (Array.getElem?_eq_some_iff.1 ho).1
 have slot_bd : ∀ {j d}, slotOf ops j = some d → d < a0.tmps.size := fun {j d} h => by
  have hj := slot_lt h
  have := Array.all_eq_true.1 hbd j hj
  unfold slotOf at h
  rw [Array.getElem?_eq_getElem hj] at h
  simp only [Option.bind_some] at h
  rw [h] at this
  simpa using this
 have slot_ne : ∀ {i j d}, slotOf ops i = some d → slotOf ops j = some d → i = j := fun {i j d} h1 h2 => by
  have a1 := slot_lt h1
  have a2 := slot_lt h2
  have := List.all_eq_true.1 (List.all_eq_true.1 hdis i (List.mem_range.2 a1)) j (List.mem_range.2 a2)
  rw [h1, h2] at this
  simpa using this
 let Inv : Array Bool → Act → World → Prop := fun listed a w => C w ∧ a.defers = a0.defers ∧ a.tmps.size = a0.tmps.size ∧
  (∀ t, (∀ j, slotOf ops j = some t → listed.getD j false = false) → a.eval (.tmp t) = a0.eval (.tmp t)) ∧
  (∀ j, listed.getD j false = true → Has ops R j a w) ∧ (∀ i j, listed.getD j false = true → behind ops i j = true → listed.getD i false = true) ∧ (∀ j, listed.getD j false = true → HasT ops T j w)
 refine wp_region_any hm (wpAny_inv (Inv := Inv) hlow ?_ ?_ _ _ _ _ (by simp) (by simp) ⟨hC, rfl, rfl, fun _ _ => rfl, ?_, ?_, ?_⟩)
 ·intro i listed a w hs hi ⟨hCw, hd, hsz, hext, hhas, hcl, hT⟩
  obtain ⟨hun, o, ho, hdeps⟩ := mem_ready.1 hi
  have hilt : i < ops.size := (Array.getElem?_eq_some_iff.1 ho).1
  have hun' : listed.getD i false = false := by
   have : i < listed.size := by omega
   simp [this] at hun ⊢; exact hun
  have hg : o.guard = none := by
   have := Array.all_eq_true.1 hgd i hilt
   rw [Array.getElem?_eq_getElem hilt] at ho
   cases ho
   simpa using this
  have hob := OblAll.get hO (i := i) (o := o) (by simpa using ho)
  rw [Nat.zero_add] at hob
  have hwp := hob a w hCw (fun t htt => hext t fun j hj => by
    have := List.all_eq_true.1 htt j (List.mem_range.2 (slot_lt hj))
    rw [hj] at this
    simp at this
    cases hl : listed.getD j false
    ·rfl
    ·have := hcl i j hl this; rw [hun'] at this; cases this)
   (fun j hj => hhas j (by
    obtain ⟨e, he, h1, h2⟩ := behind_spec hj ho
    rw [← h1]
    exact hdeps e he h2))
  unfold wpOp
  rw [ho]
  simp only [Region.wanted, hg, if_true]
  refine .inl (Oper.wp_mono ?_ hwp)
  rintro a' w' ⟨v, rfl, hR, hTi, hC', hGw⟩
  have hdst : slotOf ops i = o.dst := by unfold slotOf; rw [ho]; rfl
  have keep : ∀ t, o.dst ≠ some t → (a.put o.dst v).eval (.tmp t) = a.eval (.tmp t) := fun t h => Act.eval_put (fun d hd he => h (by rw [hd]; cases he; rfl))
  have lst : ∀ j, (listed.setIfInBounds i true).getD j false = true → j = i ∨ listed.getD j false = true := fun j h => by
   by_cases hji : i = j
   ·exact .inl hji.symm
   ·rw [getD_set_ne false hji] at h; exact .inr h
  refine ⟨hC', ?_, ?_, ?_, ?_, ?_, ?_⟩
  ·rw [← hd]; unfold Act.put; split <;> rfl
  ·rw [← hsz]; unfold Act.put; split <;> simp
  ·intro t htt
   rw [keep t (fun h => by
    have := htt i (by rw [hdst]; exact h)
    have hlt : i < listed.size := by omega
    simp [hlt] at this)]
   refine hext t fun j hj => ?_
   have := htt j hj
   cases hl : listed.getD j false
   ·rfl
   ·rw [getD_set_true hl] at this; cases this
  ·intro j hj d hjd
   rcases lst j hj with rfl | hj'
   ·rw [hdst] at hjd
    have hb := slot_bd (j := j) (by rw [hdst]; exact hjd)
    have : (a.put o.dst v).eval (.tmp d) = v := by
     unfold Act.put Act.eval; rw [hjd]; simp; exact fun h => absurd (Nat.lt_of_lt_of_le hb (hsz ▸ h)) (Nat.lt_irrefl _)
    rw [this]; exact hR (by rw [hjd]; simp)
   ·rw [keep d (fun h => by
     have := slot_ne (show slotOf ops i = some d by rw [hdst]; exact h) hjd
     subst this; rw [hun'] at hj'; cases hj')]
    exact hG _ _ _ _ hCw hGw (hhas j hj' d hjd)
  ·intro i' j hj hb
   rcases lst j hj with rfl | hj'
   ·refine getD_set_true ?_
    obtain ⟨e, he, h1, h2⟩ := behind_spec hb ho
    rw [← h1]; exact hdeps e he h2
   ·exact getD_set_true (hcl i' j hj' hb)
  ·intro j hj hn hlt
   rcases lst j hj with rfl | hj'
   ·rw [hdst] at hn
    exact hTi hn
   ·exact hGT _ _ _ hCw hGw (hT j hj' hn hlt)
 ·intro listed a w hall ⟨hCw, hd, hsz, hext, hhas, _, hT⟩
  refine hQ a w hCw hd hsz (fun t htt => hext t fun j hj => ?_) (fun j hj => hhas j (hall j hj)) (fun j hn hlt => hT j (hall j hlt) hn hlt)
  exfalso
  have hlt := slot_lt hj
  have := Array.all_eq_true.1 htt j hlt
  unfold slotOf at hj
  rw [Array.getElem?_eq_getElem hlt] at hj
  simp only [Option.bind_some] at hj
  rw [hj] at this
  simp at this
 ·intro j hj
  simp at hj
  rw [Array.getElem?_replicate] at hj; split at hj <;> simp at hj
 ·intro i j hj
  simp at hj
  rw [Array.getElem?_replicate] at hj; split at hj <;> simp at hj
 ·intro j hj
  simp at hj
  rw [Array.getElem?_replicate] at hj; split at hj <;> simp at hj
theorem wp_region_mix {id : Nat} {a0 : Act} {w0 : World} {C : World → Prop} {G : World → World → Prop} {R : Nat → Value → World → Prop} {T : Nat → World → Prop} (m : List Bool) (hm : P.follows .mixedOrders = true) (ht : tidy ops a0.tmps.size = true)
  (hk : maskOk ops m a0.tmps.size = true)
  (hG : ∀ j v w w', C w → G w w' → R j v w → R j v w') (hGT : ∀ j w w', C w → G w w' → T j w → T j w') (hC : C { w0 with drawn := w0.drawn + 1 })
  (hO : OblAll P ops a0 C G R T Q 0 ops.toList)
  (hQ : ∀ (f : Nat → Value) w, C w → (∀ j d, slotOf ops j = some d → R j (f d) w) → (∀ j, HasT ops T j w) → Q .normal ⟨(mixL f m 0 a0.tmps.toList).toArray, a0.defers⟩ w) :
  (Code.region id ops true).wp P Q a0 w0 := by
 refine wp_region_inv hm ht hG hGT hC hO fun a w hCw hd hsz hext hhas hT => ?_
 unfold maskOk at hk
 simp only [Bool.and_eq_true, beq_iff_eq] at hk
 obtain ⟨hml, hmk⟩ := hk
 have e : a = ⟨(mixL (fun t => a.eval (.tmp t)) m 0 a0.tmps.toList).toArray, a0.defers⟩ := by
  rw [mixL_eq _ _ _ _ (by simpa using hml) ?_]
  ·cases a with
   | mk tmps defers =>
    simp only [Act.mk.injEq]
    refine ⟨?_, hd⟩
    apply Array.ext'
    apply List.ext_getElem?
    intro i
    simp only at hsz
    by_cases hi : i < tmps.size
    ·have hi' : i < a0.tmps.size := by omega
     simp [hi, hi', Act.eval]
    ·have hi' : ¬ i < a0.tmps.size := by omega
     simp [hi, hi']
  ·intro i hi
   have hlt : i < a0.tmps.size := by
    have := (List.getElem?_eq_some_iff.1 hi).1; omega
   have h1 := List.all_eq_true.1 hmk i (List.mem_range.2 hlt)
   have h2 : m.getD i false = false := by simp [List.getD, hi]
   rw [h2, Bool.false_or] at h1
   have h3 := hext i h1
   rw [Nat.zero_add, h3]
   simp [Act.eval, hlt]
 have h1 : ∀ j d, slotOf ops j = some d → R j ((fun t => a.eval (.tmp t)) d) w := fun j d hj => hhas j (by
  unfold slotOf at hj
  cases ho : ops[j]? with
  | none => rw [ho] at hj; cases hj
  | some o => exact (Array.getElem?_eq_some_iff.1 ho).1) d hj
 rw [e]
 exact hQ (fun t => a.eval (.tmp t)) w hCw h1 hT
end
end Reg2
end Go.Proofs.YtabccmobmppdnaaGreat
namespace Go.Proofs.YtabccmobmppdnaaGreat
open Go Fk Go.RowKit
set_option linter.unusedVariables false
set_option maxRecDepth 8000
def gainC (x l : Option Nat) : Option Nat := if ford .f32 l (some 0) == some .gt then fop .quo .f32 x l else some 0
def wayC (cs : List C3) (i j : Int) : C3 := lessC (cs.getD j.toNat c0) (cs.getD i.toNat c0)
def perC (d : C3) (l s : Option Nat) : Option Nat := gainC (fop .mul .f32 s (fop .sub .f32 (longC d) l)) (longC d)
def scaleC (c : C3) (q : Option Nat) : C3 := (fop .mul .f32 c.1 q, fop .mul .f32 c.2.1 q, fop .mul .f32 c.2.2 q)
theorem impl_perLength (x y : Nat) (c d : Option Nat) (w : World) (hx : FV .f32 x c) (hy : FV .f32 y d) :
  Calls Tryz.prog 140 #[.float .f32 x, .float .f32 y] w fun e w' => ∃ r, e = .returned (.float .f32 r) ∧ FV .f32 r (gainC c d) ∧ ∃ n, w' = w.drewN n := by
 have u := Tryz.underlying27
 have ho : FloatKind.f32.format.order y 0 = ford .f32 d (some 0) := ford_of hy FV_00
 unfold gainC
 cases hg : (ford .f32 d (some 0) == some .gt)
 ·have h1 : (FloatKind.f32.format.order y 0 == some .gt) = false := by rw [ho]; exact hg
  clear ho hg
  go_enter Tryz.func140, Tryz.ntmps140
  go_wp2
  go_ret
  exact ⟨0, rfl, FV_00, 0, rfl⟩
 ·have h1 : (FloatKind.f32.format.order y 0 == some .gt) = true := by rw [ho]; exact hg
  clear ho hg
  go_enter Tryz.func140, Tryz.ntmps140
  go_wp2
  go_ret
  exact ⟨_, rfl, FV_fR hx hy, _, rfl⟩
theorem l03Gain (x y : Nat) (c d : Option Nat) (w : World) (hx : FV .f32 x c) (hy : FV .f32 y d) :
  Calls Tryz.prog 139 #[.float .f32 x, .float .f32 y] w fun e w' => ∃ r, e = .returned (.float .f32 r) ∧ FV .f32 r (gainC c d) ∧ ∃ n, w' = w.drewN n := by
 have u := Tryz.underlying27
 have ho : FloatKind.f32.format.order y 0 = ford .f32 d (some 0) := ford_of hy FV_00
 unfold gainC
 cases hg : (ford .f32 d (some 0) == some .gt)
 ·have h1 : (FloatKind.f32.format.order y 0 == some .gt) = false := by rw [ho]; exact hg
  clear ho hg
  go_enter Tryz.func139, Tryz.ntmps139
  go_wp2
  go_ret
  exact ⟨0, rfl, FV_00, 0, rfl⟩
 ·have h1 : (FloatKind.f32.format.order y 0 == some .gt) = true := by rw [ho]; exact hg
  clear ho hg
  go_enter Tryz.func139, Tryz.ntmps139
  go_wp2
  go_ret
  exact ⟨_, rfl, FV_fR hx hy, _, rfl⟩
theorem impl_pullPer (a b : Int) (x y p q r : Nat) (c e : Option Nat) (D : C3) (w : World) (hx : FV .f32 x c) (hy : FV .f32 y e) (hD : FV3 p q r D) :
  Calls Tryz.prog 251 #[sv a b x y, vv p q r] w fun en w' => ∃ g, en = .returned (.float .f32 g) ∧ FV .f32 g (perC D c e) ∧ Below w.heap.size w w' := by
 have u := Tryz.underlying27
 have us := Tryz.underlying166
 have uv := Tryz.underlying42
 have a0 : At ((w.alloc (.cells #[.int .i64 a, .int .i64 b, .float .f32 x, .float .f32 y] 166)).alloc (.cells #[.float .f32 p, .float .f32 q, .float .f32 r] 42)) w.heap.size [.int .i64 a, .int .i64 b, .float .f32 x, .float .f32 y] := At.new.alloc
 have b0 := ((Below.refl w.heap.size w).alloc (Nat.le_refl _) (.cells #[.int .i64 a, .int .i64 b, .float .f32 x, .float .f32 y] 166)).alloc (by simp) (.cells #[.float .f32 p, .float .f32 q, .float .f32 r] 42)
 have A0 := Lib.hid a0
 have B0 := Lib.hid b0
 clear a0 b0
 go_enter Tryz.func251, Tryz.ntmps251
 go_wp2_with fail
 generalize ((w.alloc (.cells #[.int .i64 a, .int .i64 b, .float .f32 x, .float .f32 y] 166)).alloc (.cells #[.float .f32 p, .float .f32 q, .float .f32 r] 42)) = W at *
 refine (impl_LongOf _ _ _ _ _ _ _ hD.1 hD.2.1 hD.2.2).mono ?_
 rintro en w1 ⟨l, rfl, hl, hB1⟩
 have k2 := A0.out.below hB1 2 _ rfl
 have k3 := A0.out.below hB1 3 _ rfl
 have B1 := Lib.hid (B0.out.trans (hB1.mono B0.out.size))
 clear hB1
 go_wp2_with fail
 refine (impl_product32 _ _ _ _ _ hy (FV_fR hl hx)).mono ?_
 rintro en w2 ⟨g, rfl, hg, n, hw2⟩
 have B2 : RowKit.Hid (Below w.heap.size w w2) := Lib.hid (by rw [hw2]; exact below_drewN (below_drewN B1.out _) _)
 clear hw2
 go_wp2_with fail
 refine (impl_perLength _ _ _ _ _ hg hl).mono ?_
 rintro en w3 ⟨z, rfl, hz, n3, hw3⟩
 have B3 : RowKit.Hid (Below w.heap.size w w3) := Lib.hid (by rw [hw3]; exact below_drewN B2.out _)
 clear hw3
 go_wp2
 go_ret
 exact ⟨z, rfl, hz, B3.out⟩
theorem inB_nat {n : Nat} {z : Int} (h : inB n z = true) : ∃ k : Nat, z = k ∧ k < n := by
 have := of_decide_eq_true h
 exact ⟨z.toNat, by omega, by omega⟩
set_option maxHeartbeats 2000000 in
theorem impl_way (a b : Int) (x y : Nat) (pa : Option Addr) (pl pc : Nat) (cs : List C3) (w : World) (h : IsVs w pa pl pc cs) (ha : inB pl a = true) (hb : inB pl b = true) :
  Calls Tryz.prog 250 #[sv a b x y, .slice pa pl pc] w fun e w' => ∃ s t u, e = .returned (vv s t u) ∧ FV3 s t u (wayC cs a b) ∧ Below w.heap.size w w' := by
 obtain ⟨i, rfl, hi⟩ := inB_nat ha
 obtain ⟨j, rfl, hj⟩ := inB_nat hb
 have u := Tryz.underlying27
 have ui := Tryz.underlying2
 have us := Tryz.underlying166
 have uv := Tryz.underlying42
 have hm : pl ≤ 9223372036854775807 := by have h1 := h.2.1; have h2 := h.2.2.1; unfold maxLen at h2; omega
 obtain ⟨pb, po, rfl, hcell⟩ := h.some (by omega)
 obtain ⟨p, q, r, i0, i1, i2, fi⟩ := hcell i hi
 obtain ⟨p', q', r', j0, j1, j2, fj⟩ := hcell j hj
 have a0 : At ((w.alloc (.cells #[.int .i64 (i : Int), .int .i64 (j : Int), .float .f32 x, .float .f32 y] 166)).alloc (.cells #[.float .f32 0, .float .f32 0, .float .f32 0] 42)) w.heap.size [.int .i64 (i : Int), .int .i64 (j : Int), .float .f32 x, .float .f32 y] := At.new.alloc
 have r0 : V3 ((w.alloc (.cells #[.int .i64 (i : Int), .int .i64 (j : Int), .float .f32 x, .float .f32 y] 166)).alloc (.cells #[.float .f32 0, .float .f32 0, .float .f32 0] 42)) (w.heap.size + 1) 0 0 0 := by
  have := V3.new (w := w.alloc (.cells #[.int .i64 (i : Int), .int .i64 (j : Int), .float .f32 x, .float .f32 y] 166)) (x := 0) (y := 0) (z := 0) (t := 42)
  simpa using this
 have b0 : Below w.heap.size w ((w.alloc (.cells #[.int .i64 (i : Int), .int .i64 (j : Int), .float .f32 x, .float .f32 y] 166)).alloc (.cells #[.float .f32 0, .float .f32 0, .float .f32 0] 42)) := ((Below.refl _ _).alloc (Nat.le_refl _) _).alloc (by simp) _
 have HK := Lib.hid (And.intro b0 (And.intro a0 (And.intro r0 (And.intro (And.intro (cell_below b0 j0) (And.intro (cell_below b0 j1) (cell_below b0 j2))) (And.intro (cell_below b0 i0) (And.intro (cell_below b0 i1) (cell_below b0 i2)))))))
 have hi0 : (0 : Int) ≤ (i : Int) := by omega
 have hi1 : (i : Int) < (pl : Int) := by omega
 have hj0 : (0 : Int) ≤ (j : Int) := by omega
 have hj1 : (j : Int) < (pl : Int) := by omega
 clear h hcell a0 r0 b0 i0 i1 i2 j0 j1 j2
 go_enter Tryz.func250, Tryz.ntmps250
 go_wp2_with fail
 generalize ((w.alloc (.cells #[.int .i64 (i : Int), .int .i64 (j : Int), .float .f32 x, .float .f32 y] 166)).alloc (.cells #[.float .f32 0, .float .f32 0, .float .f32 0] 42)) = W at *
 refine Reg3.wp_region_mix (C := fun w' => Below w.heap.size w w' ∧ At w' w.heap.size [.int .i64 (i : Int), .int .i64 (j : Int), .float .f32 x, .float .f32 y] ∧ V3 w' (w.heap.size + 1) 0 0 0 ∧ (w'.cell? ⟨pb, po + j * 3, none⟩ = some (.float .f32 p') ∧ w'.cell? ⟨pb, po + j * 3 + 1, none⟩ = some (.float .f32 q') ∧ w'.cell? ⟨pb, po + j * 3 + 2, none⟩ = some (.float .f32 r')) ∧ w'.cell? ⟨pb, po + i * 3, none⟩ = some (.float .f32 p) ∧ w'.cell? ⟨pb, po + i * 3 + 1, none⟩ = some (.float .f32 q) ∧ w'.cell? ⟨pb, po + i * 3 + 2, none⟩ = some (.float .f32 r)) (G := fun _ _ => True)
  (R := fun k v _ => match k with | 0 => v = (.slice (some ⟨pb, po, none⟩) pl pc) | 1 => v = .pointer (some ⟨w.heap.size, 1, none⟩) | 2 => v = .int .i64 (j : Int) | 3 => v = .pointer (some ⟨pb, po + j * 3, none⟩) | 4 => v = vv p' q' r' | 5 => v = (.slice (some ⟨pb, po, none⟩) pl pc) | 6 => v = .pointer (some ⟨w.heap.size, 0, none⟩) | 7 => v = .int .i64 (i : Int) | 8 => v = .pointer (some ⟨pb, po + i * 3, none⟩) | 9 => v = vv p q r | 10 => ∃ s t u, v = vv s t u ∧ FV3 s t u (lessC (cs.getD j c0) (cs.getD i c0)) | _ => True)
  (T := fun _ _ w' => Below w.heap.size w w' ∧ ∃ s t u, V3 w' (w.heap.size + 1) s t u ∧ FV3 s t u (lessC (cs.getD j c0) (cs.getD i c0))) [false, false, false, false, false, true, true, true, true, true, true, true, true, true, true, true]
  (by kernel_rfl) (by kernel_rfl) (by kernel_rfl) (fun _ _ _ _ _ _ h => h) ⟨below_drewN HK.out.1 1, HK.out.2⟩ ?_ ?_
 ·refine ⟨Reg3.Obl.mk ?_, Reg3.Obl.mk ?_, Reg3.Obl.mk ?_, Reg3.Obl.mk ?_, Reg3.Obl.mk ?_, Reg3.Obl.mk ?_, Reg3.Obl.mk ?_, Reg3.Obl.mk ?_, Reg3.Obl.mk ?_, Reg3.Obl.mk ?_, Reg3.Obl.mk ?_, Reg3.Obl.mk ?_, trivial⟩
  ·rintro a w1 HC hx hd K hK
   replace HC := Lib.hid HC
   have t1 : a.tmps[1]?.getD undef = (.slice (some ⟨pb, po, none⟩) pl pc) := Reg.slot_val (hx 1 (by kernel_rfl))
   go_simp
   exact hK _ _ (fun _ => rfl) (fun h => by cases h) (fun _ => HC.out) trivial
  ·rintro a w1 HC hx hd K hK
   replace HC := Lib.hid HC
   have t2 : a.tmps[2]?.getD undef = .pointer (some ⟨w.heap.size, 0, none⟩) := Reg.slot_val (hx 2 (by kernel_rfl))
   go_simp
   exact hK _ _ (fun _ => rfl) (fun h => by cases h) (fun _ => HC.out) trivial
  ·rintro a w1 HC hx hd K hK
   replace HC := Lib.hid HC
   have y1 := HC.out.2.1 1 _ rfl
   have t6 : a.tmps[6]?.getD undef = .pointer (some ⟨w.heap.size, 1, none⟩) := Reg.slot_val (hd 1 (by kernel_rfl) 6 rfl)
   go_simp
   exact hK _ _ (fun _ => rfl) (fun h => by cases h) (fun _ => HC.out) trivial
  ·rintro a w1 HC hx hd K hK
   replace HC := Lib.hid HC
   have t5 : a.tmps[5]?.getD undef = (.slice (some ⟨pb, po, none⟩) pl pc) := Reg.slot_val (hd 0 (by kernel_rfl) 5 rfl)
   have t7 : a.tmps[7]?.getD undef = .int .i64 (j : Int) := Reg.slot_val (hd 2 (by kernel_rfl) 7 rfl)
   go_simp
   exact hK _ _ (fun _ => rfl) (fun h => by cases h) (fun _ => HC.out) trivial
  ·rintro a w1 HC hx hd K hK
   replace HC := Lib.hid HC
   obtain ⟨y0, y1, y2⟩ := HC.out.2.2.2.1
   have t8 : a.tmps[8]?.getD undef = .pointer (some ⟨pb, po + j * 3, none⟩) := Reg.slot_val (hd 3 (by kernel_rfl) 8 rfl)
   go_simp
   exact hK _ _ (fun _ => rfl) (fun h => by cases h) (fun _ => HC.out) trivial
  ·rintro a w1 HC hx hd K hK
   replace HC := Lib.hid HC
   have t1 : a.tmps[1]?.getD undef = (.slice (some ⟨pb, po, none⟩) pl pc) := Reg.slot_val (hx 1 (by kernel_rfl))
   go_simp
   exact hK _ _ (fun _ => rfl) (fun h => by cases h) (fun _ => HC.out) trivial
  ·rintro a w1 HC hx hd K hK
   replace HC := Lib.hid HC
   have t2 : a.tmps[2]?.getD undef = .pointer (some ⟨w.heap.size, 0, none⟩) := Reg.slot_val (hx 2 (by kernel_rfl))
   go_simp
   exact hK _ _ (fun _ => rfl) (fun h => by cases h) (fun _ => HC.out) trivial
  ·rintro a w1 HC hx hd K hK
   replace HC := Lib.hid HC
   have y1 := HC.out.2.1 0 _ rfl
   have t11 : a.tmps[11]?.getD undef = .pointer (some ⟨w.heap.size, 0, none⟩) := Reg.slot_val (hd 6 (by kernel_rfl) 11 rfl)
   go_simp
   exact hK _ _ (fun _ => rfl) (fun h => by cases h) (fun _ => HC.out) trivial
  ·rintro a w1 HC hx hd K hK
   replace HC := Lib.hid HC
   have t10 : a.tmps[10]?.getD undef = (.slice (some ⟨pb, po, none⟩) pl pc) := Reg.slot_val (hd 5 (by kernel_rfl) 10 rfl)
   have t12 : a.tmps[12]?.getD undef = .int .i64 (i : Int) := Reg.slot_val (hd 7 (by kernel_rfl) 12 rfl)
   go_simp
   exact hK _ _ (fun _ => rfl) (fun h => by cases h) (fun _ => HC.out) trivial
  ·rintro a w1 HC hx hd K hK
   replace HC := Lib.hid HC
   obtain ⟨y0, y1, y2⟩ := HC.out.2.2.2.2
   have t13 : a.tmps[13]?.getD undef = .pointer (some ⟨pb, po + i * 3, none⟩) := Reg.slot_val (hd 8 (by kernel_rfl) 13 rfl)
   go_simp
   exact hK _ _ (fun _ => rfl) (fun h => by cases h) (fun _ => HC.out) trivial
  ·rintro a w1 HC hx hd K hK
   replace HC := Lib.hid HC
   have t9 : a.tmps[9]?.getD undef = vv p' q' r' := Reg.slot_val (hd 4 (by kernel_rfl) 9 rfl)
   have t14 : a.tmps[14]?.getD undef = vv p q r := Reg.slot_val (hd 9 (by kernel_rfl) 14 rfl)
   go_simp
   refine (impl_LessVectors _ _ _ _ _ _ _ _ _ _ _ _ _ fj.1 fj.2.1 fj.2.2 fi.1 fi.2.1 fi.2.2).mono ?_
   rintro e w2 ⟨ax, ay, az, rfl, fx, fy, fz, hB1⟩
   obtain ⟨hB, hA, hR, ⟨z0, z1, z2⟩, z3, z4, z5⟩ := HC.out
   exact hK _ _ (fun _ => ⟨ax, ay, az, rfl, fx, fy, fz⟩) (fun h => by cases h) (fun _ => ⟨hB.trans (hB1.mono hB.size), hA.below hB1, hR.below hB1, ⟨cell_below hB1 z0, cell_below hB1 z1, cell_below hB1 z2⟩, cell_below hB1 z3, cell_below hB1 z4, cell_below hB1 z5⟩) trivial
  ·rintro a w1 HC hx hd K hK
   replace HC := Lib.hid HC
   have t4 : a.tmps[4]?.getD undef = .pointer (some ⟨w.heap.size + 1, 0, none⟩) := Reg.slot_val (hx 4 (by kernel_rfl))
   obtain ⟨s, t, u, g5, hG⟩ := hd 10 (by kernel_rfl) 15 rfl
   have t15 := Reg.slot_val g5
   clear g5
   have HP := Lib.hid (HC.out.2.2.1.put (p := s) (q := t) (r := u))
   have HB2 := Lib.hid (below_set3 (n := w.heap.size + 1) (o1 := 0) (o2 := 1) (o3 := 2) (u := .float .f32 s) (v := .float .f32 t) (t := .float .f32 u) HC.out.1 (Nat.le_succ _))
   obtain ⟨⟨u0, u1, u2⟩, uf⟩ := HC.out.2.2.1
   have uf0 := uf 0
   have uf1 := uf 1
   have uf2 := uf 2
   have HG := Lib.hid hG
   clear uf hG
   go_simp
   exact hK undef _ (fun h => absurd rfl h) (fun _ => ⟨HB2.out, s, t, u, HP.out, HG.out⟩) (fun h => absurd rfl h) trivial
 ·rintro f w1 hd hT
  obtain ⟨hB, s, t, u, hV, hG⟩ := hT 11 (by kernel_rfl) (by decide)
  simp only [Reg.mixL]
  obtain ⟨⟨v0, v1, v2⟩, -⟩ := hV
  have HB := Lib.hid hB
  have HG := Lib.hid hG
  clear hB hG hd hT
  go_wp2
  refine bodyPost_ret (v := vv s t u) (by simp [results, Tryz.results250, go_sem, v0, v1, v2]) rfl ⟨s, t, u, rfl, HG.out, HB.out⟩
end Go.Proofs.YtabccmobmppdnaaGreat

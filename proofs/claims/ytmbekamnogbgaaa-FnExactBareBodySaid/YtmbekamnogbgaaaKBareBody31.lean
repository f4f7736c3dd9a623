/-
Texts in one: what BareBody stands on, part 31. Conditions: those of each.
-/
import Derived.Test.YtmbekamnogbgaaaKBareBody30

/-
A body with other places, its lists copied: what the program makes. Conditions: it lies in memory, its triangles have three places each.
-/
namespace Go.Proofs.Ytmbekamnogbgaaa
open Go Fk Go.RowKit
set_option linter.unusedVariables false
set_option maxRecDepth 8000

set_option maxHeartbeats 4000000 in
theorem impl_placed' (B : Bd) (c : Bc) (a : Option Addr) (n cap : Nat) (cs' : List C3) (w : World) (h : IsB w B c) (hv : IsVs w a n cap cs') (hn : n ≤ 1000) (h3 : ∀ k, k < B.tl → (c.ts.getD k []).length = 3) (htl : B.tl ≤ 128) (hsl : B.sl ≤ 1000) (hwl : B.wl ≤ 1000) :
    Calls Try.prog 75 #[B.v, .slice a n cap] w fun e w' => ∃ (B' : Bd) (F : Nat), e = .returned B'.v ∧ IsB w' B' ⟨cs', c.ts, c.ss, c.zs, c.film, c.bend, c.fall⟩ ∧ GB w.heap.size w'.heap.size w' B' F ∧ (w.heap.size ≤ F ∧ F < w'.heap.size) ∧ Below w.heap.size w w' := by
  have ui := Try.underlying36
  have uim := Try.underlying29
  have T0 : Hid (Tc w w.heap.size (w.heap.size + 1) ({ B with pa := a, pl := n, pc := cap } : Bd).l Z9' ((w.alloc (BoxB ({ B with pa := a, pl := n, pc := cap } : Bd) 36)).alloc (.cells #[.slice none 0 0, .slice none 0 0, .slice none 0 0, .float .f32 0, .float .f32 0, .slice none 0 0, .float .f32 0, .float .f32 0, .float .f32 0] 36))) := Lib.hid
    ⟨At.new.alloc, by
      have := At.new (w := w.alloc (BoxB ({ B with pa := a, pl := n, pc := cap } : Bd) 36)) (vs := Z9') (t := 36)
      simpa using this, fun i => by go_simp, fun i => by go_simp, ((Below.refl _ _).alloc (Nat.le_refl _) _).alloc (by simp) _, ⟨Nat.le_refl _, by omega, by omega⟩, by simp <;> omega⟩
  have H := Lib.hid h
  have HV := Lib.hid hv
  have H3 := Lib.hid h3
  have htl' := h.2.1.1
  have hsl' := h.2.2.1.1
  have hwl' := h.2.2.2.1.1
  have hn' := hv.1
  clear h hv h3
  go_enter Try.func75, Try.ntmps75
  go_wp2_with fail
  change Calls _ _ _ ((w.alloc (BoxB ({ B with pa := a, pl := n, pc := cap } : Bd) 36)).alloc (.cells #[.slice none 0 0, .slice none 0 0, .slice none 0 0, .float .f32 0, .float .f32 0, .slice none 0 0, .float .f32 0, .float .f32 0, .float .f32 0] 36)) _
  generalize ((w.alloc (BoxB ({ B with pa := a, pl := n, pc := cap } : Bd) 36)).alloc (.cells #[.slice none 0 0, .slice none 0 0, .slice none 0 0, .float .f32 0, .float .f32 0, .slice none 0 0, .float .f32 0, .float .f32 0, .float .f32 0] 36)) = W at *
  refine (impl_copied a B.ta n cap B.tl B.tc cs' c.ts W (HV.out.below T0.out.bel) (H.out.2.1.below T0.out.bel) hn H3.out htl).mono ?_
  rintro e w1 ⟨v, rfl, qa, qc, ra, rc, fb, fc, xs, rfl, hq, hpv, hr, hfl, hB1⟩
  have T1 := Lib.hid (T0.out.call hB1)
  have T2 := Lib.hid (T1.out.put 0 (vs := [.slice qa n qc, .slice ra B.tl rc]) (Nat.le_of_ble_eq_true rfl))
  have A1 := Lib.hid (Agree.setL (Sy.out (bo := w.heap.size) (br := w.heap.size + 1)) [.slice qa n qc, .slice ra B.tl rc] w1 0 (Agree.refl (Sy w.heap.size (w.heap.size + 1)) w1))
  obtain ⟨ra', rc', e, hI, hF⟩ := rows_mesh hr hfl htl' H3.out (ts_wf H.out.2.1)
  cases e
  have hbig := T0.out.lt
  have GM1 : GM W.heap.size w1.heap.size w1 qa ra n B.tl fb := gm_of hq (Nat.le_refl _) hF (fun P e => ⟨owns_apart hq hfl (by decide) P _ e rfl, fun R e' => owns_apart hq hr (by decide) P R e e'⟩)
  have M1 := Lib.hid (And.intro (vs_owned hq hn' hpv) (And.intro hI (And.intro GM1 (And.intro hB1.size (hfl.lt fb rfl)))))
  clear hB1 hq hpv hr hfl hI hF GM1
  have e0 := T1.out.out 0 _ rfl
  have e1 := T1.out.out 1 _ rfl
  have g0 := T1.out.fo 0
  have g1 := T1.out.fo 1
  have k2 := T1.out.out 2 _ rfl
  go_wp2_with fail
  change Calls _ _ _ (setL w1 w.heap.size 0 [.slice qa n qc, .slice ra B.tl rc]) _
  clear e0 e1 g0 g1 k2
  generalize (setL w1 w.heap.size 0 [.slice qa n qc, .slice ra B.tl rc]) = W2 at *
  refine (clone_springs B.sa B.sl B.sc c.ss _ (H.out.2.2.1.below T2.out.bel) (by omega)).mono ?_
  rintro e w3 ⟨⟨v, ys, rfl, hown, hpv⟩, hB3⟩
  obtain ⟨sa, sc, rfl, hS, hSL⟩ := ss_of_owns hown hsl' hpv H.out.2.2.1.2.2.2.1
  have T3 := Lib.hid (T2.out.call hB3)
  have A3 := Lib.hid (A1.out.trans (Agree.of_below hB3))
  have S3 := Lib.hid (And.intro hS hSL)
  have hz3 := hB3.size
  clear hown hpv hB3 hS hSL
  have e2 := T3.out.out 2 _ rfl
  have g2 := T3.out.fo 2
  have k5 := T3.out.out 5 _ rfl
  go_wp2_with fail
  change Calls _ _ _ (setL w3 w.heap.size 2 [.slice sa B.sl sc]) _
  have T4 := Lib.hid (T3.out.put 2 (vs := [.slice sa B.sl sc]) (Nat.le_of_ble_eq_true rfl))
  have A4 := Lib.hid (Agree.setL (Sy.out (bo := w.heap.size) (br := w.heap.size + 1)) [.slice sa B.sl sc] w3 2 (Agree.refl (Sy w.heap.size (w.heap.size + 1)) w3))
  clear e2 g2 k5
  generalize (setL w3 w.heap.size 2 [.slice sa B.sl sc]) = W4 at *
  refine (clone_floats B.wa B.wl B.wc c.zs _ (IsFs_below T4.out.bel H.out.2.2.2.1) (by omega)).mono ?_
  rintro e w5 ⟨⟨v, zs, rfl, hown, hpv⟩, hB5⟩
  obtain ⟨wa, wc, rfl, hZ, hZL⟩ := fs_of_owns hown hwl' hpv H.out.2.2.2.1.2.2.2.1
  have T5 := Lib.hid (T4.out.call hB5)
  have A5 := Lib.hid (A4.out.trans (Agree.of_below hB5))
  have F5 := Lib.hid (And.intro hZ hZL)
  have hz5 := hB5.size
  clear hown hpv hB5 hZ hZL
  have e0 := T5.out.out 0 _ rfl
  have e1 := T5.out.out 1 _ rfl
  have e2 := T5.out.out 2 _ rfl
  have e3 := T5.out.out 3 _ rfl
  have e4 := T5.out.out 4 _ rfl
  have e5 := T5.out.out 5 _ rfl
  have e6 := T5.out.out 6 _ rfl
  have e7 := T5.out.out 7 _ rfl
  have e8 := T5.out.out 8 _ rfl
  have g5 := T5.out.fo 5
  have q0 := T5.out.res 0 _ rfl
  have p0 := T5.out.fr 0
  have q1 := T5.out.res 1 _ rfl
  have p1 := T5.out.fr 1
  have q2 := T5.out.res 2 _ rfl
  have p2 := T5.out.fr 2
  have q3 := T5.out.res 3 _ rfl
  have p3 := T5.out.fr 3
  have q4 := T5.out.res 4 _ rfl
  have p4 := T5.out.fr 4
  have q5 := T5.out.res 5 _ rfl
  have p5 := T5.out.fr 5
  have q6 := T5.out.res 6 _ rfl
  have p6 := T5.out.fr 6
  have q7 := T5.out.res 7 _ rfl
  have p7 := T5.out.fr 7
  have q8 := T5.out.res 8 _ rfl
  have p8 := T5.out.fr 8
  have T6 := Lib.hid (T5.out.put 5 (vs := [.slice wa B.wl wc]) (Nat.le_of_ble_eq_true rfl))
  have A6 := Lib.hid (Agree.setL (Sy.out (bo := w.heap.size) (br := w.heap.size + 1)) [.slice wa B.wl wc] w5 5 (Agree.refl (Sy w.heap.size (w.heap.size + 1)) w5))
  obtain ⟨hR, hBB⟩ := T6.out.fin (vs' := [.slice qa n qc, .slice ra B.tl rc, .slice sa B.sl sc, .float .f32 B.film, .float .f32 B.bend, .slice wa B.wl wc, .float .f32 B.x, .float .f32 B.y, .float .f32 B.z]) rfl
  have A7 := Agree.setL (Sy.res (bo := w.heap.size) (br := w.heap.size + 1)) [.slice qa n qc, .slice ra B.tl rc, .slice sa B.sl sc, .float .f32 B.film, .float .f32 B.bend, .slice wa B.wl wc, .float .f32 B.x, .float .f32 B.y, .float .f32 B.z] _ 0 A6.out
  simp only [setL, Nat.zero_add, Nat.reduceAdd] at hR hBB A7
  have HR := Lib.hid hR
  have HBB := Lib.hid hBB
  have HA7 := Lib.hid A7
  clear hR hBB A7
  go_wp2
  clear e0 e1 e2 e3 e4 e5 e6 e7 e8 g5 q0 q1 q2 q3 q4 q5 q6 q7 q8 p0 p1 p2 p3 p4 p5 p6 p7 p8
  have m0 := HR.out 0 _ rfl
  have m1 := HR.out 1 _ rfl
  have m2 := HR.out 2 _ rfl
  have m3 := HR.out 3 _ rfl
  have m4 := HR.out 4 _ rfl
  have m5 := HR.out 5 _ rfl
  have m6 := HR.out 6 _ rfl
  have m7 := HR.out 7 _ rfl
  have m8 := HR.out 8 _ rfl
  have G3 := HA7.out
  have G2 := A5.out.trans G3
  have G1 := A3.out.trans G2
  refine bodyPost_ret (v := (⟨qa, ra, sa, wa, n, qc, B.tl, rc, B.sl, sc, B.wl, wc, B.film, B.bend, B.x, B.y, B.z⟩ : Bd).v) (by simp [results, Try.results75, go_sem, m0, m1, m2, m3, m4, m5, m6, m7, m8]) rfl ?_
  have z1 := A1.out.size
  have z4 := A4.out.size
  have z5 := M1.out.2.2.2.1
  have s1 : ∀ q, W.heap.size ≤ q → q < w1.heap.size → Sy w.heap.size (w.heap.size + 1) q := Sy.new (by omega) (by omega)
  have s2 : ∀ q, W2.heap.size ≤ q → q < w3.heap.size → Sy w.heap.size (w.heap.size + 1) q := Sy.new (by omega) (by omega)
  have s3 : ∀ q, W4.heap.size ≤ q → q < w5.heap.size → Sy w.heap.size (w.heap.size + 1) q := Sy.new (by omega) (by omega)
  have mm := M1.out.2.2.1.agree s1 G1
  have ms := S3.out.2.agree s2 G2
  have mf := F5.out.2.agree s3 G3
  have y1 := G1.size
  have y2 := G2.size
  have y3 := G3.size
  have hb0 := T0.out.bel.size
  refine ⟨_, fb, rfl, ⟨vs_agree M1.out.1 M1.out.2.2.1.lv s1 G1, ts_agree M1.out.2.1 M1.out.2.2.1.lt s1 G1, ss_agree S3.out.1 (lst_lv S3.out.2) s2 G2, fs_agree F5.out.1 (lst_lv F5.out.2) s3 G3, H.out.2.2.2.2⟩, ?_, ⟨by have := M1.out.2.2.2.2.1; omega, by have := M1.out.2.2.2.2.2; omega⟩, HBB.out⟩
  refine gb_of (lo := w.heap.size) (h1 := W2.heap.size) (h2 := W4.heap.size) (h3 := w5.heap.size) (mm.widen hb0 z1) (.inl (by have := M1.out.2.2.2.2.2; omega)) (lst_widen ms (Nat.le_refl _) z4) mf (by omega) hz5 y3 (by omega) (by have := M1.out.2.2.2.2.2; omega)
theorem impl_placed (B : Bd) (c : Bc) (a : Option Addr) (n cap : Nat) (cs' : List C3) (w : World) (h : IsB w B c) (hv : IsVs w a n cap cs') (hn : n ≤ 1000) (h3 : ∀ k, k < B.tl → (c.ts.getD k []).length = 3) (htl : B.tl ≤ 128) (hsl : B.sl ≤ 1000) (hwl : B.wl ≤ 1000) :
    Calls Try.prog 75 #[B.v, .slice a n cap] w fun e w' => ∃ (B' : Bd) (F : Nat), e = .returned B'.v ∧ IsB w' B' ⟨cs', c.ts, c.ss, c.zs, c.film, c.bend, c.fall⟩ ∧ GB w.heap.size w'.heap.size w' B' F ∧ Below w.heap.size w w' :=
  (impl_placed' B c a n cap cs' w h hv hn h3 htl hsl hwl).mono fun _ _ ⟨B', F, he, hI, hG, _, hB⟩ => ⟨B', F, he, hI, hG, hB⟩
end Go.Proofs.Ytmbekamnogbgaaa


/-
A region whose order is open, with a store that need not come last: what the store leaves is kept by all that comes behind it. Conditions: no operation is guarded, every edge leads to an earlier operation, no slot is written twice.
-/
namespace Go.Proofs.Ytmbekamnogbgaaa
namespace Reg2
open Go Reg
set_option linter.unusedVariables false
section
variable {P : Program} {ops : Array Oper} {Q : Exit → Act → World → Prop} {md : Region.Mode}
def tidy (ops : Array Oper) (n : Nat) : Bool :=
  low ops && (ops.all fun o => o.guard.isNone) && (ops.all fun o => (o.dst.map fun d => decide (d < n)).getD true) &&
  ((List.range ops.size).all fun i => (List.range ops.size).all fun j => i == j || slotOf ops i == none || slotOf ops i != slotOf ops j)
/-- What is known of the world behind an operation without a slot. -/
def HasT (ops : Array Oper) (T : Nat → World → Prop) (j : Nat) (w : World) : Prop := slotOf ops j = none → j < ops.size → T j w
/-- What is asked of operation i. -/
def Obl (P : Program) (ops : Array Oper) (a0 : Act) (C : World → Prop) (G : World → World → Prop) (R : Nat → Value → World → Prop) (T : Nat → World → Prop) (Q : Exit → Act → World → Prop) (i : Nat) (o : Oper) : Prop :=
  ∀ a w, C w → (∀ t, ((List.range ops.size).all fun j => slotOf ops j != some t || behind ops i j) = true → a.eval (.tmp t) = a0.eval (.tmp t)) →
    (∀ j, behind ops j i = true → Has ops R j a w) →
    o.wp P a w (fun a' w' => ∃ v, a' = a.put o.dst v ∧ (o.dst ≠ none → R i v w') ∧ (o.dst = none → T i w') ∧ C w' ∧ G w w') Q
def OblAll (P : Program) (ops : Array Oper) (a0 : Act) (C : World → Prop) (G : World → World → Prop) (R : Nat → Value → World → Prop) (T : Nat → World → Prop) (Q : Exit → Act → World → Prop) : Nat → List Oper → Prop
  | _, [] => True
  | i, o :: l => Obl P ops a0 C G R T Q i o ∧ OblAll P ops a0 C G R T Q (i + 1) l
theorem OblAll.get {a0 : Act} {C : World → Prop} {G : World → World → Prop} {R : Nat → Value → World → Prop} {T : Nat → World → Prop} :
    ∀ {l : List Oper} {k : Nat}, OblAll P ops a0 C G R T Q k l → ∀ {i : Nat} {o : Oper}, l[i]? = some o → Obl P ops a0 C G R T Q (k + i) o
  | [], _, _, _, _, h => by simp at h
  | _ :: _, _, h, 0, _, ho => by simp at ho; subst ho; exact h.1
  | _ :: l, k, h, i + 1, _, ho => by
    have := OblAll.get h.2 (i := i) (by simpa using ho)
    rwa [Nat.add_assoc, Nat.add_comm 1 i] at this

theorem Obl.mk {a0 : Act} {C : World → Prop} {G : World → World → Prop} {R : Nat → Value → World → Prop} {T : Nat → World → Prop} {i : Nat} {o : Oper}
    (h : ∀ a w, C w → (∀ t, ((List.range ops.size).all fun j => slotOf ops j != some t || behind ops i j) = true → a.eval (.tmp t) = a0.eval (.tmp t)) →
      (∀ j, behind ops j i = true → Has ops R j a w) → ∀ K : Act → World → Prop, (∀ v w', (o.dst ≠ none → R i v w') → (o.dst = none → T i w') → C w' → G w w' → K (a.put o.dst v) w') → o.wp P a w K Q) : Obl P ops a0 C G R T Q i o :=
  fun a w hC he hd => h a w hC he hd _ fun v w' h1 h2 h3 h4 => ⟨v, rfl, h1, h2, h3, h4⟩

theorem wp_region_inv {id : Nat} {a0 : Act} {w0 : World} {C : World → Prop} {G : World → World → Prop} {R : Nat → Value → World → Prop} {T : Nat → World → Prop} (hm : P.follows .mixedOrders = true) (ht : tidy ops a0.tmps.size = true)
    (hG : ∀ j v w w', C w → G w w' → R j v w → R j v w') (hGT : ∀ j w w', C w → G w w' → T j w → T j w') (hC : C { w0 with drawn := w0.drawn + 1 })
    (hO : OblAll P ops a0 C G R T Q 0 ops.toList)
    (hQ : ∀ a w, C w → a.defers = a0.defers → a.tmps.size = a0.tmps.size → (∀ t, (ops.all fun o => o.dst != some t) = true → a.eval (.tmp t) = a0.eval (.tmp t)) → (∀ j, j < ops.size → Has ops R j a w) → (∀ j, HasT ops T j w) → Q .normal a w) :
    (Code.region id ops true).wp P Q a0 w0 := by
  unfold tidy at ht
  simp only [Bool.and_eq_true] at ht
  obtain ⟨⟨⟨hlow, hgd⟩, hbd⟩, hdis⟩ := ht
  have slot_lt : ∀ {j d}, slotOf ops j = some d → j < ops.size := fun {j d} h => by
    unfold slotOf at h
    cases ho : ops[j]? with
    | none => rw [ho] at h; cases h
    | some o => exact (Array.getElem?_eq_some_iff.1 ho).1
  have slot_bd : ∀ {j d}, slotOf ops j = some d → d < a0.tmps.size := fun {j d} h => by
    have hj := slot_lt h
    have := Array.all_eq_true.1 hbd j hj
    unfold slotOf at h
    rw [Array.getElem?_eq_getElem hj] at h
    simp only [Option.bind_some] at h
    rw [h] at this
    simpa using this
  have slot_ne : ∀ {i j d}, slotOf ops i = some d → slotOf ops j = some d → i = j := fun {i j d} h1 h2 => by
    have a1 := slot_lt h1
    have a2 := slot_lt h2
    have := List.all_eq_true.1 (List.all_eq_true.1 hdis i (List.mem_range.2 a1)) j (List.mem_range.2 a2)
    rw [h1, h2] at this
    simpa using this
  let Inv : Array Bool → Act → World → Prop := fun listed a w => C w ∧ a.defers = a0.defers ∧ a.tmps.size = a0.tmps.size ∧
    (∀ t, (∀ j, slotOf ops j = some t → listed.getD j false = false) → a.eval (.tmp t) = a0.eval (.tmp t)) ∧
    (∀ j, listed.getD j false = true → Has ops R j a w) ∧ (∀ i j, listed.getD j false = true → behind ops i j = true → listed.getD i false = true) ∧ (∀ j, listed.getD j false = true → HasT ops T j w)
  refine wp_region_any hm (wpAny_inv (Inv := Inv) hlow ?_ ?_ _ _ _ _ (by simp) (by simp) ⟨hC, rfl, rfl, fun _ _ => rfl, ?_, ?_, ?_⟩)
  · intro i listed a w hs hi ⟨hCw, hd, hsz, hext, hhas, hcl, hT⟩
    obtain ⟨hun, o, ho, hdeps⟩ := mem_ready.1 hi
    have hilt : i < ops.size := (Array.getElem?_eq_some_iff.1 ho).1
    have hun' : listed.getD i false = false := by
      have : i < listed.size := by omega
      simp [this] at hun ⊢; exact hun
    have hg : o.guard = none := by
      have := Array.all_eq_true.1 hgd i hilt
      rw [Array.getElem?_eq_getElem hilt] at ho
      cases ho
      simpa using this
    have hob := OblAll.get hO (i := i) (o := o) (by simpa using ho)
    rw [Nat.zero_add] at hob
    have hwp := hob a w hCw (fun t htt => hext t fun j hj => by
        have := List.all_eq_true.1 htt j (List.mem_range.2 (slot_lt hj))
        rw [hj] at this
        simp at this
        cases hl : listed.getD j false
        · rfl
        · have := hcl i j hl this; rw [hun'] at this; cases this)
      (fun j hj => hhas j (by
        obtain ⟨e, he, h1, h2⟩ := behind_spec hj ho
        rw [← h1]
        exact hdeps e he h2))
    unfold wpOp
    rw [ho]
    simp only [Region.wanted, hg, if_true]
    refine .inl (Oper.wp_mono ?_ hwp)
    rintro a' w' ⟨v, rfl, hR, hTi, hC', hGw⟩
    have hdst : slotOf ops i = o.dst := by unfold slotOf; rw [ho]; rfl
    have keep : ∀ t, o.dst ≠ some t → (a.put o.dst v).eval (.tmp t) = a.eval (.tmp t) := fun t h => Act.eval_put (fun d hd he => h (by rw [hd]; cases he; rfl))
    have lst : ∀ j, (listed.setIfInBounds i true).getD j false = true → j = i ∨ listed.getD j false = true := fun j h => by
      by_cases hji : i = j
      · exact .inl hji.symm
      · rw [getD_set_ne false hji] at h; exact .inr h
    refine ⟨hC', ?_, ?_, ?_, ?_, ?_, ?_⟩
    · rw [← hd]; unfold Act.put; split <;> rfl
    · rw [← hsz]; unfold Act.put; split <;> simp
    · intro t htt
      rw [keep t (fun h => by
        have := htt i (by rw [hdst]; exact h)
        have hlt : i < listed.size := by omega
        simp [hlt] at this)]
      refine hext t fun j hj => ?_
      have := htt j hj
      cases hl : listed.getD j false
      · rfl
      · rw [getD_set_true hl] at this; cases this
    · intro j hj d hjd
      rcases lst j hj with rfl | hj'
      · rw [hdst] at hjd
        have hb := slot_bd (j := j) (by rw [hdst]; exact hjd)
        have : (a.put o.dst v).eval (.tmp d) = v := by
          unfold Act.put Act.eval; rw [hjd]; simp; exact fun h => absurd (Nat.lt_of_lt_of_le hb (hsz ▸ h)) (Nat.lt_irrefl _)
        rw [this]; exact hR (by rw [hjd]; simp)
      · rw [keep d (fun h => by
          have := slot_ne (show slotOf ops i = some d by rw [hdst]; exact h) hjd
          subst this; rw [hun'] at hj'; cases hj')]
        exact hG _ _ _ _ hCw hGw (hhas j hj' d hjd)
    · intro i' j hj hb
      rcases lst j hj with rfl | hj'
      · refine getD_set_true ?_
        obtain ⟨e, he, h1, h2⟩ := behind_spec hb ho
        rw [← h1]; exact hdeps e he h2
      · exact getD_set_true (hcl i' j hj' hb)
    · intro j hj hn hlt
      rcases lst j hj with rfl | hj'
      · rw [hdst] at hn
        exact hTi hn
      · exact hGT _ _ _ hCw hGw (hT j hj' hn hlt)
  · intro listed a w hall ⟨hCw, hd, hsz, hext, hhas, _, hT⟩
    refine hQ a w hCw hd hsz (fun t htt => hext t fun j hj => ?_) (fun j hj => hhas j (hall j hj)) (fun j hn hlt => hT j (hall j hlt) hn hlt)
    exfalso
    have hlt := slot_lt hj
    have := Array.all_eq_true.1 htt j hlt
    unfold slotOf at hj
    rw [Array.getElem?_eq_getElem hlt] at hj
    simp only [Option.bind_some] at hj
    rw [hj] at this
    simp at this
  · intro j hj
    simp at hj
    rw [Array.getElem?_replicate] at hj; split at hj <;> simp at hj
  · intro i j hj
    simp at hj
    rw [Array.getElem?_replicate] at hj; split at hj <;> simp at hj
  · intro j hj
    simp at hj
    rw [Array.getElem?_replicate] at hj; split at hj <;> simp at hj

theorem wp_region_mix {id : Nat} {a0 : Act} {w0 : World} {C : World → Prop} {G : World → World → Prop} {R : Nat → Value → World → Prop} {T : Nat → World → Prop} (m : List Bool) (hm : P.follows .mixedOrders = true) (ht : tidy ops a0.tmps.size = true)
    (hk : maskOk ops m a0.tmps.size = true)
    (hG : ∀ j v w w', C w → G w w' → R j v w → R j v w') (hGT : ∀ j w w', C w → G w w' → T j w → T j w') (hC : C { w0 with drawn := w0.drawn + 1 })
    (hO : OblAll P ops a0 C G R T Q 0 ops.toList)
    (hQ : ∀ (f : Nat → Value) w, C w → (∀ j d, slotOf ops j = some d → R j (f d) w) → (∀ j, HasT ops T j w) → Q .normal ⟨(mixL f m 0 a0.tmps.toList).toArray, a0.defers⟩ w) :
    (Code.region id ops true).wp P Q a0 w0 := by
  refine wp_region_inv hm ht hG hGT hC hO fun a w hCw hd hsz hext hhas hT => ?_
  unfold maskOk at hk
  simp only [Bool.and_eq_true, beq_iff_eq] at hk
  obtain ⟨hml, hmk⟩ := hk
  have e : a = ⟨(mixL (fun t => a.eval (.tmp t)) m 0 a0.tmps.toList).toArray, a0.defers⟩ := by
    rw [mixL_eq _ _ _ _ (by simpa using hml) ?_]
    · cases a with
      | mk tmps defers =>
        simp only [Act.mk.injEq]
        refine ⟨?_, hd⟩
        apply Array.ext'
        apply List.ext_getElem?
        intro i
        simp only at hsz
        by_cases hi : i < tmps.size
        · have hi' : i < a0.tmps.size := by omega
          simp [hi, hi', Act.eval]
        · have hi' : ¬ i < a0.tmps.size := by omega
          simp [hi, hi']
    · intro i hi
      have hlt : i < a0.tmps.size := by
        have := (List.getElem?_eq_some_iff.1 hi).1; omega
      have h1 := List.all_eq_true.1 hmk i (List.mem_range.2 hlt)
      have h2 : m.getD i false = false := by simp [List.getD, hi]
      rw [h2, Bool.false_or] at h1
      have h3 := hext i h1
      rw [Nat.zero_add, h3]
      simp [Act.eval, hlt]
  have h1 : ∀ j d, slotOf ops j = some d → R j ((fun t => a.eval (.tmp t)) d) w := fun j d hj => hhas j (by
    unfold slotOf at hj
    cases ho : ops[j]? with
    | none => rw [ho] at hj; cases hj
    | some o => exact (Array.getElem?_eq_some_iff.1 ho).1) d hj
  rw [e]
  exact hQ (fun t => a.eval (.tmp t)) w hCw h1 hT
end
end Reg2
end Go.Proofs.Ytmbekamnogbgaaa

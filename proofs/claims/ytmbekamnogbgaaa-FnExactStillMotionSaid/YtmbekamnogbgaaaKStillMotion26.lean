/-
Texts in one: what StillMotion stands on, part 26. Conditions: those of each.
-/
import Derived.Test.YtmbekamnogbgaaaKStillMotion25
import Derived.Lib.SmallJoins

/-
A motion that stands still: what the program makes. Conditions: the body lies in memory.
-/
namespace Go.Proofs.Ytmbekamnogbgaaa
open Go Fk Go.RowKit
set_option linter.unusedVariables false
set_option maxRecDepth 8000

theorem put_same_or (a : Act) (d : Tmp) (v : Value) : (a.put (some d) v).eval (.tmp d) = v ∨ (a.put (some d) v).eval (.tmp d) = undef := by
  unfold Act.put Act.eval
  by_cases h : d < a.tmps.size
  · exact .inl (by simp [h])
  · exact .inr (by simp [h])
theorem bd_inj {B B' : Bd} (h : B.v = B'.v) : B = B' := by
  obtain ⟨a1, a2, a3, a4, b1, b2, b3, b4, b5, b6, b7, b8, b9, b10, b11, b12, b13⟩ := B
  obtain ⟨c1, c2, c3, c4, d1, d2, d3, d4, d5, d6, d7, d8, d9, d10, d11, d12, d13⟩ := B'
  simp at h
  obtain ⟨⟨rfl, rfl, rfl⟩, ⟨rfl, rfl, rfl⟩, ⟨rfl, rfl, rfl⟩, rfl, rfl, ⟨rfl, rfl, rfl⟩, rfl, rfl, rfl⟩ := h
  rfl
theorem undef_bd (B : Bd) : undef ≠ B.v := fun h => by cases h
theorem undef_sl (a : Option Addr) (n c : Nat) : undef ≠ .slice a n c := fun h => by cases h
/-- The body and the speeds lie apart, whichever is made first. -/
def CI (W : World) (a : Act) (w : World) : Prop :=
  Below W.heap.size W w ∧ (∀ B' : Bd, a.eval (.tmp 12) = B'.v → ∃ lo hi F, W.heap.size ≤ lo ∧ hi ≤ w.heap.size ∧ GB lo hi w B' F ∧ (lo ≤ F ∧ F < hi) ∧ ∀ g n k, a.eval (.tmp 17) = .slice (some ⟨g, 0, none⟩) n k → (g < lo ∨ hi ≤ g)) ∧
  (∀ g n k, a.eval (.tmp 17) = .slice (some ⟨g, 0, none⟩) n k → W.heap.size ≤ g ∧ g < w.heap.size)
theorem CI.step {W w w' : World} {a : Act} {d : Tmp} {v : Value} (h : CI W a w) (h1 : some d ≠ some 12) (h2 : some d ≠ some 17) (hB : Below w.heap.size w w') : CI W (a.put (some d) v) w' := by
  obtain ⟨c1, c2, c3⟩ := h
  refine ⟨c1.trans (hB.mono c1.size), fun B' e => ?_, fun g n k e => ?_⟩
  · rw [eval_put_ne h1] at e
    obtain ⟨lo, hi, F, k1, k2, k3, k4, k5⟩ := c2 B' e
    exact ⟨lo, hi, F, k1, Nat.le_trans k2 hB.size, k3.below hB, k4, fun g n k e => k5 g n k (by rw [eval_put_ne h2] at e; exact e)⟩
  · rw [eval_put_ne h2] at e
    exact ⟨(c3 g n k e).1, Nat.lt_of_lt_of_le (c3 g n k e).2 hB.size⟩
theorem CI.body {W w w' : World} {a : Act} {B' : Bd} {F : Nat} (h : CI W a w) (hB : Below w.heap.size w w') (hG : GB w.heap.size w'.heap.size w' B' F) (hF : w.heap.size ≤ F ∧ F < w'.heap.size) : CI W (a.put (some 12) B'.v) w' := by
  obtain ⟨c1, c2, c3⟩ := h
  refine ⟨c1.trans (hB.mono c1.size), fun B'' e => ?_, fun g n k e => ?_⟩
  · rcases put_same_or a 12 B'.v with e' | e'
    · rw [e'] at e
      obtain rfl := bd_inj e
      refine ⟨w.heap.size, w'.heap.size, F, c1.size, Nat.le_refl _, hG, hF, fun g n k e => ?_⟩
      rw [eval_put_ne (by decide)] at e
      exact .inl (c3 g n k e).2
    · rw [e'] at e; exact absurd e (undef_bd _)
  · rw [eval_put_ne (by decide)] at e
    exact ⟨(c3 g n k e).1, Nat.lt_of_lt_of_le (c3 g n k e).2 hB.size⟩
theorem CI.list {W w w' : World} {a : Act} {n k : Nat} (h : CI W a w) (hB : Below w.heap.size w w') (hlt : w.heap.size < w'.heap.size) : CI W (a.put (some 17) (.slice (some ⟨w.heap.size, 0, none⟩) n k)) w' := by
  obtain ⟨c1, c2, c3⟩ := h
  refine ⟨c1.trans (hB.mono c1.size), fun B'' e => ?_, fun g n' k' e => ?_⟩
  · rw [eval_put_ne (by decide)] at e
    obtain ⟨lo, hi, F, k1, k2, k3, k4, k5⟩ := c2 B'' e
    refine ⟨lo, hi, F, k1, Nat.le_trans k2 hB.size, k3.below hB, k4, fun g n' k' e => ?_⟩
    rcases put_same_or a 17 (.slice (some ⟨w.heap.size, 0, none⟩) n k) with e' | e'
    · rw [e'] at e; cases e; exact .inr k2
    · rw [e'] at e; exact absurd e (undef_sl _ _ _)
  · rcases put_same_or a 17 (.slice (some ⟨w.heap.size, 0, none⟩) n k) with e' | e'
    · rw [e'] at e; cases e; exact ⟨c1.size, hlt⟩
    · rw [e'] at e; exact absurd e (undef_sl _ _ _)
/-- What the region leaves. -/
def SI (W : World) (c : Bc) (n br : Nat) (w' : World) : Prop := ∃ (w1 : World) (B' : Bd) (g lo hi F : Nat), Below W.heap.size W w1 ∧ IsB w1 B' c ∧ (W.heap.size ≤ lo ∧ hi ≤ w1.heap.size ∧ GB lo hi w1 B' F ∧ (lo ≤ F ∧ F < hi) ∧ (g < lo ∨ hi ≤ g)) ∧ (W.heap.size ≤ g ∧ g < w1.heap.size ∧ ∀ i, w1.frozen? ⟨g, i, none⟩ = false) ∧ IsVs w1 (some ⟨g, 0, none⟩) n n (List.replicate n z3) ∧ w' = setL w1 br 0 (ml B' (some ⟨g, 0, none⟩) n n)
theorem gmo_of {lo hi lo' hi' F g n : Nat} {w : World} {B : Bd} (h : GB lo hi w B F) (hF : lo ≤ F ∧ F < hi) (h1 : lo' ≤ lo) (h2 : hi ≤ hi') (hg : g < lo ∨ hi ≤ g) (g1 : lo' ≤ g) (g2 : g < hi') (ho : Own lo' hi' w g 0 (n * 3)) : GMo lo' hi' w B F (some ⟨g, 0, none⟩) n := by
  refine ⟨h.wide h1 h2, .inr ⟨g, rfl, ho⟩, fun X e => ?_⟩
  cases e
  have lb := h.lb
  refine ⟨by omega, fun e => ?_, fun e => ?_, fun e => ?_, fun e => ?_⟩
  · obtain ⟨y, ey, y1, y2⟩ := lb.1 _ e; cases ey; omega
  · obtain ⟨y, ey, y1, y2, _⟩ := lb.2.1 _ e; cases ey; omega
  · obtain ⟨y, ey, y1, y2⟩ := lb.2.2.1 _ e; cases ey; omega
  · obtain ⟨y, ey, y1, y2⟩ := lb.2.2.2 _ e; cases ey; omega
set_option maxHeartbeats 4000000 in
theorem impl_StillMotion (B : Bd) (c : Bc) (w : World) (h : IsB w B c) :
    Calls Try.prog 40 #[B.v] w fun e w' => (∃ (B' : Bd) (F : Nat) (va : Option Addr), e = .returned (.tuple #[mv B' va (stiV c).length (stiV c).length, .bool (bodyB c)]) ∧ IsB w' B' (stiC c) ∧ IsVs w' va (stiV c).length (stiV c).length (stiV c) ∧ GMo w.heap.size w'.heap.size w' B' F va (stiV c).length) ∧ Below w.heap.size w w' := by
  have ui := Try.underlying67
  have uib := Try.underlying36
  have uim := Try.underlying29
  have T0 : Hid (Tc w w.heap.size (w.heap.size + 1) B.l Z10 ((w.alloc (BoxB B 36)).alloc (.cells #[.slice none 0 0, .slice none 0 0, .slice none 0 0, .float .f32 0, .float .f32 0, .slice none 0 0, .float .f32 0, .float .f32 0, .float .f32 0, .slice none 0 0] 67))) := Lib.hid
    ⟨At.new.alloc, by
      have := At.new (w := w.alloc (BoxB B 36)) (vs := Z10) (t := 67)
      simpa using this, fun i => by go_simp, fun i => by go_simp, ((Below.refl _ _).alloc (Nat.le_refl _) _).alloc (by simp) _, ⟨Nat.le_refl _, by omega, by omega⟩, by simp <;> omega⟩
  have H := Lib.hid h
  have LN := Lib.hid h.lens
  have J := Lib.hid (impl_ValidBody B c _ (h.below T0.out.bel))
  unfold stiC stiV
  cases hv : bodyB c
  · rw [hv] at J
    clear hv h
    go_enter Try.func40, Try.ntmps40
    go_wp2_with fail
    change Calls _ _ _ ((w.alloc (BoxB B 36)).alloc (.cells #[.slice none 0 0, .slice none 0 0, .slice none 0 0, .float .f32 0, .float .f32 0, .slice none 0 0, .float .f32 0, .float .f32 0, .float .f32 0, .slice none 0 0] 67)) _
    generalize ((w.alloc (BoxB B 36)).alloc (.cells #[.slice none 0 0, .slice none 0 0, .slice none 0 0, .float .f32 0, .float .f32 0, .slice none 0 0, .float .f32 0, .float .f32 0, .float .f32 0, .slice none 0 0] 67)) = W at *
    refine J.out.mono ?_
    rintro e w2 ⟨rfl, hB1⟩
    have T2 := Lib.hid (T0.out.call hB1)
    clear hB1
    have q0 := T2.out.res 0 _ rfl
    have p0 := T2.out.fr 0
    have q1 := T2.out.res 1 _ rfl
    have p1 := T2.out.fr 1
    have q2 := T2.out.res 2 _ rfl
    have p2 := T2.out.fr 2
    have q3 := T2.out.res 3 _ rfl
    have p3 := T2.out.fr 3
    have q4 := T2.out.res 4 _ rfl
    have p4 := T2.out.fr 4
    have q5 := T2.out.res 5 _ rfl
    have p5 := T2.out.fr 5
    have q6 := T2.out.res 6 _ rfl
    have p6 := T2.out.fr 6
    have q7 := T2.out.res 7 _ rfl
    have p7 := T2.out.fr 7
    have q8 := T2.out.res 8 _ rfl
    have p8 := T2.out.fr 8
    have q9 := T2.out.res 9 _ rfl
    have p9 := T2.out.fr 9
    obtain ⟨hR, hBB⟩ := T2.out.fin (vs' := ml nilB none 0 0) rfl
    simp only [setL, nilB, Nat.zero_add, Nat.reduceAdd] at hR hBB
    have HR := Lib.hid hR
    have HBB := Lib.hid hBB
    clear hR hBB
    go_wp2
    clear q0 q1 q2 q3 q4 q5 q6 q7 q8 q9 p0 p1 p2 p3 p4 p5 p6 p7 p8 p9
    have m0 := HR.out 0 _ rfl
    have m1 := HR.out 1 _ rfl
    have m2 := HR.out 2 _ rfl
    have m3 := HR.out 3 _ rfl
    have m4 := HR.out 4 _ rfl
    have m5 := HR.out 5 _ rfl
    have m6 := HR.out 6 _ rfl
    have m7 := HR.out 7 _ rfl
    have m8 := HR.out 8 _ rfl
    have m9 := HR.out 9 _ rfl
    refine bodyPost_ret (v := .tuple #[mv nilB none 0 0, .bool false]) (by simp [results, Try.results40, go_sem, nilB, m0, m1, m2, m3, m4, m5, m6, m7, m8, m9]) rfl ?_
    exact ⟨⟨nilB, 0, none, rfl, nil_isb _, nil_vs _, nil_gb _ _ _ _, .inl ⟨rfl, rfl⟩, fun X e => by cases e⟩, HBB.out⟩
  · rw [hv] at J
    obtain ⟨q1, q2, q3, q4, q5⟩ := body_sizes hv
    have H3 := Lib.hid (fun k (hk : k < B.tl) => q5 k (by rw [LN.out.2.1]; exact hk))
    have hpl : B.pl ≤ 64 := by rw [← LN.out.1]; exact q1
    have htl : B.tl ≤ 128 := by rw [← LN.out.2.1]; exact q2
    have hsl : B.sl ≤ 200 := by rw [← LN.out.2.2.1]; exact q3
    have hwl : B.wl ≤ 64 := by rw [← LN.out.2.2.2]; exact q4
    clear hv h q5
    show Calls _ _ _ _ (fun e w' => (∃ (B' : Bd) (F : Nat) (va : Option Addr), e = .returned (.tuple #[mv B' va (List.replicate c.cs.length z3).length (List.replicate c.cs.length z3).length, .bool true]) ∧ IsB w' B' c ∧ IsVs w' va (List.replicate c.cs.length z3).length (List.replicate c.cs.length z3).length (List.replicate c.cs.length z3) ∧ GMo w.heap.size w'.heap.size w' B' F va (List.replicate c.cs.length z3).length) ∧ Below w.heap.size w w')
    rw [List.length_replicate, LN.out.1]
    go_enter Try.func40, Try.ntmps40
    go_wp2_with fail
    change Calls _ _ _ ((w.alloc (BoxB B 36)).alloc (.cells #[.slice none 0 0, .slice none 0 0, .slice none 0 0, .float .f32 0, .float .f32 0, .slice none 0 0, .float .f32 0, .float .f32 0, .float .f32 0, .slice none 0 0] 67)) _
    generalize ((w.alloc (BoxB B 36)).alloc (.cells #[.slice none 0 0, .slice none 0 0, .slice none 0 0, .float .f32 0, .float .f32 0, .slice none 0 0, .float .f32 0, .float .f32 0, .float .f32 0, .slice none 0 0] 67)) = W at *
    refine J.out.mono ?_
    rintro e w1 ⟨rfl, hB0⟩
    have T1 := Lib.hid (T0.out.call hB0)
    clear hB0
    go_wp2_with fail
    refine Reg7.wp_region_mix (s := 11) (C := fun a w' => CI w1 a w') (D := fun _ w' => SI w1 c B.pl (w.heap.size + 1) w') (G := fun w1 w2 => Below w1.heap.size w1 w2)
      (Rv := fun i v => match i with | 0 => v = B.v | 1 => v = .pointer (some ⟨w.heap.size, 0, none⟩) | 2 => v = .pointer (some ⟨w.heap.size, 0, none⟩) | 3 => v = .slice B.pa B.pl B.pc | 5 => v = .pointer (some ⟨w.heap.size, 0, none⟩) | 6 => v = .pointer (some ⟨w.heap.size, 0, none⟩) | 7 => v = .slice B.pa B.pl B.pc | 8 => v = .int .i64 B.pl | 12 => v = .bool true | _ => True)
      (Rw := fun i v w' => match i with
        | 4 => ∃ B' : Bd, v = B'.v ∧ IsB w' B' c
        | 9 => ∃ g, v = .slice (some ⟨g, 0, none⟩) B.pl B.pl ∧ g < w'.heap.size ∧ IsVs w' (some ⟨g, 0, none⟩) B.pl B.pl (List.replicate B.pl z3) ∧ ∀ i, w'.frozen? ⟨g, i, none⟩ = false
        | 10 => ∃ (B' : Bd) (g lo hi F : Nat), v = mv B' (some ⟨g, 0, none⟩) B.pl B.pl ∧ IsB w' B' c ∧ (w1.heap.size ≤ lo ∧ hi ≤ w'.heap.size ∧ GB lo hi w' B' F ∧ (lo ≤ F ∧ F < hi) ∧ (g < lo ∨ hi ≤ g)) ∧ (w1.heap.size ≤ g ∧ g < w'.heap.size ∧ ∀ i, w'.frozen? ⟨g, i, none⟩ = false) ∧ IsVs w' (some ⟨g, 0, none⟩) B.pl B.pl (List.replicate B.pl z3)
        | _ => True) [false, false, false, true, false, false, false, false, true, true, true, true, true, true, true, true, true, true, true]
      (by kernel_rfl) (by kernel_rfl) (by kernel_rfl) ?_ ⟨below_drewN (Below.refl _ _) 1, fun B' e => absurd e (undef_bd _), fun g n k e => absurd e (undef_sl _ _ _)⟩ ?_ ?_
    · intro a j v w1 w2 hC hG hR
      match j with
      | 0 => trivial
      | 1 => trivial
      | 2 => trivial
      | 3 => trivial
      | 4 => obtain ⟨B', e, h1⟩ := hR; exact ⟨B', e, h1.below hG⟩
      | 5 => trivial
      | 6 => trivial
      | 7 => trivial
      | 8 => trivial
      | 9 => obtain ⟨g, e, h1, h2, h3⟩ := hR; exact ⟨g, e, Nat.lt_of_lt_of_le h1 hG.size, h2.below hG, fun i => by rw [hG.frozen (p := ⟨g, i, none⟩) h1]; exact h3 i⟩
      | 10 =>
        obtain ⟨B', g, lo, hi, F, e, k1, ⟨k2, k3, k4, k5, k6⟩, ⟨k7, k8, k9⟩, k10⟩ := hR
        exact ⟨B', g, lo, hi, F, e, k1.below hG, ⟨k2, Nat.le_trans k3 hG.size, k4.below hG, k5, k6⟩, ⟨k7, Nat.lt_of_lt_of_le k8 hG.size, fun i => by rw [hG.frozen (p := ⟨g, i, none⟩) k8]; exact k9 i⟩, k10.below hG⟩
      | 11 => trivial
      | 12 => trivial
      | _ + 13 => trivial
    · refine ⟨?_, ?_, ?_, ?_, ?_, ?_, ?_, ?_, ?_, ?_, ?_, ?_, ?_, trivial⟩
      · refine Reg7.Obl.early rfl (by kernel_rfl) ?_
        rintro a wq hC hx hd K hK
        have HC := Lib.hid hC
        clear hC
        have t1 : a.tmps[1]?.getD undef = .pointer (some ⟨w.heap.size, 0, none⟩) := Reg.slot_val (hx 1 (by kernel_rfl))
        have y0 := (T1.out.call HC.out.1).out 0 _ rfl
        have y1 := (T1.out.call HC.out.1).out 1 _ rfl
        have y2 := (T1.out.call HC.out.1).out 2 _ rfl
        have y3 := (T1.out.call HC.out.1).out 3 _ rfl
        have y4 := (T1.out.call HC.out.1).out 4 _ rfl
        have y5 := (T1.out.call HC.out.1).out 5 _ rfl
        have y6 := (T1.out.call HC.out.1).out 6 _ rfl
        have y7 := (T1.out.call HC.out.1).out 7 _ rfl
        have y8 := (T1.out.call HC.out.1).out 8 _ rfl
        go_simp
        exact hK _ _ rfl trivial (HC.out.step (by decide) (by decide) (Below.refl _ _)) (Below.refl _ _)
      · refine Reg7.Obl.early rfl (by kernel_rfl) ?_
        rintro a wq hC hx hd K hK
        have HC := Lib.hid hC
        clear hC
        have t1 : a.tmps[1]?.getD undef = .pointer (some ⟨w.heap.size, 0, none⟩) := Reg.slot_val (hx 1 (by kernel_rfl))
        go_simp
        exact hK _ _ rfl trivial (HC.out.step (by decide) (by decide) (Below.refl _ _)) (Below.refl _ _)
      · refine Reg7.Obl.early rfl (by kernel_rfl) ?_
        rintro a wq hC hx hd K hK
        have HC := Lib.hid hC
        clear hC
        have t9 : a.tmps[9]?.getD undef = .pointer (some ⟨w.heap.size, 0, none⟩) := Reg.slot_val (hd 1 9 (by kernel_rfl) rfl).1
        go_simp
        exact hK _ _ rfl trivial (HC.out.step (by decide) (by decide) (Below.refl _ _)) (Below.refl _ _)
      · refine Reg7.Obl.early rfl (by kernel_rfl) ?_
        rintro a wq hC hx hd K hK
        have HC := Lib.hid hC
        clear hC
        have t10 : a.tmps[10]?.getD undef = .pointer (some ⟨w.heap.size, 0, none⟩) := Reg.slot_val (hd 2 10 (by kernel_rfl) rfl).1
        have y0 := (T1.out.call HC.out.1).out 0 _ rfl
        go_simp
        exact hK _ _ rfl trivial (HC.out.step (by decide) (by decide) (Below.refl _ _)) (Below.refl _ _)
      · refine Reg7.Obl.early rfl (by kernel_rfl) ?_
        rintro a wq hC hx hd K hK
        have HC := Lib.hid hC
        clear hC
        have t8 : a.tmps[8]?.getD undef = B.v := Reg.slot_val (hd 0 8 (by kernel_rfl) rfl).1
        have t11 : a.tmps[11]?.getD undef = .slice B.pa B.pl B.pc := Reg.slot_val (hd 3 11 (by kernel_rfl) rfl).1
        go_simp
        refine (impl_placed' B c B.pa B.pl B.pc c.cs wq (H.out.below (T1.out.call HC.out.1).bel) (H.out.1.below (T1.out.call HC.out.1).bel) (by omega) H3.out htl (by omega) (by omega)).mono ?_
        rintro en w2 ⟨B', F, rfl, hI, hG, hF, hB2⟩
        exact hK _ _ trivial ⟨B', rfl, hI⟩ (HC.out.body hB2 hG hF) hB2
      · refine Reg7.Obl.early rfl (by kernel_rfl) ?_
        rintro a wq hC hx hd K hK
        have HC := Lib.hid hC
        clear hC
        have t1 : a.tmps[1]?.getD undef = .pointer (some ⟨w.heap.size, 0, none⟩) := Reg.slot_val (hx 1 (by kernel_rfl))
        go_simp
        exact hK _ _ rfl trivial (HC.out.step (by decide) (by decide) (Below.refl _ _)) (Below.refl _ _)
      · refine Reg7.Obl.early rfl (by kernel_rfl) ?_
        rintro a wq hC hx hd K hK
        have HC := Lib.hid hC
        clear hC
        have t13 : a.tmps[13]?.getD undef = .pointer (some ⟨w.heap.size, 0, none⟩) := Reg.slot_val (hd 5 13 (by kernel_rfl) rfl).1
        go_simp
        exact hK _ _ rfl trivial (HC.out.step (by decide) (by decide) (Below.refl _ _)) (Below.refl _ _)
      · refine Reg7.Obl.early rfl (by kernel_rfl) ?_
        rintro a wq hC hx hd K hK
        have HC := Lib.hid hC
        clear hC
        have t14 : a.tmps[14]?.getD undef = .pointer (some ⟨w.heap.size, 0, none⟩) := Reg.slot_val (hd 6 14 (by kernel_rfl) rfl).1
        have y0 := (T1.out.call HC.out.1).out 0 _ rfl
        go_simp
        exact hK _ _ rfl trivial (HC.out.step (by decide) (by decide) (Below.refl _ _)) (Below.refl _ _)
      · refine Reg7.Obl.early rfl (by kernel_rfl) ?_
        rintro a wq hC hx hd K hK
        have HC := Lib.hid hC
        clear hC
        have t15 : a.tmps[15]?.getD undef = .slice B.pa B.pl B.pc := Reg.slot_val (hd 7 15 (by kernel_rfl) rfl).1
        go_simp
        exact hK _ _ rfl trivial (HC.out.step (by decide) (by decide) (Below.refl _ _)) (Below.refl _ _)
      · refine Reg7.Obl.early rfl (by kernel_rfl) ?_
        rintro a wq hC hx hd K hK
        have HC := Lib.hid hC
        clear hC
        have t16 : a.tmps[16]?.getD undef = .int .i64 B.pl := Reg.slot_val (hd 8 16 (by kernel_rfl) rfl).1
        have hmk := make_vecs wq B.pl (by omega)
        have HZ := Lib.hid (zeros_vs wq B.pl (by omega))
        go_simp
        exact hK _ _ trivial ⟨_, rfl, by simp, HZ.out.1, HZ.out.2⟩ (HC.out.list ((Below.refl _ _).alloc (Nat.le_refl _) _) (by simp)) ((Below.refl _ _).alloc (Nat.le_refl _) _)
      · refine Reg7.Obl.early rfl (by kernel_rfl) ?_
        rintro a wq hC hx hd K hK
        have HC := Lib.hid hC
        clear hC
        obtain ⟨B', g12, b1⟩ := (hd 4 12 (by kernel_rfl) rfl).2
        have t12 := Reg.slot_val g12
        obtain ⟨g, g17, v1, v2, v3⟩ := (hd 9 17 (by kernel_rfl) rfl).2
        have t17 := Reg.slot_val g17
        obtain ⟨lo, hi, F, k1, k2, k3, k4, k5⟩ := HC.out.2.1 B' g12
        have HZ := Lib.hid (And.intro b1 (And.intro (And.intro k1 (And.intro k2 (And.intro k3 (And.intro k4 (k5 g _ _ g17))))) (And.intro (And.intro (HC.out.2.2 g _ _ g17).1 (And.intro v1 v3)) v2)))
        clear g12 b1 g17 v1 v2 v3 k1 k2 k3 k4 k5
        go_simp
        exact hK _ _ trivial ⟨B', g, lo, hi, F, rfl, HZ.out.1, HZ.out.2.1, HZ.out.2.2.1, HZ.out.2.2.2⟩ (HC.out.step (by decide) (by decide) (Below.refl _ _)) (Below.refl _ _)
      · refine Reg7.Obl.store rfl ?_
        rintro a wq hC hx hd K hK
        have HC := Lib.hid hC
        clear hC
        have t2 : a.tmps[2]?.getD undef = .pointer (some ⟨w.heap.size + 1, 0, none⟩) := Reg.slot_val (hx 2 (by kernel_rfl))
        obtain ⟨B', g, lo, hi, F, g18, k1, k2, k3, k4⟩ := (hd 10 18 (by kernel_rfl) rfl).2
        have t18 := Reg.slot_val g18
        have HS : Hid (SI w1 c B.pl (w.heap.size + 1) (setL wq (w.heap.size + 1) 0 (ml B' (some ⟨g, 0, none⟩) B.pl B.pl))) := Lib.hid ⟨wq, B', g, lo, hi, F, HC.out.1, k1, k2, k3, k4, rfl⟩
        have TT := T1.out.call HC.out.1
        have y0 := TT.res 0 _ rfl
        have y1 := TT.res 1 _ rfl
        have y2 := TT.res 2 _ rfl
        have y3 := TT.res 3 _ rfl
        have y4 := TT.res 4 _ rfl
        have y5 := TT.res 5 _ rfl
        have y6 := TT.res 6 _ rfl
        have y7 := TT.res 7 _ rfl
        have y8 := TT.res 8 _ rfl
        have y9 := TT.res 9 _ rfl
        have f0 := TT.fr 0
        have f1 := TT.fr 1
        have f2 := TT.fr 2
        have f3 := TT.fr 3
        have f4 := TT.fr 4
        have f5 := TT.fr 5
        have f6 := TT.fr 6
        have f7 := TT.fr 7
        have f8 := TT.fr 8
        have f9 := TT.fr 9
        clear g18 k1 k2 k3 k4 TT
        go_simp
        exact hK _ HS.out
      · refine Reg7.Obl.late rfl (by kernel_rfl) ?_
        rintro a wq hx hd K hK
        go_simp
        exact hK _ rfl (fun w hC => hC.step (by decide) (by decide) (Below.refl _ _)) (fun w hD => hD)
    rintro f w2 hD hd
    obtain ⟨wf, B', g, lo, hi, F, hB1, hI, ⟨k1, k2, k3, k4, k5⟩, ⟨g1, g2, g3⟩, hV, rfl⟩ := hD
    have f3 : f 3 = .bool true := hd 12 3 rfl
    simp only [Reg.mixL, f3]
    have hlt := T1.out.lt
    have T2 := Lib.hid (T1.out.call hB1)
    obtain ⟨hR, hBB⟩ := T2.out.fin (vs' := ml B' (some ⟨g, 0, none⟩) B.pl B.pl) rfl
    have hA := Agree.setL (Sy.res (bo := w.heap.size) (br := w.heap.size + 1)) (ml B' (some ⟨g, 0, none⟩) B.pl B.pl) wf 0 (Agree.refl (Sy w.heap.size (w.heap.size + 1)) wf)
    have hs : ∀ q, w1.heap.size ≤ q → q < wf.heap.size → Sy w.heap.size (w.heap.size + 1) q := Sy.new hlt.1 hlt.2
    have hs' : ∀ q, lo ≤ q → q < hi → Sy w.heap.size (w.heap.size + 1) q := fun q h1 h2 => hs q (by omega) (by omega)
    have hb0 := T1.out.bel.size
    have hOV := own_vs hV (Nat.le_refl g) g2 g3
    have hsg : ∀ q, g ≤ q → q < wf.heap.size → Sy w.heap.size (w.heap.size + 1) q := fun q h1 h2 => hs q (by omega) h2
    have z2 := hA.size
    have M := Lib.hid (And.intro (hI.agree k3.lb hs' hA) (And.intro (vs_agree hV (fun x hx => by cases hx; exact ⟨g, rfl, g1, g2⟩) hs hA) (And.intro (gmo_of (k3.agree hs' hA) k4 (show w.heap.size ≤ lo by omega) (show hi ≤ (setL wf (w.heap.size + 1) 0 (ml B' (some ⟨g, 0, none⟩) B.pl B.pl)).heap.size by omega) k5 (by omega) (by omega) ((hOV.agree hsg hA).widen (by omega) z2)) hBB)))
    have HR := Lib.hid hR
    clear hR hBB hA hs hs' hsg hI hV k1 k2 k3 k4 k5 g1 g2 g3 hB1 hd hOV z2
    generalize (setL wf (w.heap.size + 1) 0 (ml B' (some ⟨g, 0, none⟩) B.pl B.pl)) = W2 at *
    have m0 := HR.out 0 _ rfl
    have m1 := HR.out 1 _ rfl
    have m2 := HR.out 2 _ rfl
    have m3 := HR.out 3 _ rfl
    have m4 := HR.out 4 _ rfl
    have m5 := HR.out 5 _ rfl
    have m6 := HR.out 6 _ rfl
    have m7 := HR.out 7 _ rfl
    have m8 := HR.out 8 _ rfl
    have m9 := HR.out 9 _ rfl
    go_wp2
    refine bodyPost_ret (v := .tuple #[mv B' (some ⟨g, 0, none⟩) B.pl B.pl, .bool true]) (by simp [results, Try.results40, go_sem, m0, m1, m2, m3, m4, m5, m6, m7, m8, m9]) rfl ?_
    exact ⟨⟨B', F, some ⟨g, 0, none⟩, rfl, M.out.1, M.out.2.1, M.out.2.2.1⟩, M.out.2.2.2⟩
end Go.Proofs.Ytmbekamnogbgaaa


/-
A mesh that comes in as an argument. Conditions: none.
-/
namespace Go.Proofs.Ytmbekamnogbgaaa
namespace Fk
open Go Go.RowKit
set_option linter.unusedVariables false
section
open Go.ChangeShapes Go.WideShapes Go.Deep
variable {H : Type} {enc : TypeId × Value → H} {P : Program} {w : World} {base : Nat} {held : Bool}
/-- A mesh that came in. -/
theorem open_mesh {r : Reach} {b0 : Nat} {t : TypeId} {g0 g1 : Field} {ev eq : TypeId} {f0 f1 f2 : Field} {er : TypeId} {v : Value} {d : DataW H} {p : List MemPlace} (hs : P.underlying t = some (.struct #[g0, g1])) (hone : oneCellFields P #[g0, g1] = true) (hC : P.cellsOf t = 2)
    (hp : P.underlying g0.type = some (.slice ev)) (hev : P.underlying ev = some (.struct #[f0, f1, f2])) (honev : oneCellFields P #[f0, f1, f2] = true) (hCv : P.cellsOf ev = 3)
    (he0 : P.underlying f0.type = some (.float .f32)) (he1 : P.underlying f1.type = some (.float .f32)) (he2 : P.underlying f2.type = some (.float .f32))
    (ht : P.underlying g1.type = some (.slice er)) (her : P.underlying er = some (.slice eq)) (heq : P.underlying eq = some (.int .i64)) (ce : P.cellsOf er = 1) (cq : P.cellsOf eq = 1)
    (hv : Value.okWide P w r b0 t v) (h : DataW.Trod enc P w base (fun _ => true) held t v d p) :
    ∃ pa ta pl pc tl tc cs ts, v = .agg #[.slice pa pl pc, .slice ta tl tc] ∧ IsVs w pa pl pc cs ∧ IsTs w ta tl tc ts := by
  obtain ⟨v0, v1, y0, y1, n, rfl, _, _, h0, h1⟩ := Joins.open_agg2 hs hone hC hv h
  obtain ⟨pa, pl, pc, cs, e0, w0⟩ := trod_vecs hp hev honev hCv he0 he1 he2 h0
  obtain ⟨ta, tl, tc, ts, e1, w1⟩ := trod_rows ht her heq ce cq h1
  cases e0; cases e1
  exact ⟨pa, ta, pl, pc, tl, tc, cs, ts, rfl, w0, w1⟩
end
end Fk
end Go.Proofs.Ytmbekamnogbgaaa


/-
The law of bare bodies returns true: its walk. Conditions: none beyond that the mesh lies in memory.
-/
namespace Go.Proofs.Ytmbekamnogbgaaa
open Go Fk Go.RowKit
set_option linter.unusedVariables false
set_option maxRecDepth 16000

/-- Boxes outside what is marked stay. -/
theorem Bx.away {w w1 w2 : World} {L : List (Nat × List Value)} {lo hi : Nat} (h : Bx w L w1) (hM : Mark lo hi w1 w2) (hl : w.heap.size ≤ lo) (ho : ∀ b l, (b, l) ∈ L → b < lo ∨ hi ≤ b) : Bx w L w2 :=
  ⟨h.1.trans (hM.below.mono hl), fun b l hm => ⟨fun i v hv => hM.cell (ho b l hm) ((h.2 b l hm).1 i v hv), fun i => by rw [hM.frozen _ _ (h.2 b l hm).2.2.1]; exact (h.2 b l hm).2.1 i, Nat.lt_of_lt_of_le (h.2 b l hm).2.2.1 hM.below.size, (h.2 b l hm).2.2.2⟩⟩
theorem Bx.lt {w w' : World} {L : List (Nat × List Value)} {b : Nat} {l : List Value} (h : Bx w L w') (hm : (b, l) ∈ L) : b < w'.heap.size := (h.2 b l hm).2.2.1
set_option maxHeartbeats 4000000 in
theorem FnExactBareBody_law (pa ta : Option Addr) (pl pc tl tc : Nat) (cs : List C3) (ts : List (List Int)) (w : World) (hp : IsVs w pa pl pc cs) (ht : IsTs w ta tl tc ts) :
    Calls Try.prog 3 #[.agg #[.slice pa pl pc, .slice ta tl tc]] w fun e w' => e = .returned (.bool true) ∧ Below w.heap.size w w' := by
  have ulm := Try.underlying25
  have uim := Try.underlying29
  have uib := Try.underlying36
  have HPL := Lib.hid hp.1
  have HTL := Lib.hid ht.1
  have HP := Lib.hid hp
  have HT := Lib.hid ht
  have BX : Hid (Bx w [(w.heap.size, [.slice pa pl pc, .slice ta tl tc])] (w.alloc (.cells #[.slice pa pl pc, .slice ta tl tc] 25))) := Lib.hid ((Bx.nil w).box (vs := [.slice pa pl pc, .slice ta tl tc]) (t := 25))
  clear hp ht
  have HSP := Lib.hid (fun (pa ta : Option Addr) (pc tc : Nat) (w : World) (hp : IsVs w pa pl pc cs) (ht : IsTs w ta tl tc ts) => spec_BareBody pa ta pl pc tl tc cs ts w hp ht)
  have HIM := Lib.hid (fun (pa ta : Option Addr) (pc tc : Nat) (w : World) (hp : IsVs w pa pl pc cs) (ht : IsTs w ta tl tc ts) => impl_BareBody pa ta pl pc tl tc cs ts w hp ht)
  obtain ⟨len1, len2, len3, len4, len5⟩ := bar_len cs ts
  generalize barO cs ts = bc at *
  generalize validB cs ts = ok at *
  have HSB : Hid (SmallB bc) := Lib.hid ⟨⟨by omega, by omega, len5⟩, by omega, by omega⟩
  have LEN := Lib.hid (And.intro len1 (And.intro len2 (And.intro len3 len4)))
  clear len1 len2 len3 len4 len5
  have hvb : (ok == ok) = true := by cases ok <;> rfl
  have hvb' : (ok != ok) = false := by cases ok <;> rfl
  go_enter Try.func3, Try.ntmps3
  go_wp2_with fail
  generalize (w.alloc (.cells #[.slice pa pl pc, .slice ta tl tc] 25)) = W at *
  refine (laws_szMesh _ _ _ _ _ _ _ _ 1048576 _ (HP.out.below BX.out.bel) (HT.out.below BX.out.bel) (by decide) (by decide)).mono ?_
  rintro e w1 ⟨⟨r, rfl, hr⟩, hB1⟩
  have BX1 := Lib.hid (BX.out.call hB1)
  clear hB1
  rcases hr with rfl | ⟨hr0, s1, s2, s3⟩
  · go_wp2
    go_ret
    exact ⟨rfl, BX1.out.bel⟩
  have hS : Small cs ts := ⟨by rw [HPL.out]; exact s1, by rw [HTL.out]; exact s2, by rw [HTL.out]; exact s3⟩
  have HS := Lib.hid hS
  clear s1 s2 s3 hS
  have a0 := (BX1.out.mem (.head _)) 0 _ rfl
  have a1 := (BX1.out.mem (.head _)) 1 _ rfl
  go_wp2_with fail
  clear a0 a1
  refine (laws_toMesh _ _ _ _ _ _ _ _ _ (HP.out.below BX1.out.bel) (HT.out.below BX1.out.bel) HS.out).mono ?_
  rintro e w2 ⟨⟨b, b', rfl, hb1, hb', hV2, hT2⟩, hB2⟩
  have BX2 := Lib.hid (BX1.out.call hB2)
  have HV2 := Lib.hid hV2
  have HT2 := Lib.hid hT2
  clear hB2 hV2 hT2 hb1 hb'
  go_wp2_with fail
  refine (HSP.out _ _ _ _ _ HV2.out HT2.out).mono ?_
  rintro e w3 ⟨⟨B1, rfl, hI1, hL1⟩, hB3⟩
  have BX3 := Lib.hid (BX2.out.call hB3)
  have hX3 : Below w3.heap.size w3 (w3.alloc (BoxB B1 36)) := (Below.refl _ _).alloc (Nat.le_refl _) _
  have BX4 : Hid (Bx w [(w3.heap.size, B1.l), (w.heap.size, [.slice pa pl pc, .slice ta tl tc])] (w3.alloc (BoxB B1 36))) := Lib.hid (BX3.out.box (vs := B1.l) (t := 36))
  have I1 := Lib.hid (And.intro (hI1.below hX3) (hL1.agree (S := fun _ => True) (fun _ _ _ => trivial) (Agree.of_below hX3)))
  have a0 := fun (ob : Obj) => cell_alloc (o := ob) ((BX3.out.mem (.head _)) 0 _ rfl)
  have a1 := fun (ob : Obj) => cell_alloc (o := ob) ((BX3.out.mem (.head _)) 1 _ rfl)
  have Z1 : Hid (w2.heap.size ≤ w3.heap.size ∧ (w3.alloc (BoxB B1 36)).heap.size = w3.heap.size + 1 ∧ w.heap.size ≤ w2.heap.size) := Lib.hid ⟨hB3.size, by simp, BX2.out.bel.size⟩
  clear hB3 hI1 hL1 hX3
  go_wp2_with fail
  clear a0 a1
  change Calls _ _ _ (w3.alloc (BoxB B1 36)) _
  generalize (w3.alloc (BoxB B1 36)) = W3 at *
  generalize w3.heap.size = S at *
  refine (laws_toMesh' _ _ _ _ _ _ _ _ _ (HP.out.below BX4.out.bel) (HT.out.below BX4.out.bel) HS.out).mono ?_
  rintro e w4 ⟨⟨c, c', rfl, hc, hc', hV4, hT4, hi4, hi4', hO4⟩, hB4⟩
  have BX5 := Lib.hid (BX4.out.call hB4)
  have hX4 : Below w4.heap.size w4 (w4.alloc (.cells #[.slice (some ⟨c, 0, none⟩) pl pl, .slice (some ⟨c', 0, none⟩) tl tl] 29)) := (Below.refl _ _).alloc (Nat.le_refl _) _
  have BX6 : Hid (Bx w [(w4.heap.size, [.slice (some ⟨c, 0, none⟩) pl pl, .slice (some ⟨c', 0, none⟩) tl tl]), (S, B1.l), (w.heap.size, [.slice pa pl pc, .slice ta tl tc])] (w4.alloc (.cells #[.slice (some ⟨c, 0, none⟩) pl pl, .slice (some ⟨c', 0, none⟩) tl tl] 29))) := Lib.hid (BX5.out.box (vs := [.slice (some ⟨c, 0, none⟩) pl pl, .slice (some ⟨c', 0, none⟩) tl tl]) (t := 29))
  have hB46 := hB4.trans (hX4.mono hB4.size)
  have I4 := Lib.hid (And.intro (I1.out.1.below hB46) (I1.out.2.agree (S := fun _ => True) (fun _ _ _ => trivial) (Agree.of_below hB46)))
  have M4 := Lib.hid (And.intro (hV4.below hX4) (And.intro (hT4.below hX4) (hO4.below hX4)))
  have Z4 : Hid (W3.heap.size ≤ w4.heap.size ∧ (w4.alloc (.cells #[.slice (some ⟨c, 0, none⟩) pl pl, .slice (some ⟨c', 0, none⟩) tl tl] 29)).heap.size = w4.heap.size + 1 ∧ hi4 ≤ w4.heap.size) := Lib.hid ⟨hB4.size, by simp, hi4'⟩
  clear hV4 hT4 hc hc' hO4 hi4' hB4 hX4 hB46
  go_wp2_with fail
  generalize (w4.alloc (.cells #[.slice (some ⟨c, 0, none⟩) pl pl, .slice (some ⟨c', 0, none⟩) tl tl] 29)) = W4 at *
  generalize w4.heap.size = X at *
  refine (HIM.out _ _ _ _ _ M4.out.1 M4.out.2.1).mono ?_
  rintro e w5 ⟨⟨B2, F, rfl, hI2, hG2⟩, hB5⟩
  have BX7 := Lib.hid (BX6.out.call hB5)
  have hX5 : Below w5.heap.size w5 (w5.alloc (BoxB B2 36)) := (Below.refl _ _).alloc (Nat.le_refl _) _
  have hB57 := hB5.trans (hX5.mono hB5.size)
  have BX8 : Hid (Bx w [(w5.heap.size, B2.l), (X, [.slice (some ⟨c, 0, none⟩) pl pl, .slice (some ⟨c', 0, none⟩) tl tl]), (S, B1.l), (w.heap.size, [.slice pa pl pc, .slice ta tl tc])] (w5.alloc (BoxB B2 36))) := Lib.hid (BX7.out.box (vs := B2.l) (t := 36))
  have I5 := Lib.hid (And.intro (I4.out.1.below hB57) (I4.out.2.agree (S := fun _ => True) (fun _ _ _ => trivial) (Agree.of_below hB57)))
  have M5 := Lib.hid (And.intro (M4.out.1.below hB57) (And.intro (M4.out.2.1.below hB57) (M4.out.2.2.below hB57)))
  have J5 := Lib.hid (And.intro (hI2.below hX5) (hG2.below hX5))
  have Z5 : Hid (W4.heap.size ≤ w5.heap.size ∧ (w5.alloc (BoxB B2 36)).heap.size = w5.heap.size + 1) := Lib.hid ⟨hB5.size, by simp⟩

  have b0 := fun (ob : Obj) => cell_alloc (o := ob) ((BX7.out.mem (.tail _ (.head _))) 0 _ rfl)
  have b1 := fun (ob : Obj) => cell_alloc (o := ob) ((BX7.out.mem (.tail _ (.head _))) 1 _ rfl)
  have b2 := fun (ob : Obj) => cell_alloc (o := ob) ((BX7.out.mem (.tail _ (.head _))) 2 _ rfl)
  have b3 := fun (ob : Obj) => cell_alloc (o := ob) ((BX7.out.mem (.tail _ (.head _))) 3 _ rfl)
  have b4 := fun (ob : Obj) => cell_alloc (o := ob) ((BX7.out.mem (.tail _ (.head _))) 4 _ rfl)
  have b5 := fun (ob : Obj) => cell_alloc (o := ob) ((BX7.out.mem (.tail _ (.head _))) 5 _ rfl)
  have b6 := fun (ob : Obj) => cell_alloc (o := ob) ((BX7.out.mem (.tail _ (.head _))) 6 _ rfl)
  have b7 := fun (ob : Obj) => cell_alloc (o := ob) ((BX7.out.mem (.tail _ (.head _))) 7 _ rfl)
  have b8 := fun (ob : Obj) => cell_alloc (o := ob) ((BX7.out.mem (.tail _ (.head _))) 8 _ rfl)
  clear hB5 hX5 hB57 hI2 hG2
  go_wp2_with fail
  clear b0 b1 b2 b3 b4 b5 b6 b7 b8
  change Calls _ _ _ (w5.alloc (BoxB B2 36)) _
  generalize (w5.alloc (BoxB B2 36)) = W5 at *
  generalize w5.heap.size = G at *
  refine (laws_eqBody B2 B1 bc _ J5.out.1 I5.out.1 HSB.out).mono ?_
  rintro e w6 ⟨rfl, hB6⟩
  have BX9 := Lib.hid (BX8.out.call hB6)
  have I6 := Lib.hid (And.intro (I5.out.1.below hB6) (I5.out.2.agree (S := fun _ => True) (fun _ _ _ => trivial) (Agree.of_below hB6)))
  have M6 := Lib.hid (And.intro (M5.out.1.below hB6) (And.intro (M5.out.2.1.below hB6) (M5.out.2.2.below hB6)))
  have J6 := Lib.hid (And.intro (J5.out.1.below hB6) (J5.out.2.below hB6))
  have Z6 := Lib.hid hB6.size
  clear hB6
  go_wp2_with fail
  refine Reg.wp_region_mix (C := fun w' => Below w6.heap.size w6 w') (G := fun w1 w2 => Below w1.heap.size w1 w2) (R := fun i v w' => match i with | 0 => v = .agg #[.slice (some ⟨c, 0, none⟩) pl pl, .slice (some ⟨c', 0, none⟩) tl tl] | 1 => v = .agg #[.slice pa pl pc, .slice ta tl tc] | 2 => ∃ d d', v = .agg #[.slice (some ⟨d, 0, none⟩) pl pl, .slice (some ⟨d', 0, none⟩) tl tl] ∧ IsVs w' (some ⟨d, 0, none⟩) pl pl cs ∧ IsTs w' (some ⟨d', 0, none⟩) tl tl ts | 3 => v = .bool true | 4 => v = .bool false | _ => True) (T := fun _ _ _ => True) [false, false, false, false, false, false, false, false, false, false, false, false, false, false, false, false, false, false, false, false, false, false, false, false, false, false, false, false, false, false, false, false, false, false, false, false, false, false, false, false, false, true, true, true, true, true, false, false, false, false, false, false, false, false, false, false, false, false, false, false, false, false, false, false, false, false, false, false, false, false, false, false, false, false, false, false, false, false, false, false, false, false, false, false, false, false, false, false, false, false, false, false, false, false, false, false]
    (by kernel_rfl) (by kernel_rfl) (by kernel_rfl) ?_ (below_drewN (Below.refl _ _) 1) ?_ ?_
  · intro j v w1 w2 _ hG hR
    match j with
    | 0 => exact hR
    | 1 => exact hR
    | 2 => obtain ⟨d, d', e, h1, h2⟩ := hR; exact ⟨d, d', e, h1.below hG, h2.below hG⟩
    | 3 => exact hR
    | 4 => exact hR
    | _ + 5 => trivial
  · refine ⟨Reg.Obl.mk ?_, Reg.Obl.mk ?_, Reg.Obl.mk ?_, Reg.Obl.mk ?_, Reg.Obl.mk ?_, trivial⟩
    · rintro a wq hB hx hd K hK
      have HC := Lib.hid hB
      clear hB
      have t6 : a.tmps[6]?.getD undef = .pointer (some ⟨X, 0, none⟩) := Reg.slot_val (hx 6 (by kernel_rfl))
      have y0 := ((BX9.out.call HC.out).mem (.tail _ (.head _))) 0 _ rfl
      have y1 := ((BX9.out.call HC.out).mem (.tail _ (.head _))) 1 _ rfl
      go_simp
      exact hK _ _ (fun _ => rfl) (fun h => by cases h) HC.out (Below.refl _ _)
    · rintro a wq hB hx hd K hK
      have HC := Lib.hid hB
      clear hB
      have t1 : a.tmps[1]?.getD undef = .pointer (some ⟨w.heap.size, 0, none⟩) := Reg.slot_val (hx 1 (by kernel_rfl))
      have y0 := ((BX9.out.call HC.out).mem (.tail _ (.tail _ (.tail _ (.head _))))) 0 _ rfl
      have y1 := ((BX9.out.call HC.out).mem (.tail _ (.tail _ (.tail _ (.head _))))) 1 _ rfl
      go_simp
      exact hK _ _ (fun _ => rfl) (fun h => by cases h) HC.out (Below.refl _ _)
    · rintro a wq hB hx hd K hK
      have HC := Lib.hid hB
      clear hB
      have t42 : a.tmps[42]?.getD undef = .agg #[.slice pa pl pc, .slice ta tl tc] := Reg.slot_val (hd 1 (by kernel_rfl) 42 rfl)
      go_simp
      refine (laws_toMesh _ _ _ _ _ _ _ _ _ (HP.out.below (BX9.out.call HC.out).bel) (HT.out.below (BX9.out.call HC.out).bel) HS.out).mono ?_
      rintro en w2 ⟨⟨d, d', rfl, hd1, hd2, hV, hT⟩, hB2⟩
      exact hK _ _ (fun _ => ⟨d, d', rfl, hV, hT⟩) (fun h => by cases h) (HC.out.trans (hB2.mono HC.out.size)) hB2
    · rintro a wq hB hx hd K hK
      have HC := Lib.hid hB
      clear hB
      have t41 : a.tmps[41]?.getD undef = .agg #[.slice (some ⟨c, 0, none⟩) pl pl, .slice (some ⟨c', 0, none⟩) tl tl] := Reg.slot_val (hd 0 (by kernel_rfl) 41 rfl)
      obtain ⟨e, e', g2, hV, hT⟩ := hd 2 (by kernel_rfl) 43 rfl
      have t43 := Reg.slot_val g2
      clear g2
      have HVe := Lib.hid hV
      have HTe := Lib.hid hT
      clear hV hT
      go_simp
      refine (laws_eqMesh _ _ _ _ _ _ _ _ _ _ cs ts _ (M6.out.1.below HC.out) (M6.out.2.1.below HC.out) HVe.out HTe.out).mono ?_
      rintro en w2 ⟨rfl, hB2⟩
      exact hK _ _ (fun _ => rfl) (fun h => by cases h) (HC.out.trans (hB2.mono HC.out.size)) hB2
    · rintro a wq hB hx hd K hK
      have t44 : a.tmps[44]?.getD undef = .bool true := Reg.slot_val (hd 3 (by kernel_rfl) 44 rfl)
      go_simp
      exact hK _ _ (fun _ => rfl) (fun h => by cases h) hB (Below.refl _ _)
  rintro f wz hBz hd hTT
  have g45 : f 45 = .bool false := hd 4 45 rfl
  simp only [Reg.mixL, g45]
  have BXz := Lib.hid (BX9.out.call hBz)
  have Iz := Lib.hid (And.intro (I6.out.1.below hBz) (I6.out.2.agree (S := fun _ => True) (fun _ _ _ => trivial) (Agree.of_below hBz)))
  have Oz := Lib.hid (M6.out.2.2.below hBz)
  have Jz := Lib.hid (And.intro (J6.out.1.below hBz) (J6.out.2.below hBz))
  have Zz := Lib.hid hBz.size
  clear hBz hd hTT g45
  have z1 := Z1.out
  have z4 := Z4.out
  have z5 := Z5.out
  have z6 := Z6.out
  have zz := Zz.out
  have hSlt : S < W3.heap.size := by omega
  have x0 := (BXz.out.mem (.tail _ (.head _))) 0 _ rfl
  have x1 := (BXz.out.mem (.tail _ (.head _))) 1 _ rfl
  go_wp2_with fail
  clear x0 x1
  refine (laws_markMesh W3.heap.size hi4 c 0 c' 0 pl pl tl tl ts 1 wz Oz.out (by omega) (by rw [← HPL.out]; exact HS.out.1) (by rw [← HTL.out]; exact HS.out.2.1) (fun j hj => HS.out.2.2 j (by rw [HTL.out]; exact hj)) (by decide)).mono ?_
  rintro e w7 ⟨z7, rfl, hM⟩
  have hz0 : ¬ ((z7 : Int) < 0) := by omega
  have hall : ∀ b l, (b, l) ∈ [(G, B2.l), (X, [Value.slice (some ⟨c, 0, none⟩) pl pl, .slice (some ⟨c', 0, none⟩) tl tl]), (S, B1.l), (w.heap.size, [.slice pa pl pc, .slice ta tl tc])] → b < W3.heap.size ∨ hi4 ≤ b := by
    intro b l hm
    simp only [List.mem_cons, Prod.mk.injEq, List.not_mem_nil, or_false] at hm
    rcases hm with ⟨rfl, _⟩ | ⟨rfl, _⟩ | ⟨rfl, _⟩ | ⟨rfl, _⟩
    · exact .inr (by omega)
    · exact .inr (by omega)
    · exact .inl (by omega)
    · exact .inl (by omega)
  have BX10 := Lib.hid (BXz.out.away hM (by omega) hall)
  have AG := Agree.of_mark hM
  have I7 := Lib.hid (And.intro (Iz.out.1.agree Iz.out.2 (fun b k1 k2 => .inl (by omega)) AG) (Iz.out.2.agree (fun b k1 k2 => .inl (by omega)) AG))
  have J7 := Lib.hid (And.intro (Jz.out.1.agree Jz.out.2.lb (fun b k1 k2 => .inr (by omega)) AG) (Jz.out.2.agree (fun b k1 k2 => .inr (by omega)) AG))
  have z7s := hM.below.size
  clear hM hall AG
  have u0 := (BX10.out.mem (.head _)) 0 _ rfl
  have u1 := (BX10.out.mem (.head _)) 1 _ rfl
  have u2 := (BX10.out.mem (.head _)) 2 _ rfl
  have u3 := (BX10.out.mem (.head _)) 3 _ rfl
  have u4 := (BX10.out.mem (.head _)) 4 _ rfl
  have u5 := (BX10.out.mem (.head _)) 5 _ rfl
  have u6 := (BX10.out.mem (.head _)) 6 _ rfl
  have u7 := (BX10.out.mem (.head _)) 7 _ rfl
  have u8 := (BX10.out.mem (.head _)) 8 _ rfl
  have v0 := (BX10.out.mem (.tail _ (.tail _ (.head _)))) 0 _ rfl
  have v1 := (BX10.out.mem (.tail _ (.tail _ (.head _)))) 1 _ rfl
  have v2 := (BX10.out.mem (.tail _ (.tail _ (.head _)))) 2 _ rfl
  have v3 := (BX10.out.mem (.tail _ (.tail _ (.head _)))) 3 _ rfl
  have v4 := (BX10.out.mem (.tail _ (.tail _ (.head _)))) 4 _ rfl
  have v5 := (BX10.out.mem (.tail _ (.tail _ (.head _)))) 5 _ rfl
  have v6 := (BX10.out.mem (.tail _ (.tail _ (.head _)))) 6 _ rfl
  have v7 := (BX10.out.mem (.tail _ (.tail _ (.head _)))) 7 _ rfl
  have v8 := (BX10.out.mem (.tail _ (.tail _ (.head _)))) 8 _ rfl
  go_wp2_with fail
  clear u0 u1 u2 u3 u4 u5 u6 u7 u8 v0 v1 v2 v3 v4 v5 v6 v7 v8
  refine (laws_eqBody B2 B1 bc _ J7.out.1 I7.out.1 HSB.out).mono ?_
  rintro e w8 ⟨rfl, hB8⟩
  have BX11 := Lib.hid (BX10.out.call hB8)
  have I8 := Lib.hid (And.intro (I7.out.1.below hB8) (I7.out.2.agree (S := fun _ => True) (fun _ _ _ => trivial) (Agree.of_below hB8)))
  have J8 := Lib.hid (J7.out.2.below hB8)
  have LN : Hid (B2.pl ≤ 1000 ∧ B2.tl ≤ 1000 ∧ B2.sl ≤ 1000 ∧ B2.wl ≤ 1000) := Lib.hid (by
    have l := J7.out.1.lens
    have h := LEN.out
    exact ⟨by omega, by omega, by omega, by omega⟩)
  have z8 := hB8.size
  clear hB8
  have u0 := (BX11.out.mem (.head _)) 0 _ rfl
  have u1 := (BX11.out.mem (.head _)) 1 _ rfl
  have u2 := (BX11.out.mem (.head _)) 2 _ rfl
  have u3 := (BX11.out.mem (.head _)) 3 _ rfl
  have u4 := (BX11.out.mem (.head _)) 4 _ rfl
  have u5 := (BX11.out.mem (.head _)) 5 _ rfl
  have u6 := (BX11.out.mem (.head _)) 6 _ rfl
  have u7 := (BX11.out.mem (.head _)) 7 _ rfl
  have u8 := (BX11.out.mem (.head _)) 8 _ rfl
  go_wp2_with fail
  clear u0 u1 u2 u3 u4 u5 u6 u7 u8
  refine (mark_gb W4.heap.size G F B2 w8 J8.out (by omega) LN.out.1 LN.out.2.1 LN.out.2.2.1 LN.out.2.2.2).mono ?_
  rintro e w9 ⟨rfl, hmk, hM9, _⟩
  have hall : ∀ b l, (b, l) ∈ [(G, B2.l), (X, [Value.slice (some ⟨c, 0, none⟩) pl pl, .slice (some ⟨c', 0, none⟩) tl tl]), (S, B1.l), (w.heap.size, [.slice pa pl pc, .slice ta tl tc])] → b < W4.heap.size ∨ G ≤ b := by
    intro b l hm
    simp only [List.mem_cons, Prod.mk.injEq, List.not_mem_nil, or_false] at hm
    rcases hm with ⟨rfl, _⟩ | ⟨rfl, _⟩ | ⟨rfl, _⟩ | ⟨rfl, _⟩
    · exact .inr (by omega)
    · exact .inl (by omega)
    · exact .inl (by omega)
    · exact .inl (by omega)
  have BX12 := Lib.hid (BX11.out.away hM9 (by omega) hall)
  have AG := Agree.of_mark hM9
  have I9 := Lib.hid (And.intro (I8.out.1.agree I8.out.2 (fun b k1 k2 => .inl (by omega)) AG) (I8.out.2.agree (fun b k1 k2 => .inl (by omega)) AG))
  have HMK := Lib.hid hmk
  have HHG := Lib.hid (fun (w : World) (h : MrkB w B2 F) => held_gb F B2 w h LN.out.1 LN.out.2.1 LN.out.2.2.1 LN.out.2.2.2)
  obtain ⟨N, hN⟩ : ∃ N, N = 1 + B2.pl * 3 + B2.tl * 3 + B2.sl * 4 + B2.wl := ⟨_, rfl⟩
  rw [← hN] at HHG ⊢
  have hn0 : ¬ ((N : Int) < 0) := by omega
  clear hM9 hall AG hmk hN
  have u0 := (BX12.out.mem (.head _)) 0 _ rfl
  have u1 := (BX12.out.mem (.head _)) 1 _ rfl
  have u2 := (BX12.out.mem (.head _)) 2 _ rfl
  have u3 := (BX12.out.mem (.head _)) 3 _ rfl
  have u4 := (BX12.out.mem (.head _)) 4 _ rfl
  have u5 := (BX12.out.mem (.head _)) 5 _ rfl
  have u6 := (BX12.out.mem (.head _)) 6 _ rfl
  have u7 := (BX12.out.mem (.head _)) 7 _ rfl
  have u8 := (BX12.out.mem (.head _)) 8 _ rfl
  go_wp2_with fail
  clear u0 u1 u2 u3 u4 u5 u6 u7 u8
  refine (HHG.out w9 HMK.out).mono ?_
  rintro e w10 ⟨rfl, hB10⟩
  have BX13 := Lib.hid (BX12.out.call hB10)
  have I10 := Lib.hid (And.intro (I9.out.1.below hB10) (I9.out.2.agree (S := fun _ => True) (fun _ _ _ => trivial) (Agree.of_below hB10)))
  have MK10 := Lib.hid (HMK.out.below hB10)
  clear hB10
  have a0 := (BX13.out.mem (.tail _ (.tail _ (.tail _ (.head _))))) 0 _ rfl
  have a1 := (BX13.out.mem (.tail _ (.tail _ (.tail _ (.head _))))) 1 _ rfl
  go_wp2_with fail
  clear a0 a1
  refine (laws_toMesh _ _ _ _ _ _ _ _ _ (HP.out.below BX13.out.bel) (HT.out.below BX13.out.bel) HS.out).mono ?_
  rintro e w11 ⟨⟨d1, d2, rfl, _, _, hV11, hT11⟩, hB11⟩
  have BX14 := Lib.hid (BX13.out.call hB11)
  have I11 := Lib.hid (I10.out.1.below hB11)
  have MK11 := Lib.hid (MK10.out.below hB11)
  have HV11 := Lib.hid hV11
  have HT11 := Lib.hid hT11
  clear hB11 hV11 hT11
  go_wp2_with fail
  refine (HIM.out _ _ _ _ _ HV11.out HT11.out).mono ?_
  rintro e w12 ⟨⟨B3, F', rfl, hI3, _⟩, hB12⟩
  have BX15 := Lib.hid (BX14.out.call hB12)
  have hX : Below w12.heap.size w12 (w12.alloc (BoxB B3 36)) := (Below.refl _ _).alloc (Nat.le_refl _) _
  have hB13 := hB12.trans (hX.mono hB12.size)
  have BX16 : Hid (Bx w [(w12.heap.size, B3.l), (G, B2.l), (X, [.slice (some ⟨c, 0, none⟩) pl pl, .slice (some ⟨c', 0, none⟩) tl tl]), (S, B1.l), (w.heap.size, [.slice pa pl pc, .slice ta tl tc])] (w12.alloc (BoxB B3 36))) := Lib.hid (BX15.out.box (vs := B3.l) (t := 36))
  have I12 := Lib.hid (I11.out.below hB13)
  have I3 := Lib.hid (hI3.below hX)
  have MK12 := Lib.hid (MK11.out.below hB13)

  have v0 := fun (ob : Obj) => cell_alloc (o := ob) ((BX15.out.mem (.tail _ (.tail _ (.head _)))) 0 _ rfl)
  have v1 := fun (ob : Obj) => cell_alloc (o := ob) ((BX15.out.mem (.tail _ (.tail _ (.head _)))) 1 _ rfl)
  have v2 := fun (ob : Obj) => cell_alloc (o := ob) ((BX15.out.mem (.tail _ (.tail _ (.head _)))) 2 _ rfl)
  have v3 := fun (ob : Obj) => cell_alloc (o := ob) ((BX15.out.mem (.tail _ (.tail _ (.head _)))) 3 _ rfl)
  have v4 := fun (ob : Obj) => cell_alloc (o := ob) ((BX15.out.mem (.tail _ (.tail _ (.head _)))) 4 _ rfl)
  have v5 := fun (ob : Obj) => cell_alloc (o := ob) ((BX15.out.mem (.tail _ (.tail _ (.head _)))) 5 _ rfl)
  have v6 := fun (ob : Obj) => cell_alloc (o := ob) ((BX15.out.mem (.tail _ (.tail _ (.head _)))) 6 _ rfl)
  have v7 := fun (ob : Obj) => cell_alloc (o := ob) ((BX15.out.mem (.tail _ (.tail _ (.head _)))) 7 _ rfl)
  have v8 := fun (ob : Obj) => cell_alloc (o := ob) ((BX15.out.mem (.tail _ (.tail _ (.head _)))) 8 _ rfl)
  clear hB12 hX hB13 hI3
  go_wp2_with fail
  clear v0 v1 v2 v3 v4 v5 v6 v7 v8
  change Calls _ _ _ (w12.alloc (BoxB B3 36)) _
  generalize (w12.alloc (BoxB B3 36)) = W12 at *
  refine (laws_eqBody B3 B1 bc _ I3.out I12.out HSB.out).mono ?_
  rintro e w13 ⟨rfl, hB14⟩
  have BX17 := Lib.hid (BX16.out.call hB14)
  have MK13 := Lib.hid (MK12.out.below hB14)
  clear hB14
  have u0 := (BX17.out.mem (.tail _ (.head _))) 0 _ rfl
  have u1 := (BX17.out.mem (.tail _ (.head _))) 1 _ rfl
  have u2 := (BX17.out.mem (.tail _ (.head _))) 2 _ rfl
  have u3 := (BX17.out.mem (.tail _ (.head _))) 3 _ rfl
  have u4 := (BX17.out.mem (.tail _ (.head _))) 4 _ rfl
  have u5 := (BX17.out.mem (.tail _ (.head _))) 5 _ rfl
  have u6 := (BX17.out.mem (.tail _ (.head _))) 6 _ rfl
  have u7 := (BX17.out.mem (.tail _ (.head _))) 7 _ rfl
  have u8 := (BX17.out.mem (.tail _ (.head _))) 8 _ rfl
  go_wp2_with fail
  clear u0 u1 u2 u3 u4 u5 u6 u7 u8
  refine (HHG.out w13 MK13.out).mono ?_
  rintro e w14 ⟨rfl, hB15⟩
  have BX18 := Lib.hid (BX17.out.call hB15)
  clear hB15
  go_wp2
  go_ret
  exact ⟨rfl, BX18.out.bel⟩
end Go.Proofs.Ytmbekamnogbgaaa

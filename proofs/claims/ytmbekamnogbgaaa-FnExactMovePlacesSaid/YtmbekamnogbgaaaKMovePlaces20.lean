/-
Texts in one: what MovePlaces stands on, part 20. Conditions: those of each.
-/
import Derived.Test.YtmbekamnogbgaaaKMovePlaces19

/-
A box that is filled, and the result's box. Conditions: none.
-/
namespace Go.Proofs.Ytmbekamnogbgaaa
open Go Fk Go.RowKit
set_option linter.unusedVariables false
set_option maxRecDepth 8000

structure Tc (w : World) (bo br : Nat) (lo lr : List Value) (w1 : World) : Prop where
  out : At w1 bo lo
  res : At w1 br lr
  fo : ∀ i, w1.frozen? ⟨bo, i, none⟩ = false
  fr : ∀ i, w1.frozen? ⟨br, i, none⟩ = false
  bel : Below w.heap.size w w1
  ge : w.heap.size ≤ bo ∧ w.heap.size ≤ br ∧ bo ≠ br
  lt : bo < w1.heap.size ∧ br < w1.heap.size
theorem Tc.call {w w1 w2 : World} {bo br : Nat} {lo lr : List Value} (h : Tc w bo br lo lr w1) (hB : Below w1.heap.size w1 w2) : Tc w bo br lo lr w2 :=
  ⟨h.out.below hB, h.res.below hB, fun i => by rw [hB.frozen (p := ⟨bo, i, none⟩) h.lt.1]; exact h.fo i,
    fun i => by rw [hB.frozen (p := ⟨br, i, none⟩) h.lt.2]; exact h.fr i, h.bel.trans (hB.mono h.bel.size), h.ge, Nat.lt_of_lt_of_le h.lt.1 hB.size, Nat.lt_of_lt_of_le h.lt.2 hB.size⟩
theorem Tc.put {w w1 : World} {bo br : Nat} {lo lr vs : List Value} (h : Tc w bo br lo lr w1) (o : Nat) (hl : o + vs.length ≤ lo.length) : Tc w bo br (lo.take o ++ vs ++ lo.drop (o + vs.length)) lr (setL w1 bo o vs) :=
  ⟨at_setL h.out hl, at_setL_far h.res h.ge.2.2, fun i => by rw [setL_frozen]; exact h.fo i, fun i => by rw [setL_frozen]; exact h.fr i,
    setL_below _ h.ge.1 _ _ _ h.bel, h.ge, by rw [setL_size]; exact h.lt⟩
theorem Tc.fin {w w1 : World} {bo br : Nat} {lo lr vs' : List Value} (h : Tc w bo br lo lr w1) (hl : vs'.length = lr.length) : At (setL w1 br 0 vs') br vs' ∧ Below w.heap.size w (setL w1 br 0 vs') := by
  refine ⟨?_, setL_below _ h.ge.2.1 _ _ _ h.bel⟩
  have := at_setL (vs := vs') (o := 0) h.res (by omega)
  simpa [hl] using this
/-- All blocks but the two that are filled. -/
def Sy (bo br b : Nat) : Prop := b ≠ bo ∧ b ≠ br
theorem Sy.out {bo br : Nat} : ¬ Sy bo br bo := fun h => h.1 rfl
theorem Sy.res {bo br : Nat} : ¬ Sy bo br br := fun h => h.2 rfl
theorem Sy.new {bo br lo hi : Nat} (h1 : bo < lo) (h2 : br < lo) : ∀ b, lo ≤ b → b < hi → Sy bo br b := fun b k1 _ => ⟨by omega, by omega⟩
theorem GM.widen {lo hi lo' hi' pl tl F : Nat} {w : World} {pa ta : Option Addr} (h : GM lo hi w pa ta pl tl F) (h1 : lo' ≤ lo) (h2 : hi ≤ hi') : GM lo' hi' w pa ta pl tl F :=
  ⟨h.1.imp id fun ⟨b, e, ho⟩ => ⟨b, e, ho.widen h1 h2⟩, h.2.1.imp id fun ⟨R, e, k1, k2, k3, k4, k5, k6⟩ => ⟨R, e, by omega, by omega, k3, k4, k5, k6.widen h1 h2⟩, h.2.2⟩
theorem lst_widen {lo hi lo' hi' n : Nat} {w : World} {a : Option Addr} (h : Lst lo hi w a n) (h1 : lo' ≤ lo) (h2 : hi ≤ hi') : Lst lo' hi' w a n :=
  h.imp id fun ⟨b, e, ho⟩ => ⟨b, e, ho.widen h1 h2⟩
/-- Parts that lie apart make a body that was made. -/
theorem gb_of {lo h1 h2 h3 h4 F : Nat} {w : World} {B : Bd} (m : GM lo h1 w B.pa B.ta B.pl B.tl F) (hF : F < h1 ∨ B.tl = 0) (s : Lst h1 h2 w B.sa (B.sl * 4)) (g : Lst h2 h3 w B.wa B.wl) (h12 : h1 ≤ h2) (h23 : h2 ≤ h3) (h34 : h3 ≤ h4) (hlo : lo ≤ h1) (hF' : F < h1) : GB lo h4 w B F := by
  have lp := lst_lv m.1
  have lt := m.lt
  have ls := lst_lv s
  have lg := lst_lv g
  refine ⟨m.widen (Nat.le_refl _) (by omega), lst_widen s (by omega) (by omega), lst_widen g (by omega) (by omega), fun X e => ?_, fun X e => ?_⟩
  · obtain ⟨x, ex, x1, x2⟩ := ls _ e
    cases ex
    refine ⟨by omega, fun e' => ?_, fun e' => ?_, fun e' => ?_⟩
    · obtain ⟨y, ey, y1, y2⟩ := lp _ e'; cases ey; omega
    · obtain ⟨y, ey, y1, y2, _⟩ := lt _ e'; cases ey; omega
    · obtain ⟨y, ey, y1, y2⟩ := lg _ e'; cases ey; omega
  · obtain ⟨x, ex, x1, x2⟩ := lg _ e
    cases ex
    refine ⟨by omega, fun e' => ?_, fun e' => ?_⟩
    · obtain ⟨y, ey, y1, y2⟩ := lp _ e'; cases ey; omega
    · obtain ⟨y, ey, y1, y2, _⟩ := lt _ e'; cases ey; omega
end Go.Proofs.Ytmbekamnogbgaaa


/-
A copy of a mesh: what the program makes. Conditions: the mesh lies in memory, its triangles have three places each.
-/
namespace Go.Proofs.Ytmbekamnogbgaaa
open Go Fk Go.RowKit
set_option linter.unusedVariables false
set_option maxRecDepth 8000

theorem owns_apart {w : World} {b1 b2 : Nat} {e1 e2 : TypeId} {s1 s2 n1 n2 c1 c2 : Nat} {a1 a2 : Option Addr} {x1 x2 : List Value} (h1 : w.ownsRow b1 e1 s1 (.slice a1 n1 c1) n1 x1) (h2 : w.ownsRow b2 e2 s2 (.slice a2 n2 c2) n2 x2) (he : e1 ≠ e2) : ∀ P R, a1 = some P → a2 = some R → P.block ≠ R.block := by
  intro P R hP hR hb
  subst hP
  subst hR
  rcases h1.2 with ⟨e, _⟩ | ⟨g, cap, cur, e, _, hh, _⟩
  · cases e
  rcases h2.2 with ⟨e', _⟩ | ⟨g', cap', cur', e', _, hh', _⟩
  · cases e'
  cases e
  cases e'
  have hb' : g = g' := hb
  subst hb'
  rw [hh] at hh'
  cases hh'
  exact he rfl
theorem owns_set {w : World} {base : Nat} {e : TypeId} {s : Nat} {v : Value} {n : Nat} {xs : List Value} (h : w.ownsRow base e s v n xs) (b o : Nat) (hb : b < base) (u : Value) : (w.setCell ⟨b, o, none⟩ u).ownsRow base e s v n xs :=
  h.kept (grown_set w b o u) (by
    rcases hv : v.ownBlock with _ | g
    · exact .inl rfl
    · refine .inr fun e' => ?_
      have := (h.lt g hv).1
      cases e'
      omega)
theorem owns_setL {base : Nat} {e : TypeId} {s : Nat} {v : Value} {n : Nat} {xs : List Value} (b : Nat) (hb : b < base) : ∀ (vs : List Value) (w : World) (o : Nat), w.ownsRow base e s v n xs → (setL w b o vs).ownsRow base e s v n xs
  | [], _, _, h => h
  | x :: vs, w, o, h => owns_setL b hb vs _ _ (owns_set h b o hb x)
/-- What the parts of the mesh are before they are put into the box. -/
def PM (W : World) (n tl bo : Nat) (cs : List C3) (ts : List (List Int)) (w' : World) : Prop :=
  ∃ w1 qa qc ra rc fb fc xs, Below W.heap.size W w1 ∧ w1.ownsRow W.heap.size 34 3 (.slice qa n qc) n xs ∧ PV n xs cs ∧ w1.ownsRow (fb + 1) 81 1 (.slice ra tl rc) tl (rowVs fb tl) ∧ w1.ownsRow W.heap.size 2 1 (.slice (some ⟨fb, 0, none⟩) (tl * 3) fc) (tl * 3) (flatV ts tl) ∧ w' = setL w1 bo 0 [.slice qa n qc, .slice ra tl rc]
/-- A copy of a mesh, of the call's own. -/
def CP (w : World) (pl tl : Nat) (cs : List C3) (ts : List (List Int)) (v : Value) (w' : World) : Prop :=
  ∃ qa qc ra rc fb fc xs, v = .agg #[.slice qa pl qc, .slice ra tl rc] ∧ w'.ownsRow w.heap.size 34 3 (.slice qa pl qc) pl xs ∧ PV pl xs cs ∧ w'.ownsRow (fb + 1) 81 1 (.slice ra tl rc) tl (rowVs fb tl) ∧ w'.ownsRow w.heap.size 2 1 (.slice (some ⟨fb, 0, none⟩) (tl * 3) fc) (tl * 3) (flatV ts tl) ∧ Below w.heap.size w w'
set_option maxHeartbeats 4000000 in
theorem impl_copied (pa ta : Option Addr) (pl pc tl tc : Nat) (cs : List C3) (ts : List (List Int)) (w : World) (hp : IsVs w pa pl pc cs) (ht : IsTs w ta tl tc ts) (hpn : pl ≤ 1000) (h3 : ∀ k, k < tl → (ts.getD k []).length = 3) (htn : tl ≤ 128) :
    Calls Try.prog 93 #[.agg #[.slice pa pl pc, .slice ta tl tc]] w fun e w' => ∃ v, e = .returned v ∧ CP w pl tl cs ts v w' := by
  have uim := Try.underlying29
  have T0 : Hid (Tc w w.heap.size (w.heap.size + 1) [.slice pa pl pc, .slice ta tl tc] [.slice none 0 0, .slice none 0 0] ((w.alloc (.cells #[.slice pa pl pc, .slice ta tl tc] 29)).alloc (.cells #[.slice none 0 0, .slice none 0 0] 29))) := Lib.hid
    ⟨At.new.alloc, by
      have := At.new (w := w.alloc (.cells #[.slice pa pl pc, .slice ta tl tc] 29)) (vs := [.slice none 0 0, .slice none 0 0]) (t := 29)
      simpa using this, fun i => by go_simp, fun i => by go_simp, ((Below.refl _ _).alloc (Nat.le_refl _) _).alloc (by simp) _, ⟨Nat.le_refl _, by omega, by omega⟩, by simp <;> omega⟩
  have HP := Lib.hid hp
  have HT := Lib.hid ht
  have H3 := Lib.hid h3
  clear hp ht h3
  go_enter Try.func93, Try.ntmps93
  go_wp2_with fail
  generalize ((w.alloc (.cells #[.slice pa pl pc, .slice ta tl tc] 29)).alloc (.cells #[.slice none 0 0, .slice none 0 0] 29)) = W at *
  refine Reg6.wp_region_mix (s := 7) (C := fun w' => Below W.heap.size W w') (D := fun _ w' => PM W pl tl (w.heap.size + 1) cs ts w') (G := fun w1 w2 => Below w1.heap.size w1 w2)
    (Rv := fun i v => match i with | 0 => v = .pointer (some ⟨w.heap.size, 0, none⟩) | 1 => v = .slice pa pl pc | 3 => v = .agg #[.slice pa pl pc, .slice ta tl tc] | _ => True)
    (Rw := fun i v w' => match i with
      | 2 => ∃ qa qc xs, v = .slice qa pl qc ∧ w'.ownsRow W.heap.size 34 3 (.slice qa pl qc) pl xs ∧ PV pl xs cs
      | 4 => ∃ cb, v = .slice (some ⟨cb, 0, none⟩) tl tl ∧ IsCs w' cb tl ts
      | 5 => ∃ ra rc fb fc, v = .slice ra tl rc ∧ w'.ownsRow (fb + 1) 81 1 (.slice ra tl rc) tl (rowVs fb tl) ∧ w'.ownsRow W.heap.size 2 1 (.slice (some ⟨fb, 0, none⟩) (tl * 3) fc) (tl * 3) (flatV ts tl)
      | 6 => ∃ qa qc xs ra rc fb fc, v = .agg #[.slice qa pl qc, .slice ra tl rc] ∧ (w'.ownsRow W.heap.size 34 3 (.slice qa pl qc) pl xs ∧ PV pl xs cs) ∧ w'.ownsRow (fb + 1) 81 1 (.slice ra tl rc) tl (rowVs fb tl) ∧ w'.ownsRow W.heap.size 2 1 (.slice (some ⟨fb, 0, none⟩) (tl * 3) fc) (tl * 3) (flatV ts tl)
      | _ => True) [false, false, false, true, true, true, true, true, true, true]
    (by kernel_rfl) (by kernel_rfl) (by kernel_rfl) ?_ (below_drewN (Below.refl _ _) 1) ?_ ?_
  · intro j v w1 w2 hC hG hR
    match j with
    | 0 => trivial
    | 1 => trivial
    | 2 => obtain ⟨qa, qc, xs, e, h1, h2⟩ := hR; exact ⟨qa, qc, xs, e, owns_up h1 hG, h2⟩
    | 3 => trivial
    | 4 => obtain ⟨cb, e, h1⟩ := hR; exact ⟨cb, e, h1.below hG⟩
    | 5 => obtain ⟨ra, rc, fb, fc, e, h1, h2⟩ := hR; exact ⟨ra, rc, fb, fc, e, owns_up h1 hG, owns_up h2 hG⟩
    | 6 => obtain ⟨qa, qc, xs, ra, rc, fb, fc, e, ⟨h0, hp⟩, h1, h2⟩ := hR; exact ⟨qa, qc, xs, ra, rc, fb, fc, e, ⟨owns_up h0 hG, hp⟩, owns_up h1 hG, owns_up h2 hG⟩
    | _ + 7 => trivial
  · refine ⟨?_, ?_, ?_, ?_, ?_, ?_, ?_, ?_, trivial⟩
    · refine Reg6.Obl.early rfl (by kernel_rfl) ?_
      rintro a' w1 hC hx hd K hK
      have HC := Lib.hid hC
      clear hC
      have t1 : a'.tmps[1]?.getD undef = .pointer (some ⟨w.heap.size, 0, none⟩) := Reg.slot_val (hx 1 (by kernel_rfl))
      go_simp
      exact hK _ _ rfl trivial HC.out (Below.refl _ _)
    · refine Reg6.Obl.early rfl (by kernel_rfl) ?_
      rintro a' w1 hC hx hd K hK
      have HC := Lib.hid hC
      clear hC
      have t3 : a'.tmps[3]?.getD undef = .pointer (some ⟨w.heap.size, 0, none⟩) := Reg.slot_val (hd 0 3 (by kernel_rfl) rfl).1
      have y0 := (T0.out.call HC.out).out 0 _ rfl
      go_simp
      exact hK _ _ rfl trivial HC.out (Below.refl _ _)
    · refine Reg6.Obl.early rfl (by kernel_rfl) ?_
      rintro a' w1 hC hx hd K hK
      have HC := Lib.hid hC
      clear hC
      have t4 : a'.tmps[4]?.getD undef = .slice pa pl pc := Reg.slot_val (hd 1 4 (by kernel_rfl) rfl).1
      go_simp
      refine (slices_clone pa pl pc cs w1 (HP.out.below (T0.out.call HC.out).bel) hpn).mono ?_
      rintro en w2 ⟨⟨v, xs, rfl, hown, hpv⟩, hB2⟩
      obtain ⟨qa, qc, rfl⟩ := owns_slice hown
      exact hK _ _ trivial ⟨qa, qc, xs, rfl, owns_low hown HC.out.size, hpv⟩ (HC.out.trans (hB2.mono HC.out.size)) hB2
    · refine Reg6.Obl.early rfl (by kernel_rfl) ?_
      rintro a' w1 hC hx hd K hK
      have HC := Lib.hid hC
      clear hC
      have t1 : a'.tmps[1]?.getD undef = .pointer (some ⟨w.heap.size, 0, none⟩) := Reg.slot_val (hx 1 (by kernel_rfl))
      have y0 := (T0.out.call HC.out).out 0 _ rfl
      have y1 := (T0.out.call HC.out).out 1 _ rfl
      go_simp
      exact hK _ _ rfl trivial HC.out (Below.refl _ _)
    · refine Reg6.Obl.early rfl (by kernel_rfl) ?_
      rintro a' w1 hC hx hd K hK
      have HC := Lib.hid hC
      clear hC
      have t6 : a'.tmps[6]?.getD undef = .agg #[.slice pa pl pc, .slice ta tl tc] := Reg.slot_val (hd 3 6 (by kernel_rfl) rfl).1
      go_simp
      refine (all_corners' pa ta pl pc tl tc ts w1 (HT.out.below (T0.out.call HC.out).bel) H3.out htn).mono ?_
      rintro en w2 ⟨rfl, hCs, hB2, _⟩
      exact hK _ _ trivial ⟨_, rfl, hCs⟩ (HC.out.trans (hB2.mono HC.out.size)) hB2
    · refine Reg6.Obl.early rfl (by kernel_rfl) ?_
      rintro a' w1 hC hx hd K hK
      have HC := Lib.hid hC
      clear hC
      obtain ⟨cb, g7, hCs⟩ := (hd 4 7 (by kernel_rfl) rfl).2
      have t7 := Reg.slot_val g7
      clear g7
      have HCs := Lib.hid hCs
      clear hCs
      go_simp
      refine (triangle_lists cb tl ts w1 HCs.out (by omega)).mono ?_
      rintro en w2 ⟨v, fb, fc, rfl, hfb, hrow, hflat, hB2⟩
      obtain ⟨ra, rc, rfl⟩ := owns_slice hrow
      exact hK _ _ trivial ⟨ra, rc, fb, fc, rfl, hrow, owns_low hflat HC.out.size⟩ (HC.out.trans (hB2.mono HC.out.size)) hB2
    · refine Reg6.Obl.early rfl (by kernel_rfl) ?_
      rintro a' w1 hC hx hd K hK
      have HC := Lib.hid hC
      clear hC
      obtain ⟨qa, qc, xs, g5, hq⟩ := (hd 2 5 (by kernel_rfl) rfl).2
      have t5 := Reg.slot_val g5
      clear g5
      obtain ⟨ra, rc, fb, fc, g8, hr⟩ := (hd 5 8 (by kernel_rfl) rfl).2
      have t8 := Reg.slot_val g8
      clear g8
      have HQ := Lib.hid hq
      have HR := Lib.hid hr
      clear hq hr
      go_simp
      exact hK _ _ trivial ⟨qa, qc, xs, ra, rc, fb, fc, rfl, HQ.out, HR.out⟩ HC.out (Below.refl _ _)
    · refine Reg6.Obl.store rfl ?_
      rintro a' w1 hC hx hd K hK
      have HC := Lib.hid hC
      clear hC
      have t2 : a'.tmps[2]?.getD undef = .pointer (some ⟨w.heap.size + 1, 0, none⟩) := Reg.slot_val (hx 2 (by kernel_rfl))
      obtain ⟨qa, qc, xs, ra, rc, fb, fc, g9, hq, hr1, hr2⟩ := (hd 6 9 (by kernel_rfl) rfl).2
      have t9 := Reg.slot_val g9
      clear g9
      have HPM : Hid (PM W pl tl (w.heap.size + 1) cs ts (setL w1 (w.heap.size + 1) 0 [.slice qa pl qc, .slice ra tl rc])) := Lib.hid ⟨w1, qa, qc, ra, rc, fb, fc, xs, HC.out, hq.1, hq.2, hr1, hr2, rfl⟩
      have y0 := (T0.out.call HC.out).res 0 _ rfl
      have y1 := (T0.out.call HC.out).res 1 _ rfl
      have f0 := (T0.out.call HC.out).fr 0
      have f1 := (T0.out.call HC.out).fr 1
      clear hq hr1 hr2
      go_simp
      exact hK _ HPM.out
  rintro f w2 hD hd
  obtain ⟨w1, qa, qc, ra, rc, fb, fc, xs, hB1, hq, hpv, hr, hfl, rfl⟩ := hD
  simp only [Reg.mixL]
  have T1 := Lib.hid (T0.out.call hB1)
  obtain ⟨hR, hBB⟩ := T1.out.fin (vs' := [.slice qa pl qc, .slice ra tl rc]) rfl
  have hlt := T0.out.lt.2
  have hle := T0.out.bel.size
  have hfb := (hfl.lt fb rfl).1
  have M := Lib.hid (And.intro (owns_low (owns_setL (w.heap.size + 1) hlt [.slice qa pl qc, .slice ra tl rc] w1 0 hq) hle) (And.intro (owns_setL (w.heap.size + 1) (by omega) [.slice qa pl qc, .slice ra tl rc] w1 0 hr) (owns_low (owns_setL (w.heap.size + 1) hlt [.slice qa pl qc, .slice ra tl rc] w1 0 hfl) hle)))
  have HR := Lib.hid hR
  have HBB := Lib.hid hBB
  clear hR hBB hq hr hfl hB1 hd hlt hle hfb
  generalize (setL w1 (w.heap.size + 1) 0 [.slice qa pl qc, .slice ra tl rc]) = W2 at *
  go_wp2
  have m0 := HR.out 0 _ rfl
  have m1 := HR.out 1 _ rfl
  refine bodyPost_ret (v := .agg #[.slice qa pl qc, .slice ra tl rc]) (by simp [results, Try.results93, go_sem, m0, m1]) rfl ?_
  exact ⟨_, rfl, qa, qc, ra, rc, fb, fc, xs, rfl, M.out.1, hpv, M.out.2.1, M.out.2.2, HBB.out⟩
end Go.Proofs.Ytmbekamnogbgaaa


/-
A body with other places, its lists copied: what the program makes. Conditions: it lies in memory, its triangles have three places each.
-/
namespace Go.Proofs.Ytmbekamnogbgaaa
open Go Fk Go.RowKit
set_option linter.unusedVariables false
set_option maxRecDepth 8000

set_option maxHeartbeats 4000000 in
theorem impl_placed' (B : Bd) (c : Bc) (a : Option Addr) (n cap : Nat) (cs' : List C3) (w : World) (h : IsB w B c) (hv : IsVs w a n cap cs') (hn : n ≤ 1000) (h3 : ∀ k, k < B.tl → (c.ts.getD k []).length = 3) (htl : B.tl ≤ 128) (hsl : B.sl ≤ 1000) (hwl : B.wl ≤ 1000) :
    Calls Try.prog 75 #[B.v, .slice a n cap] w fun e w' => ∃ (B' : Bd) (F : Nat), e = .returned B'.v ∧ IsB w' B' ⟨cs', c.ts, c.ss, c.zs, c.film, c.bend, c.fall⟩ ∧ GB w.heap.size w'.heap.size w' B' F ∧ (w.heap.size ≤ F ∧ F < w'.heap.size) ∧ Below w.heap.size w w' := by
  have ui := Try.underlying36
  have uim := Try.underlying29
  have T0 : Hid (Tc w w.heap.size (w.heap.size + 1) ({ B with pa := a, pl := n, pc := cap } : Bd).l Z9' ((w.alloc (BoxB ({ B with pa := a, pl := n, pc := cap } : Bd) 36)).alloc (.cells #[.slice none 0 0, .slice none 0 0, .slice none 0 0, .float .f32 0, .float .f32 0, .slice none 0 0, .float .f32 0, .float .f32 0, .float .f32 0] 36))) := Lib.hid
    ⟨At.new.alloc, by
      have := At.new (w := w.alloc (BoxB ({ B with pa := a, pl := n, pc := cap } : Bd) 36)) (vs := Z9') (t := 36)
      simpa using this, fun i => by go_simp, fun i => by go_simp, ((Below.refl _ _).alloc (Nat.le_refl _) _).alloc (by simp) _, ⟨Nat.le_refl _, by omega, by omega⟩, by simp <;> omega⟩
  have H := Lib.hid h
  have HV := Lib.hid hv
  have H3 := Lib.hid h3
  have htl' := h.2.1.1
  have hsl' := h.2.2.1.1
  have hwl' := h.2.2.2.1.1
  have hn' := hv.1
  clear h hv h3
  go_enter Try.func75, Try.ntmps75
  go_wp2_with fail
  change Calls _ _ _ ((w.alloc (BoxB ({ B with pa := a, pl := n, pc := cap } : Bd) 36)).alloc (.cells #[.slice none 0 0, .slice none 0 0, .slice none 0 0, .float .f32 0, .float .f32 0, .slice none 0 0, .float .f32 0, .float .f32 0, .float .f32 0] 36)) _
  generalize ((w.alloc (BoxB ({ B with pa := a, pl := n, pc := cap } : Bd) 36)).alloc (.cells #[.slice none 0 0, .slice none 0 0, .slice none 0 0, .float .f32 0, .float .f32 0, .slice none 0 0, .float .f32 0, .float .f32 0, .float .f32 0] 36)) = W at *
  refine (impl_copied a B.ta n cap B.tl B.tc cs' c.ts W (HV.out.below T0.out.bel) (H.out.2.1.below T0.out.bel) hn H3.out htl).mono ?_
  rintro e w1 ⟨v, rfl, qa, qc, ra, rc, fb, fc, xs, rfl, hq, hpv, hr, hfl, hB1⟩
  have T1 := Lib.hid (T0.out.call hB1)
  have T2 := Lib.hid (T1.out.put 0 (vs := [.slice qa n qc, .slice ra B.tl rc]) (Nat.le_of_ble_eq_true rfl))
  have A1 := Lib.hid (Agree.setL (Sy.out (bo := w.heap.size) (br := w.heap.size + 1)) [.slice qa n qc, .slice ra B.tl rc] w1 0 (Agree.refl (Sy w.heap.size (w.heap.size + 1)) w1))
  obtain ⟨ra', rc', e, hI, hF⟩ := rows_mesh hr hfl htl' H3.out (ts_wf H.out.2.1)
  cases e
  have hbig := T0.out.lt
  have GM1 : GM W.heap.size w1.heap.size w1 qa ra n B.tl fb := gm_of hq (Nat.le_refl _) hF (fun P e => ⟨owns_apart hq hfl (by decide) P _ e rfl, fun R e' => owns_apart hq hr (by decide) P R e e'⟩)
  have M1 := Lib.hid (And.intro (vs_owned hq hn' hpv) (And.intro hI (And.intro GM1 (And.intro hB1.size (hfl.lt fb rfl)))))
  clear hB1 hq hpv hr hfl hI hF GM1
  have e0 := T1.out.out 0 _ rfl
  have e1 := T1.out.out 1 _ rfl
  have g0 := T1.out.fo 0
  have g1 := T1.out.fo 1
  have k2 := T1.out.out 2 _ rfl
  go_wp2_with fail
  change Calls _ _ _ (setL w1 w.heap.size 0 [.slice qa n qc, .slice ra B.tl rc]) _
  clear e0 e1 g0 g1 k2
  generalize (setL w1 w.heap.size 0 [.slice qa n qc, .slice ra B.tl rc]) = W2 at *
  refine (clone_springs B.sa B.sl B.sc c.ss _ (H.out.2.2.1.below T2.out.bel) (by omega)).mono ?_
  rintro e w3 ⟨⟨v, ys, rfl, hown, hpv⟩, hB3⟩
  obtain ⟨sa, sc, rfl, hS, hSL⟩ := ss_of_owns hown hsl' hpv H.out.2.2.1.2.2.2.1
  have T3 := Lib.hid (T2.out.call hB3)
  have A3 := Lib.hid (A1.out.trans (Agree.of_below hB3))
  have S3 := Lib.hid (And.intro hS hSL)
  have hz3 := hB3.size
  clear hown hpv hB3 hS hSL
  have e2 := T3.out.out 2 _ rfl
  have g2 := T3.out.fo 2
  have k5 := T3.out.out 5 _ rfl
  go_wp2_with fail
  change Calls _ _ _ (setL w3 w.heap.size 2 [.slice sa B.sl sc]) _
  have T4 := Lib.hid (T3.out.put 2 (vs := [.slice sa B.sl sc]) (Nat.le_of_ble_eq_true rfl))
  have A4 := Lib.hid (Agree.setL (Sy.out (bo := w.heap.size) (br := w.heap.size + 1)) [.slice sa B.sl sc] w3 2 (Agree.refl (Sy w.heap.size (w.heap.size + 1)) w3))
  clear e2 g2 k5
  generalize (setL w3 w.heap.size 2 [.slice sa B.sl sc]) = W4 at *
  refine (clone_floats B.wa B.wl B.wc c.zs _ (IsFs_below T4.out.bel H.out.2.2.2.1) (by omega)).mono ?_
  rintro e w5 ⟨⟨v, zs, rfl, hown, hpv⟩, hB5⟩
  obtain ⟨wa, wc, rfl, hZ, hZL⟩ := fs_of_owns hown hwl' hpv H.out.2.2.2.1.2.2.2.1
  have T5 := Lib.hid (T4.out.call hB5)
  have A5 := Lib.hid (A4.out.trans (Agree.of_below hB5))
  have F5 := Lib.hid (And.intro hZ hZL)
  have hz5 := hB5.size
  clear hown hpv hB5 hZ hZL
  have e0 := T5.out.out 0 _ rfl
  have e1 := T5.out.out 1 _ rfl
  have e2 := T5.out.out 2 _ rfl
  have e3 := T5.out.out 3 _ rfl
  have e4 := T5.out.out 4 _ rfl
  have e5 := T5.out.out 5 _ rfl
  have e6 := T5.out.out 6 _ rfl
  have e7 := T5.out.out 7 _ rfl
  have e8 := T5.out.out 8 _ rfl
  have g5 := T5.out.fo 5
  have q0 := T5.out.res 0 _ rfl
  have p0 := T5.out.fr 0
  have q1 := T5.out.res 1 _ rfl
  have p1 := T5.out.fr 1
  have q2 := T5.out.res 2 _ rfl
  have p2 := T5.out.fr 2
  have q3 := T5.out.res 3 _ rfl
  have p3 := T5.out.fr 3
  have q4 := T5.out.res 4 _ rfl
  have p4 := T5.out.fr 4
  have q5 := T5.out.res 5 _ rfl
  have p5 := T5.out.fr 5
  have q6 := T5.out.res 6 _ rfl
  have p6 := T5.out.fr 6
  have q7 := T5.out.res 7 _ rfl
  have p7 := T5.out.fr 7
  have q8 := T5.out.res 8 _ rfl
  have p8 := T5.out.fr 8
  have T6 := Lib.hid (T5.out.put 5 (vs := [.slice wa B.wl wc]) (Nat.le_of_ble_eq_true rfl))
  have A6 := Lib.hid (Agree.setL (Sy.out (bo := w.heap.size) (br := w.heap.size + 1)) [.slice wa B.wl wc] w5 5 (Agree.refl (Sy w.heap.size (w.heap.size + 1)) w5))
  obtain ⟨hR, hBB⟩ := T6.out.fin (vs' := [.slice qa n qc, .slice ra B.tl rc, .slice sa B.sl sc, .float .f32 B.film, .float .f32 B.bend, .slice wa B.wl wc, .float .f32 B.x, .float .f32 B.y, .float .f32 B.z]) rfl
  have A7 := Agree.setL (Sy.res (bo := w.heap.size) (br := w.heap.size + 1)) [.slice qa n qc, .slice ra B.tl rc, .slice sa B.sl sc, .float .f32 B.film, .float .f32 B.bend, .slice wa B.wl wc, .float .f32 B.x, .float .f32 B.y, .float .f32 B.z] _ 0 A6.out
  simp only [setL, Nat.zero_add, Nat.reduceAdd] at hR hBB A7
  have HR := Lib.hid hR
  have HBB := Lib.hid hBB
  have HA7 := Lib.hid A7
  clear hR hBB A7
  go_wp2
  clear e0 e1 e2 e3 e4 e5 e6 e7 e8 g5 q0 q1 q2 q3 q4 q5 q6 q7 q8 p0 p1 p2 p3 p4 p5 p6 p7 p8
  have m0 := HR.out 0 _ rfl
  have m1 := HR.out 1 _ rfl
  have m2 := HR.out 2 _ rfl
  have m3 := HR.out 3 _ rfl
  have m4 := HR.out 4 _ rfl
  have m5 := HR.out 5 _ rfl
  have m6 := HR.out 6 _ rfl
  have m7 := HR.out 7 _ rfl
  have m8 := HR.out 8 _ rfl
  have G3 := HA7.out
  have G2 := A5.out.trans G3
  have G1 := A3.out.trans G2
  refine bodyPost_ret (v := (⟨qa, ra, sa, wa, n, qc, B.tl, rc, B.sl, sc, B.wl, wc, B.film, B.bend, B.x, B.y, B.z⟩ : Bd).v) (by simp [results, Try.results75, go_sem, m0, m1, m2, m3, m4, m5, m6, m7, m8]) rfl ?_
  have z1 := A1.out.size
  have z4 := A4.out.size
  have z5 := M1.out.2.2.2.1
  have s1 : ∀ q, W.heap.size ≤ q → q < w1.heap.size → Sy w.heap.size (w.heap.size + 1) q := Sy.new (by omega) (by omega)
  have s2 : ∀ q, W2.heap.size ≤ q → q < w3.heap.size → Sy w.heap.size (w.heap.size + 1) q := Sy.new (by omega) (by omega)
  have s3 : ∀ q, W4.heap.size ≤ q → q < w5.heap.size → Sy w.heap.size (w.heap.size + 1) q := Sy.new (by omega) (by omega)
  have mm := M1.out.2.2.1.agree s1 G1
  have ms := S3.out.2.agree s2 G2
  have mf := F5.out.2.agree s3 G3
  have y1 := G1.size
  have y2 := G2.size
  have y3 := G3.size
  have hb0 := T0.out.bel.size
  refine ⟨_, fb, rfl, ⟨vs_agree M1.out.1 M1.out.2.2.1.lv s1 G1, ts_agree M1.out.2.1 M1.out.2.2.1.lt s1 G1, ss_agree S3.out.1 (lst_lv S3.out.2) s2 G2, fs_agree F5.out.1 (lst_lv F5.out.2) s3 G3, H.out.2.2.2.2⟩, ?_, ⟨by have := M1.out.2.2.2.2.1; omega, by have := M1.out.2.2.2.2.2; omega⟩, HBB.out⟩
  refine gb_of (lo := w.heap.size) (h1 := W2.heap.size) (h2 := W4.heap.size) (h3 := w5.heap.size) (mm.widen hb0 z1) (.inl (by have := M1.out.2.2.2.2.2; omega)) (lst_widen ms (Nat.le_refl _) z4) mf (by omega) hz5 y3 (by omega) (by have := M1.out.2.2.2.2.2; omega)
theorem impl_placed (B : Bd) (c : Bc) (a : Option Addr) (n cap : Nat) (cs' : List C3) (w : World) (h : IsB w B c) (hv : IsVs w a n cap cs') (hn : n ≤ 1000) (h3 : ∀ k, k < B.tl → (c.ts.getD k []).length = 3) (htl : B.tl ≤ 128) (hsl : B.sl ≤ 1000) (hwl : B.wl ≤ 1000) :
    Calls Try.prog 75 #[B.v, .slice a n cap] w fun e w' => ∃ (B' : Bd) (F : Nat), e = .returned B'.v ∧ IsB w' B' ⟨cs', c.ts, c.ss, c.zs, c.film, c.bend, c.fall⟩ ∧ GB w.heap.size w'.heap.size w' B' F ∧ Below w.heap.size w w' :=
  (impl_placed' B c a n cap cs' w h hv hn h3 htl hsl hwl).mono fun _ _ ⟨B', F, he, hI, hG, _, hB⟩ => ⟨B', F, he, hI, hG, hB⟩
end Go.Proofs.Ytmbekamnogbgaaa

/-
Texts in one: what HoldMesh stands on, part 29. Conditions: those of each.
-/
import Derived.Test.YtajglpkeojaelaaKHoldMesh28

/-
A box that is filled, and the result's box. Conditions: none.
-/
namespace Go.Proofs.Ytajglpkeojaelaa
open Go Fk Go.RowKit
set_option linter.unusedVariables false
set_option maxRecDepth 8000

structure Tc (w : World) (bo br : Nat) (lo lr : List Value) (w1 : World) : Prop where
  out : At w1 bo lo
  res : At w1 br lr
  fo : ∀ i, w1.frozen? ⟨bo, i, none⟩ = false
  fr : ∀ i, w1.frozen? ⟨br, i, none⟩ = false
  bel : Below w.heap.size w w1
  ge : w.heap.size ≤ bo ∧ w.heap.size ≤ br ∧ bo ≠ br
  lt : bo < w1.heap.size ∧ br < w1.heap.size
theorem Tc.call {w w1 w2 : World} {bo br : Nat} {lo lr : List Value} (h : Tc w bo br lo lr w1) (hB : Below w1.heap.size w1 w2) : Tc w bo br lo lr w2 :=
  ⟨h.out.below hB, h.res.below hB, fun i => by rw [hB.frozen (p := ⟨bo, i, none⟩) h.lt.1]; exact h.fo i,
    fun i => by rw [hB.frozen (p := ⟨br, i, none⟩) h.lt.2]; exact h.fr i, h.bel.trans (hB.mono h.bel.size), h.ge, Nat.lt_of_lt_of_le h.lt.1 hB.size, Nat.lt_of_lt_of_le h.lt.2 hB.size⟩
theorem Tc.put {w w1 : World} {bo br : Nat} {lo lr vs : List Value} (h : Tc w bo br lo lr w1) (o : Nat) (hl : o + vs.length ≤ lo.length) : Tc w bo br (lo.take o ++ vs ++ lo.drop (o + vs.length)) lr (setL w1 bo o vs) :=
  ⟨at_setL h.out hl, at_setL_far h.res h.ge.2.2, fun i => by rw [setL_frozen]; exact h.fo i, fun i => by rw [setL_frozen]; exact h.fr i,
    setL_below _ h.ge.1 _ _ _ h.bel, h.ge, by rw [setL_size]; exact h.lt⟩
theorem Tc.fin {w w1 : World} {bo br : Nat} {lo lr vs' : List Value} (h : Tc w bo br lo lr w1) (hl : vs'.length = lr.length) : At (setL w1 br 0 vs') br vs' ∧ Below w.heap.size w (setL w1 br 0 vs') := by
  refine ⟨?_, setL_below _ h.ge.2.1 _ _ _ h.bel⟩
  have := at_setL (vs := vs') (o := 0) h.res (by omega)
  simpa [hl] using this
/-- All blocks but the two that are filled. -/
def Sy (bo br b : Nat) : Prop := b ≠ bo ∧ b ≠ br
theorem Sy.out {bo br : Nat} : ¬ Sy bo br bo := fun h => h.1 rfl
theorem Sy.res {bo br : Nat} : ¬ Sy bo br br := fun h => h.2 rfl
theorem Sy.new {bo br lo hi : Nat} (h1 : bo < lo) (h2 : br < lo) : ∀ b, lo ≤ b → b < hi → Sy bo br b := fun b k1 _ => ⟨by omega, by omega⟩
theorem GM.widen {lo hi lo' hi' pl tl F : Nat} {w : World} {pa ta : Option Addr} (h : GM lo hi w pa ta pl tl F) (h1 : lo' ≤ lo) (h2 : hi ≤ hi') : GM lo' hi' w pa ta pl tl F :=
  ⟨h.1.imp id fun ⟨b, e, ho⟩ => ⟨b, e, ho.widen h1 h2⟩, h.2.1.imp id fun ⟨R, e, k1, k2, k3, k4, k5, k6⟩ => ⟨R, e, by omega, by omega, k3, k4, k5, k6.widen h1 h2⟩, h.2.2⟩
theorem lst_widen {lo hi lo' hi' n : Nat} {w : World} {a : Option Addr} (h : Lst lo hi w a n) (h1 : lo' ≤ lo) (h2 : hi ≤ hi') : Lst lo' hi' w a n :=
  h.imp id fun ⟨b, e, ho⟩ => ⟨b, e, ho.widen h1 h2⟩
/-- Parts that lie apart make a body that was made. -/
theorem gb_of {lo h1 h2 h3 h4 F : Nat} {w : World} {B : Bd} (m : GM lo h1 w B.pa B.ta B.pl B.tl F) (hF : F < h1 ∨ B.tl = 0) (s : Lst h1 h2 w B.sa (B.sl * 4)) (g : Lst h2 h3 w B.wa B.wl) (h12 : h1 ≤ h2) (h23 : h2 ≤ h3) (h34 : h3 ≤ h4) (hlo : lo ≤ h1) (hF' : F < h1) : GB lo h4 w B F := by
  have lp := lst_lv m.1
  have lt := m.lt
  have ls := lst_lv s
  have lg := lst_lv g
  refine ⟨m.widen (Nat.le_refl _) (by omega), lst_widen s (by omega) (by omega), lst_widen g (by omega) (by omega), fun X e => ?_, fun X e => ?_⟩
  · obtain ⟨x, ex, x1, x2⟩ := ls _ e
    cases ex
    refine ⟨by omega, fun e' => ?_, fun e' => ?_, fun e' => ?_⟩
    · obtain ⟨y, ey, y1, y2⟩ := lp _ e'; cases ey; omega
    · obtain ⟨y, ey, y1, y2, _⟩ := lt _ e'; cases ey; omega
    · obtain ⟨y, ey, y1, y2⟩ := lg _ e'; cases ey; omega
  · obtain ⟨x, ex, x1, x2⟩ := lg _ e
    cases ex
    refine ⟨by omega, fun e' => ?_, fun e' => ?_⟩
    · obtain ⟨y, ey, y1, y2⟩ := lp _ e'; cases ey; omega
    · obtain ⟨y, ey, y1, y2, _⟩ := lt _ e'; cases ey; omega
end Go.Proofs.Ytajglpkeojaelaa


/-
A body with other places, its lists copied: what the program makes. Conditions: it lies in memory, its triangles have three places each.
-/
namespace Go.Proofs.Ytajglpkeojaelaa
open Go Fk Go.RowKit
set_option linter.unusedVariables false
set_option maxRecDepth 8000

theorem owns_apart {w : World} {b1 b2 : Nat} {e1 e2 : TypeId} {s1 s2 n1 n2 c1 c2 : Nat} {a1 a2 : Option Addr} {x1 x2 : List Value} (h1 : w.ownsRow b1 e1 s1 (.slice a1 n1 c1) n1 x1) (h2 : w.ownsRow b2 e2 s2 (.slice a2 n2 c2) n2 x2) (he : e1 ≠ e2) : ∀ P R, a1 = some P → a2 = some R → P.block ≠ R.block := by
  intro P R hP hR hb
  subst hP
  subst hR
  rcases h1.2 with ⟨e, _⟩ | ⟨g, cap, cur, e, _, hh, _⟩
  · cases e
  rcases h2.2 with ⟨e', _⟩ | ⟨g', cap', cur', e', _, hh', _⟩
  · cases e'
  cases e
  cases e'
  have hb' : g = g' := hb
  subst hb'
  rw [hh] at hh'
  cases hh'
  exact he rfl
/-- What the parts of the mesh are before they are put into the box. -/
def PM (W : World) (n tl bo : Nat) (cs : List C3) (ts : List (List Int)) (w' : World) : Prop :=
  ∃ w1 qa qc ra rc fb fc xs, Below W.heap.size W w1 ∧ w1.ownsRow W.heap.size 40 3 (.slice qa n qc) n xs ∧ PV n xs cs ∧ w1.ownsRow (fb + 1) 33 1 (.slice ra tl rc) tl (rowVs fb tl) ∧ w1.ownsRow W.heap.size 2 1 (.slice (some ⟨fb, 0, none⟩) (tl * 3) fc) (tl * 3) (flatV ts tl) ∧ w' = setL w1 bo 0 [.slice qa n qc, .slice ra tl rc]
end Go.Proofs.Ytajglpkeojaelaa


/-
Which bodies are valid: what the model returns. Conditions: none.
-/
namespace Go.Proofs.Ytajglpkeojaelaa
open Go Fk Go.RowKit
set_option linter.unusedVariables false
set_option maxRecDepth 8000

set_option maxHeartbeats 4000000 in
theorem l03Is (pb : Nat) (B : Bd) (c : Bc) (w : World) (A : At w pb B.l) (h : IsB w B c) :
    Calls Try.prog 67 #[.pointer (some ⟨pb, 0, none⟩)] w fun e w' => e = .returned (.bool (bodyB c)) ∧ ∃ n, w' = w.drewN n := by
  have ui := Try.underlying42
  have um := Try.underlying38
  have us := Try.underlying144
  obtain ⟨lp, lt, ls, lw⟩ := h.lens
  have hpm : B.pl ≤ 9223372036854775807 := by have h1 := h.1.2.1; have h2 := h.1.2.2.1; unfold maxLen at h2; omega
  have hJ := fun n => l02Is pb B.pa B.ta B.pl B.pc B.tl B.tc c.cs c.ts (w.drewN n) (A 0 _ rfl) (A 1 _ rfl) (h.1.drew rfl) (h.2.1.drew rfl)
  have k0 := A 0 _ rfl
  have k1 := A 1 _ rfl
  have k2 := A 2 _ rfl
  have k5 := A 5 _ rfl
  have LS := Lib.hid ls
  have H := Lib.hid h
  have HA := Lib.hid A
  unfold bodyB
  rw [ls, lw, lp]
  clear h A lp lt lw ls
  cases hv : validB c.cs c.ts
  · simp only [hv] at hJ
    have HJ := Lib.hid hJ
    clear hJ hv
    by_cases h1 : B.sl ≤ 200
    · have g1 : ¬ (200 : Int) < B.sl := by omega
      by_cases h2 : B.wl = B.pl
      · have g2 : ((B.wl : Int) == (B.pl : Int)) = true := by simp [h2]
        have g2' : ((B.wl : Int) != (B.pl : Int)) = false := by simp [h2]
        clear h2
        go_enter Try.func67, Try.ntmps67
        go_wp2_with fail
        go_quiet ((go_at_call 113; exact Calls.quiet_of (HJ.out _)))
        go_wp2
        go_ret
        exact ⟨rfl, _, rfl⟩
      · have g2 : ((B.wl : Int) == (B.pl : Int)) = false := beq_eq_false_iff_ne.2 (by omega)
        have g2' : ((B.wl : Int) != (B.pl : Int)) = true := by simp; omega
        clear h2
        go_enter Try.func67, Try.ntmps67
        go_wp2_with fail
        go_quiet ((go_at_call 113; exact Calls.quiet_of (HJ.out _)))
        go_wp2
        go_ret
        exact ⟨rfl, _, rfl⟩
    · have g1 : (200 : Int) < B.sl := by omega
      go_enter Try.func67, Try.ntmps67
      go_wp2_with fail
      go_quiet ((go_at_call 113; exact Calls.quiet_of (HJ.out _)))
      go_wp2
      go_ret
      exact ⟨rfl, _, rfl⟩
  · simp only [hv] at hJ
    have HJ := Lib.hid hJ
    clear hJ hv
    by_cases h1 : B.sl ≤ 200
    · have g1 : ¬ (200 : Int) < B.sl := by omega
      rw [decide_eq_true h1]
      by_cases h2 : B.wl = B.pl
      · have g2 : ((B.wl : Int) == (B.pl : Int)) = true := by simp [h2]
        have g2' : ((B.wl : Int) != (B.pl : Int)) = false := by simp [h2]
        rw [decide_eq_true h2]
        clear h2
        go_enter Try.func67, Try.ntmps67
        go_wp2_with fail
        go_quiet ((go_at_call 113; exact Calls.quiet_of (HJ.out _)))
        go_wp2
        have hm : B.sl ≤ 9223372036854775807 := by omega
        go_loopw [36] (fun i w' => ∃ k : Nat, k ≤ B.sl ∧ i = .int .i64 k ∧ Aside (∀ j, j < k → springB B.pl (c.ss.getD j s0) = true) ∧ ∃ n, w' = w.drewN n) (fun i _ => B.sl - (intOf i).toNat)
        case atStart => exact ⟨0, Nat.zero_le _, rfl, (fun j hj => absurd hj (by omega)), _, rfl⟩
        case round =>
          obtain ⟨k, hk, rfl, hall, n, hw⟩ := hrel
          have c0' : wr.cell? ⟨pb, 0, none⟩ = some (.slice B.pa B.pl B.pc) := by rw [hw]; exact k0
          have c2' : wr.cell? ⟨pb, 2, none⟩ = some (.slice B.sa B.sl B.sc) := by rw [hw]; exact k2
          clear k0 k1 k2 k5
          by_cases hlt : k < B.sl
          · obtain ⟨b, o, hsa, hcell⟩ := H.out.2.2.1.some (by omega)
            obtain ⟨p, q, d0, d1, d2, d3, fp, fq⟩ := hcell k hlt
            have hJ := fun m => l03Spring b (o + k * 4) (c.ss.getD k s0).1 (c.ss.getD k s0).2.1 p B.pl (c.ss.getD k s0).2.2.1 (c.ss.getD k s0).2.2.2 (wr.drewN m) (by rw [hw]; exact d0) (by rw [hw]; exact d1) (by rw [hw]; exact d2) fp (by omega)
            have hsp : springB B.pl ((c.ss.getD k s0).1, (c.ss.getD k s0).2.1, (c.ss.getD k s0).2.2.1, (c.ss.getD k s0).2.2.2) = springB B.pl (c.ss.getD k s0) := rfl
            rw [hsp] at hJ
            have hk0 : (0 : Int) ≤ (k : Int) := by omega
            have hk1 : (k : Int) < (B.sl : Int) := by omega
            rw [hsa] at c2' 
            have HW := Lib.hid hw
            clear hcell hsp hsa fp fq d0 d1 d2 d3 hw
            cases hb : springB B.pl (c.ss.getD k s0)
            · have hres : Aside ((true && true && true && c.ss.all (springB B.pl)) = false) := by show (true && true && true && c.ss.all (springB B.pl)) = false; rw [ss_not (by rw [LS.out]; exact hlt) hb]; rfl
              rw [hb] at hJ
              have HJ2 := Lib.hid hJ
              clear hJ hall hb
              go_wp2_with fail
              go_quiet ((go_at_call 133; exact Calls.quiet_of (HJ2.out _)))
              go_wp2
              go_ret
              exact ⟨ret_bool hres.out.symm, drewn_end HW.out⟩
            · have hall' : Aside (∀ j, j < k + 1 → springB B.pl (c.ss.getD j s0) = true) := by
                intro j hj
                by_cases hjk : j = k
                · subst hjk; exact hb
                · exact hall.out j (by omega)
              rw [hb] at hJ
              have HJ2 := Lib.hid hJ
              clear hJ hall hb
              go_wp2_with fail
              go_quiet ((go_at_call 133; exact Calls.quiet_of (HJ2.out _)))
              go_wp2
              go_roundw
              case rel => exact ⟨k + 1, by omega, by go_num, hall', drewn_end HW.out⟩
              case measure => simp [intOf]; omega
          · have hkl : k = B.sl := by omega
            have hres : Aside ((true && true && true && c.ss.all (springB B.pl)) = true) := by show (true && true && true && c.ss.all (springB B.pl)) = true; rw [ss_all (by rw [LS.out, ← hkl]; exact hall.out)]; rfl
            have g3 : ¬ (k : Int) < (B.sl : Int) := by omega
            have HW := Lib.hid hw
            clear hall hkl hw
            go_wp2
            go_ret
            exact ⟨ret_bool hres.out.symm, n, HW.out⟩
      · have g2 : ((B.wl : Int) == (B.pl : Int)) = false := beq_eq_false_iff_ne.2 (by omega)
        have g2' : ((B.wl : Int) != (B.pl : Int)) = true := by simp; omega
        rw [decide_eq_false h2]
        clear h2
        go_enter Try.func67, Try.ntmps67
        go_wp2_with fail
        go_quiet ((go_at_call 113; exact Calls.quiet_of (HJ.out _)))
        go_wp2
        go_ret
        exact ⟨rfl, _, rfl⟩
    · have g1 : (200 : Int) < B.sl := by omega
      rw [decide_eq_false h1]
      go_enter Try.func67, Try.ntmps67
      go_wp2_with fail
      go_quiet ((go_at_call 113; exact Calls.quiet_of (HJ.out _)))
      go_wp2
      go_ret
      exact ⟨rfl, _, rfl⟩
end Go.Proofs.Ytajglpkeojaelaa

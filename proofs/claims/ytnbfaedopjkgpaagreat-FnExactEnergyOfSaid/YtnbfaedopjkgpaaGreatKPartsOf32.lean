/-
Texts in one: what PartsOf stands on, part 32. Conditions: those of each.
-/
import Derived.Test.YtnbfaedopjkgpaaGreatKPartsOf31

/-
A copy of a mesh: what the program makes. Conditions: the mesh lies in memory, its triangles have three places each.
-/
namespace Go.Proofs.YtnbfaedopjkgpaaGreat
open Go Fk Go.RowKit
set_option linter.unusedVariables false
set_option maxRecDepth 8000

theorem owns_apart {w : World} {b1 b2 : Nat} {e1 e2 : TypeId} {s1 s2 n1 n2 c1 c2 : Nat} {a1 a2 : Option Addr} {x1 x2 : List Value} (h1 : w.ownsRow b1 e1 s1 (.slice a1 n1 c1) n1 x1) (h2 : w.ownsRow b2 e2 s2 (.slice a2 n2 c2) n2 x2) (he : e1 ≠ e2) : ∀ P R, a1 = some P → a2 = some R → P.block ≠ R.block := by
  intro P R hP hR hb
  subst hP
  subst hR
  rcases h1.2 with ⟨e, _⟩ | ⟨g, cap, cur, e, _, hh, _⟩
  · cases e
  rcases h2.2 with ⟨e', _⟩ | ⟨g', cap', cur', e', _, hh', _⟩
  · cases e'
  cases e
  cases e'
  have hb' : g = g' := hb
  subst hb'
  rw [hh] at hh'
  cases hh'
  exact he rfl
theorem owns_set {w : World} {base : Nat} {e : TypeId} {s : Nat} {v : Value} {n : Nat} {xs : List Value} (h : w.ownsRow base e s v n xs) (b o : Nat) (hb : b < base) (u : Value) : (w.setCell ⟨b, o, none⟩ u).ownsRow base e s v n xs :=
  h.kept (grown_set w b o u) (by
    rcases hv : v.ownBlock with _ | g
    · exact .inl rfl
    · refine .inr fun e' => ?_
      have := (h.lt g hv).1
      cases e'
      omega)
theorem owns_setL {base : Nat} {e : TypeId} {s : Nat} {v : Value} {n : Nat} {xs : List Value} (b : Nat) (hb : b < base) : ∀ (vs : List Value) (w : World) (o : Nat), w.ownsRow base e s v n xs → (setL w b o vs).ownsRow base e s v n xs
  | [], _, _, h => h
  | x :: vs, w, o, h => owns_setL b hb vs _ _ (owns_set h b o hb x)
/-- What the parts of the mesh are before they are put into the box. -/
def PM (W : World) (n tl bo : Nat) (cs : List C3) (ts : List (List Int)) (w' : World) : Prop :=
  ∃ w1 qa qc ra rc fb fc xs, Below W.heap.size W w1 ∧ w1.ownsRow W.heap.size 40 3 (.slice qa n qc) n xs ∧ PV n xs cs ∧ w1.ownsRow (fb + 1) 61 1 (.slice ra tl rc) tl (rowVs fb tl) ∧ w1.ownsRow W.heap.size 2 1 (.slice (some ⟨fb, 0, none⟩) (tl * 3) fc) (tl * 3) (flatV ts tl) ∧ w' = setL w1 bo 0 [.slice qa n qc, .slice ra tl rc]
/-- A copy of a mesh, of the call's own. -/
def CP (w : World) (pl tl : Nat) (cs : List C3) (ts : List (List Int)) (v : Value) (w' : World) : Prop :=
  ∃ qa qc ra rc fb fc xs, v = .agg #[.slice qa pl qc, .slice ra tl rc] ∧ w'.ownsRow w.heap.size 40 3 (.slice qa pl qc) pl xs ∧ PV pl xs cs ∧ w'.ownsRow (fb + 1) 61 1 (.slice ra tl rc) tl (rowVs fb tl) ∧ w'.ownsRow w.heap.size 2 1 (.slice (some ⟨fb, 0, none⟩) (tl * 3) fc) (tl * 3) (flatV ts tl) ∧ Below w.heap.size w w'
end Go.Proofs.YtnbfaedopjkgpaaGreat


/-
A body with other places, its lists copied: what the program makes. Conditions: it lies in memory, its triangles have three places each.
-/
namespace Go.Proofs.YtnbfaedopjkgpaaGreat
open Go Fk Go.RowKit
set_option linter.unusedVariables false
set_option maxRecDepth 8000

end Go.Proofs.YtnbfaedopjkgpaaGreat


/-
Which bodies are valid: what the model returns. Conditions: none.
-/
namespace Go.Proofs.YtnbfaedopjkgpaaGreat
open Go Fk Go.RowKit
set_option linter.unusedVariables false
set_option maxRecDepth 8000

set_option maxHeartbeats 4000000 in
theorem l03Is (pb : Nat) (B : Bd) (c : Bc) (w : World) (A : At w pb B.l) (h : IsB w B c) :
    Calls Tryz.prog 44 #[.pointer (some ⟨pb, 0, none⟩)] w fun e w' => e = .returned (.bool (bodyB c)) ∧ ∃ n, w' = w.drewN n := by
  have ui := Tryz.underlying42
  have um := Tryz.underlying38
  have us := Tryz.underlying122
  obtain ⟨lp, lt, ls, lw⟩ := h.lens
  have hpm : B.pl ≤ 9223372036854775807 := by have h1 := h.1.2.1; have h2 := h.1.2.2.1; unfold maxLen at h2; omega
  have hJ := fun n => l02Is pb B.pa B.ta B.pl B.pc B.tl B.tc c.cs c.ts (w.drewN n) (A 0 _ rfl) (A 1 _ rfl) (h.1.drew rfl) (h.2.1.drew rfl)
  have k0 := A 0 _ rfl
  have k1 := A 1 _ rfl
  have k2 := A 2 _ rfl
  have k5 := A 5 _ rfl
  have LS := Lib.hid ls
  have H := Lib.hid h
  have HA := Lib.hid A
  unfold bodyB
  rw [ls, lw, lp]
  clear h A lp lt lw ls
  cases hv : validB c.cs c.ts
  · simp only [hv] at hJ
    have HJ := Lib.hid hJ
    clear hJ hv
    by_cases h1 : B.sl ≤ 200
    · have g1 : ¬ (200 : Int) < B.sl := by omega
      by_cases h2 : B.wl = B.pl
      · have g2 : ((B.wl : Int) == (B.pl : Int)) = true := by simp [h2]
        have g2' : ((B.wl : Int) != (B.pl : Int)) = false := by simp [h2]
        clear h2
        go_enter Tryz.func44, Tryz.ntmps44
        go_wp2_with fail
        go_quiet ((go_at_call 85; exact Calls.quiet_of (HJ.out _)))
        go_wp2
        go_ret
        exact ⟨rfl, _, rfl⟩
      · have g2 : ((B.wl : Int) == (B.pl : Int)) = false := beq_eq_false_iff_ne.2 (by omega)
        have g2' : ((B.wl : Int) != (B.pl : Int)) = true := by simp; omega
        clear h2
        go_enter Tryz.func44, Tryz.ntmps44
        go_wp2_with fail
        go_quiet ((go_at_call 85; exact Calls.quiet_of (HJ.out _)))
        go_wp2
        go_ret
        exact ⟨rfl, _, rfl⟩
    · have g1 : (200 : Int) < B.sl := by omega
      go_enter Tryz.func44, Tryz.ntmps44
      go_wp2_with fail
      go_quiet ((go_at_call 85; exact Calls.quiet_of (HJ.out _)))
      go_wp2
      go_ret
      exact ⟨rfl, _, rfl⟩
  · simp only [hv] at hJ
    have HJ := Lib.hid hJ
    clear hJ hv
    by_cases h1 : B.sl ≤ 200
    · have g1 : ¬ (200 : Int) < B.sl := by omega
      rw [decide_eq_true h1]
      by_cases h2 : B.wl = B.pl
      · have g2 : ((B.wl : Int) == (B.pl : Int)) = true := by simp [h2]
        have g2' : ((B.wl : Int) != (B.pl : Int)) = false := by simp [h2]
        rw [decide_eq_true h2]
        clear h2
        go_enter Tryz.func44, Tryz.ntmps44
        go_wp2_with fail
        go_quiet ((go_at_call 85; exact Calls.quiet_of (HJ.out _)))
        go_wp2
        have hm : B.sl ≤ 9223372036854775807 := by omega
        go_loopw [36] (fun i w' => ∃ k : Nat, k ≤ B.sl ∧ i = .int .i64 k ∧ Aside (∀ j, j < k → springB B.pl (c.ss.getD j s0) = true) ∧ ∃ n, w' = w.drewN n) (fun i _ => B.sl - (intOf i).toNat)
        case atStart => exact ⟨0, Nat.zero_le _, rfl, (fun j hj => absurd hj (by omega)), _, rfl⟩
        case round =>
          obtain ⟨k, hk, rfl, hall, n, hw⟩ := hrel
          have c0' : wr.cell? ⟨pb, 0, none⟩ = some (.slice B.pa B.pl B.pc) := by rw [hw]; exact k0
          have c2' : wr.cell? ⟨pb, 2, none⟩ = some (.slice B.sa B.sl B.sc) := by rw [hw]; exact k2
          clear k0 k1 k2 k5
          by_cases hlt : k < B.sl
          · obtain ⟨b, o, hsa, hcell⟩ := H.out.2.2.1.some (by omega)
            obtain ⟨p, q, d0, d1, d2, d3, fp, fq⟩ := hcell k hlt
            have hJ := fun m => l03Spring b (o + k * 4) (c.ss.getD k s0).1 (c.ss.getD k s0).2.1 p B.pl (c.ss.getD k s0).2.2.1 (c.ss.getD k s0).2.2.2 (wr.drewN m) (by rw [hw]; exact d0) (by rw [hw]; exact d1) (by rw [hw]; exact d2) fp (by omega)
            have hsp : springB B.pl ((c.ss.getD k s0).1, (c.ss.getD k s0).2.1, (c.ss.getD k s0).2.2.1, (c.ss.getD k s0).2.2.2) = springB B.pl (c.ss.getD k s0) := rfl
            rw [hsp] at hJ
            have hk0 : (0 : Int) ≤ (k : Int) := by omega
            have hk1 : (k : Int) < (B.sl : Int) := by omega
            rw [hsa] at c2' 
            have HW := Lib.hid hw
            clear hcell hsp hsa fp fq d0 d1 d2 d3 hw
            cases hb : springB B.pl (c.ss.getD k s0)
            · have hres : Aside ((true && true && true && c.ss.all (springB B.pl)) = false) := by show (true && true && true && c.ss.all (springB B.pl)) = false; rw [ss_not (by rw [LS.out]; exact hlt) hb]; rfl
              rw [hb] at hJ
              have HJ2 := Lib.hid hJ
              clear hJ hall hb
              go_wp2_with fail
              go_quiet ((go_at_call 86; exact Calls.quiet_of (HJ2.out _)))
              go_wp2
              go_ret
              exact ⟨ret_bool hres.out.symm, drewn_end HW.out⟩
            · have hall' : Aside (∀ j, j < k + 1 → springB B.pl (c.ss.getD j s0) = true) := by
                intro j hj
                by_cases hjk : j = k
                · subst hjk; exact hb
                · exact hall.out j (by omega)
              rw [hb] at hJ
              have HJ2 := Lib.hid hJ
              clear hJ hall hb
              go_wp2_with fail
              go_quiet ((go_at_call 86; exact Calls.quiet_of (HJ2.out _)))
              go_wp2
              go_roundw
              case rel => exact ⟨k + 1, by omega, by go_num, hall', drewn_end HW.out⟩
              case measure => simp [intOf]; omega
          · have hkl : k = B.sl := by omega
            have hres : Aside ((true && true && true && c.ss.all (springB B.pl)) = true) := by show (true && true && true && c.ss.all (springB B.pl)) = true; rw [ss_all (by rw [LS.out, ← hkl]; exact hall.out)]; rfl
            have g3 : ¬ (k : Int) < (B.sl : Int) := by omega
            have HW := Lib.hid hw
            clear hall hkl hw
            go_wp2
            go_ret
            exact ⟨ret_bool hres.out.symm, n, HW.out⟩
      · have g2 : ((B.wl : Int) == (B.pl : Int)) = false := beq_eq_false_iff_ne.2 (by omega)
        have g2' : ((B.wl : Int) != (B.pl : Int)) = true := by simp; omega
        rw [decide_eq_false h2]
        clear h2
        go_enter Tryz.func44, Tryz.ntmps44
        go_wp2_with fail
        go_quiet ((go_at_call 85; exact Calls.quiet_of (HJ.out _)))
        go_wp2
        go_ret
        exact ⟨rfl, _, rfl⟩
    · have g1 : (200 : Int) < B.sl := by omega
      rw [decide_eq_false h1]
      go_enter Tryz.func44, Tryz.ntmps44
      go_wp2_with fail
      go_quiet ((go_at_call 85; exact Calls.quiet_of (HJ.out _)))
      go_wp2
      go_ret
      exact ⟨rfl, _, rfl⟩
end Go.Proofs.YtnbfaedopjkgpaaGreat


/-
A body of its own: what the model makes. Conditions: it lies in memory, within the limits.
-/
namespace Go.Proofs.YtnbfaedopjkgpaaGreat
open Go Fk Go.RowKit
set_option linter.unusedVariables false
set_option maxRecDepth 8000

set_option maxHeartbeats 4000000 in
theorem l03Own (pb : Nat) (B : Bd) (c : Bc) (w : World) (A : At w pb B.l) (h : IsB w B c) (hpl : B.pl ≤ 1000) (htl : B.tl ≤ 1000) (h3 : ∀ k, k < B.tl → (c.ts.getD k []).length ≤ 1000) (hsl : B.sl ≤ 1000) (hwl : B.wl ≤ 1000) :
    Calls Tryz.prog 112 #[.pointer (some ⟨pb, 0, none⟩)] w fun e w' => ∃ B' : Bd, e = .returned B'.v ∧ IsB w' B' c ∧ LB w.heap.size w'.heap.size w' B' ∧ Below w.heap.size w w' := by
  have ui := Tryz.underlying42
  have uim := Tryz.underlying38
  obtain ⟨i0, hi, hz0, hz1, hz2⟩ := info_parts infoSp
  obtain ⟨j0, hj, hy0, hy1, hy2⟩ := info_parts info32
  have T0 : Hid (Tc w (w.heap.size + 1) w.heap.size B.l Z9' ((w.alloc (.cells #[.slice none 0 0, .slice none 0 0, .slice none 0 0, .float .f32 0, .float .f32 0, .slice none 0 0, .float .f32 0, .float .f32 0, .float .f32 0] 42)).alloc (BoxB B 42))) := Lib.hid
    ⟨by
      have := At.new (w := w.alloc (.cells #[.slice none 0 0, .slice none 0 0, .slice none 0 0, .float .f32 0, .float .f32 0, .slice none 0 0, .float .f32 0, .float .f32 0, .float .f32 0] 42)) (vs := B.l) (t := 42)
      simpa using this, At.new.alloc, fun i => by go_simp, fun i => by go_simp, ((Below.refl _ _).alloc (Nat.le_refl _) _).alloc (by simp) _, ⟨by omega, Nat.le_refl _, by omega⟩, by simp <;> omega⟩
  have H := Lib.hid h
  have HA := Lib.hid A
  have H3 := Lib.hid h3
  have hpl' := h.1.1
  have htl' := h.2.1.1
  have hsl' := h.2.2.1.1
  have hwl' := h.2.2.2.1.1
  have k0 := A 0 _ rfl
  have k1 := A 1 _ rfl
  have k2 := A 2 _ rfl
  have k3 := A 3 _ rfl
  have k4 := A 4 _ rfl
  have k5 := A 5 _ rfl
  have k6 := A 6 _ rfl
  have k7 := A 7 _ rfl
  have k8 := A 8 _ rfl
  have l0 := fun ob => cell_alloc (o := ob) k0
  have l1 := fun ob => cell_alloc (o := ob) k1
  have l2 := fun ob => cell_alloc (o := ob) k2
  have l3 := fun ob => cell_alloc (o := ob) k3
  have l4 := fun ob => cell_alloc (o := ob) k4
  have l5 := fun ob => cell_alloc (o := ob) k5
  have l6 := fun ob => cell_alloc (o := ob) k6
  have l7 := fun ob => cell_alloc (o := ob) k7
  have l8 := fun ob => cell_alloc (o := ob) k8
  clear h h3 A
  go_enter Tryz.func112, Tryz.ntmps112
  go_wp2_with fail
  clear l0 l1 l2 l3 l4 l5 l6 l7 l8 k0 k1 k2 k3 k4 k5 k6 k7 k8
  change Calls _ _ _ ((w.alloc (.cells #[.slice none 0 0, .slice none 0 0, .slice none 0 0, .float .f32 0, .float .f32 0, .slice none 0 0, .float .f32 0, .float .f32 0, .float .f32 0] 42)).alloc (BoxB B 42)) _
  generalize ((w.alloc (.cells #[.slice none 0 0, .slice none 0 0, .slice none 0 0, .float .f32 0, .float .f32 0, .slice none 0 0, .float .f32 0, .float .f32 0, .float .f32 0] 42)).alloc (BoxB B 42)) = W at *
  have A0 := Lib.hid (HA.out.below T0.out.bel)
  refine (l02Own pb B.pa B.ta B.pl B.pc B.tl B.tc c.cs c.ts W (A0.out 0 _ rfl) (A0.out 1 _ rfl) (H.out.1.below T0.out.bel) (H.out.2.1.below T0.out.bel) hpl htl H3.out).mono ?_
  rintro e w1 ⟨⟨va, vt, xs, rfl, hva, hpv, hvt⟩, hB1⟩
  obtain ⟨qa, qc, rfl⟩ := owns_slice hva
  obtain ⟨ra, rc, rfl⟩ := OwnT.slice hvt
  obtain ⟨ra', rc', e, hI⟩ := OwnT.is hvt htl' (ts_wf H.out.2.1)
  cases e
  have hlt := T0.out.lt
  have M1 := Lib.hid (And.intro (vs_owned hva hpl' hpv) (And.intro hI (And.intro (lv_of_owns hva) (lt_of_owns hvt))))
  have T1 := Lib.hid (T0.out.call hB1)
  have N1 := Lib.hid hlt
  clear hva hpv hvt hI hB1 hlt
  have e0 := T1.out.out 0 _ rfl
  have e1 := T1.out.out 1 _ rfl
  have g0 := T1.out.fo 0
  have g1 := T1.out.fo 1
  have T2 := Lib.hid (T1.out.put 0 (vs := [.slice qa B.pl qc, .slice ra B.tl rc]) (Nat.le_of_ble_eq_true rfl))
  have A1 := Lib.hid (Agree.setL (Sy.out (bo := w.heap.size + 1) (br := w.heap.size)) [.slice qa B.pl qc, .slice ra B.tl rc] w1 0 (Agree.refl (Sy (w.heap.size + 1) w.heap.size) w1))
  have X2 := Lib.hid (HA.out.below T2.out.bel)
  obtain ⟨W2, hW2⟩ : ∃ W2, W2 = setL w1 (w.heap.size + 1) 0 [.slice qa B.pl qc, .slice ra B.tl rc] := ⟨_, rfl⟩
  have HW2 := Lib.hid hW2
  rw [← hW2] at T2 A1 X2
  simp only [setL, Nat.zero_add, Nat.reduceAdd] at hW2
  obtain ⟨ys, y1, y2, y3, y4⟩ := ss_cells (H.out.2.2.1.below T2.out.bel)
  have Y2 := Lib.hid y2
  have Y3 := Lib.hid y3
  have Y4 := Lib.hid y4
  have Y1 := Lib.hid y1
  have hnone := H.out.2.2.1.2.2.2.2.1
  have HN := Lib.hid hnone
  clear y1 y2 y3 y4 hnone
  have x2 := X2.out 2 _ rfl
  rw [hW2] at x2
  have x2' := fun ob => cell_alloc (o := ob) x2
  have hszW2 : W2.heap.size = w1.heap.size := by rw [HW2.out, setL_size]
  have HST : Hid ((W2.alloc (.cells #[] 122)).ownsRow w1.heap.size 122 4 (.slice (some ⟨w1.heap.size, 0, none⟩) 0 0) 0 []) := Lib.hid (by
    have := World.ownsRow_lit (base := W2.heap.size) (e := 122) (size := 4) W2 #[] 0 (Nat.le_refl _) (by decide) rfl
    rw [hszW2] at this; exact this)
  go_wp2_with (at_builtin; go_loud (simp only [← hW2]; refine wpList_append_opt _ rfl _ _ 39 rfl w1.heap.size 122 i0 (.agg #[.int .i64 0, .int .i64 0, .float .f32 0, .float .f32 0]) 4 24 Tryz.underlying39 hi hz0 hz1 hz2 rfl (by decide) _ 0 [] rfl HST.out B.sa B.sl B.sc ys rfl HN.out Y1.out ?c2 ?c3 ?c4 ?c5 ?c6 ?_))
  case c2 =>
    intro ad had j u hu
    have := Y2.out ad had j u hu
    rw [World.cell?_alloc_lt (h := World.block_lt_of_cell? _ _ this)]
    exact this
  case c3 => exact Y3.out
  case c4 => unfold maxLen; omega
  case c5 => omega
  case c6 => simp [hszW2]
  intro v w3 hown hgrow
  rw [← hW2] at hgrow
  have hown' : w3.ownsRow W2.heap.size 122 4 v B.sl ys := by rw [hszW2]; simpa using hown
  have hB3 : Below W2.heap.size W2 w3 := ((Below.refl _ _).alloc (Nat.le_refl _) _).grown hgrow (by simp) (fun k hk => by simp [Value.ownBlock] at hk; omega)
  obtain ⟨sa, sc, rfl, hS, hSL⟩ := ss_of_owns hown' hsl' Y4.out H.out.2.2.1.2.2.2.1
  have T3 := Lib.hid (T2.out.call hB3)
  have A3 := Lib.hid (A1.out.trans (Agree.of_below hB3))
  have S3 := Lib.hid (And.intro hS hSL)
  have hz3 := hB3.size
  have X3 := Lib.hid (X2.out.below hB3)
  clear hown hgrow hown' hB3 hS hSL x2 x2' e0 e1 g0 g1 hW2
  have e2 := T3.out.out 2 _ rfl
  have g2 := T3.out.fo 2
  have T4 := Lib.hid (T3.out.put 2 (vs := [.slice sa B.sl sc]) (Nat.le_of_ble_eq_true rfl))
  have A4 := Lib.hid (Agree.setL (Sy.out (bo := w.heap.size + 1) (br := w.heap.size)) [.slice sa B.sl sc] w3 2 (Agree.refl (Sy (w.heap.size + 1) w.heap.size) w3))
  have X4 := Lib.hid (HA.out.below T4.out.bel)
  obtain ⟨W4, hW4⟩ : ∃ W4, W4 = setL w3 (w.heap.size + 1) 2 [.slice sa B.sl sc] := ⟨_, rfl⟩
  rw [← hW4] at T4 A4 X4
  have HW4 := Lib.hid hW4
  simp only [setL] at hW4
  obtain ⟨us, u1, u2, u3, u4⟩ := fs_cells (IsFs_below T4.out.bel H.out.2.2.2.1)
  have U2 := Lib.hid u2
  have U3 := Lib.hid u3
  have U4 := Lib.hid u4
  have U1 := Lib.hid u1
  have HN5 := Lib.hid H.out.2.2.2.1.2.2.2.2.1
  clear u1 u2 u3 u4
  have x5 := X4.out 5 _ rfl
  rw [hW4] at x5
  have x5' := fun ob => cell_alloc (o := ob) x5
  have hszW4 : W4.heap.size = w3.heap.size := by rw [HW4.out, setL_size]
  have HST4 : Hid ((W4.alloc (.cells #[] 27)).ownsRow w3.heap.size 27 1 (.slice (some ⟨w3.heap.size, 0, none⟩) 0 0) 0 []) := Lib.hid (by
    have := World.ownsRow_lit (base := W4.heap.size) (e := 27) (size := 1) W4 #[] 0 (Nat.le_refl _) (by decide) rfl
    rw [hszW4] at this; exact this)
  go_wp2_with (at_builtin; simp only [← hW4]; refine wpList_append_opt _ rfl _ _ 28 rfl w3.heap.size 27 j0 (.float .f32 0) 1 4 Tryz.underlying28 hj hy0 hy1 hy2 rfl (by decide) _ 0 [] rfl HST4.out B.wa B.wl B.wc us rfl HN5.out U1.out ?c2 ?c3 ?c4 ?c5 ?c6 ?_)
  case c2 =>
    intro ad had j u hu
    have := U2.out ad had j u hu
    rw [World.cell?_alloc_lt (h := World.block_lt_of_cell? _ _ this)]
    exact this
  case c3 => exact U3.out
  case c4 => unfold maxLen; omega
  case c5 => omega
  case c6 => simp [hszW4]
  intro v w5 hown hgrow
  rw [← hW4] at hgrow
  have hown' : w5.ownsRow W4.heap.size 27 1 v B.wl us := by rw [hszW4]; simpa using hown
  have hB5 : Below W4.heap.size W4 w5 := ((Below.refl _ _).alloc (Nat.le_refl _) _).grown hgrow (by simp) (fun k hk => by simp [Value.ownBlock] at hk; omega)
  obtain ⟨wa, wc, rfl, hZ, hZL⟩ := fs_of_owns hown' hwl' U4.out H.out.2.2.2.1.2.2.2.1
  have T5 := Lib.hid (T4.out.call hB5)
  have A5 := Lib.hid (A4.out.trans (Agree.of_below hB5))
  have F5 := Lib.hid (And.intro hZ hZL)
  have hz5 := hB5.size
  clear hown hgrow hown' hB5 hZ hZL x5 x5' e2 g2 hW4
  have e0 := T5.out.out 0 _ rfl
  have e1 := T5.out.out 1 _ rfl
  have e2 := T5.out.out 2 _ rfl
  have e3 := T5.out.out 3 _ rfl
  have e4 := T5.out.out 4 _ rfl
  have e5 := T5.out.out 5 _ rfl
  have e6 := T5.out.out 6 _ rfl
  have e7 := T5.out.out 7 _ rfl
  have e8 := T5.out.out 8 _ rfl
  have g5 := T5.out.fo 5
  have q0 := T5.out.res 0 _ rfl
  have p0 := T5.out.fr 0
  have q1 := T5.out.res 1 _ rfl
  have p1 := T5.out.fr 1
  have q2 := T5.out.res 2 _ rfl
  have p2 := T5.out.fr 2
  have q3 := T5.out.res 3 _ rfl
  have p3 := T5.out.fr 3
  have q4 := T5.out.res 4 _ rfl
  have p4 := T5.out.fr 4
  have q5 := T5.out.res 5 _ rfl
  have p5 := T5.out.fr 5
  have q6 := T5.out.res 6 _ rfl
  have p6 := T5.out.fr 6
  have q7 := T5.out.res 7 _ rfl
  have p7 := T5.out.fr 7
  have q8 := T5.out.res 8 _ rfl
  have p8 := T5.out.fr 8
  have T6 := Lib.hid (T5.out.put 5 (vs := [.slice wa B.wl wc]) (Nat.le_of_ble_eq_true rfl))
  have A6 := Lib.hid (Agree.setL (Sy.out (bo := w.heap.size + 1) (br := w.heap.size)) [.slice wa B.wl wc] w5 5 (Agree.refl (Sy (w.heap.size + 1) w.heap.size) w5))
  obtain ⟨hR, hBB⟩ := T6.out.fin (vs' := [.slice qa B.pl qc, .slice ra B.tl rc, .slice sa B.sl sc, .float .f32 B.film, .float .f32 B.bend, .slice wa B.wl wc, .float .f32 B.x, .float .f32 B.y, .float .f32 B.z]) rfl
  have A7 := Agree.setL (Sy.res (bo := w.heap.size + 1) (br := w.heap.size)) [.slice qa B.pl qc, .slice ra B.tl rc, .slice sa B.sl sc, .float .f32 B.film, .float .f32 B.bend, .slice wa B.wl wc, .float .f32 B.x, .float .f32 B.y, .float .f32 B.z] _ 0 A6.out
  simp only [setL, Nat.zero_add, Nat.reduceAdd] at hR hBB A7
  have HR := Lib.hid hR
  have HBB := Lib.hid hBB
  have HA7 := Lib.hid A7
  clear hR hBB A7
  go_wp2
  clear e0 e1 e2 e3 e4 e5 e6 e7 e8 g5 q0 q1 q2 q3 q4 q5 q6 q7 q8 p0 p1 p2 p3 p4 p5 p6 p7 p8
  have m0 := HR.out 0 _ rfl
  have m1 := HR.out 1 _ rfl
  have m2 := HR.out 2 _ rfl
  have m3 := HR.out 3 _ rfl
  have m4 := HR.out 4 _ rfl
  have m5 := HR.out 5 _ rfl
  have m6 := HR.out 6 _ rfl
  have m7 := HR.out 7 _ rfl
  have m8 := HR.out 8 _ rfl
  have G3 := HA7.out
  have G2 := A5.out.trans G3
  have G1 := A3.out.trans G2
  refine bodyPost_ret (v := (⟨qa, ra, sa, wa, B.pl, qc, B.tl, rc, B.sl, sc, B.wl, wc, B.film, B.bend, B.x, B.y, B.z⟩ : Bd).v) (by simp [results, Tryz.results112, go_sem, m0, m1, m2, m3, m4, m5, m6, m7, m8]) rfl ?_
  have z1 := A1.out.size
  have z4 := A4.out.size
  have n1 := N1.out
  have t1 := T1.out.lt
  have t3 := T3.out.lt
  have t2 := T2.out.lt
  have t4 := T4.out.lt
  have s1 : ∀ q, W.heap.size ≤ q → q < w1.heap.size → Sy (w.heap.size + 1) w.heap.size q := Sy.new (by omega) (by omega)
  have s2 : ∀ q, W2.heap.size ≤ q → q < w3.heap.size → Sy (w.heap.size + 1) w.heap.size q := Sy.new (by omega) (by omega)
  have s3 : ∀ q, W4.heap.size ≤ q → q < w5.heap.size → Sy (w.heap.size + 1) w.heap.size q := Sy.new (by omega) (by omega)
  have y1 := G1.size
  have y2 := G2.size
  have y3 := G3.size
  refine ⟨_, rfl, ⟨vs_agree M1.out.1 M1.out.2.2.1 s1 G1, ts_agree M1.out.2.1 M1.out.2.2.2 s1 G1, ss_agree S3.out.1 (lst_lv S3.out.2) s2 G2, fs_agree F5.out.1 (lst_lv F5.out.2) s3 G3, H.out.2.2.2.2⟩, ?_, HBB.out⟩
  exact ⟨M1.out.2.2.1.wide (by omega) (by omega), (lt_agree M1.out.2.2.2 s1 G1).wide (by omega) (by omega), (lst_lv S3.out.2).wide (by omega) (by omega), (lst_lv F5.out.2).wide (by omega) (by omega)⟩
end Go.Proofs.YtnbfaedopjkgpaaGreat

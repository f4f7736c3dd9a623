/-
Texts in one: what HoldMesh stands on, part 36. Conditions: those of each.
-/
import Derived.Test.YtajglpkeojaelaaKHoldMesh35

/-
Meshes that are held: what the program returns. Conditions: the mesh and the holds lie in memory.
-/
namespace Go.Proofs.Ytajglpkeojaelaa
open Go Fk Go.RowKit
set_option linter.unusedVariables false
set_option maxRecDepth 16000

theorem flat_agreeS {S : Nat → Prop} {W w : World} {lo hi n F : Nat} {a : Option Addr} (h : Flat lo hi W a n F) (hS : ∀ R, a = some R → S R.block ∧ S F) (hA : Agree S W w) : Flat lo hi w a n F :=
  h.imp id fun ⟨R, e, k1, k2, k3, k4, k5, k6⟩ => ⟨R, e, k1, k2, Nat.lt_of_lt_of_le k3 hA.size, k4, k5.same (fun i v hv => hA.cell _ _ _ (hS _ e).1 hv), k6.1, k6.2.1, Nat.lt_of_lt_of_le k6.2.2.1 hA.size, fun j hj => by
    obtain ⟨⟨v, hv⟩, hf⟩ := k6.2.2.2 j hj
    exact ⟨⟨v, hA.cell _ _ _ (hS _ e).2 hv⟩, by rw [hA.frozen _ _ (hS _ e).2 k6.2.2.1]; exact hf⟩⟩
theorem lts_of_flat {S : Nat → Prop} {w : World} {lo hi n F : Nat} {a : Option Addr} (h : Flat lo hi w a n F) (hn : 0 < n) (hS : ∀ R, a = some R → S R.block ∧ S F) : LTs S w a n := fun x hx => by
  rcases h with ⟨e, h0⟩ | ⟨R, e, k1, k2, k3, k4, k5, k6⟩
  · omega
  · rw [hx] at e
    cases e
    refine ⟨R, rfl, (hS _ hx).1, fun i hi => ?_⟩
    obtain ⟨cc, hcc⟩ := k5 i hi
    exact ⟨some ⟨F, i * 3, none⟩, 3, cc, hcc, fun y hy => (by cases hy; exact ⟨F, i * 3, rfl, (hS _ hx).2⟩)⟩
theorem ts_flat {S : Nat → Prop} {W w : World} {lo hi n F c : Nat} {a : Option Addr} {ts : List (List Int)} (h : IsTs W a n c ts) (hF : Flat lo hi W a n F) (hS : ∀ R, a = some R → S R.block ∧ S F) (hA : Agree S W w) : IsTs w a n c ts := by
  by_cases hn : 0 < n
  · exact ts_agreeS h (lts_of_flat hF hn hS) (fun _ hb => hb) hA
  · obtain ⟨h1, h2, h3, h4, h5⟩ := h
    exact ⟨h1, h2, h3, h4, fun x hx i hi => absurd hi (by omega)⟩
/-- A mesh that was made lies in a box of its own. -/
def PH (W : World) (n tl b : Nat) (cs : List C3) (ts : List (List Int)) (w' : World) : Prop :=
  ∃ w1 qa qc ra rc fb fc xs, Below W.heap.size W w1 ∧ w1.ownsRow W.heap.size 40 3 (.slice qa n qc) n xs ∧ PV n xs cs ∧ w1.ownsRow (fb + 1) 33 1 (.slice ra tl rc) tl (rowVs fb tl) ∧ w1.ownsRow W.heap.size 2 1 (.slice (some ⟨fb, 0, none⟩) (tl * 3) fc) (tl * 3) (flatV ts tl) ∧ w1.ownsRow W.heap.size 38 2 (.slice (some ⟨b, 0, none⟩) 1 1) 1 [.slice none 0 0, .slice none 0 0] ∧ w' = setL w1 b 0 [.slice qa n qc, .slice ra tl rc]
/-- What is known once the places are put. -/
def PK (W : World) (n tl b hi fb : Nat) (qa ra : Option Addr) (qc rc : Nat) (cs : List C3) (ts : List (List Int)) (w' : World) : Prop :=
  Below W.heap.size W w' ∧ At w' b [.slice qa n qc, .slice ra tl rc] ∧ hi ≤ w'.heap.size ∧ IsVs w' qa n qc cs ∧ IsTs w' ra tl rc ts ∧ GM W.heap.size hi w' qa ra n tl fb
set_option maxHeartbeats 1000000 in
theorem held_put (pl tl hl hc b : Nat) (ha : Option Addr) (cs : List C3) (ts : List (List Int)) (hs : List HC) (w1 W3 : World) (h : PH w1 pl tl b cs ts W3) (hh : IsHs w1 ha hl hc hs) (hg : ∀ k, k < hl → inB pl (hs.getD k hd0).1 = true) (hpl : cs.length = pl) (htl : ts.length = tl) (q1 : pl ≤ 64) (h3 : ∀ j, j < tl → (ts.getD j []).length = 3) (hz : ∀ j, j < tl → ∀ z ∈ ts.getD j [], (Lit.int .i64 z).wf = true) :
    ∃ hi fb qa qc ra rc, Calls Try.prog 111 #[.pointer (some ⟨b, 0, none⟩), .slice ha hl hc] W3 fun e w' => e = .returned (.tuple #[]) ∧ PK w1 pl tl b hi fb qa ra qc rc (putF hs cs) ts w' := by
  obtain ⟨w2, qa, qc, ra, rc, fb, fc, xs, hB, hq, hpv, hr, hfl, hbx, rfl⟩ := h
  obtain ⟨ra', rc', e, hI, hF⟩ := rows_mesh hr hfl htl h3 hz
  cases e
  have hb := hbx.lt b rfl
  have aq := owns_apart hbx hq (by decide)
  have ar := owns_apart hbx hr (by decide)
  have af : b ≠ fb := owns_apart hbx hfl (by decide) _ _ rfl rfl
  have gr := owns_apart hq hr (by decide)
  have gf := owns_apart hq hfl (by decide)
  have hA0 : At w2 b [.slice none 0 0, .slice none 0 0] := fun i v hv => by
    match i with
    | 0 => cases hv; exact cell0_of hbx
    | 1 => cases hv; exact cell1_of hbx
    | _ + 2 => simp at hv
  have hAt := at_setL (vs := [.slice qa pl qc, .slice ra tl rc]) (o := 0) hA0 (Nat.le_of_ble_eq_true rfl)
  have hAb : Agree (fun q => q ≠ b) w2 (setL w2 b 0 [.slice qa pl qc, .slice ra tl rc]) := Agree.setL (fun h => h rfl) _ _ 0 (Agree.refl _ _)
  have hBB : Below w1.heap.size w1 (setL w2 b 0 [.slice qa pl qc, .slice ra tl rc]) := setL_below b hb.1 _ _ 0 hB
  have hV := vs_owned hq hpl hpv
  refine ⟨w2.heap.size, fb, qa, qc, ra, rc, ?_⟩
  rcases own_blk hq hpv hpl with ⟨e, h0⟩ | ⟨g, cap, e, hgb, _, _, hO⟩
  · cases e
    obtain rfl : hl = 0 := by
      rcases Nat.eq_zero_or_pos hl with h | h
      · exact h
      · have := of_decide_eq_true (hg 0 h)
        omega
    have hs0 : hs = [] := List.eq_nil_of_length_eq_zero hh.1
    subst hs0
    refine (put_none ha hc b _).mono ?_
    rintro e w' ⟨rfl, rfl⟩
    have hS : ∀ R, ra = some R → R.block ≠ b ∧ fb ≠ b := fun R hR => ⟨fun e => ar _ R rfl hR e.symm, fun e => af e.symm⟩
    refine ⟨rfl, hBB, hAt, by rw [setL_size]; exact Nat.le_refl _, ⟨hpl, Nat.le_refl _, Nat.zero_le _, fun _ => ⟨rfl, rfl⟩, fun x hx => (by cases hx)⟩, ts_flat hI hF hS hAb, .inl ⟨rfl, rfl⟩, flat_agreeS hF hS hAb, fun P hP => (by cases hP)⟩
  · cases e
    have hbg : b ≠ g := aq _ _ rfl rfl
    have hO3 : OwnVs (setL w2 b 0 [.slice (some ⟨g, 0, none⟩) pl qc, .slice ra tl rc]) g cs := hO.agree (S := fun q => q ≠ b) (fun e => hbg e.symm) hAb
    have hSt : St w1 [(b, [.slice (some ⟨g, 0, none⟩) pl qc, .slice ra tl rc])] g cs (setL w2 b 0 [.slice (some ⟨g, 0, none⟩) pl qc, .slice ra tl rc]) := ⟨hBB, fun b' l hm => by
      simp only [List.mem_singleton, Prod.mk.injEq] at hm
      obtain ⟨rfl, rfl⟩ := hm
      exact ⟨hAt, fun i => by rw [setL_frozen]; exact hbx.frozenAt i, by rw [setL_size]; exact hb.2, hbg⟩, hgb, hO3⟩
    refine (put_placesA ha hl hc b g pl qc (.slice ra tl rc) hs cs _ w1 _ hh hSt (.head _) hg hpl (by omega)).mono ?_
    rintro e w' ⟨rfl, hS4, hA4⟩
    have hS : ∀ R, ra = some R → (R.block ≠ b ∧ R.block ≠ g) ∧ (fb ≠ b ∧ fb ≠ g) := fun R hR => ⟨⟨fun e => ar _ R rfl hR e.symm, fun e => gr _ R rfl hR e.symm⟩, fun e => af e.symm, fun e => gf _ _ rfl rfl e.symm⟩
    have hA : Agree (fun q => q ≠ b ∧ q ≠ g) w2 w' := (hAb.less (fun q hq => hq.1)).trans (hA4.less (fun q hq => hq.2))
    have hO4 := hS4.own
    have hl4 : (putF hs cs).length = pl := by rw [putF_len]; exact hpl
    have hV4 : IsVs w' (some ⟨g, 0, none⟩) pl qc (putF hs cs) := by
      have := hO4.is
      rw [hl4] at this
      exact ⟨hl4, hV.2.1, hV.2.2.1, hV.2.2.2.1, this.2.2.2.2⟩
    have hsz : w2.heap.size ≤ w'.heap.size := hA.size
    have hfb := (hfl.lt fb rfl).1
    refine ⟨rfl, hS4.bel, hS4.mem (.head _), hsz, hV4, ts_flat hI hF hS hA, .inr ⟨g, rfl, vec_own hV4 hO4.2.1 hgb hO.2.2 hO4.2.2⟩, flat_agreeS hF hS hA, fun P hP => (by cases hP; exact ⟨gf _ _ rfl rfl, fun R hR => gr _ R rfl hR⟩)⟩
set_option maxHeartbeats 4000000 in
theorem impl_HoldMesh (pa ta ha : Option Addr) (pl pc tl tc hl hc : Nat) (cs : List C3) (ts : List (List Int)) (hs : List HC) (w : World) (hp : IsVs w pa pl pc cs) (ht : IsTs w ta tl tc ts) (hh : IsHs w ha hl hc hs) (hsm : hl ≤ 1048576) :
    Calls Try.prog 59 #[.agg #[.slice pa pl pc, .slice ta tl tc], .slice ha hl hc] w fun e w' => MadeG w w' e (areB cs ts hs) (rHV cs ts hs) (rHT cs ts hs) := by
  have ui := Try.underlying38
  have T0 : Hid (Tc w w.heap.size (w.heap.size + 1) [.slice pa pl pc, .slice ta tl tc] [.slice none 0 0, .slice none 0 0] ((w.alloc (.cells #[.slice pa pl pc, .slice ta tl tc] 38)).alloc (.cells #[.slice none 0 0, .slice none 0 0] 38))) := Lib.hid
    ⟨At.new.alloc, by
      have := At.new (w := w.alloc (.cells #[.slice pa pl pc, .slice ta tl tc] 38)) (vs := [.slice none 0 0, .slice none 0 0]) (t := 38)
      simpa using this, fun i => by go_simp, fun i => by go_simp, ((Below.refl _ _).alloc (Nat.le_refl _) _).alloc (by simp) _, ⟨Nat.le_refl _, by omega, by omega⟩, by simp <;> omega⟩
  have HP := Lib.hid hp
  have HT := Lib.hid ht
  have HH := Lib.hid hh
  have hpl := hp.1
  have htl := ht.1
  have hhl := hh.1
  have J := Lib.hid (impl_AreHolds pa ta ha pl pc tl tc hl hc cs ts hs _ (hp.below T0.out.bel) (ht.below T0.out.bel) (hh.below T0.out.bel) hsm)
  unfold rHV rHT
  clear hp ht hh
  cases hv : areB cs ts hs
  · rw [hv] at J
    clear hv
    go_enter Try.func59, Try.ntmps59
    go_wp2_with fail
    generalize ((w.alloc (.cells #[.slice pa pl pc, .slice ta tl tc] 38)).alloc (.cells #[.slice none 0 0, .slice none 0 0] 38)) = W at *
    refine J.out.mono ?_
    rintro e w2 ⟨rfl, hB1⟩
    have T2 := Lib.hid (T0.out.call hB1)
    clear hB1
    have q0 := T2.out.res 0 _ rfl
    have q1 := T2.out.res 1 _ rfl
    have p0 := T2.out.fr 0
    have p1 := T2.out.fr 1
    obtain ⟨hR, hBB⟩ := T2.out.fin (vs' := [.slice none 0 0, .slice none 0 0]) rfl
    simp only [setL, Nat.zero_add, Nat.reduceAdd] at hR hBB
    have HR := Lib.hid hR
    have HBB := Lib.hid hBB
    clear hR hBB
    go_wp2
    clear q0 q1 p0 p1
    have m0 := HR.out 0 _ rfl
    have m1 := HR.out 1 _ rfl
    refine bodyPost_ret (v := .tuple #[.agg #[.slice none 0 0, .slice none 0 0], .bool false]) (by simp [results, Try.results59, go_sem, m0, m1]) rfl ?_
    exact madeG_none HBB.out
  · obtain ⟨s1, s2, s3, s4⟩ := are_parts hv
    rw [hv] at J
    have H3 := Lib.hid (fun j (hj : j < tl) => s3 j (by omega))
    have H4 := Lib.hid (fun k (hk : k < hl) => show inB pl (hs.getD k hd0).1 = true by rw [← hpl]; exact s4 k (by omega))
    rw [hpl] at s1
    rw [htl] at s2
    clear hv s3 s4
    show Calls _ _ _ _ (fun e w' => MadeG w w' e true (putF hs cs) ts)
    go_enter Try.func59, Try.ntmps59
    go_wp2_with fail
    generalize ((w.alloc (.cells #[.slice pa pl pc, .slice ta tl tc] 38)).alloc (.cells #[.slice none 0 0, .slice none 0 0] 38)) = W at *
    refine J.out.mono ?_
    rintro e w1 ⟨rfl, hB1⟩
    have T1 := Lib.hid (T0.out.call hB1)
    clear hB1
    go_wp2_with fail
    refine Reg6.wp_region_mix (s := 8) (C := fun w' => Below w1.heap.size w1 w') (D := fun a w' => ∃ b, a.eval (.tmp 6) = .pointer (some ⟨b, 0, none⟩) ∧ PH w1 pl tl b cs ts w') (G := fun w1 w2 => Below w1.heap.size w1 w2)
      (Rv := fun i v => match i with | 0 => v = .pointer (some ⟨w.heap.size, 0, none⟩) | 1 => v = .slice pa pl pc | 3 => v = .agg #[.slice pa pl pc, .slice ta tl tc] | _ => True)
      (Rw := fun i v w' => match i with
        | 2 => ∃ qa qc xs, v = .slice qa pl qc ∧ w'.ownsRow w1.heap.size 40 3 (.slice qa pl qc) pl xs ∧ PV pl xs cs
        | 4 => ∃ cb, v = .slice (some ⟨cb, 0, none⟩) tl tl ∧ IsCs w' cb tl ts
        | 5 => ∃ ra rc fb fc, v = .slice ra tl rc ∧ w'.ownsRow (fb + 1) 33 1 (.slice ra tl rc) tl (rowVs fb tl) ∧ w'.ownsRow w1.heap.size 2 1 (.slice (some ⟨fb, 0, none⟩) (tl * 3) fc) (tl * 3) (flatV ts tl)
        | 6 => ∃ qa qc xs ra rc fb fc, v = .agg #[.slice qa pl qc, .slice ra tl rc] ∧ (w'.ownsRow w1.heap.size 40 3 (.slice qa pl qc) pl xs ∧ PV pl xs cs) ∧ w'.ownsRow (fb + 1) 33 1 (.slice ra tl rc) tl (rowVs fb tl) ∧ w'.ownsRow w1.heap.size 2 1 (.slice (some ⟨fb, 0, none⟩) (tl * 3) fc) (tl * 3) (flatV ts tl)
        | 7 => ∃ b, v = .pointer (some ⟨b, 0, none⟩) ∧ w'.ownsRow w1.heap.size 38 2 (.slice (some ⟨b, 0, none⟩) 1 1) 1 [.slice none 0 0, .slice none 0 0]
        | _ => True) [false, false, false, false, false, false, true, false, false, false, false, false, true, true, true, true, true, true, true, false, false, false]
      (by kernel_rfl) (by kernel_rfl) (by kernel_rfl) ?_ (below_drewN (Below.refl _ _) 1) ?_ ?_
    · intro j v w1 w2 hC hG hR
      match j with
      | 0 => trivial
      | 1 => trivial
      | 2 => obtain ⟨qa, qc, xs, e, h1, h2⟩ := hR; exact ⟨qa, qc, xs, e, owns_up h1 hG, h2⟩
      | 3 => trivial
      | 4 => obtain ⟨cb, e, h1⟩ := hR; exact ⟨cb, e, h1.below hG⟩
      | 5 => obtain ⟨ra, rc, fb, fc, e, h1, h2⟩ := hR; exact ⟨ra, rc, fb, fc, e, owns_up h1 hG, owns_up h2 hG⟩
      | 6 => obtain ⟨qa, qc, xs, ra, rc, fb, fc, e, ⟨h0, hp⟩, h1, h2⟩ := hR; exact ⟨qa, qc, xs, ra, rc, fb, fc, e, ⟨owns_up h0 hG, hp⟩, owns_up h1 hG, owns_up h2 hG⟩
      | 7 => obtain ⟨b, e, h⟩ := hR; exact ⟨b, e, owns_up h hG⟩
      | _ + 8 => trivial
    · refine ⟨?_, ?_, ?_, ?_, ?_, ?_, ?_, ?_, ?_, trivial⟩
      · refine Reg6.Obl.early rfl (by kernel_rfl) ?_
        rintro a' wq hC hx hd K hK
        have HC := Lib.hid hC
        clear hC
        have t2 : a'.tmps[2]?.getD undef = .pointer (some ⟨w.heap.size, 0, none⟩) := Reg.slot_val (hx 2 (by kernel_rfl))
        go_simp
        exact hK _ _ rfl trivial HC.out (Below.refl _ _)
      · refine Reg6.Obl.early rfl (by kernel_rfl) ?_
        rintro a' wq hC hx hd K hK
        have HC := Lib.hid hC
        clear hC
        have t12 : a'.tmps[12]?.getD undef = .pointer (some ⟨w.heap.size, 0, none⟩) := Reg.slot_val (hd 0 12 (by kernel_rfl) rfl).1
        have y0 := (T1.out.call HC.out).out 0 _ rfl
        go_simp
        exact hK _ _ rfl trivial HC.out (Below.refl _ _)
      · refine Reg6.Obl.early rfl (by kernel_rfl) ?_
        rintro a' wq hC hx hd K hK
        have HC := Lib.hid hC
        clear hC
        have t13 : a'.tmps[13]?.getD undef = .slice pa pl pc := Reg.slot_val (hd 1 13 (by kernel_rfl) rfl).1
        go_simp
        refine (clone_vecs pa pl pc cs wq (HP.out.below (T1.out.call HC.out).bel) (by omega)).mono ?_
        rintro en w2 ⟨⟨v, xs, rfl, hown, hpv⟩, hB2⟩
        obtain ⟨qa, qc, rfl⟩ := owns_slice hown
        exact hK _ _ trivial ⟨qa, qc, xs, rfl, owns_low hown HC.out.size, hpv⟩ (HC.out.trans (hB2.mono HC.out.size)) hB2
      · refine Reg6.Obl.early rfl (by kernel_rfl) ?_
        rintro a' wq hC hx hd K hK
        have HC := Lib.hid hC
        clear hC
        have t2 : a'.tmps[2]?.getD undef = .pointer (some ⟨w.heap.size, 0, none⟩) := Reg.slot_val (hx 2 (by kernel_rfl))
        have y0 := (T1.out.call HC.out).out 0 _ rfl
        have y1 := (T1.out.call HC.out).out 1 _ rfl
        go_simp
        exact hK _ _ rfl trivial HC.out (Below.refl _ _)
      · refine Reg6.Obl.early rfl (by kernel_rfl) ?_
        rintro a' wq hC hx hd K hK
        have HC := Lib.hid hC
        clear hC
        have t15 : a'.tmps[15]?.getD undef = .agg #[.slice pa pl pc, .slice ta tl tc] := Reg.slot_val (hd 3 15 (by kernel_rfl) rfl).1
        go_simp
        refine (all_corners' pa ta pl pc tl tc ts wq (HT.out.below (T1.out.call HC.out).bel) H3.out s2).mono ?_
        rintro en w2 ⟨rfl, hCs, hB2, _⟩
        exact hK _ _ trivial ⟨_, rfl, hCs⟩ (HC.out.trans (hB2.mono HC.out.size)) hB2
      · refine Reg6.Obl.early rfl (by kernel_rfl) ?_
        rintro a' wq hC hx hd K hK
        have HC := Lib.hid hC
        clear hC
        obtain ⟨cb, g16, hCs⟩ := (hd 4 16 (by kernel_rfl) rfl).2
        have t16 := Reg.slot_val g16
        clear g16
        have HCs := Lib.hid hCs
        clear hCs
        go_simp
        refine (triangle_lists cb tl ts wq HCs.out (by omega)).mono ?_
        rintro en w2 ⟨v, fb, fc, rfl, hfb, hrow, hflat, hB2⟩
        obtain ⟨ra, rc, rfl⟩ := owns_slice hrow
        exact hK _ _ trivial ⟨ra, rc, fb, fc, rfl, hrow, owns_low hflat HC.out.size⟩ (HC.out.trans (hB2.mono HC.out.size)) hB2
      · refine Reg6.Obl.early rfl (by kernel_rfl) ?_
        rintro a' wq hC hx hd K hK
        have HC := Lib.hid hC
        clear hC
        obtain ⟨qa, qc, xs, g14, hq⟩ := (hd 2 14 (by kernel_rfl) rfl).2
        have t14 := Reg.slot_val g14
        clear g14
        obtain ⟨ra, rc, fb, fc, g17, hr⟩ := (hd 5 17 (by kernel_rfl) rfl).2
        have t17 := Reg.slot_val g17
        clear g17
        have HQ := Lib.hid hq
        have HR := Lib.hid hr
        clear hq hr
        go_simp
        exact hK _ _ trivial ⟨qa, qc, xs, ra, rc, fb, fc, rfl, HQ.out, HR.out⟩ HC.out (Below.refl _ _)
      · refine Reg6.Obl.early rfl (by kernel_rfl) ?_
        rintro a' wq hC hx hd K hK
        have HC := Lib.hid hC
        clear hC
        have HZ : Hid ((wq.alloc (.cells #[.slice none 0 0, .slice none 0 0] 38)).ownsRow w1.heap.size 38 2 (.slice (some ⟨wq.heap.size, 0, none⟩) 1 1) 1 [.slice none 0 0, .slice none 0 0]) := Lib.hid (by
          have := World.ownsRow_lit (base := w1.heap.size) (e := 38) (size := 2) wq #[.slice none 0 0, .slice none 0 0] 1 HC.out.size (by decide) rfl
          simpa using this)
        go_simp
        exact hK _ _ trivial ⟨_, rfl, HZ.out⟩ (HC.out.alloc HC.out.size _) ((Below.refl _ _).alloc (Nat.le_refl _) _)
      · refine Reg6.Obl.store rfl ?_
        rintro a' wq hC hx hd K hK
        have HC := Lib.hid hC
        clear hC
        obtain ⟨b, g6, hbx⟩ := (hd 7 6 (by kernel_rfl) rfl).2
        have t6 := Reg.slot_val g6
        obtain ⟨qa, qc, xs, ra, rc, fb, fc, g18, hq, hr1, hr2⟩ := (hd 6 18 (by kernel_rfl) rfl).2
        have t18 := Reg.slot_val g18
        clear g18
        have G6 := Lib.hid g6
        have HP : Hid (PH w1 pl tl b cs ts (setL wq b 0 [.slice qa pl qc, .slice ra tl rc])) := Lib.hid ⟨wq, qa, qc, ra, rc, fb, fc, xs, HC.out, hq.1, hq.2, hr1, hr2, hbx, rfl⟩
        have y0 := cell0_of hbx
        have y1 := cell1_of hbx
        have f0 := hbx.frozenAt 0
        have f1 := hbx.frozenAt 1
        clear hq hr1 hr2 g6 hbx
        go_simp
        exact hK _ ⟨b, G6.out, HP.out⟩
    rintro f w3 hD hd
    obtain ⟨b, e6, hP⟩ := hD
    have g6 : f 6 = .pointer (some ⟨b, 0, none⟩) := e6
    clear e6 hd
    simp only [Reg.mixL, g6]
    clear g6
    have hble : w1.heap.size ≤ b ∧ Below w1.heap.size w1 w3 := by
      obtain ⟨w2, qa, qc, ra, rc, fb, fc, xs, hB, hq, hpv, hr, hfl, hbx, rfl⟩ := hP
      exact ⟨(hbx.lt b rfl).1, setL_below b (hbx.lt b rfl).1 _ _ 0 hB⟩
    obtain ⟨hi, fb, qa, qc, ra, rc, hPut⟩ := held_put pl tl hl hc b ha cs ts hs w1 w3 hP (HH.out.below T1.out.bel) H4.out hpl htl s1 H3.out (ts_wf HT.out)
    have HPut := Lib.hid hPut
    clear hPut hP hble
    go_wp2_with fail
    refine HPut.out.mono ?_
    rintro e w4 ⟨rfl, hB4, hAt, hhi, hV, hT, hG⟩
    have hlt := T1.out.lt
    have hb1 := T1.out.bel.size
    have T4 := Lib.hid (T1.out.call hB4)
    have k0 := hAt 0 _ rfl
    have k1 := hAt 1 _ rfl
    have q0 := T4.out.res 0 _ rfl
    have q1 := T4.out.res 1 _ rfl
    have p0 := T4.out.fr 0
    have p1 := T4.out.fr 1
    obtain ⟨hR, hBB⟩ := T4.out.fin (vs' := [.slice qa pl qc, .slice ra tl rc]) rfl
    have hA := Agree.setL (Sy.res (bo := w.heap.size) (br := w.heap.size + 1)) [.slice qa pl qc, .slice ra tl rc] _ 0 (Agree.refl (Sy w.heap.size (w.heap.size + 1)) w4)
    have hs' : ∀ q, w1.heap.size ≤ q → q < hi → Sy w.heap.size (w.heap.size + 1) q := Sy.new hlt.1 hlt.2
    have M := Lib.hid (And.intro (vs_agree hV hG.lv hs' hA) (And.intro (ts_agree hT hG.lt hs' hA) ((hG.agree hs' hA).widen (lo' := w.heap.size) hb1 (Nat.le_trans hhi hA.size))))
    simp only [setL, Nat.zero_add, Nat.reduceAdd] at hR hBB M
    have HR := Lib.hid hR
    have HBB := Lib.hid hBB
    clear hR hBB hA hs' hV hT hG hB4 hAt
    go_wp2
    clear q0 q1 p0 p1 k0 k1
    have m0 := HR.out 0 _ rfl
    have m1 := HR.out 1 _ rfl
    refine bodyPost_ret (v := .tuple #[.agg #[.slice qa pl qc, .slice ra tl rc], .bool true]) (by simp [results, Try.results59, go_sem, m0, m1]) rfl ?_
    have e1 : (putF hs cs).length = pl := by rw [putF_len]; exact hpl
    refine ⟨⟨qa, qc, ra, rc, fb, ?_⟩, HBB.out⟩
    rw [e1, htl]
    exact ⟨rfl, M.out⟩
end Go.Proofs.Ytajglpkeojaelaa


/-
Lists of integers that a function made, and marks in holds and meshes. Conditions: the cells may be written.
-/
namespace Go.Proofs.Ytajglpkeojaelaa
open Go Fk Go.RowKit
set_option linter.unusedVariables false
set_option maxRecDepth 16000

theorem owns_below {w w' : World} {base : Nat} {e : TypeId} {size : Nat} {v : Value} {n : Nat} {xs : List Value} (h : w.ownsRow base e size v n xs) (hB : Below w.heap.size w w') : w'.ownsRow base e size v n xs :=
  h.kept (row := none) ⟨hB.os, hB.tape, hB.output, hB.size, fun k hk _ => hB.block k hk⟩ (by cases v.ownBlock <;> simp)
theorem owns_mono {w : World} {base base' : Nat} {e : TypeId} {size : Nat} {v : Value} {n : Nat} {xs : List Value} (h : w.ownsRow base e size v n xs) (hb : base' ≤ base) : w.ownsRow base' e size v n xs := by
  obtain ⟨h1, h2⟩ := h
  refine ⟨h1, h2.imp id ?_⟩
  rintro ⟨g, cap, cur, h3, h4, h5⟩
  exact ⟨g, cap, cur, h3, Nat.le_trans hb h4, h5⟩
theorem owns_list {w : World} {base : Nat} {v : Value} {L : List Int} (h : w.ownsRow base 2 1 v L.length (L.map (Value.int .i64))) (hL : ∀ z ∈ L, (Lit.int .i64 z).wf = true) :
    ∃ a cap, v = .slice a L.length cap ∧ IsIs w a L.length cap L ∧ Lst base w.heap.size w a L.length := by
  have h' := h
  obtain ⟨h1, h2⟩ := h
  rcases h2 with ⟨rfl, hn⟩ | ⟨g, cap, cur, rfl, hb, hh, hc1, hc2, hs, ht⟩
  · refine ⟨none, 0, by rw [hn], ⟨rfl, by omega, by unfold maxLen; omega, hL, fun _ => ⟨hn, rfl⟩, fun x hx => by cases hx⟩, .inl ⟨rfl, hn⟩⟩
  · have hg := h'.lt g rfl
    have hcell : ∀ j, j < L.length → w.cell? ⟨g, j, none⟩ = some (.int .i64 (L.getD j 0)) := by
      intro j hj
      rw [h'.cellAt j (by omega)]
      simp [List.getD, hj]
    refine ⟨_, cap, rfl, ⟨rfl, hc1, hc2, hL, by simp, fun x hx i hi => ?_⟩, .inr ⟨g, rfl, hb, hg.2, hg.2, fun j hj => ⟨⟨_, by rw [Nat.zero_add]; exact hcell j hj⟩, by rw [Nat.zero_add]; exact h'.frozenAt j⟩⟩⟩
    cases hx
    rw [addr_add', Nat.zero_add]; exact hcell i hi
/-- The marks that were written are there. -/
def Mrk (w : World) (a : Option Addr) (n : Nat) : Prop := (a = none → n = 0) ∧ ∀ b o s, a = some ⟨b, o, s⟩ → s = none ∧ ∀ j, j < n → w.cell? ⟨b, o + j, none⟩ = some (.int .i64 ((1 + j : Nat) : Int))
theorem mark_any (lo hi : Nat) (a : Option Addr) (n cap : Nat) (w : World) (h : Lst lo hi w a n) (hn : n ≤ 2000000) :
    Calls Try.prog 51 #[.slice a n cap, .int .i64 1] w fun e w' => e = .returned (.int .i64 ((1 + n : Nat) : Int)) ∧ Mrk w' a n ∧ Mark lo hi w w' := by
  rcases h with ⟨rfl, rfl⟩ | ⟨b, rfl, hown⟩
  · go_enter Try.func51, Try.ntmps51
    go_wp2
    refine wp_loop_rounds 1 ?_
    rw [rounds_succ]
    go_wp2
    go_ret
    exact ⟨rfl, ⟨fun _ => rfl, fun _ _ _ h => by cases h⟩, Mark.refl _ _ _⟩
  · refine (laws_markInt64S lo hi b 0 n cap 1 w hown (by omega)).mono ?_
    rintro e w' ⟨he, hd, _, hM⟩
    exact ⟨he, ⟨fun h => by (cases h), fun b' o s h => by cases h; exact ⟨rfl, hd⟩⟩, hM⟩
theorem held_any (a : Option Addr) (n cap : Nat) (w : World) (h : Mrk w a n) (hn : n ≤ 2000000) :
    Calls Try.prog 52 #[.slice a n cap, .int .i64 1] w fun e w' => e = .returned (.int .i64 ((1 + n : Nat) : Int)) ∧ w' = w := by
  cases a with
  | none =>
    obtain rfl := h.1 rfl
    go_enter Try.func52, Try.ntmps52
    go_wp2
    refine wp_loop_rounds 1 ?_
    rw [rounds_succ]
    go_wp2
    go_ret
    exact ⟨rfl, by first | rfl | trivial⟩
  | some x =>
    obtain ⟨b, o, s⟩ := x
    obtain ⟨rfl, hd⟩ := h.2 b o s rfl
    exact laws_heldInt64S b o n cap 1 w hd (by omega)
theorem Mrk.below {w w' : World} {a : Option Addr} {n : Nat} (h : Mrk w a n) (hB : Below w.heap.size w w') : Mrk w' a n :=
  ⟨h.1, fun b o s e => ⟨(h.2 b o s e).1, fun j hj => cell_below hB ((h.2 b o s e).2 j hj)⟩⟩
/-- A list outside the blocks that are marked is as it was. -/
theorem is_mark {lo hi lo' hi' : Nat} {w0 w w' : World} {a : Option Addr} {n cap : Nat} {L : List Int} (h : IsIs w a n cap L) (hl : Lst lo' hi' w0 a n) (hM : Mark lo hi w w') (ho : hi' ≤ lo ∨ hi ≤ lo') : IsIs w' a n cap L := by
  obtain ⟨h1, h2, h3, h4, h5, h6⟩ := h
  refine ⟨h1, h2, h3, h4, h5, fun x hx i hi => ?_⟩
  rcases hl with ⟨e, _⟩ | ⟨b, e, hown⟩
  · rw [e] at hx; cases hx
  · rw [e] at hx; cases hx
    have := h6 _ e i hi
    rw [addr_add'] at this ⊢
    have u1 := hown.1
    have u2 := hown.2.1
    exact hM.cell (by omega) this
theorem laws_markMeshR (lo hi b o b' o' pl pc tl tc : Nat) (ts : List (List Int)) (k0 : Nat) (w : World) (h : OwnM lo hi w b o b' o' pl tl ts) (hlo : lo ≤ w.heap.size) (h1 : pl ≤ 1048576) (h2 : tl ≤ 1048576) (hn : ∀ j, j < tl → (ts.getD j []).length ≤ 1048576) (hk : k0 ≤ 1000000) :
    Calls Try.prog 45 #[.agg #[.slice (some ⟨b, o, none⟩) pl pc, .slice (some ⟨b', o', none⟩) tl tc], .int .i64 k0] w fun e w' => ∃ z : Nat, z ≤ 2000000000000000000 ∧ e = .returned (.int .i64 z) ∧ Mark lo hi w w' := by
  have ui := Try.underlying38
  obtain ⟨hown, hrows, hne, hlt⟩ := h
  have hA : Mark lo hi w (w.alloc (.cells #[.slice (some ⟨b, o, none⟩) pl pc, .slice (some ⟨b', o', none⟩) tl tc] 38)) := Mark.alloc hlo _
  have a1 : (w.alloc (.cells #[.slice (some ⟨b, o, none⟩) pl pc, .slice (some ⟨b', o', none⟩) tl tc] 38)).cell? ⟨w.heap.size, 1, none⟩ = some (.slice (some ⟨b', o', none⟩) tl tc) := by go_simp
  have a0 : (w.alloc (.cells #[.slice (some ⟨b, o, none⟩) pl pc, .slice (some ⟨b', o', none⟩) tl tc] 38)).cell? ⟨w.heap.size, 0, none⟩ = some (.slice (some ⟨b, o, none⟩) pl pc) := by go_simp
  have nb : w.heap.size ≠ b := by have := hown.2.2.1; omega
  have hV := laws_markVectorS lo hi b o pl pc k0 _ (hown.mark hA) (by omega)
  have hs : ∀ i, (w.alloc (.cells #[.slice (some ⟨b, o, none⟩) pl pc, .slice (some ⟨b', o', none⟩) tl tc] 38)).cell? ⟨b', i, none⟩ = w.cell? ⟨b', i, none⟩ := fun i => by rw [World.cell?_alloc_lt (h := hlt)]
  have HV := Lib.hid hV
  have HA := Lib.hid hA
  have HR := Lib.hid (hrows.mark hs hA)
  have HNE := Lib.hid hne
  have HNB := Lib.hid nb
  have HN := Lib.hid hn
  clear hV hA hrows hne hs nb hown hlt hn
  generalize hCH : w.alloc (.cells #[.slice (some ⟨b, o, none⟩) pl pc, .slice (some ⟨b', o', none⟩) tl tc] 38) = W at *
  go_enter Try.func45, Try.ntmps45
  go_wp2_with fail
  refine HV.out.mono ?_
  rintro e w1 ⟨rfl, _, ho, hM1⟩
  have a1' : w1.cell? ⟨w.heap.size, 1, none⟩ = some (.slice (some ⟨b', o', none⟩) tl tc) := (ho _ _ (.inl HNB.out)).trans a1
  have HR1 := Lib.hid (HR.out.mark (fun i => ho b' i (.inl (fun h => HNE.out h.symm))) hM1)
  have HM1 := Lib.hid (HA.out.trans hM1)
  clear ho hM1 a0 a1 HV HR hCH
  generalize hq : k0 + pl * 3 = q at *
  have hq' : q ≤ 1000000000000000000 := by omega
  clear hq
  go_wp2_with (go_at_call 93; refine (laws_markInt64SS lo hi b' o' tl tc ts q w1 HR1.out h2 HN.out hq').mono ?_; rintro e w2 ⟨z, hz, rfl, _, hM2⟩; have HM2 := Lib.hid hM2; clear hM2)
  go_ret
  exact ⟨z, by omega, rfl, HM1.out.trans HM2.out⟩
end Go.Proofs.Ytajglpkeojaelaa


/-
Copies of lists of holds that may be written, and marks in them. Conditions: at most 2^20 of them.
-/
namespace Go.Proofs.Ytajglpkeojaelaa
open Go Fk Go.RowKit
set_option linter.unusedVariables false
set_option maxRecDepth 16000

set_option maxHeartbeats 1000000 in
theorem laws_toHoldSO (a : Option Addr) (len cap : Nat) (hs : List HC) (w : World) (h : IsHs w a len cap hs) (hlen : len ≤ 1048576) :
    Calls Try.prog 39 #[.slice a len cap] w fun e w' => e = .returned (.slice (some ⟨w.heap.size, 0, none⟩) len len) ∧ IsHs w' (some ⟨w.heap.size, 0, none⟩) len len hs ∧ Below w.heap.size w w' ∧ ∀ lo hi, lo ≤ w.heap.size → w.heap.size < hi → Own lo hi w' w.heap.size 0 (len * 8) := by
  have uh := Try.underlying119
  have ul := Try.underlying122
  obtain ⟨i0, hi, hz0, hz1, hz2⟩ := info_parts infoH
  have hzl := h.1
  have hwf := h.2.2.2.1
  obtain ⟨g, hg⟩ : ∃ g, g = w.heap.size := ⟨_, rfl⟩
  have hmk : (Instr.makeSlice 72 (.int .i64 len) (.int .i64 len)).run Try.prog w = .ok (.slice (some ⟨g, 0, none⟩) len len) (w.alloc (.cells (madeCells #[.int .i64 0, .int .i64 0, .float .f32 0, .float .f32 0, .float .f32 0, .float .f32 0, .float .f32 0, .float .f32 0] (len * 8)) 119)) := by
    have := run_make (P := Try.prog) w 72 119 i0 (.agg #[.int .i64 0, .int .i64 0, .float .f32 0, .float .f32 0, .float .f32 0, .float .f32 0, .float .f32 0, .float .f32 0]) Try.underlying72 hi hz0 .i64 .i64 len len (by omega) (Int.le_refl _) (by rw [hz2]; omega) (by omega)
    rw [this, hz1, hg]; simp; rfl
  have hstart : Below w.heap.size w (w.alloc (.cells (madeCells #[.int .i64 0, .int .i64 0, .float .f32 0, .float .f32 0, .float .f32 0, .float .f32 0, .float .f32 0, .float .f32 0] (len * 8)) 119)) ∧ g < (w.alloc (.cells (madeCells #[.int .i64 0, .int .i64 0, .float .f32 0, .float .f32 0, .float .f32 0, .float .f32 0, .float .f32 0, .float .f32 0] (len * 8)) 119)).heap.size ∧
      (∀ j, j < len * 8 → ∃ v, (w.alloc (.cells (madeCells #[.int .i64 0, .int .i64 0, .float .f32 0, .float .f32 0, .float .f32 0, .float .f32 0, .float .f32 0, .float .f32 0] (len * 8)) 119)).cell? ⟨g, j, none⟩ = some v) ∧ (∀ j, (w.alloc (.cells (madeCells #[.int .i64 0, .int .i64 0, .float .f32 0, .float .f32 0, .float .f32 0, .float .f32 0, .float .f32 0, .float .f32 0] (len * 8)) 119)).frozen? ⟨g, j, none⟩ = false) := by
    subst hg
    exact ⟨(Below.refl _ _).alloc (Nat.le_refl _) _, by simp, fun j hj => made_cell3 w _ (len * 8) j _ hj, fun j => by simp⟩
  rw [← hg] at hstart ⊢
  have HST := Lib.hid hstart
  have HG := Lib.hid hg
  have H := Lib.hid h
  have HWF := Lib.hid hwf
  clear hstart hg h hwf
  go_enter Try.func39, Try.ntmps39
  go_wp2
  generalize hw0 : (w.alloc (.cells (madeCells #[.int .i64 0, .int .i64 0, .float .f32 0, .float .f32 0, .float .f32 0, .float .f32 0, .float .f32 0, .float .f32 0] (len * 8)) 119)) = w0 at HST ⊢
  go_loopw [4] (fun i w' => ∃ k : Nat, k ≤ len ∧ i = .int .i64 k ∧ Aside ((Below g w w' ∧ g < w'.heap.size ∧ (∀ j, j < len * 8 → ∃ v, w'.cell? ⟨g, j, none⟩ = some v) ∧ (∀ j, w'.frozen? ⟨g, j, none⟩ = false)) ∧
      ∀ j, j < k → ∃ q : HW, q.At w' g (j * 8) ∧ q.Is (hs.getD j hd0))) (fun i _ => len - (intOf i).toNat)
  case atStart => exact ⟨0, Nat.zero_le _, rfl, HST.out, fun j hj => absurd hj (by omega)⟩
  case round =>
    obtain ⟨k, hk, rfl, hA⟩ := hrel
    by_cases hlt : k < len
    · obtain ⟨⟨hB, hgs, hce, hfz⟩, hdone⟩ := hA.out
      obtain ⟨b, o, ha, hcell⟩ := (H.out.below (HG.out ▸ hB)).some (by omega)
      obtain ⟨h, hq, hqi⟩ := hcell k hlt
      rw [ha]
      have HA := Lib.hid ha
      have hk0 : (0 : Int) ≤ (k : Int) := by omega
      have hk1 : (k : Int) < (len : Int) := by omega
      have c0 := hq 0 (by omega)
      have c1 := hq 1 (by omega)
      have c2 := hq 2 (by omega)
      have c3 := hq 3 (by omega)
      have c4 := hq 4 (by omega)
      have c5 := hq 5 (by omega)
      have c6 := hq 6 (by omega)
      have c7 := hq 7 (by omega)
      simp only [HW.l, List.getElem?_cons_zero, List.getElem?_cons_succ, Nat.add_zero] at c0 c1 c2 c3 c4 c5 c6 c7
      have HD := Lib.hid hdone
      have HC := Lib.hid hce
      have HF := Lib.hid hfz
      have HB := Lib.hid hB
      have HQI := Lib.hid hqi
      clear hA hcell hdone hce hfz hB hqi ha hq
      go_wp2_with fail
      refine (laws_toHold h _).mono ?_
      rintro e w1 ⟨rfl, hB1⟩
      clear c0 c1 c2 c3 c4 c5 c6 c7
      obtain ⟨v0, hv0⟩ := HC.out (k * 8) (by omega)
      replace hv0 := (hB1.cell (p := ⟨g, k * 8, none⟩) hgs).trans hv0
      have hf0 := (hB1.frozen (p := ⟨g, k * 8, none⟩) hgs).trans (HF.out (k * 8))
      obtain ⟨v1, hv1⟩ := HC.out (k * 8 + 1) (by omega)
      replace hv1 := (hB1.cell (p := ⟨g, k * 8 + 1, none⟩) hgs).trans hv1
      have hf1 := (hB1.frozen (p := ⟨g, k * 8 + 1, none⟩) hgs).trans (HF.out (k * 8 + 1))
      obtain ⟨v2, hv2⟩ := HC.out (k * 8 + 2) (by omega)
      replace hv2 := (hB1.cell (p := ⟨g, k * 8 + 2, none⟩) hgs).trans hv2
      have hf2 := (hB1.frozen (p := ⟨g, k * 8 + 2, none⟩) hgs).trans (HF.out (k * 8 + 2))
      obtain ⟨v3, hv3⟩ := HC.out (k * 8 + 3) (by omega)
      replace hv3 := (hB1.cell (p := ⟨g, k * 8 + 3, none⟩) hgs).trans hv3
      have hf3 := (hB1.frozen (p := ⟨g, k * 8 + 3, none⟩) hgs).trans (HF.out (k * 8 + 3))
      obtain ⟨v4, hv4⟩ := HC.out (k * 8 + 4) (by omega)
      replace hv4 := (hB1.cell (p := ⟨g, k * 8 + 4, none⟩) hgs).trans hv4
      have hf4 := (hB1.frozen (p := ⟨g, k * 8 + 4, none⟩) hgs).trans (HF.out (k * 8 + 4))
      obtain ⟨v5, hv5⟩ := HC.out (k * 8 + 5) (by omega)
      replace hv5 := (hB1.cell (p := ⟨g, k * 8 + 5, none⟩) hgs).trans hv5
      have hf5 := (hB1.frozen (p := ⟨g, k * 8 + 5, none⟩) hgs).trans (HF.out (k * 8 + 5))
      obtain ⟨v6, hv6⟩ := HC.out (k * 8 + 6) (by omega)
      replace hv6 := (hB1.cell (p := ⟨g, k * 8 + 6, none⟩) hgs).trans hv6
      have hf6 := (hB1.frozen (p := ⟨g, k * 8 + 6, none⟩) hgs).trans (HF.out (k * 8 + 6))
      obtain ⟨v7, hv7⟩ := HC.out (k * 8 + 7) (by omega)
      replace hv7 := (hB1.cell (p := ⟨g, k * 8 + 7, none⟩) hgs).trans hv7
      have hf7 := (hB1.frozen (p := ⟨g, k * 8 + 7, none⟩) hgs).trans (HF.out (k * 8 + 7))
      have HB1 := Lib.hid hB1
      have HEX : Hid (∀ j, j < h.l.length → ∃ u, w1.cell? ⟨g, k * 8 + j, none⟩ = some u) := Lib.hid (fun j hj => by
        have hj8 : j < 8 := hj
        obtain ⟨u, hu⟩ := HC.out (k * 8 + j) (by omega)
        exact ⟨u, (hB1.cell (p := ⟨g, k * 8 + j, none⟩) hgs).trans hu⟩)
      clear hB1
      unfold HW.v
      go_wp2
      clear hv0 hv1 hv2 hv3 hv4 hv5 hv6 hv7 hf0 hf1 hf2 hf3 hf4 hf5 hf6 hf7
      go_roundw
      case rel =>
        have hB1 := HB1.out
        have hin := setL_in g h.l w1 (k * 8) HEX.out
        have hout := fun m hm => setL_out g m h.l w1 (k * 8) hm
        have hsz := setL_size g h.l w1 (k * 8)
        have hfr := fun i => setL_frozen g ⟨g, i, none⟩ h.l w1 (k * 8)
        have hbl : Below g w (setL w1 g (k * 8) h.l) := setL_below g (Nat.le_refl _) h.l w1 (k * 8) (HB.out.trans (hB1.mono (by omega)))
        refine ⟨k + 1, by omega, by go_num, ⟨⟨hbl, ?_, fun j hj => ?_, fun j => ?_⟩, fun j hj => ?_⟩⟩
        · show g < (setL w1 g (k * 8) h.l).heap.size
          rw [hsz]; have := hB1.size; omega
        · show ∃ v, (setL w1 g (k * 8) h.l).cell? ⟨g, j, none⟩ = some v
          by_cases hj8 : k * 8 ≤ j ∧ j < k * 8 + 8
          · have := hin (j - k * 8) (by show j - k * 8 < 8; omega)
            rw [show k * 8 + (j - k * 8) = j by omega] at this
            rw [this]
            exact ⟨_, List.getElem?_eq_getElem (by show j - k * 8 < 8; omega)⟩
          · rw [hout j (by show j < k * 8 ∨ k * 8 + 8 ≤ j; omega)]
            obtain ⟨v, hv⟩ := HC.out j hj
            exact ⟨v, (hB1.cell (p := ⟨g, j, none⟩) hgs).trans hv⟩
        · show (setL w1 g (k * 8) h.l).frozen? ⟨g, j, none⟩ = false
          rw [hfr]; exact (hB1.frozen (p := ⟨g, j, none⟩) hgs).trans (HF.out j)
        · show ∃ q : HW, q.At (setL w1 g (k * 8) h.l) g (j * 8) ∧ q.Is (hs.getD j hd0)
          by_cases hjk : j = k
          · subst hjk
            exact ⟨h, fun i hi => hin i hi, HQI.out⟩
          · obtain ⟨q, hq, hqi⟩ := HD.out j (by omega)
            refine ⟨q, fun i hi => ?_, hqi⟩
            rw [hout _ (by show j * 8 + i < k * 8 ∨ k * 8 + 8 ≤ j * 8 + i; omega)]
            exact (hB1.cell (p := ⟨g, j * 8 + i, none⟩) hgs).trans (hq i hi)
      case measure => simp [intOf]; omega
    · obtain rfl : k = len := by omega
      obtain ⟨⟨hB, hgs, hce, hfz⟩, hdone⟩ := hA.out
      have hfin : IsHs wr (some ⟨g, 0, none⟩) k k hs := by
        refine ⟨hzl, Nat.le_refl _, by unfold maxLen; omega, HWF.out, by simp, fun x hx i hi => ?_⟩
        cases hx
        obtain ⟨q, hq, hqi⟩ := hdone i hi
        exact ⟨rfl, q, by rw [Nat.zero_add]; exact hq, hqi⟩
      have hown : ∀ lo hi, lo ≤ g → g < hi → Own lo hi wr g 0 (k * 8) := fun lo hi h1 h2 => ⟨h1, h2, hgs, fun j hj => ⟨by rw [Nat.zero_add]; exact hce j hj, by rw [Nat.zero_add]; exact hfz j⟩⟩
      have HO := Lib.hid hown
      have HF := Lib.hid hfin
      have HB := Lib.hid hB
      clear hown
      clear hA hB hce hfz hdone hfin
      go_wp2
      go_ret
      exact ⟨rfl, HF.out, HB.out, HO.out⟩
set_option maxHeartbeats 4000000 in
theorem laws_markHoldS (lo hi b o len cap : Nat) (k0 : Nat) (w : World) (h : Own lo hi w b o (len * 8)) (hk : k0 + len * 8 ≤ 9000000000000000000) :
    Calls Try.prog 46 #[.slice (some ⟨b, o, none⟩) len cap, .int .i64 k0] w fun e w' => e = .returned (.int .i64 ((k0 + len * 8 : Nat) : Int)) ∧ Mark lo hi w w' := by
  have u := Try.underlying27
  have uv := Try.underlying40
  have uh := Try.underlying119
  obtain ⟨h1, h2, h3, h4⟩ := h
  have H4 := Lib.hid h4
  have H1 := Lib.hid h1
  have H2 := Lib.hid h2
  have H3 := Lib.hid h3
  clear h1 h2 h3 h4
  go_enter Try.func46, Try.ntmps46
  go_wp2
  go_loopw [1, 5] (fun q i w' => ∃ k : Nat, k ≤ len ∧ i = .int .i64 k ∧ q = .int .i64 ((k0 + k * 8 : Nat) : Int) ∧ Aside (Mark lo hi w w')) (fun _ i _ => len - (intOf i).toNat)
  case atStart => exact ⟨0, Nat.zero_le _, rfl, rfl, Mark.refl _ _ _⟩
  case round =>
    obtain ⟨k, hkl, rfl, rfl, hA⟩ := hrel
    by_cases hlt : k < len
    · have hM := hA.out
      obtain ⟨v0, hv0⟩ := hM.alive _ _ (H4.out (k * 8) (by omega)).1
      obtain ⟨v1, hv1⟩ := hM.alive _ _ (H4.out (k * 8 + 1) (by omega)).1
      obtain ⟨v2, hv2⟩ := hM.alive _ _ (H4.out (k * 8 + 2) (by omega)).1
      obtain ⟨v3, hv3⟩ := hM.alive _ _ (H4.out (k * 8 + 3) (by omega)).1
      obtain ⟨v4, hv4⟩ := hM.alive _ _ (H4.out (k * 8 + 4) (by omega)).1
      obtain ⟨v5, hv5⟩ := hM.alive _ _ (H4.out (k * 8 + 5) (by omega)).1
      obtain ⟨v6, hv6⟩ := hM.alive _ _ (H4.out (k * 8 + 6) (by omega)).1
      obtain ⟨v7, hv7⟩ := hM.alive _ _ (H4.out (k * 8 + 7) (by omega)).1
      have hf0 : wr.frozen? ⟨b, o + k * 8, none⟩ = false := by rw [hM.frozen _ _ H3.out]; exact (H4.out (k * 8) (by omega)).2
      have hf1 : wr.frozen? ⟨b, o + k * 8 + 1, none⟩ = false := by rw [hM.frozen _ _ H3.out]; exact (H4.out (k * 8 + 1) (by omega)).2
      have hf2 : wr.frozen? ⟨b, o + k * 8 + 2, none⟩ = false := by rw [hM.frozen _ _ H3.out]; exact (H4.out (k * 8 + 2) (by omega)).2
      have hf3 : wr.frozen? ⟨b, o + k * 8 + 3, none⟩ = false := by rw [hM.frozen _ _ H3.out]; exact (H4.out (k * 8 + 3) (by omega)).2
      have hf4 : wr.frozen? ⟨b, o + k * 8 + 4, none⟩ = false := by rw [hM.frozen _ _ H3.out]; exact (H4.out (k * 8 + 4) (by omega)).2
      have hf5 : wr.frozen? ⟨b, o + k * 8 + 5, none⟩ = false := by rw [hM.frozen _ _ H3.out]; exact (H4.out (k * 8 + 5) (by omega)).2
      have hf6 : wr.frozen? ⟨b, o + k * 8 + 6, none⟩ = false := by rw [hM.frozen _ _ H3.out]; exact (H4.out (k * 8 + 6) (by omega)).2
      have hf7 : wr.frozen? ⟨b, o + k * 8 + 7, none⟩ = false := by rw [hM.frozen _ _ H3.out]; exact (H4.out (k * 8 + 7) (by omega)).2
      rw [← Nat.add_assoc] at hv1
      rw [← Nat.add_assoc] at hv2
      rw [← Nat.add_assoc] at hv3
      rw [← Nat.add_assoc] at hv4
      rw [← Nat.add_assoc] at hv5
      rw [← Nat.add_assoc] at hv6
      rw [← Nat.add_assoc] at hv7
      have HM := Lib.hid hM
      have hk0 : (0 : Int) ≤ (k : Int) := by omega
      have hk1 : (k : Int) < (len : Int) := by omega
      clear hA hM
      go_wp2
      go_roundw
      case rel => exact ⟨k + 1, by omega, by go_num, by go_num, ((((((((HM.out.trans (Mark.set H1.out H2.out)).trans (Mark.set H1.out H2.out)).trans (Mark.set H1.out H2.out)).trans (Mark.set H1.out H2.out)).trans (Mark.set H1.out H2.out)).trans (Mark.set H1.out H2.out)).trans (Mark.set H1.out H2.out)).trans (Mark.set H1.out H2.out))⟩
      case measure => simp [intOf]; omega
    · obtain rfl : k = len := by omega
      have HM := Lib.hid hA.out
      clear hA
      go_wp2
      go_ret
      exact ⟨rfl, HM.out⟩
end Go.Proofs.Ytajglpkeojaelaa

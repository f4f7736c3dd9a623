/-
Texts in one: what HoldMesh stands on, part 36. Conditions: those of each.
-/
import Derived.Test.YtmbekamnogbgaaaKHoldMesh35
import Derived.Lib.SliceRun
import Derived.Handy

/-
What holds leave of forces: the program and its model. Conditions: none beyond that all lie in memory.
-/
namespace Go.Proofs.Ytmbekamnogbgaaa
open Go Fk Go.RowKit
set_option linter.unusedVariables false
set_option maxRecDepth 16000

def hofB (cs : List C3) (ts : List (List Int)) (hs : List HC) (fl : Nat) : Bool := areB cs ts hs && decide (fl = cs.length)
def hofL (cs : List C3) (ts : List (List Int)) (hs : List HC) (fs : List C3) (fl : Nat) : List C3 := bif hofB cs ts hs fl then leaveF hs fs else []
theorem clone_vecs (a : Option Addr) (n c : Nat) (cs : List C3) (w : World) (h : IsVs w a n c cs) (hn : n ≤ 1048576) :
    Calls Try.prog 108 #[.slice a n c] w fun e w' => (∃ v xs, e = .returned v ∧ w'.ownsRow w.heap.size 34 3 v n xs ∧ PV n xs cs) ∧ Below w.heap.size w w' := by
  obtain ⟨i0, hi, hz0, hz1, hz2⟩ := info_parts infoV
  obtain ⟨xs, x1, x2, x3, x4⟩ := vs_cells h
  have h0 := h.2.2.2.1
  have X2 := Lib.hid x2
  have X3 := Lib.hid x3
  have X4 := Lib.hid x4
  have X1 := Lib.hid x1
  clear x1 x2 x3 x4 h
  have q : ∀ (w : World) (a : Option Addr) (n c : Nat), (binOp .eql 27 (.slice a n c) (.slice none 0 0)).run Try.prog w = .ok (.bool a.isNone) w := fun w a n c => Lib.run_eql_slice_nil w _ _ a n c 0 0 Try.underlying27
  cases a with
  | none =>
    obtain ⟨rfl, rfl⟩ := h0 rfl
    go_enter Try.func108, Try.ntmps108
    go_wp2
    refine bodyPost_ret (v := .slice none 0 0) (by simp [results, Try.results108, go_sem]) rfl ?_
    exact ⟨⟨_, rfl, [], World.ownsRow_nil _ _ _ _, fun j hj => absurd hj (by omega)⟩, Below.refl _ _⟩
  | some x =>
    have HST := Lib.hid (World.ownsRow_lit (base := w.heap.size) (e := 34) (size := 3) w #[] 0 (Nat.le_refl _) (by decide) rfl)
    go_enter Try.func108, Try.ntmps108
    go_wp2_with (at_builtin; refine wpList_append_opt _ rfl _ _ 27 rfl w.heap.size 34 i0 (.agg #[.float .f32 0, .float .f32 0, .float .f32 0]) 3 12 Try.underlying27 hi hz0 hz1 hz2 rfl (by decide) _ 0 [] rfl HST.out (some x) n c xs rfl (fun h => by cases h) X1.out ?c2 ?c3 ?c4 ?c5 ?c6 ?_)
    case c2 =>
      intro j u hu
      have := X2.out x rfl j u hu
      rw [World.cell?_alloc_lt (h := World.block_lt_of_cell? _ _ this)]
      exact this
    case c3 => exact X3.out
    case c4 => unfold maxLen; omega
    case c5 => omega
    · intro v w1 hown hgrow
      have hown' : w1.ownsRow w.heap.size 34 3 v n xs := by simpa using hown
      have hB1 : Below w.heap.size w w1 := ((Below.refl _ _).alloc (Nat.le_refl _) _).grown hgrow (by simp) (fun k hk => by simp [Value.ownBlock] at hk; omega)
      have HO := Lib.hid hown'
      have HB := Lib.hid hB1
      clear hown hgrow hown' hB1
      go_wp2
      refine bodyPost_ret (v := v) (by simp [results, Try.results108, go_sem]) rfl ?_
      exact ⟨⟨v, xs, rfl, HO.out, X4.out⟩, HB.out⟩
theorem RV.low {base base' : Nat} {w : World} {v : Value} {X : List C3} (h : RV base w v X) (hb : base' ≤ base) : RV base' w v X := by
  obtain ⟨a, cap, e, h1, h2⟩ := h
  exact ⟨a, cap, e, h1, h2.imp id fun ⟨b, e, k1, k2, k3, k4⟩ => ⟨b, e, Nat.le_trans hb k1, k2, k3, k4⟩⟩
end Go.Proofs.Ytmbekamnogbgaaa


/-
Meshes that are held: what the program returns. Conditions: the mesh and the holds lie in memory.
-/
namespace Go.Proofs.Ytmbekamnogbgaaa
open Go Fk Go.RowKit
set_option linter.unusedVariables false
set_option maxRecDepth 16000

theorem flat_agreeS {S : Nat → Prop} {W w : World} {lo hi n F : Nat} {a : Option Addr} (h : Flat lo hi W a n F) (hS : ∀ R, a = some R → S R.block ∧ S F) (hA : Agree S W w) : Flat lo hi w a n F :=
  h.imp id fun ⟨R, e, k1, k2, k3, k4, k5, k6⟩ => ⟨R, e, k1, k2, Nat.lt_of_lt_of_le k3 hA.size, k4, k5.same (fun i v hv => hA.cell _ _ _ (hS _ e).1 hv), k6.1, k6.2.1, Nat.lt_of_lt_of_le k6.2.2.1 hA.size, fun j hj => by
    obtain ⟨⟨v, hv⟩, hf⟩ := k6.2.2.2 j hj
    exact ⟨⟨v, hA.cell _ _ _ (hS _ e).2 hv⟩, by rw [hA.frozen _ _ (hS _ e).2 k6.2.2.1]; exact hf⟩⟩
theorem lts_of_flat {S : Nat → Prop} {w : World} {lo hi n F : Nat} {a : Option Addr} (h : Flat lo hi w a n F) (hn : 0 < n) (hS : ∀ R, a = some R → S R.block ∧ S F) : LTs S w a n := fun x hx => by
  rcases h with ⟨e, h0⟩ | ⟨R, e, k1, k2, k3, k4, k5, k6⟩
  · omega
  · rw [hx] at e
    cases e
    refine ⟨R, rfl, (hS _ hx).1, fun i hi => ?_⟩
    obtain ⟨cc, hcc⟩ := k5 i hi
    exact ⟨some ⟨F, i * 3, none⟩, 3, cc, hcc, fun y hy => (by cases hy; exact ⟨F, i * 3, rfl, (hS _ hx).2⟩)⟩
theorem ts_flat {S : Nat → Prop} {W w : World} {lo hi n F c : Nat} {a : Option Addr} {ts : List (List Int)} (h : IsTs W a n c ts) (hF : Flat lo hi W a n F) (hS : ∀ R, a = some R → S R.block ∧ S F) (hA : Agree S W w) : IsTs w a n c ts := by
  by_cases hn : 0 < n
  · exact ts_agreeS h (lts_of_flat hF hn hS) (fun _ hb => hb) hA
  · obtain ⟨h1, h2, h3, h4, h5⟩ := h
    exact ⟨h1, h2, h3, h4, fun x hx i hi => absurd hi (by omega)⟩
/-- A mesh that was made lies in a box of its own. -/
def PH (W : World) (n tl b : Nat) (cs : List C3) (ts : List (List Int)) (w' : World) : Prop :=
  ∃ w1 qa qc ra rc fb fc xs, Below W.heap.size W w1 ∧ w1.ownsRow W.heap.size 34 3 (.slice qa n qc) n xs ∧ PV n xs cs ∧ w1.ownsRow (fb + 1) 81 1 (.slice ra tl rc) tl (rowVs fb tl) ∧ w1.ownsRow W.heap.size 2 1 (.slice (some ⟨fb, 0, none⟩) (tl * 3) fc) (tl * 3) (flatV ts tl) ∧ w1.ownsRow W.heap.size 29 2 (.slice (some ⟨b, 0, none⟩) 1 1) 1 [.slice none 0 0, .slice none 0 0] ∧ w' = setL w1 b 0 [.slice qa n qc, .slice ra tl rc]
/-- What is known once the places are put. -/
def PK (W : World) (n tl b hi fb : Nat) (qa ra : Option Addr) (qc rc : Nat) (cs : List C3) (ts : List (List Int)) (w' : World) : Prop :=
  Below W.heap.size W w' ∧ At w' b [.slice qa n qc, .slice ra tl rc] ∧ hi ≤ w'.heap.size ∧ IsVs w' qa n qc cs ∧ IsTs w' ra tl rc ts ∧ GM W.heap.size hi w' qa ra n tl fb
set_option maxHeartbeats 1000000 in
theorem held_put (pl tl hl hc b : Nat) (ha : Option Addr) (cs : List C3) (ts : List (List Int)) (hs : List HC) (w1 W3 : World) (h : PH w1 pl tl b cs ts W3) (hh : IsHs w1 ha hl hc hs) (hg : ∀ k, k < hl → inB pl (hs.getD k hd0).1 = true) (hpl : cs.length = pl) (htl : ts.length = tl) (q1 : pl ≤ 64) (h3 : ∀ j, j < tl → (ts.getD j []).length = 3) (hz : ∀ j, j < tl → ∀ z ∈ ts.getD j [], (Lit.int .i64 z).wf = true) :
    ∃ hi fb qa qc ra rc, Calls Try.prog 94 #[.pointer (some ⟨b, 0, none⟩), .slice ha hl hc] W3 fun e w' => e = .returned (.tuple #[]) ∧ PK w1 pl tl b hi fb qa ra qc rc (putF hs cs) ts w' := by
  obtain ⟨w2, qa, qc, ra, rc, fb, fc, xs, hB, hq, hpv, hr, hfl, hbx, rfl⟩ := h
  obtain ⟨ra', rc', e, hI, hF⟩ := rows_mesh hr hfl htl h3 hz
  cases e
  have hb := hbx.lt b rfl
  have aq := owns_apart hbx hq (by decide)
  have ar := owns_apart hbx hr (by decide)
  have af : b ≠ fb := owns_apart hbx hfl (by decide) _ _ rfl rfl
  have gr := owns_apart hq hr (by decide)
  have gf := owns_apart hq hfl (by decide)
  have hA0 : At w2 b [.slice none 0 0, .slice none 0 0] := fun i v hv => by
    match i with
    | 0 => cases hv; exact cell0_of hbx
    | 1 => cases hv; exact cell1_of hbx
    | _ + 2 => simp at hv
  have hAt := at_setL (vs := [.slice qa pl qc, .slice ra tl rc]) (o := 0) hA0 (Nat.le_of_ble_eq_true rfl)
  have hAb : Agree (fun q => q ≠ b) w2 (setL w2 b 0 [.slice qa pl qc, .slice ra tl rc]) := Agree.setL (fun h => h rfl) _ _ 0 (Agree.refl _ _)
  have hBB : Below w1.heap.size w1 (setL w2 b 0 [.slice qa pl qc, .slice ra tl rc]) := setL_below b hb.1 _ _ 0 hB
  have hV := vs_owned hq hpl hpv
  refine ⟨w2.heap.size, fb, qa, qc, ra, rc, ?_⟩
  rcases own_blk hq hpv hpl with ⟨e, h0⟩ | ⟨g, cap, e, hgb, _, _, hO⟩
  · cases e
    obtain rfl : hl = 0 := by
      rcases Nat.eq_zero_or_pos hl with h | h
      · exact h
      · have := of_decide_eq_true (hg 0 h)
        omega
    have hs0 : hs = [] := List.eq_nil_of_length_eq_zero hh.1
    subst hs0
    refine (put_none ha hc b _).mono ?_
    rintro e w' ⟨rfl, rfl⟩
    have hS : ∀ R, ra = some R → R.block ≠ b ∧ fb ≠ b := fun R hR => ⟨fun e => ar _ R rfl hR e.symm, fun e => af e.symm⟩
    refine ⟨rfl, hBB, hAt, by rw [setL_size]; exact Nat.le_refl _, ⟨hpl, Nat.le_refl _, Nat.zero_le _, fun _ => ⟨rfl, rfl⟩, fun x hx => (by cases hx)⟩, ts_flat hI hF hS hAb, .inl ⟨rfl, rfl⟩, flat_agreeS hF hS hAb, fun P hP => (by cases hP)⟩
  · cases e
    have hbg : b ≠ g := aq _ _ rfl rfl
    have hO3 : OwnVs (setL w2 b 0 [.slice (some ⟨g, 0, none⟩) pl qc, .slice ra tl rc]) g cs := hO.agree (S := fun q => q ≠ b) (fun e => hbg e.symm) hAb
    have hSt : St w1 [(b, [.slice (some ⟨g, 0, none⟩) pl qc, .slice ra tl rc])] g cs (setL w2 b 0 [.slice (some ⟨g, 0, none⟩) pl qc, .slice ra tl rc]) := ⟨hBB, fun b' l hm => by
      simp only [List.mem_singleton, Prod.mk.injEq] at hm
      obtain ⟨rfl, rfl⟩ := hm
      exact ⟨hAt, fun i => by rw [setL_frozen]; exact hbx.frozenAt i, by rw [setL_size]; exact hb.2, hbg⟩, hgb, hO3⟩
    refine (put_placesA ha hl hc b g pl qc (.slice ra tl rc) hs cs _ w1 _ hh hSt (.head _) hg hpl (by omega)).mono ?_
    rintro e w' ⟨rfl, hS4, hA4⟩
    have hS : ∀ R, ra = some R → (R.block ≠ b ∧ R.block ≠ g) ∧ (fb ≠ b ∧ fb ≠ g) := fun R hR => ⟨⟨fun e => ar _ R rfl hR e.symm, fun e => gr _ R rfl hR e.symm⟩, fun e => af e.symm, fun e => gf _ _ rfl rfl e.symm⟩
    have hA : Agree (fun q => q ≠ b ∧ q ≠ g) w2 w' := (hAb.less (fun q hq => hq.1)).trans (hA4.less (fun q hq => hq.2))
    have hO4 := hS4.own
    have hl4 : (putF hs cs).length = pl := by rw [putF_len]; exact hpl
    have hV4 : IsVs w' (some ⟨g, 0, none⟩) pl qc (putF hs cs) := by
      have := hO4.is
      rw [hl4] at this
      exact ⟨hl4, hV.2.1, hV.2.2.1, hV.2.2.2.1, this.2.2.2.2⟩
    have hsz : w2.heap.size ≤ w'.heap.size := hA.size
    have hfb := (hfl.lt fb rfl).1
    refine ⟨rfl, hS4.bel, hS4.mem (.head _), hsz, hV4, ts_flat hI hF hS hA, .inr ⟨g, rfl, vec_own hV4 hO4.2.1 hgb hO.2.2 hO4.2.2⟩, flat_agreeS hF hS hA, fun P hP => (by cases hP; exact ⟨gf _ _ rfl rfl, fun R hR => gr _ R rfl hR⟩)⟩
set_option maxHeartbeats 4000000 in
theorem impl_HoldMesh (pa ta ha : Option Addr) (pl pc tl tc hl hc : Nat) (cs : List C3) (ts : List (List Int)) (hs : List HC) (w : World) (hp : IsVs w pa pl pc cs) (ht : IsTs w ta tl tc ts) (hh : IsHs w ha hl hc hs) (hsm : hl ≤ 1048576) :
    Calls Try.prog 35 #[.agg #[.slice pa pl pc, .slice ta tl tc], .slice ha hl hc] w fun e w' => MadeG w w' e (areB cs ts hs) (rHV cs ts hs) (rHT cs ts hs) := by
  have ui := Try.underlying29
  have T0 : Hid (Tc w w.heap.size (w.heap.size + 1) [.slice pa pl pc, .slice ta tl tc] [.slice none 0 0, .slice none 0 0] ((w.alloc (.cells #[.slice pa pl pc, .slice ta tl tc] 29)).alloc (.cells #[.slice none 0 0, .slice none 0 0] 29))) := Lib.hid
    ⟨At.new.alloc, by
      have := At.new (w := w.alloc (.cells #[.slice pa pl pc, .slice ta tl tc] 29)) (vs := [.slice none 0 0, .slice none 0 0]) (t := 29)
      simpa using this, fun i => by go_simp, fun i => by go_simp, ((Below.refl _ _).alloc (Nat.le_refl _) _).alloc (by simp) _, ⟨Nat.le_refl _, by omega, by omega⟩, by simp <;> omega⟩
  have HP := Lib.hid hp
  have HT := Lib.hid ht
  have HH := Lib.hid hh
  have hpl := hp.1
  have htl := ht.1
  have hhl := hh.1
  have J := Lib.hid (impl_AreHolds pa ta ha pl pc tl tc hl hc cs ts hs _ (hp.below T0.out.bel) (ht.below T0.out.bel) (hh.below T0.out.bel) hsm)
  unfold rHV rHT
  clear hp ht hh
  cases hv : areB cs ts hs
  · rw [hv] at J
    clear hv
    go_enter Try.func35, Try.ntmps35
    go_wp2_with fail
    generalize ((w.alloc (.cells #[.slice pa pl pc, .slice ta tl tc] 29)).alloc (.cells #[.slice none 0 0, .slice none 0 0] 29)) = W at *
    refine J.out.mono ?_
    rintro e w2 ⟨rfl, hB1⟩
    have T2 := Lib.hid (T0.out.call hB1)
    clear hB1
    have q0 := T2.out.res 0 _ rfl
    have q1 := T2.out.res 1 _ rfl
    have p0 := T2.out.fr 0
    have p1 := T2.out.fr 1
    obtain ⟨hR, hBB⟩ := T2.out.fin (vs' := [.slice none 0 0, .slice none 0 0]) rfl
    simp only [setL, Nat.zero_add, Nat.reduceAdd] at hR hBB
    have HR := Lib.hid hR
    have HBB := Lib.hid hBB
    clear hR hBB
    go_wp2
    clear q0 q1 p0 p1
    have m0 := HR.out 0 _ rfl
    have m1 := HR.out 1 _ rfl
    refine bodyPost_ret (v := .tuple #[.agg #[.slice none 0 0, .slice none 0 0], .bool false]) (by simp [results, Try.results35, go_sem, m0, m1]) rfl ?_
    exact madeG_none HBB.out
  · obtain ⟨s1, s2, s3, s4⟩ := are_parts hv
    rw [hv] at J
    have H3 := Lib.hid (fun j (hj : j < tl) => s3 j (by omega))
    have H4 := Lib.hid (fun k (hk : k < hl) => show inB pl (hs.getD k hd0).1 = true by rw [← hpl]; exact s4 k (by omega))
    rw [hpl] at s1
    rw [htl] at s2
    clear hv s3 s4
    show Calls _ _ _ _ (fun e w' => MadeG w w' e true (putF hs cs) ts)
    go_enter Try.func35, Try.ntmps35
    go_wp2_with fail
    generalize ((w.alloc (.cells #[.slice pa pl pc, .slice ta tl tc] 29)).alloc (.cells #[.slice none 0 0, .slice none 0 0] 29)) = W at *
    refine J.out.mono ?_
    rintro e w1 ⟨rfl, hB1⟩
    have T1 := Lib.hid (T0.out.call hB1)
    clear hB1
    have d0 := T1.out.out 0 _ rfl
    have d1 := T1.out.out 1 _ rfl
    go_wp2_with fail
    clear d0 d1
    refine (impl_copied pa ta pl pc tl tc cs ts w1 (HP.out.below T1.out.bel) (HT.out.below T1.out.bel) (by omega) H3.out s2).mono ?_
    rintro e wc ⟨v, rfl, qa, qc, ra, rc, fb, fc, xs, rfl, hq, hpv, hr, hfl, hBc⟩
    have hup := (Below.refl wc.heap.size wc).alloc (Nat.le_refl _) (.cells #[.slice none 0 0, .slice none 0 0] 29)
    have hbx : (wc.alloc (.cells #[.slice none 0 0, .slice none 0 0] 29)).ownsRow w1.heap.size 29 2 (.slice (some ⟨wc.heap.size, 0, none⟩) 1 1) 1 [.slice none 0 0, .slice none 0 0] := by
      have := World.ownsRow_lit (base := w1.heap.size) (e := 29) (size := 2) wc #[.slice none 0 0, .slice none 0 0] 1 hBc.size (by decide) rfl
      simpa using this
    have hP : PH w1 pl tl wc.heap.size cs ts (setL (wc.alloc (.cells #[.slice none 0 0, .slice none 0 0] 29)) wc.heap.size 0 [.slice qa pl qc, .slice ra tl rc]) := ⟨_, qa, qc, ra, rc, fb, fc, xs, hBc.alloc hBc.size _, owns_up hq hup, hpv, owns_up hr hup, owns_up hfl hup, hbx, rfl⟩
    have he : setL (wc.alloc (.cells #[.slice none 0 0, .slice none 0 0] 29)) wc.heap.size 0 [.slice qa pl qc, .slice ra tl rc] = (wc.alloc (.cells #[.slice qa pl qc, .slice ra tl rc] 29)) := by
      simp only [setL]
      go_simp
    rw [he] at hP
    have HPH := Lib.hid hP
    clear hq hpv hr hfl hBc hup hbx hP he
    go_wp2_with fail
    change Calls _ _ _ (wc.alloc (.cells #[.slice qa pl qc, .slice ra tl rc] 29)) _
    generalize (wc.alloc (.cells #[.slice qa pl qc, .slice ra tl rc] 29)) = w3 at *
    generalize wc.heap.size = b at *
    have hP := HPH.out
    obtain ⟨hi, fb, qa, qc, ra, rc, hPut⟩ := held_put pl tl hl hc b ha cs ts hs w1 w3 hP (HH.out.below T1.out.bel) H4.out hpl htl s1 H3.out (ts_wf HT.out)
    refine hPut.mono ?_
    rintro e w4 ⟨rfl, hB4, hAt, hhi, hV, hT, hG⟩
    have hlt := T1.out.lt
    have hb1 := T1.out.bel.size
    have T4 := Lib.hid (T1.out.call hB4)
    have k0 := hAt 0 _ rfl
    have k1 := hAt 1 _ rfl
    have q0 := T4.out.res 0 _ rfl
    have q1 := T4.out.res 1 _ rfl
    have p0 := T4.out.fr 0
    have p1 := T4.out.fr 1
    obtain ⟨hR, hBB⟩ := T4.out.fin (vs' := [.slice qa pl qc, .slice ra tl rc]) rfl
    have hA := Agree.setL (Sy.res (bo := w.heap.size) (br := w.heap.size + 1)) [.slice qa pl qc, .slice ra tl rc] _ 0 (Agree.refl (Sy w.heap.size (w.heap.size + 1)) w4)
    have hs' : ∀ q, w1.heap.size ≤ q → q < hi → Sy w.heap.size (w.heap.size + 1) q := Sy.new hlt.1 hlt.2
    have M := Lib.hid (And.intro (vs_agree hV hG.lv hs' hA) (And.intro (ts_agree hT hG.lt hs' hA) ((hG.agree hs' hA).widen (lo' := w.heap.size) hb1 (Nat.le_trans hhi hA.size))))
    simp only [setL, Nat.zero_add, Nat.reduceAdd] at hR hBB M
    have HR := Lib.hid hR
    have HBB := Lib.hid hBB
    clear hR hBB hA hs' hV hT hG hB4 hAt
    go_wp2
    clear q0 q1 p0 p1 k0 k1
    have m0 := HR.out 0 _ rfl
    have m1 := HR.out 1 _ rfl
    refine bodyPost_ret (v := .tuple #[.agg #[.slice qa pl qc, .slice ra tl rc], .bool true]) (by simp [results, Try.results35, go_sem, m0, m1]) rfl ?_
    have e1 : (putF hs cs).length = pl := by rw [putF_len]; exact hpl
    refine ⟨⟨qa, qc, ra, rc, fb, ?_⟩, HBB.out⟩
    rw [e1, htl]
    exact ⟨rfl, M.out⟩
end Go.Proofs.Ytmbekamnogbgaaa


/-
Lists of integers that a function made, and marks in holds and meshes. Conditions: the cells may be written.
-/
namespace Go.Proofs.Ytmbekamnogbgaaa
open Go Fk Go.RowKit
set_option linter.unusedVariables false
set_option maxRecDepth 16000

theorem owns_below {w w' : World} {base : Nat} {e : TypeId} {size : Nat} {v : Value} {n : Nat} {xs : List Value} (h : w.ownsRow base e size v n xs) (hB : Below w.heap.size w w') : w'.ownsRow base e size v n xs :=
  h.kept (row := none) ⟨hB.os, hB.tape, hB.output, hB.size, fun k hk _ => hB.block k hk⟩ (by cases v.ownBlock <;> simp)
theorem owns_mono {w : World} {base base' : Nat} {e : TypeId} {size : Nat} {v : Value} {n : Nat} {xs : List Value} (h : w.ownsRow base e size v n xs) (hb : base' ≤ base) : w.ownsRow base' e size v n xs := by
  obtain ⟨h1, h2⟩ := h
  refine ⟨h1, h2.imp id ?_⟩
  rintro ⟨g, cap, cur, h3, h4, h5⟩
  exact ⟨g, cap, cur, h3, Nat.le_trans hb h4, h5⟩
theorem owns_list {w : World} {base : Nat} {v : Value} {L : List Int} (h : w.ownsRow base 2 1 v L.length (L.map (Value.int .i64))) (hL : ∀ z ∈ L, (Lit.int .i64 z).wf = true) :
    ∃ a cap, v = .slice a L.length cap ∧ IsIs w a L.length cap L ∧ Lst base w.heap.size w a L.length := by
  have h' := h
  obtain ⟨h1, h2⟩ := h
  rcases h2 with ⟨rfl, hn⟩ | ⟨g, cap, cur, rfl, hb, hh, hc1, hc2, hs, ht⟩
  · refine ⟨none, 0, by rw [hn], ⟨rfl, by omega, by unfold maxLen; omega, hL, fun _ => ⟨hn, rfl⟩, fun x hx => by cases hx⟩, .inl ⟨rfl, hn⟩⟩
  · have hg := h'.lt g rfl
    have hcell : ∀ j, j < L.length → w.cell? ⟨g, j, none⟩ = some (.int .i64 (L.getD j 0)) := by
      intro j hj
      rw [h'.cellAt j (by omega)]
      simp [List.getD, hj]
    refine ⟨_, cap, rfl, ⟨rfl, hc1, hc2, hL, by simp, fun x hx i hi => ?_⟩, .inr ⟨g, rfl, hb, hg.2, hg.2, fun j hj => ⟨⟨_, by rw [Nat.zero_add]; exact hcell j hj⟩, by rw [Nat.zero_add]; exact h'.frozenAt j⟩⟩⟩
    cases hx
    rw [addr_add', Nat.zero_add]; exact hcell i hi
/-- The marks that were written are there. -/
def Mrk (w : World) (a : Option Addr) (n : Nat) : Prop := (a = none → n = 0) ∧ ∀ b o s, a = some ⟨b, o, s⟩ → s = none ∧ ∀ j, j < n → w.cell? ⟨b, o + j, none⟩ = some (.int .i64 ((1 + j : Nat) : Int))
theorem mark_any (lo hi : Nat) (a : Option Addr) (n cap : Nat) (w : World) (h : Lst lo hi w a n) (hn : n ≤ 2000000) :
    Calls Try.prog 56 #[.slice a n cap, .int .i64 1] w fun e w' => e = .returned (.int .i64 ((1 + n : Nat) : Int)) ∧ Mrk w' a n ∧ Mark lo hi w w' := by
  rcases h with ⟨rfl, rfl⟩ | ⟨b, rfl, hown⟩
  · go_enter Try.func56, Try.ntmps56
    go_wp2
    refine wp_loop_rounds 1 ?_
    rw [rounds_succ]
    go_wp2
    go_ret
    exact ⟨rfl, ⟨fun _ => rfl, fun _ _ _ h => by cases h⟩, Mark.refl _ _ _⟩
  · refine (laws_markInt64S lo hi b 0 n cap 1 w hown (by omega)).mono ?_
    rintro e w' ⟨he, hd, _, hM⟩
    exact ⟨he, ⟨fun h => by (cases h), fun b' o s h => by cases h; exact ⟨rfl, hd⟩⟩, hM⟩
theorem held_any (a : Option Addr) (n cap : Nat) (w : World) (h : Mrk w a n) (hn : n ≤ 2000000) :
    Calls Try.prog 57 #[.slice a n cap, .int .i64 1] w fun e w' => e = .returned (.int .i64 ((1 + n : Nat) : Int)) ∧ w' = w := by
  cases a with
  | none =>
    obtain rfl := h.1 rfl
    go_enter Try.func57, Try.ntmps57
    go_wp2
    refine wp_loop_rounds 1 ?_
    rw [rounds_succ]
    go_wp2
    go_ret
    exact ⟨rfl, by first | rfl | trivial⟩
  | some x =>
    obtain ⟨b, o, s⟩ := x
    obtain ⟨rfl, hd⟩ := h.2 b o s rfl
    exact laws_heldInt64S b o n cap 1 w hd (by omega)
theorem Mrk.below {w w' : World} {a : Option Addr} {n : Nat} (h : Mrk w a n) (hB : Below w.heap.size w w') : Mrk w' a n :=
  ⟨h.1, fun b o s e => ⟨(h.2 b o s e).1, fun j hj => cell_below hB ((h.2 b o s e).2 j hj)⟩⟩
/-- A list outside the blocks that are marked is as it was. -/
theorem is_mark {lo hi lo' hi' : Nat} {w0 w w' : World} {a : Option Addr} {n cap : Nat} {L : List Int} (h : IsIs w a n cap L) (hl : Lst lo' hi' w0 a n) (hM : Mark lo hi w w') (ho : hi' ≤ lo ∨ hi ≤ lo') : IsIs w' a n cap L := by
  obtain ⟨h1, h2, h3, h4, h5, h6⟩ := h
  refine ⟨h1, h2, h3, h4, h5, fun x hx i hi => ?_⟩
  rcases hl with ⟨e, _⟩ | ⟨b, e, hown⟩
  · rw [e] at hx; cases hx
  · rw [e] at hx; cases hx
    have := h6 _ e i hi
    rw [addr_add'] at this ⊢
    have u1 := hown.1
    have u2 := hown.2.1
    exact hM.cell (by omega) this
theorem laws_markMeshR (lo hi b o b' o' pl pc tl tc : Nat) (ts : List (List Int)) (k0 : Nat) (w : World) (h : OwnM lo hi w b o b' o' pl tl ts) (hlo : lo ≤ w.heap.size) (h1 : pl ≤ 1048576) (h2 : tl ≤ 1048576) (hn : ∀ j, j < tl → (ts.getD j []).length ≤ 1048576) (hk : k0 ≤ 1000000) :
    Calls Try.prog 21 #[.agg #[.slice (some ⟨b, o, none⟩) pl pc, .slice (some ⟨b', o', none⟩) tl tc], .int .i64 k0] w fun e w' => ∃ z : Nat, z ≤ 2000000000000000000 ∧ e = .returned (.int .i64 z) ∧ Mark lo hi w w' := by
  have ui := Try.underlying29
  obtain ⟨hown, hrows, hne, hlt⟩ := h
  have hA : Mark lo hi w (w.alloc (.cells #[.slice (some ⟨b, o, none⟩) pl pc, .slice (some ⟨b', o', none⟩) tl tc] 29)) := Mark.alloc hlo _
  have a1 : (w.alloc (.cells #[.slice (some ⟨b, o, none⟩) pl pc, .slice (some ⟨b', o', none⟩) tl tc] 29)).cell? ⟨w.heap.size, 1, none⟩ = some (.slice (some ⟨b', o', none⟩) tl tc) := by go_simp
  have a0 : (w.alloc (.cells #[.slice (some ⟨b, o, none⟩) pl pc, .slice (some ⟨b', o', none⟩) tl tc] 29)).cell? ⟨w.heap.size, 0, none⟩ = some (.slice (some ⟨b, o, none⟩) pl pc) := by go_simp
  have nb : w.heap.size ≠ b := by have := hown.2.2.1; omega
  have hV := laws_markVectorS lo hi b o pl pc k0 _ (hown.mark hA) (by omega)
  have hs : ∀ i, (w.alloc (.cells #[.slice (some ⟨b, o, none⟩) pl pc, .slice (some ⟨b', o', none⟩) tl tc] 29)).cell? ⟨b', i, none⟩ = w.cell? ⟨b', i, none⟩ := fun i => by rw [World.cell?_alloc_lt (h := hlt)]
  have HV := Lib.hid hV
  have HA := Lib.hid hA
  have HR := Lib.hid (hrows.mark hs hA)
  have HNE := Lib.hid hne
  have HNB := Lib.hid nb
  have HN := Lib.hid hn
  clear hV hA hrows hne hs nb hown hlt hn
  generalize hCH : w.alloc (.cells #[.slice (some ⟨b, o, none⟩) pl pc, .slice (some ⟨b', o', none⟩) tl tc] 29) = W at *
  go_enter Try.func21, Try.ntmps21
  go_wp2_with fail
  refine HV.out.mono ?_
  rintro e w1 ⟨rfl, _, ho, hM1⟩
  have a1' : w1.cell? ⟨w.heap.size, 1, none⟩ = some (.slice (some ⟨b', o', none⟩) tl tc) := (ho _ _ (.inl HNB.out)).trans a1
  have HR1 := Lib.hid (HR.out.mark (fun i => ho b' i (.inl (fun h => HNE.out h.symm))) hM1)
  have HM1 := Lib.hid (HA.out.trans hM1)
  clear ho hM1 a0 a1 HV HR hCH
  generalize hq : k0 + pl * 3 = q at *
  have hq' : q ≤ 1000000000000000000 := by omega
  clear hq
  go_wp2_with (go_at_call 63; refine (laws_markInt64SS lo hi b' o' tl tc ts q w1 HR1.out h2 HN.out hq').mono ?_; rintro e w2 ⟨z, hz, rfl, _, hM2⟩; have HM2 := Lib.hid hM2; clear hM2)
  go_ret
  exact ⟨z, by omega, rfl, HM1.out.trans HM2.out⟩
end Go.Proofs.Ytmbekamnogbgaaa

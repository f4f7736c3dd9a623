/-
Texts in one: what HoldMesh stands on, part 33. Conditions: those of each.
-/
import Derived.Test.YtmbekamnogbgaaaKHoldMesh32

/-
A body of its own, whose places may be written: what the model makes. Conditions: it lies in memory, within the limits.
-/
namespace Go.Proofs.Ytmbekamnogbgaaa
open Go Fk Go.RowKit
set_option linter.unusedVariables false
set_option maxRecDepth 8000

/-- A list of rows, it and its rows in blocks that are told. -/
def LTs (S : Nat → Prop) (w : World) (a : Option Addr) (n : Nat) : Prop := ∀ x, a = some x → ∃ g, x = ⟨g, 0, none⟩ ∧ S g ∧ ∀ i, i < n → ∃ b m c, w.cell? ⟨g, i, none⟩ = some (.slice b m c) ∧ ∀ y, b = some y → ∃ h o, y = ⟨h, o, none⟩ ∧ S h
theorem LTs.less {S T : Nat → Prop} {w : World} {a : Option Addr} {n : Nat} (h : LTs S w a n) (hT : ∀ b, S b → T b) : LTs T w a n := fun x hx => by
  obtain ⟨g, e, h1, h2⟩ := h x hx
  refine ⟨g, e, hT g h1, fun i hi => ?_⟩
  obtain ⟨b, m, c, hc, hb⟩ := h2 i hi
  refine ⟨b, m, c, hc, fun y hy => ?_⟩
  obtain ⟨q, o, e, k⟩ := hb y hy
  exact ⟨q, o, e, hT q k⟩
theorem LTs.agree {S T : Nat → Prop} {W w : World} {a : Option Addr} {n : Nat} (h : LTs S W a n) (hS : ∀ b, S b → T b) (hA : Agree T W w) : LTs S w a n := fun x hx => by
  obtain ⟨g, e, h1, h2⟩ := h x hx
  refine ⟨g, e, h1, fun i hi => ?_⟩
  obtain ⟨b, m, c, hc, hb⟩ := h2 i hi
  exact ⟨b, m, c, hA.cell _ _ _ (hS g h1) hc, hb⟩
theorem ts_agreeS {S T : Nat → Prop} {W w : World} {a : Option Addr} {n c : Nat} {ts : List (List Int)} (h : IsTs W a n c ts) (hl : LTs S W a n) (hS : ∀ b, S b → T b) (hA : Agree T W w) : IsTs w a n c ts := by
  obtain ⟨h1, h2, h3, h4, h5⟩ := h
  refine ⟨h1, h2, h3, h4, fun x hx i hlt => ?_⟩
  obtain ⟨g, e, l1, u3⟩ := hl x hx
  obtain ⟨b, m, q, hc, hI⟩ := h5 x hx i hlt
  subst e
  rw [addr_add', Nat.zero_add] at hc
  obtain ⟨b', m', q', hc', hb'⟩ := u3 i hlt
  rw [hc] at hc'
  cases hc'
  refine ⟨b, m, q, by rw [addr_add', Nat.zero_add]; exact hA.cell _ _ _ (hS g l1) hc, ?_⟩
  obtain ⟨i1, i2, i3, i4, i5, i6⟩ := hI
  refine ⟨i1, i2, i3, i4, i5, fun z hz j hj => ?_⟩
  have := i6 z hz j hj
  obtain ⟨h', o, e', w1⟩ := hb' z hz
  subst e'
  rw [addr_add'] at this ⊢
  exact hA.cell _ _ _ (hS h' w1) this
theorem OwnVs.agree {S : Nat → Prop} {W w : World} {g : Nat} {X : List C3} (h : OwnVs W g X) (hS : S g) (hA : Agree S W w) : OwnVs w g X := by
  refine ⟨⟨h.1.1, fun i hi => ?_⟩, fun i => by rw [hA.frozen _ _ hS h.2.2]; exact h.2.1 i, Nat.lt_of_lt_of_le h.2.2 hA.size⟩
  obtain ⟨p, q, r, ⟨k0, k1, k2⟩, f⟩ := h.1.2 i hi
  exact ⟨p, q, r, ⟨hA.cell _ _ _ hS k0, hA.cell _ _ _ hS k1, hA.cell _ _ _ hS k2⟩, f⟩
theorem own_blk {w : World} {base n : Nat} {v : Value} {xs : List Value} {cs : List C3} (h : w.ownsRow base 34 3 v n xs) (hp : PV n xs cs) (hn : cs.length = n) :
    (v = .slice none 0 0 ∧ n = 0) ∨ ∃ g cap, v = .slice (some ⟨g, 0, none⟩) n cap ∧ base ≤ g ∧ n ≤ cap ∧ cap ≤ maxLen ∧ OwnVs w g cs := by
  have h' := h
  obtain ⟨h1, h2⟩ := h
  rcases h2 with ⟨rfl, hz⟩ | ⟨g, cap, cur, rfl, hb, hh, hc1, hc2, hs, ht⟩
  · exact .inl ⟨rfl, hz⟩
  · refine .inr ⟨g, cap, rfl, hb, hc1, hc2, ⟨by omega, fun i hi => ?_⟩, fun j => h'.frozenAt j, (h'.lt g rfl).2⟩
    obtain ⟨p, q, r, e0, e1, e2, f⟩ := hp i (by omega)
    exact ⟨p, q, r, ⟨by rw [h'.cellAt _ (by omega)]; exact e0, by rw [h'.cellAt _ (by omega)]; exact e1, by rw [h'.cellAt _ (by omega)]; exact e2⟩, f⟩
theorem lts_of_owns {w : World} {base n k cap c : Nat} {g : Nat} {a : Option Addr} {ts : List (List Int)} {xs : List Value} (h : OwnT base w (.slice a n c) n ts) (hq : w.ownsRow base 34 3 (.slice (some ⟨g, 0, none⟩) k cap) k xs) : LTs (fun b => b ≠ g ∧ base ≤ b ∧ b < w.heap.size) w a n := fun x hx => by
  obtain ⟨rows, h1, h2⟩ := h
  obtain ⟨R, e, u1, u2⟩ := lv_of_owns h1 x hx
  have hne : R ≠ g := fun e' => owns_apart hq h1 (by decide) _ _ rfl hx (by subst e; exact e'.symm)
  subst hx
  subst e
  refine ⟨R, rfl, ⟨hne, u1, u2⟩, fun i hlt => ?_⟩
  obtain ⟨u, e1, e2⟩ := h2 i hlt
  obtain ⟨b, c', rfl⟩ := owns_slice e2
  refine ⟨b, _, c', by rw [h1.cellAt i (by omega)]; exact e1, fun y hy => ?_⟩
  obtain ⟨q, e, v1, v2⟩ := lv_of_owns e2 y hy
  refine ⟨q, 0, e, fun e' => owns_apart hq e2 (by decide) _ _ rfl hy (by subst e; exact e'.symm), v1, v2⟩
/-- The places of a body may be written, and its other lists lie elsewhere. -/
def PX (w : World) (n : Nat) (B : Bd) (cs : List C3) : Prop := n = 0 ∨ ∃ g, B.pa = some ⟨g, 0, none⟩ ∧ OwnVs w g cs ∧ LTs (fun b => b ≠ g) w B.ta B.tl ∧ (∀ x, B.sa = some x → ∃ b, x = ⟨b, 0, none⟩ ∧ b ≠ g) ∧ (∀ x, B.wa = some x → ∃ b, x = ⟨b, 0, none⟩ ∧ b ≠ g)
set_option maxHeartbeats 4000000 in
theorem l03OwnP (pb : Nat) (B : Bd) (c : Bc) (w : World) (A : At w pb B.l) (h : IsB w B c) (hpl : B.pl ≤ 1000) (htl : B.tl ≤ 1000) (h3 : ∀ k, k < B.tl → (c.ts.getD k []).length ≤ 1000) (hsl : B.sl ≤ 1000) (hwl : B.wl ≤ 1000) :
    Calls Try.prog 97 #[.pointer (some ⟨pb, 0, none⟩)] w fun e w' => ∃ B' : Bd, e = .returned B'.v ∧ IsB w' B' c ∧ LB w.heap.size w'.heap.size w' B' ∧ PX w' B.pl B' c.cs ∧ B'.pl = B.pl ∧ Below w.heap.size w w' := by
  have ui := Try.underlying36
  have uim := Try.underlying29
  obtain ⟨i0, hi, hz0, hz1, hz2⟩ := info_parts infoSp
  obtain ⟨j0, hj, hy0, hy1, hy2⟩ := info_parts info32
  have T0 : Hid (Tc w (w.heap.size + 1) w.heap.size B.l Z9' ((w.alloc (.cells #[.slice none 0 0, .slice none 0 0, .slice none 0 0, .float .f32 0, .float .f32 0, .slice none 0 0, .float .f32 0, .float .f32 0, .float .f32 0] 36)).alloc (BoxB B 36))) := Lib.hid
    ⟨by
      have := At.new (w := w.alloc (.cells #[.slice none 0 0, .slice none 0 0, .slice none 0 0, .float .f32 0, .float .f32 0, .slice none 0 0, .float .f32 0, .float .f32 0, .float .f32 0] 36)) (vs := B.l) (t := 36)
      simpa using this, At.new.alloc, fun i => by go_simp, fun i => by go_simp, ((Below.refl _ _).alloc (Nat.le_refl _) _).alloc (by simp) _, ⟨by omega, Nat.le_refl _, by omega⟩, by simp <;> omega⟩
  have H := Lib.hid h
  have HA := Lib.hid A
  have H3 := Lib.hid h3
  have hpl' := h.1.1
  have htl' := h.2.1.1
  have hsl' := h.2.2.1.1
  have hwl' := h.2.2.2.1.1
  have k0 := A 0 _ rfl
  have k1 := A 1 _ rfl
  have k2 := A 2 _ rfl
  have k3 := A 3 _ rfl
  have k4 := A 4 _ rfl
  have k5 := A 5 _ rfl
  have k6 := A 6 _ rfl
  have k7 := A 7 _ rfl
  have k8 := A 8 _ rfl
  have l0 := fun ob => cell_alloc (o := ob) k0
  have l1 := fun ob => cell_alloc (o := ob) k1
  have l2 := fun ob => cell_alloc (o := ob) k2
  have l3 := fun ob => cell_alloc (o := ob) k3
  have l4 := fun ob => cell_alloc (o := ob) k4
  have l5 := fun ob => cell_alloc (o := ob) k5
  have l6 := fun ob => cell_alloc (o := ob) k6
  have l7 := fun ob => cell_alloc (o := ob) k7
  have l8 := fun ob => cell_alloc (o := ob) k8
  clear h h3 A
  go_enter Try.func97, Try.ntmps97
  go_wp2_with fail
  clear l0 l1 l2 l3 l4 l5 l6 l7 l8 k0 k1 k2 k3 k4 k5 k6 k7 k8
  change Calls _ _ _ ((w.alloc (.cells #[.slice none 0 0, .slice none 0 0, .slice none 0 0, .float .f32 0, .float .f32 0, .slice none 0 0, .float .f32 0, .float .f32 0, .float .f32 0] 36)).alloc (BoxB B 36)) _
  generalize ((w.alloc (.cells #[.slice none 0 0, .slice none 0 0, .slice none 0 0, .float .f32 0, .float .f32 0, .slice none 0 0, .float .f32 0, .float .f32 0, .float .f32 0] 36)).alloc (BoxB B 36)) = W at *
  have A0 := Lib.hid (HA.out.below T0.out.bel)
  refine (l02Own pb B.pa B.ta B.pl B.pc B.tl B.tc c.cs c.ts W (A0.out 0 _ rfl) (A0.out 1 _ rfl) (H.out.1.below T0.out.bel) (H.out.2.1.below T0.out.bel) hpl htl H3.out).mono ?_
  rintro e w1 ⟨⟨va, vt, xs, rfl, hva, hpv, hvt⟩, hB1⟩
  obtain ⟨qa, qc, rfl⟩ := owns_slice hva
  obtain ⟨ra, rc, rfl⟩ := OwnT.slice hvt
  obtain ⟨ra', rc', e, hI⟩ := OwnT.is hvt htl' (ts_wf H.out.2.1)
  cases e
  have P1 : Hid (B.pl = 0 ∨ ∃ g, qa = some ⟨g, 0, none⟩ ∧ OwnVs w1 g c.cs ∧ (W.heap.size ≤ g ∧ g < w1.heap.size) ∧ LTs (fun b => b ≠ g ∧ W.heap.size ≤ b ∧ b < w1.heap.size) w1 ra B.tl) := Lib.hid (by
    rcases own_blk hva hpv hpl' with ⟨_, hz⟩ | ⟨g, cap, e, hb, _, _, hO⟩
    · exact .inl hz
    · cases e
      exact .inr ⟨g, rfl, hO, ⟨hb, hO.2.2⟩, lts_of_owns hvt hva⟩)
  have hlt := T0.out.lt
  have M1 := Lib.hid (And.intro (vs_owned hva hpl' hpv) (And.intro hI (And.intro (lv_of_owns hva) (lt_of_owns hvt))))
  have T1 := Lib.hid (T0.out.call hB1)
  have N1 := Lib.hid hlt
  clear hva hpv hvt hI hB1 hlt
  have e0 := T1.out.out 0 _ rfl
  have e1 := T1.out.out 1 _ rfl
  have g0 := T1.out.fo 0
  have g1 := T1.out.fo 1
  have T2 := Lib.hid (T1.out.put 0 (vs := [.slice qa B.pl qc, .slice ra B.tl rc]) (Nat.le_of_ble_eq_true rfl))
  have A1 := Lib.hid (Agree.setL (Sy.out (bo := w.heap.size + 1) (br := w.heap.size)) [.slice qa B.pl qc, .slice ra B.tl rc] w1 0 (Agree.refl (Sy (w.heap.size + 1) w.heap.size) w1))
  have X2 := Lib.hid (HA.out.below T2.out.bel)
  obtain ⟨W2, hW2⟩ : ∃ W2, W2 = setL w1 (w.heap.size + 1) 0 [.slice qa B.pl qc, .slice ra B.tl rc] := ⟨_, rfl⟩
  have HW2 := Lib.hid hW2
  rw [← hW2] at T2 A1 X2
  simp only [setL, Nat.zero_add, Nat.reduceAdd] at hW2
  obtain ⟨ys, y1, y2, y3, y4⟩ := ss_cells (H.out.2.2.1.below T2.out.bel)
  have Y2 := Lib.hid y2
  have Y3 := Lib.hid y3
  have Y4 := Lib.hid y4
  have Y1 := Lib.hid y1
  have hnone := H.out.2.2.1.2.2.2.2.1
  have HN := Lib.hid hnone
  clear y1 y2 y3 y4 hnone
  have x2 := X2.out 2 _ rfl
  rw [hW2] at x2
  have x2' := fun ob => cell_alloc (o := ob) x2
  have hszW2 : W2.heap.size = w1.heap.size := by rw [HW2.out, setL_size]
  have HST : Hid ((W2.alloc (.cells #[] 171)).ownsRow w1.heap.size 171 4 (.slice (some ⟨w1.heap.size, 0, none⟩) 0 0) 0 []) := Lib.hid (by
    have := World.ownsRow_lit (base := W2.heap.size) (e := 171) (size := 4) W2 #[] 0 (Nat.le_refl _) (by decide) rfl
    rw [hszW2] at this; exact this)
  go_wp2_with (at_builtin; go_loud (simp only [← hW2]; refine wpList_append_opt _ rfl _ _ 30 rfl w1.heap.size 171 i0 (.agg #[.int .i64 0, .int .i64 0, .float .f32 0, .float .f32 0]) 4 24 Try.underlying30 hi hz0 hz1 hz2 rfl (by decide) _ 0 [] rfl HST.out B.sa B.sl B.sc ys rfl HN.out Y1.out ?c2 ?c3 ?c4 ?c5 ?c6 ?_))
  case c2 =>
    intro ad had j u hu
    have := Y2.out ad had j u hu
    rw [World.cell?_alloc_lt (h := World.block_lt_of_cell? _ _ this)]
    exact this
  case c3 => exact Y3.out
  case c4 => unfold maxLen; omega
  case c5 => omega
  case c6 => simp [hszW2]
  intro v w3 hown hgrow
  rw [← hW2] at hgrow
  have hown' : w3.ownsRow W2.heap.size 171 4 v B.sl ys := by rw [hszW2]; simpa using hown
  have hB3 : Below W2.heap.size W2 w3 := ((Below.refl _ _).alloc (Nat.le_refl _) _).grown hgrow (by simp) (fun k hk => by simp [Value.ownBlock] at hk; omega)
  obtain ⟨sa, sc, rfl, hS, hSL⟩ := ss_of_owns hown' hsl' Y4.out H.out.2.2.1.2.2.2.1
  have T3 := Lib.hid (T2.out.call hB3)
  have A3 := Lib.hid (A1.out.trans (Agree.of_below hB3))
  have S3 := Lib.hid (And.intro hS hSL)
  have hz3 := hB3.size
  have X3 := Lib.hid (X2.out.below hB3)
  clear hown hgrow hown' hB3 hS hSL x2 x2' e0 e1 g0 g1 hW2
  have e2 := T3.out.out 2 _ rfl
  have g2 := T3.out.fo 2
  have T4 := Lib.hid (T3.out.put 2 (vs := [.slice sa B.sl sc]) (Nat.le_of_ble_eq_true rfl))
  have A4 := Lib.hid (Agree.setL (Sy.out (bo := w.heap.size + 1) (br := w.heap.size)) [.slice sa B.sl sc] w3 2 (Agree.refl (Sy (w.heap.size + 1) w.heap.size) w3))
  have X4 := Lib.hid (HA.out.below T4.out.bel)
  obtain ⟨W4, hW4⟩ : ∃ W4, W4 = setL w3 (w.heap.size + 1) 2 [.slice sa B.sl sc] := ⟨_, rfl⟩
  rw [← hW4] at T4 A4 X4
  have HW4 := Lib.hid hW4
  simp only [setL] at hW4
  obtain ⟨us, u1, u2, u3, u4⟩ := fs_cells (IsFs_below T4.out.bel H.out.2.2.2.1)
  have U2 := Lib.hid u2
  have U3 := Lib.hid u3
  have U4 := Lib.hid u4
  have U1 := Lib.hid u1
  have HN5 := Lib.hid H.out.2.2.2.1.2.2.2.2.1
  clear u1 u2 u3 u4
  have x5 := X4.out 5 _ rfl
  rw [hW4] at x5
  have x5' := fun ob => cell_alloc (o := ob) x5
  have hszW4 : W4.heap.size = w3.heap.size := by rw [HW4.out, setL_size]
  have HST4 : Hid ((W4.alloc (.cells #[] 31)).ownsRow w3.heap.size 31 1 (.slice (some ⟨w3.heap.size, 0, none⟩) 0 0) 0 []) := Lib.hid (by
    have := World.ownsRow_lit (base := W4.heap.size) (e := 31) (size := 1) W4 #[] 0 (Nat.le_refl _) (by decide) rfl
    rw [hszW4] at this; exact this)
  go_wp2_with (at_builtin; simp only [← hW4]; refine wpList_append_opt _ rfl _ _ 32 rfl w3.heap.size 31 j0 (.float .f32 0) 1 4 Try.underlying32 hj hy0 hy1 hy2 rfl (by decide) _ 0 [] rfl HST4.out B.wa B.wl B.wc us rfl HN5.out U1.out ?c2 ?c3 ?c4 ?c5 ?c6 ?_)
  case c2 =>
    intro ad had j u hu
    have := U2.out ad had j u hu
    rw [World.cell?_alloc_lt (h := World.block_lt_of_cell? _ _ this)]
    exact this
  case c3 => exact U3.out
  case c4 => unfold maxLen; omega
  case c5 => omega
  case c6 => simp [hszW4]
  intro v w5 hown hgrow
  rw [← hW4] at hgrow
  have hown' : w5.ownsRow W4.heap.size 31 1 v B.wl us := by rw [hszW4]; simpa using hown
  have hB5 : Below W4.heap.size W4 w5 := ((Below.refl _ _).alloc (Nat.le_refl _) _).grown hgrow (by simp) (fun k hk => by simp [Value.ownBlock] at hk; omega)
  obtain ⟨wa, wc, rfl, hZ, hZL⟩ := fs_of_owns hown' hwl' U4.out H.out.2.2.2.1.2.2.2.1
  have T5 := Lib.hid (T4.out.call hB5)
  have A5 := Lib.hid (A4.out.trans (Agree.of_below hB5))
  have F5 := Lib.hid (And.intro hZ hZL)
  have hz5 := hB5.size
  clear hown hgrow hown' hB5 hZ hZL x5 x5' e2 g2 hW4
  have e0 := T5.out.out 0 _ rfl
  have e1 := T5.out.out 1 _ rfl
  have e2 := T5.out.out 2 _ rfl
  have e3 := T5.out.out 3 _ rfl
  have e4 := T5.out.out 4 _ rfl
  have e5 := T5.out.out 5 _ rfl
  have e6 := T5.out.out 6 _ rfl
  have e7 := T5.out.out 7 _ rfl
  have e8 := T5.out.out 8 _ rfl
  have g5 := T5.out.fo 5
  have q0 := T5.out.res 0 _ rfl
  have p0 := T5.out.fr 0
  have q1 := T5.out.res 1 _ rfl
  have p1 := T5.out.fr 1
  have q2 := T5.out.res 2 _ rfl
  have p2 := T5.out.fr 2
  have q3 := T5.out.res 3 _ rfl
  have p3 := T5.out.fr 3
  have q4 := T5.out.res 4 _ rfl
  have p4 := T5.out.fr 4
  have q5 := T5.out.res 5 _ rfl
  have p5 := T5.out.fr 5
  have q6 := T5.out.res 6 _ rfl
  have p6 := T5.out.fr 6
  have q7 := T5.out.res 7 _ rfl
  have p7 := T5.out.fr 7
  have q8 := T5.out.res 8 _ rfl
  have p8 := T5.out.fr 8
  have T6 := Lib.hid (T5.out.put 5 (vs := [.slice wa B.wl wc]) (Nat.le_of_ble_eq_true rfl))
  have A6 := Lib.hid (Agree.setL (Sy.out (bo := w.heap.size + 1) (br := w.heap.size)) [.slice wa B.wl wc] w5 5 (Agree.refl (Sy (w.heap.size + 1) w.heap.size) w5))
  obtain ⟨hR, hBB⟩ := T6.out.fin (vs' := [.slice qa B.pl qc, .slice ra B.tl rc, .slice sa B.sl sc, .float .f32 B.film, .float .f32 B.bend, .slice wa B.wl wc, .float .f32 B.x, .float .f32 B.y, .float .f32 B.z]) rfl
  have A7 := Agree.setL (Sy.res (bo := w.heap.size + 1) (br := w.heap.size)) [.slice qa B.pl qc, .slice ra B.tl rc, .slice sa B.sl sc, .float .f32 B.film, .float .f32 B.bend, .slice wa B.wl wc, .float .f32 B.x, .float .f32 B.y, .float .f32 B.z] _ 0 A6.out
  simp only [setL, Nat.zero_add, Nat.reduceAdd] at hR hBB A7
  have HR := Lib.hid hR
  have HBB := Lib.hid hBB
  have HA7 := Lib.hid A7
  clear hR hBB A7
  go_wp2
  clear e0 e1 e2 e3 e4 e5 e6 e7 e8 g5 q0 q1 q2 q3 q4 q5 q6 q7 q8 p0 p1 p2 p3 p4 p5 p6 p7 p8
  have m0 := HR.out 0 _ rfl
  have m1 := HR.out 1 _ rfl
  have m2 := HR.out 2 _ rfl
  have m3 := HR.out 3 _ rfl
  have m4 := HR.out 4 _ rfl
  have m5 := HR.out 5 _ rfl
  have m6 := HR.out 6 _ rfl
  have m7 := HR.out 7 _ rfl
  have m8 := HR.out 8 _ rfl
  have G3 := HA7.out
  have G2 := A5.out.trans G3
  have G1 := A3.out.trans G2
  refine bodyPost_ret (v := (⟨qa, ra, sa, wa, B.pl, qc, B.tl, rc, B.sl, sc, B.wl, wc, B.film, B.bend, B.x, B.y, B.z⟩ : Bd).v) (by simp [results, Try.results97, go_sem, m0, m1, m2, m3, m4, m5, m6, m7, m8]) rfl ?_
  have z1 := A1.out.size
  have z4 := A4.out.size
  have n1 := N1.out
  have t1 := T1.out.lt
  have t3 := T3.out.lt
  have t2 := T2.out.lt
  have t4 := T4.out.lt
  have s1 : ∀ q, W.heap.size ≤ q → q < w1.heap.size → Sy (w.heap.size + 1) w.heap.size q := Sy.new (by omega) (by omega)
  have s2 : ∀ q, W2.heap.size ≤ q → q < w3.heap.size → Sy (w.heap.size + 1) w.heap.size q := Sy.new (by omega) (by omega)
  have s3 : ∀ q, W4.heap.size ≤ q → q < w5.heap.size → Sy (w.heap.size + 1) w.heap.size q := Sy.new (by omega) (by omega)
  have y1 := G1.size
  have y2 := G2.size
  have y3 := G3.size
  refine ⟨_, rfl, ⟨vs_agree M1.out.1 M1.out.2.2.1 s1 G1, ts_agree M1.out.2.1 M1.out.2.2.2 s1 G1, ss_agree S3.out.1 (lst_lv S3.out.2) s2 G2, fs_agree F5.out.1 (lst_lv F5.out.2) s3 G3, H.out.2.2.2.2⟩, ?_, ?_, rfl, HBB.out⟩
  · exact ⟨M1.out.2.2.1.wide (by omega) (by omega), (lt_agree M1.out.2.2.2 s1 G1).wide (by omega) (by omega), (lst_lv S3.out.2).wide (by omega) (by omega), (lst_lv F5.out.2).wide (by omega) (by omega)⟩
  · refine P1.out.imp id ?_
    rintro ⟨g, e, hO, hg, hT⟩
    refine ⟨g, e, hO.agree (s1 g hg.1 hg.2) G1, (hT.agree (fun b hb => s1 b hb.2.1 hb.2.2) G1).less (fun b hb => hb.1), fun x hx => ?_, fun x hx => ?_⟩
    · obtain ⟨b, e, k1, k2⟩ := lst_lv S3.out.2 x hx
      exact ⟨b, e, by omega⟩
    · obtain ⟨b, e, k1, k2⟩ := lst_lv F5.out.2 x hx
      exact ⟨b, e, by omega⟩
end Go.Proofs.Ytmbekamnogbgaaa


/-
Places that are moved one by one, the rest of the body as it was. Conditions: the body lies in blocks of its own.
-/
namespace Go.Proofs.Ytmbekamnogbgaaa
open Go Fk Go.RowKit
set_option linter.unusedVariables false
set_option maxRecDepth 8000

/-- The first k places are moved, the others are as they were. -/
def mkW (xs ys : List C3) (d : Option Nat) (n k : Nat) : List C3 := (List.range n).map fun j => if j < k then movC (xs.getD j c0) (ys.getD j c0) d else xs.getD j c0
theorem mkW_len (xs ys : List C3) (d : Option Nat) (n k : Nat) : (mkW xs ys d n k).length = n := by simp [mkW]
theorem mkW_zero {xs ys : List C3} {d : Option Nat} {n : Nat} (h : xs.length = n) : mkW xs ys d n 0 = xs := by
  subst h
  apply List.ext_getElem (by simp [mkW])
  intro i h1 h2
  simp [mkW, List.getD, h2]
theorem mkW_full (xs ys : List C3) (d : Option Nat) (n : Nat) : mkW xs ys d n n = mkM xs ys d n n := by
  apply List.ext_getElem (by simp [mkW, mkM])
  intro i h1 h2
  have hi : i < n := by simpa [mkW] using h1
  simp [mkW, mkM, hi]
theorem mkW_set {xs ys : List C3} {d : Option Nat} {n k : Nat} (hk : k < n) : (mkW xs ys d n k).set k (movC (xs.getD k c0) (ys.getD k c0) d) = mkW xs ys d n (k + 1) := by
  apply List.ext_getElem (by simp [mkW])
  intro i h1 h2
  simp only [mkW, List.getElem_set, List.getElem_map, List.getElem_range]
  by_cases hik : k = i
  · subst hik; simp
  · rw [if_neg hik]
    by_cases h : i < k
    · rw [if_pos h, if_pos (by omega)]
    · rw [if_neg h, if_neg (by omega)]
theorem LTs.and {S T : Nat → Prop} {w : World} {a : Option Addr} {n : Nat} (h : LTs S w a n) (k : LTs T w a n) : LTs (fun b => S b ∧ T b) w a n := fun x hx => by
  obtain ⟨g, e, h1, h2⟩ := h x hx
  obtain ⟨g', e', k1, k2⟩ := k x hx
  subst e
  cases e'
  refine ⟨g, rfl, ⟨h1, k1⟩, fun i hi => ?_⟩
  obtain ⟨b, m, c, hc, hb⟩ := h2 i hi
  obtain ⟨b', m', c', hc', hb'⟩ := k2 i hi
  rw [hc] at hc'
  cases hc'
  refine ⟨b, m, c, hc, fun y hy => ?_⟩
  obtain ⟨q, o, e, z⟩ := hb y hy
  obtain ⟨q', o', e', z'⟩ := hb' y hy
  subst e
  cases e'
  exact ⟨q, o, rfl, z, z'⟩
theorem lts_of_lt {lo hi : Nat} {w : World} {a : Option Addr} {n : Nat} (h : LT lo hi w a n) : LTs (fun b => lo ≤ b ∧ b < hi) w a n := fun x hx => by
  obtain ⟨g, e, h1, h2, h3⟩ := h x hx
  refine ⟨g, e, ⟨h1, h2⟩, fun i hi => ?_⟩
  obtain ⟨b, m, c, hc, hb⟩ := h3 i hi
  refine ⟨b, m, c, hc, fun y hy => ?_⟩
  obtain ⟨q, o, e, z1, z2⟩ := hb y hy
  exact ⟨q, o, e, z1, z2⟩
theorem lt_of_lts {lo hi : Nat} {w : World} {a : Option Addr} {n : Nat} (h : LTs (fun b => lo ≤ b ∧ b < hi) w a n) : LT lo hi w a n := fun x hx => by
  obtain ⟨g, e, ⟨h1, h2⟩, h3⟩ := h x hx
  refine ⟨g, e, h1, h2, fun i hi => ?_⟩
  obtain ⟨b, m, c, hc, hb⟩ := h3 i hi
  refine ⟨b, m, c, hc, fun y hy => ?_⟩
  obtain ⟨q, o, e, z1, z2⟩ := hb y hy
  exact ⟨q, o, e, z1, z2⟩
/-- A body whose places lie in block g, its other lists in blocks that are told. -/
def PZ (S : Nat → Prop) (w : World) (g : Nat) (B : Bd) (cs : List C3) : Prop := (B.pl = 0 ∨ (B.pa = some ⟨g, 0, none⟩ ∧ OwnVs w g cs)) ∧ LTs S w B.ta B.tl ∧ (∀ x, B.sa = some x → ∃ b, x = ⟨b, 0, none⟩ ∧ S b) ∧ (∀ x, B.wa = some x → ∃ b, x = ⟨b, 0, none⟩ ∧ S b)
theorem pz_of {lo hi : Nat} {w : World} {B : Bd} {cs : List C3} (hL : LB lo hi w B) (hX : PX w B.pl B cs) (hlo : lo ≤ hi) : ∃ g, lo ≤ g ∧ g ≠ hi ∧ PZ (fun b => b ≠ g ∧ lo ≤ b ∧ b < hi) w g B cs := by
  obtain ⟨l1, l2, l3, l4⟩ := hL
  have key : ∀ g, (∀ x, B.sa = some x → ∃ b, x = ⟨b, 0, none⟩ ∧ b ≠ g) → (∀ x, B.wa = some x → ∃ b, x = ⟨b, 0, none⟩ ∧ b ≠ g) → LTs (fun b => b ≠ g) w B.ta B.tl → LTs (fun b => b ≠ g ∧ lo ≤ b ∧ b < hi) w B.ta B.tl ∧ (∀ x, B.sa = some x → ∃ b, x = ⟨b, 0, none⟩ ∧ b ≠ g ∧ lo ≤ b ∧ b < hi) ∧ (∀ x, B.wa = some x → ∃ b, x = ⟨b, 0, none⟩ ∧ b ≠ g ∧ lo ≤ b ∧ b < hi) := fun g k1 k2 k3 =>
    ⟨k3.and (lts_of_lt l2), fun x hx => by
      obtain ⟨b, e, h1, h2⟩ := l3 x hx
      obtain ⟨b', e', h3⟩ := k1 x hx
      subst e; cases e'
      exact ⟨b, rfl, h3, h1, h2⟩, fun x hx => by
      obtain ⟨b, e, h1, h2⟩ := l4 x hx
      obtain ⟨b', e', h3⟩ := k2 x hx
      subst e; cases e'
      exact ⟨b, rfl, h3, h1, h2⟩⟩
  rcases hX with h0 | ⟨g, e, hO, k3, k1, k2⟩
  · refine ⟨hi + 1, by omega, by omega, .inl h0, key (hi + 1) (fun x hx => ?_) (fun x hx => ?_) ((lts_of_lt l2).less (fun b hb => by omega))⟩
    · obtain ⟨b, e, h1, h2⟩ := l3 x hx
      exact ⟨b, e, by omega⟩
    · obtain ⟨b, e, h1, h2⟩ := l4 x hx
      exact ⟨b, e, by omega⟩
  · obtain ⟨g', e', h1, h2⟩ := l1 _ e
    cases e'
    exact ⟨g, h1, by omega, .inr ⟨e, hO⟩, key g k1 k2 k3⟩
theorem lv_S {S : Nat → Prop} {a : Option Addr} (h : ∀ x, a = some x → ∃ b, x = ⟨b, 0, none⟩ ∧ S b) : ∃ lo hi, LV lo hi a ∧ ∀ b, lo ≤ b → b < hi → S b := by
  cases a with
  | none => exact ⟨0, 0, fun x hx => (by cases hx), fun b _ hb => absurd hb (Nat.not_lt_zero b)⟩
  | some x =>
    obtain ⟨b, e, hb⟩ := h x rfl
    exact ⟨b, b + 1, fun y hy => ⟨b, (by cases hy; exact e), Nat.le_refl _, Nat.lt_succ_self _⟩, fun q h1 h2 => by
      have : q = b := by omega
      subst this; exact hb⟩
theorem pz_fin {lo hi : Nat} {W w : World} {g : Nat} {B : Bd} {c : Bc} {cs' : List C3} (h : IsB W B c) (hL : LB lo hi W B) (hZ : PZ (fun b => b ≠ g ∧ lo ≤ b ∧ b < hi) W g B c.cs) (hA : Agree (fun b => b ≠ g ∧ lo ≤ b ∧ b < hi) W w) (hO : B.pl = 0 ∨ OwnVs w g cs') (hl : cs'.length = B.pl) :
    IsB w B ⟨cs', c.ts, c.ss, c.zs, c.film, c.bend, c.fall⟩ ∧ LB lo hi w B := by
  obtain ⟨z1, z2, z3, z4⟩ := hZ
  obtain ⟨la, ha, s1, s2⟩ := lv_S z3
  obtain ⟨lb, hb, w1, w2⟩ := lv_S z4
  refine ⟨⟨?_, ts_agreeS h.2.1 z2 (fun _ hb => hb) hA, ss_agree h.2.2.1 s1 s2 hA, fs_agree h.2.2.2.1 w1 w2 hA, h.2.2.2.2⟩, hL.1, lt_of_lts ((z2.agree (fun _ hb => hb) hA).less (fun b hb => hb.2)), hL.2.2⟩
  refine ⟨hl, h.1.2.1, h.1.2.2.1, h.1.2.2.2.1, fun x hx i hi => ?_⟩
  rcases z1 with z1 | ⟨z1, _⟩
  · rw [z1] at hi; exact absurd hi (Nat.not_lt_zero i)
  rcases hO with hO | hO
  · rw [hO] at hi; exact absurd hi (Nat.not_lt_zero i)
  · exact hO.is.2.2.2.2 x (by rw [← hx, z1]) i (by rw [hl]; exact hi)
theorem Tc.put3 {w w1 : World} {bo br g k y z v : Nat} {lo lr : List Value} (h : Tc w bo br lo lr w1) (hg : w.heap.size ≤ g) (h1 : g ≠ bo) (h2 : g ≠ br) : Tc w bo br lo lr (put3 w1 g k y z v) := by
  unfold Go.Proofs.Ytmbekamnogbgaaa.put3
  exact ⟨((h.out.far h1).far h1).far h1, ((h.res.far h2).far h2).far h2, fun i => by simpa using h.fo i, fun i => by simpa using h.fr i, below_set3 h.bel hg, h.ge, by simpa using h.lt⟩
theorem Agree.put3 {S : Nat → Prop} {W w : World} {g k y z v : Nat} (h : Agree S W w) (hg : ¬ S g) : Agree S W (put3 w g k y z v) := ((h.set hg).set hg).set hg
end Go.Proofs.Ytmbekamnogbgaaa


/-
Meshes that are held: what the model makes. Conditions: the mesh and the holds lie in memory, the holds are good for the mesh.
-/
namespace Go.Proofs.Ytmbekamnogbgaaa
open Go Fk Go.RowKit
set_option linter.unusedVariables false
set_option maxRecDepth 16000

theorem good_in {n : Nat} {hs : List HC} (h : goodB n hs = true) : ∀ k, k < hs.length → inB n (hs.getD k hd0).1 = true := fun k hk => by
  unfold goodB at h
  rw [List.all_eq_true] at h
  have := h k (List.mem_range.mpr hk)
  unfold stepB at this
  simp only [Bool.and_eq_true] at this
  exact this.2.1
/-- A mesh as a body without springs. -/
def mshC (cs : List C3) (ts : List (List Int)) : Bc := ⟨cs, ts, [], [], some 0, some 0, z3⟩
set_option maxHeartbeats 4000000 in
theorem l04Mesh (pb : Nat) (pa ta ha : Option Addr) (pl pc tl tc hl hc : Nat) (cs : List C3) (ts : List (List Int)) (hs : List HC) (w : World) (k0' : w.cell? ⟨pb, 0, none⟩ = some (.slice pa pl pc)) (k1' : w.cell? ⟨pb, 1, none⟩ = some (.slice ta tl tc)) (hp : IsVs w pa pl pc cs) (ht : IsTs w ta tl tc ts) (hh : IsHs w ha hl hc hs) (h1 : pl ≤ 1000) (h2 : tl ≤ 1000) (h3 : ∀ j, j < tl → (ts.getD j []).length ≤ 1000) (hg : ∀ k, k < hl → inB pl (hs.getD k hd0).1 = true) :
    Calls Try.prog 90 #[.pointer (some ⟨pb, 0, none⟩), .slice ha hl hc] w fun e w' => (∃ qa qc ra rc, e = .returned (.agg #[.slice qa pl qc, .slice ra tl rc]) ∧ IsVs w' qa pl qc (putF hs cs) ∧ IsTs w' ra tl rc ts ∧ LV w.heap.size w'.heap.size qa ∧ LT w.heap.size w'.heap.size w' ra tl) ∧ Below w.heap.size w w' := by
  have ui := Try.underlying29
  have uh := Try.underlying117
  have uv := Try.underlying34
  have hM : hl ≤ 9223372036854775807 := by have h1 := hh.2.1; have h2 := hh.2.2.1; unfold maxLen at h2; omega
  have hhl := hh.1
  have hpl := hp.1
  have htl := ht.1
  have B0 : Hid (Below w.heap.size w (w.alloc (.cells #[.slice none 0 0, .slice none 0 0] 29))) := Lib.hid ((Below.refl _ _).alloc (Nat.le_refl _) _)
  have A0 : Hid (At (w.alloc (.cells #[.slice none 0 0, .slice none 0 0] 29)) w.heap.size [.slice none 0 0, .slice none 0 0]) := Lib.hid At.new
  have F0 : Hid (∀ i, (w.alloc (.cells #[.slice none 0 0, .slice none 0 0] 29)).frozen? ⟨w.heap.size, i, none⟩ = false) := Lib.hid (fun i => by go_simp)
  have hsz : (w.alloc (.cells #[.slice none 0 0, .slice none 0 0] 29)).heap.size = w.heap.size + 1 := by simp
  have SZ := Lib.hid hsz
  have HH := Lib.hid hh
  have HG := Lib.hid hg
  have HPL := Lib.hid hpl
  have HT3 := Lib.hid (ts_wf ht)
  have HOWN := Lib.hid (l02Own pb pa ta pl pc tl tc cs ts _ (cell_below B0.out k0') (cell_below B0.out k1') (hp.below B0.out) (ht.below B0.out) h1 h2 h3)
  clear hp ht hh h3 hsz hg k0' k1'
  go_enter Try.func90, Try.ntmps90
  go_wp2_with fail
  generalize (w.alloc (.cells #[.slice none 0 0, .slice none 0 0] 29)) = W at *
  refine HOWN.out.mono ?_
  rintro e w1 ⟨⟨va, vt, xs, rfl, hva, hpv, hvt⟩, hB1⟩
  obtain ⟨qa, qc, rfl⟩ := owns_slice hva
  obtain ⟨ra, rc, rfl⟩ := OwnT.slice hvt
  obtain ⟨ra', rc', e, hI⟩ := OwnT.is hvt htl HT3.out
  cases e
  have hs1 := hB1.size
  have hL : LB W.heap.size w1.heap.size w1 ⟨qa, ra, none, none, pl, qc, tl, rc, 0, 0, 0, 0, 0, 0, 0, 0, 0⟩ := ⟨lv_of_owns hva, lt_of_owns hvt, fun x hx => (by cases hx), fun x hx => (by cases hx)⟩
  have hX : PX w1 pl ⟨qa, ra, none, none, pl, qc, tl, rc, 0, 0, 0, 0, 0, 0, 0, 0, 0⟩ cs := by
    rcases own_blk hva hpv hpl with ⟨_, hz⟩ | ⟨g, cap, e, hb, _, _, hO⟩
    · exact .inl hz
    · cases e
      exact .inr ⟨g, rfl, hO, (lts_of_owns hvt hva).less (fun b hb => hb.1), fun x hx => (by cases hx), fun x hx => (by cases hx)⟩
  have hIB : IsB w1 ⟨qa, ra, none, none, pl, qc, tl, rc, 0, 0, 0, 0, 0, 0, 0, 0, 0⟩ (mshC cs ts) := ⟨vs_owned hva hpl hpv, hI, nil_ss _, nil_fs _, fv_0, fv_0, fv3_0⟩
  rw [SZ.out] at hs1 hL
  obtain ⟨g, g1, g2, hZ⟩ := pz_of hL hX hs1
  have hN : Below w1.heap.size w1 (w1.alloc (.cells #[.slice qa pl qc, .slice ra tl rc] 29)) := (Below.refl _ _).alloc (Nat.le_refl _) _
  have T0 : Hid (Tc w w1.heap.size w.heap.size [.slice qa pl qc, .slice ra tl rc] [.slice none 0 0, .slice none 0 0] (w1.alloc (.cells #[.slice qa pl qc, .slice ra tl rc] 29))) := Lib.hid
    ⟨At.new, (A0.out.below hB1).below hN, fun i => by go_simp, fun i => by rw [hN.frozen (p := ⟨w.heap.size, i, none⟩) (show w.heap.size < w1.heap.size by omega), hB1.frozen (p := ⟨w.heap.size, i, none⟩) (show w.heap.size < W.heap.size by rw [SZ.out]; omega)]; exact F0.out i, (B0.out.trans (hB1.mono B0.out.size)).trans (hN.mono (by omega)), ⟨by omega, Nat.le_refl _, by omega⟩, by simp <;> omega⟩
  have K := Lib.hid (And.intro hIB (And.intro hL hZ))
  have G := Lib.hid (And.intro g1 g2)
  have O0 : Hid (pl = 0 ∨ OwnVs (w1.alloc (.cells #[.slice qa pl qc, .slice ra tl rc] 29)) g (putF (hs.take 0) cs)) := Lib.hid (hZ.1.imp id fun k => k.2.below hN)
  have E0 : Hid (Agree (fun b => b ≠ g ∧ w.heap.size + 1 ≤ b ∧ b < w1.heap.size) w1 (w1.alloc (.cells #[.slice qa pl qc, .slice ra tl rc] 29))) := Lib.hid (Agree.of_below hN)
  have PA : Hid (pl = 0 ∨ qa = some ⟨g, 0, none⟩) := Lib.hid (hZ.1.imp id (fun k => k.1))
  have S1 := Lib.hid hs1
  clear hI hL hX hZ hN hB1 hs1 hIB g1 g2 hva hpv hvt
  go_wp2
  generalize (w1.alloc (.cells #[.slice qa pl qc, .slice ra tl rc] 29)) = W2 at *
  go_loopw [6] (fun i w' => ∃ k : Nat, k ≤ hl ∧ i = .int .i64 k ∧ Aside (Tc w w1.heap.size w.heap.size [.slice qa pl qc, .slice ra tl rc] [.slice none 0 0, .slice none 0 0] w' ∧ (pl = 0 ∨ OwnVs w' g (putF (hs.take k) cs)) ∧ Agree (fun b => b ≠ g ∧ w.heap.size + 1 ≤ b ∧ b < w1.heap.size) w1 w')) (fun i _ => hl - (intOf i).toNat)
  case atStart => exact ⟨0, Nat.zero_le _, rfl, T0.out, O0.out, E0.out⟩
  case round =>
    obtain ⟨k, hk, rfl, hA⟩ := hrel
    have TK := Lib.hid hA.out.1
    have OK := Lib.hid hA.out.2.1
    have EK := Lib.hid hA.out.2.2
    clear hA
    by_cases hlt : k < hl
    · obtain ⟨hb, ho, rfl, hcell⟩ := HH.out.some (by omega)
      obtain ⟨h, hq, hi⟩ := hcell k hlt
      have hlk : k < hs.length := by omega
      have hin := of_decide_eq_true (HG.out k hlt)
      have hpz : h.p = (hs.getD k hd0).1 := hi.1
      rw [← hpz] at hin
      have p0 : (0 : Int) ≤ h.p := hin.1
      have p1 : h.p < (pl : Int) := by omega
      have hne : ¬ pl = 0 := by omega
      have hk0 : (0 : Int) ≤ (k : Int) := by omega
      have hk1 : (k : Int) < (hl : Int) := by omega
      have LT : Hid (h.p.toNat < (putF (hs.take k) cs).length) := Lib.hid (by rw [putF_len]; omega)
      have hsn := putF_snoc hs cs k hlk
      unfold put1 at hsn
      rw [← hpz] at hsn
      have HSN := Lib.hid hsn
      have HI := Lib.hid hi
      have O1 := Lib.hid (OK.out.resolve_left hne)
      have hpa := PA.out.resolve_left hne
      have CO := TK.out.out 0 _ rfl
      rw [hpa] at CO
      have CO := Lib.hid CO
      have QK := Lib.hid (hq.below TK.out.bel)
      have ch := QK.out 0 (by omega)
      simp only [HW.l, List.getElem?_cons_zero, Nat.add_zero] at ch
      have CH := Lib.hid ch
      obtain ⟨NP, hNP⟩ : ∃ NP, (putF (hs.take k) cs).getD h.p.toNat c0 = NP := ⟨_, rfl⟩
      rw [hNP] at HSN
      have HNP := Lib.hid hNP
      have HPA := Lib.hid hpa
      generalize hs.getD k hd0 = HCk at *
      clear hcell hq hi hin hpz hsn hpa ch hNP hne
      go_wp2_with fail
      refine Reg6.wp_region_mix (s := 21) (C := fun w' => Below wr.heap.size wr w') (D := fun _ w' => ∃ wp y z v, Below wr.heap.size wr wp ∧ F3 y z v (putC HCk NP) ∧ w' = put3 wp g h.p.toNat y z v) (G := fun w1 w2 => Below w1.heap.size w1 w2)
        (Rv := fun i v => match i with | 0 => v = .pointer (some ⟨w1.heap.size, 0, none⟩) | 1 => v = .slice (some ⟨g, 0, none⟩) pl qc | 2 => v = .slice (some ⟨hb, ho, none⟩) hl hc | 3 => v = .int .i64 k | 4 => v = .pointer (some ⟨hb, ho + k * 8, none⟩) | 5 => v = .pointer (some ⟨hb, ho + k * 8, none⟩) | 6 => v = .int .i64 h.p | 7 => v = .slice (some ⟨hb, ho, none⟩) hl hc | 8 => v = .int .i64 k | 9 => v = .pointer (some ⟨hb, ho + k * 8, none⟩) | 10 => v = .pointer (some ⟨w1.heap.size, 0, none⟩) | 11 => v = .slice (some ⟨g, 0, none⟩) pl qc | 12 => v = .slice (some ⟨hb, ho, none⟩) hl hc | 13 => v = .int .i64 k | 14 => v = .pointer (some ⟨hb, ho + k * 8, none⟩) | 15 => v = .pointer (some ⟨hb, ho + k * 8, none⟩) | 16 => v = .int .i64 h.p | 17 => v = .pointer (some ⟨g, h.p.toNat * 3, none⟩) | 18 => ∃ p q r, v = vv p q r ∧ F3 p q r NP | 19 => ∃ p q r, v = vv p q r ∧ F3 p q r (putC HCk NP) | 20 => v = .pointer (some ⟨g, h.p.toNat * 3, none⟩) | _ => True)
        (Rw := fun _ _ _ => True) [false, false, false, false, false, false, false, false, false, false, false, false, false, false, false, true, true, true, true, true, true, true, true, true, true, true, true, true, true, true, true, true, true, true, true, true, false]
        (by kernel_rfl) (by kernel_rfl) (by kernel_rfl) (fun _ _ _ _ _ _ _ => trivial) (below_drewN (Below.refl _ _) 1) ?_ ?_
      · refine ⟨?_, ?_, ?_, ?_, ?_, ?_, ?_, ?_, ?_, ?_, ?_, ?_, ?_, ?_, ?_, ?_, ?_, ?_, ?_, ?_, ?_, ?_, trivial⟩
        · refine Reg6.Obl.early rfl (by kernel_rfl) ?_
          rintro av wq hC hx hd K hK
          have HC := Lib.hid hC
          clear hC
          have t5 : av.tmps[5]?.getD undef = .pointer (some ⟨w1.heap.size, 0, none⟩) := Reg.slot_val (hx 5 (by kernel_rfl))
          go_simp
          exact hK _ _ rfl trivial HC.out (Below.refl _ _)
        · refine Reg6.Obl.early rfl (by kernel_rfl) ?_
          rintro av wq hC hx hd K hK
          have HC := Lib.hid hC
          clear hC
          have t15 : av.tmps[15]?.getD undef = .pointer (some ⟨w1.heap.size, 0, none⟩) := Reg.slot_val (hd 0 15 (by kernel_rfl) rfl).1
          have y0 := cell_below HC.out CO.out
          go_simp
          exact hK _ _ rfl trivial HC.out (Below.refl _ _)
        · refine Reg6.Obl.early rfl (by kernel_rfl) ?_
          rintro av wq hC hx hd K hK
          have HC := Lib.hid hC
          clear hC
          have t1 : av.tmps[1]?.getD undef = .slice (some ⟨hb, ho, none⟩) hl hc := Reg.slot_val (hx 1 (by kernel_rfl))
          go_simp
          exact hK _ _ rfl trivial HC.out (Below.refl _ _)
        · refine Reg6.Obl.early rfl (by kernel_rfl) ?_
          rintro av wq hC hx hd K hK
          have HC := Lib.hid hC
          clear hC
          have t6 : av.tmps[6]?.getD undef = .int .i64 k := Reg.slot_val (hx 6 (by kernel_rfl))
          go_simp
          exact hK _ _ rfl trivial HC.out (Below.refl _ _)
        · refine Reg6.Obl.early rfl (by kernel_rfl) ?_
          rintro av wq hC hx hd K hK
          have HC := Lib.hid hC
          clear hC
          have t17 : av.tmps[17]?.getD undef = .slice (some ⟨hb, ho, none⟩) hl hc := Reg.slot_val (hd 2 17 (by kernel_rfl) rfl).1
          have t18 : av.tmps[18]?.getD undef = .int .i64 k := Reg.slot_val (hd 3 18 (by kernel_rfl) rfl).1
          go_simp
          exact hK _ _ rfl trivial HC.out (Below.refl _ _)
        · refine Reg6.Obl.early rfl (by kernel_rfl) ?_
          rintro av wq hC hx hd K hK
          have HC := Lib.hid hC
          clear hC
          have t19 : av.tmps[19]?.getD undef = .pointer (some ⟨hb, ho + k * 8, none⟩) := Reg.slot_val (hd 4 19 (by kernel_rfl) rfl).1
          go_simp
          exact hK _ _ rfl trivial HC.out (Below.refl _ _)
        · refine Reg6.Obl.early rfl (by kernel_rfl) ?_
          rintro av wq hC hx hd K hK
          have HC := Lib.hid hC
          clear hC
          have t20 : av.tmps[20]?.getD undef = .pointer (some ⟨hb, ho + k * 8, none⟩) := Reg.slot_val (hd 5 20 (by kernel_rfl) rfl).1
          have y0 := cell_below HC.out CH.out
          go_simp
          exact hK _ _ rfl trivial HC.out (Below.refl _ _)
        · refine Reg6.Obl.early rfl (by kernel_rfl) ?_
          rintro av wq hC hx hd K hK
          have HC := Lib.hid hC
          clear hC
          have t1 : av.tmps[1]?.getD undef = .slice (some ⟨hb, ho, none⟩) hl hc := Reg.slot_val (hx 1 (by kernel_rfl))
          go_simp
          exact hK _ _ rfl trivial HC.out (Below.refl _ _)
        · refine Reg6.Obl.early rfl (by kernel_rfl) ?_
          rintro av wq hC hx hd K hK
          have HC := Lib.hid hC
          clear hC
          have t6 : av.tmps[6]?.getD undef = .int .i64 k := Reg.slot_val (hx 6 (by kernel_rfl))
          go_simp
          exact hK _ _ rfl trivial HC.out (Below.refl _ _)
        · refine Reg6.Obl.early rfl (by kernel_rfl) ?_
          rintro av wq hC hx hd K hK
          have HC := Lib.hid hC
          clear hC
          have t22 : av.tmps[22]?.getD undef = .slice (some ⟨hb, ho, none⟩) hl hc := Reg.slot_val (hd 7 22 (by kernel_rfl) rfl).1
          have t23 : av.tmps[23]?.getD undef = .int .i64 k := Reg.slot_val (hd 8 23 (by kernel_rfl) rfl).1
          go_simp
          exact hK _ _ rfl trivial HC.out (Below.refl _ _)
        · refine Reg6.Obl.early rfl (by kernel_rfl) ?_
          rintro av wq hC hx hd K hK
          have HC := Lib.hid hC
          clear hC
          have t5 : av.tmps[5]?.getD undef = .pointer (some ⟨w1.heap.size, 0, none⟩) := Reg.slot_val (hx 5 (by kernel_rfl))
          go_simp
          exact hK _ _ rfl trivial HC.out (Below.refl _ _)
        · refine Reg6.Obl.early rfl (by kernel_rfl) ?_
          rintro av wq hC hx hd K hK
          have HC := Lib.hid hC
          clear hC
          have t25 : av.tmps[25]?.getD undef = .pointer (some ⟨w1.heap.size, 0, none⟩) := Reg.slot_val (hd 10 25 (by kernel_rfl) rfl).1
          have y0 := cell_below HC.out CO.out
          go_simp
          exact hK _ _ rfl trivial HC.out (Below.refl _ _)
        · refine Reg6.Obl.early rfl (by kernel_rfl) ?_
          rintro av wq hC hx hd K hK
          have HC := Lib.hid hC
          clear hC
          have t1 : av.tmps[1]?.getD undef = .slice (some ⟨hb, ho, none⟩) hl hc := Reg.slot_val (hx 1 (by kernel_rfl))
          go_simp
          exact hK _ _ rfl trivial HC.out (Below.refl _ _)
        · refine Reg6.Obl.early rfl (by kernel_rfl) ?_
          rintro av wq hC hx hd K hK
          have HC := Lib.hid hC
          clear hC
          have t6 : av.tmps[6]?.getD undef = .int .i64 k := Reg.slot_val (hx 6 (by kernel_rfl))
          go_simp
          exact hK _ _ rfl trivial HC.out (Below.refl _ _)
        · refine Reg6.Obl.early rfl (by kernel_rfl) ?_
          rintro av wq hC hx hd K hK
          have HC := Lib.hid hC
          clear hC
          have t27 : av.tmps[27]?.getD undef = .slice (some ⟨hb, ho, none⟩) hl hc := Reg.slot_val (hd 12 27 (by kernel_rfl) rfl).1
          have t28 : av.tmps[28]?.getD undef = .int .i64 k := Reg.slot_val (hd 13 28 (by kernel_rfl) rfl).1
          go_simp
          exact hK _ _ rfl trivial HC.out (Below.refl _ _)
        · refine Reg6.Obl.early rfl (by kernel_rfl) ?_
          rintro av wq hC hx hd K hK
          have HC := Lib.hid hC
          clear hC
          have t29 : av.tmps[29]?.getD undef = .pointer (some ⟨hb, ho + k * 8, none⟩) := Reg.slot_val (hd 14 29 (by kernel_rfl) rfl).1
          go_simp
          exact hK _ _ rfl trivial HC.out (Below.refl _ _)
        · refine Reg6.Obl.early rfl (by kernel_rfl) ?_
          rintro av wq hC hx hd K hK
          have HC := Lib.hid hC
          clear hC
          have t30 : av.tmps[30]?.getD undef = .pointer (some ⟨hb, ho + k * 8, none⟩) := Reg.slot_val (hd 15 30 (by kernel_rfl) rfl).1
          have y0 := cell_below HC.out CH.out
          go_simp
          exact hK _ _ rfl trivial HC.out (Below.refl _ _)
        · refine Reg6.Obl.early rfl (by kernel_rfl) ?_
          rintro av wq hC hx hd K hK
          have HC := Lib.hid hC
          clear hC
          have t26 : av.tmps[26]?.getD undef = .slice (some ⟨g, 0, none⟩) pl qc := Reg.slot_val (hd 11 26 (by kernel_rfl) rfl).1
          have t31 : av.tmps[31]?.getD undef = .int .i64 h.p := Reg.slot_val (hd 16 31 (by kernel_rfl) rfl).1
          go_simp
          exact hK _ _ (by first | rfl | simp) trivial HC.out (Below.refl _ _)
        · refine Reg6.Obl.early rfl (by kernel_rfl) ?_
          rintro av wq hC hx hd K hK
          have HC := Lib.hid hC
          clear hC
          obtain ⟨pp, qq, rr, ⟨y0, y1, y2⟩, hf⟩ := (O1.out.below HC.out).at (k := h.p.toNat) LT.out
          rw [HNP.out] at hf
          have t32 : av.tmps[32]?.getD undef = .pointer (some ⟨g, h.p.toNat * 3, none⟩) := Reg.slot_val (hd 17 32 (by kernel_rfl) rfl).1
          go_simp
          exact hK _ _ ⟨pp, qq, rr, rfl, hf⟩ trivial HC.out (Below.refl _ _)
        · refine Reg6.Obl.early rfl (by kernel_rfl) ?_
          rintro av wq hC hx hd K hK
          have HC := Lib.hid hC
          clear hC
          have t24 : av.tmps[24]?.getD undef = .pointer (some ⟨hb, ho + k * 8, none⟩) := Reg.slot_val (hd 9 24 (by kernel_rfl) rfl).1
          obtain ⟨p33, q33, r33, g33, f33⟩ := (hd 18 33 (by kernel_rfl) rfl).1
          have t33 := Reg.slot_val g33
          clear g33
          go_simp
          refine (l04Put hb (ho + k * 8) h HCk _ _ _ _ _ (QK.out.below HC.out) HI.out f33).mono ?_
          rintro en w2 ⟨p', q', r', rfl, hF, hB2⟩
          exact hK _ _ ⟨p', q', r', rfl, hF⟩ trivial (HC.out.trans (hB2.mono HC.out.size)) hB2
        · refine Reg6.Obl.early rfl (by kernel_rfl) ?_
          rintro av wq hC hx hd K hK
          have HC := Lib.hid hC
          clear hC
          have t16 : av.tmps[16]?.getD undef = .slice (some ⟨g, 0, none⟩) pl qc := Reg.slot_val (hd 1 16 (by kernel_rfl) rfl).1
          have t21 : av.tmps[21]?.getD undef = .int .i64 h.p := Reg.slot_val (hd 6 21 (by kernel_rfl) rfl).1
          go_simp
          exact hK _ _ (by first | rfl | simp) trivial HC.out (Below.refl _ _)
        · refine Reg6.Obl.store rfl ?_
          rintro av wq hC hx hd K hK
          have HC := Lib.hid hC
          clear hC
          have t35 : av.tmps[35]?.getD undef = .pointer (some ⟨g, h.p.toNat * 3, none⟩) := Reg.slot_val (hd 20 35 (by kernel_rfl) rfl).1
          obtain ⟨y, z, v, g34, f34⟩ := (hd 19 34 (by kernel_rfl) rfl).1
          have t34 := Reg.slot_val g34
          have HPP : Hid (∃ wp y' z' v', Below wr.heap.size wr wp ∧ F3 y' z' v' (putC HCk NP) ∧ put3 wq g h.p.toNat y z v = put3 wp g h.p.toNat y' z' v') := Lib.hid ⟨wq, y, z, v, HC.out, f34, rfl⟩
          obtain ⟨p0, q0, r0, ⟨y0, y1, y2⟩, -⟩ := (O1.out.below HC.out).at (k := h.p.toNat) LT.out
          have f0 := (O1.out.below HC.out).2.1 (h.p.toNat * 3)
          have f1 := (O1.out.below HC.out).2.1 (h.p.toNat * 3 + 1)
          have f2 := (O1.out.below HC.out).2.1 (h.p.toNat * 3 + 2)
          clear g34 f34
          go_simp
          exact hK _ HPP.out
      · rintro f w2 hD hd
        obtain ⟨wp, y, z, v, hB, hF, rfl⟩ := hD
        simp only [Reg.mixL]
        have O2 := Lib.hid ((O1.out.below hB).put (k := h.p.toNat) LT.out hF)
        have T2 := Lib.hid ((TK.out.call hB).put3 (k := h.p.toNat) (y := y) (z := z) (v := v) (show w.heap.size ≤ g by have := G.out.1; omega) G.out.2 (show g ≠ w.heap.size by have := G.out.1; omega))
        have E2 := Lib.hid ((EK.out.trans (Agree.of_below hB)).put3 (k := h.p.toNat) (y := y) (z := z) (v := v) (fun hb => hb.1 rfl))
        clear hB hF hd
        go_wp2
        go_roundw
        case rel => exact ⟨k + 1, by omega, by go_num, T2.out, .inr (by rw [HSN.out]; exact O2.out), E2.out⟩
        case measure => simp [intOf]; omega
    · obtain rfl : k = hl := by omega
      have hall : hs.take k = hs := by rw [← hhl]; exact List.take_length
      rw [hall] at OK
      have k0 := TK.out.out 0 _ rfl
      have k1 := TK.out.out 1 _ rfl
      have q0 := TK.out.res 0 _ rfl
      have q1 := TK.out.res 1 _ rfl
      have p0 := TK.out.fr 0
      have p1 := TK.out.fr 1
      obtain ⟨hR, hBB⟩ := TK.out.fin (vs' := [.slice qa pl qc, .slice ra tl rc]) rfl
      have hE := Agree.setL (S := (fun b => b ≠ g ∧ w.heap.size + 1 ≤ b ∧ b < w1.heap.size)) (g := w.heap.size) (fun hb => by omega) [.slice qa pl qc, .slice ra tl rc] _ 0 EK.out
      have hO := OK.out.imp id (fun k => OwnVs.agree (S := fun b => b ≠ w.heap.size) k (show g ≠ w.heap.size by have := G.out.1; omega) (Agree.setL (fun hb => hb rfl) [.slice qa pl qc, .slice ra tl rc] _ 0 (Agree.refl _ _)))
      have hF := pz_fin K.out.1 K.out.2.1 K.out.2.2 hE hO (by rw [putF_len, HPL.out])
      have hsz := hE.size
      simp only [setL, Nat.zero_add, Nat.reduceAdd] at hR hBB hF hsz
      have HR := Lib.hid hR
      have HBB := Lib.hid hBB
      have HF := Lib.hid hF
      have HSZ := Lib.hid hsz
      clear hR hBB hE hO hF hsz
      go_wp2
      clear k0 k1 q0 q1 p0 p1
      have m0 := HR.out 0 _ rfl
      have m1 := HR.out 1 _ rfl
      refine bodyPost_ret (v := .agg #[.slice qa pl qc, .slice ra tl rc]) (by simp [results, Try.results90, go_sem, m0, m1]) rfl ?_
      exact ⟨⟨qa, qc, ra, rc, rfl, HF.out.1.1, HF.out.1.2.1, HF.out.2.1.wide (by omega) HSZ.out, HF.out.2.2.1.wide (by omega) HSZ.out⟩, HBB.out⟩
end Go.Proofs.Ytmbekamnogbgaaa

/-
Texts in one: what StiffTimes stands on, part 27. Conditions: those of each.
-/
import Derived.Test.YtabccmobmppdnaaGreatKStiffTimes26
-- halved
namespace Go.Proofs.YtabccmobmppdnaaGreat
open Go Fk Go.RowKit
set_option linter.unusedVariables false
set_option maxRecDepth 8000
theorem laws_markMeshB (lo hi b o b' o' pl pc tl tc : Nat) (ts : List (List Int)) (k0 : Nat) (w : World) (h : OwnM lo hi w b o b' o' pl tl ts) (hlo : lo ≤ w.heap.size) (h1 : pl ≤ 1048576) (h2 : tl ≤ 1048576) (hn : ∀ j, j < tl → (ts.getD j []).length ≤ 1048576) (hk : k0 ≤ 1000000) :
  Calls Tryz.prog 76 #[.agg #[.slice (some ⟨b, o, none⟩) pl pc, .slice (some ⟨b', o', none⟩) tl tc], .int .i64 k0] w fun e w' => ∃ z : Nat, z ≤ 2000000000000000000 ∧ e = .returned (.int .i64 z) ∧ Mark lo hi w w' := by
 have ui := Tryz.underlying40
 obtain ⟨hown, hrows, hne, hlt⟩ := h
 have hA : Mark lo hi w (w.alloc (.cells #[.slice (some ⟨b, o, none⟩) pl pc, .slice (some ⟨b', o', none⟩) tl tc] 40)) := Mark.alloc hlo _
 have a1 : (w.alloc (.cells #[.slice (some ⟨b, o, none⟩) pl pc, .slice (some ⟨b', o', none⟩) tl tc] 40)).cell? ⟨w.heap.size, 1, none⟩ = some (.slice (some ⟨b', o', none⟩) tl tc) := by go_simp
 have a0 : (w.alloc (.cells #[.slice (some ⟨b, o, none⟩) pl pc, .slice (some ⟨b', o', none⟩) tl tc] 40)).cell? ⟨w.heap.size, 0, none⟩ = some (.slice (some ⟨b, o, none⟩) pl pc) := by go_simp
 have nb : w.heap.size ≠ b := by have := hown.2.2.1; omega
 have hV := laws_markVectorS lo hi b o pl pc k0 _ (hown.mark hA) (by omega)
 have hs : ∀ i, (w.alloc (.cells #[.slice (some ⟨b, o, none⟩) pl pc, .slice (some ⟨b', o', none⟩) tl tc] 40)).cell? ⟨b', i, none⟩ = w.cell? ⟨b', i, none⟩ := fun i => by rw [World.cell?_alloc_lt (h := hlt)]
 have HV := Lib.hid hV
 have HA := Lib.hid hA
 have HR := Lib.hid (hrows.mark hs hA)
 have HNE := Lib.hid hne
 have HNB := Lib.hid nb
 have HN := Lib.hid hn
 clear hV hA hrows hne hs nb hown hlt hn
 generalize hCH : w.alloc (.cells #[.slice (some ⟨b, o, none⟩) pl pc, .slice (some ⟨b', o', none⟩) tl tc] 40) = W at *
 go_enter Tryz.func76, Tryz.ntmps76
 go_wp2_with fail
 refine HV.out.mono ?_
 rintro e w1 ⟨rfl, _, ho, hM1⟩
 have a1' : w1.cell? ⟨w.heap.size, 1, none⟩ = some (.slice (some ⟨b', o', none⟩) tl tc) := (ho _ _ (.inl HNB.out)).trans a1
 have HR1 := Lib.hid (HR.out.mark (fun i => ho b' i (.inl (fun h => HNE.out h.symm))) hM1)
 have HM1 := Lib.hid (HA.out.trans hM1)
 clear ho hM1 a0 a1 HV HR hCH
 generalize hq : k0 + pl * 3 = q at *
 have hq' : q ≤ 1000000000000000000 := by omega
 clear hq
 go_wp2_with (go_at_call 133; refine (laws_markInt64SS lo hi b' o' tl tc ts q w1 HR1.out h2 HN.out hq').mono ?_; rintro e w2 ⟨z, hz, rfl, _, hM2⟩; have HM2 := Lib.hid hM2; clear hM2)
 go_ret
 exact ⟨z, by omega, rfl, HM1.out.trans HM2.out⟩
end Go.Proofs.YtabccmobmppdnaaGreat
namespace Go.Proofs.YtabccmobmppdnaaGreat
open Go Fk Go.RowKit
set_option linter.unusedVariables false
set_option maxRecDepth 8000
theorem body_sizes {c : Bc} (hv : bodyB c = true) : c.cs.length ≤ 64 ∧ c.ts.length ≤ 128 ∧ c.ss.length ≤ 200 ∧ c.zs.length ≤ 64 ∧ ∀ k, k < c.ts.length → (c.ts.getD k []).length = 3 := by
 unfold bodyB at hv
 simp only [Bool.and_eq_true] at hv
 obtain ⟨⟨⟨hv1, hv2⟩, hv3⟩, hv4⟩ := hv
 obtain ⟨h1, h2⟩ := valid_pl hv1
 have k2 := of_decide_eq_true hv2
 have k3 := of_decide_eq_true hv3
 exact ⟨h1, h2, k2, by omega, rows3h hv1⟩
end Go.Proofs.YtabccmobmppdnaaGreat
namespace Go.Proofs.YtabccmobmppdnaaGreat
open Go Fk Go.RowKit
set_option linter.unusedVariables false
set_option maxRecDepth 8000
def mvC (c : Bc) (ys : List C3) (d : Option Nat) : Bc := ⟨mkM c.cs ys d c.cs.length c.cs.length, c.ts, c.ss, c.zs, c.film, c.bend, c.fall⟩
end Go.Proofs.YtabccmobmppdnaaGreat
namespace Go.Proofs.YtabccmobmppdnaaGreat
open Go Fk Go.RowKit
set_option linter.unusedVariables false
set_option maxRecDepth 8000
def LTs (S : Nat → Prop) (w : World) (a : Option Addr) (n : Nat) : Prop := ∀ x, a = some x → ∃ g, x = ⟨g, 0, none⟩ ∧ S g ∧ ∀ i, i < n → ∃ b m c, w.cell? ⟨g, i, none⟩ = some (.slice b m c) ∧ ∀ y, b = some y → ∃ h o, y = ⟨h, o, none⟩ ∧ S h
theorem LTs.less {S T : Nat → Prop} {w : World} {a : Option Addr} {n : Nat} (h : LTs S w a n) (hT : ∀ b, S b → T b) : LTs T w a n := fun x hx => by
 obtain ⟨g, e, h1, h2⟩ := h x hx
 refine ⟨g, e, hT g h1, fun i hi => ?_⟩
 obtain ⟨b, m, c, hc, hb⟩ := h2 i hi
 refine ⟨b, m, c, hc, fun y hy => ?_⟩
 obtain ⟨q, o, e, k⟩ := hb y hy
 exact ⟨q, o, e, hT q k⟩
theorem LTs.agree {S T : Nat → Prop} {W w : World} {a : Option Addr} {n : Nat} (h : LTs S W a n) (hS : ∀ b, S b → T b) (hA : Agree T W w) : LTs S w a n := fun x hx => by
 obtain ⟨g, e, h1, h2⟩ := h x hx
 refine ⟨g, e, h1, fun i hi => ?_⟩
 obtain ⟨b, m, c, hc, hb⟩ := h2 i hi
 exact ⟨b, m, c, hA.cell _ _ _ (hS g h1) hc, hb⟩
theorem ts_agreeS {S T : Nat → Prop} {W w : World} {a : Option Addr} {n c : Nat} {ts : List (List Int)} (h : IsTs W a n c ts) (hl : LTs S W a n) (hS : ∀ b, S b → T b) (hA : Agree T W w) : IsTs w a n c ts := by
 obtain ⟨h1, h2, h3, h4, h5⟩ := h
 refine ⟨h1, h2, h3, h4, fun x hx i hlt => ?_⟩
 obtain ⟨g, e, l1, u3⟩ := hl x hx
 obtain ⟨b, m, q, hc, hI⟩ := h5 x hx i hlt
 subst e
 rw [addr_add', Nat.zero_add] at hc
 obtain ⟨b', m', q', hc', hb'⟩ := u3 i hlt
 rw [hc] at hc'
 cases hc'
 refine ⟨b, m, q, by rw [addr_add', Nat.zero_add]; exact hA.cell _ _ _ (hS g l1) hc, ?_⟩
 obtain ⟨i1, i2, i3, i4, i5, i6⟩ := hI
 refine ⟨i1, i2, i3, i4, i5, fun z hz j hj => ?_⟩
 have := i6 z hz j hj
 obtain ⟨h', o, e', w1⟩ := hb' z hz
 subst e'
 rw [addr_add'] at this ⊢
 exact hA.cell _ _ _ (hS h' w1) this
theorem OwnVs.agree {S : Nat → Prop} {W w : World} {g : Nat} {X : List C3} (h : OwnVs W g X) (hS : S g) (hA : Agree S W w) : OwnVs w g X := by
 refine ⟨⟨h.1.1, fun i hi => ?_⟩, fun i => by rw [hA.frozen _ _ hS h.2.2]; exact h.2.1 i, Nat.lt_of_lt_of_le h.2.2 hA.size⟩
 obtain ⟨p, q, r, ⟨k0, k1, k2⟩, f⟩ := h.1.2 i hi
 exact ⟨p, q, r, ⟨hA.cell _ _ _ hS k0, hA.cell _ _ _ hS k1, hA.cell _ _ _ hS k2⟩, f⟩
theorem own_blk {w : World} {base n : Nat} {v : Value} {xs : List Value} {cs : List C3} (h : w.ownsRow base 42 3 v n xs) (hp : PV n xs cs) (hn : cs.length = n) :
  (v = .slice none 0 0 ∧ n = 0) ∨ ∃ g cap, v = .slice (some ⟨g, 0, none⟩) n cap ∧ base ≤ g ∧ n ≤ cap ∧ cap ≤ maxLen ∧ OwnVs w g cs := by
 have h' := h
 obtain ⟨h1, h2⟩ := h
 rcases h2 with ⟨rfl, hz⟩ | ⟨g, cap, cur, rfl, hb, hh, hc1, hc2, hs, ht⟩
 ·exact .inl ⟨rfl, hz⟩
 ·refine .inr ⟨g, cap, rfl, hb, hc1, hc2, ⟨by omega, fun i hi => ?_⟩, fun j => h'.frozenAt j, (h'.lt g rfl).2⟩
  obtain ⟨p, q, r, e0, e1, e2, f⟩ := hp i (by omega)
  exact ⟨p, q, r, ⟨by rw [h'.cellAt _ (by omega)]; exact e0, by rw [h'.cellAt _ (by omega)]; exact e1, by rw [h'.cellAt _ (by omega)]; exact e2⟩, f⟩
theorem lts_of_owns {w : World} {base n k cap c : Nat} {g : Nat} {a : Option Addr} {ts : List (List Int)} {xs : List Value} (h : OwnT base w (.slice a n c) n ts) (hq : w.ownsRow base 42 3 (.slice (some ⟨g, 0, none⟩) k cap) k xs) : LTs (fun b => b ≠ g ∧ base ≤ b ∧ b < w.heap.size) w a n := fun x hx => by
 obtain ⟨rows, h1, h2⟩ := h
 obtain ⟨R, e, u1, u2⟩ := lv_of_owns h1 x hx
 have hne : R ≠ g := fun e' => owns_apart hq h1 (by decide) _ _ rfl hx (by subst e; exact e'.symm)
 subst hx
 subst e
 refine ⟨R, rfl, ⟨hne, u1, u2⟩, fun i hlt => ?_⟩
 obtain ⟨u, e1, e2⟩ := h2 i hlt
 obtain ⟨b, c', rfl⟩ := owns_slice e2
 refine ⟨b, _, c', by rw [h1.cellAt i (by omega)]; exact e1, fun y hy => ?_⟩
 obtain ⟨q, e, v1, v2⟩ := lv_of_owns e2 y hy
 refine ⟨q, 0, e, fun e' => owns_apart hq e2 (by decide) _ _ rfl hy (by subst e; exact e'.symm), v1, v2⟩
def PX (w : World) (n : Nat) (B : Bd) (cs : List C3) : Prop := n = 0 ∨ ∃ g, B.pa = some ⟨g, 0, none⟩ ∧ OwnVs w g cs ∧ LTs (fun b => b ≠ g) w B.ta B.tl ∧ (∀ x, B.sa = some x → ∃ b, x = ⟨b, 0, none⟩ ∧ b ≠ g) ∧ (∀ x, B.wa = some x → ∃ b, x = ⟨b, 0, none⟩ ∧ b ≠ g)
set_option maxHeartbeats 4000000 in
theorem l03OwnP (pb : Nat) (B : Bd) (c : Bc) (w : World) (A : At w pb B.l) (h : IsB w B c) (hpl : B.pl ≤ 1000) (htl : B.tl ≤ 1000) (h3 : ∀ k, k < B.tl → (c.ts.getD k []).length ≤ 1000) (hsl : B.sl ≤ 1000) (hwl : B.wl ≤ 1000) :
  Calls Tryz.prog 112 #[.pointer (some ⟨pb, 0, none⟩)] w fun e w' => ∃ B' : Bd, e = .returned B'.v ∧ IsB w' B' c ∧ LB w.heap.size w'.heap.size w' B' ∧ PX w' B.pl B' c.cs ∧ B'.pl = B.pl ∧ Below w.heap.size w w' := by
 have ui := Tryz.underlying44
 have uim := Tryz.underlying40
 obtain ⟨i0, hi, hz0, hz1, hz2⟩ := info_parts infoSp
 obtain ⟨j0, hj, hy0, hy1, hy2⟩ := info_parts info32
 have T0 : Hid (Tc w (w.heap.size + 1) w.heap.size B.l Z9' ((w.alloc (.cells #[.slice none 0 0, .slice none 0 0, .slice none 0 0, .float .f32 0, .float .f32 0, .slice none 0 0, .float .f32 0, .float .f32 0, .float .f32 0] 44)).alloc (BoxB B 44))) := Lib.hid
  ⟨by
   have := At.new (w := w.alloc (.cells #[.slice none 0 0, .slice none 0 0, .slice none 0 0, .float .f32 0, .float .f32 0, .slice none 0 0, .float .f32 0, .float .f32 0, .float .f32 0] 44)) (vs := B.l) (t := 44)
   simpa using this, At.new.alloc, fun i => by go_simp, fun i => by go_simp, ((Below.refl _ _).alloc (Nat.le_refl _) _).alloc (by simp) _, ⟨by omega, Nat.le_refl _, by omega⟩, by simp <;> omega⟩
 have H := Lib.hid h
 have HA := Lib.hid A
 have H3 := Lib.hid h3
 have hpl' := h.1.1
 have htl' := h.2.1.1
 have hsl' := h.2.2.1.1
 have hwl' := h.2.2.2.1.1
 have k0 := A 0 _ rfl
 have k1 := A 1 _ rfl
 have k2 := A 2 _ rfl
 have k3 := A 3 _ rfl
 have k4 := A 4 _ rfl
 have k5 := A 5 _ rfl
 have k6 := A 6 _ rfl
 have k7 := A 7 _ rfl
 have k8 := A 8 _ rfl
 have l0 := fun ob => cell_alloc (o := ob) k0
 have l1 := fun ob => cell_alloc (o := ob) k1
 have l2 := fun ob => cell_alloc (o := ob) k2
 have l3 := fun ob => cell_alloc (o := ob) k3
 have l4 := fun ob => cell_alloc (o := ob) k4
 have l5 := fun ob => cell_alloc (o := ob) k5
 have l6 := fun ob => cell_alloc (o := ob) k6
 have l7 := fun ob => cell_alloc (o := ob) k7
 have l8 := fun ob => cell_alloc (o := ob) k8
 clear h h3 A
 go_enter Tryz.func112, Tryz.ntmps112
 go_wp2_with fail
 clear l0 l1 l2 l3 l4 l5 l6 l7 l8 k0 k1 k2 k3 k4 k5 k6 k7 k8
 change Calls _ _ _ ((w.alloc (.cells #[.slice none 0 0, .slice none 0 0, .slice none 0 0, .float .f32 0, .float .f32 0, .slice none 0 0, .float .f32 0, .float .f32 0, .float .f32 0] 44)).alloc (BoxB B 44)) _
 generalize ((w.alloc (.cells #[.slice none 0 0, .slice none 0 0, .slice none 0 0, .float .f32 0, .float .f32 0, .slice none 0 0, .float .f32 0, .float .f32 0, .float .f32 0] 44)).alloc (BoxB B 44)) = W at *
 have A0 := Lib.hid (HA.out.below T0.out.bel)
 refine (l02Own pb B.pa B.ta B.pl B.pc B.tl B.tc c.cs c.ts W (A0.out 0 _ rfl) (A0.out 1 _ rfl) (H.out.1.below T0.out.bel) (H.out.2.1.below T0.out.bel) hpl htl H3.out).mono ?_
 rintro e w1 ⟨⟨va, vt, xs, rfl, hva, hpv, hvt⟩, hB1⟩
 obtain ⟨qa, qc, rfl⟩ := owns_slice hva
 obtain ⟨ra, rc, rfl⟩ := OwnT.slice hvt
 obtain ⟨ra', rc', e, hI⟩ := OwnT.is hvt htl' (ts_wf H.out.2.1)
 cases e
 have P1 : Hid (B.pl = 0 ∨ ∃ g, qa = some ⟨g, 0, none⟩ ∧ OwnVs w1 g c.cs ∧ (W.heap.size ≤ g ∧ g < w1.heap.size) ∧ LTs (fun b => b ≠ g ∧ W.heap.size ≤ b ∧ b < w1.heap.size) w1 ra B.tl) := Lib.hid (by
  rcases own_blk hva hpv hpl' with ⟨_, hz⟩ | ⟨g, cap, e, hb, _, _, hO⟩
  ·exact .inl hz
  ·cases e
   exact .inr ⟨g, rfl, hO, ⟨hb, hO.2.2⟩, lts_of_owns hvt hva⟩)
 have hlt := T0.out.lt
 have M1 := Lib.hid (And.intro (vs_owned hva hpl' hpv) (And.intro hI (And.intro (lv_of_owns hva) (lt_of_owns hvt))))
 have T1 := Lib.hid (T0.out.call hB1)
 have N1 := Lib.hid hlt
 clear hva hpv hvt hI hB1 hlt
 have e0 := T1.out.out 0 _ rfl
 have e1 := T1.out.out 1 _ rfl
 have g0 := T1.out.fo 0
 have g1 := T1.out.fo 1
 have T2 := Lib.hid (T1.out.put 0 (vs := [.slice qa B.pl qc, .slice ra B.tl rc]) (Nat.le_of_ble_eq_true rfl))
 have A1 := Lib.hid (Agree.setL (Sy.out (bo := w.heap.size + 1) (br := w.heap.size)) [.slice qa B.pl qc, .slice ra B.tl rc] w1 0 (Agree.refl (Sy (w.heap.size + 1) w.heap.size) w1))
 have X2 := Lib.hid (HA.out.below T2.out.bel)
 obtain ⟨W2, hW2⟩ : ∃ W2, W2 = setL w1 (w.heap.size + 1) 0 [.slice qa B.pl qc, .slice ra B.tl rc] := ⟨_, rfl⟩
 have HW2 := Lib.hid hW2
 rw [← hW2] at T2 A1 X2
 simp only [setL, Nat.zero_add, Nat.reduceAdd] at hW2
 obtain ⟨ys, y1, y2, y3, y4⟩ := ss_cells (H.out.2.2.1.below T2.out.bel)
 have Y2 := Lib.hid y2
 have Y3 := Lib.hid y3
 have Y4 := Lib.hid y4
 have Y1 := Lib.hid y1
 have hnone := H.out.2.2.1.2.2.2.2.1
 have HN := Lib.hid hnone
 clear y1 y2 y3 y4 hnone
 have x2 := X2.out 2 _ rfl
 rw [hW2] at x2
 have x2' := fun ob => cell_alloc (o := ob) x2
 have hszW2 : W2.heap.size = w1.heap.size := by rw [HW2.out, setL_size]
 have HST : Hid ((W2.alloc (.cells #[] 166)).ownsRow w1.heap.size 166 4 (.slice (some ⟨w1.heap.size, 0, none⟩) 0 0) 0 []) := Lib.hid (by
  have := World.ownsRow_lit (base := W2.heap.size) (e := 166) (size := 4) W2 #[] 0 (Nat.le_refl _) (by decide) rfl
  rw [hszW2] at this; exact this)
 go_wp2_with (at_builtin; go_loud (simp only [← hW2]; refine wpList_append_opt _ rfl _ _ 41 rfl w1.heap.size 166 i0 (.agg #[.int .i64 0, .int .i64 0, .float .f32 0, .float .f32 0]) 4 24 Tryz.underlying41 hi hz0 hz1 hz2 rfl (by decide) _ 0 [] rfl HST.out B.sa B.sl B.sc ys rfl HN.out Y1.out ?c2 ?c3 ?c4 ?c5 ?c6 ?_))
 case c2 =>
  intro ad had j u hu
  have := Y2.out ad had j u hu
  rw [World.cell?_alloc_lt (h := World.block_lt_of_cell? _ _ this)]
  exact this
 case c3 => exact Y3.out
 case c4 => unfold maxLen; omega
 case c5 => omega
 case c6 => simp [hszW2]
 intro v w3 hown hgrow
 rw [← hW2] at hgrow
 have hown' : w3.ownsRow W2.heap.size 166 4 v B.sl ys := by rw [hszW2]; simpa using hown
 have hB3 : Below W2.heap.size W2 w3 := ((Below.refl _ _).alloc (Nat.le_refl _) _).grown hgrow (by simp) (fun k hk => by simp [Value.ownBlock] at hk; omega)
 obtain ⟨sa, sc, rfl, hS, hSL⟩ := ss_of_owns hown' hsl' Y4.out H.out.2.2.1.2.2.2.1
 have T3 := Lib.hid (T2.out.call hB3)
 have A3 := Lib.hid (A1.out.trans (Agree.of_below hB3))
 have S3 := Lib.hid (And.intro hS hSL)
 have hz3 := hB3.size
 have X3 := Lib.hid (X2.out.below hB3)
 clear hown hgrow hown' hB3 hS hSL x2 x2' e0 e1 g0 g1 hW2
 have e2 := T3.out.out 2 _ rfl
 have g2 := T3.out.fo 2
 have T4 := Lib.hid (T3.out.put 2 (vs := [.slice sa B.sl sc]) (Nat.le_of_ble_eq_true rfl))
 have A4 := Lib.hid (Agree.setL (Sy.out (bo := w.heap.size + 1) (br := w.heap.size)) [.slice sa B.sl sc] w3 2 (Agree.refl (Sy (w.heap.size + 1) w.heap.size) w3))
 have X4 := Lib.hid (HA.out.below T4.out.bel)
 obtain ⟨W4, hW4⟩ : ∃ W4, W4 = setL w3 (w.heap.size + 1) 2 [.slice sa B.sl sc] := ⟨_, rfl⟩
 rw [← hW4] at T4 A4 X4
 have HW4 := Lib.hid hW4
 simp only [setL] at hW4
 obtain ⟨us, u1, u2, u3, u4⟩ := fs_cells (IsFs_below T4.out.bel H.out.2.2.2.1)
 have U2 := Lib.hid u2
 have U3 := Lib.hid u3
 have U4 := Lib.hid u4
 have U1 := Lib.hid u1
 have HN5 := Lib.hid H.out.2.2.2.1.2.2.2.2.1
 clear u1 u2 u3 u4
 have x5 := X4.out 5 _ rfl
 rw [hW4] at x5
 have x5' := fun ob => cell_alloc (o := ob) x5
 have hszW4 : W4.heap.size = w3.heap.size := by rw [HW4.out, setL_size]
 have HST4 : Hid ((W4.alloc (.cells #[] 27)).ownsRow w3.heap.size 27 1 (.slice (some ⟨w3.heap.size, 0, none⟩) 0 0) 0 []) := Lib.hid (by
  have := World.ownsRow_lit (base := W4.heap.size) (e := 27) (size := 1) W4 #[] 0 (Nat.le_refl _) (by decide) rfl
  rw [hszW4] at this; exact this)
 go_wp2_with (at_builtin; simp only [← hW4]; refine wpList_append_opt _ rfl _ _ 28 rfl w3.heap.size 27 j0 (.float .f32 0) 1 4 Tryz.underlying28 hj hy0 hy1 hy2 rfl (by decide) _ 0 [] rfl HST4.out B.wa B.wl B.wc us rfl HN5.out U1.out ?c2 ?c3 ?c4 ?c5 ?c6 ?_)
 case c2 =>
  intro ad had j u hu
  have := U2.out ad had j u hu
  rw [World.cell?_alloc_lt (h := World.block_lt_of_cell? _ _ this)]
  exact this
 case c3 => exact U3.out
 case c4 => unfold maxLen; omega
 case c5 => omega
 case c6 => simp [hszW4]
 intro v w5 hown hgrow
 rw [← hW4] at hgrow
 have hown' : w5.ownsRow W4.heap.size 27 1 v B.wl us := by rw [hszW4]; simpa using hown
 have hB5 : Below W4.heap.size W4 w5 := ((Below.refl _ _).alloc (Nat.le_refl _) _).grown hgrow (by simp) (fun k hk => by simp [Value.ownBlock] at hk; omega)
 obtain ⟨wa, wc, rfl, hZ, hZL⟩ := fs_of_owns hown' hwl' U4.out H.out.2.2.2.1.2.2.2.1
 have T5 := Lib.hid (T4.out.call hB5)
 have A5 := Lib.hid (A4.out.trans (Agree.of_below hB5))
 have F5 := Lib.hid (And.intro hZ hZL)
 have hz5 := hB5.size
 clear hown hgrow hown' hB5 hZ hZL x5 x5' e2 g2 hW4
 have e0 := T5.out.out 0 _ rfl
 have e1 := T5.out.out 1 _ rfl
 have e2 := T5.out.out 2 _ rfl
 have e3 := T5.out.out 3 _ rfl
 have e4 := T5.out.out 4 _ rfl
 have e5 := T5.out.out 5 _ rfl
 have e6 := T5.out.out 6 _ rfl
 have e7 := T5.out.out 7 _ rfl
 have e8 := T5.out.out 8 _ rfl
 have g5 := T5.out.fo 5
 have q0 := T5.out.res 0 _ rfl
 have p0 := T5.out.fr 0
 have q1 := T5.out.res 1 _ rfl
 have p1 := T5.out.fr 1
 have q2 := T5.out.res 2 _ rfl
 have p2 := T5.out.fr 2
 have q3 := T5.out.res 3 _ rfl
 have p3 := T5.out.fr 3
 have q4 := T5.out.res 4 _ rfl
 have p4 := T5.out.fr 4
 have q5 := T5.out.res 5 _ rfl
 have p5 := T5.out.fr 5
 have q6 := T5.out.res 6 _ rfl
 have p6 := T5.out.fr 6
 have q7 := T5.out.res 7 _ rfl
 have p7 := T5.out.fr 7
 have q8 := T5.out.res 8 _ rfl
 have p8 := T5.out.fr 8
 have T6 := Lib.hid (T5.out.put 5 (vs := [.slice wa B.wl wc]) (Nat.le_of_ble_eq_true rfl))
 have A6 := Lib.hid (Agree.setL (Sy.out (bo := w.heap.size + 1) (br := w.heap.size)) [.slice wa B.wl wc] w5 5 (Agree.refl (Sy (w.heap.size + 1) w.heap.size) w5))
 obtain ⟨hR, hBB⟩ := T6.out.fin (vs' := [.slice qa B.pl qc, .slice ra B.tl rc, .slice sa B.sl sc, .float .f32 B.film, .float .f32 B.bend, .slice wa B.wl wc, .float .f32 B.x, .float .f32 B.y, .float .f32 B.z]) rfl
 have A7 := Agree.setL (Sy.res (bo := w.heap.size + 1) (br := w.heap.size)) [.slice qa B.pl qc, .slice ra B.tl rc, .slice sa B.sl sc, .float .f32 B.film, .float .f32 B.bend, .slice wa B.wl wc, .float .f32 B.x, .float .f32 B.y, .float .f32 B.z] _ 0 A6.out
 simp only [setL, Nat.zero_add, Nat.reduceAdd] at hR hBB A7
 have HR := Lib.hid hR
 have HBB := Lib.hid hBB
 have HA7 := Lib.hid A7
 clear hR hBB A7
 go_wp2
 clear e0 e1 e2 e3 e4 e5 e6 e7 e8 g5 q0 q1 q2 q3 q4 q5 q6 q7 q8 p0 p1 p2 p3 p4 p5 p6 p7 p8
 have m0 := HR.out 0 _ rfl
 have m1 := HR.out 1 _ rfl
 have m2 := HR.out 2 _ rfl
 have m3 := HR.out 3 _ rfl
 have m4 := HR.out 4 _ rfl
 have m5 := HR.out 5 _ rfl
 have m6 := HR.out 6 _ rfl
 have m7 := HR.out 7 _ rfl
 have m8 := HR.out 8 _ rfl
 have G3 := HA7.out
 have G2 := A5.out.trans G3
 have G1 := A3.out.trans G2
 refine bodyPost_ret (v := (⟨qa, ra, sa, wa, B.pl, qc, B.tl, rc, B.sl, sc, B.wl, wc, B.film, B.bend, B.x, B.y, B.z⟩ : Bd).v) (by simp [results, Tryz.results112, go_sem, m0, m1, m2, m3, m4, m5, m6, m7, m8]) rfl ?_
 have z1 := A1.out.size
 have z4 := A4.out.size
 have n1 := N1.out
 have t1 := T1.out.lt
 have t3 := T3.out.lt
 have t2 := T2.out.lt
 have t4 := T4.out.lt
 have s1 : ∀ q, W.heap.size ≤ q → q < w1.heap.size → Sy (w.heap.size + 1) w.heap.size q := Sy.new (by omega) (by omega)
 have s2 : ∀ q, W2.heap.size ≤ q → q < w3.heap.size → Sy (w.heap.size + 1) w.heap.size q := Sy.new (by omega) (by omega)
 have s3 : ∀ q, W4.heap.size ≤ q → q < w5.heap.size → Sy (w.heap.size + 1) w.heap.size q := Sy.new (by omega) (by omega)
 have y1 := G1.size
 have y2 := G2.size
 have y3 := G3.size
 refine ⟨_, rfl, ⟨vs_agree M1.out.1 M1.out.2.2.1 s1 G1, ts_agree M1.out.2.1 M1.out.2.2.2 s1 G1, ss_agree S3.out.1 (lst_lv S3.out.2) s2 G2, fs_agree F5.out.1 (lst_lv F5.out.2) s3 G3, H.out.2.2.2.2⟩, ?_, ?_, rfl, HBB.out⟩
 ·exact ⟨M1.out.2.2.1.wide (by omega) (by omega), (lt_agree M1.out.2.2.2 s1 G1).wide (by omega) (by omega), (lst_lv S3.out.2).wide (by omega) (by omega), (lst_lv F5.out.2).wide (by omega) (by omega)⟩
 ·refine P1.out.imp id ?_
  rintro ⟨g, e, hO, hg, hT⟩
  refine ⟨g, e, hO.agree (s1 g hg.1 hg.2) G1, (hT.agree (fun b hb => s1 b hb.2.1 hb.2.2) G1).less (fun b hb => hb.1), fun x hx => ?_, fun x hx => ?_⟩
  ·obtain ⟨b, e, k1, k2⟩ := lst_lv S3.out.2 x hx
   exact ⟨b, e, by omega⟩
  ·obtain ⟨b, e, k1, k2⟩ := lst_lv F5.out.2 x hx
   exact ⟨b, e, by omega⟩
end Go.Proofs.YtabccmobmppdnaaGreat
namespace Go.Proofs.YtabccmobmppdnaaGreat
open Go Fk Go.RowKit
set_option linter.unusedVariables false
set_option maxRecDepth 8000
def mkW (xs ys : List C3) (d : Option Nat) (n k : Nat) : List C3 := (List.range n).map fun j => if j < k then movC (xs.getD j c0) (ys.getD j c0) d else xs.getD j c0
theorem mkW_len (xs ys : List C3) (d : Option Nat) (n k : Nat) : (mkW xs ys d n k).length = n := by simp [mkW]
theorem mkW_zero {xs ys : List C3} {d : Option Nat} {n : Nat} (h : xs.length = n) : mkW xs ys d n 0 = xs := by
 subst h
 apply List.ext_getElem (by simp [mkW])
 intro i h1 h2
 simp [mkW, List.getD, h2]
theorem mkW_full (xs ys : List C3) (d : Option Nat) (n : Nat) : mkW xs ys d n n = mkM xs ys d n n := by
 apply List.ext_getElem (by simp [mkW, mkM])
 intro i h1 h2
 have hi : i < n := by simpa [mkW] using h1
 simp [mkW, mkM, hi]
theorem mkW_set {xs ys : List C3} {d : Option Nat} {n k : Nat} (hk : k < n) : (mkW xs ys d n k).set k (movC (xs.getD k c0) (ys.getD k c0) d) = mkW xs ys d n (k + 1) := by
 apply List.ext_getElem (by simp [mkW])
 intro i h1 h2
 simp only [mkW, List.getElem_set, List.getElem_map, List.getElem_range]
 by_cases hik : k = i
 ·subst hik; simp
 ·rw [if_neg hik]
  by_cases h : i < k
  ·rw [if_pos h, if_pos (by omega)]
  ·rw [if_neg h, if_neg (by omega)]
theorem LTs.and {S T : Nat → Prop} {w : World} {a : Option Addr} {n : Nat} (h : LTs S w a n) (k : LTs T w a n) : LTs (fun b => S b ∧ T b) w a n := fun x hx => by
 obtain ⟨g, e, h1, h2⟩ := h x hx
 obtain ⟨g', e', k1, k2⟩ := k x hx
 subst e
 cases e'
 refine ⟨g, rfl, ⟨h1, k1⟩, fun i hi => ?_⟩
 obtain ⟨b, m, c, hc, hb⟩ := h2 i hi
 obtain ⟨b', m', c', hc', hb'⟩ := k2 i hi
 rw [hc] at hc'
 cases hc'
 refine ⟨b, m, c, hc, fun y hy => ?_⟩
 obtain ⟨q, o, e, z⟩ := hb y hy
 obtain ⟨q', o', e', z'⟩ := hb' y hy
 subst e
 cases e'
 exact ⟨q, o, rfl, z, z'⟩
theorem lts_of_lt {lo hi : Nat} {w : World} {a : Option Addr} {n : Nat} (h : LT lo hi w a n) : LTs (fun b => lo ≤ b ∧ b < hi) w a n := fun x hx => by
 obtain ⟨g, e, h1, h2, h3⟩ := h x hx
 refine ⟨g, e, ⟨h1, h2⟩, fun i hi => ?_⟩
 obtain ⟨b, m, c, hc, hb⟩ := h3 i hi
 refine ⟨b, m, c, hc, fun y hy => ?_⟩
 obtain ⟨q, o, e, z1, z2⟩ := hb y hy
 exact ⟨q, o, e, z1, z2⟩
theorem lt_of_lts {lo hi : Nat} {w : World} {a : Option Addr} {n : Nat} (h : LTs (fun b => lo ≤ b ∧ b < hi) w a n) : LT lo hi w a n := fun x hx => by
 obtain ⟨g, e, ⟨h1, h2⟩, h3⟩ := h x hx
 refine ⟨g, e, h1, h2, fun i hi => ?_⟩
 obtain ⟨b, m, c, hc, hb⟩ := h3 i hi
 refine ⟨b, m, c, hc, fun y hy => ?_⟩
 obtain ⟨q, o, e, z1, z2⟩ := hb y hy
 exact ⟨q, o, e, z1, z2⟩
def PZ (S : Nat → Prop) (w : World) (g : Nat) (B : Bd) (cs : List C3) : Prop := (B.pl = 0 ∨ (B.pa = some ⟨g, 0, none⟩ ∧ OwnVs w g cs)) ∧ LTs S w B.ta B.tl ∧ (∀ x, B.sa = some x → ∃ b, x = ⟨b, 0, none⟩ ∧ S b) ∧ (∀ x, B.wa = some x → ∃ b, x = ⟨b, 0, none⟩ ∧ S b)
theorem pz_of {lo hi : Nat} {w : World} {B : Bd} {cs : List C3} (hL : LB lo hi w B) (hX : PX w B.pl B cs) (hlo : lo ≤ hi) : ∃ g, lo ≤ g ∧ g ≠ hi ∧ PZ (fun b => b ≠ g ∧ lo ≤ b ∧ b < hi) w g B cs := by
 obtain ⟨l1, l2, l3, l4⟩ := hL
 have key : ∀ g, (∀ x, B.sa = some x → ∃ b, x = ⟨b, 0, none⟩ ∧ b ≠ g) → (∀ x, B.wa = some x → ∃ b, x = ⟨b, 0, none⟩ ∧ b ≠ g) → LTs (fun b => b ≠ g) w B.ta B.tl → LTs (fun b => b ≠ g ∧ lo ≤ b ∧ b < hi) w B.ta B.tl ∧ (∀ x, B.sa = some x → ∃ b, x = ⟨b, 0, none⟩ ∧ b ≠ g ∧ lo ≤ b ∧ b < hi) ∧ (∀ x, B.wa = some x → ∃ b, x = ⟨b, 0, none⟩ ∧ b ≠ g ∧ lo ≤ b ∧ b < hi) := fun g k1 k2 k3 =>
  ⟨k3.and (lts_of_lt l2), fun x hx => by
   obtain ⟨b, e, h1, h2⟩ := l3 x hx
   obtain ⟨b', e', h3⟩ := k1 x hx
   subst e; cases e'
   exact ⟨b, rfl, h3, h1, h2⟩, fun x hx => by
   obtain ⟨b, e, h1, h2⟩ := l4 x hx
   obtain ⟨b', e', h3⟩ := k2 x hx
   subst e; cases e'
   exact ⟨b, rfl, h3, h1, h2⟩⟩
 rcases hX with h0 | ⟨g, e, hO, k3, k1, k2⟩
 ·refine ⟨hi + 1, by omega, by omega, .inl h0, key (hi + 1) (fun x hx => ?_) (fun x hx => ?_) ((lts_of_lt l2).less (fun b hb => by omega))⟩
  ·obtain ⟨b, e, h1, h2⟩ := l3 x hx
   exact ⟨b, e, by omega⟩
  ·obtain ⟨b, e, h1, h2⟩ := l4 x hx
   exact ⟨b, e, by omega⟩
 ·obtain ⟨g', e', h1, h2⟩ := l1 _ e
  cases e'
  exact ⟨g, h1, by omega, .inr ⟨e, hO⟩, key g k1 k2 k3⟩
theorem lv_S {S : Nat → Prop} {a : Option Addr} (h : ∀ x, a = some x → ∃ b, x = ⟨b, 0, none⟩ ∧ S b) : ∃ lo hi, LV lo hi a ∧ ∀ b, lo ≤ b → b < hi → S b := by
 cases a with
 | none => exact ⟨0, 0, fun x hx => (by cases hx), fun b _ hb => absurd hb (Nat.not_lt_zero b)⟩
 | some x =>
  obtain ⟨b, e, hb⟩ := h x rfl
  exact ⟨b, b + 1, fun y hy => ⟨b, (by cases hy; exact e), Nat.le_refl _, Nat.lt_succ_self _⟩, fun q h1 h2 => by
   have : q = b := by omega
   subst this; exact hb⟩
theorem pz_fin {lo hi : Nat} {W w : World} {g : Nat} {B : Bd} {c : Bc} {cs' : List C3} (h : IsB W B c) (hL : LB lo hi W B) (hZ : PZ (fun b => b ≠ g ∧ lo ≤ b ∧ b < hi) W g B c.cs) (hA : Agree (fun b => b ≠ g ∧ lo ≤ b ∧ b < hi) W w) (hO : B.pl = 0 ∨ OwnVs w g cs') (hl : cs'.length = B.pl) :
  IsB w B ⟨cs', c.ts, c.ss, c.zs, c.film, c.bend, c.fall⟩ ∧ LB lo hi w B := by
 obtain ⟨z1, z2, z3, z4⟩ := hZ
 obtain ⟨la, ha, s1, s2⟩ := lv_S z3
 obtain ⟨lb, hb, w1, w2⟩ := lv_S z4
 refine ⟨⟨?_, ts_agreeS h.2.1 z2 (fun _ hb => hb) hA, ss_agree h.2.2.1 s1 s2 hA, fs_agree h.2.2.2.1 w1 w2 hA, h.2.2.2.2⟩, hL.1, lt_of_lts ((z2.agree (fun _ hb => hb) hA).less (fun b hb => hb.2)), hL.2.2⟩
 refine ⟨hl, h.1.2.1, h.1.2.2.1, h.1.2.2.2.1, fun x hx i hi => ?_⟩
 rcases z1 with z1 | ⟨z1, _⟩
 ·rw [z1] at hi; exact absurd hi (Nat.not_lt_zero i)
 rcases hO with hO | hO
 ·rw [hO] at hi; exact absurd hi (Nat.not_lt_zero i)
 ·exact hO.is.2.2.2.2 x (by rw [← hx, z1]) i (by rw [hl]; exact hi)
theorem Tc.put3 {w w1 : World} {bo br g k y z v : Nat} {lo lr : List Value} (h : Tc w bo br lo lr w1) (hg : w.heap.size ≤ g) (h1 : g ≠ bo) (h2 : g ≠ br) : Tc w bo br lo lr (put3 w1 g k y z v) := by
 unfold Go.Proofs.YtabccmobmppdnaaGreat.put3
 exact ⟨((h.out.far h1).far h1).far h1, ((h.res.far h2).far h2).far h2, fun i => by simpa using h.fo i, fun i => by simpa using h.fr i, below_set3 h.bel hg, h.ge, by simpa using h.lt⟩
theorem Agree.put3 {S : Nat → Prop} {W w : World} {g k y z v : Nat} (h : Agree S W w) (hg : ¬ S g) : Agree S W (put3 w g k y z v) := ((h.set hg).set hg).set hg
end Go.Proofs.YtabccmobmppdnaaGreat

/-
Texts in one: what StfS stands on, part 7. Conditions: those of each.
-/
import Derived.Test.YtabccmobmppdnaaGreatKStfS6
import Derived.Handy
-- halved
namespace Go.Proofs.YtabccmobmppdnaaGreat
open Go Fk Go.RowKit
set_option linter.unusedVariables false
set_option maxRecDepth 8000
end Go.Proofs.YtabccmobmppdnaaGreat
namespace Go.Proofs.YtabccmobmppdnaaGreat
open Go Fk Go.RowKit
set_option linter.unusedVariables false
set_option maxRecDepth 8000
end Go.Proofs.YtabccmobmppdnaaGreat
namespace Go.Proofs.YtabccmobmppdnaaGreat
open Go Fk Go.RowKit
set_option linter.unusedVariables false
set_option maxRecDepth 8000
end Go.Proofs.YtabccmobmppdnaaGreat
namespace Go.Proofs.YtabccmobmppdnaaGreat
open Go Fk Go.RowKit
set_option linter.unusedVariables false
set_option maxRecDepth 8000
theorem laws_markMeshB (lo hi b o b' o' pl pc tl tc : Nat) (ts : List (List Int)) (k0 : Nat) (w : World) (h : OwnM lo hi w b o b' o' pl tl ts) (hlo : lo ≤ w.heap.size) (h1 : pl ≤ 1048576) (h2 : tl ≤ 1048576) (hn : ∀ j, j < tl → (ts.getD j []).length ≤ 1048576) (hk : k0 ≤ 1000000) :
  Calls Tryz.prog 76 #[.agg #[.slice (some ⟨b, o, none⟩) pl pc, .slice (some ⟨b', o', none⟩) tl tc], .int .i64 k0] w fun e w' => ∃ z : Nat, z ≤ 2000000000000000000 ∧ e = .returned (.int .i64 z) ∧ Mark lo hi w w' := by
 have ui := Tryz.underlying40
 obtain ⟨hown, hrows, hne, hlt⟩ := h
 have hA : Mark lo hi w (w.alloc (.cells #[.slice (some ⟨b, o, none⟩) pl pc, .slice (some ⟨b', o', none⟩) tl tc] 40)) := Mark.alloc hlo _
 have a1 : (w.alloc (.cells #[.slice (some ⟨b, o, none⟩) pl pc, .slice (some ⟨b', o', none⟩) tl tc] 40)).cell? ⟨w.heap.size, 1, none⟩ = some (.slice (some ⟨b', o', none⟩) tl tc) := by go_simp
 have a0 : (w.alloc (.cells #[.slice (some ⟨b, o, none⟩) pl pc, .slice (some ⟨b', o', none⟩) tl tc] 40)).cell? ⟨w.heap.size, 0, none⟩ = some (.slice (some ⟨b, o, none⟩) pl pc) := by go_simp
 have nb : w.heap.size ≠ b := by have := hown.2.2.1; omega
 have hV := laws_markVectorS lo hi b o pl pc k0 _ (hown.mark hA) (by omega)
 have hs : ∀ i, (w.alloc (.cells #[.slice (some ⟨b, o, none⟩) pl pc, .slice (some ⟨b', o', none⟩) tl tc] 40)).cell? ⟨b', i, none⟩ = w.cell? ⟨b', i, none⟩ := fun i => by rw [World.cell?_alloc_lt (h := hlt)]
 have HV := Lib.hid hV
 have HA := Lib.hid hA
 have HR := Lib.hid (hrows.mark hs hA)
 have HNE := Lib.hid hne
 have HNB := Lib.hid nb
 have HN := Lib.hid hn
 clear hV hA hrows hne hs nb hown hlt hn
 generalize hCH : w.alloc (.cells #[.slice (some ⟨b, o, none⟩) pl pc, .slice (some ⟨b', o', none⟩) tl tc] 40) = W at *
 go_enter Tryz.func76, Tryz.ntmps76
 go_wp2_with fail
 refine HV.out.mono ?_
 rintro e w1 ⟨rfl, _, ho, hM1⟩
 have a1' : w1.cell? ⟨w.heap.size, 1, none⟩ = some (.slice (some ⟨b', o', none⟩) tl tc) := (ho _ _ (.inl HNB.out)).trans a1
 have HR1 := Lib.hid (HR.out.mark (fun i => ho b' i (.inl (fun h => HNE.out h.symm))) hM1)
 have HM1 := Lib.hid (HA.out.trans hM1)
 clear ho hM1 a0 a1 HV HR hCH
 generalize hq : k0 + pl * 3 = q at *
 have hq' : q ≤ 1000000000000000000 := by omega
 clear hq
 go_wp2_with (go_at_call 133; refine (laws_markInt64SS lo hi b' o' tl tc ts q w1 HR1.out h2 HN.out hq').mono ?_; rintro e w2 ⟨z, hz, rfl, _, hM2⟩; have HM2 := Lib.hid hM2; clear hM2)
 go_ret
 exact ⟨z, by omega, rfl, HM1.out.trans HM2.out⟩
end Go.Proofs.YtabccmobmppdnaaGreat
namespace Go.Proofs.YtabccmobmppdnaaGreat
open Go Fk Go.RowKit
set_option linter.unusedVariables false
set_option maxRecDepth 8000
theorem body_sizes {c : Bc} (hv : bodyB c = true) : c.cs.length ≤ 64 ∧ c.ts.length ≤ 128 ∧ c.ss.length ≤ 200 ∧ c.zs.length ≤ 64 ∧ ∀ k, k < c.ts.length → (c.ts.getD k []).length = 3 := by
 unfold bodyB at hv
 simp only [Bool.and_eq_true] at hv
 obtain ⟨⟨⟨hv1, hv2⟩, hv3⟩, hv4⟩ := hv
 obtain ⟨h1, h2⟩ := valid_pl hv1
 have k2 := of_decide_eq_true hv2
 have k3 := of_decide_eq_true hv3
 exact ⟨h1, h2, k2, by omega, rows3h hv1⟩
end Go.Proofs.YtabccmobmppdnaaGreat
namespace Go.Proofs.YtabccmobmppdnaaGreat
open Go Fk Go.RowKit
set_option linter.unusedVariables false
set_option maxRecDepth 8000
def mvC (c : Bc) (ys : List C3) (d : Option Nat) : Bc := ⟨mkM c.cs ys d c.cs.length c.cs.length, c.ts, c.ss, c.zs, c.film, c.bend, c.fall⟩
end Go.Proofs.YtabccmobmppdnaaGreat
namespace Go.Proofs.YtabccmobmppdnaaGreat
open Go Fk Go.RowKit
set_option linter.unusedVariables false
set_option maxRecDepth 8000
def LTs (S : Nat → Prop) (w : World) (a : Option Addr) (n : Nat) : Prop := ∀ x, a = some x → ∃ g, x = ⟨g, 0, none⟩ ∧ S g ∧ ∀ i, i < n → ∃ b m c, w.cell? ⟨g, i, none⟩ = some (.slice b m c) ∧ ∀ y, b = some y → ∃ h o, y = ⟨h, o, none⟩ ∧ S h
theorem LTs.less {S T : Nat → Prop} {w : World} {a : Option Addr} {n : Nat} (h : LTs S w a n) (hT : ∀ b, S b → T b) : LTs T w a n := fun x hx => by
 obtain ⟨g, e, h1, h2⟩ := h x hx
 refine ⟨g, e, hT g h1, fun i hi => ?_⟩
 obtain ⟨b, m, c, hc, hb⟩ := h2 i hi
 refine ⟨b, m, c, hc, fun y hy => ?_⟩
 obtain ⟨q, o, e, k⟩ := hb y hy
 exact ⟨q, o, e, hT q k⟩
theorem LTs.agree {S T : Nat → Prop} {W w : World} {a : Option Addr} {n : Nat} (h : LTs S W a n) (hS : ∀ b, S b → T b) (hA : Agree T W w) : LTs S w a n := fun x hx => by
 obtain ⟨g, e, h1, h2⟩ := h x hx
 refine ⟨g, e, h1, fun i hi => ?_⟩
 obtain ⟨b, m, c, hc, hb⟩ := h2 i hi
 exact ⟨b, m, c, hA.cell _ _ _ (hS g h1) hc, hb⟩
theorem ts_agreeS {S T : Nat → Prop} {W w : World} {a : Option Addr} {n c : Nat} {ts : List (List Int)} (h : IsTs W a n c ts) (hl : LTs S W a n) (hS : ∀ b, S b → T b) (hA : Agree T W w) : IsTs w a n c ts := by
 obtain ⟨h1, h2, h3, h4, h5⟩ := h
 refine ⟨h1, h2, h3, h4, fun x hx i hlt => ?_⟩
 obtain ⟨g, e, l1, u3⟩ := hl x hx
 obtain ⟨b, m, q, hc, hI⟩ := h5 x hx i hlt
 subst e
 rw [addr_add', Nat.zero_add] at hc
 obtain ⟨b', m', q', hc', hb'⟩ := u3 i hlt
 rw [hc] at hc'
 cases hc'
 refine ⟨b, m, q, by rw [addr_add', Nat.zero_add]; exact hA.cell _ _ _ (hS g l1) hc, ?_⟩
 obtain ⟨i1, i2, i3, i4, i5, i6⟩ := hI
 refine ⟨i1, i2, i3, i4, i5, fun z hz j hj => ?_⟩
 have := i6 z hz j hj
 obtain ⟨h', o, e', w1⟩ := hb' z hz
 subst e'
 rw [addr_add'] at this ⊢
 exact hA.cell _ _ _ (hS h' w1) this
theorem OwnVs.agree {S : Nat → Prop} {W w : World} {g : Nat} {X : List C3} (h : OwnVs W g X) (hS : S g) (hA : Agree S W w) : OwnVs w g X := by
 refine ⟨⟨h.1.1, fun i hi => ?_⟩, fun i => by rw [hA.frozen _ _ hS h.2.2]; exact h.2.1 i, Nat.lt_of_lt_of_le h.2.2 hA.size⟩
 obtain ⟨p, q, r, ⟨k0, k1, k2⟩, f⟩ := h.1.2 i hi
 exact ⟨p, q, r, ⟨hA.cell _ _ _ hS k0, hA.cell _ _ _ hS k1, hA.cell _ _ _ hS k2⟩, f⟩
theorem own_blk {w : World} {base n : Nat} {v : Value} {xs : List Value} {cs : List C3} (h : w.ownsRow base 42 3 v n xs) (hp : PV n xs cs) (hn : cs.length = n) :
  (v = .slice none 0 0 ∧ n = 0) ∨ ∃ g cap, v = .slice (some ⟨g, 0, none⟩) n cap ∧ base ≤ g ∧ n ≤ cap ∧ cap ≤ maxLen ∧ OwnVs w g cs := by
 have h' := h
 obtain ⟨h1, h2⟩ := h
 rcases h2 with ⟨rfl, hz⟩ | ⟨g, cap, cur, rfl, hb, hh, hc1, hc2, hs, ht⟩
 ·exact .inl ⟨rfl, hz⟩
 ·refine .inr ⟨g, cap, rfl, hb, hc1, hc2, ⟨by omega, fun i hi => ?_⟩, fun j => h'.frozenAt j, (h'.lt g rfl).2⟩
  obtain ⟨p, q, r, e0, e1, e2, f⟩ := hp i (by omega)
  exact ⟨p, q, r, ⟨by rw [h'.cellAt _ (by omega)]; exact e0, by rw [h'.cellAt _ (by omega)]; exact e1, by rw [h'.cellAt _ (by omega)]; exact e2⟩, f⟩
theorem lts_of_owns {w : World} {base n k cap c : Nat} {g : Nat} {a : Option Addr} {ts : List (List Int)} {xs : List Value} (h : OwnT base w (.slice a n c) n ts) (hq : w.ownsRow base 42 3 (.slice (some ⟨g, 0, none⟩) k cap) k xs) : LTs (fun b => b ≠ g ∧ base ≤ b ∧ b < w.heap.size) w a n := fun x hx => by
 obtain ⟨rows, h1, h2⟩ := h
 obtain ⟨R, e, u1, u2⟩ := lv_of_owns h1 x hx
 have hne : R ≠ g := fun e' => owns_apart hq h1 (by decide) _ _ rfl hx (by subst e; exact e'.symm)
 subst hx
 subst e
 refine ⟨R, rfl, ⟨hne, u1, u2⟩, fun i hlt => ?_⟩
 obtain ⟨u, e1, e2⟩ := h2 i hlt
 obtain ⟨b, c', rfl⟩ := owns_slice e2
 refine ⟨b, _, c', by rw [h1.cellAt i (by omega)]; exact e1, fun y hy => ?_⟩
 obtain ⟨q, e, v1, v2⟩ := lv_of_owns e2 y hy
 refine ⟨q, 0, e, fun e' => owns_apart hq e2 (by decide) _ _ rfl hy (by subst e; exact e'.symm), v1, v2⟩
def PX (w : World) (n : Nat) (B : Bd) (cs : List C3) : Prop := n = 0 ∨ ∃ g, B.pa = some ⟨g, 0, none⟩ ∧ OwnVs w g cs ∧ LTs (fun b => b ≠ g) w B.ta B.tl ∧ (∀ x, B.sa = some x → ∃ b, x = ⟨b, 0, none⟩ ∧ b ≠ g) ∧ (∀ x, B.wa = some x → ∃ b, x = ⟨b, 0, none⟩ ∧ b ≠ g)
set_option maxHeartbeats 4000000 in
theorem l03OwnP (pb : Nat) (B : Bd) (c : Bc) (w : World) (A : At w pb B.l) (h : IsB w B c) (hpl : B.pl ≤ 1000) (htl : B.tl ≤ 1000) (h3 : ∀ k, k < B.tl → (c.ts.getD k []).length ≤ 1000) (hsl : B.sl ≤ 1000) (hwl : B.wl ≤ 1000) :
  Calls Tryz.prog 112 #[.pointer (some ⟨pb, 0, none⟩)] w fun e w' => ∃ B' : Bd, e = .returned B'.v ∧ IsB w' B' c ∧ LB w.heap.size w'.heap.size w' B' ∧ PX w' B.pl B' c.cs ∧ B'.pl = B.pl ∧ Below w.heap.size w w' := by
 have ui := Tryz.underlying44
 have uim := Tryz.underlying40
 obtain ⟨i0, hi, hz0, hz1, hz2⟩ := info_parts infoSp
 obtain ⟨j0, hj, hy0, hy1, hy2⟩ := info_parts info32
 have T0 : Hid (Tc w (w.heap.size + 1) w.heap.size B.l Z9' ((w.alloc (.cells #[.slice none 0 0, .slice none 0 0, .slice none 0 0, .float .f32 0, .float .f32 0, .slice none 0 0, .float .f32 0, .float .f32 0, .float .f32 0] 44)).alloc (BoxB B 44))) := Lib.hid
  ⟨by
   have := At.new (w := w.alloc (.cells #[.slice none 0 0, .slice none 0 0, .slice none 0 0, .float .f32 0, .float .f32 0, .slice none 0 0, .float .f32 0, .float .f32 0, .float .f32 0] 44)) (vs := B.l) (t := 44)
   simpa using this, At.new.alloc, fun i => by go_simp, fun i => by go_simp, ((Below.refl _ _).alloc (Nat.le_refl _) _).alloc (by simp) _, ⟨by omega, Nat.le_refl _, by omega⟩, by simp <;> omega⟩
 have H := Lib.hid h
 have HA := Lib.hid A
 have H3 := Lib.hid h3
 have hpl' := h.1.1
 have htl' := h.2.1.1
 have hsl' := h.2.2.1.1
 have hwl' := h.2.2.2.1.1
 have k0 := A 0 _ rfl
 have k1 := A 1 _ rfl
 have k2 := A 2 _ rfl
 have k3 := A 3 _ rfl
 have k4 := A 4 _ rfl
 have k5 := A 5 _ rfl
 have k6 := A 6 _ rfl
 have k7 := A 7 _ rfl
 have k8 := A 8 _ rfl
 have l0 := fun ob => cell_alloc (o := ob) k0
 have l1 := fun ob => cell_alloc (o := ob) k1
 have l2 := fun ob => cell_alloc (o := ob) k2
 have l3 := fun ob => cell_alloc (o := ob) k3
 have l4 := fun ob => cell_alloc (o := ob) k4
 have l5 := fun ob => cell_alloc (o := ob) k5
 have l6 := fun ob => cell_alloc (o := ob) k6
 have l7 := fun ob => cell_alloc (o := ob) k7
 have l8 := fun ob => cell_alloc (o := ob) k8
 clear h h3 A
 go_enter Tryz.func112, Tryz.ntmps112
 go_wp2_with fail
 clear l0 l1 l2 l3 l4 l5 l6 l7 l8 k0 k1 k2 k3 k4 k5 k6 k7 k8
 change Calls _ _ _ ((w.alloc (.cells #[.slice none 0 0, .slice none 0 0, .slice none 0 0, .float .f32 0, .float .f32 0, .slice none 0 0, .float .f32 0, .float .f32 0, .float .f32 0] 44)).alloc (BoxB B 44)) _
 generalize ((w.alloc (.cells #[.slice none 0 0, .slice none 0 0, .slice none 0 0, .float .f32 0, .float .f32 0, .slice none 0 0, .float .f32 0, .float .f32 0, .float .f32 0] 44)).alloc (BoxB B 44)) = W at *
 have A0 := Lib.hid (HA.out.below T0.out.bel)
 refine (l02Own pb B.pa B.ta B.pl B.pc B.tl B.tc c.cs c.ts W (A0.out 0 _ rfl) (A0.out 1 _ rfl) (H.out.1.below T0.out.bel) (H.out.2.1.below T0.out.bel) hpl htl H3.out).mono ?_
 rintro e w1 ⟨⟨va, vt, xs, rfl, hva, hpv, hvt⟩, hB1⟩
 obtain ⟨qa, qc, rfl⟩ := owns_slice hva
 obtain ⟨ra, rc, rfl⟩ := OwnT.slice hvt
 obtain ⟨ra', rc', e, hI⟩ := OwnT.is hvt htl' (ts_wf H.out.2.1)
 cases e
 have P1 : Hid (B.pl = 0 ∨ ∃ g, qa = some ⟨g, 0, none⟩ ∧ OwnVs w1 g c.cs ∧ (W.heap.size ≤ g ∧ g < w1.heap.size) ∧ LTs (fun b => b ≠ g ∧ W.heap.size ≤ b ∧ b < w1.heap.size) w1 ra B.tl) := Lib.hid (by
  rcases own_blk hva hpv hpl' with ⟨_, hz⟩ | ⟨g, cap, e, hb, _, _, hO⟩
  ·exact .inl hz
  ·cases e
   exact .inr ⟨g, rfl, hO, ⟨hb, hO.2.2⟩, lts_of_owns hvt hva⟩)
 have hlt := T0.out.lt
 have M1 := Lib.hid (And.intro (vs_owned hva hpl' hpv) (And.intro hI (And.intro (lv_of_owns hva) (lt_of_owns hvt))))
 have T1 := Lib.hid (T0.out.call hB1)
 have N1 := Lib.hid hlt
 clear hva hpv hvt hI hB1 hlt
 have e0 := T1.out.out 0 _ rfl
 have e1 := T1.out.out 1 _ rfl
 have g0 := T1.out.fo 0
 have g1 := T1.out.fo 1
 have T2 := Lib.hid (T1.out.put 0 (vs := [.slice qa B.pl qc, .slice ra B.tl rc]) (Nat.le_of_ble_eq_true rfl))
 have A1 := Lib.hid (Agree.setL (Sy.out (bo := w.heap.size + 1) (br := w.heap.size)) [.slice qa B.pl qc, .slice ra B.tl rc] w1 0 (Agree.refl (Sy (w.heap.size + 1) w.heap.size) w1))
 have X2 := Lib.hid (HA.out.below T2.out.bel)
 obtain ⟨W2, hW2⟩ : ∃ W2, W2 = setL w1 (w.heap.size + 1) 0 [.slice qa B.pl qc, .slice ra B.tl rc] := ⟨_, rfl⟩
 have HW2 := Lib.hid hW2
 rw [← hW2] at T2 A1 X2
 simp only [setL, Nat.zero_add, Nat.reduceAdd] at hW2
 obtain ⟨ys, y1, y2, y3, y4⟩ := ss_cells (H.out.2.2.1.below T2.out.bel)
 have Y2 := Lib.hid y2
 have Y3 := Lib.hid y3
 have Y4 := Lib.hid y4
 have Y1 := Lib.hid y1
 have hnone := H.out.2.2.1.2.2.2.2.1
 have HN := Lib.hid hnone
 clear y1 y2 y3 y4 hnone
 have x2 := X2.out 2 _ rfl
 rw [hW2] at x2
 have x2' := fun ob => cell_alloc (o := ob) x2
 have hszW2 : W2.heap.size = w1.heap.size := by rw [HW2.out, setL_size]
 have HST : Hid ((W2.alloc (.cells #[] 166)).ownsRow w1.heap.size 166 4 (.slice (some ⟨w1.heap.size, 0, none⟩) 0 0) 0 []) := Lib.hid (by
  have := World.ownsRow_lit (base := W2.heap.size) (e := 166) (size := 4) W2 #[] 0 (Nat.le_refl _) (by decide) rfl
  rw [hszW2] at this; exact this)
 go_wp2_with (at_builtin; go_loud (simp only [← hW2]; refine wpList_append_opt _ rfl _ _ 41 rfl w1.heap.size 166 i0 (.agg #[.int .i64 0, .int .i64 0, .float .f32 0, .float .f32 0]) 4 24 Tryz.underlying41 hi hz0 hz1 hz2 rfl (by decide) _ 0 [] rfl HST.out B.sa B.sl B.sc ys rfl HN.out Y1.out ?c2 ?c3 ?c4 ?c5 ?c6 ?_))
 case c2 =>
  intro ad had j u hu
  have := Y2.out ad had j u hu
  rw [World.cell?_alloc_lt (h := World.block_lt_of_cell? _ _ this)]
  exact this
 case c3 => exact Y3.out
 case c4 => unfold maxLen; omega
 case c5 => omega
 case c6 => simp [hszW2]
 intro v w3 hown hgrow
 rw [← hW2] at hgrow
 have hown' : w3.ownsRow W2.heap.size 166 4 v B.sl ys := by rw [hszW2]; simpa using hown
 have hB3 : Below W2.heap.size W2 w3 := ((Below.refl _ _).alloc (Nat.le_refl _) _).grown hgrow (by simp) (fun k hk => by simp [Value.ownBlock] at hk; omega)
 obtain ⟨sa, sc, rfl, hS, hSL⟩ := ss_of_owns hown' hsl' Y4.out H.out.2.2.1.2.2.2.1
 have T3 := Lib.hid (T2.out.call hB3)
 have A3 := Lib.hid (A1.out.trans (Agree.of_below hB3))
 have S3 := Lib.hid (And.intro hS hSL)
 have hz3 := hB3.size
 have X3 := Lib.hid (X2.out.below hB3)
 clear hown hgrow hown' hB3 hS hSL x2 x2' e0 e1 g0 g1 hW2
 have e2 := T3.out.out 2 _ rfl
 have g2 := T3.out.fo 2
 have T4 := Lib.hid (T3.out.put 2 (vs := [.slice sa B.sl sc]) (Nat.le_of_ble_eq_true rfl))
 have A4 := Lib.hid (Agree.setL (Sy.out (bo := w.heap.size + 1) (br := w.heap.size)) [.slice sa B.sl sc] w3 2 (Agree.refl (Sy (w.heap.size + 1) w.heap.size) w3))
 have X4 := Lib.hid (HA.out.below T4.out.bel)
 obtain ⟨W4, hW4⟩ : ∃ W4, W4 = setL w3 (w.heap.size + 1) 2 [.slice sa B.sl sc] := ⟨_, rfl⟩
 rw [← hW4] at T4 A4 X4
 have HW4 := Lib.hid hW4
 simp only [setL] at hW4
 obtain ⟨us, u1, u2, u3, u4⟩ := fs_cells (IsFs_below T4.out.bel H.out.2.2.2.1)
 have U2 := Lib.hid u2
 have U3 := Lib.hid u3
 have U4 := Lib.hid u4
 have U1 := Lib.hid u1
 have HN5 := Lib.hid H.out.2.2.2.1.2.2.2.2.1
 clear u1 u2 u3 u4
 have x5 := X4.out 5 _ rfl
 rw [hW4] at x5
 have x5' := fun ob => cell_alloc (o := ob) x5
 have hszW4 : W4.heap.size = w3.heap.size := by rw [HW4.out, setL_size]
 have HST4 : Hid ((W4.alloc (.cells #[] 27)).ownsRow w3.heap.size 27 1 (.slice (some ⟨w3.heap.size, 0, none⟩) 0 0) 0 []) := Lib.hid (by
  have := World.ownsRow_lit (base := W4.heap.size) (e := 27) (size := 1) W4 #[] 0 (Nat.le_refl _) (by decide) rfl
  rw [hszW4] at this; exact this)
 go_wp2_with (at_builtin; simp only [← hW4]; refine wpList_append_opt _ rfl _ _ 28 rfl w3.heap.size 27 j0 (.float .f32 0) 1 4 Tryz.underlying28 hj hy0 hy1 hy2 rfl (by decide) _ 0 [] rfl HST4.out B.wa B.wl B.wc us rfl HN5.out U1.out ?c2 ?c3 ?c4 ?c5 ?c6 ?_)
 case c2 =>
  intro ad had j u hu
  have := U2.out ad had j u hu
  rw [World.cell?_alloc_lt (h := World.block_lt_of_cell? _ _ this)]
  exact this
 case c3 => exact U3.out
 case c4 => unfold maxLen; omega
 case c5 => omega
 case c6 => simp [hszW4]
 intro v w5 hown hgrow
 rw [← hW4] at hgrow
 have hown' : w5.ownsRow W4.heap.size 27 1 v B.wl us := by rw [hszW4]; simpa using hown
 have hB5 : Below W4.heap.size W4 w5 := ((Below.refl _ _).alloc (Nat.le_refl _) _).grown hgrow (by simp) (fun k hk => by simp [Value.ownBlock] at hk; omega)
 obtain ⟨wa, wc, rfl, hZ, hZL⟩ := fs_of_owns hown' hwl' U4.out H.out.2.2.2.1.2.2.2.1
 have T5 := Lib.hid (T4.out.call hB5)
 have A5 := Lib.hid (A4.out.trans (Agree.of_below hB5))
 have F5 := Lib.hid (And.intro hZ hZL)
 have hz5 := hB5.size
 clear hown hgrow hown' hB5 hZ hZL x5 x5' e2 g2 hW4
 have e0 := T5.out.out 0 _ rfl
 have e1 := T5.out.out 1 _ rfl
 have e2 := T5.out.out 2 _ rfl
 have e3 := T5.out.out 3 _ rfl
 have e4 := T5.out.out 4 _ rfl
 have e5 := T5.out.out 5 _ rfl
 have e6 := T5.out.out 6 _ rfl
 have e7 := T5.out.out 7 _ rfl
 have e8 := T5.out.out 8 _ rfl
 have g5 := T5.out.fo 5
 have q0 := T5.out.res 0 _ rfl
 have p0 := T5.out.fr 0
 have q1 := T5.out.res 1 _ rfl
 have p1 := T5.out.fr 1
 have q2 := T5.out.res 2 _ rfl
 have p2 := T5.out.fr 2
 have q3 := T5.out.res 3 _ rfl
 have p3 := T5.out.fr 3
 have q4 := T5.out.res 4 _ rfl
 have p4 := T5.out.fr 4
 have q5 := T5.out.res 5 _ rfl
 have p5 := T5.out.fr 5
 have q6 := T5.out.res 6 _ rfl
 have p6 := T5.out.fr 6
 have q7 := T5.out.res 7 _ rfl
 have p7 := T5.out.fr 7
 have q8 := T5.out.res 8 _ rfl
 have p8 := T5.out.fr 8
 have T6 := Lib.hid (T5.out.put 5 (vs := [.slice wa B.wl wc]) (Nat.le_of_ble_eq_true rfl))
 have A6 := Lib.hid (Agree.setL (Sy.out (bo := w.heap.size + 1) (br := w.heap.size)) [.slice wa B.wl wc] w5 5 (Agree.refl (Sy (w.heap.size + 1) w.heap.size) w5))
 obtain ⟨hR, hBB⟩ := T6.out.fin (vs' := [.slice qa B.pl qc, .slice ra B.tl rc, .slice sa B.sl sc, .float .f32 B.film, .float .f32 B.bend, .slice wa B.wl wc, .float .f32 B.x, .float .f32 B.y, .float .f32 B.z]) rfl
 have A7 := Agree.setL (Sy.res (bo := w.heap.size + 1) (br := w.heap.size)) [.slice qa B.pl qc, .slice ra B.tl rc, .slice sa B.sl sc, .float .f32 B.film, .float .f32 B.bend, .slice wa B.wl wc, .float .f32 B.x, .float .f32 B.y, .float .f32 B.z] _ 0 A6.out
 simp only [setL, Nat.zero_add, Nat.reduceAdd] at hR hBB A7
 have HR := Lib.hid hR
 have HBB := Lib.hid hBB
 have HA7 := Lib.hid A7
 clear hR hBB A7
 go_wp2
 clear e0 e1 e2 e3 e4 e5 e6 e7 e8 g5 q0 q1 q2 q3 q4 q5 q6 q7 q8 p0 p1 p2 p3 p4 p5 p6 p7 p8
 have m0 := HR.out 0 _ rfl
 have m1 := HR.out 1 _ rfl
 have m2 := HR.out 2 _ rfl
 have m3 := HR.out 3 _ rfl
 have m4 := HR.out 4 _ rfl
 have m5 := HR.out 5 _ rfl
 have m6 := HR.out 6 _ rfl
 have m7 := HR.out 7 _ rfl
 have m8 := HR.out 8 _ rfl
 have G3 := HA7.out
 have G2 := A5.out.trans G3
 have G1 := A3.out.trans G2
 refine bodyPost_ret (v := (⟨qa, ra, sa, wa, B.pl, qc, B.tl, rc, B.sl, sc, B.wl, wc, B.film, B.bend, B.x, B.y, B.z⟩ : Bd).v) (by simp [results, Tryz.results112, go_sem, m0, m1, m2, m3, m4, m5, m6, m7, m8]) rfl ?_
 have z1 := A1.out.size
 have z4 := A4.out.size
 have n1 := N1.out
 have t1 := T1.out.lt
 have t3 := T3.out.lt
 have t2 := T2.out.lt
 have t4 := T4.out.lt
 have s1 : ∀ q, W.heap.size ≤ q → q < w1.heap.size → Sy (w.heap.size + 1) w.heap.size q := Sy.new (by omega) (by omega)
 have s2 : ∀ q, W2.heap.size ≤ q → q < w3.heap.size → Sy (w.heap.size + 1) w.heap.size q := Sy.new (by omega) (by omega)
 have s3 : ∀ q, W4.heap.size ≤ q → q < w5.heap.size → Sy (w.heap.size + 1) w.heap.size q := Sy.new (by omega) (by omega)
 have y1 := G1.size
 have y2 := G2.size
 have y3 := G3.size
 refine ⟨_, rfl, ⟨vs_agree M1.out.1 M1.out.2.2.1 s1 G1, ts_agree M1.out.2.1 M1.out.2.2.2 s1 G1, ss_agree S3.out.1 (lst_lv S3.out.2) s2 G2, fs_agree F5.out.1 (lst_lv F5.out.2) s3 G3, H.out.2.2.2.2⟩, ?_, ?_, rfl, HBB.out⟩
 ·exact ⟨M1.out.2.2.1.wide (by omega) (by omega), (lt_agree M1.out.2.2.2 s1 G1).wide (by omega) (by omega), (lst_lv S3.out.2).wide (by omega) (by omega), (lst_lv F5.out.2).wide (by omega) (by omega)⟩
 ·refine P1.out.imp id ?_
  rintro ⟨g, e, hO, hg, hT⟩
  refine ⟨g, e, hO.agree (s1 g hg.1 hg.2) G1, (hT.agree (fun b hb => s1 b hb.2.1 hb.2.2) G1).less (fun b hb => hb.1), fun x hx => ?_, fun x hx => ?_⟩
  ·obtain ⟨b, e, k1, k2⟩ := lst_lv S3.out.2 x hx
   exact ⟨b, e, by omega⟩
  ·obtain ⟨b, e, k1, k2⟩ := lst_lv F5.out.2 x hx
   exact ⟨b, e, by omega⟩
end Go.Proofs.YtabccmobmppdnaaGreat
namespace Go.Proofs.YtabccmobmppdnaaGreat
open Go Fk Go.RowKit
set_option linter.unusedVariables false
set_option maxRecDepth 8000
def mkW (xs ys : List C3) (d : Option Nat) (n k : Nat) : List C3 := (List.range n).map fun j => if j < k then movC (xs.getD j c0) (ys.getD j c0) d else xs.getD j c0
theorem mkW_len (xs ys : List C3) (d : Option Nat) (n k : Nat) : (mkW xs ys d n k).length = n := by simp [mkW]
theorem mkW_zero {xs ys : List C3} {d : Option Nat} {n : Nat} (h : xs.length = n) : mkW xs ys d n 0 = xs := by
 subst h
 apply List.ext_getElem (by simp [mkW])
 intro i h1 h2
 simp [mkW, List.getD, h2]
theorem mkW_full (xs ys : List C3) (d : Option Nat) (n : Nat) : mkW xs ys d n n = mkM xs ys d n n := by
 apply List.ext_getElem (by simp [mkW, mkM])
 intro i h1 h2
 have hi : i < n := by simpa [mkW] using h1
 simp [mkW, mkM, hi]
theorem mkW_set {xs ys : List C3} {d : Option Nat} {n k : Nat} (hk : k < n) : (mkW xs ys d n k).set k (movC (xs.getD k c0) (ys.getD k c0) d) = mkW xs ys d n (k + 1) := by
 apply List.ext_getElem (by simp [mkW])
 intro i h1 h2
 simp only [mkW, List.getElem_set, List.getElem_map, List.getElem_range]
 by_cases hik : k = i
 ·subst hik; simp
 ·rw [if_neg hik]
  by_cases h : i < k
  ·rw [if_pos h, if_pos (by omega)]
  ·rw [if_neg h, if_neg (by omega)]
theorem LTs.and {S T : Nat → Prop} {w : World} {a : Option Addr} {n : Nat} (h : LTs S w a n) (k : LTs T w a n) : LTs (fun b => S b ∧ T b) w a n := fun x hx => by
 obtain ⟨g, e, h1, h2⟩ := h x hx
 obtain ⟨g', e', k1, k2⟩ := k x hx
 subst e
 cases e'
 refine ⟨g, rfl, ⟨h1, k1⟩, fun i hi => ?_⟩
 obtain ⟨b, m, c, hc, hb⟩ := h2 i hi
 obtain ⟨b', m', c', hc', hb'⟩ := k2 i hi
 rw [hc] at hc'
 cases hc'
 refine ⟨b, m, c, hc, fun y hy => ?_⟩
 obtain ⟨q, o, e, z⟩ := hb y hy
 obtain ⟨q', o', e', z'⟩ := hb' y hy
 subst e
 cases e'
 exact ⟨q, o, rfl, z, z'⟩
theorem lts_of_lt {lo hi : Nat} {w : World} {a : Option Addr} {n : Nat} (h : LT lo hi w a n) : LTs (fun b => lo ≤ b ∧ b < hi) w a n := fun x hx => by
 obtain ⟨g, e, h1, h2, h3⟩ := h x hx
 refine ⟨g, e, ⟨h1, h2⟩, fun i hi => ?_⟩
 obtain ⟨b, m, c, hc, hb⟩ := h3 i hi
 refine ⟨b, m, c, hc, fun y hy => ?_⟩
 obtain ⟨q, o, e, z1, z2⟩ := hb y hy
 exact ⟨q, o, e, z1, z2⟩
theorem lt_of_lts {lo hi : Nat} {w : World} {a : Option Addr} {n : Nat} (h : LTs (fun b => lo ≤ b ∧ b < hi) w a n) : LT lo hi w a n := fun x hx => by
 obtain ⟨g, e, ⟨h1, h2⟩, h3⟩ := h x hx
 refine ⟨g, e, h1, h2, fun i hi => ?_⟩
 obtain ⟨b, m, c, hc, hb⟩ := h3 i hi
 refine ⟨b, m, c, hc, fun y hy => ?_⟩
 obtain ⟨q, o, e, z1, z2⟩ := hb y hy
 exact ⟨q, o, e, z1, z2⟩
def PZ (S : Nat → Prop) (w : World) (g : Nat) (B : Bd) (cs : List C3) : Prop := (B.pl = 0 ∨ (B.pa = some ⟨g, 0, none⟩ ∧ OwnVs w g cs)) ∧ LTs S w B.ta B.tl ∧ (∀ x, B.sa = some x → ∃ b, x = ⟨b, 0, none⟩ ∧ S b) ∧ (∀ x, B.wa = some x → ∃ b, x = ⟨b, 0, none⟩ ∧ S b)
theorem pz_of {lo hi : Nat} {w : World} {B : Bd} {cs : List C3} (hL : LB lo hi w B) (hX : PX w B.pl B cs) (hlo : lo ≤ hi) : ∃ g, lo ≤ g ∧ g ≠ hi ∧ PZ (fun b => b ≠ g ∧ lo ≤ b ∧ b < hi) w g B cs := by
 obtain ⟨l1, l2, l3, l4⟩ := hL
 have key : ∀ g, (∀ x, B.sa = some x → ∃ b, x = ⟨b, 0, none⟩ ∧ b ≠ g) → (∀ x, B.wa = some x → ∃ b, x = ⟨b, 0, none⟩ ∧ b ≠ g) → LTs (fun b => b ≠ g) w B.ta B.tl → LTs (fun b => b ≠ g ∧ lo ≤ b ∧ b < hi) w B.ta B.tl ∧ (∀ x, B.sa = some x → ∃ b, x = ⟨b, 0, none⟩ ∧ b ≠ g ∧ lo ≤ b ∧ b < hi) ∧ (∀ x, B.wa = some x → ∃ b, x = ⟨b, 0, none⟩ ∧ b ≠ g ∧ lo ≤ b ∧ b < hi) := fun g k1 k2 k3 =>
  ⟨k3.and (lts_of_lt l2), fun x hx => by
   obtain ⟨b, e, h1, h2⟩ := l3 x hx
   obtain ⟨b', e', h3⟩ := k1 x hx
   subst e; cases e'
   exact ⟨b, rfl, h3, h1, h2⟩, fun x hx => by
   obtain ⟨b, e, h1, h2⟩ := l4 x hx
   obtain ⟨b', e', h3⟩ := k2 x hx
   subst e; cases e'
   exact ⟨b, rfl, h3, h1, h2⟩⟩
 rcases hX with h0 | ⟨g, e, hO, k3, k1, k2⟩
 ·refine ⟨hi + 1, by omega, by omega, .inl h0, key (hi + 1) (fun x hx => ?_) (fun x hx => ?_) ((lts_of_lt l2).less (fun b hb => by omega))⟩
  ·obtain ⟨b, e, h1, h2⟩ := l3 x hx
   exact ⟨b, e, by omega⟩
  ·obtain ⟨b, e, h1, h2⟩ := l4 x hx
   exact ⟨b, e, by omega⟩
 ·obtain ⟨g', e', h1, h2⟩ := l1 _ e
  cases e'
  exact ⟨g, h1, by omega, .inr ⟨e, hO⟩, key g k1 k2 k3⟩
theorem lv_S {S : Nat → Prop} {a : Option Addr} (h : ∀ x, a = some x → ∃ b, x = ⟨b, 0, none⟩ ∧ S b) : ∃ lo hi, LV lo hi a ∧ ∀ b, lo ≤ b → b < hi → S b := by
 cases a with
 | none => exact ⟨0, 0, fun x hx => (by cases hx), fun b _ hb => absurd hb (Nat.not_lt_zero b)⟩
 | some x =>
  obtain ⟨b, e, hb⟩ := h x rfl
  exact ⟨b, b + 1, fun y hy => ⟨b, (by cases hy; exact e), Nat.le_refl _, Nat.lt_succ_self _⟩, fun q h1 h2 => by
   have : q = b := by omega
   subst this; exact hb⟩
theorem pz_fin {lo hi : Nat} {W w : World} {g : Nat} {B : Bd} {c : Bc} {cs' : List C3} (h : IsB W B c) (hL : LB lo hi W B) (hZ : PZ (fun b => b ≠ g ∧ lo ≤ b ∧ b < hi) W g B c.cs) (hA : Agree (fun b => b ≠ g ∧ lo ≤ b ∧ b < hi) W w) (hO : B.pl = 0 ∨ OwnVs w g cs') (hl : cs'.length = B.pl) :
  IsB w B ⟨cs', c.ts, c.ss, c.zs, c.film, c.bend, c.fall⟩ ∧ LB lo hi w B := by
 obtain ⟨z1, z2, z3, z4⟩ := hZ
 obtain ⟨la, ha, s1, s2⟩ := lv_S z3
 obtain ⟨lb, hb, w1, w2⟩ := lv_S z4
 refine ⟨⟨?_, ts_agreeS h.2.1 z2 (fun _ hb => hb) hA, ss_agree h.2.2.1 s1 s2 hA, fs_agree h.2.2.2.1 w1 w2 hA, h.2.2.2.2⟩, hL.1, lt_of_lts ((z2.agree (fun _ hb => hb) hA).less (fun b hb => hb.2)), hL.2.2⟩
 refine ⟨hl, h.1.2.1, h.1.2.2.1, h.1.2.2.2.1, fun x hx i hi => ?_⟩
 rcases z1 with z1 | ⟨z1, _⟩
 ·rw [z1] at hi; exact absurd hi (Nat.not_lt_zero i)
 rcases hO with hO | hO
 ·rw [hO] at hi; exact absurd hi (Nat.not_lt_zero i)
 ·exact hO.is.2.2.2.2 x (by rw [← hx, z1]) i (by rw [hl]; exact hi)
theorem Tc.put3 {w w1 : World} {bo br g k y z v : Nat} {lo lr : List Value} (h : Tc w bo br lo lr w1) (hg : w.heap.size ≤ g) (h1 : g ≠ bo) (h2 : g ≠ br) : Tc w bo br lo lr (put3 w1 g k y z v) := by
 unfold Go.Proofs.YtabccmobmppdnaaGreat.put3
 exact ⟨((h.out.far h1).far h1).far h1, ((h.res.far h2).far h2).far h2, fun i => by simpa using h.fo i, fun i => by simpa using h.fr i, below_set3 h.bel hg, h.ge, by simpa using h.lt⟩
theorem Agree.put3 {S : Nat → Prop} {W w : World} {g k y z v : Nat} (h : Agree S W w) (hg : ¬ S g) : Agree S W (put3 w g k y z v) := ((h.set hg).set hg).set hg
end Go.Proofs.YtabccmobmppdnaaGreat
namespace Go.Proofs.YtabccmobmppdnaaGreat
open Go Fk Go.RowKit
set_option linter.unusedVariables false
set_option maxRecDepth 8000
set_option maxHeartbeats 4000000 in
theorem l03Moved (pb : Nat) (B : Bd) (c : Bc) (a : Option Addr) (cap : Nat) (ys : List C3) (x : Nat) (d : Option Nat) (w : World) (A : At w pb B.l) (h : IsB w B c) (hv : IsVs w a B.pl cap ys) (hx : FV .f32 x d) (hpl : B.pl ≤ 1000) (htl : B.tl ≤ 1000) (h3 : ∀ k, k < B.tl → (c.ts.getD k []).length ≤ 1000) (hsl : B.sl ≤ 1000) (hwl : B.wl ≤ 1000) :
  Calls Tryz.prog 90 #[.pointer (some ⟨pb, 0, none⟩), .slice a B.pl cap, .float .f32 x] w fun e w' => ∃ B' : Bd, e = .returned B'.v ∧ IsB w' B' (mvC c ys d) ∧ LB w.heap.size w'.heap.size w' B' ∧ Below w.heap.size w w' := by
 have ui := Tryz.underlying44
 have uim := Tryz.underlying40
 have hm : B.pl ≤ 9223372036854775807 := by omega
 have B0 : Hid (Below w.heap.size w (w.alloc (.cells #[.slice none 0 0, .slice none 0 0, .slice none 0 0, .float .f32 0, .float .f32 0, .slice none 0 0, .float .f32 0, .float .f32 0, .float .f32 0] 44))) := Lib.hid ((Below.refl _ _).alloc (Nat.le_refl _) _)
 have A0 : Hid (At (w.alloc (.cells #[.slice none 0 0, .slice none 0 0, .slice none 0 0, .float .f32 0, .float .f32 0, .slice none 0 0, .float .f32 0, .float .f32 0, .float .f32 0] 44)) w.heap.size Z9') := Lib.hid At.new
 have F0 : Hid (∀ i, (w.alloc (.cells #[.slice none 0 0, .slice none 0 0, .slice none 0 0, .float .f32 0, .float .f32 0, .slice none 0 0, .float .f32 0, .float .f32 0, .float .f32 0] 44)).frozen? ⟨w.heap.size, i, none⟩ = false) := Lib.hid (fun i => by go_simp)
 have hsz : (w.alloc (.cells #[.slice none 0 0, .slice none 0 0, .slice none 0 0, .float .f32 0, .float .f32 0, .slice none 0 0, .float .f32 0, .float .f32 0, .float .f32 0] 44)).heap.size = w.heap.size + 1 := by simp
 have SZ := Lib.hid hsz
 have HA := Lib.hid A
 have H := Lib.hid h
 have HV := Lib.hid hv
 have HX := Lib.hid hx
 have LN := Lib.hid h.lens
 have HOWN := Lib.hid (l03OwnP pb B c _ (A.below B0.out) (h.below B0.out) hpl htl h3 hsl hwl)
 unfold mvC
 rw [LN.out.1]
 clear h hv hx h3 hsz A
 go_enter Tryz.func90, Tryz.ntmps90
 go_wp2_with fail
 generalize (w.alloc (.cells #[.slice none 0 0, .slice none 0 0, .slice none 0 0, .float .f32 0, .float .f32 0, .slice none 0 0, .float .f32 0, .float .f32 0, .float .f32 0] 44)) = W at *
 refine HOWN.out.mono ?_
 rintro e w1 ⟨B', rfl, hI, hL, hX, hpl', hB1⟩
 have hs1 := hB1.size
 rw [SZ.out] at hs1 hL
 rw [← hpl'] at hX
 obtain ⟨g, g1, g2, hZ⟩ := pz_of hL hX hs1
 have hN : Below w1.heap.size w1 (w1.alloc (.cells #[.slice B'.pa B'.pl B'.pc, .slice B'.ta B'.tl B'.tc, .slice B'.sa B'.sl B'.sc, .float .f32 B'.film, .float .f32 B'.bend, .slice B'.wa B'.wl B'.wc, .float .f32 B'.x, .float .f32 B'.y, .float .f32 B'.z] 44)) := (Below.refl _ _).alloc (Nat.le_refl _) _
 have T0 : Hid (Tc w w1.heap.size w.heap.size B'.l Z9' (w1.alloc (.cells #[.slice B'.pa B'.pl B'.pc, .slice B'.ta B'.tl B'.tc, .slice B'.sa B'.sl B'.sc, .float .f32 B'.film, .float .f32 B'.bend, .slice B'.wa B'.wl B'.wc, .float .f32 B'.x, .float .f32 B'.y, .float .f32 B'.z] 44))) := Lib.hid
  ⟨At.new, (A0.out.below hB1).below hN, fun i => by go_simp, fun i => by rw [hN.frozen (p := ⟨w.heap.size, i, none⟩) (show w.heap.size < w1.heap.size by omega), hB1.frozen (p := ⟨w.heap.size, i, none⟩) (show w.heap.size < W.heap.size by rw [SZ.out]; omega)]; exact F0.out i, (B0.out.trans (hB1.mono B0.out.size)).trans (hN.mono (by omega)), ⟨by omega, Nat.le_refl _, by omega⟩, by simp <;> omega⟩
 have K := Lib.hid (And.intro hI (And.intro hL hZ))
 have G := Lib.hid (And.intro g1 g2)
 have O0 : Hid (B'.pl = 0 ∨ OwnVs (w1.alloc (.cells #[.slice B'.pa B'.pl B'.pc, .slice B'.ta B'.tl B'.tc, .slice B'.sa B'.sl B'.sc, .float .f32 B'.film, .float .f32 B'.bend, .slice B'.wa B'.wl B'.wc, .float .f32 B'.x, .float .f32 B'.y, .float .f32 B'.z] 44)) g (mkW c.cs ys d B.pl 0)) := Lib.hid (hZ.1.imp id fun k => by rw [mkW_zero LN.out.1]; exact k.2.below hN)
 have E0 : Hid (Agree (fun b => b ≠ g ∧ w.heap.size + 1 ≤ b ∧ b < w1.heap.size) w1 (w1.alloc (.cells #[.slice B'.pa B'.pl B'.pc, .slice B'.ta B'.tl B'.tc, .slice B'.sa B'.sl B'.sc, .float .f32 B'.film, .float .f32 B'.bend, .slice B'.wa B'.wl B'.wc, .float .f32 B'.x, .float .f32 B'.y, .float .f32 B'.z] 44))) := Lib.hid (Agree.of_below hN)
 have HPL := Lib.hid hpl'
 have PA : Hid (B'.pl = 0 ∨ B'.pa = some ⟨g, 0, none⟩) := Lib.hid (hZ.1.imp id (fun k => k.1))
 have S1 := Lib.hid hs1
 clear hI hL hX hZ hN hB1 hs1 hpl' g1 g2
 go_wp2
 generalize (w1.alloc (.cells #[.slice B'.pa B'.pl B'.pc, .slice B'.ta B'.tl B'.tc, .slice B'.sa B'.sl B'.sc, .float .f32 B'.film, .float .f32 B'.bend, .slice B'.wa B'.wl B'.wc, .float .f32 B'.x, .float .f32 B'.y, .float .f32 B'.z] 44)) = W2 at *
 go_loopw [13] (fun i w' => ∃ k : Nat, k ≤ B.pl ∧ i = .int .i64 k ∧ Aside (Tc w w1.heap.size w.heap.size B'.l Z9' w' ∧ (B'.pl = 0 ∨ OwnVs w' g (mkW c.cs ys d B.pl k)) ∧ Agree (fun b => b ≠ g ∧ w.heap.size + 1 ≤ b ∧ b < w1.heap.size) w1 w')) (fun i _ => B.pl - (intOf i).toNat)
 case atStart => exact ⟨0, Nat.zero_le _, rfl, T0.out, O0.out, E0.out⟩
 case round =>
  obtain ⟨k, hk, rfl, hA⟩ := hrel
  have TK := Lib.hid hA.out.1
  have OK := Lib.hid hA.out.2.1
  have EK := Lib.hid hA.out.2.2
  clear hA
  by_cases hlt : k < B.pl
  ·obtain ⟨b1, o1, e1, hcell1⟩ := (H.out.1.below TK.out.bel).some (by omega)
   obtain ⟨b2, o2, rfl, hcell2⟩ := (HV.out.below TK.out.bel).some (by omega)
   obtain ⟨p, q, t, c0', c1', c2', e0, e1', e2⟩ := hcell1 k hlt
   obtain ⟨p', q', t', d0', d1', d2', g0, g1, g2⟩ := hcell2 k hlt
   have hne : ¬ B'.pl = 0 := by rw [HPL.out]; omega
   have hk0 : (0 : Int) ≤ (k : Int) := by omega
   have hk1 : (k : Int) < (B.pl : Int) := by omega
   have hk2 : (k : Int) < (B'.pl : Int) := by rw [HPL.out]; omega
   have HSN := Lib.hid (mkW_set (xs := c.cs) (ys := ys) (d := d) hlt)
   have FA := Lib.hid (And.intro e0 (And.intro e1' e2))
   have FB := Lib.hid (And.intro g0 (And.intro g1 g2))
   have CC := Lib.hid (And.intro c0' (And.intro c1' c2'))
   have DD := Lib.hid (And.intro d0' (And.intro d1' d2'))
   have O1 := Lib.hid (OK.out.resolve_left hne)
   have hpa := PA.out.resolve_left hne
   have CO := TK.out.out 0 _ rfl
   rw [hpa] at CO
   have CM := (HA.out.below TK.out.bel) 0 _ rfl
   rw [e1] at CM
   have CO := Lib.hid CO
   have CM := Lib.hid CM
   clear hcell1 hcell2 e0 e1' e2 g0 g1 g2 c0' c1' c2' d0' d1' d2' hpa e1 hne
   go_wp2_with fail
   refine Reg6.wp_region_mix (s := 20) (C := fun w' => Below wr.heap.size wr w') (D := fun _ w' => ∃ wp y z v, Below wr.heap.size wr wp ∧ F3 y z v (movC (c.cs.getD k c0) (ys.getD k c0) d) ∧ w' = put3 wp g k y z v) (G := fun w1 w2 => Below w1.heap.size w1 w2)
    (Rv := fun i v => match i with | 0 => v = .pointer (some ⟨w1.heap.size, 0, none⟩) | 1 => v = .pointer (some ⟨w1.heap.size, 0, none⟩) | 2 => v = .slice (some ⟨g, 0, none⟩) B'.pl B'.pc | 3 => v = .int .i64 k | 4 => v = .pointer (some ⟨pb, 0, none⟩) | 5 => v = .pointer (some ⟨pb, 0, none⟩) | 6 => v = .pointer (some ⟨pb, 0, none⟩) | 7 => v = .pointer (some ⟨pb, 0, none⟩) | 8 => v = .slice (some ⟨b1, o1, none⟩) B.pl B.pc | 9 => v = .int .i64 k | 10 => v = .pointer (some ⟨b1, o1 + k * 3, none⟩) | 11 => v = vv p q t | 12 => v = .slice (some ⟨b2, o2, none⟩) B.pl cap | 13 => v = .int .i64 k | 14 => v = .pointer (some ⟨b2, o2 + k * 3, none⟩) | 15 => v = vv p' q' t' | 16 => v = .float .f32 x | 17 => ∃ y z u, v = vv y z u ∧ F3 y z u (scaleC' (ys.getD k c0) d) | 18 => ∃ y z u, v = vv y z u ∧ F3 y z u (movC (c.cs.getD k c0) (ys.getD k c0) d) | 19 => v = .pointer (some ⟨g, k * 3, none⟩) | _ => True)
    (Rw := fun _ _ _ => True) [false, false, false, false, false, false, false, false, false, false, false, false, false, false, false, false, true, true, true, true, true, true, true, true, true, true, true, true, true, true, true, true, true, true, true, true, false, false]
    (by kernel_rfl) (by kernel_rfl) (by kernel_rfl) (fun _ _ _ _ _ _ _ => trivial) (below_drewN (Below.refl _ _) 1) ?_ ?_
   ·refine ⟨?_, ?_, ?_, ?_, ?_, ?_, ?_, ?_, ?_, ?_, ?_, ?_, ?_, ?_, ?_, ?_, ?_, ?_, ?_, ?_, ?_, trivial⟩
    ·refine Reg6.Obl.early rfl (by kernel_rfl) ?_
     rintro av wq HC hx hd K hK
     replace HC := Lib.hid HC
     have t7 : av.tmps[7]?.getD undef = .pointer (some ⟨w1.heap.size, 0, none⟩) := Reg.slot_val (hx 7 (by kernel_rfl))
     go_simp
     exact hK _ _ rfl trivial HC.out (Below.refl _ _)
    ·refine Reg6.Obl.early rfl (by kernel_rfl) ?_
     rintro av wq HC hx hd K hK
     replace HC := Lib.hid HC
     have t16 : av.tmps[16]?.getD undef = .pointer (some ⟨w1.heap.size, 0, none⟩) := Reg.slot_val (hd 0 16 (by kernel_rfl) rfl).1
     go_simp
     exact hK _ _ rfl trivial HC.out (Below.refl _ _)
    ·refine Reg6.Obl.early rfl (by kernel_rfl) ?_
     rintro av wq HC hx hd K hK
     replace HC := Lib.hid HC
     have t17 : av.tmps[17]?.getD undef = .pointer (some ⟨w1.heap.size, 0, none⟩) := Reg.slot_val (hd 1 17 (by kernel_rfl) rfl).1
     have y0 := cell_below HC.out CO.out
     go_simp
     exact hK _ _ rfl trivial HC.out (Below.refl _ _)
    ·refine Reg6.Obl.early rfl (by kernel_rfl) ?_
     rintro av wq HC hx hd K hK
     replace HC := Lib.hid HC
     have t8 : av.tmps[8]?.getD undef = .int .i64 k := Reg.slot_val (hx 8 (by kernel_rfl))
     go_simp
     exact hK _ _ rfl trivial HC.out (Below.refl _ _)
    ·refine Reg6.Obl.early rfl (by kernel_rfl) ?_
     rintro av wq HC hx hd K hK
     replace HC := Lib.hid HC
     have t0 : av.tmps[0]?.getD undef = .pointer (some ⟨pb, 0, none⟩) := Reg.slot_val (hx 0 (by kernel_rfl))
     go_simp
     exact hK _ _ rfl trivial HC.out (Below.refl _ _)
    ·refine Reg6.Obl.early rfl (by kernel_rfl) ?_
     rintro av wq HC hx hd K hK
     replace HC := Lib.hid HC
     have t20 : av.tmps[20]?.getD undef = .pointer (some ⟨pb, 0, none⟩) := Reg.slot_val (hd 4 20 (by kernel_rfl) rfl).1
     go_simp
     exact hK _ _ rfl trivial HC.out (Below.refl _ _)
    ·refine Reg6.Obl.early rfl (by kernel_rfl) ?_
     rintro av wq HC hx hd K hK
     replace HC := Lib.hid HC
     have t21 : av.tmps[21]?.getD undef = .pointer (some ⟨pb, 0, none⟩) := Reg.slot_val (hd 5 21 (by kernel_rfl) rfl).1
     go_simp
     exact hK _ _ rfl trivial HC.out (Below.refl _ _)
    ·refine Reg6.Obl.early rfl (by kernel_rfl) ?_
     rintro av wq HC hx hd K hK
     replace HC := Lib.hid HC
     have t22 : av.tmps[22]?.getD undef = .pointer (some ⟨pb, 0, none⟩) := Reg.slot_val (hd 6 22 (by kernel_rfl) rfl).1
     go_simp
     exact hK _ _ rfl trivial HC.out (Below.refl _ _)
    ·refine Reg6.Obl.early rfl (by kernel_rfl) ?_
     rintro av wq HC hx hd K hK
     replace HC := Lib.hid HC
     have t23 : av.tmps[23]?.getD undef = .pointer (some ⟨pb, 0, none⟩) := Reg.slot_val (hd 7 23 (by kernel_rfl) rfl).1
     have y0 := cell_below HC.out CM.out
     go_simp
     exact hK _ _ rfl trivial HC.out (Below.refl _ _)
    ·refine Reg6.Obl.early rfl (by kernel_rfl) ?_
     rintro av wq HC hx hd K hK
     replace HC := Lib.hid HC
     have t8 : av.tmps[8]?.getD undef = .int .i64 k := Reg.slot_val (hx 8 (by kernel_rfl))
     go_simp
     exact hK _ _ rfl trivial HC.out (Below.refl _ _)
    ·refine Reg6.Obl.early rfl (by kernel_rfl) ?_
     rintro av wq HC hx hd K hK
     replace HC := Lib.hid HC
     have t24 : av.tmps[24]?.getD undef = .slice (some ⟨b1, o1, none⟩) B.pl B.pc := Reg.slot_val (hd 8 24 (by kernel_rfl) rfl).1
     have t25 : av.tmps[25]?.getD undef = .int .i64 k := Reg.slot_val (hd 9 25 (by kernel_rfl) rfl).1
     go_simp
     exact hK _ _ rfl trivial HC.out (Below.refl _ _)
    ·refine Reg6.Obl.early rfl (by kernel_rfl) ?_
     rintro av wq HC hx hd K hK
     replace HC := Lib.hid HC
     have t26 : av.tmps[26]?.getD undef = .pointer (some ⟨b1, o1 + k * 3, none⟩) := Reg.slot_val (hd 10 26 (by kernel_rfl) rfl).1
     have y0 := cell_below HC.out CC.out.1
     have y1 := cell_below HC.out CC.out.2.1
     have y2 := cell_below HC.out CC.out.2.2
     go_simp
     exact hK _ _ rfl trivial HC.out (Below.refl _ _)
    ·refine Reg6.Obl.early rfl (by kernel_rfl) ?_
     rintro av wq HC hx hd K hK
     replace HC := Lib.hid HC
     have t1 : av.tmps[1]?.getD undef = .slice (some ⟨b2, o2, none⟩) B.pl cap := Reg.slot_val (hx 1 (by kernel_rfl))
     go_simp
     exact hK _ _ rfl trivial HC.out (Below.refl _ _)
    ·refine Reg6.Obl.early rfl (by kernel_rfl) ?_
     rintro av wq HC hx hd K hK
     replace HC := Lib.hid HC
     have t8 : av.tmps[8]?.getD undef = .int .i64 k := Reg.slot_val (hx 8 (by kernel_rfl))
     go_simp
     exact hK _ _ rfl trivial HC.out (Below.refl _ _)
    ·refine Reg6.Obl.early rfl (by kernel_rfl) ?_
     rintro av wq HC hx hd K hK
     replace HC := Lib.hid HC
     have t28 : av.tmps[28]?.getD undef = .slice (some ⟨b2, o2, none⟩) B.pl cap := Reg.slot_val (hd 12 28 (by kernel_rfl) rfl).1
     have t29 : av.tmps[29]?.getD undef = .int .i64 k := Reg.slot_val (hd 13 29 (by kernel_rfl) rfl).1
     go_simp
     exact hK _ _ rfl trivial HC.out (Below.refl _ _)
    ·refine Reg6.Obl.early rfl (by kernel_rfl) ?_
     rintro av wq HC hx hd K hK
     replace HC := Lib.hid HC
     have t30 : av.tmps[30]?.getD undef = .pointer (some ⟨b2, o2 + k * 3, none⟩) := Reg.slot_val (hd 14 30 (by kernel_rfl) rfl).1
     have y0 := cell_below HC.out DD.out.1
     have y1 := cell_below HC.out DD.out.2.1
     have y2 := cell_below HC.out DD.out.2.2
     go_simp
     exact hK _ _ rfl trivial HC.out (Below.refl _ _)
    ·refine Reg6.Obl.early rfl (by kernel_rfl) ?_
     rintro av wq HC hx hd K hK
     replace HC := Lib.hid HC
     have t2 : av.tmps[2]?.getD undef = .float .f32 x := Reg.slot_val (hx 2 (by kernel_rfl))
     go_simp
     exact hK _ _ rfl trivial HC.out (Below.refl _ _)
    ·refine Reg6.Obl.early rfl (by kernel_rfl) ?_
     rintro av wq HC hx hd K hK
     replace HC := Lib.hid HC
     have t31 : av.tmps[31]?.getD undef = vv p' q' t' := Reg.slot_val (hd 15 31 (by kernel_rfl) rfl).1
     have t32 : av.tmps[32]?.getD undef = .float .f32 x := Reg.slot_val (hd 16 32 (by kernel_rfl) rfl).1
     go_simp
     refine (l01Scale _ _ _ _ _ _ _ _ _ FB.out.1 FB.out.2.1 FB.out.2.2 HX.out).mono ?_
     rintro en w2 ⟨y, z, u, rfl, f0, f1, f2, hB2⟩
     exact hK _ _ ⟨y, z, u, rfl, f0, f1, f2⟩ trivial (HC.out.trans (hB2.mono HC.out.size)) hB2
    ·refine Reg6.Obl.early rfl (by kernel_rfl) ?_
     rintro av wq HC hx hd K hK
     replace HC := Lib.hid HC
     have t27 : av.tmps[27]?.getD undef = vv p q t := Reg.slot_val (hd 11 27 (by kernel_rfl) rfl).1
     obtain ⟨y, z, u, g33, f33⟩ := (hd 17 33 (by kernel_rfl) rfl).1
     have t33 := Reg.slot_val g33
     have F33 := Lib.hid f33
     clear g33 f33
     go_simp
     refine (l01Add _ _ _ _ _ _ _ _ _ _ _ _ _ FA.out.1 FA.out.2.1 FA.out.2.2 F33.out.1 F33.out.2.1 F33.out.2.2).mono ?_
     rintro en w2 ⟨y', z', u', rfl, f0, f1, f2, hB2⟩
     exact hK _ _ ⟨y', z', u', rfl, f0, f1, f2⟩ trivial (HC.out.trans (hB2.mono HC.out.size)) hB2
    ·refine Reg6.Obl.early rfl (by kernel_rfl) ?_
     rintro av wq HC hx hd K hK
     replace HC := Lib.hid HC
     have t18 : av.tmps[18]?.getD undef = .slice (some ⟨g, 0, none⟩) B'.pl B'.pc := Reg.slot_val (hd 2 18 (by kernel_rfl) rfl).1
     have t19 : av.tmps[19]?.getD undef = .int .i64 k := Reg.slot_val (hd 3 19 (by kernel_rfl) rfl).1
     go_simp
     exact hK _ _ (by first | rfl | simp) trivial HC.out (Below.refl _ _)
    ·refine Reg6.Obl.store rfl ?_
     rintro av wq HC hx hd K hK
     replace HC := Lib.hid HC
     have t35 : av.tmps[35]?.getD undef = .pointer (some ⟨g, k * 3, none⟩) := Reg.slot_val (hd 19 35 (by kernel_rfl) rfl).1
     obtain ⟨y, z, v, g34, f34⟩ := (hd 18 34 (by kernel_rfl) rfl).1
     have t34 := Reg.slot_val g34
     have HP : Hid (∃ wp y' z' v', Below wr.heap.size wr wp ∧ F3 y' z' v' (movC (c.cs.getD k c0) (ys.getD k c0) d) ∧ put3 wq g k y z v = put3 wp g k y' z' v') := Lib.hid ⟨wq, y, z, v, HC.out, f34, rfl⟩
     obtain ⟨p0, q0, r0, ⟨y0, y1, y2⟩, -⟩ := (O1.out.below HC.out).at (k := k) (by rw [mkW_len]; exact hlt)
     have f0 := (O1.out.below HC.out).2.1 (k * 3)
     have f1 := (O1.out.below HC.out).2.1 (k * 3 + 1)
     have f2 := (O1.out.below HC.out).2.1 (k * 3 + 2)
     clear g34 f34
     go_simp
     exact hK _ HP.out
   ·rintro f w2 hD hd
    obtain ⟨wp, y, z, v, hB, hF, rfl⟩ := hD
    simp only [Reg.mixL]
    have O2 := Lib.hid ((O1.out.below hB).put (k := k) (by rw [mkW_len]; exact hlt) hF)
    have T2 := Lib.hid ((TK.out.call hB).put3 (k := k) (y := y) (z := z) (v := v) (show w.heap.size ≤ g by have := G.out.1; omega) G.out.2 (show g ≠ w.heap.size by have := G.out.1; omega))
    have E2 := Lib.hid ((EK.out.trans (Agree.of_below hB)).put3 (k := k) (y := y) (z := z) (v := v) (fun hb => hb.1 rfl))
    clear hB hF hd
    go_wp2
    go_roundw
    case rel => exact ⟨k + 1, by omega, by go_num, T2.out, .inr (by rw [← HSN.out]; exact O2.out), E2.out⟩
    case measure => simp [intOf]; omega
  ·obtain rfl : k = B.pl := by omega
   have k0 := TK.out.out 0 _ rfl
   have k1 := TK.out.out 1 _ rfl
   have k2 := TK.out.out 2 _ rfl
   have k3 := TK.out.out 3 _ rfl
   have k4 := TK.out.out 4 _ rfl
   have k5 := TK.out.out 5 _ rfl
   have k6 := TK.out.out 6 _ rfl
   have k7 := TK.out.out 7 _ rfl
   have k8 := TK.out.out 8 _ rfl
   have q0 := TK.out.res 0 _ rfl
   have p0 := TK.out.fr 0
   have q1 := TK.out.res 1 _ rfl
   have p1 := TK.out.fr 1
   have q2 := TK.out.res 2 _ rfl
   have p2 := TK.out.fr 2
   have q3 := TK.out.res 3 _ rfl
   have p3 := TK.out.fr 3
   have q4 := TK.out.res 4 _ rfl
   have p4 := TK.out.fr 4
   have q5 := TK.out.res 5 _ rfl
   have p5 := TK.out.fr 5
   have q6 := TK.out.res 6 _ rfl
   have p6 := TK.out.fr 6
   have q7 := TK.out.res 7 _ rfl
   have p7 := TK.out.fr 7
   have q8 := TK.out.res 8 _ rfl
   have p8 := TK.out.fr 8
   obtain ⟨hR, hBB⟩ := TK.out.fin (vs' := B'.l) rfl
   have hE := Agree.setL (S := fun b => b ≠ g ∧ w.heap.size + 1 ≤ b ∧ b < w1.heap.size) (g := w.heap.size) (fun hb => by omega) B'.l _ 0 EK.out
   have hO := OK.out.imp id (fun k => OwnVs.agree (S := fun b => b ≠ w.heap.size) k (show g ≠ w.heap.size by have := G.out.1; omega) (Agree.setL (fun hb => hb rfl) B'.l _ 0 (Agree.refl _ _)))
   have hF := pz_fin K.out.1 K.out.2.1 K.out.2.2 hE hO (by rw [mkW_len, HPL.out])
   have hsz := hE.size
   simp only [setL, Nat.zero_add, Nat.reduceAdd] at hR hBB hF hsz
   have HR := Lib.hid hR
   have HBB := Lib.hid hBB
   have HF := Lib.hid hF
   have HSZ := Lib.hid hsz
   clear hR hBB hE hO hF hsz
   go_wp2
   clear k0 k1 k2 k3 k4 k5 k6 k7 k8 q0 q1 q2 q3 q4 q5 q6 q7 q8 p0 p1 p2 p3 p4 p5 p6 p7 p8
   have m0 := HR.out 0 _ rfl
   have m1 := HR.out 1 _ rfl
   have m2 := HR.out 2 _ rfl
   have m3 := HR.out 3 _ rfl
   have m4 := HR.out 4 _ rfl
   have m5 := HR.out 5 _ rfl
   have m6 := HR.out 6 _ rfl
   have m7 := HR.out 7 _ rfl
   have m8 := HR.out 8 _ rfl
   refine bodyPost_ret (v := B'.v) (by simp [results, Tryz.results90, go_sem, m0, m1, m2, m3, m4, m5, m6, m7, m8]) rfl ?_
   refine ⟨B', rfl, ?_, HF.out.2.wide (by omega) HSZ.out, HBB.out⟩
   have := HF.out.1
   rw [mkW_full] at this
   exact this
end Go.Proofs.YtabccmobmppdnaaGreat
namespace Go.Proofs.YtabccmobmppdnaaGreat
open Go Fk Go.RowKit
set_option linter.unusedVariables false
set_option maxRecDepth 8000
theorem mvC_body {c : Bc} (ys : List C3) (d : Option Nat) (h : bodyB c = true) : bodyB (mvC c ys d) = true := by
 have hl : (mvC c ys d).cs.length = c.cs.length := mkM_len _ _ _ _ _
 unfold bodyB validB at h ⊢
 rw [hl]
 exact h
end Go.Proofs.YtabccmobmppdnaaGreat
namespace Go.Proofs.YtabccmobmppdnaaGreat
open Go Fk Go.RowKit
set_option linter.unusedVariables false
set_option maxRecDepth 16000
theorem Bx.away {w w1 w2 : World} {L : List (Nat × List Value)} {lo hi : Nat} (h : Bx w L w1) (hM : Mark lo hi w1 w2) (hl : w.heap.size ≤ lo) (ho : ∀ b l, (b, l) ∈ L → b < lo ∨ hi ≤ b) : Bx w L w2 :=
 ⟨h.1.trans (hM.below.mono hl), fun b l hm => ⟨fun i v hv => hM.cell (ho b l hm) ((h.2 b l hm).1 i v hv), fun i => by rw [hM.frozen _ _ (h.2 b l hm).2.2.1]; exact (h.2 b l hm).2.1 i, Nat.lt_of_lt_of_le (h.2 b l hm).2.2.1 hM.below.size, (h.2 b l hm).2.2.2⟩⟩
end Go.Proofs.YtabccmobmppdnaaGreat
namespace Go.Proofs.YtabccmobmppdnaaGreat
open Go Fk Go.RowKit
set_option linter.unusedVariables false
set_option maxRecDepth 8000
set_option maxHeartbeats 1000000 in
theorem laws_markBodyZ (lo hi : Nat) (B : Bd) (c : Bc) (w : World) (h : OwnB lo hi w B c.ts) (hI : IsB w B c) (hs : SmallB c) (hlo : lo ≤ w.heap.size) (hhi : hi ≤ w.heap.size) :
  Calls Tryz.prog 25 #[B.v, .int .i64 1] w fun e w' => ∃ z : Nat, z ≤ 3000000000000000000 ∧ e = .returned (.int .i64 z) ∧ Mark lo hi w w' := by
 have ui := Tryz.underlying44
 have uim := Tryz.underlying40
 have A0 : Hid (At (w.alloc (BoxB B 44)) w.heap.size B.l) := Lib.hid At.new
 have B0 : Hid (Below w.heap.size w (w.alloc (BoxB B 44))) := Lib.hid ((Below.refl _ _).alloc (Nat.le_refl _) _)
 have M0 : Hid (Mark lo hi w (w.alloc (BoxB B 44))) := Lib.hid (Mark.alloc hlo _)
 have hz : lo ≤ (w.alloc (BoxB B 44)).heap.size := by simp; omega
 have ln := hI.lens
 have h1 : B.pl ≤ 1048576 := by rw [← ln.1]; exact hs.1.1
 have h2 : B.tl ≤ 1048576 := by rw [← ln.2.1]; exact hs.1.2.1
 have h3 : ∀ j, j < B.tl → (c.ts.getD j []).length ≤ 1048576 := fun j hj => hs.1.2.2 j (by rw [ln.2.1]; exact hj)
 have h4 : B.sl ≤ 1048576 := by rw [← ln.2.2.1]; exact hs.2.1
 have h5 : B.wl ≤ 1048576 := by rw [← ln.2.2.2]; exact hs.2.2
 obtain ⟨P, R, T, G, e1, e2, e3, e4, m, r, s, g⟩ := h.below B0.out
 have J := Lib.hid (laws_markMeshB lo hi P 0 R 0 B.pl B.pc B.tl B.tc c.ts 1 _ m hz h1 h2 h3 (by decide))
 have SG := Lib.hid (And.intro s g)
 have HHI := Lib.hid hhi
 clear hI hs m s g h h3
 rw [← e1, ← e2] at J
 have ES := Lib.hid (And.intro e3 e4)
 clear e1 e2 e3 e4 r
 go_enter Tryz.func25, Tryz.ntmps25
 go_wp2_with fail
 change Calls _ _ _ (w.alloc (BoxB B 44)) _
 generalize (w.alloc (BoxB B 44)) = W at *
 refine J.out.mono ?_
 rintro e w1 ⟨z, hzb, rfl, hM1⟩
 have k2 := hM1.cell (.inr HHI.out) (A0.out 2 _ rfl)
 have k5 := hM1.cell (.inr HHI.out) (A0.out 5 _ rfl)
 have X1 := Lib.hid (M0.out.trans hM1)
 have J2 := Lib.hid (laws_markSpringS lo hi T 0 B.sl B.sc z w1 (SG.out.1.mark hM1) (by omega))
 rw [← ES.out.1] at J2
 have L2 := Lib.hid (SG.out.2.mark hM1)
 clear hM1
 go_wp2_with fail
 refine J2.out.mono ?_
 rintro e w2 ⟨rfl, _, _, hM2⟩
 have k5' := hM2.cell (.inr HHI.out) k5
 have X2 := Lib.hid (X1.out.trans hM2)
 have J3 := Lib.hid (laws_markFloat32S lo hi G 0 B.wl B.wc (z + B.sl * 4) w2 (L2.out.mark hM2) (by omega))
 rw [← ES.out.2] at J3
 clear hM2 k2 k5
 obtain ⟨y, hy⟩ : ∃ y, y = z + B.sl * 4 := ⟨_, rfl⟩
 rw [← hy] at J3 ⊢
 have hyb : y + B.wl ≤ 3000000000000000000 := by omega
 clear hy
 go_wp2_with fail
 refine J3.out.mono ?_
 rintro e w3 ⟨rfl, _, _, hM3⟩
 have X3 := Lib.hid (X2.out.trans hM3)
 clear hM3
 go_wp2
 go_ret
 exact ⟨y + B.wl, hyb, by first | rfl | simp, X3.out⟩
theorem vec_own {lo hi Q n cap : Nat} {w : World} {ys : List C3} (h : IsVs w (some ⟨Q, 0, none⟩) n cap ys) (hf : ∀ i, w.frozen? ⟨Q, i, none⟩ = false) (h1 : lo ≤ Q) (h2 : Q < hi) (h3 : Q < w.heap.size) : Own lo hi w Q 0 (n * 3) := by
 refine ⟨h1, h2, h3, fun j hj => ⟨?_, hf _⟩⟩
 obtain ⟨p, q, r, k0, k1, k2, _⟩ := h.2.2.2.2 _ rfl (j / 3) (by omega)
 rw [addr_add', Nat.zero_add] at k0 k1 k2
 rw [Nat.zero_add]
 rcases (show j % 3 = 0 ∨ j % 3 = 1 ∨ j % 3 = 2 by omega) with e | e | e
 ·rw [show j / 3 * 3 = j by omega] at k0; exact ⟨_, k0⟩
 ·rw [show j / 3 * 3 + 1 = j by omega] at k1; exact ⟨_, k1⟩
 ·rw [show j / 3 * 3 + 2 = j by omega] at k2; exact ⟨_, k2⟩
end Go.Proofs.YtabccmobmppdnaaGreat
namespace Go.Proofs.YtabccmobmppdnaaGreat
open Go Fk Go.RowKit
set_option linter.unusedVariables false
set_option maxRecDepth 8000
end Go.Proofs.YtabccmobmppdnaaGreat
namespace Go.Proofs.YtabccmobmppdnaaGreat
open Go Fk Go.RowKit
set_option linter.unusedVariables false
set_option maxRecDepth 16000
theorem body_ss {c : Bc} (h : bodyB c = true) : c.ss.length ≤ 200 ∧ ∀ k, k < c.ss.length → inB c.cs.length (c.ss.getD k s0).1 = true ∧ inB c.cs.length (c.ss.getD k s0).2.1 = true := by
 unfold bodyB at h
 simp only [Bool.and_eq_true, decide_eq_true_eq] at h
 obtain ⟨⟨⟨_, h1⟩, _⟩, h2⟩ := h
 refine ⟨h1, fun k hk => ?_⟩
 have h3 := List.all_eq_true.1 h2 (c.ss[k]) (List.getElem_mem hk)
 unfold springB at h3
 simp only [Bool.and_eq_true] at h3
 have e : c.ss.getD k s0 = c.ss[k] := by simp [List.getD, hk]
 rw [e]
 exact ⟨h3.1.1.1, h3.1.1.2⟩
end Go.Proofs.YtabccmobmppdnaaGreat
namespace Go.Proofs.YtabccmobmppdnaaGreat
open Go Fk Go.RowKit
set_option linter.unusedVariables false
set_option maxRecDepth 16000
def ensW (zs : List Nat) (f : C3) (k : Nat) : List En := (List.range k).map fun i : Nat => .we (i : Int) (cls .f32 (zs.getD i 0)) f
def ens (c : Bc) : List En := ((c.ss.map En.sp ++ c.ts.map (fun t => En.fi t c.film)) ++ (hgT c.cs c.ts).map (fun h => En.hi h c.bend)) ++ ensW c.zs c.fall c.zs.length
def EnL (base : Nat) (w : World) (v : Value) (es : List En) : Prop := ∃ vals : List Value, w.ownsRow base 220 1 v es.length vals ∧ ∀ j, j < es.length → ∃ u, vals[j]? = some u ∧ (es.getD j (.sp s0)).Is u
theorem EnL.up {base : Nat} {w w' : World} {v : Value} {es : List En} (h : EnL base w v es) (hB : Below w.heap.size w w') : EnL base w' v es := by
 obtain ⟨vals, h1, h2⟩ := h
 exact ⟨vals, owns_up h1 hB, h2⟩
theorem EnL.low {base base' : Nat} {w : World} {v : Value} {es : List En} (h : EnL base w v es) (hb : base' ≤ base) : EnL base' w v es := by
 obtain ⟨vals, h1, h2⟩ := h
 exact ⟨vals, owns_low h1 hb, h2⟩
theorem EnL.snoc {base : Nat} {w w' : World} {v v' u : Value} {es : List En} {e : En} {vals : List Value} (h1 : w.ownsRow base 220 1 v es.length vals) (h2 : ∀ j, j < es.length → ∃ u, vals[j]? = some u ∧ (es.getD j (.sp s0)).Is u) (hu : e.Is u) (hv : w'.ownsRow base 220 1 v' (es.length + 1) (vals ++ [u])) : EnL base w' v' (es ++ [e]) := by
 have hl : vals.length = es.length := by rw [h1.1, Nat.mul_one]
 refine ⟨vals ++ [u], by rw [List.length_append, List.length_singleton]; exact hv, fun j hj => ?_⟩
 rw [List.length_append, List.length_singleton] at hj
 by_cases h : j < es.length
 ·obtain ⟨x, e1, e2⟩ := h2 j h
  refine ⟨x, by rw [List.getElem?_append_left (by omega)]; exact e1, ?_⟩
  rw [List.getD, List.getElem?_append_left h]
  exact e2
 ·obtain rfl : j = es.length := by omega
  refine ⟨u, by rw [← hl]; simp, ?_⟩
  simp [List.getD, hu]
theorem take_map {α : Type} {d : α} (f : α → En) (l : List α) {k : Nat} (hk : k < l.length) : (l.take (k + 1)).map f = (l.take k).map f ++ [f (l.getD k d)] := by
 rw [List.take_add_one, List.getElem?_eq_getElem hk, List.map_append]
 simp [List.getD, hk]
theorem ensW_s (zs : List Nat) (f : C3) (k : Nat) : ensW zs f (k + 1) = ensW zs f k ++ [.we (k : Int) (cls .f32 (zs.getD k 0)) f] := by
 unfold ensW
 rw [List.range_succ, List.map_append]
 rfl
theorem flatH_get : ∀ (rs : List (List Int)) (k i : Nat), k < rs.length → i < 4 → (flatH rs)[k * 4 + i]? = some (.int .i64 ((rs.getD k []).getD i 0))
 | [], k, i, h, _ => by simp at h
 | r :: rs, 0, i, _, hi => by
  have e : flatH (r :: rs) = [.int .i64 (r.getD 0 0), .int .i64 (r.getD 1 0), .int .i64 (r.getD 2 0), .int .i64 (r.getD 3 0)] ++ flatH rs := by simp [flatH]
  rw [e, Nat.zero_mul, Nat.zero_add, List.getElem?_append_left (by simp; omega)]
  match i, hi with
  | 0, _ => rfl
  | 1, _ => rfl
  | 2, _ => rfl
  | 3, _ => rfl
 | r :: rs, k + 1, i, h, hi => by
  have e : flatH (r :: rs) = [.int .i64 (r.getD 0 0), .int .i64 (r.getD 1 0), .int .i64 (r.getD 2 0), .int .i64 (r.getD 3 0)] ++ flatH rs := by simp [flatH]
  rw [e, List.getElem?_append_right (by simp; omega)]
  have := flatH_get rs k i (by simpa using h) hi
  rw [show (k + 1) * 4 + i - [Value.int .i64 (r.getD 0 0), .int .i64 (r.getD 1 0), .int .i64 (r.getD 2 0), .int .i64 (r.getD 3 0)].length = k * 4 + i by simp; omega]
  simpa using this
theorem fs_at {w : World} {a : Option Addr} {n cap k : Nat} {zs : List Nat} (h : IsFs .f32 w a n cap zs) (hk : k < n) : ∃ b o, a = some ⟨b, o, none⟩ ∧ w.cell? ⟨b, o + k, none⟩ = some (.float .f32 (zs.getD k 0)) := by
 obtain ⟨h1, h2, h3, h4, h5, h6⟩ := h
 cases ha : a with
 | none => have := (h5 ha).1; omega
 | some x =>
  obtain ⟨b, o, s⟩ := x
  have hc := h6 _ ha k hk
  cases s with
  | none => exact ⟨b, o, rfl, by rw [addr_add'] at hc; exact hc⟩
  | some y =>
   have h0 := h6 _ ha 0 (by omega)
   simp [World.cell?, Addr.add] at h0
   split at h0 <;> cases h0
theorem infoEn : (Tryz.prog.info? 220).map (fun i => (i.zero, i.size, i.bytes)) = some (some .nilIface, 1, 16) := by kernel_rfl
theorem hgT_len {c : Bc} (hv : validB c.cs c.ts = true) : (hgT c.cs c.ts).length ≤ 4096 := by
 unfold hgT
 rw [hv, cond_true]
 have h := edT_len c.cs c.ts
 unfold edT at h
 rw [hv] at h
 simp only [cond_true] at h
 rw [edgesT_pairs, List.length_map] at h
 exact Nat.le_trans (hgK_len _ _ _) h
theorem body_valid {c : Bc} (h : bodyB c = true) : validB c.cs c.ts = true ∧ c.zs.length = c.cs.length := by
 unfold bodyB at h
 simp only [Bool.and_eq_true, decide_eq_true_eq] at h
 obtain ⟨⟨⟨h0, h1⟩, h3⟩, h2⟩ := h
 exact ⟨h0, h3⟩
set_option maxHeartbeats 8000000 in
theorem impl_energies (B : Bd) (c : Bc) (w : World) (h : IsB w B c) (hb : bodyB c = true) :
  Calls Tryz.prog 105 #[B.v] w fun e w' => ∃ v, e = .returned v ∧ EnL w.heap.size w' v (ens c) ∧ Below w.heap.size w w' := by
 have uib := Tryz.underlying44
 have um := Tryz.underlying40
 have us := Tryz.underlying166
 have uc := Tryz.underlying190
 have uh := Tryz.underlying196
 have uv := Tryz.underlying42
 have u1 := Tryz.underlying192
 have u2 := Tryz.underlying198
 have u3 := Tryz.underlying200
 obtain ⟨i0, hi, hz0, hz1, hz2⟩ := info_parts infoEn
 obtain ⟨hvb, hzl⟩ := body_valid hb
 obtain ⟨v1, v2⟩ := body_ss hb
 have hh4 := hgT_len hvb
 have BX : Hid (Bx w [(w.heap.size, B.l)] (w.alloc (BoxB B 44))) := Lib.hid ((Bx.nil w).box (vs := B.l) (t := 44))
 have H3 : Hid (∀ k, k < B.tl → (c.ts.getD k []).length = 3) := Lib.hid (fun k hk => (tri_partsh (valid_rowh hvb (show k < c.ts.length by have := h.2.1.1; omega))).1)
 have HL : Hid (B.tl ≤ 128) := Lib.hid (by have := h.2.1.1; have := (valid_pl hvb).2; omega)
 have HHG := Lib.hid (fun (w : World) (hp : IsVs w B.pa B.pl B.pc c.cs) (ht : IsTs w B.ta B.tl B.tc c.ts) => impl_hinges B.pa B.ta B.pl B.pc B.tl B.tc c.cs c.ts w hp ht hvb)
 have HSL := Lib.hid h.2.2.1.1
 have HTL := Lib.hid h.2.1.1
 have HZL := Lib.hid h.2.2.2.1.1
 have HWL : Hid (B.wl ≤ 64) := Lib.hid (by have := h.2.2.2.1.1; have := (valid_pl hvb).1; omega)
 have HS2 : Hid (B.sl ≤ 200) := Lib.hid (by have := h.2.2.1.1; omega)
 have H := Lib.hid h
 unfold ens
 obtain ⟨hs, hhs⟩ : ∃ hs, hgT c.cs c.ts = hs := ⟨_, rfl⟩
 rw [hhs] at HHG hh4 ⊢
 have HH4 := Lib.hid hh4
 clear hvb hzl v1 v2 hh4 hhs h hb
 go_enter Tryz.func105, Tryz.ntmps105
 have a1 := (BX.out.mem (.head _)) 2 _ rfl
 go_wp2
 change Code.wp _ _ _ _ (w.alloc (BoxB B 44))
 generalize (w.alloc (BoxB B 44)) = W at *
 clear a1
 go_loopw [3, 15] (fun v i w' => ∃ k : Nat, k ≤ B.sl ∧ i = .int .i64 k ∧ Aside (EnL W.heap.size w' v ((c.ss.take k).map En.sp) ∧ Below W.heap.size W w')) (fun _ i _ => B.sl - (intOf i).toNat)
 case atStart => exact ⟨0, Nat.zero_le _, rfl, ⟨[], World.ownsRow_nil _ _ _ _, fun j hj => absurd hj (by simp)⟩, Below.refl _ _⟩
 case round =>
  obtain ⟨k, hk, rfl, hA⟩ := hrel
  obtain ⟨hE, hB⟩ := hA.out
  have HB := Lib.hid hB
  have HE := Lib.hid hE
  have BX2 := Lib.hid (BX.out.call hB)
  have hsz := hB.size
  by_cases hlt : k < B.sl
  ·have hk0 : (0 : Int) ≤ (k : Int) := by omega
   have hk1 : (k : Int) < (B.sl : Int) := by omega
   obtain ⟨bs, os, hbs, hsp⟩ := (H.out.below BX2.out.bel).2.2.1.some (by omega)
   obtain ⟨x, y, e0, e1, e2, e3, fx, fy⟩ := hsp k hlt
   have a1 := (BX2.out.mem (.head _)) 2 _ rfl
   rw [hbs]
   have lt0 := World.block_lt_of_cell? _ _ e0
   have HFX := Lib.hid (And.intro fx fy)
   have HST : Hid ((c.ss.take (k + 1)).map En.sp = ((c.ss.take k).map En.sp) ++ [En.sp (c.ss.getD k s0)]) := Lib.hid (by exact take_map En.sp c.ss (by have := HSL.out; omega))
   have HL0 : Hid (((c.ss.take k).map En.sp).length ≤ 8192) := Lib.hid (by simp [ensW]; have := HS2.out; have := HSL.out; have := HTL.out; have := HL.out; have := HH4.out; have := HWL.out; omega)
   obtain ⟨vals, hown, hvals⟩ := HE.out
   have HOW := Lib.hid hown
   have HVA := Lib.hid hvals
   generalize ((c.ss.take k).map En.sp) = es at *
   have HSK : Hid ((c.ss.getD k s0) = ((c.ss.getD k s0).1, (c.ss.getD k s0).2.1, (c.ss.getD k s0).2.2.1, (c.ss.getD k s0).2.2.2)) := rfl
   clear hA hE hB hown hvals hsp fx fy
   generalize c.ss.getD k s0 = sk at *
   obtain ⟨sa1, sb1, sc1, sd1⟩ := sk
   simp only at e0 e1 e2 e3
   go_wp2_with (at_builtin; refine wpList_append_own _ rfl _ _ 105 rfl W.heap.size 220 i0 .nilIface 1 16 Tryz.underlying105 hi hz0 hz1 hz2 rfl (by decide) _ _ _ rfl ((HOW.out.alloc _).alloc _) ⟨wr.heap.size + 1, 0, none⟩ 1 1 [Value.iface 166 (.agg #[.int .i64 sa1, .int .i64 sb1, .float .f32 x, .float .f32 y])] ?a0 rfl ?a1 ?a2 ?a3 ?a4 ?a5 ?_)
   try (case a0 => first | rfl | (simp [Act.eval]))
   try (case a1 =>
    intro j u hj
    match j, hj with
    | 0, hj => simp at hj; subst hj; first | (simp [Addr.add]; done) | exact E0.out
    | j + 1, hj => simp at hj)
   case a2 => first | rfl | (intro u hu; simp at hu; subst hu; rfl)
   case a3 => have := HL0.out; unfold maxLen; omega
   case a4 => have := HL0.out; omega
   case a5 => first | omega | (simp; omega)
   ·intro v' w1 hown' hgrow _
    have hAL : Below wr.heap.size wr ((wr.alloc (.cells #[.int .i64 sa1, .int .i64 sb1, .float .f32 x, .float .f32 y] 166)).alloc (.cells #[Value.iface 166 (.agg #[.int .i64 sa1, .int .i64 sb1, .float .f32 x, .float .f32 y])] 220)) := ((Below.refl _ _).alloc (Nat.le_refl _) _).alloc (by simp) _
    have hB1 := HB.out.trans (hAL.mono HB.out.size)
    have HB1 := Lib.hid (hB1.grown hgrow hB1.size (fun q hq => (HOW.out.lt q hq).1))
    have HE1 := Lib.hid (EnL.snoc (owns_up HOW.out hAL) HVA.out (e := .sp (sa1, sb1, sc1, sd1)) (⟨x, y, rfl, HFX.out.1, HFX.out.2⟩) hown')
    clear hown' hgrow hAL hB1
    have hs2 := HS2.out
    have hl128 := HL.out
    have hh4 := HH4.out
    have hwl := HWL.out
    go_wp2
    go_roundw
    case rel => exact ⟨k + 1, by omega, by go_num, by rw [HST.out]; exact HE1.out, HB1.out⟩
    case measure => simp [intOf]; omega
  ·obtain rfl : k = B.sl := by omega
   have HE0 : Hid (EnL W.heap.size wr _ (c.ss.map En.sp)) := Lib.hid (by have := hE; rwa [List.take_of_length_le (by have := HSL.out; omega)] at this)
   have a0 := (BX2.out.mem (.head _)) 0 _ rfl
   have a1 := (BX2.out.mem (.head _)) 1 _ rfl
   clear hA hE hB HE
   go_wp2_with fail
   clear a0 a1
   refine (all_cornersO B.pa B.ta B.pl B.pc B.tl B.tc c.ts wr (H.out.below BX2.out.bel).2.1 H3.out HL.out).mono ?_
   rintro e w3 ⟨rfl, hC, hB3, hcV, _, hCB⟩
   generalize hcb : wr.heap.size + 1 = cb at *
   have HCO := Lib.hid (owns_of_cs hCB hC (Nat.le_refl cb) (by have := HL.out; unfold maxLen; omega))
   have HE3 := Lib.hid (HE0.out.up hB3)
   have HB3 := Lib.hid (HB.out.trans (hB3.mono HB.out.size))
   clear hC hCB hB3 hcV hcb HE0
   go_wp2
   go_loopw [3, 29] (fun v i w' => ∃ k : Nat, k ≤ B.tl ∧ i = .int .i64 k ∧ Aside (EnL W.heap.size w' v (c.ss.map En.sp ++ (c.ts.take k).map (fun t => En.fi t c.film)) ∧ Below W.heap.size W w' ∧ w'.ownsRow cb 190 3 (.slice (some ⟨cb, 0, none⟩) B.tl B.tl) B.tl (flatV c.ts B.tl))) (fun _ i _ => B.tl - (intOf i).toNat)
   case atStart => exact ⟨0, Nat.zero_le _, rfl, by simpa using HE3.out, HB3.out, HCO.out⟩
   case round =>
    obtain ⟨k, hk, rfl, hA⟩ := hrel
    obtain ⟨hE, hB, hX⟩ := hA.out
    have HB := Lib.hid hB
    have HE := Lib.hid hE
    have BX2 := Lib.hid (BX.out.call hB)
    have hsz := hB.size
    have HX := Lib.hid hX
    by_cases hlt : k < B.tl
    ·have hk0 : (0 : Int) ≤ (k : Int) := by omega
     have hk1 : (k : Int) < (B.tl : Int) := by omega
     obtain ⟨z0, z1, z2⟩ := cs_of_owns hX k hlt
     have lt0 := World.block_lt_of_cell? _ _ z0
     have a3 := (BX2.out.mem (.head _)) 3 _ rfl
     have lt1 := World.block_lt_of_cell? _ _ a3
     have HST : Hid (c.ss.map En.sp ++ (c.ts.take (k + 1)).map (fun t => En.fi t c.film) = (c.ss.map En.sp ++ (c.ts.take k).map (fun t => En.fi t c.film)) ++ [En.fi (c.ts.getD k []) c.film]) := Lib.hid (by rw [take_map (fun t => En.fi t c.film) c.ts (d := []) (by have := HTL.out; omega), ← List.append_assoc])
     have HL0 : Hid ((c.ss.map En.sp ++ (c.ts.take k).map (fun t => En.fi t c.film)).length ≤ 8192) := Lib.hid (by simp [ensW]; have := HS2.out; have := HSL.out; have := HTL.out; have := HL.out; have := HH4.out; have := HWL.out; omega)
     obtain ⟨vals, hown, hvals⟩ := HE.out
     have HOW := Lib.hid hown
     have HVA := Lib.hid hvals
     generalize (c.ss.map En.sp ++ (c.ts.take k).map (fun t => En.fi t c.film)) = es at *
     clear hA hE hB hown hvals hX
     obtain ⟨j0, hj0⟩ : ∃ j0, (c.ts.getD k []).getD 0 0 = j0 := ⟨_, rfl⟩
     obtain ⟨j1, hj1⟩ : ∃ j1, (c.ts.getD k []).getD 1 0 = j1 := ⟨_, rfl⟩
     obtain ⟨j2, hj2⟩ : ∃ j2, (c.ts.getD k []).getD 2 0 = j2 := ⟨_, rfl⟩
     rw [hj0] at z0
     rw [hj1] at z1
     rw [hj2] at z2
     have HJ := Lib.hid (And.intro hj0 (And.intro hj1 hj2))
     clear hj0 hj1 hj2
     go_wp2_with (at_builtin; refine wpList_append_own _ rfl _ _ 105 rfl W.heap.size 220 i0 .nilIface 1 16 Tryz.underlying105 hi hz0 hz1 hz2 rfl (by decide) _ _ _ rfl ((HOW.out.alloc _).alloc _) ⟨wr.heap.size + 1, 0, none⟩ 1 1 [Value.iface 192 (.agg #[.int .i64 j0, .int .i64 j1, .int .i64 j2, .float .f32 B.film])] ?b0 rfl ?b1 ?b2 ?b3 ?b4 ?b5 ?_)
     try (case b0 => first | rfl | (simp [Act.eval]))
     try (case b1 =>
      intro j u hj
      match j, hj with
      | 0, hj => simp at hj; subst hj; first | (simp [Addr.add]; done) | exact E0.out
      | j + 1, hj => simp at hj)
     case b2 => first | rfl | (intro u hu; simp at hu; subst hu; rfl)
     case b3 => have := HL0.out; unfold maxLen; omega
     case b4 => have := HL0.out; omega
     case b5 => first | omega | (simp; omega)
     ·intro v' w1 hown' hgrow _
      have hAL : Below wr.heap.size wr ((wr.alloc (.cells #[.int .i64 j0, .int .i64 j1, .int .i64 j2] 190)).alloc (.cells #[Value.iface 192 (.agg #[.int .i64 j0, .int .i64 j1, .int .i64 j2, .float .f32 B.film])] 220)) := ((Below.refl _ _).alloc (Nat.le_refl _) _).alloc (by simp) _
      have hB1 := HB.out.trans (hAL.mono HB.out.size)
      have HB1 := Lib.hid (hB1.grown hgrow hB1.size (fun q hq => (HOW.out.lt q hq).1))
      have HE1 := Lib.hid (EnL.snoc (owns_up HOW.out hAL) HVA.out (e := .fi (c.ts.getD k []) c.film) (⟨B.film, by rw [HJ.out.1, HJ.out.2.1, HJ.out.2.2], H.out.2.2.2.2.1⟩) hown')
      have HX1 := Lib.hid (owns_side (owns_up HX.out hAL) (owns_up HOW.out hAL) (by decide) hgrow)
      clear hown' hgrow hAL hB1
      have hs2 := HS2.out
      have hl128 := HL.out
      have hh4 := HH4.out
      have hwl := HWL.out
      go_wp2
      go_roundw
      case rel => exact ⟨k + 1, by omega, by go_num, by rw [HST.out]; exact HE1.out, HB1.out, HX1.out⟩
      case measure => simp [intOf]; omega
    ·obtain rfl : k = B.tl := by omega
     have HE4 : Hid (EnL W.heap.size wr _ (c.ss.map En.sp ++ c.ts.map (fun t => En.fi t c.film))) := Lib.hid (by have := hE; rwa [List.take_of_length_le (by have := HTL.out; omega)] at this)
     have a0 := (BX2.out.mem (.head _)) 0 _ rfl
     have a1 := (BX2.out.mem (.head _)) 1 _ rfl
     clear hA hE hB HE hX HX
     go_wp2_with fail
     clear a0 a1
     refine (HHG.out wr (H.out.below BX2.out.bel).1 (H.out.below BX2.out.bel).2.1).mono ?_
     rintro e w5 ⟨hv, rfl, hho, hB5⟩
     obtain ⟨ha, hc, rfl⟩ := owns_slice hho
     have HHO := Lib.hid hho
     have HE5 := Lib.hid (HE4.out.up hB5)
     have HB5 := Lib.hid (HB.out.trans (hB5.mono HB.out.size))
     generalize wr.heap.size = hb0 at *
     clear hho hB5 HE4
     go_wp2
     go_loopw [3, 46] (fun v i w' => ∃ k : Nat, k ≤ hs.length ∧ i = .int .i64 k ∧ Aside (EnL W.heap.size w' v ((c.ss.map En.sp ++ c.ts.map (fun t => En.fi t c.film)) ++ (hs.take k).map (fun h => En.hi h c.bend)) ∧ Below W.heap.size W w' ∧ w'.ownsRow hb0 196 4 (.slice ha hs.length hc) hs.length (flatH hs))) (fun _ i _ => hs.length - (intOf i).toNat)
     case atStart => exact ⟨0, Nat.zero_le _, rfl, by simpa using HE5.out, HB5.out, HHO.out⟩
     case round =>
      obtain ⟨k, hk, rfl, hA⟩ := hrel
      obtain ⟨hE, hB, hX⟩ := hA.out
      have HB := Lib.hid hB
      have HE := Lib.hid hE
      have BX2 := Lib.hid (BX.out.call hB)
      have hsz := hB.size
      have HX := Lib.hid hX
      by_cases hlt : k < hs.length
      ·have hk0 : (0 : Int) ≤ (k : Int) := by omega
       have hk1 : (k : Int) < (hs.length : Int) := by omega
       obtain ⟨hg, rfl⟩ : ∃ hg, ha = some ⟨hg, 0, none⟩ := by
        rcases hX.2 with ⟨_, h0⟩ | ⟨g2, cap, cur, e, _⟩
        ·omega
        ·simp at e
         exact ⟨g2, e.1⟩
       have z0 : wr.cell? ⟨hg, k * 4 + 0, none⟩ = some (.int .i64 ((hs.getD k []).getD 0 0)) := by rw [hX.cellAt _ (by omega), flatH_get hs k 0 hlt (by decide)]
       have z1 : wr.cell? ⟨hg, k * 4 + 1, none⟩ = some (.int .i64 ((hs.getD k []).getD 1 0)) := by rw [hX.cellAt _ (by omega), flatH_get hs k 1 hlt (by decide)]
       have z2 : wr.cell? ⟨hg, k * 4 + 2, none⟩ = some (.int .i64 ((hs.getD k []).getD 2 0)) := by rw [hX.cellAt _ (by omega), flatH_get hs k 2 hlt (by decide)]
       have z3 : wr.cell? ⟨hg, k * 4 + 3, none⟩ = some (.int .i64 ((hs.getD k []).getD 3 0)) := by rw [hX.cellAt _ (by omega), flatH_get hs k 3 hlt (by decide)]
       rw [Nat.add_zero] at z0
       have lt0 := World.block_lt_of_cell? _ _ z0
       have a4 := (BX2.out.mem (.head _)) 4 _ rfl
       have lt1 := World.block_lt_of_cell? _ _ a4
       have HST : Hid ((c.ss.map En.sp ++ c.ts.map (fun t => En.fi t c.film)) ++ (hs.take (k + 1)).map (fun h => En.hi h c.bend) = ((c.ss.map En.sp ++ c.ts.map (fun t => En.fi t c.film)) ++ (hs.take k).map (fun h => En.hi h c.bend)) ++ [En.hi (hs.getD k []) c.bend]) := Lib.hid (by rw [take_map (fun h => En.hi h c.bend) hs (d := []) hlt, ← List.append_assoc])
       have HL0 : Hid (((c.ss.map En.sp ++ c.ts.map (fun t => En.fi t c.film)) ++ (hs.take k).map (fun h => En.hi h c.bend)).length ≤ 8192) := Lib.hid (by simp [ensW]; have := HS2.out; have := HSL.out; have := HTL.out; have := HL.out; have := HH4.out; have := HWL.out; omega)
       obtain ⟨vals, hown, hvals⟩ := HE.out
       have HOW := Lib.hid hown
       have HVA := Lib.hid hvals
       generalize ((c.ss.map En.sp ++ c.ts.map (fun t => En.fi t c.film)) ++ (hs.take k).map (fun h => En.hi h c.bend)) = es at *
       clear hA hE hB hown hvals hX
       obtain ⟨h0, hh0⟩ : ∃ h0, (hs.getD k []).getD 0 0 = h0 := ⟨_, rfl⟩
       rw [hh0] at z0
       obtain ⟨h1, hh1⟩ : ∃ h1, (hs.getD k []).getD 1 0 = h1 := ⟨_, rfl⟩
       rw [hh1] at z1
       obtain ⟨h2, hh2⟩ : ∃ h2, (hs.getD k []).getD 2 0 = h2 := ⟨_, rfl⟩
       rw [hh2] at z2
       obtain ⟨h3, hh3⟩ : ∃ h3, (hs.getD k []).getD 3 0 = h3 := ⟨_, rfl⟩
       rw [hh3] at z3
       have HJ := Lib.hid (And.intro hh0 (And.intro hh1 (And.intro hh2 hh3)))
       clear hh0 hh1 hh2 hh3
       go_wp2_with (at_builtin; refine wpList_append_own _ rfl _ _ 105 rfl W.heap.size 220 i0 .nilIface 1 16 Tryz.underlying105 hi hz0 hz1 hz2 rfl (by decide) _ _ _ rfl ((HOW.out.alloc _).alloc _) ⟨wr.heap.size + 1, 0, none⟩ 1 1 [Value.iface 198 (.agg #[.int .i64 h0, .int .i64 h1, .int .i64 h2, .int .i64 h3, .float .f32 B.bend])] ?c0 rfl ?c1 ?c2 ?c3 ?c4 ?c5 ?_)
       try (case c0 => first | rfl | (simp [Act.eval]))
       try (case c1 =>
        intro j u hj
        match j, hj with
        | 0, hj => simp at hj; subst hj; first | (simp [Addr.add]; done) | exact E0.out
        | j + 1, hj => simp at hj)
       case c2 => first | rfl | (intro u hu; simp at hu; subst hu; rfl)
       case c3 => have := HL0.out; unfold maxLen; omega
       case c4 => have := HL0.out; omega
       case c5 => first | omega | (simp; omega)
       ·intro v' w1 hown' hgrow _
        have hAL : Below wr.heap.size wr ((wr.alloc (.cells #[.int .i64 h0, .int .i64 h1, .int .i64 h2, .int .i64 h3] 196)).alloc (.cells #[Value.iface 198 (.agg #[.int .i64 h0, .int .i64 h1, .int .i64 h2, .int .i64 h3, .float .f32 B.bend])] 220)) := ((Below.refl _ _).alloc (Nat.le_refl _) _).alloc (by simp) _
        have hB1 := HB.out.trans (hAL.mono HB.out.size)
        have HB1 := Lib.hid (hB1.grown hgrow hB1.size (fun q hq => (HOW.out.lt q hq).1))
        have HE1 := Lib.hid (EnL.snoc (owns_up HOW.out hAL) HVA.out (e := .hi (hs.getD k []) c.bend) (⟨B.bend, by rw [HJ.out.1, HJ.out.2.1, HJ.out.2.2.1, HJ.out.2.2.2], H.out.2.2.2.2.2.1⟩) hown')
        have HX1 := Lib.hid (owns_side (owns_up HX.out hAL) (owns_up HOW.out hAL) (by decide) hgrow)
        clear hown' hgrow hAL hB1
        have hs2 := HS2.out
        have hl128 := HL.out
        have hh4 := HH4.out
        have hwl := HWL.out
        go_wp2
        go_roundw
        case rel => exact ⟨k + 1, by omega, by go_num, by rw [HST.out]; exact HE1.out, HB1.out, HX1.out⟩
        case measure => simp [intOf]; omega
      ·obtain rfl : k = hs.length := by omega
       have HE6 : Hid (EnL W.heap.size wr _ ((c.ss.map En.sp ++ c.ts.map (fun t => En.fi t c.film)) ++ hs.map (fun h => En.hi h c.bend))) := Lib.hid (by have := hE; rwa [List.take_of_length_le (Nat.le_refl _)] at this)
       have a5 := (BX2.out.mem (.head _)) 5 _ rfl
       clear hA hE hB HE hX HX
       go_wp2
       clear a5
       go_loopw [3, 62] (fun v i w' => ∃ k : Nat, k ≤ B.wl ∧ i = .int .i64 k ∧ Aside (EnL W.heap.size w' v (((c.ss.map En.sp ++ c.ts.map (fun t => En.fi t c.film)) ++ hs.map (fun h => En.hi h c.bend)) ++ ensW c.zs c.fall k) ∧ Below W.heap.size W w')) (fun _ i _ => B.wl - (intOf i).toNat)
       case atStart => exact ⟨0, Nat.zero_le _, rfl, by simpa [ensW] using HE6.out, HB.out⟩
       case round =>
        obtain ⟨k, hk, rfl, hA⟩ := hrel
        obtain ⟨hE, hB⟩ := hA.out
        have HB := Lib.hid hB
        have HE := Lib.hid hE
        have BX2 := Lib.hid (BX.out.call hB)
        have hsz := hB.size
        by_cases hlt : k < B.wl
        ·have hk0 : (0 : Int) ≤ (k : Int) := by omega
         have hk1 : (k : Int) < (B.wl : Int) := by omega
         have hwz : c.zs.getD k 0 < 2 ^ FloatKind.f32.format.width := by
          have hkz : k < c.zs.length := by have := HZL.out; omega
          have e : c.zs.getD k 0 = c.zs[k] := by simp [List.getD, hkz]
          rw [e]
          exact H.out.2.2.2.1.2.2.2.1 _ (List.getElem_mem hkz)
         obtain ⟨wb, wo, hwb, hwc⟩ : ∃ b o, B.wa = some ⟨b, o, none⟩ ∧ wr.cell? ⟨b, o + k, none⟩ = some (.float .f32 (c.zs.getD k 0)) := fs_at (H.out.below BX2.out.bel).2.2.2.1 hlt
         rw [hwb]
         have a6 := (BX2.out.mem (.head _)) 6 _ rfl
         have a7 := (BX2.out.mem (.head _)) 7 _ rfl
         have a8 := (BX2.out.mem (.head _)) 8 _ rfl
         have HWZ := Lib.hid hwz
         have HST : Hid (((c.ss.map En.sp ++ c.ts.map (fun t => En.fi t c.film)) ++ hs.map (fun h => En.hi h c.bend)) ++ ensW c.zs c.fall (k + 1) = (((c.ss.map En.sp ++ c.ts.map (fun t => En.fi t c.film)) ++ hs.map (fun h => En.hi h c.bend)) ++ ensW c.zs c.fall k) ++ [En.we (k : Int) (cls .f32 (c.zs.getD k 0)) c.fall]) := Lib.hid (by rw [ensW_s, ← List.append_assoc])
         have HL0 : Hid ((((c.ss.map En.sp ++ c.ts.map (fun t => En.fi t c.film)) ++ hs.map (fun h => En.hi h c.bend)) ++ ensW c.zs c.fall k).length ≤ 8192) := Lib.hid (by simp [ensW]; have := HS2.out; have := HSL.out; have := HTL.out; have := HL.out; have := HH4.out; have := HWL.out; omega)
         obtain ⟨vals, hown, hvals⟩ := HE.out
         have HOW := Lib.hid hown
         have HVA := Lib.hid hvals
         generalize (((c.ss.map En.sp ++ c.ts.map (fun t => En.fi t c.film)) ++ hs.map (fun h => En.hi h c.bend)) ++ ensW c.zs c.fall k) = es at *
         clear hA hE hB hown hvals hwz
         generalize c.zs.getD k 0 = zk at *
         go_wp2_with (at_builtin; refine wpList_append_own _ rfl _ _ 105 rfl W.heap.size 220 i0 .nilIface 1 16 Tryz.underlying105 hi hz0 hz1 hz2 rfl (by decide) _ _ _ rfl (HOW.out.alloc _) ⟨wr.heap.size, 0, none⟩ 1 1 [Value.iface 200 (.agg #[.int .i64 (k : Int), .float .f32 zk, .float .f32 B.x, .float .f32 B.y, .float .f32 B.z])] ?d0 rfl ?d1 ?d2 ?d3 ?d4 ?d5 ?_)
         try (case d0 => first | rfl | (simp [Act.eval]))
         try (case d1 =>
          intro j u hj
          match j, hj with
          | 0, hj => simp at hj; subst hj; first | (simp [Addr.add]; done) | exact E0.out
          | j + 1, hj => simp at hj)
         case d2 => first | rfl | (intro u hu; simp at hu; subst hu; rfl)
         case d3 => have := HL0.out; unfold maxLen; omega
         case d4 => have := HL0.out; omega
         case d5 => first | omega | (simp; omega)
         ·intro v' w1 hown' hgrow _
          have hAL : Below wr.heap.size wr (wr.alloc (.cells #[Value.iface 200 (.agg #[.int .i64 (k : Int), .float .f32 zk, .float .f32 B.x, .float .f32 B.y, .float .f32 B.z])] 220)) := (Below.refl _ _).alloc (Nat.le_refl _) _
          have hB1 := HB.out.trans (hAL.mono HB.out.size)
          have HB1 := Lib.hid (hB1.grown hgrow hB1.size (fun q hq => (HOW.out.lt q hq).1))
          have HE1 := Lib.hid (EnL.snoc (owns_up HOW.out hAL) HVA.out (e := .we (k : Int) (cls .f32 zk) c.fall) (⟨zk, B.x, B.y, B.z, rfl, FV.self HWZ.out, H.out.2.2.2.2.2.2⟩) hown')
          clear hown' hgrow hAL hB1
          have hs2 := HS2.out
          have hl128 := HL.out
          have hh4 := HH4.out
          have hwl := HWL.out
          go_wp2
          go_roundw
          case rel => exact ⟨k + 1, by omega, by go_num, by rw [HST.out]; exact HE1.out, HB1.out⟩
          case measure => simp [intOf]; omega
        ·obtain rfl : k = B.wl := by omega
         have hf := hE
         rw [← HZL.out] at hf
         have HF := Lib.hid (hf.low BX.out.bel.size)
         have HBF := Lib.hid BX2.out.bel
         clear hA hE hB HE hf
         go_wp2
         go_ret
         exact ⟨_, rfl, HF.out, HBF.out⟩
end Go.Proofs.YtabccmobmppdnaaGreat
namespace Go.Proofs.YtabccmobmppdnaaGreat
open Go Fk Go.RowKit
set_option linter.unusedVariables false
set_option maxRecDepth 16000
def EnS (w : World) (a : Option Addr) (es : List En) : Prop := ∀ j, j < es.length → ∃ g u, a = some ⟨g, 0, none⟩ ∧ w.cell? ⟨g, j, none⟩ = some u ∧ (es.getD j (.sp s0)).Is u
theorem EnS.below {w w' : World} {a : Option Addr} {es : List En} (h : EnS w a es) (hB : Below w.heap.size w w') : EnS w' a es := fun j hj => by
 obtain ⟨g, u, e, h1, h2⟩ := h j hj
 exact ⟨g, u, e, cell_below hB h1, h2⟩
end Go.Proofs.YtabccmobmppdnaaGreat
namespace Go.Proofs.YtabccmobmppdnaaGreat
namespace Reg5
open Go Reg
theorem Obl.fin {P : Program} {ops : Array Oper} {Q : Exit → Act → World → Prop} {m : Nat} {a0 : Act} {C D : World → Prop} {G G' : World → World → Prop} {R : Nat → Value → World → Prop} {T : Nat → Act → World → Prop} {i : Nat} {o : Oper} (hi : decide (i = m) = true) (hn : o.dst = none)
  (h : ∀ a w, C w → (∀ t, ((List.range ops.size).all fun j => slotOf ops j != some t || behind ops i j) = true → a.eval (.tmp t) = a0.eval (.tmp t)) →
   (∀ j, behind ops j i = true → Has ops R j a w) → ∀ K : Act → World → Prop, (∀ v w', T i a w' → K (a.put o.dst v) w') → o.wp P a w K Q) : Obl P ops m a0 C D G G' R T Q i o := by
 have hi' := of_decide_eq_true hi
 intro a w hC _ he hd
 refine h a w (hC (by omega)) he (fun j hj => hd j hj (.inl (by omega))) _ fun v w' h1 => ⟨v, rfl, fun e => absurd hn e, fun _ => h1, fun hm => ?_, fun _ e => absurd hn e, fun _ e => absurd hn e⟩
 omega
end Reg5
open Go Fk Go.RowKit
set_option linter.unusedVariables false
set_option maxRecDepth 16000
theorem ensW_get (zs : List Nat) (f : C3) (k j : Nat) (hj : j < k) : (ensW zs f k).getD j (.sp s0) = .we (j : Int) (cls .f32 (zs.getD j 0)) f := by
 unfold ensW
 simp [List.getD, hj]
theorem en_mem {es : List En} {j : Nat} (hj : j < es.length) : es.getD j (.sp s0) ∈ es := by
 rw [List.getD, List.getElem?_eq_getElem hj]
 exact List.getElem_mem _
theorem ens_ok {c : Bc} (hb : bodyB c = true) : (ens c).length ≤ 8192 ∧ ∀ j, j < (ens c).length → ((ens c).getD j (.sp s0)).ok c.cs.length := by
 obtain ⟨hvb, hzl⟩ := body_valid hb
 obtain ⟨v1, v2⟩ := body_ss hb
 obtain ⟨w1, w2⟩ := valid_pl hvb
 have hh := hgT_len hvb
 refine ⟨?_, fun j hj => ?_⟩
 ·unfold ens
  simp only [List.length_append, List.length_map, ensW, List.length_range]
  omega
 ·have hm := en_mem hj
  generalize (ens c).getD j (.sp s0) = e at *
  unfold ens at hm
  rcases List.mem_append.1 hm with hm | hm
  ·rcases List.mem_append.1 hm with hm | hm
   ·rcases List.mem_append.1 hm with hm | hm
    ·obtain ⟨s, hs, rfl⟩ := List.mem_map.1 hm
     obtain ⟨k, hk, rfl⟩ := List.mem_iff_getElem.1 hs
     have := v2 k hk
     have e : c.ss.getD k s0 = c.ss[k] := by simp [List.getD, hk]
     rw [e] at this
     exact this
    ·obtain ⟨t, ht, rfl⟩ := List.mem_map.1 hm
     obtain ⟨k, hk, rfl⟩ := List.mem_iff_getElem.1 ht
     have := valid_rowh hvb hk
     have e : c.ts.getD k [] = c.ts[k] := by simp [List.getD, hk]
     rw [e] at this
     exact this
   ·obtain ⟨h, hh, rfl⟩ := List.mem_map.1 hm
    unfold hgT at hh
    rw [hvb, cond_true] at hh
    obtain ⟨a, b, hab, hbn, rfl, h4⟩ := hgK_mem hh
    have hl := hrow_four h4
    have hin := hrow_in (n := c.cs.length) (fun i (hi : i < c.ts.length) => tri3_of (valid_rowh hvb hi)) hab hbn
    generalize hrow c.ts ((a : Int), (b : Int)) = r at *
    intro i hi
    have hm2 : r.getD i 0 ∈ r := by
     have hir : i < r.length := by omega
     rw [List.getD, List.getElem?_eq_getElem hir]
     exact List.getElem_mem _
    have := hin _ hm2
    unfold inB
    exact decide_eq_true ⟨this.1, this.2⟩
  ·unfold ensW at hm
   obtain ⟨k, hk, rfl⟩ := List.mem_map.1 hm
   have := List.mem_range.1 hk
   show inB c.cs.length (k : Int) = true
   unfold inB
   exact decide_eq_true ⟨by omega, by omega⟩
end Go.Proofs.YtabccmobmppdnaaGreat
namespace Go.Proofs.YtabccmobmppdnaaGreat
open Go Fk Go.RowKit
set_option linter.unusedVariables false
set_option maxRecDepth 16000
def addAt (X : List C3) (k : Nat) (c : C3) : List C3 := X.set k (plusC (X.getD k c0) c)
theorem addAt_len (X : List C3) (k : Nat) (c : C3) : (addAt X k c).length = X.length := by simp [addAt]
set_option maxHeartbeats 4000000 in
theorem add_force (w0 : World) (L : List (Nat × List Value)) (fb g k n x y z : Nat) (X : List C3) (c : C3) (w : World) (h : St w0 L g X w) (hm : (fb, [Value.slice (some ⟨g, 0, none⟩) n n]) ∈ L) (hn : X.length = n) (hk : k < n) (hx : n ≤ 1048576) (hf : F3 x y z c) :
  Calls Tryz.prog 170 #[.int .i64 (k : Int), vv x y z, .pointer (some ⟨fb, 0, none⟩)] w fun e w' => e = .returned (.tuple #[]) ∧ St w0 L g (addAt X k c) w' := by
 have u := Tryz.underlying27
 have uv := Tryz.underlying42
 have S1' : St w0 ((w.heap.size, [.float .f32 x, .float .f32 y, .float .f32 z]) :: L) g X (w.alloc (.cells #[.float .f32 x, .float .f32 y, .float .f32 z] 42)) := h.box
 have S1 := Lib.hid S1'
 have HM := Lib.hid (List.Mem.tail (w.heap.size, [Value.float .f32 x, .float .f32 y, .float .f32 z]) hm)
 have HKX : Hid (k < X.length) := Lib.hid (by omega)
 have HF := Lib.hid hf
 have hk0 : (0 : Int) ≤ (k : Int) := by omega
 have hk1 : (k : Int) < (n : Int) := by omega
 clear h hm S1' hf
 go_enter Tryz.func170, Tryz.ntmps170
 go_wp2_with fail
 generalize (w.alloc (.cells #[.float .f32 x, .float .f32 y, .float .f32 z] 42)) = W at *
 generalize w.heap.size = b at *
 refine Reg3.wp_region_mix (C := St w0 ((b, [.float .f32 x, .float .f32 y, .float .f32 z]) :: L) g X) (G := fun _ _ => True) (R := fun i v w' => match i with | 0 => v = .slice (some ⟨g, 0, none⟩) n n | 1 => v = .int .i64 (k : Int) | 2 => v = .slice (some ⟨g, 0, none⟩) n n | 3 => v = .int .i64 (k : Int) | 4 => v = .pointer (some ⟨g, k * 3, none⟩) | 5 => ∃ p q r, v = vv p q r ∧ F3 p q r (X.getD k c0) | 6 => v = vv x y z | 7 => ∃ p q r, v = vv p q r ∧ F3 p q r (plusC (X.getD k c0) c) | 8 => v = .pointer (some ⟨g, k * 3, none⟩) | _ => True) (T := fun _ _ w' => St w0 ((b, [.float .f32 x, .float .f32 y, .float .f32 z]) :: L) g (addAt X k c) w') [false, false, false, false, false, true, true, true, true, true, true, true, true, true]
  (by kernel_rfl) (by kernel_rfl) (by kernel_rfl) (fun _ _ _ _ _ _ h => h) (S1.out.drewN 1) ?_ ?_
 ·refine ⟨Reg3.Obl.mk ?_, Reg3.Obl.mk ?_, Reg3.Obl.mk ?_, Reg3.Obl.mk ?_, Reg3.Obl.mk ?_, Reg3.Obl.mk ?_, Reg3.Obl.mk ?_, Reg3.Obl.mk ?_, Reg3.Obl.mk ?_, Reg3.Obl.mk ?_, trivial⟩
  ·rintro a w1 HC hx hd K hK
   replace HC := Lib.hid HC
   have y9 := (HC.out.mem HM.out) 0 _ rfl
   have t2 : a.tmps[2]?.getD undef = .pointer (some ⟨fb, 0, none⟩) := Reg.slot_val (hx 2 (by kernel_rfl))
   go_simp
   exact hK _ _ (fun _ => rfl) (fun h => by cases h) (fun _ => HC.out) trivial
  ·rintro a w1 HC hx hd K hK
   replace HC := Lib.hid HC
   have t0 : a.tmps[0]?.getD undef = .int .i64 (k : Int) := Reg.slot_val (hx 0 (by kernel_rfl))
   go_simp
   exact hK _ _ (fun _ => rfl) (fun h => by cases h) (fun _ => HC.out) trivial
  ·rintro a w1 HC hx hd K hK
   replace HC := Lib.hid HC
   have y9 := (HC.out.mem HM.out) 0 _ rfl
   have t2 : a.tmps[2]?.getD undef = .pointer (some ⟨fb, 0, none⟩) := Reg.slot_val (hx 2 (by kernel_rfl))
   go_simp
   exact hK _ _ (fun _ => rfl) (fun h => by cases h) (fun _ => HC.out) trivial
  ·rintro a w1 HC hx hd K hK
   replace HC := Lib.hid HC
   have t0 : a.tmps[0]?.getD undef = .int .i64 (k : Int) := Reg.slot_val (hx 0 (by kernel_rfl))
   go_simp
   exact hK _ _ (fun _ => rfl) (fun h => by cases h) (fun _ => HC.out) trivial
  ·rintro a w1 HC hx hd K hK
   replace HC := Lib.hid HC
   have t7 : a.tmps[7]?.getD undef = .slice (some ⟨g, 0, none⟩) n n := Reg.slot_val (hd 2 (by kernel_rfl) 7 rfl)
   have t8 : a.tmps[8]?.getD undef = .int .i64 (k : Int) := Reg.slot_val (hd 3 (by kernel_rfl) 8 rfl)
   go_simp
   exact hK _ _ (fun _ => rfl) (fun h => by cases h) (fun _ => HC.out) trivial
  ·rintro a w1 HC hx hd K hK
   replace HC := Lib.hid HC
   obtain ⟨u0, u1, u2, ⟨x0, x1, x2⟩, fu⟩ := HC.out.own.at HKX.out
   have t9 : a.tmps[9]?.getD undef = .pointer (some ⟨g, k * 3, none⟩) := Reg.slot_val (hd 4 (by kernel_rfl) 9 rfl)
   go_simp
   exact hK _ _ (fun _ => ⟨u0, u1, u2, rfl, fu⟩) (fun h => by cases h) (fun _ => HC.out) trivial
  ·rintro a w1 HC hx hd K hK
   replace HC := Lib.hid HC
   have y0 := (HC.out.mem (.head _)) 0 _ rfl
   have y1 := (HC.out.mem (.head _)) 1 _ rfl
   have y2 := (HC.out.mem (.head _)) 2 _ rfl
   have t4 : a.tmps[4]?.getD undef = .pointer (some ⟨b, 0, none⟩) := Reg.slot_val (hx 4 (by kernel_rfl))
   go_simp
   exact hK _ _ (fun _ => rfl) (fun h => by cases h) (fun _ => HC.out) trivial
  ·rintro a w1 HC hx hd K hK
   replace HC := Lib.hid HC
   obtain ⟨p10, q10, r10, g10, f10⟩ := hd 5 (by kernel_rfl) 10 rfl
   have t10 := Reg.slot_val g10
   clear g10
   have t11 : a.tmps[11]?.getD undef = vv x y z := Reg.slot_val (hd 6 (by kernel_rfl) 11 rfl)
   go_simp
   refine (impl_AddVectors _ _ _ _ _ _ _ _ _ _ _ _ _ f10.1 f10.2.1 f10.2.2 HF.out.1 HF.out.2.1 HF.out.2.2).mono ?_
   rintro en w2 ⟨p', q', r', rfl, fp', fq', fr', hB2⟩
   exact hK _ _ (fun _ => ⟨p', q', r', rfl, fp', fq', fr'⟩) (fun h => by cases h) (fun _ => HC.out.call hB2) trivial
  ·rintro a w1 HC hx hd K hK
   replace HC := Lib.hid HC
   have t5 : a.tmps[5]?.getD undef = .slice (some ⟨g, 0, none⟩) n n := Reg.slot_val (hd 0 (by kernel_rfl) 5 rfl)
   have t6 : a.tmps[6]?.getD undef = .int .i64 (k : Int) := Reg.slot_val (hd 1 (by kernel_rfl) 6 rfl)
   go_simp
   exact hK _ _ (fun _ => rfl) (fun h => by cases h) (fun _ => HC.out) trivial
  ·rintro a w1 HC hx hd K hK
   replace HC := Lib.hid HC
   obtain ⟨u0, u1, u2, ⟨x0, x1, x2⟩, fu⟩ := HC.out.own.at HKX.out
   have k0 := HC.out.own.2.1 (k * 3)
   have k1 := HC.out.own.2.1 (k * 3 + 1)
   have k2 := HC.out.own.2.1 (k * 3 + 2)
   have t13 : a.tmps[13]?.getD undef = .pointer (some ⟨g, k * 3, none⟩) := Reg.slot_val (hd 8 (by kernel_rfl) 13 rfl)
   obtain ⟨p12, q12, r12, g12, f12⟩ := hd 7 (by kernel_rfl) 12 rfl
   have t12 := Reg.slot_val g12
   clear g12
   go_simp
   exact hK undef _ (fun h => absurd rfl h) (fun _ => HC.out.put HKX.out f12) (fun h => absurd rfl h) trivial
 ·rintro f W3 hR hT
  have h3 := hT 9 rfl (Nat.le_of_ble_eq_true rfl)
  simp only [Reg.mixL, Nat.zero_add, Nat.reduceAdd]
  have H3 := Lib.hid h3.drop
  clear hR hT h3
  go_wp2
  exact ⟨rfl, .tuple #[], by first | rfl | (simp [results, Tryz.results170, go_sem]; done) | (simp [results, Tryz.results170, go_sem]; rfl), rfl, H3.out⟩
end Go.Proofs.YtabccmobmppdnaaGreat
namespace Go.Proofs.YtabccmobmppdnaaGreat
open Go Fk Go.RowKit
set_option linter.unusedVariables false
set_option maxRecDepth 16000
set_option maxHeartbeats 4000000 in
theorem weight_forces (w0 : World) (L : List (Nat × List Value)) (fb g n : Nat) (X : List C3) (w : World) (h : St w0 L g X w) (hm : (fb, [Value.slice (some ⟨g, 0, none⟩) n n]) ∈ L) (hn : X.length = n) (hx9 : n ≤ 1048576) (k : Nat) (hk : k < n) (wc : Option Nat) (f : C3) (x ra rb rc : Nat) (pv : Value) (fx : FV .f32 x wc) (ff : F3 ra rb rc f) :
  Calls Tryz.prog 263 #[.agg #[.int .i64 (k : Int), .float .f32 x, .float .f32 ra, .float .f32 rb, .float .f32 rc], pv, .func (.func 170) #[] #[.pointer (some ⟨fb, 0, none⟩)]] w fun e w' => e = .returned (.tuple #[]) ∧ St w0 L g (addAt X k (scaleC f wc)) w' := by
 have u := Tryz.underlying27
 have uv := Tryz.underlying42
 have uw := Tryz.underlying200
 have S1' : St w0 ((w.heap.size, [.int .i64 (k : Int), .float .f32 x, .float .f32 ra, .float .f32 rb, .float .f32 rc]) :: L) g X (w.alloc (.cells #[.int .i64 (k : Int), .float .f32 x, .float .f32 ra, .float .f32 rb, .float .f32 rc] 200)) := h.box
 have S1 := Lib.hid S1'
 have HM := Lib.hid (List.Mem.tail (w.heap.size, ([.int .i64 (k : Int), .float .f32 x, .float .f32 ra, .float .f32 rb, .float .f32 rc] : List Value)) hm)
 have HX := Lib.hid hn
 have HKn := Lib.hid hk
 have FX := Lib.hid fx
 have FF := Lib.hid ff
 clear h hm S1' fx ff hn hk
 go_enter Tryz.func263, Tryz.ntmps263
 go_wp2_with fail
 generalize (w.alloc (.cells #[.int .i64 (k : Int), .float .f32 x, .float .f32 ra, .float .f32 rb, .float .f32 rc] 200)) = W at *
 generalize w.heap.size = b at *
 refine Reg5.wp_region_mix (m := 8) (C := St w0 ((b, [.int .i64 (k : Int), .float .f32 x, .float .f32 ra, .float .f32 rb, .float .f32 rc]) :: L) g X) (D := St w0 ((b, [.int .i64 (k : Int), .float .f32 x, .float .f32 ra, .float .f32 rb, .float .f32 rc]) :: L) g (addAt X k (scaleC f wc))) (G := fun w1 w2 => Below w1.heap.size w1 w2) (G' := fun w1 w2 => w2 = w1) (R := fun i' v w' => match i' with | 0 => v = .func (.func 170) #[] #[.pointer (some ⟨fb, 0, none⟩)] | 1 => v = .pointer (some ⟨b, 0, none⟩) | 2 => v = .int .i64 (k : Int) | 3 => v = .pointer (some ⟨b, 2, none⟩) | 4 => v = vv ra rb rc | 5 => v = .pointer (some ⟨b, 1, none⟩) | 6 => v = .float .f32 x | 7 => ∃ p q r, v = vv p q r ∧ F3 p q r (scaleC f wc) | _ => True) (T := fun _ _ _ => True) [false, false, false, false, false, false, true, true, true, true, true, true, true, true, true]
  (by kernel_rfl) (by kernel_rfl) (by kernel_rfl) (by kernel_rfl) (fun _ _ _ _ _ _ _ h => h) (fun _ _ _ _ _ _ _ h => h) (S1.out.drewN 1) ?_ ?_
 ·refine ⟨Reg5.Obl.early rfl rfl ?_, Reg5.Obl.early rfl rfl ?_, Reg5.Obl.early rfl rfl ?_, Reg5.Obl.early rfl rfl ?_, Reg5.Obl.early rfl rfl ?_, Reg5.Obl.early rfl rfl ?_, Reg5.Obl.early rfl rfl ?_, Reg5.Obl.early rfl rfl ?_, Reg5.Obl.mid rfl rfl ?_, trivial⟩
  ·rintro a w1 HC hx hd K hK
   replace HC := Lib.hid HC
   have t2 : a.tmps[2]?.getD undef = .func (.func 170) #[] #[.pointer (some ⟨fb, 0, none⟩)] := Reg.slot_val (hx 2 (by kernel_rfl))
   go_simp
   exact hK _ _ rfl HC.out (Below.refl _ _)
  ·rintro a w1 HC hx hd K hK
   replace HC := Lib.hid HC
   have t3 : a.tmps[3]?.getD undef = .pointer (some ⟨b, 0, none⟩) := Reg.slot_val (hx 3 (by kernel_rfl))
   go_simp
   exact hK _ _ rfl HC.out (Below.refl _ _)
  ·rintro a w1 HC hx hd K hK
   replace HC := Lib.hid HC
   have y0 := (HC.out.mem (.head _)) 0 _ rfl
   have t7 : a.tmps[7]?.getD undef = .pointer (some ⟨b, 0, none⟩) := Reg.slot_val (hd 1 (by kernel_rfl) 7 rfl)
   go_simp
   exact hK _ _ rfl HC.out (Below.refl _ _)
  ·rintro a w1 HC hx hd K hK
   replace HC := Lib.hid HC
   have t3 : a.tmps[3]?.getD undef = .pointer (some ⟨b, 0, none⟩) := Reg.slot_val (hx 3 (by kernel_rfl))
   go_simp
   exact hK _ _ rfl HC.out (Below.refl _ _)
  ·rintro a w1 HC hx hd K hK
   replace HC := Lib.hid HC
   have y2 := (HC.out.mem (.head _)) 2 _ rfl
   have y3 := (HC.out.mem (.head _)) 3 _ rfl
   have y4 := (HC.out.mem (.head _)) 4 _ rfl
   have t9 : a.tmps[9]?.getD undef = .pointer (some ⟨b, 2, none⟩) := Reg.slot_val (hd 3 (by kernel_rfl) 9 rfl)
   go_simp
   exact hK _ _ rfl HC.out (Below.refl _ _)
  ·rintro a w1 HC hx hd K hK
   replace HC := Lib.hid HC
   have t3 : a.tmps[3]?.getD undef = .pointer (some ⟨b, 0, none⟩) := Reg.slot_val (hx 3 (by kernel_rfl))
   go_simp
   exact hK _ _ rfl HC.out (Below.refl _ _)
  ·rintro a w1 HC hx hd K hK
   replace HC := Lib.hid HC
   have y1 := (HC.out.mem (.head _)) 1 _ rfl
   have t11 : a.tmps[11]?.getD undef = .pointer (some ⟨b, 1, none⟩) := Reg.slot_val (hd 5 (by kernel_rfl) 11 rfl)
   go_simp
   exact hK _ _ rfl HC.out (Below.refl _ _)
  ·rintro a w1 HC hx hd K hK
   replace HC := Lib.hid HC
   have t10 : a.tmps[10]?.getD undef = vv ra rb rc := Reg.slot_val (hd 4 (by kernel_rfl) 10 rfl)
   have t12 : a.tmps[12]?.getD undef = .float .f32 x := Reg.slot_val (hd 6 (by kernel_rfl) 12 rfl)
   go_simp
   refine (impl_ScaleVector _ _ _ _ _ _ _ _ _ FF.out.1 FF.out.2.1 FF.out.2.2 FX.out).mono ?_
   rintro en w2 ⟨p', q', r', rfl, fp', fq', fr', hB2⟩
   exact hK _ _ ⟨p', q', r', rfl, fp', fq', fr'⟩ (HC.out.call hB2) hB2
  ·rintro a w1 HC hx hd K hK
   replace HC := Lib.hid HC
   have t6 : a.tmps[6]?.getD undef = .func (.func 170) #[] #[.pointer (some ⟨fb, 0, none⟩)] := Reg.slot_val (hd 0 (by kernel_rfl) 6 rfl)
   have t8 : a.tmps[8]?.getD undef = .int .i64 (k : Int) := Reg.slot_val (hd 2 (by kernel_rfl) 8 rfl)
   obtain ⟨p13, q13, r13, g13, f13⟩ := hd 7 (by kernel_rfl) 13 rfl
   have t13 := Reg.slot_val g13
   clear g13
   go_simp
   refine (add_force w0 _ fb g k n _ _ _ X (scaleC f wc) w1 HC.out HM.out HX.out HKn.out hx9 f13).mono ?_
   rintro en w2 ⟨rfl, hS⟩
   exact hK _ _ trivial hS
 ·rintro f' W3 hD hT
  have hS := (hD (fun j hj => by revert j; decide)).1
  simp only [Reg.mixL, Nat.zero_add, Nat.reduceAdd]
  have H3 := Lib.hid hS.drop
  clear hD hT hS
  go_wp2
  refine ⟨rfl, .tuple #[], ?_, rfl, H3.out⟩
  first | rfl | (simp [results, Tryz.results263, go_sem]; done) | (simp [results, Tryz.results263, go_sem]; rfl)
set_option maxHeartbeats 8000000 in
theorem spring_forces (w0 : World) (L : List (Nat × List Value)) (fb g n : Nat) (X : List C3) (w : World) (h : St w0 L g X w) (hm : (fb, [Value.slice (some ⟨g, 0, none⟩) n n]) ∈ L) (hn : X.length = n) (hx9 : n ≤ 1048576) (i j : Nat) (hi : i < n) (hj : j < n) (lc sc : Option Nat) (x y : Nat) (pa : Option Addr) (pc : Nat) (cs : List C3) (hv : IsVs w0 pa n pc cs) (fx : FV .f32 x lc) (fy : FV .f32 y sc) :
  Calls Tryz.prog 248 #[sv (i : Int) (j : Int) x y, .slice pa n pc, .func (.func 170) #[] #[.pointer (some ⟨fb, 0, none⟩)]] w fun e w' => e = .returned (.tuple #[]) ∧ St w0 L g (addAt (addAt X i (scaleC (wayC cs (i : Int) (j : Int)) (perC (wayC cs (i : Int) (j : Int)) lc sc))) j (scaleC (wayC cs (i : Int) (j : Int)) (negC32 (perC (wayC cs (i : Int) (j : Int)) lc sc)))) w' := by
 have u := Tryz.underlying27
 have uv := Tryz.underlying42
 have us := Tryz.underlying166
 have S1' : St w0 ((w.heap.size, [.int .i64 (i : Int), .int .i64 (j : Int), .float .f32 x, .float .f32 y]) :: L) g X (w.alloc (.cells #[.int .i64 (i : Int), .int .i64 (j : Int), .float .f32 x, .float .f32 y] 166)) := h.box
 have S1 := Lib.hid S1'
 have HM1 := Lib.hid (List.Mem.tail (w.heap.size, ([.int .i64 (i : Int), .int .i64 (j : Int), .float .f32 x, .float .f32 y] : List Value)) hm)
 have HX := Lib.hid hn
 have HI := Lib.hid hi
 have HJ := Lib.hid hj
 have JW := Lib.hid (fun (w1 : World) (h1 : IsVs w1 pa n pc cs) => impl_way (i : Int) (j : Int) x y pa n pc cs w1 h1 (decide_eq_true ⟨by omega, by omega⟩) (decide_eq_true ⟨by omega, by omega⟩))
 have JP := Lib.hid (fun (p q r : Nat) (w1 : World) (hD : FV3 p q r (wayC cs (i : Int) (j : Int))) => impl_pullPer (i : Int) (j : Int) x y p q r lc sc (wayC cs (i : Int) (j : Int)) w1 fx fy hD)
 have HV := Lib.hid hv
 generalize wayC cs (i : Int) (j : Int) = D at *
 generalize perC D lc sc = PC at *
 clear h hm S1' fx fy hn hi hj hv
 go_enter Tryz.func248, Tryz.ntmps248
 have a0 := (S1.out.mem (.head _)) 0 _ rfl
 have a1 := (S1.out.mem (.head _)) 1 _ rfl
 have a2 := (S1.out.mem (.head _)) 2 _ rfl
 have a3 := (S1.out.mem (.head _)) 3 _ rfl
 go_wp2_with fail
 clear a0 a1 a2 a3
 generalize (w.alloc (.cells #[.int .i64 (i : Int), .int .i64 (j : Int), .float .f32 x, .float .f32 y] 166)) = W at *
 generalize w.heap.size = b at *
 refine (JW.out W (HV.out.below S1.out.bel)).mono ?_
 rintro e w1 ⟨dp, dq, dr, rfl, hD, hB1⟩
 have S2' : St w0 ((w1.heap.size, [.float .f32 dp, .float .f32 dq, .float .f32 dr]) :: (b, [.int .i64 (i : Int), .int .i64 (j : Int), .float .f32 x, .float .f32 y]) :: L) g X (w1.alloc (.cells #[.float .f32 dp, .float .f32 dq, .float .f32 dr] 42)) := (S1.out.call hB1).box
 have S2 := Lib.hid S2'
 have HM := Lib.hid (List.Mem.tail (w1.heap.size, [Value.float .f32 dp, .float .f32 dq, .float .f32 dr]) HM1.out)
 have HD := Lib.hid hD
 clear hB1 S2' hD
 have a0 := (S2.out.mem (.tail _ (.head _))) 0 _ rfl
 have a1 := (S2.out.mem (.tail _ (.head _))) 1 _ rfl
 have a2 := (S2.out.mem (.tail _ (.head _))) 2 _ rfl
 have a3 := (S2.out.mem (.tail _ (.head _))) 3 _ rfl
 have d0 := (S2.out.mem (.head _)) 0 _ rfl
 have d1 := (S2.out.mem (.head _)) 1 _ rfl
 have d2 := (S2.out.mem (.head _)) 2 _ rfl
 go_wp2_with fail
 clear a0 a1 a2 a3 d0 d1 d2
 generalize (w1.alloc (.cells #[.float .f32 dp, .float .f32 dq, .float .f32 dr] 42)) = W2 at *
 generalize w1.heap.size = V at *
 refine (JP.out dp dq dr W2 HD.out).mono ?_
 rintro e w3 ⟨gv, rfl, hG, hB3⟩
 have S3 := Lib.hid (S2.out.call hB3)
 have HG := Lib.hid hG
 have HKn := HI
 clear hB3 hG S2
 go_wp2_with fail
 refine Reg5.wp_region_mix (m := 6) (C := St w0 ((V, [.float .f32 dp, .float .f32 dq, .float .f32 dr]) :: (b, [.int .i64 (i : Int), .int .i64 (j : Int), .float .f32 x, .float .f32 y]) :: L) g X) (D := St w0 ((V, [.float .f32 dp, .float .f32 dq, .float .f32 dr]) :: (b, [.int .i64 (i : Int), .int .i64 (j : Int), .float .f32 x, .float .f32 y]) :: L) g (addAt X i (scaleC D PC))) (G := fun w1 w2 => Below w1.heap.size w1 w2) (G' := fun w1 w2 => w2 = w1) (R := fun i' v w' => match i' with | 0 => v = .func (.func 170) #[] #[.pointer (some ⟨fb, 0, none⟩)] | 1 => v = .pointer (some ⟨b, 0, none⟩) | 2 => v = .int .i64 (i : Int) | 3 => v = vv dp dq dr | 4 => v = .float .f32 gv | 5 => ∃ p q r, v = vv p q r ∧ F3 p q r (scaleC D PC) | _ => True) (T := fun _ _ _ => True) [false, false, false, false, false, false, false, false, false, false, false, false, false, false, true, true, true, true, true, true, true, false, false, false, false, false, false, false, false]
  (by kernel_rfl) (by kernel_rfl) (by kernel_rfl) (by kernel_rfl) (fun _ _ _ _ _ _ _ h => h) (fun _ _ _ _ _ _ _ h => h) (S3.out.drewN 1) ?_ ?_
 ·refine ⟨Reg5.Obl.early rfl rfl ?_, Reg5.Obl.early rfl rfl ?_, Reg5.Obl.early rfl rfl ?_, Reg5.Obl.early rfl rfl ?_, Reg5.Obl.early rfl rfl ?_, Reg5.Obl.early rfl rfl ?_, Reg5.Obl.mid rfl rfl ?_, trivial⟩
  ·rintro a w1 HC hx hd K hK
   replace HC := Lib.hid HC
   have t2 : a.tmps[2]?.getD undef = .func (.func 170) #[] #[.pointer (some ⟨fb, 0, none⟩)] := Reg.slot_val (hx 2 (by kernel_rfl))
   go_simp
   exact hK _ _ rfl HC.out (Below.refl _ _)
  ·rintro a w1 HC hx hd K hK
   replace HC := Lib.hid HC
   have t3 : a.tmps[3]?.getD undef = .pointer (some ⟨b, 0, none⟩) := Reg.slot_val (hx 3 (by kernel_rfl))
   go_simp
   exact hK _ _ rfl HC.out (Below.refl _ _)
  ·rintro a w1 HC hx hd K hK
   replace HC := Lib.hid HC
   have y0 := (HC.out.mem (.tail _ (.head _))) 0 _ rfl
   have t15 : a.tmps[15]?.getD undef = .pointer (some ⟨b, 0, none⟩) := Reg.slot_val (hd 1 (by kernel_rfl) 15 rfl)
   go_simp
   exact hK _ _ rfl HC.out (Below.refl _ _)
  ·rintro a w1 HC hx hd K hK
   replace HC := Lib.hid HC
   have x0 := (HC.out.mem (.head _)) 0 _ rfl
   have x1 := (HC.out.mem (.head _)) 1 _ rfl
   have x2 := (HC.out.mem (.head _)) 2 _ rfl
   have t6 : a.tmps[6]?.getD undef = .pointer (some ⟨V, 0, none⟩) := Reg.slot_val (hx 6 (by kernel_rfl))
   go_simp
   exact hK _ _ rfl HC.out (Below.refl _ _)
  ·rintro a w1 HC hx hd K hK
   replace HC := Lib.hid HC
   have t7 : a.tmps[7]?.getD undef = .float .f32 gv := Reg.slot_val (hx 7 (by kernel_rfl))
   go_simp
   exact hK _ _ rfl HC.out (Below.refl _ _)
  ·rintro a w1 HC hx hd K hK
   replace HC := Lib.hid HC
   have t17 : a.tmps[17]?.getD undef = vv dp dq dr := Reg.slot_val (hd 3 (by kernel_rfl) 17 rfl)
   have t18 : a.tmps[18]?.getD undef = .float .f32 gv := Reg.slot_val (hd 4 (by kernel_rfl) 18 rfl)
   go_simp
   refine (impl_ScaleVector _ _ _ _ _ _ _ _ _ HD.out.1 HD.out.2.1 HD.out.2.2 HG.out).mono ?_
   rintro en w2 ⟨p', q', r', rfl, fp', fq', fr', hB2⟩
   exact hK _ _ ⟨p', q', r', rfl, fp', fq', fr'⟩ (HC.out.call hB2) hB2
  ·rintro a w1 HC hx hd K hK
   replace HC := Lib.hid HC
   have t14 : a.tmps[14]?.getD undef = .func (.func 170) #[] #[.pointer (some ⟨fb, 0, none⟩)] := Reg.slot_val (hd 0 (by kernel_rfl) 14 rfl)
   have t16 : a.tmps[16]?.getD undef = .int .i64 (i : Int) := Reg.slot_val (hd 2 (by kernel_rfl) 16 rfl)
   obtain ⟨p19, q19, r19, g19, f19⟩ := hd 5 (by kernel_rfl) 19 rfl
   have t19 := Reg.slot_val g19
   clear g19
   go_simp
   refine (add_force w0 _ fb g i n _ _ _ X (scaleC D PC) w1 HC.out HM.out HX.out HKn.out hx9 f19).mono ?_
   rintro en w2 ⟨rfl, hS⟩
   exact hK _ _ trivial hS
 ·rintro f' W3 hD hT
  have hS := (hD (fun j hj => by revert j; decide)).1
  simp only [Reg.mixL, Nat.zero_add, Nat.reduceAdd]
  have S4 := Lib.hid hS
  have HX4 : Hid ((addAt X i (scaleC D PC)).length = n) := Lib.hid (by rw [addAt_len]; exact HX.out)
  have HKn := HJ
  clear hD hT hS S3
  generalize hX4 : addAt X i (scaleC D PC) = X4 at *
  have HX := HX4
  go_wp2_with fail
  refine Reg5.wp_region_mix (m := 7) (C := St w0 ((V, [.float .f32 dp, .float .f32 dq, .float .f32 dr]) :: (b, [.int .i64 (i : Int), .int .i64 (j : Int), .float .f32 x, .float .f32 y]) :: L) g X4) (D := St w0 ((V, [.float .f32 dp, .float .f32 dq, .float .f32 dr]) :: (b, [.int .i64 (i : Int), .int .i64 (j : Int), .float .f32 x, .float .f32 y]) :: L) g (addAt X4 j (scaleC D (negC32 PC)))) (G := fun w1 w2 => Below w1.heap.size w1 w2) (G' := fun w1 w2 => w2 = w1) (R := fun i' v w' => match i' with | 0 => v = .func (.func 170) #[] #[.pointer (some ⟨fb, 0, none⟩)] | 1 => v = .pointer (some ⟨b, 1, none⟩) | 2 => v = .int .i64 (j : Int) | 3 => v = vv dp dq dr | 4 => v = .float .f32 gv | 5 => ∃ r, v = .float .f32 r ∧ FV .f32 r (negC32 PC) | 6 => ∃ p q r, v = vv p q r ∧ F3 p q r (scaleC D (negC32 PC)) | _ => True) (T := fun _ _ _ => True) [false, false, false, false, false, false, false, false, false, false, false, false, false, false, false, false, false, false, false, false, false, true, true, true, true, true, true, true, true]
   (by kernel_rfl) (by kernel_rfl) (by kernel_rfl) (by kernel_rfl) (fun _ _ _ _ _ _ _ h => h) (fun _ _ _ _ _ _ _ h => h) (S4.out.drewN 1) ?_ ?_
  ·refine ⟨Reg5.Obl.early rfl rfl ?_, Reg5.Obl.early rfl rfl ?_, Reg5.Obl.early rfl rfl ?_, Reg5.Obl.early rfl rfl ?_, Reg5.Obl.early rfl rfl ?_, Reg5.Obl.early rfl rfl ?_, Reg5.Obl.early rfl rfl ?_, Reg5.Obl.mid rfl rfl ?_, trivial⟩
   ·rintro a w1 HC hx hd K hK
    replace HC := Lib.hid HC
    have t2 : a.tmps[2]?.getD undef = .func (.func 170) #[] #[.pointer (some ⟨fb, 0, none⟩)] := Reg.slot_val (hx 2 (by kernel_rfl))
    go_simp
    exact hK _ _ rfl HC.out (Below.refl _ _)
   ·rintro a w1 HC hx hd K hK
    replace HC := Lib.hid HC
    have t3 : a.tmps[3]?.getD undef = .pointer (some ⟨b, 0, none⟩) := Reg.slot_val (hx 3 (by kernel_rfl))
    go_simp
    exact hK _ _ rfl HC.out (Below.refl _ _)
   ·rintro a w1 HC hx hd K hK
    replace HC := Lib.hid HC
    have y1 := (HC.out.mem (.tail _ (.head _))) 1 _ rfl
    have t22 : a.tmps[22]?.getD undef = .pointer (some ⟨b, 1, none⟩) := Reg.slot_val (hd 1 (by kernel_rfl) 22 rfl)
    go_simp
    exact hK _ _ rfl HC.out (Below.refl _ _)
   ·rintro a w1 HC hx hd K hK
    replace HC := Lib.hid HC
    have x0 := (HC.out.mem (.head _)) 0 _ rfl
    have x1 := (HC.out.mem (.head _)) 1 _ rfl
    have x2 := (HC.out.mem (.head _)) 2 _ rfl
    have t6 : a.tmps[6]?.getD undef = .pointer (some ⟨V, 0, none⟩) := Reg.slot_val (hx 6 (by kernel_rfl))
    go_simp
    exact hK _ _ rfl HC.out (Below.refl _ _)
   ·rintro a w1 HC hx hd K hK
    replace HC := Lib.hid HC
    have t7 : a.tmps[7]?.getD undef = .float .f32 gv := Reg.slot_val (hx 7 (by kernel_rfl))
    go_simp
    exact hK _ _ rfl HC.out (Below.refl _ _)
   ·rintro a w1 HC hx hd K hK
    replace HC := Lib.hid HC
    have t25 : a.tmps[25]?.getD undef = .float .f32 gv := Reg.slot_val (hd 4 (by kernel_rfl) 25 rfl)
    go_simp
    exact hK _ _ ⟨_, rfl, FV_neg32 HG.out⟩ HC.out (Below.refl _ _)
   ·rintro a w1 HC hx hd K hK
    replace HC := Lib.hid HC
    have t24 : a.tmps[24]?.getD undef = vv dp dq dr := Reg.slot_val (hd 3 (by kernel_rfl) 24 rfl)
    obtain ⟨r26, g26, f26⟩ := hd 5 (by kernel_rfl) 26 rfl
    have t26 := Reg.slot_val g26
    clear g26
    go_simp
    refine (impl_ScaleVector _ _ _ _ _ _ _ _ _ HD.out.1 HD.out.2.1 HD.out.2.2 f26).mono ?_
    rintro en w2 ⟨p', q', r', rfl, fp', fq', fr', hB2⟩
    exact hK _ _ ⟨p', q', r', rfl, fp', fq', fr'⟩ (HC.out.call hB2) hB2
   ·rintro a w1 HC hx hd K hK
    replace HC := Lib.hid HC
    have t21 : a.tmps[21]?.getD undef = .func (.func 170) #[] #[.pointer (some ⟨fb, 0, none⟩)] := Reg.slot_val (hd 0 (by kernel_rfl) 21 rfl)
    have t23 : a.tmps[23]?.getD undef = .int .i64 (j : Int) := Reg.slot_val (hd 2 (by kernel_rfl) 23 rfl)
    obtain ⟨p27, q27, r27, g27, f27⟩ := hd 6 (by kernel_rfl) 27 rfl
    have t27 := Reg.slot_val g27
    clear g27
    go_simp
    refine (add_force w0 _ fb g j n _ _ _ X4 (scaleC D (negC32 PC)) w1 HC.out HM.out HX.out HKn.out hx9 f27).mono ?_
    rintro en w2 ⟨rfl, hS⟩
    exact hK _ _ trivial hS
  ·rintro f' W5 hD hT
   have hS := (hD (fun j hj => by revert j; decide)).1
   simp only [Reg.mixL, Nat.zero_add, Nat.reduceAdd]
   have H5 := Lib.hid hS.drop.drop
   clear hD hT hS
   go_wp2
   refine ⟨rfl, .tuple #[], ?_, rfl, by rw [hX4]; exact H5.out⟩
   first | rfl | (simp [results, Tryz.results248, go_sem]; done) | (simp [results, Tryz.results248, go_sem]; rfl)
end Go.Proofs.YtabccmobmppdnaaGreat

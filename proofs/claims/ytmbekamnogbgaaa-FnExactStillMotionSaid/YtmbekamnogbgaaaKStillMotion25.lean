/-
Texts in one: what StillMotion stands on, part 25. Conditions: those of each.
-/
import Derived.Test.YtmbekamnogbgaaaKStillMotion24

/-
A body of its own: what the model makes. Conditions: it lies in memory, within the limits.
-/
namespace Go.Proofs.Ytmbekamnogbgaaa
open Go Fk Go.RowKit
set_option linter.unusedVariables false
set_option maxRecDepth 8000

set_option maxHeartbeats 4000000 in
theorem l03Own (pb : Nat) (B : Bd) (c : Bc) (w : World) (A : At w pb B.l) (h : IsB w B c) (hpl : B.pl ≤ 1000) (htl : B.tl ≤ 1000) (h3 : ∀ k, k < B.tl → (c.ts.getD k []).length ≤ 1000) (hsl : B.sl ≤ 1000) (hwl : B.wl ≤ 1000) :
    Calls Try.prog 97 #[.pointer (some ⟨pb, 0, none⟩)] w fun e w' => ∃ B' : Bd, e = .returned B'.v ∧ IsB w' B' c ∧ LB w.heap.size w'.heap.size w' B' ∧ Below w.heap.size w w' := by
  have ui := Try.underlying36
  have uim := Try.underlying29
  obtain ⟨i0, hi, hz0, hz1, hz2⟩ := info_parts infoSp
  obtain ⟨j0, hj, hy0, hy1, hy2⟩ := info_parts info32
  have T0 : Hid (Tc w (w.heap.size + 1) w.heap.size B.l Z9' ((w.alloc (.cells #[.slice none 0 0, .slice none 0 0, .slice none 0 0, .float .f32 0, .float .f32 0, .slice none 0 0, .float .f32 0, .float .f32 0, .float .f32 0] 36)).alloc (BoxB B 36))) := Lib.hid
    ⟨by
      have := At.new (w := w.alloc (.cells #[.slice none 0 0, .slice none 0 0, .slice none 0 0, .float .f32 0, .float .f32 0, .slice none 0 0, .float .f32 0, .float .f32 0, .float .f32 0] 36)) (vs := B.l) (t := 36)
      simpa using this, At.new.alloc, fun i => by go_simp, fun i => by go_simp, ((Below.refl _ _).alloc (Nat.le_refl _) _).alloc (by simp) _, ⟨by omega, Nat.le_refl _, by omega⟩, by simp <;> omega⟩
  have H := Lib.hid h
  have HA := Lib.hid A
  have H3 := Lib.hid h3
  have hpl' := h.1.1
  have htl' := h.2.1.1
  have hsl' := h.2.2.1.1
  have hwl' := h.2.2.2.1.1
  have k0 := A 0 _ rfl
  have k1 := A 1 _ rfl
  have k2 := A 2 _ rfl
  have k3 := A 3 _ rfl
  have k4 := A 4 _ rfl
  have k5 := A 5 _ rfl
  have k6 := A 6 _ rfl
  have k7 := A 7 _ rfl
  have k8 := A 8 _ rfl
  have l0 := fun ob => cell_alloc (o := ob) k0
  have l1 := fun ob => cell_alloc (o := ob) k1
  have l2 := fun ob => cell_alloc (o := ob) k2
  have l3 := fun ob => cell_alloc (o := ob) k3
  have l4 := fun ob => cell_alloc (o := ob) k4
  have l5 := fun ob => cell_alloc (o := ob) k5
  have l6 := fun ob => cell_alloc (o := ob) k6
  have l7 := fun ob => cell_alloc (o := ob) k7
  have l8 := fun ob => cell_alloc (o := ob) k8
  clear h h3 A
  go_enter Try.func97, Try.ntmps97
  go_wp2_with fail
  clear l0 l1 l2 l3 l4 l5 l6 l7 l8 k0 k1 k2 k3 k4 k5 k6 k7 k8
  change Calls _ _ _ ((w.alloc (.cells #[.slice none 0 0, .slice none 0 0, .slice none 0 0, .float .f32 0, .float .f32 0, .slice none 0 0, .float .f32 0, .float .f32 0, .float .f32 0] 36)).alloc (BoxB B 36)) _
  generalize ((w.alloc (.cells #[.slice none 0 0, .slice none 0 0, .slice none 0 0, .float .f32 0, .float .f32 0, .slice none 0 0, .float .f32 0, .float .f32 0, .float .f32 0] 36)).alloc (BoxB B 36)) = W at *
  have A0 := Lib.hid (HA.out.below T0.out.bel)
  refine (l02Own pb B.pa B.ta B.pl B.pc B.tl B.tc c.cs c.ts W (A0.out 0 _ rfl) (A0.out 1 _ rfl) (H.out.1.below T0.out.bel) (H.out.2.1.below T0.out.bel) hpl htl H3.out).mono ?_
  rintro e w1 ⟨⟨va, vt, xs, rfl, hva, hpv, hvt⟩, hB1⟩
  obtain ⟨qa, qc, rfl⟩ := owns_slice hva
  obtain ⟨ra, rc, rfl⟩ := OwnT.slice hvt
  obtain ⟨ra', rc', e, hI⟩ := OwnT.is hvt htl' (ts_wf H.out.2.1)
  cases e
  have hlt := T0.out.lt
  have M1 := Lib.hid (And.intro (vs_owned hva hpl' hpv) (And.intro hI (And.intro (lv_of_owns hva) (lt_of_owns hvt))))
  have T1 := Lib.hid (T0.out.call hB1)
  have N1 := Lib.hid hlt
  clear hva hpv hvt hI hB1 hlt
  have e0 := T1.out.out 0 _ rfl
  have e1 := T1.out.out 1 _ rfl
  have g0 := T1.out.fo 0
  have g1 := T1.out.fo 1
  have T2 := Lib.hid (T1.out.put 0 (vs := [.slice qa B.pl qc, .slice ra B.tl rc]) (Nat.le_of_ble_eq_true rfl))
  have A1 := Lib.hid (Agree.setL (Sy.out (bo := w.heap.size + 1) (br := w.heap.size)) [.slice qa B.pl qc, .slice ra B.tl rc] w1 0 (Agree.refl (Sy (w.heap.size + 1) w.heap.size) w1))
  have X2 := Lib.hid (HA.out.below T2.out.bel)
  obtain ⟨W2, hW2⟩ : ∃ W2, W2 = setL w1 (w.heap.size + 1) 0 [.slice qa B.pl qc, .slice ra B.tl rc] := ⟨_, rfl⟩
  have HW2 := Lib.hid hW2
  rw [← hW2] at T2 A1 X2
  simp only [setL, Nat.zero_add, Nat.reduceAdd] at hW2
  obtain ⟨ys, y1, y2, y3, y4⟩ := ss_cells (H.out.2.2.1.below T2.out.bel)
  have Y2 := Lib.hid y2
  have Y3 := Lib.hid y3
  have Y4 := Lib.hid y4
  have Y1 := Lib.hid y1
  have hnone := H.out.2.2.1.2.2.2.2.1
  have HN := Lib.hid hnone
  clear y1 y2 y3 y4 hnone
  have x2 := X2.out 2 _ rfl
  rw [hW2] at x2
  have x2' := fun ob => cell_alloc (o := ob) x2
  have hszW2 : W2.heap.size = w1.heap.size := by rw [HW2.out, setL_size]
  have HST : Hid ((W2.alloc (.cells #[] 171)).ownsRow w1.heap.size 171 4 (.slice (some ⟨w1.heap.size, 0, none⟩) 0 0) 0 []) := Lib.hid (by
    have := World.ownsRow_lit (base := W2.heap.size) (e := 171) (size := 4) W2 #[] 0 (Nat.le_refl _) (by decide) rfl
    rw [hszW2] at this; exact this)
  go_wp2_with (at_builtin; go_loud (simp only [← hW2]; refine wpList_append_opt _ rfl _ _ 30 rfl w1.heap.size 171 i0 (.agg #[.int .i64 0, .int .i64 0, .float .f32 0, .float .f32 0]) 4 24 Try.underlying30 hi hz0 hz1 hz2 rfl (by decide) _ 0 [] rfl HST.out B.sa B.sl B.sc ys rfl HN.out Y1.out ?c2 ?c3 ?c4 ?c5 ?c6 ?_))
  case c2 =>
    intro ad had j u hu
    have := Y2.out ad had j u hu
    rw [World.cell?_alloc_lt (h := World.block_lt_of_cell? _ _ this)]
    exact this
  case c3 => exact Y3.out
  case c4 => unfold maxLen; omega
  case c5 => omega
  case c6 => simp [hszW2]
  intro v w3 hown hgrow
  rw [← hW2] at hgrow
  have hown' : w3.ownsRow W2.heap.size 171 4 v B.sl ys := by rw [hszW2]; simpa using hown
  have hB3 : Below W2.heap.size W2 w3 := ((Below.refl _ _).alloc (Nat.le_refl _) _).grown hgrow (by simp) (fun k hk => by simp [Value.ownBlock] at hk; omega)
  obtain ⟨sa, sc, rfl, hS, hSL⟩ := ss_of_owns hown' hsl' Y4.out H.out.2.2.1.2.2.2.1
  have T3 := Lib.hid (T2.out.call hB3)
  have A3 := Lib.hid (A1.out.trans (Agree.of_below hB3))
  have S3 := Lib.hid (And.intro hS hSL)
  have hz3 := hB3.size
  have X3 := Lib.hid (X2.out.below hB3)
  clear hown hgrow hown' hB3 hS hSL x2 x2' e0 e1 g0 g1 hW2
  have e2 := T3.out.out 2 _ rfl
  have g2 := T3.out.fo 2
  have T4 := Lib.hid (T3.out.put 2 (vs := [.slice sa B.sl sc]) (Nat.le_of_ble_eq_true rfl))
  have A4 := Lib.hid (Agree.setL (Sy.out (bo := w.heap.size + 1) (br := w.heap.size)) [.slice sa B.sl sc] w3 2 (Agree.refl (Sy (w.heap.size + 1) w.heap.size) w3))
  have X4 := Lib.hid (HA.out.below T4.out.bel)
  obtain ⟨W4, hW4⟩ : ∃ W4, W4 = setL w3 (w.heap.size + 1) 2 [.slice sa B.sl sc] := ⟨_, rfl⟩
  rw [← hW4] at T4 A4 X4
  have HW4 := Lib.hid hW4
  simp only [setL] at hW4
  obtain ⟨us, u1, u2, u3, u4⟩ := fs_cells (IsFs_below T4.out.bel H.out.2.2.2.1)
  have U2 := Lib.hid u2
  have U3 := Lib.hid u3
  have U4 := Lib.hid u4
  have U1 := Lib.hid u1
  have HN5 := Lib.hid H.out.2.2.2.1.2.2.2.2.1
  clear u1 u2 u3 u4
  have x5 := X4.out 5 _ rfl
  rw [hW4] at x5
  have x5' := fun ob => cell_alloc (o := ob) x5
  have hszW4 : W4.heap.size = w3.heap.size := by rw [HW4.out, setL_size]
  have HST4 : Hid ((W4.alloc (.cells #[] 31)).ownsRow w3.heap.size 31 1 (.slice (some ⟨w3.heap.size, 0, none⟩) 0 0) 0 []) := Lib.hid (by
    have := World.ownsRow_lit (base := W4.heap.size) (e := 31) (size := 1) W4 #[] 0 (Nat.le_refl _) (by decide) rfl
    rw [hszW4] at this; exact this)
  go_wp2_with (at_builtin; simp only [← hW4]; refine wpList_append_opt _ rfl _ _ 32 rfl w3.heap.size 31 j0 (.float .f32 0) 1 4 Try.underlying32 hj hy0 hy1 hy2 rfl (by decide) _ 0 [] rfl HST4.out B.wa B.wl B.wc us rfl HN5.out U1.out ?c2 ?c3 ?c4 ?c5 ?c6 ?_)
  case c2 =>
    intro ad had j u hu
    have := U2.out ad had j u hu
    rw [World.cell?_alloc_lt (h := World.block_lt_of_cell? _ _ this)]
    exact this
  case c3 => exact U3.out
  case c4 => unfold maxLen; omega
  case c5 => omega
  case c6 => simp [hszW4]
  intro v w5 hown hgrow
  rw [← hW4] at hgrow
  have hown' : w5.ownsRow W4.heap.size 31 1 v B.wl us := by rw [hszW4]; simpa using hown
  have hB5 : Below W4.heap.size W4 w5 := ((Below.refl _ _).alloc (Nat.le_refl _) _).grown hgrow (by simp) (fun k hk => by simp [Value.ownBlock] at hk; omega)
  obtain ⟨wa, wc, rfl, hZ, hZL⟩ := fs_of_owns hown' hwl' U4.out H.out.2.2.2.1.2.2.2.1
  have T5 := Lib.hid (T4.out.call hB5)
  have A5 := Lib.hid (A4.out.trans (Agree.of_below hB5))
  have F5 := Lib.hid (And.intro hZ hZL)
  have hz5 := hB5.size
  clear hown hgrow hown' hB5 hZ hZL x5 x5' e2 g2 hW4
  have e0 := T5.out.out 0 _ rfl
  have e1 := T5.out.out 1 _ rfl
  have e2 := T5.out.out 2 _ rfl
  have e3 := T5.out.out 3 _ rfl
  have e4 := T5.out.out 4 _ rfl
  have e5 := T5.out.out 5 _ rfl
  have e6 := T5.out.out 6 _ rfl
  have e7 := T5.out.out 7 _ rfl
  have e8 := T5.out.out 8 _ rfl
  have g5 := T5.out.fo 5
  have q0 := T5.out.res 0 _ rfl
  have p0 := T5.out.fr 0
  have q1 := T5.out.res 1 _ rfl
  have p1 := T5.out.fr 1
  have q2 := T5.out.res 2 _ rfl
  have p2 := T5.out.fr 2
  have q3 := T5.out.res 3 _ rfl
  have p3 := T5.out.fr 3
  have q4 := T5.out.res 4 _ rfl
  have p4 := T5.out.fr 4
  have q5 := T5.out.res 5 _ rfl
  have p5 := T5.out.fr 5
  have q6 := T5.out.res 6 _ rfl
  have p6 := T5.out.fr 6
  have q7 := T5.out.res 7 _ rfl
  have p7 := T5.out.fr 7
  have q8 := T5.out.res 8 _ rfl
  have p8 := T5.out.fr 8
  have T6 := Lib.hid (T5.out.put 5 (vs := [.slice wa B.wl wc]) (Nat.le_of_ble_eq_true rfl))
  have A6 := Lib.hid (Agree.setL (Sy.out (bo := w.heap.size + 1) (br := w.heap.size)) [.slice wa B.wl wc] w5 5 (Agree.refl (Sy (w.heap.size + 1) w.heap.size) w5))
  obtain ⟨hR, hBB⟩ := T6.out.fin (vs' := [.slice qa B.pl qc, .slice ra B.tl rc, .slice sa B.sl sc, .float .f32 B.film, .float .f32 B.bend, .slice wa B.wl wc, .float .f32 B.x, .float .f32 B.y, .float .f32 B.z]) rfl
  have A7 := Agree.setL (Sy.res (bo := w.heap.size + 1) (br := w.heap.size)) [.slice qa B.pl qc, .slice ra B.tl rc, .slice sa B.sl sc, .float .f32 B.film, .float .f32 B.bend, .slice wa B.wl wc, .float .f32 B.x, .float .f32 B.y, .float .f32 B.z] _ 0 A6.out
  simp only [setL, Nat.zero_add, Nat.reduceAdd] at hR hBB A7
  have HR := Lib.hid hR
  have HBB := Lib.hid hBB
  have HA7 := Lib.hid A7
  clear hR hBB A7
  go_wp2
  clear e0 e1 e2 e3 e4 e5 e6 e7 e8 g5 q0 q1 q2 q3 q4 q5 q6 q7 q8 p0 p1 p2 p3 p4 p5 p6 p7 p8
  have m0 := HR.out 0 _ rfl
  have m1 := HR.out 1 _ rfl
  have m2 := HR.out 2 _ rfl
  have m3 := HR.out 3 _ rfl
  have m4 := HR.out 4 _ rfl
  have m5 := HR.out 5 _ rfl
  have m6 := HR.out 6 _ rfl
  have m7 := HR.out 7 _ rfl
  have m8 := HR.out 8 _ rfl
  have G3 := HA7.out
  have G2 := A5.out.trans G3
  have G1 := A3.out.trans G2
  refine bodyPost_ret (v := (⟨qa, ra, sa, wa, B.pl, qc, B.tl, rc, B.sl, sc, B.wl, wc, B.film, B.bend, B.x, B.y, B.z⟩ : Bd).v) (by simp [results, Try.results97, go_sem, m0, m1, m2, m3, m4, m5, m6, m7, m8]) rfl ?_
  have z1 := A1.out.size
  have z4 := A4.out.size
  have n1 := N1.out
  have t1 := T1.out.lt
  have t3 := T3.out.lt
  have t2 := T2.out.lt
  have t4 := T4.out.lt
  have s1 : ∀ q, W.heap.size ≤ q → q < w1.heap.size → Sy (w.heap.size + 1) w.heap.size q := Sy.new (by omega) (by omega)
  have s2 : ∀ q, W2.heap.size ≤ q → q < w3.heap.size → Sy (w.heap.size + 1) w.heap.size q := Sy.new (by omega) (by omega)
  have s3 : ∀ q, W4.heap.size ≤ q → q < w5.heap.size → Sy (w.heap.size + 1) w.heap.size q := Sy.new (by omega) (by omega)
  have y1 := G1.size
  have y2 := G2.size
  have y3 := G3.size
  refine ⟨_, rfl, ⟨vs_agree M1.out.1 M1.out.2.2.1 s1 G1, ts_agree M1.out.2.1 M1.out.2.2.2 s1 G1, ss_agree S3.out.1 (lst_lv S3.out.2) s2 G2, fs_agree F5.out.1 (lst_lv F5.out.2) s3 G3, H.out.2.2.2.2⟩, ?_, HBB.out⟩
  exact ⟨M1.out.2.2.1.wide (by omega) (by omega), (lt_agree M1.out.2.2.2 s1 G1).wide (by omega) (by omega), (lst_lv S3.out.2).wide (by omega) (by omega), (lst_lv F5.out.2).wide (by omega) (by omega)⟩
end Go.Proofs.Ytmbekamnogbgaaa


/-
A motion that stands still: what the model returns. Conditions: the body lies in memory.
-/
namespace Go.Proofs.Ytmbekamnogbgaaa
open Go Fk Go.RowKit
set_option linter.unusedVariables false
set_option maxRecDepth 8000

/-- The body of the motion that is returned, and its speeds. -/
def stiC (c : Bc) : Bc := bif bodyB c then c else ⟨[], [], [], [], some 0, some 0, z3⟩
def stiV (c : Bc) : List C3 := bif bodyB c then List.replicate c.cs.length z3 else []
theorem sti_len (c : Bc) : (stiC c).cs.length ≤ 64 ∧ (stiC c).ts.length ≤ 128 ∧ (stiC c).ss.length ≤ 200 ∧ (stiC c).zs.length ≤ 64 ∧ (stiV c).length ≤ 64 ∧ ∀ k, k < (stiC c).ts.length → ((stiC c).ts.getD k []).length ≤ 1048576 := by
  unfold stiC stiV
  cases hv : bodyB c
  · exact ⟨Nat.zero_le _, Nat.zero_le _, Nat.zero_le _, Nat.zero_le _, Nat.zero_le _, fun k hk => absurd hk (Nat.not_lt_zero k)⟩
  · unfold bodyB at hv
    simp only [Bool.and_eq_true] at hv
    obtain ⟨⟨⟨hv1, hv2⟩, hv3⟩, hv4⟩ := hv
    obtain ⟨h1, h2⟩ := valid_pl hv1
    have k2 := of_decide_eq_true hv2
    have k3 := of_decide_eq_true hv3
    refine ⟨h1, h2, k2, by show c.zs.length ≤ 64; omega, ?_, fun k hk => ?_⟩
    · show (List.replicate c.cs.length z3).length ≤ 64
      rw [List.length_replicate]; exact h1
    · show (c.ts.getD k []).length ≤ 1048576
      have := rows3h hv1 k hk
      omega
theorem body_sizes {c : Bc} (hv : bodyB c = true) : c.cs.length ≤ 64 ∧ c.ts.length ≤ 128 ∧ c.ss.length ≤ 200 ∧ c.zs.length ≤ 64 ∧ ∀ k, k < c.ts.length → (c.ts.getD k []).length = 3 := by
  unfold bodyB at hv
  simp only [Bool.and_eq_true] at hv
  obtain ⟨⟨⟨hv1, hv2⟩, hv3⟩, hv4⟩ := hv
  obtain ⟨h1, h2⟩ := valid_pl hv1
  have k2 := of_decide_eq_true hv2
  have k3 := of_decide_eq_true hv3
  exact ⟨h1, h2, k2, by omega, rows3h hv1⟩
/-- A list of zero vectors that was made. -/
theorem zeros_vs (w : World) (n : Nat) (hn : n ≤ 1048576) : IsVs (w.alloc (.cells (madeCells #[.float .f32 0, .float .f32 0, .float .f32 0] (n * 3)) 34)) (some ⟨w.heap.size, 0, none⟩) n n (List.replicate n z3) ∧ ∀ i, (w.alloc (.cells (madeCells #[.float .f32 0, .float .f32 0, .float .f32 0] (n * 3)) 34)).frozen? ⟨w.heap.size, i, none⟩ = false := by
  have h := (OwnVs.made (w := w) hn)
  have h1 := h.is
  rw [List.length_replicate] at h1
  exact ⟨h1, h.2.1⟩
def SM (W : World) (c : Bc) (n br : Nat) (w' : World) : Prop := ∃ (w1 : World) (B' : Bd) (g : Nat), Below W.heap.size W w1 ∧ IsB w1 B' c ∧ LB W.heap.size w1.heap.size w1 B' ∧ (W.heap.size ≤ g ∧ g < w1.heap.size) ∧ IsVs w1 (some ⟨g, 0, none⟩) n n (List.replicate n z3) ∧ w' = setL w1 br 0 (ml B' (some ⟨g, 0, none⟩) n n)
theorem nil_lv (lo hi : Nat) : LV lo hi none := fun x hx => by cases hx
set_option maxHeartbeats 4000000 in
theorem spec_StillMotion (B : Bd) (c : Bc) (w : World) (h : IsB w B c) :
    Calls Try.prog 39 #[B.v] w fun e w' => (∃ (B' : Bd) (va : Option Addr), e = .returned (.tuple #[mv B' va (stiV c).length (stiV c).length, .bool (bodyB c)]) ∧ IsB w' B' (stiC c) ∧ IsVs w' va (stiV c).length (stiV c).length (stiV c) ∧ LB w.heap.size w'.heap.size w' B' ∧ LV w.heap.size w'.heap.size va) ∧ Below w.heap.size w w' := by
  have ui := Try.underlying67
  have uib := Try.underlying36
  have uim := Try.underlying29
  have T0 : Hid (Tc w w.heap.size (w.heap.size + 1) B.l Z10 ((w.alloc (BoxB B 36)).alloc (.cells #[.slice none 0 0, .slice none 0 0, .slice none 0 0, .float .f32 0, .float .f32 0, .slice none 0 0, .float .f32 0, .float .f32 0, .float .f32 0, .slice none 0 0] 67))) := Lib.hid
    ⟨At.new.alloc, by
      have := At.new (w := w.alloc (BoxB B 36)) (vs := Z10) (t := 67)
      simpa using this, fun i => by go_simp, fun i => by go_simp, ((Below.refl _ _).alloc (Nat.le_refl _) _).alloc (by simp) _, ⟨Nat.le_refl _, by omega, by omega⟩, by simp <;> omega⟩
  have H := Lib.hid h
  have LN := Lib.hid h.lens
  have J := Lib.hid ((l03Is w.heap.size B c _ T0.out.out (h.below T0.out.bel)).mono (R' := fun e w' => e = .returned (.bool (bodyB c)) ∧ Below ((w.alloc (BoxB B 36)).alloc (.cells #[.slice none 0 0, .slice none 0 0, .slice none 0 0, .float .f32 0, .float .f32 0, .slice none 0 0, .float .f32 0, .float .f32 0, .float .f32 0, .slice none 0 0] 67)).heap.size ((w.alloc (BoxB B 36)).alloc (.cells #[.slice none 0 0, .slice none 0 0, .slice none 0 0, .float .f32 0, .float .f32 0, .slice none 0 0, .float .f32 0, .float .f32 0, .float .f32 0, .slice none 0 0] 67)) w') (fun _ _ ⟨he, n, hw⟩ => ⟨he, by rw [hw]; exact below_drewN (Below.refl _ _) n⟩))
  unfold stiC stiV
  cases hv : bodyB c
  · rw [hv] at J
    clear hv h
    go_enter Try.func39, Try.ntmps39
    go_wp2_with fail
    change Calls _ _ _ ((w.alloc (BoxB B 36)).alloc (.cells #[.slice none 0 0, .slice none 0 0, .slice none 0 0, .float .f32 0, .float .f32 0, .slice none 0 0, .float .f32 0, .float .f32 0, .float .f32 0, .slice none 0 0] 67)) _
    generalize ((w.alloc (BoxB B 36)).alloc (.cells #[.slice none 0 0, .slice none 0 0, .slice none 0 0, .float .f32 0, .float .f32 0, .slice none 0 0, .float .f32 0, .float .f32 0, .float .f32 0, .slice none 0 0] 67)) = W at *
    refine J.out.mono ?_
    rintro e w2 ⟨rfl, hB1⟩
    have T2 := Lib.hid (T0.out.call hB1)
    clear hB1
    have q0 := T2.out.res 0 _ rfl
    have p0 := T2.out.fr 0
    have q1 := T2.out.res 1 _ rfl
    have p1 := T2.out.fr 1
    have q2 := T2.out.res 2 _ rfl
    have p2 := T2.out.fr 2
    have q3 := T2.out.res 3 _ rfl
    have p3 := T2.out.fr 3
    have q4 := T2.out.res 4 _ rfl
    have p4 := T2.out.fr 4
    have q5 := T2.out.res 5 _ rfl
    have p5 := T2.out.fr 5
    have q6 := T2.out.res 6 _ rfl
    have p6 := T2.out.fr 6
    have q7 := T2.out.res 7 _ rfl
    have p7 := T2.out.fr 7
    have q8 := T2.out.res 8 _ rfl
    have p8 := T2.out.fr 8
    have q9 := T2.out.res 9 _ rfl
    have p9 := T2.out.fr 9
    obtain ⟨hR, hBB⟩ := T2.out.fin (vs' := ml nilB none 0 0) rfl
    simp only [setL, nilB, Nat.zero_add, Nat.reduceAdd] at hR hBB
    have HR := Lib.hid hR
    have HBB := Lib.hid hBB
    clear hR hBB
    go_wp2
    clear q0 q1 q2 q3 q4 q5 q6 q7 q8 q9 p0 p1 p2 p3 p4 p5 p6 p7 p8 p9
    have m0 := HR.out 0 _ rfl
    have m1 := HR.out 1 _ rfl
    have m2 := HR.out 2 _ rfl
    have m3 := HR.out 3 _ rfl
    have m4 := HR.out 4 _ rfl
    have m5 := HR.out 5 _ rfl
    have m6 := HR.out 6 _ rfl
    have m7 := HR.out 7 _ rfl
    have m8 := HR.out 8 _ rfl
    have m9 := HR.out 9 _ rfl
    refine bodyPost_ret (v := .tuple #[mv nilB none 0 0, .bool false]) (by simp [results, Try.results39, go_sem, nilB, m0, m1, m2, m3, m4, m5, m6, m7, m8, m9]) rfl ?_
    exact ⟨⟨nilB, none, rfl, nil_isb _, nil_vs _, nil_lb _ _ _, nil_lv _ _⟩, HBB.out⟩
  · rw [hv] at J
    obtain ⟨q1, q2, q3, q4, q5⟩ := body_sizes hv
    have H3 := Lib.hid (fun k (hk : k < B.tl) => show (c.ts.getD k []).length ≤ 1000 by have := q5 k (by rw [LN.out.2.1]; exact hk); omega)
    have hpl : B.pl ≤ 64 := by rw [← LN.out.1]; exact q1
    have htl : B.tl ≤ 128 := by rw [← LN.out.2.1]; exact q2
    have hsl : B.sl ≤ 200 := by rw [← LN.out.2.2.1]; exact q3
    have hwl : B.wl ≤ 64 := by rw [← LN.out.2.2.2]; exact q4
    clear hv h q5
    show Calls _ _ _ _ (fun e w' => (∃ (B' : Bd) (va : Option Addr), e = .returned (.tuple #[mv B' va (List.replicate c.cs.length z3).length (List.replicate c.cs.length z3).length, .bool true]) ∧ IsB w' B' c ∧ IsVs w' va (List.replicate c.cs.length z3).length (List.replicate c.cs.length z3).length (List.replicate c.cs.length z3) ∧ LB w.heap.size w'.heap.size w' B' ∧ LV w.heap.size w'.heap.size va) ∧ Below w.heap.size w w')
    rw [List.length_replicate, LN.out.1]
    go_enter Try.func39, Try.ntmps39
    go_wp2_with fail
    change Calls _ _ _ ((w.alloc (BoxB B 36)).alloc (.cells #[.slice none 0 0, .slice none 0 0, .slice none 0 0, .float .f32 0, .float .f32 0, .slice none 0 0, .float .f32 0, .float .f32 0, .float .f32 0, .slice none 0 0] 67)) _
    generalize ((w.alloc (BoxB B 36)).alloc (.cells #[.slice none 0 0, .slice none 0 0, .slice none 0 0, .float .f32 0, .float .f32 0, .slice none 0 0, .float .f32 0, .float .f32 0, .float .f32 0, .slice none 0 0] 67)) = W at *
    refine J.out.mono ?_
    rintro e w1 ⟨rfl, hB0⟩
    have T1 := Lib.hid (T0.out.call hB0)
    clear hB0
    go_wp2_with fail
    refine Reg6.wp_region_mix (s := 7) (C := fun w' => Below w1.heap.size w1 w') (D := fun _ w' => SM w1 c B.pl (w.heap.size + 1) w') (G := fun w1 w2 => Below w1.heap.size w1 w2)
      (Rv := fun i v => match i with | 1 => v = .pointer (some ⟨w.heap.size, 0, none⟩) | 2 => v = .pointer (some ⟨w.heap.size, 0, none⟩) | 3 => v = .slice B.pa B.pl B.pc | 4 => v = .int .i64 B.pl | 8 => v = .bool true | _ => True)
      (Rw := fun i v w' => match i with
        | 0 => ∃ B' : Bd, v = B'.v ∧ IsB w' B' c ∧ LB w1.heap.size w'.heap.size w' B'
        | 5 => ∃ g, v = .slice (some ⟨g, 0, none⟩) B.pl B.pl ∧ (w1.heap.size ≤ g ∧ g < w'.heap.size) ∧ IsVs w' (some ⟨g, 0, none⟩) B.pl B.pl (List.replicate B.pl z3)
        | 6 => ∃ (B' : Bd) (g : Nat), v = mv B' (some ⟨g, 0, none⟩) B.pl B.pl ∧ (IsB w' B' c ∧ LB w1.heap.size w'.heap.size w' B') ∧ (w1.heap.size ≤ g ∧ g < w'.heap.size) ∧ IsVs w' (some ⟨g, 0, none⟩) B.pl B.pl (List.replicate B.pl z3)
        | _ => True) [false, false, false, true, false, false, false, true, true, true, true, true, true, true]
      (by kernel_rfl) (by kernel_rfl) (by kernel_rfl) ?_ (below_drewN (Below.refl _ _) 1) ?_ ?_
    · intro j v w1 w2 hC hG hR
      match j with
      | 0 => obtain ⟨B', e, h1, h2⟩ := hR; exact ⟨B', e, h1.below hG, (h2.agree (S := fun _ => True) (fun _ _ _ => trivial) (Agree.of_below hG)).wide (Nat.le_refl _) hG.size⟩
      | 1 => trivial
      | 2 => trivial
      | 3 => trivial
      | 4 => trivial
      | 5 => obtain ⟨g, e, h1, h2⟩ := hR; exact ⟨g, e, ⟨h1.1, Nat.lt_of_lt_of_le h1.2 hG.size⟩, h2.below hG⟩
      | 6 => obtain ⟨B', g, e, ⟨k1, k2⟩, h1, h2⟩ := hR; exact ⟨B', g, e, ⟨k1.below hG, (k2.agree (S := fun _ => True) (fun _ _ _ => trivial) (Agree.of_below hG)).wide (Nat.le_refl _) hG.size⟩, ⟨h1.1, Nat.lt_of_lt_of_le h1.2 hG.size⟩, h2.below hG⟩
      | 7 => trivial
      | 8 => trivial
      | _ + 9 => trivial
    · refine ⟨?_, ?_, ?_, ?_, ?_, ?_, ?_, ?_, ?_, trivial⟩
      · refine Reg6.Obl.early rfl (by kernel_rfl) ?_
        rintro a wq hC hx hd K hK
        have HC := Lib.hid hC
        clear hC
        have t1 : a.tmps[1]?.getD undef = .pointer (some ⟨w.heap.size, 0, none⟩) := Reg.slot_val (hx 1 (by kernel_rfl))
        go_simp
        refine (l03Own w.heap.size B c wq (T1.out.call HC.out).out (H.out.below (T1.out.call HC.out).bel) (by omega) (by omega) H3.out (by omega) (by omega)).mono ?_
        rintro en w2 ⟨B', rfl, hI, hL, hB2⟩
        exact hK _ _ trivial ⟨B', rfl, hI, hL.wide HC.out.size (Nat.le_refl _)⟩ (HC.out.trans (hB2.mono HC.out.size)) hB2
      · refine Reg6.Obl.early rfl (by kernel_rfl) ?_
        rintro a wq hC hx hd K hK
        have t1 : a.tmps[1]?.getD undef = .pointer (some ⟨w.heap.size, 0, none⟩) := Reg.slot_val (hx 1 (by kernel_rfl))
        go_simp
        exact hK _ _ rfl trivial hC (Below.refl _ _)
      · refine Reg6.Obl.early rfl (by kernel_rfl) ?_
        rintro a wq hC hx hd K hK
        have t8 : a.tmps[8]?.getD undef = .pointer (some ⟨w.heap.size, 0, none⟩) := Reg.slot_val (hd 1 8 (by kernel_rfl) rfl).1
        go_simp
        exact hK _ _ rfl trivial hC (Below.refl _ _)
      · refine Reg6.Obl.early rfl (by kernel_rfl) ?_
        rintro a wq hC hx hd K hK
        have HC := Lib.hid hC
        clear hC
        have t9 : a.tmps[9]?.getD undef = .pointer (some ⟨w.heap.size, 0, none⟩) := Reg.slot_val (hd 2 9 (by kernel_rfl) rfl).1
        have y0 := (T1.out.call HC.out).out 0 _ rfl
        go_simp
        exact hK _ _ rfl trivial HC.out (Below.refl _ _)
      · refine Reg6.Obl.early rfl (by kernel_rfl) ?_
        rintro a wq hC hx hd K hK
        have t10 : a.tmps[10]?.getD undef = .slice B.pa B.pl B.pc := Reg.slot_val (hd 3 10 (by kernel_rfl) rfl).1
        go_simp
        exact hK _ _ rfl trivial hC (Below.refl _ _)
      · refine Reg6.Obl.early rfl (by kernel_rfl) ?_
        rintro a wq hC hx hd K hK
        have HC := Lib.hid hC
        clear hC
        have t11 : a.tmps[11]?.getD undef = .int .i64 B.pl := Reg.slot_val (hd 4 11 (by kernel_rfl) rfl).1
        have hmk := make_vecs wq B.pl (by omega)
        have HZ := Lib.hid (zeros_vs wq B.pl (by omega))
        go_simp
        exact hK _ _ trivial ⟨_, rfl, ⟨HC.out.size, by simp⟩, HZ.out.1⟩ (HC.out.alloc HC.out.size _) ((Below.refl _ _).alloc (Nat.le_refl _) _)
      · refine Reg6.Obl.early rfl (by kernel_rfl) ?_
        rintro a wq hC hx hd K hK
        have HC := Lib.hid hC
        clear hC
        obtain ⟨B', g7, b1, b2⟩ := (hd 0 7 (by kernel_rfl) rfl).2
        have t7 := Reg.slot_val g7
        obtain ⟨g, g12, v1, v2⟩ := (hd 5 12 (by kernel_rfl) rfl).2
        have t12 := Reg.slot_val g12
        have HB := Lib.hid (And.intro b1 b2)
        have HV := Lib.hid (And.intro v1 v2)
        clear g7 b1 b2 g12 v1 v2
        go_simp
        exact hK _ _ trivial ⟨B', g, rfl, HB.out, HV.out.1, HV.out.2⟩ HC.out (Below.refl _ _)
      · refine Reg6.Obl.store rfl ?_
        rintro a wq hC hx hd K hK
        have HC := Lib.hid hC
        clear hC
        have t2 : a.tmps[2]?.getD undef = .pointer (some ⟨w.heap.size + 1, 0, none⟩) := Reg.slot_val (hx 2 (by kernel_rfl))
        obtain ⟨B', g, g13, ⟨b1, b2⟩, v1, v2⟩ := (hd 6 13 (by kernel_rfl) rfl).2
        have t13 := Reg.slot_val g13
        have HS : Hid (SM w1 c B.pl (w.heap.size + 1) (setL wq (w.heap.size + 1) 0 (ml B' (some ⟨g, 0, none⟩) B.pl B.pl))) := Lib.hid ⟨wq, B', g, HC.out, b1, b2, v1, v2, rfl⟩
        have TT := T1.out.call HC.out
        have y0 := TT.res 0 _ rfl
        have y1 := TT.res 1 _ rfl
        have y2 := TT.res 2 _ rfl
        have y3 := TT.res 3 _ rfl
        have y4 := TT.res 4 _ rfl
        have y5 := TT.res 5 _ rfl
        have y6 := TT.res 6 _ rfl
        have y7 := TT.res 7 _ rfl
        have y8 := TT.res 8 _ rfl
        have y9 := TT.res 9 _ rfl
        have f0 := TT.fr 0
        have f1 := TT.fr 1
        have f2 := TT.fr 2
        have f3 := TT.fr 3
        have f4 := TT.fr 4
        have f5 := TT.fr 5
        have f6 := TT.fr 6
        have f7 := TT.fr 7
        have f8 := TT.fr 8
        have f9 := TT.fr 9
        clear g13 b1 b2 v1 v2 TT
        go_simp
        exact hK _ HS.out
      · refine Reg6.Obl.late rfl (by kernel_rfl) ?_
        rintro a wq hx hd K hK
        go_simp
        exact hK _ rfl (fun w hD => hD)
    rintro f w2 hD hd
    obtain ⟨wf, B', g, hB1, hI, hL, hg, hV, rfl⟩ := hD
    have g3 : f 3 = .bool true := hd 8 3 rfl
    simp only [Reg.mixL, g3]
    have hlt := T1.out.lt
    have T2 := Lib.hid (T1.out.call hB1)
    obtain ⟨hR, hBB⟩ := T2.out.fin (vs' := ml B' (some ⟨g, 0, none⟩) B.pl B.pl) rfl
    have hA := Agree.setL (Sy.res (bo := w.heap.size) (br := w.heap.size + 1)) (ml B' (some ⟨g, 0, none⟩) B.pl B.pl) wf 0 (Agree.refl (Sy w.heap.size (w.heap.size + 1)) wf)
    have hs : ∀ q, w1.heap.size ≤ q → q < wf.heap.size → Sy w.heap.size (w.heap.size + 1) q := Sy.new hlt.1 hlt.2
    have hb0 := T1.out.bel.size
    have M := Lib.hid (And.intro (hI.agree hL hs hA) (And.intro (vs_agree hV (fun x hx => by cases hx; exact ⟨g, rfl, hg.1, hg.2⟩) hs hA) (And.intro ((hL.agree hs hA).wide hb0 hA.size) (And.intro (show LV w.heap.size (setL wf (w.heap.size + 1) 0 (ml B' (some ⟨g, 0, none⟩) B.pl B.pl)).heap.size (some ⟨g, 0, none⟩) from fun x hx => by cases hx; exact ⟨g, rfl, by omega, by rw [setL_size]; exact hg.2⟩) hBB))))
    have HR := Lib.hid hR
    clear hR hBB hA hs hI hL hV hg hB1 hd
    generalize (setL wf (w.heap.size + 1) 0 (ml B' (some ⟨g, 0, none⟩) B.pl B.pl)) = W2 at *
    have m0 := HR.out 0 _ rfl
    have m1 := HR.out 1 _ rfl
    have m2 := HR.out 2 _ rfl
    have m3 := HR.out 3 _ rfl
    have m4 := HR.out 4 _ rfl
    have m5 := HR.out 5 _ rfl
    have m6 := HR.out 6 _ rfl
    have m7 := HR.out 7 _ rfl
    have m8 := HR.out 8 _ rfl
    have m9 := HR.out 9 _ rfl
    go_wp2
    refine bodyPost_ret (v := .tuple #[mv B' (some ⟨g, 0, none⟩) B.pl B.pl, .bool true]) (by simp [results, Try.results39, go_sem, m0, m1, m2, m3, m4, m5, m6, m7, m8, m9]) rfl ?_
    exact ⟨⟨B', some ⟨g, 0, none⟩, rfl, M.out.1, M.out.2.1, M.out.2.2.1, M.out.2.2.2.1⟩, M.out.2.2.2.2⟩
end Go.Proofs.Ytmbekamnogbgaaa


/-
A region whose order is open, with one store, where what holds before the store may speak of slots. Conditions: no operation is guarded, every edge that binds leads to an earlier operation, no slot is written twice, one operation alone has no slot.
-/
namespace Go.Proofs.Ytmbekamnogbgaaa
namespace Reg7
open Go Reg Reg6
set_option linter.unusedVariables false
section
variable {P : Program} {ops : Array Oper} {Q : Exit → Act → World → Prop}
/-- Operation s is the store; what an operation before it waits for also comes before it. -/
def tidy7 (ops : Array Oper) (s n : Nat) : Bool :=
  lowb ops && (ops.all fun o => o.guard.isNone) && (ops.all fun o => (o.dst.map fun d => decide (d < n)).getD true) &&
  ((List.range ops.size).all fun i => (List.range ops.size).all fun j => i == j || slotOf ops i == none || slotOf ops i != slotOf ops j) &&
  ((List.range ops.size).all fun i => (slotOf ops i).isSome || i == s) && decide (s < ops.size) && (slotOf ops s).isNone &&
  ((List.range ops.size).all fun i => (List.range ops.size).all fun j => !(behind ops i s && behind ops j i) || behind ops j s)
/-- What is asked of operation i: before the store, at the store, and of one that may come behind it. -/
def Obl (P : Program) (ops : Array Oper) (s : Nat) (a0 : Act) (C : Act → World → Prop) (D : Act → World → Prop) (G : World → World → Prop) (Rv : Nat → Value → Prop) (Rw : Nat → Value → World → Prop) (Q : Exit → Act → World → Prop) (i : Nat) (o : Oper) : Prop :=
  if i = s then
    ∀ a w, C a w → (∀ t, ((List.range ops.size).all fun j => slotOf ops j != some t || behind ops i j) = true → a.eval (.tmp t) = a0.eval (.tmp t)) →
      (∀ j d, behind ops j i = true → slotOf ops j = some d → Rv j (a.eval (.tmp d)) ∧ Rw j (a.eval (.tmp d)) w) →
      o.wp P a w (fun a' w' => a' = a ∧ D a w') Q
  else if behind ops i s = true then
    ∀ a w, C a w → (∀ t, ((List.range ops.size).all fun j => slotOf ops j != some t || behind ops i j) = true → a.eval (.tmp t) = a0.eval (.tmp t)) →
      (∀ j d, behind ops j i = true → slotOf ops j = some d → Rv j (a.eval (.tmp d)) ∧ Rw j (a.eval (.tmp d)) w) →
      o.wp P a w (fun a' w' => ∃ v, a' = a.put o.dst v ∧ Rv i v ∧ Rw i v w' ∧ C (a.put o.dst v) w' ∧ G w w') Q
  else
    ∀ a w, (∀ t, ((List.range ops.size).all fun j => slotOf ops j != some t || behind ops i j) = true → a.eval (.tmp t) = a0.eval (.tmp t)) →
      (∀ j d, behind ops j i = true → slotOf ops j = some d → Rv j (a.eval (.tmp d))) →
      o.wp P a w (fun a' w' => ∃ v, a' = a.put o.dst v ∧ Rv i v ∧ w' = w ∧ (∀ w, C a w → C (a.put o.dst v) w) ∧ ∀ w, D a w → D (a.put o.dst v) w) Q
def OblAll (P : Program) (ops : Array Oper) (s : Nat) (a0 : Act) (C : Act → World → Prop) (D : Act → World → Prop) (G : World → World → Prop) (Rv : Nat → Value → Prop) (Rw : Nat → Value → World → Prop) (Q : Exit → Act → World → Prop) : Nat → List Oper → Prop
  | _, [] => True
  | i, o :: l => Obl P ops s a0 C D G Rv Rw Q i o ∧ OblAll P ops s a0 C D G Rv Rw Q (i + 1) l
variable {s : Nat} {a0 : Act} {C : Act → World → Prop} {D : Act → World → Prop} {G : World → World → Prop} {Rv : Nat → Value → Prop} {Rw : Nat → Value → World → Prop}
theorem OblAll.get :
    ∀ {l : List Oper} {k : Nat}, OblAll P ops s a0 C D G Rv Rw Q k l → ∀ {i : Nat} {o : Oper}, l[i]? = some o → Obl P ops s a0 C D G Rv Rw Q (k + i) o
  | [], _, _, _, _, h => by simp at h
  | _ :: _, _, h, 0, _, ho => by simp at ho; subst ho; exact h.1
  | _ :: l, k, h, i + 1, _, ho => by
    have := OblAll.get h.2 (i := i) (by simpa using ho)
    rwa [Nat.add_assoc, Nat.add_comm 1 i] at this
section
variable {i : Nat} {o : Oper}
theorem Obl.early (h1 : (i == s) = false) (h2 : behind ops i s = true)
    (h : ∀ a w, C a w → (∀ t, ((List.range ops.size).all fun j => slotOf ops j != some t || behind ops i j) = true → a.eval (.tmp t) = a0.eval (.tmp t)) →
      (∀ j d, behind ops j i = true → slotOf ops j = some d → Rv j (a.eval (.tmp d)) ∧ Rw j (a.eval (.tmp d)) w) →
      ∀ K : Act → World → Prop, (∀ v w', Rv i v → Rw i v w' → C (a.put o.dst v) w' → G w w' → K (a.put o.dst v) w') → o.wp P a w K Q) : Obl P ops s a0 C D G Rv Rw Q i o := by
  unfold Obl
  rw [if_neg (by simpa using h1), if_pos h2]
  exact fun a w hC he hd => h a w hC he hd _ fun v w' k1 k2 k3 k4 => ⟨v, rfl, k1, k2, k3, k4⟩
theorem Obl.store (h1 : (i == s) = true)
    (h : ∀ a w, C a w → (∀ t, ((List.range ops.size).all fun j => slotOf ops j != some t || behind ops i j) = true → a.eval (.tmp t) = a0.eval (.tmp t)) →
      (∀ j d, behind ops j i = true → slotOf ops j = some d → Rv j (a.eval (.tmp d)) ∧ Rw j (a.eval (.tmp d)) w) →
      ∀ K : Act → World → Prop, (∀ w', D a w' → K a w') → o.wp P a w K Q) : Obl P ops s a0 C D G Rv Rw Q i o := by
  unfold Obl
  rw [if_pos (by simpa using h1)]
  exact fun a w hC he hd => h a w hC he hd _ fun w' k1 => ⟨rfl, k1⟩
theorem Obl.late (h1 : (i == s) = false) (h2 : behind ops i s = false)
    (h : ∀ a w, (∀ t, ((List.range ops.size).all fun j => slotOf ops j != some t || behind ops i j) = true → a.eval (.tmp t) = a0.eval (.tmp t)) →
      (∀ j d, behind ops j i = true → slotOf ops j = some d → Rv j (a.eval (.tmp d))) →
      ∀ K : Act → World → Prop, (∀ v, Rv i v → (∀ w, C a w → C (a.put o.dst v) w) → (∀ w, D a w → D (a.put o.dst v) w) → K (a.put o.dst v) w) → o.wp P a w K Q) : Obl P ops s a0 C D G Rv Rw Q i o := by
  unfold Obl
  rw [if_neg (by simpa using h1), if_neg (by rw [h2]; decide)]
  exact fun a w he hd => h a w he hd _ fun v k1 kc k2 => ⟨v, rfl, k1, rfl, kc, k2⟩
end
theorem wp_region_inv {id : Nat} {w0 : World} (hm : P.follows .mixedOrders = true) (ht : tidy7 ops s a0.tmps.size = true)
    (hG : ∀ a j v w w', C a w → G w w' → Rw j v w → Rw j v w') (hC : C a0 { w0 with drawn := w0.drawn + 1 })
    (hO : OblAll P ops s a0 C D G Rv Rw Q 0 ops.toList)
    (hQ : ∀ a w, D a w → a.defers = a0.defers → a.tmps.size = a0.tmps.size → (∀ t, (ops.all fun o => o.dst != some t) = true → a.eval (.tmp t) = a0.eval (.tmp t)) → (∀ j d, slotOf ops j = some d → Rv j (a.eval (.tmp d))) → Q .normal a w) :
    (Code.region id ops true).wp P Q a0 w0 := by
  unfold tidy7 at ht
  simp only [Bool.and_eq_true] at ht
  obtain ⟨⟨⟨⟨⟨⟨⟨hlow, hgd⟩, hbd⟩, hdis⟩, hone⟩, hslt⟩, hsn⟩, hclo⟩ := ht
  have hslt := of_decide_eq_true hslt
  have slot_lt : ∀ {j d}, slotOf ops j = some d → j < ops.size := fun {j d} h => by
    unfold slotOf at h
    cases ho : ops[j]? with
    | none => rw [ho] at h; cases h
    | some o => exact (Array.getElem?_eq_some_iff.1 ho).1
  have slot_bd : ∀ {j d}, slotOf ops j = some d → d < a0.tmps.size := fun {j d} h => by
    have hj := slot_lt h
    have := Array.all_eq_true.1 hbd j hj
    unfold slotOf at h
    rw [Array.getElem?_eq_getElem hj] at h
    simp only [Option.bind_some] at h
    rw [h] at this
    simpa using this
  have slot_ne : ∀ {i j d}, slotOf ops i = some d → slotOf ops j = some d → i = j := fun {i j d} h1 h2 => by
    have a1 := slot_lt h1
    have a2 := slot_lt h2
    have := List.all_eq_true.1 (List.all_eq_true.1 hdis i (List.mem_range.2 a1)) j (List.mem_range.2 a2)
    rw [h1, h2] at this
    simpa using this
  let Inv : Array Bool → Act → World → Prop := fun listed a w =>
    (listed.getD s false = false → C a w ∧ ∀ j d, listed.getD j false = true → behind ops j s = true → slotOf ops j = some d → Rw j (a.eval (.tmp d)) w) ∧
    (listed.getD s false = true → D a w) ∧ a.defers = a0.defers ∧ a.tmps.size = a0.tmps.size ∧
    (∀ t, (∀ j, slotOf ops j = some t → listed.getD j false = false) → a.eval (.tmp t) = a0.eval (.tmp t)) ∧
    (∀ j d, listed.getD j false = true → slotOf ops j = some d → Rv j (a.eval (.tmp d))) ∧ (∀ i j, listed.getD j false = true → behind ops i j = true → listed.getD i false = true)
  refine wp_region_any hm (wpAny_inv (Inv := Inv) hlow ?_ ?_ _ _ _ _ (by simp) (by simp) ⟨fun _ => ⟨hC, fun j d hj => ?_⟩, fun h => ?_, rfl, rfl, fun _ _ => rfl, ?_, ?_⟩)
  · intro i listed a w hs hi ⟨hpre, hpost, hd, hsz, hext, hrv, hcl⟩
    obtain ⟨hun, o, ho, hdeps⟩ := mem_ready.1 hi
    have hilt : i < ops.size := (Array.getElem?_eq_some_iff.1 ho).1
    have hli : i < listed.size := by omega
    have hun' : listed.getD i false = false := by simp [hli] at hun ⊢; exact hun
    have hg : o.guard = none := by
      have := Array.all_eq_true.1 hgd i hilt
      rw [Array.getElem?_eq_getElem hilt] at ho
      cases ho
      simpa using this
    have hob := OblAll.get hO (i := i) (o := o) (by simpa using ho)
    rw [Nat.zero_add] at hob
    have he : ∀ t, ((List.range ops.size).all fun j => slotOf ops j != some t || behind ops i j) = true → a.eval (.tmp t) = a0.eval (.tmp t) := fun t htt => hext t fun j hj => by
      have := List.all_eq_true.1 htt j (List.mem_range.2 (slot_lt hj))
      rw [hj] at this
      simp at this
      cases hl : listed.getD j false
      · rfl
      · have := hcl i j hl this; rw [hun'] at this; cases this
    have lstd : ∀ j, behind ops j i = true → listed.getD j false = true := fun j hj => by
      obtain ⟨e, he, h1, h2⟩ := behind_spec hj ho
      rw [← h1]
      exact hdeps e he h2
    have hdst : slotOf ops i = o.dst := by unfold slotOf; rw [ho]; rfl
    have keep : ∀ v t, o.dst ≠ some t → (a.put o.dst v).eval (.tmp t) = a.eval (.tmp t) := fun v t h => Act.eval_put (fun d hd he => h (by rw [hd]; cases he; rfl))
    have lst : ∀ j, (listed.setIfInBounds i true).getD j false = true → j = i ∨ listed.getD j false = true := fun j h => by
      by_cases hji : i = j
      · exact .inl hji.symm
      · rw [getD_set_ne false hji] at h; exact .inr h
    have same : ∀ j, j ≠ i → (listed.setIfInBounds i true).getD j false = listed.getD j false := fun j h => getD_set_ne false (fun e => h e.symm)
    have hcl' : ∀ i' j, (listed.setIfInBounds i true).getD j false = true → behind ops i' j = true → (listed.setIfInBounds i true).getD i' false = true := fun i' j hj hb => by
      rcases lst j hj with rfl | hj'
      · exact getD_set_true (lstd i' hb)
      · exact getD_set_true (hcl i' j hj' hb)
    have newv : ∀ v d, slotOf ops i = some d → (a.put o.dst v).eval (.tmp d) = v := fun v d hjd => by
      rw [hdst] at hjd
      have hb := slot_bd (j := i) (by rw [hdst]; exact hjd)
      unfold Act.put Act.eval; rw [hjd]; simp; exact fun h => absurd (Nat.lt_of_lt_of_le hb (hsz ▸ h)) (Nat.lt_irrefl _)
    have oldv : ∀ v j d, listed.getD j false = true → slotOf ops j = some d → (a.put o.dst v).eval (.tmp d) = a.eval (.tmp d) := fun v j d hj' hjd => keep v d (fun h => by
      have := slot_ne (show slotOf ops i = some d by rw [hdst]; exact h) hjd
      subst this; rw [hun'] at hj'; cases hj')
    have hext' : ∀ v t, (∀ j, slotOf ops j = some t → (listed.setIfInBounds i true).getD j false = false) → (a.put o.dst v).eval (.tmp t) = a0.eval (.tmp t) := fun v t htt => by
      rw [keep v t (fun h => by
        have := htt i (by rw [hdst]; exact h)
        simp [hli] at this)]
      refine hext t fun j hj => ?_
      have := htt j hj
      cases hl : listed.getD j false
      · rfl
      · rw [getD_set_true hl] at this; cases this
    have hd' : ∀ v, (a.put o.dst v).defers = a0.defers := fun v => by rw [← hd]; unfold Act.put; split <;> rfl
    have hsz' : ∀ v, (a.put o.dst v).tmps.size = a0.tmps.size := fun v => by rw [← hsz]; unfold Act.put; split <;> simp
    unfold wpOp
    rw [ho]
    simp only [Region.wanted, hg, if_true]
    by_cases his : i = s
    · subst his
      unfold Obl at hob
      rw [if_pos rfl] at hob
      obtain ⟨hCw, hrw⟩ := hpre hun'
      refine .inl (Oper.wp_mono ?_ (hob a w hCw he fun j d hj hjd => ⟨hrv j d (lstd j hj) hjd, hrw j d (lstd j hj) hj hjd⟩))
      rintro a' w' ⟨rfl, hDa⟩
      have hn : o.dst = none := by rw [← hdst]; simpa using hsn
      refine ⟨fun h => ?_, fun _ => hDa, hd, hsz, ?_, fun j d hj hjd => ?_, hcl'⟩
      · simp [hli] at h
      · have := hext' undef
        rw [hn] at this
        exact this
      · rcases lst j hj with rfl | hj'
        · rw [hdst, hn] at hjd; cases hjd
        · exact hrv j d hj' hjd
    · have hss := same s (fun e => his e.symm)
      by_cases hbs : behind ops i s = true
      · unfold Obl at hob
        rw [if_neg his, if_pos hbs] at hob
        have hs0 : listed.getD s false = false := by
          cases hl : listed.getD s false
          · rfl
          · have := hcl i s hl hbs; rw [hun'] at this; cases this
        obtain ⟨hCw, hrw⟩ := hpre hs0
        have dep : ∀ j, behind ops j i = true → behind ops j s = true := fun j hj => by
          have hjl : j < ops.size := by
            obtain ⟨e, he, h1, h2⟩ := behind_spec hj ho
            have := lowb_spec hlow ho e he h2
            omega
          have := List.all_eq_true.1 (List.all_eq_true.1 hclo i (List.mem_range.2 hilt)) j (List.mem_range.2 hjl)
          rw [hbs, hj] at this
          simpa using this
        refine .inl (Oper.wp_mono ?_ (hob a w hCw he fun j d hj hjd => ⟨hrv j d (lstd j hj) hjd, hrw j d (lstd j hj) (dep j hj) hjd⟩))
        rintro a' w' ⟨v, rfl, k1, k2, k3, k4⟩
        refine ⟨fun _ => ⟨k3, fun j d hj hjb hjd => ?_⟩, fun h => ?_, hd' v, hsz' v, hext' v, fun j d hj hjd => ?_, hcl'⟩
        · rcases lst j hj with rfl | hj'
          · rw [newv v d hjd]; exact k2
          · rw [oldv v j d hj' hjd]; exact hG _ _ _ _ _ hCw k4 (hrw j d hj' hjb hjd)
        · rw [hss, hs0] at h; cases h
        · rcases lst j hj with rfl | hj'
          · rw [newv v d hjd]; exact k1
          · rw [oldv v j d hj' hjd]; exact hrv j d hj' hjd
      · unfold Obl at hob
        rw [if_neg his, if_neg hbs] at hob
        refine .inl (Oper.wp_mono ?_ (hob a w he fun j d hj hjd => hrv j d (lstd j hj) hjd))
        rintro a' w' ⟨v, rfl, k1, rfl, kc, k2⟩
        refine ⟨fun h => ?_, fun h => ?_, hd' v, hsz' v, hext' v, fun j d hj hjd => ?_, hcl'⟩
        · rw [hss] at h
          obtain ⟨hCw, hrw⟩ := hpre h
          refine ⟨kc _ hCw, fun j d hj hjb hjd => ?_⟩
          rcases lst j hj with rfl | hj'
          · exact absurd hjb hbs
          · rw [oldv v j d hj' hjd]; exact hrw j d hj' hjb hjd
        · rw [hss] at h
          exact k2 _ (hpost h)
        · rcases lst j hj with rfl | hj'
          · rw [newv v d hjd]; exact k1
          · rw [oldv v j d hj' hjd]; exact hrv j d hj' hjd
  · intro listed a w hall ⟨_, hpost, hd, hsz, hext, hrv, _⟩
    refine hQ a w (hpost (hall s hslt)) hd hsz (fun t htt => hext t fun j hj => ?_) (fun j d hj => hrv j d (hall j (slot_lt hj)) hj)
    exfalso
    have hlt := slot_lt hj
    have := Array.all_eq_true.1 htt j hlt
    unfold slotOf at hj
    rw [Array.getElem?_eq_getElem hlt] at hj
    simp only [Option.bind_some] at hj
    rw [hj] at this
    simp at this
  · simp at hj
    rw [Array.getElem?_replicate] at hj; split at hj <;> simp at hj
  · simp at h
    rw [Array.getElem?_replicate] at h; split at h <;> simp at h
  · intro j d hj
    simp at hj
    rw [Array.getElem?_replicate] at hj; split at hj <;> simp at hj
  · intro i j hj
    simp at hj
    rw [Array.getElem?_replicate] at hj; split at hj <;> simp at hj
theorem wp_region_mix {id : Nat} {w0 : World} (m : List Bool) (hm : P.follows .mixedOrders = true) (ht : tidy7 ops s a0.tmps.size = true)
    (hk : maskOk ops m a0.tmps.size = true)
    (hG : ∀ a j v w w', C a w → G w w' → Rw j v w → Rw j v w') (hC : C a0 { w0 with drawn := w0.drawn + 1 })
    (hO : OblAll P ops s a0 C D G Rv Rw Q 0 ops.toList)
    (hQ : ∀ (f : Nat → Value) w, D ⟨(mixL f m 0 a0.tmps.toList).toArray, a0.defers⟩ w → (∀ j d, slotOf ops j = some d → Rv j (f d)) → Q .normal ⟨(mixL f m 0 a0.tmps.toList).toArray, a0.defers⟩ w) :
    (Code.region id ops true).wp P Q a0 w0 := by
  refine wp_region_inv hm ht hG hC hO fun a w hD hd hsz hext hrv => ?_
  unfold maskOk at hk
  simp only [Bool.and_eq_true, beq_iff_eq] at hk
  obtain ⟨hml, hmk⟩ := hk
  have e : a = ⟨(mixL (fun t => a.eval (.tmp t)) m 0 a0.tmps.toList).toArray, a0.defers⟩ := by
    rw [mixL_eq _ _ _ _ (by simpa using hml) ?_]
    · cases a with
      | mk tmps defers =>
        simp only [Act.mk.injEq]
        refine ⟨?_, hd⟩
        apply Array.ext'
        apply List.ext_getElem?
        intro i
        simp only at hsz
        by_cases hi : i < tmps.size
        · have hi' : i < a0.tmps.size := by omega
          simp [hi, hi', Act.eval]
        · have hi' : ¬ i < a0.tmps.size := by omega
          simp [hi, hi']
    · intro i hi
      have hlt : i < a0.tmps.size := by
        have := (List.getElem?_eq_some_iff.1 hi).1; omega
      have h1 := List.all_eq_true.1 hmk i (List.mem_range.2 hlt)
      have h2 : m.getD i false = false := by simp [List.getD, hi]
      rw [h2, Bool.false_or] at h1
      have h3 := hext i h1
      rw [Nat.zero_add, h3]
      simp [Act.eval, hlt]
  have hQ' := hQ (fun t => a.eval (.tmp t)) w
  rw [← e] at hQ'
  exact hQ' hD fun j d hj => hrv j d hj
end
end Reg7
end Go.Proofs.Ytmbekamnogbgaaa

/-
Texts in one: what HoldMesh stands on, part 31. Conditions: those of each.
-/
import Derived.Test.YtajglpkeojaelaaKHoldMesh30

/-
A bare body: what the program and its model return. Conditions: the mesh lies in memory.
-/
namespace Go.Proofs.Ytajglpkeojaelaa
open Go Fk Go.RowKit
set_option linter.unusedVariables false
set_option maxRecDepth 8000

theorem nil_gb (lo hi F : Nat) (w : World) : GB lo hi w nilB F :=
  ⟨⟨.inl ⟨rfl, rfl⟩, .inl ⟨rfl, rfl⟩, fun P e => by cases e⟩, .inl ⟨rfl, rfl⟩, .inl ⟨rfl, rfl⟩, fun X e => (by cases e), fun X e => (by cases e)⟩
theorem bar_len (cs : List C3) (ts : List (List Int)) : (barO cs ts).cs.length ≤ 64 ∧ (barO cs ts).ts.length ≤ 128 ∧ (barO cs ts).ss.length = 0 ∧ (barO cs ts).zs.length ≤ 64 ∧ ∀ k, k < (barO cs ts).ts.length → ((barO cs ts).ts.getD k []).length ≤ 1048576 := by
  unfold barO
  cases hv : validB cs ts
  · exact ⟨Nat.zero_le _, Nat.zero_le _, rfl, Nat.zero_le _, fun k hk => absurd hk (Nat.not_lt_zero k)⟩
  · obtain ⟨h1, h2⟩ := valid_pl hv
    refine ⟨h1, h2, rfl, ?_, fun k hk => ?_⟩
    · show (List.replicate cs.length 0).length ≤ 64
      rw [List.length_replicate]; exact h1
    · show (ts.getD k []).length ≤ 1048576
      have := rows3h hv k hk
      omega
theorem GB.wide {lo hi lo' hi' F : Nat} {w : World} {B : Bd} (h : GB lo hi w B F) (h1 : lo' ≤ lo) (h2 : hi ≤ hi') : GB lo' hi' w B F :=
  ⟨h.1.widen h1 h2, lst_widen h.2.1 h1 h2, lst_widen h.2.2.1 h1 h2, h.2.2.2⟩
/-- The bare body before it is copied. -/
def bareB (pa ta : Option Addr) (pl pc tl tc g : Nat) : Bd := ⟨pa, ta, none, some ⟨g, 0, none⟩, pl, pc, tl, tc, 0, 0, pl, pl, 0, 0, 0, 0, 0⟩
end Go.Proofs.Ytajglpkeojaelaa


/-
Copies of motions, and that they are the same: what the law's own functions return. Conditions: at most 2^20 of each.
-/
namespace Go.Proofs.Ytajglpkeojaelaa
open Go Fk Go.RowKit
set_option linter.unusedVariables false
set_option maxRecDepth 8000

/-- A motion's value. -/
abbrev mv (B : Bd) (va : Option Addr) (vl vc : Nat) : Value := .agg #[.slice B.pa B.pl B.pc, .slice B.ta B.tl B.tc, .slice B.sa B.sl B.sc, .float .f32 B.film, .float .f32 B.bend, .slice B.wa B.wl B.wc, .float .f32 B.x, .float .f32 B.y, .float .f32 B.z, .slice va vl vc]
abbrev ml (B : Bd) (va : Option Addr) (vl vc : Nat) : List Value := [.slice B.pa B.pl B.pc, .slice B.ta B.tl B.tc, .slice B.sa B.sl B.sc, .float .f32 B.film, .float .f32 B.bend, .slice B.wa B.wl B.wc, .float .f32 B.x, .float .f32 B.y, .float .f32 B.z, .slice va vl vc]
abbrev BoxM (B : Bd) (va : Option Addr) (vl vc : Nat) (t : TypeId) : Obj := .cells #[.slice B.pa B.pl B.pc, .slice B.ta B.tl B.tc, .slice B.sa B.sl B.sc, .float .f32 B.film, .float .f32 B.bend, .slice B.wa B.wl B.wc, .float .f32 B.x, .float .f32 B.y, .float .f32 B.z, .slice va vl vc] t
abbrev Z10 : List Value := [.slice none 0 0, .slice none 0 0, .slice none 0 0, .float .f32 0, .float .f32 0, .slice none 0 0, .float .f32 0, .float .f32 0, .float .f32 0, .slice none 0 0]
theorem laws_szMotion (B : Bd) (c : Bc) (va : Option Addr) (vl vc : Nat) (vs : List C3) (left : Int) (w : World) (h : IsB w B c) (hv : IsVs w va vl vc vs) (h0 : 0 ≤ left) (h1 : left ≤ 1048576) :
    Calls Try.prog 28 #[mv B va vl vc, .int .i64 left] w fun e w' => (∃ r : Int, e = .returned (.int .i64 r) ∧ (r = -1 ∨ (0 ≤ r ∧ SmallB c ∧ vl ≤ 1048576))) ∧ Below w.heap.size w w' := by
  have ul := Try.underlying57
  have ulb := Try.underlying32
  have hA0 : At (w.alloc (BoxM B va vl vc 57)) w.heap.size (ml B va vl vc) := At.new
  have hB0 := (Below.refl w.heap.size w).alloc (Nat.le_refl _) (BoxM B va vl vc 57)
  have H0 := Lib.hid (h.below hB0)
  have hvm : vl ≤ 9223372036854775807 := by have h1 := hv.2.1; have h2 := hv.2.2.1; unfold maxLen at h2; omega
  have HA0 := Lib.hid hA0
  have HB0 := Lib.hid hB0
  clear hA0 hB0 h hv
  go_enter Try.func28, Try.ntmps28
  go_wp2_with fail
  change Calls _ _ _ (w.alloc (BoxM B va vl vc 57)) _
  generalize (w.alloc (BoxM B va vl vc 57)) = W at *
  refine (laws_szBody' B c left _ H0.out h0 h1).mono ?_
  rintro e w1 ⟨⟨r, rfl, hr⟩, hB1⟩
  have k9 := HA0.out.below hB1 9 _ rfl
  have HB1 := Lib.hid (HB0.out.trans (hB1.mono HB0.out.size))
  clear hB1
  rcases hr with rfl | ⟨r0, r1, hs⟩
  · go_wp2
    go_ret
    exact ⟨⟨-1, rfl, .inl rfl⟩, HB1.out⟩
  · have HS := Lib.hid hs
    clear hs
    go_wp2_with (go_at_call 22; refine (laws_szVectorS _ _ _ _ _ r0 r1 hvm).mono ?_; rintro e w2 ⟨⟨q, rfl, hq⟩, hw2⟩; rw [hw2]; clear hw2 w2; rcases hq with rfl | ⟨q0, q1, q2⟩)
    · go_ret
      exact ⟨⟨-1, rfl, .inl rfl⟩, HB1.out⟩
    · go_wp2
      go_ret
      exact ⟨⟨q, rfl, .inr ⟨q0, HS.out, q2⟩⟩, HB1.out⟩
theorem laws_eqMotion (B B' : Bd) (c : Bc) (va va' : Option Addr) (vl vc vc' : Nat) (vs : List C3) (w : World) (h : IsB w B c) (h' : IsB w B' c) (hs : SmallB c) (hv : IsVs w va vl vc vs) (hv' : IsVs w va' vl vc' vs) :
    Calls Try.prog 32 #[mv B va vl vc, mv B' va' vl vc'] w fun e w' => e = .returned (.bool true) ∧ Below w.heap.size w w' := by
  have ui := Try.underlying61
  have uib := Try.underlying42
  have a0 : At ((w.alloc (BoxM B va vl vc 61)).alloc (BoxM B' va' vl vc' 61)) w.heap.size (ml B va vl vc) := At.new.alloc
  have a1 : At ((w.alloc (BoxM B va vl vc 61)).alloc (BoxM B' va' vl vc' 61)) (w.heap.size + 1) (ml B' va' vl vc') := by
    have := At.new (w := w.alloc (BoxM B va vl vc 61)) (vs := ml B' va' vl vc') (t := 61)
    simpa using this
  have b0 := ((Below.refl w.heap.size w).alloc (Nat.le_refl _) (BoxM B va vl vc 61)).alloc (by simp) (BoxM B' va' vl vc' 61)
  have H := Lib.hid (And.intro (h.below b0) (And.intro (h'.below b0) (And.intro (hv.below b0) (hv'.below b0))))
  have HS := Lib.hid hs
  have A0 := Lib.hid a0
  have A1 := Lib.hid a1
  have B0 := Lib.hid b0
  clear h h' hs a0 a1 b0 hv hv'
  go_enter Try.func32, Try.ntmps32
  go_wp2_with fail
  change Calls _ _ _ ((w.alloc (BoxM B va vl vc 61)).alloc (BoxM B' va' vl vc' 61)) _
  generalize ((w.alloc (BoxM B va vl vc 61)).alloc (BoxM B' va' vl vc' 61)) = W at *
  refine (laws_eqBody B B' c _ H.out.1 H.out.2.1 HS.out).mono ?_
  rintro e w1 ⟨rfl, hB1⟩
  have k9 := A0.out.below hB1 9 _ rfl
  have j9 := A1.out.below hB1 9 _ rfl
  have H1 := Lib.hid (And.intro (H.out.2.2.1.below hB1) (H.out.2.2.2.below hB1))
  have B1 := Lib.hid (B0.out.trans (hB1.mono B0.out.size))
  clear hB1
  go_wp2_with fail
  refine (laws_eqVectorS _ _ _ _ _ vs _ H1.out.1 H1.out.2).mono ?_
  rintro e w2 ⟨rfl, hB2⟩
  have B2 := Lib.hid (B1.out.trans (hB2.mono B1.out.size))
  clear hB2
  go_wp2
  go_ret
  exact ⟨rfl, B2.out⟩
theorem own_vs {w : World} {lo b n c : Nat} {cs : List C3} (h : IsVs w (some ⟨b, 0, none⟩) n c cs) (h1 : lo ≤ b) (h2 : b < w.heap.size) (hf : ∀ i, w.frozen? ⟨b, i, none⟩ = false) : Own lo w.heap.size w b 0 (n * 3) :=
  ⟨h1, h2, h2, fun j hj => ⟨by obtain ⟨v, hv⟩ := cells_of h j hj; exact ⟨v, hv⟩, hf _⟩⟩
set_option maxHeartbeats 2000000 in
theorem laws_toMotionO (B : Bd) (c : Bc) (va : Option Addr) (vl vc : Nat) (vs : List C3) (w : World) (h : IsB w B c) (hs : SmallB c) (hv : IsVs w va vl vc vs) (hvl : vl ≤ 1048576) :
    Calls Try.prog 30 #[mv B va vl vc] w fun e w' => ∃ (B' : Bd) (g : Nat), e = .returned (mv B' (some ⟨g, 0, none⟩) vl vl) ∧ IsB w' B' c ∧ IsVs w' (some ⟨g, 0, none⟩) vl vl vs ∧ OwnB w.heap.size w'.heap.size w' B' c.ts ∧ Own w.heap.size w'.heap.size w' g 0 (vl * 3) ∧ Below w.heap.size w w' := by
  have ul := Try.underlying57
  have ui := Try.underlying61
  have ulb := Try.underlying32
  have uib := Try.underlying42
  have H := Lib.hid h
  have HV := Lib.hid hv
  have HS := Lib.hid hs
  clear h hs hv
  have T0 : Hid (Tb w (ml B va vl vc) Z10 Z10 (((w.alloc (BoxM B va vl vc 57)).alloc (.cells #[.slice none 0 0, .slice none 0 0, .slice none 0 0, .float .f32 0, .float .f32 0, .slice none 0 0, .float .f32 0, .float .f32 0, .float .f32 0, .slice none 0 0] 61)).alloc (.cells #[.slice none 0 0, .slice none 0 0, .slice none 0 0, .float .f32 0, .float .f32 0, .slice none 0 0, .float .f32 0, .float .f32 0, .float .f32 0, .slice none 0 0] 61))) := Lib.hid Tb.start
  go_enter Try.func30, Try.ntmps30
  go_wp2_with fail
  change Calls _ _ _ (((w.alloc (BoxM B va vl vc 57)).alloc (.cells #[.slice none 0 0, .slice none 0 0, .slice none 0 0, .float .f32 0, .float .f32 0, .slice none 0 0, .float .f32 0, .float .f32 0, .float .f32 0, .slice none 0 0] 61)).alloc (.cells #[.slice none 0 0, .slice none 0 0, .slice none 0 0, .float .f32 0, .float .f32 0, .slice none 0 0, .float .f32 0, .float .f32 0, .float .f32 0, .slice none 0 0] 61)) _
  generalize (((w.alloc (BoxM B va vl vc 57)).alloc (.cells #[.slice none 0 0, .slice none 0 0, .slice none 0 0, .float .f32 0, .float .f32 0, .slice none 0 0, .float .f32 0, .float .f32 0, .float .f32 0, .slice none 0 0] 61)).alloc (.cells #[.slice none 0 0, .slice none 0 0, .slice none 0 0, .float .f32 0, .float .f32 0, .slice none 0 0, .float .f32 0, .float .f32 0, .float .f32 0, .slice none 0 0] 61)) = W at *
  refine (laws_toBodyO B c _ (H.out.below T0.out.bel) HS.out).mono ?_
  rintro e w1 ⟨X, rfl, hX, hO, hB1⟩
  have T1 := Lib.hid (T0.out.call hB1)
  have M1 := Lib.hid (And.intro hX hO)
  clear hX hO hB1
  have k9 := T1.out.arg 9 _ rfl
  have e0 := T1.out.out 0 _ rfl
  have e1 := T1.out.out 1 _ rfl
  have e2 := T1.out.out 2 _ rfl
  have e3 := T1.out.out 3 _ rfl
  have e4 := T1.out.out 4 _ rfl
  have e5 := T1.out.out 5 _ rfl
  have e6 := T1.out.out 6 _ rfl
  have e7 := T1.out.out 7 _ rfl
  have e8 := T1.out.out 8 _ rfl
  have g0 := T1.out.fo 0
  have g1 := T1.out.fo 1
  have g2 := T1.out.fo 2
  have g3 := T1.out.fo 3
  have g4 := T1.out.fo 4
  have g5 := T1.out.fo 5
  have g6 := T1.out.fo 6
  have g7 := T1.out.fo 7
  have g8 := T1.out.fo 8
  go_wp2_with fail
  clear k9 e0 e1 e2 e3 e4 e5 e6 e7 e8 g0 g1 g2 g3 g4 g5 g6 g7 g8
  change Calls _ _ _ (setL w1 (w.heap.size + 1 + 1) 0 X.l) _
  have T2 := Lib.hid (T1.out.put 0 (vs := X.l) (Nat.le_of_ble_eq_true rfl))
  have A1 := Lib.hid (Agree.setL (Sx.out (w := w)) X.l w1 0 (Agree.refl (Sx w) w1))
  generalize (setL w1 (w.heap.size + 1 + 1) 0 X.l) = W1 at *
  refine (laws_toVectorS' _ _ _ vs _ (HV.out.below T2.out.bel) hvl).mono ?_
  rintro e w2 ⟨rfl, hV, hB2, hz2, hf2⟩
  have T3 := Lib.hid (T2.out.call hB2)
  have A2 := Lib.hid (A1.out.trans (Agree.of_below hB2))
  have V2 := Lib.hid (And.intro hV (And.intro hz2 hf2))
  have hbig := T2.out.big
  obtain ⟨g, hg⟩ : ∃ g, g = W1.heap.size := ⟨_, rfl⟩
  rw [← hg] at V2 hbig ⊢
  have NG := Lib.hid hbig
  clear hV hB2 hz2 hf2 hg hbig
  have e0 := T3.out.out 0 _ rfl
  have e1 := T3.out.out 1 _ rfl
  have e2 := T3.out.out 2 _ rfl
  have e3 := T3.out.out 3 _ rfl
  have e4 := T3.out.out 4 _ rfl
  have e5 := T3.out.out 5 _ rfl
  have e6 := T3.out.out 6 _ rfl
  have e7 := T3.out.out 7 _ rfl
  have e8 := T3.out.out 8 _ rfl
  have e9 := T3.out.out 9 _ rfl
  have g9 := T3.out.fo 9
  have q0 := T3.out.res 0 _ rfl
  have p0 := T3.out.fr 0
  have q1 := T3.out.res 1 _ rfl
  have p1 := T3.out.fr 1
  have q2 := T3.out.res 2 _ rfl
  have p2 := T3.out.fr 2
  have q3 := T3.out.res 3 _ rfl
  have p3 := T3.out.fr 3
  have q4 := T3.out.res 4 _ rfl
  have p4 := T3.out.fr 4
  have q5 := T3.out.res 5 _ rfl
  have p5 := T3.out.fr 5
  have q6 := T3.out.res 6 _ rfl
  have p6 := T3.out.fr 6
  have q7 := T3.out.res 7 _ rfl
  have p7 := T3.out.fr 7
  have q8 := T3.out.res 8 _ rfl
  have p8 := T3.out.fr 8
  have q9 := T3.out.res 9 _ rfl
  have p9 := T3.out.fr 9
  have T4 := Lib.hid (T3.out.put 9 (vs := [.slice (some ⟨g, 0, none⟩) vl vl]) (Nat.le_of_ble_eq_true rfl))
  have A3 := Lib.hid (Agree.setL (Sx.out (w := w)) [.slice (some ⟨g, 0, none⟩) vl vl] w2 9 (Agree.refl (Sx w) w2))
  obtain ⟨hR, hBB⟩ := T4.out.fin (vs' := ml X (some ⟨g, 0, none⟩) vl vl) rfl
  have A4 := Agree.setL (Sx.res (w := w)) (ml X (some ⟨g, 0, none⟩) vl vl) _ 0 A3.out
  simp only [setL, Nat.zero_add, Nat.reduceAdd] at hR hBB A4
  have HR := Lib.hid hR
  have HBB := Lib.hid hBB
  have HA4 := Lib.hid A4
  clear hR hBB A4
  go_wp2
  clear e0 e1 e2 e3 e4 e5 e6 e7 e8 e9 g9 q0 q1 q2 q3 q4 q5 q6 q7 q8 q9 p0 p1 p2 p3 p4 p5 p6 p7 p8 p9
  have m0 := HR.out 0 _ rfl
  have m1 := HR.out 1 _ rfl
  have m2 := HR.out 2 _ rfl
  have m3 := HR.out 3 _ rfl
  have m4 := HR.out 4 _ rfl
  have m5 := HR.out 5 _ rfl
  have m6 := HR.out 6 _ rfl
  have m7 := HR.out 7 _ rfl
  have m8 := HR.out 8 _ rfl
  have m9 := HR.out 9 _ rfl
  have G2 := HA4.out
  have G1 := A2.out.trans G2
  have hng := NG.out
  have hbw := T0.out.big
  refine bodyPost_ret (v := mv X (some ⟨g, 0, none⟩) vl vl) (by simp [results, Try.results30, go_sem, m0, m1, m2, m3, m4, m5, m6, m7, m8, m9]) rfl ?_
  have s1 : ∀ q, W.heap.size ≤ q → q < w1.heap.size → Sx w q := Sx.new (by omega)
  have s2 : ∀ q, g ≤ q → q < w2.heap.size → Sx w q := Sx.new (by omega)
  have LV2 : LV g w2.heap.size (some ⟨g, 0, none⟩) := fun x hx => by cases hx; exact ⟨g, rfl, Nat.le_refl _, V2.out.2.1⟩
  have OV := own_vs V2.out.1 (Nat.le_refl g) V2.out.2.1 V2.out.2.2
  have z1 := G1.size
  have z2 := G2.size
  exact ⟨X, g, rfl, M1.out.1.agree M1.out.2.lb s1 G1, vs_agree V2.out.1 LV2 s2 G2, (M1.out.2.agree s1 G1).wide (by omega) z1, (OV.agree s2 G2).widen (by omega) z2, HBB.out⟩
end Go.Proofs.Ytajglpkeojaelaa


/-
Marks in copies of bodies and motions. Conditions: the lists may be written.
-/
namespace Go.Proofs.Ytajglpkeojaelaa
open Go Fk Go.RowKit
set_option linter.unusedVariables false
set_option maxRecDepth 8000

theorem laws_markMeshB (lo hi b o b' o' pl pc tl tc : Nat) (ts : List (List Int)) (k0 : Nat) (w : World) (h : OwnM lo hi w b o b' o' pl tl ts) (hlo : lo ≤ w.heap.size) (h1 : pl ≤ 1048576) (h2 : tl ≤ 1048576) (hn : ∀ j, j < tl → (ts.getD j []).length ≤ 1048576) (hk : k0 ≤ 1000000) :
    Calls Try.prog 45 #[.agg #[.slice (some ⟨b, o, none⟩) pl pc, .slice (some ⟨b', o', none⟩) tl tc], .int .i64 k0] w fun e w' => ∃ z : Nat, z ≤ 2000000000000000000 ∧ e = .returned (.int .i64 z) ∧ Mark lo hi w w' := by
  have ui := Try.underlying38
  obtain ⟨hown, hrows, hne, hlt⟩ := h
  have hA : Mark lo hi w (w.alloc (.cells #[.slice (some ⟨b, o, none⟩) pl pc, .slice (some ⟨b', o', none⟩) tl tc] 38)) := Mark.alloc hlo _
  have a1 : (w.alloc (.cells #[.slice (some ⟨b, o, none⟩) pl pc, .slice (some ⟨b', o', none⟩) tl tc] 38)).cell? ⟨w.heap.size, 1, none⟩ = some (.slice (some ⟨b', o', none⟩) tl tc) := by go_simp
  have a0 : (w.alloc (.cells #[.slice (some ⟨b, o, none⟩) pl pc, .slice (some ⟨b', o', none⟩) tl tc] 38)).cell? ⟨w.heap.size, 0, none⟩ = some (.slice (some ⟨b, o, none⟩) pl pc) := by go_simp
  have nb : w.heap.size ≠ b := by have := hown.2.2.1; omega
  have hV := laws_markVectorS lo hi b o pl pc k0 _ (hown.mark hA) (by omega)
  have hs : ∀ i, (w.alloc (.cells #[.slice (some ⟨b, o, none⟩) pl pc, .slice (some ⟨b', o', none⟩) tl tc] 38)).cell? ⟨b', i, none⟩ = w.cell? ⟨b', i, none⟩ := fun i => by rw [World.cell?_alloc_lt (h := hlt)]
  have HV := Lib.hid hV
  have HA := Lib.hid hA
  have HR := Lib.hid (hrows.mark hs hA)
  have HNE := Lib.hid hne
  have HNB := Lib.hid nb
  have HN := Lib.hid hn
  clear hV hA hrows hne hs nb hown hlt hn
  generalize hCH : w.alloc (.cells #[.slice (some ⟨b, o, none⟩) pl pc, .slice (some ⟨b', o', none⟩) tl tc] 38) = W at *
  go_enter Try.func45, Try.ntmps45
  go_wp2_with fail
  refine HV.out.mono ?_
  rintro e w1 ⟨rfl, _, ho, hM1⟩
  have a1' : w1.cell? ⟨w.heap.size, 1, none⟩ = some (.slice (some ⟨b', o', none⟩) tl tc) := (ho _ _ (.inl HNB.out)).trans a1
  have HR1 := Lib.hid (HR.out.mark (fun i => ho b' i (.inl (fun h => HNE.out h.symm))) hM1)
  have HM1 := Lib.hid (HA.out.trans hM1)
  clear ho hM1 a0 a1 HV HR hCH
  generalize hq : k0 + pl * 3 = q at *
  have hq' : q ≤ 1000000000000000000 := by omega
  clear hq
  go_wp2_with (go_at_call 93; refine (laws_markInt64SS lo hi b' o' tl tc ts q w1 HR1.out h2 HN.out hq').mono ?_; rintro e w2 ⟨z, hz, rfl, _, hM2⟩; have HM2 := Lib.hid hM2; clear hM2)
  go_ret
  exact ⟨z, by omega, rfl, HM1.out.trans HM2.out⟩
/-- A motion that a function made: its lists lie in blocks of their own. -/
def GMo (lo hi : Nat) (w : World) (B : Bd) (F : Nat) (va : Option Addr) (vl : Nat) : Prop :=
  GB lo hi w B F ∧ Lst lo hi w va (vl * 3) ∧ ∀ X, va = some ⟨X, 0, none⟩ → X ≠ F ∧ B.pa ≠ some ⟨X, 0, none⟩ ∧ B.ta ≠ some ⟨X, 0, none⟩ ∧ B.sa ≠ some ⟨X, 0, none⟩ ∧ B.wa ≠ some ⟨X, 0, none⟩
theorem GMo.agree {S : Nat → Prop} {W w : World} {lo hi F vl : Nat} {B : Bd} {va : Option Addr} (h : GMo lo hi W B F va vl) (hS : ∀ b, lo ≤ b → b < hi → S b) (hA : Agree S W w) : GMo lo hi w B F va vl :=
  ⟨h.1.agree hS hA, h.2.1.agree hS hA, h.2.2⟩
theorem GMo.below {W w : World} {lo hi F vl : Nat} {B : Bd} {va : Option Addr} (h : GMo lo hi W B F va vl) (hB : Below W.heap.size W w) : GMo lo hi w B F va vl :=
  h.agree (S := fun _ => True) (fun _ _ _ => trivial) (Agree.of_below hB)
def VecM (w : World) (a : Option Addr) (n q : Nat) : Prop := (a = none ∧ n = 0) ∨ ∃ P, a = some ⟨P, 0, none⟩ ∧ ∀ j, j < n * 3 → w.cell? ⟨P, 0 + j, none⟩ = some (.float .f32 (floatOfInt .f32 ((q + j : Nat) : Int)))
theorem VecM.below {w w' : World} {a : Option Addr} {n q : Nat} (h : VecM w a n q) (hB : Below w.heap.size w w') : VecM w' a n q :=
  h.imp id fun ⟨P, e, hc⟩ => ⟨P, e, fun j hj => cell_below hB (hc j hj)⟩
def MrkMo (w : World) (B : Bd) (F : Nat) (va : Option Addr) (vl : Nat) : Prop := MrkB w B F ∧ VecM w va vl (1 + B.pl * 3 + B.tl * 3 + B.sl * 4 + B.wl)
theorem MrkMo.below {w w' : World} {B : Bd} {F vl : Nat} {va : Option Addr} (h : MrkMo w B F va vl) (hB : Below w.heap.size w w') : MrkMo w' B F va vl := ⟨h.1.below hB, h.2.below hB⟩
end Go.Proofs.Ytajglpkeojaelaa

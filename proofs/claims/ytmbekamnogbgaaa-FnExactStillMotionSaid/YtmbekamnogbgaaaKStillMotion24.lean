/-
Texts in one: what StillMotion stands on, part 24. Conditions: those of each.
-/
import Derived.Test.YtmbekamnogbgaaaKStillMotion23

/-
Copies of motions, and that they are the same: what the law's own functions return. Conditions: at most 2^20 of each.
-/
namespace Go.Proofs.Ytmbekamnogbgaaa
open Go Fk Go.RowKit
set_option linter.unusedVariables false
set_option maxRecDepth 8000

/-- A motion's value. -/
abbrev mv (B : Bd) (va : Option Addr) (vl vc : Nat) : Value := .agg #[.slice B.pa B.pl B.pc, .slice B.ta B.tl B.tc, .slice B.sa B.sl B.sc, .float .f32 B.film, .float .f32 B.bend, .slice B.wa B.wl B.wc, .float .f32 B.x, .float .f32 B.y, .float .f32 B.z, .slice va vl vc]
abbrev ml (B : Bd) (va : Option Addr) (vl vc : Nat) : List Value := [.slice B.pa B.pl B.pc, .slice B.ta B.tl B.tc, .slice B.sa B.sl B.sc, .float .f32 B.film, .float .f32 B.bend, .slice B.wa B.wl B.wc, .float .f32 B.x, .float .f32 B.y, .float .f32 B.z, .slice va vl vc]
abbrev BoxM (B : Bd) (va : Option Addr) (vl vc : Nat) (t : TypeId) : Obj := .cells #[.slice B.pa B.pl B.pc, .slice B.ta B.tl B.tc, .slice B.sa B.sl B.sc, .float .f32 B.film, .float .f32 B.bend, .slice B.wa B.wl B.wc, .float .f32 B.x, .float .f32 B.y, .float .f32 B.z, .slice va vl vc] t
abbrev Z10 : List Value := [.slice none 0 0, .slice none 0 0, .slice none 0 0, .float .f32 0, .float .f32 0, .slice none 0 0, .float .f32 0, .float .f32 0, .float .f32 0, .slice none 0 0]
theorem laws_eqMotion (B B' : Bd) (c : Bc) (va va' : Option Addr) (vl vc vc' : Nat) (vs : List C3) (w : World) (h : IsB w B c) (h' : IsB w B' c) (hs : SmallB c) (hv : IsVs w va vl vc vs) (hv' : IsVs w va' vl vc' vs) :
    Calls Try.prog 41 #[mv B va vl vc, mv B' va' vl vc'] w fun e w' => e = .returned (.bool true) ∧ Below w.heap.size w w' := by
  have ui := Try.underlying67
  have uib := Try.underlying36
  have a0 : At ((w.alloc (BoxM B va vl vc 67)).alloc (BoxM B' va' vl vc' 67)) w.heap.size (ml B va vl vc) := At.new.alloc
  have a1 : At ((w.alloc (BoxM B va vl vc 67)).alloc (BoxM B' va' vl vc' 67)) (w.heap.size + 1) (ml B' va' vl vc') := by
    have := At.new (w := w.alloc (BoxM B va vl vc 67)) (vs := ml B' va' vl vc') (t := 67)
    simpa using this
  have b0 := ((Below.refl w.heap.size w).alloc (Nat.le_refl _) (BoxM B va vl vc 67)).alloc (by simp) (BoxM B' va' vl vc' 67)
  have H := Lib.hid (And.intro (h.below b0) (And.intro (h'.below b0) (And.intro (hv.below b0) (hv'.below b0))))
  have HS := Lib.hid hs
  have A0 := Lib.hid a0
  have A1 := Lib.hid a1
  have B0 := Lib.hid b0
  clear h h' hs a0 a1 b0 hv hv'
  go_enter Try.func41, Try.ntmps41
  go_wp2_with fail
  change Calls _ _ _ ((w.alloc (BoxM B va vl vc 67)).alloc (BoxM B' va' vl vc' 67)) _
  generalize ((w.alloc (BoxM B va vl vc 67)).alloc (BoxM B' va' vl vc' 67)) = W at *
  refine (laws_eqBody B B' c _ H.out.1 H.out.2.1 HS.out).mono ?_
  rintro e w1 ⟨rfl, hB1⟩
  have k9 := A0.out.below hB1 9 _ rfl
  have j9 := A1.out.below hB1 9 _ rfl
  have H1 := Lib.hid (And.intro (H.out.2.2.1.below hB1) (H.out.2.2.2.below hB1))
  have B1 := Lib.hid (B0.out.trans (hB1.mono B0.out.size))
  clear hB1
  go_wp2_with fail
  refine (laws_eqVectorS _ _ _ _ _ vs _ H1.out.1 H1.out.2).mono ?_
  rintro e w2 ⟨rfl, hB2⟩
  have B2 := Lib.hid (B1.out.trans (hB2.mono B1.out.size))
  clear hB2
  go_wp2
  go_ret
  exact ⟨rfl, B2.out⟩
theorem own_vs {w : World} {lo b n c : Nat} {cs : List C3} (h : IsVs w (some ⟨b, 0, none⟩) n c cs) (h1 : lo ≤ b) (h2 : b < w.heap.size) (hf : ∀ i, w.frozen? ⟨b, i, none⟩ = false) : Own lo w.heap.size w b 0 (n * 3) :=
  ⟨h1, h2, h2, fun j hj => ⟨by obtain ⟨v, hv⟩ := cells_of h j hj; exact ⟨v, hv⟩, hf _⟩⟩
end Go.Proofs.Ytmbekamnogbgaaa


/-
Marks in copies of bodies and motions. Conditions: the lists may be written.
-/
namespace Go.Proofs.Ytmbekamnogbgaaa
open Go Fk Go.RowKit
set_option linter.unusedVariables false
set_option maxRecDepth 8000

theorem laws_markMeshB (lo hi b o b' o' pl pc tl tc : Nat) (ts : List (List Int)) (k0 : Nat) (w : World) (h : OwnM lo hi w b o b' o' pl tl ts) (hlo : lo ≤ w.heap.size) (h1 : pl ≤ 1048576) (h2 : tl ≤ 1048576) (hn : ∀ j, j < tl → (ts.getD j []).length ≤ 1048576) (hk : k0 ≤ 1000000) :
    Calls Try.prog 21 #[.agg #[.slice (some ⟨b, o, none⟩) pl pc, .slice (some ⟨b', o', none⟩) tl tc], .int .i64 k0] w fun e w' => ∃ z : Nat, z ≤ 2000000000000000000 ∧ e = .returned (.int .i64 z) ∧ Mark lo hi w w' := by
  have ui := Try.underlying29
  obtain ⟨hown, hrows, hne, hlt⟩ := h
  have hA : Mark lo hi w (w.alloc (.cells #[.slice (some ⟨b, o, none⟩) pl pc, .slice (some ⟨b', o', none⟩) tl tc] 29)) := Mark.alloc hlo _
  have a1 : (w.alloc (.cells #[.slice (some ⟨b, o, none⟩) pl pc, .slice (some ⟨b', o', none⟩) tl tc] 29)).cell? ⟨w.heap.size, 1, none⟩ = some (.slice (some ⟨b', o', none⟩) tl tc) := by go_simp
  have a0 : (w.alloc (.cells #[.slice (some ⟨b, o, none⟩) pl pc, .slice (some ⟨b', o', none⟩) tl tc] 29)).cell? ⟨w.heap.size, 0, none⟩ = some (.slice (some ⟨b, o, none⟩) pl pc) := by go_simp
  have nb : w.heap.size ≠ b := by have := hown.2.2.1; omega
  have hV := laws_markVectorS lo hi b o pl pc k0 _ (hown.mark hA) (by omega)
  have hs : ∀ i, (w.alloc (.cells #[.slice (some ⟨b, o, none⟩) pl pc, .slice (some ⟨b', o', none⟩) tl tc] 29)).cell? ⟨b', i, none⟩ = w.cell? ⟨b', i, none⟩ := fun i => by rw [World.cell?_alloc_lt (h := hlt)]
  have HV := Lib.hid hV
  have HA := Lib.hid hA
  have HR := Lib.hid (hrows.mark hs hA)
  have HNE := Lib.hid hne
  have HNB := Lib.hid nb
  have HN := Lib.hid hn
  clear hV hA hrows hne hs nb hown hlt hn
  generalize hCH : w.alloc (.cells #[.slice (some ⟨b, o, none⟩) pl pc, .slice (some ⟨b', o', none⟩) tl tc] 29) = W at *
  go_enter Try.func21, Try.ntmps21
  go_wp2_with fail
  refine HV.out.mono ?_
  rintro e w1 ⟨rfl, _, ho, hM1⟩
  have a1' : w1.cell? ⟨w.heap.size, 1, none⟩ = some (.slice (some ⟨b', o', none⟩) tl tc) := (ho _ _ (.inl HNB.out)).trans a1
  have HR1 := Lib.hid (HR.out.mark (fun i => ho b' i (.inl (fun h => HNE.out h.symm))) hM1)
  have HM1 := Lib.hid (HA.out.trans hM1)
  clear ho hM1 a0 a1 HV HR hCH
  generalize hq : k0 + pl * 3 = q at *
  have hq' : q ≤ 1000000000000000000 := by omega
  clear hq
  go_wp2_with (go_at_call 63; refine (laws_markInt64SS lo hi b' o' tl tc ts q w1 HR1.out h2 HN.out hq').mono ?_; rintro e w2 ⟨z, hz, rfl, _, hM2⟩; have HM2 := Lib.hid hM2; clear hM2)
  go_ret
  exact ⟨z, by omega, rfl, HM1.out.trans HM2.out⟩
set_option maxHeartbeats 1000000 in
theorem laws_markBodyO (lo hi : Nat) (B : Bd) (c : Bc) (w : World) (h : OwnB lo hi w B c.ts) (hI : IsB w B c) (hs : SmallB c) (hlo : lo ≤ w.heap.size) (hhi : hi ≤ w.heap.size) :
    Calls Try.prog 22 #[B.v, .int .i64 1] w fun e w' => ∃ z : Nat, e = .returned (.int .i64 z) ∧ Mark lo hi w w' := by
  have ui := Try.underlying36
  have uim := Try.underlying29
  have A0 : Hid (At (w.alloc (BoxB B 36)) w.heap.size B.l) := Lib.hid At.new
  have B0 : Hid (Below w.heap.size w (w.alloc (BoxB B 36))) := Lib.hid ((Below.refl _ _).alloc (Nat.le_refl _) _)
  have M0 : Hid (Mark lo hi w (w.alloc (BoxB B 36))) := Lib.hid (Mark.alloc hlo _)
  have hz : lo ≤ (w.alloc (BoxB B 36)).heap.size := by simp; omega
  have ln := hI.lens
  have h1 : B.pl ≤ 1048576 := by rw [← ln.1]; exact hs.1.1
  have h2 : B.tl ≤ 1048576 := by rw [← ln.2.1]; exact hs.1.2.1
  have h3 : ∀ j, j < B.tl → (c.ts.getD j []).length ≤ 1048576 := fun j hj => hs.1.2.2 j (by rw [ln.2.1]; exact hj)
  have h4 : B.sl ≤ 1048576 := by rw [← ln.2.2.1]; exact hs.2.1
  have h5 : B.wl ≤ 1048576 := by rw [← ln.2.2.2]; exact hs.2.2
  obtain ⟨P, R, T, G, e1, e2, e3, e4, m, r, s, g⟩ := h.below B0.out
  have J := Lib.hid (laws_markMeshB lo hi P 0 R 0 B.pl B.pc B.tl B.tc c.ts 1 _ m hz h1 h2 h3 (by decide))
  have SG := Lib.hid (And.intro s g)
  have HHI := Lib.hid hhi
  clear hI hs m s g h h3
  rw [← e1, ← e2] at J
  have ES := Lib.hid (And.intro e3 e4)
  clear e1 e2 e3 e4 r
  go_enter Try.func22, Try.ntmps22
  go_wp2_with fail
  change Calls _ _ _ (w.alloc (BoxB B 36)) _
  generalize (w.alloc (BoxB B 36)) = W at *
  refine J.out.mono ?_
  rintro e w1 ⟨z, hzb, rfl, hM1⟩
  have k2 := hM1.cell (.inr HHI.out) (A0.out 2 _ rfl)
  have k5 := hM1.cell (.inr HHI.out) (A0.out 5 _ rfl)
  have X1 := Lib.hid (M0.out.trans hM1)
  have J2 := Lib.hid (laws_markSpringS lo hi T 0 B.sl B.sc z w1 (SG.out.1.mark hM1) (by omega))
  rw [← ES.out.1] at J2
  have L2 := Lib.hid (SG.out.2.mark hM1)
  clear hM1
  go_wp2_with fail
  refine J2.out.mono ?_
  rintro e w2 ⟨rfl, _, _, hM2⟩
  have k5' := hM2.cell (.inr HHI.out) k5
  have X2 := Lib.hid (X1.out.trans hM2)
  have J3 := Lib.hid (laws_markFloat32S lo hi G 0 B.wl B.wc (z + B.sl * 4) w2 (L2.out.mark hM2) (by omega))
  rw [← ES.out.2] at J3
  clear hM2 k2 k5
  obtain ⟨y, hy⟩ : ∃ y, y = z + B.sl * 4 := ⟨_, rfl⟩
  rw [← hy] at J3 ⊢
  clear hy
  go_wp2_with fail
  refine J3.out.mono ?_
  rintro e w3 ⟨rfl, _, _, hM3⟩
  have X3 := Lib.hid (X2.out.trans hM3)
  clear hM3
  go_wp2
  go_ret
  exact ⟨y + B.wl, by first | rfl | simp, X3.out⟩
/-- A motion that a function made: its lists lie in blocks of their own. -/
def GMo (lo hi : Nat) (w : World) (B : Bd) (F : Nat) (va : Option Addr) (vl : Nat) : Prop :=
  GB lo hi w B F ∧ Lst lo hi w va (vl * 3) ∧ ∀ X, va = some ⟨X, 0, none⟩ → X ≠ F ∧ B.pa ≠ some ⟨X, 0, none⟩ ∧ B.ta ≠ some ⟨X, 0, none⟩ ∧ B.sa ≠ some ⟨X, 0, none⟩ ∧ B.wa ≠ some ⟨X, 0, none⟩
theorem GMo.agree {S : Nat → Prop} {W w : World} {lo hi F vl : Nat} {B : Bd} {va : Option Addr} (h : GMo lo hi W B F va vl) (hS : ∀ b, lo ≤ b → b < hi → S b) (hA : Agree S W w) : GMo lo hi w B F va vl :=
  ⟨h.1.agree hS hA, h.2.1.agree hS hA, h.2.2⟩
theorem GMo.below {W w : World} {lo hi F vl : Nat} {B : Bd} {va : Option Addr} (h : GMo lo hi W B F va vl) (hB : Below W.heap.size W w) : GMo lo hi w B F va vl :=
  h.agree (S := fun _ => True) (fun _ _ _ => trivial) (Agree.of_below hB)
def VecM (w : World) (a : Option Addr) (n q : Nat) : Prop := (a = none ∧ n = 0) ∨ ∃ P, a = some ⟨P, 0, none⟩ ∧ ∀ j, j < n * 3 → w.cell? ⟨P, 0 + j, none⟩ = some (.float .f32 (floatOfInt .f32 ((q + j : Nat) : Int)))
theorem VecM.below {w w' : World} {a : Option Addr} {n q : Nat} (h : VecM w a n q) (hB : Below w.heap.size w w') : VecM w' a n q :=
  h.imp id fun ⟨P, e, hc⟩ => ⟨P, e, fun j hj => cell_below hB (hc j hj)⟩
def MrkMo (w : World) (B : Bd) (F : Nat) (va : Option Addr) (vl : Nat) : Prop := MrkB w B F ∧ VecM w va vl (1 + B.pl * 3 + B.tl * 3 + B.sl * 4 + B.wl)
theorem MrkMo.below {w w' : World} {B : Bd} {F vl : Nat} {va : Option Addr} (h : MrkMo w B F va vl) (hB : Below w.heap.size w w') : MrkMo w' B F va vl := ⟨h.1.below hB, h.2.below hB⟩
set_option maxHeartbeats 1000000 in
theorem mark_gmo (lo hi F : Nat) (B : Bd) (va : Option Addr) (vl vc : Nat) (w : World) (h : GMo lo hi w B F va vl) (hlo : lo ≤ w.heap.size) (h1 : B.pl ≤ 1000) (h2 : B.tl ≤ 1000) (h3 : B.sl ≤ 1000) (h4 : B.wl ≤ 1000) (h5 : vl ≤ 1000) :
    Calls Try.prog 42 #[mv B va vl vc, .int .i64 1] w fun e w' => e = .returned (.int .i64 ((1 + B.pl * 3 + B.tl * 3 + B.sl * 4 + B.wl + vl * 3 : Nat) : Int)) ∧ MrkMo w' B F va vl ∧ Mark lo hi w w' := by
  have ui := Try.underlying67
  have uib := Try.underlying36
  have A0 : Hid (At (w.alloc (BoxM B va vl vc 67)) w.heap.size (ml B va vl vc)) := Lib.hid At.new
  have B0 : Hid (Below w.heap.size w (w.alloc (BoxM B va vl vc 67))) := Lib.hid ((Below.refl _ _).alloc (Nat.le_refl _) _)
  have M0 : Hid (Mark lo hi w (w.alloc (BoxM B va vl vc 67))) := Lib.hid (Mark.alloc hlo _)
  have G0 := Lib.hid (h.below B0.out)
  have nP : B.pa ≠ some ⟨w.heap.size, 0, none⟩ := fun e => Nat.lt_irrefl _ (lst_lt h.1.1.1 e)
  have nS : B.sa ≠ some ⟨w.heap.size, 0, none⟩ := fun e => Nat.lt_irrefl _ (lst_lt h.1.2.1 e)
  have nW : B.wa ≠ some ⟨w.heap.size, 0, none⟩ := fun e => Nat.lt_irrefl _ (lst_lt h.1.2.2.1 e)
  have nF : B.tl = 0 ∨ w.heap.size ≠ F := by
    rcases h.1.1.2.1 with ⟨_, e⟩ | ⟨R, _, _, _, _, _, _, ho⟩
    · exact .inl e
    · exact .inr (by have := ho.2.2.1; omega)
  have N0 := Lib.hid (And.intro nP (And.intro nF (And.intro nS nW)))
  have hlo' : lo ≤ (w.alloc (BoxM B va vl vc 67)).heap.size := by simp; omega
  have J := Lib.hid (mark_gb lo hi F B _ G0.out.1 hlo' h1 h2 h3 h4)
  clear h nP nS nF nW
  go_enter Try.func42, Try.ntmps42
  go_wp2_with fail
  change Calls _ _ _ (w.alloc (BoxM B va vl vc 67)) _
  generalize (w.alloc (BoxM B va vl vc 67)) = W at *
  refine J.out.mono ?_
  rintro e w1 ⟨rfl, hMk, hM1, hK1⟩
  have k9 := hK1 _ _ _ (A0.out 9 _ rfl) (.inr N0.out.1) N0.out.2.1 (.inr N0.out.2.2.1) (.inr N0.out.2.2.2)
  have X1 := Lib.hid (And.intro hMk (M0.out.trans hM1))
  have J2 := Lib.hid (vec_any lo hi va vl vc (1 + B.pl * 3 + B.tl * 3 + B.sl * 4 + B.wl) w1 (G0.out.2.1.mark hM1) (by omega) (by omega))
  clear hMk hM1 hK1
  obtain ⟨q, hq⟩ : ∃ q, q = 1 + B.pl * 3 + B.tl * 3 + B.sl * 4 + B.wl := ⟨_, rfl⟩
  have HQ := Lib.hid hq
  rw [← hq] at J2 ⊢
  have hq' : q ≤ 20000 := by omega
  clear hq
  go_wp2_with fail
  refine J2.out.mono ?_
  rintro e w2 ⟨rfl, hd2, ho2, hM2⟩
  have X2 := Lib.hid (And.intro hd2 (And.intro ho2 hM2))
  clear hd2 ho2 hM2
  go_wp2
  go_ret
  have g5 := G0.out.2.2
  refine ⟨by have hq1 := HQ.out; rw [show 1 + B.pl * 3 + B.tl * 3 + B.sl * 4 + B.wl + vl * 3 = q + vl * 3 by omega]; rfl, ⟨X1.out.1.same fun b i v hv hb => ?_, ?_⟩, X1.out.2.trans X2.out.2.2⟩
  · refine (X2.out.2.1 b i (fun e => ?_)).trans hv
    have := g5 _ e
    rcases hb with e' | e' | e' | e' | e'
    · exact this.2.1 e'
    · exact this.2.2.1 e'
    · exact this.1 e'
    · exact this.2.2.2.1 e'
    · exact this.2.2.2.2 e'
  · rw [← HQ.out]; exact X2.out.1
set_option maxHeartbeats 1000000 in
theorem held_gmo (F : Nat) (B : Bd) (va : Option Addr) (vl vc : Nat) (w : World) (h : MrkMo w B F va vl) (h1 : B.pl ≤ 1000) (h2 : B.tl ≤ 1000) (h3 : B.sl ≤ 1000) (h4 : B.wl ≤ 1000) (h5 : vl ≤ 1000) :
    Calls Try.prog 43 #[mv B va vl vc, .int .i64 1] w fun e w' => e = .returned (.int .i64 ((1 + B.pl * 3 + B.tl * 3 + B.sl * 4 + B.wl + vl * 3 : Nat) : Int)) ∧ Below w.heap.size w w' := by
  have ui := Try.underlying67
  have uib := Try.underlying36
  have A0 : Hid (At (w.alloc (BoxM B va vl vc 67)) w.heap.size (ml B va vl vc)) := Lib.hid At.new
  have B0 : Hid (Below w.heap.size w (w.alloc (BoxM B va vl vc 67))) := Lib.hid ((Below.refl _ _).alloc (Nat.le_refl _) _)
  have H0 := Lib.hid (h.below B0.out)
  have J := Lib.hid (held_gb F B _ H0.out.1 h1 h2 h3 h4)
  clear h
  go_enter Try.func43, Try.ntmps43
  go_wp2_with fail
  change Calls _ _ _ (w.alloc (BoxM B va vl vc 67)) _
  generalize (w.alloc (BoxM B va vl vc 67)) = W at *
  refine J.out.mono ?_
  rintro e w1 ⟨rfl, hB1⟩
  have k9 := A0.out.below hB1 9 _ rfl
  have B1 := Lib.hid (B0.out.trans (hB1.mono B0.out.size))
  have J2 := Lib.hid (vec_held va vl vc (1 + B.pl * 3 + B.tl * 3 + B.sl * 4 + B.wl) w1 (H0.out.below hB1).2 (by omega) (by omega))
  clear hB1
  obtain ⟨q, hq⟩ : ∃ q, q = 1 + B.pl * 3 + B.tl * 3 + B.sl * 4 + B.wl := ⟨_, rfl⟩
  rw [← hq] at J2 ⊢
  have hq' : q ≤ 20000 := by omega
  have HQ := Lib.hid hq
  clear hq
  have n1 : ¬ ((q : Nat) : Int) < 0 := by omega
  have n2 : ¬ ((q + vl * 3 : Nat) : Int) < 0 := by omega
  go_wp2_with fail
  refine J2.out.mono ?_
  rintro e w2 ⟨rfl, hw2⟩
  rw [hw2]
  clear hw2 w2
  go_wp2
  go_ret
  exact ⟨by have hq1 := HQ.out; rw [show 1 + B.pl * 3 + B.tl * 3 + B.sl * 4 + B.wl + vl * 3 = q + vl * 3 by omega]; rfl, B1.out⟩
end Go.Proofs.Ytmbekamnogbgaaa


/-
Which bodies are valid: what the model returns. Conditions: none.
-/
namespace Go.Proofs.Ytmbekamnogbgaaa
open Go Fk Go.RowKit
set_option linter.unusedVariables false
set_option maxRecDepth 8000

set_option maxHeartbeats 4000000 in
theorem l03Is (pb : Nat) (B : Bd) (c : Bc) (w : World) (A : At w pb B.l) (h : IsB w B c) :
    Calls Try.prog 82 #[.pointer (some ⟨pb, 0, none⟩)] w fun e w' => e = .returned (.bool (bodyB c)) ∧ ∃ n, w' = w.drewN n := by
  have ui := Try.underlying36
  have um := Try.underlying29
  have us := Try.underlying171
  obtain ⟨lp, lt, ls, lw⟩ := h.lens
  have hpm : B.pl ≤ 9223372036854775807 := by have h1 := h.1.2.1; have h2 := h.1.2.2.1; unfold maxLen at h2; omega
  have hJ := fun n => l02Is pb B.pa B.ta B.pl B.pc B.tl B.tc c.cs c.ts (w.drewN n) (A 0 _ rfl) (A 1 _ rfl) (h.1.drew rfl) (h.2.1.drew rfl)
  have k0 := A 0 _ rfl
  have k1 := A 1 _ rfl
  have k2 := A 2 _ rfl
  have k5 := A 5 _ rfl
  have LS := Lib.hid ls
  have H := Lib.hid h
  have HA := Lib.hid A
  unfold bodyB
  rw [ls, lw, lp]
  clear h A lp lt lw ls
  cases hv : validB c.cs c.ts
  · simp only [hv] at hJ
    have HJ := Lib.hid hJ
    clear hJ hv
    by_cases h1 : B.sl ≤ 200
    · have g1 : ¬ (200 : Int) < B.sl := by omega
      by_cases h2 : B.wl = B.pl
      · have g2 : ((B.wl : Int) == (B.pl : Int)) = true := by simp [h2]
        have g2' : ((B.wl : Int) != (B.pl : Int)) = false := by simp [h2]
        clear h2
        go_enter Try.func82, Try.ntmps82
        go_wp2_with fail
        go_quiet ((go_at_call 71; exact Calls.quiet_of (HJ.out _)))
        go_wp2
        go_ret
        exact ⟨rfl, _, rfl⟩
      · have g2 : ((B.wl : Int) == (B.pl : Int)) = false := beq_eq_false_iff_ne.2 (by omega)
        have g2' : ((B.wl : Int) != (B.pl : Int)) = true := by simp; omega
        clear h2
        go_enter Try.func82, Try.ntmps82
        go_wp2_with fail
        go_quiet ((go_at_call 71; exact Calls.quiet_of (HJ.out _)))
        go_wp2
        go_ret
        exact ⟨rfl, _, rfl⟩
    · have g1 : (200 : Int) < B.sl := by omega
      go_enter Try.func82, Try.ntmps82
      go_wp2_with fail
      go_quiet ((go_at_call 71; exact Calls.quiet_of (HJ.out _)))
      go_wp2
      go_ret
      exact ⟨rfl, _, rfl⟩
  · simp only [hv] at hJ
    have HJ := Lib.hid hJ
    clear hJ hv
    by_cases h1 : B.sl ≤ 200
    · have g1 : ¬ (200 : Int) < B.sl := by omega
      rw [decide_eq_true h1]
      by_cases h2 : B.wl = B.pl
      · have g2 : ((B.wl : Int) == (B.pl : Int)) = true := by simp [h2]
        have g2' : ((B.wl : Int) != (B.pl : Int)) = false := by simp [h2]
        rw [decide_eq_true h2]
        clear h2
        go_enter Try.func82, Try.ntmps82
        go_wp2_with fail
        go_quiet ((go_at_call 71; exact Calls.quiet_of (HJ.out _)))
        go_wp2
        have hm : B.sl ≤ 9223372036854775807 := by omega
        go_loopw [36] (fun i w' => ∃ k : Nat, k ≤ B.sl ∧ i = .int .i64 k ∧ Aside (∀ j, j < k → springB B.pl (c.ss.getD j s0) = true) ∧ ∃ n, w' = w.drewN n) (fun i _ => B.sl - (intOf i).toNat)
        case atStart => exact ⟨0, Nat.zero_le _, rfl, (fun j hj => absurd hj (by omega)), _, rfl⟩
        case round =>
          obtain ⟨k, hk, rfl, hall, n, hw⟩ := hrel
          have c0' : wr.cell? ⟨pb, 0, none⟩ = some (.slice B.pa B.pl B.pc) := by rw [hw]; exact k0
          have c2' : wr.cell? ⟨pb, 2, none⟩ = some (.slice B.sa B.sl B.sc) := by rw [hw]; exact k2
          clear k0 k1 k2 k5
          by_cases hlt : k < B.sl
          · obtain ⟨b, o, hsa, hcell⟩ := H.out.2.2.1.some (by omega)
            obtain ⟨p, q, d0, d1, d2, d3, fp, fq⟩ := hcell k hlt
            have hJ := fun m => l03Spring b (o + k * 4) (c.ss.getD k s0).1 (c.ss.getD k s0).2.1 p B.pl (c.ss.getD k s0).2.2.1 (c.ss.getD k s0).2.2.2 (wr.drewN m) (by rw [hw]; exact d0) (by rw [hw]; exact d1) (by rw [hw]; exact d2) fp (by omega)
            have hsp : springB B.pl ((c.ss.getD k s0).1, (c.ss.getD k s0).2.1, (c.ss.getD k s0).2.2.1, (c.ss.getD k s0).2.2.2) = springB B.pl (c.ss.getD k s0) := rfl
            rw [hsp] at hJ
            have hk0 : (0 : Int) ≤ (k : Int) := by omega
            have hk1 : (k : Int) < (B.sl : Int) := by omega
            rw [hsa] at c2' 
            have HW := Lib.hid hw
            clear hcell hsp hsa fp fq d0 d1 d2 d3 hw
            cases hb : springB B.pl (c.ss.getD k s0)
            · have hres : Aside ((true && true && true && c.ss.all (springB B.pl)) = false) := by show (true && true && true && c.ss.all (springB B.pl)) = false; rw [ss_not (by rw [LS.out]; exact hlt) hb]; rfl
              rw [hb] at hJ
              have HJ2 := Lib.hid hJ
              clear hJ hall hb
              go_wp2_with fail
              go_quiet ((go_at_call 146; exact Calls.quiet_of (HJ2.out _)))
              go_wp2
              go_ret
              exact ⟨ret_bool hres.out.symm, drewn_end HW.out⟩
            · have hall' : Aside (∀ j, j < k + 1 → springB B.pl (c.ss.getD j s0) = true) := by
                intro j hj
                by_cases hjk : j = k
                · subst hjk; exact hb
                · exact hall.out j (by omega)
              rw [hb] at hJ
              have HJ2 := Lib.hid hJ
              clear hJ hall hb
              go_wp2_with fail
              go_quiet ((go_at_call 146; exact Calls.quiet_of (HJ2.out _)))
              go_wp2
              go_roundw
              case rel => exact ⟨k + 1, by omega, by go_num, hall', drewn_end HW.out⟩
              case measure => simp [intOf]; omega
          · have hkl : k = B.sl := by omega
            have hres : Aside ((true && true && true && c.ss.all (springB B.pl)) = true) := by show (true && true && true && c.ss.all (springB B.pl)) = true; rw [ss_all (by rw [LS.out, ← hkl]; exact hall.out)]; rfl
            have g3 : ¬ (k : Int) < (B.sl : Int) := by omega
            have HW := Lib.hid hw
            clear hall hkl hw
            go_wp2
            go_ret
            exact ⟨ret_bool hres.out.symm, n, HW.out⟩
      · have g2 : ((B.wl : Int) == (B.pl : Int)) = false := beq_eq_false_iff_ne.2 (by omega)
        have g2' : ((B.wl : Int) != (B.pl : Int)) = true := by simp; omega
        rw [decide_eq_false h2]
        clear h2
        go_enter Try.func82, Try.ntmps82
        go_wp2_with fail
        go_quiet ((go_at_call 71; exact Calls.quiet_of (HJ.out _)))
        go_wp2
        go_ret
        exact ⟨rfl, _, rfl⟩
    · have g1 : (200 : Int) < B.sl := by omega
      rw [decide_eq_false h1]
      go_enter Try.func82, Try.ntmps82
      go_wp2_with fail
      go_quiet ((go_at_call 71; exact Calls.quiet_of (HJ.out _)))
      go_wp2
      go_ret
      exact ⟨rfl, _, rfl⟩
end Go.Proofs.Ytmbekamnogbgaaa

/-
Texts in one: what MovePlaces stands on, part 25. Conditions: those of each.
-/
import Derived.Test.YtmbekamnogbgaaaKMovePlaces24

/-
Copies of motions, and that they are the same: what the law's own functions return. Conditions: at most 2^20 of each.
-/
namespace Go.Proofs.Ytmbekamnogbgaaa
open Go Fk Go.RowKit
set_option linter.unusedVariables false
set_option maxRecDepth 8000

/-- A motion's value. -/
abbrev mv (B : Bd) (va : Option Addr) (vl vc : Nat) : Value := .agg #[.slice B.pa B.pl B.pc, .slice B.ta B.tl B.tc, .slice B.sa B.sl B.sc, .float .f32 B.film, .float .f32 B.bend, .slice B.wa B.wl B.wc, .float .f32 B.x, .float .f32 B.y, .float .f32 B.z, .slice va vl vc]
abbrev ml (B : Bd) (va : Option Addr) (vl vc : Nat) : List Value := [.slice B.pa B.pl B.pc, .slice B.ta B.tl B.tc, .slice B.sa B.sl B.sc, .float .f32 B.film, .float .f32 B.bend, .slice B.wa B.wl B.wc, .float .f32 B.x, .float .f32 B.y, .float .f32 B.z, .slice va vl vc]
abbrev BoxM (B : Bd) (va : Option Addr) (vl vc : Nat) (t : TypeId) : Obj := .cells #[.slice B.pa B.pl B.pc, .slice B.ta B.tl B.tc, .slice B.sa B.sl B.sc, .float .f32 B.film, .float .f32 B.bend, .slice B.wa B.wl B.wc, .float .f32 B.x, .float .f32 B.y, .float .f32 B.z, .slice va vl vc] t
abbrev Z10 : List Value := [.slice none 0 0, .slice none 0 0, .slice none 0 0, .float .f32 0, .float .f32 0, .slice none 0 0, .float .f32 0, .float .f32 0, .float .f32 0, .slice none 0 0]
theorem laws_eqMotion (B B' : Bd) (c : Bc) (va va' : Option Addr) (vl vc vc' : Nat) (vs : List C3) (w : World) (h : IsB w B c) (h' : IsB w B' c) (hs : SmallB c) (hv : IsVs w va vl vc vs) (hv' : IsVs w va' vl vc' vs) :
    Calls Try.prog 41 #[mv B va vl vc, mv B' va' vl vc'] w fun e w' => e = .returned (.bool true) ∧ Below w.heap.size w w' := by
  have ui := Try.underlying67
  have uib := Try.underlying36
  have a0 : At ((w.alloc (BoxM B va vl vc 67)).alloc (BoxM B' va' vl vc' 67)) w.heap.size (ml B va vl vc) := At.new.alloc
  have a1 : At ((w.alloc (BoxM B va vl vc 67)).alloc (BoxM B' va' vl vc' 67)) (w.heap.size + 1) (ml B' va' vl vc') := by
    have := At.new (w := w.alloc (BoxM B va vl vc 67)) (vs := ml B' va' vl vc') (t := 67)
    simpa using this
  have b0 := ((Below.refl w.heap.size w).alloc (Nat.le_refl _) (BoxM B va vl vc 67)).alloc (by simp) (BoxM B' va' vl vc' 67)
  have H := Lib.hid (And.intro (h.below b0) (And.intro (h'.below b0) (And.intro (hv.below b0) (hv'.below b0))))
  have HS := Lib.hid hs
  have A0 := Lib.hid a0
  have A1 := Lib.hid a1
  have B0 := Lib.hid b0
  clear h h' hs a0 a1 b0 hv hv'
  go_enter Try.func41, Try.ntmps41
  go_wp2_with fail
  change Calls _ _ _ ((w.alloc (BoxM B va vl vc 67)).alloc (BoxM B' va' vl vc' 67)) _
  generalize ((w.alloc (BoxM B va vl vc 67)).alloc (BoxM B' va' vl vc' 67)) = W at *
  refine (laws_eqBody B B' c _ H.out.1 H.out.2.1 HS.out).mono ?_
  rintro e w1 ⟨rfl, hB1⟩
  have k9 := A0.out.below hB1 9 _ rfl
  have j9 := A1.out.below hB1 9 _ rfl
  have H1 := Lib.hid (And.intro (H.out.2.2.1.below hB1) (H.out.2.2.2.below hB1))
  have B1 := Lib.hid (B0.out.trans (hB1.mono B0.out.size))
  clear hB1
  go_wp2_with fail
  refine (laws_eqVectorS _ _ _ _ _ vs _ H1.out.1 H1.out.2).mono ?_
  rintro e w2 ⟨rfl, hB2⟩
  have B2 := Lib.hid (B1.out.trans (hB2.mono B1.out.size))
  clear hB2
  go_wp2
  go_ret
  exact ⟨rfl, B2.out⟩
theorem own_vs {w : World} {lo b n c : Nat} {cs : List C3} (h : IsVs w (some ⟨b, 0, none⟩) n c cs) (h1 : lo ≤ b) (h2 : b < w.heap.size) (hf : ∀ i, w.frozen? ⟨b, i, none⟩ = false) : Own lo w.heap.size w b 0 (n * 3) :=
  ⟨h1, h2, h2, fun j hj => ⟨by obtain ⟨v, hv⟩ := cells_of h j hj; exact ⟨v, hv⟩, hf _⟩⟩
end Go.Proofs.Ytmbekamnogbgaaa


/-
Marks in copies of bodies and motions. Conditions: the lists may be written.
-/
namespace Go.Proofs.Ytmbekamnogbgaaa
open Go Fk Go.RowKit
set_option linter.unusedVariables false
set_option maxRecDepth 8000

theorem laws_markMeshB (lo hi b o b' o' pl pc tl tc : Nat) (ts : List (List Int)) (k0 : Nat) (w : World) (h : OwnM lo hi w b o b' o' pl tl ts) (hlo : lo ≤ w.heap.size) (h1 : pl ≤ 1048576) (h2 : tl ≤ 1048576) (hn : ∀ j, j < tl → (ts.getD j []).length ≤ 1048576) (hk : k0 ≤ 1000000) :
    Calls Try.prog 21 #[.agg #[.slice (some ⟨b, o, none⟩) pl pc, .slice (some ⟨b', o', none⟩) tl tc], .int .i64 k0] w fun e w' => ∃ z : Nat, z ≤ 2000000000000000000 ∧ e = .returned (.int .i64 z) ∧ Mark lo hi w w' := by
  have ui := Try.underlying29
  obtain ⟨hown, hrows, hne, hlt⟩ := h
  have hA : Mark lo hi w (w.alloc (.cells #[.slice (some ⟨b, o, none⟩) pl pc, .slice (some ⟨b', o', none⟩) tl tc] 29)) := Mark.alloc hlo _
  have a1 : (w.alloc (.cells #[.slice (some ⟨b, o, none⟩) pl pc, .slice (some ⟨b', o', none⟩) tl tc] 29)).cell? ⟨w.heap.size, 1, none⟩ = some (.slice (some ⟨b', o', none⟩) tl tc) := by go_simp
  have a0 : (w.alloc (.cells #[.slice (some ⟨b, o, none⟩) pl pc, .slice (some ⟨b', o', none⟩) tl tc] 29)).cell? ⟨w.heap.size, 0, none⟩ = some (.slice (some ⟨b, o, none⟩) pl pc) := by go_simp
  have nb : w.heap.size ≠ b := by have := hown.2.2.1; omega
  have hV := laws_markVectorS lo hi b o pl pc k0 _ (hown.mark hA) (by omega)
  have hs : ∀ i, (w.alloc (.cells #[.slice (some ⟨b, o, none⟩) pl pc, .slice (some ⟨b', o', none⟩) tl tc] 29)).cell? ⟨b', i, none⟩ = w.cell? ⟨b', i, none⟩ := fun i => by rw [World.cell?_alloc_lt (h := hlt)]
  have HV := Lib.hid hV
  have HA := Lib.hid hA
  have HR := Lib.hid (hrows.mark hs hA)
  have HNE := Lib.hid hne
  have HNB := Lib.hid nb
  have HN := Lib.hid hn
  clear hV hA hrows hne hs nb hown hlt hn
  generalize hCH : w.alloc (.cells #[.slice (some ⟨b, o, none⟩) pl pc, .slice (some ⟨b', o', none⟩) tl tc] 29) = W at *
  go_enter Try.func21, Try.ntmps21
  go_wp2_with fail
  refine HV.out.mono ?_
  rintro e w1 ⟨rfl, _, ho, hM1⟩
  have a1' : w1.cell? ⟨w.heap.size, 1, none⟩ = some (.slice (some ⟨b', o', none⟩) tl tc) := (ho _ _ (.inl HNB.out)).trans a1
  have HR1 := Lib.hid (HR.out.mark (fun i => ho b' i (.inl (fun h => HNE.out h.symm))) hM1)
  have HM1 := Lib.hid (HA.out.trans hM1)
  clear ho hM1 a0 a1 HV HR hCH
  generalize hq : k0 + pl * 3 = q at *
  have hq' : q ≤ 1000000000000000000 := by omega
  clear hq
  go_wp2_with (go_at_call 63; refine (laws_markInt64SS lo hi b' o' tl tc ts q w1 HR1.out h2 HN.out hq').mono ?_; rintro e w2 ⟨z, hz, rfl, _, hM2⟩; have HM2 := Lib.hid hM2; clear hM2)
  go_ret
  exact ⟨z, by omega, rfl, HM1.out.trans HM2.out⟩
set_option maxHeartbeats 1000000 in
theorem laws_markBodyO (lo hi : Nat) (B : Bd) (c : Bc) (w : World) (h : OwnB lo hi w B c.ts) (hI : IsB w B c) (hs : SmallB c) (hlo : lo ≤ w.heap.size) (hhi : hi ≤ w.heap.size) :
    Calls Try.prog 22 #[B.v, .int .i64 1] w fun e w' => ∃ z : Nat, e = .returned (.int .i64 z) ∧ Mark lo hi w w' := by
  have ui := Try.underlying36
  have uim := Try.underlying29
  have A0 : Hid (At (w.alloc (BoxB B 36)) w.heap.size B.l) := Lib.hid At.new
  have B0 : Hid (Below w.heap.size w (w.alloc (BoxB B 36))) := Lib.hid ((Below.refl _ _).alloc (Nat.le_refl _) _)
  have M0 : Hid (Mark lo hi w (w.alloc (BoxB B 36))) := Lib.hid (Mark.alloc hlo _)
  have hz : lo ≤ (w.alloc (BoxB B 36)).heap.size := by simp; omega
  have ln := hI.lens
  have h1 : B.pl ≤ 1048576 := by rw [← ln.1]; exact hs.1.1
  have h2 : B.tl ≤ 1048576 := by rw [← ln.2.1]; exact hs.1.2.1
  have h3 : ∀ j, j < B.tl → (c.ts.getD j []).length ≤ 1048576 := fun j hj => hs.1.2.2 j (by rw [ln.2.1]; exact hj)
  have h4 : B.sl ≤ 1048576 := by rw [← ln.2.2.1]; exact hs.2.1
  have h5 : B.wl ≤ 1048576 := by rw [← ln.2.2.2]; exact hs.2.2
  obtain ⟨P, R, T, G, e1, e2, e3, e4, m, r, s, g⟩ := h.below B0.out
  have J := Lib.hid (laws_markMeshB lo hi P 0 R 0 B.pl B.pc B.tl B.tc c.ts 1 _ m hz h1 h2 h3 (by decide))
  have SG := Lib.hid (And.intro s g)
  have HHI := Lib.hid hhi
  clear hI hs m s g h h3
  rw [← e1, ← e2] at J
  have ES := Lib.hid (And.intro e3 e4)
  clear e1 e2 e3 e4 r
  go_enter Try.func22, Try.ntmps22
  go_wp2_with fail
  change Calls _ _ _ (w.alloc (BoxB B 36)) _
  generalize (w.alloc (BoxB B 36)) = W at *
  refine J.out.mono ?_
  rintro e w1 ⟨z, hzb, rfl, hM1⟩
  have k2 := hM1.cell (.inr HHI.out) (A0.out 2 _ rfl)
  have k5 := hM1.cell (.inr HHI.out) (A0.out 5 _ rfl)
  have X1 := Lib.hid (M0.out.trans hM1)
  have J2 := Lib.hid (laws_markSpringS lo hi T 0 B.sl B.sc z w1 (SG.out.1.mark hM1) (by omega))
  rw [← ES.out.1] at J2
  have L2 := Lib.hid (SG.out.2.mark hM1)
  clear hM1
  go_wp2_with fail
  refine J2.out.mono ?_
  rintro e w2 ⟨rfl, _, _, hM2⟩
  have k5' := hM2.cell (.inr HHI.out) k5
  have X2 := Lib.hid (X1.out.trans hM2)
  have J3 := Lib.hid (laws_markFloat32S lo hi G 0 B.wl B.wc (z + B.sl * 4) w2 (L2.out.mark hM2) (by omega))
  rw [← ES.out.2] at J3
  clear hM2 k2 k5
  obtain ⟨y, hy⟩ : ∃ y, y = z + B.sl * 4 := ⟨_, rfl⟩
  rw [← hy] at J3 ⊢
  clear hy
  go_wp2_with fail
  refine J3.out.mono ?_
  rintro e w3 ⟨rfl, _, _, hM3⟩
  have X3 := Lib.hid (X2.out.trans hM3)
  clear hM3
  go_wp2
  go_ret
  exact ⟨y + B.wl, by first | rfl | simp, X3.out⟩
/-- A motion that a function made: its lists lie in blocks of their own. -/
def GMo (lo hi : Nat) (w : World) (B : Bd) (F : Nat) (va : Option Addr) (vl : Nat) : Prop :=
  GB lo hi w B F ∧ Lst lo hi w va (vl * 3) ∧ ∀ X, va = some ⟨X, 0, none⟩ → X ≠ F ∧ B.pa ≠ some ⟨X, 0, none⟩ ∧ B.ta ≠ some ⟨X, 0, none⟩ ∧ B.sa ≠ some ⟨X, 0, none⟩ ∧ B.wa ≠ some ⟨X, 0, none⟩
theorem GMo.agree {S : Nat → Prop} {W w : World} {lo hi F vl : Nat} {B : Bd} {va : Option Addr} (h : GMo lo hi W B F va vl) (hS : ∀ b, lo ≤ b → b < hi → S b) (hA : Agree S W w) : GMo lo hi w B F va vl :=
  ⟨h.1.agree hS hA, h.2.1.agree hS hA, h.2.2⟩
theorem GMo.below {W w : World} {lo hi F vl : Nat} {B : Bd} {va : Option Addr} (h : GMo lo hi W B F va vl) (hB : Below W.heap.size W w) : GMo lo hi w B F va vl :=
  h.agree (S := fun _ => True) (fun _ _ _ => trivial) (Agree.of_below hB)
def VecM (w : World) (a : Option Addr) (n q : Nat) : Prop := (a = none ∧ n = 0) ∨ ∃ P, a = some ⟨P, 0, none⟩ ∧ ∀ j, j < n * 3 → w.cell? ⟨P, 0 + j, none⟩ = some (.float .f32 (floatOfInt .f32 ((q + j : Nat) : Int)))
theorem VecM.below {w w' : World} {a : Option Addr} {n q : Nat} (h : VecM w a n q) (hB : Below w.heap.size w w') : VecM w' a n q :=
  h.imp id fun ⟨P, e, hc⟩ => ⟨P, e, fun j hj => cell_below hB (hc j hj)⟩
def MrkMo (w : World) (B : Bd) (F : Nat) (va : Option Addr) (vl : Nat) : Prop := MrkB w B F ∧ VecM w va vl (1 + B.pl * 3 + B.tl * 3 + B.sl * 4 + B.wl)
theorem MrkMo.below {w w' : World} {B : Bd} {F vl : Nat} {va : Option Addr} (h : MrkMo w B F va vl) (hB : Below w.heap.size w w') : MrkMo w' B F va vl := ⟨h.1.below hB, h.2.below hB⟩
set_option maxHeartbeats 1000000 in
theorem mark_gmo (lo hi F : Nat) (B : Bd) (va : Option Addr) (vl vc : Nat) (w : World) (h : GMo lo hi w B F va vl) (hlo : lo ≤ w.heap.size) (h1 : B.pl ≤ 1000) (h2 : B.tl ≤ 1000) (h3 : B.sl ≤ 1000) (h4 : B.wl ≤ 1000) (h5 : vl ≤ 1000) :
    Calls Try.prog 42 #[mv B va vl vc, .int .i64 1] w fun e w' => e = .returned (.int .i64 ((1 + B.pl * 3 + B.tl * 3 + B.sl * 4 + B.wl + vl * 3 : Nat) : Int)) ∧ MrkMo w' B F va vl ∧ Mark lo hi w w' := by
  have ui := Try.underlying67
  have uib := Try.underlying36
  have A0 : Hid (At (w.alloc (BoxM B va vl vc 67)) w.heap.size (ml B va vl vc)) := Lib.hid At.new
  have B0 : Hid (Below w.heap.size w (w.alloc (BoxM B va vl vc 67))) := Lib.hid ((Below.refl _ _).alloc (Nat.le_refl _) _)
  have M0 : Hid (Mark lo hi w (w.alloc (BoxM B va vl vc 67))) := Lib.hid (Mark.alloc hlo _)
  have G0 := Lib.hid (h.below B0.out)
  have nP : B.pa ≠ some ⟨w.heap.size, 0, none⟩ := fun e => Nat.lt_irrefl _ (lst_lt h.1.1.1 e)
  have nS : B.sa ≠ some ⟨w.heap.size, 0, none⟩ := fun e => Nat.lt_irrefl _ (lst_lt h.1.2.1 e)
  have nW : B.wa ≠ some ⟨w.heap.size, 0, none⟩ := fun e => Nat.lt_irrefl _ (lst_lt h.1.2.2.1 e)
  have nF : B.tl = 0 ∨ w.heap.size ≠ F := by
    rcases h.1.1.2.1 with ⟨_, e⟩ | ⟨R, _, _, _, _, _, _, ho⟩
    · exact .inl e
    · exact .inr (by have := ho.2.2.1; omega)
  have N0 := Lib.hid (And.intro nP (And.intro nF (And.intro nS nW)))
  have hlo' : lo ≤ (w.alloc (BoxM B va vl vc 67)).heap.size := by simp; omega
  have J := Lib.hid (mark_gb lo hi F B _ G0.out.1 hlo' h1 h2 h3 h4)
  clear h nP nS nF nW
  go_enter Try.func42, Try.ntmps42
  go_wp2_with fail
  change Calls _ _ _ (w.alloc (BoxM B va vl vc 67)) _
  generalize (w.alloc (BoxM B va vl vc 67)) = W at *
  refine J.out.mono ?_
  rintro e w1 ⟨rfl, hMk, hM1, hK1⟩
  have k9 := hK1 _ _ _ (A0.out 9 _ rfl) (.inr N0.out.1) N0.out.2.1 (.inr N0.out.2.2.1) (.inr N0.out.2.2.2)
  have X1 := Lib.hid (And.intro hMk (M0.out.trans hM1))
  have J2 := Lib.hid (vec_any lo hi va vl vc (1 + B.pl * 3 + B.tl * 3 + B.sl * 4 + B.wl) w1 (G0.out.2.1.mark hM1) (by omega) (by omega))
  clear hMk hM1 hK1
  obtain ⟨q, hq⟩ : ∃ q, q = 1 + B.pl * 3 + B.tl * 3 + B.sl * 4 + B.wl := ⟨_, rfl⟩
  have HQ := Lib.hid hq
  rw [← hq] at J2 ⊢
  have hq' : q ≤ 20000 := by omega
  clear hq
  go_wp2_with fail
  refine J2.out.mono ?_
  rintro e w2 ⟨rfl, hd2, ho2, hM2⟩
  have X2 := Lib.hid (And.intro hd2 (And.intro ho2 hM2))
  clear hd2 ho2 hM2
  go_wp2
  go_ret
  have g5 := G0.out.2.2
  refine ⟨by have hq1 := HQ.out; rw [show 1 + B.pl * 3 + B.tl * 3 + B.sl * 4 + B.wl + vl * 3 = q + vl * 3 by omega]; rfl, ⟨X1.out.1.same fun b i v hv hb => ?_, ?_⟩, X1.out.2.trans X2.out.2.2⟩
  · refine (X2.out.2.1 b i (fun e => ?_)).trans hv
    have := g5 _ e
    rcases hb with e' | e' | e' | e' | e'
    · exact this.2.1 e'
    · exact this.2.2.1 e'
    · exact this.1 e'
    · exact this.2.2.2.1 e'
    · exact this.2.2.2.2 e'
  · rw [← HQ.out]; exact X2.out.1
set_option maxHeartbeats 1000000 in
theorem held_gmo (F : Nat) (B : Bd) (va : Option Addr) (vl vc : Nat) (w : World) (h : MrkMo w B F va vl) (h1 : B.pl ≤ 1000) (h2 : B.tl ≤ 1000) (h3 : B.sl ≤ 1000) (h4 : B.wl ≤ 1000) (h5 : vl ≤ 1000) :
    Calls Try.prog 43 #[mv B va vl vc, .int .i64 1] w fun e w' => e = .returned (.int .i64 ((1 + B.pl * 3 + B.tl * 3 + B.sl * 4 + B.wl + vl * 3 : Nat) : Int)) ∧ Below w.heap.size w w' := by
  have ui := Try.underlying67
  have uib := Try.underlying36
  have A0 : Hid (At (w.alloc (BoxM B va vl vc 67)) w.heap.size (ml B va vl vc)) := Lib.hid At.new
  have B0 : Hid (Below w.heap.size w (w.alloc (BoxM B va vl vc 67))) := Lib.hid ((Below.refl _ _).alloc (Nat.le_refl _) _)
  have H0 := Lib.hid (h.below B0.out)
  have J := Lib.hid (held_gb F B _ H0.out.1 h1 h2 h3 h4)
  clear h
  go_enter Try.func43, Try.ntmps43
  go_wp2_with fail
  change Calls _ _ _ (w.alloc (BoxM B va vl vc 67)) _
  generalize (w.alloc (BoxM B va vl vc 67)) = W at *
  refine J.out.mono ?_
  rintro e w1 ⟨rfl, hB1⟩
  have k9 := A0.out.below hB1 9 _ rfl
  have B1 := Lib.hid (B0.out.trans (hB1.mono B0.out.size))
  have J2 := Lib.hid (vec_held va vl vc (1 + B.pl * 3 + B.tl * 3 + B.sl * 4 + B.wl) w1 (H0.out.below hB1).2 (by omega) (by omega))
  clear hB1
  obtain ⟨q, hq⟩ : ∃ q, q = 1 + B.pl * 3 + B.tl * 3 + B.sl * 4 + B.wl := ⟨_, rfl⟩
  rw [← hq] at J2 ⊢
  have hq' : q ≤ 20000 := by omega
  have HQ := Lib.hid hq
  clear hq
  have n1 : ¬ ((q : Nat) : Int) < 0 := by omega
  have n2 : ¬ ((q + vl * 3 : Nat) : Int) < 0 := by omega
  go_wp2_with fail
  refine J2.out.mono ?_
  rintro e w2 ⟨rfl, hw2⟩
  rw [hw2]
  clear hw2 w2
  go_wp2
  go_ret
  exact ⟨by have hq1 := HQ.out; rw [show 1 + B.pl * 3 + B.tl * 3 + B.sl * 4 + B.wl + vl * 3 = q + vl * 3 by omega]; rfl, B1.out⟩
end Go.Proofs.Ytmbekamnogbgaaa


/-
A motion that stands still: what the model returns. Conditions: the body lies in memory.
-/
namespace Go.Proofs.Ytmbekamnogbgaaa
open Go Fk Go.RowKit
set_option linter.unusedVariables false
set_option maxRecDepth 8000

/-- The body of the motion that is returned, and its speeds. -/
def stiC (c : Bc) : Bc := bif bodyB c then c else ⟨[], [], [], [], some 0, some 0, z3⟩
def stiV (c : Bc) : List C3 := bif bodyB c then List.replicate c.cs.length z3 else []
theorem sti_len (c : Bc) : (stiC c).cs.length ≤ 64 ∧ (stiC c).ts.length ≤ 128 ∧ (stiC c).ss.length ≤ 200 ∧ (stiC c).zs.length ≤ 64 ∧ (stiV c).length ≤ 64 ∧ ∀ k, k < (stiC c).ts.length → ((stiC c).ts.getD k []).length ≤ 1048576 := by
  unfold stiC stiV
  cases hv : bodyB c
  · exact ⟨Nat.zero_le _, Nat.zero_le _, Nat.zero_le _, Nat.zero_le _, Nat.zero_le _, fun k hk => absurd hk (Nat.not_lt_zero k)⟩
  · unfold bodyB at hv
    simp only [Bool.and_eq_true] at hv
    obtain ⟨⟨⟨hv1, hv2⟩, hv3⟩, hv4⟩ := hv
    obtain ⟨h1, h2⟩ := valid_pl hv1
    have k2 := of_decide_eq_true hv2
    have k3 := of_decide_eq_true hv3
    refine ⟨h1, h2, k2, by show c.zs.length ≤ 64; omega, ?_, fun k hk => ?_⟩
    · show (List.replicate c.cs.length z3).length ≤ 64
      rw [List.length_replicate]; exact h1
    · show (c.ts.getD k []).length ≤ 1048576
      have := rows3h hv1 k hk
      omega
theorem body_sizes {c : Bc} (hv : bodyB c = true) : c.cs.length ≤ 64 ∧ c.ts.length ≤ 128 ∧ c.ss.length ≤ 200 ∧ c.zs.length ≤ 64 ∧ ∀ k, k < c.ts.length → (c.ts.getD k []).length = 3 := by
  unfold bodyB at hv
  simp only [Bool.and_eq_true] at hv
  obtain ⟨⟨⟨hv1, hv2⟩, hv3⟩, hv4⟩ := hv
  obtain ⟨h1, h2⟩ := valid_pl hv1
  have k2 := of_decide_eq_true hv2
  have k3 := of_decide_eq_true hv3
  exact ⟨h1, h2, k2, by omega, rows3h hv1⟩
/-- A list of zero vectors that was made. -/
theorem zeros_vs (w : World) (n : Nat) (hn : n ≤ 1048576) : IsVs (w.alloc (.cells (madeCells #[.float .f32 0, .float .f32 0, .float .f32 0] (n * 3)) 34)) (some ⟨w.heap.size, 0, none⟩) n n (List.replicate n z3) ∧ ∀ i, (w.alloc (.cells (madeCells #[.float .f32 0, .float .f32 0, .float .f32 0] (n * 3)) 34)).frozen? ⟨w.heap.size, i, none⟩ = false := by
  have h := (OwnVs.made (w := w) hn)
  have h1 := h.is
  rw [List.length_replicate] at h1
  exact ⟨h1, h.2.1⟩
def SM (W : World) (c : Bc) (n br : Nat) (w' : World) : Prop := ∃ (w1 : World) (B' : Bd) (g : Nat), Below W.heap.size W w1 ∧ IsB w1 B' c ∧ LB W.heap.size w1.heap.size w1 B' ∧ (W.heap.size ≤ g ∧ g < w1.heap.size) ∧ IsVs w1 (some ⟨g, 0, none⟩) n n (List.replicate n z3) ∧ w' = setL w1 br 0 (ml B' (some ⟨g, 0, none⟩) n n)
theorem nil_lv (lo hi : Nat) : LV lo hi none := fun x hx => by cases hx
set_option maxHeartbeats 4000000 in
theorem spec_StillMotion (B : Bd) (c : Bc) (w : World) (h : IsB w B c) :
    Calls Try.prog 39 #[B.v] w fun e w' => (∃ (B' : Bd) (va : Option Addr), e = .returned (.tuple #[mv B' va (stiV c).length (stiV c).length, .bool (bodyB c)]) ∧ IsB w' B' (stiC c) ∧ IsVs w' va (stiV c).length (stiV c).length (stiV c) ∧ LB w.heap.size w'.heap.size w' B' ∧ LV w.heap.size w'.heap.size va) ∧ Below w.heap.size w w' := by
  have ui := Try.underlying67
  have uib := Try.underlying36
  have uim := Try.underlying29
  have T0 : Hid (Tc w w.heap.size (w.heap.size + 1) B.l Z10 ((w.alloc (BoxB B 36)).alloc (.cells #[.slice none 0 0, .slice none 0 0, .slice none 0 0, .float .f32 0, .float .f32 0, .slice none 0 0, .float .f32 0, .float .f32 0, .float .f32 0, .slice none 0 0] 67))) := Lib.hid
    ⟨At.new.alloc, by
      have := At.new (w := w.alloc (BoxB B 36)) (vs := Z10) (t := 67)
      simpa using this, fun i => by go_simp, fun i => by go_simp, ((Below.refl _ _).alloc (Nat.le_refl _) _).alloc (by simp) _, ⟨Nat.le_refl _, by omega, by omega⟩, by simp <;> omega⟩
  have H := Lib.hid h
  have LN := Lib.hid h.lens
  have J := Lib.hid ((l03Is w.heap.size B c _ T0.out.out (h.below T0.out.bel)).mono (R' := fun e w' => e = .returned (.bool (bodyB c)) ∧ Below ((w.alloc (BoxB B 36)).alloc (.cells #[.slice none 0 0, .slice none 0 0, .slice none 0 0, .float .f32 0, .float .f32 0, .slice none 0 0, .float .f32 0, .float .f32 0, .float .f32 0, .slice none 0 0] 67)).heap.size ((w.alloc (BoxB B 36)).alloc (.cells #[.slice none 0 0, .slice none 0 0, .slice none 0 0, .float .f32 0, .float .f32 0, .slice none 0 0, .float .f32 0, .float .f32 0, .float .f32 0, .slice none 0 0] 67)) w') (fun _ _ ⟨he, n, hw⟩ => ⟨he, by rw [hw]; exact below_drewN (Below.refl _ _) n⟩))
  unfold stiC stiV
  cases hv : bodyB c
  · rw [hv] at J
    clear hv h
    go_enter Try.func39, Try.ntmps39
    go_wp2_with fail
    change Calls _ _ _ ((w.alloc (BoxB B 36)).alloc (.cells #[.slice none 0 0, .slice none 0 0, .slice none 0 0, .float .f32 0, .float .f32 0, .slice none 0 0, .float .f32 0, .float .f32 0, .float .f32 0, .slice none 0 0] 67)) _
    generalize ((w.alloc (BoxB B 36)).alloc (.cells #[.slice none 0 0, .slice none 0 0, .slice none 0 0, .float .f32 0, .float .f32 0, .slice none 0 0, .float .f32 0, .float .f32 0, .float .f32 0, .slice none 0 0] 67)) = W at *
    refine J.out.mono ?_
    rintro e w2 ⟨rfl, hB1⟩
    have T2 := Lib.hid (T0.out.call hB1)
    clear hB1
    have q0 := T2.out.res 0 _ rfl
    have p0 := T2.out.fr 0
    have q1 := T2.out.res 1 _ rfl
    have p1 := T2.out.fr 1
    have q2 := T2.out.res 2 _ rfl
    have p2 := T2.out.fr 2
    have q3 := T2.out.res 3 _ rfl
    have p3 := T2.out.fr 3
    have q4 := T2.out.res 4 _ rfl
    have p4 := T2.out.fr 4
    have q5 := T2.out.res 5 _ rfl
    have p5 := T2.out.fr 5
    have q6 := T2.out.res 6 _ rfl
    have p6 := T2.out.fr 6
    have q7 := T2.out.res 7 _ rfl
    have p7 := T2.out.fr 7
    have q8 := T2.out.res 8 _ rfl
    have p8 := T2.out.fr 8
    have q9 := T2.out.res 9 _ rfl
    have p9 := T2.out.fr 9
    obtain ⟨hR, hBB⟩ := T2.out.fin (vs' := ml nilB none 0 0) rfl
    simp only [setL, nilB, Nat.zero_add, Nat.reduceAdd] at hR hBB
    have HR := Lib.hid hR
    have HBB := Lib.hid hBB
    clear hR hBB
    go_wp2
    clear q0 q1 q2 q3 q4 q5 q6 q7 q8 q9 p0 p1 p2 p3 p4 p5 p6 p7 p8 p9
    have m0 := HR.out 0 _ rfl
    have m1 := HR.out 1 _ rfl
    have m2 := HR.out 2 _ rfl
    have m3 := HR.out 3 _ rfl
    have m4 := HR.out 4 _ rfl
    have m5 := HR.out 5 _ rfl
    have m6 := HR.out 6 _ rfl
    have m7 := HR.out 7 _ rfl
    have m8 := HR.out 8 _ rfl
    have m9 := HR.out 9 _ rfl
    refine bodyPost_ret (v := .tuple #[mv nilB none 0 0, .bool false]) (by simp [results, Try.results39, go_sem, nilB, m0, m1, m2, m3, m4, m5, m6, m7, m8, m9]) rfl ?_
    exact ⟨⟨nilB, none, rfl, nil_isb _, nil_vs _, nil_lb _ _ _, nil_lv _ _⟩, HBB.out⟩
  · rw [hv] at J
    obtain ⟨q1, q2, q3, q4, q5⟩ := body_sizes hv
    have H3 := Lib.hid (fun k (hk : k < B.tl) => show (c.ts.getD k []).length ≤ 1000 by have := q5 k (by rw [LN.out.2.1]; exact hk); omega)
    have hpl : B.pl ≤ 64 := by rw [← LN.out.1]; exact q1
    have htl : B.tl ≤ 128 := by rw [← LN.out.2.1]; exact q2
    have hsl : B.sl ≤ 200 := by rw [← LN.out.2.2.1]; exact q3
    have hwl : B.wl ≤ 64 := by rw [← LN.out.2.2.2]; exact q4
    clear hv h q5
    show Calls _ _ _ _ (fun e w' => (∃ (B' : Bd) (va : Option Addr), e = .returned (.tuple #[mv B' va (List.replicate c.cs.length z3).length (List.replicate c.cs.length z3).length, .bool true]) ∧ IsB w' B' c ∧ IsVs w' va (List.replicate c.cs.length z3).length (List.replicate c.cs.length z3).length (List.replicate c.cs.length z3) ∧ LB w.heap.size w'.heap.size w' B' ∧ LV w.heap.size w'.heap.size va) ∧ Below w.heap.size w w')
    rw [List.length_replicate, LN.out.1]
    go_enter Try.func39, Try.ntmps39
    go_wp2_with fail
    change Calls _ _ _ ((w.alloc (BoxB B 36)).alloc (.cells #[.slice none 0 0, .slice none 0 0, .slice none 0 0, .float .f32 0, .float .f32 0, .slice none 0 0, .float .f32 0, .float .f32 0, .float .f32 0, .slice none 0 0] 67)) _
    generalize ((w.alloc (BoxB B 36)).alloc (.cells #[.slice none 0 0, .slice none 0 0, .slice none 0 0, .float .f32 0, .float .f32 0, .slice none 0 0, .float .f32 0, .float .f32 0, .float .f32 0, .slice none 0 0] 67)) = W at *
    refine J.out.mono ?_
    rintro e w1 ⟨rfl, hB0⟩
    have T1 := Lib.hid (T0.out.call hB0)
    clear hB0
    go_wp2_with fail
    refine Reg6.wp_region_mix (s := 7) (C := fun w' => Below w1.heap.size w1 w') (D := fun _ w' => SM w1 c B.pl (w.heap.size + 1) w') (G := fun w1 w2 => Below w1.heap.size w1 w2)
      (Rv := fun i v => match i with | 1 => v = .pointer (some ⟨w.heap.size, 0, none⟩) | 2 => v = .pointer (some ⟨w.heap.size, 0, none⟩) | 3 => v = .slice B.pa B.pl B.pc | 4 => v = .int .i64 B.pl | 8 => v = .bool true | _ => True)
      (Rw := fun i v w' => match i with
        | 0 => ∃ B' : Bd, v = B'.v ∧ IsB w' B' c ∧ LB w1.heap.size w'.heap.size w' B'
        | 5 => ∃ g, v = .slice (some ⟨g, 0, none⟩) B.pl B.pl ∧ (w1.heap.size ≤ g ∧ g < w'.heap.size) ∧ IsVs w' (some ⟨g, 0, none⟩) B.pl B.pl (List.replicate B.pl z3)
        | 6 => ∃ (B' : Bd) (g : Nat), v = mv B' (some ⟨g, 0, none⟩) B.pl B.pl ∧ (IsB w' B' c ∧ LB w1.heap.size w'.heap.size w' B') ∧ (w1.heap.size ≤ g ∧ g < w'.heap.size) ∧ IsVs w' (some ⟨g, 0, none⟩) B.pl B.pl (List.replicate B.pl z3)
        | _ => True) [false, false, false, true, false, false, false, true, true, true, true, true, true, true]
      (by kernel_rfl) (by kernel_rfl) (by kernel_rfl) ?_ (below_drewN (Below.refl _ _) 1) ?_ ?_
    · intro j v w1 w2 hC hG hR
      match j with
      | 0 => obtain ⟨B', e, h1, h2⟩ := hR; exact ⟨B', e, h1.below hG, (h2.agree (S := fun _ => True) (fun _ _ _ => trivial) (Agree.of_below hG)).wide (Nat.le_refl _) hG.size⟩
      | 1 => trivial
      | 2 => trivial
      | 3 => trivial
      | 4 => trivial
      | 5 => obtain ⟨g, e, h1, h2⟩ := hR; exact ⟨g, e, ⟨h1.1, Nat.lt_of_lt_of_le h1.2 hG.size⟩, h2.below hG⟩
      | 6 => obtain ⟨B', g, e, ⟨k1, k2⟩, h1, h2⟩ := hR; exact ⟨B', g, e, ⟨k1.below hG, (k2.agree (S := fun _ => True) (fun _ _ _ => trivial) (Agree.of_below hG)).wide (Nat.le_refl _) hG.size⟩, ⟨h1.1, Nat.lt_of_lt_of_le h1.2 hG.size⟩, h2.below hG⟩
      | 7 => trivial
      | 8 => trivial
      | _ + 9 => trivial
    · refine ⟨?_, ?_, ?_, ?_, ?_, ?_, ?_, ?_, ?_, trivial⟩
      · refine Reg6.Obl.early rfl (by kernel_rfl) ?_
        rintro a wq hC hx hd K hK
        have HC := Lib.hid hC
        clear hC
        have t1 : a.tmps[1]?.getD undef = .pointer (some ⟨w.heap.size, 0, none⟩) := Reg.slot_val (hx 1 (by kernel_rfl))
        go_simp
        refine (l03Own w.heap.size B c wq (T1.out.call HC.out).out (H.out.below (T1.out.call HC.out).bel) (by omega) (by omega) H3.out (by omega) (by omega)).mono ?_
        rintro en w2 ⟨B', rfl, hI, hL, hB2⟩
        exact hK _ _ trivial ⟨B', rfl, hI, hL.wide HC.out.size (Nat.le_refl _)⟩ (HC.out.trans (hB2.mono HC.out.size)) hB2
      · refine Reg6.Obl.early rfl (by kernel_rfl) ?_
        rintro a wq hC hx hd K hK
        have t1 : a.tmps[1]?.getD undef = .pointer (some ⟨w.heap.size, 0, none⟩) := Reg.slot_val (hx 1 (by kernel_rfl))
        go_simp
        exact hK _ _ rfl trivial hC (Below.refl _ _)
      · refine Reg6.Obl.early rfl (by kernel_rfl) ?_
        rintro a wq hC hx hd K hK
        have t8 : a.tmps[8]?.getD undef = .pointer (some ⟨w.heap.size, 0, none⟩) := Reg.slot_val (hd 1 8 (by kernel_rfl) rfl).1
        go_simp
        exact hK _ _ rfl trivial hC (Below.refl _ _)
      · refine Reg6.Obl.early rfl (by kernel_rfl) ?_
        rintro a wq hC hx hd K hK
        have HC := Lib.hid hC
        clear hC
        have t9 : a.tmps[9]?.getD undef = .pointer (some ⟨w.heap.size, 0, none⟩) := Reg.slot_val (hd 2 9 (by kernel_rfl) rfl).1
        have y0 := (T1.out.call HC.out).out 0 _ rfl
        go_simp
        exact hK _ _ rfl trivial HC.out (Below.refl _ _)
      · refine Reg6.Obl.early rfl (by kernel_rfl) ?_
        rintro a wq hC hx hd K hK
        have t10 : a.tmps[10]?.getD undef = .slice B.pa B.pl B.pc := Reg.slot_val (hd 3 10 (by kernel_rfl) rfl).1
        go_simp
        exact hK _ _ rfl trivial hC (Below.refl _ _)
      · refine Reg6.Obl.early rfl (by kernel_rfl) ?_
        rintro a wq hC hx hd K hK
        have HC := Lib.hid hC
        clear hC
        have t11 : a.tmps[11]?.getD undef = .int .i64 B.pl := Reg.slot_val (hd 4 11 (by kernel_rfl) rfl).1
        have hmk := make_vecs wq B.pl (by omega)
        have HZ := Lib.hid (zeros_vs wq B.pl (by omega))
        go_simp
        exact hK _ _ trivial ⟨_, rfl, ⟨HC.out.size, by simp⟩, HZ.out.1⟩ (HC.out.alloc HC.out.size _) ((Below.refl _ _).alloc (Nat.le_refl _) _)
      · refine Reg6.Obl.early rfl (by kernel_rfl) ?_
        rintro a wq hC hx hd K hK
        have HC := Lib.hid hC
        clear hC
        obtain ⟨B', g7, b1, b2⟩ := (hd 0 7 (by kernel_rfl) rfl).2
        have t7 := Reg.slot_val g7
        obtain ⟨g, g12, v1, v2⟩ := (hd 5 12 (by kernel_rfl) rfl).2
        have t12 := Reg.slot_val g12
        have HB := Lib.hid (And.intro b1 b2)
        have HV := Lib.hid (And.intro v1 v2)
        clear g7 b1 b2 g12 v1 v2
        go_simp
        exact hK _ _ trivial ⟨B', g, rfl, HB.out, HV.out.1, HV.out.2⟩ HC.out (Below.refl _ _)
      · refine Reg6.Obl.store rfl ?_
        rintro a wq hC hx hd K hK
        have HC := Lib.hid hC
        clear hC
        have t2 : a.tmps[2]?.getD undef = .pointer (some ⟨w.heap.size + 1, 0, none⟩) := Reg.slot_val (hx 2 (by kernel_rfl))
        obtain ⟨B', g, g13, ⟨b1, b2⟩, v1, v2⟩ := (hd 6 13 (by kernel_rfl) rfl).2
        have t13 := Reg.slot_val g13
        have HS : Hid (SM w1 c B.pl (w.heap.size + 1) (setL wq (w.heap.size + 1) 0 (ml B' (some ⟨g, 0, none⟩) B.pl B.pl))) := Lib.hid ⟨wq, B', g, HC.out, b1, b2, v1, v2, rfl⟩
        have TT := T1.out.call HC.out
        have y0 := TT.res 0 _ rfl
        have y1 := TT.res 1 _ rfl
        have y2 := TT.res 2 _ rfl
        have y3 := TT.res 3 _ rfl
        have y4 := TT.res 4 _ rfl
        have y5 := TT.res 5 _ rfl
        have y6 := TT.res 6 _ rfl
        have y7 := TT.res 7 _ rfl
        have y8 := TT.res 8 _ rfl
        have y9 := TT.res 9 _ rfl
        have f0 := TT.fr 0
        have f1 := TT.fr 1
        have f2 := TT.fr 2
        have f3 := TT.fr 3
        have f4 := TT.fr 4
        have f5 := TT.fr 5
        have f6 := TT.fr 6
        have f7 := TT.fr 7
        have f8 := TT.fr 8
        have f9 := TT.fr 9
        clear g13 b1 b2 v1 v2 TT
        go_simp
        exact hK _ HS.out
      · refine Reg6.Obl.late rfl (by kernel_rfl) ?_
        rintro a wq hx hd K hK
        go_simp
        exact hK _ rfl (fun w hD => hD)
    rintro f w2 hD hd
    obtain ⟨wf, B', g, hB1, hI, hL, hg, hV, rfl⟩ := hD
    have g3 : f 3 = .bool true := hd 8 3 rfl
    simp only [Reg.mixL, g3]
    have hlt := T1.out.lt
    have T2 := Lib.hid (T1.out.call hB1)
    obtain ⟨hR, hBB⟩ := T2.out.fin (vs' := ml B' (some ⟨g, 0, none⟩) B.pl B.pl) rfl
    have hA := Agree.setL (Sy.res (bo := w.heap.size) (br := w.heap.size + 1)) (ml B' (some ⟨g, 0, none⟩) B.pl B.pl) wf 0 (Agree.refl (Sy w.heap.size (w.heap.size + 1)) wf)
    have hs : ∀ q, w1.heap.size ≤ q → q < wf.heap.size → Sy w.heap.size (w.heap.size + 1) q := Sy.new hlt.1 hlt.2
    have hb0 := T1.out.bel.size
    have M := Lib.hid (And.intro (hI.agree hL hs hA) (And.intro (vs_agree hV (fun x hx => by cases hx; exact ⟨g, rfl, hg.1, hg.2⟩) hs hA) (And.intro ((hL.agree hs hA).wide hb0 hA.size) (And.intro (show LV w.heap.size (setL wf (w.heap.size + 1) 0 (ml B' (some ⟨g, 0, none⟩) B.pl B.pl)).heap.size (some ⟨g, 0, none⟩) from fun x hx => by cases hx; exact ⟨g, rfl, by omega, by rw [setL_size]; exact hg.2⟩) hBB))))
    have HR := Lib.hid hR
    clear hR hBB hA hs hI hL hV hg hB1 hd
    generalize (setL wf (w.heap.size + 1) 0 (ml B' (some ⟨g, 0, none⟩) B.pl B.pl)) = W2 at *
    have m0 := HR.out 0 _ rfl
    have m1 := HR.out 1 _ rfl
    have m2 := HR.out 2 _ rfl
    have m3 := HR.out 3 _ rfl
    have m4 := HR.out 4 _ rfl
    have m5 := HR.out 5 _ rfl
    have m6 := HR.out 6 _ rfl
    have m7 := HR.out 7 _ rfl
    have m8 := HR.out 8 _ rfl
    have m9 := HR.out 9 _ rfl
    go_wp2
    refine bodyPost_ret (v := .tuple #[mv B' (some ⟨g, 0, none⟩) B.pl B.pl, .bool true]) (by simp [results, Try.results39, go_sem, m0, m1, m2, m3, m4, m5, m6, m7, m8, m9]) rfl ?_
    exact ⟨⟨B', some ⟨g, 0, none⟩, rfl, M.out.1, M.out.2.1, M.out.2.2.1, M.out.2.2.2.1⟩, M.out.2.2.2.2⟩
end Go.Proofs.Ytmbekamnogbgaaa

/-
Texts in one: what StretchesOf stands on, part 26. Conditions: those of each.
-/
import Derived.Test.YtmbekamnogbgaabKStretchesOf25

/-
A bare body: what the program and its model return. Conditions: the mesh lies in memory.
-/
namespace Go.Proofs.Ytmbekamnogbgaab
open Go Fk Go.RowKit
set_option linter.unusedVariables false
set_option maxRecDepth 8000

theorem nil_gb (lo hi F : Nat) (w : World) : GB lo hi w nilB F :=
  ⟨⟨.inl ⟨rfl, rfl⟩, .inl ⟨rfl, rfl⟩, fun P e => by cases e⟩, .inl ⟨rfl, rfl⟩, .inl ⟨rfl, rfl⟩, fun X e => (by cases e), fun X e => (by cases e)⟩
theorem bar_len (cs : List C3) (ts : List (List Int)) : (barO cs ts).cs.length ≤ 64 ∧ (barO cs ts).ts.length ≤ 128 ∧ (barO cs ts).ss.length = 0 ∧ (barO cs ts).zs.length ≤ 64 ∧ ∀ k, k < (barO cs ts).ts.length → ((barO cs ts).ts.getD k []).length ≤ 1048576 := by
  unfold barO
  cases hv : validB cs ts
  · exact ⟨Nat.zero_le _, Nat.zero_le _, rfl, Nat.zero_le _, fun k hk => absurd hk (Nat.not_lt_zero k)⟩
  · obtain ⟨h1, h2⟩ := valid_pl hv
    refine ⟨h1, h2, rfl, ?_, fun k hk => ?_⟩
    · show (List.replicate cs.length 0).length ≤ 64
      rw [List.length_replicate]; exact h1
    · show (ts.getD k []).length ≤ 1048576
      have := rows3h hv k hk
      omega
theorem GB.wide {lo hi lo' hi' F : Nat} {w : World} {B : Bd} (h : GB lo hi w B F) (h1 : lo' ≤ lo) (h2 : hi ≤ hi') : GB lo' hi' w B F :=
  ⟨h.1.widen h1 h2, lst_widen h.2.1 h1 h2, lst_widen h.2.2.1 h1 h2, h.2.2.2⟩
/-- The bare body before it is copied. -/
def bareB (pa ta : Option Addr) (pl pc tl tc g : Nat) : Bd := ⟨pa, ta, none, some ⟨g, 0, none⟩, pl, pc, tl, tc, 0, 0, pl, pl, 0, 0, 0, 0, 0⟩
end Go.Proofs.Ytmbekamnogbgaab


/-
Copies of motions, and that they are the same: what the law's own functions return. Conditions: at most 2^20 of each.
-/
namespace Go.Proofs.Ytmbekamnogbgaab
open Go Fk Go.RowKit
set_option linter.unusedVariables false
set_option maxRecDepth 8000

/-- A motion's value. -/
abbrev mv (B : Bd) (va : Option Addr) (vl vc : Nat) : Value := .agg #[.slice B.pa B.pl B.pc, .slice B.ta B.tl B.tc, .slice B.sa B.sl B.sc, .float .f32 B.film, .float .f32 B.bend, .slice B.wa B.wl B.wc, .float .f32 B.x, .float .f32 B.y, .float .f32 B.z, .slice va vl vc]
abbrev ml (B : Bd) (va : Option Addr) (vl vc : Nat) : List Value := [.slice B.pa B.pl B.pc, .slice B.ta B.tl B.tc, .slice B.sa B.sl B.sc, .float .f32 B.film, .float .f32 B.bend, .slice B.wa B.wl B.wc, .float .f32 B.x, .float .f32 B.y, .float .f32 B.z, .slice va vl vc]
abbrev BoxM (B : Bd) (va : Option Addr) (vl vc : Nat) (t : TypeId) : Obj := .cells #[.slice B.pa B.pl B.pc, .slice B.ta B.tl B.tc, .slice B.sa B.sl B.sc, .float .f32 B.film, .float .f32 B.bend, .slice B.wa B.wl B.wc, .float .f32 B.x, .float .f32 B.y, .float .f32 B.z, .slice va vl vc] t
abbrev Z10 : List Value := [.slice none 0 0, .slice none 0 0, .slice none 0 0, .float .f32 0, .float .f32 0, .slice none 0 0, .float .f32 0, .float .f32 0, .float .f32 0, .slice none 0 0]
theorem own_vs {w : World} {lo b n c : Nat} {cs : List C3} (h : IsVs w (some ⟨b, 0, none⟩) n c cs) (h1 : lo ≤ b) (h2 : b < w.heap.size) (hf : ∀ i, w.frozen? ⟨b, i, none⟩ = false) : Own lo w.heap.size w b 0 (n * 3) :=
  ⟨h1, h2, h2, fun j hj => ⟨by obtain ⟨v, hv⟩ := cells_of h j hj; exact ⟨v, hv⟩, hf _⟩⟩
end Go.Proofs.Ytmbekamnogbgaab


/-
Marks in copies of bodies and motions. Conditions: the lists may be written.
-/
namespace Go.Proofs.Ytmbekamnogbgaab
open Go Fk Go.RowKit
set_option linter.unusedVariables false
set_option maxRecDepth 8000

theorem laws_markMeshB (lo hi b o b' o' pl pc tl tc : Nat) (ts : List (List Int)) (k0 : Nat) (w : World) (h : OwnM lo hi w b o b' o' pl tl ts) (hlo : lo ≤ w.heap.size) (h1 : pl ≤ 1048576) (h2 : tl ≤ 1048576) (hn : ∀ j, j < tl → (ts.getD j []).length ≤ 1048576) (hk : k0 ≤ 1000000) :
    Calls Try.prog 19 #[.agg #[.slice (some ⟨b, o, none⟩) pl pc, .slice (some ⟨b', o', none⟩) tl tc], .int .i64 k0] w fun e w' => ∃ z : Nat, z ≤ 2000000000000000000 ∧ e = .returned (.int .i64 z) ∧ Mark lo hi w w' := by
  have ui := Try.underlying32
  obtain ⟨hown, hrows, hne, hlt⟩ := h
  have hA : Mark lo hi w (w.alloc (.cells #[.slice (some ⟨b, o, none⟩) pl pc, .slice (some ⟨b', o', none⟩) tl tc] 32)) := Mark.alloc hlo _
  have a1 : (w.alloc (.cells #[.slice (some ⟨b, o, none⟩) pl pc, .slice (some ⟨b', o', none⟩) tl tc] 32)).cell? ⟨w.heap.size, 1, none⟩ = some (.slice (some ⟨b', o', none⟩) tl tc) := by go_simp
  have a0 : (w.alloc (.cells #[.slice (some ⟨b, o, none⟩) pl pc, .slice (some ⟨b', o', none⟩) tl tc] 32)).cell? ⟨w.heap.size, 0, none⟩ = some (.slice (some ⟨b, o, none⟩) pl pc) := by go_simp
  have nb : w.heap.size ≠ b := by have := hown.2.2.1; omega
  have hV := laws_markVectorS lo hi b o pl pc k0 _ (hown.mark hA) (by omega)
  have hs : ∀ i, (w.alloc (.cells #[.slice (some ⟨b, o, none⟩) pl pc, .slice (some ⟨b', o', none⟩) tl tc] 32)).cell? ⟨b', i, none⟩ = w.cell? ⟨b', i, none⟩ := fun i => by rw [World.cell?_alloc_lt (h := hlt)]
  have HV := Lib.hid hV
  have HA := Lib.hid hA
  have HR := Lib.hid (hrows.mark hs hA)
  have HNE := Lib.hid hne
  have HNB := Lib.hid nb
  have HN := Lib.hid hn
  clear hV hA hrows hne hs nb hown hlt hn
  generalize hCH : w.alloc (.cells #[.slice (some ⟨b, o, none⟩) pl pc, .slice (some ⟨b', o', none⟩) tl tc] 32) = W at *
  go_enter Try.func19, Try.ntmps19
  go_wp2_with fail
  refine HV.out.mono ?_
  rintro e w1 ⟨rfl, _, ho, hM1⟩
  have a1' : w1.cell? ⟨w.heap.size, 1, none⟩ = some (.slice (some ⟨b', o', none⟩) tl tc) := (ho _ _ (.inl HNB.out)).trans a1
  have HR1 := Lib.hid (HR.out.mark (fun i => ho b' i (.inl (fun h => HNE.out h.symm))) hM1)
  have HM1 := Lib.hid (HA.out.trans hM1)
  clear ho hM1 a0 a1 HV HR hCH
  generalize hq : k0 + pl * 3 = q at *
  have hq' : q ≤ 1000000000000000000 := by omega
  clear hq
  go_wp2_with (go_at_call 25; refine (laws_markInt64SS lo hi b' o' tl tc ts q w1 HR1.out h2 HN.out hq').mono ?_; rintro e w2 ⟨z, hz, rfl, _, hM2⟩; have HM2 := Lib.hid hM2; clear hM2)
  go_ret
  exact ⟨z, by omega, rfl, HM1.out.trans HM2.out⟩
set_option maxHeartbeats 1000000 in
theorem laws_markBodyO (lo hi : Nat) (B : Bd) (c : Bc) (w : World) (h : OwnB lo hi w B c.ts) (hI : IsB w B c) (hs : SmallB c) (hlo : lo ≤ w.heap.size) (hhi : hi ≤ w.heap.size) :
    Calls Try.prog 42 #[B.v, .int .i64 1] w fun e w' => ∃ z : Nat, e = .returned (.int .i64 z) ∧ Mark lo hi w w' := by
  have ui := Try.underlying64
  have uim := Try.underlying32
  have A0 : Hid (At (w.alloc (BoxB B 64)) w.heap.size B.l) := Lib.hid At.new
  have B0 : Hid (Below w.heap.size w (w.alloc (BoxB B 64))) := Lib.hid ((Below.refl _ _).alloc (Nat.le_refl _) _)
  have M0 : Hid (Mark lo hi w (w.alloc (BoxB B 64))) := Lib.hid (Mark.alloc hlo _)
  have hz : lo ≤ (w.alloc (BoxB B 64)).heap.size := by simp; omega
  have ln := hI.lens
  have h1 : B.pl ≤ 1048576 := by rw [← ln.1]; exact hs.1.1
  have h2 : B.tl ≤ 1048576 := by rw [← ln.2.1]; exact hs.1.2.1
  have h3 : ∀ j, j < B.tl → (c.ts.getD j []).length ≤ 1048576 := fun j hj => hs.1.2.2 j (by rw [ln.2.1]; exact hj)
  have h4 : B.sl ≤ 1048576 := by rw [← ln.2.2.1]; exact hs.2.1
  have h5 : B.wl ≤ 1048576 := by rw [← ln.2.2.2]; exact hs.2.2
  obtain ⟨P, R, T, G, e1, e2, e3, e4, m, r, s, g⟩ := h.below B0.out
  have J := Lib.hid (laws_markMeshB lo hi P 0 R 0 B.pl B.pc B.tl B.tc c.ts 1 _ m hz h1 h2 h3 (by decide))
  have SG := Lib.hid (And.intro s g)
  have HHI := Lib.hid hhi
  clear hI hs m s g h h3
  rw [← e1, ← e2] at J
  have ES := Lib.hid (And.intro e3 e4)
  clear e1 e2 e3 e4 r
  go_enter Try.func42, Try.ntmps42
  go_wp2_with fail
  change Calls _ _ _ (w.alloc (BoxB B 64)) _
  generalize (w.alloc (BoxB B 64)) = W at *
  refine J.out.mono ?_
  rintro e w1 ⟨z, hzb, rfl, hM1⟩
  have k2 := hM1.cell (.inr HHI.out) (A0.out 2 _ rfl)
  have k5 := hM1.cell (.inr HHI.out) (A0.out 5 _ rfl)
  have X1 := Lib.hid (M0.out.trans hM1)
  have J2 := Lib.hid (laws_markSpringS lo hi T 0 B.sl B.sc z w1 (SG.out.1.mark hM1) (by omega))
  rw [← ES.out.1] at J2
  have L2 := Lib.hid (SG.out.2.mark hM1)
  clear hM1
  go_wp2_with fail
  refine J2.out.mono ?_
  rintro e w2 ⟨rfl, _, _, hM2⟩
  have k5' := hM2.cell (.inr HHI.out) k5
  have X2 := Lib.hid (X1.out.trans hM2)
  have J3 := Lib.hid (laws_markFloat32S lo hi G 0 B.wl B.wc (z + B.sl * 4) w2 (L2.out.mark hM2) (by omega))
  rw [← ES.out.2] at J3
  clear hM2 k2 k5
  obtain ⟨y, hy⟩ : ∃ y, y = z + B.sl * 4 := ⟨_, rfl⟩
  rw [← hy] at J3 ⊢
  clear hy
  go_wp2_with fail
  refine J3.out.mono ?_
  rintro e w3 ⟨rfl, _, _, hM3⟩
  have X3 := Lib.hid (X2.out.trans hM3)
  clear hM3
  go_wp2
  go_ret
  exact ⟨y + B.wl, by first | rfl | simp, X3.out⟩
/-- A motion that a function made: its lists lie in blocks of their own. -/
def GMo (lo hi : Nat) (w : World) (B : Bd) (F : Nat) (va : Option Addr) (vl : Nat) : Prop :=
  GB lo hi w B F ∧ Lst lo hi w va (vl * 3) ∧ ∀ X, va = some ⟨X, 0, none⟩ → X ≠ F ∧ B.pa ≠ some ⟨X, 0, none⟩ ∧ B.ta ≠ some ⟨X, 0, none⟩ ∧ B.sa ≠ some ⟨X, 0, none⟩ ∧ B.wa ≠ some ⟨X, 0, none⟩
theorem GMo.agree {S : Nat → Prop} {W w : World} {lo hi F vl : Nat} {B : Bd} {va : Option Addr} (h : GMo lo hi W B F va vl) (hS : ∀ b, lo ≤ b → b < hi → S b) (hA : Agree S W w) : GMo lo hi w B F va vl :=
  ⟨h.1.agree hS hA, h.2.1.agree hS hA, h.2.2⟩
theorem GMo.below {W w : World} {lo hi F vl : Nat} {B : Bd} {va : Option Addr} (h : GMo lo hi W B F va vl) (hB : Below W.heap.size W w) : GMo lo hi w B F va vl :=
  h.agree (S := fun _ => True) (fun _ _ _ => trivial) (Agree.of_below hB)
def VecM (w : World) (a : Option Addr) (n q : Nat) : Prop := (a = none ∧ n = 0) ∨ ∃ P, a = some ⟨P, 0, none⟩ ∧ ∀ j, j < n * 3 → w.cell? ⟨P, 0 + j, none⟩ = some (.float .f32 (floatOfInt .f32 ((q + j : Nat) : Int)))
theorem VecM.below {w w' : World} {a : Option Addr} {n q : Nat} (h : VecM w a n q) (hB : Below w.heap.size w w') : VecM w' a n q :=
  h.imp id fun ⟨P, e, hc⟩ => ⟨P, e, fun j hj => cell_below hB (hc j hj)⟩
def MrkMo (w : World) (B : Bd) (F : Nat) (va : Option Addr) (vl : Nat) : Prop := MrkB w B F ∧ VecM w va vl (1 + B.pl * 3 + B.tl * 3 + B.sl * 4 + B.wl)
theorem MrkMo.below {w w' : World} {B : Bd} {F vl : Nat} {va : Option Addr} (h : MrkMo w B F va vl) (hB : Below w.heap.size w w') : MrkMo w' B F va vl := ⟨h.1.below hB, h.2.below hB⟩
end Go.Proofs.Ytmbekamnogbgaab

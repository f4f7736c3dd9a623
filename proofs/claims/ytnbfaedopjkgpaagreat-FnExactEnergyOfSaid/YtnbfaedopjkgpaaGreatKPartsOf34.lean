/-
Texts in one: what PartsOf stands on, part 34. Conditions: those of each.
-/
import Derived.Test.YtnbfaedopjkgpaaGreatKPartsOf33

/-
Marks in copies of bodies and motions. Conditions: the lists may be written.
-/
namespace Go.Proofs.YtnbfaedopjkgpaaGreat
open Go Fk Go.RowKit
set_option linter.unusedVariables false
set_option maxRecDepth 8000

theorem laws_markMeshB (lo hi b o b' o' pl pc tl tc : Nat) (ts : List (List Int)) (k0 : Nat) (w : World) (h : OwnM lo hi w b o b' o' pl tl ts) (hlo : lo ≤ w.heap.size) (h1 : pl ≤ 1048576) (h2 : tl ≤ 1048576) (hn : ∀ j, j < tl → (ts.getD j []).length ≤ 1048576) (hk : k0 ≤ 1000000) :
    Calls Tryz.prog 56 #[.agg #[.slice (some ⟨b, o, none⟩) pl pc, .slice (some ⟨b', o', none⟩) tl tc], .int .i64 k0] w fun e w' => ∃ z : Nat, z ≤ 2000000000000000000 ∧ e = .returned (.int .i64 z) ∧ Mark lo hi w w' := by
  have ui := Tryz.underlying38
  obtain ⟨hown, hrows, hne, hlt⟩ := h
  have hA : Mark lo hi w (w.alloc (.cells #[.slice (some ⟨b, o, none⟩) pl pc, .slice (some ⟨b', o', none⟩) tl tc] 38)) := Mark.alloc hlo _
  have a1 : (w.alloc (.cells #[.slice (some ⟨b, o, none⟩) pl pc, .slice (some ⟨b', o', none⟩) tl tc] 38)).cell? ⟨w.heap.size, 1, none⟩ = some (.slice (some ⟨b', o', none⟩) tl tc) := by go_simp
  have a0 : (w.alloc (.cells #[.slice (some ⟨b, o, none⟩) pl pc, .slice (some ⟨b', o', none⟩) tl tc] 38)).cell? ⟨w.heap.size, 0, none⟩ = some (.slice (some ⟨b, o, none⟩) pl pc) := by go_simp
  have nb : w.heap.size ≠ b := by have := hown.2.2.1; omega
  have hV := laws_markVectorS lo hi b o pl pc k0 _ (hown.mark hA) (by omega)
  have hs : ∀ i, (w.alloc (.cells #[.slice (some ⟨b, o, none⟩) pl pc, .slice (some ⟨b', o', none⟩) tl tc] 38)).cell? ⟨b', i, none⟩ = w.cell? ⟨b', i, none⟩ := fun i => by rw [World.cell?_alloc_lt (h := hlt)]
  have HV := Lib.hid hV
  have HA := Lib.hid hA
  have HR := Lib.hid (hrows.mark hs hA)
  have HNE := Lib.hid hne
  have HNB := Lib.hid nb
  have HN := Lib.hid hn
  clear hV hA hrows hne hs nb hown hlt hn
  generalize hCH : w.alloc (.cells #[.slice (some ⟨b, o, none⟩) pl pc, .slice (some ⟨b', o', none⟩) tl tc] 38) = W at *
  go_enter Tryz.func56, Tryz.ntmps56
  go_wp2_with fail
  refine HV.out.mono ?_
  rintro e w1 ⟨rfl, _, ho, hM1⟩
  have a1' : w1.cell? ⟨w.heap.size, 1, none⟩ = some (.slice (some ⟨b', o', none⟩) tl tc) := (ho _ _ (.inl HNB.out)).trans a1
  have HR1 := Lib.hid (HR.out.mark (fun i => ho b' i (.inl (fun h => HNE.out h.symm))) hM1)
  have HM1 := Lib.hid (HA.out.trans hM1)
  clear ho hM1 a0 a1 HV HR hCH
  generalize hq : k0 + pl * 3 = q at *
  have hq' : q ≤ 1000000000000000000 := by omega
  clear hq
  go_wp2_with (go_at_call 103; refine (laws_markInt64SS lo hi b' o' tl tc ts q w1 HR1.out h2 HN.out hq').mono ?_; rintro e w2 ⟨z, hz, rfl, _, hM2⟩; have HM2 := Lib.hid hM2; clear hM2)
  go_ret
  exact ⟨z, by omega, rfl, HM1.out.trans HM2.out⟩
set_option maxHeartbeats 1000000 in
theorem laws_markBodyO (lo hi : Nat) (B : Bd) (c : Bc) (w : World) (h : OwnB lo hi w B c.ts) (hI : IsB w B c) (hs : SmallB c) (hlo : lo ≤ w.heap.size) (hhi : hi ≤ w.heap.size) :
    Calls Tryz.prog 17 #[B.v, .int .i64 1] w fun e w' => ∃ z : Nat, e = .returned (.int .i64 z) ∧ Mark lo hi w w' := by
  have ui := Tryz.underlying42
  have uim := Tryz.underlying38
  have A0 : Hid (At (w.alloc (BoxB B 42)) w.heap.size B.l) := Lib.hid At.new
  have B0 : Hid (Below w.heap.size w (w.alloc (BoxB B 42))) := Lib.hid ((Below.refl _ _).alloc (Nat.le_refl _) _)
  have M0 : Hid (Mark lo hi w (w.alloc (BoxB B 42))) := Lib.hid (Mark.alloc hlo _)
  have hz : lo ≤ (w.alloc (BoxB B 42)).heap.size := by simp; omega
  have ln := hI.lens
  have h1 : B.pl ≤ 1048576 := by rw [← ln.1]; exact hs.1.1
  have h2 : B.tl ≤ 1048576 := by rw [← ln.2.1]; exact hs.1.2.1
  have h3 : ∀ j, j < B.tl → (c.ts.getD j []).length ≤ 1048576 := fun j hj => hs.1.2.2 j (by rw [ln.2.1]; exact hj)
  have h4 : B.sl ≤ 1048576 := by rw [← ln.2.2.1]; exact hs.2.1
  have h5 : B.wl ≤ 1048576 := by rw [← ln.2.2.2]; exact hs.2.2
  obtain ⟨P, R, T, G, e1, e2, e3, e4, m, r, s, g⟩ := h.below B0.out
  have J := Lib.hid (laws_markMeshB lo hi P 0 R 0 B.pl B.pc B.tl B.tc c.ts 1 _ m hz h1 h2 h3 (by decide))
  have SG := Lib.hid (And.intro s g)
  have HHI := Lib.hid hhi
  clear hI hs m s g h h3
  rw [← e1, ← e2] at J
  have ES := Lib.hid (And.intro e3 e4)
  clear e1 e2 e3 e4 r
  go_enter Tryz.func17, Tryz.ntmps17
  go_wp2_with fail
  change Calls _ _ _ (w.alloc (BoxB B 42)) _
  generalize (w.alloc (BoxB B 42)) = W at *
  refine J.out.mono ?_
  rintro e w1 ⟨z, hzb, rfl, hM1⟩
  have k2 := hM1.cell (.inr HHI.out) (A0.out 2 _ rfl)
  have k5 := hM1.cell (.inr HHI.out) (A0.out 5 _ rfl)
  have X1 := Lib.hid (M0.out.trans hM1)
  have J2 := Lib.hid (laws_markSpringS lo hi T 0 B.sl B.sc z w1 (SG.out.1.mark hM1) (by omega))
  rw [← ES.out.1] at J2
  have L2 := Lib.hid (SG.out.2.mark hM1)
  clear hM1
  go_wp2_with fail
  refine J2.out.mono ?_
  rintro e w2 ⟨rfl, _, _, hM2⟩
  have k5' := hM2.cell (.inr HHI.out) k5
  have X2 := Lib.hid (X1.out.trans hM2)
  have J3 := Lib.hid (laws_markFloat32S lo hi G 0 B.wl B.wc (z + B.sl * 4) w2 (L2.out.mark hM2) (by omega))
  rw [← ES.out.2] at J3
  clear hM2 k2 k5
  obtain ⟨y, hy⟩ : ∃ y, y = z + B.sl * 4 := ⟨_, rfl⟩
  rw [← hy] at J3 ⊢
  clear hy
  go_wp2_with fail
  refine J3.out.mono ?_
  rintro e w3 ⟨rfl, _, _, hM3⟩
  have X3 := Lib.hid (X2.out.trans hM3)
  clear hM3
  go_wp2
  go_ret
  exact ⟨y + B.wl, by first | rfl | simp, X3.out⟩
/-- A motion that a function made: its lists lie in blocks of their own. -/
def GMo (lo hi : Nat) (w : World) (B : Bd) (F : Nat) (va : Option Addr) (vl : Nat) : Prop :=
  GB lo hi w B F ∧ Lst lo hi w va (vl * 3) ∧ ∀ X, va = some ⟨X, 0, none⟩ → X ≠ F ∧ B.pa ≠ some ⟨X, 0, none⟩ ∧ B.ta ≠ some ⟨X, 0, none⟩ ∧ B.sa ≠ some ⟨X, 0, none⟩ ∧ B.wa ≠ some ⟨X, 0, none⟩
theorem GMo.agree {S : Nat → Prop} {W w : World} {lo hi F vl : Nat} {B : Bd} {va : Option Addr} (h : GMo lo hi W B F va vl) (hS : ∀ b, lo ≤ b → b < hi → S b) (hA : Agree S W w) : GMo lo hi w B F va vl :=
  ⟨h.1.agree hS hA, h.2.1.agree hS hA, h.2.2⟩
theorem GMo.below {W w : World} {lo hi F vl : Nat} {B : Bd} {va : Option Addr} (h : GMo lo hi W B F va vl) (hB : Below W.heap.size W w) : GMo lo hi w B F va vl :=
  h.agree (S := fun _ => True) (fun _ _ _ => trivial) (Agree.of_below hB)
def VecM (w : World) (a : Option Addr) (n q : Nat) : Prop := (a = none ∧ n = 0) ∨ ∃ P, a = some ⟨P, 0, none⟩ ∧ ∀ j, j < n * 3 → w.cell? ⟨P, 0 + j, none⟩ = some (.float .f32 (floatOfInt .f32 ((q + j : Nat) : Int)))
theorem VecM.below {w w' : World} {a : Option Addr} {n q : Nat} (h : VecM w a n q) (hB : Below w.heap.size w w') : VecM w' a n q :=
  h.imp id fun ⟨P, e, hc⟩ => ⟨P, e, fun j hj => cell_below hB (hc j hj)⟩
def MrkMo (w : World) (B : Bd) (F : Nat) (va : Option Addr) (vl : Nat) : Prop := MrkB w B F ∧ VecM w va vl (1 + B.pl * 3 + B.tl * 3 + B.sl * 4 + B.wl)
theorem MrkMo.below {w w' : World} {B : Bd} {F vl : Nat} {va : Option Addr} (h : MrkMo w B F va vl) (hB : Below w.heap.size w w') : MrkMo w' B F va vl := ⟨h.1.below hB, h.2.below hB⟩
end Go.Proofs.YtnbfaedopjkgpaaGreat


/-
A motion that stands still: what the model returns. Conditions: the body lies in memory.
-/
namespace Go.Proofs.YtnbfaedopjkgpaaGreat
open Go Fk Go.RowKit
set_option linter.unusedVariables false
set_option maxRecDepth 8000

/-- The body of the motion that is returned, and its speeds. -/
def stiC (c : Bc) : Bc := bif bodyB c then c else ⟨[], [], [], [], some 0, some 0, z3⟩
def stiV (c : Bc) : List C3 := bif bodyB c then List.replicate c.cs.length z3 else []
theorem sti_len (c : Bc) : (stiC c).cs.length ≤ 64 ∧ (stiC c).ts.length ≤ 128 ∧ (stiC c).ss.length ≤ 200 ∧ (stiC c).zs.length ≤ 64 ∧ (stiV c).length ≤ 64 ∧ ∀ k, k < (stiC c).ts.length → ((stiC c).ts.getD k []).length ≤ 1048576 := by
  unfold stiC stiV
  cases hv : bodyB c
  · exact ⟨Nat.zero_le _, Nat.zero_le _, Nat.zero_le _, Nat.zero_le _, Nat.zero_le _, fun k hk => absurd hk (Nat.not_lt_zero k)⟩
  · unfold bodyB at hv
    simp only [Bool.and_eq_true] at hv
    obtain ⟨⟨⟨hv1, hv2⟩, hv3⟩, hv4⟩ := hv
    obtain ⟨h1, h2⟩ := valid_pl hv1
    have k2 := of_decide_eq_true hv2
    have k3 := of_decide_eq_true hv3
    refine ⟨h1, h2, k2, by show c.zs.length ≤ 64; omega, ?_, fun k hk => ?_⟩
    · show (List.replicate c.cs.length z3).length ≤ 64
      rw [List.length_replicate]; exact h1
    · show (c.ts.getD k []).length ≤ 1048576
      have := rows3h hv1 k hk
      omega
theorem body_sizes {c : Bc} (hv : bodyB c = true) : c.cs.length ≤ 64 ∧ c.ts.length ≤ 128 ∧ c.ss.length ≤ 200 ∧ c.zs.length ≤ 64 ∧ ∀ k, k < c.ts.length → (c.ts.getD k []).length = 3 := by
  unfold bodyB at hv
  simp only [Bool.and_eq_true] at hv
  obtain ⟨⟨⟨hv1, hv2⟩, hv3⟩, hv4⟩ := hv
  obtain ⟨h1, h2⟩ := valid_pl hv1
  have k2 := of_decide_eq_true hv2
  have k3 := of_decide_eq_true hv3
  exact ⟨h1, h2, k2, by omega, rows3h hv1⟩
/-- A list of zero vectors that was made. -/
theorem zeros_vs (w : World) (n : Nat) (hn : n ≤ 1048576) : IsVs (w.alloc (.cells (madeCells #[.float .f32 0, .float .f32 0, .float .f32 0] (n * 3)) 40)) (some ⟨w.heap.size, 0, none⟩) n n (List.replicate n z3) ∧ ∀ i, (w.alloc (.cells (madeCells #[.float .f32 0, .float .f32 0, .float .f32 0] (n * 3)) 40)).frozen? ⟨w.heap.size, i, none⟩ = false := by
  have h := (OwnVs.made (w := w) hn)
  have h1 := h.is
  rw [List.length_replicate] at h1
  exact ⟨h1, h.2.1⟩
def SM (W : World) (c : Bc) (n br : Nat) (w' : World) : Prop := ∃ (w1 : World) (B' : Bd) (g : Nat), Below W.heap.size W w1 ∧ IsB w1 B' c ∧ LB W.heap.size w1.heap.size w1 B' ∧ (W.heap.size ≤ g ∧ g < w1.heap.size) ∧ IsVs w1 (some ⟨g, 0, none⟩) n n (List.replicate n z3) ∧ w' = setL w1 br 0 (ml B' (some ⟨g, 0, none⟩) n n)
theorem nil_lv (lo hi : Nat) : LV lo hi none := fun x hx => by cases hx
end Go.Proofs.YtnbfaedopjkgpaaGreat


/-
A body whose places are moved: what the program makes. Conditions: all lie in memory.
-/
namespace Go.Proofs.YtnbfaedopjkgpaaGreat
open Go Fk Go.RowKit
set_option linter.unusedVariables false
set_option maxRecDepth 8000

def okM (c : Bc) (n : Nat) : Bool := bodyB c && decide (n = c.cs.length)
def mvC (c : Bc) (ys : List C3) (d : Option Nat) : Bc := ⟨mkM c.cs ys d c.cs.length c.cs.length, c.ts, c.ss, c.zs, c.film, c.bend, c.fall⟩
def mvO (c : Bc) (ys : List C3) (n : Nat) (d : Option Nat) : Bc := bif okM c n then mvC c ys d else ⟨[], [], [], [], some 0, some 0, z3⟩
end Go.Proofs.YtnbfaedopjkgpaaGreat


/-
A body of its own, whose places may be written: what the model makes. Conditions: it lies in memory, within the limits.
-/
namespace Go.Proofs.YtnbfaedopjkgpaaGreat
open Go Fk Go.RowKit
set_option linter.unusedVariables false
set_option maxRecDepth 8000

/-- A list of rows, it and its rows in blocks that are told. -/
def LTs (S : Nat → Prop) (w : World) (a : Option Addr) (n : Nat) : Prop := ∀ x, a = some x → ∃ g, x = ⟨g, 0, none⟩ ∧ S g ∧ ∀ i, i < n → ∃ b m c, w.cell? ⟨g, i, none⟩ = some (.slice b m c) ∧ ∀ y, b = some y → ∃ h o, y = ⟨h, o, none⟩ ∧ S h
theorem LTs.less {S T : Nat → Prop} {w : World} {a : Option Addr} {n : Nat} (h : LTs S w a n) (hT : ∀ b, S b → T b) : LTs T w a n := fun x hx => by
  obtain ⟨g, e, h1, h2⟩ := h x hx
  refine ⟨g, e, hT g h1, fun i hi => ?_⟩
  obtain ⟨b, m, c, hc, hb⟩ := h2 i hi
  refine ⟨b, m, c, hc, fun y hy => ?_⟩
  obtain ⟨q, o, e, k⟩ := hb y hy
  exact ⟨q, o, e, hT q k⟩
theorem LTs.agree {S T : Nat → Prop} {W w : World} {a : Option Addr} {n : Nat} (h : LTs S W a n) (hS : ∀ b, S b → T b) (hA : Agree T W w) : LTs S w a n := fun x hx => by
  obtain ⟨g, e, h1, h2⟩ := h x hx
  refine ⟨g, e, h1, fun i hi => ?_⟩
  obtain ⟨b, m, c, hc, hb⟩ := h2 i hi
  exact ⟨b, m, c, hA.cell _ _ _ (hS g h1) hc, hb⟩
theorem ts_agreeS {S T : Nat → Prop} {W w : World} {a : Option Addr} {n c : Nat} {ts : List (List Int)} (h : IsTs W a n c ts) (hl : LTs S W a n) (hS : ∀ b, S b → T b) (hA : Agree T W w) : IsTs w a n c ts := by
  obtain ⟨h1, h2, h3, h4, h5⟩ := h
  refine ⟨h1, h2, h3, h4, fun x hx i hlt => ?_⟩
  obtain ⟨g, e, l1, u3⟩ := hl x hx
  obtain ⟨b, m, q, hc, hI⟩ := h5 x hx i hlt
  subst e
  rw [addr_add', Nat.zero_add] at hc
  obtain ⟨b', m', q', hc', hb'⟩ := u3 i hlt
  rw [hc] at hc'
  cases hc'
  refine ⟨b, m, q, by rw [addr_add', Nat.zero_add]; exact hA.cell _ _ _ (hS g l1) hc, ?_⟩
  obtain ⟨i1, i2, i3, i4, i5, i6⟩ := hI
  refine ⟨i1, i2, i3, i4, i5, fun z hz j hj => ?_⟩
  have := i6 z hz j hj
  obtain ⟨h', o, e', w1⟩ := hb' z hz
  subst e'
  rw [addr_add'] at this ⊢
  exact hA.cell _ _ _ (hS h' w1) this
theorem OwnVs.agree {S : Nat → Prop} {W w : World} {g : Nat} {X : List C3} (h : OwnVs W g X) (hS : S g) (hA : Agree S W w) : OwnVs w g X := by
  refine ⟨⟨h.1.1, fun i hi => ?_⟩, fun i => by rw [hA.frozen _ _ hS h.2.2]; exact h.2.1 i, Nat.lt_of_lt_of_le h.2.2 hA.size⟩
  obtain ⟨p, q, r, ⟨k0, k1, k2⟩, f⟩ := h.1.2 i hi
  exact ⟨p, q, r, ⟨hA.cell _ _ _ hS k0, hA.cell _ _ _ hS k1, hA.cell _ _ _ hS k2⟩, f⟩
theorem own_blk {w : World} {base n : Nat} {v : Value} {xs : List Value} {cs : List C3} (h : w.ownsRow base 40 3 v n xs) (hp : PV n xs cs) (hn : cs.length = n) :
    (v = .slice none 0 0 ∧ n = 0) ∨ ∃ g cap, v = .slice (some ⟨g, 0, none⟩) n cap ∧ base ≤ g ∧ n ≤ cap ∧ cap ≤ maxLen ∧ OwnVs w g cs := by
  have h' := h
  obtain ⟨h1, h2⟩ := h
  rcases h2 with ⟨rfl, hz⟩ | ⟨g, cap, cur, rfl, hb, hh, hc1, hc2, hs, ht⟩
  · exact .inl ⟨rfl, hz⟩
  · refine .inr ⟨g, cap, rfl, hb, hc1, hc2, ⟨by omega, fun i hi => ?_⟩, fun j => h'.frozenAt j, (h'.lt g rfl).2⟩
    obtain ⟨p, q, r, e0, e1, e2, f⟩ := hp i (by omega)
    exact ⟨p, q, r, ⟨by rw [h'.cellAt _ (by omega)]; exact e0, by rw [h'.cellAt _ (by omega)]; exact e1, by rw [h'.cellAt _ (by omega)]; exact e2⟩, f⟩
theorem lts_of_owns {w : World} {base n k cap c : Nat} {g : Nat} {a : Option Addr} {ts : List (List Int)} {xs : List Value} (h : OwnT base w (.slice a n c) n ts) (hq : w.ownsRow base 40 3 (.slice (some ⟨g, 0, none⟩) k cap) k xs) : LTs (fun b => b ≠ g ∧ base ≤ b ∧ b < w.heap.size) w a n := fun x hx => by
  obtain ⟨rows, h1, h2⟩ := h
  obtain ⟨R, e, u1, u2⟩ := lv_of_owns h1 x hx
  have hne : R ≠ g := fun e' => owns_apart hq h1 (by decide) _ _ rfl hx (by subst e; exact e'.symm)
  subst hx
  subst e
  refine ⟨R, rfl, ⟨hne, u1, u2⟩, fun i hlt => ?_⟩
  obtain ⟨u, e1, e2⟩ := h2 i hlt
  obtain ⟨b, c', rfl⟩ := owns_slice e2
  refine ⟨b, _, c', by rw [h1.cellAt i (by omega)]; exact e1, fun y hy => ?_⟩
  obtain ⟨q, e, v1, v2⟩ := lv_of_owns e2 y hy
  refine ⟨q, 0, e, fun e' => owns_apart hq e2 (by decide) _ _ rfl hy (by subst e; exact e'.symm), v1, v2⟩
/-- The places of a body may be written, and its other lists lie elsewhere. -/
def PX (w : World) (n : Nat) (B : Bd) (cs : List C3) : Prop := n = 0 ∨ ∃ g, B.pa = some ⟨g, 0, none⟩ ∧ OwnVs w g cs ∧ LTs (fun b => b ≠ g) w B.ta B.tl ∧ (∀ x, B.sa = some x → ∃ b, x = ⟨b, 0, none⟩ ∧ b ≠ g) ∧ (∀ x, B.wa = some x → ∃ b, x = ⟨b, 0, none⟩ ∧ b ≠ g)
set_option maxHeartbeats 4000000 in
theorem l03OwnP (pb : Nat) (B : Bd) (c : Bc) (w : World) (A : At w pb B.l) (h : IsB w B c) (hpl : B.pl ≤ 1000) (htl : B.tl ≤ 1000) (h3 : ∀ k, k < B.tl → (c.ts.getD k []).length ≤ 1000) (hsl : B.sl ≤ 1000) (hwl : B.wl ≤ 1000) :
    Calls Tryz.prog 112 #[.pointer (some ⟨pb, 0, none⟩)] w fun e w' => ∃ B' : Bd, e = .returned B'.v ∧ IsB w' B' c ∧ LB w.heap.size w'.heap.size w' B' ∧ PX w' B.pl B' c.cs ∧ B'.pl = B.pl ∧ Below w.heap.size w w' := by
  have ui := Tryz.underlying42
  have uim := Tryz.underlying38
  obtain ⟨i0, hi, hz0, hz1, hz2⟩ := info_parts infoSp
  obtain ⟨j0, hj, hy0, hy1, hy2⟩ := info_parts info32
  have T0 : Hid (Tc w (w.heap.size + 1) w.heap.size B.l Z9' ((w.alloc (.cells #[.slice none 0 0, .slice none 0 0, .slice none 0 0, .float .f32 0, .float .f32 0, .slice none 0 0, .float .f32 0, .float .f32 0, .float .f32 0] 42)).alloc (BoxB B 42))) := Lib.hid
    ⟨by
      have := At.new (w := w.alloc (.cells #[.slice none 0 0, .slice none 0 0, .slice none 0 0, .float .f32 0, .float .f32 0, .slice none 0 0, .float .f32 0, .float .f32 0, .float .f32 0] 42)) (vs := B.l) (t := 42)
      simpa using this, At.new.alloc, fun i => by go_simp, fun i => by go_simp, ((Below.refl _ _).alloc (Nat.le_refl _) _).alloc (by simp) _, ⟨by omega, Nat.le_refl _, by omega⟩, by simp <;> omega⟩
  have H := Lib.hid h
  have HA := Lib.hid A
  have H3 := Lib.hid h3
  have hpl' := h.1.1
  have htl' := h.2.1.1
  have hsl' := h.2.2.1.1
  have hwl' := h.2.2.2.1.1
  have k0 := A 0 _ rfl
  have k1 := A 1 _ rfl
  have k2 := A 2 _ rfl
  have k3 := A 3 _ rfl
  have k4 := A 4 _ rfl
  have k5 := A 5 _ rfl
  have k6 := A 6 _ rfl
  have k7 := A 7 _ rfl
  have k8 := A 8 _ rfl
  have l0 := fun ob => cell_alloc (o := ob) k0
  have l1 := fun ob => cell_alloc (o := ob) k1
  have l2 := fun ob => cell_alloc (o := ob) k2
  have l3 := fun ob => cell_alloc (o := ob) k3
  have l4 := fun ob => cell_alloc (o := ob) k4
  have l5 := fun ob => cell_alloc (o := ob) k5
  have l6 := fun ob => cell_alloc (o := ob) k6
  have l7 := fun ob => cell_alloc (o := ob) k7
  have l8 := fun ob => cell_alloc (o := ob) k8
  clear h h3 A
  go_enter Tryz.func112, Tryz.ntmps112
  go_wp2_with fail
  clear l0 l1 l2 l3 l4 l5 l6 l7 l8 k0 k1 k2 k3 k4 k5 k6 k7 k8
  change Calls _ _ _ ((w.alloc (.cells #[.slice none 0 0, .slice none 0 0, .slice none 0 0, .float .f32 0, .float .f32 0, .slice none 0 0, .float .f32 0, .float .f32 0, .float .f32 0] 42)).alloc (BoxB B 42)) _
  generalize ((w.alloc (.cells #[.slice none 0 0, .slice none 0 0, .slice none 0 0, .float .f32 0, .float .f32 0, .slice none 0 0, .float .f32 0, .float .f32 0, .float .f32 0] 42)).alloc (BoxB B 42)) = W at *
  have A0 := Lib.hid (HA.out.below T0.out.bel)
  refine (l02Own pb B.pa B.ta B.pl B.pc B.tl B.tc c.cs c.ts W (A0.out 0 _ rfl) (A0.out 1 _ rfl) (H.out.1.below T0.out.bel) (H.out.2.1.below T0.out.bel) hpl htl H3.out).mono ?_
  rintro e w1 ⟨⟨va, vt, xs, rfl, hva, hpv, hvt⟩, hB1⟩
  obtain ⟨qa, qc, rfl⟩ := owns_slice hva
  obtain ⟨ra, rc, rfl⟩ := OwnT.slice hvt
  obtain ⟨ra', rc', e, hI⟩ := OwnT.is hvt htl' (ts_wf H.out.2.1)
  cases e
  have P1 : Hid (B.pl = 0 ∨ ∃ g, qa = some ⟨g, 0, none⟩ ∧ OwnVs w1 g c.cs ∧ (W.heap.size ≤ g ∧ g < w1.heap.size) ∧ LTs (fun b => b ≠ g ∧ W.heap.size ≤ b ∧ b < w1.heap.size) w1 ra B.tl) := Lib.hid (by
    rcases own_blk hva hpv hpl' with ⟨_, hz⟩ | ⟨g, cap, e, hb, _, _, hO⟩
    · exact .inl hz
    · cases e
      exact .inr ⟨g, rfl, hO, ⟨hb, hO.2.2⟩, lts_of_owns hvt hva⟩)
  have hlt := T0.out.lt
  have M1 := Lib.hid (And.intro (vs_owned hva hpl' hpv) (And.intro hI (And.intro (lv_of_owns hva) (lt_of_owns hvt))))
  have T1 := Lib.hid (T0.out.call hB1)
  have N1 := Lib.hid hlt
  clear hva hpv hvt hI hB1 hlt
  have e0 := T1.out.out 0 _ rfl
  have e1 := T1.out.out 1 _ rfl
  have g0 := T1.out.fo 0
  have g1 := T1.out.fo 1
  have T2 := Lib.hid (T1.out.put 0 (vs := [.slice qa B.pl qc, .slice ra B.tl rc]) (Nat.le_of_ble_eq_true rfl))
  have A1 := Lib.hid (Agree.setL (Sy.out (bo := w.heap.size + 1) (br := w.heap.size)) [.slice qa B.pl qc, .slice ra B.tl rc] w1 0 (Agree.refl (Sy (w.heap.size + 1) w.heap.size) w1))
  have X2 := Lib.hid (HA.out.below T2.out.bel)
  obtain ⟨W2, hW2⟩ : ∃ W2, W2 = setL w1 (w.heap.size + 1) 0 [.slice qa B.pl qc, .slice ra B.tl rc] := ⟨_, rfl⟩
  have HW2 := Lib.hid hW2
  rw [← hW2] at T2 A1 X2
  simp only [setL, Nat.zero_add, Nat.reduceAdd] at hW2
  obtain ⟨ys, y1, y2, y3, y4⟩ := ss_cells (H.out.2.2.1.below T2.out.bel)
  have Y2 := Lib.hid y2
  have Y3 := Lib.hid y3
  have Y4 := Lib.hid y4
  have Y1 := Lib.hid y1
  have hnone := H.out.2.2.1.2.2.2.2.1
  have HN := Lib.hid hnone
  clear y1 y2 y3 y4 hnone
  have x2 := X2.out 2 _ rfl
  rw [hW2] at x2
  have x2' := fun ob => cell_alloc (o := ob) x2
  have hszW2 : W2.heap.size = w1.heap.size := by rw [HW2.out, setL_size]
  have HST : Hid ((W2.alloc (.cells #[] 122)).ownsRow w1.heap.size 122 4 (.slice (some ⟨w1.heap.size, 0, none⟩) 0 0) 0 []) := Lib.hid (by
    have := World.ownsRow_lit (base := W2.heap.size) (e := 122) (size := 4) W2 #[] 0 (Nat.le_refl _) (by decide) rfl
    rw [hszW2] at this; exact this)
  go_wp2_with (at_builtin; go_loud (simp only [← hW2]; refine wpList_append_opt _ rfl _ _ 39 rfl w1.heap.size 122 i0 (.agg #[.int .i64 0, .int .i64 0, .float .f32 0, .float .f32 0]) 4 24 Tryz.underlying39 hi hz0 hz1 hz2 rfl (by decide) _ 0 [] rfl HST.out B.sa B.sl B.sc ys rfl HN.out Y1.out ?c2 ?c3 ?c4 ?c5 ?c6 ?_))
  case c2 =>
    intro ad had j u hu
    have := Y2.out ad had j u hu
    rw [World.cell?_alloc_lt (h := World.block_lt_of_cell? _ _ this)]
    exact this
  case c3 => exact Y3.out
  case c4 => unfold maxLen; omega
  case c5 => omega
  case c6 => simp [hszW2]
  intro v w3 hown hgrow
  rw [← hW2] at hgrow
  have hown' : w3.ownsRow W2.heap.size 122 4 v B.sl ys := by rw [hszW2]; simpa using hown
  have hB3 : Below W2.heap.size W2 w3 := ((Below.refl _ _).alloc (Nat.le_refl _) _).grown hgrow (by simp) (fun k hk => by simp [Value.ownBlock] at hk; omega)
  obtain ⟨sa, sc, rfl, hS, hSL⟩ := ss_of_owns hown' hsl' Y4.out H.out.2.2.1.2.2.2.1
  have T3 := Lib.hid (T2.out.call hB3)
  have A3 := Lib.hid (A1.out.trans (Agree.of_below hB3))
  have S3 := Lib.hid (And.intro hS hSL)
  have hz3 := hB3.size
  have X3 := Lib.hid (X2.out.below hB3)
  clear hown hgrow hown' hB3 hS hSL x2 x2' e0 e1 g0 g1 hW2
  have e2 := T3.out.out 2 _ rfl
  have g2 := T3.out.fo 2
  have T4 := Lib.hid (T3.out.put 2 (vs := [.slice sa B.sl sc]) (Nat.le_of_ble_eq_true rfl))
  have A4 := Lib.hid (Agree.setL (Sy.out (bo := w.heap.size + 1) (br := w.heap.size)) [.slice sa B.sl sc] w3 2 (Agree.refl (Sy (w.heap.size + 1) w.heap.size) w3))
  have X4 := Lib.hid (HA.out.below T4.out.bel)
  obtain ⟨W4, hW4⟩ : ∃ W4, W4 = setL w3 (w.heap.size + 1) 2 [.slice sa B.sl sc] := ⟨_, rfl⟩
  rw [← hW4] at T4 A4 X4
  have HW4 := Lib.hid hW4
  simp only [setL] at hW4
  obtain ⟨us, u1, u2, u3, u4⟩ := fs_cells (IsFs_below T4.out.bel H.out.2.2.2.1)
  have U2 := Lib.hid u2
  have U3 := Lib.hid u3
  have U4 := Lib.hid u4
  have U1 := Lib.hid u1
  have HN5 := Lib.hid H.out.2.2.2.1.2.2.2.2.1
  clear u1 u2 u3 u4
  have x5 := X4.out 5 _ rfl
  rw [hW4] at x5
  have x5' := fun ob => cell_alloc (o := ob) x5
  have hszW4 : W4.heap.size = w3.heap.size := by rw [HW4.out, setL_size]
  have HST4 : Hid ((W4.alloc (.cells #[] 27)).ownsRow w3.heap.size 27 1 (.slice (some ⟨w3.heap.size, 0, none⟩) 0 0) 0 []) := Lib.hid (by
    have := World.ownsRow_lit (base := W4.heap.size) (e := 27) (size := 1) W4 #[] 0 (Nat.le_refl _) (by decide) rfl
    rw [hszW4] at this; exact this)
  go_wp2_with (at_builtin; simp only [← hW4]; refine wpList_append_opt _ rfl _ _ 28 rfl w3.heap.size 27 j0 (.float .f32 0) 1 4 Tryz.underlying28 hj hy0 hy1 hy2 rfl (by decide) _ 0 [] rfl HST4.out B.wa B.wl B.wc us rfl HN5.out U1.out ?c2 ?c3 ?c4 ?c5 ?c6 ?_)
  case c2 =>
    intro ad had j u hu
    have := U2.out ad had j u hu
    rw [World.cell?_alloc_lt (h := World.block_lt_of_cell? _ _ this)]
    exact this
  case c3 => exact U3.out
  case c4 => unfold maxLen; omega
  case c5 => omega
  case c6 => simp [hszW4]
  intro v w5 hown hgrow
  rw [← hW4] at hgrow
  have hown' : w5.ownsRow W4.heap.size 27 1 v B.wl us := by rw [hszW4]; simpa using hown
  have hB5 : Below W4.heap.size W4 w5 := ((Below.refl _ _).alloc (Nat.le_refl _) _).grown hgrow (by simp) (fun k hk => by simp [Value.ownBlock] at hk; omega)
  obtain ⟨wa, wc, rfl, hZ, hZL⟩ := fs_of_owns hown' hwl' U4.out H.out.2.2.2.1.2.2.2.1
  have T5 := Lib.hid (T4.out.call hB5)
  have A5 := Lib.hid (A4.out.trans (Agree.of_below hB5))
  have F5 := Lib.hid (And.intro hZ hZL)
  have hz5 := hB5.size
  clear hown hgrow hown' hB5 hZ hZL x5 x5' e2 g2 hW4
  have e0 := T5.out.out 0 _ rfl
  have e1 := T5.out.out 1 _ rfl
  have e2 := T5.out.out 2 _ rfl
  have e3 := T5.out.out 3 _ rfl
  have e4 := T5.out.out 4 _ rfl
  have e5 := T5.out.out 5 _ rfl
  have e6 := T5.out.out 6 _ rfl
  have e7 := T5.out.out 7 _ rfl
  have e8 := T5.out.out 8 _ rfl
  have g5 := T5.out.fo 5
  have q0 := T5.out.res 0 _ rfl
  have p0 := T5.out.fr 0
  have q1 := T5.out.res 1 _ rfl
  have p1 := T5.out.fr 1
  have q2 := T5.out.res 2 _ rfl
  have p2 := T5.out.fr 2
  have q3 := T5.out.res 3 _ rfl
  have p3 := T5.out.fr 3
  have q4 := T5.out.res 4 _ rfl
  have p4 := T5.out.fr 4
  have q5 := T5.out.res 5 _ rfl
  have p5 := T5.out.fr 5
  have q6 := T5.out.res 6 _ rfl
  have p6 := T5.out.fr 6
  have q7 := T5.out.res 7 _ rfl
  have p7 := T5.out.fr 7
  have q8 := T5.out.res 8 _ rfl
  have p8 := T5.out.fr 8
  have T6 := Lib.hid (T5.out.put 5 (vs := [.slice wa B.wl wc]) (Nat.le_of_ble_eq_true rfl))
  have A6 := Lib.hid (Agree.setL (Sy.out (bo := w.heap.size + 1) (br := w.heap.size)) [.slice wa B.wl wc] w5 5 (Agree.refl (Sy (w.heap.size + 1) w.heap.size) w5))
  obtain ⟨hR, hBB⟩ := T6.out.fin (vs' := [.slice qa B.pl qc, .slice ra B.tl rc, .slice sa B.sl sc, .float .f32 B.film, .float .f32 B.bend, .slice wa B.wl wc, .float .f32 B.x, .float .f32 B.y, .float .f32 B.z]) rfl
  have A7 := Agree.setL (Sy.res (bo := w.heap.size + 1) (br := w.heap.size)) [.slice qa B.pl qc, .slice ra B.tl rc, .slice sa B.sl sc, .float .f32 B.film, .float .f32 B.bend, .slice wa B.wl wc, .float .f32 B.x, .float .f32 B.y, .float .f32 B.z] _ 0 A6.out
  simp only [setL, Nat.zero_add, Nat.reduceAdd] at hR hBB A7
  have HR := Lib.hid hR
  have HBB := Lib.hid hBB
  have HA7 := Lib.hid A7
  clear hR hBB A7
  go_wp2
  clear e0 e1 e2 e3 e4 e5 e6 e7 e8 g5 q0 q1 q2 q3 q4 q5 q6 q7 q8 p0 p1 p2 p3 p4 p5 p6 p7 p8
  have m0 := HR.out 0 _ rfl
  have m1 := HR.out 1 _ rfl
  have m2 := HR.out 2 _ rfl
  have m3 := HR.out 3 _ rfl
  have m4 := HR.out 4 _ rfl
  have m5 := HR.out 5 _ rfl
  have m6 := HR.out 6 _ rfl
  have m7 := HR.out 7 _ rfl
  have m8 := HR.out 8 _ rfl
  have G3 := HA7.out
  have G2 := A5.out.trans G3
  have G1 := A3.out.trans G2
  refine bodyPost_ret (v := (⟨qa, ra, sa, wa, B.pl, qc, B.tl, rc, B.sl, sc, B.wl, wc, B.film, B.bend, B.x, B.y, B.z⟩ : Bd).v) (by simp [results, Tryz.results112, go_sem, m0, m1, m2, m3, m4, m5, m6, m7, m8]) rfl ?_
  have z1 := A1.out.size
  have z4 := A4.out.size
  have n1 := N1.out
  have t1 := T1.out.lt
  have t3 := T3.out.lt
  have t2 := T2.out.lt
  have t4 := T4.out.lt
  have s1 : ∀ q, W.heap.size ≤ q → q < w1.heap.size → Sy (w.heap.size + 1) w.heap.size q := Sy.new (by omega) (by omega)
  have s2 : ∀ q, W2.heap.size ≤ q → q < w3.heap.size → Sy (w.heap.size + 1) w.heap.size q := Sy.new (by omega) (by omega)
  have s3 : ∀ q, W4.heap.size ≤ q → q < w5.heap.size → Sy (w.heap.size + 1) w.heap.size q := Sy.new (by omega) (by omega)
  have y1 := G1.size
  have y2 := G2.size
  have y3 := G3.size
  refine ⟨_, rfl, ⟨vs_agree M1.out.1 M1.out.2.2.1 s1 G1, ts_agree M1.out.2.1 M1.out.2.2.2 s1 G1, ss_agree S3.out.1 (lst_lv S3.out.2) s2 G2, fs_agree F5.out.1 (lst_lv F5.out.2) s3 G3, H.out.2.2.2.2⟩, ?_, ?_, rfl, HBB.out⟩
  · exact ⟨M1.out.2.2.1.wide (by omega) (by omega), (lt_agree M1.out.2.2.2 s1 G1).wide (by omega) (by omega), (lst_lv S3.out.2).wide (by omega) (by omega), (lst_lv F5.out.2).wide (by omega) (by omega)⟩
  · refine P1.out.imp id ?_
    rintro ⟨g, e, hO, hg, hT⟩
    refine ⟨g, e, hO.agree (s1 g hg.1 hg.2) G1, (hT.agree (fun b hb => s1 b hb.2.1 hb.2.2) G1).less (fun b hb => hb.1), fun x hx => ?_, fun x hx => ?_⟩
    · obtain ⟨b, e, k1, k2⟩ := lst_lv S3.out.2 x hx
      exact ⟨b, e, by omega⟩
    · obtain ⟨b, e, k1, k2⟩ := lst_lv F5.out.2 x hx
      exact ⟨b, e, by omega⟩
end Go.Proofs.YtnbfaedopjkgpaaGreat

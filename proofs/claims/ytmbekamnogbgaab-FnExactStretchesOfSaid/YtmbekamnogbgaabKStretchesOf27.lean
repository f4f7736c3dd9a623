/-
Texts in one: what StretchesOf stands on, part 27. Conditions: those of each.
-/
import Derived.Test.YtmbekamnogbgaabKStretchesOf26

/-
A motion that stands still: what the model returns. Conditions: the body lies in memory.
-/
namespace Go.Proofs.Ytmbekamnogbgaab
open Go Fk Go.RowKit
set_option linter.unusedVariables false
set_option maxRecDepth 8000

/-- The body of the motion that is returned, and its speeds. -/
def stiC (c : Bc) : Bc := bif bodyB c then c else ⟨[], [], [], [], some 0, some 0, z3⟩
def stiV (c : Bc) : List C3 := bif bodyB c then List.replicate c.cs.length z3 else []
theorem sti_len (c : Bc) : (stiC c).cs.length ≤ 64 ∧ (stiC c).ts.length ≤ 128 ∧ (stiC c).ss.length ≤ 200 ∧ (stiC c).zs.length ≤ 64 ∧ (stiV c).length ≤ 64 ∧ ∀ k, k < (stiC c).ts.length → ((stiC c).ts.getD k []).length ≤ 1048576 := by
  unfold stiC stiV
  cases hv : bodyB c
  · exact ⟨Nat.zero_le _, Nat.zero_le _, Nat.zero_le _, Nat.zero_le _, Nat.zero_le _, fun k hk => absurd hk (Nat.not_lt_zero k)⟩
  · unfold bodyB at hv
    simp only [Bool.and_eq_true] at hv
    obtain ⟨⟨⟨hv1, hv2⟩, hv3⟩, hv4⟩ := hv
    obtain ⟨h1, h2⟩ := valid_pl hv1
    have k2 := of_decide_eq_true hv2
    have k3 := of_decide_eq_true hv3
    refine ⟨h1, h2, k2, by show c.zs.length ≤ 64; omega, ?_, fun k hk => ?_⟩
    · show (List.replicate c.cs.length z3).length ≤ 64
      rw [List.length_replicate]; exact h1
    · show (c.ts.getD k []).length ≤ 1048576
      have := rows3h hv1 k hk
      omega
theorem body_sizes {c : Bc} (hv : bodyB c = true) : c.cs.length ≤ 64 ∧ c.ts.length ≤ 128 ∧ c.ss.length ≤ 200 ∧ c.zs.length ≤ 64 ∧ ∀ k, k < c.ts.length → (c.ts.getD k []).length = 3 := by
  unfold bodyB at hv
  simp only [Bool.and_eq_true] at hv
  obtain ⟨⟨⟨hv1, hv2⟩, hv3⟩, hv4⟩ := hv
  obtain ⟨h1, h2⟩ := valid_pl hv1
  have k2 := of_decide_eq_true hv2
  have k3 := of_decide_eq_true hv3
  exact ⟨h1, h2, k2, by omega, rows3h hv1⟩
/-- A list of zero vectors that was made. -/
theorem zeros_vs (w : World) (n : Nat) (hn : n ≤ 1048576) : IsVs (w.alloc (.cells (madeCells #[.float .f32 0, .float .f32 0, .float .f32 0] (n * 3)) 62)) (some ⟨w.heap.size, 0, none⟩) n n (List.replicate n z3) ∧ ∀ i, (w.alloc (.cells (madeCells #[.float .f32 0, .float .f32 0, .float .f32 0] (n * 3)) 62)).frozen? ⟨w.heap.size, i, none⟩ = false := by
  have h := (OwnVs.made (w := w) hn)
  have h1 := h.is
  rw [List.length_replicate] at h1
  exact ⟨h1, h.2.1⟩
def SM (W : World) (c : Bc) (n br : Nat) (w' : World) : Prop := ∃ (w1 : World) (B' : Bd) (g : Nat), Below W.heap.size W w1 ∧ IsB w1 B' c ∧ LB W.heap.size w1.heap.size w1 B' ∧ (W.heap.size ≤ g ∧ g < w1.heap.size) ∧ IsVs w1 (some ⟨g, 0, none⟩) n n (List.replicate n z3) ∧ w' = setL w1 br 0 (ml B' (some ⟨g, 0, none⟩) n n)
theorem nil_lv (lo hi : Nat) : LV lo hi none := fun x hx => by cases hx
end Go.Proofs.Ytmbekamnogbgaab


/-
A body whose places are moved: what the program makes. Conditions: all lie in memory.
-/
namespace Go.Proofs.Ytmbekamnogbgaab
open Go Fk Go.RowKit
set_option linter.unusedVariables false
set_option maxRecDepth 8000

def okM (c : Bc) (n : Nat) : Bool := bodyB c && decide (n = c.cs.length)
def mvC (c : Bc) (ys : List C3) (d : Option Nat) : Bc := ⟨mkM c.cs ys d c.cs.length c.cs.length, c.ts, c.ss, c.zs, c.film, c.bend, c.fall⟩
def mvO (c : Bc) (ys : List C3) (n : Nat) (d : Option Nat) : Bc := bif okM c n then mvC c ys d else ⟨[], [], [], [], some 0, some 0, z3⟩
end Go.Proofs.Ytmbekamnogbgaab


/-
A body of its own, whose places may be written: what the model makes. Conditions: it lies in memory, within the limits.
-/
namespace Go.Proofs.Ytmbekamnogbgaab
open Go Fk Go.RowKit
set_option linter.unusedVariables false
set_option maxRecDepth 8000

/-- A list of rows, it and its rows in blocks that are told. -/
def LTs (S : Nat → Prop) (w : World) (a : Option Addr) (n : Nat) : Prop := ∀ x, a = some x → ∃ g, x = ⟨g, 0, none⟩ ∧ S g ∧ ∀ i, i < n → ∃ b m c, w.cell? ⟨g, i, none⟩ = some (.slice b m c) ∧ ∀ y, b = some y → ∃ h o, y = ⟨h, o, none⟩ ∧ S h
theorem LTs.less {S T : Nat → Prop} {w : World} {a : Option Addr} {n : Nat} (h : LTs S w a n) (hT : ∀ b, S b → T b) : LTs T w a n := fun x hx => by
  obtain ⟨g, e, h1, h2⟩ := h x hx
  refine ⟨g, e, hT g h1, fun i hi => ?_⟩
  obtain ⟨b, m, c, hc, hb⟩ := h2 i hi
  refine ⟨b, m, c, hc, fun y hy => ?_⟩
  obtain ⟨q, o, e, k⟩ := hb y hy
  exact ⟨q, o, e, hT q k⟩
theorem LTs.agree {S T : Nat → Prop} {W w : World} {a : Option Addr} {n : Nat} (h : LTs S W a n) (hS : ∀ b, S b → T b) (hA : Agree T W w) : LTs S w a n := fun x hx => by
  obtain ⟨g, e, h1, h2⟩ := h x hx
  refine ⟨g, e, h1, fun i hi => ?_⟩
  obtain ⟨b, m, c, hc, hb⟩ := h2 i hi
  exact ⟨b, m, c, hA.cell _ _ _ (hS g h1) hc, hb⟩
theorem ts_agreeS {S T : Nat → Prop} {W w : World} {a : Option Addr} {n c : Nat} {ts : List (List Int)} (h : IsTs W a n c ts) (hl : LTs S W a n) (hS : ∀ b, S b → T b) (hA : Agree T W w) : IsTs w a n c ts := by
  obtain ⟨h1, h2, h3, h4, h5⟩ := h
  refine ⟨h1, h2, h3, h4, fun x hx i hlt => ?_⟩
  obtain ⟨g, e, l1, u3⟩ := hl x hx
  obtain ⟨b, m, q, hc, hI⟩ := h5 x hx i hlt
  subst e
  rw [addr_add', Nat.zero_add] at hc
  obtain ⟨b', m', q', hc', hb'⟩ := u3 i hlt
  rw [hc] at hc'
  cases hc'
  refine ⟨b, m, q, by rw [addr_add', Nat.zero_add]; exact hA.cell _ _ _ (hS g l1) hc, ?_⟩
  obtain ⟨i1, i2, i3, i4, i5, i6⟩ := hI
  refine ⟨i1, i2, i3, i4, i5, fun z hz j hj => ?_⟩
  have := i6 z hz j hj
  obtain ⟨h', o, e', w1⟩ := hb' z hz
  subst e'
  rw [addr_add'] at this ⊢
  exact hA.cell _ _ _ (hS h' w1) this
theorem OwnVs.agree {S : Nat → Prop} {W w : World} {g : Nat} {X : List C3} (h : OwnVs W g X) (hS : S g) (hA : Agree S W w) : OwnVs w g X := by
  refine ⟨⟨h.1.1, fun i hi => ?_⟩, fun i => by rw [hA.frozen _ _ hS h.2.2]; exact h.2.1 i, Nat.lt_of_lt_of_le h.2.2 hA.size⟩
  obtain ⟨p, q, r, ⟨k0, k1, k2⟩, f⟩ := h.1.2 i hi
  exact ⟨p, q, r, ⟨hA.cell _ _ _ hS k0, hA.cell _ _ _ hS k1, hA.cell _ _ _ hS k2⟩, f⟩
theorem own_blk {w : World} {base n : Nat} {v : Value} {xs : List Value} {cs : List C3} (h : w.ownsRow base 62 3 v n xs) (hp : PV n xs cs) (hn : cs.length = n) :
    (v = .slice none 0 0 ∧ n = 0) ∨ ∃ g cap, v = .slice (some ⟨g, 0, none⟩) n cap ∧ base ≤ g ∧ n ≤ cap ∧ cap ≤ maxLen ∧ OwnVs w g cs := by
  have h' := h
  obtain ⟨h1, h2⟩ := h
  rcases h2 with ⟨rfl, hz⟩ | ⟨g, cap, cur, rfl, hb, hh, hc1, hc2, hs, ht⟩
  · exact .inl ⟨rfl, hz⟩
  · refine .inr ⟨g, cap, rfl, hb, hc1, hc2, ⟨by omega, fun i hi => ?_⟩, fun j => h'.frozenAt j, (h'.lt g rfl).2⟩
    obtain ⟨p, q, r, e0, e1, e2, f⟩ := hp i (by omega)
    exact ⟨p, q, r, ⟨by rw [h'.cellAt _ (by omega)]; exact e0, by rw [h'.cellAt _ (by omega)]; exact e1, by rw [h'.cellAt _ (by omega)]; exact e2⟩, f⟩
theorem lts_of_owns {w : World} {base n k cap c : Nat} {g : Nat} {a : Option Addr} {ts : List (List Int)} {xs : List Value} (h : OwnT base w (.slice a n c) n ts) (hq : w.ownsRow base 62 3 (.slice (some ⟨g, 0, none⟩) k cap) k xs) : LTs (fun b => b ≠ g ∧ base ≤ b ∧ b < w.heap.size) w a n := fun x hx => by
  obtain ⟨rows, h1, h2⟩ := h
  obtain ⟨R, e, u1, u2⟩ := lv_of_owns h1 x hx
  have hne : R ≠ g := fun e' => owns_apart hq h1 (by decide) _ _ rfl hx (by subst e; exact e'.symm)
  subst hx
  subst e
  refine ⟨R, rfl, ⟨hne, u1, u2⟩, fun i hlt => ?_⟩
  obtain ⟨u, e1, e2⟩ := h2 i hlt
  obtain ⟨b, c', rfl⟩ := owns_slice e2
  refine ⟨b, _, c', by rw [h1.cellAt i (by omega)]; exact e1, fun y hy => ?_⟩
  obtain ⟨q, e, v1, v2⟩ := lv_of_owns e2 y hy
  refine ⟨q, 0, e, fun e' => owns_apart hq e2 (by decide) _ _ rfl hy (by subst e; exact e'.symm), v1, v2⟩
/-- The places of a body may be written, and its other lists lie elsewhere. -/
def PX (w : World) (n : Nat) (B : Bd) (cs : List C3) : Prop := n = 0 ∨ ∃ g, B.pa = some ⟨g, 0, none⟩ ∧ OwnVs w g cs ∧ LTs (fun b => b ≠ g) w B.ta B.tl ∧ (∀ x, B.sa = some x → ∃ b, x = ⟨b, 0, none⟩ ∧ b ≠ g) ∧ (∀ x, B.wa = some x → ∃ b, x = ⟨b, 0, none⟩ ∧ b ≠ g)
end Go.Proofs.Ytmbekamnogbgaab

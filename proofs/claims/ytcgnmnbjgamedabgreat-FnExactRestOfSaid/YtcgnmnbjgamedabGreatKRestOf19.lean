/-
Texts in one: what RestOf stands on, part 19. Conditions: those of each.
-/
import Derived.Test.YtcgnmnbjgamedabGreatKRestOf18

/-
Lists of vectors that a call may write, and what a region keeps that writes into one. Conditions: none.
-/
namespace Go.Proofs.YtcgnmnbjgamedabGreat
open Go Fk Go.RowKit
set_option linter.unusedVariables false

/-- A list of vectors in a block of its own, which may be written. -/
def OwnVs (w : World) (g : Nat) (X : List C3) : Prop := (X.length ≤ maxLen ∧ ∀ i, i < X.length → ∃ p q r, (w.cell? ⟨g, i * 3, none⟩ = some (.float .f32 p) ∧ w.cell? ⟨g, i * 3 + 1, none⟩ = some (.float .f32 q) ∧ w.cell? ⟨g, i * 3 + 2, none⟩ = some (.float .f32 r)) ∧ F3 p q r (X.getD i c0)) ∧ Fr w g ∧ g < w.heap.size
theorem OwnVs.is {w : World} {g : Nat} {X : List C3} (h : OwnVs w g X) : IsVs w (some ⟨g, 0, none⟩) X.length X.length X := by
  refine ⟨rfl, Nat.le_refl _, h.1.1, by simp, fun x hx i hi => ?_⟩
  cases hx
  obtain ⟨p, q, r, ⟨k0, k1, k2⟩, f⟩ := h.1.2 i hi
  exact ⟨p, q, r, by rw [addr_add', Nat.zero_add]; exact k0, by rw [addr_add', Nat.zero_add]; exact k1, by rw [addr_add', Nat.zero_add]; exact k2, f⟩
theorem OwnVs.of {w : World} {g n : Nat} {X : List C3} (h : IsVs w (some ⟨g, 0, none⟩) n n X) (hf : Fr w g) (hg : g < w.heap.size) : OwnVs w g X := by
  have hl : X.length = n := h.1
  refine ⟨⟨by rw [hl]; exact h.2.2.1, fun i hi => ?_⟩, hf, hg⟩
  obtain ⟨p, q, r, k0, k1, k2, f⟩ := h.2.2.2.2 _ rfl i (by omega)
  rw [addr_add', Nat.zero_add] at k0 k1 k2
  exact ⟨p, q, r, ⟨k0, k1, k2⟩, f⟩
theorem OwnVs.below {W w : World} {g : Nat} {X : List C3} (hb : Below W.heap.size W w) (h : OwnVs W g X) : OwnVs w g X := by
  refine ⟨⟨h.1.1, fun i hi => ?_⟩, h.2.1.below hb h.2.2, Nat.lt_of_lt_of_le h.2.2 hb.size⟩
  obtain ⟨p, q, r, ⟨k0, k1, k2⟩, f⟩ := h.1.2 i hi
  exact ⟨p, q, r, ⟨cell_below hb k0, cell_below hb k1, cell_below hb k2⟩, f⟩
theorem OwnVs.far {w : World} {g : Nat} {X : List C3} {a : Addr} {u : Value} (hne : a.block ≠ g) (h : OwnVs w g X) : OwnVs (w.setCell a u) g X := by
  refine ⟨⟨h.1.1, fun i hi => ?_⟩, h.2.1.setC, by simpa using h.2.2⟩
  obtain ⟨p, q, r, ⟨k0, k1, k2⟩, f⟩ := h.1.2 i hi
  exact ⟨p, q, r, ⟨cell_set hne k0, cell_set hne k1, cell_set hne k2⟩, f⟩
theorem OwnVs.put {w : World} {g k p q r : Nat} {X : List C3} {c : C3} (h : OwnVs w g X) (hk : k < X.length) (f : F3 p q r c) :
    OwnVs (((w.setCell ⟨g, k * 3, none⟩ (.float .f32 p)).setCell ⟨g, k * 3 + 1, none⟩ (.float .f32 q)).setCell ⟨g, k * 3 + 2, none⟩ (.float .f32 r)) g (X.set k c) := by
  obtain ⟨p0, q0, r0, ⟨k0, k1, k2⟩, _⟩ := h.1.2 k hk
  obtain ⟨e0, e1, e2, eo⟩ := set3k (u := .float .f32 p) (v := .float .f32 q) (t := .float .f32 r) k0 k1 k2
  refine ⟨⟨by rw [List.length_set]; exact h.1.1, fun i hi => ?_⟩, ((h.2.1.setC).setC).setC, by simpa using h.2.2⟩
  rw [List.length_set] at hi
  by_cases hik : i = k
  · subst hik
    refine ⟨p, q, r, ⟨e0, e1, e2⟩, ?_⟩
    have : (X.set i c).getD i c0 = c := by simp [List.getD, hi]
    rw [this]; exact f
  · obtain ⟨p', q', r', ⟨j0, j1, j2⟩, f'⟩ := h.1.2 i hi
    refine ⟨p', q', r', ⟨by rw [eo _ (by omega) (by omega) (by omega)]; exact j0, by rw [eo _ (by omega) (by omega) (by omega)]; exact j1, by rw [eo _ (by omega) (by omega) (by omega)]; exact j2⟩, ?_⟩
    have : (X.set k c).getD i c0 = X.getD i c0 := by simp [List.getD, List.getElem?_set, Ne.symm hik]
    rw [this]; exact f'
theorem OwnVs.at {w : World} {g k : Nat} {X : List C3} (h : OwnVs w g X) (hk : k < X.length) : ∃ p q r, (w.cell? ⟨g, k * 3, none⟩ = some (.float .f32 p) ∧ w.cell? ⟨g, k * 3 + 1, none⟩ = some (.float .f32 q) ∧ w.cell? ⟨g, k * 3 + 2, none⟩ = some (.float .f32 r)) ∧ F3 p q r (X.getD k c0) := h.1.2 k hk
/-- What is kept: w's own memory, boxes of the call's own with known cells, which may be written, and a list of vectors of its own. -/
def St (w : World) (L : List (Nat × List Value)) (g : Nat) (X : List C3) (w' : World) : Prop :=
  Below w.heap.size w w' ∧ (∀ b l, (b, l) ∈ L → At w' b l ∧ Fr w' b ∧ b < w'.heap.size ∧ b ≠ g) ∧ w.heap.size ≤ g ∧ OwnVs w' g X
theorem St.bel {w w' : World} {L : List (Nat × List Value)} {g : Nat} {X : List C3} (h : St w L g X w') : Below w.heap.size w w' := h.1
theorem St.mem {w w' : World} {L : List (Nat × List Value)} {g b : Nat} {X : List C3} {l : List Value} (h : St w L g X w') (hm : (b, l) ∈ L) : At w' b l := (h.2.1 b l hm).1
theorem St.free {w w' : World} {L : List (Nat × List Value)} {g b : Nat} {X : List C3} {l : List Value} (h : St w L g X w') (hm : (b, l) ∈ L) (i : Nat) : w'.frozen? ⟨b, i, none⟩ = false := (h.2.1 b l hm).2.1 i
theorem St.own {w w' : World} {L : List (Nat × List Value)} {g : Nat} {X : List C3} (h : St w L g X w') : OwnVs w' g X := h.2.2.2
theorem St.call {w w1 w2 : World} {L : List (Nat × List Value)} {g : Nat} {X : List C3} (h : St w L g X w1) (hb : Below w1.heap.size w1 w2) : St w L g X w2 :=
  ⟨h.1.trans (hb.mono h.1.size), fun b l hm => ⟨(h.2.1 b l hm).1.below hb, (h.2.1 b l hm).2.1.below hb (h.2.1 b l hm).2.2.1, Nat.lt_of_lt_of_le (h.2.1 b l hm).2.2.1 hb.size, (h.2.1 b l hm).2.2.2⟩, h.2.2.1, h.2.2.2.below hb⟩
theorem St.drewN {w w1 : World} {L : List (Nat × List Value)} {g : Nat} {X : List C3} (h : St w L g X w1) (n : Nat) : St w L g X (w1.drewN n) := h.call (below_drewN (Below.refl _ _) n)
theorem St.put {w w1 : World} {L : List (Nat × List Value)} {g k p q r : Nat} {X : List C3} {c : C3} (h : St w L g X w1) (hk : k < X.length) (f : F3 p q r c) :
    St w L g (X.set k c) (((w1.setCell ⟨g, k * 3, none⟩ (.float .f32 p)).setCell ⟨g, k * 3 + 1, none⟩ (.float .f32 q)).setCell ⟨g, k * 3 + 2, none⟩ (.float .f32 r)) :=
  ⟨((h.1.setCell (p := ⟨g, k * 3, none⟩) h.2.2.1 _).setCell (p := ⟨g, k * 3 + 1, none⟩) h.2.2.1 _).setCell (p := ⟨g, k * 3 + 2, none⟩) h.2.2.1 _,
    fun b l hm => ⟨(((h.2.1 b l hm).1.far (Ne.symm (h.2.1 b l hm).2.2.2)).far (Ne.symm (h.2.1 b l hm).2.2.2)).far (Ne.symm (h.2.1 b l hm).2.2.2), (((h.2.1 b l hm).2.1.setC).setC).setC, by simpa using (h.2.1 b l hm).2.2.1, (h.2.1 b l hm).2.2.2⟩, h.2.2.1, h.2.2.2.put hk f⟩
/-- A new box comes to those that are kept. -/
theorem St.box {w w1 : World} {L : List (Nat × List Value)} {g : Nat} {X : List C3} {vs : List Value} {t : TypeId} (h : St w L g X w1) : St w ((w1.heap.size, vs) :: L) g X (w1.alloc (.cells vs.toArray t)) := by
  have hb : Below w1.heap.size w1 (w1.alloc (.cells vs.toArray t)) := (Below.refl _ _).alloc (Nat.le_refl _) _
  have h2 := h.call hb
  refine ⟨h2.1, fun b l hm => ?_, h2.2.2⟩
  rcases List.mem_cons.1 hm with e | hm
  · cases e; exact ⟨At.new, Fr.new, by simp, fun e => by have := h.2.2.2.2.2; omega⟩
  · exact h2.2.1 b l hm
theorem St.drop {w w1 : World} {L : List (Nat × List Value)} {g : Nat} {X : List C3} {x : Nat × List Value} (h : St w (x :: L) g X w1) : St w L g X w1 := ⟨h.1, fun b l hm => h.2.1 b l (.tail _ hm), h.2.2⟩
/-- Which list a new one is. -/
theorem OwnVs.made {w : World} {n : Nat} (hn : n ≤ 1048576) : OwnVs (w.alloc (.cells (madeCells #[.float .f32 0, .float .f32 0, .float .f32 0] (n * 3)) 40)) w.heap.size (List.replicate n (some 0, some 0, some 0)) := by
  have cell : ∀ j, j < n * 3 → (w.alloc (.cells (madeCells #[.float .f32 0, .float .f32 0, .float .f32 0] (n * 3)) 40)).cell? ⟨w.heap.size, j, none⟩ = some (.float .f32 0) := by
    intro j hj
    have hm : (madeCells #[.float .f32 0, .float .f32 0, .float .f32 0] (n * 3) : Array Value)[j]? = some (.float .f32 0) := by
      unfold madeCells
      have h3 : j % 3 = 0 ∨ j % 3 = 1 ∨ j % 3 = 2 := by omega
      rcases h3 with h | h | h <;> simp [hj, h]
    simp [hm]
  refine ⟨⟨by rw [List.length_replicate]; unfold maxLen; omega, fun i hi => ?_⟩, Fr.new, by simp⟩
  rw [List.length_replicate] at hi
  refine ⟨0, 0, 0, ⟨cell _ (by omega), cell _ (by omega), cell _ (by omega)⟩, ?_⟩
  have : (List.replicate n ((some 0, some 0, some 0) : C3)).getD i c0 = (some 0, some 0, some 0) := by simp [List.getD, hi]
  rw [this]
  exact ⟨⟨by decide, by decide⟩, ⟨by decide, by decide⟩, ⟨by decide, by decide⟩⟩
/-- Boxes of the call's own with known cells, which may be written. -/
def Bx (w : World) (L : List (Nat × List Value)) (w' : World) : Prop :=
  Below w.heap.size w w' ∧ ∀ b l, (b, l) ∈ L → At w' b l ∧ Fr w' b ∧ b < w'.heap.size ∧ w.heap.size ≤ b
theorem Bx.nil (w : World) : Bx w [] w := ⟨Below.refl _ _, fun b l hm => by cases hm⟩
theorem Bx.bel {w w' : World} {L : List (Nat × List Value)} (h : Bx w L w') : Below w.heap.size w w' := h.1
theorem Bx.mem {w w' : World} {L : List (Nat × List Value)} {b : Nat} {l : List Value} (h : Bx w L w') (hm : (b, l) ∈ L) : At w' b l := (h.2 b l hm).1
theorem Bx.free {w w' : World} {L : List (Nat × List Value)} {b : Nat} {l : List Value} (h : Bx w L w') (hm : (b, l) ∈ L) (i : Nat) : w'.frozen? ⟨b, i, none⟩ = false := (h.2 b l hm).2.1 i
theorem Bx.low {w w' : World} {L : List (Nat × List Value)} {b : Nat} {l : List Value} (h : Bx w L w') (hm : (b, l) ∈ L) : w.heap.size ≤ b := (h.2 b l hm).2.2.2
theorem Bx.call {w w1 w2 : World} {L : List (Nat × List Value)} (h : Bx w L w1) (hb : Below w1.heap.size w1 w2) : Bx w L w2 :=
  ⟨h.1.trans (hb.mono h.1.size), fun b l hm => ⟨(h.2 b l hm).1.below hb, (h.2 b l hm).2.1.below hb (h.2 b l hm).2.2.1, Nat.lt_of_lt_of_le (h.2 b l hm).2.2.1 hb.size, (h.2 b l hm).2.2.2⟩⟩
theorem Bx.drewN {w w1 : World} {L : List (Nat × List Value)} (h : Bx w L w1) (n : Nat) : Bx w L (w1.drewN n) := h.call (below_drewN (Below.refl _ _) n)
theorem Bx.box {w w1 : World} {L : List (Nat × List Value)} {vs : List Value} {t : TypeId} (h : Bx w L w1) : Bx w ((w1.heap.size, vs) :: L) (w1.alloc (.cells vs.toArray t)) := by
  have hb : Below w1.heap.size w1 (w1.alloc (.cells vs.toArray t)) := (Below.refl _ _).alloc (Nat.le_refl _) _
  have h2 := h.call hb
  refine ⟨h2.1, fun b l hm => ?_⟩
  rcases List.mem_cons.1 hm with e | hm
  · cases e; exact ⟨At.new, Fr.new, by simp, h.1.size⟩
  · exact h2.2 b l hm
theorem Bx.drop {w w1 : World} {L : List (Nat × List Value)} {x : Nat × List Value} (h : Bx w (x :: L) w1) : Bx w L w1 := ⟨h.1, fun b l hm => h.2 b l (.tail _ hm)⟩
theorem Bx.v3 {w w1 : World} {L : List (Nat × List Value)} {b x y z : Nat} (h : Bx w L w1) (hm : (b, [.float .f32 x, .float .f32 y, .float .f32 z]) ∈ L) : V3 w1 b x y z :=
  ⟨⟨(h.mem hm) 0 _ rfl, (h.mem hm) 1 _ rfl, (h.mem hm) 2 _ rfl⟩, fun i => h.free hm i⟩
/-- A list comes to the boxes. -/
theorem St.of {w w1 w2 : World} {L : List (Nat × List Value)} {g : Nat} {X : List C3} (h : Bx w L w1) (hb : Below w1.heap.size w1 w2) (hg : w1.heap.size ≤ g) (ho : OwnVs w2 g X) : St w L g X w2 := by
  have h2 := h.call hb
  exact ⟨h2.1, fun b l hm => ⟨(h2.2 b l hm).1, (h2.2 b l hm).2.1, (h2.2 b l hm).2.2.1, fun e => by have := (h.2 b l hm).2.2.1; omega⟩, Nat.le_trans h.1.size hg, ho⟩
theorem St.v3 {w w1 : World} {L : List (Nat × List Value)} {g b x y z : Nat} {X : List C3} (h : St w L g X w1) (hm : (b, [.float .f32 x, .float .f32 y, .float .f32 z]) ∈ L) : V3 w1 b x y z :=
  ⟨⟨(h.mem hm) 0 _ rfl, (h.mem hm) 1 _ rfl, (h.mem hm) 2 _ rfl⟩, fun i => h.free hm i⟩
theorem St.ne {w w1 : World} {L : List (Nat × List Value)} {g b : Nat} {X : List C3} {l : List Value} (h : St w L g X w1) (hm : (b, l) ∈ L) : b ≠ g := (h.2.1 b l hm).2.2.2
/-- A new list of vectors. -/
theorem make_vecs (W : World) (n : Nat) (hn : n ≤ 1048576) : (Instr.makeSlice 34 (.int .i64 n) (.int .i64 n)).run Tryz.prog W = .ok (.slice (some ⟨W.heap.size, 0, none⟩) n n) (W.alloc (.cells (madeCells #[.float .f32 0, .float .f32 0, .float .f32 0] (n * 3)) 40)) := by
  obtain ⟨i0, hi, hz0, hz1, hz2⟩ := info_parts infoV
  have := run_make (P := Tryz.prog) W 34 40 i0 (.agg #[.float .f32 0, .float .f32 0, .float .f32 0]) Tryz.underlying34 hi hz0 .i64 .i64 n n (by omega) (Int.le_refl _) (by rw [hz2]; omega) (by omega)
  rw [this, hz1]; simp; rfl
end Go.Proofs.YtcgnmnbjgamedabGreat

/-
Which lists are increasing indices: the program and its model. Conditions: the list lies in memory.
-/
namespace Go.Proofs.YtcgnmnbjgamedabGreat
open Go Fk Go.RowKit
set_option linter.unusedVariables false
set_option maxRecDepth 8000

def stepI (n : Nat) (L : List Int) (k : Nat) : Bool := inB n (L.getD k 0) && (decide (k = 0) || decide (L.getD (k - 1) 0 < L.getD k 0))
def riseB (n : Nat) (L : List Int) : Bool := (List.range L.length).all (stepI n L)
theorem rise_not {n : Nat} {L : List Int} {k : Nat} (hk : k < L.length) (h : stepI n L k = false) : riseB n L = false := by
  rw [Bool.eq_false_iff]
  intro hh
  have := List.all_eq_true.1 hh k (List.mem_range.2 hk)
  rw [this] at h; cases h
theorem rise_all {n : Nat} {L : List Int} (h : ∀ j, j < L.length → stepI n L j = true) : riseB n L = true := by
  unfold riseB
  rw [List.all_eq_true]
  intro j hj
  exact h j (List.mem_range.1 hj)
theorem rise_at {n : Nat} {L : List Int} (h : riseB n L = true) {k : Nat} (hk : k < L.length) : stepI n L k = true := List.all_eq_true.1 h k (List.mem_range.2 hk)
/-- What may come next. -/
def nextZ (L : List Int) (k : Nat) : Int := if k = 0 then 0 else L.getD (k - 1) 0 + 1
set_option maxHeartbeats 1000000 in
theorem impl_isIndexSet (a : Option Addr) (len cap n : Nat) (L : List Int) (w : World) (h : IsIs w a len cap L) (hn : n ≤ 9223372036854775806) :
    Calls Tryz.prog 124 #[.slice a len cap, .int .i64 n] w fun e w' => e = .returned (.bool (riseB n L)) ∧ w' = w := by
  have hm : len ≤ 9223372036854775807 := by have h1 := h.2.1; have h2 := h.2.2.1; unfold maxLen at h2; omega
  have hll := h.1
  have H := Lib.hid h
  clear h
  go_enter Tryz.func124, Tryz.ntmps124
  go_wp2
  go_loopw [5, 10] (fun f i w' => ∃ k : Nat, k ≤ len ∧ i = .int .i64 k ∧ f = .int .i64 (nextZ L k) ∧ w' = w ∧ Aside (∀ j, j < k → stepI n L j = true)) (fun _ i _ => len - (intOf i).toNat)
  case atStart => exact ⟨0, Nat.zero_le _, rfl, rfl, rfl, fun j hj => absurd hj (by omega)⟩
  case round =>
    obtain ⟨k, hk, rfl, rfl, rfl, hA⟩ := hrel
    have OK := Lib.hid hA.out
    clear hA
    by_cases hlt : k < len
    · obtain ⟨b, o, rfl, hcell⟩ := H.out.some (by omega)
      have hc0 := hcell k hlt
      have hk0 : (0 : Int) ≤ (k : Int) := by omega
      have hk1 : (k : Int) < (len : Int) := by omega
      have hlk : k < L.length := by omega
      have hstep : stepI n L k = (inB n (L.getD k 0) && (decide (k = 0) || decide (L.getD (k - 1) 0 < L.getD k 0))) := rfl
      have hprev : ∀ j, j < k → 0 ≤ L.getD j 0 ∧ L.getD j 0 < n := by
        intro j hj
        have := OK.out j hj
        unfold stepI at this
        simp only [Bool.and_eq_true] at this
        exact of_decide_eq_true this.1
      have hfz : nextZ L k = if k = 0 then 0 else L.getD (k - 1) 0 + 1 := rfl
      have hfree0 : 0 ≤ nextZ L k ∧ nextZ L k ≤ n := by
        rw [hfz]
        by_cases h0 : k = 0
        · rw [if_pos h0]; omega
        · rw [if_neg h0]; have := hprev (k - 1) (by omega); omega
      have hnext : nextZ L (k + 1) = L.getD k 0 + 1 := by unfold nextZ; rw [if_neg (by omega), Nat.add_sub_cancel]
      clear hcell hprev
      generalize hz : L.getD k 0 = z at *
      by_cases hfl : z < nextZ L k
      · have hres : riseB n L = false := rise_not hlk (by
          rw [hstep]
          by_cases h0 : k = 0
          · rw [hfz, if_pos h0] at hfl
            have : inB n z = false := decide_eq_false (by omega)
            rw [this]; rfl
          · rw [hfz, if_neg h0] at hfl
            rw [decide_eq_false h0, decide_eq_false (by omega)]
            cases inB n z <;> rfl)
        have HR := Lib.hid hres
        clear hstep hfz hres hz hnext
        generalize nextZ L k = fz at *
        go_wp2
        go_ret
        exact ⟨ret_bool HR.out.symm, by first | rfl | trivial⟩
      · have JX := Lib.hid (fun w => impl_isIndex z n w)
        cases hb2 : inB n z
        · rw [hb2] at JX
          have hres : riseB n L = false := rise_not hlk (by rw [hstep, hb2]; rfl)
          have HR := Lib.hid hres
          clear hstep hfz hres hb2 hz hnext
          generalize nextZ L k = fz at *
          go_wp2_with fail
          refine (JX.out _).mono ?_
          rintro e w3 ⟨rfl, hw3⟩
          rw [hw3]; clear hw3 w3
          go_wp2
          go_ret
          exact ⟨ret_bool HR.out.symm, by first | rfl | trivial⟩
        · rw [hb2] at JX
          have hpn := of_decide_eq_true hb2
          have hok : ∀ j, j < k + 1 → stepI n L j = true := by
            intro j hj
            by_cases hjk : j = k
            · subst hjk
              rw [hstep, hb2]
              by_cases h0 : j = 0
              · rw [decide_eq_true h0]; rfl
              · rw [hfz, if_neg h0] at hfl
                rw [decide_eq_true (show L.getD (j - 1) 0 < z by omega)]
                simp
            · exact OK.out j (by omega)
          have HOK := Lib.hid hok
          have HNX := Lib.hid hnext
          clear hstep hfz hb2 hok hnext hz
          generalize hfe : nextZ L k = fz at *
          clear hfe
          go_wp2_with fail
          refine (JX.out _).mono ?_
          rintro e w3 ⟨rfl, hw3⟩
          rw [hw3]; clear hw3 w3
          have hwrap : IntKind.i64.wrap (z + 1) = z + 1 := IntWalk.i64_in _ (by omega)
          go_wp2
          go_roundw
          case rel => exact ⟨k + 1, by omega, by go_num, by rw [HNX.out], by first | rfl | trivial, HOK.out⟩
          case measure => simp [intOf]; omega
    · obtain rfl : k = len := by omega
      have HR := Lib.hid (rise_all (n := n) (L := L) (fun j hj => OK.out j (by omega)))
      go_wp2
      go_ret
      exact ⟨ret_bool HR.out.symm, by first | rfl | trivial⟩
set_option maxHeartbeats 2000000 in
theorem l00Rises (a : Option Addr) (len cap n : Nat) (L : List Int) (w : World) (h : IsIs w a len cap L) :
    Calls Tryz.prog 100 #[.slice a len cap, .int .i64 0, .int .i64 ((n : Int) - 1)] w fun e w' => e = .returned (.bool (riseB n L)) ∧ ∃ m, w' = w.drewN m := by
  have hm : len ≤ 9223372036854775807 := by have h1 := h.2.1; have h2 := h.2.2.1; unfold maxLen at h2; omega
  have hll := h.1
  go_enter Tryz.func100, Tryz.ntmps100
  go_wp2
  go_loopw [7] (fun i w' => ∃ k : Nat, k ≤ len ∧ i = .int .i64 k ∧ Aside (∀ j, j < k → stepI n L j = true) ∧ ∃ m, w' = w.drewN m) (fun i _ => len - (intOf i).toNat)
  case atStart => exact ⟨0, Nat.zero_le _, rfl, (fun j hj => absurd hj (by omega)), 0, rfl⟩
  case round =>
    obtain ⟨k, hk, rfl, hall, m, hw⟩ := hrel
    have HW := Lib.hid hw
    have OK := Lib.hid hall.out
    by_cases hlt : k < len
    · obtain ⟨b, o, rfl, hcell⟩ := (h.drewE hw).some (by omega)
      have hc0 := hcell k hlt
      have hk0 : (0 : Int) ≤ (k : Int) := by omega
      have hk1 : (k : Int) < (len : Int) := by omega
      have hlk : k < L.length := by omega
      have J := Lib.hid (fun w => (l00In (L.getD k 0) n w).mono (R' := fun e w' => e = .returned (.bool (inB n (L.getD k 0))) ∧ ∃ m, w' = w.drewN m) (fun _ _ h => ⟨h.1, 0, h.2⟩))
      have hstep : stepI n L k = (inB n (L.getD k 0) && (decide (k = 0) || decide (L.getD (k - 1) 0 < L.getD k 0))) := rfl
      have HS := Lib.hid hstep
      cases hb : inB n (L.getD k 0)
      · have HR := Lib.hid (rise_not (n := n) hlk (by rw [HS.out, hb]; rfl))
        rw [hb] at J
        clear hcell h hw hall hstep hb
        generalize L.getD k 0 = z at *
        go_wp2_with fail
        go_quiet ((go_at_call 57; exact Calls.quiet_of (J.out _)))
        go_wp2
        go_ret
        exact ⟨ret_bool HR.out.symm, by first | exact drewn_end HW.out | exact ⟨_, HW.out⟩⟩
      · rw [hb] at J
        by_cases h0 : k = 0
        · have HOK : Hid (∀ j, j < k + 1 → stepI n L j = true) := Lib.hid (fun j hj => by
            have : j = k := by omega
            subst this
            rw [HS.out, hb, decide_eq_true h0]; rfl)
          have h00 : ¬ (0 : Int) < (k : Int) := by omega
          have h01 : ¬ 0 < k := by omega
          clear hcell h hw hall hstep hb h0 hlk hlt
          generalize L.getD k 0 = z at *
          go_wp2_with fail
          go_quiet ((go_at_call 57; exact Calls.quiet_of (J.out _)))
          go_wp2
          go_roundw
          case rel => exact ⟨k + 1, by omega, by go_num, HOK.out, by first | exact drewn_end HW.out | exact ⟨_, HW.out⟩⟩
          case measure => simp [intOf]; omega
        · obtain ⟨q, rfl⟩ : ∃ q, k = q + 1 := ⟨k - 1, by omega⟩
          have hcq := hcell q (by omega)
          have h00 : (0 : Int) < ((q + 1 : Nat) : Int) := by omega
          have hq0 : (0 : Int) ≤ (q : Int) := by omega
          have hq1 : (q : Int) < (len : Int) := by omega
          have hsub : ((q + 1 : Nat) : Int) - 1 = (q : Int) := by omega
          have hsub' : (q : Int) + 1 - 1 = (q : Int) := by omega
          have hwr : IntKind.i64.wrap (q : Int) = (q : Int) := IntWalk.i64_in _ (by omega)
          by_cases hlt2 : L.getD q 0 < L.getD (q + 1) 0
          · have HOK : Hid (∀ j, j < q + 1 + 1 → stepI n L j = true) := Lib.hid (fun j hj => by
              by_cases hjk : j = q + 1
              · subst hjk
                rw [HS.out, hb, Nat.add_sub_cancel, decide_eq_true hlt2]; simp
              · exact OK.out j (by omega))
            have hge : ¬ L.getD (q + 1) 0 ≤ L.getD q 0 := by omega
            clear hcell h hw hall hstep hb HS
            generalize L.getD (q + 1) 0 = z at *
            generalize L.getD q 0 = y at *
            go_wp2_with fail
            go_quiet ((go_at_call 57; exact Calls.quiet_of (J.out _)))
            go_wp2
            go_roundw
            case rel => exact ⟨q + 1 + 1, by omega, by go_num, HOK.out, by first | exact drewn_end HW.out | exact ⟨_, HW.out⟩⟩
            case measure => simp [intOf]; omega
          · have HR := Lib.hid (rise_not (n := n) hlk (by rw [HS.out, hb, Nat.add_sub_cancel, decide_eq_false hlt2]; simp))
            have hge : L.getD (q + 1) 0 ≤ L.getD q 0 := by omega
            clear hcell h hw hall hstep hb HS
            generalize L.getD (q + 1) 0 = z at *
            generalize L.getD q 0 = y at *
            go_wp2_with fail
            go_quiet ((go_at_call 57; exact Calls.quiet_of (J.out _)))
            go_wp2
            go_ret
            exact ⟨ret_bool HR.out.symm, by first | exact drewn_end HW.out | exact ⟨_, HW.out⟩⟩
    · obtain rfl : k = len := by omega
      have HR := Lib.hid (rise_all (n := n) (L := L) (fun j hj => OK.out j (by omega)))
      clear hw h hall
      go_wp2
      go_ret
      exact ⟨ret_bool HR.out.symm, by rw [HW.out]; exact ⟨_, rfl⟩⟩
end Go.Proofs.YtcgnmnbjgamedabGreat

/-
Which lists are holds of a mesh: the program. Conditions: none beyond that both lie in memory.
-/
namespace Go.Proofs.YtcgnmnbjgamedabGreat
open Go Fk Go.RowKit
set_option linter.unusedVariables false
set_option maxRecDepth 8000

/-- The places of the first holds, in a list of one's own. -/
def Pl (hs : List HC) (n k : Nat) (w : World) (g : Nat) : Prop := (g < w.heap.size ∧ ∀ j, w.frozen? ⟨g, j, none⟩ = false) ∧ (∀ j, j < k → w.cell? ⟨g, j, none⟩ = some (.int .i64 (hs.getD j hd0).1)) ∧ ∀ j, k ≤ j → j < n → w.cell? ⟨g, j, none⟩ = some (.int .i64 0)
theorem Pl.below {hs : List HC} {n k g : Nat} {W w : World} (hb : Below W.heap.size W w) (h : Pl hs n k W g) : Pl hs n k w g :=
  ⟨⟨Nat.lt_of_lt_of_le h.1.1 hb.size, fun j => by rw [hb.frozen (p := ⟨g, j, none⟩) h.1.1]; exact h.1.2 j⟩, fun j hj => cell_below hb (h.2.1 j hj), fun j h1 h2 => cell_below hb (h.2.2 j h1 h2)⟩
theorem Pl.put {hs : List HC} {n k g : Nat} {w : World} (h : Pl hs n k w g) (hk : k < n) : Pl hs n (k + 1) (w.setCell ⟨g, k, none⟩ (.int .i64 (hs.getD k hd0).1)) g := by
  refine ⟨⟨by simpa using h.1.1, fun j => by simpa using h.1.2 j⟩, fun j hj => ?_, fun j h1 h2 => ?_⟩
  · by_cases hjk : j = k
    · subst hjk
      rw [World.cell?_setCell_same _ _ _ (h.2.2 j (Nat.le_refl _) hk)]
    · rw [World.cell?_setCell_other _ _ _ _ (by simp <;> omega), h.2.1 j (by omega)]
  · rw [World.cell?_setCell_other _ _ _ _ (by simp <;> omega), h.2.2 j (by omega) h2]
theorem Pl.is {hs : List HC} {n g : Nat} {w : World} (h : Pl hs n n w g) (hn : hs.length = n) (hm : n ≤ maxLen) (hwf : ∀ s ∈ hs, (Lit.int .i64 s.1).wf = true) : IsIs w (some ⟨g, 0, none⟩) n n (hs.map (·.1)) := by
  refine ⟨by rw [List.length_map, hn], Nat.le_refl _, hm, fun z hz => ?_, (fun e => by cases e), fun x hx i hi => ?_⟩
  · obtain ⟨s, hs1, rfl⟩ := List.mem_map.1 hz
    exact hwf s hs1
  · cases hx
    have : (hs.map (·.1)).getD i 0 = (hs.getD i hd0).1 := by simp [List.getD, show i < hs.length by omega]
    rw [this, addr_add', Nat.zero_add]
    exact h.2.1 i hi
end Go.Proofs.YtcgnmnbjgamedabGreat

/-
Normals: all arguments, of the program and of its model. Conditions: none beyond that the mesh lies in memory.
-/
namespace Go.Proofs.YtcgnmnbjgamedabGreat
open Go Fk Go.RowKit
set_option linter.unusedVariables false
set_option maxRecDepth 8000

end Go.Proofs.YtcgnmnbjgamedabGreat

/-
Normals: all arguments, of the model. Conditions: none beyond that the mesh lies in memory.
-/
namespace Go.Proofs.YtcgnmnbjgamedabGreat
open Go Fk Go.RowKit
set_option linter.unusedVariables false
set_option maxRecDepth 8000

end Go.Proofs.YtcgnmnbjgamedabGreat


/-
Lists of integers that a function made, and marks in holds and meshes. Conditions: the cells may be written.
-/
import Derived.Test.YtajglpkeojaelaaLst
import Derived.Test.YtajglpkeojaelaaHlA
namespace Go.Proofs.Ytajglpkeojaelaa
open Go Fk Go.RowKit
set_option linter.unusedVariables false
set_option maxRecDepth 16000

theorem owns_below {w w' : World} {base : Nat} {e : TypeId} {size : Nat} {v : Value} {n : Nat} {xs : List Value} (h : w.ownsRow base e size v n xs) (hB : Below w.heap.size w w') : w'.ownsRow base e size v n xs :=
  h.kept (row := none) ⟨hB.os, hB.tape, hB.output, hB.size, fun k hk _ => hB.block k hk⟩ (by cases v.ownBlock <;> simp)
theorem owns_mono {w : World} {base base' : Nat} {e : TypeId} {size : Nat} {v : Value} {n : Nat} {xs : List Value} (h : w.ownsRow base e size v n xs) (hb : base' ≤ base) : w.ownsRow base' e size v n xs := by
  obtain ⟨h1, h2⟩ := h
  refine ⟨h1, h2.imp id ?_⟩
  rintro ⟨g, cap, cur, h3, h4, h5⟩
  exact ⟨g, cap, cur, h3, Nat.le_trans hb h4, h5⟩
theorem owns_list {w : World} {base : Nat} {v : Value} {L : List Int} (h : w.ownsRow base 2 1 v L.length (L.map (Value.int .i64))) (hL : ∀ z ∈ L, (Lit.int .i64 z).wf = true) :
    ∃ a cap, v = .slice a L.length cap ∧ IsIs w a L.length cap L ∧ Lst base w.heap.size w a L.length := by
  have h' := h
  obtain ⟨h1, h2⟩ := h
  rcases h2 with ⟨rfl, hn⟩ | ⟨g, cap, cur, rfl, hb, hh, hc1, hc2, hs, ht⟩
  · refine ⟨none, 0, by rw [hn], ⟨rfl, by omega, by unfold maxLen; omega, hL, fun _ => ⟨hn, rfl⟩, fun x hx => by cases hx⟩, .inl ⟨rfl, hn⟩⟩
  · have hg := h'.lt g rfl
    have hcell : ∀ j, j < L.length → w.cell? ⟨g, j, none⟩ = some (.int .i64 (L.getD j 0)) := by
      intro j hj
      rw [h'.cellAt j (by omega)]
      simp [List.getD, hj]
    refine ⟨_, cap, rfl, ⟨rfl, hc1, hc2, hL, by simp, fun x hx i hi => ?_⟩, .inr ⟨g, rfl, hb, hg.2, hg.2, fun j hj => ⟨⟨_, by rw [Nat.zero_add]; exact hcell j hj⟩, by rw [Nat.zero_add]; exact h'.frozenAt j⟩⟩⟩
    cases hx
    rw [addr_add', Nat.zero_add]; exact hcell i hi
/-- The marks that were written are there. -/
def Mrk (w : World) (a : Option Addr) (n : Nat) : Prop := (a = none → n = 0) ∧ ∀ b o s, a = some ⟨b, o, s⟩ → s = none ∧ ∀ j, j < n → w.cell? ⟨b, o + j, none⟩ = some (.int .i64 ((1 + j : Nat) : Int))
theorem mark_any (lo hi : Nat) (a : Option Addr) (n cap : Nat) (w : World) (h : Lst lo hi w a n) (hn : n ≤ 2000000) :
    Calls Try.prog 51 #[.slice a n cap, .int .i64 1] w fun e w' => e = .returned (.int .i64 ((1 + n : Nat) : Int)) ∧ Mrk w' a n ∧ Mark lo hi w w' := by
  rcases h with ⟨rfl, rfl⟩ | ⟨b, rfl, hown⟩
  · go_enter Try.func51, Try.ntmps51
    go_wp2
    refine wp_loop_rounds 1 ?_
    rw [rounds_succ]
    go_wp2
    go_ret
    exact ⟨rfl, ⟨fun _ => rfl, fun _ _ _ h => by cases h⟩, Mark.refl _ _ _⟩
  · refine (laws_markInt64S lo hi b 0 n cap 1 w hown (by omega)).mono ?_
    rintro e w' ⟨he, hd, _, hM⟩
    exact ⟨he, ⟨fun h => by (cases h), fun b' o s h => by cases h; exact ⟨rfl, hd⟩⟩, hM⟩
theorem held_any (a : Option Addr) (n cap : Nat) (w : World) (h : Mrk w a n) (hn : n ≤ 2000000) :
    Calls Try.prog 52 #[.slice a n cap, .int .i64 1] w fun e w' => e = .returned (.int .i64 ((1 + n : Nat) : Int)) ∧ w' = w := by
  cases a with
  | none =>
    obtain rfl := h.1 rfl
    go_enter Try.func52, Try.ntmps52
    go_wp2
    refine wp_loop_rounds 1 ?_
    rw [rounds_succ]
    go_wp2
    go_ret
    exact ⟨rfl, by first | rfl | trivial⟩
  | some x =>
    obtain ⟨b, o, s⟩ := x
    obtain ⟨rfl, hd⟩ := h.2 b o s rfl
    exact laws_heldInt64S b o n cap 1 w hd (by omega)
theorem Mrk.below {w w' : World} {a : Option Addr} {n : Nat} (h : Mrk w a n) (hB : Below w.heap.size w w') : Mrk w' a n :=
  ⟨h.1, fun b o s e => ⟨(h.2 b o s e).1, fun j hj => cell_below hB ((h.2 b o s e).2 j hj)⟩⟩
/-- A list outside the blocks that are marked is as it was. -/
theorem is_mark {lo hi lo' hi' : Nat} {w0 w w' : World} {a : Option Addr} {n cap : Nat} {L : List Int} (h : IsIs w a n cap L) (hl : Lst lo' hi' w0 a n) (hM : Mark lo hi w w') (ho : hi' ≤ lo ∨ hi ≤ lo') : IsIs w' a n cap L := by
  obtain ⟨h1, h2, h3, h4, h5, h6⟩ := h
  refine ⟨h1, h2, h3, h4, h5, fun x hx i hi => ?_⟩
  rcases hl with ⟨e, _⟩ | ⟨b, e, hown⟩
  · rw [e] at hx; cases hx
  · rw [e] at hx; cases hx
    have := h6 _ e i hi
    rw [addr_add'] at this ⊢
    have u1 := hown.1
    have u2 := hown.2.1
    exact hM.cell (by omega) this
theorem laws_markMeshR (lo hi b o b' o' pl pc tl tc : Nat) (ts : List (List Int)) (k0 : Nat) (w : World) (h : OwnM lo hi w b o b' o' pl tl ts) (hlo : lo ≤ w.heap.size) (h1 : pl ≤ 1048576) (h2 : tl ≤ 1048576) (hn : ∀ j, j < tl → (ts.getD j []).length ≤ 1048576) (hk : k0 ≤ 1000000) :
    Calls Try.prog 45 #[.agg #[.slice (some ⟨b, o, none⟩) pl pc, .slice (some ⟨b', o', none⟩) tl tc], .int .i64 k0] w fun e w' => ∃ z : Nat, z ≤ 2000000000000000000 ∧ e = .returned (.int .i64 z) ∧ Mark lo hi w w' := by
  have ui := Try.underlying38
  obtain ⟨hown, hrows, hne, hlt⟩ := h
  have hA : Mark lo hi w (w.alloc (.cells #[.slice (some ⟨b, o, none⟩) pl pc, .slice (some ⟨b', o', none⟩) tl tc] 38)) := Mark.alloc hlo _
  have a1 : (w.alloc (.cells #[.slice (some ⟨b, o, none⟩) pl pc, .slice (some ⟨b', o', none⟩) tl tc] 38)).cell? ⟨w.heap.size, 1, none⟩ = some (.slice (some ⟨b', o', none⟩) tl tc) := by go_simp
  have a0 : (w.alloc (.cells #[.slice (some ⟨b, o, none⟩) pl pc, .slice (some ⟨b', o', none⟩) tl tc] 38)).cell? ⟨w.heap.size, 0, none⟩ = some (.slice (some ⟨b, o, none⟩) pl pc) := by go_simp
  have nb : w.heap.size ≠ b := by have := hown.2.2.1; omega
  have hV := laws_markVectorS lo hi b o pl pc k0 _ (hown.mark hA) (by omega)
  have hs : ∀ i, (w.alloc (.cells #[.slice (some ⟨b, o, none⟩) pl pc, .slice (some ⟨b', o', none⟩) tl tc] 38)).cell? ⟨b', i, none⟩ = w.cell? ⟨b', i, none⟩ := fun i => by rw [World.cell?_alloc_lt (h := hlt)]
  have HV := Lib.hid hV
  have HA := Lib.hid hA
  have HR := Lib.hid (hrows.mark hs hA)
  have HNE := Lib.hid hne
  have HNB := Lib.hid nb
  have HN := Lib.hid hn
  clear hV hA hrows hne hs nb hown hlt hn
  generalize hCH : w.alloc (.cells #[.slice (some ⟨b, o, none⟩) pl pc, .slice (some ⟨b', o', none⟩) tl tc] 38) = W at *
  go_enter Try.func45, Try.ntmps45
  go_wp2_with fail
  refine HV.out.mono ?_
  rintro e w1 ⟨rfl, _, ho, hM1⟩
  have a1' : w1.cell? ⟨w.heap.size, 1, none⟩ = some (.slice (some ⟨b', o', none⟩) tl tc) := (ho _ _ (.inl HNB.out)).trans a1
  have HR1 := Lib.hid (HR.out.mark (fun i => ho b' i (.inl (fun h => HNE.out h.symm))) hM1)
  have HM1 := Lib.hid (HA.out.trans hM1)
  clear ho hM1 a0 a1 HV HR hCH
  generalize hq : k0 + pl * 3 = q at *
  have hq' : q ≤ 1000000000000000000 := by omega
  clear hq
  go_wp2_with (go_at_call 93; refine (laws_markInt64SS lo hi b' o' tl tc ts q w1 HR1.out h2 HN.out hq').mono ?_; rintro e w2 ⟨z, hz, rfl, _, hM2⟩; have HM2 := Lib.hid hM2; clear hM2)
  go_ret
  exact ⟨z, by omega, rfl, HM1.out.trans HM2.out⟩
end Go.Proofs.Ytajglpkeojaelaa

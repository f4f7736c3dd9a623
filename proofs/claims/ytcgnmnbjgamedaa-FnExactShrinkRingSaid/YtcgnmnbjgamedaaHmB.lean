
/-
Marks in meshes whose rows lie beside one another: what is written is there, and nothing else turns. Conditions: none beyond their sizes.
-/
import Derived.Test.YtcgnmnbjgamedaaHmA
import Derived.Test.YtcgnmnbjgamedaaLst
namespace Go.Proofs.Ytcgnmnbjgamedaa
open Go Fk Go.RowKit
set_option linter.unusedVariables false
set_option maxRecDepth 8000
def Flat (lo hi : Nat) (w : World) (ta : Option Addr) (n F : Nat) : Prop := (ta = none ∧ n = 0) ∨ ∃ R, ta = some ⟨R, 0, none⟩ ∧ lo ≤ R ∧ R < hi ∧ R < w.heap.size ∧ R ≠ F ∧ FlatRows w R F n ∧ Own lo hi w F 0 (n * 3)
/-- A mesh that a function made: its places, its rows and their numbers lie in blocks of their own. -/
def GM (lo hi : Nat) (w : World) (pa ta : Option Addr) (pl tl F : Nat) : Prop := Lst lo hi w pa (pl * 3) ∧ Flat lo hi w ta tl F ∧ ∀ P, pa = some P → P.block ≠ F ∧ ∀ R, ta = some R → P.block ≠ R.block
/-- The marks that were written are there. -/
def MrkM (w : World) (pa ta : Option Addr) (pl tl F : Nat) : Prop :=
  ((pa = none ∧ pl = 0) ∨ ∃ P, pa = some ⟨P, 0, none⟩ ∧ ∀ j, j < pl * 3 → w.cell? ⟨P, 0 + j, none⟩ = some (.float .f32 (floatOfInt .f32 ((1 + j : Nat) : Int)))) ∧
  ((ta = none ∧ tl = 0) ∨ ∃ R, ta = some ⟨R, 0, none⟩ ∧ FlatRows w R F tl ∧ ∀ j, j < tl * 3 → w.cell? ⟨F, j, none⟩ = some (.int .i64 ((1 + pl * 3 + j : Nat) : Int)))
theorem MrkM.below {w w' : World} {pa ta : Option Addr} {pl tl F : Nat} (h : MrkM w pa ta pl tl F) (hB : Below w.heap.size w w') : MrkM w' pa ta pl tl F := by
  obtain ⟨h1, h2⟩ := h
  refine ⟨h1.imp id fun ⟨P, e, hc⟩ => ⟨P, e, fun j hj => cell_below hB (hc j hj)⟩, h2.imp id fun ⟨R, e, hf, hc⟩ => ⟨R, e, hf.same (fun i v hv => cell_below hB hv), fun j hj => cell_below hB (hc j hj)⟩⟩
theorem vec_any (lo hi : Nat) (a : Option Addr) (n cap : Nat) (k0 : Nat) (w : World) (h : Lst lo hi w a (n * 3)) (hn : n ≤ 1000000) (hk : k0 ≤ 1000000) :
    Calls Try.prog 77 #[.slice a n cap, .int .i64 k0] w fun e w' => e = .returned (.int .i64 ((k0 + n * 3 : Nat) : Int)) ∧ ((a = none ∧ n = 0) ∨ ∃ P, a = some ⟨P, 0, none⟩ ∧ ∀ j, j < n * 3 → w'.cell? ⟨P, 0 + j, none⟩ = some (.float .f32 (floatOfInt .f32 ((k0 + j : Nat) : Int)))) ∧ (∀ b i, a ≠ some ⟨b, 0, none⟩ → w'.cell? ⟨b, i, none⟩ = w.cell? ⟨b, i, none⟩) ∧ Mark lo hi w w' := by
  rcases h with ⟨rfl, h0⟩ | ⟨b, rfl, hown⟩
  · obtain rfl : n = 0 := by omega
    go_enter Try.func77, Try.ntmps77
    go_wp2
    refine wp_loop_rounds 1 ?_
    rw [rounds_succ]
    go_wp2
    go_ret
    refine ⟨by simp, by simp, ?_, Mark.refl _ _ _⟩
    first | exact fun _ _ _ => rfl | simp
  · refine (laws_markVectorS lo hi b 0 n cap k0 w hown (by omega)).mono ?_
    rintro e w' ⟨he, hd, ho, hM⟩
    exact ⟨he, .inr ⟨b, rfl, hd⟩, fun c i hc => ho c i (.inl (fun h => hc (by rw [h]))), hM⟩
theorem flat_any (lo hi : Nat) (a : Option Addr) (n cap F : Nat) (k0 : Nat) (w : World) (h : Flat lo hi w a n F) (hn : n ≤ 1000000) (hk : k0 ≤ 1000000000) :
    Calls Try.prog 78 #[.slice a n cap, .int .i64 k0] w fun e w' => e = .returned (.int .i64 ((k0 + n * 3 : Nat) : Int)) ∧ ((a = none ∧ n = 0) ∨ ∃ R, a = some ⟨R, 0, none⟩ ∧ FlatRows w' R F n ∧ ∀ j, j < n * 3 → w'.cell? ⟨F, j, none⟩ = some (.int .i64 ((k0 + j : Nat) : Int))) ∧ (∀ b i, b ≠ F → w'.cell? ⟨b, i, none⟩ = w.cell? ⟨b, i, none⟩) ∧ Mark lo hi w w' := by
  rcases h with ⟨rfl, rfl⟩ | ⟨R, rfl, h1, h2, h3, h4, h5, h6⟩
  · go_enter Try.func78, Try.ntmps78
    go_wp2
    refine wp_loop_rounds 1 ?_
    rw [rounds_succ]
    go_wp2
    go_ret
    refine ⟨by simp, by simp, ?_, Mark.refl _ _ _⟩
    first | exact fun _ _ _ => rfl | simp
  · refine (mark_flat lo hi R F n cap k0 w h5 h6 h4 (by omega) (by omega)).mono ?_
    rintro e w' ⟨he, hd, ho, hM⟩
    exact ⟨he, .inr ⟨R, rfl, h5.same (fun i v hv => (ho R i h4).trans hv), hd⟩, ho, hM⟩
theorem vec_held (a : Option Addr) (n cap : Nat) (k0 : Nat) (w : World) (h : (a = none ∧ n = 0) ∨ ∃ P, a = some ⟨P, 0, none⟩ ∧ ∀ j, j < n * 3 → w.cell? ⟨P, 0 + j, none⟩ = some (.float .f32 (floatOfInt .f32 ((k0 + j : Nat) : Int)))) (hn : n ≤ 1000000) (hk : k0 ≤ 1000000) :
    Calls Try.prog 79 #[.slice a n cap, .int .i64 k0] w fun e w' => e = .returned (.int .i64 ((k0 + n * 3 : Nat) : Int)) ∧ w' = w := by
  rcases h with ⟨rfl, rfl⟩ | ⟨b, rfl, hc⟩
  · go_enter Try.func79, Try.ntmps79
    go_wp2
    refine wp_loop_rounds 1 ?_
    rw [rounds_succ]
    go_wp2
    go_ret
    exact ⟨by simp, by first | rfl | trivial⟩
  · exact laws_heldVectorS b 0 n cap k0 w hc (by omega)
theorem flat_held (a : Option Addr) (n cap F : Nat) (k0 : Nat) (w : World) (h : (a = none ∧ n = 0) ∨ ∃ R, a = some ⟨R, 0, none⟩ ∧ FlatRows w R F n ∧ ∀ j, j < n * 3 → w.cell? ⟨F, j, none⟩ = some (.int .i64 ((k0 + j : Nat) : Int))) (hn : n ≤ 1000000) (hk : k0 ≤ 1000000000) :
    Calls Try.prog 80 #[.slice a n cap, .int .i64 k0] w fun e w' => e = .returned (.int .i64 ((k0 + n * 3 : Nat) : Int)) ∧ w' = w := by
  rcases h with ⟨rfl, rfl⟩ | ⟨R, rfl, hf, hc⟩
  · go_enter Try.func80, Try.ntmps80
    go_wp2
    refine wp_loop_rounds 1 ?_
    rw [rounds_succ]
    go_wp2
    go_ret
    exact ⟨by simp, by first | rfl | trivial⟩
  · exact held_flat R F n cap k0 w hf hc (by omega) (by omega)
theorem Flat.mark {lo hi lo' hi' : Nat} {w w' : World} {a : Option Addr} {n F : Nat} (h : Flat lo hi w a n F) (hM : Mark lo' hi' w w') (hs : ∀ R, a = some R → ∀ i v, w.cell? ⟨R.block, i, none⟩ = some v → w'.cell? ⟨R.block, i, none⟩ = some v) : Flat lo hi w' a n F :=
  h.imp id fun ⟨R, e, h1, h2, h3, h4, h5, h6⟩ => ⟨R, e, h1, h2, Nat.lt_of_lt_of_le h3 hM.below.size, h4, h5.same (hs _ e), h6.mark hM⟩
theorem GM.below {lo hi : Nat} {w w' : World} {pa ta : Option Addr} {pl tl F : Nat} (h : GM lo hi w pa ta pl tl F) (hB : Below w.heap.size w w') : GM lo hi w' pa ta pl tl F :=
  ⟨h.1.below hB, h.2.1.imp id fun ⟨R, e, h1, h2, h3, h4, h5, h6⟩ => ⟨R, e, h1, h2, Nat.lt_of_lt_of_le h3 hB.size, h4, h5.same (fun i v hv => cell_below hB hv), h6.below hB⟩, h.2.2⟩
theorem mark_gm (lo hi : Nat) (pa ta : Option Addr) (pl pc tl tc F : Nat) (w : World) (h : GM lo hi w pa ta pl tl F) (hlo : lo ≤ w.heap.size) (h1 : pl ≤ 1000) (h2 : tl ≤ 1000) :
    Calls Try.prog 37 #[.agg #[.slice pa pl pc, .slice ta tl tc], .int .i64 1] w fun e w' => e = .returned (.int .i64 ((1 + pl * 3 + tl * 3 : Nat) : Int)) ∧ MrkM w' pa ta pl tl F ∧ Mark lo hi w w' := by
  have ui := Try.underlying49
  have hA : Mark lo hi w (w.alloc (.cells #[.slice pa pl pc, .slice ta tl tc] 49)) := Mark.alloc hlo _
  have a1 : (w.alloc (.cells #[.slice pa pl pc, .slice ta tl tc] 49)).cell? ⟨w.heap.size, 1, none⟩ = some (.slice ta tl tc) := by go_simp
  have a0 : (w.alloc (.cells #[.slice pa pl pc, .slice ta tl tc] 49)).cell? ⟨w.heap.size, 0, none⟩ = some (.slice pa pl pc) := by go_simp
  have nP : pa ≠ some ⟨w.heap.size, 0, none⟩ := fun e => by
    rcases h.1 with ⟨e', _⟩ | ⟨b, e', ho⟩
    · rw [e'] at e; cases e
    · rw [e'] at e; cases e; exact absurd ho.2.2.1 (Nat.lt_irrefl _)
  have hG := h.below ((Below.refl _ _).alloc (Nat.le_refl _) (.cells #[.slice pa pl pc, .slice ta tl tc] 49))
  have HV := Lib.hid (vec_any lo hi pa pl pc 1 _ hG.1 (by omega) (by omega))
  have HF := Lib.hid hG.2.1
  have HN := Lib.hid hG.2.2
  have HA := Lib.hid hA
  have HNP := Lib.hid nP
  clear h hA hG nP
  generalize hCH : w.alloc (.cells #[.slice pa pl pc, .slice ta tl tc] 49) = W at *
  go_enter Try.func37, Try.ntmps37
  go_wp2_with fail
  refine HV.out.mono ?_
  rintro e w1 ⟨rfl, hd, ho, hM1⟩
  have a1' : w1.cell? ⟨w.heap.size, 1, none⟩ = some (.slice ta tl tc) := (ho _ _ HNP.out).trans a1
  have hF1 : Flat lo hi w1 ta tl F := HF.out.mark hM1 (fun R hR i v hv => by
    refine (ho _ _ (fun hp => ?_)).trans hv
    exact (HN.out _ hp).2 _ hR rfl)
  have HF1 := Lib.hid (flat_any lo hi ta tl tc F (1 + pl * 3) w1 hF1 (by omega) (by omega))
  have HD := Lib.hid hd
  have HM1 := Lib.hid (HA.out.trans hM1)
  clear ho hM1 a0 a1 HV HF hCH hd hF1
  generalize hq : 1 + pl * 3 = q at *
  have hq' : q ≤ 10000 := by omega
  go_wp2_with fail
  refine HF1.out.mono ?_
  rintro e w2 ⟨rfl, hd2, ho2, hM2⟩
  have HD2 := Lib.hid hd2
  have HO2 := Lib.hid ho2
  have HM2 := Lib.hid hM2
  clear hd2 ho2 hM2
  go_wp2
  go_ret
  refine ⟨by rw [show 1 + pl * 3 + tl * 3 = q + tl * 3 by omega]; rfl, ⟨?_, ?_⟩, HM1.out.trans HM2.out⟩
  · exact HD.out.imp id fun ⟨P, e, hc⟩ => ⟨P, e, fun j hj => (HO2.out P (0 + j) (HN.out _ e).1).trans (hc j hj)⟩
  · first | exact HD2.out | (rw [hq]; exact HD2.out) | (subst hq; exact HD2.out)
theorem held_gm (pa ta : Option Addr) (pl pc tl tc F : Nat) (w : World) (h : MrkM w pa ta pl tl F) (h1 : pl ≤ 1000) (h2 : tl ≤ 1000) :
    Calls Try.prog 38 #[.agg #[.slice pa pl pc, .slice ta tl tc], .int .i64 1] w fun e w' => e = .returned (.int .i64 ((1 + pl * 3 + tl * 3 : Nat) : Int)) ∧ Below w.heap.size w w' := by
  have ui := Try.underlying49
  have hA : Below w.heap.size w (w.alloc (.cells #[.slice pa pl pc, .slice ta tl tc] 49)) := (Below.refl _ _).alloc (Nat.le_refl _) _
  have a1 : (w.alloc (.cells #[.slice pa pl pc, .slice ta tl tc] 49)).cell? ⟨w.heap.size, 1, none⟩ = some (.slice ta tl tc) := by go_simp
  have a0 : (w.alloc (.cells #[.slice pa pl pc, .slice ta tl tc] 49)).cell? ⟨w.heap.size, 0, none⟩ = some (.slice pa pl pc) := by go_simp
  have hG := h.below hA
  have HV := Lib.hid (vec_held pa pl pc 1 _ hG.1 (by omega) (by omega))
  have HF := Lib.hid (flat_held ta tl tc F (1 + pl * 3) _ hG.2 (by omega) (by omega))
  have HA := Lib.hid hA
  clear h hA hG
  generalize hCH : w.alloc (.cells #[.slice pa pl pc, .slice ta tl tc] 49) = W at *
  have n1 : ¬ ((1 + pl * 3 : Nat) : Int) < 0 := by omega
  have n2 : ¬ ((1 + pl * 3 + tl * 3 : Nat) : Int) < 0 := by omega
  go_enter Try.func38, Try.ntmps38
  go_wp2_with fail
  refine HV.out.mono ?_
  rintro e w1 ⟨rfl, hw1⟩
  rw [hw1]
  clear hw1 w1
  go_wp2_with fail
  refine HF.out.mono ?_
  rintro e w1 ⟨rfl, hw1⟩
  rw [hw1]
  clear hw1 w1
  go_wp2
  go_ret
  exact ⟨rfl, HA.out⟩
/-- Vectors outside the blocks that are marked are as they were. -/
theorem vs_mark {lo hi lo' hi' : Nat} {w0 w w' : World} {a : Option Addr} {n cap : Nat} {cs : List C3} (h : IsVs w a n cap cs) (hl : Lst lo' hi' w0 a (n * 3)) (hM : Mark lo hi w w') (ho : hi' ≤ lo ∨ hi ≤ lo') : IsVs w' a n cap cs := by
  obtain ⟨h1, h2, h3, h4, h5⟩ := h
  refine ⟨h1, h2, h3, h4, fun x hx i hlt => ?_⟩
  rcases hl with ⟨e, _⟩ | ⟨b, e, hown⟩
  · rw [e] at hx; cases hx
  · rw [e] at hx; cases hx
    obtain ⟨p, q, r, k0, k1, k2, hf⟩ := h5 _ e i hlt
    rw [addr_add'] at k0 k1 k2
    have u1 := hown.1
    have u2 := hown.2.1
    have hb : b < lo ∨ hi ≤ b := by omega
    exact ⟨p, q, r, by rw [addr_add']; exact hM.cell hb k0, by rw [addr_add']; exact hM.cell hb k1, by rw [addr_add']; exact hM.cell hb k2, hf⟩
/-- Rows outside the blocks that are marked are as they were. -/
theorem ts_mark {lo hi lo' hi' : Nat} {w w' : World} {a : Option Addr} {n cap F : Nat} {ts : List (List Int)} (h : IsTs w a n cap ts) (hl : Flat lo' hi' w a n F) (hM : Mark lo hi w w') (ho : hi' ≤ lo ∨ hi ≤ lo') : IsTs w' a n cap ts := by
  obtain ⟨h1, h2, h3, h4, h5⟩ := h
  refine ⟨h1, h2, h3, h4, fun x hx i hlt => ?_⟩
  rcases hl with ⟨e, _⟩ | ⟨R, e, u1, u2, u3, u4, u5, u6⟩
  · rw [e] at hx; cases hx
  · rw [e] at hx; cases hx
    obtain ⟨G, c, c', hc, hI⟩ := h5 _ e i hlt
    rw [addr_add', Nat.zero_add] at hc
    obtain ⟨c2, hc2⟩ := u5 i hlt
    have hb : R < lo ∨ hi ≤ R := by omega
    have hbF : F < lo ∨ hi ≤ F := by have := u6.1; have := u6.2.1; omega
    rw [hc2] at hc
    cases hc
    refine ⟨_, _, _, by rw [addr_add', Nat.zero_add]; exact hM.cell hb hc2, ?_⟩
    obtain ⟨i1, i2, i3, i4, i5, i6⟩ := hI
    refine ⟨i1, i2, i3, i4, i5, fun y hy j hj => ?_⟩
    cases hy
    have := i6 _ rfl j hj
    rw [addr_add'] at this ⊢
    exact hM.cell hbF this
end Go.Proofs.Ytcgnmnbjgamedaa

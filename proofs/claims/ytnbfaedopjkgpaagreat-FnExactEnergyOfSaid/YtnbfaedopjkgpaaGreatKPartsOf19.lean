/-
Texts in one: what PartsOf stands on, part 19. Conditions: those of each.
-/
import Derived.Test.YtnbfaedopjkgpaaGreatKPartsOf18
import Derived.Lib.SliceRun
import Derived.Handy

/-
A box that is empty, and what is kept when it is filled; marks in meshes, told for every block. Conditions: none.
-/
namespace Go.Proofs.YtnbfaedopjkgpaaGreat
open Go Fk Go.RowKit
set_option linter.unusedVariables false
set_option maxRecDepth 8000
/-- A box for a mesh, still empty. -/
def NilBox (w : World) (b : Nat) : Prop := w.cell? ⟨b, 0, none⟩ = some (.slice none 0 0) ∧ w.cell? ⟨b, 1, none⟩ = some (.slice none 0 0) ∧ (∀ i, 2 ≤ i → w.cell? ⟨b, i, none⟩ = none) ∧ ∀ i, w.frozen? ⟨b, i, none⟩ = false
theorem NilBox.lt {w : World} {b : Nat} (h : NilBox w b) : b < w.heap.size := World.block_lt_of_cell? w _ h.1
theorem NilBox.new {w : World} {t : TypeId} : NilBox (w.alloc (.cells #[.slice none 0 0, .slice none 0 0] t)) w.heap.size :=
  ⟨by simp, by simp, fun i hi => by simp; omega, fun i => by simp⟩
theorem NilBox.below {w w' : World} {b : Nat} (h : NilBox w b) (hB : Below w.heap.size w w') : NilBox w' b :=
  ⟨cell_below hB h.1, cell_below hB h.2.1, fun i hi => by rw [hB.cell (p := ⟨b, i, none⟩) h.lt]; exact h.2.2.1 i hi, fun i => by rw [hB.frozen (p := ⟨b, i, none⟩) h.lt]; exact h.2.2.2 i⟩
theorem NilBox.ne {w : World} {b k i : Nat} {v : Value} (h : NilBox w b) (hv : w.cell? ⟨k, i, none⟩ = some v) (hn : v ≠ .slice none 0 0) : k ≠ b := by
  rintro rfl
  match i with
  | 0 => rw [h.1] at hv; cases hv; exact hn rfl
  | 1 => rw [h.2.1] at hv; cases hv; exact hn rfl
  | i + 2 => rw [h.2.2.1 (i + 2) (by omega)] at hv; cases hv
/-- What is no empty list is kept. -/
def KeepC (w w' : World) : Prop := (∀ k i v, w.cell? ⟨k, i, none⟩ = some v → v ≠ .slice none 0 0 → w'.cell? ⟨k, i, none⟩ = some v) ∧ w'.heap.size = w.heap.size
theorem NilBox.keep {w : World} {b : Nat} (h : NilBox w b) (x y : Value) : KeepC w ((w.setCell ⟨b, 0, none⟩ x).setCell ⟨b, 1, none⟩ y) :=
  ⟨fun k i v hv hn => by
    have := h.ne hv hn
    rw [World.cell?_setCell_other _ _ _ _ (by simp [this.symm]), World.cell?_setCell_other _ _ _ _ (by simp [this.symm])]
    exact hv, by simp⟩
theorem vs_keep {w w' : World} {lo hi : Nat} {a : Option Addr} {n c : Nat} {cs : List C3} (h : IsVs w a n c cs) (hl : LV lo hi a) (hK : KeepC w w') : IsVs w' a n c cs := by
  obtain ⟨h1, h2, h3, h4, h5⟩ := h
  refine ⟨h1, h2, h3, h4, fun x hx i hlt => ?_⟩
  obtain ⟨p, q, r, k0, k1, k2, hf⟩ := h5 x hx i hlt
  obtain ⟨b, rfl, _, _⟩ := hl x hx
  rw [addr_add'] at k0 k1 k2
  exact ⟨p, q, r, by rw [addr_add']; exact hK.1 _ _ _ k0 (by simp), by rw [addr_add']; exact hK.1 _ _ _ k1 (by simp), by rw [addr_add']; exact hK.1 _ _ _ k2 (by simp), hf⟩
theorem ts_keep {w w' : World} {lo hi : Nat} {a : Option Addr} {n c : Nat} {ts : List (List Int)} (h : IsTs w a n c ts) (hl : LT lo hi w a n) (h3 : ∀ j, j < n → (ts.getD j []).length = 3) (hK : KeepC w w') : IsTs w' a n c ts ∧ LT lo hi w' a n := by
  obtain ⟨h1, h2, h3', h4, h5⟩ := h
  have key : ∀ x, a = some x → ∃ g, x = ⟨g, 0, none⟩ ∧ lo ≤ g ∧ g < hi ∧ ∀ i, i < n → ∃ y m q, w'.cell? ⟨g, i, none⟩ = some (.slice (some y) m q) ∧ w.cell? ⟨g, i, none⟩ = some (.slice (some y) m q) ∧ IsIs w (some y) m q (ts.getD i []) ∧ ∃ h o, y = ⟨h, o, none⟩ ∧ lo ≤ h ∧ h < hi := by
    intro x hx
    obtain ⟨g, e, u1, u2, u3⟩ := hl x hx
    refine ⟨g, e, u1, u2, fun i hlt => ?_⟩
    obtain ⟨b, m, q, hc, hI⟩ := h5 x hx i hlt
    subst e
    rw [addr_add', Nat.zero_add] at hc
    obtain ⟨b', m', q', hc', hb'⟩ := u3 i hlt
    rw [hc] at hc'
    cases hc'
    cases b with
    | none => have := (hI.2.2.2.2.1 rfl).1; have := hI.1; have := h3 i hlt; omega
    | some y => exact ⟨y, m, q, hK.1 _ _ _ hc (by simp), hc, hI, hb' y rfl⟩
  refine ⟨⟨h1, h2, h3', h4, fun x hx i hlt => ?_⟩, fun x hx => ?_⟩
  · obtain ⟨g, e, u1, u2, u3⟩ := key x hx
    obtain ⟨y, m, q, hc, _, hI, f, o, e', _, _⟩ := u3 i hlt
    subst e
    refine ⟨some y, m, q, by rw [addr_add', Nat.zero_add]; exact hc, ?_⟩
    obtain ⟨i1, i2, i3, i4, i5, i6⟩ := hI
    refine ⟨i1, i2, i3, i4, i5, fun z hz j hj => ?_⟩
    have := i6 z hz j hj
    cases hz
    subst e'
    rw [addr_add'] at this ⊢
    exact hK.1 _ _ _ this (by simp)
  · obtain ⟨g, e, u1, u2, u3⟩ := key x hx
    refine ⟨g, e, u1, u2, fun i hlt => ?_⟩
    obtain ⟨y, m, q, hc, _, _, hb⟩ := u3 i hlt
    exact ⟨some y, m, q, hc, fun z hz => by cases hz; exact hb⟩
theorem GM.lv {lo hi pl tl F : Nat} {w : World} {a a' : Option Addr} (h : GM lo hi w a a' pl tl F) : LV lo hi a := fun x hx => by
  rcases h.1 with ⟨e, _⟩ | ⟨b, e, ho⟩
  · rw [e] at hx; cases hx
  · rw [e] at hx; cases hx; exact ⟨b, rfl, ho.1, ho.2.1⟩
theorem GM.lt {lo hi pl tl F : Nat} {w : World} {a a' : Option Addr} (h : GM lo hi w a a' pl tl F) : LT lo hi w a' tl := fun x hx => by
  rcases h.2.1 with ⟨e, _⟩ | ⟨R, e, k1, k2, k3, k4, k5, k6⟩
  · rw [e] at hx; cases hx
  · rw [e] at hx; cases hx
    refine ⟨R, rfl, k1, k2, fun i hlt => ?_⟩
    obtain ⟨c, hc⟩ := k5 i hlt
    exact ⟨_, _, c, hc, fun y hy => by cases hy; exact ⟨F, _, rfl, k6.1, k6.2.1⟩⟩
theorem GM.keep {lo hi pl tl F b : Nat} {w : World} {a a' : Option Addr} (h : GM lo hi w a a' pl tl F) (hb : NilBox w b) (x y : Value) : GM lo hi ((w.setCell ⟨b, 0, none⟩ x).setCell ⟨b, 1, none⟩ y) a a' pl tl F := by
  have hM : Mark b (b + 1) w ((w.setCell ⟨b, 0, none⟩ x).setCell ⟨b, 1, none⟩ y) := (Mark.set (Nat.le_refl _) (by omega)).trans (Mark.set (Nat.le_refl _) (by omega))
  have hK := hb.keep x y
  refine ⟨h.1.mark hM, h.2.1.imp id fun ⟨R, e, k1, k2, k3, k4, k5, k6⟩ => ⟨R, e, k1, k2, by rw [hK.2]; exact k3, k4, fun j hj => ?_, k6.mark hM⟩, h.2.2⟩
  obtain ⟨c, hc⟩ := k5 j hj
  exact ⟨c, hK.1 _ _ _ hc (by simp)⟩
/-- The lists of a mesh that the model made. -/
def TupS (lo : Nat) (cs : List C3) (ts : List (List Int)) (sa : Option Addr) (sc : Nat) (sa' : Option Addr) (sc' : Nat) (w : World) : Prop := IsVs w sa cs.length sc cs ∧ IsTs w sa' ts.length sc' ts ∧ LV lo w.heap.size sa ∧ LT lo w.heap.size w sa' ts.length
theorem TupS.below {lo sc sc' : Nat} {cs : List C3} {ts : List (List Int)} {sa sa' : Option Addr} {w w' : World} (h : TupS lo cs ts sa sc sa' sc' w) (hB : Below w.heap.size w w') : TupS lo cs ts sa sc sa' sc' w' :=
  ⟨h.1.below hB, h.2.1.below hB, h.2.2.1.wide (Nat.le_refl _) hB.size, (h.2.2.2.below hB).wide (Nat.le_refl _) hB.size⟩
theorem TupS.low {lo lo' sc sc' : Nat} {cs : List C3} {ts : List (List Int)} {sa sa' : Option Addr} {w : World} (h : TupS lo cs ts sa sc sa' sc' w) (hl : lo' ≤ lo) : TupS lo' cs ts sa sc sa' sc' w :=
  ⟨h.1, h.2.1, h.2.2.1.wide hl (Nat.le_refl _), h.2.2.2.wide hl (Nat.le_refl _)⟩
theorem TupS.keep {lo sc sc' b : Nat} {cs : List C3} {ts : List (List Int)} {sa sa' : Option Addr} {w : World} (h : TupS lo cs ts sa sc sa' sc' w) (h3 : ∀ j, j < ts.length → (ts.getD j []).length = 3) (hb : NilBox w b) (x y : Value) : TupS lo cs ts sa sc sa' sc' ((w.setCell ⟨b, 0, none⟩ x).setCell ⟨b, 1, none⟩ y) := by
  have hK := hb.keep x y
  obtain ⟨k1, k2⟩ := ts_keep h.2.1 h.2.2.2 h3 hK
  exact ⟨vs_keep h.1 h.2.2.1 hK, k1, by rw [hK.2]; exact h.2.2.1, by rw [hK.2]; exact k2⟩
/-- The lists of a mesh that the program made. -/
def TupG (lo : Nat) (cs : List C3) (ts : List (List Int)) (sa : Option Addr) (sc : Nat) (sa' : Option Addr) (sc' : Nat) (w : World) : Prop := ∃ F, IsVs w sa cs.length sc cs ∧ IsTs w sa' ts.length sc' ts ∧ GM lo w.heap.size w sa sa' cs.length ts.length F
theorem TupG.below {lo sc sc' : Nat} {cs : List C3} {ts : List (List Int)} {sa sa' : Option Addr} {w w' : World} (h : TupG lo cs ts sa sc sa' sc' w) (hB : Below w.heap.size w w') : TupG lo cs ts sa sc sa' sc' w' := by
  obtain ⟨F, h1, h2, h3⟩ := h
  exact ⟨F, h1.below hB, h2.below hB, (h3.below hB).wide (Nat.le_refl _) hB.size⟩
theorem TupG.low {lo lo' sc sc' : Nat} {cs : List C3} {ts : List (List Int)} {sa sa' : Option Addr} {w : World} (h : TupG lo cs ts sa sc sa' sc' w) (hl : lo' ≤ lo) : TupG lo' cs ts sa sc sa' sc' w := by
  obtain ⟨F, h1, h2, h3⟩ := h
  exact ⟨F, h1, h2, h3.wide hl (Nat.le_refl _)⟩
theorem TupG.keep {lo sc sc' b : Nat} {cs : List C3} {ts : List (List Int)} {sa sa' : Option Addr} {w : World} (h : TupG lo cs ts sa sc sa' sc' w) (h3 : ∀ j, j < ts.length → (ts.getD j []).length = 3) (hb : NilBox w b) (x y : Value) : TupG lo cs ts sa sc sa' sc' ((w.setCell ⟨b, 0, none⟩ x).setCell ⟨b, 1, none⟩ y) := by
  obtain ⟨F, h1, h2, hG⟩ := h
  have hK := hb.keep x y
  obtain ⟨k1, _⟩ := ts_keep h2 hG.lt h3 hK
  exact ⟨F, vs_keep h1 hG.lv hK, k1, by rw [hK.2]; exact hG.keep hb x y⟩
theorem Made.tup {w w' : World} {e : Ending} {ok : Bool} {cs : List C3} {ts : List (List Int)} (h : Made w w' e ok cs ts) : (∃ sa sc sa' sc', e = .returned (.tuple #[.agg #[.slice sa cs.length sc, .slice sa' ts.length sc'], .bool ok]) ∧ TupS w.heap.size cs ts sa sc sa' sc' w') ∧ Below w.heap.size w w' := by
  obtain ⟨⟨a, c, a', c', e, h1, h2, h3, h4⟩, hB⟩ := h
  exact ⟨⟨a, c, a', c', e, h1, h2, h3, h4⟩, hB⟩
theorem MadeG.tup {w w' : World} {e : Ending} {ok : Bool} {cs : List C3} {ts : List (List Int)} (h : MadeG w w' e ok cs ts) : (∃ sa sc sa' sc', e = .returned (.tuple #[.agg #[.slice sa cs.length sc, .slice sa' ts.length sc'], .bool ok]) ∧ TupG w.heap.size cs ts sa sc sa' sc' w') ∧ Below w.heap.size w w' := by
  obtain ⟨⟨a, c, a', c', F, e, h1, h2, h3⟩, hB⟩ := h
  exact ⟨⟨a, c, a', c', e, F, h1, h2, h3⟩, hB⟩
theorem vec_any' (lo hi : Nat) (a : Option Addr) (n cap : Nat) (k0 : Nat) (w : World) (h : Lst lo hi w a (n * 3)) (hn : n ≤ 1000000) (hk : k0 ≤ 1000000) :
    Calls Tryz.prog 26 #[.slice a n cap, .int .i64 k0] w fun e w' => e = .returned (.int .i64 ((k0 + n * 3 : Nat) : Int)) ∧ ((a = none ∧ n = 0) ∨ ∃ P, a = some ⟨P, 0, none⟩ ∧ ∀ j, j < n * 3 → w'.cell? ⟨P, 0 + j, none⟩ = some (.float .f32 (floatOfInt .f32 ((k0 + j : Nat) : Int)))) ∧ (∀ b i, (n = 0 ∨ a ≠ some ⟨b, 0, none⟩) → w'.cell? ⟨b, i, none⟩ = w.cell? ⟨b, i, none⟩) ∧ Mark lo hi w w' := by
  rcases h with ⟨rfl, h0⟩ | ⟨b, rfl, hown⟩
  · refine (vec_any lo hi none n cap k0 w (.inl ⟨rfl, h0⟩) hn hk).mono ?_
    rintro e w' ⟨he, hd, ho, hM⟩
    exact ⟨he, hd, fun b i _ => ho b i (by simp), hM⟩
  · refine (laws_markVectorS lo hi b 0 n cap k0 w hown (by omega)).mono ?_
    rintro e w' ⟨he, hd, ho, hM⟩
    refine ⟨he, .inr ⟨b, rfl, hd⟩, fun c i hc => ho c i ?_, hM⟩
    rcases hc with rfl | hc
    · exact .inr (.inr (by omega))
    · exact .inl (fun h => hc (by rw [h]))
theorem flat_any' (lo hi : Nat) (a : Option Addr) (n cap F : Nat) (k0 : Nat) (w : World) (h : Flat lo hi w a n F) (hn : n ≤ 1000000) (hk : k0 ≤ 1000000000) :
    Calls Tryz.prog 103 #[.slice a n cap, .int .i64 k0] w fun e w' => e = .returned (.int .i64 ((k0 + n * 3 : Nat) : Int)) ∧ ((a = none ∧ n = 0) ∨ ∃ R, a = some ⟨R, 0, none⟩ ∧ FlatRows w' R F n ∧ ∀ j, j < n * 3 → w'.cell? ⟨F, j, none⟩ = some (.int .i64 ((k0 + j : Nat) : Int))) ∧ (∀ b i, (n = 0 ∨ b ≠ F) → w'.cell? ⟨b, i, none⟩ = w.cell? ⟨b, i, none⟩) ∧ Mark lo hi w w' := by
  by_cases h0 : n = 0
  · subst h0
    have hd : (a = none ∧ (0 : Nat) = 0) ∨ ∃ R, a = some ⟨R, 0, none⟩ ∧ FlatRows w R F 0 ∧ ∀ j, j < 0 * 3 → w.cell? ⟨F, j, none⟩ = some (.int .i64 ((k0 + j : Nat) : Int)) := h.imp (fun h => ⟨h.1, rfl⟩) fun ⟨R, e, _⟩ => ⟨R, e, fun j hj => absurd hj (by omega), fun j hj => absurd hj (by omega)⟩
    have HD := Lib.hid hd
    clear hd h
    go_enter Tryz.func103, Tryz.ntmps103
    go_wp2
    refine wp_loop_rounds 1 ?_
    rw [rounds_succ]
    go_wp2
    go_ret
    refine ⟨by simp, by first | exact HD.out | simpa using HD.out, ?_, Mark.refl _ _ _⟩
    first | exact fun _ _ _ => rfl | simp
  · refine (flat_any lo hi a n cap F k0 w h hn hk).mono ?_
    rintro e w' ⟨he, hd, ho, hM⟩
    exact ⟨he, hd, fun b i hb => ho b i (hb.resolve_left h0), hM⟩
theorem mark_gm' (lo hi : Nat) (pa ta : Option Addr) (pl pc tl tc F : Nat) (w : World) (h : GM lo hi w pa ta pl tl F) (hlo : lo ≤ w.heap.size) (h1 : pl ≤ 1000) (h2 : tl ≤ 1000) :
    Calls Tryz.prog 56 #[.agg #[.slice pa pl pc, .slice ta tl tc], .int .i64 1] w fun e w' => e = .returned (.int .i64 ((1 + pl * 3 + tl * 3 : Nat) : Int)) ∧ MrkM w' pa ta pl tl F ∧ Mark lo hi w w' ∧ ∀ b i v, w.cell? ⟨b, i, none⟩ = some v → (pl = 0 ∨ pa ≠ some ⟨b, 0, none⟩) → (tl = 0 ∨ b ≠ F) → w'.cell? ⟨b, i, none⟩ = some v := by
  have ui := Tryz.underlying38
  have hA : Mark lo hi w (w.alloc (.cells #[.slice pa pl pc, .slice ta tl tc] 38)) := Mark.alloc hlo _
  have a1 : (w.alloc (.cells #[.slice pa pl pc, .slice ta tl tc] 38)).cell? ⟨w.heap.size, 1, none⟩ = some (.slice ta tl tc) := by go_simp
  have a0 : (w.alloc (.cells #[.slice pa pl pc, .slice ta tl tc] 38)).cell? ⟨w.heap.size, 0, none⟩ = some (.slice pa pl pc) := by go_simp
  have nP : pa ≠ some ⟨w.heap.size, 0, none⟩ := fun e => by
    rcases h.1 with ⟨e', _⟩ | ⟨b, e', ho⟩
    · rw [e'] at e; cases e
    · rw [e'] at e; cases e; exact absurd ho.2.2.1 (Nat.lt_irrefl _)
  have hG := h.below ((Below.refl _ _).alloc (Nat.le_refl _) (.cells #[.slice pa pl pc, .slice ta tl tc] 38))
  have HV := Lib.hid (vec_any' lo hi pa pl pc 1 _ hG.1 (by omega) (by omega))
  have HF := Lib.hid hG.2.1
  have HN := Lib.hid hG.2.2
  have HA := Lib.hid hA
  have HNP := Lib.hid nP
  have HCA := Lib.hid (fun (b i : Nat) (v : Value) (hv : w.cell? ⟨b, i, none⟩ = some v) => cell_alloc (o := (.cells #[.slice pa pl pc, .slice ta tl tc] 38)) hv)
  clear h hA hG nP
  generalize hCH : w.alloc (.cells #[.slice pa pl pc, .slice ta tl tc] 38) = W at *
  go_enter Tryz.func56, Tryz.ntmps56
  go_wp2_with fail
  refine HV.out.mono ?_
  rintro e w1 ⟨rfl, hd, ho, hM1⟩
  have a1' : w1.cell? ⟨w.heap.size, 1, none⟩ = some (.slice ta tl tc) := (ho _ _ (.inr HNP.out)).trans a1
  have hF1 : Flat lo hi w1 ta tl F := HF.out.mark hM1 (fun R hR i v hv => by
    refine (ho _ _ (.inr (fun hp => ?_))).trans hv
    exact (HN.out _ hp).2 _ hR rfl)
  have HF1 := Lib.hid (flat_any' lo hi ta tl tc F (1 + pl * 3) w1 hF1 (by omega) (by omega))
  have HD := Lib.hid hd
  have HO1 := Lib.hid ho
  have HM1 := Lib.hid (HA.out.trans hM1)
  clear ho hM1 a0 a1 HV HF hCH hd hF1
  generalize hq : 1 + pl * 3 = q at *
  have hq' : q ≤ 10000 := by omega
  go_wp2_with fail
  refine HF1.out.mono ?_
  rintro e w2 ⟨rfl, hd2, ho2, hM2⟩
  have HD2 := Lib.hid hd2
  have HO2 := Lib.hid ho2
  have HM2 := Lib.hid hM2
  clear hd2 ho2 hM2
  go_wp2
  go_ret
  refine ⟨by rw [show 1 + pl * 3 + tl * 3 = q + tl * 3 by omega]; rfl, ⟨?_, ?_⟩, HM1.out.trans HM2.out, fun b i v hv k1 k2 => ?_⟩
  · exact HD.out.imp id fun ⟨P, e, hc⟩ => ⟨P, e, fun j hj => (HO2.out P (0 + j) (.inr (HN.out _ e).1)).trans (hc j hj)⟩
  · first | exact HD2.out | (rw [hq]; exact HD2.out) | (subst hq; exact HD2.out)
  · exact (HO2.out b i k2).trans ((HO1.out b i k1).trans (HCA.out b i v hv))
/-- A box for a mesh is none of the blocks that are marked. -/
theorem gm_box {lo hi n m c c' F B k q : Nat} {w : World} {a a' x : Option Addr} {cs : List C3} {ts : List (List Int)} (hI : IsVs w a n c cs) (hT : IsTs w a' m c' ts) (hG : GM lo hi w a a' n m F) (h3 : ∀ j, j < m → (ts.getD j []).length = 3) (h0 : w.cell? ⟨B, 0, none⟩ = some (.slice x k q)) : (n = 0 ∨ a ≠ some ⟨B, 0, none⟩) ∧ (m = 0 ∨ B ≠ F) := by
  constructor
  · by_cases hn : n = 0
    · exact .inl hn
    · refine .inr fun e => ?_
      obtain ⟨p, _, _, k0, _⟩ := hI.2.2.2.2 _ e 0 (by omega)
      rw [addr_add', Nat.zero_mul, Nat.add_zero, h0] at k0
      cases k0
  · by_cases hm : m = 0
    · exact .inl hm
    · refine .inr ?_
      rintro rfl
      rcases hG.2.1 with ⟨_, e⟩ | ⟨R, e, _, _, _, _, k5, _⟩
      · exact hm e
      · obtain ⟨q', hc⟩ := k5 0 (by omega)
        obtain ⟨b, l, q2, hc2, hI2⟩ := hT.2.2.2.2 _ e 0 (by omega)
        rw [addr_add', Nat.zero_add, hc] at hc2
        cases hc2
        have := hI2.2.2.2.2.2 _ rfl 0 (by omega)
        rw [addr_add', Nat.zero_mul, Nat.add_zero, h0] at this
        cases this
theorem eval_put_ne {a : Act} {d : Option Tmp} {v : Value} {t : Tmp} (h : d ≠ some t) : (a.put d v).eval (.tmp t) = a.eval (.tmp t) := Act.eval_put (fun d' hd he => h (by rw [hd]; cases he; rfl))
end Go.Proofs.YtnbfaedopjkgpaaGreat


/-
Marks in bodies that a function made: what is written is there, and nothing else turns. Conditions: none beyond their sizes.
-/
namespace Go.Proofs.YtnbfaedopjkgpaaGreat
open Go Fk Go.RowKit
set_option linter.unusedVariables false
set_option maxRecDepth 8000

theorem Lst.agree {S : Nat → Prop} {W w : World} {lo hi n : Nat} {a : Option Addr} (h : Lst lo hi W a n) (hS : ∀ b, lo ≤ b → b < hi → S b) (hA : Agree S W w) : Lst lo hi w a n :=
  h.imp id fun ⟨b, e, ho⟩ => ⟨b, e, ho.agree hS hA⟩
theorem GM.agree {S : Nat → Prop} {W w : World} {lo hi pl tl F : Nat} {pa ta : Option Addr} (h : GM lo hi W pa ta pl tl F) (hS : ∀ b, lo ≤ b → b < hi → S b) (hA : Agree S W w) : GM lo hi w pa ta pl tl F :=
  ⟨h.1.agree hS hA, h.2.1.imp id fun ⟨R, e, h1, h2, h3, h4, h5, h6⟩ => ⟨R, e, h1, h2, Nat.lt_of_lt_of_le h3 hA.size, h4, h5.same (fun i v hv => hA.cell _ _ _ (hS R h1 h2) hv), h6.agree hS hA⟩, h.2.2⟩
def SprM (w : World) (a : Option Addr) (n q : Nat) : Prop := (a = none ∧ n = 0) ∨ ∃ P, a = some ⟨P, 0, none⟩ ∧ ∀ j, j < n * 4 → w.cell? ⟨P, 0 + j, none⟩ = some (spV ((q + j : Nat) : Int) j)
def FlM (w : World) (a : Option Addr) (n q : Nat) : Prop := (a = none ∧ n = 0) ∨ ∃ P, a = some ⟨P, 0, none⟩ ∧ ∀ j, j < n → w.cell? ⟨P, 0 + j, none⟩ = some (.float .f32 (floatOfInt .f32 ((q + j : Nat) : Int)))
theorem spr_any (lo hi : Nat) (a : Option Addr) (n cap : Nat) (k0 : Nat) (w : World) (h : Lst lo hi w a (n * 4)) (hn : n ≤ 1000000) (hk : k0 ≤ 1000000) :
    Calls Tryz.prog 57 #[.slice a n cap, .int .i64 k0] w fun e w' => e = .returned (.int .i64 ((k0 + n * 4 : Nat) : Int)) ∧ SprM w' a n k0 ∧ (∀ b i, (n = 0 ∨ a ≠ some ⟨b, 0, none⟩) → w'.cell? ⟨b, i, none⟩ = w.cell? ⟨b, i, none⟩) ∧ Mark lo hi w w' := by
  rcases h with ⟨rfl, h0⟩ | ⟨b, rfl, hown⟩
  · obtain rfl : n = 0 := by omega
    go_enter Tryz.func57, Tryz.ntmps57
    go_wp2
    refine wp_loop_rounds 1 ?_
    rw [rounds_succ]
    go_wp2
    go_ret
    refine ⟨by simp, .inl ⟨rfl, rfl⟩, ?_, Mark.refl _ _ _⟩
    first | exact fun _ _ _ => rfl | simp
  · refine (laws_markSpringS lo hi b 0 n cap k0 w hown (by omega)).mono ?_
    rintro e w' ⟨he, hd, ho, hM⟩
    refine ⟨he, .inr ⟨b, rfl, hd⟩, fun c i hc => ho c i ?_, hM⟩
    rcases hc with rfl | hc
    · exact .inr (.inr (by omega))
    · exact .inl (fun h => hc (by rw [h]))
theorem fl_any (lo hi : Nat) (a : Option Addr) (n cap : Nat) (k0 : Nat) (w : World) (h : Lst lo hi w a n) (hn : n ≤ 1000000) (hk : k0 ≤ 1000000) :
    Calls Tryz.prog 18 #[.slice a n cap, .int .i64 k0] w fun e w' => e = .returned (.int .i64 ((k0 + n : Nat) : Int)) ∧ FlM w' a n k0 ∧ (∀ b i, (n = 0 ∨ a ≠ some ⟨b, 0, none⟩) → w'.cell? ⟨b, i, none⟩ = w.cell? ⟨b, i, none⟩) ∧ Mark lo hi w w' := by
  rcases h with ⟨rfl, h0⟩ | ⟨b, rfl, hown⟩
  · obtain rfl : n = 0 := by omega
    go_enter Tryz.func18, Tryz.ntmps18
    go_wp2
    refine wp_loop_rounds 1 ?_
    rw [rounds_succ]
    go_wp2
    go_ret
    refine ⟨by simp, .inl ⟨rfl, rfl⟩, ?_, Mark.refl _ _ _⟩
    first | exact fun _ _ _ => rfl | simp
  · refine (laws_markFloat32S lo hi b 0 n cap k0 w hown (by omega)).mono ?_
    rintro e w' ⟨he, hd, ho, hM⟩
    refine ⟨he, .inr ⟨b, rfl, hd⟩, fun c i hc => ho c i ?_, hM⟩
    rcases hc with rfl | hc
    · exact .inr (.inr (by omega))
    · exact .inl (fun h => hc (by rw [h]))
theorem fl_held (a : Option Addr) (n cap : Nat) (k0 : Nat) (w : World) (h : FlM w a n k0) (hn : n ≤ 1000000) (hk : k0 ≤ 1000000) :
    Calls Tryz.prog 19 #[.slice a n cap, .int .i64 k0] w fun e w' => e = .returned (.int .i64 ((k0 + n : Nat) : Int)) ∧ w' = w := by
  rcases h with ⟨rfl, rfl⟩ | ⟨P, rfl, hc⟩
  · go_enter Tryz.func19, Tryz.ntmps19
    go_wp2
    refine wp_loop_rounds 1 ?_
    rw [rounds_succ]
    go_wp2
    go_ret
    exact ⟨by simp, by first | rfl | trivial⟩
  · exact laws_heldFloat32S P 0 n cap k0 w hc (by omega)
/-- A body that a function made: its lists lie in blocks of their own. -/
def GB (lo hi : Nat) (w : World) (B : Bd) (F : Nat) : Prop :=
  GM lo hi w B.pa B.ta B.pl B.tl F ∧ Lst lo hi w B.sa (B.sl * 4) ∧ Lst lo hi w B.wa B.wl ∧
  (∀ X, B.sa = some ⟨X, 0, none⟩ → X ≠ F ∧ B.pa ≠ some ⟨X, 0, none⟩ ∧ B.ta ≠ some ⟨X, 0, none⟩ ∧ B.wa ≠ some ⟨X, 0, none⟩) ∧
  (∀ X, B.wa = some ⟨X, 0, none⟩ → X ≠ F ∧ B.pa ≠ some ⟨X, 0, none⟩ ∧ B.ta ≠ some ⟨X, 0, none⟩)
theorem GB.agree {S : Nat → Prop} {W w : World} {lo hi F : Nat} {B : Bd} (h : GB lo hi W B F) (hS : ∀ b, lo ≤ b → b < hi → S b) (hA : Agree S W w) : GB lo hi w B F :=
  ⟨h.1.agree hS hA, h.2.1.agree hS hA, h.2.2.1.agree hS hA, h.2.2.2⟩
theorem GB.below {W w : World} {lo hi F : Nat} {B : Bd} (h : GB lo hi W B F) (hB : Below W.heap.size W w) : GB lo hi w B F :=
  h.agree (S := fun _ => True) (fun _ _ _ => trivial) (Agree.of_below hB)
theorem lst_lv {lo hi n : Nat} {w : World} {a : Option Addr} (h : Lst lo hi w a n) : LV lo hi a := fun x hx => by
  rcases h with ⟨e, _⟩ | ⟨b, e, ho⟩
  · rw [e] at hx; cases hx
  · rw [e] at hx; cases hx; exact ⟨b, rfl, ho.1, ho.2.1⟩
theorem GB.lb {lo hi F : Nat} {w : World} {B : Bd} (h : GB lo hi w B F) : LB lo hi w B := ⟨h.1.lv, h.1.lt, lst_lv h.2.1, lst_lv h.2.2.1⟩
theorem lst_lt {lo hi n : Nat} {w : World} {a : Option Addr} (h : Lst lo hi w a n) {X : Nat} (e : a = some ⟨X, 0, none⟩) : X < w.heap.size := by
  rcases h with ⟨e', _⟩ | ⟨b, e', ho⟩
  · rw [e'] at e; cases e
  · rw [e'] at e; cases e; exact ho.2.2.1
/-- The marks of a body that were written are there. -/
def MrkB (w : World) (B : Bd) (F : Nat) : Prop := MrkM w B.pa B.ta B.pl B.tl F ∧ SprM w B.sa B.sl (1 + B.pl * 3 + B.tl * 3) ∧ FlM w B.wa B.wl (1 + B.pl * 3 + B.tl * 3 + B.sl * 4)
theorem MrkM.same {w w' : World} {pa ta : Option Addr} {pl tl F : Nat} (h : MrkM w pa ta pl tl F) (hk : ∀ b i v, w.cell? ⟨b, i, none⟩ = some v → (pa = some ⟨b, 0, none⟩ ∨ ta = some ⟨b, 0, none⟩ ∨ b = F) → w'.cell? ⟨b, i, none⟩ = some v) : MrkM w' pa ta pl tl F := by
  obtain ⟨h1, h2⟩ := h
  refine ⟨h1.imp id fun ⟨P, e, hc⟩ => ⟨P, e, fun j hj => hk _ _ _ (hc j hj) (.inl e)⟩, h2.imp id fun ⟨R, e, hf, hc⟩ => ⟨R, e, hf.same (fun i v hv => hk _ _ _ hv (.inr (.inl e))), fun j hj => hk _ _ _ (hc j hj) (.inr (.inr rfl))⟩⟩
theorem SprM.same {w w' : World} {a : Option Addr} {n q : Nat} (h : SprM w a n q) (hk : ∀ b i v, w.cell? ⟨b, i, none⟩ = some v → a = some ⟨b, 0, none⟩ → w'.cell? ⟨b, i, none⟩ = some v) : SprM w' a n q :=
  h.imp id fun ⟨P, e, hc⟩ => ⟨P, e, fun j hj => hk _ _ _ (hc j hj) e⟩
theorem FlM.same {w w' : World} {a : Option Addr} {n q : Nat} (h : FlM w a n q) (hk : ∀ b i v, w.cell? ⟨b, i, none⟩ = some v → a = some ⟨b, 0, none⟩ → w'.cell? ⟨b, i, none⟩ = some v) : FlM w' a n q :=
  h.imp id fun ⟨P, e, hc⟩ => ⟨P, e, fun j hj => hk _ _ _ (hc j hj) e⟩
theorem MrkB.same {w w' : World} {B : Bd} {F : Nat} (h : MrkB w B F) (hk : ∀ b i v, w.cell? ⟨b, i, none⟩ = some v → (B.pa = some ⟨b, 0, none⟩ ∨ B.ta = some ⟨b, 0, none⟩ ∨ b = F ∨ B.sa = some ⟨b, 0, none⟩ ∨ B.wa = some ⟨b, 0, none⟩) → w'.cell? ⟨b, i, none⟩ = some v) : MrkB w' B F :=
  ⟨h.1.same fun b i v hv hb => hk b i v hv (by rcases hb with e | e | e; exact .inl e; exact .inr (.inl e); exact .inr (.inr (.inl e))), h.2.1.same fun b i v hv e => hk b i v hv (.inr (.inr (.inr (.inl e)))), h.2.2.same fun b i v hv e => hk b i v hv (.inr (.inr (.inr (.inr e))))⟩
theorem MrkB.below {w w' : World} {B : Bd} {F : Nat} (h : MrkB w B F) (hB : Below w.heap.size w w') : MrkB w' B F := h.same fun _ _ _ hv _ => cell_below hB hv
set_option maxHeartbeats 1000000 in
theorem mark_gb (lo hi F : Nat) (B : Bd) (w : World) (h : GB lo hi w B F) (hlo : lo ≤ w.heap.size) (h1 : B.pl ≤ 1000) (h2 : B.tl ≤ 1000) (h3 : B.sl ≤ 1000) (h4 : B.wl ≤ 1000) :
    Calls Tryz.prog 17 #[B.v, .int .i64 1] w fun e w' => e = .returned (.int .i64 ((1 + B.pl * 3 + B.tl * 3 + B.sl * 4 + B.wl : Nat) : Int)) ∧ MrkB w' B F ∧ Mark lo hi w w' ∧ ∀ b i v, w.cell? ⟨b, i, none⟩ = some v → (B.pl = 0 ∨ B.pa ≠ some ⟨b, 0, none⟩) → (B.tl = 0 ∨ b ≠ F) → (B.sl = 0 ∨ B.sa ≠ some ⟨b, 0, none⟩) → (B.wl = 0 ∨ B.wa ≠ some ⟨b, 0, none⟩) → w'.cell? ⟨b, i, none⟩ = some v := by
  have ui := Tryz.underlying42
  have uim := Tryz.underlying38
  have A0 : Hid (At (w.alloc (BoxB B 42)) w.heap.size B.l) := Lib.hid At.new
  have B0 : Hid (Below w.heap.size w (w.alloc (BoxB B 42))) := Lib.hid ((Below.refl _ _).alloc (Nat.le_refl _) _)
  have M0 : Hid (Mark lo hi w (w.alloc (BoxB B 42))) := Lib.hid (Mark.alloc hlo _)
  have G0 := Lib.hid (h.below B0.out)
  have nP : B.pa ≠ some ⟨w.heap.size, 0, none⟩ := fun e => Nat.lt_irrefl _ (lst_lt h.1.1 e)
  have nS : B.sa ≠ some ⟨w.heap.size, 0, none⟩ := fun e => Nat.lt_irrefl _ (lst_lt h.2.1 e)
  have nF : B.tl = 0 ∨ w.heap.size ≠ F := by
    rcases h.1.2.1 with ⟨_, e⟩ | ⟨R, _, _, _, _, _, _, ho⟩
    · exact .inl e
    · exact .inr (by have := ho.2.2.1; omega)
  have N0 := Lib.hid (And.intro nP (And.intro nS nF))
  have hlo' : lo ≤ (w.alloc (BoxB B 42)).heap.size := by simp; omega
  have J := Lib.hid (mark_gm' lo hi B.pa B.ta B.pl B.pc B.tl B.tc F _ G0.out.1 hlo' h1 h2)
  clear h nP nS nF
  go_enter Tryz.func17, Tryz.ntmps17
  go_wp2_with fail
  change Calls _ _ _ (w.alloc (BoxB B 42)) _
  generalize (w.alloc (BoxB B 42)) = W at *
  refine J.out.mono ?_
  rintro e w1 ⟨rfl, hMk, hM1, hK1⟩
  have k2 := hK1 _ _ _ (A0.out 2 _ rfl) (.inr N0.out.1) N0.out.2.2
  have k5 := hK1 _ _ _ (A0.out 5 _ rfl) (.inr N0.out.1) N0.out.2.2
  have X1 := Lib.hid (And.intro hMk (And.intro (M0.out.trans hM1) hK1))
  have J2 := Lib.hid (spr_any lo hi B.sa B.sl B.sc (1 + B.pl * 3 + B.tl * 3) w1 (G0.out.2.1.mark hM1) (by omega) (by omega))
  have L3 := Lib.hid (G0.out.2.2.1.mark hM1)
  clear hMk hM1 hK1
  obtain ⟨q, hq⟩ : ∃ q, q = 1 + B.pl * 3 + B.tl * 3 := ⟨_, rfl⟩
  have HQ := Lib.hid hq
  rw [← hq] at J2 ⊢
  have hq' : q ≤ 10000 := by omega
  clear hq
  go_wp2_with fail
  refine J2.out.mono ?_
  rintro e w2 ⟨rfl, hd2, ho2, hM2⟩
  have k5' := (ho2 _ 5 (.inr N0.out.2.1)).trans k5
  have X2 := Lib.hid (And.intro hd2 (And.intro ho2 hM2))
  have J3 := Lib.hid (fl_any lo hi B.wa B.wl B.wc (q + B.sl * 4) w2 (L3.out.mark hM2) (by omega) (by omega))
  clear hd2 ho2 hM2 k2 k5
  obtain ⟨r, hr⟩ : ∃ r, r = q + B.sl * 4 := ⟨_, rfl⟩
  have HR := Lib.hid hr
  rw [← hr] at J3 ⊢
  have hr' : r ≤ 20000 := by omega
  clear hr
  go_wp2_with fail
  refine J3.out.mono ?_
  rintro e w3 ⟨rfl, hd3, ho3, hM3⟩
  have X3 := Lib.hid (And.intro hd3 (And.intro ho3 hM3))
  clear hd3 ho3 hM3
  go_wp2
  go_ret
  have hk : ∀ b i v, w1.cell? ⟨b, i, none⟩ = some v → (B.sl = 0 ∨ B.sa ≠ some ⟨b, 0, none⟩) → (B.wl = 0 ∨ B.wa ≠ some ⟨b, 0, none⟩) → w3.cell? ⟨b, i, none⟩ = some v := fun b i v hv hs hw => (X3.out.2.1 b i hw).trans ((X2.out.2.1 b i hs).trans hv)
  have g4 := G0.out.2.2.2.1
  have g5 := G0.out.2.2.2.2
  refine ⟨by have hq1 := HQ.out; have hr1 := HR.out; rw [show 1 + B.pl * 3 + B.tl * 3 + B.sl * 4 + B.wl = r + B.wl by omega]; rfl, ⟨X1.out.1.same fun b i v hv hb => ?_, ?_, ?_⟩, (X1.out.2.1.trans X2.out.2.2).trans X3.out.2.2, fun b i v hv k1 k2 k3 k4 => ?_⟩
  · refine hk b i v hv (.inr fun e => ?_) (.inr fun e => ?_)
    · have := g4 _ e
      rcases hb with e' | e' | e'
      · exact this.2.1 e'
      · exact this.2.2.1 e'
      · exact this.1 e'
    · have := g5 _ e
      rcases hb with e' | e' | e'
      · exact this.2.1 e'
      · exact this.2.2 e'
      · exact this.1 e'
  · rw [← HQ.out]
    exact X2.out.1.same fun b i v hv e => (X3.out.2.1 b i (.inr (g4 _ e).2.2.2)).trans hv
  · rw [← HQ.out, ← HR.out]
    exact X3.out.1
  · exact hk b i v (X1.out.2.2 b i v (cell_below B0.out hv) k1 k2) k3 k4
end Go.Proofs.YtnbfaedopjkgpaaGreat


/-
Meshes that are turned over: what the program makes. Conditions: none.
-/
namespace Go.Proofs.YtnbfaedopjkgpaaGreat
open Go Fk Go.RowKit
set_option linter.unusedVariables false
set_option maxRecDepth 8000
def turnRow (t : List Int) : List Int := [t.getD 0 0, t.getD 2 0, t.getD 1 0]
/-- The first k rows are turned, the others are as they were. -/
def mixT (ts : List (List Int)) (k : Nat) : List (List Int) := (ts.take k).map turnRow ++ ts.drop k
theorem mixT_zero (ts : List (List Int)) : mixT ts 0 = ts := by simp [mixT]
theorem mixT_len (ts : List (List Int)) (k : Nat) : (mixT ts k).length = ts.length := by
  unfold mixT; simp; omega
theorem mixT_all (ts : List (List Int)) : mixT ts ts.length = ts.map turnRow := by unfold mixT; simp
theorem mixT_get (ts : List (List Int)) (k j : Nat) (hk : k ≤ ts.length) (hj : j < ts.length) : (mixT ts k).getD j [] = if j < k then turnRow (ts.getD j []) else ts.getD j [] := by
  unfold mixT
  by_cases h : j < k
  · rw [if_pos h]
    simp only [List.getD]
    rw [List.getElem?_append_left (by simp; omega), List.getElem?_map, List.getElem?_take_of_lt h]
    simp [hj]
  · rw [if_neg h]
    have : ((ts.take k).map turnRow).length = k := by simp; omega
    simp only [List.getD]
    rw [List.getElem?_append_right (by omega), this, List.getElem?_drop, show k + (j - k) = j by omega]
def rTt (cs : List C3) (ts : List (List Int)) : List (List Int) := if validB cs ts = true then ts.map turnRow else []
theorem rTt_no {cs : List C3} {ts : List (List Int)} (h : validB cs ts = false) : rTt cs ts = [] := by unfold rTt; rw [if_neg (by rw [h]; decide)]
theorem rTt_yes {cs : List C3} {ts : List (List Int)} (h : validB cs ts = true) : rTt cs ts = ts.map turnRow := by unfold rTt; rw [if_pos h]
theorem turn_wf {t : List Int} (h : ∀ z ∈ t, (Lit.int .i64 z).wf = true) (h3 : t.length = 3) : ∀ z ∈ turnRow t, (Lit.int .i64 z).wf = true := by
  intro z hz
  match t, h3 with
  | [x, y, u], _ =>
    simp [turnRow] at hz
    rcases hz with rfl | rfl | rfl <;> exact h _ (by simp)
theorem mixT_wf {ts : List (List Int)} {n k : Nat} (hn : ts.length = n) (hk : k ≤ n) (h3 : ∀ j, j < n → (ts.getD j []).length = 3) (h : ∀ j, j < n → ∀ z ∈ ts.getD j [], (Lit.int .i64 z).wf = true) : ∀ j, j < n → ∀ z ∈ (mixT ts k).getD j [], (Lit.int .i64 z).wf = true := fun j hj => by
  rw [mixT_get ts k j (by omega) (by omega)]
  by_cases hjk : j < k
  · rw [if_pos hjk]; exact turn_wf (h j hj) (h3 j hj)
  · rw [if_neg hjk]; exact h j hj
theorem mixT_3 {ts : List (List Int)} {n k : Nat} (hn : ts.length = n) (hk : k ≤ n) (h3 : ∀ j, j < n → (ts.getD j []).length = 3) : ∀ j, j < n → ((mixT ts k).getD j []).length = 3 := fun j hj => by
  rw [mixT_get ts k j (by omega) (by omega)]
  by_cases hjk : j < k
  · rw [if_pos hjk]; rfl
  · rw [if_neg hjk]; exact h3 j hj
theorem slices_clone (a : Option Addr) (n c : Nat) (cs : List C3) (w : World) (h : IsVs w a n c cs) (hn : n ≤ 1000) :
    Calls Tryz.prog 68 #[.slice a n c] w fun e w' => (∃ v xs, e = .returned v ∧ w'.ownsRow w.heap.size 40 3 v n xs ∧ PV n xs cs) ∧ Below w.heap.size w w' := by
  obtain ⟨i0, hi, hz0, hz1, hz2⟩ := info_parts infoV
  obtain ⟨xs, x1, x2, x3, x4⟩ := vs_cells h
  have h0 := h.2.2.2.1
  have X2 := Lib.hid x2
  have X3 := Lib.hid x3
  have X4 := Lib.hid x4
  have X1 := Lib.hid x1
  clear x1 x2 x3 x4 h
  have q : ∀ (w : World) (a : Option Addr) (n c : Nat), (binOp .eql 36 (.slice a n c) (.slice none 0 0)).run Tryz.prog w = .ok (.bool a.isNone) w := fun w a n c => Lib.run_eql_slice_nil w _ _ a n c 0 0 Tryz.underlying36
  cases a with
  | none =>
    obtain ⟨rfl, rfl⟩ := h0 rfl
    go_enter Tryz.func68, Tryz.ntmps68
    go_wp2
    refine bodyPost_ret (v := .slice none 0 0) (by simp [results, Tryz.results68, go_sem]) rfl ?_
    exact ⟨⟨_, rfl, [], World.ownsRow_nil _ _ _ _, fun j hj => absurd hj (by omega)⟩, Below.refl _ _⟩
  | some x =>
    have HST := Lib.hid (World.ownsRow_lit (base := w.heap.size) (e := 40) (size := 3) w #[] 0 (Nat.le_refl _) (by decide) rfl)
    go_enter Tryz.func68, Tryz.ntmps68
    go_wp2_with (at_builtin; refine wpList_append_opt _ rfl _ _ 36 rfl w.heap.size 40 i0 (.agg #[.float .f32 0, .float .f32 0, .float .f32 0]) 3 12 Tryz.underlying36 hi hz0 hz1 hz2 rfl (by decide) _ 0 [] rfl HST.out (some x) n c xs rfl (fun h => by cases h) X1.out ?c2 ?c3 ?c4 ?c5 ?c6 ?_)
    case c2 =>
      intro j u hu
      have := X2.out x rfl j u hu
      rw [World.cell?_alloc_lt (h := World.block_lt_of_cell? _ _ this)]
      exact this
    case c3 => exact X3.out
    case c4 => unfold maxLen; omega
    case c5 => omega
    · intro v w1 hown hgrow
      have hown' : w1.ownsRow w.heap.size 40 3 v n xs := by simpa using hown
      have hB1 : Below w.heap.size w w1 := ((Below.refl _ _).alloc (Nat.le_refl _) _).grown hgrow (by simp) (fun k hk => by simp [Value.ownBlock] at hk; omega)
      have HO := Lib.hid hown'
      have HB := Lib.hid hB1
      clear hown hgrow hown' hB1
      go_wp2
      refine bodyPost_ret (v := v) (by simp [results, Tryz.results68, go_sem]) rfl ?_
      exact ⟨⟨v, xs, rfl, HO.out, X4.out⟩, HB.out⟩
end Go.Proofs.YtnbfaedopjkgpaaGreat


/-
Copies of lists of springs and of numbers that slices.Clone makes. Conditions: at most 2^20 of them.
-/
namespace Go.Proofs.YtnbfaedopjkgpaaGreat
open Go Fk Go.RowKit
set_option linter.unusedVariables false
set_option maxRecDepth 8000

def SPV (n : Nat) (xs : List Value) (ss : List SC) : Prop := ∀ j, j < n → ∃ p q, xs[j * 4]? = some (.int .i64 (ss.getD j s0).1) ∧ xs[j * 4 + 1]? = some (.int .i64 (ss.getD j s0).2.1) ∧ xs[j * 4 + 2]? = some (.float .f32 p) ∧ xs[j * 4 + 3]? = some (.float .f32 q) ∧ FV .f32 p (ss.getD j s0).2.2.1 ∧ FV .f32 q (ss.getD j s0).2.2.2
def FPV (n : Nat) (xs : List Value) (zs : List Nat) : Prop := ∀ j, j < n → xs[j]? = some (.float .f32 (zs.getD j 0))
theorem ss_cells {w : World} {a : Option Addr} {n cap : Nat} {ss : List SC} (h : IsSs w a n cap ss) : ∃ xs : List Value, xs.length = n * 4 ∧ (∀ ad, a = some ad → ∀ j u, xs[j]? = some u → w.cell? (ad.add j) = some u) ∧ (∀ u ∈ xs, u.oneCell' = true) ∧ SPV n xs ss := by
  obtain ⟨h1, h2, h3, h4', h4, h5⟩ := h
  cases a with
  | none =>
    obtain ⟨rfl, _⟩ := h4 rfl
    exact ⟨[], rfl, ⟨fun _ had => (by cases had), fun u hu => absurd hu (by simp), fun j hj => absurd hj (by omega)⟩⟩
  | some x =>
    have hc : ∀ j, j < n * 4 → ∃ u, w.cell? (x.add j) = some u ∧ u.oneCell' = true := by
      intro j hj
      obtain ⟨p, q, k0, k1, k2, k3, _⟩ := h5 x rfl (j / 4) (by omega)
      have : j = j / 4 * 4 ∨ j = j / 4 * 4 + 1 ∨ j = j / 4 * 4 + 2 ∨ j = j / 4 * 4 + 3 := by omega
      rcases this with e | e | e | e
      · exact ⟨_, by rw [e]; exact k0, rfl⟩
      · exact ⟨_, by rw [e]; exact k1, rfl⟩
      · exact ⟨_, by rw [e]; exact k2, rfl⟩
      · exact ⟨_, by rw [e]; exact k3, rfl⟩
    refine ⟨(List.range (n * 4)).map fun j => (w.cell? (x.add j)).getD undef, by simp, fun ad had j u hu => ?_, fun u hu => ?_, fun j hj => ?_⟩
    · cases had
      have hj : j < n * 4 := by have := (List.getElem?_eq_some_iff.1 hu).1; simpa using this
      obtain ⟨p, hp, _⟩ := hc j hj
      simp [hj, hp] at hu
      rw [hp, ← hu]
    · obtain ⟨j, hj, rfl⟩ := List.mem_map.1 hu
      obtain ⟨p, hp, ho⟩ := hc j (List.mem_range.1 hj)
      rw [hp]; exact ho
    · obtain ⟨p, q, k0, k1, k2, k3, hf⟩ := h5 x rfl j hj
      have g0 : j * 4 < n * 4 := by omega
      have g1 : j * 4 + 1 < n * 4 := by omega
      have g2 : j * 4 + 2 < n * 4 := by omega
      have g3 : j * 4 + 3 < n * 4 := by omega
      exact ⟨p, q, by simp [g0, k0], by simp [g1, k1], by simp [g2, k2], by simp [g3, k3], hf⟩
theorem fs_cells {w : World} {a : Option Addr} {n cap : Nat} {zs : List Nat} (h : IsFs .f32 w a n cap zs) : ∃ xs : List Value, xs.length = n * 1 ∧ (∀ ad, a = some ad → ∀ j u, xs[j]? = some u → w.cell? (ad.add j) = some u) ∧ (∀ u ∈ xs, u.oneCell' = true) ∧ FPV n xs zs := by
  obtain ⟨h1, h2, h3, h4', h4, h5⟩ := h
  refine ⟨zs.map (.float .f32), by simp [h1], fun ad had j u hu => ?_, fun u hu => ?_, fun j hj => ?_⟩
  · have hj : j < n := by have := (List.getElem?_eq_some_iff.1 hu).1; rw [← h1]; simpa using this
    have := h5 ad had j hj
    rw [this, ← hu]
    have hz : j < zs.length := by omega
    simp [List.getD, hz]
  · obtain ⟨z, _, rfl⟩ := List.mem_map.1 hu
    rfl
  · have hz : j < zs.length := by omega
    simp [List.getD, hz]
theorem lst_of_ownsG {w : World} {base size n c : Nat} {e : TypeId} {a : Option Addr} {xs : List Value} (h : w.ownsRow base e size (.slice a n c) n xs) : Lst base w.heap.size w a (n * size) := by
  have h' := h
  rcases h.2 with ⟨e, e0⟩ | ⟨g, cap, cur, e, hb, hh, hc1, hc2, hs, ht⟩
  · cases e; exact .inl ⟨rfl, by rw [e0, Nat.zero_mul]⟩
  · obtain ⟨g1, g2⟩ := h'.lt g (by rw [e]; rfl)
    cases e
    refine .inr ⟨g, rfl, g1, g2, g2, fun j hj => ⟨?_, by rw [Nat.zero_add]; exact h'.frozenAt j⟩⟩
    rw [Nat.zero_add, h'.cellAt j hj]
    have : j < xs.length := by rw [h'.1]; exact hj
    exact ⟨_, List.getElem?_eq_getElem this⟩
theorem ss_of_owns {w : World} {base n : Nat} {v : Value} {xs : List Value} {ss : List SC} (h : w.ownsRow base 122 4 v n xs) (hn : ss.length = n) (hp : SPV n xs ss) (hwf : ∀ s ∈ ss, (Lit.int .i64 s.1).wf = true ∧ (Lit.int .i64 s.2.1).wf = true) : ∃ a cap, v = .slice a n cap ∧ IsSs w a n cap ss ∧ Lst base w.heap.size w a (n * 4) := by
  have h' := h
  rcases h.2 with ⟨rfl, hn0⟩ | ⟨g, cap, cur, rfl, hb, hh, hc1, hc2, hs, ht⟩
  · exact ⟨none, 0, by rw [hn0], ⟨hn, by omega, by unfold maxLen; omega, hwf, fun _ => ⟨hn0, rfl⟩, fun x hx => by cases hx⟩, .inl ⟨rfl, by omega⟩⟩
  · refine ⟨_, cap, rfl, ⟨hn, hc1, hc2, hwf, by simp, fun x hx i hi => ?_⟩, lst_of_ownsG h'⟩
    cases hx
    obtain ⟨p, q, e0, e1, e2, e3, hf⟩ := hp i hi
    exact ⟨p, q, by rw [addr_add', Nat.zero_add, h'.cellAt _ (by omega)]; exact e0, by rw [addr_add', Nat.zero_add, h'.cellAt _ (by omega)]; exact e1, by rw [addr_add', Nat.zero_add, h'.cellAt _ (by omega)]; exact e2, by rw [addr_add', Nat.zero_add, h'.cellAt _ (by omega)]; exact e3, hf⟩
theorem fs_of_owns {w : World} {base n : Nat} {v : Value} {xs : List Value} {zs : List Nat} (h : w.ownsRow base 27 1 v n xs) (hn : zs.length = n) (hp : FPV n xs zs) (hwf : ∀ z ∈ zs, z < 2 ^ FloatKind.f32.format.width) : ∃ a cap, v = .slice a n cap ∧ IsFs .f32 w a n cap zs ∧ Lst base w.heap.size w a n := by
  have h' := h
  rcases h.2 with ⟨rfl, hn0⟩ | ⟨g, cap, cur, rfl, hb, hh, hc1, hc2, hs, ht⟩
  · exact ⟨none, 0, by rw [hn0], ⟨hn, by omega, by unfold maxLen; omega, hwf, fun _ => ⟨hn0, rfl⟩, fun x hx => by cases hx⟩, .inl ⟨rfl, by omega⟩⟩
  · refine ⟨_, cap, rfl, ⟨hn, hc1, hc2, hwf, by simp, fun x hx i hi => ?_⟩, by have := lst_of_ownsG h'; rwa [Nat.mul_one] at this⟩
    cases hx
    rw [addr_add', Nat.zero_add, h'.cellAt _ (by omega)]
    exact hp i hi
end Go.Proofs.YtnbfaedopjkgpaaGreat

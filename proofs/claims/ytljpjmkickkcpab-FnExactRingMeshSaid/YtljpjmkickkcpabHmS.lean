
/-
A box that is empty, and what is kept when it is filled; marks in meshes, told for every block. Conditions: none.
-/
import Derived.Test.YtljpjmkickkcpabHmJ0
import Derived.Test.YtljpjmkickkcpabReg6
namespace Go.Proofs.Ytljpjmkickkcpab
open Go Fk Go.RowKit
set_option linter.unusedVariables false
set_option maxRecDepth 8000
/-- A box for a mesh, still empty. -/
def NilBox (w : World) (b : Nat) : Prop := w.cell? ⟨b, 0, none⟩ = some (.slice none 0 0) ∧ w.cell? ⟨b, 1, none⟩ = some (.slice none 0 0) ∧ (∀ i, 2 ≤ i → w.cell? ⟨b, i, none⟩ = none) ∧ ∀ i, w.frozen? ⟨b, i, none⟩ = false
theorem NilBox.lt {w : World} {b : Nat} (h : NilBox w b) : b < w.heap.size := World.block_lt_of_cell? w _ h.1
theorem NilBox.new {w : World} {t : TypeId} : NilBox (w.alloc (.cells #[.slice none 0 0, .slice none 0 0] t)) w.heap.size :=
  ⟨by simp, by simp, fun i hi => by simp; omega, fun i => by simp⟩
theorem NilBox.below {w w' : World} {b : Nat} (h : NilBox w b) (hB : Below w.heap.size w w') : NilBox w' b :=
  ⟨cell_below hB h.1, cell_below hB h.2.1, fun i hi => by rw [hB.cell (p := ⟨b, i, none⟩) h.lt]; exact h.2.2.1 i hi, fun i => by rw [hB.frozen (p := ⟨b, i, none⟩) h.lt]; exact h.2.2.2 i⟩
theorem NilBox.ne {w : World} {b k i : Nat} {v : Value} (h : NilBox w b) (hv : w.cell? ⟨k, i, none⟩ = some v) (hn : v ≠ .slice none 0 0) : k ≠ b := by
  rintro rfl
  match i with
  | 0 => rw [h.1] at hv; cases hv; exact hn rfl
  | 1 => rw [h.2.1] at hv; cases hv; exact hn rfl
  | i + 2 => rw [h.2.2.1 (i + 2) (by omega)] at hv; cases hv
/-- What is no empty list is kept. -/
def KeepC (w w' : World) : Prop := (∀ k i v, w.cell? ⟨k, i, none⟩ = some v → v ≠ .slice none 0 0 → w'.cell? ⟨k, i, none⟩ = some v) ∧ w'.heap.size = w.heap.size
theorem NilBox.keep {w : World} {b : Nat} (h : NilBox w b) (x y : Value) : KeepC w ((w.setCell ⟨b, 0, none⟩ x).setCell ⟨b, 1, none⟩ y) :=
  ⟨fun k i v hv hn => by
    have := h.ne hv hn
    rw [World.cell?_setCell_other _ _ _ _ (by simp [this.symm]), World.cell?_setCell_other _ _ _ _ (by simp [this.symm])]
    exact hv, by simp⟩
theorem vs_keep {w w' : World} {lo hi : Nat} {a : Option Addr} {n c : Nat} {cs : List C3} (h : IsVs w a n c cs) (hl : LV lo hi a) (hK : KeepC w w') : IsVs w' a n c cs := by
  obtain ⟨h1, h2, h3, h4, h5⟩ := h
  refine ⟨h1, h2, h3, h4, fun x hx i hlt => ?_⟩
  obtain ⟨p, q, r, k0, k1, k2, hf⟩ := h5 x hx i hlt
  obtain ⟨b, rfl, _, _⟩ := hl x hx
  rw [addr_add'] at k0 k1 k2
  exact ⟨p, q, r, by rw [addr_add']; exact hK.1 _ _ _ k0 (by simp), by rw [addr_add']; exact hK.1 _ _ _ k1 (by simp), by rw [addr_add']; exact hK.1 _ _ _ k2 (by simp), hf⟩
theorem ts_keep {w w' : World} {lo hi : Nat} {a : Option Addr} {n c : Nat} {ts : List (List Int)} (h : IsTs w a n c ts) (hl : LT lo hi w a n) (h3 : ∀ j, j < n → (ts.getD j []).length = 3) (hK : KeepC w w') : IsTs w' a n c ts ∧ LT lo hi w' a n := by
  obtain ⟨h1, h2, h3', h4, h5⟩ := h
  have key : ∀ x, a = some x → ∃ g, x = ⟨g, 0, none⟩ ∧ lo ≤ g ∧ g < hi ∧ ∀ i, i < n → ∃ y m q, w'.cell? ⟨g, i, none⟩ = some (.slice (some y) m q) ∧ w.cell? ⟨g, i, none⟩ = some (.slice (some y) m q) ∧ IsIs w (some y) m q (ts.getD i []) ∧ ∃ h o, y = ⟨h, o, none⟩ ∧ lo ≤ h ∧ h < hi := by
    intro x hx
    obtain ⟨g, e, u1, u2, u3⟩ := hl x hx
    refine ⟨g, e, u1, u2, fun i hlt => ?_⟩
    obtain ⟨b, m, q, hc, hI⟩ := h5 x hx i hlt
    subst e
    rw [addr_add', Nat.zero_add] at hc
    obtain ⟨b', m', q', hc', hb'⟩ := u3 i hlt
    rw [hc] at hc'
    cases hc'
    cases b with
    | none => have := (hI.2.2.2.2.1 rfl).1; have := hI.1; have := h3 i hlt; omega
    | some y => exact ⟨y, m, q, hK.1 _ _ _ hc (by simp), hc, hI, hb' y rfl⟩
  refine ⟨⟨h1, h2, h3', h4, fun x hx i hlt => ?_⟩, fun x hx => ?_⟩
  · obtain ⟨g, e, u1, u2, u3⟩ := key x hx
    obtain ⟨y, m, q, hc, _, hI, f, o, e', _, _⟩ := u3 i hlt
    subst e
    refine ⟨some y, m, q, by rw [addr_add', Nat.zero_add]; exact hc, ?_⟩
    obtain ⟨i1, i2, i3, i4, i5, i6⟩ := hI
    refine ⟨i1, i2, i3, i4, i5, fun z hz j hj => ?_⟩
    have := i6 z hz j hj
    cases hz
    subst e'
    rw [addr_add'] at this ⊢
    exact hK.1 _ _ _ this (by simp)
  · obtain ⟨g, e, u1, u2, u3⟩ := key x hx
    refine ⟨g, e, u1, u2, fun i hlt => ?_⟩
    obtain ⟨y, m, q, hc, _, _, hb⟩ := u3 i hlt
    exact ⟨some y, m, q, hc, fun z hz => by cases hz; exact hb⟩
theorem GM.lv {lo hi pl tl F : Nat} {w : World} {a a' : Option Addr} (h : GM lo hi w a a' pl tl F) : LV lo hi a := fun x hx => by
  rcases h.1 with ⟨e, _⟩ | ⟨b, e, ho⟩
  · rw [e] at hx; cases hx
  · rw [e] at hx; cases hx; exact ⟨b, rfl, ho.1, ho.2.1⟩
theorem GM.lt {lo hi pl tl F : Nat} {w : World} {a a' : Option Addr} (h : GM lo hi w a a' pl tl F) : LT lo hi w a' tl := fun x hx => by
  rcases h.2.1 with ⟨e, _⟩ | ⟨R, e, k1, k2, k3, k4, k5, k6⟩
  · rw [e] at hx; cases hx
  · rw [e] at hx; cases hx
    refine ⟨R, rfl, k1, k2, fun i hlt => ?_⟩
    obtain ⟨c, hc⟩ := k5 i hlt
    exact ⟨_, _, c, hc, fun y hy => by cases hy; exact ⟨F, _, rfl, k6.1, k6.2.1⟩⟩
theorem GM.keep {lo hi pl tl F b : Nat} {w : World} {a a' : Option Addr} (h : GM lo hi w a a' pl tl F) (hb : NilBox w b) (x y : Value) : GM lo hi ((w.setCell ⟨b, 0, none⟩ x).setCell ⟨b, 1, none⟩ y) a a' pl tl F := by
  have hM : Mark b (b + 1) w ((w.setCell ⟨b, 0, none⟩ x).setCell ⟨b, 1, none⟩ y) := (Mark.set (Nat.le_refl _) (by omega)).trans (Mark.set (Nat.le_refl _) (by omega))
  have hK := hb.keep x y
  refine ⟨h.1.mark hM, h.2.1.imp id fun ⟨R, e, k1, k2, k3, k4, k5, k6⟩ => ⟨R, e, k1, k2, by rw [hK.2]; exact k3, k4, fun j hj => ?_, k6.mark hM⟩, h.2.2⟩
  obtain ⟨c, hc⟩ := k5 j hj
  exact ⟨c, hK.1 _ _ _ hc (by simp)⟩
/-- The lists of a mesh that the model made. -/
def TupS (lo : Nat) (cs : List C3) (ts : List (List Int)) (sa : Option Addr) (sc : Nat) (sa' : Option Addr) (sc' : Nat) (w : World) : Prop := IsVs w sa cs.length sc cs ∧ IsTs w sa' ts.length sc' ts ∧ LV lo w.heap.size sa ∧ LT lo w.heap.size w sa' ts.length
theorem TupS.below {lo sc sc' : Nat} {cs : List C3} {ts : List (List Int)} {sa sa' : Option Addr} {w w' : World} (h : TupS lo cs ts sa sc sa' sc' w) (hB : Below w.heap.size w w') : TupS lo cs ts sa sc sa' sc' w' :=
  ⟨h.1.below hB, h.2.1.below hB, h.2.2.1.wide (Nat.le_refl _) hB.size, (h.2.2.2.below hB).wide (Nat.le_refl _) hB.size⟩
theorem TupS.low {lo lo' sc sc' : Nat} {cs : List C3} {ts : List (List Int)} {sa sa' : Option Addr} {w : World} (h : TupS lo cs ts sa sc sa' sc' w) (hl : lo' ≤ lo) : TupS lo' cs ts sa sc sa' sc' w :=
  ⟨h.1, h.2.1, h.2.2.1.wide hl (Nat.le_refl _), h.2.2.2.wide hl (Nat.le_refl _)⟩
theorem TupS.keep {lo sc sc' b : Nat} {cs : List C3} {ts : List (List Int)} {sa sa' : Option Addr} {w : World} (h : TupS lo cs ts sa sc sa' sc' w) (h3 : ∀ j, j < ts.length → (ts.getD j []).length = 3) (hb : NilBox w b) (x y : Value) : TupS lo cs ts sa sc sa' sc' ((w.setCell ⟨b, 0, none⟩ x).setCell ⟨b, 1, none⟩ y) := by
  have hK := hb.keep x y
  obtain ⟨k1, k2⟩ := ts_keep h.2.1 h.2.2.2 h3 hK
  exact ⟨vs_keep h.1 h.2.2.1 hK, k1, by rw [hK.2]; exact h.2.2.1, by rw [hK.2]; exact k2⟩
/-- The lists of a mesh that the program made. -/
def TupG (lo : Nat) (cs : List C3) (ts : List (List Int)) (sa : Option Addr) (sc : Nat) (sa' : Option Addr) (sc' : Nat) (w : World) : Prop := ∃ F, IsVs w sa cs.length sc cs ∧ IsTs w sa' ts.length sc' ts ∧ GM lo w.heap.size w sa sa' cs.length ts.length F
theorem TupG.below {lo sc sc' : Nat} {cs : List C3} {ts : List (List Int)} {sa sa' : Option Addr} {w w' : World} (h : TupG lo cs ts sa sc sa' sc' w) (hB : Below w.heap.size w w') : TupG lo cs ts sa sc sa' sc' w' := by
  obtain ⟨F, h1, h2, h3⟩ := h
  exact ⟨F, h1.below hB, h2.below hB, (h3.below hB).wide (Nat.le_refl _) hB.size⟩
theorem TupG.low {lo lo' sc sc' : Nat} {cs : List C3} {ts : List (List Int)} {sa sa' : Option Addr} {w : World} (h : TupG lo cs ts sa sc sa' sc' w) (hl : lo' ≤ lo) : TupG lo' cs ts sa sc sa' sc' w := by
  obtain ⟨F, h1, h2, h3⟩ := h
  exact ⟨F, h1, h2, h3.wide hl (Nat.le_refl _)⟩
theorem TupG.keep {lo sc sc' b : Nat} {cs : List C3} {ts : List (List Int)} {sa sa' : Option Addr} {w : World} (h : TupG lo cs ts sa sc sa' sc' w) (h3 : ∀ j, j < ts.length → (ts.getD j []).length = 3) (hb : NilBox w b) (x y : Value) : TupG lo cs ts sa sc sa' sc' ((w.setCell ⟨b, 0, none⟩ x).setCell ⟨b, 1, none⟩ y) := by
  obtain ⟨F, h1, h2, hG⟩ := h
  have hK := hb.keep x y
  obtain ⟨k1, _⟩ := ts_keep h2 hG.lt h3 hK
  exact ⟨F, vs_keep h1 hG.lv hK, k1, by rw [hK.2]; exact hG.keep hb x y⟩
theorem Made.tup {w w' : World} {e : Ending} {ok : Bool} {cs : List C3} {ts : List (List Int)} (h : Made w w' e ok cs ts) : (∃ sa sc sa' sc', e = .returned (.tuple #[.agg #[.slice sa cs.length sc, .slice sa' ts.length sc'], .bool ok]) ∧ TupS w.heap.size cs ts sa sc sa' sc' w') ∧ Below w.heap.size w w' := by
  obtain ⟨⟨a, c, a', c', e, h1, h2, h3, h4⟩, hB⟩ := h
  exact ⟨⟨a, c, a', c', e, h1, h2, h3, h4⟩, hB⟩
theorem MadeG.tup {w w' : World} {e : Ending} {ok : Bool} {cs : List C3} {ts : List (List Int)} (h : MadeG w w' e ok cs ts) : (∃ sa sc sa' sc', e = .returned (.tuple #[.agg #[.slice sa cs.length sc, .slice sa' ts.length sc'], .bool ok]) ∧ TupG w.heap.size cs ts sa sc sa' sc' w') ∧ Below w.heap.size w w' := by
  obtain ⟨⟨a, c, a', c', F, e, h1, h2, h3⟩, hB⟩ := h
  exact ⟨⟨a, c, a', c', e, F, h1, h2, h3⟩, hB⟩
theorem vec_any' (lo hi : Nat) (a : Option Addr) (n cap : Nat) (k0 : Nat) (w : World) (h : Lst lo hi w a (n * 3)) (hn : n ≤ 1000000) (hk : k0 ≤ 1000000) :
    Calls Try.prog 46 #[.slice a n cap, .int .i64 k0] w fun e w' => e = .returned (.int .i64 ((k0 + n * 3 : Nat) : Int)) ∧ ((a = none ∧ n = 0) ∨ ∃ P, a = some ⟨P, 0, none⟩ ∧ ∀ j, j < n * 3 → w'.cell? ⟨P, 0 + j, none⟩ = some (.float .f32 (floatOfInt .f32 ((k0 + j : Nat) : Int)))) ∧ (∀ b i, (n = 0 ∨ a ≠ some ⟨b, 0, none⟩) → w'.cell? ⟨b, i, none⟩ = w.cell? ⟨b, i, none⟩) ∧ Mark lo hi w w' := by
  rcases h with ⟨rfl, h0⟩ | ⟨b, rfl, hown⟩
  · refine (vec_any lo hi none n cap k0 w (.inl ⟨rfl, h0⟩) hn hk).mono ?_
    rintro e w' ⟨he, hd, ho, hM⟩
    exact ⟨he, hd, fun b i _ => ho b i (by simp), hM⟩
  · refine (laws_markVectorS lo hi b 0 n cap k0 w hown (by omega)).mono ?_
    rintro e w' ⟨he, hd, ho, hM⟩
    refine ⟨he, .inr ⟨b, rfl, hd⟩, fun c i hc => ho c i ?_, hM⟩
    rcases hc with rfl | hc
    · exact .inr (.inr (by omega))
    · exact .inl (fun h => hc (by rw [h]))
theorem flat_any' (lo hi : Nat) (a : Option Addr) (n cap F : Nat) (k0 : Nat) (w : World) (h : Flat lo hi w a n F) (hn : n ≤ 1000000) (hk : k0 ≤ 1000000000) :
    Calls Try.prog 86 #[.slice a n cap, .int .i64 k0] w fun e w' => e = .returned (.int .i64 ((k0 + n * 3 : Nat) : Int)) ∧ ((a = none ∧ n = 0) ∨ ∃ R, a = some ⟨R, 0, none⟩ ∧ FlatRows w' R F n ∧ ∀ j, j < n * 3 → w'.cell? ⟨F, j, none⟩ = some (.int .i64 ((k0 + j : Nat) : Int))) ∧ (∀ b i, (n = 0 ∨ b ≠ F) → w'.cell? ⟨b, i, none⟩ = w.cell? ⟨b, i, none⟩) ∧ Mark lo hi w w' := by
  by_cases h0 : n = 0
  · subst h0
    have hd : (a = none ∧ (0 : Nat) = 0) ∨ ∃ R, a = some ⟨R, 0, none⟩ ∧ FlatRows w R F 0 ∧ ∀ j, j < 0 * 3 → w.cell? ⟨F, j, none⟩ = some (.int .i64 ((k0 + j : Nat) : Int)) := h.imp (fun h => ⟨h.1, rfl⟩) fun ⟨R, e, _⟩ => ⟨R, e, fun j hj => absurd hj (by omega), fun j hj => absurd hj (by omega)⟩
    have HD := Lib.hid hd
    clear hd h
    go_enter Try.func86, Try.ntmps86
    go_wp2
    refine wp_loop_rounds 1 ?_
    rw [rounds_succ]
    go_wp2
    go_ret
    refine ⟨by simp, by first | exact HD.out | simpa using HD.out, ?_, Mark.refl _ _ _⟩
    first | exact fun _ _ _ => rfl | simp
  · refine (flat_any lo hi a n cap F k0 w h hn hk).mono ?_
    rintro e w' ⟨he, hd, ho, hM⟩
    exact ⟨he, hd, fun b i hb => ho b i (hb.resolve_left h0), hM⟩
theorem mark_gm' (lo hi : Nat) (pa ta : Option Addr) (pl pc tl tc F : Nat) (w : World) (h : GM lo hi w pa ta pl tl F) (hlo : lo ≤ w.heap.size) (h1 : pl ≤ 1000) (h2 : tl ≤ 1000) :
    Calls Try.prog 27 #[.agg #[.slice pa pl pc, .slice ta tl tc], .int .i64 1] w fun e w' => e = .returned (.int .i64 ((1 + pl * 3 + tl * 3 : Nat) : Int)) ∧ MrkM w' pa ta pl tl F ∧ Mark lo hi w w' ∧ ∀ b i v, w.cell? ⟨b, i, none⟩ = some v → (pl = 0 ∨ pa ≠ some ⟨b, 0, none⟩) → (tl = 0 ∨ b ≠ F) → w'.cell? ⟨b, i, none⟩ = some v := by
  have ui := Try.underlying32
  have hA : Mark lo hi w (w.alloc (.cells #[.slice pa pl pc, .slice ta tl tc] 32)) := Mark.alloc hlo _
  have a1 : (w.alloc (.cells #[.slice pa pl pc, .slice ta tl tc] 32)).cell? ⟨w.heap.size, 1, none⟩ = some (.slice ta tl tc) := by go_simp
  have a0 : (w.alloc (.cells #[.slice pa pl pc, .slice ta tl tc] 32)).cell? ⟨w.heap.size, 0, none⟩ = some (.slice pa pl pc) := by go_simp
  have nP : pa ≠ some ⟨w.heap.size, 0, none⟩ := fun e => by
    rcases h.1 with ⟨e', _⟩ | ⟨b, e', ho⟩
    · rw [e'] at e; cases e
    · rw [e'] at e; cases e; exact absurd ho.2.2.1 (Nat.lt_irrefl _)
  have hG := h.below ((Below.refl _ _).alloc (Nat.le_refl _) (.cells #[.slice pa pl pc, .slice ta tl tc] 32))
  have HV := Lib.hid (vec_any' lo hi pa pl pc 1 _ hG.1 (by omega) (by omega))
  have HF := Lib.hid hG.2.1
  have HN := Lib.hid hG.2.2
  have HA := Lib.hid hA
  have HNP := Lib.hid nP
  have HCA := Lib.hid (fun (b i : Nat) (v : Value) (hv : w.cell? ⟨b, i, none⟩ = some v) => cell_alloc (o := (.cells #[.slice pa pl pc, .slice ta tl tc] 32)) hv)
  clear h hA hG nP
  generalize hCH : w.alloc (.cells #[.slice pa pl pc, .slice ta tl tc] 32) = W at *
  go_enter Try.func27, Try.ntmps27
  go_wp2_with fail
  refine HV.out.mono ?_
  rintro e w1 ⟨rfl, hd, ho, hM1⟩
  have a1' : w1.cell? ⟨w.heap.size, 1, none⟩ = some (.slice ta tl tc) := (ho _ _ (.inr HNP.out)).trans a1
  have hF1 : Flat lo hi w1 ta tl F := HF.out.mark hM1 (fun R hR i v hv => by
    refine (ho _ _ (.inr (fun hp => ?_))).trans hv
    exact (HN.out _ hp).2 _ hR rfl)
  have HF1 := Lib.hid (flat_any' lo hi ta tl tc F (1 + pl * 3) w1 hF1 (by omega) (by omega))
  have HD := Lib.hid hd
  have HO1 := Lib.hid ho
  have HM1 := Lib.hid (HA.out.trans hM1)
  clear ho hM1 a0 a1 HV HF hCH hd hF1
  generalize hq : 1 + pl * 3 = q at *
  have hq' : q ≤ 10000 := by omega
  go_wp2_with fail
  refine HF1.out.mono ?_
  rintro e w2 ⟨rfl, hd2, ho2, hM2⟩
  have HD2 := Lib.hid hd2
  have HO2 := Lib.hid ho2
  have HM2 := Lib.hid hM2
  clear hd2 ho2 hM2
  go_wp2
  go_ret
  refine ⟨by rw [show 1 + pl * 3 + tl * 3 = q + tl * 3 by omega]; rfl, ⟨?_, ?_⟩, HM1.out.trans HM2.out, fun b i v hv k1 k2 => ?_⟩
  · exact HD.out.imp id fun ⟨P, e, hc⟩ => ⟨P, e, fun j hj => (HO2.out P (0 + j) (.inr (HN.out _ e).1)).trans (hc j hj)⟩
  · first | exact HD2.out | (rw [hq]; exact HD2.out) | (subst hq; exact HD2.out)
  · exact (HO2.out b i k2).trans ((HO1.out b i k1).trans (HCA.out b i v hv))
/-- A box for a mesh is none of the blocks that are marked. -/
theorem gm_box {lo hi n m c c' F B k q : Nat} {w : World} {a a' x : Option Addr} {cs : List C3} {ts : List (List Int)} (hI : IsVs w a n c cs) (hT : IsTs w a' m c' ts) (hG : GM lo hi w a a' n m F) (h3 : ∀ j, j < m → (ts.getD j []).length = 3) (h0 : w.cell? ⟨B, 0, none⟩ = some (.slice x k q)) : (n = 0 ∨ a ≠ some ⟨B, 0, none⟩) ∧ (m = 0 ∨ B ≠ F) := by
  constructor
  · by_cases hn : n = 0
    · exact .inl hn
    · refine .inr fun e => ?_
      obtain ⟨p, _, _, k0, _⟩ := hI.2.2.2.2 _ e 0 (by omega)
      rw [addr_add', Nat.zero_mul, Nat.add_zero, h0] at k0
      cases k0
  · by_cases hm : m = 0
    · exact .inl hm
    · refine .inr ?_
      rintro rfl
      rcases hG.2.1 with ⟨_, e⟩ | ⟨R, e, _, _, _, _, k5, _⟩
      · exact hm e
      · obtain ⟨q', hc⟩ := k5 0 (by omega)
        obtain ⟨b, l, q2, hc2, hI2⟩ := hT.2.2.2.2 _ e 0 (by omega)
        rw [addr_add', Nat.zero_add, hc] at hc2
        cases hc2
        have := hI2.2.2.2.2.2 _ rfl 0 (by omega)
        rw [addr_add', Nat.zero_mul, Nat.add_zero, h0] at this
        cases this
theorem eval_put_ne {a : Act} {d : Option Tmp} {v : Value} {t : Tmp} (h : d ≠ some t) : (a.put d v).eval (.tmp t) = a.eval (.tmp t) := Act.eval_put (fun d' hd he => h (by rw [hd]; cases he; rfl))
end Go.Proofs.Ytljpjmkickkcpab

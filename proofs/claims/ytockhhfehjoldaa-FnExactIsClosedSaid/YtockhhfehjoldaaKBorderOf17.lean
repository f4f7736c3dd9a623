/-
Texts in one: what BorderOf stands on, part 17. Conditions: those of each.
-/
import Derived.Test.YtockhhfehjoldaaKBorderOf16
import Derived.Lib.SliceRun
import Derived.Handy

/-
Marks in bodies that a function made: what is written is there, and nothing else turns. Conditions: none beyond their sizes.
-/
namespace Go.Proofs.Ytockhhfehjoldaa
open Go Fk Go.RowKit
set_option linter.unusedVariables false
set_option maxRecDepth 8000

theorem Lst.agree {S : Nat → Prop} {W w : World} {lo hi n : Nat} {a : Option Addr} (h : Lst lo hi W a n) (hS : ∀ b, lo ≤ b → b < hi → S b) (hA : Agree S W w) : Lst lo hi w a n :=
  h.imp id fun ⟨b, e, ho⟩ => ⟨b, e, ho.agree hS hA⟩
theorem GM.agree {S : Nat → Prop} {W w : World} {lo hi pl tl F : Nat} {pa ta : Option Addr} (h : GM lo hi W pa ta pl tl F) (hS : ∀ b, lo ≤ b → b < hi → S b) (hA : Agree S W w) : GM lo hi w pa ta pl tl F :=
  ⟨h.1.agree hS hA, h.2.1.imp id fun ⟨R, e, h1, h2, h3, h4, h5, h6⟩ => ⟨R, e, h1, h2, Nat.lt_of_lt_of_le h3 hA.size, h4, h5.same (fun i v hv => hA.cell _ _ _ (hS R h1 h2) hv), h6.agree hS hA⟩, h.2.2⟩
def SprM (w : World) (a : Option Addr) (n q : Nat) : Prop := (a = none ∧ n = 0) ∨ ∃ P, a = some ⟨P, 0, none⟩ ∧ ∀ j, j < n * 4 → w.cell? ⟨P, 0 + j, none⟩ = some (spV ((q + j : Nat) : Int) j)
def FlM (w : World) (a : Option Addr) (n q : Nat) : Prop := (a = none ∧ n = 0) ∨ ∃ P, a = some ⟨P, 0, none⟩ ∧ ∀ j, j < n → w.cell? ⟨P, 0 + j, none⟩ = some (.float .f32 (floatOfInt .f32 ((q + j : Nat) : Int)))
/-- A body that a function made: its lists lie in blocks of their own. -/
def GB (lo hi : Nat) (w : World) (B : Bd) (F : Nat) : Prop :=
  GM lo hi w B.pa B.ta B.pl B.tl F ∧ Lst lo hi w B.sa (B.sl * 4) ∧ Lst lo hi w B.wa B.wl ∧
  (∀ X, B.sa = some ⟨X, 0, none⟩ → X ≠ F ∧ B.pa ≠ some ⟨X, 0, none⟩ ∧ B.ta ≠ some ⟨X, 0, none⟩ ∧ B.wa ≠ some ⟨X, 0, none⟩) ∧
  (∀ X, B.wa = some ⟨X, 0, none⟩ → X ≠ F ∧ B.pa ≠ some ⟨X, 0, none⟩ ∧ B.ta ≠ some ⟨X, 0, none⟩)
theorem GB.agree {S : Nat → Prop} {W w : World} {lo hi F : Nat} {B : Bd} (h : GB lo hi W B F) (hS : ∀ b, lo ≤ b → b < hi → S b) (hA : Agree S W w) : GB lo hi w B F :=
  ⟨h.1.agree hS hA, h.2.1.agree hS hA, h.2.2.1.agree hS hA, h.2.2.2⟩
theorem GB.below {W w : World} {lo hi F : Nat} {B : Bd} (h : GB lo hi W B F) (hB : Below W.heap.size W w) : GB lo hi w B F :=
  h.agree (S := fun _ => True) (fun _ _ _ => trivial) (Agree.of_below hB)
theorem lst_lv {lo hi n : Nat} {w : World} {a : Option Addr} (h : Lst lo hi w a n) : LV lo hi a := fun x hx => by
  rcases h with ⟨e, _⟩ | ⟨b, e, ho⟩
  · rw [e] at hx; cases hx
  · rw [e] at hx; cases hx; exact ⟨b, rfl, ho.1, ho.2.1⟩
theorem GB.lb {lo hi F : Nat} {w : World} {B : Bd} (h : GB lo hi w B F) : LB lo hi w B := ⟨h.1.lv, h.1.lt, lst_lv h.2.1, lst_lv h.2.2.1⟩
theorem lst_lt {lo hi n : Nat} {w : World} {a : Option Addr} (h : Lst lo hi w a n) {X : Nat} (e : a = some ⟨X, 0, none⟩) : X < w.heap.size := by
  rcases h with ⟨e', _⟩ | ⟨b, e', ho⟩
  · rw [e'] at e; cases e
  · rw [e'] at e; cases e; exact ho.2.2.1
/-- The marks of a body that were written are there. -/
def MrkB (w : World) (B : Bd) (F : Nat) : Prop := MrkM w B.pa B.ta B.pl B.tl F ∧ SprM w B.sa B.sl (1 + B.pl * 3 + B.tl * 3) ∧ FlM w B.wa B.wl (1 + B.pl * 3 + B.tl * 3 + B.sl * 4)
theorem MrkM.same {w w' : World} {pa ta : Option Addr} {pl tl F : Nat} (h : MrkM w pa ta pl tl F) (hk : ∀ b i v, w.cell? ⟨b, i, none⟩ = some v → (pa = some ⟨b, 0, none⟩ ∨ ta = some ⟨b, 0, none⟩ ∨ b = F) → w'.cell? ⟨b, i, none⟩ = some v) : MrkM w' pa ta pl tl F := by
  obtain ⟨h1, h2⟩ := h
  refine ⟨h1.imp id fun ⟨P, e, hc⟩ => ⟨P, e, fun j hj => hk _ _ _ (hc j hj) (.inl e)⟩, h2.imp id fun ⟨R, e, hf, hc⟩ => ⟨R, e, hf.same (fun i v hv => hk _ _ _ hv (.inr (.inl e))), fun j hj => hk _ _ _ (hc j hj) (.inr (.inr rfl))⟩⟩
theorem SprM.same {w w' : World} {a : Option Addr} {n q : Nat} (h : SprM w a n q) (hk : ∀ b i v, w.cell? ⟨b, i, none⟩ = some v → a = some ⟨b, 0, none⟩ → w'.cell? ⟨b, i, none⟩ = some v) : SprM w' a n q :=
  h.imp id fun ⟨P, e, hc⟩ => ⟨P, e, fun j hj => hk _ _ _ (hc j hj) e⟩
theorem FlM.same {w w' : World} {a : Option Addr} {n q : Nat} (h : FlM w a n q) (hk : ∀ b i v, w.cell? ⟨b, i, none⟩ = some v → a = some ⟨b, 0, none⟩ → w'.cell? ⟨b, i, none⟩ = some v) : FlM w' a n q :=
  h.imp id fun ⟨P, e, hc⟩ => ⟨P, e, fun j hj => hk _ _ _ (hc j hj) e⟩
theorem MrkB.same {w w' : World} {B : Bd} {F : Nat} (h : MrkB w B F) (hk : ∀ b i v, w.cell? ⟨b, i, none⟩ = some v → (B.pa = some ⟨b, 0, none⟩ ∨ B.ta = some ⟨b, 0, none⟩ ∨ b = F ∨ B.sa = some ⟨b, 0, none⟩ ∨ B.wa = some ⟨b, 0, none⟩) → w'.cell? ⟨b, i, none⟩ = some v) : MrkB w' B F :=
  ⟨h.1.same fun b i v hv hb => hk b i v hv (by rcases hb with e | e | e; exact .inl e; exact .inr (.inl e); exact .inr (.inr (.inl e))), h.2.1.same fun b i v hv e => hk b i v hv (.inr (.inr (.inr (.inl e)))), h.2.2.same fun b i v hv e => hk b i v hv (.inr (.inr (.inr (.inr e))))⟩
theorem MrkB.below {w w' : World} {B : Bd} {F : Nat} (h : MrkB w B F) (hB : Below w.heap.size w w') : MrkB w' B F := h.same fun _ _ _ hv _ => cell_below hB hv
end Go.Proofs.Ytockhhfehjoldaa


/-
Meshes that are turned over: what the program makes. Conditions: none.
-/
namespace Go.Proofs.Ytockhhfehjoldaa
open Go Fk Go.RowKit
set_option linter.unusedVariables false
set_option maxRecDepth 8000
def turnRow (t : List Int) : List Int := [t.getD 0 0, t.getD 2 0, t.getD 1 0]
/-- The first k rows are turned, the others are as they were. -/
def mixT (ts : List (List Int)) (k : Nat) : List (List Int) := (ts.take k).map turnRow ++ ts.drop k
theorem mixT_zero (ts : List (List Int)) : mixT ts 0 = ts := by simp [mixT]
theorem mixT_len (ts : List (List Int)) (k : Nat) : (mixT ts k).length = ts.length := by
  unfold mixT; simp; omega
theorem mixT_all (ts : List (List Int)) : mixT ts ts.length = ts.map turnRow := by unfold mixT; simp
theorem mixT_get (ts : List (List Int)) (k j : Nat) (hk : k ≤ ts.length) (hj : j < ts.length) : (mixT ts k).getD j [] = if j < k then turnRow (ts.getD j []) else ts.getD j [] := by
  unfold mixT
  by_cases h : j < k
  · rw [if_pos h]
    simp only [List.getD]
    rw [List.getElem?_append_left (by simp; omega), List.getElem?_map, List.getElem?_take_of_lt h]
    simp [hj]
  · rw [if_neg h]
    have : ((ts.take k).map turnRow).length = k := by simp; omega
    simp only [List.getD]
    rw [List.getElem?_append_right (by omega), this, List.getElem?_drop, show k + (j - k) = j by omega]
def rTt (cs : List C3) (ts : List (List Int)) : List (List Int) := if validB cs ts = true then ts.map turnRow else []
theorem rTt_no {cs : List C3} {ts : List (List Int)} (h : validB cs ts = false) : rTt cs ts = [] := by unfold rTt; rw [if_neg (by rw [h]; decide)]
theorem rTt_yes {cs : List C3} {ts : List (List Int)} (h : validB cs ts = true) : rTt cs ts = ts.map turnRow := by unfold rTt; rw [if_pos h]
theorem turn_wf {t : List Int} (h : ∀ z ∈ t, (Lit.int .i64 z).wf = true) (h3 : t.length = 3) : ∀ z ∈ turnRow t, (Lit.int .i64 z).wf = true := by
  intro z hz
  match t, h3 with
  | [x, y, u], _ =>
    simp [turnRow] at hz
    rcases hz with rfl | rfl | rfl <;> exact h _ (by simp)
theorem mixT_wf {ts : List (List Int)} {n k : Nat} (hn : ts.length = n) (hk : k ≤ n) (h3 : ∀ j, j < n → (ts.getD j []).length = 3) (h : ∀ j, j < n → ∀ z ∈ ts.getD j [], (Lit.int .i64 z).wf = true) : ∀ j, j < n → ∀ z ∈ (mixT ts k).getD j [], (Lit.int .i64 z).wf = true := fun j hj => by
  rw [mixT_get ts k j (by omega) (by omega)]
  by_cases hjk : j < k
  · rw [if_pos hjk]; exact turn_wf (h j hj) (h3 j hj)
  · rw [if_neg hjk]; exact h j hj
theorem mixT_3 {ts : List (List Int)} {n k : Nat} (hn : ts.length = n) (hk : k ≤ n) (h3 : ∀ j, j < n → (ts.getD j []).length = 3) : ∀ j, j < n → ((mixT ts k).getD j []).length = 3 := fun j hj => by
  rw [mixT_get ts k j (by omega) (by omega)]
  by_cases hjk : j < k
  · rw [if_pos hjk]; rfl
  · rw [if_neg hjk]; exact h3 j hj
end Go.Proofs.Ytockhhfehjoldaa


/-
Copies of lists of springs and of numbers that slices.Clone makes. Conditions: at most 2^20 of them.
-/
namespace Go.Proofs.Ytockhhfehjoldaa
open Go Fk Go.RowKit
set_option linter.unusedVariables false
set_option maxRecDepth 8000

def SPV (n : Nat) (xs : List Value) (ss : List SC) : Prop := ∀ j, j < n → ∃ p q, xs[j * 4]? = some (.int .i64 (ss.getD j s0).1) ∧ xs[j * 4 + 1]? = some (.int .i64 (ss.getD j s0).2.1) ∧ xs[j * 4 + 2]? = some (.float .f32 p) ∧ xs[j * 4 + 3]? = some (.float .f32 q) ∧ FV .f32 p (ss.getD j s0).2.2.1 ∧ FV .f32 q (ss.getD j s0).2.2.2
def FPV (n : Nat) (xs : List Value) (zs : List Nat) : Prop := ∀ j, j < n → xs[j]? = some (.float .f32 (zs.getD j 0))
theorem ss_cells {w : World} {a : Option Addr} {n cap : Nat} {ss : List SC} (h : IsSs w a n cap ss) : ∃ xs : List Value, xs.length = n * 4 ∧ (∀ ad, a = some ad → ∀ j u, xs[j]? = some u → w.cell? (ad.add j) = some u) ∧ (∀ u ∈ xs, u.oneCell' = true) ∧ SPV n xs ss := by
  obtain ⟨h1, h2, h3, h4', h4, h5⟩ := h
  cases a with
  | none =>
    obtain ⟨rfl, _⟩ := h4 rfl
    exact ⟨[], rfl, ⟨fun _ had => (by cases had), fun u hu => absurd hu (by simp), fun j hj => absurd hj (by omega)⟩⟩
  | some x =>
    have hc : ∀ j, j < n * 4 → ∃ u, w.cell? (x.add j) = some u ∧ u.oneCell' = true := by
      intro j hj
      obtain ⟨p, q, k0, k1, k2, k3, _⟩ := h5 x rfl (j / 4) (by omega)
      have : j = j / 4 * 4 ∨ j = j / 4 * 4 + 1 ∨ j = j / 4 * 4 + 2 ∨ j = j / 4 * 4 + 3 := by omega
      rcases this with e | e | e | e
      · exact ⟨_, by rw [e]; exact k0, rfl⟩
      · exact ⟨_, by rw [e]; exact k1, rfl⟩
      · exact ⟨_, by rw [e]; exact k2, rfl⟩
      · exact ⟨_, by rw [e]; exact k3, rfl⟩
    refine ⟨(List.range (n * 4)).map fun j => (w.cell? (x.add j)).getD undef, by simp, fun ad had j u hu => ?_, fun u hu => ?_, fun j hj => ?_⟩
    · cases had
      have hj : j < n * 4 := by have := (List.getElem?_eq_some_iff.1 hu).1; simpa using this
      obtain ⟨p, hp, _⟩ := hc j hj
      simp [hj, hp] at hu
      rw [hp, ← hu]
    · obtain ⟨j, hj, rfl⟩ := List.mem_map.1 hu
      obtain ⟨p, hp, ho⟩ := hc j (List.mem_range.1 hj)
      rw [hp]; exact ho
    · obtain ⟨p, q, k0, k1, k2, k3, hf⟩ := h5 x rfl j hj
      have g0 : j * 4 < n * 4 := by omega
      have g1 : j * 4 + 1 < n * 4 := by omega
      have g2 : j * 4 + 2 < n * 4 := by omega
      have g3 : j * 4 + 3 < n * 4 := by omega
      exact ⟨p, q, by simp [g0, k0], by simp [g1, k1], by simp [g2, k2], by simp [g3, k3], hf⟩
theorem fs_cells {w : World} {a : Option Addr} {n cap : Nat} {zs : List Nat} (h : IsFs .f32 w a n cap zs) : ∃ xs : List Value, xs.length = n * 1 ∧ (∀ ad, a = some ad → ∀ j u, xs[j]? = some u → w.cell? (ad.add j) = some u) ∧ (∀ u ∈ xs, u.oneCell' = true) ∧ FPV n xs zs := by
  obtain ⟨h1, h2, h3, h4', h4, h5⟩ := h
  refine ⟨zs.map (.float .f32), by simp [h1], fun ad had j u hu => ?_, fun u hu => ?_, fun j hj => ?_⟩
  · have hj : j < n := by have := (List.getElem?_eq_some_iff.1 hu).1; rw [← h1]; simpa using this
    have := h5 ad had j hj
    rw [this, ← hu]
    have hz : j < zs.length := by omega
    simp [List.getD, hz]
  · obtain ⟨z, _, rfl⟩ := List.mem_map.1 hu
    rfl
  · have hz : j < zs.length := by omega
    simp [List.getD, hz]
theorem lst_of_ownsG {w : World} {base size n c : Nat} {e : TypeId} {a : Option Addr} {xs : List Value} (h : w.ownsRow base e size (.slice a n c) n xs) : Lst base w.heap.size w a (n * size) := by
  have h' := h
  rcases h.2 with ⟨e, e0⟩ | ⟨g, cap, cur, e, hb, hh, hc1, hc2, hs, ht⟩
  · cases e; exact .inl ⟨rfl, by rw [e0, Nat.zero_mul]⟩
  · obtain ⟨g1, g2⟩ := h'.lt g (by rw [e]; rfl)
    cases e
    refine .inr ⟨g, rfl, g1, g2, g2, fun j hj => ⟨?_, by rw [Nat.zero_add]; exact h'.frozenAt j⟩⟩
    rw [Nat.zero_add, h'.cellAt j hj]
    have : j < xs.length := by rw [h'.1]; exact hj
    exact ⟨_, List.getElem?_eq_getElem this⟩
theorem fs_of_owns {w : World} {base n : Nat} {v : Value} {xs : List Value} {zs : List Nat} (h : w.ownsRow base 86 1 v n xs) (hn : zs.length = n) (hp : FPV n xs zs) (hwf : ∀ z ∈ zs, z < 2 ^ FloatKind.f32.format.width) : ∃ a cap, v = .slice a n cap ∧ IsFs .f32 w a n cap zs ∧ Lst base w.heap.size w a n := by
  have h' := h
  rcases h.2 with ⟨rfl, hn0⟩ | ⟨g, cap, cur, rfl, hb, hh, hc1, hc2, hs, ht⟩
  · exact ⟨none, 0, by rw [hn0], ⟨hn, by omega, by unfold maxLen; omega, hwf, fun _ => ⟨hn0, rfl⟩, fun x hx => by cases hx⟩, .inl ⟨rfl, by omega⟩⟩
  · refine ⟨_, cap, rfl, ⟨hn, hc1, hc2, hwf, by simp, fun x hx i hi => ?_⟩, by have := lst_of_ownsG h'; rwa [Nat.mul_one] at this⟩
    cases hx
    rw [addr_add', Nat.zero_add, h'.cellAt _ (by omega)]
    exact hp i hi
end Go.Proofs.Ytockhhfehjoldaa


/-
A box that is filled, and the result's box. Conditions: none.
-/
namespace Go.Proofs.Ytockhhfehjoldaa
open Go Fk Go.RowKit
set_option linter.unusedVariables false
set_option maxRecDepth 8000

structure Tc (w : World) (bo br : Nat) (lo lr : List Value) (w1 : World) : Prop where
  out : At w1 bo lo
  res : At w1 br lr
  fo : ∀ i, w1.frozen? ⟨bo, i, none⟩ = false
  fr : ∀ i, w1.frozen? ⟨br, i, none⟩ = false
  bel : Below w.heap.size w w1
  ge : w.heap.size ≤ bo ∧ w.heap.size ≤ br ∧ bo ≠ br
  lt : bo < w1.heap.size ∧ br < w1.heap.size
theorem Tc.call {w w1 w2 : World} {bo br : Nat} {lo lr : List Value} (h : Tc w bo br lo lr w1) (hB : Below w1.heap.size w1 w2) : Tc w bo br lo lr w2 :=
  ⟨h.out.below hB, h.res.below hB, fun i => by rw [hB.frozen (p := ⟨bo, i, none⟩) h.lt.1]; exact h.fo i,
    fun i => by rw [hB.frozen (p := ⟨br, i, none⟩) h.lt.2]; exact h.fr i, h.bel.trans (hB.mono h.bel.size), h.ge, Nat.lt_of_lt_of_le h.lt.1 hB.size, Nat.lt_of_lt_of_le h.lt.2 hB.size⟩
theorem Tc.put {w w1 : World} {bo br : Nat} {lo lr vs : List Value} (h : Tc w bo br lo lr w1) (o : Nat) (hl : o + vs.length ≤ lo.length) : Tc w bo br (lo.take o ++ vs ++ lo.drop (o + vs.length)) lr (setL w1 bo o vs) :=
  ⟨at_setL h.out hl, at_setL_far h.res h.ge.2.2, fun i => by rw [setL_frozen]; exact h.fo i, fun i => by rw [setL_frozen]; exact h.fr i,
    setL_below _ h.ge.1 _ _ _ h.bel, h.ge, by rw [setL_size]; exact h.lt⟩
theorem Tc.fin {w w1 : World} {bo br : Nat} {lo lr vs' : List Value} (h : Tc w bo br lo lr w1) (hl : vs'.length = lr.length) : At (setL w1 br 0 vs') br vs' ∧ Below w.heap.size w (setL w1 br 0 vs') := by
  refine ⟨?_, setL_below _ h.ge.2.1 _ _ _ h.bel⟩
  have := at_setL (vs := vs') (o := 0) h.res (by omega)
  simpa [hl] using this
/-- All blocks but the two that are filled. -/
def Sy (bo br b : Nat) : Prop := b ≠ bo ∧ b ≠ br
theorem Sy.out {bo br : Nat} : ¬ Sy bo br bo := fun h => h.1 rfl
theorem Sy.res {bo br : Nat} : ¬ Sy bo br br := fun h => h.2 rfl
theorem Sy.new {bo br lo hi : Nat} (h1 : bo < lo) (h2 : br < lo) : ∀ b, lo ≤ b → b < hi → Sy bo br b := fun b k1 _ => ⟨by omega, by omega⟩
theorem GM.widen {lo hi lo' hi' pl tl F : Nat} {w : World} {pa ta : Option Addr} (h : GM lo hi w pa ta pl tl F) (h1 : lo' ≤ lo) (h2 : hi ≤ hi') : GM lo' hi' w pa ta pl tl F :=
  ⟨h.1.imp id fun ⟨b, e, ho⟩ => ⟨b, e, ho.widen h1 h2⟩, h.2.1.imp id fun ⟨R, e, k1, k2, k3, k4, k5, k6⟩ => ⟨R, e, by omega, by omega, k3, k4, k5, k6.widen h1 h2⟩, h.2.2⟩
theorem lst_widen {lo hi lo' hi' n : Nat} {w : World} {a : Option Addr} (h : Lst lo hi w a n) (h1 : lo' ≤ lo) (h2 : hi ≤ hi') : Lst lo' hi' w a n :=
  h.imp id fun ⟨b, e, ho⟩ => ⟨b, e, ho.widen h1 h2⟩
/-- Parts that lie apart make a body that was made. -/
theorem gb_of {lo h1 h2 h3 h4 F : Nat} {w : World} {B : Bd} (m : GM lo h1 w B.pa B.ta B.pl B.tl F) (hF : F < h1 ∨ B.tl = 0) (s : Lst h1 h2 w B.sa (B.sl * 4)) (g : Lst h2 h3 w B.wa B.wl) (h12 : h1 ≤ h2) (h23 : h2 ≤ h3) (h34 : h3 ≤ h4) (hlo : lo ≤ h1) (hF' : F < h1) : GB lo h4 w B F := by
  have lp := lst_lv m.1
  have lt := m.lt
  have ls := lst_lv s
  have lg := lst_lv g
  refine ⟨m.widen (Nat.le_refl _) (by omega), lst_widen s (by omega) (by omega), lst_widen g (by omega) (by omega), fun X e => ?_, fun X e => ?_⟩
  · obtain ⟨x, ex, x1, x2⟩ := ls _ e
    cases ex
    refine ⟨by omega, fun e' => ?_, fun e' => ?_, fun e' => ?_⟩
    · obtain ⟨y, ey, y1, y2⟩ := lp _ e'; cases ey; omega
    · obtain ⟨y, ey, y1, y2, _⟩ := lt _ e'; cases ey; omega
    · obtain ⟨y, ey, y1, y2⟩ := lg _ e'; cases ey; omega
  · obtain ⟨x, ex, x1, x2⟩ := lg _ e
    cases ex
    refine ⟨by omega, fun e' => ?_, fun e' => ?_⟩
    · obtain ⟨y, ey, y1, y2⟩ := lp _ e'; cases ey; omega
    · obtain ⟨y, ey, y1, y2, _⟩ := lt _ e'; cases ey; omega
end Go.Proofs.Ytockhhfehjoldaa

/-
Texts in one: what HingesOf stands on, part 18. Conditions: those of each.
-/
import Derived.Test.YtockhhfehjoldabKHingesOf17
import Derived.Lib.SliceRun
import Derived.Handy

/-
Meshes that are turned over: what the program makes. Conditions: none.
-/
namespace Go.Proofs.Ytockhhfehjoldab
open Go Fk Go.RowKit
set_option linter.unusedVariables false
set_option maxRecDepth 8000
def turnRow (t : List Int) : List Int := [t.getD 0 0, t.getD 2 0, t.getD 1 0]
/-- The first k rows are turned, the others are as they were. -/
def mixT (ts : List (List Int)) (k : Nat) : List (List Int) := (ts.take k).map turnRow ++ ts.drop k
theorem mixT_zero (ts : List (List Int)) : mixT ts 0 = ts := by simp [mixT]
theorem mixT_len (ts : List (List Int)) (k : Nat) : (mixT ts k).length = ts.length := by
  unfold mixT; simp; omega
theorem mixT_all (ts : List (List Int)) : mixT ts ts.length = ts.map turnRow := by unfold mixT; simp
theorem mixT_get (ts : List (List Int)) (k j : Nat) (hk : k ≤ ts.length) (hj : j < ts.length) : (mixT ts k).getD j [] = if j < k then turnRow (ts.getD j []) else ts.getD j [] := by
  unfold mixT
  by_cases h : j < k
  · rw [if_pos h]
    simp only [List.getD]
    rw [List.getElem?_append_left (by simp; omega), List.getElem?_map, List.getElem?_take_of_lt h]
    simp [hj]
  · rw [if_neg h]
    have : ((ts.take k).map turnRow).length = k := by simp; omega
    simp only [List.getD]
    rw [List.getElem?_append_right (by omega), this, List.getElem?_drop, show k + (j - k) = j by omega]
def rTt (cs : List C3) (ts : List (List Int)) : List (List Int) := if validB cs ts = true then ts.map turnRow else []
theorem rTt_no {cs : List C3} {ts : List (List Int)} (h : validB cs ts = false) : rTt cs ts = [] := by unfold rTt; rw [if_neg (by rw [h]; decide)]
theorem rTt_yes {cs : List C3} {ts : List (List Int)} (h : validB cs ts = true) : rTt cs ts = ts.map turnRow := by unfold rTt; rw [if_pos h]
theorem turn_wf {t : List Int} (h : ∀ z ∈ t, (Lit.int .i64 z).wf = true) (h3 : t.length = 3) : ∀ z ∈ turnRow t, (Lit.int .i64 z).wf = true := by
  intro z hz
  match t, h3 with
  | [x, y, u], _ =>
    simp [turnRow] at hz
    rcases hz with rfl | rfl | rfl <;> exact h _ (by simp)
theorem mixT_wf {ts : List (List Int)} {n k : Nat} (hn : ts.length = n) (hk : k ≤ n) (h3 : ∀ j, j < n → (ts.getD j []).length = 3) (h : ∀ j, j < n → ∀ z ∈ ts.getD j [], (Lit.int .i64 z).wf = true) : ∀ j, j < n → ∀ z ∈ (mixT ts k).getD j [], (Lit.int .i64 z).wf = true := fun j hj => by
  rw [mixT_get ts k j (by omega) (by omega)]
  by_cases hjk : j < k
  · rw [if_pos hjk]; exact turn_wf (h j hj) (h3 j hj)
  · rw [if_neg hjk]; exact h j hj
theorem mixT_3 {ts : List (List Int)} {n k : Nat} (hn : ts.length = n) (hk : k ≤ n) (h3 : ∀ j, j < n → (ts.getD j []).length = 3) : ∀ j, j < n → ((mixT ts k).getD j []).length = 3 := fun j hj => by
  rw [mixT_get ts k j (by omega) (by omega)]
  by_cases hjk : j < k
  · rw [if_pos hjk]; rfl
  · rw [if_neg hjk]; exact h3 j hj
end Go.Proofs.Ytockhhfehjoldab


/-
Copies of lists of springs and of numbers that slices.Clone makes. Conditions: at most 2^20 of them.
-/
namespace Go.Proofs.Ytockhhfehjoldab
open Go Fk Go.RowKit
set_option linter.unusedVariables false
set_option maxRecDepth 8000

def SPV (n : Nat) (xs : List Value) (ss : List SC) : Prop := ∀ j, j < n → ∃ p q, xs[j * 4]? = some (.int .i64 (ss.getD j s0).1) ∧ xs[j * 4 + 1]? = some (.int .i64 (ss.getD j s0).2.1) ∧ xs[j * 4 + 2]? = some (.float .f32 p) ∧ xs[j * 4 + 3]? = some (.float .f32 q) ∧ FV .f32 p (ss.getD j s0).2.2.1 ∧ FV .f32 q (ss.getD j s0).2.2.2
def FPV (n : Nat) (xs : List Value) (zs : List Nat) : Prop := ∀ j, j < n → xs[j]? = some (.float .f32 (zs.getD j 0))
theorem ss_cells {w : World} {a : Option Addr} {n cap : Nat} {ss : List SC} (h : IsSs w a n cap ss) : ∃ xs : List Value, xs.length = n * 4 ∧ (∀ ad, a = some ad → ∀ j u, xs[j]? = some u → w.cell? (ad.add j) = some u) ∧ (∀ u ∈ xs, u.oneCell' = true) ∧ SPV n xs ss := by
  obtain ⟨h1, h2, h3, h4', h4, h5⟩ := h
  cases a with
  | none =>
    obtain ⟨rfl, _⟩ := h4 rfl
    exact ⟨[], rfl, ⟨fun _ had => (by cases had), fun u hu => absurd hu (by simp), fun j hj => absurd hj (by omega)⟩⟩
  | some x =>
    have hc : ∀ j, j < n * 4 → ∃ u, w.cell? (x.add j) = some u ∧ u.oneCell' = true := by
      intro j hj
      obtain ⟨p, q, k0, k1, k2, k3, _⟩ := h5 x rfl (j / 4) (by omega)
      have : j = j / 4 * 4 ∨ j = j / 4 * 4 + 1 ∨ j = j / 4 * 4 + 2 ∨ j = j / 4 * 4 + 3 := by omega
      rcases this with e | e | e | e
      · exact ⟨_, by rw [e]; exact k0, rfl⟩
      · exact ⟨_, by rw [e]; exact k1, rfl⟩
      · exact ⟨_, by rw [e]; exact k2, rfl⟩
      · exact ⟨_, by rw [e]; exact k3, rfl⟩
    refine ⟨(List.range (n * 4)).map fun j => (w.cell? (x.add j)).getD undef, by simp, fun ad had j u hu => ?_, fun u hu => ?_, fun j hj => ?_⟩
    · cases had
      have hj : j < n * 4 := by have := (List.getElem?_eq_some_iff.1 hu).1; simpa using this
      obtain ⟨p, hp, _⟩ := hc j hj
      simp [hj, hp] at hu
      rw [hp, ← hu]
    · obtain ⟨j, hj, rfl⟩ := List.mem_map.1 hu
      obtain ⟨p, hp, ho⟩ := hc j (List.mem_range.1 hj)
      rw [hp]; exact ho
    · obtain ⟨p, q, k0, k1, k2, k3, hf⟩ := h5 x rfl j hj
      have g0 : j * 4 < n * 4 := by omega
      have g1 : j * 4 + 1 < n * 4 := by omega
      have g2 : j * 4 + 2 < n * 4 := by omega
      have g3 : j * 4 + 3 < n * 4 := by omega
      exact ⟨p, q, by simp [g0, k0], by simp [g1, k1], by simp [g2, k2], by simp [g3, k3], hf⟩
theorem fs_cells {w : World} {a : Option Addr} {n cap : Nat} {zs : List Nat} (h : IsFs .f32 w a n cap zs) : ∃ xs : List Value, xs.length = n * 1 ∧ (∀ ad, a = some ad → ∀ j u, xs[j]? = some u → w.cell? (ad.add j) = some u) ∧ (∀ u ∈ xs, u.oneCell' = true) ∧ FPV n xs zs := by
  obtain ⟨h1, h2, h3, h4', h4, h5⟩ := h
  refine ⟨zs.map (.float .f32), by simp [h1], fun ad had j u hu => ?_, fun u hu => ?_, fun j hj => ?_⟩
  · have hj : j < n := by have := (List.getElem?_eq_some_iff.1 hu).1; rw [← h1]; simpa using this
    have := h5 ad had j hj
    rw [this, ← hu]
    have hz : j < zs.length := by omega
    simp [List.getD, hz]
  · obtain ⟨z, _, rfl⟩ := List.mem_map.1 hu
    rfl
  · have hz : j < zs.length := by omega
    simp [List.getD, hz]
theorem lst_of_ownsG {w : World} {base size n c : Nat} {e : TypeId} {a : Option Addr} {xs : List Value} (h : w.ownsRow base e size (.slice a n c) n xs) : Lst base w.heap.size w a (n * size) := by
  have h' := h
  rcases h.2 with ⟨e, e0⟩ | ⟨g, cap, cur, e, hb, hh, hc1, hc2, hs, ht⟩
  · cases e; exact .inl ⟨rfl, by rw [e0, Nat.zero_mul]⟩
  · obtain ⟨g1, g2⟩ := h'.lt g (by rw [e]; rfl)
    cases e
    refine .inr ⟨g, rfl, g1, g2, g2, fun j hj => ⟨?_, by rw [Nat.zero_add]; exact h'.frozenAt j⟩⟩
    rw [Nat.zero_add, h'.cellAt j hj]
    have : j < xs.length := by rw [h'.1]; exact hj
    exact ⟨_, List.getElem?_eq_getElem this⟩
theorem ss_of_owns {w : World} {base n : Nat} {v : Value} {xs : List Value} {ss : List SC} (h : w.ownsRow base 94 4 v n xs) (hn : ss.length = n) (hp : SPV n xs ss) (hwf : ∀ s ∈ ss, (Lit.int .i64 s.1).wf = true ∧ (Lit.int .i64 s.2.1).wf = true) : ∃ a cap, v = .slice a n cap ∧ IsSs w a n cap ss ∧ Lst base w.heap.size w a (n * 4) := by
  have h' := h
  rcases h.2 with ⟨rfl, hn0⟩ | ⟨g, cap, cur, rfl, hb, hh, hc1, hc2, hs, ht⟩
  · exact ⟨none, 0, by rw [hn0], ⟨hn, by omega, by unfold maxLen; omega, hwf, fun _ => ⟨hn0, rfl⟩, fun x hx => by cases hx⟩, .inl ⟨rfl, by omega⟩⟩
  · refine ⟨_, cap, rfl, ⟨hn, hc1, hc2, hwf, by simp, fun x hx i hi => ?_⟩, lst_of_ownsG h'⟩
    cases hx
    obtain ⟨p, q, e0, e1, e2, e3, hf⟩ := hp i hi
    exact ⟨p, q, by rw [addr_add', Nat.zero_add, h'.cellAt _ (by omega)]; exact e0, by rw [addr_add', Nat.zero_add, h'.cellAt _ (by omega)]; exact e1, by rw [addr_add', Nat.zero_add, h'.cellAt _ (by omega)]; exact e2, by rw [addr_add', Nat.zero_add, h'.cellAt _ (by omega)]; exact e3, hf⟩
theorem fs_of_owns {w : World} {base n : Nat} {v : Value} {xs : List Value} {zs : List Nat} (h : w.ownsRow base 32 1 v n xs) (hn : zs.length = n) (hp : FPV n xs zs) (hwf : ∀ z ∈ zs, z < 2 ^ FloatKind.f32.format.width) : ∃ a cap, v = .slice a n cap ∧ IsFs .f32 w a n cap zs ∧ Lst base w.heap.size w a n := by
  have h' := h
  rcases h.2 with ⟨rfl, hn0⟩ | ⟨g, cap, cur, rfl, hb, hh, hc1, hc2, hs, ht⟩
  · exact ⟨none, 0, by rw [hn0], ⟨hn, by omega, by unfold maxLen; omega, hwf, fun _ => ⟨hn0, rfl⟩, fun x hx => by cases hx⟩, .inl ⟨rfl, by omega⟩⟩
  · refine ⟨_, cap, rfl, ⟨hn, hc1, hc2, hwf, by simp, fun x hx i hi => ?_⟩, by have := lst_of_ownsG h'; rwa [Nat.mul_one] at this⟩
    cases hx
    rw [addr_add', Nat.zero_add, h'.cellAt _ (by omega)]
    exact hp i hi
end Go.Proofs.Ytockhhfehjoldab


/-
A box that is filled, and the result's box. Conditions: none.
-/
namespace Go.Proofs.Ytockhhfehjoldab
open Go Fk Go.RowKit
set_option linter.unusedVariables false
set_option maxRecDepth 8000

structure Tc (w : World) (bo br : Nat) (lo lr : List Value) (w1 : World) : Prop where
  out : At w1 bo lo
  res : At w1 br lr
  fo : ∀ i, w1.frozen? ⟨bo, i, none⟩ = false
  fr : ∀ i, w1.frozen? ⟨br, i, none⟩ = false
  bel : Below w.heap.size w w1
  ge : w.heap.size ≤ bo ∧ w.heap.size ≤ br ∧ bo ≠ br
  lt : bo < w1.heap.size ∧ br < w1.heap.size
theorem Tc.call {w w1 w2 : World} {bo br : Nat} {lo lr : List Value} (h : Tc w bo br lo lr w1) (hB : Below w1.heap.size w1 w2) : Tc w bo br lo lr w2 :=
  ⟨h.out.below hB, h.res.below hB, fun i => by rw [hB.frozen (p := ⟨bo, i, none⟩) h.lt.1]; exact h.fo i,
    fun i => by rw [hB.frozen (p := ⟨br, i, none⟩) h.lt.2]; exact h.fr i, h.bel.trans (hB.mono h.bel.size), h.ge, Nat.lt_of_lt_of_le h.lt.1 hB.size, Nat.lt_of_lt_of_le h.lt.2 hB.size⟩
theorem Tc.put {w w1 : World} {bo br : Nat} {lo lr vs : List Value} (h : Tc w bo br lo lr w1) (o : Nat) (hl : o + vs.length ≤ lo.length) : Tc w bo br (lo.take o ++ vs ++ lo.drop (o + vs.length)) lr (setL w1 bo o vs) :=
  ⟨at_setL h.out hl, at_setL_far h.res h.ge.2.2, fun i => by rw [setL_frozen]; exact h.fo i, fun i => by rw [setL_frozen]; exact h.fr i,
    setL_below _ h.ge.1 _ _ _ h.bel, h.ge, by rw [setL_size]; exact h.lt⟩
theorem Tc.fin {w w1 : World} {bo br : Nat} {lo lr vs' : List Value} (h : Tc w bo br lo lr w1) (hl : vs'.length = lr.length) : At (setL w1 br 0 vs') br vs' ∧ Below w.heap.size w (setL w1 br 0 vs') := by
  refine ⟨?_, setL_below _ h.ge.2.1 _ _ _ h.bel⟩
  have := at_setL (vs := vs') (o := 0) h.res (by omega)
  simpa [hl] using this
/-- All blocks but the two that are filled. -/
def Sy (bo br b : Nat) : Prop := b ≠ bo ∧ b ≠ br
theorem Sy.out {bo br : Nat} : ¬ Sy bo br bo := fun h => h.1 rfl
theorem Sy.res {bo br : Nat} : ¬ Sy bo br br := fun h => h.2 rfl
theorem Sy.new {bo br lo hi : Nat} (h1 : bo < lo) (h2 : br < lo) : ∀ b, lo ≤ b → b < hi → Sy bo br b := fun b k1 _ => ⟨by omega, by omega⟩
theorem GM.widen {lo hi lo' hi' pl tl F : Nat} {w : World} {pa ta : Option Addr} (h : GM lo hi w pa ta pl tl F) (h1 : lo' ≤ lo) (h2 : hi ≤ hi') : GM lo' hi' w pa ta pl tl F :=
  ⟨h.1.imp id fun ⟨b, e, ho⟩ => ⟨b, e, ho.widen h1 h2⟩, h.2.1.imp id fun ⟨R, e, k1, k2, k3, k4, k5, k6⟩ => ⟨R, e, by omega, by omega, k3, k4, k5, k6.widen h1 h2⟩, h.2.2⟩
theorem lst_widen {lo hi lo' hi' n : Nat} {w : World} {a : Option Addr} (h : Lst lo hi w a n) (h1 : lo' ≤ lo) (h2 : hi ≤ hi') : Lst lo' hi' w a n :=
  h.imp id fun ⟨b, e, ho⟩ => ⟨b, e, ho.widen h1 h2⟩
/-- Parts that lie apart make a body that was made. -/
theorem gb_of {lo h1 h2 h3 h4 F : Nat} {w : World} {B : Bd} (m : GM lo h1 w B.pa B.ta B.pl B.tl F) (hF : F < h1 ∨ B.tl = 0) (s : Lst h1 h2 w B.sa (B.sl * 4)) (g : Lst h2 h3 w B.wa B.wl) (h12 : h1 ≤ h2) (h23 : h2 ≤ h3) (h34 : h3 ≤ h4) (hlo : lo ≤ h1) (hF' : F < h1) : GB lo h4 w B F := by
  have lp := lst_lv m.1
  have lt := m.lt
  have ls := lst_lv s
  have lg := lst_lv g
  refine ⟨m.widen (Nat.le_refl _) (by omega), lst_widen s (by omega) (by omega), lst_widen g (by omega) (by omega), fun X e => ?_, fun X e => ?_⟩
  · obtain ⟨x, ex, x1, x2⟩ := ls _ e
    cases ex
    refine ⟨by omega, fun e' => ?_, fun e' => ?_, fun e' => ?_⟩
    · obtain ⟨y, ey, y1, y2⟩ := lp _ e'; cases ey; omega
    · obtain ⟨y, ey, y1, y2, _⟩ := lt _ e'; cases ey; omega
    · obtain ⟨y, ey, y1, y2⟩ := lg _ e'; cases ey; omega
  · obtain ⟨x, ex, x1, x2⟩ := lg _ e
    cases ex
    refine ⟨by omega, fun e' => ?_, fun e' => ?_⟩
    · obtain ⟨y, ey, y1, y2⟩ := lp _ e'; cases ey; omega
    · obtain ⟨y, ey, y1, y2, _⟩ := lt _ e'; cases ey; omega
end Go.Proofs.Ytockhhfehjoldab


/-
A region whose order is open, with an operation that turns the world (an append) and a store that comes last: what is known of the world ahead of the turn and behind it. Conditions: no operation is guarded, every edge that binds leads to an earlier operation, no slot is written twice, the store alone has no slot.
-/
namespace Go.Proofs.Ytockhhfehjoldab
namespace Reg8
open Go Reg
set_option linter.unusedVariables false
section
variable {P : Program} {ops : Array Oper} {Q : Exit → Act → World → Prop}
def lowb (ops : Array Oper) : Bool := (List.range ops.size).all fun i => ((ops[i]?).map fun o => o.after.all fun e => !Region.binds .any e || decide (e.on < i)).getD true
theorem lowb_spec {ops : Array Oper} (h : lowb ops = true) {i : Nat} {o : Oper} (ho : ops[i]? = some o) : ∀ e ∈ o.after, Region.binds .any e = true → e.on < i := by
  have hlt : i < ops.size := (Array.getElem?_eq_some_iff.1 ho).1
  unfold lowb at h
  rw [List.all_eq_true] at h
  have := h i (List.mem_range.2 hlt)
  rw [ho] at this
  simp only [Option.map_some, Option.getD_some, Array.all_eq_true_iff_forall_mem] at this
  intro e he hb
  have := this e he
  rw [hb] at this
  simpa using this
theorem all_of_none (hlow : lowb ops = true) {listed : Array Bool} (hs : listed.size = ops.size) (hr : Region.ready .any ops listed = []) : ∀ i, i < ops.size → listed.getD i false = true := by
  intro i
  induction i using Nat.strongRecOn with
  | _ i ih =>
    intro hi
    cases hl : listed.getD i false
    · exfalso
      obtain ⟨o, ho⟩ : ∃ o, ops[i]? = some o := ⟨_, Array.getElem?_eq_getElem hi⟩
      have hm : i ∈ Region.ready .any ops listed := by
        refine mem_ready.2 ⟨?_, o, ho, fun e he hb => ih e.on (lowb_spec hlow ho e he hb) (Nat.lt_trans (lowb_spec hlow ho e he hb) hi)⟩
        have hlt : i < listed.size := by omega
        simp [hlt] at hl ⊢; exact hl
      rw [hr] at hm; cases hm
    · rfl
theorem wpAny_inv (hlow : lowb ops = true) {Inv : Array Bool → Act → World → Prop}
    (hstep : ∀ i listed a w, listed.size = ops.size → i ∈ Region.ready .any ops listed → Inv listed a w → wpOp P ops Q i (Inv (listed.setIfInBounds i true)) a w)
    (hend : ∀ listed a w, (∀ i, i < ops.size → listed.getD i false = true) → Inv listed a w → Q .normal a w) :
    ∀ (fuel : Nat) (listed : Array Bool) (a : Act) (w : World), listed.size = ops.size → listed.toList.count false ≤ fuel → Inv listed a w → wpAny P .any ops Q fuel listed a w
  | 0, listed, a, w, hs, hf, hI => by
    have hall : ∀ i, i < ops.size → listed.getD i false = true := by
      intro i hi
      have := cnt_zero listed.toList (by omega) i (by simp; omega)
      have hlt : i < listed.size := by omega
      simp [hlt] at this ⊢; exact this
    refine ⟨?_, hend _ _ _ hall hI⟩
    cases hr : Region.ready .any ops listed with
    | nil => rfl
    | cons j l =>
      have hj : j ∈ Region.ready .any ops listed := by rw [hr]; exact List.mem_cons_self
      obtain ⟨h1, o, ho, _⟩ := mem_ready.1 hj
      have hlt : j < ops.size := (Array.getElem?_eq_some_iff.1 ho).1
      have h2 := hall j hlt
      have hlt' : j < listed.size := by omega
      simp [hlt'] at h1 h2
      rw [h1] at h2; cases h2
  | fuel + 1, listed, a, w, hs, hf, hI => by
    refine ⟨fun hr => hend _ _ _ (all_of_none hlow hs hr) hI, fun i hi => ?_⟩
    refine wpOp_mono (fun a' w' h => wpAny_inv hlow hstep hend fuel _ a' w' (by simpa using hs) ?_ h) (hstep i listed a w hs hi hI)
    obtain ⟨h1, o, ho, _⟩ := mem_ready.1 hi
    have hlt : i < listed.size := by have := (Array.getElem?_eq_some_iff.1 ho).1; omega
    have hg : listed.toList[i]? = some false := by simp [hlt] at h1 ⊢; exact h1
    have := cnt_set listed.toList i hg
    rw [Array.toList_setIfInBounds]
    omega
/-- What must come ahead of operation m, by a chain of at most so many steps. -/
def reach (ops : Array Oper) : Nat → Nat → Nat → Bool
  | 0, _, _ => false
  | f + 1, i, m => behind ops i m || (List.range ops.size).any fun j => behind ops i j && reach ops f j m
theorem reach_listed {ops : Array Oper} {listed : Array Bool} (hcl : ∀ i j, listed.getD j false = true → behind ops i j = true → listed.getD i false = true) {m : Nat} (hm : listed.getD m false = true) : ∀ f i, reach ops f i m = true → listed.getD i false = true
  | 0, i, h => by cases h
  | f + 1, i, h => by
    unfold reach at h
    rw [Bool.or_eq_true, List.any_eq_true] at h
    rcases h with h | ⟨j, _, h⟩
    · exact hcl i m hm h
    · rw [Bool.and_eq_true] at h
      exact hcl i j (reach_listed hcl hm f j h.2) h.1
/-- Operation z is the store, ahead of which all others come; operation m turns the world. -/
def tidy (ops : Array Oper) (m z n : Nat) : Bool :=
  lowb ops && (ops.all fun o => o.guard.isNone) && (ops.all fun o => (o.dst.map fun d => decide (d < n)).getD true) &&
  ((List.range ops.size).all fun i => (List.range ops.size).all fun j => i == j || slotOf ops i == none || slotOf ops i != slotOf ops j) &&
  ((List.range ops.size).all fun i => (slotOf ops i).isSome || i == z) && decide (z < ops.size) && (slotOf ops z).isNone &&
  ((List.range ops.size).all fun i => i == z || behind ops i z) && decide (m < ops.size) && (m != z) && (slotOf ops m).isSome
/-- What is asked of operation i. -/
def Obl (P : Program) (ops : Array Oper) (m z : Nat) (a0 : Act) (C : World → Prop) (D : Value → World → Prop) (T : World → Prop) (G : World → World → Prop) (Rv : Nat → Value → Prop) (Rw : Nat → Value → World → Prop) (Q : Exit → Act → World → Prop) (i : Nat) (o : Oper) : Prop :=
  if i = z then
    ∀ a w u, (∀ d, slotOf ops m = some d → a.eval (.tmp d) = u) → D u w → (∀ t, ((List.range ops.size).all fun j => slotOf ops j != some t || behind ops i j) = true → a.eval (.tmp t) = a0.eval (.tmp t)) →
      (∀ j d, slotOf ops j = some d → Rv j (a.eval (.tmp d))) →
      o.wp P a w (fun a' w' => a' = a ∧ T w') Q
  else if i = m then
    ∀ a w, C w → (∀ t, ((List.range ops.size).all fun j => slotOf ops j != some t || behind ops i j) = true → a.eval (.tmp t) = a0.eval (.tmp t)) →
      (∀ j d, behind ops j i = true → slotOf ops j = some d → Rv j (a.eval (.tmp d)) ∧ Rw j (a.eval (.tmp d)) w) →
      o.wp P a w (fun a' w' => ∃ v, a' = a.put o.dst v ∧ Rv i v ∧ D v w') Q
  else
    (∀ a w, C w → (∀ t, ((List.range ops.size).all fun j => slotOf ops j != some t || behind ops i j) = true → a.eval (.tmp t) = a0.eval (.tmp t)) →
      (∀ j d, behind ops j i = true → slotOf ops j = some d → Rv j (a.eval (.tmp d)) ∧ Rw j (a.eval (.tmp d)) w) →
      o.wp P a w (fun a' w' => ∃ v, a' = a.put o.dst v ∧ Rv i v ∧ Rw i v w' ∧ C w' ∧ G w w') Q) ∧
    (reach ops 5 i m = false → ∀ a w u, D u w → (∀ t, ((List.range ops.size).all fun j => slotOf ops j != some t || behind ops i j) = true → a.eval (.tmp t) = a0.eval (.tmp t)) →
      (∀ j d, behind ops j i = true → slotOf ops j = some d → Rv j (a.eval (.tmp d))) →
      o.wp P a w (fun a' w' => ∃ v, a' = a.put o.dst v ∧ Rv i v ∧ D u w') Q)
def OblAll (P : Program) (ops : Array Oper) (m z : Nat) (a0 : Act) (C : World → Prop) (D : Value → World → Prop) (T : World → Prop) (G : World → World → Prop) (Rv : Nat → Value → Prop) (Rw : Nat → Value → World → Prop) (Q : Exit → Act → World → Prop) : Nat → List Oper → Prop
  | _, [] => True
  | i, o :: l => Obl P ops m z a0 C D T G Rv Rw Q i o ∧ OblAll P ops m z a0 C D T G Rv Rw Q (i + 1) l
variable {m z : Nat} {a0 : Act} {C : World → Prop} {D : Value → World → Prop} {T : World → Prop} {G : World → World → Prop} {Rv : Nat → Value → Prop} {Rw : Nat → Value → World → Prop}
theorem OblAll.get :
    ∀ {l : List Oper} {k : Nat}, OblAll P ops m z a0 C D T G Rv Rw Q k l → ∀ {i : Nat} {o : Oper}, l[i]? = some o → Obl P ops m z a0 C D T G Rv Rw Q (k + i) o
  | [], _, _, _, _, h => by simp at h
  | _ :: _, _, h, 0, _, ho => by simp at ho; subst ho; exact h.1
  | _ :: l, k, h, i + 1, _, ho => by
    have := OblAll.get h.2 (i := i) (by simpa using ho)
    rwa [Nat.add_assoc, Nat.add_comm 1 i] at this
section
variable {i : Nat} {o : Oper}
/-- An operation that must come ahead of the turn. -/
theorem Obl.early (h1 : (i == z) = false) (h2 : (i == m) = false) (h3 : reach ops 5 i m = true)
    (h : ∀ a w, C w → (∀ t, ((List.range ops.size).all fun j => slotOf ops j != some t || behind ops i j) = true → a.eval (.tmp t) = a0.eval (.tmp t)) →
      (∀ j d, behind ops j i = true → slotOf ops j = some d → Rv j (a.eval (.tmp d)) ∧ Rw j (a.eval (.tmp d)) w) →
      ∀ K : Act → World → Prop, (∀ v w', Rv i v → Rw i v w' → C w' → G w w' → K (a.put o.dst v) w') → o.wp P a w K Q) : Obl P ops m z a0 C D T G Rv Rw Q i o := by
  unfold Obl
  rw [if_neg (by simpa using h1), if_neg (by simpa using h2)]
  exact ⟨fun a w hC he hd => h a w hC he hd _ fun v w' k1 k2 k3 k4 => ⟨v, rfl, k1, k2, k3, k4⟩, fun h' => by rw [h3] at h'; cases h'⟩
/-- An operation that may come on either side of the turn. -/
theorem Obl.any (h1 : (i == z) = false) (h2 : (i == m) = false)
    (h : ∀ a w, C w → (∀ t, ((List.range ops.size).all fun j => slotOf ops j != some t || behind ops i j) = true → a.eval (.tmp t) = a0.eval (.tmp t)) →
      (∀ j d, behind ops j i = true → slotOf ops j = some d → Rv j (a.eval (.tmp d))) →
      ∀ K : Act → World → Prop, (∀ v w', Rv i v → Rw i v w' → C w' → G w w' → K (a.put o.dst v) w') → o.wp P a w K Q)
    (h' : ∀ a w u, D u w → (∀ t, ((List.range ops.size).all fun j => slotOf ops j != some t || behind ops i j) = true → a.eval (.tmp t) = a0.eval (.tmp t)) →
      (∀ j d, behind ops j i = true → slotOf ops j = some d → Rv j (a.eval (.tmp d))) →
      ∀ K : Act → World → Prop, (∀ v w', Rv i v → D u w' → K (a.put o.dst v) w') → o.wp P a w K Q) : Obl P ops m z a0 C D T G Rv Rw Q i o := by
  unfold Obl
  rw [if_neg (by simpa using h1), if_neg (by simpa using h2)]
  exact ⟨fun a w hC he hd => h a w hC he (fun j d h1 h2 => (hd j d h1 h2).1) _ fun v w' k1 k2 k3 k4 => ⟨v, rfl, k1, k2, k3, k4⟩, fun _ a w u hD he hd => h' a w u hD he hd _ fun v w' k1 k2 => ⟨v, rfl, k1, k2⟩⟩
theorem Obl.turn (h1 : (i == z) = false) (h2 : (i == m) = true)
    (h : ∀ a w, C w → (∀ t, ((List.range ops.size).all fun j => slotOf ops j != some t || behind ops i j) = true → a.eval (.tmp t) = a0.eval (.tmp t)) →
      (∀ j d, behind ops j i = true → slotOf ops j = some d → Rv j (a.eval (.tmp d)) ∧ Rw j (a.eval (.tmp d)) w) →
      ∀ K : Act → World → Prop, (∀ v w', Rv i v → D v w' → K (a.put o.dst v) w') → o.wp P a w K Q) : Obl P ops m z a0 C D T G Rv Rw Q i o := by
  unfold Obl
  rw [if_neg (by simpa using h1), if_pos (by simpa using h2)]
  exact fun a w hC he hd => h a w hC he hd _ fun v w' k1 k2 => ⟨v, rfl, k1, k2⟩
theorem Obl.store (h1 : (i == z) = true)
    (h : ∀ a w u, (∀ d, slotOf ops m = some d → a.eval (.tmp d) = u) → D u w → (∀ t, ((List.range ops.size).all fun j => slotOf ops j != some t || behind ops i j) = true → a.eval (.tmp t) = a0.eval (.tmp t)) →
      (∀ j d, slotOf ops j = some d → Rv j (a.eval (.tmp d))) →
      ∀ K : Act → World → Prop, (∀ w', T w' → K a w') → o.wp P a w K Q) : Obl P ops m z a0 C D T G Rv Rw Q i o := by
  unfold Obl
  rw [if_pos (by simpa using h1)]
  exact fun a w u hu hD he hd => h a w u hu hD he hd _ fun w' k1 => ⟨rfl, k1⟩
end
theorem wp_region_inv {id : Nat} {w0 : World} (hm : P.follows .mixedOrders = true) (ht : tidy ops m z a0.tmps.size = true)
    (hG : ∀ j v w w', C w → G w w' → Rw j v w → Rw j v w') (hC : C { w0 with drawn := w0.drawn + 1 })
    (hO : OblAll P ops m z a0 C D T G Rv Rw Q 0 ops.toList)
    (hQ : ∀ a w, T w → a.defers = a0.defers → a.tmps.size = a0.tmps.size → (∀ t, (ops.all fun o => o.dst != some t) = true → a.eval (.tmp t) = a0.eval (.tmp t)) → (∀ j d, slotOf ops j = some d → Rv j (a.eval (.tmp d))) → Q .normal a w) :
    (Code.region id ops true).wp P Q a0 w0 := by
  unfold tidy at ht
  simp only [Bool.and_eq_true] at ht
  obtain ⟨⟨⟨⟨⟨⟨⟨⟨⟨⟨hlow, hgd⟩, hbd⟩, hdis⟩, hone⟩, hzlt⟩, hzn⟩, hlast⟩, hmlt⟩, hmz⟩, hms⟩ := ht
  have hzlt := of_decide_eq_true hzlt
  have hmlt := of_decide_eq_true hmlt
  have hmz : m ≠ z := by simpa using hmz
  have slot_lt : ∀ {j d}, slotOf ops j = some d → j < ops.size := fun {j d} h => by
    unfold slotOf at h
    cases ho : ops[j]? with
    | none => rw [ho] at h; cases h
    | some o => exact (Array.getElem?_eq_some_iff.1 ho).1
  have slot_bd : ∀ {j d}, slotOf ops j = some d → d < a0.tmps.size := fun {j d} h => by
    have hj := slot_lt h
    have := Array.all_eq_true.1 hbd j hj
    unfold slotOf at h
    rw [Array.getElem?_eq_getElem hj] at h
    simp only [Option.bind_some] at h
    rw [h] at this
    simpa using this
  have slot_ne : ∀ {i j d}, slotOf ops i = some d → slotOf ops j = some d → i = j := fun {i j d} h1 h2 => by
    have a1 := slot_lt h1
    have a2 := slot_lt h2
    have := List.all_eq_true.1 (List.all_eq_true.1 hdis i (List.mem_range.2 a1)) j (List.mem_range.2 a2)
    rw [h1, h2] at this
    simpa using this
  let Inv : Array Bool → Act → World → Prop := fun listed a w =>
    (listed.getD z false = false → listed.getD m false = false → C w ∧ ∀ j d, listed.getD j false = true → slotOf ops j = some d → Rw j (a.eval (.tmp d)) w) ∧
    (listed.getD z false = false → listed.getD m false = true → ∃ u, (∀ d, slotOf ops m = some d → a.eval (.tmp d) = u) ∧ D u w) ∧
    (listed.getD z false = true → T w) ∧ a.defers = a0.defers ∧ a.tmps.size = a0.tmps.size ∧
    (∀ t, (∀ j, slotOf ops j = some t → listed.getD j false = false) → a.eval (.tmp t) = a0.eval (.tmp t)) ∧
    (∀ j d, listed.getD j false = true → slotOf ops j = some d → Rv j (a.eval (.tmp d))) ∧ (∀ i j, listed.getD j false = true → behind ops i j = true → listed.getD i false = true)
  refine wp_region_any hm (wpAny_inv (Inv := Inv) hlow ?_ ?_ _ _ _ _ (by simp) (by simp) ⟨fun _ _ => ⟨hC, fun j d hj => ?_⟩, fun _ h => ?_, fun h => ?_, rfl, rfl, fun _ _ => rfl, ?_, ?_⟩)
  · intro i listed a w hs hi ⟨hpre, hpost, hend, hd, hsz, hext, hrv, hcl⟩
    obtain ⟨hun, o, ho, hdeps⟩ := mem_ready.1 hi
    have hilt : i < ops.size := (Array.getElem?_eq_some_iff.1 ho).1
    have hli : i < listed.size := by omega
    have hun' : listed.getD i false = false := by simp [hli] at hun ⊢; exact hun
    have hg : o.guard = none := by
      have := Array.all_eq_true.1 hgd i hilt
      rw [Array.getElem?_eq_getElem hilt] at ho
      cases ho
      simpa using this
    have hob := OblAll.get hO (i := i) (o := o) (by simpa using ho)
    rw [Nat.zero_add] at hob
    have he : ∀ t, ((List.range ops.size).all fun j => slotOf ops j != some t || behind ops i j) = true → a.eval (.tmp t) = a0.eval (.tmp t) := fun t htt => hext t fun j hj => by
      have := List.all_eq_true.1 htt j (List.mem_range.2 (slot_lt hj))
      rw [hj] at this
      simp at this
      cases hl : listed.getD j false
      · rfl
      · have := hcl i j hl this; rw [hun'] at this; cases this
    have lstd : ∀ j, behind ops j i = true → listed.getD j false = true := fun j hj => by
      obtain ⟨e, he, h1, h2⟩ := behind_spec hj ho
      rw [← h1]
      exact hdeps e he h2
    have hdst : slotOf ops i = o.dst := by unfold slotOf; rw [ho]; rfl
    have keep : ∀ v t, o.dst ≠ some t → (a.put o.dst v).eval (.tmp t) = a.eval (.tmp t) := fun v t h => Act.eval_put (fun d hd he => h (by rw [hd]; cases he; rfl))
    have lst : ∀ j, (listed.setIfInBounds i true).getD j false = true → j = i ∨ listed.getD j false = true := fun j h => by
      by_cases hji : i = j
      · exact .inl hji.symm
      · rw [getD_set_ne false hji] at h; exact .inr h
    have same : ∀ j, j ≠ i → (listed.setIfInBounds i true).getD j false = listed.getD j false := fun j h => getD_set_ne false (fun e => h e.symm)
    have hcl' : ∀ i' j, (listed.setIfInBounds i true).getD j false = true → behind ops i' j = true → (listed.setIfInBounds i true).getD i' false = true := fun i' j hj hb => by
      rcases lst j hj with rfl | hj'
      · exact getD_set_true (lstd i' hb)
      · exact getD_set_true (hcl i' j hj' hb)
    have newv : ∀ v d, slotOf ops i = some d → (a.put o.dst v).eval (.tmp d) = v := fun v d hjd => by
      rw [hdst] at hjd
      have hb := slot_bd (j := i) (by rw [hdst]; exact hjd)
      unfold Act.put Act.eval; rw [hjd]; simp; exact fun h => absurd (Nat.lt_of_lt_of_le hb (hsz ▸ h)) (Nat.lt_irrefl _)
    have oldv : ∀ v j d, listed.getD j false = true → slotOf ops j = some d → (a.put o.dst v).eval (.tmp d) = a.eval (.tmp d) := fun v j d hj' hjd => keep v d (fun h => by
      have := slot_ne (show slotOf ops i = some d by rw [hdst]; exact h) hjd
      subst this; rw [hun'] at hj'; cases hj')
    have hext' : ∀ v t, (∀ j, slotOf ops j = some t → (listed.setIfInBounds i true).getD j false = false) → (a.put o.dst v).eval (.tmp t) = a0.eval (.tmp t) := fun v t htt => by
      rw [keep v t (fun h => by
        have := htt i (by rw [hdst]; exact h)
        simp [hli] at this)]
      refine hext t fun j hj => ?_
      have := htt j hj
      cases hl : listed.getD j false
      · rfl
      · rw [getD_set_true hl] at this; cases this
    have hd' : ∀ v, (a.put o.dst v).defers = a0.defers := fun v => by rw [← hd]; unfold Act.put; split <;> rfl
    have hsz' : ∀ v, (a.put o.dst v).tmps.size = a0.tmps.size := fun v => by rw [← hsz]; unfold Act.put; split <;> simp
    have hself : (listed.setIfInBounds i true).getD i false = true := by simp [hli]
    have hz0 : i ≠ z → listed.getD z false = false := fun hiz => by
      cases hl : listed.getD z false
      · rfl
      · have hb := List.all_eq_true.1 hlast i (List.mem_range.2 hilt)
        have hb' : behind ops i z = true := by simpa [hiz] using hb
        have := hcl i z hl hb'; rw [hun'] at this; cases this
    unfold wpOp
    rw [ho]
    simp only [Region.wanted, hg, if_true]
    by_cases hiz : i = z
    · subst hiz
      unfold Obl at hob
      rw [if_pos rfl] at hob
      have hall : ∀ j, j < ops.size → j ≠ i → listed.getD j false = true := fun j hj hne => lstd j (by
        have hb := List.all_eq_true.1 hlast j (List.mem_range.2 hj)
        simpa [hne] using hb)
      obtain ⟨u, hu, hDu⟩ := hpost hun' (hall m hmlt hmz)
      have hn : o.dst = none := by rw [← hdst]; simpa using hzn
      refine .inl (Oper.wp_mono ?_ (hob a w u hu hDu he fun j d hjd => hrv j d (hall j (slot_lt hjd) (fun e => by subst e; rw [hdst, hn] at hjd; cases hjd)) hjd))
      rintro a' w' ⟨rfl, hT⟩
      refine ⟨fun h => ?_, fun h => ?_, fun _ => hT, hd, hsz, ?_, fun j d hj hjd => ?_, hcl'⟩
      · rw [hself] at h; cases h
      · rw [hself] at h; cases h
      · have := hext' undef
        rw [hn] at this
        exact this
      · rcases lst j hj with rfl | hj'
        · rw [hdst, hn] at hjd; cases hjd
        · exact hrv j d hj' hjd
    · have hzz := same z (fun e => hiz e.symm)
      have hz0 := hz0 hiz
      by_cases him : i = m
      · subst him
        unfold Obl at hob
        rw [if_neg hiz, if_pos rfl] at hob
        obtain ⟨hCw, hrw⟩ := hpre hz0 hun'
        refine .inl (Oper.wp_mono ?_ (hob a w hCw he fun j d hj hjd => ⟨hrv j d (lstd j hj) hjd, hrw j d (lstd j hj) hjd⟩))
        rintro a' w' ⟨v, rfl, k1, k2⟩
        refine ⟨fun _ h => ?_, fun _ _ => ⟨v, fun d hjd => newv v d hjd, k2⟩, fun h => ?_, hd' v, hsz' v, hext' v, fun j d hj hjd => ?_, hcl'⟩
        · rw [hself] at h; cases h
        · rw [hzz, hz0] at h; cases h
        · rcases lst j hj with rfl | hj'
          · rw [newv v d hjd]; exact k1
          · rw [oldv v j d hj' hjd]; exact hrv j d hj' hjd
      · have hmm := same m (fun e => him e.symm)
        unfold Obl at hob
        rw [if_neg hiz, if_neg him] at hob
        cases hl : listed.getD m false
        · obtain ⟨hCw, hrw⟩ := hpre hz0 hl
          refine .inl (Oper.wp_mono ?_ (hob.1 a w hCw he fun j d hj hjd => ⟨hrv j d (lstd j hj) hjd, hrw j d (lstd j hj) hjd⟩))
          rintro a' w' ⟨v, rfl, k1, k2, k3, k4⟩
          refine ⟨fun _ _ => ⟨k3, fun j d hj hjd => ?_⟩, fun _ h => ?_, fun h => ?_, hd' v, hsz' v, hext' v, fun j d hj hjd => ?_, hcl'⟩
          · rcases lst j hj with rfl | hj'
            · rw [newv v d hjd]; exact k2
            · rw [oldv v j d hj' hjd]; exact hG _ _ _ _ hCw k4 (hrw j d hj' hjd)
          · rw [hmm, hl] at h; cases h
          · rw [hzz, hz0] at h; cases h
          · rcases lst j hj with rfl | hj'
            · rw [newv v d hjd]; exact k1
            · rw [oldv v j d hj' hjd]; exact hrv j d hj' hjd
        · obtain ⟨u, hu, hDu⟩ := hpost hz0 hl
          have hbm : reach ops 5 i m = false := by
            cases hb : reach ops 5 i m
            · rfl
            · have := reach_listed hcl hl 5 i hb; rw [hun'] at this; cases this
          refine .inl (Oper.wp_mono ?_ (hob.2 hbm a w u hDu he fun j d hj hjd => hrv j d (lstd j hj) hjd))
          rintro a' w' ⟨v, rfl, k1, k2⟩
          refine ⟨fun _ h => ?_, fun _ _ => ⟨u, fun d hjd => by rw [oldv v m d hl hjd]; exact hu d hjd, k2⟩, fun h => ?_, hd' v, hsz' v, hext' v, fun j d hj hjd => ?_, hcl'⟩
          · rw [hmm, hl] at h; cases h
          · rw [hzz, hz0] at h; cases h
          · rcases lst j hj with rfl | hj'
            · rw [newv v d hjd]; exact k1
            · rw [oldv v j d hj' hjd]; exact hrv j d hj' hjd
  · intro listed a w hall ⟨_, _, hend, hd, hsz, hext, hrv, _⟩
    refine hQ a w (hend (hall z hzlt)) hd hsz (fun t htt => hext t fun j hj => ?_) (fun j d hj => hrv j d (hall j (slot_lt hj)) hj)
    exfalso
    have hlt := slot_lt hj
    have := Array.all_eq_true.1 htt j hlt
    unfold slotOf at hj
    rw [Array.getElem?_eq_getElem hlt] at hj
    simp only [Option.bind_some] at hj
    rw [hj] at this
    simp at this
  · simp at hj
    rw [Array.getElem?_replicate] at hj; split at hj <;> simp at hj
  · simp at h
    rw [Array.getElem?_replicate] at h; split at h <;> simp at h
  · simp at h
    rw [Array.getElem?_replicate] at h; split at h <;> simp at h
  · intro j d hj
    simp at hj
    rw [Array.getElem?_replicate] at hj; split at hj <;> simp at hj
  · intro i j hj
    simp at hj
    rw [Array.getElem?_replicate] at hj; split at hj <;> simp at hj
theorem wp_region_mix {id : Nat} {w0 : World} (mk : List Bool) (hm : P.follows .mixedOrders = true) (ht : tidy ops m z a0.tmps.size = true)
    (hk : maskOk ops mk a0.tmps.size = true)
    (hG : ∀ j v w w', C w → G w w' → Rw j v w → Rw j v w') (hC : C { w0 with drawn := w0.drawn + 1 })
    (hO : OblAll P ops m z a0 C D T G Rv Rw Q 0 ops.toList)
    (hQ : ∀ (f : Nat → Value) w, T w → (∀ j d, slotOf ops j = some d → Rv j (f d)) → Q .normal ⟨(mixL f mk 0 a0.tmps.toList).toArray, a0.defers⟩ w) :
    (Code.region id ops true).wp P Q a0 w0 := by
  refine wp_region_inv hm ht hG hC hO fun a w hD hd hsz hext hrv => ?_
  unfold maskOk at hk
  simp only [Bool.and_eq_true, beq_iff_eq] at hk
  obtain ⟨hml, hmk⟩ := hk
  have e : a = ⟨(mixL (fun t => a.eval (.tmp t)) mk 0 a0.tmps.toList).toArray, a0.defers⟩ := by
    rw [mixL_eq _ _ _ _ (by simpa using hml) ?_]
    · cases a with
      | mk tmps defers =>
        simp only [Act.mk.injEq]
        refine ⟨?_, hd⟩
        apply Array.ext'
        apply List.ext_getElem?
        intro i
        simp only at hsz
        by_cases hi : i < tmps.size
        · have hi' : i < a0.tmps.size := by omega
          simp [hi, hi', Act.eval]
        · have hi' : ¬ i < a0.tmps.size := by omega
          simp [hi, hi']
    · intro i hi
      have hlt : i < a0.tmps.size := by
        have := (List.getElem?_eq_some_iff.1 hi).1; omega
      have h1 := List.all_eq_true.1 hmk i (List.mem_range.2 hlt)
      have h2 : mk.getD i false = false := by simp [List.getD, hi]
      rw [h2, Bool.false_or] at h1
      have h3 := hext i h1
      rw [Nat.zero_add, h3]
      simp [Act.eval, hlt]
  have hQ' := hQ (fun t => a.eval (.tmp t)) w
  rw [← e] at hQ'
  exact hQ' hD fun j d hj => hrv j d hj
end
end Reg8
end Go.Proofs.Ytockhhfehjoldab

/-
Texts in one: what EdgesOf stands on, part 24. Conditions: those of each.
-/
import Derived.Test.YtmbekamnogbgaaaKEdgesOf23
import Derived.Lib.SliceRun
import Derived.Handy

/-
Meshes that are turned over: what the program makes. Conditions: none.
-/
namespace Go.Proofs.Ytmbekamnogbgaaa
open Go Fk Go.RowKit
set_option linter.unusedVariables false
set_option maxRecDepth 8000
def turnRow (t : List Int) : List Int := [t.getD 0 0, t.getD 2 0, t.getD 1 0]
/-- The first k rows are turned, the others are as they were. -/
def mixT (ts : List (List Int)) (k : Nat) : List (List Int) := (ts.take k).map turnRow ++ ts.drop k
theorem mixT_zero (ts : List (List Int)) : mixT ts 0 = ts := by simp [mixT]
theorem mixT_len (ts : List (List Int)) (k : Nat) : (mixT ts k).length = ts.length := by
  unfold mixT; simp; omega
theorem mixT_all (ts : List (List Int)) : mixT ts ts.length = ts.map turnRow := by unfold mixT; simp
theorem mixT_get (ts : List (List Int)) (k j : Nat) (hk : k ≤ ts.length) (hj : j < ts.length) : (mixT ts k).getD j [] = if j < k then turnRow (ts.getD j []) else ts.getD j [] := by
  unfold mixT
  by_cases h : j < k
  · rw [if_pos h]
    simp only [List.getD]
    rw [List.getElem?_append_left (by simp; omega), List.getElem?_map, List.getElem?_take_of_lt h]
    simp [hj]
  · rw [if_neg h]
    have : ((ts.take k).map turnRow).length = k := by simp; omega
    simp only [List.getD]
    rw [List.getElem?_append_right (by omega), this, List.getElem?_drop, show k + (j - k) = j by omega]
def rTt (cs : List C3) (ts : List (List Int)) : List (List Int) := if validB cs ts = true then ts.map turnRow else []
theorem rTt_no {cs : List C3} {ts : List (List Int)} (h : validB cs ts = false) : rTt cs ts = [] := by unfold rTt; rw [if_neg (by rw [h]; decide)]
theorem rTt_yes {cs : List C3} {ts : List (List Int)} (h : validB cs ts = true) : rTt cs ts = ts.map turnRow := by unfold rTt; rw [if_pos h]
theorem turn_wf {t : List Int} (h : ∀ z ∈ t, (Lit.int .i64 z).wf = true) (h3 : t.length = 3) : ∀ z ∈ turnRow t, (Lit.int .i64 z).wf = true := by
  intro z hz
  match t, h3 with
  | [x, y, u], _ =>
    simp [turnRow] at hz
    rcases hz with rfl | rfl | rfl <;> exact h _ (by simp)
theorem mixT_wf {ts : List (List Int)} {n k : Nat} (hn : ts.length = n) (hk : k ≤ n) (h3 : ∀ j, j < n → (ts.getD j []).length = 3) (h : ∀ j, j < n → ∀ z ∈ ts.getD j [], (Lit.int .i64 z).wf = true) : ∀ j, j < n → ∀ z ∈ (mixT ts k).getD j [], (Lit.int .i64 z).wf = true := fun j hj => by
  rw [mixT_get ts k j (by omega) (by omega)]
  by_cases hjk : j < k
  · rw [if_pos hjk]; exact turn_wf (h j hj) (h3 j hj)
  · rw [if_neg hjk]; exact h j hj
theorem mixT_3 {ts : List (List Int)} {n k : Nat} (hn : ts.length = n) (hk : k ≤ n) (h3 : ∀ j, j < n → (ts.getD j []).length = 3) : ∀ j, j < n → ((mixT ts k).getD j []).length = 3 := fun j hj => by
  rw [mixT_get ts k j (by omega) (by omega)]
  by_cases hjk : j < k
  · rw [if_pos hjk]; rfl
  · rw [if_neg hjk]; exact h3 j hj
theorem slices_clone (a : Option Addr) (n c : Nat) (cs : List C3) (w : World) (h : IsVs w a n c cs) (hn : n ≤ 1000) :
    Calls Try.prog 108 #[.slice a n c] w fun e w' => (∃ v xs, e = .returned v ∧ w'.ownsRow w.heap.size 34 3 v n xs ∧ PV n xs cs) ∧ Below w.heap.size w w' := by
  obtain ⟨i0, hi, hz0, hz1, hz2⟩ := info_parts infoV
  obtain ⟨xs, x1, x2, x3, x4⟩ := vs_cells h
  have h0 := h.2.2.2.1
  have X2 := Lib.hid x2
  have X3 := Lib.hid x3
  have X4 := Lib.hid x4
  have X1 := Lib.hid x1
  clear x1 x2 x3 x4 h
  have q : ∀ (w : World) (a : Option Addr) (n c : Nat), (binOp .eql 27 (.slice a n c) (.slice none 0 0)).run Try.prog w = .ok (.bool a.isNone) w := fun w a n c => Lib.run_eql_slice_nil w _ _ a n c 0 0 Try.underlying27
  cases a with
  | none =>
    obtain ⟨rfl, rfl⟩ := h0 rfl
    go_enter Try.func108, Try.ntmps108
    go_wp2
    refine bodyPost_ret (v := .slice none 0 0) (by simp [results, Try.results108, go_sem]) rfl ?_
    exact ⟨⟨_, rfl, [], World.ownsRow_nil _ _ _ _, fun j hj => absurd hj (by omega)⟩, Below.refl _ _⟩
  | some x =>
    have HST := Lib.hid (World.ownsRow_lit (base := w.heap.size) (e := 34) (size := 3) w #[] 0 (Nat.le_refl _) (by decide) rfl)
    go_enter Try.func108, Try.ntmps108
    go_wp2_with (at_builtin; refine wpList_append_opt _ rfl _ _ 27 rfl w.heap.size 34 i0 (.agg #[.float .f32 0, .float .f32 0, .float .f32 0]) 3 12 Try.underlying27 hi hz0 hz1 hz2 rfl (by decide) _ 0 [] rfl HST.out (some x) n c xs rfl (fun h => by cases h) X1.out ?c2 ?c3 ?c4 ?c5 ?c6 ?_)
    case c2 =>
      intro j u hu
      have := X2.out x rfl j u hu
      rw [World.cell?_alloc_lt (h := World.block_lt_of_cell? _ _ this)]
      exact this
    case c3 => exact X3.out
    case c4 => unfold maxLen; omega
    case c5 => omega
    · intro v w1 hown hgrow
      have hown' : w1.ownsRow w.heap.size 34 3 v n xs := by simpa using hown
      have hB1 : Below w.heap.size w w1 := ((Below.refl _ _).alloc (Nat.le_refl _) _).grown hgrow (by simp) (fun k hk => by simp [Value.ownBlock] at hk; omega)
      have HO := Lib.hid hown'
      have HB := Lib.hid hB1
      clear hown hgrow hown' hB1
      go_wp2
      refine bodyPost_ret (v := v) (by simp [results, Try.results108, go_sem]) rfl ?_
      exact ⟨⟨v, xs, rfl, HO.out, X4.out⟩, HB.out⟩
end Go.Proofs.Ytmbekamnogbgaaa


/-
Copies of lists of springs and of numbers that slices.Clone makes. Conditions: at most 2^20 of them.
-/
namespace Go.Proofs.Ytmbekamnogbgaaa
open Go Fk Go.RowKit
set_option linter.unusedVariables false
set_option maxRecDepth 8000

def SPV (n : Nat) (xs : List Value) (ss : List SC) : Prop := ∀ j, j < n → ∃ p q, xs[j * 4]? = some (.int .i64 (ss.getD j s0).1) ∧ xs[j * 4 + 1]? = some (.int .i64 (ss.getD j s0).2.1) ∧ xs[j * 4 + 2]? = some (.float .f32 p) ∧ xs[j * 4 + 3]? = some (.float .f32 q) ∧ FV .f32 p (ss.getD j s0).2.2.1 ∧ FV .f32 q (ss.getD j s0).2.2.2
def FPV (n : Nat) (xs : List Value) (zs : List Nat) : Prop := ∀ j, j < n → xs[j]? = some (.float .f32 (zs.getD j 0))
theorem ss_cells {w : World} {a : Option Addr} {n cap : Nat} {ss : List SC} (h : IsSs w a n cap ss) : ∃ xs : List Value, xs.length = n * 4 ∧ (∀ ad, a = some ad → ∀ j u, xs[j]? = some u → w.cell? (ad.add j) = some u) ∧ (∀ u ∈ xs, u.oneCell' = true) ∧ SPV n xs ss := by
  obtain ⟨h1, h2, h3, h4', h4, h5⟩ := h
  cases a with
  | none =>
    obtain ⟨rfl, _⟩ := h4 rfl
    exact ⟨[], rfl, ⟨fun _ had => (by cases had), fun u hu => absurd hu (by simp), fun j hj => absurd hj (by omega)⟩⟩
  | some x =>
    have hc : ∀ j, j < n * 4 → ∃ u, w.cell? (x.add j) = some u ∧ u.oneCell' = true := by
      intro j hj
      obtain ⟨p, q, k0, k1, k2, k3, _⟩ := h5 x rfl (j / 4) (by omega)
      have : j = j / 4 * 4 ∨ j = j / 4 * 4 + 1 ∨ j = j / 4 * 4 + 2 ∨ j = j / 4 * 4 + 3 := by omega
      rcases this with e | e | e | e
      · exact ⟨_, by rw [e]; exact k0, rfl⟩
      · exact ⟨_, by rw [e]; exact k1, rfl⟩
      · exact ⟨_, by rw [e]; exact k2, rfl⟩
      · exact ⟨_, by rw [e]; exact k3, rfl⟩
    refine ⟨(List.range (n * 4)).map fun j => (w.cell? (x.add j)).getD undef, by simp, fun ad had j u hu => ?_, fun u hu => ?_, fun j hj => ?_⟩
    · cases had
      have hj : j < n * 4 := by have := (List.getElem?_eq_some_iff.1 hu).1; simpa using this
      obtain ⟨p, hp, _⟩ := hc j hj
      simp [hj, hp] at hu
      rw [hp, ← hu]
    · obtain ⟨j, hj, rfl⟩ := List.mem_map.1 hu
      obtain ⟨p, hp, ho⟩ := hc j (List.mem_range.1 hj)
      rw [hp]; exact ho
    · obtain ⟨p, q, k0, k1, k2, k3, hf⟩ := h5 x rfl j hj
      have g0 : j * 4 < n * 4 := by omega
      have g1 : j * 4 + 1 < n * 4 := by omega
      have g2 : j * 4 + 2 < n * 4 := by omega
      have g3 : j * 4 + 3 < n * 4 := by omega
      exact ⟨p, q, by simp [g0, k0], by simp [g1, k1], by simp [g2, k2], by simp [g3, k3], hf⟩
theorem fs_cells {w : World} {a : Option Addr} {n cap : Nat} {zs : List Nat} (h : IsFs .f32 w a n cap zs) : ∃ xs : List Value, xs.length = n * 1 ∧ (∀ ad, a = some ad → ∀ j u, xs[j]? = some u → w.cell? (ad.add j) = some u) ∧ (∀ u ∈ xs, u.oneCell' = true) ∧ FPV n xs zs := by
  obtain ⟨h1, h2, h3, h4', h4, h5⟩ := h
  refine ⟨zs.map (.float .f32), by simp [h1], fun ad had j u hu => ?_, fun u hu => ?_, fun j hj => ?_⟩
  · have hj : j < n := by have := (List.getElem?_eq_some_iff.1 hu).1; rw [← h1]; simpa using this
    have := h5 ad had j hj
    rw [this, ← hu]
    have hz : j < zs.length := by omega
    simp [List.getD, hz]
  · obtain ⟨z, _, rfl⟩ := List.mem_map.1 hu
    rfl
  · have hz : j < zs.length := by omega
    simp [List.getD, hz]
theorem lst_of_ownsG {w : World} {base size n c : Nat} {e : TypeId} {a : Option Addr} {xs : List Value} (h : w.ownsRow base e size (.slice a n c) n xs) : Lst base w.heap.size w a (n * size) := by
  have h' := h
  rcases h.2 with ⟨e, e0⟩ | ⟨g, cap, cur, e, hb, hh, hc1, hc2, hs, ht⟩
  · cases e; exact .inl ⟨rfl, by rw [e0, Nat.zero_mul]⟩
  · obtain ⟨g1, g2⟩ := h'.lt g (by rw [e]; rfl)
    cases e
    refine .inr ⟨g, rfl, g1, g2, g2, fun j hj => ⟨?_, by rw [Nat.zero_add]; exact h'.frozenAt j⟩⟩
    rw [Nat.zero_add, h'.cellAt j hj]
    have : j < xs.length := by rw [h'.1]; exact hj
    exact ⟨_, List.getElem?_eq_getElem this⟩
theorem ss_of_owns {w : World} {base n : Nat} {v : Value} {xs : List Value} {ss : List SC} (h : w.ownsRow base 171 4 v n xs) (hn : ss.length = n) (hp : SPV n xs ss) (hwf : ∀ s ∈ ss, (Lit.int .i64 s.1).wf = true ∧ (Lit.int .i64 s.2.1).wf = true) : ∃ a cap, v = .slice a n cap ∧ IsSs w a n cap ss ∧ Lst base w.heap.size w a (n * 4) := by
  have h' := h
  rcases h.2 with ⟨rfl, hn0⟩ | ⟨g, cap, cur, rfl, hb, hh, hc1, hc2, hs, ht⟩
  · exact ⟨none, 0, by rw [hn0], ⟨hn, by omega, by unfold maxLen; omega, hwf, fun _ => ⟨hn0, rfl⟩, fun x hx => by cases hx⟩, .inl ⟨rfl, by omega⟩⟩
  · refine ⟨_, cap, rfl, ⟨hn, hc1, hc2, hwf, by simp, fun x hx i hi => ?_⟩, lst_of_ownsG h'⟩
    cases hx
    obtain ⟨p, q, e0, e1, e2, e3, hf⟩ := hp i hi
    exact ⟨p, q, by rw [addr_add', Nat.zero_add, h'.cellAt _ (by omega)]; exact e0, by rw [addr_add', Nat.zero_add, h'.cellAt _ (by omega)]; exact e1, by rw [addr_add', Nat.zero_add, h'.cellAt _ (by omega)]; exact e2, by rw [addr_add', Nat.zero_add, h'.cellAt _ (by omega)]; exact e3, hf⟩
theorem fs_of_owns {w : World} {base n : Nat} {v : Value} {xs : List Value} {zs : List Nat} (h : w.ownsRow base 31 1 v n xs) (hn : zs.length = n) (hp : FPV n xs zs) (hwf : ∀ z ∈ zs, z < 2 ^ FloatKind.f32.format.width) : ∃ a cap, v = .slice a n cap ∧ IsFs .f32 w a n cap zs ∧ Lst base w.heap.size w a n := by
  have h' := h
  rcases h.2 with ⟨rfl, hn0⟩ | ⟨g, cap, cur, rfl, hb, hh, hc1, hc2, hs, ht⟩
  · exact ⟨none, 0, by rw [hn0], ⟨hn, by omega, by unfold maxLen; omega, hwf, fun _ => ⟨hn0, rfl⟩, fun x hx => by cases hx⟩, .inl ⟨rfl, by omega⟩⟩
  · refine ⟨_, cap, rfl, ⟨hn, hc1, hc2, hwf, by simp, fun x hx i hi => ?_⟩, by have := lst_of_ownsG h'; rwa [Nat.mul_one] at this⟩
    cases hx
    rw [addr_add', Nat.zero_add, h'.cellAt _ (by omega)]
    exact hp i hi
theorem clone_springs (a : Option Addr) (n c : Nat) (ss : List SC) (w : World) (h : IsSs w a n c ss) (hn : n ≤ 1048576) :
    Calls Try.prog 143 #[.slice a n c] w fun e w' => (∃ v xs, e = .returned v ∧ w'.ownsRow w.heap.size 171 4 v n xs ∧ SPV n xs ss) ∧ Below w.heap.size w w' := by
  obtain ⟨i0, hi, hz0, hz1, hz2⟩ := info_parts infoSp
  obtain ⟨xs, x1, x2, x3, x4⟩ := ss_cells h
  have h0 := h.2.2.2.2.1
  have X2 := Lib.hid x2
  have X3 := Lib.hid x3
  have X4 := Lib.hid x4
  have X1 := Lib.hid x1
  clear x1 x2 x3 x4 h
  have q : ∀ (w : World) (a : Option Addr) (n c : Nat), (binOp .eql 30 (.slice a n c) (.slice none 0 0)).run Try.prog w = .ok (.bool a.isNone) w := fun w a n c => Lib.run_eql_slice_nil w _ _ a n c 0 0 Try.underlying30
  cases a with
  | none =>
    obtain ⟨rfl, rfl⟩ := h0 rfl
    go_enter Try.func143, Try.ntmps143
    go_wp2
    refine bodyPost_ret (v := .slice none 0 0) (by simp [results, Try.results143, go_sem]) rfl ?_
    exact ⟨⟨_, rfl, [], World.ownsRow_nil _ _ _ _, fun j hj => absurd hj (by omega)⟩, Below.refl _ _⟩
  | some x =>
    have HST := Lib.hid (World.ownsRow_lit (base := w.heap.size) (e := 171) (size := 4) w #[] 0 (Nat.le_refl _) (by decide) rfl)
    go_enter Try.func143, Try.ntmps143
    go_wp2_with (at_builtin; refine wpList_append_opt _ rfl _ _ 30 rfl w.heap.size 171 i0 (.agg #[.int .i64 0, .int .i64 0, .float .f32 0, .float .f32 0]) 4 24 Try.underlying30 hi hz0 hz1 hz2 rfl (by decide) _ 0 [] rfl HST.out (some x) n c xs rfl (fun h => by cases h) X1.out ?c2 ?c3 ?c4 ?c5 ?c6 ?_)
    case c2 =>
      intro j u hu
      have := X2.out x rfl j u hu
      rw [World.cell?_alloc_lt (h := World.block_lt_of_cell? _ _ this)]
      exact this
    case c3 => exact X3.out
    case c4 => unfold maxLen; omega
    case c5 => omega
    · intro v w1 hown hgrow
      have hown' : w1.ownsRow w.heap.size 171 4 v n xs := by simpa using hown
      have hB1 : Below w.heap.size w w1 := ((Below.refl _ _).alloc (Nat.le_refl _) _).grown hgrow (by simp) (fun k hk => by simp [Value.ownBlock] at hk; omega)
      have HO := Lib.hid hown'
      have HB := Lib.hid hB1
      clear hown hgrow hown' hB1
      go_wp2
      refine bodyPost_ret (v := v) (by simp [results, Try.results143, go_sem]) rfl ?_
      exact ⟨⟨v, xs, rfl, HO.out, X4.out⟩, HB.out⟩
theorem clone_floats (a : Option Addr) (n c : Nat) (zs : List Nat) (w : World) (h : IsFs .f32 w a n c zs) (hn : n ≤ 1048576) :
    Calls Try.prog 144 #[.slice a n c] w fun e w' => (∃ v xs, e = .returned v ∧ w'.ownsRow w.heap.size 31 1 v n xs ∧ FPV n xs zs) ∧ Below w.heap.size w w' := by
  obtain ⟨i0, hi, hz0, hz1, hz2⟩ := info_parts info32
  obtain ⟨xs, x1, x2, x3, x4⟩ := fs_cells h
  have h0 := h.2.2.2.2.1
  have X2 := Lib.hid x2
  have X3 := Lib.hid x3
  have X4 := Lib.hid x4
  have X1 := Lib.hid x1
  clear x1 x2 x3 x4 h
  have q : ∀ (w : World) (a : Option Addr) (n c : Nat), (binOp .eql 32 (.slice a n c) (.slice none 0 0)).run Try.prog w = .ok (.bool a.isNone) w := fun w a n c => Lib.run_eql_slice_nil w _ _ a n c 0 0 Try.underlying32
  cases a with
  | none =>
    obtain ⟨rfl, rfl⟩ := h0 rfl
    go_enter Try.func144, Try.ntmps144
    go_wp2
    refine bodyPost_ret (v := .slice none 0 0) (by simp [results, Try.results144, go_sem]) rfl ?_
    exact ⟨⟨_, rfl, [], World.ownsRow_nil _ _ _ _, fun j hj => absurd hj (by omega)⟩, Below.refl _ _⟩
  | some x =>
    have HST := Lib.hid (World.ownsRow_lit (base := w.heap.size) (e := 31) (size := 1) w #[] 0 (Nat.le_refl _) (by decide) rfl)
    go_enter Try.func144, Try.ntmps144
    go_wp2_with (at_builtin; refine wpList_append_opt _ rfl _ _ 32 rfl w.heap.size 31 i0 (.float .f32 0) 1 4 Try.underlying32 hi hz0 hz1 hz2 rfl (by decide) _ 0 [] rfl HST.out (some x) n c xs rfl (fun h => by cases h) X1.out ?c2 ?c3 ?c4 ?c5 ?c6 ?_)
    case c2 =>
      intro j u hu
      have := X2.out x rfl j u hu
      rw [World.cell?_alloc_lt (h := World.block_lt_of_cell? _ _ this)]
      exact this
    case c3 => exact X3.out
    case c4 => unfold maxLen; omega
    case c5 => omega
    · intro v w1 hown hgrow
      have hown' : w1.ownsRow w.heap.size 31 1 v n xs := by simpa using hown
      have hB1 : Below w.heap.size w w1 := ((Below.refl _ _).alloc (Nat.le_refl _) _).grown hgrow (by simp) (fun k hk => by simp [Value.ownBlock] at hk; omega)
      have HO := Lib.hid hown'
      have HB := Lib.hid hB1
      clear hown hgrow hown' hB1
      go_wp2
      refine bodyPost_ret (v := v) (by simp [results, Try.results144, go_sem]) rfl ?_
      exact ⟨⟨v, xs, rfl, HO.out, X4.out⟩, HB.out⟩
end Go.Proofs.Ytmbekamnogbgaaa


/-
A box that is filled, and the result's box. Conditions: none.
-/
namespace Go.Proofs.Ytmbekamnogbgaaa
open Go Fk Go.RowKit
set_option linter.unusedVariables false
set_option maxRecDepth 8000

structure Tc (w : World) (bo br : Nat) (lo lr : List Value) (w1 : World) : Prop where
  out : At w1 bo lo
  res : At w1 br lr
  fo : ∀ i, w1.frozen? ⟨bo, i, none⟩ = false
  fr : ∀ i, w1.frozen? ⟨br, i, none⟩ = false
  bel : Below w.heap.size w w1
  ge : w.heap.size ≤ bo ∧ w.heap.size ≤ br ∧ bo ≠ br
  lt : bo < w1.heap.size ∧ br < w1.heap.size
theorem Tc.call {w w1 w2 : World} {bo br : Nat} {lo lr : List Value} (h : Tc w bo br lo lr w1) (hB : Below w1.heap.size w1 w2) : Tc w bo br lo lr w2 :=
  ⟨h.out.below hB, h.res.below hB, fun i => by rw [hB.frozen (p := ⟨bo, i, none⟩) h.lt.1]; exact h.fo i,
    fun i => by rw [hB.frozen (p := ⟨br, i, none⟩) h.lt.2]; exact h.fr i, h.bel.trans (hB.mono h.bel.size), h.ge, Nat.lt_of_lt_of_le h.lt.1 hB.size, Nat.lt_of_lt_of_le h.lt.2 hB.size⟩
theorem Tc.put {w w1 : World} {bo br : Nat} {lo lr vs : List Value} (h : Tc w bo br lo lr w1) (o : Nat) (hl : o + vs.length ≤ lo.length) : Tc w bo br (lo.take o ++ vs ++ lo.drop (o + vs.length)) lr (setL w1 bo o vs) :=
  ⟨at_setL h.out hl, at_setL_far h.res h.ge.2.2, fun i => by rw [setL_frozen]; exact h.fo i, fun i => by rw [setL_frozen]; exact h.fr i,
    setL_below _ h.ge.1 _ _ _ h.bel, h.ge, by rw [setL_size]; exact h.lt⟩
theorem Tc.fin {w w1 : World} {bo br : Nat} {lo lr vs' : List Value} (h : Tc w bo br lo lr w1) (hl : vs'.length = lr.length) : At (setL w1 br 0 vs') br vs' ∧ Below w.heap.size w (setL w1 br 0 vs') := by
  refine ⟨?_, setL_below _ h.ge.2.1 _ _ _ h.bel⟩
  have := at_setL (vs := vs') (o := 0) h.res (by omega)
  simpa [hl] using this
/-- All blocks but the two that are filled. -/
def Sy (bo br b : Nat) : Prop := b ≠ bo ∧ b ≠ br
theorem Sy.out {bo br : Nat} : ¬ Sy bo br bo := fun h => h.1 rfl
theorem Sy.res {bo br : Nat} : ¬ Sy bo br br := fun h => h.2 rfl
theorem Sy.new {bo br lo hi : Nat} (h1 : bo < lo) (h2 : br < lo) : ∀ b, lo ≤ b → b < hi → Sy bo br b := fun b k1 _ => ⟨by omega, by omega⟩
theorem GM.widen {lo hi lo' hi' pl tl F : Nat} {w : World} {pa ta : Option Addr} (h : GM lo hi w pa ta pl tl F) (h1 : lo' ≤ lo) (h2 : hi ≤ hi') : GM lo' hi' w pa ta pl tl F :=
  ⟨h.1.imp id fun ⟨b, e, ho⟩ => ⟨b, e, ho.widen h1 h2⟩, h.2.1.imp id fun ⟨R, e, k1, k2, k3, k4, k5, k6⟩ => ⟨R, e, by omega, by omega, k3, k4, k5, k6.widen h1 h2⟩, h.2.2⟩
theorem lst_widen {lo hi lo' hi' n : Nat} {w : World} {a : Option Addr} (h : Lst lo hi w a n) (h1 : lo' ≤ lo) (h2 : hi ≤ hi') : Lst lo' hi' w a n :=
  h.imp id fun ⟨b, e, ho⟩ => ⟨b, e, ho.widen h1 h2⟩
/-- Parts that lie apart make a body that was made. -/
theorem gb_of {lo h1 h2 h3 h4 F : Nat} {w : World} {B : Bd} (m : GM lo h1 w B.pa B.ta B.pl B.tl F) (hF : F < h1 ∨ B.tl = 0) (s : Lst h1 h2 w B.sa (B.sl * 4)) (g : Lst h2 h3 w B.wa B.wl) (h12 : h1 ≤ h2) (h23 : h2 ≤ h3) (h34 : h3 ≤ h4) (hlo : lo ≤ h1) (hF' : F < h1) : GB lo h4 w B F := by
  have lp := lst_lv m.1
  have lt := m.lt
  have ls := lst_lv s
  have lg := lst_lv g
  refine ⟨m.widen (Nat.le_refl _) (by omega), lst_widen s (by omega) (by omega), lst_widen g (by omega) (by omega), fun X e => ?_, fun X e => ?_⟩
  · obtain ⟨x, ex, x1, x2⟩ := ls _ e
    cases ex
    refine ⟨by omega, fun e' => ?_, fun e' => ?_, fun e' => ?_⟩
    · obtain ⟨y, ey, y1, y2⟩ := lp _ e'; cases ey; omega
    · obtain ⟨y, ey, y1, y2, _⟩ := lt _ e'; cases ey; omega
    · obtain ⟨y, ey, y1, y2⟩ := lg _ e'; cases ey; omega
  · obtain ⟨x, ex, x1, x2⟩ := lg _ e
    cases ex
    refine ⟨by omega, fun e' => ?_, fun e' => ?_⟩
    · obtain ⟨y, ey, y1, y2⟩ := lp _ e'; cases ey; omega
    · obtain ⟨y, ey, y1, y2, _⟩ := lt _ e'; cases ey; omega
end Go.Proofs.Ytmbekamnogbgaaa

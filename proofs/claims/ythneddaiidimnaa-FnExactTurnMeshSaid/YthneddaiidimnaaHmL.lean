
/-
Meshes that are turned over: what the program makes. Conditions: none.
-/
import Derived.Test.YthneddaiidimnaaHmH
import Derived.Test.YthneddaiidimnaaHmJ0
import Derived.Lib.SliceRun
namespace Go.Proofs.Ythneddaiidimnaa
open Go Fk Go.RowKit
set_option linter.unusedVariables false
set_option maxRecDepth 8000
def turnRow (t : List Int) : List Int := [t.getD 0 0, t.getD 2 0, t.getD 1 0]
/-- The first k rows are turned, the others are as they were. -/
def mixT (ts : List (List Int)) (k : Nat) : List (List Int) := (ts.take k).map turnRow ++ ts.drop k
theorem mixT_zero (ts : List (List Int)) : mixT ts 0 = ts := by simp [mixT]
theorem mixT_len (ts : List (List Int)) (k : Nat) : (mixT ts k).length = ts.length := by
  unfold mixT; simp; omega
theorem mixT_all (ts : List (List Int)) : mixT ts ts.length = ts.map turnRow := by unfold mixT; simp
theorem mixT_get (ts : List (List Int)) (k j : Nat) (hk : k ≤ ts.length) (hj : j < ts.length) : (mixT ts k).getD j [] = if j < k then turnRow (ts.getD j []) else ts.getD j [] := by
  unfold mixT
  by_cases h : j < k
  · rw [if_pos h]
    simp only [List.getD]
    rw [List.getElem?_append_left (by simp; omega), List.getElem?_map, List.getElem?_take_of_lt h]
    simp [hj]
  · rw [if_neg h]
    have : ((ts.take k).map turnRow).length = k := by simp; omega
    simp only [List.getD]
    rw [List.getElem?_append_right (by omega), this, List.getElem?_drop, show k + (j - k) = j by omega]
def rTt (cs : List C3) (ts : List (List Int)) : List (List Int) := if validB cs ts = true then ts.map turnRow else []
theorem rTt_no {cs : List C3} {ts : List (List Int)} (h : validB cs ts = false) : rTt cs ts = [] := by unfold rTt; rw [if_neg (by rw [h]; decide)]
theorem rTt_yes {cs : List C3} {ts : List (List Int)} (h : validB cs ts = true) : rTt cs ts = ts.map turnRow := by unfold rTt; rw [if_pos h]
theorem turn_wf {t : List Int} (h : ∀ z ∈ t, (Lit.int .i64 z).wf = true) (h3 : t.length = 3) : ∀ z ∈ turnRow t, (Lit.int .i64 z).wf = true := by
  intro z hz
  match t, h3 with
  | [x, y, u], _ =>
    simp [turnRow] at hz
    rcases hz with rfl | rfl | rfl <;> exact h _ (by simp)
theorem mixT_wf {ts : List (List Int)} {n k : Nat} (hn : ts.length = n) (hk : k ≤ n) (h3 : ∀ j, j < n → (ts.getD j []).length = 3) (h : ∀ j, j < n → ∀ z ∈ ts.getD j [], (Lit.int .i64 z).wf = true) : ∀ j, j < n → ∀ z ∈ (mixT ts k).getD j [], (Lit.int .i64 z).wf = true := fun j hj => by
  rw [mixT_get ts k j (by omega) (by omega)]
  by_cases hjk : j < k
  · rw [if_pos hjk]; exact turn_wf (h j hj) (h3 j hj)
  · rw [if_neg hjk]; exact h j hj
theorem mixT_3 {ts : List (List Int)} {n k : Nat} (hn : ts.length = n) (hk : k ≤ n) (h3 : ∀ j, j < n → (ts.getD j []).length = 3) : ∀ j, j < n → ((mixT ts k).getD j []).length = 3 := fun j hj => by
  rw [mixT_get ts k j (by omega) (by omega)]
  by_cases hjk : j < k
  · rw [if_pos hjk]; rfl
  · rw [if_neg hjk]; exact h3 j hj
theorem slices_clone (a : Option Addr) (n c : Nat) (cs : List C3) (w : World) (h : IsVs w a n c cs) (hn : n ≤ 1000) :
    Calls Try.prog 95 #[.slice a n c] w fun e w' => (∃ v xs, e = .returned v ∧ w'.ownsRow w.heap.size 26 3 v n xs ∧ PV n xs cs) ∧ Below w.heap.size w w' := by
  obtain ⟨i0, hi, hz0, hz1, hz2⟩ := info_parts infoV
  obtain ⟨xs, x1, x2, x3, x4⟩ := vs_cells h
  have h0 := h.2.2.2.1
  have X2 := Lib.hid x2
  have X3 := Lib.hid x3
  have X4 := Lib.hid x4
  have X1 := Lib.hid x1
  clear x1 x2 x3 x4 h
  have q : ∀ (w : World) (a : Option Addr) (n c : Nat), (binOp .eql 29 (.slice a n c) (.slice none 0 0)).run Try.prog w = .ok (.bool a.isNone) w := fun w a n c => Lib.run_eql_slice_nil w _ _ a n c 0 0 Try.underlying29
  cases a with
  | none =>
    obtain ⟨rfl, rfl⟩ := h0 rfl
    go_enter Try.func95, Try.ntmps95
    go_wp2
    refine bodyPost_ret (v := .slice none 0 0) (by simp [results, Try.results95, go_sem]) rfl ?_
    exact ⟨⟨_, rfl, [], World.ownsRow_nil _ _ _ _, fun j hj => absurd hj (by omega)⟩, Below.refl _ _⟩
  | some x =>
    have HST := Lib.hid (World.ownsRow_lit (base := w.heap.size) (e := 26) (size := 3) w #[] 0 (Nat.le_refl _) (by decide) rfl)
    go_enter Try.func95, Try.ntmps95
    go_wp2_with (at_builtin; refine wpList_append_opt _ rfl _ _ 29 rfl w.heap.size 26 i0 (.agg #[.float .f32 0, .float .f32 0, .float .f32 0]) 3 12 Try.underlying29 hi hz0 hz1 hz2 rfl (by decide) _ 0 [] rfl HST.out (some x) n c xs rfl (fun h => by cases h) X1.out ?c2 ?c3 ?c4 ?c5 ?c6 ?_)
    case c2 =>
      intro j u hu
      have := X2.out x rfl j u hu
      rw [World.cell?_alloc_lt (h := World.block_lt_of_cell? _ _ this)]
      exact this
    case c3 => exact X3.out
    case c4 => unfold maxLen; omega
    case c5 => omega
    · intro v w1 hown hgrow
      have hown' : w1.ownsRow w.heap.size 26 3 v n xs := by simpa using hown
      have hB1 : Below w.heap.size w w1 := ((Below.refl _ _).alloc (Nat.le_refl _) _).grown hgrow (by simp) (fun k hk => by simp [Value.ownBlock] at hk; omega)
      have HO := Lib.hid hown'
      have HB := Lib.hid hB1
      clear hown hgrow hown' hB1
      go_wp2
      refine bodyPost_ret (v := v) (by simp [results, Try.results95, go_sem]) rfl ?_
      exact ⟨⟨v, xs, rfl, HO.out, X4.out⟩, HB.out⟩
end Go.Proofs.Ythneddaiidimnaa

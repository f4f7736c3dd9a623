
/-
Grids: their places and triangles, and what is asked of their numbers. Conditions: none.
-/
import Derived.Test.YtljpjmkickkcpabFiA
import Derived.Test.YtljpjmkickkcpabL0
import Derived.Test.YtljpjmkickkcpabHoM
namespace Go.Proofs.Ytljpjmkickkcpab
open Go Fk Go.RowKit
set_option linter.unusedVariables false
set_option maxRecDepth 8000
theorem fv_int32 (n : Int) : FV .f32 (floatOfInt .f32 n) (some (floatOfInt .f32 n)) :=
  ⟨FloatKind.f32.format.write_lt (.number (n < 0) n.natAbs 0), cls_num (isNaN_write .f32 (.number (n < 0) n.natAbs 0) rfl)⟩
theorem fv00 : FV .f32 0 (some 0) := ⟨by decide, by decide⟩
def countB (n : Int) : Bool := decide (1 ≤ n ∧ n < 64)
theorem impl_isCount (n : Int) (w : World) :
    Calls Try.prog 92 #[.int .i64 n] w fun e w' => e = .returned (.bool (countB n)) ∧ w' = w := by
  unfold countB
  by_cases h : 1 ≤ n
  · by_cases h2 : n < 64
    · rw [decide_eq_true ⟨h, h2⟩]
      go_enter Try.func92, Try.ntmps92
      go_wp2
      go_ret
      exact ⟨ret_bool (by simp), rfl⟩
    · rw [decide_eq_false (fun k => h2 k.2)]
      go_enter Try.func92, Try.ntmps92
      go_wp2
      go_ret
      exact ⟨ret_bool (by first | (simp; done) | (simp; omega)), rfl⟩
  · rw [decide_eq_false (fun k => h k.1)]
    go_enter Try.func92, Try.ntmps92
    go_wp2
    go_ret
    exact ⟨rfl, rfl⟩
theorem l00In' (n a b : Int) (w : World) :
    Calls Try.prog 89 #[.int .i64 n, .int .i64 a, .int .i64 b] w fun e w' => e = .returned (.bool (decide (a ≤ n ∧ n ≤ b))) ∧ w' = w := by
  by_cases h1 : a ≤ n
  · by_cases h2 : n ≤ b
    · rw [decide_eq_true (And.intro h1 h2)]
      go_enter Try.func89, Try.ntmps89
      go_wp2
      go_ret
      exact ⟨ret_bool (by simp), rfl⟩
    · rw [decide_eq_false (fun h => h2 h.2)]
      go_enter Try.func89, Try.ntmps89
      go_wp2
      go_ret
      exact ⟨ret_bool (by simp), rfl⟩
  · rw [decide_eq_false (fun h => h1 h.1)]
    go_enter Try.func89, Try.ntmps89
    go_wp2
    go_ret
    exact ⟨rfl, rfl⟩
/-- The place with the number p of a grid of rows of W places. -/
def gridC (z : Option Nat) (W p : Nat) : C3 := (fop .mul .f32 (some (floatOfInt .f32 ((p % W : Nat) : Int))) z, fop .mul .f32 (some (floatOfInt .f32 ((p / W : Nat) : Int))) z, some 0)
def gridI (v q : Nat) : Int := ((q % v + (v + 1) * (q / v) : Nat) : Int)
/-- The triangle with the number k of a grid of v cells in a row. -/
def triG (v k : Nat) : List Int := if k % 2 = 0 then [gridI v (k / 2), gridI v (k / 2) + 1, gridI v (k / 2) + v + 1 + 1] else [gridI v (k / 2), gridI v (k / 2) + v + 1 + 1, gridI v (k / 2) + v + 1]
def gridCs (z : Option Nat) (v h : Nat) : List C3 := (List.range ((h + 1) * (v + 1))).map (gridC z (v + 1))
def gridTs (v h : Nat) : List (List Int) := (List.range (h * v * 2)).map (triG v)
theorem gridCs_len (z : Option Nat) (v h : Nat) : (gridCs z v h).length = (h + 1) * (v + 1) := by unfold gridCs; simp
theorem gridTs_len (v h : Nat) : (gridTs v h).length = h * v * 2 := by unfold gridTs; simp
theorem gridTs_get {v h k : Nat} (hk : k < h * v * 2) : (gridTs v h).getD k [] = triG v k := by unfold gridTs; simp [List.getD, hk]
theorem gridCs_get {z : Option Nat} {v h k : Nat} (hk : k < (h + 1) * (v + 1)) : (gridCs z v h).getD k c0 = gridC z (v + 1) k := by unfold gridCs; simp [List.getD, hk]
theorem triG_len (v k : Nat) : (triG v k).length = 3 := by unfold triG; split <;> rfl
theorem gridI_at {v x y : Nat} (hx : x < v) : gridI v (y * v + x) = (x : Int) + ((v : Int) + 1) * y := by
  unfold gridI
  have h1 : (y * v + x) % v = x := by rw [Nat.mul_comm, Nat.mul_add_mod]; exact Nat.mod_eq_of_lt hx
  have h2 : (y * v + x) / v = y := by rw [Nat.mul_comm, Nat.mul_add_div (by omega)]; simp [Nat.div_eq_of_lt hx]
  rw [h1, h2]; push_cast; rfl
theorem gridC_at {z : Option Nat} {W x y : Nat} (hx : x < W) : gridC z W (y * W + x) = (fop .mul .f32 (some (floatOfInt .f32 (x : Int))) z, fop .mul .f32 (some (floatOfInt .f32 (y : Int))) z, some 0) := by
  unfold gridC
  have h1 : (y * W + x) % W = x := by rw [Nat.mul_comm, Nat.mul_add_mod]; exact Nat.mod_eq_of_lt hx
  have h2 : (y * W + x) / W = y := by rw [Nat.mul_comm, Nat.mul_add_div (by omega)]; simp [Nat.div_eq_of_lt hx]
  rw [h1, h2]
theorem grid_q {v h x y : Nat} (hx : x < v) (hy : y < h) : y * v + x < h * v := by
  have : (y + 1) * v ≤ h * v := Nat.mul_le_mul_right _ hy
  rw [Nat.add_mul] at this; omega
theorem flat_step {v h q : Nat} (hq : q < h * v) {g : Int} (hg : gridI v q = g) : flatV (gridTs v h) ((q + 1) * 2) = flatV (gridTs v h) (q * 2) ++ [.int .i64 g, .int .i64 (g + 1), .int .i64 (g + v + 1 + 1), .int .i64 g, .int .i64 (g + v + 1 + 1), .int .i64 (g + v + 1)] := by
  have e1 : (gridTs v h).getD (q * 2) [] = [g, g + 1, g + v + 1 + 1] := by
    rw [gridTs_get (by omega)]; unfold triG; rw [if_pos (by omega), show q * 2 / 2 = q by omega, hg]
  have e2 : (gridTs v h).getD (q * 2 + 1) [] = [g, g + v + 1 + 1, g + v + 1] := by
    rw [gridTs_get (by omega)]; unfold triG; rw [if_neg (by omega), show (q * 2 + 1) / 2 = q by omega, hg]
  rw [show (q + 1) * 2 = q * 2 + 1 + 1 by omega]
  show flatV (gridTs v h) (q * 2) ++ _ ++ _ = _
  rw [e1, e2, List.append_assoc]
  rfl
theorem grid_wf {v h : Nat} (hv : v < 64) (hh : h < 64) : ∀ j, j < (gridTs v h).length → ∀ z ∈ (gridTs v h).getD j [], (Lit.int .i64 z).wf = true := fun j hj z hz => by
  rw [gridTs_len] at hj
  rw [gridTs_get hj] at hz
  have hq : j / 2 < h * v := by omega
  have h1 : gridI v (j / 2) ≤ 4096 := by
    unfold gridI
    have h2 : j / 2 / v < h := Nat.div_lt_of_lt_mul (by rw [Nat.mul_comm]; exact hq)
    have h3 : (v + 1) * (j / 2 / v) ≤ 64 * 62 := Nat.mul_le_mul (by omega) (by omega)
    have hp : 0 < v := by
      rcases Nat.eq_zero_or_pos v with e | e
      · rw [e, Nat.mul_zero] at hq; omega
      · exact e
    have h4 : j / 2 % v < v := Nat.mod_lt _ hp
    omega
  have h0 : 0 ≤ gridI v (j / 2) := by unfold gridI; omega
  refine WalkArith.wf_i64 ?_
  unfold triG at hz
  split at hz <;> simp at hz <;> omega
/-- Rows that lie beside one another in one list of one's own. -/
theorem cs_of_owns {w : World} {base cb c n : Nat} {ts : List (List Int)} (h : w.ownsRow base 91 3 (.slice (some ⟨cb, 0, none⟩) n c) n (flatV ts n)) : IsCs w cb n ts := fun k hk => by
  refine ⟨?_, ?_, ?_⟩
  · rw [h.cellAt _ (by omega)]; have := flatV_get ts n k 0 hk (by decide); simpa using this
  · rw [h.cellAt _ (by omega)]; exact flatV_get ts n k 1 hk (by decide)
  · rw [h.cellAt _ (by omega)]; exact flatV_get ts n k 2 hk (by decide)
theorem owns_block {w : World} {base n s : Nat} {e : TypeId} {v : Value} {xs : List Value} (h : w.ownsRow base e s v n xs) (hn : 0 < n) : ∃ g c, v = .slice (some ⟨g, 0, none⟩) n c := by
  rcases h.2 with ⟨_, e⟩ | ⟨g, c, _, rfl, _⟩
  · omega
  · exact ⟨g, c, rfl⟩
theorem rT_3' (cs : List C3) (ts : List (List Int)) : ∀ j, j < (rT cs ts).length → ((rT cs ts).getD j []).length = 3 := by
  cases hv : validB cs ts
  · rw [rT_no hv]; intro j hj; simp at hj
  · rw [rT_yes hv]; exact rows3h hv
theorem rV_len' (f : C3 → C3) (cs : List C3) (ts : List (List Int)) : (rV f cs ts).length ≤ 64 ∧ (rT cs ts).length ≤ 128 := by
  cases hv : validB cs ts
  · rw [rV_no hv, rT_no hv]; simp
  · rw [rV_yes hv, rT_yes hv, List.length_map]; exact valid_pl hv
theorem PVf.snoc {k : Nat} {xs : List Value} {F : Nat → C3} (h : PVf k xs F) (hl : xs.length = k * 3) {p q r : Nat} (hf : FV .f32 p (F k).1 ∧ FV .f32 q (F k).2.1 ∧ FV .f32 r (F k).2.2) :
    PVf (k + 1) (xs ++ [.float .f32 p, .float .f32 q, .float .f32 r]) F := fun j hj => by
  by_cases hjk : j = k
  · subst hjk
    refine ⟨p, q, r, ?_, ?_, ?_, hf⟩
    · rw [List.getElem?_append_right (by omega), hl]; simp
    · rw [List.getElem?_append_right (by omega), hl, show j * 3 + 1 - j * 3 = 1 by omega]; rfl
    · rw [List.getElem?_append_right (by omega), hl, show j * 3 + 2 - j * 3 = 2 by omega]; rfl
  · obtain ⟨p', q', r', h1, h2, h3, h4⟩ := h j (by omega)
    refine ⟨p', q', r', ?_, ?_, ?_, h4⟩
    · rw [List.getElem?_append_left (by omega)]; exact h1
    · rw [List.getElem?_append_left (by omega)]; exact h2
    · rw [List.getElem?_append_left (by omega)]; exact h3
theorem PVf.pv {n : Nat} {xs : List Value} {F : Nat → C3} {cs : List C3} (h : PVf n xs F) (hc : ∀ j, j < n → cs.getD j c0 = F j) : PV n xs cs := fun j hj => by
  obtain ⟨p, q, r, h1, h2, h3, h4⟩ := h j hj
  exact ⟨p, q, r, h1, h2, h3, by rw [hc j hj]; exact h4⟩
end Go.Proofs.Ytljpjmkickkcpab

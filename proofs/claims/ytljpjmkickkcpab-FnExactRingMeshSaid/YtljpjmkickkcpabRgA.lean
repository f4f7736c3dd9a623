
/-
Rings: their places and triangles. Conditions: none.
-/
import Derived.Test.YtljpjmkickkcpabGdA
import Derived.Test.YtljpjmkickkcpabRgM
namespace Go.Proofs.Ytljpjmkickkcpab
open Go Fk Go.RowKit
set_option linter.unusedVariables false
set_option maxRecDepth 8000
theorem fR_num {op : BinOp} {k : FloatKind} {a b v : Nat} (h : fop op k (some a) (some b) = some v) : (∀ w, fR op k a b w = v) ∧ fN op k a b = 0 := by
  have h' : floatBits op k a b = some v := h
  refine ⟨fun w => ?_, ?_⟩
  · unfold fR; rw [h']
  · unfold fN; rw [h']
def i2f (n : Nat) : Nat := floatOfInt .f32 (n : Int)
def ringQ (s k : Nat) : Nat := (fop .quo .f32 (some (i2f k)) (some (i2f s))).getD 0
def ringQ4 (s k : Nat) : Nat := (fop .add .f32 (some (ringQ s k)) (some 1048576000)).getD 0
def ringNums : Bool := (List.range 17).all fun k => (List.range 14).all fun s => (fop .quo .f32 (some (i2f k)) (some (i2f (s + 3)))).isSome && (fop .add .f32 (some (ringQ (s + 3) k)) (some 1048576000)).isSome && decide (ringQ (s + 3) k < 4294967296) && decide (ringQ4 (s + 3) k < 4294967296)
theorem ringNums_ok : ringNums = true := by decide +kernel
theorem ring_nums {s k : Nat} (h1 : 3 ≤ s) (h2 : s ≤ 16) (hk : k < s) : fop .quo .f32 (some (floatOfInt .f32 (k : Int))) (some (floatOfInt .f32 (s : Int))) = some (ringQ s k) ∧ fop .add .f32 (some (ringQ s k)) (some 1048576000) = some (ringQ4 s k) ∧ ringQ s k < 4294967296 ∧ ringQ4 s k < 4294967296 := by
  have h := ringNums_ok
  unfold ringNums at h
  have h := List.all_eq_true.1 (List.all_eq_true.1 h k (List.mem_range.2 (by omega))) (s - 3) (List.mem_range.2 (by omega))
  rw [show s - 3 + 3 = s by omega] at h
  simp only [Bool.and_eq_true, decide_eq_true_eq] at h
  obtain ⟨⟨⟨e1, e2⟩, e3⟩, e4⟩ := h
  refine ⟨?_, ?_, e3, e4⟩
  · obtain ⟨v, hv⟩ := Option.isSome_iff_exists.1 e1
    unfold ringQ
    show fop .quo .f32 (some (i2f k)) (some (i2f s)) = _
    rw [hv]; rfl
  · obtain ⟨v, hv⟩ := Option.isSome_iff_exists.1 e2
    unfold ringQ4
    rw [hv]; rfl
/-- The place with the number p of a ring of s sides. -/
def ringC (z y : Option Nat) (s p : Nat) : C3 := (fop .mul .f32 z (sinT (ringQ4 s (p % s))), fop .mul .f32 z (sinT (ringQ s (p % s))), fop .mul .f32 (some (floatOfInt .f32 ((p / s : Nat) : Int))) y)
def ringI (s q : Nat) : Int := ((q % s + s * (q / s) : Nat) : Int)
def ringJ (s q : Nat) : Int := (((q % s + 1) % s + s * (q / s) : Nat) : Int)
/-- The triangle with the number k of a ring of s sides. -/
def triR (s k : Nat) : List Int := if k % 2 = 0 then [ringI s (k / 2), ringJ s (k / 2), ringJ s (k / 2) + s] else [ringI s (k / 2), ringJ s (k / 2) + s, ringI s (k / 2) + s]
def ringCs (z y : Option Nat) (s n : Nat) : List C3 := (List.range ((n + 1) * s)).map (ringC z y s)
def ringTs (s n : Nat) : List (List Int) := (List.range (n * s * 2)).map (triR s)
theorem ringCs_len (z y : Option Nat) (s n : Nat) : (ringCs z y s n).length = (n + 1) * s := by unfold ringCs; simp
theorem ringTs_len (s n : Nat) : (ringTs s n).length = n * s * 2 := by unfold ringTs; simp
theorem ringTs_get {s n k : Nat} (hk : k < n * s * 2) : (ringTs s n).getD k [] = triR s k := by unfold ringTs; simp [List.getD, hk]
theorem ringCs_get {z y : Option Nat} {s n k : Nat} (hk : k < (n + 1) * s) : (ringCs z y s n).getD k c0 = ringC z y s k := by unfold ringCs; simp [List.getD, hk]
theorem triR_len (s k : Nat) : (triR s k).length = 3 := by unfold triR; split <;> rfl
theorem div_at {v x y : Nat} (hx : x < v) : (y * v + x) % v = x ∧ (y * v + x) / v = y := by
  refine ⟨by rw [Nat.mul_comm, Nat.mul_add_mod]; exact Nat.mod_eq_of_lt hx, by rw [Nat.mul_comm, Nat.mul_add_div (by omega)]; simp [Nat.div_eq_of_lt hx]⟩
theorem ringI_at {v x y : Nat} (hx : x < v) : ringI v (y * v + x) = (x : Int) + (v : Int) * y ∧ ringJ v (y * v + x) = (((x + 1) % v : Nat) : Int) + (v : Int) * y := by
  unfold ringI ringJ
  rw [(div_at hx).1, (div_at hx).2]; push_cast; exact ⟨rfl, rfl⟩
theorem ringC_at {z d : Option Nat} {s x y : Nat} (hx : x < s) : ringC z d s (y * s + x) = (fop .mul .f32 z (sinT (ringQ4 s x)), fop .mul .f32 z (sinT (ringQ s x)), fop .mul .f32 (some (floatOfInt .f32 (y : Int))) d) := by
  unfold ringC
  rw [(div_at hx).1, (div_at hx).2]
theorem ring_rows {s n q : Nat} (hq : q < n * s) {i j : Int} (hi : ringI s q = i) (hj : ringJ s q = j) : (ringTs s n).getD (q * 2) [] = [i, j, j + s] ∧ (ringTs s n).getD (q * 2 + 1) [] = [i, j + s, i + s] := by
  constructor
  · rw [ringTs_get (by omega)]; unfold triR; rw [if_pos (by omega), show q * 2 / 2 = q by omega, hi, hj]
  · rw [ringTs_get (by omega)]; unfold triR; rw [if_neg (by omega), show (q * 2 + 1) / 2 = q by omega, hi, hj]
theorem ring_step {s n q : Nat} (hq : q < n * s) {i j : Int} (hi : ringI s q = i) (hj : ringJ s q = j) : flatV (ringTs s n) ((q + 1) * 2) = flatV (ringTs s n) (q * 2) ++ [.int .i64 i, .int .i64 j, .int .i64 (j + s), .int .i64 i, .int .i64 (j + s), .int .i64 (i + s)] := by
  obtain ⟨e1, e2⟩ := ring_rows hq hi hj
  rw [show (q + 1) * 2 = q * 2 + 1 + 1 by omega]
  show flatV (ringTs s n) (q * 2) ++ _ ++ _ = _
  rw [e1, e2, List.append_assoc]
  rfl
theorem ring_wf {s n : Nat} (hs : s ≤ 16) (hn : n < 64) : ∀ j, j < (ringTs s n).length → ∀ z ∈ (ringTs s n).getD j [], (Lit.int .i64 z).wf = true := fun j hj z hz => by
  rw [ringTs_len] at hj
  rw [ringTs_get hj] at hz
  have hq : j / 2 < n * s := by omega
  have hp : 0 < s := by
    rcases Nat.eq_zero_or_pos s with e | e
    · rw [e, Nat.mul_zero] at hq; omega
    · exact e
  have h2 : j / 2 / s < n := Nat.div_lt_of_lt_mul (by rw [Nat.mul_comm]; exact hq)
  have h3 : s * (j / 2 / s) ≤ 16 * 62 := Nat.mul_le_mul (by omega) (by omega)
  have h4 : j / 2 % s < s := Nat.mod_lt _ hp
  have h5 : (j / 2 % s + 1) % s < s := Nat.mod_lt _ hp
  have h1 : 0 ≤ ringI s (j / 2) ∧ ringI s (j / 2) ≤ 4096 := by unfold ringI; omega
  have h6 : 0 ≤ ringJ s (j / 2) ∧ ringJ s (j / 2) ≤ 4096 := by unfold ringJ; omega
  refine WalkArith.wf_i64 ?_
  unfold triR at hz
  split at hz <;> simp at hz <;> omega
end Go.Proofs.Ytljpjmkickkcpab

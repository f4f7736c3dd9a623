/-
Texts in one: what SwingOf stands on, part 1. Conditions: those of each.
-/
import Derived.Test.YtkdoibglgkcbkaaKSwingOf0

/-
From 64 bits to 32, roots, and how great results of operations are at most. Conditions: none; where a conversion would leave its range, its result is left open.
-/
namespace Go.Proofs.Ytkdoibglgkcbkaa
namespace Fk
open Go
set_option linter.unusedVariables false

/-- The 32-bit word of a 64-bit one that is no not-a-number and in range. -/
def nar (y : Nat) : Nat := FloatKind.f32.encode (FloatKind.f64.decode y)
/-- Is out of range. -/
def ovf (y : Nat) : Bool := match FloatKind.f64.decode y with
  | .number s m p => (FloatKind.f32.decode (FloatKind.f32.encode (.number s m p))).isInfinity
  | _ => false
def nR (y : Nat) (w : World) : Nat := if (FloatKind.f64.decode y).isNaN then (Question.nanConv .f32 y).cut (w.tape w.drawn (.nanConv .f32 y))
  else if ovf y then (Question.floatToFloat y).cut (w.tape w.drawn (.floatToFloat y)) else nar y
def nN (y : Nat) : Nat := if (FloatKind.f64.decode y).isNaN then 1 else if ovf y then 1 else 0
theorem nar_lt (y : Nat) : nar y < 2 ^ FloatKind.f32.format.width := FloatKind.f32.format.write_lt _
theorem FV_nR {y : Nat} {w : World} {c : Option Nat} (h : FV .f64 y c) (ho : ovf y = false) : FV .f32 (nR y w) (c.map nar) := by
  unfold nR
  cases c with
  | none =>
    rw [if_pos h.nan]
    have := cutConv_nan .f32 y (w.tape w.drawn (.nanConv .f32 y))
    exact ⟨this.1, cls_nan this.2⟩
  | some a =>
    obtain rfl := h.num
    have hn := h.notnan
    rw [if_neg (by simp [hn]), if_neg (by simp [ho])]
    exact ⟨nar_lt y, cls_num (isNaN_write .f32 _ hn)⟩
section
variable {P : Program} (w : World)
@[go_sem] theorem run_nR (src dst : TypeId) (y : Nat) (hs : (P.underlying src).isSome = true) (hd : P.underlying dst = some (.float .f32)) :
    (convert src dst (.float .f64 y)).run P w = .ok (.float .f32 (nR y w)) (w.drewN (nN y)) := by
  obtain ⟨u, hs'⟩ := Option.isSome_iff_exists.1 hs
  have hq : (Question.nanConv .f32 y).forced = false := rfl
  have hq' : (Question.floatToFloat y).forced = false := rfl
  cases hd' : FloatKind.f64.decode y with
  | nan s t =>
    have e : (FloatKind.f64.decode y).isNaN = true := by rw [hd']; rfl
    unfold nR nN
    rw [if_pos e, if_pos e]
    cases u <;> simp [convert, run_underlying hs', run_underlying hd, Conv.floatToFloat, hd', hq] <;> rfl
  | infinity s =>
    have e : (FloatKind.f64.decode y).isNaN = false := by rw [hd']; rfl
    have e' : ovf y = false := by unfold ovf; rw [hd']
    unfold nR nN
    rw [e, e', if_neg Bool.false_ne_true, if_neg Bool.false_ne_true, if_neg Bool.false_ne_true, if_neg Bool.false_ne_true]
    unfold nar; rw [hd']
    cases u <;> simp [convert, run_underlying hs', run_underlying hd, Conv.floatToFloat, hd'] <;> rfl
  | number s m p =>
    have e : (FloatKind.f64.decode y).isNaN = false := by rw [hd']; rfl
    have eo : ovf y = (FloatKind.f32.decode (FloatKind.f32.encode (.number s m p))).isInfinity := by unfold ovf; rw [hd']
    unfold nR nN
    rw [e, if_neg Bool.false_ne_true, if_neg Bool.false_ne_true]
    cases ho : ovf y
    · rw [ho] at eo
      rw [if_neg Bool.false_ne_true, if_neg Bool.false_ne_true]
      unfold nar; rw [hd']
      cases u <;> simp [convert, run_underlying hs', run_underlying hd, Conv.floatToFloat, hd', eo.symm] <;> rfl
    · rw [ho] at eo
      rw [if_pos rfl, if_pos rfl]
      cases u <;> simp [convert, run_underlying hs', run_underlying hd, Conv.floatToFloat, hd', eo.symm, hq'] <;> rfl
end

/-! The greatest size of what is rounded -/
theorem kept_le (f : Ieee.Format) (s : Bool) (m : Nat) (p last : Int) (h0 : m ≠ 0) (h1 : p + m.log2 - f.fractionBits ≤ last) :
    Ieee.Toward.even.cut s (m <<< (p - last).toNat) (last - p).toNat ≤ 2 * f.binade := by
  have hB : 2 * f.binade = 2 ^ (f.fractionBits + 1) := by unfold Ieee.Format.binade; rw [Nat.pow_succ, Nat.mul_comm]
  rw [hB]
  have hlt : m < 2 ^ (m.log2 + 1) := Nat.lt_log2_self
  by_cases hp : p ≤ last
  · have e : (p - last).toNat = 0 := by omega
    rw [e, Nat.shiftLeft_zero]
    generalize hd : (last - p).toNat = d
    have hd' : m.log2 ≤ f.fractionBits + d := by omega
    unfold Ieee.Toward.cut
    dsimp only
    rw [Nat.shiftLeft_eq, Nat.one_mul]
    have hlow : m / 2 ^ min d (m.log2 + 2) + 1 ≤ 2 ^ (f.fractionBits + 1) := by
      by_cases h : d ≤ m.log2 + 2
      · rw [Nat.min_eq_left h]
        have : m / 2 ^ d < 2 ^ (f.fractionBits + 1) := by
          rw [Nat.div_lt_iff_lt_mul (Nat.two_pow_pos _), ← Nat.pow_add]
          exact Nat.lt_of_lt_of_le hlt (Nat.pow_le_pow_right (by decide) (by omega))
        omega
      · rw [Nat.min_eq_right (by omega)]
        have : m / 2 ^ (m.log2 + 2) = 0 := Nat.div_eq_of_lt (Nat.lt_of_lt_of_le hlt (Nat.pow_le_pow_right (by decide) (by omega)))
        rw [this]
        exact Nat.two_pow_pos _
    refine Nat.le_trans (Nat.add_le_add_left ?_ _) hlow
    cases (2 ^ min d (m.log2 + 2) < 2 * (m % 2 ^ min d (m.log2 + 2)) || (2 ^ min d (m.log2 + 2) == 2 * (m % 2 ^ min d (m.log2 + 2)) && m / 2 ^ min d (m.log2 + 2) % 2 == 1)) <;> simp
  · have e : (last - p).toNat = 0 := by omega
    rw [e, even_cut_zero, Nat.shiftLeft_eq]
    have : m * 2 ^ (p - last).toNat < 2 ^ (m.log2 + 1) * 2 ^ (p - last).toNat := Nat.mul_lt_mul_of_pos_right hlt (Nat.two_pow_pos _)
    rw [← Nat.pow_add] at this
    exact Nat.le_trans (Nat.le_of_lt this) (Nat.pow_le_pow_right (by decide) (by omega))

/-- The rung of a number less than two to the power of e in size is at most that of this power. -/
theorem nearest_small (f : Ieee.Format) (s : Bool) (m : Nat) (p e : Int) (h : m ≠ 0 → p + m.log2 < e) (he : f.leastPlace + f.fractionBits + 1 ≤ e) :
    ∃ r, f.nearest s m p = f.word s r ∧ r ≤ (e - f.fractionBits - f.leastPlace + 1).toNat * f.binade ∧ r ≤ f.infRung := by
  unfold Ieee.Format.nearest
  dsimp only
  by_cases h0 : m = 0
  · rw [if_pos h0]; exact ⟨0, rfl, Nat.zero_le _, Nat.zero_le _⟩
  · rw [if_neg h0]
    refine ⟨_, rfl, ?_, Nat.min_le_right _ _⟩
    refine Nat.le_trans (Nat.min_le_left _ _) ?_
    have h1 := h h0
    generalize hl : max (p + (m.log2 : Int) - f.fractionBits) f.leastPlace = last
    have hk := kept_le f s m p last h0 (by omega)
    have hle : (last - f.leastPlace).toNat + 2 ≤ (e - f.fractionBits - f.leastPlace + 1).toNat := by omega
    have := Nat.mul_le_mul_right f.binade hle
    rw [Nat.add_mul] at this
    omega

/-- In size less than two to the power of e. -/
def MB (k : FloatKind) (x : Nat) (e : Int) : Prop := ∃ s m p, k.decode x = .number s m p ∧ (m ≠ 0 → p + m.log2 < e)
theorem MB.notnan {k : FloatKind} {x : Nat} {e : Int} (h : MB k x e) : (k.decode x).isNaN = false := by
  obtain ⟨s, m, p, h1, _⟩ := h; rw [h1]; rfl
theorem MB.mono {k : FloatKind} {x : Nat} {e e' : Int} (h : MB k x e) (he : e ≤ e') : MB k x e' := by
  obtain ⟨s, m, p, h1, h2⟩ := h; exact ⟨s, m, p, h1, fun h => by have := h2 h; omega⟩
/-- A 64-bit number of the size of the 32-bit ones is in range. -/
theorem ovf_small {y : Nat} (h : MB .f64 y 127) : ovf y = false := by
  obtain ⟨s, m, p, h1, h2⟩ := h
  unfold ovf
  rw [h1]
  show (FloatKind.f32.decode (FloatKind.f32.format.nearest s m p)).isInfinity = false
  obtain ⟨r, hr, hb, _⟩ := nearest_small FloatKind.f32.format s m p 127 h2 (by decide)
  have e1 : (127 - (FloatKind.f32.format.fractionBits : Int) - FloatKind.f32.format.leastPlace + 1).toNat * FloatKind.f32.format.binade = 2130706432 := by decide
  rw [e1] at hb
  rw [hr]
  show (FloatKind.f32.format.read (FloatKind.f32.format.word s r)).isInfinity = false
  have e2 : FloatKind.f32.format.infRung = 2139095040 := by decide
  unfold Ieee.Format.read
  dsimp only
  rw [word_mod _ _ _ (show r < FloatKind.f32.format.signWeight by rw [show FloatKind.f32.format.signWeight = 2147483648 by decide]; omega)]
  split
  · rfl
  · rw [if_pos (by rw [e2]; omega)]; rfl
end Fk
end Go.Proofs.Ytkdoibglgkcbkaa


/-
Floats are stored like other values of one cell. Conditions: none.
-/
namespace Go.Proofs.Ytkdoibglgkcbkaa
open Go
section
variable (P : Program) (w : World) (a : Addr) (m : Mode)
@[go_sem] theorem run_store_float (k : FloatKind) (b : Nat) : (store a (.float k b) m).run P w = stored P w a (.float k b) m := run_store P w a _ m rfl
@[go_sem] theorem alloc_drewN (n : Nat) (o : Obj) : (w.drewN n).alloc o = (w.alloc o).drewN n := rfl
@[go_sem] theorem setCell_drewN (n : Nat) (v : Value) : (w.drewN n).setCell a v = (w.setCell a v).drewN n := rfl
end
end Go.Proofs.Ytkdoibglgkcbkaa

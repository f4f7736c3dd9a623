/-
Texts in one: what SwingOf stands on, part 3. Conditions: those of each.
-/
import Derived.Test.YtkdoibglgkcbkaaKSwingOf2
import Derived.Below

/-
How great a rounded number is, and square roots. Conditions: none.
-/
namespace Go.Proofs.Ytkdoibglgkcbkaa
namespace Fk
open Go
set_option linter.unusedVariables false

/-- What is written of a number less than two to the power of e in size reads as one less than twice this. -/
theorem MB_write (k : FloatKind) (s : Bool) (m : Nat) (p e : Int) (h : m ≠ 0 → p + m.log2 < e) (he : k.format.leastPlace + k.format.fractionBits + 1 ≤ e)
    (hi : e ≤ 100) : MB k (k.format.write (.number s m p)) (e + 1) := by
  obtain ⟨r, hr, hb, _⟩ := nearest_small k.format s m p e h he
  have hB : 0 < k.format.binade := Nat.two_pow_pos _
  have hSB : k.format.infRung < k.format.signWeight := k.format.infRung_lt
  have hinf : (101 - k.format.fractionBits - k.format.leastPlace + 1).toNat * k.format.binade < k.format.infRung := by cases k <;> decide
  have hle : (e - k.format.fractionBits - k.format.leastPlace + 1).toNat ≤ (101 - k.format.fractionBits - k.format.leastPlace + 1).toNat := by omega
  have hlt : r < k.format.infRung := Nat.lt_of_le_of_lt (Nat.le_trans hb (Nat.mul_le_mul_right _ hle)) hinf
  show MB k (k.format.nearest s m p) (e + 1)
  rw [hr]
  unfold MB
  show ∃ s' m' p', k.format.read (k.format.word s r) = .number s' m' p' ∧ _
  unfold Ieee.Format.read
  dsimp only
  rw [word_mod _ _ _ (by omega)]
  have hfb : k.format.binade = 2 ^ k.format.fractionBits := rfl
  by_cases h1 : r < k.format.binade
  · rw [if_pos h1]
    refine ⟨_, _, _, rfl, fun h0 => ?_⟩
    have : r.log2 < k.format.fractionBits := (Nat.log2_lt h0).2 (by rw [← hfb]; exact h1)
    omega
  · rw [if_neg h1, if_pos hlt]
    refine ⟨_, _, _, rfl, fun h0 => ?_⟩
    have ht := Nat.mod_lt r hB
    have hl : (k.format.binade + r % k.format.binade).log2 < k.format.fractionBits + 1 := (Nat.log2_lt h0).2 (by rw [Nat.pow_succ, ← hfb]; omega)
    have hq : r / k.format.binade ≤ (e - k.format.fractionBits - k.format.leastPlace + 1).toNat := by
      have := Nat.div_le_div_right (c := k.format.binade) hb
      rwa [Nat.mul_div_cancel _ hB] at this
    have hq1 : 1 ≤ r / k.format.binade := (Nat.le_div_iff_mul_le hB).2 (by omega)
    omega

theorem rootFrom_lt (n : Nat) : ∀ (todo root : Nat), Ieee.Datum.rootFrom n todo root + 1 ≤ root + 2 ^ todo
  | 0, root => by simp [Ieee.Datum.rootFrom]
  | todo + 1, root => by
    unfold Ieee.Datum.rootFrom
    dsimp only
    have hs : (root + 1 <<< todo) = root + 2 ^ todo := by rw [Nat.shiftLeft_eq, Nat.one_mul]
    have h2 : 2 ^ (todo + 1) = 2 ^ todo + 2 ^ todo := by rw [Nat.pow_succ]; omega
    have hp := Nat.two_pow_pos todo
    rw [h2]
    split
    · have := rootFrom_lt n todo (root + 1 <<< todo); rw [hs] at this ⊢; generalize 2 ^ todo = t at *; omega
    · have := rootFrom_lt n todo root; generalize 2 ^ todo = t at *; omega

theorem root_ok {d : Nat} {x y : Ieee.Datum} (h : x.root d = some y) : x.isNaN = false ∧ y.isNaN = false := by
  cases x with
  | nan s t => simp [Ieee.Datum.root] at h
  | infinity s =>
    simp only [Ieee.Datum.root] at h
    split at h
    · cases h
    · cases h; exact ⟨rfl, rfl⟩
  | number s m i =>
    refine ⟨rfl, ?_⟩
    simp only [Ieee.Datum.root] at h
    split at h
    · cases h; rfl
    · split at h
      · cases h
      · cases h; rfl

/-- A root of a number of the size of 32-bit ones is in range. -/
theorem root_small (d : Nat) (x y : Ieee.Datum) (s : Bool) (m : Nat) (i : Int) (hx : x = .number s m i) (hb : m ≠ 0 → i + m.log2 < 129) (h : x.root d = some y) :
    ∃ s' m' i', y = .number s' m' i' ∧ (m' ≠ 0 → i' + m'.log2 < 67) := by
  subst hx
  simp only [Ieee.Datum.root] at h
  split at h
  · rename_i h0; cases h; exact ⟨_, _, _, rfl, fun h => absurd h0 h⟩
  · rename_i h0
    split at h
    · cases h
    · cases h
      refine ⟨_, _, _, rfl, fun _ => ?_⟩
      have hb' := hb h0
      generalize hmore : (2 * d - m.log2) + ((i - ((2 * d - m.log2 : Nat) : Int)) % 2).toNat = more
      generalize hn : m <<< more = n
      have hnl : n.log2 ≤ m.log2 + more := by
        by_cases hn0 : n = 0
        · rw [hn0]; simp
        · have h1 : n < 2 ^ (m.log2 + more + 1) := by
            rw [← hn, Nat.shiftLeft_eq]
            have : m * 2 ^ more < 2 ^ (m.log2 + 1) * 2 ^ more := Nat.mul_lt_mul_of_pos_right Nat.lt_log2_self (Nat.two_pow_pos _)
            rw [← Nat.pow_add] at this
            exact Nat.lt_of_lt_of_le this (Nat.pow_le_pow_right (by decide) (by omega))
          have := (Nat.log2_lt hn0).2 h1
          omega
      have hw := rootFrom_lt n (n.log2 / 2 + 1) 0
      rw [Nat.zero_add] at hw
      generalize Ieee.Datum.rootFrom n (n.log2 / 2 + 1) 0 = whole at hw ⊢
      have hbit : ((whole * whole != n).toNat) ≤ 1 := by cases (whole * whole != n) <;> simp
      generalize (whole * whole != n).toNat = b at hbit ⊢
      by_cases hz : 2 * whole + b = 0
      · rw [hz]; simp; omega
      · have hl : (2 * whole + b).log2 < n.log2 / 2 + 2 := (Nat.log2_lt hz).2 (by rw [Nat.pow_succ]; omega)
        omega

/-- The square root on classes. -/
def fsq (c : Option Nat) : Option Nat := c.bind fun a => FloatKind.f64.format.sqrt a
def sR (x : Nat) (w : World) : Nat :=
  match FloatKind.f64.format.sqrt x with
  | some r => r
  | none => (Question.nanBits .f64 x x).cut (w.tape w.drawn (.nanBits .f64 x x))
def sN (x : Nat) : Nat :=
  match FloatKind.f64.format.sqrt x with
  | some _ => 0
  | none => 1
theorem FV_sR {x : Nat} {w : World} {c : Option Nat} (h : FV .f64 x c) : FV .f64 (sR x w) (fsq c) := by
  unfold sR fsq
  cases hs : FloatKind.f64.format.sqrt x with
  | some r =>
    refine have e := hs; ?_
    unfold Ieee.Format.sqrt at hs
    obtain ⟨d, hd, rfl⟩ := Option.map_eq_some_iff.1 hs
    have := root_ok hd
    have ec : c = some x := by rw [← h.2]; exact cls_num this.1
    subst ec
    refine ⟨FloatKind.f64.format.sqrt_lt e, ?_⟩
    rw [cls_num (isNaN_write .f64 d this.2)]
    exact e.symm
  | none =>
    have hc := cut_nan .f64 x x (w.tape w.drawn (.nanBits .f64 x x))
    refine ⟨hc.1, ?_⟩
    rw [cls_nan hc.2]
    cases c with
    | none => rfl
    | some a => obtain rfl := h.num; exact hs.symm
theorem run_sqrt {P : Program} (x : Nat) (w : World) : (Extern.MathSqrt.sqrt #[.float .f64 x]).run P w = .ok (.float .f64 (sR x w)) (w.drewN (sN x)) := by
  have hq : (Question.nanBits .f64 x x).forced = false := rfl
  unfold sR sN
  cases hs : FloatKind.f64.format.sqrt x with
  | some r =>
    show (match FloatKind.f64.format.sqrt x with | some r => (pure (.float .f64 r) : Sem Value) | none => do pure (.float .f64 (← choose (.nanBits .f64 x x)))).run P w = _
    rw [hs]; rfl
  | none =>
    show (match FloatKind.f64.format.sqrt x with | some r => (pure (.float .f64 r) : Sem Value) | none => do pure (.float .f64 (← choose (.nanBits .f64 x x)))).run P w = _
    rw [hs]; simp [hq]; rfl

theorem MB_wid {x : Nat} {s : Bool} {m : Nat} {p : Int} (h : FloatKind.f32.decode x = .number s m p) : MB .f64 (wid x) 129 := by
  obtain ⟨h1, h2, h3⟩ := decode32 x s m p h
  obtain ⟨r, he, hr⟩ := wid_word x s m p h
  unfold MB
  rw [he]
  show ∃ s' m' p', Ieee.double.read (Ieee.double.word s r) = .number s' m' p' ∧ _
  have e1 : Ieee.double.binade = 4503599627370496 := by decide
  have e2 : Ieee.double.infRung = 9218868437227405312 := by decide
  have e3 : Ieee.double.leastPlace = -1074 := by decide
  unfold Ieee.Format.read
  dsimp only
  rw [word_mod _ _ _ (show r < Ieee.double.signWeight by rw [show Ieee.double.signWeight = 9223372036854775808 by decide]; omega)]
  by_cases h1 : r < Ieee.double.binade
  · rw [if_pos h1]
    refine ⟨_, _, _, rfl, fun h0 => ?_⟩
    have : r.log2 < 53 := (Nat.log2_lt h0).2 (by rw [e1] at h1; omega)
    rw [e3]; omega
  · rw [if_neg h1, if_pos (by rw [e2]; omega)]
    refine ⟨_, _, _, rfl, fun h0 => ?_⟩
    rw [e1] at h0 h1 ⊢
    rw [e3]
    have hl : (4503599627370496 + r % 4503599627370496).log2 < 53 := (Nat.log2_lt h0).2 (by omega)
    omega
/-- The root of a 32-bit number is in range of 32 bits. -/
theorem ovf_sR {x : Nat} {w w' : World} (hx : x < 2 ^ FloatKind.f32.format.width) : ovf (sR (wR x w) w') = false := by
  cases hd : FloatKind.f64.decode (sR (wR x w) w') with
  | nan s t => unfold ovf; rw [hd]
  | infinity s => unfold ovf; rw [hd]
  | number s m p =>
    have hv := FV_sR (w := w') (FV_wR (w := w) (FV.self (k := .f32) hx))
    have hn : (FloatKind.f64.decode (sR (wR x w) w')).isNaN = false := by rw [hd]; rfl
    have hc := hv.2
    rw [cls_num hn] at hc
    unfold fsq cls at hc
    split at hc
    · cases hc
    · rename_i hnx
      have hc' : FloatKind.f64.format.sqrt (wid x) = some (sR (wR x w) w') := hc.symm
      unfold Ieee.Format.sqrt at hc'
      obtain ⟨d, hd', he⟩ := Option.map_eq_some_iff.1 hc'
      cases hdx : FloatKind.f32.decode x with
      | nan s t => rw [hdx] at hnx; simp [Ieee.Datum.isNaN] at hnx
      | infinity t =>
        have : FloatKind.f64.format.read (wid x) = .infinity t := by
          unfold wid; rw [hdx]; cases t <;> decide
        rw [this] at hd'
        have hdi : d = .infinity false := by
          cases t
          · simp only [Ieee.Datum.root] at hd'; cases hd'; rfl
          · simp [Ieee.Datum.root] at hd'
        rw [hdi] at he
        rw [← he] at hd
        have e9 : FloatKind.f64.decode (FloatKind.f64.format.write (.infinity false)) = .infinity false := by decide
        rw [e9] at hd; cases hd
      | number t n q =>
        obtain ⟨s1, m1, p1, h1, h2⟩ := MB_wid hdx
        obtain ⟨s2, m2, p2, h3, h4⟩ := root_small _ _ _ s1 m1 p1 h1 h2 hd'
        subst h3
        have := MB_write .f64 s2 m2 p2 67 h4 (by decide) (by decide)
        rw [he] at this
        exact ovf_small (this.mono (by decide))
end Fk
end Go.Proofs.Ytkdoibglgkcbkaa


/-
The square root of 32-bit numbers: what the program and its model return. Conditions: none beyond that the words fit.
-/
namespace Go.Proofs.Ytkdoibglgkcbkaa
open Go Fk Go.RowKit
set_option linter.unusedVariables false

def rootC (c : Option Nat) : Option Nat := (fsq (c.map wid)).map nar
@[go_sem] theorem ext_sqrt (x : Nat) (w : World) : (callFunc 176 #[.float .f64 x]).run Try.prog w = .ok (.value (.float .f64 (sR x w))) (w.drewN (sN x)) := by
  rw [run_callFunc_extern (e := Extern.MathSqrt.sqrt) Try.func176 (by kernel_rfl) (by kernel_rfl) (by kernel_rfl) (by kernel_rfl), run_sqrt]; rfl
theorem math_Sqrt (x : Nat) (w : World) :
    Calls Try.prog 127 #[.float .f64 x] w fun e w' => e = .returned (.float .f64 (sR x w)) ∧ ∃ n, w' = w.drewN n := by
  go_enter Try.func127, Try.ntmps127
  go_wp2
  go_ret
  exact ⟨rfl, _, rfl⟩
theorem impl_Narrow (y : Nat) (w : World) :
    Calls Try.prog 114 #[.float .f64 y] w fun e w' => e = .returned (.float .f32 (nR y w)) ∧ ∃ n, w' = w.drewN n := by
  have u := Try.underlying26
  have u' := Try.underlying22
  go_enter Try.func114, Try.ntmps114
  go_wp2
  go_ret
  exact ⟨rfl, _, rfl⟩
theorem spec_Narrow (y : Nat) (w : World) :
    Calls Try.prog 126 #[.float .f64 y] w fun e w' => e = .returned (.float .f32 (nR y w)) ∧ ∃ n, w' = w.drewN n := by
  have u := Try.underlying26
  have u' := Try.underlying22
  go_enter Try.func126, Try.ntmps126
  go_wp2
  go_ret
  exact ⟨rfl, _, rfl⟩
theorem FV_root {x : Nat} {c : Option Nat} {w w' w'' : World} (h : FV .f32 x c) : FV .f32 (nR (sR (wR x w) w') w'') (rootC c) :=
  FV_nR (FV_sR (FV_wR h)) (ovf_sR h.1)
theorem impl_RootNumber (x : Nat) (c : Option Nat) (w : World) (h : FV .f32 x c) :
    Calls Try.prog 53 #[.float .f32 x] w fun e w' => ∃ r, e = .returned (.float .f32 r) ∧ FV .f32 r (rootC c) ∧ ∃ n, w' = w.drewN n := by
  have u := Try.underlying26
  have u' := Try.underlying22
  go_enter Try.func53, Try.ntmps53
  go_wp2_with (first
    | (go_at_call 127; refine (math_Sqrt _ _).mono ?_; rintro e w' ⟨rfl, n, rfl⟩)
    | (go_at_call 114; refine (impl_Narrow _ _).mono ?_; rintro e w' ⟨rfl, n, rfl⟩))
  go_ret
  exact ⟨_, rfl, FV_root h, _, rfl⟩
theorem l01Sqrt (x : Nat) (c : Option Nat) (w : World) (h : FV .f32 x c) :
    Calls Try.prog 51 #[.float .f32 x] w fun e w' => ∃ r, e = .returned (.float .f32 r) ∧ FV .f32 r (rootC c) ∧ ∃ n, w' = w.drewN n := by
  have u := Try.underlying26
  have u' := Try.underlying22
  go_enter Try.func51, Try.ntmps51
  go_wp2_with (first
    | (go_at_call 127; refine (math_Sqrt _ _).mono ?_; rintro e w' ⟨rfl, n, rfl⟩)
    | (go_at_call 126; refine (spec_Narrow _ _).mono ?_; rintro e w' ⟨rfl, n, rfl⟩))
  go_ret
  exact ⟨_, rfl, FV_root h, _, rfl⟩
end Go.Proofs.Ytkdoibglgkcbkaa

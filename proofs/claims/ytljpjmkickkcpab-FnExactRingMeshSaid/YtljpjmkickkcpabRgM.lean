
/-
Several texts in one: How great a rounded number is, and square roots | How great sums, products and quotients of floats are at most; what is written exactly | How small a rounded number can be; sums of numbers without a minus sign | Sizes of 64-bit numbers up to a power of two, itself allowed | Roots of numbers without a minus sign, and what one and such a number divide | The 64-bit words of finite 32-bit ones: how they read, how they stand to zero, and quotients of their sizes | Sizes of the chains of operations that make angles and sines | A number less its whole part | The opposite of a 64-bit number is as great | The angle and the sine of finite numbers, as functions on words | The square root of 32-bit numbers: what the program and its model return | Angles: what the program and its model return | Halving and doubling a number until it is near one, and sizes of the chain that makes a logarithm | Sines: what the program and its model return | Sines: the walks of the program and its model, and that the law returns true | Sines: all arguments, and that the law returns true. Conditions: as each part says.
-/
import Derived.Test.YtljpjmkickkcpabNar
import Derived.Test.YtljpjmkickkcpabScal
import Derived.Laws.FloatArith
import Derived.Below
import Derived.Test.YtljpjmkickkcpabFs
import Derived.LoopTactic
import Derived.IntWalk
import Derived.Lib.Hide
section Part0
namespace Go.Proofs.Ytljpjmkickkcpab
namespace Fk
open Go
set_option linter.unusedVariables false

/-- What is written of a number less than two to the power of e in size reads as one less than twice this. -/
theorem MB_write (k : FloatKind) (s : Bool) (m : Nat) (p e : Int) (h : m ≠ 0 → p + m.log2 < e) (he : k.format.leastPlace + k.format.fractionBits + 1 ≤ e)
    (hi : e ≤ 100) : MB k (k.format.write (.number s m p)) (e + 1) := by
  obtain ⟨r, hr, hb, _⟩ := nearest_small k.format s m p e h he
  have hB : 0 < k.format.binade := Nat.two_pow_pos _
  have hSB : k.format.infRung < k.format.signWeight := k.format.infRung_lt
  have hinf : (101 - k.format.fractionBits - k.format.leastPlace + 1).toNat * k.format.binade < k.format.infRung := by cases k <;> decide
  have hle : (e - k.format.fractionBits - k.format.leastPlace + 1).toNat ≤ (101 - k.format.fractionBits - k.format.leastPlace + 1).toNat := by omega
  have hlt : r < k.format.infRung := Nat.lt_of_le_of_lt (Nat.le_trans hb (Nat.mul_le_mul_right _ hle)) hinf
  show MB k (k.format.nearest s m p) (e + 1)
  rw [hr]
  unfold MB
  show ∃ s' m' p', k.format.read (k.format.word s r) = .number s' m' p' ∧ _
  unfold Ieee.Format.read
  dsimp only
  rw [word_mod _ _ _ (by omega)]
  have hfb : k.format.binade = 2 ^ k.format.fractionBits := rfl
  by_cases h1 : r < k.format.binade
  · rw [if_pos h1]
    refine ⟨_, _, _, rfl, fun h0 => ?_⟩
    have : r.log2 < k.format.fractionBits := (Nat.log2_lt h0).2 (by rw [← hfb]; exact h1)
    omega
  · rw [if_neg h1, if_pos hlt]
    refine ⟨_, _, _, rfl, fun h0 => ?_⟩
    have ht := Nat.mod_lt r hB
    have hl : (k.format.binade + r % k.format.binade).log2 < k.format.fractionBits + 1 := (Nat.log2_lt h0).2 (by rw [Nat.pow_succ, ← hfb]; omega)
    have hq : r / k.format.binade ≤ (e - k.format.fractionBits - k.format.leastPlace + 1).toNat := by
      have := Nat.div_le_div_right (c := k.format.binade) hb
      rwa [Nat.mul_div_cancel _ hB] at this
    have hq1 : 1 ≤ r / k.format.binade := (Nat.le_div_iff_mul_le hB).2 (by omega)
    omega

theorem rootFrom_lt (n : Nat) : ∀ (todo root : Nat), Ieee.Datum.rootFrom n todo root + 1 ≤ root + 2 ^ todo
  | 0, root => by simp [Ieee.Datum.rootFrom]
  | todo + 1, root => by
    unfold Ieee.Datum.rootFrom
    dsimp only
    have hs : (root + 1 <<< todo) = root + 2 ^ todo := by rw [Nat.shiftLeft_eq, Nat.one_mul]
    have h2 : 2 ^ (todo + 1) = 2 ^ todo + 2 ^ todo := by rw [Nat.pow_succ]; omega
    have hp := Nat.two_pow_pos todo
    rw [h2]
    split
    · have := rootFrom_lt n todo (root + 1 <<< todo); rw [hs] at this ⊢; generalize 2 ^ todo = t at *; omega
    · have := rootFrom_lt n todo root; generalize 2 ^ todo = t at *; omega

theorem root_ok {d : Nat} {x y : Ieee.Datum} (h : x.root d = some y) : x.isNaN = false ∧ y.isNaN = false := by
  cases x with
  | nan s t => simp [Ieee.Datum.root] at h
  | infinity s =>
    simp only [Ieee.Datum.root] at h
    split at h
    · cases h
    · cases h; exact ⟨rfl, rfl⟩
  | number s m i =>
    refine ⟨rfl, ?_⟩
    simp only [Ieee.Datum.root] at h
    split at h
    · cases h; rfl
    · split at h
      · cases h
      · cases h; rfl

/-- A root of a number of the size of 32-bit ones is in range. -/
theorem root_small (d : Nat) (x y : Ieee.Datum) (s : Bool) (m : Nat) (i : Int) (hx : x = .number s m i) (hb : m ≠ 0 → i + m.log2 < 129) (h : x.root d = some y) :
    ∃ s' m' i', y = .number s' m' i' ∧ (m' ≠ 0 → i' + m'.log2 < 67) := by
  subst hx
  simp only [Ieee.Datum.root] at h
  split at h
  · rename_i h0; cases h; exact ⟨_, _, _, rfl, fun h => absurd h0 h⟩
  · rename_i h0
    split at h
    · cases h
    · cases h
      refine ⟨_, _, _, rfl, fun _ => ?_⟩
      have hb' := hb h0
      generalize hmore : (2 * d - m.log2) + ((i - ((2 * d - m.log2 : Nat) : Int)) % 2).toNat = more
      generalize hn : m <<< more = n
      have hnl : n.log2 ≤ m.log2 + more := by
        by_cases hn0 : n = 0
        · rw [hn0]; simp
        · have h1 : n < 2 ^ (m.log2 + more + 1) := by
            rw [← hn, Nat.shiftLeft_eq]
            have : m * 2 ^ more < 2 ^ (m.log2 + 1) * 2 ^ more := Nat.mul_lt_mul_of_pos_right Nat.lt_log2_self (Nat.two_pow_pos _)
            rw [← Nat.pow_add] at this
            exact Nat.lt_of_lt_of_le this (Nat.pow_le_pow_right (by decide) (by omega))
          have := (Nat.log2_lt hn0).2 h1
          omega
      have hw := rootFrom_lt n (n.log2 / 2 + 1) 0
      rw [Nat.zero_add] at hw
      generalize Ieee.Datum.rootFrom n (n.log2 / 2 + 1) 0 = whole at hw ⊢
      have hbit : ((whole * whole != n).toNat) ≤ 1 := by cases (whole * whole != n) <;> simp
      generalize (whole * whole != n).toNat = b at hbit ⊢
      by_cases hz : 2 * whole + b = 0
      · rw [hz]; simp; omega
      · have hl : (2 * whole + b).log2 < n.log2 / 2 + 2 := (Nat.log2_lt hz).2 (by rw [Nat.pow_succ]; omega)
        omega

/-- The square root on classes. -/
def fsq (c : Option Nat) : Option Nat := c.bind fun a => FloatKind.f64.format.sqrt a
def sR (x : Nat) (w : World) : Nat :=
  match FloatKind.f64.format.sqrt x with
  | some r => r
  | none => (Question.nanBits .f64 x x).cut (w.tape w.drawn (.nanBits .f64 x x))
def sN (x : Nat) : Nat :=
  match FloatKind.f64.format.sqrt x with
  | some _ => 0
  | none => 1
theorem FV_sR {x : Nat} {w : World} {c : Option Nat} (h : FV .f64 x c) : FV .f64 (sR x w) (fsq c) := by
  unfold sR fsq
  cases hs : FloatKind.f64.format.sqrt x with
  | some r =>
    refine have e := hs; ?_
    unfold Ieee.Format.sqrt at hs
    obtain ⟨d, hd, rfl⟩ := Option.map_eq_some_iff.1 hs
    have := root_ok hd
    have ec : c = some x := by rw [← h.2]; exact cls_num this.1
    subst ec
    refine ⟨FloatKind.f64.format.sqrt_lt e, ?_⟩
    rw [cls_num (isNaN_write .f64 d this.2)]
    exact e.symm
  | none =>
    have hc := cut_nan .f64 x x (w.tape w.drawn (.nanBits .f64 x x))
    refine ⟨hc.1, ?_⟩
    rw [cls_nan hc.2]
    cases c with
    | none => rfl
    | some a => obtain rfl := h.num; exact hs.symm
theorem run_sqrt {P : Program} (x : Nat) (w : World) : (Extern.MathSqrt.sqrt #[.float .f64 x]).run P w = .ok (.float .f64 (sR x w)) (w.drewN (sN x)) := by
  have hq : (Question.nanBits .f64 x x).forced = false := rfl
  unfold sR sN
  cases hs : FloatKind.f64.format.sqrt x with
  | some r =>
    show (match FloatKind.f64.format.sqrt x with | some r => (pure (.float .f64 r) : Sem Value) | none => do pure (.float .f64 (← choose (.nanBits .f64 x x)))).run P w = _
    rw [hs]; rfl
  | none =>
    show (match FloatKind.f64.format.sqrt x with | some r => (pure (.float .f64 r) : Sem Value) | none => do pure (.float .f64 (← choose (.nanBits .f64 x x)))).run P w = _
    rw [hs]; simp [hq]; rfl

theorem MB_wid {x : Nat} {s : Bool} {m : Nat} {p : Int} (h : FloatKind.f32.decode x = .number s m p) : MB .f64 (wid x) 129 := by
  obtain ⟨h1, h2, h3⟩ := decode32 x s m p h
  obtain ⟨r, he, hr⟩ := wid_word x s m p h
  unfold MB
  rw [he]
  show ∃ s' m' p', Ieee.double.read (Ieee.double.word s r) = .number s' m' p' ∧ _
  have e1 : Ieee.double.binade = 4503599627370496 := by decide
  have e2 : Ieee.double.infRung = 9218868437227405312 := by decide
  have e3 : Ieee.double.leastPlace = -1074 := by decide
  unfold Ieee.Format.read
  dsimp only
  rw [word_mod _ _ _ (show r < Ieee.double.signWeight by rw [show Ieee.double.signWeight = 9223372036854775808 by decide]; omega)]
  by_cases h1 : r < Ieee.double.binade
  · rw [if_pos h1]
    refine ⟨_, _, _, rfl, fun h0 => ?_⟩
    have : r.log2 < 53 := (Nat.log2_lt h0).2 (by rw [e1] at h1; omega)
    rw [e3]; omega
  · rw [if_neg h1, if_pos (by rw [e2]; omega)]
    refine ⟨_, _, _, rfl, fun h0 => ?_⟩
    rw [e1] at h0 h1 ⊢
    rw [e3]
    have hl : (4503599627370496 + r % 4503599627370496).log2 < 53 := (Nat.log2_lt h0).2 (by omega)
    omega
/-- The root of a 32-bit number is in range of 32 bits. -/
theorem ovf_sR {x : Nat} {w w' : World} (hx : x < 2 ^ FloatKind.f32.format.width) : ovf (sR (wR x w) w') = false := by
  cases hd : FloatKind.f64.decode (sR (wR x w) w') with
  | nan s t => unfold ovf; rw [hd]
  | infinity s => unfold ovf; rw [hd]
  | number s m p =>
    have hv := FV_sR (w := w') (FV_wR (w := w) (FV.self (k := .f32) hx))
    have hn : (FloatKind.f64.decode (sR (wR x w) w')).isNaN = false := by rw [hd]; rfl
    have hc := hv.2
    rw [cls_num hn] at hc
    unfold fsq cls at hc
    split at hc
    · cases hc
    · rename_i hnx
      have hc' : FloatKind.f64.format.sqrt (wid x) = some (sR (wR x w) w') := hc.symm
      unfold Ieee.Format.sqrt at hc'
      obtain ⟨d, hd', he⟩ := Option.map_eq_some_iff.1 hc'
      cases hdx : FloatKind.f32.decode x with
      | nan s t => rw [hdx] at hnx; simp [Ieee.Datum.isNaN] at hnx
      | infinity t =>
        have : FloatKind.f64.format.read (wid x) = .infinity t := by
          unfold wid; rw [hdx]; cases t <;> decide
        rw [this] at hd'
        have hdi : d = .infinity false := by
          cases t
          · simp only [Ieee.Datum.root] at hd'; cases hd'; rfl
          · simp [Ieee.Datum.root] at hd'
        rw [hdi] at he
        rw [← he] at hd
        have e9 : FloatKind.f64.decode (FloatKind.f64.format.write (.infinity false)) = .infinity false := by decide
        rw [e9] at hd; cases hd
      | number t n q =>
        obtain ⟨s1, m1, p1, h1, h2⟩ := MB_wid hdx
        obtain ⟨s2, m2, p2, h3, h4⟩ := root_small _ _ _ s1 m1 p1 h1 h2 hd'
        subst h3
        have := MB_write .f64 s2 m2 p2 67 h4 (by decide) (by decide)
        rw [he] at this
        exact ovf_small (this.mono (by decide))
end Fk
end Go.Proofs.Ytljpjmkickkcpab
end Part0
section Part1
namespace Go.Proofs.Ytljpjmkickkcpab
namespace Fk
open Go
set_option linter.unusedVariables false

theorem lg_lt {m : Nat} {p e : Int} (h0 : m ≠ 0) (h : p + m.log2 < e) : m < 2 ^ (e - p).toNat := by
  refine (Nat.log2_lt h0).1 ?_
  omega
theorem lg_of {m : Nat} {p e : Int} (h0 : m ≠ 0) (hp : p ≤ e) (h : m < 2 ^ (e - p).toNat) : p + m.log2 < e := by
  have := (Nat.log2_lt h0).2 h
  omega
/-- Scaled to a common place. -/
theorem lg_scale {m : Nat} {p base e : Int} (hb : base ≤ p) (hbe : base ≤ e) (h : m ≠ 0 → p + m.log2 < e) : m <<< (p - base).toNat < 2 ^ (e - base).toNat := by
  rw [Nat.shiftLeft_eq]
  by_cases h0 : m = 0
  · subst h0; rw [Nat.zero_mul]; exact Nat.two_pow_pos _
  · have h1 := lg_lt h0 (h h0)
    have hpe : p ≤ e := by have := h h0; omega
    have : m * 2 ^ (p - base).toNat < 2 ^ (e - p).toNat * 2 ^ (p - base).toNat := Nat.mul_lt_mul_of_pos_right h1 (Nat.two_pow_pos _)
    rw [← Nat.pow_add] at this
    rw [show (e - base).toNat = (e - p).toNat + (p - base).toNat by omega]; exact this
theorem signed_abs (s : Bool) (m a : Nat) : (Ieee.signed s m a).natAbs = m <<< a := by
  unfold Ieee.signed
  split
  · rw [Int.natAbs_neg]; rfl
  · rfl

theorem MB_sum {k : FloatKind} {x y : Ieee.Datum} {s t : Bool} {m n : Nat} {p q e : Int} (hx : x = .number s m p) (hy : y = .number t n q) (hm : m ≠ 0 → p + m.log2 < e) (hn : n ≠ 0 → q + n.log2 < e)
    (hpe : p ≤ e ∨ q ≤ e) (h1 : k.format.leastPlace + k.format.fractionBits ≤ e) (h2 : e ≤ 99) : ∃ d, x.sum y = some d ∧ MB k (k.format.write d) (e + 2) := by
  subst hx hy
  refine ⟨_, rfl, ?_⟩
  have := MB_write k (if Ieee.signed s m (p - min p q).toNat + Ieee.signed t n (q - min p q).toNat = 0 then s && t else decide (Ieee.signed s m (p - min p q).toNat + Ieee.signed t n (q - min p q).toNat < 0))
    (Ieee.signed s m (p - min p q).toNat + Ieee.signed t n (q - min p q).toNat).natAbs (min p q) (e + 1) (fun h0 => ?_) (by omega) (by omega)
  · rw [show e + 2 = e + 1 + 1 by omega]
    have e1 : ((if Ieee.signed s m (p - min p q).toNat + Ieee.signed t n (q - min p q).toNat = 0 then s && t else decide (Ieee.signed s m (p - min p q).toNat + Ieee.signed t n (q - min p q).toNat < 0))) = (if Ieee.signed s m (p - min p q).toNat + Ieee.signed t n (q - min p q).toNat = 0 then s && t else decide (Ieee.signed s m (p - min p q).toNat + Ieee.signed t n (q - min p q).toNat < 0)) := rfl
    simpa [Ieee.Datum.sum] using this
  · have a1 := lg_scale (m := m) (p := p) (base := min p q) (e := e) (by omega) (by omega) hm
    have a2 := lg_scale (m := n) (p := q) (base := min p q) (e := e) (by omega) (by omega) hn
    have a3 := Int.natAbs_add_le (Ieee.signed s m (p - min p q).toNat) (Ieee.signed t n (q - min p q).toNat)
    rw [signed_abs, signed_abs] at a3
    refine lg_of h0 (by omega) ?_
    rw [show (e + 1 - min p q).toNat = (e - min p q).toNat + 1 by omega, Nat.pow_succ]
    omega

theorem MB_product {k : FloatKind} {x y : Ieee.Datum} {s t : Bool} {m n : Nat} {p q e e' : Int} (hx : x = .number s m p) (hy : y = .number t n q) (hm : m ≠ 0 → p + m.log2 < e) (hn : n ≠ 0 → q + n.log2 < e')
    (h1 : k.format.leastPlace + k.format.fractionBits + 1 ≤ e + e') (h2 : e + e' ≤ 100) : ∃ d, x.product y = some d ∧ MB k (k.format.write d) (e + e' + 1) := by
  subst hx hy
  refine ⟨_, rfl, MB_write k _ _ _ _ (fun h0 => ?_) h1 h2⟩
  have m0 : m ≠ 0 := fun h => h0 (by rw [h, Nat.zero_mul])
  have n0 : n ≠ 0 := fun h => h0 (by rw [h, Nat.mul_zero])
  have a1 := hm m0
  have a2 := hn n0
  have b1 : m < 2 ^ (m.log2 + 1) := Nat.lt_log2_self
  have b2 : n < 2 ^ (n.log2 + 1) := Nat.lt_log2_self
  have b3 : m * n < 2 ^ (m.log2 + 1 + (n.log2 + 1)) := by
    rw [Nat.pow_add]; exact Nat.mul_lt_mul_of_lt_of_le b1 (Nat.le_of_lt b2) (Nat.two_pow_pos _)
  have b4 := (Nat.log2_lt h0).2 b3
  omega

theorem MB_quotient {k : FloatKind} {x y : Ieee.Datum} {s t : Bool} {m n : Nat} {p q e e' : Int} (dg : Nat) (hx : x = .number s m p) (hy : y = .number t n q) (hm : m ≠ 0 → p + m.log2 < e) (hn0 : n ≠ 0) (hn : e' ≤ q + n.log2)
    (h1 : k.format.leastPlace + k.format.fractionBits + 1 ≤ e - e' + 1) (h2 : e - e' + 1 ≤ 100) (hd : 2 ≤ dg) : ∃ d, x.quotient dg y = some d ∧ MB k (k.format.write d) (e - e' + 2) := by
  subst hx hy
  simp only [Ieee.Datum.quotient, if_neg hn0]
  refine ⟨_, rfl, ?_⟩
  rw [show e - e' + 2 = e - e' + 1 + 1 by omega]
  refine MB_write k _ _ _ _ (fun h0 => ?_) h1 h2
  generalize hmore : dg + n.log2 - m.log2 = more at h0 ⊢
  rw [Nat.shiftLeft_eq] at h0 ⊢
  have hb : ((m * 2 ^ more % n != 0).toNat) ≤ 1 := by cases (m * 2 ^ more % n != 0) <;> simp
  generalize hbb : (m * 2 ^ more % n != 0).toNat = b at h0 hb ⊢
  by_cases m0 : m = 0
  · exfalso
    subst m0
    rw [Nat.zero_mul, Nat.zero_mod] at hbb
    rw [Nat.zero_mul, Nat.zero_div] at h0
    simp at hbb; omega
  · have a1 := hm m0
    have b1 : m < 2 ^ (m.log2 + 1) := Nat.lt_log2_self
    have b2 : 2 ^ n.log2 ≤ n := Nat.log2_self_le hn0
    have b3 : m * 2 ^ more < 2 ^ (m.log2 + 1 + more) := by
      rw [Nat.pow_add]; exact Nat.mul_lt_mul_of_pos_right b1 (Nat.two_pow_pos _)
    have b4 : m * 2 ^ more / n < 2 ^ (m.log2 + 1 + more - n.log2) := by
      rw [Nat.div_lt_iff_lt_mul (Nat.pos_of_ne_zero hn0)]
      refine Nat.lt_of_lt_of_le b3 ?_
      refine Nat.le_trans ?_ (Nat.mul_le_mul_left _ b2)
      rw [← Nat.pow_add]
      exact Nat.pow_le_pow_right (by decide) (by omega)
    have b5 : 2 * (m * 2 ^ more / n) + b < 2 ^ (m.log2 + 1 + more - n.log2 + 1) := by
      rw [Nat.pow_succ]; omega
    have b6 := (Nat.log2_lt h0).2 b5
    omega

/-- A class that is a number less than two to the power of e in size. -/
def MBC (c : Option Nat) (e : Int) : Prop := ∃ x, c = some x ∧ MB .f64 x e
theorem MBC.mono {c : Option Nat} {e e' : Int} (h : MBC c e) (he : e ≤ e') : MBC c e' := by
  obtain ⟨x, h1, h2⟩ := h; exact ⟨x, h1, h2.mono he⟩
theorem MBC_ovf {y : Nat} {c : Option Nat} {e : Int} (hv : FV .f64 y c) (h : MBC c e) (he : e ≤ 127) : ovf y = false := by
  obtain ⟨x, h1, h2⟩ := h
  subst h1
  obtain rfl := hv.num
  exact ovf_small (h2.mono he)
theorem MB.opp {x : Nat} {e : Int} (h : MB .f64 x e) : ∃ s m p, (FloatKind.f64.decode x).opposite = .number s m p ∧ (m ≠ 0 → p + m.log2 < e) := by
  obtain ⟨s, m, p, h1, h2⟩ := h
  exact ⟨!s, m, p, by rw [h1]; rfl, h2⟩
theorem place_le {k : FloatKind} {x : Nat} {s : Bool} {m : Nat} {p : Int} (h : k.decode x = .number s m p) : p ≤ 971 := by
  have h' : k.format.read x = .number s m p := h
  unfold Ieee.Format.read at h'
  dsimp only at h'
  cases k
  · have e1 : FloatKind.f32.format.binade = 8388608 := by decide
    have e2 : FloatKind.f32.format.infRung = 2139095040 := by decide
    have e3 : FloatKind.f32.format.leastPlace = -149 := by decide
    rw [e1, e2, e3] at h'
    split at h'
    · cases h'; omega
    · split at h'
      · cases h'; omega
      · split at h' <;> cases h'
  · have e1 : FloatKind.f64.format.binade = 4503599627370496 := by decide
    have e2 : FloatKind.f64.format.infRung = 9218868437227405312 := by decide
    have e3 : FloatKind.f64.format.leastPlace = -1074 := by decide
    rw [e1, e2, e3] at h'
    split at h'
    · cases h'; omega
    · split at h'
      · cases h'; omega
      · split at h' <;> cases h'

theorem zero_place {x : Nat} {s : Bool} {p : Int} (h : FloatKind.f64.decode x = .number s 0 p) : p = -1074 := by
  have h' : FloatKind.f64.format.read x = .number s 0 p := h
  unfold Ieee.Format.read at h'
  dsimp only at h'
  have e1 : FloatKind.f64.format.binade = 4503599627370496 := by decide
  have e3 : FloatKind.f64.format.leastPlace = -1074 := by decide
  rw [e1, e3] at h'
  split at h'
  · simp only [Ieee.Datum.number.injEq] at h'
    exact h'.2.2.symm
  · split at h'
    · simp only [Ieee.Datum.number.injEq] at h'
      omega
    · split at h' <;> cases h'
theorem MB.le {x : Nat} {e : Int} (h : MB .f64 x e) (he : -1074 ≤ e) : ∃ s m p, FloatKind.f64.decode x = .number s m p ∧ (m ≠ 0 → p + m.log2 < e) ∧ p ≤ e := by
  obtain ⟨s, m, p, h1, h2⟩ := h
  refine ⟨s, m, p, h1, h2, ?_⟩
  by_cases h0 : m = 0
  · subst h0; rw [zero_place h1]; exact he
  · have := h2 h0; omega
theorem MBC_add {c d : Option Nat} {e : Int} (hc : MBC c e) (hd : MBC d e) (h1 : -1000 ≤ e) (h2 : e ≤ 99) : MBC (fop .add .f64 c d) (e + 2) := by
  obtain ⟨x, rfl, hx⟩ := hc
  obtain ⟨y, rfl, hy⟩ := hd
  obtain ⟨s, m, p, a1, a2, a3⟩ := hx.le (by omega)
  obtain ⟨t, n, q, b1, b2, b3⟩ := hy.le (by omega)
  have hL : FloatKind.f64.format.leastPlace + FloatKind.f64.format.fractionBits = -1022 := by decide
  obtain ⟨r, hr, hm⟩ := MB_sum (k := .f64) a1 b1 a2 b2 (.inl a3) (by omega) h2
  refine ⟨_, ?_, hm⟩
  show ((FloatKind.f64.decode x).sum (FloatKind.f64.decode y)).map FloatKind.f64.format.write = _
  rw [hr]; rfl
theorem MBC_sub {c d : Option Nat} {e : Int} (hc : MBC c e) (hd : MBC d e) (h1 : -1000 ≤ e) (h2 : e ≤ 99) : MBC (fop .sub .f64 c d) (e + 2) := by
  obtain ⟨x, rfl, hx⟩ := hc
  obtain ⟨y, rfl, hy⟩ := hd
  obtain ⟨s, m, p, a1, a2, a3⟩ := hx.le (by omega)
  obtain ⟨t, n, q, b1, b2, b3⟩ := hy.le (by omega)
  have b1' : (FloatKind.f64.decode y).opposite = .number (!t) n q := by rw [b1]; rfl
  have hL : FloatKind.f64.format.leastPlace + FloatKind.f64.format.fractionBits = -1022 := by decide
  obtain ⟨r, hr, hm⟩ := MB_sum (k := .f64) a1 b1' a2 b2 (.inl a3) (by omega) h2
  refine ⟨_, ?_, hm⟩
  show ((FloatKind.f64.decode x).sum (FloatKind.f64.decode y).opposite).map FloatKind.f64.format.write = _
  rw [hr]; rfl
theorem MBC_mul {c d : Option Nat} {e e' : Int} (hc : MBC c e) (hd : MBC d e') (h1 : -1000 ≤ e + e') (h2 : e + e' ≤ 100) : MBC (fop .mul .f64 c d) (e + e' + 1) := by
  obtain ⟨x, rfl, s, m, p, a1, a2⟩ := hc
  obtain ⟨y, rfl, t, n, q, b1, b2⟩ := hd
  have hL : FloatKind.f64.format.leastPlace + FloatKind.f64.format.fractionBits + 1 = -1021 := by decide
  obtain ⟨r, hr, hm⟩ := MB_product (k := .f64) a1 b1 a2 b2 (by omega) h2
  refine ⟨_, ?_, hm⟩
  show ((FloatKind.f64.decode x).product (FloatKind.f64.decode y)).map FloatKind.f64.format.write = _
  rw [hr]; rfl
/-- A number that is at least two to the power of e in size. -/
def LBC (c : Option Nat) (e : Int) : Prop := ∃ x s m p, c = some x ∧ FloatKind.f64.decode x = .number s m p ∧ m ≠ 0 ∧ e ≤ p + m.log2
theorem MBC_quo {c d : Option Nat} {e e' : Int} (hc : MBC c e) (hd : LBC d e') (h1 : -1000 ≤ e - e') (h2 : e - e' ≤ 99) : MBC (fop .quo .f64 c d) (e - e' + 2) := by
  obtain ⟨x, rfl, s, m, p, a1, a2⟩ := hc
  obtain ⟨y, t, n, q, rfl, b1, b0, b2⟩ := hd
  have hL : FloatKind.f64.format.leastPlace + FloatKind.f64.format.fractionBits + 1 = -1021 := by decide
  obtain ⟨r, hr, hm⟩ := MB_quotient (k := .f64) (FloatKind.f64.format.fractionBits + 2) a1 b1 a2 b0 b2 (by omega) (by omega) (by decide)
  refine ⟨_, ?_, hm⟩
  show ((FloatKind.f64.decode x).quotient (FloatKind.f64.format.fractionBits + 2) (FloatKind.f64.decode y)).map FloatKind.f64.format.write = _
  rw [hr]; rfl
end Fk
end Go.Proofs.Ytljpjmkickkcpab
end Part1
section Part2
namespace Go.Proofs.Ytljpjmkickkcpab
namespace Fk
open Go
set_option linter.unusedVariables false

theorem kept_ge (f : Ieee.Format) (s : Bool) (m : Nat) (p last : Int) (h0 : m ≠ 0) (h1 : p + m.log2 - f.fractionBits = last) :
    f.binade ≤ Ieee.Toward.even.cut s (m <<< (p - last).toNat) (last - p).toNat := by
  have hge : 2 ^ m.log2 ≤ m := Nat.log2_self_le h0
  unfold Ieee.Format.binade
  by_cases hp : p ≤ last
  · have e : (p - last).toNat = 0 := by omega
    rw [e, Nat.shiftLeft_zero]
    generalize hd : (last - p).toNat = d
    have hd' : m.log2 = f.fractionBits + d := by omega
    unfold Ieee.Toward.cut
    dsimp only
    rw [Nat.shiftLeft_eq, Nat.one_mul, Nat.min_eq_left (by omega)]
    refine Nat.le_trans ?_ (Nat.le_add_right _ _)
    rw [Nat.le_div_iff_mul_le (Nat.two_pow_pos _), ← Nat.pow_add, ← hd']
    exact hge
  · have e : (last - p).toNat = 0 := by omega
    rw [e, even_cut_zero, Nat.shiftLeft_eq]
    have : 2 ^ m.log2 * 2 ^ (p - last).toNat ≤ m * 2 ^ (p - last).toNat := Nat.mul_le_mul_right _ hge
    rw [← Nat.pow_add] at this
    exact Nat.le_trans (Nat.pow_le_pow_right (by decide) (by omega)) this

theorem nearest_great (f : Ieee.Format) (s : Bool) (m : Nat) (p e : Int) (h0 : m ≠ 0) (h : e ≤ p + m.log2) (he : f.leastPlace + f.fractionBits ≤ e) :
    ∃ r, f.nearest s m p = f.word s r ∧ min ((e - f.fractionBits - f.leastPlace + 1).toNat * f.binade) f.infRung ≤ r := by
  unfold Ieee.Format.nearest
  dsimp only
  rw [if_neg h0]
  refine ⟨_, rfl, ?_⟩
  generalize hl : max (p + (m.log2 : Int) - f.fractionBits) f.leastPlace = last
  have hk := kept_ge f s m p last h0 (by omega)
  have hle : (e - f.fractionBits - f.leastPlace + 1).toNat ≤ (last - f.leastPlace).toNat + 1 := by omega
  have := Nat.mul_le_mul_right f.binade hle
  rw [Nat.add_mul] at this
  omega

/-- A number without a minus sign, at least two to the power of e. -/
def PB (k : FloatKind) (x : Nat) (e : Int) : Prop := ∃ m p, k.decode x = .number false m p ∧ m ≠ 0 ∧ e ≤ p + m.log2
theorem PB_write (k : FloatKind) (m : Nat) (p e e' : Int) (h0 : m ≠ 0) (h : e ≤ p + m.log2) (h' : p + m.log2 < e') (he : k.format.leastPlace + k.format.fractionBits ≤ e) (hi : e' ≤ 100) :
    PB k (k.format.write (.number false m p)) e := by
  obtain ⟨r, hr, hb, _⟩ := nearest_small k.format false m p e' (fun _ => h') (by omega)
  obtain ⟨r', hr', hb'⟩ := nearest_great k.format false m p e h0 h he
  have hB : 0 < k.format.binade := Nat.two_pow_pos _
  have hSB : k.format.infRung < k.format.signWeight := k.format.infRung_lt
  have hinf : (101 - k.format.fractionBits - k.format.leastPlace + 1).toNat * k.format.binade < k.format.infRung := by cases k <;> decide
  have hle : (e' - k.format.fractionBits - k.format.leastPlace + 1).toNat ≤ (101 - k.format.fractionBits - k.format.leastPlace + 1).toNat := by omega
  have hle' : (e - k.format.fractionBits - k.format.leastPlace + 1).toNat ≤ (101 - k.format.fractionBits - k.format.leastPlace + 1).toNat := by omega
  have hlt : r < k.format.infRung := Nat.lt_of_le_of_lt (Nat.le_trans hb (Nat.mul_le_mul_right _ hle)) hinf
  have hlt' := Nat.lt_of_le_of_lt (Nat.mul_le_mul_right k.format.binade hle') hinf
  have hrr : r' = r := by
    have : k.format.word false r' = k.format.word false r := hr'.symm.trans hr
    simpa [Ieee.Format.word] using this
  rw [hrr] at hb'
  have hlow : (e - k.format.fractionBits - k.format.leastPlace + 1).toNat * k.format.binade ≤ r := by omega
  show PB k (k.format.nearest false m p) e
  rw [hr]
  show ∃ m' p', k.format.read (k.format.word false r) = .number false m' p' ∧ _
  have hq : (e - k.format.fractionBits - k.format.leastPlace + 1).toNat ≤ r / k.format.binade := (Nat.le_div_iff_mul_le hB).2 hlow
  have h1 : ¬ r < k.format.binade := by
    have := Nat.mul_le_mul_right k.format.binade (show 1 ≤ (e - k.format.fractionBits - k.format.leastPlace + 1).toNat by omega)
    omega
  have hw : k.format.word false r = r := by simp [Ieee.Format.word]
  have hfb : k.format.binade = 2 ^ k.format.fractionBits := rfl
  unfold Ieee.Format.read
  dsimp only
  rw [word_mod _ _ _ (by omega), if_neg h1, if_pos hlt, hw, Nat.div_eq_of_lt (by omega)]
  refine ⟨_, _, rfl, by omega, ?_⟩
  have hl : k.format.fractionBits ≤ (k.format.binade + r % k.format.binade).log2 := (Nat.le_log2 (by omega)).2 (by omega)
  omega

/-- A number without a minus sign, less than two to the power of e. -/
def NB (k : FloatKind) (x : Nat) (e : Int) : Prop := ∃ m p, k.decode x = .number false m p ∧ (m ≠ 0 → p + m.log2 < e)
theorem NB.mb {k : FloatKind} {x : Nat} {e : Int} (h : NB k x e) : MB k x e := by
  obtain ⟨m, p, h1, h2⟩ := h; exact ⟨_, m, p, h1, h2⟩
theorem NB_write (k : FloatKind) (m : Nat) (p e : Int) (h : m ≠ 0 → p + m.log2 < e) (he : k.format.leastPlace + k.format.fractionBits + 1 ≤ e)
    (hi : e ≤ 100) : NB k (k.format.write (.number false m p)) (e + 1) := by
  obtain ⟨s, m', p', h1, h2⟩ := MB_write k false m p e h he hi
  obtain ⟨r, hr, hb, _⟩ := nearest_small k.format false m p e h he
  have hB : 0 < k.format.binade := Nat.two_pow_pos _
  have hSB : k.format.infRung < k.format.signWeight := k.format.infRung_lt
  have hinf : (101 - k.format.fractionBits - k.format.leastPlace + 1).toNat * k.format.binade < k.format.infRung := by cases k <;> decide
  have hle : (e - k.format.fractionBits - k.format.leastPlace + 1).toNat ≤ (101 - k.format.fractionBits - k.format.leastPlace + 1).toNat := by omega
  have hlt : r < k.format.infRung := Nat.lt_of_le_of_lt (Nat.le_trans hb (Nat.mul_le_mul_right _ hle)) hinf
  have hw : k.format.word false r = r := by simp [Ieee.Format.word]
  have hs : s = false := by
    change k.format.read (k.format.nearest false m p) = _ at h1
    rw [hr] at h1
    unfold Ieee.Format.read at h1
    dsimp only at h1
    rw [hw, Nat.div_eq_of_lt (by omega)] at h1
    split at h1
    · simp only [Ieee.Datum.number.injEq] at h1; rw [← h1.1]; rfl
    · split at h1
      · simp only [Ieee.Datum.number.injEq] at h1; rw [← h1.1]; rfl
      · split at h1 <;> cases h1
  subst hs
  exact ⟨m', p', h1, h2⟩
/-- What is multiplied by itself has no minus sign. -/
theorem NB_square {x : Nat} {e : Int} (hx : MB .f64 x e) (h1 : -1000 ≤ e + e) (h2 : e + e ≤ 100) : ∃ y, fop .mul .f64 (some x) (some x) = some y ∧ NB .f64 y (e + e + 1) := by
  obtain ⟨s, m, p, a1, a2⟩ := hx
  have hL : FloatKind.f64.format.leastPlace + FloatKind.f64.format.fractionBits + 1 = -1021 := by decide
  refine ⟨FloatKind.f64.format.write (.number false (m * m) (p + p)), ?_, NB_write .f64 _ _ _ (fun h0 => ?_) (by omega) h2⟩
  · show ((FloatKind.f64.decode x).product (FloatKind.f64.decode x)).map FloatKind.f64.format.write = _
    rw [a1]
    show some (FloatKind.f64.format.write (.number (s != s) (m * m) (p + p))) = _
    cases s <;> rfl
  · have m0 : m ≠ 0 := fun h => h0 (by rw [h, Nat.zero_mul])
    have a3 := a2 m0
    have b1 : m < 2 ^ (m.log2 + 1) := Nat.lt_log2_self
    have b3 : m * m < 2 ^ (m.log2 + 1 + (m.log2 + 1)) := by
      rw [Nat.pow_add]; exact Nat.mul_lt_mul_of_lt_of_le b1 (Nat.le_of_lt b1) (Nat.two_pow_pos _)
    have b4 := (Nat.log2_lt h0).2 b3
    omega
/-- The sum of a number of at least two to the power of e and one without a minus sign. -/
theorem PB_sum {x y : Nat} {e E : Int} (hx : PB .f64 x e) (hX : MB .f64 x E) (hy : NB .f64 y E) (h1 : -1000 ≤ e) (h0 : -1000 ≤ E) (h2 : E ≤ 99) : ∃ r, fop .add .f64 (some x) (some y) = some r ∧ PB .f64 r e ∧ NB .f64 r (E + 2) := by
  obtain ⟨m, p, a1, a0, a2⟩ := hx
  obtain ⟨n, q, b1, b2⟩ := hy
  obtain ⟨s', m', p', c1, c2, c3⟩ := hX.le (by omega)
  rw [a1] at c1
  obtain ⟨rfl, rfl, rfl⟩ : false = s' ∧ m = m' ∧ p = p' := by simpa using c1
  have hL : FloatKind.f64.format.leastPlace + FloatKind.f64.format.fractionBits = -1022 := by decide
  have d1 := lg_scale (m := m) (p := p) (base := min p q) (e := E) (by omega) (by omega) c2
  have d2 := lg_scale (m := n) (p := q) (base := min p q) (e := E) (by omega) (by omega) b2
  have m0 : m <<< (p - min p q).toNat ≠ 0 := by rw [Nat.shiftLeft_eq]; exact Nat.mul_ne_zero a0 (Nat.pos_iff_ne_zero.1 (Nat.two_pow_pos _))
  have s0 : m <<< (p - min p q).toNat + n <<< (q - min p q).toNat ≠ 0 := fun h => m0 (Nat.eq_zero_of_add_eq_zero_right h)
  have low : e ≤ min p q + ((m <<< (p - min p q).toNat + n <<< (q - min p q).toNat).log2 : Int) := by
    have hge : 2 ^ m.log2 ≤ m := Nat.log2_self_le a0
    have : 2 ^ (m.log2 + (p - min p q).toNat) ≤ m <<< (p - min p q).toNat + n <<< (q - min p q).toNat := by
      rw [Nat.pow_add, Nat.shiftLeft_eq]
      exact Nat.le_trans (Nat.mul_le_mul_right _ hge) (Nat.le_add_right _ _)
    have := (Nat.le_log2 s0).2 this
    omega
  have high : min p q + ((m <<< (p - min p q).toNat + n <<< (q - min p q).toNat).log2 : Int) < E + 1 := by
    refine lg_of s0 (by omega) ?_
    rw [show (E + 1 - min p q).toNat = (E - min p q).toNat + 1 by omega, Nat.pow_succ]
    omega
  refine ⟨FloatKind.f64.format.write (.number false (m <<< (p - min p q).toNat + n <<< (q - min p q).toNat) (min p q)), ?_, PB_write .f64 _ _ e (E + 1) s0 low high (by omega) (by omega), ?_⟩
  · show ((FloatKind.f64.decode x).sum (FloatKind.f64.decode y)).map FloatKind.f64.format.write = _
    rw [a1, b1]
    have e1 : Ieee.signed false m (p - min p q).toNat + Ieee.signed false n (q - min p q).toNat = ((m <<< (p - min p q).toNat + n <<< (q - min p q).toNat : Nat) : Int) := by
      simp [Ieee.signed]
    have e2 : ¬ ((m <<< (p - min p q).toNat + n <<< (q - min p q).toNat : Nat) : Int) = 0 := fun h => s0 (Int.ofNat_eq_zero.1 h)
    have e3 : ¬ ((m <<< (p - min p q).toNat + n <<< (q - min p q).toNat : Nat) : Int) < 0 := Int.not_lt.2 (Int.natCast_nonneg _)
    simp only [Ieee.Datum.sum, e1, if_neg e2, Option.map, Int.natAbs_natCast, decide_eq_false e3]
  · have := NB_write .f64 _ _ (E + 1) (fun _ => high) (by omega) (by omega)
    rwa [show E + 1 + 1 = E + 2 by omega] at this
theorem PB.lbc {x : Nat} {e : Int} (h : PB .f64 x e) : LBC (some x) e := by
  obtain ⟨m, p, h1, h2, h3⟩ := h; exact ⟨x, _, m, p, rfl, h1, h2, h3⟩
end Fk
end Go.Proofs.Ytljpjmkickkcpab
end Part2
section Part3
namespace Go.Proofs.Ytljpjmkickkcpab
namespace Fk
open Go
set_option linter.unusedVariables false

theorem cut_exact (s : Bool) (a d : Nat) : Ieee.Toward.even.cut s (2 ^ (a + d)) d = 2 ^ a := by
  unfold Ieee.Toward.cut
  dsimp only
  rw [Nat.shiftLeft_eq, Nat.one_mul, Nat.log2_two_pow, Nat.min_eq_left (by omega), Nat.pow_add, Nat.mul_mod_left, Nat.mul_div_cancel _ (Nat.two_pow_pos _)]
  have : 0 < 2 ^ d := Nat.two_pow_pos _
  have e1 : decide (2 ^ d < 2 * 0) = false := decide_eq_false (by omega)
  have e2 : (2 ^ d == 2 * 0) = false := by rw [beq_eq_false_iff_ne]; omega
  rw [e1, e2]
  rfl

theorem nearest_le (f : Ieee.Format) (s : Bool) (m : Nat) (p e : Int) (h : m ≠ 0 → p ≤ e ∧ m ≤ 2 ^ (e - p).toNat) (he : f.leastPlace + f.fractionBits + 1 ≤ e) :
    ∃ r, f.nearest s m p = f.word s r ∧ r ≤ (e - f.fractionBits - f.leastPlace + 1).toNat * f.binade := by
  by_cases h0 : m = 0
  · obtain ⟨r, h1, h2, _⟩ := nearest_small f s m p e (fun h => absurd h0 h) he
    exact ⟨r, h1, h2⟩
  · obtain ⟨hp, hm⟩ := h h0
    by_cases hx : m = 2 ^ (e - p).toNat
    · unfold Ieee.Format.nearest
      dsimp only
      rw [if_neg h0]
      refine ⟨_, rfl, Nat.le_trans (Nat.min_le_left _ _) ?_⟩
      have hl : m.log2 = (e - p).toNat := by rw [hx, Nat.log2_two_pow]
      have hlast : max (p + (m.log2 : Int) - f.fractionBits) f.leastPlace = e - f.fractionBits := by rw [hl]; omega
      rw [hlast]
      have hk : Ieee.Toward.even.cut s (m <<< (p - (e - f.fractionBits)).toNat) ((e - f.fractionBits) - p).toNat = f.binade := by
        rw [hx, Nat.shiftLeft_eq, ← Nat.pow_add]
        have := cut_exact s f.fractionBits ((e - f.fractionBits) - p).toNat
        rw [← show f.binade = 2 ^ f.fractionBits from rfl] at this
        rw [← this]
        congr 2
        omega
      rw [hk]
      have : (e - f.fractionBits - f.leastPlace + 1).toNat = (e - f.fractionBits - f.leastPlace).toNat + 1 := by omega
      rw [this, Nat.add_mul]
      omega
    · have : p + (m.log2 : Int) < e := lg_of h0 hp (by omega)
      obtain ⟨r, h1, h2, _⟩ := nearest_small f s m p e (fun _ => this) he
      exact ⟨r, h1, h2⟩

/-- In size at most two to the power of e. -/
def LE (x : Nat) (e : Int) : Prop := ∃ s m p, FloatKind.f64.decode x = .number s m p ∧ p ≤ e ∧ m ≤ 2 ^ (e - p).toNat
theorem LE.mono {x : Nat} {e e' : Int} (h : LE x e) (he : e ≤ e') : LE x e' := by
  obtain ⟨s, m, p, h1, h2, h3⟩ := h
  exact ⟨s, m, p, h1, by omega, Nat.le_trans h3 (Nat.pow_le_pow_right (by decide) (by omega))⟩
theorem LE.mb {x : Nat} {e : Int} (h : LE x e) : MB .f64 x (e + 1) := by
  obtain ⟨s, m, p, h1, h2, h3⟩ := h
  refine ⟨s, m, p, h1, fun h0 => lg_of h0 (by omega) ?_⟩
  rw [show (e + 1 - p).toNat = (e - p).toNat + 1 by omega, Nat.pow_succ]
  have := Nat.two_pow_pos (e - p).toNat
  omega
theorem LE_write (s : Bool) (m : Nat) (p e : Int) (h : m ≠ 0 → p ≤ e ∧ m ≤ 2 ^ (e - p).toNat) (he : -1000 ≤ e) (hi : e ≤ 200) :
    LE (FloatKind.f64.format.write (.number s m p)) e := by
  have e1 : FloatKind.f64.format.binade = 4503599627370496 := by decide
  have e2 : FloatKind.f64.format.infRung = 9218868437227405312 := by decide
  have e3 : FloatKind.f64.format.leastPlace = -1074 := by decide
  have e4 : FloatKind.f64.format.fractionBits = 52 := by decide
  have e5 : FloatKind.f64.format.signWeight = 9223372036854775808 := by decide
  obtain ⟨r, hr, hb⟩ := nearest_le FloatKind.f64.format s m p e h (by rw [e3, e4]; omega)
  show LE (FloatKind.f64.format.nearest s m p) e
  rw [hr]
  rw [e1, e3, e4] at hb
  have hlt : r < 9218868437227405312 := by omega
  show ∃ s' m' p', FloatKind.f64.format.read (FloatKind.f64.format.word s r) = .number s' m' p' ∧ _
  unfold Ieee.Format.read
  dsimp only
  rw [word_mod _ _ _ (by rw [e5]; omega), e1, e2, e3]
  have t52 : (2 : Nat) ^ 52 = 4503599627370496 := by decide
  by_cases h1 : r < 4503599627370496
  · rw [if_pos h1]
    refine ⟨_, _, _, rfl, by omega, ?_⟩
    have : 2 ^ 52 ≤ 2 ^ (e - -1074).toNat := Nat.pow_le_pow_right (by decide) (by omega)
    omega
  · rw [if_neg h1, if_pos hlt]
    have hq : r / 4503599627370496 ≤ (e - 52 - -1074 + 1).toNat := by omega
    have hq1 : 1 ≤ r / 4503599627370496 := by omega
    refine ⟨_, _, _, rfl, by omega, ?_⟩
    by_cases hx : r / 4503599627370496 = (e - 52 - -1074 + 1).toNat
    · have : r % 4503599627370496 = 0 := by omega
      rw [this, ← t52]
      exact Nat.pow_le_pow_right (by decide) (by omega)
    · have : 2 ^ 53 ≤ 2 ^ (e - ((r / 4503599627370496 : Nat) - 1 + -1074 : Int)).toNat := Nat.pow_le_pow_right (by decide) (by omega)
      have t53 : (2 : Nat) ^ 53 = 9007199254740992 := by decide
      refine Nat.le_trans ?_ (Nat.le_trans this (Nat.pow_le_pow_right (by decide) (by omega)))
      omega

theorem LE.opp {x : Nat} {e : Int} (h : LE x e) : ∃ s m p, (FloatKind.f64.decode x).opposite = .number s m p ∧ p ≤ e ∧ m ≤ 2 ^ (e - p).toNat := by
  obtain ⟨s, m, p, h1, h2⟩ := h
  exact ⟨!s, m, p, by rw [h1]; rfl, h2⟩
theorem LE_sum {x y : Ieee.Datum} {s t : Bool} {m n : Nat} {p q e : Int} (hx : x = .number s m p) (hy : y = .number t n q) (hp : p ≤ e) (hm : m ≤ 2 ^ (e - p).toNat) (hq : q ≤ e) (hn : n ≤ 2 ^ (e - q).toNat)
    (h1 : -1000 ≤ e) (h2 : e ≤ 199) : ∃ d, x.sum y = some d ∧ LE (FloatKind.f64.format.write d) (e + 1) := by
  subst hx hy
  refine ⟨_, rfl, ?_⟩
  have hmm : m <<< (p - min p q).toNat ≤ 2 ^ (e - min p q).toNat := by
    rw [Nat.shiftLeft_eq]
    refine Nat.le_trans (Nat.mul_le_mul_right _ hm) ?_
    rw [← Nat.pow_add]
    exact Nat.pow_le_pow_right (by decide) (by omega)
  have hnn : n <<< (q - min p q).toNat ≤ 2 ^ (e - min p q).toNat := by
    rw [Nat.shiftLeft_eq]
    refine Nat.le_trans (Nat.mul_le_mul_right _ hn) ?_
    rw [← Nat.pow_add]
    exact Nat.pow_le_pow_right (by decide) (by omega)
  have := LE_write (if Ieee.signed s m (p - min p q).toNat + Ieee.signed t n (q - min p q).toNat = 0 then s && t else decide (Ieee.signed s m (p - min p q).toNat + Ieee.signed t n (q - min p q).toNat < 0))
    (Ieee.signed s m (p - min p q).toNat + Ieee.signed t n (q - min p q).toNat).natAbs (min p q) (e + 1) (fun h0 => ⟨by omega, ?_⟩) (by omega) (by omega)
  · simpa [Ieee.Datum.sum] using this
  · have a3 := Int.natAbs_add_le (Ieee.signed s m (p - min p q).toNat) (Ieee.signed t n (q - min p q).toNat)
    rw [signed_abs, signed_abs] at a3
    rw [show (e + 1 - min p q).toNat = (e - min p q).toNat + 1 by omega, Nat.pow_succ]
    omega
theorem LE_product {x y : Ieee.Datum} {s t : Bool} {m n : Nat} {p q e e' : Int} (hx : x = .number s m p) (hy : y = .number t n q) (hp : p ≤ e) (hm : m ≤ 2 ^ (e - p).toNat) (hq : q ≤ e') (hn : n ≤ 2 ^ (e' - q).toNat)
    (h1 : -1000 ≤ e + e') (h2 : e + e' ≤ 200) : ∃ d, x.product y = some d ∧ LE (FloatKind.f64.format.write d) (e + e') := by
  subst hx hy
  refine ⟨_, rfl, LE_write _ _ _ _ (fun h0 => ⟨by omega, ?_⟩) h1 h2⟩
  refine Nat.le_trans (Nat.mul_le_mul hm hn) ?_
  rw [← Nat.pow_add]
  exact Nat.pow_le_pow_right (by decide) (by omega)
theorem LE_quotient {x y : Ieee.Datum} {s t : Bool} {m n : Nat} {p q e e' : Int} (dg : Nat) (hx : x = .number s m p) (hy : y = .number t n q) (hp : p ≤ e) (hm : m ≤ 2 ^ (e - p).toNat) (hn0 : n ≠ 0) (hn : e' ≤ q + n.log2)
    (h1 : -1000 ≤ e - e') (h2 : e - e' ≤ 200) : ∃ d, x.quotient dg y = some d ∧ LE (FloatKind.f64.format.write d) (e - e') := by
  subst hx hy
  simp only [Ieee.Datum.quotient, if_neg hn0]
  refine ⟨_, rfl, LE_write _ _ _ _ (fun h0 => ?_) h1 h2⟩
  generalize hmore : dg + n.log2 - m.log2 = more at h0 ⊢
  rw [Nat.shiftLeft_eq] at h0 ⊢
  have hb : ((m * 2 ^ more % n != 0).toNat) ≤ 1 := by cases (m * 2 ^ more % n != 0) <;> simp
  by_cases m0 : m = 0
  · exfalso
    subst m0
    rw [Nat.zero_mul, Nat.zero_mod, Nat.zero_div] at h0
    exact h0 rfl
  · have hl : m.log2 ≤ (e - p).toNat := by
      have : 2 ^ m.log2 ≤ 2 ^ (e - p).toNat := Nat.le_trans (Nat.log2_self_le m0) hm
      exact (Nat.pow_le_pow_iff_right (by decide)).1 this
    have b2 : 2 ^ n.log2 ≤ n := Nat.log2_self_le hn0
    obtain ⟨K, hK⟩ : ∃ K, (e - p).toNat + more = K + n.log2 := ⟨(e - p).toNat + more - n.log2, by omega⟩
    have b3 : m * 2 ^ more ≤ 2 ^ K * 2 ^ n.log2 := by
      rw [← Nat.pow_add, ← hK, Nat.pow_add]; exact Nat.mul_le_mul_right _ hm
    have b4 : m * 2 ^ more ≤ 2 ^ K * n := Nat.le_trans b3 (Nat.mul_le_mul_left _ b2)
    have b5 : m * 2 ^ more / n ≤ 2 ^ K := by
      have := Nat.div_le_div_right (c := n) b4
      rwa [Nat.mul_div_cancel _ (Nat.pos_of_ne_zero hn0)] at this
    have b6 : 2 * (m * 2 ^ more / n) + (m * 2 ^ more % n != 0).toNat ≤ 2 ^ (K + 1) := by
      rw [Nat.pow_succ]
      by_cases hq : m * 2 ^ more / n = 2 ^ K
      · have := Nat.div_mul_le_self (m * 2 ^ more) n
        rw [hq] at this
        have hx : m * 2 ^ more = 2 ^ K * n := Nat.le_antisymm b4 this
        rw [hq, hx, Nat.mul_mod_left]
        simp; omega
      · omega
    refine ⟨by omega, Nat.le_trans b6 (Nat.pow_le_pow_right (by decide) (by omega))⟩

/-- A class that is a number of at most two to the power of e in size. -/
def LEC (c : Option Nat) (e : Int) : Prop := ∃ x, c = some x ∧ LE x e
theorem LEC.mono {c : Option Nat} {e e' : Int} (h : LEC c e) (he : e ≤ e') : LEC c e' := by
  obtain ⟨x, h1, h2⟩ := h; exact ⟨x, h1, h2.mono he⟩
theorem LEC.mbc {c : Option Nat} {e : Int} (h : LEC c e) : MBC c (e + 1) := by
  obtain ⟨x, h1, h2⟩ := h; exact ⟨x, h1, h2.mb⟩
theorem LEC_ovf {y : Nat} {c : Option Nat} {e : Int} (hv : FV .f64 y c) (h : LEC c e) (he : e ≤ 126) : ovf y = false := MBC_ovf hv h.mbc (by omega)
theorem LEC_add {c d : Option Nat} {e : Int} (hc : LEC c e) (hd : LEC d e) (h1 : -1000 ≤ e) (h2 : e ≤ 199) : LEC (fop .add .f64 c d) (e + 1) := by
  obtain ⟨x, rfl, s, m, p, a1, a2, a3⟩ := hc
  obtain ⟨y, rfl, t, n, q, b1, b2, b3⟩ := hd
  obtain ⟨r, hr, hm⟩ := LE_sum a1 b1 a2 a3 b2 b3 h1 h2
  refine ⟨_, ?_, hm⟩
  show ((FloatKind.f64.decode x).sum (FloatKind.f64.decode y)).map FloatKind.f64.format.write = _
  rw [hr]; rfl
theorem LEC_sub {c d : Option Nat} {e : Int} (hc : LEC c e) (hd : LEC d e) (h1 : -1000 ≤ e) (h2 : e ≤ 199) : LEC (fop .sub .f64 c d) (e + 1) := by
  obtain ⟨x, rfl, s, m, p, a1, a2, a3⟩ := hc
  obtain ⟨y, rfl, hy⟩ := hd
  obtain ⟨t, n, q, b1, b2, b3⟩ := hy.opp
  obtain ⟨r, hr, hm⟩ := LE_sum a1 b1 a2 a3 b2 b3 h1 h2
  refine ⟨_, ?_, hm⟩
  show ((FloatKind.f64.decode x).sum (FloatKind.f64.decode y).opposite).map FloatKind.f64.format.write = _
  rw [hr]; rfl
theorem LEC_mul {c d : Option Nat} {e e' : Int} (hc : LEC c e) (hd : LEC d e') (h1 : -1000 ≤ e + e') (h2 : e + e' ≤ 200) : LEC (fop .mul .f64 c d) (e + e') := by
  obtain ⟨x, rfl, s, m, p, a1, a2, a3⟩ := hc
  obtain ⟨y, rfl, t, n, q, b1, b2, b3⟩ := hd
  obtain ⟨r, hr, hm⟩ := LE_product a1 b1 a2 a3 b2 b3 h1 h2
  refine ⟨_, ?_, hm⟩
  show ((FloatKind.f64.decode x).product (FloatKind.f64.decode y)).map FloatKind.f64.format.write = _
  rw [hr]; rfl
theorem LEC_quo {c d : Option Nat} {e e' : Int} (hc : LEC c e) (hd : LBC d e') (h1 : -1000 ≤ e - e') (h2 : e - e' ≤ 200) : LEC (fop .quo .f64 c d) (e - e') := by
  obtain ⟨x, rfl, s, m, p, a1, a2, a3⟩ := hc
  obtain ⟨y, t, n, q, rfl, b1, b0, b2⟩ := hd
  obtain ⟨r, hr, hm⟩ := LE_quotient (FloatKind.f64.format.fractionBits + 2) a1 b1 a2 a3 b0 b2 h1 h2
  refine ⟨_, ?_, hm⟩
  show ((FloatKind.f64.decode x).quotient (FloatKind.f64.format.fractionBits + 2) (FloatKind.f64.decode y)).map FloatKind.f64.format.write = _
  rw [hr]; rfl
end Fk
end Go.Proofs.Ytljpjmkickkcpab
end Part3
section Part4
namespace Go.Proofs.Ytljpjmkickkcpab
namespace Fk
open Go
set_option linter.unusedVariables false

theorem NB_root {x : Nat} (h : NB .f64 x 129) : ∃ r, fsq (some x) = some r ∧ NB .f64 r 68 := by
  obtain ⟨m, i, h1, h2⟩ := h
  cases hr : (Ieee.Datum.number false m i).root (FloatKind.f64.format.fractionBits + 2) with
  | none =>
    simp only [Ieee.Datum.root] at hr
    split at hr
    · cases hr
    · simp at hr
  | some y =>
    obtain ⟨s', m', i', hy, hb⟩ := root_small _ _ y false m i rfl h2 hr
    have hs : s' = false := by
      subst hy
      simp only [Ieee.Datum.root] at hr
      split at hr
      · simp only [Option.some.injEq, Ieee.Datum.number.injEq] at hr; exact hr.1.symm
      · simp at hr; first | exact hr.1.symm | exact hr.1
    subst hs
    refine ⟨FloatKind.f64.format.write y, ?_, ?_⟩
    · show (FloatKind.f64.format.sqrt x) = _
      unfold Ieee.Format.sqrt
      have : FloatKind.f64.format.read x = .number false m i := h1
      rw [this, hr]; rfl
    · rw [hy]
      exact NB_write .f64 m' i' 67 hb (by decide) (by decide)

def one64 : Nat := 4607182418800017408
theorem one_PB : PB .f64 one64 0 := ⟨4503599627370496, -52, by decide, by decide, by decide⟩
theorem one_LE : LE one64 0 := ⟨false, 4503599627370496, -52, by decide, by decide, by decide⟩
/-- One step of the halving of an angle: at most as great as before. -/
theorem LEC_halve {t : Nat} {e : Int} (ht : LE t e) (h0 : 0 ≤ e) (h1 : e ≤ 40) :
    LEC (fop .quo .f64 (some t) (fop .add .f64 (some one64) (fsq (fop .add .f64 (some one64) (fop .mul .f64 (some t) (some t)))))) e := by
  obtain ⟨y, hy, ny⟩ := NB_square ht.mb (by omega) (by omega)
  rw [hy]
  obtain ⟨z, hz, pz, nz⟩ := PB_sum one_PB (E := e + 1 + (e + 1) + 1) (one_LE.mb.mono (by omega)) ny (by omega) (by omega) (by omega)
  rw [hz]
  have nz' : NB .f64 z 129 := by
    obtain ⟨m, p, a, b⟩ := nz
    exact ⟨m, p, a, fun h => by have := b h; omega⟩
  obtain ⟨r, hr, nr⟩ := NB_root nz'
  rw [hr]
  obtain ⟨d, hd, pd, _⟩ := PB_sum one_PB (E := 68) (one_LE.mb.mono (by omega)) nr (by omega) (by omega) (by omega)
  rw [hd]
  have := LEC_quo ⟨t, rfl, ht⟩ pd.lbc (by omega) (by omega)
  rwa [Int.sub_zero] at this
end Fk
end Go.Proofs.Ytljpjmkickkcpab
end Part4
section Part5
namespace Go.Proofs.Ytljpjmkickkcpab
namespace Fk
open Go
set_option linter.unusedVariables false

theorem dec64 (x : Nat) : FloatKind.f64.decode x = if x % 9223372036854775808 < 4503599627370496 then .number (x / 9223372036854775808 % 2 == 1) (x % 9223372036854775808) (-1074)
    else if x % 9223372036854775808 < 9218868437227405312 then .number (x / 9223372036854775808 % 2 == 1) (4503599627370496 + x % 9223372036854775808 % 4503599627370496) (-1074 + (x % 9223372036854775808 / 4503599627370496 - 1 : Nat))
    else if x % 9223372036854775808 = 9218868437227405312 then .infinity (x / 9223372036854775808 % 2 == 1) else .nan (x / 9223372036854775808 % 2 == 1) (x % 9223372036854775808 - 9218868437227405312) := rfl

/-- The word of a finite number, without its sign. -/
theorem wid_abs {x : Nat} (hx : x < 4294967296) (hf : finB x = true) :
    (x % 2147483648 = 0 ∧ wid x = (if x < 2147483648 then 0 else 9223372036854775808)) ∨
    (x % 2147483648 ≠ 0 ∧ ∃ r, 874 * 4503599627370496 ≤ r ∧ r < 1151 * 4503599627370496 ∧ wid x = (if x < 2147483648 then 0 else 9223372036854775808) + r) := by
  have hf' : x % 2147483648 < 2139095040 := by simpa [finB] using hf
  have hs : (x / 2147483648 % 2 == 1) = decide (¬ x < 2147483648) := by
    by_cases h : x < 2147483648
    · rw [Nat.div_eq_of_lt h]; simp [h]
    · have h1 : x / 2147483648 = 1 := by omega
      rw [h1]; simp [h]
  have e2 : Ieee.double.signWeight = 9223372036854775808 := by decide
  have d := dec32 x
  by_cases h0 : x % 2147483648 = 0
  · refine .inl ⟨h0, ?_⟩
    rw [h0, if_pos (by decide)] at d
    unfold wid
    rw [d, hs]
    show Ieee.double.nearest _ 0 (-149) = _
    unfold Ieee.Format.nearest
    rw [if_pos rfl]
    unfold Ieee.Format.word
    rw [e2]
    by_cases h2 : x < 2147483648 <;> simp [h2]
  · refine .inr ⟨h0, ?_⟩
    obtain ⟨m, p, hd, hm0, hlo, hhi⟩ : ∃ m p, FloatKind.f32.decode x = .number (x / 2147483648 % 2 == 1) m p ∧ m ≠ 0 ∧ -149 ≤ p + (m.log2 : Int) ∧ p + (m.log2 : Int) ≤ 127 := by
      by_cases h1 : x % 2147483648 < 8388608
      · rw [if_pos h1] at d
        have : (x % 2147483648).log2 < 23 := (Nat.log2_lt h0).2 h1
        exact ⟨_, _, d, h0, by omega, by omega⟩
      · rw [if_neg h1, if_pos hf'] at d
        have : (8388608 + x % 2147483648 % 8388608).log2 < 24 := (Nat.log2_lt (by omega)).2 (by omega)
        exact ⟨_, _, d, by omega, by omega, by omega⟩
    obtain ⟨b1, b2, b3⟩ := decode32 x _ m p hd
    have hl : m.log2 < 24 := (Nat.log2_lt hm0).2 b1
    have e1 : Ieee.double.fractionBits = 52 := rfl
    have e4 : Ieee.double.leastPlace = -1074 := by decide
    have e3 : Ieee.double.binade = 4503599627370496 := by decide
    have e5 : Ieee.double.infRung = 9218868437227405312 := by decide
    have hw : wid x = Ieee.double.word (decide (¬ x < 2147483648)) (min (((p + m.log2 - 52 + 1074).toNat) * 4503599627370496 + m * 2 ^ (52 - m.log2)) 9218868437227405312) := by
      unfold wid
      rw [hd, hs]
      show Ieee.double.nearest _ m p = _
      rw [nearest_exact _ _ m p hm0 (by rw [e1]; omega) (by rw [e4]; omega), e1, e4, e3, e5]
      have k1 : (max (p + (m.log2 : Int) - ((52 : Nat) : Int)) (-1074) - -1074).toNat = (p + m.log2 - 52 + 1074).toNat := by omega
      have k2 : (p - max (p + (m.log2 : Int) - ((52 : Nat) : Int)) (-1074)).toNat = 52 - m.log2 := by omega
      rw [k1, k2]
    have hlt : m * 2 ^ (52 - m.log2) < 9007199254740992 := by
      have : m * 2 ^ (52 - m.log2) < 2 ^ (m.log2 + 1) * 2 ^ (52 - m.log2) := Nat.mul_lt_mul_of_pos_right Nat.lt_log2_self (Nat.two_pow_pos _)
      rw [← Nat.pow_add, show m.log2 + 1 + (52 - m.log2) = 53 by omega] at this
      exact this
    have hge : 4503599627370496 ≤ m * 2 ^ (52 - m.log2) := by
      have : 2 ^ m.log2 * 2 ^ (52 - m.log2) ≤ m * 2 ^ (52 - m.log2) := Nat.mul_le_mul_right _ (Nat.log2_self_le hm0)
      rw [← Nat.pow_add, show m.log2 + (52 - m.log2) = 52 by omega] at this
      exact this
    generalize m * 2 ^ (52 - m.log2) = M at hw hlt hge
    obtain ⟨K, hK⟩ : ∃ K : Nat, K = (p + m.log2 - 52 + 1074).toNat := ⟨_, rfl⟩
    rw [← hK] at hw
    refine ⟨K * 4503599627370496 + M, by omega, by omega, ?_⟩
    rw [hw, Nat.min_eq_left (by omega)]
    unfold Ieee.Format.word
    rw [e2]
    by_cases h2 : x < 2147483648 <;> simp [h2]

/-- A widened number stands to zero as it did. -/
theorem ord0 {x : Nat} (hx : x < 4294967296) (hf : finB x = true) : FloatKind.f64.format.order (wid x) 0 = FloatKind.f32.format.order x 0 := by
  have hn : nan32 x = false := by rw [nan32_iff]; have : x % 2147483648 < 2139095040 := by simpa [finB] using hf
                                  exact decide_eq_false (by omega)
  have e3 : 2 ^ FloatKind.f64.format.width = 18446744073709551616 := by decide
  have e3' : 2 ^ FloatKind.f32.format.width = 4294967296 := by decide
  rw [order_key (wid_lt x) (by rw [e3]; decide) (wid_nan hn) (by decide), order_key (by rw [e3']; exact hx) (by rw [e3']; decide) hn (by decide)]
  have k1 : key .f64 (wid x) = if wid x < 9223372036854775808 then (wid x : Int) else 9223372036854775808 - wid x := by
    unfold key; rw [show FloatKind.f64.format.signWeight = 9223372036854775808 by decide]; rfl
  have k2 : key .f32 x = if x < 2147483648 then (x : Int) else 2147483648 - x := by
    unfold key; rw [show FloatKind.f32.format.signWeight = 2147483648 by decide]; rfl
  have z1 : key .f64 0 = 0 := by decide
  have z2 : key .f32 0 = 0 := by decide
  rw [k1, k2, z1, z2]
  congr 1
  rcases wid_abs hx hf with ⟨h0, hw⟩ | ⟨h0, r, hr1, hr2, hw⟩
  · by_cases h2 : x < 2147483648
    · rw [if_pos h2] at hw ⊢
      rw [hw, show x = 0 by omega]; rfl
    · rw [if_neg h2] at hw ⊢
      rw [hw, show x = 2147483648 by omega]; rfl
  · by_cases h2 : x < 2147483648
    · rw [if_pos h2] at hw ⊢
      rw [hw, if_pos (by omega), Int.compare_eq_gt.2 (by omega), Int.compare_eq_gt.2 (by omega)]
    · rw [if_neg h2] at hw ⊢
      rw [hw, if_neg (by omega), Int.compare_eq_lt.2 (by omega), Int.compare_eq_lt.2 (by omega)]

/-- What stands for the size of a finite number. -/
def AbsW (a : Nat) : Prop := a = 0 ∨ (874 * 4503599627370496 ≤ a ∧ a < 1151 * 4503599627370496)
theorem AbsW_of {x : Nat} (hx : x < 4294967296) (hf : finB x = true) : AbsW (wid x % 9223372036854775808) := by
  rcases wid_abs hx hf with ⟨h0, hw⟩ | ⟨h0, r, hr1, hr2, hw⟩
  · left; rw [hw]; split <;> rfl
  · right; rw [hw]; split <;> omega
theorem AbsW_zero {x : Nat} (hx : x < 4294967296) (hf : finB x = true) : (wid x % 9223372036854775808 = 0) ↔ x % 2147483648 = 0 := by
  rcases wid_abs hx hf with ⟨h0, hw⟩ | ⟨h0, r, hr1, hr2, hw⟩
  · rw [hw]; constructor
    · intro _; exact h0
    · intro _; split <;> rfl
  · rw [hw]; constructor
    · intro h; exfalso; split at h <;> omega
    · intro h; exact absurd h h0
theorem AbsW.lt {a : Nat} (h : AbsW a) : a < 9218868437227405312 := by rcases h with h | h <;> omega
theorem AbsW.fv {a : Nat} (h : AbsW a) : FV .f64 a (some a) := by
  have := h.lt
  refine ⟨by rw [show 2 ^ FloatKind.f64.format.width = 18446744073709551616 by decide]; omega, cls_num ?_⟩
  rw [isNaN_decode, show FloatKind.f64.format.infRung = 9218868437227405312 by decide, show FloatKind.f64.format.signWeight = 9223372036854775808 by decide]
  exact decide_eq_false (by omega)
theorem AbsW.dec {a : Nat} (h : AbsW a) (h0 : a ≠ 0) : ∃ m, FloatKind.f64.decode a = .number false m (-1074 + (a / 4503599627370496 - 1 : Nat)) ∧ 4503599627370496 ≤ m ∧ m < 9007199254740992 := by
  rcases h with h | h
  · exact absurd h h0
  · refine ⟨4503599627370496 + a % 4503599627370496, ?_, by omega, by omega⟩
    have h1 : a % 9223372036854775808 = a := by omega
    have h2 : a / 9223372036854775808 = 0 := by omega
    rw [dec64, h1, h2, if_neg (by omega), if_pos (by omega)]
    rfl
theorem log2_52 {m : Nat} (h1 : 4503599627370496 ≤ m) (h2 : m < 9007199254740992) : m.log2 = 52 := by
  have a := (Nat.log2_lt (n := m) (k := 53) (by omega)).2 h2
  have b := (Nat.le_log2 (n := m) (k := 52) (by omega)).2 h1
  omega
theorem AbsW.le {a : Nat} (h : AbsW a) (h0 : a ≠ 0) : LE a ((a / 4503599627370496 : Nat) - 1022) := by
  obtain ⟨m, hd, h1, h2⟩ := h.dec h0
  refine ⟨_, _, _, hd, by omega, ?_⟩
  have : (((a / 4503599627370496 : Nat) : Int) - 1022 - (-1074 + (a / 4503599627370496 - 1 : Nat))).toNat = 53 := by
    rcases h with h | h
    · exact absurd h h0
    · omega
  rw [this]
  exact Nat.le_of_lt h2
theorem AbsW.lbc {a : Nat} (h : AbsW a) (h0 : a ≠ 0) : LBC (some a) ((a / 4503599627370496 : Nat) - 1023) := by
  obtain ⟨m, hd, h1, h2⟩ := h.dec h0
  refine ⟨_, _, _, _, rfl, hd, by omega, ?_⟩
  rw [log2_52 h1 h2]
  rcases h with h | h
  · exact absurd h h0
  · omega
/-- The lesser one divided by the greater one. -/
theorem LEC_ratio {a b : Nat} (ha : AbsW a) (hb : AbsW b) (h : a ≤ b) (h0 : b ≠ 0) : LEC (fop .quo .f64 (some a) (some b)) 1 := by
  have hl := hb.lbc h0
  by_cases ha0 : a = 0
  · have hz : LE a ((b / 4503599627370496 : Nat) - 1023) := by
      subst ha0
      exact ⟨false, 0, -1074, by decide, by omega, Nat.zero_le _⟩
    exact (LEC_quo ⟨a, rfl, hz⟩ hl (by omega) (by omega)).mono (by omega)
  · have hle := ha.le ha0
    have hq : a / 4503599627370496 ≤ b / 4503599627370496 := Nat.div_le_div_right h
    rcases ha with h1 | h1
    · exact absurd h1 ha0
    · rcases hb with h2 | h2
      · exact absurd h2 h0
      · exact (LEC_quo ⟨a, rfl, hle⟩ hl (by omega) (by omega)).mono (by omega)
/-- Sizes stand to each other as their words. -/
theorem gt_abs {a b : Nat} (ha : AbsW a) (hb : AbsW b) : (FloatKind.f64.format.order a b == some .gt) = decide (b < a) := by
  have e3 : 2 ^ FloatKind.f64.format.width = 18446744073709551616 := by decide
  have := ha.lt
  have := hb.lt
  rw [order_key (by rw [e3]; omega) (by rw [e3]; omega) ha.fv.notnan hb.fv.notnan]
  have k : ∀ z, z < 9218868437227405312 → key .f64 z = (z : Int) := by
    intro z hz
    unfold key
    rw [show FloatKind.f64.format.signWeight = 9223372036854775808 by decide, if_pos (by omega)]
  rw [k _ ha.lt, k _ hb.lt]
  by_cases h : b < a
  · rw [Int.compare_eq_gt.2 (by omega), decide_eq_true h]; rfl
  · rw [decide_eq_false h]
    cases hc : compare (a : Int) (b : Int)
    · rfl
    · rfl
    · have := Int.compare_eq_gt.1 hc; omega
end Fk
end Go.Proofs.Ytljpjmkickkcpab
end Part5
section Part6
namespace Go.Proofs.Ytljpjmkickkcpab
namespace Fk
open Go
set_option linter.unusedVariables false

theorem PB_int {n : Nat} (h0 : n ≠ 0) (h : n < 1000000) : PB .f64 (floatOfInt .f64 (n : Int)) n.log2 := by
  have hl : n.log2 < 20 := (Nat.log2_lt h0).2 (by omega)
  have := PB_write .f64 n 0 (n.log2 : Int) 30 h0 (by omega) (by omega) (by rw [show FloatKind.f64.format.leastPlace + FloatKind.f64.format.fractionBits = -1022 by decide]; omega) (by decide)
  unfold floatOfInt FloatKind.nearest
  rw [show decide ((n : Int) < 0) = false from decide_eq_false (by omega), Int.natAbs_natCast]
  exact this
theorem LE_int {n : Nat} {e : Nat} (h : n ≤ 2 ^ e) (he : e ≤ 100) : LE (floatOfInt .f64 (n : Int)) e := by
  unfold floatOfInt FloatKind.nearest
  exact LE_write _ _ 0 _ (fun _ => ⟨by omega, by rw [Int.natAbs_natCast, show ((e : Int) - 0).toNat = e by omega]; exact h⟩) (by omega) (by omega)
theorem fv_int (n : Int) : FV .f64 (floatOfInt .f64 n) (some (floatOfInt .f64 n)) :=
  ⟨FloatKind.f64.format.write_lt (.number (n < 0) n.natAbs 0), cls_num (isNaN_write .f64 (.number (n < 0) n.natAbs 0) rfl)⟩

def halveC (c : Option Nat) : Option Nat := fop .quo .f64 c (fop .add .f64 (some one64) (fsq (fop .add .f64 (some one64) (fop .mul .f64 c c))))
theorem LEC_halveC {c : Option Nat} (h : LEC c 1) : LEC (halveC c) 1 := by
  obtain ⟨t, rfl, ht⟩ := h; exact LEC_halve ht (by decide) (by decide)
def halves (c : Option Nat) : Nat → Option Nat
  | 0 => c
  | n + 1 => halveC (halves c n)
theorem LEC_halves {c : Option Nat} (h : LEC c 1) : ∀ n, LEC (halves c n) 1
  | 0 => h
  | n + 1 => LEC_halveC (LEC_halves h n)
/-- The polynomial of the angle, after j steps. -/
def polA (u : Option Nat) : Nat → Option Nat
  | 0 => some 0
  | j + 1 => fop .sub .f64 (fop .quo .f64 (some one64) (some (floatOfInt .f64 (15 - 2 * (j : Int))))) (fop .mul .f64 u (polA u j))
theorem zero_LE (e : Int) (h : -1074 ≤ e) : LE 0 e := ⟨false, 0, -1074, by decide, by omega, Nat.zero_le _⟩
theorem LEC_polA {u : Option Nat} (hu : LEC u 2) : ∀ j : Nat, j ≤ 8 → LEC (polA u j) (3 * (j : Int))
  | 0, _ => ⟨0, rfl, zero_LE _ (by decide)⟩
  | j + 1, h => by
    have hj : (15 - 2 * (j : Int)) = ((15 - 2 * j : Nat) : Int) := by omega
    have hp := PB_int (n := 15 - 2 * j) (by omega) (by omega)
    have hq := LEC_quo ⟨one64, rfl, one_LE⟩ hp.lbc (by have := Nat.log2_le_self (15 - 2 * j); omega) (by omega)
    rw [← hj] at hq
    have hm := LEC_mul hu (LEC_polA hu j (by omega)) (by omega) (by omega)
    have := LEC_sub (hq.mono (e' := 2 + 3 * (j : Int)) (by omega)) hm (by omega) (by omega)
    exact this.mono (by omega)
def eight64 : Nat := 4620693217682128896
def turn64 : Nat := 4618760256179416344
def quarter64 : Nat := 4598175219545276416
def half64 : Nat := 4602678819172646912
/-- The angle of a tangent from 0 to 1. -/
def flatC (c : Option Nat) : Option Nat :=
  fop .quo .f64 (fop .mul .f64 (some eight64) (fop .mul .f64 (halves c 3) (polA (fop .mul .f64 (halves c 3) (halves c 3)) 8))) (some turn64)
theorem LEC_const {x : Nat} (e : Int) (h : LE x e) : LEC (some x) e := ⟨x, rfl, h⟩
theorem LEC_flat {c : Option Nat} (h : LEC c 1) : LEC (flatC c) 26 := by
  have ht := LEC_halves h 3
  have hu := LEC_mul ht ht (by decide) (by decide)
  have hp := LEC_polA hu 8 (by decide)
  have h1 := LEC_mul ht hp (by decide) (by decide)
  have h2 := LEC_mul (LEC_const 3 (x := eight64) ⟨false, _, _, rfl, by decide, by decide⟩) h1 (by decide) (by decide)
  have hd : LBC (some turn64) 2 := ⟨_, _, _, _, rfl, rfl, by decide, by decide⟩
  exact (LEC_quo h2 hd (by decide) (by decide)).mono (by decide)
theorem LEC_quarter {c : Option Nat} (h : LEC c 26) : LEC (fop .sub .f64 (some quarter64) c) 27 :=
  LEC_sub (LEC_const 26 (x := quarter64) ⟨false, _, _, rfl, by decide, by decide⟩) h (by decide) (by decide)
theorem LEC_half {c : Option Nat} (h : LEC c 27) : LEC (fop .sub .f64 (some half64) c) 28 :=
  LEC_sub (LEC_const 27 (x := half64) ⟨false, _, _, rfl, by decide, by decide⟩) h (by decide) (by decide)

/-! The sine -/
def polS (u : Option Nat) : Nat → Option Nat
  | 0 => some one64
  | j + 1 => fop .sub .f64 (some one64) (fop .quo .f64 (fop .mul .f64 u (polS u j)) (some (floatOfInt .f64 (2 * (8 - (j : Int)) * (2 * (8 - (j : Int)) + 1)))))
theorem LEC_polS {u : Option Nat} (hu : LEC u 12) : ∀ j : Nat, j ≤ 8 → LEC (polS u j) (11 * (j : Int))
  | 0, _ => ⟨one64, rfl, one_LE⟩
  | j + 1, h => by
    have hj : (2 * (8 - (j : Int)) * (2 * (8 - (j : Int)) + 1)) = ((2 * (8 - j) * (2 * (8 - j) + 1) : Nat) : Int) := by
      have : (8 : Int) - (j : Int) = ((8 - j : Nat) : Int) := by omega
      rw [this]; norm_cast
    obtain ⟨d, hd⟩ : ∃ d, d = 2 * (8 - j) * (2 * (8 - j) + 1) := ⟨_, rfl⟩
    have hd1 : 6 ≤ d ∧ d < 1000000 := by
      rw [hd]
      have : 8 - j ≤ 8 ∧ 1 ≤ 8 - j := by omega
      generalize 8 - j = i at this
      have : i = 1 ∨ i = 2 ∨ i = 3 ∨ i = 4 ∨ i = 5 ∨ i = 6 ∨ i = 7 ∨ i = 8 := by omega
      rcases this with h | h | h | h | h | h | h | h <;> subst h <;> decide
    rw [← hd] at hj
    have hp := PB_int (n := d) (by omega) hd1.2
    have hl2 : 2 ≤ d.log2 := (Nat.le_log2 (by omega)).2 (by omega)
    have hl20 : d.log2 < 20 := (Nat.log2_lt (by omega)).2 (by omega)
    have hm := LEC_mul hu (LEC_polS hu j (by omega)) (by omega) (by omega)
    have hq := LEC_quo hm hp.lbc (by omega) (by omega)
    rw [← hj] at hq
    have := LEC_sub (LEC_const (11 * (j : Int) + 10) (one_LE.mono (by omega))) (hq.mono (e' := 11 * (j : Int) + 10) (by omega)) (by omega) (by omega)
    exact this.mono (by omega)
end Fk
end Go.Proofs.Ytljpjmkickkcpab
end Part6
section Part7
namespace Go.Proofs.Ytljpjmkickkcpab
namespace Fk
open Go
set_option linter.unusedVariables false

theorem cut_zero (s : Bool) (n d : Nat) : Ieee.Toward.zero.cut s n d = n / 2 ^ d := by
  unfold Ieee.Toward.cut
  dsimp only
  rw [Nat.shiftLeft_eq, Nat.one_mul]
  show n / 2 ^ min d (n.log2 + 2) + 0 = _
  rw [Nat.add_zero]
  by_cases h : d ≤ n.log2 + 2
  · rw [Nat.min_eq_left h]
  · rw [Nat.min_eq_right (by omega)]
    have h1 : n < 2 ^ (n.log2 + 1) := Nat.lt_log2_self
    rw [Nat.div_eq_of_lt (Nat.lt_of_lt_of_le h1 (Nat.pow_le_pow_right (by decide) (by omega))), Nat.div_eq_of_lt (Nat.lt_of_lt_of_le h1 (Nat.pow_le_pow_right (by decide) (by omega)))]

/-- How a whole number's float reads. -/
theorem dec_whole (s : Bool) (K : Nat) (hK : K < 9007199254740992) : ∃ m p, FloatKind.f64.decode (FloatKind.f64.format.write (.number s K 0)) = .number s m p ∧ p ≤ 0 ∧ m = K * 2 ^ (-p).toNat := by
  by_cases h0 : K = 0
  · subst h0
    refine ⟨0, -1074, ?_, by decide, (Nat.zero_mul _).symm⟩
    rw [write_zero]
    cases s <;> decide
  · have hl : K.log2 < 53 := (Nat.log2_lt h0).2 hK
    have e1 : FloatKind.f64.format.fractionBits = 52 := rfl
    have e4 : FloatKind.f64.format.leastPlace = -1074 := by decide
    have e3 : FloatKind.f64.format.binade = 4503599627370496 := by decide
    have e5 : FloatKind.f64.format.infRung = 9218868437227405312 := by decide
    have e2 : FloatKind.f64.format.signWeight = 9223372036854775808 := by decide
    have hM : K * 2 ^ (52 - K.log2) < 9007199254740992 := by
      have : K * 2 ^ (52 - K.log2) < 2 ^ (K.log2 + 1) * 2 ^ (52 - K.log2) := Nat.mul_lt_mul_of_pos_right Nat.lt_log2_self (Nat.two_pow_pos _)
      rw [← Nat.pow_add, show K.log2 + 1 + (52 - K.log2) = 53 by omega] at this
      exact this
    have hge : 4503599627370496 ≤ K * 2 ^ (52 - K.log2) := by
      have : 2 ^ K.log2 * 2 ^ (52 - K.log2) ≤ K * 2 ^ (52 - K.log2) := Nat.mul_le_mul_right _ (Nat.log2_self_le h0)
      rw [← Nat.pow_add, show K.log2 + (52 - K.log2) = 52 by omega] at this
      exact this
    have hw : FloatKind.f64.format.write (.number s K 0) = FloatKind.f64.format.word s (min ((K.log2 + 1022) * 4503599627370496 + K * 2 ^ (52 - K.log2)) 9218868437227405312) := by
      show FloatKind.f64.format.nearest s K 0 = _
      rw [nearest_exact _ _ K 0 h0 (by rw [e1]; omega) (by rw [e4]; omega), e1, e4, e3, e5]
      have k1 : (max (0 + (K.log2 : Int) - ((52 : Nat) : Int)) (-1074) - -1074).toNat = K.log2 + 1022 := by omega
      have k2 : (0 - max (0 + (K.log2 : Int) - ((52 : Nat) : Int)) (-1074)).toNat = 52 - K.log2 := by omega
      rw [k1, k2]
    refine ⟨K * 2 ^ (52 - K.log2), (K.log2 : Int) - 52, ?_, by omega, by congr 2; omega⟩
    generalize K * 2 ^ (52 - K.log2) = M at hw hM hge
    rw [hw, Nat.min_eq_left (by omega)]
    have hwm : FloatKind.f64.format.word s ((K.log2 + 1022) * 4503599627370496 + M) % 9223372036854775808 = (K.log2 + 1022) * 4503599627370496 + M := by
      have := word_mod FloatKind.f64.format s ((K.log2 + 1022) * 4503599627370496 + M) (by rw [e2]; omega)
      rwa [e2] at this
    have hsg : (FloatKind.f64.format.word s ((K.log2 + 1022) * 4503599627370496 + M) / 9223372036854775808 % 2 == 1) = s := by
      unfold Ieee.Format.word
      rw [e2]
      cases s
      · rw [if_neg (by simp)]; rw [beq_eq_false_iff_ne]; omega
      · rw [if_pos rfl]; rw [beq_iff_eq]; omega
    rw [dec64, hwm, hsg, if_neg (by omega), if_pos (by omega)]
    have hq : ((K.log2 + 1022) * 4503599627370496 + M) / 4503599627370496 = K.log2 + 1023 := by omega
    have hr : 4503599627370496 + ((K.log2 + 1022) * 4503599627370496 + M) % 4503599627370496 = M := by omega
    rw [hq, hr]
    have k3 : (-1074 + ((K.log2 + 1023 - 1 : Nat) : Int)) = (K.log2 : Int) - 52 := by omega
    rw [k3]

theorem natAbs_diff (s : Bool) (a b : Nat) : ((if s then -(a : Int) else (a : Int)) + (if (!s) then -(b : Int) else (b : Int))).natAbs = ((a : Int) - (b : Int)).natAbs := by
  cases s <;> simp <;> omega
/-- What is left of a number when its whole part is taken away is at most one. -/
theorem LE_frac {x M : Nat} {P : Int} {s : Bool} (hd : FloatKind.f64.decode x = .number s M P) (hP : P ≤ 0) (hM : M < 9007199254740992) :
    LEC (fop .sub .f64 (some x) (some (floatOfInt .f64 (Ieee.signed s (M / 2 ^ (-P).toNat) 0)))) 0 := by
  have hK : M / 2 ^ (-P).toNat < 9007199254740992 := Nat.lt_of_le_of_lt (Nat.div_le_self _ _) hM
  have hdiv := Nat.div_add_mod M (2 ^ (-P).toNat)
  have hmod := Nat.mod_lt M (Nat.two_pow_pos (-P).toNat)
  generalize hKK : M / 2 ^ (-P).toNat = K at hK hdiv
  generalize M % 2 ^ (-P).toNat = R at hdiv hmod
  have hsn : Ieee.signed s K 0 = if s then -(K : Int) else K := by unfold Ieee.signed; simp
  have hab : (Ieee.signed s K 0).natAbs = K := by rw [signed_abs]; simp
  obtain ⟨t, m, p, hdi, hp, hm, ht⟩ : ∃ t m p, FloatKind.f64.decode (floatOfInt .f64 (Ieee.signed s K 0)) = .number t m p ∧ p ≤ 0 ∧ m = K * 2 ^ (-p).toNat ∧ (K ≠ 0 → t = s) := by
    obtain ⟨m, p, h1, h2, h3⟩ := dec_whole (decide (Ieee.signed s K 0 < 0)) K hK
    refine ⟨decide (Ieee.signed s K 0 < 0), m, p, ?_, h2, h3, fun h0 => ?_⟩
    · unfold floatOfInt FloatKind.nearest
      rw [hab]; exact h1
    · rw [hsn]; cases s
      · exact decide_eq_false (by simp)
      · exact decide_eq_true (by simp; omega)
  obtain ⟨total, htot⟩ : ∃ total, total = Ieee.signed s M (P - min P p).toNat + Ieee.signed (!t) m (p - min P p).toNat := ⟨_, rfl⟩
  have hb : total.natAbs ≤ 2 ^ (0 - min P p).toNat := by
    have e1 : M <<< (P - min P p).toNat = K * 2 ^ (0 - min P p).toNat + R * 2 ^ (P - min P p).toNat := by
      rw [Nat.shiftLeft_eq, ← hdiv, Nat.add_mul]
      congr 1
      rw [Nat.mul_comm (2 ^ _) K, Nat.mul_assoc, ← Nat.pow_add]
      congr 2; omega
    have e2 : m <<< (p - min P p).toNat = K * 2 ^ (0 - min P p).toNat := by
      rw [Nat.shiftLeft_eq, hm, Nat.mul_assoc, ← Nat.pow_add]
      congr 2; omega
    have e3 : R * 2 ^ (P - min P p).toNat ≤ 2 ^ (0 - min P p).toNat := by
      have : R * 2 ^ (P - min P p).toNat ≤ 2 ^ (-P).toNat * 2 ^ (P - min P p).toNat := Nat.mul_le_mul_right _ (Nat.le_of_lt hmod)
      rw [← Nat.pow_add] at this
      rwa [show (0 - min P p).toNat = (-P).toNat + (P - min P p).toNat by omega]
    rw [htot]
    by_cases h0 : K = 0
    · have hm0 : m = 0 := by rw [hm, h0, Nat.zero_mul]
      have : Ieee.signed (!t) m (p - min P p).toNat = 0 := by rw [hm0]; unfold Ieee.signed; simp
      rw [this, Int.add_zero, signed_abs, e1, h0, Nat.zero_mul, Nat.zero_add]; exact e3
    · rw [ht h0]
      unfold Ieee.signed
      rw [natAbs_diff, e1, e2]
      omega
  refine ⟨FloatKind.f64.format.write (.number (if total = 0 then s && (!t) else decide (total < 0)) total.natAbs (min P p)), ?_, LE_write _ _ _ _ (fun _ => ⟨by omega, hb⟩) (by decide) (by decide)⟩
  show ((FloatKind.f64.decode x).sum (FloatKind.f64.decode (floatOfInt .f64 (Ieee.signed s K 0))).opposite).map FloatKind.f64.format.write = _
  rw [hd, hdi]
  simp only [Ieee.Datum.opposite, Ieee.Datum.sum, Option.map_some, ← htot]

/-- The whole part of a finite number below two to the power of 52 in size, and what is left. -/
theorem whole_of {x : Nat} (hx : x < 4294967296) (hf : finB x = true) (hs : wid x % 9223372036854775808 < 4841369599423283200) :
    ∃ n : Int, floatToIntVal .f64 (wid x) .i64 = some n ∧ LEC (fop .sub .f64 (some (wid x)) (some (floatOfInt .f64 n))) 0 := by
  obtain ⟨s, M, P, hd, hP, hM⟩ : ∃ s M P, FloatKind.f64.decode (wid x) = .number s M P ∧ P ≤ 0 ∧ M < 9007199254740992 := by
    rw [dec64]
    by_cases h1 : wid x % 9223372036854775808 < 4503599627370496
    · rw [if_pos h1]; exact ⟨_, _, _, rfl, by decide, by omega⟩
    · rw [if_neg h1, if_pos (by omega)]; exact ⟨_, _, _, rfl, by omega, by omega⟩
  refine ⟨_, ?_, LE_frac hd hP hM⟩
  have hi : (FloatKind.f64.decode (wid x)).toInt .zero = some (Ieee.signed s (M / 2 ^ (-P).toNat) 0) := by
    rw [hd]
    simp only [Ieee.Datum.toInt, Ieee.Datum.integral]
    rw [show P.toNat = 0 by omega, Nat.shiftLeft_zero, cut_zero]
  have hK : M / 2 ^ (-P).toNat < 9007199254740992 := Nat.lt_of_le_of_lt (Nat.div_le_self _ _) hM
  have hsn : Ieee.signed s (M / 2 ^ (-P).toNat) 0 = if s then -((M / 2 ^ (-P).toNat : Nat) : Int) else (M / 2 ^ (-P).toNat : Nat) := by unfold Ieee.signed; simp
  unfold floatToIntVal
  rw [hi]
  dsimp only
  generalize M / 2 ^ (-P).toNat = K at hsn hK
  rw [hsn]
  have m1 : IntKind.i64.min = -9223372036854775808 := by decide
  have m2 : IntKind.i64.max = 9223372036854775807 := by decide
  rw [m1, m2, if_pos (by cases s <;> simp <;> omega)]
end Fk
end Go.Proofs.Ytljpjmkickkcpab
end Part7
section Part8
namespace Go.Proofs.Ytljpjmkickkcpab
namespace Fk
open Go
set_option linter.unusedVariables false

theorem xor_top {y : Nat} (h : y < 2 ^ 63) : y ^^^ 2 ^ 63 = 2 ^ 63 + y := by
  apply Nat.eq_of_testBit_eq
  intro j
  rw [Nat.testBit_xor, Nat.testBit_two_pow]
  rcases Nat.lt_trichotomy j 63 with h1 | h1 | h1
  · rw [Nat.testBit_two_pow_add_gt h1, decide_eq_false (by omega)]; cases y.testBit j <;> rfl
  · subst h1; rw [Nat.testBit_two_pow_add_eq, Nat.testBit_lt_two_pow h, decide_eq_true rfl]; rfl
  · rw [Nat.testBit_lt_two_pow (Nat.lt_of_lt_of_le h (Nat.pow_le_pow_right (by decide) (by omega))), Nat.testBit_lt_two_pow (x := 2 ^ 63 + y)]
    · rw [decide_eq_false (by omega)]; rfl
    · exact Nat.lt_of_lt_of_le (show 2 ^ 63 + y < 2 ^ 64 by rw [Nat.pow_succ 2 63]; omega) (Nat.pow_le_pow_right (by decide) (by omega))
theorem neg_word {x : Nat} (hx : x < 18446744073709551616) : Op.negFloat .f64 x = if x < 9223372036854775808 then x + 9223372036854775808 else x - 9223372036854775808 := by
  have t : (2 : Nat) ^ 63 = 9223372036854775808 := by decide
  show x ^^^ 2 ^ 63 = _
  by_cases h : x < 9223372036854775808
  · rw [if_pos h, xor_top (by rw [t]; exact h), t]; omega
  · rw [if_neg h]
    obtain ⟨y, rfl⟩ : ∃ y, x = 2 ^ 63 + y := ⟨x - 2 ^ 63, by rw [t]; omega⟩
    have hy : y < 2 ^ 63 := by rw [t] at hx ⊢; omega
    rw [← xor_top hy, Nat.xor_assoc, Nat.xor_self, Nat.xor_zero, xor_top hy, t]; omega
theorem LE_neg {x : Nat} {e : Int} (hx : x < 18446744073709551616) (h : LE x e) : LE (Op.negFloat .f64 x) e ∧ Op.negFloat .f64 x < 18446744073709551616 := by
  obtain ⟨s, m, p, hd, hp, hm⟩ := h
  rw [neg_word hx]
  refine ⟨?_, by split <;> omega⟩
  have hmod : (if x < 9223372036854775808 then x + 9223372036854775808 else x - 9223372036854775808) % 9223372036854775808 = x % 9223372036854775808 := by split <;> omega
  refine ⟨((if x < 9223372036854775808 then x + 9223372036854775808 else x - 9223372036854775808) / 9223372036854775808 % 2 == 1), m, p, ?_, hp, hm⟩
  rw [dec64, hmod]
  rw [dec64] at hd
  split at hd
  · rename_i h1
    rw [if_pos h1]
    simp only [Ieee.Datum.number.injEq] at hd ⊢
    exact ⟨trivial, hd.2⟩
  · rename_i h1
    rw [if_neg h1]
    split at hd
    · rename_i h2
      rw [if_pos h2]
      simp only [Ieee.Datum.number.injEq] at hd ⊢
      exact ⟨trivial, hd.2⟩
    · split at hd <;> cases hd
end Fk
end Go.Proofs.Ytljpjmkickkcpab
end Part8
section Part9
namespace Go.Proofs.Ytljpjmkickkcpab
namespace Fk
open Go
set_option linter.unusedVariables false

def negC (c : Option Nat) : Option Nat := c.map (Op.negFloat .f64)
theorem FV_neg {y : Nat} {c : Option Nat} {e : Int} (hv : FV .f64 y c) (h : LEC c e) : FV .f64 (Op.negFloat .f64 y) (negC c) ∧ LEC (negC c) e := by
  obtain ⟨z, rfl, hz⟩ := h
  obtain rfl := hv.num
  have e3 : 2 ^ FloatKind.f64.format.width = 18446744073709551616 := by decide
  have hlt := hv.1
  rw [e3] at hlt
  obtain ⟨h1, h2⟩ := LE_neg hlt hz
  refine ⟨⟨by rw [e3]; exact h2, cls_num ?_⟩, _, rfl, h1⟩
  obtain ⟨s, m, p, hd, _⟩ := h1
  rw [hd]; rfl
def quoAB (a b : Nat) : Option Nat := if b < a then fop .quo .f64 (some b) (some a) else fop .quo .f64 (some a) (some b)
/-- The angle of a point by the sizes of its coordinates and the sign of the second one. -/
def angB (a b : Nat) (xn : Bool) : Option Nat :=
  let t := flatC (quoAB a b)
  let t1 := if b < a then fop .sub .f64 (some quarter64) t else t
  if xn then fop .sub .f64 (some half64) t1 else t1
theorem LEC_quoAB {a b : Nat} (ha : AbsW a) (hb : AbsW b) (h : a ≠ 0 ∨ b ≠ 0) : LEC (quoAB a b) 1 := by
  unfold quoAB
  by_cases hlt : b < a
  · rw [if_pos hlt]; exact LEC_ratio hb ha (by omega) (by omega)
  · rw [if_neg hlt]; exact LEC_ratio ha hb (by omega) (by omega)
theorem LEC_ang {a b : Nat} (ha : AbsW a) (hb : AbsW b) (h : a ≠ 0 ∨ b ≠ 0) (xn : Bool) : LEC (angB a b xn) 28 := by
  have h0 := LEC_flat (LEC_quoAB ha hb h)
  have h1 : LEC (if b < a then fop .sub .f64 (some quarter64) (flatC (quoAB a b)) else flatC (quoAB a b)) 27 := by
    split
    · exact LEC_quarter h0
    · exact h0.mono (by decide)
  unfold angB
  cases xn
  · exact h1.mono (by decide)
  · exact LEC_half h1

/-- A share of a turn that was brought into the first turn: one more if it is less than zero. -/
def shareC (f : Option Nat) : Option Nat := if ford .f64 f (some 0) = some .lt then fop .add .f64 f (some one64) else f
def belowC (f : Option Nat) : Bool := ford .f64 f (some half64) == some .gt || ford .f64 f (some half64) == some .eq
def lowerC (f : Option Nat) : Option Nat := if belowC f then fop .sub .f64 f (some half64) else f
def quartC (f : Option Nat) : Option Nat := if ford .f64 f (some quarter64) = some .gt then fop .sub .f64 (some half64) f else f
/-- The sine of an angle in turns, up to its sign. -/
def sinP (f : Option Nat) : Option Nat :=
  let z := fop .mul .f64 f (some turn64)
  fop .mul .f64 z (polS (fop .mul .f64 z z) 8)
theorem LEC_share {f : Option Nat} (h : LEC f 0) : LEC (quartC (lowerC (shareC f))) 3 := by
  have h1 : LEC (shareC f) 1 := by
    unfold shareC; split
    · exact LEC_add h ⟨_, rfl, one_LE⟩ (by decide) (by decide)
    · exact h.mono (by decide)
  have h2 : LEC (lowerC (shareC f)) 2 := by
    unfold lowerC; split
    · exact LEC_sub h1 (LEC_const 1 (x := half64) ⟨false, _, _, rfl, by decide, by decide⟩) (by decide) (by decide)
    · exact h1.mono (by decide)
  unfold quartC; split
  · exact LEC_sub (LEC_const 2 (x := half64) ⟨false, _, _, rfl, by decide, by decide⟩) h2 (by decide) (by decide)
  · exact h2.mono (by decide)
theorem LEC_sin {f : Option Nat} (h : LEC f 3) : LEC (sinP f) 94 := by
  have hz := LEC_mul h (LEC_const 3 (x := turn64) ⟨false, _, _, rfl, by decide, by decide⟩) (by decide) (by decide)
  have hp := LEC_polS (LEC_mul hz hz (by decide) (by decide)) 8 (by decide)
  exact (LEC_mul hz hp (by decide) (by decide)).mono (by decide)
end Fk
end Go.Proofs.Ytljpjmkickkcpab
end Part9
section Part10
namespace Go.Proofs.Ytljpjmkickkcpab
open Go Fk Go.RowKit
set_option linter.unusedVariables false

def rootC (c : Option Nat) : Option Nat := (fsq (c.map wid)).map nar
@[go_sem] theorem ext_sqrt (x : Nat) (w : World) : (callFunc 165 #[.float .f64 x]).run Try.prog w = .ok (.value (.float .f64 (sR x w))) (w.drewN (sN x)) := by
  rw [run_callFunc_extern (e := Extern.MathSqrt.sqrt) Try.func165 (by kernel_rfl) (by kernel_rfl) (by kernel_rfl) (by kernel_rfl), run_sqrt]; rfl
theorem math_Sqrt (x : Nat) (w : World) :
    Calls Try.prog 164 #[.float .f64 x] w fun e w' => e = .returned (.float .f64 (sR x w)) ∧ ∃ n, w' = w.drewN n := by
  go_enter Try.func164, Try.ntmps164
  go_wp2
  go_ret
  exact ⟨rfl, _, rfl⟩
theorem impl_Narrow (y : Nat) (w : World) :
    Calls Try.prog 135 #[.float .f64 y] w fun e w' => e = .returned (.float .f32 (nR y w)) ∧ ∃ n, w' = w.drewN n := by
  have u := Try.underlying35
  have u' := Try.underlying27
  go_enter Try.func135, Try.ntmps135
  go_wp2
  go_ret
  exact ⟨rfl, _, rfl⟩
theorem spec_Narrow (y : Nat) (w : World) :
    Calls Try.prog 127 #[.float .f64 y] w fun e w' => e = .returned (.float .f32 (nR y w)) ∧ ∃ n, w' = w.drewN n := by
  have u := Try.underlying35
  have u' := Try.underlying27
  go_enter Try.func127, Try.ntmps127
  go_wp2
  go_ret
  exact ⟨rfl, _, rfl⟩
theorem FV_root {x : Nat} {c : Option Nat} {w w' w'' : World} (h : FV .f32 x c) : FV .f32 (nR (sR (wR x w) w') w'') (rootC c) :=
  FV_nR (FV_sR (FV_wR h)) (ovf_sR h.1)
theorem impl_RootNumber (x : Nat) (c : Option Nat) (w : World) (h : FV .f32 x c) :
    Calls Try.prog 155 #[.float .f32 x] w fun e w' => ∃ r, e = .returned (.float .f32 r) ∧ FV .f32 r (rootC c) ∧ ∃ n, w' = w.drewN n := by
  have u := Try.underlying35
  have u' := Try.underlying27
  go_enter Try.func155, Try.ntmps155
  go_wp2_with (first
    | (go_at_call 164; refine (math_Sqrt _ _).mono ?_; rintro e w' ⟨rfl, n, rfl⟩)
    | (go_at_call 135; refine (impl_Narrow _ _).mono ?_; rintro e w' ⟨rfl, n, rfl⟩))
  go_ret
  exact ⟨_, rfl, FV_root h, _, rfl⟩
theorem l01Sqrt (x : Nat) (c : Option Nat) (w : World) (h : FV .f32 x c) :
    Calls Try.prog 154 #[.float .f32 x] w fun e w' => ∃ r, e = .returned (.float .f32 r) ∧ FV .f32 r (rootC c) ∧ ∃ n, w' = w.drewN n := by
  have u := Try.underlying35
  have u' := Try.underlying27
  go_enter Try.func154, Try.ntmps154
  go_wp2_with (first
    | (go_at_call 164; refine (math_Sqrt _ _).mono ?_; rintro e w' ⟨rfl, n, rfl⟩)
    | (go_at_call 127; refine (spec_Narrow _ _).mono ?_; rintro e w' ⟨rfl, n, rfl⟩))
  go_ret
  exact ⟨_, rfl, FV_root h, _, rfl⟩
end Go.Proofs.Ytljpjmkickkcpab
end Part10
section Part11
namespace Go.Proofs.Ytljpjmkickkcpab
open Go Fk Go.RowKit
set_option linter.unusedVariables false

theorem math_NaN (w : World) : Calls Try.prog 157 #[] w fun e w' => e = .returned (.float .f64 9221120237041090561) ∧ w' = w := by
  go_enter Try.func157, Try.ntmps157
  go_wp2
  go_ret
  exact ⟨rfl, rfl⟩
theorem fv_nan : FV .f64 9221120237041090561 none := ⟨by decide, by decide⟩
theorem ovf_nan : ovf 9221120237041090561 = false := by decide
theorem impl_notANumber (w : World) : Calls Try.prog 130 #[] w fun e w' => ∃ r, e = .returned (.float .f32 r) ∧ FV .f32 r none ∧ ∃ n, w' = w.drewN n := by
  go_enter Try.func130, Try.ntmps130
  go_wp2_with (first
    | (go_at_call 157; refine (math_NaN _).mono ?_; rintro e w' ⟨rfl, rfl⟩)
    | (go_at_call 135; refine (impl_Narrow _ _).mono ?_; rintro e w' ⟨rfl, n, rfl⟩))
  go_ret
  exact ⟨_, rfl, FV_nR fv_nan ovf_nan, _, rfl⟩
theorem impl_product64 (x y : Nat) (w : World) (c d : Option Nat) (h1 : FV .f64 x c) (h2 : FV .f64 y d) :
    Calls Try.prog 134 #[.float .f64 x, .float .f64 y] w fun en w' => ∃ r, en = .returned (.float .f64 r) ∧ FV .f64 r (fop .mul .f64 c d) ∧ ∃ n, w' = w.drewN n := by
  have u := Try.underlying35
  go_enter Try.func134, Try.ntmps134
  go_wp2
  go_ret
  exact ⟨_, rfl, FV_fR h1 h2, _, rfl⟩
theorem fv_one : FV .f64 4607182418800017408 (some one64) := ⟨by decide, by decide⟩
theorem fv_eight : FV .f64 4620693217682128896 (some eight64) := ⟨by decide, by decide⟩
theorem fv_turn : FV .f64 4618760256179416344 (some turn64) := ⟨by decide, by decide⟩
theorem fv_half : FV .f64 4602678819172646912 (some half64) := ⟨by decide, by decide⟩
theorem fv_quarter : FV .f64 4598175219545276416 (some quarter64) := ⟨by decide, by decide⟩
theorem fv_zero64 : FV .f64 0 (some 0) := ⟨by decide, by decide⟩
theorem fv_num64 (x : Nat) (h1 : x < 18446744073709551616) (h2 : (FloatKind.f64.decode x).isNaN = false) : FV .f64 x (some x) :=
  ⟨by rw [show 2 ^ FloatKind.f64.format.width = 18446744073709551616 by decide]; exact h1, cls_num h2⟩
theorem sub_self64 {x : Nat} {s : Bool} {m : Nat} {p : Int} (e : FloatKind.f64.decode x = .number s m p) : floatBits .sub .f64 x x = some 0 := by
  show ((FloatKind.f64.decode x).sum (FloatKind.f64.decode x).opposite).map FloatKind.f64.format.write = _
  rw [e]
  have : Ieee.signed s m (p - min p p).toNat + Ieee.signed (!s) m (p - min p p).toNat = 0 := by
    unfold Ieee.signed; cases s <;> simp <;> omega
  simp only [Ieee.Datum.opposite, Ieee.Datum.sum, this, if_true, Option.map_some]
  rw [show (s && !s) = false by cases s <;> rfl]
  rw [show (0 : Int).natAbs = 0 from rfl, write_zero]; rfl
theorem wid_dec {x : Nat} (hx : x < 4294967296) (hf : finB x = true) : ∃ s m p, FloatKind.f64.decode (wid x) = .number s m p := by
  have hlt := (AbsW_of hx hf).lt
  rw [dec64]
  by_cases h1 : wid x % 9223372036854775808 < 4503599627370496
  · rw [if_pos h1]; exact ⟨_, _, _, rfl⟩
  · rw [if_neg h1, if_pos hlt]; exact ⟨_, _, _, rfl⟩
theorem fin_num {x : Nat} (hf : finB x = true) : nan32 x = false := by
  rw [nan32_iff]; have : x % 2147483648 < 2139095040 := by simpa [finB] using hf
  exact decide_eq_false (by omega)
theorem sub_wid {x : Nat} (hx : x < 4294967296) (hf : finB x = true) (w : World) : fR .sub .f64 (wid x) (wid x) w = 0 := by
  obtain ⟨s, m, p, h⟩ := wid_dec hx hf
  unfold fR
  rw [sub_self64 h]
/-- What is not finite, less itself, is a not-a-number. -/
theorem sub_inf {x : Nat} {w w' : World} (hx : x < 4294967296) (hf : finB x = false) : (FloatKind.f64.format.order (fR .sub .f64 (wR x w) (wR x w) w') 0 != some .eq) = true := by
  have hv := FV_wR (w := w) (FV.self (k := .f32) hx)
  have hd : FV .f64 (fR .sub .f64 (wR x w) (wR x w) w') (fop .sub .f64 ((cls .f32 x).map wid) ((cls .f32 x).map wid)) := FV_fR hv hv
  rw [ford_of hd fv_zero64]
  have hn : fop .sub .f64 ((cls .f32 x).map wid) ((cls .f32 x).map wid) = none := by
    cases hn : nan32 x
    · have hf' : ¬ x % 2147483648 < 2139095040 := by simpa [finB] using hf
      rw [nan32_iff] at hn
      have hi : x % 2147483648 = 2139095040 := by have := of_decide_eq_false hn; omega
      have hw : wid x = FloatKind.f64.encode (.infinity (x / 2147483648 % 2 == 1)) := by unfold wid; rw [dec32_inf hi]
      rw [cls_num (by rw [dec32_inf hi]; rfl)]
      show floatBits .sub .f64 (wid x) (wid x) = none
      rw [hw]
      cases (x / 2147483648 % 2 == 1) <;> decide
    · rw [cls_nan hn]; rfl
  rw [hn]
  rfl

def angF (a b : Nat) (xn yn : Bool) : Option Nat := if yn then negC (angB a b xn) else angB a b xn
abbrev eq0 (x : Nat) : Bool := FloatKind.f32.format.order x 0 == some .eq
abbrev lt0 (x : Nat) : Bool := FloatKind.f32.format.order x 0 == some .lt
theorem eq0_iff {x : Nat} (hx : x < 4294967296) (hf : finB x = true) : eq0 x = decide (x % 2147483648 = 0) := by
  unfold eq0
  have e3 : 2 ^ FloatKind.f32.format.width = 4294967296 := by decide
  rw [order_key (by rw [e3]; exact hx) (by rw [e3]; decide) (fin_num hf) (by decide)]
  have k2 : key .f32 x = if x < 2147483648 then (x : Int) else 2147483648 - x := by
    unfold key; rw [show FloatKind.f32.format.signWeight = 2147483648 by decide]; rfl
  rw [k2, show key .f32 0 = 0 by decide]
  by_cases h0 : x % 2147483648 = 0
  · rw [decide_eq_true h0, Int.compare_eq_eq.2 (by split <;> omega)]; rfl
  · rw [decide_eq_false h0]
    have hne : ¬ (if x < 2147483648 then (x : Int) else 2147483648 - x) = 0 := by split <;> omega
    cases hc : compare (if x < 2147483648 then (x : Int) else 2147483648 - x) 0
    · rfl
    · exact absurd (Int.compare_eq_eq.1 hc) hne
    · rfl
/-- The sizes of a point that is not zero. -/
theorem point_ne {x y : Nat} (hx : x < 4294967296) (hy : y < 4294967296) (fx : finB x = true) (fy : finB y = true) (h : (eq0 x && eq0 y) = false) : wid y % 9223372036854775808 ≠ 0 ∨ wid x % 9223372036854775808 ≠ 0 := by
  rw [eq0_iff hx fx, eq0_iff hy fy] at h
  by_cases h0 : wid y % 9223372036854775808 = 0
  · right
    intro h1
    have a := (AbsW_zero hy fy).1 h0
    have b := (AbsW_zero hx fx).1 h1
    simp [a, b] at h
  · exact .inl h0
@[go_sem] theorem run_neg64 {P : Program} (k : FloatKind) (x : Nat) (w : World) : (Op.unary .neg (.float k x)).run P w = .ok (.float k (Op.negFloat k x)) w := rfl
theorem ang_end {y : Nat} {c : Option Nat} {w : World} (hv : FV .f64 y c) (h : LEC c 28) : FV .f32 (nR y w) (c.map nar) := FV_nR hv (LEC_ovf hv h (by decide))
theorem ang_endN {y : Nat} {c : Option Nat} {w : World} (hv : FV .f64 y c) (h : LEC c 28) : FV .f32 (nR (Op.negFloat .f64 y) w) ((negC c).map nar) := by
  obtain ⟨h1, h2⟩ := FV_neg hv h
  exact FV_nR h1 (LEC_ovf h1 h2 (by decide))
theorem ang_wide {y : Nat} {c : Option Nat} (hv : FV .f64 y c) (h : LEC c 28) : FV .f64 y c ∧ ovf y = false := ⟨hv, LEC_ovf hv h (by decide)⟩
theorem ang_wideN {y : Nat} {c : Option Nat} (hv : FV .f64 y c) (h : LEC c 28) : FV .f64 (Op.negFloat .f64 y) (negC c) ∧ ovf (Op.negFloat .f64 y) = false := by
  obtain ⟨h1, h2⟩ := FV_neg hv h
  exact ⟨h1, LEC_ovf h1 h2 (by decide)⟩
end Go.Proofs.Ytljpjmkickkcpab
end Part11
section Part12
namespace Go.Proofs.Ytljpjmkickkcpab
namespace Fk
open Go
set_option linter.unusedVariables false

/-- What is written of a number without a minus sign has none. -/
theorem sgn_write {m : Nat} {p : Int} {s' : Bool} {m' : Nat} {p' : Int} (h : FloatKind.f64.decode (FloatKind.f64.format.write (.number false m p)) = .number s' m' p') : s' = false := by
  obtain ⟨r, hr, he⟩ := nearest_word FloatKind.f64.format false m p
  have e5 : FloatKind.f64.format.infRung = 9218868437227405312 := by decide
  rw [e5] at hr
  have hw : FloatKind.f64.format.write (.number false m p) = r := by
    show FloatKind.f64.format.nearest false m p = r
    rw [he]; unfold Ieee.Format.word; simp
  rw [hw, dec64] at h
  have h0 : (r / 9223372036854775808 % 2 == 1) = false := by rw [beq_eq_false_iff_ne]; omega
  rw [h0] at h
  split at h
  · cases h; rfl
  · split at h
    · cases h; rfl
    · split at h <;> cases h
/-- A number without a minus sign, at most two to the power of e. -/
def NLE (x : Nat) (e : Int) : Prop := ∃ m p, FloatKind.f64.decode x = .number false m p ∧ p ≤ e ∧ m ≤ 2 ^ (e - p).toNat
theorem NLE.le {x : Nat} {e : Int} (h : NLE x e) : LE x e := by obtain ⟨m, p, h⟩ := h; exact ⟨_, m, p, h⟩
theorem NLE.mono {x : Nat} {e e' : Int} (h : NLE x e) (he : e ≤ e') : NLE x e' := by
  obtain ⟨m, p, h1, h2, h3⟩ := h
  exact ⟨m, p, h1, by omega, Nat.le_trans h3 (Nat.pow_le_pow_right (by decide) (by omega))⟩
def two64 : Nat := 4611686018427387904
theorem dec_two : FloatKind.f64.decode two64 = .number false 4503599627370496 (-51) := by decide
/-- One halving. -/
theorem NLE_half {x : Nat} {e : Int} (h : NLE x e) (h1 : -900 ≤ e) (h2 : e ≤ 200) : ∃ y, fop .quo .f64 (some x) (some two64) = some y ∧ NLE y (e - 1) := by
  obtain ⟨m, p, hd, hp, hm⟩ := h
  obtain ⟨d, hd', hl⟩ := LE_quotient (FloatKind.f64.format.fractionBits + 2) hd dec_two hp hm (by decide) (e' := 1) (by decide) (by omega) (by omega)
  refine ⟨FloatKind.f64.format.write d, ?_, ?_⟩
  · show ((FloatKind.f64.decode x).quotient (FloatKind.f64.format.fractionBits + 2) (FloatKind.f64.decode two64)).map FloatKind.f64.format.write = _
    rw [hd']; rfl
  · obtain ⟨s, m', p', k1, k2, k3⟩ := hl
    rw [hd, dec_two] at hd'
    simp only [Ieee.Datum.quotient, show (4503599627370496 : Nat) ≠ 0 by decide, if_false, Option.some.injEq] at hd'
    subst hd'
    obtain rfl := sgn_write k1
    exact ⟨m', p', k1, k2, k3⟩
/-- One doubling. -/
theorem NLE_double {x : Nat} {e : Int} (h : NLE x e) (h1 : -900 ≤ e) (h2 : e ≤ 100) : ∃ y, fop .mul .f64 (some x) (some two64) = some y ∧ NLE y (e + 1) := by
  obtain ⟨m, p, hd, hp, hm⟩ := h
  obtain ⟨d, hd', hl⟩ := LE_product hd dec_two hp hm (e' := 1) (by decide) (by decide) (by omega) (by omega)
  refine ⟨FloatKind.f64.format.write d, ?_, ?_⟩
  · show ((FloatKind.f64.decode x).product (FloatKind.f64.decode two64)).map FloatKind.f64.format.write = _
    rw [hd']; rfl
  · obtain ⟨s, m', p', k1, k2, k3⟩ := hl
    rw [hd, dec_two] at hd'
    simp only [Ieee.Datum.product, Option.some.injEq] at hd'
    subst hd'
    obtain rfl := sgn_write k1
    exact ⟨m', p', k1, k2, k3⟩
theorem PB_double {x : Nat} {e : Int} (h : PB .f64 x e) (hx : NLE x 0) (h1 : -900 ≤ e) : ∀ y, fop .mul .f64 (some x) (some two64) = some y → PB .f64 y (e + 1) := by
  obtain ⟨m, p, hd, h0, he⟩ := h
  obtain ⟨m', p', hd2, hp, hm⟩ := hx
  rw [hd] at hd2
  cases hd2
  intro y hy
  have hl : (m * 4503599627370496).log2 = m.log2 + 52 := by
    have := Nat.log2_self_le h0
    have hlt : m < 2 ^ (m.log2 + 1) := Nat.lt_log2_self
    have t52 : (4503599627370496 : Nat) = 2 ^ 52 := by decide
    have a : (m * 4503599627370496).log2 < m.log2 + 53 := (Nat.log2_lt (by omega)).2 (by
      rw [t52, show m.log2 + 53 = m.log2 + 1 + 52 by omega, Nat.pow_add]
      exact Nat.mul_lt_mul_of_pos_right hlt (Nat.two_pow_pos _))
    have b : m.log2 + 52 ≤ (m * 4503599627370496).log2 := (Nat.le_log2 (by omega)).2 (by
      rw [t52, Nat.pow_add]; exact Nat.mul_le_mul_right _ this)
    omega
  have hup : p + (m.log2 : Int) ≤ 0 := by
    have h2 : 2 ^ m.log2 ≤ 2 ^ (0 - p).toNat := Nat.le_trans (Nat.log2_self_le h0) hm
    have := (Nat.pow_le_pow_iff_right (by decide)).1 h2
    omega
  have := PB_write .f64 (m * 4503599627370496) (p + -51) (e + 1) 2 (by omega) (by rw [hl]; omega) (by rw [hl]; omega)
    (by rw [show FloatKind.f64.format.leastPlace + FloatKind.f64.format.fractionBits = -1022 by decide]; omega) (by decide)
  have hf : fop .mul .f64 (some x) (some two64) = some (FloatKind.f64.format.write (.number false (m * 4503599627370496) (p + -51))) := by
    show ((FloatKind.f64.decode x).product (FloatKind.f64.decode two64)).map FloatKind.f64.format.write = _
    rw [hd, dec_two]; rfl
  rw [hf] at hy
  cases hy
  exact this

/-- At least 1.5; less than 0.75. -/
def geB (x : Nat) : Bool := FloatKind.f64.format.order x 4609434218613702656 == some .gt || FloatKind.f64.format.order x 4609434218613702656 == some .eq
def ltB (x : Nat) : Bool := FloatKind.f64.format.order x 4604930618986332160 == some .lt
theorem NLE.word {x : Nat} {e : Int} (h : NLE x e) (hx : x < 18446744073709551616) : x < 9218868437227405312 := by
  obtain ⟨m, p, hd, _⟩ := h
  rw [dec64] at hd
  have hs : ∀ b : Bool, (x / 9223372036854775808 % 2 == 1) = b → b = false → x < 9223372036854775808 := by
    intro b hb h; subst hb; rw [beq_eq_false_iff_ne] at h; omega
  split at hd
  · simp only [Ieee.Datum.number.injEq] at hd
    have := hs _ rfl hd.1; omega
  · split at hd
    · rename_i h1
      simp only [Ieee.Datum.number.injEq] at hd
      have := hs _ rfl hd.1; omega
    · split at hd <;> cases hd
theorem NLE.fv {x : Nat} {e : Int} (h : NLE x e) (hx : x < 18446744073709551616) : FV .f64 x (some x) := by
  have := h.word hx
  refine ⟨by rw [show 2 ^ FloatKind.f64.format.width = 18446744073709551616 by decide]; exact hx, cls_num ?_⟩
  obtain ⟨m, p, hd, _⟩ := h
  rw [hd]; rfl
theorem ord_word {x c : Nat} (hx : x < 9218868437227405312) (hc : c < 9218868437227405312) : FloatKind.f64.format.order x c = some (compare (x : Int) (c : Int)) := by
  have e3 : 2 ^ FloatKind.f64.format.width = 18446744073709551616 := by decide
  have nn : ∀ z, z < 9218868437227405312 → (FloatKind.f64.decode z).isNaN = false := by
    intro z hz
    rw [isNaN_decode, show FloatKind.f64.format.infRung = 9218868437227405312 by decide, show FloatKind.f64.format.signWeight = 9223372036854775808 by decide]
    exact decide_eq_false (by omega)
  rw [order_key (by rw [e3]; omega) (by rw [e3]; omega) (nn _ hx) (nn _ hc)]
  have k : ∀ z, z < 9218868437227405312 → key .f64 z = (z : Int) := by
    intro z hz
    unfold key
    rw [show FloatKind.f64.format.signWeight = 9223372036854775808 by decide, if_pos (by omega)]
  rw [k _ hx, k _ hc]
theorem geB_eq {x : Nat} (hx : x < 9218868437227405312) : geB x = decide (4609434218613702656 ≤ x) := by
  unfold geB
  rw [ord_word hx (by decide)]
  rcases Int.lt_trichotomy (x : Int) 4609434218613702656 with h | h | h
  · rw [show ((4609434218613702656 : Nat) : Int) = 4609434218613702656 from rfl, Int.compare_eq_lt.2 h, decide_eq_false (by omega)]; rfl
  · rw [show ((4609434218613702656 : Nat) : Int) = 4609434218613702656 from rfl, Int.compare_eq_eq.2 h, decide_eq_true (by omega)]; rfl
  · rw [show ((4609434218613702656 : Nat) : Int) = 4609434218613702656 from rfl, Int.compare_eq_gt.2 h, decide_eq_true (by omega)]; rfl
theorem ltB_eq {x : Nat} (hx : x < 9218868437227405312) : ltB x = decide (x < 4604930618986332160) := by
  unfold ltB
  rw [ord_word hx (by decide)]
  rcases Int.lt_trichotomy (x : Int) 4604930618986332160 with h | h | h
  · rw [show ((4604930618986332160 : Nat) : Int) = 4604930618986332160 from rfl, Int.compare_eq_lt.2 h, decide_eq_true (by omega)]; rfl
  · rw [show ((4604930618986332160 : Nat) : Int) = 4604930618986332160 from rfl, Int.compare_eq_eq.2 h, decide_eq_false (by omega)]; rfl
  · rw [show ((4604930618986332160 : Nat) : Int) = 4604930618986332160 from rfl, Int.compare_eq_gt.2 h, decide_eq_false (by omega)]; rfl
theorem dec_pos {x : Nat} (hx : x < 9218868437227405312) : FloatKind.f64.decode x = if x < 4503599627370496 then .number false x (-1074) else .number false (4503599627370496 + x % 4503599627370496) (-1074 + (x / 4503599627370496 - 1 : Nat)) := by
  rw [dec64]
  have h1 : x % 9223372036854775808 = x := by omega
  have h2 : (x / 9223372036854775808 % 2 == 1) = false := by rw [beq_eq_false_iff_ne]; omega
  rw [h1, h2, if_pos hx]
theorem NLE_word {x : Nat} {e : Int} (h : x < 4611686018427387904) (h' : x / 4503599627370496 < (e + 1023).toNat) (he : 0 ≤ e) : NLE x e := by
  have hx : x < 9218868437227405312 := by omega
  have := dec_pos hx
  by_cases h1 : x < 4503599627370496
  · rw [if_pos h1] at this
    refine ⟨_, _, this, by omega, ?_⟩
    exact Nat.le_trans (Nat.le_of_lt h1) (Nat.le_trans (show 4503599627370496 ≤ 2 ^ 52 from by decide) (Nat.pow_le_pow_right (by decide) (by omega)))
  · rw [if_neg h1] at this
    refine ⟨_, _, this, by omega, ?_⟩
    exact Nat.le_trans (show _ ≤ 2 ^ 53 by omega) (Nat.pow_le_pow_right (by decide) (by omega))
theorem not_ge {x : Nat} (hx : x < 9218868437227405312) (h : NLE x (-1)) : geB x = false := by
  rw [geB_eq hx]
  refine decide_eq_false fun hge => ?_
  obtain ⟨m, p, hd, hp, hm⟩ := h
  rw [dec_pos hx, if_neg (by omega)] at hd
  simp only [Ieee.Datum.number.injEq, true_and] at hd
  obtain ⟨rfl, rfl⟩ := hd
  have : 2 ^ ((-1 : Int) - (-1074 + (x / 4503599627370496 - 1 : Nat))).toNat ≤ 2 ^ 51 := Nat.pow_le_pow_right (by decide) (by omega)
  have t51 : (2 : Nat) ^ 51 = 2251799813685248 := by decide
  omega
theorem not_lt {x : Nat} (hx : x < 9218868437227405312) (h : PB .f64 x 0) : ltB x = false := by
  rw [ltB_eq hx]
  refine decide_eq_false fun hlt => ?_
  obtain ⟨m, p, hd, h0, he⟩ := h
  rw [dec_pos hx] at hd
  split at hd
  · rename_i h1
    simp only [Ieee.Datum.number.injEq, true_and] at hd
    obtain ⟨rfl, rfl⟩ := hd
    have := (Nat.log2_lt (n := x) (k := 52) h0).2 h1
    omega
  · simp only [Ieee.Datum.number.injEq, true_and] at hd
    obtain ⟨rfl, rfl⟩ := hd
    have := log2_52 (m := 4503599627370496 + x % 4503599627370496) (by omega) (by omega)
    omega
theorem NLE_of_lt15 {x : Nat} (hx : x < 9218868437227405312) (h : geB x = false) : NLE x 1 := by
  rw [geB_eq hx] at h
  simp at h
  exact NLE_word (by omega) (by omega) (by decide)
theorem NLE_of_lt75 {x : Nat} (hx : x < 9218868437227405312) (h : ltB x = true) : NLE x 0 := by
  rw [ltB_eq hx] at h
  simp at h
  exact NLE_word (by omega) (by omega) (by decide)

/-- Halving while at least 1.5. -/
def down : Nat → Nat × Int → Nat × Int
  | 0, s => s
  | f + 1, s => if geB s.1 then down f ((fop .quo .f64 (some s.1) (some two64)).getD 0, s.2 + 1) else s
/-- Doubling while less than 0.75. -/
def upw : Nat → Nat × Int → Nat × Int
  | 0, s => s
  | f + 1, s => if ltB s.1 then upw f ((fop .mul .f64 (some s.1) (some two64)).getD 0, s.2 - 1) else s
theorem down_stop {f : Nat} {s : Nat × Int} (h : geB s.1 = false) : down f s = s := by cases f <;> simp [down, h]
theorem upw_stop {f : Nat} {s : Nat × Int} (h : ltB s.1 = false) : upw f s = s := by cases f <;> simp [upw, h]
theorem fop_add_comm (c d : Option Nat) : fop .add .f64 c d = fop .add .f64 d c := by
  cases c with
  | none => cases d <;> rfl
  | some x =>
    cases d with
    | none => rfl
    | some y =>
      show ((FloatKind.f64.decode x).sum (FloatKind.f64.decode y)).map FloatKind.f64.format.write = ((FloatKind.f64.decode y).sum (FloatKind.f64.decode x)).map FloatKind.f64.format.write
      congr 1
      cases FloatKind.f64.decode x with
      | nan s t => cases FloatKind.f64.decode y <;> rfl
      | infinity s =>
        cases FloatKind.f64.decode y with
        | nan => rfl
        | infinity t => cases s <;> cases t <;> rfl
        | number => rfl
      | number s m i =>
        cases FloatKind.f64.decode y with
        | nan => rfl
        | infinity => rfl
        | number t n j => simp only [Ieee.Datum.sum, Int.min_comm i j, Int.add_comm (Ieee.signed s m _), Bool.and_comm s t]
def stepsOk : Bool := (List.range 400).all fun i => (fop .add .f64 (some (floatOfInt .f64 ((i : Int) - 200))) (some one64) == some (floatOfInt .f64 ((i : Int) - 200 + 1))) && (fop .sub .f64 (some (floatOfInt .f64 ((i : Int) - 200))) (some one64) == some (floatOfInt .f64 ((i : Int) - 200 - 1)))
theorem stepsOk_true : stepsOk = true := by decide +kernel
theorem step_up {n : Int} (h1 : -200 ≤ n) (h2 : n < 200) : fop .add .f64 (some (floatOfInt .f64 n)) (some one64) = some (floatOfInt .f64 (n + 1)) := by
  have := stepsOk_true
  unfold stepsOk at this
  have := List.all_eq_true.1 this (n + 200).toNat (List.mem_range.2 (by omega))
  simp only [Bool.and_eq_true, beq_iff_eq] at this
  rw [show (((n + 200).toNat : Nat) : Int) - 200 = n by omega] at this
  exact this.1
theorem step_dn {n : Int} (h1 : -200 ≤ n) (h2 : n < 200) : fop .sub .f64 (some (floatOfInt .f64 n)) (some one64) = some (floatOfInt .f64 (n - 1)) := by
  have := stepsOk_true
  unfold stepsOk at this
  have := List.all_eq_true.1 this (n + 200).toNat (List.mem_range.2 (by omega))
  simp only [Bool.and_eq_true, beq_iff_eq] at this
  rw [show (((n + 200).toNat : Nat) : Int) - 200 = n by omega] at this
  exact this.2
def polL (u : Option Nat) : Nat → Option Nat
  | 0 => some 0
  | j + 1 => fop .add .f64 (fop .quo .f64 (some one64) (some (floatOfInt .f64 (25 - 2 * (j : Int))))) (fop .mul .f64 u (polL u j))
theorem LEC_polL {u : Option Nat} (hu : LEC u 4) : ∀ j : Nat, j ≤ 13 → LEC (polL u j) (5 * (j : Int))
  | 0, _ => ⟨0, rfl, zero_LE _ (by decide)⟩
  | j + 1, h => by
    have hj : (25 - 2 * (j : Int)) = ((25 - 2 * j : Nat) : Int) := by omega
    have hp := PB_int (n := 25 - 2 * j) (by omega) (by omega)
    have hq := LEC_quo ⟨one64, rfl, one_LE⟩ hp.lbc (by have := Nat.log2_le_self (25 - 2 * j); omega) (by omega)
    rw [← hj] at hq
    have hm := LEC_mul hu (LEC_polL hu j (by omega)) (by omega) (by omega)
    have := LEC_add (hq.mono (e' := 4 + 5 * (j : Int)) (by omega)) hm (by omega) (by omega)
    exact this.mono (by omega)
def ln64 : Nat := 4604418534313441775
def ratioL (y : Nat) : Option Nat := fop .quo .f64 (fop .sub .f64 (some y) (some one64)) (fop .add .f64 (some y) (some one64))
/-- The logarithm of a number that was brought near one by e halvings. -/
def logC (s : Nat × Int) : Option Nat :=
  fop .add .f64 (fop .mul .f64 (some two64) (fop .mul .f64 (ratioL s.1) (polL (fop .mul .f64 (ratioL s.1) (ratioL s.1)) 13))) (fop .mul .f64 (some (floatOfInt .f64 s.2)) (some ln64))
theorem LEC_log {s : Nat × Int} (h : NLE s.1 1) (h1 : -200 ≤ s.2) (h2 : s.2 ≤ 200) : LEC (logC s) 69 := by
  have hd : LEC (fop .sub .f64 (some s.1) (some one64)) 2 := LEC_sub ⟨_, rfl, h.le⟩ ⟨_, rfl, one_LE.mono (by decide)⟩ (by decide) (by decide)
  have hb : LBC (fop .add .f64 (some s.1) (some one64)) 0 := by
    rw [fop_add_comm]
    obtain ⟨m, p, k1, k2, k3⟩ := h
    have hn : NB .f64 s.1 2 := ⟨m, p, k1, fun h0 => lg_of h0 (by omega) (by
      rw [show (2 - p).toNat = (1 - p).toNat + 1 by omega, Nat.pow_succ]
      have := Nat.two_pow_pos (1 - p).toNat
      omega)⟩
    obtain ⟨r, hr, pr, _⟩ := PB_sum one_PB (E := 2) (one_LE.mb.mono (by decide)) hn (by decide) (by decide) (by decide)
    rw [hr]; exact pr.lbc
  have hs : LEC (ratioL s.1) 2 := LEC_quo hd hb (by decide) (by decide)
  have hu := LEC_mul hs hs (by decide) (by decide)
  have hq := LEC_polL hu 13 (by decide)
  have h3 := LEC_mul hs hq (by decide) (by decide)
  have h4 := LEC_mul (LEC_const 1 (x := two64) ⟨false, _, _, rfl, by decide, by decide⟩) h3 (by decide) (by decide)
  have hi : LE (floatOfInt .f64 s.2) 8 := by
    unfold floatOfInt FloatKind.nearest
    exact LE_write _ _ 0 _ (fun _ => ⟨by decide, by show s.2.natAbs ≤ 256; omega⟩) (by decide) (by decide)
  have h5 := LEC_mul (LEC_const 8 hi) (LEC_const 0 (x := ln64) ⟨false, _, _, rfl, by decide, by decide⟩) (by decide) (by decide)
  exact (LEC_add h4 (h5.mono (by decide)) (by decide) (by decide)).mono (by decide)
end Fk
end Go.Proofs.Ytljpjmkickkcpab
end Part12
section Part13
namespace Go.Proofs.Ytljpjmkickkcpab
open Go Fk Go.RowKit
set_option linter.unusedVariables false
set_option maxRecDepth 8000

theorem o_eq {r k : Nat} {c d : Option Nat} (o : Ordering) (hr : FV .f64 r c) (hk : FV .f64 k d) : (FloatKind.f64.format.order r k == some o) = (ford .f64 c d == some o) := by rw [ford_of hr hk]
def negB (f : Option Nat) : Bool := ford .f64 f (some 0) == some .lt
def lowB (f : Option Nat) : Bool := ford .f64 f (some half64) == some .gt || ford .f64 f (some half64) == some .eq
def quaB (f : Option Nat) : Bool := ford .f64 f (some quarter64) == some .gt
def shr (f : Option Nat) : Option Nat := if negB f then fop .add .f64 f (some one64) else f
def low (f : Option Nat) : Option Nat := if lowB f then fop .sub .f64 f (some half64) else f
def qua (f : Option Nat) : Option Nat := if quaB f then fop .sub .f64 (some half64) f else f
theorem LEC_qua {f : Option Nat} (h : LEC f 0) : LEC (qua (low (shr f))) 3 := by
  have h1 : LEC (shr f) 1 := by
    unfold shr; split
    · exact LEC_add h ⟨_, rfl, one_LE⟩ (by decide) (by decide)
    · exact h.mono (by decide)
  have h2 : LEC (low (shr f)) 2 := by
    unfold low; split
    · exact LEC_sub h1 (LEC_const 1 (x := half64) ⟨false, _, _, rfl, by decide, by decide⟩) (by decide) (by decide)
    · exact h1.mono (by decide)
  unfold qua; split
  · exact LEC_sub (LEC_const 2 (x := half64) ⟨false, _, _, rfl, by decide, by decide⟩) h2 (by decide) (by decide)
  · exact h2.mono (by decide)

theorem impl_shareOfTurn (x : Nat) (n : Int) (w : World) (hx : FV .f64 x (some x)) (hn : floatToIntVal .f64 x .i64 = some n) :
    Calls Try.prog 145 #[.float .f64 x] w fun e w' => ∃ r, e = .returned (.float .f64 r) ∧ FV .f64 r (shr (fop .sub .f64 (some x) (some (floatOfInt .f64 n)))) ∧ ∃ n, w' = w.drewN n := by
  have u := Try.underlying35
  have u' := Try.underlying2
  have hc : ∀ w, (convert 35 2 (.float .f64 x)).run Try.prog w = .ok (.int .i64 n) w := fun w => run_convert_float_int w 35 2 .f64 .i64 x n (by rw [u]; rfl) u' hn
  have hv : ∀ w, FV .f64 (fR .sub .f64 x (floatOfInt .f64 n) w) (fop .sub .f64 (some x) (some (floatOfInt .f64 n))) := fun w => FV_fR hx (fv_int n)
  have ho : ∀ w, (FloatKind.f64.format.order (fR .sub .f64 x (floatOfInt .f64 n) w) 0 == some .lt) = negB (fop .sub .f64 (some x) (some (floatOfInt .f64 n))) := fun w => o_eq _ (hv w) fv_zero64
  unfold shr
  cases hb : negB (fop .sub .f64 (some x) (some (floatOfInt .f64 n))) <;> rw [hb] at ho <;> clear hb
  all_goals
    go_enter Try.func145, Try.ntmps145
    go_wp2_with (simp only [hc])
    go_ret
    first | exact ⟨_, rfl, hv _, _, rfl⟩ | exact ⟨_, rfl, FV_fR (hv _) fv_one, _, rfl⟩
theorem impl_firstQuarter (f : Nat) (c : Option Nat) (w : World) (hf : FV .f64 f c) :
    Calls Try.prog 144 #[.float .f64 f] w fun e w' => (∃ r, e = .returned (.tuple #[.float .f64 r, .bool (lowB c)]) ∧ FV .f64 r (qua (low c))) ∧ ∃ n, w' = w.drewN n := by
  have u := Try.underlying35
  have ho : (FloatKind.f64.format.order f 4602678819172646912 == some .gt || FloatKind.f64.format.order f 4602678819172646912 == some .eq) = lowB c := by unfold lowB; rw [o_eq _ hf fv_half, o_eq _ hf fv_half]
  have hv : ∀ w, FV .f64 (fR .sub .f64 f 4602678819172646912 w) (fop .sub .f64 c (some half64)) := fun w => FV_fR hf fv_half
  have hq1 : ∀ w, (FloatKind.f64.format.order (fR .sub .f64 f 4602678819172646912 w) 4598175219545276416 == some .gt) = quaB (fop .sub .f64 c (some half64)) := fun w => o_eq _ (hv w) fv_quarter
  have hq2 : (FloatKind.f64.format.order f 4598175219545276416 == some .gt) = quaB c := o_eq _ hf fv_quarter
  unfold low
  cases hb : lowB c <;> rw [hb] at ho <;> clear hb <;> simp only [if_true, if_false, Bool.false_eq_true]
  all_goals
    unfold qua
    first
      | (cases hb1 : quaB (fop .sub .f64 c (some half64)) <;> rw [hb1] at hq1 <;> clear hb1 hq2; done)
      | skip
  · cases hb1 : quaB c <;> rw [hb1] at hq2 <;> clear hb1 hq1
    all_goals
      go_enter Try.func144, Try.ntmps144
      go_wp2
      go_ret2
      first | exact ⟨⟨_, rfl, hf⟩, 0, rfl⟩ | exact ⟨⟨_, rfl, FV_fR fv_half hf⟩, _, rfl⟩
  · cases hb1 : quaB (fop .sub .f64 c (some half64)) <;> rw [hb1] at hq1 <;> clear hb1 hq2
    all_goals
      go_enter Try.func144, Try.ntmps144
      go_wp2
      go_ret2
      first | exact ⟨⟨_, rfl, hv _⟩, _, rfl⟩ | exact ⟨⟨_, rfl, FV_fR fv_half (hv _)⟩, _, rfl⟩

def bigB (x : Nat) : Bool := decide (4841369599423283200 ≤ wid x % 9223372036854775808)
theorem big_abs {x : Nat} (hx : x < 4294967296) (hf : finB x = true) :
    (FloatKind.f64.format.order (wid x % 9223372036854775808) 4841369599423283200 == some .gt || FloatKind.f64.format.order (wid x % 9223372036854775808) 4841369599423283200 == some .eq) = bigB x := by
  have hlt := (AbsW_of hx hf).lt
  unfold bigB
  rw [ord_word hlt (by decide)]
  generalize wid x % 9223372036854775808 = a at hlt ⊢
  rcases Int.lt_trichotomy (a : Int) 4841369599423283200 with h | h | h
  · rw [show ((4841369599423283200 : Nat) : Int) = 4841369599423283200 from rfl, Int.compare_eq_lt.2 h, decide_eq_false (by omega)]; rfl
  · rw [show ((4841369599423283200 : Nat) : Int) = 4841369599423283200 from rfl, Int.compare_eq_eq.2 h, decide_eq_true (by omega)]; rfl
  · rw [show ((4841369599423283200 : Nat) : Int) = 4841369599423283200 from rfl, Int.compare_eq_gt.2 h, decide_eq_true (by omega)]; rfl
theorem big_signed {x : Nat} (hx : x < 4294967296) (hf : finB x = true) :
    (bigB x = false → (FloatKind.f64.format.order (wid x) 4841369599423283200 == some .gt || FloatKind.f64.format.order (wid x) 4841369599423283200 == some .eq) = false ∧ (FloatKind.f64.format.order (wid x) 14064741636278059008 == some .lt || FloatKind.f64.format.order (wid x) 14064741636278059008 == some .eq) = false) ∧
    (bigB x = true → (FloatKind.f64.format.order (wid x) 4841369599423283200 == some .gt || FloatKind.f64.format.order (wid x) 4841369599423283200 == some .eq) = true ∨ ((FloatKind.f64.format.order (wid x) 4841369599423283200 == some .gt || FloatKind.f64.format.order (wid x) 4841369599423283200 == some .eq) = false ∧ (FloatKind.f64.format.order (wid x) 14064741636278059008 == some .lt || FloatKind.f64.format.order (wid x) 14064741636278059008 == some .eq) = true)) := by
  have e3 : 2 ^ FloatKind.f64.format.width = 18446744073709551616 := by decide
  have hlt := (AbsW_of hx hf).lt
  have hW : wid x < 18446744073709551616 := wid_lt x
  rw [order_key (wid_lt x) (by rw [e3]; decide) (wid_nan (fin_num hf)) (by decide), order_key (wid_lt x) (by rw [e3]; decide) (wid_nan (fin_num hf)) (by decide)]
  unfold bigB
  have k1 : key .f64 (wid x) = if wid x < 9223372036854775808 then (wid x : Int) else 9223372036854775808 - wid x := by
    unfold key; rw [show FloatKind.f64.format.signWeight = 9223372036854775808 by decide]; rfl
  have z1 : key .f64 4841369599423283200 = 4841369599423283200 := by decide
  have z2 : key .f64 14064741636278059008 = -4841369599423283200 := by decide
  rw [k1, z1, z2]
  generalize wid x = W at hlt hW ⊢
  have gt_eq : ∀ a b : Int, ((some (compare a b) == some Ordering.gt) || (some (compare a b) == some Ordering.eq)) = decide (b ≤ a) := by
    intro a b
    rcases Int.lt_trichotomy a b with h | h | h
    · rw [Int.compare_eq_lt.2 h, decide_eq_false (by omega)]; rfl
    · rw [Int.compare_eq_eq.2 h, decide_eq_true (by omega)]; rfl
    · rw [Int.compare_eq_gt.2 h, decide_eq_true (by omega)]; rfl
  have lt_eq : ∀ a b : Int, ((some (compare a b) == some Ordering.lt) || (some (compare a b) == some Ordering.eq)) = decide (a ≤ b) := by
    intro a b
    rcases Int.lt_trichotomy a b with h | h | h
    · rw [Int.compare_eq_lt.2 h, decide_eq_true (by omega)]; rfl
    · rw [Int.compare_eq_eq.2 h, decide_eq_true (by omega)]; rfl
    · rw [Int.compare_eq_gt.2 h, decide_eq_false (by omega)]; rfl
  rw [gt_eq, lt_eq]
  refine ⟨fun h => ?_, fun h => ?_⟩
  · have h' : ¬ 4841369599423283200 ≤ W % 9223372036854775808 := of_decide_eq_false h
    exact ⟨decide_eq_false (by split <;> omega), decide_eq_false (by split <;> omega)⟩
  · have h' : 4841369599423283200 ≤ W % 9223372036854775808 := of_decide_eq_true h
    by_cases hs : W < 9223372036854775808
    · rw [if_pos hs]; exact .inl (decide_eq_true (by omega))
    · rw [if_neg hs]; exact .inr ⟨decide_eq_false (by omega), decide_eq_true (by omega)⟩
/-- What is left of a number when its whole part is taken away. -/
def leftC (x : Nat) : Option Nat := match floatToIntVal .f64 (wid x) .i64 with
  | some n => fop .sub .f64 (some (wid x)) (some (floatOfInt .f64 n))
  | none => none
def sinZ (f : Option Nat) : Option Nat := fop .mul .f64 f (some turn64)
def sinQ (f : Option Nat) : Option Nat := fop .mul .f64 (sinZ f) (polS (fop .mul .f64 (sinZ f) (sinZ f)) 8)
theorem LEC_sinQ {f : Option Nat} (h : LEC f 3) : LEC (sinQ f) 94 := by
  have hz := LEC_mul h (LEC_const 3 (x := turn64) ⟨false, _, _, rfl, by decide, by decide⟩) (by decide) (by decide)
  have hp := LEC_polS (LEC_mul hz hz (by decide) (by decide)) 8 (by decide)
  exact (LEC_mul hz hp (by decide) (by decide)).mono (by decide)
def sinF (x : Nat) : Option Nat := if lowB (shr (leftC x)) then negC (sinQ (qua (low (shr (leftC x))))) else sinQ (qua (low (shr (leftC x))))
def sinT (x : Nat) : Option Nat := if finB x then (if bigB x then some 0 else (sinF x).map nar) else none
theorem left_of {x : Nat} (hx : x < 4294967296) (hf : finB x = true) (hb : bigB x = false) : ∃ n : Int, floatToIntVal .f64 (wid x) .i64 = some n ∧ leftC x = fop .sub .f64 (some (wid x)) (some (floatOfInt .f64 n)) ∧ LEC (leftC x) 0 := by
  obtain ⟨n, h1, h2⟩ := whole_of hx hf (by have := of_decide_eq_false hb; omega)
  have : leftC x = fop .sub .f64 (some (wid x)) (some (floatOfInt .f64 n)) := by unfold leftC; rw [h1]
  exact ⟨n, h1, this, by rw [this]; exact h2⟩
theorem sin_end {y : Nat} {c : Option Nat} {w : World} (hv : FV .f64 y c) (h : LEC c 94) : FV .f32 (nR y w) (c.map nar) := FV_nR hv (LEC_ovf hv h (by decide))
theorem sin_endN {y : Nat} {c : Option Nat} {w : World} (hv : FV .f64 y c) (h : LEC c 94) : FV .f32 (nR (Op.negFloat .f64 y) w) ((negC c).map nar) := by
  obtain ⟨h1, h2⟩ := FV_neg hv h
  exact FV_nR h1 (LEC_ovf h1 h2 (by decide))
theorem sin_wide {y : Nat} {c : Option Nat} (hv : FV .f64 y c) (h : LEC c 94) : FV .f64 y c ∧ ovf y = false := ⟨hv, LEC_ovf hv h (by decide)⟩
theorem sin_wideN {y : Nat} {c : Option Nat} (hv : FV .f64 y c) (h : LEC c 94) : FV .f64 (Op.negFloat .f64 y) (negC c) ∧ ovf (Op.negFloat .f64 y) = false := by
  obtain ⟨h1, h2⟩ := FV_neg hv h
  exact ⟨h1, LEC_ovf h1 h2 (by decide)⟩
end Go.Proofs.Ytljpjmkickkcpab
end Part13
section Part14
namespace Go.Proofs.Ytljpjmkickkcpab
open Go Fk Go.RowKit
set_option linter.unusedVariables false
set_option maxRecDepth 8000

theorem cut_bool {P : Prop} (b : Bool) (h : ∀ c, b = c → P) : P := h b rfl
theorem impl_SineTurns_main (x : Nat) (w : World) (hx : x < 4294967296) (hf : finB x = true) (hb : bigB x = false) :
    Calls Try.prog 95 #[.float .f32 x] w fun e w' => ∃ r, e = .returned (.float .f32 r) ∧ FV .f32 r ((sinF x).map nar) ∧ ∃ n, w' = w.drewN n := by
  have u := Try.underlying35
  have u' := Try.underlying27
  have wx : ∀ w, wR x w = wid x := fun w => wR_num w (fin_num hf)
  have lx : wid x < 18446744073709551616 := wid_lt x
  have hbig := big_abs hx hf
  rw [hb] at hbig
  obtain ⟨n, hn, hl, hle⟩ := left_of hx hf hb
  have hLE := LEC_sinQ (LEC_qua hle)
  have fx : FV .f64 (wid x) (some (wid x)) := ⟨wid_lt x, cls_num (wid_nan (fin_num hf))⟩
  have hsh := fun w => impl_shareOfTurn (wid x) n w fx hn
  rw [← hl] at hsh
  unfold sinF
  generalize hc : leftC x = c at *
  clear hc hl hle hn
  generalize hbb : lowB (shr c) = bb at *
  have HL := Lib.hid hLE
  have HS := Lib.hid hsh
  have HB := Lib.hid hbb
  clear hLE hsh hbb fx
  cases bb
  all_goals
    simp only [if_true, if_false, Bool.false_eq_true]
    go_enter Try.func95, Try.ntmps95
    go_wp2_with (first
      | (go_at_call 82; refine (impl_IsFinite _ _ (by assumption)).mono ?_; rintro e w' ⟨rfl, n1, rfl⟩)
      | (go_at_call 143; refine (math_Abs _ _ (by assumption)).mono ?_; rintro e w' ⟨rfl, rfl⟩)
      | (go_at_call 145; refine (HS.out _).mono ?_; rintro e w' ⟨g, rfl, hg, n2, rfl⟩)
      | (go_at_call 144; refine (impl_firstQuarter _ _ _ hg).mono ?_; rintro e w' ⟨⟨g2, rfl, hg2⟩, n3, rfl⟩; rw [HB.out])
      | (go_at_call 134; first
          | (refine (impl_product64 _ _ _ _ _ hz hz).mono ?_; rintro e w' ⟨uu, rfl, huu, n5, rfl⟩)
          | (refine (impl_product64 _ _ _ _ _ hg2 fv_turn).mono ?_; rintro e w' ⟨z, rfl, hz, n4, rfl⟩)))
    go_loopw [7, 8] (fun s i w' => ∃ k : Nat, k ≤ 8 ∧ i = .int .i64 (8 - (k : Int)) ∧ (∃ p, s = .float .f64 p ∧ FV .f64 p (polS (fop .mul .f64 (sinZ (qua (low (shr c)))) (sinZ (qua (low (shr c))))) k)) ∧ ∃ n, w' = w.drewN n) (fun _ i _ => (intOf i + 2).toNat)
    case atStart => exact ⟨0, by decide, rfl, ⟨_, rfl, fv_one⟩, _, rfl⟩
    case round =>
      obtain ⟨k, hk, rfl, ⟨p, rfl, hp⟩, m, rfl⟩ := hrel
      have hcase : k = 0 ∨ k = 1 ∨ k = 2 ∨ k = 3 ∨ k = 4 ∨ k = 5 ∨ k = 6 ∨ k = 7 ∨ k = 8 := by omega
      rcases hcase with rfl | rfl | rfl | rfl | rfl | rfl | rfl | rfl | rfl
      iterate 8
        · go_wp2_with (go_at_call 134; refine (impl_product64 _ _ _ _ _ huu hp).mono ?_; rintro e w' ⟨r1, rfl, hr1, n6, rfl⟩)
          go_roundw
          case rel => first | exact ⟨1, by decide, rfl, ⟨_, rfl, FV_fR fv_one (FV_fR hr1 (fv_int _))⟩, _, rfl⟩ | exact ⟨2, by decide, rfl, ⟨_, rfl, FV_fR fv_one (FV_fR hr1 (fv_int _))⟩, _, rfl⟩ | exact ⟨3, by decide, rfl, ⟨_, rfl, FV_fR fv_one (FV_fR hr1 (fv_int _))⟩, _, rfl⟩ | exact ⟨4, by decide, rfl, ⟨_, rfl, FV_fR fv_one (FV_fR hr1 (fv_int _))⟩, _, rfl⟩ | exact ⟨5, by decide, rfl, ⟨_, rfl, FV_fR fv_one (FV_fR hr1 (fv_int _))⟩, _, rfl⟩ | exact ⟨6, by decide, rfl, ⟨_, rfl, FV_fR fv_one (FV_fR hr1 (fv_int _))⟩, _, rfl⟩ | exact ⟨7, by decide, rfl, ⟨_, rfl, FV_fR fv_one (FV_fR hr1 (fv_int _))⟩, _, rfl⟩ | exact ⟨8, by decide, rfl, ⟨_, rfl, FV_fR fv_one (FV_fR hr1 (fv_int _))⟩, _, rfl⟩
          case measure => simp [intOf]
      · go_wp2_with (first
          | (go_at_call 134; refine (impl_product64 _ _ _ _ _ hz hp).mono ?_; rintro e w' ⟨r1, rfl, hr1, n6, rfl⟩)
          | (go_at_call 135; refine (impl_Narrow _ _).mono ?_; rintro e w' ⟨rfl, n, rfl⟩))
        go_ret
        first
          | exact ⟨_, rfl, sin_end hr1 HL.out, _, rfl⟩
          | exact ⟨_, rfl, sin_endN hr1 HL.out, _, rfl⟩
theorem l01Sine_000 (X I : Nat) (i : Int) (c : Option Nat) (w : World) (hI : floatOfInt .f64 i = I) (hn : floatToIntVal .f64 X .i64 = some i) (hv : ∀ w, FV .f64 (fR .sub .f64 X I w) c) (sx : ∀ w, fR .sub .f64 X X w = 0)
    (b1 : (FloatKind.f64.format.order X 4841369599423283200 == some .gt || FloatKind.f64.format.order X 4841369599423283200 == some .eq) = false) (b2 : (FloatKind.f64.format.order X 14064741636278059008 == some .lt || FloatKind.f64.format.order X 14064741636278059008 == some .eq) = false)
    (hneg : negB c = false) (hlow : lowB c = false) (hqua : quaB c = false) (hLE : LEC (sinQ c) 94) :
    Calls Try.prog 161 #[.float .f64 X] w fun e w' => ∃ r, e = .returned (.float .f64 r) ∧ (FV .f64 r (sinQ c) ∧ ovf r = false) ∧ ∃ n, w' = w.drewN n := by
  have u := Try.underlying35
  have u' := Try.underlying2
  have z0 : (FloatKind.f64.format.order 0 0 != some .eq) = false := by decide
  have hc : ∀ w, (convert 35 2 (.float .f64 X)).run Try.prog w = .ok (.int .i64 i) w := fun w => run_convert_float_int w 35 2 .f64 .i64 X i (by rw [u]; rfl) u' hn
  have h1 : ∀ w, (FloatKind.f64.format.order (fR .sub .f64 X I w) 0 == some .lt) = false := fun w => (o_eq _ (hv w) fv_zero64).trans hneg
  have h2 : ∀ w, (FloatKind.f64.format.order (fR .sub .f64 X I w) 4602678819172646912 == some .gt || FloatKind.f64.format.order (fR .sub .f64 X I w) 4602678819172646912 == some .eq) = false := fun w => by rw [o_eq _ (hv w) fv_half, o_eq _ (hv w) fv_half]; exact hlow
  have h3 : ∀ w, (FloatKind.f64.format.order (fR .sub .f64 X I w) 4598175219545276416 == some .gt) = false := fun w => (o_eq _ (hv w) fv_quarter).trans hqua
  have HL := Lib.hid hLE
  clear hLE hneg hlow hqua hn
  go_enter Try.func161, Try.ntmps161
  go_wp2_with (simp only [hc, hI])
  go_loopw [7, 8] (fun s i w' => ∃ k : Nat, k ≤ 8 ∧ i = .int .i64 (8 - (k : Int)) ∧ (∃ p, s = .float .f64 p ∧ FV .f64 p (polS (fop .mul .f64 (sinZ c) (sinZ c)) k)) ∧ ∃ n, w' = w.drewN n) (fun _ i _ => (intOf i + 2).toNat)
  case atStart => exact ⟨0, by decide, rfl, ⟨_, rfl, fv_one⟩, _, rfl⟩
  case round =>
    obtain ⟨k, hk, rfl, ⟨p, rfl, hp⟩, m, rfl⟩ := hrel
    have hcase : k = 0 ∨ k = 1 ∨ k = 2 ∨ k = 3 ∨ k = 4 ∨ k = 5 ∨ k = 6 ∨ k = 7 ∨ k = 8 := by omega
    rcases hcase with rfl | rfl | rfl | rfl | rfl | rfl | rfl | rfl | rfl
    iterate 8
      · go_wp2
        go_roundw
        case rel => first | exact ⟨1, by decide, rfl, ⟨_, rfl, FV_fR fv_one (FV_fR (FV_fR (FV_fR (FV_fR (hv _) fv_turn) (FV_fR (hv _) fv_turn)) hp) (fv_int _))⟩, _, rfl⟩ | exact ⟨2, by decide, rfl, ⟨_, rfl, FV_fR fv_one (FV_fR (FV_fR (FV_fR (FV_fR (hv _) fv_turn) (FV_fR (hv _) fv_turn)) hp) (fv_int _))⟩, _, rfl⟩ | exact ⟨3, by decide, rfl, ⟨_, rfl, FV_fR fv_one (FV_fR (FV_fR (FV_fR (FV_fR (hv _) fv_turn) (FV_fR (hv _) fv_turn)) hp) (fv_int _))⟩, _, rfl⟩ | exact ⟨4, by decide, rfl, ⟨_, rfl, FV_fR fv_one (FV_fR (FV_fR (FV_fR (FV_fR (hv _) fv_turn) (FV_fR (hv _) fv_turn)) hp) (fv_int _))⟩, _, rfl⟩ | exact ⟨5, by decide, rfl, ⟨_, rfl, FV_fR fv_one (FV_fR (FV_fR (FV_fR (FV_fR (hv _) fv_turn) (FV_fR (hv _) fv_turn)) hp) (fv_int _))⟩, _, rfl⟩ | exact ⟨6, by decide, rfl, ⟨_, rfl, FV_fR fv_one (FV_fR (FV_fR (FV_fR (FV_fR (hv _) fv_turn) (FV_fR (hv _) fv_turn)) hp) (fv_int _))⟩, _, rfl⟩ | exact ⟨7, by decide, rfl, ⟨_, rfl, FV_fR fv_one (FV_fR (FV_fR (FV_fR (FV_fR (hv _) fv_turn) (FV_fR (hv _) fv_turn)) hp) (fv_int _))⟩, _, rfl⟩ | exact ⟨8, by decide, rfl, ⟨_, rfl, FV_fR fv_one (FV_fR (FV_fR (FV_fR (FV_fR (hv _) fv_turn) (FV_fR (hv _) fv_turn)) hp) (fv_int _))⟩, _, rfl⟩
        case measure => simp [intOf]
    · go_wp2
      go_ret
      exact ⟨_, rfl, sin_wide (FV_fR (FV_fR (hv _) fv_turn) hp) HL.out, _, rfl⟩
theorem l01Sine_001 (X I : Nat) (i : Int) (c : Option Nat) (w : World) (hI : floatOfInt .f64 i = I) (hn : floatToIntVal .f64 X .i64 = some i) (hv : ∀ w, FV .f64 (fR .sub .f64 X I w) c) (sx : ∀ w, fR .sub .f64 X X w = 0)
    (b1 : (FloatKind.f64.format.order X 4841369599423283200 == some .gt || FloatKind.f64.format.order X 4841369599423283200 == some .eq) = false) (b2 : (FloatKind.f64.format.order X 14064741636278059008 == some .lt || FloatKind.f64.format.order X 14064741636278059008 == some .eq) = false)
    (hneg : negB c = false) (hlow : lowB c = false) (hqua : quaB c = true) (hLE : LEC (sinQ (fop .sub .f64 (some half64) c)) 94) :
    Calls Try.prog 161 #[.float .f64 X] w fun e w' => ∃ r, e = .returned (.float .f64 r) ∧ (FV .f64 r (sinQ (fop .sub .f64 (some half64) c)) ∧ ovf r = false) ∧ ∃ n, w' = w.drewN n := by
  have u := Try.underlying35
  have u' := Try.underlying2
  have z0 : (FloatKind.f64.format.order 0 0 != some .eq) = false := by decide
  have hc : ∀ w, (convert 35 2 (.float .f64 X)).run Try.prog w = .ok (.int .i64 i) w := fun w => run_convert_float_int w 35 2 .f64 .i64 X i (by rw [u]; rfl) u' hn
  have h1 : ∀ w, (FloatKind.f64.format.order (fR .sub .f64 X I w) 0 == some .lt) = false := fun w => (o_eq _ (hv w) fv_zero64).trans hneg
  have h2 : ∀ w, (FloatKind.f64.format.order (fR .sub .f64 X I w) 4602678819172646912 == some .gt || FloatKind.f64.format.order (fR .sub .f64 X I w) 4602678819172646912 == some .eq) = false := fun w => by rw [o_eq _ (hv w) fv_half, o_eq _ (hv w) fv_half]; exact hlow
  have h3 : ∀ w, (FloatKind.f64.format.order (fR .sub .f64 X I w) 4598175219545276416 == some .gt) = true := fun w => (o_eq _ (hv w) fv_quarter).trans hqua
  have HL := Lib.hid hLE
  clear hLE hneg hlow hqua hn
  go_enter Try.func161, Try.ntmps161
  go_wp2_with (simp only [hc, hI])
  go_loopw [7, 8] (fun s i w' => ∃ k : Nat, k ≤ 8 ∧ i = .int .i64 (8 - (k : Int)) ∧ (∃ p, s = .float .f64 p ∧ FV .f64 p (polS (fop .mul .f64 (sinZ (fop .sub .f64 (some half64) c)) (sinZ (fop .sub .f64 (some half64) c))) k)) ∧ ∃ n, w' = w.drewN n) (fun _ i _ => (intOf i + 2).toNat)
  case atStart => exact ⟨0, by decide, rfl, ⟨_, rfl, fv_one⟩, _, rfl⟩
  case round =>
    obtain ⟨k, hk, rfl, ⟨p, rfl, hp⟩, m, rfl⟩ := hrel
    have hcase : k = 0 ∨ k = 1 ∨ k = 2 ∨ k = 3 ∨ k = 4 ∨ k = 5 ∨ k = 6 ∨ k = 7 ∨ k = 8 := by omega
    rcases hcase with rfl | rfl | rfl | rfl | rfl | rfl | rfl | rfl | rfl
    iterate 8
      · go_wp2
        go_roundw
        case rel => first | exact ⟨1, by decide, rfl, ⟨_, rfl, FV_fR fv_one (FV_fR (FV_fR (FV_fR (FV_fR (FV_fR fv_half (hv _)) fv_turn) (FV_fR (FV_fR fv_half (hv _)) fv_turn)) hp) (fv_int _))⟩, _, rfl⟩ | exact ⟨2, by decide, rfl, ⟨_, rfl, FV_fR fv_one (FV_fR (FV_fR (FV_fR (FV_fR (FV_fR fv_half (hv _)) fv_turn) (FV_fR (FV_fR fv_half (hv _)) fv_turn)) hp) (fv_int _))⟩, _, rfl⟩ | exact ⟨3, by decide, rfl, ⟨_, rfl, FV_fR fv_one (FV_fR (FV_fR (FV_fR (FV_fR (FV_fR fv_half (hv _)) fv_turn) (FV_fR (FV_fR fv_half (hv _)) fv_turn)) hp) (fv_int _))⟩, _, rfl⟩ | exact ⟨4, by decide, rfl, ⟨_, rfl, FV_fR fv_one (FV_fR (FV_fR (FV_fR (FV_fR (FV_fR fv_half (hv _)) fv_turn) (FV_fR (FV_fR fv_half (hv _)) fv_turn)) hp) (fv_int _))⟩, _, rfl⟩ | exact ⟨5, by decide, rfl, ⟨_, rfl, FV_fR fv_one (FV_fR (FV_fR (FV_fR (FV_fR (FV_fR fv_half (hv _)) fv_turn) (FV_fR (FV_fR fv_half (hv _)) fv_turn)) hp) (fv_int _))⟩, _, rfl⟩ | exact ⟨6, by decide, rfl, ⟨_, rfl, FV_fR fv_one (FV_fR (FV_fR (FV_fR (FV_fR (FV_fR fv_half (hv _)) fv_turn) (FV_fR (FV_fR fv_half (hv _)) fv_turn)) hp) (fv_int _))⟩, _, rfl⟩ | exact ⟨7, by decide, rfl, ⟨_, rfl, FV_fR fv_one (FV_fR (FV_fR (FV_fR (FV_fR (FV_fR fv_half (hv _)) fv_turn) (FV_fR (FV_fR fv_half (hv _)) fv_turn)) hp) (fv_int _))⟩, _, rfl⟩ | exact ⟨8, by decide, rfl, ⟨_, rfl, FV_fR fv_one (FV_fR (FV_fR (FV_fR (FV_fR (FV_fR fv_half (hv _)) fv_turn) (FV_fR (FV_fR fv_half (hv _)) fv_turn)) hp) (fv_int _))⟩, _, rfl⟩
        case measure => simp [intOf]
    · go_wp2
      go_ret
      exact ⟨_, rfl, sin_wide (FV_fR (FV_fR (FV_fR fv_half (hv _)) fv_turn) hp) HL.out, _, rfl⟩
theorem l01Sine_010 (X I : Nat) (i : Int) (c : Option Nat) (w : World) (hI : floatOfInt .f64 i = I) (hn : floatToIntVal .f64 X .i64 = some i) (hv : ∀ w, FV .f64 (fR .sub .f64 X I w) c) (sx : ∀ w, fR .sub .f64 X X w = 0)
    (b1 : (FloatKind.f64.format.order X 4841369599423283200 == some .gt || FloatKind.f64.format.order X 4841369599423283200 == some .eq) = false) (b2 : (FloatKind.f64.format.order X 14064741636278059008 == some .lt || FloatKind.f64.format.order X 14064741636278059008 == some .eq) = false)
    (hneg : negB c = false) (hlow : lowB c = true) (hqua : quaB (fop .sub .f64 c (some half64)) = false) (hLE : LEC (sinQ (fop .sub .f64 c (some half64))) 94) :
    Calls Try.prog 161 #[.float .f64 X] w fun e w' => ∃ r, e = .returned (.float .f64 r) ∧ (FV .f64 r (negC (sinQ (fop .sub .f64 c (some half64)))) ∧ ovf r = false) ∧ ∃ n, w' = w.drewN n := by
  have u := Try.underlying35
  have u' := Try.underlying2
  have z0 : (FloatKind.f64.format.order 0 0 != some .eq) = false := by decide
  have hc : ∀ w, (convert 35 2 (.float .f64 X)).run Try.prog w = .ok (.int .i64 i) w := fun w => run_convert_float_int w 35 2 .f64 .i64 X i (by rw [u]; rfl) u' hn
  have h1 : ∀ w, (FloatKind.f64.format.order (fR .sub .f64 X I w) 0 == some .lt) = false := fun w => (o_eq _ (hv w) fv_zero64).trans hneg
  have h2 : ∀ w, (FloatKind.f64.format.order (fR .sub .f64 X I w) 4602678819172646912 == some .gt || FloatKind.f64.format.order (fR .sub .f64 X I w) 4602678819172646912 == some .eq) = true := fun w => by rw [o_eq _ (hv w) fv_half, o_eq _ (hv w) fv_half]; exact hlow
  have h3 : ∀ w w2, (FloatKind.f64.format.order (fR .sub .f64 (fR .sub .f64 X I w) 4602678819172646912 w2) 4598175219545276416 == some .gt) = false := fun w w2 => (o_eq _ (FV_fR (hv w) fv_half) fv_quarter).trans hqua
  have HL := Lib.hid hLE
  clear hLE hneg hlow hqua hn
  go_enter Try.func161, Try.ntmps161
  go_wp2_with (simp only [hc, hI])
  go_loopw [7, 8] (fun s i w' => ∃ k : Nat, k ≤ 8 ∧ i = .int .i64 (8 - (k : Int)) ∧ (∃ p, s = .float .f64 p ∧ FV .f64 p (polS (fop .mul .f64 (sinZ (fop .sub .f64 c (some half64))) (sinZ (fop .sub .f64 c (some half64)))) k)) ∧ ∃ n, w' = w.drewN n) (fun _ i _ => (intOf i + 2).toNat)
  case atStart => exact ⟨0, by decide, rfl, ⟨_, rfl, fv_one⟩, _, rfl⟩
  case round =>
    obtain ⟨k, hk, rfl, ⟨p, rfl, hp⟩, m, rfl⟩ := hrel
    have hcase : k = 0 ∨ k = 1 ∨ k = 2 ∨ k = 3 ∨ k = 4 ∨ k = 5 ∨ k = 6 ∨ k = 7 ∨ k = 8 := by omega
    rcases hcase with rfl | rfl | rfl | rfl | rfl | rfl | rfl | rfl | rfl
    iterate 8
      · go_wp2
        go_roundw
        case rel => first | exact ⟨1, by decide, rfl, ⟨_, rfl, FV_fR fv_one (FV_fR (FV_fR (FV_fR (FV_fR (FV_fR (hv _) fv_half) fv_turn) (FV_fR (FV_fR (hv _) fv_half) fv_turn)) hp) (fv_int _))⟩, _, rfl⟩ | exact ⟨2, by decide, rfl, ⟨_, rfl, FV_fR fv_one (FV_fR (FV_fR (FV_fR (FV_fR (FV_fR (hv _) fv_half) fv_turn) (FV_fR (FV_fR (hv _) fv_half) fv_turn)) hp) (fv_int _))⟩, _, rfl⟩ | exact ⟨3, by decide, rfl, ⟨_, rfl, FV_fR fv_one (FV_fR (FV_fR (FV_fR (FV_fR (FV_fR (hv _) fv_half) fv_turn) (FV_fR (FV_fR (hv _) fv_half) fv_turn)) hp) (fv_int _))⟩, _, rfl⟩ | exact ⟨4, by decide, rfl, ⟨_, rfl, FV_fR fv_one (FV_fR (FV_fR (FV_fR (FV_fR (FV_fR (hv _) fv_half) fv_turn) (FV_fR (FV_fR (hv _) fv_half) fv_turn)) hp) (fv_int _))⟩, _, rfl⟩ | exact ⟨5, by decide, rfl, ⟨_, rfl, FV_fR fv_one (FV_fR (FV_fR (FV_fR (FV_fR (FV_fR (hv _) fv_half) fv_turn) (FV_fR (FV_fR (hv _) fv_half) fv_turn)) hp) (fv_int _))⟩, _, rfl⟩ | exact ⟨6, by decide, rfl, ⟨_, rfl, FV_fR fv_one (FV_fR (FV_fR (FV_fR (FV_fR (FV_fR (hv _) fv_half) fv_turn) (FV_fR (FV_fR (hv _) fv_half) fv_turn)) hp) (fv_int _))⟩, _, rfl⟩ | exact ⟨7, by decide, rfl, ⟨_, rfl, FV_fR fv_one (FV_fR (FV_fR (FV_fR (FV_fR (FV_fR (hv _) fv_half) fv_turn) (FV_fR (FV_fR (hv _) fv_half) fv_turn)) hp) (fv_int _))⟩, _, rfl⟩ | exact ⟨8, by decide, rfl, ⟨_, rfl, FV_fR fv_one (FV_fR (FV_fR (FV_fR (FV_fR (FV_fR (hv _) fv_half) fv_turn) (FV_fR (FV_fR (hv _) fv_half) fv_turn)) hp) (fv_int _))⟩, _, rfl⟩
        case measure => simp [intOf]
    · go_wp2
      go_ret
      exact ⟨_, rfl, sin_wideN (FV_fR (FV_fR (FV_fR (hv _) fv_half) fv_turn) hp) HL.out, _, rfl⟩
theorem l01Sine_011 (X I : Nat) (i : Int) (c : Option Nat) (w : World) (hI : floatOfInt .f64 i = I) (hn : floatToIntVal .f64 X .i64 = some i) (hv : ∀ w, FV .f64 (fR .sub .f64 X I w) c) (sx : ∀ w, fR .sub .f64 X X w = 0)
    (b1 : (FloatKind.f64.format.order X 4841369599423283200 == some .gt || FloatKind.f64.format.order X 4841369599423283200 == some .eq) = false) (b2 : (FloatKind.f64.format.order X 14064741636278059008 == some .lt || FloatKind.f64.format.order X 14064741636278059008 == some .eq) = false)
    (hneg : negB c = false) (hlow : lowB c = true) (hqua : quaB (fop .sub .f64 c (some half64)) = true) (hLE : LEC (sinQ (fop .sub .f64 (some half64) (fop .sub .f64 c (some half64)))) 94) :
    Calls Try.prog 161 #[.float .f64 X] w fun e w' => ∃ r, e = .returned (.float .f64 r) ∧ (FV .f64 r (negC (sinQ (fop .sub .f64 (some half64) (fop .sub .f64 c (some half64))))) ∧ ovf r = false) ∧ ∃ n, w' = w.drewN n := by
  have u := Try.underlying35
  have u' := Try.underlying2
  have z0 : (FloatKind.f64.format.order 0 0 != some .eq) = false := by decide
  have hc : ∀ w, (convert 35 2 (.float .f64 X)).run Try.prog w = .ok (.int .i64 i) w := fun w => run_convert_float_int w 35 2 .f64 .i64 X i (by rw [u]; rfl) u' hn
  have h1 : ∀ w, (FloatKind.f64.format.order (fR .sub .f64 X I w) 0 == some .lt) = false := fun w => (o_eq _ (hv w) fv_zero64).trans hneg
  have h2 : ∀ w, (FloatKind.f64.format.order (fR .sub .f64 X I w) 4602678819172646912 == some .gt || FloatKind.f64.format.order (fR .sub .f64 X I w) 4602678819172646912 == some .eq) = true := fun w => by rw [o_eq _ (hv w) fv_half, o_eq _ (hv w) fv_half]; exact hlow
  have h3 : ∀ w w2, (FloatKind.f64.format.order (fR .sub .f64 (fR .sub .f64 X I w) 4602678819172646912 w2) 4598175219545276416 == some .gt) = true := fun w w2 => (o_eq _ (FV_fR (hv w) fv_half) fv_quarter).trans hqua
  have HL := Lib.hid hLE
  clear hLE hneg hlow hqua hn
  go_enter Try.func161, Try.ntmps161
  go_wp2_with (simp only [hc, hI])
  go_loopw [7, 8] (fun s i w' => ∃ k : Nat, k ≤ 8 ∧ i = .int .i64 (8 - (k : Int)) ∧ (∃ p, s = .float .f64 p ∧ FV .f64 p (polS (fop .mul .f64 (sinZ (fop .sub .f64 (some half64) (fop .sub .f64 c (some half64)))) (sinZ (fop .sub .f64 (some half64) (fop .sub .f64 c (some half64))))) k)) ∧ ∃ n, w' = w.drewN n) (fun _ i _ => (intOf i + 2).toNat)
  case atStart => exact ⟨0, by decide, rfl, ⟨_, rfl, fv_one⟩, _, rfl⟩
  case round =>
    obtain ⟨k, hk, rfl, ⟨p, rfl, hp⟩, m, rfl⟩ := hrel
    have hcase : k = 0 ∨ k = 1 ∨ k = 2 ∨ k = 3 ∨ k = 4 ∨ k = 5 ∨ k = 6 ∨ k = 7 ∨ k = 8 := by omega
    rcases hcase with rfl | rfl | rfl | rfl | rfl | rfl | rfl | rfl | rfl
    iterate 8
      · go_wp2
        go_roundw
        case rel => first | exact ⟨1, by decide, rfl, ⟨_, rfl, FV_fR fv_one (FV_fR (FV_fR (FV_fR (FV_fR (FV_fR fv_half (FV_fR (hv _) fv_half)) fv_turn) (FV_fR (FV_fR fv_half (FV_fR (hv _) fv_half)) fv_turn)) hp) (fv_int _))⟩, _, rfl⟩ | exact ⟨2, by decide, rfl, ⟨_, rfl, FV_fR fv_one (FV_fR (FV_fR (FV_fR (FV_fR (FV_fR fv_half (FV_fR (hv _) fv_half)) fv_turn) (FV_fR (FV_fR fv_half (FV_fR (hv _) fv_half)) fv_turn)) hp) (fv_int _))⟩, _, rfl⟩ | exact ⟨3, by decide, rfl, ⟨_, rfl, FV_fR fv_one (FV_fR (FV_fR (FV_fR (FV_fR (FV_fR fv_half (FV_fR (hv _) fv_half)) fv_turn) (FV_fR (FV_fR fv_half (FV_fR (hv _) fv_half)) fv_turn)) hp) (fv_int _))⟩, _, rfl⟩ | exact ⟨4, by decide, rfl, ⟨_, rfl, FV_fR fv_one (FV_fR (FV_fR (FV_fR (FV_fR (FV_fR fv_half (FV_fR (hv _) fv_half)) fv_turn) (FV_fR (FV_fR fv_half (FV_fR (hv _) fv_half)) fv_turn)) hp) (fv_int _))⟩, _, rfl⟩ | exact ⟨5, by decide, rfl, ⟨_, rfl, FV_fR fv_one (FV_fR (FV_fR (FV_fR (FV_fR (FV_fR fv_half (FV_fR (hv _) fv_half)) fv_turn) (FV_fR (FV_fR fv_half (FV_fR (hv _) fv_half)) fv_turn)) hp) (fv_int _))⟩, _, rfl⟩ | exact ⟨6, by decide, rfl, ⟨_, rfl, FV_fR fv_one (FV_fR (FV_fR (FV_fR (FV_fR (FV_fR fv_half (FV_fR (hv _) fv_half)) fv_turn) (FV_fR (FV_fR fv_half (FV_fR (hv _) fv_half)) fv_turn)) hp) (fv_int _))⟩, _, rfl⟩ | exact ⟨7, by decide, rfl, ⟨_, rfl, FV_fR fv_one (FV_fR (FV_fR (FV_fR (FV_fR (FV_fR fv_half (FV_fR (hv _) fv_half)) fv_turn) (FV_fR (FV_fR fv_half (FV_fR (hv _) fv_half)) fv_turn)) hp) (fv_int _))⟩, _, rfl⟩ | exact ⟨8, by decide, rfl, ⟨_, rfl, FV_fR fv_one (FV_fR (FV_fR (FV_fR (FV_fR (FV_fR fv_half (FV_fR (hv _) fv_half)) fv_turn) (FV_fR (FV_fR fv_half (FV_fR (hv _) fv_half)) fv_turn)) hp) (fv_int _))⟩, _, rfl⟩
        case measure => simp [intOf]
    · go_wp2
      go_ret
      exact ⟨_, rfl, sin_wideN (FV_fR (FV_fR (FV_fR fv_half (FV_fR (hv _) fv_half)) fv_turn) hp) HL.out, _, rfl⟩
theorem l01Sine_100 (X I : Nat) (i : Int) (c : Option Nat) (w : World) (hI : floatOfInt .f64 i = I) (hn : floatToIntVal .f64 X .i64 = some i) (hv : ∀ w, FV .f64 (fR .sub .f64 X I w) c) (sx : ∀ w, fR .sub .f64 X X w = 0)
    (b1 : (FloatKind.f64.format.order X 4841369599423283200 == some .gt || FloatKind.f64.format.order X 4841369599423283200 == some .eq) = false) (b2 : (FloatKind.f64.format.order X 14064741636278059008 == some .lt || FloatKind.f64.format.order X 14064741636278059008 == some .eq) = false)
    (hneg : negB c = true) (hlow : lowB (fop .add .f64 c (some one64)) = false) (hqua : quaB (fop .add .f64 c (some one64)) = false) (hLE : LEC (sinQ (fop .add .f64 c (some one64))) 94) :
    Calls Try.prog 161 #[.float .f64 X] w fun e w' => ∃ r, e = .returned (.float .f64 r) ∧ (FV .f64 r (sinQ (fop .add .f64 c (some one64))) ∧ ovf r = false) ∧ ∃ n, w' = w.drewN n := by
  have u := Try.underlying35
  have u' := Try.underlying2
  have z0 : (FloatKind.f64.format.order 0 0 != some .eq) = false := by decide
  have hc : ∀ w, (convert 35 2 (.float .f64 X)).run Try.prog w = .ok (.int .i64 i) w := fun w => run_convert_float_int w 35 2 .f64 .i64 X i (by rw [u]; rfl) u' hn
  have h1 : ∀ w, (FloatKind.f64.format.order (fR .sub .f64 X I w) 0 == some .lt) = true := fun w => (o_eq _ (hv w) fv_zero64).trans hneg
  have h2 : ∀ w w1, (FloatKind.f64.format.order (fR .add .f64 (fR .sub .f64 X I w) 4607182418800017408 w1) 4602678819172646912 == some .gt || FloatKind.f64.format.order (fR .add .f64 (fR .sub .f64 X I w) 4607182418800017408 w1) 4602678819172646912 == some .eq) = false := fun w w1 => by rw [o_eq _ (FV_fR (hv w) fv_one) fv_half, o_eq _ (FV_fR (hv w) fv_one) fv_half]; exact hlow
  have h3 : ∀ w w1, (FloatKind.f64.format.order (fR .add .f64 (fR .sub .f64 X I w) 4607182418800017408 w1) 4598175219545276416 == some .gt) = false := fun w w1 => (o_eq _ (FV_fR (hv w) fv_one) fv_quarter).trans hqua
  have HL := Lib.hid hLE
  clear hLE hneg hlow hqua hn
  go_enter Try.func161, Try.ntmps161
  go_wp2_with (simp only [hc, hI])
  go_loopw [7, 8] (fun s i w' => ∃ k : Nat, k ≤ 8 ∧ i = .int .i64 (8 - (k : Int)) ∧ (∃ p, s = .float .f64 p ∧ FV .f64 p (polS (fop .mul .f64 (sinZ (fop .add .f64 c (some one64))) (sinZ (fop .add .f64 c (some one64)))) k)) ∧ ∃ n, w' = w.drewN n) (fun _ i _ => (intOf i + 2).toNat)
  case atStart => exact ⟨0, by decide, rfl, ⟨_, rfl, fv_one⟩, _, rfl⟩
  case round =>
    obtain ⟨k, hk, rfl, ⟨p, rfl, hp⟩, m, rfl⟩ := hrel
    have hcase : k = 0 ∨ k = 1 ∨ k = 2 ∨ k = 3 ∨ k = 4 ∨ k = 5 ∨ k = 6 ∨ k = 7 ∨ k = 8 := by omega
    rcases hcase with rfl | rfl | rfl | rfl | rfl | rfl | rfl | rfl | rfl
    iterate 8
      · go_wp2
        go_roundw
        case rel => first | exact ⟨1, by decide, rfl, ⟨_, rfl, FV_fR fv_one (FV_fR (FV_fR (FV_fR (FV_fR (FV_fR (hv _) fv_one) fv_turn) (FV_fR (FV_fR (hv _) fv_one) fv_turn)) hp) (fv_int _))⟩, _, rfl⟩ | exact ⟨2, by decide, rfl, ⟨_, rfl, FV_fR fv_one (FV_fR (FV_fR (FV_fR (FV_fR (FV_fR (hv _) fv_one) fv_turn) (FV_fR (FV_fR (hv _) fv_one) fv_turn)) hp) (fv_int _))⟩, _, rfl⟩ | exact ⟨3, by decide, rfl, ⟨_, rfl, FV_fR fv_one (FV_fR (FV_fR (FV_fR (FV_fR (FV_fR (hv _) fv_one) fv_turn) (FV_fR (FV_fR (hv _) fv_one) fv_turn)) hp) (fv_int _))⟩, _, rfl⟩ | exact ⟨4, by decide, rfl, ⟨_, rfl, FV_fR fv_one (FV_fR (FV_fR (FV_fR (FV_fR (FV_fR (hv _) fv_one) fv_turn) (FV_fR (FV_fR (hv _) fv_one) fv_turn)) hp) (fv_int _))⟩, _, rfl⟩ | exact ⟨5, by decide, rfl, ⟨_, rfl, FV_fR fv_one (FV_fR (FV_fR (FV_fR (FV_fR (FV_fR (hv _) fv_one) fv_turn) (FV_fR (FV_fR (hv _) fv_one) fv_turn)) hp) (fv_int _))⟩, _, rfl⟩ | exact ⟨6, by decide, rfl, ⟨_, rfl, FV_fR fv_one (FV_fR (FV_fR (FV_fR (FV_fR (FV_fR (hv _) fv_one) fv_turn) (FV_fR (FV_fR (hv _) fv_one) fv_turn)) hp) (fv_int _))⟩, _, rfl⟩ | exact ⟨7, by decide, rfl, ⟨_, rfl, FV_fR fv_one (FV_fR (FV_fR (FV_fR (FV_fR (FV_fR (hv _) fv_one) fv_turn) (FV_fR (FV_fR (hv _) fv_one) fv_turn)) hp) (fv_int _))⟩, _, rfl⟩ | exact ⟨8, by decide, rfl, ⟨_, rfl, FV_fR fv_one (FV_fR (FV_fR (FV_fR (FV_fR (FV_fR (hv _) fv_one) fv_turn) (FV_fR (FV_fR (hv _) fv_one) fv_turn)) hp) (fv_int _))⟩, _, rfl⟩
        case measure => simp [intOf]
    · go_wp2
      go_ret
      exact ⟨_, rfl, sin_wide (FV_fR (FV_fR (FV_fR (hv _) fv_one) fv_turn) hp) HL.out, _, rfl⟩
theorem l01Sine_101 (X I : Nat) (i : Int) (c : Option Nat) (w : World) (hI : floatOfInt .f64 i = I) (hn : floatToIntVal .f64 X .i64 = some i) (hv : ∀ w, FV .f64 (fR .sub .f64 X I w) c) (sx : ∀ w, fR .sub .f64 X X w = 0)
    (b1 : (FloatKind.f64.format.order X 4841369599423283200 == some .gt || FloatKind.f64.format.order X 4841369599423283200 == some .eq) = false) (b2 : (FloatKind.f64.format.order X 14064741636278059008 == some .lt || FloatKind.f64.format.order X 14064741636278059008 == some .eq) = false)
    (hneg : negB c = true) (hlow : lowB (fop .add .f64 c (some one64)) = false) (hqua : quaB (fop .add .f64 c (some one64)) = true) (hLE : LEC (sinQ (fop .sub .f64 (some half64) (fop .add .f64 c (some one64)))) 94) :
    Calls Try.prog 161 #[.float .f64 X] w fun e w' => ∃ r, e = .returned (.float .f64 r) ∧ (FV .f64 r (sinQ (fop .sub .f64 (some half64) (fop .add .f64 c (some one64)))) ∧ ovf r = false) ∧ ∃ n, w' = w.drewN n := by
  have u := Try.underlying35
  have u' := Try.underlying2
  have z0 : (FloatKind.f64.format.order 0 0 != some .eq) = false := by decide
  have hc : ∀ w, (convert 35 2 (.float .f64 X)).run Try.prog w = .ok (.int .i64 i) w := fun w => run_convert_float_int w 35 2 .f64 .i64 X i (by rw [u]; rfl) u' hn
  have h1 : ∀ w, (FloatKind.f64.format.order (fR .sub .f64 X I w) 0 == some .lt) = true := fun w => (o_eq _ (hv w) fv_zero64).trans hneg
  have h2 : ∀ w w1, (FloatKind.f64.format.order (fR .add .f64 (fR .sub .f64 X I w) 4607182418800017408 w1) 4602678819172646912 == some .gt || FloatKind.f64.format.order (fR .add .f64 (fR .sub .f64 X I w) 4607182418800017408 w1) 4602678819172646912 == some .eq) = false := fun w w1 => by rw [o_eq _ (FV_fR (hv w) fv_one) fv_half, o_eq _ (FV_fR (hv w) fv_one) fv_half]; exact hlow
  have h3 : ∀ w w1, (FloatKind.f64.format.order (fR .add .f64 (fR .sub .f64 X I w) 4607182418800017408 w1) 4598175219545276416 == some .gt) = true := fun w w1 => (o_eq _ (FV_fR (hv w) fv_one) fv_quarter).trans hqua
  have HL := Lib.hid hLE
  clear hLE hneg hlow hqua hn
  go_enter Try.func161, Try.ntmps161
  go_wp2_with (simp only [hc, hI])
  go_loopw [7, 8] (fun s i w' => ∃ k : Nat, k ≤ 8 ∧ i = .int .i64 (8 - (k : Int)) ∧ (∃ p, s = .float .f64 p ∧ FV .f64 p (polS (fop .mul .f64 (sinZ (fop .sub .f64 (some half64) (fop .add .f64 c (some one64)))) (sinZ (fop .sub .f64 (some half64) (fop .add .f64 c (some one64))))) k)) ∧ ∃ n, w' = w.drewN n) (fun _ i _ => (intOf i + 2).toNat)
  case atStart => exact ⟨0, by decide, rfl, ⟨_, rfl, fv_one⟩, _, rfl⟩
  case round =>
    obtain ⟨k, hk, rfl, ⟨p, rfl, hp⟩, m, rfl⟩ := hrel
    have hcase : k = 0 ∨ k = 1 ∨ k = 2 ∨ k = 3 ∨ k = 4 ∨ k = 5 ∨ k = 6 ∨ k = 7 ∨ k = 8 := by omega
    rcases hcase with rfl | rfl | rfl | rfl | rfl | rfl | rfl | rfl | rfl
    iterate 8
      · go_wp2
        go_roundw
        case rel => first | exact ⟨1, by decide, rfl, ⟨_, rfl, FV_fR fv_one (FV_fR (FV_fR (FV_fR (FV_fR (FV_fR fv_half (FV_fR (hv _) fv_one)) fv_turn) (FV_fR (FV_fR fv_half (FV_fR (hv _) fv_one)) fv_turn)) hp) (fv_int _))⟩, _, rfl⟩ | exact ⟨2, by decide, rfl, ⟨_, rfl, FV_fR fv_one (FV_fR (FV_fR (FV_fR (FV_fR (FV_fR fv_half (FV_fR (hv _) fv_one)) fv_turn) (FV_fR (FV_fR fv_half (FV_fR (hv _) fv_one)) fv_turn)) hp) (fv_int _))⟩, _, rfl⟩ | exact ⟨3, by decide, rfl, ⟨_, rfl, FV_fR fv_one (FV_fR (FV_fR (FV_fR (FV_fR (FV_fR fv_half (FV_fR (hv _) fv_one)) fv_turn) (FV_fR (FV_fR fv_half (FV_fR (hv _) fv_one)) fv_turn)) hp) (fv_int _))⟩, _, rfl⟩ | exact ⟨4, by decide, rfl, ⟨_, rfl, FV_fR fv_one (FV_fR (FV_fR (FV_fR (FV_fR (FV_fR fv_half (FV_fR (hv _) fv_one)) fv_turn) (FV_fR (FV_fR fv_half (FV_fR (hv _) fv_one)) fv_turn)) hp) (fv_int _))⟩, _, rfl⟩ | exact ⟨5, by decide, rfl, ⟨_, rfl, FV_fR fv_one (FV_fR (FV_fR (FV_fR (FV_fR (FV_fR fv_half (FV_fR (hv _) fv_one)) fv_turn) (FV_fR (FV_fR fv_half (FV_fR (hv _) fv_one)) fv_turn)) hp) (fv_int _))⟩, _, rfl⟩ | exact ⟨6, by decide, rfl, ⟨_, rfl, FV_fR fv_one (FV_fR (FV_fR (FV_fR (FV_fR (FV_fR fv_half (FV_fR (hv _) fv_one)) fv_turn) (FV_fR (FV_fR fv_half (FV_fR (hv _) fv_one)) fv_turn)) hp) (fv_int _))⟩, _, rfl⟩ | exact ⟨7, by decide, rfl, ⟨_, rfl, FV_fR fv_one (FV_fR (FV_fR (FV_fR (FV_fR (FV_fR fv_half (FV_fR (hv _) fv_one)) fv_turn) (FV_fR (FV_fR fv_half (FV_fR (hv _) fv_one)) fv_turn)) hp) (fv_int _))⟩, _, rfl⟩ | exact ⟨8, by decide, rfl, ⟨_, rfl, FV_fR fv_one (FV_fR (FV_fR (FV_fR (FV_fR (FV_fR fv_half (FV_fR (hv _) fv_one)) fv_turn) (FV_fR (FV_fR fv_half (FV_fR (hv _) fv_one)) fv_turn)) hp) (fv_int _))⟩, _, rfl⟩
        case measure => simp [intOf]
    · go_wp2
      go_ret
      exact ⟨_, rfl, sin_wide (FV_fR (FV_fR (FV_fR fv_half (FV_fR (hv _) fv_one)) fv_turn) hp) HL.out, _, rfl⟩
theorem l01Sine_110 (X I : Nat) (i : Int) (c : Option Nat) (w : World) (hI : floatOfInt .f64 i = I) (hn : floatToIntVal .f64 X .i64 = some i) (hv : ∀ w, FV .f64 (fR .sub .f64 X I w) c) (sx : ∀ w, fR .sub .f64 X X w = 0)
    (b1 : (FloatKind.f64.format.order X 4841369599423283200 == some .gt || FloatKind.f64.format.order X 4841369599423283200 == some .eq) = false) (b2 : (FloatKind.f64.format.order X 14064741636278059008 == some .lt || FloatKind.f64.format.order X 14064741636278059008 == some .eq) = false)
    (hneg : negB c = true) (hlow : lowB (fop .add .f64 c (some one64)) = true) (hqua : quaB (fop .sub .f64 (fop .add .f64 c (some one64)) (some half64)) = false) (hLE : LEC (sinQ (fop .sub .f64 (fop .add .f64 c (some one64)) (some half64))) 94) :
    Calls Try.prog 161 #[.float .f64 X] w fun e w' => ∃ r, e = .returned (.float .f64 r) ∧ (FV .f64 r (negC (sinQ (fop .sub .f64 (fop .add .f64 c (some one64)) (some half64)))) ∧ ovf r = false) ∧ ∃ n, w' = w.drewN n := by
  have u := Try.underlying35
  have u' := Try.underlying2
  have z0 : (FloatKind.f64.format.order 0 0 != some .eq) = false := by decide
  have hc : ∀ w, (convert 35 2 (.float .f64 X)).run Try.prog w = .ok (.int .i64 i) w := fun w => run_convert_float_int w 35 2 .f64 .i64 X i (by rw [u]; rfl) u' hn
  have h1 : ∀ w, (FloatKind.f64.format.order (fR .sub .f64 X I w) 0 == some .lt) = true := fun w => (o_eq _ (hv w) fv_zero64).trans hneg
  have h2 : ∀ w w1, (FloatKind.f64.format.order (fR .add .f64 (fR .sub .f64 X I w) 4607182418800017408 w1) 4602678819172646912 == some .gt || FloatKind.f64.format.order (fR .add .f64 (fR .sub .f64 X I w) 4607182418800017408 w1) 4602678819172646912 == some .eq) = true := fun w w1 => by rw [o_eq _ (FV_fR (hv w) fv_one) fv_half, o_eq _ (FV_fR (hv w) fv_one) fv_half]; exact hlow
  have h3 : ∀ w w1 w2, (FloatKind.f64.format.order (fR .sub .f64 (fR .add .f64 (fR .sub .f64 X I w) 4607182418800017408 w1) 4602678819172646912 w2) 4598175219545276416 == some .gt) = false := fun w w1 w2 => (o_eq _ (FV_fR (FV_fR (hv w) fv_one) fv_half) fv_quarter).trans hqua
  have HL := Lib.hid hLE
  clear hLE hneg hlow hqua hn
  go_enter Try.func161, Try.ntmps161
  go_wp2_with (simp only [hc, hI])
  go_loopw [7, 8] (fun s i w' => ∃ k : Nat, k ≤ 8 ∧ i = .int .i64 (8 - (k : Int)) ∧ (∃ p, s = .float .f64 p ∧ FV .f64 p (polS (fop .mul .f64 (sinZ (fop .sub .f64 (fop .add .f64 c (some one64)) (some half64))) (sinZ (fop .sub .f64 (fop .add .f64 c (some one64)) (some half64)))) k)) ∧ ∃ n, w' = w.drewN n) (fun _ i _ => (intOf i + 2).toNat)
  case atStart => exact ⟨0, by decide, rfl, ⟨_, rfl, fv_one⟩, _, rfl⟩
  case round =>
    obtain ⟨k, hk, rfl, ⟨p, rfl, hp⟩, m, rfl⟩ := hrel
    have hcase : k = 0 ∨ k = 1 ∨ k = 2 ∨ k = 3 ∨ k = 4 ∨ k = 5 ∨ k = 6 ∨ k = 7 ∨ k = 8 := by omega
    rcases hcase with rfl | rfl | rfl | rfl | rfl | rfl | rfl | rfl | rfl
    iterate 8
      · go_wp2
        go_roundw
        case rel => first | exact ⟨1, by decide, rfl, ⟨_, rfl, FV_fR fv_one (FV_fR (FV_fR (FV_fR (FV_fR (FV_fR (FV_fR (hv _) fv_one) fv_half) fv_turn) (FV_fR (FV_fR (FV_fR (hv _) fv_one) fv_half) fv_turn)) hp) (fv_int _))⟩, _, rfl⟩ | exact ⟨2, by decide, rfl, ⟨_, rfl, FV_fR fv_one (FV_fR (FV_fR (FV_fR (FV_fR (FV_fR (FV_fR (hv _) fv_one) fv_half) fv_turn) (FV_fR (FV_fR (FV_fR (hv _) fv_one) fv_half) fv_turn)) hp) (fv_int _))⟩, _, rfl⟩ | exact ⟨3, by decide, rfl, ⟨_, rfl, FV_fR fv_one (FV_fR (FV_fR (FV_fR (FV_fR (FV_fR (FV_fR (hv _) fv_one) fv_half) fv_turn) (FV_fR (FV_fR (FV_fR (hv _) fv_one) fv_half) fv_turn)) hp) (fv_int _))⟩, _, rfl⟩ | exact ⟨4, by decide, rfl, ⟨_, rfl, FV_fR fv_one (FV_fR (FV_fR (FV_fR (FV_fR (FV_fR (FV_fR (hv _) fv_one) fv_half) fv_turn) (FV_fR (FV_fR (FV_fR (hv _) fv_one) fv_half) fv_turn)) hp) (fv_int _))⟩, _, rfl⟩ | exact ⟨5, by decide, rfl, ⟨_, rfl, FV_fR fv_one (FV_fR (FV_fR (FV_fR (FV_fR (FV_fR (FV_fR (hv _) fv_one) fv_half) fv_turn) (FV_fR (FV_fR (FV_fR (hv _) fv_one) fv_half) fv_turn)) hp) (fv_int _))⟩, _, rfl⟩ | exact ⟨6, by decide, rfl, ⟨_, rfl, FV_fR fv_one (FV_fR (FV_fR (FV_fR (FV_fR (FV_fR (FV_fR (hv _) fv_one) fv_half) fv_turn) (FV_fR (FV_fR (FV_fR (hv _) fv_one) fv_half) fv_turn)) hp) (fv_int _))⟩, _, rfl⟩ | exact ⟨7, by decide, rfl, ⟨_, rfl, FV_fR fv_one (FV_fR (FV_fR (FV_fR (FV_fR (FV_fR (FV_fR (hv _) fv_one) fv_half) fv_turn) (FV_fR (FV_fR (FV_fR (hv _) fv_one) fv_half) fv_turn)) hp) (fv_int _))⟩, _, rfl⟩ | exact ⟨8, by decide, rfl, ⟨_, rfl, FV_fR fv_one (FV_fR (FV_fR (FV_fR (FV_fR (FV_fR (FV_fR (hv _) fv_one) fv_half) fv_turn) (FV_fR (FV_fR (FV_fR (hv _) fv_one) fv_half) fv_turn)) hp) (fv_int _))⟩, _, rfl⟩
        case measure => simp [intOf]
    · go_wp2
      go_ret
      exact ⟨_, rfl, sin_wideN (FV_fR (FV_fR (FV_fR (FV_fR (hv _) fv_one) fv_half) fv_turn) hp) HL.out, _, rfl⟩
theorem l01Sine_111 (X I : Nat) (i : Int) (c : Option Nat) (w : World) (hI : floatOfInt .f64 i = I) (hn : floatToIntVal .f64 X .i64 = some i) (hv : ∀ w, FV .f64 (fR .sub .f64 X I w) c) (sx : ∀ w, fR .sub .f64 X X w = 0)
    (b1 : (FloatKind.f64.format.order X 4841369599423283200 == some .gt || FloatKind.f64.format.order X 4841369599423283200 == some .eq) = false) (b2 : (FloatKind.f64.format.order X 14064741636278059008 == some .lt || FloatKind.f64.format.order X 14064741636278059008 == some .eq) = false)
    (hneg : negB c = true) (hlow : lowB (fop .add .f64 c (some one64)) = true) (hqua : quaB (fop .sub .f64 (fop .add .f64 c (some one64)) (some half64)) = true) (hLE : LEC (sinQ (fop .sub .f64 (some half64) (fop .sub .f64 (fop .add .f64 c (some one64)) (some half64)))) 94) :
    Calls Try.prog 161 #[.float .f64 X] w fun e w' => ∃ r, e = .returned (.float .f64 r) ∧ (FV .f64 r (negC (sinQ (fop .sub .f64 (some half64) (fop .sub .f64 (fop .add .f64 c (some one64)) (some half64))))) ∧ ovf r = false) ∧ ∃ n, w' = w.drewN n := by
  have u := Try.underlying35
  have u' := Try.underlying2
  have z0 : (FloatKind.f64.format.order 0 0 != some .eq) = false := by decide
  have hc : ∀ w, (convert 35 2 (.float .f64 X)).run Try.prog w = .ok (.int .i64 i) w := fun w => run_convert_float_int w 35 2 .f64 .i64 X i (by rw [u]; rfl) u' hn
  have h1 : ∀ w, (FloatKind.f64.format.order (fR .sub .f64 X I w) 0 == some .lt) = true := fun w => (o_eq _ (hv w) fv_zero64).trans hneg
  have h2 : ∀ w w1, (FloatKind.f64.format.order (fR .add .f64 (fR .sub .f64 X I w) 4607182418800017408 w1) 4602678819172646912 == some .gt || FloatKind.f64.format.order (fR .add .f64 (fR .sub .f64 X I w) 4607182418800017408 w1) 4602678819172646912 == some .eq) = true := fun w w1 => by rw [o_eq _ (FV_fR (hv w) fv_one) fv_half, o_eq _ (FV_fR (hv w) fv_one) fv_half]; exact hlow
  have h3 : ∀ w w1 w2, (FloatKind.f64.format.order (fR .sub .f64 (fR .add .f64 (fR .sub .f64 X I w) 4607182418800017408 w1) 4602678819172646912 w2) 4598175219545276416 == some .gt) = true := fun w w1 w2 => (o_eq _ (FV_fR (FV_fR (hv w) fv_one) fv_half) fv_quarter).trans hqua
  have HL := Lib.hid hLE
  clear hLE hneg hlow hqua hn
  go_enter Try.func161, Try.ntmps161
  go_wp2_with (simp only [hc, hI])
  go_loopw [7, 8] (fun s i w' => ∃ k : Nat, k ≤ 8 ∧ i = .int .i64 (8 - (k : Int)) ∧ (∃ p, s = .float .f64 p ∧ FV .f64 p (polS (fop .mul .f64 (sinZ (fop .sub .f64 (some half64) (fop .sub .f64 (fop .add .f64 c (some one64)) (some half64)))) (sinZ (fop .sub .f64 (some half64) (fop .sub .f64 (fop .add .f64 c (some one64)) (some half64))))) k)) ∧ ∃ n, w' = w.drewN n) (fun _ i _ => (intOf i + 2).toNat)
  case atStart => exact ⟨0, by decide, rfl, ⟨_, rfl, fv_one⟩, _, rfl⟩
  case round =>
    obtain ⟨k, hk, rfl, ⟨p, rfl, hp⟩, m, rfl⟩ := hrel
    have hcase : k = 0 ∨ k = 1 ∨ k = 2 ∨ k = 3 ∨ k = 4 ∨ k = 5 ∨ k = 6 ∨ k = 7 ∨ k = 8 := by omega
    rcases hcase with rfl | rfl | rfl | rfl | rfl | rfl | rfl | rfl | rfl
    iterate 8
      · go_wp2
        go_roundw
        case rel => first | exact ⟨1, by decide, rfl, ⟨_, rfl, FV_fR fv_one (FV_fR (FV_fR (FV_fR (FV_fR (FV_fR fv_half (FV_fR (FV_fR (hv _) fv_one) fv_half)) fv_turn) (FV_fR (FV_fR fv_half (FV_fR (FV_fR (hv _) fv_one) fv_half)) fv_turn)) hp) (fv_int _))⟩, _, rfl⟩ | exact ⟨2, by decide, rfl, ⟨_, rfl, FV_fR fv_one (FV_fR (FV_fR (FV_fR (FV_fR (FV_fR fv_half (FV_fR (FV_fR (hv _) fv_one) fv_half)) fv_turn) (FV_fR (FV_fR fv_half (FV_fR (FV_fR (hv _) fv_one) fv_half)) fv_turn)) hp) (fv_int _))⟩, _, rfl⟩ | exact ⟨3, by decide, rfl, ⟨_, rfl, FV_fR fv_one (FV_fR (FV_fR (FV_fR (FV_fR (FV_fR fv_half (FV_fR (FV_fR (hv _) fv_one) fv_half)) fv_turn) (FV_fR (FV_fR fv_half (FV_fR (FV_fR (hv _) fv_one) fv_half)) fv_turn)) hp) (fv_int _))⟩, _, rfl⟩ | exact ⟨4, by decide, rfl, ⟨_, rfl, FV_fR fv_one (FV_fR (FV_fR (FV_fR (FV_fR (FV_fR fv_half (FV_fR (FV_fR (hv _) fv_one) fv_half)) fv_turn) (FV_fR (FV_fR fv_half (FV_fR (FV_fR (hv _) fv_one) fv_half)) fv_turn)) hp) (fv_int _))⟩, _, rfl⟩ | exact ⟨5, by decide, rfl, ⟨_, rfl, FV_fR fv_one (FV_fR (FV_fR (FV_fR (FV_fR (FV_fR fv_half (FV_fR (FV_fR (hv _) fv_one) fv_half)) fv_turn) (FV_fR (FV_fR fv_half (FV_fR (FV_fR (hv _) fv_one) fv_half)) fv_turn)) hp) (fv_int _))⟩, _, rfl⟩ | exact ⟨6, by decide, rfl, ⟨_, rfl, FV_fR fv_one (FV_fR (FV_fR (FV_fR (FV_fR (FV_fR fv_half (FV_fR (FV_fR (hv _) fv_one) fv_half)) fv_turn) (FV_fR (FV_fR fv_half (FV_fR (FV_fR (hv _) fv_one) fv_half)) fv_turn)) hp) (fv_int _))⟩, _, rfl⟩ | exact ⟨7, by decide, rfl, ⟨_, rfl, FV_fR fv_one (FV_fR (FV_fR (FV_fR (FV_fR (FV_fR fv_half (FV_fR (FV_fR (hv _) fv_one) fv_half)) fv_turn) (FV_fR (FV_fR fv_half (FV_fR (FV_fR (hv _) fv_one) fv_half)) fv_turn)) hp) (fv_int _))⟩, _, rfl⟩ | exact ⟨8, by decide, rfl, ⟨_, rfl, FV_fR fv_one (FV_fR (FV_fR (FV_fR (FV_fR (FV_fR fv_half (FV_fR (FV_fR (hv _) fv_one) fv_half)) fv_turn) (FV_fR (FV_fR fv_half (FV_fR (FV_fR (hv _) fv_one) fv_half)) fv_turn)) hp) (fv_int _))⟩, _, rfl⟩
        case measure => simp [intOf]
    · go_wp2
      go_ret
      exact ⟨_, rfl, sin_wideN (FV_fR (FV_fR (FV_fR fv_half (FV_fR (FV_fR (hv _) fv_one) fv_half)) fv_turn) hp) HL.out, _, rfl⟩
end Go.Proofs.Ytljpjmkickkcpab
end Part14
section Part15
namespace Go.Proofs.Ytljpjmkickkcpab
open Go Fk Go.RowKit
set_option linter.unusedVariables false
set_option maxRecDepth 8000

theorem l01SineWide_main (x : Nat) (w : World) (hx : x < 4294967296) (hf : finB x = true) (hb : bigB x = false) :
    Calls Try.prog 161 #[.float .f64 (wid x)] w fun e w' => ∃ r, e = .returned (.float .f64 r) ∧ (FV .f64 r (sinF x) ∧ ovf r = false) ∧ ∃ n, w' = w.drewN n := by
  obtain ⟨n, hn, hl, hle⟩ := left_of hx hf hb
  obtain ⟨b1, b2⟩ := (big_signed hx hf).1 hb
  have hLE := LEC_sinQ (LEC_qua hle)
  have fx : FV .f64 (wid x) (some (wid x)) := ⟨wid_lt x, cls_num (wid_nan (fin_num hf))⟩
  have hv : ∀ w, FV .f64 (fR .sub .f64 (wid x) (floatOfInt .f64 n) w) (leftC x) := fun w => by rw [hl]; exact FV_fR fx (fv_int n)
  have sx := sub_wid hx hf
  unfold sinF
  unfold shr at hLE ⊢
  cases h1 : negB (leftC x) <;> simp only [h1, if_true, if_false, Bool.false_eq_true] at hLE ⊢
  · unfold low at hLE ⊢
    cases h2 : lowB (leftC x) <;> simp only [h2, if_true, if_false, Bool.false_eq_true] at hLE ⊢
    · unfold qua at hLE ⊢
      cases h3 : quaB (leftC x) <;> simp only [h3, if_true, if_false, Bool.false_eq_true] at hLE ⊢
      · exact l01Sine_000 _ _ n _ w rfl hn hv sx b1 b2 h1 h2 h3 hLE
      · exact l01Sine_001 _ _ n _ w rfl hn hv sx b1 b2 h1 h2 h3 hLE
    · unfold qua at hLE ⊢
      cases h3 : quaB (fop .sub .f64 (leftC x) (some half64)) <;> simp only [h3, if_true, if_false, Bool.false_eq_true] at hLE ⊢
      · exact l01Sine_010 _ _ n _ w rfl hn hv sx b1 b2 h1 h2 h3 hLE
      · exact l01Sine_011 _ _ n _ w rfl hn hv sx b1 b2 h1 h2 h3 hLE
  · unfold low at hLE ⊢
    cases h2 : lowB (fop .add .f64 (leftC x) (some one64)) <;> simp only [h2, if_true, if_false, Bool.false_eq_true] at hLE ⊢
    · unfold qua at hLE ⊢
      cases h3 : quaB (fop .add .f64 (leftC x) (some one64)) <;> simp only [h3, if_true, if_false, Bool.false_eq_true] at hLE ⊢
      · exact l01Sine_100 _ _ n _ w rfl hn hv sx b1 b2 h1 h2 h3 hLE
      · exact l01Sine_101 _ _ n _ w rfl hn hv sx b1 b2 h1 h2 h3 hLE
    · unfold qua at hLE ⊢
      cases h3 : quaB (fop .sub .f64 (fop .add .f64 (leftC x) (some one64)) (some half64)) <;> simp only [h3, if_true, if_false, Bool.false_eq_true] at hLE ⊢
      · exact l01Sine_110 _ _ n _ w rfl hn hv sx b1 b2 h1 h2 h3 hLE
      · exact l01Sine_111 _ _ n _ w rfl hn hv sx b1 b2 h1 h2 h3 hLE
theorem l01SineWide_big (x : Nat) (w : World) (hx : x < 4294967296) (hf : finB x = true) (hb : bigB x = true) :
    Calls Try.prog 161 #[.float .f64 (wid x)] w fun e w' => e = .returned (.float .f64 0) ∧ ∃ n, w' = w.drewN n := by
  have u := Try.underlying35
  have sx := sub_wid hx hf
  have z0 : (FloatKind.f64.format.order 0 0 != some .eq) = false := by decide
  have h := (big_signed hx hf).2 hb
  generalize wid x = X at *
  rcases h with h1 | ⟨h1, h2⟩
  all_goals
    go_enter Try.func161, Try.ntmps161
    go_wp2
    go_ret
    exact ⟨rfl, _, rfl⟩
theorem l01SineWide_nan (y : Nat) (w : World) (h : ∀ w, (FloatKind.f64.format.order (fR .sub .f64 y y w) 0 != some .eq) = true) :
    Calls Try.prog 161 #[.float .f64 y] w fun e w' => e = .returned (.float .f64 9221120237041090561) ∧ ∃ n, w' = w.drewN n := by
  have u := Try.underlying35
  go_enter Try.func161, Try.ntmps161
  go_wp2_with (first
    | (go_at_call 157; refine (math_NaN _).mono ?_; rintro e w' ⟨rfl, rfl⟩))
  go_ret
  exact ⟨rfl, _, rfl⟩
theorem l01Sine (x : Nat) (w : World) (hx : x < 4294967296) :
    Calls Try.prog 142 #[.float .f32 x] w fun e w' => ∃ r, e = .returned (.float .f32 r) ∧ FV .f32 r (sinT x) ∧ ∃ n, w' = w.drewN n := by
  have u := Try.underlying35
  have u' := Try.underlying27
  unfold sinT
  cases hf : finB x
  · have hX : ∀ w1 w, (FloatKind.f64.format.order (fR .sub .f64 (wR x w1) (wR x w1) w) 0 != some .eq) = true := fun w1 w => sub_inf hx hf
    have HH := Lib.hid hX
    clear hX
    go_enter Try.func142, Try.ntmps142
    go_wp2_with fail
    refine (l01SineWide_nan _ _ (HH.out _)).mono ?_
    rintro e w' ⟨rfl, n, rfl⟩
    go_wp2_with fail
    refine (spec_Narrow _ _).mono ?_
    rintro e w' ⟨rfl, n, rfl⟩
    go_wp2
    go_ret
    exact ⟨_, rfl, FV_nR fv_nan ovf_nan, _, rfl⟩
  · have wx : ∀ w, wR x w = wid x := fun w => wR_num w (fin_num hf)
    cases hb : bigB x
    · go_enter Try.func142, Try.ntmps142
      go_wp2_with fail
      refine (l01SineWide_main _ _ hx hf hb).mono ?_
      rintro e w' ⟨g, rfl, ⟨hg, ho⟩, n, rfl⟩
      go_wp2_with fail
      refine (spec_Narrow _ _).mono ?_
      rintro e w' ⟨rfl, n, rfl⟩
      go_wp2
      go_ret
      exact ⟨_, rfl, FV_nR hg ho, _, rfl⟩
    · go_enter Try.func142, Try.ntmps142
      go_wp2_with fail
      refine (l01SineWide_big _ _ hx hf hb).mono ?_
      rintro e w' ⟨rfl, n, rfl⟩
      go_wp2_with fail
      refine (spec_Narrow _ _).mono ?_
      rintro e w' ⟨rfl, n, rfl⟩
      go_wp2
      go_ret
      exact ⟨_, rfl, FV_nR (c := some 0) fv_zero64 (by decide), _, rfl⟩
theorem impl_SineTurns (x : Nat) (w : World) (hx : x < 4294967296) :
    Calls Try.prog 95 #[.float .f32 x] w fun e w' => ∃ r, e = .returned (.float .f32 r) ∧ FV .f32 r (sinT x) ∧ ∃ n, w' = w.drewN n := by
  have u := Try.underlying35
  have u' := Try.underlying27
  unfold sinT
  cases hf : finB x
  · go_enter Try.func95, Try.ntmps95
    go_wp2_with (first
      | (go_at_call 82; refine (impl_IsFinite _ _ (by assumption)).mono ?_; rintro e w' ⟨rfl, n, rfl⟩)
      | (go_at_call 130; refine (impl_notANumber _).mono ?_; rintro e w' ⟨g, rfl, hg, n, rfl⟩))
    go_ret
    exact ⟨_, rfl, hg, _, rfl⟩
  · cases hb : bigB x
    · exact impl_SineTurns_main x w hx hf hb
    · have wx : ∀ w, wR x w = wid x := fun w => wR_num w (fin_num hf)
      have lx : wid x < 18446744073709551616 := wid_lt x
      have hbig := big_abs hx hf
      rw [hb] at hbig
      go_enter Try.func95, Try.ntmps95
      go_wp2_with (first
        | (go_at_call 82; refine (impl_IsFinite _ _ (by assumption)).mono ?_; rintro e w' ⟨rfl, n1, rfl⟩)
        | (go_at_call 143; refine (math_Abs _ _ (by assumption)).mono ?_; rintro e w' ⟨rfl, rfl⟩))
      go_ret
      exact ⟨_, rfl, ⟨by decide, by decide⟩, _, rfl⟩
end Go.Proofs.Ytljpjmkickkcpab
end Part15

/-
Texts in one: what GreatMode stands on, part 12. Conditions: those of each.
-/
import Derived.Test.YtabccmobmppdnaaGreatKGreatMode11
namespace Go.Proofs.YtabccmobmppdnaaGreat
open Bool renaming false → QQ
open Go.Lib renaming hid → QY
open Nat renaming le_refl → QX
open And renaming intro → QJ
namespace Fk
open Go
set_option linter.unusedVariables false
theorem kept_ge (f : Ieee.Format) (s : Bool) (m : Nat) (p last : Int) (h0 : m ≠ 0) (h1 : p + m.log2 - f.fractionBits = last) :
  f.binade ≤ Ieee.Toward.even.cut s (m <<< (p - last).toNat) (last - p).toNat := by
 have hge : 2 ^ m.log2 ≤ m := Nat.log2_self_le h0
 unfold Ieee.Format.binade
 by_cases hp : p ≤ last
 ·have e : (p - last).toNat = 0 := by omega
  rw [e, Nat.shiftLeft_zero]
  generalize hd : (last - p).toNat = d
  have hd' : m.log2 = f.fractionBits + d := by omega
  unfold Ieee.Toward.cut
  dsimp only
  rw [Nat.shiftLeft_eq, Nat.one_mul, Nat.min_eq_left (by omega)]
  refine Nat.le_trans ?_ (Nat.le_add_right _ _)
  rw [Nat.le_div_iff_mul_le (Nat.two_pow_pos _), ← Nat.pow_add, ← hd']
  exact hge
 ·have e : (last - p).toNat = 0 := by omega
  rw [e, even_cut_zero, Nat.shiftLeft_eq]
  have : 2 ^ m.log2 * 2 ^ (p - last).toNat ≤ m * 2 ^ (p - last).toNat := Nat.mul_le_mul_right _ hge
  rw [← Nat.pow_add] at this
  exact Nat.le_trans (Nat.pow_le_pow_right (by decide) (by omega)) this
def NB (k : FloatKind) (x : Nat) (e : Int) : Prop := ∃ m p, k.decode x = .number QQ m p ∧ (m ≠ 0 → p + m.log2 < e)
theorem NB_write (k : FloatKind) (m : Nat) (p e : Int) (h : m ≠ 0 → p + m.log2 < e) (he : k.format.leastPlace + k.format.fractionBits + 1 ≤ e)
  (hi : e ≤ 100) : NB k (k.format.write (.number QQ m p)) (e + 1) := by
 obtain ⟨s, m', p', h1, h2⟩ := MB_write k QQ m p e h he hi
 obtain ⟨r, hr, hb, _⟩ := nearest_small k.format QQ m p e h he
 have hB : 0 < k.format.binade := Nat.two_pow_pos _
 have hSB : k.format.infRung < k.format.signWeight := k.format.infRung_lt
 have hinf : (101 - k.format.fractionBits - k.format.leastPlace + 1).toNat * k.format.binade < k.format.infRung := by cases k <;> decide
 have hle : (e - k.format.fractionBits - k.format.leastPlace + 1).toNat ≤ (101 - k.format.fractionBits - k.format.leastPlace + 1).toNat := by omega
 have hlt : r < k.format.infRung := Nat.lt_of_le_of_lt (Nat.le_trans hb (Nat.mul_le_mul_right _ hle)) hinf
 have hw : k.format.word QQ r = r := by simp [Ieee.Format.word]
 have hs : s = QQ := by
  change k.format.read (k.format.nearest QQ m p) = _ at h1
  rw [hr] at h1
  unfold Ieee.Format.read at h1
  dsimp only at h1
  rw [hw, Nat.div_eq_of_lt (by omega)] at h1
  split at h1
  ·simp only [Ieee.Datum.number.injEq] at h1; rw [← h1.1]; rfl
  ·split at h1
   ·simp only [Ieee.Datum.number.injEq] at h1; rw [← h1.1]; rfl
   ·split at h1 <;> cases h1
 subst hs
 exact ⟨m', p', h1, h2⟩
end Fk
namespace Fk
open Go
set_option linter.unusedVariables false
end Fk
namespace Fk
open Go
set_option linter.unusedVariables false
theorem NB_root {x : Nat} (h : NB .f64 x 129) : ∃ r, fsq (some x) = some r ∧ NB .f64 r 68 := by
 obtain ⟨m, i, h1, h2⟩ := h
 cases hr : (Ieee.Datum.number QQ m i).root (FloatKind.f64.format.fractionBits + 2) with
 | none =>
  simp only [Ieee.Datum.root] at hr
  split at hr
  ·cases hr
  ·simp at hr
 | some y =>
  obtain ⟨s', m', i', hy, hb⟩ := root_small _ _ y QQ m i rfl h2 hr
  have hs : s' = QQ := by
   subst hy
   simp only [Ieee.Datum.root] at hr
   split at hr
   ·simp only [Option.some.injEq, Ieee.Datum.number.injEq] at hr; exact hr.1.symm
   ·simp at hr; first | exact hr.1.symm | exact hr.1
  subst hs
  refine ⟨FloatKind.f64.format.write y, ?_, ?_⟩
  ·show (FloatKind.f64.format.sqrt x) = _
   unfold Ieee.Format.sqrt
   have : FloatKind.f64.format.read x = .number QQ m i := h1
   rw [this, hr]; rfl
  ·rw [hy]
   exact NB_write .f64 m' i' 67 hb (by decide) (by decide)
end Fk
namespace Fk
open Go
set_option linter.unusedVariables false
def Qr (m : Nat) (p : Int) (n : Nat) (e : Int) : Prop := m * 2 ^ (p - e).toNat ≤ n * 2 ^ (e - p).toNat
instance (m : Nat) (p : Int) (n : Nat) (e : Int) : Decidable (Qr m p n e) := inferInstanceAs (Decidable (_ ≤ _))
theorem Qr_iff {m n : Nat} {p e c : Int} (hp : c ≤ p) (he : c ≤ e) : Qr m p n e ↔ m * 2 ^ (p - c).toNat ≤ n * 2 ^ (e - c).toNat := by
 unfold Qr
 by_cases h : p ≤ e
 ·have e1 : (p - e).toNat = 0 := by omega
  have e2 : (e - c).toNat = (e - p).toNat + (p - c).toNat := by omega
  rw [e1, e2, Nat.pow_zero, Nat.mul_one, Nat.pow_add, ← Nat.mul_assoc]
  exact ⟨fun h => Nat.mul_le_mul_right _ h, fun h => Nat.le_of_mul_le_mul_right h (Nat.two_pow_pos _)⟩
 ·have e1 : (e - p).toNat = 0 := by omega
  have e2 : (p - c).toNat = (p - e).toNat + (e - c).toNat := by omega
  rw [e1, e2, Nat.pow_zero, Nat.mul_one, Nat.pow_add, ← Nat.mul_assoc]
  exact ⟨fun h => Nat.mul_le_mul_right _ h, fun h => Nat.le_of_mul_le_mul_right h (Nat.two_pow_pos _)⟩
theorem Qr.zero {p e : Int} {n : Nat} : Qr 0 p n e := by unfold Qr; rw [Nat.zero_mul]; exact Nat.zero_le _
theorem Qr.trans {m n k : Nat} {p e q : Int} (h : Qr m p n e) (h' : Qr n e k q) : Qr m p k q := by
 have c1 : min p (min e q) ≤ p := by omega
 have c2 : min p (min e q) ≤ e := by omega
 have c3 : min p (min e q) ≤ q := by omega
 rw [Qr_iff c1 c2] at h
 rw [Qr_iff c2 c3] at h'
 rw [Qr_iff c1 c3]
 exact Nat.le_trans h h'
theorem cut_le (s : Bool) (m d M : Nat) (h : m ≤ M * 2 ^ d) : Ieee.Toward.even.cut s m d ≤ M := by
 unfold Ieee.Toward.cut
 dsimp only
 rw [Nat.shiftLeft_eq, Nat.one_mul]
 by_cases hd : d ≤ m.log2 + 2
 ·rw [Nat.min_eq_left hd]
  have hpos : 0 < 2 ^ d := Nat.two_pow_pos _
  have h1 : m / 2 ^ d ≤ M := by
   have := Nat.div_le_div_right (c := 2 ^ d) h
   rwa [Nat.mul_div_cancel _ hpos] at this
  by_cases hq : m / 2 ^ d = M
  ·have h2 := Nat.div_add_mod m (2 ^ d)
   rw [hq, Nat.mul_comm] at h2
   have h3 : m % 2 ^ d = 0 := by omega
   rw [h3, hq]
   have e1 : decide (2 ^ d < 2 * 0) = QQ := decide_eq_false (by omega)
   have e2 : (2 ^ d == 2 * 0) = QQ := by rw [beq_eq_false_iff_ne]; omega
   rw [e1, e2]
   exact QX _
  ·have : ∀ b : Bool, b.toNat ≤ 1 := by decide
   have := this (decide (2 ^ d < 2 * (m % 2 ^ d)) || 2 ^ d == 2 * (m % 2 ^ d) && m / 2 ^ d % 2 == 1)
   omega
 ·rw [Nat.min_eq_right (by omega)]
  have hlt : m < 2 ^ (m.log2 + 1) := Nat.lt_log2_self
  have e4 : 2 ^ (m.log2 + 2) = 2 * 2 ^ (m.log2 + 1) := by rw [Nat.pow_succ, Nat.mul_comm]
  have hlt2 : m < 2 ^ (m.log2 + 2) := by omega
  rw [Nat.div_eq_of_lt hlt2, Nat.mod_eq_of_lt hlt2]
  have e1 : decide (2 ^ (m.log2 + 2) < 2 * m) = QQ := decide_eq_false (by omega)
  have e2 : (2 ^ (m.log2 + 2) == 2 * m) = QQ := by rw [beq_eq_false_iff_ne]; omega
  rw [e1, e2]
  exact Nat.zero_le _
def QLE (k : FloatKind) (x : Nat) (n : Nat) (e : Int) : Prop := ∃ s m p, k.decode x = .number s m p ∧ Qr m p n e
def Okf (k : FloatKind) (e : Int) : Prop := k.format.leastPlace ≤ e ∧ (e - k.format.leastPlace).toNat * k.format.binade + 2 * k.format.binade < k.format.infRung ∧ k.format.infRung ≤ k.format.signWeight
theorem ok64 {e : Int} (h1 : -1000 ≤ e) (h2 : e ≤ 200) : Okf .f64 e := by
 have e1 : FloatKind.f64.format.binade = 4503599627370496 := by decide
 have e2 : FloatKind.f64.format.infRung = 9218868437227405312 := by decide
 have e3 : FloatKind.f64.format.leastPlace = -1074 := by decide
 have e5 : FloatKind.f64.format.signWeight = 9223372036854775808 := by decide
 unfold Okf
 rw [e1, e2, e3, e5]
 omega
theorem QLE_write (k : FloatKind) (s : Bool) (m : Nat) (p : Int) (n : Nat) (e : Int) (h : Qr m p n e) (hn : n < 2 * k.format.binade) (ho : Okf k e) :
  QLE k (k.format.write (.number s m p)) n e := by
 obtain ⟨he, hi, hsw⟩ := ho
 show ∃ s' m' p', k.format.read (k.format.nearest s m p) = .number s' m' p' ∧ Qr m' p' n e
 generalize k.format = f at *
 have hkp := fun last h0 h1 => kept_le f s m p last h0 h1
 have hkg := fun last h0 h1 => kept_ge f s m p last h0 h1
 have hb : n < 2 ^ (f.fractionBits + 1) := by rw [Nat.pow_succ, Nat.mul_comm]; exact hn
 have hbp : 0 < f.binade := Nat.two_pow_pos _
 have hinf : 2 * f.binade < f.infRung := by omega
 unfold Ieee.Format.nearest
 dsimp only
 by_cases h0 : m = 0
 ·rw [if_pos h0]
  refine ⟨(f.word s 0) / f.signWeight % 2 == 1, 0, f.leastPlace, ?_, Qr.zero⟩
  unfold Ieee.Format.read
  dsimp only
  rw [word_mod _ _ _ (by omega), if_pos hbp]
 ·rw [if_neg h0]
  generalize hl : max (p + (m.log2 : Int) - (f.fractionBits : Int)) f.leastPlace = last
  have hm1 : 2 ^ m.log2 ≤ m := Nat.log2_self_le h0
  have hle : last ≤ e := by
   by_cases hx : p + (m.log2 : Int) - (f.fractionBits : Int) ≤ e
   ·omega
   ·exfalso
    have hq := (Qr_iff (m := m) (n := n) (c := min p e) (by omega) (by omega)).1 h
    have h3 : 2 ^ (m.log2 + (p - min p e).toNat) ≤ m * 2 ^ (p - min p e).toNat := by rw [Nat.pow_add]; exact Nat.mul_le_mul_right _ hm1
    have h4 : n * 2 ^ (e - min p e).toNat < 2 ^ (f.fractionBits + 1 + (e - min p e).toNat) := by rw [Nat.pow_add]; exact Nat.mul_lt_mul_of_pos_right hb (Nat.two_pow_pos _)
    have h5 : 2 ^ (m.log2 + (p - min p e).toNat) < 2 ^ (f.fractionBits + 1 + (e - min p e).toNat) := by omega
    have h6 := (Nat.pow_lt_pow_iff_right (by decide)).1 h5
    omega
  have hlast : f.leastPlace ≤ last := by omega
  have hk := hkp last h0 (by omega)
  have hg : f.binade ≤ Ieee.Toward.even.cut s (m <<< (p - last).toNat) (last - p).toNat ∨ last = f.leastPlace := by
   by_cases hl2 : last = f.leastPlace
   ·exact .inr hl2
   ·exact .inl (hkg last h0 (by omega))
  have hM : Ieee.Toward.even.cut s (m <<< (p - last).toNat) (last - p).toNat ≤ n * 2 ^ (e - last).toNat := by
   refine cut_le _ _ _ _ ?_
   rw [Nat.shiftLeft_eq]
   have hq := (Qr_iff (m := m) (n := n) (c := min p last) (by omega) (by omega)).1 h
   by_cases hpl : p ≤ last
   ·rw [show (p - last).toNat = 0 by omega, Nat.pow_zero, Nat.mul_one, Nat.mul_assoc, ← Nat.pow_add]
    rw [show (p - min p last).toNat = 0 by omega, Nat.pow_zero, Nat.mul_one] at hq
    rw [show (e - last).toNat + (last - p).toNat = (e - min p last).toNat by omega]
    exact hq
   ·rw [show (last - p).toNat = 0 by omega, Nat.pow_zero, Nat.mul_one]
    rw [show (p - min p last).toNat = (p - last).toNat by omega, show (e - min p last).toNat = (e - last).toNat by omega] at hq
    exact hq
  clear hkp hkg
  generalize Ieee.Toward.even.cut s (m <<< (p - last).toNat) (last - p).toNat = kept at hk hM hg
  have hQ : Qr kept last n e := by
   rw [Qr_iff (c := last) (by omega) hle]
   rw [show (last - last).toNat = 0 by omega, Nat.pow_zero, Nat.mul_one]
   exact hM
  obtain ⟨A, hA⟩ : ∃ A : Nat, (A : Int) = last - f.leastPlace := ⟨(last - f.leastPlace).toNat, by omega⟩
  rw [show (last - f.leastPlace).toNat = A by omega]
  have hAe : A * f.binade ≤ (e - f.leastPlace).toNat * f.binade := Nat.mul_le_mul_right _ (by omega)
  have hr : A * f.binade + kept < f.infRung := by omega
  rw [Nat.min_eq_left (by omega)]
  unfold Ieee.Format.read
  dsimp only
  rw [word_mod _ _ _ (by omega)]
  by_cases h1 : A * f.binade + kept < f.binade
  ·rw [if_pos h1]
   refine ⟨_, _, _, rfl, ?_⟩
   have a1 : A = 0 := by
    rcases Nat.eq_zero_or_pos A with h | h
    ·exact h
    ·have := Nat.mul_le_mul_right f.binade h
     omega
   have a2 : last = f.leastPlace := by omega
   rw [a1, Nat.zero_mul, Nat.zero_add, ← a2]
   exact hQ
  ·rw [if_neg h1, if_pos hr]
   refine ⟨_, _, _, rfl, ?_⟩
   have hdiv : ∀ c, (A * f.binade + c) / f.binade = A + c / f.binade := fun c => by rw [Nat.add_comm, Nat.add_mul_div_right _ _ hbp, Nat.add_comm]
   have hmod : ∀ c, (A * f.binade + c) % f.binade = c % f.binade := fun c => by rw [Nat.add_comm, Nat.add_mul_mod_self_right]
   rw [hdiv, hmod]
   by_cases hb2 : kept = 2 * f.binade
   ·have a1 : kept / f.binade = 2 := by rw [hb2]; exact Nat.mul_div_cancel _ hbp
    have a2 : kept % f.binade = 0 := by rw [hb2]; exact Nat.mul_mod_left _ _
    rw [a1, a2]
    refine Qr.trans ?_ hQ
    rw [hb2, Qr_iff (c := last) (by omega) (by omega)]
    rw [show (f.leastPlace + ((A + 2 - 1 : Nat) : Int) - last).toNat = 1 by omega, show (last - last).toNat = 0 by omega]
    omega
   ·by_cases hs : kept < f.binade
    ·exfalso
     rcases hg with hg | hg
     ·omega
     ·have : A = 0 := by omega
      subst this
      omega
    ·have a1 : kept / f.binade = 1 := by
      rw [Nat.div_eq_iff hbp]
      omega
     have a2 : kept % f.binade = kept - f.binade := by
      have := Nat.div_add_mod kept f.binade
      rw [a1, Nat.mul_one] at this
      omega
     rw [a1, a2]
     rw [show f.binade + (kept - f.binade) = kept by omega, show f.leastPlace + ((A + 1 - 1 : Nat) : Int) = last by omega]
     exact hQ
end Fk
namespace Fk
open Go
set_option linter.unusedVariables false
theorem QLE_quotient {k : FloatKind} (dg : Nat) {x y : Ieee.Datum} {s t : Bool} {m n N : Nat} {p q e e' : Int} (hx : x = .number s m p) (hy : y = .number t n q) (hm : Qr m p N e) (hn0 : n ≠ 0) (hn : e' ≤ q + n.log2) (hN : N < 2 * k.format.binade) (hdg : k.format.fractionBits + 2 ≤ dg) (ho : Okf k (e - e')) : ∃ d, x.quotient dg y = some d ∧ QLE k (k.format.write d) N (e - e') := by
 subst hx hy
 simp only [Ieee.Datum.quotient, if_neg hn0]
 refine ⟨_, rfl, QLE_write _ _ _ _ _ _ ?_ hN ho⟩
 generalize hmore : dg + n.log2 - m.log2 = more
 rw [Nat.shiftLeft_eq]
 by_cases m0 : m = 0
 ·subst m0
  rw [Nat.zero_mul, Nat.zero_mod, Nat.zero_div]
  exact Qr.zero
 have b1 : 2 ^ m.log2 ≤ m := Nat.log2_self_le m0
 have b2 : 2 ^ n.log2 ≤ n := Nat.log2_self_le hn0
 have b3 : n < 2 ^ (n.log2 + 1) := Nat.lt_log2_self
 have hD : 2 ^ (dg + n.log2) ≤ m * 2 ^ more := by
  refine Nat.le_trans ?_ (Nat.mul_le_mul_right _ b1)
  rw [← Nat.pow_add]
  exact Nat.pow_le_pow_right (by decide) (by omega)
 have hq := (Qr_iff (m := m) (n := N) (c := min p e) (by omega) (by omega)).1 hm
 have hb : N < 2 ^ (k.format.fractionBits + 1) := by rw [Nat.pow_succ, Nat.mul_comm]; exact hN
 have hu : p - q - more ≤ e - e' := by
  have h3 : 2 ^ (dg + n.log2) * 2 ^ (p - min p e).toNat ≤ m * 2 ^ (p - min p e).toNat * 2 ^ more := by
   rw [Nat.mul_assoc, Nat.mul_comm (2 ^ (p - min p e).toNat), ← Nat.mul_assoc]
   exact Nat.mul_le_mul_right _ hD
  have h4 : m * 2 ^ (p - min p e).toNat * 2 ^ more < 2 ^ (k.format.fractionBits + 1) * 2 ^ (e - min p e).toNat * 2 ^ more :=
   Nat.mul_lt_mul_of_pos_right (Nat.lt_of_le_of_lt hq (Nat.mul_lt_mul_of_pos_right hb (Nat.two_pow_pos _))) (Nat.two_pow_pos _)
  rw [← Nat.pow_add] at h3
  rw [← Nat.pow_add, ← Nat.pow_add] at h4
  have h6 := (Nat.pow_lt_pow_iff_right (by decide)).1 (Nat.lt_of_le_of_lt h3 h4)
  omega
 obtain ⟨K, hK⟩ : ∃ K : Nat, (K : Int) = e - e' - (p - q - more) := ⟨(e - e' - (p - q - more)).toNat, by omega⟩
 have hDM : m * 2 ^ more ≤ N * 2 ^ K * n := by
  have h3 : m * 2 ^ more * 2 ^ (p - min p e).toNat ≤ N * 2 ^ K * n * 2 ^ (p - min p e).toNat := by
   have h4 : m * 2 ^ (p - min p e).toNat * 2 ^ more ≤ N * 2 ^ (e - min p e).toNat * 2 ^ more := Nat.mul_le_mul_right _ hq
   rw [Nat.mul_assoc, Nat.mul_comm (2 ^ more), ← Nat.mul_assoc]
   refine Nat.le_trans h4 ?_
   rw [Nat.mul_assoc, ← Nat.pow_add, Nat.mul_assoc, Nat.mul_assoc]
   refine Nat.mul_le_mul_left _ ?_
   refine Nat.le_trans ?_ (Nat.mul_le_mul_left _ (Nat.mul_le_mul_right _ b2))
   rw [← Nat.pow_add, ← Nat.pow_add]
   exact Nat.pow_le_pow_right (by decide) (by omega)
  exact Nat.le_of_mul_le_mul_right h3 (Nat.two_pow_pos _)
 have hF : m * 2 ^ more / n ≤ N * 2 ^ K := by
  have := Nat.div_le_div_right (c := n) hDM
  rwa [Nat.mul_div_cancel _ (Nat.pos_of_ne_zero hn0)] at this
 have hst : 2 * (m * 2 ^ more / n) + (m * 2 ^ more % n != 0).toNat ≤ 2 * (N * 2 ^ K) := by
  by_cases hx : m * 2 ^ more / n = N * 2 ^ K
  ·have h5 := Nat.div_mul_le_self (m * 2 ^ more) n
   rw [hx] at h5
   have h6 : m * 2 ^ more = N * 2 ^ K * n := Nat.le_antisymm hDM h5
   rw [hx, h6, Nat.mul_mod_left]
   exact QX _
  ·have : ∀ b : Bool, b.toNat ≤ 1 := by decide
   have := this (m * 2 ^ more % n != 0)
   omega
 rw [Qr_iff (c := p - q - more - 1) (by omega) (by omega)]
 rw [show (p - q - (more : Int) - 1 - (p - q - more - 1)).toNat = 0 by omega, Nat.pow_zero, Nat.mul_one, show (e - e' - (p - q - (more : Int) - 1)).toNat = K + 1 by omega, Nat.pow_succ]
 refine Nat.le_trans hst ?_
 rw [Nat.mul_comm 2, Nat.mul_assoc]
 exact QX _
def QLC (k : FloatKind) (c : Option Nat) (n : Nat) (e : Int) : Prop := ∃ x, c = some x ∧ QLE k x n e
def LBk (k : FloatKind) (c : Option Nat) (e : Int) : Prop := ∃ x s m p, c = some x ∧ k.decode x = .number s m p ∧ m ≠ 0 ∧ e ≤ p + m.log2
theorem QLC_quo {k : FloatKind} {c d : Option Nat} {n : Nat} {e e' : Int} (hc : QLC k c n e) (hd : LBk k d e') (hN : n < 2 * k.format.binade) (ho : Okf k (e - e')) : QLC k (fop .quo k c d) n (e - e') := by
 obtain ⟨x, rfl, s, m, p, a1, a2⟩ := hc
 obtain ⟨y, t, n, q, rfl, b1, b0, b2⟩ := hd
 obtain ⟨r, hr, hm⟩ := QLE_quotient (k.format.fractionBits + 2) a1 b1 a2 b0 b2 hN (QX _) ho
 refine ⟨_, ?_, hm⟩
 show ((k.decode x).quotient (k.format.fractionBits + 2) (k.decode y)).map k.format.write = _
 rw [hr]; rfl
theorem QLC_nar {c : Option Nat} {n : Nat} {e : Int} (h : QLC .f64 c n e) (hn : n < 16777216) (ho : Okf .f32 e) : QLC .f32 (c.map nar) n e := by
 obtain ⟨x, rfl, s, m, p, h2, h3⟩ := h
 refine ⟨_, rfl, ?_⟩
 unfold nar
 rw [h2]
 exact QLE_write .f32 s m p n e h3 (by rw [show FloatKind.f32.format.binade = 8388608 by decide]; omega) ho
theorem QLE_wid {x n : Nat} {e : Int} (h : QLE .f32 x n e) (hn : n < 9007199254740992) (h1 : -1000 ≤ e) (h2 : e ≤ 200) : QLE .f64 (wid x) n e := by
 obtain ⟨s, m, p, h3, h4⟩ := h
 unfold wid
 rw [h3]
 exact QLE_write .f64 s m p n e h4 (by rw [show FloatKind.f64.format.binade = 4503599627370496 by decide]; omega) (ok64 h1 h2)
end Fk
namespace Fk
open Go
set_option linter.unusedVariables false
theorem cut_ge (s : Bool) (m d M : Nat) (h : M * 2 ^ d ≤ m) : M ≤ Ieee.Toward.even.cut s m d := by
 unfold Ieee.Toward.cut
 dsimp only
 rw [Nat.shiftLeft_eq, Nat.one_mul]
 refine Nat.le_trans ?_ (Nat.le_add_right _ _)
 rw [Nat.le_div_iff_mul_le (Nat.two_pow_pos _)]
 by_cases hd : d ≤ m.log2 + 2
 ·rw [Nat.min_eq_left hd]; exact h
 ·rw [Nat.min_eq_right (by omega)]
  have h0 : M = 0 := by
   rcases Nat.eq_zero_or_pos M with h0 | h0
   ·exact h0
   ·exfalso
    have h1 : 2 ^ d ≤ M * 2 ^ d := by have := Nat.mul_le_mul_right (2 ^ d) h0; omega
    have h2 : m < 2 ^ (m.log2 + 1) := Nat.lt_log2_self
    have h3 : 2 ^ (m.log2 + 1) ≤ 2 ^ d := Nat.pow_le_pow_right (by decide) (by omega)
    omega
  rw [h0, Nat.zero_mul]
  exact Nat.zero_le _
def QGE (k : FloatKind) (x : Nat) (n : Nat) (e : Int) : Prop := (∃ m p, k.decode x = .number QQ m p ∧ Qr n e m p) ∨ k.decode x = .infinity QQ
theorem QGE_write (k : FloatKind) (m : Nat) (p : Int) (n : Nat) (e : Int) (h : Qr n e m p) (hn : n < 2 * k.format.binade) (he : k.format.leastPlace ≤ e) (hsw : k.format.infRung < k.format.signWeight) (hbi : k.format.binade ≤ k.format.infRung) :
  QGE k (k.format.write (.number QQ m p)) n e := by
 show (∃ m' p', k.format.read (k.format.nearest QQ m p) = .number QQ m' p' ∧ Qr n e m' p') ∨ k.format.read (k.format.nearest QQ m p) = .infinity QQ
 generalize k.format = f at *
 have hkp := fun last h0 h1 => kept_le f QQ m p last h0 h1
 have hkg := fun last h0 h1 => kept_ge f QQ m p last h0 h1
 have hb : n < 2 ^ (f.fractionBits + 1) := by rw [Nat.pow_succ, Nat.mul_comm]; exact hn
 have hbp : 0 < f.binade := Nat.two_pow_pos _
 have sgn : ∀ r, r < f.signWeight → (f.word QQ r / f.signWeight % 2 == 1) = QQ := fun r hr => by
  show (r / f.signWeight % 2 == 1) = QQ
  rw [Nat.div_eq_of_lt hr]; rfl
 unfold Ieee.Format.nearest
 dsimp only
 by_cases h0 : m = 0
 ·rw [if_pos h0]
  left
  refine ⟨0, f.leastPlace, ?_, ?_⟩
  ·unfold Ieee.Format.read
   dsimp only
   rw [word_mod _ _ _ (by omega), if_pos hbp, sgn 0 (by omega)]
  ·subst h0
   unfold Qr at h ⊢
   rw [Nat.zero_mul] at h ⊢
   have : n = 0 := by
    rcases Nat.eq_zero_or_pos n with h1 | h1
    ·exact h1
    ·have := Nat.mul_pos h1 (Nat.two_pow_pos (e - p).toNat); omega
   rw [this, Nat.zero_mul]; exact QX _
 ·rw [if_neg h0]
  generalize hl : max (p + (m.log2 : Int) - (f.fractionBits : Int)) f.leastPlace = last
  have hlast : f.leastPlace ≤ last := by omega
  have hk := hkp last h0 (by omega)
  have hg : f.binade ≤ Ieee.Toward.even.cut QQ (m <<< (p - last).toNat) (last - p).toNat ∨ last = f.leastPlace := by
   by_cases hl2 : last = f.leastPlace
   ·exact .inr hl2
   ·exact .inl (hkg last h0 (by omega))
  have hM : last ≤ e → n * 2 ^ (e - last).toNat ≤ Ieee.Toward.even.cut QQ (m <<< (p - last).toNat) (last - p).toNat := fun hle => by
   refine cut_ge _ _ _ _ ?_
   rw [Nat.shiftLeft_eq]
   have hq := (Qr_iff (m := n) (n := m) (p := e) (e := p) (c := min p last) (by omega) (by omega)).1 h
   by_cases hpl : p ≤ last
   ·rw [show (p - last).toNat = 0 by omega, Nat.pow_zero, Nat.mul_one, Nat.mul_assoc, ← Nat.pow_add]
    rw [show (p - min p last).toNat = 0 by omega, Nat.pow_zero, Nat.mul_one] at hq
    rw [show (e - last).toNat + (last - p).toNat = (e - min p last).toNat by omega]
    exact hq
   ·rw [show (last - p).toNat = 0 by omega, Nat.pow_zero, Nat.mul_one]
    rw [show (p - min p last).toNat = (p - last).toNat by omega, show (e - min p last).toNat = (e - last).toNat by omega] at hq
    exact hq
  clear hkp hkg
  generalize Ieee.Toward.even.cut QQ (m <<< (p - last).toNat) (last - p).toNat = kept at hk hM hg
  have hQ : Qr n e kept last := by
   by_cases hle : last ≤ e
   ·rw [Qr_iff (c := last) hle (by omega), show (last - last).toNat = 0 by omega, Nat.pow_zero, Nat.mul_one]
    exact hM hle
   ·rw [Qr_iff (c := e) (by omega) (by omega), show (e - e).toNat = 0 by omega, Nat.pow_zero, Nat.mul_one]
    have hbk : f.binade ≤ kept := by
     rcases hg with hg | hg
     ·exact hg
     ·omega
    have h2 : 2 ^ 1 ≤ 2 ^ (last - e).toNat := Nat.pow_le_pow_right (by decide) (by omega)
    have h3 := Nat.mul_le_mul hbk h2
    omega
  obtain ⟨A, hA⟩ : ∃ A : Nat, (A : Int) = last - f.leastPlace := ⟨(last - f.leastPlace).toNat, by omega⟩
  rw [show (last - f.leastPlace).toNat = A by omega]
  by_cases hr : A * f.binade + kept < f.infRung
  ·left
   rw [Nat.min_eq_left (by omega)]
   unfold Ieee.Format.read
   dsimp only
   rw [word_mod _ _ _ (by omega), sgn _ (by omega)]
   by_cases h1 : A * f.binade + kept < f.binade
   ·rw [if_pos h1]
    refine ⟨_, _, rfl, ?_⟩
    have a1 : A = 0 := by
     rcases Nat.eq_zero_or_pos A with h | h
     ·exact h
     ·have := Nat.mul_le_mul_right f.binade h
      omega
    have a2 : last = f.leastPlace := by omega
    rw [a1, Nat.zero_mul, Nat.zero_add, ← a2]
    exact hQ
   ·rw [if_neg h1, if_pos hr]
    refine ⟨_, _, rfl, ?_⟩
    have hdiv : ∀ c, (A * f.binade + c) / f.binade = A + c / f.binade := fun c => by rw [Nat.add_comm, Nat.add_mul_div_right _ _ hbp, Nat.add_comm]
    have hmod : ∀ c, (A * f.binade + c) % f.binade = c % f.binade := fun c => by rw [Nat.add_comm, Nat.add_mul_mod_self_right]
    rw [hdiv, hmod]
    by_cases hb2 : kept = 2 * f.binade
    ·have a1 : kept / f.binade = 2 := by rw [hb2]; exact Nat.mul_div_cancel _ hbp
     have a2 : kept % f.binade = 0 := by rw [hb2]; exact Nat.mul_mod_left _ _
     rw [a1, a2]
     refine hQ.trans ?_
     rw [hb2, Qr_iff (c := last) (by omega) (by omega)]
     rw [show (f.leastPlace + ((A + 2 - 1 : Nat) : Int) - last).toNat = 1 by omega, show (last - last).toNat = 0 by omega]
     omega
    ·by_cases hs : kept < f.binade
     ·exfalso
      rcases hg with hg | hg
      ·omega
      ·have : A = 0 := by omega
       subst this
       omega
     ·have a1 : kept / f.binade = 1 := by
       rw [Nat.div_eq_iff hbp]
       omega
      have a2 : kept % f.binade = kept - f.binade := by
       have := Nat.div_add_mod kept f.binade
       rw [a1, Nat.mul_one] at this
       omega
      rw [a1, a2]
      rw [show f.binade + (kept - f.binade) = kept by omega, show f.leastPlace + ((A + 1 - 1 : Nat) : Int) = last by omega]
      exact hQ
  ·right
   rw [Nat.min_eq_right (by omega)]
   unfold Ieee.Format.read
   dsimp only
   rw [word_mod _ _ _ (by omega), sgn _ (by omega), if_neg (by omega), if_neg (by omega), if_pos rfl]
end Fk
namespace Fk
open Go
set_option linter.unusedVariables false
theorem bin64 : FloatKind.f64.format.binade = 4503599627370496 := by decide
theorem bin32 : FloatKind.f32.format.binade = 8388608 := by decide
end Fk
namespace Fk
open Go
set_option linter.unusedVariables false
end Fk
namespace Fk
open Go
set_option linter.unusedVariables false
theorem ok32' {e : Int} (h1 : -149 ≤ e) (h2 : e ≤ 103) : Okf .f32 e := by
 have e1 : FloatKind.f32.format.binade = 8388608 := by decide
 have e2 : FloatKind.f32.format.infRung = 2139095040 := by decide
 have e3 : FloatKind.f32.format.leastPlace = -149 := by decide
 have e5 : FloatKind.f32.format.signWeight = 2147483648 := by decide
 unfold Okf
 rw [e1, e2, e3, e5]
 omega
end Fk
namespace Fk
open Go
set_option linter.unusedVariables false
def NGC (k : FloatKind) (c : Option Nat) (n : Nat) (e : Int) : Prop := ∃ x m p, c = some x ∧ k.decode x = .number QQ m p ∧ Qr n e m p
def Okl (k : FloatKind) : Prop := k.format.infRung < k.format.signWeight ∧ k.format.binade ≤ k.format.infRung
theorem okl64 : Okl .f64 := by unfold Okl; decide
theorem okl32 : Okl .f32 := by unfold Okl; decide
theorem ngc_of {k : FloatKind} {m : Nat} {p : Int} {n N : Nat} {e E : Int} {c : Option Nat} (hc : c = some (k.format.write (.number QQ m p))) (hq : QLC k c N E) (h : Qr n e m p) (hn : n < 2 * k.format.binade) (he : k.format.leastPlace ≤ e) (ho : Okl k) : NGC k c n e := by
 obtain ⟨x, h1, s, a, b, h2, _⟩ := hq
 rcases QGE_write k m p n e h hn he ho.1 ho.2 with ⟨m', p', k1, k2⟩ | k1
 ·exact ⟨_, m', p', hc, k1, k2⟩
 ·exfalso
  rw [hc] at h1
  cases h1
  rw [k1] at h2
  cases h2
end Fk
namespace Fk
open Go
set_option linter.unusedVariables false
end Fk
namespace Fk
open Go
set_option linter.unusedVariables false
theorem NGC_nar {c : Option Nat} {n N : Nat} {e E : Int} (h : NGC .f64 c n e) (hq : QLC .f32 (c.map nar) N E) (hn : n < 16777216) (he : -149 ≤ e) : NGC .f32 (c.map nar) n e := by
 obtain ⟨x, m, p, rfl, h2, h3⟩ := h
 refine ngc_of (m := m) (p := p) ?_ hq h3 (by rw [bin32]; omega) he okl32
 show some (nar x) = _
 unfold nar
 rw [h2]; rfl
theorem NGC_wid {x n N : Nat} {e E : Int} (h : NGC .f32 (some x) n e) (hq : QLE .f64 (wid x) N E) (hn : n < 9007199254740992) (he : -1000 ≤ e) : NGC .f64 (some (wid x)) n e := by
 obtain ⟨y, m, p, h1, h2, h3⟩ := h
 cases h1
 refine ngc_of (m := m) (p := p) ?_ ⟨_, rfl, hq⟩ h3 (by rw [bin64]; omega) (by rw [show FloatKind.f64.format.leastPlace = -1074 by decide]; omega) okl64
 unfold wid
 rw [h2]; rfl
end Fk
open Go Fk
set_option linter.unusedVariables false
theorem rootFrom_ge (n : Nat) : ∀ (todo root : Nat), root ≤ Ieee.Datum.rootFrom n todo root
 | 0, root => by simp [Ieee.Datum.rootFrom]
 | todo + 1, root => by
  unfold Ieee.Datum.rootFrom
  dsimp only
  split
  ·exact Nat.le_trans (Nat.le_add_right _ _) (rootFrom_ge n todo _)
  ·exact rootFrom_ge n todo root
theorem rootFrom_top (n t : Nat) (h : 2 ^ t * 2 ^ t ≤ n) : 2 ^ t ≤ Ieee.Datum.rootFrom n (t + 1) 0 := by
 unfold Ieee.Datum.rootFrom
 dsimp only
 have hs : (0 + 1 <<< t) = 2 ^ t := by rw [Nat.shiftLeft_eq, Nat.one_mul, Nat.zero_add]
 rw [hs, if_pos h]
 exact rootFrom_ge n t _
theorem root_low (d m : Nat) (i : Int) (hm : m ≠ 0) (hb : -149 ≤ i + m.log2) : ∃ m' i', (Ieee.Datum.number QQ m i).root d = some (.number QQ m' i') ∧ m' ≠ 0 ∧ -75 ≤ i' + m'.log2 := by
 simp only [Ieee.Datum.root, if_neg hm, Bool.false_eq_true, if_false]
 refine ⟨_, _, rfl, ?_⟩
 generalize hmore : (2 * d - m.log2) + ((i - ((2 * d - m.log2 : Nat) : Int)) % 2).toNat = more
 have hev : (i - (more : Int)) % 2 = 0 := by omega
 generalize hn : m <<< more = n
 have hn1 : 2 ^ (m.log2 + more) ≤ n := by
  rw [← hn, Nat.shiftLeft_eq, Nat.pow_add]
  exact Nat.mul_le_mul_right _ (Nat.log2_self_le hm)
 have hn0 : n ≠ 0 := by have := Nat.two_pow_pos (m.log2 + more); omega
 have hl : m.log2 + more ≤ n.log2 := (Nat.le_log2 hn0).2 hn1
 have hsq : 2 ^ (n.log2 / 2) * 2 ^ (n.log2 / 2) ≤ n := by
  rw [← Nat.pow_add]
  exact Nat.le_trans (Nat.pow_le_pow_right (by decide) (by omega)) (Nat.log2_self_le hn0)
 have hw := rootFrom_top n (n.log2 / 2) hsq
 generalize Ieee.Datum.rootFrom n (n.log2 / 2 + 1) 0 = whole at hw ⊢
 generalize (whole * whole != n).toNat = b
 have hp := Nat.two_pow_pos (n.log2 / 2)
 have hz : 2 * whole + b ≠ 0 := by omega
 have hL : n.log2 / 2 + 1 ≤ (2 * whole + b).log2 := (Nat.le_log2 hz).2 (by rw [Nat.pow_succ]; omega)
 exact ⟨hz, by omega⟩
theorem low_qr {m : Nat} {p e : Int} (h : m ≠ 0) (hb : e ≤ p + m.log2) : Qr 1 e m p := by
 have hl := Nat.log2_self_le h
 by_cases hp : p ≤ e
 ·rw [Qr_iff (c := p) hp (by omega), show (p - p).toNat = 0 by omega, Nat.pow_zero, Nat.mul_one, Nat.one_mul]
  exact Nat.le_trans (Nat.pow_le_pow_right (by decide) (by omega)) hl
 ·rw [Qr_iff (c := e) (by omega) (by omega), show (e - e).toNat = 0 by omega, Nat.pow_zero, Nat.mul_one]
  exact Nat.mul_pos (Nat.pos_of_ne_zero h) (Nat.two_pow_pos _)
theorem qr_low {m : Nat} {p e : Int} (h : Qr 1 e m p) : m ≠ 0 ∧ e ≤ p + m.log2 := by
 have h0 : m ≠ 0 := by
  rintro rfl
  unfold Qr at h
  rw [Nat.zero_mul, Nat.one_mul] at h
  have := Nat.two_pow_pos (e - p).toNat
  omega
 refine ⟨h0, ?_⟩
 by_cases hp : p ≤ e
 ·rw [Qr_iff (c := p) hp (by omega), show (p - p).toNat = 0 by omega, Nat.pow_zero, Nat.mul_one, Nat.one_mul] at h
  have := (Nat.le_log2 h0).2 h
  omega
 ·omega
theorem qr_up {m : Nat} {p : Int} {e : Int} (h : Qr m p 1 e) (h0 : m ≠ 0) : p + m.log2 ≤ e := by
 by_cases hp : p ≤ e
 ·rw [Qr_iff (c := p) (by omega) hp, show (p - p).toNat = 0 by omega, Nat.pow_zero, Nat.mul_one, Nat.one_mul] at h
  have : m < 2 ^ ((e - p).toNat + 1) := Nat.lt_of_le_of_lt h (Nat.pow_lt_pow_right (by decide) (by omega))
  have := (Nat.log2_lt h0).2 this
  omega
 ·exfalso
  rw [Qr_iff (c := e) (by omega) (by omega), show (e - e).toNat = 0 by omega, Nat.pow_zero, Nat.mul_one] at h
  have : 2 ^ 1 ≤ 2 ^ (p - e).toNat := Nat.pow_le_pow_right (by decide) (by omega)
  have := Nat.mul_le_mul (Nat.pos_of_ne_zero h0) this
  omega
theorem NB.qlc {x : Nat} {e : Int} (h : NB .f64 x e) : QLC .f64 (some x) 1 e := by
 obtain ⟨m, p, h1, h2⟩ := h
 refine ⟨x, rfl, QQ, m, p, h1, ?_⟩
 by_cases h0 : m = 0
 ·rw [h0]; exact Qr.zero
 ·have hb := h2 h0
  rw [Qr_iff (c := p) (by omega) (by omega), show (p - p).toNat = 0 by omega, Nat.pow_zero, Nat.mul_one, Nat.one_mul]
  have : m < 2 ^ (m.log2 + 1) := Nat.lt_log2_self
  exact Nat.le_of_lt (Nat.lt_of_lt_of_le this (Nat.pow_le_pow_right (by decide) (by omega)))
theorem key32' (x : Nat) : key .f32 x = if x < 2147483648 then (x : Int) else 2147483648 - x := by
 have e2 : FloatKind.f32.format.signWeight = 2147483648 := by decide
 unfold key; rw [e2]; rfl
theorem ord0' {x : Nat} (hx : x < 4294967296) (hn : nan32 x = QQ) : FloatKind.f32.format.order x 0 = some (compare (key .f32 x) 0) := by
 rw [order_key (k := .f32) (show x < 2 ^ FloatKind.f32.format.width from hx) (by decide) hn (by decide)]; rfl
theorem ord0_lt' {x : Nat} (hx : x < 4294967296) (hn : nan32 x = QQ) (h : 2147483648 < x) : FloatKind.f32.format.order x 0 = some .lt := by
 rw [ord0' hx hn, Int.compare_eq_lt.2 (by rw [key32']; split <;> omega)]
theorem sz_lt {v : Nat} (hlt : v < 4294967296) (hs : sizeB v = true) : v < 2139095040 ∧ v ≠ 0 := by
 have h0 : v ≠ 0 := by rintro rfl; exact absurd hs (by decide)
 unfold sizeB at hs
 simp only [Bool.and_eq_true] at hs
 have hf := hs.1
 unfold finB at hf
 have hf2 := of_decide_eq_true hf
 have hn : nan32 v = QQ := by rw [nan32_iff]; exact decide_eq_false (by omega)
 refine ⟨?_, h0⟩
 rcases Nat.lt_or_ge v 2147483648 with h | h
 ·omega
 ·exfalso
  have h2 := hs.2
  by_cases h0 : v = 2147483648
  ·subst h0; exact absurd h2 (by decide)
  ·rw [ord0_lt' hlt hn (by omega)] at h2
   cases h2
theorem word_ngc {x : Nat} (h : x < 2139095040) (h0 : x ≠ 0) : NGC .f32 (some x) 1 (-149) ∧ QLE .f32 x 1 128 := by
 have hs : (x / 2147483648 % 2 == 1) = QQ := by rw [Nat.div_eq_of_lt (by omega)]; rfl
 have hm : x % 2147483648 = x := Nat.mod_eq_of_lt (by omega)
 by_cases h1 : x < 8388608
 ·have hd : FloatKind.f32.decode x = .number QQ x (-149) := by rw [dec32, hm, if_pos h1, hs]
  refine ⟨⟨x, x, -149, rfl, hd, low_qr h0 (by omega)⟩, QQ, x, -149, hd, ?_⟩
  rw [Qr_iff (c := -149) (by omega) (by omega)]
  have : (8388608 : Nat) ≤ 2 ^ ((128 : Int) - -149).toNat := by
   rw [show (8388608 : Nat) = 2 ^ 23 by decide]
   exact Nat.pow_le_pow_right (by decide) (by omega)
  rw [show ((-149 : Int) - -149).toNat = 0 by omega, Nat.pow_zero, Nat.mul_one, Nat.one_mul]
  omega
 ·have hd : FloatKind.f32.decode x = .number QQ (8388608 + x % 8388608) (-149 + (x / 8388608 - 1 : Nat)) := by rw [dec32, hm, if_neg h1, if_pos h, hs]
  have hq : x / 8388608 < 255 := by omega
  have hq1 : 1 ≤ x / 8388608 := by omega
  generalize x / 8388608 = q at *
  have hr : x % 8388608 < 8388608 := Nat.mod_lt _ (by decide)
  generalize x % 8388608 = r at *
  refine ⟨⟨x, _, _, rfl, hd, low_qr (by omega) (by omega)⟩, QQ, _, _, hd, ?_⟩
  rw [Qr_iff (c := -149 + ((q - 1 : Nat) : Int)) (by omega) (by omega), show (-149 + ((q - 1 : Nat) : Int) - (-149 + ((q - 1 : Nat) : Int))).toNat = 0 by omega, Nat.pow_zero, Nat.mul_one, Nat.one_mul]
  have : (16777216 : Nat) ≤ 2 ^ ((128 : Int) - (-149 + ((q - 1 : Nat) : Int))).toNat := by
   rw [show (16777216 : Nat) = 2 ^ 24 by decide]
   exact Nat.pow_le_pow_right (by decide) (by omega)
  omega
theorem qone : QLC .f32 (some 1065353216) 1 0 := ⟨_, rfl, QQ, 8388608, -23, by decide, by decide⟩
theorem share_ok {x : Nat} (hx : x < 4294967296) (hs : sizeB x = true) : ∃ b m p, fop .quo .f32 (some 1065353216) (rootC (some x)) = some b ∧ b < 2139095040 ∧ FloatKind.f32.decode b = .number QQ m p := by
 obtain ⟨h1, h0⟩ := sz_lt hx hs
 obtain ⟨hn, hq⟩ := word_ngc h1 h0
 have hq64 := QLE_wid hq (by decide) (by decide) (by decide)
 obtain ⟨y, m, p, hy, hd, hl⟩ := NGC_wid hn hq64 (by decide) (by decide)
 cases hy
 obtain ⟨m0, hlow⟩ := qr_low hl
 have hnb : NB .f64 (wid x) 129 := ⟨m, p, hd, fun _ => by
  obtain ⟨s, m', p', hd', hu⟩ := hq64
  rw [hd] at hd'
  cases hd'
  have := qr_up hu m0
  omega⟩
 obtain ⟨r, hr, hb⟩ := NB_root hnb
 have hqr : QLC .f64 (fsq (some (wid x))) 1 68 := by rw [hr]; exact NB.qlc hb
 obtain ⟨m', i', hroot, hm', hi'⟩ := root_low (FloatKind.f64.format.fractionBits + 2) m p m0 hlow
 have hsq : fsq (some (wid x)) = some (FloatKind.f64.format.write (.number QQ m' i')) := by
  show FloatKind.f64.format.sqrt (wid x) = _
  unfold Ieee.Format.sqrt
  have : FloatKind.f64.format.read (wid x) = .number QQ m p := hd
  rw [this, hroot]; rfl
 have hng := ngc_of hsq hqr (low_qr hm' hi') (by decide) (by decide) okl64
 have hqn : QLC .f32 (rootC (some x)) 1 68 := QLC_nar hqr (by decide) (ok32' (by decide) (by decide))
 have hnn : NGC .f32 (rootC (some x)) 1 (-75) := NGC_nar hng hqn (by decide) (by decide)
 obtain ⟨z, mz, pz, hz, hdz, hlz⟩ := hnn
 obtain ⟨z0, hlowz⟩ := qr_low hlz
 have hquo : QLC .f32 (fop .quo .f32 (some 1065353216) (rootC (some x))) 1 75 := QLC_quo (e := 0) (e' := -75) qone ⟨z, QQ, mz, pz, hz, hdz, z0, hlowz⟩ (by decide) (ok32' (by decide) (by decide))
 have hpos : ∀ b, fop .quo .f32 (some 1065353216) (rootC (some x)) = some b → b < FloatKind.f32.format.signWeight := by
  intro b hb
  rw [hz] at hb
  have hr' : ((FloatKind.f32.decode 1065353216).quotient (FloatKind.f32.format.fractionBits + 2) (FloatKind.f32.decode z)).map FloatKind.f32.format.write = some b := hb
  have d1 : FloatKind.f32.decode 1065353216 = .number QQ 8388608 (-23) := by decide
  rw [d1, hdz] at hr'
  simp only [Ieee.Datum.quotient, if_neg z0] at hr'
  obtain ⟨d, hd', rfl⟩ := Option.map_eq_some_iff.1 hr'
  cases hd'
  exact write_pos .f32 _ (by rfl) (by rfl)
 obtain ⟨b, hb, s, mb, pb, hdb, _⟩ := hquo
 have hb31 := hpos b hb
 have hbs : b < 2147483648 := hb31
 have hlt : b < 2139095040 := by
  rcases Nat.lt_or_ge b 2139095040 with h | h
  ·exact h
  ·exfalso
   rw [dec32, Nat.mod_eq_of_lt hbs, if_neg (by omega), if_neg (by omega)] at hdb
   split at hdb <;> cases hdb
 refine ⟨b, mb, pb, hb, hlt, ?_⟩
 obtain ⟨m2, p2, h2⟩ := dec32_fin (x := b) (by rw [Nat.mod_eq_of_lt hbs]; exact hlt)
 rw [hdb] at h2
 cases h2
 rw [hdb, Nat.div_eq_of_lt hbs]
 rfl
open Go.RowKit
set_option maxRecDepth 8000
def mkN (f : Nat → C3) (n k : Nat) : List C3 := (List.range n).map fun j => if j < k then f j else z3
theorem mkN_len (f : Nat → C3) (n k : Nat) : (mkN f n k).length = n := by simp [mkN]
theorem mkN_zero (f : Nat → C3) (n : Nat) : mkN f n 0 = List.replicate n z3 := by
 apply List.ext_getElem (by simp [mkN])
 intro i h1 h2
 simp [mkN]
theorem mkN_set {f : Nat → C3} {n k : Nat} (hk : k < n) : (mkN f n k).set k (f k) = mkN f n (k + 1) := by
 apply List.ext_getElem (by simp [mkN])
 intro i h1 h2
 simp only [mkN, List.getElem_set, List.getElem_map, List.getElem_range]
 by_cases hik : k = i
 ·subst hik; simp
 ·rw [if_neg hik]
  by_cases h : i < k
  ·rw [if_pos h, if_pos (by omega)]
  ·rw [if_neg h, if_neg (by omega)]
def nmS (ys : List C3) (n : Nat) : Option Nat := innL ys ys n
def nmB (ys : List C3) (n : Nat) : Bool := sizeC (nmS ys n)
def nmR (ys : List C3) (n : Nat) : Option Nat := fop .quo .f32 (some 1065353216) (rootC (nmS ys n))
def nmF (ys : List C3) (n j : Nat) : C3 := scaleC' (ys.getD j c0) (nmR ys n)
def nmT (ys : List C3) (n : Nat) : List C3 := bif nmB ys n then mkN (nmF ys n) n n else []
theorem one_fv : FV .f32 1065353216 (some 1065353216) := ⟨by decide, by decide⟩
abbrev fInn : Value := .func (.func 135) #[] #[]
abbrev fSca : Value := .func (.func 128) #[] #[]
set_option maxHeartbeats 4000000 in
theorem impl_normed (a : Option Addr) (n cap : Nat) (ys : List C3) (w : World) (h : IsVs w a n cap ys) (hn : n ≤ 1048576) :
  Calls Tryz.prog 138 #[.slice a n cap, fInn, fSca] w fun e w' => (nmB ys n = true → ∃ g, e = .returned (.tuple #[.slice (some ⟨g, 0, none⟩) n n, .bool true]) ∧ St w [] g (nmT ys n) w') ∧ (nmB ys n = QQ → e = .returned (.tuple #[.slice none 0 0, .bool QQ]) ∧ Below w.heap.size w w') := by
 have uv := Tryz.underlying42
 have u := Tryz.underlying27
 have hm : n ≤ 9223372036854775807 := by omega
 have J := QY (impl_innerSum a a n cap cap ys ys w h h)
 have H := QY h
 have HS : Hid (innL ys ys n = nmS ys n) := QY rfl
 have HT : Hid (nmB ys n = true → nmT ys n = mkN (nmF ys n) n n) := QY (fun hb => by unfold nmT; rw [hb]; rfl)
 have HF : Hid (∀ j, nmF ys n j = scaleC' (ys.getD j c0) (nmR ys n)) := QY (fun j => rfl)
 have HR : Hid (∀ q r w9, FV .f32 q (nmS ys n) → FV .f32 r (rootC (nmS ys n)) → FV .f32 (fR .quo .f32 1065353216 r w9) (nmR ys n)) := QY (fun q r w9 h1 h2 => FV_fR one_fv h2)
 have HB : Hid (∀ q, FV .f32 q (nmS ys n) → sizeB q = nmB ys n) := QY (fun q hq => hq.size)
 clear h
 generalize nmF ys n = F at *
 generalize nmR ys n = RR at *
 generalize nmS ys n = SQ at *
 generalize hb : nmB ys n = nb at *
 cases nb
 ·clear HT HF HR
  have JM := QY (fun q w1 (hq : FV .f32 q SQ) => impl_isMeasure q w1 hq.1)
  go_enter Tryz.func138, Tryz.ntmps138
  go_wp2_with fail
  refine J.out.mono ?_
  rintro e w1 ⟨q, rfl, hq, hB1⟩
  rw [HS.out] at hq
  have hsz := HB.out q hq
  have HB1 := QY hB1
  have JQ := QY (JM.out q w1 hq)
  rw [hsz] at JQ
  clear hsz hq hB1 JM
  go_wp2_with fail
  refine JQ.out.mono ?_
  rintro e w2 ⟨rfl, nd, hw⟩
  rw [hw]
  clear hw
  go_wp2
  go_ret2
  refine ⟨fun h => absurd h (by decide), fun _ => ?_⟩
  exact ⟨rfl, below_drewN HB1.out _⟩
 ·have HT' := QY (HT.out (by first | rfl | trivial))
  have JM := QY (fun q w1 (hq : FV .f32 q SQ) => impl_isMeasure q w1 hq.1)
  have hmk := fun W : World => make_vecs W n hn
  clear HT hb
  go_enter Tryz.func138, Tryz.ntmps138
  go_wp2_with fail
  refine J.out.mono ?_
  rintro e w1 ⟨q, rfl, hq, hB1⟩
  rw [HS.out] at hq
  have hsz := HB.out q hq
  have HB1 := QY hB1
  have HQ := QY hq
  have JQ := QY (JM.out q w1 hq)
  rw [hsz] at JQ
  clear hsz hq hB1 JM
  go_wp2_with fail
  refine JQ.out.mono ?_
  rintro e w2 ⟨rfl, nd, hw⟩
  have HB2 : Hid (Below w.heap.size w w2) := QY (by rw [hw]; exact below_drewN HB1.out nd)
  clear hw JQ HB1
  go_wp2_with fail
  refine (impl_RootNumber q SQ w2 HQ.out).mono ?_
  rintro e w3 ⟨r, rfl, hr, nd', hw⟩
  have HB3 : Hid (Below w.heap.size w w3) := QY (by rw [hw]; exact below_drewN HB2.out nd')
  have HSH := QY (fun w9 => HR.out q r w9 HQ.out hr)
  clear hw hr HB2 HR
  go_wp2_with fail
  generalize hsh : fR BinOp.quo FloatKind.f32 1065353216 r w3 = sh at *
  generalize fN BinOp.quo FloatKind.f32 1065353216 r = nq at *
  have FSH : Hid (FV .f32 sh RR) := QY (hsh ▸ HSH.out w3)
  have S0 : Hid (St w [] w3.heap.size (mkN F n 0) ((w3.alloc (.cells (madeCells #[.float .f32 0, .float .f32 0, .float .f32 0] (n * 3)) 42)).drewN nq)) := QY ((St.of (⟨HB3.out, fun b l hm => absurd hm (by simp)⟩ : Bx w [] w3) ((Below.refl _ _).alloc (QX _) _) (QX _) (by rw [mkN_zero]; exact OwnVs.made hn)).drewN nq)
  have HG : Hid (w.heap.size ≤ w3.heap.size) := QY HB3.out.size
  clear hsh HSH HB3 hmk
  generalize ((w3.alloc (.cells (madeCells #[.float .f32 0, .float .f32 0, .float .f32 0] (n * 3)) 42)).drewN nq) = W7 at *
  generalize w3.heap.size = g at *
  go_loopw [28] (fun i w' => ∃ k : Nat, k ≤ n ∧ i = .int .i64 k ∧ Aside (St w [] g (mkN F n k) w')) (fun i _ => n - (intOf i).toNat)
  case atStart => exact ⟨0, Nat.zero_le _, rfl, S0.out⟩
  case round =>
   obtain ⟨k, hk, rfl, hA⟩ := hrel
   have SK := QY hA.out
   clear hA S0
   by_cases hlt : k < n
   ·obtain ⟨b1, o1, rfl, hcell1⟩ := (H.out.below SK.out.bel).some (by omega)
    obtain ⟨p, q', t, c0', c1', c2', e0, e1, e2⟩ := hcell1 k hlt
    have hk0 : (0 : Int) ≤ (k : Int) := by omega
    have hk1 : (k : Int) < (n : Int) := by omega
    have HSN := QY (mkN_set (f := F) hlt)
    have HFK := QY (HF.out k)
    have FA := QY (QJ e0 (QJ e1 e2))
    have HLT := QY hlt
    clear hcell1 e0 e1 e2
    generalize ys.getD k c0 = C1 at *
    go_wp2_with fail
    have hG : Below wr.heap.size wr (wr.alloc (.cells #[.float .f32 p, .float .f32 q', .float .f32 t] 42)) := (Below.refl _ _).alloc (QX _) _
    have S1 := QY (SK.out.call hG)
    clear hG c0' c1' c2' SK
    generalize (wr.alloc (.cells #[.float .f32 p, .float .f32 q', .float .f32 t] 42)) = W8 at *
    refine (impl_ScaleVector _ _ _ _ _ _ _ _ _ FA.out.1 FA.out.2.1 FA.out.2.2 FSH.out).mono ?_
    rintro e w9 ⟨y, z, v, rfl, f0, f1, f2, hB9⟩
    have S2 := QY (S1.out.call hB9)
    have hl : k < (mkN F n k).length := by rw [mkN_len]; exact hlt
    obtain ⟨p0, q0, r0, ⟨y0, y1, y2⟩, -⟩ := S2.out.own.at hl
    have j0 := S2.out.own.2.1 (k * 3)
    have j1 := S2.out.own.2.1 (k * 3 + 1)
    have j2 := S2.out.own.2.1 (k * 3 + 2)
    have S3 := QY (S2.out.put hl (c := scaleC' C1 RR) ⟨f0, f1, f2⟩)
    rw [← HFK.out, HSN.out] at S3
    clear f0 f1 f2 hB9 S1 S2 hl
    go_wp2
    go_roundw
    case rel => exact ⟨k + 1, by omega, by go_num, S3.out⟩
    case measure => simp [intOf]; omega
   ·obtain rfl : k = n := by omega
    go_wp2
    go_ret2
    refine ⟨fun _ => ?_, fun h => absurd h (by decide)⟩
    exact ⟨g, rfl, by rw [HT'.out]; exact SK.out⟩
def OwN (base : Nat) (w : World) (v : Value) (k : Nat) (G : Nat → C3) : Prop := ∃ xs, w.ownsRow base 42 3 v k xs ∧ PVf k xs G
theorem OwN.up {base : Nat} {w w' : World} {v : Value} {k : Nat} {G : Nat → C3} (h : OwN base w v k G) (hB : Below w.heap.size w w') : OwN base w' v k G := by
 obtain ⟨xs, h1, h2⟩ := h
 exact ⟨xs, owns_up h1 hB, h2⟩
theorem OwN.lit (w : World) (G : Nat → C3) : OwN w.heap.size (w.alloc (.cells #[] 42)) (.slice (some ⟨w.heap.size, 0, none⟩) 0 0) 0 G :=
 ⟨[], World.ownsRow_lit (base := w.heap.size) (e := 42) (size := 3) w #[] 0 (QX _) (by decide) rfl, fun j hj => absurd hj (by omega)⟩
theorem PVf.appN {k p q r : Nat} {xs : List Value} {G : Nat → C3} (h : PVf k xs G) (hl : xs.length = k * 3) (hf : F3 p q r (G k)) : PVf (k + 1) (xs ++ [.float .f32 p, .float .f32 q, .float .f32 r]) G := fun j hj => by
 by_cases hjk : j = k
 ·subst hjk
  refine ⟨p, q, r, ?_, ?_, ?_, hf⟩
  ·rw [List.getElem?_append_right (by omega), hl]; simp
  ·rw [List.getElem?_append_right (by omega), hl, show j * 3 + 1 - j * 3 = 1 by omega]; rfl
  ·rw [List.getElem?_append_right (by omega), hl, show j * 3 + 2 - j * 3 = 2 by omega]; rfl
 ·obtain ⟨p', q', r', e0, e1, e2, f⟩ := h j (by omega)
  exact ⟨p', q', r', by rw [List.getElem?_append_left (by omega)]; exact e0, by rw [List.getElem?_append_left (by omega)]; exact e1, by rw [List.getElem?_append_left (by omega)]; exact e2, f⟩
theorem OwN.rv {base : Nat} {w : World} {v : Value} {k : Nat} {G : Nat → C3} (h : OwN base w v k G) : RV base w v (mkN G k k) := by
 obtain ⟨xs, h1, h2⟩ := h
 have hp : PV k xs (mkN G k k) := fun j hj => by
  have e : (mkN G k k).getD j c0 = G j := by simp [mkN, List.getD, hj]
  rw [e]; exact h2 j hj
 rcases own_block h1 hp (mkN_len _ _ _) with ⟨rfl, hz⟩ | ⟨g, cap, rfl, hb, hc1, hc2, hO⟩
 ·subst hz
  exact RV.nil _ _
 ·have := RV.block (base := base) (cap := cap) hb (by rw [mkN_len]; exact hc1) hc2 hO
  rwa [mkN_len] at this
theorem RV.lowN {base base' : Nat} {w : World} {v : Value} {X : List C3} (h : RV base w v X) (hb : base' ≤ base) : RV base' w v X := by
 obtain ⟨a, cap, e, h1, h2⟩ := h
 exact ⟨a, cap, e, h1, h2.imp id fun ⟨b, e, k1, k2, k3, k4⟩ => ⟨b, e, Nat.le_trans hb k1, k2, k3, k4⟩⟩
theorem size_some {q : Nat} {c : Option Nat} (h : FV .f32 q c) (hs : sizeB q = true) : c = some q := by
 have hc := h.size
 cases c with
 | none => rw [hs] at hc; cases hc
 | some x =>
  have := (sz_lt h.1 hs).1
  have hn : nan32 q = QQ := by rw [nan32_iff]; exact decide_eq_false (by omega)
  rw [← h.2]
  exact cls_num hn
theorem share_fin {q r : Nat} {c : Option Nat} (h : FV .f32 q c) (hs : sizeB q = true) (hr : FV .f32 r (fop .quo .f32 (some 1065353216) (rootC c))) : finB r = true := by
 have hc := size_some h hs
 subst hc
 obtain ⟨b, m, p, hb, hlt, _⟩ := share_ok h.1 hs
 rw [hb] at hr
 rw [hr.fin]
 show finB b = true
 unfold finB
 exact decide_eq_true (by omega)
set_option maxHeartbeats 4000000 in
theorem l09Norm (a : Option Addr) (n cap : Nat) (ys : List C3) (w : World) (h : IsVs w a n cap ys) (hn : n ≤ 1048576) :
  Calls Tryz.prog 81 #[.slice a n cap] w fun e w' => (∃ v, e = .returned (.tuple #[v, .bool (nmB ys n)]) ∧ RV w.heap.size w' v (nmT ys n)) ∧ Below w.heap.size w w' := by
 have uv := Tryz.underlying42
 have u := Tryz.underlying27
 obtain ⟨i0, hi, hz0, hz1, hz2⟩ := info_parts infoV
 have hm : n ≤ 9223372036854775807 := by omega
 have J := QY (l05Inner a a n cap cap ys ys w h h)
 have H := QY h
 have HS : Hid (innL ys ys n = nmS ys n) := QY rfl
 have HT : Hid (nmT ys n = bif nmB ys n then mkN (nmF ys n) n n else []) := QY rfl
 have HF : Hid (∀ j, nmF ys n j = scaleC' (ys.getD j c0) (nmR ys n)) := QY (fun j => rfl)
 have HR : Hid (∀ r w9, FV .f32 r (rootC (nmS ys n)) → FV .f32 (fR .quo .f32 1065353216 r w9) (nmR ys n)) := QY (fun r w9 h2 => FV_fR one_fv h2)
 have HFN : Hid (∀ q r, FV .f32 q (nmS ys n) → sizeB q = true → FV .f32 r (nmR ys n) → finB r = true) := QY (fun q r h1 h2 h3 => share_fin h1 h2 h3)
 have HB : Hid (∀ q, FV .f32 q (nmS ys n) → sizeB q = nmB ys n) := QY (fun q hq => hq.size)
 have JP := QY (fun q w1 (hq : q < 4294967296) => l03Positive q w1 hq)
 have JN := QY (fun r w1 (hr : r < 4294967296) => l01Finite r w1 hr)
 clear h
 generalize nmF ys n = F at *
 generalize nmR ys n = RR at *
 generalize nmS ys n = SQ at *
 generalize nmT ys n = T at *
 have START : True := trivial
 cases hb : nmB ys n
 ·rw [hb] at HT
  have hT := HT.out
  simp only [cond_false] at hT
  rw [hT]
  go_enter Tryz.func81, Tryz.ntmps81
  go_wp2_with fail
  refine J.out.mono ?_
  rintro e w1 ⟨q, rfl, hq, hB1⟩
  rw [HS.out] at hq
  have hsz := HB.out q hq
  rw [hb] at hsz
  have HQ := QY (QJ hq hsz)
  have HB1 := QY hB1
  clear hq hsz hB1
  go_wp2_with fail
  refine (l01Sqrt q SQ w1 HQ.out.1).mono ?_
  rintro e w2 ⟨r, rfl, hr, nd, hw⟩
  have HB2 : Hid (Below w.heap.size w w2) := QY (by rw [hw]; exact below_drewN HB1.out nd)
  have HSH := QY (fun w9 => HR.out r w9 hr)
  clear hw hr HB1
  go_wp2_with fail
  generalize hsh : fR BinOp.quo FloatKind.f32 1065353216 r w2 = sh at *
  have FSH : Hid (FV .f32 sh RR) := QY (hsh ▸ HSH.out w2)
  clear hsh HSH
  have HB3 : Hid (Below w.heap.size w (w2.drewN (fN BinOp.quo FloatKind.f32 1065353216 r))) := QY (below_drewN HB2.out _)
  generalize (w2.drewN (fN BinOp.quo FloatKind.f32 1065353216 r)) = w3 at *
  refine (JP.out q w3 HQ.out.1.1).mono ?_
  rintro e w4 ⟨rfl, nd', hw⟩
  have HB4 : Hid (Below w.heap.size w w4) := QY (by rw [hw]; exact below_drewN HB3.out nd')
  have hsq := HQ.out.2
  rw [hsq]
  clear hw hsq HB3 HB2
  go_wp2
  go_ret2
  exact ⟨⟨_, rfl, RV.nil _ _⟩, HB4.out⟩
 ·rw [hb] at HT
  have hT := HT.out
  simp only [cond_true] at hT
  rw [hT]
  go_enter Tryz.func81, Tryz.ntmps81
  go_wp2_with fail
  refine J.out.mono ?_
  rintro e w1 ⟨q, rfl, hq, hB1⟩
  rw [HS.out] at hq
  have hsz := HB.out q hq
  rw [hb] at hsz
  have HQ := QY (QJ hq hsz)
  have HB1 := QY hB1
  clear hq hsz hB1
  go_wp2_with fail
  refine (l01Sqrt q SQ w1 HQ.out.1).mono ?_
  rintro e w2 ⟨r, rfl, hr, nd, hw⟩
  have HB2 : Hid (Below w.heap.size w w2) := QY (by rw [hw]; exact below_drewN HB1.out nd)
  have HSH := QY (fun w9 => HR.out r w9 hr)
  clear hw hr HB1
  go_wp2_with fail
  generalize hsh : fR BinOp.quo FloatKind.f32 1065353216 r w2 = sh at *
  have FSH : Hid (FV .f32 sh RR) := QY (hsh ▸ HSH.out w2)
  clear hsh HSH
  have HB3 : Hid (Below w.heap.size w (w2.drewN (fN BinOp.quo FloatKind.f32 1065353216 r))) := QY (below_drewN HB2.out _)
  generalize (w2.drewN (fN BinOp.quo FloatKind.f32 1065353216 r)) = w3 at *
  refine (JP.out q w3 HQ.out.1.1).mono ?_
  rintro e w4 ⟨rfl, nd', hw⟩
  have HB4 : Hid (Below w.heap.size w w4) := QY (by rw [hw]; exact below_drewN HB3.out nd')
  have hsq := HQ.out.2
  rw [hsq]
  clear hw hsq HB3 HB2
  go_wp2_with fail
  refine (JN.out sh w4 FSH.out.1).mono ?_
  rintro e w5 ⟨rfl, nd2, hw⟩
  have HB5 : Hid (Below w.heap.size w w5) := QY (by rw [hw]; exact below_drewN HB4.out nd2)
  have hfin := HFN.out q sh HQ.out.1 HQ.out.2 FSH.out
  rw [hfin]
  clear hw hfin HB4
  have hV0 := OwN.lit w5 F
  go_wp2_with fail
  have V0 := QY hV0
  have B0 : Hid (Below w5.heap.size w5 (w5.alloc (.cells #[] 42))) := QY ((Below.refl _ _).alloc (QX _) _)
  clear hV0
  generalize (w5.alloc (.cells #[] 42)) = W6 at *
  generalize (Value.slice (some ⟨w5.heap.size, 0, none⟩) 0 0) = u0 at *
  go_loopw [25, 6] (fun i u6 w' => ∃ k : Nat, k ≤ n ∧ i = .int .i64 k ∧ Aside (OwN w5.heap.size w' u6 k F ∧ Below w5.heap.size w5 w')) (fun i _ _ => n - (intOf i).toNat)
  case atStart => exact ⟨0, Nat.zero_le _, rfl, V0.out, B0.out⟩
  case round =>
   obtain ⟨k, hk, rfl, hA⟩ := hrel
   have VK := QY hA.out.1
   have BK := QY hA.out.2
   have BW := QY (HB5.out.trans (hA.out.2.mono HB5.out.size))
   clear hA V0 B0
   by_cases hlt : k < n
   ·obtain ⟨b1, o1, rfl, hcell1⟩ := (H.out.below BW.out).some (by omega)
    obtain ⟨p, q', t, c0', c1', c2', e0, e1, e2⟩ := hcell1 k hlt
    have hk0 : (0 : Int) ≤ (k : Int) := by omega
    have hk1 : (k : Int) < (n : Int) := by omega
    have HFK := QY (HF.out k)
    have FA := QY (QJ e0 (QJ e1 e2))
    have HLT := QY (QJ hlt hn)
    clear hcell1 e0 e1 e2
    generalize ys.getD k c0 = C1 at *
    go_wp2_with fail
    clear c0' c1' c2'
    refine (l01Scale _ _ _ _ _ _ _ _ _ FA.out.1 FA.out.2.1 FA.out.2.2 FSH.out).mono ?_
    rintro e w9 ⟨y, z, v, rfl, f0, f1, f2, hB9⟩
    have HB9 := QY (BK.out.trans (hB9.mono BK.out.size))
    have VK2 := QY (VK.out.up hB9)
    have hff : F3 y z v (F k) := by rw [HFK.out]; exact ⟨f0, f1, f2⟩
    have FF := QY hff
    clear f0 f1 f2 hB9 hff
    obtain ⟨xs, hxr, hxf⟩ := VK2.out
    have HXR := QY hxr
    have HXF := QY (QJ hxr.1 hxf)
    have hbz := HB9.out.size
    clear hxr hxf VK2
    go_wp2_with (at_builtin; refine wpList_append_own _ rfl _ _ 36 rfl w5.heap.size 42 i0 (.agg #[.float .f32 0, .float .f32 0, .float .f32 0]) 3 12 Tryz.underlying36 hi hz0 hz1 hz2 rfl (by decide) _ _ _ rfl (HXR.out.alloc _) ⟨w9.heap.size, 0, none⟩ 1 1 [.float .f32 y, .float .f32 z, .float .f32 v] ?c0 rfl ?c1 ?c2 ?c3 ?c4 ?c5 ?_)
    try (case c0 => first | rfl | (simp [Act.eval]))
    case c1 =>
     intro j9 u9 hj9
     match j9, hj9 with
     | 0, hj9 => simp at hj9; subst hj9; rw [addr_add']; simp
     | 1, hj9 => simp at hj9; subst hj9; rw [addr_add']; simp
     | 2, hj9 => simp at hj9; subst hj9; rw [addr_add']; simp
    case c2 => first | exact ⟨rfl, rfl, rfl, trivial⟩ | (intro u9 hu9; simp at hu9; rcases hu9 with rfl | rfl | rfl <;> rfl)
    case c3 => have := HLT.out.1; have := HLT.out.2; unfold maxLen; omega
    case c4 => have := HLT.out.1; have := HLT.out.2; omega
    case c5 => simp; omega
    intro v' w7 hown' hgrow hnil
    have hB1 := HB9.out.alloc hbz (.cells #[.float .f32 y, .float .f32 z, .float .f32 v] 42)
    have HB10 := QY (hB1.grown hgrow hB1.size (fun k hk => (HXR.out.lt k hk).1))
    have HO1 : Hid (OwN w5.heap.size w7 v' (k + 1) F) := QY ⟨_, by simpa using hown', HXF.out.2.appN HXF.out.1 FF.out⟩
    clear hown' hgrow hB1 hnil
    go_wp2
    go_roundw
    case rel => exact ⟨k + 1, by omega, by go_num, HO1.out, HB10.out⟩
    case measure => simp [intOf]; omega
   ·obtain rfl : k = n := by omega
    have hrv := VK.out.rv
    obtain ⟨va, vc, e, hvs, hls⟩ := hrv
    rw [mkN_len] at e hvs hls
    subst e
    have HRV : Hid (RV w.heap.size wr (.slice va k vc) (mkN F k k)) := QY ((show RV w5.heap.size wr (.slice va k vc) (mkN F k k) from ⟨va, vc, by rw [mkN_len], by rw [mkN_len]; exact hvs, by rw [mkN_len]; exact hls⟩).lowN HB5.out.size)
    clear VK hvs hls
    go_wp2
    go_ret2
    exact ⟨⟨_, rfl, HRV.out⟩, BW.out⟩
set_option maxRecDepth 16000
theorem zero_len (X : List C3) (z : Int) : (zeroAt X z).length = X.length := by unfold zeroAt; rw [List.length_set]
def FreeL (L : List Int) (Y : List C3) : Prop := ∀ z ∈ L, Y[z.toNat]? = some z3 ∨ Y.length ≤ z.toNat
theorem still_fix : ∀ (L : List Int) (Y : List C3), FreeL L Y → stillF Y L = Y
 | [], Y, _ => rfl
 | z :: L, Y, h => by
  have hz : zeroAt Y z = Y := by
   unfold zeroAt
   rcases h z (by simp) with e | e
   ·apply List.ext_getElem?
    intro i
    rw [List.getElem?_set]
    by_cases hi : z.toNat = i
    ·subst hi
     rw [if_pos rfl, e]
     have : z.toNat < Y.length := (List.getElem?_eq_some_iff.1 e).1
     rw [if_pos this]
    ·rw [if_neg hi]
   ·exact List.set_eq_of_length_le e
  show stillF (zeroAt Y z) L = Y
  rw [hz]
  exact still_fix L Y (fun y hy => h y (by simp [hy]))
theorem free_zero {L : List Int} {Y : List C3} (h : FreeL L Y) (a : Int) : FreeL L (zeroAt Y a) := fun z hz => by
 rcases h z hz with e | e
 ·left
  unfold zeroAt
  rw [List.getElem?_set]
  by_cases hi : a.toNat = z.toNat
  ·have : a.toNat < Y.length := by rw [hi]; exact (List.getElem?_eq_some_iff.1 e).1
   rw [if_pos hi, if_pos this]
  ·rw [if_neg hi]; exact e
 ·right; rw [zero_len]; exact e
theorem free_still (L' : List Int) : ∀ (L : List Int) (Y : List C3), FreeL L' Y → FreeL L' (stillF Y L)
 | [], Y, h => h
 | z :: L, Y, h => free_still L' L (zeroAt Y z) (free_zero h z)
theorem still_free : ∀ (L : List Int) (Y : List C3), FreeL L (stillF Y L)
 | [], Y => fun z hz => absurd hz (by simp)
 | a :: L, Y => by
  have h0 : FreeL [a] (zeroAt Y a) := fun z hz => by
   have : z = a := by simpa using hz
   subst this
   unfold zeroAt
   by_cases hl : z.toNat < Y.length
   ·left; rw [List.getElem?_set, if_pos rfl, if_pos hl]
   ·right; rw [List.length_set]; omega
  have h1 := free_still [a] L (zeroAt Y a) h0
  have h2 := still_free L (zeroAt Y a)
  intro z hz
  show (stillF (zeroAt Y a) L)[z.toNat]? = _ ∨ _
  rcases List.mem_cons.1 hz with e | hz
  ·exact h1 z (by rw [e]; simp)
  ·exact h2 z hz
theorem mul_zero_pos {b m : Nat} {p : Int} (hd : FloatKind.f32.decode b = .number QQ m p) : fop .mul .f32 (some 0) (some b) = some 0 := by
 show ((FloatKind.f32.decode 0).product (FloatKind.f32.decode b)).map FloatKind.f32.format.write = _
 have d0 : FloatKind.f32.decode 0 = .number QQ 0 (-149) := by decide
 rw [d0, hd]
 simp only [Ieee.Datum.product, Option.map_some, Nat.zero_mul]
 rw [write_zero]
 rfl
theorem norm_free {L : List Int} {Y : List C3} {q n : Nat} (h : FreeL L Y) (hn : Y.length = n) (hq : FV .f32 q (nmS Y n)) (hb : nmB Y n = true) : FreeL L (nmT Y n) := fun z hz => by
 have hs : sizeB q = true := by rw [hq.size]; exact hb
 have hc := size_some hq hs
 obtain ⟨b, m, p, hbq, _, hd⟩ := share_ok hq.1 hs
 have hr : nmR Y n = some b := by unfold nmR; rw [hc]; exact hbq
 unfold nmT
 rw [hb, cond_true]
 by_cases hl : z.toNat < n
 ·left
  rcases h z hz with e | e
  ·have hg : Y.getD z.toNat c0 = z3 := by rw [List.getD, e]; rfl
   have hf : nmF Y n z.toNat = z3 := by
    unfold nmF
    rw [hg, hr]
    show (fop .mul .f32 (some 0) (some b), fop .mul .f32 (some 0) (some b), fop .mul .f32 (some 0) (some b)) = z3
    rw [mul_zero_pos hd]
   simp [mkN, hl, hf]
  ·omega
 ·right; rw [mkN_len]; omega
def grI (c : Bc) (L : List Int) (d : Option Nat) (n : Nat) : Nat → List C3 → Option (List C3)
 | 0, Y => some Y
 | k + 1, Y => bif nmB (timT c L Y d) n then grI c L d n k (nmT (timT c L Y d) n) else none
def enB (L : List Int) (n : Nat) (G : Option (List C3)) : Bool := match G with | none => QQ | some Y => posC (sqrC L Y n)
def enL (L : List Int) (n : Nat) (G : Option (List C3)) : List C3 := match G with | none => [] | some Y => bif posC (sqrC L Y n) then Y else []
def enC (c : Bc) (L : List Int) (d : Option Nat) (n : Nat) (G : Option (List C3)) : Option Nat := match G with | none => some 0 | some Y => rayC c L Y d n
theorem enC_no {c : Bc} {L : List Int} {d : Option Nat} {n : Nat} {Y : List C3} (h : posC (sqrC L Y n) = QQ) : rayC c L Y d n = some 0 := by
 unfold rayC; rw [h]; rfl
def grG (c : Bc) (L : List Int) (ys : List C3) (d : Option Nat) (n : Nat) (z : Int) : Option (List C3) := grI c L d n z.toNat (stillF ys L)
def grOk (c : Bc) (L : List Int) (n x : Nat) (z : Int) : Bool := canB c L n x && decide (0 ≤ z ∧ z ≤ 40)
def grB (c : Bc) (L : List Int) (ys : List C3) (d : Option Nat) (n x : Nat) (z : Int) : Bool := grOk c L n x z && enB L n (grG c L ys d n z)
def grL (c : Bc) (L : List Int) (ys : List C3) (d : Option Nat) (n x : Nat) (z : Int) : List C3 := bif grOk c L n x z then enL L n (grG c L ys d n z) else []
def grC (c : Bc) (L : List Int) (ys : List C3) (d : Option Nat) (n x : Nat) (z : Int) : Option Nat := bif grOk c L n x z then enC c L d n (grG c L ys d n z) else some 0
theorem grI_len (c : Bc) (L : List Int) (d : Option Nat) (n : Nat) : ∀ (k : Nat) (Y Z : List C3), Y.length = n → grI c L d n k Y = some Z → Z.length = n
 | 0, Y, Z, h, e => by cases e; exact h
 | k + 1, Y, Z, h, e => by
  unfold grI at e
  cases hb : nmB (timT c L Y d) n
  ·rw [hb] at e; cases e
  ·rw [hb] at e
   refine grI_len c L d n k _ Z ?_ e
   unfold nmT; rw [hb, cond_true, mkN_len]
theorem grL_len (c : Bc) (L : List Int) (ys : List C3) (d : Option Nat) (n x : Nat) (z : Int) (hy : ys.length = n) : (grL c L ys d n x z).length ≤ 64 := by
 unfold grL grOk
 cases hc : canB c L n x
 ·simp
 ·have hn : n ≤ 64 := by have h1 := can_parts hc; have := body64 h1.1; omega
  cases decide (0 ≤ z ∧ z ≤ 40)
  ·simp
  ·rw [Bool.and_self, cond_true]
   unfold enL
   cases hG : grG c L ys d n z with
   | none => simp
   | some Y =>
    have := grI_len c L d n _ _ Y (by rw [stillF_len]; exact hy) hG
    show (bif posC (sqrC L Y n) then Y else []).length ≤ 64
    cases posC (sqrC L Y n)
    ·simp
    ·rw [cond_true]; omega
end Go.Proofs.YtabccmobmppdnaaGreat

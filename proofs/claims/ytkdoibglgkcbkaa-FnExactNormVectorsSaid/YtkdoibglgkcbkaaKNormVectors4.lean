/-
Texts in one: what NormVectors stands on, part 4. Conditions: those of each.
-/
import Derived.Test.YtkdoibglgkcbkaaKNormVectors3
import Derived.Lib.SmallJoins
import Derived.Handy
import Derived.Test.YtkdoibglgkcbkaaRows
import Derived.WalkKit
import Derived.ProofKit
import Derived.OpenShut
import Derived.ShutString
import Derived.ChangeOld
import Derived.Below
-- halved
namespace Go.Proofs.Ytkdoibglgkcbkaa
namespace RegG
open Go Reg
set_option linter.unusedVariables false
section
variable {P : Program} {ops : Array Oper} {Q : Exit → Act → World → Prop}
end
end RegG
end Go.Proofs.Ytkdoibglgkcbkaa
namespace Go.Proofs.Ytkdoibglgkcbkaa
open Go Fk Go.RowKit
set_option linter.unusedVariables false
set_option maxRecDepth 8000
end Go.Proofs.Ytkdoibglgkcbkaa
namespace Go.Proofs.Ytkdoibglgkcbkaa
namespace Fk
open Go Go.RowKit
set_option linter.unusedVariables false
section
open Go.ChangeShapes Go.WideShapes Go.Deep
variable {H : Type} {enc : TypeId × Value → H} {P : Program} {w : World} {base : Nat} {held : Bool}
end
end Fk
end Go.Proofs.Ytkdoibglgkcbkaa
namespace Go.Proofs.Ytkdoibglgkcbkaa
open Go Fk Go.RowKit
set_option linter.unusedVariables false
set_option maxRecDepth 8000
end Go.Proofs.Ytkdoibglgkcbkaa
namespace Go.Proofs.Ytkdoibglgkcbkaa
open Go Fk Go.RowKit
set_option linter.unusedVariables false
set_option maxRecDepth 8000
end Go.Proofs.Ytkdoibglgkcbkaa
namespace Go.Proofs.Ytkdoibglgkcbkaa
open Go Fk Go.RowKit
set_option linter.unusedVariables false
set_option maxRecDepth 8000
end Go.Proofs.Ytkdoibglgkcbkaa
namespace Go.Proofs.Ytkdoibglgkcbkaa
open Go Fk Go.RowKit
set_option linter.unusedVariables false
set_option maxRecDepth 8000
end Go.Proofs.Ytkdoibglgkcbkaa
namespace Go.Proofs.Ytkdoibglgkcbkaa
open Go Fk Go.RowKit
end Go.Proofs.Ytkdoibglgkcbkaa
namespace Go.Proofs.Ytkdoibglgkcbkaa
open Go Fk Go.RowKit
set_option linter.unusedVariables false
set_option maxRecDepth 16000
def RV (base : Nat) (w : World) (v : Value) (X : List C3) : Prop := ∃ a cap, v = .slice a X.length cap ∧ IsVs w a X.length cap X ∧ Lst base w.heap.size w a (X.length * 3)
theorem RV.nil (base : Nat) (w : World) : RV base w (.slice none 0 0) [] :=
 ⟨none, 0, rfl, ⟨rfl, Nat.le_refl _, by unfold maxLen; omega, fun _ => ⟨rfl, rfl⟩, fun x hx => by cases hx⟩, .inl ⟨rfl, rfl⟩⟩
theorem RV.block {base g cap : Nat} {w : World} {X : List C3} (hg : base ≤ g) (h1 : X.length ≤ cap) (h2 : cap ≤ maxLen) (h : OwnVs w g X) : RV base w (.slice (some ⟨g, 0, none⟩) X.length cap) X := by
 refine ⟨_, cap, rfl, ⟨rfl, h1, h2, by simp, fun x hx i hi => ?_⟩, .inr ⟨g, rfl, hg, h.2.2, h.2.2, fun j hj => ⟨?_, by rw [Nat.zero_add]; exact h.2.1 j⟩⟩⟩
 ·cases hx
  obtain ⟨p, q, r, ⟨k0, k1, k2⟩, f⟩ := h.1.2 i hi
  exact ⟨p, q, r, by rw [addr_add', Nat.zero_add]; exact k0, by rw [addr_add', Nat.zero_add]; exact k1, by rw [addr_add', Nat.zero_add]; exact k2, f⟩
 ·obtain ⟨p, q, r, ⟨k0, k1, k2⟩, f⟩ := h.1.2 (j / 3) (by omega)
  rw [Nat.zero_add]
  have : j = j / 3 * 3 ∨ j = j / 3 * 3 + 1 ∨ j = j / 3 * 3 + 2 := by omega
  rcases this with e | e | e
  ·exact ⟨_, by rw [e]; exact k0⟩
  ·exact ⟨_, by rw [e]; exact k1⟩
  ·exact ⟨_, by rw [e]; exact k2⟩
theorem own_block {w : World} {base n : Nat} {v : Value} {xs : List Value} {cs : List C3} (h : w.ownsRow base 67 3 v n xs) (hp : PV n xs cs) (hn : cs.length = n) :
  (v = .slice none 0 0 ∧ n = 0) ∨ ∃ g cap, v = .slice (some ⟨g, 0, none⟩) n cap ∧ base ≤ g ∧ n ≤ cap ∧ cap ≤ maxLen ∧ OwnVs w g cs := by
 have h' := h
 obtain ⟨h1, h2⟩ := h
 rcases h2 with ⟨rfl, hz⟩ | ⟨g, cap, cur, rfl, hb, hh, hc1, hc2, hs, ht⟩
 ·exact .inl ⟨rfl, hz⟩
 ·refine .inr ⟨g, cap, rfl, hb, hc1, hc2, ⟨by omega, fun i hi => ?_⟩, fun j => h'.frozenAt j, (h'.lt g rfl).2⟩
  obtain ⟨p, q, r, e0, e1, e2, f⟩ := hp i (by omega)
  exact ⟨p, q, r, ⟨by rw [h'.cellAt _ (by omega)]; exact e0, by rw [h'.cellAt _ (by omega)]; exact e1, by rw [h'.cellAt _ (by omega)]; exact e2⟩, f⟩
end Go.Proofs.Ytkdoibglgkcbkaa
namespace Go.Proofs.Ytkdoibglgkcbkaa
open Go Fk Go.RowKit
set_option linter.unusedVariables false
set_option maxRecDepth 8000
theorem l03Positive (x : Nat) (w : World) (hx : x < 4294967296) :
  Calls Try.prog 50 #[.float .f32 x] w fun e w' => e = .returned (.bool (sizeB x)) ∧ ∃ n, w' = w.drewN n := by
 have u := Try.underlying22
 unfold sizeB
 have HJ := Lib.hid (fun w => l01Finite x w hx)
 generalize finB x = f at *
 cases f
 ·go_enter Try.func50, Try.ntmps50
  go_wp2_with (go_at_call 83; refine (HJ.out _).mono ?_; rintro e w1 ⟨rfl, n, hw⟩; rw [hw]; clear hw w1)
  go_ret
  exact ⟨rfl, _, rfl⟩
 ·go_enter Try.func50, Try.ntmps50
  go_wp2_with (go_at_call 83; refine (HJ.out _).mono ?_; rintro e w1 ⟨rfl, n, hw⟩; rw [hw]; clear hw w1)
  go_ret
  exact ⟨rfl, _, rfl⟩
end Go.Proofs.Ytkdoibglgkcbkaa
namespace Go.Proofs.Ytkdoibglgkcbkaa
open Go Fk Go.RowKit
set_option linter.unusedVariables false
set_option maxRecDepth 8000
def OwN (base : Nat) (w : World) (v : Value) (k : Nat) (G : Nat → C3) : Prop := ∃ xs, w.ownsRow base 67 3 v k xs ∧ PVf k xs G
theorem OwN.up {base : Nat} {w w' : World} {v : Value} {k : Nat} {G : Nat → C3} (h : OwN base w v k G) (hB : Below w.heap.size w w') : OwN base w' v k G := by
 obtain ⟨xs, h1, h2⟩ := h
 exact ⟨xs, owns_up h1 hB, h2⟩
theorem OwN.lit (w : World) (G : Nat → C3) : OwN w.heap.size (w.alloc (.cells #[] 67)) (.slice (some ⟨w.heap.size, 0, none⟩) 0 0) 0 G :=
 ⟨[], World.ownsRow_lit (base := w.heap.size) (e := 67) (size := 3) w #[] 0 (Nat.le_refl _) (by decide) rfl, fun j hj => absurd hj (by omega)⟩
theorem PVf.appN {k p q r : Nat} {xs : List Value} {G : Nat → C3} (h : PVf k xs G) (hl : xs.length = k * 3) (hf : F3 p q r (G k)) : PVf (k + 1) (xs ++ [.float .f32 p, .float .f32 q, .float .f32 r]) G := fun j hj => by
 by_cases hjk : j = k
 ·subst hjk
  refine ⟨p, q, r, ?_, ?_, ?_, hf⟩
  ·rw [List.getElem?_append_right (by omega), hl]; simp
  ·rw [List.getElem?_append_right (by omega), hl, show j * 3 + 1 - j * 3 = 1 by omega]; rfl
  ·rw [List.getElem?_append_right (by omega), hl, show j * 3 + 2 - j * 3 = 2 by omega]; rfl
 ·obtain ⟨p', q', r', e0, e1, e2, f⟩ := h j (by omega)
  exact ⟨p', q', r', by rw [List.getElem?_append_left (by omega)]; exact e0, by rw [List.getElem?_append_left (by omega)]; exact e1, by rw [List.getElem?_append_left (by omega)]; exact e2, f⟩
theorem OwN.rv {base : Nat} {w : World} {v : Value} {k : Nat} {G : Nat → C3} (h : OwN base w v k G) : RV base w v (mkN G k k) := by
 obtain ⟨xs, h1, h2⟩ := h
 have hp : PV k xs (mkN G k k) := fun j hj => by
  have e : (mkN G k k).getD j c0 = G j := by simp [mkN, List.getD, hj]
  rw [e]; exact h2 j hj
 rcases own_block h1 hp (mkN_len _ _ _) with ⟨rfl, hz⟩ | ⟨g, cap, rfl, hb, hc1, hc2, hO⟩
 ·subst hz
  exact RV.nil _ _
 ·have := RV.block (base := base) (cap := cap) hb (by rw [mkN_len]; exact hc1) hc2 hO
  rwa [mkN_len] at this
theorem RV.lowN {base base' : Nat} {w : World} {v : Value} {X : List C3} (h : RV base w v X) (hb : base' ≤ base) : RV base' w v X := by
 obtain ⟨a, cap, e, h1, h2⟩ := h
 exact ⟨a, cap, e, h1, h2.imp id fun ⟨b, e, k1, k2, k3, k4⟩ => ⟨b, e, Nat.le_trans hb k1, k2, k3, k4⟩⟩
def nvB (ys : List C3) (n : Nat) : Bool := decide (n ≤ 256) && nmB ys n
def nvT (ys : List C3) (n : Nat) : List C3 := bif nvB ys n then mkN (nmF ys n) n n else []
theorem nvT_len (ys : List C3) (n : Nat) : (nvT ys n).length ≤ 256 := by
 unfold nvT nvB
 by_cases h : n ≤ 256
 ·rw [decide_eq_true h, Bool.true_and]
  cases nmB ys n
  ·simp
  ·rw [cond_true, mkN_len]; exact h
 ·rw [decide_eq_false h]; simp
set_option maxHeartbeats 4000000 in
theorem impl_NormVectors (a0 : Option Addr) (n0 c0' : Nat) (y0 : List C3) (w : World) (h : IsVs w a0 n0 c0' y0) :
  Calls Try.prog 19 #[.slice a0 n0 c0'] w fun e w' => (∃ v, e = .returned (.tuple #[v, .bool (nvB y0 n0)]) ∧ RV w.heap.size w' v (nvT y0 n0)) ∧ Below w.heap.size w w' := by
 have hm : n0 ≤ 9223372036854775807 := by have k1 := h.2.1; have k2 := h.2.2.1; unfold maxLen at k2; omega
 by_cases hn : n0 ≤ 256
 ·have hgt : ¬ (256 : Int) < (n0 : Int) := by omega
  have J := Lib.hid (impl_normed a0 n0 c0' y0 w h (by omega))
  have he : nvB y0 n0 = nmB y0 n0 := by unfold nvB; rw [decide_eq_true hn]; rfl
  have HT : Hid (nvT y0 n0 = nmT y0 n0) := Lib.hid (by unfold nvT nmT; rw [he])
  have HL : Hid ((nmT y0 n0).length ≤ n0) := Lib.hid (nmT_len y0 n0)
  have HN : Hid (nmB y0 n0 = true → (nmT y0 n0).length = n0) := Lib.hid (fun hb => by unfold nmT; rw [hb, cond_true, mkN_len])
  have HZ : Hid (nmB y0 n0 = false → nmT y0 n0 = []) := Lib.hid (fun hb => by unfold nmT; rw [hb]; rfl)
  rw [he, HT.out]
  clear h he
  generalize nmT y0 n0 = T at *
  cases hb : nmB y0 n0
  ·have hz := HZ.out hb
   subst hz
   go_enter Try.func19, Try.ntmps19
   go_wp2_with fail
   refine J.out.mono ?_
   rintro e w1 ⟨_, h2⟩
   obtain ⟨rfl, hB⟩ := h2 hb
   have HB := Lib.hid hB
   clear hB h2
   go_wp2
   go_ret2
   exact ⟨⟨_, rfl, RV.nil _ _⟩, HB.out⟩
  ·have hl := HN.out hb
   go_enter Try.func19, Try.ntmps19
   go_wp2_with fail
   refine J.out.mono ?_
   rintro e w1 ⟨h1, _⟩
   obtain ⟨g, rfl, hS⟩ := h1 hb
   have hRV := RV.block (base := w.heap.size) (cap := n0) hS.2.2.1 (by rw [hl]; exact Nat.le_refl _) (by unfold maxLen; omega) hS.own
   rw [hl] at hRV
   have HRV := Lib.hid hRV
   have HB := Lib.hid hS.bel
   clear hS hRV h1 hl
   go_wp2
   go_ret2
   exact ⟨⟨_, rfl, HRV.out⟩, HB.out⟩
 ·have hgt : (256 : Int) < (n0 : Int) := by omega
  have he : nvB y0 n0 = false := by unfold nvB; rw [decide_eq_false hn]; rfl
  have he2 : nvT y0 n0 = [] := by unfold nvT; rw [he]; rfl
  rw [he, he2]
  clear h he he2
  go_enter Try.func19, Try.ntmps19
  go_wp2
  go_ret2
  exact ⟨⟨_, rfl, RV.nil _ _⟩, Below.refl _ _⟩
theorem size_some {q : Nat} {c : Option Nat} (h : FV .f32 q c) (hs : sizeB q = true) : c = some q := by
 have hc := h.size
 cases c with
 | none => rw [hs] at hc; cases hc
 | some x =>
  have := (sz_lt h.1 hs).1
  have hn : nan32 q = false := by rw [nan32_iff]; exact decide_eq_false (by omega)
  rw [← h.2]
  exact cls_num hn
theorem share_fin {q r : Nat} {c : Option Nat} (h : FV .f32 q c) (hs : sizeB q = true) (hr : FV .f32 r (fop .quo .f32 (some 1065353216) (rootC c))) : finB r = true := by
 have hc := size_some h hs
 subst hc
 obtain ⟨b, m, p, hb, hlt, _⟩ := share_ok h.1 hs
 rw [hb] at hr
 rw [hr.fin]
 show finB b = true
 unfold finB
 exact decide_eq_true (by omega)
set_option maxHeartbeats 4000000 in
theorem l09Norm (a : Option Addr) (n cap : Nat) (ys : List C3) (w : World) (h : IsVs w a n cap ys) (hn : n ≤ 1048576) :
  Calls Try.prog 54 #[.slice a n cap] w fun e w' => (∃ v, e = .returned (.tuple #[v, .bool (nmB ys n)]) ∧ RV w.heap.size w' v (nmT ys n)) ∧ Below w.heap.size w w' := by
 have uv := Try.underlying67
 have u := Try.underlying22
 obtain ⟨i0, hi, hz0, hz1, hz2⟩ := info_parts infoV
 have hm : n ≤ 9223372036854775807 := by omega
 have J := Lib.hid (l05Inner a a n cap cap ys ys w h h)
 have H := Lib.hid h
 have HS : Hid (innL ys ys n = nmS ys n) := Lib.hid rfl
 have HT : Hid (nmT ys n = bif nmB ys n then mkN (nmF ys n) n n else []) := Lib.hid rfl
 have HF : Hid (∀ j, nmF ys n j = scaleC' (ys.getD j c0) (nmR ys n)) := Lib.hid (fun j => rfl)
 have HR : Hid (∀ r w9, FV .f32 r (rootC (nmS ys n)) → FV .f32 (fR .quo .f32 1065353216 r w9) (nmR ys n)) := Lib.hid (fun r w9 h2 => FV_fR one_fv h2)
 have HFN : Hid (∀ q r, FV .f32 q (nmS ys n) → sizeB q = true → FV .f32 r (nmR ys n) → finB r = true) := Lib.hid (fun q r h1 h2 h3 => share_fin h1 h2 h3)
 have HB : Hid (∀ q, FV .f32 q (nmS ys n) → sizeB q = nmB ys n) := Lib.hid (fun q hq => hq.size)
 have JP := Lib.hid (fun q w1 (hq : q < 4294967296) => l03Positive q w1 hq)
 have JN := Lib.hid (fun r w1 (hr : r < 4294967296) => l01Finite r w1 hr)
 clear h
 generalize nmF ys n = F at *
 generalize nmR ys n = RR at *
 generalize nmS ys n = SQ at *
 generalize nmT ys n = T at *
 have START : True := trivial
 cases hb : nmB ys n
 ·rw [hb] at HT
  have hT := HT.out
  simp only [cond_false] at hT
  rw [hT]
  go_enter Try.func54, Try.ntmps54
  go_wp2_with fail
  refine J.out.mono ?_
  rintro e w1 ⟨q, rfl, hq, hB1⟩
  rw [HS.out] at hq
  have hsz := HB.out q hq
  rw [hb] at hsz
  have HQ := Lib.hid (And.intro hq hsz)
  have HB1 := Lib.hid hB1
  clear hq hsz hB1
  go_wp2_with fail
  refine (l01Sqrt q SQ w1 HQ.out.1).mono ?_
  rintro e w2 ⟨r, rfl, hr, nd, hw⟩
  have HB2 : Hid (Below w.heap.size w w2) := Lib.hid (by rw [hw]; exact below_drewN HB1.out nd)
  have HSH := Lib.hid (fun w9 => HR.out r w9 hr)
  clear hw hr HB1
  go_wp2_with fail
  generalize hsh : fR BinOp.quo FloatKind.f32 1065353216 r w2 = sh at *
  have FSH : Hid (FV .f32 sh RR) := Lib.hid (hsh ▸ HSH.out w2)
  clear hsh HSH
  have HB3 : Hid (Below w.heap.size w (w2.drewN (fN BinOp.quo FloatKind.f32 1065353216 r))) := Lib.hid (below_drewN HB2.out _)
  generalize (w2.drewN (fN BinOp.quo FloatKind.f32 1065353216 r)) = w3 at *
  refine (JP.out q w3 HQ.out.1.1).mono ?_
  rintro e w4 ⟨rfl, nd', hw⟩
  have HB4 : Hid (Below w.heap.size w w4) := Lib.hid (by rw [hw]; exact below_drewN HB3.out nd')
  have hsq := HQ.out.2
  rw [hsq]
  clear hw hsq HB3 HB2
  go_wp2
  go_ret2
  exact ⟨⟨_, rfl, RV.nil _ _⟩, HB4.out⟩
 ·rw [hb] at HT
  have hT := HT.out
  simp only [cond_true] at hT
  rw [hT]
  go_enter Try.func54, Try.ntmps54
  go_wp2_with fail
  refine J.out.mono ?_
  rintro e w1 ⟨q, rfl, hq, hB1⟩
  rw [HS.out] at hq
  have hsz := HB.out q hq
  rw [hb] at hsz
  have HQ := Lib.hid (And.intro hq hsz)
  have HB1 := Lib.hid hB1
  clear hq hsz hB1
  go_wp2_with fail
  refine (l01Sqrt q SQ w1 HQ.out.1).mono ?_
  rintro e w2 ⟨r, rfl, hr, nd, hw⟩
  have HB2 : Hid (Below w.heap.size w w2) := Lib.hid (by rw [hw]; exact below_drewN HB1.out nd)
  have HSH := Lib.hid (fun w9 => HR.out r w9 hr)
  clear hw hr HB1
  go_wp2_with fail
  generalize hsh : fR BinOp.quo FloatKind.f32 1065353216 r w2 = sh at *
  have FSH : Hid (FV .f32 sh RR) := Lib.hid (hsh ▸ HSH.out w2)
  clear hsh HSH
  have HB3 : Hid (Below w.heap.size w (w2.drewN (fN BinOp.quo FloatKind.f32 1065353216 r))) := Lib.hid (below_drewN HB2.out _)
  generalize (w2.drewN (fN BinOp.quo FloatKind.f32 1065353216 r)) = w3 at *
  refine (JP.out q w3 HQ.out.1.1).mono ?_
  rintro e w4 ⟨rfl, nd', hw⟩
  have HB4 : Hid (Below w.heap.size w w4) := Lib.hid (by rw [hw]; exact below_drewN HB3.out nd')
  have hsq := HQ.out.2
  rw [hsq]
  clear hw hsq HB3 HB2
  go_wp2_with fail
  refine (JN.out sh w4 FSH.out.1).mono ?_
  rintro e w5 ⟨rfl, nd2, hw⟩
  have HB5 : Hid (Below w.heap.size w w5) := Lib.hid (by rw [hw]; exact below_drewN HB4.out nd2)
  have hfin := HFN.out q sh HQ.out.1 HQ.out.2 FSH.out
  rw [hfin]
  clear hw hfin HB4
  have hV0 := OwN.lit w5 F
  go_wp2_with fail
  have V0 := Lib.hid hV0
  have B0 : Hid (Below w5.heap.size w5 (w5.alloc (.cells #[] 67))) := Lib.hid ((Below.refl _ _).alloc (Nat.le_refl _) _)
  clear hV0
  generalize (w5.alloc (.cells #[] 67)) = W6 at *
  generalize (Value.slice (some ⟨w5.heap.size, 0, none⟩) 0 0) = u0 at *
  go_loopw [25, 6] (fun i u6 w' => ∃ k : Nat, k ≤ n ∧ i = .int .i64 k ∧ Aside (OwN w5.heap.size w' u6 k F ∧ Below w5.heap.size w5 w')) (fun i _ _ => n - (intOf i).toNat)
  case atStart => exact ⟨0, Nat.zero_le _, rfl, V0.out, B0.out⟩
  case round =>
   obtain ⟨k, hk, rfl, hA⟩ := hrel
   have VK := Lib.hid hA.out.1
   have BK := Lib.hid hA.out.2
   have BW := Lib.hid (HB5.out.trans (hA.out.2.mono HB5.out.size))
   clear hA V0 B0
   by_cases hlt : k < n
   ·obtain ⟨b1, o1, rfl, hcell1⟩ := (H.out.below BW.out).some (by omega)
    obtain ⟨p, q', t, c0', c1', c2', e0, e1, e2⟩ := hcell1 k hlt
    have hk0 : (0 : Int) ≤ (k : Int) := by omega
    have hk1 : (k : Int) < (n : Int) := by omega
    have HFK := Lib.hid (HF.out k)
    have FA := Lib.hid (And.intro e0 (And.intro e1 e2))
    have HLT := Lib.hid (And.intro hlt hn)
    clear hcell1 e0 e1 e2
    generalize ys.getD k c0 = C1 at *
    go_wp2_with fail
    clear c0' c1' c2'
    refine (l01Scale _ _ _ _ _ _ _ _ _ FA.out.1 FA.out.2.1 FA.out.2.2 FSH.out).mono ?_
    rintro e w9 ⟨y, z, v, rfl, f0, f1, f2, hB9⟩
    have HB9 := Lib.hid (BK.out.trans (hB9.mono BK.out.size))
    have VK2 := Lib.hid (VK.out.up hB9)
    have hff : F3 y z v (F k) := by rw [HFK.out]; exact ⟨f0, f1, f2⟩
    have FF := Lib.hid hff
    clear f0 f1 f2 hB9 hff
    obtain ⟨xs, hxr, hxf⟩ := VK2.out
    have HXR := Lib.hid hxr
    have HXF := Lib.hid (And.intro hxr.1 hxf)
    have hbz := HB9.out.size
    clear hxr hxf VK2
    go_wp2_with (at_builtin; refine wpList_append_own _ rfl _ _ 30 rfl w5.heap.size 67 i0 (.agg #[.float .f32 0, .float .f32 0, .float .f32 0]) 3 12 Try.underlying30 hi hz0 hz1 hz2 rfl (by decide) _ _ _ rfl (HXR.out.alloc _) ⟨w9.heap.size, 0, none⟩ 1 1 [.float .f32 y, .float .f32 z, .float .f32 v] ?c0 rfl ?c1 ?c2 ?c3 ?c4 ?c5 ?_)
    try (case c0 => first | rfl | (simp [Act.eval]))
    case c1 =>
     intro j9 u9 hj9
     match j9, hj9 with
     | 0, hj9 => simp at hj9; subst hj9; rw [addr_add']; simp
     | 1, hj9 => simp at hj9; subst hj9; rw [addr_add']; simp
     | 2, hj9 => simp at hj9; subst hj9; rw [addr_add']; simp
    case c2 => first | exact ⟨rfl, rfl, rfl, trivial⟩ | (intro u9 hu9; simp at hu9; rcases hu9 with rfl | rfl | rfl <;> rfl)
    case c3 => have := HLT.out.1; have := HLT.out.2; unfold maxLen; omega
    case c4 => have := HLT.out.1; have := HLT.out.2; omega
    case c5 => simp; omega
    intro v' w7 hown' hgrow hnil
    have hB1 := HB9.out.alloc hbz (.cells #[.float .f32 y, .float .f32 z, .float .f32 v] 67)
    have HB10 := Lib.hid (hB1.grown hgrow hB1.size (fun k hk => (HXR.out.lt k hk).1))
    have HO1 : Hid (OwN w5.heap.size w7 v' (k + 1) F) := Lib.hid ⟨_, by simpa using hown', HXF.out.2.appN HXF.out.1 FF.out⟩
    clear hown' hgrow hB1 hnil
    go_wp2
    go_roundw
    case rel => exact ⟨k + 1, by omega, by go_num, HO1.out, HB10.out⟩
    case measure => simp [intOf]; omega
   ·obtain rfl : k = n := by omega
    have hrv := VK.out.rv
    obtain ⟨va, vc, e, hvs, hls⟩ := hrv
    rw [mkN_len] at e hvs hls
    subst e
    have HRV : Hid (RV w.heap.size wr (.slice va k vc) (mkN F k k)) := Lib.hid ((show RV w5.heap.size wr (.slice va k vc) (mkN F k k) from ⟨va, vc, by rw [mkN_len], by rw [mkN_len]; exact hvs, by rw [mkN_len]; exact hls⟩).lowN HB5.out.size)
    clear VK hvs hls
    go_wp2
    go_ret2
    exact ⟨⟨_, rfl, HRV.out⟩, BW.out⟩
set_option maxHeartbeats 4000000 in
theorem spec_NormVectors (a0 : Option Addr) (n0 c0' : Nat) (y0 : List C3) (w : World) (h : IsVs w a0 n0 c0' y0) :
  Calls Try.prog 17 #[.slice a0 n0 c0'] w fun e w' => (∃ v, e = .returned (.tuple #[v, .bool (nvB y0 n0)]) ∧ RV w.heap.size w' v (nvT y0 n0)) ∧ Below w.heap.size w w' := by
 have hm : n0 ≤ 9223372036854775807 := by have k1 := h.2.1; have k2 := h.2.2.1; unfold maxLen at k2; omega
 by_cases hn : n0 ≤ 256
 ·have hgt : ¬ (256 : Int) < (n0 : Int) := by omega
  have J := Lib.hid (l09Norm a0 n0 c0' y0 w h (by omega))
  have he : nvB y0 n0 = nmB y0 n0 := by unfold nvB; rw [decide_eq_true hn]; rfl
  have he2 : nvT y0 n0 = nmT y0 n0 := by unfold nvT nmT; rw [he]
  rw [he, he2]
  clear h he he2
  go_enter Try.func17, Try.ntmps17
  go_wp2_with fail
  refine J.out.mono ?_
  rintro e w1 ⟨⟨v, rfl, hv⟩, hB⟩
  have HV := Lib.hid hv
  have HB := Lib.hid hB
  clear hv hB
  go_wp2
  go_ret2
  exact ⟨⟨_, rfl, HV.out⟩, HB.out⟩
 ·have hgt : (256 : Int) < (n0 : Int) := by omega
  have he : nvB y0 n0 = false := by unfold nvB; rw [decide_eq_false hn]; rfl
  have he2 : nvT y0 n0 = [] := by unfold nvT; rw [he]; rfl
  rw [he, he2]
  clear h he he2
  go_enter Try.func17, Try.ntmps17
  go_wp2
  go_ret2
  exact ⟨⟨_, rfl, RV.nil _ _⟩, Below.refl _ _⟩
end Go.Proofs.Ytkdoibglgkcbkaa
namespace Go.Proofs.Ytkdoibglgkcbkaa
open Go Fk Go.RowKit
set_option linter.unusedVariables false
theorem Bx.away {w w1 w2 : World} {L : List (Nat × List Value)} {lo hi : Nat} (h : Bx w L w1) (hM : Mark lo hi w1 w2) (hl : w.heap.size ≤ lo) (ho : ∀ b l, (b, l) ∈ L → b < lo ∨ hi ≤ b) : Bx w L w2 :=
 ⟨h.1.trans (hM.below.mono hl), fun b l hm => ⟨fun i v hv => hM.cell (ho b l hm) ((h.2 b l hm).1 i v hv), fun i => by rw [hM.frozen _ _ (h.2 b l hm).2.2.1]; exact (h.2 b l hm).2.1 i, Nat.lt_of_lt_of_le (h.2 b l hm).2.2.1 hM.below.size, (h.2 b l hm).2.2.2⟩⟩
theorem vec_own {lo hi Q n cap : Nat} {w : World} {ys : List C3} (h : IsVs w (some ⟨Q, 0, none⟩) n cap ys) (hf : ∀ i, w.frozen? ⟨Q, i, none⟩ = false) (h1 : lo ≤ Q) (h2 : Q < hi) (h3 : Q < w.heap.size) : Own lo hi w Q 0 (n * 3) := by
 refine ⟨h1, h2, h3, fun j hj => ⟨?_, hf _⟩⟩
 obtain ⟨p, q, r, k0, k1, k2, _⟩ := h.2.2.2.2 _ rfl (j / 3) (by omega)
 rw [addr_add', Nat.zero_add] at k0 k1 k2
 rw [Nat.zero_add]
 rcases (show j % 3 = 0 ∨ j % 3 = 1 ∨ j % 3 = 2 by omega) with e | e | e
 ·rw [show j / 3 * 3 = j by omega] at k0; exact ⟨_, k0⟩
 ·rw [show j / 3 * 3 + 1 = j by omega] at k1; exact ⟨_, k1⟩
 ·rw [show j / 3 * 3 + 2 = j by omega] at k2; exact ⟨_, k2⟩
end Go.Proofs.Ytkdoibglgkcbkaa
namespace Go.Proofs.Ytkdoibglgkcbkaa
namespace Fk
open Go Go.RowKit
set_option linter.unusedVariables false
section
open Go.ChangeShapes Go.WideShapes Go.Deep
variable {H : Type} {enc : TypeId × Value → H} {P : Program} {w : World} {base : Nat} {held : Bool}
theorem open_vecs {t ev : TypeId} {f0 f1 f2 : Field} {a : Option Addr} {len cap : Nat} {d : DataW H} {p : List MemPlace}
  (hp : P.underlying t = some (.slice ev)) (hev : P.underlying ev = some (.struct #[f0, f1, f2])) (honev : oneCellFields P #[f0, f1, f2] = true) (hCv : P.cellsOf ev = 3)
  (he0 : P.underlying f0.type = some (.float .f32)) (he1 : P.underlying f1.type = some (.float .f32)) (he2 : P.underlying f2.type = some (.float .f32))
  (h : DataW.Trod enc P w base (fun _ => true) held t (.slice a len cap) d p) : ∃ cs, IsVs w a len cap cs := by
 obtain ⟨fuel, hf⟩ := h
 obtain ⟨a', len', cap', cs, e, hv⟩ := trod_vecs hp hev honev hCv he0 he1 he2 (by simpa [Value.cells] using hf)
 cases e
 exact ⟨cs, hv⟩
end
end Fk
end Go.Proofs.Ytkdoibglgkcbkaa
namespace Go.Proofs.Ytkdoibglgkcbkaa
open Go Fk Go.RowKit
set_option linter.unusedVariables false
set_option maxRecDepth 16000
def MrkV (w : World) (a : Option Addr) (n : Nat) : Prop := (a = none → n = 0) ∧ ∀ b o s, a = some ⟨b, o, s⟩ → s = none ∧ ∀ j, j < n * 3 → w.cell? ⟨b, o + j, none⟩ = some (.float .f32 (floatOfInt .f32 ((1 + j : Nat) : Int)))
theorem mark_anyV (lo hi : Nat) (a : Option Addr) (n cap : Nat) (w : World) (h : Lst lo hi w a (n * 3)) (hn : n ≤ 2000000) :
  Calls Try.prog 21 #[.slice a n cap, .int .i64 1] w fun e w' => e = .returned (.int .i64 ((1 + n * 3 : Nat) : Int)) ∧ MrkV w' a n ∧ Mark lo hi w w' := by
 rcases h with ⟨rfl, h0⟩ | ⟨b, rfl, hown⟩
 ·obtain rfl : n = 0 := by omega
  go_enter Try.func21, Try.ntmps21
  go_wp2
  refine wp_loop_rounds 1 ?_
  rw [rounds_succ]
  go_wp2
  go_ret
  exact ⟨rfl, ⟨fun _ => rfl, fun _ _ _ h => by cases h⟩, Mark.refl _ _ _⟩
 ·refine (laws_markVectorS lo hi b 0 n cap 1 w hown (by omega)).mono ?_
  rintro e w' ⟨he, hd, _, hM⟩
  exact ⟨he, ⟨fun h => by (cases h), fun b' o s h => by cases h; exact ⟨rfl, hd⟩⟩, hM⟩
theorem held_anyV (a : Option Addr) (n cap : Nat) (w : World) (h : MrkV w a n) (hn : n ≤ 2000000) :
  Calls Try.prog 22 #[.slice a n cap, .int .i64 1] w fun e w' => e = .returned (.int .i64 ((1 + n * 3 : Nat) : Int)) ∧ w' = w := by
 cases a with
 | none =>
  obtain rfl := h.1 rfl
  go_enter Try.func22, Try.ntmps22
  go_wp2
  refine wp_loop_rounds 1 ?_
  rw [rounds_succ]
  go_wp2
  go_ret
  exact ⟨rfl, by first | rfl | trivial⟩
 | some x =>
  obtain ⟨b, o, s⟩ := x
  obtain ⟨rfl, hd⟩ := h.2 b o s rfl
  exact laws_heldVectorS b o n cap 1 w hd (by omega)
theorem MrkV.below {w w' : World} {a : Option Addr} {n : Nat} (h : MrkV w a n) (hB : Below w.heap.size w w') : MrkV w' a n :=
 ⟨h.1, fun b o s e => ⟨(h.2 b o s e).1, fun j hj => cell_below hB ((h.2 b o s e).2 j hj)⟩⟩
theorem isv_mark {lo hi lo' hi' : Nat} {w0 w w' : World} {a : Option Addr} {n cap : Nat} {L : List C3} (h : IsVs w a n cap L) (hl : Lst lo' hi' w0 a (n * 3)) (hM : Mark lo hi w w') (ho : hi' ≤ lo ∨ hi ≤ lo') : IsVs w' a n cap L := by
 obtain ⟨h1, h2, h3, h5, h6⟩ := h
 refine ⟨h1, h2, h3, h5, fun x hx i hi => ?_⟩
 rcases hl with ⟨e, _⟩ | ⟨b, e, hown⟩
 ·rw [e] at hx; cases hx
 ·rw [e] at hx; cases hx
  obtain ⟨p, q, r, k0, k1, k2, hf⟩ := h6 _ e i hi
  rw [addr_add'] at k0 k1 k2
  have u1 := hown.1
  have u2 := hown.2.1
  exact ⟨p, q, r, by rw [addr_add']; exact hM.cell (by omega) k0, by rw [addr_add']; exact hM.cell (by omega) k1, by rw [addr_add']; exact hM.cell (by omega) k2, hf⟩
end Go.Proofs.Ytkdoibglgkcbkaa
namespace Go.Proofs.Ytkdoibglgkcbkaa
open Go Fk Go.RowKit
set_option linter.unusedVariables false
set_option maxRecDepth 16000
set_option maxHeartbeats 40000000 in
theorem normVectors_law (a0 : Option Addr) (n0 c0 : Nat) (y0 : List C3) (w : World) (h0 : IsVs w a0 n0 c0 y0) :
  Calls Try.prog 4 #[.slice a0 n0 c0] w fun e w' => e = .returned (.bool true) ∧ Below w.heap.size w w' := by
 have BX : Hid (Bx w [] w) := Lib.hid (Bx.nil w)
 have HSP := Lib.hid (fun (a0 : Option Addr) (c0 : Nat) (w : World) (h0 : IsVs w a0 n0 c0 y0) => spec_NormVectors a0 n0 c0 y0 w h0)
 have HIM := Lib.hid (fun (a0 : Option Addr) (c0 : Nat) (w : World) (h0 : IsVs w a0 n0 c0 y0) => impl_NormVectors a0 n0 c0 y0 w h0)
 have H0 := Lib.hid h0
 have hm0 : n0 ≤ 9223372036854775807 := by have qq := h0.2.1; have qr := h0.2.2.1; unfold maxLen at qr; omega
 have len0 := nvT_len y0 n0
 generalize nvT y0 n0 = R0 at *
 generalize nvB y0 n0 = R1 at *
 clear h0
 generalize hR0 : R0.length = m0 at *
 have HR0 := Lib.hid hR0
 clear hR0
 have ve1 : (R1 == R1) = true := by cases R1 <;> rfl
 have vn1 : (R1 != R1) = false := by cases R1 <;> rfl
 go_enter Try.func4, Try.ntmps4
 have hr0 : (0 : Int) ≤ 1048576 := by decide
 have hr1 : (1048576 : Int) ≤ 1048576 := by decide
 go_wp2_with fail
 refine (laws_szVectorS a0 n0 c0 1048576 w hr0 hr1 hm0).mono ?_
 rintro e w1 ⟨⟨r0_, rfl, hr⟩, hw⟩
 rw [hw]
 clear hw
 rcases hr with rfl | ⟨hq0, hp0, hl0⟩
 ·go_wp2
  go_ret
  exact ⟨rfl, BX.out.bel⟩
 go_wp2_with fail
 refine (laws_toVectorS a0 n0 c0 y0 w (H0.out.below BX.out.bel) hl0).mono ?_
 rintro e w2 ⟨rfl, hi, hB, _⟩
 replace BX := Lib.hid (BX.out.call hB)
 have Z1 := Lib.hid (hB.size)
 clear hB
 have Js0 := Lib.hid hi
 clear hi
 go_wp2_with fail
 refine (HSP.out _ _ _ Js0.out).mono ?_
 rintro e w3 ⟨⟨vs0, rfl, hv0⟩, hB⟩
 clear Js0
 replace BX := Lib.hid (BX.out.call hB)
 clear hB
 have LT : Hid (w.heap.size ≤ w3.heap.size) := Lib.hid BX.out.bel.size
 obtain ⟨sa0, sc0, rfl, hsi, _⟩ := hv0
 rw [HR0.out] at hsi ⊢
 have SI0 := Lib.hid hsi
 clear hsi
 go_wp2_with fail
 have SX := Lib.hid (Below.refl w3.heap.size w3)
 refine (laws_toVectorS' a0 n0 c0 y0 _ (H0.out.below BX.out.bel) hl0).mono ?_
 rintro e w4 ⟨rfl, hi, hB, hlt, hf⟩
 replace BX := Lib.hid (BX.out.call hB)
 replace SX := Lib.hid (SX.out.trans (hB.mono SX.out.size))
 have Z2 := Lib.hid (hB.size)
 clear hB
 have J0 := Lib.hid (And.intro hi (vec_own (lo := w3.heap.size) (hi := w4.heap.size) hi hf (Nat.le_refl _) hlt hlt))
 have Z3 := Lib.hid (hlt)
 clear hi hf hlt
 obtain ⟨Q0, hQ0⟩ : ∃ Q, Q = w3.heap.size := ⟨_, rfl⟩
 have Z4 := Lib.hid (hQ0)
 rw [← hQ0] at J0 ⊢
 clear hQ0
 go_wp2_with fail
 refine (HIM.out _ _ _ J0.out.1).mono ?_
 rintro e w5 ⟨⟨vg0, rfl, hv0⟩, hB⟩
 replace BX := Lib.hid (BX.out.call hB)
 replace SX := Lib.hid (SX.out.trans (hB.mono SX.out.size))
 replace J0 := Lib.hid (And.intro (J0.out.1.below hB) (J0.out.2.below hB))
 have Z5 := Lib.hid (hB.size)
 clear hB
 obtain ⟨ga0, gc0, rfl, hgi, hgl⟩ := hv0
 rw [HR0.out] at hgi hgl ⊢
 have GI0 := Lib.hid hgi
 have GL0 := Lib.hid hgl
 clear hgi hgl
 go_wp2_with fail
 refine (laws_eqVectorS _ _ _ _ _ _ _ GI0.out (SI0.out.below SX.out)).mono ?_
 rintro e w6 ⟨rfl, hB⟩
 replace BX := Lib.hid (BX.out.call hB)
 replace SX := Lib.hid (SX.out.trans (hB.mono SX.out.size))
 replace J0 := Lib.hid (And.intro (J0.out.1.below hB) (J0.out.2.below hB))
 replace GI0 := Lib.hid (GI0.out.below hB)
 replace GL0 := Lib.hid (GL0.out.below hB)
 have Z6 := Lib.hid (hB.size)
 clear hB
 go_wp2_with fail
 refine (laws_toVectorS a0 n0 c0 y0 w6 (H0.out.below BX.out.bel) hl0).mono ?_
 rintro e w7 ⟨rfl, hi, hB, _⟩
 replace BX := Lib.hid (BX.out.call hB)
 replace SX := Lib.hid (SX.out.trans (hB.mono SX.out.size))
 replace J0 := Lib.hid (And.intro (J0.out.1.below hB) (J0.out.2.below hB))
 replace GI0 := Lib.hid (GI0.out.below hB)
 replace GL0 := Lib.hid (GL0.out.below hB)
 have Z7 := Lib.hid (hB.size)
 clear hB
 have JY0 := Lib.hid hi
 clear hi
 go_wp2_with fail
 refine (laws_eqVectorS _ _ n0 _ _ y0 _ J0.out.1 JY0.out).mono ?_
 rintro e w8 ⟨rfl, hB⟩
 clear JY0
 replace BX := Lib.hid (BX.out.call hB)
 replace SX := Lib.hid (SX.out.trans (hB.mono SX.out.size))
 replace J0 := Lib.hid (And.intro (J0.out.1.below hB) (J0.out.2.below hB))
 replace GI0 := Lib.hid (GI0.out.below hB)
 replace GL0 := Lib.hid (GL0.out.below hB)
 have Z8 := Lib.hid (hB.size)
 clear hB
 go_wp2_with fail
 have hkb : 1 ≤ 4000000000000000000 := by omega
 refine (laws_markVectorS Q0 w4.heap.size Q0 0 n0 n0 1 w8 J0.out.2 (by omega)).mono ?_
 rintro e w9 ⟨rfl, _, _, hM⟩
 clear hkb
 obtain ⟨zk0, hzk0⟩ : ∃ z, z = 1 + n0 * 3 := ⟨_, rfl⟩
 have hzb0 : zk0 ≤ 1 + 3145728 := by omega
 rw [← hzk0]
 clear hzk0
 have hk0 : ¬ ((zk0 : Int) < 0) := by omega
 clear J0
 have hall : ∀ (b : Nat) (l : List Value), (b, l) ∈ ([] : List (Nat × List Value)) → b < Q0 ∨ w4.heap.size ≤ b := fun b l hm => by cases hm
 replace BX := Lib.hid (BX.out.away hM (by have z1 := Z1.out; have z2 := Z2.out; have z3 := Z3.out; have z4 := Z4.out; have z5 := Z5.out; have z6 := Z6.out; have z7 := Z7.out; have z8 := Z8.out; have zl := LT.out; omega) hall)
 clear hall
 replace SX := Lib.hid (SX.out.trans (hM.below.mono (by have z1 := Z1.out; have z2 := Z2.out; have z3 := Z3.out; have z4 := Z4.out; have z5 := Z5.out; have z6 := Z6.out; have z7 := Z7.out; have z8 := Z8.out; have zl := LT.out; omega)))
 replace GI0 := Lib.hid (isv_mark GI0.out GL0.out hM (by first | exact .inl (by have z1 := Z1.out; have z2 := Z2.out; have z3 := Z3.out; have z4 := Z4.out; have z5 := Z5.out; have z6 := Z6.out; have z7 := Z7.out; have z8 := Z8.out; have zl := LT.out; omega) | exact .inr (by have z1 := Z1.out; have z2 := Z2.out; have z3 := Z3.out; have z4 := Z4.out; have z5 := Z5.out; have z6 := Z6.out; have z7 := Z7.out; have z8 := Z8.out; have zl := LT.out; omega)))
 replace GL0 := Lib.hid (GL0.out.mark hM)
 have Z9 := Lib.hid (hM.below.size)
 clear hM
 go_wp2_with fail
 refine (laws_eqVectorS _ _ _ _ _ _ _ GI0.out (SI0.out.below SX.out)).mono ?_
 rintro e w10 ⟨rfl, hB⟩
 replace BX := Lib.hid (BX.out.call hB)
 replace SX := Lib.hid (SX.out.trans (hB.mono SX.out.size))
 replace GI0 := Lib.hid (GI0.out.below hB)
 replace GL0 := Lib.hid (GL0.out.below hB)
 have Z10 := Lib.hid (hB.size)
 clear hB
 go_wp2_with fail
 clear GI0
 refine (mark_anyV w4.heap.size w5.heap.size ga0 m0 gc0 w10 GL0.out (by omega)).mono ?_
 rintro e w11 ⟨rfl, hmk, hM⟩
 clear GL0
 have hall : ∀ (b : Nat) (l : List Value), (b, l) ∈ ([] : List (Nat × List Value)) → b < w4.heap.size ∨ w5.heap.size ≤ b := fun b l hm => by cases hm
 replace BX := Lib.hid (BX.out.away hM (by have z1 := Z1.out; have z2 := Z2.out; have z3 := Z3.out; have z4 := Z4.out; have z5 := Z5.out; have z6 := Z6.out; have z7 := Z7.out; have z8 := Z8.out; have z9 := Z9.out; have z10 := Z10.out; have zl := LT.out; omega) hall)
 clear hall
 replace SX := Lib.hid (SX.out.trans (hM.below.mono (by have z1 := Z1.out; have z2 := Z2.out; have z3 := Z3.out; have z4 := Z4.out; have z5 := Z5.out; have z6 := Z6.out; have z7 := Z7.out; have z8 := Z8.out; have z9 := Z9.out; have z10 := Z10.out; have zl := LT.out; omega)))
 have Z11 := Lib.hid (hM.below.size)
 clear hM
 have HMK := Lib.hid (show MrkV w11 ga0 m0 from hmk)
 clear hmk
 go_wp2_with fail
 refine (held_anyV ga0 m0 gc0 w11 HMK.out (by omega)).mono ?_
 rintro e w12 ⟨rfl, hw⟩
 rw [hw]
 clear hw
 go_wp2_with fail
 refine (laws_toVectorS a0 n0 c0 y0 w11 (H0.out.below BX.out.bel) hl0).mono ?_
 rintro e w13 ⟨rfl, hi, hB, _⟩
 replace BX := Lib.hid (BX.out.call hB)
 replace SX := Lib.hid (SX.out.trans (hB.mono SX.out.size))
 replace HMK := Lib.hid (HMK.out.below hB)
 have Z12 := Lib.hid (hB.size)
 clear hB
 have Jh0 := Lib.hid hi
 clear hi
 go_wp2_with fail
 refine (HIM.out _ _ _ Jh0.out).mono ?_
 rintro e w14 ⟨⟨vh0, rfl, hv0⟩, hB⟩
 clear Jh0
 replace BX := Lib.hid (BX.out.call hB)
 replace SX := Lib.hid (SX.out.trans (hB.mono SX.out.size))
 replace HMK := Lib.hid (HMK.out.below hB)
 have Z13 := Lib.hid (hB.size)
 clear hB
 obtain ⟨ha0, hc0, rfl, hhi, _⟩ := hv0
 rw [HR0.out] at hhi ⊢
 have HI0 := Lib.hid hhi
 clear hhi
 go_wp2_with fail
 refine (laws_eqVectorS _ _ _ _ _ _ _ HI0.out (SI0.out.below SX.out)).mono ?_
 rintro e w15 ⟨rfl, hB⟩
 clear HI0
 replace BX := Lib.hid (BX.out.call hB)
 replace SX := Lib.hid (SX.out.trans (hB.mono SX.out.size))
 replace HMK := Lib.hid (HMK.out.below hB)
 have Z14 := Lib.hid (hB.size)
 clear hB
 go_wp2_with fail
 refine (held_anyV ga0 m0 gc0 w15 HMK.out (by omega)).mono ?_
 rintro e w16 ⟨rfl, hw⟩
 rw [hw]
 clear hw
 go_wp2
 go_ret
 exact ⟨rfl, BX.out.bel⟩
theorem FnExactNormVectors_law (a0 : Option Addr) (n0 c0 : Nat) (y0 : List C3) (w : World) (h0 : IsVs w a0 n0 c0 y0) :
  Calls Try.prog 4 #[.slice a0 n0 c0] w fun e w' => e = .returned (.bool true) ∧ Below w.heap.size w w' :=
 normVectors_law a0 n0 c0 y0 w h0
end Go.Proofs.Ytkdoibglgkcbkaa
namespace Go.Proofs.Ytkdoibglgkcbkaa.fnExactNormVectorsDone
open Go.ChangeShapes Go.WideShapes Go.ChangeAt Go.RowKit
open Go.ChangeMaps (open_string shut_string)
set_option linter.unusedVariables false
theorem own : ownKnob Try.prog.godebug = none := by kernel_rfl
theorem laidOut : laidOutB Try.prog = true := by kernel_rfl
set_option maxRecDepth 100000 in
theorem lifted (os : Os) (started : os.Started) (H : Type) (enc : TypeId × Value → H) :
  ReturnsInHanded {} Try.checked os 4 .any (Rows.fnExactNormVectorsSpec.pre6 enc Try.prog Try.f4 Rows.fnExactNormVectorsRow.domain false) (Rows.fnExactNormVectorsSpec.post enc Try.prog Try.f4 false true false false) := by
 refine returnsInHanded_of_change (C := Try.checked) own started (by kernel_rfl) Try.func4
  (ChangeSpec.witness6 (enc := enc) (C := Try.checked) false ⟨#[], #[.slice none 0 0], []⟩ 8 (by kernel_rfl) (by kernel_rfl) (by kernel_rfl) (by kernel_rfl)) ?_
 intro W base args ds gs before hval0 hW hcnd _
 have hval : ∀ (j : Nat) t v, Try.f4.params[j]? = some t → args[j]? = some v → Value.okWide Try.prog W .any base t v := hval0
 have hW' := hW
 obtain ⟨p, q, hA0, hV, rfl, hfz, hnd⟩ := hW
 have hA : DataW.TrodAll enc Try.prog W 0 (fun _ => true) true Try.f4.params.toList args.toList ds p := hA0
 rw [Try.params4] at hA hval
 obtain ⟨v0, vs0, d0, ds0, p0, q0, hargs, rfl, rfl, h0, r0⟩ := trodAll_cons hA
 obtain ⟨rfl, rfl, rfl⟩ := trodAll_nil r0
 obtain rfl : args = #[v0] := by cases args; simp_all
 obtain ⟨rfl, rfl⟩ := trodVars_none hV
 have k0 := h0
 have lt0 : ∀ x ∈ p0, x.block < W.heap.size := by obtain ⟨m, hm⟩ := k0; exact DataW.trod_lt m _ _ _ hm
 obtain ⟨a0, len0, cap0, e0⟩ := okWide_slice Try.underlying28 (hval 0 28 v0 rfl rfl)
 subst e0
 obtain ⟨cs0, w0⟩ := Fk.open_vecs Try.underlying28 Try.underlying60 (by kernel_rfl) (by kernel_rfl) Try.underlying22 Try.underlying22 Try.underlying22 h0
 clear hA0 hval0
 refine (FnExactNormVectors_law a0 len0 cap0 cs0 W w0).mono fun e W' ⟨he, bel⟩ => ?_
 subst he
 exact ⟨_, rfl, _, _, _, [], _, [], hW', trodAll_mk1 (shut_bool Try.underlying4 _), (trodAll_cons_mk (Below.trod laidOut (by kernel_rfl) (of_decide_eq_true (by kernel_rfl)) k0 bel lt0) trodAll_mk0), rfl, bel.frame _, fun h => by cases h⟩
end Go.Proofs.Ytkdoibglgkcbkaa.fnExactNormVectorsDone

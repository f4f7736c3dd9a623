/-
Texts in one: what NormVectors stands on, part 3. Conditions: those of each.
-/
import Derived.Test.YtkdoibglgkcbkaaKNormVectors2
import Derived.Lib.SmallJoins
import Derived.ChangeSlices
-- halved
namespace Go.Proofs.Ytkdoibglgkcbkaa
namespace Reg5
open Go Reg
set_option linter.unusedVariables false
section
variable {P : Program} {ops : Array Oper} {Q : Exit → Act → World → Prop} {md : Region.Mode}
section
variable {m : Nat} {a0 : Act} {C D : World → Prop} {G G' : World → World → Prop} {R : Nat → Value → World → Prop} {T : Nat → Act → World → Prop} {i : Nat} {o : Oper}
end
end
end Reg5
end Go.Proofs.Ytkdoibglgkcbkaa
namespace Go.Proofs.Ytkdoibglgkcbkaa
open Go Fk Go.RowKit
set_option linter.unusedVariables false
set_option maxRecDepth 8000
end Go.Proofs.Ytkdoibglgkcbkaa
namespace Go.Proofs.Ytkdoibglgkcbkaa
open Go Fk Go.RowKit
set_option linter.unusedVariables false
set_option maxRecDepth 8000
end Go.Proofs.Ytkdoibglgkcbkaa
namespace Go.Proofs.Ytkdoibglgkcbkaa
open Go Fk Go.RowKit
set_option linter.unusedVariables false
set_option maxRecDepth 8000
end Go.Proofs.Ytkdoibglgkcbkaa
namespace Go.Proofs.Ytkdoibglgkcbkaa
open Go Fk Go.RowKit
set_option linter.unusedVariables false
set_option maxRecDepth 8000
def PVf (n : Nat) (xs : List Value) (F : Nat → C3) : Prop := ∀ j, j < n → ∃ p q r, xs[j * 3]? = some (.float .f32 p) ∧ xs[j * 3 + 1]? = some (.float .f32 q) ∧ xs[j * 3 + 2]? = some (.float .f32 r) ∧ FV .f32 p (F j).1 ∧ FV .f32 q (F j).2.1 ∧ FV .f32 r (F j).2.2
def scaleC' (c : C3) (q : Option Nat) : C3 := (fop .mul .f32 c.1 q, fop .mul .f32 c.2.1 q, fop .mul .f32 c.2.2 q)
end Go.Proofs.Ytkdoibglgkcbkaa
namespace Go.Proofs.Ytkdoibglgkcbkaa
open Go Fk Go.RowKit
set_option linter.unusedVariables false
set_option maxRecDepth 8000
def mkN (f : Nat → C3) (n k : Nat) : List C3 := (List.range n).map fun j => if j < k then f j else z3
theorem mkN_len (f : Nat → C3) (n k : Nat) : (mkN f n k).length = n := by simp [mkN]
theorem mkN_zero (f : Nat → C3) (n : Nat) : mkN f n 0 = List.replicate n z3 := by
 apply List.ext_getElem (by simp [mkN])
 intro i h1 h2
 simp [mkN]
theorem mkN_set {f : Nat → C3} {n k : Nat} (hk : k < n) : (mkN f n k).set k (f k) = mkN f n (k + 1) := by
 apply List.ext_getElem (by simp [mkN])
 intro i h1 h2
 simp only [mkN, List.getElem_set, List.getElem_map, List.getElem_range]
 by_cases hik : k = i
 ·subst hik; simp
 ·rw [if_neg hik]
  by_cases h : i < k
  ·rw [if_pos h, if_pos (by omega)]
  ·rw [if_neg h, if_neg (by omega)]
def nmS (ys : List C3) (n : Nat) : Option Nat := innL ys ys n
def nmB (ys : List C3) (n : Nat) : Bool := sizeC (nmS ys n)
def nmR (ys : List C3) (n : Nat) : Option Nat := fop .quo .f32 (some 1065353216) (rootC (nmS ys n))
def nmF (ys : List C3) (n j : Nat) : C3 := scaleC' (ys.getD j c0) (nmR ys n)
def nmT (ys : List C3) (n : Nat) : List C3 := bif nmB ys n then mkN (nmF ys n) n n else []
theorem nmT_len (ys : List C3) (n : Nat) : (nmT ys n).length ≤ n := by
 unfold nmT
 cases nmB ys n
 ·exact Nat.zero_le _
 ·rw [cond_true, mkN_len]; exact Nat.le_refl _
theorem one_fv : FV .f32 1065353216 (some 1065353216) := ⟨by decide, by decide⟩
abbrev fInn : Value := .func (.func 57) #[] #[]
abbrev fSca : Value := .func (.func 58) #[] #[]
set_option maxHeartbeats 4000000 in
theorem impl_normed (a : Option Addr) (n cap : Nat) (ys : List C3) (w : World) (h : IsVs w a n cap ys) (hn : n ≤ 1048576) :
  Calls Try.prog 56 #[.slice a n cap, fInn, fSca] w fun e w' => (nmB ys n = true → ∃ g, e = .returned (.tuple #[.slice (some ⟨g, 0, none⟩) n n, .bool true]) ∧ St w [] g (nmT ys n) w') ∧ (nmB ys n = false → e = .returned (.tuple #[.slice none 0 0, .bool false]) ∧ Below w.heap.size w w') := by
 have uv := Try.underlying67
 have u := Try.underlying22
 have hm : n ≤ 9223372036854775807 := by omega
 have J := Lib.hid (impl_innerSum a a n cap cap ys ys w h h)
 have H := Lib.hid h
 have HS : Hid (innL ys ys n = nmS ys n) := Lib.hid rfl
 have HT : Hid (nmB ys n = true → nmT ys n = mkN (nmF ys n) n n) := Lib.hid (fun hb => by unfold nmT; rw [hb]; rfl)
 have HF : Hid (∀ j, nmF ys n j = scaleC' (ys.getD j c0) (nmR ys n)) := Lib.hid (fun j => rfl)
 have HR : Hid (∀ q r w9, FV .f32 q (nmS ys n) → FV .f32 r (rootC (nmS ys n)) → FV .f32 (fR .quo .f32 1065353216 r w9) (nmR ys n)) := Lib.hid (fun q r w9 h1 h2 => FV_fR one_fv h2)
 have HB : Hid (∀ q, FV .f32 q (nmS ys n) → sizeB q = nmB ys n) := Lib.hid (fun q hq => hq.size)
 clear h
 generalize nmF ys n = F at *
 generalize nmR ys n = RR at *
 generalize nmS ys n = SQ at *
 generalize hb : nmB ys n = nb at *
 cases nb
 ·clear HT HF HR
  have JM := Lib.hid (fun q w1 (hq : FV .f32 q SQ) => impl_isMeasure q w1 hq.1)
  go_enter Try.func56, Try.ntmps56
  go_wp2_with fail
  refine J.out.mono ?_
  rintro e w1 ⟨q, rfl, hq, hB1⟩
  rw [HS.out] at hq
  have hsz := HB.out q hq
  have HB1 := Lib.hid hB1
  have JQ := Lib.hid (JM.out q w1 hq)
  rw [hsz] at JQ
  clear hsz hq hB1 JM
  go_wp2_with fail
  refine JQ.out.mono ?_
  rintro e w2 ⟨rfl, nd, hw⟩
  rw [hw]
  clear hw
  go_wp2
  go_ret2
  refine ⟨fun h => absurd h (by decide), fun _ => ?_⟩
  exact ⟨rfl, below_drewN HB1.out _⟩
 ·have HT' := Lib.hid (HT.out (by first | rfl | trivial))
  have JM := Lib.hid (fun q w1 (hq : FV .f32 q SQ) => impl_isMeasure q w1 hq.1)
  have hmk := fun W : World => make_vecs W n hn
  clear HT hb
  go_enter Try.func56, Try.ntmps56
  go_wp2_with fail
  refine J.out.mono ?_
  rintro e w1 ⟨q, rfl, hq, hB1⟩
  rw [HS.out] at hq
  have hsz := HB.out q hq
  have HB1 := Lib.hid hB1
  have HQ := Lib.hid hq
  have JQ := Lib.hid (JM.out q w1 hq)
  rw [hsz] at JQ
  clear hsz hq hB1 JM
  go_wp2_with fail
  refine JQ.out.mono ?_
  rintro e w2 ⟨rfl, nd, hw⟩
  have HB2 : Hid (Below w.heap.size w w2) := Lib.hid (by rw [hw]; exact below_drewN HB1.out nd)
  clear hw JQ HB1
  go_wp2_with fail
  refine (impl_RootNumber q SQ w2 HQ.out).mono ?_
  rintro e w3 ⟨r, rfl, hr, nd', hw⟩
  have HB3 : Hid (Below w.heap.size w w3) := Lib.hid (by rw [hw]; exact below_drewN HB2.out nd')
  have HSH := Lib.hid (fun w9 => HR.out q r w9 HQ.out hr)
  clear hw hr HB2 HR
  go_wp2_with fail
  generalize hsh : fR BinOp.quo FloatKind.f32 1065353216 r w3 = sh at *
  generalize fN BinOp.quo FloatKind.f32 1065353216 r = nq at *
  have FSH : Hid (FV .f32 sh RR) := Lib.hid (hsh ▸ HSH.out w3)
  have S0 : Hid (St w [] w3.heap.size (mkN F n 0) ((w3.alloc (.cells (madeCells #[.float .f32 0, .float .f32 0, .float .f32 0] (n * 3)) 67)).drewN nq)) := Lib.hid ((St.of (⟨HB3.out, fun b l hm => absurd hm (by simp)⟩ : Bx w [] w3) ((Below.refl _ _).alloc (Nat.le_refl _) _) (Nat.le_refl _) (by rw [mkN_zero]; exact OwnVs.made hn)).drewN nq)
  have HG : Hid (w.heap.size ≤ w3.heap.size) := Lib.hid HB3.out.size
  clear hsh HSH HB3 hmk
  generalize ((w3.alloc (.cells (madeCells #[.float .f32 0, .float .f32 0, .float .f32 0] (n * 3)) 67)).drewN nq) = W7 at *
  generalize w3.heap.size = g at *
  go_loopw [28] (fun i w' => ∃ k : Nat, k ≤ n ∧ i = .int .i64 k ∧ Aside (St w [] g (mkN F n k) w')) (fun i _ => n - (intOf i).toNat)
  case atStart => exact ⟨0, Nat.zero_le _, rfl, S0.out⟩
  case round =>
   obtain ⟨k, hk, rfl, hA⟩ := hrel
   have SK := Lib.hid hA.out
   clear hA S0
   by_cases hlt : k < n
   ·obtain ⟨b1, o1, rfl, hcell1⟩ := (H.out.below SK.out.bel).some (by omega)
    obtain ⟨p, q', t, c0', c1', c2', e0, e1, e2⟩ := hcell1 k hlt
    have hk0 : (0 : Int) ≤ (k : Int) := by omega
    have hk1 : (k : Int) < (n : Int) := by omega
    have HSN := Lib.hid (mkN_set (f := F) hlt)
    have HFK := Lib.hid (HF.out k)
    have FA := Lib.hid (And.intro e0 (And.intro e1 e2))
    have HLT := Lib.hid hlt
    clear hcell1 e0 e1 e2
    generalize ys.getD k c0 = C1 at *
    go_wp2_with fail
    have hG : Below wr.heap.size wr (wr.alloc (.cells #[.float .f32 p, .float .f32 q', .float .f32 t] 67)) := (Below.refl _ _).alloc (Nat.le_refl _) _
    have S1 := Lib.hid (SK.out.call hG)
    clear hG c0' c1' c2' SK
    generalize (wr.alloc (.cells #[.float .f32 p, .float .f32 q', .float .f32 t] 67)) = W8 at *
    refine (impl_ScaleVector _ _ _ _ _ _ _ _ _ FA.out.1 FA.out.2.1 FA.out.2.2 FSH.out).mono ?_
    rintro e w9 ⟨y, z, v, rfl, f0, f1, f2, hB9⟩
    have S2 := Lib.hid (S1.out.call hB9)
    have hl : k < (mkN F n k).length := by rw [mkN_len]; exact hlt
    obtain ⟨p0, q0, r0, ⟨y0, y1, y2⟩, -⟩ := S2.out.own.at hl
    have j0 := S2.out.own.2.1 (k * 3)
    have j1 := S2.out.own.2.1 (k * 3 + 1)
    have j2 := S2.out.own.2.1 (k * 3 + 2)
    have S3 := Lib.hid (S2.out.put hl (c := scaleC' C1 RR) ⟨f0, f1, f2⟩)
    rw [← HFK.out, HSN.out] at S3
    clear f0 f1 f2 hB9 S1 S2 hl
    go_wp2
    go_roundw
    case rel => exact ⟨k + 1, by omega, by go_num, S3.out⟩
    case measure => simp [intOf]; omega
   ·obtain rfl : k = n := by omega
    go_wp2
    go_ret2
    refine ⟨fun _ => ?_, fun h => absurd h (by decide)⟩
    exact ⟨g, rfl, by rw [HT'.out]; exact SK.out⟩
end Go.Proofs.Ytkdoibglgkcbkaa
namespace Go.Proofs.Ytkdoibglgkcbkaa
namespace Fk
open Go Go.RowKit
set_option linter.unusedVariables false
structure HW where
 p : Int
 k : Int
 x : Nat
 y : Nat
 z : Nat
 s : Nat
 t : Nat
 u : Nat
section
open Go.ChangeShapes Go.WideShapes Go.Deep
variable {H : Type} {enc : TypeId × Value → H} {P : Program} {w : World} {base : Nat} {held : Bool}
end
end Fk
end Go.Proofs.Ytkdoibglgkcbkaa
namespace Go.Proofs.Ytkdoibglgkcbkaa
open Go Fk Go.RowKit
set_option linter.unusedVariables false
set_option maxRecDepth 8000
end Go.Proofs.Ytkdoibglgkcbkaa
namespace Go.Proofs.Ytkdoibglgkcbkaa
open Go Fk Go.RowKit
set_option linter.unusedVariables false
set_option maxRecDepth 8000
end Go.Proofs.Ytkdoibglgkcbkaa
namespace Go.Proofs.Ytkdoibglgkcbkaa
open Go Fk Go.RowKit
set_option linter.unusedVariables false
set_option maxRecDepth 8000
end Go.Proofs.Ytkdoibglgkcbkaa
namespace Go.Proofs.Ytkdoibglgkcbkaa
open Go Fk Go.RowKit
set_option linter.unusedVariables false
set_option maxRecDepth 8000
end Go.Proofs.Ytkdoibglgkcbkaa
namespace Go.Proofs.Ytkdoibglgkcbkaa
open Go Fk Go.RowKit
set_option linter.unusedVariables false
set_option maxRecDepth 8000
end Go.Proofs.Ytkdoibglgkcbkaa
namespace Go.Proofs.Ytkdoibglgkcbkaa
open Go Fk Go.RowKit
set_option linter.unusedVariables false
set_option maxRecDepth 8000
end Go.Proofs.Ytkdoibglgkcbkaa
namespace Go.Proofs.Ytkdoibglgkcbkaa
open Go Fk Go.RowKit
set_option linter.unusedVariables false
set_option maxRecDepth 8000
end Go.Proofs.Ytkdoibglgkcbkaa
namespace Go.Proofs.Ytkdoibglgkcbkaa
open Go Fk Go.RowKit
set_option linter.unusedVariables false
set_option maxRecDepth 8000
end Go.Proofs.Ytkdoibglgkcbkaa
namespace Go.Proofs.Ytkdoibglgkcbkaa
open Go Fk Go.RowKit
set_option linter.unusedVariables false
set_option maxRecDepth 8000
end Go.Proofs.Ytkdoibglgkcbkaa
namespace Go.Proofs.Ytkdoibglgkcbkaa
open Go Fk Go.RowKit
set_option linter.unusedVariables false
set_option maxRecDepth 8000
end Go.Proofs.Ytkdoibglgkcbkaa
namespace Go.Proofs.Ytkdoibglgkcbkaa
open Go Fk Go.RowKit
set_option linter.unusedVariables false
set_option maxRecDepth 8000
end Go.Proofs.Ytkdoibglgkcbkaa

/-
Texts in one: what EnergiesAlong stands on, part 8. Conditions: those of each.
-/
import Derived.Test.YtabccmobmppdnaaGreatKEnergiesAlong7
-- halved
namespace Go.Proofs.YtabccmobmppdnaaGreat
open Go Fk Go.RowKit
set_option linter.unusedVariables false
set_option maxRecDepth 16000
end Go.Proofs.YtabccmobmppdnaaGreat
namespace Go.Proofs.YtabccmobmppdnaaGreat
open Go Fk Go.RowKit
set_option linter.unusedVariables false
set_option maxRecDepth 16000
end Go.Proofs.YtabccmobmppdnaaGreat
namespace Go.Proofs.YtabccmobmppdnaaGreat
namespace Reg9
open Go Reg
set_option linter.unusedVariables false
section
variable {P : Program} {ops : Array Oper} {Q : Exit → Act → World → Prop} {md : Region.Mode}
def Pair (ops : Array Oper) (D : Nat → Nat → Value → Value → Prop) (j j' : Nat) (a : Act) : Prop := ∀ d d', slotOf ops j = some d → slotOf ops j' = some d' → D j j' (a.eval (.tmp d)) (a.eval (.tmp d')) ∨ D j' j (a.eval (.tmp d')) (a.eval (.tmp d))
def Obl (P : Program) (ops : Array Oper) (m : Nat) (a0 : Act) (C : World → Prop) (G : World → World → Prop) (R : Nat → Value → World → Prop) (D : Nat → Nat → Value → Value → Prop) (T : Nat → Act → World → Prop) (Q : Exit → Act → World → Prop) (i : Nat) (o : Oper) : Prop :=
 ∀ (S : Nat → Prop) a w, (i ≤ m → C w) → (m < i → T (i - 1) a w) → (i < m → ∀ j, S j → Has ops R j a w) → (i = m → ∀ j j', behind ops j i = true → behind ops j' i = true → j ≠ j' → Pair ops D j j' a) → (∀ t, ((List.range ops.size).all fun j => slotOf ops j != some t || behind ops i j) = true → a.eval (.tmp t) = a0.eval (.tmp t)) →
  (∀ j, behind ops j i = true → i ≤ m → Has ops R j a w) →
  o.wp P a w (fun a' w' => ∃ v, a' = a.put o.dst v ∧ (i < m → (o.dst ≠ none → R i v w') ∧ (∀ j d, S j → slotOf ops j = some d → D i j v (a.eval (.tmp d))) ∧ C w' ∧ G w w') ∧ (m ≤ i → T i a w')) Q
section
variable {m : Nat} {a0 : Act} {C : World → Prop} {G : World → World → Prop} {R : Nat → Value → World → Prop} {D : Nat → Nat → Value → Value → Prop} {T : Nat → Act → World → Prop} {i : Nat} {o : Oper}
end
end
end Reg9
end Go.Proofs.YtabccmobmppdnaaGreat
namespace Go.Proofs.YtabccmobmppdnaaGreat
open Go Fk Go.RowKit
set_option linter.unusedVariables false
set_option maxRecDepth 16000
end Go.Proofs.YtabccmobmppdnaaGreat
namespace Go.Proofs.YtabccmobmppdnaaGreat
open Go Fk Go.RowKit
set_option linter.unusedVariables false
set_option maxRecDepth 16000
end Go.Proofs.YtabccmobmppdnaaGreat
namespace Go.Proofs.YtabccmobmppdnaaGreat
open Go Fk Go.RowKit
set_option linter.unusedVariables false
set_option maxRecDepth 16000
end Go.Proofs.YtabccmobmppdnaaGreat
namespace Go.Proofs.YtabccmobmppdnaaGreat
open Go Fk Go.RowKit
set_option linter.unusedVariables false
set_option maxRecDepth 16000
set_option maxHeartbeats 4000000 in
theorem l03Bent (pb tb to q : Nat) (m0 m1 m2 m3 : Nat) (pa : Option Addr) (pl pc : Nat) (cs : List C3) (w : World) (a0 : w.cell? ⟨pb, 0, none⟩ = some (.slice pa pl pc)) (r0' : w.cell? ⟨tb, to, none⟩ = some (.int .i64 (m0 : Int))) (r1' : w.cell? ⟨tb, to + 1, none⟩ = some (.int .i64 (m1 : Int))) (r2' : w.cell? ⟨tb, to + 2, none⟩ = some (.int .i64 (m2 : Int))) (r3' : w.cell? ⟨tb, to + 3, none⟩ = some (.int .i64 (m3 : Int))) (h : IsVs w pa pl pc cs) (hm0 : m0 < pl) (hm1 : m1 < pl) (hm2 : m2 < pl) (hm3 : m3 < pl) :
  Calls Tryz.prog 169 #[.pointer (some ⟨pb, 0, none⟩), .slice (some ⟨tb, to, none⟩) 4 q] w fun e w' => ∃ x y z, e = .returned (vv x y z) ∧ F3 x y z (lessC (plusC (cs.getD m2 c0) (cs.getD m3 c0)) (plusC (cs.getD m0 c0) (cs.getD m1 c0))) ∧ Below w.heap.size w w' := by
 obtain ⟨pab, pao, rfl, hcell⟩ := h.some (by omega)
 have u := Tryz.underlying27
 have um := Tryz.underlying40
 have uv := Tryz.underlying42
 have hmx : pl ≤ 9223372036854775807 := by have h1 := h.2.1; have h2 := h.2.2.1; unfold maxLen at h2; omega
 have A0 := Lib.hid a0
 have R0 := Lib.hid r0'
 have R1 := Lib.hid r1'
 have R2 := Lib.hid r2'
 have R3 := Lib.hid r3'
 obtain ⟨p0, q0, r0, i00, i01, i02, f0⟩ := hcell m0 hm0
 have D0 := Lib.hid (And.intro i00 (And.intro i01 i02))
 have F0' := Lib.hid f0
 have g00 : (0 : Int) ≤ (m0 : Int) := by omega
 have g01 : (m0 : Int) < (pl : Int) := by omega
 obtain ⟨p1, q1, r1, i10, i11, i12, f1⟩ := hcell m1 hm1
 have D1 := Lib.hid (And.intro i10 (And.intro i11 i12))
 have F1' := Lib.hid f1
 have g10 : (0 : Int) ≤ (m1 : Int) := by omega
 have g11 : (m1 : Int) < (pl : Int) := by omega
 obtain ⟨p2, q2, r2, i20, i21, i22, f2⟩ := hcell m2 hm2
 have D2 := Lib.hid (And.intro i20 (And.intro i21 i22))
 have F2' := Lib.hid f2
 have g20 : (0 : Int) ≤ (m2 : Int) := by omega
 have g21 : (m2 : Int) < (pl : Int) := by omega
 obtain ⟨p3, q3, r3, i30, i31, i32, f3⟩ := hcell m3 hm3
 have D3 := Lib.hid (And.intro i30 (And.intro i31 i32))
 have F3' := Lib.hid f3
 have g30 : (0 : Int) ≤ (m3 : Int) := by omega
 have g31 : (m3 : Int) < (pl : Int) := by omega
 clear a0 h hcell r0' i00 i01 i02 f0 r1' i10 i11 i12 f1 r2' i20 i21 i22 f2 r3' i30 i31 i32 f3
 have FR : Hid (Frm w [] w.heap.size (w.alloc (.cells #[.float .f32 0, .float .f32 0, .float .f32 0] 42))) := Lib.hid ⟨(Below.refl _ _).alloc (Nat.le_refl _) _, fun b l hm => (by cases hm), Nat.le_refl _, ⟨.float .f32 0, .float .f32 0, .float .f32 0, by go_simp, by go_simp, by go_simp⟩, fun i => by go_simp⟩
 go_enter Tryz.func169, Tryz.ntmps169
 go_wp2_with fail
 generalize (w.alloc (.cells #[.float .f32 0, .float .f32 0, .float .f32 0] 42)) = W at *
 refine Reg2.wp_region_mix (C := Frm w [] (w.heap.size)) (G := fun w1 w2 => TV (w.heap.size) (lessC (plusC (cs.getD m2 c0) (cs.getD m3 c0)) (plusC (cs.getD m0 c0) (cs.getD m1 c0))) w1 → TV (w.heap.size) (lessC (plusC (cs.getD m2 c0) (cs.getD m3 c0)) (plusC (cs.getD m0 c0) (cs.getD m1 c0))) w2) (R := fun i v w' => match i with | 0 => v = .pointer (some ⟨pb, 0, none⟩) | 1 => v = .pointer (some ⟨pb, 0, none⟩) | 2 => v = .pointer (some ⟨pb, 0, none⟩) | 3 => v = .slice (some ⟨pab, pao, none⟩) pl pc | 4 => v = .slice (some ⟨tb, to, none⟩) 4 q | 5 => v = .pointer (some ⟨tb, to + 2, none⟩) | 6 => v = .int .i64 (m2 : Int) | 7 => v = .pointer (some ⟨pab, pao + m2 * 3, none⟩) | 8 => v = vv p2 q2 r2 | 9 => v = .pointer (some ⟨pb, 0, none⟩) | 10 => v = .pointer (some ⟨pb, 0, none⟩) | 11 => v = .pointer (some ⟨pb, 0, none⟩) | 12 => v = .slice (some ⟨pab, pao, none⟩) pl pc | 13 => v = .slice (some ⟨tb, to, none⟩) 4 q | 14 => v = .pointer (some ⟨tb, to + 3, none⟩) | 15 => v = .int .i64 (m3 : Int) | 16 => v = .pointer (some ⟨pab, pao + m3 * 3, none⟩) | 17 => v = vv p3 q3 r3 | 18 => ∃ p q r, v = vv p q r ∧ F3 p q r (plusC (cs.getD m2 c0) (cs.getD m3 c0)) | 19 => v = .pointer (some ⟨pb, 0, none⟩) | 20 => v = .pointer (some ⟨pb, 0, none⟩) | 21 => v = .pointer (some ⟨pb, 0, none⟩) | 22 => v = .slice (some ⟨pab, pao, none⟩) pl pc | 23 => v = .slice (some ⟨tb, to, none⟩) 4 q | 24 => v = .pointer (some ⟨tb, to, none⟩) | 25 => v = .int .i64 (m0 : Int) | 26 => v = .pointer (some ⟨pab, pao + m0 * 3, none⟩) | 27 => v = vv p0 q0 r0 | 28 => v = .pointer (some ⟨pb, 0, none⟩) | 29 => v = .pointer (some ⟨pb, 0, none⟩) | 30 => v = .pointer (some ⟨pb, 0, none⟩) | 31 => v = .slice (some ⟨pab, pao, none⟩) pl pc | 32 => v = .slice (some ⟨tb, to, none⟩) 4 q | 33 => v = .pointer (some ⟨tb, to + 1, none⟩) | 34 => v = .int .i64 (m1 : Int) | 35 => v = .pointer (some ⟨pab, pao + m1 * 3, none⟩) | 36 => v = vv p1 q1 r1 | 37 => ∃ p q r, v = vv p q r ∧ F3 p q r (plusC (cs.getD m0 c0) (cs.getD m1 c0)) | 38 => ∃ p q r, v = vv p q r ∧ F3 p q r (lessC (plusC (cs.getD m2 c0) (cs.getD m3 c0)) (plusC (cs.getD m0 c0) (cs.getD m1 c0))) | _ => True) (T := fun _ w' => TV (w.heap.size) (lessC (plusC (cs.getD m2 c0) (cs.getD m3 c0)) (plusC (cs.getD m0 c0) (cs.getD m1 c0))) w') [false, false, false, false, false, true, true, true, true, true, true, true, true, true, true, true, true, true, true, true, true, true, true, true, true, true, true, true, true, true, true, true, true, true, true, true, true, true, true, true, true, true, true, true]
  (by kernel_rfl) (by kernel_rfl) (by kernel_rfl) (fun _ _ _ _ _ _ h => h) (fun _ _ _ _ hG hT => hG hT) (Frm.drewN FR.out 1) ?_ ?_
 ·refine ⟨Reg2.Obl.mk ?_, Reg2.Obl.mk ?_, Reg2.Obl.mk ?_, Reg2.Obl.mk ?_, Reg2.Obl.mk ?_, Reg2.Obl.mk ?_, Reg2.Obl.mk ?_, Reg2.Obl.mk ?_, Reg2.Obl.mk ?_, Reg2.Obl.mk ?_, Reg2.Obl.mk ?_, Reg2.Obl.mk ?_, Reg2.Obl.mk ?_, Reg2.Obl.mk ?_, Reg2.Obl.mk ?_, Reg2.Obl.mk ?_, Reg2.Obl.mk ?_, Reg2.Obl.mk ?_, Reg2.Obl.mk ?_, Reg2.Obl.mk ?_, Reg2.Obl.mk ?_, Reg2.Obl.mk ?_, Reg2.Obl.mk ?_, Reg2.Obl.mk ?_, Reg2.Obl.mk ?_, Reg2.Obl.mk ?_, Reg2.Obl.mk ?_, Reg2.Obl.mk ?_, Reg2.Obl.mk ?_, Reg2.Obl.mk ?_, Reg2.Obl.mk ?_, Reg2.Obl.mk ?_, Reg2.Obl.mk ?_, Reg2.Obl.mk ?_, Reg2.Obl.mk ?_, Reg2.Obl.mk ?_, Reg2.Obl.mk ?_, Reg2.Obl.mk ?_, Reg2.Obl.mk ?_, Reg2.Obl.mk ?_, trivial⟩
  ·rintro a w1 HC hx hd K hK
   replace HC := Lib.hid HC
   have t0 : a.tmps[0]?.getD undef = .pointer (some ⟨pb, 0, none⟩) := Reg.slot_val (hx 0 (by kernel_rfl))
   go_simp
   exact hK _ _ (fun _ => rfl) (fun h => by cases h) HC.out (fun h => h)
  ·rintro a w1 HC hx hd K hK
   replace HC := Lib.hid HC
   have t5 : a.tmps[5]?.getD undef = .pointer (some ⟨pb, 0, none⟩) := Reg.slot_val (hd 0 (by kernel_rfl) 5 rfl)
   go_simp
   exact hK _ _ (fun _ => rfl) (fun h => by cases h) HC.out (fun h => h)
  ·rintro a w1 HC hx hd K hK
   replace HC := Lib.hid HC
   have t6 : a.tmps[6]?.getD undef = .pointer (some ⟨pb, 0, none⟩) := Reg.slot_val (hd 1 (by kernel_rfl) 6 rfl)
   go_simp
   exact hK _ _ (fun _ => rfl) (fun h => by cases h) HC.out (fun h => h)
  ·rintro a w1 HC hx hd K hK
   replace HC := Lib.hid HC
   have y9 := cell_below HC.out.bel A0.out
   have t7 : a.tmps[7]?.getD undef = .pointer (some ⟨pb, 0, none⟩) := Reg.slot_val (hd 2 (by kernel_rfl) 7 rfl)
   go_simp
   exact hK _ _ (fun _ => rfl) (fun h => by cases h) HC.out (fun h => h)
  ·rintro a w1 HC hx hd K hK
   replace HC := Lib.hid HC
   have t1 : a.tmps[1]?.getD undef = .slice (some ⟨tb, to, none⟩) 4 q := Reg.slot_val (hx 1 (by kernel_rfl))
   go_simp
   exact hK _ _ (fun _ => rfl) (fun h => by cases h) HC.out (fun h => h)
  ·rintro a w1 HC hx hd K hK
   replace HC := Lib.hid HC
   have t9 : a.tmps[9]?.getD undef = .slice (some ⟨tb, to, none⟩) 4 q := Reg.slot_val (hd 4 (by kernel_rfl) 9 rfl)
   go_simp
   exact hK _ _ (fun _ => rfl) (fun h => by cases h) HC.out (fun h => h)
  ·rintro a w1 HC hx hd K hK
   replace HC := Lib.hid HC
   have z2 := cell_below HC.out.bel R2.out
   have t10 : a.tmps[10]?.getD undef = .pointer (some ⟨tb, to + 2, none⟩) := Reg.slot_val (hd 5 (by kernel_rfl) 10 rfl)
   go_simp
   exact hK _ _ (fun _ => rfl) (fun h => by cases h) HC.out (fun h => h)
  ·rintro a w1 HC hx hd K hK
   replace HC := Lib.hid HC
   have t8 : a.tmps[8]?.getD undef = .slice (some ⟨pab, pao, none⟩) pl pc := Reg.slot_val (hd 3 (by kernel_rfl) 8 rfl)
   have t11 : a.tmps[11]?.getD undef = .int .i64 (m2 : Int) := Reg.slot_val (hd 6 (by kernel_rfl) 11 rfl)
   go_simp
   exact hK _ _ (fun _ => rfl) (fun h => by cases h) HC.out (fun h => h)
  ·rintro a w1 HC hx hd K hK
   replace HC := Lib.hid HC
   have y0 := cell_below HC.out.bel D2.out.1
   have y1 := cell_below HC.out.bel D2.out.2.1
   have y2 := cell_below HC.out.bel D2.out.2.2
   have t12 : a.tmps[12]?.getD undef = .pointer (some ⟨pab, pao + m2 * 3, none⟩) := Reg.slot_val (hd 7 (by kernel_rfl) 12 rfl)
   go_simp
   exact hK _ _ (fun _ => rfl) (fun h => by cases h) HC.out (fun h => h)
  ·rintro a w1 HC hx hd K hK
   replace HC := Lib.hid HC
   have t0 : a.tmps[0]?.getD undef = .pointer (some ⟨pb, 0, none⟩) := Reg.slot_val (hx 0 (by kernel_rfl))
   go_simp
   exact hK _ _ (fun _ => rfl) (fun h => by cases h) HC.out (fun h => h)
  ·rintro a w1 HC hx hd K hK
   replace HC := Lib.hid HC
   have t14 : a.tmps[14]?.getD undef = .pointer (some ⟨pb, 0, none⟩) := Reg.slot_val (hd 9 (by kernel_rfl) 14 rfl)
   go_simp
   exact hK _ _ (fun _ => rfl) (fun h => by cases h) HC.out (fun h => h)
  ·rintro a w1 HC hx hd K hK
   replace HC := Lib.hid HC
   have t15 : a.tmps[15]?.getD undef = .pointer (some ⟨pb, 0, none⟩) := Reg.slot_val (hd 10 (by kernel_rfl) 15 rfl)
   go_simp
   exact hK _ _ (fun _ => rfl) (fun h => by cases h) HC.out (fun h => h)
  ·rintro a w1 HC hx hd K hK
   replace HC := Lib.hid HC
   have y9 := cell_below HC.out.bel A0.out
   have t16 : a.tmps[16]?.getD undef = .pointer (some ⟨pb, 0, none⟩) := Reg.slot_val (hd 11 (by kernel_rfl) 16 rfl)
   go_simp
   exact hK _ _ (fun _ => rfl) (fun h => by cases h) HC.out (fun h => h)
  ·rintro a w1 HC hx hd K hK
   replace HC := Lib.hid HC
   have t1 : a.tmps[1]?.getD undef = .slice (some ⟨tb, to, none⟩) 4 q := Reg.slot_val (hx 1 (by kernel_rfl))
   go_simp
   exact hK _ _ (fun _ => rfl) (fun h => by cases h) HC.out (fun h => h)
  ·rintro a w1 HC hx hd K hK
   replace HC := Lib.hid HC
   have t18 : a.tmps[18]?.getD undef = .slice (some ⟨tb, to, none⟩) 4 q := Reg.slot_val (hd 13 (by kernel_rfl) 18 rfl)
   go_simp
   exact hK _ _ (fun _ => rfl) (fun h => by cases h) HC.out (fun h => h)
  ·rintro a w1 HC hx hd K hK
   replace HC := Lib.hid HC
   have z3 := cell_below HC.out.bel R3.out
   have t19 : a.tmps[19]?.getD undef = .pointer (some ⟨tb, to + 3, none⟩) := Reg.slot_val (hd 14 (by kernel_rfl) 19 rfl)
   go_simp
   exact hK _ _ (fun _ => rfl) (fun h => by cases h) HC.out (fun h => h)
  ·rintro a w1 HC hx hd K hK
   replace HC := Lib.hid HC
   have t17 : a.tmps[17]?.getD undef = .slice (some ⟨pab, pao, none⟩) pl pc := Reg.slot_val (hd 12 (by kernel_rfl) 17 rfl)
   have t20 : a.tmps[20]?.getD undef = .int .i64 (m3 : Int) := Reg.slot_val (hd 15 (by kernel_rfl) 20 rfl)
   go_simp
   exact hK _ _ (fun _ => rfl) (fun h => by cases h) HC.out (fun h => h)
  ·rintro a w1 HC hx hd K hK
   replace HC := Lib.hid HC
   have y0 := cell_below HC.out.bel D3.out.1
   have y1 := cell_below HC.out.bel D3.out.2.1
   have y2 := cell_below HC.out.bel D3.out.2.2
   have t21 : a.tmps[21]?.getD undef = .pointer (some ⟨pab, pao + m3 * 3, none⟩) := Reg.slot_val (hd 16 (by kernel_rfl) 21 rfl)
   go_simp
   exact hK _ _ (fun _ => rfl) (fun h => by cases h) HC.out (fun h => h)
  ·rintro a w1 HC hx hd K hK
   replace HC := Lib.hid HC
   have t13 : a.tmps[13]?.getD undef = vv p2 q2 r2 := Reg.slot_val (hd 8 (by kernel_rfl) 13 rfl)
   have t22 : a.tmps[22]?.getD undef = vv p3 q3 r3 := Reg.slot_val (hd 17 (by kernel_rfl) 22 rfl)
   go_simp
   refine (l01Add _ _ _ _ _ _ _ _ _ _ _ _ _ F2'.out.1 F2'.out.2.1 F2'.out.2.2 F3'.out.1 F3'.out.2.1 F3'.out.2.2).mono ?_
   rintro en w2 ⟨p', q', r', rfl, fp', fq', fr', hB2⟩
   exact hK _ _ (fun _ => ⟨p', q', r', rfl, fp', fq', fr'⟩) (fun h => by cases h) (HC.out.call hB2) (TV.call hB2)
  ·rintro a w1 HC hx hd K hK
   replace HC := Lib.hid HC
   have t0 : a.tmps[0]?.getD undef = .pointer (some ⟨pb, 0, none⟩) := Reg.slot_val (hx 0 (by kernel_rfl))
   go_simp
   exact hK _ _ (fun _ => rfl) (fun h => by cases h) HC.out (fun h => h)
  ·rintro a w1 HC hx hd K hK
   replace HC := Lib.hid HC
   have t24 : a.tmps[24]?.getD undef = .pointer (some ⟨pb, 0, none⟩) := Reg.slot_val (hd 19 (by kernel_rfl) 24 rfl)
   go_simp
   exact hK _ _ (fun _ => rfl) (fun h => by cases h) HC.out (fun h => h)
  ·rintro a w1 HC hx hd K hK
   replace HC := Lib.hid HC
   have t25 : a.tmps[25]?.getD undef = .pointer (some ⟨pb, 0, none⟩) := Reg.slot_val (hd 20 (by kernel_rfl) 25 rfl)
   go_simp
   exact hK _ _ (fun _ => rfl) (fun h => by cases h) HC.out (fun h => h)
  ·rintro a w1 HC hx hd K hK
   replace HC := Lib.hid HC
   have y9 := cell_below HC.out.bel A0.out
   have t26 : a.tmps[26]?.getD undef = .pointer (some ⟨pb, 0, none⟩) := Reg.slot_val (hd 21 (by kernel_rfl) 26 rfl)
   go_simp
   exact hK _ _ (fun _ => rfl) (fun h => by cases h) HC.out (fun h => h)
  ·rintro a w1 HC hx hd K hK
   replace HC := Lib.hid HC
   have t1 : a.tmps[1]?.getD undef = .slice (some ⟨tb, to, none⟩) 4 q := Reg.slot_val (hx 1 (by kernel_rfl))
   go_simp
   exact hK _ _ (fun _ => rfl) (fun h => by cases h) HC.out (fun h => h)
  ·rintro a w1 HC hx hd K hK
   replace HC := Lib.hid HC
   have t28 : a.tmps[28]?.getD undef = .slice (some ⟨tb, to, none⟩) 4 q := Reg.slot_val (hd 23 (by kernel_rfl) 28 rfl)
   go_simp
   exact hK _ _ (fun _ => rfl) (fun h => by cases h) HC.out (fun h => h)
  ·rintro a w1 HC hx hd K hK
   replace HC := Lib.hid HC
   have z0 := cell_below HC.out.bel R0.out
   have t29 : a.tmps[29]?.getD undef = .pointer (some ⟨tb, to, none⟩) := Reg.slot_val (hd 24 (by kernel_rfl) 29 rfl)
   go_simp
   exact hK _ _ (fun _ => rfl) (fun h => by cases h) HC.out (fun h => h)
  ·rintro a w1 HC hx hd K hK
   replace HC := Lib.hid HC
   have t27 : a.tmps[27]?.getD undef = .slice (some ⟨pab, pao, none⟩) pl pc := Reg.slot_val (hd 22 (by kernel_rfl) 27 rfl)
   have t30 : a.tmps[30]?.getD undef = .int .i64 (m0 : Int) := Reg.slot_val (hd 25 (by kernel_rfl) 30 rfl)
   go_simp
   exact hK _ _ (fun _ => rfl) (fun h => by cases h) HC.out (fun h => h)
  ·rintro a w1 HC hx hd K hK
   replace HC := Lib.hid HC
   have y0 := cell_below HC.out.bel D0.out.1
   have y1 := cell_below HC.out.bel D0.out.2.1
   have y2 := cell_below HC.out.bel D0.out.2.2
   have t31 : a.tmps[31]?.getD undef = .pointer (some ⟨pab, pao + m0 * 3, none⟩) := Reg.slot_val (hd 26 (by kernel_rfl) 31 rfl)
   go_simp
   exact hK _ _ (fun _ => rfl) (fun h => by cases h) HC.out (fun h => h)
  ·rintro a w1 HC hx hd K hK
   replace HC := Lib.hid HC
   have t0 : a.tmps[0]?.getD undef = .pointer (some ⟨pb, 0, none⟩) := Reg.slot_val (hx 0 (by kernel_rfl))
   go_simp
   exact hK _ _ (fun _ => rfl) (fun h => by cases h) HC.out (fun h => h)
  ·rintro a w1 HC hx hd K hK
   replace HC := Lib.hid HC
   have t33 : a.tmps[33]?.getD undef = .pointer (some ⟨pb, 0, none⟩) := Reg.slot_val (hd 28 (by kernel_rfl) 33 rfl)
   go_simp
   exact hK _ _ (fun _ => rfl) (fun h => by cases h) HC.out (fun h => h)
  ·rintro a w1 HC hx hd K hK
   replace HC := Lib.hid HC
   have t34 : a.tmps[34]?.getD undef = .pointer (some ⟨pb, 0, none⟩) := Reg.slot_val (hd 29 (by kernel_rfl) 34 rfl)
   go_simp
   exact hK _ _ (fun _ => rfl) (fun h => by cases h) HC.out (fun h => h)
  ·rintro a w1 HC hx hd K hK
   replace HC := Lib.hid HC
   have y9 := cell_below HC.out.bel A0.out
   have t35 : a.tmps[35]?.getD undef = .pointer (some ⟨pb, 0, none⟩) := Reg.slot_val (hd 30 (by kernel_rfl) 35 rfl)
   go_simp
   exact hK _ _ (fun _ => rfl) (fun h => by cases h) HC.out (fun h => h)
  ·rintro a w1 HC hx hd K hK
   replace HC := Lib.hid HC
   have t1 : a.tmps[1]?.getD undef = .slice (some ⟨tb, to, none⟩) 4 q := Reg.slot_val (hx 1 (by kernel_rfl))
   go_simp
   exact hK _ _ (fun _ => rfl) (fun h => by cases h) HC.out (fun h => h)
  ·rintro a w1 HC hx hd K hK
   replace HC := Lib.hid HC
   have t37 : a.tmps[37]?.getD undef = .slice (some ⟨tb, to, none⟩) 4 q := Reg.slot_val (hd 32 (by kernel_rfl) 37 rfl)
   go_simp
   exact hK _ _ (fun _ => rfl) (fun h => by cases h) HC.out (fun h => h)
  ·rintro a w1 HC hx hd K hK
   replace HC := Lib.hid HC
   have z1 := cell_below HC.out.bel R1.out
   have t38 : a.tmps[38]?.getD undef = .pointer (some ⟨tb, to + 1, none⟩) := Reg.slot_val (hd 33 (by kernel_rfl) 38 rfl)
   go_simp
   exact hK _ _ (fun _ => rfl) (fun h => by cases h) HC.out (fun h => h)
  ·rintro a w1 HC hx hd K hK
   replace HC := Lib.hid HC
   have t36 : a.tmps[36]?.getD undef = .slice (some ⟨pab, pao, none⟩) pl pc := Reg.slot_val (hd 31 (by kernel_rfl) 36 rfl)
   have t39 : a.tmps[39]?.getD undef = .int .i64 (m1 : Int) := Reg.slot_val (hd 34 (by kernel_rfl) 39 rfl)
   go_simp
   exact hK _ _ (fun _ => rfl) (fun h => by cases h) HC.out (fun h => h)
  ·rintro a w1 HC hx hd K hK
   replace HC := Lib.hid HC
   have y0 := cell_below HC.out.bel D1.out.1
   have y1 := cell_below HC.out.bel D1.out.2.1
   have y2 := cell_below HC.out.bel D1.out.2.2
   have t40 : a.tmps[40]?.getD undef = .pointer (some ⟨pab, pao + m1 * 3, none⟩) := Reg.slot_val (hd 35 (by kernel_rfl) 40 rfl)
   go_simp
   exact hK _ _ (fun _ => rfl) (fun h => by cases h) HC.out (fun h => h)
  ·rintro a w1 HC hx hd K hK
   replace HC := Lib.hid HC
   have t32 : a.tmps[32]?.getD undef = vv p0 q0 r0 := Reg.slot_val (hd 27 (by kernel_rfl) 32 rfl)
   have t41 : a.tmps[41]?.getD undef = vv p1 q1 r1 := Reg.slot_val (hd 36 (by kernel_rfl) 41 rfl)
   go_simp
   refine (l01Add _ _ _ _ _ _ _ _ _ _ _ _ _ F0'.out.1 F0'.out.2.1 F0'.out.2.2 F1'.out.1 F1'.out.2.1 F1'.out.2.2).mono ?_
   rintro en w2 ⟨p', q', r', rfl, fp', fq', fr', hB2⟩
   exact hK _ _ (fun _ => ⟨p', q', r', rfl, fp', fq', fr'⟩) (fun h => by cases h) (HC.out.call hB2) (TV.call hB2)
  ·rintro a w1 HC hx hd K hK
   replace HC := Lib.hid HC
   obtain ⟨p23, q23, r23, g23, f23⟩ := hd 18 (by kernel_rfl) 23 rfl
   have t23 := Reg.slot_val g23
   clear g23
   obtain ⟨p42, q42, r42, g42, f42⟩ := hd 37 (by kernel_rfl) 42 rfl
   have t42 := Reg.slot_val g42
   clear g42
   go_simp
   refine (l01Less _ _ _ _ _ _ _ _ _ _ _ _ _ f23.1 f23.2.1 f23.2.2 f42.1 f42.2.1 f42.2.2).mono ?_
   rintro en w2 ⟨p', q', r', rfl, fp', fq', fr', hB2⟩
   exact hK _ _ (fun _ => ⟨p', q', r', rfl, fp', fq', fr'⟩) (fun h => by cases h) (HC.out.call hB2) (TV.call hB2)
  ·rintro a w1 HC hx hd K hK
   replace HC := Lib.hid HC
   have t4 : a.tmps[4]?.getD undef = .pointer (some ⟨w.heap.size, 0, none⟩) := Reg.slot_val (hx 4 (by kernel_rfl))
   obtain ⟨p43, q43, r43, g43, f43⟩ := hd 38 (by kernel_rfl) 43 rfl
   have t43 := Reg.slot_val g43
   clear g43
   obtain ⟨u0, u1, u2, x0, x1, x2⟩ := HC.out.cells
   have k0 := HC.out.free 0
   have k1 := HC.out.free 1
   have k2 := HC.out.free 2
   go_simp
   exact hK undef _ (fun h => absurd rfl h) (fun _ => TV.put HC.out f43) (HC.out.put _ _ _) (fun _ => TV.put HC.out f43)
 ·rintro f w1 hC hd' hT
  obtain ⟨x, y, z, ⟨x0, x1, x2⟩, hf⟩ := hT 39 rfl (by decide)
  simp only [Reg.mixL]
  have HC := Lib.hid hC
  clear hC hd' hT
  go_wp2
  refine bodyPost_ret (v := vv x y z) (by simp [results, Tryz.results169, go_sem, x0, x1, x2]) rfl ⟨x, y, z, rfl, hf, HC.out.bel⟩
set_option maxHeartbeats 4000000 in
theorem l03Normal (pb tb to q : Nat) (m0 m1 m2 : Nat) (pa : Option Addr) (pl pc : Nat) (cs : List C3) (w : World) (a0 : w.cell? ⟨pb, 0, none⟩ = some (.slice pa pl pc)) (r0' : w.cell? ⟨tb, to, none⟩ = some (.int .i64 (m0 : Int))) (r1' : w.cell? ⟨tb, to + 1, none⟩ = some (.int .i64 (m1 : Int))) (r2' : w.cell? ⟨tb, to + 2, none⟩ = some (.int .i64 (m2 : Int))) (h : IsVs w pa pl pc cs) (hm0 : m0 < pl) (hm1 : m1 < pl) (hm2 : m2 < pl) :
  Calls Tryz.prog 165 #[.pointer (some ⟨pb, 0, none⟩), .slice (some ⟨tb, to, none⟩) 3 q] w fun e w' => ∃ x y z, e = .returned (vv x y z) ∧ F3 x y z (crossC (lessC (cs.getD m1 c0) (cs.getD m0 c0)) (lessC (cs.getD m2 c0) (cs.getD m0 c0))) ∧ Below w.heap.size w w' := by
 obtain ⟨pab, pao, rfl, hcell⟩ := h.some (by omega)
 have u := Tryz.underlying27
 have um := Tryz.underlying40
 have uv := Tryz.underlying42
 have hmx : pl ≤ 9223372036854775807 := by have h1 := h.2.1; have h2 := h.2.2.1; unfold maxLen at h2; omega
 have A0 := Lib.hid a0
 have R0 := Lib.hid r0'
 have R1 := Lib.hid r1'
 have R2 := Lib.hid r2'
 obtain ⟨p0, q0, r0, i00, i01, i02, f0⟩ := hcell m0 hm0
 have D0 := Lib.hid (And.intro i00 (And.intro i01 i02))
 have F0' := Lib.hid f0
 have g00 : (0 : Int) ≤ (m0 : Int) := by omega
 have g01 : (m0 : Int) < (pl : Int) := by omega
 obtain ⟨p1, q1, r1, i10, i11, i12, f1⟩ := hcell m1 hm1
 have D1 := Lib.hid (And.intro i10 (And.intro i11 i12))
 have F1' := Lib.hid f1
 have g10 : (0 : Int) ≤ (m1 : Int) := by omega
 have g11 : (m1 : Int) < (pl : Int) := by omega
 obtain ⟨p2, q2, r2, i20, i21, i22, f2⟩ := hcell m2 hm2
 have D2 := Lib.hid (And.intro i20 (And.intro i21 i22))
 have F2' := Lib.hid f2
 have g20 : (0 : Int) ≤ (m2 : Int) := by omega
 have g21 : (m2 : Int) < (pl : Int) := by omega
 clear a0 h hcell r0' i00 i01 i02 f0 r1' i10 i11 i12 f1 r2' i20 i21 i22 f2
 have FR : Hid (Frm w [] w.heap.size (w.alloc (.cells #[.float .f32 0, .float .f32 0, .float .f32 0] 42))) := Lib.hid ⟨(Below.refl _ _).alloc (Nat.le_refl _) _, fun b l hm => (by cases hm), Nat.le_refl _, ⟨.float .f32 0, .float .f32 0, .float .f32 0, by go_simp, by go_simp, by go_simp⟩, fun i => by go_simp⟩
 have HW0 : Hid ((w.alloc (.cells #[.float .f32 0, .float .f32 0, .float .f32 0] 42)).heap.size = w.heap.size + 1) := Lib.hid (by simp)
 go_enter Tryz.func165, Tryz.ntmps165
 go_wp2_with fail
 generalize (w.alloc (.cells #[.float .f32 0, .float .f32 0, .float .f32 0] 42)) = W at *
 refine Reg5.wp_region_mix (m := 10) (C := fun w' => Below W.heap.size W w') (D := fun _ => True) (G := fun w1 w2 => Below w1.heap.size w1 w2) (G' := fun _ _ => True)
  (R := fun i v w' => match i with | 0 => v = .pointer (some ⟨pb, 0, none⟩) | 1 => v = .pointer (some ⟨pb, 0, none⟩) | 2 => v = .pointer (some ⟨pb, 0, none⟩) | 3 => v = .slice (some ⟨pab, pao, none⟩) pl pc | 4 => v = .slice (some ⟨tb, to, none⟩) 3 q | 5 => v = .pointer (some ⟨tb, to, none⟩) | 6 => v = .int .i64 (m0 : Int) | 7 => v = .pointer (some ⟨pab, pao + m0 * 3, none⟩) | 8 => v = vv p0 q0 r0 | 9 => ∃ b, v = .pointer (some ⟨b, 0, none⟩) ∧ W.heap.size ≤ b ∧ b < w'.heap.size ∧ At w' b [.float .f32 0, .float .f32 0, .float .f32 0] ∧ Fr w' b | _ => True)
  (T := fun _ a w' => ∃ b, a.tmps[5]?.getD undef = .pointer (some ⟨b, 0, none⟩) ∧ W.heap.size ≤ b ∧ b < w'.heap.size ∧ At w' b [.float .f32 p0, .float .f32 q0, .float .f32 r0] ∧ Below W.heap.size W w') [false, false, false, false, false, true, true, true, true, true, true, true, true, true, true, false, false, false, false, false, false, false, false, false, false, false, false, false, false, false, false, false, false, false, false, false, false, false]
  (by kernel_rfl) (by kernel_rfl) (by kernel_rfl) (by kernel_rfl) ?_ ?_ (below_drewN (Below.refl _ _) 1) ?_ ?_
 ·intro j v wa wb hj _ hG hR
  match j with
  | 0 => exact hR
  | 1 => exact hR
  | 2 => exact hR
  | 3 => exact hR
  | 4 => exact hR
  | 5 => exact hR
  | 6 => exact hR
  | 7 => exact hR
  | 8 => exact hR
  | 9 => obtain ⟨b, e, h1, h2, h3, h4⟩ := hR; exact ⟨b, e, h1, Nat.lt_of_lt_of_le h2 hG.size, h3.below hG, h4.below hG h2⟩
  | _ + 10 => exact absurd hj (by omega)
 ·intro j v wa wb hj _ _ _
  match j, hj with
  | 0, hj => exact absurd hj (by omega)
  | 1, hj => exact absurd hj (by omega)
  | 2, hj => exact absurd hj (by omega)
  | 3, hj => exact absurd hj (by omega)
  | 4, hj => exact absurd hj (by omega)
  | 5, hj => exact absurd hj (by omega)
  | 6, hj => exact absurd hj (by omega)
  | 7, hj => exact absurd hj (by omega)
  | 8, hj => exact absurd hj (by omega)
  | 9, hj => exact absurd hj (by omega)
  | _ + 10, _ => trivial
 ·refine ⟨Reg5.Obl.early rfl rfl ?_, Reg5.Obl.early rfl rfl ?_, Reg5.Obl.early rfl rfl ?_, Reg5.Obl.early rfl rfl ?_, Reg5.Obl.early rfl rfl ?_, Reg5.Obl.early rfl rfl ?_, Reg5.Obl.early rfl rfl ?_, Reg5.Obl.early rfl rfl ?_, Reg5.Obl.early rfl rfl ?_, Reg5.Obl.early rfl rfl ?_, Reg5.Obl.fin rfl rfl ?_, trivial⟩
  ·rintro a w1 HC hx hd K hK
   replace HC := Lib.hid HC
   have t0 : a.tmps[0]?.getD undef = .pointer (some ⟨pb, 0, none⟩) := Reg.slot_val (hx 0 (by kernel_rfl))
   go_simp
   exact hK _ _ rfl HC.out (Below.refl _ _)
  ·rintro a w1 HC hx hd K hK
   replace HC := Lib.hid HC
   have t6 : a.tmps[6]?.getD undef = .pointer (some ⟨pb, 0, none⟩) := Reg.slot_val (hd 0 (by kernel_rfl) 6 rfl)
   go_simp
   exact hK _ _ rfl HC.out (Below.refl _ _)
  ·rintro a w1 HC hx hd K hK
   replace HC := Lib.hid HC
   have t7 : a.tmps[7]?.getD undef = .pointer (some ⟨pb, 0, none⟩) := Reg.slot_val (hd 1 (by kernel_rfl) 7 rfl)
   go_simp
   exact hK _ _ rfl HC.out (Below.refl _ _)
  ·rintro a w1 HC hx hd K hK
   replace HC := Lib.hid HC
   have t8 : a.tmps[8]?.getD undef = .pointer (some ⟨pb, 0, none⟩) := Reg.slot_val (hd 2 (by kernel_rfl) 8 rfl)
   have y9 := cell_below (FR.out.bel.trans (HC.out.mono FR.out.bel.size)) A0.out
   go_simp
   exact hK _ _ rfl HC.out (Below.refl _ _)
  ·rintro a w1 HC hx hd K hK
   replace HC := Lib.hid HC
   have t1 : a.tmps[1]?.getD undef = .slice (some ⟨tb, to, none⟩) 3 q := Reg.slot_val (hx 1 (by kernel_rfl))
   go_simp
   exact hK _ _ rfl HC.out (Below.refl _ _)
  ·rintro a w1 HC hx hd K hK
   replace HC := Lib.hid HC
   have t10 : a.tmps[10]?.getD undef = .slice (some ⟨tb, to, none⟩) 3 q := Reg.slot_val (hd 4 (by kernel_rfl) 10 rfl)
   go_simp
   exact hK _ _ rfl HC.out (Below.refl _ _)
  ·rintro a w1 HC hx hd K hK
   replace HC := Lib.hid HC
   have t11 : a.tmps[11]?.getD undef = .pointer (some ⟨tb, to, none⟩) := Reg.slot_val (hd 5 (by kernel_rfl) 11 rfl)
   have z0 := cell_below (FR.out.bel.trans (HC.out.mono FR.out.bel.size)) R0.out
   go_simp
   exact hK _ _ rfl HC.out (Below.refl _ _)
  ·rintro a w1 HC hx hd K hK
   replace HC := Lib.hid HC
   have t9 : a.tmps[9]?.getD undef = .slice (some ⟨pab, pao, none⟩) pl pc := Reg.slot_val (hd 3 (by kernel_rfl) 9 rfl)
   have t12 : a.tmps[12]?.getD undef = .int .i64 (m0 : Int) := Reg.slot_val (hd 6 (by kernel_rfl) 12 rfl)
   go_simp
   exact hK _ _ rfl HC.out (Below.refl _ _)
  ·rintro a w1 HC hx hd K hK
   replace HC := Lib.hid HC
   have t13 : a.tmps[13]?.getD undef = .pointer (some ⟨pab, pao + m0 * 3, none⟩) := Reg.slot_val (hd 7 (by kernel_rfl) 13 rfl)
   have y0 := cell_below (FR.out.bel.trans (HC.out.mono FR.out.bel.size)) D0.out.1
   have y1 := cell_below (FR.out.bel.trans (HC.out.mono FR.out.bel.size)) D0.out.2.1
   have y2 := cell_below (FR.out.bel.trans (HC.out.mono FR.out.bel.size)) D0.out.2.2
   go_simp
   exact hK _ _ rfl HC.out (Below.refl _ _)
  ·rintro a w1 HC hx hd K hK
   replace HC := Lib.hid HC
   go_simp
   have hB2 : Below w1.heap.size w1 (w1.alloc (.cells #[.float .f32 0, .float .f32 0, .float .f32 0] 42)) := (Below.refl _ _).alloc (Nat.le_refl _) _
   exact hK _ _ ⟨w1.heap.size, rfl, HC.out.size, by simp, At.new, Fr.new⟩ (HC.out.trans (hB2.mono HC.out.size)) hB2
  ·rintro a w1 HC hx hd K hK
   replace HC := Lib.hid HC
   have t14 : a.tmps[14]?.getD undef = vv p0 q0 r0 := Reg.slot_val (hd 8 (by kernel_rfl) 14 rfl)
   obtain ⟨b, g5, h1, h2, h3, h4⟩ := hd 9 (by kernel_rfl) 5 rfl
   have t5 := Reg.slot_val g5
   clear g5
   have HB4 := Lib.hid (And.intro h1 h2)
   have z0 := h3 0 _ rfl
   have z1 := h3 1 _ rfl
   have z2 := h3 2 _ rfl
   have k0 := h4 0
   have k1 := h4 1
   have k2 := h4 2
   have hR := at_setL (vs := [.float .f32 p0, .float .f32 q0, .float .f32 r0]) (o := 0) h3 (Nat.le_of_ble_eq_true rfl)
   have hBB := setL_below b h1 [.float .f32 p0, .float .f32 q0, .float .f32 r0] _ 0 HC.out
   simp only [setL, Nat.zero_add, Nat.reduceAdd] at hR hBB
   have HR := Lib.hid hR
   have HBB := Lib.hid hBB
   clear hR hBB h1 h2 h3 h4
   go_simp
   exact hK undef _ ⟨b, t5, HB4.out.1, by simpa using HB4.out.2, HR.out, HBB.out⟩
 ·rintro f W1 hR hT
  obtain ⟨V, e5, h1, h2, h3, h4⟩ := hT 10 rfl (Nat.le_of_ble_eq_true rfl)
  have g5 : f 5 = .pointer (some ⟨V, 0, none⟩) := e5
  simp only [Reg.mixL, Nat.zero_add, Nat.reduceAdd, g5]
  have FR1 : Hid (Frm w [(V, [.float .f32 p0, .float .f32 q0, .float .f32 r0])] w.heap.size W1) := Lib.hid (by
   have k := FR.out.call h4
   refine ⟨k.1, fun b l hm => ?_, k.2.2⟩
   rcases List.mem_cons.1 hm with e | hm
   ·cases e
    exact ⟨h3, by have := HW0.out; omega⟩
   ·cases hm)
  clear hR hT e5 h1 h2 h3 h4 g5
  go_wp2_with fail
  refine Reg2.wp_region_mix (C := Frm w [(V, [.float .f32 p0, .float .f32 q0, .float .f32 r0])] (w.heap.size)) (G := fun w1 w2 => TV (w.heap.size) (crossC (lessC (cs.getD m1 c0) (cs.getD m0 c0)) (lessC (cs.getD m2 c0) (cs.getD m0 c0))) w1 → TV (w.heap.size) (crossC (lessC (cs.getD m1 c0) (cs.getD m0 c0)) (lessC (cs.getD m2 c0) (cs.getD m0 c0))) w2) (R := fun i v w' => match i with | 0 => v = .pointer (some ⟨pb, 0, none⟩) | 1 => v = .pointer (some ⟨pb, 0, none⟩) | 2 => v = .pointer (some ⟨pb, 0, none⟩) | 3 => v = .slice (some ⟨pab, pao, none⟩) pl pc | 4 => v = .slice (some ⟨tb, to, none⟩) 3 q | 5 => v = .pointer (some ⟨tb, to + 1, none⟩) | 6 => v = .int .i64 (m1 : Int) | 7 => v = .pointer (some ⟨pab, pao + m1 * 3, none⟩) | 8 => v = vv p1 q1 r1 | 9 => v = vv p0 q0 r0 | 10 => ∃ p q r, v = vv p q r ∧ F3 p q r (lessC (cs.getD m1 c0) (cs.getD m0 c0)) | 11 => v = .pointer (some ⟨pb, 0, none⟩) | 12 => v = .pointer (some ⟨pb, 0, none⟩) | 13 => v = .pointer (some ⟨pb, 0, none⟩) | 14 => v = .slice (some ⟨pab, pao, none⟩) pl pc | 15 => v = .slice (some ⟨tb, to, none⟩) 3 q | 16 => v = .pointer (some ⟨tb, to + 2, none⟩) | 17 => v = .int .i64 (m2 : Int) | 18 => v = .pointer (some ⟨pab, pao + m2 * 3, none⟩) | 19 => v = vv p2 q2 r2 | 20 => v = vv p0 q0 r0 | 21 => ∃ p q r, v = vv p q r ∧ F3 p q r (lessC (cs.getD m2 c0) (cs.getD m0 c0)) | 22 => ∃ p q r, v = vv p q r ∧ F3 p q r (crossC (lessC (cs.getD m1 c0) (cs.getD m0 c0)) (lessC (cs.getD m2 c0) (cs.getD m0 c0))) | _ => True) (T := fun _ w' => TV (w.heap.size) (crossC (lessC (cs.getD m1 c0) (cs.getD m0 c0)) (lessC (cs.getD m2 c0) (cs.getD m0 c0))) w') [false, false, false, false, false, false, false, false, false, false, false, false, false, false, false, true, true, true, true, true, true, true, true, true, true, true, true, true, true, true, true, true, true, true, true, true, true, true]
   (by kernel_rfl) (by kernel_rfl) (by kernel_rfl) (fun _ _ _ _ _ _ h => h) (fun _ _ _ _ hG hT => hG hT) (Frm.drewN FR1.out 1) ?_ ?_
  ·refine ⟨Reg2.Obl.mk ?_, Reg2.Obl.mk ?_, Reg2.Obl.mk ?_, Reg2.Obl.mk ?_, Reg2.Obl.mk ?_, Reg2.Obl.mk ?_, Reg2.Obl.mk ?_, Reg2.Obl.mk ?_, Reg2.Obl.mk ?_, Reg2.Obl.mk ?_, Reg2.Obl.mk ?_, Reg2.Obl.mk ?_, Reg2.Obl.mk ?_, Reg2.Obl.mk ?_, Reg2.Obl.mk ?_, Reg2.Obl.mk ?_, Reg2.Obl.mk ?_, Reg2.Obl.mk ?_, Reg2.Obl.mk ?_, Reg2.Obl.mk ?_, Reg2.Obl.mk ?_, Reg2.Obl.mk ?_, Reg2.Obl.mk ?_, Reg2.Obl.mk ?_, trivial⟩
   ·rintro a w1 HC hx hd K hK
    replace HC := Lib.hid HC
    have t0 : a.tmps[0]?.getD undef = .pointer (some ⟨pb, 0, none⟩) := Reg.slot_val (hx 0 (by kernel_rfl))
    go_simp
    exact hK _ _ (fun _ => rfl) (fun h => by cases h) HC.out (fun h => h)
   ·rintro a w1 HC hx hd K hK
    replace HC := Lib.hid HC
    have t15 : a.tmps[15]?.getD undef = .pointer (some ⟨pb, 0, none⟩) := Reg.slot_val (hd 0 (by kernel_rfl) 15 rfl)
    go_simp
    exact hK _ _ (fun _ => rfl) (fun h => by cases h) HC.out (fun h => h)
   ·rintro a w1 HC hx hd K hK
    replace HC := Lib.hid HC
    have t16 : a.tmps[16]?.getD undef = .pointer (some ⟨pb, 0, none⟩) := Reg.slot_val (hd 1 (by kernel_rfl) 16 rfl)
    go_simp
    exact hK _ _ (fun _ => rfl) (fun h => by cases h) HC.out (fun h => h)
   ·rintro a w1 HC hx hd K hK
    replace HC := Lib.hid HC
    have y9 := cell_below HC.out.bel A0.out
    have t17 : a.tmps[17]?.getD undef = .pointer (some ⟨pb, 0, none⟩) := Reg.slot_val (hd 2 (by kernel_rfl) 17 rfl)
    go_simp
    exact hK _ _ (fun _ => rfl) (fun h => by cases h) HC.out (fun h => h)
   ·rintro a w1 HC hx hd K hK
    replace HC := Lib.hid HC
    have t1 : a.tmps[1]?.getD undef = .slice (some ⟨tb, to, none⟩) 3 q := Reg.slot_val (hx 1 (by kernel_rfl))
    go_simp
    exact hK _ _ (fun _ => rfl) (fun h => by cases h) HC.out (fun h => h)
   ·rintro a w1 HC hx hd K hK
    replace HC := Lib.hid HC
    have t19 : a.tmps[19]?.getD undef = .slice (some ⟨tb, to, none⟩) 3 q := Reg.slot_val (hd 4 (by kernel_rfl) 19 rfl)
    go_simp
    exact hK _ _ (fun _ => rfl) (fun h => by cases h) HC.out (fun h => h)
   ·rintro a w1 HC hx hd K hK
    replace HC := Lib.hid HC
    have z1 := cell_below HC.out.bel R1.out
    have t20 : a.tmps[20]?.getD undef = .pointer (some ⟨tb, to + 1, none⟩) := Reg.slot_val (hd 5 (by kernel_rfl) 20 rfl)
    go_simp
    exact hK _ _ (fun _ => rfl) (fun h => by cases h) HC.out (fun h => h)
   ·rintro a w1 HC hx hd K hK
    replace HC := Lib.hid HC
    have t18 : a.tmps[18]?.getD undef = .slice (some ⟨pab, pao, none⟩) pl pc := Reg.slot_val (hd 3 (by kernel_rfl) 18 rfl)
    have t21 : a.tmps[21]?.getD undef = .int .i64 (m1 : Int) := Reg.slot_val (hd 6 (by kernel_rfl) 21 rfl)
    go_simp
    exact hK _ _ (fun _ => rfl) (fun h => by cases h) HC.out (fun h => h)
   ·rintro a w1 HC hx hd K hK
    replace HC := Lib.hid HC
    have y0 := cell_below HC.out.bel D1.out.1
    have y1 := cell_below HC.out.bel D1.out.2.1
    have y2 := cell_below HC.out.bel D1.out.2.2
    have t22 : a.tmps[22]?.getD undef = .pointer (some ⟨pab, pao + m1 * 3, none⟩) := Reg.slot_val (hd 7 (by kernel_rfl) 22 rfl)
    go_simp
    exact hK _ _ (fun _ => rfl) (fun h => by cases h) HC.out (fun h => h)
   ·rintro a w1 HC hx hd K hK
    replace HC := Lib.hid HC
    have y0 := (HC.out.mem (.head _)) 0 _ rfl
    have y1 := (HC.out.mem (.head _)) 1 _ rfl
    have y2 := (HC.out.mem (.head _)) 2 _ rfl
    have t5 : a.tmps[5]?.getD undef = .pointer (some ⟨V, 0, none⟩) := Reg.slot_val (hx 5 (by kernel_rfl))
    go_simp
    exact hK _ _ (fun _ => rfl) (fun h => by cases h) HC.out (fun h => h)
   ·rintro a w1 HC hx hd K hK
    replace HC := Lib.hid HC
    have t23 : a.tmps[23]?.getD undef = vv p1 q1 r1 := Reg.slot_val (hd 8 (by kernel_rfl) 23 rfl)
    have t24 : a.tmps[24]?.getD undef = vv p0 q0 r0 := Reg.slot_val (hd 9 (by kernel_rfl) 24 rfl)
    go_simp
    refine (l01Less _ _ _ _ _ _ _ _ _ _ _ _ _ F1'.out.1 F1'.out.2.1 F1'.out.2.2 F0'.out.1 F0'.out.2.1 F0'.out.2.2).mono ?_
    rintro en w2 ⟨p', q', r', rfl, fp', fq', fr', hB2⟩
    exact hK _ _ (fun _ => ⟨p', q', r', rfl, fp', fq', fr'⟩) (fun h => by cases h) (HC.out.call hB2) (TV.call hB2)
   ·rintro a w1 HC hx hd K hK
    replace HC := Lib.hid HC
    have t0 : a.tmps[0]?.getD undef = .pointer (some ⟨pb, 0, none⟩) := Reg.slot_val (hx 0 (by kernel_rfl))
    go_simp
    exact hK _ _ (fun _ => rfl) (fun h => by cases h) HC.out (fun h => h)
   ·rintro a w1 HC hx hd K hK
    replace HC := Lib.hid HC
    have t26 : a.tmps[26]?.getD undef = .pointer (some ⟨pb, 0, none⟩) := Reg.slot_val (hd 11 (by kernel_rfl) 26 rfl)
    go_simp
    exact hK _ _ (fun _ => rfl) (fun h => by cases h) HC.out (fun h => h)
   ·rintro a w1 HC hx hd K hK
    replace HC := Lib.hid HC
    have t27 : a.tmps[27]?.getD undef = .pointer (some ⟨pb, 0, none⟩) := Reg.slot_val (hd 12 (by kernel_rfl) 27 rfl)
    go_simp
    exact hK _ _ (fun _ => rfl) (fun h => by cases h) HC.out (fun h => h)
   ·rintro a w1 HC hx hd K hK
    replace HC := Lib.hid HC
    have y9 := cell_below HC.out.bel A0.out
    have t28 : a.tmps[28]?.getD undef = .pointer (some ⟨pb, 0, none⟩) := Reg.slot_val (hd 13 (by kernel_rfl) 28 rfl)
    go_simp
    exact hK _ _ (fun _ => rfl) (fun h => by cases h) HC.out (fun h => h)
   ·rintro a w1 HC hx hd K hK
    replace HC := Lib.hid HC
    have t1 : a.tmps[1]?.getD undef = .slice (some ⟨tb, to, none⟩) 3 q := Reg.slot_val (hx 1 (by kernel_rfl))
    go_simp
    exact hK _ _ (fun _ => rfl) (fun h => by cases h) HC.out (fun h => h)
   ·rintro a w1 HC hx hd K hK
    replace HC := Lib.hid HC
    have t30 : a.tmps[30]?.getD undef = .slice (some ⟨tb, to, none⟩) 3 q := Reg.slot_val (hd 15 (by kernel_rfl) 30 rfl)
    go_simp
    exact hK _ _ (fun _ => rfl) (fun h => by cases h) HC.out (fun h => h)
   ·rintro a w1 HC hx hd K hK
    replace HC := Lib.hid HC
    have z2 := cell_below HC.out.bel R2.out
    have t31 : a.tmps[31]?.getD undef = .pointer (some ⟨tb, to + 2, none⟩) := Reg.slot_val (hd 16 (by kernel_rfl) 31 rfl)
    go_simp
    exact hK _ _ (fun _ => rfl) (fun h => by cases h) HC.out (fun h => h)
   ·rintro a w1 HC hx hd K hK
    replace HC := Lib.hid HC
    have t29 : a.tmps[29]?.getD undef = .slice (some ⟨pab, pao, none⟩) pl pc := Reg.slot_val (hd 14 (by kernel_rfl) 29 rfl)
    have t32 : a.tmps[32]?.getD undef = .int .i64 (m2 : Int) := Reg.slot_val (hd 17 (by kernel_rfl) 32 rfl)
    go_simp
    exact hK _ _ (fun _ => rfl) (fun h => by cases h) HC.out (fun h => h)
   ·rintro a w1 HC hx hd K hK
    replace HC := Lib.hid HC
    have y0 := cell_below HC.out.bel D2.out.1
    have y1 := cell_below HC.out.bel D2.out.2.1
    have y2 := cell_below HC.out.bel D2.out.2.2
    have t33 : a.tmps[33]?.getD undef = .pointer (some ⟨pab, pao + m2 * 3, none⟩) := Reg.slot_val (hd 18 (by kernel_rfl) 33 rfl)
    go_simp
    exact hK _ _ (fun _ => rfl) (fun h => by cases h) HC.out (fun h => h)
   ·rintro a w1 HC hx hd K hK
    replace HC := Lib.hid HC
    have y0 := (HC.out.mem (.head _)) 0 _ rfl
    have y1 := (HC.out.mem (.head _)) 1 _ rfl
    have y2 := (HC.out.mem (.head _)) 2 _ rfl
    have t5 : a.tmps[5]?.getD undef = .pointer (some ⟨V, 0, none⟩) := Reg.slot_val (hx 5 (by kernel_rfl))
    go_simp
    exact hK _ _ (fun _ => rfl) (fun h => by cases h) HC.out (fun h => h)
   ·rintro a w1 HC hx hd K hK
    replace HC := Lib.hid HC
    have t34 : a.tmps[34]?.getD undef = vv p2 q2 r2 := Reg.slot_val (hd 19 (by kernel_rfl) 34 rfl)
    have t35 : a.tmps[35]?.getD undef = vv p0 q0 r0 := Reg.slot_val (hd 20 (by kernel_rfl) 35 rfl)
    go_simp
    refine (l01Less _ _ _ _ _ _ _ _ _ _ _ _ _ F2'.out.1 F2'.out.2.1 F2'.out.2.2 F0'.out.1 F0'.out.2.1 F0'.out.2.2).mono ?_
    rintro en w2 ⟨p', q', r', rfl, fp', fq', fr', hB2⟩
    exact hK _ _ (fun _ => ⟨p', q', r', rfl, fp', fq', fr'⟩) (fun h => by cases h) (HC.out.call hB2) (TV.call hB2)
   ·rintro a w1 HC hx hd K hK
    replace HC := Lib.hid HC
    obtain ⟨p25, q25, r25, g25, f25⟩ := hd 10 (by kernel_rfl) 25 rfl
    have t25 := Reg.slot_val g25
    clear g25
    obtain ⟨p36, q36, r36, g36, f36⟩ := hd 21 (by kernel_rfl) 36 rfl
    have t36 := Reg.slot_val g36
    clear g36
    go_simp
    refine (l01Cross _ _ _ _ _ _ _ _ _ _ _ _ _ f25.1 f25.2.1 f25.2.2 f36.1 f36.2.1 f36.2.2).mono ?_
    rintro en w2 ⟨p', q', r', rfl, fp', fq', fr', hB2⟩
    exact hK _ _ (fun _ => ⟨p', q', r', rfl, fp', fq', fr'⟩) (fun h => by cases h) (HC.out.call hB2) (TV.call hB2)
   ·rintro a w1 HC hx hd K hK
    replace HC := Lib.hid HC
    have t4 : a.tmps[4]?.getD undef = .pointer (some ⟨w.heap.size, 0, none⟩) := Reg.slot_val (hx 4 (by kernel_rfl))
    obtain ⟨p37, q37, r37, g37, f37⟩ := hd 22 (by kernel_rfl) 37 rfl
    have t37 := Reg.slot_val g37
    clear g37
    obtain ⟨u0, u1, u2, x0, x1, x2⟩ := HC.out.cells
    have k0 := HC.out.free 0
    have k1 := HC.out.free 1
    have k2 := HC.out.free 2
    go_simp
    exact hK undef _ (fun h => absurd rfl h) (fun _ => TV.put HC.out f37) (HC.out.put _ _ _) (fun _ => TV.put HC.out f37)
  ·rintro f w1 hC hd' hT
   obtain ⟨x, y, z, ⟨x0, x1, x2⟩, hf⟩ := hT 23 rfl (by decide)
   simp only [Reg.mixL]
   have HC := Lib.hid hC
   clear hC hd' hT
   go_wp2
   refine bodyPost_ret (v := vv x y z) (by simp [results, Tryz.results165, go_sem, x0, x1, x2]) rfl ⟨x, y, z, rfl, hf, HC.out.bel⟩
end Go.Proofs.YtabccmobmppdnaaGreat
namespace Go.Proofs.YtabccmobmppdnaaGreat
open Go Fk Go.RowKit
set_option linter.unusedVariables false
set_option maxRecDepth 8000
def hasQ (L : List Int) (z : Int) : Bool := L.any (fun x => decide (x = z))
theorem hasQ_yes {L : List Int} {z : Int} {k : Nat} (hk : k < L.length) (h : L.getD k 0 = z) : hasQ L z = true := by
 have : L.getD k 0 = L[k] := by simp [List.getD, hk]
 rw [this] at h
 exact List.any_eq_true.2 ⟨L[k], List.getElem_mem hk, decide_eq_true h⟩
theorem hasQ_no {L : List Int} {z : Int} (h : ∀ j, j < L.length → L.getD j 0 ≠ z) : hasQ L z = false := by
 rw [Bool.eq_false_iff]
 intro hh
 obtain ⟨x, hx, he⟩ := List.any_eq_true.1 hh
 obtain ⟨j, hj, rfl⟩ := List.getElem_of_mem hx
 have := h j hj
 simp [List.getD, hj] at this
 exact this (of_decide_eq_true he)
theorem l00HasQ (a : Option Addr) (n cap : Nat) (L : List Int) (p : Int) (w : World) (h : IsIs w a n cap L) :
  Calls Tryz.prog 157 #[.slice a n cap, .int .i64 p] w fun e w' => e = .returned (.bool (hasQ L p)) ∧ w' = w := by
 have hm : n ≤ 9223372036854775807 := by have h1 := h.2.1; have h2 := h.2.2.1; unfold maxLen at h2; omega
 have hl := h.1
 have H := Lib.hid h
 clear h
 go_enter Tryz.func157, Tryz.ntmps157
 go_wp2
 go_loopw [5] (fun i w' => ∃ k : Nat, k ≤ n ∧ i = .int .i64 k ∧ w' = w ∧ Aside (∀ j, j < k → L.getD j 0 ≠ p)) (fun i _ => n - (intOf i).toNat)
 case atStart => exact ⟨0, Nat.zero_le _, rfl, rfl, fun j hj => absurd hj (by omega)⟩
 case round =>
  obtain ⟨k, hk, rfl, rfl, hA⟩ := hrel
  have HA := Lib.hid hA.out
  clear hA
  by_cases hlt : k < n
  ·obtain ⟨b, o, rfl, hcell⟩ := H.out.some (by omega)
   have hc0 := hcell k hlt
   have hk0 : (0 : Int) ≤ (k : Int) := by omega
   have hk1 : (k : Int) < (n : Int) := by omega
   have HZ := Lib.hid (fun (e : L.getD k 0 = p) => hasQ_yes (by omega) e)
   have HN : Hid (L.getD k 0 ≠ p → ∀ j, j < k + 1 → L.getD j 0 ≠ p) := Lib.hid (fun e j hj => by
    by_cases hjk : j = k
    ·subst hjk; exact e
    ·exact HA.out j (by omega))
   clear hcell
   generalize L.getD k 0 = z at *
   by_cases hz : z = p
   ·have HR := Lib.hid (HZ.out hz)
    subst hz
    clear HZ HN
    go_wp2
    go_ret
    exact ⟨ret_bool HR.out.symm, by first | rfl | trivial⟩
   ·have HR := Lib.hid (HN.out hz)
    have hze : (z == p) = false := by simp [hz]
    clear HZ HN
    go_wp2
    go_roundw
    case rel => exact ⟨k + 1, by omega, by go_num, by first | rfl | trivial, HR.out⟩
    case measure => simp [intOf]; omega
  ·obtain rfl : k = n := by omega
   have HR := Lib.hid (hasQ_no (fun j hj => HA.out j (by omega)))
   go_wp2
   go_ret
   exact ⟨ret_bool HR.out.symm, by first | rfl | trivial⟩
theorem hasQ3 {t : List Int} (h : t.length = 3) (p : Int) : hasQ t p = hasB t p := by
 match t, h with
 | [a, b, c], _ => simp [hasQ, hasB, List.getD]
end Go.Proofs.YtabccmobmppdnaaGreat
namespace Go.Proofs.YtabccmobmppdnaaGreat
open Go Fk Go.RowKit Go.Maps
set_option linter.unusedVariables false
set_option maxRecDepth 16000
end Go.Proofs.YtabccmobmppdnaaGreat
namespace Go.Proofs.YtabccmobmppdnaaGreat
open Go Fk Go.RowKit Go.Maps
set_option linter.unusedVariables false
set_option maxRecDepth 16000
set_option maxHeartbeats 4000000 in
theorem l03Third (r : Option Addr) (q n : Nat) (t : List Int) (i j : Int) (w : World) (h : IsIs w r 3 q t) (hT : Tri3 n t) (hij : i ≠ j) :
  Calls Tryz.prog 190 #[.slice r 3 q, .int .i64 i, .int .i64 j] w fun e w' => e = .returned (.int .i64 (thS t i j)) ∧ w' = w := by
 have hl := h.1
 have J := Lib.hid (fun p => (by have := l00HasQ r 3 q t p w h; rw [hasQ3 hl] at this; exact this : Calls Tryz.prog 157 #[.slice r 3 q, .int .i64 p] w fun e w' => e = .returned (.bool (hasB t p)) ∧ w' = w))
 have H := Lib.hid h
 have HT := Lib.hid hT
 unfold thS
 clear h hl hT
 cases h1 : hasB t i
 ·go_enter Tryz.func190, Tryz.ntmps190
  go_wp2_with fail
  refine (J.out i).mono ?_
  rintro e w1 ⟨rfl, hw1⟩
  rw [hw1, h1]
  clear hw1
  go_wp2
  go_ret
  exact ⟨rfl, by first | rfl | trivial⟩
 ·cases h2 : hasB t j
  ·go_enter Tryz.func190, Tryz.ntmps190
   go_wp2_with fail
   refine (J.out i).mono ?_
   rintro e w1 ⟨rfl, hw1⟩
   rw [hw1, h1]
   clear hw1
   go_wp2_with fail
   refine (J.out j).mono ?_
   rintro e w2 ⟨rfl, hw2⟩
   rw [hw2, h2]
   clear hw2
   go_wp2
   go_ret
   exact ⟨rfl, by first | rfl | trivial⟩
  ·have HTA := Lib.hid (fun k (hk : k < 3) h3 h4 => th_at HT.out hij h1 h2 (k := k) hk h3 h4)
   have HTH := Lib.hid (th_has HT.out hij h1 h2)
   go_enter Tryz.func190, Tryz.ntmps190
   go_wp2_with fail
   refine (J.out i).mono ?_
   rintro e w1 ⟨rfl, hw1⟩
   rw [hw1, h1]
   clear hw1
   go_wp2_with fail
   refine (J.out j).mono ?_
   rintro e w2 ⟨rfl, hw2⟩
   rw [hw2, h2]
   clear hw2 h1 h2
   go_wp2
   go_loopw [20] (fun x w' => ∃ k : Nat, k ≤ 3 ∧ x = .int .i64 k ∧ w' = w ∧ Aside (∀ m, m < k → t.getD m 0 = i ∨ t.getD m 0 = j)) (fun x _ => 3 - (intOf x).toNat)
   case atStart => exact ⟨0, by omega, rfl, rfl, fun m hm => absurd hm (by omega)⟩
   case round =>
    obtain ⟨k, hk, rfl, rfl, hA⟩ := hrel
    have HA := Lib.hid hA.out
    clear hA
    by_cases hlt : k < 3
    ·obtain ⟨b, o, rfl, hcell⟩ := H.out.some (by decide)
     have hc0 := hcell k hlt
     have hk0 : (0 : Int) ≤ (k : Int) := by omega
     have hk1 : (k : Int) < (3 : Int) := by omega
     have HX := Lib.hid (HTA.out k hlt)
     have HN : Hid (t.getD k 0 = i ∨ t.getD k 0 = j → ∀ m, m < k + 1 → t.getD m 0 = i ∨ t.getD m 0 = j) := Lib.hid (fun e m hm => by
      by_cases hmk : m = k
      ·subst hmk; exact e
      ·exact HA.out m (by omega))
     clear hcell
     generalize t.getD k 0 = z at *
     by_cases hi : z = i
     ·have hne : (z != i) = false := by simp [hi]
      have HR := Lib.hid (HN.out (.inl hi))
      subst hi
      go_wp2
      go_roundw
      case rel => exact ⟨k + 1, by omega, by go_num, by first | rfl | trivial, HR.out⟩
      case measure => simp [intOf]; omega
     ·have hne : (z != i) = true := by simp [hi]
      by_cases hj : z = j
      ·have hne2 : (z != j) = false := by simp [hj]
       have HR := Lib.hid (HN.out (.inr hj))
       subst hj
       go_wp2
       go_roundw
       case rel => exact ⟨k + 1, by omega, by go_num, by first | rfl | trivial, HR.out⟩
       case measure => simp [intOf]; omega
      ·have hne2 : (z != j) = true := by simp [hj]
       have HZ := Lib.hid (HX.out hi hj)
       go_wp2
       go_ret
       exact ⟨by rw [HZ.out]; rfl, by first | rfl | trivial⟩
    ·obtain rfl : k = 3 := by omega
     exact (HTH.out HA.out).elim
theorem ts_grown {lo hi : Nat} {w w' : World} {a : Option Addr} {n cap : Nat} {ts : List (List Int)} {row : Option Nat} (h : IsTs w a n cap ts) (hl : LT lo hi w a n) (hg : w.grownBy w' row) (ho : ∀ g, row = some g → g < lo ∨ hi ≤ g) : IsTs w' a n cap ts ∧ LT lo hi w' a n := by
 have hne : ∀ b, lo ≤ b → b < hi → some b ≠ row := fun b h1 h2 e => by have := ho b e.symm; omega
 obtain ⟨h1, h2, h3, h4, h5⟩ := h
 refine ⟨⟨h1, h2, h3, h4, fun x hx i hlt => ?_⟩, fun x hx => ?_⟩
 ·obtain ⟨R, e, u1, u2, u3⟩ := hl x hx
  obtain ⟨G, c, c', hc, hI⟩ := h5 x hx i hlt
  obtain ⟨b, m, c2, hc2, hb⟩ := u3 i hlt
  subst e
  rw [addr_add', Nat.zero_add] at hc
  rw [hc2] at hc
  cases hc
  refine ⟨_, _, _, by rw [addr_add', Nat.zero_add]; exact hg.cell hc2 (hne R u1 u2), ?_⟩
  obtain ⟨i1, i2, i3, i4, i5, i6⟩ := hI
  refine ⟨i1, i2, i3, i4, i5, fun y hy j hj => ?_⟩
  obtain ⟨F, o, e, v1, v2⟩ := hb y hy
  have := i6 y hy j hj
  subst e
  rw [addr_add'] at this ⊢
  exact hg.cell this (hne F v1 v2)
 ·obtain ⟨R, e, u1, u2, u3⟩ := hl x hx
  refine ⟨R, e, u1, u2, fun i hlt => ?_⟩
  obtain ⟨b, m, c2, hc2, hb⟩ := u3 i hlt
  exact ⟨b, m, c2, hg.cell hc2 (hne R u1 u2), hb⟩
set_option maxHeartbeats 8000000 in
theorem l03Hinges (pb : Nat) (pa ta : Option Addr) (pl pc tl tc : Nat) (cs : List C3) (ts : List (List Int)) (w : World) (a0 : w.cell? ⟨pb, 0, none⟩ = some (.slice pa pl pc)) (a1 : w.cell? ⟨pb, 1, none⟩ = some (.slice ta tl tc)) (hp : IsVs w pa pl pc cs) (ht : IsTs w ta tl tc ts) (hv : validB cs ts = true) :
  Calls Tryz.prog 168 #[.pointer (some ⟨pb, 0, none⟩)] w fun e w' => (∃ v, e = .returned v ∧ OwnT w.heap.size w' v (hgT cs ts).length (hgT cs ts)) ∧ Below w.heap.size w w' := by
 have ui := Tryz.underlying40
 obtain ⟨i0, hi, hz0, hz1, hz2⟩ := info_parts info64
 obtain ⟨j0, hj, hy0, hy1, hy2⟩ := info_parts infoS
 have hpl := hp.1
 have hll := edT_len cs ts
 obtain ⟨v1, v2⟩ := valid_pl hv
 have HT3 : Hid (∀ i, i < ts.length → Tri3 cs.length (ts.getD i [])) := Lib.hid (fun i (hi : i < ts.length) => tri3_of (valid_rowh hv hi))
 have h3 : ∀ k, k < tl → (ts.getD k []).length = 3 := fun k hk => (tri_partsh (valid_rowh hv (show k < ts.length by have := ht.1; omega))).1
 have H3 := Lib.hid h3
 have HTL := Lib.hid ht.1
 have HTS := Lib.hid ht
 have HL : Hid (tl ≤ 128) := Lib.hid (by have := ht.1; omega)
 have hed : edgesT pl ts = (pairsL (keysE ts) cs.length).map rowP := by rw [hpl]; exact edgesT_pairs _ _
 have J2 := Lib.hid (fun (w : World) a0 a1 hp ht => l02Edges pb pa ta pl pc tl tc cs ts w a0 a1 hp ht hv)
 have hwf : ∀ j, j < (edgesT pl ts).length → ∀ z ∈ (edgesT pl ts).getD j [], (Lit.int .i64 z).wf = true := edge_wf (by have := (valid_pl hv).1; omega)
 have HIM : Hid (∀ k, k < (pairsL (keysE ts) cs.length).length → ∃ m n : Nat, m < n ∧ n < 64 ∧ (pairsL (keysE ts) cs.length).getD k (0, 0) = ((m : Int), (n : Int))) := Lib.hid (fun k hk => by
  have hm : (pairsL (keysE ts) cs.length).getD k (0, 0) ∈ pairsL (keysE ts) cs.length := by
   rw [List.getD, List.getElem?_eq_getElem hk]
   exact List.getElem_mem _
  obtain ⟨a, b, _, hb, hab, _, e⟩ := mem_pairsL.1 hm
  exact ⟨a, b, hab, by omega, e⟩)
 unfold edT at hll
 rw [hv] at hll
 simp only [cond_true] at hll
 rw [edgesT_pairs, List.length_map] at hll
 rw [hed] at J2 hwf
 unfold hgT
 rw [hv, cond_true]
 generalize pairsL (keysE ts) cs.length = ps at *
 have HWF := Lib.hid hwf
 have HLEN := Lib.hid hll
 have HP := Lib.hid hp
 have C01 := Lib.hid (And.intro a0 a1)
 clear h3 v1 v2 hv hp ht hwf hed hll a0 a1
 have hst0 : (w.alloc (.cells #[] 33)).ownsRow w.heap.size 33 1 (.slice (some ⟨w.heap.size, 0, none⟩) 0 0) 0 [] :=
  World.ownsRow_lit (base := w.heap.size) (e := 33) (size := 1) w #[] 0 (Nat.le_refl _) (by decide) rfl
 have hbw0 : Below w.heap.size w (w.alloc (.cells #[] 33)) := (Below.refl _ _).alloc (Nat.le_refl _) _
 have HST0 : Hid (OwnT w.heap.size (w.alloc (.cells #[] 33)) (.slice (some ⟨w.heap.size, 0, none⟩) 0 0) 0 (hgK ts ps 0)) := Lib.hid ⟨[], hst0, fun j hj => absurd hj (by omega)⟩
 have HBW0 := Lib.hid hbw0
 clear hst0 hbw0
 go_enter Tryz.func168, Tryz.ntmps168
 go_wp2_with fail
 have HW0 : Hid (w.heap.size < (w.alloc (.cells #[] 33)).heap.size) := Lib.hid (by simp)
 have HV0 : Hid (∀ g, (Value.slice (some ⟨w.heap.size, 0, none⟩) 0 0).ownBlock = some g → g = w.heap.size) := Lib.hid (fun g h => by simp [Value.ownBlock] at h; exact h.symm)
 generalize w.alloc (.cells #[] 33) = W0 at *
 generalize (.slice (some ⟨w.heap.size, 0, none⟩) 0 0 : Value) = v0 at *
 refine (J2.out W0 (cell_below HBW0.out C01.out.1) (cell_below HBW0.out C01.out.2) (HP.out.below HBW0.out) (HTS.out.below HBW0.out)).mono ?_
 rintro e w2 ⟨⟨v, rfl, hvo⟩, hB2⟩
 obtain ⟨ea, ec, rfl, hI⟩ := hvo.is rfl HWF.out
 have hLT := lt_of_owns hvo
 have HI := Lib.hid hI
 have HST := Lib.hid (HST0.out.up hB2)
 have HB2 := Lib.hid (HBW0.out.trans (hB2.mono HBW0.out.size))
 have hlm : (List.map rowP ps).length = ps.length := by simp
 rw [hlm] at HI hLT ⊢
 have HLT := Lib.hid hLT
 have HB22 := Lib.hid hB2.size
 clear hvo hI hB2 hlm J2 HST0 HBW0 hLT
 go_wp2
 go_loopw [3, 16] (fun v i w' => ∃ k : Nat, k ≤ ps.length ∧ i = .int .i64 k ∧ Aside (OwnT w.heap.size w' v (hgK ts ps k).length (hgK ts ps k) ∧ Below w.heap.size w w' ∧ IsTs w' ea ps.length ec (List.map rowP ps) ∧ LT W0.heap.size w2.heap.size w' ea ps.length ∧ (∀ g, v.ownBlock = some g → g < W0.heap.size ∨ w2.heap.size ≤ g) ∧ w2.heap.size ≤ w'.heap.size)) (fun _ i _ => ps.length - (intOf i).toNat)
 case atStart => exact ⟨0, Nat.zero_le _, rfl, HST.out, HB2.out, HI.out, HLT.out, fun g h => .inl (by have := HV0.out g h; have := HW0.out; omega), Nat.le_refl _⟩
 case round =>
  obtain ⟨k, hk, hik, hA⟩ := hrel
  subst hik
  obtain ⟨hO, hB', hE, hEL, hOB, hS2⟩ := hA.out
  have HEL := Lib.hid hEL
  have HOB := Lib.hid hOB
  have HS2 := Lib.hid hS2
  have HO := Lib.hid hO
  have HC' := Lib.hid hB'
  have HE := Lib.hid hE
  by_cases hlt : k < ps.length
  ·obtain ⟨bt, ot, rfl, hrow⟩ := HE.out.some (by omega)
   obtain ⟨r1, n1, q1, cr, ir⟩ := hrow k hlt
   obtain ⟨m, n, hmn, hn64, hek⟩ := HIM.out k hlt
   have hrk : (List.map rowP ps).getD k [] = rowP (ps.getD k (0, 0)) := by simp [List.getD, hlt]
   rw [hrk] at ir
   have hn1 : n1 = 2 := by have := ir.1; simpa [rowP] using this.symm
   subst hn1
   obtain ⟨br, orr, rfl, hcell⟩ := ir.some (by omega)
   have e0 := hcell 0 (by omega)
   have e1 := hcell 1 (by omega)
   rw [hek] at e0 e1
   simp only [rowP, List.getD_cons_zero, List.getD_cons_succ, Nat.add_zero] at e0 e1
   have hk0 : (0 : Int) ≤ (k : Int) := by omega
   have hk1 : (k : Int) < (ps.length : Int) := by omega
   have kb0 := cell_below hB' C01.out.1
   have kb1 := cell_below hB' C01.out.2
   have lpb := World.block_lt_of_cell? _ _ kb0
   have HKS := Lib.hid (hgK_s (ts := ts) hlt)
   have HKL := Lib.hid (hgK_len ts ps k)
   have HEK := Lib.hid hek
   have HIJ : Hid ((m : Int) ≠ (n : Int)) := Lib.hid (by omega)
   have hr1 : (wr.alloc (.cells #[.int .i64 (m : Int), .int .i64 (n : Int)] 2)).ownsRow wr.heap.size 2 1 (.slice (some ⟨wr.heap.size, 0, none⟩) 2 2) 2 (ints [(m : Int), (n : Int)]) :=
    World.ownsRow_lit (base := wr.heap.size) (e := 2) (size := 1) wr #[.int .i64 (m : Int), .int .i64 (n : Int)] 2 (Nat.le_refl _) (by decide) rfl
   have HR1 := Lib.hid hr1
   have HBR : Hid (Below wr.heap.size wr (wr.alloc (.cells #[.int .i64 (m : Int), .int .i64 (n : Int)] 2))) := Lib.hid ((Below.refl _ _).alloc (Nat.le_refl _) _)
   clear hA hO hB' hE hrow ir hcell hek hrk hr1 hEL hOB hS2
   go_wp2
   clear cr e0 e1
   have KB := Lib.hid (And.intro kb0 kb1)
   clear kb0 kb1 lpb
   obtain ⟨V, hV⟩ : ∃ V, V = wr := ⟨_, rfl⟩
   subst hV
   go_loopw [8, 39] (fun v i w' => ∃ y : Nat, y ≤ tl ∧ i = .int .i64 y ∧ Aside (w'.ownsRow V.heap.size 2 1 v (2 + (atL ts (m : Int) (n : Int) y).length) (ints ((m : Int) :: (n : Int) :: thirds ts (m : Int) (n : Int) (atL ts (m : Int) (n : Int) y))) ∧ Below V.heap.size V w')) (fun _ i _ => tl - (intOf i).toNat)
   case atStart => exact ⟨0, Nat.zero_le _, rfl, HR1.out, HBR.out⟩
   case round =>
    obtain ⟨y, hy, hiy, hA⟩ := hrel
    subst hiy
    obtain ⟨hO5, hB5⟩ := hA.out
    have HO5 := Lib.hid hO5
    have HB5 := Lib.hid hB5
    have HBW := Lib.hid (HC'.out.trans (hB5.mono HC'.out.size))
    have hsz5 := hB5.size
    have hal := atL_len ts (m : Int) (n : Int) y
    by_cases hly : y < tl
    ·obtain ⟨tb, to, rfl, hrow2⟩ := (HTS.out.below HBW.out).some (by omega)
     obtain ⟨r2, n2, q2, cr2, ir2⟩ := hrow2 y hly
     have hn2 : n2 = 3 := ir2.1.symm.trans (H3.out y hly)
     subst hn2
     have hy0' : (0 : Int) ≤ (y : Int) := by omega
     have hy1' : (y : Int) < (tl : Int) := by omega
     have kb1 := cell_below hB5 KB.out.2
     have hTy := HT3.out y (by have := HTL.out; omega)
     have HTR := Lib.hid (fun w' h => l03Third r2 q2 cs.length (ts.getD y []) (m : Int) (n : Int) w' h hTy HIJ.out)
     have HIR2 := Lib.hid ir2
     have HAS : Hid (atL ts (m : Int) (n : Int) (y + 1) = atL ts (m : Int) (n : Int) y ++ (bif hasB (ts.getD y []) (m : Int) && hasB (ts.getD y []) (n : Int) then [(y : Int)] else [])) := rfl
     have HYS := Lib.hid (thS_yes hTy HIJ.out)
     clear hA hO5 hB5 hrow2 ir2 hTy
     go_wp2_with fail
     refine (HTR.out _ HIR2.out).mono ?_
     rintro e w6 ⟨rfl, hw6⟩
     rw [hw6]
     clear hw6 kb1 cr2
     unfold thS
     cases hb : (hasB (ts.getD y []) (m : Int) && hasB (ts.getD y []) (n : Int))
     ·rw [hb] at HAS
      have HAS2 : Hid (atL ts (m : Int) (n : Int) (y + 1) = atL ts (m : Int) (n : Int) y) := Lib.hid (by rw [HAS.out]; simp)
      have hng : ¬ (0 : Int) ≤ (-1 : Int) := by decide
      simp only [cond_false]
      have hL128 := HL.out
      go_wp2
      go_roundw
      case rel => exact ⟨y + 1, by omega, by go_num, by rw [HAS2.out]; exact HO5.out, HB5.out⟩
      case measure => simp [intOf]; omega
     ·rw [hb] at HAS
      simp only [Bool.and_eq_true] at hb
      have hth := HYS.out hb.1 hb.2
      have HAS2 : Hid (atL ts (m : Int) (n : Int) (y + 1) = atL ts (m : Int) (n : Int) y ++ [(y : Int)]) := Lib.hid (by rw [HAS.out]; rfl)
      have HTH : Hid (thirds ts (m : Int) (n : Int) (atL ts (m : Int) (n : Int) (y + 1)) = thirds ts (m : Int) (n : Int) (atL ts (m : Int) (n : Int) y) ++ [thN (ts.getD y []) (m : Int) (n : Int)]) := Lib.hid (by rw [HAS2.out]; unfold thirds; rw [List.map_append, List.map_cons, List.map_nil, Int.toNat_natCast])
      simp only [cond_true]
      generalize thN (ts.getD y []) (m : Int) (n : Int) = z at *
      obtain ⟨hth0, _⟩ := hth
      clear hb HYS
      go_wp2_with (at_builtin; refine wpList_append_own _ rfl _ _ 33 rfl V.heap.size 2 i0 (.int .i64 0) 1 8 Tryz.underlying33 hi hz0 hz1 hz2 rfl (by decide) _ _ _ rfl (HO5.out.alloc _) ⟨wr.heap.size, 0, none⟩ 1 1 [.int .i64 z] rfl rfl ?c1 ?c2 ?c3 ?c4 ?c5 ?_)
      try (case c1 =>
       intro j u hj
       match j, hj with
       | 0, hj => simp at hj; subst hj; simp [Addr.add])
      case c2 => first | rfl | (intro u hu; simp at hu; subst hu; rfl)
      case c3 => have := HL.out; unfold maxLen; omega
      case c4 => have := HL.out; omega
      case c5 => simp; omega
      ·intro v' w7 hown' hgrow _
       have hB7 : Below V.heap.size V (wr.alloc (.cells #[.int .i64 z] 2)) := HB5.out.alloc hsz5 _
       have HB7 := Lib.hid (hB7.grown hgrow hB7.size (fun q hq => (HO5.out.lt q hq).1))
       have HO7 : Hid (w7.ownsRow V.heap.size 2 1 v' (2 + (atL ts (m : Int) (n : Int) (y + 1)).length) (ints ((m : Int) :: (n : Int) :: thirds ts (m : Int) (n : Int) (atL ts (m : Int) (n : Int) (y + 1))))) := Lib.hid (by
        rw [HTH.out, HAS2.out]
        have e : ints ((m : Int) :: (n : Int) :: (thirds ts (m : Int) (n : Int) (atL ts (m : Int) (n : Int) y) ++ [z])) = ints ((m : Int) :: (n : Int) :: thirds ts (m : Int) (n : Int) (atL ts (m : Int) (n : Int) y)) ++ [.int .i64 z] := by simp [ints]
        rw [e, List.length_append, List.length_singleton, ← Nat.add_assoc]
        exact hown')
       clear hown' hgrow hB7
       have hL128 := HL.out
       go_wp2
       go_roundw
       case rel => exact ⟨y + 1, by omega, by go_num, HO7.out, HB7.out⟩
       case measure => simp [intOf]; omega
    ·obtain rfl : y = tl := by omega
     have htl := HTL.out
     have hIE := HE.out.below HB5.out
     have HIE := Lib.hid hIE
     obtain ⟨va, vc, hva⟩ := owns_slice hO5
     obtain ⟨sz, hsz⟩ : ∃ sz, (atL ts (m : Int) (n : Int) y).length = sz := ⟨_, rfl⟩
     rw [hsz] at hva hal
     have hH : isH ts ((m : Int), (n : Int)) = decide (sz = 2) := by unfold isH; rw [htl, hsz]
     have hrw : hrow ts ((m : Int), (n : Int)) = (m : Int) :: (n : Int) :: thirds ts (m : Int) (n : Int) (atL ts (m : Int) (n : Int) y) := by unfold hrow; rw [htl]
     have hK := HKS.out
     rw [HEK.out, hH] at hK
     have HK := Lib.hid hK
     have HRW := Lib.hid hrw
     have HSZ := Lib.hid hsz
     have hOT := HO.out.up HB5.out
     have HOT := Lib.hid hOT
     have HELY := Lib.hid (HEL.out.below hB5)
     have HSY : Hid (w2.heap.size ≤ wr.heap.size) := Lib.hid (Nat.le_trans HS2.out hB5.size)
     clear hA hIE hsz hH hrw hK hOT hB5
     have hL128 := HL.out
     by_cases h4 : sz = 2
     ·have h4' : (((2 + sz : Nat) : Int) == 4) = true := by simp [h4]
      subst hva
      subst h4
      have hl4 : ((m : Int) :: (n : Int) :: thirds ts (m : Int) (n : Int) (atL ts (m : Int) (n : Int) y)).length = 4 := by simp [thirds, HSZ.out]
      have ho5 : wr.ownsRow V.heap.size 2 1 (.slice va 4 vc) ((m : Int) :: (n : Int) :: thirds ts (m : Int) (n : Int) (atL ts (m : Int) (n : Int) y)).length (ints ((m : Int) :: (n : Int) :: thirds ts (m : Int) (n : Int) (atL ts (m : Int) (n : Int) y))) := by
       rw [HSZ.out] at hO5
       rw [hl4]
       exact hO5
      have HO5 := Lib.hid ho5
      clear hO5 ho5 hl4
      have HKY : Hid (hgK ts ps (k + 1) = hgK ts ps k ++ [(m : Int) :: (n : Int) :: thirds ts (m : Int) (n : Int) (atL ts (m : Int) (n : Int) y)]) := Lib.hid (by rw [HK.out, ← HRW.out]; rfl)
      obtain ⟨rows, hrow, hrows⟩ := HOT.out.congr (us := hgK ts ps k ++ [(m : Int) :: (n : Int) :: thirds ts (m : Int) (n : Int) (atL ts (m : Int) (n : Int) y)]) (fun j hj => getD_app hj)
      have HROW := Lib.hid hrow
      have HROWS := Lib.hid hrows
      have hkl := HKL.out
      have hps := HLEN.out
      have hbw := HBW.out.size
      clear hrow hrows
      go_wp2_with (at_builtin; refine wpList_append_own_at _ rfl _ _ 23 rfl w.heap.size 33 j0 (.slice none 0 0) 1 24 Tryz.underlying23 hj hy0 hy1 hy2 rfl (by decide) _ _ _ rfl (HROW.out.alloc _) ⟨wr.heap.size, 0, none⟩ 1 1 [.slice va 4 vc] rfl rfl ?d1 ?d2 ?d3 ?d4 ?d5 ?_)
      try (case d1 =>
       intro j u hj
       match j, hj with
       | 0, hj => simp at hj; subst hj; simp [Addr.add])
      case d2 => first | rfl | (intro u hu; simp at hu; subst hu; rfl)
      case d3 => unfold maxLen; omega
      case d4 => omega
      case d5 => first | omega | (simp; omega)
      ·intro v' w7 hown' hgrow _ hat
       have hAL : Below wr.heap.size wr (wr.alloc (.cells #[.slice va 4 vc] 33)) := (Below.refl _ _).alloc (Nat.le_refl _) _
       have HT7 : Hid (OwnT w.heap.size w7 v' (hgK ts ps (k + 1)).length (hgK ts ps (k + 1))) := Lib.hid (by
        rw [HKY.out, List.length_append, List.length_singleton]
        refine OwnT.snoc (HROW.out.alloc _) (fun j hj => ?_) (by rw [getD_end]; exact owns_low (owns_up HO5.out hAL) HC'.out.size) hgrow hown'
        obtain ⟨u, e1, e2⟩ := HROWS.out j hj
        exact ⟨u, e1, owns_up e2 hAL⟩)
       have hB7 : Below w.heap.size w (wr.alloc (.cells #[.slice va 4 vc] 33)) := HBW.out.alloc HBW.out.size _
       have HB7 := Lib.hid (hB7.grown hgrow hB7.size (fun q hq => (HROW.out.lt q hq).1))
       have hE7 := ts_grown (HIE.out.below hAL) (HELY.out.below hAL) hgrow HOB.out
       have HE7 := Lib.hid hE7
       have HOB7 : Hid (∀ g, v'.ownBlock = some g → g < W0.heap.size ∨ w2.heap.size ≤ g) := Lib.hid (fun g h => by
        rcases hat with hat | hat
        ·exact HOB.out g (by rw [← hat]; exact h)
        ·rw [hat] at h
         cases h
         have := HSY.out
         exact .inr (by first | omega | (simp; omega)))
       have HS7 : Hid (w2.heap.size ≤ w7.heap.size) := Lib.hid (by have h1 := HSY.out; have h2 := hgrow.size; simp at h2; omega)
       clear hown' hgrow hat hE7 hB7 hAL
       go_wp2
       go_roundw
       case rel => exact ⟨k + 1, by omega, by go_num, HT7.out, HB7.out, HE7.out.1, HE7.out.2, HOB7.out, HS7.out⟩
       case measure => simp [intOf]; omega
     ·have h4' : (((2 + sz : Nat) : Int) == 4) = false := beq_eq_false_iff_ne.2 (by omega)
      subst hva
      have HKY : Hid (hgK ts ps (k + 1) = hgK ts ps k) := Lib.hid (by rw [HK.out, decide_eq_false h4]; simp)
      have hps := HLEN.out
      clear hO5
      go_wp2
      go_roundw
      case rel => exact ⟨k + 1, by omega, by go_num, by rw [HKY.out]; exact HOT.out, HBW.out, HIE.out, HELY.out, HOB.out, HSY.out⟩
      case measure => simp [intOf]; omega
  ·obtain rfl : k = ps.length := by omega
   clear hA hO hB' hE hEL hOB hS2
   go_wp2
   go_ret
   exact ⟨⟨_, rfl, HO.out⟩, HC'.out⟩
end Go.Proofs.YtabccmobmppdnaaGreat

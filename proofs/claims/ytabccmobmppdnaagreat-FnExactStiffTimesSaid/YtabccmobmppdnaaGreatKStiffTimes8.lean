/-
Texts in one: what StiffTimes stands on, part 8. Conditions: those of each.
-/
import Derived.Test.YtabccmobmppdnaaGreatKStiffTimes7
-- halved
namespace Go.Proofs.YtabccmobmppdnaaGreat
open Go Fk Go.RowKit
set_option linter.unusedVariables false
set_option maxRecDepth 16000
theorem negF32 {x : Nat} (hx : x < 4294967296) : Op.negFloat .f32 x < 4294967296 ∧ Op.negFloat .f32 x % 2147483648 = x % 2147483648 := by
 have h := neg_lt hx
 refine ⟨h, ?_⟩
 unfold Op.negFloat
 show (x ^^^ 2147483648) % 2147483648 = x % 2147483648
 have e : (x ^^^ 2 ^ 31) % 2 ^ 31 = x % 2 ^ 31 := by
  apply Nat.eq_of_testBit_eq
  intro i
  rw [Nat.testBit_mod_two_pow, Nat.testBit_mod_two_pow, Nat.testBit_xor, Nat.testBit_two_pow]
  by_cases hi : i < 31
  ·have : ¬ 31 = i := by omega
   simp [hi, this]
  ·simp [hi]
 exact e
theorem FV_neg32 {x : Nat} {c : Option Nat} (h : FV .f32 x c) : FV .f32 (Op.negFloat .f32 x) (c.map (Op.negFloat .f32)) := by
 obtain ⟨h1, h2⟩ := negF32 h.1
 refine ⟨h1, ?_⟩
 cases hn : nan32 x
 ·have e : c = some x := by rw [← h.2]; exact cls_num hn
  rw [e]
  refine cls_num ?_
  have : nan32 (Op.negFloat .f32 x) = false := by
   rw [nan32_iff] at hn ⊢
   rw [h2]; exact hn
  exact this
 ·have e : c = none := by rw [← h.2]; exact cls_nan hn
  rw [e]
  refine cls_nan ?_
  have : nan32 (Op.negFloat .f32 x) = true := by
   rw [nan32_iff] at hn ⊢
   rw [h2]; exact hn
  exact this
def negC32 (c : Option Nat) : Option Nat := c.map (Op.negFloat .f32)
def innerC (a b : C3) : Option Nat := fop .add .f32 (fop .add .f32 (fop .mul .f32 a.1 b.1) (fop .mul .f32 a.2.1 b.2.1)) (fop .mul .f32 a.2.2 b.2.2)
def plusC (a b : C3) : C3 := (fop .add .f32 a.1 b.1, fop .add .f32 a.2.1 b.2.1, fop .add .f32 a.2.2 b.2.2)
def placeC (cs : List C3) (z : Int) : C3 := cs.getD z.toNat c0
inductive En where
 | sp (s : SC)
 | fi (t : List Int) (f : Option Nat)
 | hi (h : List Int) (b : Option Nat)
 | we (p : Int) (w : Option Nat) (f : C3)
def lateC (cs : List C3) (s : SC) : Option Nat := fop .sub .f32 (longC (wayC cs s.1 s.2.1)) s.2.2.1
def foldC (cs : List C3) (h : List Int) : C3 := lessC (plusC (placeC cs (h.getD 2 0)) (placeC cs (h.getD 3 0))) (plusC (placeC cs (h.getD 0 0)) (placeC cs (h.getD 1 0)))
def En.E (cs : List C3) : En → Option Nat
 | .sp s => fop .mul .f32 (fop .mul .f32 halfC s.2.2.2) (fop .mul .f32 (lateC cs s) (lateC cs s))
 | .fi t f => fop .mul .f32 f (areaC cs t)
 | .hi h b => fop .mul .f32 (fop .mul .f32 halfC b) (innerC (foldC cs h) (foldC cs h))
 | .we p w f => negC32 (fop .mul .f32 w (innerC f (placeC cs p)))
def En.ok (n : Nat) : En → Prop
 | .sp s => inB n s.1 = true ∧ inB n s.2.1 = true
 | .fi t _ => triB n t = true
 | .hi h _ => ∀ i, i < 4 → inB n (h.getD i 0) = true
 | .we p _ _ => inB n p = true
def En.Is : En → Value → Prop
 | .sp s, v => ∃ x y, v = .iface 166 (sv s.1 s.2.1 x y) ∧ FV .f32 x s.2.2.1 ∧ FV .f32 y s.2.2.2
 | .fi t f, v => ∃ x, v = .iface 192 (.agg #[.int .i64 (t.getD 0 0), .int .i64 (t.getD 1 0), .int .i64 (t.getD 2 0), .float .f32 x]) ∧ FV .f32 x f
 | .hi h b, v => ∃ x, v = .iface 198 (.agg #[.int .i64 (h.getD 0 0), .int .i64 (h.getD 1 0), .int .i64 (h.getD 2 0), .int .i64 (h.getD 3 0), .float .f32 x]) ∧ FV .f32 x b
 | .we p w f, v => ∃ x a b c, v = .iface 200 (.agg #[.int .i64 p, .float .f32 x, .float .f32 a, .float .f32 b, .float .f32 c]) ∧ FV .f32 x w ∧ FV3 a b c f
set_option maxHeartbeats 2000000 in
theorem hinge_fold (m0 m1 m2 m3 : Nat) (pa : Option Addr) (pl pc : Nat) (cs : List C3) (w : World) (h : IsVs w pa pl pc cs) (ha : m0 < pl) (hb : m1 < pl) (hc : m2 < pl) (hd : m3 < pl) :
  Calls Tryz.prog 259 #[.agg #[.int .i64 (m0 : Int), .int .i64 (m1 : Int), .int .i64 (m2 : Int), .int .i64 (m3 : Int)], .slice pa pl pc] w fun e w' => ∃ x y z, e = .returned (vv x y z) ∧ F3 x y z (lessC (plusC (cs.getD m2 c0) (cs.getD m3 c0)) (plusC (cs.getD m0 c0) (cs.getD m1 c0))) ∧ Below w.heap.size w w' := by
 have u := Tryz.underlying27
 have uh := Tryz.underlying196
 have uv := Tryz.underlying42
 have hm : pl ≤ 9223372036854775807 := by have h1 := h.2.1; have h2 := h.2.2.1; unfold maxLen at h2; omega
 obtain ⟨pb, po, rfl, hcell⟩ := h.some (by omega)
 obtain ⟨p0, q0, r0, i00, i01, i02, f0⟩ := hcell m0 ha
 obtain ⟨p1, q1, r1, i10, i11, i12, f1⟩ := hcell m1 hb
 obtain ⟨p2, q2, r2, i20, i21, i22, f2⟩ := hcell m2 hc
 obtain ⟨p3, q3, r3, i30, i31, i32, f3⟩ := hcell m3 hd
 have D0 := Lib.hid (And.intro i00 (And.intro i01 i02))
 have D1 := Lib.hid (And.intro i10 (And.intro i11 i12))
 have D2 := Lib.hid (And.intro i20 (And.intro i21 i22))
 have D3 := Lib.hid (And.intro i30 (And.intro i31 i32))
 have F0 := Lib.hid f0
 have F1 := Lib.hid f1
 have F2 := Lib.hid f2
 have F3' := Lib.hid f3
 have a0 : (0 : Int) ≤ (m0 : Int) := by omega
 have a1 : (m0 : Int) < (pl : Int) := by omega
 have b0 : (0 : Int) ≤ (m1 : Int) := by omega
 have b1 : (m1 : Int) < (pl : Int) := by omega
 have c0' : (0 : Int) ≤ (m2 : Int) := by omega
 have c1 : (m2 : Int) < (pl : Int) := by omega
 have d0 : (0 : Int) ≤ (m3 : Int) := by omega
 have d1 : (m3 : Int) < (pl : Int) := by omega
 have FR : Hid (Frm w [(w.heap.size, [.int .i64 (m0 : Int), .int .i64 (m1 : Int), .int .i64 (m2 : Int), .int .i64 (m3 : Int)])] (w.heap.size + 1) ((w.alloc (.cells #[.int .i64 (m0 : Int), .int .i64 (m1 : Int), .int .i64 (m2 : Int), .int .i64 (m3 : Int)] 196)).alloc (.cells #[.float .f32 0, .float .f32 0, .float .f32 0] 42))) := Lib.hid (by
  refine ⟨((Below.refl _ _).alloc (Nat.le_refl _) _).alloc (by simp) _, ?_, by omega, ⟨.float .f32 0, .float .f32 0, .float .f32 0, by go_simp, by go_simp, by go_simp⟩, fun i => by go_simp⟩
  intro b' l hm
  rcases List.mem_cons.1 hm with e | hm
  ·cases e
   exact ⟨At.new.alloc, by omega⟩
  ·cases hm)
 clear h hcell i00 i01 i02 i10 i11 i12 i20 i21 i22 i30 i31 i32 f0 f1 f2 f3
 go_enter Tryz.func259, Tryz.ntmps259
 go_wp2_with fail
 generalize ((w.alloc (.cells #[.int .i64 (m0 : Int), .int .i64 (m1 : Int), .int .i64 (m2 : Int), .int .i64 (m3 : Int)] 196)).alloc (.cells #[.float .f32 0, .float .f32 0, .float .f32 0] 42)) = W at *
 refine Reg2.wp_region_mix (C := Frm w [(w.heap.size, [.int .i64 (m0 : Int), .int .i64 (m1 : Int), .int .i64 (m2 : Int), .int .i64 (m3 : Int)])] (w.heap.size + 1)) (G := fun w1 w2 => TV (w.heap.size + 1) (lessC (plusC (cs.getD m2 c0) (cs.getD m3 c0)) (plusC (cs.getD m0 c0) (cs.getD m1 c0))) w1 → TV (w.heap.size + 1) (lessC (plusC (cs.getD m2 c0) (cs.getD m3 c0)) (plusC (cs.getD m0 c0) (cs.getD m1 c0))) w2) (R := fun i v w' => match i with | 0 => v = .slice (some ⟨pb, po, none⟩) pl pc | 1 => v = .pointer (some ⟨w.heap.size, 2, none⟩) | 2 => v = .int .i64 (m2 : Int) | 3 => v = .pointer (some ⟨pb, po + m2 * 3, none⟩) | 4 => v = vv p2 q2 r2 | 5 => v = .slice (some ⟨pb, po, none⟩) pl pc | 6 => v = .pointer (some ⟨w.heap.size, 3, none⟩) | 7 => v = .int .i64 (m3 : Int) | 8 => v = .pointer (some ⟨pb, po + m3 * 3, none⟩) | 9 => v = vv p3 q3 r3 | 10 => ∃ p q r, v = vv p q r ∧ F3 p q r (plusC (cs.getD m2 c0) (cs.getD m3 c0)) | 11 => v = .slice (some ⟨pb, po, none⟩) pl pc | 12 => v = .pointer (some ⟨w.heap.size, 0, none⟩) | 13 => v = .int .i64 (m0 : Int) | 14 => v = .pointer (some ⟨pb, po + m0 * 3, none⟩) | 15 => v = vv p0 q0 r0 | 16 => v = .slice (some ⟨pb, po, none⟩) pl pc | 17 => v = .pointer (some ⟨w.heap.size, 1, none⟩) | 18 => v = .int .i64 (m1 : Int) | 19 => v = .pointer (some ⟨pb, po + m1 * 3, none⟩) | 20 => v = vv p1 q1 r1 | 21 => ∃ p q r, v = vv p q r ∧ F3 p q r (plusC (cs.getD m0 c0) (cs.getD m1 c0)) | 22 => ∃ p q r, v = vv p q r ∧ F3 p q r (lessC (plusC (cs.getD m2 c0) (cs.getD m3 c0)) (plusC (cs.getD m0 c0) (cs.getD m1 c0))) | _ => True) (T := fun _ w' => TV (w.heap.size + 1) (lessC (plusC (cs.getD m2 c0) (cs.getD m3 c0)) (plusC (cs.getD m0 c0) (cs.getD m1 c0))) w') [false, false, false, false, false, true, true, true, true, true, true, true, true, true, true, true, true, true, true, true, true, true, true, true, true, true, true, true]
  (by kernel_rfl) (by kernel_rfl) (by kernel_rfl) (fun _ _ _ _ _ _ h => h) (fun _ _ _ _ hG hT => hG hT) (Frm.drewN FR.out 1) ?_ ?_
 ·refine ⟨Reg2.Obl.mk ?_, Reg2.Obl.mk ?_, Reg2.Obl.mk ?_, Reg2.Obl.mk ?_, Reg2.Obl.mk ?_, Reg2.Obl.mk ?_, Reg2.Obl.mk ?_, Reg2.Obl.mk ?_, Reg2.Obl.mk ?_, Reg2.Obl.mk ?_, Reg2.Obl.mk ?_, Reg2.Obl.mk ?_, Reg2.Obl.mk ?_, Reg2.Obl.mk ?_, Reg2.Obl.mk ?_, Reg2.Obl.mk ?_, Reg2.Obl.mk ?_, Reg2.Obl.mk ?_, Reg2.Obl.mk ?_, Reg2.Obl.mk ?_, Reg2.Obl.mk ?_, Reg2.Obl.mk ?_, Reg2.Obl.mk ?_, Reg2.Obl.mk ?_, trivial⟩
  ·rintro a w1 HC hx hd K hK
   replace HC := Lib.hid HC
   have t1 : a.tmps[1]?.getD undef = .slice (some ⟨pb, po, none⟩) pl pc := Reg.slot_val (hx 1 (by kernel_rfl))
   go_simp
   exact hK _ _ (fun _ => rfl) (fun h => by cases h) HC.out (fun h => h)
  ·rintro a w1 HC hx hd K hK
   replace HC := Lib.hid HC
   have t2 : a.tmps[2]?.getD undef = .pointer (some ⟨w.heap.size, 0, none⟩) := Reg.slot_val (hx 2 (by kernel_rfl))
   go_simp
   exact hK _ _ (fun _ => rfl) (fun h => by cases h) HC.out (fun h => h)
  ·rintro a w1 HC hx hd K hK
   replace HC := Lib.hid HC
   have z2 := (HC.out.mem (.head _)) 2 _ rfl
   have t6 : a.tmps[6]?.getD undef = .pointer (some ⟨w.heap.size, 2, none⟩) := Reg.slot_val (hd 1 (by kernel_rfl) 6 rfl)
   go_simp
   exact hK _ _ (fun _ => rfl) (fun h => by cases h) HC.out (fun h => h)
  ·rintro a w1 HC hx hd K hK
   replace HC := Lib.hid HC
   have t5 : a.tmps[5]?.getD undef = .slice (some ⟨pb, po, none⟩) pl pc := Reg.slot_val (hd 0 (by kernel_rfl) 5 rfl)
   have t7 : a.tmps[7]?.getD undef = .int .i64 (m2 : Int) := Reg.slot_val (hd 2 (by kernel_rfl) 7 rfl)
   go_simp
   exact hK _ _ (fun _ => rfl) (fun h => by cases h) HC.out (fun h => h)
  ·rintro a w1 HC hx hd K hK
   replace HC := Lib.hid HC
   have y0 := cell_below HC.out.bel D2.out.1
   have y1 := cell_below HC.out.bel D2.out.2.1
   have y2 := cell_below HC.out.bel D2.out.2.2
   have t8 : a.tmps[8]?.getD undef = .pointer (some ⟨pb, po + m2 * 3, none⟩) := Reg.slot_val (hd 3 (by kernel_rfl) 8 rfl)
   go_simp
   exact hK _ _ (fun _ => rfl) (fun h => by cases h) HC.out (fun h => h)
  ·rintro a w1 HC hx hd K hK
   replace HC := Lib.hid HC
   have t1 : a.tmps[1]?.getD undef = .slice (some ⟨pb, po, none⟩) pl pc := Reg.slot_val (hx 1 (by kernel_rfl))
   go_simp
   exact hK _ _ (fun _ => rfl) (fun h => by cases h) HC.out (fun h => h)
  ·rintro a w1 HC hx hd K hK
   replace HC := Lib.hid HC
   have t2 : a.tmps[2]?.getD undef = .pointer (some ⟨w.heap.size, 0, none⟩) := Reg.slot_val (hx 2 (by kernel_rfl))
   go_simp
   exact hK _ _ (fun _ => rfl) (fun h => by cases h) HC.out (fun h => h)
  ·rintro a w1 HC hx hd K hK
   replace HC := Lib.hid HC
   have z3 := (HC.out.mem (.head _)) 3 _ rfl
   have t11 : a.tmps[11]?.getD undef = .pointer (some ⟨w.heap.size, 3, none⟩) := Reg.slot_val (hd 6 (by kernel_rfl) 11 rfl)
   go_simp
   exact hK _ _ (fun _ => rfl) (fun h => by cases h) HC.out (fun h => h)
  ·rintro a w1 HC hx hd K hK
   replace HC := Lib.hid HC
   have t10 : a.tmps[10]?.getD undef = .slice (some ⟨pb, po, none⟩) pl pc := Reg.slot_val (hd 5 (by kernel_rfl) 10 rfl)
   have t12 : a.tmps[12]?.getD undef = .int .i64 (m3 : Int) := Reg.slot_val (hd 7 (by kernel_rfl) 12 rfl)
   go_simp
   exact hK _ _ (fun _ => rfl) (fun h => by cases h) HC.out (fun h => h)
  ·rintro a w1 HC hx hd K hK
   replace HC := Lib.hid HC
   have y0 := cell_below HC.out.bel D3.out.1
   have y1 := cell_below HC.out.bel D3.out.2.1
   have y2 := cell_below HC.out.bel D3.out.2.2
   have t13 : a.tmps[13]?.getD undef = .pointer (some ⟨pb, po + m3 * 3, none⟩) := Reg.slot_val (hd 8 (by kernel_rfl) 13 rfl)
   go_simp
   exact hK _ _ (fun _ => rfl) (fun h => by cases h) HC.out (fun h => h)
  ·rintro a w1 HC hx hd K hK
   replace HC := Lib.hid HC
   have t9 : a.tmps[9]?.getD undef = vv p2 q2 r2 := Reg.slot_val (hd 4 (by kernel_rfl) 9 rfl)
   have t14 : a.tmps[14]?.getD undef = vv p3 q3 r3 := Reg.slot_val (hd 9 (by kernel_rfl) 14 rfl)
   go_simp
   refine (impl_AddVectors _ _ _ _ _ _ _ _ _ _ _ _ _ F2.out.1 F2.out.2.1 F2.out.2.2 F3'.out.1 F3'.out.2.1 F3'.out.2.2).mono ?_
   rintro en w2 ⟨p', q', r', rfl, fp', fq', fr', hB2⟩
   exact hK _ _ (fun _ => ⟨p', q', r', rfl, fp', fq', fr'⟩) (fun h => by cases h) (HC.out.call hB2) (TV.call hB2)
  ·rintro a w1 HC hx hd K hK
   replace HC := Lib.hid HC
   have t1 : a.tmps[1]?.getD undef = .slice (some ⟨pb, po, none⟩) pl pc := Reg.slot_val (hx 1 (by kernel_rfl))
   go_simp
   exact hK _ _ (fun _ => rfl) (fun h => by cases h) HC.out (fun h => h)
  ·rintro a w1 HC hx hd K hK
   replace HC := Lib.hid HC
   have t2 : a.tmps[2]?.getD undef = .pointer (some ⟨w.heap.size, 0, none⟩) := Reg.slot_val (hx 2 (by kernel_rfl))
   go_simp
   exact hK _ _ (fun _ => rfl) (fun h => by cases h) HC.out (fun h => h)
  ·rintro a w1 HC hx hd K hK
   replace HC := Lib.hid HC
   have z0 := (HC.out.mem (.head _)) 0 _ rfl
   have t17 : a.tmps[17]?.getD undef = .pointer (some ⟨w.heap.size, 0, none⟩) := Reg.slot_val (hd 12 (by kernel_rfl) 17 rfl)
   go_simp
   exact hK _ _ (fun _ => rfl) (fun h => by cases h) HC.out (fun h => h)
  ·rintro a w1 HC hx hd K hK
   replace HC := Lib.hid HC
   have t16 : a.tmps[16]?.getD undef = .slice (some ⟨pb, po, none⟩) pl pc := Reg.slot_val (hd 11 (by kernel_rfl) 16 rfl)
   have t18 : a.tmps[18]?.getD undef = .int .i64 (m0 : Int) := Reg.slot_val (hd 13 (by kernel_rfl) 18 rfl)
   go_simp
   exact hK _ _ (fun _ => rfl) (fun h => by cases h) HC.out (fun h => h)
  ·rintro a w1 HC hx hd K hK
   replace HC := Lib.hid HC
   have y0 := cell_below HC.out.bel D0.out.1
   have y1 := cell_below HC.out.bel D0.out.2.1
   have y2 := cell_below HC.out.bel D0.out.2.2
   have t19 : a.tmps[19]?.getD undef = .pointer (some ⟨pb, po + m0 * 3, none⟩) := Reg.slot_val (hd 14 (by kernel_rfl) 19 rfl)
   go_simp
   exact hK _ _ (fun _ => rfl) (fun h => by cases h) HC.out (fun h => h)
  ·rintro a w1 HC hx hd K hK
   replace HC := Lib.hid HC
   have t1 : a.tmps[1]?.getD undef = .slice (some ⟨pb, po, none⟩) pl pc := Reg.slot_val (hx 1 (by kernel_rfl))
   go_simp
   exact hK _ _ (fun _ => rfl) (fun h => by cases h) HC.out (fun h => h)
  ·rintro a w1 HC hx hd K hK
   replace HC := Lib.hid HC
   have t2 : a.tmps[2]?.getD undef = .pointer (some ⟨w.heap.size, 0, none⟩) := Reg.slot_val (hx 2 (by kernel_rfl))
   go_simp
   exact hK _ _ (fun _ => rfl) (fun h => by cases h) HC.out (fun h => h)
  ·rintro a w1 HC hx hd K hK
   replace HC := Lib.hid HC
   have z1 := (HC.out.mem (.head _)) 1 _ rfl
   have t22 : a.tmps[22]?.getD undef = .pointer (some ⟨w.heap.size, 1, none⟩) := Reg.slot_val (hd 17 (by kernel_rfl) 22 rfl)
   go_simp
   exact hK _ _ (fun _ => rfl) (fun h => by cases h) HC.out (fun h => h)
  ·rintro a w1 HC hx hd K hK
   replace HC := Lib.hid HC
   have t21 : a.tmps[21]?.getD undef = .slice (some ⟨pb, po, none⟩) pl pc := Reg.slot_val (hd 16 (by kernel_rfl) 21 rfl)
   have t23 : a.tmps[23]?.getD undef = .int .i64 (m1 : Int) := Reg.slot_val (hd 18 (by kernel_rfl) 23 rfl)
   go_simp
   exact hK _ _ (fun _ => rfl) (fun h => by cases h) HC.out (fun h => h)
  ·rintro a w1 HC hx hd K hK
   replace HC := Lib.hid HC
   have y0 := cell_below HC.out.bel D1.out.1
   have y1 := cell_below HC.out.bel D1.out.2.1
   have y2 := cell_below HC.out.bel D1.out.2.2
   have t24 : a.tmps[24]?.getD undef = .pointer (some ⟨pb, po + m1 * 3, none⟩) := Reg.slot_val (hd 19 (by kernel_rfl) 24 rfl)
   go_simp
   exact hK _ _ (fun _ => rfl) (fun h => by cases h) HC.out (fun h => h)
  ·rintro a w1 HC hx hd K hK
   replace HC := Lib.hid HC
   have t20 : a.tmps[20]?.getD undef = vv p0 q0 r0 := Reg.slot_val (hd 15 (by kernel_rfl) 20 rfl)
   have t25 : a.tmps[25]?.getD undef = vv p1 q1 r1 := Reg.slot_val (hd 20 (by kernel_rfl) 25 rfl)
   go_simp
   refine (impl_AddVectors _ _ _ _ _ _ _ _ _ _ _ _ _ F0.out.1 F0.out.2.1 F0.out.2.2 F1.out.1 F1.out.2.1 F1.out.2.2).mono ?_
   rintro en w2 ⟨p', q', r', rfl, fp', fq', fr', hB2⟩
   exact hK _ _ (fun _ => ⟨p', q', r', rfl, fp', fq', fr'⟩) (fun h => by cases h) (HC.out.call hB2) (TV.call hB2)
  ·rintro a w1 HC hx hd K hK
   replace HC := Lib.hid HC
   obtain ⟨p15, q15, r15, g15, f15⟩ := hd 10 (by kernel_rfl) 15 rfl
   have t15 := Reg.slot_val g15
   clear g15
   obtain ⟨p26, q26, r26, g26, f26⟩ := hd 21 (by kernel_rfl) 26 rfl
   have t26 := Reg.slot_val g26
   clear g26
   go_simp
   refine (impl_LessVectors _ _ _ _ _ _ _ _ _ _ _ _ _ f15.1 f15.2.1 f15.2.2 f26.1 f26.2.1 f26.2.2).mono ?_
   rintro en w2 ⟨p', q', r', rfl, fp', fq', fr', hB2⟩
   exact hK _ _ (fun _ => ⟨p', q', r', rfl, fp', fq', fr'⟩) (fun h => by cases h) (HC.out.call hB2) (TV.call hB2)
  ·rintro a w1 HC hx hd K hK
   replace HC := Lib.hid HC
   have t4 : a.tmps[4]?.getD undef = .pointer (some ⟨w.heap.size + 1, 0, none⟩) := Reg.slot_val (hx 4 (by kernel_rfl))
   obtain ⟨p27, q27, r27, g27, f27⟩ := hd 22 (by kernel_rfl) 27 rfl
   have t27 := Reg.slot_val g27
   clear g27
   obtain ⟨u0, u1, u2, x0, x1, x2⟩ := HC.out.cells
   have k0 := HC.out.free 0
   have k1 := HC.out.free 1
   have k2 := HC.out.free 2
   go_simp
   exact hK undef _ (fun h => absurd rfl h) (fun _ => TV.put HC.out f27) (HC.out.put _ _ _) (fun _ => TV.put HC.out f27)
 rintro f w1 hC hd' hT
 obtain ⟨x, y, z, ⟨x0, x1, x2⟩, hf⟩ := hT 23 rfl (by decide)
 simp only [Reg.mixL]
 have HC := Lib.hid hC
 clear hC hd' hT
 go_wp2
 refine bodyPost_ret (v := vv x y z) (by simp [results, Tryz.results259, go_sem, x0, x1, x2]) rfl ⟨x, y, z, rfl, hf, HC.out.bel⟩
end Go.Proofs.YtabccmobmppdnaaGreat
namespace Go.Proofs.YtabccmobmppdnaaGreat
open Go Fk Go.RowKit
set_option linter.unusedVariables false
set_option maxRecDepth 8000
structure Mark (lo hi : Nat) (w w' : World) : Prop where
 below : Below lo w w'
 above : ∀ k, hi ≤ k → k < w.heap.size → w'.heap[k]? = w.heap[k]?
 alive : ∀ n i, (∃ v, w.cell? ⟨n, i, none⟩ = some v) → ∃ v, w'.cell? ⟨n, i, none⟩ = some v
 frozen : ∀ n i, n < w.heap.size → w'.frozen? ⟨n, i, none⟩ = w.frozen? ⟨n, i, none⟩
theorem Mark.refl (lo hi : Nat) (w : World) : Mark lo hi w w := ⟨Below.refl _ _, fun _ _ _ => rfl, fun _ _ h => h, fun _ _ _ => rfl⟩
theorem Mark.trans {lo hi : Nat} {a b c : World} (h : Mark lo hi a b) (k : Mark lo hi b c) : Mark lo hi a c :=
 ⟨h.below.trans k.below, fun j h1 h2 => (k.above j h1 (Nat.lt_of_lt_of_le h2 h.below.size)).trans (h.above j h1 h2), fun n i e => k.alive n i (h.alive n i e), fun n i e => (k.frozen n i (Nat.lt_of_lt_of_le e h.below.size)).trans (h.frozen n i e)⟩
theorem Mark.set {lo hi : Nat} {w : World} {b o : Nat} {u : Value} (h1 : lo ≤ b) (h2 : b < hi) : Mark lo hi w (w.setCell ⟨b, o, none⟩ u) := by
 refine ⟨(Below.refl _ _).setCell h1 _, fun k hk _ => Below.heap_setCell _ _ _ _ (by simp; omega), fun n i ⟨v, hv⟩ => ?_, fun n i _ => by simp⟩
 by_cases h : (⟨b, o, none⟩ : Addr) = ⟨n, i, none⟩
 ·rw [← h] at hv ⊢; exact ⟨_, World.cell?_setCell_same w _ u hv⟩
 ·exact ⟨v, by rw [World.cell?_setCell_other _ _ _ _ h]; exact hv⟩
theorem Mark.alloc {lo hi : Nat} {w : World} (h : lo ≤ w.heap.size) (o : Obj) : Mark lo hi w (w.alloc o) := by
 refine ⟨(Below.refl _ _).alloc h _, fun k _ hk => Below.heap_alloc _ _ _ hk, fun n i ⟨v, hv⟩ => ⟨v, ?_⟩, fun n i hn => ?_⟩
 ·rw [World.cell?_alloc_lt (h := World.block_lt_of_cell? _ _ hv)]; exact hv
 ·exact World.frozen?_of_block (Below.heap_alloc _ _ _ hn)
theorem Mark.cell {lo hi : Nat} {w w' : World} (h : Mark lo hi w w') {b i : Nat} {v : Value} (hb : b < lo ∨ hi ≤ b) (hv : w.cell? ⟨b, i, none⟩ = some v) : w'.cell? ⟨b, i, none⟩ = some v := by
 rcases hb with hb | hb
 ·rw [h.below.cell (p := ⟨b, i, none⟩) hb]; exact hv
 ·rw [World.cell?_of_block (w := w) (h.above b hb (World.block_lt_of_cell? _ _ hv))]; exact hv
def Own (lo hi : Nat) (w : World) (b o n : Nat) : Prop := lo ≤ b ∧ b < hi ∧ b < w.heap.size ∧ ∀ j, j < n → (∃ v, w.cell? ⟨b, o + j, none⟩ = some v) ∧ w.frozen? ⟨b, o + j, none⟩ = false
theorem Own.mark {lo hi lo' hi' : Nat} {w w' : World} {b o n : Nat} (h : Own lo hi w b o n) (k : Mark lo' hi' w w') : Own lo hi w' b o n :=
 ⟨h.1, h.2.1, Nat.lt_of_lt_of_le h.2.2.1 k.below.size, fun j hj => ⟨k.alive _ _ (h.2.2.2 j hj).1, by rw [k.frozen _ _ h.2.2.1]; exact (h.2.2.2 j hj).2⟩⟩
set_option maxHeartbeats 400000 in
theorem laws_markInt64S (lo hi b o len cap : Nat) (k0 : Nat) (w : World) (h : Own lo hi w b o len) (hk : k0 + len ≤ 9000000000000000000) :
  Calls Tryz.prog 26 #[.slice (some ⟨b, o, none⟩) len cap, .int .i64 k0] w fun e w' => e = .returned (.int .i64 ((k0 + len : Nat) : Int)) ∧ (∀ j, j < len → w'.cell? ⟨b, o + j, none⟩ = some (.int .i64 ((k0 + j : Nat) : Int))) ∧ (∀ n i, (n ≠ b ∨ i < o ∨ o + len ≤ i) → w'.cell? ⟨n, i, none⟩ = w.cell? ⟨n, i, none⟩) ∧ Mark lo hi w w' := by
 obtain ⟨h1, h2, h3, h4⟩ := h
 have H4 := Lib.hid h4
 have H1 := Lib.hid h1
 have H2 := Lib.hid h2
 have H3 := Lib.hid h3
 clear h1 h2 h3 h4
 go_enter Tryz.func26, Tryz.ntmps26
 go_wp2
 go_loopw [1, 5] (fun q i w' => ∃ k : Nat, k ≤ len ∧ i = .int .i64 k ∧ q = .int .i64 ((k0 + k : Nat) : Int) ∧ Aside ((∀ j, j < k → w'.cell? ⟨b, o + j, none⟩ = some (.int .i64 ((k0 + j : Nat) : Int))) ∧ (∀ n i, (n ≠ b ∨ i < o ∨ o + len ≤ i) → w'.cell? ⟨n, i, none⟩ = w.cell? ⟨n, i, none⟩) ∧ Mark lo hi w w')) (fun _ i _ => len - (intOf i).toNat)
 case atStart => exact ⟨0, Nat.zero_le _, rfl, rfl, fun j hj => absurd hj (by omega), fun _ _ _ => rfl, Mark.refl _ _ _⟩
 case round =>
  obtain ⟨k, hkl, rfl, rfl, hA⟩ := hrel
  by_cases hlt : k < len
  ·obtain ⟨hdone, hother, hM⟩ := hA.out
   obtain ⟨v, hv⟩ := hM.alive _ _ (H4.out k hlt).1
   have hf : wr.frozen? ⟨b, o + k, none⟩ = false := by rw [hM.frozen _ _ H3.out]; exact (H4.out k hlt).2
   have HD := Lib.hid hdone
   have HO := Lib.hid hother
   have HM := Lib.hid hM
   have hk0 : (0 : Int) ≤ (k : Int) := by omega
   have hk1 : (k : Int) < (len : Int) := by omega
   clear hA hdone hother hM
   go_wp2
   go_roundw
   case rel =>
    refine ⟨k + 1, by omega, by go_num, by go_num, fun j hj => ?_, fun n i hn => ?_, HM.out.trans (Mark.set H1.out H2.out)⟩
    ·by_cases hjk : j = k
     ·subst hjk; exact World.cell?_setCell_same _ _ _ hv
     ·rw [World.cell?_setCell_other _ _ _ _ (by simp <;> omega)]; exact HD.out j (by omega)
    ·rw [World.cell?_setCell_other _ _ _ _ (by simp <;> omega)]; exact HO.out n i hn
   case measure => simp [intOf]; omega
  ·obtain rfl : k = len := by omega
   obtain ⟨hdone, hother, hM⟩ := hA.out
   have HD := Lib.hid hdone
   have HO := Lib.hid hother
   have HM := Lib.hid hM
   clear hA hdone hother hM
   go_wp2
   go_ret
   exact ⟨rfl, HD.out, HO.out, HM.out⟩
end Go.Proofs.YtabccmobmppdnaaGreat
namespace Go.Proofs.YtabccmobmppdnaaGreat
open Go Fk Go.RowKit
set_option linter.unusedVariables false
set_option maxRecDepth 8000
set_option maxHeartbeats 400000 in
theorem laws_markVectorS (lo hi b o len cap : Nat) (k0 : Nat) (w : World) (h : Own lo hi w b o (len * 3)) (hk : k0 + len * 3 ≤ 9000000000000000000) :
  Calls Tryz.prog 27 #[.slice (some ⟨b, o, none⟩) len cap, .int .i64 k0] w fun e w' => e = .returned (.int .i64 ((k0 + len * 3 : Nat) : Int)) ∧ (∀ j, j < len * 3 → w'.cell? ⟨b, o + j, none⟩ = some (.float .f32 (floatOfInt .f32 ((k0 + j : Nat) : Int)))) ∧ (∀ n i, (n ≠ b ∨ i < o ∨ o + len * 3 ≤ i) → w'.cell? ⟨n, i, none⟩ = w.cell? ⟨n, i, none⟩) ∧ Mark lo hi w w' := by
 have u := Tryz.underlying27
 have uv := Tryz.underlying42
 obtain ⟨h1, h2, h3, h4⟩ := h
 have H4 := Lib.hid h4
 have H1 := Lib.hid h1
 have H2 := Lib.hid h2
 have H3 := Lib.hid h3
 clear h1 h2 h3 h4
 go_enter Tryz.func27, Tryz.ntmps27
 go_wp2
 go_loopw [1, 5] (fun q i w' => ∃ k : Nat, k ≤ len ∧ i = .int .i64 k ∧ q = .int .i64 ((k0 + k * 3 : Nat) : Int) ∧ Aside ((∀ j, j < k * 3 → w'.cell? ⟨b, o + j, none⟩ = some (.float .f32 (floatOfInt .f32 ((k0 + j : Nat) : Int)))) ∧ (∀ n i, (n ≠ b ∨ i < o ∨ o + len * 3 ≤ i) → w'.cell? ⟨n, i, none⟩ = w.cell? ⟨n, i, none⟩) ∧ Mark lo hi w w')) (fun _ i _ => len - (intOf i).toNat)
 case atStart => exact ⟨0, Nat.zero_le _, rfl, rfl, fun j hj => absurd hj (by omega), fun _ _ _ => rfl, Mark.refl _ _ _⟩
 case round =>
  obtain ⟨k, hkl, rfl, rfl, hA⟩ := hrel
  by_cases hlt : k < len
  ·obtain ⟨hdone, hother, hM⟩ := hA.out
   obtain ⟨v0, hv0⟩ := hM.alive _ _ (H4.out (k * 3) (by omega)).1
   obtain ⟨v1, hv1⟩ := hM.alive _ _ (H4.out (k * 3 + 1) (by omega)).1
   obtain ⟨v2, hv2⟩ := hM.alive _ _ (H4.out (k * 3 + 2) (by omega)).1
   have hf0 : wr.frozen? ⟨b, o + k * 3, none⟩ = false := by rw [hM.frozen _ _ H3.out]; exact (H4.out (k * 3) (by omega)).2
   have hf1 : wr.frozen? ⟨b, o + k * 3 + 1, none⟩ = false := by rw [hM.frozen _ _ H3.out]; exact (H4.out (k * 3 + 1) (by omega)).2
   have hf2 : wr.frozen? ⟨b, o + k * 3 + 2, none⟩ = false := by rw [hM.frozen _ _ H3.out]; exact (H4.out (k * 3 + 2) (by omega)).2
   rw [← Nat.add_assoc] at hv1 hv2
   have HD := Lib.hid hdone
   have HO := Lib.hid hother
   have HM := Lib.hid hM
   have hk0 : (0 : Int) ≤ (k : Int) := by omega
   have hk1 : (k : Int) < (len : Int) := by omega
   clear hA hdone hother hM
   go_wp2
   go_roundw
   case rel =>
    obtain ⟨e0, e1, e2, eo⟩ := set3k (u := .float .f32 (floatOfInt .f32 ((k0 : Int) + (k : Int) * 3))) (v := .float .f32 (floatOfInt .f32 ((k0 : Int) + (k : Int) * 3 + 1))) (t := .float .f32 (floatOfInt .f32 ((k0 : Int) + (k : Int) * 3 + 1 + 1))) hv0 hv1 hv2
    refine ⟨k + 1, by omega, by go_num, by go_num, fun j hj => ?_, fun n i hn => ?_, ((HM.out.trans (Mark.set H1.out H2.out)).trans (Mark.set H1.out H2.out)).trans (Mark.set H1.out H2.out)⟩
    ·by_cases j0 : j = k * 3
     ·subst j0; rw [e0]; simp
     ·by_cases j1 : j = k * 3 + 1
      ·subst j1; rw [← Nat.add_assoc, e1]; simp; congr 1
      ·by_cases j2 : j = k * 3 + 2
       ·subst j2; rw [← Nat.add_assoc, e2]; simp; congr 1
       ·rw [eo _ (by omega) (by omega) (by omega)]; exact HD.out j (by omega)
    ·rw [World.cell?_setCell_other _ _ _ _ (by simp <;> omega), World.cell?_setCell_other _ _ _ _ (by simp <;> omega), World.cell?_setCell_other _ _ _ _ (by simp <;> omega)]; exact HO.out n i hn
   case measure => simp [intOf]; omega
  ·obtain rfl : k = len := by omega
   obtain ⟨hdone, hother, hM⟩ := hA.out
   have HD := Lib.hid hdone
   have HO := Lib.hid hother
   have HM := Lib.hid hM
   clear hA hdone hother hM
   go_wp2
   go_ret
   exact ⟨rfl, HD.out, HO.out, HM.out⟩
end Go.Proofs.YtabccmobmppdnaaGreat
namespace Go.Proofs.YtabccmobmppdnaaGreat
open Go Fk Go.RowKit
set_option linter.unusedVariables false
set_option maxRecDepth 8000
theorem mark_self (z : Int) : (FloatKind.f32.format.order (floatOfInt .f32 z) (floatOfInt .f32 z) != some .eq) = false := by
 have h : (FloatKind.f32.decode (floatOfInt .f32 z)).isNaN = false := isNaN_write .f32 (.number (z < 0) z.natAbs 0) rfl
 rw [order_self h]; rfl
set_option maxHeartbeats 400000 in
theorem laws_heldVectorS (b o len cap : Nat) (k0 : Nat) (w : World) (h : ∀ j, j < len * 3 → w.cell? ⟨b, o + j, none⟩ = some (.float .f32 (floatOfInt .f32 ((k0 + j : Nat) : Int)))) (hk : k0 + len * 3 ≤ 9000000000000000000) :
  Calls Tryz.prog 28 #[.slice (some ⟨b, o, none⟩) len cap, .int .i64 k0] w fun e w' => e = .returned (.int .i64 ((k0 + len * 3 : Nat) : Int)) ∧ w' = w := by
 have u := Tryz.underlying27
 have uv := Tryz.underlying42
 have H := Lib.hid h
 clear h
 go_enter Tryz.func28, Tryz.ntmps28
 go_wp2
 go_loopw [1, 5] (fun q i w' => ∃ k : Nat, k ≤ len ∧ i = .int .i64 k ∧ q = .int .i64 ((k0 + k * 3 : Nat) : Int) ∧ w' = w) (fun _ i _ => len - (intOf i).toNat)
 case atStart => exact ⟨0, Nat.zero_le _, rfl, rfl, rfl⟩
 case round =>
  obtain ⟨k, hkl, rfl, rfl, rfl⟩ := hrel
  by_cases hlt : k < len
  ·have hv0 := H.out (k * 3) (by omega)
   have hv1 := H.out (k * 3 + 1) (by omega)
   have hv2 := H.out (k * 3 + 2) (by omega)
   rw [← Nat.add_assoc, show ((k0 + (k * 3 + 1) : Nat) : Int) = (k0 : Int) + (k : Int) * 3 + 1 by omega] at hv1
   rw [← Nat.add_assoc, show ((k0 + (k * 3 + 2) : Nat) : Int) = (k0 : Int) + (k : Int) * 3 + 1 + 1 by omega] at hv2
   rw [show ((k0 + k * 3 : Nat) : Int) = (k0 : Int) + (k : Int) * 3 by omega] at hv0
   have s0 := mark_self ((k0 : Int) + (k : Int) * 3)
   have s1 := mark_self ((k0 : Int) + (k : Int) * 3 + 1)
   have s2 := mark_self ((k0 : Int) + (k : Int) * 3 + 1 + 1)
   have hk0 : (0 : Int) ≤ (k : Int) := by omega
   have hk1 : (k : Int) < (len : Int) := by omega
   go_wp2
   go_roundw
   case rel => exact ⟨k + 1, by omega, by go_num, by go_num, by first | trivial | rfl⟩
   case measure => simp [intOf]; omega
  ·obtain rfl : k = len := by omega
   go_wp2
   go_ret
   exact ⟨rfl, by first | rfl | trivial⟩
end Go.Proofs.YtabccmobmppdnaaGreat
namespace Go.Proofs.YtabccmobmppdnaaGreat
open Go Fk Go.RowKit
set_option linter.unusedVariables false
set_option maxRecDepth 8000
set_option maxHeartbeats 400000 in
theorem laws_markFloat32S (lo hi b o len cap : Nat) (k0 : Nat) (w : World) (h : Own lo hi w b o len) (hk : k0 + len ≤ 9000000000000000000) :
  Calls Tryz.prog 43 #[.slice (some ⟨b, o, none⟩) len cap, .int .i64 k0] w fun e w' => e = .returned (.int .i64 ((k0 + len : Nat) : Int)) ∧ (∀ j, j < len → w'.cell? ⟨b, o + j, none⟩ = some (.float .f32 (floatOfInt .f32 ((k0 + j : Nat) : Int)))) ∧ (∀ n i, (n ≠ b ∨ i < o ∨ o + len ≤ i) → w'.cell? ⟨n, i, none⟩ = w.cell? ⟨n, i, none⟩) ∧ Mark lo hi w w' := by
 have u := Tryz.underlying27
 obtain ⟨h1, h2, h3, h4⟩ := h
 have H4 := Lib.hid h4
 have H1 := Lib.hid h1
 have H2 := Lib.hid h2
 have H3 := Lib.hid h3
 clear h1 h2 h3 h4
 go_enter Tryz.func43, Tryz.ntmps43
 go_wp2
 go_loopw [1, 5] (fun q i w' => ∃ k : Nat, k ≤ len ∧ i = .int .i64 k ∧ q = .int .i64 ((k0 + k : Nat) : Int) ∧ Aside ((∀ j, j < k → w'.cell? ⟨b, o + j, none⟩ = some (.float .f32 (floatOfInt .f32 ((k0 + j : Nat) : Int)))) ∧ (∀ n i, (n ≠ b ∨ i < o ∨ o + len ≤ i) → w'.cell? ⟨n, i, none⟩ = w.cell? ⟨n, i, none⟩) ∧ Mark lo hi w w')) (fun _ i _ => len - (intOf i).toNat)
 case atStart => exact ⟨0, Nat.zero_le _, rfl, rfl, fun j hj => absurd hj (by omega), fun _ _ _ => rfl, Mark.refl _ _ _⟩
 case round =>
  obtain ⟨k, hkl, rfl, rfl, hA⟩ := hrel
  by_cases hlt : k < len
  ·obtain ⟨hdone, hother, hM⟩ := hA.out
   obtain ⟨v, hv⟩ := hM.alive _ _ (H4.out k hlt).1
   have hf : wr.frozen? ⟨b, o + k, none⟩ = false := by rw [hM.frozen _ _ H3.out]; exact (H4.out k hlt).2
   have HD := Lib.hid hdone
   have HO := Lib.hid hother
   have HM := Lib.hid hM
   have hk0 : (0 : Int) ≤ (k : Int) := by omega
   have hk1 : (k : Int) < (len : Int) := by omega
   clear hA hdone hother hM
   go_wp2
   go_roundw
   case rel =>
    refine ⟨k + 1, by omega, by go_num, by go_num, fun j hj => ?_, fun n i hn => ?_, HM.out.trans (Mark.set H1.out H2.out)⟩
    ·by_cases hjk : j = k
     ·subst hjk
      rw [World.cell?_setCell_same _ _ _ hv]; simp
     ·rw [World.cell?_setCell_other _ _ _ _ (by simp <;> omega)]; exact HD.out j (by omega)
    ·rw [World.cell?_setCell_other _ _ _ _ (by simp <;> omega)]; exact HO.out n i hn
   case measure => simp [intOf]; omega
  ·obtain rfl : k = len := by omega
   obtain ⟨hdone, hother, hM⟩ := hA.out
   have HD := Lib.hid hdone
   have HO := Lib.hid hother
   have HM := Lib.hid hM
   clear hA hdone hother hM
   go_wp2
   go_ret
   exact ⟨rfl, HD.out, HO.out, HM.out⟩
def spV (z : Int) (j : Nat) : Value := if j % 4 < 2 then .int .i64 z else .float .f32 (floatOfInt .f32 z)
set_option maxHeartbeats 1000000 in
theorem laws_markSpringS (lo hi b o len cap : Nat) (k0 : Nat) (w : World) (h : Own lo hi w b o (len * 4)) (hk : k0 + len * 4 ≤ 9000000000000000000) :
  Calls Tryz.prog 77 #[.slice (some ⟨b, o, none⟩) len cap, .int .i64 k0] w fun e w' => e = .returned (.int .i64 ((k0 + len * 4 : Nat) : Int)) ∧ (∀ j, j < len * 4 → w'.cell? ⟨b, o + j, none⟩ = some (spV ((k0 + j : Nat) : Int) j)) ∧ (∀ n i, (n ≠ b ∨ i < o ∨ o + len * 4 ≤ i) → w'.cell? ⟨n, i, none⟩ = w.cell? ⟨n, i, none⟩) ∧ Mark lo hi w w' := by
 have u := Tryz.underlying27
 have us := Tryz.underlying166
 obtain ⟨h1, h2, h3, h4⟩ := h
 have H4 := Lib.hid h4
 have H1 := Lib.hid h1
 have H2 := Lib.hid h2
 have H3 := Lib.hid h3
 clear h1 h2 h3 h4
 go_enter Tryz.func77, Tryz.ntmps77
 go_wp2
 go_loopw [1, 5] (fun q i w' => ∃ k : Nat, k ≤ len ∧ i = .int .i64 k ∧ q = .int .i64 ((k0 + k * 4 : Nat) : Int) ∧ Aside ((∀ j, j < k * 4 → w'.cell? ⟨b, o + j, none⟩ = some (spV ((k0 + j : Nat) : Int) j)) ∧ (∀ n i, (n ≠ b ∨ i < o ∨ o + len * 4 ≤ i) → w'.cell? ⟨n, i, none⟩ = w.cell? ⟨n, i, none⟩) ∧ Mark lo hi w w')) (fun _ i _ => len - (intOf i).toNat)
 case atStart => exact ⟨0, Nat.zero_le _, rfl, rfl, fun j hj => absurd hj (by omega), fun _ _ _ => rfl, Mark.refl _ _ _⟩
 case round =>
  obtain ⟨k, hkl, rfl, rfl, hA⟩ := hrel
  by_cases hlt : k < len
  ·obtain ⟨hdone, hother, hM⟩ := hA.out
   obtain ⟨v0, hv0⟩ := hM.alive _ _ (H4.out (k * 4) (by omega)).1
   obtain ⟨v1, hv1⟩ := hM.alive _ _ (H4.out (k * 4 + 1) (by omega)).1
   obtain ⟨v2, hv2⟩ := hM.alive _ _ (H4.out (k * 4 + 2) (by omega)).1
   obtain ⟨v3, hv3⟩ := hM.alive _ _ (H4.out (k * 4 + 3) (by omega)).1
   have hf0 : wr.frozen? ⟨b, o + k * 4, none⟩ = false := by rw [hM.frozen _ _ H3.out]; exact (H4.out (k * 4) (by omega)).2
   have hf1 : wr.frozen? ⟨b, o + k * 4 + 1, none⟩ = false := by rw [hM.frozen _ _ H3.out]; exact (H4.out (k * 4 + 1) (by omega)).2
   have hf2 : wr.frozen? ⟨b, o + k * 4 + 2, none⟩ = false := by rw [hM.frozen _ _ H3.out]; exact (H4.out (k * 4 + 2) (by omega)).2
   have hf3 : wr.frozen? ⟨b, o + k * 4 + 3, none⟩ = false := by rw [hM.frozen _ _ H3.out]; exact (H4.out (k * 4 + 3) (by omega)).2
   rw [← Nat.add_assoc] at hv1 hv2 hv3
   have HD := Lib.hid hdone
   have HO := Lib.hid hother
   have HM := Lib.hid hM
   have hk0 : (0 : Int) ≤ (k : Int) := by omega
   have hk1 : (k : Int) < (len : Int) := by omega
   clear hA hdone hother hM
   go_wp2
   go_roundw
   case rel =>
    obtain ⟨e0, e1, e2, e3, eo⟩ := set4k (u := .int .i64 ((k0 : Int) + (k : Int) * 4)) (v := .int .i64 ((k0 : Int) + (k : Int) * 4 + 1)) (t := .float .f32 (floatOfInt .f32 ((k0 : Int) + (k : Int) * 4 + 1 + 1))) (s := .float .f32 (floatOfInt .f32 ((k0 : Int) + (k : Int) * 4 + 1 + 1 + 1))) hv0 hv1 hv2 hv3
    refine ⟨k + 1, by omega, by go_num, by go_num, fun j hj => ?_, fun n i hn => ?_, (((HM.out.trans (Mark.set H1.out H2.out)).trans (Mark.set H1.out H2.out)).trans (Mark.set H1.out H2.out)).trans (Mark.set H1.out H2.out)⟩
    ·by_cases j0 : j = k * 4
     ·subst j0
      rw [e0]
      unfold spV
      rw [if_pos (by omega)]; simp
     ·by_cases j1 : j = k * 4 + 1
      ·subst j1
       rw [← Nat.add_assoc, e1]
       unfold spV
       rw [if_pos (by omega)]; simp <;> omega
      ·by_cases j2 : j = k * 4 + 2
       ·subst j2
        rw [← Nat.add_assoc, e2]
        unfold spV
        rw [if_neg (by omega)]; simp; congr 1
       ·by_cases j3 : j = k * 4 + 3
        ·subst j3
         rw [← Nat.add_assoc, e3]
         unfold spV
         rw [if_neg (by omega)]; simp; congr 1
        ·rw [eo _ (by omega) (by omega) (by omega) (by omega)]; exact HD.out j (by omega)
    ·rw [World.cell?_setCell_other _ _ _ _ (by simp <;> omega), World.cell?_setCell_other _ _ _ _ (by simp <;> omega), World.cell?_setCell_other _ _ _ _ (by simp <;> omega), World.cell?_setCell_other _ _ _ _ (by simp <;> omega)]; exact HO.out n i hn
   case measure => simp [intOf]; omega
  ·obtain rfl : k = len := by omega
   obtain ⟨hdone, hother, hM⟩ := hA.out
   have HD := Lib.hid hdone
   have HO := Lib.hid hother
   have HM := Lib.hid hM
   clear hA hdone hother hM
   go_wp2
   go_ret
   exact ⟨rfl, HD.out, HO.out, HM.out⟩
end Go.Proofs.YtabccmobmppdnaaGreat

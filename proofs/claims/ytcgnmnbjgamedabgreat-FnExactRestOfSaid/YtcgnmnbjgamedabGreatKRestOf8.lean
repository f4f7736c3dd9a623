/-
Texts in one: what RestOf stands on, part 8. Conditions: those of each.
-/
import Derived.Test.YtcgnmnbjgamedabGreatKRestOf7

/-
What a region keeps that fills one new block of three cells: what lay before the call, boxes of the call's own, and that block. Conditions: none.
-/
namespace Go.Proofs.YtcgnmnbjgamedabGreat
open Go Fk Go.RowKit
set_option linter.unusedVariables false

/-- What is kept: w's own memory, boxes with known cells, and a block of three cells that may be written. -/
def Frm (w : World) (L : List (Nat × List Value)) (R : Nat) (w' : World) : Prop :=
  Below w.heap.size w w' ∧ (∀ b l, (b, l) ∈ L → At w' b l ∧ b ≠ R) ∧ w.heap.size ≤ R ∧ (∃ u v t, w'.cell? ⟨R, 0, none⟩ = some u ∧ w'.cell? ⟨R, 1, none⟩ = some v ∧ w'.cell? ⟨R, 2, none⟩ = some t) ∧ Fr w' R
/-- The block holds a vector of these classes. -/
def TV (R : Nat) (c : C3) (w : World) : Prop := ∃ x y z, (w.cell? ⟨R, 0, none⟩ = some (.float .f32 x) ∧ w.cell? ⟨R, 1, none⟩ = some (.float .f32 y) ∧ w.cell? ⟨R, 2, none⟩ = some (.float .f32 z)) ∧ FV .f32 x c.1 ∧ FV .f32 y c.2.1 ∧ FV .f32 z c.2.2
def F3 (x y z : Nat) (c : C3) : Prop := FV .f32 x c.1 ∧ FV .f32 y c.2.1 ∧ FV .f32 z c.2.2
theorem Frm.bel {w w' : World} {L : List (Nat × List Value)} {R : Nat} (h : Frm w L R w') : Below w.heap.size w w' := h.1
theorem Frm.mem {w w' : World} {L : List (Nat × List Value)} {R b : Nat} {l : List Value} (h : Frm w L R w') (hm : (b, l) ∈ L) : At w' b l := (h.2.1 b l hm).1
theorem Frm.lt {w w' : World} {L : List (Nat × List Value)} {R : Nat} (h : Frm w L R w') : R < w'.heap.size := by
  obtain ⟨u, v, t, e, _⟩ := h.2.2.2.1
  exact World.block_lt_of_cell? w' _ e
theorem Frm.call {w w1 w2 : World} {L : List (Nat × List Value)} {R : Nat} (h : Frm w L R w1) (hb : Below w1.heap.size w1 w2) : Frm w L R w2 := by
  have hl := h.lt
  obtain ⟨h1, h2, h3, ⟨u, v, t, e0, e1, e2⟩, h5⟩ := h
  exact ⟨h1.trans (hb.mono h1.size), fun b l hm => ⟨(h2 b l hm).1.below hb, (h2 b l hm).2⟩, h3, ⟨u, v, t, cell_below hb e0, cell_below hb e1, cell_below hb e2⟩, h5.below hb hl⟩
theorem Frm.drewN {w w1 : World} {L : List (Nat × List Value)} {R : Nat} (h : Frm w L R w1) (n : Nat) : Frm w L R (w1.drewN n) := h.call (below_drewN (Below.refl _ _) n)
theorem Frm.put {w w1 : World} {L : List (Nat × List Value)} {R : Nat} (h : Frm w L R w1) (p q r : Value) : Frm w L R (((w1.setCell ⟨R, 0, none⟩ p).setCell ⟨R, 1, none⟩ q).setCell ⟨R, 2, none⟩ r) := by
  obtain ⟨h1, h2, h3, ⟨u, v, t, e0, e1, e2⟩, h5⟩ := h
  have s := set3 (u := p) (v := q) (t := r) e0 e1 e2
  exact ⟨below_set3 h1 h3, fun b l hm => ⟨(((h2 b l hm).1.far (Ne.symm (h2 b l hm).2)).far (Ne.symm (h2 b l hm).2)).far (Ne.symm (h2 b l hm).2), (h2 b l hm).2⟩, h3, ⟨p, q, r, s⟩, ((h5.setC).setC).setC⟩
theorem TV.call {w1 w2 : World} {R : Nat} {c : C3} (hb : Below w1.heap.size w1 w2) (h : TV R c w1) : TV R c w2 := by
  obtain ⟨x, y, z, ⟨e0, e1, e2⟩, f⟩ := h
  exact ⟨x, y, z, ⟨cell_below hb e0, cell_below hb e1, cell_below hb e2⟩, f⟩
theorem TV.drewN {w1 : World} {R : Nat} {c : C3} (n : Nat) (h : TV R c w1) : TV R c (w1.drewN n) := h
theorem TV.put {w w1 : World} {L : List (Nat × List Value)} {R p q r : Nat} {c : C3} (h : Frm w L R w1) (f : F3 p q r c) : TV R c (((w1.setCell ⟨R, 0, none⟩ (.float .f32 p)).setCell ⟨R, 1, none⟩ (.float .f32 q)).setCell ⟨R, 2, none⟩ (.float .f32 r)) := by
  obtain ⟨u, v, t, e0, e1, e2⟩ := h.2.2.2.1
  exact ⟨p, q, r, set3 e0 e1 e2, f⟩
theorem Frm.cells {w w' : World} {L : List (Nat × List Value)} {R : Nat} (h : Frm w L R w') : ∃ u v t, w'.cell? ⟨R, 0, none⟩ = some u ∧ w'.cell? ⟨R, 1, none⟩ = some v ∧ w'.cell? ⟨R, 2, none⟩ = some t := h.2.2.2.1
theorem Frm.free {w w' : World} {L : List (Nat × List Value)} {R : Nat} (h : Frm w L R w') (i : Nat) : w'.frozen? ⟨R, i, none⟩ = false := h.2.2.2.2 i
end Go.Proofs.YtcgnmnbjgamedabGreat

/-
The summands of a body's energy: what the program returns for each. Conditions: the places lie in memory, what is named is there.
-/
namespace Go.Proofs.YtcgnmnbjgamedabGreat
open Go Fk Go.RowKit
set_option linter.unusedVariables false
set_option maxRecDepth 16000

theorem negF32 {x : Nat} (hx : x < 4294967296) : Op.negFloat .f32 x < 4294967296 ∧ Op.negFloat .f32 x % 2147483648 = x % 2147483648 := by
  have h := neg_lt hx
  refine ⟨h, ?_⟩
  unfold Op.negFloat
  show (x ^^^ 2147483648) % 2147483648 = x % 2147483648
  have e : (x ^^^ 2 ^ 31) % 2 ^ 31 = x % 2 ^ 31 := by
    apply Nat.eq_of_testBit_eq
    intro i
    rw [Nat.testBit_mod_two_pow, Nat.testBit_mod_two_pow, Nat.testBit_xor, Nat.testBit_two_pow]
    by_cases hi : i < 31
    · have : ¬ 31 = i := by omega
      simp [hi, this]
    · simp [hi]
  exact e
theorem FV_neg32 {x : Nat} {c : Option Nat} (h : FV .f32 x c) : FV .f32 (Op.negFloat .f32 x) (c.map (Op.negFloat .f32)) := by
  obtain ⟨h1, h2⟩ := negF32 h.1
  refine ⟨h1, ?_⟩
  cases hn : nan32 x
  · have e : c = some x := by rw [← h.2]; exact cls_num hn
    rw [e]
    refine cls_num ?_
    have : nan32 (Op.negFloat .f32 x) = false := by
      rw [nan32_iff] at hn ⊢
      rw [h2]; exact hn
    exact this
  · have e : c = none := by rw [← h.2]; exact cls_nan hn
    rw [e]
    refine cls_nan ?_
    have : nan32 (Op.negFloat .f32 x) = true := by
      rw [nan32_iff] at hn ⊢
      rw [h2]; exact hn
    exact this
def negC32 (c : Option Nat) : Option Nat := c.map (Op.negFloat .f32)
def innerC (a b : C3) : Option Nat := fop .add .f32 (fop .add .f32 (fop .mul .f32 a.1 b.1) (fop .mul .f32 a.2.1 b.2.1)) (fop .mul .f32 a.2.2 b.2.2)
def plusC (a b : C3) : C3 := (fop .add .f32 a.1 b.1, fop .add .f32 a.2.1 b.2.1, fop .add .f32 a.2.2 b.2.2)
def placeC (cs : List C3) (z : Int) : C3 := cs.getD z.toNat c0
/-- A summand of the energy. -/
inductive En where
  | sp (s : SC)
  | fi (t : List Int) (f : Option Nat)
  | hi (h : List Int) (b : Option Nat)
  | we (p : Int) (w : Option Nat) (f : C3)
def lateC (cs : List C3) (s : SC) : Option Nat := fop .sub .f32 (longC (wayC cs s.1 s.2.1)) s.2.2.1
def foldC (cs : List C3) (h : List Int) : C3 := lessC (plusC (placeC cs (h.getD 2 0)) (placeC cs (h.getD 3 0))) (plusC (placeC cs (h.getD 0 0)) (placeC cs (h.getD 1 0)))
/-- Its energy. -/
def En.E (cs : List C3) : En → Option Nat
  | .sp s => fop .mul .f32 (fop .mul .f32 halfC s.2.2.2) (fop .mul .f32 (lateC cs s) (lateC cs s))
  | .fi t f => fop .mul .f32 f (areaC cs t)
  | .hi h b => fop .mul .f32 (fop .mul .f32 halfC b) (innerC (foldC cs h) (foldC cs h))
  | .we p w f => negC32 (fop .mul .f32 w (innerC f (placeC cs p)))
/-- What it names is there. -/
def En.ok (n : Nat) : En → Prop
  | .sp s => inB n s.1 = true ∧ inB n s.2.1 = true
  | .fi t _ => triB n t = true
  | .hi h _ => ∀ i, i < 4 → inB n (h.getD i 0) = true
  | .we p _ _ => inB n p = true
/-- The program's value of it. -/
def En.Is : En → Value → Prop
  | .sp s, v => ∃ x y, v = .iface 116 (sv s.1 s.2.1 x y) ∧ FV .f32 x s.2.2.1 ∧ FV .f32 y s.2.2.2
  | .fi t f, v => ∃ x, v = .iface 139 (.agg #[.int .i64 (t.getD 0 0), .int .i64 (t.getD 1 0), .int .i64 (t.getD 2 0), .float .f32 x]) ∧ FV .f32 x f
  | .hi h b, v => ∃ x, v = .iface 145 (.agg #[.int .i64 (h.getD 0 0), .int .i64 (h.getD 1 0), .int .i64 (h.getD 2 0), .int .i64 (h.getD 3 0), .float .f32 x]) ∧ FV .f32 x b
  | .we p w f, v => ∃ x a b c, v = .iface 147 (.agg #[.int .i64 p, .float .f32 x, .float .f32 a, .float .f32 b, .float .f32 c]) ∧ FV .f32 x w ∧ FV3 a b c f
set_option maxHeartbeats 2000000 in
theorem hinge_fold (m0 m1 m2 m3 : Nat) (pa : Option Addr) (pl pc : Nat) (cs : List C3) (w : World) (h : IsVs w pa pl pc cs) (ha : m0 < pl) (hb : m1 < pl) (hc : m2 < pl) (hd : m3 < pl) :
    Calls Tryz.prog 226 #[.agg #[.int .i64 (m0 : Int), .int .i64 (m1 : Int), .int .i64 (m2 : Int), .int .i64 (m3 : Int)], .slice pa pl pc] w fun e w' => ∃ x y z, e = .returned (vv x y z) ∧ F3 x y z (lessC (plusC (cs.getD m2 c0) (cs.getD m3 c0)) (plusC (cs.getD m0 c0) (cs.getD m1 c0))) ∧ Below w.heap.size w w' := by
  have u := Tryz.underlying27
  have uh := Tryz.underlying143
  have uv := Tryz.underlying40
  have hm : pl ≤ 9223372036854775807 := by have h1 := h.2.1; have h2 := h.2.2.1; unfold maxLen at h2; omega
  obtain ⟨pb, po, rfl, hcell⟩ := h.some (by omega)
  obtain ⟨p0, q0, r0, i00, i01, i02, f0⟩ := hcell m0 ha
  obtain ⟨p1, q1, r1, i10, i11, i12, f1⟩ := hcell m1 hb
  obtain ⟨p2, q2, r2, i20, i21, i22, f2⟩ := hcell m2 hc
  obtain ⟨p3, q3, r3, i30, i31, i32, f3⟩ := hcell m3 hd
  have D0 := Lib.hid (And.intro i00 (And.intro i01 i02))
  have D1 := Lib.hid (And.intro i10 (And.intro i11 i12))
  have D2 := Lib.hid (And.intro i20 (And.intro i21 i22))
  have D3 := Lib.hid (And.intro i30 (And.intro i31 i32))
  have F0 := Lib.hid f0
  have F1 := Lib.hid f1
  have F2 := Lib.hid f2
  have F3' := Lib.hid f3
  have a0 : (0 : Int) ≤ (m0 : Int) := by omega
  have a1 : (m0 : Int) < (pl : Int) := by omega
  have b0 : (0 : Int) ≤ (m1 : Int) := by omega
  have b1 : (m1 : Int) < (pl : Int) := by omega
  have c0' : (0 : Int) ≤ (m2 : Int) := by omega
  have c1 : (m2 : Int) < (pl : Int) := by omega
  have d0 : (0 : Int) ≤ (m3 : Int) := by omega
  have d1 : (m3 : Int) < (pl : Int) := by omega
  have FR : Hid (Frm w [(w.heap.size, [.int .i64 (m0 : Int), .int .i64 (m1 : Int), .int .i64 (m2 : Int), .int .i64 (m3 : Int)])] (w.heap.size + 1) ((w.alloc (.cells #[.int .i64 (m0 : Int), .int .i64 (m1 : Int), .int .i64 (m2 : Int), .int .i64 (m3 : Int)] 143)).alloc (.cells #[.float .f32 0, .float .f32 0, .float .f32 0] 40))) := Lib.hid (by
    refine ⟨((Below.refl _ _).alloc (Nat.le_refl _) _).alloc (by simp) _, ?_, by omega, ⟨.float .f32 0, .float .f32 0, .float .f32 0, by go_simp, by go_simp, by go_simp⟩, fun i => by go_simp⟩
    intro b' l hm
    rcases List.mem_cons.1 hm with e | hm
    · cases e
      exact ⟨At.new.alloc, by omega⟩
    · cases hm)
  clear h hcell i00 i01 i02 i10 i11 i12 i20 i21 i22 i30 i31 i32 f0 f1 f2 f3
  go_enter Tryz.func226, Tryz.ntmps226
  go_wp2_with fail
  generalize ((w.alloc (.cells #[.int .i64 (m0 : Int), .int .i64 (m1 : Int), .int .i64 (m2 : Int), .int .i64 (m3 : Int)] 143)).alloc (.cells #[.float .f32 0, .float .f32 0, .float .f32 0] 40)) = W at *
  refine Reg2.wp_region_mix (C := Frm w [(w.heap.size, [.int .i64 (m0 : Int), .int .i64 (m1 : Int), .int .i64 (m2 : Int), .int .i64 (m3 : Int)])] (w.heap.size + 1)) (G := fun w1 w2 => TV (w.heap.size + 1) (lessC (plusC (cs.getD m2 c0) (cs.getD m3 c0)) (plusC (cs.getD m0 c0) (cs.getD m1 c0))) w1 → TV (w.heap.size + 1) (lessC (plusC (cs.getD m2 c0) (cs.getD m3 c0)) (plusC (cs.getD m0 c0) (cs.getD m1 c0))) w2) (R := fun i v w' => match i with | 0 => v = .slice (some ⟨pb, po, none⟩) pl pc | 1 => v = .pointer (some ⟨w.heap.size, 2, none⟩) | 2 => v = .int .i64 (m2 : Int) | 3 => v = .pointer (some ⟨pb, po + m2 * 3, none⟩) | 4 => v = vv p2 q2 r2 | 5 => v = .slice (some ⟨pb, po, none⟩) pl pc | 6 => v = .pointer (some ⟨w.heap.size, 3, none⟩) | 7 => v = .int .i64 (m3 : Int) | 8 => v = .pointer (some ⟨pb, po + m3 * 3, none⟩) | 9 => v = vv p3 q3 r3 | 10 => ∃ p q r, v = vv p q r ∧ F3 p q r (plusC (cs.getD m2 c0) (cs.getD m3 c0)) | 11 => v = .slice (some ⟨pb, po, none⟩) pl pc | 12 => v = .pointer (some ⟨w.heap.size, 0, none⟩) | 13 => v = .int .i64 (m0 : Int) | 14 => v = .pointer (some ⟨pb, po + m0 * 3, none⟩) | 15 => v = vv p0 q0 r0 | 16 => v = .slice (some ⟨pb, po, none⟩) pl pc | 17 => v = .pointer (some ⟨w.heap.size, 1, none⟩) | 18 => v = .int .i64 (m1 : Int) | 19 => v = .pointer (some ⟨pb, po + m1 * 3, none⟩) | 20 => v = vv p1 q1 r1 | 21 => ∃ p q r, v = vv p q r ∧ F3 p q r (plusC (cs.getD m0 c0) (cs.getD m1 c0)) | 22 => ∃ p q r, v = vv p q r ∧ F3 p q r (lessC (plusC (cs.getD m2 c0) (cs.getD m3 c0)) (plusC (cs.getD m0 c0) (cs.getD m1 c0))) | _ => True) (T := fun _ w' => TV (w.heap.size + 1) (lessC (plusC (cs.getD m2 c0) (cs.getD m3 c0)) (plusC (cs.getD m0 c0) (cs.getD m1 c0))) w') [false, false, false, false, false, true, true, true, true, true, true, true, true, true, true, true, true, true, true, true, true, true, true, true, true, true, true, true]
    (by kernel_rfl) (by kernel_rfl) (by kernel_rfl) (fun _ _ _ _ _ _ h => h) (fun _ _ _ _ hG hT => hG hT) (Frm.drewN FR.out 1) ?_ ?_
  · refine ⟨Reg2.Obl.mk ?_, Reg2.Obl.mk ?_, Reg2.Obl.mk ?_, Reg2.Obl.mk ?_, Reg2.Obl.mk ?_, Reg2.Obl.mk ?_, Reg2.Obl.mk ?_, Reg2.Obl.mk ?_, Reg2.Obl.mk ?_, Reg2.Obl.mk ?_, Reg2.Obl.mk ?_, Reg2.Obl.mk ?_, Reg2.Obl.mk ?_, Reg2.Obl.mk ?_, Reg2.Obl.mk ?_, Reg2.Obl.mk ?_, Reg2.Obl.mk ?_, Reg2.Obl.mk ?_, Reg2.Obl.mk ?_, Reg2.Obl.mk ?_, Reg2.Obl.mk ?_, Reg2.Obl.mk ?_, Reg2.Obl.mk ?_, Reg2.Obl.mk ?_, trivial⟩
    · rintro a w1 hC hx hd K hK
      have HC := Lib.hid hC
      clear hC
      have t1 : a.tmps[1]?.getD undef = .slice (some ⟨pb, po, none⟩) pl pc := Reg.slot_val (hx 1 (by kernel_rfl))
      go_simp
      exact hK _ _ (fun _ => rfl) (fun h => by cases h) HC.out (fun h => h)
    · rintro a w1 hC hx hd K hK
      have HC := Lib.hid hC
      clear hC
      have t2 : a.tmps[2]?.getD undef = .pointer (some ⟨w.heap.size, 0, none⟩) := Reg.slot_val (hx 2 (by kernel_rfl))
      go_simp
      exact hK _ _ (fun _ => rfl) (fun h => by cases h) HC.out (fun h => h)
    · rintro a w1 hC hx hd K hK
      have HC := Lib.hid hC
      clear hC
      have z2 := (HC.out.mem (.head _)) 2 _ rfl
      have t6 : a.tmps[6]?.getD undef = .pointer (some ⟨w.heap.size, 2, none⟩) := Reg.slot_val (hd 1 (by kernel_rfl) 6 rfl)
      go_simp
      exact hK _ _ (fun _ => rfl) (fun h => by cases h) HC.out (fun h => h)
    · rintro a w1 hC hx hd K hK
      have HC := Lib.hid hC
      clear hC
      have t5 : a.tmps[5]?.getD undef = .slice (some ⟨pb, po, none⟩) pl pc := Reg.slot_val (hd 0 (by kernel_rfl) 5 rfl)
      have t7 : a.tmps[7]?.getD undef = .int .i64 (m2 : Int) := Reg.slot_val (hd 2 (by kernel_rfl) 7 rfl)
      go_simp
      exact hK _ _ (fun _ => rfl) (fun h => by cases h) HC.out (fun h => h)
    · rintro a w1 hC hx hd K hK
      have HC := Lib.hid hC
      clear hC
      have y0 := cell_below HC.out.bel D2.out.1
      have y1 := cell_below HC.out.bel D2.out.2.1
      have y2 := cell_below HC.out.bel D2.out.2.2
      have t8 : a.tmps[8]?.getD undef = .pointer (some ⟨pb, po + m2 * 3, none⟩) := Reg.slot_val (hd 3 (by kernel_rfl) 8 rfl)
      go_simp
      exact hK _ _ (fun _ => rfl) (fun h => by cases h) HC.out (fun h => h)
    · rintro a w1 hC hx hd K hK
      have HC := Lib.hid hC
      clear hC
      have t1 : a.tmps[1]?.getD undef = .slice (some ⟨pb, po, none⟩) pl pc := Reg.slot_val (hx 1 (by kernel_rfl))
      go_simp
      exact hK _ _ (fun _ => rfl) (fun h => by cases h) HC.out (fun h => h)
    · rintro a w1 hC hx hd K hK
      have HC := Lib.hid hC
      clear hC
      have t2 : a.tmps[2]?.getD undef = .pointer (some ⟨w.heap.size, 0, none⟩) := Reg.slot_val (hx 2 (by kernel_rfl))
      go_simp
      exact hK _ _ (fun _ => rfl) (fun h => by cases h) HC.out (fun h => h)
    · rintro a w1 hC hx hd K hK
      have HC := Lib.hid hC
      clear hC
      have z3 := (HC.out.mem (.head _)) 3 _ rfl
      have t11 : a.tmps[11]?.getD undef = .pointer (some ⟨w.heap.size, 3, none⟩) := Reg.slot_val (hd 6 (by kernel_rfl) 11 rfl)
      go_simp
      exact hK _ _ (fun _ => rfl) (fun h => by cases h) HC.out (fun h => h)
    · rintro a w1 hC hx hd K hK
      have HC := Lib.hid hC
      clear hC
      have t10 : a.tmps[10]?.getD undef = .slice (some ⟨pb, po, none⟩) pl pc := Reg.slot_val (hd 5 (by kernel_rfl) 10 rfl)
      have t12 : a.tmps[12]?.getD undef = .int .i64 (m3 : Int) := Reg.slot_val (hd 7 (by kernel_rfl) 12 rfl)
      go_simp
      exact hK _ _ (fun _ => rfl) (fun h => by cases h) HC.out (fun h => h)
    · rintro a w1 hC hx hd K hK
      have HC := Lib.hid hC
      clear hC
      have y0 := cell_below HC.out.bel D3.out.1
      have y1 := cell_below HC.out.bel D3.out.2.1
      have y2 := cell_below HC.out.bel D3.out.2.2
      have t13 : a.tmps[13]?.getD undef = .pointer (some ⟨pb, po + m3 * 3, none⟩) := Reg.slot_val (hd 8 (by kernel_rfl) 13 rfl)
      go_simp
      exact hK _ _ (fun _ => rfl) (fun h => by cases h) HC.out (fun h => h)
    · rintro a w1 hC hx hd K hK
      have HC := Lib.hid hC
      clear hC
      have t9 : a.tmps[9]?.getD undef = vv p2 q2 r2 := Reg.slot_val (hd 4 (by kernel_rfl) 9 rfl)
      have t14 : a.tmps[14]?.getD undef = vv p3 q3 r3 := Reg.slot_val (hd 9 (by kernel_rfl) 14 rfl)
      go_simp
      refine (impl_AddVectors _ _ _ _ _ _ _ _ _ _ _ _ _ F2.out.1 F2.out.2.1 F2.out.2.2 F3'.out.1 F3'.out.2.1 F3'.out.2.2).mono ?_
      rintro en w2 ⟨p', q', r', rfl, fp', fq', fr', hB2⟩
      exact hK _ _ (fun _ => ⟨p', q', r', rfl, fp', fq', fr'⟩) (fun h => by cases h) (HC.out.call hB2) (TV.call hB2)
    · rintro a w1 hC hx hd K hK
      have HC := Lib.hid hC
      clear hC
      have t1 : a.tmps[1]?.getD undef = .slice (some ⟨pb, po, none⟩) pl pc := Reg.slot_val (hx 1 (by kernel_rfl))
      go_simp
      exact hK _ _ (fun _ => rfl) (fun h => by cases h) HC.out (fun h => h)
    · rintro a w1 hC hx hd K hK
      have HC := Lib.hid hC
      clear hC
      have t2 : a.tmps[2]?.getD undef = .pointer (some ⟨w.heap.size, 0, none⟩) := Reg.slot_val (hx 2 (by kernel_rfl))
      go_simp
      exact hK _ _ (fun _ => rfl) (fun h => by cases h) HC.out (fun h => h)
    · rintro a w1 hC hx hd K hK
      have HC := Lib.hid hC
      clear hC
      have z0 := (HC.out.mem (.head _)) 0 _ rfl
      have t17 : a.tmps[17]?.getD undef = .pointer (some ⟨w.heap.size, 0, none⟩) := Reg.slot_val (hd 12 (by kernel_rfl) 17 rfl)
      go_simp
      exact hK _ _ (fun _ => rfl) (fun h => by cases h) HC.out (fun h => h)
    · rintro a w1 hC hx hd K hK
      have HC := Lib.hid hC
      clear hC
      have t16 : a.tmps[16]?.getD undef = .slice (some ⟨pb, po, none⟩) pl pc := Reg.slot_val (hd 11 (by kernel_rfl) 16 rfl)
      have t18 : a.tmps[18]?.getD undef = .int .i64 (m0 : Int) := Reg.slot_val (hd 13 (by kernel_rfl) 18 rfl)
      go_simp
      exact hK _ _ (fun _ => rfl) (fun h => by cases h) HC.out (fun h => h)
    · rintro a w1 hC hx hd K hK
      have HC := Lib.hid hC
      clear hC
      have y0 := cell_below HC.out.bel D0.out.1
      have y1 := cell_below HC.out.bel D0.out.2.1
      have y2 := cell_below HC.out.bel D0.out.2.2
      have t19 : a.tmps[19]?.getD undef = .pointer (some ⟨pb, po + m0 * 3, none⟩) := Reg.slot_val (hd 14 (by kernel_rfl) 19 rfl)
      go_simp
      exact hK _ _ (fun _ => rfl) (fun h => by cases h) HC.out (fun h => h)
    · rintro a w1 hC hx hd K hK
      have HC := Lib.hid hC
      clear hC
      have t1 : a.tmps[1]?.getD undef = .slice (some ⟨pb, po, none⟩) pl pc := Reg.slot_val (hx 1 (by kernel_rfl))
      go_simp
      exact hK _ _ (fun _ => rfl) (fun h => by cases h) HC.out (fun h => h)
    · rintro a w1 hC hx hd K hK
      have HC := Lib.hid hC
      clear hC
      have t2 : a.tmps[2]?.getD undef = .pointer (some ⟨w.heap.size, 0, none⟩) := Reg.slot_val (hx 2 (by kernel_rfl))
      go_simp
      exact hK _ _ (fun _ => rfl) (fun h => by cases h) HC.out (fun h => h)
    · rintro a w1 hC hx hd K hK
      have HC := Lib.hid hC
      clear hC
      have z1 := (HC.out.mem (.head _)) 1 _ rfl
      have t22 : a.tmps[22]?.getD undef = .pointer (some ⟨w.heap.size, 1, none⟩) := Reg.slot_val (hd 17 (by kernel_rfl) 22 rfl)
      go_simp
      exact hK _ _ (fun _ => rfl) (fun h => by cases h) HC.out (fun h => h)
    · rintro a w1 hC hx hd K hK
      have HC := Lib.hid hC
      clear hC
      have t21 : a.tmps[21]?.getD undef = .slice (some ⟨pb, po, none⟩) pl pc := Reg.slot_val (hd 16 (by kernel_rfl) 21 rfl)
      have t23 : a.tmps[23]?.getD undef = .int .i64 (m1 : Int) := Reg.slot_val (hd 18 (by kernel_rfl) 23 rfl)
      go_simp
      exact hK _ _ (fun _ => rfl) (fun h => by cases h) HC.out (fun h => h)
    · rintro a w1 hC hx hd K hK
      have HC := Lib.hid hC
      clear hC
      have y0 := cell_below HC.out.bel D1.out.1
      have y1 := cell_below HC.out.bel D1.out.2.1
      have y2 := cell_below HC.out.bel D1.out.2.2
      have t24 : a.tmps[24]?.getD undef = .pointer (some ⟨pb, po + m1 * 3, none⟩) := Reg.slot_val (hd 19 (by kernel_rfl) 24 rfl)
      go_simp
      exact hK _ _ (fun _ => rfl) (fun h => by cases h) HC.out (fun h => h)
    · rintro a w1 hC hx hd K hK
      have HC := Lib.hid hC
      clear hC
      have t20 : a.tmps[20]?.getD undef = vv p0 q0 r0 := Reg.slot_val (hd 15 (by kernel_rfl) 20 rfl)
      have t25 : a.tmps[25]?.getD undef = vv p1 q1 r1 := Reg.slot_val (hd 20 (by kernel_rfl) 25 rfl)
      go_simp
      refine (impl_AddVectors _ _ _ _ _ _ _ _ _ _ _ _ _ F0.out.1 F0.out.2.1 F0.out.2.2 F1.out.1 F1.out.2.1 F1.out.2.2).mono ?_
      rintro en w2 ⟨p', q', r', rfl, fp', fq', fr', hB2⟩
      exact hK _ _ (fun _ => ⟨p', q', r', rfl, fp', fq', fr'⟩) (fun h => by cases h) (HC.out.call hB2) (TV.call hB2)
    · rintro a w1 hC hx hd K hK
      have HC := Lib.hid hC
      clear hC
      obtain ⟨p15, q15, r15, g15, f15⟩ := hd 10 (by kernel_rfl) 15 rfl
      have t15 := Reg.slot_val g15
      clear g15
      obtain ⟨p26, q26, r26, g26, f26⟩ := hd 21 (by kernel_rfl) 26 rfl
      have t26 := Reg.slot_val g26
      clear g26
      go_simp
      refine (impl_LessVectors _ _ _ _ _ _ _ _ _ _ _ _ _ f15.1 f15.2.1 f15.2.2 f26.1 f26.2.1 f26.2.2).mono ?_
      rintro en w2 ⟨p', q', r', rfl, fp', fq', fr', hB2⟩
      exact hK _ _ (fun _ => ⟨p', q', r', rfl, fp', fq', fr'⟩) (fun h => by cases h) (HC.out.call hB2) (TV.call hB2)
    · rintro a w1 hC hx hd K hK
      have HC := Lib.hid hC
      clear hC
      have t4 : a.tmps[4]?.getD undef = .pointer (some ⟨w.heap.size + 1, 0, none⟩) := Reg.slot_val (hx 4 (by kernel_rfl))
      obtain ⟨p27, q27, r27, g27, f27⟩ := hd 22 (by kernel_rfl) 27 rfl
      have t27 := Reg.slot_val g27
      clear g27
      obtain ⟨u0, u1, u2, x0, x1, x2⟩ := HC.out.cells
      have k0 := HC.out.free 0
      have k1 := HC.out.free 1
      have k2 := HC.out.free 2
      go_simp
      exact hK undef _ (fun h => absurd rfl h) (fun _ => TV.put HC.out f27) (HC.out.put _ _ _) (fun _ => TV.put HC.out f27)
  rintro f w1 hC hd' hT
  obtain ⟨x, y, z, ⟨x0, x1, x2⟩, hf⟩ := hT 23 rfl (by decide)
  simp only [Reg.mixL]
  have HC := Lib.hid hC
  clear hC hd' hT
  go_wp2
  refine bodyPost_ret (v := vv x y z) (by simp [results, Tryz.results226, go_sem, x0, x1, x2]) rfl ⟨x, y, z, rfl, hf, HC.out.bel⟩
end Go.Proofs.YtcgnmnbjgamedabGreat

/-
Marks in lists of integers: they are written where the list lies, and nowhere else. Conditions: the list's cells may be written.
-/
namespace Go.Proofs.YtcgnmnbjgamedabGreat
open Go Fk Go.RowKit
set_option linter.unusedVariables false
set_option maxRecDepth 8000

/-- What lies outside the blocks from lo to hi is as it was; every cell is still there, and may be written if it could be. -/
structure Mark (lo hi : Nat) (w w' : World) : Prop where
  below : Below lo w w'
  above : ∀ k, hi ≤ k → k < w.heap.size → w'.heap[k]? = w.heap[k]?
  alive : ∀ n i, (∃ v, w.cell? ⟨n, i, none⟩ = some v) → ∃ v, w'.cell? ⟨n, i, none⟩ = some v
  frozen : ∀ n i, n < w.heap.size → w'.frozen? ⟨n, i, none⟩ = w.frozen? ⟨n, i, none⟩
theorem Mark.refl (lo hi : Nat) (w : World) : Mark lo hi w w := ⟨Below.refl _ _, fun _ _ _ => rfl, fun _ _ h => h, fun _ _ _ => rfl⟩
theorem Mark.trans {lo hi : Nat} {a b c : World} (h : Mark lo hi a b) (k : Mark lo hi b c) : Mark lo hi a c :=
  ⟨h.below.trans k.below, fun j h1 h2 => (k.above j h1 (Nat.lt_of_lt_of_le h2 h.below.size)).trans (h.above j h1 h2), fun n i e => k.alive n i (h.alive n i e), fun n i e => (k.frozen n i (Nat.lt_of_lt_of_le e h.below.size)).trans (h.frozen n i e)⟩
theorem Mark.set {lo hi : Nat} {w : World} {b o : Nat} {u : Value} (h1 : lo ≤ b) (h2 : b < hi) : Mark lo hi w (w.setCell ⟨b, o, none⟩ u) := by
  refine ⟨(Below.refl _ _).setCell h1 _, fun k hk _ => Below.heap_setCell _ _ _ _ (by simp; omega), fun n i ⟨v, hv⟩ => ?_, fun n i _ => by simp⟩
  by_cases h : (⟨b, o, none⟩ : Addr) = ⟨n, i, none⟩
  · rw [← h] at hv ⊢; exact ⟨_, World.cell?_setCell_same w _ u hv⟩
  · exact ⟨v, by rw [World.cell?_setCell_other _ _ _ _ h]; exact hv⟩
theorem Mark.wide {lo hi lo' hi' : Nat} {w w' : World} (h : Mark lo hi w w') (h1 : lo' ≤ lo) (h2 : hi ≤ hi') : Mark lo' hi' w w' :=
  ⟨h.below.mono h1, fun k hk e => h.above k (Nat.le_trans h2 hk) e, h.alive, h.frozen⟩
theorem Mark.alloc {lo hi : Nat} {w : World} (h : lo ≤ w.heap.size) (o : Obj) : Mark lo hi w (w.alloc o) := by
  refine ⟨(Below.refl _ _).alloc h _, fun k _ hk => Below.heap_alloc _ _ _ hk, fun n i ⟨v, hv⟩ => ⟨v, ?_⟩, fun n i hn => ?_⟩
  · rw [World.cell?_alloc_lt (h := World.block_lt_of_cell? _ _ hv)]; exact hv
  · exact World.frozen?_of_block (Below.heap_alloc _ _ _ hn)
theorem Mark.drewN {lo hi : Nat} {w : World} (n : Nat) : Mark lo hi w (w.drewN n) := ⟨below_drewN (Below.refl _ _) n, fun _ _ _ => rfl, fun _ _ h => h, fun _ _ _ => rfl⟩
theorem Mark.cell {lo hi : Nat} {w w' : World} (h : Mark lo hi w w') {b i : Nat} {v : Value} (hb : b < lo ∨ hi ≤ b) (hv : w.cell? ⟨b, i, none⟩ = some v) : w'.cell? ⟨b, i, none⟩ = some v := by
  rcases hb with hb | hb
  · rw [h.below.cell (p := ⟨b, i, none⟩) hb]; exact hv
  · rw [World.cell?_of_block (w := w) (h.above b hb (World.block_lt_of_cell? _ _ hv))]; exact hv
/-- These cells are there, in a block from lo to hi, and may be written. -/
def Own (lo hi : Nat) (w : World) (b o n : Nat) : Prop := lo ≤ b ∧ b < hi ∧ b < w.heap.size ∧ ∀ j, j < n → (∃ v, w.cell? ⟨b, o + j, none⟩ = some v) ∧ w.frozen? ⟨b, o + j, none⟩ = false
theorem Own.mark {lo hi lo' hi' : Nat} {w w' : World} {b o n : Nat} (h : Own lo hi w b o n) (k : Mark lo' hi' w w') : Own lo hi w' b o n :=
  ⟨h.1, h.2.1, Nat.lt_of_lt_of_le h.2.2.1 k.below.size, fun j hj => ⟨k.alive _ _ (h.2.2.2 j hj).1, by rw [k.frozen _ _ h.2.2.1]; exact (h.2.2.2 j hj).2⟩⟩
end Go.Proofs.YtcgnmnbjgamedabGreat

/-
Marks in lists of vectors. Conditions: the list's cells may be written.
-/
namespace Go.Proofs.YtcgnmnbjgamedabGreat
open Go Fk Go.RowKit
set_option linter.unusedVariables false
set_option maxRecDepth 8000

end Go.Proofs.YtcgnmnbjgamedabGreat

/-
Marks in lists of vectors: they are held. Conditions: they were written.
-/
namespace Go.Proofs.YtcgnmnbjgamedabGreat
open Go Fk Go.RowKit
set_option linter.unusedVariables false
set_option maxRecDepth 8000

end Go.Proofs.YtcgnmnbjgamedabGreat

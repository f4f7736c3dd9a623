/-
Texts in one: what StiffTimes stands on, part 31. Conditions: those of each.
-/
import Derived.Test.YtabccmobmppdnaaGreatKStiffTimes30
-- halved
namespace Go.Proofs.YtabccmobmppdnaaGreat
open Go Fk Go.RowKit
set_option linter.unusedVariables false
set_option maxRecDepth 16000
def En.add (cs : List C3) (X : List C3) : En → List C3
 | .sp s => addAt (addAt X s.1.toNat (scaleC (wayC cs s.1 s.2.1) (perC (wayC cs s.1 s.2.1) s.2.2.1 s.2.2.2))) s.2.1.toNat (scaleC (wayC cs s.1 s.2.1) (negC32 (perC (wayC cs s.1 s.2.1) s.2.2.1 s.2.2.2)))
 | .fi t f => addAt (addAt (addAt X (t.getD 0 0).toNat (scaleC (crossC (normalC cs t) (lessC (placeC cs (t.getD 2 0)) (placeC cs (t.getD 1 0)))) (gainC (negC32 (fop .mul .f32 halfC f)) (longC (normalC cs t))))) (t.getD 1 0).toNat (scaleC (crossC (normalC cs t) (lessC (placeC cs (t.getD 0 0)) (placeC cs (t.getD 2 0)))) (gainC (negC32 (fop .mul .f32 halfC f)) (longC (normalC cs t))))) (t.getD 2 0).toNat (scaleC (crossC (normalC cs t) (lessC (placeC cs (t.getD 1 0)) (placeC cs (t.getD 0 0)))) (gainC (negC32 (fop .mul .f32 halfC f)) (longC (normalC cs t))))
 | .hi h b => addAt (addAt (addAt (addAt X (h.getD 0 0).toNat (scaleC (foldC cs h) b)) (h.getD 1 0).toNat (scaleC (foldC cs h) b)) (h.getD 2 0).toNat (scaleC (foldC cs h) (negC32 b))) (h.getD 3 0).toNat (scaleC (foldC cs h) (negC32 b))
 | .we p w f => addAt X p.toNat (scaleC f w)
theorem En.add_len (cs X : List C3) (e : En) : (e.add cs X).length = X.length := by cases e <;> simp [En.add, addAt_len]
theorem add_sp {cs X : List C3} {s : SC} {i j : Nat} (ei : s.1 = (i : Int)) (ej : s.2.1 = (j : Int)) : (En.sp s).add cs X = addAt (addAt X i (scaleC (wayC cs (i : Int) (j : Int)) (perC (wayC cs (i : Int) (j : Int)) s.2.2.1 s.2.2.2))) j (scaleC (wayC cs (i : Int) (j : Int)) (negC32 (perC (wayC cs (i : Int) (j : Int)) s.2.2.1 s.2.2.2))) := by
 simp only [En.add]
 rw [ei, ej, Int.toNat_natCast, Int.toNat_natCast]
theorem add_fi {cs X : List C3} {t : List Int} {f : Option Nat} {m0 m1 m2 : Nat} (h0 : t.getD 0 0 = m0) (h1 : t.getD 1 0 = m1) (h2 : t.getD 2 0 = m2) : (En.fi t f).add cs X = addAt (addAt (addAt X m0 (scaleC (crossC (normalC cs t) (lessC (cs.getD m2 c0) (cs.getD m1 c0))) (gainC (negC32 (fop .mul .f32 halfC f)) (longC (normalC cs t))))) m1 (scaleC (crossC (normalC cs t) (lessC (cs.getD m0 c0) (cs.getD m2 c0))) (gainC (negC32 (fop .mul .f32 halfC f)) (longC (normalC cs t))))) m2 (scaleC (crossC (normalC cs t) (lessC (cs.getD m1 c0) (cs.getD m0 c0))) (gainC (negC32 (fop .mul .f32 halfC f)) (longC (normalC cs t)))) := by
 simp only [En.add, placeC]
 rw [h0, h1, h2]
 simp only [Int.toNat_natCast]
theorem add_hi {cs X : List C3} {h : List Int} {b : Option Nat} {m0 m1 m2 m3 : Nat} (h0 : h.getD 0 0 = m0) (h1 : h.getD 1 0 = m1) (h2 : h.getD 2 0 = m2) (h3 : h.getD 3 0 = m3) : (En.hi h b).add cs X = addAt (addAt (addAt (addAt X m0 (scaleC (lessC (plusC (cs.getD m2 c0) (cs.getD m3 c0)) (plusC (cs.getD m0 c0) (cs.getD m1 c0))) b)) m1 (scaleC (lessC (plusC (cs.getD m2 c0) (cs.getD m3 c0)) (plusC (cs.getD m0 c0) (cs.getD m1 c0))) b)) m2 (scaleC (lessC (plusC (cs.getD m2 c0) (cs.getD m3 c0)) (plusC (cs.getD m0 c0) (cs.getD m1 c0))) (negC32 b))) m3 (scaleC (lessC (plusC (cs.getD m2 c0) (cs.getD m3 c0)) (plusC (cs.getD m0 c0) (cs.getD m1 c0))) (negC32 b)) := by
 simp only [En.add, foldC, placeC]
 rw [h0, h1, h2, h3]
 simp only [Int.toNat_natCast]
theorem add_we {cs X : List C3} {p : Int} {w : Option Nat} {f : C3} {i : Nat} (ei : p = (i : Int)) : (En.we p w f).add cs X = addAt X i (scaleC f w) := by
 simp only [En.add]
 rw [ei, Int.toNat_natCast]
def addsF (cs X : List C3) (es : List En) : List C3 := es.foldl (En.add cs) X
theorem addsF_len (cs : List C3) : ∀ (es : List En) (X : List C3), (addsF cs X es).length = X.length
 | [], X => rfl
 | e :: es, X => by
  show (addsF cs (e.add cs X) es).length = X.length
  rw [addsF_len cs es, En.add_len]
theorem addsF_s (cs X : List C3) (es : List En) {k : Nat} (hk : k < es.length) : addsF cs X (es.take (k + 1)) = (es.getD k (.sp s0)).add cs (addsF cs X (es.take k)) := by
 have e : es.getD k (.sp s0) = es[k] := by simp [List.getD, hk]
 rw [e]
 unfold addsF
 rw [List.take_add_one, List.getElem?_eq_getElem hk, List.foldl_append]
 rfl
set_option maxHeartbeats 8000000 in
theorem impl_sumForces (pa la : Option Addr) (pl pc lc : Nat) (cs : List C3) (es : List En) (w : World) (h : IsVs w pa pl pc cs) (hl : EnS w la es) (hn : es.length ≤ 8192) (hx9 : pl ≤ 1048576) (hok : ∀ j, j < es.length → (es.getD j (.sp s0)).ok pl) :
  Calls Tryz.prog 127 #[.slice la es.length lc, .slice pa pl pc] w fun en w' => ∃ g, en = .returned (.slice (some ⟨g, 0, none⟩) pl pl) ∧ St w [] g (addsF cs (List.replicate pl (some 0, some 0, some 0)) es) w' := by
 have hmk := make_vecs w pl hx9
 have hmf : ∀ (fn : Fn) (first cap : Array Value) (w : World), (Instr.makeFunc fn first cap).run Tryz.prog w = .ok (.func fn first cap) w := fun _ _ _ _ => rfl
 have hS0 : St w [(w.heap.size + 1, [.slice (some ⟨w.heap.size, 0, none⟩) pl pl])] w.heap.size (List.replicate pl (some 0, some 0, some 0)) ((w.alloc (.cells (madeCells #[.float .f32 0, .float .f32 0, .float .f32 0] (pl * 3)) 42)).alloc (.cells #[.slice (some ⟨w.heap.size, 0, none⟩) pl pl] 36)) := by
  have h1 : St w [] w.heap.size (List.replicate pl (some 0, some 0, some 0)) (w.alloc (.cells (madeCells #[.float .f32 0, .float .f32 0, .float .f32 0] (pl * 3)) 42)) := St.of (Bx.nil w) ((Below.refl _ _).alloc (Nat.le_refl _) _) (Nat.le_refl _) (OwnVs.made hx9)
  have := h1.box (vs := [.slice (some ⟨w.heap.size, 0, none⟩) pl pl]) (t := 36)
  simpa using this
 have S0 := Lib.hid hS0
 have HV := Lib.hid h
 have HL := Lib.hid hl
 have HOK := Lib.hid hok
 have HN := Lib.hid hn
 clear h hl hok hn hS0
 go_enter Tryz.func127, Tryz.ntmps127
 go_wp2
 clear hmk
 generalize ((w.alloc (.cells (madeCells #[.float .f32 0, .float .f32 0, .float .f32 0] (pl * 3)) 42)).alloc (.cells #[.slice (some ⟨w.heap.size, 0, none⟩) pl pl] 36)) = W at *
 have hz : (List.replicate pl ((some 0, some 0, some 0) : C3)).length = pl := by simp
 generalize hX0 : List.replicate pl ((some 0, some 0, some 0) : C3) = X0 at S0 hz
 have HX0 := Lib.hid hX0
 have HZ := Lib.hid hz
 generalize hfb : w.heap.size + 1 = fb at *
 generalize hg : w.heap.size = g at S0 ⊢
 clear hX0 hz hfb
 go_loopw [13] (fun i w' => ∃ k : Nat, k ≤ es.length ∧ i = .int .i64 k ∧ Aside (St w [(fb, [.slice (some ⟨g, 0, none⟩) pl pl])] g (addsF cs X0 (es.take k)) w')) (fun i _ => es.length - (intOf i).toNat)
 case atStart => exact ⟨0, Nat.zero_le _, rfl, S0.out⟩
 case round =>
  obtain ⟨k, hk, rfl, hA⟩ := hrel
  have S1 := Lib.hid hA.out
  clear hA S0
  by_cases hlt : k < es.length
  ·have hk0 : (0 : Int) ≤ (k : Int) := by omega
   have hk1 : (k : Int) < (es.length : Int) := by omega
   obtain ⟨lg, u0, rfl, hcell, hu⟩ := (HL.out.below S1.out.bel) k hlt
   have HKS := Lib.hid (addsF_s cs X0 es hlt)
   have hek := HOK.out k hlt
   have HXL : Hid ((addsF cs X0 (List.take k es)).length = pl) := Lib.hid (by rw [addsF_len]; exact HZ.out)
   generalize hX : addsF cs X0 (List.take k es) = X at *
   generalize es.getD k (.sp s0) = e at *
   have hn8 := HN.out
   cases e with
   | sp s =>
    obtain ⟨x, y, rfl, fx, fy⟩ := hu
    obtain ⟨i, ei, hi⟩ := inB_nat hek.1
    obtain ⟨j, ej, hj⟩ := inB_nat hek.2
    have HJ := Lib.hid (fun w1 (hS : St w [(fb, [.slice (some ⟨g, 0, none⟩) pl pl])] g X w1) => spring_forces w _ fb g pl X w1 hS (.head _) HXL.out hx9 i j hi hj s.2.2.1 s.2.2.2 x y pa pc cs HV.out fx fy)
    have HE := Lib.hid (add_sp (cs := cs) (X := X) ei ej)
    rw [ei, ej] at hcell
    clear hek fx fy
    go_wp2_with fail
    refine (HJ.out wr S1.out).mono ?_
    rintro en w2 ⟨rfl, hS⟩
    have S2 : Hid (St w [(fb, [.slice (some ⟨g, 0, none⟩) pl pl])] g (addsF cs X0 (es.take (k + 1))) w2) := Lib.hid (by rw [HKS.out, HE.out]; exact hS)
    clear hS
    go_wp2
    go_roundw
    case rel => exact ⟨k + 1, by omega, by go_num, S2.out⟩
    case measure => simp [intOf]; omega
   | fi t f =>
    obtain ⟨x, rfl, fx⟩ := hu
    obtain ⟨h3, hin⟩ := tri_parts hek
    obtain ⟨t0, l0⟩ := hin 0 (by decide)
    obtain ⟨t1, l1⟩ := hin 1 (by decide)
    obtain ⟨t2, l2⟩ := hin 2 (by decide)
    obtain ⟨m0, hm0⟩ : ∃ m0 : Nat, t.getD 0 0 = m0 := ⟨_, (Int.toNat_of_nonneg t0).symm⟩
    obtain ⟨m1, hm1⟩ : ∃ m1 : Nat, t.getD 1 0 = m1 := ⟨_, (Int.toNat_of_nonneg t1).symm⟩
    obtain ⟨m2, hm2⟩ : ∃ m2 : Nat, t.getD 2 0 = m2 := ⟨_, (Int.toNat_of_nonneg t2).symm⟩
    have HJ := Lib.hid (fun w1 (hS : St w [(fb, [.slice (some ⟨g, 0, none⟩) pl pl])] g X w1) => film_forces w _ fb g pl X w1 hS (.head _) HXL.out hx9 t m0 m1 m2 hm0 hm1 hm2 hek f x pa pc cs HV.out fx)
    have HE := Lib.hid (add_fi (cs := cs) (X := X) (f := f) hm0 hm1 hm2)
    rw [hm0, hm1, hm2] at hcell
    clear hek fx hin h3 t0 t1 t2 l0 l1 l2 hm0 hm1 hm2
    go_wp2_with fail
    refine (HJ.out wr S1.out).mono ?_
    rintro en w2 ⟨rfl, hS⟩
    have S2 : Hid (St w [(fb, [.slice (some ⟨g, 0, none⟩) pl pl])] g (addsF cs X0 (es.take (k + 1))) w2) := Lib.hid (by rw [HKS.out, HE.out]; exact hS)
    clear hS
    go_wp2
    go_roundw
    case rel => exact ⟨k + 1, by omega, by go_num, S2.out⟩
    case measure => simp [intOf]; omega
   | hi hh b =>
    obtain ⟨x, rfl, fx⟩ := hu
    obtain ⟨m0, hm0, hm0'⟩ := inB_nat (hek 0 (by decide))
    obtain ⟨m1, hm1, hm1'⟩ := inB_nat (hek 1 (by decide))
    obtain ⟨m2, hm2, hm2'⟩ := inB_nat (hek 2 (by decide))
    obtain ⟨m3, hm3, hm3'⟩ := inB_nat (hek 3 (by decide))
    have HJ := Lib.hid (fun w1 (hS : St w [(fb, [.slice (some ⟨g, 0, none⟩) pl pl])] g X w1) => hinge_forces w _ fb g pl X w1 hS (.head _) HXL.out hx9 m0 m1 m2 m3 hm0' hm1' hm2' hm3' b x pa pc cs HV.out fx)
    have HE := Lib.hid (add_hi (cs := cs) (X := X) (b := b) hm0 hm1 hm2 hm3)
    rw [hm0, hm1, hm2, hm3] at hcell
    clear hek fx hm0 hm1 hm2 hm3
    go_wp2_with fail
    refine (HJ.out wr S1.out).mono ?_
    rintro en w2 ⟨rfl, hS⟩
    have S2 : Hid (St w [(fb, [.slice (some ⟨g, 0, none⟩) pl pl])] g (addsF cs X0 (es.take (k + 1))) w2) := Lib.hid (by rw [HKS.out, HE.out]; exact hS)
    clear hS
    go_wp2
    go_roundw
    case rel => exact ⟨k + 1, by omega, by go_num, S2.out⟩
    case measure => simp [intOf]; omega
   | we p wc f =>
    obtain ⟨x, ra, rb', rc, rfl, fx, ff⟩ := hu
    obtain ⟨i, ei, hi⟩ := inB_nat hek
    have HJ := Lib.hid (fun w1 (hS : St w [(fb, [.slice (some ⟨g, 0, none⟩) pl pl])] g X w1) => weight_forces w _ fb g pl X w1 hS (.head _) HXL.out hx9 i hi wc f x ra rb' rc (.slice pa pl pc) fx ff)
    have HE := Lib.hid (add_we (cs := cs) (X := X) (w := wc) (f := f) ei)
    rw [ei] at hcell
    clear hek fx ff
    go_wp2_with fail
    refine (HJ.out wr S1.out).mono ?_
    rintro en w2 ⟨rfl, hS⟩
    have S2 : Hid (St w [(fb, [.slice (some ⟨g, 0, none⟩) pl pl])] g (addsF cs X0 (es.take (k + 1))) w2) := Lib.hid (by rw [HKS.out, HE.out]; exact hS)
    clear hS
    go_wp2
    go_roundw
    case rel => exact ⟨k + 1, by omega, by go_num, S2.out⟩
    case measure => simp [intOf]; omega
  ·obtain rfl : k = es.length := by omega
   have a0 := (S1.out.mem (.head _)) 0 _ rfl
   have S9 : Hid (St w [] g (addsF cs X0 es) wr) := Lib.hid (by have := S1.out.drop; rwa [List.take_of_length_le (Nat.le_refl _)] at this)
   go_wp2
   go_ret
   exact ⟨g, rfl, by rw [HX0.out]; exact S9.out⟩
end Go.Proofs.YtabccmobmppdnaaGreat
namespace Go.Proofs.YtabccmobmppdnaaGreat
open Go Fk Go.RowKit
set_option linter.unusedVariables false
set_option maxRecDepth 16000
theorem RV.lowF {base base' : Nat} {w : World} {v : Value} {X : List C3} (h : RV base w v X) (hb : base' ≤ base) : RV base' w v X := by
 obtain ⟨a, cap, e, h1, h2⟩ := h
 exact ⟨a, cap, e, h1, h2.imp id fun ⟨b, e, h3⟩ => ⟨b, e, Nat.le_trans hb h3.1, h3.2⟩⟩
end Go.Proofs.YtabccmobmppdnaaGreat
namespace Go.Proofs.YtabccmobmppdnaaGreat
open Go Fk Go.RowKit
set_option linter.unusedVariables false
set_option maxRecDepth 16000
set_option maxHeartbeats 4000000 in
theorem l03Bent (pb tb to q : Nat) (m0 m1 m2 m3 : Nat) (pa : Option Addr) (pl pc : Nat) (cs : List C3) (w : World) (a0 : w.cell? ⟨pb, 0, none⟩ = some (.slice pa pl pc)) (r0' : w.cell? ⟨tb, to, none⟩ = some (.int .i64 (m0 : Int))) (r1' : w.cell? ⟨tb, to + 1, none⟩ = some (.int .i64 (m1 : Int))) (r2' : w.cell? ⟨tb, to + 2, none⟩ = some (.int .i64 (m2 : Int))) (r3' : w.cell? ⟨tb, to + 3, none⟩ = some (.int .i64 (m3 : Int))) (h : IsVs w pa pl pc cs) (hm0 : m0 < pl) (hm1 : m1 < pl) (hm2 : m2 < pl) (hm3 : m3 < pl) :
  Calls Tryz.prog 169 #[.pointer (some ⟨pb, 0, none⟩), .slice (some ⟨tb, to, none⟩) 4 q] w fun e w' => ∃ x y z, e = .returned (vv x y z) ∧ F3 x y z (lessC (plusC (cs.getD m2 c0) (cs.getD m3 c0)) (plusC (cs.getD m0 c0) (cs.getD m1 c0))) ∧ Below w.heap.size w w' := by
 obtain ⟨pab, pao, rfl, hcell⟩ := h.some (by omega)
 have u := Tryz.underlying27
 have um := Tryz.underlying40
 have uv := Tryz.underlying42
 have hmx : pl ≤ 9223372036854775807 := by have h1 := h.2.1; have h2 := h.2.2.1; unfold maxLen at h2; omega
 have A0 := Lib.hid a0
 have R0 := Lib.hid r0'
 have R1 := Lib.hid r1'
 have R2 := Lib.hid r2'
 have R3 := Lib.hid r3'
 obtain ⟨p0, q0, r0, i00, i01, i02, f0⟩ := hcell m0 hm0
 have D0 := Lib.hid (And.intro i00 (And.intro i01 i02))
 have F0' := Lib.hid f0
 have g00 : (0 : Int) ≤ (m0 : Int) := by omega
 have g01 : (m0 : Int) < (pl : Int) := by omega
 obtain ⟨p1, q1, r1, i10, i11, i12, f1⟩ := hcell m1 hm1
 have D1 := Lib.hid (And.intro i10 (And.intro i11 i12))
 have F1' := Lib.hid f1
 have g10 : (0 : Int) ≤ (m1 : Int) := by omega
 have g11 : (m1 : Int) < (pl : Int) := by omega
 obtain ⟨p2, q2, r2, i20, i21, i22, f2⟩ := hcell m2 hm2
 have D2 := Lib.hid (And.intro i20 (And.intro i21 i22))
 have F2' := Lib.hid f2
 have g20 : (0 : Int) ≤ (m2 : Int) := by omega
 have g21 : (m2 : Int) < (pl : Int) := by omega
 obtain ⟨p3, q3, r3, i30, i31, i32, f3⟩ := hcell m3 hm3
 have D3 := Lib.hid (And.intro i30 (And.intro i31 i32))
 have F3' := Lib.hid f3
 have g30 : (0 : Int) ≤ (m3 : Int) := by omega
 have g31 : (m3 : Int) < (pl : Int) := by omega
 clear a0 h hcell r0' i00 i01 i02 f0 r1' i10 i11 i12 f1 r2' i20 i21 i22 f2 r3' i30 i31 i32 f3
 have FR : Hid (Frm w [] w.heap.size (w.alloc (.cells #[.float .f32 0, .float .f32 0, .float .f32 0] 42))) := Lib.hid ⟨(Below.refl _ _).alloc (Nat.le_refl _) _, fun b l hm => (by cases hm), Nat.le_refl _, ⟨.float .f32 0, .float .f32 0, .float .f32 0, by go_simp, by go_simp, by go_simp⟩, fun i => by go_simp⟩
 go_enter Tryz.func169, Tryz.ntmps169
 go_wp2_with fail
 generalize (w.alloc (.cells #[.float .f32 0, .float .f32 0, .float .f32 0] 42)) = W at *
 refine Reg2.wp_region_mix (C := Frm w [] (w.heap.size)) (G := fun w1 w2 => TV (w.heap.size) (lessC (plusC (cs.getD m2 c0) (cs.getD m3 c0)) (plusC (cs.getD m0 c0) (cs.getD m1 c0))) w1 → TV (w.heap.size) (lessC (plusC (cs.getD m2 c0) (cs.getD m3 c0)) (plusC (cs.getD m0 c0) (cs.getD m1 c0))) w2) (R := fun i v w' => match i with | 0 => v = .pointer (some ⟨pb, 0, none⟩) | 1 => v = .pointer (some ⟨pb, 0, none⟩) | 2 => v = .pointer (some ⟨pb, 0, none⟩) | 3 => v = .slice (some ⟨pab, pao, none⟩) pl pc | 4 => v = .slice (some ⟨tb, to, none⟩) 4 q | 5 => v = .pointer (some ⟨tb, to + 2, none⟩) | 6 => v = .int .i64 (m2 : Int) | 7 => v = .pointer (some ⟨pab, pao + m2 * 3, none⟩) | 8 => v = vv p2 q2 r2 | 9 => v = .pointer (some ⟨pb, 0, none⟩) | 10 => v = .pointer (some ⟨pb, 0, none⟩) | 11 => v = .pointer (some ⟨pb, 0, none⟩) | 12 => v = .slice (some ⟨pab, pao, none⟩) pl pc | 13 => v = .slice (some ⟨tb, to, none⟩) 4 q | 14 => v = .pointer (some ⟨tb, to + 3, none⟩) | 15 => v = .int .i64 (m3 : Int) | 16 => v = .pointer (some ⟨pab, pao + m3 * 3, none⟩) | 17 => v = vv p3 q3 r3 | 18 => ∃ p q r, v = vv p q r ∧ F3 p q r (plusC (cs.getD m2 c0) (cs.getD m3 c0)) | 19 => v = .pointer (some ⟨pb, 0, none⟩) | 20 => v = .pointer (some ⟨pb, 0, none⟩) | 21 => v = .pointer (some ⟨pb, 0, none⟩) | 22 => v = .slice (some ⟨pab, pao, none⟩) pl pc | 23 => v = .slice (some ⟨tb, to, none⟩) 4 q | 24 => v = .pointer (some ⟨tb, to, none⟩) | 25 => v = .int .i64 (m0 : Int) | 26 => v = .pointer (some ⟨pab, pao + m0 * 3, none⟩) | 27 => v = vv p0 q0 r0 | 28 => v = .pointer (some ⟨pb, 0, none⟩) | 29 => v = .pointer (some ⟨pb, 0, none⟩) | 30 => v = .pointer (some ⟨pb, 0, none⟩) | 31 => v = .slice (some ⟨pab, pao, none⟩) pl pc | 32 => v = .slice (some ⟨tb, to, none⟩) 4 q | 33 => v = .pointer (some ⟨tb, to + 1, none⟩) | 34 => v = .int .i64 (m1 : Int) | 35 => v = .pointer (some ⟨pab, pao + m1 * 3, none⟩) | 36 => v = vv p1 q1 r1 | 37 => ∃ p q r, v = vv p q r ∧ F3 p q r (plusC (cs.getD m0 c0) (cs.getD m1 c0)) | 38 => ∃ p q r, v = vv p q r ∧ F3 p q r (lessC (plusC (cs.getD m2 c0) (cs.getD m3 c0)) (plusC (cs.getD m0 c0) (cs.getD m1 c0))) | _ => True) (T := fun _ w' => TV (w.heap.size) (lessC (plusC (cs.getD m2 c0) (cs.getD m3 c0)) (plusC (cs.getD m0 c0) (cs.getD m1 c0))) w') [false, false, false, false, false, true, true, true, true, true, true, true, true, true, true, true, true, true, true, true, true, true, true, true, true, true, true, true, true, true, true, true, true, true, true, true, true, true, true, true, true, true, true, true]
  (by kernel_rfl) (by kernel_rfl) (by kernel_rfl) (fun _ _ _ _ _ _ h => h) (fun _ _ _ _ hG hT => hG hT) (Frm.drewN FR.out 1) ?_ ?_
 ·refine ⟨Reg2.Obl.mk ?_, Reg2.Obl.mk ?_, Reg2.Obl.mk ?_, Reg2.Obl.mk ?_, Reg2.Obl.mk ?_, Reg2.Obl.mk ?_, Reg2.Obl.mk ?_, Reg2.Obl.mk ?_, Reg2.Obl.mk ?_, Reg2.Obl.mk ?_, Reg2.Obl.mk ?_, Reg2.Obl.mk ?_, Reg2.Obl.mk ?_, Reg2.Obl.mk ?_, Reg2.Obl.mk ?_, Reg2.Obl.mk ?_, Reg2.Obl.mk ?_, Reg2.Obl.mk ?_, Reg2.Obl.mk ?_, Reg2.Obl.mk ?_, Reg2.Obl.mk ?_, Reg2.Obl.mk ?_, Reg2.Obl.mk ?_, Reg2.Obl.mk ?_, Reg2.Obl.mk ?_, Reg2.Obl.mk ?_, Reg2.Obl.mk ?_, Reg2.Obl.mk ?_, Reg2.Obl.mk ?_, Reg2.Obl.mk ?_, Reg2.Obl.mk ?_, Reg2.Obl.mk ?_, Reg2.Obl.mk ?_, Reg2.Obl.mk ?_, Reg2.Obl.mk ?_, Reg2.Obl.mk ?_, Reg2.Obl.mk ?_, Reg2.Obl.mk ?_, Reg2.Obl.mk ?_, Reg2.Obl.mk ?_, trivial⟩
  ·rintro a w1 HC hx hd K hK
   replace HC := Lib.hid HC
   have t0 : a.tmps[0]?.getD undef = .pointer (some ⟨pb, 0, none⟩) := Reg.slot_val (hx 0 (by kernel_rfl))
   go_simp
   exact hK _ _ (fun _ => rfl) (fun h => by cases h) HC.out (fun h => h)
  ·rintro a w1 HC hx hd K hK
   replace HC := Lib.hid HC
   have t5 : a.tmps[5]?.getD undef = .pointer (some ⟨pb, 0, none⟩) := Reg.slot_val (hd 0 (by kernel_rfl) 5 rfl)
   go_simp
   exact hK _ _ (fun _ => rfl) (fun h => by cases h) HC.out (fun h => h)
  ·rintro a w1 HC hx hd K hK
   replace HC := Lib.hid HC
   have t6 : a.tmps[6]?.getD undef = .pointer (some ⟨pb, 0, none⟩) := Reg.slot_val (hd 1 (by kernel_rfl) 6 rfl)
   go_simp
   exact hK _ _ (fun _ => rfl) (fun h => by cases h) HC.out (fun h => h)
  ·rintro a w1 HC hx hd K hK
   replace HC := Lib.hid HC
   have y9 := cell_below HC.out.bel A0.out
   have t7 : a.tmps[7]?.getD undef = .pointer (some ⟨pb, 0, none⟩) := Reg.slot_val (hd 2 (by kernel_rfl) 7 rfl)
   go_simp
   exact hK _ _ (fun _ => rfl) (fun h => by cases h) HC.out (fun h => h)
  ·rintro a w1 HC hx hd K hK
   replace HC := Lib.hid HC
   have t1 : a.tmps[1]?.getD undef = .slice (some ⟨tb, to, none⟩) 4 q := Reg.slot_val (hx 1 (by kernel_rfl))
   go_simp
   exact hK _ _ (fun _ => rfl) (fun h => by cases h) HC.out (fun h => h)
  ·rintro a w1 HC hx hd K hK
   replace HC := Lib.hid HC
   have t9 : a.tmps[9]?.getD undef = .slice (some ⟨tb, to, none⟩) 4 q := Reg.slot_val (hd 4 (by kernel_rfl) 9 rfl)
   go_simp
   exact hK _ _ (fun _ => rfl) (fun h => by cases h) HC.out (fun h => h)
  ·rintro a w1 HC hx hd K hK
   replace HC := Lib.hid HC
   have z2 := cell_below HC.out.bel R2.out
   have t10 : a.tmps[10]?.getD undef = .pointer (some ⟨tb, to + 2, none⟩) := Reg.slot_val (hd 5 (by kernel_rfl) 10 rfl)
   go_simp
   exact hK _ _ (fun _ => rfl) (fun h => by cases h) HC.out (fun h => h)
  ·rintro a w1 HC hx hd K hK
   replace HC := Lib.hid HC
   have t8 : a.tmps[8]?.getD undef = .slice (some ⟨pab, pao, none⟩) pl pc := Reg.slot_val (hd 3 (by kernel_rfl) 8 rfl)
   have t11 : a.tmps[11]?.getD undef = .int .i64 (m2 : Int) := Reg.slot_val (hd 6 (by kernel_rfl) 11 rfl)
   go_simp
   exact hK _ _ (fun _ => rfl) (fun h => by cases h) HC.out (fun h => h)
  ·rintro a w1 HC hx hd K hK
   replace HC := Lib.hid HC
   have y0 := cell_below HC.out.bel D2.out.1
   have y1 := cell_below HC.out.bel D2.out.2.1
   have y2 := cell_below HC.out.bel D2.out.2.2
   have t12 : a.tmps[12]?.getD undef = .pointer (some ⟨pab, pao + m2 * 3, none⟩) := Reg.slot_val (hd 7 (by kernel_rfl) 12 rfl)
   go_simp
   exact hK _ _ (fun _ => rfl) (fun h => by cases h) HC.out (fun h => h)
  ·rintro a w1 HC hx hd K hK
   replace HC := Lib.hid HC
   have t0 : a.tmps[0]?.getD undef = .pointer (some ⟨pb, 0, none⟩) := Reg.slot_val (hx 0 (by kernel_rfl))
   go_simp
   exact hK _ _ (fun _ => rfl) (fun h => by cases h) HC.out (fun h => h)
  ·rintro a w1 HC hx hd K hK
   replace HC := Lib.hid HC
   have t14 : a.tmps[14]?.getD undef = .pointer (some ⟨pb, 0, none⟩) := Reg.slot_val (hd 9 (by kernel_rfl) 14 rfl)
   go_simp
   exact hK _ _ (fun _ => rfl) (fun h => by cases h) HC.out (fun h => h)
  ·rintro a w1 HC hx hd K hK
   replace HC := Lib.hid HC
   have t15 : a.tmps[15]?.getD undef = .pointer (some ⟨pb, 0, none⟩) := Reg.slot_val (hd 10 (by kernel_rfl) 15 rfl)
   go_simp
   exact hK _ _ (fun _ => rfl) (fun h => by cases h) HC.out (fun h => h)
  ·rintro a w1 HC hx hd K hK
   replace HC := Lib.hid HC
   have y9 := cell_below HC.out.bel A0.out
   have t16 : a.tmps[16]?.getD undef = .pointer (some ⟨pb, 0, none⟩) := Reg.slot_val (hd 11 (by kernel_rfl) 16 rfl)
   go_simp
   exact hK _ _ (fun _ => rfl) (fun h => by cases h) HC.out (fun h => h)
  ·rintro a w1 HC hx hd K hK
   replace HC := Lib.hid HC
   have t1 : a.tmps[1]?.getD undef = .slice (some ⟨tb, to, none⟩) 4 q := Reg.slot_val (hx 1 (by kernel_rfl))
   go_simp
   exact hK _ _ (fun _ => rfl) (fun h => by cases h) HC.out (fun h => h)
  ·rintro a w1 HC hx hd K hK
   replace HC := Lib.hid HC
   have t18 : a.tmps[18]?.getD undef = .slice (some ⟨tb, to, none⟩) 4 q := Reg.slot_val (hd 13 (by kernel_rfl) 18 rfl)
   go_simp
   exact hK _ _ (fun _ => rfl) (fun h => by cases h) HC.out (fun h => h)
  ·rintro a w1 HC hx hd K hK
   replace HC := Lib.hid HC
   have z3 := cell_below HC.out.bel R3.out
   have t19 : a.tmps[19]?.getD undef = .pointer (some ⟨tb, to + 3, none⟩) := Reg.slot_val (hd 14 (by kernel_rfl) 19 rfl)
   go_simp
   exact hK _ _ (fun _ => rfl) (fun h => by cases h) HC.out (fun h => h)
  ·rintro a w1 HC hx hd K hK
   replace HC := Lib.hid HC
   have t17 : a.tmps[17]?.getD undef = .slice (some ⟨pab, pao, none⟩) pl pc := Reg.slot_val (hd 12 (by kernel_rfl) 17 rfl)
   have t20 : a.tmps[20]?.getD undef = .int .i64 (m3 : Int) := Reg.slot_val (hd 15 (by kernel_rfl) 20 rfl)
   go_simp
   exact hK _ _ (fun _ => rfl) (fun h => by cases h) HC.out (fun h => h)
  ·rintro a w1 HC hx hd K hK
   replace HC := Lib.hid HC
   have y0 := cell_below HC.out.bel D3.out.1
   have y1 := cell_below HC.out.bel D3.out.2.1
   have y2 := cell_below HC.out.bel D3.out.2.2
   have t21 : a.tmps[21]?.getD undef = .pointer (some ⟨pab, pao + m3 * 3, none⟩) := Reg.slot_val (hd 16 (by kernel_rfl) 21 rfl)
   go_simp
   exact hK _ _ (fun _ => rfl) (fun h => by cases h) HC.out (fun h => h)
  ·rintro a w1 HC hx hd K hK
   replace HC := Lib.hid HC
   have t13 : a.tmps[13]?.getD undef = vv p2 q2 r2 := Reg.slot_val (hd 8 (by kernel_rfl) 13 rfl)
   have t22 : a.tmps[22]?.getD undef = vv p3 q3 r3 := Reg.slot_val (hd 17 (by kernel_rfl) 22 rfl)
   go_simp
   refine (l01Add _ _ _ _ _ _ _ _ _ _ _ _ _ F2'.out.1 F2'.out.2.1 F2'.out.2.2 F3'.out.1 F3'.out.2.1 F3'.out.2.2).mono ?_
   rintro en w2 ⟨p', q', r', rfl, fp', fq', fr', hB2⟩
   exact hK _ _ (fun _ => ⟨p', q', r', rfl, fp', fq', fr'⟩) (fun h => by cases h) (HC.out.call hB2) (TV.call hB2)
  ·rintro a w1 HC hx hd K hK
   replace HC := Lib.hid HC
   have t0 : a.tmps[0]?.getD undef = .pointer (some ⟨pb, 0, none⟩) := Reg.slot_val (hx 0 (by kernel_rfl))
   go_simp
   exact hK _ _ (fun _ => rfl) (fun h => by cases h) HC.out (fun h => h)
  ·rintro a w1 HC hx hd K hK
   replace HC := Lib.hid HC
   have t24 : a.tmps[24]?.getD undef = .pointer (some ⟨pb, 0, none⟩) := Reg.slot_val (hd 19 (by kernel_rfl) 24 rfl)
   go_simp
   exact hK _ _ (fun _ => rfl) (fun h => by cases h) HC.out (fun h => h)
  ·rintro a w1 HC hx hd K hK
   replace HC := Lib.hid HC
   have t25 : a.tmps[25]?.getD undef = .pointer (some ⟨pb, 0, none⟩) := Reg.slot_val (hd 20 (by kernel_rfl) 25 rfl)
   go_simp
   exact hK _ _ (fun _ => rfl) (fun h => by cases h) HC.out (fun h => h)
  ·rintro a w1 HC hx hd K hK
   replace HC := Lib.hid HC
   have y9 := cell_below HC.out.bel A0.out
   have t26 : a.tmps[26]?.getD undef = .pointer (some ⟨pb, 0, none⟩) := Reg.slot_val (hd 21 (by kernel_rfl) 26 rfl)
   go_simp
   exact hK _ _ (fun _ => rfl) (fun h => by cases h) HC.out (fun h => h)
  ·rintro a w1 HC hx hd K hK
   replace HC := Lib.hid HC
   have t1 : a.tmps[1]?.getD undef = .slice (some ⟨tb, to, none⟩) 4 q := Reg.slot_val (hx 1 (by kernel_rfl))
   go_simp
   exact hK _ _ (fun _ => rfl) (fun h => by cases h) HC.out (fun h => h)
  ·rintro a w1 HC hx hd K hK
   replace HC := Lib.hid HC
   have t28 : a.tmps[28]?.getD undef = .slice (some ⟨tb, to, none⟩) 4 q := Reg.slot_val (hd 23 (by kernel_rfl) 28 rfl)
   go_simp
   exact hK _ _ (fun _ => rfl) (fun h => by cases h) HC.out (fun h => h)
  ·rintro a w1 HC hx hd K hK
   replace HC := Lib.hid HC
   have z0 := cell_below HC.out.bel R0.out
   have t29 : a.tmps[29]?.getD undef = .pointer (some ⟨tb, to, none⟩) := Reg.slot_val (hd 24 (by kernel_rfl) 29 rfl)
   go_simp
   exact hK _ _ (fun _ => rfl) (fun h => by cases h) HC.out (fun h => h)
  ·rintro a w1 HC hx hd K hK
   replace HC := Lib.hid HC
   have t27 : a.tmps[27]?.getD undef = .slice (some ⟨pab, pao, none⟩) pl pc := Reg.slot_val (hd 22 (by kernel_rfl) 27 rfl)
   have t30 : a.tmps[30]?.getD undef = .int .i64 (m0 : Int) := Reg.slot_val (hd 25 (by kernel_rfl) 30 rfl)
   go_simp
   exact hK _ _ (fun _ => rfl) (fun h => by cases h) HC.out (fun h => h)
  ·rintro a w1 HC hx hd K hK
   replace HC := Lib.hid HC
   have y0 := cell_below HC.out.bel D0.out.1
   have y1 := cell_below HC.out.bel D0.out.2.1
   have y2 := cell_below HC.out.bel D0.out.2.2
   have t31 : a.tmps[31]?.getD undef = .pointer (some ⟨pab, pao + m0 * 3, none⟩) := Reg.slot_val (hd 26 (by kernel_rfl) 31 rfl)
   go_simp
   exact hK _ _ (fun _ => rfl) (fun h => by cases h) HC.out (fun h => h)
  ·rintro a w1 HC hx hd K hK
   replace HC := Lib.hid HC
   have t0 : a.tmps[0]?.getD undef = .pointer (some ⟨pb, 0, none⟩) := Reg.slot_val (hx 0 (by kernel_rfl))
   go_simp
   exact hK _ _ (fun _ => rfl) (fun h => by cases h) HC.out (fun h => h)
  ·rintro a w1 HC hx hd K hK
   replace HC := Lib.hid HC
   have t33 : a.tmps[33]?.getD undef = .pointer (some ⟨pb, 0, none⟩) := Reg.slot_val (hd 28 (by kernel_rfl) 33 rfl)
   go_simp
   exact hK _ _ (fun _ => rfl) (fun h => by cases h) HC.out (fun h => h)
  ·rintro a w1 HC hx hd K hK
   replace HC := Lib.hid HC
   have t34 : a.tmps[34]?.getD undef = .pointer (some ⟨pb, 0, none⟩) := Reg.slot_val (hd 29 (by kernel_rfl) 34 rfl)
   go_simp
   exact hK _ _ (fun _ => rfl) (fun h => by cases h) HC.out (fun h => h)
  ·rintro a w1 HC hx hd K hK
   replace HC := Lib.hid HC
   have y9 := cell_below HC.out.bel A0.out
   have t35 : a.tmps[35]?.getD undef = .pointer (some ⟨pb, 0, none⟩) := Reg.slot_val (hd 30 (by kernel_rfl) 35 rfl)
   go_simp
   exact hK _ _ (fun _ => rfl) (fun h => by cases h) HC.out (fun h => h)
  ·rintro a w1 HC hx hd K hK
   replace HC := Lib.hid HC
   have t1 : a.tmps[1]?.getD undef = .slice (some ⟨tb, to, none⟩) 4 q := Reg.slot_val (hx 1 (by kernel_rfl))
   go_simp
   exact hK _ _ (fun _ => rfl) (fun h => by cases h) HC.out (fun h => h)
  ·rintro a w1 HC hx hd K hK
   replace HC := Lib.hid HC
   have t37 : a.tmps[37]?.getD undef = .slice (some ⟨tb, to, none⟩) 4 q := Reg.slot_val (hd 32 (by kernel_rfl) 37 rfl)
   go_simp
   exact hK _ _ (fun _ => rfl) (fun h => by cases h) HC.out (fun h => h)
  ·rintro a w1 HC hx hd K hK
   replace HC := Lib.hid HC
   have z1 := cell_below HC.out.bel R1.out
   have t38 : a.tmps[38]?.getD undef = .pointer (some ⟨tb, to + 1, none⟩) := Reg.slot_val (hd 33 (by kernel_rfl) 38 rfl)
   go_simp
   exact hK _ _ (fun _ => rfl) (fun h => by cases h) HC.out (fun h => h)
  ·rintro a w1 HC hx hd K hK
   replace HC := Lib.hid HC
   have t36 : a.tmps[36]?.getD undef = .slice (some ⟨pab, pao, none⟩) pl pc := Reg.slot_val (hd 31 (by kernel_rfl) 36 rfl)
   have t39 : a.tmps[39]?.getD undef = .int .i64 (m1 : Int) := Reg.slot_val (hd 34 (by kernel_rfl) 39 rfl)
   go_simp
   exact hK _ _ (fun _ => rfl) (fun h => by cases h) HC.out (fun h => h)
  ·rintro a w1 HC hx hd K hK
   replace HC := Lib.hid HC
   have y0 := cell_below HC.out.bel D1.out.1
   have y1 := cell_below HC.out.bel D1.out.2.1
   have y2 := cell_below HC.out.bel D1.out.2.2
   have t40 : a.tmps[40]?.getD undef = .pointer (some ⟨pab, pao + m1 * 3, none⟩) := Reg.slot_val (hd 35 (by kernel_rfl) 40 rfl)
   go_simp
   exact hK _ _ (fun _ => rfl) (fun h => by cases h) HC.out (fun h => h)
  ·rintro a w1 HC hx hd K hK
   replace HC := Lib.hid HC
   have t32 : a.tmps[32]?.getD undef = vv p0 q0 r0 := Reg.slot_val (hd 27 (by kernel_rfl) 32 rfl)
   have t41 : a.tmps[41]?.getD undef = vv p1 q1 r1 := Reg.slot_val (hd 36 (by kernel_rfl) 41 rfl)
   go_simp
   refine (l01Add _ _ _ _ _ _ _ _ _ _ _ _ _ F0'.out.1 F0'.out.2.1 F0'.out.2.2 F1'.out.1 F1'.out.2.1 F1'.out.2.2).mono ?_
   rintro en w2 ⟨p', q', r', rfl, fp', fq', fr', hB2⟩
   exact hK _ _ (fun _ => ⟨p', q', r', rfl, fp', fq', fr'⟩) (fun h => by cases h) (HC.out.call hB2) (TV.call hB2)
  ·rintro a w1 HC hx hd K hK
   replace HC := Lib.hid HC
   obtain ⟨p23, q23, r23, g23, f23⟩ := hd 18 (by kernel_rfl) 23 rfl
   have t23 := Reg.slot_val g23
   clear g23
   obtain ⟨p42, q42, r42, g42, f42⟩ := hd 37 (by kernel_rfl) 42 rfl
   have t42 := Reg.slot_val g42
   clear g42
   go_simp
   refine (l01Less _ _ _ _ _ _ _ _ _ _ _ _ _ f23.1 f23.2.1 f23.2.2 f42.1 f42.2.1 f42.2.2).mono ?_
   rintro en w2 ⟨p', q', r', rfl, fp', fq', fr', hB2⟩
   exact hK _ _ (fun _ => ⟨p', q', r', rfl, fp', fq', fr'⟩) (fun h => by cases h) (HC.out.call hB2) (TV.call hB2)
  ·rintro a w1 HC hx hd K hK
   replace HC := Lib.hid HC
   have t4 : a.tmps[4]?.getD undef = .pointer (some ⟨w.heap.size, 0, none⟩) := Reg.slot_val (hx 4 (by kernel_rfl))
   obtain ⟨p43, q43, r43, g43, f43⟩ := hd 38 (by kernel_rfl) 43 rfl
   have t43 := Reg.slot_val g43
   clear g43
   obtain ⟨u0, u1, u2, x0, x1, x2⟩ := HC.out.cells
   have k0 := HC.out.free 0
   have k1 := HC.out.free 1
   have k2 := HC.out.free 2
   go_simp
   exact hK undef _ (fun h => absurd rfl h) (fun _ => TV.put HC.out f43) (HC.out.put _ _ _) (fun _ => TV.put HC.out f43)
 ·rintro f w1 hC hd' hT
  obtain ⟨x, y, z, ⟨x0, x1, x2⟩, hf⟩ := hT 39 rfl (by decide)
  simp only [Reg.mixL]
  have HC := Lib.hid hC
  clear hC hd' hT
  go_wp2
  refine bodyPost_ret (v := vv x y z) (by simp [results, Tryz.results169, go_sem, x0, x1, x2]) rfl ⟨x, y, z, rfl, hf, HC.out.bel⟩
set_option maxHeartbeats 4000000 in
theorem l03Normal (pb tb to q : Nat) (m0 m1 m2 : Nat) (pa : Option Addr) (pl pc : Nat) (cs : List C3) (w : World) (a0 : w.cell? ⟨pb, 0, none⟩ = some (.slice pa pl pc)) (r0' : w.cell? ⟨tb, to, none⟩ = some (.int .i64 (m0 : Int))) (r1' : w.cell? ⟨tb, to + 1, none⟩ = some (.int .i64 (m1 : Int))) (r2' : w.cell? ⟨tb, to + 2, none⟩ = some (.int .i64 (m2 : Int))) (h : IsVs w pa pl pc cs) (hm0 : m0 < pl) (hm1 : m1 < pl) (hm2 : m2 < pl) :
  Calls Tryz.prog 165 #[.pointer (some ⟨pb, 0, none⟩), .slice (some ⟨tb, to, none⟩) 3 q] w fun e w' => ∃ x y z, e = .returned (vv x y z) ∧ F3 x y z (crossC (lessC (cs.getD m1 c0) (cs.getD m0 c0)) (lessC (cs.getD m2 c0) (cs.getD m0 c0))) ∧ Below w.heap.size w w' := by
 obtain ⟨pab, pao, rfl, hcell⟩ := h.some (by omega)
 have u := Tryz.underlying27
 have um := Tryz.underlying40
 have uv := Tryz.underlying42
 have hmx : pl ≤ 9223372036854775807 := by have h1 := h.2.1; have h2 := h.2.2.1; unfold maxLen at h2; omega
 have A0 := Lib.hid a0
 have R0 := Lib.hid r0'
 have R1 := Lib.hid r1'
 have R2 := Lib.hid r2'
 obtain ⟨p0, q0, r0, i00, i01, i02, f0⟩ := hcell m0 hm0
 have D0 := Lib.hid (And.intro i00 (And.intro i01 i02))
 have F0' := Lib.hid f0
 have g00 : (0 : Int) ≤ (m0 : Int) := by omega
 have g01 : (m0 : Int) < (pl : Int) := by omega
 obtain ⟨p1, q1, r1, i10, i11, i12, f1⟩ := hcell m1 hm1
 have D1 := Lib.hid (And.intro i10 (And.intro i11 i12))
 have F1' := Lib.hid f1
 have g10 : (0 : Int) ≤ (m1 : Int) := by omega
 have g11 : (m1 : Int) < (pl : Int) := by omega
 obtain ⟨p2, q2, r2, i20, i21, i22, f2⟩ := hcell m2 hm2
 have D2 := Lib.hid (And.intro i20 (And.intro i21 i22))
 have F2' := Lib.hid f2
 have g20 : (0 : Int) ≤ (m2 : Int) := by omega
 have g21 : (m2 : Int) < (pl : Int) := by omega
 clear a0 h hcell r0' i00 i01 i02 f0 r1' i10 i11 i12 f1 r2' i20 i21 i22 f2
 have FR : Hid (Frm w [] w.heap.size (w.alloc (.cells #[.float .f32 0, .float .f32 0, .float .f32 0] 42))) := Lib.hid ⟨(Below.refl _ _).alloc (Nat.le_refl _) _, fun b l hm => (by cases hm), Nat.le_refl _, ⟨.float .f32 0, .float .f32 0, .float .f32 0, by go_simp, by go_simp, by go_simp⟩, fun i => by go_simp⟩
 have HW0 : Hid ((w.alloc (.cells #[.float .f32 0, .float .f32 0, .float .f32 0] 42)).heap.size = w.heap.size + 1) := Lib.hid (by simp)
 go_enter Tryz.func165, Tryz.ntmps165
 go_wp2_with fail
 generalize (w.alloc (.cells #[.float .f32 0, .float .f32 0, .float .f32 0] 42)) = W at *
 refine Reg5.wp_region_mix (m := 10) (C := fun w' => Below W.heap.size W w') (D := fun _ => True) (G := fun w1 w2 => Below w1.heap.size w1 w2) (G' := fun _ _ => True)
  (R := fun i v w' => match i with | 0 => v = .pointer (some ⟨pb, 0, none⟩) | 1 => v = .pointer (some ⟨pb, 0, none⟩) | 2 => v = .pointer (some ⟨pb, 0, none⟩) | 3 => v = .slice (some ⟨pab, pao, none⟩) pl pc | 4 => v = .slice (some ⟨tb, to, none⟩) 3 q | 5 => v = .pointer (some ⟨tb, to, none⟩) | 6 => v = .int .i64 (m0 : Int) | 7 => v = .pointer (some ⟨pab, pao + m0 * 3, none⟩) | 8 => v = vv p0 q0 r0 | 9 => ∃ b, v = .pointer (some ⟨b, 0, none⟩) ∧ W.heap.size ≤ b ∧ b < w'.heap.size ∧ At w' b [.float .f32 0, .float .f32 0, .float .f32 0] ∧ Fr w' b | _ => True)
  (T := fun _ a w' => ∃ b, a.tmps[5]?.getD undef = .pointer (some ⟨b, 0, none⟩) ∧ W.heap.size ≤ b ∧ b < w'.heap.size ∧ At w' b [.float .f32 p0, .float .f32 q0, .float .f32 r0] ∧ Below W.heap.size W w') [false, false, false, false, false, true, true, true, true, true, true, true, true, true, true, false, false, false, false, false, false, false, false, false, false, false, false, false, false, false, false, false, false, false, false, false, false, false]
  (by kernel_rfl) (by kernel_rfl) (by kernel_rfl) (by kernel_rfl) ?_ ?_ (below_drewN (Below.refl _ _) 1) ?_ ?_
 ·intro j v wa wb hj _ hG hR
  match j with
  | 0 => exact hR
  | 1 => exact hR
  | 2 => exact hR
  | 3 => exact hR
  | 4 => exact hR
  | 5 => exact hR
  | 6 => exact hR
  | 7 => exact hR
  | 8 => exact hR
  | 9 => obtain ⟨b, e, h1, h2, h3, h4⟩ := hR; exact ⟨b, e, h1, Nat.lt_of_lt_of_le h2 hG.size, h3.below hG, h4.below hG h2⟩
  | _ + 10 => exact absurd hj (by omega)
 ·intro j v wa wb hj _ _ _
  match j, hj with
  | 0, hj => exact absurd hj (by omega)
  | 1, hj => exact absurd hj (by omega)
  | 2, hj => exact absurd hj (by omega)
  | 3, hj => exact absurd hj (by omega)
  | 4, hj => exact absurd hj (by omega)
  | 5, hj => exact absurd hj (by omega)
  | 6, hj => exact absurd hj (by omega)
  | 7, hj => exact absurd hj (by omega)
  | 8, hj => exact absurd hj (by omega)
  | 9, hj => exact absurd hj (by omega)
  | _ + 10, _ => trivial
 ·refine ⟨Reg5.Obl.early rfl rfl ?_, Reg5.Obl.early rfl rfl ?_, Reg5.Obl.early rfl rfl ?_, Reg5.Obl.early rfl rfl ?_, Reg5.Obl.early rfl rfl ?_, Reg5.Obl.early rfl rfl ?_, Reg5.Obl.early rfl rfl ?_, Reg5.Obl.early rfl rfl ?_, Reg5.Obl.early rfl rfl ?_, Reg5.Obl.early rfl rfl ?_, Reg5.Obl.fin rfl rfl ?_, trivial⟩
  ·rintro a w1 HC hx hd K hK
   replace HC := Lib.hid HC
   have t0 : a.tmps[0]?.getD undef = .pointer (some ⟨pb, 0, none⟩) := Reg.slot_val (hx 0 (by kernel_rfl))
   go_simp
   exact hK _ _ rfl HC.out (Below.refl _ _)
  ·rintro a w1 HC hx hd K hK
   replace HC := Lib.hid HC
   have t6 : a.tmps[6]?.getD undef = .pointer (some ⟨pb, 0, none⟩) := Reg.slot_val (hd 0 (by kernel_rfl) 6 rfl)
   go_simp
   exact hK _ _ rfl HC.out (Below.refl _ _)
  ·rintro a w1 HC hx hd K hK
   replace HC := Lib.hid HC
   have t7 : a.tmps[7]?.getD undef = .pointer (some ⟨pb, 0, none⟩) := Reg.slot_val (hd 1 (by kernel_rfl) 7 rfl)
   go_simp
   exact hK _ _ rfl HC.out (Below.refl _ _)
  ·rintro a w1 HC hx hd K hK
   replace HC := Lib.hid HC
   have t8 : a.tmps[8]?.getD undef = .pointer (some ⟨pb, 0, none⟩) := Reg.slot_val (hd 2 (by kernel_rfl) 8 rfl)
   have y9 := cell_below (FR.out.bel.trans (HC.out.mono FR.out.bel.size)) A0.out
   go_simp
   exact hK _ _ rfl HC.out (Below.refl _ _)
  ·rintro a w1 HC hx hd K hK
   replace HC := Lib.hid HC
   have t1 : a.tmps[1]?.getD undef = .slice (some ⟨tb, to, none⟩) 3 q := Reg.slot_val (hx 1 (by kernel_rfl))
   go_simp
   exact hK _ _ rfl HC.out (Below.refl _ _)
  ·rintro a w1 HC hx hd K hK
   replace HC := Lib.hid HC
   have t10 : a.tmps[10]?.getD undef = .slice (some ⟨tb, to, none⟩) 3 q := Reg.slot_val (hd 4 (by kernel_rfl) 10 rfl)
   go_simp
   exact hK _ _ rfl HC.out (Below.refl _ _)
  ·rintro a w1 HC hx hd K hK
   replace HC := Lib.hid HC
   have t11 : a.tmps[11]?.getD undef = .pointer (some ⟨tb, to, none⟩) := Reg.slot_val (hd 5 (by kernel_rfl) 11 rfl)
   have z0 := cell_below (FR.out.bel.trans (HC.out.mono FR.out.bel.size)) R0.out
   go_simp
   exact hK _ _ rfl HC.out (Below.refl _ _)
  ·rintro a w1 HC hx hd K hK
   replace HC := Lib.hid HC
   have t9 : a.tmps[9]?.getD undef = .slice (some ⟨pab, pao, none⟩) pl pc := Reg.slot_val (hd 3 (by kernel_rfl) 9 rfl)
   have t12 : a.tmps[12]?.getD undef = .int .i64 (m0 : Int) := Reg.slot_val (hd 6 (by kernel_rfl) 12 rfl)
   go_simp
   exact hK _ _ rfl HC.out (Below.refl _ _)
  ·rintro a w1 HC hx hd K hK
   replace HC := Lib.hid HC
   have t13 : a.tmps[13]?.getD undef = .pointer (some ⟨pab, pao + m0 * 3, none⟩) := Reg.slot_val (hd 7 (by kernel_rfl) 13 rfl)
   have y0 := cell_below (FR.out.bel.trans (HC.out.mono FR.out.bel.size)) D0.out.1
   have y1 := cell_below (FR.out.bel.trans (HC.out.mono FR.out.bel.size)) D0.out.2.1
   have y2 := cell_below (FR.out.bel.trans (HC.out.mono FR.out.bel.size)) D0.out.2.2
   go_simp
   exact hK _ _ rfl HC.out (Below.refl _ _)
  ·rintro a w1 HC hx hd K hK
   replace HC := Lib.hid HC
   go_simp
   have hB2 : Below w1.heap.size w1 (w1.alloc (.cells #[.float .f32 0, .float .f32 0, .float .f32 0] 42)) := (Below.refl _ _).alloc (Nat.le_refl _) _
   exact hK _ _ ⟨w1.heap.size, rfl, HC.out.size, by simp, At.new, Fr.new⟩ (HC.out.trans (hB2.mono HC.out.size)) hB2
  ·rintro a w1 HC hx hd K hK
   replace HC := Lib.hid HC
   have t14 : a.tmps[14]?.getD undef = vv p0 q0 r0 := Reg.slot_val (hd 8 (by kernel_rfl) 14 rfl)
   obtain ⟨b, g5, h1, h2, h3, h4⟩ := hd 9 (by kernel_rfl) 5 rfl
   have t5 := Reg.slot_val g5
   clear g5
   have HB4 := Lib.hid (And.intro h1 h2)
   have z0 := h3 0 _ rfl
   have z1 := h3 1 _ rfl
   have z2 := h3 2 _ rfl
   have k0 := h4 0
   have k1 := h4 1
   have k2 := h4 2
   have hR := at_setL (vs := [.float .f32 p0, .float .f32 q0, .float .f32 r0]) (o := 0) h3 (Nat.le_of_ble_eq_true rfl)
   have hBB := setL_below b h1 [.float .f32 p0, .float .f32 q0, .float .f32 r0] _ 0 HC.out
   simp only [setL, Nat.zero_add, Nat.reduceAdd] at hR hBB
   have HR := Lib.hid hR
   have HBB := Lib.hid hBB
   clear hR hBB h1 h2 h3 h4
   go_simp
   exact hK undef _ ⟨b, t5, HB4.out.1, by simpa using HB4.out.2, HR.out, HBB.out⟩
 ·rintro f W1 hR hT
  obtain ⟨V, e5, h1, h2, h3, h4⟩ := hT 10 rfl (Nat.le_of_ble_eq_true rfl)
  have g5 : f 5 = .pointer (some ⟨V, 0, none⟩) := e5
  simp only [Reg.mixL, Nat.zero_add, Nat.reduceAdd, g5]
  have FR1 : Hid (Frm w [(V, [.float .f32 p0, .float .f32 q0, .float .f32 r0])] w.heap.size W1) := Lib.hid (by
   have k := FR.out.call h4
   refine ⟨k.1, fun b l hm => ?_, k.2.2⟩
   rcases List.mem_cons.1 hm with e | hm
   ·cases e
    exact ⟨h3, by have := HW0.out; omega⟩
   ·cases hm)
  clear hR hT e5 h1 h2 h3 h4 g5
  go_wp2_with fail
  refine Reg2.wp_region_mix (C := Frm w [(V, [.float .f32 p0, .float .f32 q0, .float .f32 r0])] (w.heap.size)) (G := fun w1 w2 => TV (w.heap.size) (crossC (lessC (cs.getD m1 c0) (cs.getD m0 c0)) (lessC (cs.getD m2 c0) (cs.getD m0 c0))) w1 → TV (w.heap.size) (crossC (lessC (cs.getD m1 c0) (cs.getD m0 c0)) (lessC (cs.getD m2 c0) (cs.getD m0 c0))) w2) (R := fun i v w' => match i with | 0 => v = .pointer (some ⟨pb, 0, none⟩) | 1 => v = .pointer (some ⟨pb, 0, none⟩) | 2 => v = .pointer (some ⟨pb, 0, none⟩) | 3 => v = .slice (some ⟨pab, pao, none⟩) pl pc | 4 => v = .slice (some ⟨tb, to, none⟩) 3 q | 5 => v = .pointer (some ⟨tb, to + 1, none⟩) | 6 => v = .int .i64 (m1 : Int) | 7 => v = .pointer (some ⟨pab, pao + m1 * 3, none⟩) | 8 => v = vv p1 q1 r1 | 9 => v = vv p0 q0 r0 | 10 => ∃ p q r, v = vv p q r ∧ F3 p q r (lessC (cs.getD m1 c0) (cs.getD m0 c0)) | 11 => v = .pointer (some ⟨pb, 0, none⟩) | 12 => v = .pointer (some ⟨pb, 0, none⟩) | 13 => v = .pointer (some ⟨pb, 0, none⟩) | 14 => v = .slice (some ⟨pab, pao, none⟩) pl pc | 15 => v = .slice (some ⟨tb, to, none⟩) 3 q | 16 => v = .pointer (some ⟨tb, to + 2, none⟩) | 17 => v = .int .i64 (m2 : Int) | 18 => v = .pointer (some ⟨pab, pao + m2 * 3, none⟩) | 19 => v = vv p2 q2 r2 | 20 => v = vv p0 q0 r0 | 21 => ∃ p q r, v = vv p q r ∧ F3 p q r (lessC (cs.getD m2 c0) (cs.getD m0 c0)) | 22 => ∃ p q r, v = vv p q r ∧ F3 p q r (crossC (lessC (cs.getD m1 c0) (cs.getD m0 c0)) (lessC (cs.getD m2 c0) (cs.getD m0 c0))) | _ => True) (T := fun _ w' => TV (w.heap.size) (crossC (lessC (cs.getD m1 c0) (cs.getD m0 c0)) (lessC (cs.getD m2 c0) (cs.getD m0 c0))) w') [false, false, false, false, false, false, false, false, false, false, false, false, false, false, false, true, true, true, true, true, true, true, true, true, true, true, true, true, true, true, true, true, true, true, true, true, true, true]
   (by kernel_rfl) (by kernel_rfl) (by kernel_rfl) (fun _ _ _ _ _ _ h => h) (fun _ _ _ _ hG hT => hG hT) (Frm.drewN FR1.out 1) ?_ ?_
  ·refine ⟨Reg2.Obl.mk ?_, Reg2.Obl.mk ?_, Reg2.Obl.mk ?_, Reg2.Obl.mk ?_, Reg2.Obl.mk ?_, Reg2.Obl.mk ?_, Reg2.Obl.mk ?_, Reg2.Obl.mk ?_, Reg2.Obl.mk ?_, Reg2.Obl.mk ?_, Reg2.Obl.mk ?_, Reg2.Obl.mk ?_, Reg2.Obl.mk ?_, Reg2.Obl.mk ?_, Reg2.Obl.mk ?_, Reg2.Obl.mk ?_, Reg2.Obl.mk ?_, Reg2.Obl.mk ?_, Reg2.Obl.mk ?_, Reg2.Obl.mk ?_, Reg2.Obl.mk ?_, Reg2.Obl.mk ?_, Reg2.Obl.mk ?_, Reg2.Obl.mk ?_, trivial⟩
   ·rintro a w1 HC hx hd K hK
    replace HC := Lib.hid HC
    have t0 : a.tmps[0]?.getD undef = .pointer (some ⟨pb, 0, none⟩) := Reg.slot_val (hx 0 (by kernel_rfl))
    go_simp
    exact hK _ _ (fun _ => rfl) (fun h => by cases h) HC.out (fun h => h)
   ·rintro a w1 HC hx hd K hK
    replace HC := Lib.hid HC
    have t15 : a.tmps[15]?.getD undef = .pointer (some ⟨pb, 0, none⟩) := Reg.slot_val (hd 0 (by kernel_rfl) 15 rfl)
    go_simp
    exact hK _ _ (fun _ => rfl) (fun h => by cases h) HC.out (fun h => h)
   ·rintro a w1 HC hx hd K hK
    replace HC := Lib.hid HC
    have t16 : a.tmps[16]?.getD undef = .pointer (some ⟨pb, 0, none⟩) := Reg.slot_val (hd 1 (by kernel_rfl) 16 rfl)
    go_simp
    exact hK _ _ (fun _ => rfl) (fun h => by cases h) HC.out (fun h => h)
   ·rintro a w1 HC hx hd K hK
    replace HC := Lib.hid HC
    have y9 := cell_below HC.out.bel A0.out
    have t17 : a.tmps[17]?.getD undef = .pointer (some ⟨pb, 0, none⟩) := Reg.slot_val (hd 2 (by kernel_rfl) 17 rfl)
    go_simp
    exact hK _ _ (fun _ => rfl) (fun h => by cases h) HC.out (fun h => h)
   ·rintro a w1 HC hx hd K hK
    replace HC := Lib.hid HC
    have t1 : a.tmps[1]?.getD undef = .slice (some ⟨tb, to, none⟩) 3 q := Reg.slot_val (hx 1 (by kernel_rfl))
    go_simp
    exact hK _ _ (fun _ => rfl) (fun h => by cases h) HC.out (fun h => h)
   ·rintro a w1 HC hx hd K hK
    replace HC := Lib.hid HC
    have t19 : a.tmps[19]?.getD undef = .slice (some ⟨tb, to, none⟩) 3 q := Reg.slot_val (hd 4 (by kernel_rfl) 19 rfl)
    go_simp
    exact hK _ _ (fun _ => rfl) (fun h => by cases h) HC.out (fun h => h)
   ·rintro a w1 HC hx hd K hK
    replace HC := Lib.hid HC
    have z1 := cell_below HC.out.bel R1.out
    have t20 : a.tmps[20]?.getD undef = .pointer (some ⟨tb, to + 1, none⟩) := Reg.slot_val (hd 5 (by kernel_rfl) 20 rfl)
    go_simp
    exact hK _ _ (fun _ => rfl) (fun h => by cases h) HC.out (fun h => h)
   ·rintro a w1 HC hx hd K hK
    replace HC := Lib.hid HC
    have t18 : a.tmps[18]?.getD undef = .slice (some ⟨pab, pao, none⟩) pl pc := Reg.slot_val (hd 3 (by kernel_rfl) 18 rfl)
    have t21 : a.tmps[21]?.getD undef = .int .i64 (m1 : Int) := Reg.slot_val (hd 6 (by kernel_rfl) 21 rfl)
    go_simp
    exact hK _ _ (fun _ => rfl) (fun h => by cases h) HC.out (fun h => h)
   ·rintro a w1 HC hx hd K hK
    replace HC := Lib.hid HC
    have y0 := cell_below HC.out.bel D1.out.1
    have y1 := cell_below HC.out.bel D1.out.2.1
    have y2 := cell_below HC.out.bel D1.out.2.2
    have t22 : a.tmps[22]?.getD undef = .pointer (some ⟨pab, pao + m1 * 3, none⟩) := Reg.slot_val (hd 7 (by kernel_rfl) 22 rfl)
    go_simp
    exact hK _ _ (fun _ => rfl) (fun h => by cases h) HC.out (fun h => h)
   ·rintro a w1 HC hx hd K hK
    replace HC := Lib.hid HC
    have y0 := (HC.out.mem (.head _)) 0 _ rfl
    have y1 := (HC.out.mem (.head _)) 1 _ rfl
    have y2 := (HC.out.mem (.head _)) 2 _ rfl
    have t5 : a.tmps[5]?.getD undef = .pointer (some ⟨V, 0, none⟩) := Reg.slot_val (hx 5 (by kernel_rfl))
    go_simp
    exact hK _ _ (fun _ => rfl) (fun h => by cases h) HC.out (fun h => h)
   ·rintro a w1 HC hx hd K hK
    replace HC := Lib.hid HC
    have t23 : a.tmps[23]?.getD undef = vv p1 q1 r1 := Reg.slot_val (hd 8 (by kernel_rfl) 23 rfl)
    have t24 : a.tmps[24]?.getD undef = vv p0 q0 r0 := Reg.slot_val (hd 9 (by kernel_rfl) 24 rfl)
    go_simp
    refine (l01Less _ _ _ _ _ _ _ _ _ _ _ _ _ F1'.out.1 F1'.out.2.1 F1'.out.2.2 F0'.out.1 F0'.out.2.1 F0'.out.2.2).mono ?_
    rintro en w2 ⟨p', q', r', rfl, fp', fq', fr', hB2⟩
    exact hK _ _ (fun _ => ⟨p', q', r', rfl, fp', fq', fr'⟩) (fun h => by cases h) (HC.out.call hB2) (TV.call hB2)
   ·rintro a w1 HC hx hd K hK
    replace HC := Lib.hid HC
    have t0 : a.tmps[0]?.getD undef = .pointer (some ⟨pb, 0, none⟩) := Reg.slot_val (hx 0 (by kernel_rfl))
    go_simp
    exact hK _ _ (fun _ => rfl) (fun h => by cases h) HC.out (fun h => h)
   ·rintro a w1 HC hx hd K hK
    replace HC := Lib.hid HC
    have t26 : a.tmps[26]?.getD undef = .pointer (some ⟨pb, 0, none⟩) := Reg.slot_val (hd 11 (by kernel_rfl) 26 rfl)
    go_simp
    exact hK _ _ (fun _ => rfl) (fun h => by cases h) HC.out (fun h => h)
   ·rintro a w1 HC hx hd K hK
    replace HC := Lib.hid HC
    have t27 : a.tmps[27]?.getD undef = .pointer (some ⟨pb, 0, none⟩) := Reg.slot_val (hd 12 (by kernel_rfl) 27 rfl)
    go_simp
    exact hK _ _ (fun _ => rfl) (fun h => by cases h) HC.out (fun h => h)
   ·rintro a w1 HC hx hd K hK
    replace HC := Lib.hid HC
    have y9 := cell_below HC.out.bel A0.out
    have t28 : a.tmps[28]?.getD undef = .pointer (some ⟨pb, 0, none⟩) := Reg.slot_val (hd 13 (by kernel_rfl) 28 rfl)
    go_simp
    exact hK _ _ (fun _ => rfl) (fun h => by cases h) HC.out (fun h => h)
   ·rintro a w1 HC hx hd K hK
    replace HC := Lib.hid HC
    have t1 : a.tmps[1]?.getD undef = .slice (some ⟨tb, to, none⟩) 3 q := Reg.slot_val (hx 1 (by kernel_rfl))
    go_simp
    exact hK _ _ (fun _ => rfl) (fun h => by cases h) HC.out (fun h => h)
   ·rintro a w1 HC hx hd K hK
    replace HC := Lib.hid HC
    have t30 : a.tmps[30]?.getD undef = .slice (some ⟨tb, to, none⟩) 3 q := Reg.slot_val (hd 15 (by kernel_rfl) 30 rfl)
    go_simp
    exact hK _ _ (fun _ => rfl) (fun h => by cases h) HC.out (fun h => h)
   ·rintro a w1 HC hx hd K hK
    replace HC := Lib.hid HC
    have z2 := cell_below HC.out.bel R2.out
    have t31 : a.tmps[31]?.getD undef = .pointer (some ⟨tb, to + 2, none⟩) := Reg.slot_val (hd 16 (by kernel_rfl) 31 rfl)
    go_simp
    exact hK _ _ (fun _ => rfl) (fun h => by cases h) HC.out (fun h => h)
   ·rintro a w1 HC hx hd K hK
    replace HC := Lib.hid HC
    have t29 : a.tmps[29]?.getD undef = .slice (some ⟨pab, pao, none⟩) pl pc := Reg.slot_val (hd 14 (by kernel_rfl) 29 rfl)
    have t32 : a.tmps[32]?.getD undef = .int .i64 (m2 : Int) := Reg.slot_val (hd 17 (by kernel_rfl) 32 rfl)
    go_simp
    exact hK _ _ (fun _ => rfl) (fun h => by cases h) HC.out (fun h => h)
   ·rintro a w1 HC hx hd K hK
    replace HC := Lib.hid HC
    have y0 := cell_below HC.out.bel D2.out.1
    have y1 := cell_below HC.out.bel D2.out.2.1
    have y2 := cell_below HC.out.bel D2.out.2.2
    have t33 : a.tmps[33]?.getD undef = .pointer (some ⟨pab, pao + m2 * 3, none⟩) := Reg.slot_val (hd 18 (by kernel_rfl) 33 rfl)
    go_simp
    exact hK _ _ (fun _ => rfl) (fun h => by cases h) HC.out (fun h => h)
   ·rintro a w1 HC hx hd K hK
    replace HC := Lib.hid HC
    have y0 := (HC.out.mem (.head _)) 0 _ rfl
    have y1 := (HC.out.mem (.head _)) 1 _ rfl
    have y2 := (HC.out.mem (.head _)) 2 _ rfl
    have t5 : a.tmps[5]?.getD undef = .pointer (some ⟨V, 0, none⟩) := Reg.slot_val (hx 5 (by kernel_rfl))
    go_simp
    exact hK _ _ (fun _ => rfl) (fun h => by cases h) HC.out (fun h => h)
   ·rintro a w1 HC hx hd K hK
    replace HC := Lib.hid HC
    have t34 : a.tmps[34]?.getD undef = vv p2 q2 r2 := Reg.slot_val (hd 19 (by kernel_rfl) 34 rfl)
    have t35 : a.tmps[35]?.getD undef = vv p0 q0 r0 := Reg.slot_val (hd 20 (by kernel_rfl) 35 rfl)
    go_simp
    refine (l01Less _ _ _ _ _ _ _ _ _ _ _ _ _ F2'.out.1 F2'.out.2.1 F2'.out.2.2 F0'.out.1 F0'.out.2.1 F0'.out.2.2).mono ?_
    rintro en w2 ⟨p', q', r', rfl, fp', fq', fr', hB2⟩
    exact hK _ _ (fun _ => ⟨p', q', r', rfl, fp', fq', fr'⟩) (fun h => by cases h) (HC.out.call hB2) (TV.call hB2)
   ·rintro a w1 HC hx hd K hK
    replace HC := Lib.hid HC
    obtain ⟨p25, q25, r25, g25, f25⟩ := hd 10 (by kernel_rfl) 25 rfl
    have t25 := Reg.slot_val g25
    clear g25
    obtain ⟨p36, q36, r36, g36, f36⟩ := hd 21 (by kernel_rfl) 36 rfl
    have t36 := Reg.slot_val g36
    clear g36
    go_simp
    refine (l01Cross _ _ _ _ _ _ _ _ _ _ _ _ _ f25.1 f25.2.1 f25.2.2 f36.1 f36.2.1 f36.2.2).mono ?_
    rintro en w2 ⟨p', q', r', rfl, fp', fq', fr', hB2⟩
    exact hK _ _ (fun _ => ⟨p', q', r', rfl, fp', fq', fr'⟩) (fun h => by cases h) (HC.out.call hB2) (TV.call hB2)
   ·rintro a w1 HC hx hd K hK
    replace HC := Lib.hid HC
    have t4 : a.tmps[4]?.getD undef = .pointer (some ⟨w.heap.size, 0, none⟩) := Reg.slot_val (hx 4 (by kernel_rfl))
    obtain ⟨p37, q37, r37, g37, f37⟩ := hd 22 (by kernel_rfl) 37 rfl
    have t37 := Reg.slot_val g37
    clear g37
    obtain ⟨u0, u1, u2, x0, x1, x2⟩ := HC.out.cells
    have k0 := HC.out.free 0
    have k1 := HC.out.free 1
    have k2 := HC.out.free 2
    go_simp
    exact hK undef _ (fun h => absurd rfl h) (fun _ => TV.put HC.out f37) (HC.out.put _ _ _) (fun _ => TV.put HC.out f37)
  ·rintro f w1 hC hd' hT
   obtain ⟨x, y, z, ⟨x0, x1, x2⟩, hf⟩ := hT 23 rfl (by decide)
   simp only [Reg.mixL]
   have HC := Lib.hid hC
   clear hC hd' hT
   go_wp2
   refine bodyPost_ret (v := vv x y z) (by simp [results, Tryz.results165, go_sem, x0, x1, x2]) rfl ⟨x, y, z, rfl, hf, HC.out.bel⟩
end Go.Proofs.YtabccmobmppdnaaGreat
namespace Go.Proofs.YtabccmobmppdnaaGreat
open Go Fk Go.RowKit
set_option linter.unusedVariables false
set_option maxRecDepth 8000
def hasQ (L : List Int) (z : Int) : Bool := L.any (fun x => decide (x = z))
theorem hasQ_yes {L : List Int} {z : Int} {k : Nat} (hk : k < L.length) (h : L.getD k 0 = z) : hasQ L z = true := by
 have : L.getD k 0 = L[k] := by simp [List.getD, hk]
 rw [this] at h
 exact List.any_eq_true.2 ⟨L[k], List.getElem_mem hk, decide_eq_true h⟩
theorem hasQ_no {L : List Int} {z : Int} (h : ∀ j, j < L.length → L.getD j 0 ≠ z) : hasQ L z = false := by
 rw [Bool.eq_false_iff]
 intro hh
 obtain ⟨x, hx, he⟩ := List.any_eq_true.1 hh
 obtain ⟨j, hj, rfl⟩ := List.getElem_of_mem hx
 have := h j hj
 simp [List.getD, hj] at this
 exact this (of_decide_eq_true he)
theorem l00HasQ (a : Option Addr) (n cap : Nat) (L : List Int) (p : Int) (w : World) (h : IsIs w a n cap L) :
  Calls Tryz.prog 157 #[.slice a n cap, .int .i64 p] w fun e w' => e = .returned (.bool (hasQ L p)) ∧ w' = w := by
 have hm : n ≤ 9223372036854775807 := by have h1 := h.2.1; have h2 := h.2.2.1; unfold maxLen at h2; omega
 have hl := h.1
 have H := Lib.hid h
 clear h
 go_enter Tryz.func157, Tryz.ntmps157
 go_wp2
 go_loopw [5] (fun i w' => ∃ k : Nat, k ≤ n ∧ i = .int .i64 k ∧ w' = w ∧ Aside (∀ j, j < k → L.getD j 0 ≠ p)) (fun i _ => n - (intOf i).toNat)
 case atStart => exact ⟨0, Nat.zero_le _, rfl, rfl, fun j hj => absurd hj (by omega)⟩
 case round =>
  obtain ⟨k, hk, rfl, rfl, hA⟩ := hrel
  have HA := Lib.hid hA.out
  clear hA
  by_cases hlt : k < n
  ·obtain ⟨b, o, rfl, hcell⟩ := H.out.some (by omega)
   have hc0 := hcell k hlt
   have hk0 : (0 : Int) ≤ (k : Int) := by omega
   have hk1 : (k : Int) < (n : Int) := by omega
   have HZ := Lib.hid (fun (e : L.getD k 0 = p) => hasQ_yes (by omega) e)
   have HN : Hid (L.getD k 0 ≠ p → ∀ j, j < k + 1 → L.getD j 0 ≠ p) := Lib.hid (fun e j hj => by
    by_cases hjk : j = k
    ·subst hjk; exact e
    ·exact HA.out j (by omega))
   clear hcell
   generalize L.getD k 0 = z at *
   by_cases hz : z = p
   ·have HR := Lib.hid (HZ.out hz)
    subst hz
    clear HZ HN
    go_wp2
    go_ret
    exact ⟨ret_bool HR.out.symm, by first | rfl | trivial⟩
   ·have HR := Lib.hid (HN.out hz)
    have hze : (z == p) = false := by simp [hz]
    clear HZ HN
    go_wp2
    go_roundw
    case rel => exact ⟨k + 1, by omega, by go_num, by first | rfl | trivial, HR.out⟩
    case measure => simp [intOf]; omega
  ·obtain rfl : k = n := by omega
   have HR := Lib.hid (hasQ_no (fun j hj => HA.out j (by omega)))
   go_wp2
   go_ret
   exact ⟨ret_bool HR.out.symm, by first | rfl | trivial⟩
theorem hasQ3 {t : List Int} (h : t.length = 3) (p : Int) : hasQ t p = hasB t p := by
 match t, h with
 | [a, b, c], _ => simp [hasQ, hasB, List.getD]
end Go.Proofs.YtabccmobmppdnaaGreat
namespace Go.Proofs.YtabccmobmppdnaaGreat
open Go Fk Go.RowKit Go.Maps
set_option linter.unusedVariables false
set_option maxRecDepth 16000
end Go.Proofs.YtabccmobmppdnaaGreat

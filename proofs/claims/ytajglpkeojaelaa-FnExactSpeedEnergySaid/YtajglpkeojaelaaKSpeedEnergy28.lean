/-
Texts in one: what SpeedEnergy stands on, part 28. Conditions: those of each.
-/
import Derived.Test.YtajglpkeojaelaaKSpeedEnergy27

/-
The law of the energy of speeds returns true: its walk. Conditions: none beyond that the motion lies in memory.
-/
namespace Go.Proofs.Ytajglpkeojaelaa
open Go Fk Go.RowKit
set_option linter.unusedVariables false
set_option maxRecDepth 8000

set_option maxHeartbeats 2000000 in
theorem speedEnergy_law (B : Bd) (c : Bc) (va : Option Addr) (vl vc : Nat) (vs : List C3) (x : Nat) (w : World) (h : IsB w B c) (hv : IsVs w va vl vc vs) (hx : x < 2 ^ FloatKind.f32.format.width) :
    Calls Try.prog 6 #[mv B va vl vc, .float .f32 x] w fun e w' => e = .returned (.bool true) ∧ Below w.heap.size w w' := by
  have ul := Try.underlying57
  have ui := Try.underlying61
  have hA0 : At (w.alloc (BoxM B va vl vc 57)) w.heap.size (ml B va vl vc) := At.new
  have hB0 := (Below.refl w.heap.size w).alloc (Nat.le_refl _) (BoxM B va vl vc 57)
  have u := Try.underlying27
  have u' := Try.underlying53
  have HX := Lib.hid (FV.self hx)
  have HX' : Hid (x < 4294967296) := Lib.hid hx
  have H := Lib.hid h
  have HV := Lib.hid hv
  have A0 := Lib.hid hA0
  have B0 := Lib.hid hB0
  clear h hA0 hB0 hv hx
  go_enter Try.func6, Try.ntmps6
  go_wp2_with fail
  change Calls _ _ _ (w.alloc (BoxM B va vl vc 57)) _
  generalize (w.alloc (BoxM B va vl vc 57)) = W at *
  refine (laws_szMotion B c va vl vc vs 1048576 _ (H.out.below B0.out) (HV.out.below B0.out) (by decide) (by decide)).mono ?_
  rintro e w1 ⟨⟨r, rfl, hr⟩, hB1⟩
  have A1 := Lib.hid (A0.out.below hB1)
  have B1 := Lib.hid (B0.out.trans (hB1.mono B0.out.size))
  clear hB1
  rcases hr with rfl | ⟨hr0, hs, hvl⟩
  · go_wp2
    go_ret
    exact ⟨rfl, B1.out⟩
  · have HS := Lib.hid hs
    clear hs
    have k0 := A1.out 0 _ rfl
    have k1 := A1.out 1 _ rfl
    have k2 := A1.out 2 _ rfl
    have k3 := A1.out 3 _ rfl
    have k4 := A1.out 4 _ rfl
    have k5 := A1.out 5 _ rfl
    have k6 := A1.out 6 _ rfl
    have k7 := A1.out 7 _ rfl
    have k8 := A1.out 8 _ rfl
    have k9 := A1.out 9 _ rfl
    go_wp2_with fail
    clear k0 k1 k2 k3 k4 k5 k6 k7 k8 k9
    refine (laws_toMotionO B c va vl vc vs _ (H.out.below B1.out) HS.out (HV.out.below B1.out) hvl).mono ?_
    rintro e w2 ⟨M, gm, rfl, hM, hMV, _, _, hB2⟩
    have HMV := Lib.hid hMV
    clear hMV
    have A2 := Lib.hid (A1.out.below hB2)
    have B2 := Lib.hid (B1.out.trans (hB2.mono B1.out.size))
    have HM := Lib.hid hM
    clear hM hB2
    go_wp2_with fail
    refine (spec_SpeedEnergy M c _ _ _ vs x _ _ HM.out HMV.out HX.out HX'.out).mono ?_
    rintro e w3 ⟨s1, rfl, hs1, hB3⟩
    have HS1 := Lib.hid hs1
    clear hs1
    have A3 := Lib.hid (A2.out.below hB3)
    have B3 := Lib.hid (B2.out.trans (hB3.mono B2.out.size))
    clear hB3
    have k0 := A3.out 0 _ rfl
    have k1 := A3.out 1 _ rfl
    have k2 := A3.out 2 _ rfl
    have k3 := A3.out 3 _ rfl
    have k4 := A3.out 4 _ rfl
    have k5 := A3.out 5 _ rfl
    have k6 := A3.out 6 _ rfl
    have k7 := A3.out 7 _ rfl
    have k8 := A3.out 8 _ rfl
    have k9 := A3.out 9 _ rfl
    go_wp2_with fail
    clear k0 k1 k2 k3 k4 k5 k6 k7 k8 k9
    refine (laws_toMotionO B c va vl vc vs _ (H.out.below B3.out) HS.out (HV.out.below B3.out) hvl).mono ?_
    rintro e w4 ⟨X, gx, rfl, hX, hXV, _, _, hB4⟩
    have HXV := Lib.hid hXV
    clear hXV
    have A4 := Lib.hid (A3.out.below hB4)
    have B4 := Lib.hid (B3.out.trans (hB4.mono B3.out.size))
    have HXB := Lib.hid hX
    clear hX hB4
    go_wp2_with fail
    change Calls _ _ _ (w4.alloc (BoxM X (some ⟨gx, 0, none⟩) vl vl 61)) _
    have hN := (Below.refl w4.heap.size w4).alloc (Nat.le_refl _) (BoxM X (some ⟨gx, 0, none⟩) vl vl 61)
    have AX : RowKit.Hid (At (w4.alloc (BoxM X (some ⟨gx, 0, none⟩) vl vl 61)) w4.heap.size (ml X (some ⟨gx, 0, none⟩) vl vl)) := Lib.hid At.new
    have A5 := Lib.hid (A4.out.below hN)
    have HX5 := Lib.hid (HXB.out.below hN)
    have HXV5 := Lib.hid (HXV.out.below hN)
    have B5 := Lib.hid (B4.out.trans (hN.mono B4.out.size))
    generalize (w4.alloc (BoxM X (some ⟨gx, 0, none⟩) vl vl 61)) = W4 at *
    generalize w4.heap.size = xb at *
    clear hN
    refine (impl_SpeedEnergy X c _ _ _ vs x _ _ HX5.out HXV5.out HX.out HX'.out).mono ?_
    rintro e w5 ⟨s2, rfl, hs2, hB6⟩
    have HS2 := Lib.hid hs2
    clear hs2
    have A6 := Lib.hid (A5.out.below hB6)
    have AX6 := Lib.hid (AX.out.below hB6)
    have HX6 := Lib.hid (HX5.out.below hB6)
    have HXV6 := Lib.hid (HXV5.out.below hB6)
    have B6 := Lib.hid (B5.out.trans (hB6.mono B5.out.size))
    clear hB6
    generalize seB c vl x = vb at *
    have hvb : (vb == vb) = true := by cases vb <;> rfl
    have hvb' : (vb != vb) = false := by cases vb <;> rfl
    go_wp2_with fail
    refine (laws_sameFloat _ _ _ _ (FV_wR HS2.out) (FV_wR HS1.out)).mono ?_
    rintro e w5' ⟨rfl, n5, hw5⟩
    have hB65 : Below w5.heap.size w5 w5' := by rw [hw5]; exact below_drewN (below_drewN (Below.refl _ _) _) _
    have A6 := Lib.hid (A6.out.below hB65)
    have AX6 := Lib.hid (AX6.out.below hB65)
    have HX6 := Lib.hid (HX6.out.below hB65)
    have HXV6 := Lib.hid (HXV6.out.below hB65)
    have B6 := Lib.hid (B6.out.trans (hB65.mono B6.out.size))
    clear hB65 hw5
    go_wp2_with fail
    refine Reg.wp_region_mix (C := fun w' => Below w5'.heap.size w5' w') (G := fun w1 w2 => Below w1.heap.size w1 w2) (R := fun i v w' => match i with | 0 => v = mv X (some ⟨gx, 0, none⟩) vl vl | 1 => v = mv B va vl vc | 2 => ∃ (B' : Bd) (g : Nat), v = mv B' (some ⟨g, 0, none⟩) vl vl ∧ IsB w' B' c ∧ IsVs w' (some ⟨g, 0, none⟩) vl vl vs | 3 => v = .bool true | 4 => v = .bool false | _ => True) (T := fun _ _ _ => True) [false, false, false, false, false, false, false, false, false, false, false, false, false, false, false, false, false, false, false, false, false, false, false, false, false, false, false, false, false, false, false, false, false, false, false, false, false, false, false, false, false, false, true, true, true, true, true]
      (by kernel_rfl) (by kernel_rfl) (by kernel_rfl) ?_ (below_drewN (Below.refl _ _) 1) ?_ ?_
    · intro j v w1 w2 _ hG hR
      match j with
      | 0 => exact hR
      | 1 => exact hR
      | 2 => obtain ⟨B', g, e, h1, h2⟩ := hR; exact ⟨B', g, e, h1.below hG, h2.below hG⟩
      | 3 => exact hR
      | 4 => exact hR
      | _ + 5 => trivial
    · refine ⟨Reg.Obl.mk ?_, Reg.Obl.mk ?_, Reg.Obl.mk ?_, Reg.Obl.mk ?_, Reg.Obl.mk ?_, trivial⟩
      · rintro a w1 hB hx hd K hK
        have t8 : a.tmps[8]?.getD undef = .pointer (some ⟨xb, 0, none⟩) := Reg.slot_val (hx 8 (by kernel_rfl))
        have y0 := AX6.out.below hB 0 _ rfl
        have y1 := AX6.out.below hB 1 _ rfl
        have y2 := AX6.out.below hB 2 _ rfl
        have y3 := AX6.out.below hB 3 _ rfl
        have y4 := AX6.out.below hB 4 _ rfl
        have y5 := AX6.out.below hB 5 _ rfl
        have y6 := AX6.out.below hB 6 _ rfl
        have y7 := AX6.out.below hB 7 _ rfl
        have y8 := AX6.out.below hB 8 _ rfl
        have y9 := AX6.out.below hB 9 _ rfl
        have HC := Lib.hid hB
        clear hB
        go_simp
        exact hK _ _ (fun _ => rfl) (fun h => by cases h) HC.out (Below.refl _ _)
      · rintro a w1 hB hx hd K hK
        have t2 : a.tmps[2]?.getD undef = .pointer (some ⟨w.heap.size, 0, none⟩) := Reg.slot_val (hx 2 (by kernel_rfl))
        have y0 := A6.out.below hB 0 _ rfl
        have y1 := A6.out.below hB 1 _ rfl
        have y2 := A6.out.below hB 2 _ rfl
        have y3 := A6.out.below hB 3 _ rfl
        have y4 := A6.out.below hB 4 _ rfl
        have y5 := A6.out.below hB 5 _ rfl
        have y6 := A6.out.below hB 6 _ rfl
        have y7 := A6.out.below hB 7 _ rfl
        have y8 := A6.out.below hB 8 _ rfl
        have y9 := A6.out.below hB 9 _ rfl
        have HC := Lib.hid hB
        clear hB
        go_simp
        exact hK _ _ (fun _ => rfl) (fun h => by cases h) HC.out (Below.refl _ _)
      · rintro a w1 hB hx hd K hK
        have t43 : a.tmps[43]?.getD undef = mv B va vl vc := Reg.slot_val (hd 1 (by kernel_rfl) 43 rfl)
        have HC := Lib.hid hB
        clear hB
        go_simp
        refine (laws_toMotionO B c va vl vc vs _ (H.out.below (B6.out.trans (HC.out.mono B6.out.size))) HS.out (HV.out.below (B6.out.trans (HC.out.mono B6.out.size))) hvl).mono ?_
        rintro en w2 ⟨B', g, rfl, hV, hVV, _, _, hB2⟩
        exact hK _ _ (fun _ => ⟨B', g, rfl, hV, hVV⟩) (fun h => by cases h) (HC.out.trans (hB2.mono HC.out.size)) hB2
      · rintro a w1 hB hx hd K hK
        have t42 : a.tmps[42]?.getD undef = mv X (some ⟨gx, 0, none⟩) vl vl := Reg.slot_val (hd 0 (by kernel_rfl) 42 rfl)
        obtain ⟨B', gb, g2, hV, hVV⟩ := hd 2 (by kernel_rfl) 44 rfl
        have t44 := Reg.slot_val g2
        clear g2
        have HVe := Lib.hid (And.intro hV hVV)
        have HC := Lib.hid hB
        clear hV hVV hB
        go_simp
        refine (laws_eqMotion X B' c _ _ _ _ _ vs _ (HX6.out.below HC.out) HVe.out.1 HS.out (HXV6.out.below HC.out) HVe.out.2).mono ?_
        rintro en w2 ⟨rfl, hB2⟩
        exact hK _ _ (fun _ => rfl) (fun h => by cases h) (HC.out.trans (hB2.mono HC.out.size)) hB2
      · rintro a w1 hB hx hd K hK
        have t45 : a.tmps[45]?.getD undef = .bool true := Reg.slot_val (hd 3 (by kernel_rfl) 45 rfl)
        go_simp
        exact hK _ _ (fun _ => rfl) (fun h => by cases h) hB (Below.refl _ _)
    · rintro f wz hBz hd hT
      have g46 : f 46 = .bool false := hd 4 46 rfl
      simp only [Reg.mixL, g46]
      have HBz := Lib.hid (B6.out.trans (hBz.mono B6.out.size))
      clear hBz
      go_wp2
      go_ret
      exact ⟨rfl, HBz.out⟩
theorem FnExactSpeedEnergy_law (pa ta sa wa : Option Addr) (pl pc tl tc sl sc wl wc : Nat) (cs : List C3) (ts : List (List Int)) (ss : List SC) (zs : List Nat) (fi be fx fy fz : Nat) (va : Option Addr) (vl vc : Nat) (vs : List C3) (x : Nat) (w : World) (hp : IsVs w pa pl pc cs) (ht : IsTs w ta tl tc ts) (hs : IsSs w sa sl sc ss) (hw : IsFs .f32 w wa wl wc zs) (hf : fi < 2 ^ FloatKind.f32.format.width ∧ be < 2 ^ FloatKind.f32.format.width ∧ fx < 2 ^ FloatKind.f32.format.width ∧ fy < 2 ^ FloatKind.f32.format.width ∧ fz < 2 ^ FloatKind.f32.format.width) (hv : IsVs w va vl vc vs) (hx : x < 2 ^ FloatKind.f32.format.width) :
    Calls Try.prog 6 #[.agg #[.slice pa pl pc, .slice ta tl tc, .slice sa sl sc, .float .f32 fi, .float .f32 be, .slice wa wl wc, .float .f32 fx, .float .f32 fy, .float .f32 fz, .slice va vl vc], .float .f32 x] w fun e w' => e = .returned (.bool true) ∧ Below w.heap.size w w' :=
  speedEnergy_law ⟨pa, ta, sa, wa, pl, pc, tl, tc, sl, sc, wl, wc, fi, be, fx, fy, fz⟩ ⟨cs, ts, ss, zs, cls .f32 fi, cls .f32 be, (cls .f32 fx, cls .f32 fy, cls .f32 fz)⟩ va vl vc vs x w ⟨hp, ht, hs, hw, FV.self hf.1, FV.self hf.2.1, FV.self hf.2.2.1, FV.self hf.2.2.2.1, FV.self hf.2.2.2.2⟩ hv hx
end Go.Proofs.Ytajglpkeojaelaa


/-
A motion that comes in as an argument, and copies of motions. Conditions: none.
-/
namespace Go.Proofs.Ytajglpkeojaelaa
namespace Fk
open Go Go.RowKit
set_option linter.unusedVariables false
section
open Go.ChangeShapes Go.WideShapes Go.Deep
variable {H : Type} {enc : TypeId × Value → H} {P : Program} {w : World} {base : Nat} {held : Bool}
theorem array10 {α : Type} {cs : Array α} (h : cs.size = 10) : ∃ c0 c1 c2 c3 c4 c5 c6 c7 c8 c9, cs = #[c0, c1, c2, c3, c4, c5, c6, c7, c8, c9] := by
  obtain ⟨l⟩ := cs
  match l, h with
  | [c0, c1, c2, c3, c4, c5, c6, c7, c8, c9], _ => exact ⟨c0, c1, c2, c3, c4, c5, c6, c7, c8, c9, rfl⟩
/-- The cells of a body. -/
theorem trod_body {t : TypeId} {g0 g1 g2 g3 g4 g5 : Field} {m0 m1 : Field} {ev eq : TypeId} {f0 f1 f2 : Field} {er : TypeId} {es : TypeId} {q0 q1 q2 q3 : Field} {ew : TypeId} {v0 v1 v2 : Field} {fuel : Nat} {cs : List Value} {x : DataW H × List MemPlace}
    (hs : P.underlying t = some (.struct #[g0, g1, g2, g3, g4, g5])) (hoff : [g0.offset, g1.offset, g2.offset, g3.offset, g4.offset, g5.offset] = [0, 2, 3, 4, 5, 6]) (hcl : [P.cellsOf g0.type, P.cellsOf g1.type, P.cellsOf g2.type, P.cellsOf g3.type, P.cellsOf g4.type, P.cellsOf g5.type] = [2, 1, 1, 1, 1, 3]) (hC : cs.length = 9)
    (hm : P.underlying g0.type = some (.struct #[m0, m1])) (honem : oneCellFields P #[m0, m1] = true)
    (hp : P.underlying m0.type = some (.slice ev)) (hev : P.underlying ev = some (.struct #[f0, f1, f2])) (honev : oneCellFields P #[f0, f1, f2] = true) (hCv : P.cellsOf ev = 3)
    (he0 : P.underlying f0.type = some (.float .f32)) (he1 : P.underlying f1.type = some (.float .f32)) (he2 : P.underlying f2.type = some (.float .f32))
    (ht : P.underlying m1.type = some (.slice er)) (her : P.underlying er = some (.slice eq)) (heq : P.underlying eq = some (.int .i64)) (ce : P.cellsOf er = 1) (cq : P.cellsOf eq = 1)
    (hsp : P.underlying g1.type = some (.slice es)) (hes : P.underlying es = some (.struct #[q0, q1, q2, q3])) (hones : oneCellFields P #[q0, q1, q2, q3] = true) (hCs : P.cellsOf es = 4)
    (hq0 : P.underlying q0.type = some (.int .i64)) (hq1 : P.underlying q1.type = some (.int .i64)) (hq2 : P.underlying q2.type = some (.float .f32)) (hq3 : P.underlying q3.type = some (.float .f32))
    (hf : P.underlying g2.type = some (.float .f32)) (hb : P.underlying g3.type = some (.float .f32))
    (hw : P.underlying g4.type = some (.slice ew)) (hew : P.underlying ew = some (.float .f32)) (cw : P.cellsOf ew = 1)
    (hv5 : P.underlying g5.type = some (.struct #[v0, v1, v2])) (honev5 : oneCellFields P #[v0, v1, v2] = true)
    (hv0 : P.underlying v0.type = some (.float .f32)) (hv1 : P.underlying v1.type = some (.float .f32)) (hv2 : P.underlying v2.type = some (.float .f32))
    (hfu : DataW.trod enc P w base (fun _ => true) held fuel t cs = some x) :
    ∃ pa ta sa wa pl pc tl tc sl sc wl wc ps ts ss zs film bend x y z, cs = [.slice pa pl pc, .slice ta tl tc, .slice sa sl sc, .float .f32 film, .float .f32 bend, .slice wa wl wc, .float .f32 x, .float .f32 y, .float .f32 z] ∧
      IsVs w pa pl pc ps ∧ IsTs w ta tl tc ts ∧ IsSs w sa sl sc ss ∧ IsFs .f32 w wa wl wc zs ∧ (film < 2 ^ FloatKind.f32.format.width ∧ bend < 2 ^ FloatKind.f32.format.width ∧ x < 2 ^ FloatKind.f32.format.width ∧ y < 2 ^ FloatKind.f32.format.width ∧ z < 2 ^ FloatKind.f32.format.width) := by
  obtain ⟨c0, c1, c2, c3, c4, c5, c6, c7, c8, hce⟩ := array9 (cs := cs.toArray) (by simpa using hC)
  obtain rfl : cs = [c0, c1, c2, c3, c4, c5, c6, c7, c8] := by simpa using congrArg Array.toList hce
  obtain ⟨y0, y1, y2, y3, y4, y5, n, h0, h1, h2, h3, h4, h5⟩ := trod_struct6 hs hfu
  simp only [List.cons.injEq, and_true] at hoff hcl
  obtain ⟨o0, o1, o2, o3, o4, o5⟩ := hoff
  obtain ⟨l0, l1, l2, l3, l4, l5⟩ := hcl
  rw [o0, l0] at h0
  rw [o1, l1] at h1
  rw [o2, l2] at h2
  rw [o3, l3] at h3
  rw [o4, l4] at h4
  rw [o5, l5] at h5
  simp at h0 h1 h2 h3 h4 h5
  obtain ⟨u0, u1, n1, _, _, i0, i1⟩ := trod_struct2 hm h0
  obtain ⟨a0, b0'⟩ := hone_of honem 0 m0 rfl
  obtain ⟨a1, b1'⟩ := hone_of honem 1 m1 rfl
  rw [a0, b0'] at i0
  rw [a1, b1'] at i1
  simp at i0 i1
  obtain ⟨pa, pl, pc, ps, e0, w0⟩ := trod_vecs hp hev honev hCv he0 he1 he2 i0
  obtain ⟨ta, tl, tc, ts, e1, w1⟩ := trod_rows ht her heq ce cq i1
  obtain ⟨sa, sl, sc, ss, e2, w2⟩ := trod_springs hsp hes hones hCs hq0 hq1 hq2 hq3 h1
  obtain ⟨film, e3, w3⟩ := trod_float hf h2
  obtain ⟨bend, e4, w4⟩ := trod_float hb h3
  obtain ⟨wa, wl, wc, zs, e5, w5⟩ := trod_floats hw hew cw h4
  obtain ⟨k0, k1, k2, n2, _, _, j0, j1, j2⟩ := trod_struct3 hv5 h5
  obtain ⟨p0, r0⟩ := hone_of honev5 0 v0 rfl
  obtain ⟨p1, r1⟩ := hone_of honev5 1 v1 rfl
  obtain ⟨p2, r2⟩ := hone_of honev5 2 v2 rfl
  rw [p0, r0] at j0
  rw [p1, r1] at j1
  rw [p2, r2] at j2
  simp at j0 j1 j2
  obtain ⟨x, e6, w6⟩ := trod_float hv0 j0
  obtain ⟨y, e7, w7⟩ := trod_float hv1 j1
  obtain ⟨z, e8, w8⟩ := trod_float hv2 j2
  cases e0; cases e1; cases e2; cases e3; cases e4; cases e5; cases e6; cases e7; cases e8
  exact ⟨pa, ta, sa, wa, pl, pc, tl, tc, sl, sc, wl, wc, ps, ts, ss, zs, film, bend, x, y, z, rfl, w0, w1, w2, w5, w3, w4, w6, w7, w8⟩
/-- A motion that came in. -/
theorem open_motion {r : Reach} {b0 : Nat} {t : TypeId} {n0 n1 : Field} {g0 g1 g2 g3 g4 g5 : Field} {m0 m1 : Field} {ev eq : TypeId} {f0 f1 f2 : Field} {er : TypeId} {es : TypeId} {q0 q1 q2 q3 : Field} {ew : TypeId} {v0 v1 v2 : Field} {v : Value} {d : DataW H} {p : List MemPlace}
    (ht0 : P.underlying t = some (.struct #[n0, n1])) (hoff0 : [n0.offset, n1.offset] = [0, 9]) (hcl0 : [P.cellsOf n0.type, P.cellsOf n1.type] = [9, 1]) (hC0 : P.cellsOf t = 10)
    (hs : P.underlying n0.type = some (.struct #[g0, g1, g2, g3, g4, g5])) (hoff : [g0.offset, g1.offset, g2.offset, g3.offset, g4.offset, g5.offset] = [0, 2, 3, 4, 5, 6]) (hcl : [P.cellsOf g0.type, P.cellsOf g1.type, P.cellsOf g2.type, P.cellsOf g3.type, P.cellsOf g4.type, P.cellsOf g5.type] = [2, 1, 1, 1, 1, 3])
    (hm : P.underlying g0.type = some (.struct #[m0, m1])) (honem : oneCellFields P #[m0, m1] = true)
    (hp : P.underlying m0.type = some (.slice ev)) (hev : P.underlying ev = some (.struct #[f0, f1, f2])) (honev : oneCellFields P #[f0, f1, f2] = true) (hCv : P.cellsOf ev = 3)
    (he0 : P.underlying f0.type = some (.float .f32)) (he1 : P.underlying f1.type = some (.float .f32)) (he2 : P.underlying f2.type = some (.float .f32))
    (ht : P.underlying m1.type = some (.slice er)) (her : P.underlying er = some (.slice eq)) (heq : P.underlying eq = some (.int .i64)) (ce : P.cellsOf er = 1) (cq : P.cellsOf eq = 1)
    (hsp : P.underlying g1.type = some (.slice es)) (hes : P.underlying es = some (.struct #[q0, q1, q2, q3])) (hones : oneCellFields P #[q0, q1, q2, q3] = true) (hCs : P.cellsOf es = 4)
    (hq0 : P.underlying q0.type = some (.int .i64)) (hq1 : P.underlying q1.type = some (.int .i64)) (hq2 : P.underlying q2.type = some (.float .f32)) (hq3 : P.underlying q3.type = some (.float .f32))
    (hf : P.underlying g2.type = some (.float .f32)) (hb : P.underlying g3.type = some (.float .f32))
    (hw : P.underlying g4.type = some (.slice ew)) (hew : P.underlying ew = some (.float .f32)) (cw : P.cellsOf ew = 1)
    (hv5 : P.underlying g5.type = some (.struct #[v0, v1, v2])) (honev5 : oneCellFields P #[v0, v1, v2] = true)
    (hv0 : P.underlying v0.type = some (.float .f32)) (hv1 : P.underlying v1.type = some (.float .f32)) (hv2 : P.underlying v2.type = some (.float .f32))
    (hsv : P.underlying n1.type = some (.slice ev))
    (hv : Value.okWide P w r b0 t v) (h : DataW.Trod enc P w base (fun _ => true) held t v d p) :
    ∃ pa ta sa wa pl pc tl tc sl sc wl wc ps ts ss zs film bend x y z va vl vc vs, v = .agg #[.slice pa pl pc, .slice ta tl tc, .slice sa sl sc, .float .f32 film, .float .f32 bend, .slice wa wl wc, .float .f32 x, .float .f32 y, .float .f32 z, .slice va vl vc] ∧
      (IsVs w pa pl pc ps ∧ IsTs w ta tl tc ts ∧ IsSs w sa sl sc ss ∧ IsFs .f32 w wa wl wc zs ∧ (film < 2 ^ FloatKind.f32.format.width ∧ bend < 2 ^ FloatKind.f32.format.width ∧ x < 2 ^ FloatKind.f32.format.width ∧ y < 2 ^ FloatKind.f32.format.width ∧ z < 2 ^ FloatKind.f32.format.width)) ∧ IsVs w va vl vc vs := by
  obtain ⟨cs, rfl, hsz⟩ := okWide_struct ht0 hv
  obtain ⟨c0, c1, c2, c3, c4, c5, c6, c7, c8, c9, rfl⟩ := array10 (hsz.trans hC0)
  obtain ⟨fuel, hfu⟩ := h
  obtain ⟨y0, y1, n, _, _, h0, h1⟩ := trod_struct2 ht0 hfu
  simp only [List.cons.injEq, and_true] at hoff0 hcl0
  rw [hoff0.1, hcl0.1] at h0
  rw [hoff0.2, hcl0.2] at h1
  simp [Value.cells] at h0 h1
  obtain ⟨pa, ta, sa, wa, pl, pc, tl, tc, sl, sc, wl, wc, ps, ts, ss, zs, film, bend, x, y, z, e, hw⟩ := trod_body hs hoff hcl rfl hm honem hp hev honev hCv he0 he1 he2 ht her heq ce cq hsp hes hones hCs hq0 hq1 hq2 hq3 hf hb hw hew cw hv5 honev5 hv0 hv1 hv2 h0
  obtain ⟨va, vl, vc, vs, e1, w1⟩ := trod_vecs hsv hev honev hCv he0 he1 he2 h1
  simp only [List.cons.injEq, and_true] at e e1
  obtain ⟨rfl, rfl, rfl, rfl, rfl, rfl, rfl, rfl, rfl⟩ := e
  subst e1
  exact ⟨pa, ta, sa, wa, pl, pc, tl, tc, sl, sc, wl, wc, ps, ts, ss, zs, film, bend, x, y, z, va, vl, vc, vs, rfl, hw, w1⟩
/-- A list of integers that came in. -/
theorem open_ilist {t e : TypeId} {a : Option Addr} {len cap : Nat} {d : DataW H} {p : List MemPlace} (ht : P.underlying t = some (.slice e)) (he : P.underlying e = some (.int .i64)) (hc : P.cellsOf e = 1)
    (h : DataW.Trod enc P w base (fun _ => true) held t (.slice a len cap) d p) : ∃ zs, IsIs w a len cap zs := by
  obtain ⟨fuel, hf⟩ := h
  obtain ⟨a', len', cap', zs, e1, hz⟩ := trod_ints ht he hc (by simpa [Value.cells] using hf)
  cases e1
  exact ⟨zs, hz⟩
end
end Fk
end Go.Proofs.Ytajglpkeojaelaa

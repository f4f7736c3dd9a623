/-
Texts in one: what EnergyOf stands on, part 0. Conditions: those of each.
-/
import Derived.Test.YtnbfaedopjkgpaaGreatKPartsOf39

/-
The energy of a body: the law returns true. Conditions: none beyond that the body lies in memory.
-/
namespace Go.Proofs.YtnbfaedopjkgpaaGreat
open Go Fk Go.RowKit
set_option linter.unusedVariables false
set_option maxRecDepth 16000

set_option maxHeartbeats 40000000 in
theorem energyOf_law (B : Bd) (c : Bc) (w : World) (h : IsB w B c) :
    Calls Tryz.prog 4 #[B.v] w fun e w' => e = .returned (.bool true) ∧ Below w.heap.size w w' := by
  have ulb := Tryz.underlying32
  have uib := Tryz.underlying42
  have u := Tryz.underlying27
  have u' := Tryz.underlying52
  have HB := Lib.hid h
  have BX : Hid (Bx w [(w.heap.size, B.l)] (w.alloc (BoxB B 32))) := Lib.hid ((Bx.nil w).box (vs := B.l) (t := 32))
  have HSP := Lib.hid (fun (B : Bd) (w : World) (h : IsB w B c) => spec_EnergyOf B c w h)
  have HIM := Lib.hid (fun (B : Bd) (w : World) (h : IsB w B c) => impl_EnergyOf B c w h)
  generalize enT c = L at *
  generalize bodyB c = nb at *
  clear h
  have hvb : (nb == nb) = true := by cases nb <;> rfl
  have hvb' : (nb != nb) = false := by cases nb <;> rfl
  go_enter Tryz.func4, Tryz.ntmps4
  go_wp2_with fail
  change Calls _ _ _ (w.alloc (BoxB B 32)) _
  generalize (w.alloc (BoxB B 32)) = W at *
  refine (laws_szBody' B c 1048576 _ (HB.out.below BX.out.bel) (by decide) (by decide)).mono ?_
  rintro e w1 ⟨⟨r, rfl, hr⟩, hB1⟩
  have BX1 := Lib.hid (BX.out.call hB1)
  clear hB1
  rcases hr with rfl | ⟨hr0, hr1, hs⟩
  · go_wp2
    go_ret
    exact ⟨rfl, BX1.out.bel⟩
  have HS := Lib.hid hs
  clear hs
  have a0 := (BX1.out.mem (.head _)) 0 _ rfl
  have a1 := (BX1.out.mem (.head _)) 1 _ rfl
  have a2 := (BX1.out.mem (.head _)) 2 _ rfl
  have a3 := (BX1.out.mem (.head _)) 3 _ rfl
  have a4 := (BX1.out.mem (.head _)) 4 _ rfl
  have a5 := (BX1.out.mem (.head _)) 5 _ rfl
  have a6 := (BX1.out.mem (.head _)) 6 _ rfl
  have a7 := (BX1.out.mem (.head _)) 7 _ rfl
  have a8 := (BX1.out.mem (.head _)) 8 _ rfl
  go_wp2_with fail
  clear a0 a1 a2 a3 a4 a5 a6 a7 a8
  refine (laws_toBody B c _ (HB.out.below BX1.out.bel) HS.out).mono ?_
  rintro e w2 ⟨B0, rfl, hI0, hB2⟩
  have BX2 := Lib.hid (BX1.out.call hB2)
  have I0 := Lib.hid hI0
  clear hB2 hI0
  go_wp2_with fail
  refine (HSP.out B0 _ I0.out).mono ?_
  rintro e w3 ⟨⟨sx, rfl, sfx⟩, hB3⟩
  have BX3 := Lib.hid (BX2.out.call hB3)
  clear hB3
  have a0 := (BX3.out.mem (.head _)) 0 _ rfl
  have a1 := (BX3.out.mem (.head _)) 1 _ rfl
  have a2 := (BX3.out.mem (.head _)) 2 _ rfl
  have a3 := (BX3.out.mem (.head _)) 3 _ rfl
  have a4 := (BX3.out.mem (.head _)) 4 _ rfl
  have a5 := (BX3.out.mem (.head _)) 5 _ rfl
  have a6 := (BX3.out.mem (.head _)) 6 _ rfl
  have a7 := (BX3.out.mem (.head _)) 7 _ rfl
  have a8 := (BX3.out.mem (.head _)) 8 _ rfl
  go_wp2_with fail
  clear a0 a1 a2 a3 a4 a5 a6 a7 a8
  refine (laws_toBody B c _ (HB.out.below BX3.out.bel) HS.out).mono ?_
  rintro e w4 ⟨X0, rfl, hIX, hB4⟩
  have BX4 := Lib.hid (BX3.out.call hB4)
  have hX4 : Below w4.heap.size w4 (w4.alloc (BoxB X0 42)) := (Below.refl _ _).alloc (Nat.le_refl _) _
  have BX5 : Hid (Bx w [(w4.heap.size, X0.l), (w.heap.size, B.l)] (w4.alloc (BoxB X0 42))) := Lib.hid (BX4.out.box (vs := X0.l) (t := 42))
  have M5 := Lib.hid (hIX.below hX4)
  clear hIX hB4 hX4
  go_wp2_with fail
  change Calls _ _ _ (w4.alloc (BoxB X0 42)) _
  generalize (w4.alloc (BoxB X0 42)) = W4 at *
  generalize w4.heap.size = X at *
  refine (HIM.out X0 _ M5.out).mono ?_
  rintro e w5 ⟨⟨gx, rfl, gfx⟩, hB5⟩
  have BX6 := Lib.hid (BX5.out.call hB5)
  have M6 := Lib.hid (M5.out.below hB5)
  clear hB5
  go_wp2_with fail
  refine (laws_sameFloat _ _ _ _ (FV_wR gfx) (FV_wR sfx)).mono ?_
  rintro en w6 ⟨rfl, n5, hw6⟩
  have hB6 : Below w5.heap.size w5 w6 := by rw [hw6]; exact below_drewN (by first | exact Below.refl _ _ | exact below_drewN (Below.refl _ _) _ | exact below_drewN (below_drewN (Below.refl _ _) _) _) _
  have BX7 := Lib.hid (BX6.out.call hB6)
  have M7 := Lib.hid (M6.out.below hB6)
  clear hB6 hw6 gfx sfx
  go_wp2_with fail
  refine Reg.wp_region_mix (C := fun w' => Below w6.heap.size w6 w') (G := fun w1 w2 => Below w1.heap.size w1 w2) (R := fun i v w' => match i with | 0 => v = X0.v | 1 => v = B.v | 2 => ∃ Y : Bd, v = Y.v ∧ IsB w' Y c | 3 => v = .bool true | 4 => v = .bool false | _ => True) (T := fun _ _ _ => True) [false, false, false, false, false, false, false, false, false, false, false, false, false, false, false, false, false, false, false, false, false, false, false, false, false, false, false, false, false, false, false, false, false, false, false, false, false, false, true, true, true, true, true]
    (by kernel_rfl) (by kernel_rfl) (by kernel_rfl) ?_ (below_drewN (Below.refl _ _) 1) ?_ ?_
  · intro j v w1 w2 _ hG hR
    match j with
    | 0 => exact hR
    | 1 => exact hR
    | 2 => obtain ⟨Y, e, h1⟩ := hR; exact ⟨Y, e, h1.below hG⟩
    | 3 => exact hR
    | 4 => exact hR
    | _ + 5 => trivial
  · refine ⟨Reg.Obl.mk ?_, Reg.Obl.mk ?_, Reg.Obl.mk ?_, Reg.Obl.mk ?_, Reg.Obl.mk ?_, trivial⟩
    · rintro av wq hB hx hd K hK
      have HC := Lib.hid hB
      clear hB
      have t6 : av.tmps[6]?.getD undef = .pointer (some ⟨X, 0, none⟩) := Reg.slot_val (hx 6 (by kernel_rfl))
      have y0 := ((BX7.out.call HC.out).mem (.head _)) 0 _ rfl
      have y1 := ((BX7.out.call HC.out).mem (.head _)) 1 _ rfl
      have y2 := ((BX7.out.call HC.out).mem (.head _)) 2 _ rfl
      have y3 := ((BX7.out.call HC.out).mem (.head _)) 3 _ rfl
      have y4 := ((BX7.out.call HC.out).mem (.head _)) 4 _ rfl
      have y5 := ((BX7.out.call HC.out).mem (.head _)) 5 _ rfl
      have y6 := ((BX7.out.call HC.out).mem (.head _)) 6 _ rfl
      have y7 := ((BX7.out.call HC.out).mem (.head _)) 7 _ rfl
      have y8 := ((BX7.out.call HC.out).mem (.head _)) 8 _ rfl
      go_simp
      exact hK _ _ (fun _ => rfl) (fun h => by cases h) HC.out (Below.refl _ _)
    · rintro av wq hB hx hd K hK
      have HC := Lib.hid hB
      clear hB
      have t1 : av.tmps[1]?.getD undef = .pointer (some ⟨w.heap.size, 0, none⟩) := Reg.slot_val (hx 1 (by kernel_rfl))
      have y0 := ((BX7.out.call HC.out).mem (.tail _ (.head _))) 0 _ rfl
      have y1 := ((BX7.out.call HC.out).mem (.tail _ (.head _))) 1 _ rfl
      have y2 := ((BX7.out.call HC.out).mem (.tail _ (.head _))) 2 _ rfl
      have y3 := ((BX7.out.call HC.out).mem (.tail _ (.head _))) 3 _ rfl
      have y4 := ((BX7.out.call HC.out).mem (.tail _ (.head _))) 4 _ rfl
      have y5 := ((BX7.out.call HC.out).mem (.tail _ (.head _))) 5 _ rfl
      have y6 := ((BX7.out.call HC.out).mem (.tail _ (.head _))) 6 _ rfl
      have y7 := ((BX7.out.call HC.out).mem (.tail _ (.head _))) 7 _ rfl
      have y8 := ((BX7.out.call HC.out).mem (.tail _ (.head _))) 8 _ rfl
      go_simp
      exact hK _ _ (fun _ => rfl) (fun h => by cases h) HC.out (Below.refl _ _)
    · rintro av wq hB hx hd K hK
      have HC := Lib.hid hB
      clear hB
      have t39 : av.tmps[39]?.getD undef = B.v := Reg.slot_val (hd 1 (by kernel_rfl) 39 rfl)
      go_simp
      refine (laws_toBody B c _ (HB.out.below (BX7.out.call HC.out).bel) HS.out).mono ?_
      rintro en w2 ⟨Y, rfl, hV, hB2⟩
      exact hK _ _ (fun _ => ⟨Y, rfl, hV⟩) (fun h => by cases h) (HC.out.trans (hB2.mono HC.out.size)) hB2
    · rintro av wq hB hx hd K hK
      have HC := Lib.hid hB
      clear hB
      have t38 : av.tmps[38]?.getD undef = X0.v := Reg.slot_val (hd 0 (by kernel_rfl) 38 rfl)
      obtain ⟨Y, g2, hV⟩ := hd 2 (by kernel_rfl) 40 rfl
      have t40 := Reg.slot_val g2
      clear g2
      have HVe := Lib.hid hV
      clear hV
      go_simp
      refine (laws_eqBody X0 Y c _ (M7.out.below HC.out) HVe.out HS.out).mono ?_
      rintro en w2 ⟨rfl, hB2⟩
      exact hK _ _ (fun _ => rfl) (fun h => by cases h) (HC.out.trans (hB2.mono HC.out.size)) hB2
    · rintro av wq hB hx hd K hK
      have t41 : av.tmps[41]?.getD undef = .bool true := Reg.slot_val (hd 3 (by kernel_rfl) 41 rfl)
      go_simp
      exact hK _ _ (fun _ => rfl) (fun h => by cases h) hB (Below.refl _ _)
  rintro f wz hBz hd hTT
  have g42 : f 42 = .bool false := hd 4 42 rfl
  simp only [Reg.mixL, g42]
  have BXz := Lib.hid (BX7.out.call hBz)
  clear hBz hd hTT
  go_wp2
  go_ret
  exact ⟨rfl, BXz.out.bel⟩
theorem FnExactEnergyOf_law (pa ta sa wa : Option Addr) (pl pc tl tc sl sc wl wc : Nat) (cs : List C3) (ts : List (List Int)) (ss : List SC) (zs : List Nat) (fi be fx fy fz : Nat) (w : World) (hp : IsVs w pa pl pc cs) (ht : IsTs w ta tl tc ts) (hs : IsSs w sa sl sc ss) (hw : IsFs .f32 w wa wl wc zs) (hf : fi < 2 ^ FloatKind.f32.format.width ∧ be < 2 ^ FloatKind.f32.format.width ∧ fx < 2 ^ FloatKind.f32.format.width ∧ fy < 2 ^ FloatKind.f32.format.width ∧ fz < 2 ^ FloatKind.f32.format.width) :
    Calls Tryz.prog 4 #[.agg #[.slice pa pl pc, .slice ta tl tc, .slice sa sl sc, .float .f32 fi, .float .f32 be, .slice wa wl wc, .float .f32 fx, .float .f32 fy, .float .f32 fz]] w fun e w' => e = .returned (.bool true) ∧ Below w.heap.size w w' :=
  energyOf_law ⟨pa, ta, sa, wa, pl, pc, tl, tc, sl, sc, wl, wc, fi, be, fx, fy, fz⟩ ⟨cs, ts, ss, zs, cls .f32 fi, cls .f32 be, (cls .f32 fx, cls .f32 fy, cls .f32 fz)⟩ w ⟨hp, ht, hs, hw, FV.self hf.1, FV.self hf.2.1, FV.self hf.2.2.1, FV.self hf.2.2.2.1, FV.self hf.2.2.2.2⟩
end Go.Proofs.YtnbfaedopjkgpaaGreat

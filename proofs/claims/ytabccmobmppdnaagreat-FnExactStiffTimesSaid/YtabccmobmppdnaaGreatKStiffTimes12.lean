/-
Texts in one: what StiffTimes stands on, part 12. Conditions: those of each.
-/
import Derived.Test.YtabccmobmppdnaaGreatKStiffTimes11
import Derived.Shelf.SlSortCmp.NoneTotal
import Derived.Shelf.Lay
import Derived.Ground.SlsfProg
import Derived.Lib.Small
import Derived.RangeFuncBound
import Derived.Sort.OwnSorted
import Derived.WalkKit
-- halved
namespace Go.Proofs
open Go Go.Shelf Go.RowKit Go.Lib Go.Sort
shelf_lay_g SlLaysF0.n6 Slsf 6 at Tryz 207 as Tryz.sortEdges
end Go.Proofs
namespace Go.Proofs.YtabccmobmppdnaaGreat
open Go Fk Go.RowKit Go.Maps Go.Sort Go.Shelf Go.Lib
set_option linter.unusedVariables false
set_option maxRecDepth 16000
def cellsE (x : Int × Int) : List Value := [.int .i64 x.1, .int .i64 x.2]
def cfE (x y : Int × Int) : Int := if Lib.compareInt x.1 y.1 = 0 then Lib.compareInt x.2 y.2 else Lib.compareInt x.1 y.1
def ltE (x y : Int × Int) : Bool := decide (x.1 < y.1 ∨ x.1 = y.1 ∧ x.2 < y.2)
theorem ltOf_cfE (x y : Int × Int) : ltOf cfE x y = ltE x y := by
 unfold ltOf cfE ltE Lib.compareInt
 by_cases h1 : x.1 < y.1
 ·simp [h1]
 ·by_cases h2 : y.1 < x.1
  ·have : ¬ x.1 = y.1 := by omega
   simp [h1, h2, this]
  ·have h3 : x.1 = y.1 := by omega
   by_cases h4 : x.2 < y.2
   ·simp [h3, h4]
   ·by_cases h5 : y.2 < x.2
    ·simp [h3, h4, h5]
    ·simp [h3, h4, h5]
theorem swoE : SWO (ltOf cfE) where
 irrefl x := by rw [ltOf_cfE]; unfold ltE; simp
 trans x y z h1 h2 := by rw [ltOf_cfE] at *; unfold ltE at *; simp at *; omega
 ntrans x y z h1 h2 := by rw [ltOf_cfE] at *; unfold ltE at *; simp at *; omega
theorem totE (x y : Int × Int) (h1 : ltOf cfE x y = false) (h2 : ltOf cfE y x = false) : x = y := by
 rw [ltOf_cfE] at h1 h2
 unfold ltE at h1 h2
 simp at h1 h2
 exact Prod.ext (by omega) (by omega)
theorem cmp_isNaN (x : Int) (W : World) : Calls Tryz.prog 214 #[.int .i64 x] W fun e w' => e = .returned (.bool false) ∧ w' = W := by
 go_enter Tryz.func214, Tryz.ntmps214
 go_wp2
 go_ret
 exact ⟨by simp, rfl⟩
theorem cmp_Compare64 (x y : Int) (W : World) : Calls Tryz.prog 210 #[.int .i64 x, .int .i64 y] W fun e w' => e = .returned (.int .i64 (Lib.compareInt x y)) ∧ w' = W := by
 have J1 := Lib.hid (cmp_isNaN x)
 have J2 := Lib.hid (cmp_isNaN y)
 unfold Lib.compareInt
 by_cases h1 : x < y
 ·rw [if_pos h1]
  go_enter Tryz.func210, Tryz.ntmps210
  go_wp2_with fail
  refine (J1.out _).mono ?_
  rintro e w1 ⟨rfl, rfl⟩
  go_wp2_with fail
  refine (J2.out _).mono ?_
  rintro e w2 ⟨rfl, rfl⟩
  go_wp2
  go_ret
  exact ⟨rfl, rfl⟩
 ·rw [if_neg h1]
  by_cases h2 : x > y
  ·rw [if_pos h2]
   go_enter Tryz.func210, Tryz.ntmps210
   go_wp2_with fail
   refine (J1.out _).mono ?_
   rintro e w1 ⟨rfl, rfl⟩
   go_wp2_with fail
   refine (J2.out _).mono ?_
   rintro e w2 ⟨rfl, rfl⟩
   go_wp2
   go_ret
   exact ⟨rfl, rfl⟩
  ·rw [if_neg h2]
   go_enter Tryz.func210, Tryz.ntmps210
   go_wp2_with fail
   refine (J1.out _).mono ?_
   rintro e w1 ⟨rfl, rfl⟩
   go_wp2_with fail
   refine (J2.out _).mono ?_
   rintro e w2 ⟨rfl, rfl⟩
   go_wp2
   go_ret
   exact ⟨rfl, rfl⟩
set_option maxHeartbeats 1000000 in
theorem cmp_Or2 (g : Nat) (x y : Int) (W : World) (h0 : W.cell? ⟨g, 0, none⟩ = some (.int .i64 x)) (h1 : W.cell? ⟨g, 1, none⟩ = some (.int .i64 y)) :
  Calls Tryz.prog 209 #[.slice (some ⟨g, 0, none⟩) 2 2] W fun e w' => e = .returned (.int .i64 (if x = 0 then y else x)) ∧ w' = W := by
 by_cases hx : x = 0
 ·subst hx
  by_cases hy : y = 0
  ·subst hy
   go_enter Tryz.func209, Tryz.ntmps209
   go_wp2
   refine wp_loop_rounds 3 ?_
   rw [rounds_succ]
   go_wp2
   rw [rounds_succ]
   go_wp2
   rw [rounds_succ]
   go_wp2
   go_ret
   exact ⟨rfl, rfl⟩
  ·go_enter Tryz.func209, Tryz.ntmps209
   go_wp2
   refine wp_loop_rounds 3 ?_
   rw [rounds_succ]
   go_wp2
   rw [rounds_succ]
   go_wp2
   go_ret
   exact ⟨by simp, rfl⟩
 ·rw [if_neg hx]
  go_enter Tryz.func209, Tryz.ntmps209
  go_wp2
  refine wp_loop_rounds 3 ?_
  rw [rounds_succ]
  go_wp2
  go_ret
  exact ⟨rfl, rfl⟩
def Grew (w w' : World) : Prop := ∃ q os, w' = grow (w.drewN q) os
theorem Grew.refl (w : World) : Grew w w := ⟨0, #[], by simp [grow, World.drewN]⟩
theorem Grew.alloc {w w' : World} (h : Grew w w') (o : Obj) : Grew w (w'.alloc o) := by
 obtain ⟨q, os, rfl⟩ := h
 exact ⟨q, os ++ #[o], by rw [alloc_eq_grow, grow_grow]⟩
theorem Grew.draw {w w' : World} (h : Grew w w') : Grew w { w' with drawn := w'.drawn + 1 } := by
 obtain ⟨q, os, rfl⟩ := h
 exact ⟨q + 1, os, rfl⟩
set_option maxHeartbeats 2000000 in
theorem impl_compareEdges (x y : Int × Int) (w : World) : Calls Tryz.prog 200 #[.agg #[.int .i64 x.1, .int .i64 x.2], .agg #[.int .i64 y.1, .int .i64 y.2]] w fun e w' => e = .returned (.int .i64 (cfE x y)) ∧ Grew w w' := by
 have ue := Tryz.underlying234
 have ui := Tryz.underlying2
 have H1 := Lib.hid (cmp_Compare64 x.1 y.1)
 have H2 := Lib.hid (cmp_Compare64 x.2 y.2)
 have HE : cfE x y = if Lib.compareInt x.1 y.1 = 0 then Lib.compareInt x.2 y.2 else Lib.compareInt x.1 y.1 := rfl
 generalize cfE x y = r at HE ⊢
 generalize Lib.compareInt x.1 y.1 = c1 at *
 generalize Lib.compareInt x.2 y.2 = c2 at *
 have HR := Lib.hid HE
 clear HE
 obtain ⟨x1, x2⟩ := x
 obtain ⟨y1, y2⟩ := y
 have k0 : ((w.alloc (.cells #[.int .i64 x1, .int .i64 x2] 234)).alloc (.cells #[.int .i64 y1, .int .i64 y2] 234)).cell? ⟨w.heap.size, 0, none⟩ = some (.int .i64 x1) := by go_simp
 have k1 : ((w.alloc (.cells #[.int .i64 x1, .int .i64 x2] 234)).alloc (.cells #[.int .i64 y1, .int .i64 y2] 234)).cell? ⟨w.heap.size, 1, none⟩ = some (.int .i64 x2) := by go_simp
 have k2 : ((w.alloc (.cells #[.int .i64 x1, .int .i64 x2] 234)).alloc (.cells #[.int .i64 y1, .int .i64 y2] 234)).cell? ⟨w.heap.size + 1, 0, none⟩ = some (.int .i64 y1) := by go_simp
 have k3 : ((w.alloc (.cells #[.int .i64 x1, .int .i64 x2] 234)).alloc (.cells #[.int .i64 y1, .int .i64 y2] 234)).cell? ⟨w.heap.size + 1, 1, none⟩ = some (.int .i64 y2) := by go_simp
 have hg : Grew w ((w.alloc (.cells #[.int .i64 x1, .int .i64 x2] 234)).alloc (.cells #[.int .i64 y1, .int .i64 y2] 234)) := ((Grew.refl w).alloc _).alloc _
 have HG := Lib.hid hg
 clear hg
 go_enter Tryz.func200, Tryz.ntmps200
 go_wp2_with fail
 generalize ((w.alloc (.cells #[.int .i64 x1, .int .i64 x2] 234)).alloc (.cells #[.int .i64 y1, .int .i64 y2] 234)) = W at *
 generalize w.heap.size + 1 = b' at *
 generalize w.heap.size = b at *
 refine Reg.wp_region_mix (C := fun w' => (w'.cell? ⟨b, 0, none⟩ = some (.int .i64 x1) ∧ w'.cell? ⟨b, 1, none⟩ = some (.int .i64 x2) ∧ w'.cell? ⟨b', 0, none⟩ = some (.int .i64 y1) ∧ w'.cell? ⟨b', 1, none⟩ = some (.int .i64 y2)) ∧ Grew w w') (G := fun w1 w2 => Below w1.heap.size w1 w2)
  (R := fun i v w' => match i with
   | 0 => v = .pointer (some ⟨b, 0, none⟩)
   | 1 => v = .int .i64 x1
   | 2 => v = .pointer (some ⟨b', 0, none⟩)
   | 3 => v = .int .i64 y1
   | 4 => v = .int .i64 c1
   | 5 => v = .pointer (some ⟨b, 1, none⟩)
   | 6 => v = .int .i64 x2
   | 7 => v = .pointer (some ⟨b', 1, none⟩)
   | 8 => v = .int .i64 y2
   | 9 => v = .int .i64 c2
   | 10 => ∃ g, v = .slice (some ⟨g, 0, none⟩) 2 2 ∧ w'.cell? ⟨g, 0, none⟩ = some (.int .i64 c1) ∧ w'.cell? ⟨g, 1, none⟩ = some (.int .i64 c2)
   | 11 => v = .int .i64 r
   | 12 => v = .int .i64 r
   | _ => True) (T := fun _ _ _ => True) [false, false, false, false, true, true, true, true, true, true, true, true, true, true, true, true, true]
  (by kernel_rfl) (by kernel_rfl) (by kernel_rfl) ?_ ⟨⟨k0, k1, k2, k3⟩, HG.out.draw⟩ ?_ ?_
 ·intro j v w1 w2 _ hG hR
  match j with
  | 0 => exact hR
  | 1 => exact hR
  | 2 => exact hR
  | 3 => exact hR
  | 4 => exact hR
  | 5 => exact hR
  | 6 => exact hR
  | 7 => exact hR
  | 8 => exact hR
  | 9 => exact hR
  | 10 => obtain ⟨g, e, h1, h2⟩ := hR; exact ⟨g, e, cell_below hG h1, cell_below hG h2⟩
  | 11 => exact hR
  | 12 => exact hR
  | _ + 13 => trivial
 ·refine ⟨Reg.Obl.mk ?_, Reg.Obl.mk ?_, Reg.Obl.mk ?_, Reg.Obl.mk ?_, Reg.Obl.mk ?_, Reg.Obl.mk ?_, Reg.Obl.mk ?_, Reg.Obl.mk ?_, Reg.Obl.mk ?_, Reg.Obl.mk ?_, Reg.Obl.mk ?_, Reg.Obl.mk ?_, Reg.Obl.mk ?_, trivial⟩
  ·rintro a w1 ⟨⟨y0, y1', y2', y3⟩, hB⟩ hx hd K hK
   have t2 : a.tmps[2]?.getD undef = .pointer (some ⟨b, 0, none⟩) := Reg.slot_val (hx 2 (by kernel_rfl))
   go_simp
   exact hK _ _ (fun _ => rfl) (fun h => by cases h) ⟨⟨y0, y1', y2', y3⟩, hB⟩ (Below.refl _ _)
  ·rintro a w1 ⟨⟨y0, y1', y2', y3⟩, hB⟩ hx hd K hK
   have t5 : a.tmps[5]?.getD undef = .pointer (some ⟨b, 0, none⟩) := Reg.slot_val (hd 0 (by kernel_rfl) 5 rfl)
   go_simp
   exact hK _ _ (fun _ => rfl) (fun h => by cases h) ⟨⟨y0, y1', y2', y3⟩, hB⟩ (Below.refl _ _)
  ·rintro a w1 ⟨⟨y0, y1', y2', y3⟩, hB⟩ hx hd K hK
   have t3 : a.tmps[3]?.getD undef = .pointer (some ⟨b', 0, none⟩) := Reg.slot_val (hx 3 (by kernel_rfl))
   go_simp
   exact hK _ _ (fun _ => rfl) (fun h => by cases h) ⟨⟨y0, y1', y2', y3⟩, hB⟩ (Below.refl _ _)
  ·rintro a w1 ⟨⟨y0, y1', y2', y3⟩, hB⟩ hx hd K hK
   have t7 : a.tmps[7]?.getD undef = .pointer (some ⟨b', 0, none⟩) := Reg.slot_val (hd 2 (by kernel_rfl) 7 rfl)
   go_simp
   exact hK _ _ (fun _ => rfl) (fun h => by cases h) ⟨⟨y0, y1', y2', y3⟩, hB⟩ (Below.refl _ _)
  ·rintro a w1 ⟨⟨y0, y1', y2', y3⟩, hB⟩ hx hd K hK
   have t6 : a.tmps[6]?.getD undef = .int .i64 x1 := Reg.slot_val (hd 1 (by kernel_rfl) 6 rfl)
   have t8 : a.tmps[8]?.getD undef = .int .i64 y1 := Reg.slot_val (hd 3 (by kernel_rfl) 8 rfl)
   go_simp
   refine (H1.out w1).mono ?_
   rintro en w2 ⟨rfl, rfl⟩
   exact hK _ _ (fun _ => rfl) (fun h => by cases h) ⟨⟨y0, y1', y2', y3⟩, hB⟩ (Below.refl _ _)
  ·rintro a w1 ⟨⟨y0, y1', y2', y3⟩, hB⟩ hx hd K hK
   have t2 : a.tmps[2]?.getD undef = .pointer (some ⟨b, 0, none⟩) := Reg.slot_val (hx 2 (by kernel_rfl))
   go_simp
   exact hK _ _ (fun _ => rfl) (fun h => by cases h) ⟨⟨y0, y1', y2', y3⟩, hB⟩ (Below.refl _ _)
  ·rintro a w1 ⟨⟨y0, y1', y2', y3⟩, hB⟩ hx hd K hK
   have t10 : a.tmps[10]?.getD undef = .pointer (some ⟨b, 1, none⟩) := Reg.slot_val (hd 5 (by kernel_rfl) 10 rfl)
   go_simp
   exact hK _ _ (fun _ => rfl) (fun h => by cases h) ⟨⟨y0, y1', y2', y3⟩, hB⟩ (Below.refl _ _)
  ·rintro a w1 ⟨⟨y0, y1', y2', y3⟩, hB⟩ hx hd K hK
   have t3 : a.tmps[3]?.getD undef = .pointer (some ⟨b', 0, none⟩) := Reg.slot_val (hx 3 (by kernel_rfl))
   go_simp
   exact hK _ _ (fun _ => rfl) (fun h => by cases h) ⟨⟨y0, y1', y2', y3⟩, hB⟩ (Below.refl _ _)
  ·rintro a w1 ⟨⟨y0, y1', y2', y3⟩, hB⟩ hx hd K hK
   have t12 : a.tmps[12]?.getD undef = .pointer (some ⟨b', 1, none⟩) := Reg.slot_val (hd 7 (by kernel_rfl) 12 rfl)
   go_simp
   exact hK _ _ (fun _ => rfl) (fun h => by cases h) ⟨⟨y0, y1', y2', y3⟩, hB⟩ (Below.refl _ _)
  ·rintro a w1 ⟨⟨y0, y1', y2', y3⟩, hB⟩ hx hd K hK
   have t11 : a.tmps[11]?.getD undef = .int .i64 x2 := Reg.slot_val (hd 6 (by kernel_rfl) 11 rfl)
   have t13 : a.tmps[13]?.getD undef = .int .i64 y2 := Reg.slot_val (hd 8 (by kernel_rfl) 13 rfl)
   go_simp
   refine (H2.out w1).mono ?_
   rintro en w2 ⟨rfl, rfl⟩
   exact hK _ _ (fun _ => rfl) (fun h => by cases h) ⟨⟨y0, y1', y2', y3⟩, hB⟩ (Below.refl _ _)
  ·rintro a w1 ⟨⟨y0, y1', y2', y3⟩, hB⟩ hx hd K hK
   have t9 : a.tmps[9]?.getD undef = .int .i64 c1 := Reg.slot_val (hd 4 (by kernel_rfl) 9 rfl)
   have t14 : a.tmps[14]?.getD undef = .int .i64 c2 := Reg.slot_val (hd 9 (by kernel_rfl) 14 rfl)
   go_simp
   have hn : Below w1.heap.size w1 (w1.alloc (.cells #[.int .i64 c1, .int .i64 c2] 3)) := (Below.refl _ _).alloc (Nat.le_refl _) _
   refine hK _ _ (fun _ => ⟨_, rfl, by go_simp, by go_simp⟩) (fun h => by cases h) ⟨⟨cell_below hn y0, cell_below hn y1', cell_below hn y2', cell_below hn y3⟩, hB.alloc _⟩ hn
  ·rintro a w1 ⟨⟨y0, y1', y2', y3⟩, hB⟩ hx hd K hK
   obtain ⟨g, e15, g0, g1⟩ := hd 10 (by kernel_rfl) 15 rfl
   have t15 : a.tmps[15]?.getD undef = .slice (some ⟨g, 0, none⟩) 2 2 := Reg.slot_val e15
   go_simp
   refine (cmp_Or2 g c1 c2 w1 g0 g1).mono ?_
   rintro en w2 ⟨rfl, rfl⟩
   rw [← HR.out]
   exact hK _ _ (fun _ => rfl) (fun h => by cases h) ⟨⟨y0, y1', y2', y3⟩, hB⟩ (Below.refl _ _)
  ·rintro a w1 ⟨⟨y0, y1', y2', y3⟩, hB⟩ hx hd K hK
   have t16 : a.tmps[16]?.getD undef = .int .i64 r := Reg.slot_val (hd 11 (by kernel_rfl) 16 rfl)
   go_simp
   exact hK _ _ (fun _ => rfl) (fun h => by cases h) ⟨⟨y0, y1', y2', y3⟩, hB⟩ (Below.refl _ _)
 ·rintro f w6 ⟨_, hgw⟩ hR hT
  have e4 := hR 12 4 rfl
  clear hR hT
  go_wp2
  go_ret
  exact ⟨e4 ▸ rfl, hgw⟩
theorem cmpLaysE (blk off size : Nat) (w : World) : CmpLays Tryz.prog 200 #[] cellsE 2 cfE blk off size w :=
 fun _ _ _ _ x y => impl_compareEdges x y _
set_option maxHeartbeats 1000000 in
theorem sort_edges (blk off cap : Nat) (d : Array (Int × Int)) (w : World) (hH : HoldsK cellsE 2 w blk off d) (hblk : blk < w.heap.size) (hsz : d.size < 4611686018427387904) :
  Calls Tryz.prog 207 #[.slice (some ⟨blk, off, none⟩) d.size cap, .func (.func 200) #[] #[]] w fun e w' =>
   e = .returned (.tuple #[]) ∧ ∃ n os, w' = sortWorldK cellsE 2 w blk off n (d.toList.mergeSort fun x y => !(ltOf cfE) y x).toArray os := by
 have eg : ∀ args w, (callFunc 200 args).run Tryz.prog w = .ok (.enter 200 args) w := enters_of Tryz.func200 (by kernel_rfl) rfl
 have hcon := AnyQ.slices_SortFunc_total Tryz.sortEdges 2 Tryz.isAgg234 Tryz.sizeOf234 cellsE (fun _ => rfl) (fun x v hv => by simp [cellsE] at hv; rcases hv with rfl | rfl <;> rfl) cfE swoE 200 #[] blk off cap d w eg (cmpLaysE blk off d.size w) hH hblk hsz totE
 exact hcon
theorem sort_none (p : Option Addr) (cap : Nat) (fv : Value) (w : World) : Calls Tryz.prog 207 #[.slice p 0 cap, fv] w fun e w' => e = .returned (.tuple #[]) ∧ w' = w := by
 have hcon := AnyF.slices_SortFunc_none Tryz.sortEdges p cap fv w
 exact hcon
end Go.Proofs.YtabccmobmppdnaaGreat
namespace Go.Proofs.YtabccmobmppdnaaGreat
open Go Fk Go.RowKit Go.Maps Go.Sort Go.Shelf Go.Lib
set_option linter.unusedVariables false
set_option maxRecDepth 100000
theorem flatE_cons (x : Int × Int) (ss : List (Int × Int)) : flatE (x :: ss) = .int .i64 x.1 :: .int .i64 x.2 :: flatE ss := by simp [flatE]
theorem flatE_len (ss : List (Int × Int)) : (flatE ss).length = ss.length * 2 := by
 induction ss with
 | nil => rfl
 | cons x ss ih => rw [flatE_cons]; simp [ih]; omega
theorem flatE_get : ∀ (ss : List (Int × Int)) (t : Nat), t < ss.length * 2 → (flatE ss)[t]? = some ((cellsE (ss.toArray[t / 2]!))[t % 2]!)
 | [], t, h => by simp at h
 | x :: ss, 0, h => by rw [flatE_cons]; simp [cellsE]
 | x :: ss, 1, h => by rw [flatE_cons]; simp [cellsE]
 | x :: ss, t + 2, h => by
  rw [flatE_cons, List.getElem?_cons_succ, List.getElem?_cons_succ, flatE_get ss t (by simp at h; omega)]
  have h1 : (t + 2) / 2 = t / 2 + 1 := by omega
  have h2 : (t + 2) % 2 = t % 2 := by omega
  rw [h1, h2]
  have h3 : t / 2 < ss.length := by simp at h; omega
  simp [h3]
theorem flatK_E (ss : List (Int × Int)) (t : Nat) (h : t < ss.length * 2) : (flatE ss)[t]? = some (flatK cellsE 2 ss.toArray)[t]! := by
 rw [get_flatK _ _ _ _ (by simpa using h)]
 exact flatE_get ss t h
theorem holds_edges {w : World} {g : Nat} {cur : Array Value} {e : TypeId} {ss : List (Int × Int)} (hb : w.heap[g]? = some (.cells cur e (0, 0))) (ht : cur.toList.take (ss.length * 2) = flatE ss) : HoldsK cellsE 2 w g 0 ss.toArray := by
 intro j hj
 have hj' : j < ss.length * 2 := by simpa using hj
 refine ⟨?_, by simp [World.frozen?, hb]⟩
 have h1 : (cur.toList.take (ss.length * 2))[j]? = (flatE ss)[j]? := by rw [ht]
 rw [List.getElem?_take_of_lt hj', flatK_E ss j hj'] at h1
 simp only [World.cell?, hb, Nat.zero_add]
 simp only [Option.isSome_none, Bool.false_eq_true, if_false]
 rw [← Array.getElem?_toList, h1]
 rfl
theorem heap_sortedK {w : World} {g n : Nat} {os : Array Obj} {cur : Array Value} {e : TypeId} {fr : Nat × Nat} (d : Array (Int × Int)) (hb : w.heap[g]? = some (.cells cur e fr)) :
  (sortWorldK cellsE 2 w g 0 n d os).heap[g]? = some (.cells (putCells id 0 (flatK cellsE 2 d) cur) e fr) := by
 have hg : g < w.heap.size := (Array.getElem?_eq_some_iff.1 hb).1
 unfold sortWorldK putRowK
 rw [heap_grow_old _ _ (by simpa using hg)]
 simp [putRow, mapBlock, Sort.ahead, Array.getElem?_modify, hb, onCells]
theorem grownBy_sortedK {w : World} {g n : Nat} {os : Array Obj} (d : Array (Int × Int)) : w.grownBy (sortWorldK cellsE 2 w g 0 n d os) (some g) := by
 unfold sortWorldK putRowK
 refine ⟨rfl, rfl, rfl, by simp, fun k hk hne => ?_⟩
 rw [heap_grow_old _ _ (by simpa using hk)]
 have : g ≠ k := fun e => hne (by rw [e])
 simp [putRow, mapBlock, Sort.ahead, Array.getElem?_modify, this]
theorem take_putK (cur : Array Value) (ts : List (Int × Int)) (h : ts.length * 2 ≤ cur.size) : (putCells id 0 (flatK cellsE 2 ts.toArray) cur).toList.take (ts.length * 2) = flatE ts := by
 apply List.ext_getElem?
 intro j
 by_cases hj : j < ts.length * 2
 ·rw [List.getElem?_take_of_lt hj, Array.getElem?_toList, flatK_E ts j hj]
  simp [putCells, hj, show j < cur.size by omega]
 ·rw [List.getElem?_take_eq_none (by omega), List.getElem?_eq_none (by rw [flatE_len]; omega)]
theorem ownsRow_sortedK {w : World} {base g cap n : Nat} {e : TypeId} {os : Array Obj} {cur : Array Value} {ss ts : List (Int × Int)} (hl : ts.length = ss.length) (hbase : base ≤ g) (hb : w.heap[g]? = some (.cells cur e (0, 0)))
  (h1 : ss.length ≤ cap) (h2 : cap ≤ maxLen) (h3 : cur.size = cap * 2) :
  (sortWorldK cellsE 2 w g 0 n ts.toArray os).ownsRow base e 2 (.slice (some ⟨g, 0, none⟩) ss.length cap) ss.length (flatE ts) :=
 ⟨by rw [flatE_len, hl], .inr ⟨g, cap, _, rfl, hbase, heap_sortedK _ hb, h1, h2, by simp [putCells, h3], by rw [← hl]; exact take_putK cur ts (by omega)⟩⟩
def sortE (ss : List (Int × Int)) : List (Int × Int) := ss.mergeSort fun x y => !(ltOf cfE) y x
set_option maxHeartbeats 2000000 in
theorem sortedFuncE (n : Nat) (hn : 4 ≤ n) (g : Nat) (lb : Array Value) (eg : ∀ args w, (callFunc g args).run Tryz.prog w = .ok (.enter g args) w)
  (S : List (Int × Int) → Prop) (N : Nat) (hN : N ≤ maxLen) (hNb : N * 16 ≤ 140737488355328) (w : World) (hseq : SeqGives Fence.wide (n - 1 - 1 - 1) Tryz.prog g lb encE S N w) :
  CallsIn Fence.wide n Tryz.prog 198 #[.func (.func g) #[] lb, .func (.func 200) #[] #[]] w fun e w' => ∃ (v : Value) (ss : List (Int × Int)), e = .returned v ∧ S ss ∧
   w'.ownsRow w.heap.size 234 2 v ss.length (flatE (sortE ss)) ∧ (v = .slice none 0 0 ↔ ss = []) ∧ Below w.heap.size w w' := by
 have h1 : 1 ≤ n := by omega
 have h8 : Fence.wide.fn 206 := trivial
 have h9 : Fence.wide.fn 207 := trivial
 have e8 : ∀ args w, (callFunc 206 args).run Tryz.prog w = .ok (.enter 206 args) w := enters_of Tryz.func206 (by kernel_rfl) rfl
 have e9 : ∀ args w, (callFunc 207 args).run Tryz.prog w = .ok (.enter 207 args) w := enters_of Tryz.func207 (by kernel_rfl) rfl
 refine callsIn_of_wp Tryz.func198 rfl trivial ?_ rfl
 simp only [Tryz.ntmps198, List.size_toArray, List.length_cons, List.length_nil, Nat.reduceAdd, Nat.reduceSub, Array.replicate_succ, Array.replicate_zero, List.push_toArray, List.append_toArray, List.nil_append, List.cons_append]
 gi_wp2_with (gi_at_fn 206; refine (collect_in (n - 1) (by omega) g lb eg _ N hN hNb _ hseq.bounded).mono ?_; rintro e W ⟨v, ss, rfl, ⟨hS, hlen⟩, hrow, hnil, hb⟩)
 rcases hrow.2 with ⟨rfl, hz⟩ | ⟨gb, cap, cur, rfl, hbase, hgb, r1, r2, r3, r4⟩
 ·have hss : ss = [] := List.eq_nil_of_length_eq_zero hz
  subst hss
  gi_wp2_with (gi_at_fn 207; refine (callsIn_wide.2 (sort_none none 0 _ W)).mono ?_; rintro e w' ⟨rfl, rfl⟩)
  go_ret
  exact ⟨.slice none 0 0, [], rfl, hS, by simpa [sortE] using hrow, by simp, hb⟩
 ·have hH : HoldsK cellsE 2 W gb 0 ss.toArray := holds_edges hgb (by simpa using r4)
  have hgl : gb < W.heap.size := (Array.getElem?_eq_some_iff.1 hgb).1
  have hsz : ss.length < 4611686018427387904 := by omega
  have cS := sort_edges gb 0 cap ss.toArray W hH hgl (by simpa using hsz)
  simp only [List.size_toArray] at cS
  gi_wp2_with (gi_at_fn 207; refine (callsIn_wide.2 cS).mono ?_; rintro e w' ⟨rfl, nn, os, rfl⟩)
  go_ret
  exact ⟨_, ss, rfl, hS, ownsRow_sortedK (by simp) hbase hgb r1 r2 r3, hnil, hb.grown (grownBy_sortedK _) hb.size (fun j hj => by cases hj; exact hbase)⟩
set_option maxHeartbeats 1000000 in
theorem impl_sortedEdges (b nn : Nat) (D0 : DataW Unit) (R : Value → Option (DataW Unit × List MemPlace)) (w : World) (hown : w.ownsMap Tryz.prog 234 R b nn D0) (hmax : Maps.size D0 ≤ maxLen) (hbytes : Maps.size D0 * 16 ≤ 140737488355328) :
  Calls Tryz.prog 183 #[.map (some b)] w fun e w' => ∃ (v : Value) (ss : List (Int × Int)), e = .returned v ∧ KeysE D0 ss ∧
   w'.ownsRow w.heap.size 234 2 v ss.length (flatE (sortE ss)) ∧ (v = .slice none 0 0 ↔ ss = []) ∧ Below w.heap.size w w' := by
 refine (callsIn_wide (n := 6)).1 ?_
 have hbl := hown.lt
 have hseq := keysE_gives 2 (by omega) w.heap.size b nn D0 (R := R) (w.alloc (.cells #[.map (some b)] 229)) (by simp) (by simp) (by
   obtain ⟨es, clock, hb, Ft, hs, hD⟩ := hown
   exact ⟨es, clock, (Below.heap_alloc _ _ b hbl).trans hb, Ft, hs, hD⟩)
 have cK := fun mb W => maps_KeysE 5 mb W
 have cS := sortedFuncE 5 (by omega) 208 #[.pointer (some ⟨w.heap.size, 0, none⟩)] (enters_of Tryz.func208 (by kernel_rfl) rfl) _ _ hmax hbytes _ hseq
 have hfK : Fence.wide.fn 199 := trivial
 have hfS : Fence.wide.fn 198 := trivial
 refine callsIn_of_wp Tryz.func183 rfl trivial ?_ rfl
 simp only [Tryz.ntmps183, List.size_toArray, List.length_cons, List.length_nil, Nat.reduceAdd, Nat.reduceSub, Array.replicate_succ, Array.replicate_zero, List.push_toArray, List.append_toArray, List.nil_append, List.cons_append]
 gi_wp2_with (first
  | (gi_at_call 199; refine (cK _ _).mono ?_; rintro e w' ⟨rfl, rfl⟩)
  | (gi_at_call 198; refine cS.mono ?_; rintro e w' ⟨v, ss, rfl, hS, hrow, hnil, hb⟩))
 go_ret
 exact ⟨v, ss, rfl, hS, ownsRow_base_a hrow (by simp), hnil, ((Below.refl _ w).alloc (Nat.le_refl _) _).trans (hb.mono (by simp))⟩
end Go.Proofs.YtabccmobmppdnaaGreat
namespace Go.Proofs.YtabccmobmppdnaaGreat
open Go Fk Go.RowKit
set_option linter.unusedVariables false
set_option maxRecDepth 8000
def eKey (a b : Int) : Int × Int := (min a b, max a b)
def triE (t : List Int) : List (Int × Int) := [eKey (t.getD 0 0) (t.getD 1 0), eKey (t.getD 1 0) (t.getD 2 0), eKey (t.getD 2 0) (t.getD 0 0)]
def keysE (ts : List (List Int)) : List (Int × Int) := ts.flatMap triE
def preE (ts : List (List Int)) (k j : Nat) : List (Int × Int) := (ts.take k).flatMap triE ++ (triE (ts.getD k [])).take j
theorem preE_zero (ts : List (List Int)) : preE ts 0 0 = [] := by simp [preE]
theorem preE_end (ts : List (List Int)) : preE ts ts.length 0 = keysE ts := by simp [preE, keysE]
theorem preE_next {ts : List (List Int)} {k : Nat} (hk : k < ts.length) : preE ts k 3 = preE ts (k + 1) 0 := by
 have e : ts.take (k + 1) = ts.take k ++ [ts.getD k []] := by
  rw [List.take_add_one, List.getElem?_eq_getElem hk]
  simp [List.getD, List.getElem?_eq_getElem hk]
 unfold preE
 rw [e, List.flatMap_append, List.flatMap_cons, List.flatMap_nil, List.append_nil, List.take_zero, List.append_nil]
 rfl
theorem preE_step {ts : List (List Int)} {k j : Nat} (hj : j < 3) : preE ts k (j + 1) = preE ts k j ++ [(triE (ts.getD k [])).getD j (0, 0)] := by
 match j, hj with
 | 0, _ => simp [preE, triE]
 | 1, _ => simp [preE, triE]
 | 2, _ => simp [preE, triE]
def SeenT (w : World) (b n : Nat) (L : List (Int × Int)) : Prop :=
 (∀ x y, x < n → y < n → w.cell? ⟨b, x * n + y, none⟩ = some (.bool (decide (((x : Int), (y : Int)) ∈ L)))) ∧ (∀ i, w.frozen? ⟨b, i, none⟩ = false) ∧ b < w.heap.size
theorem flat_lt {x y n : Nat} (hx : x < n) (hy : y < n) : x * n + y < n * n := by
 have : (x + 1) * n ≤ n * n := Nat.mul_le_mul_right n hx
 rw [Nat.succ_mul] at this
 omega
theorem flat_inj {x y p q n : Nat} (hy : y < n) (hq : q < n) (h : x * n + y = p * n + q) : x = p ∧ y = q := by
 have h1 : (x * n + y) / n = x := by rw [Nat.mul_comm, Nat.mul_add_div (by omega), Nat.div_eq_of_lt hy]; omega
 have h2 : (p * n + q) / n = p := by rw [Nat.mul_comm, Nat.mul_add_div (by omega), Nat.div_eq_of_lt hq]; omega
 have : x = p := by rw [← h1, ← h2, h]
 subst this
 exact ⟨rfl, by omega⟩
theorem SeenT.set {w : World} {b n p q : Nat} {L : List (Int × Int)} (h : SeenT w b n L) (hp : p < n) (hq : q < n) : SeenT (w.setCell ⟨b, p * n + q, none⟩ (.bool true)) b n (L ++ [((p : Int), (q : Int))]) := by
 refine ⟨fun x y hx hy => ?_, fun i => by simpa using h.2.1 i, by simpa using h.2.2⟩
 by_cases e : x * n + y = p * n + q
 ·obtain ⟨rfl, rfl⟩ := flat_inj hy hq e
  rw [World.cell?_setCell_same _ _ _ (h.1 x y hx hy)]
  simp
 ·rw [World.cell?_setCell_other _ _ _ _ (by first | (simp; done) | (simp; exact fun e' => e e'.symm)), h.1 x y hx hy]
  have hne : ¬ (((x : Int), (y : Int)) = ((p : Int), (q : Int))) := fun e' => by
   rw [Prod.mk.injEq] at e'
   obtain ⟨e1, e2⟩ := e'
   exact e (by rw [Int.ofNat.inj e1, Int.ofNat.inj e2])
  simp only [List.mem_append, List.mem_singleton, hne, or_false]
theorem SeenT.below {w w' : World} {b n : Nat} {L : List (Int × Int)} (h : SeenT w b n L) (hB : Below w.heap.size w w') : SeenT w' b n L :=
 ⟨fun x y hx hy => cell_below hB (h.1 x y hx hy), fun i => by rw [hB.frozen (p := ⟨b, i, none⟩) h.2.2]; exact h.2.1 i, Nat.lt_of_lt_of_le h.2.2 hB.size⟩
def rowE (L : List (Int × Int)) (b x : Nat) : List (List Int) := ((List.range b).filter fun y : Nat => decide (x < y) && decide (((x : Int), (y : Int)) ∈ L)).map fun y : Nat => [(x : Int), (y : Int)]
def rowsE (L : List (Int × Int)) (n a : Nat) : List (List Int) := (List.range a).flatMap (rowE L n)
def edgesT (n : Nat) (ts : List (List Int)) : List (List Int) := rowsE (keysE ts) n n
theorem rowE_start (L : List (Int × Int)) (a : Nat) : rowE L (a + 1) a = [] := by
 unfold rowE
 have : ((List.range (a + 1)).filter fun y : Nat => decide (a < y) && decide (((a : Int), (y : Int)) ∈ L)) = [] := by
  rw [List.filter_eq_nil_iff]
  intro y hy
  have := List.mem_range.1 hy
  simp; intro h; omega
 rw [this]; rfl
theorem rowE_yes {L : List (Int × Int)} {a b : Nat} (hab : a < b) (h : decide (((a : Int), (b : Int)) ∈ L) = true) : rowE L (b + 1) a = rowE L b a ++ [[(a : Int), (b : Int)]] := by
 unfold rowE
 rw [List.range_succ, List.filter_append, List.map_append]
 have : decide (a < b) = true := decide_eq_true hab
 simp only [List.filter_cons, List.filter_nil, this, h, Bool.and_self, if_true, List.map_cons, List.map_nil]
theorem rowE_no {L : List (Int × Int)} {a b : Nat} (h : decide (((a : Int), (b : Int)) ∈ L) = false) : rowE L (b + 1) a = rowE L b a := by
 unfold rowE
 rw [List.range_succ, List.filter_append, List.map_append]
 first
  | (simp [h]; done)
  | (simp [h]; intro _; simpa using h)
theorem rowsE_next (L : List (Int × Int)) (n a : Nat) : rowsE L n (a + 1) = rowsE L n a ++ rowE L n a := by
 simp [rowsE, List.range_succ]
theorem rowE_len (L : List (Int × Int)) (b x : Nat) : (rowE L b x).length ≤ b := by
 unfold rowE
 rw [List.length_map]
 exact Nat.le_trans (List.length_filter_le _ _) (by simp)
theorem rowsE_len (L : List (Int × Int)) (n : Nat) : ∀ a, (rowsE L n a).length ≤ a * n
 | 0 => by simp [rowsE]
 | a + 1 => by
  rw [rowsE_next, List.length_append, Nat.succ_mul]
  exact Nat.add_le_add (rowsE_len L n a) (rowE_len L n a)
theorem l00Min (x y : Int) (w : World) : Calls Tryz.prog 201 #[.int .i64 x, .int .i64 y] w fun e w' => e = .returned (.int .i64 (min x y)) ∧ w' = w := by
 by_cases h : x < y
 ·have e : min x y = x := by omega
  rw [e]
  clear e
  go_enter Tryz.func201, Tryz.ntmps201
  go_wp2
  go_ret
  exact ⟨rfl, rfl⟩
 ·have e : min x y = y := by omega
  rw [e]
  clear e
  go_enter Tryz.func201, Tryz.ntmps201
  go_wp2
  go_ret
  exact ⟨rfl, rfl⟩
theorem l00Max (x y : Int) (w : World) : Calls Tryz.prog 202 #[.int .i64 x, .int .i64 y] w fun e w' => e = .returned (.int .i64 (max x y)) ∧ w' = w := by
 by_cases h : y < x
 ·have e : max x y = x := by omega
  rw [e]
  clear e
  go_enter Tryz.func202, Tryz.ntmps202
  go_wp2
  go_ret
  exact ⟨rfl, rfl⟩
 ·have e : max x y = y := by omega
  rw [e]
  clear e
  go_enter Tryz.func202, Tryz.ntmps202
  go_wp2
  go_ret
  exact ⟨rfl, rfl⟩
theorem infoBool : (Tryz.prog.info? 4).map (fun i => (i.zero, i.size, i.bytes)) = some (some (.bool false), 1, 1) := by kernel_rfl
end Go.Proofs.YtabccmobmppdnaaGreat
namespace Go.Proofs.YtabccmobmppdnaaGreat
open Go Fk Go.RowKit
set_option linter.unusedVariables false
set_option maxRecDepth 8000
def hasB (t : List Int) (p : Int) : Bool := decide (t.getD 0 0 = p) || (decide (t.getD 1 0 = p) || decide (t.getD 2 0 = p))
def atL (ts : List (List Int)) (p q : Int) : Nat → List Int
 | 0 => []
 | k + 1 => atL ts p q k ++ (bif hasB (ts.getD k []) p && hasB (ts.getD k []) q then [(k : Int)] else [])
theorem atL_len (ts : List (List Int)) (p q : Int) (k : Nat) : (atL ts p q k).length ≤ k := by
 induction k with
 | zero => simp [atL]
 | succ k ih => unfold atL; rw [List.length_append]; cases (hasB (ts.getD k []) p && hasB (ts.getD k []) q) <;> simp <;> omega
end Go.Proofs.YtabccmobmppdnaaGreat
namespace Go.Proofs.YtabccmobmppdnaaGreat
open Go Fk Go.RowKit
set_option linter.unusedVariables false
set_option maxRecDepth 8000
end Go.Proofs.YtabccmobmppdnaaGreat

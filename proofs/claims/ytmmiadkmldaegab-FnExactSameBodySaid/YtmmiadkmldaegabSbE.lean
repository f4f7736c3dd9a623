
/-
Whether two bodies are the same: what the model returns. Conditions: none.
-/
import Derived.Test.YtmmiadkmldaegabSbD
import Derived.Test.YtmmiadkmldaegabRegG
namespace Go.Proofs.Ytmmiadkmldaegab
open Go Fk Go.RowKit
set_option linter.unusedVariables false
set_option maxRecDepth 8000
set_option maxHeartbeats 2000000 in
theorem l03Same_1 (pa pb : Nat) (B B' : Bd) (c c' : Bc) (w : World) (a0 : At w pa B.l) (a1 : At w pb B'.l) (h : IsB w B c) (h' : IsB w B' c') (hb : bd1 c c' = false) :
    Calls Try.prog 39 #[.pointer (some ⟨pa, 0, none⟩), .pointer (some ⟨pb, 0, none⟩)] w fun e w' => e = .returned (.bool false) ∧ Below w.heap.size w w' := by
  have ui := Try.underlying41
  have um := Try.underlying37
  have us := Try.underlying75
  have uv := Try.underlying39
  have J1 := fun w' (hB : Below w.heap.size w w') => spec_SameMesh _ _ _ _ _ _ _ _ _ _ _ _ c.cs c'.cs c.ts c'.ts w' (h.1.below hB) (h.2.1.below hB) (h'.1.below hB) (h'.2.1.below hB)
  have J5 := fun w' (hB : Below w.heap.size w w') => l01SameAll _ _ _ _ _ _ c.zs c'.zs w' (IsFs_below hB h.2.2.2.1) (IsFs_below hB h'.2.2.2.1)
  have A0 := Lib.hid a0
  have A1 := Lib.hid a1
  unfold bd1 at hb
  simp only [hb] at J1
  have J1 := Lib.hid J1
  clear h h' hb a0 a1 J5
  go_enter Try.func39, Try.ntmps39
  go_wp2_with fail
  refine RegG.wp_region_mix (C := fun w' => Below w.heap.size w w') (G := fun _ _ => True) (R := fun i v w' => match i with | 0 => v = .pointer (some ⟨pa, 0, none⟩) | 1 => v = .pointer (some ⟨pa, 0, none⟩) | 2 => v = .pointer (some ⟨pa, 0, none⟩) | 3 => v = .agg #[.slice B.pa B.pl B.pc, .slice B.ta B.tl B.tc] | 4 => v = .pointer (some ⟨pb, 0, none⟩) | 5 => v = .pointer (some ⟨pb, 0, none⟩) | 6 => v = .pointer (some ⟨pb, 0, none⟩) | 7 => v = .agg #[.slice B'.pa B'.pl B'.pc, .slice B'.ta B'.tl B'.tc] | 8 => v = .bool false | 9 => v = .bool true | 10 => v = .bool true | 22 => v = .bool true | 23 => v = .bool true | 34 => v = .bool true | _ => True) (T := fun _ _ _ => True) [false, false, false, false, false, false, false, false, true, true, true, true, true, true, true, true, true, true, true, true, true, true, true, true, true, true, true, true, true, true, true, true, true, true, true, true, true, true, true, true, true, true, true, false, false, false, false, false, false, false, false, false, false, false, false, false, false, false, false, false, false, false, false, false, false, false, false, false, false, false, false, false, false, false, false, false, false, false, false, false, false, false, false, false, false, false, false, false, false, false, false, false, false, false, false, false, false, false, false, false, false, false, false, false, false, false, false, false, false, false, false, false, false, false, false, false, false, false, false, false, false, false, false, false, false]
    (by kernel_rfl) (by kernel_rfl) (by kernel_rfl) (fun _ _ _ _ _ _ h => h) (fun _ => trivial) (below_drewN (Below.refl _ _) 1) ?_ ?_
  · refine ⟨RegG.Obl.mk rfl ?_, RegG.Obl.mk rfl ?_, RegG.Obl.mk rfl ?_, RegG.Obl.mk rfl ?_, RegG.Obl.mk rfl ?_, RegG.Obl.mk rfl ?_, RegG.Obl.mk rfl ?_, RegG.Obl.mk rfl ?_, RegG.Obl.mk rfl ?_, RegG.Obl.mk rfl ?_, RegG.Obl.mk rfl ?_, RegG.Obl.skip 10 18 false true rfl rfl (by kernel_rfl) (by decide) (fun a w h => h 18 rfl) (fun _ => trivial) (by simp), RegG.Obl.skip 10 18 false true rfl rfl (by kernel_rfl) (by decide) (fun a w h => h 18 rfl) (fun _ => trivial) (by simp), RegG.Obl.skip 10 18 false true rfl rfl (by kernel_rfl) (by decide) (fun a w h => h 18 rfl) (fun _ => trivial) (by simp), RegG.Obl.skip 10 18 false true rfl rfl (by kernel_rfl) (by decide) (fun a w h => h 18 rfl) (fun _ => trivial) (by simp), RegG.Obl.skip 10 18 false true rfl rfl (by kernel_rfl) (by decide) (fun a w h => h 18 rfl) (fun _ => trivial) (by simp), RegG.Obl.skip 10 18 false true rfl rfl (by kernel_rfl) (by decide) (fun a w h => h 18 rfl) (fun _ => trivial) (by simp), RegG.Obl.skip 10 18 false true rfl rfl (by kernel_rfl) (by decide) (fun a w h => h 18 rfl) (fun _ => trivial) (by simp), RegG.Obl.skip 10 18 false true rfl rfl (by kernel_rfl) (by decide) (fun a w h => h 18 rfl) (fun _ => trivial) (by simp), RegG.Obl.skip 10 18 false true rfl rfl (by kernel_rfl) (by decide) (fun a w h => h 18 rfl) (fun _ => trivial) (by simp), RegG.Obl.skip 10 18 false true rfl rfl (by kernel_rfl) (by decide) (fun a w h => h 18 rfl) (fun _ => trivial) (by simp), RegG.Obl.skip 10 18 false true rfl rfl (by kernel_rfl) (by decide) (fun a w h => h 18 rfl) (fun _ => trivial) (by simp), RegG.Obl.mk rfl ?_, RegG.Obl.mk rfl ?_, RegG.Obl.skip 23 31 false true rfl rfl (by kernel_rfl) (by decide) (fun a w h => h 31 rfl) (fun _ => trivial) (by simp), RegG.Obl.skip 23 31 false true rfl rfl (by kernel_rfl) (by decide) (fun a w h => h 31 rfl) (fun _ => trivial) (by simp), RegG.Obl.skip 23 31 false true rfl rfl (by kernel_rfl) (by decide) (fun a w h => h 31 rfl) (fun _ => trivial) (by simp), RegG.Obl.skip 23 31 false true rfl rfl (by kernel_rfl) (by decide) (fun a w h => h 31 rfl) (fun _ => trivial) (by simp), RegG.Obl.skip 23 31 false true rfl rfl (by kernel_rfl) (by decide) (fun a w h => h 31 rfl) (fun _ => trivial) (by simp), RegG.Obl.skip 23 31 false true rfl rfl (by kernel_rfl) (by decide) (fun a w h => h 31 rfl) (fun _ => trivial) (by simp), RegG.Obl.skip 23 31 false true rfl rfl (by kernel_rfl) (by decide) (fun a w h => h 31 rfl) (fun _ => trivial) (by simp), RegG.Obl.skip 23 31 false true rfl rfl (by kernel_rfl) (by decide) (fun a w h => h 31 rfl) (fun _ => trivial) (by simp), RegG.Obl.skip 23 31 false true rfl rfl (by kernel_rfl) (by decide) (fun a w h => h 31 rfl) (fun _ => trivial) (by simp), RegG.Obl.skip 23 31 false true rfl rfl (by kernel_rfl) (by decide) (fun a w h => h 31 rfl) (fun _ => trivial) (by simp), RegG.Obl.mk rfl ?_, trivial⟩
    · rintro a w1 hC hx hd K hK
      have HC := Lib.hid hC
      clear hC
      have t0 : a.tmps[0]?.getD undef = .pointer (some ⟨pa, 0, none⟩) := Reg.slot_val (hx 0 (by kernel_rfl))
      go_simp
      exact hK _ _ (fun _ => rfl) (fun h => by cases h) HC.out trivial
    · rintro a w1 hC hx hd K hK
      have HC := Lib.hid hC
      clear hC
      have t8 : a.tmps[8]?.getD undef = .pointer (some ⟨pa, 0, none⟩) := Reg.slot_val (hd 0 (by kernel_rfl) 8 rfl)
      go_simp
      exact hK _ _ (fun _ => rfl) (fun h => by cases h) HC.out trivial
    · rintro a w1 hC hx hd K hK
      have HC := Lib.hid hC
      clear hC
      have t9 : a.tmps[9]?.getD undef = .pointer (some ⟨pa, 0, none⟩) := Reg.slot_val (hd 1 (by kernel_rfl) 9 rfl)
      go_simp
      exact hK _ _ (fun _ => rfl) (fun h => by cases h) HC.out trivial
    · rintro a w1 hC hx hd K hK
      have HC := Lib.hid hC
      clear hC
      have y0 := A0.out.below HC.out 0 _ rfl
      have y1 := A0.out.below HC.out 1 _ rfl
      have t10 : a.tmps[10]?.getD undef = .pointer (some ⟨pa, 0, none⟩) := Reg.slot_val (hd 2 (by kernel_rfl) 10 rfl)
      go_simp
      exact hK _ _ (fun _ => rfl) (fun h => by cases h) HC.out trivial
    · rintro a w1 hC hx hd K hK
      have HC := Lib.hid hC
      clear hC
      have t1 : a.tmps[1]?.getD undef = .pointer (some ⟨pb, 0, none⟩) := Reg.slot_val (hx 1 (by kernel_rfl))
      go_simp
      exact hK _ _ (fun _ => rfl) (fun h => by cases h) HC.out trivial
    · rintro a w1 hC hx hd K hK
      have HC := Lib.hid hC
      clear hC
      have t12 : a.tmps[12]?.getD undef = .pointer (some ⟨pb, 0, none⟩) := Reg.slot_val (hd 4 (by kernel_rfl) 12 rfl)
      go_simp
      exact hK _ _ (fun _ => rfl) (fun h => by cases h) HC.out trivial
    · rintro a w1 hC hx hd K hK
      have HC := Lib.hid hC
      clear hC
      have t13 : a.tmps[13]?.getD undef = .pointer (some ⟨pb, 0, none⟩) := Reg.slot_val (hd 5 (by kernel_rfl) 13 rfl)
      go_simp
      exact hK _ _ (fun _ => rfl) (fun h => by cases h) HC.out trivial
    · rintro a w1 hC hx hd K hK
      have HC := Lib.hid hC
      clear hC
      have y0 := A1.out.below HC.out 0 _ rfl
      have y1 := A1.out.below HC.out 1 _ rfl
      have t14 : a.tmps[14]?.getD undef = .pointer (some ⟨pb, 0, none⟩) := Reg.slot_val (hd 6 (by kernel_rfl) 14 rfl)
      go_simp
      exact hK _ _ (fun _ => rfl) (fun h => by cases h) HC.out trivial
    · rintro a w1 hC hx hd K hK
      have HC := Lib.hid hC
      clear hC
      have t11 : a.tmps[11]?.getD undef = .agg #[.slice B.pa B.pl B.pc, .slice B.ta B.tl B.tc] := Reg.slot_val (hd 3 (by kernel_rfl) 11 rfl)
      have t15 : a.tmps[15]?.getD undef = .agg #[.slice B'.pa B'.pl B'.pc, .slice B'.ta B'.tl B'.tc] := Reg.slot_val (hd 7 (by kernel_rfl) 15 rfl)
      go_simp
      refine (J1.out _ HC.out).mono ?_
      rintro en w2 ⟨rfl, hB2⟩
      exact hK _ _ (fun _ => rfl) (fun h => by cases h) (HC.out.trans (hB2.mono HC.out.size)) trivial
    · rintro a w1 hC hx hd K hK
      have HC := Lib.hid hC
      clear hC
      have t16 : a.tmps[16]?.getD undef = .bool false := Reg.slot_val (hd 8 (by kernel_rfl) 16 rfl)
      go_simp
      exact hK _ _ (fun _ => rfl) (fun h => by cases h) HC.out trivial
    · rintro a w1 hC hx hd K hK
      have HC := Lib.hid hC
      clear hC
      have t17 : a.tmps[17]?.getD undef = .bool true := Reg.slot_val (hd 9 (by kernel_rfl) 17 rfl)
      go_simp
      exact hK _ _ (fun _ => rfl) (fun h => by cases h) HC.out trivial
    · rintro a w1 hC hx hd K hK
      have HC := Lib.hid hC
      clear hC
      have t18 : a.tmps[18]?.getD undef = .bool true := Reg.slot_val (hd 10 (by kernel_rfl) 18 rfl)
      go_simp
      exact hK _ _ (fun _ => rfl) (fun h => by cases h) HC.out trivial
    · rintro a w1 hC hx hd K hK
      have HC := Lib.hid hC
      clear hC
      have t30 : a.tmps[30]?.getD undef = .bool true := Reg.slot_val (hd 22 (by kernel_rfl) 30 rfl)
      go_simp
      exact hK _ _ (fun _ => rfl) (fun h => by cases h) HC.out trivial
    · rintro a w1 hC hx hd K hK
      have HC := Lib.hid hC
      clear hC
      have t31 : a.tmps[31]?.getD undef = .bool true := Reg.slot_val (hd 23 (by kernel_rfl) 31 rfl)
      go_simp
      exact hK _ _ (fun _ => rfl) (fun h => by cases h) HC.out trivial
  · rintro f wz hC hd hT
    have g42 : f 42 = .bool true := hd 34 42 rfl
    simp only [Reg.mixL, g42]
    have HC := Lib.hid hC
    clear hC hd hT
    go_wp2
    go_ret
    exact ⟨rfl, HC.out⟩
set_option maxHeartbeats 2000000 in
theorem l03Same_2 (pa pb : Nat) (B B' : Bd) (c c' : Bc) (w : World) (a0 : At w pa B.l) (a1 : At w pb B'.l) (h : IsB w B c) (h' : IsB w B' c') (hb : bd1 c c' = true) (hl : B.sl ≠ B'.sl) :
    Calls Try.prog 39 #[.pointer (some ⟨pa, 0, none⟩), .pointer (some ⟨pb, 0, none⟩)] w fun e w' => e = .returned (.bool false) ∧ Below w.heap.size w w' := by
  have ui := Try.underlying41
  have um := Try.underlying37
  have us := Try.underlying75
  have uv := Try.underlying39
  have J1 := fun w' (hB : Below w.heap.size w w') => spec_SameMesh _ _ _ _ _ _ _ _ _ _ _ _ c.cs c'.cs c.ts c'.ts w' (h.1.below hB) (h.2.1.below hB) (h'.1.below hB) (h'.2.1.below hB)
  have J5 := fun w' (hB : Below w.heap.size w w') => l01SameAll _ _ _ _ _ _ c.zs c'.zs w' (IsFs_below hB h.2.2.2.1) (IsFs_below hB h'.2.2.2.1)
  have A0 := Lib.hid a0
  have A1 := Lib.hid a1
  unfold bd1 at hb
  simp only [hb] at J1
  have J1 := Lib.hid J1
  have hl1 : ((B.sl : Int) == (B'.sl : Int)) = false := beq_eq_false_iff_ne.2 (by omega)
  have hl2 : ((B.sl : Int) != (B'.sl : Int)) = true := by simp; omega
  clear h h' hb a0 a1 J5 hl
  go_enter Try.func39, Try.ntmps39
  go_wp2_with fail
  refine RegG.wp_region_mix (C := fun w' => Below w.heap.size w w') (G := fun _ _ => True) (R := fun i v w' => match i with | 0 => v = .pointer (some ⟨pa, 0, none⟩) | 1 => v = .pointer (some ⟨pa, 0, none⟩) | 2 => v = .pointer (some ⟨pa, 0, none⟩) | 3 => v = .agg #[.slice B.pa B.pl B.pc, .slice B.ta B.tl B.tc] | 4 => v = .pointer (some ⟨pb, 0, none⟩) | 5 => v = .pointer (some ⟨pb, 0, none⟩) | 6 => v = .pointer (some ⟨pb, 0, none⟩) | 7 => v = .agg #[.slice B'.pa B'.pl B'.pc, .slice B'.ta B'.tl B'.tc] | 8 => v = .bool true | 9 => v = .bool false | 10 => v = .bool false | 11 => v = .pointer (some ⟨pa, 0, none⟩) | 12 => v = .pointer (some ⟨pa, 0, none⟩) | 13 => v = .pointer (some ⟨pa, 2, none⟩) | 14 => v = .slice B.sa B.sl B.sc | 15 => v = .int .i64 B.sl | 16 => v = .pointer (some ⟨pb, 0, none⟩) | 17 => v = .pointer (some ⟨pb, 0, none⟩) | 18 => v = .pointer (some ⟨pb, 2, none⟩) | 19 => v = .slice B'.sa B'.sl B'.sc | 20 => v = .int .i64 B'.sl | 21 => v = .bool true | 22 => v = .bool true | 23 => v = .bool true | 34 => v = .bool true | _ => True) (T := fun _ _ _ => True) [false, false, false, false, false, false, false, false, true, true, true, true, true, true, true, true, true, true, true, true, true, true, true, true, true, true, true, true, true, true, true, true, true, true, true, true, true, true, true, true, true, true, true, false, false, false, false, false, false, false, false, false, false, false, false, false, false, false, false, false, false, false, false, false, false, false, false, false, false, false, false, false, false, false, false, false, false, false, false, false, false, false, false, false, false, false, false, false, false, false, false, false, false, false, false, false, false, false, false, false, false, false, false, false, false, false, false, false, false, false, false, false, false, false, false, false, false, false, false, false, false, false, false, false, false]
    (by kernel_rfl) (by kernel_rfl) (by kernel_rfl) (fun _ _ _ _ _ _ h => h) (fun _ => trivial) (below_drewN (Below.refl _ _) 1) ?_ ?_
  · refine ⟨RegG.Obl.mk rfl ?_, RegG.Obl.mk rfl ?_, RegG.Obl.mk rfl ?_, RegG.Obl.mk rfl ?_, RegG.Obl.mk rfl ?_, RegG.Obl.mk rfl ?_, RegG.Obl.mk rfl ?_, RegG.Obl.mk rfl ?_, RegG.Obl.mk rfl ?_, RegG.Obl.mk rfl ?_, RegG.Obl.mk rfl ?_, RegG.Obl.go 10 18 false rfl rfl (by kernel_rfl) (fun a w h => h 18 rfl) ?_, RegG.Obl.go 10 18 false rfl rfl (by kernel_rfl) (fun a w h => h 18 rfl) ?_, RegG.Obl.go 10 18 false rfl rfl (by kernel_rfl) (fun a w h => h 18 rfl) ?_, RegG.Obl.go 10 18 false rfl rfl (by kernel_rfl) (fun a w h => h 18 rfl) ?_, RegG.Obl.go 10 18 false rfl rfl (by kernel_rfl) (fun a w h => h 18 rfl) ?_, RegG.Obl.go 10 18 false rfl rfl (by kernel_rfl) (fun a w h => h 18 rfl) ?_, RegG.Obl.go 10 18 false rfl rfl (by kernel_rfl) (fun a w h => h 18 rfl) ?_, RegG.Obl.go 10 18 false rfl rfl (by kernel_rfl) (fun a w h => h 18 rfl) ?_, RegG.Obl.go 10 18 false rfl rfl (by kernel_rfl) (fun a w h => h 18 rfl) ?_, RegG.Obl.go 10 18 false rfl rfl (by kernel_rfl) (fun a w h => h 18 rfl) ?_, RegG.Obl.go 10 18 false rfl rfl (by kernel_rfl) (fun a w h => h 18 rfl) ?_, RegG.Obl.mk rfl ?_, RegG.Obl.mk rfl ?_, RegG.Obl.skip 23 31 false true rfl rfl (by kernel_rfl) (by decide) (fun a w h => h 31 rfl) (fun _ => trivial) (by simp), RegG.Obl.skip 23 31 false true rfl rfl (by kernel_rfl) (by decide) (fun a w h => h 31 rfl) (fun _ => trivial) (by simp), RegG.Obl.skip 23 31 false true rfl rfl (by kernel_rfl) (by decide) (fun a w h => h 31 rfl) (fun _ => trivial) (by simp), RegG.Obl.skip 23 31 false true rfl rfl (by kernel_rfl) (by decide) (fun a w h => h 31 rfl) (fun _ => trivial) (by simp), RegG.Obl.skip 23 31 false true rfl rfl (by kernel_rfl) (by decide) (fun a w h => h 31 rfl) (fun _ => trivial) (by simp), RegG.Obl.skip 23 31 false true rfl rfl (by kernel_rfl) (by decide) (fun a w h => h 31 rfl) (fun _ => trivial) (by simp), RegG.Obl.skip 23 31 false true rfl rfl (by kernel_rfl) (by decide) (fun a w h => h 31 rfl) (fun _ => trivial) (by simp), RegG.Obl.skip 23 31 false true rfl rfl (by kernel_rfl) (by decide) (fun a w h => h 31 rfl) (fun _ => trivial) (by simp), RegG.Obl.skip 23 31 false true rfl rfl (by kernel_rfl) (by decide) (fun a w h => h 31 rfl) (fun _ => trivial) (by simp), RegG.Obl.skip 23 31 false true rfl rfl (by kernel_rfl) (by decide) (fun a w h => h 31 rfl) (fun _ => trivial) (by simp), RegG.Obl.mk rfl ?_, trivial⟩
    · rintro a w1 hC hx hd K hK
      have HC := Lib.hid hC
      clear hC
      have t0 : a.tmps[0]?.getD undef = .pointer (some ⟨pa, 0, none⟩) := Reg.slot_val (hx 0 (by kernel_rfl))
      go_simp
      exact hK _ _ (fun _ => rfl) (fun h => by cases h) HC.out trivial
    · rintro a w1 hC hx hd K hK
      have HC := Lib.hid hC
      clear hC
      have t8 : a.tmps[8]?.getD undef = .pointer (some ⟨pa, 0, none⟩) := Reg.slot_val (hd 0 (by kernel_rfl) 8 rfl)
      go_simp
      exact hK _ _ (fun _ => rfl) (fun h => by cases h) HC.out trivial
    · rintro a w1 hC hx hd K hK
      have HC := Lib.hid hC
      clear hC
      have t9 : a.tmps[9]?.getD undef = .pointer (some ⟨pa, 0, none⟩) := Reg.slot_val (hd 1 (by kernel_rfl) 9 rfl)
      go_simp
      exact hK _ _ (fun _ => rfl) (fun h => by cases h) HC.out trivial
    · rintro a w1 hC hx hd K hK
      have HC := Lib.hid hC
      clear hC
      have y0 := A0.out.below HC.out 0 _ rfl
      have y1 := A0.out.below HC.out 1 _ rfl
      have t10 : a.tmps[10]?.getD undef = .pointer (some ⟨pa, 0, none⟩) := Reg.slot_val (hd 2 (by kernel_rfl) 10 rfl)
      go_simp
      exact hK _ _ (fun _ => rfl) (fun h => by cases h) HC.out trivial
    · rintro a w1 hC hx hd K hK
      have HC := Lib.hid hC
      clear hC
      have t1 : a.tmps[1]?.getD undef = .pointer (some ⟨pb, 0, none⟩) := Reg.slot_val (hx 1 (by kernel_rfl))
      go_simp
      exact hK _ _ (fun _ => rfl) (fun h => by cases h) HC.out trivial
    · rintro a w1 hC hx hd K hK
      have HC := Lib.hid hC
      clear hC
      have t12 : a.tmps[12]?.getD undef = .pointer (some ⟨pb, 0, none⟩) := Reg.slot_val (hd 4 (by kernel_rfl) 12 rfl)
      go_simp
      exact hK _ _ (fun _ => rfl) (fun h => by cases h) HC.out trivial
    · rintro a w1 hC hx hd K hK
      have HC := Lib.hid hC
      clear hC
      have t13 : a.tmps[13]?.getD undef = .pointer (some ⟨pb, 0, none⟩) := Reg.slot_val (hd 5 (by kernel_rfl) 13 rfl)
      go_simp
      exact hK _ _ (fun _ => rfl) (fun h => by cases h) HC.out trivial
    · rintro a w1 hC hx hd K hK
      have HC := Lib.hid hC
      clear hC
      have y0 := A1.out.below HC.out 0 _ rfl
      have y1 := A1.out.below HC.out 1 _ rfl
      have t14 : a.tmps[14]?.getD undef = .pointer (some ⟨pb, 0, none⟩) := Reg.slot_val (hd 6 (by kernel_rfl) 14 rfl)
      go_simp
      exact hK _ _ (fun _ => rfl) (fun h => by cases h) HC.out trivial
    · rintro a w1 hC hx hd K hK
      have HC := Lib.hid hC
      clear hC
      have t11 : a.tmps[11]?.getD undef = .agg #[.slice B.pa B.pl B.pc, .slice B.ta B.tl B.tc] := Reg.slot_val (hd 3 (by kernel_rfl) 11 rfl)
      have t15 : a.tmps[15]?.getD undef = .agg #[.slice B'.pa B'.pl B'.pc, .slice B'.ta B'.tl B'.tc] := Reg.slot_val (hd 7 (by kernel_rfl) 15 rfl)
      go_simp
      refine (J1.out _ HC.out).mono ?_
      rintro en w2 ⟨rfl, hB2⟩
      exact hK _ _ (fun _ => rfl) (fun h => by cases h) (HC.out.trans (hB2.mono HC.out.size)) trivial
    · rintro a w1 hC hx hd K hK
      have HC := Lib.hid hC
      clear hC
      have t16 : a.tmps[16]?.getD undef = .bool true := Reg.slot_val (hd 8 (by kernel_rfl) 16 rfl)
      go_simp
      exact hK _ _ (fun _ => rfl) (fun h => by cases h) HC.out trivial
    · rintro a w1 hC hx hd K hK
      have HC := Lib.hid hC
      clear hC
      have t17 : a.tmps[17]?.getD undef = .bool false := Reg.slot_val (hd 9 (by kernel_rfl) 17 rfl)
      go_simp
      exact hK _ _ (fun _ => rfl) (fun h => by cases h) HC.out trivial
    · rintro a w1 hC hx hd K hK
      have HC := Lib.hid hC
      clear hC
      have t0 : a.tmps[0]?.getD undef = .pointer (some ⟨pa, 0, none⟩) := Reg.slot_val (hx 0 (by kernel_rfl))
      go_simp
      exact hK _ _ (fun _ => rfl) (fun h => by cases h) HC.out trivial
    · rintro a w1 hC hx hd K hK
      have HC := Lib.hid hC
      clear hC
      have t19 : a.tmps[19]?.getD undef = .pointer (some ⟨pa, 0, none⟩) := Reg.slot_val (hd 11 (by kernel_rfl) 19 rfl)
      go_simp
      exact hK _ _ (fun _ => rfl) (fun h => by cases h) HC.out trivial
    · rintro a w1 hC hx hd K hK
      have HC := Lib.hid hC
      clear hC
      have t20 : a.tmps[20]?.getD undef = .pointer (some ⟨pa, 0, none⟩) := Reg.slot_val (hd 12 (by kernel_rfl) 20 rfl)
      go_simp
      exact hK _ _ (fun _ => rfl) (fun h => by cases h) HC.out trivial
    · rintro a w1 hC hx hd K hK
      have HC := Lib.hid hC
      clear hC
      have y2 := A0.out.below HC.out 2 _ rfl
      have t21 : a.tmps[21]?.getD undef = .pointer (some ⟨pa, 2, none⟩) := Reg.slot_val (hd 13 (by kernel_rfl) 21 rfl)
      go_simp
      exact hK _ _ (fun _ => rfl) (fun h => by cases h) HC.out trivial
    · rintro a w1 hC hx hd K hK
      have HC := Lib.hid hC
      clear hC
      have t22 : a.tmps[22]?.getD undef = .slice B.sa B.sl B.sc := Reg.slot_val (hd 14 (by kernel_rfl) 22 rfl)
      go_simp
      exact hK _ _ (fun _ => rfl) (fun h => by cases h) HC.out trivial
    · rintro a w1 hC hx hd K hK
      have HC := Lib.hid hC
      clear hC
      have t1 : a.tmps[1]?.getD undef = .pointer (some ⟨pb, 0, none⟩) := Reg.slot_val (hx 1 (by kernel_rfl))
      go_simp
      exact hK _ _ (fun _ => rfl) (fun h => by cases h) HC.out trivial
    · rintro a w1 hC hx hd K hK
      have HC := Lib.hid hC
      clear hC
      have t24 : a.tmps[24]?.getD undef = .pointer (some ⟨pb, 0, none⟩) := Reg.slot_val (hd 16 (by kernel_rfl) 24 rfl)
      go_simp
      exact hK _ _ (fun _ => rfl) (fun h => by cases h) HC.out trivial
    · rintro a w1 hC hx hd K hK
      have HC := Lib.hid hC
      clear hC
      have t25 : a.tmps[25]?.getD undef = .pointer (some ⟨pb, 0, none⟩) := Reg.slot_val (hd 17 (by kernel_rfl) 25 rfl)
      go_simp
      exact hK _ _ (fun _ => rfl) (fun h => by cases h) HC.out trivial
    · rintro a w1 hC hx hd K hK
      have HC := Lib.hid hC
      clear hC
      have y2 := A1.out.below HC.out 2 _ rfl
      have t26 : a.tmps[26]?.getD undef = .pointer (some ⟨pb, 2, none⟩) := Reg.slot_val (hd 18 (by kernel_rfl) 26 rfl)
      go_simp
      exact hK _ _ (fun _ => rfl) (fun h => by cases h) HC.out trivial
    · rintro a w1 hC hx hd K hK
      have HC := Lib.hid hC
      clear hC
      have t27 : a.tmps[27]?.getD undef = .slice B'.sa B'.sl B'.sc := Reg.slot_val (hd 19 (by kernel_rfl) 27 rfl)
      go_simp
      exact hK _ _ (fun _ => rfl) (fun h => by cases h) HC.out trivial
    · rintro a w1 hC hx hd K hK
      have HC := Lib.hid hC
      clear hC
      have t23 : a.tmps[23]?.getD undef = .int .i64 B.sl := Reg.slot_val (hd 15 (by kernel_rfl) 23 rfl)
      have t28 : a.tmps[28]?.getD undef = .int .i64 B'.sl := Reg.slot_val (hd 20 (by kernel_rfl) 28 rfl)
      go_simp
      exact hK _ _ (fun _ => rfl) (fun h => by cases h) HC.out trivial
    · rintro a w1 hC hx hd K hK
      have HC := Lib.hid hC
      clear hC
      have t18 : a.tmps[18]?.getD undef = .bool false := Reg.slot_val (hd 10 (by kernel_rfl) 18 rfl)
      have t29 : a.tmps[29]?.getD undef = .bool true := Reg.slot_val (hd 21 (by kernel_rfl) 29 rfl)
      go_simp
      exact hK _ _ (fun _ => rfl) (fun h => by cases h) HC.out trivial
    · rintro a w1 hC hx hd K hK
      have HC := Lib.hid hC
      clear hC
      have t30 : a.tmps[30]?.getD undef = .bool true := Reg.slot_val (hd 22 (by kernel_rfl) 30 rfl)
      go_simp
      exact hK _ _ (fun _ => rfl) (fun h => by cases h) HC.out trivial
    · rintro a w1 hC hx hd K hK
      have HC := Lib.hid hC
      clear hC
      have t31 : a.tmps[31]?.getD undef = .bool true := Reg.slot_val (hd 23 (by kernel_rfl) 31 rfl)
      go_simp
      exact hK _ _ (fun _ => rfl) (fun h => by cases h) HC.out trivial
  · rintro f wz hC hd hT
    have g42 : f 42 = .bool true := hd 34 42 rfl
    simp only [Reg.mixL, g42]
    have HC := Lib.hid hC
    clear hC hd hT
    go_wp2
    go_ret
    exact ⟨rfl, HC.out⟩
set_option maxHeartbeats 2000000 in
theorem l03Same_3 (pa pb : Nat) (B B' : Bd) (c c' : Bc) (w : World) (a0 : At w pa B.l) (a1 : At w pb B'.l) (h : IsB w B c) (h' : IsB w B' c') (hb : bd1 c c' = true) (hl : B.sl = B'.sl) (h5 : sameFs c.zs c'.zs = false) :
    Calls Try.prog 39 #[.pointer (some ⟨pa, 0, none⟩), .pointer (some ⟨pb, 0, none⟩)] w fun e w' => e = .returned (.bool false) ∧ Below w.heap.size w w' := by
  have ui := Try.underlying41
  have um := Try.underlying37
  have us := Try.underlying75
  have uv := Try.underlying39
  have J1 := fun w' (hB : Below w.heap.size w w') => spec_SameMesh _ _ _ _ _ _ _ _ _ _ _ _ c.cs c'.cs c.ts c'.ts w' (h.1.below hB) (h.2.1.below hB) (h'.1.below hB) (h'.2.1.below hB)
  have J5 := fun w' (hB : Below w.heap.size w w') => l01SameAll _ _ _ _ _ _ c.zs c'.zs w' (IsFs_below hB h.2.2.2.1) (IsFs_below hB h'.2.2.2.1)
  have A0 := Lib.hid a0
  have A1 := Lib.hid a1
  unfold bd1 at hb
  simp only [hb] at J1
  simp only [h5] at J5
  have J1 := Lib.hid J1
  have J5 := Lib.hid J5
  have hl1 : ((B.sl : Int) == (B'.sl : Int)) = true := by simp [hl]
  have hl2 : ((B.sl : Int) != (B'.sl : Int)) = false := by simp [hl]
  clear h h' hb a0 a1 h5 hl
  go_enter Try.func39, Try.ntmps39
  go_wp2_with fail
  refine RegG.wp_region_mix (C := fun w' => Below w.heap.size w w') (G := fun _ _ => True) (R := fun i v w' => match i with | 0 => v = .pointer (some ⟨pa, 0, none⟩) | 1 => v = .pointer (some ⟨pa, 0, none⟩) | 2 => v = .pointer (some ⟨pa, 0, none⟩) | 3 => v = .agg #[.slice B.pa B.pl B.pc, .slice B.ta B.tl B.tc] | 4 => v = .pointer (some ⟨pb, 0, none⟩) | 5 => v = .pointer (some ⟨pb, 0, none⟩) | 6 => v = .pointer (some ⟨pb, 0, none⟩) | 7 => v = .agg #[.slice B'.pa B'.pl B'.pc, .slice B'.ta B'.tl B'.tc] | 8 => v = .bool true | 9 => v = .bool false | 10 => v = .bool false | 11 => v = .pointer (some ⟨pa, 0, none⟩) | 12 => v = .pointer (some ⟨pa, 0, none⟩) | 13 => v = .pointer (some ⟨pa, 2, none⟩) | 14 => v = .slice B.sa B.sl B.sc | 15 => v = .int .i64 B.sl | 16 => v = .pointer (some ⟨pb, 0, none⟩) | 17 => v = .pointer (some ⟨pb, 0, none⟩) | 18 => v = .pointer (some ⟨pb, 2, none⟩) | 19 => v = .slice B'.sa B'.sl B'.sc | 20 => v = .int .i64 B'.sl | 21 => v = .bool false | 22 => v = .bool false | 23 => v = .bool false | 24 => v = .pointer (some ⟨pa, 0, none⟩) | 25 => v = .pointer (some ⟨pa, 0, none⟩) | 26 => v = .pointer (some ⟨pa, 5, none⟩) | 27 => v = .slice B.wa B.wl B.wc | 28 => v = .pointer (some ⟨pb, 0, none⟩) | 29 => v = .pointer (some ⟨pb, 0, none⟩) | 30 => v = .pointer (some ⟨pb, 5, none⟩) | 31 => v = .slice B'.wa B'.wl B'.wc | 32 => v = .bool false | 33 => v = .bool true | 34 => v = .bool true | _ => True) (T := fun _ _ _ => True) [false, false, false, false, false, false, false, false, true, true, true, true, true, true, true, true, true, true, true, true, true, true, true, true, true, true, true, true, true, true, true, true, true, true, true, true, true, true, true, true, true, true, true, false, false, false, false, false, false, false, false, false, false, false, false, false, false, false, false, false, false, false, false, false, false, false, false, false, false, false, false, false, false, false, false, false, false, false, false, false, false, false, false, false, false, false, false, false, false, false, false, false, false, false, false, false, false, false, false, false, false, false, false, false, false, false, false, false, false, false, false, false, false, false, false, false, false, false, false, false, false, false, false, false, false]
    (by kernel_rfl) (by kernel_rfl) (by kernel_rfl) (fun _ _ _ _ _ _ h => h) (fun _ => trivial) (below_drewN (Below.refl _ _) 1) ?_ ?_
  · refine ⟨RegG.Obl.mk rfl ?_, RegG.Obl.mk rfl ?_, RegG.Obl.mk rfl ?_, RegG.Obl.mk rfl ?_, RegG.Obl.mk rfl ?_, RegG.Obl.mk rfl ?_, RegG.Obl.mk rfl ?_, RegG.Obl.mk rfl ?_, RegG.Obl.mk rfl ?_, RegG.Obl.mk rfl ?_, RegG.Obl.mk rfl ?_, RegG.Obl.go 10 18 false rfl rfl (by kernel_rfl) (fun a w h => h 18 rfl) ?_, RegG.Obl.go 10 18 false rfl rfl (by kernel_rfl) (fun a w h => h 18 rfl) ?_, RegG.Obl.go 10 18 false rfl rfl (by kernel_rfl) (fun a w h => h 18 rfl) ?_, RegG.Obl.go 10 18 false rfl rfl (by kernel_rfl) (fun a w h => h 18 rfl) ?_, RegG.Obl.go 10 18 false rfl rfl (by kernel_rfl) (fun a w h => h 18 rfl) ?_, RegG.Obl.go 10 18 false rfl rfl (by kernel_rfl) (fun a w h => h 18 rfl) ?_, RegG.Obl.go 10 18 false rfl rfl (by kernel_rfl) (fun a w h => h 18 rfl) ?_, RegG.Obl.go 10 18 false rfl rfl (by kernel_rfl) (fun a w h => h 18 rfl) ?_, RegG.Obl.go 10 18 false rfl rfl (by kernel_rfl) (fun a w h => h 18 rfl) ?_, RegG.Obl.go 10 18 false rfl rfl (by kernel_rfl) (fun a w h => h 18 rfl) ?_, RegG.Obl.go 10 18 false rfl rfl (by kernel_rfl) (fun a w h => h 18 rfl) ?_, RegG.Obl.mk rfl ?_, RegG.Obl.mk rfl ?_, RegG.Obl.go 23 31 false rfl rfl (by kernel_rfl) (fun a w h => h 31 rfl) ?_, RegG.Obl.go 23 31 false rfl rfl (by kernel_rfl) (fun a w h => h 31 rfl) ?_, RegG.Obl.go 23 31 false rfl rfl (by kernel_rfl) (fun a w h => h 31 rfl) ?_, RegG.Obl.go 23 31 false rfl rfl (by kernel_rfl) (fun a w h => h 31 rfl) ?_, RegG.Obl.go 23 31 false rfl rfl (by kernel_rfl) (fun a w h => h 31 rfl) ?_, RegG.Obl.go 23 31 false rfl rfl (by kernel_rfl) (fun a w h => h 31 rfl) ?_, RegG.Obl.go 23 31 false rfl rfl (by kernel_rfl) (fun a w h => h 31 rfl) ?_, RegG.Obl.go 23 31 false rfl rfl (by kernel_rfl) (fun a w h => h 31 rfl) ?_, RegG.Obl.go 23 31 false rfl rfl (by kernel_rfl) (fun a w h => h 31 rfl) ?_, RegG.Obl.go 23 31 false rfl rfl (by kernel_rfl) (fun a w h => h 31 rfl) ?_, RegG.Obl.mk rfl ?_, trivial⟩
    · rintro a w1 hC hx hd K hK
      have HC := Lib.hid hC
      clear hC
      have t0 : a.tmps[0]?.getD undef = .pointer (some ⟨pa, 0, none⟩) := Reg.slot_val (hx 0 (by kernel_rfl))
      go_simp
      exact hK _ _ (fun _ => rfl) (fun h => by cases h) HC.out trivial
    · rintro a w1 hC hx hd K hK
      have HC := Lib.hid hC
      clear hC
      have t8 : a.tmps[8]?.getD undef = .pointer (some ⟨pa, 0, none⟩) := Reg.slot_val (hd 0 (by kernel_rfl) 8 rfl)
      go_simp
      exact hK _ _ (fun _ => rfl) (fun h => by cases h) HC.out trivial
    · rintro a w1 hC hx hd K hK
      have HC := Lib.hid hC
      clear hC
      have t9 : a.tmps[9]?.getD undef = .pointer (some ⟨pa, 0, none⟩) := Reg.slot_val (hd 1 (by kernel_rfl) 9 rfl)
      go_simp
      exact hK _ _ (fun _ => rfl) (fun h => by cases h) HC.out trivial
    · rintro a w1 hC hx hd K hK
      have HC := Lib.hid hC
      clear hC
      have y0 := A0.out.below HC.out 0 _ rfl
      have y1 := A0.out.below HC.out 1 _ rfl
      have t10 : a.tmps[10]?.getD undef = .pointer (some ⟨pa, 0, none⟩) := Reg.slot_val (hd 2 (by kernel_rfl) 10 rfl)
      go_simp
      exact hK _ _ (fun _ => rfl) (fun h => by cases h) HC.out trivial
    · rintro a w1 hC hx hd K hK
      have HC := Lib.hid hC
      clear hC
      have t1 : a.tmps[1]?.getD undef = .pointer (some ⟨pb, 0, none⟩) := Reg.slot_val (hx 1 (by kernel_rfl))
      go_simp
      exact hK _ _ (fun _ => rfl) (fun h => by cases h) HC.out trivial
    · rintro a w1 hC hx hd K hK
      have HC := Lib.hid hC
      clear hC
      have t12 : a.tmps[12]?.getD undef = .pointer (some ⟨pb, 0, none⟩) := Reg.slot_val (hd 4 (by kernel_rfl) 12 rfl)
      go_simp
      exact hK _ _ (fun _ => rfl) (fun h => by cases h) HC.out trivial
    · rintro a w1 hC hx hd K hK
      have HC := Lib.hid hC
      clear hC
      have t13 : a.tmps[13]?.getD undef = .pointer (some ⟨pb, 0, none⟩) := Reg.slot_val (hd 5 (by kernel_rfl) 13 rfl)
      go_simp
      exact hK _ _ (fun _ => rfl) (fun h => by cases h) HC.out trivial
    · rintro a w1 hC hx hd K hK
      have HC := Lib.hid hC
      clear hC
      have y0 := A1.out.below HC.out 0 _ rfl
      have y1 := A1.out.below HC.out 1 _ rfl
      have t14 : a.tmps[14]?.getD undef = .pointer (some ⟨pb, 0, none⟩) := Reg.slot_val (hd 6 (by kernel_rfl) 14 rfl)
      go_simp
      exact hK _ _ (fun _ => rfl) (fun h => by cases h) HC.out trivial
    · rintro a w1 hC hx hd K hK
      have HC := Lib.hid hC
      clear hC
      have t11 : a.tmps[11]?.getD undef = .agg #[.slice B.pa B.pl B.pc, .slice B.ta B.tl B.tc] := Reg.slot_val (hd 3 (by kernel_rfl) 11 rfl)
      have t15 : a.tmps[15]?.getD undef = .agg #[.slice B'.pa B'.pl B'.pc, .slice B'.ta B'.tl B'.tc] := Reg.slot_val (hd 7 (by kernel_rfl) 15 rfl)
      go_simp
      refine (J1.out _ HC.out).mono ?_
      rintro en w2 ⟨rfl, hB2⟩
      exact hK _ _ (fun _ => rfl) (fun h => by cases h) (HC.out.trans (hB2.mono HC.out.size)) trivial
    · rintro a w1 hC hx hd K hK
      have HC := Lib.hid hC
      clear hC
      have t16 : a.tmps[16]?.getD undef = .bool true := Reg.slot_val (hd 8 (by kernel_rfl) 16 rfl)
      go_simp
      exact hK _ _ (fun _ => rfl) (fun h => by cases h) HC.out trivial
    · rintro a w1 hC hx hd K hK
      have HC := Lib.hid hC
      clear hC
      have t17 : a.tmps[17]?.getD undef = .bool false := Reg.slot_val (hd 9 (by kernel_rfl) 17 rfl)
      go_simp
      exact hK _ _ (fun _ => rfl) (fun h => by cases h) HC.out trivial
    · rintro a w1 hC hx hd K hK
      have HC := Lib.hid hC
      clear hC
      have t0 : a.tmps[0]?.getD undef = .pointer (some ⟨pa, 0, none⟩) := Reg.slot_val (hx 0 (by kernel_rfl))
      go_simp
      exact hK _ _ (fun _ => rfl) (fun h => by cases h) HC.out trivial
    · rintro a w1 hC hx hd K hK
      have HC := Lib.hid hC
      clear hC
      have t19 : a.tmps[19]?.getD undef = .pointer (some ⟨pa, 0, none⟩) := Reg.slot_val (hd 11 (by kernel_rfl) 19 rfl)
      go_simp
      exact hK _ _ (fun _ => rfl) (fun h => by cases h) HC.out trivial
    · rintro a w1 hC hx hd K hK
      have HC := Lib.hid hC
      clear hC
      have t20 : a.tmps[20]?.getD undef = .pointer (some ⟨pa, 0, none⟩) := Reg.slot_val (hd 12 (by kernel_rfl) 20 rfl)
      go_simp
      exact hK _ _ (fun _ => rfl) (fun h => by cases h) HC.out trivial
    · rintro a w1 hC hx hd K hK
      have HC := Lib.hid hC
      clear hC
      have y2 := A0.out.below HC.out 2 _ rfl
      have t21 : a.tmps[21]?.getD undef = .pointer (some ⟨pa, 2, none⟩) := Reg.slot_val (hd 13 (by kernel_rfl) 21 rfl)
      go_simp
      exact hK _ _ (fun _ => rfl) (fun h => by cases h) HC.out trivial
    · rintro a w1 hC hx hd K hK
      have HC := Lib.hid hC
      clear hC
      have t22 : a.tmps[22]?.getD undef = .slice B.sa B.sl B.sc := Reg.slot_val (hd 14 (by kernel_rfl) 22 rfl)
      go_simp
      exact hK _ _ (fun _ => rfl) (fun h => by cases h) HC.out trivial
    · rintro a w1 hC hx hd K hK
      have HC := Lib.hid hC
      clear hC
      have t1 : a.tmps[1]?.getD undef = .pointer (some ⟨pb, 0, none⟩) := Reg.slot_val (hx 1 (by kernel_rfl))
      go_simp
      exact hK _ _ (fun _ => rfl) (fun h => by cases h) HC.out trivial
    · rintro a w1 hC hx hd K hK
      have HC := Lib.hid hC
      clear hC
      have t24 : a.tmps[24]?.getD undef = .pointer (some ⟨pb, 0, none⟩) := Reg.slot_val (hd 16 (by kernel_rfl) 24 rfl)
      go_simp
      exact hK _ _ (fun _ => rfl) (fun h => by cases h) HC.out trivial
    · rintro a w1 hC hx hd K hK
      have HC := Lib.hid hC
      clear hC
      have t25 : a.tmps[25]?.getD undef = .pointer (some ⟨pb, 0, none⟩) := Reg.slot_val (hd 17 (by kernel_rfl) 25 rfl)
      go_simp
      exact hK _ _ (fun _ => rfl) (fun h => by cases h) HC.out trivial
    · rintro a w1 hC hx hd K hK
      have HC := Lib.hid hC
      clear hC
      have y2 := A1.out.below HC.out 2 _ rfl
      have t26 : a.tmps[26]?.getD undef = .pointer (some ⟨pb, 2, none⟩) := Reg.slot_val (hd 18 (by kernel_rfl) 26 rfl)
      go_simp
      exact hK _ _ (fun _ => rfl) (fun h => by cases h) HC.out trivial
    · rintro a w1 hC hx hd K hK
      have HC := Lib.hid hC
      clear hC
      have t27 : a.tmps[27]?.getD undef = .slice B'.sa B'.sl B'.sc := Reg.slot_val (hd 19 (by kernel_rfl) 27 rfl)
      go_simp
      exact hK _ _ (fun _ => rfl) (fun h => by cases h) HC.out trivial
    · rintro a w1 hC hx hd K hK
      have HC := Lib.hid hC
      clear hC
      have t23 : a.tmps[23]?.getD undef = .int .i64 B.sl := Reg.slot_val (hd 15 (by kernel_rfl) 23 rfl)
      have t28 : a.tmps[28]?.getD undef = .int .i64 B'.sl := Reg.slot_val (hd 20 (by kernel_rfl) 28 rfl)
      go_simp
      exact hK _ _ (fun _ => rfl) (fun h => by cases h) HC.out trivial
    · rintro a w1 hC hx hd K hK
      have HC := Lib.hid hC
      clear hC
      have t18 : a.tmps[18]?.getD undef = .bool false := Reg.slot_val (hd 10 (by kernel_rfl) 18 rfl)
      have t29 : a.tmps[29]?.getD undef = .bool false := Reg.slot_val (hd 21 (by kernel_rfl) 29 rfl)
      go_simp
      exact hK _ _ (fun _ => rfl) (fun h => by cases h) HC.out trivial
    · rintro a w1 hC hx hd K hK
      have HC := Lib.hid hC
      clear hC
      have t30 : a.tmps[30]?.getD undef = .bool false := Reg.slot_val (hd 22 (by kernel_rfl) 30 rfl)
      go_simp
      exact hK _ _ (fun _ => rfl) (fun h => by cases h) HC.out trivial
    · rintro a w1 hC hx hd K hK
      have HC := Lib.hid hC
      clear hC
      have t0 : a.tmps[0]?.getD undef = .pointer (some ⟨pa, 0, none⟩) := Reg.slot_val (hx 0 (by kernel_rfl))
      go_simp
      exact hK _ _ (fun _ => rfl) (fun h => by cases h) HC.out trivial
    · rintro a w1 hC hx hd K hK
      have HC := Lib.hid hC
      clear hC
      have t32 : a.tmps[32]?.getD undef = .pointer (some ⟨pa, 0, none⟩) := Reg.slot_val (hd 24 (by kernel_rfl) 32 rfl)
      go_simp
      exact hK _ _ (fun _ => rfl) (fun h => by cases h) HC.out trivial
    · rintro a w1 hC hx hd K hK
      have HC := Lib.hid hC
      clear hC
      have t33 : a.tmps[33]?.getD undef = .pointer (some ⟨pa, 0, none⟩) := Reg.slot_val (hd 25 (by kernel_rfl) 33 rfl)
      go_simp
      exact hK _ _ (fun _ => rfl) (fun h => by cases h) HC.out trivial
    · rintro a w1 hC hx hd K hK
      have HC := Lib.hid hC
      clear hC
      have y5 := A0.out.below HC.out 5 _ rfl
      have t34 : a.tmps[34]?.getD undef = .pointer (some ⟨pa, 5, none⟩) := Reg.slot_val (hd 26 (by kernel_rfl) 34 rfl)
      go_simp
      exact hK _ _ (fun _ => rfl) (fun h => by cases h) HC.out trivial
    · rintro a w1 hC hx hd K hK
      have HC := Lib.hid hC
      clear hC
      have t1 : a.tmps[1]?.getD undef = .pointer (some ⟨pb, 0, none⟩) := Reg.slot_val (hx 1 (by kernel_rfl))
      go_simp
      exact hK _ _ (fun _ => rfl) (fun h => by cases h) HC.out trivial
    · rintro a w1 hC hx hd K hK
      have HC := Lib.hid hC
      clear hC
      have t36 : a.tmps[36]?.getD undef = .pointer (some ⟨pb, 0, none⟩) := Reg.slot_val (hd 28 (by kernel_rfl) 36 rfl)
      go_simp
      exact hK _ _ (fun _ => rfl) (fun h => by cases h) HC.out trivial
    · rintro a w1 hC hx hd K hK
      have HC := Lib.hid hC
      clear hC
      have t37 : a.tmps[37]?.getD undef = .pointer (some ⟨pb, 0, none⟩) := Reg.slot_val (hd 29 (by kernel_rfl) 37 rfl)
      go_simp
      exact hK _ _ (fun _ => rfl) (fun h => by cases h) HC.out trivial
    · rintro a w1 hC hx hd K hK
      have HC := Lib.hid hC
      clear hC
      have y5 := A1.out.below HC.out 5 _ rfl
      have t38 : a.tmps[38]?.getD undef = .pointer (some ⟨pb, 5, none⟩) := Reg.slot_val (hd 30 (by kernel_rfl) 38 rfl)
      go_simp
      exact hK _ _ (fun _ => rfl) (fun h => by cases h) HC.out trivial
    · rintro a w1 hC hx hd K hK
      have HC := Lib.hid hC
      clear hC
      have t35 : a.tmps[35]?.getD undef = .slice B.wa B.wl B.wc := Reg.slot_val (hd 27 (by kernel_rfl) 35 rfl)
      have t39 : a.tmps[39]?.getD undef = .slice B'.wa B'.wl B'.wc := Reg.slot_val (hd 31 (by kernel_rfl) 39 rfl)
      go_simp
      refine (J5.out _ HC.out).mono ?_
      rintro en w2 ⟨rfl, m, hw2⟩
      exact hK _ _ (fun _ => rfl) (fun h => by cases h) (by rw [hw2]; exact below_drewN HC.out _) trivial
    · rintro a w1 hC hx hd K hK
      have HC := Lib.hid hC
      clear hC
      have t40 : a.tmps[40]?.getD undef = .bool false := Reg.slot_val (hd 32 (by kernel_rfl) 40 rfl)
      go_simp
      exact hK _ _ (fun _ => rfl) (fun h => by cases h) HC.out trivial
    · rintro a w1 hC hx hd K hK
      have HC := Lib.hid hC
      clear hC
      have t31 : a.tmps[31]?.getD undef = .bool false := Reg.slot_val (hd 23 (by kernel_rfl) 31 rfl)
      have t41 : a.tmps[41]?.getD undef = .bool true := Reg.slot_val (hd 33 (by kernel_rfl) 41 rfl)
      go_simp
      exact hK _ _ (fun _ => rfl) (fun h => by cases h) HC.out trivial
  · rintro f wz hC hd hT
    have g42 : f 42 = .bool true := hd 34 42 rfl
    simp only [Reg.mixL, g42]
    have HC := Lib.hid hC
    clear hC hd hT
    go_wp2
    go_ret
    exact ⟨rfl, HC.out⟩
end Go.Proofs.Ytmmiadkmldaegab

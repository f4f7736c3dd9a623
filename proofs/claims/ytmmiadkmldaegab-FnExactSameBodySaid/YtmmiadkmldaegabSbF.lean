
/-
Whether two bodies are the same: what the model returns. Conditions: none.
-/
import Derived.Test.YtmmiadkmldaegabSbE
namespace Go.Proofs.Ytmmiadkmldaegab
open Go Fk Go.RowKit
set_option linter.unusedVariables false
set_option maxRecDepth 40000
def lastB (c c' : Bc) : Bool := (bitsC c.film == bitsC c'.film) && (bitsC c.bend == bitsC c'.bend) && sameV c.fall c'.fall
set_option maxHeartbeats 4000000 in
theorem l03Same_4 (pa pb : Nat) (B B' : Bd) (c c' : Bc) (w : World) (a0 : At w pa B.l) (a1 : At w pb B'.l) (h : IsB w B c) (h' : IsB w B' c') (hb : bd1 c c' = true) (hl : B.sl = B'.sl) (h5 : sameFs c.zs c'.zs = true) :
    Calls Try.prog 39 #[.pointer (some ⟨pa, 0, none⟩), .pointer (some ⟨pb, 0, none⟩)] w fun e w' => e = .returned (.bool (sameSs c.ss c'.ss && lastB c c')) ∧ Below w.heap.size w w' := by
  have ui := Try.underlying41
  have um := Try.underlying37
  have us := Try.underlying75
  have uv := Try.underlying39
  have J1 := fun w' (hB : Below w.heap.size w w') => spec_SameMesh _ _ _ _ _ _ _ _ _ _ _ _ c.cs c'.cs c.ts c'.ts w' (h.1.below hB) (h.2.1.below hB) (h'.1.below hB) (h'.2.1.below hB)
  have J5 := fun w' (hB : Below w.heap.size w w') => l01SameAll _ _ _ _ _ _ c.zs c'.zs w' (IsFs_below hB h.2.2.2.1) (IsFs_below hB h'.2.2.2.1)
  have A0 := Lib.hid a0
  have A1 := Lib.hid a1
  unfold bd1 at hb
  simp only [hb] at J1
  simp only [h5] at J5
  have J1 := Lib.hid J1
  have J5 := Lib.hid J5
  have hl1 : ((B.sl : Int) == (B'.sl : Int)) = true := by simp [hl]
  have hl2 : ((B.sl : Int) != (B'.sl : Int)) = false := by simp [hl]
  have hm : B.sl ≤ 9223372036854775807 := by have h1 := h.2.2.1.2.1; have h2 := h.2.2.1.2.2.1; unfold maxLen at h2; omega
  have hzl := h.2.2.1.1
  have hyl := h'.2.2.1.1
  have HE := Lib.hid (sameL_eq (q := sameSp) (d := s0) (cs := c.ss) (ds := c'.ss) (by omega))
  have HNE := Lib.hid (fun k => @sameL_ne _ sameSp s0 c.ss c'.ss k)
  have HZ := Lib.hid hzl
  have HL := Lib.hid hl
  have H := Lib.hid h
  have H' := Lib.hid h'
  clear h h' hb a0 a1 h5 hl hzl hyl
  generalize hr : sameSs c.ss c'.ss = res
  have HR := Lib.hid hr
  clear hr
  go_enter Try.func39, Try.ntmps39
  go_wp2_with fail
  refine RegG.wp_region_mix (C := fun w' => Below w.heap.size w w') (G := fun _ _ => True) (R := fun i v w' => match i with | 0 => v = .pointer (some ⟨pa, 0, none⟩) | 1 => v = .pointer (some ⟨pa, 0, none⟩) | 2 => v = .pointer (some ⟨pa, 0, none⟩) | 3 => v = .agg #[.slice B.pa B.pl B.pc, .slice B.ta B.tl B.tc] | 4 => v = .pointer (some ⟨pb, 0, none⟩) | 5 => v = .pointer (some ⟨pb, 0, none⟩) | 6 => v = .pointer (some ⟨pb, 0, none⟩) | 7 => v = .agg #[.slice B'.pa B'.pl B'.pc, .slice B'.ta B'.tl B'.tc] | 8 => v = .bool true | 9 => v = .bool false | 10 => v = .bool false | 11 => v = .pointer (some ⟨pa, 0, none⟩) | 12 => v = .pointer (some ⟨pa, 0, none⟩) | 13 => v = .pointer (some ⟨pa, 2, none⟩) | 14 => v = .slice B.sa B.sl B.sc | 15 => v = .int .i64 B.sl | 16 => v = .pointer (some ⟨pb, 0, none⟩) | 17 => v = .pointer (some ⟨pb, 0, none⟩) | 18 => v = .pointer (some ⟨pb, 2, none⟩) | 19 => v = .slice B'.sa B'.sl B'.sc | 20 => v = .int .i64 B'.sl | 21 => v = .bool false | 22 => v = .bool false | 23 => v = .bool false | 24 => v = .pointer (some ⟨pa, 0, none⟩) | 25 => v = .pointer (some ⟨pa, 0, none⟩) | 26 => v = .pointer (some ⟨pa, 5, none⟩) | 27 => v = .slice B.wa B.wl B.wc | 28 => v = .pointer (some ⟨pb, 0, none⟩) | 29 => v = .pointer (some ⟨pb, 0, none⟩) | 30 => v = .pointer (some ⟨pb, 5, none⟩) | 31 => v = .slice B'.wa B'.wl B'.wc | 32 => v = .bool true | 33 => v = .bool false | 34 => v = .bool false | _ => True) (T := fun _ _ _ => True) [false, false, false, false, false, false, false, false, true, true, true, true, true, true, true, true, true, true, true, true, true, true, true, true, true, true, true, true, true, true, true, true, true, true, true, true, true, true, true, true, true, true, true, false, false, false, false, false, false, false, false, false, false, false, false, false, false, false, false, false, false, false, false, false, false, false, false, false, false, false, false, false, false, false, false, false, false, false, false, false, false, false, false, false, false, false, false, false, false, false, false, false, false, false, false, false, false, false, false, false, false, false, false, false, false, false, false, false, false, false, false, false, false, false, false, false, false, false, false, false, false, false, false, false, false]
    (by kernel_rfl) (by kernel_rfl) (by kernel_rfl) (fun _ _ _ _ _ _ h => h) (fun _ => trivial) (below_drewN (Below.refl _ _) 1) ?_ ?_
  · refine ⟨RegG.Obl.mk rfl ?_, RegG.Obl.mk rfl ?_, RegG.Obl.mk rfl ?_, RegG.Obl.mk rfl ?_, RegG.Obl.mk rfl ?_, RegG.Obl.mk rfl ?_, RegG.Obl.mk rfl ?_, RegG.Obl.mk rfl ?_, RegG.Obl.mk rfl ?_, RegG.Obl.mk rfl ?_, RegG.Obl.mk rfl ?_, RegG.Obl.go 10 18 false rfl rfl (by kernel_rfl) (fun a w h => h 18 rfl) ?_, RegG.Obl.go 10 18 false rfl rfl (by kernel_rfl) (fun a w h => h 18 rfl) ?_, RegG.Obl.go 10 18 false rfl rfl (by kernel_rfl) (fun a w h => h 18 rfl) ?_, RegG.Obl.go 10 18 false rfl rfl (by kernel_rfl) (fun a w h => h 18 rfl) ?_, RegG.Obl.go 10 18 false rfl rfl (by kernel_rfl) (fun a w h => h 18 rfl) ?_, RegG.Obl.go 10 18 false rfl rfl (by kernel_rfl) (fun a w h => h 18 rfl) ?_, RegG.Obl.go 10 18 false rfl rfl (by kernel_rfl) (fun a w h => h 18 rfl) ?_, RegG.Obl.go 10 18 false rfl rfl (by kernel_rfl) (fun a w h => h 18 rfl) ?_, RegG.Obl.go 10 18 false rfl rfl (by kernel_rfl) (fun a w h => h 18 rfl) ?_, RegG.Obl.go 10 18 false rfl rfl (by kernel_rfl) (fun a w h => h 18 rfl) ?_, RegG.Obl.go 10 18 false rfl rfl (by kernel_rfl) (fun a w h => h 18 rfl) ?_, RegG.Obl.mk rfl ?_, RegG.Obl.mk rfl ?_, RegG.Obl.go 23 31 false rfl rfl (by kernel_rfl) (fun a w h => h 31 rfl) ?_, RegG.Obl.go 23 31 false rfl rfl (by kernel_rfl) (fun a w h => h 31 rfl) ?_, RegG.Obl.go 23 31 false rfl rfl (by kernel_rfl) (fun a w h => h 31 rfl) ?_, RegG.Obl.go 23 31 false rfl rfl (by kernel_rfl) (fun a w h => h 31 rfl) ?_, RegG.Obl.go 23 31 false rfl rfl (by kernel_rfl) (fun a w h => h 31 rfl) ?_, RegG.Obl.go 23 31 false rfl rfl (by kernel_rfl) (fun a w h => h 31 rfl) ?_, RegG.Obl.go 23 31 false rfl rfl (by kernel_rfl) (fun a w h => h 31 rfl) ?_, RegG.Obl.go 23 31 false rfl rfl (by kernel_rfl) (fun a w h => h 31 rfl) ?_, RegG.Obl.go 23 31 false rfl rfl (by kernel_rfl) (fun a w h => h 31 rfl) ?_, RegG.Obl.go 23 31 false rfl rfl (by kernel_rfl) (fun a w h => h 31 rfl) ?_, RegG.Obl.mk rfl ?_, trivial⟩
    · rintro a w1 hC hx hd K hK
      have HC := Lib.hid hC
      clear hC
      have t0 : a.tmps[0]?.getD undef = .pointer (some ⟨pa, 0, none⟩) := Reg.slot_val (hx 0 (by kernel_rfl))
      go_simp
      exact hK _ _ (fun _ => rfl) (fun h => by cases h) HC.out trivial
    · rintro a w1 hC hx hd K hK
      have HC := Lib.hid hC
      clear hC
      have t8 : a.tmps[8]?.getD undef = .pointer (some ⟨pa, 0, none⟩) := Reg.slot_val (hd 0 (by kernel_rfl) 8 rfl)
      go_simp
      exact hK _ _ (fun _ => rfl) (fun h => by cases h) HC.out trivial
    · rintro a w1 hC hx hd K hK
      have HC := Lib.hid hC
      clear hC
      have t9 : a.tmps[9]?.getD undef = .pointer (some ⟨pa, 0, none⟩) := Reg.slot_val (hd 1 (by kernel_rfl) 9 rfl)
      go_simp
      exact hK _ _ (fun _ => rfl) (fun h => by cases h) HC.out trivial
    · rintro a w1 hC hx hd K hK
      have HC := Lib.hid hC
      clear hC
      have y0 := A0.out.below HC.out 0 _ rfl
      have y1 := A0.out.below HC.out 1 _ rfl
      have t10 : a.tmps[10]?.getD undef = .pointer (some ⟨pa, 0, none⟩) := Reg.slot_val (hd 2 (by kernel_rfl) 10 rfl)
      go_simp
      exact hK _ _ (fun _ => rfl) (fun h => by cases h) HC.out trivial
    · rintro a w1 hC hx hd K hK
      have HC := Lib.hid hC
      clear hC
      have t1 : a.tmps[1]?.getD undef = .pointer (some ⟨pb, 0, none⟩) := Reg.slot_val (hx 1 (by kernel_rfl))
      go_simp
      exact hK _ _ (fun _ => rfl) (fun h => by cases h) HC.out trivial
    · rintro a w1 hC hx hd K hK
      have HC := Lib.hid hC
      clear hC
      have t12 : a.tmps[12]?.getD undef = .pointer (some ⟨pb, 0, none⟩) := Reg.slot_val (hd 4 (by kernel_rfl) 12 rfl)
      go_simp
      exact hK _ _ (fun _ => rfl) (fun h => by cases h) HC.out trivial
    · rintro a w1 hC hx hd K hK
      have HC := Lib.hid hC
      clear hC
      have t13 : a.tmps[13]?.getD undef = .pointer (some ⟨pb, 0, none⟩) := Reg.slot_val (hd 5 (by kernel_rfl) 13 rfl)
      go_simp
      exact hK _ _ (fun _ => rfl) (fun h => by cases h) HC.out trivial
    · rintro a w1 hC hx hd K hK
      have HC := Lib.hid hC
      clear hC
      have y0 := A1.out.below HC.out 0 _ rfl
      have y1 := A1.out.below HC.out 1 _ rfl
      have t14 : a.tmps[14]?.getD undef = .pointer (some ⟨pb, 0, none⟩) := Reg.slot_val (hd 6 (by kernel_rfl) 14 rfl)
      go_simp
      exact hK _ _ (fun _ => rfl) (fun h => by cases h) HC.out trivial
    · rintro a w1 hC hx hd K hK
      have HC := Lib.hid hC
      clear hC
      have t11 : a.tmps[11]?.getD undef = .agg #[.slice B.pa B.pl B.pc, .slice B.ta B.tl B.tc] := Reg.slot_val (hd 3 (by kernel_rfl) 11 rfl)
      have t15 : a.tmps[15]?.getD undef = .agg #[.slice B'.pa B'.pl B'.pc, .slice B'.ta B'.tl B'.tc] := Reg.slot_val (hd 7 (by kernel_rfl) 15 rfl)
      go_simp
      refine (J1.out _ HC.out).mono ?_
      rintro en w2 ⟨rfl, hB2⟩
      exact hK _ _ (fun _ => rfl) (fun h => by cases h) (HC.out.trans (hB2.mono HC.out.size)) trivial
    · rintro a w1 hC hx hd K hK
      have HC := Lib.hid hC
      clear hC
      have t16 : a.tmps[16]?.getD undef = .bool true := Reg.slot_val (hd 8 (by kernel_rfl) 16 rfl)
      go_simp
      exact hK _ _ (fun _ => rfl) (fun h => by cases h) HC.out trivial
    · rintro a w1 hC hx hd K hK
      have HC := Lib.hid hC
      clear hC
      have t17 : a.tmps[17]?.getD undef = .bool false := Reg.slot_val (hd 9 (by kernel_rfl) 17 rfl)
      go_simp
      exact hK _ _ (fun _ => rfl) (fun h => by cases h) HC.out trivial
    · rintro a w1 hC hx hd K hK
      have HC := Lib.hid hC
      clear hC
      have t0 : a.tmps[0]?.getD undef = .pointer (some ⟨pa, 0, none⟩) := Reg.slot_val (hx 0 (by kernel_rfl))
      go_simp
      exact hK _ _ (fun _ => rfl) (fun h => by cases h) HC.out trivial
    · rintro a w1 hC hx hd K hK
      have HC := Lib.hid hC
      clear hC
      have t19 : a.tmps[19]?.getD undef = .pointer (some ⟨pa, 0, none⟩) := Reg.slot_val (hd 11 (by kernel_rfl) 19 rfl)
      go_simp
      exact hK _ _ (fun _ => rfl) (fun h => by cases h) HC.out trivial
    · rintro a w1 hC hx hd K hK
      have HC := Lib.hid hC
      clear hC
      have t20 : a.tmps[20]?.getD undef = .pointer (some ⟨pa, 0, none⟩) := Reg.slot_val (hd 12 (by kernel_rfl) 20 rfl)
      go_simp
      exact hK _ _ (fun _ => rfl) (fun h => by cases h) HC.out trivial
    · rintro a w1 hC hx hd K hK
      have HC := Lib.hid hC
      clear hC
      have y2 := A0.out.below HC.out 2 _ rfl
      have t21 : a.tmps[21]?.getD undef = .pointer (some ⟨pa, 2, none⟩) := Reg.slot_val (hd 13 (by kernel_rfl) 21 rfl)
      go_simp
      exact hK _ _ (fun _ => rfl) (fun h => by cases h) HC.out trivial
    · rintro a w1 hC hx hd K hK
      have HC := Lib.hid hC
      clear hC
      have t22 : a.tmps[22]?.getD undef = .slice B.sa B.sl B.sc := Reg.slot_val (hd 14 (by kernel_rfl) 22 rfl)
      go_simp
      exact hK _ _ (fun _ => rfl) (fun h => by cases h) HC.out trivial
    · rintro a w1 hC hx hd K hK
      have HC := Lib.hid hC
      clear hC
      have t1 : a.tmps[1]?.getD undef = .pointer (some ⟨pb, 0, none⟩) := Reg.slot_val (hx 1 (by kernel_rfl))
      go_simp
      exact hK _ _ (fun _ => rfl) (fun h => by cases h) HC.out trivial
    · rintro a w1 hC hx hd K hK
      have HC := Lib.hid hC
      clear hC
      have t24 : a.tmps[24]?.getD undef = .pointer (some ⟨pb, 0, none⟩) := Reg.slot_val (hd 16 (by kernel_rfl) 24 rfl)
      go_simp
      exact hK _ _ (fun _ => rfl) (fun h => by cases h) HC.out trivial
    · rintro a w1 hC hx hd K hK
      have HC := Lib.hid hC
      clear hC
      have t25 : a.tmps[25]?.getD undef = .pointer (some ⟨pb, 0, none⟩) := Reg.slot_val (hd 17 (by kernel_rfl) 25 rfl)
      go_simp
      exact hK _ _ (fun _ => rfl) (fun h => by cases h) HC.out trivial
    · rintro a w1 hC hx hd K hK
      have HC := Lib.hid hC
      clear hC
      have y2 := A1.out.below HC.out 2 _ rfl
      have t26 : a.tmps[26]?.getD undef = .pointer (some ⟨pb, 2, none⟩) := Reg.slot_val (hd 18 (by kernel_rfl) 26 rfl)
      go_simp
      exact hK _ _ (fun _ => rfl) (fun h => by cases h) HC.out trivial
    · rintro a w1 hC hx hd K hK
      have HC := Lib.hid hC
      clear hC
      have t27 : a.tmps[27]?.getD undef = .slice B'.sa B'.sl B'.sc := Reg.slot_val (hd 19 (by kernel_rfl) 27 rfl)
      go_simp
      exact hK _ _ (fun _ => rfl) (fun h => by cases h) HC.out trivial
    · rintro a w1 hC hx hd K hK
      have HC := Lib.hid hC
      clear hC
      have t23 : a.tmps[23]?.getD undef = .int .i64 B.sl := Reg.slot_val (hd 15 (by kernel_rfl) 23 rfl)
      have t28 : a.tmps[28]?.getD undef = .int .i64 B'.sl := Reg.slot_val (hd 20 (by kernel_rfl) 28 rfl)
      go_simp
      exact hK _ _ (fun _ => rfl) (fun h => by cases h) HC.out trivial
    · rintro a w1 hC hx hd K hK
      have HC := Lib.hid hC
      clear hC
      have t18 : a.tmps[18]?.getD undef = .bool false := Reg.slot_val (hd 10 (by kernel_rfl) 18 rfl)
      have t29 : a.tmps[29]?.getD undef = .bool false := Reg.slot_val (hd 21 (by kernel_rfl) 29 rfl)
      go_simp
      exact hK _ _ (fun _ => rfl) (fun h => by cases h) HC.out trivial
    · rintro a w1 hC hx hd K hK
      have HC := Lib.hid hC
      clear hC
      have t30 : a.tmps[30]?.getD undef = .bool false := Reg.slot_val (hd 22 (by kernel_rfl) 30 rfl)
      go_simp
      exact hK _ _ (fun _ => rfl) (fun h => by cases h) HC.out trivial
    · rintro a w1 hC hx hd K hK
      have HC := Lib.hid hC
      clear hC
      have t0 : a.tmps[0]?.getD undef = .pointer (some ⟨pa, 0, none⟩) := Reg.slot_val (hx 0 (by kernel_rfl))
      go_simp
      exact hK _ _ (fun _ => rfl) (fun h => by cases h) HC.out trivial
    · rintro a w1 hC hx hd K hK
      have HC := Lib.hid hC
      clear hC
      have t32 : a.tmps[32]?.getD undef = .pointer (some ⟨pa, 0, none⟩) := Reg.slot_val (hd 24 (by kernel_rfl) 32 rfl)
      go_simp
      exact hK _ _ (fun _ => rfl) (fun h => by cases h) HC.out trivial
    · rintro a w1 hC hx hd K hK
      have HC := Lib.hid hC
      clear hC
      have t33 : a.tmps[33]?.getD undef = .pointer (some ⟨pa, 0, none⟩) := Reg.slot_val (hd 25 (by kernel_rfl) 33 rfl)
      go_simp
      exact hK _ _ (fun _ => rfl) (fun h => by cases h) HC.out trivial
    · rintro a w1 hC hx hd K hK
      have HC := Lib.hid hC
      clear hC
      have y5 := A0.out.below HC.out 5 _ rfl
      have t34 : a.tmps[34]?.getD undef = .pointer (some ⟨pa, 5, none⟩) := Reg.slot_val (hd 26 (by kernel_rfl) 34 rfl)
      go_simp
      exact hK _ _ (fun _ => rfl) (fun h => by cases h) HC.out trivial
    · rintro a w1 hC hx hd K hK
      have HC := Lib.hid hC
      clear hC
      have t1 : a.tmps[1]?.getD undef = .pointer (some ⟨pb, 0, none⟩) := Reg.slot_val (hx 1 (by kernel_rfl))
      go_simp
      exact hK _ _ (fun _ => rfl) (fun h => by cases h) HC.out trivial
    · rintro a w1 hC hx hd K hK
      have HC := Lib.hid hC
      clear hC
      have t36 : a.tmps[36]?.getD undef = .pointer (some ⟨pb, 0, none⟩) := Reg.slot_val (hd 28 (by kernel_rfl) 36 rfl)
      go_simp
      exact hK _ _ (fun _ => rfl) (fun h => by cases h) HC.out trivial
    · rintro a w1 hC hx hd K hK
      have HC := Lib.hid hC
      clear hC
      have t37 : a.tmps[37]?.getD undef = .pointer (some ⟨pb, 0, none⟩) := Reg.slot_val (hd 29 (by kernel_rfl) 37 rfl)
      go_simp
      exact hK _ _ (fun _ => rfl) (fun h => by cases h) HC.out trivial
    · rintro a w1 hC hx hd K hK
      have HC := Lib.hid hC
      clear hC
      have y5 := A1.out.below HC.out 5 _ rfl
      have t38 : a.tmps[38]?.getD undef = .pointer (some ⟨pb, 5, none⟩) := Reg.slot_val (hd 30 (by kernel_rfl) 38 rfl)
      go_simp
      exact hK _ _ (fun _ => rfl) (fun h => by cases h) HC.out trivial
    · rintro a w1 hC hx hd K hK
      have HC := Lib.hid hC
      clear hC
      have t35 : a.tmps[35]?.getD undef = .slice B.wa B.wl B.wc := Reg.slot_val (hd 27 (by kernel_rfl) 35 rfl)
      have t39 : a.tmps[39]?.getD undef = .slice B'.wa B'.wl B'.wc := Reg.slot_val (hd 31 (by kernel_rfl) 39 rfl)
      go_simp
      refine (J5.out _ HC.out).mono ?_
      rintro en w2 ⟨rfl, m, hw2⟩
      exact hK _ _ (fun _ => rfl) (fun h => by cases h) (by rw [hw2]; exact below_drewN HC.out _) trivial
    · rintro a w1 hC hx hd K hK
      have HC := Lib.hid hC
      clear hC
      have t40 : a.tmps[40]?.getD undef = .bool true := Reg.slot_val (hd 32 (by kernel_rfl) 40 rfl)
      go_simp
      exact hK _ _ (fun _ => rfl) (fun h => by cases h) HC.out trivial
    · rintro a w1 hC hx hd K hK
      have HC := Lib.hid hC
      clear hC
      have t31 : a.tmps[31]?.getD undef = .bool false := Reg.slot_val (hd 23 (by kernel_rfl) 31 rfl)
      have t41 : a.tmps[41]?.getD undef = .bool false := Reg.slot_val (hd 33 (by kernel_rfl) 41 rfl)
      go_simp
      exact hK _ _ (fun _ => rfl) (fun h => by cases h) HC.out trivial
  · rintro f wz hC hd hT
    have g42 : f 42 = .bool false := hd 34 42 rfl
    simp only [Reg.mixL, g42, Nat.zero_add, Nat.reduceAdd]
    have HC := Lib.hid hC
    clear hC hd hT
    have k2 := A0.out.below HC.out 2 _ rfl
    have j2 := A1.out.below HC.out 2 _ rfl
    go_wp2
    go_loopw [48] (fun i w' => ∃ k : Nat, k ≤ B.sl ∧ i = .int .i64 k ∧ Aside (∀ j, j < k → sameSp (c.ss.getD j s0) (c'.ss.getD j s0) = true) ∧ Aside (Below w.heap.size w w')) (fun i _ => B.sl - (intOf i).toNat)
    case atStart => exact ⟨0, Nat.zero_le _, rfl, (fun j hj => absurd hj (by omega)), HC.out⟩
    case round =>
      obtain ⟨k, hk, rfl, hall, hA⟩ := hrel
      have HB := Lib.hid hA.out
      clear hA k2 j2
      by_cases hlt : k < B.sl
      · obtain ⟨b1, o1, hsa, hcell1⟩ := (H.out.below HB.out).2.2.1.some (by omega)
        obtain ⟨b2, o2, hsb, hcell2⟩ := (H'.out.below HB.out).2.2.1.some (by have := HL.out; omega)
        obtain ⟨p1, q1, c11, c12, c13, c14, f11, f12⟩ := hcell1 k hlt
        obtain ⟨p2, q2, c21, c22, c23, c24, f21, f22⟩ := hcell2 k (by have := HL.out; omega)
        have k2 := A0.out.below HB.out 2 _ rfl
        have j2 := A1.out.below HB.out 2 _ rfl
        rw [hsa] at k2
        rw [hsb] at j2
        have hk0 : (0 : Int) ≤ (k : Int) := by omega
        have hk1 : (k : Int) < (B.sl : Int) := by omega
        have hk2 : (k : Int) < (B'.sl : Int) := by have := HL.out; omega
        have hsv : sameSp (c.ss.getD k s0) (c'.ss.getD k s0) = ((c.ss.getD k s0).1 == (c'.ss.getD k s0).1 && (c.ss.getD k s0).2.1 == (c'.ss.getD k s0).2.1 && bitsZ p1 == bitsZ p2 && bitsZ q1 == bitsZ q2) := by
          unfold sameSp; rw [bitsZ_of f11, bitsZ_of f12, bitsZ_of f21, bitsZ_of f22]
        have hJ1 := fun w => l01Same p1 p2 w f11.1 f21.1
        have hJ2 := fun w => l01Same q1 q2 w f12.1 f22.1
        have l11 := fun ob => cell_alloc (o := ob) c11
        have l12 := fun ob => cell_alloc (o := ob) c12
        have l13 := fun ob => cell_alloc (o := ob) c13
        have l14 := fun ob => cell_alloc (o := ob) c14
        have l21 := fun ob => cell_alloc (o := ob) c21
        have l22 := fun ob => cell_alloc (o := ob) c22
        have l23 := fun ob => cell_alloc (o := ob) c23
        have l24 := fun ob => cell_alloc (o := ob) c24
        have lk := fun ob => cell_alloc (o := ob) k2
        have lj := fun ob => cell_alloc (o := ob) j2
        have HX := Lib.hid (HNE.out k (by rw [HZ.out]; exact hlt))
        have HSV := Lib.hid hsv
        have HB2 : Hid (Below w.heap.size w ((wr.alloc (.cells #[.int .i64 (c.ss.getD k s0).1, .int .i64 (c.ss.getD k s0).2.1, .float .f32 p1, .float .f32 q1] 75)).alloc (.cells #[.int .i64 (c'.ss.getD k s0).1, .int .i64 (c'.ss.getD k s0).2.1, .float .f32 p2, .float .f32 q2] 75))) := Lib.hid ((HB.out.alloc HB.out.size _).alloc (by have := HB.out.size; simp; omega) _)
        have HALL : Hid (sameSp (c.ss.getD k s0) (c'.ss.getD k s0) = true → ∀ j, j < k + 1 → sameSp (c.ss.getD j s0) (c'.ss.getD j s0) = true) := Lib.hid (fun hz j hj => by
          by_cases hjk : j = k
          · subst hjk; exact hz
          · exact hall.out j (by omega))
        clear hall hsv hcell1 hcell2 f11 f12 f21 f22 hsa hsb
        obtain ⟨ua, hua⟩ : ∃ ua, ua = (c.ss.getD k s0).1 := ⟨_, rfl⟩
        obtain ⟨ub, hub⟩ : ∃ ub, ub = (c.ss.getD k s0).2.1 := ⟨_, rfl⟩
        obtain ⟨va, hva⟩ : ∃ va, va = (c'.ss.getD k s0).1 := ⟨_, rfl⟩
        obtain ⟨vb, hvb⟩ : ∃ vb, vb = (c'.ss.getD k s0).2.1 := ⟨_, rfl⟩
        rw [← hua] at c11 l11 HB2 HSV
        rw [← hub] at c12 l12 HB2 HSV
        rw [← hva] at c21 l21 HB2 HSV
        rw [← hvb] at c22 l22 HB2 HSV
        clear hua hub hva hvb
        generalize hb3 : (bitsZ p1 == bitsZ p2) = b3 at *
        generalize hb4 : (bitsZ q1 == bitsZ q2) = b4 at *
        have HJ1 := Lib.hid hJ1
        have HJ2 := Lib.hid hJ2
        clear hb3 hb4 hJ1 hJ2
        by_cases e1 : ua = va
        · have e1' : (ua == va) = true := by simp [e1]
          have e1'' : (ua != va) = false := by simp [e1]
          by_cases e2 : ub = vb
          · have e2' : (ub == vb) = true := by simp [e2]
            have e2'' : (ub != vb) = false := by simp [e2]
            have hv : sameSp (c.ss.getD k s0) (c'.ss.getD k s0) = (b3 && b4) := by rw [HSV.out, e1', e2']; simp
            have HV := Lib.hid hv
            clear hv e1 e2
            cases b3
            · have hres := Lib.hid (HX.out HV.out)
              clear HX HSV HALL
              go_wp2_with fail
              refine (HJ1.out _).mono ?_
              rintro e w1 ⟨rfl, hw⟩
              rw [hw]; clear hw w1
              go_wp2
              go_ret
              exact ⟨ret_bool (by rw [← HR.out, show sameSs c.ss c'.ss = false from hres.out]; rfl), HB2.out⟩
            · cases b4
              · have hres := Lib.hid (HX.out HV.out)
                clear HX HSV HALL
                go_wp2_with fail
                refine (HJ1.out _).mono ?_
                rintro e w1 ⟨rfl, hw⟩
                rw [hw]; clear hw w1
                go_wp2_with fail
                refine (HJ2.out _).mono ?_
                rintro e w1 ⟨rfl, hw⟩
                rw [hw]; clear hw w1
                go_wp2
                go_ret
                exact ⟨ret_bool (by rw [← HR.out, show sameSs c.ss c'.ss = false from hres.out]; rfl), HB2.out⟩
              · have hall' : Aside (∀ j, j < k + 1 → sameSp (c.ss.getD j s0) (c'.ss.getD j s0) = true) := HALL.out HV.out
                clear HX HSV HALL
                go_wp2_with fail
                refine (HJ1.out _).mono ?_
                rintro e w1 ⟨rfl, hw⟩
                rw [hw]; clear hw w1
                go_wp2_with fail
                refine (HJ2.out _).mono ?_
                rintro e w1 ⟨rfl, hw⟩
                rw [hw]; clear hw w1
                go_wp2
                go_roundw
                case rel => exact ⟨k + 1, by omega, by go_num, hall', HB2.out⟩
                case measure => simp [intOf]; omega
          · have e2' : (ub == vb) = false := beq_eq_false_iff_ne.2 e2
            have e2'' : (ub != vb) = true := by simp [e2]
            have hres := Lib.hid (HX.out (by rw [HSV.out, e1', e2']; rfl))
            clear HX HSV HALL e1
            go_wp2
            go_ret
            exact ⟨ret_bool (by rw [← HR.out, show sameSs c.ss c'.ss = false from hres.out]; rfl), HB2.out⟩
        · have e1' : (ua == va) = false := beq_eq_false_iff_ne.2 e1
          have e1'' : (ua != va) = true := by simp [e1]
          have hres := Lib.hid (HX.out (by rw [HSV.out, e1']; rfl))
          clear HX HSV HALL
          go_wp2
          go_ret
          exact ⟨ret_bool (by rw [← HR.out, show sameSs c.ss c'.ss = false from hres.out]; rfl), HB2.out⟩
      · obtain rfl : k = B.sl := by omega
        have hres := Lib.hid (HE.out (fun j hj => hall.out j (by rw [HZ.out] at hj; exact hj)))
        have hk1 : ¬ ((B.sl : Int) < (B.sl : Int)) := by omega
        clear hall
        have hlb : lastB c c' = ((bitsZ B.film == bitsZ B'.film) && (bitsZ B.bend == bitsZ B'.bend) && ((bitsZ B.x == bitsZ B'.x) && (bitsZ B.y == bitsZ B'.y) && (bitsZ B.z == bitsZ B'.z))) := by
          have h := H.out
          have h' := H'.out
          unfold lastB sameV
          rw [bitsZ_of h.2.2.2.2.1, bitsZ_of h'.2.2.2.2.1, bitsZ_of h.2.2.2.2.2.1, bitsZ_of h'.2.2.2.2.2.1, bitsZ_of h.2.2.2.2.2.2.1, bitsZ_of h.2.2.2.2.2.2.2.1, bitsZ_of h.2.2.2.2.2.2.2.2, bitsZ_of h'.2.2.2.2.2.2.1, bitsZ_of h'.2.2.2.2.2.2.2.1, bitsZ_of h'.2.2.2.2.2.2.2.2]
        have J3 := fun w => l01Same B.film B'.film w H.out.2.2.2.2.1.1 H'.out.2.2.2.2.1.1
        have J4 := fun w => l01Same B.bend B'.bend w H.out.2.2.2.2.2.1.1 H'.out.2.2.2.2.2.1.1
        have J6 := fun w => l01VSame B.x B.y B.z B'.x B'.y B'.z w H.out.2.2.2.2.2.2.1.1 H.out.2.2.2.2.2.2.2.1.1 H.out.2.2.2.2.2.2.2.2.1 H'.out.2.2.2.2.2.2.1.1 H'.out.2.2.2.2.2.2.2.1.1 H'.out.2.2.2.2.2.2.2.2.1
        generalize (bitsZ B.film == bitsZ B'.film) = bf at *
        generalize (bitsZ B.bend == bitsZ B'.bend) = bb at *
        generalize ((bitsZ B.x == bitsZ B'.x) && (bitsZ B.y == bitsZ B'.y) && (bitsZ B.z == bitsZ B'.z)) = bv at *
        have J3 := Lib.hid J3
        have J4 := Lib.hid J4
        have J6 := Lib.hid J6
        have HLB := Lib.hid hlb
        clear hlb
        cases bf
        · skip
          go_wp2_with fail
          refine RegG.wp_region_mix (C := fun w' => Below w.heap.size w w') (G := fun _ _ => True) (R := fun i v w' => match i with | 0 => v = .pointer (some ⟨pa, 0, none⟩) | 1 => v = .pointer (some ⟨pa, 0, none⟩) | 2 => v = .pointer (some ⟨pa, 3, none⟩) | 3 => v = .float .f32 B.film | 4 => v = .pointer (some ⟨pb, 0, none⟩) | 5 => v = .pointer (some ⟨pb, 0, none⟩) | 6 => v = .pointer (some ⟨pb, 3, none⟩) | 7 => v = .float .f32 B'.film | 8 => v = .bool false | 9 => v = .bool false | 19 => v = .bool false | 20 => v = .bool false | 30 => v = .bool false | 31 => v = .bool false | _ => True) (T := fun _ _ _ => True) [false, false, false, false, true, false, false, false, false, false, false, false, false, false, false, false, false, false, false, false, false, false, false, false, false, false, false, false, false, false, false, false, false, false, false, false, false, false, false, false, false, false, false, false, false, false, false, false, false, false, false, false, false, false, false, false, false, false, false, false, false, false, false, false, false, false, false, false, false, false, false, false, false, false, false, false, false, false, false, false, false, false, false, false, false, false, false, false, false, false, false, false, false, false, true, true, true, true, true, true, true, true, true, true, true, true, true, true, true, true, true, true, true, true, true, true, true, true, true, true, true, true, true, true, true]
            (by kernel_rfl) (by kernel_rfl) (by kernel_rfl) (fun _ _ _ _ _ _ h => h) (fun _ => trivial) (below_drewN HB.out 1) ?_ ?_
          · refine ⟨RegG.Obl.mk rfl ?_, RegG.Obl.mk rfl ?_, RegG.Obl.mk rfl ?_, RegG.Obl.mk rfl ?_, RegG.Obl.mk rfl ?_, RegG.Obl.mk rfl ?_, RegG.Obl.mk rfl ?_, RegG.Obl.mk rfl ?_, RegG.Obl.mk rfl ?_, RegG.Obl.mk rfl ?_, RegG.Obl.skip 9 103 true false rfl rfl (by kernel_rfl) (by decide) (fun a w h => h 103 rfl) (fun _ => trivial) (by simp), RegG.Obl.skip 9 103 true false rfl rfl (by kernel_rfl) (by decide) (fun a w h => h 103 rfl) (fun _ => trivial) (by simp), RegG.Obl.skip 9 103 true false rfl rfl (by kernel_rfl) (by decide) (fun a w h => h 103 rfl) (fun _ => trivial) (by simp), RegG.Obl.skip 9 103 true false rfl rfl (by kernel_rfl) (by decide) (fun a w h => h 103 rfl) (fun _ => trivial) (by simp), RegG.Obl.skip 9 103 true false rfl rfl (by kernel_rfl) (by decide) (fun a w h => h 103 rfl) (fun _ => trivial) (by simp), RegG.Obl.skip 9 103 true false rfl rfl (by kernel_rfl) (by decide) (fun a w h => h 103 rfl) (fun _ => trivial) (by simp), RegG.Obl.skip 9 103 true false rfl rfl (by kernel_rfl) (by decide) (fun a w h => h 103 rfl) (fun _ => trivial) (by simp), RegG.Obl.skip 9 103 true false rfl rfl (by kernel_rfl) (by decide) (fun a w h => h 103 rfl) (fun _ => trivial) (by simp), RegG.Obl.skip 9 103 true false rfl rfl (by kernel_rfl) (by decide) (fun a w h => h 103 rfl) (fun _ => trivial) (by simp), RegG.Obl.mk rfl ?_, RegG.Obl.mk rfl ?_, RegG.Obl.skip 20 114 true false rfl rfl (by kernel_rfl) (by decide) (fun a w h => h 114 rfl) (fun _ => trivial) (by simp), RegG.Obl.skip 20 114 true false rfl rfl (by kernel_rfl) (by decide) (fun a w h => h 114 rfl) (fun _ => trivial) (by simp), RegG.Obl.skip 20 114 true false rfl rfl (by kernel_rfl) (by decide) (fun a w h => h 114 rfl) (fun _ => trivial) (by simp), RegG.Obl.skip 20 114 true false rfl rfl (by kernel_rfl) (by decide) (fun a w h => h 114 rfl) (fun _ => trivial) (by simp), RegG.Obl.skip 20 114 true false rfl rfl (by kernel_rfl) (by decide) (fun a w h => h 114 rfl) (fun _ => trivial) (by simp), RegG.Obl.skip 20 114 true false rfl rfl (by kernel_rfl) (by decide) (fun a w h => h 114 rfl) (fun _ => trivial) (by simp), RegG.Obl.skip 20 114 true false rfl rfl (by kernel_rfl) (by decide) (fun a w h => h 114 rfl) (fun _ => trivial) (by simp), RegG.Obl.skip 20 114 true false rfl rfl (by kernel_rfl) (by decide) (fun a w h => h 114 rfl) (fun _ => trivial) (by simp), RegG.Obl.skip 20 114 true false rfl rfl (by kernel_rfl) (by decide) (fun a w h => h 114 rfl) (fun _ => trivial) (by simp), RegG.Obl.mk rfl ?_, RegG.Obl.mk rfl ?_, trivial⟩
            · rintro a w1 hC hx hd K hK
              have HC := Lib.hid hC
              clear hC
              have t0 : a.tmps[0]?.getD undef = .pointer (some ⟨pa, 0, none⟩) := Reg.slot_val (hx 0 (by kernel_rfl))
              go_simp
              exact hK _ _ (fun _ => rfl) (fun h => by cases h) HC.out trivial
            · rintro a w1 hC hx hd K hK
              have HC := Lib.hid hC
              clear hC
              have t94 : a.tmps[94]?.getD undef = .pointer (some ⟨pa, 0, none⟩) := Reg.slot_val (hd 0 (by kernel_rfl) 94 rfl)
              go_simp
              exact hK _ _ (fun _ => rfl) (fun h => by cases h) HC.out trivial
            · rintro a w1 hC hx hd K hK
              have HC := Lib.hid hC
              clear hC
              have t95 : a.tmps[95]?.getD undef = .pointer (some ⟨pa, 0, none⟩) := Reg.slot_val (hd 1 (by kernel_rfl) 95 rfl)
              go_simp
              exact hK _ _ (fun _ => rfl) (fun h => by cases h) HC.out trivial
            · rintro a w1 hC hx hd K hK
              have HC := Lib.hid hC
              clear hC
              have y3 := A0.out.below HC.out 3 _ rfl
              have t96 : a.tmps[96]?.getD undef = .pointer (some ⟨pa, 3, none⟩) := Reg.slot_val (hd 2 (by kernel_rfl) 96 rfl)
              go_simp
              exact hK _ _ (fun _ => rfl) (fun h => by cases h) HC.out trivial
            · rintro a w1 hC hx hd K hK
              have HC := Lib.hid hC
              clear hC
              have t1 : a.tmps[1]?.getD undef = .pointer (some ⟨pb, 0, none⟩) := Reg.slot_val (hx 1 (by kernel_rfl))
              go_simp
              exact hK _ _ (fun _ => rfl) (fun h => by cases h) HC.out trivial
            · rintro a w1 hC hx hd K hK
              have HC := Lib.hid hC
              clear hC
              have t98 : a.tmps[98]?.getD undef = .pointer (some ⟨pb, 0, none⟩) := Reg.slot_val (hd 4 (by kernel_rfl) 98 rfl)
              go_simp
              exact hK _ _ (fun _ => rfl) (fun h => by cases h) HC.out trivial
            · rintro a w1 hC hx hd K hK
              have HC := Lib.hid hC
              clear hC
              have t99 : a.tmps[99]?.getD undef = .pointer (some ⟨pb, 0, none⟩) := Reg.slot_val (hd 5 (by kernel_rfl) 99 rfl)
              go_simp
              exact hK _ _ (fun _ => rfl) (fun h => by cases h) HC.out trivial
            · rintro a w1 hC hx hd K hK
              have HC := Lib.hid hC
              clear hC
              have y3 := A1.out.below HC.out 3 _ rfl
              have t100 : a.tmps[100]?.getD undef = .pointer (some ⟨pb, 3, none⟩) := Reg.slot_val (hd 6 (by kernel_rfl) 100 rfl)
              go_simp
              exact hK _ _ (fun _ => rfl) (fun h => by cases h) HC.out trivial
            · rintro a w1 hC hx hd K hK
              have HC := Lib.hid hC
              clear hC
              have t97 : a.tmps[97]?.getD undef = .float .f32 B.film := Reg.slot_val (hd 3 (by kernel_rfl) 97 rfl)
              have t101 : a.tmps[101]?.getD undef = .float .f32 B'.film := Reg.slot_val (hd 7 (by kernel_rfl) 101 rfl)
              go_simp
              refine (J3.out _).mono ?_
              rintro en w2 ⟨rfl, hw2⟩
              exact hK _ _ (fun _ => rfl) (fun h => by cases h) (by rw [hw2]; exact HC.out) trivial
            · rintro a w1 hC hx hd K hK
              have HC := Lib.hid hC
              clear hC
              have t102 : a.tmps[102]?.getD undef = .bool false := Reg.slot_val (hd 8 (by kernel_rfl) 102 rfl)
              go_simp
              exact hK _ _ (fun _ => rfl) (fun h => by cases h) HC.out trivial
            · rintro a w1 hC hx hd K hK
              have HC := Lib.hid hC
              clear hC
              have t103 : a.tmps[103]?.getD undef = .bool false := Reg.slot_val (hd 9 (by kernel_rfl) 103 rfl)
              go_simp
              exact hK _ _ (fun _ => rfl) (fun h => by cases h) HC.out trivial
            · rintro a w1 hC hx hd K hK
              have HC := Lib.hid hC
              clear hC
              have t113 : a.tmps[113]?.getD undef = .bool false := Reg.slot_val (hd 19 (by kernel_rfl) 113 rfl)
              go_simp
              exact hK _ _ (fun _ => rfl) (fun h => by cases h) HC.out trivial
            · rintro a w1 hC hx hd K hK
              have HC := Lib.hid hC
              clear hC
              have t114 : a.tmps[114]?.getD undef = .bool false := Reg.slot_val (hd 20 (by kernel_rfl) 114 rfl)
              go_simp
              exact hK _ _ (fun _ => rfl) (fun h => by cases h) HC.out trivial
            · rintro a w1 hC hx hd K hK
              have HC := Lib.hid hC
              clear hC
              have t124 : a.tmps[124]?.getD undef = .bool false := Reg.slot_val (hd 30 (by kernel_rfl) 124 rfl)
              go_simp
              exact hK _ _ (fun _ => rfl) (fun h => by cases h) HC.out trivial
          · rintro f wz hC hd hT
            have g4 : f 4 = .bool false := hd 31 4 rfl
            simp only [Reg.mixL, g4]
            have HC := Lib.hid hC
            clear hC hd hT
            go_wp2
            go_ret
            exact ⟨ret_bool (by rw [← HR.out, show sameSs c.ss c'.ss = true from hres.out, HLB.out]; rfl), HC.out⟩
        · cases bb
          · skip
            go_wp2_with fail
            refine RegG.wp_region_mix (C := fun w' => Below w.heap.size w w') (G := fun _ _ => True) (R := fun i v w' => match i with | 0 => v = .pointer (some ⟨pa, 0, none⟩) | 1 => v = .pointer (some ⟨pa, 0, none⟩) | 2 => v = .pointer (some ⟨pa, 3, none⟩) | 3 => v = .float .f32 B.film | 4 => v = .pointer (some ⟨pb, 0, none⟩) | 5 => v = .pointer (some ⟨pb, 0, none⟩) | 6 => v = .pointer (some ⟨pb, 3, none⟩) | 7 => v = .float .f32 B'.film | 8 => v = .bool true | 9 => v = .bool true | 10 => v = .pointer (some ⟨pa, 0, none⟩) | 11 => v = .pointer (some ⟨pa, 0, none⟩) | 12 => v = .pointer (some ⟨pa, 4, none⟩) | 13 => v = .float .f32 B.bend | 14 => v = .pointer (some ⟨pb, 0, none⟩) | 15 => v = .pointer (some ⟨pb, 0, none⟩) | 16 => v = .pointer (some ⟨pb, 4, none⟩) | 17 => v = .float .f32 B'.bend | 18 => v = .bool false | 19 => v = .bool false | 20 => v = .bool false | 30 => v = .bool false | 31 => v = .bool false | _ => True) (T := fun _ _ _ => True) [false, false, false, false, true, false, false, false, false, false, false, false, false, false, false, false, false, false, false, false, false, false, false, false, false, false, false, false, false, false, false, false, false, false, false, false, false, false, false, false, false, false, false, false, false, false, false, false, false, false, false, false, false, false, false, false, false, false, false, false, false, false, false, false, false, false, false, false, false, false, false, false, false, false, false, false, false, false, false, false, false, false, false, false, false, false, false, false, false, false, false, false, false, false, true, true, true, true, true, true, true, true, true, true, true, true, true, true, true, true, true, true, true, true, true, true, true, true, true, true, true, true, true, true, true]
              (by kernel_rfl) (by kernel_rfl) (by kernel_rfl) (fun _ _ _ _ _ _ h => h) (fun _ => trivial) (below_drewN HB.out 1) ?_ ?_
            · refine ⟨RegG.Obl.mk rfl ?_, RegG.Obl.mk rfl ?_, RegG.Obl.mk rfl ?_, RegG.Obl.mk rfl ?_, RegG.Obl.mk rfl ?_, RegG.Obl.mk rfl ?_, RegG.Obl.mk rfl ?_, RegG.Obl.mk rfl ?_, RegG.Obl.mk rfl ?_, RegG.Obl.mk rfl ?_, RegG.Obl.go 9 103 true rfl rfl (by kernel_rfl) (fun a w h => h 103 rfl) ?_, RegG.Obl.go 9 103 true rfl rfl (by kernel_rfl) (fun a w h => h 103 rfl) ?_, RegG.Obl.go 9 103 true rfl rfl (by kernel_rfl) (fun a w h => h 103 rfl) ?_, RegG.Obl.go 9 103 true rfl rfl (by kernel_rfl) (fun a w h => h 103 rfl) ?_, RegG.Obl.go 9 103 true rfl rfl (by kernel_rfl) (fun a w h => h 103 rfl) ?_, RegG.Obl.go 9 103 true rfl rfl (by kernel_rfl) (fun a w h => h 103 rfl) ?_, RegG.Obl.go 9 103 true rfl rfl (by kernel_rfl) (fun a w h => h 103 rfl) ?_, RegG.Obl.go 9 103 true rfl rfl (by kernel_rfl) (fun a w h => h 103 rfl) ?_, RegG.Obl.go 9 103 true rfl rfl (by kernel_rfl) (fun a w h => h 103 rfl) ?_, RegG.Obl.mk rfl ?_, RegG.Obl.mk rfl ?_, RegG.Obl.skip 20 114 true false rfl rfl (by kernel_rfl) (by decide) (fun a w h => h 114 rfl) (fun _ => trivial) (by simp), RegG.Obl.skip 20 114 true false rfl rfl (by kernel_rfl) (by decide) (fun a w h => h 114 rfl) (fun _ => trivial) (by simp), RegG.Obl.skip 20 114 true false rfl rfl (by kernel_rfl) (by decide) (fun a w h => h 114 rfl) (fun _ => trivial) (by simp), RegG.Obl.skip 20 114 true false rfl rfl (by kernel_rfl) (by decide) (fun a w h => h 114 rfl) (fun _ => trivial) (by simp), RegG.Obl.skip 20 114 true false rfl rfl (by kernel_rfl) (by decide) (fun a w h => h 114 rfl) (fun _ => trivial) (by simp), RegG.Obl.skip 20 114 true false rfl rfl (by kernel_rfl) (by decide) (fun a w h => h 114 rfl) (fun _ => trivial) (by simp), RegG.Obl.skip 20 114 true false rfl rfl (by kernel_rfl) (by decide) (fun a w h => h 114 rfl) (fun _ => trivial) (by simp), RegG.Obl.skip 20 114 true false rfl rfl (by kernel_rfl) (by decide) (fun a w h => h 114 rfl) (fun _ => trivial) (by simp), RegG.Obl.skip 20 114 true false rfl rfl (by kernel_rfl) (by decide) (fun a w h => h 114 rfl) (fun _ => trivial) (by simp), RegG.Obl.mk rfl ?_, RegG.Obl.mk rfl ?_, trivial⟩
              · rintro a w1 hC hx hd K hK
                have HC := Lib.hid hC
                clear hC
                have t0 : a.tmps[0]?.getD undef = .pointer (some ⟨pa, 0, none⟩) := Reg.slot_val (hx 0 (by kernel_rfl))
                go_simp
                exact hK _ _ (fun _ => rfl) (fun h => by cases h) HC.out trivial
              · rintro a w1 hC hx hd K hK
                have HC := Lib.hid hC
                clear hC
                have t94 : a.tmps[94]?.getD undef = .pointer (some ⟨pa, 0, none⟩) := Reg.slot_val (hd 0 (by kernel_rfl) 94 rfl)
                go_simp
                exact hK _ _ (fun _ => rfl) (fun h => by cases h) HC.out trivial
              · rintro a w1 hC hx hd K hK
                have HC := Lib.hid hC
                clear hC
                have t95 : a.tmps[95]?.getD undef = .pointer (some ⟨pa, 0, none⟩) := Reg.slot_val (hd 1 (by kernel_rfl) 95 rfl)
                go_simp
                exact hK _ _ (fun _ => rfl) (fun h => by cases h) HC.out trivial
              · rintro a w1 hC hx hd K hK
                have HC := Lib.hid hC
                clear hC
                have y3 := A0.out.below HC.out 3 _ rfl
                have t96 : a.tmps[96]?.getD undef = .pointer (some ⟨pa, 3, none⟩) := Reg.slot_val (hd 2 (by kernel_rfl) 96 rfl)
                go_simp
                exact hK _ _ (fun _ => rfl) (fun h => by cases h) HC.out trivial
              · rintro a w1 hC hx hd K hK
                have HC := Lib.hid hC
                clear hC
                have t1 : a.tmps[1]?.getD undef = .pointer (some ⟨pb, 0, none⟩) := Reg.slot_val (hx 1 (by kernel_rfl))
                go_simp
                exact hK _ _ (fun _ => rfl) (fun h => by cases h) HC.out trivial
              · rintro a w1 hC hx hd K hK
                have HC := Lib.hid hC
                clear hC
                have t98 : a.tmps[98]?.getD undef = .pointer (some ⟨pb, 0, none⟩) := Reg.slot_val (hd 4 (by kernel_rfl) 98 rfl)
                go_simp
                exact hK _ _ (fun _ => rfl) (fun h => by cases h) HC.out trivial
              · rintro a w1 hC hx hd K hK
                have HC := Lib.hid hC
                clear hC
                have t99 : a.tmps[99]?.getD undef = .pointer (some ⟨pb, 0, none⟩) := Reg.slot_val (hd 5 (by kernel_rfl) 99 rfl)
                go_simp
                exact hK _ _ (fun _ => rfl) (fun h => by cases h) HC.out trivial
              · rintro a w1 hC hx hd K hK
                have HC := Lib.hid hC
                clear hC
                have y3 := A1.out.below HC.out 3 _ rfl
                have t100 : a.tmps[100]?.getD undef = .pointer (some ⟨pb, 3, none⟩) := Reg.slot_val (hd 6 (by kernel_rfl) 100 rfl)
                go_simp
                exact hK _ _ (fun _ => rfl) (fun h => by cases h) HC.out trivial
              · rintro a w1 hC hx hd K hK
                have HC := Lib.hid hC
                clear hC
                have t97 : a.tmps[97]?.getD undef = .float .f32 B.film := Reg.slot_val (hd 3 (by kernel_rfl) 97 rfl)
                have t101 : a.tmps[101]?.getD undef = .float .f32 B'.film := Reg.slot_val (hd 7 (by kernel_rfl) 101 rfl)
                go_simp
                refine (J3.out _).mono ?_
                rintro en w2 ⟨rfl, hw2⟩
                exact hK _ _ (fun _ => rfl) (fun h => by cases h) (by rw [hw2]; exact HC.out) trivial
              · rintro a w1 hC hx hd K hK
                have HC := Lib.hid hC
                clear hC
                have t102 : a.tmps[102]?.getD undef = .bool true := Reg.slot_val (hd 8 (by kernel_rfl) 102 rfl)
                go_simp
                exact hK _ _ (fun _ => rfl) (fun h => by cases h) HC.out trivial
              · rintro a w1 hC hx hd K hK
                have HC := Lib.hid hC
                clear hC
                have t0 : a.tmps[0]?.getD undef = .pointer (some ⟨pa, 0, none⟩) := Reg.slot_val (hx 0 (by kernel_rfl))
                go_simp
                exact hK _ _ (fun _ => rfl) (fun h => by cases h) HC.out trivial
              · rintro a w1 hC hx hd K hK
                have HC := Lib.hid hC
                clear hC
                have t104 : a.tmps[104]?.getD undef = .pointer (some ⟨pa, 0, none⟩) := Reg.slot_val (hd 10 (by kernel_rfl) 104 rfl)
                go_simp
                exact hK _ _ (fun _ => rfl) (fun h => by cases h) HC.out trivial
              · rintro a w1 hC hx hd K hK
                have HC := Lib.hid hC
                clear hC
                have t105 : a.tmps[105]?.getD undef = .pointer (some ⟨pa, 0, none⟩) := Reg.slot_val (hd 11 (by kernel_rfl) 105 rfl)
                go_simp
                exact hK _ _ (fun _ => rfl) (fun h => by cases h) HC.out trivial
              · rintro a w1 hC hx hd K hK
                have HC := Lib.hid hC
                clear hC
                have y4 := A0.out.below HC.out 4 _ rfl
                have t106 : a.tmps[106]?.getD undef = .pointer (some ⟨pa, 4, none⟩) := Reg.slot_val (hd 12 (by kernel_rfl) 106 rfl)
                go_simp
                exact hK _ _ (fun _ => rfl) (fun h => by cases h) HC.out trivial
              · rintro a w1 hC hx hd K hK
                have HC := Lib.hid hC
                clear hC
                have t1 : a.tmps[1]?.getD undef = .pointer (some ⟨pb, 0, none⟩) := Reg.slot_val (hx 1 (by kernel_rfl))
                go_simp
                exact hK _ _ (fun _ => rfl) (fun h => by cases h) HC.out trivial
              · rintro a w1 hC hx hd K hK
                have HC := Lib.hid hC
                clear hC
                have t108 : a.tmps[108]?.getD undef = .pointer (some ⟨pb, 0, none⟩) := Reg.slot_val (hd 14 (by kernel_rfl) 108 rfl)
                go_simp
                exact hK _ _ (fun _ => rfl) (fun h => by cases h) HC.out trivial
              · rintro a w1 hC hx hd K hK
                have HC := Lib.hid hC
                clear hC
                have t109 : a.tmps[109]?.getD undef = .pointer (some ⟨pb, 0, none⟩) := Reg.slot_val (hd 15 (by kernel_rfl) 109 rfl)
                go_simp
                exact hK _ _ (fun _ => rfl) (fun h => by cases h) HC.out trivial
              · rintro a w1 hC hx hd K hK
                have HC := Lib.hid hC
                clear hC
                have y4 := A1.out.below HC.out 4 _ rfl
                have t110 : a.tmps[110]?.getD undef = .pointer (some ⟨pb, 4, none⟩) := Reg.slot_val (hd 16 (by kernel_rfl) 110 rfl)
                go_simp
                exact hK _ _ (fun _ => rfl) (fun h => by cases h) HC.out trivial
              · rintro a w1 hC hx hd K hK
                have HC := Lib.hid hC
                clear hC
                have t107 : a.tmps[107]?.getD undef = .float .f32 B.bend := Reg.slot_val (hd 13 (by kernel_rfl) 107 rfl)
                have t111 : a.tmps[111]?.getD undef = .float .f32 B'.bend := Reg.slot_val (hd 17 (by kernel_rfl) 111 rfl)
                go_simp
                refine (J4.out _).mono ?_
                rintro en w2 ⟨rfl, hw2⟩
                exact hK _ _ (fun _ => rfl) (fun h => by cases h) (by rw [hw2]; exact HC.out) trivial
              · rintro a w1 hC hx hd K hK
                have HC := Lib.hid hC
                clear hC
                have t103 : a.tmps[103]?.getD undef = .bool true := Reg.slot_val (hd 9 (by kernel_rfl) 103 rfl)
                have t112 : a.tmps[112]?.getD undef = .bool false := Reg.slot_val (hd 18 (by kernel_rfl) 112 rfl)
                go_simp
                exact hK _ _ (fun _ => rfl) (fun h => by cases h) HC.out trivial
              · rintro a w1 hC hx hd K hK
                have HC := Lib.hid hC
                clear hC
                have t113 : a.tmps[113]?.getD undef = .bool false := Reg.slot_val (hd 19 (by kernel_rfl) 113 rfl)
                go_simp
                exact hK _ _ (fun _ => rfl) (fun h => by cases h) HC.out trivial
              · rintro a w1 hC hx hd K hK
                have HC := Lib.hid hC
                clear hC
                have t114 : a.tmps[114]?.getD undef = .bool false := Reg.slot_val (hd 20 (by kernel_rfl) 114 rfl)
                go_simp
                exact hK _ _ (fun _ => rfl) (fun h => by cases h) HC.out trivial
              · rintro a w1 hC hx hd K hK
                have HC := Lib.hid hC
                clear hC
                have t124 : a.tmps[124]?.getD undef = .bool false := Reg.slot_val (hd 30 (by kernel_rfl) 124 rfl)
                go_simp
                exact hK _ _ (fun _ => rfl) (fun h => by cases h) HC.out trivial
            · rintro f wz hC hd hT
              have g4 : f 4 = .bool false := hd 31 4 rfl
              simp only [Reg.mixL, g4]
              have HC := Lib.hid hC
              clear hC hd hT
              go_wp2
              go_ret
              exact ⟨ret_bool (by rw [← HR.out, show sameSs c.ss c'.ss = true from hres.out, HLB.out]; rfl), HC.out⟩
          · cases bv
            · skip
              go_wp2_with fail
              refine RegG.wp_region_mix (C := fun w' => Below w.heap.size w w') (G := fun _ _ => True) (R := fun i v w' => match i with | 0 => v = .pointer (some ⟨pa, 0, none⟩) | 1 => v = .pointer (some ⟨pa, 0, none⟩) | 2 => v = .pointer (some ⟨pa, 3, none⟩) | 3 => v = .float .f32 B.film | 4 => v = .pointer (some ⟨pb, 0, none⟩) | 5 => v = .pointer (some ⟨pb, 0, none⟩) | 6 => v = .pointer (some ⟨pb, 3, none⟩) | 7 => v = .float .f32 B'.film | 8 => v = .bool true | 9 => v = .bool true | 10 => v = .pointer (some ⟨pa, 0, none⟩) | 11 => v = .pointer (some ⟨pa, 0, none⟩) | 12 => v = .pointer (some ⟨pa, 4, none⟩) | 13 => v = .float .f32 B.bend | 14 => v = .pointer (some ⟨pb, 0, none⟩) | 15 => v = .pointer (some ⟨pb, 0, none⟩) | 16 => v = .pointer (some ⟨pb, 4, none⟩) | 17 => v = .float .f32 B'.bend | 18 => v = .bool true | 19 => v = .bool true | 20 => v = .bool true | 21 => v = .pointer (some ⟨pa, 0, none⟩) | 22 => v = .pointer (some ⟨pa, 0, none⟩) | 23 => v = .pointer (some ⟨pa, 6, none⟩) | 24 => v = vv B.x B.y B.z | 25 => v = .pointer (some ⟨pb, 0, none⟩) | 26 => v = .pointer (some ⟨pb, 0, none⟩) | 27 => v = .pointer (some ⟨pb, 6, none⟩) | 28 => v = vv B'.x B'.y B'.z | 29 => v = .bool false | 30 => v = .bool false | 31 => v = .bool false | _ => True) (T := fun _ _ _ => True) [false, false, false, false, true, false, false, false, false, false, false, false, false, false, false, false, false, false, false, false, false, false, false, false, false, false, false, false, false, false, false, false, false, false, false, false, false, false, false, false, false, false, false, false, false, false, false, false, false, false, false, false, false, false, false, false, false, false, false, false, false, false, false, false, false, false, false, false, false, false, false, false, false, false, false, false, false, false, false, false, false, false, false, false, false, false, false, false, false, false, false, false, false, false, true, true, true, true, true, true, true, true, true, true, true, true, true, true, true, true, true, true, true, true, true, true, true, true, true, true, true, true, true, true, true]
                (by kernel_rfl) (by kernel_rfl) (by kernel_rfl) (fun _ _ _ _ _ _ h => h) (fun _ => trivial) (below_drewN HB.out 1) ?_ ?_
              · refine ⟨RegG.Obl.mk rfl ?_, RegG.Obl.mk rfl ?_, RegG.Obl.mk rfl ?_, RegG.Obl.mk rfl ?_, RegG.Obl.mk rfl ?_, RegG.Obl.mk rfl ?_, RegG.Obl.mk rfl ?_, RegG.Obl.mk rfl ?_, RegG.Obl.mk rfl ?_, RegG.Obl.mk rfl ?_, RegG.Obl.go 9 103 true rfl rfl (by kernel_rfl) (fun a w h => h 103 rfl) ?_, RegG.Obl.go 9 103 true rfl rfl (by kernel_rfl) (fun a w h => h 103 rfl) ?_, RegG.Obl.go 9 103 true rfl rfl (by kernel_rfl) (fun a w h => h 103 rfl) ?_, RegG.Obl.go 9 103 true rfl rfl (by kernel_rfl) (fun a w h => h 103 rfl) ?_, RegG.Obl.go 9 103 true rfl rfl (by kernel_rfl) (fun a w h => h 103 rfl) ?_, RegG.Obl.go 9 103 true rfl rfl (by kernel_rfl) (fun a w h => h 103 rfl) ?_, RegG.Obl.go 9 103 true rfl rfl (by kernel_rfl) (fun a w h => h 103 rfl) ?_, RegG.Obl.go 9 103 true rfl rfl (by kernel_rfl) (fun a w h => h 103 rfl) ?_, RegG.Obl.go 9 103 true rfl rfl (by kernel_rfl) (fun a w h => h 103 rfl) ?_, RegG.Obl.mk rfl ?_, RegG.Obl.mk rfl ?_, RegG.Obl.go 20 114 true rfl rfl (by kernel_rfl) (fun a w h => h 114 rfl) ?_, RegG.Obl.go 20 114 true rfl rfl (by kernel_rfl) (fun a w h => h 114 rfl) ?_, RegG.Obl.go 20 114 true rfl rfl (by kernel_rfl) (fun a w h => h 114 rfl) ?_, RegG.Obl.go 20 114 true rfl rfl (by kernel_rfl) (fun a w h => h 114 rfl) ?_, RegG.Obl.go 20 114 true rfl rfl (by kernel_rfl) (fun a w h => h 114 rfl) ?_, RegG.Obl.go 20 114 true rfl rfl (by kernel_rfl) (fun a w h => h 114 rfl) ?_, RegG.Obl.go 20 114 true rfl rfl (by kernel_rfl) (fun a w h => h 114 rfl) ?_, RegG.Obl.go 20 114 true rfl rfl (by kernel_rfl) (fun a w h => h 114 rfl) ?_, RegG.Obl.go 20 114 true rfl rfl (by kernel_rfl) (fun a w h => h 114 rfl) ?_, RegG.Obl.mk rfl ?_, RegG.Obl.mk rfl ?_, trivial⟩
                · rintro a w1 hC hx hd K hK
                  have HC := Lib.hid hC
                  clear hC
                  have t0 : a.tmps[0]?.getD undef = .pointer (some ⟨pa, 0, none⟩) := Reg.slot_val (hx 0 (by kernel_rfl))
                  go_simp
                  exact hK _ _ (fun _ => rfl) (fun h => by cases h) HC.out trivial
                · rintro a w1 hC hx hd K hK
                  have HC := Lib.hid hC
                  clear hC
                  have t94 : a.tmps[94]?.getD undef = .pointer (some ⟨pa, 0, none⟩) := Reg.slot_val (hd 0 (by kernel_rfl) 94 rfl)
                  go_simp
                  exact hK _ _ (fun _ => rfl) (fun h => by cases h) HC.out trivial
                · rintro a w1 hC hx hd K hK
                  have HC := Lib.hid hC
                  clear hC
                  have t95 : a.tmps[95]?.getD undef = .pointer (some ⟨pa, 0, none⟩) := Reg.slot_val (hd 1 (by kernel_rfl) 95 rfl)
                  go_simp
                  exact hK _ _ (fun _ => rfl) (fun h => by cases h) HC.out trivial
                · rintro a w1 hC hx hd K hK
                  have HC := Lib.hid hC
                  clear hC
                  have y3 := A0.out.below HC.out 3 _ rfl
                  have t96 : a.tmps[96]?.getD undef = .pointer (some ⟨pa, 3, none⟩) := Reg.slot_val (hd 2 (by kernel_rfl) 96 rfl)
                  go_simp
                  exact hK _ _ (fun _ => rfl) (fun h => by cases h) HC.out trivial
                · rintro a w1 hC hx hd K hK
                  have HC := Lib.hid hC
                  clear hC
                  have t1 : a.tmps[1]?.getD undef = .pointer (some ⟨pb, 0, none⟩) := Reg.slot_val (hx 1 (by kernel_rfl))
                  go_simp
                  exact hK _ _ (fun _ => rfl) (fun h => by cases h) HC.out trivial
                · rintro a w1 hC hx hd K hK
                  have HC := Lib.hid hC
                  clear hC
                  have t98 : a.tmps[98]?.getD undef = .pointer (some ⟨pb, 0, none⟩) := Reg.slot_val (hd 4 (by kernel_rfl) 98 rfl)
                  go_simp
                  exact hK _ _ (fun _ => rfl) (fun h => by cases h) HC.out trivial
                · rintro a w1 hC hx hd K hK
                  have HC := Lib.hid hC
                  clear hC
                  have t99 : a.tmps[99]?.getD undef = .pointer (some ⟨pb, 0, none⟩) := Reg.slot_val (hd 5 (by kernel_rfl) 99 rfl)
                  go_simp
                  exact hK _ _ (fun _ => rfl) (fun h => by cases h) HC.out trivial
                · rintro a w1 hC hx hd K hK
                  have HC := Lib.hid hC
                  clear hC
                  have y3 := A1.out.below HC.out 3 _ rfl
                  have t100 : a.tmps[100]?.getD undef = .pointer (some ⟨pb, 3, none⟩) := Reg.slot_val (hd 6 (by kernel_rfl) 100 rfl)
                  go_simp
                  exact hK _ _ (fun _ => rfl) (fun h => by cases h) HC.out trivial
                · rintro a w1 hC hx hd K hK
                  have HC := Lib.hid hC
                  clear hC
                  have t97 : a.tmps[97]?.getD undef = .float .f32 B.film := Reg.slot_val (hd 3 (by kernel_rfl) 97 rfl)
                  have t101 : a.tmps[101]?.getD undef = .float .f32 B'.film := Reg.slot_val (hd 7 (by kernel_rfl) 101 rfl)
                  go_simp
                  refine (J3.out _).mono ?_
                  rintro en w2 ⟨rfl, hw2⟩
                  exact hK _ _ (fun _ => rfl) (fun h => by cases h) (by rw [hw2]; exact HC.out) trivial
                · rintro a w1 hC hx hd K hK
                  have HC := Lib.hid hC
                  clear hC
                  have t102 : a.tmps[102]?.getD undef = .bool true := Reg.slot_val (hd 8 (by kernel_rfl) 102 rfl)
                  go_simp
                  exact hK _ _ (fun _ => rfl) (fun h => by cases h) HC.out trivial
                · rintro a w1 hC hx hd K hK
                  have HC := Lib.hid hC
                  clear hC
                  have t0 : a.tmps[0]?.getD undef = .pointer (some ⟨pa, 0, none⟩) := Reg.slot_val (hx 0 (by kernel_rfl))
                  go_simp
                  exact hK _ _ (fun _ => rfl) (fun h => by cases h) HC.out trivial
                · rintro a w1 hC hx hd K hK
                  have HC := Lib.hid hC
                  clear hC
                  have t104 : a.tmps[104]?.getD undef = .pointer (some ⟨pa, 0, none⟩) := Reg.slot_val (hd 10 (by kernel_rfl) 104 rfl)
                  go_simp
                  exact hK _ _ (fun _ => rfl) (fun h => by cases h) HC.out trivial
                · rintro a w1 hC hx hd K hK
                  have HC := Lib.hid hC
                  clear hC
                  have t105 : a.tmps[105]?.getD undef = .pointer (some ⟨pa, 0, none⟩) := Reg.slot_val (hd 11 (by kernel_rfl) 105 rfl)
                  go_simp
                  exact hK _ _ (fun _ => rfl) (fun h => by cases h) HC.out trivial
                · rintro a w1 hC hx hd K hK
                  have HC := Lib.hid hC
                  clear hC
                  have y4 := A0.out.below HC.out 4 _ rfl
                  have t106 : a.tmps[106]?.getD undef = .pointer (some ⟨pa, 4, none⟩) := Reg.slot_val (hd 12 (by kernel_rfl) 106 rfl)
                  go_simp
                  exact hK _ _ (fun _ => rfl) (fun h => by cases h) HC.out trivial
                · rintro a w1 hC hx hd K hK
                  have HC := Lib.hid hC
                  clear hC
                  have t1 : a.tmps[1]?.getD undef = .pointer (some ⟨pb, 0, none⟩) := Reg.slot_val (hx 1 (by kernel_rfl))
                  go_simp
                  exact hK _ _ (fun _ => rfl) (fun h => by cases h) HC.out trivial
                · rintro a w1 hC hx hd K hK
                  have HC := Lib.hid hC
                  clear hC
                  have t108 : a.tmps[108]?.getD undef = .pointer (some ⟨pb, 0, none⟩) := Reg.slot_val (hd 14 (by kernel_rfl) 108 rfl)
                  go_simp
                  exact hK _ _ (fun _ => rfl) (fun h => by cases h) HC.out trivial
                · rintro a w1 hC hx hd K hK
                  have HC := Lib.hid hC
                  clear hC
                  have t109 : a.tmps[109]?.getD undef = .pointer (some ⟨pb, 0, none⟩) := Reg.slot_val (hd 15 (by kernel_rfl) 109 rfl)
                  go_simp
                  exact hK _ _ (fun _ => rfl) (fun h => by cases h) HC.out trivial
                · rintro a w1 hC hx hd K hK
                  have HC := Lib.hid hC
                  clear hC
                  have y4 := A1.out.below HC.out 4 _ rfl
                  have t110 : a.tmps[110]?.getD undef = .pointer (some ⟨pb, 4, none⟩) := Reg.slot_val (hd 16 (by kernel_rfl) 110 rfl)
                  go_simp
                  exact hK _ _ (fun _ => rfl) (fun h => by cases h) HC.out trivial
                · rintro a w1 hC hx hd K hK
                  have HC := Lib.hid hC
                  clear hC
                  have t107 : a.tmps[107]?.getD undef = .float .f32 B.bend := Reg.slot_val (hd 13 (by kernel_rfl) 107 rfl)
                  have t111 : a.tmps[111]?.getD undef = .float .f32 B'.bend := Reg.slot_val (hd 17 (by kernel_rfl) 111 rfl)
                  go_simp
                  refine (J4.out _).mono ?_
                  rintro en w2 ⟨rfl, hw2⟩
                  exact hK _ _ (fun _ => rfl) (fun h => by cases h) (by rw [hw2]; exact HC.out) trivial
                · rintro a w1 hC hx hd K hK
                  have HC := Lib.hid hC
                  clear hC
                  have t103 : a.tmps[103]?.getD undef = .bool true := Reg.slot_val (hd 9 (by kernel_rfl) 103 rfl)
                  have t112 : a.tmps[112]?.getD undef = .bool true := Reg.slot_val (hd 18 (by kernel_rfl) 112 rfl)
                  go_simp
                  exact hK _ _ (fun _ => rfl) (fun h => by cases h) HC.out trivial
                · rintro a w1 hC hx hd K hK
                  have HC := Lib.hid hC
                  clear hC
                  have t113 : a.tmps[113]?.getD undef = .bool true := Reg.slot_val (hd 19 (by kernel_rfl) 113 rfl)
                  go_simp
                  exact hK _ _ (fun _ => rfl) (fun h => by cases h) HC.out trivial
                · rintro a w1 hC hx hd K hK
                  have HC := Lib.hid hC
                  clear hC
                  have t0 : a.tmps[0]?.getD undef = .pointer (some ⟨pa, 0, none⟩) := Reg.slot_val (hx 0 (by kernel_rfl))
                  go_simp
                  exact hK _ _ (fun _ => rfl) (fun h => by cases h) HC.out trivial
                · rintro a w1 hC hx hd K hK
                  have HC := Lib.hid hC
                  clear hC
                  have t115 : a.tmps[115]?.getD undef = .pointer (some ⟨pa, 0, none⟩) := Reg.slot_val (hd 21 (by kernel_rfl) 115 rfl)
                  go_simp
                  exact hK _ _ (fun _ => rfl) (fun h => by cases h) HC.out trivial
                · rintro a w1 hC hx hd K hK
                  have HC := Lib.hid hC
                  clear hC
                  have t116 : a.tmps[116]?.getD undef = .pointer (some ⟨pa, 0, none⟩) := Reg.slot_val (hd 22 (by kernel_rfl) 116 rfl)
                  go_simp
                  exact hK _ _ (fun _ => rfl) (fun h => by cases h) HC.out trivial
                · rintro a w1 hC hx hd K hK
                  have HC := Lib.hid hC
                  clear hC
                  have y6 := A0.out.below HC.out 6 _ rfl
                  have y7 := A0.out.below HC.out 7 _ rfl
                  have y8 := A0.out.below HC.out 8 _ rfl
                  have t117 : a.tmps[117]?.getD undef = .pointer (some ⟨pa, 6, none⟩) := Reg.slot_val (hd 23 (by kernel_rfl) 117 rfl)
                  go_simp
                  exact hK _ _ (fun _ => rfl) (fun h => by cases h) HC.out trivial
                · rintro a w1 hC hx hd K hK
                  have HC := Lib.hid hC
                  clear hC
                  have t1 : a.tmps[1]?.getD undef = .pointer (some ⟨pb, 0, none⟩) := Reg.slot_val (hx 1 (by kernel_rfl))
                  go_simp
                  exact hK _ _ (fun _ => rfl) (fun h => by cases h) HC.out trivial
                · rintro a w1 hC hx hd K hK
                  have HC := Lib.hid hC
                  clear hC
                  have t119 : a.tmps[119]?.getD undef = .pointer (some ⟨pb, 0, none⟩) := Reg.slot_val (hd 25 (by kernel_rfl) 119 rfl)
                  go_simp
                  exact hK _ _ (fun _ => rfl) (fun h => by cases h) HC.out trivial
                · rintro a w1 hC hx hd K hK
                  have HC := Lib.hid hC
                  clear hC
                  have t120 : a.tmps[120]?.getD undef = .pointer (some ⟨pb, 0, none⟩) := Reg.slot_val (hd 26 (by kernel_rfl) 120 rfl)
                  go_simp
                  exact hK _ _ (fun _ => rfl) (fun h => by cases h) HC.out trivial
                · rintro a w1 hC hx hd K hK
                  have HC := Lib.hid hC
                  clear hC
                  have y6 := A1.out.below HC.out 6 _ rfl
                  have y7 := A1.out.below HC.out 7 _ rfl
                  have y8 := A1.out.below HC.out 8 _ rfl
                  have t121 : a.tmps[121]?.getD undef = .pointer (some ⟨pb, 6, none⟩) := Reg.slot_val (hd 27 (by kernel_rfl) 121 rfl)
                  go_simp
                  exact hK _ _ (fun _ => rfl) (fun h => by cases h) HC.out trivial
                · rintro a w1 hC hx hd K hK
                  have HC := Lib.hid hC
                  clear hC
                  have t118 : a.tmps[118]?.getD undef = vv B.x B.y B.z := Reg.slot_val (hd 24 (by kernel_rfl) 118 rfl)
                  have t122 : a.tmps[122]?.getD undef = vv B'.x B'.y B'.z := Reg.slot_val (hd 28 (by kernel_rfl) 122 rfl)
                  go_simp
                  refine (J6.out _).mono ?_
                  rintro en w2 ⟨rfl, hB2⟩
                  exact hK _ _ (fun _ => rfl) (fun h => by cases h) (HC.out.trans (hB2.mono HC.out.size)) trivial
                · rintro a w1 hC hx hd K hK
                  have HC := Lib.hid hC
                  clear hC
                  have t114 : a.tmps[114]?.getD undef = .bool true := Reg.slot_val (hd 20 (by kernel_rfl) 114 rfl)
                  have t123 : a.tmps[123]?.getD undef = .bool false := Reg.slot_val (hd 29 (by kernel_rfl) 123 rfl)
                  go_simp
                  exact hK _ _ (fun _ => rfl) (fun h => by cases h) HC.out trivial
                · rintro a w1 hC hx hd K hK
                  have HC := Lib.hid hC
                  clear hC
                  have t124 : a.tmps[124]?.getD undef = .bool false := Reg.slot_val (hd 30 (by kernel_rfl) 124 rfl)
                  go_simp
                  exact hK _ _ (fun _ => rfl) (fun h => by cases h) HC.out trivial
              · rintro f wz hC hd hT
                have g4 : f 4 = .bool false := hd 31 4 rfl
                simp only [Reg.mixL, g4]
                have HC := Lib.hid hC
                clear hC hd hT
                go_wp2
                go_ret
                exact ⟨ret_bool (by rw [← HR.out, show sameSs c.ss c'.ss = true from hres.out, HLB.out]; rfl), HC.out⟩
            · skip
              go_wp2_with fail
              refine RegG.wp_region_mix (C := fun w' => Below w.heap.size w w') (G := fun _ _ => True) (R := fun i v w' => match i with | 0 => v = .pointer (some ⟨pa, 0, none⟩) | 1 => v = .pointer (some ⟨pa, 0, none⟩) | 2 => v = .pointer (some ⟨pa, 3, none⟩) | 3 => v = .float .f32 B.film | 4 => v = .pointer (some ⟨pb, 0, none⟩) | 5 => v = .pointer (some ⟨pb, 0, none⟩) | 6 => v = .pointer (some ⟨pb, 3, none⟩) | 7 => v = .float .f32 B'.film | 8 => v = .bool true | 9 => v = .bool true | 10 => v = .pointer (some ⟨pa, 0, none⟩) | 11 => v = .pointer (some ⟨pa, 0, none⟩) | 12 => v = .pointer (some ⟨pa, 4, none⟩) | 13 => v = .float .f32 B.bend | 14 => v = .pointer (some ⟨pb, 0, none⟩) | 15 => v = .pointer (some ⟨pb, 0, none⟩) | 16 => v = .pointer (some ⟨pb, 4, none⟩) | 17 => v = .float .f32 B'.bend | 18 => v = .bool true | 19 => v = .bool true | 20 => v = .bool true | 21 => v = .pointer (some ⟨pa, 0, none⟩) | 22 => v = .pointer (some ⟨pa, 0, none⟩) | 23 => v = .pointer (some ⟨pa, 6, none⟩) | 24 => v = vv B.x B.y B.z | 25 => v = .pointer (some ⟨pb, 0, none⟩) | 26 => v = .pointer (some ⟨pb, 0, none⟩) | 27 => v = .pointer (some ⟨pb, 6, none⟩) | 28 => v = vv B'.x B'.y B'.z | 29 => v = .bool true | 30 => v = .bool true | 31 => v = .bool true | _ => True) (T := fun _ _ _ => True) [false, false, false, false, true, false, false, false, false, false, false, false, false, false, false, false, false, false, false, false, false, false, false, false, false, false, false, false, false, false, false, false, false, false, false, false, false, false, false, false, false, false, false, false, false, false, false, false, false, false, false, false, false, false, false, false, false, false, false, false, false, false, false, false, false, false, false, false, false, false, false, false, false, false, false, false, false, false, false, false, false, false, false, false, false, false, false, false, false, false, false, false, false, false, true, true, true, true, true, true, true, true, true, true, true, true, true, true, true, true, true, true, true, true, true, true, true, true, true, true, true, true, true, true, true]
                (by kernel_rfl) (by kernel_rfl) (by kernel_rfl) (fun _ _ _ _ _ _ h => h) (fun _ => trivial) (below_drewN HB.out 1) ?_ ?_
              · refine ⟨RegG.Obl.mk rfl ?_, RegG.Obl.mk rfl ?_, RegG.Obl.mk rfl ?_, RegG.Obl.mk rfl ?_, RegG.Obl.mk rfl ?_, RegG.Obl.mk rfl ?_, RegG.Obl.mk rfl ?_, RegG.Obl.mk rfl ?_, RegG.Obl.mk rfl ?_, RegG.Obl.mk rfl ?_, RegG.Obl.go 9 103 true rfl rfl (by kernel_rfl) (fun a w h => h 103 rfl) ?_, RegG.Obl.go 9 103 true rfl rfl (by kernel_rfl) (fun a w h => h 103 rfl) ?_, RegG.Obl.go 9 103 true rfl rfl (by kernel_rfl) (fun a w h => h 103 rfl) ?_, RegG.Obl.go 9 103 true rfl rfl (by kernel_rfl) (fun a w h => h 103 rfl) ?_, RegG.Obl.go 9 103 true rfl rfl (by kernel_rfl) (fun a w h => h 103 rfl) ?_, RegG.Obl.go 9 103 true rfl rfl (by kernel_rfl) (fun a w h => h 103 rfl) ?_, RegG.Obl.go 9 103 true rfl rfl (by kernel_rfl) (fun a w h => h 103 rfl) ?_, RegG.Obl.go 9 103 true rfl rfl (by kernel_rfl) (fun a w h => h 103 rfl) ?_, RegG.Obl.go 9 103 true rfl rfl (by kernel_rfl) (fun a w h => h 103 rfl) ?_, RegG.Obl.mk rfl ?_, RegG.Obl.mk rfl ?_, RegG.Obl.go 20 114 true rfl rfl (by kernel_rfl) (fun a w h => h 114 rfl) ?_, RegG.Obl.go 20 114 true rfl rfl (by kernel_rfl) (fun a w h => h 114 rfl) ?_, RegG.Obl.go 20 114 true rfl rfl (by kernel_rfl) (fun a w h => h 114 rfl) ?_, RegG.Obl.go 20 114 true rfl rfl (by kernel_rfl) (fun a w h => h 114 rfl) ?_, RegG.Obl.go 20 114 true rfl rfl (by kernel_rfl) (fun a w h => h 114 rfl) ?_, RegG.Obl.go 20 114 true rfl rfl (by kernel_rfl) (fun a w h => h 114 rfl) ?_, RegG.Obl.go 20 114 true rfl rfl (by kernel_rfl) (fun a w h => h 114 rfl) ?_, RegG.Obl.go 20 114 true rfl rfl (by kernel_rfl) (fun a w h => h 114 rfl) ?_, RegG.Obl.go 20 114 true rfl rfl (by kernel_rfl) (fun a w h => h 114 rfl) ?_, RegG.Obl.mk rfl ?_, RegG.Obl.mk rfl ?_, trivial⟩
                · rintro a w1 hC hx hd K hK
                  have HC := Lib.hid hC
                  clear hC
                  have t0 : a.tmps[0]?.getD undef = .pointer (some ⟨pa, 0, none⟩) := Reg.slot_val (hx 0 (by kernel_rfl))
                  go_simp
                  exact hK _ _ (fun _ => rfl) (fun h => by cases h) HC.out trivial
                · rintro a w1 hC hx hd K hK
                  have HC := Lib.hid hC
                  clear hC
                  have t94 : a.tmps[94]?.getD undef = .pointer (some ⟨pa, 0, none⟩) := Reg.slot_val (hd 0 (by kernel_rfl) 94 rfl)
                  go_simp
                  exact hK _ _ (fun _ => rfl) (fun h => by cases h) HC.out trivial
                · rintro a w1 hC hx hd K hK
                  have HC := Lib.hid hC
                  clear hC
                  have t95 : a.tmps[95]?.getD undef = .pointer (some ⟨pa, 0, none⟩) := Reg.slot_val (hd 1 (by kernel_rfl) 95 rfl)
                  go_simp
                  exact hK _ _ (fun _ => rfl) (fun h => by cases h) HC.out trivial
                · rintro a w1 hC hx hd K hK
                  have HC := Lib.hid hC
                  clear hC
                  have y3 := A0.out.below HC.out 3 _ rfl
                  have t96 : a.tmps[96]?.getD undef = .pointer (some ⟨pa, 3, none⟩) := Reg.slot_val (hd 2 (by kernel_rfl) 96 rfl)
                  go_simp
                  exact hK _ _ (fun _ => rfl) (fun h => by cases h) HC.out trivial
                · rintro a w1 hC hx hd K hK
                  have HC := Lib.hid hC
                  clear hC
                  have t1 : a.tmps[1]?.getD undef = .pointer (some ⟨pb, 0, none⟩) := Reg.slot_val (hx 1 (by kernel_rfl))
                  go_simp
                  exact hK _ _ (fun _ => rfl) (fun h => by cases h) HC.out trivial
                · rintro a w1 hC hx hd K hK
                  have HC := Lib.hid hC
                  clear hC
                  have t98 : a.tmps[98]?.getD undef = .pointer (some ⟨pb, 0, none⟩) := Reg.slot_val (hd 4 (by kernel_rfl) 98 rfl)
                  go_simp
                  exact hK _ _ (fun _ => rfl) (fun h => by cases h) HC.out trivial
                · rintro a w1 hC hx hd K hK
                  have HC := Lib.hid hC
                  clear hC
                  have t99 : a.tmps[99]?.getD undef = .pointer (some ⟨pb, 0, none⟩) := Reg.slot_val (hd 5 (by kernel_rfl) 99 rfl)
                  go_simp
                  exact hK _ _ (fun _ => rfl) (fun h => by cases h) HC.out trivial
                · rintro a w1 hC hx hd K hK
                  have HC := Lib.hid hC
                  clear hC
                  have y3 := A1.out.below HC.out 3 _ rfl
                  have t100 : a.tmps[100]?.getD undef = .pointer (some ⟨pb, 3, none⟩) := Reg.slot_val (hd 6 (by kernel_rfl) 100 rfl)
                  go_simp
                  exact hK _ _ (fun _ => rfl) (fun h => by cases h) HC.out trivial
                · rintro a w1 hC hx hd K hK
                  have HC := Lib.hid hC
                  clear hC
                  have t97 : a.tmps[97]?.getD undef = .float .f32 B.film := Reg.slot_val (hd 3 (by kernel_rfl) 97 rfl)
                  have t101 : a.tmps[101]?.getD undef = .float .f32 B'.film := Reg.slot_val (hd 7 (by kernel_rfl) 101 rfl)
                  go_simp
                  refine (J3.out _).mono ?_
                  rintro en w2 ⟨rfl, hw2⟩
                  exact hK _ _ (fun _ => rfl) (fun h => by cases h) (by rw [hw2]; exact HC.out) trivial
                · rintro a w1 hC hx hd K hK
                  have HC := Lib.hid hC
                  clear hC
                  have t102 : a.tmps[102]?.getD undef = .bool true := Reg.slot_val (hd 8 (by kernel_rfl) 102 rfl)
                  go_simp
                  exact hK _ _ (fun _ => rfl) (fun h => by cases h) HC.out trivial
                · rintro a w1 hC hx hd K hK
                  have HC := Lib.hid hC
                  clear hC
                  have t0 : a.tmps[0]?.getD undef = .pointer (some ⟨pa, 0, none⟩) := Reg.slot_val (hx 0 (by kernel_rfl))
                  go_simp
                  exact hK _ _ (fun _ => rfl) (fun h => by cases h) HC.out trivial
                · rintro a w1 hC hx hd K hK
                  have HC := Lib.hid hC
                  clear hC
                  have t104 : a.tmps[104]?.getD undef = .pointer (some ⟨pa, 0, none⟩) := Reg.slot_val (hd 10 (by kernel_rfl) 104 rfl)
                  go_simp
                  exact hK _ _ (fun _ => rfl) (fun h => by cases h) HC.out trivial
                · rintro a w1 hC hx hd K hK
                  have HC := Lib.hid hC
                  clear hC
                  have t105 : a.tmps[105]?.getD undef = .pointer (some ⟨pa, 0, none⟩) := Reg.slot_val (hd 11 (by kernel_rfl) 105 rfl)
                  go_simp
                  exact hK _ _ (fun _ => rfl) (fun h => by cases h) HC.out trivial
                · rintro a w1 hC hx hd K hK
                  have HC := Lib.hid hC
                  clear hC
                  have y4 := A0.out.below HC.out 4 _ rfl
                  have t106 : a.tmps[106]?.getD undef = .pointer (some ⟨pa, 4, none⟩) := Reg.slot_val (hd 12 (by kernel_rfl) 106 rfl)
                  go_simp
                  exact hK _ _ (fun _ => rfl) (fun h => by cases h) HC.out trivial
                · rintro a w1 hC hx hd K hK
                  have HC := Lib.hid hC
                  clear hC
                  have t1 : a.tmps[1]?.getD undef = .pointer (some ⟨pb, 0, none⟩) := Reg.slot_val (hx 1 (by kernel_rfl))
                  go_simp
                  exact hK _ _ (fun _ => rfl) (fun h => by cases h) HC.out trivial
                · rintro a w1 hC hx hd K hK
                  have HC := Lib.hid hC
                  clear hC
                  have t108 : a.tmps[108]?.getD undef = .pointer (some ⟨pb, 0, none⟩) := Reg.slot_val (hd 14 (by kernel_rfl) 108 rfl)
                  go_simp
                  exact hK _ _ (fun _ => rfl) (fun h => by cases h) HC.out trivial
                · rintro a w1 hC hx hd K hK
                  have HC := Lib.hid hC
                  clear hC
                  have t109 : a.tmps[109]?.getD undef = .pointer (some ⟨pb, 0, none⟩) := Reg.slot_val (hd 15 (by kernel_rfl) 109 rfl)
                  go_simp
                  exact hK _ _ (fun _ => rfl) (fun h => by cases h) HC.out trivial
                · rintro a w1 hC hx hd K hK
                  have HC := Lib.hid hC
                  clear hC
                  have y4 := A1.out.below HC.out 4 _ rfl
                  have t110 : a.tmps[110]?.getD undef = .pointer (some ⟨pb, 4, none⟩) := Reg.slot_val (hd 16 (by kernel_rfl) 110 rfl)
                  go_simp
                  exact hK _ _ (fun _ => rfl) (fun h => by cases h) HC.out trivial
                · rintro a w1 hC hx hd K hK
                  have HC := Lib.hid hC
                  clear hC
                  have t107 : a.tmps[107]?.getD undef = .float .f32 B.bend := Reg.slot_val (hd 13 (by kernel_rfl) 107 rfl)
                  have t111 : a.tmps[111]?.getD undef = .float .f32 B'.bend := Reg.slot_val (hd 17 (by kernel_rfl) 111 rfl)
                  go_simp
                  refine (J4.out _).mono ?_
                  rintro en w2 ⟨rfl, hw2⟩
                  exact hK _ _ (fun _ => rfl) (fun h => by cases h) (by rw [hw2]; exact HC.out) trivial
                · rintro a w1 hC hx hd K hK
                  have HC := Lib.hid hC
                  clear hC
                  have t103 : a.tmps[103]?.getD undef = .bool true := Reg.slot_val (hd 9 (by kernel_rfl) 103 rfl)
                  have t112 : a.tmps[112]?.getD undef = .bool true := Reg.slot_val (hd 18 (by kernel_rfl) 112 rfl)
                  go_simp
                  exact hK _ _ (fun _ => rfl) (fun h => by cases h) HC.out trivial
                · rintro a w1 hC hx hd K hK
                  have HC := Lib.hid hC
                  clear hC
                  have t113 : a.tmps[113]?.getD undef = .bool true := Reg.slot_val (hd 19 (by kernel_rfl) 113 rfl)
                  go_simp
                  exact hK _ _ (fun _ => rfl) (fun h => by cases h) HC.out trivial
                · rintro a w1 hC hx hd K hK
                  have HC := Lib.hid hC
                  clear hC
                  have t0 : a.tmps[0]?.getD undef = .pointer (some ⟨pa, 0, none⟩) := Reg.slot_val (hx 0 (by kernel_rfl))
                  go_simp
                  exact hK _ _ (fun _ => rfl) (fun h => by cases h) HC.out trivial
                · rintro a w1 hC hx hd K hK
                  have HC := Lib.hid hC
                  clear hC
                  have t115 : a.tmps[115]?.getD undef = .pointer (some ⟨pa, 0, none⟩) := Reg.slot_val (hd 21 (by kernel_rfl) 115 rfl)
                  go_simp
                  exact hK _ _ (fun _ => rfl) (fun h => by cases h) HC.out trivial
                · rintro a w1 hC hx hd K hK
                  have HC := Lib.hid hC
                  clear hC
                  have t116 : a.tmps[116]?.getD undef = .pointer (some ⟨pa, 0, none⟩) := Reg.slot_val (hd 22 (by kernel_rfl) 116 rfl)
                  go_simp
                  exact hK _ _ (fun _ => rfl) (fun h => by cases h) HC.out trivial
                · rintro a w1 hC hx hd K hK
                  have HC := Lib.hid hC
                  clear hC
                  have y6 := A0.out.below HC.out 6 _ rfl
                  have y7 := A0.out.below HC.out 7 _ rfl
                  have y8 := A0.out.below HC.out 8 _ rfl
                  have t117 : a.tmps[117]?.getD undef = .pointer (some ⟨pa, 6, none⟩) := Reg.slot_val (hd 23 (by kernel_rfl) 117 rfl)
                  go_simp
                  exact hK _ _ (fun _ => rfl) (fun h => by cases h) HC.out trivial
                · rintro a w1 hC hx hd K hK
                  have HC := Lib.hid hC
                  clear hC
                  have t1 : a.tmps[1]?.getD undef = .pointer (some ⟨pb, 0, none⟩) := Reg.slot_val (hx 1 (by kernel_rfl))
                  go_simp
                  exact hK _ _ (fun _ => rfl) (fun h => by cases h) HC.out trivial
                · rintro a w1 hC hx hd K hK
                  have HC := Lib.hid hC
                  clear hC
                  have t119 : a.tmps[119]?.getD undef = .pointer (some ⟨pb, 0, none⟩) := Reg.slot_val (hd 25 (by kernel_rfl) 119 rfl)
                  go_simp
                  exact hK _ _ (fun _ => rfl) (fun h => by cases h) HC.out trivial
                · rintro a w1 hC hx hd K hK
                  have HC := Lib.hid hC
                  clear hC
                  have t120 : a.tmps[120]?.getD undef = .pointer (some ⟨pb, 0, none⟩) := Reg.slot_val (hd 26 (by kernel_rfl) 120 rfl)
                  go_simp
                  exact hK _ _ (fun _ => rfl) (fun h => by cases h) HC.out trivial
                · rintro a w1 hC hx hd K hK
                  have HC := Lib.hid hC
                  clear hC
                  have y6 := A1.out.below HC.out 6 _ rfl
                  have y7 := A1.out.below HC.out 7 _ rfl
                  have y8 := A1.out.below HC.out 8 _ rfl
                  have t121 : a.tmps[121]?.getD undef = .pointer (some ⟨pb, 6, none⟩) := Reg.slot_val (hd 27 (by kernel_rfl) 121 rfl)
                  go_simp
                  exact hK _ _ (fun _ => rfl) (fun h => by cases h) HC.out trivial
                · rintro a w1 hC hx hd K hK
                  have HC := Lib.hid hC
                  clear hC
                  have t118 : a.tmps[118]?.getD undef = vv B.x B.y B.z := Reg.slot_val (hd 24 (by kernel_rfl) 118 rfl)
                  have t122 : a.tmps[122]?.getD undef = vv B'.x B'.y B'.z := Reg.slot_val (hd 28 (by kernel_rfl) 122 rfl)
                  go_simp
                  refine (J6.out _).mono ?_
                  rintro en w2 ⟨rfl, hB2⟩
                  exact hK _ _ (fun _ => rfl) (fun h => by cases h) (HC.out.trans (hB2.mono HC.out.size)) trivial
                · rintro a w1 hC hx hd K hK
                  have HC := Lib.hid hC
                  clear hC
                  have t114 : a.tmps[114]?.getD undef = .bool true := Reg.slot_val (hd 20 (by kernel_rfl) 114 rfl)
                  have t123 : a.tmps[123]?.getD undef = .bool true := Reg.slot_val (hd 29 (by kernel_rfl) 123 rfl)
                  go_simp
                  exact hK _ _ (fun _ => rfl) (fun h => by cases h) HC.out trivial
                · rintro a w1 hC hx hd K hK
                  have HC := Lib.hid hC
                  clear hC
                  have t124 : a.tmps[124]?.getD undef = .bool true := Reg.slot_val (hd 30 (by kernel_rfl) 124 rfl)
                  go_simp
                  exact hK _ _ (fun _ => rfl) (fun h => by cases h) HC.out trivial
              · rintro f wz hC hd hT
                have g4 : f 4 = .bool true := hd 31 4 rfl
                simp only [Reg.mixL, g4]
                have HC := Lib.hid hC
                clear hC hd hT
                go_wp2
                go_ret
                exact ⟨ret_bool (by rw [← HR.out, show sameSs c.ss c'.ss = true from hres.out, HLB.out]; rfl), HC.out⟩
end Go.Proofs.Ytmmiadkmldaegab

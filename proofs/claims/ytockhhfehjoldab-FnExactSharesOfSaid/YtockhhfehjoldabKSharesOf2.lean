/-
Texts in one: what SharesOf stands on, part 2. Conditions: those of each.
-/
import Derived.Test.YtockhhfehjoldabKSharesOf1

/-
Shares of workers: the law returns true. Conditions: none.
-/
namespace Go.Proofs.Ytockhhfehjoldab
open Go Fk Go.RowKit
set_option linter.unusedVariables false
set_option maxRecDepth 16000

set_option maxHeartbeats 4000000 in
theorem FnExactSharesOf_law (c wk : Int) (w : World) (_ : (Lit.int .i64 c).wf = true) (_ : (Lit.int .i64 wk).wf = true) :
    Calls Try.prog 3 #[.int .i64 c, .int .i64 wk] w fun e w' => e = .returned (.bool true) ∧ Below w.heap.size w w' := by
  have HSP := Lib.hid (fun w => spec_SharesOf c wk w)
  have HIM := Lib.hid (fun w => impl_SharesOf c wk w)
  have hll := shL_len c wk
  generalize shL c wk = L at *
  generalize shOk c wk = nb at *
  generalize hn : L.length = n at *
  clear hn
  go_enter Try.func3, Try.ntmps3
  go_wp2_with fail
  refine (HSP.out w).mono ?_
  rintro e w1 ⟨⟨sa, sc, rfl, hsi⟩, hB1⟩
  have SI := Lib.hid hsi
  have HB1 := Lib.hid hB1
  have SX := Lib.hid (Below.refl w1.heap.size w1)
  clear hsi hB1
  go_wp2_with fail
  refine (HIM.out w1).mono ?_
  rintro e w2 ⟨⟨ga, gc, F, rfl, hgi, hgl⟩, hB2⟩
  have GI := Lib.hid hgi
  have GL := Lib.hid hgl
  have SX := Lib.hid (SX.out.trans (hB2.mono SX.out.size))
  have HB2 := Lib.hid (HB1.out.trans (hB2.mono HB1.out.size))
  have HZ := Lib.hid HB1.out.size
  clear hB2 hgi hgl
  go_wp2_with fail
  refine (laws_eqInt64SS _ _ _ _ _ _ _ GI.out (SI.out.below SX.out)).mono ?_
  rintro en w3 ⟨rfl, n3, hw3⟩
  have hB3 : Below w2.heap.size w2 w3 := by rw [hw3]; exact below_drewN (Below.refl _ _) _
  have SX3 := Lib.hid (SX.out.trans (hB3.mono SX.out.size))
  have GL3 := Lib.hid (GL.out.below hB3)
  have HB3 := Lib.hid (HB2.out.trans (hB3.mono HB2.out.size))
  clear hB3 hw3
  go_wp2_with fail
  refine (flat_any2 w1.heap.size w2.heap.size ga n gc F 1 w3 GL3.out (by omega) (by omega)).mono ?_
  rintro e w4 ⟨rfl, hmk, _, hM4⟩
  have SX4 := Lib.hid (SX3.out.trans (hM4.below.mono (Nat.le_refl _)))
  have HB4 := Lib.hid (HB3.out.trans (hM4.below.mono HZ.out))
  have HMK := Lib.hid (show MrkR w4 ga n F from hmk)
  clear hmk hM4
  go_wp2_with fail
  refine (flat_held2 ga n gc F 1 w4 HMK.out (by omega) (by omega)).mono ?_
  rintro e w5 ⟨rfl, hw5⟩
  rw [hw5]
  clear hw5
  go_wp2_with fail
  refine (HIM.out w4).mono ?_
  rintro e w6 ⟨⟨ha, hc, F', rfl, hhi, _⟩, hB6⟩
  have HI6 := Lib.hid hhi
  have SX6 := Lib.hid (SX4.out.trans (hB6.mono SX4.out.size))
  have MK6 := Lib.hid (HMK.out.below hB6)
  have HB6 := Lib.hid (HB4.out.trans (hB6.mono HB4.out.size))
  clear hB6 hhi
  go_wp2_with fail
  refine (laws_eqInt64SS _ _ _ _ _ _ _ HI6.out (SI.out.below SX6.out)).mono ?_
  rintro en w7 ⟨rfl, n7, hw7⟩
  have hB7 : Below w6.heap.size w6 w7 := by rw [hw7]; exact below_drewN (Below.refl _ _) _
  have MK7 := Lib.hid (MK6.out.below hB7)
  have HB7 := Lib.hid (HB6.out.trans (hB7.mono HB6.out.size))
  clear hB7 hw7
  go_wp2_with fail
  refine (flat_held2 ga n gc F 1 w7 MK7.out (by omega) (by omega)).mono ?_
  rintro e w8 ⟨rfl, hw8⟩
  rw [hw8]
  clear hw8
  go_wp2
  go_ret
  exact ⟨rfl, HB7.out⟩
end Go.Proofs.Ytockhhfehjoldab

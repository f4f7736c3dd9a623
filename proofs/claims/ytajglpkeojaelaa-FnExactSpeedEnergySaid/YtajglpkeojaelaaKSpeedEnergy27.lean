/-
Texts in one: what SpeedEnergy stands on, part 27. Conditions: those of each.
-/
import Derived.Test.YtajglpkeojaelaaKSpeedEnergy26

/-
Finite numbers and measures, by the program and by its model. Conditions: none beyond that the words fit.
-/
namespace Go.Proofs.Ytajglpkeojaelaa
open Go Fk Go.RowKit
set_option linter.unusedVariables false
set_option maxRecDepth 8000
def sizeB (x : Nat) : Bool := finB x && (FloatKind.f32.format.order x 0 == some .gt)
def finC (c : Option Nat) : Bool := match c with | none => false | some x => finB x
def sizeC (c : Option Nat) : Bool := match c with | none => false | some x => sizeB x
theorem Fk.FV.fin {x : Nat} {c : Option Nat} (h : FV .f32 x c) : finB x = finC c := by
  cases c with
  | none =>
    have := h.nan
    have h2 : nan32 x = true := this
    rw [nan32_iff, decide_eq_true_eq] at h2
    show finB x = false
    unfold finB
    exact decide_eq_false (by omega)
  | some y => rw [h.num]; rfl
theorem Fk.FV.size {x : Nat} {c : Option Nat} (h : FV .f32 x c) : sizeB x = sizeC c := by
  cases c with
  | none =>
    show sizeB x = false
    unfold sizeB
    rw [Fk.FV.fin h]; rfl
  | some y => rw [h.num]; rfl
theorem impl_isMeasure (x : Nat) (w : World) (hx : x < 4294967296) :
    Calls Try.prog 80 #[.float .f32 x] w fun e w' => e = .returned (.bool (sizeB x)) ∧ ∃ n, w' = w.drewN n := by
  have u := Try.underlying27
  unfold sizeB
  have HJ := Lib.hid (fun w => impl_IsFinite x w hx)
  generalize finB x = f at *
  cases f
  · go_enter Try.func80, Try.ntmps80
    go_wp2_with (go_at_call 126; refine (HJ.out _).mono ?_; rintro e w1 ⟨rfl, n, hw⟩; rw [hw]; clear hw w1)
    go_ret
    exact ⟨rfl, _, rfl⟩
  · go_enter Try.func80, Try.ntmps80
    go_wp2_with (go_at_call 126; refine (HJ.out _).mono ?_; rintro e w1 ⟨rfl, n, hw⟩; rw [hw]; clear hw w1)
    go_ret
    exact ⟨rfl, _, rfl⟩
theorem l02Size (x : Nat) (w : World) (hx : x < 4294967296) :
    Calls Try.prog 114 #[.float .f32 x] w fun e w' => e = .returned (.bool (sizeB x)) ∧ ∃ n, w' = w.drewN n := by
  have u := Try.underlying27
  unfold sizeB
  have HJ := Lib.hid (fun w => l01Finite x w hx)
  generalize finB x = f at *
  cases f
  · go_enter Try.func114, Try.ntmps114
    go_wp2_with (go_at_call 118; refine (HJ.out _).mono ?_; rintro e w1 ⟨rfl, n, hw⟩; rw [hw]; clear hw w1)
    go_ret
    exact ⟨rfl, _, rfl⟩
  · go_enter Try.func114, Try.ntmps114
    go_wp2_with (go_at_call 118; refine (HJ.out _).mono ?_; rintro e w1 ⟨rfl, n, hw⟩; rw [hw]; clear hw w1)
    go_ret
    exact ⟨rfl, _, rfl⟩
/-- An amount and a volume. -/
def gasB (c d : Option Nat) : Bool := finC c && sizeC d
theorem Fk.FV.zero : FV .f32 0 (some 0) := ⟨by decide, by decide⟩
def pressC (c d : Option Nat) : Option Nat := bif gasB c d then fop .quo .f32 c d else some 0
end Go.Proofs.Ytajglpkeojaelaa


/-
The energy of speeds: the program and its model. Conditions: none beyond that the motion lies in memory.
-/
namespace Go.Proofs.Ytajglpkeojaelaa
open Go Fk Go.RowKit
set_option linter.unusedVariables false
set_option maxRecDepth 8000

def halfV : Option Nat := cls .f32 1056964608
theorem half_V : FV .f32 1056964608 halfV := ⟨by decide, rfl⟩
def seB (c : Bc) (n x : Nat) : Bool := motB c n && sizeB x
def seC (c : Bc) (vs : List C3) (vl x : Nat) (d : Option Nat) : Option Nat := bif seB c vl x then (fop .mul .f32 (fop .mul .f32 halfV d) (innL vs vs vl)) else some 0
theorem l03Positive (x : Nat) (w : World) (hx : x < 4294967296) :
    Calls Try.prog 79 #[.float .f32 x] w fun e w' => e = .returned (.bool (sizeB x)) ∧ ∃ n, w' = w.drewN n := by
  have u := Try.underlying27
  unfold sizeB
  have HJ := Lib.hid (fun w => l01Finite x w hx)
  generalize finB x = f at *
  cases f
  · go_enter Try.func79, Try.ntmps79
    go_wp2_with (go_at_call 118; refine (HJ.out _).mono ?_; rintro e w1 ⟨rfl, n, hw⟩; rw [hw]; clear hw w1)
    go_ret
    exact ⟨rfl, _, rfl⟩
  · go_enter Try.func79, Try.ntmps79
    go_wp2_with (go_at_call 118; refine (HJ.out _).mono ?_; rintro e w1 ⟨rfl, n, hw⟩; rw [hw]; clear hw w1)
    go_ret
    exact ⟨rfl, _, rfl⟩
set_option maxHeartbeats 1000000 in
theorem impl_SpeedEnergy (B : Bd) (c : Bc) (va : Option Addr) (vl vc : Nat) (vs : List C3) (x : Nat) (d : Option Nat) (w : World) (h : IsB w B c) (hv : IsVs w va vl vc vs) (hx : FV .f32 x d) (hx' : x < 4294967296) :
    Calls Try.prog 34 #[mv B va vl vc, .float .f32 x] w fun e w' => ∃ r, e = .returned (.tuple #[.float .f32 r, .bool (seB c vl x)]) ∧ FV .f32 r (seC c vs vl x d) ∧ Below w.heap.size w w' := by
  have ui := Try.underlying61
  have u := Try.underlying27
  have A0 : Hid (At (w.alloc (BoxM B va vl vc 61)) w.heap.size (ml B va vl vc)) := Lib.hid At.new
  have B0 : Hid (Below w.heap.size w (w.alloc (BoxM B va vl vc 61))) := Lib.hid ((Below.refl _ _).alloc (Nat.le_refl _) _)
  have HV0 := Lib.hid (hv.below B0.out)
  have HX := Lib.hid hx
  have hM : vl ≤ 9223372036854775807 := by have h1 := hv.2.1; have h2 := hv.2.2.1; unfold maxLen at h2; omega
  have JV := Lib.hid (impl_ValidMotion B c va vl vc vs _ (h.below B0.out) HV0.out)
  have JM := Lib.hid (fun w => impl_isMeasure x w hx')
  unfold seC seB
  clear h hv hx hx'
  cases hvv : motB c vl
  · rw [hvv] at JV
    clear hvv
    go_enter Try.func34, Try.ntmps34
    go_wp2_with fail
    change Calls _ _ _ (w.alloc (BoxM B va vl vc 61)) _
    generalize (w.alloc (BoxM B va vl vc 61)) = W at *
    refine JV.out.mono ?_
    rintro e w1 ⟨rfl, hB1⟩
    have A1 := Lib.hid (A0.out.below hB1)
    have HV1 := Lib.hid (HV0.out.below hB1)
    have B1 := Lib.hid (B0.out.trans (hB1.mono B0.out.size))
    clear hB1
    go_wp2
    go_ret2
    exact ⟨0, rfl, FV_0, B1.out⟩
  rw [hvv] at JV
  clear hvv
  cases hss : sizeB x
  · rw [hss] at JM
    clear hss
    go_enter Try.func34, Try.ntmps34
    go_wp2_with fail
    change Calls _ _ _ (w.alloc (BoxM B va vl vc 61)) _
    generalize (w.alloc (BoxM B va vl vc 61)) = W at *
    refine JV.out.mono ?_
    rintro e w1 ⟨rfl, hB1⟩
    have A1 := Lib.hid (A0.out.below hB1)
    have HV1 := Lib.hid (HV0.out.below hB1)
    have B1 := Lib.hid (B0.out.trans (hB1.mono B0.out.size))
    clear hB1
    go_wp2_with fail
    refine (JM.out _).mono ?_
    rintro e w2 ⟨rfl, n2, hw2⟩
    rw [hw2]
    clear hw2 w2
    go_wp2
    go_ret2
    exact ⟨0, rfl, FV_0, below_drewN B1.out _⟩
  · rw [hss] at JM
    clear hss
    go_enter Try.func34, Try.ntmps34
    go_wp2_with fail
    change Calls _ _ _ (w.alloc (BoxM B va vl vc 61)) _
    generalize (w.alloc (BoxM B va vl vc 61)) = W at *
    refine JV.out.mono ?_
    rintro e w1 ⟨rfl, hB1⟩
    have A1 := Lib.hid (A0.out.below hB1)
    have HV1 := Lib.hid (HV0.out.below hB1)
    have B1 := Lib.hid (B0.out.trans (hB1.mono B0.out.size))
    clear hB1
    go_wp2_with fail
    refine (JM.out _).mono ?_
    rintro e w2 ⟨rfl, n2, hw2⟩
    rw [hw2]
    clear hw2 w2
    have B2 := Lib.hid (below_drewN B1.out n2)
    have k9 : (w1.drewN n2).cell? ⟨w.heap.size, 9, none⟩ = some (.slice va vl vc) := A1.out 9 _ rfl
    have HV : Hid (IsVs (w1.drewN n2) va vl vc vs) := Lib.hid HV1.out
    clear A1 A0 HV1 HV0 JV JM
    generalize (w1.drewN n2) = W1 at *
    go_wp2_with fail
    refine Reg.wp_region_mix (C := fun w' => Below W1.heap.size W1 w') (G := fun _ _ => True) (R := fun i v w' => match i with | 0 => v = .float .f32 x | 1 => isF (fop .mul .f32 halfV d) v | 2 => v = .pointer (some ⟨w.heap.size, 9, none⟩) | 3 => v = .slice va vl vc | 4 => v = .pointer (some ⟨w.heap.size, 9, none⟩) | 5 => v = .slice va vl vc | 6 => isF (innL vs vs vl) v | 7 => isF (fop .mul .f32 (fop .mul .f32 halfV d) (innL vs vs vl)) v | 8 => isF (fop .mul .f32 (fop .mul .f32 halfV d) (innL vs vs vl)) v | 9 => v = .bool true | _ => True) (T := fun _ _ _ => True) [false, false, false, false, true, true, false, false, false, false, false, false, false, false, true, true, true, true, true, true, true, true]
      (by kernel_rfl) (by kernel_rfl) (by kernel_rfl) (fun _ _ _ _ _ _ h => h) (below_drewN (Below.refl _ _) 1) ?_ ?_
    · refine ⟨Reg.Obl.mk ?_, Reg.Obl.mk ?_, Reg.Obl.mk ?_, Reg.Obl.mk ?_, Reg.Obl.mk ?_, Reg.Obl.mk ?_, Reg.Obl.mk ?_, Reg.Obl.mk ?_, Reg.Obl.mk ?_, Reg.Obl.mk ?_, trivial⟩
      · rintro a w1 hC hx hd K hK
        have HC := Lib.hid hC
        clear hC
        have t1 : a.tmps[1]?.getD undef = .float .f32 x := Reg.slot_val (hx 1 (by kernel_rfl))
        go_simp
        exact hK _ _ (fun _ => rfl) (fun h => by cases h) HC.out trivial
      · rintro a w1 hC hx hd K hK
        have HC := Lib.hid hC
        clear hC
        have t14 : a.tmps[14]?.getD undef = .float .f32 x := Reg.slot_val (hd 0 (by kernel_rfl) 14 rfl)
        go_simp
        refine (impl_product32 _ _ _ _ _ half_V HX.out).mono ?_
        rintro en w2 ⟨z, rfl, hz, n2, hw2⟩
        have hB2 : Below w1.heap.size w1 w2 := by rw [hw2]; exact below_drewN (Below.refl _ _) _
        exact hK _ _ (fun _ => ⟨z, rfl, hz⟩) (fun h => by cases h) (HC.out.trans (hB2.mono HC.out.size)) trivial
      · rintro a w1 hC hx hd K hK
        have HC := Lib.hid hC
        clear hC
        have t2 : a.tmps[2]?.getD undef = .pointer (some ⟨w.heap.size, 0, none⟩) := Reg.slot_val (hx 2 (by kernel_rfl))
        go_simp
        exact hK _ _ (fun _ => rfl) (fun h => by cases h) HC.out trivial
      · rintro a w1 hC hx hd K hK
        have HC := Lib.hid hC
        clear hC
        have y9 := cell_below HC.out k9
        have t16 : a.tmps[16]?.getD undef = .pointer (some ⟨w.heap.size, 9, none⟩) := Reg.slot_val (hd 2 (by kernel_rfl) 16 rfl)
        go_simp
        exact hK _ _ (fun _ => rfl) (fun h => by cases h) HC.out trivial
      · rintro a w1 hC hx hd K hK
        have HC := Lib.hid hC
        clear hC
        have t2 : a.tmps[2]?.getD undef = .pointer (some ⟨w.heap.size, 0, none⟩) := Reg.slot_val (hx 2 (by kernel_rfl))
        go_simp
        exact hK _ _ (fun _ => rfl) (fun h => by cases h) HC.out trivial
      · rintro a w1 hC hx hd K hK
        have HC := Lib.hid hC
        clear hC
        have y9 := cell_below HC.out k9
        have t18 : a.tmps[18]?.getD undef = .pointer (some ⟨w.heap.size, 9, none⟩) := Reg.slot_val (hd 4 (by kernel_rfl) 18 rfl)
        go_simp
        exact hK _ _ (fun _ => rfl) (fun h => by cases h) HC.out trivial
      · rintro a w1 hC hx hd K hK
        have HC := Lib.hid hC
        clear hC
        have t17 : a.tmps[17]?.getD undef = .slice va vl vc := Reg.slot_val (hd 3 (by kernel_rfl) 17 rfl)
        have t19 : a.tmps[19]?.getD undef = .slice va vl vc := Reg.slot_val (hd 5 (by kernel_rfl) 19 rfl)
        go_simp
        refine (impl_innerSum _ _ _ _ _ vs vs _ (HV.out.below HC.out) (HV.out.below HC.out)).mono ?_
        rintro en w2 ⟨z, rfl, hz, hB2⟩
        exact hK _ _ (fun _ => ⟨z, rfl, hz⟩) (fun h => by cases h) (HC.out.trans (hB2.mono HC.out.size)) trivial
      · rintro a w1 hC hx hd K hK
        have HC := Lib.hid hC
        clear hC
        obtain ⟨r15, g15, f15⟩ := hd 1 (by kernel_rfl) 15 rfl
        have t15 := Reg.slot_val g15
        clear g15
        obtain ⟨r20, g20, f20⟩ := hd 6 (by kernel_rfl) 20 rfl
        have t20 := Reg.slot_val g20
        clear g20
        go_simp
        refine (impl_product32 _ _ _ _ _ f15 f20).mono ?_
        rintro en w2 ⟨z, rfl, hz, n2, hw2⟩
        have hB2 : Below w1.heap.size w1 w2 := by rw [hw2]; exact below_drewN (Below.refl _ _) _
        exact hK _ _ (fun _ => ⟨z, rfl, hz⟩) (fun h => by cases h) (HC.out.trans (hB2.mono HC.out.size)) trivial
      · rintro a w1 hC hx hd K hK
        have HC := Lib.hid hC
        clear hC
        obtain ⟨r21, g21, f21⟩ := hd 7 (by kernel_rfl) 21 rfl
        have t21 := Reg.slot_val g21
        clear g21
        go_simp
        exact hK _ _ (fun _ => ⟨_, rfl, f21⟩) (fun h => by cases h) HC.out trivial
      · rintro a w1 hC hx hd K hK
        have HC := Lib.hid hC
        clear hC
        go_simp
        exact hK _ _ (fun _ => rfl) (fun h => by cases h) HC.out trivial
    · rintro f w1 hC hd hT
      obtain ⟨r4, g4, f4⟩ := hd 8 4 rfl
      have g5 : f 5 = .bool true := hd 9 5 rfl
      have HC := Lib.hid (B2.out.trans (hC.mono B2.out.size))
      clear hC hd hT
      simp only [Reg.mixL, g4, g5]
      go_wp2
      go_ret2
      exact ⟨r4, rfl, f4, HC.out⟩
set_option maxHeartbeats 1000000 in
theorem spec_SpeedEnergy (B : Bd) (c : Bc) (va : Option Addr) (vl vc : Nat) (vs : List C3) (x : Nat) (d : Option Nat) (w : World) (h : IsB w B c) (hv : IsVs w va vl vc vs) (hx : FV .f32 x d) (hx' : x < 4294967296) :
    Calls Try.prog 33 #[mv B va vl vc, .float .f32 x] w fun e w' => ∃ r, e = .returned (.tuple #[.float .f32 r, .bool (seB c vl x)]) ∧ FV .f32 r (seC c vs vl x d) ∧ Below w.heap.size w w' := by
  have ui := Try.underlying61
  have u := Try.underlying27
  have A0 : Hid (At (w.alloc (BoxM B va vl vc 61)) w.heap.size (ml B va vl vc)) := Lib.hid At.new
  have B0 : Hid (Below w.heap.size w (w.alloc (BoxM B va vl vc 61))) := Lib.hid ((Below.refl _ _).alloc (Nat.le_refl _) _)
  have HV0 := Lib.hid (hv.below B0.out)
  have HX := Lib.hid hx
  have hM : vl ≤ 9223372036854775807 := by have h1 := hv.2.1; have h2 := hv.2.2.1; unfold maxLen at h2; omega
  have JV := Lib.hid (l05Is w.heap.size B c va vl vc _ A0.out (h.below B0.out))
  have JM := Lib.hid (fun w => l03Positive x w hx')
  unfold seC seB
  clear h hv hx hx'
  cases hvv : motB c vl
  · rw [hvv] at JV
    clear hvv
    go_enter Try.func33, Try.ntmps33
    go_wp2_with fail
    change Calls _ _ _ (w.alloc (BoxM B va vl vc 61)) _
    generalize (w.alloc (BoxM B va vl vc 61)) = W at *
    refine JV.out.mono ?_
    rintro e w1 ⟨rfl, hB1⟩
    have A1 := Lib.hid (A0.out.below hB1)
    have HV1 := Lib.hid (HV0.out.below hB1)
    have B1 := Lib.hid (B0.out.trans (hB1.mono B0.out.size))
    clear hB1
    go_wp2
    go_ret2
    exact ⟨0, rfl, FV_0, B1.out⟩
  rw [hvv] at JV
  clear hvv
  cases hss : sizeB x
  · rw [hss] at JM
    clear hss
    go_enter Try.func33, Try.ntmps33
    go_wp2_with fail
    change Calls _ _ _ (w.alloc (BoxM B va vl vc 61)) _
    generalize (w.alloc (BoxM B va vl vc 61)) = W at *
    refine JV.out.mono ?_
    rintro e w1 ⟨rfl, hB1⟩
    have A1 := Lib.hid (A0.out.below hB1)
    have HV1 := Lib.hid (HV0.out.below hB1)
    have B1 := Lib.hid (B0.out.trans (hB1.mono B0.out.size))
    clear hB1
    go_wp2_with fail
    refine (JM.out _).mono ?_
    rintro e w2 ⟨rfl, n2, hw2⟩
    rw [hw2]
    clear hw2 w2
    go_wp2
    go_ret2
    exact ⟨0, rfl, FV_0, below_drewN B1.out _⟩
  · rw [hss] at JM
    clear hss
    go_enter Try.func33, Try.ntmps33
    go_wp2_with fail
    change Calls _ _ _ (w.alloc (BoxM B va vl vc 61)) _
    generalize (w.alloc (BoxM B va vl vc 61)) = W at *
    refine JV.out.mono ?_
    rintro e w1 ⟨rfl, hB1⟩
    have A1 := Lib.hid (A0.out.below hB1)
    have HV1 := Lib.hid (HV0.out.below hB1)
    have B1 := Lib.hid (B0.out.trans (hB1.mono B0.out.size))
    clear hB1
    go_wp2_with fail
    refine (JM.out _).mono ?_
    rintro e w2 ⟨rfl, n2, hw2⟩
    rw [hw2]
    clear hw2 w2
    have B2 := Lib.hid (below_drewN B1.out n2)
    have k9 : (w1.drewN n2).cell? ⟨w.heap.size, 9, none⟩ = some (.slice va vl vc) := A1.out 9 _ rfl
    have HV : Hid (IsVs (w1.drewN n2) va vl vc vs) := Lib.hid HV1.out
    clear A1 A0 HV1 HV0 JV JM
    generalize (w1.drewN n2) = W1 at *
    go_wp2_with fail
    refine (l05Inner va va vl vc vc vs vs (W1.drewN (fN .mul .f32 1056964608 x)) HV.out HV.out).mono ?_
    rintro e w5 ⟨z, rfl, hz, hB5⟩
    have HZ := Lib.hid hz
    have B5 := Lib.hid ((below_drewN B2.out _).trans (hB5.mono (below_drewN B2.out _).size))
    clear hz hB5
    go_wp2
    go_ret2
    exact ⟨_, rfl, FV_fR (FV_fR half_V HX.out) HZ.out, below_drewN B5.out _⟩
end Go.Proofs.Ytajglpkeojaelaa

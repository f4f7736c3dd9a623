/-
Texts in one: what SpeedEnergy stands on, part 26. Conditions: those of each.
-/
import Derived.Test.YtajglpkeojaelaaKSpeedEnergy25

/-
Whether a motion is valid: the program and its model. Conditions: none beyond that it lies in memory.
-/
namespace Go.Proofs.Ytajglpkeojaelaa
open Go Fk Go.RowKit
set_option linter.unusedVariables false
set_option maxRecDepth 8000

def motB (c : Bc) (n : Nat) : Bool := bodyB c && decide (n = c.cs.length)
theorem at_pre {w : World} {b : Nat} {B : Bd} {va : Option Addr} {vl vc : Nat} (h : At w b (ml B va vl vc)) : At w b B.l := fun i v hi => h i v (by
  have hlt : i < 9 := by have := (List.getElem?_eq_some_iff.1 hi).1; simpa using this
  show (B.l ++ [Value.slice va vl vc])[i]? = some v
  rw [List.getElem?_append_left (by simpa using hlt)]; exact hi)
set_option maxHeartbeats 1000000 in
theorem impl_ValidMotion (B : Bd) (c : Bc) (va : Option Addr) (vl vc : Nat) (vs : List C3) (w : World) (h : IsB w B c) (hv : IsVs w va vl vc vs) :
    Calls Try.prog 31 #[mv B va vl vc] w fun e w' => e = .returned (.bool (motB c vl)) ∧ Below w.heap.size w w' := by
  have ui := Try.underlying61
  have uib := Try.underlying42
  have uim := Try.underlying38
  have A0 : Hid (At (w.alloc (BoxM B va vl vc 61)) w.heap.size (ml B va vl vc)) := Lib.hid At.new
  have B0 : Hid (Below w.heap.size w (w.alloc (BoxM B va vl vc 61))) := Lib.hid ((Below.refl _ _).alloc (Nat.le_refl _) _)
  have hpl := h.1.1
  have JV := Lib.hid (impl_ValidBody B c _ (h.below B0.out))
  unfold motB
  rw [hpl]
  clear hv
  cases hv : bodyB c
  · rw [hv] at JV
    clear h hv
    go_enter Try.func31, Try.ntmps31
    go_wp2_with fail
    change Calls _ _ _ (w.alloc (BoxM B va vl vc 61)) _
    generalize (w.alloc (BoxM B va vl vc 61)) = W at *
    refine JV.out.mono ?_
    rintro e w1 ⟨rfl, hB1⟩
    have B1 := Lib.hid (B0.out.trans (hB1.mono B0.out.size))
    clear hB1
    go_wp2
    go_ret
    exact ⟨rfl, B1.out⟩
  · rw [hv] at JV
    clear h hv
    by_cases hn : vl = B.pl
    · subst hn
      go_enter Try.func31, Try.ntmps31
      go_wp2_with fail
      change Calls _ _ _ (w.alloc (BoxM B va B.pl vc 61)) _
      generalize (w.alloc (BoxM B va B.pl vc 61)) = W at *
      refine JV.out.mono ?_
      rintro e w1 ⟨rfl, hB1⟩
      have k0 := A0.out.below hB1 0 _ rfl
      have k1 := A0.out.below hB1 1 _ rfl
      have k9 := A0.out.below hB1 9 _ rfl
      have B1 := Lib.hid (B0.out.trans (hB1.mono B0.out.size))
      clear hB1
      go_wp2
      go_ret
      exact ⟨by simp, B1.out⟩
    · have hne : ¬ (vl : Int) = B.pl := by omega
      have hd : decide (vl = B.pl) = false := decide_eq_false hn
      rw [hd]
      clear hn hd
      go_enter Try.func31, Try.ntmps31
      go_wp2_with fail
      change Calls _ _ _ (w.alloc (BoxM B va vl vc 61)) _
      generalize (w.alloc (BoxM B va vl vc 61)) = W at *
      refine JV.out.mono ?_
      rintro e w1 ⟨rfl, hB1⟩
      have k0 := A0.out.below hB1 0 _ rfl
      have k1 := A0.out.below hB1 1 _ rfl
      have k9 := A0.out.below hB1 9 _ rfl
      have B1 := Lib.hid (B0.out.trans (hB1.mono B0.out.size))
      clear hB1
      go_wp2
      go_ret
      exact ⟨by first | rfl | simp [hne], B1.out⟩
set_option maxHeartbeats 1000000 in
theorem l05Is (pb : Nat) (B : Bd) (c : Bc) (va : Option Addr) (vl vc : Nat) (w : World) (A : At w pb (ml B va vl vc)) (h : IsB w B c) :
    Calls Try.prog 78 #[.pointer (some ⟨pb, 0, none⟩)] w fun e w' => e = .returned (.bool (motB c vl)) ∧ Below w.heap.size w w' := by
  have ui := Try.underlying61
  have uib := Try.underlying42
  have uim := Try.underlying38
  have hpl := h.1.1
  have JV := Lib.hid (fun m => l03Is pb B c (w.drewN m) (at_pre A) h)
  have k0 := A 0 _ rfl
  have k1 := A 1 _ rfl
  have k9 := A 9 _ rfl
  unfold motB
  rw [hpl]
  cases hv : bodyB c
  · rw [hv] at JV
    clear h hv A
    go_enter Try.func78, Try.ntmps78
    go_wp2_with fail
    go_quiet ((go_at_call 67; exact Calls.quiet_of (JV.out _)))
    go_wp2
    go_ret
    exact ⟨rfl, below_drewN (Below.refl _ _) _⟩
  · rw [hv] at JV
    clear h hv A
    by_cases hn : vl = B.pl
    · subst hn
      go_enter Try.func78, Try.ntmps78
      go_wp2_with fail
      go_quiet ((go_at_call 67; exact Calls.quiet_of (JV.out _)))
      go_wp2
      go_ret
      exact ⟨by simp, below_drewN (Below.refl _ _) _⟩
    · have hne : ¬ (vl : Int) = B.pl := by omega
      have hne' : ((vl : Int) == (B.pl : Int)) = false := beq_eq_false_iff_ne.2 hne
      have hd : decide (vl = B.pl) = false := decide_eq_false hn
      rw [hd]
      clear hn hd
      go_enter Try.func78, Try.ntmps78
      go_wp2_with fail
      go_quiet ((go_at_call 67; exact Calls.quiet_of (JV.out _)))
      go_wp2
      go_ret
      exact ⟨by first | rfl | simp [hne], below_drewN (Below.refl _ _) _⟩
theorem spec_ValidMotion (B : Bd) (c : Bc) (va : Option Addr) (vl vc : Nat) (w : World) (h : IsB w B c) :
    Calls Try.prog 29 #[mv B va vl vc] w fun e w' => e = .returned (.bool (motB c vl)) ∧ Below w.heap.size w w' := by
  have ui := Try.underlying61
  have A0 : Hid (At (w.alloc (BoxM B va vl vc 61)) w.heap.size (ml B va vl vc)) := Lib.hid At.new
  have B0 : Hid (Below w.heap.size w (w.alloc (BoxM B va vl vc 61))) := Lib.hid ((Below.refl _ _).alloc (Nat.le_refl _) _)
  have J := Lib.hid (l05Is w.heap.size B c va vl vc _ A0.out (h.below B0.out))
  clear h
  go_enter Try.func29, Try.ntmps29
  go_wp2_with fail
  change Calls _ _ _ (w.alloc (BoxM B va vl vc 61)) _
  generalize (w.alloc (BoxM B va vl vc 61)) = W at *
  refine J.out.mono ?_
  rintro e w1 ⟨rfl, hB1⟩
  have B1 := Lib.hid (B0.out.trans (hB1.mono B0.out.size))
  clear hB1
  go_wp2
  go_ret
  exact ⟨rfl, B1.out⟩
end Go.Proofs.Ytajglpkeojaelaa


/-
The sum of inner products of two lists: what the program, its model and the law return. Conditions: none beyond that the lists lie in memory.
-/
namespace Go.Proofs.Ytajglpkeojaelaa
open Go Fk Go.RowKit
set_option linter.unusedVariables false
set_option maxRecDepth 8000

def innC (a b : C3) : Option Nat := fop .add .f32 (fop .add .f32 (fop .mul .f32 a.1 b.1) (fop .mul .f32 a.2.1 b.2.1)) (fop .mul .f32 a.2.2 b.2.2)
/-- The sum of the first inner products. -/
def innL (xs ys : List C3) : Nat → Option Nat
  | 0 => some 0
  | k + 1 => fop .add .f32 (innL xs ys k) (innC (xs.getD k c0) (ys.getD k c0))
def inaB (n m : Nat) : Bool := decide (n = m) && decide (n ≤ 256)
def inaC (xs ys : List C3) (n m : Nat) : Option Nat := bif inaB n m then innL xs ys n else some 0
theorem FV_0 : FV .f32 0 (some 0) := ⟨by decide, by decide⟩
set_option maxHeartbeats 1000000 in
theorem impl_innerSum (a b : Option Addr) (n cap cap' : Nat) (xs ys : List C3) (w : World) (h : IsVs w a n cap xs) (h' : IsVs w b n cap' ys) :
    Calls Try.prog 77 #[.slice a n cap, .slice b n cap'] w fun e w' => ∃ r, e = .returned (.float .f32 r) ∧ FV .f32 r (innL xs ys n) ∧ Below w.heap.size w w' := by
  have u := Try.underlying27
  have uv := Try.underlying40
  have hm : n ≤ 9223372036854775807 := by have h1 := h.2.1; have h2 := h.2.2.1; unfold maxLen at h2; omega
  have H := Lib.hid h
  have H' := Lib.hid h'
  clear h h'
  go_enter Try.func77, Try.ntmps77
  go_wp2
  go_loopw [5, 10] (fun s i w' => ∃ k : Nat, k ≤ n ∧ i = .int .i64 k ∧ (∃ r, s = .float .f32 r ∧ FV .f32 r (innL xs ys k)) ∧ Aside (Below w.heap.size w w')) (fun _ i _ => n - (intOf i).toNat)
  case atStart => exact ⟨0, Nat.zero_le _, rfl, ⟨0, rfl, FV_0⟩, Below.refl _ _⟩
  case round =>
    obtain ⟨k, hk, rfl, ⟨s, rfl, hs⟩, hA⟩ := hrel
    have HB := Lib.hid hA.out
    have HF := Lib.hid hs
    clear hA hs
    by_cases hlt : k < n
    · obtain ⟨b1, o1, rfl, hcell1⟩ := (H.out.below HB.out).some (by omega)
      obtain ⟨b2, o2, rfl, hcell2⟩ := (H'.out.below HB.out).some (by omega)
      obtain ⟨p, q, t, ca0', ca1', ca2', e0, e1, e2⟩ := hcell1 k hlt
      obtain ⟨p', q', t', d0', d1', d2', g0, g1, g2⟩ := hcell2 k hlt
      have hk0 : (0 : Int) ≤ (k : Int) := by omega
      have hk1 : (k : Int) < (n : Int) := by omega
      have HSN := Lib.hid (show innL xs ys (k + 1) = (fop .add .f32 (innL xs ys k) (innC (xs.getD k c0) (ys.getD k c0))) from rfl)
      clear hcell1 hcell2
      go_wp2_with fail
      have hG : Below wr.heap.size wr (wr.alloc (.cells #[.float .f32 p, .float .f32 q, .float .f32 t] 40)) := (Below.refl _ _).alloc (Nat.le_refl _) _
      have V : V3 (wr.alloc (.cells #[.float .f32 p, .float .f32 q, .float .f32 t] 40)) wr.heap.size p q t := V3.new
      have ca0 := V.1.1
      have ca1 := V.1.2.1
      have ca2 := V.1.2.2
      have d0 := cell_below hG d0'
      have d1 := cell_below hG d1'
      have d2 := cell_below hG d2'
      have HG := Lib.hid (HB.out.trans (hG.mono HB.out.size))
      clear hG V ca0' ca1' ca2' d0' d1' d2'
      generalize (wr.alloc (.cells #[.float .f32 p, .float .f32 q, .float .f32 t] 40)) = W1 at *
      generalize wr.heap.size = BX at *
      refine Reg.wp_region_mix (C := fun w' => Below W1.heap.size W1 w') (G := fun _ _ => True) (R := fun i v w' => match i with | 0 => v = .float .f32 s | 1 => v = vv p q t | 2 => v = .slice (some ⟨b2, o2, none⟩) n cap' | 3 => v = .int .i64 k | 4 => v = .pointer (some ⟨b2, o2 + k * 3, none⟩) | 5 => v = vv p' q' t' | 6 => isF (innC (xs.getD k c0) (ys.getD k c0)) v | 7 => isF (fop .add .f32 (innL xs ys k) (innC (xs.getD k c0) (ys.getD k c0))) v | 8 => isF (fop .add .f32 (innL xs ys k) (innC (xs.getD k c0) (ys.getD k c0))) v | _ => True) (T := fun _ _ _ => True) [false, false, false, false, false, true, false, false, false, false, false, false, false, false, false, true, true, true, true, true, true, true, true, false, false]
        (by kernel_rfl) (by kernel_rfl) (by kernel_rfl) (fun _ _ _ _ _ _ h => h) (below_drewN (Below.refl _ _) 1) ?_ ?_
      · refine ⟨Reg.Obl.mk ?_, Reg.Obl.mk ?_, Reg.Obl.mk ?_, Reg.Obl.mk ?_, Reg.Obl.mk ?_, Reg.Obl.mk ?_, Reg.Obl.mk ?_, Reg.Obl.mk ?_, Reg.Obl.mk ?_, trivial⟩
        · rintro a w1 hC hx hd K hK
          have HC := Lib.hid hC
          clear hC
          have t5 : a.tmps[5]?.getD undef = .float .f32 s := Reg.slot_val (hx 5 (by kernel_rfl))
          go_simp
          exact hK _ _ (fun _ => rfl) (fun h => by cases h) HC.out trivial
        · rintro a w1 hC hx hd K hK
          have HC := Lib.hid hC
          clear hC
          have y0 := cell_below HC.out ca0
          have y1 := cell_below HC.out ca1
          have y2 := cell_below HC.out ca2
          have t7 : a.tmps[7]?.getD undef = .pointer (some ⟨BX, 0, none⟩) := Reg.slot_val (hx 7 (by kernel_rfl))
          go_simp
          exact hK _ _ (fun _ => rfl) (fun h => by cases h) HC.out trivial
        · rintro a w1 hC hx hd K hK
          have HC := Lib.hid hC
          clear hC
          have t1 : a.tmps[1]?.getD undef = .slice (some ⟨b2, o2, none⟩) n cap' := Reg.slot_val (hx 1 (by kernel_rfl))
          go_simp
          exact hK _ _ (fun _ => rfl) (fun h => by cases h) HC.out trivial
        · rintro a w1 hC hx hd K hK
          have HC := Lib.hid hC
          clear hC
          have t6 : a.tmps[6]?.getD undef = .int .i64 k := Reg.slot_val (hx 6 (by kernel_rfl))
          go_simp
          exact hK _ _ (fun _ => rfl) (fun h => by cases h) HC.out trivial
        · rintro a w1 hC hx hd K hK
          have HC := Lib.hid hC
          clear hC
          have t17 : a.tmps[17]?.getD undef = .slice (some ⟨b2, o2, none⟩) n cap' := Reg.slot_val (hd 2 (by kernel_rfl) 17 rfl)
          have t18 : a.tmps[18]?.getD undef = .int .i64 k := Reg.slot_val (hd 3 (by kernel_rfl) 18 rfl)
          go_simp
          exact hK _ _ (fun _ => rfl) (fun h => by cases h) HC.out trivial
        · rintro a w1 hC hx hd K hK
          have HC := Lib.hid hC
          clear hC
          have y0 := cell_below HC.out d0
          have y1 := cell_below HC.out d1
          have y2 := cell_below HC.out d2
          have t19 : a.tmps[19]?.getD undef = .pointer (some ⟨b2, o2 + k * 3, none⟩) := Reg.slot_val (hd 4 (by kernel_rfl) 19 rfl)
          go_simp
          exact hK _ _ (fun _ => rfl) (fun h => by cases h) HC.out trivial
        · rintro a w1 hC hx hd K hK
          have HC := Lib.hid hC
          clear hC
          have t16 : a.tmps[16]?.getD undef = vv p q t := Reg.slot_val (hd 1 (by kernel_rfl) 16 rfl)
          have t20 : a.tmps[20]?.getD undef = vv p' q' t' := Reg.slot_val (hd 5 (by kernel_rfl) 20 rfl)
          go_simp
          refine (impl_InnerOf _ _ _ _ _ _ _ _ _ _ _ _ _ e0 e1 e2 g0 g1 g2).mono ?_
          rintro en w2 ⟨z, rfl, hz, hB2⟩
          exact hK _ _ (fun _ => ⟨z, rfl, hz⟩) (fun h => by cases h) (HC.out.trans (hB2.mono HC.out.size)) trivial
        · rintro a w1 hC hx hd K hK
          have HC := Lib.hid hC
          clear hC
          have t15 : a.tmps[15]?.getD undef = .float .f32 s := Reg.slot_val (hd 0 (by kernel_rfl) 15 rfl)
          obtain ⟨r21, g21, f21⟩ := hd 6 (by kernel_rfl) 21 rfl
          have t21 := Reg.slot_val g21
          clear g21
          go_simp
          exact hK _ _ (fun _ => ⟨_, rfl, FV_fR HF.out f21⟩) (fun h => by cases h) (below_drewN HC.out _) trivial
        · rintro a w1 hC hx hd K hK
          have HC := Lib.hid hC
          clear hC
          obtain ⟨r22, g22, f22⟩ := hd 7 (by kernel_rfl) 22 rfl
          have t22 := Reg.slot_val g22
          clear g22
          go_simp
          exact hK _ _ (fun _ => ⟨_, rfl, f22⟩) (fun h => by cases h) HC.out trivial
      · rintro f w1 hC hd hT
        obtain ⟨r5, g5, f5⟩ := hd 8 5 rfl
        have HC := Lib.hid (HG.out.trans (hC.mono HG.out.size))
        clear hC hd hT
        simp only [Reg.mixL, g5]
        go_wp2
        go_roundw
        case rel => exact ⟨k + 1, by omega, by go_num, ⟨_, rfl, by rw [HSN.out]; exact f5⟩, HC.out⟩
        case measure => simp [intOf]; omega
    · obtain rfl : k = n := by omega
      go_wp2
      go_ret
      exact ⟨s, rfl, HF.out, HB.out⟩
set_option maxHeartbeats 1000000 in
theorem l05Inner (a b : Option Addr) (n cap cap' : Nat) (xs ys : List C3) (w : World) (h : IsVs w a n cap xs) (h' : IsVs w b n cap' ys) :
    Calls Try.prog 76 #[.slice a n cap, .slice b n cap'] w fun e w' => ∃ r, e = .returned (.float .f32 r) ∧ FV .f32 r (innL xs ys n) ∧ Below w.heap.size w w' := by
  have u := Try.underlying27
  have uv := Try.underlying40
  have hm : n ≤ 9223372036854775807 := by have h1 := h.2.1; have h2 := h.2.2.1; unfold maxLen at h2; omega
  have H := Lib.hid h
  have H' := Lib.hid h'
  clear h h'
  go_enter Try.func76, Try.ntmps76
  go_wp2
  go_loopw [5, 9] (fun s i w' => ∃ k : Nat, k ≤ n ∧ i = .int .i64 k ∧ (∃ r, s = .float .f32 r ∧ FV .f32 r (innL xs ys k)) ∧ Aside (Below w.heap.size w w')) (fun _ i _ => n - (intOf i).toNat)
  case atStart => exact ⟨0, Nat.zero_le _, rfl, ⟨0, rfl, FV_0⟩, Below.refl _ _⟩
  case round =>
    obtain ⟨k, hk, rfl, ⟨s, rfl, hs⟩, hA⟩ := hrel
    have HB := Lib.hid hA.out
    have HF := Lib.hid hs
    clear hA hs
    by_cases hlt : k < n
    · obtain ⟨b1, o1, rfl, hcell1⟩ := (H.out.below HB.out).some (by omega)
      obtain ⟨b2, o2, rfl, hcell2⟩ := (H'.out.below HB.out).some (by omega)
      obtain ⟨p, q, t, ca0', ca1', ca2', e0, e1, e2⟩ := hcell1 k hlt
      obtain ⟨p', q', t', d0', d1', d2', g0, g1, g2⟩ := hcell2 k hlt
      have hk0 : (0 : Int) ≤ (k : Int) := by omega
      have hk1 : (k : Int) < (n : Int) := by omega
      have HSN := Lib.hid (show innL xs ys (k + 1) = (fop .add .f32 (innL xs ys k) (innC (xs.getD k c0) (ys.getD k c0))) from rfl)
      clear hcell1 hcell2
      go_wp2_with fail
      have ca0 := ca0'
      have ca1 := ca1'
      have ca2 := ca2'
      have d0 := d0'
      have d1 := d1'
      have d2 := d2'
      have HG := HB
      clear ca0' ca1' ca2' d0' d1' d2'
      obtain ⟨W1, hW1⟩ : ∃ W1, W1 = wr := ⟨_, rfl⟩
      subst hW1
      refine Reg.wp_region_mix (C := fun w' => Below W1.heap.size W1 w') (G := fun _ _ => True) (R := fun i v w' => match i with | 0 => v = .float .f32 s | 1 => v = .slice (some ⟨b1, o1, none⟩) n cap | 2 => v = .int .i64 k | 3 => v = .pointer (some ⟨b1, o1 + k * 3, none⟩) | 4 => v = vv p q t | 5 => v = .slice (some ⟨b2, o2, none⟩) n cap' | 6 => v = .int .i64 k | 7 => v = .pointer (some ⟨b2, o2 + k * 3, none⟩) | 8 => v = vv p' q' t' | 9 => isF (innC (xs.getD k c0) (ys.getD k c0)) v | 10 => isF (fop .add .f32 (innL xs ys k) (innC (xs.getD k c0) (ys.getD k c0))) v | 11 => isF (fop .add .f32 (innL xs ys k) (innC (xs.getD k c0) (ys.getD k c0))) v | _ => True) (T := fun _ _ _ => True) [false, false, false, false, false, true, false, false, false, false, false, false, true, true, true, true, true, true, true, true, true, true, true, false, false]
        (by kernel_rfl) (by kernel_rfl) (by kernel_rfl) (fun _ _ _ _ _ _ h => h) (below_drewN (Below.refl _ _) 1) ?_ ?_
      · refine ⟨Reg.Obl.mk ?_, Reg.Obl.mk ?_, Reg.Obl.mk ?_, Reg.Obl.mk ?_, Reg.Obl.mk ?_, Reg.Obl.mk ?_, Reg.Obl.mk ?_, Reg.Obl.mk ?_, Reg.Obl.mk ?_, Reg.Obl.mk ?_, Reg.Obl.mk ?_, Reg.Obl.mk ?_, trivial⟩
        · rintro a w1 hC hx hd K hK
          have HC := Lib.hid hC
          clear hC
          have t5 : a.tmps[5]?.getD undef = .float .f32 s := Reg.slot_val (hx 5 (by kernel_rfl))
          go_simp
          exact hK _ _ (fun _ => rfl) (fun h => by cases h) HC.out trivial
        · rintro a w1 hC hx hd K hK
          have HC := Lib.hid hC
          clear hC
          have t0 : a.tmps[0]?.getD undef = .slice (some ⟨b1, o1, none⟩) n cap := Reg.slot_val (hx 0 (by kernel_rfl))
          go_simp
          exact hK _ _ (fun _ => rfl) (fun h => by cases h) HC.out trivial
        · rintro a w1 hC hx hd K hK
          have HC := Lib.hid hC
          clear hC
          have t6 : a.tmps[6]?.getD undef = .int .i64 k := Reg.slot_val (hx 6 (by kernel_rfl))
          go_simp
          exact hK _ _ (fun _ => rfl) (fun h => by cases h) HC.out trivial
        · rintro a w1 hC hx hd K hK
          have HC := Lib.hid hC
          clear hC
          have t13 : a.tmps[13]?.getD undef = .slice (some ⟨b1, o1, none⟩) n cap := Reg.slot_val (hd 1 (by kernel_rfl) 13 rfl)
          have t14 : a.tmps[14]?.getD undef = .int .i64 k := Reg.slot_val (hd 2 (by kernel_rfl) 14 rfl)
          go_simp
          exact hK _ _ (fun _ => rfl) (fun h => by cases h) HC.out trivial
        · rintro a w1 hC hx hd K hK
          have HC := Lib.hid hC
          clear hC
          have y0 := cell_below HC.out ca0
          have y1 := cell_below HC.out ca1
          have y2 := cell_below HC.out ca2
          have t15 : a.tmps[15]?.getD undef = .pointer (some ⟨b1, o1 + k * 3, none⟩) := Reg.slot_val (hd 3 (by kernel_rfl) 15 rfl)
          go_simp
          exact hK _ _ (fun _ => rfl) (fun h => by cases h) HC.out trivial
        · rintro a w1 hC hx hd K hK
          have HC := Lib.hid hC
          clear hC
          have t1 : a.tmps[1]?.getD undef = .slice (some ⟨b2, o2, none⟩) n cap' := Reg.slot_val (hx 1 (by kernel_rfl))
          go_simp
          exact hK _ _ (fun _ => rfl) (fun h => by cases h) HC.out trivial
        · rintro a w1 hC hx hd K hK
          have HC := Lib.hid hC
          clear hC
          have t6 : a.tmps[6]?.getD undef = .int .i64 k := Reg.slot_val (hx 6 (by kernel_rfl))
          go_simp
          exact hK _ _ (fun _ => rfl) (fun h => by cases h) HC.out trivial
        · rintro a w1 hC hx hd K hK
          have HC := Lib.hid hC
          clear hC
          have t17 : a.tmps[17]?.getD undef = .slice (some ⟨b2, o2, none⟩) n cap' := Reg.slot_val (hd 5 (by kernel_rfl) 17 rfl)
          have t18 : a.tmps[18]?.getD undef = .int .i64 k := Reg.slot_val (hd 6 (by kernel_rfl) 18 rfl)
          go_simp
          exact hK _ _ (fun _ => rfl) (fun h => by cases h) HC.out trivial
        · rintro a w1 hC hx hd K hK
          have HC := Lib.hid hC
          clear hC
          have y0 := cell_below HC.out d0
          have y1 := cell_below HC.out d1
          have y2 := cell_below HC.out d2
          have t19 : a.tmps[19]?.getD undef = .pointer (some ⟨b2, o2 + k * 3, none⟩) := Reg.slot_val (hd 7 (by kernel_rfl) 19 rfl)
          go_simp
          exact hK _ _ (fun _ => rfl) (fun h => by cases h) HC.out trivial
        · rintro a w1 hC hx hd K hK
          have HC := Lib.hid hC
          clear hC
          have t16 : a.tmps[16]?.getD undef = vv p q t := Reg.slot_val (hd 4 (by kernel_rfl) 16 rfl)
          have t20 : a.tmps[20]?.getD undef = vv p' q' t' := Reg.slot_val (hd 8 (by kernel_rfl) 20 rfl)
          go_simp
          refine (l01Inner _ _ _ _ _ _ _ _ _ _ _ _ _ e0 e1 e2 g0 g1 g2).mono ?_
          rintro en w2 ⟨z, rfl, hz, hB2⟩
          exact hK _ _ (fun _ => ⟨z, rfl, hz⟩) (fun h => by cases h) (HC.out.trans (hB2.mono HC.out.size)) trivial
        · rintro a w1 hC hx hd K hK
          have HC := Lib.hid hC
          clear hC
          have t12 : a.tmps[12]?.getD undef = .float .f32 s := Reg.slot_val (hd 0 (by kernel_rfl) 12 rfl)
          obtain ⟨r21, g21, f21⟩ := hd 9 (by kernel_rfl) 21 rfl
          have t21 := Reg.slot_val g21
          clear g21
          go_simp
          exact hK _ _ (fun _ => ⟨_, rfl, FV_fR HF.out f21⟩) (fun h => by cases h) (below_drewN HC.out _) trivial
        · rintro a w1 hC hx hd K hK
          have HC := Lib.hid hC
          clear hC
          obtain ⟨r22, g22, f22⟩ := hd 10 (by kernel_rfl) 22 rfl
          have t22 := Reg.slot_val g22
          clear g22
          go_simp
          exact hK _ _ (fun _ => ⟨_, rfl, f22⟩) (fun h => by cases h) HC.out trivial
      · rintro f w1 hC hd hT
        obtain ⟨r5, g5, f5⟩ := hd 11 5 rfl
        have HC := Lib.hid (HG.out.trans (hC.mono HG.out.size))
        clear hC hd hT
        simp only [Reg.mixL, g5]
        go_wp2
        go_roundw
        case rel => exact ⟨k + 1, by omega, by go_num, ⟨_, rfl, by rw [HSN.out]; exact f5⟩, HC.out⟩
        case measure => simp [intOf]; omega
    · obtain rfl : k = n := by omega
      go_wp2
      go_ret
      exact ⟨s, rfl, HF.out, HB.out⟩
set_option maxHeartbeats 1000000 in
theorem impl_InnerAll (a b : Option Addr) (n m cap cap' : Nat) (xs ys : List C3) (w : World) (h : IsVs w a n cap xs) (h' : IsVs w b m cap' ys) :
    Calls Try.prog 25 #[.slice a n cap, .slice b m cap'] w fun e w' => ∃ r, e = .returned (.tuple #[.float .f32 r, .bool (inaB n m)]) ∧ FV .f32 r (inaC xs ys n m) ∧ Below w.heap.size w w' := by
  have hm : n ≤ 9223372036854775807 := by have h1 := h.2.1; have h2 := h.2.2.1; unfold maxLen at h2; omega
  have hm' : m ≤ 9223372036854775807 := by have h1 := h'.2.1; have h2 := h'.2.2.1; unfold maxLen at h2; omega
  by_cases hnm : n = m
  · subst hnm
    by_cases hl : n ≤ 256
    · have J := Lib.hid (impl_innerSum a b n cap cap' xs ys w h h')
      have hb : inaB n n = true := by unfold inaB; simp [hl]
      have h1 : ¬ (256 : Int) < n := by omega
      unfold inaC
      rw [hb]
      clear h h' hb hl
      go_enter Try.func25, Try.ntmps25
      go_wp2_with fail
      refine J.out.mono ?_
      rintro e w1 ⟨r, rfl, hF, hB⟩
      have HF := Lib.hid hF
      have HB := Lib.hid hB
      clear hF hB
      go_wp2
      go_ret2
      exact ⟨r, rfl, HF.out, HB.out⟩
    · have hb : inaB n n = false := by unfold inaB; simp [hl]
      have h1 : (256 : Int) < n := by omega
      unfold inaC
      rw [hb]
      clear h h' hb hl
      go_enter Try.func25, Try.ntmps25
      go_wp2
      go_ret2
      exact ⟨0, rfl, FV_0, Below.refl _ _⟩
  · have hb : inaB n m = false := by unfold inaB; simp [hnm]
    have h1 : ¬ (n : Int) = m := by omega
    unfold inaC
    rw [hb]
    clear h h' hb
    go_enter Try.func25, Try.ntmps25
    go_wp2
    go_ret2
    exact ⟨0, rfl, FV_0, Below.refl _ _⟩
set_option maxHeartbeats 1000000 in
theorem spec_InnerAll (a b : Option Addr) (n m cap cap' : Nat) (xs ys : List C3) (w : World) (h : IsVs w a n cap xs) (h' : IsVs w b m cap' ys) :
    Calls Try.prog 23 #[.slice a n cap, .slice b m cap'] w fun e w' => ∃ r, e = .returned (.tuple #[.float .f32 r, .bool (inaB n m)]) ∧ FV .f32 r (inaC xs ys n m) ∧ Below w.heap.size w w' := by
  have hm : n ≤ 9223372036854775807 := by have h1 := h.2.1; have h2 := h.2.2.1; unfold maxLen at h2; omega
  have hm' : m ≤ 9223372036854775807 := by have h1 := h'.2.1; have h2 := h'.2.2.1; unfold maxLen at h2; omega
  by_cases hnm : n = m
  · subst hnm
    by_cases hl : n ≤ 256
    · have J := Lib.hid (l05Inner a b n cap cap' xs ys w h h')
      have hb : inaB n n = true := by unfold inaB; simp [hl]
      have h1 : ¬ (256 : Int) < n := by omega
      unfold inaC
      rw [hb]
      clear h h' hb hl
      go_enter Try.func23, Try.ntmps23
      go_wp2_with fail
      refine J.out.mono ?_
      rintro e w1 ⟨r, rfl, hF, hB⟩
      have HF := Lib.hid hF
      have HB := Lib.hid hB
      clear hF hB
      go_wp2
      go_ret2
      exact ⟨r, rfl, HF.out, HB.out⟩
    · have hb : inaB n n = false := by unfold inaB; simp [hl]
      have h1 : (256 : Int) < n := by omega
      unfold inaC
      rw [hb]
      clear h h' hb hl
      go_enter Try.func23, Try.ntmps23
      go_wp2
      go_ret2
      exact ⟨0, rfl, FV_0, Below.refl _ _⟩
  · have hb : inaB n m = false := by unfold inaB; simp [hnm]
    have h1 : ¬ (n : Int) = m := by omega
    unfold inaC
    rw [hb]
    clear h h' hb
    go_enter Try.func23, Try.ntmps23
    go_wp2
    go_ret2
    exact ⟨0, rfl, FV_0, Below.refl _ _⟩
end Go.Proofs.Ytajglpkeojaelaa

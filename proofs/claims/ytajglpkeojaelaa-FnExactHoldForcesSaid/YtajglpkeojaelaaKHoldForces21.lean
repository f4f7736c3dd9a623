/-
Texts in one: what HoldForces stands on, part 21. Conditions: those of each.
-/
import Derived.Test.YtajglpkeojaelaaKHoldForces20
import Derived.Handy

/-
What a hold leaves of a force: the program and the model. Conditions: none beyond that the words fit.
-/
namespace Go.Proofs.Ytajglpkeojaelaa
open Go Fk Go.RowKit
set_option linter.unusedVariables false
set_option maxRecDepth 8000

/-- The hold as a value of the interface. -/
def ifV (h : HW) : Value := if h.k = 1 then .iface 178 h.v else if h.k = 2 then .iface 180 h.v else .iface 181 h.v
theorem impl_restraint (h : HW) (w : World) :
    Calls Try.prog 92 #[h.v] w fun e w' => e = .returned (ifV h) ∧ Below w.heap.size w w' := by
  have ui := Try.underlying2
  have uh := Try.underlying119
  have u1 := Try.underlying178
  have u2 := Try.underlying180
  have u3 := Try.underlying181
  unfold ifV
  by_cases h1 : h.k = 1
  · have e1 : (h.k == 1) = true := by rw [h1]; rfl
    rw [if_pos h1]
    clear h1
    unfold HW.v
    go_enter Try.func92, Try.ntmps92
    go_wp2
    go_ret
    exact ⟨rfl, (Below.refl _ _).alloc (Nat.le_refl _) _⟩
  · have e1 : (h.k == 1) = false := beq_eq_false_iff_ne.2 h1
    rw [if_neg h1]
    by_cases h2 : h.k = 2
    · have e2 : (h.k == 2) = true := by rw [h2]; rfl
      rw [if_pos h2]
      clear h1 h2
      unfold HW.v
      go_enter Try.func92, Try.ntmps92
      go_wp2
      go_ret
      exact ⟨rfl, (Below.refl _ _).alloc (Nat.le_refl _) _⟩
    · have e2 : (h.k == 2) = false := beq_eq_false_iff_ne.2 h2
      rw [if_neg h2]
      clear h1 h2
      unfold HW.v
      go_enter Try.func92, Try.ntmps92
      go_wp2
      go_ret
      exact ⟨rfl, (Below.refl _ _).alloc (Nat.le_refl _) _⟩
theorem impl_fixed (h : HW) (p q r : Nat) (w : World) :
    Calls Try.prog 201 #[h.v, vv p q r] w fun e w' => ∃ x y z, e = .returned (vv x y z) ∧ F3 x y z (some 0, some 0, some 0) ∧ Below w.heap.size w w' := by
  have u := Try.underlying27
  have uv := Try.underlying40
  have u3 := Try.underlying181
  unfold HW.v
  go_enter Try.func201, Try.ntmps201
  go_wp2
  refine bodyPost_ret (v := vv 0 0 0) (by simp [results, Try.results201, go_sem]) rfl ⟨0, 0, 0, rfl, ⟨Fk.FV.zero, Fk.FV.zero, Fk.FV.zero⟩, ?_⟩
  go_grown
def forceC (c : HC) (F : C3) : C3 := bif holdB c then leaveC c F else (some 0, some 0, some 0)
end Go.Proofs.Ytajglpkeojaelaa


/-
What a hold leaves of a force: the model. Conditions: none beyond that the words fit.
-/
namespace Go.Proofs.Ytajglpkeojaelaa
open Go Fk Go.RowKit
set_option linter.unusedVariables false
set_option maxRecDepth 8000

set_option maxHeartbeats 1000000 in
theorem l04Force_1 (b o : Nat) (h : HW) (c : HC) (p q r : Nat) (F : C3) (w : World) (a : h.At w b o) (i : h.Is c) (f : F3 p q r F) (hk : h.k = 1) :
    Calls Try.prog 145 #[.pointer (some ⟨b, o, none⟩), vv p q r] w fun e w' => ∃ x y z, e = .returned (vv x y z) ∧ F3 x y z (alongC c F) ∧ Below w.heap.size w w' := by
  have u := Try.underlying27
  have uh := Try.underlying119
  have uv := Try.underlying40
  have ui := Try.underlying2
  have e1 : (h.k == 1) = true := by rw [hk]; rfl
  clear hk
  have k1 := a.c1
  have A := Lib.hid a
  clear a
  have I := Lib.hid i
  have FF := Lib.hid f
  clear i f
  have fr : Frm w [(w.heap.size, [.float .f32 p, .float .f32 q, .float .f32 r])] (w.heap.size + 1) ((w.alloc (.cells #[.float .f32 p, .float .f32 q, .float .f32 r] 40)).alloc (.cells #[.float .f32 0, .float .f32 0, .float .f32 0] 40)) := by
    refine ⟨((Below.refl _ _).alloc (Nat.le_refl _) _).alloc (by simp) _, ?_, by omega, ⟨.float .f32 0, .float .f32 0, .float .f32 0, by go_simp, by go_simp, by go_simp⟩, fun i => by go_simp⟩
    intro b l hm
    rcases List.mem_cons.1 hm with e | hm
    · cases e
      refine ⟨?_, by omega⟩
      exact At.new.alloc
    · cases hm
  have FR := Lib.hid fr
  clear fr
  have m1 : ((w.alloc (.cells #[.float .f32 p, .float .f32 q, .float .f32 r] 40)).alloc (.cells #[.float .f32 0, .float .f32 0, .float .f32 0] 40)).cell? ⟨b, o + 1, none⟩ = some (.int .i64 h.k) := (A.out.below FR.out.bel).c1
  clear k1
  go_enter Try.func145, Try.ntmps145
  go_wp2_with fail
  have hA := l04Along b o h c p q r F ((w.alloc (.cells #[.float .f32 p, .float .f32 q, .float .f32 r] 40)).alloc (.cells #[.float .f32 0, .float .f32 0, .float .f32 0] 40)) (A.out.below FR.out.bel) I.out FF.out
  generalize ((w.alloc (.cells #[.float .f32 p, .float .f32 q, .float .f32 r] 40)).alloc (.cells #[.float .f32 0, .float .f32 0, .float .f32 0] 40)) = W at *
  refine hA.mono ?_
  clear hA
  rintro e w1 ⟨x, y, z, rfl, hF, hB1⟩
  have FR1 := FR.out.call hB1
  obtain ⟨u0, u1, u2, x0, x1, x2⟩ := FR1.cells
  have k0 := FR1.free 0
  have k1 := FR1.free 1
  have k2 := FR1.free 2
  have HF := Lib.hid (FR1.put (.float .f32 x) (.float .f32 y) (.float .f32 z))
  have HT := Lib.hid (TV.put FR1 (p := x) (q := y) (r := z) hF)
  clear hB1 FR1 m1
  go_wp2
  clear x0 x1 x2
  obtain ⟨x, y, z, ⟨x0, x1, x2⟩, hf⟩ := HT.out
  refine bodyPost_ret (v := vv x y z) (by simp [results, Try.results145, go_sem, x0, x1, x2]) rfl ⟨x, y, z, rfl, hf, HF.out.bel⟩
set_option maxHeartbeats 1000000 in
theorem l04Force_2 (b o : Nat) (h : HW) (c : HC) (p q r : Nat) (F : C3) (w : World) (a : h.At w b o) (i : h.Is c) (f : F3 p q r F) (hk : h.k = 2) :
    Calls Try.prog 145 #[.pointer (some ⟨b, o, none⟩), vv p q r] w fun e w' => ∃ x y z, e = .returned (vv x y z) ∧ F3 x y z (subC F (alongC c F)) ∧ Below w.heap.size w w' := by
  have u := Try.underlying27
  have uh := Try.underlying119
  have uv := Try.underlying40
  have ui := Try.underlying2
  have e1 : (h.k == 1) = false := by rw [hk]; rfl
  have e2 : (h.k == 2) = true := by rw [hk]; rfl
  clear hk
  have k1 := a.c1
  have A := Lib.hid a
  clear a
  have I := Lib.hid i
  have FF := Lib.hid f
  clear i f
  have fr : Frm w [(w.heap.size, [.float .f32 p, .float .f32 q, .float .f32 r])] (w.heap.size + 1) ((w.alloc (.cells #[.float .f32 p, .float .f32 q, .float .f32 r] 40)).alloc (.cells #[.float .f32 0, .float .f32 0, .float .f32 0] 40)) := by
    refine ⟨((Below.refl _ _).alloc (Nat.le_refl _) _).alloc (by simp) _, ?_, by omega, ⟨.float .f32 0, .float .f32 0, .float .f32 0, by go_simp, by go_simp, by go_simp⟩, fun i => by go_simp⟩
    intro b l hm
    rcases List.mem_cons.1 hm with e | hm
    · cases e
      refine ⟨?_, by omega⟩
      exact At.new.alloc
    · cases hm
  have FR := Lib.hid fr
  clear fr
  have m1 : ((w.alloc (.cells #[.float .f32 p, .float .f32 q, .float .f32 r] 40)).alloc (.cells #[.float .f32 0, .float .f32 0, .float .f32 0] 40)).cell? ⟨b, o + 1, none⟩ = some (.int .i64 h.k) := (A.out.below FR.out.bel).c1
  clear k1
  go_enter Try.func145, Try.ntmps145
  go_wp2_with fail
  clear m1
  change (Code.region _ _ _).wp _ _ _ ((w.alloc (.cells #[.float .f32 p, .float .f32 q, .float .f32 r] 40)).alloc (.cells #[.float .f32 0, .float .f32 0, .float .f32 0] 40))
  generalize ((w.alloc (.cells #[.float .f32 p, .float .f32 q, .float .f32 r] 40)).alloc (.cells #[.float .f32 0, .float .f32 0, .float .f32 0] 40)) = W at *
  refine Reg2.wp_region_mix (C := Frm w [(w.heap.size, [.float .f32 p, .float .f32 q, .float .f32 r])] (w.heap.size + 1)) (G := fun w1 w2 => TV (w.heap.size + 1) (subC F (alongC c F)) w1 → TV (w.heap.size + 1) (subC F (alongC c F)) w2) (R := fun i v w' => match i with | 0 => v = .agg #[.float .f32 p, .float .f32 q, .float .f32 r] | 1 => v = .pointer (some ⟨b, o, none⟩) | 2 => v = .agg #[.float .f32 p, .float .f32 q, .float .f32 r] | 3 => ∃ p q r, v = vv p q r ∧ F3 p q r (alongC c F) | 4 => ∃ p q r, v = vv p q r ∧ F3 p q r (subC F (alongC c F)) | _ => True) (T := fun _ w' => TV (w.heap.size + 1) (subC F (alongC c F)) w') [false, false, false, false, false, false, false, false, false, false, false, false, false, false, false, false, true, true, true, true, true, false]
    (by kernel_rfl) (by kernel_rfl) (by kernel_rfl) (fun _ _ _ _ _ _ h => h) (fun _ _ _ _ hG hT => hG hT) (Frm.drewN FR.out 1) ?_ ?_
  · refine ⟨Reg2.Obl.mk ?_, Reg2.Obl.mk ?_, Reg2.Obl.mk ?_, Reg2.Obl.mk ?_, Reg2.Obl.mk ?_, Reg2.Obl.mk ?_, trivial⟩
    · rintro a w1 hC hx hd K hK
      have HC := Lib.hid hC
      clear hC
      have z0 := (HC.out.mem (.head _)) 0 _ rfl
      have z1 := (HC.out.mem (.head _)) 1 _ rfl
      have z2 := (HC.out.mem (.head _)) 2 _ rfl
      have t3 : a.tmps[3]?.getD undef = .pointer (some ⟨w.heap.size, 0, none⟩) := Reg.slot_val (hx 3 (by kernel_rfl))
      go_simp
      exact hK _ _ (fun _ => rfl) (fun h => by cases h) HC.out (fun h => h)
    · rintro a w1 hC hx hd K hK
      have HC := Lib.hid hC
      clear hC
      have t0 : a.tmps[0]?.getD undef = .pointer (some ⟨b, o, none⟩) := Reg.slot_val (hx 0 (by kernel_rfl))
      go_simp
      exact hK _ _ (fun _ => rfl) (fun h => by cases h) HC.out (fun h => h)
    · rintro a w1 hC hx hd K hK
      have HC := Lib.hid hC
      clear hC
      have z0 := (HC.out.mem (.head _)) 0 _ rfl
      have z1 := (HC.out.mem (.head _)) 1 _ rfl
      have z2 := (HC.out.mem (.head _)) 2 _ rfl
      have t3 : a.tmps[3]?.getD undef = .pointer (some ⟨w.heap.size, 0, none⟩) := Reg.slot_val (hx 3 (by kernel_rfl))
      go_simp
      exact hK _ _ (fun _ => rfl) (fun h => by cases h) HC.out (fun h => h)
    · rintro a w1 hC hx hd K hK
      have HC := Lib.hid hC
      clear hC
      have t17 : a.tmps[17]?.getD undef = .pointer (some ⟨b, o, none⟩) := Reg.slot_val (hd 1 (by kernel_rfl) 17 rfl)
      have t18 : a.tmps[18]?.getD undef = .agg #[.float .f32 p, .float .f32 q, .float .f32 r] := Reg.slot_val (hd 2 (by kernel_rfl) 18 rfl)
      go_simp
      refine (l04Along b o h c p q r F _ (A.out.below HC.out.bel) I.out FF.out).mono ?_
      rintro en w2 ⟨p', q', r', rfl, hF, hB2⟩
      exact hK _ _ (fun _ => ⟨p', q', r', rfl, hF⟩) (fun h => by cases h) (HC.out.call hB2) (TV.call hB2)
    · rintro a w1 hC hx hd K hK
      have HC := Lib.hid hC
      clear hC
      have t16 : a.tmps[16]?.getD undef = .agg #[.float .f32 p, .float .f32 q, .float .f32 r] := Reg.slot_val (hd 0 (by kernel_rfl) 16 rfl)
      obtain ⟨p19, q19, r19, g19, f19⟩ := hd 3 (by kernel_rfl) 19 rfl
      have t19 := Reg.slot_val g19
      clear g19
      go_simp
      refine (l01Less _ _ _ _ _ _ _ _ _ _ _ _ _ FF.out.1 FF.out.2.1 FF.out.2.2 f19.1 f19.2.1 f19.2.2).mono ?_
      rintro en w2 ⟨p', q', r', rfl, fp', fq', fr', hB2⟩
      exact hK _ _ (fun _ => ⟨p', q', r', rfl, fp', fq', fr'⟩) (fun h => by cases h) (HC.out.call hB2) (TV.call hB2)
    · rintro a w1 hC hx hd K hK
      have HC := Lib.hid hC
      clear hC
      have t4 : a.tmps[4]?.getD undef = .pointer (some ⟨w.heap.size + 1, 0, none⟩) := Reg.slot_val (hx 4 (by kernel_rfl))
      obtain ⟨p20, q20, r20, g20, f20⟩ := hd 4 (by kernel_rfl) 20 rfl
      have t20 := Reg.slot_val g20
      clear g20
      obtain ⟨u0, u1, u2, x0, x1, x2⟩ := HC.out.cells
      have k0 := HC.out.free 0
      have k1 := HC.out.free 1
      have k2 := HC.out.free 2
      go_simp
      exact hK undef _ (fun h => absurd rfl h) (fun _ => TV.put HC.out f20) (HC.out.put _ _ _) (fun _ => TV.put HC.out f20)
  rintro f w1 hC hd hT
  obtain ⟨x, y, z, ⟨x0, x1, x2⟩, hf⟩ := hT 5 rfl (by decide)
  simp only [Reg.mixL]
  have HC := Lib.hid hC
  clear hC hd hT
  go_wp2
  refine bodyPost_ret (v := vv x y z) (by simp [results, Try.results145, go_sem, x0, x1, x2]) rfl ⟨x, y, z, rfl, hf, HC.out.bel⟩
set_option maxHeartbeats 1000000 in
theorem l04Force_0 (b o : Nat) (h : HW) (c : HC) (p q r : Nat) (F : C3) (w : World) (a : h.At w b o) (i : h.Is c) (f : F3 p q r F) (hk1 : h.k ≠ 1) (hk2 : h.k ≠ 2) :
    Calls Try.prog 145 #[.pointer (some ⟨b, o, none⟩), vv p q r] w fun e w' => ∃ x y z, e = .returned (vv x y z) ∧ F3 x y z ((some 0, some 0, some 0)) ∧ Below w.heap.size w w' := by
  have u := Try.underlying27
  have uh := Try.underlying119
  have uv := Try.underlying40
  have ui := Try.underlying2
  have e1 : (h.k == 1) = false := beq_eq_false_iff_ne.2 hk1
  have e2 : (h.k == 2) = false := beq_eq_false_iff_ne.2 hk2
  clear hk1 hk2
  have k1 := a.c1
  have A := Lib.hid a
  clear a
  have I := Lib.hid i
  have FF := Lib.hid f
  clear i f
  have fr : Frm w [(w.heap.size, [.float .f32 p, .float .f32 q, .float .f32 r])] (w.heap.size + 1) ((w.alloc (.cells #[.float .f32 p, .float .f32 q, .float .f32 r] 40)).alloc (.cells #[.float .f32 0, .float .f32 0, .float .f32 0] 40)) := by
    refine ⟨((Below.refl _ _).alloc (Nat.le_refl _) _).alloc (by simp) _, ?_, by omega, ⟨.float .f32 0, .float .f32 0, .float .f32 0, by go_simp, by go_simp, by go_simp⟩, fun i => by go_simp⟩
    intro b l hm
    rcases List.mem_cons.1 hm with e | hm
    · cases e
      refine ⟨?_, by omega⟩
      exact At.new.alloc
    · cases hm
  have FR := Lib.hid fr
  clear fr
  have m1 : ((w.alloc (.cells #[.float .f32 p, .float .f32 q, .float .f32 r] 40)).alloc (.cells #[.float .f32 0, .float .f32 0, .float .f32 0] 40)).cell? ⟨b, o + 1, none⟩ = some (.int .i64 h.k) := (A.out.below FR.out.bel).c1
  clear k1
  go_enter Try.func145, Try.ntmps145
  go_wp2
  refine bodyPost_ret (v := vv 0 0 0) (by simp [results, Try.results145, go_sem]) rfl ⟨0, 0, 0, rfl, ⟨Fk.FV.zero, Fk.FV.zero, Fk.FV.zero⟩, ?_⟩
  exact ((Below.refl _ _).alloc (Nat.le_refl _) _).alloc (by simp) _
theorem l04Force (b o : Nat) (h : HW) (c : HC) (p q r : Nat) (F : C3) (w : World) (a : h.At w b o) (i : h.Is c) (f : F3 p q r F) :
    Calls Try.prog 145 #[.pointer (some ⟨b, o, none⟩), vv p q r] w fun e w' => ∃ x y z, e = .returned (vv x y z) ∧ F3 x y z (leaveC c F) ∧ Below w.heap.size w w' := by
  unfold leaveC
  by_cases h1 : c.2.1 = 1
  · rw [if_pos h1]; exact l04Force_1 b o h c p q r F w a i f (i.2.1.trans h1)
  · rw [if_neg h1]
    by_cases h2 : c.2.1 = 2
    · rw [if_pos h2]; exact l04Force_2 b o h c p q r F w a i f (i.2.1.trans h2)
    · rw [if_neg h2]; exact l04Force_0 b o h c p q r F w a i f (fun e => h1 (i.2.1.symm.trans e)) (fun e => h2 (i.2.1.symm.trans e))
end Go.Proofs.Ytajglpkeojaelaa

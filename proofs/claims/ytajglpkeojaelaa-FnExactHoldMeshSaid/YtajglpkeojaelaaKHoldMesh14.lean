/-
Texts in one: what HoldMesh stands on, part 14. Conditions: those of each.
-/
import Derived.Test.YtajglpkeojaelaaKHoldMesh13
import Derived.Handy

/-
What a hold leaves of a force: the program and the model. Conditions: none beyond that the words fit.
-/
namespace Go.Proofs.Ytajglpkeojaelaa
open Go Fk Go.RowKit
set_option linter.unusedVariables false
set_option maxRecDepth 8000

/-- The hold as a value of the interface. -/
def ifV (h : HW) : Value := if h.k = 1 then .iface 178 h.v else if h.k = 2 then .iface 180 h.v else .iface 181 h.v
theorem impl_restraint (h : HW) (w : World) :
    Calls Try.prog 92 #[h.v] w fun e w' => e = .returned (ifV h) ∧ Below w.heap.size w w' := by
  have ui := Try.underlying2
  have uh := Try.underlying119
  have u1 := Try.underlying178
  have u2 := Try.underlying180
  have u3 := Try.underlying181
  unfold ifV
  by_cases h1 : h.k = 1
  · have e1 : (h.k == 1) = true := by rw [h1]; rfl
    rw [if_pos h1]
    clear h1
    unfold HW.v
    go_enter Try.func92, Try.ntmps92
    go_wp2
    go_ret
    exact ⟨rfl, (Below.refl _ _).alloc (Nat.le_refl _) _⟩
  · have e1 : (h.k == 1) = false := beq_eq_false_iff_ne.2 h1
    rw [if_neg h1]
    by_cases h2 : h.k = 2
    · have e2 : (h.k == 2) = true := by rw [h2]; rfl
      rw [if_pos h2]
      clear h1 h2
      unfold HW.v
      go_enter Try.func92, Try.ntmps92
      go_wp2
      go_ret
      exact ⟨rfl, (Below.refl _ _).alloc (Nat.le_refl _) _⟩
    · have e2 : (h.k == 2) = false := beq_eq_false_iff_ne.2 h2
      rw [if_neg h2]
      clear h1 h2
      unfold HW.v
      go_enter Try.func92, Try.ntmps92
      go_wp2
      go_ret
      exact ⟨rfl, (Below.refl _ _).alloc (Nat.le_refl _) _⟩
theorem impl_fixed (h : HW) (p q r : Nat) (w : World) :
    Calls Try.prog 201 #[h.v, vv p q r] w fun e w' => ∃ x y z, e = .returned (vv x y z) ∧ F3 x y z (some 0, some 0, some 0) ∧ Below w.heap.size w w' := by
  have u := Try.underlying27
  have uv := Try.underlying40
  have u3 := Try.underlying181
  unfold HW.v
  go_enter Try.func201, Try.ntmps201
  go_wp2
  refine bodyPost_ret (v := vv 0 0 0) (by simp [results, Try.results201, go_sem]) rfl ⟨0, 0, 0, rfl, ⟨Fk.FV.zero, Fk.FV.zero, Fk.FV.zero⟩, ?_⟩
  go_grown
def forceC (c : HC) (F : C3) : C3 := bif holdB c then leaveC c F else (some 0, some 0, some 0)
end Go.Proofs.Ytajglpkeojaelaa


/-
What a hold leaves of a force: the model. Conditions: none beyond that the words fit.
-/
namespace Go.Proofs.Ytajglpkeojaelaa
open Go Fk Go.RowKit
set_option linter.unusedVariables false
set_option maxRecDepth 8000

set_option maxHeartbeats 1000000 in
theorem l04Force_1 (b o : Nat) (h : HW) (c : HC) (p q r : Nat) (F : C3) (w : World) (a : h.At w b o) (i : h.Is c) (f : F3 p q r F) (hk : h.k = 1) :
    Calls Try.prog 145 #[.pointer (some ⟨b, o, none⟩), vv p q r] w fun e w' => ∃ x y z, e = .returned (vv x y z) ∧ F3 x y z (alongC c F) ∧ Below w.heap.size w w' := by
  have u := Try.underlying27
  have uh := Try.underlying119
  have uv := Try.underlying40
  have ui := Try.underlying2
  have e1 : (h.k == 1) = true := by rw [hk]; rfl
  clear hk
  have k1 := a.c1
  have A := Lib.hid a
  clear a
  have I := Lib.hid i
  have FF := Lib.hid f
  clear i f
  have fr : Frm w [(w.heap.size, [.float .f32 p, .float .f32 q, .float .f32 r])] (w.heap.size + 1) ((w.alloc (.cells #[.float .f32 p, .float .f32 q, .float .f32 r] 40)).alloc (.cells #[.float .f32 0, .float .f32 0, .float .f32 0] 40)) := by
    refine ⟨((Below.refl _ _).alloc (Nat.le_refl _) _).alloc (by simp) _, ?_, by omega, ⟨.float .f32 0, .float .f32 0, .float .f32 0, by go_simp, by go_simp, by go_simp⟩, fun i => by go_simp⟩
    intro b l hm
    rcases List.mem_cons.1 hm with e | hm
    · cases e
      refine ⟨?_, by omega⟩
      exact At.new.alloc
    · cases hm
  have FR := Lib.hid fr
  clear fr
  have m1 : ((w.alloc (.cells #[.float .f32 p, .float .f32 q, .float .f32 r] 40)).alloc (.cells #[.float .f32 0, .float .f32 0, .float .f32 0] 40)).cell? ⟨b, o + 1, none⟩ = some (.int .i64 h.k) := (A.out.below FR.out.bel).c1
  clear k1
  go_enter Try.func145, Try.ntmps145
  go_wp2_with fail
  have hA := l04Along b o h c p q r F ((w.alloc (.cells #[.float .f32 p, .float .f32 q, .float .f32 r] 40)).alloc (.cells #[.float .f32 0, .float .f32 0, .float .f32 0] 40)) (A.out.below FR.out.bel) I.out FF.out
  generalize ((w.alloc (.cells #[.float .f32 p, .float .f32 q, .float .f32 r] 40)).alloc (.cells #[.float .f32 0, .float .f32 0, .float .f32 0] 40)) = W at *
  refine hA.mono ?_
  clear hA
  rintro e w1 ⟨x, y, z, rfl, hF, hB1⟩
  have FR1 := FR.out.call hB1
  obtain ⟨u0, u1, u2, x0, x1, x2⟩ := FR1.cells
  have k0 := FR1.free 0
  have k1 := FR1.free 1
  have k2 := FR1.free 2
  have HF := Lib.hid (FR1.put (.float .f32 x) (.float .f32 y) (.float .f32 z))
  have HT := Lib.hid (TV.put FR1 (p := x) (q := y) (r := z) hF)
  clear hB1 FR1 m1
  go_wp2
  clear x0 x1 x2
  obtain ⟨x, y, z, ⟨x0, x1, x2⟩, hf⟩ := HT.out
  refine bodyPost_ret (v := vv x y z) (by simp [results, Try.results145, go_sem, x0, x1, x2]) rfl ⟨x, y, z, rfl, hf, HF.out.bel⟩
set_option maxHeartbeats 1000000 in
theorem l04Force_2 (b o : Nat) (h : HW) (c : HC) (p q r : Nat) (F : C3) (w : World) (a : h.At w b o) (i : h.Is c) (f : F3 p q r F) (hk : h.k = 2) :
    Calls Try.prog 145 #[.pointer (some ⟨b, o, none⟩), vv p q r] w fun e w' => ∃ x y z, e = .returned (vv x y z) ∧ F3 x y z (subC F (alongC c F)) ∧ Below w.heap.size w w' := by
  have u := Try.underlying27
  have uh := Try.underlying119
  have uv := Try.underlying40
  have ui := Try.underlying2
  have e1 : (h.k == 1) = false := by rw [hk]; rfl
  have e2 : (h.k == 2) = true := by rw [hk]; rfl
  clear hk
  have k1 := a.c1
  have A := Lib.hid a
  clear a
  have I := Lib.hid i
  have FF := Lib.hid f
  clear i f
  have fr : Frm w [(w.heap.size, [.float .f32 p, .float .f32 q, .float .f32 r])] (w.heap.size + 1) ((w.alloc (.cells #[.float .f32 p, .float .f32 q, .float .f32 r] 40)).alloc (.cells #[.float .f32 0, .float .f32 0, .float .f32 0] 40)) := by
    refine ⟨((Below.refl _ _).alloc (Nat.le_refl _) _).alloc (by simp) _, ?_, by omega, ⟨.float .f32 0, .float .f32 0, .float .f32 0, by go_simp, by go_simp, by go_simp⟩, fun i => by go_simp⟩
    intro b l hm
    rcases List.mem_cons.1 hm with e | hm
    · cases e
      refine ⟨?_, by omega⟩
      exact At.new.alloc
    · cases hm
  have FR := Lib.hid fr
  clear fr
  have m1 : ((w.alloc (.cells #[.float .f32 p, .float .f32 q, .float .f32 r] 40)).alloc (.cells #[.float .f32 0, .float .f32 0, .float .f32 0] 40)).cell? ⟨b, o + 1, none⟩ = some (.int .i64 h.k) := (A.out.below FR.out.bel).c1
  clear k1
  go_enter Try.func145, Try.ntmps145
  go_wp2_with fail
  clear m1
  change (Code.region _ _ _).wp _ _ _ ((w.alloc (.cells #[.float .f32 p, .float .f32 q, .float .f32 r] 40)).alloc (.cells #[.float .f32 0, .float .f32 0, .float .f32 0] 40))
  generalize ((w.alloc (.cells #[.float .f32 p, .float .f32 q, .float .f32 r] 40)).alloc (.cells #[.float .f32 0, .float .f32 0, .float .f32 0] 40)) = W at *
  refine Reg2.wp_region_mix (C := Frm w [(w.heap.size, [.float .f32 p, .float .f32 q, .float .f32 r])] (w.heap.size + 1)) (G := fun w1 w2 => TV (w.heap.size + 1) (subC F (alongC c F)) w1 → TV (w.heap.size + 1) (subC F (alongC c F)) w2) (R := fun i v w' => match i with | 0 => v = .agg #[.float .f32 p, .float .f32 q, .float .f32 r] | 1 => v = .pointer (some ⟨b, o, none⟩) | 2 => v = .agg #[.float .f32 p, .float .f32 q, .float .f32 r] | 3 => ∃ p q r, v = vv p q r ∧ F3 p q r (alongC c F) | 4 => ∃ p q r, v = vv p q r ∧ F3 p q r (subC F (alongC c F)) | _ => True) (T := fun _ w' => TV (w.heap.size + 1) (subC F (alongC c F)) w') [false, false, false, false, false, false, false, false, false, false, false, false, false, false, false, false, true, true, true, true, true, false]
    (by kernel_rfl) (by kernel_rfl) (by kernel_rfl) (fun _ _ _ _ _ _ h => h) (fun _ _ _ _ hG hT => hG hT) (Frm.drewN FR.out 1) ?_ ?_
  · refine ⟨Reg2.Obl.mk ?_, Reg2.Obl.mk ?_, Reg2.Obl.mk ?_, Reg2.Obl.mk ?_, Reg2.Obl.mk ?_, Reg2.Obl.mk ?_, trivial⟩
    · rintro a w1 hC hx hd K hK
      have HC := Lib.hid hC
      clear hC
      have z0 := (HC.out.mem (.head _)) 0 _ rfl
      have z1 := (HC.out.mem (.head _)) 1 _ rfl
      have z2 := (HC.out.mem (.head _)) 2 _ rfl
      have t3 : a.tmps[3]?.getD undef = .pointer (some ⟨w.heap.size, 0, none⟩) := Reg.slot_val (hx 3 (by kernel_rfl))
      go_simp
      exact hK _ _ (fun _ => rfl) (fun h => by cases h) HC.out (fun h => h)
    · rintro a w1 hC hx hd K hK
      have HC := Lib.hid hC
      clear hC
      have t0 : a.tmps[0]?.getD undef = .pointer (some ⟨b, o, none⟩) := Reg.slot_val (hx 0 (by kernel_rfl))
      go_simp
      exact hK _ _ (fun _ => rfl) (fun h => by cases h) HC.out (fun h => h)
    · rintro a w1 hC hx hd K hK
      have HC := Lib.hid hC
      clear hC
      have z0 := (HC.out.mem (.head _)) 0 _ rfl
      have z1 := (HC.out.mem (.head _)) 1 _ rfl
      have z2 := (HC.out.mem (.head _)) 2 _ rfl
      have t3 : a.tmps[3]?.getD undef = .pointer (some ⟨w.heap.size, 0, none⟩) := Reg.slot_val (hx 3 (by kernel_rfl))
      go_simp
      exact hK _ _ (fun _ => rfl) (fun h => by cases h) HC.out (fun h => h)
    · rintro a w1 hC hx hd K hK
      have HC := Lib.hid hC
      clear hC
      have t17 : a.tmps[17]?.getD undef = .pointer (some ⟨b, o, none⟩) := Reg.slot_val (hd 1 (by kernel_rfl) 17 rfl)
      have t18 : a.tmps[18]?.getD undef = .agg #[.float .f32 p, .float .f32 q, .float .f32 r] := Reg.slot_val (hd 2 (by kernel_rfl) 18 rfl)
      go_simp
      refine (l04Along b o h c p q r F _ (A.out.below HC.out.bel) I.out FF.out).mono ?_
      rintro en w2 ⟨p', q', r', rfl, hF, hB2⟩
      exact hK _ _ (fun _ => ⟨p', q', r', rfl, hF⟩) (fun h => by cases h) (HC.out.call hB2) (TV.call hB2)
    · rintro a w1 hC hx hd K hK
      have HC := Lib.hid hC
      clear hC
      have t16 : a.tmps[16]?.getD undef = .agg #[.float .f32 p, .float .f32 q, .float .f32 r] := Reg.slot_val (hd 0 (by kernel_rfl) 16 rfl)
      obtain ⟨p19, q19, r19, g19, f19⟩ := hd 3 (by kernel_rfl) 19 rfl
      have t19 := Reg.slot_val g19
      clear g19
      go_simp
      refine (l01Less _ _ _ _ _ _ _ _ _ _ _ _ _ FF.out.1 FF.out.2.1 FF.out.2.2 f19.1 f19.2.1 f19.2.2).mono ?_
      rintro en w2 ⟨p', q', r', rfl, fp', fq', fr', hB2⟩
      exact hK _ _ (fun _ => ⟨p', q', r', rfl, fp', fq', fr'⟩) (fun h => by cases h) (HC.out.call hB2) (TV.call hB2)
    · rintro a w1 hC hx hd K hK
      have HC := Lib.hid hC
      clear hC
      have t4 : a.tmps[4]?.getD undef = .pointer (some ⟨w.heap.size + 1, 0, none⟩) := Reg.slot_val (hx 4 (by kernel_rfl))
      obtain ⟨p20, q20, r20, g20, f20⟩ := hd 4 (by kernel_rfl) 20 rfl
      have t20 := Reg.slot_val g20
      clear g20
      obtain ⟨u0, u1, u2, x0, x1, x2⟩ := HC.out.cells
      have k0 := HC.out.free 0
      have k1 := HC.out.free 1
      have k2 := HC.out.free 2
      go_simp
      exact hK undef _ (fun h => absurd rfl h) (fun _ => TV.put HC.out f20) (HC.out.put _ _ _) (fun _ => TV.put HC.out f20)
  rintro f w1 hC hd hT
  obtain ⟨x, y, z, ⟨x0, x1, x2⟩, hf⟩ := hT 5 rfl (by decide)
  simp only [Reg.mixL]
  have HC := Lib.hid hC
  clear hC hd hT
  go_wp2
  refine bodyPost_ret (v := vv x y z) (by simp [results, Try.results145, go_sem, x0, x1, x2]) rfl ⟨x, y, z, rfl, hf, HC.out.bel⟩
set_option maxHeartbeats 1000000 in
theorem l04Force_0 (b o : Nat) (h : HW) (c : HC) (p q r : Nat) (F : C3) (w : World) (a : h.At w b o) (i : h.Is c) (f : F3 p q r F) (hk1 : h.k ≠ 1) (hk2 : h.k ≠ 2) :
    Calls Try.prog 145 #[.pointer (some ⟨b, o, none⟩), vv p q r] w fun e w' => ∃ x y z, e = .returned (vv x y z) ∧ F3 x y z ((some 0, some 0, some 0)) ∧ Below w.heap.size w w' := by
  have u := Try.underlying27
  have uh := Try.underlying119
  have uv := Try.underlying40
  have ui := Try.underlying2
  have e1 : (h.k == 1) = false := beq_eq_false_iff_ne.2 hk1
  have e2 : (h.k == 2) = false := beq_eq_false_iff_ne.2 hk2
  clear hk1 hk2
  have k1 := a.c1
  have A := Lib.hid a
  clear a
  have I := Lib.hid i
  have FF := Lib.hid f
  clear i f
  have fr : Frm w [(w.heap.size, [.float .f32 p, .float .f32 q, .float .f32 r])] (w.heap.size + 1) ((w.alloc (.cells #[.float .f32 p, .float .f32 q, .float .f32 r] 40)).alloc (.cells #[.float .f32 0, .float .f32 0, .float .f32 0] 40)) := by
    refine ⟨((Below.refl _ _).alloc (Nat.le_refl _) _).alloc (by simp) _, ?_, by omega, ⟨.float .f32 0, .float .f32 0, .float .f32 0, by go_simp, by go_simp, by go_simp⟩, fun i => by go_simp⟩
    intro b l hm
    rcases List.mem_cons.1 hm with e | hm
    · cases e
      refine ⟨?_, by omega⟩
      exact At.new.alloc
    · cases hm
  have FR := Lib.hid fr
  clear fr
  have m1 : ((w.alloc (.cells #[.float .f32 p, .float .f32 q, .float .f32 r] 40)).alloc (.cells #[.float .f32 0, .float .f32 0, .float .f32 0] 40)).cell? ⟨b, o + 1, none⟩ = some (.int .i64 h.k) := (A.out.below FR.out.bel).c1
  clear k1
  go_enter Try.func145, Try.ntmps145
  go_wp2
  refine bodyPost_ret (v := vv 0 0 0) (by simp [results, Try.results145, go_sem]) rfl ⟨0, 0, 0, rfl, ⟨Fk.FV.zero, Fk.FV.zero, Fk.FV.zero⟩, ?_⟩
  exact ((Below.refl _ _).alloc (Nat.le_refl _) _).alloc (by simp) _
theorem l04Force (b o : Nat) (h : HW) (c : HC) (p q r : Nat) (F : C3) (w : World) (a : h.At w b o) (i : h.Is c) (f : F3 p q r F) :
    Calls Try.prog 145 #[.pointer (some ⟨b, o, none⟩), vv p q r] w fun e w' => ∃ x y z, e = .returned (vv x y z) ∧ F3 x y z (leaveC c F) ∧ Below w.heap.size w w' := by
  unfold leaveC
  by_cases h1 : c.2.1 = 1
  · rw [if_pos h1]; exact l04Force_1 b o h c p q r F w a i f (i.2.1.trans h1)
  · rw [if_neg h1]
    by_cases h2 : c.2.1 = 2
    · rw [if_pos h2]; exact l04Force_2 b o h c p q r F w a i f (i.2.1.trans h2)
    · rw [if_neg h2]; exact l04Force_0 b o h c p q r F w a i f (fun e => h1 (i.2.1.symm.trans e)) (fun e => h2 (i.2.1.symm.trans e))
end Go.Proofs.Ytajglpkeojaelaa


/-
Marks in lists of integers: they are written where the list lies, and nowhere else. Conditions: the list's cells may be written.
-/
namespace Go.Proofs.Ytajglpkeojaelaa
open Go Fk Go.RowKit
set_option linter.unusedVariables false
set_option maxRecDepth 8000

/-- What lies outside the blocks from lo to hi is as it was; every cell is still there, and may be written if it could be. -/
structure Mark (lo hi : Nat) (w w' : World) : Prop where
  below : Below lo w w'
  above : ∀ k, hi ≤ k → k < w.heap.size → w'.heap[k]? = w.heap[k]?
  alive : ∀ n i, (∃ v, w.cell? ⟨n, i, none⟩ = some v) → ∃ v, w'.cell? ⟨n, i, none⟩ = some v
  frozen : ∀ n i, n < w.heap.size → w'.frozen? ⟨n, i, none⟩ = w.frozen? ⟨n, i, none⟩
theorem Mark.refl (lo hi : Nat) (w : World) : Mark lo hi w w := ⟨Below.refl _ _, fun _ _ _ => rfl, fun _ _ h => h, fun _ _ _ => rfl⟩
theorem Mark.trans {lo hi : Nat} {a b c : World} (h : Mark lo hi a b) (k : Mark lo hi b c) : Mark lo hi a c :=
  ⟨h.below.trans k.below, fun j h1 h2 => (k.above j h1 (Nat.lt_of_lt_of_le h2 h.below.size)).trans (h.above j h1 h2), fun n i e => k.alive n i (h.alive n i e), fun n i e => (k.frozen n i (Nat.lt_of_lt_of_le e h.below.size)).trans (h.frozen n i e)⟩
theorem Mark.set {lo hi : Nat} {w : World} {b o : Nat} {u : Value} (h1 : lo ≤ b) (h2 : b < hi) : Mark lo hi w (w.setCell ⟨b, o, none⟩ u) := by
  refine ⟨(Below.refl _ _).setCell h1 _, fun k hk _ => Below.heap_setCell _ _ _ _ (by simp; omega), fun n i ⟨v, hv⟩ => ?_, fun n i _ => by simp⟩
  by_cases h : (⟨b, o, none⟩ : Addr) = ⟨n, i, none⟩
  · rw [← h] at hv ⊢; exact ⟨_, World.cell?_setCell_same w _ u hv⟩
  · exact ⟨v, by rw [World.cell?_setCell_other _ _ _ _ h]; exact hv⟩
theorem Mark.wide {lo hi lo' hi' : Nat} {w w' : World} (h : Mark lo hi w w') (h1 : lo' ≤ lo) (h2 : hi ≤ hi') : Mark lo' hi' w w' :=
  ⟨h.below.mono h1, fun k hk e => h.above k (Nat.le_trans h2 hk) e, h.alive, h.frozen⟩
theorem Mark.alloc {lo hi : Nat} {w : World} (h : lo ≤ w.heap.size) (o : Obj) : Mark lo hi w (w.alloc o) := by
  refine ⟨(Below.refl _ _).alloc h _, fun k _ hk => Below.heap_alloc _ _ _ hk, fun n i ⟨v, hv⟩ => ⟨v, ?_⟩, fun n i hn => ?_⟩
  · rw [World.cell?_alloc_lt (h := World.block_lt_of_cell? _ _ hv)]; exact hv
  · exact World.frozen?_of_block (Below.heap_alloc _ _ _ hn)
theorem Mark.drewN {lo hi : Nat} {w : World} (n : Nat) : Mark lo hi w (w.drewN n) := ⟨below_drewN (Below.refl _ _) n, fun _ _ _ => rfl, fun _ _ h => h, fun _ _ _ => rfl⟩
theorem Mark.cell {lo hi : Nat} {w w' : World} (h : Mark lo hi w w') {b i : Nat} {v : Value} (hb : b < lo ∨ hi ≤ b) (hv : w.cell? ⟨b, i, none⟩ = some v) : w'.cell? ⟨b, i, none⟩ = some v := by
  rcases hb with hb | hb
  · rw [h.below.cell (p := ⟨b, i, none⟩) hb]; exact hv
  · rw [World.cell?_of_block (w := w) (h.above b hb (World.block_lt_of_cell? _ _ hv))]; exact hv
/-- These cells are there, in a block from lo to hi, and may be written. -/
def Own (lo hi : Nat) (w : World) (b o n : Nat) : Prop := lo ≤ b ∧ b < hi ∧ b < w.heap.size ∧ ∀ j, j < n → (∃ v, w.cell? ⟨b, o + j, none⟩ = some v) ∧ w.frozen? ⟨b, o + j, none⟩ = false
theorem Own.mark {lo hi lo' hi' : Nat} {w w' : World} {b o n : Nat} (h : Own lo hi w b o n) (k : Mark lo' hi' w w') : Own lo hi w' b o n :=
  ⟨h.1, h.2.1, Nat.lt_of_lt_of_le h.2.2.1 k.below.size, fun j hj => ⟨k.alive _ _ (h.2.2.2 j hj).1, by rw [k.frozen _ _ h.2.2.1]; exact (h.2.2.2 j hj).2⟩⟩
set_option maxHeartbeats 400000 in
theorem laws_markInt64S (lo hi b o len cap : Nat) (k0 : Nat) (w : World) (h : Own lo hi w b o len) (hk : k0 + len ≤ 9000000000000000000) :
    Calls Try.prog 51 #[.slice (some ⟨b, o, none⟩) len cap, .int .i64 k0] w fun e w' => e = .returned (.int .i64 ((k0 + len : Nat) : Int)) ∧ (∀ j, j < len → w'.cell? ⟨b, o + j, none⟩ = some (.int .i64 ((k0 + j : Nat) : Int))) ∧ (∀ n i, (n ≠ b ∨ i < o ∨ o + len ≤ i) → w'.cell? ⟨n, i, none⟩ = w.cell? ⟨n, i, none⟩) ∧ Mark lo hi w w' := by
  obtain ⟨h1, h2, h3, h4⟩ := h
  have H4 := Lib.hid h4
  have H1 := Lib.hid h1
  have H2 := Lib.hid h2
  have H3 := Lib.hid h3
  clear h1 h2 h3 h4
  go_enter Try.func51, Try.ntmps51
  go_wp2
  go_loopw [1, 5] (fun q i w' => ∃ k : Nat, k ≤ len ∧ i = .int .i64 k ∧ q = .int .i64 ((k0 + k : Nat) : Int) ∧ Aside ((∀ j, j < k → w'.cell? ⟨b, o + j, none⟩ = some (.int .i64 ((k0 + j : Nat) : Int))) ∧ (∀ n i, (n ≠ b ∨ i < o ∨ o + len ≤ i) → w'.cell? ⟨n, i, none⟩ = w.cell? ⟨n, i, none⟩) ∧ Mark lo hi w w')) (fun _ i _ => len - (intOf i).toNat)
  case atStart => exact ⟨0, Nat.zero_le _, rfl, rfl, fun j hj => absurd hj (by omega), fun _ _ _ => rfl, Mark.refl _ _ _⟩
  case round =>
    obtain ⟨k, hkl, rfl, rfl, hA⟩ := hrel
    by_cases hlt : k < len
    · obtain ⟨hdone, hother, hM⟩ := hA.out
      obtain ⟨v, hv⟩ := hM.alive _ _ (H4.out k hlt).1
      have hf : wr.frozen? ⟨b, o + k, none⟩ = false := by rw [hM.frozen _ _ H3.out]; exact (H4.out k hlt).2
      have HD := Lib.hid hdone
      have HO := Lib.hid hother
      have HM := Lib.hid hM
      have hk0 : (0 : Int) ≤ (k : Int) := by omega
      have hk1 : (k : Int) < (len : Int) := by omega
      clear hA hdone hother hM
      go_wp2
      go_roundw
      case rel =>
        refine ⟨k + 1, by omega, by go_num, by go_num, fun j hj => ?_, fun n i hn => ?_, HM.out.trans (Mark.set H1.out H2.out)⟩
        · by_cases hjk : j = k
          · subst hjk; exact World.cell?_setCell_same _ _ _ hv
          · rw [World.cell?_setCell_other _ _ _ _ (by simp <;> omega)]; exact HD.out j (by omega)
        · rw [World.cell?_setCell_other _ _ _ _ (by simp <;> omega)]; exact HO.out n i hn
      case measure => simp [intOf]; omega
    · obtain rfl : k = len := by omega
      obtain ⟨hdone, hother, hM⟩ := hA.out
      have HD := Lib.hid hdone
      have HO := Lib.hid hother
      have HM := Lib.hid hM
      clear hA hdone hother hM
      go_wp2
      go_ret
      exact ⟨rfl, HD.out, HO.out, HM.out⟩
theorem laws_heldInt64S (b o len cap : Nat) (k0 : Nat) (w : World) (h : ∀ j, j < len → w.cell? ⟨b, o + j, none⟩ = some (.int .i64 ((k0 + j : Nat) : Int))) (hk : k0 + len ≤ 9000000000000000000) :
    Calls Try.prog 52 #[.slice (some ⟨b, o, none⟩) len cap, .int .i64 k0] w fun e w' => e = .returned (.int .i64 ((k0 + len : Nat) : Int)) ∧ w' = w := by
  have H := Lib.hid h
  clear h
  go_enter Try.func52, Try.ntmps52
  go_wp2
  go_loopw [1, 5] (fun q i w' => ∃ k : Nat, k ≤ len ∧ i = .int .i64 k ∧ q = .int .i64 ((k0 + k : Nat) : Int) ∧ w' = w) (fun _ i _ => len - (intOf i).toNat)
  case atStart => exact ⟨0, Nat.zero_le _, rfl, rfl, rfl⟩
  case round =>
    obtain ⟨k, hkl, rfl, rfl, rfl⟩ := hrel
    by_cases hlt : k < len
    · have hv := H.out k hlt
      have hk0 : (0 : Int) ≤ (k : Int) := by omega
      have hk1 : (k : Int) < (len : Int) := by omega
      go_wp2
      go_roundw
      case rel => exact ⟨k + 1, by omega, by go_num, by go_num, by first | trivial | rfl⟩
      case measure => simp [intOf]; omega
    · obtain rfl : k = len := by omega
      go_wp2
      go_ret
      exact ⟨rfl, by first | rfl | trivial⟩
end Go.Proofs.Ytajglpkeojaelaa


/-
The wedge of a triangle: what the program reckons. Conditions: the triangle's places are the mesh's.
-/
import Derived.Test.YtljpjmkickkcpabNrA
import Derived.Test.YtljpjmkickkcpabInn
namespace Go.Proofs.Ytljpjmkickkcpab
open Go Fk Go.RowKit
set_option linter.unusedVariables false
set_option maxRecDepth 8000

def inn3 (a b : C3) : Option Nat := fop .add .f32 (fop .add .f32 (fop .mul .f32 a.1 b.1) (fop .mul .f32 a.2.1 b.2.1)) (fop .mul .f32 a.2.2 b.2.2)
def six : Option Nat := cls .f32 1086324736
theorem six_FV : FV .f32 1086324736 six := ⟨by decide, rfl⟩
def wedgeC (cs : List C3) (t : List Int) : Option Nat := fop .quo .f32 (inn3 (cornerC cs t 0) (crossC (cornerC cs t 1) (cornerC cs t 2))) six
set_option maxHeartbeats 1000000 in
theorem mesh_wedge (pa ta : Option Addr) (pl pc tl tc : Nat) (cs : List C3) (t : List Int) (w : World) (hp : IsVs w pa pl pc cs) (htri : triB pl t = true) :
    Calls Try.prog 63 #[.agg #[.slice pa pl pc, .slice ta tl tc], .agg #[.int .i64 (t.getD 0 0), .int .i64 (t.getD 1 0), .int .i64 (t.getD 2 0)]] w fun e w' => ∃ x, e = .returned (.float .f32 x) ∧ FV .f32 x (wedgeC cs t) ∧ Below w.heap.size w w' := by
  have u := Try.underlying27
  have ui := Try.underlying32
  have uc := Try.underlying91
  have uv := Try.underlying39
  obtain ⟨h3, hin⟩ := tri_parts htri
  obtain ⟨bp, op, rfl, hcor⟩ := corner_cell hp htri
  obtain ⟨p0, q0, s0, d00, d01, d02, f00, f01, f02⟩ := hcor 0 (by decide)
  obtain ⟨p1, q1, s1, d10, d11, d12, f10, f11, f12⟩ := hcor 1 (by decide)
  obtain ⟨p2, q2, s2, d20, d21, d22, f20, f21, f22⟩ := hcor 2 (by decide)
  have i0 := hin 0 (by decide)
  have i1 := hin 1 (by decide)
  have i2 := hin 2 (by decide)
  unfold wedgeC
  generalize cornerC cs t 0 = C0 at *
  generalize cornerC cs t 1 = C1 at *
  generalize cornerC cs t 2 = C2 at *
  generalize t.getD 0 0 = j0 at *
  generalize t.getD 1 0 = j1 at *
  generalize t.getD 2 0 = j2 at *
  obtain ⟨i0, i0'⟩ := i0
  obtain ⟨i1, i1'⟩ := i1
  obtain ⟨i2, i2'⟩ := i2
  have m0 : j0 < (pl : Int) := by omega
  have m1 : j1 < (pl : Int) := by omega
  have m2 : j2 < (pl : Int) := by omega
  have D0 := Lib.hid (And.intro d00 (And.intro d01 d02))
  have D1 := Lib.hid (And.intro d10 (And.intro d11 d12))
  have D2 := Lib.hid (And.intro d20 (And.intro d21 d22))
  have F0 := Lib.hid (And.intro f00 (And.intro f01 f02))
  have F1 := Lib.hid (And.intro f10 (And.intro f11 f12))
  have F2 := Lib.hid (And.intro f20 (And.intro f21 f22))
  clear d00 d01 d02 d10 d11 d12 d20 d21 d22 f00 f01 f02 f10 f11 f12 f20 f21 f22 hcor hin htri hp h3 i0' i1' i2'
  have B0 : Hid (Below w.heap.size w ((w.alloc (.cells #[.slice (some ⟨bp, op, none⟩) pl pc, .slice ta tl tc] 32)).alloc (.cells #[.int .i64 j0, .int .i64 j1, .int .i64 j2] 91))) := Lib.hid (((Below.refl _ _).alloc (Nat.le_refl _) _).alloc (by simp) _)
  have M0 : Hid (((w.alloc (.cells #[.slice (some ⟨bp, op, none⟩) pl pc, .slice ta tl tc] 32)).alloc (.cells #[.int .i64 j0, .int .i64 j1, .int .i64 j2] 91)).cell? ⟨w.heap.size, 0, none⟩ = some (.slice (some ⟨bp, op, none⟩) pl pc)) := Lib.hid (by go_simp)
  have K0 : Hid (((w.alloc (.cells #[.slice (some ⟨bp, op, none⟩) pl pc, .slice ta tl tc] 32)).alloc (.cells #[.int .i64 j0, .int .i64 j1, .int .i64 j2] 91)).cell? ⟨w.heap.size + 1, 0, none⟩ = some (.int .i64 j0) ∧ ((w.alloc (.cells #[.slice (some ⟨bp, op, none⟩) pl pc, .slice ta tl tc] 32)).alloc (.cells #[.int .i64 j0, .int .i64 j1, .int .i64 j2] 91)).cell? ⟨w.heap.size + 1, 1, none⟩ = some (.int .i64 j1) ∧ ((w.alloc (.cells #[.slice (some ⟨bp, op, none⟩) pl pc, .slice ta tl tc] 32)).alloc (.cells #[.int .i64 j0, .int .i64 j1, .int .i64 j2] 91)).cell? ⟨w.heap.size + 1, 2, none⟩ = some (.int .i64 j2)) := Lib.hid ⟨by go_simp, by go_simp, by go_simp⟩
  go_enter Try.func63, Try.ntmps63
  go_wp2_with fail
  change (Code.region _ _ _).wp _ _ _ ((w.alloc (.cells #[.slice (some ⟨bp, op, none⟩) pl pc, .slice ta tl tc] 32)).alloc (.cells #[.int .i64 j0, .int .i64 j1, .int .i64 j2] 91))
  generalize ((w.alloc (.cells #[.slice (some ⟨bp, op, none⟩) pl pc, .slice ta tl tc] 32)).alloc (.cells #[.int .i64 j0, .int .i64 j1, .int .i64 j2] 91)) = W at *
  refine Reg.wp_region_mix (C := fun w' => Below W.heap.size W w') (G := fun _ _ => True) (R := fun i v w' => match i with | 0 => v = .pointer (some ⟨w.heap.size, 0, none⟩) | 1 => v = .slice (some ⟨bp, op, none⟩) pl pc | 2 => v = .pointer (some ⟨w.heap.size + 1, 0, none⟩) | 3 => v = .int .i64 j0 | 4 => v = .pointer (some ⟨bp, op + j0.toNat * 3, none⟩) | 5 => v = .agg #[.float .f32 p0, .float .f32 q0, .float .f32 s0] | 6 => v = .pointer (some ⟨w.heap.size, 0, none⟩) | 7 => v = .slice (some ⟨bp, op, none⟩) pl pc | 8 => v = .pointer (some ⟨w.heap.size + 1, 1, none⟩) | 9 => v = .int .i64 j1 | 10 => v = .pointer (some ⟨bp, op + j1.toNat * 3, none⟩) | 11 => v = .agg #[.float .f32 p1, .float .f32 q1, .float .f32 s1] | 12 => v = .pointer (some ⟨w.heap.size, 0, none⟩) | 13 => v = .slice (some ⟨bp, op, none⟩) pl pc | 14 => v = .pointer (some ⟨w.heap.size + 1, 2, none⟩) | 15 => v = .int .i64 j2 | 16 => v = .pointer (some ⟨bp, op + j2.toNat * 3, none⟩) | 17 => v = .agg #[.float .f32 p2, .float .f32 q2, .float .f32 s2] | 18 => ∃ p q r, v = vv p q r ∧ FV .f32 p (crossC C1 C2).1 ∧ FV .f32 q (crossC C1 C2).2.1 ∧ FV .f32 r (crossC C1 C2).2.2 | 19 => ∃ r, v = .float .f32 r ∧ FV .f32 r (inn3 C0 (crossC C1 C2)) | 20 => ∃ r, v = .float .f32 r ∧ FV .f32 r (fop .quo .f32 (inn3 C0 (crossC C1 C2)) six) | 21 => ∃ r, v = .float .f32 r ∧ FV .f32 r (fop .quo .f32 (inn3 C0 (crossC C1 C2)) six) | _ => True) (T := fun _ _ _ => True) [false, false, false, false, true, true, true, true, true, true, true, true, true, true, true, true, true, true, true, true, true, true, true, true, true, true]
    (by kernel_rfl) (by kernel_rfl) (by kernel_rfl) (fun _ _ _ _ _ _ h => h) (below_drewN (Below.refl _ _) 1) ?_ ?_
  · refine ⟨Reg.Obl.mk ?_, Reg.Obl.mk ?_, Reg.Obl.mk ?_, Reg.Obl.mk ?_, Reg.Obl.mk ?_, Reg.Obl.mk ?_, Reg.Obl.mk ?_, Reg.Obl.mk ?_, Reg.Obl.mk ?_, Reg.Obl.mk ?_, Reg.Obl.mk ?_, Reg.Obl.mk ?_, Reg.Obl.mk ?_, Reg.Obl.mk ?_, Reg.Obl.mk ?_, Reg.Obl.mk ?_, Reg.Obl.mk ?_, Reg.Obl.mk ?_, Reg.Obl.mk ?_, Reg.Obl.mk ?_, Reg.Obl.mk ?_, Reg.Obl.mk ?_, trivial⟩
    · rintro a w1 hC hx hd K hK
      have HC := Lib.hid hC
      clear hC
      have t2 : a.tmps[2]?.getD undef = .pointer (some ⟨w.heap.size, 0, none⟩) := Reg.slot_val (hx 2 (by kernel_rfl))
      go_simp
      exact hK _ _ (fun _ => rfl) (fun h => by cases h) HC.out trivial
    · rintro a w1 hC hx hd K hK
      have HC := Lib.hid hC
      clear hC
      have e0 := cell_below HC.out M0.out
      have t5 : a.tmps[5]?.getD undef = .pointer (some ⟨w.heap.size, 0, none⟩) := Reg.slot_val (hd 0 (by kernel_rfl) 5 rfl)
      go_simp
      exact hK _ _ (fun _ => rfl) (fun h => by cases h) HC.out trivial
    · rintro a w1 hC hx hd K hK
      have HC := Lib.hid hC
      clear hC
      have t3 : a.tmps[3]?.getD undef = .pointer (some ⟨w.heap.size + 1, 0, none⟩) := Reg.slot_val (hx 3 (by kernel_rfl))
      go_simp
      exact hK _ _ (fun _ => rfl) (fun h => by cases h) HC.out trivial
    · rintro a w1 hC hx hd K hK
      have HC := Lib.hid hC
      clear hC
      have c0 := cell_below HC.out K0.out.1
      have t7 : a.tmps[7]?.getD undef = .pointer (some ⟨w.heap.size + 1, 0, none⟩) := Reg.slot_val (hd 2 (by kernel_rfl) 7 rfl)
      go_simp
      exact hK _ _ (fun _ => rfl) (fun h => by cases h) HC.out trivial
    · rintro a w1 hC hx hd K hK
      have HC := Lib.hid hC
      clear hC
      have t6 : a.tmps[6]?.getD undef = .slice (some ⟨bp, op, none⟩) pl pc := Reg.slot_val (hd 1 (by kernel_rfl) 6 rfl)
      have t8 : a.tmps[8]?.getD undef = .int .i64 j0 := Reg.slot_val (hd 3 (by kernel_rfl) 8 rfl)
      go_simp
      exact hK _ _ (fun _ => rfl) (fun h => by cases h) HC.out trivial
    · rintro a w1 hC hx hd K hK
      have HC := Lib.hid hC
      clear hC
      have hB := B0.out.trans (HC.out.mono B0.out.size)
      have e0 := cell_below hB D0.out.1
      have e1 := cell_below hB D0.out.2.1
      have e2 := cell_below hB D0.out.2.2
      have t9 : a.tmps[9]?.getD undef = .pointer (some ⟨bp, op + j0.toNat * 3, none⟩) := Reg.slot_val (hd 4 (by kernel_rfl) 9 rfl)
      go_simp
      exact hK _ _ (fun _ => rfl) (fun h => by cases h) HC.out trivial
    · rintro a w1 hC hx hd K hK
      have HC := Lib.hid hC
      clear hC
      have t2 : a.tmps[2]?.getD undef = .pointer (some ⟨w.heap.size, 0, none⟩) := Reg.slot_val (hx 2 (by kernel_rfl))
      go_simp
      exact hK _ _ (fun _ => rfl) (fun h => by cases h) HC.out trivial
    · rintro a w1 hC hx hd K hK
      have HC := Lib.hid hC
      clear hC
      have e0 := cell_below HC.out M0.out
      have t11 : a.tmps[11]?.getD undef = .pointer (some ⟨w.heap.size, 0, none⟩) := Reg.slot_val (hd 6 (by kernel_rfl) 11 rfl)
      go_simp
      exact hK _ _ (fun _ => rfl) (fun h => by cases h) HC.out trivial
    · rintro a w1 hC hx hd K hK
      have HC := Lib.hid hC
      clear hC
      have t3 : a.tmps[3]?.getD undef = .pointer (some ⟨w.heap.size + 1, 0, none⟩) := Reg.slot_val (hx 3 (by kernel_rfl))
      go_simp
      exact hK _ _ (fun _ => rfl) (fun h => by cases h) HC.out trivial
    · rintro a w1 hC hx hd K hK
      have HC := Lib.hid hC
      clear hC
      have c1 := cell_below HC.out K0.out.2.1
      have t13 : a.tmps[13]?.getD undef = .pointer (some ⟨w.heap.size + 1, 1, none⟩) := Reg.slot_val (hd 8 (by kernel_rfl) 13 rfl)
      go_simp
      exact hK _ _ (fun _ => rfl) (fun h => by cases h) HC.out trivial
    · rintro a w1 hC hx hd K hK
      have HC := Lib.hid hC
      clear hC
      have t12 : a.tmps[12]?.getD undef = .slice (some ⟨bp, op, none⟩) pl pc := Reg.slot_val (hd 7 (by kernel_rfl) 12 rfl)
      have t14 : a.tmps[14]?.getD undef = .int .i64 j1 := Reg.slot_val (hd 9 (by kernel_rfl) 14 rfl)
      go_simp
      exact hK _ _ (fun _ => rfl) (fun h => by cases h) HC.out trivial
    · rintro a w1 hC hx hd K hK
      have HC := Lib.hid hC
      clear hC
      have hB := B0.out.trans (HC.out.mono B0.out.size)
      have e0 := cell_below hB D1.out.1
      have e1 := cell_below hB D1.out.2.1
      have e2 := cell_below hB D1.out.2.2
      have t15 : a.tmps[15]?.getD undef = .pointer (some ⟨bp, op + j1.toNat * 3, none⟩) := Reg.slot_val (hd 10 (by kernel_rfl) 15 rfl)
      go_simp
      exact hK _ _ (fun _ => rfl) (fun h => by cases h) HC.out trivial
    · rintro a w1 hC hx hd K hK
      have HC := Lib.hid hC
      clear hC
      have t2 : a.tmps[2]?.getD undef = .pointer (some ⟨w.heap.size, 0, none⟩) := Reg.slot_val (hx 2 (by kernel_rfl))
      go_simp
      exact hK _ _ (fun _ => rfl) (fun h => by cases h) HC.out trivial
    · rintro a w1 hC hx hd K hK
      have HC := Lib.hid hC
      clear hC
      have e0 := cell_below HC.out M0.out
      have t17 : a.tmps[17]?.getD undef = .pointer (some ⟨w.heap.size, 0, none⟩) := Reg.slot_val (hd 12 (by kernel_rfl) 17 rfl)
      go_simp
      exact hK _ _ (fun _ => rfl) (fun h => by cases h) HC.out trivial
    · rintro a w1 hC hx hd K hK
      have HC := Lib.hid hC
      clear hC
      have t3 : a.tmps[3]?.getD undef = .pointer (some ⟨w.heap.size + 1, 0, none⟩) := Reg.slot_val (hx 3 (by kernel_rfl))
      go_simp
      exact hK _ _ (fun _ => rfl) (fun h => by cases h) HC.out trivial
    · rintro a w1 hC hx hd K hK
      have HC := Lib.hid hC
      clear hC
      have c2 := cell_below HC.out K0.out.2.2
      have t19 : a.tmps[19]?.getD undef = .pointer (some ⟨w.heap.size + 1, 2, none⟩) := Reg.slot_val (hd 14 (by kernel_rfl) 19 rfl)
      go_simp
      exact hK _ _ (fun _ => rfl) (fun h => by cases h) HC.out trivial
    · rintro a w1 hC hx hd K hK
      have HC := Lib.hid hC
      clear hC
      have t18 : a.tmps[18]?.getD undef = .slice (some ⟨bp, op, none⟩) pl pc := Reg.slot_val (hd 13 (by kernel_rfl) 18 rfl)
      have t20 : a.tmps[20]?.getD undef = .int .i64 j2 := Reg.slot_val (hd 15 (by kernel_rfl) 20 rfl)
      go_simp
      exact hK _ _ (fun _ => rfl) (fun h => by cases h) HC.out trivial
    · rintro a w1 hC hx hd K hK
      have HC := Lib.hid hC
      clear hC
      have hB := B0.out.trans (HC.out.mono B0.out.size)
      have e0 := cell_below hB D2.out.1
      have e1 := cell_below hB D2.out.2.1
      have e2 := cell_below hB D2.out.2.2
      have t21 : a.tmps[21]?.getD undef = .pointer (some ⟨bp, op + j2.toNat * 3, none⟩) := Reg.slot_val (hd 16 (by kernel_rfl) 21 rfl)
      go_simp
      exact hK _ _ (fun _ => rfl) (fun h => by cases h) HC.out trivial
    · rintro a w1 hC hx hd K hK
      have HC := Lib.hid hC
      clear hC
      have t16 : a.tmps[16]?.getD undef = .agg #[.float .f32 p1, .float .f32 q1, .float .f32 s1] := Reg.slot_val (hd 11 (by kernel_rfl) 16 rfl)
      have t22 : a.tmps[22]?.getD undef = .agg #[.float .f32 p2, .float .f32 q2, .float .f32 s2] := Reg.slot_val (hd 17 (by kernel_rfl) 22 rfl)
      go_simp
      refine (impl_CrossOf _ _ _ _ _ _ _ _ _ _ _ _ _ F1.out.1 F1.out.2.1 F1.out.2.2 F2.out.1 F2.out.2.1 F2.out.2.2).mono ?_
      rintro en w2 ⟨p', q', r', rfl, fp', fq', fr', hB2⟩
      exact hK _ _ (fun _ => ⟨p', q', r', rfl, fp', fq', fr'⟩) (fun h => by cases h) (HC.out.trans (hB2.mono HC.out.size)) trivial
    · rintro a w1 hC hx hd K hK
      have HC := Lib.hid hC
      clear hC
      have t10 : a.tmps[10]?.getD undef = .agg #[.float .f32 p0, .float .f32 q0, .float .f32 s0] := Reg.slot_val (hd 5 (by kernel_rfl) 10 rfl)
      obtain ⟨p23, q23, r23, g23, fa23, fb23, fc23⟩ := hd 18 (by kernel_rfl) 23 rfl
      have t23 := Reg.slot_val g23
      clear g23
      go_simp
      refine (impl_InnerOf _ _ _ _ _ _ _ _ _ _ _ _ _ F0.out.1 F0.out.2.1 F0.out.2.2 fa23 fb23 fc23).mono ?_
      rintro en w2 ⟨r, rfl, hr, hB2⟩
      exact hK _ _ (fun _ => ⟨r, rfl, hr⟩) (fun h => by cases h) (HC.out.trans (hB2.mono HC.out.size)) trivial
    · rintro a w1 hC hx hd K hK
      have HC := Lib.hid hC
      clear hC
      obtain ⟨r24, g24, f24⟩ := hd 19 (by kernel_rfl) 24 rfl
      have t24 := Reg.slot_val g24
      clear g24
      go_simp
      exact hK _ _ (fun _ => ⟨_, rfl, FV_fR f24 six_FV⟩) (fun h => by cases h) (below_drewN HC.out _) trivial
    · rintro a w1 hC hx hd K hK
      have HC := Lib.hid hC
      clear hC
      obtain ⟨r25, g25, f25⟩ := hd 20 (by kernel_rfl) 25 rfl
      have t25 := Reg.slot_val g25
      clear g25
      go_simp
      exact hK _ _ (fun _ => ⟨_, rfl, f25⟩) (fun h => by cases h) HC.out trivial
  rintro f w1 hC hd hT
  obtain ⟨x, g4, hx⟩ := hd 21 4 rfl
  simp only [Reg.mixL, g4]
  have HB := Lib.hid (B0.out.trans (hC.mono B0.out.size))
  clear hC hd hT g4
  go_wp2
  go_ret
  exact ⟨_, rfl, hx, HB.out⟩
end Go.Proofs.Ytljpjmkickkcpab


/-
The volume of a mesh: what the model returns. Conditions: none.
-/
import Derived.Test.YtljpjmkickkcpabVoD
import Derived.Test.YtljpjmkickkcpabNrD
namespace Go.Proofs.Ytljpjmkickkcpab
open Go Fk Go.RowKit
set_option linter.unusedVariables false
set_option maxRecDepth 8000

theorem sumVol_snoc (cs : List C3) (ts : List (List Int)) (k : Nat) (hk : k < ts.length) : sumVol cs (ts.take (k + 1)) = fop .add .f32 (sumVol cs (ts.take k)) (wedgeC cs (ts.getD k [])) := by
  rw [List.take_succ_eq_append_getElem hk]
  unfold sumVol
  rw [List.foldl_append]
  simp [List.getD, hk]
set_option maxHeartbeats 2000000 in
theorem l04Volume (pb : Nat) (pa ta : Option Addr) (pl pc tl tc : Nat) (cs : List C3) (ts : List (List Int)) (w : World) (c0' : w.cell? ⟨pb, 0, none⟩ = some (.slice pa pl pc)) (c1' : w.cell? ⟨pb, 1, none⟩ = some (.slice ta tl tc)) (hp : IsVs w pa pl pc cs) (ht : IsTs w ta tl tc ts) (hv : validB cs ts = true) :
    Calls Try.prog 57 #[.pointer (some ⟨pb, 0, none⟩)] w fun e w' => ∃ r, e = .returned (.float .f32 r) ∧ FV .f32 r (sumVol cs ts) ∧ Below w.heap.size w w' := by
  have ui := Try.underlying32
  have u := Try.underlying27
  have uv := Try.underlying39
  have hlen : tl ≤ 128 := by have := valid_len' hv; have := ht.1; omega
  have htl := ht.1
  have HP := Lib.hid hp
  have HT := Lib.hid ht
  have HV := Lib.hid hv
  have HTL := Lib.hid htl
  have C0 := Lib.hid c0'
  have C1 := Lib.hid c1'
  clear hp ht hv htl
  go_enter Try.func57, Try.ntmps57
  go_wp2
  go_loopw [3, 4] (fun s i w' => ∃ k : Nat, k ≤ tl ∧ i = .int .i64 k ∧ (∃ r, s = .float .f32 r ∧ FV .f32 r (sumVol cs (ts.take k))) ∧ Aside (Below w.heap.size w w')) (fun _ i _ => tl - (intOf i).toNat)
  case atStart => exact ⟨0, Nat.zero_le _, rfl, ⟨0, rfl, FV_zero⟩, Below.refl _ _⟩
  case round =>
    obtain ⟨k, hk, rfl, ⟨r, rfl, hr⟩, hA⟩ := hrel
    have kb0 := cell_below hA.out C0.out
    have kb1 := cell_below hA.out C1.out
    clear c0' c1'
    have HA := Lib.hid hA.out
    clear hA
    by_cases hlt : k < tl
    · have hsn := Lib.hid (sumVol_snoc cs ts k (by rw [HTL.out]; exact hlt))
      have htri := valid_row HV.out (k := k) (by rw [HTL.out]; exact hlt)
      rw [HP.out.1] at htri
      obtain ⟨bt, ot, rfl, hrow⟩ := HT.out.some (by omega)
      obtain ⟨r1, n1, q1, cr, ir⟩ := hrow k hlt
      obtain ⟨h3, hin⟩ := tri_parts htri
      have hn1 : n1 = 3 := ir.1.symm.trans h3
      subst hn1
      obtain ⟨br, or, rfl, hz⟩ := ir.some (by decide)
      obtain ⟨bp, op, rfl, hcor⟩ := corner_cell HP.out htri
      obtain ⟨p0, q0, s0, d00, d01, d02, f00, f01, f02⟩ := hcor 0 (by decide)
      obtain ⟨p1, qq1, s1, d10, d11, d12, f10, f11, f12⟩ := hcor 1 (by decide)
      obtain ⟨p2, q2, s2, d20, d21, d22, f20, f21, f22⟩ := hcor 2 (by decide)
      have z0 := hz 0 (by decide)
      have z1 := hz 1 (by decide)
      have z2 := hz 2 (by decide)
      rw [Nat.add_zero] at z0
      have i0 := hin 0 (by decide)
      have i1 := hin 1 (by decide)
      have i2 := hin 2 (by decide)
      have hk0 : (0 : Int) ≤ (k : Int) := by omega
      have hk1 : (k : Int) < (tl : Int) := by omega
      have hcw : wedgeC cs (ts.getD k []) = fop .quo .f32 (inn3 (cornerC cs (ts.getD k []) 0) (crossC (cornerC cs (ts.getD k []) 1) (cornerC cs (ts.getD k []) 2))) six := rfl
      rw [hcw] at hsn
      generalize cornerC cs (ts.getD k []) 0 = K0 at *
      generalize cornerC cs (ts.getD k []) 1 = K1 at *
      generalize cornerC cs (ts.getD k []) 2 = K2 at *
      generalize (ts.getD k []).getD 0 0 = j0 at *
      generalize (ts.getD k []).getD 1 0 = j1 at *
      generalize (ts.getD k []).getD 2 0 = j2 at *
      obtain ⟨i0, i0'⟩ := i0
      obtain ⟨i1, i1'⟩ := i1
      obtain ⟨i2, i2'⟩ := i2
      have m0 : j0 < (pl : Int) := by omega
      have m1 : j1 < (pl : Int) := by omega
      have m2 : j2 < (pl : Int) := by omega
      replace cr := cell_below HA.out cr
      have Z := Lib.hid (And.intro z0 (And.intro z1 z2))
      have D0 := Lib.hid (And.intro d00 (And.intro d01 d02))
      have D1 := Lib.hid (And.intro d10 (And.intro d11 d12))
      have D2 := Lib.hid (And.intro d20 (And.intro d21 d22))
      have F0 := Lib.hid (And.intro f00 (And.intro f01 f02))
      have F1 := Lib.hid (And.intro f10 (And.intro f11 f12))
      have F2 := Lib.hid (And.intro f20 (And.intro f21 f22))
      have HR := Lib.hid hr
      clear z0 z1 z2 d00 d01 d02 d10 d11 d12 d20 d21 d22 f00 f01 f02 f10 f11 f12 f20 f21 f22 hcor hin htri h3 i0' i1' i2' hz hrow ir hr hcw
      go_wp2_with fail
      refine Reg.wp_region_mix (C := fun w' => Below wr.heap.size wr w') (G := fun _ _ => True) (R := fun i v w' => match i with | 0 => v = .float .f32 r | 1 => v = .pointer (some ⟨pb, 0, none⟩) | 2 => v = .pointer (some ⟨pb, 0, none⟩) | 3 => v = .pointer (some ⟨pb, 0, none⟩) | 4 => v = .slice (some ⟨bp, op, none⟩) pl pc | 5 => v = .slice (some ⟨br, or, none⟩) 3 q1 | 6 => v = .pointer (some ⟨br, or, none⟩) | 7 => v = .int .i64 j0 | 8 => v = .pointer (some ⟨bp, op + j0.toNat * 3, none⟩) | 9 => v = .agg #[.float .f32 p0, .float .f32 q0, .float .f32 s0] | 10 => v = .pointer (some ⟨pb, 0, none⟩) | 11 => v = .pointer (some ⟨pb, 0, none⟩) | 12 => v = .pointer (some ⟨pb, 0, none⟩) | 13 => v = .slice (some ⟨bp, op, none⟩) pl pc | 14 => v = .slice (some ⟨br, or, none⟩) 3 q1 | 15 => v = .pointer (some ⟨br, or + 1, none⟩) | 16 => v = .int .i64 j1 | 17 => v = .pointer (some ⟨bp, op + j1.toNat * 3, none⟩) | 18 => v = .agg #[.float .f32 p1, .float .f32 qq1, .float .f32 s1] | 19 => v = .pointer (some ⟨pb, 0, none⟩) | 20 => v = .pointer (some ⟨pb, 0, none⟩) | 21 => v = .pointer (some ⟨pb, 0, none⟩) | 22 => v = .slice (some ⟨bp, op, none⟩) pl pc | 23 => v = .slice (some ⟨br, or, none⟩) 3 q1 | 24 => v = .pointer (some ⟨br, or + 2, none⟩) | 25 => v = .int .i64 j2 | 26 => v = .pointer (some ⟨bp, op + j2.toNat * 3, none⟩) | 27 => v = .agg #[.float .f32 p2, .float .f32 q2, .float .f32 s2] | 28 => ∃ p q r, v = vv p q r ∧ FV .f32 p (crossC K1 K2).1 ∧ FV .f32 q (crossC K1 K2).2.1 ∧ FV .f32 r (crossC K1 K2).2.2 | 29 => ∃ r, v = .float .f32 r ∧ FV .f32 r (inn3 K0 (crossC K1 K2)) | 30 => ∃ r, v = .float .f32 r ∧ FV .f32 r (fop .quo .f32 (inn3 K0 (crossC K1 K2)) six) | 31 => ∃ r, v = .float .f32 r ∧ FV .f32 r (fop .add .f32 (sumVol cs (ts.take k)) (fop .quo .f32 (inn3 K0 (crossC K1 K2)) six)) | 32 => ∃ r, v = .float .f32 r ∧ FV .f32 r (fop .add .f32 (sumVol cs (ts.take k)) (fop .quo .f32 (inn3 K0 (crossC K1 K2)) six)) | _ => True) (T := fun _ _ _ => True) [false, false, false, true, false, false, false, false, false, false, false, false, false, false, false, false, false, false, false, false, false, false, true, true, true, true, true, true, true, true, true, true, true, true, true, true, true, true, true, true, true, true, true, true, true, true, true, true, true, true, true, true, true, true, false]
        (by kernel_rfl) (by kernel_rfl) (by kernel_rfl) (fun _ _ _ _ _ _ h => h) (below_drewN (Below.refl _ _) 1) ?_ ?_
      · refine ⟨Reg.Obl.mk ?_, Reg.Obl.mk ?_, Reg.Obl.mk ?_, Reg.Obl.mk ?_, Reg.Obl.mk ?_, Reg.Obl.mk ?_, Reg.Obl.mk ?_, Reg.Obl.mk ?_, Reg.Obl.mk ?_, Reg.Obl.mk ?_, Reg.Obl.mk ?_, Reg.Obl.mk ?_, Reg.Obl.mk ?_, Reg.Obl.mk ?_, Reg.Obl.mk ?_, Reg.Obl.mk ?_, Reg.Obl.mk ?_, Reg.Obl.mk ?_, Reg.Obl.mk ?_, Reg.Obl.mk ?_, Reg.Obl.mk ?_, Reg.Obl.mk ?_, Reg.Obl.mk ?_, Reg.Obl.mk ?_, Reg.Obl.mk ?_, Reg.Obl.mk ?_, Reg.Obl.mk ?_, Reg.Obl.mk ?_, Reg.Obl.mk ?_, Reg.Obl.mk ?_, Reg.Obl.mk ?_, Reg.Obl.mk ?_, Reg.Obl.mk ?_, trivial⟩
        · rintro a w1 hC hx hd K hK
          have HC := Lib.hid hC
          clear hC
          have t3 : a.tmps[3]?.getD undef = .float .f32 r := Reg.slot_val (hx 3 (by kernel_rfl))
          go_simp
          exact hK _ _ (fun _ => rfl) (fun h => by cases h) HC.out trivial
        · rintro a w1 hC hx hd K hK
          have HC := Lib.hid hC
          clear hC
          have t0 : a.tmps[0]?.getD undef = .pointer (some ⟨pb, 0, none⟩) := Reg.slot_val (hx 0 (by kernel_rfl))
          go_simp
          exact hK _ _ (fun _ => rfl) (fun h => by cases h) HC.out trivial
        · rintro a w1 hC hx hd K hK
          have HC := Lib.hid hC
          clear hC
          have t23 : a.tmps[23]?.getD undef = .pointer (some ⟨pb, 0, none⟩) := Reg.slot_val (hd 1 (by kernel_rfl) 23 rfl)
          go_simp
          exact hK _ _ (fun _ => rfl) (fun h => by cases h) HC.out trivial
        · rintro a w1 hC hx hd K hK
          have HC := Lib.hid hC
          clear hC
          have t24 : a.tmps[24]?.getD undef = .pointer (some ⟨pb, 0, none⟩) := Reg.slot_val (hd 2 (by kernel_rfl) 24 rfl)
          go_simp
          exact hK _ _ (fun _ => rfl) (fun h => by cases h) HC.out trivial
        · rintro a w1 hC hx hd K hK
          have HC := Lib.hid hC
          clear hC
          have e0 := cell_below HC.out kb0
          have t25 : a.tmps[25]?.getD undef = .pointer (some ⟨pb, 0, none⟩) := Reg.slot_val (hd 3 (by kernel_rfl) 25 rfl)
          go_simp
          exact hK _ _ (fun _ => rfl) (fun h => by cases h) HC.out trivial
        · rintro a w1 hC hx hd K hK
          have HC := Lib.hid hC
          clear hC
          have t5 : a.tmps[5]?.getD undef = .slice (some ⟨br, or, none⟩) 3 q1 := Reg.slot_val (hx 5 (by kernel_rfl))
          go_simp
          exact hK _ _ (fun _ => rfl) (fun h => by cases h) HC.out trivial
        · rintro a w1 hC hx hd K hK
          have HC := Lib.hid hC
          clear hC
          have t27 : a.tmps[27]?.getD undef = .slice (some ⟨br, or, none⟩) 3 q1 := Reg.slot_val (hd 5 (by kernel_rfl) 27 rfl)
          go_simp
          exact hK _ _ (fun _ => rfl) (fun h => by cases h) HC.out trivial
        · rintro a w1 hC hx hd K hK
          have HC := Lib.hid hC
          clear hC
          have hB := HA.out.trans (HC.out.mono HA.out.size)
          have c0 := cell_below hB Z.out.1
          have t28 : a.tmps[28]?.getD undef = .pointer (some ⟨br, or, none⟩) := Reg.slot_val (hd 6 (by kernel_rfl) 28 rfl)
          go_simp
          exact hK _ _ (fun _ => rfl) (fun h => by cases h) HC.out trivial
        · rintro a w1 hC hx hd K hK
          have HC := Lib.hid hC
          clear hC
          have t26 : a.tmps[26]?.getD undef = .slice (some ⟨bp, op, none⟩) pl pc := Reg.slot_val (hd 4 (by kernel_rfl) 26 rfl)
          have t29 : a.tmps[29]?.getD undef = .int .i64 j0 := Reg.slot_val (hd 7 (by kernel_rfl) 29 rfl)
          go_simp
          exact hK _ _ (fun _ => rfl) (fun h => by cases h) HC.out trivial
        · rintro a w1 hC hx hd K hK
          have HC := Lib.hid hC
          clear hC
          have hB := HA.out.trans (HC.out.mono HA.out.size)
          have e0 := cell_below hB D0.out.1
          have e1 := cell_below hB D0.out.2.1
          have e2 := cell_below hB D0.out.2.2
          have t30 : a.tmps[30]?.getD undef = .pointer (some ⟨bp, op + j0.toNat * 3, none⟩) := Reg.slot_val (hd 8 (by kernel_rfl) 30 rfl)
          go_simp
          exact hK _ _ (fun _ => rfl) (fun h => by cases h) HC.out trivial
        · rintro a w1 hC hx hd K hK
          have HC := Lib.hid hC
          clear hC
          have t0 : a.tmps[0]?.getD undef = .pointer (some ⟨pb, 0, none⟩) := Reg.slot_val (hx 0 (by kernel_rfl))
          go_simp
          exact hK _ _ (fun _ => rfl) (fun h => by cases h) HC.out trivial
        · rintro a w1 hC hx hd K hK
          have HC := Lib.hid hC
          clear hC
          have t32 : a.tmps[32]?.getD undef = .pointer (some ⟨pb, 0, none⟩) := Reg.slot_val (hd 10 (by kernel_rfl) 32 rfl)
          go_simp
          exact hK _ _ (fun _ => rfl) (fun h => by cases h) HC.out trivial
        · rintro a w1 hC hx hd K hK
          have HC := Lib.hid hC
          clear hC
          have t33 : a.tmps[33]?.getD undef = .pointer (some ⟨pb, 0, none⟩) := Reg.slot_val (hd 11 (by kernel_rfl) 33 rfl)
          go_simp
          exact hK _ _ (fun _ => rfl) (fun h => by cases h) HC.out trivial
        · rintro a w1 hC hx hd K hK
          have HC := Lib.hid hC
          clear hC
          have e0 := cell_below HC.out kb0
          have t34 : a.tmps[34]?.getD undef = .pointer (some ⟨pb, 0, none⟩) := Reg.slot_val (hd 12 (by kernel_rfl) 34 rfl)
          go_simp
          exact hK _ _ (fun _ => rfl) (fun h => by cases h) HC.out trivial
        · rintro a w1 hC hx hd K hK
          have HC := Lib.hid hC
          clear hC
          have t5 : a.tmps[5]?.getD undef = .slice (some ⟨br, or, none⟩) 3 q1 := Reg.slot_val (hx 5 (by kernel_rfl))
          go_simp
          exact hK _ _ (fun _ => rfl) (fun h => by cases h) HC.out trivial
        · rintro a w1 hC hx hd K hK
          have HC := Lib.hid hC
          clear hC
          have t36 : a.tmps[36]?.getD undef = .slice (some ⟨br, or, none⟩) 3 q1 := Reg.slot_val (hd 14 (by kernel_rfl) 36 rfl)
          go_simp
          exact hK _ _ (fun _ => rfl) (fun h => by cases h) HC.out trivial
        · rintro a w1 hC hx hd K hK
          have HC := Lib.hid hC
          clear hC
          have hB := HA.out.trans (HC.out.mono HA.out.size)
          have c1 := cell_below hB Z.out.2.1
          have t37 : a.tmps[37]?.getD undef = .pointer (some ⟨br, or + 1, none⟩) := Reg.slot_val (hd 15 (by kernel_rfl) 37 rfl)
          go_simp
          exact hK _ _ (fun _ => rfl) (fun h => by cases h) HC.out trivial
        · rintro a w1 hC hx hd K hK
          have HC := Lib.hid hC
          clear hC
          have t35 : a.tmps[35]?.getD undef = .slice (some ⟨bp, op, none⟩) pl pc := Reg.slot_val (hd 13 (by kernel_rfl) 35 rfl)
          have t38 : a.tmps[38]?.getD undef = .int .i64 j1 := Reg.slot_val (hd 16 (by kernel_rfl) 38 rfl)
          go_simp
          exact hK _ _ (fun _ => rfl) (fun h => by cases h) HC.out trivial
        · rintro a w1 hC hx hd K hK
          have HC := Lib.hid hC
          clear hC
          have hB := HA.out.trans (HC.out.mono HA.out.size)
          have e0 := cell_below hB D1.out.1
          have e1 := cell_below hB D1.out.2.1
          have e2 := cell_below hB D1.out.2.2
          have t39 : a.tmps[39]?.getD undef = .pointer (some ⟨bp, op + j1.toNat * 3, none⟩) := Reg.slot_val (hd 17 (by kernel_rfl) 39 rfl)
          go_simp
          exact hK _ _ (fun _ => rfl) (fun h => by cases h) HC.out trivial
        · rintro a w1 hC hx hd K hK
          have HC := Lib.hid hC
          clear hC
          have t0 : a.tmps[0]?.getD undef = .pointer (some ⟨pb, 0, none⟩) := Reg.slot_val (hx 0 (by kernel_rfl))
          go_simp
          exact hK _ _ (fun _ => rfl) (fun h => by cases h) HC.out trivial
        · rintro a w1 hC hx hd K hK
          have HC := Lib.hid hC
          clear hC
          have t41 : a.tmps[41]?.getD undef = .pointer (some ⟨pb, 0, none⟩) := Reg.slot_val (hd 19 (by kernel_rfl) 41 rfl)
          go_simp
          exact hK _ _ (fun _ => rfl) (fun h => by cases h) HC.out trivial
        · rintro a w1 hC hx hd K hK
          have HC := Lib.hid hC
          clear hC
          have t42 : a.tmps[42]?.getD undef = .pointer (some ⟨pb, 0, none⟩) := Reg.slot_val (hd 20 (by kernel_rfl) 42 rfl)
          go_simp
          exact hK _ _ (fun _ => rfl) (fun h => by cases h) HC.out trivial
        · rintro a w1 hC hx hd K hK
          have HC := Lib.hid hC
          clear hC
          have e0 := cell_below HC.out kb0
          have t43 : a.tmps[43]?.getD undef = .pointer (some ⟨pb, 0, none⟩) := Reg.slot_val (hd 21 (by kernel_rfl) 43 rfl)
          go_simp
          exact hK _ _ (fun _ => rfl) (fun h => by cases h) HC.out trivial
        · rintro a w1 hC hx hd K hK
          have HC := Lib.hid hC
          clear hC
          have t5 : a.tmps[5]?.getD undef = .slice (some ⟨br, or, none⟩) 3 q1 := Reg.slot_val (hx 5 (by kernel_rfl))
          go_simp
          exact hK _ _ (fun _ => rfl) (fun h => by cases h) HC.out trivial
        · rintro a w1 hC hx hd K hK
          have HC := Lib.hid hC
          clear hC
          have t45 : a.tmps[45]?.getD undef = .slice (some ⟨br, or, none⟩) 3 q1 := Reg.slot_val (hd 23 (by kernel_rfl) 45 rfl)
          go_simp
          exact hK _ _ (fun _ => rfl) (fun h => by cases h) HC.out trivial
        · rintro a w1 hC hx hd K hK
          have HC := Lib.hid hC
          clear hC
          have hB := HA.out.trans (HC.out.mono HA.out.size)
          have c2 := cell_below hB Z.out.2.2
          have t46 : a.tmps[46]?.getD undef = .pointer (some ⟨br, or + 2, none⟩) := Reg.slot_val (hd 24 (by kernel_rfl) 46 rfl)
          go_simp
          exact hK _ _ (fun _ => rfl) (fun h => by cases h) HC.out trivial
        · rintro a w1 hC hx hd K hK
          have HC := Lib.hid hC
          clear hC
          have t44 : a.tmps[44]?.getD undef = .slice (some ⟨bp, op, none⟩) pl pc := Reg.slot_val (hd 22 (by kernel_rfl) 44 rfl)
          have t47 : a.tmps[47]?.getD undef = .int .i64 j2 := Reg.slot_val (hd 25 (by kernel_rfl) 47 rfl)
          go_simp
          exact hK _ _ (fun _ => rfl) (fun h => by cases h) HC.out trivial
        · rintro a w1 hC hx hd K hK
          have HC := Lib.hid hC
          clear hC
          have hB := HA.out.trans (HC.out.mono HA.out.size)
          have e0 := cell_below hB D2.out.1
          have e1 := cell_below hB D2.out.2.1
          have e2 := cell_below hB D2.out.2.2
          have t48 : a.tmps[48]?.getD undef = .pointer (some ⟨bp, op + j2.toNat * 3, none⟩) := Reg.slot_val (hd 26 (by kernel_rfl) 48 rfl)
          go_simp
          exact hK _ _ (fun _ => rfl) (fun h => by cases h) HC.out trivial
        · rintro a w1 hC hx hd K hK
          have HC := Lib.hid hC
          clear hC
          have t40 : a.tmps[40]?.getD undef = .agg #[.float .f32 p1, .float .f32 qq1, .float .f32 s1] := Reg.slot_val (hd 18 (by kernel_rfl) 40 rfl)
          have t49 : a.tmps[49]?.getD undef = .agg #[.float .f32 p2, .float .f32 q2, .float .f32 s2] := Reg.slot_val (hd 27 (by kernel_rfl) 49 rfl)
          go_simp
          refine (l01Cross _ _ _ _ _ _ _ _ _ _ _ _ _ F1.out.1 F1.out.2.1 F1.out.2.2 F2.out.1 F2.out.2.1 F2.out.2.2).mono ?_
          rintro en w2 ⟨p', q', r', rfl, fp', fq', fr', hB2⟩
          exact hK _ _ (fun _ => ⟨p', q', r', rfl, fp', fq', fr'⟩) (fun h => by cases h) (HC.out.trans (hB2.mono HC.out.size)) trivial
        · rintro a w1 hC hx hd K hK
          have HC := Lib.hid hC
          clear hC
          have t31 : a.tmps[31]?.getD undef = .agg #[.float .f32 p0, .float .f32 q0, .float .f32 s0] := Reg.slot_val (hd 9 (by kernel_rfl) 31 rfl)
          obtain ⟨p50, q50, r50, g50, fa50, fb50, fc50⟩ := hd 28 (by kernel_rfl) 50 rfl
          have t50 := Reg.slot_val g50
          clear g50
          go_simp
          refine (l01Inner _ _ _ _ _ _ _ _ _ _ _ _ _ F0.out.1 F0.out.2.1 F0.out.2.2 fa50 fb50 fc50).mono ?_
          rintro en w2 ⟨r, rfl, hr, hB2⟩
          exact hK _ _ (fun _ => ⟨r, rfl, hr⟩) (fun h => by cases h) (HC.out.trans (hB2.mono HC.out.size)) trivial
        · rintro a w1 hC hx hd K hK
          have HC := Lib.hid hC
          clear hC
          obtain ⟨r51, g51, f51⟩ := hd 29 (by kernel_rfl) 51 rfl
          have t51 := Reg.slot_val g51
          clear g51
          go_simp
          exact hK _ _ (fun _ => ⟨_, rfl, FV_fR f51 six_FV⟩) (fun h => by cases h) (below_drewN HC.out _) trivial
        · rintro a w1 hC hx hd K hK
          have HC := Lib.hid hC
          clear hC
          have t22 : a.tmps[22]?.getD undef = .float .f32 r := Reg.slot_val (hd 0 (by kernel_rfl) 22 rfl)
          obtain ⟨r52, g52, f52⟩ := hd 30 (by kernel_rfl) 52 rfl
          have t52 := Reg.slot_val g52
          clear g52
          go_simp
          exact hK _ _ (fun _ => ⟨_, rfl, FV_fR HR.out f52⟩) (fun h => by cases h) (below_drewN HC.out _) trivial
        · rintro a w1 hC hx hd K hK
          have HC := Lib.hid hC
          clear hC
          obtain ⟨r53, g53, f53⟩ := hd 31 (by kernel_rfl) 53 rfl
          have t53 := Reg.slot_val g53
          clear g53
          go_simp
          exact hK _ _ (fun _ => ⟨_, rfl, f53⟩) (fun h => by cases h) HC.out trivial
      · rintro f w1 hC hd hT
        obtain ⟨x, g3, hx⟩ := hd 32 3 rfl
        simp only [Reg.mixL, g3]
        have HB := Lib.hid (HA.out.trans (hC.mono HA.out.size))
        have HX := Lib.hid hx
        clear hC hd hT g3 hx
        go_wp2
        go_roundw
        case rel => exact ⟨k + 1, by omega, by go_num, ⟨x, rfl, by rw [hsn.out]; exact HX.out⟩, HB.out⟩
        case measure => simp [intOf]; omega
    · have hkt : ts.take k = ts := List.take_of_length_le (by rw [HTL.out]; omega)
      rw [hkt] at hr
      go_wp2
      go_ret
      exact ⟨_, rfl, hr, HA.out⟩
theorem spec_VolumeOf_all (pa ta : Option Addr) (pl pc tl tc : Nat) (cs : List C3) (ts : List (List Int)) (w : World) (hp : IsVs w pa pl pc cs) (ht : IsTs w ta tl tc ts) :
    Calls Try.prog 15 #[.agg #[.slice pa pl pc, .slice ta tl tc]] w fun e w' => ∃ r, e = .returned (.tuple #[.float .f32 r, .bool (validB cs ts)]) ∧ FV .f32 r (bif validB cs ts then sumVol cs ts else some 0) ∧ Below w.heap.size w w' := by
  have ui := Try.underlying32
  have u := Try.underlying27
  have hB0 : Below w.heap.size w (w.alloc (.cells #[.slice pa pl pc, .slice ta tl tc] 32)) := (Below.refl _ _).alloc (Nat.le_refl _) _
  have kb1 : (w.alloc (.cells #[.slice pa pl pc, .slice ta tl tc] 32)).cell? ⟨w.heap.size, 1, none⟩ = some (.slice ta tl tc) := by go_simp
  have kb0 : (w.alloc (.cells #[.slice pa pl pc, .slice ta tl tc] 32)).cell? ⟨w.heap.size, 0, none⟩ = some (.slice pa pl pc) := by go_simp
  have hJ := l02IsB w.heap.size pa ta pl pc tl tc cs ts _ kb0 kb1 (hp.below hB0) (ht.below hB0)
  have HP := Lib.hid hp
  have HT := Lib.hid ht
  clear hp ht
  cases hv : validB cs ts
  · rw [hv] at hJ
    have HJ := Lib.hid hJ
    have HB0 := Lib.hid hB0
    clear hJ hv hB0
    go_enter Try.func15, Try.ntmps15
    go_wp2_with (go_at_call 56; refine HJ.out.mono ?_; rintro e w1 ⟨rfl, hB1⟩; have HB := Lib.hid (HB0.out.trans (hB1.mono HB0.out.size)); clear hB1)
    go_ret2
    exact ⟨_, rfl, FV_zero, HB.out⟩
  · rw [hv] at hJ
    have HJ := Lib.hid hJ
    have HB0 := Lib.hid hB0
    have HV := Lib.hid hv
    clear hJ hv hB0
    generalize hCH : (w.alloc (.cells #[.slice pa pl pc, .slice ta tl tc] 32)) = W at *
    go_enter Try.func15, Try.ntmps15
    go_wp2_with (first
      | (go_at_call 56; refine HJ.out.mono ?_; rintro e w1 ⟨rfl, hB1⟩; replace kb0 := cell_below hB1 kb0; replace kb1 := cell_below hB1 kb1; have HB := Lib.hid (HB0.out.trans (hB1.mono HB0.out.size)); clear hB1 HJ)
      | (go_at_call 57; refine (l04Volume w.heap.size pa ta pl pc tl tc cs ts _ kb0 kb1 (HP.out.below HB.out) (HT.out.below HB.out) HV.out).mono ?_; rintro e w2 ⟨r, rfl, hr, hB2⟩; have HB2 := Lib.hid (HB.out.trans (hB2.mono HB.out.size)); clear hB2))
    go_ret2
    exact ⟨_, rfl, hr, HB2.out⟩
theorem impl_VolumeOf_all (pa ta : Option Addr) (pl pc tl tc : Nat) (cs : List C3) (ts : List (List Int)) (w : World) (hp : IsVs w pa pl pc cs) (ht : IsTs w ta tl tc ts) :
    Calls Try.prog 17 #[.agg #[.slice pa pl pc, .slice ta tl tc]] w fun e w' => ∃ r, e = .returned (.tuple #[.float .f32 r, .bool (validB cs ts)]) ∧ FV .f32 r (bif validB cs ts then sumVol cs ts else some 0) ∧ Below w.heap.size w w' := by
  cases hv : validB cs ts
  · exact (impl_VolumeOf_no pa ta pl pc tl tc cs ts w hp ht hv).mono fun _ _ ⟨he, hb⟩ => ⟨0, he, FV_zero, hb⟩
  · exact impl_VolumeOf_yes pa ta pl pc tl tc cs ts w hp ht hv
end Go.Proofs.Ytljpjmkickkcpab

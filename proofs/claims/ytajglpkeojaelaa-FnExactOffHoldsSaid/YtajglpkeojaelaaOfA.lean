
/-
How far places are off their holds: what the program and its model return, and the law. Conditions: none beyond that the mesh and the list lie in memory.
-/
import Derived.Test.YtajglpkeojaelaaArJ
import Derived.Test.YtajglpkeojaelaaHoQ
import Derived.Test.YtajglpkeojaelaaBet
import Derived.Test.YtajglpkeojaelaaReg6
namespace Go.Proofs.Ytajglpkeojaelaa
open Go Fk Go.RowKit
set_option linter.unusedVariables false
set_option maxRecDepth 8000

/-- A new block of three zeros that may be written. -/
def Z3 (w : World) (b : Nat) : Prop := (w.cell? ⟨b, 0, none⟩ = some (.float .f32 0) ∧ w.cell? ⟨b, 1, none⟩ = some (.float .f32 0) ∧ w.cell? ⟨b, 2, none⟩ = some (.float .f32 0)) ∧ Fr w b
theorem Z3.below {W w : World} {b : Nat} (hb : Below W.heap.size W w) (h : Z3 W b) : Z3 w b := ⟨⟨cell_below hb h.1.1, cell_below hb h.1.2.1, cell_below hb h.1.2.2⟩, h.2.below hb (World.block_lt_of_cell? _ _ h.1.1)⟩
theorem Z3.new {w : World} {t : TypeId} : Z3 (w.alloc (.cells #[.float .f32 0, .float .f32 0, .float .f32 0] t)) w.heap.size := ⟨⟨new0, new1, new2⟩, Fr.new⟩
def lonH (a : C3) : Option Nat := rootC (fop .add .f32 (fop .add .f32 (fop .mul .f32 a.1 a.1) (fop .mul .f32 a.2.1 a.2.1)) (fop .mul .f32 a.2.2 a.2.2))
/-- The greater one of a number and what there is; a not-a-number is left out. -/
def overC (m d : Option Nat) : Option Nat := if ford .f32 d m == some .gt then d else m
def distC (cs : List C3) (h : HC) : Option Nat := lonH (subC (cs.getD h.1.toNat c0) (putC h (cs.getD h.1.toNat c0)))
def offF (cs : List C3) (hs : List HC) : Option Nat := hs.foldl (fun m h => overC m (distC cs h)) (some 0)
def offC (cs : List C3) (ts : List (List Int)) (hs : List HC) : Option Nat := bif areB cs ts hs then offF cs hs else some 0
theorem offF_snoc (cs : List C3) (hs : List HC) (k : Nat) (hk : k < hs.length) : offF cs (hs.take (k + 1)) = overC (offF cs (hs.take k)) (distC cs (hs.getD k hd0)) := by
  rw [List.take_succ_eq_append_getElem hk]
  unfold offF
  rw [List.foldl_append]
  simp [List.getD, hk]
theorem over_yes {x y : Nat} {m d : Option Nat} (hx : FV .f32 x d) (hy : FV .f32 y m) (h : (FloatKind.f32.format.order x y == some .gt) = true) : overC m d = d := by
  unfold overC; rw [← ford_of hx hy, if_pos h]
theorem over_no {x y : Nat} {m d : Option Nat} (hx : FV .f32 x d) (hy : FV .f32 y m) (h : (FloatKind.f32.format.order x y == some .gt) = false) : overC m d = m := by
  unfold overC; rw [← ford_of hx hy, if_neg (by rw [h]; decide)]
theorem step_parts {n : Nat} {hs : List HC} {k : Nat} (h : stepB n hs k = true) : inB n (hs.getD k hd0).1 = true := by
  unfold stepB at h; simp only [Bool.and_eq_true] at h; exact h.2.1
theorem fv0 : FV .f32 0 (some 0) := ⟨by decide, by decide⟩
set_option maxHeartbeats 4000000 in
theorem impl_OffHolds (pa ta ha : Option Addr) (pl pc tl tc hl hc : Nat) (cs : List C3) (ts : List (List Int)) (hs : List HC) (w : World) (hp : IsVs w pa pl pc cs) (ht : IsTs w ta tl tc ts) (hh : IsHs w ha hl hc hs) (hsm : hl ≤ 1048576) :
    Calls Try.prog 54 #[.agg #[.slice pa pl pc, .slice ta tl tc], .slice ha hl hc] w fun e w' => ∃ x, e = .returned (.tuple #[.float .f32 x, .bool (areB cs ts hs)]) ∧ FV .f32 x (offC cs ts hs) ∧ Below w.heap.size w w' := by
  have ui := Try.underlying38
  have uh := Try.underlying119
  have u := Try.underlying2
  have uf := Try.underlying27
  have uv := Try.underlying40
  have BX : Hid (Bx w [(w.heap.size, [.slice pa pl pc, .slice ta tl tc])] (w.alloc (.cells #[.slice pa pl pc, .slice ta tl tc] 38))) := Lib.hid ((Bx.nil w).box (vs := [.slice pa pl pc, .slice ta tl tc]) (t := 38))
  have hpl := hp.1
  have hll := hh.1
  have hm : hl ≤ 9223372036854775807 := by have h1 := hh.2.1; have h2 := hh.2.2.1; unfold maxLen at h2; omega
  have hpm : pl ≤ 9223372036854775807 := by have h1 := hp.2.1; have h2 := hp.2.2.1; unfold maxLen at h2; omega
  have JV := impl_AreHolds pa ta ha pl pc tl tc hl hc cs ts hs (w.alloc (.cells #[.slice pa pl pc, .slice ta tl tc] 38)) (hp.below BX.out.bel) (ht.below BX.out.bel) (hh.below BX.out.bel) hsm
  have HP := Lib.hid hp
  have HH := Lib.hid hh
  unfold offC
  clear hp ht hh
  cases hv : areB cs ts hs
  · rw [hv] at JV
    have JV := Lib.hid JV
    clear hv hpl
    go_enter Try.func54, Try.ntmps54
    go_wp2_with fail
    generalize (w.alloc (.cells #[.slice pa pl pc, .slice ta tl tc] 38)) = W at *
    refine JV.out.mono ?_
    rintro e w1 ⟨rfl, hB1⟩
    have BX1 := Lib.hid (BX.out.call hB1)
    clear hB1
    go_wp2
    go_ret2
    exact ⟨_, rfl, fv0, BX1.out.bel⟩
  · rw [hv] at JV
    have JV := Lib.hid JV
    have hgd : goodB pl hs = true := by unfold areB at hv; rw [hpl] at hv; simp only [Bool.and_eq_true] at hv; exact hv.2
    have HGD := Lib.hid hgd
    show Calls _ _ _ _ fun e w' => ∃ x, e = .returned (.tuple #[.float .f32 x, .bool true]) ∧ FV .f32 x (offF cs hs) ∧ Below w.heap.size w w'
    clear hv hgd hpl
    go_enter Try.func54, Try.ntmps54
    go_wp2_with fail
    generalize (w.alloc (.cells #[.slice pa pl pc, .slice ta tl tc] 38)) = W at *
    refine JV.out.mono ?_
    rintro e w1 ⟨rfl, hB1⟩
    have BX1 := Lib.hid (BX.out.call hB1)
    clear hB1
    go_wp2
    go_loopw [6, 17] (fun f i w' => ∃ k : Nat, k ≤ hl ∧ i = .int .i64 k ∧ (∃ x, f = .float .f32 x ∧ FV .f32 x (offF cs (hs.take k))) ∧ Aside (Bx w [(w.heap.size, [.slice pa pl pc, .slice ta tl tc])] w')) (fun _ i _ => hl - (intOf i).toNat)
    case atStart => exact ⟨0, Nat.zero_le _, rfl, ⟨0, rfl, fv0⟩, BX1.out⟩
    case round =>
      obtain ⟨k, hk, rfl, ⟨x, rfl, hx⟩, hA⟩ := hrel
      have BK := Lib.hid hA.out
      have HX := Lib.hid hx
      clear hA hx
      by_cases hlt : k < hl
      · obtain ⟨b, o, hha, hcell⟩ := (HH.out.below BK.out.bel).some (by omega)
        obtain ⟨h, hq, hi⟩ := hcell k hlt
        have hlk : k < hs.length := by omega
        have hk0 : (0 : Int) ≤ (k : Int) := by omega
        have hk1 : (k : Int) < (hl : Int) := by omega
        have hin := of_decide_eq_true (step_parts (good_at HGD.out hlk))
        have hpz : h.p = (hs.getD k hd0).1 := hi.1
        rw [← hpz] at hin
        obtain ⟨bp, op, hpa, hcp⟩ := HP.out.some (by omega)
        obtain ⟨p, q, r, d0, d1, d2, fp, fq, fr⟩ := hcp h.p.toNat (by omega)
        have hsn := offF_snoc cs hs k hlk
        have hcn : distC cs (hs.getD k hd0) = lonH (subC (cs.getD h.p.toNat c0) (putC (hs.getD k hd0) (cs.getD h.p.toNat c0))) := by unfold distC; rw [← hpz]
        rw [hcn] at hsn
        have HSN := Lib.hid hsn
        have HI := Lib.hid hi
        have FP : Hid (F3 p q r (cs.getD h.p.toNat c0)) := Lib.hid ⟨fp, fq, fr⟩
        generalize hPC : cs.getD h.p.toNat c0 = PC at *
        generalize hHC : hs.getD k hd0 = HCk at *
        generalize offF cs (hs.take k) = M at *
        have p0 : (0 : Int) ≤ h.p := hin.1
        have p1 : h.p < (pl : Int) := hin.2
        have QH := Lib.hid hq
        have D := Lib.hid (And.intro d0 (And.intro d1 d2))
        have HPA := Lib.hid (And.intro hha hpa)
        rw [hha, hpa]
        clear hcell hcp hin hpz hsn hcn hi hha hpa fp fq fr hPC hHC
        have c0 := QH.out 0 (by omega)
        have c1 := QH.out 1 (by omega)
        have c2 := QH.out 2 (by omega)
        have c3 := QH.out 3 (by omega)
        have c4 := QH.out 4 (by omega)
        have c5 := QH.out 5 (by omega)
        have c6 := QH.out 6 (by omega)
        have c7 := QH.out 7 (by omega)
        simp only [HW.l, List.getElem?_cons_zero, List.getElem?_cons_succ, Nat.add_zero] at c0 c1 c2 c3 c4 c5 c6 c7
        have m0 := (BK.out.mem (.head _)) 0 _ rfl
        have e0 := cell_below BK.out.bel D.out.1
        have e1 := cell_below BK.out.bel D.out.2.1
        have e2 := cell_below BK.out.bel D.out.2.2
        rw [HPA.out.2] at m0
        have lm0 := fun ob => cell_alloc (o := ob) m0
        have le0 := fun ob => cell_alloc (o := ob) e0
        have le1 := fun ob => cell_alloc (o := ob) e1
        have le2 := fun ob => cell_alloc (o := ob) e2
        have BB := (BK.out.box (vs := h.l) (t := 119)).box (vs := [.float .f32 p, .float .f32 q, .float .f32 r]) (t := 40)
        rw [World.size_alloc] at BB
        have BB := Lib.hid BB
        go_wp2_with fail
        clear c0 c1 c2 c3 c4 c5 c6 c7 m0 e0 e1 e2 lm0 le0 le1 le2
        change Hid (Bx w _ ((wr.alloc (HBox h 119)).alloc (.cells #[.float .f32 p, .float .f32 q, .float .f32 r] 40))) at BB
        change (Code.region _ _ _).wp _ _ _ ((wr.alloc (HBox h 119)).alloc (.cells #[.float .f32 p, .float .f32 q, .float .f32 r] 40))
        generalize ((wr.alloc (HBox h 119)).alloc (.cells #[.float .f32 p, .float .f32 q, .float .f32 r] 40)) = W3 at *
        generalize hPB : wr.heap.size + 1 = PBK at *
        generalize wr.heap.size = HBK at *
        refine Reg.wp_region_mix (C := fun w' => Below W3.heap.size W3 w') (G := fun _ _ => True) (R := fun i v w' => match i with | 0 => v = .agg #[.float .f32 p, .float .f32 q, .float .f32 r] | 1 => v = .agg #[.int .i64 h.p, .int .i64 h.k, .float .f32 h.x, .float .f32 h.y, .float .f32 h.z, .float .f32 h.s, .float .f32 h.t, .float .f32 h.u] | 2 => v = .agg #[.float .f32 p, .float .f32 q, .float .f32 r] | 3 => ∃ p q r, v = vv p q r ∧ F3 p q r (putC HCk PC) | 4 => ∃ p q r, v = vv p q r ∧ F3 p q r (subC PC (putC HCk PC)) | 5 => ∃ r, v = .float .f32 r ∧ FV .f32 r (lonH (subC PC (putC HCk PC))) | 6 => ∃ r, v = .float .f32 r ∧ FV .f32 r (lonH (subC PC (putC HCk PC))) | _ => True) (T := fun _ _ _ => True) [false, false, false, false, false, false, false, false, false, false, true, false, false, false, false, false, false, false, false, false, false, false, false, false, false, false, false, true, true, true, true, true, true, false, false, false, false, false, false]
          (by kernel_rfl) (by kernel_rfl) (by kernel_rfl) (fun _ _ _ _ _ _ h => h) (below_drewN (Below.refl _ _) 1) ?_ ?_
        · refine ⟨Reg.Obl.mk ?_, Reg.Obl.mk ?_, Reg.Obl.mk ?_, Reg.Obl.mk ?_, Reg.Obl.mk ?_, Reg.Obl.mk ?_, Reg.Obl.mk ?_, trivial⟩
          · rintro a w1 hC hx hd K hK
            have HC := Lib.hid hC
            clear hC
            have z0 := ((BB.out.call HC.out).mem (.head _)) 0 _ rfl
            have z1 := ((BB.out.call HC.out).mem (.head _)) 1 _ rfl
            have z2 := ((BB.out.call HC.out).mem (.head _)) 2 _ rfl
            have t9 : a.tmps[9]?.getD undef = .pointer (some ⟨PBK, 0, none⟩) := Reg.slot_val (hx 9 (by kernel_rfl))
            go_simp
            exact hK _ _ (fun _ => rfl) (fun h => by cases h) HC.out trivial
          · rintro a w1 hC hx hd K hK
            have HC := Lib.hid hC
            clear hC
            have y0 := ((BB.out.call HC.out).mem (.tail _ (.head _))) 0 _ rfl
            have y1 := ((BB.out.call HC.out).mem (.tail _ (.head _))) 1 _ rfl
            have y2 := ((BB.out.call HC.out).mem (.tail _ (.head _))) 2 _ rfl
            have y3 := ((BB.out.call HC.out).mem (.tail _ (.head _))) 3 _ rfl
            have y4 := ((BB.out.call HC.out).mem (.tail _ (.head _))) 4 _ rfl
            have y5 := ((BB.out.call HC.out).mem (.tail _ (.head _))) 5 _ rfl
            have y6 := ((BB.out.call HC.out).mem (.tail _ (.head _))) 6 _ rfl
            have y7 := ((BB.out.call HC.out).mem (.tail _ (.head _))) 7 _ rfl
            have t8 : a.tmps[8]?.getD undef = .pointer (some ⟨HBK, 0, none⟩) := Reg.slot_val (hx 8 (by kernel_rfl))
            go_simp
            exact hK _ _ (fun _ => rfl) (fun h => by cases h) HC.out trivial
          · rintro a w1 hC hx hd K hK
            have HC := Lib.hid hC
            clear hC
            have z0 := ((BB.out.call HC.out).mem (.head _)) 0 _ rfl
            have z1 := ((BB.out.call HC.out).mem (.head _)) 1 _ rfl
            have z2 := ((BB.out.call HC.out).mem (.head _)) 2 _ rfl
            have t9 : a.tmps[9]?.getD undef = .pointer (some ⟨PBK, 0, none⟩) := Reg.slot_val (hx 9 (by kernel_rfl))
            go_simp
            exact hK _ _ (fun _ => rfl) (fun h => by cases h) HC.out trivial
          · rintro a w1 hC hx hd K hK
            have HC := Lib.hid hC
            clear hC
            have t28 : a.tmps[28]?.getD undef = .agg #[.int .i64 h.p, .int .i64 h.k, .float .f32 h.x, .float .f32 h.y, .float .f32 h.z, .float .f32 h.s, .float .f32 h.t, .float .f32 h.u] := Reg.slot_val (hd 1 (by kernel_rfl) 28 rfl)
            have t29 : a.tmps[29]?.getD undef = .agg #[.float .f32 p, .float .f32 q, .float .f32 r] := Reg.slot_val (hd 2 (by kernel_rfl) 29 rfl)
            go_simp
            refine (impl_puts h HCk p q r PC _ HI.out FP.out).mono ?_
            rintro en w2 ⟨p', q', r', rfl, hF, hB2⟩
            exact hK _ _ (fun _ => ⟨p', q', r', rfl, hF⟩) (fun h => by cases h) (HC.out.trans (hB2.mono HC.out.size)) trivial
          · rintro a w1 hC hx hd K hK
            have HC := Lib.hid hC
            clear hC
            have t27 : a.tmps[27]?.getD undef = .agg #[.float .f32 p, .float .f32 q, .float .f32 r] := Reg.slot_val (hd 0 (by kernel_rfl) 27 rfl)
            obtain ⟨p30, q30, r30, g30, f30⟩ := hd 3 (by kernel_rfl) 30 rfl
            have t30 := Reg.slot_val g30
            clear g30
            go_simp
            refine (impl_LessVectors _ _ _ _ _ _ _ _ _ _ _ _ _ FP.out.1 FP.out.2.1 FP.out.2.2 f30.1 f30.2.1 f30.2.2).mono ?_
            rintro en w2 ⟨p', q', r', rfl, fp', fq', fr', hB2⟩
            exact hK _ _ (fun _ => ⟨p', q', r', rfl, fp', fq', fr'⟩) (fun h => by cases h) (HC.out.trans (hB2.mono HC.out.size)) trivial
          · rintro a w1 hC hx hd K hK
            have HC := Lib.hid hC
            clear hC
            obtain ⟨p31, q31, r31, g31, f31⟩ := hd 4 (by kernel_rfl) 31 rfl
            have t31 := Reg.slot_val g31
            clear g31
            go_simp
            refine (impl_LongOf _ _ _ _ _ _ _ f31.1 f31.2.1 f31.2.2).mono ?_
            rintro en w2 ⟨r', rfl, hr, hB2⟩
            exact hK _ _ (fun _ => ⟨r', rfl, hr⟩) (fun h => by cases h) (HC.out.trans (hB2.mono HC.out.size)) trivial
          · rintro a w1 hC hx hd K hK
            have HC := Lib.hid hC
            clear hC
            obtain ⟨r32, g32, f32⟩ := hd 5 (by kernel_rfl) 32 rfl
            have t32 := Reg.slot_val g32
            clear g32
            go_simp
            exact hK _ _ (fun _ => ⟨_, rfl, f32⟩) (fun h => by cases h) HC.out trivial
        rintro f w4 hC hd hT
        obtain ⟨y, g10, hy⟩ := hd 6 10 rfl
        simp only [Reg.mixL, g10]
        have BX4 := Lib.hid (BB.out.call hC)
        have HY := Lib.hid hy
        clear hC hd hT g10 hy
        have HSN2 := Lib.hid (HSN.out)
        cases hgt : (FloatKind.f32.format.order y x == some .gt)
        · have hov := over_no HY.out HX.out hgt
          have HOV := Lib.hid hov
          clear hov
          go_wp2
          go_roundw
          case rel => exact ⟨k + 1, by omega, by go_num, ⟨_, rfl, by rw [HSN.out, HOV.out]; exact HX.out⟩, by have h2 := BX4.out.drop.drop; rw [HPA.out.2] at h2; exact h2⟩
          case measure => simp [intOf]; omega
        · have hov := over_yes HY.out HX.out hgt
          have HOV := Lib.hid hov
          clear hov
          go_wp2
          go_roundw
          case rel => exact ⟨k + 1, by omega, by go_num, ⟨_, rfl, by rw [HSN.out, HOV.out]; exact HY.out⟩, by have h2 := BX4.out.drop.drop; rw [HPA.out.2] at h2; exact h2⟩
          case measure => simp [intOf]; omega
      · obtain rfl : k = hl := by omega
        have hX : hs.take k = hs := List.take_of_length_le (by omega)
        rw [hX] at HX
        go_wp2
        go_ret2
        exact ⟨_, rfl, HX.out, BK.out.bel⟩
set_option maxHeartbeats 4000000 in
theorem spec_OffHolds (pa ta ha : Option Addr) (pl pc tl tc hl hc : Nat) (cs : List C3) (ts : List (List Int)) (hs : List HC) (w : World) (hp : IsVs w pa pl pc cs) (ht : IsTs w ta tl tc ts) (hh : IsHs w ha hl hc hs) :
    Calls Try.prog 53 #[.agg #[.slice pa pl pc, .slice ta tl tc], .slice ha hl hc] w fun e w' => ∃ x, e = .returned (.tuple #[.float .f32 x, .bool (areB cs ts hs)]) ∧ FV .f32 x (offC cs ts hs) ∧ Below w.heap.size w w' := by
  have ui := Try.underlying38
  have uh := Try.underlying119
  have u := Try.underlying2
  have uf := Try.underlying27
  have uv := Try.underlying40
  have BX : Hid (Bx w [(w.heap.size, [.slice pa pl pc, .slice ta tl tc])] (w.alloc (.cells #[.slice pa pl pc, .slice ta tl tc] 38))) := Lib.hid ((Bx.nil w).box (vs := [.slice pa pl pc, .slice ta tl tc]) (t := 38))
  have hpl := hp.1
  have hll := hh.1
  have hm : hl ≤ 9223372036854775807 := by have h1 := hh.2.1; have h2 := hh.2.2.1; unfold maxLen at h2; omega
  have hpm : pl ≤ 9223372036854775807 := by have h1 := hp.2.1; have h2 := hp.2.2.1; unfold maxLen at h2; omega
  have JV := l04Are w.heap.size pa ta ha pl pc tl tc hl hc cs ts hs (w.alloc (.cells #[.slice pa pl pc, .slice ta tl tc] 38)) ((BX.out.mem (.head _)) 0 _ rfl) ((BX.out.mem (.head _)) 1 _ rfl) (hp.below BX.out.bel) (ht.below BX.out.bel) (hh.below BX.out.bel)
  have HP := Lib.hid hp
  have HH := Lib.hid hh
  unfold offC
  clear hp ht hh
  cases hv : areB cs ts hs
  · rw [hv] at JV
    have JV := Lib.hid JV
    clear hv hpl
    go_enter Try.func53, Try.ntmps53
    go_wp2_with fail
    generalize (w.alloc (.cells #[.slice pa pl pc, .slice ta tl tc] 38)) = W at *
    refine JV.out.mono ?_
    rintro e w1 ⟨rfl, hB1⟩
    have BX1 := Lib.hid (BX.out.call hB1)
    clear hB1
    go_wp2
    go_ret2
    exact ⟨_, rfl, fv0, BX1.out.bel⟩
  · rw [hv] at JV
    have JV := Lib.hid JV
    have hgd : goodB pl hs = true := by unfold areB at hv; rw [hpl] at hv; simp only [Bool.and_eq_true] at hv; exact hv.2
    have HGD := Lib.hid hgd
    show Calls _ _ _ _ fun e w' => ∃ x, e = .returned (.tuple #[.float .f32 x, .bool true]) ∧ FV .f32 x (offF cs hs) ∧ Below w.heap.size w w'
    clear hv hgd hpl
    go_enter Try.func53, Try.ntmps53
    go_wp2_with fail
    generalize (w.alloc (.cells #[.slice pa pl pc, .slice ta tl tc] 38)) = W at *
    refine JV.out.mono ?_
    rintro e w1 ⟨rfl, hB1⟩
    have BX1 := Lib.hid (BX.out.call hB1)
    clear hB1
    go_wp2
    go_loopw [6, 7] (fun f i w' => ∃ k : Nat, k ≤ hl ∧ i = .int .i64 k ∧ (∃ x, f = .float .f32 x ∧ FV .f32 x (offF cs (hs.take k))) ∧ Aside (Bx w [(w.heap.size, [.slice pa pl pc, .slice ta tl tc])] w')) (fun _ i _ => hl - (intOf i).toNat)
    case atStart => exact ⟨0, Nat.zero_le _, rfl, ⟨0, rfl, fv0⟩, BX1.out⟩
    case round =>
      obtain ⟨k, hk, rfl, ⟨x, rfl, hx⟩, hA⟩ := hrel
      have BK := Lib.hid hA.out
      have HX := Lib.hid hx
      clear hA hx
      by_cases hlt : k < hl
      · obtain ⟨b, o, hha, hcell⟩ := (HH.out.below BK.out.bel).some (by omega)
        obtain ⟨h, hq, hi⟩ := hcell k hlt
        have hlk : k < hs.length := by omega
        have hk0 : (0 : Int) ≤ (k : Int) := by omega
        have hk1 : (k : Int) < (hl : Int) := by omega
        have hin := of_decide_eq_true (step_parts (good_at HGD.out hlk))
        have hpz : h.p = (hs.getD k hd0).1 := hi.1
        rw [← hpz] at hin
        obtain ⟨bp, op, hpa, hcp⟩ := HP.out.some (by omega)
        obtain ⟨p, q, r, d0, d1, d2, fp, fq, fr⟩ := hcp h.p.toNat (by omega)
        have hsn := offF_snoc cs hs k hlk
        have hcn : distC cs (hs.getD k hd0) = lonH (subC (cs.getD h.p.toNat c0) (putC (hs.getD k hd0) (cs.getD h.p.toNat c0))) := by unfold distC; rw [← hpz]
        rw [hcn] at hsn
        have HSN := Lib.hid hsn
        have HI := Lib.hid hi
        have FP : Hid (F3 p q r (cs.getD h.p.toNat c0)) := Lib.hid ⟨fp, fq, fr⟩
        generalize hPC : cs.getD h.p.toNat c0 = PC at *
        generalize hHC : hs.getD k hd0 = HCk at *
        generalize offF cs (hs.take k) = M at *
        have p0 : (0 : Int) ≤ h.p := hin.1
        have p1 : h.p < (pl : Int) := hin.2
        have QH := Lib.hid hq
        have D := Lib.hid (And.intro d0 (And.intro d1 d2))
        have HPA := Lib.hid (And.intro hha hpa)
        rw [hha, hpa]
        clear hcell hcp hin hpz hsn hcn hi hha hpa fp fq fr hPC hHC
        go_wp2_with fail
        refine Reg6.wp_region_mix (s := 10) (C := fun w' => Below wr.heap.size wr w') (D := fun a w' => ∃ s, a.eval (.tmp 8) = .pointer (some ⟨s, 0, none⟩) ∧ wr.heap.size ≤ s ∧ Below wr.heap.size wr w' ∧ (w'.cell? ⟨s, 0, none⟩ = some (.float .f32 p) ∧ w'.cell? ⟨s, 1, none⟩ = some (.float .f32 q) ∧ w'.cell? ⟨s, 2, none⟩ = some (.float .f32 r))) (G := fun w1 w2 => Below w1.heap.size w1 w2) (Rv := fun i v => match i with | 0 => v = .pointer (some ⟨w.heap.size, 0, none⟩) | 1 => v = .slice (some ⟨bp, op, none⟩) pl pc | 2 => v = .slice (some ⟨b, o, none⟩) hl hc | 3 => v = .int .i64 k | 4 => v = .pointer (some ⟨b, o + k * 8, none⟩) | 5 => v = .pointer (some ⟨b, o + k * 8, none⟩) | 6 => v = .int .i64 h.p | 7 => v = .pointer (some ⟨bp, op + h.p.toNat * 3, none⟩) | 8 => v = .agg #[.float .f32 p, .float .f32 q, .float .f32 r] | _ => True) (Rw := fun i v w' => match i with | 9 => ∃ s, v = .pointer (some ⟨s, 0, none⟩) ∧ wr.heap.size ≤ s ∧ Z3 w' s | _ => True) [false, false, false, false, false, false, false, false, true, false, false, false, false, false, false, false, false, false, false, true, true, true, true, true, true, true, true, true, false, false, false, false, false, false, false, false, false, false, false, false, false]
          (by kernel_rfl) (by kernel_rfl) (by kernel_rfl) ?_ (below_drewN (Below.refl _ _) 1) ?_ ?_
        · intro j v w1 w2 hC hG hR
          match j with
          | 0 => trivial
          | 1 => trivial
          | 2 => trivial
          | 3 => trivial
          | 4 => trivial
          | 5 => trivial
          | 6 => trivial
          | 7 => trivial
          | 8 => trivial
          | 9 => obtain ⟨s, e, h1, h2⟩ := hR; exact ⟨s, e, h1, h2.below hG⟩
          | 10 => trivial
          | _ + 11 => trivial
        · refine ⟨?_, ?_, ?_, ?_, ?_, ?_, ?_, ?_, ?_, ?_, ?_, trivial⟩
          · refine Reg6.Obl.early rfl (by kernel_rfl) ?_
            rintro a w1 hC hx hd K hK
            have HC := Lib.hid hC
            clear hC
            have t2 : a.tmps[2]?.getD undef = .pointer (some ⟨w.heap.size, 0, none⟩) := Reg.slot_val (hx 2 (by kernel_rfl))
            go_simp
            exact hK _ _ rfl trivial HC.out (Below.refl _ _)
          · refine Reg6.Obl.early rfl (by kernel_rfl) ?_
            rintro a w1 hC hx hd K hK
            have HC := Lib.hid hC
            clear hC
            have m0 := (BK.out.call HC.out).mem (.head _) 0 _ rfl
            rw [HPA.out.2] at m0
            have t19 : a.tmps[19]?.getD undef = .pointer (some ⟨w.heap.size, 0, none⟩) := Reg.slot_val (hd 0 19 (by kernel_rfl) rfl).1
            go_simp
            exact hK _ _ rfl trivial HC.out (Below.refl _ _)
          · refine Reg6.Obl.early rfl (by kernel_rfl) ?_
            rintro a w1 hC hx hd K hK
            have HC := Lib.hid hC
            clear hC
            have t1 : a.tmps[1]?.getD undef = .slice (some ⟨b, o, none⟩) hl hc := Reg.slot_val (hx 1 (by kernel_rfl))
            go_simp
            exact hK _ _ rfl trivial HC.out (Below.refl _ _)
          · refine Reg6.Obl.early rfl (by kernel_rfl) ?_
            rintro a w1 hC hx hd K hK
            have HC := Lib.hid hC
            clear hC
            have t7 : a.tmps[7]?.getD undef = .int .i64 k := Reg.slot_val (hx 7 (by kernel_rfl))
            go_simp
            exact hK _ _ rfl trivial HC.out (Below.refl _ _)
          · refine Reg6.Obl.early rfl (by kernel_rfl) ?_
            rintro a w1 hC hx hd K hK
            have HC := Lib.hid hC
            clear hC
            have t21 : a.tmps[21]?.getD undef = .slice (some ⟨b, o, none⟩) hl hc := Reg.slot_val (hd 2 21 (by kernel_rfl) rfl).1
            have t22 : a.tmps[22]?.getD undef = .int .i64 k := Reg.slot_val (hd 3 22 (by kernel_rfl) rfl).1
            go_simp
            exact hK _ _ rfl trivial HC.out (Below.refl _ _)
          · refine Reg6.Obl.early rfl (by kernel_rfl) ?_
            rintro a w1 hC hx hd K hK
            have HC := Lib.hid hC
            clear hC
            have t23 : a.tmps[23]?.getD undef = .pointer (some ⟨b, o + k * 8, none⟩) := Reg.slot_val (hd 4 23 (by kernel_rfl) rfl).1
            go_simp
            exact hK _ _ rfl trivial HC.out (Below.refl _ _)
          · refine Reg6.Obl.early rfl (by kernel_rfl) ?_
            rintro a w1 hC hx hd K hK
            have HC := Lib.hid hC
            clear hC
            have c0 := (QH.out.below HC.out).c0
            have t24 : a.tmps[24]?.getD undef = .pointer (some ⟨b, o + k * 8, none⟩) := Reg.slot_val (hd 5 24 (by kernel_rfl) rfl).1
            go_simp
            exact hK _ _ rfl trivial HC.out (Below.refl _ _)
          · refine Reg6.Obl.early rfl (by kernel_rfl) ?_
            rintro a w1 hC hx hd K hK
            have HC := Lib.hid hC
            clear hC
            have t20 : a.tmps[20]?.getD undef = .slice (some ⟨bp, op, none⟩) pl pc := Reg.slot_val (hd 1 20 (by kernel_rfl) rfl).1
            have t25 : a.tmps[25]?.getD undef = .int .i64 h.p := Reg.slot_val (hd 6 25 (by kernel_rfl) rfl).1
            go_simp
            exact hK _ _ rfl trivial HC.out (Below.refl _ _)
          · refine Reg6.Obl.early rfl (by kernel_rfl) ?_
            rintro a w1 hC hx hd K hK
            have HC := Lib.hid hC
            clear hC
            have hb := (BK.out.call HC.out).bel
            have e0 := cell_below hb D.out.1
            have e1 := cell_below hb D.out.2.1
            have e2 := cell_below hb D.out.2.2
            have t26 : a.tmps[26]?.getD undef = .pointer (some ⟨bp, op + h.p.toNat * 3, none⟩) := Reg.slot_val (hd 7 26 (by kernel_rfl) rfl).1
            go_simp
            exact hK _ _ rfl trivial HC.out (Below.refl _ _)
          · refine Reg6.Obl.early rfl (by kernel_rfl) ?_
            rintro a w1 hC hx hd K hK
            have HC := Lib.hid hC
            clear hC
            go_simp
            exact hK _ _ trivial ⟨w1.heap.size, rfl, HC.out.size, Z3.new⟩ (HC.out.alloc HC.out.size _) ((Below.refl _ _).alloc (Nat.le_refl _) _)
          · refine Reg6.Obl.store rfl ?_
            rintro a w1 hC hx hd K hK
            have HC := Lib.hid hC
            clear hC
            obtain ⟨s, gb, hbl, hZ⟩ := (hd 9 8 (by kernel_rfl) rfl).2
            have tb := Reg.slot_val gb
            have t27 : a.tmps[27]?.getD undef = .agg #[.float .f32 p, .float .f32 q, .float .f32 r] := Reg.slot_val (hd 8 27 (by kernel_rfl) rfl).1
            have GB := Lib.hid gb
            have HZ := Lib.hid hZ
            obtain ⟨⟨y0, y1, y2⟩, yf⟩ := hZ
            have f0 := yf 0
            have f1 := yf 1
            have f2 := yf 2
            clear yf gb
            go_simp
            exact hK _ ⟨s, GB.out, hbl, below_set3 HC.out hbl, set3 HZ.out.1.1 HZ.out.1.2.1 HZ.out.1.2.2⟩
        rintro f w3 hD hv
        obtain ⟨PBK, e8, hbl, hB, hPV⟩ := hD
        have g8 : f 8 = .pointer (some ⟨PBK, 0, none⟩) := e8
        simp only [Reg.mixL, g8]
        have BB := Lib.hid (BK.out.call hB)
        have PBV := Lib.hid hPV
        have QW := Lib.hid (QH.out.below hB)
        clear hB hPV e8 hv hbl g8
        go_wp2_with fail
        refine Reg.wp_region_mix (C := fun w' => Below w3.heap.size w3 w') (G := fun _ _ => True) (R := fun i v w' => match i with | 0 => v = .agg #[.float .f32 p, .float .f32 q, .float .f32 r] | 1 => v = .slice (some ⟨b, o, none⟩) hl hc | 2 => v = .int .i64 k | 3 => v = .pointer (some ⟨b, o + k * 8, none⟩) | 4 => v = .agg #[.float .f32 p, .float .f32 q, .float .f32 r] | 5 => ∃ p q r, v = vv p q r ∧ F3 p q r (putC HCk PC) | 6 => ∃ p q r, v = vv p q r ∧ F3 p q r (subC PC (putC HCk PC)) | 7 => ∃ r, v = .float .f32 r ∧ FV .f32 r (lonH (subC PC (putC HCk PC))) | 8 => ∃ r, v = .float .f32 r ∧ FV .f32 r (lonH (subC PC (putC HCk PC))) | _ => True) (T := fun _ _ _ => True) [false, false, false, false, false, false, false, false, false, true, false, false, false, false, false, false, false, false, false, false, false, false, false, false, false, false, false, false, true, true, true, true, true, true, true, true, false, false, false, false, false]
          (by kernel_rfl) (by kernel_rfl) (by kernel_rfl) (fun _ _ _ _ _ _ h => h) (below_drewN (Below.refl _ _) 1) ?_ ?_
        · refine ⟨Reg.Obl.mk ?_, Reg.Obl.mk ?_, Reg.Obl.mk ?_, Reg.Obl.mk ?_, Reg.Obl.mk ?_, Reg.Obl.mk ?_, Reg.Obl.mk ?_, Reg.Obl.mk ?_, Reg.Obl.mk ?_, trivial⟩
          · rintro a w1 hC hx hd K hK
            have HC := Lib.hid hC
            clear hC
            have z0 := cell_below HC.out PBV.out.1
            have z1 := cell_below HC.out PBV.out.2.1
            have z2 := cell_below HC.out PBV.out.2.2
            have t8 : a.tmps[8]?.getD undef = .pointer (some ⟨PBK, 0, none⟩) := Reg.slot_val (hx 8 (by kernel_rfl))
            go_simp
            exact hK _ _ (fun _ => rfl) (fun h => by cases h) HC.out trivial
          · rintro a w1 hC hx hd K hK
            have HC := Lib.hid hC
            clear hC
            have t1 : a.tmps[1]?.getD undef = .slice (some ⟨b, o, none⟩) hl hc := Reg.slot_val (hx 1 (by kernel_rfl))
            go_simp
            exact hK _ _ (fun _ => rfl) (fun h => by cases h) HC.out trivial
          · rintro a w1 hC hx hd K hK
            have HC := Lib.hid hC
            clear hC
            have t7 : a.tmps[7]?.getD undef = .int .i64 k := Reg.slot_val (hx 7 (by kernel_rfl))
            go_simp
            exact hK _ _ (fun _ => rfl) (fun h => by cases h) HC.out trivial
          · rintro a w1 hC hx hd K hK
            have HC := Lib.hid hC
            clear hC
            have t29 : a.tmps[29]?.getD undef = .slice (some ⟨b, o, none⟩) hl hc := Reg.slot_val (hd 1 (by kernel_rfl) 29 rfl)
            have t30 : a.tmps[30]?.getD undef = .int .i64 k := Reg.slot_val (hd 2 (by kernel_rfl) 30 rfl)
            go_simp
            exact hK _ _ (fun _ => rfl) (fun h => by cases h) HC.out trivial
          · rintro a w1 hC hx hd K hK
            have HC := Lib.hid hC
            clear hC
            have z0 := cell_below HC.out PBV.out.1
            have z1 := cell_below HC.out PBV.out.2.1
            have z2 := cell_below HC.out PBV.out.2.2
            have t8 : a.tmps[8]?.getD undef = .pointer (some ⟨PBK, 0, none⟩) := Reg.slot_val (hx 8 (by kernel_rfl))
            go_simp
            exact hK _ _ (fun _ => rfl) (fun h => by cases h) HC.out trivial
          · rintro a w1 hC hx hd K hK
            have HC := Lib.hid hC
            clear hC
            have t31 : a.tmps[31]?.getD undef = .pointer (some ⟨b, o + k * 8, none⟩) := Reg.slot_val (hd 3 (by kernel_rfl) 31 rfl)
            have t32 : a.tmps[32]?.getD undef = .agg #[.float .f32 p, .float .f32 q, .float .f32 r] := Reg.slot_val (hd 4 (by kernel_rfl) 32 rfl)
            go_simp
            refine (l04Put b (o + k * 8) h HCk p q r PC _ (QW.out.below HC.out) HI.out FP.out).mono ?_
            rintro en w2 ⟨p', q', r', rfl, hF, hB2⟩
            exact hK _ _ (fun _ => ⟨p', q', r', rfl, hF⟩) (fun h => by cases h) (HC.out.trans (hB2.mono HC.out.size)) trivial
          · rintro a w1 hC hx hd K hK
            have HC := Lib.hid hC
            clear hC
            have t28 : a.tmps[28]?.getD undef = .agg #[.float .f32 p, .float .f32 q, .float .f32 r] := Reg.slot_val (hd 0 (by kernel_rfl) 28 rfl)
            obtain ⟨p33, q33, r33, g33, f33⟩ := hd 5 (by kernel_rfl) 33 rfl
            have t33 := Reg.slot_val g33
            clear g33
            go_simp
            refine (l01Less _ _ _ _ _ _ _ _ _ _ _ _ _ FP.out.1 FP.out.2.1 FP.out.2.2 f33.1 f33.2.1 f33.2.2).mono ?_
            rintro en w2 ⟨p', q', r', rfl, fp', fq', fr', hB2⟩
            exact hK _ _ (fun _ => ⟨p', q', r', rfl, fp', fq', fr'⟩) (fun h => by cases h) (HC.out.trans (hB2.mono HC.out.size)) trivial
          · rintro a w1 hC hx hd K hK
            have HC := Lib.hid hC
            clear hC
            obtain ⟨p34, q34, r34, g34, f34⟩ := hd 6 (by kernel_rfl) 34 rfl
            have t34 := Reg.slot_val g34
            clear g34
            go_simp
            refine (l01Long _ _ _ _ _ _ _ f34.1 f34.2.1 f34.2.2).mono ?_
            rintro en w2 ⟨r', rfl, hr, hB2⟩
            exact hK _ _ (fun _ => ⟨r', rfl, hr⟩) (fun h => by cases h) (HC.out.trans (hB2.mono HC.out.size)) trivial
          · rintro a w1 hC hx hd K hK
            have HC := Lib.hid hC
            clear hC
            obtain ⟨r35, g35, f35⟩ := hd 7 (by kernel_rfl) 35 rfl
            have t35 := Reg.slot_val g35
            clear g35
            go_simp
            exact hK _ _ (fun _ => ⟨_, rfl, f35⟩) (fun h => by cases h) HC.out trivial
        rintro f w4 hC hd hT
        obtain ⟨y, g9, hy⟩ := hd 8 9 rfl
        simp only [Reg.mixL, g9]
        have BX4 := Lib.hid (BB.out.call hC)
        have HY := Lib.hid hy
        clear hC hd hT g9 hy
        have HSN2 := Lib.hid (HSN.out)
        cases hgt : (FloatKind.f32.format.order y x == some .gt)
        · have hov := over_no HY.out HX.out hgt
          have HOV := Lib.hid hov
          clear hov
          go_wp2
          go_roundw
          case rel => exact ⟨k + 1, by omega, by go_num, ⟨_, rfl, by rw [HSN.out, HOV.out]; exact HX.out⟩, by have h2 := BX4.out; rw [HPA.out.2] at h2; exact h2⟩
          case measure => simp [intOf]; omega
        · have hov := over_yes HY.out HX.out hgt
          have HOV := Lib.hid hov
          clear hov
          go_wp2
          go_roundw
          case rel => exact ⟨k + 1, by omega, by go_num, ⟨_, rfl, by rw [HSN.out, HOV.out]; exact HY.out⟩, by have h2 := BX4.out; rw [HPA.out.2] at h2; exact h2⟩
          case measure => simp [intOf]; omega
      · obtain rfl : k = hl := by omega
        have hX : hs.take k = hs := List.take_of_length_le (by omega)
        rw [hX] at HX
        go_wp2
        go_ret2
        exact ⟨_, rfl, HX.out, BK.out.bel⟩
set_option maxHeartbeats 4000000 in
theorem FnExactOffHolds_law (pa ta : Option Addr) (pl pc tl tc : Nat) (cs : List C3) (ts : List (List Int)) (ha : Option Addr) (hl hc : Nat) (hs : List HC) (w : World) (hp : IsVs w pa pl pc cs) (ht : IsTs w ta tl tc ts) (hh : IsHs w ha hl hc hs) :
    Calls Try.prog 10 #[.agg #[.slice pa pl pc, .slice ta tl tc], .slice ha hl hc] w fun e w' => e = .returned (.bool true) ∧ Below w.heap.size w w' := by
  have u := Try.underlying27
  have u' := Try.underlying53
  have um := Try.underlying38
  have HPL := Lib.hid hp.1
  have HTL := Lib.hid ht.1
  have hfm : hl ≤ 9223372036854775807 := by have h1 := hh.2.1; have h2 := hh.2.2.1; unfold maxLen at h2; omega
  have HP := Lib.hid hp
  have HT := Lib.hid ht
  have HF := Lib.hid hh
  have BX : Hid (Bx w [(w.heap.size, [.slice pa pl pc, .slice ta tl tc])] (w.alloc (.cells #[.slice pa pl pc, .slice ta tl tc] 25))) := Lib.hid ((Bx.nil w).box (vs := [.slice pa pl pc, .slice ta tl tc]) (t := 25))
  clear hp ht hh
  obtain ⟨nb, hnb⟩ : ∃ nb : Bool, nb = areB cs ts hs := ⟨_, rfl⟩
  obtain ⟨NC, hNC⟩ : ∃ NC : Option Nat, NC = offC cs ts hs := ⟨_, rfl⟩
  have HSP := Lib.hid (fun (pa ta ha : Option Addr) (pc tc hc : Nat) (w : World) (hp : IsVs w pa pl pc cs) (ht : IsTs w ta tl tc ts) (hh : IsHs w ha hl hc hs) => spec_OffHolds pa ta ha pl pc tl tc hl hc cs ts hs w hp ht hh)
  have HIM := Lib.hid (fun (pa ta ha : Option Addr) (pc tc hc : Nat) (w : World) (hp : IsVs w pa pl pc cs) (ht : IsTs w ta tl tc ts) (hh : IsHs w ha hl hc hs) (hsm : hl ≤ 1048576) => impl_OffHolds pa ta ha pl pc tl tc hl hc cs ts hs w hp ht hh hsm)
  rw [← hnb, ← hNC] at HSP HIM
  clear hnb hNC
  go_enter Try.func10, Try.ntmps10
  go_wp2_with fail
  generalize (w.alloc (.cells #[.slice pa pl pc, .slice ta tl tc] 25)) = W at *
  refine (laws_szMeshR _ _ _ _ _ _ _ _ 1048576 _ (HP.out.below BX.out.bel) (HT.out.below BX.out.bel) (by decide) (by decide)).mono ?_
  rintro e w1 ⟨⟨r, rfl, hr⟩, hB1⟩
  have BX1 := Lib.hid (BX.out.call hB1)
  clear hB1
  rcases hr with rfl | ⟨hr0, hr1, s1, s2, s3⟩
  · go_wp2
    go_ret
    exact ⟨rfl, BX1.out.bel⟩
  have hS : Small cs ts := ⟨by rw [HPL.out]; exact s1, by rw [HTL.out]; exact s2, by rw [HTL.out]; exact s3⟩
  have HS := Lib.hid hS
  clear s1 s2 s3 hS
  go_wp2_with fail
  refine (laws_szHoldS _ _ _ _ _ hr0 hr1 hfm).mono ?_
  rintro e w2 ⟨⟨r', rfl, hr'⟩, hw2⟩
  rw [hw2]
  clear hw2 w2
  rcases hr' with rfl | ⟨hr2, hr3, hlen⟩
  · go_wp2
    go_ret
    exact ⟨rfl, BX1.out.bel⟩
  have a0 := (BX1.out.mem (.head _)) 0 _ rfl
  have a1 := (BX1.out.mem (.head _)) 1 _ rfl
  go_wp2_with fail
  clear a0 a1
  refine (laws_toMesh _ _ _ _ _ _ _ _ _ (HP.out.below BX1.out.bel) (HT.out.below BX1.out.bel) HS.out).mono ?_
  rintro e w3 ⟨⟨b, b', rfl, hb, hb', hV, hT⟩, hB3⟩
  have BX3 := Lib.hid (BX1.out.call hB3)
  have HV3 := Lib.hid hV
  have HT3 := Lib.hid hT
  clear hV hT hB3 hb hb'
  go_wp2_with fail
  refine (laws_toHoldS _ _ _ _ _ (HF.out.below BX3.out.bel) hlen).mono ?_
  rintro e w4 ⟨rfl, hV, hB4⟩
  have BX4 := Lib.hid (BX3.out.call hB4)
  have HV4 := Lib.hid (HV3.out.below hB4)
  have HT4 := Lib.hid (HT3.out.below hB4)
  have HF4 := Lib.hid hV
  clear hV hB4
  go_wp2_with fail
  refine (HSP.out _ _ _ _ _ _ _ HV4.out HT4.out HF4.out).mono ?_
  rintro e w5 ⟨sx, rfl, hs5, hB5⟩
  have HSS := Lib.hid hs5
  clear hs5
  have BX6 := Lib.hid (BX4.out.call hB5)
  clear hB5
  have a0 := (BX6.out.mem (.head _)) 0 _ rfl
  have a1 := (BX6.out.mem (.head _)) 1 _ rfl
  go_wp2_with fail
  clear a0 a1
  refine (laws_toMesh _ _ _ _ _ _ _ _ _ (HP.out.below BX6.out.bel) (HT.out.below BX6.out.bel) HS.out).mono ?_
  rintro e w7 ⟨⟨c, c', rfl, hc, hc', hV, hT⟩, hB7⟩
  have BX7 := Lib.hid (BX6.out.call hB7)
  have hA7 : Below w7.heap.size w7 (w7.alloc (.cells #[.slice (some ⟨c, 0, none⟩) pl pl, .slice (some ⟨c', 0, none⟩) tl tl] 38)) := (Below.refl _ _).alloc (Nat.le_refl _) _
  have HV7 := Lib.hid (hV.below hA7)
  have HT7 := Lib.hid (hT.below hA7)
  have BX8 := Lib.hid (BX7.out.box (vs := [.slice (some ⟨c, 0, none⟩) pl pl, .slice (some ⟨c', 0, none⟩) tl tl]) (t := 38))
  clear hV hT hB7 hc hc' hA7
  go_wp2_with fail
  change Hid (Bx w _ (w7.alloc (.cells #[.slice (some ⟨c, 0, none⟩) pl pl, .slice (some ⟨c', 0, none⟩) tl tl] 38))) at BX8
  generalize (w7.alloc (.cells #[.slice (some ⟨c, 0, none⟩) pl pl, .slice (some ⟨c', 0, none⟩) tl tl] 38)) = W8 at *
  generalize w7.heap.size = X at *
  refine (laws_toHoldS _ _ _ _ _ (HF.out.below BX8.out.bel) hlen).mono ?_
  rintro e w9 ⟨rfl, hV, hB9⟩
  have BX9 := Lib.hid (BX8.out.call hB9)
  have HV9 := Lib.hid (HV7.out.below hB9)
  have HT9 := Lib.hid (HT7.out.below hB9)
  have HF9 := Lib.hid hV
  clear hV hB9
  generalize W8.heap.size = Y at *
  have x0 := (BX9.out.mem (.head _)) 0 _ rfl
  have x1 := (BX9.out.mem (.head _)) 1 _ rfl
  go_wp2_with fail
  clear x0 x1
  refine (HIM.out _ _ _ _ _ _ _ HV9.out HT9.out HF9.out hlen).mono ?_
  rintro e w10 ⟨gx, rfl, hg10, hB10⟩
  have HG := Lib.hid hg10
  clear hg10
  have BX10 := Lib.hid (BX9.out.call hB10)
  have HV10 := Lib.hid (HV9.out.below hB10)
  have HT10 := Lib.hid (HT9.out.below hB10)
  have HF10 := Lib.hid (HF9.out.below hB10)
  clear hB10
  have hb1 : (nb == nb) = true := by simp
  have hb2 : (nb != nb) = false := by simp
  go_wp2_with fail
  refine (laws_sameFloat _ _ _ _ (FV_wR HG.out) (FV_wR HSS.out)).mono ?_
  rintro en w12 ⟨rfl, n12, hw12⟩
  have hB12 : Below w10.heap.size w10 w12 := by rw [hw12]; exact below_drewN (by first | exact Below.refl _ _ | exact below_drewN (Below.refl _ _) _ | exact below_drewN (below_drewN (Below.refl _ _) _) _) _
  have BX12 := Lib.hid (BX10.out.call hB12)
  have HV12 := Lib.hid (HV10.out.below hB12)
  have HT12 := Lib.hid (HT10.out.below hB12)
  have HF12 := Lib.hid (HF10.out.below hB12)
  clear hB12 hw12
  go_wp2_with fail
  refine Reg.wp_region_mix (C := fun w' => Below w12.heap.size w12 w') (G := fun w1 w2 => Below w1.heap.size w1 w2) (R := fun i v w' => match i with | 0 => v = .agg #[.slice (some ⟨c, 0, none⟩) pl pl, .slice (some ⟨c', 0, none⟩) tl tl] | 1 => v = .agg #[.slice pa pl pc, .slice ta tl tc] | 2 => ∃ d d', v = .agg #[.slice (some ⟨d, 0, none⟩) pl pl, .slice (some ⟨d', 0, none⟩) tl tl] ∧ IsVs w' (some ⟨d, 0, none⟩) pl pl cs ∧ IsTs w' (some ⟨d', 0, none⟩) tl tl ts | 3 => v = .bool true | 4 => v = .bool false | _ => True) (T := fun _ _ _ => True) [false, false, false, false, false, false, false, false, false, false, false, false, false, false, false, false, false, false, false, false, false, false, false, false, false, false, false, false, false, false, false, false, false, false, false, false, false, false, false, false, false, false, false, false, false, false, false, false, false, false, false, true, true, true, true, true, false, false, false, false, false]
    (by kernel_rfl) (by kernel_rfl) (by kernel_rfl) ?_ (below_drewN (Below.refl _ _) 1) ?_ ?_
  · intro j v w1 w2 _ hG hR
    match j with
    | 0 => exact hR
    | 1 => exact hR
    | 2 => obtain ⟨d, d', e, h1, h2⟩ := hR; exact ⟨d, d', e, h1.below hG, h2.below hG⟩
    | 3 => exact hR
    | 4 => exact hR
    | _ + 5 => trivial
  · refine ⟨Reg.Obl.mk ?_, Reg.Obl.mk ?_, Reg.Obl.mk ?_, Reg.Obl.mk ?_, Reg.Obl.mk ?_, trivial⟩
    · rintro a w1 hC hx hd K hK
      have HC := Lib.hid hC
      clear hC
      have y0 := (BX12.out.call HC.out).mem (.head _) 0 _ rfl
      have y1 := (BX12.out.call HC.out).mem (.head _) 1 _ rfl
      have t8 : a.tmps[8]?.getD undef = .pointer (some ⟨X, 0, none⟩) := Reg.slot_val (hx 8 (by kernel_rfl))
      go_simp
      exact hK _ _ (fun _ => rfl) (fun h => by cases h) HC.out (Below.refl _ _)
    · rintro a w1 hC hx hd K hK
      have HC := Lib.hid hC
      clear hC
      have y0 := (BX12.out.call HC.out).mem (.tail _ (.head _)) 0 _ rfl
      have y1 := (BX12.out.call HC.out).mem (.tail _ (.head _)) 1 _ rfl
      have t2 : a.tmps[2]?.getD undef = .pointer (some ⟨w.heap.size, 0, none⟩) := Reg.slot_val (hx 2 (by kernel_rfl))
      go_simp
      exact hK _ _ (fun _ => rfl) (fun h => by cases h) HC.out (Below.refl _ _)
    · rintro a w1 hC hx hd K hK
      have HC := Lib.hid hC
      clear hC
      have t52 : a.tmps[52]?.getD undef = .agg #[.slice pa pl pc, .slice ta tl tc] := Reg.slot_val (hd 1 (by kernel_rfl) 52 rfl)
      go_simp
      refine (laws_toMesh _ _ _ _ _ _ _ _ _ (HP.out.below (BX12.out.call HC.out).bel) (HT.out.below (BX12.out.call HC.out).bel) HS.out).mono ?_
      rintro en w2 ⟨⟨d, d', rfl, hd1, hd2, hV, hT⟩, hB2⟩
      exact hK _ _ (fun _ => ⟨d, d', rfl, hV, hT⟩) (fun h => by cases h) (HC.out.trans (hB2.mono HC.out.size)) hB2
    · rintro a w1 hC hx hd K hK
      have HC := Lib.hid hC
      clear hC
      have t51 : a.tmps[51]?.getD undef = .agg #[.slice (some ⟨c, 0, none⟩) pl pl, .slice (some ⟨c', 0, none⟩) tl tl] := Reg.slot_val (hd 0 (by kernel_rfl) 51 rfl)
      obtain ⟨e, e', g53, hV, hT⟩ := hd 2 (by kernel_rfl) 53 rfl
      have t53 := Reg.slot_val g53
      clear g53
      have HVe := Lib.hid hV
      have HTe := Lib.hid hT
      clear hV hT
      go_simp
      refine (laws_eqMesh _ _ _ _ _ _ _ _ _ _ cs ts _ (HV12.out.below HC.out) (HT12.out.below HC.out) HVe.out HTe.out).mono ?_
      rintro en w2 ⟨rfl, hB2⟩
      exact hK _ _ (fun _ => rfl) (fun h => by cases h) (HC.out.trans (hB2.mono HC.out.size)) hB2
    · rintro a w1 hC hx hd K hK
      have HC := Lib.hid hC
      clear hC
      have t54 : a.tmps[54]?.getD undef = .bool true := Reg.slot_val (hd 3 (by kernel_rfl) 54 rfl)
      go_simp
      exact hK _ _ (fun _ => rfl) (fun h => by cases h) HC.out (Below.refl _ _)
  rintro f w13 hC hd hT
  have g55 : f 55 = .bool false := hd 4 55 rfl
  simp only [Reg.mixL, g55]
  have BX13 := Lib.hid (BX12.out.call hC)
  have HF13 := Lib.hid (HF12.out.below hC)
  clear hC hd hT
  go_wp2_with fail
  refine (laws_toHoldS _ _ _ _ _ (HF.out.below BX13.out.bel) hlen).mono ?_
  rintro e w14 ⟨rfl, hV, hB14⟩
  have BX14 := Lib.hid (BX13.out.call hB14)
  have HF14 := Lib.hid (HF13.out.below hB14)
  have HY := Lib.hid hV
  clear hV hB14
  go_wp2_with fail
  refine (laws_eqHoldS _ _ _ _ _ hs _ HF14.out HY.out).mono ?_
  rintro e w15 ⟨rfl, hB15⟩
  have BX15 := Lib.hid (BX14.out.call hB15)
  clear hB15
  go_wp2
  go_ret
  exact ⟨rfl, BX15.out.bel⟩
end Go.Proofs.Ytajglpkeojaelaa

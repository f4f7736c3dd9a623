/-
Texts in one: what PartsOf stands on, part 37. Conditions: those of each.
-/
import Derived.Test.YtnbfaedopjkgpaaGreatKPartsOf36
import Derived.Handy

/-
The parts of the energy: what the program makes of a list of summands. Conditions: the places and the list lie in memory, what is named is there.
-/
namespace Go.Proofs.YtnbfaedopjkgpaaGreat
open Go Fk Go.RowKit
set_option linter.unusedVariables false
set_option maxRecDepth 16000

/-- A list of summands that lies in memory. -/
def EnS (w : World) (a : Option Addr) (es : List En) : Prop := ∀ j, j < es.length → ∃ g u, a = some ⟨g, 0, none⟩ ∧ w.cell? ⟨g, j, none⟩ = some u ∧ (es.getD j (.sp s0)).Is u
theorem EnS.below {w w' : World} {a : Option Addr} {es : List En} (h : EnS w a es) (hB : Below w.heap.size w w') : EnS w' a es := fun j hj => by
  obtain ⟨g, u, e, h1, h2⟩ := h j hj
  exact ⟨g, u, e, cell_below hB h1, h2⟩
/-- The sum of a part. -/
def partC (cs : List C3) (es : List En) (i : Nat) : Option Nat := es.foldl (fun s e => if e.part = i then fop .add .f32 s (e.E cs) else s) (some 0)
theorem partC_s (cs : List C3) (es : List En) {k : Nat} (hk : k < es.length) (i : Nat) : partC cs (es.take (k + 1)) i = if (es.getD k (.sp s0)).part = i then fop .add .f32 (partC cs (es.take k) i) ((es.getD k (.sp s0)).E cs) else partC cs (es.take k) i := by
  have e : es.getD k (.sp s0) = es[k] := by simp [List.getD, hk]
  rw [e]
  unfold partC
  rw [List.take_add_one, List.getElem?_eq_getElem hk, List.foldl_append]
  rfl
/-- Four floats. -/
def fl4 (p : Nat → Nat) : List Value := [.float .f32 (p 0), .float .f32 (p 1), .float .f32 (p 2), .float .f32 (p 3)]
theorem Bx.set {w w1 : World} {L : List (Nat × List Value)} {b : Nat} {l : List Value} (h : Bx w ((b, l) :: L) w1) (hd : ∀ x ∈ L, x.1 ≠ b) (i : Nat) (u : Value) : Bx w ((b, l.set i u) :: L) (w1.setCell ⟨b, i, none⟩ u) := by
  refine ⟨h.1.setCell (h.low (.head _)) _, fun c m hm => ?_⟩
  rcases List.mem_cons.1 hm with e | hm
  · cases e
    refine ⟨(h.mem (.head _)).set i u, fun j => ?_, by simpa using (h.2 b l (.head _)).2.2.1, h.low (.head _)⟩
    simp
    exact h.free (.head _) j
  · have hne := hd _ hm
    refine ⟨(h.mem (.tail _ hm)).far (Ne.symm hne), fun j => ?_, by simpa using (h.2 c m (.tail _ hm)).2.2.1, h.low (.tail _ hm)⟩
    simp
    exact h.free (.tail _ hm) j
def upd (p : Nat → Nat) (i v : Nat) : Nat → Nat := fun j => if j = i then v else p j
theorem fl4_set (p : Nat → Nat) {i : Nat} (hi : i < 4) (v : Nat) : (fl4 p).set i (.float .f32 v) = fl4 (upd p i v) := by
  match i, hi with
  | 0, _ => rfl
  | 1, _ => rfl
  | 2, _ => rfl
  | 3, _ => rfl
theorem fl4_get (p : Nat → Nat) {i : Nat} (hi : i < 4) : (fl4 p)[i]? = some (.float .f32 (p i)) := by
  match i, hi with
  | 0, _ => rfl
  | 1, _ => rfl
  | 2, _ => rfl
  | 3, _ => rfl
theorem en_part_lt (e : En) : e.part < 4 := by cases e <;> exact Nat.le_of_ble_eq_true rfl
set_option maxHeartbeats 8000000 in
theorem impl_sumParts (pa la : Option Addr) (pl pc lc : Nat) (cs : List C3) (es : List En) (w : World) (h : IsVs w pa pl pc cs) (hl : EnS w la es) (hn : es.length ≤ 8192) (hok : ∀ j, j < es.length → (es.getD j (.sp s0)).ok pl) :
    Calls Tryz.prog 51 #[.slice la es.length lc, .slice pa pl pc] w fun en w' => ∃ p, en = .returned (.agg (fl4 p).toArray) ∧ (∀ j, j < 4 → FV .f32 (p j) (partC cs es j)) ∧ Below w.heap.size w w' := by
  have u := Tryz.underlying27
  have HV := Lib.hid h
  have HL := Lib.hid hl
  have HOK := Lib.hid hok
  have HN := Lib.hid hn
  obtain ⟨Z, hZ⟩ : ∃ Z : List Value, Z = [.float .f32 0, .float .f32 0, .float .f32 0, .float .f32 0] := ⟨_, rfl⟩
  have hbx : Bx w [(w.heap.size + 1, Z), (w.heap.size, Z)] ((w.alloc (.cells #[.float .f32 0, .float .f32 0, .float .f32 0, .float .f32 0] 78)).alloc (.cells #[.float .f32 0, .float .f32 0, .float .f32 0, .float .f32 0] 78)) := by
    subst hZ
    have := ((Bx.nil w).box (vs := [.float .f32 0, .float .f32 0, .float .f32 0, .float .f32 0]) (t := 78)).box (vs := [.float .f32 0, .float .f32 0, .float .f32 0, .float .f32 0]) (t := 78)
    simpa using this
  have BX0 := Lib.hid hbx
  clear h hl hok hbx hn
  go_enter Tryz.func51, Tryz.ntmps51
  go_wp2
  generalize ((w.alloc (.cells #[.float .f32 0, .float .f32 0, .float .f32 0, .float .f32 0] 78)).alloc (.cells #[.float .f32 0, .float .f32 0, .float .f32 0, .float .f32 0] 78)) = W at *
  have HD : Hid (∀ x ∈ [(w.heap.size, Z)], x.1 ≠ w.heap.size + 1) := Lib.hid (fun x hx => by simp at hx; subst hx; simp)
  have HBX0 : Hid (Bx w [(w.heap.size + 1, fl4 fun _ => 0), (w.heap.size, Z)] W) := Lib.hid (by rw [hZ] at BX0 ⊢; exact BX0.out)
  clear BX0
  generalize hbx : w.heap.size + 1 = bx at *
  generalize hrb : w.heap.size = rb at HD HBX0 ⊢
  go_loopw [10] (fun i w' => ∃ k : Nat, k ≤ es.length ∧ i = .int .i64 k ∧ Aside (∃ p, Bx w [(bx, fl4 p), (rb, Z)] w' ∧ ∀ j, j < 4 → FV .f32 (p j) (partC cs (es.take k) j))) (fun i _ => es.length - (intOf i).toNat)
  case atStart => exact ⟨0, Nat.zero_le _, rfl, fun _ => 0, HBX0.out, fun j _ => (⟨by decide, by decide⟩ : FV .f32 0 (some 0))⟩
  case round =>
    obtain ⟨k, hk, rfl, hA⟩ := hrel
    obtain ⟨p, hBX, hF⟩ := hA.out
    have BX := Lib.hid hBX
    have HFK := Lib.hid hF
    clear hA hBX hF
    by_cases hlt : k < es.length
    · have hk0 : (0 : Int) ≤ (k : Int) := by omega
      have hk1 : (k : Int) < (es.length : Int) := by omega
      obtain ⟨lg, u0, rfl, hcell, hu⟩ := (HL.out.below BX.out.bel) k hlt
      have HKS := Lib.hid (fun i => partC_s cs es hlt i)
      have hek := HOK.out k hlt
      generalize es.getD k (.sp s0) = e at *
      go_wp2_with fail
      clear hcell
      have JP := Lib.hid (fun w1 => impl_partOf e u0 w1 hu)
      have hi4 := en_part_lt e
      have HF := Lib.hid (HFK.out e.part hi4)
      generalize hE : e.E cs = E at *
      generalize hi' : e.part = i at *
      have hc : partC cs (List.take k es) i = partC cs (List.take k es) i := rfl
      generalize hcc : partC cs (List.take k es) i = c at HF
      have hi0 : (0 : Int) ≤ (i : Int) := by omega
      have hi1 : (i : Int) < 4 := by omega
      have hi := hi4
      refine Reg3.wp_region_mix (C := Bx w [(bx, fl4 p), (rb, Z)]) (G := fun _ _ => True) (R := fun i' v w' => match i' with | 0 => v = u0 | 1 => v = .int .i64 (i : Int) | 2 => v = .pointer (some ⟨bx, i, none⟩) | 3 => v = .float .f32 (p i) | 4 => v = u0 | 5 => v = .slice pa pl pc | 6 => ∃ r, v = .float .f32 r ∧ FV .f32 r E | 7 => ∃ r, v = .float .f32 r ∧ FV .f32 r (fop .add .f32 c E) | 8 => v = .pointer (some ⟨bx, i, none⟩) | _ => True) (T := fun _ _ w' => ∃ r, FV .f32 r (fop .add .f32 c E) ∧ Bx w [(bx, fl4 (upd p i r)), (rb, Z)] w') [false, false, false, false, false, false, false, false, false, false, false, false, false, false, true, true, true, true, true, true, true, true, true, false, false]
        (by kernel_rfl) (by kernel_rfl) (by kernel_rfl) (fun _ _ _ _ _ _ h => h) (BX.out.drewN 1) ?_ ?_
      · refine ⟨Reg3.Obl.mk ?_, Reg3.Obl.mk ?_, Reg3.Obl.mk ?_, Reg3.Obl.mk ?_, Reg3.Obl.mk ?_, Reg3.Obl.mk ?_, Reg3.Obl.mk ?_, Reg3.Obl.mk ?_, Reg3.Obl.mk ?_, Reg3.Obl.mk ?_, trivial⟩
        · rintro a w1 hC hx hd K hK
          have HC := Lib.hid hC
          clear hC
          have t7 : a.tmps[7]?.getD undef = u0 := Reg.slot_val (hx 7 (by kernel_rfl))
          go_simp
          exact hK _ _ (fun _ => rfl) (fun h => by cases h) (fun _ => HC.out) trivial
        · rintro a w1 hC hx hd K hK
          have HC := Lib.hid hC
          clear hC
          have t14 : a.tmps[14]?.getD undef = u0 := Reg.slot_val (hd 0 (by kernel_rfl) 14 rfl)
          go_simp
          refine (JP.out w1).mono ?_
          rintro en w2 ⟨rfl, hw2⟩
          rw [hw2]
          exact hK _ _ (fun _ => rfl) (fun h => by cases h) (fun _ => HC.out) trivial
        · rintro a w1 hC hx hd K hK
          have HC := Lib.hid hC
          clear hC
          have t5 : a.tmps[5]?.getD undef = .pointer (some ⟨bx, 0, none⟩) := Reg.slot_val (hx 5 (by kernel_rfl))
          have t15 : a.tmps[15]?.getD undef = .int .i64 (i : Int) := Reg.slot_val (hd 1 (by kernel_rfl) 15 rfl)
          go_simp
          exact hK _ _ (fun _ => rfl) (fun h => by cases h) (fun _ => HC.out) trivial
        · rintro a w1 hC hx hd K hK
          have HC := Lib.hid hC
          clear hC
          have t16 : a.tmps[16]?.getD undef = .pointer (some ⟨bx, i, none⟩) := Reg.slot_val (hd 2 (by kernel_rfl) 16 rfl)
          have z0 := (HC.out.mem (.head _)) i _ (fl4_get p hi)
          go_simp
          exact hK _ _ (fun _ => rfl) (fun h => by cases h) (fun _ => HC.out) trivial
        · rintro a w1 hC hx hd K hK
          have HC := Lib.hid hC
          clear hC
          have t7 : a.tmps[7]?.getD undef = u0 := Reg.slot_val (hx 7 (by kernel_rfl))
          go_simp
          exact hK _ _ (fun _ => rfl) (fun h => by cases h) (fun _ => HC.out) trivial
        · rintro a w1 hC hx hd K hK
          have HC := Lib.hid hC
          clear hC
          have t1 : a.tmps[1]?.getD undef = .slice pa pl pc := Reg.slot_val (hx 1 (by kernel_rfl))
          go_simp
          exact hK _ _ (fun _ => rfl) (fun h => by cases h) (fun _ => HC.out) trivial
        · rintro a w1 hC hx hd K hK
          have HC := Lib.hid hC
          clear hC
          have t18 : a.tmps[18]?.getD undef = u0 := Reg.slot_val (hd 4 (by kernel_rfl) 18 rfl)
          have t19 : a.tmps[19]?.getD undef = .slice pa pl pc := Reg.slot_val (hd 5 (by kernel_rfl) 19 rfl)
          have hW1 := HV.out.below HC.out.bel
          clear JP
          cases e with
          | sp s =>
            obtain ⟨x, y, rfl, fx, fy⟩ := hu
            have hJ := spring_energy s x y pa pl pc cs w1 hW1 hek.1 hek.2 fx fy
            rw [hE] at hJ
            clear hek hE hi'
            go_simp
            try go_invoke
            try go_simp
            refine hJ.mono ?_
            rintro en w2 ⟨r, rfl, hr, hB2⟩
            exact hK _ _ (fun _ => ⟨r, rfl, hr⟩) (fun h => by cases h) (fun _ => HC.out.call hB2) trivial
          | fi t f =>
            obtain ⟨x, rfl, fx⟩ := hu
            have hJ := film_energy t f x pa pl pc cs w1 hW1 hek fx
            rw [hE] at hJ
            clear hek hE hi'
            go_simp
            try go_invoke
            try go_simp
            refine hJ.mono ?_
            rintro en w2 ⟨r, rfl, hr, hB2⟩
            exact hK _ _ (fun _ => ⟨r, rfl, hr⟩) (fun h => by cases h) (fun _ => HC.out.call hB2) trivial
          | hi h b =>
            obtain ⟨x, rfl, fx⟩ := hu
            have hJ := hinge_energy h b x pa pl pc cs w1 hW1 hek fx
            rw [hE] at hJ
            clear hek hE hi'
            go_simp
            try go_invoke
            try go_simp
            refine hJ.mono ?_
            rintro en w2 ⟨r, rfl, hr, hB2⟩
            exact hK _ _ (fun _ => ⟨r, rfl, hr⟩) (fun h => by cases h) (fun _ => HC.out.call hB2) trivial
          | we pp wc f =>
            obtain ⟨x, ra, rb', rc, rfl, fx, ff⟩ := hu
            have hJ := weight_energy pp wc f x ra rb' rc pa pl pc cs w1 hW1 hek fx ff
            rw [hE] at hJ
            clear hek hE hi'
            go_simp
            try go_invoke
            try go_simp
            refine hJ.mono ?_
            rintro en w2 ⟨r, rfl, hr, hB2⟩
            exact hK _ _ (fun _ => ⟨r, rfl, hr⟩) (fun h => by cases h) (fun _ => HC.out.call hB2) trivial
        · rintro a w1 hC hx hd K hK
          have HC := Lib.hid hC
          clear hC
          have t17 : a.tmps[17]?.getD undef = .float .f32 (p i) := Reg.slot_val (hd 3 (by kernel_rfl) 17 rfl)
          obtain ⟨r20, g20, f20⟩ := hd 6 (by kernel_rfl) 20 rfl
          have t20 := Reg.slot_val g20
          clear g20
          go_simp
          exact hK _ _ (fun _ => ⟨_, rfl, FV_fR HF.out f20⟩) (fun h => by cases h) (fun _ => HC.out.drewN _) trivial
        · rintro a w1 hC hx hd K hK
          have HC := Lib.hid hC
          clear hC
          have t5 : a.tmps[5]?.getD undef = .pointer (some ⟨bx, 0, none⟩) := Reg.slot_val (hx 5 (by kernel_rfl))
          have t15 : a.tmps[15]?.getD undef = .int .i64 (i : Int) := Reg.slot_val (hd 1 (by kernel_rfl) 15 rfl)
          go_simp
          exact hK _ _ (fun _ => rfl) (fun h => by cases h) (fun _ => HC.out) trivial
        · rintro a w1 hC hx hd K hK
          have HC := Lib.hid hC
          clear hC
          have t22 : a.tmps[22]?.getD undef = .pointer (some ⟨bx, i, none⟩) := Reg.slot_val (hd 8 (by kernel_rfl) 22 rfl)
          obtain ⟨r21, g21, f21⟩ := hd 7 (by kernel_rfl) 21 rfl
          have t21 := Reg.slot_val g21
          clear g21
          have z0 := (HC.out.mem (.head _)) i _ (fl4_get p hi)
          have k0 := HC.out.free (.head _) i
          go_simp
          exact hK undef _ (fun h => absurd rfl h) (fun _ => ⟨r21, f21, by rw [← fl4_set p hi]; exact HC.out.set HD.out i _⟩) (fun h => absurd rfl h) trivial
      · rintro f wz hR hT
        obtain ⟨r, hr, hB⟩ := hT 9 rfl (Nat.le_of_ble_eq_true rfl)
        simp only [Reg.mixL, Nat.zero_add, Nat.reduceAdd]
        have HB1 := Lib.hid hB
        have HF1 : Hid (∀ j, j < 4 → FV .f32 (upd p i r j) (partC cs (es.take (k + 1)) j)) := Lib.hid (fun j hj => by
          rw [HKS.out j]
          unfold upd
          by_cases h : j = i
          · subst h
            rw [if_pos rfl, if_pos rfl, hcc]
            exact hr
          · rw [if_neg h, if_neg (fun e => h e.symm)]
            exact HFK.out j hj)
        have hn8 := HN.out
        clear hR hT hB hr
        go_wp2
        go_roundw
        case rel => exact ⟨k + 1, by omega, by go_num, _, HB1.out, HF1.out⟩
        case measure => simp [intOf]; omega
    · obtain rfl : k = es.length := by omega
      have HF1 : Hid (∀ j, j < 4 → FV .f32 (p j) (partC cs es j)) := Lib.hid (by have := HFK.out; rwa [List.take_of_length_le (Nat.le_refl _)] at this)
      have c0 := (BX.out.mem (.head _)) 0 _ rfl
      have c1 := (BX.out.mem (.head _)) 1 _ rfl
      have c2 := (BX.out.mem (.head _)) 2 _ rfl
      have c3 := (BX.out.mem (.head _)) 3 _ rfl
      have hd0 : rb ≠ bx := HD.out _ (.head _)
      have d0 := (BX.out.mem (.tail _ (.head _))) 0 _ (by rw [hZ]; rfl)
      have d1 := (BX.out.mem (.tail _ (.head _))) 1 _ (by rw [hZ]; rfl)
      have d2 := (BX.out.mem (.tail _ (.head _))) 2 _ (by rw [hZ]; rfl)
      have d3 := (BX.out.mem (.tail _ (.head _))) 3 _ (by rw [hZ]; rfl)
      have f0 := BX.out.free (.tail _ (.head _)) 0
      have f1 := BX.out.free (.tail _ (.head _)) 1
      have f2 := BX.out.free (.tail _ (.head _)) 2
      have f3 := BX.out.free (.tail _ (.head _)) 3
      have hR := at_setL (vs := [.float .f32 (p 0), .float .f32 (p 1), .float .f32 (p 2), .float .f32 (p 3)]) (o := 0) (BX.out.mem (.tail _ (.head _))) (by rw [hZ]; exact Nat.le_of_ble_eq_true rfl)
      have hBB := setL_below rb (BX.out.low (.tail _ (.head _))) [.float .f32 (p 0), .float .f32 (p 1), .float .f32 (p 2), .float .f32 (p 3)] _ 0 BX.out.bel
      simp only [setL, Nat.zero_add, Nat.reduceAdd] at hR hBB
      have HR := Lib.hid hR
      have HBB := Lib.hid hBB
      clear hR hBB
      go_wp2
      clear c0 c1 c2 c3 d0 d1 d2 d3 f0 f1 f2 f3
      have m0 := HR.out 0 _ rfl
      have m1 := HR.out 1 _ rfl
      have m2 := HR.out 2 _ rfl
      have m3 := HR.out 3 _ rfl
      have HP4 : Hid (Value.agg #[.float .f32 (p 0), .float .f32 (p 1), .float .f32 (p 2), .float .f32 (p 3)] = Value.agg (fl4 p).toArray) := rfl
      refine bodyPost_ret (v := .agg #[.float .f32 (p 0), .float .f32 (p 1), .float .f32 (p 2), .float .f32 (p 3)]) (by simp [results, Tryz.results51, go_sem, m0, m1, m2, m3]) rfl ?_
      exact ⟨p, rfl, HF1.out, HBB.out⟩
set_option maxHeartbeats 4000000 in
theorem impl_sumEnergy (pa la : Option Addr) (pl pc lc : Nat) (cs : List C3) (es : List En) (w : World) (h : IsVs w pa pl pc cs) (hl : EnS w la es) (hn : es.length ≤ 8192) (hok : ∀ j, j < es.length → (es.getD j (.sp s0)).ok pl) :
    Calls Tryz.prog 59 #[.slice la es.length lc, .slice pa pl pc] w fun en w' => ∃ r, en = .returned (.float .f32 r) ∧ FV .f32 r (fop .add .f32 (fop .add .f32 (fop .add .f32 (partC cs es 0) (partC cs es 1)) (partC cs es 2)) (partC cs es 3)) ∧ Below w.heap.size w w' := by
  have u := Tryz.underlying27
  have J := Lib.hid (impl_sumParts pa la pl pc lc cs es w h hl hn hok)
  generalize partC cs es = P at *
  clear h hl hok hn
  go_enter Tryz.func59, Tryz.ntmps59
  go_wp2_with fail
  refine J.out.mono ?_
  rintro e w1 ⟨p, rfl, hF, hB⟩
  have F0 := hF 0 (by decide)
  have F1 := hF 1 (by decide)
  have F2 := hF 2 (by decide)
  have F3' := hF 3 (by decide)
  have HFs := Lib.hid (And.intro F0 (And.intro F1 (And.intro F2 F3')))
  have HB := Lib.hid hB
  clear hF hB F0 F1 F2 F3'
  unfold fl4
  simp only [List.toArray]
  go_wp2
  go_ret
  exact ⟨_, rfl, FV_fR (FV_fR (FV_fR HFs.out.1 HFs.out.2.1) HFs.out.2.2.1) HFs.out.2.2.2, below_drewN (HB.out.alloc HB.out.size _) _⟩
end Go.Proofs.YtnbfaedopjkgpaaGreat


/-
The parts of a body's energy, and the energy: what the program returns. Conditions: the body lies in memory.
-/
namespace Go.Proofs.YtnbfaedopjkgpaaGreat
namespace Reg5
open Go Reg
/-- The store that comes last. -/
theorem Obl.fin {P : Program} {ops : Array Oper} {Q : Exit → Act → World → Prop} {m : Nat} {a0 : Act} {C D : World → Prop} {G G' : World → World → Prop} {R : Nat → Value → World → Prop} {T : Nat → Act → World → Prop} {i : Nat} {o : Oper} (hi : decide (i = m) = true) (hn : o.dst = none)
    (h : ∀ a w, C w → (∀ t, ((List.range ops.size).all fun j => slotOf ops j != some t || behind ops i j) = true → a.eval (.tmp t) = a0.eval (.tmp t)) →
      (∀ j, behind ops j i = true → Has ops R j a w) → ∀ K : Act → World → Prop, (∀ v w', T i a w' → K (a.put o.dst v) w') → o.wp P a w K Q) : Obl P ops m a0 C D G G' R T Q i o := by
  have hi' := of_decide_eq_true hi
  intro a w hC _ he hd
  refine h a w (hC (by omega)) he (fun j hj => hd j hj (.inl (by omega))) _ fun v w' h1 => ⟨v, rfl, fun e => absurd hn e, fun _ => h1, fun hm => ?_, fun _ e => absurd hn e, fun _ e => absurd hn e⟩
  omega
end Reg5
open Go Fk Go.RowKit
set_option linter.unusedVariables false
set_option maxRecDepth 16000

theorem ensW_get (zs : List Nat) (f : C3) (k j : Nat) (hj : j < k) : (ensW zs f k).getD j (.sp s0) = .we (j : Int) (cls .f32 (zs.getD j 0)) f := by
  unfold ensW
  simp [List.getD, hj]
theorem en_mem {es : List En} {j : Nat} (hj : j < es.length) : es.getD j (.sp s0) ∈ es := by
  rw [List.getD, List.getElem?_eq_getElem hj]
  exact List.getElem_mem _
theorem ens_ok {c : Bc} (hb : bodyB c = true) : (ens c).length ≤ 8192 ∧ ∀ j, j < (ens c).length → ((ens c).getD j (.sp s0)).ok c.cs.length := by
  obtain ⟨hvb, hzl⟩ := body_valid hb
  obtain ⟨v1, v2⟩ := body_ss hb
  obtain ⟨w1, w2⟩ := valid_pl hvb
  have hh := hgT_len hvb
  refine ⟨?_, fun j hj => ?_⟩
  · unfold ens
    simp only [List.length_append, List.length_map, ensW, List.length_range]
    omega
  · have hm := en_mem hj
    generalize (ens c).getD j (.sp s0) = e at *
    unfold ens at hm
    rcases List.mem_append.1 hm with hm | hm
    · rcases List.mem_append.1 hm with hm | hm
      · rcases List.mem_append.1 hm with hm | hm
        · obtain ⟨s, hs, rfl⟩ := List.mem_map.1 hm
          obtain ⟨k, hk, rfl⟩ := List.mem_iff_getElem.1 hs
          have := v2 k hk
          have e : c.ss.getD k s0 = c.ss[k] := by simp [List.getD, hk]
          rw [e] at this
          exact this
        · obtain ⟨t, ht, rfl⟩ := List.mem_map.1 hm
          obtain ⟨k, hk, rfl⟩ := List.mem_iff_getElem.1 ht
          have := valid_rowh hvb hk
          have e : c.ts.getD k [] = c.ts[k] := by simp [List.getD, hk]
          rw [e] at this
          exact this
      · obtain ⟨h, hh, rfl⟩ := List.mem_map.1 hm
        unfold hgT at hh
        rw [hvb, cond_true] at hh
        obtain ⟨a, b, hab, hbn, rfl, h4⟩ := hgK_mem hh
        have hl := hrow_four h4
        have hin := hrow_in (n := c.cs.length) (fun i (hi : i < c.ts.length) => tri3_of (valid_rowh hvb hi)) hab hbn
        generalize hrow c.ts ((a : Int), (b : Int)) = r at *
        intro i hi
        have hm2 : r.getD i 0 ∈ r := by
          have hir : i < r.length := by omega
          rw [List.getD, List.getElem?_eq_getElem hir]
          exact List.getElem_mem _
        have := hin _ hm2
        unfold inB
        exact decide_eq_true ⟨this.1, this.2⟩
    · unfold ensW at hm
      obtain ⟨k, hk, rfl⟩ := List.mem_map.1 hm
      have := List.mem_range.1 hk
      show inB c.cs.length (k : Int) = true
      unfold inB
      exact decide_eq_true ⟨by omega, by omega⟩
/-- The parts of the energy. -/
def prT (c : Bc) : List (Option Nat) := bif bodyB c then [partC c.cs (ens c) 0, partC c.cs (ens c) 1, partC c.cs (ens c) 2, partC c.cs (ens c) 3] else []
theorem prT_len (c : Bc) : (prT c).length ≤ 4 := by
  unfold prT
  cases bodyB c <;> simp
/-- The energy. -/
def enT (c : Bc) : Option Nat := bif bodyB c then fop .add .f32 (fop .add .f32 (fop .add .f32 (partC c.cs (ens c) 0) (partC c.cs (ens c) 1)) (partC c.cs (ens c) 2)) (partC c.cs (ens c) 3) else some 0
set_option maxHeartbeats 8000000 in
theorem impl_PartsOf (B : Bd) (c : Bc) (w : World) (h : IsB w B c) :
    Calls Tryz.prog 14 #[B.v] w fun e w' => (∃ a cap, e = .returned (.tuple #[.slice a (prT c).length cap, .bool (bodyB c)]) ∧ IsCs32 w' a (prT c).length cap (prT c) ∧ Lst w.heap.size w'.heap.size w' a (prT c).length) ∧ Below w.heap.size w w' := by
  have uib := Tryz.underlying42
  have BX : Hid (Bx w [(w.heap.size, B.l)] (w.alloc (BoxB B 42))) := Lib.hid ((Bx.nil w).box (vs := B.l) (t := 42))
  have J := Lib.hid (impl_ValidBody B c (w.alloc (BoxB B 42)) (h.below BX.out.bel))
  have H := Lib.hid h
  cases hv : bodyB c
  · rw [hv] at J
    have he : prT c = [] := by unfold prT; rw [hv]; rfl
    rw [he]
    clear hv h he
    go_enter Tryz.func14, Tryz.ntmps14
    go_wp2_with fail
    change Calls _ _ _ (w.alloc (BoxB B 42)) _
    generalize (w.alloc (BoxB B 42)) = W at *
    refine J.out.mono ?_
    rintro e w1 ⟨rfl, hB1⟩
    have BX1 := Lib.hid (BX.out.call hB1)
    clear hB1
    go_wp2
    go_ret2
    exact ⟨⟨none, 0, rfl, ⟨[], ⟨rfl, Nat.le_refl _, by unfold maxLen; omega, fun z hz => (by cases hz), fun _ => ⟨rfl, rfl⟩, fun x hx => (by cases hx)⟩, fun k hk => absurd hk (by simp), rfl⟩, .inl ⟨rfl, rfl⟩⟩, BX1.out.bel⟩
  · rw [hv] at J
    obtain ⟨hel, hok⟩ := ens_ok hv
    have hpl : c.cs.length = B.pl := h.1.1
    rw [hpl] at hok
    have HOK := Lib.hid hok
    have HEL := Lib.hid hel
    have JE := Lib.hid (fun w1 h1 => impl_energies B c w1 h1 hv)
    have he : prT c = [partC c.cs (ens c) 0, partC c.cs (ens c) 1, partC c.cs (ens c) 2, partC c.cs (ens c) 3] := by unfold prT; rw [hv]; rfl
    rw [he]
    clear hv h he hel hok hpl
    go_enter Tryz.func14, Tryz.ntmps14
    go_wp2_with fail
    change Calls _ _ _ (w.alloc (BoxB B 42)) _
    generalize (w.alloc (BoxB B 42)) = W0 at *
    refine J.out.mono ?_
    rintro e W ⟨rfl, hB1⟩
    have BX1 := Lib.hid (BX.out.call hB1)
    clear hB1 J BX
    go_wp2_with fail
    refine Reg5.wp_region_mix (m := 7) (C := fun w' => Below W.heap.size W w') (D := fun _ => True) (G := fun w1 w2 => Below w1.heap.size w1 w2) (G' := fun _ _ => True)
      (R := fun i v w' => match i with | 0 => v = B.v | 1 => ∃ la lc, v = .slice la (ens c).length lc ∧ EnS w' la (ens c) | 2 => v = .pointer (some ⟨w.heap.size, 0, none⟩) | 3 => v = .pointer (some ⟨w.heap.size, 0, none⟩) | 4 => v = .slice B.pa B.pl B.pc | 5 => ∃ q, v = .agg (fl4 q).toArray ∧ ∀ j, j < 4 → FV .f32 (q j) (partC c.cs (ens c) j) | 6 => ∃ b, v = .pointer (some ⟨b, 0, none⟩) ∧ W.heap.size ≤ b ∧ b < w'.heap.size ∧ At w' b [.float .f32 0, .float .f32 0, .float .f32 0, .float .f32 0] ∧ Fr w' b | _ => True)
      (T := fun _ a w' => ∃ b q, a.tmps[4]?.getD undef = .pointer (some ⟨b, 0, none⟩) ∧ W.heap.size ≤ b ∧ b < w'.heap.size ∧ At w' b (fl4 q) ∧ Fr w' b ∧ (∀ j, j < 4 → FV .f32 (q j) (partC c.cs (ens c) j)) ∧ Below W.heap.size W w') [false, false, false, false, true, false, false, false, true, true, true, true, true, true, false]
      (by kernel_rfl) (by kernel_rfl) (by kernel_rfl) (by kernel_rfl) ?_ ?_ (below_drewN (Below.refl _ _) 1) ?_ ?_
    · intro j v wa wb hj _ hG hR
      match j with
      | 0 => exact hR
      | 1 => obtain ⟨la, lc, e, h1⟩ := hR; exact ⟨la, lc, e, h1.below hG⟩
      | 2 => exact hR
      | 3 => exact hR
      | 4 => exact hR
      | 5 => exact hR
      | 6 => obtain ⟨b, e, h1, h2, h3, h4⟩ := hR; exact ⟨b, e, h1, Nat.lt_of_lt_of_le h2 hG.size, h3.below hG, h4.below hG h2⟩
      | _ + 7 => exact absurd hj (by omega)
    · intro j v wa wb hj _ _ _
      match j, hj with
      | 0, hj => exact absurd hj (by omega)
      | 1, hj => exact absurd hj (by omega)
      | 2, hj => exact absurd hj (by omega)
      | 3, hj => exact absurd hj (by omega)
      | 4, hj => exact absurd hj (by omega)
      | 5, hj => exact absurd hj (by omega)
      | 6, hj => exact absurd hj (by omega)
      | _ + 7, _ => trivial
    · refine ⟨Reg5.Obl.early rfl rfl ?_, Reg5.Obl.early rfl rfl ?_, Reg5.Obl.early rfl rfl ?_, Reg5.Obl.early rfl rfl ?_, Reg5.Obl.early rfl rfl ?_, Reg5.Obl.early rfl rfl ?_, Reg5.Obl.early rfl rfl ?_, Reg5.Obl.fin rfl rfl ?_, trivial⟩
      · rintro a w1 hC hx hd K hK
        have HC := Lib.hid hC
        clear hC
        have t1 : a.tmps[1]?.getD undef = .pointer (some ⟨w.heap.size, 0, none⟩) := Reg.slot_val (hx 1 (by kernel_rfl))
        have BXw := BX1.out.call HC.out
        have b0 := (BXw.mem (.head _)) 0 _ rfl
        have b1 := (BXw.mem (.head _)) 1 _ rfl
        have b2 := (BXw.mem (.head _)) 2 _ rfl
        have b3 := (BXw.mem (.head _)) 3 _ rfl
        have b4 := (BXw.mem (.head _)) 4 _ rfl
        have b5 := (BXw.mem (.head _)) 5 _ rfl
        have b6 := (BXw.mem (.head _)) 6 _ rfl
        have b7 := (BXw.mem (.head _)) 7 _ rfl
        have b8 := (BXw.mem (.head _)) 8 _ rfl
        go_simp
        exact hK _ _ rfl HC.out (Below.refl _ _)
      · rintro a w1 hC hx hd K hK
        have HC := Lib.hid hC
        clear hC
        have t8 : a.tmps[8]?.getD undef = B.v := Reg.slot_val (hd 0 (by kernel_rfl) 8 rfl)
        go_simp
        refine (JE.out w1 (H.out.below (BX1.out.call HC.out).bel)).mono ?_
        rintro en w2 ⟨v, rfl, hv, hB2⟩
        obtain ⟨la, lc, rfl, hat⟩ := hv.at
        exact hK _ _ ⟨la, lc, rfl, hat⟩ (HC.out.trans (hB2.mono HC.out.size)) hB2
      · rintro a w1 hC hx hd K hK
        have HC := Lib.hid hC
        clear hC
        have t1 : a.tmps[1]?.getD undef = .pointer (some ⟨w.heap.size, 0, none⟩) := Reg.slot_val (hx 1 (by kernel_rfl))
        go_simp
        exact hK _ _ rfl HC.out (Below.refl _ _)
      · rintro a w1 hC hx hd K hK
        have HC := Lib.hid hC
        clear hC
        have t10 : a.tmps[10]?.getD undef = .pointer (some ⟨w.heap.size, 0, none⟩) := Reg.slot_val (hd 2 (by kernel_rfl) 10 rfl)
        go_simp
        exact hK _ _ rfl HC.out (Below.refl _ _)
      · rintro a w1 hC hx hd K hK
        have HC := Lib.hid hC
        clear hC
        have t11 : a.tmps[11]?.getD undef = .pointer (some ⟨w.heap.size, 0, none⟩) := Reg.slot_val (hd 3 (by kernel_rfl) 11 rfl)
        have b0 := ((BX1.out.call HC.out).mem (.head _)) 0 _ rfl
        go_simp
        exact hK _ _ rfl HC.out (Below.refl _ _)
      · rintro a w1 hC hx hd K hK
        have HC := Lib.hid hC
        clear hC
        obtain ⟨la, lc, g9, hE⟩ := hd 1 (by kernel_rfl) 9 rfl
        have t9 := Reg.slot_val g9
        clear g9
        have t12 : a.tmps[12]?.getD undef = .slice B.pa B.pl B.pc := Reg.slot_val (hd 4 (by kernel_rfl) 12 rfl)
        have HE := Lib.hid hE
        clear hE
        go_simp
        refine (impl_sumParts B.pa la B.pl B.pc lc c.cs (ens c) w1 (H.out.below (BX1.out.call HC.out).bel).1 HE.out HEL.out HOK.out).mono ?_
        rintro en w2 ⟨q, rfl, hF, hB2⟩
        exact hK _ _ ⟨q, rfl, hF⟩ (HC.out.trans (hB2.mono HC.out.size)) hB2
      · rintro a w1 hC hx hd K hK
        have HC := Lib.hid hC
        clear hC
        go_simp
        have hB2 : Below w1.heap.size w1 (w1.alloc (.cells #[.float .f32 0, .float .f32 0, .float .f32 0, .float .f32 0] 78)) := (Below.refl _ _).alloc (Nat.le_refl _) _
        exact hK _ _ ⟨w1.heap.size, rfl, HC.out.size, by simp, At.new, Fr.new⟩ (HC.out.trans (hB2.mono HC.out.size)) hB2
      · rintro a w1 hC hx hd K hK
        have HC := Lib.hid hC
        clear hC
        obtain ⟨q, g13, hF⟩ := hd 5 (by kernel_rfl) 13 rfl
        have t13 : a.tmps[13]?.getD undef = .agg #[.float .f32 (q 0), .float .f32 (q 1), .float .f32 (q 2), .float .f32 (q 3)] := Reg.slot_val g13
        obtain ⟨b, g4, h1, h2, h3, h4⟩ := hd 6 (by kernel_rfl) 4 rfl
        have t4 := Reg.slot_val g4
        clear g13 g4
        have HB4 := Lib.hid (And.intro h1 (And.intro h2 (And.intro h3 h4)))
        have z0 := h3 0 _ rfl
        have z1 := h3 1 _ rfl
        have z2 := h3 2 _ rfl
        have z3 := h3 3 _ rfl
        have k0 := h4 0
        have k1 := h4 1
        have k2 := h4 2
        have k3 := h4 3
        have hR := at_setL (vs := [.float .f32 (q 0), .float .f32 (q 1), .float .f32 (q 2), .float .f32 (q 3)]) (o := 0) h3 (Nat.le_of_ble_eq_true rfl)
        have hBB := setL_below b h1 [.float .f32 (q 0), .float .f32 (q 1), .float .f32 (q 2), .float .f32 (q 3)] _ 0 HC.out
        simp only [setL, Nat.zero_add, Nat.reduceAdd] at hR hBB
        have HR := Lib.hid hR
        have HBB := Lib.hid hBB
        clear hR hBB h1 h2 h3 h4
        go_simp
        exact hK undef _ ⟨b, q, t4, HB4.out.1, by simpa using HB4.out.2.1, HR.out, ((((HB4.out.2.2.2).setC).setC).setC).setC, hF, HBB.out⟩
    · rintro f wz hR hT
      obtain ⟨b, q, e4, h1, h2, h3, h4, h5, h6⟩ := hT 7 rfl (Nat.le_of_ble_eq_true rfl)
      have g4 : f 4 = .pointer (some ⟨b, 0, none⟩) := e4
      simp only [Reg.mixL, Nat.zero_add, Nat.reduceAdd, g4]
      have HQ := Lib.hid (And.intro h1 (And.intro h2 (And.intro h3 (And.intro h4 (And.intro h5 (BX1.out.call h6))))))
      have HZ : Hid (w.heap.size ≤ W.heap.size) := Lib.hid BX1.out.bel.size
      clear hR hT e4 h1 h2 h3 h4 h5 h6 g4
      go_wp2
      go_ret2
      obtain ⟨h1, h2, h3, h4, h5, h6⟩ := HQ.out
      have hz := HZ.out
      have hfs : ∀ k, k < 4 → q k < 2 ^ FloatKind.f32.format.width := fun k hk => (h5 k hk).1
      refine ⟨⟨some ⟨b, 0, none⟩, 4, rfl, ⟨[q 0, q 1, q 2, q 3], ⟨rfl, Nat.le_refl _, by unfold maxLen; simp, fun z hzm => ?_, fun e => (by cases e), fun x hx j hj => ?_⟩, fun k hk => ?_, rfl⟩, .inr ⟨b, rfl, by omega, h2, h2, fun j hj => ⟨?_, ?_⟩⟩⟩, h6.bel⟩
      · simp at hzm
        rcases hzm with rfl | rfl | rfl | rfl
        · exact hfs 0 (by decide)
        · exact hfs 1 (by decide)
        · exact hfs 2 (by decide)
        · exact hfs 3 (by decide)
      · cases hx
        have hj4 : j < 4 := hj
        rw [addr_add', Nat.zero_add, h3 j _ (fl4_get q hj4)]
        match j, hj4 with
        | 0, _ => rfl
        | 1, _ => rfl
        | 2, _ => rfl
        | 3, _ => rfl
      · have hk4 : k < 4 := hk
        match k, hk4 with
        | 0, _ => exact h5 0 (by decide)
        | 1, _ => exact h5 1 (by decide)
        | 2, _ => exact h5 2 (by decide)
        | 3, _ => exact h5 3 (by decide)
      · have hj4 : j < 4 := hj
        rw [Nat.zero_add]
        exact ⟨_, h3 j _ (fl4_get q hj4)⟩
      · rw [Nat.zero_add]
        exact h4 j
set_option maxHeartbeats 8000000 in
theorem impl_EnergyOf (B : Bd) (c : Bc) (w : World) (h : IsB w B c) :
    Calls Tryz.prog 21 #[B.v] w fun e w' => (∃ r, e = .returned (.tuple #[.float .f32 r, .bool (bodyB c)]) ∧ FV .f32 r (enT c)) ∧ Below w.heap.size w w' := by
  have uib := Tryz.underlying42
  have BX : Hid (Bx w [(w.heap.size, B.l)] (w.alloc (BoxB B 42))) := Lib.hid ((Bx.nil w).box (vs := B.l) (t := 42))
  have J := Lib.hid (impl_ValidBody B c (w.alloc (BoxB B 42)) (h.below BX.out.bel))
  have H := Lib.hid h
  cases hv : bodyB c
  · rw [hv] at J
    have he : enT c = some 0 := by unfold enT; rw [hv]; rfl
    rw [he]
    clear hv h he
    go_enter Tryz.func21, Tryz.ntmps21
    go_wp2_with fail
    change Calls _ _ _ (w.alloc (BoxB B 42)) _
    generalize (w.alloc (BoxB B 42)) = W at *
    refine J.out.mono ?_
    rintro e w1 ⟨rfl, hB1⟩
    have BX1 := Lib.hid (BX.out.call hB1)
    clear hB1
    go_wp2
    go_ret2
    exact ⟨⟨0, rfl, (⟨by decide, by decide⟩ : FV .f32 0 (some 0))⟩, BX1.out.bel⟩
  · rw [hv] at J
    obtain ⟨hel, hok⟩ := ens_ok hv
    have hpl : c.cs.length = B.pl := h.1.1
    rw [hpl] at hok
    have HOK := Lib.hid hok
    have HEL := Lib.hid hel
    have JE := Lib.hid (fun w1 h1 => impl_energies B c w1 h1 hv)
    have he : enT c = fop .add .f32 (fop .add .f32 (fop .add .f32 (partC c.cs (ens c) 0) (partC c.cs (ens c) 1)) (partC c.cs (ens c) 2)) (partC c.cs (ens c) 3) := by unfold enT; rw [hv]; rfl
    rw [he]
    clear hv h he hel hok hpl
    go_enter Tryz.func21, Tryz.ntmps21
    go_wp2_with fail
    change Calls _ _ _ (w.alloc (BoxB B 42)) _
    generalize (w.alloc (BoxB B 42)) = W0 at *
    refine J.out.mono ?_
    rintro e W ⟨rfl, hB1⟩
    have BX1 := Lib.hid (BX.out.call hB1)
    clear hB1 J BX
    go_wp2_with fail
    refine Reg.wp_region_mix (C := fun w' => Below W.heap.size W w') (G := fun w1 w2 => Below w1.heap.size w1 w2) (R := fun i v w' => match i with
      | 0 => v = B.v
      | 1 => ∃ la lc, v = .slice la (ens c).length lc ∧ EnS w' la (ens c)
      | 2 => v = .pointer (some ⟨w.heap.size, 0, none⟩)
      | 3 => v = .pointer (some ⟨w.heap.size, 0, none⟩)
      | 4 => v = .slice B.pa B.pl B.pc
      | 5 => ∃ r, v = .float .f32 r ∧ FV .f32 r (fop .add .f32 (fop .add .f32 (fop .add .f32 (partC c.cs (ens c) 0) (partC c.cs (ens c) 1)) (partC c.cs (ens c) 2)) (partC c.cs (ens c) 3))
      | 6 => ∃ r, v = .float .f32 r ∧ FV .f32 r (fop .add .f32 (fop .add .f32 (fop .add .f32 (partC c.cs (ens c) 0) (partC c.cs (ens c) 1)) (partC c.cs (ens c) 2)) (partC c.cs (ens c) 3))
      | 7 => v = .bool true
      | _ => True) (T := fun _ _ _ => True) [false, false, true, true, false, false, false, true, true, true, true, true, true]
      (by kernel_rfl) (by kernel_rfl) (by kernel_rfl) ?_ (below_drewN (Below.refl _ _) 1) ?_ ?_
    · intro j v wa wb _ hG hR
      match j with
      | 0 => exact hR
      | 1 => obtain ⟨la, lc, e, h1⟩ := hR; exact ⟨la, lc, e, h1.below hG⟩
      | 2 => exact hR
      | 3 => exact hR
      | 4 => exact hR
      | 5 => exact hR
      | 6 => exact hR
      | 7 => exact hR
      | _ + 8 => trivial
    · refine ⟨Reg.Obl.mk ?_, Reg.Obl.mk ?_, Reg.Obl.mk ?_, Reg.Obl.mk ?_, Reg.Obl.mk ?_, Reg.Obl.mk ?_, Reg.Obl.mk ?_, Reg.Obl.mk ?_, trivial⟩
      · rintro av wq hC hx hd K hK
        have HC := Lib.hid hC
        clear hC
        have t1 : av.tmps[1]?.getD undef = .pointer (some ⟨w.heap.size, 0, none⟩) := Reg.slot_val (hx 1 (by kernel_rfl))
        have BXw := BX1.out.call HC.out
        have b0 := (BXw.mem (.head _)) 0 _ rfl
        have b1 := (BXw.mem (.head _)) 1 _ rfl
        have b2 := (BXw.mem (.head _)) 2 _ rfl
        have b3 := (BXw.mem (.head _)) 3 _ rfl
        have b4 := (BXw.mem (.head _)) 4 _ rfl
        have b5 := (BXw.mem (.head _)) 5 _ rfl
        have b6 := (BXw.mem (.head _)) 6 _ rfl
        have b7 := (BXw.mem (.head _)) 7 _ rfl
        have b8 := (BXw.mem (.head _)) 8 _ rfl
        go_simp
        exact hK _ _ (fun _ => rfl) (fun h => by cases h) HC.out (Below.refl _ _)
      · rintro av wq hC hx hd K hK
        have HC := Lib.hid hC
        clear hC
        have t7 : av.tmps[7]?.getD undef = B.v := Reg.slot_val (hd 0 (by kernel_rfl) 7 rfl)
        go_simp
        refine (JE.out wq (H.out.below (BX1.out.call HC.out).bel)).mono ?_
        rintro en w2 ⟨v, rfl, hv, hB2⟩
        obtain ⟨la, lc, rfl, hat⟩ := hv.at
        exact hK _ _ (fun _ => ⟨la, lc, rfl, hat⟩) (fun h => by cases h) (HC.out.trans (hB2.mono HC.out.size)) hB2
      · rintro av wq hC hx hd K hK
        have HC := Lib.hid hC
        clear hC
        have t1 : av.tmps[1]?.getD undef = .pointer (some ⟨w.heap.size, 0, none⟩) := Reg.slot_val (hx 1 (by kernel_rfl))
        go_simp
        exact hK _ _ (fun _ => rfl) (fun h => by cases h) HC.out (Below.refl _ _)
      · rintro av wq hC hx hd K hK
        have HC := Lib.hid hC
        clear hC
        have t9 : av.tmps[9]?.getD undef = .pointer (some ⟨w.heap.size, 0, none⟩) := Reg.slot_val (hd 2 (by kernel_rfl) 9 rfl)
        go_simp
        exact hK _ _ (fun _ => rfl) (fun h => by cases h) HC.out (Below.refl _ _)
      · rintro av wq hC hx hd K hK
        have HC := Lib.hid hC
        clear hC
        have t10 : av.tmps[10]?.getD undef = .pointer (some ⟨w.heap.size, 0, none⟩) := Reg.slot_val (hd 3 (by kernel_rfl) 10 rfl)
        have b0 := ((BX1.out.call HC.out).mem (.head _)) 0 _ rfl
        go_simp
        exact hK _ _ (fun _ => rfl) (fun h => by cases h) HC.out (Below.refl _ _)
      · rintro av wq hC hx hd K hK
        have HC := Lib.hid hC
        clear hC
        obtain ⟨la, lc, g8, hE⟩ := hd 1 (by kernel_rfl) 8 rfl
        have t8 := Reg.slot_val g8
        clear g8
        have t11 : av.tmps[11]?.getD undef = .slice B.pa B.pl B.pc := Reg.slot_val (hd 4 (by kernel_rfl) 11 rfl)
        have HE := Lib.hid hE
        clear hE
        go_simp
        refine (impl_sumEnergy B.pa la B.pl B.pc lc c.cs (ens c) wq (H.out.below (BX1.out.call HC.out).bel).1 HE.out HEL.out HOK.out).mono ?_
        rintro en w2 ⟨r, rfl, hF, hB2⟩
        exact hK _ _ (fun _ => ⟨r, rfl, hF⟩) (fun h => by cases h) (HC.out.trans (hB2.mono HC.out.size)) hB2
      · rintro av wq hC hx hd K hK
        have HC := Lib.hid hC
        clear hC
        obtain ⟨r12, g12, f12⟩ := hd 5 (by kernel_rfl) 12 rfl
        have t12 := Reg.slot_val g12
        clear g12
        go_simp
        exact hK _ _ (fun _ => ⟨_, rfl, f12⟩) (fun h => by cases h) HC.out (Below.refl _ _)
      · rintro av wq hC hx hd K hK
        have HC := Lib.hid hC
        clear hC
        go_simp
        exact hK _ _ (fun _ => rfl) (fun h => by cases h) HC.out (Below.refl _ _)
    · rintro f wz hBz hR hT
      obtain ⟨r, e2, hr⟩ := hR 6 2 rfl
      have e3 : f 3 = .bool true := hR 7 3 rfl
      simp only [Reg.mixL, Nat.zero_add, Nat.reduceAdd, e2, e3]
      have HBz := Lib.hid (BX1.out.call hBz)
      have HF := Lib.hid hr
      clear hR hT hBz hr e2 e3
      go_wp2
      go_ret2
      exact ⟨⟨r, rfl, HF.out⟩, HBz.out.bel⟩
end Go.Proofs.YtnbfaedopjkgpaaGreat


/-
How much a hinge is bent, and the normal of a triangle: the model. Conditions: the mesh lies in memory, what is named is there.
-/
namespace Go.Proofs.YtnbfaedopjkgpaaGreat
open Go Fk Go.RowKit
set_option linter.unusedVariables false
set_option maxRecDepth 16000

set_option maxHeartbeats 4000000 in
theorem l03Bent (pb tb to q : Nat) (m0 m1 m2 m3 : Nat) (pa : Option Addr) (pl pc : Nat) (cs : List C3) (w : World) (a0 : w.cell? ⟨pb, 0, none⟩ = some (.slice pa pl pc)) (r0' : w.cell? ⟨tb, to, none⟩ = some (.int .i64 (m0 : Int))) (r1' : w.cell? ⟨tb, to + 1, none⟩ = some (.int .i64 (m1 : Int))) (r2' : w.cell? ⟨tb, to + 2, none⟩ = some (.int .i64 (m2 : Int))) (r3' : w.cell? ⟨tb, to + 3, none⟩ = some (.int .i64 (m3 : Int))) (h : IsVs w pa pl pc cs) (hm0 : m0 < pl) (hm1 : m1 < pl) (hm2 : m2 < pl) (hm3 : m3 < pl) :
    Calls Tryz.prog 91 #[.pointer (some ⟨pb, 0, none⟩), .slice (some ⟨tb, to, none⟩) 4 q] w fun e w' => ∃ x y z, e = .returned (vv x y z) ∧ F3 x y z (lessC (plusC (cs.getD m2 c0) (cs.getD m3 c0)) (plusC (cs.getD m0 c0) (cs.getD m1 c0))) ∧ Below w.heap.size w w' := by
  obtain ⟨pab, pao, rfl, hcell⟩ := h.some (by omega)
  have u := Tryz.underlying27
  have um := Tryz.underlying38
  have uv := Tryz.underlying40
  have hmx : pl ≤ 9223372036854775807 := by have h1 := h.2.1; have h2 := h.2.2.1; unfold maxLen at h2; omega
  have A0 := Lib.hid a0
  have R0 := Lib.hid r0'
  have R1 := Lib.hid r1'
  have R2 := Lib.hid r2'
  have R3 := Lib.hid r3'
  obtain ⟨p0, q0, r0, i00, i01, i02, f0⟩ := hcell m0 hm0
  have D0 := Lib.hid (And.intro i00 (And.intro i01 i02))
  have F0' := Lib.hid f0
  have g00 : (0 : Int) ≤ (m0 : Int) := by omega
  have g01 : (m0 : Int) < (pl : Int) := by omega
  obtain ⟨p1, q1, r1, i10, i11, i12, f1⟩ := hcell m1 hm1
  have D1 := Lib.hid (And.intro i10 (And.intro i11 i12))
  have F1' := Lib.hid f1
  have g10 : (0 : Int) ≤ (m1 : Int) := by omega
  have g11 : (m1 : Int) < (pl : Int) := by omega
  obtain ⟨p2, q2, r2, i20, i21, i22, f2⟩ := hcell m2 hm2
  have D2 := Lib.hid (And.intro i20 (And.intro i21 i22))
  have F2' := Lib.hid f2
  have g20 : (0 : Int) ≤ (m2 : Int) := by omega
  have g21 : (m2 : Int) < (pl : Int) := by omega
  obtain ⟨p3, q3, r3, i30, i31, i32, f3⟩ := hcell m3 hm3
  have D3 := Lib.hid (And.intro i30 (And.intro i31 i32))
  have F3' := Lib.hid f3
  have g30 : (0 : Int) ≤ (m3 : Int) := by omega
  have g31 : (m3 : Int) < (pl : Int) := by omega
  clear a0 h hcell r0' i00 i01 i02 f0 r1' i10 i11 i12 f1 r2' i20 i21 i22 f2 r3' i30 i31 i32 f3
  have FR : Hid (Frm w [] w.heap.size (w.alloc (.cells #[.float .f32 0, .float .f32 0, .float .f32 0] 40))) := Lib.hid ⟨(Below.refl _ _).alloc (Nat.le_refl _) _, fun b l hm => (by cases hm), Nat.le_refl _, ⟨.float .f32 0, .float .f32 0, .float .f32 0, by go_simp, by go_simp, by go_simp⟩, fun i => by go_simp⟩
  go_enter Tryz.func91, Tryz.ntmps91
  go_wp2_with fail
  generalize (w.alloc (.cells #[.float .f32 0, .float .f32 0, .float .f32 0] 40)) = W at *
  refine Reg2.wp_region_mix (C := Frm w [] (w.heap.size)) (G := fun w1 w2 => TV (w.heap.size) (lessC (plusC (cs.getD m2 c0) (cs.getD m3 c0)) (plusC (cs.getD m0 c0) (cs.getD m1 c0))) w1 → TV (w.heap.size) (lessC (plusC (cs.getD m2 c0) (cs.getD m3 c0)) (plusC (cs.getD m0 c0) (cs.getD m1 c0))) w2) (R := fun i v w' => match i with | 0 => v = .pointer (some ⟨pb, 0, none⟩) | 1 => v = .pointer (some ⟨pb, 0, none⟩) | 2 => v = .pointer (some ⟨pb, 0, none⟩) | 3 => v = .slice (some ⟨pab, pao, none⟩) pl pc | 4 => v = .slice (some ⟨tb, to, none⟩) 4 q | 5 => v = .pointer (some ⟨tb, to + 2, none⟩) | 6 => v = .int .i64 (m2 : Int) | 7 => v = .pointer (some ⟨pab, pao + m2 * 3, none⟩) | 8 => v = vv p2 q2 r2 | 9 => v = .pointer (some ⟨pb, 0, none⟩) | 10 => v = .pointer (some ⟨pb, 0, none⟩) | 11 => v = .pointer (some ⟨pb, 0, none⟩) | 12 => v = .slice (some ⟨pab, pao, none⟩) pl pc | 13 => v = .slice (some ⟨tb, to, none⟩) 4 q | 14 => v = .pointer (some ⟨tb, to + 3, none⟩) | 15 => v = .int .i64 (m3 : Int) | 16 => v = .pointer (some ⟨pab, pao + m3 * 3, none⟩) | 17 => v = vv p3 q3 r3 | 18 => ∃ p q r, v = vv p q r ∧ F3 p q r (plusC (cs.getD m2 c0) (cs.getD m3 c0)) | 19 => v = .pointer (some ⟨pb, 0, none⟩) | 20 => v = .pointer (some ⟨pb, 0, none⟩) | 21 => v = .pointer (some ⟨pb, 0, none⟩) | 22 => v = .slice (some ⟨pab, pao, none⟩) pl pc | 23 => v = .slice (some ⟨tb, to, none⟩) 4 q | 24 => v = .pointer (some ⟨tb, to, none⟩) | 25 => v = .int .i64 (m0 : Int) | 26 => v = .pointer (some ⟨pab, pao + m0 * 3, none⟩) | 27 => v = vv p0 q0 r0 | 28 => v = .pointer (some ⟨pb, 0, none⟩) | 29 => v = .pointer (some ⟨pb, 0, none⟩) | 30 => v = .pointer (some ⟨pb, 0, none⟩) | 31 => v = .slice (some ⟨pab, pao, none⟩) pl pc | 32 => v = .slice (some ⟨tb, to, none⟩) 4 q | 33 => v = .pointer (some ⟨tb, to + 1, none⟩) | 34 => v = .int .i64 (m1 : Int) | 35 => v = .pointer (some ⟨pab, pao + m1 * 3, none⟩) | 36 => v = vv p1 q1 r1 | 37 => ∃ p q r, v = vv p q r ∧ F3 p q r (plusC (cs.getD m0 c0) (cs.getD m1 c0)) | 38 => ∃ p q r, v = vv p q r ∧ F3 p q r (lessC (plusC (cs.getD m2 c0) (cs.getD m3 c0)) (plusC (cs.getD m0 c0) (cs.getD m1 c0))) | _ => True) (T := fun _ w' => TV (w.heap.size) (lessC (plusC (cs.getD m2 c0) (cs.getD m3 c0)) (plusC (cs.getD m0 c0) (cs.getD m1 c0))) w') [false, false, false, false, false, true, true, true, true, true, true, true, true, true, true, true, true, true, true, true, true, true, true, true, true, true, true, true, true, true, true, true, true, true, true, true, true, true, true, true, true, true, true, true]
    (by kernel_rfl) (by kernel_rfl) (by kernel_rfl) (fun _ _ _ _ _ _ h => h) (fun _ _ _ _ hG hT => hG hT) (Frm.drewN FR.out 1) ?_ ?_
  · refine ⟨Reg2.Obl.mk ?_, Reg2.Obl.mk ?_, Reg2.Obl.mk ?_, Reg2.Obl.mk ?_, Reg2.Obl.mk ?_, Reg2.Obl.mk ?_, Reg2.Obl.mk ?_, Reg2.Obl.mk ?_, Reg2.Obl.mk ?_, Reg2.Obl.mk ?_, Reg2.Obl.mk ?_, Reg2.Obl.mk ?_, Reg2.Obl.mk ?_, Reg2.Obl.mk ?_, Reg2.Obl.mk ?_, Reg2.Obl.mk ?_, Reg2.Obl.mk ?_, Reg2.Obl.mk ?_, Reg2.Obl.mk ?_, Reg2.Obl.mk ?_, Reg2.Obl.mk ?_, Reg2.Obl.mk ?_, Reg2.Obl.mk ?_, Reg2.Obl.mk ?_, Reg2.Obl.mk ?_, Reg2.Obl.mk ?_, Reg2.Obl.mk ?_, Reg2.Obl.mk ?_, Reg2.Obl.mk ?_, Reg2.Obl.mk ?_, Reg2.Obl.mk ?_, Reg2.Obl.mk ?_, Reg2.Obl.mk ?_, Reg2.Obl.mk ?_, Reg2.Obl.mk ?_, Reg2.Obl.mk ?_, Reg2.Obl.mk ?_, Reg2.Obl.mk ?_, Reg2.Obl.mk ?_, Reg2.Obl.mk ?_, trivial⟩
    · rintro a w1 hC hx hd K hK
      have HC := Lib.hid hC
      clear hC
      have t0 : a.tmps[0]?.getD undef = .pointer (some ⟨pb, 0, none⟩) := Reg.slot_val (hx 0 (by kernel_rfl))
      go_simp
      exact hK _ _ (fun _ => rfl) (fun h => by cases h) HC.out (fun h => h)
    · rintro a w1 hC hx hd K hK
      have HC := Lib.hid hC
      clear hC
      have t5 : a.tmps[5]?.getD undef = .pointer (some ⟨pb, 0, none⟩) := Reg.slot_val (hd 0 (by kernel_rfl) 5 rfl)
      go_simp
      exact hK _ _ (fun _ => rfl) (fun h => by cases h) HC.out (fun h => h)
    · rintro a w1 hC hx hd K hK
      have HC := Lib.hid hC
      clear hC
      have t6 : a.tmps[6]?.getD undef = .pointer (some ⟨pb, 0, none⟩) := Reg.slot_val (hd 1 (by kernel_rfl) 6 rfl)
      go_simp
      exact hK _ _ (fun _ => rfl) (fun h => by cases h) HC.out (fun h => h)
    · rintro a w1 hC hx hd K hK
      have HC := Lib.hid hC
      clear hC
      have y9 := cell_below HC.out.bel A0.out
      have t7 : a.tmps[7]?.getD undef = .pointer (some ⟨pb, 0, none⟩) := Reg.slot_val (hd 2 (by kernel_rfl) 7 rfl)
      go_simp
      exact hK _ _ (fun _ => rfl) (fun h => by cases h) HC.out (fun h => h)
    · rintro a w1 hC hx hd K hK
      have HC := Lib.hid hC
      clear hC
      have t1 : a.tmps[1]?.getD undef = .slice (some ⟨tb, to, none⟩) 4 q := Reg.slot_val (hx 1 (by kernel_rfl))
      go_simp
      exact hK _ _ (fun _ => rfl) (fun h => by cases h) HC.out (fun h => h)
    · rintro a w1 hC hx hd K hK
      have HC := Lib.hid hC
      clear hC
      have t9 : a.tmps[9]?.getD undef = .slice (some ⟨tb, to, none⟩) 4 q := Reg.slot_val (hd 4 (by kernel_rfl) 9 rfl)
      go_simp
      exact hK _ _ (fun _ => rfl) (fun h => by cases h) HC.out (fun h => h)
    · rintro a w1 hC hx hd K hK
      have HC := Lib.hid hC
      clear hC
      have z2 := cell_below HC.out.bel R2.out
      have t10 : a.tmps[10]?.getD undef = .pointer (some ⟨tb, to + 2, none⟩) := Reg.slot_val (hd 5 (by kernel_rfl) 10 rfl)
      go_simp
      exact hK _ _ (fun _ => rfl) (fun h => by cases h) HC.out (fun h => h)
    · rintro a w1 hC hx hd K hK
      have HC := Lib.hid hC
      clear hC
      have t8 : a.tmps[8]?.getD undef = .slice (some ⟨pab, pao, none⟩) pl pc := Reg.slot_val (hd 3 (by kernel_rfl) 8 rfl)
      have t11 : a.tmps[11]?.getD undef = .int .i64 (m2 : Int) := Reg.slot_val (hd 6 (by kernel_rfl) 11 rfl)
      go_simp
      exact hK _ _ (fun _ => rfl) (fun h => by cases h) HC.out (fun h => h)
    · rintro a w1 hC hx hd K hK
      have HC := Lib.hid hC
      clear hC
      have y0 := cell_below HC.out.bel D2.out.1
      have y1 := cell_below HC.out.bel D2.out.2.1
      have y2 := cell_below HC.out.bel D2.out.2.2
      have t12 : a.tmps[12]?.getD undef = .pointer (some ⟨pab, pao + m2 * 3, none⟩) := Reg.slot_val (hd 7 (by kernel_rfl) 12 rfl)
      go_simp
      exact hK _ _ (fun _ => rfl) (fun h => by cases h) HC.out (fun h => h)
    · rintro a w1 hC hx hd K hK
      have HC := Lib.hid hC
      clear hC
      have t0 : a.tmps[0]?.getD undef = .pointer (some ⟨pb, 0, none⟩) := Reg.slot_val (hx 0 (by kernel_rfl))
      go_simp
      exact hK _ _ (fun _ => rfl) (fun h => by cases h) HC.out (fun h => h)
    · rintro a w1 hC hx hd K hK
      have HC := Lib.hid hC
      clear hC
      have t14 : a.tmps[14]?.getD undef = .pointer (some ⟨pb, 0, none⟩) := Reg.slot_val (hd 9 (by kernel_rfl) 14 rfl)
      go_simp
      exact hK _ _ (fun _ => rfl) (fun h => by cases h) HC.out (fun h => h)
    · rintro a w1 hC hx hd K hK
      have HC := Lib.hid hC
      clear hC
      have t15 : a.tmps[15]?.getD undef = .pointer (some ⟨pb, 0, none⟩) := Reg.slot_val (hd 10 (by kernel_rfl) 15 rfl)
      go_simp
      exact hK _ _ (fun _ => rfl) (fun h => by cases h) HC.out (fun h => h)
    · rintro a w1 hC hx hd K hK
      have HC := Lib.hid hC
      clear hC
      have y9 := cell_below HC.out.bel A0.out
      have t16 : a.tmps[16]?.getD undef = .pointer (some ⟨pb, 0, none⟩) := Reg.slot_val (hd 11 (by kernel_rfl) 16 rfl)
      go_simp
      exact hK _ _ (fun _ => rfl) (fun h => by cases h) HC.out (fun h => h)
    · rintro a w1 hC hx hd K hK
      have HC := Lib.hid hC
      clear hC
      have t1 : a.tmps[1]?.getD undef = .slice (some ⟨tb, to, none⟩) 4 q := Reg.slot_val (hx 1 (by kernel_rfl))
      go_simp
      exact hK _ _ (fun _ => rfl) (fun h => by cases h) HC.out (fun h => h)
    · rintro a w1 hC hx hd K hK
      have HC := Lib.hid hC
      clear hC
      have t18 : a.tmps[18]?.getD undef = .slice (some ⟨tb, to, none⟩) 4 q := Reg.slot_val (hd 13 (by kernel_rfl) 18 rfl)
      go_simp
      exact hK _ _ (fun _ => rfl) (fun h => by cases h) HC.out (fun h => h)
    · rintro a w1 hC hx hd K hK
      have HC := Lib.hid hC
      clear hC
      have z3 := cell_below HC.out.bel R3.out
      have t19 : a.tmps[19]?.getD undef = .pointer (some ⟨tb, to + 3, none⟩) := Reg.slot_val (hd 14 (by kernel_rfl) 19 rfl)
      go_simp
      exact hK _ _ (fun _ => rfl) (fun h => by cases h) HC.out (fun h => h)
    · rintro a w1 hC hx hd K hK
      have HC := Lib.hid hC
      clear hC
      have t17 : a.tmps[17]?.getD undef = .slice (some ⟨pab, pao, none⟩) pl pc := Reg.slot_val (hd 12 (by kernel_rfl) 17 rfl)
      have t20 : a.tmps[20]?.getD undef = .int .i64 (m3 : Int) := Reg.slot_val (hd 15 (by kernel_rfl) 20 rfl)
      go_simp
      exact hK _ _ (fun _ => rfl) (fun h => by cases h) HC.out (fun h => h)
    · rintro a w1 hC hx hd K hK
      have HC := Lib.hid hC
      clear hC
      have y0 := cell_below HC.out.bel D3.out.1
      have y1 := cell_below HC.out.bel D3.out.2.1
      have y2 := cell_below HC.out.bel D3.out.2.2
      have t21 : a.tmps[21]?.getD undef = .pointer (some ⟨pab, pao + m3 * 3, none⟩) := Reg.slot_val (hd 16 (by kernel_rfl) 21 rfl)
      go_simp
      exact hK _ _ (fun _ => rfl) (fun h => by cases h) HC.out (fun h => h)
    · rintro a w1 hC hx hd K hK
      have HC := Lib.hid hC
      clear hC
      have t13 : a.tmps[13]?.getD undef = vv p2 q2 r2 := Reg.slot_val (hd 8 (by kernel_rfl) 13 rfl)
      have t22 : a.tmps[22]?.getD undef = vv p3 q3 r3 := Reg.slot_val (hd 17 (by kernel_rfl) 22 rfl)
      go_simp
      refine (l01Add _ _ _ _ _ _ _ _ _ _ _ _ _ F2'.out.1 F2'.out.2.1 F2'.out.2.2 F3'.out.1 F3'.out.2.1 F3'.out.2.2).mono ?_
      rintro en w2 ⟨p', q', r', rfl, fp', fq', fr', hB2⟩
      exact hK _ _ (fun _ => ⟨p', q', r', rfl, fp', fq', fr'⟩) (fun h => by cases h) (HC.out.call hB2) (TV.call hB2)
    · rintro a w1 hC hx hd K hK
      have HC := Lib.hid hC
      clear hC
      have t0 : a.tmps[0]?.getD undef = .pointer (some ⟨pb, 0, none⟩) := Reg.slot_val (hx 0 (by kernel_rfl))
      go_simp
      exact hK _ _ (fun _ => rfl) (fun h => by cases h) HC.out (fun h => h)
    · rintro a w1 hC hx hd K hK
      have HC := Lib.hid hC
      clear hC
      have t24 : a.tmps[24]?.getD undef = .pointer (some ⟨pb, 0, none⟩) := Reg.slot_val (hd 19 (by kernel_rfl) 24 rfl)
      go_simp
      exact hK _ _ (fun _ => rfl) (fun h => by cases h) HC.out (fun h => h)
    · rintro a w1 hC hx hd K hK
      have HC := Lib.hid hC
      clear hC
      have t25 : a.tmps[25]?.getD undef = .pointer (some ⟨pb, 0, none⟩) := Reg.slot_val (hd 20 (by kernel_rfl) 25 rfl)
      go_simp
      exact hK _ _ (fun _ => rfl) (fun h => by cases h) HC.out (fun h => h)
    · rintro a w1 hC hx hd K hK
      have HC := Lib.hid hC
      clear hC
      have y9 := cell_below HC.out.bel A0.out
      have t26 : a.tmps[26]?.getD undef = .pointer (some ⟨pb, 0, none⟩) := Reg.slot_val (hd 21 (by kernel_rfl) 26 rfl)
      go_simp
      exact hK _ _ (fun _ => rfl) (fun h => by cases h) HC.out (fun h => h)
    · rintro a w1 hC hx hd K hK
      have HC := Lib.hid hC
      clear hC
      have t1 : a.tmps[1]?.getD undef = .slice (some ⟨tb, to, none⟩) 4 q := Reg.slot_val (hx 1 (by kernel_rfl))
      go_simp
      exact hK _ _ (fun _ => rfl) (fun h => by cases h) HC.out (fun h => h)
    · rintro a w1 hC hx hd K hK
      have HC := Lib.hid hC
      clear hC
      have t28 : a.tmps[28]?.getD undef = .slice (some ⟨tb, to, none⟩) 4 q := Reg.slot_val (hd 23 (by kernel_rfl) 28 rfl)
      go_simp
      exact hK _ _ (fun _ => rfl) (fun h => by cases h) HC.out (fun h => h)
    · rintro a w1 hC hx hd K hK
      have HC := Lib.hid hC
      clear hC
      have z0 := cell_below HC.out.bel R0.out
      have t29 : a.tmps[29]?.getD undef = .pointer (some ⟨tb, to, none⟩) := Reg.slot_val (hd 24 (by kernel_rfl) 29 rfl)
      go_simp
      exact hK _ _ (fun _ => rfl) (fun h => by cases h) HC.out (fun h => h)
    · rintro a w1 hC hx hd K hK
      have HC := Lib.hid hC
      clear hC
      have t27 : a.tmps[27]?.getD undef = .slice (some ⟨pab, pao, none⟩) pl pc := Reg.slot_val (hd 22 (by kernel_rfl) 27 rfl)
      have t30 : a.tmps[30]?.getD undef = .int .i64 (m0 : Int) := Reg.slot_val (hd 25 (by kernel_rfl) 30 rfl)
      go_simp
      exact hK _ _ (fun _ => rfl) (fun h => by cases h) HC.out (fun h => h)
    · rintro a w1 hC hx hd K hK
      have HC := Lib.hid hC
      clear hC
      have y0 := cell_below HC.out.bel D0.out.1
      have y1 := cell_below HC.out.bel D0.out.2.1
      have y2 := cell_below HC.out.bel D0.out.2.2
      have t31 : a.tmps[31]?.getD undef = .pointer (some ⟨pab, pao + m0 * 3, none⟩) := Reg.slot_val (hd 26 (by kernel_rfl) 31 rfl)
      go_simp
      exact hK _ _ (fun _ => rfl) (fun h => by cases h) HC.out (fun h => h)
    · rintro a w1 hC hx hd K hK
      have HC := Lib.hid hC
      clear hC
      have t0 : a.tmps[0]?.getD undef = .pointer (some ⟨pb, 0, none⟩) := Reg.slot_val (hx 0 (by kernel_rfl))
      go_simp
      exact hK _ _ (fun _ => rfl) (fun h => by cases h) HC.out (fun h => h)
    · rintro a w1 hC hx hd K hK
      have HC := Lib.hid hC
      clear hC
      have t33 : a.tmps[33]?.getD undef = .pointer (some ⟨pb, 0, none⟩) := Reg.slot_val (hd 28 (by kernel_rfl) 33 rfl)
      go_simp
      exact hK _ _ (fun _ => rfl) (fun h => by cases h) HC.out (fun h => h)
    · rintro a w1 hC hx hd K hK
      have HC := Lib.hid hC
      clear hC
      have t34 : a.tmps[34]?.getD undef = .pointer (some ⟨pb, 0, none⟩) := Reg.slot_val (hd 29 (by kernel_rfl) 34 rfl)
      go_simp
      exact hK _ _ (fun _ => rfl) (fun h => by cases h) HC.out (fun h => h)
    · rintro a w1 hC hx hd K hK
      have HC := Lib.hid hC
      clear hC
      have y9 := cell_below HC.out.bel A0.out
      have t35 : a.tmps[35]?.getD undef = .pointer (some ⟨pb, 0, none⟩) := Reg.slot_val (hd 30 (by kernel_rfl) 35 rfl)
      go_simp
      exact hK _ _ (fun _ => rfl) (fun h => by cases h) HC.out (fun h => h)
    · rintro a w1 hC hx hd K hK
      have HC := Lib.hid hC
      clear hC
      have t1 : a.tmps[1]?.getD undef = .slice (some ⟨tb, to, none⟩) 4 q := Reg.slot_val (hx 1 (by kernel_rfl))
      go_simp
      exact hK _ _ (fun _ => rfl) (fun h => by cases h) HC.out (fun h => h)
    · rintro a w1 hC hx hd K hK
      have HC := Lib.hid hC
      clear hC
      have t37 : a.tmps[37]?.getD undef = .slice (some ⟨tb, to, none⟩) 4 q := Reg.slot_val (hd 32 (by kernel_rfl) 37 rfl)
      go_simp
      exact hK _ _ (fun _ => rfl) (fun h => by cases h) HC.out (fun h => h)
    · rintro a w1 hC hx hd K hK
      have HC := Lib.hid hC
      clear hC
      have z1 := cell_below HC.out.bel R1.out
      have t38 : a.tmps[38]?.getD undef = .pointer (some ⟨tb, to + 1, none⟩) := Reg.slot_val (hd 33 (by kernel_rfl) 38 rfl)
      go_simp
      exact hK _ _ (fun _ => rfl) (fun h => by cases h) HC.out (fun h => h)
    · rintro a w1 hC hx hd K hK
      have HC := Lib.hid hC
      clear hC
      have t36 : a.tmps[36]?.getD undef = .slice (some ⟨pab, pao, none⟩) pl pc := Reg.slot_val (hd 31 (by kernel_rfl) 36 rfl)
      have t39 : a.tmps[39]?.getD undef = .int .i64 (m1 : Int) := Reg.slot_val (hd 34 (by kernel_rfl) 39 rfl)
      go_simp
      exact hK _ _ (fun _ => rfl) (fun h => by cases h) HC.out (fun h => h)
    · rintro a w1 hC hx hd K hK
      have HC := Lib.hid hC
      clear hC
      have y0 := cell_below HC.out.bel D1.out.1
      have y1 := cell_below HC.out.bel D1.out.2.1
      have y2 := cell_below HC.out.bel D1.out.2.2
      have t40 : a.tmps[40]?.getD undef = .pointer (some ⟨pab, pao + m1 * 3, none⟩) := Reg.slot_val (hd 35 (by kernel_rfl) 40 rfl)
      go_simp
      exact hK _ _ (fun _ => rfl) (fun h => by cases h) HC.out (fun h => h)
    · rintro a w1 hC hx hd K hK
      have HC := Lib.hid hC
      clear hC
      have t32 : a.tmps[32]?.getD undef = vv p0 q0 r0 := Reg.slot_val (hd 27 (by kernel_rfl) 32 rfl)
      have t41 : a.tmps[41]?.getD undef = vv p1 q1 r1 := Reg.slot_val (hd 36 (by kernel_rfl) 41 rfl)
      go_simp
      refine (l01Add _ _ _ _ _ _ _ _ _ _ _ _ _ F0'.out.1 F0'.out.2.1 F0'.out.2.2 F1'.out.1 F1'.out.2.1 F1'.out.2.2).mono ?_
      rintro en w2 ⟨p', q', r', rfl, fp', fq', fr', hB2⟩
      exact hK _ _ (fun _ => ⟨p', q', r', rfl, fp', fq', fr'⟩) (fun h => by cases h) (HC.out.call hB2) (TV.call hB2)
    · rintro a w1 hC hx hd K hK
      have HC := Lib.hid hC
      clear hC
      obtain ⟨p23, q23, r23, g23, f23⟩ := hd 18 (by kernel_rfl) 23 rfl
      have t23 := Reg.slot_val g23
      clear g23
      obtain ⟨p42, q42, r42, g42, f42⟩ := hd 37 (by kernel_rfl) 42 rfl
      have t42 := Reg.slot_val g42
      clear g42
      go_simp
      refine (l01Less _ _ _ _ _ _ _ _ _ _ _ _ _ f23.1 f23.2.1 f23.2.2 f42.1 f42.2.1 f42.2.2).mono ?_
      rintro en w2 ⟨p', q', r', rfl, fp', fq', fr', hB2⟩
      exact hK _ _ (fun _ => ⟨p', q', r', rfl, fp', fq', fr'⟩) (fun h => by cases h) (HC.out.call hB2) (TV.call hB2)
    · rintro a w1 hC hx hd K hK
      have HC := Lib.hid hC
      clear hC
      have t4 : a.tmps[4]?.getD undef = .pointer (some ⟨w.heap.size, 0, none⟩) := Reg.slot_val (hx 4 (by kernel_rfl))
      obtain ⟨p43, q43, r43, g43, f43⟩ := hd 38 (by kernel_rfl) 43 rfl
      have t43 := Reg.slot_val g43
      clear g43
      obtain ⟨u0, u1, u2, x0, x1, x2⟩ := HC.out.cells
      have k0 := HC.out.free 0
      have k1 := HC.out.free 1
      have k2 := HC.out.free 2
      go_simp
      exact hK undef _ (fun h => absurd rfl h) (fun _ => TV.put HC.out f43) (HC.out.put _ _ _) (fun _ => TV.put HC.out f43)
  · rintro f w1 hC hd' hT
    obtain ⟨x, y, z, ⟨x0, x1, x2⟩, hf⟩ := hT 39 rfl (by decide)
    simp only [Reg.mixL]
    have HC := Lib.hid hC
    clear hC hd' hT
    go_wp2
    refine bodyPost_ret (v := vv x y z) (by simp [results, Tryz.results91, go_sem, x0, x1, x2]) rfl ⟨x, y, z, rfl, hf, HC.out.bel⟩
set_option maxHeartbeats 4000000 in
theorem l03Normal (pb tb to q : Nat) (m0 m1 m2 : Nat) (pa : Option Addr) (pl pc : Nat) (cs : List C3) (w : World) (a0 : w.cell? ⟨pb, 0, none⟩ = some (.slice pa pl pc)) (r0' : w.cell? ⟨tb, to, none⟩ = some (.int .i64 (m0 : Int))) (r1' : w.cell? ⟨tb, to + 1, none⟩ = some (.int .i64 (m1 : Int))) (r2' : w.cell? ⟨tb, to + 2, none⟩ = some (.int .i64 (m2 : Int))) (h : IsVs w pa pl pc cs) (hm0 : m0 < pl) (hm1 : m1 < pl) (hm2 : m2 < pl) :
    Calls Tryz.prog 89 #[.pointer (some ⟨pb, 0, none⟩), .slice (some ⟨tb, to, none⟩) 3 q] w fun e w' => ∃ x y z, e = .returned (vv x y z) ∧ F3 x y z (crossC (lessC (cs.getD m1 c0) (cs.getD m0 c0)) (lessC (cs.getD m2 c0) (cs.getD m0 c0))) ∧ Below w.heap.size w w' := by
  obtain ⟨pab, pao, rfl, hcell⟩ := h.some (by omega)
  have u := Tryz.underlying27
  have um := Tryz.underlying38
  have uv := Tryz.underlying40
  have hmx : pl ≤ 9223372036854775807 := by have h1 := h.2.1; have h2 := h.2.2.1; unfold maxLen at h2; omega
  have A0 := Lib.hid a0
  have R0 := Lib.hid r0'
  have R1 := Lib.hid r1'
  have R2 := Lib.hid r2'
  obtain ⟨p0, q0, r0, i00, i01, i02, f0⟩ := hcell m0 hm0
  have D0 := Lib.hid (And.intro i00 (And.intro i01 i02))
  have F0' := Lib.hid f0
  have g00 : (0 : Int) ≤ (m0 : Int) := by omega
  have g01 : (m0 : Int) < (pl : Int) := by omega
  obtain ⟨p1, q1, r1, i10, i11, i12, f1⟩ := hcell m1 hm1
  have D1 := Lib.hid (And.intro i10 (And.intro i11 i12))
  have F1' := Lib.hid f1
  have g10 : (0 : Int) ≤ (m1 : Int) := by omega
  have g11 : (m1 : Int) < (pl : Int) := by omega
  obtain ⟨p2, q2, r2, i20, i21, i22, f2⟩ := hcell m2 hm2
  have D2 := Lib.hid (And.intro i20 (And.intro i21 i22))
  have F2' := Lib.hid f2
  have g20 : (0 : Int) ≤ (m2 : Int) := by omega
  have g21 : (m2 : Int) < (pl : Int) := by omega
  clear a0 h hcell r0' i00 i01 i02 f0 r1' i10 i11 i12 f1 r2' i20 i21 i22 f2
  have FR : Hid (Frm w [] w.heap.size (w.alloc (.cells #[.float .f32 0, .float .f32 0, .float .f32 0] 40))) := Lib.hid ⟨(Below.refl _ _).alloc (Nat.le_refl _) _, fun b l hm => (by cases hm), Nat.le_refl _, ⟨.float .f32 0, .float .f32 0, .float .f32 0, by go_simp, by go_simp, by go_simp⟩, fun i => by go_simp⟩
  have HW0 : Hid ((w.alloc (.cells #[.float .f32 0, .float .f32 0, .float .f32 0] 40)).heap.size = w.heap.size + 1) := Lib.hid (by simp)
  go_enter Tryz.func89, Tryz.ntmps89
  go_wp2_with fail
  generalize (w.alloc (.cells #[.float .f32 0, .float .f32 0, .float .f32 0] 40)) = W at *
  refine Reg5.wp_region_mix (m := 10) (C := fun w' => Below W.heap.size W w') (D := fun _ => True) (G := fun w1 w2 => Below w1.heap.size w1 w2) (G' := fun _ _ => True)
    (R := fun i v w' => match i with | 0 => v = .pointer (some ⟨pb, 0, none⟩) | 1 => v = .pointer (some ⟨pb, 0, none⟩) | 2 => v = .pointer (some ⟨pb, 0, none⟩) | 3 => v = .slice (some ⟨pab, pao, none⟩) pl pc | 4 => v = .slice (some ⟨tb, to, none⟩) 3 q | 5 => v = .pointer (some ⟨tb, to, none⟩) | 6 => v = .int .i64 (m0 : Int) | 7 => v = .pointer (some ⟨pab, pao + m0 * 3, none⟩) | 8 => v = vv p0 q0 r0 | 9 => ∃ b, v = .pointer (some ⟨b, 0, none⟩) ∧ W.heap.size ≤ b ∧ b < w'.heap.size ∧ At w' b [.float .f32 0, .float .f32 0, .float .f32 0] ∧ Fr w' b | _ => True)
    (T := fun _ a w' => ∃ b, a.tmps[5]?.getD undef = .pointer (some ⟨b, 0, none⟩) ∧ W.heap.size ≤ b ∧ b < w'.heap.size ∧ At w' b [.float .f32 p0, .float .f32 q0, .float .f32 r0] ∧ Below W.heap.size W w') [false, false, false, false, false, true, true, true, true, true, true, true, true, true, true, false, false, false, false, false, false, false, false, false, false, false, false, false, false, false, false, false, false, false, false, false, false, false]
    (by kernel_rfl) (by kernel_rfl) (by kernel_rfl) (by kernel_rfl) ?_ ?_ (below_drewN (Below.refl _ _) 1) ?_ ?_
  · intro j v wa wb hj _ hG hR
    match j with
    | 0 => exact hR
    | 1 => exact hR
    | 2 => exact hR
    | 3 => exact hR
    | 4 => exact hR
    | 5 => exact hR
    | 6 => exact hR
    | 7 => exact hR
    | 8 => exact hR
    | 9 => obtain ⟨b, e, h1, h2, h3, h4⟩ := hR; exact ⟨b, e, h1, Nat.lt_of_lt_of_le h2 hG.size, h3.below hG, h4.below hG h2⟩
    | _ + 10 => exact absurd hj (by omega)
  · intro j v wa wb hj _ _ _
    match j, hj with
    | 0, hj => exact absurd hj (by omega)
    | 1, hj => exact absurd hj (by omega)
    | 2, hj => exact absurd hj (by omega)
    | 3, hj => exact absurd hj (by omega)
    | 4, hj => exact absurd hj (by omega)
    | 5, hj => exact absurd hj (by omega)
    | 6, hj => exact absurd hj (by omega)
    | 7, hj => exact absurd hj (by omega)
    | 8, hj => exact absurd hj (by omega)
    | 9, hj => exact absurd hj (by omega)
    | _ + 10, _ => trivial
  · refine ⟨Reg5.Obl.early rfl rfl ?_, Reg5.Obl.early rfl rfl ?_, Reg5.Obl.early rfl rfl ?_, Reg5.Obl.early rfl rfl ?_, Reg5.Obl.early rfl rfl ?_, Reg5.Obl.early rfl rfl ?_, Reg5.Obl.early rfl rfl ?_, Reg5.Obl.early rfl rfl ?_, Reg5.Obl.early rfl rfl ?_, Reg5.Obl.early rfl rfl ?_, Reg5.Obl.fin rfl rfl ?_, trivial⟩
    · rintro a w1 hC hx hd K hK
      have HC := Lib.hid hC
      clear hC
      have t0 : a.tmps[0]?.getD undef = .pointer (some ⟨pb, 0, none⟩) := Reg.slot_val (hx 0 (by kernel_rfl))
      go_simp
      exact hK _ _ rfl HC.out (Below.refl _ _)
    · rintro a w1 hC hx hd K hK
      have HC := Lib.hid hC
      clear hC
      have t6 : a.tmps[6]?.getD undef = .pointer (some ⟨pb, 0, none⟩) := Reg.slot_val (hd 0 (by kernel_rfl) 6 rfl)
      go_simp
      exact hK _ _ rfl HC.out (Below.refl _ _)
    · rintro a w1 hC hx hd K hK
      have HC := Lib.hid hC
      clear hC
      have t7 : a.tmps[7]?.getD undef = .pointer (some ⟨pb, 0, none⟩) := Reg.slot_val (hd 1 (by kernel_rfl) 7 rfl)
      go_simp
      exact hK _ _ rfl HC.out (Below.refl _ _)
    · rintro a w1 hC hx hd K hK
      have HC := Lib.hid hC
      clear hC
      have t8 : a.tmps[8]?.getD undef = .pointer (some ⟨pb, 0, none⟩) := Reg.slot_val (hd 2 (by kernel_rfl) 8 rfl)
      have y9 := cell_below (FR.out.bel.trans (HC.out.mono FR.out.bel.size)) A0.out
      go_simp
      exact hK _ _ rfl HC.out (Below.refl _ _)
    · rintro a w1 hC hx hd K hK
      have HC := Lib.hid hC
      clear hC
      have t1 : a.tmps[1]?.getD undef = .slice (some ⟨tb, to, none⟩) 3 q := Reg.slot_val (hx 1 (by kernel_rfl))
      go_simp
      exact hK _ _ rfl HC.out (Below.refl _ _)
    · rintro a w1 hC hx hd K hK
      have HC := Lib.hid hC
      clear hC
      have t10 : a.tmps[10]?.getD undef = .slice (some ⟨tb, to, none⟩) 3 q := Reg.slot_val (hd 4 (by kernel_rfl) 10 rfl)
      go_simp
      exact hK _ _ rfl HC.out (Below.refl _ _)
    · rintro a w1 hC hx hd K hK
      have HC := Lib.hid hC
      clear hC
      have t11 : a.tmps[11]?.getD undef = .pointer (some ⟨tb, to, none⟩) := Reg.slot_val (hd 5 (by kernel_rfl) 11 rfl)
      have z0 := cell_below (FR.out.bel.trans (HC.out.mono FR.out.bel.size)) R0.out
      go_simp
      exact hK _ _ rfl HC.out (Below.refl _ _)
    · rintro a w1 hC hx hd K hK
      have HC := Lib.hid hC
      clear hC
      have t9 : a.tmps[9]?.getD undef = .slice (some ⟨pab, pao, none⟩) pl pc := Reg.slot_val (hd 3 (by kernel_rfl) 9 rfl)
      have t12 : a.tmps[12]?.getD undef = .int .i64 (m0 : Int) := Reg.slot_val (hd 6 (by kernel_rfl) 12 rfl)
      go_simp
      exact hK _ _ rfl HC.out (Below.refl _ _)
    · rintro a w1 hC hx hd K hK
      have HC := Lib.hid hC
      clear hC
      have t13 : a.tmps[13]?.getD undef = .pointer (some ⟨pab, pao + m0 * 3, none⟩) := Reg.slot_val (hd 7 (by kernel_rfl) 13 rfl)
      have y0 := cell_below (FR.out.bel.trans (HC.out.mono FR.out.bel.size)) D0.out.1
      have y1 := cell_below (FR.out.bel.trans (HC.out.mono FR.out.bel.size)) D0.out.2.1
      have y2 := cell_below (FR.out.bel.trans (HC.out.mono FR.out.bel.size)) D0.out.2.2
      go_simp
      exact hK _ _ rfl HC.out (Below.refl _ _)
    · rintro a w1 hC hx hd K hK
      have HC := Lib.hid hC
      clear hC
      go_simp
      have hB2 : Below w1.heap.size w1 (w1.alloc (.cells #[.float .f32 0, .float .f32 0, .float .f32 0] 40)) := (Below.refl _ _).alloc (Nat.le_refl _) _
      exact hK _ _ ⟨w1.heap.size, rfl, HC.out.size, by simp, At.new, Fr.new⟩ (HC.out.trans (hB2.mono HC.out.size)) hB2
    · rintro a w1 hC hx hd K hK
      have HC := Lib.hid hC
      clear hC
      have t14 : a.tmps[14]?.getD undef = vv p0 q0 r0 := Reg.slot_val (hd 8 (by kernel_rfl) 14 rfl)
      obtain ⟨b, g5, h1, h2, h3, h4⟩ := hd 9 (by kernel_rfl) 5 rfl
      have t5 := Reg.slot_val g5
      clear g5
      have HB4 := Lib.hid (And.intro h1 h2)
      have z0 := h3 0 _ rfl
      have z1 := h3 1 _ rfl
      have z2 := h3 2 _ rfl
      have k0 := h4 0
      have k1 := h4 1
      have k2 := h4 2
      have hR := at_setL (vs := [.float .f32 p0, .float .f32 q0, .float .f32 r0]) (o := 0) h3 (Nat.le_of_ble_eq_true rfl)
      have hBB := setL_below b h1 [.float .f32 p0, .float .f32 q0, .float .f32 r0] _ 0 HC.out
      simp only [setL, Nat.zero_add, Nat.reduceAdd] at hR hBB
      have HR := Lib.hid hR
      have HBB := Lib.hid hBB
      clear hR hBB h1 h2 h3 h4
      go_simp
      exact hK undef _ ⟨b, t5, HB4.out.1, by simpa using HB4.out.2, HR.out, HBB.out⟩
  · rintro f W1 hR hT
    obtain ⟨V, e5, h1, h2, h3, h4⟩ := hT 10 rfl (Nat.le_of_ble_eq_true rfl)
    have g5 : f 5 = .pointer (some ⟨V, 0, none⟩) := e5
    simp only [Reg.mixL, Nat.zero_add, Nat.reduceAdd, g5]
    have FR1 : Hid (Frm w [(V, [.float .f32 p0, .float .f32 q0, .float .f32 r0])] w.heap.size W1) := Lib.hid (by
      have k := FR.out.call h4
      refine ⟨k.1, fun b l hm => ?_, k.2.2⟩
      rcases List.mem_cons.1 hm with e | hm
      · cases e
        exact ⟨h3, by have := HW0.out; omega⟩
      · cases hm)
    clear hR hT e5 h1 h2 h3 h4 g5
    go_wp2_with fail
    refine Reg2.wp_region_mix (C := Frm w [(V, [.float .f32 p0, .float .f32 q0, .float .f32 r0])] (w.heap.size)) (G := fun w1 w2 => TV (w.heap.size) (crossC (lessC (cs.getD m1 c0) (cs.getD m0 c0)) (lessC (cs.getD m2 c0) (cs.getD m0 c0))) w1 → TV (w.heap.size) (crossC (lessC (cs.getD m1 c0) (cs.getD m0 c0)) (lessC (cs.getD m2 c0) (cs.getD m0 c0))) w2) (R := fun i v w' => match i with | 0 => v = .pointer (some ⟨pb, 0, none⟩) | 1 => v = .pointer (some ⟨pb, 0, none⟩) | 2 => v = .pointer (some ⟨pb, 0, none⟩) | 3 => v = .slice (some ⟨pab, pao, none⟩) pl pc | 4 => v = .slice (some ⟨tb, to, none⟩) 3 q | 5 => v = .pointer (some ⟨tb, to + 1, none⟩) | 6 => v = .int .i64 (m1 : Int) | 7 => v = .pointer (some ⟨pab, pao + m1 * 3, none⟩) | 8 => v = vv p1 q1 r1 | 9 => v = vv p0 q0 r0 | 10 => ∃ p q r, v = vv p q r ∧ F3 p q r (lessC (cs.getD m1 c0) (cs.getD m0 c0)) | 11 => v = .pointer (some ⟨pb, 0, none⟩) | 12 => v = .pointer (some ⟨pb, 0, none⟩) | 13 => v = .pointer (some ⟨pb, 0, none⟩) | 14 => v = .slice (some ⟨pab, pao, none⟩) pl pc | 15 => v = .slice (some ⟨tb, to, none⟩) 3 q | 16 => v = .pointer (some ⟨tb, to + 2, none⟩) | 17 => v = .int .i64 (m2 : Int) | 18 => v = .pointer (some ⟨pab, pao + m2 * 3, none⟩) | 19 => v = vv p2 q2 r2 | 20 => v = vv p0 q0 r0 | 21 => ∃ p q r, v = vv p q r ∧ F3 p q r (lessC (cs.getD m2 c0) (cs.getD m0 c0)) | 22 => ∃ p q r, v = vv p q r ∧ F3 p q r (crossC (lessC (cs.getD m1 c0) (cs.getD m0 c0)) (lessC (cs.getD m2 c0) (cs.getD m0 c0))) | _ => True) (T := fun _ w' => TV (w.heap.size) (crossC (lessC (cs.getD m1 c0) (cs.getD m0 c0)) (lessC (cs.getD m2 c0) (cs.getD m0 c0))) w') [false, false, false, false, false, false, false, false, false, false, false, false, false, false, false, true, true, true, true, true, true, true, true, true, true, true, true, true, true, true, true, true, true, true, true, true, true, true]
      (by kernel_rfl) (by kernel_rfl) (by kernel_rfl) (fun _ _ _ _ _ _ h => h) (fun _ _ _ _ hG hT => hG hT) (Frm.drewN FR1.out 1) ?_ ?_
    · refine ⟨Reg2.Obl.mk ?_, Reg2.Obl.mk ?_, Reg2.Obl.mk ?_, Reg2.Obl.mk ?_, Reg2.Obl.mk ?_, Reg2.Obl.mk ?_, Reg2.Obl.mk ?_, Reg2.Obl.mk ?_, Reg2.Obl.mk ?_, Reg2.Obl.mk ?_, Reg2.Obl.mk ?_, Reg2.Obl.mk ?_, Reg2.Obl.mk ?_, Reg2.Obl.mk ?_, Reg2.Obl.mk ?_, Reg2.Obl.mk ?_, Reg2.Obl.mk ?_, Reg2.Obl.mk ?_, Reg2.Obl.mk ?_, Reg2.Obl.mk ?_, Reg2.Obl.mk ?_, Reg2.Obl.mk ?_, Reg2.Obl.mk ?_, Reg2.Obl.mk ?_, trivial⟩
      · rintro a w1 hC hx hd K hK
        have HC := Lib.hid hC
        clear hC
        have t0 : a.tmps[0]?.getD undef = .pointer (some ⟨pb, 0, none⟩) := Reg.slot_val (hx 0 (by kernel_rfl))
        go_simp
        exact hK _ _ (fun _ => rfl) (fun h => by cases h) HC.out (fun h => h)
      · rintro a w1 hC hx hd K hK
        have HC := Lib.hid hC
        clear hC
        have t15 : a.tmps[15]?.getD undef = .pointer (some ⟨pb, 0, none⟩) := Reg.slot_val (hd 0 (by kernel_rfl) 15 rfl)
        go_simp
        exact hK _ _ (fun _ => rfl) (fun h => by cases h) HC.out (fun h => h)
      · rintro a w1 hC hx hd K hK
        have HC := Lib.hid hC
        clear hC
        have t16 : a.tmps[16]?.getD undef = .pointer (some ⟨pb, 0, none⟩) := Reg.slot_val (hd 1 (by kernel_rfl) 16 rfl)
        go_simp
        exact hK _ _ (fun _ => rfl) (fun h => by cases h) HC.out (fun h => h)
      · rintro a w1 hC hx hd K hK
        have HC := Lib.hid hC
        clear hC
        have y9 := cell_below HC.out.bel A0.out
        have t17 : a.tmps[17]?.getD undef = .pointer (some ⟨pb, 0, none⟩) := Reg.slot_val (hd 2 (by kernel_rfl) 17 rfl)
        go_simp
        exact hK _ _ (fun _ => rfl) (fun h => by cases h) HC.out (fun h => h)
      · rintro a w1 hC hx hd K hK
        have HC := Lib.hid hC
        clear hC
        have t1 : a.tmps[1]?.getD undef = .slice (some ⟨tb, to, none⟩) 3 q := Reg.slot_val (hx 1 (by kernel_rfl))
        go_simp
        exact hK _ _ (fun _ => rfl) (fun h => by cases h) HC.out (fun h => h)
      · rintro a w1 hC hx hd K hK
        have HC := Lib.hid hC
        clear hC
        have t19 : a.tmps[19]?.getD undef = .slice (some ⟨tb, to, none⟩) 3 q := Reg.slot_val (hd 4 (by kernel_rfl) 19 rfl)
        go_simp
        exact hK _ _ (fun _ => rfl) (fun h => by cases h) HC.out (fun h => h)
      · rintro a w1 hC hx hd K hK
        have HC := Lib.hid hC
        clear hC
        have z1 := cell_below HC.out.bel R1.out
        have t20 : a.tmps[20]?.getD undef = .pointer (some ⟨tb, to + 1, none⟩) := Reg.slot_val (hd 5 (by kernel_rfl) 20 rfl)
        go_simp
        exact hK _ _ (fun _ => rfl) (fun h => by cases h) HC.out (fun h => h)
      · rintro a w1 hC hx hd K hK
        have HC := Lib.hid hC
        clear hC
        have t18 : a.tmps[18]?.getD undef = .slice (some ⟨pab, pao, none⟩) pl pc := Reg.slot_val (hd 3 (by kernel_rfl) 18 rfl)
        have t21 : a.tmps[21]?.getD undef = .int .i64 (m1 : Int) := Reg.slot_val (hd 6 (by kernel_rfl) 21 rfl)
        go_simp
        exact hK _ _ (fun _ => rfl) (fun h => by cases h) HC.out (fun h => h)
      · rintro a w1 hC hx hd K hK
        have HC := Lib.hid hC
        clear hC
        have y0 := cell_below HC.out.bel D1.out.1
        have y1 := cell_below HC.out.bel D1.out.2.1
        have y2 := cell_below HC.out.bel D1.out.2.2
        have t22 : a.tmps[22]?.getD undef = .pointer (some ⟨pab, pao + m1 * 3, none⟩) := Reg.slot_val (hd 7 (by kernel_rfl) 22 rfl)
        go_simp
        exact hK _ _ (fun _ => rfl) (fun h => by cases h) HC.out (fun h => h)
      · rintro a w1 hC hx hd K hK
        have HC := Lib.hid hC
        clear hC
        have y0 := (HC.out.mem (.head _)) 0 _ rfl
        have y1 := (HC.out.mem (.head _)) 1 _ rfl
        have y2 := (HC.out.mem (.head _)) 2 _ rfl
        have t5 : a.tmps[5]?.getD undef = .pointer (some ⟨V, 0, none⟩) := Reg.slot_val (hx 5 (by kernel_rfl))
        go_simp
        exact hK _ _ (fun _ => rfl) (fun h => by cases h) HC.out (fun h => h)
      · rintro a w1 hC hx hd K hK
        have HC := Lib.hid hC
        clear hC
        have t23 : a.tmps[23]?.getD undef = vv p1 q1 r1 := Reg.slot_val (hd 8 (by kernel_rfl) 23 rfl)
        have t24 : a.tmps[24]?.getD undef = vv p0 q0 r0 := Reg.slot_val (hd 9 (by kernel_rfl) 24 rfl)
        go_simp
        refine (l01Less _ _ _ _ _ _ _ _ _ _ _ _ _ F1'.out.1 F1'.out.2.1 F1'.out.2.2 F0'.out.1 F0'.out.2.1 F0'.out.2.2).mono ?_
        rintro en w2 ⟨p', q', r', rfl, fp', fq', fr', hB2⟩
        exact hK _ _ (fun _ => ⟨p', q', r', rfl, fp', fq', fr'⟩) (fun h => by cases h) (HC.out.call hB2) (TV.call hB2)
      · rintro a w1 hC hx hd K hK
        have HC := Lib.hid hC
        clear hC
        have t0 : a.tmps[0]?.getD undef = .pointer (some ⟨pb, 0, none⟩) := Reg.slot_val (hx 0 (by kernel_rfl))
        go_simp
        exact hK _ _ (fun _ => rfl) (fun h => by cases h) HC.out (fun h => h)
      · rintro a w1 hC hx hd K hK
        have HC := Lib.hid hC
        clear hC
        have t26 : a.tmps[26]?.getD undef = .pointer (some ⟨pb, 0, none⟩) := Reg.slot_val (hd 11 (by kernel_rfl) 26 rfl)
        go_simp
        exact hK _ _ (fun _ => rfl) (fun h => by cases h) HC.out (fun h => h)
      · rintro a w1 hC hx hd K hK
        have HC := Lib.hid hC
        clear hC
        have t27 : a.tmps[27]?.getD undef = .pointer (some ⟨pb, 0, none⟩) := Reg.slot_val (hd 12 (by kernel_rfl) 27 rfl)
        go_simp
        exact hK _ _ (fun _ => rfl) (fun h => by cases h) HC.out (fun h => h)
      · rintro a w1 hC hx hd K hK
        have HC := Lib.hid hC
        clear hC
        have y9 := cell_below HC.out.bel A0.out
        have t28 : a.tmps[28]?.getD undef = .pointer (some ⟨pb, 0, none⟩) := Reg.slot_val (hd 13 (by kernel_rfl) 28 rfl)
        go_simp
        exact hK _ _ (fun _ => rfl) (fun h => by cases h) HC.out (fun h => h)
      · rintro a w1 hC hx hd K hK
        have HC := Lib.hid hC
        clear hC
        have t1 : a.tmps[1]?.getD undef = .slice (some ⟨tb, to, none⟩) 3 q := Reg.slot_val (hx 1 (by kernel_rfl))
        go_simp
        exact hK _ _ (fun _ => rfl) (fun h => by cases h) HC.out (fun h => h)
      · rintro a w1 hC hx hd K hK
        have HC := Lib.hid hC
        clear hC
        have t30 : a.tmps[30]?.getD undef = .slice (some ⟨tb, to, none⟩) 3 q := Reg.slot_val (hd 15 (by kernel_rfl) 30 rfl)
        go_simp
        exact hK _ _ (fun _ => rfl) (fun h => by cases h) HC.out (fun h => h)
      · rintro a w1 hC hx hd K hK
        have HC := Lib.hid hC
        clear hC
        have z2 := cell_below HC.out.bel R2.out
        have t31 : a.tmps[31]?.getD undef = .pointer (some ⟨tb, to + 2, none⟩) := Reg.slot_val (hd 16 (by kernel_rfl) 31 rfl)
        go_simp
        exact hK _ _ (fun _ => rfl) (fun h => by cases h) HC.out (fun h => h)
      · rintro a w1 hC hx hd K hK
        have HC := Lib.hid hC
        clear hC
        have t29 : a.tmps[29]?.getD undef = .slice (some ⟨pab, pao, none⟩) pl pc := Reg.slot_val (hd 14 (by kernel_rfl) 29 rfl)
        have t32 : a.tmps[32]?.getD undef = .int .i64 (m2 : Int) := Reg.slot_val (hd 17 (by kernel_rfl) 32 rfl)
        go_simp
        exact hK _ _ (fun _ => rfl) (fun h => by cases h) HC.out (fun h => h)
      · rintro a w1 hC hx hd K hK
        have HC := Lib.hid hC
        clear hC
        have y0 := cell_below HC.out.bel D2.out.1
        have y1 := cell_below HC.out.bel D2.out.2.1
        have y2 := cell_below HC.out.bel D2.out.2.2
        have t33 : a.tmps[33]?.getD undef = .pointer (some ⟨pab, pao + m2 * 3, none⟩) := Reg.slot_val (hd 18 (by kernel_rfl) 33 rfl)
        go_simp
        exact hK _ _ (fun _ => rfl) (fun h => by cases h) HC.out (fun h => h)
      · rintro a w1 hC hx hd K hK
        have HC := Lib.hid hC
        clear hC
        have y0 := (HC.out.mem (.head _)) 0 _ rfl
        have y1 := (HC.out.mem (.head _)) 1 _ rfl
        have y2 := (HC.out.mem (.head _)) 2 _ rfl
        have t5 : a.tmps[5]?.getD undef = .pointer (some ⟨V, 0, none⟩) := Reg.slot_val (hx 5 (by kernel_rfl))
        go_simp
        exact hK _ _ (fun _ => rfl) (fun h => by cases h) HC.out (fun h => h)
      · rintro a w1 hC hx hd K hK
        have HC := Lib.hid hC
        clear hC
        have t34 : a.tmps[34]?.getD undef = vv p2 q2 r2 := Reg.slot_val (hd 19 (by kernel_rfl) 34 rfl)
        have t35 : a.tmps[35]?.getD undef = vv p0 q0 r0 := Reg.slot_val (hd 20 (by kernel_rfl) 35 rfl)
        go_simp
        refine (l01Less _ _ _ _ _ _ _ _ _ _ _ _ _ F2'.out.1 F2'.out.2.1 F2'.out.2.2 F0'.out.1 F0'.out.2.1 F0'.out.2.2).mono ?_
        rintro en w2 ⟨p', q', r', rfl, fp', fq', fr', hB2⟩
        exact hK _ _ (fun _ => ⟨p', q', r', rfl, fp', fq', fr'⟩) (fun h => by cases h) (HC.out.call hB2) (TV.call hB2)
      · rintro a w1 hC hx hd K hK
        have HC := Lib.hid hC
        clear hC
        obtain ⟨p25, q25, r25, g25, f25⟩ := hd 10 (by kernel_rfl) 25 rfl
        have t25 := Reg.slot_val g25
        clear g25
        obtain ⟨p36, q36, r36, g36, f36⟩ := hd 21 (by kernel_rfl) 36 rfl
        have t36 := Reg.slot_val g36
        clear g36
        go_simp
        refine (l01Cross _ _ _ _ _ _ _ _ _ _ _ _ _ f25.1 f25.2.1 f25.2.2 f36.1 f36.2.1 f36.2.2).mono ?_
        rintro en w2 ⟨p', q', r', rfl, fp', fq', fr', hB2⟩
        exact hK _ _ (fun _ => ⟨p', q', r', rfl, fp', fq', fr'⟩) (fun h => by cases h) (HC.out.call hB2) (TV.call hB2)
      · rintro a w1 hC hx hd K hK
        have HC := Lib.hid hC
        clear hC
        have t4 : a.tmps[4]?.getD undef = .pointer (some ⟨w.heap.size, 0, none⟩) := Reg.slot_val (hx 4 (by kernel_rfl))
        obtain ⟨p37, q37, r37, g37, f37⟩ := hd 22 (by kernel_rfl) 37 rfl
        have t37 := Reg.slot_val g37
        clear g37
        obtain ⟨u0, u1, u2, x0, x1, x2⟩ := HC.out.cells
        have k0 := HC.out.free 0
        have k1 := HC.out.free 1
        have k2 := HC.out.free 2
        go_simp
        exact hK undef _ (fun h => absurd rfl h) (fun _ => TV.put HC.out f37) (HC.out.put _ _ _) (fun _ => TV.put HC.out f37)
    · rintro f w1 hC hd' hT
      obtain ⟨x, y, z, ⟨x0, x1, x2⟩, hf⟩ := hT 23 rfl (by decide)
      simp only [Reg.mixL]
      have HC := Lib.hid hC
      clear hC hd' hT
      go_wp2
      refine bodyPost_ret (v := vv x y z) (by simp [results, Tryz.results89, go_sem, x0, x1, x2]) rfl ⟨x, y, z, rfl, hf, HC.out.bel⟩
end Go.Proofs.YtnbfaedopjkgpaaGreat


/-
Whether a list has a number: what the model returns. Conditions: the list lies in memory.
-/
namespace Go.Proofs.YtnbfaedopjkgpaaGreat
open Go Fk Go.RowKit
set_option linter.unusedVariables false
set_option maxRecDepth 8000

def hasQ (L : List Int) (z : Int) : Bool := L.any (fun x => decide (x = z))
theorem hasQ_yes {L : List Int} {z : Int} {k : Nat} (hk : k < L.length) (h : L.getD k 0 = z) : hasQ L z = true := by
  have : L.getD k 0 = L[k] := by simp [List.getD, hk]
  rw [this] at h
  exact List.any_eq_true.2 ⟨L[k], List.getElem_mem hk, decide_eq_true h⟩
theorem hasQ_no {L : List Int} {z : Int} (h : ∀ j, j < L.length → L.getD j 0 ≠ z) : hasQ L z = false := by
  rw [Bool.eq_false_iff]
  intro hh
  obtain ⟨x, hx, he⟩ := List.any_eq_true.1 hh
  obtain ⟨j, hj, rfl⟩ := List.getElem_of_mem hx
  have := h j hj
  simp [List.getD, hj] at this
  exact this (of_decide_eq_true he)
theorem l00HasQ (a : Option Addr) (n cap : Nat) (L : List Int) (p : Int) (w : World) (h : IsIs w a n cap L) :
    Calls Tryz.prog 159 #[.slice a n cap, .int .i64 p] w fun e w' => e = .returned (.bool (hasQ L p)) ∧ w' = w := by
  have hm : n ≤ 9223372036854775807 := by have h1 := h.2.1; have h2 := h.2.2.1; unfold maxLen at h2; omega
  have hl := h.1
  have H := Lib.hid h
  clear h
  go_enter Tryz.func159, Tryz.ntmps159
  go_wp2
  go_loopw [5] (fun i w' => ∃ k : Nat, k ≤ n ∧ i = .int .i64 k ∧ w' = w ∧ Aside (∀ j, j < k → L.getD j 0 ≠ p)) (fun i _ => n - (intOf i).toNat)
  case atStart => exact ⟨0, Nat.zero_le _, rfl, rfl, fun j hj => absurd hj (by omega)⟩
  case round =>
    obtain ⟨k, hk, rfl, rfl, hA⟩ := hrel
    have HA := Lib.hid hA.out
    clear hA
    by_cases hlt : k < n
    · obtain ⟨b, o, rfl, hcell⟩ := H.out.some (by omega)
      have hc0 := hcell k hlt
      have hk0 : (0 : Int) ≤ (k : Int) := by omega
      have hk1 : (k : Int) < (n : Int) := by omega
      have HZ := Lib.hid (fun (e : L.getD k 0 = p) => hasQ_yes (by omega) e)
      have HN : Hid (L.getD k 0 ≠ p → ∀ j, j < k + 1 → L.getD j 0 ≠ p) := Lib.hid (fun e j hj => by
        by_cases hjk : j = k
        · subst hjk; exact e
        · exact HA.out j (by omega))
      clear hcell
      generalize L.getD k 0 = z at *
      by_cases hz : z = p
      · have HR := Lib.hid (HZ.out hz)
        subst hz
        clear HZ HN
        go_wp2
        go_ret
        exact ⟨ret_bool HR.out.symm, by first | rfl | trivial⟩
      · have HR := Lib.hid (HN.out hz)
        have hze : (z == p) = false := by simp [hz]
        clear HZ HN
        go_wp2
        go_roundw
        case rel => exact ⟨k + 1, by omega, by go_num, by first | rfl | trivial, HR.out⟩
        case measure => simp [intOf]; omega
    · obtain rfl : k = n := by omega
      have HR := Lib.hid (hasQ_no (fun j hj => HA.out j (by omega)))
      go_wp2
      go_ret
      exact ⟨ret_bool HR.out.symm, by first | rfl | trivial⟩
theorem hasQ3 {t : List Int} (h : t.length = 3) (p : Int) : hasQ t p = hasB t p := by
  match t, h with
  | [a, b, c], _ => simp [hasQ, hasB, List.getD]
end Go.Proofs.YtnbfaedopjkgpaaGreat

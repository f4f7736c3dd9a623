
/-
The torque of forces: what the program and its model return. Conditions: none beyond that the mesh and the list lie in memory.
-/
import Derived.Test.YtljpjmkickkcpaaOv
import Derived.Test.YtljpjmkickkcpaaMwI
import Derived.Test.YtljpjmkickkcpaaNrA
import Derived.Test.YtljpjmkickkcpaaNrD
namespace Go.Proofs.Ytljpjmkickkcpaa
open Go Fk Go.RowKit
set_option linter.unusedVariables false
set_option maxRecDepth 8000

def crC (cs ds : List C3) (j : Nat) : C3 := crossC (cs.getD j c0) (ds.getD j c0)
def torL (cs ds : List C3) (n : Nat) : List C3 := (List.range n).map (crC cs ds)
def mixQ (cs ds : List C3) (n k : Nat) : List C3 := (List.range n).map fun j => if j < k then crC cs ds j else z3
theorem mixQ_zero (cs ds : List C3) (n : Nat) : mixQ cs ds n 0 = List.replicate n (some 0, some 0, some 0) := by
  unfold mixQ
  apply List.ext_getElem (by simp)
  intro i h1 h2
  simp
theorem mixQ_set (cs ds : List C3) (n k : Nat) : (mixQ cs ds n k).set k (crC cs ds k) = mixQ cs ds n (k + 1) := by
  unfold mixQ
  apply List.ext_getElem (by simp)
  intro i h1 h2
  simp at h1 h2
  rw [List.getElem_set]
  by_cases h : k = i
  · subst h; simp
  · rw [if_neg h]
    simp only [List.getElem_map, List.getElem_range]
    by_cases h3 : i < k
    · rw [if_pos h3, if_pos (by omega)]
    · rw [if_neg h3, if_neg (by omega)]
theorem mixQ_end (cs ds : List C3) (n : Nat) : mixQ cs ds n n = torL cs ds n := by
  unfold mixQ torL
  apply List.ext_getElem (by simp)
  intro i h1 h2
  simp at h1
  simp [h1]
theorem mixQ_len (cs ds : List C3) (n k : Nat) : (mixQ cs ds n k).length = n := by simp [mixQ]
theorem torL_len (cs ds : List C3) (n : Nat) : (torL cs ds n).length = n := by simp [torL]
theorem torL_at (cs ds : List C3) (n k : Nat) (hk : k < n) : (torL cs ds n).getD k c0 = crC cs ds k := by simp [torL, List.getD, hk]
def torB (cs : List C3) (ts : List (List Int)) (fl : Nat) : Bool := validB cs ts && decide (fl = cs.length)
def torC (cs : List C3) (ts : List (List Int)) (ds : List C3) (fl : Nat) : C3 := bif torB cs ts fl then totC (torL cs ds fl) else z3
theorem valid_places {cs : List C3} {ts : List (List Int)} (h : validB cs ts = true) : cs.length ≤ 64 := by
  unfold validB at h; simp at h; exact h.1.1
set_option maxHeartbeats 2000000 in
theorem impl_TorqueOf (pa ta fa : Option Addr) (pl pc tl tc fl fc : Nat) (cs : List C3) (ts : List (List Int)) (ds : List C3) (w : World) (hp : IsVs w pa pl pc cs) (ht : IsTs w ta tl tc ts) (hf : IsVs w fa fl fc ds) :
    Calls Try.prog 57 #[.agg #[.slice pa pl pc, .slice ta tl tc], .slice fa fl fc] w fun e w' => ∃ x y z, e = .returned (.tuple #[vv x y z, .bool (torB cs ts fl)]) ∧ FV3 x y z (torC cs ts ds fl) ∧ Below w.heap.size w w' := by
  have ui := Try.underlying43
  have u := Try.underlying22
  have uv := Try.underlying28
  have BX : Hid (Bx w [(w.heap.size + 1, [.float .f32 0, .float .f32 0, .float .f32 0]), (w.heap.size, [.slice pa pl pc, .slice ta tl tc])] ((w.alloc (.cells #[.slice pa pl pc, .slice ta tl tc] 43)).alloc (.cells #[.float .f32 0, .float .f32 0, .float .f32 0] 28))) := Lib.hid (by
    have h1 := (Bx.nil w).box (vs := [.slice pa pl pc, .slice ta tl tc]) (t := 43)
    have h2 := h1.box (vs := [.float .f32 0, .float .f32 0, .float .f32 0]) (t := 28)
    rw [World.size_alloc] at h2
    exact h2)
  have hpl := hp.1
  have hfm : fl ≤ 9223372036854775807 := by have h1 := hf.2.1; have h2 := hf.2.2.1; unfold maxLen at h2; omega
  have hm : pl ≤ 9223372036854775807 := by have h1 := hp.2.1; have h2 := hp.2.2.1; unfold maxLen at h2; omega
  have JV := impl_ValidMesh _ _ _ _ _ _ cs ts ((w.alloc (.cells #[.slice pa pl pc, .slice ta tl tc] 43)).alloc (.cells #[.float .f32 0, .float .f32 0, .float .f32 0] 28)) (hp.below BX.out.bel) (ht.below BX.out.bel)
  have HP := Lib.hid hp
  have HF := Lib.hid hf
  unfold torC torB
  rw [hpl]
  clear hp ht hf
  cases hv : validB cs ts
  · rw [hv] at JV
    have JV := Lib.hid JV
    clear hv hpl
    go_enter Try.func57, Try.ntmps57
    go_wp2_with fail
    generalize ((w.alloc (.cells #[.slice pa pl pc, .slice ta tl tc] 43)).alloc (.cells #[.float .f32 0, .float .f32 0, .float .f32 0] 28)) = W at *
    refine JV.out.mono ?_
    rintro e w1 ⟨rfl, hB1⟩
    have BX1 := BX.out.call hB1
    clear hB1
    have V0 := BX1.v3 (x := 0) (y := 0) (z := 0) (.head _)
    have HP0 := Lib.hid (V0.put (p := 0) (q := 0) (r := 0))
    have HB0 := Lib.hid (below_set3 (o1 := 0) (o2 := 1) (o3 := 2) (u := .float .f32 0) (v := .float .f32 0) (t := .float .f32 0) BX1.bel (BX1.low (.head _)))
    obtain ⟨⟨r0, r1, r2⟩, rf⟩ := V0
    have rf0 := rf 0
    have rf1 := rf 1
    have rf2 := rf 2
    clear rf
    go_wp2
    clear r0 r1 r2
    obtain ⟨⟨e0, e1, e2⟩, -⟩ := HP0.out
    refine bodyPost_ret (v := .tuple #[vv 0 0 0, .bool false]) (by simp [results, Try.results57, go_sem, e0, e1, e2]) rfl ⟨0, 0, 0, rfl, FV3_zero, HB0.out⟩
  · rw [hv] at JV
    have JV := Lib.hid JV
    have h64 : pl ≤ 64 := by have := valid_places hv; omega
    clear hv
    by_cases h0 : fl = pl
    · have e0 : ((fl : Int) == (pl : Int)) = true := by rw [h0]; simp
      have e0' : ((fl : Int) != (pl : Int)) = false := by rw [h0]; simp
      rw [decide_eq_true h0]
      show Calls _ _ _ _ fun e w' => ∃ x y z, e = .returned (.tuple #[vv x y z, .bool true]) ∧ FV3 x y z (totC (torL cs ds fl)) ∧ Below w.heap.size w w'
      have H0 := Lib.hid h0
      clear h0
      go_enter Try.func57, Try.ntmps57
      go_wp2_with fail
      generalize ((w.alloc (.cells #[.slice pa pl pc, .slice ta tl tc] 43)).alloc (.cells #[.float .f32 0, .float .f32 0, .float .f32 0] 28)) = W at *
      refine JV.out.mono ?_
      rintro e w1 ⟨rfl, hB1⟩
      have BX1 := Lib.hid (BX.out.call hB1)
      have m0 := (BX1.out.mem (.tail _ (.head _))) 0 _ rfl
      clear hB1
      have hmk := fun W => make_vecs W fl (by have := H0.out; omega)
      have lm0 := fun ob => cell_alloc (o := ob) m0
      go_wp2
      have ST0 : Hid (St w [(w.heap.size + 1, [.float .f32 0, .float .f32 0, .float .f32 0]), (w.heap.size, [.slice pa pl pc, .slice ta tl tc])] w1.heap.size (mixQ cs ds fl 0) (w1.alloc (.cells (madeCells #[.float .f32 0, .float .f32 0, .float .f32 0] (fl * 3)) 28))) := Lib.hid (St.of BX1.out ((Below.refl _ _).alloc (Nat.le_refl _) _) (Nat.le_refl _) (by rw [mixQ_zero]; exact OwnVs.made (by have := H0.out; omega)))
      generalize (w1.alloc (.cells (madeCells #[.float .f32 0, .float .f32 0, .float .f32 0] (fl * 3)) 28)) = W2 at *
      generalize w1.heap.size = g at *
      clear m0 hmk lm0
      go_loopw [27] (fun i w' => ∃ k : Nat, k ≤ pl ∧ i = .int .i64 k ∧ Aside (St w [(w.heap.size + 1, [.float .f32 0, .float .f32 0, .float .f32 0]), (w.heap.size, [.slice pa pl pc, .slice ta tl tc])] g (mixQ cs ds fl k) w')) (fun i _ => pl - (intOf i).toNat)
      case atStart => exact ⟨0, Nat.zero_le _, rfl, ST0.out⟩
      case round =>
        obtain ⟨k, hk, rfl, hA⟩ := hrel
        have ST := Lib.hid hA.out
        clear hA
        by_cases hlt' : k < pl
        · have hlt : k < fl := by have := H0.out; omega
          obtain ⟨bp, op, hpa, hcp⟩ := HP.out.some (by omega)
          obtain ⟨p, q, r, d0, d1, d2, fp, fq, fr⟩ := hcp k hlt'
          obtain ⟨bf, of, hfa, hcf⟩ := HF.out.some (by omega)
          obtain ⟨dp, dq, dr, z0, z1, z2, gp, gq, gr⟩ := hcf k hlt
          replace d0 := cell_below ST.out.bel d0
          replace d1 := cell_below ST.out.bel d1
          replace d2 := cell_below ST.out.bel d2
          have D := Lib.hid (And.intro z0 (And.intro z1 z2))
          have FP := Lib.hid (And.intro fp (And.intro fq fr))
          have FD := Lib.hid (And.intro gp (And.intro gq gr))
          have hk0 : (0 : Int) ≤ (k : Int) := by omega
          have hk1 : (k : Int) < (pl : Int) := by omega
          have hk2 : (k : Int) < (fl : Int) := by omega
          clear hcp hcf z0 z1 z2 fp fq fr gp gq gr
          rw [hpa, hfa]
          have HPA := Lib.hid (And.intro hpa hfa)
          clear hpa hfa
          go_wp2_with fail
          change (Code.region _ _ _).wp _ _ _ (wr.alloc (.cells #[.float .f32 p, .float .f32 q, .float .f32 r] 28))
          have ST1 := Lib.hid (ST.out.box (vs := [.float .f32 p, .float .f32 q, .float .f32 r]) (t := 28))
          clear d0 d1 d2
          change Hid (St w _ g _ (wr.alloc (.cells #[.float .f32 p, .float .f32 q, .float .f32 r] 28))) at ST1
          generalize (wr.alloc (.cells #[.float .f32 p, .float .f32 q, .float .f32 r] 28)) = W3 at *
          generalize wr.heap.size = PB at *
          refine Reg3.wp_region_mix (C := St w ((PB, [.float .f32 p, .float .f32 q, .float .f32 r]) :: [(w.heap.size + 1, [.float .f32 0, .float .f32 0, .float .f32 0]), (w.heap.size, [.slice pa pl pc, .slice ta tl tc])]) g (mixQ cs ds fl k)) (G := fun _ _ => True) (R := fun i v w' => match i with | 0 => v = .slice (some ⟨g, 0, none⟩) fl fl | 1 => v = .int .i64 k | 2 => v = .agg #[.float .f32 p, .float .f32 q, .float .f32 r] | 3 => v = .slice (some ⟨bf, of, none⟩) fl fc | 4 => v = .int .i64 k | 5 => v = .pointer (some ⟨bf, of + k * 3, none⟩) | 6 => v = .agg #[.float .f32 dp, .float .f32 dq, .float .f32 dr] | 7 => ∃ p q r, v = vv p q r ∧ F3 p q r (crC cs ds k) | 8 => v = .pointer (some ⟨g, k * 3, none⟩) | _ => True) (T := fun _ _ w' => St w ((PB, [.float .f32 p, .float .f32 q, .float .f32 r]) :: [(w.heap.size + 1, [.float .f32 0, .float .f32 0, .float .f32 0]), (w.heap.size, [.slice pa pl pc, .slice ta tl tc])]) g ((mixQ cs ds fl k).set k (crC cs ds k)) w') [false, false, false, false, false, false, false, false, false, false, false, false, false, false, false, false, false, false, false, false, false, false, false, false, false, false, false, false, false, false, false, false, true, true, true, true, true, true, true, true, true, false, false, false, false, false]
            (by kernel_rfl) (by kernel_rfl) (by kernel_rfl) (fun _ _ _ _ _ _ h => h) (ST1.out.drewN 1) ?_ ?_
          · refine ⟨Reg3.Obl.mk ?_, Reg3.Obl.mk ?_, Reg3.Obl.mk ?_, Reg3.Obl.mk ?_, Reg3.Obl.mk ?_, Reg3.Obl.mk ?_, Reg3.Obl.mk ?_, Reg3.Obl.mk ?_, Reg3.Obl.mk ?_, Reg3.Obl.mk ?_, trivial⟩
            · rintro a w1 hC hx hd K hK
              have HC := Lib.hid hC
              clear hC
              have t6 : a.tmps[6]?.getD undef = .slice (some ⟨g, 0, none⟩) fl fl := Reg.slot_val (hx 6 (by kernel_rfl))
              go_simp
              exact hK _ _ (fun _ => rfl) (fun h => by cases h) (fun _ => HC.out) trivial
            · rintro a w1 hC hx hd K hK
              have HC := Lib.hid hC
              clear hC
              have t7 : a.tmps[7]?.getD undef = .int .i64 k := Reg.slot_val (hx 7 (by kernel_rfl))
              go_simp
              exact hK _ _ (fun _ => rfl) (fun h => by cases h) (fun _ => HC.out) trivial
            · rintro a w1 hC hx hd K hK
              have HC := Lib.hid hC
              clear hC
              have y0 := (HC.out.mem (.head _)) 0 _ rfl
              have y1 := (HC.out.mem (.head _)) 1 _ rfl
              have y2 := (HC.out.mem (.head _)) 2 _ rfl
              have t8 : a.tmps[8]?.getD undef = .pointer (some ⟨PB, 0, none⟩) := Reg.slot_val (hx 8 (by kernel_rfl))
              go_simp
              exact hK _ _ (fun _ => rfl) (fun h => by cases h) (fun _ => HC.out) trivial
            · rintro a w1 hC hx hd K hK
              have HC := Lib.hid hC
              clear hC
              have t1 : a.tmps[1]?.getD undef = .slice (some ⟨bf, of, none⟩) fl fc := Reg.slot_val (hx 1 (by kernel_rfl))
              go_simp
              exact hK _ _ (fun _ => rfl) (fun h => by cases h) (fun _ => HC.out) trivial
            · rintro a w1 hC hx hd K hK
              have HC := Lib.hid hC
              clear hC
              have t7 : a.tmps[7]?.getD undef = .int .i64 k := Reg.slot_val (hx 7 (by kernel_rfl))
              go_simp
              exact hK _ _ (fun _ => rfl) (fun h => by cases h) (fun _ => HC.out) trivial
            · rintro a w1 hC hx hd K hK
              have HC := Lib.hid hC
              clear hC
              have t35 : a.tmps[35]?.getD undef = .slice (some ⟨bf, of, none⟩) fl fc := Reg.slot_val (hd 3 (by kernel_rfl) 35 rfl)
              have t36 : a.tmps[36]?.getD undef = .int .i64 k := Reg.slot_val (hd 4 (by kernel_rfl) 36 rfl)
              go_simp
              exact hK _ _ (fun _ => rfl) (fun h => by cases h) (fun _ => HC.out) trivial
            · rintro a w1 hC hx hd K hK
              have HC := Lib.hid hC
              clear hC
              have z0 := cell_below HC.out.bel D.out.1
              have z1 := cell_below HC.out.bel D.out.2.1
              have z2 := cell_below HC.out.bel D.out.2.2
              have t37 : a.tmps[37]?.getD undef = .pointer (some ⟨bf, of + k * 3, none⟩) := Reg.slot_val (hd 5 (by kernel_rfl) 37 rfl)
              go_simp
              exact hK _ _ (fun _ => rfl) (fun h => by cases h) (fun _ => HC.out) trivial
            · rintro a w1 hC hx hd K hK
              have HC := Lib.hid hC
              clear hC
              have t34 : a.tmps[34]?.getD undef = .agg #[.float .f32 p, .float .f32 q, .float .f32 r] := Reg.slot_val (hd 2 (by kernel_rfl) 34 rfl)
              have t38 : a.tmps[38]?.getD undef = .agg #[.float .f32 dp, .float .f32 dq, .float .f32 dr] := Reg.slot_val (hd 6 (by kernel_rfl) 38 rfl)
              go_simp
              refine (impl_CrossOf _ _ _ _ _ _ _ _ _ _ _ _ _ FP.out.1 FP.out.2.1 FP.out.2.2 FD.out.1 FD.out.2.1 FD.out.2.2).mono ?_
              rintro en w2 ⟨p', q', r', rfl, fp', fq', fr', hB2⟩
              exact hK _ _ (fun _ => ⟨p', q', r', rfl, fp', fq', fr'⟩) (fun h => by cases h) (fun _ => HC.out.call hB2) trivial
            · rintro a w1 hC hx hd K hK
              have HC := Lib.hid hC
              clear hC
              have t32 : a.tmps[32]?.getD undef = .slice (some ⟨g, 0, none⟩) fl fl := Reg.slot_val (hd 0 (by kernel_rfl) 32 rfl)
              have t33 : a.tmps[33]?.getD undef = .int .i64 k := Reg.slot_val (hd 1 (by kernel_rfl) 33 rfl)
              go_simp
              exact hK _ _ (fun _ => rfl) (fun h => by cases h) (fun _ => HC.out) trivial
            · rintro a w1 hC hx hd K hK
              have HC := Lib.hid hC
              clear hC
              have t40 : a.tmps[40]?.getD undef = .pointer (some ⟨g, k * 3, none⟩) := Reg.slot_val (hd 8 (by kernel_rfl) 40 rfl)
              obtain ⟨p39, q39, r39, g39, f39⟩ := hd 7 (by kernel_rfl) 39 rfl
              have t39 := Reg.slot_val g39
              clear g39
              obtain ⟨u0, u1, u2, ⟨x0, x1, x2⟩, _⟩ := HC.out.own.at (k := k) (by rw [mixQ_len]; exact hlt)
              have k0 := HC.out.own.2.1 (k * 3)
              have k1 := HC.out.own.2.1 (k * 3 + 1)
              have k2 := HC.out.own.2.1 (k * 3 + 2)
              go_simp
              exact hK undef _ (fun h => absurd rfl h) (fun _ => HC.out.put (by rw [mixQ_len]; exact hlt) f39) (fun h => absurd rfl h) trivial
          rintro f w4 hd hT
          have hS := hT 9 (by kernel_rfl) (by decide)
          simp only [Reg.mixL]
          rw [mixQ_set] at hS
          have ST2 := Lib.hid hS.drop
          clear hd hT hS
          go_wp2
          go_roundw
          case rel => exact ⟨k + 1, by omega, by go_num, by have h2 := ST2.out; rw [HPA.out.1] at h2; exact h2⟩
          case measure => simp [intOf]; omega
        · obtain rfl : k = pl := by omega
          have hfk : fl = k := H0.out
          subst hfk
          have hX : mixQ cs ds fl fl = torL cs ds fl := mixQ_end cs ds fl
          rw [hX] at ST
          have hlen := torL_len cs ds fl
          have hIs := ST.out.own.is
          rw [hlen] at hIs
          have JT := impl_TotalOf _ _ _ _ _ hIs
          rw [decide_eq_true (show fl ≤ 256 by omega)] at JT
          unfold totB at JT
          rw [if_pos (show fl ≤ 256 by omega)] at JT
          have JT := Lib.hid JT
          clear hIs hX
          go_wp2_with fail
          refine JT.out.mono ?_
          rintro e w5 ⟨xx, yy, zz, rfl, hF, hB5⟩
          have ST5 := ST.out.call hB5
          have V0 := ST5.v3 (x := 0) (y := 0) (z := 0) (.head _)
          have HP0 := Lib.hid (V0.put (p := xx) (q := yy) (r := zz))
          have HB0 := Lib.hid (below_set3 (o1 := 0) (o2 := 1) (o3 := 2) (u := .float .f32 xx) (v := .float .f32 yy) (t := .float .f32 zz) ST5.bel (Nat.le_succ _))
          have HFF := Lib.hid hF
          obtain ⟨⟨r0, r1, r2⟩, rf⟩ := V0
          have rf0 := rf 0
          have rf1 := rf 1
          have rf2 := rf 2
          clear rf ST5 hB5 hF
          go_wp2
          clear r0 r1 r2
          obtain ⟨⟨e0, e1, e2⟩, -⟩ := HP0.out
          refine bodyPost_ret (v := .tuple #[vv xx yy zz, .bool true]) (by simp [results, Try.results57, go_sem, e0, e1, e2]) rfl ⟨xx, yy, zz, rfl, HFF.out, HB0.out⟩
    · have e0 : ((fl : Int) == (pl : Int)) = false := beq_eq_false_iff_ne.2 (by omega)
      have e0' : ((fl : Int) != (pl : Int)) = true := by simp; omega
      rw [decide_eq_false h0]
      clear h0
      go_enter Try.func57, Try.ntmps57
      go_wp2_with fail
      generalize ((w.alloc (.cells #[.slice pa pl pc, .slice ta tl tc] 43)).alloc (.cells #[.float .f32 0, .float .f32 0, .float .f32 0] 28)) = W at *
      refine JV.out.mono ?_
      rintro e w1 ⟨rfl, hB1⟩
      have BX1 := BX.out.call hB1
      have m0 := (BX1.mem (.tail _ (.head _))) 0 _ rfl
      clear hB1
      have V0 := BX1.v3 (x := 0) (y := 0) (z := 0) (.head _)
      have HP0 := Lib.hid (V0.put (p := 0) (q := 0) (r := 0))
      have HB0 := Lib.hid (below_set3 (o1 := 0) (o2 := 1) (o3 := 2) (u := .float .f32 0) (v := .float .f32 0) (t := .float .f32 0) BX1.bel (BX1.low (.head _)))
      obtain ⟨⟨r0, r1, r2⟩, rf⟩ := V0
      have rf0 := rf 0
      have rf1 := rf 1
      have rf2 := rf 2
      clear rf
      go_wp2
      clear r0 r1 r2
      obtain ⟨⟨e0, e1, e2⟩, -⟩ := HP0.out
      refine bodyPost_ret (v := .tuple #[vv 0 0 0, .bool false]) (by simp [results, Try.results57, go_sem, e0, e1, e2]) rfl ⟨0, 0, 0, rfl, FV3_zero, HB0.out⟩
set_option maxHeartbeats 2000000 in
theorem spec_TorqueOf (pa ta fa : Option Addr) (pl pc tl tc fl fc : Nat) (cs : List C3) (ts : List (List Int)) (ds : List C3) (w : World) (hp : IsVs w pa pl pc cs) (ht : IsTs w ta tl tc ts) (hf : IsVs w fa fl fc ds) :
    Calls Try.prog 56 #[.agg #[.slice pa pl pc, .slice ta tl tc], .slice fa fl fc] w fun e w' => ∃ x y z, e = .returned (.tuple #[vv x y z, .bool (torB cs ts fl)]) ∧ FV3 x y z (torC cs ts ds fl) ∧ Below w.heap.size w w' := by
  have ui := Try.underlying43
  have u := Try.underlying22
  have uv := Try.underlying28
  have BX : Hid (Bx w [(w.heap.size + 1, [.float .f32 0, .float .f32 0, .float .f32 0]), (w.heap.size, [.slice pa pl pc, .slice ta tl tc])] ((w.alloc (.cells #[.slice pa pl pc, .slice ta tl tc] 43)).alloc (.cells #[.float .f32 0, .float .f32 0, .float .f32 0] 28))) := Lib.hid (by
    have h1 := (Bx.nil w).box (vs := [.slice pa pl pc, .slice ta tl tc]) (t := 43)
    have h2 := h1.box (vs := [.float .f32 0, .float .f32 0, .float .f32 0]) (t := 28)
    rw [World.size_alloc] at h2
    exact h2)
  have hpl := hp.1
  have hfm : fl ≤ 9223372036854775807 := by have h1 := hf.2.1; have h2 := hf.2.2.1; unfold maxLen at h2; omega
  have hm : pl ≤ 9223372036854775807 := by have h1 := hp.2.1; have h2 := hp.2.2.1; unfold maxLen at h2; omega
  have JV := l02IsB w.heap.size pa ta pl pc tl tc cs ts ((w.alloc (.cells #[.slice pa pl pc, .slice ta tl tc] 43)).alloc (.cells #[.float .f32 0, .float .f32 0, .float .f32 0] 28)) ((BX.out.mem (.tail _ (.head _))) 0 _ rfl) ((BX.out.mem (.tail _ (.head _))) 1 _ rfl) (hp.below BX.out.bel) (ht.below BX.out.bel)
  have HP := Lib.hid hp
  have HF := Lib.hid hf
  unfold torC torB
  rw [hpl]
  clear hp ht hf
  cases hv : validB cs ts
  · rw [hv] at JV
    have JV := Lib.hid JV
    clear hv hpl
    go_enter Try.func56, Try.ntmps56
    go_wp2_with fail
    generalize ((w.alloc (.cells #[.slice pa pl pc, .slice ta tl tc] 43)).alloc (.cells #[.float .f32 0, .float .f32 0, .float .f32 0] 28)) = W at *
    refine JV.out.mono ?_
    rintro e w1 ⟨rfl, hB1⟩
    have BX1 := BX.out.call hB1
    clear hB1
    have V0 := BX1.v3 (x := 0) (y := 0) (z := 0) (.head _)
    have HP0 := Lib.hid (V0.put (p := 0) (q := 0) (r := 0))
    have HB0 := Lib.hid (below_set3 (o1 := 0) (o2 := 1) (o3 := 2) (u := .float .f32 0) (v := .float .f32 0) (t := .float .f32 0) BX1.bel (BX1.low (.head _)))
    obtain ⟨⟨r0, r1, r2⟩, rf⟩ := V0
    have rf0 := rf 0
    have rf1 := rf 1
    have rf2 := rf 2
    clear rf
    go_wp2
    clear r0 r1 r2
    obtain ⟨⟨e0, e1, e2⟩, -⟩ := HP0.out
    refine bodyPost_ret (v := .tuple #[vv 0 0 0, .bool false]) (by simp [results, Try.results56, go_sem, e0, e1, e2]) rfl ⟨0, 0, 0, rfl, FV3_zero, HB0.out⟩
  · rw [hv] at JV
    have JV := Lib.hid JV
    have h64 : pl ≤ 64 := by have := valid_places hv; omega
    clear hv
    by_cases h0 : fl = pl
    · have e0 : ((fl : Int) == (pl : Int)) = true := by rw [h0]; simp
      have e0' : ((fl : Int) != (pl : Int)) = false := by rw [h0]; simp
      rw [decide_eq_true h0]
      show Calls _ _ _ _ fun e w' => ∃ x y z, e = .returned (.tuple #[vv x y z, .bool true]) ∧ FV3 x y z (totC (torL cs ds fl)) ∧ Below w.heap.size w w'
      have H0 := Lib.hid h0
      clear h0
      go_enter Try.func56, Try.ntmps56
      go_wp2_with fail
      generalize ((w.alloc (.cells #[.slice pa pl pc, .slice ta tl tc] 43)).alloc (.cells #[.float .f32 0, .float .f32 0, .float .f32 0] 28)) = W at *
      refine JV.out.mono ?_
      rintro e w1 ⟨rfl, hB1⟩
      have BX1 := Lib.hid (BX.out.call hB1)
      have m0 := (BX1.out.mem (.tail _ (.head _))) 0 _ rfl
      clear hB1
      go_wp2
      have ST0 : Hid (St w [(w.heap.size + 1, [.float .f32 0, .float .f32 0, .float .f32 0]), (w.heap.size, [.slice pa pl pc, .slice ta tl tc])] w1.heap.size [z3] (w1.alloc (.cells #[.float .f32 0, .float .f32 0, .float .f32 0] 28))) := Lib.hid (St.of BX1.out ((Below.refl _ _).alloc (Nat.le_refl _) _) (Nat.le_refl _) (OwnVs.of (n := 1) ⟨rfl, Nat.le_refl _, by decide, by simp, fun x hx i hi => by
        cases hx
        obtain rfl : i = 0 := by omega
        exact ⟨0, 0, 0, by go_simp, by go_simp, by go_simp, ⟨by decide, by decide⟩, ⟨by decide, by decide⟩, ⟨by decide, by decide⟩⟩⟩ Fr.new (by simp)))
      generalize (w1.alloc (.cells #[.float .f32 0, .float .f32 0, .float .f32 0] 28)) = W2 at *
      generalize w1.heap.size = sb at *
      clear m0
      go_loopw [7] (fun i w' => ∃ k : Nat, k ≤ fl ∧ i = .int .i64 k ∧ Aside (St w [(w.heap.size + 1, [.float .f32 0, .float .f32 0, .float .f32 0]), (w.heap.size, [.slice pa pl pc, .slice ta tl tc])] sb [totC ((torL cs ds fl).take k)] w')) (fun i _ => fl - (intOf i).toNat)
      case atStart => exact ⟨0, Nat.zero_le _, rfl, ST0.out⟩
      case round =>
        obtain ⟨k, hk, rfl, hA⟩ := hrel
        have ST := Lib.hid hA.out
        clear hA
        by_cases hlt : k < fl
        · have hlt' : k < pl := by have := H0.out; omega
          obtain ⟨bp, op, hpa, hcp⟩ := HP.out.some (by omega)
          obtain ⟨p, q, r, d0, d1, d2, fp, fq, fr⟩ := hcp k hlt'
          obtain ⟨bf, of, hfa, hcf⟩ := HF.out.some (by omega)
          obtain ⟨dp, dq, dr, z0, z1, z2, gp, gq, gr⟩ := hcf k hlt
          have P0 := Lib.hid (And.intro d0 (And.intro d1 d2))
          have D := Lib.hid (And.intro z0 (And.intro z1 z2))
          have FP := Lib.hid (And.intro fp (And.intro fq fr))
          have FD := Lib.hid (And.intro gp (And.intro gq gr))
          have hk0 : (0 : Int) ≤ (k : Int) := by omega
          have hk1 : (k : Int) < (pl : Int) := by omega
          have hk2 : (k : Int) < (fl : Int) := by omega
          have hsn := totC_snoc (torL cs ds fl) k (by rw [torL_len]; exact hlt)
          rw [torL_at _ _ _ _ hlt] at hsn
          have HSN := Lib.hid hsn
          clear hcp hcf d0 d1 d2 z0 z1 z2 fp fq fr gp gq gr hsn
          rw [hpa, hfa]
          have HPA := Lib.hid (And.intro hpa hfa)
          clear hpa hfa
          go_wp2_with fail
          refine Reg3.wp_region_mix (C := St w ([(w.heap.size + 1, [.float .f32 0, .float .f32 0, .float .f32 0]), (w.heap.size, [.slice pa pl pc, .slice ta tl tc])]) sb [totC ((torL cs ds fl).take k)]) (G := fun _ _ => True) (R := fun i v w' => match i with | 0 => ∃ p q r, v = vv p q r ∧ F3 p q r (totC ((torL cs ds fl).take k)) | 1 => v = .pointer (some ⟨w.heap.size, 0, none⟩) | 2 => v = .slice (some ⟨bp, op, none⟩) pl pc | 3 => v = .int .i64 k | 4 => v = .pointer (some ⟨bp, op + k * 3, none⟩) | 5 => v = .agg #[.float .f32 p, .float .f32 q, .float .f32 r] | 6 => v = .slice (some ⟨bf, of, none⟩) fl fc | 7 => v = .int .i64 k | 8 => v = .pointer (some ⟨bf, of + k * 3, none⟩) | 9 => v = .agg #[.float .f32 dp, .float .f32 dq, .float .f32 dr] | 10 => ∃ p q r, v = vv p q r ∧ F3 p q r (crC cs ds k) | 11 => ∃ p q r, v = vv p q r ∧ F3 p q r (addC (totC ((torL cs ds fl).take k)) (crC cs ds k)) | _ => True) (T := fun _ _ w' => St w ([(w.heap.size + 1, [.float .f32 0, .float .f32 0, .float .f32 0]), (w.heap.size, [.slice pa pl pc, .slice ta tl tc])]) sb [addC (totC ((torL cs ds fl).take k)) (crC cs ds k)] w') [false, false, false, false, false, false, false, false, false, false, false, false, false, false, false, false, false, false, false, false, false, false, false, false, false, false, true, true, true, true, true, true, true, true, true, true, true, true, false]
            (by kernel_rfl) (by kernel_rfl) (by kernel_rfl) (fun _ _ _ _ _ _ h => h) (ST.out.drewN 1) ?_ ?_
          · refine ⟨Reg3.Obl.mk ?_, Reg3.Obl.mk ?_, Reg3.Obl.mk ?_, Reg3.Obl.mk ?_, Reg3.Obl.mk ?_, Reg3.Obl.mk ?_, Reg3.Obl.mk ?_, Reg3.Obl.mk ?_, Reg3.Obl.mk ?_, Reg3.Obl.mk ?_, Reg3.Obl.mk ?_, Reg3.Obl.mk ?_, Reg3.Obl.mk ?_, trivial⟩
            · rintro a w1 hC hx hd K hK
              have HC := Lib.hid hC
              clear hC
              obtain ⟨x, y, z, ⟨x0, x1, x2⟩, fs⟩ := HC.out.own.at (k := 0) (by simp)
              have y0 : w1.cell? ⟨sb, 0, none⟩ = some (.float .f32 x) := x0
              have y1 : w1.cell? ⟨sb, 1, none⟩ = some (.float .f32 y) := x1
              have y2 : w1.cell? ⟨sb, 2, none⟩ = some (.float .f32 z) := x2
              have FS := Lib.hid fs
              clear x0 x1 x2 fs
              have t6 : a.tmps[6]?.getD undef = .pointer (some ⟨sb, 0, none⟩) := Reg.slot_val (hx 6 (by kernel_rfl))
              go_simp
              exact hK _ _ (fun _ => ⟨x, y, z, rfl, FS.out⟩) (fun h => by cases h) (fun _ => HC.out) trivial
            · rintro a w1 hC hx hd K hK
              have HC := Lib.hid hC
              clear hC
              have t2 : a.tmps[2]?.getD undef = .pointer (some ⟨w.heap.size, 0, none⟩) := Reg.slot_val (hx 2 (by kernel_rfl))
              go_simp
              exact hK _ _ (fun _ => rfl) (fun h => by cases h) (fun _ => HC.out) trivial
            · rintro a w1 hC hx hd K hK
              have HC := Lib.hid hC
              clear hC
              have m0 := (HC.out.mem (.tail _ (.head _))) 0 _ rfl
              rw [HPA.out.1] at m0
              have t27 : a.tmps[27]?.getD undef = .pointer (some ⟨w.heap.size, 0, none⟩) := Reg.slot_val (hd 1 (by kernel_rfl) 27 rfl)
              go_simp
              exact hK _ _ (fun _ => rfl) (fun h => by cases h) (fun _ => HC.out) trivial
            · rintro a w1 hC hx hd K hK
              have HC := Lib.hid hC
              clear hC
              have t7 : a.tmps[7]?.getD undef = .int .i64 k := Reg.slot_val (hx 7 (by kernel_rfl))
              go_simp
              exact hK _ _ (fun _ => rfl) (fun h => by cases h) (fun _ => HC.out) trivial
            · rintro a w1 hC hx hd K hK
              have HC := Lib.hid hC
              clear hC
              have t28 : a.tmps[28]?.getD undef = .slice (some ⟨bp, op, none⟩) pl pc := Reg.slot_val (hd 2 (by kernel_rfl) 28 rfl)
              have t29 : a.tmps[29]?.getD undef = .int .i64 k := Reg.slot_val (hd 3 (by kernel_rfl) 29 rfl)
              go_simp
              exact hK _ _ (fun _ => rfl) (fun h => by cases h) (fun _ => HC.out) trivial
            · rintro a w1 hC hx hd K hK
              have HC := Lib.hid hC
              clear hC
              have y0 := cell_below HC.out.bel P0.out.1
              have y1 := cell_below HC.out.bel P0.out.2.1
              have y2 := cell_below HC.out.bel P0.out.2.2
              have t30 : a.tmps[30]?.getD undef = .pointer (some ⟨bp, op + k * 3, none⟩) := Reg.slot_val (hd 4 (by kernel_rfl) 30 rfl)
              go_simp
              exact hK _ _ (fun _ => rfl) (fun h => by cases h) (fun _ => HC.out) trivial
            · rintro a w1 hC hx hd K hK
              have HC := Lib.hid hC
              clear hC
              have t1 : a.tmps[1]?.getD undef = .slice (some ⟨bf, of, none⟩) fl fc := Reg.slot_val (hx 1 (by kernel_rfl))
              go_simp
              exact hK _ _ (fun _ => rfl) (fun h => by cases h) (fun _ => HC.out) trivial
            · rintro a w1 hC hx hd K hK
              have HC := Lib.hid hC
              clear hC
              have t7 : a.tmps[7]?.getD undef = .int .i64 k := Reg.slot_val (hx 7 (by kernel_rfl))
              go_simp
              exact hK _ _ (fun _ => rfl) (fun h => by cases h) (fun _ => HC.out) trivial
            · rintro a w1 hC hx hd K hK
              have HC := Lib.hid hC
              clear hC
              have t32 : a.tmps[32]?.getD undef = .slice (some ⟨bf, of, none⟩) fl fc := Reg.slot_val (hd 6 (by kernel_rfl) 32 rfl)
              have t33 : a.tmps[33]?.getD undef = .int .i64 k := Reg.slot_val (hd 7 (by kernel_rfl) 33 rfl)
              go_simp
              exact hK _ _ (fun _ => rfl) (fun h => by cases h) (fun _ => HC.out) trivial
            · rintro a w1 hC hx hd K hK
              have HC := Lib.hid hC
              clear hC
              have z0 := cell_below HC.out.bel D.out.1
              have z1 := cell_below HC.out.bel D.out.2.1
              have z2 := cell_below HC.out.bel D.out.2.2
              have t34 : a.tmps[34]?.getD undef = .pointer (some ⟨bf, of + k * 3, none⟩) := Reg.slot_val (hd 8 (by kernel_rfl) 34 rfl)
              go_simp
              exact hK _ _ (fun _ => rfl) (fun h => by cases h) (fun _ => HC.out) trivial
            · rintro a w1 hC hx hd K hK
              have HC := Lib.hid hC
              clear hC
              have t31 : a.tmps[31]?.getD undef = .agg #[.float .f32 p, .float .f32 q, .float .f32 r] := Reg.slot_val (hd 5 (by kernel_rfl) 31 rfl)
              have t35 : a.tmps[35]?.getD undef = .agg #[.float .f32 dp, .float .f32 dq, .float .f32 dr] := Reg.slot_val (hd 9 (by kernel_rfl) 35 rfl)
              go_simp
              refine (l01Cross _ _ _ _ _ _ _ _ _ _ _ _ _ FP.out.1 FP.out.2.1 FP.out.2.2 FD.out.1 FD.out.2.1 FD.out.2.2).mono ?_
              rintro en w2 ⟨p', q', r', rfl, fp', fq', fr', hB2⟩
              exact hK _ _ (fun _ => ⟨p', q', r', rfl, fp', fq', fr'⟩) (fun h => by cases h) (fun _ => HC.out.call hB2) trivial
            · rintro a w1 hC hx hd K hK
              have HC := Lib.hid hC
              clear hC
              obtain ⟨p26, q26, r26, g26, f26⟩ := hd 0 (by kernel_rfl) 26 rfl
              have t26 := Reg.slot_val g26
              clear g26
              obtain ⟨p36, q36, r36, g36, f36⟩ := hd 10 (by kernel_rfl) 36 rfl
              have t36 := Reg.slot_val g36
              clear g36
              go_simp
              refine (l01Add _ _ _ _ _ _ _ _ _ _ _ _ _ f26.1 f26.2.1 f26.2.2 f36.1 f36.2.1 f36.2.2).mono ?_
              rintro en w2 ⟨p', q', r', rfl, fp', fq', fr', hB2⟩
              exact hK _ _ (fun _ => ⟨p', q', r', rfl, fp', fq', fr'⟩) (fun h => by cases h) (fun _ => HC.out.call hB2) trivial
            · rintro a w1 hC hx hd K hK
              have HC := Lib.hid hC
              clear hC
              have t6 : a.tmps[6]?.getD undef = .pointer (some ⟨sb, 0, none⟩) := Reg.slot_val (hx 6 (by kernel_rfl))
              obtain ⟨p37, q37, r37, g37, f37⟩ := hd 11 (by kernel_rfl) 37 rfl
              have t37 := Reg.slot_val g37
              clear g37
              obtain ⟨x, y, z, ⟨x0, x1, x2⟩, _⟩ := HC.out.own.at (k := 0) (by simp)
              have y0 : w1.cell? ⟨sb, 0, none⟩ = some (.float .f32 x) := x0
              have y1 : w1.cell? ⟨sb, 1, none⟩ = some (.float .f32 y) := x1
              have y2 : w1.cell? ⟨sb, 2, none⟩ = some (.float .f32 z) := x2
              have k0 := HC.out.own.2.1 0
              have k1 := HC.out.own.2.1 1
              have k2 := HC.out.own.2.1 2
              clear x0 x1 x2
              go_simp
              exact hK undef _ (fun h => absurd rfl h) (fun _ => HC.out.put (k := 0) (by simp) f37) (fun h => absurd rfl h) trivial
          rintro f w4 hd hT
          have hS := hT 12 (by kernel_rfl) (by decide)
          simp only [Reg.mixL]
          rw [← HSN.out] at hS
          have ST2 := Lib.hid hS
          clear hd hT hS
          go_wp2
          go_roundw
          case rel => exact ⟨k + 1, by omega, by go_num, by have h2 := ST2.out; rw [HPA.out.1] at h2; exact h2⟩
          case measure => simp [intOf]; omega
        · obtain rfl : k = fl := by omega
          have hX : (torL cs ds k).take k = torL cs ds k := List.take_of_length_le (by rw [torL_len]; exact Nat.le_refl _)
          rw [hX] at ST
          obtain ⟨xx, yy, zz, ⟨x0, x1, x2⟩, hF⟩ := ST.out.own.at (k := 0) (by simp)
          have y0 : wr.cell? ⟨sb, 0, none⟩ = some (.float .f32 xx) := x0
          have y1 : wr.cell? ⟨sb, 1, none⟩ = some (.float .f32 yy) := x1
          have y2 : wr.cell? ⟨sb, 2, none⟩ = some (.float .f32 zz) := x2
          have V0 := ST.out.v3 (x := 0) (y := 0) (z := 0) (.head _)
          have HP0 := Lib.hid (V0.put (p := xx) (q := yy) (r := zz))
          have HB0 := Lib.hid (below_set3 (o1 := 0) (o2 := 1) (o3 := 2) (u := .float .f32 xx) (v := .float .f32 yy) (t := .float .f32 zz) ST.out.bel (Nat.le_succ _))
          have HFF : Hid (FV3 xx yy zz (totC (torL cs ds k))) := Lib.hid hF
          obtain ⟨⟨r0, r1, r2⟩, rf⟩ := V0
          have rf0 := rf 0
          have rf1 := rf 1
          have rf2 := rf 2
          clear rf hF x0 x1 x2
          go_wp2
          clear r0 r1 r2 y0 y1 y2
          obtain ⟨⟨e0, e1, e2⟩, -⟩ := HP0.out
          refine bodyPost_ret (v := .tuple #[vv xx yy zz, .bool true]) (by simp [results, Try.results56, go_sem, e0, e1, e2]) rfl ⟨xx, yy, zz, rfl, HFF.out, HB0.out⟩
    · have e0 : ((fl : Int) == (pl : Int)) = false := beq_eq_false_iff_ne.2 (by omega)
      have e0' : ((fl : Int) != (pl : Int)) = true := by simp; omega
      rw [decide_eq_false h0]
      clear h0
      go_enter Try.func56, Try.ntmps56
      go_wp2_with fail
      generalize ((w.alloc (.cells #[.slice pa pl pc, .slice ta tl tc] 43)).alloc (.cells #[.float .f32 0, .float .f32 0, .float .f32 0] 28)) = W at *
      refine JV.out.mono ?_
      rintro e w1 ⟨rfl, hB1⟩
      have BX1 := BX.out.call hB1
      have m0 := (BX1.mem (.tail _ (.head _))) 0 _ rfl
      clear hB1
      have V0 := BX1.v3 (x := 0) (y := 0) (z := 0) (.head _)
      have HP0 := Lib.hid (V0.put (p := 0) (q := 0) (r := 0))
      have HB0 := Lib.hid (below_set3 (o1 := 0) (o2 := 1) (o3 := 2) (u := .float .f32 0) (v := .float .f32 0) (t := .float .f32 0) BX1.bel (BX1.low (.head _)))
      obtain ⟨⟨r0, r1, r2⟩, rf⟩ := V0
      have rf0 := rf 0
      have rf1 := rf 1
      have rf2 := rf 2
      clear rf
      go_wp2
      clear r0 r1 r2
      obtain ⟨⟨e0, e1, e2⟩, -⟩ := HP0.out
      refine bodyPost_ret (v := .tuple #[vv 0 0 0, .bool false]) (by simp [results, Try.results56, go_sem, e0, e1, e2]) rfl ⟨0, 0, 0, rfl, FV3_zero, HB0.out⟩
end Go.Proofs.Ytljpjmkickkcpaa

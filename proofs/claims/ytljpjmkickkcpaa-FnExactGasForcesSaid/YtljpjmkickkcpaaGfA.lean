
/-
The forces of a gas: the model. Conditions: the mesh lies in memory and is valid.
-/
import Derived.Test.YtljpjmkickkcpaaFqA
import Derived.Test.YtljpjmkickkcpaaNrD
import Derived.Test.YtljpjmkickkcpaaAcs
namespace Go.Proofs.Ytljpjmkickkcpaa
open Go Fk Go.RowKit
set_option linter.unusedVariables false
set_option maxRecDepth 16000

def gasS (F : C3) (q : Option Nat) : C3 := (fop .mul .f32 F.1 q, fop .mul .f32 F.2.1 q, fop .mul .f32 F.2.2 q)
def gasP (F : C3) (X : List C3) (z : Int) : List C3 := X.set z.toNat (sumV (X.getD z.toNat c0) F)
def gas3 (F : C3) (X : List C3) (t : List Int) : Nat → List C3
  | 0 => X
  | j + 1 => gasP F (gas3 F X t j) (t.getD j 0)
def gasF (q : Option Nat) (cs : List C3) (ts : List (List Int)) : Nat → List C3
  | 0 => List.replicate cs.length (some 0, some 0, some 0)
  | k + 1 => gas3 (gasS (normalC cs (ts.getD k [])) q) (gasF q cs ts k) (ts.getD k []) 3
def sixG : Option Nat := cls .f32 1086324736
theorem six_FV : FV .f32 1086324736 sixG := ⟨by decide, rfl⟩
theorem gas3_len (F : C3) (X : List C3) (t : List Int) (j : Nat) : (gas3 F X t j).length = X.length := by
  induction j with
  | zero => rfl
  | succ j ih => show (gasP F (gas3 F X t j) _).length = _; unfold gasP; rw [List.length_set, ih]
theorem gasF_len (q : Option Nat) (cs : List C3) (ts : List (List Int)) (k : Nat) : (gasF q cs ts k).length = cs.length := by
  induction k with
  | zero => simp [gasF]
  | succ k ih => show (gas3 _ (gasF q cs ts k) _ 3).length = _; rw [gas3_len, ih]
theorem len128 {cs : List C3} {ts : List (List Int)} (h : validB cs ts = true) : ts.length ≤ 128 ∧ cs.length ≤ 64 := by
  unfold validB at h; simp at h; exact ⟨h.1.2, h.1.1⟩
set_option maxHeartbeats 2000000 in
theorem l04Gas (pb : Nat) (pa ta : Option Addr) (pl pc tl tc : Nat) (cs : List C3) (ts : List (List Int)) (pr : Nat) (pq : Option Nat) (w : World) (c0' : w.cell? ⟨pb, 0, none⟩ = some (.slice pa pl pc)) (c1' : w.cell? ⟨pb, 1, none⟩ = some (.slice ta tl tc)) (hp : IsVs w pa pl pc cs) (ht : IsTs w ta tl tc ts) (hv : validB cs ts = true) (hpr : FV .f32 pr pq) :
    Calls Try.prog 96 #[.pointer (some ⟨pb, 0, none⟩), .float .f32 pr] w fun e w' => ∃ v, e = .returned v ∧ RV w.heap.size w' v (gasF (fop .quo .f32 pq sixG) cs ts tl) ∧ Below w.heap.size w w' := by
  have ui := Try.underlying43
  have uv := Try.underlying28
  have u := Try.underlying22
  have hpl := hp.1
  have htl := ht.1
  have h64 := (len128 hv).2
  have h128 := (len128 hv).1
  rw [hpl] at h64
  rw [htl] at h128
  have HTRI : Hid (∀ k, k < tl → triB pl (ts.getD k []) = true) := Lib.hid (fun k hk => by
    have := valid_row hv (k := k) (by rw [htl]; exact hk)
    rwa [hpl] at this)
  have HP := Lib.hid hp
  have HT := Lib.hid ht
  have HV := Lib.hid hv
  have HPR := Lib.hid hpr
  have C0 := Lib.hid c0'
  have C1 := Lib.hid c1'
  have hmk := fun W => make_vecs W pl (by omega)
  have ST0 : Hid (St w ([] : List (Nat × List Value)) w.heap.size (gasF (fop .quo .f32 pq sixG) cs ts 0) (w.alloc (.cells (madeCells #[.float .f32 0, .float .f32 0, .float .f32 0] (pl * 3)) 28))) := Lib.hid (St.of (Bx.nil w) ((Below.refl _ _).alloc (Nat.le_refl _) _) (Nat.le_refl _) (by unfold gasF; rw [hpl]; exact OwnVs.made (by omega)))
  clear hp ht hv hpr
  go_enter Try.func96, Try.ntmps96
  go_wp2
  generalize (w.alloc (.cells (madeCells #[.float .f32 0, .float .f32 0, .float .f32 0] (pl * 3)) 28)) = W2 at *
  obtain ⟨g, hg⟩ : ∃ g, g = w.heap.size := ⟨_, rfl⟩
  rw [← hg] at ST0 ⊢
  have HGE := Lib.hid hg
  clear hg hmk c0' c1'
  go_loopw [6] (fun i w' => ∃ k : Nat, k ≤ tl ∧ i = .int .i64 k ∧ Aside (St w ([] : List (Nat × List Value)) g (gasF (fop .quo .f32 pq sixG) cs ts k) w')) (fun i _ => tl - (intOf i).toNat)
  case atStart => exact ⟨0, Nat.zero_le _, rfl, ST0.out⟩
  case round =>
    obtain ⟨k, hk, rfl, hA⟩ := hrel
    have ST := Lib.hid hA.out
    have kb0 := cell_below hA.out.bel C0.out
    have kb1 := cell_below hA.out.bel C1.out
    clear hA
    by_cases hlt : k < tl
    · have htri := HTRI.out k hlt
      obtain ⟨bt, ot, rfl, hrow⟩ := HT.out.some (by omega)
      obtain ⟨r1, n1, q1, cr, ir⟩ := hrow k hlt
      obtain ⟨h3, hin⟩ := tri_parts htri
      have hn1 : n1 = 3 := ir.1.symm.trans h3
      subst hn1
      obtain ⟨br, or, rfl, hz⟩ := ir.some (by decide)
      have hk0 : (0 : Int) ≤ (k : Int) := by omega
      have hk1 : (k : Int) < (tl : Int) := by omega
      have hJN := l02Normal pb pa _ pl pc tl tc cs ts k wr kb0 kb1 (HP.out.below ST.out.bel) (HT.out.below ST.out.bel) HV.out hlt
      have hcr := cell_below ST.out.bel cr
      have hnl : (gasF (fop .quo .f32 pq sixG) cs ts k).length = pl := by rw [gasF_len, hpl]
      have hsk : gasF (fop .quo .f32 pq sixG) cs ts (k + 1) = gas3 (gasS (normalC cs (ts.getD k [])) (fop .quo .f32 pq sixG)) (gasF (fop .quo .f32 pq sixG) cs ts k) (ts.getD k []) 3 := rfl
      have HSK := Lib.hid hsk
      have HNL := Lib.hid hnl
      have HIN := Lib.hid hin
      have HZ := Lib.hid hz
      have HCR := Lib.hid cr
      generalize normalC cs (ts.getD k []) = NC at *
      generalize ts.getD k [] = T at *
      generalize gasF (fop .quo .f32 pq sixG) cs ts k = NX at *
      have JN := Lib.hid hJN
      clear hrow htri cr ir h3 hin hz hJN hnl hsk
      go_wp2_with fail
      clear kb0 kb1 hcr
      refine JN.out.mono ?_
      rintro e w1 ⟨x1, y1, z1, rfl, fx, fy, fz, hB1⟩
      have ST1 := Lib.hid (ST.out.call hB1)
      have F1 := Lib.hid (And.intro fx (And.intro fy fz))
      clear hB1 fx fy fz
      go_wp2_with fail
      refine (l01Scale _ _ _ _ _ _ _ _ _ F1.out.1 F1.out.2.1 F1.out.2.2 (FV_fR HPR.out six_FV)).mono ?_
      rintro e w2 ⟨x, y, z, rfl, fx, fy, fz, hB2⟩
      obtain ⟨F, hF⟩ : ∃ F, F = gasS NC (fop .quo .f32 pq sixG) := ⟨_, rfl⟩
      have FF : Hid (F3 x y z F) := Lib.hid (by rw [hF]; exact ⟨fx, fy, fz⟩)
      rw [← hF] at HSK
      have ST2 := Lib.hid ((ST1.out.drewN _).call hB2)
      clear hB2 fx fy fz hF
      have ST3 := Lib.hid (ST2.out.box (vs := [.float .f32 x, .float .f32 y, .float .f32 z]) (t := 28))
      have hcr := cell_below ST2.out.bel HCR.out
      have m1 := cell_below ST2.out.bel C1.out
      have lcr := fun ob => cell_alloc (o := ob) hcr
      have lm1 := fun ob => cell_alloc (o := ob) m1
      go_wp2
      clear hcr m1 lcr lm1
      change Hid (St w _ g _ (w2.alloc (.cells #[.float .f32 x, .float .f32 y, .float .f32 z] 28))) at ST3
      generalize (w2.alloc (.cells #[.float .f32 x, .float .f32 y, .float .f32 z] 28)) = W3 at *
      generalize w2.heap.size = PF at *
      go_loopw [9] (fun i w' => ∃ j : Nat, j ≤ 3 ∧ i = .int .i64 j ∧ Aside (St w [(PF, [.float .f32 x, .float .f32 y, .float .f32 z])] g (gas3 F NX T j) w')) (fun i _ => 3 - (intOf i).toNat)
      case atStart => exact ⟨0, Nat.zero_le _, rfl, ST3.out⟩
      case round =>
        obtain ⟨j, hj, rfl, hA⟩ := hrel
        have SJ := Lib.hid hA.out
        clear hA
        have hin := HIN.out
        by_cases hj3 : j < 3
        · have CP0 := HZ.out j hj3
          have hj0 : (0 : Int) ≤ (j : Int) := by omega
          have hj1 : (j : Int) < 3 := by omega
          have hJ := hin j hj3
          have hsn : gas3 F NX T (j + 1) = gasP F (gas3 F NX T j) (T.getD j 0) := rfl
          have hlx := gas3_len F NX T j
          have hNXl := HNL.out
          generalize T.getD j 0 = J at *
          have p0 : (0 : Int) ≤ J := hJ.1
          have p1 : J < (pl : Int) := by have := hJ.2; omega
          have LT : Hid (J.toNat < (gas3 F NX T j).length) := Lib.hid (by rw [hlx, hNXl]; exact hJ.2)
          unfold gasP at hsn
          obtain ⟨NP, hNP⟩ : ∃ NP, (gas3 F NX T j).getD J.toNat c0 = NP := ⟨_, rfl⟩
          rw [hNP] at hsn
          have HSN := Lib.hid hsn
          generalize gas3 F NX T j = NY at *
          have HNP := Lib.hid hNP
          clear hJ hsn hlx hNXl hNP
          have CP := Lib.hid CP0
          clear CP0 hin
          go_wp2_with fail
          refine Reg3.wp_region_mix (C := St w [(PF, [.float .f32 x, .float .f32 y, .float .f32 z])] g NY) (G := fun _ _ => True) (R := fun i v w' => match i with | 0 => v = .slice (some ⟨g, 0, none⟩) pl pl | 1 => v = .slice (some ⟨br, or, none⟩) 3 q1 | 2 => v = .int .i64 j | 3 => v = .pointer (some ⟨br, or + j, none⟩) | 4 => v = .int .i64 J | 5 => v = .slice (some ⟨g, 0, none⟩) pl pl | 6 => v = .slice (some ⟨br, or, none⟩) 3 q1 | 7 => v = .int .i64 j | 8 => v = .pointer (some ⟨br, or + j, none⟩) | 9 => v = .int .i64 J | 10 => v = .pointer (some ⟨g, J.toNat * 3, none⟩) | 11 => ∃ p q r, v = vv p q r ∧ F3 p q r NP | 12 => v = .agg #[.float .f32 x, .float .f32 y, .float .f32 z] | 13 => ∃ p q r, v = vv p q r ∧ F3 p q r (sumV NP F) | 14 => v = .pointer (some ⟨g, J.toNat * 3, none⟩) | _ => True) (T := fun _ _ w' => St w [(PF, [.float .f32 x, .float .f32 y, .float .f32 z])] g (NY.set J.toNat (sumV NP F)) w') [false, false, false, false, false, false, false, false, false, false, false, false, false, false, false, false, false, false, false, false, false, false, false, false, false, false, false, false, false, false, false, false, false, false, false, false, false, false, false, false, false, false, true, true, true, true, true, true, true, true, true, true, true, true, true, true, true, false]
            (by kernel_rfl) (by kernel_rfl) (by kernel_rfl) (fun _ _ _ _ _ _ h => h) (SJ.out.drewN 1) ?_ ?_
          · refine ⟨Reg3.Obl.mk ?_, Reg3.Obl.mk ?_, Reg3.Obl.mk ?_, Reg3.Obl.mk ?_, Reg3.Obl.mk ?_, Reg3.Obl.mk ?_, Reg3.Obl.mk ?_, Reg3.Obl.mk ?_, Reg3.Obl.mk ?_, Reg3.Obl.mk ?_, Reg3.Obl.mk ?_, Reg3.Obl.mk ?_, Reg3.Obl.mk ?_, Reg3.Obl.mk ?_, Reg3.Obl.mk ?_, Reg3.Obl.mk ?_, trivial⟩
            · rintro a w1 hC hx hd K hK
              have HC := Lib.hid hC
              clear hC
              have t5 : a.tmps[5]?.getD undef = .slice (some ⟨g, 0, none⟩) pl pl := Reg.slot_val (hx 5 (by kernel_rfl))
              go_simp
              exact hK _ _ (fun _ => rfl) (fun h => by cases h) (fun _ => HC.out) trivial
            · rintro a w1 hC hx hd K hK
              have HC := Lib.hid hC
              clear hC
              have t8 : a.tmps[8]?.getD undef = .slice (some ⟨br, or, none⟩) 3 q1 := Reg.slot_val (hx 8 (by kernel_rfl))
              go_simp
              exact hK _ _ (fun _ => rfl) (fun h => by cases h) (fun _ => HC.out) trivial
            · rintro a w1 hC hx hd K hK
              have HC := Lib.hid hC
              clear hC
              have t9 : a.tmps[9]?.getD undef = .int .i64 j := Reg.slot_val (hx 9 (by kernel_rfl))
              go_simp
              exact hK _ _ (fun _ => rfl) (fun h => by cases h) (fun _ => HC.out) trivial
            · rintro a w1 hC hx hd K hK
              have HC := Lib.hid hC
              clear hC
              have t43 : a.tmps[43]?.getD undef = .slice (some ⟨br, or, none⟩) 3 q1 := Reg.slot_val (hd 1 (by kernel_rfl) 43 rfl)
              have t44 : a.tmps[44]?.getD undef = .int .i64 j := Reg.slot_val (hd 2 (by kernel_rfl) 44 rfl)
              go_simp
              exact hK _ _ (fun _ => rfl) (fun h => by cases h) (fun _ => HC.out) trivial
            · rintro a w1 hC hx hd K hK
              have HC := Lib.hid hC
              clear hC
              have z0 := cell_below HC.out.bel CP.out
              have t45 : a.tmps[45]?.getD undef = .pointer (some ⟨br, or + j, none⟩) := Reg.slot_val (hd 3 (by kernel_rfl) 45 rfl)
              go_simp
              exact hK _ _ (fun _ => rfl) (fun h => by cases h) (fun _ => HC.out) trivial
            · rintro a w1 hC hx hd K hK
              have HC := Lib.hid hC
              clear hC
              have t5 : a.tmps[5]?.getD undef = .slice (some ⟨g, 0, none⟩) pl pl := Reg.slot_val (hx 5 (by kernel_rfl))
              go_simp
              exact hK _ _ (fun _ => rfl) (fun h => by cases h) (fun _ => HC.out) trivial
            · rintro a w1 hC hx hd K hK
              have HC := Lib.hid hC
              clear hC
              have t8 : a.tmps[8]?.getD undef = .slice (some ⟨br, or, none⟩) 3 q1 := Reg.slot_val (hx 8 (by kernel_rfl))
              go_simp
              exact hK _ _ (fun _ => rfl) (fun h => by cases h) (fun _ => HC.out) trivial
            · rintro a w1 hC hx hd K hK
              have HC := Lib.hid hC
              clear hC
              have t9 : a.tmps[9]?.getD undef = .int .i64 j := Reg.slot_val (hx 9 (by kernel_rfl))
              go_simp
              exact hK _ _ (fun _ => rfl) (fun h => by cases h) (fun _ => HC.out) trivial
            · rintro a w1 hC hx hd K hK
              have HC := Lib.hid hC
              clear hC
              have t48 : a.tmps[48]?.getD undef = .slice (some ⟨br, or, none⟩) 3 q1 := Reg.slot_val (hd 6 (by kernel_rfl) 48 rfl)
              have t49 : a.tmps[49]?.getD undef = .int .i64 j := Reg.slot_val (hd 7 (by kernel_rfl) 49 rfl)
              go_simp
              exact hK _ _ (fun _ => rfl) (fun h => by cases h) (fun _ => HC.out) trivial
            · rintro a w1 hC hx hd K hK
              have HC := Lib.hid hC
              clear hC
              have z0 := cell_below HC.out.bel CP.out
              have t50 : a.tmps[50]?.getD undef = .pointer (some ⟨br, or + j, none⟩) := Reg.slot_val (hd 8 (by kernel_rfl) 50 rfl)
              go_simp
              exact hK _ _ (fun _ => rfl) (fun h => by cases h) (fun _ => HC.out) trivial
            · rintro a w1 hC hx hd K hK
              have HC := Lib.hid hC
              clear hC
              have t47 : a.tmps[47]?.getD undef = .slice (some ⟨g, 0, none⟩) pl pl := Reg.slot_val (hd 5 (by kernel_rfl) 47 rfl)
              have t51 : a.tmps[51]?.getD undef = .int .i64 J := Reg.slot_val (hd 9 (by kernel_rfl) 51 rfl)
              go_simp
              exact hK _ _ (fun _ => rfl) (fun h => by cases h) (fun _ => HC.out) trivial
            · rintro a w1 hC hx hd K hK
              have HC := Lib.hid hC
              clear hC
              obtain ⟨pp, qq, rr, ⟨y0, y1, y2⟩, hf⟩ := HC.out.own.at (k := J.toNat) LT.out
              rw [HNP.out] at hf
              have t52 : a.tmps[52]?.getD undef = .pointer (some ⟨g, J.toNat * 3, none⟩) := Reg.slot_val (hd 10 (by kernel_rfl) 52 rfl)
              go_simp
              exact hK _ _ (fun _ => ⟨pp, qq, rr, rfl, hf⟩) (fun h => by cases h) (fun _ => HC.out) trivial
            · rintro a w1 hC hx hd K hK
              have HC := Lib.hid hC
              clear hC
              have y0 := (HC.out.mem (.head _)) 0 _ rfl
              have y1 := (HC.out.mem (.head _)) 1 _ rfl
              have y2 := (HC.out.mem (.head _)) 2 _ rfl
              have t7 : a.tmps[7]?.getD undef = .pointer (some ⟨PF, 0, none⟩) := Reg.slot_val (hx 7 (by kernel_rfl))
              go_simp
              exact hK _ _ (fun _ => rfl) (fun h => by cases h) (fun _ => HC.out) trivial
            · rintro a w1 hC hx hd K hK
              have HC := Lib.hid hC
              clear hC
              obtain ⟨p53, q53, r53, g53, f53⟩ := hd 11 (by kernel_rfl) 53 rfl
              have t53 := Reg.slot_val g53
              clear g53
              have t54 : a.tmps[54]?.getD undef = .agg #[.float .f32 x, .float .f32 y, .float .f32 z] := Reg.slot_val (hd 12 (by kernel_rfl) 54 rfl)
              go_simp
              refine (l01Add _ _ _ _ _ _ _ _ _ _ _ _ _ f53.1 f53.2.1 f53.2.2 FF.out.1 FF.out.2.1 FF.out.2.2).mono ?_
              rintro en w2 ⟨p', q', r', rfl, fp', fq', fr', hB2⟩
              exact hK _ _ (fun _ => ⟨p', q', r', rfl, fp', fq', fr'⟩) (fun h => by cases h) (fun _ => HC.out.call hB2) trivial
            · rintro a w1 hC hx hd K hK
              have HC := Lib.hid hC
              clear hC
              have t42 : a.tmps[42]?.getD undef = .slice (some ⟨g, 0, none⟩) pl pl := Reg.slot_val (hd 0 (by kernel_rfl) 42 rfl)
              have t46 : a.tmps[46]?.getD undef = .int .i64 J := Reg.slot_val (hd 4 (by kernel_rfl) 46 rfl)
              go_simp
              exact hK _ _ (fun _ => rfl) (fun h => by cases h) (fun _ => HC.out) trivial
            · rintro a w1 hC hx hd K hK
              have HC := Lib.hid hC
              clear hC
              have t56 : a.tmps[56]?.getD undef = .pointer (some ⟨g, J.toNat * 3, none⟩) := Reg.slot_val (hd 14 (by kernel_rfl) 56 rfl)
              obtain ⟨p55, q55, r55, g55, f55⟩ := hd 13 (by kernel_rfl) 55 rfl
              have t55 := Reg.slot_val g55
              clear g55
              obtain ⟨u0, u1, u2, ⟨x0, x1, x2⟩, _⟩ := HC.out.own.at (k := J.toNat) LT.out
              have k0 := HC.out.own.2.1 (J.toNat * 3)
              have k1 := HC.out.own.2.1 (J.toNat * 3 + 1)
              have k2 := HC.out.own.2.1 (J.toNat * 3 + 2)
              go_simp
              exact hK undef _ (fun h => absurd rfl h) (fun _ => HC.out.put LT.out f55) (fun h => absurd rfl h) trivial
          rintro f w4 hd hT
          have hS := hT 15 (by kernel_rfl) (by decide)
          simp only [Reg.mixL]
          have ST4 := Lib.hid hS
          clear hd hT hS
          go_wp2
          go_roundw
          case rel => exact ⟨j + 1, by omega, by go_num, by rw [HSN.out]; exact ST4.out⟩
          case measure => simp [intOf]; omega
        · obtain rfl : j = 3 := by omega
          clear hin
          have SK := Lib.hid SJ.out.drop
          go_wp2
          go_roundw
          case rel => exact ⟨k + 1, by omega, by go_num, by rw [HSK.out]; exact SK.out⟩
          case measure => simp [intOf]; omega
    · obtain rfl : k = tl := by omega
      have hL := gasF_len (fop .quo .f32 pq sixG) cs ts k
      rw [hpl] at hL
      have hRV := RV.block (base := w.heap.size) (cap := pl) (Nat.le_of_eq HGE.out.symm) (by rw [hL]; exact Nat.le_refl _) (by unfold maxLen; omega) ST.out.own
      rw [hL] at hRV
      have HRV := Lib.hid hRV
      clear hRV hL
      go_wp2
      go_ret
      exact ⟨_, rfl, HRV.out, ST.out.bel⟩
end Go.Proofs.Ytljpjmkickkcpaa

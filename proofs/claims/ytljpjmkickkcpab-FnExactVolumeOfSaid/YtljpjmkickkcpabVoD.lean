
/-
The volume of a mesh: what the program returns. Conditions: none.
-/
import Derived.Test.YtljpjmkickkcpabVoC
namespace Go.Proofs.Ytljpjmkickkcpab
open Go Fk Go.RowKit
set_option linter.unusedVariables false
set_option maxRecDepth 8000

def sumVol (cs : List C3) (ts : List (List Int)) : Option Nat := ts.foldl (fun c t => fop .add .f32 c (wedgeC cs t)) (some 0)
theorem sum_vol {cs : List C3} {ts : List (List Int)} {zs : List Nat} {n : Nat} (h1 : zs.length = n) (h2 : ts.length = n) (h : ∀ k, k < n → FV .f32 (zs.getD k 0) (wedgeC cs (ts.getD k []))) : sumC zs = sumVol cs ts := by
  have : zs.map (cls .f32) = ts.map (wedgeC cs) := by
    apply List.ext_getElem (by simp; omega)
    intro i hi hi'
    simp at hi hi' ⊢
    have := (h i (by omega)).2
    simpa [List.getD, hi, hi'] using this
  unfold sumC sumVol
  rw [← List.foldl_map (f := cls .f32) (g := fun c d => fop .add .f32 c d), this, List.foldl_map]
theorem valid_len' {cs : List C3} {ts : List (List Int)} (h : validB cs ts = true) : ts.length ≤ 128 := by
  unfold validB at h; simp at h; exact h.1.2
theorem impl_VolumeOf_no (pa ta : Option Addr) (pl pc tl tc : Nat) (cs : List C3) (ts : List (List Int)) (w : World) (hp : IsVs w pa pl pc cs) (ht : IsTs w ta tl tc ts) (hv : validB cs ts = false) :
    Calls Try.prog 17 #[.agg #[.slice pa pl pc, .slice ta tl tc]] w fun e w' => e = .returned (.tuple #[.float .f32 0, .bool false]) ∧ Below w.heap.size w w' := by
  have ui := Try.underlying32
  have u := Try.underlying27
  have hB0 : Below w.heap.size w (w.alloc (.cells #[.slice pa pl pc, .slice ta tl tc] 32)) := (Below.refl _ _).alloc (Nat.le_refl _) _
  have hJ := impl_ValidMesh _ _ _ _ _ _ cs ts _ (hp.below hB0) (ht.below hB0)
  rw [hv] at hJ
  have HJ := Lib.hid hJ
  have HB0 := Lib.hid hB0
  clear hJ hp ht hv hB0
  go_enter Try.func17, Try.ntmps17
  go_wp2_with (go_at_call 59; refine HJ.out.mono ?_; rintro e w1 ⟨rfl, hB1⟩; have HB := Lib.hid (HB0.out.trans (hB1.mono HB0.out.size)); clear hB1)
  go_ret2
  exact ⟨rfl, HB.out⟩
theorem impl_VolumeOf_yes (pa ta : Option Addr) (pl pc tl tc : Nat) (cs : List C3) (ts : List (List Int)) (w : World) (hp : IsVs w pa pl pc cs) (ht : IsTs w ta tl tc ts) (hv : validB cs ts = true) :
    Calls Try.prog 17 #[.agg #[.slice pa pl pc, .slice ta tl tc]] w fun e w' => ∃ r, e = .returned (.tuple #[.float .f32 r, .bool true]) ∧ FV .f32 r (sumVol cs ts) ∧ Below w.heap.size w w' := by
  have ui := Try.underlying32
  have u := Try.underlying27
  have hB0 : Below w.heap.size w (w.alloc (.cells #[.slice pa pl pc, .slice ta tl tc] 32)) := (Below.refl _ _).alloc (Nat.le_refl _) _
  have kb1 : (w.alloc (.cells #[.slice pa pl pc, .slice ta tl tc] 32)).cell? ⟨w.heap.size, 1, none⟩ = some (.slice ta tl tc) := by go_simp
  have kb0 : (w.alloc (.cells #[.slice pa pl pc, .slice ta tl tc] 32)).cell? ⟨w.heap.size, 0, none⟩ = some (.slice pa pl pc) := by go_simp
  have hJ := impl_ValidMesh _ _ _ _ _ _ cs ts _ (hp.below hB0) (ht.below hB0)
  rw [hv] at hJ
  have HJ := Lib.hid hJ
  have hlen : tl ≤ 128 := by have := valid_len' hv; have := ht.1; omega
  have htri : ∀ k, k < tl → triB pl (ts.getD k []) = true := by
    intro k hk
    have := valid_row hv (k := k) (by rw [ht.1]; exact hk)
    rwa [hp.1] at this
  have h3 : ∀ k, k < tl → (ts.getD k []).length = 3 := fun k hk => (tri_parts (htri k hk)).1
  have HP := Lib.hid hp
  have HT := Lib.hid ht
  have HTL := Lib.hid ht.1
  have HTRI := Lib.hid htri
  have H3 := Lib.hid h3
  clear hp ht hJ htri h3 hv
  generalize hCH : (w.alloc (.cells #[.slice pa pl pc, .slice ta tl tc] 32)) = W at *
  go_enter Try.func17, Try.ntmps17
  go_wp2_with fail
  refine HJ.out.mono ?_
  rintro e w1 ⟨rfl, hB1⟩
  replace kb0 := cell_below hB1 kb0
  replace kb1 := cell_below hB1 kb1
  have HB := Lib.hid (hB0.trans (hB1.mono hB0.size))
  clear hB0 hB1 HJ hCH
  go_wp2_with fail
  refine Reg.wp_region_mix (C := fun w' => (w'.cell? ⟨w.heap.size, 0, none⟩ = some (.slice pa pl pc) ∧ w'.cell? ⟨w.heap.size, 1, none⟩ = some (.slice ta tl tc)) ∧ Below w.heap.size w w') (G := fun w1 w2 => Below w1.heap.size w1 w2)
    (R := fun i v w' => match i with
      | 0 => v = .agg #[.slice pa pl pc, .slice ta tl tc]
      | 1 => ∃ cb, v = .slice (some ⟨cb, 0, none⟩) tl tl ∧ IsCs w' cb tl ts
      | 2 => v = .agg #[.slice pa pl pc, .slice ta tl tc]
      | 3 => v = .func (.func 63) #[.agg #[.slice pa pl pc, .slice ta tl tc]] #[]
      | 4 => ∃ g zs, v = .slice (some ⟨g, 0, none⟩) tl tl ∧ IsFs .f32 w' (some ⟨g, 0, none⟩) tl tl zs ∧ ∀ k, k < tl → FV .f32 (zs.getD k 0) (wedgeC cs (ts.getD k []))
      | 5 => ∃ r, v = .tuple #[.float .f32 r, .bool true] ∧ FV .f32 r (sumVol cs ts)
      | 6 => ∃ r, v = .float .f32 r ∧ FV .f32 r (sumVol cs ts)
      | 7 => v = .bool true
      | 8 => ∃ r, v = .float .f32 r ∧ FV .f32 r (sumVol cs ts)
      | 9 => v = .bool true
      | _ => True) (T := fun _ _ _ => True) [false, false, true, true, false, false, false, true, true, true, true, true, true, true, true]
    (by kernel_rfl) (by kernel_rfl) (by kernel_rfl) ?_ ⟨⟨kb0, kb1⟩, below_drewN HB.out 1⟩ ?_ ?_
  · intro j v w1 w2 _ hG hR
    match j with
    | 0 => exact hR
    | 1 => obtain ⟨cb, e, h1⟩ := hR; exact ⟨cb, e, h1.below hG⟩
    | 2 => exact hR
    | 3 => exact hR
    | 4 => obtain ⟨g, zs, e, h1, h2⟩ := hR; exact ⟨g, zs, e, IsFs_below hG h1, h2⟩
    | 5 => exact hR
    | 6 => exact hR
    | 7 => exact hR
    | 8 => exact hR
    | 9 => exact hR
    | _ + 10 => trivial
  · refine ⟨Reg.Obl.mk ?_, Reg.Obl.mk ?_, Reg.Obl.mk ?_, Reg.Obl.mk ?_, Reg.Obl.mk ?_, Reg.Obl.mk ?_, Reg.Obl.mk ?_, Reg.Obl.mk ?_, Reg.Obl.mk ?_, Reg.Obl.mk ?_, trivial⟩
    · rintro a w1 ⟨⟨y0, y1⟩, hB⟩ hx hd K hK
      have t1 : a.tmps[1]?.getD undef = .pointer (some ⟨w.heap.size, 0, none⟩) := Reg.slot_val (hx 1 (by kernel_rfl))
      go_simp
      exact hK _ _ (fun _ => rfl) (fun h => by cases h) ⟨⟨y0, y1⟩, hB⟩ (Below.refl _ _)
    · rintro a w1 ⟨⟨y0, y1⟩, hB⟩ hx hd K hK
      have t7 : a.tmps[7]?.getD undef = .agg #[.slice pa pl pc, .slice ta tl tc] := Reg.slot_val (hd 0 (by kernel_rfl) 7 rfl)
      go_simp
      refine (all_corners' pa ta pl pc tl tc ts w1 (HT.out.below hB) H3.out hlen).mono ?_
      rintro en w2 ⟨rfl, hcs, hB2, _⟩
      exact hK _ _ (fun _ => ⟨_, rfl, hcs⟩) (fun h => by cases h) ⟨⟨cell_below hB2 y0, cell_below hB2 y1⟩, hB.trans (hB2.mono hB.size)⟩ hB2
    · rintro a w1 ⟨⟨y0, y1⟩, hB⟩ hx hd K hK
      have t1 : a.tmps[1]?.getD undef = .pointer (some ⟨w.heap.size, 0, none⟩) := Reg.slot_val (hx 1 (by kernel_rfl))
      go_simp
      exact hK _ _ (fun _ => rfl) (fun h => by cases h) ⟨⟨y0, y1⟩, hB⟩ (Below.refl _ _)
    · rintro a w1 ⟨⟨y0, y1⟩, hB⟩ hx hd K hK
      have t9 : a.tmps[9]?.getD undef = .agg #[.slice pa pl pc, .slice ta tl tc] := Reg.slot_val (hd 2 (by kernel_rfl) 9 rfl)
      have hmf : ∀ (fn : Fn) (first cap : Array Value) (w : World), (Instr.makeFunc fn first cap).run Try.prog w = .ok (.func fn first cap) w := fun _ _ _ _ => rfl
      go_simp
      exact hK _ _ (fun _ => rfl) (fun h => by cases h) ⟨⟨y0, y1⟩, hB⟩ (Below.refl _ _)
    · rintro a w1 ⟨⟨y0, y1⟩, hB⟩ hx hd K hK
      obtain ⟨cb, g8, hcs⟩ := hd 1 (by kernel_rfl) 8 rfl
      have t8 := Reg.slot_val g8
      clear g8
      have t10 : a.tmps[10]?.getD undef = .func (.func 63) #[.agg #[.slice pa pl pc, .slice ta tl tc]] #[] := Reg.slot_val (hd 3 (by kernel_rfl) 10 rfl)
      have HCS := Lib.hid hcs
      clear hcs
      go_simp
      refine (measured_wedge cb pa ta pl pc tl tc cs ts w1 (HP.out.below hB) HCS.out HTRI.out hlen).mono ?_
      rintro en w2 ⟨zs, rfl, hzs, hfv, hB2⟩
      exact hK _ _ (fun _ => ⟨_, zs, rfl, hzs, hfv⟩) (fun h => by cases h) ⟨⟨cell_below hB2 y0, cell_below hB2 y1⟩, hB.trans (hB2.mono hB.size)⟩ hB2
    · rintro a w1 ⟨⟨y0, y1⟩, hB⟩ hx hd K hK
      obtain ⟨g, zs, g11, hzs, hfv⟩ := hd 4 (by kernel_rfl) 11 rfl
      have t11 := Reg.slot_val g11
      clear g11
      have HZS := Lib.hid hzs
      have HFV := Lib.hid hfv
      clear hzs hfv
      go_simp
      refine (impl_SumNumbers_few _ _ _ zs w1 HZS.out (by omega)).mono ?_
      rintro en w2 ⟨r, rfl, hr, n, rfl⟩
      rw [sum_vol HZS.out.1 HTL.out HFV.out] at hr
      exact hK _ _ (fun _ => ⟨r, rfl, hr⟩) (fun h => by cases h) ⟨⟨y0, y1⟩, below_drewN hB n⟩ (below_drewN (Below.refl _ _) n)
    · rintro a w1 ⟨⟨y0, y1⟩, hB⟩ hx hd K hK
      obtain ⟨r, g12, hr⟩ := hd 5 (by kernel_rfl) 12 rfl
      have t12 := Reg.slot_val g12
      clear g12
      go_simp
      exact hK _ _ (fun _ => ⟨r, rfl, hr⟩) (fun h => by cases h) ⟨⟨y0, y1⟩, hB⟩ (Below.refl _ _)
    · rintro a w1 ⟨⟨y0, y1⟩, hB⟩ hx hd K hK
      obtain ⟨r, g12, hr⟩ := hd 5 (by kernel_rfl) 12 rfl
      have t12 := Reg.slot_val g12
      clear g12
      go_simp
      exact hK _ _ (fun _ => rfl) (fun h => by cases h) ⟨⟨y0, y1⟩, hB⟩ (Below.refl _ _)
    · rintro a w1 ⟨⟨y0, y1⟩, hB⟩ hx hd K hK
      obtain ⟨r, g13, hr⟩ := hd 6 (by kernel_rfl) 13 rfl
      have t13 := Reg.slot_val g13
      clear g13
      go_simp
      exact hK _ _ (fun _ => ⟨r, rfl, hr⟩) (fun h => by cases h) ⟨⟨y0, y1⟩, hB⟩ (Below.refl _ _)
    · rintro a w1 ⟨⟨y0, y1⟩, hB⟩ hx hd K hK
      have t14 : a.tmps[14]?.getD undef = .bool true := Reg.slot_val (hd 7 (by kernel_rfl) 14 rfl)
      go_simp
      exact hK _ _ (fun _ => rfl) (fun h => by cases h) ⟨⟨y0, y1⟩, hB⟩ (Below.refl _ _)
  · rintro f w2 ⟨⟨y0, y1⟩, hB⟩ hd hT
    obtain ⟨r, g2, hr⟩ := hd 8 2 rfl
    have g3 : f 3 = .bool true := hd 9 3 rfl
    simp only [Reg.mixL, g2, g3]
    have HBB := Lib.hid hB
    clear hB hd hT
    go_wp2
    go_ret2
    exact ⟨_, rfl, hr, HBB.out⟩
end Go.Proofs.Ytljpjmkickkcpab

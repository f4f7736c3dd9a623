
/-
How a spring pulls: what the program's own parts return. Conditions: the spring's places are places of the list.
-/
import Derived.Test.YtajglpkeojaelaaBoE
import Derived.Test.YtajglpkeojaelaaNrA
import Derived.Test.YtajglpkeojaelaaReg3
import Derived.Test.YtajglpkeojaelaaReg2
namespace Go.Proofs.Ytajglpkeojaelaa
open Go Fk Go.RowKit
set_option linter.unusedVariables false
set_option maxRecDepth 8000

def gainC (x l : Option Nat) : Option Nat := if ford .f32 l (some 0) == some .gt then fop .quo .f32 x l else some 0
def wayC (cs : List C3) (i j : Int) : C3 := lessC (cs.getD j.toNat c0) (cs.getD i.toNat c0)
def perC (d : C3) (l s : Option Nat) : Option Nat := gainC (fop .mul .f32 s (fop .sub .f32 (longC d) l)) (longC d)
def scaleC (c : C3) (q : Option Nat) : C3 := (fop .mul .f32 c.1 q, fop .mul .f32 c.2.1 q, fop .mul .f32 c.2.2 q)
def pullC (cs : List C3) (s : SC) : C3 := scaleC (wayC cs s.1 s.2.1) (perC (wayC cs s.1 s.2.1) s.2.2.1 s.2.2.2)
theorem impl_perLength (x y : Nat) (c d : Option Nat) (w : World) (hx : FV .f32 x c) (hy : FV .f32 y d) :
    Calls Try.prog 152 #[.float .f32 x, .float .f32 y] w fun e w' => ∃ r, e = .returned (.float .f32 r) ∧ FV .f32 r (gainC c d) ∧ ∃ n, w' = w.drewN n := by
  have u := Try.underlying27
  have ho : FloatKind.f32.format.order y 0 = ford .f32 d (some 0) := ford_of hy FV_00
  unfold gainC
  cases hg : (ford .f32 d (some 0) == some .gt)
  · have h1 : (FloatKind.f32.format.order y 0 == some .gt) = false := by rw [ho]; exact hg
    clear ho hg
    go_enter Try.func152, Try.ntmps152
    go_wp2
    go_ret
    exact ⟨0, rfl, FV_00, 0, rfl⟩
  · have h1 : (FloatKind.f32.format.order y 0 == some .gt) = true := by rw [ho]; exact hg
    clear ho hg
    go_enter Try.func152, Try.ntmps152
    go_wp2
    go_ret
    exact ⟨_, rfl, FV_fR hx hy, _, rfl⟩
theorem l03Gain (x y : Nat) (c d : Option Nat) (w : World) (hx : FV .f32 x c) (hy : FV .f32 y d) :
    Calls Try.prog 151 #[.float .f32 x, .float .f32 y] w fun e w' => ∃ r, e = .returned (.float .f32 r) ∧ FV .f32 r (gainC c d) ∧ ∃ n, w' = w.drewN n := by
  have u := Try.underlying27
  have ho : FloatKind.f32.format.order y 0 = ford .f32 d (some 0) := ford_of hy FV_00
  unfold gainC
  cases hg : (ford .f32 d (some 0) == some .gt)
  · have h1 : (FloatKind.f32.format.order y 0 == some .gt) = false := by rw [ho]; exact hg
    clear ho hg
    go_enter Try.func151, Try.ntmps151
    go_wp2
    go_ret
    exact ⟨0, rfl, FV_00, 0, rfl⟩
  · have h1 : (FloatKind.f32.format.order y 0 == some .gt) = true := by rw [ho]; exact hg
    clear ho hg
    go_enter Try.func151, Try.ntmps151
    go_wp2
    go_ret
    exact ⟨_, rfl, FV_fR hx hy, _, rfl⟩
theorem impl_pullPer (a b : Int) (x y p q r : Nat) (c e : Option Nat) (D : C3) (w : World) (hx : FV .f32 x c) (hy : FV .f32 y e) (hD : FV3 p q r D) :
    Calls Try.prog 107 #[sv a b x y, vv p q r] w fun en w' => ∃ g, en = .returned (.float .f32 g) ∧ FV .f32 g (perC D c e) ∧ Below w.heap.size w w' := by
  have u := Try.underlying27
  have us := Try.underlying144
  have uv := Try.underlying40
  have a0 : At ((w.alloc (.cells #[.int .i64 a, .int .i64 b, .float .f32 x, .float .f32 y] 144)).alloc (.cells #[.float .f32 p, .float .f32 q, .float .f32 r] 40)) w.heap.size [.int .i64 a, .int .i64 b, .float .f32 x, .float .f32 y] := At.new.alloc
  have b0 := ((Below.refl w.heap.size w).alloc (Nat.le_refl _) (.cells #[.int .i64 a, .int .i64 b, .float .f32 x, .float .f32 y] 144)).alloc (by simp) (.cells #[.float .f32 p, .float .f32 q, .float .f32 r] 40)
  have A0 := Lib.hid a0
  have B0 := Lib.hid b0
  clear a0 b0
  go_enter Try.func107, Try.ntmps107
  go_wp2_with fail
  generalize ((w.alloc (.cells #[.int .i64 a, .int .i64 b, .float .f32 x, .float .f32 y] 144)).alloc (.cells #[.float .f32 p, .float .f32 q, .float .f32 r] 40)) = W at *
  refine (impl_LongOf _ _ _ _ _ _ _ hD.1 hD.2.1 hD.2.2).mono ?_
  rintro en w1 ⟨l, rfl, hl, hB1⟩
  have k2 := A0.out.below hB1 2 _ rfl
  have k3 := A0.out.below hB1 3 _ rfl
  have B1 := Lib.hid (B0.out.trans (hB1.mono B0.out.size))
  clear hB1
  go_wp2_with fail
  refine (impl_product32 _ _ _ _ _ hy (FV_fR hl hx)).mono ?_
  rintro en w2 ⟨g, rfl, hg, n, hw2⟩
  have B2 : RowKit.Hid (Below w.heap.size w w2) := Lib.hid (by rw [hw2]; exact below_drewN (below_drewN B1.out _) _)
  clear hw2
  go_wp2_with fail
  refine (impl_perLength _ _ _ _ _ hg hl).mono ?_
  rintro en w3 ⟨z, rfl, hz, n3, hw3⟩
  have B3 : RowKit.Hid (Below w.heap.size w w3) := Lib.hid (by rw [hw3]; exact below_drewN B2.out _)
  clear hw3
  go_wp2
  go_ret
  exact ⟨z, rfl, hz, B3.out⟩
theorem inB_nat {n : Nat} {z : Int} (h : inB n z = true) : ∃ k : Nat, z = k ∧ k < n := by
  have := of_decide_eq_true h
  exact ⟨z.toNat, by omega, by omega⟩
set_option maxHeartbeats 2000000 in
theorem impl_way (a b : Int) (x y : Nat) (pa : Option Addr) (pl pc : Nat) (cs : List C3) (w : World) (h : IsVs w pa pl pc cs) (ha : inB pl a = true) (hb : inB pl b = true) :
    Calls Try.prog 105 #[sv a b x y, .slice pa pl pc] w fun e w' => ∃ s t u, e = .returned (vv s t u) ∧ FV3 s t u (wayC cs a b) ∧ Below w.heap.size w w' := by
  obtain ⟨i, rfl, hi⟩ := inB_nat ha
  obtain ⟨j, rfl, hj⟩ := inB_nat hb
  have u := Try.underlying27
  have ui := Try.underlying2
  have us := Try.underlying144
  have uv := Try.underlying40
  have hm : pl ≤ 9223372036854775807 := by have h1 := h.2.1; have h2 := h.2.2.1; unfold maxLen at h2; omega
  obtain ⟨pb, po, rfl, hcell⟩ := h.some (by omega)
  obtain ⟨p, q, r, i0, i1, i2, fi⟩ := hcell i hi
  obtain ⟨p', q', r', j0, j1, j2, fj⟩ := hcell j hj
  have a0 : At ((w.alloc (.cells #[.int .i64 (i : Int), .int .i64 (j : Int), .float .f32 x, .float .f32 y] 144)).alloc (.cells #[.float .f32 0, .float .f32 0, .float .f32 0] 40)) w.heap.size [.int .i64 (i : Int), .int .i64 (j : Int), .float .f32 x, .float .f32 y] := At.new.alloc
  have r0 : V3 ((w.alloc (.cells #[.int .i64 (i : Int), .int .i64 (j : Int), .float .f32 x, .float .f32 y] 144)).alloc (.cells #[.float .f32 0, .float .f32 0, .float .f32 0] 40)) (w.heap.size + 1) 0 0 0 := by
    have := V3.new (w := w.alloc (.cells #[.int .i64 (i : Int), .int .i64 (j : Int), .float .f32 x, .float .f32 y] 144)) (x := 0) (y := 0) (z := 0) (t := 40)
    simpa using this
  have b0 : Below w.heap.size w ((w.alloc (.cells #[.int .i64 (i : Int), .int .i64 (j : Int), .float .f32 x, .float .f32 y] 144)).alloc (.cells #[.float .f32 0, .float .f32 0, .float .f32 0] 40)) := ((Below.refl _ _).alloc (Nat.le_refl _) _).alloc (by simp) _
  have HK := Lib.hid (And.intro b0 (And.intro a0 (And.intro r0 (And.intro (And.intro (cell_below b0 j0) (And.intro (cell_below b0 j1) (cell_below b0 j2))) (And.intro (cell_below b0 i0) (And.intro (cell_below b0 i1) (cell_below b0 i2)))))))
  have hi0 : (0 : Int) ≤ (i : Int) := by omega
  have hi1 : (i : Int) < (pl : Int) := by omega
  have hj0 : (0 : Int) ≤ (j : Int) := by omega
  have hj1 : (j : Int) < (pl : Int) := by omega
  clear h hcell a0 r0 b0 i0 i1 i2 j0 j1 j2
  go_enter Try.func105, Try.ntmps105
  go_wp2_with fail
  generalize ((w.alloc (.cells #[.int .i64 (i : Int), .int .i64 (j : Int), .float .f32 x, .float .f32 y] 144)).alloc (.cells #[.float .f32 0, .float .f32 0, .float .f32 0] 40)) = W at *
  refine Reg3.wp_region_mix (C := fun w' => Below w.heap.size w w' ∧ At w' w.heap.size [.int .i64 (i : Int), .int .i64 (j : Int), .float .f32 x, .float .f32 y] ∧ V3 w' (w.heap.size + 1) 0 0 0 ∧ (w'.cell? ⟨pb, po + j * 3, none⟩ = some (.float .f32 p') ∧ w'.cell? ⟨pb, po + j * 3 + 1, none⟩ = some (.float .f32 q') ∧ w'.cell? ⟨pb, po + j * 3 + 2, none⟩ = some (.float .f32 r')) ∧ w'.cell? ⟨pb, po + i * 3, none⟩ = some (.float .f32 p) ∧ w'.cell? ⟨pb, po + i * 3 + 1, none⟩ = some (.float .f32 q) ∧ w'.cell? ⟨pb, po + i * 3 + 2, none⟩ = some (.float .f32 r)) (G := fun _ _ => True)
    (R := fun k v _ => match k with | 0 => v = (.slice (some ⟨pb, po, none⟩) pl pc) | 1 => v = .pointer (some ⟨w.heap.size, 1, none⟩) | 2 => v = .int .i64 (j : Int) | 3 => v = .pointer (some ⟨pb, po + j * 3, none⟩) | 4 => v = vv p' q' r' | 5 => v = (.slice (some ⟨pb, po, none⟩) pl pc) | 6 => v = .pointer (some ⟨w.heap.size, 0, none⟩) | 7 => v = .int .i64 (i : Int) | 8 => v = .pointer (some ⟨pb, po + i * 3, none⟩) | 9 => v = vv p q r | 10 => ∃ s t u, v = vv s t u ∧ FV3 s t u (lessC (cs.getD j c0) (cs.getD i c0)) | _ => True)
    (T := fun _ _ w' => Below w.heap.size w w' ∧ ∃ s t u, V3 w' (w.heap.size + 1) s t u ∧ FV3 s t u (lessC (cs.getD j c0) (cs.getD i c0))) [false, false, false, false, false, true, true, true, true, true, true, true, true, true, true, true]
    (by kernel_rfl) (by kernel_rfl) (by kernel_rfl) (fun _ _ _ _ _ _ h => h) ⟨below_drewN HK.out.1 1, HK.out.2⟩ ?_ ?_
  · refine ⟨Reg3.Obl.mk ?_, Reg3.Obl.mk ?_, Reg3.Obl.mk ?_, Reg3.Obl.mk ?_, Reg3.Obl.mk ?_, Reg3.Obl.mk ?_, Reg3.Obl.mk ?_, Reg3.Obl.mk ?_, Reg3.Obl.mk ?_, Reg3.Obl.mk ?_, Reg3.Obl.mk ?_, Reg3.Obl.mk ?_, trivial⟩
    · rintro a w1 hC hx hd K hK
      have HC := Lib.hid hC
      clear hC
      have t1 : a.tmps[1]?.getD undef = (.slice (some ⟨pb, po, none⟩) pl pc) := Reg.slot_val (hx 1 (by kernel_rfl))
      go_simp
      exact hK _ _ (fun _ => rfl) (fun h => by cases h) (fun _ => HC.out) trivial
    · rintro a w1 hC hx hd K hK
      have HC := Lib.hid hC
      clear hC
      have t2 : a.tmps[2]?.getD undef = .pointer (some ⟨w.heap.size, 0, none⟩) := Reg.slot_val (hx 2 (by kernel_rfl))
      go_simp
      exact hK _ _ (fun _ => rfl) (fun h => by cases h) (fun _ => HC.out) trivial
    · rintro a w1 hC hx hd K hK
      have HC := Lib.hid hC
      clear hC
      have y1 := HC.out.2.1 1 _ rfl
      have t6 : a.tmps[6]?.getD undef = .pointer (some ⟨w.heap.size, 1, none⟩) := Reg.slot_val (hd 1 (by kernel_rfl) 6 rfl)
      go_simp
      exact hK _ _ (fun _ => rfl) (fun h => by cases h) (fun _ => HC.out) trivial
    · rintro a w1 hC hx hd K hK
      have HC := Lib.hid hC
      clear hC
      have t5 : a.tmps[5]?.getD undef = (.slice (some ⟨pb, po, none⟩) pl pc) := Reg.slot_val (hd 0 (by kernel_rfl) 5 rfl)
      have t7 : a.tmps[7]?.getD undef = .int .i64 (j : Int) := Reg.slot_val (hd 2 (by kernel_rfl) 7 rfl)
      go_simp
      exact hK _ _ (fun _ => rfl) (fun h => by cases h) (fun _ => HC.out) trivial
    · rintro a w1 hC hx hd K hK
      have HC := Lib.hid hC
      clear hC
      obtain ⟨y0, y1, y2⟩ := HC.out.2.2.2.1
      have t8 : a.tmps[8]?.getD undef = .pointer (some ⟨pb, po + j * 3, none⟩) := Reg.slot_val (hd 3 (by kernel_rfl) 8 rfl)
      go_simp
      exact hK _ _ (fun _ => rfl) (fun h => by cases h) (fun _ => HC.out) trivial
    · rintro a w1 hC hx hd K hK
      have HC := Lib.hid hC
      clear hC
      have t1 : a.tmps[1]?.getD undef = (.slice (some ⟨pb, po, none⟩) pl pc) := Reg.slot_val (hx 1 (by kernel_rfl))
      go_simp
      exact hK _ _ (fun _ => rfl) (fun h => by cases h) (fun _ => HC.out) trivial
    · rintro a w1 hC hx hd K hK
      have HC := Lib.hid hC
      clear hC
      have t2 : a.tmps[2]?.getD undef = .pointer (some ⟨w.heap.size, 0, none⟩) := Reg.slot_val (hx 2 (by kernel_rfl))
      go_simp
      exact hK _ _ (fun _ => rfl) (fun h => by cases h) (fun _ => HC.out) trivial
    · rintro a w1 hC hx hd K hK
      have HC := Lib.hid hC
      clear hC
      have y1 := HC.out.2.1 0 _ rfl
      have t11 : a.tmps[11]?.getD undef = .pointer (some ⟨w.heap.size, 0, none⟩) := Reg.slot_val (hd 6 (by kernel_rfl) 11 rfl)
      go_simp
      exact hK _ _ (fun _ => rfl) (fun h => by cases h) (fun _ => HC.out) trivial
    · rintro a w1 hC hx hd K hK
      have HC := Lib.hid hC
      clear hC
      have t10 : a.tmps[10]?.getD undef = (.slice (some ⟨pb, po, none⟩) pl pc) := Reg.slot_val (hd 5 (by kernel_rfl) 10 rfl)
      have t12 : a.tmps[12]?.getD undef = .int .i64 (i : Int) := Reg.slot_val (hd 7 (by kernel_rfl) 12 rfl)
      go_simp
      exact hK _ _ (fun _ => rfl) (fun h => by cases h) (fun _ => HC.out) trivial
    · rintro a w1 hC hx hd K hK
      have HC := Lib.hid hC
      clear hC
      obtain ⟨y0, y1, y2⟩ := HC.out.2.2.2.2
      have t13 : a.tmps[13]?.getD undef = .pointer (some ⟨pb, po + i * 3, none⟩) := Reg.slot_val (hd 8 (by kernel_rfl) 13 rfl)
      go_simp
      exact hK _ _ (fun _ => rfl) (fun h => by cases h) (fun _ => HC.out) trivial
    · rintro a w1 hC hx hd K hK
      have HC := Lib.hid hC
      clear hC
      have t9 : a.tmps[9]?.getD undef = vv p' q' r' := Reg.slot_val (hd 4 (by kernel_rfl) 9 rfl)
      have t14 : a.tmps[14]?.getD undef = vv p q r := Reg.slot_val (hd 9 (by kernel_rfl) 14 rfl)
      go_simp
      refine (impl_LessVectors _ _ _ _ _ _ _ _ _ _ _ _ _ fj.1 fj.2.1 fj.2.2 fi.1 fi.2.1 fi.2.2).mono ?_
      rintro e w2 ⟨ax, ay, az, rfl, fx, fy, fz, hB1⟩
      obtain ⟨hB, hA, hR, ⟨z0, z1, z2⟩, z3, z4, z5⟩ := HC.out
      exact hK _ _ (fun _ => ⟨ax, ay, az, rfl, fx, fy, fz⟩) (fun h => by cases h) (fun _ => ⟨hB.trans (hB1.mono hB.size), hA.below hB1, hR.below hB1, ⟨cell_below hB1 z0, cell_below hB1 z1, cell_below hB1 z2⟩, cell_below hB1 z3, cell_below hB1 z4, cell_below hB1 z5⟩) trivial
    · rintro a w1 hC hx hd K hK
      have HC := Lib.hid hC
      clear hC
      have t4 : a.tmps[4]?.getD undef = .pointer (some ⟨w.heap.size + 1, 0, none⟩) := Reg.slot_val (hx 4 (by kernel_rfl))
      obtain ⟨s, t, u, g5, hG⟩ := hd 10 (by kernel_rfl) 15 rfl
      have t15 := Reg.slot_val g5
      clear g5
      have HP := Lib.hid (HC.out.2.2.1.put (p := s) (q := t) (r := u))
      have HB2 := Lib.hid (below_set3 (n := w.heap.size + 1) (o1 := 0) (o2 := 1) (o3 := 2) (u := .float .f32 s) (v := .float .f32 t) (t := .float .f32 u) HC.out.1 (Nat.le_succ _))
      obtain ⟨⟨u0, u1, u2⟩, uf⟩ := HC.out.2.2.1
      have uf0 := uf 0
      have uf1 := uf 1
      have uf2 := uf 2
      have HG := Lib.hid hG
      clear uf hG
      go_simp
      exact hK undef _ (fun h => absurd rfl h) (fun _ => ⟨HB2.out, s, t, u, HP.out, HG.out⟩) (fun h => absurd rfl h) trivial
  · rintro f w1 hd hT
    obtain ⟨hB, s, t, u, hV, hG⟩ := hT 11 (by kernel_rfl) (by decide)
    simp only [Reg.mixL]
    obtain ⟨⟨v0, v1, v2⟩, -⟩ := hV
    have HB := Lib.hid hB
    have HG := Lib.hid hG
    clear hB hG hd hT
    go_wp2
    refine bodyPost_ret (v := vv s t u) (by simp [results, Try.results105, go_sem, v0, v1, v2]) rfl ⟨s, t, u, rfl, HG.out, HB.out⟩
end Go.Proofs.Ytajglpkeojaelaa

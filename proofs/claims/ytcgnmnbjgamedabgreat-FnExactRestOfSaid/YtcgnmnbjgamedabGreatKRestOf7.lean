/-
Texts in one: what RestOf stands on, part 7. Conditions: those of each.
-/
import Derived.Test.YtcgnmnbjgamedabGreatKRestOf6

/-
How a spring pulls: what the program's own parts return. Conditions: the spring's places are places of the list.
-/
namespace Go.Proofs.YtcgnmnbjgamedabGreat
open Go Fk Go.RowKit
set_option linter.unusedVariables false
set_option maxRecDepth 8000

def gainC (x l : Option Nat) : Option Nat := if ford .f32 l (some 0) == some .gt then fop .quo .f32 x l else some 0
def wayC (cs : List C3) (i j : Int) : C3 := lessC (cs.getD j.toNat c0) (cs.getD i.toNat c0)
def perC (d : C3) (l s : Option Nat) : Option Nat := gainC (fop .mul .f32 s (fop .sub .f32 (longC d) l)) (longC d)
def scaleC (c : C3) (q : Option Nat) : C3 := (fop .mul .f32 c.1 q, fop .mul .f32 c.2.1 q, fop .mul .f32 c.2.2 q)
theorem impl_perLength (x y : Nat) (c d : Option Nat) (w : World) (hx : FV .f32 x c) (hy : FV .f32 y d) :
    Calls Tryz.prog 218 #[.float .f32 x, .float .f32 y] w fun e w' => ∃ r, e = .returned (.float .f32 r) ∧ FV .f32 r (gainC c d) ∧ ∃ n, w' = w.drewN n := by
  have u := Tryz.underlying27
  have ho : FloatKind.f32.format.order y 0 = ford .f32 d (some 0) := ford_of hy FV_00
  unfold gainC
  cases hg : (ford .f32 d (some 0) == some .gt)
  · have h1 : (FloatKind.f32.format.order y 0 == some .gt) = false := by rw [ho]; exact hg
    clear ho hg
    go_enter Tryz.func218, Tryz.ntmps218
    go_wp2
    go_ret
    exact ⟨0, rfl, FV_00, 0, rfl⟩
  · have h1 : (FloatKind.f32.format.order y 0 == some .gt) = true := by rw [ho]; exact hg
    clear ho hg
    go_enter Tryz.func218, Tryz.ntmps218
    go_wp2
    go_ret
    exact ⟨_, rfl, FV_fR hx hy, _, rfl⟩
theorem l03Gain (x y : Nat) (c d : Option Nat) (w : World) (hx : FV .f32 x c) (hy : FV .f32 y d) :
    Calls Tryz.prog 82 #[.float .f32 x, .float .f32 y] w fun e w' => ∃ r, e = .returned (.float .f32 r) ∧ FV .f32 r (gainC c d) ∧ ∃ n, w' = w.drewN n := by
  have u := Tryz.underlying27
  have ho : FloatKind.f32.format.order y 0 = ford .f32 d (some 0) := ford_of hy FV_00
  unfold gainC
  cases hg : (ford .f32 d (some 0) == some .gt)
  · have h1 : (FloatKind.f32.format.order y 0 == some .gt) = false := by rw [ho]; exact hg
    clear ho hg
    go_enter Tryz.func82, Tryz.ntmps82
    go_wp2
    go_ret
    exact ⟨0, rfl, FV_00, 0, rfl⟩
  · have h1 : (FloatKind.f32.format.order y 0 == some .gt) = true := by rw [ho]; exact hg
    clear ho hg
    go_enter Tryz.func82, Tryz.ntmps82
    go_wp2
    go_ret
    exact ⟨_, rfl, FV_fR hx hy, _, rfl⟩
theorem impl_pullPer (a b : Int) (x y p q r : Nat) (c e : Option Nat) (D : C3) (w : World) (hx : FV .f32 x c) (hy : FV .f32 y e) (hD : FV3 p q r D) :
    Calls Tryz.prog 215 #[sv a b x y, vv p q r] w fun en w' => ∃ g, en = .returned (.float .f32 g) ∧ FV .f32 g (perC D c e) ∧ Below w.heap.size w w' := by
  have u := Tryz.underlying27
  have us := Tryz.underlying116
  have uv := Tryz.underlying40
  have a0 : At ((w.alloc (.cells #[.int .i64 a, .int .i64 b, .float .f32 x, .float .f32 y] 116)).alloc (.cells #[.float .f32 p, .float .f32 q, .float .f32 r] 40)) w.heap.size [.int .i64 a, .int .i64 b, .float .f32 x, .float .f32 y] := At.new.alloc
  have b0 := ((Below.refl w.heap.size w).alloc (Nat.le_refl _) (.cells #[.int .i64 a, .int .i64 b, .float .f32 x, .float .f32 y] 116)).alloc (by simp) (.cells #[.float .f32 p, .float .f32 q, .float .f32 r] 40)
  have A0 := Lib.hid a0
  have B0 := Lib.hid b0
  clear a0 b0
  go_enter Tryz.func215, Tryz.ntmps215
  go_wp2_with fail
  generalize ((w.alloc (.cells #[.int .i64 a, .int .i64 b, .float .f32 x, .float .f32 y] 116)).alloc (.cells #[.float .f32 p, .float .f32 q, .float .f32 r] 40)) = W at *
  refine (impl_LongOf _ _ _ _ _ _ _ hD.1 hD.2.1 hD.2.2).mono ?_
  rintro en w1 ⟨l, rfl, hl, hB1⟩
  have k2 := A0.out.below hB1 2 _ rfl
  have k3 := A0.out.below hB1 3 _ rfl
  have B1 := Lib.hid (B0.out.trans (hB1.mono B0.out.size))
  clear hB1
  go_wp2_with fail
  refine (impl_product32 _ _ _ _ _ hy (FV_fR hl hx)).mono ?_
  rintro en w2 ⟨g, rfl, hg, n, hw2⟩
  have B2 : RowKit.Hid (Below w.heap.size w w2) := Lib.hid (by rw [hw2]; exact below_drewN (below_drewN B1.out _) _)
  clear hw2
  go_wp2_with fail
  refine (impl_perLength _ _ _ _ _ hg hl).mono ?_
  rintro en w3 ⟨z, rfl, hz, n3, hw3⟩
  have B3 : RowKit.Hid (Below w.heap.size w w3) := Lib.hid (by rw [hw3]; exact below_drewN B2.out _)
  clear hw3
  go_wp2
  go_ret
  exact ⟨z, rfl, hz, B3.out⟩
theorem inB_nat {n : Nat} {z : Int} (h : inB n z = true) : ∃ k : Nat, z = k ∧ k < n := by
  have := of_decide_eq_true h
  exact ⟨z.toNat, by omega, by omega⟩
set_option maxHeartbeats 2000000 in
theorem impl_way (a b : Int) (x y : Nat) (pa : Option Addr) (pl pc : Nat) (cs : List C3) (w : World) (h : IsVs w pa pl pc cs) (ha : inB pl a = true) (hb : inB pl b = true) :
    Calls Tryz.prog 214 #[sv a b x y, .slice pa pl pc] w fun e w' => ∃ s t u, e = .returned (vv s t u) ∧ FV3 s t u (wayC cs a b) ∧ Below w.heap.size w w' := by
  obtain ⟨i, rfl, hi⟩ := inB_nat ha
  obtain ⟨j, rfl, hj⟩ := inB_nat hb
  have u := Tryz.underlying27
  have ui := Tryz.underlying2
  have us := Tryz.underlying116
  have uv := Tryz.underlying40
  have hm : pl ≤ 9223372036854775807 := by have h1 := h.2.1; have h2 := h.2.2.1; unfold maxLen at h2; omega
  obtain ⟨pb, po, rfl, hcell⟩ := h.some (by omega)
  obtain ⟨p, q, r, i0, i1, i2, fi⟩ := hcell i hi
  obtain ⟨p', q', r', j0, j1, j2, fj⟩ := hcell j hj
  have a0 : At ((w.alloc (.cells #[.int .i64 (i : Int), .int .i64 (j : Int), .float .f32 x, .float .f32 y] 116)).alloc (.cells #[.float .f32 0, .float .f32 0, .float .f32 0] 40)) w.heap.size [.int .i64 (i : Int), .int .i64 (j : Int), .float .f32 x, .float .f32 y] := At.new.alloc
  have r0 : V3 ((w.alloc (.cells #[.int .i64 (i : Int), .int .i64 (j : Int), .float .f32 x, .float .f32 y] 116)).alloc (.cells #[.float .f32 0, .float .f32 0, .float .f32 0] 40)) (w.heap.size + 1) 0 0 0 := by
    have := V3.new (w := w.alloc (.cells #[.int .i64 (i : Int), .int .i64 (j : Int), .float .f32 x, .float .f32 y] 116)) (x := 0) (y := 0) (z := 0) (t := 40)
    simpa using this
  have b0 : Below w.heap.size w ((w.alloc (.cells #[.int .i64 (i : Int), .int .i64 (j : Int), .float .f32 x, .float .f32 y] 116)).alloc (.cells #[.float .f32 0, .float .f32 0, .float .f32 0] 40)) := ((Below.refl _ _).alloc (Nat.le_refl _) _).alloc (by simp) _
  have HK := Lib.hid (And.intro b0 (And.intro a0 (And.intro r0 (And.intro (And.intro (cell_below b0 j0) (And.intro (cell_below b0 j1) (cell_below b0 j2))) (And.intro (cell_below b0 i0) (And.intro (cell_below b0 i1) (cell_below b0 i2)))))))
  have hi0 : (0 : Int) ≤ (i : Int) := by omega
  have hi1 : (i : Int) < (pl : Int) := by omega
  have hj0 : (0 : Int) ≤ (j : Int) := by omega
  have hj1 : (j : Int) < (pl : Int) := by omega
  clear h hcell a0 r0 b0 i0 i1 i2 j0 j1 j2
  go_enter Tryz.func214, Tryz.ntmps214
  go_wp2_with fail
  generalize ((w.alloc (.cells #[.int .i64 (i : Int), .int .i64 (j : Int), .float .f32 x, .float .f32 y] 116)).alloc (.cells #[.float .f32 0, .float .f32 0, .float .f32 0] 40)) = W at *
  refine Reg3.wp_region_mix (C := fun w' => Below w.heap.size w w' ∧ At w' w.heap.size [.int .i64 (i : Int), .int .i64 (j : Int), .float .f32 x, .float .f32 y] ∧ V3 w' (w.heap.size + 1) 0 0 0 ∧ (w'.cell? ⟨pb, po + j * 3, none⟩ = some (.float .f32 p') ∧ w'.cell? ⟨pb, po + j * 3 + 1, none⟩ = some (.float .f32 q') ∧ w'.cell? ⟨pb, po + j * 3 + 2, none⟩ = some (.float .f32 r')) ∧ w'.cell? ⟨pb, po + i * 3, none⟩ = some (.float .f32 p) ∧ w'.cell? ⟨pb, po + i * 3 + 1, none⟩ = some (.float .f32 q) ∧ w'.cell? ⟨pb, po + i * 3 + 2, none⟩ = some (.float .f32 r)) (G := fun _ _ => True)
    (R := fun k v _ => match k with | 0 => v = (.slice (some ⟨pb, po, none⟩) pl pc) | 1 => v = .pointer (some ⟨w.heap.size, 1, none⟩) | 2 => v = .int .i64 (j : Int) | 3 => v = .pointer (some ⟨pb, po + j * 3, none⟩) | 4 => v = vv p' q' r' | 5 => v = (.slice (some ⟨pb, po, none⟩) pl pc) | 6 => v = .pointer (some ⟨w.heap.size, 0, none⟩) | 7 => v = .int .i64 (i : Int) | 8 => v = .pointer (some ⟨pb, po + i * 3, none⟩) | 9 => v = vv p q r | 10 => ∃ s t u, v = vv s t u ∧ FV3 s t u (lessC (cs.getD j c0) (cs.getD i c0)) | _ => True)
    (T := fun _ _ w' => Below w.heap.size w w' ∧ ∃ s t u, V3 w' (w.heap.size + 1) s t u ∧ FV3 s t u (lessC (cs.getD j c0) (cs.getD i c0))) [false, false, false, false, false, true, true, true, true, true, true, true, true, true, true, true]
    (by kernel_rfl) (by kernel_rfl) (by kernel_rfl) (fun _ _ _ _ _ _ h => h) ⟨below_drewN HK.out.1 1, HK.out.2⟩ ?_ ?_
  · refine ⟨Reg3.Obl.mk ?_, Reg3.Obl.mk ?_, Reg3.Obl.mk ?_, Reg3.Obl.mk ?_, Reg3.Obl.mk ?_, Reg3.Obl.mk ?_, Reg3.Obl.mk ?_, Reg3.Obl.mk ?_, Reg3.Obl.mk ?_, Reg3.Obl.mk ?_, Reg3.Obl.mk ?_, Reg3.Obl.mk ?_, trivial⟩
    · rintro a w1 hC hx hd K hK
      have HC := Lib.hid hC
      clear hC
      have t1 : a.tmps[1]?.getD undef = (.slice (some ⟨pb, po, none⟩) pl pc) := Reg.slot_val (hx 1 (by kernel_rfl))
      go_simp
      exact hK _ _ (fun _ => rfl) (fun h => by cases h) (fun _ => HC.out) trivial
    · rintro a w1 hC hx hd K hK
      have HC := Lib.hid hC
      clear hC
      have t2 : a.tmps[2]?.getD undef = .pointer (some ⟨w.heap.size, 0, none⟩) := Reg.slot_val (hx 2 (by kernel_rfl))
      go_simp
      exact hK _ _ (fun _ => rfl) (fun h => by cases h) (fun _ => HC.out) trivial
    · rintro a w1 hC hx hd K hK
      have HC := Lib.hid hC
      clear hC
      have y1 := HC.out.2.1 1 _ rfl
      have t6 : a.tmps[6]?.getD undef = .pointer (some ⟨w.heap.size, 1, none⟩) := Reg.slot_val (hd 1 (by kernel_rfl) 6 rfl)
      go_simp
      exact hK _ _ (fun _ => rfl) (fun h => by cases h) (fun _ => HC.out) trivial
    · rintro a w1 hC hx hd K hK
      have HC := Lib.hid hC
      clear hC
      have t5 : a.tmps[5]?.getD undef = (.slice (some ⟨pb, po, none⟩) pl pc) := Reg.slot_val (hd 0 (by kernel_rfl) 5 rfl)
      have t7 : a.tmps[7]?.getD undef = .int .i64 (j : Int) := Reg.slot_val (hd 2 (by kernel_rfl) 7 rfl)
      go_simp
      exact hK _ _ (fun _ => rfl) (fun h => by cases h) (fun _ => HC.out) trivial
    · rintro a w1 hC hx hd K hK
      have HC := Lib.hid hC
      clear hC
      obtain ⟨y0, y1, y2⟩ := HC.out.2.2.2.1
      have t8 : a.tmps[8]?.getD undef = .pointer (some ⟨pb, po + j * 3, none⟩) := Reg.slot_val (hd 3 (by kernel_rfl) 8 rfl)
      go_simp
      exact hK _ _ (fun _ => rfl) (fun h => by cases h) (fun _ => HC.out) trivial
    · rintro a w1 hC hx hd K hK
      have HC := Lib.hid hC
      clear hC
      have t1 : a.tmps[1]?.getD undef = (.slice (some ⟨pb, po, none⟩) pl pc) := Reg.slot_val (hx 1 (by kernel_rfl))
      go_simp
      exact hK _ _ (fun _ => rfl) (fun h => by cases h) (fun _ => HC.out) trivial
    · rintro a w1 hC hx hd K hK
      have HC := Lib.hid hC
      clear hC
      have t2 : a.tmps[2]?.getD undef = .pointer (some ⟨w.heap.size, 0, none⟩) := Reg.slot_val (hx 2 (by kernel_rfl))
      go_simp
      exact hK _ _ (fun _ => rfl) (fun h => by cases h) (fun _ => HC.out) trivial
    · rintro a w1 hC hx hd K hK
      have HC := Lib.hid hC
      clear hC
      have y1 := HC.out.2.1 0 _ rfl
      have t11 : a.tmps[11]?.getD undef = .pointer (some ⟨w.heap.size, 0, none⟩) := Reg.slot_val (hd 6 (by kernel_rfl) 11 rfl)
      go_simp
      exact hK _ _ (fun _ => rfl) (fun h => by cases h) (fun _ => HC.out) trivial
    · rintro a w1 hC hx hd K hK
      have HC := Lib.hid hC
      clear hC
      have t10 : a.tmps[10]?.getD undef = (.slice (some ⟨pb, po, none⟩) pl pc) := Reg.slot_val (hd 5 (by kernel_rfl) 10 rfl)
      have t12 : a.tmps[12]?.getD undef = .int .i64 (i : Int) := Reg.slot_val (hd 7 (by kernel_rfl) 12 rfl)
      go_simp
      exact hK _ _ (fun _ => rfl) (fun h => by cases h) (fun _ => HC.out) trivial
    · rintro a w1 hC hx hd K hK
      have HC := Lib.hid hC
      clear hC
      obtain ⟨y0, y1, y2⟩ := HC.out.2.2.2.2
      have t13 : a.tmps[13]?.getD undef = .pointer (some ⟨pb, po + i * 3, none⟩) := Reg.slot_val (hd 8 (by kernel_rfl) 13 rfl)
      go_simp
      exact hK _ _ (fun _ => rfl) (fun h => by cases h) (fun _ => HC.out) trivial
    · rintro a w1 hC hx hd K hK
      have HC := Lib.hid hC
      clear hC
      have t9 : a.tmps[9]?.getD undef = vv p' q' r' := Reg.slot_val (hd 4 (by kernel_rfl) 9 rfl)
      have t14 : a.tmps[14]?.getD undef = vv p q r := Reg.slot_val (hd 9 (by kernel_rfl) 14 rfl)
      go_simp
      refine (impl_LessVectors _ _ _ _ _ _ _ _ _ _ _ _ _ fj.1 fj.2.1 fj.2.2 fi.1 fi.2.1 fi.2.2).mono ?_
      rintro e w2 ⟨ax, ay, az, rfl, fx, fy, fz, hB1⟩
      obtain ⟨hB, hA, hR, ⟨z0, z1, z2⟩, z3, z4, z5⟩ := HC.out
      exact hK _ _ (fun _ => ⟨ax, ay, az, rfl, fx, fy, fz⟩) (fun h => by cases h) (fun _ => ⟨hB.trans (hB1.mono hB.size), hA.below hB1, hR.below hB1, ⟨cell_below hB1 z0, cell_below hB1 z1, cell_below hB1 z2⟩, cell_below hB1 z3, cell_below hB1 z4, cell_below hB1 z5⟩) trivial
    · rintro a w1 hC hx hd K hK
      have HC := Lib.hid hC
      clear hC
      have t4 : a.tmps[4]?.getD undef = .pointer (some ⟨w.heap.size + 1, 0, none⟩) := Reg.slot_val (hx 4 (by kernel_rfl))
      obtain ⟨s, t, u, g5, hG⟩ := hd 10 (by kernel_rfl) 15 rfl
      have t15 := Reg.slot_val g5
      clear g5
      have HP := Lib.hid (HC.out.2.2.1.put (p := s) (q := t) (r := u))
      have HB2 := Lib.hid (below_set3 (n := w.heap.size + 1) (o1 := 0) (o2 := 1) (o3 := 2) (u := .float .f32 s) (v := .float .f32 t) (t := .float .f32 u) HC.out.1 (Nat.le_succ _))
      obtain ⟨⟨u0, u1, u2⟩, uf⟩ := HC.out.2.2.1
      have uf0 := uf 0
      have uf1 := uf 1
      have uf2 := uf 2
      have HG := Lib.hid hG
      clear uf hG
      go_simp
      exact hK undef _ (fun h => absurd rfl h) (fun _ => ⟨HB2.out, s, t, u, HP.out, HG.out⟩) (fun h => absurd rfl h) trivial
  · rintro f w1 hd hT
    obtain ⟨hB, s, t, u, hV, hG⟩ := hT 11 (by kernel_rfl) (by decide)
    simp only [Reg.mixL]
    obtain ⟨⟨v0, v1, v2⟩, -⟩ := hV
    have HB := Lib.hid hB
    have HG := Lib.hid hG
    clear hB hG hd hT
    go_wp2
    refine bodyPost_ret (v := vv s t u) (by simp [results, Tryz.results214, go_sem, v0, v1, v2]) rfl ⟨s, t, u, rfl, HG.out, HB.out⟩
end Go.Proofs.YtcgnmnbjgamedabGreat

/-
Which bodies are valid: what the program and its model return. Conditions: none.
-/
namespace Go.Proofs.YtcgnmnbjgamedabGreat
open Go Fk Go.RowKit
set_option linter.unusedVariables false
set_option maxRecDepth 8000

theorem ss_all {n : Nat} {ss : List SC} (h : ∀ j, j < ss.length → springB n (ss.getD j s0) = true) : ss.all (springB n) = true := by
  rw [List.all_eq_true]
  intro x hx
  obtain ⟨j, hj, rfl⟩ := List.getElem_of_mem hx
  have := h j hj
  simpa [List.getD, hj] using this
theorem ss_not {n : Nat} {ss : List SC} {k : Nat} (hk : k < ss.length) (h : springB n (ss.getD k s0) = false) : ss.all (springB n) = false := by
  rw [Bool.eq_false_iff]
  intro hh
  have := List.all_eq_true.1 hh (ss[k]) (List.getElem_mem hk)
  have h' : springB n ss[k] = false := by simpa [List.getD, hk] using h
  rw [this] at h'; cases h'
/-- What there is to know of the lengths of a body's lists. -/
theorem IsB.lens {w : World} {B : Bd} {c : Bc} (h : IsB w B c) : c.cs.length = B.pl ∧ c.ts.length = B.tl ∧ c.ss.length = B.sl ∧ c.zs.length = B.wl := ⟨h.1.1, h.2.1.1, h.2.2.1.1, h.2.2.2.1.1⟩
abbrev BoxB (B : Bd) (t : TypeId) : Obj := .cells #[.slice B.pa B.pl B.pc, .slice B.ta B.tl B.tc, .slice B.sa B.sl B.sc, .float .f32 B.film, .float .f32 B.bend, .slice B.wa B.wl B.wc, .float .f32 B.x, .float .f32 B.y, .float .f32 B.z] t
set_option maxHeartbeats 2000000 in
theorem impl_ValidBody (B : Bd) (c : Bc) (w : World) (h : IsB w B c) :
    Calls Tryz.prog 41 #[B.v] w fun e w' => e = .returned (.bool (bodyB c)) ∧ Below w.heap.size w w' := by
  have ui := Tryz.underlying42
  have um := Tryz.underlying38
  have us := Tryz.underlying116
  have hA0 : At (w.alloc (BoxB B 42)) w.heap.size B.l := At.new
  have hB0 := (Below.refl w.heap.size w).alloc (Nat.le_refl _) (BoxB B 42)
  obtain ⟨lp, lt, ls, lw⟩ := h.lens
  have H0 := Lib.hid (h.below hB0)
  have A0 := Lib.hid hA0
  have B0 := Lib.hid hB0
  have hJ := impl_ValidMesh _ _ _ _ _ _ c.cs c.ts _ H0.out.1 H0.out.2.1
  have LS := Lib.hid ls
  unfold bodyB
  rw [ls, lw, lp]
  clear h hA0 hB0 lp lt lw ls
  cases hv : validB c.cs c.ts
  · rw [hv] at hJ
    have HJ := Lib.hid hJ
    clear hJ hv
    go_enter Tryz.func41, Tryz.ntmps41
    go_wp2_with fail
    refine HJ.out.mono ?_
    rintro e w1 ⟨rfl, hB1⟩
    have B1 := Lib.hid (B0.out.trans (hB1.mono B0.out.size))
    clear hB1
    go_wp2
    go_ret
    exact ⟨rfl, B1.out⟩
  · rw [hv] at hJ
    have HJ := Lib.hid hJ
    clear hJ hv
    by_cases h1 : B.sl ≤ 200
    · have g1 : ¬ (200 : Int) < B.sl := by omega
      rw [decide_eq_true h1]
      by_cases h2 : B.wl = B.pl
      · have g2 : ((B.wl : Int) == (B.pl : Int)) = true := by simp [h2]
        have g2' : ((B.wl : Int) != (B.pl : Int)) = false := by simp [h2]
        rw [decide_eq_true h2]
        have H2 := Lib.hid h2
        clear h2
        go_enter Tryz.func41, Tryz.ntmps41
        go_wp2_with fail
        refine HJ.out.mono ?_
        rintro e w1 ⟨rfl, hB1⟩
        have A1 := Lib.hid (A0.out.below hB1)
        have B1 := Lib.hid (B0.out.trans (hB1.mono B0.out.size))
        have H1 := Lib.hid (H0.out.below hB1)
        have k1 := A1.out 2 _ rfl
        have k4 := A1.out 5 _ rfl
        clear hB1
        go_wp2
        have hm : B.sl ≤ 9223372036854775807 := by omega
        go_loopw [30] (fun i w' => ∃ k : Nat, k ≤ B.sl ∧ i = .int .i64 k ∧ Aside (∀ j, j < k → springB B.pl (c.ss.getD j s0) = true) ∧ Aside (Below w1.heap.size w1 w')) (fun i _ => B.sl - (intOf i).toNat)
        case atStart => exact ⟨0, Nat.zero_le _, rfl, (fun j hj => absurd hj (by omega)), Below.refl _ _⟩
        case round =>
          obtain ⟨k, hk, rfl, hall, hA⟩ := hrel
          have HB := Lib.hid hA.out
          clear hA
          by_cases hlt : k < B.sl
          · obtain ⟨b, o, hsa, hcell⟩ := (H1.out.below HB.out).2.2.1.some (by omega)
            obtain ⟨p, q, c0, c1, c2, c3, fp, fq⟩ := hcell k hlt
            have hJ := fun w => impl_isBetween (c.ss.getD k s0).1 (c.ss.getD k s0).2.1 p q B.pl (c.ss.getD k s0).2.2.1 (c.ss.getD k s0).2.2.2 w fp
            have hsp : springB B.pl ((c.ss.getD k s0).1, (c.ss.getD k s0).2.1, (c.ss.getD k s0).2.2.1, (c.ss.getD k s0).2.2.2) = springB B.pl (c.ss.getD k s0) := rfl
            rw [hsp] at hJ
            have hk0 : (0 : Int) ≤ (k : Int) := by omega
            have hk1 : (k : Int) < (B.sl : Int) := by omega
            obtain ⟨ua, hua⟩ : ∃ ua, ua = (c.ss.getD k s0).1 := ⟨_, rfl⟩
            obtain ⟨ub, hub⟩ : ∃ ub, ub = (c.ss.getD k s0).2.1 := ⟨_, rfl⟩
            rw [← hua] at c0 hJ
            rw [← hub] at c1 hJ
            rw [hsa]
            clear hcell hsp hua hub hsa fp fq
            cases hb : springB B.pl (c.ss.getD k s0)
            · have hres : Aside ((true && true && true && c.ss.all (springB B.pl)) = false) := by show (true && true && true && c.ss.all (springB B.pl)) = false; rw [ss_not (by rw [LS.out]; exact hlt) hb]; rfl
              rw [hb] at hJ
              have HJ2 := Lib.hid hJ
              clear hJ hall hb
              go_wp2_with fail
              refine (HJ2.out _).mono ?_
              rintro e w2 ⟨rfl, hB2⟩
              have B2 := Lib.hid (B1.out.trans (((below_new HB.out (Nat.le_refl _)).trans (hB2.mono (below_new HB.out (Nat.le_refl _)).size)).mono B1.out.size))
              clear hB2
              go_wp2
              go_ret
              exact ⟨ret_bool hres.out.symm, B2.out⟩
            · have hall' : Aside (∀ j, j < k + 1 → springB B.pl (c.ss.getD j s0) = true) := by
                intro j hj
                by_cases hjk : j = k
                · subst hjk; exact hb
                · exact hall.out j (by omega)
              rw [hb] at hJ
              have HJ2 := Lib.hid hJ
              clear hJ hall hb
              go_wp2_with fail
              refine (HJ2.out _).mono ?_
              rintro e w2 ⟨rfl, hB2⟩
              have B2 := Lib.hid ((below_new HB.out (Nat.le_refl _)).trans (hB2.mono (below_new HB.out (Nat.le_refl _)).size))
              clear hB2
              go_wp2
              go_roundw
              case rel => exact ⟨k + 1, by omega, by go_num, hall', B2.out⟩
              case measure => simp [intOf]; omega
          · have hkl : k = B.sl := by omega
            have hres : Aside ((true && true && true && c.ss.all (springB B.pl)) = true) := by show (true && true && true && c.ss.all (springB B.pl)) = true; rw [ss_all (by rw [LS.out, ← hkl]; exact hall.out)]; rfl
            have g3 : ¬ (k : Int) < (B.sl : Int) := by omega
            clear hall hkl
            go_wp2
            go_ret
            exact ⟨ret_bool hres.out.symm, B1.out.trans (HB.out.mono B1.out.size)⟩
      · have g2 : ((B.wl : Int) == (B.pl : Int)) = false := beq_eq_false_iff_ne.2 (by omega)
        have g2' : ((B.wl : Int) != (B.pl : Int)) = true := by simp; omega
        rw [decide_eq_false h2]
        clear h2
        go_enter Tryz.func41, Tryz.ntmps41
        go_wp2_with fail
        refine HJ.out.mono ?_
        rintro e w1 ⟨rfl, hB1⟩
        have A1 := Lib.hid (A0.out.below hB1)
        have B1 := Lib.hid (B0.out.trans (hB1.mono B0.out.size))
        have k1 := A1.out 2 _ rfl
        have k4 := A1.out 5 _ rfl
        clear hB1
        go_wp2
        go_ret
        exact ⟨rfl, B1.out⟩
    · have g1 : (200 : Int) < B.sl := by omega
      rw [decide_eq_false h1]
      go_enter Tryz.func41, Tryz.ntmps41
      go_wp2_with fail
      refine HJ.out.mono ?_
      rintro e w1 ⟨rfl, hB1⟩
      have A1 := Lib.hid (A0.out.below hB1)
      have B1 := Lib.hid (B0.out.trans (hB1.mono B0.out.size))
      have k1 := A1.out 2 _ rfl
      have k4 := A1.out 5 _ rfl
      clear hB1
      go_wp2
      go_ret
      exact ⟨rfl, B1.out⟩
end Go.Proofs.YtcgnmnbjgamedabGreat

/-
How far a spring is stretched: what the program's own part returns. Conditions: the spring's places are places of the list.
-/
namespace Go.Proofs.YtcgnmnbjgamedabGreat
open Go Fk Go.RowKit
set_option linter.unusedVariables false
set_option maxRecDepth 16000

end Go.Proofs.YtcgnmnbjgamedabGreat

/-
Normals of triangles: what the program returns. Conditions: the mesh is valid and has the triangle.
-/
namespace Go.Proofs.YtcgnmnbjgamedabGreat
open Go Fk Go.RowKit
set_option linter.unusedVariables false
set_option maxRecDepth 8000

set_option maxHeartbeats 4000000 in
theorem mesh_normal (pa ta : Option Addr) (pl pc tl tc : Nat) (cs : List C3) (t : List Int) (w : World) (hp : IsVs w pa pl pc cs) (htri : triB pl t = true) :
    Calls Tryz.prog 223 #[.agg #[.slice pa pl pc, .slice ta tl tc], .agg #[.int .i64 (t.getD 0 0), .int .i64 (t.getD 1 0), .int .i64 (t.getD 2 0)]] w fun e w' => ∃ x y z, e = .returned (vv x y z) ∧ FV .f32 x (normalC cs t).1 ∧ FV .f32 y (normalC cs t).2.1 ∧ FV .f32 z (normalC cs t).2.2 ∧ Below w.heap.size w w' := by
  have uv := Tryz.underlying40
  have ui := Tryz.underlying38
  have uc := Tryz.underlying137
  obtain ⟨h3, hin⟩ := tri_parts htri
  obtain ⟨bp, op, rfl, hcor⟩ := corner_cell hp htri
  obtain ⟨p0, q0, s0, d00, d01, d02, f00, f01, f02⟩ := hcor 0 (by decide)
  obtain ⟨p1, q1', s1, d10, d11, d12, f10, f11, f12⟩ := hcor 1 (by decide)
  obtain ⟨p2, q2', s2, d20, d21, d22, f20, f21, f22⟩ := hcor 2 (by decide)
  have i0 := hin 0 (by decide)
  have i1 := hin 1 (by decide)
  have i2 := hin 2 (by decide)
  unfold normalC crossC lessC
  generalize cornerC cs t 0 = C0 at *
  generalize cornerC cs t 1 = C1 at *
  generalize cornerC cs t 2 = C2 at *
  generalize t.getD 0 0 = j0 at *
  generalize t.getD 1 0 = j1 at *
  generalize t.getD 2 0 = j2 at *
  obtain ⟨i0, i0'⟩ := i0
  obtain ⟨i1, i1'⟩ := i1
  obtain ⟨i2, i2'⟩ := i2
  have m0 : j0 < (pl : Int) := by omega
  have m1 : j1 < (pl : Int) := by omega
  have m2 : j2 < (pl : Int) := by omega
  have lbp : bp < w.heap.size := World.block_lt_of_cell? w _ d00
  have lbp1 : bp < w.heap.size + 1 := by omega
  have lbp2 : bp < w.heap.size + 1 + 1 := by omega
  have lbp3 : bp < w.heap.size + 1 + 1 + 1 := by omega
  clear hcor hin htri hp h3
  go_enter Tryz.func223, Tryz.ntmps223
  go_wp2_with fail
  have hB0 : Below w.heap.size w ((((w.alloc (.cells #[.slice (some ⟨bp, op, none⟩) pl pc, .slice ta tl tc] 38)).alloc (.cells #[.int .i64 j0, .int .i64 j1, .int .i64 j2] 137)).alloc (.cells #[.float .f32 0, .float .f32 0, .float .f32 0] 40)).alloc (.cells #[.float .f32 p0, .float .f32 q0, .float .f32 s0] 40)) := ((((Below.refl _ _).alloc (Nat.le_refl _) _).alloc (by simp) _).alloc (by simp <;> omega) _).alloc (by simp <;> omega) _
  have kk0 : ((((w.alloc (.cells #[.slice (some ⟨bp, op, none⟩) pl pc, .slice ta tl tc] 38)).alloc (.cells #[.int .i64 j0, .int .i64 j1, .int .i64 j2] 137)).alloc (.cells #[.float .f32 0, .float .f32 0, .float .f32 0] 40)).alloc (.cells #[.float .f32 p0, .float .f32 q0, .float .f32 s0] 40)).cell? ⟨w.heap.size, 0, none⟩ = some (.slice (some ⟨bp, op, none⟩) pl pc) := by go_simp
  have kk1 : ((((w.alloc (.cells #[.slice (some ⟨bp, op, none⟩) pl pc, .slice ta tl tc] 38)).alloc (.cells #[.int .i64 j0, .int .i64 j1, .int .i64 j2] 137)).alloc (.cells #[.float .f32 0, .float .f32 0, .float .f32 0] 40)).alloc (.cells #[.float .f32 p0, .float .f32 q0, .float .f32 s0] 40)).cell? ⟨w.heap.size + 1, 1, none⟩ = some (.int .i64 j1) := by go_simp
  have kk2 : ((((w.alloc (.cells #[.slice (some ⟨bp, op, none⟩) pl pc, .slice ta tl tc] 38)).alloc (.cells #[.int .i64 j0, .int .i64 j1, .int .i64 j2] 137)).alloc (.cells #[.float .f32 0, .float .f32 0, .float .f32 0] 40)).alloc (.cells #[.float .f32 p0, .float .f32 q0, .float .f32 s0] 40)).cell? ⟨w.heap.size + 1, 2, none⟩ = some (.int .i64 j2) := by go_simp
  have kv0 : ((((w.alloc (.cells #[.slice (some ⟨bp, op, none⟩) pl pc, .slice ta tl tc] 38)).alloc (.cells #[.int .i64 j0, .int .i64 j1, .int .i64 j2] 137)).alloc (.cells #[.float .f32 0, .float .f32 0, .float .f32 0] 40)).alloc (.cells #[.float .f32 p0, .float .f32 q0, .float .f32 s0] 40)).cell? ⟨w.heap.size + 1 + 1 + 1, 0, none⟩ = some (.float .f32 p0) := by go_simp
  have kv1 : ((((w.alloc (.cells #[.slice (some ⟨bp, op, none⟩) pl pc, .slice ta tl tc] 38)).alloc (.cells #[.int .i64 j0, .int .i64 j1, .int .i64 j2] 137)).alloc (.cells #[.float .f32 0, .float .f32 0, .float .f32 0] 40)).alloc (.cells #[.float .f32 p0, .float .f32 q0, .float .f32 s0] 40)).cell? ⟨w.heap.size + 1 + 1 + 1, 1, none⟩ = some (.float .f32 q0) := by go_simp
  have kv2 : ((((w.alloc (.cells #[.slice (some ⟨bp, op, none⟩) pl pc, .slice ta tl tc] 38)).alloc (.cells #[.int .i64 j0, .int .i64 j1, .int .i64 j2] 137)).alloc (.cells #[.float .f32 0, .float .f32 0, .float .f32 0] 40)).alloc (.cells #[.float .f32 p0, .float .f32 q0, .float .f32 s0] 40)).cell? ⟨w.heap.size + 1 + 1 + 1, 2, none⟩ = some (.float .f32 s0) := by go_simp
  have kr0 : ((((w.alloc (.cells #[.slice (some ⟨bp, op, none⟩) pl pc, .slice ta tl tc] 38)).alloc (.cells #[.int .i64 j0, .int .i64 j1, .int .i64 j2] 137)).alloc (.cells #[.float .f32 0, .float .f32 0, .float .f32 0] 40)).alloc (.cells #[.float .f32 p0, .float .f32 q0, .float .f32 s0] 40)).cell? ⟨w.heap.size + 1 + 1, 0, none⟩ = some (.float .f32 0) := by go_simp
  have kr1 : ((((w.alloc (.cells #[.slice (some ⟨bp, op, none⟩) pl pc, .slice ta tl tc] 38)).alloc (.cells #[.int .i64 j0, .int .i64 j1, .int .i64 j2] 137)).alloc (.cells #[.float .f32 0, .float .f32 0, .float .f32 0] 40)).alloc (.cells #[.float .f32 p0, .float .f32 q0, .float .f32 s0] 40)).cell? ⟨w.heap.size + 1 + 1, 1, none⟩ = some (.float .f32 0) := by go_simp
  have kr2 : ((((w.alloc (.cells #[.slice (some ⟨bp, op, none⟩) pl pc, .slice ta tl tc] 38)).alloc (.cells #[.int .i64 j0, .int .i64 j1, .int .i64 j2] 137)).alloc (.cells #[.float .f32 0, .float .f32 0, .float .f32 0] 40)).alloc (.cells #[.float .f32 p0, .float .f32 q0, .float .f32 s0] 40)).cell? ⟨w.heap.size + 1 + 1, 2, none⟩ = some (.float .f32 0) := by go_simp
  have kf0 : ((((w.alloc (.cells #[.slice (some ⟨bp, op, none⟩) pl pc, .slice ta tl tc] 38)).alloc (.cells #[.int .i64 j0, .int .i64 j1, .int .i64 j2] 137)).alloc (.cells #[.float .f32 0, .float .f32 0, .float .f32 0] 40)).alloc (.cells #[.float .f32 p0, .float .f32 q0, .float .f32 s0] 40)).frozen? ⟨w.heap.size + 1 + 1, 0, none⟩ = false := by go_simp
  have kf1 : ((((w.alloc (.cells #[.slice (some ⟨bp, op, none⟩) pl pc, .slice ta tl tc] 38)).alloc (.cells #[.int .i64 j0, .int .i64 j1, .int .i64 j2] 137)).alloc (.cells #[.float .f32 0, .float .f32 0, .float .f32 0] 40)).alloc (.cells #[.float .f32 p0, .float .f32 q0, .float .f32 s0] 40)).frozen? ⟨w.heap.size + 1 + 1, 1, none⟩ = false := by go_simp
  have kf2 : ((((w.alloc (.cells #[.slice (some ⟨bp, op, none⟩) pl pc, .slice ta tl tc] 38)).alloc (.cells #[.int .i64 j0, .int .i64 j1, .int .i64 j2] 137)).alloc (.cells #[.float .f32 0, .float .f32 0, .float .f32 0] 40)).alloc (.cells #[.float .f32 p0, .float .f32 q0, .float .f32 s0] 40)).frozen? ⟨w.heap.size + 1 + 1, 2, none⟩ = false := by go_simp
  have hd10 := cell_below hB0 d10
  have hd11 := cell_below hB0 d11
  have hd12 := cell_below hB0 d12
  have hd20 := cell_below hB0 d20
  have hd21 := cell_below hB0 d21
  have hd22 := cell_below hB0 d22
  have nA : w.heap.size + 1 + 1 ≠ w.heap.size := by omega
  have nB : w.heap.size + 1 + 1 ≠ w.heap.size + 1 := by omega
  have nC : w.heap.size + 1 + 1 ≠ w.heap.size + 1 + 1 + 1 := by omega
  have nD : w.heap.size + 1 + 1 ≠ bp := by omega
  clear d00 d01 d02 d10 d11 d12 d20 d21 d22
  generalize ((((w.alloc (.cells #[.slice (some ⟨bp, op, none⟩) pl pc, .slice ta tl tc] 38)).alloc (.cells #[.int .i64 j0, .int .i64 j1, .int .i64 j2] 137)).alloc (.cells #[.float .f32 0, .float .f32 0, .float .f32 0] 40)).alloc (.cells #[.float .f32 p0, .float .f32 q0, .float .f32 s0] 40)) = V at *
  refine Reg.wp_region_mix (C := fun w' => (w'.cell? ⟨w.heap.size, 0, none⟩ = some (.slice (some ⟨bp, op, none⟩) pl pc) ∧ w'.cell? ⟨w.heap.size + 1, 1, none⟩ = some (.int .i64 j1) ∧ w'.cell? ⟨w.heap.size + 1, 2, none⟩ = some (.int .i64 j2) ∧ w'.cell? ⟨bp, op + j1.toNat * 3, none⟩ = some (.float .f32 p1) ∧ w'.cell? ⟨bp, op + j1.toNat * 3 + 1, none⟩ = some (.float .f32 q1') ∧ w'.cell? ⟨bp, op + j1.toNat * 3 + 2, none⟩ = some (.float .f32 s1) ∧ w'.cell? ⟨bp, op + j2.toNat * 3, none⟩ = some (.float .f32 p2) ∧ w'.cell? ⟨bp, op + j2.toNat * 3 + 1, none⟩ = some (.float .f32 q2') ∧ w'.cell? ⟨bp, op + j2.toNat * 3 + 2, none⟩ = some (.float .f32 s2) ∧ w'.cell? ⟨w.heap.size + 1 + 1 + 1, 0, none⟩ = some (.float .f32 p0) ∧ w'.cell? ⟨w.heap.size + 1 + 1 + 1, 1, none⟩ = some (.float .f32 q0) ∧ w'.cell? ⟨w.heap.size + 1 + 1 + 1, 2, none⟩ = some (.float .f32 s0)) ∧ (∃ u0 u1 u2, w'.cell? ⟨w.heap.size + 1 + 1, 0, none⟩ = some u0 ∧ w'.cell? ⟨w.heap.size + 1 + 1, 1, none⟩ = some u1 ∧ w'.cell? ⟨w.heap.size + 1 + 1, 2, none⟩ = some u2) ∧ (w'.frozen? ⟨w.heap.size + 1 + 1, 0, none⟩ = false ∧ w'.frozen? ⟨w.heap.size + 1 + 1, 1, none⟩ = false ∧ w'.frozen? ⟨w.heap.size + 1 + 1, 2, none⟩ = false) ∧ Below w.heap.size w w') (G := fun _ _ => True) (R := fun i v _ => match i with | 0 => v = .pointer (some ⟨w.heap.size, 0, none⟩) | 1 => v = .slice (some ⟨bp, op, none⟩) pl pc | 2 => v = .pointer (some ⟨w.heap.size + 1, 1, none⟩) | 3 => v = .int .i64 j1 | 4 => v = .pointer (some ⟨bp, op + j1.toNat * 3, none⟩) | 5 => v = vv p1 q1' s1 | 6 => v = vv p0 q0 s0 | 7 => ∃ a b g, v = vv a b g ∧ FV .f32 a (fop .sub .f32 C1.1 C0.1) ∧ FV .f32 b (fop .sub .f32 C1.2.1 C0.2.1) ∧ FV .f32 g (fop .sub .f32 C1.2.2 C0.2.2) | 8 => v = .pointer (some ⟨w.heap.size, 0, none⟩) | 9 => v = .slice (some ⟨bp, op, none⟩) pl pc | 10 => v = .pointer (some ⟨w.heap.size + 1, 2, none⟩) | 11 => v = .int .i64 j2 | 12 => v = .pointer (some ⟨bp, op + j2.toNat * 3, none⟩) | 13 => v = vv p2 q2' s2 | 14 => v = vv p0 q0 s0 | 15 => ∃ a b g, v = vv a b g ∧ FV .f32 a (fop .sub .f32 C2.1 C0.1) ∧ FV .f32 b (fop .sub .f32 C2.2.1 C0.2.1) ∧ FV .f32 g (fop .sub .f32 C2.2.2 C0.2.2) | 16 => ∃ a b g, v = vv a b g ∧ FV .f32 a (fop .sub .f32 (fop .mul .f32 (fop .sub .f32 C1.2.1 C0.2.1) (fop .sub .f32 C2.2.2 C0.2.2)) (fop .mul .f32 (fop .sub .f32 C1.2.2 C0.2.2) (fop .sub .f32 C2.2.1 C0.2.1))) ∧ FV .f32 b (fop .sub .f32 (fop .mul .f32 (fop .sub .f32 C1.2.2 C0.2.2) (fop .sub .f32 C2.1 C0.1)) (fop .mul .f32 (fop .sub .f32 C1.1 C0.1) (fop .sub .f32 C2.2.2 C0.2.2))) ∧ FV .f32 g (fop .sub .f32 (fop .mul .f32 (fop .sub .f32 C1.1 C0.1) (fop .sub .f32 C2.2.1 C0.2.1)) (fop .mul .f32 (fop .sub .f32 C1.2.1 C0.2.1) (fop .sub .f32 C2.1 C0.1))) | _ => True) (T := fun _ a w' => ∃ a b g, w'.cell? ⟨w.heap.size + 1 + 1, 0, none⟩ = some (.float .f32 a) ∧ w'.cell? ⟨w.heap.size + 1 + 1, 1, none⟩ = some (.float .f32 b) ∧ w'.cell? ⟨w.heap.size + 1 + 1, 2, none⟩ = some (.float .f32 g) ∧ FV .f32 a (fop .sub .f32 (fop .mul .f32 (fop .sub .f32 C1.2.1 C0.2.1) (fop .sub .f32 C2.2.2 C0.2.2)) (fop .mul .f32 (fop .sub .f32 C1.2.2 C0.2.2) (fop .sub .f32 C2.2.1 C0.2.1))) ∧ FV .f32 b (fop .sub .f32 (fop .mul .f32 (fop .sub .f32 C1.2.2 C0.2.2) (fop .sub .f32 C2.1 C0.1)) (fop .mul .f32 (fop .sub .f32 C1.1 C0.1) (fop .sub .f32 C2.2.2 C0.2.2))) ∧ FV .f32 g (fop .sub .f32 (fop .mul .f32 (fop .sub .f32 C1.1 C0.1) (fop .sub .f32 C2.2.1 C0.2.1)) (fop .mul .f32 (fop .sub .f32 C1.2.1 C0.2.1) (fop .sub .f32 C2.1 C0.1)))) [false, false, false, false, false, false, false, false, false, false, false, false, true, true, true, true, true, true, true, true, true, true, true, true, true, true, true, true, true]
    (by kernel_rfl) (by kernel_rfl) (by kernel_rfl) (fun _ _ _ _ _ _ h => h) ⟨⟨kk0, kk1, kk2, hd10, hd11, hd12, hd20, hd21, hd22, kv0, kv1, kv2⟩, ⟨_, _, _, kr0, kr1, kr2⟩, ⟨kf0, kf1, kf2⟩, below_drewN hB0 1⟩ ?_ ?_
  · refine ⟨Reg.Obl.mk ?_, Reg.Obl.mk ?_, Reg.Obl.mk ?_, Reg.Obl.mk ?_, Reg.Obl.mk ?_, Reg.Obl.mk ?_, Reg.Obl.mk ?_, Reg.Obl.mk ?_, Reg.Obl.mk ?_, Reg.Obl.mk ?_, Reg.Obl.mk ?_, Reg.Obl.mk ?_, Reg.Obl.mk ?_, Reg.Obl.mk ?_, Reg.Obl.mk ?_, Reg.Obl.mk ?_, Reg.Obl.mk ?_, Reg.Obl.mk ?_, trivial⟩
    · rintro a w1 ⟨⟨y0, y1, y2, y3, y4, y5, y6, y7, y8, y9, y10, y11⟩, hrb, hfz, hB⟩ hx hd K hK
      have t2 : a.tmps[2]?.getD undef = .pointer (some ⟨w.heap.size, 0, none⟩) := Reg.slot_val (hx 2 (by kernel_rfl))
      go_simp
      exact hK _ _ (fun _ => rfl) (fun h => by cases h) ⟨⟨y0, y1, y2, y3, y4, y5, y6, y7, y8, y9, y10, y11⟩, hrb, hfz, hB⟩ trivial
    · rintro a w1 ⟨⟨y0, y1, y2, y3, y4, y5, y6, y7, y8, y9, y10, y11⟩, hrb, hfz, hB⟩ hx hd K hK
      have t12 : a.tmps[12]?.getD undef = .pointer (some ⟨w.heap.size, 0, none⟩) := Reg.slot_val (hd 0 (by kernel_rfl) 12 rfl)
      go_simp
      exact hK _ _ (fun _ => rfl) (fun h => by cases h) ⟨⟨y0, y1, y2, y3, y4, y5, y6, y7, y8, y9, y10, y11⟩, hrb, hfz, hB⟩ trivial
    · rintro a w1 ⟨⟨y0, y1, y2, y3, y4, y5, y6, y7, y8, y9, y10, y11⟩, hrb, hfz, hB⟩ hx hd K hK
      have t3 : a.tmps[3]?.getD undef = .pointer (some ⟨w.heap.size + 1, 0, none⟩) := Reg.slot_val (hx 3 (by kernel_rfl))
      go_simp
      exact hK _ _ (fun _ => rfl) (fun h => by cases h) ⟨⟨y0, y1, y2, y3, y4, y5, y6, y7, y8, y9, y10, y11⟩, hrb, hfz, hB⟩ trivial
    · rintro a w1 ⟨⟨y0, y1, y2, y3, y4, y5, y6, y7, y8, y9, y10, y11⟩, hrb, hfz, hB⟩ hx hd K hK
      have t14 : a.tmps[14]?.getD undef = .pointer (some ⟨w.heap.size + 1, 1, none⟩) := Reg.slot_val (hd 2 (by kernel_rfl) 14 rfl)
      go_simp
      exact hK _ _ (fun _ => rfl) (fun h => by cases h) ⟨⟨y0, y1, y2, y3, y4, y5, y6, y7, y8, y9, y10, y11⟩, hrb, hfz, hB⟩ trivial
    · rintro a w1 ⟨⟨y0, y1, y2, y3, y4, y5, y6, y7, y8, y9, y10, y11⟩, hrb, hfz, hB⟩ hx hd K hK
      have t13 : a.tmps[13]?.getD undef = .slice (some ⟨bp, op, none⟩) pl pc := Reg.slot_val (hd 1 (by kernel_rfl) 13 rfl)
      have t15 : a.tmps[15]?.getD undef = .int .i64 j1 := Reg.slot_val (hd 3 (by kernel_rfl) 15 rfl)
      go_simp
      exact hK _ _ (fun _ => rfl) (fun h => by cases h) ⟨⟨y0, y1, y2, y3, y4, y5, y6, y7, y8, y9, y10, y11⟩, hrb, hfz, hB⟩ trivial
    · rintro a w1 ⟨⟨y0, y1, y2, y3, y4, y5, y6, y7, y8, y9, y10, y11⟩, hrb, hfz, hB⟩ hx hd K hK
      have t16 : a.tmps[16]?.getD undef = .pointer (some ⟨bp, op + j1.toNat * 3, none⟩) := Reg.slot_val (hd 4 (by kernel_rfl) 16 rfl)
      go_simp
      exact hK _ _ (fun _ => rfl) (fun h => by cases h) ⟨⟨y0, y1, y2, y3, y4, y5, y6, y7, y8, y9, y10, y11⟩, hrb, hfz, hB⟩ trivial
    · rintro a w1 ⟨⟨y0, y1, y2, y3, y4, y5, y6, y7, y8, y9, y10, y11⟩, hrb, hfz, hB⟩ hx hd K hK
      have t5 : a.tmps[5]?.getD undef = .pointer (some ⟨w.heap.size + 1 + 1 + 1, 0, none⟩) := Reg.slot_val (hx 5 (by kernel_rfl))
      go_simp
      exact hK _ _ (fun _ => rfl) (fun h => by cases h) ⟨⟨y0, y1, y2, y3, y4, y5, y6, y7, y8, y9, y10, y11⟩, hrb, hfz, hB⟩ trivial
    · rintro a w1 ⟨⟨y0, y1, y2, y3, y4, y5, y6, y7, y8, y9, y10, y11⟩, hrb, hfz, hB⟩ hx hd K hK
      have t17 : a.tmps[17]?.getD undef = vv p1 q1' s1 := Reg.slot_val (hd 5 (by kernel_rfl) 17 rfl)
      have t18 : a.tmps[18]?.getD undef = vv p0 q0 s0 := Reg.slot_val (hd 6 (by kernel_rfl) 18 rfl)
      have hrb' := Lib.hid hrb
      clear hrb
      go_simp
      refine (impl_LessVectors _ _ _ _ _ _ _ _ _ _ _ _ _ f10 f11 f12 f00 f01 f02).mono ?_
      rintro en w2 ⟨ra, rb, rc, rfl, ha, hb, hc, hB2⟩
      obtain ⟨u0, u1, u2, x0, x1, x2⟩ := hrb'.out
      have lt := World.block_lt_of_cell? w1 _ x0
      exact hK _ _ (fun _ => ⟨ra, rb, rc, rfl, ha, hb, hc⟩) (fun h => by cases h) ⟨⟨cell_below hB2 y0, cell_below hB2 y1, cell_below hB2 y2, cell_below hB2 y3, cell_below hB2 y4, cell_below hB2 y5, cell_below hB2 y6, cell_below hB2 y7, cell_below hB2 y8, cell_below hB2 y9, cell_below hB2 y10, cell_below hB2 y11⟩, ⟨u0, u1, u2, cell_below hB2 x0, cell_below hB2 x1, cell_below hB2 x2⟩, ⟨frozen_below hB2 lt hfz.1, frozen_below hB2 lt hfz.2.1, frozen_below hB2 lt hfz.2.2⟩, hB.trans (hB2.mono hB.size)⟩ trivial
    · rintro a w1 ⟨⟨y0, y1, y2, y3, y4, y5, y6, y7, y8, y9, y10, y11⟩, hrb, hfz, hB⟩ hx hd K hK
      have t2 : a.tmps[2]?.getD undef = .pointer (some ⟨w.heap.size, 0, none⟩) := Reg.slot_val (hx 2 (by kernel_rfl))
      go_simp
      exact hK _ _ (fun _ => rfl) (fun h => by cases h) ⟨⟨y0, y1, y2, y3, y4, y5, y6, y7, y8, y9, y10, y11⟩, hrb, hfz, hB⟩ trivial
    · rintro a w1 ⟨⟨y0, y1, y2, y3, y4, y5, y6, y7, y8, y9, y10, y11⟩, hrb, hfz, hB⟩ hx hd K hK
      have t20 : a.tmps[20]?.getD undef = .pointer (some ⟨w.heap.size, 0, none⟩) := Reg.slot_val (hd 8 (by kernel_rfl) 20 rfl)
      go_simp
      exact hK _ _ (fun _ => rfl) (fun h => by cases h) ⟨⟨y0, y1, y2, y3, y4, y5, y6, y7, y8, y9, y10, y11⟩, hrb, hfz, hB⟩ trivial
    · rintro a w1 ⟨⟨y0, y1, y2, y3, y4, y5, y6, y7, y8, y9, y10, y11⟩, hrb, hfz, hB⟩ hx hd K hK
      have t3 : a.tmps[3]?.getD undef = .pointer (some ⟨w.heap.size + 1, 0, none⟩) := Reg.slot_val (hx 3 (by kernel_rfl))
      go_simp
      exact hK _ _ (fun _ => rfl) (fun h => by cases h) ⟨⟨y0, y1, y2, y3, y4, y5, y6, y7, y8, y9, y10, y11⟩, hrb, hfz, hB⟩ trivial
    · rintro a w1 ⟨⟨y0, y1, y2, y3, y4, y5, y6, y7, y8, y9, y10, y11⟩, hrb, hfz, hB⟩ hx hd K hK
      have t22 : a.tmps[22]?.getD undef = .pointer (some ⟨w.heap.size + 1, 2, none⟩) := Reg.slot_val (hd 10 (by kernel_rfl) 22 rfl)
      go_simp
      exact hK _ _ (fun _ => rfl) (fun h => by cases h) ⟨⟨y0, y1, y2, y3, y4, y5, y6, y7, y8, y9, y10, y11⟩, hrb, hfz, hB⟩ trivial
    · rintro a w1 ⟨⟨y0, y1, y2, y3, y4, y5, y6, y7, y8, y9, y10, y11⟩, hrb, hfz, hB⟩ hx hd K hK
      have t21 : a.tmps[21]?.getD undef = .slice (some ⟨bp, op, none⟩) pl pc := Reg.slot_val (hd 9 (by kernel_rfl) 21 rfl)
      have t23 : a.tmps[23]?.getD undef = .int .i64 j2 := Reg.slot_val (hd 11 (by kernel_rfl) 23 rfl)
      go_simp
      exact hK _ _ (fun _ => rfl) (fun h => by cases h) ⟨⟨y0, y1, y2, y3, y4, y5, y6, y7, y8, y9, y10, y11⟩, hrb, hfz, hB⟩ trivial
    · rintro a w1 ⟨⟨y0, y1, y2, y3, y4, y5, y6, y7, y8, y9, y10, y11⟩, hrb, hfz, hB⟩ hx hd K hK
      have t24 : a.tmps[24]?.getD undef = .pointer (some ⟨bp, op + j2.toNat * 3, none⟩) := Reg.slot_val (hd 12 (by kernel_rfl) 24 rfl)
      go_simp
      exact hK _ _ (fun _ => rfl) (fun h => by cases h) ⟨⟨y0, y1, y2, y3, y4, y5, y6, y7, y8, y9, y10, y11⟩, hrb, hfz, hB⟩ trivial
    · rintro a w1 ⟨⟨y0, y1, y2, y3, y4, y5, y6, y7, y8, y9, y10, y11⟩, hrb, hfz, hB⟩ hx hd K hK
      have t5 : a.tmps[5]?.getD undef = .pointer (some ⟨w.heap.size + 1 + 1 + 1, 0, none⟩) := Reg.slot_val (hx 5 (by kernel_rfl))
      go_simp
      exact hK _ _ (fun _ => rfl) (fun h => by cases h) ⟨⟨y0, y1, y2, y3, y4, y5, y6, y7, y8, y9, y10, y11⟩, hrb, hfz, hB⟩ trivial
    · rintro a w1 ⟨⟨y0, y1, y2, y3, y4, y5, y6, y7, y8, y9, y10, y11⟩, hrb, hfz, hB⟩ hx hd K hK
      have t25 : a.tmps[25]?.getD undef = vv p2 q2' s2 := Reg.slot_val (hd 13 (by kernel_rfl) 25 rfl)
      have t26 : a.tmps[26]?.getD undef = vv p0 q0 s0 := Reg.slot_val (hd 14 (by kernel_rfl) 26 rfl)
      have hrb' := Lib.hid hrb
      clear hrb
      go_simp
      refine (impl_LessVectors _ _ _ _ _ _ _ _ _ _ _ _ _ f20 f21 f22 f00 f01 f02).mono ?_
      rintro en w2 ⟨ra, rb, rc, rfl, ha, hb, hc, hB2⟩
      obtain ⟨u0, u1, u2, x0, x1, x2⟩ := hrb'.out
      have lt := World.block_lt_of_cell? w1 _ x0
      exact hK _ _ (fun _ => ⟨ra, rb, rc, rfl, ha, hb, hc⟩) (fun h => by cases h) ⟨⟨cell_below hB2 y0, cell_below hB2 y1, cell_below hB2 y2, cell_below hB2 y3, cell_below hB2 y4, cell_below hB2 y5, cell_below hB2 y6, cell_below hB2 y7, cell_below hB2 y8, cell_below hB2 y9, cell_below hB2 y10, cell_below hB2 y11⟩, ⟨u0, u1, u2, cell_below hB2 x0, cell_below hB2 x1, cell_below hB2 x2⟩, ⟨frozen_below hB2 lt hfz.1, frozen_below hB2 lt hfz.2.1, frozen_below hB2 lt hfz.2.2⟩, hB.trans (hB2.mono hB.size)⟩ trivial
    · rintro a w1 ⟨⟨y0, y1, y2, y3, y4, y5, y6, y7, y8, y9, y10, y11⟩, hrb, hfz, hB⟩ hx hd K hK
      obtain ⟨r19, p19', q19', gg19, fa19, fb19, fc19⟩ := hd 7 (by kernel_rfl) 19 rfl
      have t19 := Reg.slot_val gg19
      clear gg19
      obtain ⟨r27, p27', q27', gg27, fa27, fb27, fc27⟩ := hd 15 (by kernel_rfl) 27 rfl
      have t27 := Reg.slot_val gg27
      clear gg27
      have hrb' := Lib.hid hrb
      clear hrb
      go_simp
      refine (impl_CrossOf _ _ _ _ _ _ _ _ _ _ _ _ _ fa19 fb19 fc19 fa27 fb27 fc27).mono ?_
      rintro en w2 ⟨ra, rb, rc, rfl, ha, hb, hc, hB2⟩
      obtain ⟨u0, u1, u2, x0, x1, x2⟩ := hrb'.out
      have lt := World.block_lt_of_cell? w1 _ x0
      exact hK _ _ (fun _ => ⟨ra, rb, rc, rfl, ha, hb, hc⟩) (fun h => by cases h) ⟨⟨cell_below hB2 y0, cell_below hB2 y1, cell_below hB2 y2, cell_below hB2 y3, cell_below hB2 y4, cell_below hB2 y5, cell_below hB2 y6, cell_below hB2 y7, cell_below hB2 y8, cell_below hB2 y9, cell_below hB2 y10, cell_below hB2 y11⟩, ⟨u0, u1, u2, cell_below hB2 x0, cell_below hB2 x1, cell_below hB2 x2⟩, ⟨frozen_below hB2 lt hfz.1, frozen_below hB2 lt hfz.2.1, frozen_below hB2 lt hfz.2.2⟩, hB.trans (hB2.mono hB.size)⟩ trivial
    · rintro a w1 ⟨⟨y0, y1, y2, y3, y4, y5, y6, y7, y8, y9, y10, y11⟩, hrb, hfz, hB⟩ hx hd K hK
      have t4 : a.tmps[4]?.getD undef = .pointer (some ⟨w.heap.size + 1 + 1, 0, none⟩) := Reg.slot_val (hx 4 (by kernel_rfl))
      obtain ⟨r28, p28', q28', gg28, fa28, fb28, fc28⟩ := hd 16 (by kernel_rfl) 28 rfl
      have t28 := Reg.slot_val gg28
      clear gg28
      obtain ⟨u0, u1, u2, x0, x1, x2⟩ := hrb
      obtain ⟨k0, k1, k2⟩ := hfz
      go_simp
      have s3 := set3 (u := .float .f32 r28) (v := .float .f32 p28') (t := .float .f32 q28') x0 x1 x2
      refine hK undef _ (fun h => absurd rfl h) (fun _ => ⟨r28, p28', q28', s3.1, s3.2.1, s3.2.2, fa28, fb28, fc28⟩) ⟨⟨cell_set (by first | assumption | omega) (cell_set (by first | assumption | omega) (cell_set (by first | assumption | omega) y0)), cell_set (by first | assumption | omega) (cell_set (by first | assumption | omega) (cell_set (by first | assumption | omega) y1)), cell_set (by first | assumption | omega) (cell_set (by first | assumption | omega) (cell_set (by first | assumption | omega) y2)), cell_set (by first | assumption | omega) (cell_set (by first | assumption | omega) (cell_set (by first | assumption | omega) y3)), cell_set (by first | assumption | omega) (cell_set (by first | assumption | omega) (cell_set (by first | assumption | omega) y4)), cell_set (by first | assumption | omega) (cell_set (by first | assumption | omega) (cell_set (by first | assumption | omega) y5)), cell_set (by first | assumption | omega) (cell_set (by first | assumption | omega) (cell_set (by first | assumption | omega) y6)), cell_set (by first | assumption | omega) (cell_set (by first | assumption | omega) (cell_set (by first | assumption | omega) y7)), cell_set (by first | assumption | omega) (cell_set (by first | assumption | omega) (cell_set (by first | assumption | omega) y8)), cell_set (by first | assumption | omega) (cell_set (by first | assumption | omega) (cell_set (by first | assumption | omega) y9)), cell_set (by first | assumption | omega) (cell_set (by first | assumption | omega) (cell_set (by first | assumption | omega) y10)), cell_set (by first | assumption | omega) (cell_set (by first | assumption | omega) (cell_set (by first | assumption | omega) y11))⟩, ⟨_, _, _, s3⟩, ⟨by simp [k0], by simp [k1], by simp [k2]⟩, below_set3 hB (by first | exact Nat.le_refl _ | omega)⟩ trivial
  · rintro f w1 ⟨⟨y0, y1, y2, y3, y4, y5, y6, y7, y8, y9, y10, y11⟩, hrb, hfz, hB⟩ hd hT
    obtain ⟨xa, xb, xc, x0, x1, x2, fa, fb, fc⟩ := hT 17 rfl (by decide)
    simp only [Reg.mixL]
    have HB := Lib.hid hB
    clear hB hd hT hrb hfz
    go_wp2
    refine bodyPost_ret (v := vv xa xb xc) (by simp [results, Tryz.results223, go_sem, x0, x1, x2]) rfl ⟨_, _, _, rfl, fa, fb, fc, HB.out⟩
end Go.Proofs.YtcgnmnbjgamedabGreat

/-
The area of a triangle: what the program and its model reckon. Conditions: the triangle's places are the mesh's.
-/
namespace Go.Proofs.YtcgnmnbjgamedabGreat
open Go Fk Go.RowKit
set_option linter.unusedVariables false
set_option maxRecDepth 8000

@[go_sem] theorem run_neg_float {P : Program} (k : FloatKind) (x : Nat) (w : World) : (Op.unary .neg (.float k x)).run P w = .ok (.float k (Op.negFloat k x)) w := rfl
theorem neg_lt {x : Nat} (hx : x < 4294967296) : Op.negFloat .f32 x < 4294967296 := by
  unfold Op.negFloat
  exact Nat.xor_lt_two_pow (n := 32) hx (by decide)
def halfC : Option Nat := cls .f32 1056964608
theorem half_FV : FV .f32 1056964608 halfC := ⟨by decide, rfl⟩
def areaC (cs : List C3) (t : List Int) : Option Nat := fop .mul .f32 halfC (longC (normalC cs t))
end Go.Proofs.YtcgnmnbjgamedabGreat

/-
Texts in one: what StfS stands on, part 9. Conditions: those of each.
-/
import Derived.Test.YtabccmobmppdnaaGreatKStfS8
-- halved
namespace Go.Proofs.YtabccmobmppdnaaGreat
open Go Fk Go.RowKit
set_option linter.unusedVariables false
set_option maxRecDepth 16000
theorem getD_app1 {A B : List En} {k : Nat} {d : En} (h : k < A.length) : (A ++ B).getD k d = A.getD k d := by
 rw [List.getD, List.getElem?_append_left h, List.getD]
theorem getD_app2 {A B : List En} {n k : Nat} {d : En} (h : A.length = n) : (A ++ B).getD (n + k) d = B.getD k d := by
 rw [List.getD, List.getElem?_append_right (by omega), h, Nat.add_sub_cancel_left, List.getD]
theorem ens_parts {c : Bc} {sl tl pl : Nat} {hs : List (List Int)} (h1 : c.ss.length = sl) (h2 : c.ts.length = tl) (h3 : c.zs.length = pl) (h4 : hgT c.cs c.ts = hs) :
  (ens c).length = sl + tl + hs.length + pl ∧ (∀ k, k < sl → (ens c).getD k (.sp s0) = .sp (c.ss.getD k s0)) ∧ (∀ k, k < tl → (ens c).getD (sl + k) (.sp s0) = .fi (c.ts.getD k []) c.film) ∧ (∀ k, k < hs.length → (ens c).getD (sl + tl + k) (.sp s0) = .hi (hs.getD k []) c.bend) ∧ ∀ k, k < pl → (ens c).getD (sl + tl + hs.length + k) (.sp s0) = .we (k : Int) (cls .f32 (c.zs.getD k 0)) c.fall := by
 subst h1 h2 h3 h4
 unfold ens
 have hw : ∀ n, (ensW c.zs c.fall n).length = n := fun n => by simp [ensW]
 refine ⟨by simp [hw]; omega, fun k hk => ?_, fun k hk => ?_, fun k hk => ?_, fun k hk => ?_⟩
 ·rw [getD_app1 (by simp; omega), getD_app1 (by simp; omega), getD_app1 (by simpa using hk)]
  simp [List.getD, hk]
 ·rw [getD_app1 (by simp; omega), getD_app1 (by simp; omega), getD_app2 (by simp)]
  simp [List.getD, hk]
 ·rw [getD_app1 (by simp; omega), getD_app2 (by simp)]
  simp [List.getD, hk]
 ·rw [getD_app2 (by simp; omega)]
  exact ensW_get _ _ _ _ hk
end Go.Proofs.YtabccmobmppdnaaGreat
namespace Go.Proofs.YtabccmobmppdnaaGreat
open Go Fk Go.RowKit
set_option linter.unusedVariables false
set_option maxRecDepth 8000
set_option maxHeartbeats 4000000 in
theorem l03Way (bb xb xo : Nat) (a b : Int) (lo st : Nat) (cl ce : Option Nat) (pa : Option Addr) (pl pc : Nat) (cs : List C3) (w : World) (h : IsVs w pa pl pc cs) (hbb : w.cell? ⟨bb, 0, none⟩ = some (.slice pa pl pc))
  (x0 : w.cell? ⟨xb, xo, none⟩ = some (.int .i64 a)) (x1 : w.cell? ⟨xb, xo + 1, none⟩ = some (.int .i64 b)) (x2 : w.cell? ⟨xb, xo + 2, none⟩ = some (.float .f32 lo)) (x3 : w.cell? ⟨xb, xo + 3, none⟩ = some (.float .f32 st)) (hlo : FV .f32 lo cl) (hst : FV .f32 st ce) (ha : inB pl a = true) (hb : inB pl b = true) :
  Calls Tryz.prog 164 #[.pointer (some ⟨bb, 0, none⟩), .pointer (some ⟨xb, xo, none⟩)] w fun e w' => ∃ s t u g, e = .returned (.tuple #[vv s t u, .float .f32 g]) ∧ FV3 s t u (wayC cs a b) ∧ FV .f32 g (perC (wayC cs a b) cl ce) ∧ Below w.heap.size w w' := by
 obtain ⟨i, rfl, hi⟩ := inB_nat ha
 obtain ⟨j, rfl, hj⟩ := inB_nat hb
 have uf := Tryz.underlying27
 have ui := Tryz.underlying2
 have us := Tryz.underlying166
 have ub := Tryz.underlying44
 have um := Tryz.underlying40
 have uv := Tryz.underlying42
 have hm : pl ≤ 9223372036854775807 := by have h1 := h.2.1; have h2 := h.2.2.1; unfold maxLen at h2; omega
 obtain ⟨pb, po, rfl, hcell⟩ := h.some (by omega)
 obtain ⟨p, q, r, i0, i1, i2, fi⟩ := hcell i hi
 obtain ⟨p', q', r', j0, j1, j2, fj⟩ := hcell j hj
 have r0 : V3 (w.alloc (.cells #[.float .f32 0, .float .f32 0, .float .f32 0] 42)) w.heap.size 0 0 0 := V3.new
 have b0 : Below w.heap.size w (w.alloc (.cells #[.float .f32 0, .float .f32 0, .float .f32 0] 42)) := (Below.refl _ _).alloc (Nat.le_refl _) _
 have HK := Lib.hid (And.intro b0 (And.intro r0 (And.intro (cell_below b0 hbb) (And.intro (And.intro (cell_below b0 x0) (cell_below b0 x1)) (And.intro (And.intro (cell_below b0 j0) (And.intro (cell_below b0 j1) (cell_below b0 j2))) (And.intro (cell_below b0 i0) (And.intro (cell_below b0 i1) (cell_below b0 i2))))))))
 have X2 := Lib.hid x2
 have X3 := Lib.hid x3
 have hi0 : (0 : Int) ≤ (i : Int) := by omega
 have hi1 : (i : Int) < (pl : Int) := by omega
 have hj0 : (0 : Int) ≤ (j : Int) := by omega
 have hj1 : (j : Int) < (pl : Int) := by omega
 clear h hcell r0 b0 i0 i1 i2 j0 j1 j2 hbb x0 x1 x2 x3
 go_enter Tryz.func164, Tryz.ntmps164
 go_wp2_with fail
 generalize (w.alloc (.cells #[.float .f32 0, .float .f32 0, .float .f32 0] 42)) = W at *
 refine Reg3.wp_region_mix (C := fun w' => Below w.heap.size w w' ∧ V3 w' w.heap.size 0 0 0 ∧ w'.cell? ⟨bb, 0, none⟩ = some (.slice (some ⟨pb, po, none⟩) pl pc) ∧ (w'.cell? ⟨xb, xo, none⟩ = some (.int .i64 (i : Int)) ∧ w'.cell? ⟨xb, xo + 1, none⟩ = some (.int .i64 (j : Int))) ∧ (w'.cell? ⟨pb, po + j * 3, none⟩ = some (.float .f32 p') ∧ w'.cell? ⟨pb, po + j * 3 + 1, none⟩ = some (.float .f32 q') ∧ w'.cell? ⟨pb, po + j * 3 + 2, none⟩ = some (.float .f32 r')) ∧ w'.cell? ⟨pb, po + i * 3, none⟩ = some (.float .f32 p) ∧ w'.cell? ⟨pb, po + i * 3 + 1, none⟩ = some (.float .f32 q) ∧ w'.cell? ⟨pb, po + i * 3 + 2, none⟩ = some (.float .f32 r)) (G := fun w1 w2 => ∀ nb, (∃ s t u, V3 w1 nb s t u) → ∃ s t u, V3 w2 nb s t u)
  (R := fun k v w' => match k with | 0 => v = .pointer (some ⟨bb, 0, none⟩) | 1 => v = .pointer (some ⟨bb, 0, none⟩) | 2 => v = .pointer (some ⟨bb, 0, none⟩) | 3 => v = .pointer (some ⟨bb, 0, none⟩) | 4 => v = (.slice (some ⟨pb, po, none⟩) pl pc) | 5 => v = .pointer (some ⟨xb, xo, none⟩) | 6 => v = .pointer (some ⟨xb, xo, none⟩) | 7 => v = .pointer (some ⟨xb, xo + 1, none⟩) | 8 => v = .int .i64 (j : Int) | 9 => v = .pointer (some ⟨pb, po + j * 3, none⟩) | 10 => v = vv p' q' r' | 11 => v = .pointer (some ⟨bb, 0, none⟩) | 12 => v = .pointer (some ⟨bb, 0, none⟩) | 13 => v = .pointer (some ⟨bb, 0, none⟩) | 14 => v = .pointer (some ⟨bb, 0, none⟩) | 15 => v = (.slice (some ⟨pb, po, none⟩) pl pc) | 16 => v = .pointer (some ⟨xb, xo, none⟩) | 17 => v = .pointer (some ⟨xb, xo, none⟩) | 18 => v = .pointer (some ⟨xb, xo, none⟩) | 19 => v = .int .i64 (i : Int) | 20 => v = .pointer (some ⟨pb, po + i * 3, none⟩) | 21 => v = vv p q r | 22 => ∃ s t u, v = vv s t u ∧ FV3 s t u (lessC (cs.getD j c0) (cs.getD i c0)) | 23 => ∃ nb, v = .pointer (some ⟨nb, 0, none⟩) ∧ nb ≠ w.heap.size ∧ w.heap.size ≤ nb ∧ ∃ s t u, V3 w' nb s t u | _ => True)
  (T := fun _ a w' => ∃ nb s t u, a.tmps[6]?.getD undef = .pointer (some ⟨nb, 0, none⟩) ∧ V3 w' nb s t u ∧ FV3 s t u (lessC (cs.getD j c0) (cs.getD i c0)) ∧ Below w.heap.size w w' ∧ V3 w' w.heap.size 0 0 0 ∧ nb ≠ w.heap.size) [false, false, false, false, false, false, true, false, true, true, true, true, true, true, true, true, true, true, true, true, true, true, true, true, true, true, true, true, true, true, true, false, false, false, false, false, false, false, false, false, false, false, false, false, false, false, false]
  (by kernel_rfl) (by kernel_rfl) (by kernel_rfl) ?_ ⟨below_drewN HK.out.1 1, HK.out.2⟩ ?_ ?_
 ·intro k v w1 w2 _ hG hR
  match k with
  | 0 => exact hR
  | 1 => exact hR
  | 2 => exact hR
  | 3 => exact hR
  | 4 => exact hR
  | 5 => exact hR
  | 6 => exact hR
  | 7 => exact hR
  | 8 => exact hR
  | 9 => exact hR
  | 10 => exact hR
  | 11 => exact hR
  | 12 => exact hR
  | 13 => exact hR
  | 14 => exact hR
  | 15 => exact hR
  | 16 => exact hR
  | 17 => exact hR
  | 18 => exact hR
  | 19 => exact hR
  | 20 => exact hR
  | 21 => exact hR
  | 22 => exact hR
  | 23 => obtain ⟨nb, h1, h2, h3, h4⟩ := hR; exact ⟨nb, h1, h2, h3, hG nb h4⟩
  | _ + 24 => trivial
 ·refine ⟨Reg3.Obl.mk ?_, Reg3.Obl.mk ?_, Reg3.Obl.mk ?_, Reg3.Obl.mk ?_, Reg3.Obl.mk ?_, Reg3.Obl.mk ?_, Reg3.Obl.mk ?_, Reg3.Obl.mk ?_, Reg3.Obl.mk ?_, Reg3.Obl.mk ?_, Reg3.Obl.mk ?_, Reg3.Obl.mk ?_, Reg3.Obl.mk ?_, Reg3.Obl.mk ?_, Reg3.Obl.mk ?_, Reg3.Obl.mk ?_, Reg3.Obl.mk ?_, Reg3.Obl.mk ?_, Reg3.Obl.mk ?_, Reg3.Obl.mk ?_, Reg3.Obl.mk ?_, Reg3.Obl.mk ?_, Reg3.Obl.mk ?_, Reg3.Obl.mk ?_, Reg3.Obl.mk ?_, trivial⟩
  ·rintro a w1 HC hx hd K hK
   replace HC := Lib.hid HC
   have t0 : a.tmps[0]?.getD undef = .pointer (some ⟨bb, 0, none⟩) := Reg.slot_val (hx 0 (by kernel_rfl))
   go_simp
   exact hK _ _ (fun _ => rfl) (fun h => by cases h) (fun _ => HC.out) (fun _ h => h)
  ·rintro a w1 HC hx hd K hK
   replace HC := Lib.hid HC
   have t8 : a.tmps[8]?.getD undef = .pointer (some ⟨bb, 0, none⟩) := Reg.slot_val (hd 0 (by kernel_rfl) 8 rfl)
   go_simp
   exact hK _ _ (fun _ => rfl) (fun h => by cases h) (fun _ => HC.out) (fun _ h => h)
  ·rintro a w1 HC hx hd K hK
   replace HC := Lib.hid HC
   have t9 : a.tmps[9]?.getD undef = .pointer (some ⟨bb, 0, none⟩) := Reg.slot_val (hd 1 (by kernel_rfl) 9 rfl)
   go_simp
   exact hK _ _ (fun _ => rfl) (fun h => by cases h) (fun _ => HC.out) (fun _ h => h)
  ·rintro a w1 HC hx hd K hK
   replace HC := Lib.hid HC
   have t10 : a.tmps[10]?.getD undef = .pointer (some ⟨bb, 0, none⟩) := Reg.slot_val (hd 2 (by kernel_rfl) 10 rfl)
   go_simp
   exact hK _ _ (fun _ => rfl) (fun h => by cases h) (fun _ => HC.out) (fun _ h => h)
  ·rintro a w1 HC hx hd K hK
   replace HC := Lib.hid HC
   have y := HC.out.2.2.1
   have t11 : a.tmps[11]?.getD undef = .pointer (some ⟨bb, 0, none⟩) := Reg.slot_val (hd 3 (by kernel_rfl) 11 rfl)
   go_simp
   exact hK _ _ (fun _ => rfl) (fun h => by cases h) (fun _ => HC.out) (fun _ h => h)
  ·rintro a w1 HC hx hd K hK
   replace HC := Lib.hid HC
   have t1 : a.tmps[1]?.getD undef = .pointer (some ⟨xb, xo, none⟩) := Reg.slot_val (hx 1 (by kernel_rfl))
   go_simp
   exact hK _ _ (fun _ => rfl) (fun h => by cases h) (fun _ => HC.out) (fun _ h => h)
  ·rintro a w1 HC hx hd K hK
   replace HC := Lib.hid HC
   have t13 : a.tmps[13]?.getD undef = .pointer (some ⟨xb, xo, none⟩) := Reg.slot_val (hd 5 (by kernel_rfl) 13 rfl)
   go_simp
   exact hK _ _ (fun _ => rfl) (fun h => by cases h) (fun _ => HC.out) (fun _ h => h)
  ·rintro a w1 HC hx hd K hK
   replace HC := Lib.hid HC
   have t14 : a.tmps[14]?.getD undef = .pointer (some ⟨xb, xo, none⟩) := Reg.slot_val (hd 6 (by kernel_rfl) 14 rfl)
   go_simp
   exact hK _ _ (fun _ => rfl) (fun h => by cases h) (fun _ => HC.out) (fun _ h => h)
  ·rintro a w1 HC hx hd K hK
   replace HC := Lib.hid HC
   have y := HC.out.2.2.2.1.2
   have t15 : a.tmps[15]?.getD undef = .pointer (some ⟨xb, xo + 1, none⟩) := Reg.slot_val (hd 7 (by kernel_rfl) 15 rfl)
   go_simp
   exact hK _ _ (fun _ => rfl) (fun h => by cases h) (fun _ => HC.out) (fun _ h => h)
  ·rintro a w1 HC hx hd K hK
   replace HC := Lib.hid HC
   have t12 : a.tmps[12]?.getD undef = (.slice (some ⟨pb, po, none⟩) pl pc) := Reg.slot_val (hd 4 (by kernel_rfl) 12 rfl)
   have t16 : a.tmps[16]?.getD undef = .int .i64 (j : Int) := Reg.slot_val (hd 8 (by kernel_rfl) 16 rfl)
   go_simp
   exact hK _ _ (fun _ => rfl) (fun h => by cases h) (fun _ => HC.out) (fun _ h => h)
  ·rintro a w1 HC hx hd K hK
   replace HC := Lib.hid HC
   obtain ⟨y0, y1, y2⟩ := HC.out.2.2.2.2.1
   have t17 : a.tmps[17]?.getD undef = .pointer (some ⟨pb, po + j * 3, none⟩) := Reg.slot_val (hd 9 (by kernel_rfl) 17 rfl)
   go_simp
   exact hK _ _ (fun _ => rfl) (fun h => by cases h) (fun _ => HC.out) (fun _ h => h)
  ·rintro a w1 HC hx hd K hK
   replace HC := Lib.hid HC
   have t0 : a.tmps[0]?.getD undef = .pointer (some ⟨bb, 0, none⟩) := Reg.slot_val (hx 0 (by kernel_rfl))
   go_simp
   exact hK _ _ (fun _ => rfl) (fun h => by cases h) (fun _ => HC.out) (fun _ h => h)
  ·rintro a w1 HC hx hd K hK
   replace HC := Lib.hid HC
   have t19 : a.tmps[19]?.getD undef = .pointer (some ⟨bb, 0, none⟩) := Reg.slot_val (hd 11 (by kernel_rfl) 19 rfl)
   go_simp
   exact hK _ _ (fun _ => rfl) (fun h => by cases h) (fun _ => HC.out) (fun _ h => h)
  ·rintro a w1 HC hx hd K hK
   replace HC := Lib.hid HC
   have t20 : a.tmps[20]?.getD undef = .pointer (some ⟨bb, 0, none⟩) := Reg.slot_val (hd 12 (by kernel_rfl) 20 rfl)
   go_simp
   exact hK _ _ (fun _ => rfl) (fun h => by cases h) (fun _ => HC.out) (fun _ h => h)
  ·rintro a w1 HC hx hd K hK
   replace HC := Lib.hid HC
   have t21 : a.tmps[21]?.getD undef = .pointer (some ⟨bb, 0, none⟩) := Reg.slot_val (hd 13 (by kernel_rfl) 21 rfl)
   go_simp
   exact hK _ _ (fun _ => rfl) (fun h => by cases h) (fun _ => HC.out) (fun _ h => h)
  ·rintro a w1 HC hx hd K hK
   replace HC := Lib.hid HC
   have y := HC.out.2.2.1
   have t22 : a.tmps[22]?.getD undef = .pointer (some ⟨bb, 0, none⟩) := Reg.slot_val (hd 14 (by kernel_rfl) 22 rfl)
   go_simp
   exact hK _ _ (fun _ => rfl) (fun h => by cases h) (fun _ => HC.out) (fun _ h => h)
  ·rintro a w1 HC hx hd K hK
   replace HC := Lib.hid HC
   have t1 : a.tmps[1]?.getD undef = .pointer (some ⟨xb, xo, none⟩) := Reg.slot_val (hx 1 (by kernel_rfl))
   go_simp
   exact hK _ _ (fun _ => rfl) (fun h => by cases h) (fun _ => HC.out) (fun _ h => h)
  ·rintro a w1 HC hx hd K hK
   replace HC := Lib.hid HC
   have t24 : a.tmps[24]?.getD undef = .pointer (some ⟨xb, xo, none⟩) := Reg.slot_val (hd 16 (by kernel_rfl) 24 rfl)
   go_simp
   exact hK _ _ (fun _ => rfl) (fun h => by cases h) (fun _ => HC.out) (fun _ h => h)
  ·rintro a w1 HC hx hd K hK
   replace HC := Lib.hid HC
   have t25 : a.tmps[25]?.getD undef = .pointer (some ⟨xb, xo, none⟩) := Reg.slot_val (hd 17 (by kernel_rfl) 25 rfl)
   go_simp
   exact hK _ _ (fun _ => rfl) (fun h => by cases h) (fun _ => HC.out) (fun _ h => h)
  ·rintro a w1 HC hx hd K hK
   replace HC := Lib.hid HC
   have y := HC.out.2.2.2.1.1
   have t26 : a.tmps[26]?.getD undef = .pointer (some ⟨xb, xo, none⟩) := Reg.slot_val (hd 18 (by kernel_rfl) 26 rfl)
   go_simp
   exact hK _ _ (fun _ => rfl) (fun h => by cases h) (fun _ => HC.out) (fun _ h => h)
  ·rintro a w1 HC hx hd K hK
   replace HC := Lib.hid HC
   have t23 : a.tmps[23]?.getD undef = (.slice (some ⟨pb, po, none⟩) pl pc) := Reg.slot_val (hd 15 (by kernel_rfl) 23 rfl)
   have t27 : a.tmps[27]?.getD undef = .int .i64 (i : Int) := Reg.slot_val (hd 19 (by kernel_rfl) 27 rfl)
   go_simp
   exact hK _ _ (fun _ => rfl) (fun h => by cases h) (fun _ => HC.out) (fun _ h => h)
  ·rintro a w1 HC hx hd K hK
   replace HC := Lib.hid HC
   obtain ⟨y0, y1, y2⟩ := HC.out.2.2.2.2.2
   have t28 : a.tmps[28]?.getD undef = .pointer (some ⟨pb, po + i * 3, none⟩) := Reg.slot_val (hd 20 (by kernel_rfl) 28 rfl)
   go_simp
   exact hK _ _ (fun _ => rfl) (fun h => by cases h) (fun _ => HC.out) (fun _ h => h)
  ·rintro a w1 HC hx hd K hK
   replace HC := Lib.hid HC
   have t18 : a.tmps[18]?.getD undef = vv p' q' r' := Reg.slot_val (hd 10 (by kernel_rfl) 18 rfl)
   have t29 : a.tmps[29]?.getD undef = vv p q r := Reg.slot_val (hd 21 (by kernel_rfl) 29 rfl)
   go_simp
   refine (l01Less _ _ _ _ _ _ _ _ _ _ _ _ _ fj.1 fj.2.1 fj.2.2 fi.1 fi.2.1 fi.2.2).mono ?_
   rintro e w2 ⟨ax, ay, az, rfl, fx, fy, fz, hB1⟩
   obtain ⟨hB, hR, c0, ⟨c1, c2⟩, ⟨z0, z1, z2⟩, z3, z4, z5⟩ := HC.out
   exact hK _ _ (fun _ => ⟨ax, ay, az, rfl, fx, fy, fz⟩) (fun h => by cases h) (fun _ => ⟨hB.trans (hB1.mono hB.size), hR.below hB1, cell_below hB1 c0, ⟨cell_below hB1 c1, cell_below hB1 c2⟩, ⟨cell_below hB1 z0, cell_below hB1 z1, cell_below hB1 z2⟩, cell_below hB1 z3, cell_below hB1 z4, cell_below hB1 z5⟩) (fun nb ⟨s, t, u, h⟩ => ⟨s, t, u, h.below hB1⟩)
  ·rintro a w1 HC hx hd K hK
   replace HC := Lib.hid HC
   go_simp
   obtain ⟨hB, hR, c0, ⟨c1, c2⟩, ⟨z0, z1, z2⟩, z3, z4, z5⟩ := HC.out
   exact hK _ _ (fun _ => ⟨_, rfl, Nat.ne_of_gt (Nat.lt_of_lt_of_le hR.lt (Nat.le_refl _)), Nat.le_trans (Nat.le_refl _) hB.size, 0, 0, 0, V3.new⟩) (fun h => by cases h) (fun _ => ⟨below_new hB (Nat.le_refl _), hR.alloc, cell_alloc c0, ⟨cell_alloc c1, cell_alloc c2⟩, ⟨cell_alloc z0, cell_alloc z1, cell_alloc z2⟩, cell_alloc z3, cell_alloc z4, cell_alloc z5⟩) (fun nb ⟨s, t, u, h⟩ => ⟨s, t, u, h.alloc⟩)
  ·rintro a w1 HC hx hd K hK
   replace HC := Lib.hid HC
   obtain ⟨nb, gA, hne, hge, v0, v1, v2, hV⟩ := hd 23 (by kernel_rfl) 6 rfl
   have t6 := Reg.slot_val gA
   obtain ⟨s, t, u, g5, hG⟩ := hd 22 (by kernel_rfl) 30 rfl
   have t30 := Reg.slot_val g5
   clear g5 gA
   have HP := Lib.hid (hV.put (p := s) (q := t) (r := u))
   have HR := Lib.hid (HC.out.2.1.far (n := nb) (u := .float .f32 s) (v := .float .f32 t) (t := .float .f32 u) hne)
   have HB2 := Lib.hid (below_set3 (n := nb) (o1 := 0) (o2 := 1) (o3 := 2) (u := .float .f32 s) (v := .float .f32 t) (t := .float .f32 u) HC.out.1 hge)
   have HV := Lib.hid hV
   have hlt := hV.lt
   obtain ⟨⟨u0, u1, u2⟩, uf⟩ := hV
   have uf0 := uf 0
   have uf1 := uf 1
   have uf2 := uf 2
   have HG := Lib.hid hG
   have HNE := Lib.hid hne
   clear uf hG hne hge
   go_simp
   refine hK undef _ (fun h => absurd rfl h) (fun _ => ⟨nb, s, t, u, t6, HP.out, HG.out, HB2.out, HR.out, HNE.out⟩) (fun h => absurd rfl h) ?_
   rintro nb' ⟨s', t', u', h⟩
   by_cases hb : nb = nb'
   ·subst hb; exact ⟨s, t, u, HP.out⟩
   ·exact ⟨s', t', u', h.far hb⟩
 ·rintro f w1 hd hT
  obtain ⟨nb, s, t, u, h6, hV, hG, hB, hR, hne⟩ := hT 24 (by kernel_rfl) (by decide)
  have h6' : f 6 = .pointer (some ⟨nb, 0, none⟩) := h6
  simp only [Reg.mixL, h6']
  have X2' := Lib.hid (cell_below hB X2.out)
  have X3' := Lib.hid (cell_below hB X3.out)
  have HB := Lib.hid hB
  have HG := Lib.hid hG
  have HV := Lib.hid hV
  have HR := Lib.hid hR
  have HNE := Lib.hid hne
  obtain ⟨⟨v0, v1, v2⟩, -⟩ := hV
  clear hB hG hR hne hd hT h6 h6'
  go_wp2_with fail
  refine (l01Long _ _ _ _ _ _ _ HG.out.1 HG.out.2.1 HG.out.2.2).mono ?_
  rintro e w2 ⟨l, rfl, hl, hB2⟩
  have XLT : RowKit.Hid (xb < w.heap.size) := Lib.hid (World.block_lt_of_cell? _ _ X2.out)
  have HK2 := Lib.hid (And.intro (HB.out.trans (hB2.mono HB.out.size)) (And.intro (HV.out.below hB2) (And.intro (HR.out.below hB2) (And.intro (cell_below hB2 X2'.out) (cell_below hB2 X3'.out)))))
  clear hB2 v0 v1 v2
  go_wp2_with fail
  refine Reg2.wp_region_mix (C := fun w' => Below w.heap.size w w' ∧ V3 w' nb s t u ∧ (∃ a b c, V3 w' w.heap.size a b c) ∧ w'.cell? ⟨xb, xo + 2, none⟩ = some (.float .f32 lo) ∧ w'.cell? ⟨xb, xo + 3, none⟩ = some (.float .f32 st)) (G := fun w1 w2 => V3 w1 w.heap.size s t u → V3 w2 w.heap.size s t u)
   (R := fun k v w' => match k with | 0 => v = vv s t u | 1 => v = .pointer (some ⟨xb, xo, none⟩) | 2 => v = .pointer (some ⟨xb, xo, none⟩) | 3 => v = .pointer (some ⟨xb, xo + 3, none⟩) | 4 => v = .float .f32 st | 5 => v = .float .f32 l | 6 => v = .pointer (some ⟨xb, xo, none⟩) | 7 => v = .pointer (some ⟨xb, xo, none⟩) | 8 => v = .pointer (some ⟨xb, xo + 2, none⟩) | 9 => v = .float .f32 lo | 12 => v = .float .f32 l | 10 => isF (fop .sub .f32 (longC (lessC (cs.getD j c0) (cs.getD i c0))) cl) v | 11 => isF (fop .mul .f32 ce (fop .sub .f32 (longC (lessC (cs.getD j c0) (cs.getD i c0))) cl)) v | 13 => isF (gainC (fop .mul .f32 ce (fop .sub .f32 (longC (lessC (cs.getD j c0) (cs.getD i c0))) cl)) (longC (lessC (cs.getD j c0) (cs.getD i c0)))) v | 15 => isF (gainC (fop .mul .f32 ce (fop .sub .f32 (longC (lessC (cs.getD j c0) (cs.getD i c0))) cl)) (longC (lessC (cs.getD j c0) (cs.getD i c0)))) v | _ => True)
   (T := fun _ w' => V3 w' w.heap.size s t u) [false, false, false, false, false, true, false, false, false, false, false, false, false, false, false, false, false, false, false, false, false, false, false, false, false, false, false, false, false, false, false, false, false, true, true, true, true, true, true, true, true, true, true, true, true, true, true]
   (by kernel_rfl) (by kernel_rfl) (by kernel_rfl) (fun _ _ _ _ _ _ h => h) (fun _ _ _ _ hG hT => hG hT) ⟨below_drewN HK2.out.1 1, HK2.out.2.1, ⟨0, 0, 0, HK2.out.2.2.1⟩, HK2.out.2.2.2⟩ ?_ ?_
  ·refine ⟨Reg2.Obl.mk ?_, Reg2.Obl.mk ?_, Reg2.Obl.mk ?_, Reg2.Obl.mk ?_, Reg2.Obl.mk ?_, Reg2.Obl.mk ?_, Reg2.Obl.mk ?_, Reg2.Obl.mk ?_, Reg2.Obl.mk ?_, Reg2.Obl.mk ?_, Reg2.Obl.mk ?_, Reg2.Obl.mk ?_, Reg2.Obl.mk ?_, Reg2.Obl.mk ?_, Reg2.Obl.mk ?_, Reg2.Obl.mk ?_, trivial⟩
   ·rintro a w1 HC hx hd K hK
    replace HC := Lib.hid HC
    obtain ⟨⟨y0, y1, y2⟩, -⟩ := HC.out.2.1
    have t6 : a.tmps[6]?.getD undef = .pointer (some ⟨nb, 0, none⟩) := Reg.slot_val (hx 6 (by kernel_rfl))
    go_simp
    exact hK _ _ (fun _ => rfl) (fun h => by cases h) HC.out (fun h => h)
   ·rintro a w1 HC hx hd K hK
    replace HC := Lib.hid HC
    have t1 : a.tmps[1]?.getD undef = .pointer (some ⟨xb, xo, none⟩) := Reg.slot_val (hx 1 (by kernel_rfl))
    go_simp
    exact hK _ _ (fun _ => rfl) (fun h => by cases h) HC.out (fun h => h)
   ·rintro a w1 HC hx hd K hK
    replace HC := Lib.hid HC
    have t34 : a.tmps[34]?.getD undef = .pointer (some ⟨xb, xo, none⟩) := Reg.slot_val (hd 1 (by kernel_rfl) 34 rfl)
    go_simp
    exact hK _ _ (fun _ => rfl) (fun h => by cases h) HC.out (fun h => h)
   ·rintro a w1 HC hx hd K hK
    replace HC := Lib.hid HC
    have t35 : a.tmps[35]?.getD undef = .pointer (some ⟨xb, xo, none⟩) := Reg.slot_val (hd 2 (by kernel_rfl) 35 rfl)
    go_simp
    exact hK _ _ (fun _ => rfl) (fun h => by cases h) HC.out (fun h => h)
   ·rintro a w1 HC hx hd K hK
    replace HC := Lib.hid HC
    have y := HC.out.2.2.2.2
    have t36 : a.tmps[36]?.getD undef = .pointer (some ⟨xb, xo + 3, none⟩) := Reg.slot_val (hd 3 (by kernel_rfl) 36 rfl)
    go_simp
    exact hK _ _ (fun _ => rfl) (fun h => by cases h) HC.out (fun h => h)
   ·rintro a w1 HC hx hd K hK
    replace HC := Lib.hid HC
    have t7 : a.tmps[7]?.getD undef = .float .f32 l := Reg.slot_val (hx 7 (by kernel_rfl))
    go_simp
    exact hK _ _ (fun _ => rfl) (fun h => by cases h) HC.out (fun h => h)
   ·rintro a w1 HC hx hd K hK
    replace HC := Lib.hid HC
    have t1 : a.tmps[1]?.getD undef = .pointer (some ⟨xb, xo, none⟩) := Reg.slot_val (hx 1 (by kernel_rfl))
    go_simp
    exact hK _ _ (fun _ => rfl) (fun h => by cases h) HC.out (fun h => h)
   ·rintro a w1 HC hx hd K hK
    replace HC := Lib.hid HC
    have t39 : a.tmps[39]?.getD undef = .pointer (some ⟨xb, xo, none⟩) := Reg.slot_val (hd 6 (by kernel_rfl) 39 rfl)
    go_simp
    exact hK _ _ (fun _ => rfl) (fun h => by cases h) HC.out (fun h => h)
   ·rintro a w1 HC hx hd K hK
    replace HC := Lib.hid HC
    have t40 : a.tmps[40]?.getD undef = .pointer (some ⟨xb, xo, none⟩) := Reg.slot_val (hd 7 (by kernel_rfl) 40 rfl)
    go_simp
    exact hK _ _ (fun _ => rfl) (fun h => by cases h) HC.out (fun h => h)
   ·rintro a w1 HC hx hd K hK
    replace HC := Lib.hid HC
    have y := HC.out.2.2.2.1
    have t41 : a.tmps[41]?.getD undef = .pointer (some ⟨xb, xo + 2, none⟩) := Reg.slot_val (hd 8 (by kernel_rfl) 41 rfl)
    go_simp
    exact hK _ _ (fun _ => rfl) (fun h => by cases h) HC.out (fun h => h)
   ·rintro a w1 HC hx hd K hK
    replace HC := Lib.hid HC
    have t38 : a.tmps[38]?.getD undef = .float .f32 l := Reg.slot_val (hd 5 (by kernel_rfl) 38 rfl)
    have t42 : a.tmps[42]?.getD undef = .float .f32 lo := Reg.slot_val (hd 9 (by kernel_rfl) 42 rfl)
    go_simp
    exact hK _ _ (fun _ => ⟨_, rfl, FV_fR hl hlo⟩) (fun h => by cases h) ⟨below_drewN HC.out.1 _, HC.out.2⟩ (fun h => h)
   ·rintro a w1 HC hx hd K hK
    replace HC := Lib.hid HC
    have t37 : a.tmps[37]?.getD undef = .float .f32 st := Reg.slot_val (hd 4 (by kernel_rfl) 37 rfl)
    obtain ⟨r43, g43, f43⟩ := hd 10 (by kernel_rfl) 43 rfl
    have t43 := Reg.slot_val g43
    clear g43
    go_simp
    exact hK _ _ (fun _ => ⟨_, rfl, FV_fR hst f43⟩) (fun h => by cases h) ⟨below_drewN HC.out.1 _, HC.out.2⟩ (fun h => h)
   ·rintro a w1 HC hx hd K hK
    replace HC := Lib.hid HC
    have t7 : a.tmps[7]?.getD undef = .float .f32 l := Reg.slot_val (hx 7 (by kernel_rfl))
    go_simp
    exact hK _ _ (fun _ => rfl) (fun h => by cases h) HC.out (fun h => h)
   ·rintro a w1 HC hx hd K hK
    replace HC := Lib.hid HC
    have t45 : a.tmps[45]?.getD undef = .float .f32 l := Reg.slot_val (hd 12 (by kernel_rfl) 45 rfl)
    obtain ⟨r44, g44, f44⟩ := hd 11 (by kernel_rfl) 44 rfl
    have t44 := Reg.slot_val g44
    clear g44
    go_simp
    refine (l03Gain _ _ _ _ _ f44 hl).mono ?_
    rintro e w3 ⟨z, rfl, hz, n3, hw3⟩
    exact hK _ _ (fun _ => ⟨z, rfl, hz⟩) (fun h => by cases h) (by rw [hw3]; exact ⟨below_drewN HC.out.1 _, HC.out.2⟩) (by rw [hw3]; exact fun h => h)
   ·rintro a w1 HC hx hd K hK
    replace HC := Lib.hid HC
    have t4 : a.tmps[4]?.getD undef = .pointer (some ⟨w.heap.size, 0, none⟩) := Reg.slot_val (hx 4 (by kernel_rfl))
    have t33 : a.tmps[33]?.getD undef = vv s t u := Reg.slot_val (hd 0 (by kernel_rfl) 33 rfl)
    obtain ⟨hB, hV, ⟨r0, r1, r2, hR⟩, c2, c3⟩ := HC.out
    have HP := Lib.hid (hR.put (p := s) (q := t) (r := u))
    have HB2 := Lib.hid (below_set3 (n := w.heap.size) (o1 := 0) (o2 := 1) (o3 := 2) (u := .float .f32 s) (v := .float .f32 t) (t := .float .f32 u) hB (Nat.le_refl _))
    have HV2 := Lib.hid (hV.far (n := w.heap.size) (u := .float .f32 s) (v := .float .f32 t) (t := .float .f32 u) (Ne.symm HNE.out))
    have HC2 := Lib.hid (And.intro (cell_set (a := ⟨w.heap.size, 2, none⟩) (u := .float .f32 u) (Ne.symm (Nat.ne_of_lt XLT.out)) (cell_set (a := ⟨w.heap.size, 1, none⟩) (u := .float .f32 t) (Ne.symm (Nat.ne_of_lt XLT.out)) (cell_set (a := ⟨w.heap.size, 0, none⟩) (u := .float .f32 s) (Ne.symm (Nat.ne_of_lt XLT.out)) c2))) (cell_set (a := ⟨w.heap.size, 2, none⟩) (u := .float .f32 u) (Ne.symm (Nat.ne_of_lt XLT.out)) (cell_set (a := ⟨w.heap.size, 1, none⟩) (u := .float .f32 t) (Ne.symm (Nat.ne_of_lt XLT.out)) (cell_set (a := ⟨w.heap.size, 0, none⟩) (u := .float .f32 s) (Ne.symm (Nat.ne_of_lt XLT.out)) c3))))
    obtain ⟨⟨u0, u1, u2⟩, uf⟩ := hR
    have uf0 := uf 0
    have uf1 := uf 1
    have uf2 := uf 2
    clear uf hB hV c2 c3
    go_simp
    exact hK undef _ (fun h => absurd rfl h) (fun _ => HP.out) ⟨HB2.out, HV2.out, ⟨_, _, _, HP.out⟩, HC2.out⟩ (fun _ => HP.out)
   ·rintro a w1 HC hx hd K hK
    replace HC := Lib.hid HC
    obtain ⟨r46, g46, f46⟩ := hd 13 (by kernel_rfl) 46 rfl
    have t46 := Reg.slot_val g46
    clear g46
    go_simp
    exact hK _ _ (fun _ => ⟨_, rfl, f46⟩) (fun h => by cases h) HC.out (fun h => h)
  ·rintro f w3 hC hd hT
   have hV3 := hT 14 rfl (by decide)
   obtain ⟨g, h5, hg⟩ := hd 15 5 rfl
   simp only [Reg.mixL, h5]
   obtain ⟨⟨m0, m1, m2⟩, -⟩ := hV3
   have HB3 := Lib.hid hC.1
   clear hC hd hT
   go_wp2
   refine bodyPost_ret (v := .tuple #[vv s t u, .float .f32 g]) (by simp [results, Tryz.results164, go_sem, m0, m1, m2]) rfl ⟨s, t, u, g, rfl, HG.out, hg, HB3.out⟩
end Go.Proofs.YtabccmobmppdnaaGreat

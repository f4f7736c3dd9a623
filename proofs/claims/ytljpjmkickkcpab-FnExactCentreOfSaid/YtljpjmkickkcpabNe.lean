
/-
The sum of forces: what the program, its model and the law return. Conditions: none beyond that the list lies in memory.
-/
import Derived.Test.YtljpjmkickkcpabTo
import Derived.Test.YtljpjmkickkcpabMwE
namespace Go.Proofs.Ytljpjmkickkcpab
open Go Fk Go.RowKit
set_option linter.unusedVariables false
set_option maxRecDepth 8000

set_option maxHeartbeats 2000000 in
theorem l04Sum (a : Option Addr) (len cap : Nat) (cs : List C3) (w : World) (h : IsVs w a len cap cs) :
    Calls Try.prog 126 #[.slice a len cap] w fun e w' => ∃ x y z, e = .returned (vv x y z) ∧ FV3 x y z (totC cs) ∧ Below w.heap.size w w' := by
  have uv := Try.underlying39
  have hm : len ≤ 9223372036854775807 := by have h1 := h.2.1; have h2 := h.2.2.1; unfold maxLen at h2; omega
  have hzl := h.1
  have H := Lib.hid h
  have HZ := Lib.hid hzl
  clear h hzl
  go_enter Try.func126, Try.ntmps126
  go_wp2
  have r0 : V3 ((w.alloc (.cells #[.float .f32 0, .float .f32 0, .float .f32 0] 39)).alloc (.cells #[.float .f32 0, .float .f32 0, .float .f32 0] 39)) w.heap.size 0 0 0 := V3.new.alloc
  have t0 : V3 ((w.alloc (.cells #[.float .f32 0, .float .f32 0, .float .f32 0] 39)).alloc (.cells #[.float .f32 0, .float .f32 0, .float .f32 0] 39)) (w.heap.size + 1) 0 0 0 := by have := V3.new (w := w.alloc (.cells #[.float .f32 0, .float .f32 0, .float .f32 0] 39)) (x := 0) (y := 0) (z := 0) (t := 39); simpa using this
  have b0 : Below w.heap.size w ((w.alloc (.cells #[.float .f32 0, .float .f32 0, .float .f32 0] 39)).alloc (.cells #[.float .f32 0, .float .f32 0, .float .f32 0] 39)) := ((Below.refl _ _).alloc (Nat.le_refl _) _).alloc (by simp) _
  generalize ((w.alloc (.cells #[.float .f32 0, .float .f32 0, .float .f32 0] 39)).alloc (.cells #[.float .f32 0, .float .f32 0, .float .f32 0] 39)) = w0 at *
  have R0 := Lib.hid r0
  have T0 := Lib.hid t0
  have B0 := Lib.hid b0
  clear r0 t0 b0
  go_loopw [4] (fun i w' => ∃ k : Nat, k ≤ len ∧ i = .int .i64 k ∧ Aside (Below w.heap.size w w' ∧ V3 w' w.heap.size 0 0 0 ∧ ∃ x y z, V3 w' (w.heap.size + 1) x y z ∧ FV3 x y z (totC (cs.take k)))) (fun i _ => len - (intOf i).toNat)
  case atStart => exact ⟨0, Nat.zero_le _, rfl, B0.out, R0.out, 0, 0, 0, T0.out, FV3_zero⟩
  case round =>
    obtain ⟨k, hk, rfl, hA⟩ := hrel
    obtain ⟨hB, hR, x, y, z, hT, hF⟩ := hA.out
    clear hA
    by_cases hlt : k < len
    · obtain ⟨b, o, rfl, hcell⟩ := (H.out.below hB).some (by omega)
      obtain ⟨p, q, r, k0, k1, k2, f0, f1, f2⟩ := hcell k hlt
      have hsn := Lib.hid (totC_snoc cs k (by rw [HZ.out]; exact hlt))
      have hk0 : (0 : Int) ≤ (k : Int) := by omega
      have hk1 : (k : Int) < (len : Int) := by omega
      have HF := Lib.hid hF
      have HK := Lib.hid (And.intro hB (And.intro hR (And.intro hT (And.intro k0 (And.intro k1 k2)))))
      clear hcell hF hB hR hT k0 k1 k2
      go_wp2_with fail
      refine Reg3.wp_region_mix (C := fun w' => Below w.heap.size w w' ∧ V3 w' w.heap.size 0 0 0 ∧ V3 w' (w.heap.size + 1) x y z ∧ w'.cell? ⟨b, o + k * 3, none⟩ = some (.float .f32 p) ∧ w'.cell? ⟨b, o + k * 3 + 1, none⟩ = some (.float .f32 q) ∧ w'.cell? ⟨b, o + k * 3 + 2, none⟩ = some (.float .f32 r)) (G := fun _ _ => True)
        (R := fun i v _ => match i with | 0 => v = vv x y z | 1 => v = .slice (some ⟨b, o, none⟩) len cap | 2 => v = .int .i64 k | 3 => v = .pointer (some ⟨b, o + k * 3, none⟩) | 4 => v = vv p q r | 5 => ∃ s t u, v = vv s t u ∧ FV3 s t u (addC (totC (cs.take k)) (cs.getD k c0)) | _ => True)
        (T := fun _ _ w' => Below w.heap.size w w' ∧ V3 w' w.heap.size 0 0 0 ∧ ∃ s t u, V3 w' (w.heap.size + 1) s t u ∧ FV3 s t u (addC (totC (cs.take k)) (cs.getD k c0))) [false, false, false, false, false, false, false, false, false, false, false, false, true, true, true, true, true, true, false]
        (by kernel_rfl) (by kernel_rfl) (by kernel_rfl) (fun _ _ _ _ _ _ h => h) ⟨below_drewN HK.out.1 1, HK.out.2⟩ ?_ ?_
      · refine ⟨Reg3.Obl.mk ?_, Reg3.Obl.mk ?_, Reg3.Obl.mk ?_, Reg3.Obl.mk ?_, Reg3.Obl.mk ?_, Reg3.Obl.mk ?_, Reg3.Obl.mk ?_, trivial⟩
        · rintro a w1 ⟨hB, hR, ⟨⟨y0, y1, y2⟩, yf⟩, z0, z1, z2⟩ hx hd K hK
          have t3 : a.tmps[3]?.getD undef = .pointer (some ⟨w.heap.size + 1, 0, none⟩) := Reg.slot_val (hx 3 (by kernel_rfl))
          have HC := Lib.hid (And.intro hB (And.intro hR (And.intro (And.intro (And.intro y0 (And.intro y1 y2)) yf) (And.intro z0 (And.intro z1 z2)))))
          clear hB hR yf
          go_simp
          exact hK _ _ (fun _ => rfl) (fun h => by cases h) (fun _ => HC.out) trivial
        · rintro a w1 hC hx hd K hK
          have t0 : a.tmps[0]?.getD undef = .slice (some ⟨b, o, none⟩) len cap := Reg.slot_val (hx 0 (by kernel_rfl))
          go_simp
          exact hK _ _ (fun _ => rfl) (fun h => by cases h) (fun _ => hC) trivial
        · rintro a w1 hC hx hd K hK
          have t4 : a.tmps[4]?.getD undef = .int .i64 k := Reg.slot_val (hx 4 (by kernel_rfl))
          go_simp
          exact hK _ _ (fun _ => rfl) (fun h => by cases h) (fun _ => hC) trivial
        · rintro a w1 hC hx hd K hK
          have t13 : a.tmps[13]?.getD undef = .slice (some ⟨b, o, none⟩) len cap := Reg.slot_val (hd 1 (by kernel_rfl) 13 rfl)
          have t14 : a.tmps[14]?.getD undef = .int .i64 k := Reg.slot_val (hd 2 (by kernel_rfl) 14 rfl)
          have HC := Lib.hid hC
          clear hC
          go_simp
          exact hK _ _ (fun _ => rfl) (fun h => by cases h) (fun _ => HC.out) trivial
        · rintro a w1 ⟨hB, hR, hT, z0, z1, z2⟩ hx hd K hK
          have t15 : a.tmps[15]?.getD undef = .pointer (some ⟨b, o + k * 3, none⟩) := Reg.slot_val (hd 3 (by kernel_rfl) 15 rfl)
          have HC := Lib.hid (And.intro hB (And.intro hR (And.intro hT (And.intro z0 (And.intro z1 z2)))))
          clear hB hR hT
          go_simp
          exact hK _ _ (fun _ => rfl) (fun h => by cases h) (fun _ => HC.out) trivial
        · rintro a w1 ⟨hB, hR, hT, z0, z1, z2⟩ hx hd K hK
          have t12 : a.tmps[12]?.getD undef = vv x y z := Reg.slot_val (hd 0 (by kernel_rfl) 12 rfl)
          have t16 : a.tmps[16]?.getD undef = vv p q r := Reg.slot_val (hd 4 (by kernel_rfl) 16 rfl)
          have HC := Lib.hid (And.intro hB (And.intro hR (And.intro hT (And.intro z0 (And.intro z1 z2)))))
          clear hB hR hT
          go_simp
          refine (l01Add _ _ _ _ _ _ _ _ _ _ _ _ _ HF.out.1 HF.out.2.1 HF.out.2.2 f0 f1 f2).mono ?_
          rintro e w2 ⟨ax, ay, az, rfl, fx, fy, fz, hB1⟩
          obtain ⟨hB, hR, hT, z0, z1, z2⟩ := HC.out
          exact hK _ _ (fun _ => ⟨ax, ay, az, rfl, fx, fy, fz⟩) (fun h => by cases h) (fun _ => ⟨hB.trans (hB1.mono hB.size), hR.below hB1, hT.below hB1, cell_below hB1 z0, cell_below hB1 z1, cell_below hB1 z2⟩) trivial
        · rintro a w1 ⟨hB, hR, hT, z0, z1, z2⟩ hx hd K hK
          have t3 : a.tmps[3]?.getD undef = .pointer (some ⟨w.heap.size + 1, 0, none⟩) := Reg.slot_val (hx 3 (by kernel_rfl))
          obtain ⟨s, t, u, g5, hG⟩ := hd 5 (by kernel_rfl) 17 rfl
          have t17 := Reg.slot_val g5
          clear g5
          have HP := Lib.hid (And.intro (hT.put (p := s) (q := t) (r := u)) (hR.far (n := w.heap.size + 1) (u := .float .f32 s) (v := .float .f32 t) (t := .float .f32 u) (by omega)))
          have HB2 := Lib.hid (below_set3 (o1 := 0) (o2 := 1) (o3 := 2) (u := .float .f32 s) (v := .float .f32 t) (t := .float .f32 u) hB (Nat.le_succ _))
          obtain ⟨⟨u0, u1, u2⟩, uf⟩ := hT
          have uf0 := uf 0
          have uf1 := uf 1
          have uf2 := uf 2
          have HG := Lib.hid hG
          clear hB hR uf hG z0 z1 z2
          go_simp
          exact hK undef _ (fun h => absurd rfl h) (fun _ => ⟨HB2.out, HP.out.2, s, t, u, HP.out.1, HG.out⟩) (fun h => absurd rfl h) trivial
      · rintro f w1 hd hT
        obtain ⟨hB, hR, s, t, u, hV, hG⟩ := hT 6 (by kernel_rfl) (by decide)
        simp only [Reg.mixL]
        have HF2 : RowKit.Hid (FV3 s t u (totC (cs.take (k + 1)))) := Lib.hid (by rw [hsn.out]; exact hG)
        have HK2 := Lib.hid (And.intro hB (And.intro hR hV))
        clear hB hR hV hG hd hT
        go_wp2
        go_roundw
        case rel => exact ⟨k + 1, by omega, by go_num, HK2.out.1, HK2.out.2.1, s, t, u, HK2.out.2.2, HF2.out⟩
        case measure => simp [intOf]; omega
    · obtain rfl : k = len := by omega
      have hF' : FV3 x y z (totC cs) := by rwa [List.take_of_length_le (by rw [HZ.out]; omega)] at hF
      have hlt1 : w.heap.size + 1 < wr.heap.size := hT.lt
      have HP := Lib.hid (hR.put (p := x) (q := y) (r := z))
      obtain ⟨⟨t0, t1, t2⟩, tf⟩ := hT
      obtain ⟨⟨r0, r1, r2⟩, rf⟩ := hR
      have rf0 := rf 0
      have rf1 := rf 1
      have rf2 := rf 2
      have HB := Lib.hid hB
      have HF := Lib.hid hF'
      clear hB hF hF' tf rf
      go_wp2
      obtain ⟨⟨e0, e1, e2⟩, -⟩ := HP.out
      refine bodyPost_ret (v := vv x y z) (by simp [results, Try.results126, go_sem, e0, e1, e2]) rfl ⟨x, y, z, rfl, HF.out, below_set3 HB.out (Nat.le_refl _)⟩

def netC (n : Nat) (cs : List C3) : C3 := if n ≤ 64 then totC cs else z3
end Go.Proofs.Ytljpjmkickkcpab

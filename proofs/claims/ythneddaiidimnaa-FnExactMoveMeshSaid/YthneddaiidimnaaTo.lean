
/-
Sums of lists of vectors: what the program and its model return. Conditions: none.
-/
import Derived.Test.YthneddaiidimnaaMwD
import Derived.Test.YthneddaiidimnaaVecB
import Derived.Test.YthneddaiidimnaaReg3
namespace Go.Proofs.Ythneddaiidimnaa
open Go Fk Go.RowKit
set_option linter.unusedVariables false
set_option maxRecDepth 8000

def addC (a b : C3) : C3 := (fop .add .f32 a.1 b.1, fop .add .f32 a.2.1 b.2.1, fop .add .f32 a.2.2 b.2.2)
abbrev z3 : C3 := (some 0, some 0, some 0)
def totC (cs : List C3) : C3 := cs.foldl addC z3
theorem totC_snoc (cs : List C3) (k : Nat) (hk : k < cs.length) : totC (cs.take (k + 1)) = addC (totC (cs.take k)) (cs.getD k c0) := by
  rw [List.take_succ_eq_append_getElem hk]
  unfold totC
  rw [List.foldl_append]
  simp [List.getD, hk]
def FV3 (x y z : Nat) (c : C3) : Prop := FV .f32 x c.1 ∧ FV .f32 y c.2.1 ∧ FV .f32 z c.2.2
/-- A vector of one's own in memory. -/
def V3 (w : World) (b x y z : Nat) : Prop :=
  (w.cell? ⟨b, 0, none⟩ = some (.float .f32 x) ∧ w.cell? ⟨b, 1, none⟩ = some (.float .f32 y) ∧ w.cell? ⟨b, 2, none⟩ = some (.float .f32 z)) ∧ ∀ i, w.frozen? ⟨b, i, none⟩ = false
theorem V3.lt {w : World} {b x y z : Nat} (h : V3 w b x y z) : b < w.heap.size := World.block_lt_of_cell? w _ h.1.1
theorem V3.below {W w : World} {b x y z : Nat} (hb : Below W.heap.size W w) (h : V3 W b x y z) : V3 w b x y z :=
  ⟨⟨cell_below hb h.1.1, cell_below hb h.1.2.1, cell_below hb h.1.2.2⟩, fun i => frozen_below hb h.lt (h.2 i)⟩
theorem V3.drew {w : World} {n b x y z : Nat} (h : V3 w b x y z) : V3 (w.drewN n) b x y z := h
theorem V3.new {w : World} {x y z : Nat} {t : TypeId} : V3 (w.alloc (.cells #[.float .f32 x, .float .f32 y, .float .f32 z] t)) w.heap.size x y z := ⟨⟨new0, new1, new2⟩, fun i => newf⟩
theorem V3.alloc {w : World} {b x y z : Nat} {o : Obj} (h : V3 w b x y z) : V3 (w.alloc o) b x y z :=
  h.below ((Below.refl _ _).alloc (Nat.le_refl _) _)
theorem V3.put {w : World} {b x y z p q r : Nat} (h : V3 w b x y z) : V3 (((w.setCell ⟨b, 0, none⟩ (.float .f32 p)).setCell ⟨b, 1, none⟩ (.float .f32 q)).setCell ⟨b, 2, none⟩ (.float .f32 r)) b p q r := by
  obtain ⟨k0, k1, k2, _⟩ := set3k (u := .float .f32 p) (v := .float .f32 q) (t := .float .f32 r) (n := b) (o := 0) h.1.1 h.1.2.1 h.1.2.2
  exact ⟨⟨k0, k1, k2⟩, fun i => by simp; exact h.2 i⟩
theorem V3.far {w : World} {b x y z n : Nat} {u v t : Value} (h : V3 w b x y z) (hne : n ≠ b) : V3 (((w.setCell ⟨n, 0, none⟩ u).setCell ⟨n, 1, none⟩ v).setCell ⟨n, 2, none⟩ t) b x y z := by
  refine ⟨⟨?_, ?_, ?_⟩, fun i => by simp; exact h.2 i⟩
  · exact cell_set hne (cell_set hne (cell_set hne h.1.1))
  · exact cell_set hne (cell_set hne (cell_set hne h.1.2.1))
  · exact cell_set hne (cell_set hne (cell_set hne h.1.2.2))
def totB (n : Nat) (cs : List C3) : C3 := if n ≤ 256 then totC cs else z3
theorem FV3_zero : FV3 0 0 0 z3 := ⟨⟨by decide, by decide⟩, ⟨by decide, by decide⟩, ⟨by decide, by decide⟩⟩

set_option maxHeartbeats 1000000 in
theorem impl_TotalOf (a : Option Addr) (len cap : Nat) (cs : List C3) (w : World) (h : IsVs w a len cap cs) :
    Calls Try.prog 18 #[.slice a len cap] w fun e w' => ∃ x y z, e = .returned (.tuple #[vv x y z, .bool (decide (len ≤ 256))]) ∧ FV3 x y z (totB len cs) ∧ Below w.heap.size w w' := by
  have uv := Try.underlying26
  have hm : len ≤ 9223372036854775807 := by have h1 := h.2.1; have h2 := h.2.2.1; unfold maxLen at h2; omega
  have hzl := h.1
  have H := Lib.hid h
  have HZ := Lib.hid hzl
  clear h hzl
  by_cases hl : len ≤ 256
  · have HL := Lib.hid hl
    go_enter Try.func18, Try.ntmps18
    go_wp2
    have r0 : V3 ((w.alloc (.cells #[.float .f32 0, .float .f32 0, .float .f32 0] 26)).alloc (.cells #[.float .f32 0, .float .f32 0, .float .f32 0] 26)) w.heap.size 0 0 0 := V3.new.alloc
    have t0 : V3 ((w.alloc (.cells #[.float .f32 0, .float .f32 0, .float .f32 0] 26)).alloc (.cells #[.float .f32 0, .float .f32 0, .float .f32 0] 26)) (w.heap.size + 1) 0 0 0 := by have := V3.new (w := w.alloc (.cells #[.float .f32 0, .float .f32 0, .float .f32 0] 26)) (x := 0) (y := 0) (z := 0) (t := 26); simpa using this
    have b0 : Below w.heap.size w ((w.alloc (.cells #[.float .f32 0, .float .f32 0, .float .f32 0] 26)).alloc (.cells #[.float .f32 0, .float .f32 0, .float .f32 0] 26)) := ((Below.refl _ _).alloc (Nat.le_refl _) _).alloc (by simp) _
    generalize ((w.alloc (.cells #[.float .f32 0, .float .f32 0, .float .f32 0] 26)).alloc (.cells #[.float .f32 0, .float .f32 0, .float .f32 0] 26)) = w0 at *
    have R0 := Lib.hid r0
    have T0 := Lib.hid t0
    have B0 := Lib.hid b0
    clear r0 t0 b0
    go_loopw [13] (fun i w' => ∃ k : Nat, k ≤ len ∧ i = .int .i64 k ∧ Aside (Below w.heap.size w w' ∧ V3 w' w.heap.size 0 0 0 ∧ ∃ x y z, V3 w' (w.heap.size + 1) x y z ∧ FV3 x y z (totC (cs.take k)))) (fun i _ => len - (intOf i).toNat)
    case atStart => exact ⟨0, Nat.zero_le _, rfl, B0.out, R0.out, 0, 0, 0, T0.out, FV3_zero⟩
    case round =>
      obtain ⟨k, hk, rfl, hA⟩ := hrel
      obtain ⟨hB, hR, x, y, z, hT, hF⟩ := hA.out
      clear hA
      by_cases hlt : k < len
      · obtain ⟨b, o, rfl, hcell⟩ := (H.out.below hB).some (by omega)
        obtain ⟨p, q, r, k0, k1, k2, f0, f1, f2⟩ := hcell k hlt
        have hsn := Lib.hid (totC_snoc cs k (by rw [HZ.out]; exact hlt))
        have hlt1 : w.heap.size + 1 < wr.heap.size := hT.lt
        obtain ⟨⟨t0, t1, t2⟩, tf⟩ := hT
        have tf0 := tf 0
        have tf1 := tf 1
        have tf2 := tf 2
        have hk0 : (0 : Int) ≤ (k : Int) := by omega
        have hk1 : (k : Int) < (len : Int) := by omega
        have HB := Lib.hid hB
        have HR := Lib.hid hR
        have HF := Lib.hid hF
        have HT : RowKit.Hid (V3 wr (w.heap.size + 1) x y z) := Lib.hid ⟨⟨t0, t1, t2⟩, tf⟩
        clear hcell hB hR hF tf
        go_wp2_with fail
        refine (impl_AddVectors _ _ _ _ _ _ _ _ _ _ _ _ _ HF.out.1 HF.out.2.1 HF.out.2.2 f0 f1 f2).mono ?_
        rintro e w1 ⟨ax, ay, az, rfl, fx, fy, fz, hB1⟩
        have HT1 := HT.out.alloc.below hB1
        have HR1 := HR.out.alloc.below hB1
        have hB2 := (below_new HB.out (Nat.le_refl _)).trans (hB1.mono (below_new HB.out (Nat.le_refl _)).size)
        have hsn' := hsn.out
        have HP := Lib.hid (And.intro (HT1.put (p := ax) (q := ay) (r := az)) (HR1.far (n := w.heap.size + 1) (u := .float .f32 ax) (v := .float .f32 ay) (t := .float .f32 az) (by omega)))
        have HB2 := Lib.hid (below_set3 (o1 := 0) (o2 := 1) (o3 := 2) (u := .float .f32 ax) (v := .float .f32 ay) (t := .float .f32 az) hB2 (Nat.le_succ _))
        have HFF : RowKit.Hid (FV3 ax ay az (totC (cs.take (k + 1)))) := Lib.hid (by rw [hsn']; exact ⟨fx, fy, fz⟩)
        have hlt2 : w.heap.size + 1 < w1.heap.size := HT1.lt
        obtain ⟨⟨u0, u1, u2⟩, uf⟩ := HT1
        have uf0 := uf 0
        have uf1 := uf 1
        have uf2 := uf 2
        clear hB1 hB2 HR1 uf hsn' t0 t1 t2 tf0 tf1 tf2
        go_wp2
        go_roundw
        case rel => exact ⟨k + 1, by omega, by go_num, HB2.out, HP.out.2, ax, ay, az, HP.out.1, HFF.out⟩
        case measure => simp [intOf]; omega
      · obtain rfl : k = len := by omega
        have hF' : FV3 x y z (totB k cs) := by unfold totB; rw [if_pos HL.out]; rwa [List.take_of_length_le (by rw [HZ.out]; omega)] at hF
        have hlt1 : w.heap.size + 1 < wr.heap.size := hT.lt
        have HP := Lib.hid (hR.put (p := x) (q := y) (r := z))
        obtain ⟨⟨t0, t1, t2⟩, tf⟩ := hT
        obtain ⟨⟨r0, r1, r2⟩, rf⟩ := hR
        have rf0 := rf 0
        have rf1 := rf 1
        have rf2 := rf 2
        have HB := Lib.hid hB
        have HF := Lib.hid hF'
        clear hB hF hF' tf rf
        go_wp2
        obtain ⟨⟨e0, e1, e2⟩, -⟩ := HP.out
        refine bodyPost_ret (v := .tuple #[vv x y z, .bool true]) (by simp [results, Try.results18, go_sem, e0, e1, e2]) rfl ⟨x, y, z, by rw [decide_eq_true HL.out], HF.out, below_set3 HB.out (Nat.le_refl _)⟩
  · have HL := Lib.hid hl
    go_enter Try.func18, Try.ntmps18
    go_wp2
    refine bodyPost_ret (v := .tuple #[vv 0 0 0, .bool false]) (by simp [results, Try.results18, go_sem]) rfl ⟨0, 0, 0, by rw [decide_eq_false HL.out], by unfold totB; rw [if_neg HL.out]; exact FV3_zero, ?_⟩
    exact (Below.refl _ _).alloc (Nat.le_refl _) _
set_option maxHeartbeats 2000000 in
theorem spec_TotalOf (a : Option Addr) (len cap : Nat) (cs : List C3) (w : World) (h : IsVs w a len cap cs) :
    Calls Try.prog 16 #[.slice a len cap] w fun e w' => ∃ x y z, e = .returned (.tuple #[vv x y z, .bool (decide (len ≤ 256))]) ∧ FV3 x y z (totB len cs) ∧ Below w.heap.size w w' := by
  have uv := Try.underlying26
  have hm : len ≤ 9223372036854775807 := by have h1 := h.2.1; have h2 := h.2.2.1; unfold maxLen at h2; omega
  have hzl := h.1
  have H := Lib.hid h
  have HZ := Lib.hid hzl
  clear h hzl
  by_cases hl : len ≤ 256
  · have HL := Lib.hid hl
    go_enter Try.func16, Try.ntmps16
    go_wp2
    have r0 : V3 ((w.alloc (.cells #[.float .f32 0, .float .f32 0, .float .f32 0] 26)).alloc (.cells #[.float .f32 0, .float .f32 0, .float .f32 0] 26)) w.heap.size 0 0 0 := V3.new.alloc
    have t0 : V3 ((w.alloc (.cells #[.float .f32 0, .float .f32 0, .float .f32 0] 26)).alloc (.cells #[.float .f32 0, .float .f32 0, .float .f32 0] 26)) (w.heap.size + 1) 0 0 0 := by have := V3.new (w := w.alloc (.cells #[.float .f32 0, .float .f32 0, .float .f32 0] 26)) (x := 0) (y := 0) (z := 0) (t := 26); simpa using this
    have b0 : Below w.heap.size w ((w.alloc (.cells #[.float .f32 0, .float .f32 0, .float .f32 0] 26)).alloc (.cells #[.float .f32 0, .float .f32 0, .float .f32 0] 26)) := ((Below.refl _ _).alloc (Nat.le_refl _) _).alloc (by simp) _
    generalize ((w.alloc (.cells #[.float .f32 0, .float .f32 0, .float .f32 0] 26)).alloc (.cells #[.float .f32 0, .float .f32 0, .float .f32 0] 26)) = w0 at *
    have R0 := Lib.hid r0
    have T0 := Lib.hid t0
    have B0 := Lib.hid b0
    clear r0 t0 b0
    go_loopw [13] (fun i w' => ∃ k : Nat, k ≤ len ∧ i = .int .i64 k ∧ Aside (Below w.heap.size w w' ∧ V3 w' w.heap.size 0 0 0 ∧ ∃ x y z, V3 w' (w.heap.size + 1) x y z ∧ FV3 x y z (totC (cs.take k)))) (fun i _ => len - (intOf i).toNat)
    case atStart => exact ⟨0, Nat.zero_le _, rfl, B0.out, R0.out, 0, 0, 0, T0.out, FV3_zero⟩
    case round =>
      obtain ⟨k, hk, rfl, hA⟩ := hrel
      obtain ⟨hB, hR, x, y, z, hT, hF⟩ := hA.out
      clear hA
      by_cases hlt : k < len
      · obtain ⟨b, o, rfl, hcell⟩ := (H.out.below hB).some (by omega)
        obtain ⟨p, q, r, k0, k1, k2, f0, f1, f2⟩ := hcell k hlt
        have hsn := Lib.hid (totC_snoc cs k (by rw [HZ.out]; exact hlt))
        have hk0 : (0 : Int) ≤ (k : Int) := by omega
        have hk1 : (k : Int) < (len : Int) := by omega
        have HF := Lib.hid hF
        have HK := Lib.hid (And.intro hB (And.intro hR (And.intro hT (And.intro k0 (And.intro k1 k2)))))
        clear hcell hF hB hR hT k0 k1 k2
        go_wp2_with fail
        refine Reg3.wp_region_mix (C := fun w' => Below w.heap.size w w' ∧ V3 w' w.heap.size 0 0 0 ∧ V3 w' (w.heap.size + 1) x y z ∧ w'.cell? ⟨b, o + k * 3, none⟩ = some (.float .f32 p) ∧ w'.cell? ⟨b, o + k * 3 + 1, none⟩ = some (.float .f32 q) ∧ w'.cell? ⟨b, o + k * 3 + 2, none⟩ = some (.float .f32 r)) (G := fun _ _ => True)
          (R := fun i v _ => match i with | 0 => v = vv x y z | 1 => v = .slice (some ⟨b, o, none⟩) len cap | 2 => v = .int .i64 k | 3 => v = .pointer (some ⟨b, o + k * 3, none⟩) | 4 => v = vv p q r | 5 => ∃ s t u, v = vv s t u ∧ FV3 s t u (addC (totC (cs.take k)) (cs.getD k c0)) | _ => True)
          (T := fun _ _ w' => Below w.heap.size w w' ∧ V3 w' w.heap.size 0 0 0 ∧ ∃ s t u, V3 w' (w.heap.size + 1) s t u ∧ FV3 s t u (addC (totC (cs.take k)) (cs.getD k c0))) [false, false, false, false, false, false, false, false, false, false, false, false, false, false, false, false, true, true, true, true, true, true, false, false]
          (by kernel_rfl) (by kernel_rfl) (by kernel_rfl) (fun _ _ _ _ _ _ h => h) ⟨below_drewN HK.out.1 1, HK.out.2⟩ ?_ ?_
        · refine ⟨Reg3.Obl.mk ?_, Reg3.Obl.mk ?_, Reg3.Obl.mk ?_, Reg3.Obl.mk ?_, Reg3.Obl.mk ?_, Reg3.Obl.mk ?_, Reg3.Obl.mk ?_, trivial⟩
          · rintro a w1 ⟨hB, hR, ⟨⟨y0, y1, y2⟩, yf⟩, z0, z1, z2⟩ hx hd K hK
            have t4 : a.tmps[4]?.getD undef = .pointer (some ⟨w.heap.size + 1, 0, none⟩) := Reg.slot_val (hx 4 (by kernel_rfl))
            have HC := Lib.hid (And.intro hB (And.intro hR (And.intro (And.intro (And.intro y0 (And.intro y1 y2)) yf) (And.intro z0 (And.intro z1 z2)))))
            clear hB hR yf
            go_simp
            exact hK _ _ (fun _ => rfl) (fun h => by cases h) (fun _ => HC.out) trivial
          · rintro a w1 hC hx hd K hK
            have t0 : a.tmps[0]?.getD undef = .slice (some ⟨b, o, none⟩) len cap := Reg.slot_val (hx 0 (by kernel_rfl))
            go_simp
            exact hK _ _ (fun _ => rfl) (fun h => by cases h) (fun _ => hC) trivial
          · rintro a w1 hC hx hd K hK
            have t5 : a.tmps[5]?.getD undef = .int .i64 k := Reg.slot_val (hx 5 (by kernel_rfl))
            go_simp
            exact hK _ _ (fun _ => rfl) (fun h => by cases h) (fun _ => hC) trivial
          · rintro a w1 hC hx hd K hK
            have t17 : a.tmps[17]?.getD undef = .slice (some ⟨b, o, none⟩) len cap := Reg.slot_val (hd 1 (by kernel_rfl) 17 rfl)
            have t18 : a.tmps[18]?.getD undef = .int .i64 k := Reg.slot_val (hd 2 (by kernel_rfl) 18 rfl)
            have HC := Lib.hid hC
            clear hC
            go_simp
            exact hK _ _ (fun _ => rfl) (fun h => by cases h) (fun _ => HC.out) trivial
          · rintro a w1 ⟨hB, hR, hT, z0, z1, z2⟩ hx hd K hK
            have t19 : a.tmps[19]?.getD undef = .pointer (some ⟨b, o + k * 3, none⟩) := Reg.slot_val (hd 3 (by kernel_rfl) 19 rfl)
            have HC := Lib.hid (And.intro hB (And.intro hR (And.intro hT (And.intro z0 (And.intro z1 z2)))))
            clear hB hR hT
            go_simp
            exact hK _ _ (fun _ => rfl) (fun h => by cases h) (fun _ => HC.out) trivial
          · rintro a w1 ⟨hB, hR, hT, z0, z1, z2⟩ hx hd K hK
            have t16 : a.tmps[16]?.getD undef = vv x y z := Reg.slot_val (hd 0 (by kernel_rfl) 16 rfl)
            have t20 : a.tmps[20]?.getD undef = vv p q r := Reg.slot_val (hd 4 (by kernel_rfl) 20 rfl)
            have HC := Lib.hid (And.intro hB (And.intro hR (And.intro hT (And.intro z0 (And.intro z1 z2)))))
            clear hB hR hT
            go_simp
            refine (l01Add _ _ _ _ _ _ _ _ _ _ _ _ _ HF.out.1 HF.out.2.1 HF.out.2.2 f0 f1 f2).mono ?_
            rintro e w2 ⟨ax, ay, az, rfl, fx, fy, fz, hB1⟩
            obtain ⟨hB, hR, hT, z0, z1, z2⟩ := HC.out
            exact hK _ _ (fun _ => ⟨ax, ay, az, rfl, fx, fy, fz⟩) (fun h => by cases h) (fun _ => ⟨hB.trans (hB1.mono hB.size), hR.below hB1, hT.below hB1, cell_below hB1 z0, cell_below hB1 z1, cell_below hB1 z2⟩) trivial
          · rintro a w1 ⟨hB, hR, hT, z0, z1, z2⟩ hx hd K hK
            have t4 : a.tmps[4]?.getD undef = .pointer (some ⟨w.heap.size + 1, 0, none⟩) := Reg.slot_val (hx 4 (by kernel_rfl))
            obtain ⟨s, t, u, g5, hG⟩ := hd 5 (by kernel_rfl) 21 rfl
            have t21 := Reg.slot_val g5
            clear g5
            have HP := Lib.hid (And.intro (hT.put (p := s) (q := t) (r := u)) (hR.far (n := w.heap.size + 1) (u := .float .f32 s) (v := .float .f32 t) (t := .float .f32 u) (by omega)))
            have HB2 := Lib.hid (below_set3 (o1 := 0) (o2 := 1) (o3 := 2) (u := .float .f32 s) (v := .float .f32 t) (t := .float .f32 u) hB (Nat.le_succ _))
            obtain ⟨⟨u0, u1, u2⟩, uf⟩ := hT
            have uf0 := uf 0
            have uf1 := uf 1
            have uf2 := uf 2
            have HG := Lib.hid hG
            clear hB hR uf hG z0 z1 z2
            go_simp
            exact hK undef _ (fun h => absurd rfl h) (fun _ => ⟨HB2.out, HP.out.2, s, t, u, HP.out.1, HG.out⟩) (fun h => absurd rfl h) trivial
        · rintro f w1 hd hT
          obtain ⟨hB, hR, s, t, u, hV, hG⟩ := hT 6 (by kernel_rfl) (by decide)
          simp only [Reg.mixL]
          have HF2 : RowKit.Hid (FV3 s t u (totC (cs.take (k + 1)))) := Lib.hid (by rw [hsn.out]; exact hG)
          have HK2 := Lib.hid (And.intro hB (And.intro hR hV))
          clear hB hR hV hG hd hT
          go_wp2
          go_roundw
          case rel => exact ⟨k + 1, by omega, by go_num, HK2.out.1, HK2.out.2.1, s, t, u, HK2.out.2.2, HF2.out⟩
          case measure => simp [intOf]; omega
      · obtain rfl : k = len := by omega
        have hF' : FV3 x y z (totB k cs) := by unfold totB; rw [if_pos HL.out]; rwa [List.take_of_length_le (by rw [HZ.out]; omega)] at hF
        have hlt1 : w.heap.size + 1 < wr.heap.size := hT.lt
        have HP := Lib.hid (hR.put (p := x) (q := y) (r := z))
        obtain ⟨⟨t0, t1, t2⟩, tf⟩ := hT
        obtain ⟨⟨r0, r1, r2⟩, rf⟩ := hR
        have rf0 := rf 0
        have rf1 := rf 1
        have rf2 := rf 2
        have HB := Lib.hid hB
        have HF := Lib.hid hF'
        clear hB hF hF' tf rf
        go_wp2
        obtain ⟨⟨e0, e1, e2⟩, -⟩ := HP.out
        refine bodyPost_ret (v := .tuple #[vv x y z, .bool true]) (by simp [results, Try.results16, go_sem, e0, e1, e2]) rfl ⟨x, y, z, by rw [decide_eq_true HL.out], HF.out, below_set3 HB.out (Nat.le_refl _)⟩
  · have HL := Lib.hid hl
    go_enter Try.func16, Try.ntmps16
    go_wp2
    refine bodyPost_ret (v := .tuple #[vv 0 0 0, .bool false]) (by simp [results, Try.results16, go_sem]) rfl ⟨0, 0, 0, by rw [decide_eq_false HL.out], by unfold totB; rw [if_neg HL.out]; exact FV3_zero, ?_⟩
    exact (Below.refl _ _).alloc (Nat.le_refl _) _
end Go.Proofs.Ythneddaiidimnaa

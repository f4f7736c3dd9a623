
/-
The area of a mesh: what the model returns. Conditions: none.
-/
import Derived.Test.YtejgenjafajpnaaArD
import Derived.Test.YtejgenjafajpnaaNrD
namespace Go.Proofs.Ytejgenjafajpnaa
open Go Fk Go.RowKit
set_option linter.unusedVariables false
set_option maxRecDepth 8000

theorem sumArea_snoc (cs : List C3) (ts : List (List Int)) (k : Nat) (hk : k < ts.length) : sumArea cs (ts.take (k + 1)) = fop .add .f32 (sumArea cs (ts.take k)) (areaC cs (ts.getD k [])) := by
  rw [List.take_succ_eq_append_getElem hk]
  unfold sumArea
  rw [List.foldl_append]
  simp [List.getD, hk]
set_option maxHeartbeats 400000 in
theorem l02Area (pb : Nat) (pa ta : Option Addr) (pl pc tl tc : Nat) (cs : List C3) (ts : List (List Int)) (w : World) (c0' : w.cell? ⟨pb, 0, none⟩ = some (.slice pa pl pc)) (c1' : w.cell? ⟨pb, 1, none⟩ = some (.slice ta tl tc)) (hp : IsVs w pa pl pc cs) (ht : IsTs w ta tl tc ts) (hv : validB cs ts = true) :
    Calls Try.prog 89 #[.pointer (some ⟨pb, 0, none⟩)] w fun e w' => ∃ r, e = .returned (.float .f32 r) ∧ FV .f32 r (sumArea cs ts) ∧ Below w.heap.size w w' := by
  have ui := Try.underlying40
  have u := Try.underlying22
  have hlen : tl ≤ 128 := by have := valid_len hv; have := ht.1; omega
  have htl := ht.1
  have HP := Lib.hid hp
  have HT := Lib.hid ht
  have HV := Lib.hid hv
  have HTL := Lib.hid htl
  have C0 := Lib.hid c0'
  have C1 := Lib.hid c1'
  clear hp ht hv htl
  go_enter Try.func89, Try.ntmps89
  go_wp2
  go_loopw [3, 4] (fun s i w' => ∃ k : Nat, k ≤ tl ∧ i = .int .i64 k ∧ (∃ r, s = .float .f32 r ∧ FV .f32 r (sumArea cs (ts.take k))) ∧ Aside (Below w.heap.size w w')) (fun _ i _ => tl - (intOf i).toNat)
  case atStart => exact ⟨0, Nat.zero_le _, rfl, ⟨0, rfl, FV_zero⟩, Below.refl _ _⟩
  case round =>
    obtain ⟨k, hk, rfl, ⟨r, rfl, hr⟩, hA⟩ := hrel
    have kb0 := cell_below hA.out C0.out
    have kb1 := cell_below hA.out C1.out
    clear c0' c1'
    have HA := Lib.hid hA.out
    clear hA
    by_cases hlt : k < tl
    · have hsn := Lib.hid (sumArea_snoc cs ts k (by rw [HTL.out]; exact hlt))
      have HN := Lib.hid (l02Normal pb pa ta pl pc tl tc cs ts k wr kb0 kb1 (HP.out.below HA.out) (HT.out.below HA.out) HV.out hlt)
      have hk0 : (0 : Int) ≤ (k : Int) := by omega
      have hk1 : (k : Int) < (tl : Int) := by omega
      go_wp2_with (first
        | (go_at_call 69; refine HN.out.mono ?_; rintro e w1 ⟨x, y, z, rfl, hx, hy, hz, hB1⟩)
        | (go_at_call 95; refine (l01Long _ _ _ _ _ _ _ hx hy hz).mono ?_; rintro e w2 ⟨q, rfl, hq, hB2⟩; have HB2 := Lib.hid (HA.out.trans ((hB1.trans (hB2.mono hB1.size)).mono HA.out.size)); clear hB1 hB2))
      go_roundw
      case rel => exact ⟨k + 1, by omega, by go_num, ⟨_, rfl, by rw [hsn.out]; exact FV_fR hr (FV_fR half_FV hq)⟩, below_drewN HB2.out _⟩
      case measure => simp [intOf]; omega
    · have hkt : ts.take k = ts := List.take_of_length_le (by rw [HTL.out]; omega)
      rw [hkt] at hr
      go_wp2
      go_ret
      exact ⟨_, rfl, hr, HA.out⟩
theorem spec_AreaOf_all (pa ta : Option Addr) (pl pc tl tc : Nat) (cs : List C3) (ts : List (List Int)) (w : World) (hp : IsVs w pa pl pc cs) (ht : IsTs w ta tl tc ts) :
    Calls Try.prog 35 #[.agg #[.slice pa pl pc, .slice ta tl tc]] w fun e w' => ∃ r, e = .returned (.tuple #[.float .f32 r, .bool (validB cs ts)]) ∧ FV .f32 r (bif validB cs ts then sumArea cs ts else some 0) ∧ Below w.heap.size w w' := by
  have ui := Try.underlying40
  have u := Try.underlying22
  have hB0 : Below w.heap.size w (w.alloc (.cells #[.slice pa pl pc, .slice ta tl tc] 40)) := (Below.refl _ _).alloc (Nat.le_refl _) _
  have kb1 : (w.alloc (.cells #[.slice pa pl pc, .slice ta tl tc] 40)).cell? ⟨w.heap.size, 1, none⟩ = some (.slice ta tl tc) := by go_simp
  have kb0 : (w.alloc (.cells #[.slice pa pl pc, .slice ta tl tc] 40)).cell? ⟨w.heap.size, 0, none⟩ = some (.slice pa pl pc) := by go_simp
  have hJ := l02IsB w.heap.size pa ta pl pc tl tc cs ts _ kb0 kb1 (hp.below hB0) (ht.below hB0)
  have HP := Lib.hid hp
  have HT := Lib.hid ht
  clear hp ht
  cases hv : validB cs ts
  · rw [hv] at hJ
    have HJ := Lib.hid hJ
    have HB0 := Lib.hid hB0
    clear hJ hv hB0
    go_enter Try.func35, Try.ntmps35
    go_wp2_with (go_at_call 67; refine HJ.out.mono ?_; rintro e w1 ⟨rfl, hB1⟩; have HB := Lib.hid (HB0.out.trans (hB1.mono HB0.out.size)); clear hB1)
    go_ret2
    exact ⟨_, rfl, FV_zero, HB.out⟩
  · rw [hv] at hJ
    have HJ := Lib.hid hJ
    have HB0 := Lib.hid hB0
    have HV := Lib.hid hv
    clear hJ hv hB0
    generalize hCH : (w.alloc (.cells #[.slice pa pl pc, .slice ta tl tc] 40)) = W at *
    go_enter Try.func35, Try.ntmps35
    go_wp2_with (first
      | (go_at_call 67; refine HJ.out.mono ?_; rintro e w1 ⟨rfl, hB1⟩; replace kb0 := cell_below hB1 kb0; replace kb1 := cell_below hB1 kb1; have HB := Lib.hid (HB0.out.trans (hB1.mono HB0.out.size)); clear hB1 HJ)
      | (go_at_call 89; refine (l02Area w.heap.size pa ta pl pc tl tc cs ts _ kb0 kb1 (HP.out.below HB.out) (HT.out.below HB.out) HV.out).mono ?_; rintro e w2 ⟨r, rfl, hr, hB2⟩; have HB2 := Lib.hid (HB.out.trans (hB2.mono HB.out.size)); clear hB2))
    go_ret2
    exact ⟨_, rfl, hr, HB2.out⟩
theorem impl_AreaOf_all (pa ta : Option Addr) (pl pc tl tc : Nat) (cs : List C3) (ts : List (List Int)) (w : World) (hp : IsVs w pa pl pc cs) (ht : IsTs w ta tl tc ts) :
    Calls Try.prog 36 #[.agg #[.slice pa pl pc, .slice ta tl tc]] w fun e w' => ∃ r, e = .returned (.tuple #[.float .f32 r, .bool (validB cs ts)]) ∧ FV .f32 r (bif validB cs ts then sumArea cs ts else some 0) ∧ Below w.heap.size w w' := by
  cases hv : validB cs ts
  · exact (impl_AreaOf_no pa ta pl pc tl tc cs ts w hp ht hv).mono fun _ _ ⟨he, hb⟩ => ⟨0, he, FV_zero, hb⟩
  · exact impl_AreaOf_yes pa ta pl pc tl tc cs ts w hp ht hv
end Go.Proofs.Ytejgenjafajpnaa


/-
Boxes: what the model returns. Conditions: none.
-/
import Derived.Test.YtljpjmkickkcpabBxA
import Derived.BigFrame
import Derived.WalkKit
namespace Go.Proofs.Ytljpjmkickkcpab
open Go Fk Go.RowKit
set_option linter.unusedVariables false
set_option maxRecDepth 16000
set_option maxHeartbeats 4000000 in
theorem spec_BoxMesh_in (z : Nat) (d : Option Nat) (w : World) (hz : FV .f32 z d) (hs : sizeB z = true) :
    Calls Try.prog 33 #[.float .f32 z] w fun e w' => Made w w' e true (boxCs d) boxTs := by
  have um := Try.underlying32
  have uv := Try.underlying39
  have u := Try.underlying27
  have ui := Try.underlying2
  obtain ⟨i0, hi, hz0, hz1, hz2⟩ := info_parts infoV
  have J3 := Lib.hid (fun w => hs ▸ l02Size z w hz.1)
  have HZ := Lib.hid hz
  clear hz hs
  go_enter Try.func33, Try.ntmps33
  go_wp2_with fail
  refine (J3.out _).mono ?_
  rintro e w1 ⟨rfl, n, hw⟩
  rw [hw]; clear hw w1
  clear J3
  go_wp2
  have hD : LD w (w.heap.size + 1) w.heap.size (.slice none 0 0) (.slice none 0 0) 0 [] (((w.alloc (.cells #[.slice none 0 0, .slice none 0 0] 32)).alloc (.cells #[.slice none 0 0, .slice none 0 0] 32)).drewN n) := by
    refine ⟨below_drewN (((Below.refl _ _).alloc (Nat.le_refl _) _).alloc (by simp) _) n, ?_, ?_, World.ownsRow_nil _ _ _ _⟩
    · have := World.ownsRow_lit (base := w.heap.size) (e := 32) (size := 2) (w.alloc (.cells #[.slice none 0 0, .slice none 0 0] 32)) #[.slice none 0 0, .slice none 0 0] 1 (by simp) (by decide) rfl
      simp only [World.size_alloc] at this
      exact this
    · exact (World.ownsRow_lit (base := w.heap.size) (e := 32) (size := 2) w #[.slice none 0 0, .slice none 0 0] 1 (Nat.le_refl _) (by decide) rfl).alloc _
  have HD := Lib.hid hD
  clear hD
  generalize (((w.alloc (.cells #[.slice none 0 0, .slice none 0 0] 32)).alloc (.cells #[.slice none 0 0, .slice none 0 0] 32)).drewN n) = W at *
  have HXZ := Lib.hid (show w.heap.size + 1 ≠ w.heap.size by omega)
  generalize w.heap.size + 1 = X at *
  go_loopw [5] (fun i w' => ∃ k : Nat, k ≤ 8 ∧ i = .int .i64 k ∧ Aside (∃ va xs, LD w X w.heap.size va (.slice none 0 0) k xs w' ∧ PVf k xs (boxC d))) (fun i _ => 8 - (intOf i).toNat)
  case atStart => exact ⟨0, Nat.zero_le _, rfl, .slice none 0 0, [], HD.out, fun j hj => absurd hj (by omega)⟩
  case round =>
    obtain ⟨k, hk, rfl, hA⟩ := hrel
    obtain ⟨va, xs, hD, hpv⟩ := hA.out
    have HD := Lib.hid hD
    have HP := Lib.hid hpv
    clear hA hD hpv
    have : k = 0 ∨ k = 1 ∨ k = 2 ∨ k = 3 ∨ k = 4 ∨ k = 5 ∨ k = 6 ∨ k = 7 ∨ k = 8 := by omega
    rcases this with rfl | rfl | rfl | rfl | rfl | rfl | rfl | rfl | rfl
    · have hbz := HD.out.1.size
      have hB1 : Below wr.heap.size wr ((wr.alloc (.cells #[.float .f32 0, .float .f32 0, .float .f32 0] 39)).alloc (.cells #[.float .f32 0, .float .f32 0, .float .f32 0] 39)) := ((Below.refl _ _).alloc (Nat.le_refl _) _).alloc (by simp) _
      have HD2 := Lib.hid (HD.out.up hB1)
      have k0 := (HD.out.up ((Below.refl wr.heap.size wr).alloc (Nat.le_refl _) (.cells #[.float .f32 0, .float .f32 0, .float .f32 0] 39))).cell0
      clear hB1
      go_wp2_with (at_builtin; go_loud (refine wpList_append_own _ rfl _ _ 30 rfl w.heap.size 39 i0 (.agg #[.float .f32 0, .float .f32 0, .float .f32 0]) 3 12 Try.underlying30 hi hz0 hz1 hz2 rfl (by decide) _ _ _ rfl HD2.out.2.2.2 ⟨wr.heap.size + 1, 0, none⟩ 1 1 [.float .f32 0, .float .f32 0, .float .f32 0] rfl rfl ?c1 ?c2 ?c3 ?c4 ?c5 ?_))
      case c1 =>
        intro j u hj
        match j, hj with
        | 0, hj => simp at hj; subst hj; simp [Addr.add]
        | 1, hj => simp at hj; subst hj; simp [Addr.add]
        | 2, hj => simp at hj; subst hj; simp [Addr.add]
        | j + 3, hj => simp at hj
      case c2 => first | exact ⟨rfl, rfl, rfl⟩ | (intro u hu; simp at hu; rcases hu with rfl | rfl | rfl <;> rfl) | (intro u hu; simp at hu; rcases hu with rfl | rfl <;> rfl) | (intro u hu; simp at hu; subst hu; rfl)
      case c3 => unfold maxLen; omega
      case c4 => omega
      case c5 => first | omega | (simp; omega)
      · intro v' w1 hown' hgrow hnil
        have HD3 := Lib.hid (HD2.out.put0 HXZ.out hgrow hown')
        have kx := cell0_of (owns_side HD2.out.2.1 HD2.out.2.2.2 (by decide) hgrow)
        have fx := (owns_side HD2.out.2.1 HD2.out.2.2.2 (by decide) hgrow).frozenAt 0
        obtain ⟨qa, qc, rfl⟩ := owns_slice hown'
        clear hown' hgrow hnil HD2
        go_wp2
        go_roundw
        case rel => exact ⟨1, by omega, by first | rfl | go_num, _, _, HD3.out, HP.out.snoc (k := 0) HD.out.2.2.2.1 ⟨fv00, fv00, fv00⟩⟩
        case measure => simp [intOf]
    · have hbz := HD.out.1.size
      have hB1 : Below wr.heap.size wr ((wr.alloc (.cells #[.float .f32 z, .float .f32 0, .float .f32 0] 39)).alloc (.cells #[.float .f32 z, .float .f32 0, .float .f32 0] 39)) := ((Below.refl _ _).alloc (Nat.le_refl _) _).alloc (by simp) _
      have HD2 := Lib.hid (HD.out.up hB1)
      have k0 := (HD.out.up ((Below.refl wr.heap.size wr).alloc (Nat.le_refl _) (.cells #[.float .f32 z, .float .f32 0, .float .f32 0] 39))).cell0
      clear hB1
      go_wp2_with (at_builtin; go_loud (refine wpList_append_own _ rfl _ _ 30 rfl w.heap.size 39 i0 (.agg #[.float .f32 0, .float .f32 0, .float .f32 0]) 3 12 Try.underlying30 hi hz0 hz1 hz2 rfl (by decide) _ _ _ rfl HD2.out.2.2.2 ⟨wr.heap.size + 1, 0, none⟩ 1 1 [.float .f32 z, .float .f32 0, .float .f32 0] rfl rfl ?c1 ?c2 ?c3 ?c4 ?c5 ?_))
      case c1 =>
        intro j u hj
        match j, hj with
        | 0, hj => simp at hj; subst hj; simp [Addr.add]
        | 1, hj => simp at hj; subst hj; simp [Addr.add]
        | 2, hj => simp at hj; subst hj; simp [Addr.add]
        | j + 3, hj => simp at hj
      case c2 => first | exact ⟨rfl, rfl, rfl⟩ | (intro u hu; simp at hu; rcases hu with rfl | rfl | rfl <;> rfl) | (intro u hu; simp at hu; rcases hu with rfl | rfl <;> rfl) | (intro u hu; simp at hu; subst hu; rfl)
      case c3 => unfold maxLen; omega
      case c4 => omega
      case c5 => first | omega | (simp; omega)
      · intro v' w1 hown' hgrow hnil
        have HD3 := Lib.hid (HD2.out.put0 HXZ.out hgrow hown')
        have kx := cell0_of (owns_side HD2.out.2.1 HD2.out.2.2.2 (by decide) hgrow)
        have fx := (owns_side HD2.out.2.1 HD2.out.2.2.2 (by decide) hgrow).frozenAt 0
        obtain ⟨qa, qc, rfl⟩ := owns_slice hown'
        clear hown' hgrow hnil HD2
        go_wp2
        go_roundw
        case rel => exact ⟨2, by omega, by first | rfl | go_num, _, _, HD3.out, HP.out.snoc (k := 1) HD.out.2.2.2.1 ⟨HZ.out, fv00, fv00⟩⟩
        case measure => simp [intOf]
    · have hbz := HD.out.1.size
      have hB1 : Below wr.heap.size wr ((wr.alloc (.cells #[.float .f32 0, .float .f32 z, .float .f32 0] 39)).alloc (.cells #[.float .f32 0, .float .f32 z, .float .f32 0] 39)) := ((Below.refl _ _).alloc (Nat.le_refl _) _).alloc (by simp) _
      have HD2 := Lib.hid (HD.out.up hB1)
      have k0 := (HD.out.up ((Below.refl wr.heap.size wr).alloc (Nat.le_refl _) (.cells #[.float .f32 0, .float .f32 z, .float .f32 0] 39))).cell0
      clear hB1
      go_wp2_with (at_builtin; go_loud (refine wpList_append_own _ rfl _ _ 30 rfl w.heap.size 39 i0 (.agg #[.float .f32 0, .float .f32 0, .float .f32 0]) 3 12 Try.underlying30 hi hz0 hz1 hz2 rfl (by decide) _ _ _ rfl HD2.out.2.2.2 ⟨wr.heap.size + 1, 0, none⟩ 1 1 [.float .f32 0, .float .f32 z, .float .f32 0] rfl rfl ?c1 ?c2 ?c3 ?c4 ?c5 ?_))
      case c1 =>
        intro j u hj
        match j, hj with
        | 0, hj => simp at hj; subst hj; simp [Addr.add]
        | 1, hj => simp at hj; subst hj; simp [Addr.add]
        | 2, hj => simp at hj; subst hj; simp [Addr.add]
        | j + 3, hj => simp at hj
      case c2 => first | exact ⟨rfl, rfl, rfl⟩ | (intro u hu; simp at hu; rcases hu with rfl | rfl | rfl <;> rfl) | (intro u hu; simp at hu; rcases hu with rfl | rfl <;> rfl) | (intro u hu; simp at hu; subst hu; rfl)
      case c3 => unfold maxLen; omega
      case c4 => omega
      case c5 => first | omega | (simp; omega)
      · intro v' w1 hown' hgrow hnil
        have HD3 := Lib.hid (HD2.out.put0 HXZ.out hgrow hown')
        have kx := cell0_of (owns_side HD2.out.2.1 HD2.out.2.2.2 (by decide) hgrow)
        have fx := (owns_side HD2.out.2.1 HD2.out.2.2.2 (by decide) hgrow).frozenAt 0
        obtain ⟨qa, qc, rfl⟩ := owns_slice hown'
        clear hown' hgrow hnil HD2
        go_wp2
        go_roundw
        case rel => exact ⟨3, by omega, by first | rfl | go_num, _, _, HD3.out, HP.out.snoc (k := 2) HD.out.2.2.2.1 ⟨fv00, HZ.out, fv00⟩⟩
        case measure => simp [intOf]
    · have hbz := HD.out.1.size
      have hB1 : Below wr.heap.size wr ((wr.alloc (.cells #[.float .f32 z, .float .f32 z, .float .f32 0] 39)).alloc (.cells #[.float .f32 z, .float .f32 z, .float .f32 0] 39)) := ((Below.refl _ _).alloc (Nat.le_refl _) _).alloc (by simp) _
      have HD2 := Lib.hid (HD.out.up hB1)
      have k0 := (HD.out.up ((Below.refl wr.heap.size wr).alloc (Nat.le_refl _) (.cells #[.float .f32 z, .float .f32 z, .float .f32 0] 39))).cell0
      clear hB1
      go_wp2_with (at_builtin; go_loud (refine wpList_append_own _ rfl _ _ 30 rfl w.heap.size 39 i0 (.agg #[.float .f32 0, .float .f32 0, .float .f32 0]) 3 12 Try.underlying30 hi hz0 hz1 hz2 rfl (by decide) _ _ _ rfl HD2.out.2.2.2 ⟨wr.heap.size + 1, 0, none⟩ 1 1 [.float .f32 z, .float .f32 z, .float .f32 0] rfl rfl ?c1 ?c2 ?c3 ?c4 ?c5 ?_))
      case c1 =>
        intro j u hj
        match j, hj with
        | 0, hj => simp at hj; subst hj; simp [Addr.add]
        | 1, hj => simp at hj; subst hj; simp [Addr.add]
        | 2, hj => simp at hj; subst hj; simp [Addr.add]
        | j + 3, hj => simp at hj
      case c2 => first | exact ⟨rfl, rfl, rfl⟩ | (intro u hu; simp at hu; rcases hu with rfl | rfl | rfl <;> rfl) | (intro u hu; simp at hu; rcases hu with rfl | rfl <;> rfl) | (intro u hu; simp at hu; subst hu; rfl)
      case c3 => unfold maxLen; omega
      case c4 => omega
      case c5 => first | omega | (simp; omega)
      · intro v' w1 hown' hgrow hnil
        have HD3 := Lib.hid (HD2.out.put0 HXZ.out hgrow hown')
        have kx := cell0_of (owns_side HD2.out.2.1 HD2.out.2.2.2 (by decide) hgrow)
        have fx := (owns_side HD2.out.2.1 HD2.out.2.2.2 (by decide) hgrow).frozenAt 0
        obtain ⟨qa, qc, rfl⟩ := owns_slice hown'
        clear hown' hgrow hnil HD2
        go_wp2
        go_roundw
        case rel => exact ⟨4, by omega, by first | rfl | go_num, _, _, HD3.out, HP.out.snoc (k := 3) HD.out.2.2.2.1 ⟨HZ.out, HZ.out, fv00⟩⟩
        case measure => simp [intOf]
    · have hbz := HD.out.1.size
      have hB1 : Below wr.heap.size wr ((wr.alloc (.cells #[.float .f32 0, .float .f32 0, .float .f32 z] 39)).alloc (.cells #[.float .f32 0, .float .f32 0, .float .f32 z] 39)) := ((Below.refl _ _).alloc (Nat.le_refl _) _).alloc (by simp) _
      have HD2 := Lib.hid (HD.out.up hB1)
      have k0 := (HD.out.up ((Below.refl wr.heap.size wr).alloc (Nat.le_refl _) (.cells #[.float .f32 0, .float .f32 0, .float .f32 z] 39))).cell0
      clear hB1
      go_wp2_with (at_builtin; go_loud (refine wpList_append_own _ rfl _ _ 30 rfl w.heap.size 39 i0 (.agg #[.float .f32 0, .float .f32 0, .float .f32 0]) 3 12 Try.underlying30 hi hz0 hz1 hz2 rfl (by decide) _ _ _ rfl HD2.out.2.2.2 ⟨wr.heap.size + 1, 0, none⟩ 1 1 [.float .f32 0, .float .f32 0, .float .f32 z] rfl rfl ?c1 ?c2 ?c3 ?c4 ?c5 ?_))
      case c1 =>
        intro j u hj
        match j, hj with
        | 0, hj => simp at hj; subst hj; simp [Addr.add]
        | 1, hj => simp at hj; subst hj; simp [Addr.add]
        | 2, hj => simp at hj; subst hj; simp [Addr.add]
        | j + 3, hj => simp at hj
      case c2 => first | exact ⟨rfl, rfl, rfl⟩ | (intro u hu; simp at hu; rcases hu with rfl | rfl | rfl <;> rfl) | (intro u hu; simp at hu; rcases hu with rfl | rfl <;> rfl) | (intro u hu; simp at hu; subst hu; rfl)
      case c3 => unfold maxLen; omega
      case c4 => omega
      case c5 => first | omega | (simp; omega)
      · intro v' w1 hown' hgrow hnil
        have HD3 := Lib.hid (HD2.out.put0 HXZ.out hgrow hown')
        have kx := cell0_of (owns_side HD2.out.2.1 HD2.out.2.2.2 (by decide) hgrow)
        have fx := (owns_side HD2.out.2.1 HD2.out.2.2.2 (by decide) hgrow).frozenAt 0
        obtain ⟨qa, qc, rfl⟩ := owns_slice hown'
        clear hown' hgrow hnil HD2
        go_wp2
        go_roundw
        case rel => exact ⟨5, by omega, by first | rfl | go_num, _, _, HD3.out, HP.out.snoc (k := 4) HD.out.2.2.2.1 ⟨fv00, fv00, HZ.out⟩⟩
        case measure => simp [intOf]
    · have hbz := HD.out.1.size
      have hB1 : Below wr.heap.size wr ((wr.alloc (.cells #[.float .f32 z, .float .f32 0, .float .f32 z] 39)).alloc (.cells #[.float .f32 z, .float .f32 0, .float .f32 z] 39)) := ((Below.refl _ _).alloc (Nat.le_refl _) _).alloc (by simp) _
      have HD2 := Lib.hid (HD.out.up hB1)
      have k0 := (HD.out.up ((Below.refl wr.heap.size wr).alloc (Nat.le_refl _) (.cells #[.float .f32 z, .float .f32 0, .float .f32 z] 39))).cell0
      clear hB1
      go_wp2_with (at_builtin; go_loud (refine wpList_append_own _ rfl _ _ 30 rfl w.heap.size 39 i0 (.agg #[.float .f32 0, .float .f32 0, .float .f32 0]) 3 12 Try.underlying30 hi hz0 hz1 hz2 rfl (by decide) _ _ _ rfl HD2.out.2.2.2 ⟨wr.heap.size + 1, 0, none⟩ 1 1 [.float .f32 z, .float .f32 0, .float .f32 z] rfl rfl ?c1 ?c2 ?c3 ?c4 ?c5 ?_))
      case c1 =>
        intro j u hj
        match j, hj with
        | 0, hj => simp at hj; subst hj; simp [Addr.add]
        | 1, hj => simp at hj; subst hj; simp [Addr.add]
        | 2, hj => simp at hj; subst hj; simp [Addr.add]
        | j + 3, hj => simp at hj
      case c2 => first | exact ⟨rfl, rfl, rfl⟩ | (intro u hu; simp at hu; rcases hu with rfl | rfl | rfl <;> rfl) | (intro u hu; simp at hu; rcases hu with rfl | rfl <;> rfl) | (intro u hu; simp at hu; subst hu; rfl)
      case c3 => unfold maxLen; omega
      case c4 => omega
      case c5 => first | omega | (simp; omega)
      · intro v' w1 hown' hgrow hnil
        have HD3 := Lib.hid (HD2.out.put0 HXZ.out hgrow hown')
        have kx := cell0_of (owns_side HD2.out.2.1 HD2.out.2.2.2 (by decide) hgrow)
        have fx := (owns_side HD2.out.2.1 HD2.out.2.2.2 (by decide) hgrow).frozenAt 0
        obtain ⟨qa, qc, rfl⟩ := owns_slice hown'
        clear hown' hgrow hnil HD2
        go_wp2
        go_roundw
        case rel => exact ⟨6, by omega, by first | rfl | go_num, _, _, HD3.out, HP.out.snoc (k := 5) HD.out.2.2.2.1 ⟨HZ.out, fv00, HZ.out⟩⟩
        case measure => simp [intOf]
    · have hbz := HD.out.1.size
      have hB1 : Below wr.heap.size wr ((wr.alloc (.cells #[.float .f32 0, .float .f32 z, .float .f32 z] 39)).alloc (.cells #[.float .f32 0, .float .f32 z, .float .f32 z] 39)) := ((Below.refl _ _).alloc (Nat.le_refl _) _).alloc (by simp) _
      have HD2 := Lib.hid (HD.out.up hB1)
      have k0 := (HD.out.up ((Below.refl wr.heap.size wr).alloc (Nat.le_refl _) (.cells #[.float .f32 0, .float .f32 z, .float .f32 z] 39))).cell0
      clear hB1
      go_wp2_with (at_builtin; go_loud (refine wpList_append_own _ rfl _ _ 30 rfl w.heap.size 39 i0 (.agg #[.float .f32 0, .float .f32 0, .float .f32 0]) 3 12 Try.underlying30 hi hz0 hz1 hz2 rfl (by decide) _ _ _ rfl HD2.out.2.2.2 ⟨wr.heap.size + 1, 0, none⟩ 1 1 [.float .f32 0, .float .f32 z, .float .f32 z] rfl rfl ?c1 ?c2 ?c3 ?c4 ?c5 ?_))
      case c1 =>
        intro j u hj
        match j, hj with
        | 0, hj => simp at hj; subst hj; simp [Addr.add]
        | 1, hj => simp at hj; subst hj; simp [Addr.add]
        | 2, hj => simp at hj; subst hj; simp [Addr.add]
        | j + 3, hj => simp at hj
      case c2 => first | exact ⟨rfl, rfl, rfl⟩ | (intro u hu; simp at hu; rcases hu with rfl | rfl | rfl <;> rfl) | (intro u hu; simp at hu; rcases hu with rfl | rfl <;> rfl) | (intro u hu; simp at hu; subst hu; rfl)
      case c3 => unfold maxLen; omega
      case c4 => omega
      case c5 => first | omega | (simp; omega)
      · intro v' w1 hown' hgrow hnil
        have HD3 := Lib.hid (HD2.out.put0 HXZ.out hgrow hown')
        have kx := cell0_of (owns_side HD2.out.2.1 HD2.out.2.2.2 (by decide) hgrow)
        have fx := (owns_side HD2.out.2.1 HD2.out.2.2.2 (by decide) hgrow).frozenAt 0
        obtain ⟨qa, qc, rfl⟩ := owns_slice hown'
        clear hown' hgrow hnil HD2
        go_wp2
        go_roundw
        case rel => exact ⟨7, by omega, by first | rfl | go_num, _, _, HD3.out, HP.out.snoc (k := 6) HD.out.2.2.2.1 ⟨fv00, HZ.out, HZ.out⟩⟩
        case measure => simp [intOf]
    · have hbz := HD.out.1.size
      have hB1 : Below wr.heap.size wr ((wr.alloc (.cells #[.float .f32 z, .float .f32 z, .float .f32 z] 39)).alloc (.cells #[.float .f32 z, .float .f32 z, .float .f32 z] 39)) := ((Below.refl _ _).alloc (Nat.le_refl _) _).alloc (by simp) _
      have HD2 := Lib.hid (HD.out.up hB1)
      have k0 := (HD.out.up ((Below.refl wr.heap.size wr).alloc (Nat.le_refl _) (.cells #[.float .f32 z, .float .f32 z, .float .f32 z] 39))).cell0
      clear hB1
      go_wp2_with (at_builtin; go_loud (refine wpList_append_own _ rfl _ _ 30 rfl w.heap.size 39 i0 (.agg #[.float .f32 0, .float .f32 0, .float .f32 0]) 3 12 Try.underlying30 hi hz0 hz1 hz2 rfl (by decide) _ _ _ rfl HD2.out.2.2.2 ⟨wr.heap.size + 1, 0, none⟩ 1 1 [.float .f32 z, .float .f32 z, .float .f32 z] rfl rfl ?c1 ?c2 ?c3 ?c4 ?c5 ?_))
      case c1 =>
        intro j u hj
        match j, hj with
        | 0, hj => simp at hj; subst hj; simp [Addr.add]
        | 1, hj => simp at hj; subst hj; simp [Addr.add]
        | 2, hj => simp at hj; subst hj; simp [Addr.add]
        | j + 3, hj => simp at hj
      case c2 => first | exact ⟨rfl, rfl, rfl⟩ | (intro u hu; simp at hu; rcases hu with rfl | rfl | rfl <;> rfl) | (intro u hu; simp at hu; rcases hu with rfl | rfl <;> rfl) | (intro u hu; simp at hu; subst hu; rfl)
      case c3 => unfold maxLen; omega
      case c4 => omega
      case c5 => first | omega | (simp; omega)
      · intro v' w1 hown' hgrow hnil
        have HD3 := Lib.hid (HD2.out.put0 HXZ.out hgrow hown')
        have kx := cell0_of (owns_side HD2.out.2.1 HD2.out.2.2.2 (by decide) hgrow)
        have fx := (owns_side HD2.out.2.1 HD2.out.2.2.2 (by decide) hgrow).frozenAt 0
        obtain ⟨qa, qc, rfl⟩ := owns_slice hown'
        clear hown' hgrow hnil HD2
        go_wp2
        go_roundw
        case rel => exact ⟨8, by omega, by first | rfl | go_num, _, _, HD3.out, HP.out.snoc (k := 7) HD.out.2.2.2.1 ⟨HZ.out, HZ.out, HZ.out⟩⟩
        case measure => simp [intOf]
    · obtain ⟨qa, qc, rfl⟩ := owns_slice HD.out.2.2.2
      have hbz0 := HD.out.1.size
      have HB0 := Lib.hid (Below.refl wr.heap.size wr)
      iterate 24 (first | go_values | go_skip | go_guarded | go_step | go_upon | go_in | go_back | (simp only [Int.not_lt, Int.not_le] at *; go_simp) | (go_values <;> (try go_simp)) | (go_ite <;> go_prune <;> (try go_simp)) | (split <;> (first | (rename_i hx; exact (hx _ rfl).elim) | go_prune)))
      have R0 := Lib.hid (World.ownsRow_lit (base := w.heap.size) (e := 2) (size := 1) wr #[.int .i64 0, .int .i64 2, .int .i64 3] 3 hbz0 (by decide) rfl)
      have S0 := Lib.hid ((Below.refl wr.heap.size wr).alloc (Nat.le_refl _) (.cells #[.int .i64 0, .int .i64 2, .int .i64 3] 2))
      have HB1 := Lib.hid (HB0.out.alloc HB0.out.size (.cells #[.int .i64 0, .int .i64 2, .int .i64 3] 2))
      have hbz1 : w.heap.size ≤ (wr.alloc (.cells #[.int .i64 0, .int .i64 2, .int .i64 3] 2)).heap.size := Nat.le_trans hbz0 S0.out.size
      generalize (wr.alloc (.cells #[.int .i64 0, .int .i64 2, .int .i64 3] 2)) = W1 at *
      generalize (some ⟨wr.heap.size, 0, none⟩ : Option Addr) = a0 at *
      iterate 3 (first | go_values | go_skip | go_guarded | go_step | go_upon | go_in | go_back | (simp only [Int.not_lt, Int.not_le] at *; go_simp) | (go_values <;> (try go_simp)) | (go_ite <;> go_prune <;> (try go_simp)) | (split <;> (first | (rename_i hx; exact (hx _ rfl).elim) | go_prune)))
      have R1 := Lib.hid (World.ownsRow_lit (base := w.heap.size) (e := 2) (size := 1) W1 #[.int .i64 0, .int .i64 3, .int .i64 1] 3 hbz1 (by decide) rfl)
      have S1 := Lib.hid ((Below.refl W1.heap.size W1).alloc (Nat.le_refl _) (.cells #[.int .i64 0, .int .i64 3, .int .i64 1] 2))
      have HB2 := Lib.hid (HB1.out.alloc HB1.out.size (.cells #[.int .i64 0, .int .i64 3, .int .i64 1] 2))
      have hbz2 : w.heap.size ≤ (W1.alloc (.cells #[.int .i64 0, .int .i64 3, .int .i64 1] 2)).heap.size := Nat.le_trans hbz1 S1.out.size
      generalize (W1.alloc (.cells #[.int .i64 0, .int .i64 3, .int .i64 1] 2)) = W2 at *
      generalize (some ⟨W1.heap.size, 0, none⟩ : Option Addr) = a1 at *
      iterate 3 (first | go_values | go_skip | go_guarded | go_step | go_upon | go_in | go_back | (simp only [Int.not_lt, Int.not_le] at *; go_simp) | (go_values <;> (try go_simp)) | (go_ite <;> go_prune <;> (try go_simp)) | (split <;> (first | (rename_i hx; exact (hx _ rfl).elim) | go_prune)))
      have R2 := Lib.hid (World.ownsRow_lit (base := w.heap.size) (e := 2) (size := 1) W2 #[.int .i64 4, .int .i64 5, .int .i64 7] 3 hbz2 (by decide) rfl)
      have S2 := Lib.hid ((Below.refl W2.heap.size W2).alloc (Nat.le_refl _) (.cells #[.int .i64 4, .int .i64 5, .int .i64 7] 2))
      have HB3 := Lib.hid (HB2.out.alloc HB2.out.size (.cells #[.int .i64 4, .int .i64 5, .int .i64 7] 2))
      have hbz3 : w.heap.size ≤ (W2.alloc (.cells #[.int .i64 4, .int .i64 5, .int .i64 7] 2)).heap.size := Nat.le_trans hbz2 S2.out.size
      generalize (W2.alloc (.cells #[.int .i64 4, .int .i64 5, .int .i64 7] 2)) = W3 at *
      generalize (some ⟨W2.heap.size, 0, none⟩ : Option Addr) = a2 at *
      iterate 3 (first | go_values | go_skip | go_guarded | go_step | go_upon | go_in | go_back | (simp only [Int.not_lt, Int.not_le] at *; go_simp) | (go_values <;> (try go_simp)) | (go_ite <;> go_prune <;> (try go_simp)) | (split <;> (first | (rename_i hx; exact (hx _ rfl).elim) | go_prune)))
      have R3 := Lib.hid (World.ownsRow_lit (base := w.heap.size) (e := 2) (size := 1) W3 #[.int .i64 4, .int .i64 7, .int .i64 6] 3 hbz3 (by decide) rfl)
      have S3 := Lib.hid ((Below.refl W3.heap.size W3).alloc (Nat.le_refl _) (.cells #[.int .i64 4, .int .i64 7, .int .i64 6] 2))
      have HB4 := Lib.hid (HB3.out.alloc HB3.out.size (.cells #[.int .i64 4, .int .i64 7, .int .i64 6] 2))
      have hbz4 : w.heap.size ≤ (W3.alloc (.cells #[.int .i64 4, .int .i64 7, .int .i64 6] 2)).heap.size := Nat.le_trans hbz3 S3.out.size
      generalize (W3.alloc (.cells #[.int .i64 4, .int .i64 7, .int .i64 6] 2)) = W4 at *
      generalize (some ⟨W3.heap.size, 0, none⟩ : Option Addr) = a3 at *
      iterate 3 (first | go_values | go_skip | go_guarded | go_step | go_upon | go_in | go_back | (simp only [Int.not_lt, Int.not_le] at *; go_simp) | (go_values <;> (try go_simp)) | (go_ite <;> go_prune <;> (try go_simp)) | (split <;> (first | (rename_i hx; exact (hx _ rfl).elim) | go_prune)))
      have R4 := Lib.hid (World.ownsRow_lit (base := w.heap.size) (e := 2) (size := 1) W4 #[.int .i64 0, .int .i64 1, .int .i64 5] 3 hbz4 (by decide) rfl)
      have S4 := Lib.hid ((Below.refl W4.heap.size W4).alloc (Nat.le_refl _) (.cells #[.int .i64 0, .int .i64 1, .int .i64 5] 2))
      have HB5 := Lib.hid (HB4.out.alloc HB4.out.size (.cells #[.int .i64 0, .int .i64 1, .int .i64 5] 2))
      have hbz5 : w.heap.size ≤ (W4.alloc (.cells #[.int .i64 0, .int .i64 1, .int .i64 5] 2)).heap.size := Nat.le_trans hbz4 S4.out.size
      generalize (W4.alloc (.cells #[.int .i64 0, .int .i64 1, .int .i64 5] 2)) = W5 at *
      generalize (some ⟨W4.heap.size, 0, none⟩ : Option Addr) = a4 at *
      iterate 3 (first | go_values | go_skip | go_guarded | go_step | go_upon | go_in | go_back | (simp only [Int.not_lt, Int.not_le] at *; go_simp) | (go_values <;> (try go_simp)) | (go_ite <;> go_prune <;> (try go_simp)) | (split <;> (first | (rename_i hx; exact (hx _ rfl).elim) | go_prune)))
      have R5 := Lib.hid (World.ownsRow_lit (base := w.heap.size) (e := 2) (size := 1) W5 #[.int .i64 0, .int .i64 5, .int .i64 4] 3 hbz5 (by decide) rfl)
      have S5 := Lib.hid ((Below.refl W5.heap.size W5).alloc (Nat.le_refl _) (.cells #[.int .i64 0, .int .i64 5, .int .i64 4] 2))
      have HB6 := Lib.hid (HB5.out.alloc HB5.out.size (.cells #[.int .i64 0, .int .i64 5, .int .i64 4] 2))
      have hbz6 : w.heap.size ≤ (W5.alloc (.cells #[.int .i64 0, .int .i64 5, .int .i64 4] 2)).heap.size := Nat.le_trans hbz5 S5.out.size
      generalize (W5.alloc (.cells #[.int .i64 0, .int .i64 5, .int .i64 4] 2)) = W6 at *
      generalize (some ⟨W5.heap.size, 0, none⟩ : Option Addr) = a5 at *
      iterate 3 (first | go_values | go_skip | go_guarded | go_step | go_upon | go_in | go_back | (simp only [Int.not_lt, Int.not_le] at *; go_simp) | (go_values <;> (try go_simp)) | (go_ite <;> go_prune <;> (try go_simp)) | (split <;> (first | (rename_i hx; exact (hx _ rfl).elim) | go_prune)))
      have R6 := Lib.hid (World.ownsRow_lit (base := w.heap.size) (e := 2) (size := 1) W6 #[.int .i64 2, .int .i64 6, .int .i64 7] 3 hbz6 (by decide) rfl)
      have S6 := Lib.hid ((Below.refl W6.heap.size W6).alloc (Nat.le_refl _) (.cells #[.int .i64 2, .int .i64 6, .int .i64 7] 2))
      have HB7 := Lib.hid (HB6.out.alloc HB6.out.size (.cells #[.int .i64 2, .int .i64 6, .int .i64 7] 2))
      have hbz7 : w.heap.size ≤ (W6.alloc (.cells #[.int .i64 2, .int .i64 6, .int .i64 7] 2)).heap.size := Nat.le_trans hbz6 S6.out.size
      generalize (W6.alloc (.cells #[.int .i64 2, .int .i64 6, .int .i64 7] 2)) = W7 at *
      generalize (some ⟨W6.heap.size, 0, none⟩ : Option Addr) = a6 at *
      iterate 3 (first | go_values | go_skip | go_guarded | go_step | go_upon | go_in | go_back | (simp only [Int.not_lt, Int.not_le] at *; go_simp) | (go_values <;> (try go_simp)) | (go_ite <;> go_prune <;> (try go_simp)) | (split <;> (first | (rename_i hx; exact (hx _ rfl).elim) | go_prune)))
      have R7 := Lib.hid (World.ownsRow_lit (base := w.heap.size) (e := 2) (size := 1) W7 #[.int .i64 2, .int .i64 7, .int .i64 3] 3 hbz7 (by decide) rfl)
      have S7 := Lib.hid ((Below.refl W7.heap.size W7).alloc (Nat.le_refl _) (.cells #[.int .i64 2, .int .i64 7, .int .i64 3] 2))
      have HB8 := Lib.hid (HB7.out.alloc HB7.out.size (.cells #[.int .i64 2, .int .i64 7, .int .i64 3] 2))
      have hbz8 : w.heap.size ≤ (W7.alloc (.cells #[.int .i64 2, .int .i64 7, .int .i64 3] 2)).heap.size := Nat.le_trans hbz7 S7.out.size
      generalize (W7.alloc (.cells #[.int .i64 2, .int .i64 7, .int .i64 3] 2)) = W8 at *
      generalize (some ⟨W7.heap.size, 0, none⟩ : Option Addr) = a7 at *
      iterate 3 (first | go_values | go_skip | go_guarded | go_step | go_upon | go_in | go_back | (simp only [Int.not_lt, Int.not_le] at *; go_simp) | (go_values <;> (try go_simp)) | (go_ite <;> go_prune <;> (try go_simp)) | (split <;> (first | (rename_i hx; exact (hx _ rfl).elim) | go_prune)))
      have R8 := Lib.hid (World.ownsRow_lit (base := w.heap.size) (e := 2) (size := 1) W8 #[.int .i64 0, .int .i64 4, .int .i64 6] 3 hbz8 (by decide) rfl)
      have S8 := Lib.hid ((Below.refl W8.heap.size W8).alloc (Nat.le_refl _) (.cells #[.int .i64 0, .int .i64 4, .int .i64 6] 2))
      have HB9 := Lib.hid (HB8.out.alloc HB8.out.size (.cells #[.int .i64 0, .int .i64 4, .int .i64 6] 2))
      have hbz9 : w.heap.size ≤ (W8.alloc (.cells #[.int .i64 0, .int .i64 4, .int .i64 6] 2)).heap.size := Nat.le_trans hbz8 S8.out.size
      generalize (W8.alloc (.cells #[.int .i64 0, .int .i64 4, .int .i64 6] 2)) = W9 at *
      generalize (some ⟨W8.heap.size, 0, none⟩ : Option Addr) = a8 at *
      iterate 3 (first | go_values | go_skip | go_guarded | go_step | go_upon | go_in | go_back | (simp only [Int.not_lt, Int.not_le] at *; go_simp) | (go_values <;> (try go_simp)) | (go_ite <;> go_prune <;> (try go_simp)) | (split <;> (first | (rename_i hx; exact (hx _ rfl).elim) | go_prune)))
      have R9 := Lib.hid (World.ownsRow_lit (base := w.heap.size) (e := 2) (size := 1) W9 #[.int .i64 0, .int .i64 6, .int .i64 2] 3 hbz9 (by decide) rfl)
      have S9 := Lib.hid ((Below.refl W9.heap.size W9).alloc (Nat.le_refl _) (.cells #[.int .i64 0, .int .i64 6, .int .i64 2] 2))
      have HB10 := Lib.hid (HB9.out.alloc HB9.out.size (.cells #[.int .i64 0, .int .i64 6, .int .i64 2] 2))
      have hbz10 : w.heap.size ≤ (W9.alloc (.cells #[.int .i64 0, .int .i64 6, .int .i64 2] 2)).heap.size := Nat.le_trans hbz9 S9.out.size
      generalize (W9.alloc (.cells #[.int .i64 0, .int .i64 6, .int .i64 2] 2)) = W10 at *
      generalize (some ⟨W9.heap.size, 0, none⟩ : Option Addr) = a9 at *
      iterate 3 (first | go_values | go_skip | go_guarded | go_step | go_upon | go_in | go_back | (simp only [Int.not_lt, Int.not_le] at *; go_simp) | (go_values <;> (try go_simp)) | (go_ite <;> go_prune <;> (try go_simp)) | (split <;> (first | (rename_i hx; exact (hx _ rfl).elim) | go_prune)))
      have R10 := Lib.hid (World.ownsRow_lit (base := w.heap.size) (e := 2) (size := 1) W10 #[.int .i64 1, .int .i64 3, .int .i64 7] 3 hbz10 (by decide) rfl)
      have S10 := Lib.hid ((Below.refl W10.heap.size W10).alloc (Nat.le_refl _) (.cells #[.int .i64 1, .int .i64 3, .int .i64 7] 2))
      have HB11 := Lib.hid (HB10.out.alloc HB10.out.size (.cells #[.int .i64 1, .int .i64 3, .int .i64 7] 2))
      have hbz11 : w.heap.size ≤ (W10.alloc (.cells #[.int .i64 1, .int .i64 3, .int .i64 7] 2)).heap.size := Nat.le_trans hbz10 S10.out.size
      generalize (W10.alloc (.cells #[.int .i64 1, .int .i64 3, .int .i64 7] 2)) = W11 at *
      generalize (some ⟨W10.heap.size, 0, none⟩ : Option Addr) = a10 at *
      iterate 3 (first | go_values | go_skip | go_guarded | go_step | go_upon | go_in | go_back | (simp only [Int.not_lt, Int.not_le] at *; go_simp) | (go_values <;> (try go_simp)) | (go_ite <;> go_prune <;> (try go_simp)) | (split <;> (first | (rename_i hx; exact (hx _ rfl).elim) | go_prune)))
      have R11 := Lib.hid (World.ownsRow_lit (base := w.heap.size) (e := 2) (size := 1) W11 #[.int .i64 1, .int .i64 7, .int .i64 5] 3 hbz11 (by decide) rfl)
      have S11 := Lib.hid ((Below.refl W11.heap.size W11).alloc (Nat.le_refl _) (.cells #[.int .i64 1, .int .i64 7, .int .i64 5] 2))
      have HB12 := Lib.hid (HB11.out.alloc HB11.out.size (.cells #[.int .i64 1, .int .i64 7, .int .i64 5] 2))
      have hbz12 : w.heap.size ≤ (W11.alloc (.cells #[.int .i64 1, .int .i64 7, .int .i64 5] 2)).heap.size := Nat.le_trans hbz11 S11.out.size
      generalize (W11.alloc (.cells #[.int .i64 1, .int .i64 7, .int .i64 5] 2)) = W12 at *
      generalize (some ⟨W11.heap.size, 0, none⟩ : Option Addr) = a11 at *
      iterate 3 (first | go_values | go_skip | go_guarded | go_step | go_upon | go_in | go_back | (simp only [Int.not_lt, Int.not_le] at *; go_simp) | (go_values <;> (try go_simp)) | (go_ite <;> go_prune <;> (try go_simp)) | (split <;> (first | (rename_i hx; exact (hx _ rfl).elim) | go_prune)))
      have HL := Lib.hid (World.ownsRow_lit (base := w.heap.size) (e := 112) (size := 1) W12 #[.slice a0 3 3, .slice a1 3 3, .slice a2 3 3, .slice a3 3 3, .slice a4 3 3, .slice a5 3 3, .slice a6 3 3, .slice a7 3 3, .slice a8 3 3, .slice a9 3 3, .slice a10 3 3, .slice a11 3 3] 12 hbz12 (by decide) rfl)
      have S12 := Lib.hid ((Below.refl W12.heap.size W12).alloc (Nat.le_refl _) (.cells #[.slice a0 3 3, .slice a1 3 3, .slice a2 3 3, .slice a3 3 3, .slice a4 3 3, .slice a5 3 3, .slice a6 3 3, .slice a7 3 3, .slice a8 3 3, .slice a9 3 3, .slice a10 3 3, .slice a11 3 3] 112))
      have HB13 := Lib.hid (HB12.out.alloc HB12.out.size (.cells #[.slice a0 3 3, .slice a1 3 3, .slice a2 3 3, .slice a3 3 3, .slice a4 3 3, .slice a5 3 3, .slice a6 3 3, .slice a7 3 3, .slice a8 3 3, .slice a9 3 3, .slice a10 3 3, .slice a11 3 3] 112))
      generalize (W12.alloc (.cells #[.slice a0 3 3, .slice a1 3 3, .slice a2 3 3, .slice a3 3 3, .slice a4 3 3, .slice a5 3 3, .slice a6 3 3, .slice a7 3 3, .slice a8 3 3, .slice a9 3 3, .slice a10 3 3, .slice a11 3 3] 112)) = W13 at *
      generalize (some ⟨W12.heap.size, 0, none⟩ : Option Addr) = q at *
      have hT : OwnT w.heap.size W13 (.slice q 12 12) 12 boxTs := by
        have B12 := S12.out
        have B11 := S11.out.trans (B12.mono S11.out.size)
        have B10 := S10.out.trans (B11.mono S10.out.size)
        have B9 := S9.out.trans (B10.mono S9.out.size)
        have B8 := S8.out.trans (B9.mono S8.out.size)
        have B7 := S7.out.trans (B8.mono S7.out.size)
        have B6 := S6.out.trans (B7.mono S6.out.size)
        have B5 := S5.out.trans (B6.mono S5.out.size)
        have B4 := S4.out.trans (B5.mono S4.out.size)
        have B3 := S3.out.trans (B4.mono S3.out.size)
        have B2 := S2.out.trans (B3.mono S2.out.size)
        have B1 := S1.out.trans (B2.mono S1.out.size)
        have B0 := S0.out.trans (B1.mono S0.out.size)
        refine ⟨[.slice a0 3 3, .slice a1 3 3, .slice a2 3 3, .slice a3 3 3, .slice a4 3 3, .slice a5 3 3, .slice a6 3 3, .slice a7 3 3, .slice a8 3 3, .slice a9 3 3, .slice a10 3 3, .slice a11 3 3], HL.out, fun j hj => ?_⟩
        match j, hj with
        | 0, _ => exact ⟨.slice a0 3 3, rfl, owns_up R0.out B1⟩
        | 1, _ => exact ⟨.slice a1 3 3, rfl, owns_up R1.out B2⟩
        | 2, _ => exact ⟨.slice a2 3 3, rfl, owns_up R2.out B3⟩
        | 3, _ => exact ⟨.slice a3 3 3, rfl, owns_up R3.out B4⟩
        | 4, _ => exact ⟨.slice a4 3 3, rfl, owns_up R4.out B5⟩
        | 5, _ => exact ⟨.slice a5 3 3, rfl, owns_up R5.out B6⟩
        | 6, _ => exact ⟨.slice a6 3 3, rfl, owns_up R6.out B7⟩
        | 7, _ => exact ⟨.slice a7 3 3, rfl, owns_up R7.out B8⟩
        | 8, _ => exact ⟨.slice a8 3 3, rfl, owns_up R8.out B9⟩
        | 9, _ => exact ⟨.slice a9 3 3, rfl, owns_up R9.out B10⟩
        | 10, _ => exact ⟨.slice a10 3 3, rfl, owns_up R10.out B11⟩
        | 11, _ => exact ⟨.slice a11 3 3, rfl, owns_up R11.out B12⟩
        | j + 12, hj => omega
      have HD2 := Lib.hid (HD.out.up HB13.out)
      have HT := Lib.hid hT
      have g0 := HD2.out.2.1.frozenAt 0
      have g1 := HD2.out.2.1.frozenAt 1
      have k1 := HD2.out.cell1
      clear hT R0 S0 HB0 R1 S1 HB1 R2 S2 HB2 R3 S3 HB3 R4 S4 HB4 R5 S5 HB5 R6 S6 HB6 R7 S7 HB7 R8 S8 HB8 R9 S9 HB9 R10 S10 HB10 R11 S11 HB11 HL S12 HB12 HB13
      iterate 11 (first | go_values | go_skip | go_guarded | go_step | go_upon | go_in | go_back | (simp only [Int.not_lt, Int.not_le] at *; go_simp) | (go_values <;> (try go_simp)) | (go_ite <;> go_prune <;> (try go_simp)) | (split <;> (first | (rename_i hx; exact (hx _ rfl).elim) | go_prune)))
      have HD3 := Lib.hid (HD2.out.set1 HXZ.out (.slice q 12 12))
      have HT3 := Lib.hid (mapSet (j := 1) HT.out HD2.out.2.1 (.slice q 12 12))
      clear g0 g1 k1 HD2 HT
      generalize (W13.setCell ⟨X, 1, none⟩ (.slice q 12 12)) = W14 at *
      have k0 := HD3.out.cell0
      have k1 := HD3.out.cell1
      have z0 := cell0_of HD3.out.2.2.1
      have z1 := cell1_of HD3.out.2.2.1
      have f0 := HD3.out.2.2.1.frozenAt 0
      have f1 := HD3.out.2.2.1.frozenAt 1
      go_wp2
      have x0 : ∀ u, (W14.setCell ⟨w.heap.size, 0, none⟩ u).cell? ⟨w.heap.size, 1, none⟩ = some (.slice none 0 0) := fun u => by rw [World.cell?_setCell_other _ _ _ _ (by simp)]; exact z1
      have r1 : ∀ u v, ((W14.setCell ⟨w.heap.size, 0, none⟩ u).setCell ⟨w.heap.size, 1, none⟩ v).cell? ⟨w.heap.size, 1, none⟩ = some v := fun u v => World.cell?_setCell_same _ _ _ (x0 u)
      have r0 : ∀ u v, ((W14.setCell ⟨w.heap.size, 0, none⟩ u).setCell ⟨w.heap.size, 1, none⟩ v).cell? ⟨w.heap.size, 0, none⟩ = some u := fun u v => by rw [World.cell?_setCell_other _ _ _ _ (by simp)]; exact World.cell?_setCell_same _ _ _ z0
      have hZ := HD3.out.2.2.1.stored 0 (.slice qa 8 qc)
      have hZ2 := hZ.1.stored 1 (.slice q 12 12)
      have hO := owns_side (owns_side HD3.out.2.2.2 HD3.out.2.2.1 (by decide) hZ.2) hZ.1 (by decide) hZ2.2
      have hT := (HT3.out.side HD3.out.2.2.1 hZ.2 (by decide) (by decide)).side hZ.1 hZ2.2 (by decide) (by decide)
      refine bodyPost_ret (v := .tuple #[.agg #[.slice qa 8 qc, .slice q 12 12], .bool true]) (by simp [results, Try.results33, go_sem, r0, r1]) rfl (by
        unfold Made
        rw [boxCs_len, show boxTs.length = 12 from rfl]
        exact ⟨⟨qa, qc, q, 12, rfl, vs_owned hO (boxCs_len d) (HP.out.pv (fun j hj => boxCs_get hj)), ts_owned hT rfl box_wf, lv_of_owns hO, lt_of_owns hT⟩, (HD3.out.1.setCell (Nat.le_refl _) _).setCell (Nat.le_refl _) _⟩)
end Go.Proofs.Ytljpjmkickkcpab

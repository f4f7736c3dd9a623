
/-
Boxes: their places and triangles, and what the program returns. Conditions: none.
-/
import Derived.Test.YtljpjmkickkcpabGdC
import Derived.Test.YtljpjmkickkcpabGdD
namespace Go.Proofs.Ytljpjmkickkcpab
open Go Fk Go.RowKit
set_option linter.unusedVariables false
set_option maxRecDepth 16000
/-- One end of a box, or the other one. -/
def endC (d : Option Nat) (b : Nat) : Option Nat := if b = 1 then d else some 0
def boxC (d : Option Nat) (p : Nat) : C3 := (endC d (p % 2), endC d (p / 2 % 2), endC d (p / 4 % 2))
def boxCs (d : Option Nat) : List C3 := (List.range 8).map (boxC d)
def boxTs : List (List Int) := [[0, 2, 3], [0, 3, 1], [4, 5, 7], [4, 7, 6], [0, 1, 5], [0, 5, 4], [2, 6, 7], [2, 7, 3], [0, 4, 6], [0, 6, 2], [1, 3, 7], [1, 7, 5]]
theorem boxCs_len (d : Option Nat) : (boxCs d).length = 8 := by unfold boxCs; simp
theorem boxCs_get {d : Option Nat} {k : Nat} (hk : k < 8) : (boxCs d).getD k c0 = boxC d k := by unfold boxCs; simp [List.getD, hk]
theorem box_valid (d : Option Nat) : validB (boxCs d) boxTs = true := by
  unfold validB
  rw [boxCs_len]
  decide +kernel
theorem box_3 : ∀ j, j < 12 → (boxTs.getD j []).length = 3 := by decide
theorem box_wf : ∀ j, j < 12 → ∀ z ∈ boxTs.getD j [], (Lit.int .i64 z).wf = true := by decide +kernel
theorem fv_end {z : Nat} {d : Option Nat} (h : FV .f32 z d) (b : Nat) : FV .f32 (if b = 1 then z else 0) (endC d b) := by
  unfold endC; split
  · exact h
  · exact fv00
theorem box_ix0 (z : Nat) : ∀ w, (Instr.index 113 (.agg #[.float .f32 0, .float .f32 z]) (.int .i64 (0 : Int))).run Try.prog w = .ok (.float .f32 0) w := by
  have u := Try.underlying27
  have ua := Try.underlying113
  intro w
  first
    | rfl
    | (simp [Instr.index, u, ua, go_sem]; done)
    | (kernel_rfl)
theorem box_ix1 (z : Nat) : ∀ w, (Instr.index 113 (.agg #[.float .f32 0, .float .f32 z]) (.int .i64 (1 : Int))).run Try.prog w = .ok (.float .f32 z) w := by
  have u := Try.underlying27
  have ua := Try.underlying113
  intro w
  first
    | rfl
    | (simp [Instr.index, u, ua, go_sem]; done)
    | (kernel_rfl)
set_option maxHeartbeats 4000000 in
theorem impl_BoxMesh_in (z : Nat) (d : Option Nat) (w : World) (hz : FV .f32 z d) (hs : sizeB z = true) :
    Calls Try.prog 34 #[.float .f32 z] w fun e w' => MadeG w w' e true (boxCs d) boxTs := by
  have um := Try.underlying32
  have uv := Try.underlying39
  have u := Try.underlying27
  have ua := Try.underlying113
  have uc := Try.underlying91
  have ui := Try.underlying2
  obtain ⟨i0, hi, hz0, hz1, hz2⟩ := info_parts infoV
  have J3 := Lib.hid (fun w => hs ▸ impl_isMeasure z w hz.1)
  have HZ := Lib.hid hz
  clear hz hs
  go_enter Try.func34, Try.ntmps34
  go_wp2_with fail
  refine (J3.out _).mono ?_
  rintro e w1 ⟨rfl, n, hw⟩
  rw [hw]; clear hw w1
  clear J3
  go_wp2
  have hW : (((w.alloc (.cells #[.slice none 0 0, .slice none 0 0] 32)).alloc (.cells #[.float .f32 0, .float .f32 z] 113)).drewN n).heap.size = w.heap.size + 1 + 1 := by simp
  have hB0 : Below w.heap.size w (((w.alloc (.cells #[.slice none 0 0, .slice none 0 0] 32)).alloc (.cells #[.float .f32 0, .float .f32 z] 113)).drewN n) := below_drewN (((Below.refl _ _).alloc (Nat.le_refl _) _).alloc (by simp) _) n
  have ZR : Hid ((((w.alloc (.cells #[.slice none 0 0, .slice none 0 0] 32)).alloc (.cells #[.float .f32 0, .float .f32 z] 113)).drewN n).ownsRow w.heap.size 32 2 (.slice (some ⟨w.heap.size, 0, none⟩) 1 1) 1 [.slice none 0 0, .slice none 0 0]) :=
    Lib.hid ((World.ownsRow_lit (base := w.heap.size) (e := 32) (size := 2) w #[.slice none 0 0, .slice none 0 0] 1 (Nat.le_refl _) (by decide) rfl).alloc _)
  have NB : Hid (NilBox (((w.alloc (.cells #[.slice none 0 0, .slice none 0 0] 32)).alloc (.cells #[.float .f32 0, .float .f32 z] 113)).drewN n) w.heap.size) := Lib.hid ((NilBox.new (w := w) (t := 32)).below (below_drewN ((Below.refl _ _).alloc (Nat.le_refl _) _) n))
  have E0 : Hid ((((w.alloc (.cells #[.slice none 0 0, .slice none 0 0] 32)).alloc (.cells #[.float .f32 0, .float .f32 z] 113)).drewN n).cell? ⟨w.heap.size + 1, 0, none⟩ = some (.float .f32 0)) := Lib.hid (by simp)
  have E1 : Hid ((((w.alloc (.cells #[.slice none 0 0, .slice none 0 0] 32)).alloc (.cells #[.float .f32 0, .float .f32 z] 113)).drewN n).cell? ⟨w.heap.size + 1, 1, none⟩ = some (.float .f32 z)) := Lib.hid (by simp)
  have HB0 := Lib.hid hB0
  have HW := Lib.hid hW
  clear hB0 hW
  generalize (((w.alloc (.cells #[.slice none 0 0, .slice none 0 0] 32)).alloc (.cells #[.float .f32 0, .float .f32 z] 113)).drewN n) = W at *
  go_loopw [5, 19] (fun u i w' => ∃ x : Nat, x ≤ 2 ∧ i = .int .i64 x ∧ Aside (∃ xs, w'.ownsRow W.heap.size 39 3 u (4 * x) xs ∧ PVf (4 * x) xs (boxC d) ∧ Below W.heap.size W w')) (fun _ i _ => 2 - (intOf i).toNat)
  case atStart => exact ⟨0, Nat.zero_le _, rfl, [], World.ownsRow_nil _ _ _ _, fun j hj => absurd hj (by omega), Below.refl _ _⟩
  case round =>
    obtain ⟨x, hx, rfl, hA⟩ := hrel
    obtain ⟨xs, hown, hpv, hB⟩ := hA.out
    have HO := Lib.hid hown
    have HP := Lib.hid hpv
    have HB := Lib.hid hB
    clear hA hown hpv hB
    have : x = 0 ∨ x = 1 ∨ x = 2 := by omega
    rcases this with rfl | rfl | rfl
    · skip
      have e0 := cell_below HB.out E0.out
      have e1 := cell_below HB.out E1.out
      go_wp2
      rw [box_ix0]
      go_wp2
      clear e0 e1
      go_loopw [5, 23] (fun u i w' => ∃ x : Nat, x ≤ 2 ∧ i = .int .i64 x ∧ Aside (∃ xs, w'.ownsRow W.heap.size 39 3 u (0 + 2 * x) xs ∧ PVf (0 + 2 * x) xs (boxC d) ∧ Below W.heap.size W w')) (fun _ i _ => 2 - (intOf i).toNat)
      case atStart => exact ⟨0, Nat.zero_le _, rfl, xs, HO.out, HP.out, HB.out⟩
      case round =>
        obtain ⟨x, hx, rfl, hA⟩ := hrel
        obtain ⟨xs, hown, hpv, hB⟩ := hA.out
        have HO := Lib.hid hown
        have HP := Lib.hid hpv
        have HB := Lib.hid hB
        clear hA hown hpv hB
        have : x = 0 ∨ x = 1 ∨ x = 2 := by omega
        rcases this with rfl | rfl | rfl
        · skip
          have e0 := cell_below HB.out E0.out
          have e1 := cell_below HB.out E1.out
          go_wp2
          rw [box_ix0]
          go_wp2
          clear e0 e1
          go_loopw [5, 27] (fun u i w' => ∃ x : Nat, x ≤ 2 ∧ i = .int .i64 x ∧ Aside (∃ xs, w'.ownsRow W.heap.size 39 3 u (0 + x) xs ∧ PVf (0 + x) xs (boxC d) ∧ Below W.heap.size W w')) (fun _ i _ => 2 - (intOf i).toNat)
          case atStart => exact ⟨0, Nat.zero_le _, rfl, xs, HO.out, HP.out, HB.out⟩
          case round =>
            obtain ⟨x, hx, rfl, hA⟩ := hrel
            obtain ⟨ys, hown, hpv, hB⟩ := hA.out
            have HO1 := Lib.hid hown
            have HP1 := Lib.hid hpv
            have HB1 := Lib.hid hB
            clear hA hown hpv hB
            have : x = 0 ∨ x = 1 ∨ x = 2 := by omega
            rcases this with rfl | rfl | rfl
            · skip
              have hbz := HB1.out.size
              go_wp2
              rw [box_ix0]
              go_wp2_with (at_builtin; go_loud (refine wpList_append_own _ rfl _ _ 30 rfl W.heap.size 39 i0 (.agg #[.float .f32 0, .float .f32 0, .float .f32 0]) 3 12 Try.underlying30 hi hz0 hz1 hz2 rfl (by decide) _ _ _ rfl (HO1.out.alloc _) ⟨wr.heap.size, 0, none⟩ 1 1 [.float .f32 0, .float .f32 0, .float .f32 0] rfl rfl ?c1 ?c2 ?c3 ?c4 ?c5 ?_))
              case c1 =>
                intro j u hj
                match j, hj with
                | 0, hj => simp at hj; subst hj; simp [Addr.add]
                | 1, hj => simp at hj; subst hj; simp [Addr.add]
                | 2, hj => simp at hj; subst hj; simp [Addr.add]
                | j + 3, hj => simp at hj
              case c2 => first | exact ⟨rfl, rfl, rfl⟩ | (intro u hu; simp at hu; rcases hu with rfl | rfl | rfl <;> rfl) | (intro u hu; simp at hu; rcases hu with rfl | rfl <;> rfl) | (intro u hu; simp at hu; subst hu; rfl)
              case c3 => unfold maxLen; omega
              case c4 => omega
              case c5 => first | omega | (simp; omega)
              · intro v' w1 hown' hgrow hnil
                have hB1 : Below W.heap.size W (wr.alloc (.cells #[.float .f32 0, .float .f32 0, .float .f32 0] 39)) := HB1.out.alloc hbz _
                have HB2 := Lib.hid (hB1.grown hgrow hB1.size (fun k hk => (HO1.out.lt k hk).1))
                have HO2 := Lib.hid hown'
                clear hown' hgrow hB1 hnil
                go_wp2
                go_roundw
                case rel => exact ⟨1, by omega, by first | rfl | go_num, _, HO2.out, HP1.out.snoc (k := 0) HO1.out.1 ⟨fv00, fv00, fv00⟩, HB2.out⟩
                case measure => simp [intOf]
            · skip
              have hbz := HB1.out.size
              go_wp2
              rw [box_ix1]
              go_wp2_with (at_builtin; go_loud (refine wpList_append_own _ rfl _ _ 30 rfl W.heap.size 39 i0 (.agg #[.float .f32 0, .float .f32 0, .float .f32 0]) 3 12 Try.underlying30 hi hz0 hz1 hz2 rfl (by decide) _ _ _ rfl (HO1.out.alloc _) ⟨wr.heap.size, 0, none⟩ 1 1 [.float .f32 z, .float .f32 0, .float .f32 0] rfl rfl ?c1 ?c2 ?c3 ?c4 ?c5 ?_))
              case c1 =>
                intro j u hj
                match j, hj with
                | 0, hj => simp at hj; subst hj; simp [Addr.add]
                | 1, hj => simp at hj; subst hj; simp [Addr.add]
                | 2, hj => simp at hj; subst hj; simp [Addr.add]
                | j + 3, hj => simp at hj
              case c2 => first | exact ⟨rfl, rfl, rfl⟩ | (intro u hu; simp at hu; rcases hu with rfl | rfl | rfl <;> rfl) | (intro u hu; simp at hu; rcases hu with rfl | rfl <;> rfl) | (intro u hu; simp at hu; subst hu; rfl)
              case c3 => unfold maxLen; omega
              case c4 => omega
              case c5 => first | omega | (simp; omega)
              · intro v' w1 hown' hgrow hnil
                have hB1 : Below W.heap.size W (wr.alloc (.cells #[.float .f32 z, .float .f32 0, .float .f32 0] 39)) := HB1.out.alloc hbz _
                have HB2 := Lib.hid (hB1.grown hgrow hB1.size (fun k hk => (HO1.out.lt k hk).1))
                have HO2 := Lib.hid hown'
                clear hown' hgrow hB1 hnil
                go_wp2
                go_roundw
                case rel => exact ⟨2, by omega, by first | rfl | go_num, _, HO2.out, HP1.out.snoc (k := 1) HO1.out.1 ⟨HZ.out, fv00, fv00⟩, HB2.out⟩
                case measure => simp [intOf]
            · go_wp2
              go_roundw
              case rel => exact ⟨1, by omega, by first | rfl | go_num, ys, HO1.out, HP1.out, HB1.out⟩
              case measure => simp [intOf]
        · skip
          have e0 := cell_below HB.out E0.out
          have e1 := cell_below HB.out E1.out
          go_wp2
          rw [box_ix1]
          go_wp2
          clear e0 e1
          go_loopw [5, 27] (fun u i w' => ∃ x : Nat, x ≤ 2 ∧ i = .int .i64 x ∧ Aside (∃ xs, w'.ownsRow W.heap.size 39 3 u (2 + x) xs ∧ PVf (2 + x) xs (boxC d) ∧ Below W.heap.size W w')) (fun _ i _ => 2 - (intOf i).toNat)
          case atStart => exact ⟨0, Nat.zero_le _, rfl, xs, HO.out, HP.out, HB.out⟩
          case round =>
            obtain ⟨x, hx, rfl, hA⟩ := hrel
            obtain ⟨ys, hown, hpv, hB⟩ := hA.out
            have HO1 := Lib.hid hown
            have HP1 := Lib.hid hpv
            have HB1 := Lib.hid hB
            clear hA hown hpv hB
            have : x = 0 ∨ x = 1 ∨ x = 2 := by omega
            rcases this with rfl | rfl | rfl
            · skip
              have hbz := HB1.out.size
              go_wp2
              rw [box_ix0]
              go_wp2_with (at_builtin; go_loud (refine wpList_append_own _ rfl _ _ 30 rfl W.heap.size 39 i0 (.agg #[.float .f32 0, .float .f32 0, .float .f32 0]) 3 12 Try.underlying30 hi hz0 hz1 hz2 rfl (by decide) _ _ _ rfl (HO1.out.alloc _) ⟨wr.heap.size, 0, none⟩ 1 1 [.float .f32 0, .float .f32 z, .float .f32 0] rfl rfl ?c1 ?c2 ?c3 ?c4 ?c5 ?_))
              case c1 =>
                intro j u hj
                match j, hj with
                | 0, hj => simp at hj; subst hj; simp [Addr.add]
                | 1, hj => simp at hj; subst hj; simp [Addr.add]
                | 2, hj => simp at hj; subst hj; simp [Addr.add]
                | j + 3, hj => simp at hj
              case c2 => first | exact ⟨rfl, rfl, rfl⟩ | (intro u hu; simp at hu; rcases hu with rfl | rfl | rfl <;> rfl) | (intro u hu; simp at hu; rcases hu with rfl | rfl <;> rfl) | (intro u hu; simp at hu; subst hu; rfl)
              case c3 => unfold maxLen; omega
              case c4 => omega
              case c5 => first | omega | (simp; omega)
              · intro v' w1 hown' hgrow hnil
                have hB1 : Below W.heap.size W (wr.alloc (.cells #[.float .f32 0, .float .f32 z, .float .f32 0] 39)) := HB1.out.alloc hbz _
                have HB2 := Lib.hid (hB1.grown hgrow hB1.size (fun k hk => (HO1.out.lt k hk).1))
                have HO2 := Lib.hid hown'
                clear hown' hgrow hB1 hnil
                go_wp2
                go_roundw
                case rel => exact ⟨1, by omega, by first | rfl | go_num, _, HO2.out, HP1.out.snoc (k := 2) HO1.out.1 ⟨fv00, HZ.out, fv00⟩, HB2.out⟩
                case measure => simp [intOf]
            · skip
              have hbz := HB1.out.size
              go_wp2
              rw [box_ix1]
              go_wp2_with (at_builtin; go_loud (refine wpList_append_own _ rfl _ _ 30 rfl W.heap.size 39 i0 (.agg #[.float .f32 0, .float .f32 0, .float .f32 0]) 3 12 Try.underlying30 hi hz0 hz1 hz2 rfl (by decide) _ _ _ rfl (HO1.out.alloc _) ⟨wr.heap.size, 0, none⟩ 1 1 [.float .f32 z, .float .f32 z, .float .f32 0] rfl rfl ?c1 ?c2 ?c3 ?c4 ?c5 ?_))
              case c1 =>
                intro j u hj
                match j, hj with
                | 0, hj => simp at hj; subst hj; simp [Addr.add]
                | 1, hj => simp at hj; subst hj; simp [Addr.add]
                | 2, hj => simp at hj; subst hj; simp [Addr.add]
                | j + 3, hj => simp at hj
              case c2 => first | exact ⟨rfl, rfl, rfl⟩ | (intro u hu; simp at hu; rcases hu with rfl | rfl | rfl <;> rfl) | (intro u hu; simp at hu; rcases hu with rfl | rfl <;> rfl) | (intro u hu; simp at hu; subst hu; rfl)
              case c3 => unfold maxLen; omega
              case c4 => omega
              case c5 => first | omega | (simp; omega)
              · intro v' w1 hown' hgrow hnil
                have hB1 : Below W.heap.size W (wr.alloc (.cells #[.float .f32 z, .float .f32 z, .float .f32 0] 39)) := HB1.out.alloc hbz _
                have HB2 := Lib.hid (hB1.grown hgrow hB1.size (fun k hk => (HO1.out.lt k hk).1))
                have HO2 := Lib.hid hown'
                clear hown' hgrow hB1 hnil
                go_wp2
                go_roundw
                case rel => exact ⟨2, by omega, by first | rfl | go_num, _, HO2.out, HP1.out.snoc (k := 3) HO1.out.1 ⟨HZ.out, HZ.out, fv00⟩, HB2.out⟩
                case measure => simp [intOf]
            · go_wp2
              go_roundw
              case rel => exact ⟨2, by omega, by first | rfl | go_num, ys, HO1.out, HP1.out, HB1.out⟩
              case measure => simp [intOf]
        · go_wp2
          go_roundw
          case rel => exact ⟨1, by omega, by first | rfl | go_num, xs, HO.out, HP.out, HB.out⟩
          case measure => simp [intOf]
    · skip
      have e0 := cell_below HB.out E0.out
      have e1 := cell_below HB.out E1.out
      go_wp2
      rw [box_ix1]
      go_wp2
      clear e0 e1
      go_loopw [5, 23] (fun u i w' => ∃ x : Nat, x ≤ 2 ∧ i = .int .i64 x ∧ Aside (∃ xs, w'.ownsRow W.heap.size 39 3 u (4 + 2 * x) xs ∧ PVf (4 + 2 * x) xs (boxC d) ∧ Below W.heap.size W w')) (fun _ i _ => 2 - (intOf i).toNat)
      case atStart => exact ⟨0, Nat.zero_le _, rfl, xs, HO.out, HP.out, HB.out⟩
      case round =>
        obtain ⟨x, hx, rfl, hA⟩ := hrel
        obtain ⟨xs, hown, hpv, hB⟩ := hA.out
        have HO := Lib.hid hown
        have HP := Lib.hid hpv
        have HB := Lib.hid hB
        clear hA hown hpv hB
        have : x = 0 ∨ x = 1 ∨ x = 2 := by omega
        rcases this with rfl | rfl | rfl
        · skip
          have e0 := cell_below HB.out E0.out
          have e1 := cell_below HB.out E1.out
          go_wp2
          rw [box_ix0]
          go_wp2
          clear e0 e1
          go_loopw [5, 27] (fun u i w' => ∃ x : Nat, x ≤ 2 ∧ i = .int .i64 x ∧ Aside (∃ xs, w'.ownsRow W.heap.size 39 3 u (4 + x) xs ∧ PVf (4 + x) xs (boxC d) ∧ Below W.heap.size W w')) (fun _ i _ => 2 - (intOf i).toNat)
          case atStart => exact ⟨0, Nat.zero_le _, rfl, xs, HO.out, HP.out, HB.out⟩
          case round =>
            obtain ⟨x, hx, rfl, hA⟩ := hrel
            obtain ⟨ys, hown, hpv, hB⟩ := hA.out
            have HO1 := Lib.hid hown
            have HP1 := Lib.hid hpv
            have HB1 := Lib.hid hB
            clear hA hown hpv hB
            have : x = 0 ∨ x = 1 ∨ x = 2 := by omega
            rcases this with rfl | rfl | rfl
            · skip
              have hbz := HB1.out.size
              go_wp2
              rw [box_ix0]
              go_wp2_with (at_builtin; go_loud (refine wpList_append_own _ rfl _ _ 30 rfl W.heap.size 39 i0 (.agg #[.float .f32 0, .float .f32 0, .float .f32 0]) 3 12 Try.underlying30 hi hz0 hz1 hz2 rfl (by decide) _ _ _ rfl (HO1.out.alloc _) ⟨wr.heap.size, 0, none⟩ 1 1 [.float .f32 0, .float .f32 0, .float .f32 z] rfl rfl ?c1 ?c2 ?c3 ?c4 ?c5 ?_))
              case c1 =>
                intro j u hj
                match j, hj with
                | 0, hj => simp at hj; subst hj; simp [Addr.add]
                | 1, hj => simp at hj; subst hj; simp [Addr.add]
                | 2, hj => simp at hj; subst hj; simp [Addr.add]
                | j + 3, hj => simp at hj
              case c2 => first | exact ⟨rfl, rfl, rfl⟩ | (intro u hu; simp at hu; rcases hu with rfl | rfl | rfl <;> rfl) | (intro u hu; simp at hu; rcases hu with rfl | rfl <;> rfl) | (intro u hu; simp at hu; subst hu; rfl)
              case c3 => unfold maxLen; omega
              case c4 => omega
              case c5 => first | omega | (simp; omega)
              · intro v' w1 hown' hgrow hnil
                have hB1 : Below W.heap.size W (wr.alloc (.cells #[.float .f32 0, .float .f32 0, .float .f32 z] 39)) := HB1.out.alloc hbz _
                have HB2 := Lib.hid (hB1.grown hgrow hB1.size (fun k hk => (HO1.out.lt k hk).1))
                have HO2 := Lib.hid hown'
                clear hown' hgrow hB1 hnil
                go_wp2
                go_roundw
                case rel => exact ⟨1, by omega, by first | rfl | go_num, _, HO2.out, HP1.out.snoc (k := 4) HO1.out.1 ⟨fv00, fv00, HZ.out⟩, HB2.out⟩
                case measure => simp [intOf]
            · skip
              have hbz := HB1.out.size
              go_wp2
              rw [box_ix1]
              go_wp2_with (at_builtin; go_loud (refine wpList_append_own _ rfl _ _ 30 rfl W.heap.size 39 i0 (.agg #[.float .f32 0, .float .f32 0, .float .f32 0]) 3 12 Try.underlying30 hi hz0 hz1 hz2 rfl (by decide) _ _ _ rfl (HO1.out.alloc _) ⟨wr.heap.size, 0, none⟩ 1 1 [.float .f32 z, .float .f32 0, .float .f32 z] rfl rfl ?c1 ?c2 ?c3 ?c4 ?c5 ?_))
              case c1 =>
                intro j u hj
                match j, hj with
                | 0, hj => simp at hj; subst hj; simp [Addr.add]
                | 1, hj => simp at hj; subst hj; simp [Addr.add]
                | 2, hj => simp at hj; subst hj; simp [Addr.add]
                | j + 3, hj => simp at hj
              case c2 => first | exact ⟨rfl, rfl, rfl⟩ | (intro u hu; simp at hu; rcases hu with rfl | rfl | rfl <;> rfl) | (intro u hu; simp at hu; rcases hu with rfl | rfl <;> rfl) | (intro u hu; simp at hu; subst hu; rfl)
              case c3 => unfold maxLen; omega
              case c4 => omega
              case c5 => first | omega | (simp; omega)
              · intro v' w1 hown' hgrow hnil
                have hB1 : Below W.heap.size W (wr.alloc (.cells #[.float .f32 z, .float .f32 0, .float .f32 z] 39)) := HB1.out.alloc hbz _
                have HB2 := Lib.hid (hB1.grown hgrow hB1.size (fun k hk => (HO1.out.lt k hk).1))
                have HO2 := Lib.hid hown'
                clear hown' hgrow hB1 hnil
                go_wp2
                go_roundw
                case rel => exact ⟨2, by omega, by first | rfl | go_num, _, HO2.out, HP1.out.snoc (k := 5) HO1.out.1 ⟨HZ.out, fv00, HZ.out⟩, HB2.out⟩
                case measure => simp [intOf]
            · go_wp2
              go_roundw
              case rel => exact ⟨1, by omega, by first | rfl | go_num, ys, HO1.out, HP1.out, HB1.out⟩
              case measure => simp [intOf]
        · skip
          have e0 := cell_below HB.out E0.out
          have e1 := cell_below HB.out E1.out
          go_wp2
          rw [box_ix1]
          go_wp2
          clear e0 e1
          go_loopw [5, 27] (fun u i w' => ∃ x : Nat, x ≤ 2 ∧ i = .int .i64 x ∧ Aside (∃ xs, w'.ownsRow W.heap.size 39 3 u (6 + x) xs ∧ PVf (6 + x) xs (boxC d) ∧ Below W.heap.size W w')) (fun _ i _ => 2 - (intOf i).toNat)
          case atStart => exact ⟨0, Nat.zero_le _, rfl, xs, HO.out, HP.out, HB.out⟩
          case round =>
            obtain ⟨x, hx, rfl, hA⟩ := hrel
            obtain ⟨ys, hown, hpv, hB⟩ := hA.out
            have HO1 := Lib.hid hown
            have HP1 := Lib.hid hpv
            have HB1 := Lib.hid hB
            clear hA hown hpv hB
            have : x = 0 ∨ x = 1 ∨ x = 2 := by omega
            rcases this with rfl | rfl | rfl
            · skip
              have hbz := HB1.out.size
              go_wp2
              rw [box_ix0]
              go_wp2_with (at_builtin; go_loud (refine wpList_append_own _ rfl _ _ 30 rfl W.heap.size 39 i0 (.agg #[.float .f32 0, .float .f32 0, .float .f32 0]) 3 12 Try.underlying30 hi hz0 hz1 hz2 rfl (by decide) _ _ _ rfl (HO1.out.alloc _) ⟨wr.heap.size, 0, none⟩ 1 1 [.float .f32 0, .float .f32 z, .float .f32 z] rfl rfl ?c1 ?c2 ?c3 ?c4 ?c5 ?_))
              case c1 =>
                intro j u hj
                match j, hj with
                | 0, hj => simp at hj; subst hj; simp [Addr.add]
                | 1, hj => simp at hj; subst hj; simp [Addr.add]
                | 2, hj => simp at hj; subst hj; simp [Addr.add]
                | j + 3, hj => simp at hj
              case c2 => first | exact ⟨rfl, rfl, rfl⟩ | (intro u hu; simp at hu; rcases hu with rfl | rfl | rfl <;> rfl) | (intro u hu; simp at hu; rcases hu with rfl | rfl <;> rfl) | (intro u hu; simp at hu; subst hu; rfl)
              case c3 => unfold maxLen; omega
              case c4 => omega
              case c5 => first | omega | (simp; omega)
              · intro v' w1 hown' hgrow hnil
                have hB1 : Below W.heap.size W (wr.alloc (.cells #[.float .f32 0, .float .f32 z, .float .f32 z] 39)) := HB1.out.alloc hbz _
                have HB2 := Lib.hid (hB1.grown hgrow hB1.size (fun k hk => (HO1.out.lt k hk).1))
                have HO2 := Lib.hid hown'
                clear hown' hgrow hB1 hnil
                go_wp2
                go_roundw
                case rel => exact ⟨1, by omega, by first | rfl | go_num, _, HO2.out, HP1.out.snoc (k := 6) HO1.out.1 ⟨fv00, HZ.out, HZ.out⟩, HB2.out⟩
                case measure => simp [intOf]
            · skip
              have hbz := HB1.out.size
              go_wp2
              rw [box_ix1]
              go_wp2_with (at_builtin; go_loud (refine wpList_append_own _ rfl _ _ 30 rfl W.heap.size 39 i0 (.agg #[.float .f32 0, .float .f32 0, .float .f32 0]) 3 12 Try.underlying30 hi hz0 hz1 hz2 rfl (by decide) _ _ _ rfl (HO1.out.alloc _) ⟨wr.heap.size, 0, none⟩ 1 1 [.float .f32 z, .float .f32 z, .float .f32 z] rfl rfl ?c1 ?c2 ?c3 ?c4 ?c5 ?_))
              case c1 =>
                intro j u hj
                match j, hj with
                | 0, hj => simp at hj; subst hj; simp [Addr.add]
                | 1, hj => simp at hj; subst hj; simp [Addr.add]
                | 2, hj => simp at hj; subst hj; simp [Addr.add]
                | j + 3, hj => simp at hj
              case c2 => first | exact ⟨rfl, rfl, rfl⟩ | (intro u hu; simp at hu; rcases hu with rfl | rfl | rfl <;> rfl) | (intro u hu; simp at hu; rcases hu with rfl | rfl <;> rfl) | (intro u hu; simp at hu; subst hu; rfl)
              case c3 => unfold maxLen; omega
              case c4 => omega
              case c5 => first | omega | (simp; omega)
              · intro v' w1 hown' hgrow hnil
                have hB1 : Below W.heap.size W (wr.alloc (.cells #[.float .f32 z, .float .f32 z, .float .f32 z] 39)) := HB1.out.alloc hbz _
                have HB2 := Lib.hid (hB1.grown hgrow hB1.size (fun k hk => (HO1.out.lt k hk).1))
                have HO2 := Lib.hid hown'
                clear hown' hgrow hB1 hnil
                go_wp2
                go_roundw
                case rel => exact ⟨2, by omega, by first | rfl | go_num, _, HO2.out, HP1.out.snoc (k := 7) HO1.out.1 ⟨HZ.out, HZ.out, HZ.out⟩, HB2.out⟩
                case measure => simp [intOf]
            · go_wp2
              go_roundw
              case rel => exact ⟨2, by omega, by first | rfl | go_num, ys, HO1.out, HP1.out, HB1.out⟩
              case measure => simp [intOf]
        · go_wp2
          go_roundw
          case rel => exact ⟨2, by omega, by first | rfl | go_num, xs, HO.out, HP.out, HB.out⟩
          case measure => simp [intOf]
    · obtain ⟨pa, pc, hpa⟩ := owns_slice HO.out
      subst hpa
      have hbz := HB.out.size
      have hB1 : Below wr.heap.size wr (wr.alloc (.cells #[.int .i64 0, .int .i64 2, .int .i64 3, .int .i64 0, .int .i64 3, .int .i64 1, .int .i64 4, .int .i64 5, .int .i64 7, .int .i64 4, .int .i64 7, .int .i64 6, .int .i64 0, .int .i64 1, .int .i64 5, .int .i64 0, .int .i64 5, .int .i64 4, .int .i64 2, .int .i64 6, .int .i64 7, .int .i64 2, .int .i64 7, .int .i64 3, .int .i64 0, .int .i64 4, .int .i64 6, .int .i64 0, .int .i64 6, .int .i64 2, .int .i64 1, .int .i64 3, .int .i64 7, .int .i64 1, .int .i64 7, .int .i64 5] 91)) := (Below.refl _ _).alloc (Nat.le_refl _) _
      have hcs : (wr.alloc (.cells #[.int .i64 0, .int .i64 2, .int .i64 3, .int .i64 0, .int .i64 3, .int .i64 1, .int .i64 4, .int .i64 5, .int .i64 7, .int .i64 4, .int .i64 7, .int .i64 6, .int .i64 0, .int .i64 1, .int .i64 5, .int .i64 0, .int .i64 5, .int .i64 4, .int .i64 2, .int .i64 6, .int .i64 7, .int .i64 2, .int .i64 7, .int .i64 3, .int .i64 0, .int .i64 4, .int .i64 6, .int .i64 0, .int .i64 6, .int .i64 2, .int .i64 1, .int .i64 3, .int .i64 7, .int .i64 1, .int .i64 7, .int .i64 5] 91)).ownsRow W.heap.size 91 3 (.slice (some ⟨wr.heap.size, 0, none⟩) 12 12) 12 (flatV boxTs 12) :=
        World.ownsRow_lit (base := W.heap.size) (e := 91) (size := 3) wr #[.int .i64 0, .int .i64 2, .int .i64 3, .int .i64 0, .int .i64 3, .int .i64 1, .int .i64 4, .int .i64 5, .int .i64 7, .int .i64 4, .int .i64 7, .int .i64 6, .int .i64 0, .int .i64 1, .int .i64 5, .int .i64 0, .int .i64 5, .int .i64 4, .int .i64 2, .int .i64 6, .int .i64 7, .int .i64 2, .int .i64 7, .int .i64 3, .int .i64 0, .int .i64 4, .int .i64 6, .int .i64 0, .int .i64 6, .int .i64 2, .int .i64 1, .int .i64 3, .int .i64 7, .int .i64 1, .int .i64 7, .int .i64 5] 12 hbz (by decide) rfl
      have HB4 := Lib.hid (HB.out.trans (hB1.mono hbz))
      have hJ := finish_mesh W.heap.size wr.heap.size 8 pc 12 12 pa xs (boxCs d) boxTs _ (owns_up HO.out hB1) (HP.out.pv (fun j hj => boxCs_get hj)) (boxCs_len d) (cs_of_owns hcs) rfl box_3 box_wf (by decide) HB4.out.size
      rw [rV_yes (box_valid d), rT_yes (box_valid d), box_valid d, show (boxCs d).map (fun c => c) = boxCs d by simp] at hJ
      have HJ := Lib.hid hJ
      have hlen := boxCs_len d
      generalize hE1 : boxCs d = rcs at *
      generalize hE2 : boxTs = rts at *
      have HE1 := Lib.hid hE1
      have HE2 := Lib.hid hE2
      have HR3 : Hid (∀ j, j < rts.length → (rts.getD j []).length = 3) := Lib.hid (by rw [← hE2]; exact box_3)
      clear hE1 hE2 hJ hcs hB1
      go_wp2_with fail
      refine HJ.out.mono ?_
      rintro e w2 ⟨⟨sa, sc, sa', sc', rfl, hT⟩, hB2⟩
      have HB2 := Lib.hid (HB4.out.trans (hB2.mono HB4.out.size))
      have HB3 := Lib.hid (HB0.out.trans (HB2.out.mono HB0.out.size))
      have ZR2 := Lib.hid (owns_up ZR.out HB2.out)
      have NB := Lib.hid (NB.out.below HB2.out)
      have HT2 := Lib.hid (hT.low (lo' := w.heap.size) (by have := HW.out; omega))
      clear hT hB2 HJ hlen
      have z0 := cell0_of ZR2.out
      have z1 := cell1_of ZR2.out
      have f0 := ZR2.out.frozenAt 0
      have f1 := ZR2.out.frozenAt 1
      go_wp2
      have x0' : ∀ u, (w2.setCell ⟨w.heap.size, 0, none⟩ u).cell? ⟨w.heap.size, 1, none⟩ = some (.slice none 0 0) := fun u => by rw [World.cell?_setCell_other _ _ _ _ (by simp)]; exact z1
      have r1 : ∀ u v, ((w2.setCell ⟨w.heap.size, 0, none⟩ u).setCell ⟨w.heap.size, 1, none⟩ v).cell? ⟨w.heap.size, 1, none⟩ = some v := fun u v => World.cell?_setCell_same _ _ _ (x0' u)
      have r0 : ∀ u v, ((w2.setCell ⟨w.heap.size, 0, none⟩ u).setCell ⟨w.heap.size, 1, none⟩ v).cell? ⟨w.heap.size, 0, none⟩ = some u := fun u v => by rw [World.cell?_setCell_other _ _ _ _ (by simp)]; exact World.cell?_setCell_same _ _ _ z0
      obtain ⟨F, k1, k2, k3⟩ := HT2.out.keep HR3.out NB.out (.slice sa rcs.length sc) (.slice sa' rts.length sc')
      refine bodyPost_ret (v := .tuple #[.agg #[.slice sa rcs.length sc, .slice sa' rts.length sc'], .bool true]) (by simp [results, Try.results34, go_sem, r0, r1]) rfl (by
        have e1 := HE1.out
        have e2 := HE2.out
        subst e1 e2
        exact ⟨⟨sa, sc, sa', sc', F, rfl, k1, k2, k3⟩, (HB3.out.setCell (Nat.le_refl _) _).setCell (Nat.le_refl _) _⟩)
end Go.Proofs.Ytljpjmkickkcpab

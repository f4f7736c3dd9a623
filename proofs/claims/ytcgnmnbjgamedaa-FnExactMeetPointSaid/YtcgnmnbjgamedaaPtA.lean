
/-
The length of three paths: what the program and its model return. Conditions: none beyond that the words fit.
-/
import Derived.Test.YtcgnmnbjgamedaaOv
import Derived.Test.YtcgnmnbjgamedaaBet
import Derived.Test.YtcgnmnbjgamedaaZpl
namespace Go.Proofs.Ytcgnmnbjgamedaa
open Go Fk Go.RowKit
set_option linter.unusedVariables false
set_option maxRecDepth 16000

/-- The length of a vector. -/
def lenC (c : C3) : Option Nat := rootC (fop .add .f32 (fop .add .f32 (fop .mul .f32 c.1 c.1) (fop .mul .f32 c.2.1 c.2.1)) (fop .mul .f32 c.2.2 c.2.2))
/-- The difference of two. -/
def difC (c d : C3) : C3 := (fop .sub .f32 c.1 d.1, fop .sub .f32 c.2.1 d.2.1, fop .sub .f32 c.2.2 d.2.2)
/-- Three vectors. -/
abbrev e9 (x y z x' y' z' x2 y2 z2 : Nat) : Value := .agg #[.float .f32 x, .float .f32 y, .float .f32 z, .float .f32 x', .float .f32 y', .float .f32 z', .float .f32 x2, .float .f32 y2, .float .f32 z2]
theorem ends_0 (x y z x' y' z' x2 y2 z2 : Nat) : ∀ w, (Instr.index 63 (e9 x y z x' y' z' x2 y2 z2) (.int .i64 (0 : Int))).run Try.prog w = .ok (vv x y z) w := by
  have u := Try.underlying22
  have uv := Try.underlying33
  have ua := Try.underlying63
  intro w
  first
    | rfl
    | (simp [Instr.index, u, ua, uv, go_sem]; done)
    | (kernel_rfl)
theorem ends_1 (x y z x' y' z' x2 y2 z2 : Nat) : ∀ w, (Instr.index 63 (e9 x y z x' y' z' x2 y2 z2) (.int .i64 (1 : Int))).run Try.prog w = .ok (vv x' y' z') w := by
  have u := Try.underlying22
  have uv := Try.underlying33
  have ua := Try.underlying63
  intro w
  first
    | rfl
    | (simp [Instr.index, u, ua, uv, go_sem]; done)
    | (kernel_rfl)
theorem ends_2 (x y z x' y' z' x2 y2 z2 : Nat) : ∀ w, (Instr.index 63 (e9 x y z x' y' z' x2 y2 z2) (.int .i64 (2 : Int))).run Try.prog w = .ok (vv x2 y2 z2) w := by
  have u := Try.underlying22
  have uv := Try.underlying33
  have ua := Try.underlying63
  intro w
  first
    | rfl
    | (simp [Instr.index, u, ua, uv, go_sem]; done)
    | (kernel_rfl)
def pathC (p a b c : C3) : Nat → Option Nat
  | 0 => some 0
  | 1 => fop .add .f32 (some 0) (lenC (difC p a))
  | 2 => fop .add .f32 (fop .add .f32 (some 0) (lenC (difC p a))) (lenC (difC p b))
  | _ => fop .add .f32 (fop .add .f32 (fop .add .f32 (some 0) (lenC (difC p a))) (lenC (difC p b))) (lenC (difC p c))
set_option maxHeartbeats 4000000 in
theorem impl_PathLong (px py pz ax ay az bx by' bz cx cy cz : Nat) (p a b c : C3) (w : World) (hp : F3 px py pz p) (ha : F3 ax ay az a) (hb : F3 bx by' bz b) (hc : F3 cx cy cz c) :
    Calls Try.prog 26 #[vv px py pz, vv ax ay az, vv bx by' bz, vv cx cy cz] w fun e w' => ∃ r, e = .returned (.float .f32 r) ∧ FV .f32 r (pathC p a b c 3) ∧ Below w.heap.size w w' := by
  have u := Try.underlying22
  have uv := Try.underlying33
  have ue := Try.underlying63
  have HP := Lib.hid hp
  have HA := Lib.hid ha
  have HB := Lib.hid hb
  have HC := Lib.hid hc
  have bx1 := (Bx.nil w).box (vs := [.float .f32 px, .float .f32 py, .float .f32 pz]) (t := 33)
  have bx2 := bx1.box (vs := [.float .f32 ax, .float .f32 ay, .float .f32 az]) (t := 33)
  have bx3 := bx2.box (vs := [.float .f32 bx, .float .f32 by', .float .f32 bz]) (t := 33)
  have bx4 := bx3.box (vs := [.float .f32 cx, .float .f32 cy, .float .f32 cz]) (t := 33)
  have BX := Lib.hid bx4
  clear bx1 bx2 bx3 bx4
  clear hp ha hb hc
  simp at BX
  go_enter Try.func26, Try.ntmps26
  go_wp2
  generalize (((w.alloc (.cells #[.float .f32 px, .float .f32 py, .float .f32 pz] 33)).alloc (.cells #[.float .f32 ax, .float .f32 ay, .float .f32 az] 33)).alloc (.cells #[.float .f32 bx, .float .f32 by', .float .f32 bz] 33)).alloc (.cells #[.float .f32 cx, .float .f32 cy, .float .f32 cz] 33) = W at *
  have BX0 := Lib.hid BX.out.drop.drop.drop
  clear BX
  go_loopw [9, 16] (fun l i w' => ∃ k : Nat, k ≤ 3 ∧ i = .int .i64 k ∧ (∃ q, l = .float .f32 q ∧ FV .f32 q (pathC p a b c k)) ∧ Aside (Bx w [(w.heap.size, [.float .f32 px, .float .f32 py, .float .f32 pz])] w')) (fun _ i _ => 3 - (intOf i).toNat)
  case atStart => exact ⟨0, Nat.zero_le _, rfl, ⟨0, rfl, (⟨by decide, by decide⟩ : FV .f32 0 (some 0))⟩, BX0.out⟩
  case round =>
    obtain ⟨k, hk, rfl, ⟨q, rfl, hq⟩, hA⟩ := hrel
    have BX1 := Lib.hid hA.out
    have HQ := Lib.hid hq
    clear hA BX0 hq
    rcases (show k = 0 ∨ k = 1 ∨ k = 2 ∨ k = 3 by omega) with rfl | rfl | rfl | rfl
    · have hix := ends_0 ax ay az bx by' bz cx cy cz
      have p0 := (BX1.out.mem (.head _)) 0 _ rfl
      have p1 := (BX1.out.mem (.head _)) 1 _ rfl
      have p2 := (BX1.out.mem (.head _)) 2 _ rfl
      have hlt := World.block_lt_of_cell? _ _ p0
      have BX2 := Lib.hid (BX1.out.box (vs := [.float .f32 ax, .float .f32 ay, .float .f32 az]) (t := 33)).drop
      go_wp2_with fail
      clear hix p0 p1 p2 hlt
      refine (impl_LessVectors _ _ _ _ _ _ _ _ _ _ _ _ _ HP.out.1 HP.out.2.1 HP.out.2.2 HA.out.1 HA.out.2.1 HA.out.2.2).mono ?_
      rintro e w1 ⟨d0, d1, d2, rfl, f0, f1, f2, hB1⟩
      have BX3 := Lib.hid (BX2.out.call hB1)
      clear hB1
      go_wp2_with fail
      refine (impl_LongOf _ _ _ _ _ _ _ f0 f1 f2).mono ?_
      rintro e w2 ⟨r, rfl, fr, hB2⟩
      have BX4 := Lib.hid (BX3.out.call hB2)
      have HS := Lib.hid (fun w => FV_fR (op := .add) (w := w) HQ.out fr)
      clear hB2 fr f0 f1 f2
      go_wp2
      go_roundw
      case rel => exact ⟨0 + 1, by omega, rfl, ⟨_, rfl, HS.out _⟩, BX4.out.drewN _⟩
      case measure => simp [intOf]
    · have hix := ends_1 ax ay az bx by' bz cx cy cz
      have p0 := (BX1.out.mem (.head _)) 0 _ rfl
      have p1 := (BX1.out.mem (.head _)) 1 _ rfl
      have p2 := (BX1.out.mem (.head _)) 2 _ rfl
      have hlt := World.block_lt_of_cell? _ _ p0
      have BX2 := Lib.hid (BX1.out.box (vs := [.float .f32 bx, .float .f32 by', .float .f32 bz]) (t := 33)).drop
      go_wp2_with fail
      clear hix p0 p1 p2 hlt
      refine (impl_LessVectors _ _ _ _ _ _ _ _ _ _ _ _ _ HP.out.1 HP.out.2.1 HP.out.2.2 HB.out.1 HB.out.2.1 HB.out.2.2).mono ?_
      rintro e w1 ⟨d0, d1, d2, rfl, f0, f1, f2, hB1⟩
      have BX3 := Lib.hid (BX2.out.call hB1)
      clear hB1
      go_wp2_with fail
      refine (impl_LongOf _ _ _ _ _ _ _ f0 f1 f2).mono ?_
      rintro e w2 ⟨r, rfl, fr, hB2⟩
      have BX4 := Lib.hid (BX3.out.call hB2)
      have HS := Lib.hid (fun w => FV_fR (op := .add) (w := w) HQ.out fr)
      clear hB2 fr f0 f1 f2
      go_wp2
      go_roundw
      case rel => exact ⟨1 + 1, by omega, rfl, ⟨_, rfl, HS.out _⟩, BX4.out.drewN _⟩
      case measure => simp [intOf]
    · have hix := ends_2 ax ay az bx by' bz cx cy cz
      have p0 := (BX1.out.mem (.head _)) 0 _ rfl
      have p1 := (BX1.out.mem (.head _)) 1 _ rfl
      have p2 := (BX1.out.mem (.head _)) 2 _ rfl
      have hlt := World.block_lt_of_cell? _ _ p0
      have BX2 := Lib.hid (BX1.out.box (vs := [.float .f32 cx, .float .f32 cy, .float .f32 cz]) (t := 33)).drop
      go_wp2_with fail
      clear hix p0 p1 p2 hlt
      refine (impl_LessVectors _ _ _ _ _ _ _ _ _ _ _ _ _ HP.out.1 HP.out.2.1 HP.out.2.2 HC.out.1 HC.out.2.1 HC.out.2.2).mono ?_
      rintro e w1 ⟨d0, d1, d2, rfl, f0, f1, f2, hB1⟩
      have BX3 := Lib.hid (BX2.out.call hB1)
      clear hB1
      go_wp2_with fail
      refine (impl_LongOf _ _ _ _ _ _ _ f0 f1 f2).mono ?_
      rintro e w2 ⟨r, rfl, fr, hB2⟩
      have BX4 := Lib.hid (BX3.out.call hB2)
      have HS := Lib.hid (fun w => FV_fR (op := .add) (w := w) HQ.out fr)
      clear hB2 fr f0 f1 f2
      go_wp2
      go_roundw
      case rel => exact ⟨2 + 1, by omega, rfl, ⟨_, rfl, HS.out _⟩, BX4.out.drewN _⟩
      case measure => simp [intOf]
    · have HQ3 := HQ
      go_wp2
      go_ret
      exact ⟨q, rfl, HQ3.out, BX1.out.bel⟩
end Go.Proofs.Ytcgnmnbjgamedaa


/-
Vectors brought to the length one: what the model returns. Conditions: none beyond that the words fit.
-/
import Derived.Test.YtcgnmnbjgamedaaPtA
import Derived.Test.YtcgnmnbjgamedaaHoC
import Derived.Test.YtcgnmnbjgamedaaBxs
namespace Go.Proofs.Ytcgnmnbjgamedaa
open Go Fk Go.RowKit
set_option linter.unusedVariables false
set_option maxRecDepth 16000

def one32 : Option Nat := cls .f32 1065353216
theorem fv_one32 : FV .f32 1065353216 one32 := ⟨by decide, rfl⟩
theorem fv_z : FV .f32 0 (some 0) := ⟨by decide, by decide⟩
def isZ (c : Option Nat) : Bool := ford .f32 c (some 0) == some .eq
def zerV (c : C3) : Bool := isZ c.1 && (isZ c.2.1 && isZ c.2.2)
def okU (c : C3) : Bool := finV c && !zerV c
def scalC (c : C3) (q : Option Nat) : C3 := (fop .mul .f32 c.1 q, fop .mul .f32 c.2.1 q, fop .mul .f32 c.2.2 q)
def unitC (c : C3) : C3 := bif okU c then scalC c (fop .quo .f32 one32 (lenC c)) else (some 0, some 0, some 0)
theorem eq_at (x : Nat) (c : Option Nat) (h : FV .f32 x c) : ∀ w, (Op.equalIn 9999 22 (.float .f32 x) (.float .f32 0)).run Try.prog w = .ok (isZ c) w := by
  have u := Try.underlying22
  intro w
  have : isZ c = (FloatKind.f32.format.order x 0 == some .eq) := by unfold isZ; rw [ford_of h fv_z]
  rw [this]
  first
    | rfl
    | (simp [Op.equalIn, u, go_sem]; done)
    | kernel_rfl
set_option maxHeartbeats 4000000 in
theorem l08Unit (x y z : Nat) (c : C3) (w : World) (hc : F3 x y z c) :
    Calls Try.prog 57 #[vv x y z] w fun e w' => (∃ p q r, e = .returned (.tuple #[vv p q r, .bool (okU c)]) ∧ F3 p q r (unitC c)) ∧ Below w.heap.size w w' := by
  have u := Try.underlying22
  have uv := Try.underlying33
  have HC' := Lib.hid hc
  have bx1 := (Bx.nil w).box (vs := [.float .f32 x, .float .f32 y, .float .f32 z]) (t := 33)
  have bx2 := bx1.box (vs := [.float .f32 0, .float .f32 0, .float .f32 0]) (t := 33)
  simp at bx2
  have BX := Lib.hid bx2
  have e0 := eq_at x _ hc.1
  have e1 := eq_at y _ hc.2.1
  have e2 := eq_at z _ hc.2.2
  clear bx1 bx2 hc
  have hok : okU c = (finV c && !(isZ c.1 && (isZ c.2.1 && isZ c.2.2))) := rfl
  have HOK := Lib.hid hok
  clear hok
  unfold unitC
  rw [HOK.out]
  generalize hz0 : isZ c.1 = i0 at *
  generalize hz1 : isZ c.2.1 = i1 at *
  generalize hz2 : isZ c.2.2 = i2 at *
  have JF := Lib.hid (fun w => l01VFinite x y z c w HC'.out.1 HC'.out.2.1 HC'.out.2.2)
  generalize hf : finV c = ff at *
  clear hz0 hz1 hz2 HOK hf
  go_enter Try.func57, Try.ntmps57
  go_wp2_with fail
  generalize (w.alloc (.cells #[.float .f32 x, .float .f32 y, .float .f32 z] 33)).alloc (.cells #[.float .f32 0, .float .f32 0, .float .f32 0] 33) = W at *
  refine (l01Long _ _ _ _ _ _ _ HC'.out.1 HC'.out.2.1 HC'.out.2.2).mono ?_
  rintro e w1 ⟨l, rfl, fl, hB1⟩
  have BX1 := Lib.hid (BX.out.call hB1)
  have FL := Lib.hid (show FV .f32 l (lenC c) from fl)
  clear hB1 fl BX
  have y0 := (BX1.out.mem (.tail _ (.head _))) 0 _ rfl
  have y1 := (BX1.out.mem (.tail _ (.head _))) 1 _ rfl
  have y2 := (BX1.out.mem (.tail _ (.head _))) 2 _ rfl
  go_wp2_with fail
  clear y0 y1 y2
  refine (JF.out _).mono ?_
  rintro e w2 ⟨rfl, hB2⟩
  have BX2 := Lib.hid (BX1.out.call hB2)
  clear hB2 BX1
  cases ff
  · have q0 := (BX2.out.mem (.head _)) 0 _ rfl
    have q1 := (BX2.out.mem (.head _)) 1 _ rfl
    have q2 := (BX2.out.mem (.head _)) 2 _ rfl
    have p0 := BX2.out.free (.head _) 0
    have p1 := BX2.out.free (.head _) 1
    have p2 := BX2.out.free (.head _) 2
    have y0 := (BX2.out.mem (.tail _ (.head _))) 0 _ rfl
    have y1 := (BX2.out.mem (.tail _ (.head _))) 1 _ rfl
    have y2 := (BX2.out.mem (.tail _ (.head _))) 2 _ rfl
    have BX3 := Lib.hid (BX2.out.put3 (fun b' l' hm => by simp only [List.mem_cons, Prod.mk.injEq, List.not_mem_nil, or_false] at hm; omega) (.float .f32 0) (.float .f32 0) (.float .f32 0))
    go_wp2
    clear q0 q1 q2 p0 p1 p2 y0 y1 y2
    have m0 := (BX3.out.mem (.head _)) 0 _ rfl
    have m1 := (BX3.out.mem (.head _)) 1 _ rfl
    have m2 := (BX3.out.mem (.head _)) 2 _ rfl
    refine bodyPost_ret (v := .tuple #[vv 0 0 0, .bool false]) (by simp [results, Try.results57, go_sem, m0, m1, m2]) rfl ?_
    exact ⟨⟨0, 0, 0, rfl, ⟨fv_z, fv_z, fv_z⟩⟩, BX3.out.bel⟩
  · cases i0
    · have q0 := (BX2.out.mem (.head _)) 0 _ rfl
      have q1 := (BX2.out.mem (.head _)) 1 _ rfl
      have q2 := (BX2.out.mem (.head _)) 2 _ rfl
      have p0 := BX2.out.free (.head _) 0
      have p1 := BX2.out.free (.head _) 1
      have p2 := BX2.out.free (.head _) 2
      have y0 := (BX2.out.mem (.tail _ (.head _))) 0 _ rfl
      have y1 := (BX2.out.mem (.tail _ (.head _))) 1 _ rfl
      have y2 := (BX2.out.mem (.tail _ (.head _))) 2 _ rfl
      have FS := Lib.hid (fun w' => FV_fR (op := .quo) (w := w') fv_one32 FL.out)
      go_wp2_with fail
      clear q0 q1 q2 p0 p1 p2 y0 y1 y2
      refine (l01Scale _ _ _ _ _ _ _ _ _ HC'.out.1 HC'.out.2.1 HC'.out.2.2 (FS.out _)).mono ?_
      rintro e w3 ⟨p, q, r, rfl, fp, fq, fr, hB3⟩
      have BX3 := Lib.hid (BX2.out.call ((below_drewN (Below.refl _ _) _).trans (hB3.mono (by first | exact Nat.le_refl _ | simp))))
      have F := Lib.hid (And.intro fp (And.intro fq fr))
      clear hB3 fp fq fr
      have q0 := (BX3.out.mem (.head _)) 0 _ rfl
      have q1 := (BX3.out.mem (.head _)) 1 _ rfl
      have q2 := (BX3.out.mem (.head _)) 2 _ rfl
      have p0 := BX3.out.free (.head _) 0
      have p1 := BX3.out.free (.head _) 1
      have p2 := BX3.out.free (.head _) 2
      have BX4 := Lib.hid (BX3.out.put3 (fun b' l' hm => by simp only [List.mem_cons, Prod.mk.injEq, List.not_mem_nil, or_false] at hm; omega) (.float .f32 p) (.float .f32 q) (.float .f32 r))
      go_wp2
      clear q0 q1 q2 p0 p1 p2
      have m0 := (BX4.out.mem (.head _)) 0 _ rfl
      have m1 := (BX4.out.mem (.head _)) 1 _ rfl
      have m2 := (BX4.out.mem (.head _)) 2 _ rfl
      refine bodyPost_ret (v := .tuple #[vv p q r, .bool true]) (by simp [results, Try.results57, go_sem, m0, m1, m2]) rfl ?_
      exact ⟨⟨p, q, r, rfl, F.out⟩, BX4.out.bel⟩
    · cases i1
      · have q0 := (BX2.out.mem (.head _)) 0 _ rfl
        have q1 := (BX2.out.mem (.head _)) 1 _ rfl
        have q2 := (BX2.out.mem (.head _)) 2 _ rfl
        have p0 := BX2.out.free (.head _) 0
        have p1 := BX2.out.free (.head _) 1
        have p2 := BX2.out.free (.head _) 2
        have y0 := (BX2.out.mem (.tail _ (.head _))) 0 _ rfl
        have y1 := (BX2.out.mem (.tail _ (.head _))) 1 _ rfl
        have y2 := (BX2.out.mem (.tail _ (.head _))) 2 _ rfl
        have FS := Lib.hid (fun w' => FV_fR (op := .quo) (w := w') fv_one32 FL.out)
        go_wp2_with fail
        clear q0 q1 q2 p0 p1 p2 y0 y1 y2
        refine (l01Scale _ _ _ _ _ _ _ _ _ HC'.out.1 HC'.out.2.1 HC'.out.2.2 (FS.out _)).mono ?_
        rintro e w3 ⟨p, q, r, rfl, fp, fq, fr, hB3⟩
        have BX3 := Lib.hid (BX2.out.call ((below_drewN (Below.refl _ _) _).trans (hB3.mono (by first | exact Nat.le_refl _ | simp))))
        have F := Lib.hid (And.intro fp (And.intro fq fr))
        clear hB3 fp fq fr
        have q0 := (BX3.out.mem (.head _)) 0 _ rfl
        have q1 := (BX3.out.mem (.head _)) 1 _ rfl
        have q2 := (BX3.out.mem (.head _)) 2 _ rfl
        have p0 := BX3.out.free (.head _) 0
        have p1 := BX3.out.free (.head _) 1
        have p2 := BX3.out.free (.head _) 2
        have BX4 := Lib.hid (BX3.out.put3 (fun b' l' hm => by simp only [List.mem_cons, Prod.mk.injEq, List.not_mem_nil, or_false] at hm; omega) (.float .f32 p) (.float .f32 q) (.float .f32 r))
        go_wp2
        clear q0 q1 q2 p0 p1 p2
        have m0 := (BX4.out.mem (.head _)) 0 _ rfl
        have m1 := (BX4.out.mem (.head _)) 1 _ rfl
        have m2 := (BX4.out.mem (.head _)) 2 _ rfl
        refine bodyPost_ret (v := .tuple #[vv p q r, .bool true]) (by simp [results, Try.results57, go_sem, m0, m1, m2]) rfl ?_
        exact ⟨⟨p, q, r, rfl, F.out⟩, BX4.out.bel⟩
      · cases i2
        · have q0 := (BX2.out.mem (.head _)) 0 _ rfl
          have q1 := (BX2.out.mem (.head _)) 1 _ rfl
          have q2 := (BX2.out.mem (.head _)) 2 _ rfl
          have p0 := BX2.out.free (.head _) 0
          have p1 := BX2.out.free (.head _) 1
          have p2 := BX2.out.free (.head _) 2
          have y0 := (BX2.out.mem (.tail _ (.head _))) 0 _ rfl
          have y1 := (BX2.out.mem (.tail _ (.head _))) 1 _ rfl
          have y2 := (BX2.out.mem (.tail _ (.head _))) 2 _ rfl
          have FS := Lib.hid (fun w' => FV_fR (op := .quo) (w := w') fv_one32 FL.out)
          go_wp2_with fail
          clear q0 q1 q2 p0 p1 p2 y0 y1 y2
          refine (l01Scale _ _ _ _ _ _ _ _ _ HC'.out.1 HC'.out.2.1 HC'.out.2.2 (FS.out _)).mono ?_
          rintro e w3 ⟨p, q, r, rfl, fp, fq, fr, hB3⟩
          have BX3 := Lib.hid (BX2.out.call ((below_drewN (Below.refl _ _) _).trans (hB3.mono (by first | exact Nat.le_refl _ | simp))))
          have F := Lib.hid (And.intro fp (And.intro fq fr))
          clear hB3 fp fq fr
          have q0 := (BX3.out.mem (.head _)) 0 _ rfl
          have q1 := (BX3.out.mem (.head _)) 1 _ rfl
          have q2 := (BX3.out.mem (.head _)) 2 _ rfl
          have p0 := BX3.out.free (.head _) 0
          have p1 := BX3.out.free (.head _) 1
          have p2 := BX3.out.free (.head _) 2
          have BX4 := Lib.hid (BX3.out.put3 (fun b' l' hm => by simp only [List.mem_cons, Prod.mk.injEq, List.not_mem_nil, or_false] at hm; omega) (.float .f32 p) (.float .f32 q) (.float .f32 r))
          go_wp2
          clear q0 q1 q2 p0 p1 p2
          have m0 := (BX4.out.mem (.head _)) 0 _ rfl
          have m1 := (BX4.out.mem (.head _)) 1 _ rfl
          have m2 := (BX4.out.mem (.head _)) 2 _ rfl
          refine bodyPost_ret (v := .tuple #[vv p q r, .bool true]) (by simp [results, Try.results57, go_sem, m0, m1, m2]) rfl ?_
          exact ⟨⟨p, q, r, rfl, F.out⟩, BX4.out.bel⟩
        · have q0 := (BX2.out.mem (.head _)) 0 _ rfl
          have q1 := (BX2.out.mem (.head _)) 1 _ rfl
          have q2 := (BX2.out.mem (.head _)) 2 _ rfl
          have p0 := BX2.out.free (.head _) 0
          have p1 := BX2.out.free (.head _) 1
          have p2 := BX2.out.free (.head _) 2
          have y0 := (BX2.out.mem (.tail _ (.head _))) 0 _ rfl
          have y1 := (BX2.out.mem (.tail _ (.head _))) 1 _ rfl
          have y2 := (BX2.out.mem (.tail _ (.head _))) 2 _ rfl
          have BX3 := Lib.hid (BX2.out.put3 (fun b' l' hm => by simp only [List.mem_cons, Prod.mk.injEq, List.not_mem_nil, or_false] at hm; omega) (.float .f32 0) (.float .f32 0) (.float .f32 0))
          go_wp2
          clear q0 q1 q2 p0 p1 p2 y0 y1 y2
          have m0 := (BX3.out.mem (.head _)) 0 _ rfl
          have m1 := (BX3.out.mem (.head _)) 1 _ rfl
          have m2 := (BX3.out.mem (.head _)) 2 _ rfl
          refine bodyPost_ret (v := .tuple #[vv 0 0 0, .bool false]) (by simp [results, Try.results57, go_sem, m0, m1, m2]) rfl ?_
          exact ⟨⟨0, 0, 0, rfl, ⟨fv_z, fv_z, fv_z⟩⟩, BX3.out.bel⟩
end Go.Proofs.Ytcgnmnbjgamedaa

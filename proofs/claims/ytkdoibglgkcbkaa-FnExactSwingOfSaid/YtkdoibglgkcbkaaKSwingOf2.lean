/-
Texts in one: what SwingOf stands on, part 2. Conditions: those of each.
-/
import Derived.Test.YtkdoibglgkcbkaaKSwingOf1
import Derived.Below
import Derived.Deep.RegionHeld3

/-
What the functions on vectors return, of the program and of its model. Conditions: none beyond that the words fit.
-/
namespace Go.Proofs.Ytkdoibglgkcbkaa
open Go Fk Go.RowKit
set_option linter.unusedVariables false

abbrev vv (x y z : Nat) : Value := .agg #[.float .f32 x, .float .f32 y, .float .f32 z]
theorem bcell {W w1 : World} (hb : Below W.heap.size W w1) : (∀ b o, b < W.heap.size → w1.cell? ⟨b, o, none⟩ = W.cell? ⟨b, o, none⟩) ∧ (∀ b o, b < W.heap.size → w1.frozen? ⟨b, o, none⟩ = W.frozen? ⟨b, o, none⟩) :=
  ⟨fun b o h => hb.cell (p := ⟨b, o, none⟩) h, fun b o h => hb.frozen (p := ⟨b, o, none⟩) h⟩
theorem cell_alloc {w : World} {o : Obj} {b i : Nat} {v : Value} (hc : w.cell? ⟨b, i, none⟩ = some v) : (w.alloc o).cell? ⟨b, i, none⟩ = some v := by
  have h : (⟨b, i, none⟩ : Addr).block < w.heap.size := World.block_lt_of_cell? w _ hc
  rw [World.cell?_alloc_lt (h := h)]; exact hc
theorem new0 {w : World} {u v t : Value} {T : TypeId} : (w.alloc (.cells #[u, v, t] T)).cell? ⟨w.heap.size, 0, none⟩ = some u := by simp
theorem new1 {w : World} {u v t : Value} {T : TypeId} : (w.alloc (.cells #[u, v, t] T)).cell? ⟨w.heap.size, 1, none⟩ = some v := by simp
theorem new2 {w : World} {u v t : Value} {T : TypeId} : (w.alloc (.cells #[u, v, t] T)).cell? ⟨w.heap.size, 2, none⟩ = some t := by simp
theorem newf {w : World} {u v t : Value} {T : TypeId} {i : Nat} : (w.alloc (.cells #[u, v, t] T)).frozen? ⟨w.heap.size, i, none⟩ = false := by simp
theorem frz_drew {w : World} {a : Addr} {b : Bool} (h : w.frozen? a = b) : w.drew.frozen? a = b := h
theorem frz_drewN {w : World} {n : Nat} {a : Addr} {b : Bool} (h : w.frozen? a = b) : (w.drewN n).frozen? a = b := h
theorem set3 {w : World} {n : Nat} {u v t u0 v0 t0 : Value} (h0 : w.cell? ⟨n, 0, none⟩ = some u0) (h1 : w.cell? ⟨n, 1, none⟩ = some v0) (h2 : w.cell? ⟨n, 2, none⟩ = some t0) :
    (((w.setCell ⟨n, 0, none⟩ u).setCell ⟨n, 1, none⟩ v).setCell ⟨n, 2, none⟩ t).cell? ⟨n, 0, none⟩ = some u ∧ (((w.setCell ⟨n, 0, none⟩ u).setCell ⟨n, 1, none⟩ v).setCell ⟨n, 2, none⟩ t).cell? ⟨n, 1, none⟩ = some v ∧ (((w.setCell ⟨n, 0, none⟩ u).setCell ⟨n, 1, none⟩ v).setCell ⟨n, 2, none⟩ t).cell? ⟨n, 2, none⟩ = some t := by
  have a0 := World.cell?_setCell_same w ⟨n, 0, none⟩ u h0
  have a1 : (w.setCell ⟨n, 0, none⟩ u).cell? ⟨n, 1, none⟩ = some v0 := by rw [World.cell?_setCell_other _ _ _ _ (by simp)]; exact h1
  have a2 : (w.setCell ⟨n, 0, none⟩ u).cell? ⟨n, 2, none⟩ = some t0 := by rw [World.cell?_setCell_other _ _ _ _ (by simp)]; exact h2
  have b1 := World.cell?_setCell_same (w.setCell ⟨n, 0, none⟩ u) ⟨n, 1, none⟩ v a1
  have b2 : ((w.setCell ⟨n, 0, none⟩ u).setCell ⟨n, 1, none⟩ v).cell? ⟨n, 2, none⟩ = some t0 := by rw [World.cell?_setCell_other _ _ _ _ (by simp)]; exact a2
  refine ⟨?_, ?_, World.cell?_setCell_same _ _ _ b2⟩
  · rw [World.cell?_setCell_other _ _ _ _ (by simp), World.cell?_setCell_other _ _ _ _ (by simp)]; exact a0
  · rw [World.cell?_setCell_other _ _ _ _ (by simp)]; exact b1
theorem frozen_below {W w : World} {b i : Nat} (hb : Below W.heap.size W w) (h : b < W.heap.size) (hf : W.frozen? ⟨b, i, none⟩ = false) : w.frozen? ⟨b, i, none⟩ = false := by
  rw [hb.frozen (p := ⟨b, i, none⟩) h]; exact hf
theorem cell_drew {w : World} {a : Addr} {v : Value} (hc : w.cell? a = some v) : w.drew.cell? a = some v := hc
theorem cell_drewN {w : World} {n : Nat} {a : Addr} {v : Value} (hc : w.cell? a = some v) : (w.drewN n).cell? a = some v := hc
theorem cell_set {w : World} {a : Addr} {u v : Value} {b i : Nat} (hne : a.block ≠ b) (hc : w.cell? ⟨b, i, none⟩ = some v) : (w.setCell a u).cell? ⟨b, i, none⟩ = some v := by
  rw [World.cell?_setCell_far (h := hne)]; exact hc
theorem below_call {B : Nat} {w0 W w1 : World} (hp : Below B w0 W) (hB : B ≤ w0.heap.size) (hb : Below W.heap.size W w1) : Below B w0 w1 := hp.trans (hb.mono (Nat.le_trans hB hp.size))
theorem below_set3 {B : Nat} {w0 W : World} {n o1 o2 o3 : Nat} {u v t : Value} (hp : Below B w0 W) (hn : B ≤ n) : Below B w0 (((W.setCell ⟨n, o1, none⟩ u).setCell ⟨n, o2, none⟩ v).setCell ⟨n, o3, none⟩ t) := ((hp.setCell hn _).setCell hn _).setCell hn _
theorem below_new {B : Nat} {w0 W : World} {o : Obj} (hp : Below B w0 W) (hB : B ≤ w0.heap.size) : Below B w0 (W.alloc o) := hp.alloc (Nat.le_trans hB hp.size) _
theorem cell_below {W w : World} {b i : Nat} {v : Value} (hb : Below W.heap.size W w) (hc : W.cell? ⟨b, i, none⟩ = some v) : w.cell? ⟨b, i, none⟩ = some v := by
  have h : b < W.heap.size := World.block_lt_of_cell? W _ hc
  rw [hb.cell (p := ⟨b, i, none⟩) h]; exact hc

theorem impl_AddVectors (x y z x' y' z' : Nat) (w : World) (c d e c' d' e' : Option Nat) (h1 : FV .f32 x c) (h2 : FV .f32 y d) (h3 : FV .f32 z e) (h1' : FV .f32 x' c') (h2' : FV .f32 y' d') (h3' : FV .f32 z' e') :
    Calls Try.prog 164 #[vv x y z, vv x' y' z'] w fun en w' => ∃ a b g, en = .returned (vv a b g) ∧ FV .f32 a (fop .add .f32 c c') ∧ FV .f32 b (fop .add .f32 d d') ∧ FV .f32 g (fop .add .f32 e e') ∧ Below w.heap.size w w' := by
  have u := Try.underlying22
  have uv := Try.underlying67
  go_enter Try.func164, Try.ntmps164
  go_wp2
  refine bodyPost_ret (v := vv _ _ _) (by simp [results, Try.results164, go_sem]; exact ⟨rfl, rfl, rfl⟩) rfl ⟨_, _, _, rfl, FV_fR h1 h1', FV_fR h2 h2', FV_fR h3 h3', ?_⟩
  exact below_drewN ((((Below.refl _ _).alloc (Nat.le_refl _) _).alloc (by simp) _).alloc (by simp; omega) _) _
theorem l01Add (x y z x' y' z' : Nat) (w : World) (c d e c' d' e' : Option Nat) (h1 : FV .f32 x c) (h2 : FV .f32 y d) (h3 : FV .f32 z e) (h1' : FV .f32 x' c') (h2' : FV .f32 y' d') (h3' : FV .f32 z' e') :
    Calls Try.prog 86 #[vv x y z, vv x' y' z'] w fun en w' => ∃ a b g, en = .returned (vv a b g) ∧ FV .f32 a (fop .add .f32 c c') ∧ FV .f32 b (fop .add .f32 d d') ∧ FV .f32 g (fop .add .f32 e e') ∧ Below w.heap.size w w' := by
  have u := Try.underlying22
  have uv := Try.underlying67
  go_enter Try.func86, Try.ntmps86
  go_wp2
  refine bodyPost_ret (v := vv _ _ _) (by simp [results, Try.results86, go_sem]; exact ⟨rfl, rfl, rfl⟩) rfl ⟨_, _, _, rfl, FV_fR h1 h1', FV_fR h2 h2', FV_fR h3 h3', ?_⟩
  exact below_drewN ((((Below.refl _ _).alloc (Nat.le_refl _) _).alloc (by simp) _).alloc (by simp; omega) _) _
theorem impl_LessVectors (x y z x' y' z' : Nat) (w : World) (c d e c' d' e' : Option Nat) (h1 : FV .f32 x c) (h2 : FV .f32 y d) (h3 : FV .f32 z e) (h1' : FV .f32 x' c') (h2' : FV .f32 y' d') (h3' : FV .f32 z' e') :
    Calls Try.prog 132 #[vv x y z, vv x' y' z'] w fun en w' => ∃ a b g, en = .returned (vv a b g) ∧ FV .f32 a (fop .sub .f32 c c') ∧ FV .f32 b (fop .sub .f32 d d') ∧ FV .f32 g (fop .sub .f32 e e') ∧ Below w.heap.size w w' := by
  have u := Try.underlying22
  have uv := Try.underlying67
  go_enter Try.func132, Try.ntmps132
  go_wp2
  refine bodyPost_ret (v := vv _ _ _) (by simp [results, Try.results132, go_sem]; exact ⟨rfl, rfl, rfl⟩) rfl ⟨_, _, _, rfl, FV_fR h1 h1', FV_fR h2 h2', FV_fR h3 h3', ?_⟩
  exact below_drewN ((((Below.refl _ _).alloc (Nat.le_refl _) _).alloc (by simp) _).alloc (by simp; omega) _) _
theorem l01Less (x y z x' y' z' : Nat) (w : World) (c d e c' d' e' : Option Nat) (h1 : FV .f32 x c) (h2 : FV .f32 y d) (h3 : FV .f32 z e) (h1' : FV .f32 x' c') (h2' : FV .f32 y' d') (h3' : FV .f32 z' e') :
    Calls Try.prog 88 #[vv x y z, vv x' y' z'] w fun en w' => ∃ a b g, en = .returned (vv a b g) ∧ FV .f32 a (fop .sub .f32 c c') ∧ FV .f32 b (fop .sub .f32 d d') ∧ FV .f32 g (fop .sub .f32 e e') ∧ Below w.heap.size w w' := by
  have u := Try.underlying22
  have uv := Try.underlying67
  go_enter Try.func88, Try.ntmps88
  go_wp2
  refine bodyPost_ret (v := vv _ _ _) (by simp [results, Try.results88, go_sem]; exact ⟨rfl, rfl, rfl⟩) rfl ⟨_, _, _, rfl, FV_fR h1 h1', FV_fR h2 h2', FV_fR h3 h3', ?_⟩
  exact below_drewN ((((Below.refl _ _).alloc (Nat.le_refl _) _).alloc (by simp) _).alloc (by simp; omega) _) _
theorem laws_toVector (x y z : Nat) (w : World) :
    Calls Try.prog 55 #[vv x y z] w fun en w' => en = .returned (vv x y z) ∧ Below w.heap.size w w' := by
  have u := Try.underlying22
  have uv := Try.underlying67
  go_enter Try.func55, Try.ntmps55
  go_wp2
  refine bodyPost_ret (v := vv x y z) (by simp [results, Try.results55, go_sem]) rfl ⟨rfl, ?_⟩
  exact (((Below.refl _ _).alloc (Nat.le_refl _) _).alloc (by simp) _).alloc (by simp; omega) _
theorem laws_eqVector (x y z x' y' z' : Nat) (w : World) (c d e : Option Nat) (h1 : FV .f32 x c) (h2 : FV .f32 y d) (h3 : FV .f32 z e) (h1' : FV .f32 x' c) (h2' : FV .f32 y' d) (h3' : FV .f32 z' e) :
    Calls Try.prog 59 #[vv x y z, vv x' y' z'] w fun en w' => en = .returned (.bool true) ∧ Below w.heap.size w w' := by
  have u := Try.underlying22
  have u' := Try.underlying26
  have uv := Try.underlying67
  go_enter Try.func59, Try.ntmps59
  go_wp2_with (go_at_call 15; refine (laws_sameFloat _ _ _ _ (FV_wR (by assumption)) (FV_wR (by assumption))).mono ?_; rintro en w' ⟨rfl, n1, rfl⟩)
  go_ret
  exact ⟨rfl, below_drewN (((Below.refl _ _).alloc (Nat.le_refl _) _).alloc (by simp) _) _⟩

end Go.Proofs.Ytkdoibglgkcbkaa


/-
Finite numbers and measures, by the program and by its model. Conditions: none beyond that the words fit.
-/
namespace Go.Proofs.Ytkdoibglgkcbkaa
open Go Fk Go.RowKit
set_option linter.unusedVariables false
set_option maxRecDepth 8000
def sizeB (x : Nat) : Bool := finB x && (FloatKind.f32.format.order x 0 == some .gt)
def finC (c : Option Nat) : Bool := match c with | none => false | some x => finB x
def sizeC (c : Option Nat) : Bool := match c with | none => false | some x => sizeB x
theorem Fk.FV.fin {x : Nat} {c : Option Nat} (h : FV .f32 x c) : finB x = finC c := by
  cases c with
  | none =>
    have := h.nan
    have h2 : nan32 x = true := this
    rw [nan32_iff, decide_eq_true_eq] at h2
    show finB x = false
    unfold finB
    exact decide_eq_false (by omega)
  | some y => rw [h.num]; rfl
theorem Fk.FV.size {x : Nat} {c : Option Nat} (h : FV .f32 x c) : sizeB x = sizeC c := by
  cases c with
  | none =>
    show sizeB x = false
    unfold sizeB
    rw [Fk.FV.fin h]; rfl
  | some y => rw [h.num]; rfl
theorem impl_isMeasure (x : Nat) (w : World) (hx : x < 4294967296) :
    Calls Try.prog 52 #[.float .f32 x] w fun e w' => e = .returned (.bool (sizeB x)) ∧ ∃ n, w' = w.drewN n := by
  have u := Try.underlying22
  unfold sizeB
  have HJ := Lib.hid (fun w => impl_IsFinite x w hx)
  generalize finB x = f at *
  cases f
  · go_enter Try.func52, Try.ntmps52
    go_wp2_with (go_at_call 94; refine (HJ.out _).mono ?_; rintro e w1 ⟨rfl, n, hw⟩; rw [hw]; clear hw w1)
    go_ret
    exact ⟨rfl, _, rfl⟩
  · go_enter Try.func52, Try.ntmps52
    go_wp2_with (go_at_call 94; refine (HJ.out _).mono ?_; rintro e w1 ⟨rfl, n, hw⟩; rw [hw]; clear hw w1)
    go_ret
    exact ⟨rfl, _, rfl⟩
theorem l02Size (x : Nat) (w : World) (hx : x < 4294967296) :
    Calls Try.prog 79 #[.float .f32 x] w fun e w' => e = .returned (.bool (sizeB x)) ∧ ∃ n, w' = w.drewN n := by
  have u := Try.underlying22
  unfold sizeB
  have HJ := Lib.hid (fun w => l01Finite x w hx)
  generalize finB x = f at *
  cases f
  · go_enter Try.func79, Try.ntmps79
    go_wp2_with (go_at_call 83; refine (HJ.out _).mono ?_; rintro e w1 ⟨rfl, n, hw⟩; rw [hw]; clear hw w1)
    go_ret
    exact ⟨rfl, _, rfl⟩
  · go_enter Try.func79, Try.ntmps79
    go_wp2_with (go_at_call 83; refine (HJ.out _).mono ?_; rintro e w1 ⟨rfl, n, hw⟩; rw [hw]; clear hw w1)
    go_ret
    exact ⟨rfl, _, rfl⟩
/-- An amount and a volume. -/
def gasB (c d : Option Nat) : Bool := finC c && sizeC d
theorem Fk.FV.zero : FV .f32 0 (some 0) := ⟨by decide, by decide⟩
def pressC (c d : Option Nat) : Option Nat := bif gasB c d then fop .quo .f32 c d else some 0
end Go.Proofs.Ytkdoibglgkcbkaa


/-
Between two vectors, and lengths: what the program and its model return. Conditions: none beyond that the words fit.
-/
import Derived.Test.YtajglpkeojaelaaInn
import Derived.Test.YtajglpkeojaelaaRoot
namespace Go.Proofs.Ytajglpkeojaelaa
open Go Fk Go.RowKit
set_option linter.unusedVariables false

set_option maxHeartbeats 1000000 in
theorem impl_BetweenVectors (x y z x' y' z' r : Nat) (w : World) (c d e c' d' e' q : Option Nat) (h1 : FV .f32 x c) (h2 : FV .f32 y d) (h3 : FV .f32 z e) (h1' : FV .f32 x' c') (h2' : FV .f32 y' d') (h3' : FV .f32 z' e') (hr : FV .f32 r q) :
    Calls Try.prog 129 #[vv x y z, vv x' y' z', .float .f32 r] w fun en w' => ∃ a b g, en = .returned (vv a b g) ∧ FV .f32 a (fop .add .f32 c (fop .mul .f32 (fop .sub .f32 c' c) q)) ∧ FV .f32 b (fop .add .f32 d (fop .mul .f32 (fop .sub .f32 d' d) q)) ∧ FV .f32 g (fop .add .f32 e (fop .mul .f32 (fop .sub .f32 e' e) q)) ∧ Below w.heap.size w w' := by
  have u := Try.underlying27
  have uv := Try.underlying40
  go_enter Try.func129, Try.ntmps129
  go_wp2_with fail
  have c0 : (((w.alloc (.cells #[.float .f32 x, .float .f32 y, .float .f32 z] 40)).alloc (.cells #[.float .f32 x', .float .f32 y', .float .f32 z'] 40)).alloc (.cells #[.float .f32 0, .float .f32 0, .float .f32 0] 40)).cell? ⟨w.heap.size, 0, none⟩ = some (.float .f32 x) := by go_simp
  have c1 : (((w.alloc (.cells #[.float .f32 x, .float .f32 y, .float .f32 z] 40)).alloc (.cells #[.float .f32 x', .float .f32 y', .float .f32 z'] 40)).alloc (.cells #[.float .f32 0, .float .f32 0, .float .f32 0] 40)).cell? ⟨w.heap.size, 1, none⟩ = some (.float .f32 y) := by go_simp
  have c2 : (((w.alloc (.cells #[.float .f32 x, .float .f32 y, .float .f32 z] 40)).alloc (.cells #[.float .f32 x', .float .f32 y', .float .f32 z'] 40)).alloc (.cells #[.float .f32 0, .float .f32 0, .float .f32 0] 40)).cell? ⟨w.heap.size, 2, none⟩ = some (.float .f32 z) := by go_simp
  have c3 : (((w.alloc (.cells #[.float .f32 x, .float .f32 y, .float .f32 z] 40)).alloc (.cells #[.float .f32 x', .float .f32 y', .float .f32 z'] 40)).alloc (.cells #[.float .f32 0, .float .f32 0, .float .f32 0] 40)).cell? ⟨w.heap.size + 1, 0, none⟩ = some (.float .f32 x') := by go_simp
  have c4 : (((w.alloc (.cells #[.float .f32 x, .float .f32 y, .float .f32 z] 40)).alloc (.cells #[.float .f32 x', .float .f32 y', .float .f32 z'] 40)).alloc (.cells #[.float .f32 0, .float .f32 0, .float .f32 0] 40)).cell? ⟨w.heap.size + 1, 1, none⟩ = some (.float .f32 y') := by go_simp
  have c5 : (((w.alloc (.cells #[.float .f32 x, .float .f32 y, .float .f32 z] 40)).alloc (.cells #[.float .f32 x', .float .f32 y', .float .f32 z'] 40)).alloc (.cells #[.float .f32 0, .float .f32 0, .float .f32 0] 40)).cell? ⟨w.heap.size + 1, 2, none⟩ = some (.float .f32 z') := by go_simp
  have q0 : (((w.alloc (.cells #[.float .f32 x, .float .f32 y, .float .f32 z] 40)).alloc (.cells #[.float .f32 x', .float .f32 y', .float .f32 z'] 40)).alloc (.cells #[.float .f32 0, .float .f32 0, .float .f32 0] 40)).cell? ⟨w.heap.size + 1 + 1, 0, none⟩ = some (.float .f32 0) := by go_simp
  have z0 : (((w.alloc (.cells #[.float .f32 x, .float .f32 y, .float .f32 z] 40)).alloc (.cells #[.float .f32 x', .float .f32 y', .float .f32 z'] 40)).alloc (.cells #[.float .f32 0, .float .f32 0, .float .f32 0] 40)).frozen? ⟨w.heap.size + 1 + 1, 0, none⟩ = false := by go_simp
  have q1 : (((w.alloc (.cells #[.float .f32 x, .float .f32 y, .float .f32 z] 40)).alloc (.cells #[.float .f32 x', .float .f32 y', .float .f32 z'] 40)).alloc (.cells #[.float .f32 0, .float .f32 0, .float .f32 0] 40)).cell? ⟨w.heap.size + 1 + 1, 1, none⟩ = some (.float .f32 0) := by go_simp
  have z1 : (((w.alloc (.cells #[.float .f32 x, .float .f32 y, .float .f32 z] 40)).alloc (.cells #[.float .f32 x', .float .f32 y', .float .f32 z'] 40)).alloc (.cells #[.float .f32 0, .float .f32 0, .float .f32 0] 40)).frozen? ⟨w.heap.size + 1 + 1, 1, none⟩ = false := by go_simp
  have q2 : (((w.alloc (.cells #[.float .f32 x, .float .f32 y, .float .f32 z] 40)).alloc (.cells #[.float .f32 x', .float .f32 y', .float .f32 z'] 40)).alloc (.cells #[.float .f32 0, .float .f32 0, .float .f32 0] 40)).cell? ⟨w.heap.size + 1 + 1, 2, none⟩ = some (.float .f32 0) := by go_simp
  have z2 : (((w.alloc (.cells #[.float .f32 x, .float .f32 y, .float .f32 z] 40)).alloc (.cells #[.float .f32 x', .float .f32 y', .float .f32 z'] 40)).alloc (.cells #[.float .f32 0, .float .f32 0, .float .f32 0] 40)).frozen? ⟨w.heap.size + 1 + 1, 2, none⟩ = false := by go_simp
  have hs : w.heap.size + 1 + 1 < (((w.alloc (.cells #[.float .f32 x, .float .f32 y, .float .f32 z] 40)).alloc (.cells #[.float .f32 x', .float .f32 y', .float .f32 z'] 40)).alloc (.cells #[.float .f32 0, .float .f32 0, .float .f32 0] 40)).heap.size := by simp
  have hB0 : Below w.heap.size w (((w.alloc (.cells #[.float .f32 x, .float .f32 y, .float .f32 z] 40)).alloc (.cells #[.float .f32 x', .float .f32 y', .float .f32 z'] 40)).alloc (.cells #[.float .f32 0, .float .f32 0, .float .f32 0] 40)) := (((Below.refl _ _).alloc (Nat.le_refl _) _).alloc (by simp) _).alloc (by simp; omega) _
  generalize ((w.alloc (.cells #[.float .f32 x, .float .f32 y, .float .f32 z] 40)).alloc (.cells #[.float .f32 x', .float .f32 y', .float .f32 z'] 40)).alloc (.cells #[.float .f32 0, .float .f32 0, .float .f32 0] 40) = w0 at *
  go_region_held3 (fun w' => w'.cell? ⟨w.heap.size, 0, none⟩ = some (.float .f32 x) ∧ w'.cell? ⟨w.heap.size, 1, none⟩ = some (.float .f32 y) ∧ w'.cell? ⟨w.heap.size, 2, none⟩ = some (.float .f32 z) ∧ w'.cell? ⟨w.heap.size + 1, 0, none⟩ = some (.float .f32 x') ∧ w'.cell? ⟨w.heap.size + 1, 1, none⟩ = some (.float .f32 y') ∧ w'.cell? ⟨w.heap.size + 1, 2, none⟩ = some (.float .f32 z'))
    ((exact ⟨by (repeat (first | with_reducible exact c0 | with_reducible refine cell_drew ?_ | with_reducible refine cell_drewN ?_ | (with_reducible refine cell_set ?_ ?_; focus (first | omega | (simp <;> omega))) | with_reducible refine cell_below hB1 ?_)), by (repeat (first | with_reducible exact c1 | with_reducible refine cell_drew ?_ | with_reducible refine cell_drewN ?_ | (with_reducible refine cell_set ?_ ?_; focus (first | omega | (simp <;> omega))) | with_reducible refine cell_below hB1 ?_)), by (repeat (first | with_reducible exact c2 | with_reducible refine cell_drew ?_ | with_reducible refine cell_drewN ?_ | (with_reducible refine cell_set ?_ ?_; focus (first | omega | (simp <;> omega))) | with_reducible refine cell_below hB1 ?_)), by (repeat (first | with_reducible exact c3 | with_reducible refine cell_drew ?_ | with_reducible refine cell_drewN ?_ | (with_reducible refine cell_set ?_ ?_; focus (first | omega | (simp <;> omega))) | with_reducible refine cell_below hB1 ?_)), by (repeat (first | with_reducible exact c4 | with_reducible refine cell_drew ?_ | with_reducible refine cell_drewN ?_ | (with_reducible refine cell_set ?_ ?_; focus (first | omega | (simp <;> omega))) | with_reducible refine cell_below hB1 ?_)), by (repeat (first | with_reducible exact c5 | with_reducible refine cell_drew ?_ | with_reducible refine cell_drewN ?_ | (with_reducible refine cell_set ?_ ?_; focus (first | omega | (simp <;> omega))) | with_reducible refine cell_below hB1 ?_))⟩))
    (first
      | (go_at_call 99; refine (impl_LessVectors _ _ _ _ _ _ _ _ _ _ _ _ _ h1' h2' h3' h1 h2 h3).mono ?_; rintro en w1 ⟨a1, b1, g1, rfl, ha1, hb1', hg1, hb1⟩; (obtain hB1 : Below w0.heap.size w0 w1 := by (refine below_call ?_ (Nat.le_refl _) hb1; (repeat (first | with_reducible exact hB1 | with_reducible exact Below.refl _ _ | with_reducible refine Below.drew ?_ | with_reducible refine below_drewN ?_ _)); done)); have k0 := cell_below hB1 q0; have l0 := frozen_below hB1 hs z0; have k1 := cell_below hB1 q1; have l1 := frozen_below hB1 hs z1; have k2 := cell_below hB1 q2; have l2 := frozen_below hB1 hs z2)
      | (go_at_call 106; refine (impl_ScaleVector _ _ _ _ _ _ _ _ _ ha1 hb1' hg1 hr).mono ?_; rintro en w1 ⟨a2, b2, g2, rfl, ha2, hb2, hg2, hb1⟩; (obtain hB1 : Below w0.heap.size w0 w1 := by (refine below_call ?_ (Nat.le_refl _) hb1; (repeat (first | with_reducible exact hB1 | with_reducible exact Below.refl _ _ | with_reducible refine Below.drew ?_ | with_reducible refine below_drewN ?_ _)); done)); have k0 := cell_below hB1 q0; have l0 := frozen_below hB1 hs z0; have k1 := cell_below hB1 q1; have l1 := frozen_below hB1 hs z1; have k2 := cell_below hB1 q2; have l2 := frozen_below hB1 hs z2)
      | (go_at_call 149; refine (impl_AddVectors _ _ _ _ _ _ _ _ _ _ _ _ _ h1 h2 h3 ha2 hb2 hg2).mono ?_; rintro en w1 ⟨a, b, g, rfl, ha, hb, hg, hb1⟩; (obtain hB1 : Below w0.heap.size w0 w1 := by (refine below_call ?_ (Nat.le_refl _) hb1; (repeat (first | with_reducible exact hB1 | with_reducible exact Below.refl _ _ | with_reducible refine Below.drew ?_ | with_reducible refine below_drewN ?_ _)); done)); have k0 := cell_below hB1 q0; have l0 := frozen_below hB1 hs z0; have k1 := cell_below hB1 q1; have l1 := frozen_below hB1 hs z1; have k2 := cell_below hB1 q2; have l2 := frozen_below hB1 hs z2))
  have s3 := set3 (u := .float .f32 a) (v := .float .f32 b) (t := .float .f32 g) k0 k1 k2
  have hBf := below_set3 (n := w.heap.size + 1 + 1) (o1 := 0) (o2 := 1) (o3 := 2) (u := .float .f32 a) (v := .float .f32 b) (t := .float .f32 g) (hB0.trans (hB1.mono (by omega))) (by omega)
  go_wp2
  refine bodyPost_ret (v := vv a b g) (by simp [results, Try.results129, go_sem, s3.1, s3.2.1, s3.2.2]) rfl ⟨_, _, _, rfl, ha, hb, hg, hBf⟩
theorem impl_LongOf (x y z : Nat) (w : World) (c d e : Option Nat) (h1 : FV .f32 x c) (h2 : FV .f32 y d) (h3 : FV .f32 z e) :
    Calls Try.prog 98 #[vv x y z] w fun en w' => ∃ a, en = .returned (.float .f32 a) ∧ FV .f32 a (rootC (fop .add .f32 (fop .add .f32 (fop .mul .f32 c c) (fop .mul .f32 d d)) (fop .mul .f32 e e))) ∧ Below w.heap.size w w' := by
  have u := Try.underlying27
  have uv := Try.underlying40
  go_enter Try.func98, Try.ntmps98
  go_wp2_with (first
    | (go_at_call 139; refine (impl_InnerOf _ _ _ _ _ _ _ _ _ _ _ _ _ h1 h2 h3 h1 h2 h3).mono ?_; rintro en w1 ⟨a, rfl, ha, hb1⟩)
    | (go_at_call 148; refine (impl_RootNumber _ _ _ ha).mono ?_; rintro en w2 ⟨r, rfl, hr, n, rfl⟩))
  go_ret
  exact ⟨_, rfl, hr, below_drewN (((Below.refl _ _).alloc (Nat.le_refl _) _).trans (hb1.mono (by simp))) _⟩
theorem l01Long (x y z : Nat) (w : World) (c d e : Option Nat) (h1 : FV .f32 x c) (h2 : FV .f32 y d) (h3 : FV .f32 z e) :
    Calls Try.prog 95 #[vv x y z] w fun en w' => ∃ a, en = .returned (.float .f32 a) ∧ FV .f32 a (rootC (fop .add .f32 (fop .add .f32 (fop .mul .f32 c c) (fop .mul .f32 d d)) (fop .mul .f32 e e))) ∧ Below w.heap.size w w' := by
  have u := Try.underlying27
  have uv := Try.underlying40
  go_enter Try.func95, Try.ntmps95
  go_wp2_with (first
    | (go_at_call 138; refine (l01Inner _ _ _ _ _ _ _ _ _ _ _ _ _ h1 h2 h3 h1 h2 h3).mono ?_; rintro en w1 ⟨a, rfl, ha, hb1⟩)
    | (go_at_call 146; refine (l01Sqrt _ _ _ ha).mono ?_; rintro en w2 ⟨r, rfl, hr, n, rfl⟩))
  go_ret
  exact ⟨_, rfl, hr, below_drewN (((Below.refl _ _).alloc (Nat.le_refl _) _).trans (hb1.mono (by simp))) _⟩
end Go.Proofs.Ytajglpkeojaelaa

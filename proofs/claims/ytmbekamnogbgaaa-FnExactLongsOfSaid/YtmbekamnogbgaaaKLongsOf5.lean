/-
Texts in one: what LongsOf stands on, part 5. Conditions: those of each.
-/
import Derived.Test.YtmbekamnogbgaaaKLongsOf4
import Derived.Below

/-
The square root of 32-bit numbers: what the program and its model return. Conditions: none beyond that the words fit.
-/
namespace Go.Proofs.Ytmbekamnogbgaaa
open Go Fk Go.RowKit
set_option linter.unusedVariables false

def rootC (c : Option Nat) : Option Nat := (fsq (c.map wid)).map nar
@[go_sem] theorem ext_sqrt (x : Nat) (w : World) : (callFunc 216 #[.float .f64 x]).run Try.prog w = .ok (.value (.float .f64 (sR x w))) (w.drewN (sN x)) := by
  rw [run_callFunc_extern (e := Extern.MathSqrt.sqrt) Try.func216 (by kernel_rfl) (by kernel_rfl) (by kernel_rfl) (by kernel_rfl), run_sqrt]; rfl
theorem math_Sqrt (x : Nat) (w : World) :
    Calls Try.prog 209 #[.float .f64 x] w fun e w' => e = .returned (.float .f64 (sR x w)) ∧ ∃ n, w' = w.drewN n := by
  go_enter Try.func209, Try.ntmps209
  go_wp2
  go_ret
  exact ⟨rfl, _, rfl⟩
theorem impl_Narrow (y : Nat) (w : World) :
    Calls Try.prog 179 #[.float .f64 y] w fun e w' => e = .returned (.float .f32 (nR y w)) ∧ ∃ n, w' = w.drewN n := by
  have u := Try.underlying80
  have u' := Try.underlying31
  go_enter Try.func179, Try.ntmps179
  go_wp2
  go_ret
  exact ⟨rfl, _, rfl⟩
theorem spec_Narrow (y : Nat) (w : World) :
    Calls Try.prog 169 #[.float .f64 y] w fun e w' => e = .returned (.float .f32 (nR y w)) ∧ ∃ n, w' = w.drewN n := by
  have u := Try.underlying80
  have u' := Try.underlying31
  go_enter Try.func169, Try.ntmps169
  go_wp2
  go_ret
  exact ⟨rfl, _, rfl⟩
theorem FV_root {x : Nat} {c : Option Nat} {w w' w'' : World} (h : FV .f32 x c) : FV .f32 (nR (sR (wR x w) w') w'') (rootC c) :=
  FV_nR (FV_sR (FV_wR h)) (ovf_sR h.1)
theorem impl_RootNumber (x : Nat) (c : Option Nat) (w : World) (h : FV .f32 x c) :
    Calls Try.prog 197 #[.float .f32 x] w fun e w' => ∃ r, e = .returned (.float .f32 r) ∧ FV .f32 r (rootC c) ∧ ∃ n, w' = w.drewN n := by
  have u := Try.underlying80
  have u' := Try.underlying31
  go_enter Try.func197, Try.ntmps197
  go_wp2_with (first
    | (go_at_call 209; refine (math_Sqrt _ _).mono ?_; rintro e w' ⟨rfl, n, rfl⟩)
    | (go_at_call 179; refine (impl_Narrow _ _).mono ?_; rintro e w' ⟨rfl, n, rfl⟩))
  go_ret
  exact ⟨_, rfl, FV_root h, _, rfl⟩
theorem l01Sqrt (x : Nat) (c : Option Nat) (w : World) (h : FV .f32 x c) :
    Calls Try.prog 191 #[.float .f32 x] w fun e w' => ∃ r, e = .returned (.float .f32 r) ∧ FV .f32 r (rootC c) ∧ ∃ n, w' = w.drewN n := by
  have u := Try.underlying80
  have u' := Try.underlying31
  go_enter Try.func191, Try.ntmps191
  go_wp2_with (first
    | (go_at_call 209; refine (math_Sqrt _ _).mono ?_; rintro e w' ⟨rfl, n, rfl⟩)
    | (go_at_call 169; refine (spec_Narrow _ _).mono ?_; rintro e w' ⟨rfl, n, rfl⟩))
  go_ret
  exact ⟨_, rfl, FV_root h, _, rfl⟩
end Go.Proofs.Ytmbekamnogbgaaa


/-
Between two vectors, and lengths: what the program and its model return. Conditions: none beyond that the words fit.
-/
namespace Go.Proofs.Ytmbekamnogbgaaa
open Go Fk Go.RowKit
set_option linter.unusedVariables false

set_option maxHeartbeats 1000000 in
theorem impl_BetweenVectors (x y z x' y' z' r : Nat) (w : World) (c d e c' d' e' q : Option Nat) (h1 : FV .f32 x c) (h2 : FV .f32 y d) (h3 : FV .f32 z e) (h1' : FV .f32 x' c') (h2' : FV .f32 y' d') (h3' : FV .f32 z' e') (hr : FV .f32 r q) :
    Calls Try.prog 131 #[vv x y z, vv x' y' z', .float .f32 r] w fun en w' => ∃ a b g, en = .returned (vv a b g) ∧ FV .f32 a (fop .add .f32 c (fop .mul .f32 (fop .sub .f32 c' c) q)) ∧ FV .f32 b (fop .add .f32 d (fop .mul .f32 (fop .sub .f32 d' d) q)) ∧ FV .f32 g (fop .add .f32 e (fop .mul .f32 (fop .sub .f32 e' e) q)) ∧ Below w.heap.size w w' := by
  have u := Try.underlying31
  have uv := Try.underlying34
  go_enter Try.func131, Try.ntmps131
  go_wp2_with fail
  have c0 : (((w.alloc (.cells #[.float .f32 x, .float .f32 y, .float .f32 z] 34)).alloc (.cells #[.float .f32 x', .float .f32 y', .float .f32 z'] 34)).alloc (.cells #[.float .f32 0, .float .f32 0, .float .f32 0] 34)).cell? ⟨w.heap.size, 0, none⟩ = some (.float .f32 x) := by go_simp
  have c1 : (((w.alloc (.cells #[.float .f32 x, .float .f32 y, .float .f32 z] 34)).alloc (.cells #[.float .f32 x', .float .f32 y', .float .f32 z'] 34)).alloc (.cells #[.float .f32 0, .float .f32 0, .float .f32 0] 34)).cell? ⟨w.heap.size, 1, none⟩ = some (.float .f32 y) := by go_simp
  have c2 : (((w.alloc (.cells #[.float .f32 x, .float .f32 y, .float .f32 z] 34)).alloc (.cells #[.float .f32 x', .float .f32 y', .float .f32 z'] 34)).alloc (.cells #[.float .f32 0, .float .f32 0, .float .f32 0] 34)).cell? ⟨w.heap.size, 2, none⟩ = some (.float .f32 z) := by go_simp
  have c3 : (((w.alloc (.cells #[.float .f32 x, .float .f32 y, .float .f32 z] 34)).alloc (.cells #[.float .f32 x', .float .f32 y', .float .f32 z'] 34)).alloc (.cells #[.float .f32 0, .float .f32 0, .float .f32 0] 34)).cell? ⟨w.heap.size + 1, 0, none⟩ = some (.float .f32 x') := by go_simp
  have c4 : (((w.alloc (.cells #[.float .f32 x, .float .f32 y, .float .f32 z] 34)).alloc (.cells #[.float .f32 x', .float .f32 y', .float .f32 z'] 34)).alloc (.cells #[.float .f32 0, .float .f32 0, .float .f32 0] 34)).cell? ⟨w.heap.size + 1, 1, none⟩ = some (.float .f32 y') := by go_simp
  have c5 : (((w.alloc (.cells #[.float .f32 x, .float .f32 y, .float .f32 z] 34)).alloc (.cells #[.float .f32 x', .float .f32 y', .float .f32 z'] 34)).alloc (.cells #[.float .f32 0, .float .f32 0, .float .f32 0] 34)).cell? ⟨w.heap.size + 1, 2, none⟩ = some (.float .f32 z') := by go_simp
  have q0 : (((w.alloc (.cells #[.float .f32 x, .float .f32 y, .float .f32 z] 34)).alloc (.cells #[.float .f32 x', .float .f32 y', .float .f32 z'] 34)).alloc (.cells #[.float .f32 0, .float .f32 0, .float .f32 0] 34)).cell? ⟨w.heap.size + 1 + 1, 0, none⟩ = some (.float .f32 0) := by go_simp
  have z0 : (((w.alloc (.cells #[.float .f32 x, .float .f32 y, .float .f32 z] 34)).alloc (.cells #[.float .f32 x', .float .f32 y', .float .f32 z'] 34)).alloc (.cells #[.float .f32 0, .float .f32 0, .float .f32 0] 34)).frozen? ⟨w.heap.size + 1 + 1, 0, none⟩ = false := by go_simp
  have q1 : (((w.alloc (.cells #[.float .f32 x, .float .f32 y, .float .f32 z] 34)).alloc (.cells #[.float .f32 x', .float .f32 y', .float .f32 z'] 34)).alloc (.cells #[.float .f32 0, .float .f32 0, .float .f32 0] 34)).cell? ⟨w.heap.size + 1 + 1, 1, none⟩ = some (.float .f32 0) := by go_simp
  have z1 : (((w.alloc (.cells #[.float .f32 x, .float .f32 y, .float .f32 z] 34)).alloc (.cells #[.float .f32 x', .float .f32 y', .float .f32 z'] 34)).alloc (.cells #[.float .f32 0, .float .f32 0, .float .f32 0] 34)).frozen? ⟨w.heap.size + 1 + 1, 1, none⟩ = false := by go_simp
  have q2 : (((w.alloc (.cells #[.float .f32 x, .float .f32 y, .float .f32 z] 34)).alloc (.cells #[.float .f32 x', .float .f32 y', .float .f32 z'] 34)).alloc (.cells #[.float .f32 0, .float .f32 0, .float .f32 0] 34)).cell? ⟨w.heap.size + 1 + 1, 2, none⟩ = some (.float .f32 0) := by go_simp
  have z2 : (((w.alloc (.cells #[.float .f32 x, .float .f32 y, .float .f32 z] 34)).alloc (.cells #[.float .f32 x', .float .f32 y', .float .f32 z'] 34)).alloc (.cells #[.float .f32 0, .float .f32 0, .float .f32 0] 34)).frozen? ⟨w.heap.size + 1 + 1, 2, none⟩ = false := by go_simp
  have hs : w.heap.size + 1 + 1 < (((w.alloc (.cells #[.float .f32 x, .float .f32 y, .float .f32 z] 34)).alloc (.cells #[.float .f32 x', .float .f32 y', .float .f32 z'] 34)).alloc (.cells #[.float .f32 0, .float .f32 0, .float .f32 0] 34)).heap.size := by simp
  have hB0 : Below w.heap.size w (((w.alloc (.cells #[.float .f32 x, .float .f32 y, .float .f32 z] 34)).alloc (.cells #[.float .f32 x', .float .f32 y', .float .f32 z'] 34)).alloc (.cells #[.float .f32 0, .float .f32 0, .float .f32 0] 34)) := (((Below.refl _ _).alloc (Nat.le_refl _) _).alloc (by simp) _).alloc (by simp; omega) _
  generalize ((w.alloc (.cells #[.float .f32 x, .float .f32 y, .float .f32 z] 34)).alloc (.cells #[.float .f32 x', .float .f32 y', .float .f32 z'] 34)).alloc (.cells #[.float .f32 0, .float .f32 0, .float .f32 0] 34) = w0 at *
  go_region_held3 (fun w' => w'.cell? ⟨w.heap.size, 0, none⟩ = some (.float .f32 x) ∧ w'.cell? ⟨w.heap.size, 1, none⟩ = some (.float .f32 y) ∧ w'.cell? ⟨w.heap.size, 2, none⟩ = some (.float .f32 z) ∧ w'.cell? ⟨w.heap.size + 1, 0, none⟩ = some (.float .f32 x') ∧ w'.cell? ⟨w.heap.size + 1, 1, none⟩ = some (.float .f32 y') ∧ w'.cell? ⟨w.heap.size + 1, 2, none⟩ = some (.float .f32 z'))
    ((exact ⟨by (repeat (first | with_reducible exact c0 | with_reducible refine cell_drew ?_ | with_reducible refine cell_drewN ?_ | (with_reducible refine cell_set ?_ ?_; focus (first | omega | (simp <;> omega))) | with_reducible refine cell_below hB1 ?_)), by (repeat (first | with_reducible exact c1 | with_reducible refine cell_drew ?_ | with_reducible refine cell_drewN ?_ | (with_reducible refine cell_set ?_ ?_; focus (first | omega | (simp <;> omega))) | with_reducible refine cell_below hB1 ?_)), by (repeat (first | with_reducible exact c2 | with_reducible refine cell_drew ?_ | with_reducible refine cell_drewN ?_ | (with_reducible refine cell_set ?_ ?_; focus (first | omega | (simp <;> omega))) | with_reducible refine cell_below hB1 ?_)), by (repeat (first | with_reducible exact c3 | with_reducible refine cell_drew ?_ | with_reducible refine cell_drewN ?_ | (with_reducible refine cell_set ?_ ?_; focus (first | omega | (simp <;> omega))) | with_reducible refine cell_below hB1 ?_)), by (repeat (first | with_reducible exact c4 | with_reducible refine cell_drew ?_ | with_reducible refine cell_drewN ?_ | (with_reducible refine cell_set ?_ ?_; focus (first | omega | (simp <;> omega))) | with_reducible refine cell_below hB1 ?_)), by (repeat (first | with_reducible exact c5 | with_reducible refine cell_drew ?_ | with_reducible refine cell_drewN ?_ | (with_reducible refine cell_set ?_ ?_; focus (first | omega | (simp <;> omega))) | with_reducible refine cell_below hB1 ?_))⟩))
    (first
      | (go_at_call 163; refine (impl_LessVectors _ _ _ _ _ _ _ _ _ _ _ _ _ h1' h2' h3' h1 h2 h3).mono ?_; rintro en w1 ⟨a1, b1, g1, rfl, ha1, hb1', hg1, hb1⟩; (obtain hB1 : Below w0.heap.size w0 w1 := by (refine below_call ?_ (Nat.le_refl _) hb1; (repeat (first | with_reducible exact hB1 | with_reducible exact Below.refl _ _ | with_reducible refine Below.drew ?_ | with_reducible refine below_drewN ?_ _)); done)); have k0 := cell_below hB1 q0; have l0 := frozen_below hB1 hs z0; have k1 := cell_below hB1 q1; have l1 := frozen_below hB1 hs z1; have k2 := cell_below hB1 q2; have l2 := frozen_below hB1 hs z2)
      | (go_at_call 150; refine (impl_ScaleVector _ _ _ _ _ _ _ _ _ ha1 hb1' hg1 hr).mono ?_; rintro en w1 ⟨a2, b2, g2, rfl, ha2, hb2, hg2, hb1⟩; (obtain hB1 : Below w0.heap.size w0 w1 := by (refine below_call ?_ (Nat.le_refl _) hb1; (repeat (first | with_reducible exact hB1 | with_reducible exact Below.refl _ _ | with_reducible refine Below.drew ?_ | with_reducible refine below_drewN ?_ _)); done)); have k0 := cell_below hB1 q0; have l0 := frozen_below hB1 hs z0; have k1 := cell_below hB1 q1; have l1 := frozen_below hB1 hs z1; have k2 := cell_below hB1 q2; have l2 := frozen_below hB1 hs z2)
      | (go_at_call 149; refine (impl_AddVectors _ _ _ _ _ _ _ _ _ _ _ _ _ h1 h2 h3 ha2 hb2 hg2).mono ?_; rintro en w1 ⟨a, b, g, rfl, ha, hb, hg, hb1⟩; (obtain hB1 : Below w0.heap.size w0 w1 := by (refine below_call ?_ (Nat.le_refl _) hb1; (repeat (first | with_reducible exact hB1 | with_reducible exact Below.refl _ _ | with_reducible refine Below.drew ?_ | with_reducible refine below_drewN ?_ _)); done)); have k0 := cell_below hB1 q0; have l0 := frozen_below hB1 hs z0; have k1 := cell_below hB1 q1; have l1 := frozen_below hB1 hs z1; have k2 := cell_below hB1 q2; have l2 := frozen_below hB1 hs z2))
  have s3 := set3 (u := .float .f32 a) (v := .float .f32 b) (t := .float .f32 g) k0 k1 k2
  have hBf := below_set3 (n := w.heap.size + 1 + 1) (o1 := 0) (o2 := 1) (o3 := 2) (u := .float .f32 a) (v := .float .f32 b) (t := .float .f32 g) (hB0.trans (hB1.mono (by omega))) (by omega)
  go_wp2
  refine bodyPost_ret (v := vv a b g) (by simp [results, Try.results131, go_sem, s3.1, s3.2.1, s3.2.2]) rfl ⟨_, _, _, rfl, ha, hb, hg, hBf⟩
theorem impl_LongOf (x y z : Nat) (w : World) (c d e : Option Nat) (h1 : FV .f32 x c) (h2 : FV .f32 y d) (h3 : FV .f32 z e) :
    Calls Try.prog 166 #[vv x y z] w fun en w' => ∃ a, en = .returned (.float .f32 a) ∧ FV .f32 a (rootC (fop .add .f32 (fop .add .f32 (fop .mul .f32 c c) (fop .mul .f32 d d)) (fop .mul .f32 e e))) ∧ Below w.heap.size w w' := by
  have u := Try.underlying31
  have uv := Try.underlying34
  go_enter Try.func166, Try.ntmps166
  go_wp2_with (first
    | (go_at_call 164; refine (impl_InnerOf _ _ _ _ _ _ _ _ _ _ _ _ _ h1 h2 h3 h1 h2 h3).mono ?_; rintro en w1 ⟨a, rfl, ha, hb1⟩)
    | (go_at_call 197; refine (impl_RootNumber _ _ _ ha).mono ?_; rintro en w2 ⟨r, rfl, hr, n, rfl⟩))
  go_ret
  exact ⟨_, rfl, hr, below_drewN (((Below.refl _ _).alloc (Nat.le_refl _) _).trans (hb1.mono (by simp))) _⟩
theorem l01Long (x y z : Nat) (w : World) (c d e : Option Nat) (h1 : FV .f32 x c) (h2 : FV .f32 y d) (h3 : FV .f32 z e) :
    Calls Try.prog 136 #[vv x y z] w fun en w' => ∃ a, en = .returned (.float .f32 a) ∧ FV .f32 a (rootC (fop .add .f32 (fop .add .f32 (fop .mul .f32 c c) (fop .mul .f32 d d)) (fop .mul .f32 e e))) ∧ Below w.heap.size w w' := by
  have u := Try.underlying31
  have uv := Try.underlying34
  go_enter Try.func136, Try.ntmps136
  go_wp2_with (first
    | (go_at_call 160; refine (l01Inner _ _ _ _ _ _ _ _ _ _ _ _ _ h1 h2 h3 h1 h2 h3).mono ?_; rintro en w1 ⟨a, rfl, ha, hb1⟩)
    | (go_at_call 191; refine (l01Sqrt _ _ _ ha).mono ?_; rintro en w2 ⟨r, rfl, hr, n, rfl⟩))
  go_ret
  exact ⟨_, rfl, hr, below_drewN (((Below.refl _ _).alloc (Nat.le_refl _) _).trans (hb1.mono (by simp))) _⟩
end Go.Proofs.Ytmbekamnogbgaaa


/-
The length of an edge: what the program returns. Conditions: the mesh has the places.
-/
namespace Go.Proofs.Ytmbekamnogbgaaa
open Go Fk Go.RowKit Go.Maps Go.Sort
set_option linter.unusedVariables false
set_option maxRecDepth 16000

/-- The length of an edge. -/
def longE (c d : C3) : Option Nat := rootC (fop .add .f32 (fop .add .f32 (fop .mul .f32 (fop .sub .f32 c.1 d.1) (fop .sub .f32 c.1 d.1)) (fop .mul .f32 (fop .sub .f32 c.2.1 d.2.1) (fop .sub .f32 c.2.1 d.2.1))) (fop .mul .f32 (fop .sub .f32 c.2.2 d.2.2) (fop .sub .f32 c.2.2 d.2.2)))
set_option maxHeartbeats 4000000 in
theorem mesh_long (pa ta : Option Addr) (pl pc tl tc : Nat) (cs : List C3) (m n : Nat) (w : World) (hp : IsVs w pa pl pc cs) (hm : m < pl) (hn : n < pl) :
    Calls Try.prog 138 #[.agg #[.slice pa pl pc, .slice ta tl tc], .agg #[.int .i64 m, .int .i64 n]] w fun e w' => ∃ x, e = .returned (.float .f32 x) ∧ FV .f32 x (longE (cs.getD m c0) (cs.getD n c0)) ∧ Below w.heap.size w w' := by
  have uv := Try.underlying34
  have ui := Try.underlying29
  have ue := Try.underlying164
  obtain ⟨bp, op, rfl, hc⟩ := hp.some (by omega)
  obtain ⟨p0, q0, s0, d00, d01, d02, f00, f01, f02⟩ := hc m hm
  obtain ⟨p1, q1', s1, d10, d11, d12, f10, f11, f12⟩ := hc n hn
  unfold longE
  generalize cs.getD m c0 = C0 at *
  generalize cs.getD n c0 = C1 at *
  have m0 : (0 : Int) ≤ (m : Int) := by omega
  have m1 : (m : Int) < (pl : Int) := by omega
  have n0 : (0 : Int) ≤ (n : Int) := by omega
  have n1 : (n : Int) < (pl : Int) := by omega
  clear hc hp hm hn
  have hB0 : Below w.heap.size w ((w.alloc (.cells #[.slice (some ⟨bp, op, none⟩) pl pc, .slice ta tl tc] 29)).alloc (.cells #[.int .i64 m, .int .i64 n] 164)) := ((Below.refl _ _).alloc (Nat.le_refl _) _).alloc (by simp) _
  have k0 : ((w.alloc (.cells #[.slice (some ⟨bp, op, none⟩) pl pc, .slice ta tl tc] 29)).alloc (.cells #[.int .i64 m, .int .i64 n] 164)).cell? ⟨w.heap.size, 0, none⟩ = some (.slice (some ⟨bp, op, none⟩) pl pc) := by go_simp
  have k1 : ((w.alloc (.cells #[.slice (some ⟨bp, op, none⟩) pl pc, .slice ta tl tc] 29)).alloc (.cells #[.int .i64 m, .int .i64 n] 164)).cell? ⟨w.heap.size + 1, 0, none⟩ = some (.int .i64 m) := by go_simp
  have k2 : ((w.alloc (.cells #[.slice (some ⟨bp, op, none⟩) pl pc, .slice ta tl tc] 29)).alloc (.cells #[.int .i64 m, .int .i64 n] 164)).cell? ⟨w.heap.size + 1, 1, none⟩ = some (.int .i64 n) := by go_simp
  have k3 := cell_below hB0 d00
  have k4 := cell_below hB0 d01
  have k5 := cell_below hB0 d02
  have k6 := cell_below hB0 d10
  have k7 := cell_below hB0 d11
  have k8 := cell_below hB0 d12
  have HB0 := Lib.hid hB0
  clear hB0 d00 d01 d02 d10 d11 d12
  go_enter Try.func138, Try.ntmps138
  go_wp2_with fail
  generalize ((w.alloc (.cells #[.slice (some ⟨bp, op, none⟩) pl pc, .slice ta tl tc] 29)).alloc (.cells #[.int .i64 m, .int .i64 n] 164)) = W at *
  refine Reg.wp_region_mix (C := fun w' => (w'.cell? ⟨w.heap.size, 0, none⟩ = some (.slice (some ⟨bp, op, none⟩) pl pc) ∧ w'.cell? ⟨w.heap.size + 1, 0, none⟩ = some (.int .i64 m) ∧ w'.cell? ⟨w.heap.size + 1, 1, none⟩ = some (.int .i64 n) ∧ w'.cell? ⟨bp, op + m * 3, none⟩ = some (.float .f32 p0) ∧ w'.cell? ⟨bp, op + m * 3 + 1, none⟩ = some (.float .f32 q0) ∧ w'.cell? ⟨bp, op + m * 3 + 2, none⟩ = some (.float .f32 s0) ∧ w'.cell? ⟨bp, op + n * 3, none⟩ = some (.float .f32 p1) ∧ w'.cell? ⟨bp, op + n * 3 + 1, none⟩ = some (.float .f32 q1') ∧ w'.cell? ⟨bp, op + n * 3 + 2, none⟩ = some (.float .f32 s1)) ∧ Below w.heap.size w w') (G := fun _ _ => True)
    (R := fun i v _ => match i with
      | 0 => v = .pointer (some ⟨w.heap.size, 0, none⟩)
      | 1 => v = .slice (some ⟨bp, op, none⟩) pl pc
      | 2 => v = .pointer (some ⟨w.heap.size + 1, 0, none⟩)
      | 3 => v = .int .i64 m
      | 4 => v = .pointer (some ⟨bp, op + m * 3, none⟩)
      | 5 => v = vv p0 q0 s0
      | 6 => v = .pointer (some ⟨w.heap.size, 0, none⟩)
      | 7 => v = .slice (some ⟨bp, op, none⟩) pl pc
      | 8 => v = .pointer (some ⟨w.heap.size + 1, 1, none⟩)
      | 9 => v = .int .i64 n
      | 10 => v = .pointer (some ⟨bp, op + n * 3, none⟩)
      | 11 => v = vv p1 q1' s1
      | 12 => ∃ x y z, v = vv x y z ∧ FV .f32 x (fop .sub .f32 C0.1 C1.1) ∧ FV .f32 y (fop .sub .f32 C0.2.1 C1.2.1) ∧ FV .f32 z (fop .sub .f32 C0.2.2 C1.2.2)
      | 13 => ∃ x, v = .float .f32 x ∧ FV .f32 x (rootC (fop .add .f32 (fop .add .f32 (fop .mul .f32 (fop .sub .f32 C0.1 C1.1) (fop .sub .f32 C0.1 C1.1)) (fop .mul .f32 (fop .sub .f32 C0.2.1 C1.2.1) (fop .sub .f32 C0.2.1 C1.2.1))) (fop .mul .f32 (fop .sub .f32 C0.2.2 C1.2.2) (fop .sub .f32 C0.2.2 C1.2.2))))
      | 14 => ∃ x, v = .float .f32 x ∧ FV .f32 x (rootC (fop .add .f32 (fop .add .f32 (fop .mul .f32 (fop .sub .f32 C0.1 C1.1) (fop .sub .f32 C0.1 C1.1)) (fop .mul .f32 (fop .sub .f32 C0.2.1 C1.2.1) (fop .sub .f32 C0.2.1 C1.2.1))) (fop .mul .f32 (fop .sub .f32 C0.2.2 C1.2.2) (fop .sub .f32 C0.2.2 C1.2.2))))
      | _ => True) (T := fun _ _ _ => True) [false, false, false, false, true, true, true, true, true, true, true, true, true, true, true, true, true, true, true]
    (by kernel_rfl) (by kernel_rfl) (by kernel_rfl) (fun _ _ _ _ _ _ h => h) ⟨⟨k0, k1, k2, k3, k4, k5, k6, k7, k8⟩, below_drewN HB0.out 1⟩ ?_ ?_
  · refine ⟨Reg.Obl.mk ?_, Reg.Obl.mk ?_, Reg.Obl.mk ?_, Reg.Obl.mk ?_, Reg.Obl.mk ?_, Reg.Obl.mk ?_, Reg.Obl.mk ?_, Reg.Obl.mk ?_, Reg.Obl.mk ?_, Reg.Obl.mk ?_, Reg.Obl.mk ?_, Reg.Obl.mk ?_, Reg.Obl.mk ?_, Reg.Obl.mk ?_, Reg.Obl.mk ?_, trivial⟩
    · rintro a w1 ⟨⟨y0, y1, y2, y3, y4, y5, y6, y7, y8⟩, hB⟩ hx hd K hK
      have t2 : a.tmps[2]?.getD undef = .pointer (some ⟨w.heap.size, 0, none⟩) := Reg.slot_val (hx 2 (by kernel_rfl))
      go_simp
      exact hK _ _ (fun _ => rfl) (fun h => by cases h) ⟨⟨y0, y1, y2, y3, y4, y5, y6, y7, y8⟩, hB⟩ trivial
    · rintro a w1 ⟨⟨y0, y1, y2, y3, y4, y5, y6, y7, y8⟩, hB⟩ hx hd K hK
      have t5 : a.tmps[5]?.getD undef = .pointer (some ⟨w.heap.size, 0, none⟩) := Reg.slot_val (hd 0 (by kernel_rfl) 5 rfl)
      go_simp
      exact hK _ _ (fun _ => rfl) (fun h => by cases h) ⟨⟨y0, y1, y2, y3, y4, y5, y6, y7, y8⟩, hB⟩ trivial
    · rintro a w1 ⟨⟨y0, y1, y2, y3, y4, y5, y6, y7, y8⟩, hB⟩ hx hd K hK
      have t3 : a.tmps[3]?.getD undef = .pointer (some ⟨w.heap.size + 1, 0, none⟩) := Reg.slot_val (hx 3 (by kernel_rfl))
      go_simp
      exact hK _ _ (fun _ => rfl) (fun h => by cases h) ⟨⟨y0, y1, y2, y3, y4, y5, y6, y7, y8⟩, hB⟩ trivial
    · rintro a w1 ⟨⟨y0, y1, y2, y3, y4, y5, y6, y7, y8⟩, hB⟩ hx hd K hK
      have t7 : a.tmps[7]?.getD undef = .pointer (some ⟨w.heap.size + 1, 0, none⟩) := Reg.slot_val (hd 2 (by kernel_rfl) 7 rfl)
      go_simp
      exact hK _ _ (fun _ => rfl) (fun h => by cases h) ⟨⟨y0, y1, y2, y3, y4, y5, y6, y7, y8⟩, hB⟩ trivial
    · rintro a w1 ⟨⟨y0, y1, y2, y3, y4, y5, y6, y7, y8⟩, hB⟩ hx hd K hK
      have t6 : a.tmps[6]?.getD undef = .slice (some ⟨bp, op, none⟩) pl pc := Reg.slot_val (hd 1 (by kernel_rfl) 6 rfl)
      have t8 : a.tmps[8]?.getD undef = .int .i64 m := Reg.slot_val (hd 3 (by kernel_rfl) 8 rfl)
      go_simp
      exact hK _ _ (fun _ => rfl) (fun h => by cases h) ⟨⟨y0, y1, y2, y3, y4, y5, y6, y7, y8⟩, hB⟩ trivial
    · rintro a w1 ⟨⟨y0, y1, y2, y3, y4, y5, y6, y7, y8⟩, hB⟩ hx hd K hK
      have t9 : a.tmps[9]?.getD undef = .pointer (some ⟨bp, op + m * 3, none⟩) := Reg.slot_val (hd 4 (by kernel_rfl) 9 rfl)
      go_simp
      exact hK _ _ (fun _ => rfl) (fun h => by cases h) ⟨⟨y0, y1, y2, y3, y4, y5, y6, y7, y8⟩, hB⟩ trivial
    · rintro a w1 ⟨⟨y0, y1, y2, y3, y4, y5, y6, y7, y8⟩, hB⟩ hx hd K hK
      have t2 : a.tmps[2]?.getD undef = .pointer (some ⟨w.heap.size, 0, none⟩) := Reg.slot_val (hx 2 (by kernel_rfl))
      go_simp
      exact hK _ _ (fun _ => rfl) (fun h => by cases h) ⟨⟨y0, y1, y2, y3, y4, y5, y6, y7, y8⟩, hB⟩ trivial
    · rintro a w1 ⟨⟨y0, y1, y2, y3, y4, y5, y6, y7, y8⟩, hB⟩ hx hd K hK
      have t11 : a.tmps[11]?.getD undef = .pointer (some ⟨w.heap.size, 0, none⟩) := Reg.slot_val (hd 6 (by kernel_rfl) 11 rfl)
      go_simp
      exact hK _ _ (fun _ => rfl) (fun h => by cases h) ⟨⟨y0, y1, y2, y3, y4, y5, y6, y7, y8⟩, hB⟩ trivial
    · rintro a w1 ⟨⟨y0, y1, y2, y3, y4, y5, y6, y7, y8⟩, hB⟩ hx hd K hK
      have t3 : a.tmps[3]?.getD undef = .pointer (some ⟨w.heap.size + 1, 0, none⟩) := Reg.slot_val (hx 3 (by kernel_rfl))
      go_simp
      exact hK _ _ (fun _ => rfl) (fun h => by cases h) ⟨⟨y0, y1, y2, y3, y4, y5, y6, y7, y8⟩, hB⟩ trivial
    · rintro a w1 ⟨⟨y0, y1, y2, y3, y4, y5, y6, y7, y8⟩, hB⟩ hx hd K hK
      have t13 : a.tmps[13]?.getD undef = .pointer (some ⟨w.heap.size + 1, 1, none⟩) := Reg.slot_val (hd 8 (by kernel_rfl) 13 rfl)
      go_simp
      exact hK _ _ (fun _ => rfl) (fun h => by cases h) ⟨⟨y0, y1, y2, y3, y4, y5, y6, y7, y8⟩, hB⟩ trivial
    · rintro a w1 ⟨⟨y0, y1, y2, y3, y4, y5, y6, y7, y8⟩, hB⟩ hx hd K hK
      have t12 : a.tmps[12]?.getD undef = .slice (some ⟨bp, op, none⟩) pl pc := Reg.slot_val (hd 7 (by kernel_rfl) 12 rfl)
      have t14 : a.tmps[14]?.getD undef = .int .i64 n := Reg.slot_val (hd 9 (by kernel_rfl) 14 rfl)
      go_simp
      exact hK _ _ (fun _ => rfl) (fun h => by cases h) ⟨⟨y0, y1, y2, y3, y4, y5, y6, y7, y8⟩, hB⟩ trivial
    · rintro a w1 ⟨⟨y0, y1, y2, y3, y4, y5, y6, y7, y8⟩, hB⟩ hx hd K hK
      have t15 : a.tmps[15]?.getD undef = .pointer (some ⟨bp, op + n * 3, none⟩) := Reg.slot_val (hd 10 (by kernel_rfl) 15 rfl)
      go_simp
      exact hK _ _ (fun _ => rfl) (fun h => by cases h) ⟨⟨y0, y1, y2, y3, y4, y5, y6, y7, y8⟩, hB⟩ trivial
    · rintro a w1 ⟨⟨y0, y1, y2, y3, y4, y5, y6, y7, y8⟩, hB⟩ hx hd K hK
      have t10 : a.tmps[10]?.getD undef = vv p0 q0 s0 := Reg.slot_val (hd 5 (by kernel_rfl) 10 rfl)
      have t16 : a.tmps[16]?.getD undef = vv p1 q1' s1 := Reg.slot_val (hd 11 (by kernel_rfl) 16 rfl)
      go_simp
      refine (impl_LessVectors _ _ _ _ _ _ _ _ _ _ _ _ _ f00 f01 f02 f10 f11 f12).mono ?_
      rintro en w2 ⟨ra, rb, rc, rfl, ha, hb, hc, hB2⟩
      exact hK _ _ (fun _ => ⟨ra, rb, rc, rfl, ha, hb, hc⟩) (fun h => by cases h) ⟨⟨cell_below hB2 y0, cell_below hB2 y1, cell_below hB2 y2, cell_below hB2 y3, cell_below hB2 y4, cell_below hB2 y5, cell_below hB2 y6, cell_below hB2 y7, cell_below hB2 y8⟩, hB.trans (hB2.mono hB.size)⟩ trivial
    · rintro a w1 ⟨⟨y0, y1, y2, y3, y4, y5, y6, y7, y8⟩, hB⟩ hx hd K hK
      obtain ⟨x, y, z, g17, e1, e2, e3⟩ := hd 12 (by kernel_rfl) 17 rfl
      have t17 := Reg.slot_val g17
      clear g17
      go_simp
      refine (impl_LongOf _ _ _ _ _ _ _ e1 e2 e3).mono ?_
      rintro en w2 ⟨r, rfl, hr, hB2⟩
      exact hK _ _ (fun _ => ⟨r, rfl, hr⟩) (fun h => by cases h) ⟨⟨cell_below hB2 y0, cell_below hB2 y1, cell_below hB2 y2, cell_below hB2 y3, cell_below hB2 y4, cell_below hB2 y5, cell_below hB2 y6, cell_below hB2 y7, cell_below hB2 y8⟩, hB.trans (hB2.mono hB.size)⟩ trivial
    · rintro a w1 ⟨⟨y0, y1, y2, y3, y4, y5, y6, y7, y8⟩, hB⟩ hx hd K hK
      obtain ⟨x, g18, e1⟩ := hd 13 (by kernel_rfl) 18 rfl
      have t18 := Reg.slot_val g18
      clear g18
      go_simp
      exact hK _ _ (fun _ => ⟨_, rfl, e1⟩) (fun h => by cases h) ⟨⟨y0, y1, y2, y3, y4, y5, y6, y7, y8⟩, hB⟩ trivial
  · rintro f w6 ⟨_, hB⟩ hR hT
    obtain ⟨x, e4, hx⟩ := hR 14 4 rfl
    simp only [Reg.mixL, e4]
    have HB := Lib.hid hB
    have HX := Lib.hid hx
    clear hR hT hB hx
    go_wp2
    go_ret
    exact ⟨_, rfl, HX.out, HB.out⟩
end Go.Proofs.Ytmbekamnogbgaaa


/-
Marks in lists of integers: they are written where the list lies, and nowhere else. Conditions: the list's cells may be written.
-/
namespace Go.Proofs.Ytmbekamnogbgaaa
open Go Fk Go.RowKit
set_option linter.unusedVariables false
set_option maxRecDepth 8000

/-- What lies outside the blocks from lo to hi is as it was; every cell is still there, and may be written if it could be. -/
structure Mark (lo hi : Nat) (w w' : World) : Prop where
  below : Below lo w w'
  above : ∀ k, hi ≤ k → k < w.heap.size → w'.heap[k]? = w.heap[k]?
  alive : ∀ n i, (∃ v, w.cell? ⟨n, i, none⟩ = some v) → ∃ v, w'.cell? ⟨n, i, none⟩ = some v
  frozen : ∀ n i, n < w.heap.size → w'.frozen? ⟨n, i, none⟩ = w.frozen? ⟨n, i, none⟩
theorem Mark.refl (lo hi : Nat) (w : World) : Mark lo hi w w := ⟨Below.refl _ _, fun _ _ _ => rfl, fun _ _ h => h, fun _ _ _ => rfl⟩
theorem Mark.trans {lo hi : Nat} {a b c : World} (h : Mark lo hi a b) (k : Mark lo hi b c) : Mark lo hi a c :=
  ⟨h.below.trans k.below, fun j h1 h2 => (k.above j h1 (Nat.lt_of_lt_of_le h2 h.below.size)).trans (h.above j h1 h2), fun n i e => k.alive n i (h.alive n i e), fun n i e => (k.frozen n i (Nat.lt_of_lt_of_le e h.below.size)).trans (h.frozen n i e)⟩
theorem Mark.set {lo hi : Nat} {w : World} {b o : Nat} {u : Value} (h1 : lo ≤ b) (h2 : b < hi) : Mark lo hi w (w.setCell ⟨b, o, none⟩ u) := by
  refine ⟨(Below.refl _ _).setCell h1 _, fun k hk _ => Below.heap_setCell _ _ _ _ (by simp; omega), fun n i ⟨v, hv⟩ => ?_, fun n i _ => by simp⟩
  by_cases h : (⟨b, o, none⟩ : Addr) = ⟨n, i, none⟩
  · rw [← h] at hv ⊢; exact ⟨_, World.cell?_setCell_same w _ u hv⟩
  · exact ⟨v, by rw [World.cell?_setCell_other _ _ _ _ h]; exact hv⟩
theorem Mark.wide {lo hi lo' hi' : Nat} {w w' : World} (h : Mark lo hi w w') (h1 : lo' ≤ lo) (h2 : hi ≤ hi') : Mark lo' hi' w w' :=
  ⟨h.below.mono h1, fun k hk e => h.above k (Nat.le_trans h2 hk) e, h.alive, h.frozen⟩
theorem Mark.alloc {lo hi : Nat} {w : World} (h : lo ≤ w.heap.size) (o : Obj) : Mark lo hi w (w.alloc o) := by
  refine ⟨(Below.refl _ _).alloc h _, fun k _ hk => Below.heap_alloc _ _ _ hk, fun n i ⟨v, hv⟩ => ⟨v, ?_⟩, fun n i hn => ?_⟩
  · rw [World.cell?_alloc_lt (h := World.block_lt_of_cell? _ _ hv)]; exact hv
  · exact World.frozen?_of_block (Below.heap_alloc _ _ _ hn)
theorem Mark.drewN {lo hi : Nat} {w : World} (n : Nat) : Mark lo hi w (w.drewN n) := ⟨below_drewN (Below.refl _ _) n, fun _ _ _ => rfl, fun _ _ h => h, fun _ _ _ => rfl⟩
theorem Mark.cell {lo hi : Nat} {w w' : World} (h : Mark lo hi w w') {b i : Nat} {v : Value} (hb : b < lo ∨ hi ≤ b) (hv : w.cell? ⟨b, i, none⟩ = some v) : w'.cell? ⟨b, i, none⟩ = some v := by
  rcases hb with hb | hb
  · rw [h.below.cell (p := ⟨b, i, none⟩) hb]; exact hv
  · rw [World.cell?_of_block (w := w) (h.above b hb (World.block_lt_of_cell? _ _ hv))]; exact hv
/-- These cells are there, in a block from lo to hi, and may be written. -/
def Own (lo hi : Nat) (w : World) (b o n : Nat) : Prop := lo ≤ b ∧ b < hi ∧ b < w.heap.size ∧ ∀ j, j < n → (∃ v, w.cell? ⟨b, o + j, none⟩ = some v) ∧ w.frozen? ⟨b, o + j, none⟩ = false
theorem Own.mark {lo hi lo' hi' : Nat} {w w' : World} {b o n : Nat} (h : Own lo hi w b o n) (k : Mark lo' hi' w w') : Own lo hi w' b o n :=
  ⟨h.1, h.2.1, Nat.lt_of_lt_of_le h.2.2.1 k.below.size, fun j hj => ⟨k.alive _ _ (h.2.2.2 j hj).1, by rw [k.frozen _ _ h.2.2.1]; exact (h.2.2.2 j hj).2⟩⟩
set_option maxHeartbeats 400000 in
theorem laws_markInt64S (lo hi b o len cap : Nat) (k0 : Nat) (w : World) (h : Own lo hi w b o len) (hk : k0 + len ≤ 9000000000000000000) :
    Calls Try.prog 56 #[.slice (some ⟨b, o, none⟩) len cap, .int .i64 k0] w fun e w' => e = .returned (.int .i64 ((k0 + len : Nat) : Int)) ∧ (∀ j, j < len → w'.cell? ⟨b, o + j, none⟩ = some (.int .i64 ((k0 + j : Nat) : Int))) ∧ (∀ n i, (n ≠ b ∨ i < o ∨ o + len ≤ i) → w'.cell? ⟨n, i, none⟩ = w.cell? ⟨n, i, none⟩) ∧ Mark lo hi w w' := by
  obtain ⟨h1, h2, h3, h4⟩ := h
  have H4 := Lib.hid h4
  have H1 := Lib.hid h1
  have H2 := Lib.hid h2
  have H3 := Lib.hid h3
  clear h1 h2 h3 h4
  go_enter Try.func56, Try.ntmps56
  go_wp2
  go_loopw [1, 5] (fun q i w' => ∃ k : Nat, k ≤ len ∧ i = .int .i64 k ∧ q = .int .i64 ((k0 + k : Nat) : Int) ∧ Aside ((∀ j, j < k → w'.cell? ⟨b, o + j, none⟩ = some (.int .i64 ((k0 + j : Nat) : Int))) ∧ (∀ n i, (n ≠ b ∨ i < o ∨ o + len ≤ i) → w'.cell? ⟨n, i, none⟩ = w.cell? ⟨n, i, none⟩) ∧ Mark lo hi w w')) (fun _ i _ => len - (intOf i).toNat)
  case atStart => exact ⟨0, Nat.zero_le _, rfl, rfl, fun j hj => absurd hj (by omega), fun _ _ _ => rfl, Mark.refl _ _ _⟩
  case round =>
    obtain ⟨k, hkl, rfl, rfl, hA⟩ := hrel
    by_cases hlt : k < len
    · obtain ⟨hdone, hother, hM⟩ := hA.out
      obtain ⟨v, hv⟩ := hM.alive _ _ (H4.out k hlt).1
      have hf : wr.frozen? ⟨b, o + k, none⟩ = false := by rw [hM.frozen _ _ H3.out]; exact (H4.out k hlt).2
      have HD := Lib.hid hdone
      have HO := Lib.hid hother
      have HM := Lib.hid hM
      have hk0 : (0 : Int) ≤ (k : Int) := by omega
      have hk1 : (k : Int) < (len : Int) := by omega
      clear hA hdone hother hM
      go_wp2
      go_roundw
      case rel =>
        refine ⟨k + 1, by omega, by go_num, by go_num, fun j hj => ?_, fun n i hn => ?_, HM.out.trans (Mark.set H1.out H2.out)⟩
        · by_cases hjk : j = k
          · subst hjk; exact World.cell?_setCell_same _ _ _ hv
          · rw [World.cell?_setCell_other _ _ _ _ (by simp <;> omega)]; exact HD.out j (by omega)
        · rw [World.cell?_setCell_other _ _ _ _ (by simp <;> omega)]; exact HO.out n i hn
      case measure => simp [intOf]; omega
    · obtain rfl : k = len := by omega
      obtain ⟨hdone, hother, hM⟩ := hA.out
      have HD := Lib.hid hdone
      have HO := Lib.hid hother
      have HM := Lib.hid hM
      clear hA hdone hother hM
      go_wp2
      go_ret
      exact ⟨rfl, HD.out, HO.out, HM.out⟩
theorem laws_heldInt64S (b o len cap : Nat) (k0 : Nat) (w : World) (h : ∀ j, j < len → w.cell? ⟨b, o + j, none⟩ = some (.int .i64 ((k0 + j : Nat) : Int))) (hk : k0 + len ≤ 9000000000000000000) :
    Calls Try.prog 57 #[.slice (some ⟨b, o, none⟩) len cap, .int .i64 k0] w fun e w' => e = .returned (.int .i64 ((k0 + len : Nat) : Int)) ∧ w' = w := by
  have H := Lib.hid h
  clear h
  go_enter Try.func57, Try.ntmps57
  go_wp2
  go_loopw [1, 5] (fun q i w' => ∃ k : Nat, k ≤ len ∧ i = .int .i64 k ∧ q = .int .i64 ((k0 + k : Nat) : Int) ∧ w' = w) (fun _ i _ => len - (intOf i).toNat)
  case atStart => exact ⟨0, Nat.zero_le _, rfl, rfl, rfl⟩
  case round =>
    obtain ⟨k, hkl, rfl, rfl, rfl⟩ := hrel
    by_cases hlt : k < len
    · have hv := H.out k hlt
      have hk0 : (0 : Int) ≤ (k : Int) := by omega
      have hk1 : (k : Int) < (len : Int) := by omega
      go_wp2
      go_roundw
      case rel => exact ⟨k + 1, by omega, by go_num, by go_num, by first | trivial | rfl⟩
      case measure => simp [intOf]; omega
    · obtain rfl : k = len := by omega
      go_wp2
      go_ret
      exact ⟨rfl, by first | rfl | trivial⟩
end Go.Proofs.Ytmbekamnogbgaaa

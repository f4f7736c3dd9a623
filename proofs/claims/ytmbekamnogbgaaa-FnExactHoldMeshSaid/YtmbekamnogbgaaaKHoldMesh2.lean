/-
Texts in one: what HoldMesh stands on, part 2. Conditions: those of each.
-/
import Derived.Test.YtmbekamnogbgaaaKHoldMesh1
import Derived.Below
import Derived.Deep.RegionHeld3

/-
What the functions on vectors return, of the program and of its model. Conditions: none beyond that the words fit.
-/
namespace Go.Proofs.Ytmbekamnogbgaaa
open Go Fk Go.RowKit
set_option linter.unusedVariables false

abbrev vv (x y z : Nat) : Value := .agg #[.float .f32 x, .float .f32 y, .float .f32 z]
theorem bcell {W w1 : World} (hb : Below W.heap.size W w1) : (∀ b o, b < W.heap.size → w1.cell? ⟨b, o, none⟩ = W.cell? ⟨b, o, none⟩) ∧ (∀ b o, b < W.heap.size → w1.frozen? ⟨b, o, none⟩ = W.frozen? ⟨b, o, none⟩) :=
  ⟨fun b o h => hb.cell (p := ⟨b, o, none⟩) h, fun b o h => hb.frozen (p := ⟨b, o, none⟩) h⟩
theorem cell_alloc {w : World} {o : Obj} {b i : Nat} {v : Value} (hc : w.cell? ⟨b, i, none⟩ = some v) : (w.alloc o).cell? ⟨b, i, none⟩ = some v := by
  have h : (⟨b, i, none⟩ : Addr).block < w.heap.size := World.block_lt_of_cell? w _ hc
  rw [World.cell?_alloc_lt (h := h)]; exact hc
theorem new0 {w : World} {u v t : Value} {T : TypeId} : (w.alloc (.cells #[u, v, t] T)).cell? ⟨w.heap.size, 0, none⟩ = some u := by simp
theorem new1 {w : World} {u v t : Value} {T : TypeId} : (w.alloc (.cells #[u, v, t] T)).cell? ⟨w.heap.size, 1, none⟩ = some v := by simp
theorem new2 {w : World} {u v t : Value} {T : TypeId} : (w.alloc (.cells #[u, v, t] T)).cell? ⟨w.heap.size, 2, none⟩ = some t := by simp
theorem newf {w : World} {u v t : Value} {T : TypeId} {i : Nat} : (w.alloc (.cells #[u, v, t] T)).frozen? ⟨w.heap.size, i, none⟩ = false := by simp
theorem frz_drew {w : World} {a : Addr} {b : Bool} (h : w.frozen? a = b) : w.drew.frozen? a = b := h
theorem frz_drewN {w : World} {n : Nat} {a : Addr} {b : Bool} (h : w.frozen? a = b) : (w.drewN n).frozen? a = b := h
theorem set3 {w : World} {n : Nat} {u v t u0 v0 t0 : Value} (h0 : w.cell? ⟨n, 0, none⟩ = some u0) (h1 : w.cell? ⟨n, 1, none⟩ = some v0) (h2 : w.cell? ⟨n, 2, none⟩ = some t0) :
    (((w.setCell ⟨n, 0, none⟩ u).setCell ⟨n, 1, none⟩ v).setCell ⟨n, 2, none⟩ t).cell? ⟨n, 0, none⟩ = some u ∧ (((w.setCell ⟨n, 0, none⟩ u).setCell ⟨n, 1, none⟩ v).setCell ⟨n, 2, none⟩ t).cell? ⟨n, 1, none⟩ = some v ∧ (((w.setCell ⟨n, 0, none⟩ u).setCell ⟨n, 1, none⟩ v).setCell ⟨n, 2, none⟩ t).cell? ⟨n, 2, none⟩ = some t := by
  have a0 := World.cell?_setCell_same w ⟨n, 0, none⟩ u h0
  have a1 : (w.setCell ⟨n, 0, none⟩ u).cell? ⟨n, 1, none⟩ = some v0 := by rw [World.cell?_setCell_other _ _ _ _ (by simp)]; exact h1
  have a2 : (w.setCell ⟨n, 0, none⟩ u).cell? ⟨n, 2, none⟩ = some t0 := by rw [World.cell?_setCell_other _ _ _ _ (by simp)]; exact h2
  have b1 := World.cell?_setCell_same (w.setCell ⟨n, 0, none⟩ u) ⟨n, 1, none⟩ v a1
  have b2 : ((w.setCell ⟨n, 0, none⟩ u).setCell ⟨n, 1, none⟩ v).cell? ⟨n, 2, none⟩ = some t0 := by rw [World.cell?_setCell_other _ _ _ _ (by simp)]; exact a2
  refine ⟨?_, ?_, World.cell?_setCell_same _ _ _ b2⟩
  · rw [World.cell?_setCell_other _ _ _ _ (by simp), World.cell?_setCell_other _ _ _ _ (by simp)]; exact a0
  · rw [World.cell?_setCell_other _ _ _ _ (by simp)]; exact b1
theorem frozen_below {W w : World} {b i : Nat} (hb : Below W.heap.size W w) (h : b < W.heap.size) (hf : W.frozen? ⟨b, i, none⟩ = false) : w.frozen? ⟨b, i, none⟩ = false := by
  rw [hb.frozen (p := ⟨b, i, none⟩) h]; exact hf
theorem cell_drew {w : World} {a : Addr} {v : Value} (hc : w.cell? a = some v) : w.drew.cell? a = some v := hc
theorem cell_drewN {w : World} {n : Nat} {a : Addr} {v : Value} (hc : w.cell? a = some v) : (w.drewN n).cell? a = some v := hc
theorem cell_set {w : World} {a : Addr} {u v : Value} {b i : Nat} (hne : a.block ≠ b) (hc : w.cell? ⟨b, i, none⟩ = some v) : (w.setCell a u).cell? ⟨b, i, none⟩ = some v := by
  rw [World.cell?_setCell_far (h := hne)]; exact hc
theorem below_call {B : Nat} {w0 W w1 : World} (hp : Below B w0 W) (hB : B ≤ w0.heap.size) (hb : Below W.heap.size W w1) : Below B w0 w1 := hp.trans (hb.mono (Nat.le_trans hB hp.size))
theorem below_set3 {B : Nat} {w0 W : World} {n o1 o2 o3 : Nat} {u v t : Value} (hp : Below B w0 W) (hn : B ≤ n) : Below B w0 (((W.setCell ⟨n, o1, none⟩ u).setCell ⟨n, o2, none⟩ v).setCell ⟨n, o3, none⟩ t) := ((hp.setCell hn _).setCell hn _).setCell hn _
theorem below_new {B : Nat} {w0 W : World} {o : Obj} (hp : Below B w0 W) (hB : B ≤ w0.heap.size) : Below B w0 (W.alloc o) := hp.alloc (Nat.le_trans hB hp.size) _
theorem cell_below {W w : World} {b i : Nat} {v : Value} (hb : Below W.heap.size W w) (hc : W.cell? ⟨b, i, none⟩ = some v) : w.cell? ⟨b, i, none⟩ = some v := by
  have h : b < W.heap.size := World.block_lt_of_cell? W _ hc
  rw [hb.cell (p := ⟨b, i, none⟩) h]; exact hc

theorem impl_AddVectors (x y z x' y' z' : Nat) (w : World) (c d e c' d' e' : Option Nat) (h1 : FV .f32 x c) (h2 : FV .f32 y d) (h3 : FV .f32 z e) (h1' : FV .f32 x' c') (h2' : FV .f32 y' d') (h3' : FV .f32 z' e') :
    Calls Try.prog 149 #[vv x y z, vv x' y' z'] w fun en w' => ∃ a b g, en = .returned (vv a b g) ∧ FV .f32 a (fop .add .f32 c c') ∧ FV .f32 b (fop .add .f32 d d') ∧ FV .f32 g (fop .add .f32 e e') ∧ Below w.heap.size w w' := by
  have u := Try.underlying31
  have uv := Try.underlying34
  go_enter Try.func149, Try.ntmps149
  go_wp2
  refine bodyPost_ret (v := vv _ _ _) (by simp [results, Try.results149, go_sem]; exact ⟨rfl, rfl, rfl⟩) rfl ⟨_, _, _, rfl, FV_fR h1 h1', FV_fR h2 h2', FV_fR h3 h3', ?_⟩
  exact below_drewN ((((Below.refl _ _).alloc (Nat.le_refl _) _).alloc (by simp) _).alloc (by simp; omega) _) _
theorem l01Add (x y z x' y' z' : Nat) (w : World) (c d e c' d' e' : Option Nat) (h1 : FV .f32 x c) (h2 : FV .f32 y d) (h3 : FV .f32 z e) (h1' : FV .f32 x' c') (h2' : FV .f32 y' d') (h3' : FV .f32 z' e') :
    Calls Try.prog 120 #[vv x y z, vv x' y' z'] w fun en w' => ∃ a b g, en = .returned (vv a b g) ∧ FV .f32 a (fop .add .f32 c c') ∧ FV .f32 b (fop .add .f32 d d') ∧ FV .f32 g (fop .add .f32 e e') ∧ Below w.heap.size w w' := by
  have u := Try.underlying31
  have uv := Try.underlying34
  go_enter Try.func120, Try.ntmps120
  go_wp2
  refine bodyPost_ret (v := vv _ _ _) (by simp [results, Try.results120, go_sem]; exact ⟨rfl, rfl, rfl⟩) rfl ⟨_, _, _, rfl, FV_fR h1 h1', FV_fR h2 h2', FV_fR h3 h3', ?_⟩
  exact below_drewN ((((Below.refl _ _).alloc (Nat.le_refl _) _).alloc (by simp) _).alloc (by simp; omega) _) _
theorem impl_LessVectors (x y z x' y' z' : Nat) (w : World) (c d e c' d' e' : Option Nat) (h1 : FV .f32 x c) (h2 : FV .f32 y d) (h3 : FV .f32 z e) (h1' : FV .f32 x' c') (h2' : FV .f32 y' d') (h3' : FV .f32 z' e') :
    Calls Try.prog 163 #[vv x y z, vv x' y' z'] w fun en w' => ∃ a b g, en = .returned (vv a b g) ∧ FV .f32 a (fop .sub .f32 c c') ∧ FV .f32 b (fop .sub .f32 d d') ∧ FV .f32 g (fop .sub .f32 e e') ∧ Below w.heap.size w w' := by
  have u := Try.underlying31
  have uv := Try.underlying34
  go_enter Try.func163, Try.ntmps163
  go_wp2
  refine bodyPost_ret (v := vv _ _ _) (by simp [results, Try.results163, go_sem]; exact ⟨rfl, rfl, rfl⟩) rfl ⟨_, _, _, rfl, FV_fR h1 h1', FV_fR h2 h2', FV_fR h3 h3', ?_⟩
  exact below_drewN ((((Below.refl _ _).alloc (Nat.le_refl _) _).alloc (by simp) _).alloc (by simp; omega) _) _
theorem l01Less (x y z x' y' z' : Nat) (w : World) (c d e c' d' e' : Option Nat) (h1 : FV .f32 x c) (h2 : FV .f32 y d) (h3 : FV .f32 z e) (h1' : FV .f32 x' c') (h2' : FV .f32 y' d') (h3' : FV .f32 z' e') :
    Calls Try.prog 122 #[vv x y z, vv x' y' z'] w fun en w' => ∃ a b g, en = .returned (vv a b g) ∧ FV .f32 a (fop .sub .f32 c c') ∧ FV .f32 b (fop .sub .f32 d d') ∧ FV .f32 g (fop .sub .f32 e e') ∧ Below w.heap.size w w' := by
  have u := Try.underlying31
  have uv := Try.underlying34
  go_enter Try.func122, Try.ntmps122
  go_wp2
  refine bodyPost_ret (v := vv _ _ _) (by simp [results, Try.results122, go_sem]; exact ⟨rfl, rfl, rfl⟩) rfl ⟨_, _, _, rfl, FV_fR h1 h1', FV_fR h2 h2', FV_fR h3 h3', ?_⟩
  exact below_drewN ((((Below.refl _ _).alloc (Nat.le_refl _) _).alloc (by simp) _).alloc (by simp; omega) _) _
theorem laws_toVector (x y z : Nat) (w : World) :
    Calls Try.prog 86 #[vv x y z] w fun en w' => en = .returned (vv x y z) ∧ Below w.heap.size w w' := by
  have u := Try.underlying31
  have uv := Try.underlying34
  go_enter Try.func86, Try.ntmps86
  go_wp2
  refine bodyPost_ret (v := vv x y z) (by simp [results, Try.results86, go_sem]) rfl ⟨rfl, ?_⟩
  exact (((Below.refl _ _).alloc (Nat.le_refl _) _).alloc (by simp) _).alloc (by simp; omega) _
theorem laws_eqVector (x y z x' y' z' : Nat) (w : World) (c d e : Option Nat) (h1 : FV .f32 x c) (h2 : FV .f32 y d) (h3 : FV .f32 z e) (h1' : FV .f32 x' c) (h2' : FV .f32 y' d) (h3' : FV .f32 z' e) :
    Calls Try.prog 77 #[vv x y z, vv x' y' z'] w fun en w' => en = .returned (.bool true) ∧ Below w.heap.size w w' := by
  have u := Try.underlying31
  have u' := Try.underlying80
  have uv := Try.underlying34
  go_enter Try.func77, Try.ntmps77
  go_wp2_with (go_at_call 52; refine (laws_sameFloat _ _ _ _ (FV_wR (by assumption)) (FV_wR (by assumption))).mono ?_; rintro en w' ⟨rfl, n1, rfl⟩)
  go_ret
  exact ⟨rfl, below_drewN (((Below.refl _ _).alloc (Nat.le_refl _) _).alloc (by simp) _) _⟩

end Go.Proofs.Ytmbekamnogbgaaa


/-
Blocks of memory whose cells are known. Conditions: none.
-/
namespace Go.Proofs.Ytmbekamnogbgaaa
open Go Fk Go.RowKit
set_option linter.unusedVariables false

/-- A block whose cells hold these values. -/
def At (w : World) (b : Nat) (vs : List Value) : Prop := ∀ i v, vs[i]? = some v → w.cell? ⟨b, i, none⟩ = some v
theorem At.below {W w : World} {b : Nat} {vs : List Value} (hb : Below W.heap.size W w) (h : At W b vs) : At w b vs := fun i v hv => cell_below hb (h i v hv)
theorem At.alloc {w : World} {b : Nat} {vs : List Value} {o : Obj} (h : At w b vs) : At (w.alloc o) b vs := fun i v hv => cell_alloc (h i v hv)
theorem At.drew {w : World} {b n : Nat} {vs : List Value} (h : At w b vs) : At (w.drewN n) b vs := h
theorem At.new {w : World} {vs : List Value} {t : TypeId} : At (w.alloc (.cells vs.toArray t)) w.heap.size vs := by
  intro i v hv
  simp [hv]
theorem At.far {w : World} {b : Nat} {vs : List Value} {a : Addr} {u : Value} (hne : a.block ≠ b) (h : At w b vs) : At (w.setCell a u) b vs := fun i v hv => cell_set hne (h i v hv)
theorem At.set {w : World} {b : Nat} {vs : List Value} (h : At w b vs) (i : Nat) (u : Value) : At (w.setCell ⟨b, i, none⟩ u) b (vs.set i u) := by
  intro j v hv
  rw [List.getElem?_set] at hv
  by_cases hij : i = j
  · subst hij
    rw [if_pos rfl] at hv
    split at hv
    · rename_i hlt
      cases hv
      exact World.cell?_setCell_same _ _ _ (h i vs[i] (List.getElem?_eq_getElem hlt))
    · cases hv
  · rw [if_neg hij] at hv
    rw [World.cell?_setCell_other _ _ _ _ (by simp <;> omega)]
    exact h j v hv
theorem At.lt {w : World} {b : Nat} {v : Value} {vs : List Value} (h : At w b (v :: vs)) : b < w.heap.size := World.block_lt_of_cell? w _ (h 0 v rfl)
/-- A block that may be written. -/
def Fr (w : World) (b : Nat) : Prop := ∀ i, w.frozen? ⟨b, i, none⟩ = false
theorem Fr.below {W w : World} {b : Nat} (hb : Below W.heap.size W w) (hlt : b < W.heap.size) (h : Fr W b) : Fr w b := fun i => frozen_below hb hlt (h i)
theorem Fr.setC {w : World} {b : Nat} {a : Addr} {u : Value} (h : Fr w b) : Fr (w.setCell a u) b := fun i => by simp; exact h i
theorem Fr.new {w : World} {vs : Array Value} {t : TypeId} : Fr (w.alloc (.cells vs t)) w.heap.size := fun i => by simp
theorem Fr.alloc {w : World} {b : Nat} {o : Obj} (hlt : b < w.heap.size) (h : Fr w b) : Fr (w.alloc o) b := h.below ((Below.refl _ _).alloc (Nat.le_refl _) _) hlt

end Go.Proofs.Ytmbekamnogbgaaa


/-
Products of vectors: what the program and its model return. Conditions: none beyond that the words fit.
-/
namespace Go.Proofs.Ytmbekamnogbgaaa
open Go Fk Go.RowKit
set_option linter.unusedVariables false

theorem impl_product32 (x y : Nat) (w : World) (c d : Option Nat) (h1 : FV .f32 x c) (h2 : FV .f32 y d) :
    Calls Try.prog 165 #[.float .f32 x, .float .f32 y] w fun en w' => ∃ r, en = .returned (.float .f32 r) ∧ FV .f32 r (fop .mul .f32 c d) ∧ ∃ n, w' = w.drewN n := by
  have u := Try.underlying31
  go_enter Try.func165, Try.ntmps165
  go_wp2
  go_ret
  exact ⟨_, rfl, FV_fR h1 h2, _, rfl⟩

theorem l01Scale (x y z r : Nat) (w : World) (c d e q : Option Nat) (h1 : FV .f32 x c) (h2 : FV .f32 y d) (h3 : FV .f32 z e) (hr : FV .f32 r q) :
    Calls Try.prog 121 #[vv x y z, .float .f32 r] w fun en w' => ∃ a b g, en = .returned (vv a b g) ∧ FV .f32 a (fop .mul .f32 c q) ∧ FV .f32 b (fop .mul .f32 d q) ∧ FV .f32 g (fop .mul .f32 e q) ∧ Below w.heap.size w w' := by
  have u := Try.underlying31
  have uv := Try.underlying34
  go_enter Try.func121, Try.ntmps121
  go_wp2
  refine bodyPost_ret (v := vv _ _ _) (by simp [results, Try.results121, go_sem] <;> exact ⟨rfl, rfl, rfl⟩) rfl ⟨_, _, _, rfl, FV_fR h1 hr, FV_fR h2 hr, FV_fR h3 hr, ?_⟩
  exact below_drewN (((Below.refl _ _).alloc (Nat.le_refl _) _).alloc (by simp) _) _
set_option maxHeartbeats 2000000 in
theorem impl_ScaleVector (x y z r : Nat) (w : World) (c d e q : Option Nat) (h1 : FV .f32 x c) (h2 : FV .f32 y d) (h3 : FV .f32 z e) (hr : FV .f32 r q) :
    Calls Try.prog 150 #[vv x y z, .float .f32 r] w fun en w' => ∃ a b g, en = .returned (vv a b g) ∧ FV .f32 a (fop .mul .f32 c q) ∧ FV .f32 b (fop .mul .f32 d q) ∧ FV .f32 g (fop .mul .f32 e q) ∧ Below w.heap.size w w' := by
  have u := Try.underlying31
  have uv := Try.underlying34
  go_enter Try.func150, Try.ntmps150
  go_wp2_with fail
  go_region_held3 (fun w' => w'.cell? ⟨w.heap.size, 0, none⟩ = some (.float .f32 x) ∧ w'.cell? ⟨w.heap.size, 1, none⟩ = some (.float .f32 y) ∧ w'.cell? ⟨w.heap.size, 2, none⟩ = some (.float .f32 z)) (go_keep) ((go_at_call 165; refine (impl_product32 _ _ _ _ _ (by assumption) (by assumption)).mono ?_; rintro en w1 ⟨r1, rfl, hr1, n1, rfl⟩))
  all_goals
    go_wp2
    refine bodyPost_ret (v := vv _ _ _) (by simp [results, Try.results150, go_sem] <;> exact ⟨rfl, rfl, rfl⟩) rfl ⟨_, _, _, rfl, (by first | assumption | exact FV_fR (by assumption) (by assumption)), (by first | assumption | exact FV_fR (by assumption) (by assumption)), (by first | assumption | exact FV_fR (by assumption) (by assumption)), below_drewN (((Below.refl _ _).alloc (Nat.le_refl _) _).alloc (by simp) _) _⟩
theorem l01Cross (x y z x' y' z' : Nat) (w : World) (c d e c' d' e' : Option Nat) (h1 : FV .f32 x c) (h2 : FV .f32 y d) (h3 : FV .f32 z e) (h1' : FV .f32 x' c') (h2' : FV .f32 y' d') (h3' : FV .f32 z' e') :
    Calls Try.prog 168 #[vv x y z, vv x' y' z'] w fun en w' => ∃ a b g, en = .returned (vv a b g) ∧ FV .f32 a (fop .sub .f32 (fop .mul .f32 d e') (fop .mul .f32 e d')) ∧ FV .f32 b (fop .sub .f32 (fop .mul .f32 e c') (fop .mul .f32 c e')) ∧ FV .f32 g (fop .sub .f32 (fop .mul .f32 c d') (fop .mul .f32 d c')) ∧ Below w.heap.size w w' := by
  have u := Try.underlying31
  have uv := Try.underlying34
  go_enter Try.func168, Try.ntmps168
  go_wp2
  refine bodyPost_ret (v := vv _ _ _) (by simp [results, Try.results168, go_sem] <;> exact ⟨rfl, rfl, rfl⟩) rfl ⟨_, _, _, rfl, FV_fR (FV_fR h2 h3') (FV_fR h3 h2'), FV_fR (FV_fR h3 h1') (FV_fR h1 h3'), FV_fR (FV_fR h1 h2') (FV_fR h2 h1'), below_drewN ((((Below.refl _ _).alloc (Nat.le_refl _) _).alloc (by simp) _).alloc (by simp; omega) _) _⟩
theorem l01Inner (x y z x' y' z' : Nat) (w : World) (c d e c' d' e' : Option Nat) (h1 : FV .f32 x c) (h2 : FV .f32 y d) (h3 : FV .f32 z e) (h1' : FV .f32 x' c') (h2' : FV .f32 y' d') (h3' : FV .f32 z' e') :
    Calls Try.prog 160 #[vv x y z, vv x' y' z'] w fun en w' => ∃ a, en = .returned (.float .f32 a) ∧ FV .f32 a (fop .add .f32 (fop .add .f32 (fop .mul .f32 c c') (fop .mul .f32 d d')) (fop .mul .f32 e e')) ∧ Below w.heap.size w w' := by
  have u := Try.underlying31
  have uv := Try.underlying34
  go_enter Try.func160, Try.ntmps160
  go_wp2
  go_ret
  exact ⟨_, rfl, FV_fR (FV_fR (FV_fR h1 h1') (FV_fR h2 h2')) (FV_fR h3 h3'), below_drewN (((Below.refl _ _).alloc (Nat.le_refl _) _).alloc (by simp) _) _⟩
end Go.Proofs.Ytmbekamnogbgaaa

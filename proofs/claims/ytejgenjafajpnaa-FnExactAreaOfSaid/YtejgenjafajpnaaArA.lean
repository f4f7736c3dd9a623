
/-
The area of a triangle: what the program and its model reckon. Conditions: the triangle's places are the mesh's.
-/
import Derived.Test.YtejgenjafajpnaaNrC
import Derived.Test.YtejgenjafajpnaaBet
namespace Go.Proofs.Ytejgenjafajpnaa
open Go Fk Go.RowKit
set_option linter.unusedVariables false
set_option maxRecDepth 8000

def longC (a : C3) : Option Nat := rootC (fop .add .f32 (fop .add .f32 (fop .mul .f32 a.1 a.1) (fop .mul .f32 a.2.1 a.2.1)) (fop .mul .f32 a.2.2 a.2.2))
def halfC : Option Nat := cls .f32 1056964608
theorem half_FV : FV .f32 1056964608 halfC := ⟨by decide, rfl⟩
def areaC (cs : List C3) (t : List Int) : Option Nat := fop .mul .f32 halfC (longC (normalC cs t))
theorem mesh_area (pa ta : Option Addr) (pl pc tl tc : Nat) (cs : List C3) (t : List Int) (w : World) (hp : IsVs w pa pl pc cs) (htri : triB pl t = true) :
    Calls Try.prog 93 #[.agg #[.slice pa pl pc, .slice ta tl tc], .agg #[.int .i64 (t.getD 0 0), .int .i64 (t.getD 1 0), .int .i64 (t.getD 2 0)]] w fun e w' => ∃ x, e = .returned (.float .f32 x) ∧ FV .f32 x (areaC cs t) ∧ Below w.heap.size w w' := by
  have u := Try.underlying22
  have ui := Try.underlying40
  have uc := Try.underlying90
  have hN := fun w' hp' => mesh_normal pa ta pl pc tl tc cs t w' hp' htri
  unfold areaC longC
  generalize normalC cs t = N at *
  obtain ⟨N0, N1, N2⟩ := N
  clear htri
  have HP := Lib.hid hp
  clear hp
  generalize t.getD 0 0 = j0 at *
  generalize t.getD 1 0 = j1 at *
  generalize t.getD 2 0 = j2 at *
  have hN' := Lib.hid hN
  clear hN
  go_enter Try.func93, Try.ntmps93
  go_wp2_with (first
    | (go_at_call 74; refine (hN'.out _ (HP.out.below (((Below.refl _ _).alloc (Nat.le_refl _) _).alloc (by simp) _))).mono ?_; rintro en w1 ⟨x, y, z, rfl, hx, hy, hz, hb1⟩)
    | (go_at_call 133; refine (impl_LongOf _ _ _ _ _ _ _ hx hy hz).mono ?_; rintro en w2 ⟨r, rfl, hr, hb2⟩)
    | (go_at_call 106; refine (impl_product32 _ _ _ _ _ half_FV hr).mono ?_; rintro en w3 ⟨s, rfl, hs, hb3⟩))
  obtain ⟨n, rfl⟩ := hb3
  go_ret
  exact ⟨_, rfl, hs, below_drewN ((((Below.refl _ _).alloc (Nat.le_refl _) _).alloc (by simp) _).trans ((hb1.mono (by simp <;> omega)).trans (hb2.mono (by have := hb1.size; simp at this ⊢; omega)))) _⟩
end Go.Proofs.Ytejgenjafajpnaa

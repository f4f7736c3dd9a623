/-
Texts in one: what BorderOf stands on, part 24. Conditions: those of each.
-/
import Derived.Test.YtockhhfehjoldaaKBorderOf23
import Derived.Lib.SmallJoins

/-
How great a mesh is: what the law's own function returns. Conditions: none.
-/
namespace Go.Proofs.Ytockhhfehjoldaa
open Go Fk Go.RowKit
set_option linter.unusedVariables false
set_option maxRecDepth 8000
theorem laws_szMeshR (pa ta : Option Addr) (pl pc tl tc : Nat) (cs : List C3) (ts : List (List Int)) (left : Int) (w : World) (hp : IsVs w pa pl pc cs) (ht : IsTs w ta tl tc ts) (h0 : 0 ≤ left) (h1 : left ≤ 1048576) :
    Calls Try.prog 10 #[.agg #[.slice pa pl pc, .slice ta tl tc], .int .i64 left] w fun e w' => (∃ r : Int, e = .returned (.int .i64 r) ∧ (r = -1 ∨ (0 ≤ r ∧ r ≤ 1048576 ∧ pl ≤ 1048576 ∧ tl ≤ 1048576 ∧ ∀ k, k < tl → (ts.getD k []).length ≤ 1048576))) ∧ Below w.heap.size w w' := by
  have hpm : pl ≤ 9223372036854775807 := by have h1 := hp.2.1; have h2 := hp.2.2.1; unfold maxLen at h2; omega
  have u := Try.underlying25
  go_enter Try.func10, Try.ntmps10
  go_wp2_with (go_at_call 35; refine (laws_szVectorS _ _ _ _ _ h0 h1 hpm).mono ?_; rintro e w1 ⟨⟨r, rfl, hr⟩, hw1⟩; rw [hw1]; clear hw1 w1; rcases hr with rfl | ⟨hr2, hr3, hn3⟩)
  · go_ret
    exact ⟨⟨-1, rfl, .inl rfl⟩, (Below.refl _ _).alloc (Nat.le_refl _) _⟩
  · have hb : Below w.heap.size w (w.alloc (.cells #[.slice pa pl pc, .slice ta tl tc] 25)) := (Below.refl _ _).alloc (Nat.le_refl _) _
    have ht' := ht.below hb
    go_wp2_with (go_at_call 36; refine (laws_szInt64SS _ _ _ _ _ _ ht' hr2 hr3).mono ?_; rintro e w1 ⟨⟨r', rfl, hr'⟩, hw1⟩; rw [hw1]; clear hw1 w1; rcases hr' with rfl | ⟨hr4, hr5, hn5, hn6⟩)
    · go_ret
      exact ⟨⟨-1, rfl, .inl rfl⟩, hb⟩
    · have HN := Lib.hid hn6
      clear hn6
      go_wp2
      go_ret
      exact ⟨⟨_, rfl, .inr ⟨hr4, hr5, hn3, hn5, HN.out⟩⟩, hb⟩

end Go.Proofs.Ytockhhfehjoldaa


/-
A mesh that comes in as an argument. Conditions: none.
-/
namespace Go.Proofs.Ytockhhfehjoldaa
namespace Fk
open Go Go.RowKit
set_option linter.unusedVariables false
section
open Go.ChangeShapes Go.WideShapes Go.Deep
variable {H : Type} {enc : TypeId × Value → H} {P : Program} {w : World} {base : Nat} {held : Bool}
/-- A mesh that came in. -/
theorem open_mesh {r : Reach} {b0 : Nat} {t : TypeId} {g0 g1 : Field} {ev eq : TypeId} {f0 f1 f2 : Field} {er : TypeId} {v : Value} {d : DataW H} {p : List MemPlace} (hs : P.underlying t = some (.struct #[g0, g1])) (hone : oneCellFields P #[g0, g1] = true) (hC : P.cellsOf t = 2)
    (hp : P.underlying g0.type = some (.slice ev)) (hev : P.underlying ev = some (.struct #[f0, f1, f2])) (honev : oneCellFields P #[f0, f1, f2] = true) (hCv : P.cellsOf ev = 3)
    (he0 : P.underlying f0.type = some (.float .f32)) (he1 : P.underlying f1.type = some (.float .f32)) (he2 : P.underlying f2.type = some (.float .f32))
    (ht : P.underlying g1.type = some (.slice er)) (her : P.underlying er = some (.slice eq)) (heq : P.underlying eq = some (.int .i64)) (ce : P.cellsOf er = 1) (cq : P.cellsOf eq = 1)
    (hv : Value.okWide P w r b0 t v) (h : DataW.Trod enc P w base (fun _ => true) held t v d p) :
    ∃ pa ta pl pc tl tc cs ts, v = .agg #[.slice pa pl pc, .slice ta tl tc] ∧ IsVs w pa pl pc cs ∧ IsTs w ta tl tc ts := by
  obtain ⟨v0, v1, y0, y1, n, rfl, _, _, h0, h1⟩ := Joins.open_agg2 hs hone hC hv h
  obtain ⟨pa, pl, pc, cs, e0, w0⟩ := trod_vecs hp hev honev hCv he0 he1 he2 h0
  obtain ⟨ta, tl, tc, ts, e1, w1⟩ := trod_rows ht her heq ce cq h1
  cases e0; cases e1
  exact ⟨pa, ta, pl, pc, tl, tc, cs, ts, rfl, w0, w1⟩
end
end Fk
end Go.Proofs.Ytockhhfehjoldaa


/-
Which lists are holds of a mesh: the model, and the law's walk. Conditions: none beyond that both lie in memory.
-/
namespace Go.Proofs.Ytockhhfehjoldaa
open Go Fk Go.RowKit
set_option linter.unusedVariables false
set_option maxRecDepth 8000

theorem l02PlaceH (pb pl pc : Nat) (pa : Option Addr) (i : Int) (w : World) (c0 : w.cell? ⟨pb, 0, none⟩ = some (.slice pa pl pc)) (hm : pl ≤ 9223372036854775807) :
    Calls Try.prog 50 #[.pointer (some ⟨pb, 0, none⟩), .int .i64 i] w fun e w' => e = .returned (.bool (inB pl i)) ∧ w' = w := by
  have ui := Try.underlying31
  have htw : IntKind.i64.wrap ((pl : Int) - 1) = (pl : Int) - 1 := IntWalk.i64_in _ (by omega)
  go_enter Try.func50, Try.ntmps50
  go_wp2_with (go_at_call 81; refine (l00In _ _ _).mono ?_; rintro e w2 ⟨rfl, hw2⟩; rw [hw2])
  go_ret
  exact ⟨rfl, by first | rfl | trivial⟩
end Go.Proofs.Ytockhhfehjoldaa


/-
What a hold leaves of a force along its way: the program and the model. Conditions: none beyond that the words fit.
-/
namespace Go.Proofs.Ytockhhfehjoldaa
open Go Fk Go.RowKit
set_option linter.unusedVariables false
set_option maxRecDepth 8000

end Go.Proofs.Ytockhhfehjoldaa

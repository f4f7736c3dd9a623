/-
Texts in one: what RestOf stands on, part 13. Conditions: those of each.
-/
import Derived.Test.YtcgnmnbjgamedabGreatKRestOf12
import Derived.Maps.OwnOps
import Derived.Maps.OwnSet
import Derived.DeepKeys4
import Derived.Lib.Hide
import Derived.WalkKit

/-
The triangles that have two places: what the model gathers, in a list of its own. Conditions: each triangle has three places.
-/
namespace Go.Proofs.YtcgnmnbjgamedabGreat
open Go Fk Go.RowKit
set_option linter.unusedVariables false
set_option maxRecDepth 8000

end Go.Proofs.YtcgnmnbjgamedabGreat

/-
When a mesh is a sheet: by its edges, and by its sides. Conditions: the mesh is valid.
-/
namespace Go.Proofs.YtcgnmnbjgamedabGreat
open Go Fk Go.RowKit
set_option linter.unusedVariables false
set_option maxRecDepth 8000

structure Tri3 (n : Nat) (t : List Int) : Prop where
  d01 : t.getD 0 0 ≠ t.getD 1 0
  d12 : t.getD 1 0 ≠ t.getD 2 0
  d02 : t.getD 0 0 ≠ t.getD 2 0
  r0 : 0 ≤ t.getD 0 0 ∧ t.getD 0 0 < (n : Int)
  r1 : 0 ≤ t.getD 1 0 ∧ t.getD 1 0 < (n : Int)
  r2 : 0 ≤ t.getD 2 0 ∧ t.getD 2 0 < (n : Int)
theorem tri3_of {n : Nat} {t : List Int} (h : triB n t = true) : Tri3 n t := by
  have hp := (tri_partsh h).2
  unfold triB at h
  simp only [Bool.and_eq_true, decide_eq_true_eq] at h
  obtain ⟨_, ⟨h1, h2⟩, h3⟩ := h
  have k0 := hp 0 (by decide)
  have k1 := hp 1 (by decide)
  have k2 := hp 2 (by decide)
  exact ⟨h1, h2, h3, ⟨k0.1, by omega⟩, ⟨k1.1, by omega⟩, ⟨k2.1, by omega⟩⟩
theorem mem_rowsE {L : List (Int × Int)} {n m : Nat} {r : List Int} : r ∈ rowsE L n m ↔ ∃ a b : Nat, a < m ∧ b < n ∧ a < b ∧ ((a : Int), (b : Int)) ∈ L ∧ r = [(a : Int), (b : Int)] := by
  unfold rowsE rowE
  simp only [List.mem_flatMap, List.mem_range, List.mem_map, List.mem_filter, Bool.and_eq_true, decide_eq_true_eq]
  constructor
  · rintro ⟨a, ha, b, ⟨hb, hab, hm⟩, rfl⟩
    exact ⟨a, b, ha, hb, hab, hm, rfl⟩
  · rintro ⟨a, b, ha, hb, hab, hm, rfl⟩
    exact ⟨a, ha, b, ⟨hb, hab, hm⟩, rfl⟩
end Go.Proofs.YtcgnmnbjgamedabGreat

/-
Maps whose keys are sides: how a key reads, and what a map of flags holds. Conditions: none.
-/
namespace Go.Proofs.YtcgnmnbjgamedabGreat
open Go Fk Go.RowKit Go.Maps
set_option linter.unusedVariables false
set_option maxRecDepth 8000

theorem laidOutP : laidOutB Tryz.prog = true := by kernel_rfl
theorem sizeP : ∃ m, Tryz.prog.types.size = m + 1 := ⟨Tryz.prog.types.size - 1, by kernel_rfl⟩
theorem sideWide : (match Tryz.prog.underlying 207 with | some (.array _ _) | some (.struct _) => true | _ => false) = true := by kernel_rfl
theorem sideType : Tryz.prog.keyTypeAt 2 207 = true := by kernel_rfl
theorem sideKey : Tryz.prog.keyType 207 = true := by kernel_rfl
theorem sideCells : Tryz.prog.cellsOf 207 = 2 := by kernel_rfl
theorem intCells : Tryz.prog.cellsOf 2 = 1 := by kernel_rfl
theorem sideTiled : Tryz.prog.tiled 2 207 = true := tiled_of_laidOut laidOutP 2 _ (by kernel_rfl) sideType
/-- What a pair of numbers reads as. -/
def kS (s : Int × Int) : Lit := .string (keyBytes [.int .i64 s.1, .int .i64 s.2])
theorem keyOf_side {a b : Int} (wa : (Lit.int .i64 a).wf = true) (wb : (Lit.int .i64 b).wf = true) : keyOf Tryz.prog 207 (.agg #[.int .i64 a, .int .i64 b]) = some (kS (a, b)) := by
  have us := Tryz.underlying207
  have ui := Tryz.underlying2
  obtain ⟨m, hm⟩ := sizeP
  unfold keyOf
  simp only [us]
  rw [if_pos (by simp [sideKey, Value.formed, us, sideCells]), hm]
  unfold Program.keyLits
  simp only [us, Value.cells]
  rw [if_pos (by rw [sideCells]; exact ⟨rfl, by kernel_rfl⟩)]
  simp [Program.keyLits, ui, intCells, wa, wb, kS]
theorem kS_inj {a b c d : Int} (wa : (Lit.int .i64 a).wf = true) (wb : (Lit.int .i64 b).wf = true) (wc : (Lit.int .i64 c).wf = true) (wd : (Lit.int .i64 d).wf = true) (h : kS (a, b) = kS (c, d)) : (a, b) = (c, d) := by
  have h1 := keyOf_side wa wb
  have h2 := keyOf_side wc wd
  rw [h] at h1
  have := keyOf_inj_deep sideTiled sideWide h1 h2
  simpa using this
theorem kS_key (s : Int × Int) : WideAt.IsKeyLit (kS s) := by
  unfold kS
  exact trivial
end Go.Proofs.YtcgnmnbjgamedabGreat

/-
The triangles of a mesh as arrays: what the program makes of them. Conditions: each has three places.
-/
namespace Go.Proofs.YtcgnmnbjgamedabGreat
open Go Fk Go.RowKit
set_option linter.unusedVariables false
set_option maxRecDepth 8000

def IsCs (w : World) (b n : Nat) (ts : List (List Int)) : Prop := ∀ k, k < n → w.cell? ⟨b, k * 3, none⟩ = some (.int .i64 ((ts.getD k []).getD 0 0)) ∧ w.cell? ⟨b, k * 3 + 1, none⟩ = some (.int .i64 ((ts.getD k []).getD 1 0)) ∧ w.cell? ⟨b, k * 3 + 2, none⟩ = some (.int .i64 ((ts.getD k []).getD 2 0))
theorem IsCs.below {W w : World} {b n : Nat} {ts : List (List Int)} (hb : Below W.heap.size W w) (h : IsCs W b n ts) : IsCs w b n ts := fun k hk => ⟨cell_below hb (h k hk).1, cell_below hb (h k hk).2.1, cell_below hb (h k hk).2.2⟩
theorem infoC : (Tryz.prog.info? 137).map (fun i => (i.zero, i.size, i.bytes)) = some (some (.agg #[.int .i64 0, .int .i64 0, .int .i64 0]), 3, 24) := by kernel_rfl
end Go.Proofs.YtcgnmnbjgamedabGreat

/-
Whether a mesh is a sheet: what the program returns. Conditions: the mesh lies in memory.
-/
namespace Go.Proofs.YtcgnmnbjgamedabGreat
open Go Fk Go.RowKit Go.Maps
set_option linter.unusedVariables false
set_option maxRecDepth 16000

theorem IsCs.agree {S : Nat → Prop} {W w : World} {b n : Nat} {ts : List (List Int)} (h : IsCs W b n ts) (hb : S b) (hA : Agree S W w) : IsCs w b n ts := fun k hk =>
  ⟨hA.cell _ _ _ hb (h k hk).1, hA.cell _ _ _ hb (h k hk).2.1, hA.cell _ _ _ hb (h k hk).2.2⟩
/-- A map of flags that are set at these sides. -/
def FlagsOf (D : DataW Unit) (L : List (Int × Int)) : Prop := IsMap D ∧ ∀ a b, (Lit.int .i64 a).wf = true → (Lit.int .i64 b).wf = true → D.atKey (kS (a, b)) (.lit (.bool false)) = .lit (.bool (decide ((a, b) ∈ L)))
theorem FlagsOf.nil : FlagsOf (.map []) [] := ⟨isMap_empty, fun a b _ _ => by simp [DataW.atKey]⟩
theorem FlagsOf.put {D : DataW Unit} {L : List (Int × Int)} {x y : Int} (h : FlagsOf D L) (wx : (Lit.int .i64 x).wf = true) (wy : (Lit.int .i64 y).wf = true) : FlagsOf (D.put (kS (x, y)) (.lit (.bool true))) (L ++ [(x, y)]) := by
  refine ⟨h.1.put _ _, fun a b wa wb => ?_⟩
  by_cases e : (a, b) = (x, y)
  · rw [e, atKey_put_same h.1 (kS_key _)]
    simp
  · rw [atKey_put_other (fun e' => e (kS_inj wa wb wx wy e')), h.2 a b wa wb]
    simp only [List.mem_append, List.mem_singleton, e, or_false]
theorem side_ix (a b c d e f : Int) (j : Nat) (hj : j < 3) : ∀ w, (Instr.index 208 (.agg #[.int .i64 a, .int .i64 b, .int .i64 c, .int .i64 d, .int .i64 e, .int .i64 f]) (.int .i64 (j : Int))).run Tryz.prog w = .ok (.agg #[.int .i64 ([a, c, e].getD j 0), .int .i64 ([b, d, f].getD j 0)]) w := by
  have u := Tryz.underlying207
  have ua := Tryz.underlying208
  intro w
  have : j = 0 ∨ j = 1 ∨ j = 2 := by omega
  rcases this with rfl | rfl | rfl
  all_goals
    first
      | rfl
      | (simp [Instr.index, u, ua, go_sem]; done)
theorem impl_sides (a b c : Int) (w : World) : Calls Tryz.prog 153 #[.agg #[.int .i64 a, .int .i64 b, .int .i64 c]] w fun e w' => e = .returned (.agg #[.int .i64 a, .int .i64 b, .int .i64 b, .int .i64 c, .int .i64 c, .int .i64 a]) ∧ Below w.heap.size w w' := by
  have uc := Tryz.underlying137
  have us := Tryz.underlying207
  have ua := Tryz.underlying208
  go_enter Tryz.func153, Tryz.ntmps153
  go_wp2
  refine bodyPost_ret (v := .agg #[.int .i64 a, .int .i64 b, .int .i64 b, .int .i64 c, .int .i64 c, .int .i64 a]) (by simp [results, Tryz.results153, go_sem]) rfl ?_
  exact ⟨rfl, ((Below.refl _ _).alloc (Nat.le_refl _) _).alloc (by simp) _⟩
end Go.Proofs.YtcgnmnbjgamedabGreat

/-
Texts in one: what BorderOf stands on, part 4. Conditions: those of each.
-/
import Derived.Test.YtockhhfehjoldaaKBorderOf3
import Derived.Below
import Derived.LoopTactic
import Derived.IntWalk
import Derived.Laws.MakeOwn

/-
How great a body is; copies of springs and of lists of them, and that they are the same: what the law's own functions return. Conditions: at most 2^20 of each.
-/
namespace Go.Proofs.Ytockhhfehjoldaa
open Go Fk Go.RowKit
set_option linter.unusedVariables false
set_option maxRecDepth 8000

abbrev sv (a b : Int) (x y : Nat) : Value := .agg #[.int .i64 a, .int .i64 b, .float .f32 x, .float .f32 y]
theorem laws_szMesh' (pa ta : Option Addr) (pl pc tl tc : Nat) (cs : List C3) (ts : List (List Int)) (left : Int) (w : World) (hp : IsVs w pa pl pc cs) (ht : IsTs w ta tl tc ts) (h0 : 0 ≤ left) (h1 : left ≤ 1048576) :
    Calls Try.prog 10 #[.agg #[.slice pa pl pc, .slice ta tl tc], .int .i64 left] w fun e w' => (∃ r : Int, e = .returned (.int .i64 r) ∧ (r = -1 ∨ (0 ≤ r ∧ r ≤ 1048576 ∧ pl ≤ 1048576 ∧ tl ≤ 1048576 ∧ ∀ k, k < tl → (ts.getD k []).length ≤ 1048576))) ∧ Below w.heap.size w w' := by
  have hpm : pl ≤ 9223372036854775807 := by have h1 := hp.2.1; have h2 := hp.2.2.1; unfold maxLen at h2; omega
  have u := Try.underlying25
  go_enter Try.func10, Try.ntmps10
  go_wp2_with (go_at_call 35; refine (laws_szVectorS _ _ _ _ _ h0 h1 hpm).mono ?_; rintro e w1 ⟨⟨r, rfl, hr⟩, hw1⟩; rw [hw1]; clear hw1 w1; rcases hr with rfl | ⟨hr2, hr3, hn3⟩)
  · go_ret
    exact ⟨⟨-1, rfl, .inl rfl⟩, (Below.refl _ _).alloc (Nat.le_refl _) _⟩
  · have hb : Below w.heap.size w (w.alloc (.cells #[.slice pa pl pc, .slice ta tl tc] 25)) := (Below.refl _ _).alloc (Nat.le_refl _) _
    have ht' := ht.below hb
    go_wp2_with (go_at_call 36; refine (laws_szInt64SS _ _ _ _ _ _ ht' hr2 hr3).mono ?_; rintro e w1 ⟨⟨r', rfl, hr'⟩, hw1⟩; rw [hw1]; clear hw1 w1; rcases hr' with rfl | ⟨hr4, hr5, hn5, hn6⟩)
    · go_ret
      exact ⟨⟨-1, rfl, .inl rfl⟩, hb⟩
    · have HN := Lib.hid hn6
      clear hn6
      go_wp2
      go_ret
      exact ⟨⟨_, rfl, .inr ⟨hr4, hr5, hn3, hn5, HN.out⟩⟩, hb⟩

theorem set4k {w : World} {n o : Nat} {u v t s u0 v0 t0 s0 : Value} (h0 : w.cell? ⟨n, o, none⟩ = some u0) (h1 : w.cell? ⟨n, o + 1, none⟩ = some v0) (h2 : w.cell? ⟨n, o + 2, none⟩ = some t0) (h3 : w.cell? ⟨n, o + 3, none⟩ = some s0) :
    ((((w.setCell ⟨n, o, none⟩ u).setCell ⟨n, o + 1, none⟩ v).setCell ⟨n, o + 2, none⟩ t).setCell ⟨n, o + 3, none⟩ s).cell? ⟨n, o, none⟩ = some u ∧ ((((w.setCell ⟨n, o, none⟩ u).setCell ⟨n, o + 1, none⟩ v).setCell ⟨n, o + 2, none⟩ t).setCell ⟨n, o + 3, none⟩ s).cell? ⟨n, o + 1, none⟩ = some v ∧
    ((((w.setCell ⟨n, o, none⟩ u).setCell ⟨n, o + 1, none⟩ v).setCell ⟨n, o + 2, none⟩ t).setCell ⟨n, o + 3, none⟩ s).cell? ⟨n, o + 2, none⟩ = some t ∧ ((((w.setCell ⟨n, o, none⟩ u).setCell ⟨n, o + 1, none⟩ v).setCell ⟨n, o + 2, none⟩ t).setCell ⟨n, o + 3, none⟩ s).cell? ⟨n, o + 3, none⟩ = some s ∧
    ∀ j, j ≠ o → j ≠ o + 1 → j ≠ o + 2 → j ≠ o + 3 → ((((w.setCell ⟨n, o, none⟩ u).setCell ⟨n, o + 1, none⟩ v).setCell ⟨n, o + 2, none⟩ t).setCell ⟨n, o + 3, none⟩ s).cell? ⟨n, j, none⟩ = w.cell? ⟨n, j, none⟩ := by
  obtain ⟨e0, e1, e2, eo⟩ := set3k (u := u) (v := v) (t := t) h0 h1 h2
  have e3 := (eo (o + 3) (by omega) (by omega) (by omega)).trans h3
  refine ⟨?_, ?_, ?_, World.cell?_setCell_same _ _ _ e3, fun j j0 j1 j2 j3 => ?_⟩
  · rw [World.cell?_setCell_other _ _ _ _ (by simp)]; exact e0
  · rw [World.cell?_setCell_other _ _ _ _ (by simp)]; exact e1
  · rw [World.cell?_setCell_other _ _ _ _ (by simp)]; exact e2
  · rw [World.cell?_setCell_other _ _ _ _ (by simp <;> omega)]; exact eo j j0 j1 j2
theorem _root_.Go.Proofs.Ytockhhfehjoldaa.Fk.IsSs.set {w : World} {a : Addr} {v : Value} {b len cap : Nat} {o : Nat} {ss : List SC} (h : IsSs w (some ⟨b, o, none⟩) len cap ss) (hne : a.block ≠ b) : IsSs (w.setCell a v) (some ⟨b, o, none⟩) len cap ss := by
  obtain ⟨h1, h2, h3, h4, h5, h6⟩ := h
  have ne : ∀ j, a ≠ ⟨b, j, none⟩ := fun j h => hne (by rw [h])
  refine ⟨h1, h2, h3, h4, h5, fun x hx i hi => ?_⟩
  obtain ⟨p, q, k0, k1, k2, k3, hv⟩ := h6 x hx i hi
  cases hx
  rw [addr_add'] at k0 k1 k2 k3
  refine ⟨p, q, ?_, ?_, ?_, ?_, hv⟩
  · rw [addr_add', World.cell?_setCell_other _ _ _ _ (ne _)]; exact k0
  · rw [addr_add', World.cell?_setCell_other _ _ _ _ (ne _)]; exact k1
  · rw [addr_add', World.cell?_setCell_other _ _ _ _ (ne _)]; exact k2
  · rw [addr_add', World.cell?_setCell_other _ _ _ _ (ne _)]; exact k3
end Go.Proofs.Ytockhhfehjoldaa


/-
Marks in lists of springs and of numbers: they are written where the list lies, and nowhere else, and they are held. Conditions: the list's cells may be written.
-/
namespace Go.Proofs.Ytockhhfehjoldaa
open Go Fk Go.RowKit
set_option linter.unusedVariables false
set_option maxRecDepth 8000

/-- What the mark of a cell of a list of springs is. -/
def spV (z : Int) (j : Nat) : Value := if j % 4 < 2 then .int .i64 z else .float .f32 (floatOfInt .f32 z)
end Go.Proofs.Ytockhhfehjoldaa


/-
Two meshes that hold the same are the same. Conditions: none.
-/
namespace Go.Proofs.Ytockhhfehjoldaa
open Go Fk Go.RowKit
set_option linter.unusedVariables false
set_option maxRecDepth 8000

set_option maxHeartbeats 1000000 in
theorem laws_eqMesh (pa ta pa' ta' : Option Addr) (pl pc tl tc pc' tc' : Nat) (cs : List C3) (ts : List (List Int)) (w : World) (hp : IsVs w pa pl pc cs) (ht : IsTs w ta tl tc ts) (hp' : IsVs w pa' pl pc' cs) (ht' : IsTs w ta' tl tc' ts) :
    Calls Try.prog 15 #[.agg #[.slice pa pl pc, .slice ta tl tc], .agg #[.slice pa' pl pc', .slice ta' tl tc']] w fun e w' => e = .returned (.bool true) ∧ Below w.heap.size w w' := by
  have ui := Try.underlying31
  have hB0 : Below w.heap.size w ((w.alloc (.cells #[.slice pa pl pc, .slice ta tl tc] 31)).alloc (.cells #[.slice pa' pl pc', .slice ta' tl tc'] 31)) := ((Below.refl _ _).alloc (Nat.le_refl _) _).alloc (by simp) _
  have c1 : ((w.alloc (.cells #[.slice pa pl pc, .slice ta tl tc] 31)).alloc (.cells #[.slice pa' pl pc', .slice ta' tl tc'] 31)).cell? ⟨w.heap.size, 1, none⟩ = some (.slice ta tl tc) := by go_simp
  have c2 : ((w.alloc (.cells #[.slice pa pl pc, .slice ta tl tc] 31)).alloc (.cells #[.slice pa' pl pc', .slice ta' tl tc'] 31)).cell? ⟨w.heap.size + 1, 1, none⟩ = some (.slice ta' tl tc') := by go_simp
  have hsz : ((w.alloc (.cells #[.slice pa pl pc, .slice ta tl tc] 31)).alloc (.cells #[.slice pa' pl pc', .slice ta' tl tc'] 31)).heap.size = w.heap.size + 1 + 1 := by simp
  have P1 := Lib.hid (hp.below hB0)
  have P2 := Lib.hid (hp'.below hB0)
  have T1 := Lib.hid ht
  have T2 := Lib.hid ht'
  have HB0 := Lib.hid hB0
  have HSZ := Lib.hid hsz
  have C1 := Lib.hid c1
  have C2 := Lib.hid c2
  clear hp hp' ht ht' hB0 hsz c1 c2
  go_enter Try.func15, Try.ntmps15
  go_wp2_with fail
  refine (laws_eqVectorS _ _ _ _ _ _ _ P1.out P2.out).mono ?_
  rintro e w1 ⟨rfl, hB1⟩
  have hsz := HSZ.out
  have lt0 : w.heap.size < ((w.alloc (.cells #[.slice pa pl pc, .slice ta tl tc] 31)).alloc (.cells #[.slice pa' pl pc', .slice ta' tl tc'] 31)).heap.size := by rw [hsz]; omega
  have lt1 : w.heap.size + 1 < ((w.alloc (.cells #[.slice pa pl pc, .slice ta tl tc] 31)).alloc (.cells #[.slice pa' pl pc', .slice ta' tl tc'] 31)).heap.size := by rw [hsz]; omega
  have d1 : w1.cell? ⟨w.heap.size, 1, none⟩ = some (.slice ta tl tc) := by rw [hB1.cell (p := ⟨w.heap.size, 1, none⟩) lt0]; exact C1.out
  have d2 : w1.cell? ⟨w.heap.size + 1, 1, none⟩ = some (.slice ta' tl tc') := by rw [hB1.cell (p := ⟨w.heap.size + 1, 1, none⟩) lt1]; exact C2.out
  have hB : Below w.heap.size w w1 := HB0.out.trans (hB1.mono (by rw [hsz]; omega))
  have HB := Lib.hid hB
  clear hB1 hsz lt0 lt1 P1 P2 HB0 HSZ C1 C2 hB
  go_wp2_with fail
  refine (laws_eqInt64SS _ _ _ _ _ _ _ (T1.out.below HB.out) (T2.out.below HB.out)).mono ?_
  rintro e w2 ⟨rfl, n, hw⟩
  have HW := Lib.hid hw
  clear hw
  go_wp2
  go_ret
  exact ⟨rfl, by rw [HW.out]; exact below_drewN HB.out _⟩
end Go.Proofs.Ytockhhfehjoldaa


/-
Lists of floats: copies of them, and that a list is the same as its copy. Conditions: at most 2^20 numbers.
-/
namespace Go.Proofs.Ytockhhfehjoldaa
open Go Fk Go.RowKit
set_option linter.unusedVariables false
set_option maxRecDepth 8000

/-- The cells of a copy behind k rounds. -/
def cur (zs : List Nat) (n k : Nat) : Array Value := ((zs.take k).map (fun z => Value.float .f32 z) ++ List.replicate (n - k) (Value.float .f32 0)).toArray
theorem cur_zero (zs : List Nat) (n : Nat) : cur zs n 0 = madeCells #[.float .f32 0] n := by
  unfold cur madeCells
  apply Array.ext'
  apply List.ext_getElem?
  intro i
  by_cases hi : i < n
  · simp [hi, Nat.mod_one]
  · simp [hi]
theorem cur_set (zs : List Nat) (n k : Nat) (hk : k < n) (hz : zs.length = n) : (cur zs n k).setIfInBounds k (.float .f32 (zs.getD k 0)) = cur zs n (k + 1) := by
  unfold cur
  apply Array.ext'
  rw [Array.toList_setIfInBounds]
  apply List.ext_getElem?
  intro i
  have hk' : k < zs.length := by omega
  have hl : ((zs.take k).map (fun z => Value.float .f32 z)).length = k := by simp; omega
  have hl' : ((zs.take (k + 1)).map (fun z => Value.float .f32 z)).length = k + 1 := by simp; omega
  rw [List.getElem?_set]
  by_cases hi : k = i
  · subst hi
    rw [if_pos rfl, if_pos (by simp; omega), List.getElem?_append_left (by omega)]
    simp [hk']
  · rw [if_neg hi]
    by_cases h1 : i < k
    · rw [List.getElem?_append_left (by omega), List.getElem?_append_left (by omega)]
      simp [h1, show i < k + 1 by omega]
    · rw [List.getElem?_append_right (by omega), List.getElem?_append_right (by omega), hl, hl', List.getElem?_replicate, List.getElem?_replicate]
      by_cases h2 : i < n
      · rw [if_pos (by omega), if_pos (by omega)]
      · rw [if_neg (by omega), if_neg (by omega)]
theorem cur_size (zs : List Nat) (n k : Nat) (hk : k ≤ n) (hz : zs.length = n) : (cur zs n k).size = n := by unfold cur; simp; omega
theorem cur_end (zs : List Nat) (n : Nat) (hz : zs.length = n) (i : Nat) (hi : i < n) : (cur zs n n)[i]? = some (.float .f32 (zs.getD i 0)) := by
  have hi' : i < zs.length := by omega
  have ht : zs.take n = zs := List.take_of_length_le (by omega)
  unfold cur
  rw [ht]
  simp [hi']
theorem addr_add (b o i : Nat) : (⟨b, o, none⟩ : Addr).add i = ⟨b, o + i, none⟩ := by
  unfold Addr.add
  split
  · rename_i h; subst h; rfl
  · rfl

theorem IsFs_below {W w : World} {a : Option Addr} {len cap : Nat} {zs : List Nat} (hb : Below W.heap.size W w) (h : IsFs .f32 W a len cap zs) : IsFs .f32 w a len cap zs := by
  obtain ⟨h1, h2, h3, h4, h5, h6⟩ := h
  refine ⟨h1, h2, h3, h4, h5, fun x hx i hi => ?_⟩
  have hc := h6 x hx i hi
  have hlt := World.block_lt_of_cell? W _ hc
  rw [hb.cell (p := x.add i) hlt]; exact hc
theorem IsFs_drewN {w : World} {n : Nat} {a : Option Addr} {len cap : Nat} {zs : List Nat} (h : IsFs .f32 w a len cap zs) : IsFs .f32 (w.drewN n) a len cap zs := h
/-- A list that is not empty lies somewhere. -/
theorem IsFs_some {w : World} {a : Option Addr} {len cap : Nat} {zs : List Nat} (h : IsFs .f32 w a len cap zs) (hl : 0 < len) :
    ∃ b o, a = some ⟨b, o, none⟩ ∧ ∀ i, i < len → w.cell? ⟨b, o + i, none⟩ = some (.float .f32 (zs.getD i 0)) := by
  obtain ⟨h1, h2, h3, h4, h5, h6⟩ := h
  cases a with
  | none => have := (h5 rfl).1; omega
  | some x =>
    obtain ⟨b, o, spot⟩ := x
    have hc := h6 _ rfl 0 hl
    have hspot : spot = none := by simpa [Addr.add] using World.cell?_spot hc
    subst hspot
    exact ⟨b, o, rfl, fun i hi => by have := h6 _ rfl i hi; rwa [addr_add] at this⟩
theorem info32 : (Try.prog.info? 86).map (fun i => (i.zero, i.size, i.bytes)) = some (some (.float .f32 0), 1, 4) := by kernel_rfl

def isF64 (c : Option Nat) (v : Value) : Prop := ∃ r, v = .float .f64 r ∧ FV .f64 r c
end Go.Proofs.Ytockhhfehjoldaa

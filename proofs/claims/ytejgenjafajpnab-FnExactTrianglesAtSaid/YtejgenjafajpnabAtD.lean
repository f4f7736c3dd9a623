
/-
The triangles that have a place: what the program gathers. Conditions: each triangle has three places.
-/
import Derived.Test.YtejgenjafajpnabAtC
namespace Go.Proofs.Ytejgenjafajpnab
open Go Fk Go.RowKit
set_option linter.unusedVariables false
set_option maxRecDepth 8000

theorem contains3 (b : Nat) (j0 j1 j2 p : Int) (w : World) (z0 : w.cell? ⟨b, 0, none⟩ = some (.int .i64 j0)) (z1 : w.cell? ⟨b, 1, none⟩ = some (.int .i64 j1)) (z2 : w.cell? ⟨b, 2, none⟩ = some (.int .i64 j2)) :
    Calls Try.prog 110 #[.slice (some ⟨b, 0, none⟩) 3 3, .int .i64 p] w fun e w' => e = .returned (.bool (decide (j0 = p) || (decide (j1 = p) || decide (j2 = p)))) ∧ w' = w := by
  have HI := Lib.hid (index3 b j0 j1 j2 p w z0 z1 z2)
  generalize (decide (j0 = p) || (decide (j1 = p) || decide (j2 = p))) = B at *
  clear z0 z1 z2
  go_enter Try.func110, Try.ntmps110
  go_wp2_with (go_at_call 124; refine HI.out.mono ?_; rintro e w1 ⟨z, rfl, hz, hw1⟩; rw [hw1]; have HZ := Lib.hid hz; clear hz)
  go_ret
  exact ⟨ret_bool HZ.out, by first | rfl | trivial⟩
theorem has3 (t : List Int) (p : Int) (w : World) :
    Calls Try.prog 81 #[.agg #[.int .i64 (t.getD 0 0), .int .i64 (t.getD 1 0), .int .i64 (t.getD 2 0)], .int .i64 p] w fun e w' => e = .returned (.bool (hasB t p)) ∧ Below w.heap.size w w' := by
  have uc := Try.underlying72
  unfold hasB
  generalize t.getD 0 0 = j0 at *
  generalize t.getD 1 0 = j1 at *
  generalize t.getD 2 0 = j2 at *
  have HB := Lib.hid ((Below.refl w.heap.size w).alloc (Nat.le_refl _) (.cells #[.int .i64 j0, .int .i64 j1, .int .i64 j2] 72))
  have HI := Lib.hid (contains3 w.heap.size j0 j1 j2 p (w.alloc (.cells #[.int .i64 j0, .int .i64 j1, .int .i64 j2] 72)) (by go_simp) (by go_simp) (by go_simp))
  generalize (decide (j0 = p) || (decide (j1 = p) || decide (j2 = p))) = B at *
  go_enter Try.func81, Try.ntmps81
  go_wp2_with (go_at_call 110; refine HI.out.mono ?_; rintro e w1 ⟨rfl, hw1⟩; rw [hw1])
  go_ret
  exact ⟨rfl, HB.out⟩
theorem clo_of (t : List Int) (p : Int) (pv : Nat) (w : World) (hc : w.cell? ⟨pv, 0, none⟩ = some (.int .i64 p)) :
    Calls Try.prog 82 #[.agg #[.int .i64 (t.getD 0 0), .int .i64 (t.getD 1 0), .int .i64 (t.getD 2 0)], .pointer (some ⟨pv, 0, none⟩)] w fun e w' => e = .returned (.bool (hasB t p)) ∧ Below w.heap.size w w' := by
  have uc := Try.underlying72
  have hJ := fun w => has3 t p w
  generalize hasB t p = B at *
  generalize t.getD 0 0 = j0 at *
  generalize t.getD 1 0 = j1 at *
  generalize t.getD 2 0 = j2 at *
  have HJ := Lib.hid hJ
  clear hJ
  have hlt := World.block_lt_of_cell? _ _ hc
  have hB0 : Below w.heap.size w (w.alloc (.cells #[.int .i64 j0, .int .i64 j1, .int .i64 j2] 72)) := (Below.refl _ _).alloc (Nat.le_refl _) _
  have HB0 := Lib.hid hB0
  have hc' := cell_below hB0 hc
  clear hB0 hc
  go_enter Try.func82, Try.ntmps82
  go_wp2_with (go_at_call 81; refine (HJ.out _).mono ?_; rintro e w1 ⟨rfl, hb1⟩; have HB1 := Lib.hid (HB0.out.trans (hb1.mono HB0.out.size)); clear hb1)
  go_ret
  exact ⟨rfl, HB1.out⟩
theorem owns_below {w w' : World} {base : Nat} {e : TypeId} {size : Nat} {v : Value} {n : Nat} {xs : List Value} (h : w.ownsRow base e size v n xs) (hB : Below w.heap.size w w') : w'.ownsRow base e size v n xs :=
  h.kept (row := none) ⟨hB.os, hB.tape, hB.output, hB.size, fun k hk _ => hB.block k hk⟩ (by cases v.ownBlock <;> simp)
theorem owns_mono {w : World} {base base' : Nat} {e : TypeId} {size : Nat} {v : Value} {n : Nat} {xs : List Value} (h : w.ownsRow base e size v n xs) (hb : base' ≤ base) : w.ownsRow base' e size v n xs := by
  obtain ⟨h1, h2⟩ := h
  refine ⟨h1, h2.imp id ?_⟩
  rintro ⟨g, cap, cur, h3, h4, h5⟩
  exact ⟨g, cap, cur, h3, Nat.le_trans hb h4, h5⟩
theorem atL_same {ts : List (List Int)} {p : Int} {k : Nat} (h : hasB (ts.getD k []) p = true) : atL ts p p (k + 1) = atL ts p p k ++ [(k : Int)] := atL_yes h h
theorem atL_none {ts : List (List Int)} {p : Int} {k : Nat} (h : hasB (ts.getD k []) p = false) : atL ts p p (k + 1) = atL ts p p k := atL_no (by rw [h]; rfl)
set_option maxHeartbeats 1000000 in
theorem triangles_of (pv : Nat) (pl pc tl tc : Nat) (pa ta : Option Addr) (ts : List (List Int)) (p : Int) (w : World) (ht : IsTs w ta tl tc ts) (h3 : ∀ k, k < tl → (ts.getD k []).length = 3) (hlen : tl ≤ 128) (hc : w.cell? ⟨pv, 0, none⟩ = some (.int .i64 p)) :
    Calls Try.prog 79 #[.agg #[.slice pa pl pc, .slice ta tl tc], .func (.func 82) #[] #[.pointer (some ⟨pv, 0, none⟩)]] w fun e w' => ∃ v, e = .returned v ∧ w'.ownsRow w.heap.size 2 1 v (atL ts p p tl).length ((atL ts p p tl).map (Value.int .i64)) ∧ Below w.heap.size w w' := by
  have ui := Try.underlying30
  have uc := Try.underlying72
  obtain ⟨i0, hi, hz0, hz1, hz2⟩ := info_parts info64
  have hB0 : Below w.heap.size w (w.alloc (.cells #[.slice pa pl pc, .slice ta tl tc] 30)) := (Below.refl _ _).alloc (Nat.le_refl _) _
  have hA := all_corners pa ta pl pc tl tc ts _ (ht.below hB0) h3 hlen
  obtain ⟨cb, hcb⟩ : ∃ cb, cb = (w.alloc (.cells #[.slice pa pl pc, .slice ta tl tc] 30)).heap.size + 1 := ⟨_, rfl⟩
  rw [← hcb] at hA
  have HA := Lib.hid hA
  have HB0 := Lib.hid hB0
  have HC := Lib.hid hc
  clear ht h3 hc hB0 hcb hA
  go_enter Try.func79, Try.ntmps79
  go_wp2_with (go_at_call 64; refine HA.out.mono ?_; rintro e w1 ⟨rfl, hcs, hb1, hs1⟩; have HCS := Lib.hid hcs; have HB1 := Lib.hid (HB0.out.trans (hb1.mono HB0.out.size)); clear hcs hb1 hs1 HA)
  have HC1 := Lib.hid (cell_below HB1.out HC.out)
  go_loopw [5, 11] (fun v i w' => ∃ k : Nat, k ≤ tl ∧ i = .int .i64 k ∧ Aside (w'.ownsRow w1.heap.size 2 1 v (atL ts p p k).length ((atL ts p p k).map (Value.int .i64)) ∧ Below w1.heap.size w1 w')) (fun _ i _ => tl - (intOf i).toNat)
  case atStart => exact ⟨0, Nat.zero_le _, rfl, World.ownsRow_nil _ _ _ _, Below.refl _ _⟩
  case round =>
    obtain ⟨k, hk, hik, hA⟩ := hrel
    subst hik
    obtain ⟨hown, hB⟩ := hA.out
    have HB := Lib.hid hB
    have HOWN := Lib.hid hown
    by_cases hlt : k < tl
    · obtain ⟨z0, z1, z2⟩ := (HCS.out.below hB) k hlt
      have lb := World.block_lt_of_cell? _ _ z0
      have hk0 : (0 : Int) ≤ (k : Int) := by omega
      have hk1 : (k : Int) < (tl : Int) := by omega
      have hal := atL_len ts p p k
      have hJ := fun w' hc' => clo_of (ts.getD k []) p pv w' hc'
      have HY := Lib.hid (@atL_same ts p k)
      have HN := Lib.hid (@atL_none ts p k)
      have HCr := Lib.hid (cell_below hB HC1.out)
      have hbz := Lib.hid hB.size
      generalize hasB (ts.getD k []) p = bb at *
      generalize (ts.getD k []).getD 0 0 = j0 at *
      generalize (ts.getD k []).getD 1 0 = j1 at *
      generalize (ts.getD k []).getD 2 0 = j2 at *
      have HJ := Lib.hid hJ
      clear hA hB hown hJ
      have HG := Lib.hid ((Below.refl wr.heap.size wr).alloc (Nat.le_refl _) (.cells #[.int .i64 j0, .int .i64 j1, .int .i64 j2] 72))
      cases bb
      · have HN' := Lib.hid (HN.out rfl)
        clear HN HY
        go_wp2_with (go_at_call 82; refine (HJ.out _ (cell_below HG.out HCr.out)).mono ?_; rintro e w2 ⟨rfl, hb2⟩; have HB2 := Lib.hid (HG.out.trans (hb2.mono HG.out.size)); clear hb2)
        go_roundw
        case rel => exact ⟨k + 1, by omega, by go_num, by rw [HN'.out]; exact owns_below HOWN.out HB2.out, HB.out.trans (HB2.out.mono hbz.out)⟩
        case measure => simp [intOf]; omega
      · have HY' := Lib.hid (HY.out rfl)
        clear HN HY
        go_wp2_with (first
          | (go_at_call 82; refine (HJ.out _ (cell_below HG.out HCr.out)).mono ?_; rintro e w2 ⟨rfl, hb2⟩; have HB2 := Lib.hid (HG.out.trans (hb2.mono HG.out.size)); clear hb2)
          | (at_builtin; refine wpList_append_own _ rfl _ _ 43 rfl w1.heap.size 2 i0 (.int .i64 0) 1 8 Try.underlying43 hi hz0 hz1 hz2 rfl (by decide) _ _ _ rfl ((owns_below HOWN.out HB2.out).alloc _) ⟨w2.heap.size, 0, none⟩ 1 1 [.int .i64 (k : Int)] rfl rfl ?c1 ?c2 ?c3 ?c4 ?c5 ?_))
        case c1 =>
          intro j u hj
          match j, hj with
          | 0, hj => simp at hj; subst hj; simp [Addr.add]
        case c2 => intro u hu; simp at hu; subst hu; rfl
        case c3 => unfold maxLen; omega
        case c4 => omega
        case c5 => have := hbz.out; have := HB2.out.size; simp; omega
        · intro v' w3 hown' hgrow _
          have hB2 : Below w1.heap.size w1 w2 := HB.out.trans (HB2.out.mono hbz.out)
          have hB3 : Below w1.heap.size w1 (w2.alloc (.cells #[.int .i64 (k : Int)] 2)) := hB2.alloc hB2.size _
          have HB3 := Lib.hid (hB3.grown hgrow hB3.size (fun k hk => ((owns_below HOWN.out HB2.out).lt k hk).1))
          have HO3 := Lib.hid hown'
          clear hown' hgrow hB2 hB3
          go_wp2
          go_roundw
          case rel => exact ⟨k + 1, by omega, by go_num, by rw [HY'.out]; simpa using HO3.out, HB3.out⟩
          case measure => simp [intOf]; omega
    · obtain rfl : k = tl := by omega
      clear hA hB hown
      go_wp2
      go_ret
      exact ⟨_, rfl, owns_mono HOWN.out HB1.out.size, HB1.out.trans (HB.out.mono HB1.out.size)⟩
end Go.Proofs.Ytejgenjafajpnab

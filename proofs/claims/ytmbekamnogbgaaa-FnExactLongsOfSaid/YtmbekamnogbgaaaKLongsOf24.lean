/-
Texts in one: what LongsOf stands on, part 24. Conditions: those of each.
-/
import Derived.Test.YtmbekamnogbgaaaKLongsOf23
import Derived.Lib.SmallJoins

/-
How great a mesh is: what the law's own function returns. Conditions: none.
-/
namespace Go.Proofs.Ytmbekamnogbgaaa
open Go Fk Go.RowKit
set_option linter.unusedVariables false
set_option maxRecDepth 8000
theorem laws_szMeshR (pa ta : Option Addr) (pl pc tl tc : Nat) (cs : List C3) (ts : List (List Int)) (left : Int) (w : World) (hp : IsVs w pa pl pc cs) (ht : IsTs w ta tl tc ts) (h0 : 0 ≤ left) (h1 : left ≤ 1048576) :
    Calls Try.prog 15 #[.agg #[.slice pa pl pc, .slice ta tl tc], .int .i64 left] w fun e w' => (∃ r : Int, e = .returned (.int .i64 r) ∧ (r = -1 ∨ (0 ≤ r ∧ r ≤ 1048576 ∧ pl ≤ 1048576 ∧ tl ≤ 1048576 ∧ ∀ k, k < tl → (ts.getD k []).length ≤ 1048576))) ∧ Below w.heap.size w w' := by
  have hpm : pl ≤ 9223372036854775807 := by have h1 := hp.2.1; have h2 := hp.2.2.1; unfold maxLen at h2; omega
  have u := Try.underlying25
  go_enter Try.func15, Try.ntmps15
  go_wp2_with (go_at_call 25; refine (laws_szVectorS _ _ _ _ _ h0 h1 hpm).mono ?_; rintro e w1 ⟨⟨r, rfl, hr⟩, hw1⟩; rw [hw1]; clear hw1 w1; rcases hr with rfl | ⟨hr2, hr3, hn3⟩)
  · go_ret
    exact ⟨⟨-1, rfl, .inl rfl⟩, (Below.refl _ _).alloc (Nat.le_refl _) _⟩
  · have hb : Below w.heap.size w (w.alloc (.cells #[.slice pa pl pc, .slice ta tl tc] 25)) := (Below.refl _ _).alloc (Nat.le_refl _) _
    have ht' := ht.below hb
    go_wp2_with (go_at_call 70; refine (laws_szInt64SS _ _ _ _ _ _ ht' hr2 hr3).mono ?_; rintro e w1 ⟨⟨r', rfl, hr'⟩, hw1⟩; rw [hw1]; clear hw1 w1; rcases hr' with rfl | ⟨hr4, hr5, hn5, hn6⟩)
    · go_ret
      exact ⟨⟨-1, rfl, .inl rfl⟩, hb⟩
    · have HN := Lib.hid hn6
      clear hn6
      go_wp2
      go_ret
      exact ⟨⟨_, rfl, .inr ⟨hr4, hr5, hn3, hn5, HN.out⟩⟩, hb⟩

end Go.Proofs.Ytmbekamnogbgaaa


/-
A mesh that comes in as an argument. Conditions: none.
-/
namespace Go.Proofs.Ytmbekamnogbgaaa
namespace Fk
open Go Go.RowKit
set_option linter.unusedVariables false
section
open Go.ChangeShapes Go.WideShapes Go.Deep
variable {H : Type} {enc : TypeId × Value → H} {P : Program} {w : World} {base : Nat} {held : Bool}
/-- A mesh that came in. -/
theorem open_mesh {r : Reach} {b0 : Nat} {t : TypeId} {g0 g1 : Field} {ev eq : TypeId} {f0 f1 f2 : Field} {er : TypeId} {v : Value} {d : DataW H} {p : List MemPlace} (hs : P.underlying t = some (.struct #[g0, g1])) (hone : oneCellFields P #[g0, g1] = true) (hC : P.cellsOf t = 2)
    (hp : P.underlying g0.type = some (.slice ev)) (hev : P.underlying ev = some (.struct #[f0, f1, f2])) (honev : oneCellFields P #[f0, f1, f2] = true) (hCv : P.cellsOf ev = 3)
    (he0 : P.underlying f0.type = some (.float .f32)) (he1 : P.underlying f1.type = some (.float .f32)) (he2 : P.underlying f2.type = some (.float .f32))
    (ht : P.underlying g1.type = some (.slice er)) (her : P.underlying er = some (.slice eq)) (heq : P.underlying eq = some (.int .i64)) (ce : P.cellsOf er = 1) (cq : P.cellsOf eq = 1)
    (hv : Value.okWide P w r b0 t v) (h : DataW.Trod enc P w base (fun _ => true) held t v d p) :
    ∃ pa ta pl pc tl tc cs ts, v = .agg #[.slice pa pl pc, .slice ta tl tc] ∧ IsVs w pa pl pc cs ∧ IsTs w ta tl tc ts := by
  obtain ⟨v0, v1, y0, y1, n, rfl, _, _, h0, h1⟩ := Joins.open_agg2 hs hone hC hv h
  obtain ⟨pa, pl, pc, cs, e0, w0⟩ := trod_vecs hp hev honev hCv he0 he1 he2 h0
  obtain ⟨ta, tl, tc, ts, e1, w1⟩ := trod_rows ht her heq ce cq h1
  cases e0; cases e1
  exact ⟨pa, ta, pl, pc, tl, tc, cs, ts, rfl, w0, w1⟩
end
end Fk
end Go.Proofs.Ytmbekamnogbgaaa


/-
Which lists are holds of a mesh: the model, and the law's walk. Conditions: none beyond that both lie in memory.
-/
namespace Go.Proofs.Ytmbekamnogbgaaa
open Go Fk Go.RowKit
set_option linter.unusedVariables false
set_option maxRecDepth 8000

theorem l02PlaceH (pb pl pc : Nat) (pa : Option Addr) (i : Int) (w : World) (c0 : w.cell? ⟨pb, 0, none⟩ = some (.slice pa pl pc)) (hm : pl ≤ 9223372036854775807) :
    Calls Try.prog 152 #[.pointer (some ⟨pb, 0, none⟩), .int .i64 i] w fun e w' => e = .returned (.bool (inB pl i)) ∧ w' = w := by
  have ui := Try.underlying29
  have htw : IntKind.i64.wrap ((pl : Int) - 1) = (pl : Int) - 1 := IntWalk.i64_in _ (by omega)
  go_enter Try.func152, Try.ntmps152
  go_wp2_with (go_at_call 106; refine (l00In _ _ _).mono ?_; rintro e w2 ⟨rfl, hw2⟩; rw [hw2])
  go_ret
  exact ⟨rfl, by first | rfl | trivial⟩
set_option maxHeartbeats 4000000 in
theorem l04Are (pb : Nat) (pa ta ha : Option Addr) (pl pc tl tc hl hc : Nat) (cs : List C3) (ts : List (List Int)) (hs : List HC) (w : World) (k0' : w.cell? ⟨pb, 0, none⟩ = some (.slice pa pl pc)) (k1' : w.cell? ⟨pb, 1, none⟩ = some (.slice ta tl tc)) (hp : IsVs w pa pl pc cs) (ht : IsTs w ta tl tc ts) (hh : IsHs w ha hl hc hs) :
    Calls Try.prog 89 #[.pointer (some ⟨pb, 0, none⟩), .slice ha hl hc] w fun e w' => e = .returned (.bool (areB cs ts hs)) ∧ Below w.heap.size w w' := by
  have ui := Try.underlying29
  have uh := Try.underlying117
  have u := Try.underlying2
  have hpl := hp.1
  have hll := hh.1
  have hm : hl ≤ 9223372036854775807 := by have h1 := hh.2.1; have h2 := hh.2.2.1; unfold maxLen at h2; omega
  have hpm : pl ≤ 9223372036854775807 := by have h1 := hp.2.1; have h2 := hp.2.2.1; unfold maxLen at h2; omega
  have JV := l02IsB pb pa ta pl pc tl tc cs ts w k0' k1' hp ht
  have HH := Lib.hid hh
  have K0 := Lib.hid k0'
  unfold areB
  rw [hpl]
  clear hp ht hh k0' k1'
  cases hv : validB cs ts
  · rw [hv] at JV
    have JV := Lib.hid JV
    clear hv hpl
    go_enter Try.func89, Try.ntmps89
    go_wp2_with fail
    refine JV.out.mono ?_
    rintro e w1 ⟨rfl, hB1⟩
    have B1 := Lib.hid hB1
    clear hB1
    go_wp2
    go_ret
    exact ⟨rfl, B1.out⟩
  · rw [hv] at JV
    have JV := Lib.hid JV
    clear hv
    go_enter Try.func89, Try.ntmps89
    go_wp2_with fail
    refine JV.out.mono ?_
    rintro e w1 ⟨rfl, hB1⟩
    have B1 := Lib.hid hB1
    clear hB1
    go_wp2
    go_loopw [5] (fun i w' => ∃ k : Nat, k ≤ hl ∧ i = .int .i64 k ∧ Aside (Below w.heap.size w w' ∧ ∀ j, j < k → stepB pl hs j = true)) (fun i _ => hl - (intOf i).toNat)
    case atStart => exact ⟨0, Nat.zero_le _, rfl, B1.out, fun j hj => absurd hj (by omega)⟩
    case round =>
      obtain ⟨k, hk, rfl, hA⟩ := hrel
      have HB := Lib.hid hA.out.1
      have OK := Lib.hid hA.out.2
      clear hA
      by_cases hlt : k < hl
      · obtain ⟨b, o, hha, hcell⟩ := (HH.out.below HB.out).some (by omega)
        obtain ⟨h, hq, hi⟩ := hcell k hlt
        have hk0 : (0 : Int) ≤ (k : Int) := by omega
        have hk1 : (k : Int) < (hl : Int) := by omega
        have hlk : k < hs.length := by omega
        have hstep : stepB pl hs k = (holdB (hs.getD k hd0) && (inB pl (hs.getD k hd0).1 && (decide (k = 0) || decide ((hs.getD (k - 1) hd0).1 < (hs.getD k hd0).1)))) := rfl
        have hpz : h.p = (hs.getD k hd0).1 := hi.1
        have QH := Lib.hid hq
        have JI := Lib.hid (fun w (a : h.At w b (o + k * 8)) => l04Is b (o + k * 8) h (hs.getD k hd0) w a hi)
        have JX := Lib.hid (fun w' (hb : Below wr.heap.size wr w') => l02PlaceH pb pl pc pa h.p w' (cell_below hb (cell_below HB.out K0.out)) hpm)
        have HCELL := Lib.hid hcell
        rw [hha]
        rw [← hpz] at hstep
        have HHA := Lib.hid hha
        clear hcell hq hi hha
        cases hb : holdB (hs.getD k hd0)
        · rw [hb] at JI hstep
          have HR : Hid (goodB pl hs = false) := Lib.hid (good_not hlk (by rw [hstep]; rfl))
          clear hb hstep hpz hpl hll hlk
          go_wp2_with fail
          refine RegG.wp_region_mix (C := fun w' => Below wr.heap.size wr w') (G := fun _ _ => True) (R := fun i v w' => match i with | 0 => v = .slice (some ⟨b, o, none⟩) hl hc | 1 => v = .int .i64 k | 2 => v = .pointer (some ⟨b, o + k * 8, none⟩) | 3 => v = .bool false | 4 => v = .bool true | 5 => v = .bool true | 6 => v = undef | 7 => v = undef | 8 => v = undef | 9 => v = undef | 10 => v = undef | 11 => v = undef | 12 => v = undef | 13 => v = undef | 14 => v = .bool true | 15 => v = .bool true | 16 => v = undef | 17 => v = undef | 18 => v = undef | 19 => v = undef | 20 => v = undef | 21 => v = undef | 22 => v = undef | 23 => v = undef | 24 => v = undef | 25 => v = undef | 26 => v = undef | 27 => v = undef | 28 => v = undef | 29 => v = undef | 30 => v = undef | 31 => v = undef | 32 => v = .bool true | _ => True) (T := fun _ _ _ => True) [false, false, false, false, false, false, false, false, false, false, false, false, false, false, false, true, true, true, true, true, true, true, true, true, true, true, true, true, true, true, true, true, true, true, true, true, true, true, true, true, true, true, true, true, true, true, true, true]
            (by kernel_rfl) (by kernel_rfl) (by kernel_rfl) (fun _ _ _ _ _ _ h => h) (fun _ => trivial) (below_drewN (Below.refl _ _) 1) ?_ ?_
          · refine ⟨RegG.Obl.mk rfl ?_, RegG.Obl.mk rfl ?_, RegG.Obl.mk rfl ?_, RegG.Obl.mk rfl ?_, RegG.Obl.mk rfl ?_, RegG.Obl.mk rfl ?_, RegG.Obl.skip 5 20 false true rfl rfl (by kernel_rfl) (by decide) (fun a w h => h 20 rfl) (fun _ => rfl) (by simp), RegG.Obl.skip 5 20 false true rfl rfl (by kernel_rfl) (by decide) (fun a w h => h 20 rfl) (fun _ => rfl) (by simp), RegG.Obl.skip 5 20 false true rfl rfl (by kernel_rfl) (by decide) (fun a w h => h 20 rfl) (fun _ => rfl) (by simp), RegG.Obl.skip 5 20 false true rfl rfl (by kernel_rfl) (by decide) (fun a w h => h 20 rfl) (fun _ => rfl) (by simp), RegG.Obl.skip 5 20 false true rfl rfl (by kernel_rfl) (by decide) (fun a w h => h 20 rfl) (fun _ => rfl) (by simp), RegG.Obl.skip 5 20 false true rfl rfl (by kernel_rfl) (by decide) (fun a w h => h 20 rfl) (fun _ => rfl) (by simp), RegG.Obl.skip 5 20 false true rfl rfl (by kernel_rfl) (by decide) (fun a w h => h 20 rfl) (fun _ => rfl) (by simp), RegG.Obl.skip 5 20 false true rfl rfl (by kernel_rfl) (by decide) (fun a w h => h 20 rfl) (fun _ => rfl) (by simp), RegG.Obl.mk rfl ?_, RegG.Obl.mk rfl ?_, RegG.Obl.skip 15 30 false true rfl rfl (by kernel_rfl) (by decide) (fun a w h => h 30 rfl) (fun _ => rfl) (by simp), RegG.Obl.skip 15 30 false true rfl rfl (by kernel_rfl) (by decide) (fun a w h => h 30 rfl) (fun _ => rfl) (by simp), RegG.Obl.skip 15 30 false true rfl rfl (by kernel_rfl) (by decide) (fun a w h => h 30 rfl) (fun _ => rfl) (by simp), RegG.Obl.skipU 18 33 true rfl rfl (by kernel_rfl) (fun a w h => h 33 rfl) (fun _ => rfl) (by simp), RegG.Obl.skipU 18 33 true rfl rfl (by kernel_rfl) (fun a w h => h 33 rfl) (fun _ => rfl) (by simp), RegG.Obl.skipU 18 33 true rfl rfl (by kernel_rfl) (fun a w h => h 33 rfl) (fun _ => rfl) (by simp), RegG.Obl.skipU 18 33 true rfl rfl (by kernel_rfl) (fun a w h => h 33 rfl) (fun _ => rfl) (by simp), RegG.Obl.skipU 18 33 true rfl rfl (by kernel_rfl) (fun a w h => h 33 rfl) (fun _ => rfl) (by simp), RegG.Obl.skipU 18 33 true rfl rfl (by kernel_rfl) (fun a w h => h 33 rfl) (fun _ => rfl) (by simp), RegG.Obl.skipU 18 33 true rfl rfl (by kernel_rfl) (fun a w h => h 33 rfl) (fun _ => rfl) (by simp), RegG.Obl.skipU 18 33 true rfl rfl (by kernel_rfl) (fun a w h => h 33 rfl) (fun _ => rfl) (by simp), RegG.Obl.skipU 18 33 true rfl rfl (by kernel_rfl) (fun a w h => h 33 rfl) (fun _ => rfl) (by simp), RegG.Obl.skipU 18 33 true rfl rfl (by kernel_rfl) (fun a w h => h 33 rfl) (fun _ => rfl) (by simp), RegG.Obl.skipU 18 33 true rfl rfl (by kernel_rfl) (fun a w h => h 33 rfl) (fun _ => rfl) (by simp), RegG.Obl.skipU 18 33 true rfl rfl (by kernel_rfl) (fun a w h => h 33 rfl) (fun _ => rfl) (by simp), RegG.Obl.skip 15 30 false true rfl rfl (by kernel_rfl) (by decide) (fun a w h => h 30 rfl) (fun _ => rfl) (by simp), RegG.Obl.mk rfl ?_, trivial⟩
            · rintro a w1 hC hx hd K hK
              have HC := Lib.hid hC
              clear hC
              have t1 : a.tmps[1]?.getD undef = .slice (some ⟨b, o, none⟩) hl hc := Reg.slot_val (hx 1 (by kernel_rfl))
              go_simp
              exact hK _ _ (fun _ => rfl) (fun h => by cases h) HC.out trivial
            · rintro a w1 hC hx hd K hK
              have HC := Lib.hid hC
              clear hC
              have t5 : a.tmps[5]?.getD undef = .int .i64 k := Reg.slot_val (hx 5 (by kernel_rfl))
              go_simp
              exact hK _ _ (fun _ => rfl) (fun h => by cases h) HC.out trivial
            · rintro a w1 hC hx hd K hK
              have HC := Lib.hid hC
              clear hC
              have t15 : a.tmps[15]?.getD undef = .slice (some ⟨b, o, none⟩) hl hc := Reg.slot_val (hd 0 (by kernel_rfl) 15 rfl)
              have t16 : a.tmps[16]?.getD undef = .int .i64 k := Reg.slot_val (hd 1 (by kernel_rfl) 16 rfl)
              go_simp
              exact hK _ _ (fun _ => rfl) (fun h => by cases h) HC.out trivial
            · rintro a w1 hC hx hd K hK
              have HC := Lib.hid hC
              clear hC
              have t17 : a.tmps[17]?.getD undef = .pointer (some ⟨b, o + k * 8, none⟩) := Reg.slot_val (hd 2 (by kernel_rfl) 17 rfl)
              go_simp
              refine (JI.out _ (QH.out.below HC.out)).mono ?_
              rintro en w2 ⟨rfl, hB2⟩
              exact hK _ _ (fun _ => rfl) (fun h => by cases h) (HC.out.trans (hB2.mono HC.out.size)) trivial
            · rintro a w1 hC hx hd K hK
              have HC := Lib.hid hC
              clear hC
              have t18 : a.tmps[18]?.getD undef = .bool false := Reg.slot_val (hd 3 (by kernel_rfl) 18 rfl)
              go_simp
              exact hK _ _ (fun _ => rfl) (fun h => by cases h) HC.out trivial
            · rintro a w1 hC hx hd K hK
              have HC := Lib.hid hC
              clear hC
              have t19 : a.tmps[19]?.getD undef = .bool true := Reg.slot_val (hd 4 (by kernel_rfl) 19 rfl)
              go_simp
              exact hK _ _ (fun _ => rfl) (fun h => by cases h) HC.out trivial
            · rintro a w1 hC hx hd K hK
              have HC := Lib.hid hC
              clear hC
              have t20 : a.tmps[20]?.getD undef = .bool true := Reg.slot_val (hd 5 (by kernel_rfl) 20 rfl)
              have t28 : a.tmps[28]?.getD undef = undef := Reg.slot_val (hd 13 (by kernel_rfl) 28 rfl)
              go_simp
              exact hK _ _ (fun _ => rfl) (fun h => by cases h) HC.out trivial
            · rintro a w1 hC hx hd K hK
              have HC := Lib.hid hC
              clear hC
              have t29 : a.tmps[29]?.getD undef = .bool true := Reg.slot_val (hd 14 (by kernel_rfl) 29 rfl)
              go_simp
              exact hK _ _ (fun _ => rfl) (fun h => by cases h) HC.out trivial
            · rintro a w1 hC hx hd K hK
              have HC := Lib.hid hC
              clear hC
              have t30 : a.tmps[30]?.getD undef = .bool true := Reg.slot_val (hd 15 (by kernel_rfl) 30 rfl)
              have t46 : a.tmps[46]?.getD undef = undef := Reg.slot_val (hd 31 (by kernel_rfl) 46 rfl)
              go_simp
              exact hK _ _ (fun _ => rfl) (fun h => by cases h) HC.out trivial
          rintro f w1 hC hd hT
          have g47 : f 47 = .bool true := hd 32 47 rfl
          simp only [Reg.mixL, g47]
          have HC := Lib.hid (HB.out.trans (hC.mono HB.out.size))
          clear hC hd hT
          go_wp2
          go_ret
          exact ⟨ret_bool (by rw [HR.out]; rfl), HC.out⟩
        · rw [hb] at JI hstep
          clear hb
          cases hb2 : inB pl h.p
          · rw [hb2] at JX hstep
            have HR : Hid (goodB pl hs = false) := Lib.hid (good_not hlk (by rw [hstep]; rfl))
            clear hb2 hstep hpz hpl hll hlk
            go_wp2_with fail
            refine RegG.wp_region_mix (C := fun w' => Below wr.heap.size wr w') (G := fun _ _ => True) (R := fun i v w' => match i with | 0 => v = .slice (some ⟨b, o, none⟩) hl hc | 1 => v = .int .i64 k | 2 => v = .pointer (some ⟨b, o + k * 8, none⟩) | 3 => v = .bool true | 4 => v = .bool false | 5 => v = .bool false | 6 => v = .pointer (some ⟨pb, 0, none⟩) | 7 => v = .slice (some ⟨b, o, none⟩) hl hc | 8 => v = .int .i64 k | 9 => v = .pointer (some ⟨b, o + k * 8, none⟩) | 10 => v = .pointer (some ⟨b, o + k * 8, none⟩) | 11 => v = .int .i64 h.p | 12 => v = .bool false | 13 => v = .bool true | 14 => v = .bool true | 15 => v = .bool true | 16 => v = undef | 17 => v = undef | 18 => v = undef | 19 => v = undef | 20 => v = undef | 21 => v = undef | 22 => v = undef | 23 => v = undef | 24 => v = undef | 25 => v = undef | 26 => v = undef | 27 => v = undef | 28 => v = undef | 29 => v = undef | 30 => v = undef | 31 => v = undef | 32 => v = .bool true | _ => True) (T := fun _ _ _ => True) [false, false, false, false, false, false, false, false, false, false, false, false, false, false, false, true, true, true, true, true, true, true, true, true, true, true, true, true, true, true, true, true, true, true, true, true, true, true, true, true, true, true, true, true, true, true, true, true]
              (by kernel_rfl) (by kernel_rfl) (by kernel_rfl) (fun _ _ _ _ _ _ h => h) (fun _ => trivial) (below_drewN (Below.refl _ _) 1) ?_ ?_
            · refine ⟨RegG.Obl.mk rfl ?_, RegG.Obl.mk rfl ?_, RegG.Obl.mk rfl ?_, RegG.Obl.mk rfl ?_, RegG.Obl.mk rfl ?_, RegG.Obl.mk rfl ?_, RegG.Obl.go 5 20 false rfl rfl (by kernel_rfl) (fun a w h => h 20 rfl) ?_, RegG.Obl.go 5 20 false rfl rfl (by kernel_rfl) (fun a w h => h 20 rfl) ?_, RegG.Obl.go 5 20 false rfl rfl (by kernel_rfl) (fun a w h => h 20 rfl) ?_, RegG.Obl.go 5 20 false rfl rfl (by kernel_rfl) (fun a w h => h 20 rfl) ?_, RegG.Obl.go 5 20 false rfl rfl (by kernel_rfl) (fun a w h => h 20 rfl) ?_, RegG.Obl.go 5 20 false rfl rfl (by kernel_rfl) (fun a w h => h 20 rfl) ?_, RegG.Obl.go 5 20 false rfl rfl (by kernel_rfl) (fun a w h => h 20 rfl) ?_, RegG.Obl.go 5 20 false rfl rfl (by kernel_rfl) (fun a w h => h 20 rfl) ?_, RegG.Obl.mk rfl ?_, RegG.Obl.mk rfl ?_, RegG.Obl.skip 15 30 false true rfl rfl (by kernel_rfl) (by decide) (fun a w h => h 30 rfl) (fun _ => rfl) (by simp), RegG.Obl.skip 15 30 false true rfl rfl (by kernel_rfl) (by decide) (fun a w h => h 30 rfl) (fun _ => rfl) (by simp), RegG.Obl.skip 15 30 false true rfl rfl (by kernel_rfl) (by decide) (fun a w h => h 30 rfl) (fun _ => rfl) (by simp), RegG.Obl.skipU 18 33 true rfl rfl (by kernel_rfl) (fun a w h => h 33 rfl) (fun _ => rfl) (by simp), RegG.Obl.skipU 18 33 true rfl rfl (by kernel_rfl) (fun a w h => h 33 rfl) (fun _ => rfl) (by simp), RegG.Obl.skipU 18 33 true rfl rfl (by kernel_rfl) (fun a w h => h 33 rfl) (fun _ => rfl) (by simp), RegG.Obl.skipU 18 33 true rfl rfl (by kernel_rfl) (fun a w h => h 33 rfl) (fun _ => rfl) (by simp), RegG.Obl.skipU 18 33 true rfl rfl (by kernel_rfl) (fun a w h => h 33 rfl) (fun _ => rfl) (by simp), RegG.Obl.skipU 18 33 true rfl rfl (by kernel_rfl) (fun a w h => h 33 rfl) (fun _ => rfl) (by simp), RegG.Obl.skipU 18 33 true rfl rfl (by kernel_rfl) (fun a w h => h 33 rfl) (fun _ => rfl) (by simp), RegG.Obl.skipU 18 33 true rfl rfl (by kernel_rfl) (fun a w h => h 33 rfl) (fun _ => rfl) (by simp), RegG.Obl.skipU 18 33 true rfl rfl (by kernel_rfl) (fun a w h => h 33 rfl) (fun _ => rfl) (by simp), RegG.Obl.skipU 18 33 true rfl rfl (by kernel_rfl) (fun a w h => h 33 rfl) (fun _ => rfl) (by simp), RegG.Obl.skipU 18 33 true rfl rfl (by kernel_rfl) (fun a w h => h 33 rfl) (fun _ => rfl) (by simp), RegG.Obl.skipU 18 33 true rfl rfl (by kernel_rfl) (fun a w h => h 33 rfl) (fun _ => rfl) (by simp), RegG.Obl.skip 15 30 false true rfl rfl (by kernel_rfl) (by decide) (fun a w h => h 30 rfl) (fun _ => rfl) (by simp), RegG.Obl.mk rfl ?_, trivial⟩
              · rintro a w1 hC hx hd K hK
                have HC := Lib.hid hC
                clear hC
                have t1 : a.tmps[1]?.getD undef = .slice (some ⟨b, o, none⟩) hl hc := Reg.slot_val (hx 1 (by kernel_rfl))
                go_simp
                exact hK _ _ (fun _ => rfl) (fun h => by cases h) HC.out trivial
              · rintro a w1 hC hx hd K hK
                have HC := Lib.hid hC
                clear hC
                have t5 : a.tmps[5]?.getD undef = .int .i64 k := Reg.slot_val (hx 5 (by kernel_rfl))
                go_simp
                exact hK _ _ (fun _ => rfl) (fun h => by cases h) HC.out trivial
              · rintro a w1 hC hx hd K hK
                have HC := Lib.hid hC
                clear hC
                have t15 : a.tmps[15]?.getD undef = .slice (some ⟨b, o, none⟩) hl hc := Reg.slot_val (hd 0 (by kernel_rfl) 15 rfl)
                have t16 : a.tmps[16]?.getD undef = .int .i64 k := Reg.slot_val (hd 1 (by kernel_rfl) 16 rfl)
                go_simp
                exact hK _ _ (fun _ => rfl) (fun h => by cases h) HC.out trivial
              · rintro a w1 hC hx hd K hK
                have HC := Lib.hid hC
                clear hC
                have t17 : a.tmps[17]?.getD undef = .pointer (some ⟨b, o + k * 8, none⟩) := Reg.slot_val (hd 2 (by kernel_rfl) 17 rfl)
                go_simp
                refine (JI.out _ (QH.out.below HC.out)).mono ?_
                rintro en w2 ⟨rfl, hB2⟩
                exact hK _ _ (fun _ => rfl) (fun h => by cases h) (HC.out.trans (hB2.mono HC.out.size)) trivial
              · rintro a w1 hC hx hd K hK
                have HC := Lib.hid hC
                clear hC
                have t18 : a.tmps[18]?.getD undef = .bool true := Reg.slot_val (hd 3 (by kernel_rfl) 18 rfl)
                go_simp
                exact hK _ _ (fun _ => rfl) (fun h => by cases h) HC.out trivial
              · rintro a w1 hC hx hd K hK
                have HC := Lib.hid hC
                clear hC
                have t19 : a.tmps[19]?.getD undef = .bool false := Reg.slot_val (hd 4 (by kernel_rfl) 19 rfl)
                go_simp
                exact hK _ _ (fun _ => rfl) (fun h => by cases h) HC.out trivial
              · rintro a w1 hC hx hd K hK
                have HC := Lib.hid hC
                clear hC
                have t0 : a.tmps[0]?.getD undef = .pointer (some ⟨pb, 0, none⟩) := Reg.slot_val (hx 0 (by kernel_rfl))
                go_simp
                exact hK _ _ (fun _ => rfl) (fun h => by cases h) HC.out trivial
              · rintro a w1 hC hx hd K hK
                have HC := Lib.hid hC
                clear hC
                have t1 : a.tmps[1]?.getD undef = .slice (some ⟨b, o, none⟩) hl hc := Reg.slot_val (hx 1 (by kernel_rfl))
                go_simp
                exact hK _ _ (fun _ => rfl) (fun h => by cases h) HC.out trivial
              · rintro a w1 hC hx hd K hK
                have HC := Lib.hid hC
                clear hC
                have t5 : a.tmps[5]?.getD undef = .int .i64 k := Reg.slot_val (hx 5 (by kernel_rfl))
                go_simp
                exact hK _ _ (fun _ => rfl) (fun h => by cases h) HC.out trivial
              · rintro a w1 hC hx hd K hK
                have HC := Lib.hid hC
                clear hC
                have t22 : a.tmps[22]?.getD undef = .slice (some ⟨b, o, none⟩) hl hc := Reg.slot_val (hd 7 (by kernel_rfl) 22 rfl)
                have t23 : a.tmps[23]?.getD undef = .int .i64 k := Reg.slot_val (hd 8 (by kernel_rfl) 23 rfl)
                go_simp
                exact hK _ _ (fun _ => rfl) (fun h => by cases h) HC.out trivial
              · rintro a w1 hC hx hd K hK
                have HC := Lib.hid hC
                clear hC
                have t24 : a.tmps[24]?.getD undef = .pointer (some ⟨b, o + k * 8, none⟩) := Reg.slot_val (hd 9 (by kernel_rfl) 24 rfl)
                go_simp
                exact hK _ _ (fun _ => rfl) (fun h => by cases h) HC.out trivial
              · rintro a w1 hC hx hd K hK
                have HC := Lib.hid hC
                clear hC
                have c0 := (QH.out.below HC.out).c0
                have t25 : a.tmps[25]?.getD undef = .pointer (some ⟨b, o + k * 8, none⟩) := Reg.slot_val (hd 10 (by kernel_rfl) 25 rfl)
                go_simp
                exact hK _ _ (fun _ => rfl) (fun h => by cases h) HC.out trivial
              · rintro a w1 hC hx hd K hK
                have HC := Lib.hid hC
                clear hC
                have t21 : a.tmps[21]?.getD undef = .pointer (some ⟨pb, 0, none⟩) := Reg.slot_val (hd 6 (by kernel_rfl) 21 rfl)
                have t26 : a.tmps[26]?.getD undef = .int .i64 h.p := Reg.slot_val (hd 11 (by kernel_rfl) 26 rfl)
                go_simp
                refine (JX.out _ HC.out).mono ?_
                rintro en w2 ⟨rfl, hw2⟩
                rw [hw2]
                exact hK _ _ (fun _ => rfl) (fun h => by cases h) HC.out trivial
              · rintro a w1 hC hx hd K hK
                have HC := Lib.hid hC
                clear hC
                have t27 : a.tmps[27]?.getD undef = .bool false := Reg.slot_val (hd 12 (by kernel_rfl) 27 rfl)
                go_simp
                exact hK _ _ (fun _ => rfl) (fun h => by cases h) HC.out trivial
              · rintro a w1 hC hx hd K hK
                have HC := Lib.hid hC
                clear hC
                have t20 : a.tmps[20]?.getD undef = .bool false := Reg.slot_val (hd 5 (by kernel_rfl) 20 rfl)
                have t28 : a.tmps[28]?.getD undef = .bool true := Reg.slot_val (hd 13 (by kernel_rfl) 28 rfl)
                go_simp
                exact hK _ _ (fun _ => rfl) (fun h => by cases h) HC.out trivial
              · rintro a w1 hC hx hd K hK
                have HC := Lib.hid hC
                clear hC
                have t29 : a.tmps[29]?.getD undef = .bool true := Reg.slot_val (hd 14 (by kernel_rfl) 29 rfl)
                go_simp
                exact hK _ _ (fun _ => rfl) (fun h => by cases h) HC.out trivial
              · rintro a w1 hC hx hd K hK
                have HC := Lib.hid hC
                clear hC
                have t30 : a.tmps[30]?.getD undef = .bool true := Reg.slot_val (hd 15 (by kernel_rfl) 30 rfl)
                have t46 : a.tmps[46]?.getD undef = undef := Reg.slot_val (hd 31 (by kernel_rfl) 46 rfl)
                go_simp
                exact hK _ _ (fun _ => rfl) (fun h => by cases h) HC.out trivial
            rintro f w1 hC hd hT
            have g47 : f 47 = .bool true := hd 32 47 rfl
            simp only [Reg.mixL, g47]
            have HC := Lib.hid (HB.out.trans (hC.mono HB.out.size))
            clear hC hd hT
            go_wp2
            go_ret
            exact ⟨ret_bool (by rw [HR.out]; rfl), HC.out⟩
          · rw [hb2] at JX hstep
            clear hb2
            by_cases h0 : k = 0
            · have HOK : Hid (∀ j, j < k + 1 → stepB pl hs j = true) := Lib.hid (by
                intro j hj
                obtain rfl : j = k := by omega
                rw [hstep, decide_eq_true h0]; rfl)
              have hg : ¬ (0 : Int) < (k : Int) := by omega
              clear hstep hpz hpl hll hlk h0
              go_wp2_with fail
              refine RegG.wp_region_mix (C := fun w' => Below wr.heap.size wr w') (G := fun _ _ => True) (R := fun i v w' => match i with | 0 => v = .slice (some ⟨b, o, none⟩) hl hc | 1 => v = .int .i64 k | 2 => v = .pointer (some ⟨b, o + k * 8, none⟩) | 3 => v = .bool true | 4 => v = .bool false | 5 => v = .bool false | 6 => v = .pointer (some ⟨pb, 0, none⟩) | 7 => v = .slice (some ⟨b, o, none⟩) hl hc | 8 => v = .int .i64 k | 9 => v = .pointer (some ⟨b, o + k * 8, none⟩) | 10 => v = .pointer (some ⟨b, o + k * 8, none⟩) | 11 => v = .int .i64 h.p | 12 => v = .bool true | 13 => v = .bool false | 14 => v = .bool false | 15 => v = .bool false | 16 => v = .int .i64 k | 17 => v = .bool false | 18 => v = .bool false | 19 => v = undef | 20 => v = undef | 21 => v = undef | 22 => v = undef | 23 => v = undef | 24 => v = undef | 25 => v = undef | 26 => v = undef | 27 => v = undef | 28 => v = undef | 29 => v = undef | 30 => v = undef | 31 => v = .bool false | 32 => v = .bool false | _ => True) (T := fun _ _ _ => True) [false, false, false, false, false, false, false, false, false, false, false, false, false, false, false, true, true, true, true, true, true, true, true, true, true, true, true, true, true, true, true, true, true, true, true, true, true, true, true, true, true, true, true, true, true, true, true, true]
                (by kernel_rfl) (by kernel_rfl) (by kernel_rfl) (fun _ _ _ _ _ _ h => h) (fun _ => trivial) (below_drewN (Below.refl _ _) 1) ?_ ?_
              · refine ⟨RegG.Obl.mk rfl ?_, RegG.Obl.mk rfl ?_, RegG.Obl.mk rfl ?_, RegG.Obl.mk rfl ?_, RegG.Obl.mk rfl ?_, RegG.Obl.mk rfl ?_, RegG.Obl.go 5 20 false rfl rfl (by kernel_rfl) (fun a w h => h 20 rfl) ?_, RegG.Obl.go 5 20 false rfl rfl (by kernel_rfl) (fun a w h => h 20 rfl) ?_, RegG.Obl.go 5 20 false rfl rfl (by kernel_rfl) (fun a w h => h 20 rfl) ?_, RegG.Obl.go 5 20 false rfl rfl (by kernel_rfl) (fun a w h => h 20 rfl) ?_, RegG.Obl.go 5 20 false rfl rfl (by kernel_rfl) (fun a w h => h 20 rfl) ?_, RegG.Obl.go 5 20 false rfl rfl (by kernel_rfl) (fun a w h => h 20 rfl) ?_, RegG.Obl.go 5 20 false rfl rfl (by kernel_rfl) (fun a w h => h 20 rfl) ?_, RegG.Obl.go 5 20 false rfl rfl (by kernel_rfl) (fun a w h => h 20 rfl) ?_, RegG.Obl.mk rfl ?_, RegG.Obl.mk rfl ?_, RegG.Obl.go 15 30 false rfl rfl (by kernel_rfl) (fun a w h => h 30 rfl) ?_, RegG.Obl.go 15 30 false rfl rfl (by kernel_rfl) (fun a w h => h 30 rfl) ?_, RegG.Obl.go 15 30 false rfl rfl (by kernel_rfl) (fun a w h => h 30 rfl) ?_, RegG.Obl.skip 18 33 true false rfl rfl (by kernel_rfl) (by decide) (fun a w h => h 33 rfl) (fun _ => rfl) (by simp), RegG.Obl.skip 18 33 true false rfl rfl (by kernel_rfl) (by decide) (fun a w h => h 33 rfl) (fun _ => rfl) (by simp), RegG.Obl.skip 18 33 true false rfl rfl (by kernel_rfl) (by decide) (fun a w h => h 33 rfl) (fun _ => rfl) (by simp), RegG.Obl.skip 18 33 true false rfl rfl (by kernel_rfl) (by decide) (fun a w h => h 33 rfl) (fun _ => rfl) (by simp), RegG.Obl.skip 18 33 true false rfl rfl (by kernel_rfl) (by decide) (fun a w h => h 33 rfl) (fun _ => rfl) (by simp), RegG.Obl.skip 18 33 true false rfl rfl (by kernel_rfl) (by decide) (fun a w h => h 33 rfl) (fun _ => rfl) (by simp), RegG.Obl.skip 18 33 true false rfl rfl (by kernel_rfl) (by decide) (fun a w h => h 33 rfl) (fun _ => rfl) (by simp), RegG.Obl.skip 18 33 true false rfl rfl (by kernel_rfl) (by decide) (fun a w h => h 33 rfl) (fun _ => rfl) (by simp), RegG.Obl.skip 18 33 true false rfl rfl (by kernel_rfl) (by decide) (fun a w h => h 33 rfl) (fun _ => rfl) (by simp), RegG.Obl.skip 18 33 true false rfl rfl (by kernel_rfl) (by decide) (fun a w h => h 33 rfl) (fun _ => rfl) (by simp), RegG.Obl.skip 18 33 true false rfl rfl (by kernel_rfl) (by decide) (fun a w h => h 33 rfl) (fun _ => rfl) (by simp), RegG.Obl.skip 18 33 true false rfl rfl (by kernel_rfl) (by decide) (fun a w h => h 33 rfl) (fun _ => rfl) (by simp), RegG.Obl.go 15 30 false rfl rfl (by kernel_rfl) (fun a w h => h 30 rfl) ?_, RegG.Obl.mk rfl ?_, trivial⟩
                · rintro a w1 hC hx hd K hK
                  have HC := Lib.hid hC
                  clear hC
                  have t1 : a.tmps[1]?.getD undef = .slice (some ⟨b, o, none⟩) hl hc := Reg.slot_val (hx 1 (by kernel_rfl))
                  go_simp
                  exact hK _ _ (fun _ => rfl) (fun h => by cases h) HC.out trivial
                · rintro a w1 hC hx hd K hK
                  have HC := Lib.hid hC
                  clear hC
                  have t5 : a.tmps[5]?.getD undef = .int .i64 k := Reg.slot_val (hx 5 (by kernel_rfl))
                  go_simp
                  exact hK _ _ (fun _ => rfl) (fun h => by cases h) HC.out trivial
                · rintro a w1 hC hx hd K hK
                  have HC := Lib.hid hC
                  clear hC
                  have t15 : a.tmps[15]?.getD undef = .slice (some ⟨b, o, none⟩) hl hc := Reg.slot_val (hd 0 (by kernel_rfl) 15 rfl)
                  have t16 : a.tmps[16]?.getD undef = .int .i64 k := Reg.slot_val (hd 1 (by kernel_rfl) 16 rfl)
                  go_simp
                  exact hK _ _ (fun _ => rfl) (fun h => by cases h) HC.out trivial
                · rintro a w1 hC hx hd K hK
                  have HC := Lib.hid hC
                  clear hC
                  have t17 : a.tmps[17]?.getD undef = .pointer (some ⟨b, o + k * 8, none⟩) := Reg.slot_val (hd 2 (by kernel_rfl) 17 rfl)
                  go_simp
                  refine (JI.out _ (QH.out.below HC.out)).mono ?_
                  rintro en w2 ⟨rfl, hB2⟩
                  exact hK _ _ (fun _ => rfl) (fun h => by cases h) (HC.out.trans (hB2.mono HC.out.size)) trivial
                · rintro a w1 hC hx hd K hK
                  have HC := Lib.hid hC
                  clear hC
                  have t18 : a.tmps[18]?.getD undef = .bool true := Reg.slot_val (hd 3 (by kernel_rfl) 18 rfl)
                  go_simp
                  exact hK _ _ (fun _ => rfl) (fun h => by cases h) HC.out trivial
                · rintro a w1 hC hx hd K hK
                  have HC := Lib.hid hC
                  clear hC
                  have t19 : a.tmps[19]?.getD undef = .bool false := Reg.slot_val (hd 4 (by kernel_rfl) 19 rfl)
                  go_simp
                  exact hK _ _ (fun _ => rfl) (fun h => by cases h) HC.out trivial
                · rintro a w1 hC hx hd K hK
                  have HC := Lib.hid hC
                  clear hC
                  have t0 : a.tmps[0]?.getD undef = .pointer (some ⟨pb, 0, none⟩) := Reg.slot_val (hx 0 (by kernel_rfl))
                  go_simp
                  exact hK _ _ (fun _ => rfl) (fun h => by cases h) HC.out trivial
                · rintro a w1 hC hx hd K hK
                  have HC := Lib.hid hC
                  clear hC
                  have t1 : a.tmps[1]?.getD undef = .slice (some ⟨b, o, none⟩) hl hc := Reg.slot_val (hx 1 (by kernel_rfl))
                  go_simp
                  exact hK _ _ (fun _ => rfl) (fun h => by cases h) HC.out trivial
                · rintro a w1 hC hx hd K hK
                  have HC := Lib.hid hC
                  clear hC
                  have t5 : a.tmps[5]?.getD undef = .int .i64 k := Reg.slot_val (hx 5 (by kernel_rfl))
                  go_simp
                  exact hK _ _ (fun _ => rfl) (fun h => by cases h) HC.out trivial
                · rintro a w1 hC hx hd K hK
                  have HC := Lib.hid hC
                  clear hC
                  have t22 : a.tmps[22]?.getD undef = .slice (some ⟨b, o, none⟩) hl hc := Reg.slot_val (hd 7 (by kernel_rfl) 22 rfl)
                  have t23 : a.tmps[23]?.getD undef = .int .i64 k := Reg.slot_val (hd 8 (by kernel_rfl) 23 rfl)
                  go_simp
                  exact hK _ _ (fun _ => rfl) (fun h => by cases h) HC.out trivial
                · rintro a w1 hC hx hd K hK
                  have HC := Lib.hid hC
                  clear hC
                  have t24 : a.tmps[24]?.getD undef = .pointer (some ⟨b, o + k * 8, none⟩) := Reg.slot_val (hd 9 (by kernel_rfl) 24 rfl)
                  go_simp
                  exact hK _ _ (fun _ => rfl) (fun h => by cases h) HC.out trivial
                · rintro a w1 hC hx hd K hK
                  have HC := Lib.hid hC
                  clear hC
                  have c0 := (QH.out.below HC.out).c0
                  have t25 : a.tmps[25]?.getD undef = .pointer (some ⟨b, o + k * 8, none⟩) := Reg.slot_val (hd 10 (by kernel_rfl) 25 rfl)
                  go_simp
                  exact hK _ _ (fun _ => rfl) (fun h => by cases h) HC.out trivial
                · rintro a w1 hC hx hd K hK
                  have HC := Lib.hid hC
                  clear hC
                  have t21 : a.tmps[21]?.getD undef = .pointer (some ⟨pb, 0, none⟩) := Reg.slot_val (hd 6 (by kernel_rfl) 21 rfl)
                  have t26 : a.tmps[26]?.getD undef = .int .i64 h.p := Reg.slot_val (hd 11 (by kernel_rfl) 26 rfl)
                  go_simp
                  refine (JX.out _ HC.out).mono ?_
                  rintro en w2 ⟨rfl, hw2⟩
                  rw [hw2]
                  exact hK _ _ (fun _ => rfl) (fun h => by cases h) HC.out trivial
                · rintro a w1 hC hx hd K hK
                  have HC := Lib.hid hC
                  clear hC
                  have t27 : a.tmps[27]?.getD undef = .bool true := Reg.slot_val (hd 12 (by kernel_rfl) 27 rfl)
                  go_simp
                  exact hK _ _ (fun _ => rfl) (fun h => by cases h) HC.out trivial
                · rintro a w1 hC hx hd K hK
                  have HC := Lib.hid hC
                  clear hC
                  have t20 : a.tmps[20]?.getD undef = .bool false := Reg.slot_val (hd 5 (by kernel_rfl) 20 rfl)
                  have t28 : a.tmps[28]?.getD undef = .bool false := Reg.slot_val (hd 13 (by kernel_rfl) 28 rfl)
                  go_simp
                  exact hK _ _ (fun _ => rfl) (fun h => by cases h) HC.out trivial
                · rintro a w1 hC hx hd K hK
                  have HC := Lib.hid hC
                  clear hC
                  have t29 : a.tmps[29]?.getD undef = .bool false := Reg.slot_val (hd 14 (by kernel_rfl) 29 rfl)
                  go_simp
                  exact hK _ _ (fun _ => rfl) (fun h => by cases h) HC.out trivial
                · rintro a w1 hC hx hd K hK
                  have HC := Lib.hid hC
                  clear hC
                  have t5 : a.tmps[5]?.getD undef = .int .i64 k := Reg.slot_val (hx 5 (by kernel_rfl))
                  go_simp
                  exact hK _ _ (fun _ => rfl) (fun h => by cases h) HC.out trivial
                · rintro a w1 hC hx hd K hK
                  have HC := Lib.hid hC
                  clear hC
                  have t31 : a.tmps[31]?.getD undef = .int .i64 k := Reg.slot_val (hd 16 (by kernel_rfl) 31 rfl)
                  go_simp
                  first | exact hK _ _ (fun _ => rfl) (fun h => by cases h) HC.out trivial | exact hK _ _ (fun _ => congrArg Value.bool (decide_eq_false (by omega))) (fun h => by cases h) HC.out trivial
                · rintro a w1 hC hx hd K hK
                  have HC := Lib.hid hC
                  clear hC
                  have t32 : a.tmps[32]?.getD undef = .bool false := Reg.slot_val (hd 17 (by kernel_rfl) 32 rfl)
                  go_simp
                  exact hK _ _ (fun _ => rfl) (fun h => by cases h) HC.out trivial
                · rintro a w1 hC hx hd K hK
                  have HC := Lib.hid hC
                  clear hC
                  have t33 : a.tmps[33]?.getD undef = .bool false := Reg.slot_val (hd 18 (by kernel_rfl) 33 rfl)
                  have t45 : a.tmps[45]?.getD undef = undef := Reg.slot_val (hd 30 (by kernel_rfl) 45 rfl)
                  go_simp
                  exact hK _ _ (fun _ => rfl) (fun h => by cases h) HC.out trivial
                · rintro a w1 hC hx hd K hK
                  have HC := Lib.hid hC
                  clear hC
                  have t30 : a.tmps[30]?.getD undef = .bool false := Reg.slot_val (hd 15 (by kernel_rfl) 30 rfl)
                  have t46 : a.tmps[46]?.getD undef = .bool false := Reg.slot_val (hd 31 (by kernel_rfl) 46 rfl)
                  go_simp
                  exact hK _ _ (fun _ => rfl) (fun h => by cases h) HC.out trivial
              rintro f w1 hC hd hT
              have g47 : f 47 = .bool false := hd 32 47 rfl
              simp only [Reg.mixL, g47]
              have HC := Lib.hid (HB.out.trans (hC.mono HB.out.size))
              clear hC hd hT
              go_wp2
              go_roundw
              case rel => exact ⟨k + 1, by omega, by go_num, HC.out, HOK.out⟩
              case measure => simp [intOf]; omega
            · obtain ⟨j, hj⟩ : ∃ j, k = j + 1 := ⟨k - 1, by omega⟩
              have hjk : k - 1 = j := by omega
              obtain ⟨q, hq2, hi2⟩ := HCELL.out j (by omega)
              have hqz : q.p = (hs.getD j hd0).1 := hi2.1
              have QJ := Lib.hid hq2
              have hg : (0 : Int) < (k : Int) := by omega
              have hwr : IntKind.i64.wrap ((k : Int) - 1) = (j : Int) := by rw [IntWalk.i64_in _ (by omega)]; omega
              have hj0 : (0 : Int) ≤ (j : Int) := by omega
              have hj1 : (j : Int) < (hl : Int) := by omega
              rw [decide_eq_false h0, hjk, ← hqz] at hstep
              by_cases hlt2 : q.p < h.p
              · have HOK : Hid (∀ j, j < k + 1 → stepB pl hs j = true) := Lib.hid (by
                  intro i hi
                  by_cases hik : i = k
                  · subst hik; rw [hstep, decide_eq_true hlt2]; rfl
                  · exact OK.out i (by omega))
                have hge : ¬ h.p ≤ q.p := by omega
                clear hstep hpz hpl hll hlk h0 hj hjk hqz hi2 hq2
                go_wp2_with fail
                refine RegG.wp_region_mix (C := fun w' => Below wr.heap.size wr w') (G := fun _ _ => True) (R := fun i v w' => match i with | 0 => v = .slice (some ⟨b, o, none⟩) hl hc | 1 => v = .int .i64 k | 2 => v = .pointer (some ⟨b, o + k * 8, none⟩) | 3 => v = .bool true | 4 => v = .bool false | 5 => v = .bool false | 6 => v = .pointer (some ⟨pb, 0, none⟩) | 7 => v = .slice (some ⟨b, o, none⟩) hl hc | 8 => v = .int .i64 k | 9 => v = .pointer (some ⟨b, o + k * 8, none⟩) | 10 => v = .pointer (some ⟨b, o + k * 8, none⟩) | 11 => v = .int .i64 h.p | 12 => v = .bool true | 13 => v = .bool false | 14 => v = .bool false | 15 => v = .bool false | 16 => v = .int .i64 k | 17 => v = .bool true | 18 => v = .bool true | 19 => v = .slice (some ⟨b, o, none⟩) hl hc | 20 => v = .int .i64 k | 21 => v = .int .i64 j | 22 => v = .pointer (some ⟨b, o + j * 8, none⟩) | 23 => v = .pointer (some ⟨b, o + j * 8, none⟩) | 24 => v = .int .i64 q.p | 25 => v = .slice (some ⟨b, o, none⟩) hl hc | 26 => v = .int .i64 k | 27 => v = .pointer (some ⟨b, o + k * 8, none⟩) | 28 => v = .pointer (some ⟨b, o + k * 8, none⟩) | 29 => v = .int .i64 h.p | 30 => v = .bool false | 31 => v = .bool false | 32 => v = .bool false | _ => True) (T := fun _ _ _ => True) [false, false, false, false, false, false, false, false, false, false, false, false, false, false, false, true, true, true, true, true, true, true, true, true, true, true, true, true, true, true, true, true, true, true, true, true, true, true, true, true, true, true, true, true, true, true, true, true]
                  (by kernel_rfl) (by kernel_rfl) (by kernel_rfl) (fun _ _ _ _ _ _ h => h) (fun _ => trivial) (below_drewN (Below.refl _ _) 1) ?_ ?_
                · refine ⟨RegG.Obl.mk rfl ?_, RegG.Obl.mk rfl ?_, RegG.Obl.mk rfl ?_, RegG.Obl.mk rfl ?_, RegG.Obl.mk rfl ?_, RegG.Obl.mk rfl ?_, RegG.Obl.go 5 20 false rfl rfl (by kernel_rfl) (fun a w h => h 20 rfl) ?_, RegG.Obl.go 5 20 false rfl rfl (by kernel_rfl) (fun a w h => h 20 rfl) ?_, RegG.Obl.go 5 20 false rfl rfl (by kernel_rfl) (fun a w h => h 20 rfl) ?_, RegG.Obl.go 5 20 false rfl rfl (by kernel_rfl) (fun a w h => h 20 rfl) ?_, RegG.Obl.go 5 20 false rfl rfl (by kernel_rfl) (fun a w h => h 20 rfl) ?_, RegG.Obl.go 5 20 false rfl rfl (by kernel_rfl) (fun a w h => h 20 rfl) ?_, RegG.Obl.go 5 20 false rfl rfl (by kernel_rfl) (fun a w h => h 20 rfl) ?_, RegG.Obl.go 5 20 false rfl rfl (by kernel_rfl) (fun a w h => h 20 rfl) ?_, RegG.Obl.mk rfl ?_, RegG.Obl.mk rfl ?_, RegG.Obl.go 15 30 false rfl rfl (by kernel_rfl) (fun a w h => h 30 rfl) ?_, RegG.Obl.go 15 30 false rfl rfl (by kernel_rfl) (fun a w h => h 30 rfl) ?_, RegG.Obl.go 15 30 false rfl rfl (by kernel_rfl) (fun a w h => h 30 rfl) ?_, RegG.Obl.go 18 33 true rfl rfl (by kernel_rfl) (fun a w h => h 33 rfl) ?_, RegG.Obl.go 18 33 true rfl rfl (by kernel_rfl) (fun a w h => h 33 rfl) ?_, RegG.Obl.go 18 33 true rfl rfl (by kernel_rfl) (fun a w h => h 33 rfl) ?_, RegG.Obl.go 18 33 true rfl rfl (by kernel_rfl) (fun a w h => h 33 rfl) ?_, RegG.Obl.go 18 33 true rfl rfl (by kernel_rfl) (fun a w h => h 33 rfl) ?_, RegG.Obl.go 18 33 true rfl rfl (by kernel_rfl) (fun a w h => h 33 rfl) ?_, RegG.Obl.go 18 33 true rfl rfl (by kernel_rfl) (fun a w h => h 33 rfl) ?_, RegG.Obl.go 18 33 true rfl rfl (by kernel_rfl) (fun a w h => h 33 rfl) ?_, RegG.Obl.go 18 33 true rfl rfl (by kernel_rfl) (fun a w h => h 33 rfl) ?_, RegG.Obl.go 18 33 true rfl rfl (by kernel_rfl) (fun a w h => h 33 rfl) ?_, RegG.Obl.go 18 33 true rfl rfl (by kernel_rfl) (fun a w h => h 33 rfl) ?_, RegG.Obl.go 18 33 true rfl rfl (by kernel_rfl) (fun a w h => h 33 rfl) ?_, RegG.Obl.go 15 30 false rfl rfl (by kernel_rfl) (fun a w h => h 30 rfl) ?_, RegG.Obl.mk rfl ?_, trivial⟩
                  · rintro a w1 hC hx hd K hK
                    have HC := Lib.hid hC
                    clear hC
                    have t1 : a.tmps[1]?.getD undef = .slice (some ⟨b, o, none⟩) hl hc := Reg.slot_val (hx 1 (by kernel_rfl))
                    go_simp
                    exact hK _ _ (fun _ => rfl) (fun h => by cases h) HC.out trivial
                  · rintro a w1 hC hx hd K hK
                    have HC := Lib.hid hC
                    clear hC
                    have t5 : a.tmps[5]?.getD undef = .int .i64 k := Reg.slot_val (hx 5 (by kernel_rfl))
                    go_simp
                    exact hK _ _ (fun _ => rfl) (fun h => by cases h) HC.out trivial
                  · rintro a w1 hC hx hd K hK
                    have HC := Lib.hid hC
                    clear hC
                    have t15 : a.tmps[15]?.getD undef = .slice (some ⟨b, o, none⟩) hl hc := Reg.slot_val (hd 0 (by kernel_rfl) 15 rfl)
                    have t16 : a.tmps[16]?.getD undef = .int .i64 k := Reg.slot_val (hd 1 (by kernel_rfl) 16 rfl)
                    go_simp
                    exact hK _ _ (fun _ => rfl) (fun h => by cases h) HC.out trivial
                  · rintro a w1 hC hx hd K hK
                    have HC := Lib.hid hC
                    clear hC
                    have t17 : a.tmps[17]?.getD undef = .pointer (some ⟨b, o + k * 8, none⟩) := Reg.slot_val (hd 2 (by kernel_rfl) 17 rfl)
                    go_simp
                    refine (JI.out _ (QH.out.below HC.out)).mono ?_
                    rintro en w2 ⟨rfl, hB2⟩
                    exact hK _ _ (fun _ => rfl) (fun h => by cases h) (HC.out.trans (hB2.mono HC.out.size)) trivial
                  · rintro a w1 hC hx hd K hK
                    have HC := Lib.hid hC
                    clear hC
                    have t18 : a.tmps[18]?.getD undef = .bool true := Reg.slot_val (hd 3 (by kernel_rfl) 18 rfl)
                    go_simp
                    exact hK _ _ (fun _ => rfl) (fun h => by cases h) HC.out trivial
                  · rintro a w1 hC hx hd K hK
                    have HC := Lib.hid hC
                    clear hC
                    have t19 : a.tmps[19]?.getD undef = .bool false := Reg.slot_val (hd 4 (by kernel_rfl) 19 rfl)
                    go_simp
                    exact hK _ _ (fun _ => rfl) (fun h => by cases h) HC.out trivial
                  · rintro a w1 hC hx hd K hK
                    have HC := Lib.hid hC
                    clear hC
                    have t0 : a.tmps[0]?.getD undef = .pointer (some ⟨pb, 0, none⟩) := Reg.slot_val (hx 0 (by kernel_rfl))
                    go_simp
                    exact hK _ _ (fun _ => rfl) (fun h => by cases h) HC.out trivial
                  · rintro a w1 hC hx hd K hK
                    have HC := Lib.hid hC
                    clear hC
                    have t1 : a.tmps[1]?.getD undef = .slice (some ⟨b, o, none⟩) hl hc := Reg.slot_val (hx 1 (by kernel_rfl))
                    go_simp
                    exact hK _ _ (fun _ => rfl) (fun h => by cases h) HC.out trivial
                  · rintro a w1 hC hx hd K hK
                    have HC := Lib.hid hC
                    clear hC
                    have t5 : a.tmps[5]?.getD undef = .int .i64 k := Reg.slot_val (hx 5 (by kernel_rfl))
                    go_simp
                    exact hK _ _ (fun _ => rfl) (fun h => by cases h) HC.out trivial
                  · rintro a w1 hC hx hd K hK
                    have HC := Lib.hid hC
                    clear hC
                    have t22 : a.tmps[22]?.getD undef = .slice (some ⟨b, o, none⟩) hl hc := Reg.slot_val (hd 7 (by kernel_rfl) 22 rfl)
                    have t23 : a.tmps[23]?.getD undef = .int .i64 k := Reg.slot_val (hd 8 (by kernel_rfl) 23 rfl)
                    go_simp
                    exact hK _ _ (fun _ => rfl) (fun h => by cases h) HC.out trivial
                  · rintro a w1 hC hx hd K hK
                    have HC := Lib.hid hC
                    clear hC
                    have t24 : a.tmps[24]?.getD undef = .pointer (some ⟨b, o + k * 8, none⟩) := Reg.slot_val (hd 9 (by kernel_rfl) 24 rfl)
                    go_simp
                    exact hK _ _ (fun _ => rfl) (fun h => by cases h) HC.out trivial
                  · rintro a w1 hC hx hd K hK
                    have HC := Lib.hid hC
                    clear hC
                    have c0 := (QH.out.below HC.out).c0
                    have t25 : a.tmps[25]?.getD undef = .pointer (some ⟨b, o + k * 8, none⟩) := Reg.slot_val (hd 10 (by kernel_rfl) 25 rfl)
                    go_simp
                    exact hK _ _ (fun _ => rfl) (fun h => by cases h) HC.out trivial
                  · rintro a w1 hC hx hd K hK
                    have HC := Lib.hid hC
                    clear hC
                    have t21 : a.tmps[21]?.getD undef = .pointer (some ⟨pb, 0, none⟩) := Reg.slot_val (hd 6 (by kernel_rfl) 21 rfl)
                    have t26 : a.tmps[26]?.getD undef = .int .i64 h.p := Reg.slot_val (hd 11 (by kernel_rfl) 26 rfl)
                    go_simp
                    refine (JX.out _ HC.out).mono ?_
                    rintro en w2 ⟨rfl, hw2⟩
                    rw [hw2]
                    exact hK _ _ (fun _ => rfl) (fun h => by cases h) HC.out trivial
                  · rintro a w1 hC hx hd K hK
                    have HC := Lib.hid hC
                    clear hC
                    have t27 : a.tmps[27]?.getD undef = .bool true := Reg.slot_val (hd 12 (by kernel_rfl) 27 rfl)
                    go_simp
                    exact hK _ _ (fun _ => rfl) (fun h => by cases h) HC.out trivial
                  · rintro a w1 hC hx hd K hK
                    have HC := Lib.hid hC
                    clear hC
                    have t20 : a.tmps[20]?.getD undef = .bool false := Reg.slot_val (hd 5 (by kernel_rfl) 20 rfl)
                    have t28 : a.tmps[28]?.getD undef = .bool false := Reg.slot_val (hd 13 (by kernel_rfl) 28 rfl)
                    go_simp
                    exact hK _ _ (fun _ => rfl) (fun h => by cases h) HC.out trivial
                  · rintro a w1 hC hx hd K hK
                    have HC := Lib.hid hC
                    clear hC
                    have t29 : a.tmps[29]?.getD undef = .bool false := Reg.slot_val (hd 14 (by kernel_rfl) 29 rfl)
                    go_simp
                    exact hK _ _ (fun _ => rfl) (fun h => by cases h) HC.out trivial
                  · rintro a w1 hC hx hd K hK
                    have HC := Lib.hid hC
                    clear hC
                    have t5 : a.tmps[5]?.getD undef = .int .i64 k := Reg.slot_val (hx 5 (by kernel_rfl))
                    go_simp
                    exact hK _ _ (fun _ => rfl) (fun h => by cases h) HC.out trivial
                  · rintro a w1 hC hx hd K hK
                    have HC := Lib.hid hC
                    clear hC
                    have t31 : a.tmps[31]?.getD undef = .int .i64 k := Reg.slot_val (hd 16 (by kernel_rfl) 31 rfl)
                    go_simp
                    first | exact hK _ _ (fun _ => rfl) (fun h => by cases h) HC.out trivial | exact hK _ _ (fun _ => congrArg Value.bool (decide_eq_true (by omega))) (fun h => by cases h) HC.out trivial
                  · rintro a w1 hC hx hd K hK
                    have HC := Lib.hid hC
                    clear hC
                    have t32 : a.tmps[32]?.getD undef = .bool true := Reg.slot_val (hd 17 (by kernel_rfl) 32 rfl)
                    go_simp
                    exact hK _ _ (fun _ => rfl) (fun h => by cases h) HC.out trivial
                  · rintro a w1 hC hx hd K hK
                    have HC := Lib.hid hC
                    clear hC
                    have t1 : a.tmps[1]?.getD undef = .slice (some ⟨b, o, none⟩) hl hc := Reg.slot_val (hx 1 (by kernel_rfl))
                    go_simp
                    exact hK _ _ (fun _ => rfl) (fun h => by cases h) HC.out trivial
                  · rintro a w1 hC hx hd K hK
                    have HC := Lib.hid hC
                    clear hC
                    have t5 : a.tmps[5]?.getD undef = .int .i64 k := Reg.slot_val (hx 5 (by kernel_rfl))
                    go_simp
                    exact hK _ _ (fun _ => rfl) (fun h => by cases h) HC.out trivial
                  · rintro a w1 hC hx hd K hK
                    have HC := Lib.hid hC
                    clear hC
                    have t35 : a.tmps[35]?.getD undef = .int .i64 k := Reg.slot_val (hd 20 (by kernel_rfl) 35 rfl)
                    go_simp
                    exact hK _ _ (fun _ => rfl) (fun h => by cases h) HC.out trivial
                  · rintro a w1 hC hx hd K hK
                    have HC := Lib.hid hC
                    clear hC
                    have t34 : a.tmps[34]?.getD undef = .slice (some ⟨b, o, none⟩) hl hc := Reg.slot_val (hd 19 (by kernel_rfl) 34 rfl)
                    have t36 : a.tmps[36]?.getD undef = .int .i64 j := Reg.slot_val (hd 21 (by kernel_rfl) 36 rfl)
                    go_simp
                    exact hK _ _ (fun _ => rfl) (fun h => by cases h) HC.out trivial
                  · rintro a w1 hC hx hd K hK
                    have HC := Lib.hid hC
                    clear hC
                    have t37 : a.tmps[37]?.getD undef = .pointer (some ⟨b, o + j * 8, none⟩) := Reg.slot_val (hd 22 (by kernel_rfl) 37 rfl)
                    go_simp
                    exact hK _ _ (fun _ => rfl) (fun h => by cases h) HC.out trivial
                  · rintro a w1 hC hx hd K hK
                    have HC := Lib.hid hC
                    clear hC
                    have c0 := (QJ.out.below HC.out).c0
                    have t38 : a.tmps[38]?.getD undef = .pointer (some ⟨b, o + j * 8, none⟩) := Reg.slot_val (hd 23 (by kernel_rfl) 38 rfl)
                    go_simp
                    exact hK _ _ (fun _ => rfl) (fun h => by cases h) HC.out trivial
                  · rintro a w1 hC hx hd K hK
                    have HC := Lib.hid hC
                    clear hC
                    have t1 : a.tmps[1]?.getD undef = .slice (some ⟨b, o, none⟩) hl hc := Reg.slot_val (hx 1 (by kernel_rfl))
                    go_simp
                    exact hK _ _ (fun _ => rfl) (fun h => by cases h) HC.out trivial
                  · rintro a w1 hC hx hd K hK
                    have HC := Lib.hid hC
                    clear hC
                    have t5 : a.tmps[5]?.getD undef = .int .i64 k := Reg.slot_val (hx 5 (by kernel_rfl))
                    go_simp
                    exact hK _ _ (fun _ => rfl) (fun h => by cases h) HC.out trivial
                  · rintro a w1 hC hx hd K hK
                    have HC := Lib.hid hC
                    clear hC
                    have t40 : a.tmps[40]?.getD undef = .slice (some ⟨b, o, none⟩) hl hc := Reg.slot_val (hd 25 (by kernel_rfl) 40 rfl)
                    have t41 : a.tmps[41]?.getD undef = .int .i64 k := Reg.slot_val (hd 26 (by kernel_rfl) 41 rfl)
                    go_simp
                    exact hK _ _ (fun _ => rfl) (fun h => by cases h) HC.out trivial
                  · rintro a w1 hC hx hd K hK
                    have HC := Lib.hid hC
                    clear hC
                    have t42 : a.tmps[42]?.getD undef = .pointer (some ⟨b, o + k * 8, none⟩) := Reg.slot_val (hd 27 (by kernel_rfl) 42 rfl)
                    go_simp
                    exact hK _ _ (fun _ => rfl) (fun h => by cases h) HC.out trivial
                  · rintro a w1 hC hx hd K hK
                    have HC := Lib.hid hC
                    clear hC
                    have c0 := (QH.out.below HC.out).c0
                    have t43 : a.tmps[43]?.getD undef = .pointer (some ⟨b, o + k * 8, none⟩) := Reg.slot_val (hd 28 (by kernel_rfl) 43 rfl)
                    go_simp
                    exact hK _ _ (fun _ => rfl) (fun h => by cases h) HC.out trivial
                  · rintro a w1 hC hx hd K hK
                    have HC := Lib.hid hC
                    clear hC
                    have t39 : a.tmps[39]?.getD undef = .int .i64 q.p := Reg.slot_val (hd 24 (by kernel_rfl) 39 rfl)
                    have t44 : a.tmps[44]?.getD undef = .int .i64 h.p := Reg.slot_val (hd 29 (by kernel_rfl) 44 rfl)
                    go_simp
                    first | exact hK _ _ (fun _ => rfl) (fun h => by cases h) HC.out trivial | exact hK _ _ (fun _ => congrArg Value.bool (decide_eq_false (by omega))) (fun h => by cases h) HC.out trivial
                  · rintro a w1 hC hx hd K hK
                    have HC := Lib.hid hC
                    clear hC
                    have t33 : a.tmps[33]?.getD undef = .bool true := Reg.slot_val (hd 18 (by kernel_rfl) 33 rfl)
                    have t45 : a.tmps[45]?.getD undef = .bool false := Reg.slot_val (hd 30 (by kernel_rfl) 45 rfl)
                    go_simp
                    exact hK _ _ (fun _ => rfl) (fun h => by cases h) HC.out trivial
                  · rintro a w1 hC hx hd K hK
                    have HC := Lib.hid hC
                    clear hC
                    have t30 : a.tmps[30]?.getD undef = .bool false := Reg.slot_val (hd 15 (by kernel_rfl) 30 rfl)
                    have t46 : a.tmps[46]?.getD undef = .bool false := Reg.slot_val (hd 31 (by kernel_rfl) 46 rfl)
                    go_simp
                    exact hK _ _ (fun _ => rfl) (fun h => by cases h) HC.out trivial
                rintro f w1 hC hd hT
                have g47 : f 47 = .bool false := hd 32 47 rfl
                simp only [Reg.mixL, g47]
                have HC := Lib.hid (HB.out.trans (hC.mono HB.out.size))
                clear hC hd hT
                go_wp2
                go_roundw
                case rel => exact ⟨k + 1, by omega, by go_num, HC.out, HOK.out⟩
                case measure => simp [intOf]; omega
              · have HR : Hid (goodB pl hs = false) := Lib.hid (good_not hlk (by rw [hstep, decide_eq_false hlt2]; rfl))
                have hge : h.p ≤ q.p := by omega
                clear hstep hpz hpl hll hlk h0 hj hjk hqz hi2 hq2
                go_wp2_with fail
                refine RegG.wp_region_mix (C := fun w' => Below wr.heap.size wr w') (G := fun _ _ => True) (R := fun i v w' => match i with | 0 => v = .slice (some ⟨b, o, none⟩) hl hc | 1 => v = .int .i64 k | 2 => v = .pointer (some ⟨b, o + k * 8, none⟩) | 3 => v = .bool true | 4 => v = .bool false | 5 => v = .bool false | 6 => v = .pointer (some ⟨pb, 0, none⟩) | 7 => v = .slice (some ⟨b, o, none⟩) hl hc | 8 => v = .int .i64 k | 9 => v = .pointer (some ⟨b, o + k * 8, none⟩) | 10 => v = .pointer (some ⟨b, o + k * 8, none⟩) | 11 => v = .int .i64 h.p | 12 => v = .bool true | 13 => v = .bool false | 14 => v = .bool false | 15 => v = .bool false | 16 => v = .int .i64 k | 17 => v = .bool true | 18 => v = .bool true | 19 => v = .slice (some ⟨b, o, none⟩) hl hc | 20 => v = .int .i64 k | 21 => v = .int .i64 j | 22 => v = .pointer (some ⟨b, o + j * 8, none⟩) | 23 => v = .pointer (some ⟨b, o + j * 8, none⟩) | 24 => v = .int .i64 q.p | 25 => v = .slice (some ⟨b, o, none⟩) hl hc | 26 => v = .int .i64 k | 27 => v = .pointer (some ⟨b, o + k * 8, none⟩) | 28 => v = .pointer (some ⟨b, o + k * 8, none⟩) | 29 => v = .int .i64 h.p | 30 => v = .bool true | 31 => v = .bool true | 32 => v = .bool true | _ => True) (T := fun _ _ _ => True) [false, false, false, false, false, false, false, false, false, false, false, false, false, false, false, true, true, true, true, true, true, true, true, true, true, true, true, true, true, true, true, true, true, true, true, true, true, true, true, true, true, true, true, true, true, true, true, true]
                  (by kernel_rfl) (by kernel_rfl) (by kernel_rfl) (fun _ _ _ _ _ _ h => h) (fun _ => trivial) (below_drewN (Below.refl _ _) 1) ?_ ?_
                · refine ⟨RegG.Obl.mk rfl ?_, RegG.Obl.mk rfl ?_, RegG.Obl.mk rfl ?_, RegG.Obl.mk rfl ?_, RegG.Obl.mk rfl ?_, RegG.Obl.mk rfl ?_, RegG.Obl.go 5 20 false rfl rfl (by kernel_rfl) (fun a w h => h 20 rfl) ?_, RegG.Obl.go 5 20 false rfl rfl (by kernel_rfl) (fun a w h => h 20 rfl) ?_, RegG.Obl.go 5 20 false rfl rfl (by kernel_rfl) (fun a w h => h 20 rfl) ?_, RegG.Obl.go 5 20 false rfl rfl (by kernel_rfl) (fun a w h => h 20 rfl) ?_, RegG.Obl.go 5 20 false rfl rfl (by kernel_rfl) (fun a w h => h 20 rfl) ?_, RegG.Obl.go 5 20 false rfl rfl (by kernel_rfl) (fun a w h => h 20 rfl) ?_, RegG.Obl.go 5 20 false rfl rfl (by kernel_rfl) (fun a w h => h 20 rfl) ?_, RegG.Obl.go 5 20 false rfl rfl (by kernel_rfl) (fun a w h => h 20 rfl) ?_, RegG.Obl.mk rfl ?_, RegG.Obl.mk rfl ?_, RegG.Obl.go 15 30 false rfl rfl (by kernel_rfl) (fun a w h => h 30 rfl) ?_, RegG.Obl.go 15 30 false rfl rfl (by kernel_rfl) (fun a w h => h 30 rfl) ?_, RegG.Obl.go 15 30 false rfl rfl (by kernel_rfl) (fun a w h => h 30 rfl) ?_, RegG.Obl.go 18 33 true rfl rfl (by kernel_rfl) (fun a w h => h 33 rfl) ?_, RegG.Obl.go 18 33 true rfl rfl (by kernel_rfl) (fun a w h => h 33 rfl) ?_, RegG.Obl.go 18 33 true rfl rfl (by kernel_rfl) (fun a w h => h 33 rfl) ?_, RegG.Obl.go 18 33 true rfl rfl (by kernel_rfl) (fun a w h => h 33 rfl) ?_, RegG.Obl.go 18 33 true rfl rfl (by kernel_rfl) (fun a w h => h 33 rfl) ?_, RegG.Obl.go 18 33 true rfl rfl (by kernel_rfl) (fun a w h => h 33 rfl) ?_, RegG.Obl.go 18 33 true rfl rfl (by kernel_rfl) (fun a w h => h 33 rfl) ?_, RegG.Obl.go 18 33 true rfl rfl (by kernel_rfl) (fun a w h => h 33 rfl) ?_, RegG.Obl.go 18 33 true rfl rfl (by kernel_rfl) (fun a w h => h 33 rfl) ?_, RegG.Obl.go 18 33 true rfl rfl (by kernel_rfl) (fun a w h => h 33 rfl) ?_, RegG.Obl.go 18 33 true rfl rfl (by kernel_rfl) (fun a w h => h 33 rfl) ?_, RegG.Obl.go 18 33 true rfl rfl (by kernel_rfl) (fun a w h => h 33 rfl) ?_, RegG.Obl.go 15 30 false rfl rfl (by kernel_rfl) (fun a w h => h 30 rfl) ?_, RegG.Obl.mk rfl ?_, trivial⟩
                  · rintro a w1 hC hx hd K hK
                    have HC := Lib.hid hC
                    clear hC
                    have t1 : a.tmps[1]?.getD undef = .slice (some ⟨b, o, none⟩) hl hc := Reg.slot_val (hx 1 (by kernel_rfl))
                    go_simp
                    exact hK _ _ (fun _ => rfl) (fun h => by cases h) HC.out trivial
                  · rintro a w1 hC hx hd K hK
                    have HC := Lib.hid hC
                    clear hC
                    have t5 : a.tmps[5]?.getD undef = .int .i64 k := Reg.slot_val (hx 5 (by kernel_rfl))
                    go_simp
                    exact hK _ _ (fun _ => rfl) (fun h => by cases h) HC.out trivial
                  · rintro a w1 hC hx hd K hK
                    have HC := Lib.hid hC
                    clear hC
                    have t15 : a.tmps[15]?.getD undef = .slice (some ⟨b, o, none⟩) hl hc := Reg.slot_val (hd 0 (by kernel_rfl) 15 rfl)
                    have t16 : a.tmps[16]?.getD undef = .int .i64 k := Reg.slot_val (hd 1 (by kernel_rfl) 16 rfl)
                    go_simp
                    exact hK _ _ (fun _ => rfl) (fun h => by cases h) HC.out trivial
                  · rintro a w1 hC hx hd K hK
                    have HC := Lib.hid hC
                    clear hC
                    have t17 : a.tmps[17]?.getD undef = .pointer (some ⟨b, o + k * 8, none⟩) := Reg.slot_val (hd 2 (by kernel_rfl) 17 rfl)
                    go_simp
                    refine (JI.out _ (QH.out.below HC.out)).mono ?_
                    rintro en w2 ⟨rfl, hB2⟩
                    exact hK _ _ (fun _ => rfl) (fun h => by cases h) (HC.out.trans (hB2.mono HC.out.size)) trivial
                  · rintro a w1 hC hx hd K hK
                    have HC := Lib.hid hC
                    clear hC
                    have t18 : a.tmps[18]?.getD undef = .bool true := Reg.slot_val (hd 3 (by kernel_rfl) 18 rfl)
                    go_simp
                    exact hK _ _ (fun _ => rfl) (fun h => by cases h) HC.out trivial
                  · rintro a w1 hC hx hd K hK
                    have HC := Lib.hid hC
                    clear hC
                    have t19 : a.tmps[19]?.getD undef = .bool false := Reg.slot_val (hd 4 (by kernel_rfl) 19 rfl)
                    go_simp
                    exact hK _ _ (fun _ => rfl) (fun h => by cases h) HC.out trivial
                  · rintro a w1 hC hx hd K hK
                    have HC := Lib.hid hC
                    clear hC
                    have t0 : a.tmps[0]?.getD undef = .pointer (some ⟨pb, 0, none⟩) := Reg.slot_val (hx 0 (by kernel_rfl))
                    go_simp
                    exact hK _ _ (fun _ => rfl) (fun h => by cases h) HC.out trivial
                  · rintro a w1 hC hx hd K hK
                    have HC := Lib.hid hC
                    clear hC
                    have t1 : a.tmps[1]?.getD undef = .slice (some ⟨b, o, none⟩) hl hc := Reg.slot_val (hx 1 (by kernel_rfl))
                    go_simp
                    exact hK _ _ (fun _ => rfl) (fun h => by cases h) HC.out trivial
                  · rintro a w1 hC hx hd K hK
                    have HC := Lib.hid hC
                    clear hC
                    have t5 : a.tmps[5]?.getD undef = .int .i64 k := Reg.slot_val (hx 5 (by kernel_rfl))
                    go_simp
                    exact hK _ _ (fun _ => rfl) (fun h => by cases h) HC.out trivial
                  · rintro a w1 hC hx hd K hK
                    have HC := Lib.hid hC
                    clear hC
                    have t22 : a.tmps[22]?.getD undef = .slice (some ⟨b, o, none⟩) hl hc := Reg.slot_val (hd 7 (by kernel_rfl) 22 rfl)
                    have t23 : a.tmps[23]?.getD undef = .int .i64 k := Reg.slot_val (hd 8 (by kernel_rfl) 23 rfl)
                    go_simp
                    exact hK _ _ (fun _ => rfl) (fun h => by cases h) HC.out trivial
                  · rintro a w1 hC hx hd K hK
                    have HC := Lib.hid hC
                    clear hC
                    have t24 : a.tmps[24]?.getD undef = .pointer (some ⟨b, o + k * 8, none⟩) := Reg.slot_val (hd 9 (by kernel_rfl) 24 rfl)
                    go_simp
                    exact hK _ _ (fun _ => rfl) (fun h => by cases h) HC.out trivial
                  · rintro a w1 hC hx hd K hK
                    have HC := Lib.hid hC
                    clear hC
                    have c0 := (QH.out.below HC.out).c0
                    have t25 : a.tmps[25]?.getD undef = .pointer (some ⟨b, o + k * 8, none⟩) := Reg.slot_val (hd 10 (by kernel_rfl) 25 rfl)
                    go_simp
                    exact hK _ _ (fun _ => rfl) (fun h => by cases h) HC.out trivial
                  · rintro a w1 hC hx hd K hK
                    have HC := Lib.hid hC
                    clear hC
                    have t21 : a.tmps[21]?.getD undef = .pointer (some ⟨pb, 0, none⟩) := Reg.slot_val (hd 6 (by kernel_rfl) 21 rfl)
                    have t26 : a.tmps[26]?.getD undef = .int .i64 h.p := Reg.slot_val (hd 11 (by kernel_rfl) 26 rfl)
                    go_simp
                    refine (JX.out _ HC.out).mono ?_
                    rintro en w2 ⟨rfl, hw2⟩
                    rw [hw2]
                    exact hK _ _ (fun _ => rfl) (fun h => by cases h) HC.out trivial
                  · rintro a w1 hC hx hd K hK
                    have HC := Lib.hid hC
                    clear hC
                    have t27 : a.tmps[27]?.getD undef = .bool true := Reg.slot_val (hd 12 (by kernel_rfl) 27 rfl)
                    go_simp
                    exact hK _ _ (fun _ => rfl) (fun h => by cases h) HC.out trivial
                  · rintro a w1 hC hx hd K hK
                    have HC := Lib.hid hC
                    clear hC
                    have t20 : a.tmps[20]?.getD undef = .bool false := Reg.slot_val (hd 5 (by kernel_rfl) 20 rfl)
                    have t28 : a.tmps[28]?.getD undef = .bool false := Reg.slot_val (hd 13 (by kernel_rfl) 28 rfl)
                    go_simp
                    exact hK _ _ (fun _ => rfl) (fun h => by cases h) HC.out trivial
                  · rintro a w1 hC hx hd K hK
                    have HC := Lib.hid hC
                    clear hC
                    have t29 : a.tmps[29]?.getD undef = .bool false := Reg.slot_val (hd 14 (by kernel_rfl) 29 rfl)
                    go_simp
                    exact hK _ _ (fun _ => rfl) (fun h => by cases h) HC.out trivial
                  · rintro a w1 hC hx hd K hK
                    have HC := Lib.hid hC
                    clear hC
                    have t5 : a.tmps[5]?.getD undef = .int .i64 k := Reg.slot_val (hx 5 (by kernel_rfl))
                    go_simp
                    exact hK _ _ (fun _ => rfl) (fun h => by cases h) HC.out trivial
                  · rintro a w1 hC hx hd K hK
                    have HC := Lib.hid hC
                    clear hC
                    have t31 : a.tmps[31]?.getD undef = .int .i64 k := Reg.slot_val (hd 16 (by kernel_rfl) 31 rfl)
                    go_simp
                    first | exact hK _ _ (fun _ => rfl) (fun h => by cases h) HC.out trivial | exact hK _ _ (fun _ => congrArg Value.bool (decide_eq_true (by omega))) (fun h => by cases h) HC.out trivial
                  · rintro a w1 hC hx hd K hK
                    have HC := Lib.hid hC
                    clear hC
                    have t32 : a.tmps[32]?.getD undef = .bool true := Reg.slot_val (hd 17 (by kernel_rfl) 32 rfl)
                    go_simp
                    exact hK _ _ (fun _ => rfl) (fun h => by cases h) HC.out trivial
                  · rintro a w1 hC hx hd K hK
                    have HC := Lib.hid hC
                    clear hC
                    have t1 : a.tmps[1]?.getD undef = .slice (some ⟨b, o, none⟩) hl hc := Reg.slot_val (hx 1 (by kernel_rfl))
                    go_simp
                    exact hK _ _ (fun _ => rfl) (fun h => by cases h) HC.out trivial
                  · rintro a w1 hC hx hd K hK
                    have HC := Lib.hid hC
                    clear hC
                    have t5 : a.tmps[5]?.getD undef = .int .i64 k := Reg.slot_val (hx 5 (by kernel_rfl))
                    go_simp
                    exact hK _ _ (fun _ => rfl) (fun h => by cases h) HC.out trivial
                  · rintro a w1 hC hx hd K hK
                    have HC := Lib.hid hC
                    clear hC
                    have t35 : a.tmps[35]?.getD undef = .int .i64 k := Reg.slot_val (hd 20 (by kernel_rfl) 35 rfl)
                    go_simp
                    exact hK _ _ (fun _ => rfl) (fun h => by cases h) HC.out trivial
                  · rintro a w1 hC hx hd K hK
                    have HC := Lib.hid hC
                    clear hC
                    have t34 : a.tmps[34]?.getD undef = .slice (some ⟨b, o, none⟩) hl hc := Reg.slot_val (hd 19 (by kernel_rfl) 34 rfl)
                    have t36 : a.tmps[36]?.getD undef = .int .i64 j := Reg.slot_val (hd 21 (by kernel_rfl) 36 rfl)
                    go_simp
                    exact hK _ _ (fun _ => rfl) (fun h => by cases h) HC.out trivial
                  · rintro a w1 hC hx hd K hK
                    have HC := Lib.hid hC
                    clear hC
                    have t37 : a.tmps[37]?.getD undef = .pointer (some ⟨b, o + j * 8, none⟩) := Reg.slot_val (hd 22 (by kernel_rfl) 37 rfl)
                    go_simp
                    exact hK _ _ (fun _ => rfl) (fun h => by cases h) HC.out trivial
                  · rintro a w1 hC hx hd K hK
                    have HC := Lib.hid hC
                    clear hC
                    have c0 := (QJ.out.below HC.out).c0
                    have t38 : a.tmps[38]?.getD undef = .pointer (some ⟨b, o + j * 8, none⟩) := Reg.slot_val (hd 23 (by kernel_rfl) 38 rfl)
                    go_simp
                    exact hK _ _ (fun _ => rfl) (fun h => by cases h) HC.out trivial
                  · rintro a w1 hC hx hd K hK
                    have HC := Lib.hid hC
                    clear hC
                    have t1 : a.tmps[1]?.getD undef = .slice (some ⟨b, o, none⟩) hl hc := Reg.slot_val (hx 1 (by kernel_rfl))
                    go_simp
                    exact hK _ _ (fun _ => rfl) (fun h => by cases h) HC.out trivial
                  · rintro a w1 hC hx hd K hK
                    have HC := Lib.hid hC
                    clear hC
                    have t5 : a.tmps[5]?.getD undef = .int .i64 k := Reg.slot_val (hx 5 (by kernel_rfl))
                    go_simp
                    exact hK _ _ (fun _ => rfl) (fun h => by cases h) HC.out trivial
                  · rintro a w1 hC hx hd K hK
                    have HC := Lib.hid hC
                    clear hC
                    have t40 : a.tmps[40]?.getD undef = .slice (some ⟨b, o, none⟩) hl hc := Reg.slot_val (hd 25 (by kernel_rfl) 40 rfl)
                    have t41 : a.tmps[41]?.getD undef = .int .i64 k := Reg.slot_val (hd 26 (by kernel_rfl) 41 rfl)
                    go_simp
                    exact hK _ _ (fun _ => rfl) (fun h => by cases h) HC.out trivial
                  · rintro a w1 hC hx hd K hK
                    have HC := Lib.hid hC
                    clear hC
                    have t42 : a.tmps[42]?.getD undef = .pointer (some ⟨b, o + k * 8, none⟩) := Reg.slot_val (hd 27 (by kernel_rfl) 42 rfl)
                    go_simp
                    exact hK _ _ (fun _ => rfl) (fun h => by cases h) HC.out trivial
                  · rintro a w1 hC hx hd K hK
                    have HC := Lib.hid hC
                    clear hC
                    have c0 := (QH.out.below HC.out).c0
                    have t43 : a.tmps[43]?.getD undef = .pointer (some ⟨b, o + k * 8, none⟩) := Reg.slot_val (hd 28 (by kernel_rfl) 43 rfl)
                    go_simp
                    exact hK _ _ (fun _ => rfl) (fun h => by cases h) HC.out trivial
                  · rintro a w1 hC hx hd K hK
                    have HC := Lib.hid hC
                    clear hC
                    have t39 : a.tmps[39]?.getD undef = .int .i64 q.p := Reg.slot_val (hd 24 (by kernel_rfl) 39 rfl)
                    have t44 : a.tmps[44]?.getD undef = .int .i64 h.p := Reg.slot_val (hd 29 (by kernel_rfl) 44 rfl)
                    go_simp
                    first | exact hK _ _ (fun _ => rfl) (fun h => by cases h) HC.out trivial | exact hK _ _ (fun _ => congrArg Value.bool (decide_eq_true (by omega))) (fun h => by cases h) HC.out trivial
                  · rintro a w1 hC hx hd K hK
                    have HC := Lib.hid hC
                    clear hC
                    have t33 : a.tmps[33]?.getD undef = .bool true := Reg.slot_val (hd 18 (by kernel_rfl) 33 rfl)
                    have t45 : a.tmps[45]?.getD undef = .bool true := Reg.slot_val (hd 30 (by kernel_rfl) 45 rfl)
                    go_simp
                    exact hK _ _ (fun _ => rfl) (fun h => by cases h) HC.out trivial
                  · rintro a w1 hC hx hd K hK
                    have HC := Lib.hid hC
                    clear hC
                    have t30 : a.tmps[30]?.getD undef = .bool false := Reg.slot_val (hd 15 (by kernel_rfl) 30 rfl)
                    have t46 : a.tmps[46]?.getD undef = .bool true := Reg.slot_val (hd 31 (by kernel_rfl) 46 rfl)
                    go_simp
                    exact hK _ _ (fun _ => rfl) (fun h => by cases h) HC.out trivial
                rintro f w1 hC hd hT
                have g47 : f 47 = .bool true := hd 32 47 rfl
                simp only [Reg.mixL, g47]
                have HC := Lib.hid (HB.out.trans (hC.mono HB.out.size))
                clear hC hd hT
                go_wp2
                go_ret
                exact ⟨ret_bool (by rw [HR.out]; rfl), HC.out⟩
      · obtain rfl : k = hl := by omega
        have HR : Hid (goodB pl hs = true) := Lib.hid (good_all (fun j hj => OK.out j (by omega)))
        go_wp2
        go_ret
        exact ⟨ret_bool (by rw [HR.out]; rfl), HB.out⟩
end Go.Proofs.Ytmbekamnogbgaaa


/-
What a hold leaves of a force along its way: the program and the model. Conditions: none beyond that the words fit.
-/
namespace Go.Proofs.Ytmbekamnogbgaaa
open Go Fk Go.RowKit
set_option linter.unusedVariables false
set_option maxRecDepth 8000

set_option maxHeartbeats 1000000 in
theorem impl_line (h : HW) (c : HC) (p q r : Nat) (F : C3) (w : World) (i : h.Is c) (f : F3 p q r F) :
    Calls Try.prog 196 #[h.v, vv p q r] w fun e w' => ∃ x y z, e = .returned (vv x y z) ∧ F3 x y z (alongC c F) ∧ Below w.heap.size w w' := by
  have u := Try.underlying31
  have uh := Try.underlying117
  have uv := Try.underlying34
  have ul := Try.underlying221
  have I := Lib.hid i
  have FF := Lib.hid f
  clear i f
  have fr : Frm w [(w.heap.size, h.l), (w.heap.size + 1, [.float .f32 p, .float .f32 q, .float .f32 r])] (w.heap.size + 1 + 1) (((w.alloc (HBox h 221)).alloc (.cells #[.float .f32 p, .float .f32 q, .float .f32 r] 34)).alloc (.cells #[.float .f32 0, .float .f32 0, .float .f32 0] 34)) := by
    refine ⟨(((Below.refl _ _).alloc (Nat.le_refl _) _).alloc (by simp) _).alloc (by simp; omega) _, ?_, by omega, ⟨.float .f32 0, .float .f32 0, .float .f32 0, by go_simp, by go_simp, by go_simp⟩, fun i => by go_simp⟩
    intro b l hm
    rcases List.mem_cons.1 hm with e | hm
    · cases e; exact ⟨At.new.alloc.alloc, by omega⟩
    · rcases List.mem_cons.1 hm with e | hm
      · cases e
        refine ⟨?_, by omega⟩
        have := (At.new (w := w.alloc (HBox h 221)) (vs := [.float .f32 p, .float .f32 q, .float .f32 r]) (t := 34)).alloc (o := .cells #[.float .f32 0, .float .f32 0, .float .f32 0] 34)
        rw [World.size_alloc] at this
        exact this
      · cases hm
  have FR := Lib.hid fr
  clear fr
  unfold HW.v
  go_enter Try.func196, Try.ntmps196
  go_wp2_with fail
  change (Code.region _ _ _).wp _ _ _ (((w.alloc (HBox h 221)).alloc (.cells #[.float .f32 p, .float .f32 q, .float .f32 r] 34)).alloc (.cells #[.float .f32 0, .float .f32 0, .float .f32 0] 34))
  generalize (((w.alloc (HBox h 221)).alloc (.cells #[.float .f32 p, .float .f32 q, .float .f32 r] 34)).alloc (.cells #[.float .f32 0, .float .f32 0, .float .f32 0] 34)) = W at *
  refine Reg2.wp_region_mix (C := Frm w [(w.heap.size, h.l), (w.heap.size + 1, [.float .f32 p, .float .f32 q, .float .f32 r])] (w.heap.size + 1 + 1)) (G := fun w1 w2 => TV (w.heap.size + 1 + 1) (alongC c F) w1 → TV (w.heap.size + 1 + 1) (alongC c F) w2) (R := fun i v w' => match i with | 0 => v = .pointer (some ⟨w.heap.size, 0, none⟩) | 1 => v = .pointer (some ⟨w.heap.size, 5, none⟩) | 2 => v = .agg #[.float .f32 h.s, .float .f32 h.t, .float .f32 h.u] | 3 => v = .agg #[.float .f32 p, .float .f32 q, .float .f32 r] | 4 => v = .pointer (some ⟨w.heap.size, 0, none⟩) | 5 => v = .pointer (some ⟨w.heap.size, 5, none⟩) | 6 => v = .agg #[.float .f32 h.s, .float .f32 h.t, .float .f32 h.u] | 7 => ∃ r, v = .float .f32 r ∧ FV .f32 r (innC F c.2.2.2) | 8 => v = .pointer (some ⟨w.heap.size, 0, none⟩) | 9 => v = .pointer (some ⟨w.heap.size, 5, none⟩) | 10 => v = .agg #[.float .f32 h.s, .float .f32 h.t, .float .f32 h.u] | 11 => v = .pointer (some ⟨w.heap.size, 0, none⟩) | 12 => v = .pointer (some ⟨w.heap.size, 5, none⟩) | 13 => v = .agg #[.float .f32 h.s, .float .f32 h.t, .float .f32 h.u] | 14 => ∃ r, v = .float .f32 r ∧ FV .f32 r (innC c.2.2.2 c.2.2.2) | 15 => ∃ r, v = .float .f32 r ∧ FV .f32 r (fop .quo .f32 (innC F c.2.2.2) (innC c.2.2.2 c.2.2.2)) | 16 => ∃ p q r, v = vv p q r ∧ F3 p q r (alongC c F) | _ => True) (T := fun _ w' => TV (w.heap.size + 1 + 1) (alongC c F) w') [false, false, false, false, false, true, true, true, true, true, true, true, true, true, true, true, true, true, true, true, true, true]
    (by kernel_rfl) (by kernel_rfl) (by kernel_rfl) (fun _ _ _ _ _ _ h => h) (fun _ _ _ _ hG hT => hG hT) (Frm.drewN FR.out 1) ?_ ?_
  · refine ⟨Reg2.Obl.mk ?_, Reg2.Obl.mk ?_, Reg2.Obl.mk ?_, Reg2.Obl.mk ?_, Reg2.Obl.mk ?_, Reg2.Obl.mk ?_, Reg2.Obl.mk ?_, Reg2.Obl.mk ?_, Reg2.Obl.mk ?_, Reg2.Obl.mk ?_, Reg2.Obl.mk ?_, Reg2.Obl.mk ?_, Reg2.Obl.mk ?_, Reg2.Obl.mk ?_, Reg2.Obl.mk ?_, Reg2.Obl.mk ?_, Reg2.Obl.mk ?_, Reg2.Obl.mk ?_, trivial⟩
    · rintro a w1 hC hx hd K hK
      have HC := Lib.hid hC
      clear hC
      have t2 : a.tmps[2]?.getD undef = .pointer (some ⟨w.heap.size, 0, none⟩) := Reg.slot_val (hx 2 (by kernel_rfl))
      go_simp
      exact hK _ _ (fun _ => rfl) (fun h => by cases h) HC.out (fun h => h)
    · rintro a w1 hC hx hd K hK
      have HC := Lib.hid hC
      clear hC
      have t5 : a.tmps[5]?.getD undef = .pointer (some ⟨w.heap.size, 0, none⟩) := Reg.slot_val (hd 0 (by kernel_rfl) 5 rfl)
      go_simp
      exact hK _ _ (fun _ => rfl) (fun h => by cases h) HC.out (fun h => h)
    · rintro a w1 hC hx hd K hK
      have HC := Lib.hid hC
      clear hC
      have y5 := (HC.out.mem (.head _)) 5 _ rfl
      have y6 := (HC.out.mem (.head _)) 6 _ rfl
      have y7 := (HC.out.mem (.head _)) 7 _ rfl
      have t6 : a.tmps[6]?.getD undef = .pointer (some ⟨w.heap.size, 5, none⟩) := Reg.slot_val (hd 1 (by kernel_rfl) 6 rfl)
      go_simp
      exact hK _ _ (fun _ => rfl) (fun h => by cases h) HC.out (fun h => h)
    · rintro a w1 hC hx hd K hK
      have HC := Lib.hid hC
      clear hC
      have z0 := (HC.out.mem (.tail _ (.head _))) 0 _ rfl
      have z1 := (HC.out.mem (.tail _ (.head _))) 1 _ rfl
      have z2 := (HC.out.mem (.tail _ (.head _))) 2 _ rfl
      have t3 : a.tmps[3]?.getD undef = .pointer (some ⟨w.heap.size + 1, 0, none⟩) := Reg.slot_val (hx 3 (by kernel_rfl))
      go_simp
      exact hK _ _ (fun _ => rfl) (fun h => by cases h) HC.out (fun h => h)
    · rintro a w1 hC hx hd K hK
      have HC := Lib.hid hC
      clear hC
      have t2 : a.tmps[2]?.getD undef = .pointer (some ⟨w.heap.size, 0, none⟩) := Reg.slot_val (hx 2 (by kernel_rfl))
      go_simp
      exact hK _ _ (fun _ => rfl) (fun h => by cases h) HC.out (fun h => h)
    · rintro a w1 hC hx hd K hK
      have HC := Lib.hid hC
      clear hC
      have t9 : a.tmps[9]?.getD undef = .pointer (some ⟨w.heap.size, 0, none⟩) := Reg.slot_val (hd 4 (by kernel_rfl) 9 rfl)
      go_simp
      exact hK _ _ (fun _ => rfl) (fun h => by cases h) HC.out (fun h => h)
    · rintro a w1 hC hx hd K hK
      have HC := Lib.hid hC
      clear hC
      have y5 := (HC.out.mem (.head _)) 5 _ rfl
      have y6 := (HC.out.mem (.head _)) 6 _ rfl
      have y7 := (HC.out.mem (.head _)) 7 _ rfl
      have t10 : a.tmps[10]?.getD undef = .pointer (some ⟨w.heap.size, 5, none⟩) := Reg.slot_val (hd 5 (by kernel_rfl) 10 rfl)
      go_simp
      exact hK _ _ (fun _ => rfl) (fun h => by cases h) HC.out (fun h => h)
    · rintro a w1 hC hx hd K hK
      have HC := Lib.hid hC
      clear hC
      have t8 : a.tmps[8]?.getD undef = .agg #[.float .f32 p, .float .f32 q, .float .f32 r] := Reg.slot_val (hd 3 (by kernel_rfl) 8 rfl)
      have t11 : a.tmps[11]?.getD undef = .agg #[.float .f32 h.s, .float .f32 h.t, .float .f32 h.u] := Reg.slot_val (hd 6 (by kernel_rfl) 11 rfl)
      go_simp
      refine (impl_InnerOf _ _ _ _ _ _ _ _ _ _ _ _ _ FF.out.1 FF.out.2.1 FF.out.2.2 I.out.2.2.2.1 I.out.2.2.2.2.1 I.out.2.2.2.2.2).mono ?_
      rintro en w2 ⟨r, rfl, hr, hB2⟩
      exact hK _ _ (fun _ => ⟨r, rfl, hr⟩) (fun h => by cases h) (HC.out.call hB2) (TV.call hB2)
    · rintro a w1 hC hx hd K hK
      have HC := Lib.hid hC
      clear hC
      have t2 : a.tmps[2]?.getD undef = .pointer (some ⟨w.heap.size, 0, none⟩) := Reg.slot_val (hx 2 (by kernel_rfl))
      go_simp
      exact hK _ _ (fun _ => rfl) (fun h => by cases h) HC.out (fun h => h)
    · rintro a w1 hC hx hd K hK
      have HC := Lib.hid hC
      clear hC
      have t13 : a.tmps[13]?.getD undef = .pointer (some ⟨w.heap.size, 0, none⟩) := Reg.slot_val (hd 8 (by kernel_rfl) 13 rfl)
      go_simp
      exact hK _ _ (fun _ => rfl) (fun h => by cases h) HC.out (fun h => h)
    · rintro a w1 hC hx hd K hK
      have HC := Lib.hid hC
      clear hC
      have y5 := (HC.out.mem (.head _)) 5 _ rfl
      have y6 := (HC.out.mem (.head _)) 6 _ rfl
      have y7 := (HC.out.mem (.head _)) 7 _ rfl
      have t14 : a.tmps[14]?.getD undef = .pointer (some ⟨w.heap.size, 5, none⟩) := Reg.slot_val (hd 9 (by kernel_rfl) 14 rfl)
      go_simp
      exact hK _ _ (fun _ => rfl) (fun h => by cases h) HC.out (fun h => h)
    · rintro a w1 hC hx hd K hK
      have HC := Lib.hid hC
      clear hC
      have t2 : a.tmps[2]?.getD undef = .pointer (some ⟨w.heap.size, 0, none⟩) := Reg.slot_val (hx 2 (by kernel_rfl))
      go_simp
      exact hK _ _ (fun _ => rfl) (fun h => by cases h) HC.out (fun h => h)
    · rintro a w1 hC hx hd K hK
      have HC := Lib.hid hC
      clear hC
      have t16 : a.tmps[16]?.getD undef = .pointer (some ⟨w.heap.size, 0, none⟩) := Reg.slot_val (hd 11 (by kernel_rfl) 16 rfl)
      go_simp
      exact hK _ _ (fun _ => rfl) (fun h => by cases h) HC.out (fun h => h)
    · rintro a w1 hC hx hd K hK
      have HC := Lib.hid hC
      clear hC
      have y5 := (HC.out.mem (.head _)) 5 _ rfl
      have y6 := (HC.out.mem (.head _)) 6 _ rfl
      have y7 := (HC.out.mem (.head _)) 7 _ rfl
      have t17 : a.tmps[17]?.getD undef = .pointer (some ⟨w.heap.size, 5, none⟩) := Reg.slot_val (hd 12 (by kernel_rfl) 17 rfl)
      go_simp
      exact hK _ _ (fun _ => rfl) (fun h => by cases h) HC.out (fun h => h)
    · rintro a w1 hC hx hd K hK
      have HC := Lib.hid hC
      clear hC
      have t15 : a.tmps[15]?.getD undef = .agg #[.float .f32 h.s, .float .f32 h.t, .float .f32 h.u] := Reg.slot_val (hd 10 (by kernel_rfl) 15 rfl)
      have t18 : a.tmps[18]?.getD undef = .agg #[.float .f32 h.s, .float .f32 h.t, .float .f32 h.u] := Reg.slot_val (hd 13 (by kernel_rfl) 18 rfl)
      go_simp
      refine (impl_InnerOf _ _ _ _ _ _ _ _ _ _ _ _ _ I.out.2.2.2.1 I.out.2.2.2.2.1 I.out.2.2.2.2.2 I.out.2.2.2.1 I.out.2.2.2.2.1 I.out.2.2.2.2.2).mono ?_
      rintro en w2 ⟨r, rfl, hr, hB2⟩
      exact hK _ _ (fun _ => ⟨r, rfl, hr⟩) (fun h => by cases h) (HC.out.call hB2) (TV.call hB2)
    · rintro a w1 hC hx hd K hK
      have HC := Lib.hid hC
      clear hC
      obtain ⟨r12, g12, f12⟩ := hd 7 (by kernel_rfl) 12 rfl
      have t12 := Reg.slot_val g12
      clear g12
      obtain ⟨r19, g19, f19⟩ := hd 14 (by kernel_rfl) 19 rfl
      have t19 := Reg.slot_val g19
      clear g19
      go_simp
      exact hK _ _ (fun _ => ⟨_, rfl, FV_fR f12 f19⟩) (fun h => by cases h) (HC.out.drewN _) (TV.drewN _)
    · rintro a w1 hC hx hd K hK
      have HC := Lib.hid hC
      clear hC
      have t7 : a.tmps[7]?.getD undef = .agg #[.float .f32 h.s, .float .f32 h.t, .float .f32 h.u] := Reg.slot_val (hd 2 (by kernel_rfl) 7 rfl)
      obtain ⟨r20, g20, f20⟩ := hd 15 (by kernel_rfl) 20 rfl
      have t20 := Reg.slot_val g20
      clear g20
      go_simp
      refine (impl_ScaleVector _ _ _ _ _ _ _ _ _ I.out.2.2.2.1 I.out.2.2.2.2.1 I.out.2.2.2.2.2 f20).mono ?_
      rintro en w2 ⟨p', q', r', rfl, fp', fq', fr', hB2⟩
      exact hK _ _ (fun _ => ⟨p', q', r', rfl, fp', fq', fr'⟩) (fun h => by cases h) (HC.out.call hB2) (TV.call hB2)
    · rintro a w1 hC hx hd K hK
      have HC := Lib.hid hC
      clear hC
      have t4 : a.tmps[4]?.getD undef = .pointer (some ⟨w.heap.size + 1 + 1, 0, none⟩) := Reg.slot_val (hx 4 (by kernel_rfl))
      obtain ⟨p21, q21, r21, g21, f21⟩ := hd 16 (by kernel_rfl) 21 rfl
      have t21 := Reg.slot_val g21
      clear g21
      obtain ⟨u0, u1, u2, x0, x1, x2⟩ := HC.out.cells
      have k0 := HC.out.free 0
      have k1 := HC.out.free 1
      have k2 := HC.out.free 2
      go_simp
      exact hK undef _ (fun h => absurd rfl h) (fun _ => TV.put HC.out f21) (HC.out.put _ _ _) (fun _ => TV.put HC.out f21)
  rintro f w1 hC hd hT
  obtain ⟨x, y, z, ⟨x0, x1, x2⟩, hf⟩ := hT 17 rfl (by decide)
  simp only [Reg.mixL]
  have HC := Lib.hid hC
  clear hC hd hT
  go_wp2
  refine bodyPost_ret (v := vv x y z) (by simp [results, Try.results196, go_sem, x0, x1, x2]) rfl ⟨x, y, z, rfl, hf, HC.out.bel⟩
set_option maxHeartbeats 1000000 in
theorem l04Along (b o : Nat) (h : HW) (c : HC) (p q r : Nat) (F : C3) (w : World) (a : h.At w b o) (i : h.Is c) (f : F3 p q r F) :
    Calls Try.prog 193 #[.pointer (some ⟨b, o, none⟩), vv p q r] w fun e w' => ∃ x y z, e = .returned (vv x y z) ∧ F3 x y z (alongC c F) ∧ Below w.heap.size w w' := by
  have u := Try.underlying31
  have uh := Try.underlying117
  have uv := Try.underlying34
  have A := Lib.hid a
  clear a
  have I := Lib.hid i
  have FF := Lib.hid f
  clear i f
  have fr : Frm w [(w.heap.size, [.float .f32 p, .float .f32 q, .float .f32 r])] (w.heap.size + 1) ((w.alloc (.cells #[.float .f32 p, .float .f32 q, .float .f32 r] 34)).alloc (.cells #[.float .f32 0, .float .f32 0, .float .f32 0] 34)) := by
    refine ⟨((Below.refl _ _).alloc (Nat.le_refl _) _).alloc (by simp) _, ?_, by omega, ⟨.float .f32 0, .float .f32 0, .float .f32 0, by go_simp, by go_simp, by go_simp⟩, fun i => by go_simp⟩
    intro b l hm
    rcases List.mem_cons.1 hm with e | hm
    · cases e
      refine ⟨?_, by omega⟩
      exact At.new.alloc
    · cases hm
  have FR := Lib.hid fr
  clear fr
  go_enter Try.func193, Try.ntmps193
  go_wp2_with fail
  change (Code.region _ _ _).wp _ _ _ ((w.alloc (.cells #[.float .f32 p, .float .f32 q, .float .f32 r] 34)).alloc (.cells #[.float .f32 0, .float .f32 0, .float .f32 0] 34))
  generalize ((w.alloc (.cells #[.float .f32 p, .float .f32 q, .float .f32 r] 34)).alloc (.cells #[.float .f32 0, .float .f32 0, .float .f32 0] 34)) = W at *
  refine Reg2.wp_region_mix (C := Frm w [(w.heap.size, [.float .f32 p, .float .f32 q, .float .f32 r])] (w.heap.size + 1)) (G := fun w1 w2 => TV (w.heap.size + 1) (alongC c F) w1 → TV (w.heap.size + 1) (alongC c F) w2) (R := fun i v w' => match i with | 0 => v = .pointer (some ⟨b, o, none⟩) | 1 => v = .pointer (some ⟨b, o, none⟩) | 2 => v = .pointer (some ⟨b, o + 5, none⟩) | 3 => v = .agg #[.float .f32 h.s, .float .f32 h.t, .float .f32 h.u] | 4 => v = .agg #[.float .f32 p, .float .f32 q, .float .f32 r] | 5 => v = .pointer (some ⟨b, o, none⟩) | 6 => v = .pointer (some ⟨b, o, none⟩) | 7 => v = .pointer (some ⟨b, o + 5, none⟩) | 8 => v = .agg #[.float .f32 h.s, .float .f32 h.t, .float .f32 h.u] | 9 => ∃ r, v = .float .f32 r ∧ FV .f32 r (innC F c.2.2.2) | 10 => v = .pointer (some ⟨b, o, none⟩) | 11 => v = .pointer (some ⟨b, o, none⟩) | 12 => v = .pointer (some ⟨b, o + 5, none⟩) | 13 => v = .agg #[.float .f32 h.s, .float .f32 h.t, .float .f32 h.u] | 14 => v = .pointer (some ⟨b, o, none⟩) | 15 => v = .pointer (some ⟨b, o, none⟩) | 16 => v = .pointer (some ⟨b, o + 5, none⟩) | 17 => v = .agg #[.float .f32 h.s, .float .f32 h.t, .float .f32 h.u] | 18 => ∃ r, v = .float .f32 r ∧ FV .f32 r (innC c.2.2.2 c.2.2.2) | 19 => ∃ r, v = .float .f32 r ∧ FV .f32 r (fop .quo .f32 (innC F c.2.2.2) (innC c.2.2.2 c.2.2.2)) | 20 => ∃ p q r, v = vv p q r ∧ F3 p q r (alongC c F) | _ => True) (T := fun _ w' => TV (w.heap.size + 1) (alongC c F) w') [false, false, false, false, false, true, true, true, true, true, true, true, true, true, true, true, true, true, true, true, true, true, true, true, true, true]
    (by kernel_rfl) (by kernel_rfl) (by kernel_rfl) (fun _ _ _ _ _ _ h => h) (fun _ _ _ _ hG hT => hG hT) (Frm.drewN FR.out 1) ?_ ?_
  · refine ⟨Reg2.Obl.mk ?_, Reg2.Obl.mk ?_, Reg2.Obl.mk ?_, Reg2.Obl.mk ?_, Reg2.Obl.mk ?_, Reg2.Obl.mk ?_, Reg2.Obl.mk ?_, Reg2.Obl.mk ?_, Reg2.Obl.mk ?_, Reg2.Obl.mk ?_, Reg2.Obl.mk ?_, Reg2.Obl.mk ?_, Reg2.Obl.mk ?_, Reg2.Obl.mk ?_, Reg2.Obl.mk ?_, Reg2.Obl.mk ?_, Reg2.Obl.mk ?_, Reg2.Obl.mk ?_, Reg2.Obl.mk ?_, Reg2.Obl.mk ?_, Reg2.Obl.mk ?_, Reg2.Obl.mk ?_, trivial⟩
    · rintro a w1 hC hx hd K hK
      have HC := Lib.hid hC
      clear hC
      have t0 : a.tmps[0]?.getD undef = .pointer (some ⟨b, o, none⟩) := Reg.slot_val (hx 0 (by kernel_rfl))
      go_simp
      exact hK _ _ (fun _ => rfl) (fun h => by cases h) HC.out (fun h => h)
    · rintro a w1 hC hx hd K hK
      have HC := Lib.hid hC
      clear hC
      have t5 : a.tmps[5]?.getD undef = .pointer (some ⟨b, o, none⟩) := Reg.slot_val (hd 0 (by kernel_rfl) 5 rfl)
      go_simp
      exact hK _ _ (fun _ => rfl) (fun h => by cases h) HC.out (fun h => h)
    · rintro a w1 hC hx hd K hK
      have HC := Lib.hid hC
      clear hC
      have t6 : a.tmps[6]?.getD undef = .pointer (some ⟨b, o, none⟩) := Reg.slot_val (hd 1 (by kernel_rfl) 6 rfl)
      go_simp
      exact hK _ _ (fun _ => rfl) (fun h => by cases h) HC.out (fun h => h)
    · rintro a w1 hC hx hd K hK
      have HC := Lib.hid hC
      clear hC
      have y5 := (A.out.below HC.out.bel).c5
      have y6 := (A.out.below HC.out.bel).c6
      have y7 := (A.out.below HC.out.bel).c7
      have t7 : a.tmps[7]?.getD undef = .pointer (some ⟨b, o + 5, none⟩) := Reg.slot_val (hd 2 (by kernel_rfl) 7 rfl)
      go_simp
      exact hK _ _ (fun _ => rfl) (fun h => by cases h) HC.out (fun h => h)
    · rintro a w1 hC hx hd K hK
      have HC := Lib.hid hC
      clear hC
      have z0 := (HC.out.mem (.head _)) 0 _ rfl
      have z1 := (HC.out.mem (.head _)) 1 _ rfl
      have z2 := (HC.out.mem (.head _)) 2 _ rfl
      have t3 : a.tmps[3]?.getD undef = .pointer (some ⟨w.heap.size, 0, none⟩) := Reg.slot_val (hx 3 (by kernel_rfl))
      go_simp
      exact hK _ _ (fun _ => rfl) (fun h => by cases h) HC.out (fun h => h)
    · rintro a w1 hC hx hd K hK
      have HC := Lib.hid hC
      clear hC
      have t0 : a.tmps[0]?.getD undef = .pointer (some ⟨b, o, none⟩) := Reg.slot_val (hx 0 (by kernel_rfl))
      go_simp
      exact hK _ _ (fun _ => rfl) (fun h => by cases h) HC.out (fun h => h)
    · rintro a w1 hC hx hd K hK
      have HC := Lib.hid hC
      clear hC
      have t10 : a.tmps[10]?.getD undef = .pointer (some ⟨b, o, none⟩) := Reg.slot_val (hd 5 (by kernel_rfl) 10 rfl)
      go_simp
      exact hK _ _ (fun _ => rfl) (fun h => by cases h) HC.out (fun h => h)
    · rintro a w1 hC hx hd K hK
      have HC := Lib.hid hC
      clear hC
      have t11 : a.tmps[11]?.getD undef = .pointer (some ⟨b, o, none⟩) := Reg.slot_val (hd 6 (by kernel_rfl) 11 rfl)
      go_simp
      exact hK _ _ (fun _ => rfl) (fun h => by cases h) HC.out (fun h => h)
    · rintro a w1 hC hx hd K hK
      have HC := Lib.hid hC
      clear hC
      have y5 := (A.out.below HC.out.bel).c5
      have y6 := (A.out.below HC.out.bel).c6
      have y7 := (A.out.below HC.out.bel).c7
      have t12 : a.tmps[12]?.getD undef = .pointer (some ⟨b, o + 5, none⟩) := Reg.slot_val (hd 7 (by kernel_rfl) 12 rfl)
      go_simp
      exact hK _ _ (fun _ => rfl) (fun h => by cases h) HC.out (fun h => h)
    · rintro a w1 hC hx hd K hK
      have HC := Lib.hid hC
      clear hC
      have t9 : a.tmps[9]?.getD undef = .agg #[.float .f32 p, .float .f32 q, .float .f32 r] := Reg.slot_val (hd 4 (by kernel_rfl) 9 rfl)
      have t13 : a.tmps[13]?.getD undef = .agg #[.float .f32 h.s, .float .f32 h.t, .float .f32 h.u] := Reg.slot_val (hd 8 (by kernel_rfl) 13 rfl)
      go_simp
      refine (l01Inner _ _ _ _ _ _ _ _ _ _ _ _ _ FF.out.1 FF.out.2.1 FF.out.2.2 I.out.2.2.2.1 I.out.2.2.2.2.1 I.out.2.2.2.2.2).mono ?_
      rintro en w2 ⟨r, rfl, hr, hB2⟩
      exact hK _ _ (fun _ => ⟨r, rfl, hr⟩) (fun h => by cases h) (HC.out.call hB2) (TV.call hB2)
    · rintro a w1 hC hx hd K hK
      have HC := Lib.hid hC
      clear hC
      have t0 : a.tmps[0]?.getD undef = .pointer (some ⟨b, o, none⟩) := Reg.slot_val (hx 0 (by kernel_rfl))
      go_simp
      exact hK _ _ (fun _ => rfl) (fun h => by cases h) HC.out (fun h => h)
    · rintro a w1 hC hx hd K hK
      have HC := Lib.hid hC
      clear hC
      have t15 : a.tmps[15]?.getD undef = .pointer (some ⟨b, o, none⟩) := Reg.slot_val (hd 10 (by kernel_rfl) 15 rfl)
      go_simp
      exact hK _ _ (fun _ => rfl) (fun h => by cases h) HC.out (fun h => h)
    · rintro a w1 hC hx hd K hK
      have HC := Lib.hid hC
      clear hC
      have t16 : a.tmps[16]?.getD undef = .pointer (some ⟨b, o, none⟩) := Reg.slot_val (hd 11 (by kernel_rfl) 16 rfl)
      go_simp
      exact hK _ _ (fun _ => rfl) (fun h => by cases h) HC.out (fun h => h)
    · rintro a w1 hC hx hd K hK
      have HC := Lib.hid hC
      clear hC
      have y5 := (A.out.below HC.out.bel).c5
      have y6 := (A.out.below HC.out.bel).c6
      have y7 := (A.out.below HC.out.bel).c7
      have t17 : a.tmps[17]?.getD undef = .pointer (some ⟨b, o + 5, none⟩) := Reg.slot_val (hd 12 (by kernel_rfl) 17 rfl)
      go_simp
      exact hK _ _ (fun _ => rfl) (fun h => by cases h) HC.out (fun h => h)
    · rintro a w1 hC hx hd K hK
      have HC := Lib.hid hC
      clear hC
      have t0 : a.tmps[0]?.getD undef = .pointer (some ⟨b, o, none⟩) := Reg.slot_val (hx 0 (by kernel_rfl))
      go_simp
      exact hK _ _ (fun _ => rfl) (fun h => by cases h) HC.out (fun h => h)
    · rintro a w1 hC hx hd K hK
      have HC := Lib.hid hC
      clear hC
      have t19 : a.tmps[19]?.getD undef = .pointer (some ⟨b, o, none⟩) := Reg.slot_val (hd 14 (by kernel_rfl) 19 rfl)
      go_simp
      exact hK _ _ (fun _ => rfl) (fun h => by cases h) HC.out (fun h => h)
    · rintro a w1 hC hx hd K hK
      have HC := Lib.hid hC
      clear hC
      have t20 : a.tmps[20]?.getD undef = .pointer (some ⟨b, o, none⟩) := Reg.slot_val (hd 15 (by kernel_rfl) 20 rfl)
      go_simp
      exact hK _ _ (fun _ => rfl) (fun h => by cases h) HC.out (fun h => h)
    · rintro a w1 hC hx hd K hK
      have HC := Lib.hid hC
      clear hC
      have y5 := (A.out.below HC.out.bel).c5
      have y6 := (A.out.below HC.out.bel).c6
      have y7 := (A.out.below HC.out.bel).c7
      have t21 : a.tmps[21]?.getD undef = .pointer (some ⟨b, o + 5, none⟩) := Reg.slot_val (hd 16 (by kernel_rfl) 21 rfl)
      go_simp
      exact hK _ _ (fun _ => rfl) (fun h => by cases h) HC.out (fun h => h)
    · rintro a w1 hC hx hd K hK
      have HC := Lib.hid hC
      clear hC
      have t18 : a.tmps[18]?.getD undef = .agg #[.float .f32 h.s, .float .f32 h.t, .float .f32 h.u] := Reg.slot_val (hd 13 (by kernel_rfl) 18 rfl)
      have t22 : a.tmps[22]?.getD undef = .agg #[.float .f32 h.s, .float .f32 h.t, .float .f32 h.u] := Reg.slot_val (hd 17 (by kernel_rfl) 22 rfl)
      go_simp
      refine (l01Inner _ _ _ _ _ _ _ _ _ _ _ _ _ I.out.2.2.2.1 I.out.2.2.2.2.1 I.out.2.2.2.2.2 I.out.2.2.2.1 I.out.2.2.2.2.1 I.out.2.2.2.2.2).mono ?_
      rintro en w2 ⟨r, rfl, hr, hB2⟩
      exact hK _ _ (fun _ => ⟨r, rfl, hr⟩) (fun h => by cases h) (HC.out.call hB2) (TV.call hB2)
    · rintro a w1 hC hx hd K hK
      have HC := Lib.hid hC
      clear hC
      obtain ⟨r14, g14, f14⟩ := hd 9 (by kernel_rfl) 14 rfl
      have t14 := Reg.slot_val g14
      clear g14
      obtain ⟨r23, g23, f23⟩ := hd 18 (by kernel_rfl) 23 rfl
      have t23 := Reg.slot_val g23
      clear g23
      go_simp
      exact hK _ _ (fun _ => ⟨_, rfl, FV_fR f14 f23⟩) (fun h => by cases h) (HC.out.drewN _) (TV.drewN _)
    · rintro a w1 hC hx hd K hK
      have HC := Lib.hid hC
      clear hC
      have t8 : a.tmps[8]?.getD undef = .agg #[.float .f32 h.s, .float .f32 h.t, .float .f32 h.u] := Reg.slot_val (hd 3 (by kernel_rfl) 8 rfl)
      obtain ⟨r24, g24, f24⟩ := hd 19 (by kernel_rfl) 24 rfl
      have t24 := Reg.slot_val g24
      clear g24
      go_simp
      refine (l01Scale _ _ _ _ _ _ _ _ _ I.out.2.2.2.1 I.out.2.2.2.2.1 I.out.2.2.2.2.2 f24).mono ?_
      rintro en w2 ⟨p', q', r', rfl, fp', fq', fr', hB2⟩
      exact hK _ _ (fun _ => ⟨p', q', r', rfl, fp', fq', fr'⟩) (fun h => by cases h) (HC.out.call hB2) (TV.call hB2)
    · rintro a w1 hC hx hd K hK
      have HC := Lib.hid hC
      clear hC
      have t4 : a.tmps[4]?.getD undef = .pointer (some ⟨w.heap.size + 1, 0, none⟩) := Reg.slot_val (hx 4 (by kernel_rfl))
      obtain ⟨p25, q25, r25, g25, f25⟩ := hd 20 (by kernel_rfl) 25 rfl
      have t25 := Reg.slot_val g25
      clear g25
      obtain ⟨u0, u1, u2, x0, x1, x2⟩ := HC.out.cells
      have k0 := HC.out.free 0
      have k1 := HC.out.free 1
      have k2 := HC.out.free 2
      go_simp
      exact hK undef _ (fun h => absurd rfl h) (fun _ => TV.put HC.out f25) (HC.out.put _ _ _) (fun _ => TV.put HC.out f25)
  rintro f w1 hC hd hT
  obtain ⟨x, y, z, ⟨x0, x1, x2⟩, hf⟩ := hT 21 rfl (by decide)
  simp only [Reg.mixL]
  have HC := Lib.hid hC
  clear hC hd hT
  go_wp2
  refine bodyPost_ret (v := vv x y z) (by simp [results, Try.results193, go_sem, x0, x1, x2]) rfl ⟨x, y, z, rfl, hf, HC.out.bel⟩
end Go.Proofs.Ytmbekamnogbgaaa

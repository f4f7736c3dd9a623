/-
Texts in one: what StretchesOf stands on, part 19. Conditions: those of each.
-/
import Derived.Test.YtmbekamnogbgaabKStretchesOf18

/-
The triangles of a mesh as arrays: what the program makes of them. Conditions: each has three places.
-/
namespace Go.Proofs.Ytmbekamnogbgaab
open Go Fk Go.RowKit
set_option linter.unusedVariables false
set_option maxRecDepth 8000

def IsCs (w : World) (b n : Nat) (ts : List (List Int)) : Prop := ∀ k, k < n → w.cell? ⟨b, k * 3, none⟩ = some (.int .i64 ((ts.getD k []).getD 0 0)) ∧ w.cell? ⟨b, k * 3 + 1, none⟩ = some (.int .i64 ((ts.getD k []).getD 1 0)) ∧ w.cell? ⟨b, k * 3 + 2, none⟩ = some (.int .i64 ((ts.getD k []).getD 2 0))
theorem IsCs.below {W w : World} {b n : Nat} {ts : List (List Int)} (hb : Below W.heap.size W w) (h : IsCs W b n ts) : IsCs w b n ts := fun k hk => ⟨cell_below hb (h k hk).1, cell_below hb (h k hk).2.1, cell_below hb (h k hk).2.2⟩
theorem infoC : (Try.prog.info? 99).map (fun i => (i.zero, i.size, i.bytes)) = some (some (.agg #[.int .i64 0, .int .i64 0, .int .i64 0]), 3, 24) := by kernel_rfl
theorem all_corners' (pa ta : Option Addr) (pl pc tl tc : Nat) (ts : List (List Int)) (w : World) (h : IsTs w ta tl tc ts) (h3 : ∀ k, k < tl → (ts.getD k []).length = 3) (hlen : tl ≤ 128) :
    Calls Try.prog 71 #[.agg #[.slice pa pl pc, .slice ta tl tc]] w fun e w' => e = .returned (.slice (some ⟨w.heap.size + 1, 0, none⟩) tl tl) ∧ IsCs w' (w.heap.size + 1) tl ts ∧ Below w.heap.size w w' ∧ w.heap.size + 1 < w'.heap.size ∧ ∀ i, w'.frozen? ⟨w.heap.size + 1, i, none⟩ = false := by
  have ui := Try.underlying32
  have uc := Try.underlying99
  obtain ⟨i0, hi, hz0, hz1, hz2⟩ := info_parts infoC
  have hmk : (Instr.makeSlice 96 (.int .i64 tl) (.int .i64 tl)).run Try.prog (w.alloc (.cells #[.slice pa pl pc, .slice ta tl tc] 32)) = .ok (.slice (some ⟨w.heap.size + 1, 0, none⟩) tl tl) ((w.alloc (.cells #[.slice pa pl pc, .slice ta tl tc] 32)).alloc (.cells (madeCells #[.int .i64 0, .int .i64 0, .int .i64 0] (tl * 3)) 99)) := by
    have := run_make (P := Try.prog) (w.alloc (.cells #[.slice pa pl pc, .slice ta tl tc] 32)) 96 99 i0 (.agg #[.int .i64 0, .int .i64 0, .int .i64 0]) Try.underlying96 hi hz0 .i64 .i64 tl tl (by omega) (Int.le_refl _) (by rw [hz2]; omega) (by omega)
    rw [this, hz1]; simp; rfl
  have hstart : Below w.heap.size w ((w.alloc (.cells #[.slice pa pl pc, .slice ta tl tc] 32)).alloc (.cells (madeCells #[.int .i64 0, .int .i64 0, .int .i64 0] (tl * 3)) 99)) ∧ w.heap.size + 1 < ((w.alloc (.cells #[.slice pa pl pc, .slice ta tl tc] 32)).alloc (.cells (madeCells #[.int .i64 0, .int .i64 0, .int .i64 0] (tl * 3)) 99)).heap.size ∧
      (∀ j, j < tl * 3 → ∃ v, ((w.alloc (.cells #[.slice pa pl pc, .slice ta tl tc] 32)).alloc (.cells (madeCells #[.int .i64 0, .int .i64 0, .int .i64 0] (tl * 3)) 99)).cell? ⟨w.heap.size + 1, j, none⟩ = some v) ∧ (∀ j, ((w.alloc (.cells #[.slice pa pl pc, .slice ta tl tc] 32)).alloc (.cells (madeCells #[.int .i64 0, .int .i64 0, .int .i64 0] (tl * 3)) 99)).frozen? ⟨w.heap.size + 1, j, none⟩ = false) := by
    refine ⟨((Below.refl _ _).alloc (Nat.le_refl _) _).alloc (by simp) _, by simp, fun j hj => ?_, fun j => by simp⟩
    have := made_cell3 (w.alloc (.cells #[.slice pa pl pc, .slice ta tl tc] 32)) #[.int .i64 0, .int .i64 0, .int .i64 0] (tl * 3) j 99 hj
    simpa using this
  have HST := Lib.hid hstart
  clear hstart
  go_enter Try.func71, Try.ntmps71
  go_wp2
  generalize hw0 : (w.alloc (.cells #[.slice pa pl pc, .slice ta tl tc] 32)).alloc (.cells (madeCells #[.int .i64 0, .int .i64 0, .int .i64 0] (tl * 3)) 99) = w0 at HST ⊢
  go_loopw [13] (fun i w' => ∃ k : Nat, k ≤ tl ∧ i = .int .i64 k ∧ Aside ((Below w.heap.size w w' ∧ w.heap.size + 1 < w'.heap.size ∧ (∀ j, j < tl * 3 → ∃ v, w'.cell? ⟨w.heap.size + 1, j, none⟩ = some v) ∧ (∀ j, w'.frozen? ⟨w.heap.size + 1, j, none⟩ = false)) ∧ IsCs w' (w.heap.size + 1) k ts)) (fun i _ => tl - (intOf i).toNat)
  case atStart => exact ⟨0, Nat.zero_le _, rfl, HST.out, fun j hj => absurd hj (by omega)⟩
  case round =>
    obtain ⟨k, hk, rfl, hA⟩ := hrel
    by_cases hlt : k < tl
    · obtain ⟨⟨hB, hgs, hce, hfz⟩, hdone⟩ := hA.out
      have h' := h.below hB
      obtain ⟨bt, ot, rfl, hrow⟩ := h'.some (by omega)
      obtain ⟨r1, n1, q1, cr, ir⟩ := hrow k hlt
      have hn1 : n1 = 3 := ir.1.symm.trans (h3 k hlt)
      subst hn1
      obtain ⟨br, or, rfl, hz⟩ := ir.some (by decide)
      have z0 := hz 0 (by decide)
      have z1 := hz 1 (by decide)
      have z2 := hz 2 (by decide)
      rw [Nat.add_zero] at z0
      have hk0 : (0 : Int) ≤ (k : Int) := by omega
      have hk1 : (k : Int) < (tl : Int) := by omega
      have hf0 := hfz (k * 3)
      have hf1 := hfz (k * 3 + 1)
      have hf2 := hfz (k * 3 + 2)
      obtain ⟨v0, hv0⟩ := hce (k * 3) (by omega)
      obtain ⟨v1, hv1⟩ := hce (k * 3 + 1) (by omega)
      obtain ⟨v2, hv2⟩ := hce (k * 3 + 2) (by omega)
      have HD := Lib.hid hdone
      have HC := Lib.hid hce
      have HF := Lib.hid hfz
      have HB := Lib.hid hB
      generalize hj0 : (ts.getD k []).getD 0 0 = j0 at *
      generalize hj1 : (ts.getD k []).getD 1 0 = j1 at *
      generalize hj2 : (ts.getD k []).getD 2 0 = j2 at *
      have HJ := Lib.hid (And.intro hj0 (And.intro hj1 hj2))
      clear hA hrow h' hdone hce hfz hB h hw0 HST hmk ir hz hj0 hj1 hj2 h3 hi
      go_wp2
      rename_i hKc
      refine hKc _ _ ?_
      go_wp2
      go_roundw
      case rel =>
        obtain ⟨e0, e1, e2, eo⟩ := set3k (u := .int .i64 j0) (v := .int .i64 j1) (t := .int .i64 j2) hv0 hv1 hv2
        refine ⟨k + 1, by omega, by go_num, ⟨⟨((HB.out.setCell (Nat.le_succ _) _).setCell (Nat.le_succ _) _).setCell (Nat.le_succ _) _, by simp <;> omega, fun j hj => ?_, fun j => ?_⟩, fun j hj => ?_⟩⟩
        · by_cases h0 : j = k * 3
          · subst h0; exact ⟨_, e0⟩
          · by_cases h1 : j = k * 3 + 1
            · subst h1; exact ⟨_, e1⟩
            · by_cases h2 : j = k * 3 + 2
              · subst h2; exact ⟨_, e2⟩
              · obtain ⟨v, hv⟩ := HC.out j hj
                exact ⟨v, by rw [eo j h0 h1 h2]; exact hv⟩
        · simp; exact HF.out j
        · by_cases hjk : j = k
          · subst hjk; rw [HJ.out.1, HJ.out.2.1, HJ.out.2.2]; exact ⟨e0, e1, e2⟩
          · obtain ⟨k0, k1, k2⟩ := HD.out j (by omega)
            exact ⟨by rw [eo _ (by omega) (by omega) (by omega)]; exact k0, by rw [eo _ (by omega) (by omega) (by omega)]; exact k1, by rw [eo _ (by omega) (by omega) (by omega)]; exact k2⟩
      case measure => simp [intOf]; omega
    · obtain rfl : k = tl := by omega
      obtain ⟨⟨hB, hgs, hce, hfz⟩, hdone⟩ := hA.out
      have HF := Lib.hid hdone
      have HB := Lib.hid hB
      have HZ := Lib.hid hfz
      clear hA hB hce hfz hdone h h3 hmk hw0 HST
      go_wp2
      go_ret
      exact ⟨rfl, HF.out, HB.out, hgs, HZ.out⟩
theorem all_corners (pa ta : Option Addr) (pl pc tl tc : Nat) (ts : List (List Int)) (w : World) (h : IsTs w ta tl tc ts) (h3 : ∀ k, k < tl → (ts.getD k []).length = 3) (hlen : tl ≤ 128) :
    Calls Try.prog 71 #[.agg #[.slice pa pl pc, .slice ta tl tc]] w fun e w' => e = .returned (.slice (some ⟨w.heap.size + 1, 0, none⟩) tl tl) ∧ IsCs w' (w.heap.size + 1) tl ts ∧ Below w.heap.size w w' ∧ w.heap.size + 1 < w'.heap.size :=
  (all_corners' pa ta pl pc tl tc ts w h h3 hlen).mono fun _ _ ⟨h1, h2, h3, h4, _⟩ => ⟨h1, h2, h3, h4⟩
end Go.Proofs.Ytmbekamnogbgaab


/-
Triangles in the form in which callers get them: what the program makes. Conditions: arrays of three numbers that lie in memory.
-/
namespace Go.Proofs.Ytmbekamnogbgaab
open Go Fk Go.RowKit
set_option linter.unusedVariables false
set_option maxRecDepth 8000

def flatV (ts : List (List Int)) : Nat → List Value
  | 0 => []
  | k + 1 => flatV ts k ++ [.int .i64 ((ts.getD k []).getD 0 0), .int .i64 ((ts.getD k []).getD 1 0), .int .i64 ((ts.getD k []).getD 2 0)]
theorem flatV_len (ts : List (List Int)) (k : Nat) : (flatV ts k).length = k * 3 := by
  induction k with
  | zero => rfl
  | succ k ih => unfold flatV; rw [List.length_append, ih]; simp; omega
theorem owns_below' {w w' : World} {base : Nat} {e : TypeId} {size : Nat} {v : Value} {n : Nat} {xs : List Value} (h : w.ownsRow base e size v n xs) (hB : Below w.heap.size w w') : w'.ownsRow base e size v n xs :=
  h.kept (row := none) ⟨hB.os, hB.tape, hB.output, hB.size, fun k hk _ => hB.block k hk⟩ (by cases v.ownBlock <;> simp)
set_option maxHeartbeats 1000000 in
theorem triangle_lists' (cb tl cc : Nat) (ts : List (List Int)) (w : World) (hc : IsCs w cb tl ts) (hlen : tl ≤ 1000000) :
    Calls Try.prog 120 #[.slice (some ⟨cb, 0, none⟩) tl cc] w fun e w' => ∃ v fb fc, e = .returned v ∧ w.heap.size ≤ fb ∧ w'.ownsRow (fb + 1) 27 1 v tl (rowVs fb tl) ∧ w'.ownsRow w.heap.size 2 1 (.slice (some ⟨fb, 0, none⟩) (tl * 3) fc) (tl * 3) (flatV ts tl) ∧ Below w.heap.size w w' := by
  have uc := Try.underlying99
  obtain ⟨i0, hi, hz0, hz1, hz2⟩ := info_parts info64
  have hmk : (Instr.makeSlice 27 (.int .i64 0) (.int .i64 (3 * (tl : Int)))).run Try.prog w = .ok (.slice (some ⟨w.heap.size, 0, none⟩) 0 (tl * 3)) (w.alloc (.cells (madeCells #[.int .i64 0] (tl * 3)) 2)) := by
    have := run_make (P := Try.prog) w 27 2 i0 (.int .i64 0) Try.underlying27 hi hz0 .i64 .i64 0 (3 * (tl : Int)) (by omega) (by omega) (by rw [hz2]; omega) (by omega)
    rw [this, hz1, show (3 * (tl : Int)).toNat = tl * 3 by omega]; simp; rfl
  have hst : (w.alloc (.cells (madeCells #[.int .i64 0] (tl * 3)) 2)).ownsRow w.heap.size 2 1 (.slice (some ⟨w.heap.size, 0, none⟩) 0 (tl * 3)) 0 [] :=
    World.ownsRow_made (e := 2) (size := 1) w _ (tl * 3) (Nat.le_refl _) (by unfold maxLen; omega) (by unfold madeCells; simp)
  have HST := Lib.hid hst
  have HB0 := Lib.hid ((Below.refl w.heap.size w).alloc (Nat.le_refl _) (.cells (madeCells #[.int .i64 0] (tl * 3)) 2))
  have HC := Lib.hid hc
  clear hst hc
  go_enter Try.func120, Try.ntmps120
  go_wp2
  generalize hCH : w.alloc (.cells (madeCells #[.int .i64 0] (tl * 3)) 2) = W at *
  go_loopw [3, 12] (fun v i w' => ∃ k : Nat, k ≤ tl ∧ i = .int .i64 k ∧ Aside (w'.ownsRow w.heap.size 2 1 v (k * 3) (flatV ts k) ∧ v ≠ .slice none 0 0 ∧ Below w.heap.size w w')) (fun _ i _ => tl - (intOf i).toNat)
  case atStart => exact ⟨0, Nat.zero_le _, rfl, HST.out, by simp, HB0.out⟩
  case round =>
    obtain ⟨k, hk, hik, hA⟩ := hrel
    subst hik
    obtain ⟨hown, hne, hB⟩ := hA.out
    have HB := Lib.hid hB
    have HOWN := Lib.hid hown
    have HNE := Lib.hid hne
    have hbz := Lib.hid hB.size
    clear hmk HST
    by_cases hlt : k < tl
    · have hk0 : (0 : Int) ≤ (k : Int) := by omega
      have hk1 : (k : Int) < (tl : Int) := by omega
      obtain ⟨z0, z1, z2⟩ := (HC.out.below hB) k hlt
      have lb := World.block_lt_of_cell? _ _ z0
      have HFV : Hid (flatV ts (k + 1) = flatV ts k ++ [.int .i64 ((ts.getD k []).getD 0 0), .int .i64 ((ts.getD k []).getD 1 0), .int .i64 ((ts.getD k []).getD 2 0)]) := rfl
      generalize (ts.getD k []).getD 0 0 = j0 at *
      generalize (ts.getD k []).getD 1 0 = j1 at *
      generalize (ts.getD k []).getD 2 0 = j2 at *
      clear hA hB hown hne
      go_wp2_with (at_builtin; refine wpList_append_own _ rfl _ _ 27 rfl w.heap.size 2 i0 (.int .i64 0) 1 8 Try.underlying27 hi hz0 hz1 hz2 rfl (by decide) _ _ _ rfl (HOWN.out.alloc _) ⟨wr.heap.size, 0, none⟩ 3 3 [.int .i64 j0, .int .i64 j1, .int .i64 j2] rfl rfl ?c1 ?c2 ?c3 ?c4 ?c5 ?_)
      case c2 => first | exact ⟨rfl, rfl, rfl⟩ | (intro u hu; simp at hu; rcases hu with rfl | rfl | rfl <;> rfl)
      case c3 => unfold maxLen; omega
      case c4 => omega
      case c5 => have := hbz.out; simp; omega
      · intro v' w1 hown' hgrow hnil
        have hB1 : Below w.heap.size w (wr.alloc (.cells #[.int .i64 j0, .int .i64 j1, .int .i64 j2] 99)) := HB.out.alloc hbz.out _
        have HB1 := Lib.hid (hB1.grown hgrow hB1.size (fun k hk => (HOWN.out.lt k hk).1))
        have HO1 := Lib.hid hown'
        have HN1 := Lib.hid (show v' ≠ .slice none 0 0 from fun h => by first | exact hnil h | exact HNE.out (hnil.1 h).1)
        clear hown' hgrow hB1 hnil
        go_wp2
        go_roundw
        case rel => exact ⟨k + 1, by omega, by go_num, by rw [HFV.out, show (k + 1) * 3 = k * 3 + 3 by omega]; exact HO1.out, HN1.out, HB1.out⟩
        case measure => simp [intOf]; omega
    · obtain rfl : k = tl := by omega
      obtain ⟨fb, fc, hv, hfb, hfc⟩ : ∃ fb fc, _ = Value.slice (some ⟨fb, 0, none⟩) (k * 3) fc ∧ w.heap.size ≤ fb ∧ k * 3 ≤ fc := by
        obtain ⟨_, h2⟩ := hown
        rcases h2 with ⟨h2, _⟩ | ⟨g, cap, cur, h3, h4, _, h5, _⟩
        · exact absurd h2 hne
        · exact ⟨g, cap, h3, h4, h5⟩
      subst hv
      have hlt := HOWN.out.lt fb rfl
      clear hA hB hown hne
      go_wp2_with (go_at_call 106; refine (rows_of fb k fc wr (by omega) hfc).mono ?_; rintro e w2 ⟨v, rfl, hr, hb2⟩; have HR := Lib.hid hr; have HB2 := Lib.hid hb2; clear hr hb2)
      go_ret
      exact ⟨v, fb, fc, rfl, hfb, (by
        obtain ⟨h1, h2⟩ := HR.out
        refine ⟨h1, h2.imp id ?_⟩
        rintro ⟨g, cap, cur, h3, h4, h5⟩
        exact ⟨g, cap, cur, h3, by omega, h5⟩), owns_below' HOWN.out HB2.out, HB.out.trans (HB2.out.mono hbz.out)⟩
theorem triangle_lists (cb tl : Nat) (ts : List (List Int)) (w : World) (hc : IsCs w cb tl ts) (hlen : tl ≤ 1000000) :
    Calls Try.prog 120 #[.slice (some ⟨cb, 0, none⟩) tl tl] w fun e w' => ∃ v fb fc, e = .returned v ∧ w.heap.size ≤ fb ∧ w'.ownsRow (fb + 1) 27 1 v tl (rowVs fb tl) ∧ w'.ownsRow w.heap.size 2 1 (.slice (some ⟨fb, 0, none⟩) (tl * 3) fc) (tl * 3) (flatV ts tl) ∧ Below w.heap.size w w' := triangle_lists' cb tl tl ts w hc hlen
end Go.Proofs.Ytmbekamnogbgaab


/-
Meshes that the program makes: rows in one list, and where all lies. Conditions: none.
-/
namespace Go.Proofs.Ytmbekamnogbgaab
open Go Fk Go.RowKit
set_option linter.unusedVariables false
set_option maxRecDepth 8000
theorem flatV_get (ts : List (List Int)) (k j i : Nat) (hj : j < k) (hi : i < 3) : (flatV ts k)[j * 3 + i]? = some (.int .i64 ((ts.getD j []).getD i 0)) := by
  induction k with
  | zero => omega
  | succ k ih =>
    unfold flatV
    by_cases h : j < k
    · rw [List.getElem?_append_left (by rw [flatV_len]; omega)]
      exact ih h
    · obtain rfl : j = k := by omega
      rw [List.getElem?_append_right (by rw [flatV_len]; omega), flatV_len]
      have : i = 0 ∨ i = 1 ∨ i = 2 := by omega
      rcases this with rfl | rfl | rfl
      · rw [show j * 3 + 0 - j * 3 = 0 by omega]; rfl
      · rw [show j * 3 + 1 - j * 3 = 1 by omega]; rfl
      · rw [show j * 3 + 2 - j * 3 = 2 by omega]; rfl
theorem rows_mesh {w : World} {lo fb fc tl : Nat} {v : Value} {ts : List (List Int)} (hv : w.ownsRow (fb + 1) 27 1 v tl (rowVs fb tl)) (hf : w.ownsRow lo 2 1 (.slice (some ⟨fb, 0, none⟩) (tl * 3) fc) (tl * 3) (flatV ts tl)) (hn : ts.length = tl) (h3 : ∀ j, j < tl → (ts.getD j []).length = 3) (hz : ∀ j, j < tl → ∀ z ∈ ts.getD j [], (Lit.int .i64 z).wf = true) :
    ∃ a c, v = .slice a tl c ∧ IsTs w a tl c ts ∧ Flat lo w.heap.size w a tl fb := by
  have hv' := hv
  obtain ⟨f1, f2⟩ := hf.lt fb rfl
  rcases hv.2 with ⟨rfl, hn0⟩ | ⟨g, cap, cur, rfl, hb, hh, hc1, hc2, hs, ht⟩
  · exact ⟨none, 0, by rw [hn0], ⟨hn, by omega, by unfold maxLen; omega, fun _ => ⟨hn0, rfl⟩, fun x hx => (by cases hx)⟩, .inl ⟨rfl, hn0⟩⟩
  · obtain ⟨g1, g2⟩ := hv'.lt g rfl
    have hrow : ∀ j, j < tl → w.cell? ⟨g, j, none⟩ = some (.slice (some ⟨fb, j * 3, none⟩) 3 3) := fun j hj => by
      rw [hv'.cellAt j (by omega)]; unfold rowVs; simp [hj]
    refine ⟨_, cap, rfl, ⟨hn, hc1, hc2, by simp, fun x hx i hi => ?_⟩, .inr ⟨g, rfl, by omega, g2, g2, by omega, fun j hj => ⟨3, hrow j hj⟩, f1, f2, f2, fun j hj => ?_⟩⟩
    · cases hx
      refine ⟨_, _, _, by rw [addr_add', Nat.zero_add]; exact hrow i hi, h3 i hi, Nat.le_refl _, by unfold maxLen; omega, hz i hi, by simp, fun y hy q hq => ?_⟩
      cases hy
      rw [addr_add', hf.cellAt _ (by omega), flatV_get ts tl i q hi hq]
    · refine ⟨⟨.int .i64 ((ts.getD (j / 3) []).getD (j % 3) 0), ?_⟩, by rw [Nat.zero_add]; exact hf.frozenAt j⟩
      rw [Nat.zero_add, hf.cellAt _ (by omega)]
      have := flatV_get ts tl (j / 3) (j % 3) (by omega) (by omega)
      rwa [show j / 3 * 3 + j % 3 = j by omega] at this
theorem PVf.more {n k : Nat} {xs : List Value} {F : Nat → C3} (h : PVf k xs F) (hl : xs.length = n * 3) (hk : k < n) {p q r : Nat} (hf : FV .f32 p (F k).1 ∧ FV .f32 q (F k).2.1 ∧ FV .f32 r (F k).2.2) :
    PVf (k + 1) (((xs.set (k * 3) (.float .f32 p)).set (k * 3 + 1) (.float .f32 q)).set (k * 3 + 2) (.float .f32 r)) F := fun j hj => by
  by_cases hjk : j = k
  · subst hjk
    refine ⟨p, q, r, ?_, ?_, ?_, hf⟩
    · rw [List.getElem?_set_ne (by omega), List.getElem?_set_ne (by omega), List.getElem?_set_self (by omega)]
    · rw [List.getElem?_set_ne (by omega), List.getElem?_set_self (by simp; omega)]
    · rw [List.getElem?_set_self (by simp; omega)]
  · obtain ⟨p', q', r', h1, h2, h3, h4⟩ := h j (by omega)
    refine ⟨p', q', r', ?_, ?_, ?_, h4⟩
    · rw [List.getElem?_set_ne (by omega), List.getElem?_set_ne (by omega), List.getElem?_set_ne (by omega)]; exact h1
    · rw [List.getElem?_set_ne (by omega), List.getElem?_set_ne (by omega), List.getElem?_set_ne (by omega)]; exact h2
    · rw [List.getElem?_set_ne (by omega), List.getElem?_set_ne (by omega), List.getElem?_set_ne (by omega)]; exact h3
/-- The answer of a function of the program that makes a mesh, or none. -/
def MadeG (w w' : World) (e : Ending) (ok : Bool) (cs : List C3) (ts : List (List Int)) : Prop :=
  (∃ a c a' c' F, e = .returned (.tuple #[.agg #[.slice a cs.length c, .slice a' ts.length c'], .bool ok]) ∧ IsVs w' a cs.length c cs ∧ IsTs w' a' ts.length c' ts ∧ GM w.heap.size w'.heap.size w' a a' cs.length ts.length F) ∧ Below w.heap.size w w'
theorem madeG_none {w w' : World} {ok : Bool} (hB : Below w.heap.size w w') : MadeG w w' (.returned (.tuple #[.agg #[.slice none 0 0, .slice none 0 0], .bool ok])) ok [] [] :=
  ⟨⟨none, 0, none, 0, 0, rfl, ⟨rfl, Nat.le_refl _, by unfold maxLen; omega, fun _ => ⟨rfl, rfl⟩, fun x hx => (by cases hx)⟩, ⟨rfl, Nat.le_refl _, by unfold maxLen; omega, fun _ => ⟨rfl, rfl⟩, fun x hx => (by cases hx)⟩, .inl ⟨rfl, rfl⟩, .inl ⟨rfl, rfl⟩, fun x hx => (by cases hx)⟩, hB⟩
theorem lst_of_owns {w : World} {base n c : Nat} {e : TypeId} {a : Option Addr} {xs : List Value} (h : w.ownsRow base e 3 (.slice a n c) n xs) : Lst base w.heap.size w a (n * 3) := by
  have h' := h
  rcases h.2 with ⟨e, e0⟩ | ⟨g, cap, cur, e, hb, hh, hc1, hc2, hs, ht⟩
  · cases e; exact .inl ⟨rfl, by omega⟩
  · obtain ⟨g1, g2⟩ := h'.lt g (by rw [e]; rfl)
    cases e
    refine .inr ⟨g, rfl, g1, g2, g2, fun j hj => ⟨?_, by rw [Nat.zero_add]; exact h'.frozenAt j⟩⟩
    rw [Nat.zero_add, h'.cellAt j hj]
    have : j < xs.length := by rw [h'.1]; exact hj
    exact ⟨_, List.getElem?_eq_getElem this⟩
theorem gm_of {w : World} {base b2 pl tl c fb : Nat} {a a' : Option Addr} {xs : List Value} (h : w.ownsRow b2 62 3 (.slice a pl c) pl xs) (hb : base ≤ b2) (hF : Flat b2 w.heap.size w a' tl fb) (h1 : ∀ P, a = some P → P.block ≠ fb ∧ ∀ R, a' = some R → P.block ≠ R.block) : GM base w.heap.size w a a' pl tl fb :=
  ⟨lst_of_owns (owns_low h hb), hF.imp id fun ⟨R, e, k1, k2, k3, k4, k5, k6⟩ => ⟨R, e, by omega, k2, k3, k4, k5, by have := k6.1; omega, k6.2⟩, h1⟩
end Go.Proofs.Ytmbekamnogbgaab

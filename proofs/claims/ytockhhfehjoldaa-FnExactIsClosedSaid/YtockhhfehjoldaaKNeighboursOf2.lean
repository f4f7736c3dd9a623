/-
Texts in one: what NeighboursOf stands on, part 2. Conditions: those of each.
-/
import Derived.Test.YtockhhfehjoldaaKNeighboursOf1

/-
The neighbours of a place: what the model returns. Conditions: none beyond that the mesh lies in memory.
-/
namespace Go.Proofs.Ytockhhfehjoldaa
open Go Fk Go.RowKit
set_option linter.unusedVariables false
set_option maxRecDepth 16000

/-- What is answered: the neighbours of a place, if the mesh is valid and has it. -/
def nbO (cs : List C3) (ts : List (List Int)) (i : Int) : List Int := bif ofB cs ts i then nearL ts i ts.length else []
theorem putL_wf {L : List Int} {x : Int} (hL : ∀ z ∈ L, (Lit.int .i64 z).wf = true) (hx : (Lit.int .i64 x).wf = true) : ∀ z ∈ putL L x, (Lit.int .i64 z).wf = true := fun z hz => by
  rcases mem_putL.1 hz with h | rfl
  · exact hL z h
  · exact hx
set_option maxHeartbeats 4000000 in
theorem l02Near (pb : Nat) (pl pc tl tc : Nat) (pa ta : Option Addr) (ts : List (List Int)) (p : Int) (w : World) (c0' : w.cell? ⟨pb, 0, none⟩ = some (.slice pa pl pc)) (c1' : w.cell? ⟨pb, 1, none⟩ = some (.slice ta tl tc)) (ht : IsTs w ta tl tc ts) (h3 : ∀ k, k < tl → (ts.getD k []).length = 3) (hin : ∀ k, k < tl → ∀ i, i < 3 → 0 ≤ (ts.getD k []).getD i 0 ∧ ((ts.getD k []).getD i 0).toNat < 64) (hlen : tl ≤ 128) :
    Calls Try.prog 51 #[.pointer (some ⟨pb, 0, none⟩), .int .i64 p] w fun e w' => ∃ v, e = .returned v ∧ w'.ownsRow w.heap.size 2 1 v (nearL ts p tl).length ((nearL ts p tl).map (Value.int .i64)) ∧ Below w.heap.size w w' := by
  have ui := Try.underlying31
  have C1 := Lib.hid c1'
  have C0 := Lib.hid c0'
  have HT := Lib.hid ht
  have H3 := Lib.hid h3
  have HIN := Lib.hid hin
  clear ht h3 c0' c1' hin
  have hJP := fun (a : Option Addr) (n cap : Nat) (L : List Int) (x : Int) (w : World) (h : IsIs w a n cap L) (hn : n ≤ 1000000) => l00Put a n cap L x w h hn
  have HJP := Lib.hid hJP
  have hJH := fun (r : Option Addr) (q : Nat) (t : List Int) p w' (h : IsIs w' r 3 q t) => l02Has r q t p w' h
  have HJH := Lib.hid hJH
  clear hJP hJH
  go_enter Try.func51, Try.ntmps51
  go_wp2
  go_loopw [5, 6] (fun v i w' => ∃ k : Nat, k ≤ tl ∧ i = .int .i64 k ∧ Aside (w'.ownsRow w.heap.size 2 1 v (nearL ts p k).length ((nearL ts p k).map (Value.int .i64)) ∧ (∀ z ∈ nearL ts p k, (Lit.int .i64 z).wf = true) ∧ Below w.heap.size w w')) (fun _ i _ => tl - (intOf i).toNat)
  case atStart => exact ⟨0, Nat.zero_le _, rfl, by simpa [nearL] using World.ownsRow_lit (e := 2) (size := 1) w #[] 0 (Nat.le_refl _) (by decide) rfl, fun z hz => by simp [nearL] at hz, (Below.refl _ _).alloc (Nat.le_refl _) _⟩
  case round =>
    obtain ⟨k, hk, rfl, hA⟩ := hrel
    obtain ⟨hown, hwf, hB⟩ := hA.out
    have kb0 := cell_below hB C0.out
    have kb1 := cell_below hB C1.out
    have HB := Lib.hid hB
    have HOWN := Lib.hid hown
    have HWF := Lib.hid hwf
    by_cases hlt : k < tl
    · have h' := HT.out.below hB
      obtain ⟨bt, ot, rfl, hrow⟩ := h'.some (by omega)
      obtain ⟨r1, n1, q1, cr, ir⟩ := hrow k hlt
      have hn1 : n1 = 3 := ir.1.symm.trans (H3.out k hlt)
      subst hn1
      have hk0 : (0 : Int) ≤ (k : Int) := by omega
      have hk1 : (k : Int) < (tl : Int) := by omega
      have HIR := Lib.hid ir
      have HNS := Lib.hid (nearL_s ts p k)
      have HI := HIN.out k hlt
      have HINk := Lib.hid HI
      have hbz := Lib.hid hB.size
      have hln := nearL_len ts p k
      have HLN := Lib.hid hln
      clear hA hB hown hrow h' ir hwf HI hln
      have e3 := HIR.out.1
      generalize ts.getD k [] = t at *
      clear e3
      cases hp : hasB t p
      · have hn : nearL ts p (k + 1) = nearL ts p k := by rw [HNS.out, hp]; rfl
        have HN := Lib.hid hn
        clear hn
        go_wp2_with (go_at_call 69; refine (HJH.out _ _ _ _ _ HIR.out).mono ?_; rintro e w1 ⟨rfl, hw1⟩; rw [hw1]; rw [hp])
        go_roundw
        case rel => exact ⟨k + 1, by omega, by go_num, by rw [HN.out]; exact HOWN.out, by rw [HN.out]; exact HWF.out, HB.out⟩
        case measure => simp [intOf]; omega
      · have hn : nearL ts p (k + 1) = putsT (nearL ts p k) t p 3 := by rw [HNS.out, hp]; rfl
        have HN := Lib.hid hn
        clear hn
        go_wp2_with (go_at_call 69; refine (HJH.out _ _ _ _ _ HIR.out).mono ?_; rintro e w1 ⟨rfl, hw1⟩; rw [hw1]; rw [hp])
        generalize hL0 : nearL ts p k = L0 at *
        have HL0 := Lib.hid hL0
        clear hL0
        go_loopw [5, 8] (fun v i w' => ∃ j : Nat, j ≤ 3 ∧ i = .int .i64 j ∧ Aside (w'.ownsRow w.heap.size 2 1 v (putsT L0 t p j).length ((putsT L0 t p j).map (Value.int .i64)) ∧ (∀ z ∈ putsT L0 t p j, (Lit.int .i64 z).wf = true) ∧ Below w.heap.size w w' ∧ IsIs w' r1 3 q1 t ∧ w'.cell? ⟨pb, 0, none⟩ = some (.slice pa pl pc) ∧ w'.cell? ⟨pb, 1, none⟩ = some (.slice (some ⟨bt, ot, none⟩) tl tc))) (fun _ i _ => 3 - (intOf i).toNat)
        case atStart => exact ⟨0, by omega, rfl, HOWN.out, HWF.out, HB.out, HIR.out, kb0, kb1⟩
        case round =>
          obtain ⟨j, hj, rfl, hA⟩ := hrel
          obtain ⟨hown, hwf, hB, hir, hc0, hc1⟩ := hA.out
          have HB1 := Lib.hid hB
          have HO1 := Lib.hid hown
          have HWF1 := Lib.hid hwf
          have HIR1 := Lib.hid hir
          have HC := Lib.hid (And.intro hc0 hc1)
          by_cases hlj : j < 3
          · obtain ⟨br, orr, rfl, hcell⟩ := hir.some (by decide)
            have z0 := hcell j hlj
            obtain ⟨x0, x1⟩ := HINk.out j hlj
            have j0 : (0 : Int) ≤ (j : Int) := by omega
            have j1 : (j : Int) < (3 : Int) := by omega
            have HPS := Lib.hid (putsT_s L0 t p j)
            have hpl := putsT_len L0 t p j
            clear hA hown hwf hB hir hc0 hc1 hcell
            generalize t.getD j 0 = x at *
            have wx : (Lit.int .i64 x).wf = true := WalkArith.wf_i64 (by omega)
            have WX := Lib.hid wx
            clear wx
            by_cases hxp : x = p
            · have hne : (x != p) = false := by simp [hxp]
              have hn : putsT L0 t p (j + 1) = putsT L0 t p j := by rw [HPS.out, decide_eq_true hxp]; rfl
              have HNj := Lib.hid hn
              subst hxp
              clear hn
              go_wp2
              go_roundw
              case rel => exact ⟨j + 1, by omega, by go_num, by rw [HNj.out]; exact HO1.out, by rw [HNj.out]; exact HWF1.out, HB1.out, HIR1.out, HC.out.1, HC.out.2⟩
              case measure => simp [intOf]; omega
            · have hne : (x != p) = true := by simp [hxp]
              have hn : putsT L0 t p (j + 1) = putL (putsT L0 t p j) x := by rw [HPS.out, decide_eq_false hxp]; rfl
              have HNj := Lib.hid hn
              clear hn
              obtain ⟨va, vc, hva, hvi⟩ := owns_list HO1.out HWF1.out
              subst hva
              have HVI := Lib.hid hvi
              clear hvi
              go_wp2_with fail
              refine (HJP.out _ _ _ _ _ _ HVI.out.1 (by have := HLN.out; omega)).mono ?_
              rintro e w2 ⟨v2, rfl, ho2, hB2⟩
              have HO2 := Lib.hid (owns_mono ho2 HB1.out.size)
              have HB2 := Lib.hid (HB1.out.trans (hB2.mono HB1.out.size))
              have HIR2 := Lib.hid (HIR1.out.below hB2)
              have HC2 := Lib.hid (And.intro (cell_below hB2 HC.out.1) (cell_below hB2 HC.out.2))
              have HW2 := Lib.hid (putL_wf HWF1.out WX.out)
              clear ho2 hB2
              go_wp2
              go_roundw
              case rel => exact ⟨j + 1, by omega, by go_num, by rw [HNj.out]; exact HO2.out, by rw [HNj.out]; exact HW2.out, HB2.out, HIR2.out, HC2.out.1, HC2.out.2⟩
              case measure => simp [intOf]; omega
          · obtain rfl : j = 3 := by omega
            clear hA hown hwf hB hir
            go_wp2
            go_roundw
            case rel => exact ⟨k + 1, by omega, by go_num, by rw [HN.out]; exact HO1.out, by rw [HN.out]; exact HWF1.out, HB1.out⟩
            case measure => simp [intOf]; omega
    · obtain rfl : k = tl := by omega
      clear hA hB hown hwf
      go_wp2
      go_ret
      exact ⟨_, rfl, HOWN.out, HB.out⟩
end Go.Proofs.Ytockhhfehjoldaa


/-
The triangles that have two places: what the model gathers, in a list of its own. Conditions: each triangle has three places.
-/
import Derived.Test.YtejgenjafajpnabAtA
namespace Go.Proofs.Ytejgenjafajpnab
open Go Fk Go.RowKit
set_option linter.unusedVariables false
set_option maxRecDepth 8000

theorem atL_yes {ts : List (List Int)} {p q : Int} {k : Nat} (h1 : hasB (ts.getD k []) p = true) (h2 : hasB (ts.getD k []) q = true) : atL ts p q (k + 1) = atL ts p q k ++ [(k : Int)] := by
  show atL ts p q k ++ _ = _; rw [h1, h2]; rfl
theorem atL_no {ts : List (List Int)} {p q : Int} {k : Nat} (h : (hasB (ts.getD k []) p && hasB (ts.getD k []) q) = false) : atL ts p q (k + 1) = atL ts p q k := by
  show atL ts p q k ++ _ = _; rw [h]; simp
theorem grown_below {W w w' : World} {base : Nat} {e : TypeId} {size : Nat} {v : Value} {n : Nat} {xs : List Value} (hB : Below W.heap.size W w) (hown : w.ownsRow W.heap.size e size v n xs) (hg : w.grownBy w' v.ownBlock) : Below W.heap.size W w' :=
  hB.grown hg hB.size (fun k hk => (hown.lt k hk).1)
set_option maxHeartbeats 1000000 in
theorem l02At (pb : Nat) (pl pc tl tc : Nat) (pa ta : Option Addr) (ts : List (List Int)) (p q : Int) (w : World) (c0' : w.cell? ⟨pb, 0, none⟩ = some (.slice pa pl pc)) (c1' : w.cell? ⟨pb, 1, none⟩ = some (.slice ta tl tc)) (ht : IsTs w ta tl tc ts) (h3 : ∀ k, k < tl → (ts.getD k []).length = 3) (hlen : tl ≤ 128) :
    Calls Try.prog 77 #[.pointer (some ⟨pb, 0, none⟩), .int .i64 p, .int .i64 q] w fun e w' => ∃ v, e = .returned v ∧ w'.ownsRow w.heap.size 2 1 v (atL ts p q tl).length ((atL ts p q tl).map (Value.int .i64)) ∧ Below w.heap.size w w' := by
  have ui := Try.underlying30
  obtain ⟨i0, hi, hz0, hz1, hz2⟩ := info_parts info64
  have C1 := Lib.hid c1'
  have C0 := Lib.hid c0'
  have HT := Lib.hid ht
  have H3 := Lib.hid h3
  clear ht h3 c0' c1'
  go_enter Try.func77, Try.ntmps77
  go_wp2
  go_loopw [7, 8] (fun v i w' => ∃ k : Nat, k ≤ tl ∧ i = .int .i64 k ∧ Aside (w'.ownsRow w.heap.size 2 1 v (atL ts p q k).length ((atL ts p q k).map (Value.int .i64)) ∧ Below w.heap.size w w')) (fun _ i _ => tl - (intOf i).toNat)
  case atStart => exact ⟨0, Nat.zero_le _, rfl, by simpa [atL] using World.ownsRow_lit (e := 2) (size := 1) w #[] 0 (Nat.le_refl _) (by decide) rfl, (Below.refl _ _).alloc (Nat.le_refl _) _⟩
  case round =>
    skip
    obtain ⟨k, hk, hik, hA⟩ := hrel
    subst hik
    obtain ⟨hown, hB⟩ := hA.out
    have kb1 := cell_below hB C1.out
    have HB := Lib.hid hB
    have HOWN := Lib.hid hown
    by_cases hlt : k < tl
    · have h' := HT.out.below hB
      obtain ⟨bt, ot, rfl, hrow⟩ := h'.some (by omega)
      obtain ⟨r1, n1, q1, cr, ir⟩ := hrow k hlt
      have hn1 : n1 = 3 := ir.1.symm.trans (H3.out k hlt)
      subst hn1
      have hk0 : (0 : Int) ≤ (k : Int) := by omega
      have hk1 : (k : Int) < (tl : Int) := by omega
      have hal := atL_len ts p q k
      have HIR := Lib.hid ir
      have hJ := fun p w' (h : IsIs w' r1 3 q1 (ts.getD k [])) => l02Has r1 q1 (ts.getD k []) p w' h
      have HL := Lib.hid (@atL_yes ts p q k)
      have HLn := Lib.hid (@atL_no ts p q k)
      have hbz := Lib.hid hB.size
      clear hA hB hown hrow h' ir
      cases hp : hasB (ts.getD k []) p
      · have hn := HLn.out (by rw [hp]; rfl)
        have HN := Lib.hid hn
        clear hn
        go_wp2_with (go_at_call 109; refine (hJ _ _ HIR.out).mono ?_; rintro e w1 ⟨rfl, hw1⟩; rw [hw1]; rw [hp])
        go_roundw
        case rel => exact ⟨k + 1, by omega, by go_num, by rw [HN.out]; exact HOWN.out, HB.out⟩
        case measure => simp [intOf]; omega
      · cases hq : hasB (ts.getD k []) q
        · have hn := HLn.out (by rw [hp, hq]; rfl)
          have HN := Lib.hid hn
          clear hn
          go_wp2_with (go_at_call 109; refine (hJ _ _ HIR.out).mono ?_; rintro e w1 ⟨rfl, hw1⟩; rw [hw1]; first | rw [hp] | rw [hq])
          go_roundw
          case rel => exact ⟨k + 1, by omega, by go_num, by rw [HN.out]; exact HOWN.out, HB.out⟩
          case measure => simp [intOf]; omega
        · have hn := HL.out hp hq
          have HN := Lib.hid hn
          clear hn
          go_wp2_with (first
            | (go_at_call 109; refine (hJ _ _ HIR.out).mono ?_; rintro e w1 ⟨rfl, hw1⟩; rw [hw1]; first | rw [hp] | rw [hq])
            | (at_builtin; refine wpList_append_own _ rfl _ _ 43 rfl w.heap.size 2 i0 (.int .i64 0) 1 8 Try.underlying43 hi hz0 hz1 hz2 rfl (by decide) _ _ _ rfl (HOWN.out.alloc _) ⟨wr.heap.size, 0, none⟩ 1 1 [.int .i64 (k : Int)] rfl rfl ?c1 ?c2 ?c3 ?c4 ?c5 ?_))
          case c1 =>
            intro j u hj
            match j, hj with
            | 0, hj => simp at hj; subst hj; simp [Addr.add]
          case c2 => intro u hu; simp at hu; subst hu; rfl
          case c3 => unfold maxLen; omega
          case c4 => omega
          case c5 => have := hbz.out; simp; omega
          · intro v' w1 hown' hgrow _
            have hB1 : Below w.heap.size w (wr.alloc (.cells #[.int .i64 (k : Int)] 2)) := HB.out.alloc hbz.out _
            have HB1 := Lib.hid (hB1.grown hgrow hB1.size (fun k hk => (HOWN.out.lt k hk).1))
            have HO1 := Lib.hid hown'
            clear hown' hgrow hB1
            go_wp2
            go_roundw
            case rel => exact ⟨k + 1, by omega, by go_num, by rw [HN.out]; simpa using HO1.out, HB1.out⟩
            case measure => simp [intOf]; omega
    · obtain rfl : k = tl := by omega
      clear hA hB hown
      go_wp2
      go_ret
      exact ⟨_, rfl, HOWN.out, HB.out⟩
end Go.Proofs.Ytejgenjafajpnab

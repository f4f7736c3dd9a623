
/-
The places that are not held: the program. Conditions: both lists lie in memory.
-/
import Derived.Test.YtajglpkeojaelaaFpA
namespace Go.Proofs.Ytajglpkeojaelaa
open Go Fk Go.RowKit
set_option linter.unusedVariables false
set_option maxRecDepth 16000

theorem infoB : (Try.prog.info? 4).map (fun i => (i.zero, i.size, i.bytes)) = some (some (.bool false), 1, 1) := by kernel_rfl
theorem hasL_put (L : List Int) (p z : Int) : hasL (L ++ [p]) z = (hasL L z || decide (p = z)) := by
  unfold hasL; simp
/-- The marks of the first places. -/
def Bs (hs : List HC) (n k : Nat) (w : World) (g : Nat) : Prop := (g < w.heap.size ∧ ∀ j, w.frozen? ⟨g, j, none⟩ = false) ∧ ∀ j, j < n → w.cell? ⟨g, j, none⟩ = some (.bool (hasL (hpL hs k) (j : Int)))
theorem Bs.below {hs : List HC} {n k g : Nat} {W w : World} (hb : Below W.heap.size W w) (h : Bs hs n k W g) : Bs hs n k w g :=
  ⟨⟨Nat.lt_of_lt_of_le h.1.1 hb.size, fun j => by rw [hb.frozen (p := ⟨g, j, none⟩) h.1.1]; exact h.1.2 j⟩, fun j hj => cell_below hb (h.2 j hj)⟩
theorem Bs.put {hs : List HC} {n k g P : Nat} {w : World} (h : Bs hs n k w g) (hP : P < n) (e : (hs.getD k hd0).1 = (P : Int)) : Bs hs n (k + 1) (w.setCell ⟨g, P, none⟩ (.bool true)) g := by
  refine ⟨⟨by simpa using h.1.1, fun j => by simpa using h.1.2 j⟩, fun j hj => ?_⟩
  have hN : hpL hs (k + 1) = hpL hs k ++ [(P : Int)] := by rw [← e]; rfl
  rw [hN, hasL_put]
  by_cases hjp : j = P
  · subst hjp
    rw [World.cell?_setCell_same _ _ _ (h.2 j hj)]; simp
  · rw [World.cell?_setCell_other _ _ _ _ (by simp <;> omega), h.2 j hj]
    have : decide ((P : Int) = (j : Int)) = false := decide_eq_false (by omega)
    rw [this, Bool.or_false]
set_option maxHeartbeats 4000000 in
theorem impl_FreePlaces (pa ta ha : Option Addr) (pl pc tl tc hl hc : Nat) (cs : List C3) (ts : List (List Int)) (hs : List HC) (w : World) (hp : IsVs w pa pl pc cs) (ht : IsTs w ta tl tc ts) (hh : IsHs w ha hl hc hs) (hb : hl ≤ 1048576 ∧ pl ≤ 1048576) :
    Calls Try.prog 50 #[.agg #[.slice pa pl pc, .slice ta tl tc], .slice ha hl hc] w fun e w' => ∃ v, e = .returned (.tuple #[v, .bool (areB cs ts hs)]) ∧ w'.ownsRow w.heap.size 2 1 v (frO cs ts hs).length ((frO cs ts hs).map (Value.int .i64)) ∧ Below w.heap.size w w' := by
  have ui := Try.underlying38
  have uh := Try.underlying119
  have ub := Try.underlying4
  obtain ⟨i0, hi, hz0, hz1, hz2⟩ := info_parts info64
  obtain ⟨j0, hj, hy0, hy1, hy2⟩ := info_parts infoB
  obtain ⟨hb1, hb2⟩ := hb
  have hll := hh.1
  have hpl := hp.1
  have BX : Hid (Bx w [(w.heap.size, [.slice pa pl pc, .slice ta tl tc])] (w.alloc (.cells #[.slice pa pl pc, .slice ta tl tc] 38))) := Lib.hid ((Bx.nil w).box (vs := [.slice pa pl pc, .slice ta tl tc]) (t := 38))
  have J := Lib.hid (impl_AreHolds pa ta ha pl pc tl tc hl hc cs ts hs _ (hp.below BX.out.bel) (ht.below BX.out.bel) (hh.below BX.out.bel) hb1)
  have HH := Lib.hid hh
  have a0 := (BX.out.mem (.head _)) 0 _ rfl
  have a1 := (BX.out.mem (.head _)) 1 _ rfl
  have HG : Hid (areB cs ts hs = true → ∀ k, k < hl → stepB pl hs k = true) := Lib.hid (fun h k hk => by
    unfold areB at h
    simp only [Bool.and_eq_true] at h
    rw [hpl] at h
    exact good_at h.2 (by omega))
  unfold frO
  rw [hll, hpl]
  clear hp ht hh
  cases hv : areB cs ts hs
  · rw [hv] at J
    clear hv HG
    go_enter Try.func50, Try.ntmps50
    go_wp2_with fail
    refine J.out.mono ?_
    rintro e w1 ⟨rfl, hB1⟩
    have BX1 := Lib.hid (BX.out.call hB1)
    clear hB1 a0 a1
    go_wp2
    go_ret2
    exact ⟨_, rfl, World.ownsRow_nil _ _ _ _, BX1.out.bel⟩
  · rw [hv] at J
    have HG := Lib.hid (HG.out hv)
    clear hv
    show Calls _ _ _ _ (fun e w' => ∃ v, e = .returned (.tuple #[v, .bool true]) ∧ w'.ownsRow w.heap.size 2 1 v (frL (hpL hs hl) pl).length ((frL (hpL hs hl) pl).map (Value.int .i64)) ∧ Below w.heap.size w w')
    obtain ⟨L, hL⟩ : ∃ L, hpL hs hl = L := ⟨_, rfl⟩
    rw [hL]
    have HL := Lib.hid hL
    clear hL
    go_enter Try.func50, Try.ntmps50
    go_wp2_with fail
    refine J.out.mono ?_
    rintro e w1 ⟨rfl, hB1⟩
    have BX1 := Lib.hid (BX.out.call hB1)
    clear hB1 J a0 a1
    have m0 := (BX1.out.mem (.head _)) 0 _ rfl
    have hmk : (Instr.makeSlice 134 (.int .i64 pl) (.int .i64 pl)).run Try.prog w1 = .ok (.slice (some ⟨w1.heap.size, 0, none⟩) pl pl) (w1.alloc (.cells (madeCells #[.bool false] pl) 4)) := by
      have := run_make (P := Try.prog) w1 134 4 j0 (.bool false) Try.underlying134 hj hy0 .i64 .i64 pl pl (by omega) (Int.le_refl _) (by rw [hy2]; omega) (by omega)
      rw [this, hy1]; simp; rfl
    have hST : Bs hs pl 0 (w1.alloc (.cells (madeCells #[.bool false] pl) 4)) w1.heap.size := by
      refine ⟨⟨by simp, fun j => by simp⟩, fun j hj => ?_⟩
      have hm : (madeCells #[.bool false] pl : Array Value)[j]? = some (.bool false) := by
        unfold madeCells
        simp [hj, Nat.mod_one]
      simp [hm, hpL, hasL]
    have BS := Lib.hid hST
    have HA : Hid (Below w1.heap.size w1 (w1.alloc (.cells (madeCells #[.bool false] pl) 4))) := Lib.hid ((Below.refl _ _).alloc (Nat.le_refl _) _)
    clear hST
    go_wp2
    generalize (w1.alloc (.cells (madeCells #[.bool false] pl) 4)) = W2 at *
    obtain ⟨g, hg⟩ : ∃ g, g = w1.heap.size := ⟨_, rfl⟩
    rw [← hg] at BS ⊢
    have HGS := Lib.hid hg
    clear hg
    go_loopw [21] (fun i w' => ∃ k : Nat, k ≤ hl ∧ i = .int .i64 k ∧ Aside (Bs hs pl k w' g ∧ Below w1.heap.size w1 w')) (fun i _ => hl - (intOf i).toNat)
    case atStart => exact ⟨0, Nat.zero_le _, rfl, BS.out, HA.out⟩
    case round =>
      obtain ⟨k, hk, rfl, hA⟩ := hrel
      obtain ⟨hbs, hB⟩ := hA.out
      have HB := Lib.hid hB
      have BK := Lib.hid hbs
      have BXK := Lib.hid (BX1.out.call hB)
      clear hA hB hbs
      by_cases hlt : k < hl
      · obtain ⟨b, o, rfl, hcell⟩ := (HH.out.below BXK.out.bel).some (by omega)
        obtain ⟨h, hq, hi'⟩ := hcell k hlt
        have hstep := HG.out k hlt
        unfold stepB at hstep
        simp only [Bool.and_eq_true] at hstep
        have hin := of_decide_eq_true hstep.2.1
        obtain ⟨P, hP⟩ : ∃ P : Nat, h.p = (P : Int) := ⟨h.p.toNat, by rw [hi'.1]; omega⟩
        have hPn : P < pl := by rw [← hi'.1, hP] at hin; omega
        have HE : Hid ((hs.getD k hd0).1 = (P : Int)) := Lib.hid (by rw [← hi'.1]; exact hP)
        have hk0 : (0 : Int) ≤ (k : Int) := by omega
        have hk1 : (k : Int) < (hl : Int) := by omega
        have hP0 : (0 : Int) ≤ (P : Int) := by omega
        have hP1 : (P : Int) < (pl : Int) := by omega
        have c0 := hq 0 (by omega)
        have c1 := hq 1 (by omega)
        have c2 := hq 2 (by omega)
        have c3 := hq 3 (by omega)
        have c4 := hq 4 (by omega)
        have c5 := hq 5 (by omega)
        have c6 := hq 6 (by omega)
        have c7 := hq 7 (by omega)
        simp only [HW.l, List.getElem?_cons_zero, List.getElem?_cons_succ, Nat.add_zero, hP] at c0 c1 c2 c3 c4 c5 c6 c7
        generalize h.k = z1 at *
        generalize h.x = z2 at *
        generalize h.y = z3 at *
        generalize h.z = z4 at *
        generalize h.s = z5 at *
        generalize h.t = z6 at *
        generalize h.u = z7 at *
        have hgc := BK.out.2 P hPn
        have hgf := BK.out.1.2 P
        have hgs := BK.out.1.1
        generalize hasL (hpL hs k) (P : Int) = bb at *
        clear hcell hq hi' hstep hin hP
        go_wp2
        go_roundw
        case rel => exact ⟨k + 1, by omega, by go_num, (BK.out.put hPn HE.out).below ((Below.refl _ _).alloc (Nat.le_refl _) _), (HB.out.setCell (p := ⟨g, P, none⟩) (by rw [HGS.out]; exact Nat.le_refl _) _).alloc (by simpa using HB.out.size) _⟩
        case measure => simp [intOf]; omega
      · obtain rfl : k = hl := by omega
        go_wp2
        go_loopw [9, 32] (fun v i w' => ∃ q : Nat, q ≤ pl ∧ i = .int .i64 q ∧ Aside (w'.ownsRow wr.heap.size 2 1 v (frL L q).length ((frL L q).map (Value.int .i64)) ∧ Below wr.heap.size wr w')) (fun _ i _ => pl - (intOf i).toNat)
        case atStart => exact ⟨0, Nat.zero_le _, rfl, World.ownsRow_nil _ _ _ _, Below.refl _ _⟩
        case round =>
          rename_i w9 _
          obtain ⟨q, hq, rfl, hA⟩ := hrel
          obtain ⟨hown, hB⟩ := hA.out
          have BQ := Lib.hid (BK.out.below hB)
          have HB2 := Lib.hid hB
          have HOWN := Lib.hid hown
          have hbz := Lib.hid hB.size
          have hal := frL_len L q
          clear hA hB hown
          by_cases hlt2 : q < pl
          · have hq0 : (0 : Int) ≤ (q : Int) := by omega
            have hq1 : (q : Int) < (pl : Int) := by omega
            have hgc := BQ.out.2 q hlt2
            rw [HL.out] at hgc
            cases hb : hasL L q
            · have HN := Lib.hid (frL_yes hb)
              rw [hb] at hgc
              clear hb
              go_wp2_with (at_builtin; refine wpList_append_own _ rfl _ _ 33 rfl _ 2 i0 (.int .i64 0) 1 8 Try.underlying33 hi hz0 hz1 hz2 rfl (by decide) _ _ _ rfl (HOWN.out.alloc _) ⟨wr.heap.size, 0, none⟩ 1 1 [.int .i64 (q : Int)] rfl rfl ?c1 ?c2 ?c3 ?c4 ?c5 ?_)
              case c1 =>
                intro j u hj
                match j, hj with
                | 0, hj => simp at hj; subst hj; simp [Addr.add]
              case c2 => intro u hu; simp at hu; subst hu; rfl
              case c3 => unfold maxLen; omega
              case c4 => omega
              case c5 => have := hbz.out; simp; omega
              · intro v' w3 hown' hgrow _
                have hB1 := HB2.out.alloc hbz.out (.cells #[.int .i64 (q : Int)] 2)
                have HB1 := Lib.hid (hB1.grown hgrow hB1.size (fun k hk => (HOWN.out.lt k hk).1))
                have HO1 := Lib.hid hown'
                clear hown' hgrow hB1
                go_wp2
                go_roundw
                case rel => exact ⟨q + 1, by omega, by go_num, by rw [HN.out]; simpa using HO1.out, HB1.out⟩
                case measure => simp [intOf]; omega
            · have HN := Lib.hid (frL_no hb)
              rw [hb] at hgc
              clear hb
              go_wp2
              go_roundw
              case rel => exact ⟨q + 1, by omega, by go_num, by rw [HN.out]; exact HOWN.out, HB2.out⟩
              case measure => simp [intOf]; omega
          · obtain rfl : q = pl := by omega
            go_wp2
            go_ret2
            exact ⟨_, rfl, owns_mono HOWN.out BXK.out.bel.size, BXK.out.bel.trans (HB2.out.mono BXK.out.bel.size)⟩
end Go.Proofs.Ytajglpkeojaelaa

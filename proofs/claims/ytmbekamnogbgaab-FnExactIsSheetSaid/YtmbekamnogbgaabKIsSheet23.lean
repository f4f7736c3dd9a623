/-
Texts in one: what IsSheet stands on, part 23. Conditions: those of each.
-/
import Derived.Test.YtmbekamnogbgaabKIsSheet22
import Derived.WalkKit

/-
Whether a mesh is a sheet: what the program returns. Conditions: the mesh lies in memory.
-/
namespace Go.Proofs.Ytmbekamnogbgaab
open Go Fk Go.RowKit Go.Maps
set_option linter.unusedVariables false
set_option maxRecDepth 16000

theorem Agree.of_grown {W w : World} {b : Nat} (hg : W.grownBy w (some b)) : Agree (fun q => q ≠ b) W w :=
  ⟨fun x i v hx hv => hg.cell hv (by simpa using hx), fun x i hx hl => by
    have := hg.block x hl (by simpa using hx)
    simp [World.frozen?, this], hg.size⟩
theorem IsCs.agree {S : Nat → Prop} {W w : World} {b n : Nat} {ts : List (List Int)} (h : IsCs W b n ts) (hb : S b) (hA : Agree S W w) : IsCs w b n ts := fun k hk =>
  ⟨hA.cell _ _ _ hb (h k hk).1, hA.cell _ _ _ hb (h k hk).2.1, hA.cell _ _ _ hb (h k hk).2.2⟩
theorem ownsMap_below {W V : World} {P : Program} {k : TypeId} {R : Value → Option (DataW Unit × List MemPlace)} {b n : Nat} {D : DataW Unit} (h : W.ownsMap P k R b n D) (hB : Below W.heap.size W V) : V.ownsMap P k R b n D := by
  have hbl := h.lt
  obtain ⟨es, clock, hb, F, hs, hD⟩ := h
  exact ⟨es, clock, (hB.block b hbl).trans hb, F, hs, hD⟩
/-- A map of flags that are set at these sides. -/
def FlagsOf (D : DataW Unit) (L : List (Int × Int)) : Prop := IsMap D ∧ ∀ a b, (Lit.int .i64 a).wf = true → (Lit.int .i64 b).wf = true → D.atKey (kS (a, b)) (.lit (.bool false)) = .lit (.bool (decide ((a, b) ∈ L)))
theorem FlagsOf.nil : FlagsOf (.map []) [] := ⟨isMap_empty, fun a b _ _ => by simp [DataW.atKey]⟩
theorem FlagsOf.put {D : DataW Unit} {L : List (Int × Int)} {x y : Int} (h : FlagsOf D L) (wx : (Lit.int .i64 x).wf = true) (wy : (Lit.int .i64 y).wf = true) : FlagsOf (D.put (kS (x, y)) (.lit (.bool true))) (L ++ [(x, y)]) := by
  refine ⟨h.1.put _ _, fun a b wa wb => ?_⟩
  by_cases e : (a, b) = (x, y)
  · rw [e, atKey_put_same h.1 (kS_key _)]
    simp
  · rw [atKey_put_other (fun e' => e (kS_inj wa wb wx wy e')), h.2 a b wa wb]
    simp only [List.mem_append, List.mem_singleton, e, or_false]
theorem flag_look {W : World} {b n : Nat} {D : DataW Unit} {L : List (Int × Int)} {x y : Int} (h : W.ownsMap Try.prog 101 (plainElem Try.prog 4) b n D) (hF : FlagsOf D L) (wx : (Lit.int .i64 x).wf = true) (wy : (Lit.int .i64 y).wf = true) :
    (Instr.lookup 95 (.map (some b)) (.agg #[.int .i64 x, .int .i64 y]) false).run Try.prog W = .ok (.bool (decide ((x, y) ∈ L))) W := by
  have ub := Try.underlying4
  obtain ⟨v, ps, hrun, hR⟩ := h.lookup sideKeyed Try.underlying95 (z := .bool false) (by kernel_rfl) (plainElem_bool ub false) (keyOf_side wx wy)
  rw [hF.2 x y wx wy] at hR
  have : v = .bool (decide ((x, y) ∈ L)) := by
    unfold plainElem at hR
    rw [ub] at hR
    cases v <;> simp_all
  rw [hrun, this]
def preS (ts : List (List Int)) (k j : Nat) : List (Int × Int) := (ts.take k).flatMap sideT ++ (sideT (ts.getD k [])).take j
theorem preS_zero (ts : List (List Int)) : preS ts 0 0 = [] := by simp [preS]
theorem preS_end (ts : List (List Int)) : preS ts ts.length 0 = sidesL ts := by simp [preS, sidesL]
theorem preS_next {ts : List (List Int)} {k : Nat} (hk : k < ts.length) : preS ts k 3 = preS ts (k + 1) 0 := by
  have e : ts.take (k + 1) = ts.take k ++ [ts.getD k []] := by
    rw [List.take_add_one, List.getElem?_eq_getElem hk]
    simp [List.getD, List.getElem?_eq_getElem hk]
  unfold preS
  rw [e, List.flatMap_append, List.flatMap_cons, List.flatMap_nil, List.append_nil, List.take_zero, List.append_nil]
  rfl
theorem preS_step {ts : List (List Int)} {k j : Nat} (hj : j < 3) : preS ts k (j + 1) = preS ts k j ++ [(sideT (ts.getD k [])).getD j (0, 0)] := by
  match j, hj with
  | 0, _ => simp [preS, sideT]
  | 1, _ => simp [preS, sideT]
  | 2, _ => simp [preS, sideT]
theorem preS_sub {ts : List (List Int)} {k j : Nat} (hk : k < ts.length) (hj : j ≤ 3) : (preS ts k j).Sublist (sidesL ts) := by
  have h3 : preS ts k 3 = (ts.take (k + 1)).flatMap sideT := by rw [preS_next hk]; simp [preS]
  have h1 : (preS ts k j).Sublist (preS ts k 3) := by
    unfold preS
    exact List.Sublist.append_left (by rw [show (sideT (ts.getD k [])).take 3 = sideT (ts.getD k []) from rfl]; exact List.take_sublist _ _) _
  refine h1.trans ?_
  rw [h3]
  unfold sidesL
  conv => rhs; rw [← List.take_append_drop (k + 1) ts]
  rw [List.flatMap_append]
  exact List.sublist_append_left _ _
theorem preS_twice {ts : List (List Int)} {k j : Nat} (hk : k < ts.length) (hj : j < 3) (h : (sideT (ts.getD k [])).getD j (0, 0) ∈ preS ts k j) : decide (sidesL ts).Nodup = false := by
  refine decide_eq_false fun hn => ?_
  have := hn.sublist (preS_sub hk (show j + 1 ≤ 3 by omega))
  rw [preS_step hj, List.nodup_append] at this
  exact this.2.2 _ h _ (by simp) rfl
theorem preS_once {ts : List (List Int)} {k j : Nat} (hj : j < 3) (hn : (preS ts k j).Nodup) (h : ¬ (sideT (ts.getD k [])).getD j (0, 0) ∈ preS ts k j) : (preS ts k (j + 1)).Nodup := by
  rw [preS_step hj, List.nodup_append]
  refine ⟨hn, by simp, fun a ha b hb e => ?_⟩
  simp only [List.mem_singleton] at hb
  rw [← hb, ← e] at h
  exact h ha
theorem side_ix (a b c d e f : Int) (j : Nat) (hj : j < 3) : ∀ w, (Instr.index 102 (.agg #[.int .i64 a, .int .i64 b, .int .i64 c, .int .i64 d, .int .i64 e, .int .i64 f]) (.int .i64 (j : Int))).run Try.prog w = .ok (.agg #[.int .i64 ([a, c, e].getD j 0), .int .i64 ([b, d, f].getD j 0)]) w := by
  have u := Try.underlying101
  have ua := Try.underlying102
  intro w
  have : j = 0 ∨ j = 1 ∨ j = 2 := by omega
  rcases this with rfl | rfl | rfl
  all_goals
    first
      | rfl
      | (simp [Instr.index, u, ua, go_sem]; done)
theorem impl_sides (a b c : Int) (w : World) : Calls Try.prog 72 #[.agg #[.int .i64 a, .int .i64 b, .int .i64 c]] w fun e w' => e = .returned (.agg #[.int .i64 a, .int .i64 b, .int .i64 b, .int .i64 c, .int .i64 c, .int .i64 a]) ∧ Below w.heap.size w w' := by
  have uc := Try.underlying99
  have us := Try.underlying101
  have ua := Try.underlying102
  go_enter Try.func72, Try.ntmps72
  go_wp2
  refine bodyPost_ret (v := .agg #[.int .i64 a, .int .i64 b, .int .i64 b, .int .i64 c, .int .i64 c, .int .i64 a]) (by simp [results, Try.results72, go_sem]) rfl ?_
  exact ⟨rfl, ((Below.refl _ _).alloc (Nat.le_refl _) _).alloc (by simp) _⟩
end Go.Proofs.Ytmbekamnogbgaab


/-
Whether a mesh is a sheet: what the program returns. Conditions: the mesh lies in memory.
-/
namespace Go.Proofs.Ytmbekamnogbgaab
open Go Fk Go.RowKit Go.Maps
set_option linter.unusedVariables false
set_option maxRecDepth 16000

set_option maxHeartbeats 4000000 in
theorem impl_IsSheet (pa ta : Option Addr) (pl pc tl tc : Nat) (cs : List C3) (ts : List (List Int)) (w : World) (hp : IsVs w pa pl pc cs) (ht : IsTs w ta tl tc ts) :
    Calls Try.prog 28 #[.agg #[.slice pa pl pc, .slice ta tl tc]] w fun e w' => e = .returned (.bool (validB cs ts && decide (sidesL ts).Nodup)) ∧ Below w.heap.size w w' := by
  have ui := Try.underlying32
  have uc := Try.underlying99
  have us := Try.underlying101
  have hpl := hp.1
  have htl := ht.1
  have hB0 : Below w.heap.size w (w.alloc (.cells #[.slice pa pl pc, .slice ta tl tc] 32)) := (Below.refl _ _).alloc (Nat.le_refl _) _
  have a0 : (w.alloc (.cells #[.slice pa pl pc, .slice ta tl tc] 32)).cell? ⟨w.heap.size, 0, none⟩ = some (.slice pa pl pc) := by go_simp
  have a1 : (w.alloc (.cells #[.slice pa pl pc, .slice ta tl tc] 32)).cell? ⟨w.heap.size, 1, none⟩ = some (.slice ta tl tc) := by go_simp
  have J := Lib.hid (impl_ValidMesh pa ta pl pc tl tc cs ts _ (hp.below hB0) (ht.below hB0))
  have HT := Lib.hid ht
  have HB0 := Lib.hid hB0
  have A0 := Lib.hid a0
  have A1 := Lib.hid a1
  clear hp ht hB0 a0 a1
  cases hv : validB cs ts
  · rw [hv] at J
    clear hv
    go_enter Try.func28, Try.ntmps28
    go_wp2_with fail
    refine J.out.mono ?_
    rintro e w1 ⟨rfl, hB1⟩
    have HB := Lib.hid (HB0.out.trans (hB1.mono HB0.out.size))
    clear hB1
    go_wp2
    go_ret
    exact ⟨rfl, HB.out⟩
  · rw [hv] at J
    obtain ⟨v1, v2⟩ := valid_pl hv
    rw [htl] at v2
    have H3 := Lib.hid (fun k (hk : k < tl) => rows3h hv k (by rw [htl]; exact hk))
    have HV := Lib.hid (fun k (hk : k < tl) => (tri_partsh (valid_rowh hv (show k < ts.length by omega))).2)
    clear hv
    go_enter Try.func28, Try.ntmps28
    go_wp2_with fail
    refine J.out.mono ?_
    rintro e w1 ⟨rfl, hB1⟩
    have d0 := cell_below hB1 A0.out
    have d1 := cell_below hB1 A1.out
    have HB1 := Lib.hid (HB0.out.trans (hB1.mono HB0.out.size))
    have hmm := @run_makeMap Try.prog
    clear hB1
    have hBM : Below w.heap.size w (w1.alloc (.map #[] 0)) := HB1.out.alloc HB1.out.size _
    have HBM := Lib.hid hBM
    have J2 := Lib.hid (all_corners' pa ta pl pc tl tc ts (w1.alloc (.map #[] 0)) (HT.out.below hBM) H3.out v2)
    have HO0 := Lib.hid (World.ownsMap_made (H := Unit) w1 Try.prog 101 (plainElem Try.prog 4))
    have hBle : w.heap.size ≤ w1.heap.size := HB1.out.size
    have lt0 : w.heap.size < w1.heap.size := World.block_lt_of_cell? _ _ d0
    have d0' := cell_alloc (o := .map #[] 0) d0
    have d1' := cell_alloc (o := .map #[] 0) d1
    clear hBM d0 d1
    go_wp2_with fail
    generalize (w1.alloc (.map #[] 0)) = W at *
    have hBlt := HO0.out.lt
    clear d0' d1' lt0
    generalize w1.heap.size = B at *
    refine J2.out.mono ?_
    rintro e V ⟨rfl, hC, hBV, hcV, _⟩
    generalize hcb : W.heap.size + 1 = cb at *
    have hne : cb ≠ B := by omega
    have HC := Lib.hid hC
    have HOV := Lib.hid (ownsMap_below HO0.out hBV)
    have HBV := Lib.hid (HBM.out.trans (hBV.mono HBM.out.size))
    clear hC hBV hcb HO0 HBM HB1 J J2
    go_wp2
    go_loopw [15] (fun i w' => ∃ k : Nat, k ≤ tl ∧ i = .int .i64 k ∧ Aside (∃ D : DataW Unit, w'.ownsMap Try.prog 101 (plainElem Try.prog 4) B (3 * k) D ∧ FlagsOf D (preS ts k 0) ∧ Agree (fun q => q ≠ B) V w' ∧ Below w.heap.size w w' ∧ (preS ts k 0).Nodup)) (fun i _ => tl - (intOf i).toNat)
    case atStart => exact ⟨0, Nat.zero_le _, rfl, _, HOV.out, by rw [preS_zero]; exact FlagsOf.nil, Agree.refl _ _, HBV.out, by rw [preS_zero]; exact List.nodup_nil⟩
    case round =>
      obtain ⟨k, hk, rfl, hA⟩ := hrel
      obtain ⟨D0, hO, hF, hAg, hB, hN⟩ := hA.out
      have HN := Lib.hid hN
      by_cases hlt : k < tl
      · obtain ⟨c0, c1, c2⟩ := (HC.out.agree hne hAg) k hlt
        have hx := HV.out k hlt
        obtain ⟨p0, q0⟩ := hx 0 (by decide)
        obtain ⟨p1, q1⟩ := hx 1 (by decide)
        obtain ⟨p2, q2⟩ := hx 2 (by decide)
        generalize hx0 : (ts.getD k []).getD 0 0 = x0 at *
        generalize hx1 : (ts.getD k []).getD 1 0 = x1 at *
        generalize hx2 : (ts.getD k []).getD 2 0 = x2 at *
        have w0 : (Lit.int .i64 x0).wf = true := WalkArith.wf_i64 (by omega)
        have w1' : (Lit.int .i64 x1).wf = true := WalkArith.wf_i64 (by omega)
        have w2' : (Lit.int .i64 x2).wf = true := WalkArith.wf_i64 (by omega)
        have X0 := Lib.hid hx0
        have X1 := Lib.hid hx1
        have X2 := Lib.hid hx2
        have hk0 : (0 : Int) ≤ (k : Int) := by omega
        have hk1 : (k : Int) < (tl : Int) := by omega
        have lcb : cb < wr.heap.size := Nat.lt_of_lt_of_le hcV hAg.size
        have hBox : Below wr.heap.size wr (wr.alloc (.cells #[.int .i64 x0, .int .i64 x1, .int .i64 x2] 99)) := (Below.refl _ _).alloc (Nat.le_refl _) _
        have HO1 := Lib.hid (ownsMap_below hO hBox)
        have HF := Lib.hid hF
        have HA0 := Lib.hid (hAg.trans (Agree.of_below hBox))
        have HB0' := Lib.hid (hB.trans (hBox.mono hB.size))
        clear hA hO hF hAg hB hN hx p0 p1 p2 q0 q1 q2 hx0 hx1 hx2 hBox
        go_wp2_with (go_at_call 72; refine (impl_sides _ _ _ _).mono ?_; rintro e w3 ⟨rfl, hB3⟩; have HB3 := Lib.hid hB3; clear hB3)
        have HO2 := Lib.hid (ownsMap_below HO1.out HB3.out)
        have HA2 := Lib.hid (HA0.out.trans (Agree.of_below HB3.out))
        have HB2 := Lib.hid (HB0'.out.trans (HB3.out.mono HB0'.out.size))
        clear c0 c1 c2 lcb HO1 HA0 HB0' HB3
        go_loopw [21] (fun i w' => ∃ j : Nat, j ≤ 3 ∧ i = .int .i64 j ∧ Aside (∃ D : DataW Unit, w'.ownsMap Try.prog 101 (plainElem Try.prog 4) B (3 * k + j) D ∧ FlagsOf D (preS ts k j) ∧ Agree (fun q => q ≠ B) V w' ∧ Below w.heap.size w w' ∧ (preS ts k j).Nodup)) (fun i _ => 3 - (intOf i).toNat)
        case atStart => exact ⟨0, by omega, rfl, D0, HO2.out, HF.out, HA2.out, HB2.out, HN.out⟩
        case round =>
          obtain ⟨j, hj, rfl, hA⟩ := hrel
          obtain ⟨D, hO, hF, hAg, hB, hN⟩ := hA.out
          have HO := Lib.hid hO
          have HF := Lib.hid hF
          have HA1 := Lib.hid hAg
          have HB1 := Lib.hid hB
          have HN0 := Lib.hid hN
          clear hA hO hF hAg hB hN HO2 HA2 HB2
          by_cases hlj : j < 3
          · obtain rfl | rfl | rfl : j = 0 ∨ j = 1 ∨ j = 2 := by omega
            · have hs : (sideT (ts.getD k [])).getD 0 (0, 0) = (x0, x1) := by
                show ((ts.getD k []).getD 0 0, (ts.getD k []).getD 1 0) = _
                rw [X0.out, X1.out]
              have hix : ∀ w, (Instr.index 102 (.agg #[.int .i64 x0, .int .i64 x1, .int .i64 x1, .int .i64 x2, .int .i64 x2, .int .i64 x0]) (.int .i64 0)).run Try.prog w = .ok (.agg #[.int .i64 x0, .int .i64 x1]) w := side_ix x0 x1 x1 x2 x2 x0 0 (by decide)
              have HS := Lib.hid hs
              have hown1 := HO.out.alloc (.cells #[.int .i64 x0, .int .i64 x1] 101)
              have hlk := flag_look hown1 HF.out w0 w1'
              have HO1 := Lib.hid hown1
              clear hs hown1
              cases hc : decide ((x0, x1) ∈ preS ts k 0)
              · rw [hc] at hlk
                have HN : Hid ((preS ts k (0 + 1)).Nodup) := Lib.hid (preS_once (by decide) HN0.out (by rw [HS.out]; exact of_decide_eq_false hc))
                have HF1 : Hid (FlagsOf (D.put (kS (x0, x1)) (.lit (.bool true))) (preS ts k (0 + 1))) := Lib.hid (by
                  rw [preS_step (by decide), HS.out]; exact HF.out.put w0 w1')
                clear hc
                go_wp2_with (first
                  | (at_mapUpdate; refine wpList_mapUpdate_own _ rfl _ _ _ 95 rfl 101 4 sideKeyed Try.underlying95 _ B (3 * k + 0) _ rfl HO1.out (by unfold maxLen; omega) _ _ _ rfl rfl (keyOf_side w0 w1') _ [] (plainElem_bool Try.underlying4 true) ?_; intro w5 hown5 hgrow5)
                  | go_in)
                have HA5 := Lib.hid (HA1.out.trans ((Agree.of_below ((Below.refl _ _).alloc (Nat.le_refl _) _)).trans (Agree.of_grown hgrow5)))
                have HB5 := Lib.hid ((HB1.out.alloc HB1.out.size _).grown hgrow5 (by have := HB1.out.size; simp; omega) (fun j e => by cases e; exact hBle))
                have HO5 := Lib.hid hown5
                clear hown5 hgrow5 hlk hix
                go_wp2
                go_roundw
                case rel => exact ⟨0 + 1, by omega, by go_num, _, HO5.out.mono (by omega), HF1.out, HA5.out, HB5.out, HN.out⟩
                case measure => simp [intOf]
              · rw [hc] at hlk
                have HT2 : Hid (decide (sidesL ts).Nodup = false) := Lib.hid (preS_twice (k := k) (j := 0) (by omega) (by decide) (by rw [HS.out]; exact of_decide_eq_true hc))
                clear hc
                go_wp2
                go_ret
                exact ⟨ret_bool (by rw [HT2.out]; rfl), HB1.out.alloc HB1.out.size _⟩
            · have hs : (sideT (ts.getD k [])).getD 1 (0, 0) = (x1, x2) := by
                show ((ts.getD k []).getD 1 0, (ts.getD k []).getD 2 0) = _
                rw [X1.out, X2.out]
              have hix : ∀ w, (Instr.index 102 (.agg #[.int .i64 x0, .int .i64 x1, .int .i64 x1, .int .i64 x2, .int .i64 x2, .int .i64 x0]) (.int .i64 1)).run Try.prog w = .ok (.agg #[.int .i64 x1, .int .i64 x2]) w := side_ix x0 x1 x1 x2 x2 x0 1 (by decide)
              have HS := Lib.hid hs
              have hown1 := HO.out.alloc (.cells #[.int .i64 x1, .int .i64 x2] 101)
              have hlk := flag_look hown1 HF.out w1' w2'
              have HO1 := Lib.hid hown1
              clear hs hown1
              cases hc : decide ((x1, x2) ∈ preS ts k 1)
              · rw [hc] at hlk
                have HN : Hid ((preS ts k (1 + 1)).Nodup) := Lib.hid (preS_once (by decide) HN0.out (by rw [HS.out]; exact of_decide_eq_false hc))
                have HF1 : Hid (FlagsOf (D.put (kS (x1, x2)) (.lit (.bool true))) (preS ts k (1 + 1))) := Lib.hid (by
                  rw [preS_step (by decide), HS.out]; exact HF.out.put w1' w2')
                clear hc
                go_wp2_with (first
                  | (at_mapUpdate; refine wpList_mapUpdate_own _ rfl _ _ _ 95 rfl 101 4 sideKeyed Try.underlying95 _ B (3 * k + 1) _ rfl HO1.out (by unfold maxLen; omega) _ _ _ rfl rfl (keyOf_side w1' w2') _ [] (plainElem_bool Try.underlying4 true) ?_; intro w5 hown5 hgrow5)
                  | go_in)
                have HA5 := Lib.hid (HA1.out.trans ((Agree.of_below ((Below.refl _ _).alloc (Nat.le_refl _) _)).trans (Agree.of_grown hgrow5)))
                have HB5 := Lib.hid ((HB1.out.alloc HB1.out.size _).grown hgrow5 (by have := HB1.out.size; simp; omega) (fun j e => by cases e; exact hBle))
                have HO5 := Lib.hid hown5
                clear hown5 hgrow5 hlk hix
                go_wp2
                go_roundw
                case rel => exact ⟨1 + 1, by omega, by go_num, _, HO5.out.mono (by omega), HF1.out, HA5.out, HB5.out, HN.out⟩
                case measure => simp [intOf]
              · rw [hc] at hlk
                have HT2 : Hid (decide (sidesL ts).Nodup = false) := Lib.hid (preS_twice (k := k) (j := 1) (by omega) (by decide) (by rw [HS.out]; exact of_decide_eq_true hc))
                clear hc
                go_wp2
                go_ret
                exact ⟨ret_bool (by rw [HT2.out]; rfl), HB1.out.alloc HB1.out.size _⟩
            · have hs : (sideT (ts.getD k [])).getD 2 (0, 0) = (x2, x0) := by
                show ((ts.getD k []).getD 2 0, (ts.getD k []).getD 0 0) = _
                rw [X2.out, X0.out]
              have hix : ∀ w, (Instr.index 102 (.agg #[.int .i64 x0, .int .i64 x1, .int .i64 x1, .int .i64 x2, .int .i64 x2, .int .i64 x0]) (.int .i64 2)).run Try.prog w = .ok (.agg #[.int .i64 x2, .int .i64 x0]) w := side_ix x0 x1 x1 x2 x2 x0 2 (by decide)
              have HS := Lib.hid hs
              have hown1 := HO.out.alloc (.cells #[.int .i64 x2, .int .i64 x0] 101)
              have hlk := flag_look hown1 HF.out w2' w0
              have HO1 := Lib.hid hown1
              clear hs hown1
              cases hc : decide ((x2, x0) ∈ preS ts k 2)
              · rw [hc] at hlk
                have HN : Hid ((preS ts k (2 + 1)).Nodup) := Lib.hid (preS_once (by decide) HN0.out (by rw [HS.out]; exact of_decide_eq_false hc))
                have HF1 : Hid (FlagsOf (D.put (kS (x2, x0)) (.lit (.bool true))) (preS ts k (2 + 1))) := Lib.hid (by
                  rw [preS_step (by decide), HS.out]; exact HF.out.put w2' w0)
                clear hc
                go_wp2_with (first
                  | (at_mapUpdate; refine wpList_mapUpdate_own _ rfl _ _ _ 95 rfl 101 4 sideKeyed Try.underlying95 _ B (3 * k + 2) _ rfl HO1.out (by unfold maxLen; omega) _ _ _ rfl rfl (keyOf_side w2' w0) _ [] (plainElem_bool Try.underlying4 true) ?_; intro w5 hown5 hgrow5)
                  | go_in)
                have HA5 := Lib.hid (HA1.out.trans ((Agree.of_below ((Below.refl _ _).alloc (Nat.le_refl _) _)).trans (Agree.of_grown hgrow5)))
                have HB5 := Lib.hid ((HB1.out.alloc HB1.out.size _).grown hgrow5 (by have := HB1.out.size; simp; omega) (fun j e => by cases e; exact hBle))
                have HO5 := Lib.hid hown5
                clear hown5 hgrow5 hlk hix
                go_wp2
                go_roundw
                case rel => exact ⟨2 + 1, by omega, by go_num, _, HO5.out.mono (by omega), HF1.out, HA5.out, HB5.out, HN.out⟩
                case measure => simp [intOf]
              · rw [hc] at hlk
                have HT2 : Hid (decide (sidesL ts).Nodup = false) := Lib.hid (preS_twice (k := k) (j := 2) (by omega) (by decide) (by rw [HS.out]; exact of_decide_eq_true hc))
                clear hc
                go_wp2
                go_ret
                exact ⟨ret_bool (by rw [HT2.out]; rfl), HB1.out.alloc HB1.out.size _⟩
          · obtain rfl : j = 3 := by omega
            have hn := HN0.out
            have hf := HF.out
            rw [preS_next (by omega)] at hn hf
            have HN1 := Lib.hid hn
            have HF1 := Lib.hid hf
            clear hn hf
            go_wp2
            go_roundw
            case rel => exact ⟨k + 1, by omega, by go_num, D, HO.out.mono (by omega), HF1.out, HA1.out, HB1.out, HN1.out⟩
            case measure => simp [intOf]; omega
      · obtain rfl : k = tl := by omega
        have hn : decide (sidesL ts).Nodup = true := decide_eq_true (by rw [← preS_end, htl]; exact HN.out)
        have HR := Lib.hid hn
        have HBE := Lib.hid hB
        clear hA hO hF hAg hB hN hn
        go_wp2
        go_ret
        exact ⟨ret_bool (by rw [HR.out]; rfl), HBE.out⟩
end Go.Proofs.Ytmbekamnogbgaab

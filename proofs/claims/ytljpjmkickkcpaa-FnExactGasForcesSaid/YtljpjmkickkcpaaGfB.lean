
/-
The forces of a gas: the program and its model. Conditions: none beyond that the mesh lies in memory.
-/
import Derived.Test.YtljpjmkickkcpaaGfA
namespace Go.Proofs.Ytljpjmkickkcpaa
open Go Fk Go.RowKit
set_option linter.unusedVariables false
set_option maxRecDepth 16000

def gasO (cs : List C3) (ts : List (List Int)) (pq : Option Nat) : List C3 := bif validB cs ts then gasF (fop .quo .f32 pq sixG) cs ts ts.length else []
def csL (n : Nat) (ts : List (List Int)) : List Value := (List.range (n * 3)).map fun i => .int .i64 ((ts.getD (i / 3) []).getD (i % 3) 0)
theorem csL_get (n : Nat) (ts : List (List Int)) (k j : Nat) (hk : k < n) (hj : j < 3) : (csL n ts)[k * 3 + j]? = some (.int .i64 ((ts.getD k []).getD j 0)) := by
  unfold csL
  have h1 : k * 3 + j < n * 3 := by omega
  have h2 : (k * 3 + j) / 3 = k := by omega
  have h3 : (k * 3 + j) % 3 = j := by omega
  rw [List.getElem?_map, List.getElem?_range h1, Option.map_some, h2, h3]
theorem csL_at {w : World} {b n : Nat} {ts : List (List Int)} (h : IsCs w b n ts) : At w b (csL n ts) := by
  intro i v hv
  have hi : i < n * 3 := by
    have := (List.getElem?_eq_some_iff.1 hv).1
    unfold csL at this
    simpa using this
  obtain ⟨k, j, hk, hj, rfl⟩ : ∃ k j, k < n ∧ j < 3 ∧ i = k * 3 + j := ⟨i / 3, i % 3, by omega, by omega, by omega⟩
  rw [csL_get n ts k j hk hj] at hv
  cases hv
  have hc := h k hk
  have : j = 0 ∨ j = 1 ∨ j = 2 := by omega
  rcases this with rfl | rfl | rfl
  · exact hc.1
  · exact hc.2.1
  · exact hc.2.2
theorem St.add {w w1 w2 : World} {L : List (Nat × List Value)} {g b : Nat} {X : List C3} {l : List Value} (h : St w L g X w1) (hb : Below w1.heap.size w1 w2) (ha : At w2 b l) (hf : Fr w2 b) (h1 : w1.heap.size ≤ b) (h2 : b < w2.heap.size) : St w ((b, l) :: L) g X w2 := by
  have h3 := h.call hb
  refine ⟨h3.1, fun b' l' hm => ?_, h3.2.2⟩
  rcases List.mem_cons.1 hm with e | hm
  · cases e; exact ⟨ha, hf, h2, fun e => by have := h.2.2.2.2.2; omega⟩
  · exact h3.2.1 b' l' hm
theorem corner_ix (a b c : Int) (j : Nat) (hj : j < 3) : ∀ w, (Instr.index 116 (.agg #[.int .i64 a, .int .i64 b, .int .i64 c]) (.int .i64 (j : Int))).run Try.prog w = .ok (.int .i64 ([a, b, c].getD j 0)) w := by
  have u := Try.underlying2
  have ua := Try.underlying116
  have hj' : j = 0 ∨ j = 1 ∨ j = 2 := by omega
  rcases hj' with rfl | rfl | rfl
  all_goals
    intro w
    first
      | rfl
      | (simp [Instr.index, u, ua, go_sem]; done)
      | (kernel_rfl)
theorem three_get {T : List Int} (j : Nat) (hj : j < 3) : [T.getD 0 0, T.getD 1 0, T.getD 2 0].getD j 0 = T.getD j 0 := by
  have hj' : j = 0 ∨ j = 1 ∨ j = 2 := by omega
  rcases hj' with rfl | rfl | rfl <;> rfl
theorem RV.lowG {base base' : Nat} {w : World} {v : Value} {X : List C3} (h : RV base w v X) (hb : base' ≤ base) : RV base' w v X := by
  obtain ⟨a, cap, e, h1, h2⟩ := h
  exact ⟨a, cap, e, h1, h2.imp id fun ⟨b, e, k1, k2, k3, k4⟩ => ⟨b, e, Nat.le_trans hb k1, k2, k3, k4⟩⟩
set_option maxHeartbeats 2000000 in
theorem spec_GasForces (pa ta : Option Addr) (pl pc tl tc : Nat) (cs : List C3) (ts : List (List Int)) (pr : Nat) (pq : Option Nat) (w : World) (hp : IsVs w pa pl pc cs) (ht : IsTs w ta tl tc ts) (hpr : FV .f32 pr pq) :
    Calls Try.prog 58 #[.agg #[.slice pa pl pc, .slice ta tl tc], .float .f32 pr] w fun e w' => ∃ v, e = .returned (.tuple #[v, .bool (validB cs ts)]) ∧ RV w.heap.size w' v (gasO cs ts pq) ∧ Below w.heap.size w w' := by
  have ui := Try.underlying43
  have uv := Try.underlying28
  have uc := Try.underlying116
  have u := Try.underlying22
  have hpl := hp.1
  have htl := ht.1
  have BX : Hid (Bx w [(w.heap.size, [.slice pa pl pc, .slice ta tl tc])] (w.alloc (.cells #[.slice pa pl pc, .slice ta tl tc] 43))) := Lib.hid ((Bx.nil w).box (vs := [.slice pa pl pc, .slice ta tl tc]) (t := 43))
  have J := Lib.hid (l02IsB w.heap.size pa ta pl pc tl tc cs ts _ ((BX.out.mem (.head _)) 0 _ rfl) ((BX.out.mem (.head _)) 1 _ rfl) (hp.below BX.out.bel) (ht.below BX.out.bel))
  have HP := Lib.hid hp
  have HT := Lib.hid ht
  have HPR := Lib.hid hpr
  unfold gasO
  rw [htl]
  clear hp ht hpr
  cases hv : validB cs ts
  · rw [hv] at J
    clear hv
    show Calls _ _ _ _ (fun e w' => ∃ v, e = .returned (.tuple #[v, .bool false]) ∧ RV w.heap.size w' v [] ∧ Below w.heap.size w w')
    go_enter Try.func58, Try.ntmps58
    go_wp2_with fail
    refine J.out.mono ?_
    rintro e w1 ⟨rfl, hB1⟩
    have BX1 := Lib.hid (BX.out.call hB1)
    clear hB1
    go_wp2
    go_ret2
    exact ⟨_, rfl, RV.nil _ _, BX1.out.bel⟩
  · rw [hv] at J
    have HV := Lib.hid hv
    clear hv
    show Calls _ _ _ _ (fun e w' => ∃ v, e = .returned (.tuple #[v, .bool true]) ∧ RV w.heap.size w' v (gasF (fop .quo .f32 pq sixG) cs ts tl) ∧ Below w.heap.size w w')
    go_enter Try.func58, Try.ntmps58
    go_wp2_with fail
    refine J.out.mono ?_
    rintro e w1 ⟨rfl, hB1⟩
    have BX1 := Lib.hid (BX.out.call hB1)
    have m0 := (BX1.out.mem (.head _)) 0 _ rfl
    have m1 := (BX1.out.mem (.head _)) 1 _ rfl
    clear hB1 J
    have JF := Lib.hid (l04Gas w.heap.size pa ta pl pc tl tc cs ts pr pq w1 m0 m1 (HP.out.below BX1.out.bel) (HT.out.below BX1.out.bel) HV.out HPR.out)
    clear m0 m1
    go_wp2_with fail
    refine JF.out.mono ?_
    rintro e w2 ⟨v, rfl, hR, hB2⟩
    have HR := Lib.hid (RV.lowG hR BX1.out.bel.size)
    have BX2 := Lib.hid (BX1.out.call hB2)
    clear hR hB2
    go_wp2
    go_ret2
    exact ⟨_, rfl, HR.out, BX2.out.bel⟩
set_option maxHeartbeats 2000000 in
theorem impl_GasForces (pa ta : Option Addr) (pl pc tl tc : Nat) (cs : List C3) (ts : List (List Int)) (pr : Nat) (pq : Option Nat) (w : World) (hp : IsVs w pa pl pc cs) (ht : IsTs w ta tl tc ts) (hpr : FV .f32 pr pq) :
    Calls Try.prog 59 #[.agg #[.slice pa pl pc, .slice ta tl tc], .float .f32 pr] w fun e w' => ∃ v, e = .returned (.tuple #[v, .bool (validB cs ts)]) ∧ RV w.heap.size w' v (gasO cs ts pq) ∧ Below w.heap.size w w' := by
  have ui := Try.underlying43
  have uv := Try.underlying28
  have uc := Try.underlying116
  have u := Try.underlying22
  have hpl := hp.1
  have htl := ht.1
  have BX : Hid (Bx w [(w.heap.size, [.slice pa pl pc, .slice ta tl tc])] (w.alloc (.cells #[.slice pa pl pc, .slice ta tl tc] 43))) := Lib.hid ((Bx.nil w).box (vs := [.slice pa pl pc, .slice ta tl tc]) (t := 43))
  have J := Lib.hid (impl_ValidMesh _ _ _ _ _ _ cs ts _ (hp.below BX.out.bel) (ht.below BX.out.bel))
  have HP := Lib.hid hp
  have HT := Lib.hid ht
  have HPR := Lib.hid hpr
  have a0 := (BX.out.mem (.head _)) 0 _ rfl
  have a1 := (BX.out.mem (.head _)) 1 _ rfl
  unfold gasO
  rw [htl]
  clear hp ht hpr
  cases hv : validB cs ts
  · rw [hv] at J
    clear hv
    show Calls _ _ _ _ (fun e w' => ∃ v, e = .returned (.tuple #[v, .bool false]) ∧ RV w.heap.size w' v [] ∧ Below w.heap.size w w')
    go_enter Try.func59, Try.ntmps59
    go_wp2_with fail
    refine J.out.mono ?_
    rintro e w1 ⟨rfl, hB1⟩
    have BX1 := Lib.hid (BX.out.call hB1)
    clear hB1
    go_wp2
    go_ret2
    exact ⟨_, rfl, RV.nil _ _, BX1.out.bel⟩
  · rw [hv] at J
    have HV := Lib.hid hv
    clear hv
    show Calls _ _ _ _ (fun e w' => ∃ v, e = .returned (.tuple #[v, .bool true]) ∧ RV w.heap.size w' v (gasF (fop .quo .f32 pq sixG) cs ts tl) ∧ Below w.heap.size w w')
    go_enter Try.func59, Try.ntmps59
    go_wp2_with fail
    refine J.out.mono ?_
    rintro e w1 ⟨rfl, hB1⟩
    have BX1 := Lib.hid (BX.out.call hB1)
    have m0 := (BX1.out.mem (.head _)) 0 _ rfl
    have m1 := (BX1.out.mem (.head _)) 1 _ rfl
    clear hB1 J a0 a1
    have h64 := (len128 HV.out).2
    have h128 := (len128 HV.out).1
    rw [hpl] at h64
    rw [htl] at h128
    have HTRI : Hid (∀ k, k < tl → triB pl (ts.getD k []) = true) := Lib.hid (fun k hk => by
      have := valid_row HV.out (k := k) (by rw [htl]; exact hk)
      rwa [hpl] at this)
    have H3 : Hid (∀ k, k < tl → (ts.getD k []).length = 3) := Lib.hid (fun k hk => (tri_parts (HTRI.out k hk)).1)
    have hmk := fun W => make_vecs W pl (by omega)
    have lm0 := fun ob => cell_alloc (o := ob) m0
    have lm1 := fun ob => cell_alloc (o := ob) m1
    have ST0 : Hid (St w [(w.heap.size, [.slice pa pl pc, .slice ta tl tc])] w1.heap.size (gasF (fop .quo .f32 pq sixG) cs ts 0) (w1.alloc (.cells (madeCells #[.float .f32 0, .float .f32 0, .float .f32 0] (pl * 3)) 28))) := Lib.hid (St.of BX1.out ((Below.refl _ _).alloc (Nat.le_refl _) _) (Nat.le_refl _) (by unfold gasF; rw [hpl]; exact OwnVs.made (by omega)))
    have hgw : w.heap.size ≤ w1.heap.size := BX1.out.bel.size
    go_wp2_with fail
    clear m0 m1 lm0 lm1 hmk
    generalize (w1.alloc (.cells (madeCells #[.float .f32 0, .float .f32 0, .float .f32 0] (pl * 3)) 28)) = W2 at *
    generalize w1.heap.size = g at *
    refine (all_corners' pa ta pl pc tl tc ts W2 (HT.out.below ST0.out.bel) H3.out (by omega)).mono ?_
    rintro e w3 ⟨rfl, hcs, hB3, hlt3, hfr3⟩
    have ST1 := Lib.hid (ST0.out.add hB3 (csL_at hcs) hfr3 (Nat.le_succ _) hlt3)
    clear hcs hB3 hlt3 hfr3
    generalize W2.heap.size + 1 = cb at *
    go_wp2
    go_loopw [22] (fun i w' => ∃ k : Nat, k ≤ tl ∧ i = .int .i64 k ∧ Aside (St w ((cb, csL tl ts) :: [(w.heap.size, [.slice pa pl pc, .slice ta tl tc])]) g (gasF (fop .quo .f32 pq sixG) cs ts k) w')) (fun i _ => tl - (intOf i).toNat)
    case atStart => exact ⟨0, Nat.zero_le _, rfl, ST1.out⟩
    case round =>
      obtain ⟨k, hk, rfl, hA⟩ := hrel
      have ST := Lib.hid hA.out
      clear hA
      by_cases hlt : k < tl
      · have htri := HTRI.out k hlt
        obtain ⟨h3, hin⟩ := tri_parts htri
        have hk0 : (0 : Int) ≤ (k : Int) := by omega
        have hk1 : (k : Int) < (tl : Int) := by omega
        have z0 := (ST.out.mem (.head _)) _ _ (csL_get tl ts k 0 hlt (by decide))
        have z1 := (ST.out.mem (.head _)) _ _ (csL_get tl ts k 1 hlt (by decide))
        have z2 := (ST.out.mem (.head _)) _ _ (csL_get tl ts k 2 hlt (by decide))
        have m0 := (ST.out.mem (.tail _ (.head _))) 0 _ rfl
        have m1 := (ST.out.mem (.tail _ (.head _))) 1 _ rfl
        have hJN := fun W h => mesh_normal pa ta pl pc tl tc cs (ts.getD k []) W h htri
        have hnl : (gasF (fop .quo .f32 pq sixG) cs ts k).length = pl := by rw [gasF_len, hpl]
        have hsk : gasF (fop .quo .f32 pq sixG) cs ts (k + 1) = gas3 (gasS (normalC cs (ts.getD k [])) (fop .quo .f32 pq sixG)) (gasF (fop .quo .f32 pq sixG) cs ts k) (ts.getD k []) 3 := rfl
        have HSK := Lib.hid hsk
        have HNL := Lib.hid hnl
        have HIN := Lib.hid hin
        have HIX : Hid (∀ j : Nat, j < 3 → ∀ v, (Instr.index 116 (.agg #[.int .i64 ((ts.getD k []).getD 0 0), .int .i64 ((ts.getD k []).getD 1 0), .int .i64 ((ts.getD k []).getD 2 0)]) (.int .i64 (j : Int))).run Try.prog v = .ok (.int .i64 ((ts.getD k []).getD j 0)) v) := Lib.hid (fun j hj v => by rw [corner_ix _ _ _ j hj, three_get j hj])
        clear hin htri h3 hnl hsk
        generalize normalC cs (ts.getD k []) = NC at *
        generalize ts.getD k [] = T at *
        generalize gasF (fop .quo .f32 pq sixG) cs ts k = NX at *
        generalize T.getD 0 0 = j0 at *
        generalize T.getD 1 0 = j1 at *
        generalize T.getD 2 0 = j2 at *
        have JN := Lib.hid hJN
        rw [Nat.add_zero] at z0
        have lm0 := fun ob => cell_alloc (o := ob) m0
        have lm1 := fun ob => cell_alloc (o := ob) m1
        have STC := Lib.hid (ST.out.box (vs := [.int .i64 j0, .int .i64 j1, .int .i64 j2]) (t := 116))
        clear hJN
        go_wp2_with fail
        clear m0 m1 lm0 lm1 z0 z1 z2
        change Hid (St w _ g _ (wr.alloc (.cells #[.int .i64 j0, .int .i64 j1, .int .i64 j2] 116))) at STC
        generalize (wr.alloc (.cells #[.int .i64 j0, .int .i64 j1, .int .i64 j2] 116)) = W4 at *
        generalize wr.heap.size = PC at *
        refine (JN.out _ (HP.out.below STC.out.bel)).mono ?_
        rintro e w5 ⟨x1, y1, z1, rfl, fx, fy, fz, hB5⟩
        have ST5 := Lib.hid (STC.out.call hB5)
        have F1 := Lib.hid (And.intro fx (And.intro fy fz))
        clear hB5 fx fy fz
        go_wp2_with fail
        refine (impl_ScaleVector _ _ _ _ _ _ _ _ _ F1.out.1 F1.out.2.1 F1.out.2.2 (FV_fR HPR.out six_FV)).mono ?_
        rintro e w6 ⟨x, y, z, rfl, fx, fy, fz, hB6⟩
        obtain ⟨F, hF⟩ : ∃ F, F = gasS NC (fop .quo .f32 pq sixG) := ⟨_, rfl⟩
        have FF : Hid (F3 x y z F) := Lib.hid (by rw [hF]; exact ⟨fx, fy, fz⟩)
        rw [← hF] at HSK
        have ST6 := Lib.hid ((ST5.out.drewN _).call hB6)
        clear hB6 fx fy fz hF
        have STP := Lib.hid (ST6.out.box (vs := [.float .f32 x, .float .f32 y, .float .f32 z]) (t := 28))
        have c0 := (ST6.out.mem (.head _)) 0 _ rfl
        have c1 := (ST6.out.mem (.head _)) 1 _ rfl
        have c2 := (ST6.out.mem (.head _)) 2 _ rfl
        have lc0 := fun ob => cell_alloc (o := ob) c0
        have lc1 := fun ob => cell_alloc (o := ob) c1
        have lc2 := fun ob => cell_alloc (o := ob) c2
        go_wp2
        clear c0 c1 c2 lc0 lc1 lc2
        change Hid (St w _ g _ (w6.alloc (.cells #[.float .f32 x, .float .f32 y, .float .f32 z] 28))) at STP
        generalize (w6.alloc (.cells #[.float .f32 x, .float .f32 y, .float .f32 z] 28)) = W7 at *
        generalize w6.heap.size = PF at *
        go_loopw [33] (fun i w' => ∃ j : Nat, j ≤ 3 ∧ i = .int .i64 j ∧ Aside (St w ((PF, [.float .f32 x, .float .f32 y, .float .f32 z]) :: (PC, [.int .i64 j0, .int .i64 j1, .int .i64 j2]) :: (cb, csL tl ts) :: [(w.heap.size, [.slice pa pl pc, .slice ta tl tc])]) g (gas3 F NX T j) w')) (fun i _ => 3 - (intOf i).toNat)
        case atStart => exact ⟨0, Nat.zero_le _, rfl, STP.out⟩
        case round =>
          obtain ⟨j, hj, rfl, hA⟩ := hrel
          have SJ := Lib.hid hA.out
          clear hA
          have hin := HIN.out
          by_cases hj3 : j < 3
          · have hj0 : (0 : Int) ≤ (j : Int) := by omega
            have hj1 : (j : Int) < 3 := by omega
            have hix := HIX.out j hj3
            have hJ := hin j hj3
            have hsn : gas3 F NX T (j + 1) = gasP F (gas3 F NX T j) (T.getD j 0) := rfl
            have hlx := gas3_len F NX T j
            have hNXl := HNL.out
            generalize T.getD j 0 = J at *
            have p0 : (0 : Int) ≤ J := hJ.1
            have p1 : J < (pl : Int) := by have := hJ.2; omega
            have LT : Hid (J.toNat < (gas3 F NX T j).length) := Lib.hid (by rw [hlx, hNXl]; exact hJ.2)
            unfold gasP at hsn
            obtain ⟨NP, hNP⟩ : ∃ NP, (gas3 F NX T j).getD J.toNat c0 = NP := ⟨_, rfl⟩
            rw [hNP] at hsn
            have HSN := Lib.hid hsn
            generalize gas3 F NX T j = NY at *
            have HNP := Lib.hid hNP
            clear hJ hsn hlx hNXl hNP
            clear hin
            go_wp2_with fail
            clear hix
            refine Reg3.wp_region_mix (C := St w ((PF, [.float .f32 x, .float .f32 y, .float .f32 z]) :: (PC, [.int .i64 j0, .int .i64 j1, .int .i64 j2]) :: (cb, csL tl ts) :: [(w.heap.size, [.slice pa pl pc, .slice ta tl tc])]) g NY) (G := fun _ _ => True) (R := fun i v w' => match i with | 0 => v = .slice (some ⟨g, 0, none⟩) pl pl | 1 => v = .int .i64 J | 2 => v = .slice (some ⟨g, 0, none⟩) pl pl | 3 => v = .int .i64 J | 4 => v = .pointer (some ⟨g, J.toNat * 3, none⟩) | 5 => ∃ p q r, v = vv p q r ∧ F3 p q r NP | 6 => v = .agg #[.float .f32 x, .float .f32 y, .float .f32 z] | 7 => ∃ p q r, v = vv p q r ∧ F3 p q r (sumV NP F) | 8 => v = .pointer (some ⟨g, J.toNat * 3, none⟩) | _ => True) (T := fun _ _ w' => St w ((PF, [.float .f32 x, .float .f32 y, .float .f32 z]) :: (PC, [.int .i64 j0, .int .i64 j1, .int .i64 j2]) :: (cb, csL tl ts) :: [(w.heap.size, [.slice pa pl pc, .slice ta tl tc])]) g (NY.set J.toNat (sumV NP F)) w') [false, false, false, false, false, false, false, false, false, false, false, false, false, false, false, false, false, false, false, false, false, false, false, false, false, false, false, false, false, false, false, false, false, false, false, false, true, true, true, true, true, true, true, true, true, false, false, false]
              (by kernel_rfl) (by kernel_rfl) (by kernel_rfl) (fun _ _ _ _ _ _ h => h) (SJ.out.drewN 1) ?_ ?_
            · refine ⟨Reg3.Obl.mk ?_, Reg3.Obl.mk ?_, Reg3.Obl.mk ?_, Reg3.Obl.mk ?_, Reg3.Obl.mk ?_, Reg3.Obl.mk ?_, Reg3.Obl.mk ?_, Reg3.Obl.mk ?_, Reg3.Obl.mk ?_, Reg3.Obl.mk ?_, trivial⟩
              · rintro a w1 hC hx hd K hK
                have HC := Lib.hid hC
                clear hC
                have t6 : a.tmps[6]?.getD undef = .slice (some ⟨g, 0, none⟩) pl pl := Reg.slot_val (hx 6 (by kernel_rfl))
                go_simp
                exact hK _ _ (fun _ => rfl) (fun h => by cases h) (fun _ => HC.out) trivial
              · rintro a w1 hC hx hd K hK
                have HC := Lib.hid hC
                clear hC
                have t11 : a.tmps[11]?.getD undef = .int .i64 J := Reg.slot_val (hx 11 (by kernel_rfl))
                go_simp
                exact hK _ _ (fun _ => rfl) (fun h => by cases h) (fun _ => HC.out) trivial
              · rintro a w1 hC hx hd K hK
                have HC := Lib.hid hC
                clear hC
                have t6 : a.tmps[6]?.getD undef = .slice (some ⟨g, 0, none⟩) pl pl := Reg.slot_val (hx 6 (by kernel_rfl))
                go_simp
                exact hK _ _ (fun _ => rfl) (fun h => by cases h) (fun _ => HC.out) trivial
              · rintro a w1 hC hx hd K hK
                have HC := Lib.hid hC
                clear hC
                have t11 : a.tmps[11]?.getD undef = .int .i64 J := Reg.slot_val (hx 11 (by kernel_rfl))
                go_simp
                exact hK _ _ (fun _ => rfl) (fun h => by cases h) (fun _ => HC.out) trivial
              · rintro a w1 hC hx hd K hK
                have HC := Lib.hid hC
                clear hC
                have t38 : a.tmps[38]?.getD undef = .slice (some ⟨g, 0, none⟩) pl pl := Reg.slot_val (hd 2 (by kernel_rfl) 38 rfl)
                have t39 : a.tmps[39]?.getD undef = .int .i64 J := Reg.slot_val (hd 3 (by kernel_rfl) 39 rfl)
                go_simp
                exact hK _ _ (fun _ => rfl) (fun h => by cases h) (fun _ => HC.out) trivial
              · rintro a w1 hC hx hd K hK
                have HC := Lib.hid hC
                clear hC
                obtain ⟨pp, qq, rr, ⟨y0, y1, y2⟩, hf⟩ := HC.out.own.at (k := J.toNat) LT.out
                rw [HNP.out] at hf
                have t40 : a.tmps[40]?.getD undef = .pointer (some ⟨g, J.toNat * 3, none⟩) := Reg.slot_val (hd 4 (by kernel_rfl) 40 rfl)
                go_simp
                exact hK _ _ (fun _ => ⟨pp, qq, rr, rfl, hf⟩) (fun h => by cases h) (fun _ => HC.out) trivial
              · rintro a w1 hC hx hd K hK
                have HC := Lib.hid hC
                clear hC
                have y0 := (HC.out.mem (.head _)) 0 _ rfl
                have y1 := (HC.out.mem (.head _)) 1 _ rfl
                have y2 := (HC.out.mem (.head _)) 2 _ rfl
                have t9 : a.tmps[9]?.getD undef = .pointer (some ⟨PF, 0, none⟩) := Reg.slot_val (hx 9 (by kernel_rfl))
                go_simp
                exact hK _ _ (fun _ => rfl) (fun h => by cases h) (fun _ => HC.out) trivial
              · rintro a w1 hC hx hd K hK
                have HC := Lib.hid hC
                clear hC
                obtain ⟨p41, q41, r41, g41, f41⟩ := hd 5 (by kernel_rfl) 41 rfl
                have t41 := Reg.slot_val g41
                clear g41
                have t42 : a.tmps[42]?.getD undef = .agg #[.float .f32 x, .float .f32 y, .float .f32 z] := Reg.slot_val (hd 6 (by kernel_rfl) 42 rfl)
                go_simp
                refine (impl_AddVectors _ _ _ _ _ _ _ _ _ _ _ _ _ f41.1 f41.2.1 f41.2.2 FF.out.1 FF.out.2.1 FF.out.2.2).mono ?_
                rintro en w2 ⟨p', q', r', rfl, fp', fq', fr', hB2⟩
                exact hK _ _ (fun _ => ⟨p', q', r', rfl, fp', fq', fr'⟩) (fun h => by cases h) (fun _ => HC.out.call hB2) trivial
              · rintro a w1 hC hx hd K hK
                have HC := Lib.hid hC
                clear hC
                have t36 : a.tmps[36]?.getD undef = .slice (some ⟨g, 0, none⟩) pl pl := Reg.slot_val (hd 0 (by kernel_rfl) 36 rfl)
                have t37 : a.tmps[37]?.getD undef = .int .i64 J := Reg.slot_val (hd 1 (by kernel_rfl) 37 rfl)
                go_simp
                exact hK _ _ (fun _ => rfl) (fun h => by cases h) (fun _ => HC.out) trivial
              · rintro a w1 hC hx hd K hK
                have HC := Lib.hid hC
                clear hC
                have t44 : a.tmps[44]?.getD undef = .pointer (some ⟨g, J.toNat * 3, none⟩) := Reg.slot_val (hd 8 (by kernel_rfl) 44 rfl)
                obtain ⟨p43, q43, r43, g43, f43⟩ := hd 7 (by kernel_rfl) 43 rfl
                have t43 := Reg.slot_val g43
                clear g43
                obtain ⟨u0, u1, u2, ⟨x0, x1, x2⟩, _⟩ := HC.out.own.at (k := J.toNat) LT.out
                have k0 := HC.out.own.2.1 (J.toNat * 3)
                have k1 := HC.out.own.2.1 (J.toNat * 3 + 1)
                have k2 := HC.out.own.2.1 (J.toNat * 3 + 2)
                go_simp
                exact hK undef _ (fun h => absurd rfl h) (fun _ => HC.out.put LT.out f43) (fun h => absurd rfl h) trivial
            rintro f w8 hd hT
            have hS := hT 9 (by kernel_rfl) (by decide)
            simp only [Reg.mixL]
            have ST4 := Lib.hid hS
            clear hd hT hS
            go_wp2
            go_roundw
            case rel => exact ⟨j + 1, by omega, by go_num, by rw [HSN.out]; exact ST4.out⟩
            case measure => simp [intOf]; omega
          · obtain rfl : j = 3 := by omega
            clear hin
            have SK := Lib.hid SJ.out.drop.drop
            go_wp2
            go_roundw
            case rel => exact ⟨k + 1, by omega, by go_num, by rw [HSK.out]; exact SK.out⟩
            case measure => simp [intOf]; omega
      · obtain rfl : k = tl := by omega
        have hL := gasF_len (fop .quo .f32 pq sixG) cs ts k
        rw [hpl] at hL
        have hRV := RV.block (base := w.heap.size) (cap := pl) hgw (by rw [hL]; exact Nat.le_refl _) (by unfold maxLen; omega) ST.out.own
        rw [hL] at hRV
        have HRV := Lib.hid hRV
        clear hRV hL
        go_wp2
        go_ret2
        exact ⟨_, rfl, HRV.out, ST.out.bel⟩
end Go.Proofs.Ytljpjmkickkcpaa

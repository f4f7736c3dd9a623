/-
Texts in one: what HoldMesh stands on, part 35. Conditions: those of each.
-/
import Derived.Test.YtajglpkeojaelaaKHoldMesh34
import Derived.Lib.SliceRun
import Derived.Handy

/-
The law of bare bodies returns true: its walk. Conditions: none beyond that the mesh lies in memory.
-/
namespace Go.Proofs.Ytajglpkeojaelaa
open Go Fk Go.RowKit
set_option linter.unusedVariables false
set_option maxRecDepth 16000

/-- Boxes outside what is marked stay. -/
theorem Bx.away {w w1 w2 : World} {L : List (Nat × List Value)} {lo hi : Nat} (h : Bx w L w1) (hM : Mark lo hi w1 w2) (hl : w.heap.size ≤ lo) (ho : ∀ b l, (b, l) ∈ L → b < lo ∨ hi ≤ b) : Bx w L w2 :=
  ⟨h.1.trans (hM.below.mono hl), fun b l hm => ⟨fun i v hv => hM.cell (ho b l hm) ((h.2 b l hm).1 i v hv), fun i => by rw [hM.frozen _ _ (h.2 b l hm).2.2.1]; exact (h.2 b l hm).2.1 i, Nat.lt_of_lt_of_le (h.2 b l hm).2.2.1 hM.below.size, (h.2 b l hm).2.2.2⟩⟩
theorem Bx.lt {w w' : World} {L : List (Nat × List Value)} {b : Nat} {l : List Value} (h : Bx w L w') (hm : (b, l) ∈ L) : b < w'.heap.size := (h.2 b l hm).2.2.1
end Go.Proofs.Ytajglpkeojaelaa


/-
Marks in a body and in a list of vectors that follow. Conditions: the lists may be written.
-/
namespace Go.Proofs.Ytajglpkeojaelaa
open Go Fk Go.RowKit
set_option linter.unusedVariables false
set_option maxRecDepth 8000

theorem vec_own {lo hi Q n cap : Nat} {w : World} {ys : List C3} (h : IsVs w (some ⟨Q, 0, none⟩) n cap ys) (hf : ∀ i, w.frozen? ⟨Q, i, none⟩ = false) (h1 : lo ≤ Q) (h2 : Q < hi) (h3 : Q < w.heap.size) : Own lo hi w Q 0 (n * 3) := by
  refine ⟨h1, h2, h3, fun j hj => ⟨?_, hf _⟩⟩
  obtain ⟨p, q, r, k0, k1, k2, _⟩ := h.2.2.2.2 _ rfl (j / 3) (by omega)
  rw [addr_add', Nat.zero_add] at k0 k1 k2
  rw [Nat.zero_add]
  rcases (show j % 3 = 0 ∨ j % 3 = 1 ∨ j % 3 = 2 by omega) with e | e | e
  · rw [show j / 3 * 3 = j by omega] at k0; exact ⟨_, k0⟩
  · rw [show j / 3 * 3 + 1 = j by omega] at k1; exact ⟨_, k1⟩
  · rw [show j / 3 * 3 + 2 = j by omega] at k2; exact ⟨_, k2⟩
end Go.Proofs.Ytajglpkeojaelaa


/-
What holds leave of forces: the program and its model. Conditions: none beyond that all lie in memory.
-/
namespace Go.Proofs.Ytajglpkeojaelaa
open Go Fk Go.RowKit
set_option linter.unusedVariables false
set_option maxRecDepth 16000

def hofB (cs : List C3) (ts : List (List Int)) (hs : List HC) (fl : Nat) : Bool := areB cs ts hs && decide (fl = cs.length)
def hofL (cs : List C3) (ts : List (List Int)) (hs : List HC) (fs : List C3) (fl : Nat) : List C3 := bif hofB cs ts hs fl then leaveF hs fs else []
theorem clone_vecs (a : Option Addr) (n c : Nat) (cs : List C3) (w : World) (h : IsVs w a n c cs) (hn : n ≤ 1048576) :
    Calls Try.prog 91 #[.slice a n c] w fun e w' => (∃ v xs, e = .returned v ∧ w'.ownsRow w.heap.size 40 3 v n xs ∧ PV n xs cs) ∧ Below w.heap.size w w' := by
  obtain ⟨i0, hi, hz0, hz1, hz2⟩ := info_parts infoV
  obtain ⟨xs, x1, x2, x3, x4⟩ := vs_cells h
  have h0 := h.2.2.2.1
  have X2 := Lib.hid x2
  have X3 := Lib.hid x3
  have X4 := Lib.hid x4
  have X1 := Lib.hid x1
  clear x1 x2 x3 x4 h
  have q : ∀ (w : World) (a : Option Addr) (n c : Nat), (binOp .eql 36 (.slice a n c) (.slice none 0 0)).run Try.prog w = .ok (.bool a.isNone) w := fun w a n c => Lib.run_eql_slice_nil w _ _ a n c 0 0 Try.underlying36
  cases a with
  | none =>
    obtain ⟨rfl, rfl⟩ := h0 rfl
    go_enter Try.func91, Try.ntmps91
    go_wp2
    refine bodyPost_ret (v := .slice none 0 0) (by simp [results, Try.results91, go_sem]) rfl ?_
    exact ⟨⟨_, rfl, [], World.ownsRow_nil _ _ _ _, fun j hj => absurd hj (by omega)⟩, Below.refl _ _⟩
  | some x =>
    have HST := Lib.hid (World.ownsRow_lit (base := w.heap.size) (e := 40) (size := 3) w #[] 0 (Nat.le_refl _) (by decide) rfl)
    go_enter Try.func91, Try.ntmps91
    go_wp2_with (at_builtin; refine wpList_append_opt _ rfl _ _ 36 rfl w.heap.size 40 i0 (.agg #[.float .f32 0, .float .f32 0, .float .f32 0]) 3 12 Try.underlying36 hi hz0 hz1 hz2 rfl (by decide) _ 0 [] rfl HST.out (some x) n c xs rfl (fun h => by cases h) X1.out ?c2 ?c3 ?c4 ?c5 ?c6 ?_)
    case c2 =>
      intro j u hu
      have := X2.out x rfl j u hu
      rw [World.cell?_alloc_lt (h := World.block_lt_of_cell? _ _ this)]
      exact this
    case c3 => exact X3.out
    case c4 => unfold maxLen; omega
    case c5 => omega
    · intro v w1 hown hgrow
      have hown' : w1.ownsRow w.heap.size 40 3 v n xs := by simpa using hown
      have hB1 : Below w.heap.size w w1 := ((Below.refl _ _).alloc (Nat.le_refl _) _).grown hgrow (by simp) (fun k hk => by simp [Value.ownBlock] at hk; omega)
      have HO := Lib.hid hown'
      have HB := Lib.hid hB1
      clear hown hgrow hown' hB1
      go_wp2
      refine bodyPost_ret (v := v) (by simp [results, Try.results91, go_sem]) rfl ?_
      exact ⟨⟨v, xs, rfl, HO.out, X4.out⟩, HB.out⟩
theorem RV.low {base base' : Nat} {w : World} {v : Value} {X : List C3} (h : RV base w v X) (hb : base' ≤ base) : RV base' w v X := by
  obtain ⟨a, cap, e, h1, h2⟩ := h
  exact ⟨a, cap, e, h1, h2.imp id fun ⟨b, e, k1, k2, k3, k4⟩ => ⟨b, e, Nat.le_trans hb k1, k2, k3, k4⟩⟩
set_option maxHeartbeats 2000000 in
theorem spec_HoldForces (pa ta ha fa : Option Addr) (pl pc tl tc hl hc fl fc : Nat) (cs : List C3) (ts : List (List Int)) (hs : List HC) (fs : List C3) (w : World) (hp : IsVs w pa pl pc cs) (ht : IsTs w ta tl tc ts) (hh : IsHs w ha hl hc hs) (hf : IsVs w fa fl fc fs) (hb : fl ≤ 1048576) :
    Calls Try.prog 43 #[.agg #[.slice pa pl pc, .slice ta tl tc], .slice ha hl hc, .slice fa fl fc] w fun e w' => ∃ v, e = .returned (.tuple #[v, .bool (hofB cs ts hs fl)]) ∧ RV w.heap.size w' v (hofL cs ts hs fs fl) ∧ Below w.heap.size w w' := by
  have ui := Try.underlying38
  have uh := Try.underlying119
  have uv := Try.underlying40
  have hpl := hp.1
  have hhl := hh.1
  have hfl := hf.1
  have hm : hl ≤ 9223372036854775807 := by have h1 := hh.2.1; have h2 := hh.2.2.1; unfold maxLen at h2; omega
  have BX : Hid (Bx w [(w.heap.size, [.slice pa pl pc, .slice ta tl tc])] (w.alloc (.cells #[.slice pa pl pc, .slice ta tl tc] 38))) := Lib.hid ((Bx.nil w).box (vs := [.slice pa pl pc, .slice ta tl tc]) (t := 38))
  have J := Lib.hid (l04Are w.heap.size pa ta ha pl pc tl tc hl hc cs ts hs _ ((BX.out.mem (.head _)) 0 _ rfl) ((BX.out.mem (.head _)) 1 _ rfl) (hp.below BX.out.bel) (ht.below BX.out.bel) (hh.below BX.out.bel))
  have HH := Lib.hid hh
  have HF := Lib.hid hf
  have HG : Hid (areB cs ts hs = true → fl = pl → ∀ k, k < hl → inB fl (hs.getD k hd0).1 = true) := Lib.hid (fun h he k hk => by
    unfold areB at h
    simp only [Bool.and_eq_true] at h
    rw [hpl] at h
    rw [he]
    exact step_in (good_at h.2 (by omega)))
  unfold hofL hofB
  rw [hpl]
  clear hp ht hh hf
  cases hv : areB cs ts hs
  · rw [hv] at J
    clear hv HG
    show Calls _ _ _ _ (fun e w' => ∃ v, e = .returned (.tuple #[v, .bool false]) ∧ RV w.heap.size w' v [] ∧ Below w.heap.size w w')
    go_enter Try.func43, Try.ntmps43
    go_wp2_with fail
    refine J.out.mono ?_
    rintro e w1 ⟨rfl, hB1⟩
    have BX1 := Lib.hid (BX.out.call hB1)
    have m0 := (BX1.out.mem (.head _)) 0 _ rfl
    clear hB1
    go_wp2
    go_ret2
    exact ⟨_, rfl, RV.nil _ _, BX1.out.bel⟩
  · rw [hv] at J
    by_cases h0 : fl = pl
    · have HG := Lib.hid (HG.out hv h0)
      have e0 : ((fl : Int) == (pl : Int)) = true := by rw [h0]; simp
      have e0' : ((fl : Int) != (pl : Int)) = false := by rw [h0]; simp
      rw [decide_eq_true h0]
      clear hv h0
      show Calls _ _ _ _ (fun e w' => ∃ v, e = .returned (.tuple #[v, .bool true]) ∧ RV w.heap.size w' v (leaveF hs fs) ∧ Below w.heap.size w w')
      go_enter Try.func43, Try.ntmps43
      go_wp2_with fail
      refine J.out.mono ?_
      rintro e w1 ⟨rfl, hB1⟩
      have BX1 := Lib.hid (BX.out.call hB1)
      have m0 := (BX1.out.mem (.head _)) 0 _ rfl
      clear hB1 J
      have JF := Lib.hid (l04Forces ha fa hl hc fl fc hs fs w1 (HH.out.below BX1.out.bel) (HF.out.below BX1.out.bel) HG.out hb)
      go_wp2_with fail
      refine JF.out.mono ?_
      rintro e w2 ⟨v, rfl, hR, hB2⟩
      have HR := Lib.hid (hR.low BX1.out.bel.size)
      have BX2 := Lib.hid (BX1.out.call hB2)
      clear hR hB2
      go_wp2
      go_ret2
      exact ⟨_, rfl, HR.out, BX2.out.bel⟩
    · have e0 : ((fl : Int) == (pl : Int)) = false := beq_eq_false_iff_ne.2 (by omega)
      have e0' : ((fl : Int) != (pl : Int)) = true := by simp; omega
      rw [decide_eq_false h0]
      clear hv h0 HG
      show Calls _ _ _ _ (fun e w' => ∃ v, e = .returned (.tuple #[v, .bool false]) ∧ RV w.heap.size w' v [] ∧ Below w.heap.size w w')
      go_enter Try.func43, Try.ntmps43
      go_wp2_with fail
      refine J.out.mono ?_
      rintro e w1 ⟨rfl, hB1⟩
      have BX1 := Lib.hid (BX.out.call hB1)
      have m0 := (BX1.out.mem (.head _)) 0 _ rfl
      clear hB1
      go_wp2
      go_ret2
      exact ⟨_, rfl, RV.nil _ _, BX1.out.bel⟩
set_option maxHeartbeats 2000000 in
theorem impl_HoldForces (pa ta ha fa : Option Addr) (pl pc tl tc hl hc fl fc : Nat) (cs : List C3) (ts : List (List Int)) (hs : List HC) (fs : List C3) (w : World) (hp : IsVs w pa pl pc cs) (ht : IsTs w ta tl tc ts) (hh : IsHs w ha hl hc hs) (hf : IsVs w fa fl fc fs) (hb : fl ≤ 1048576) (hb' : hl ≤ 1048576) :
    Calls Try.prog 44 #[.agg #[.slice pa pl pc, .slice ta tl tc], .slice ha hl hc, .slice fa fl fc] w fun e w' => ∃ v, e = .returned (.tuple #[v, .bool (hofB cs ts hs fl)]) ∧ RV w.heap.size w' v (hofL cs ts hs fs fl) ∧ Below w.heap.size w w' := by
  have ui := Try.underlying38
  have uh := Try.underlying119
  have uv := Try.underlying40
  have hpl := hp.1
  have hhl := hh.1
  have hfl := hf.1
  have hm : hl ≤ 9223372036854775807 := by have h1 := hh.2.1; have h2 := hh.2.2.1; unfold maxLen at h2; omega
  have BX : Hid (Bx w [(w.heap.size, [.slice pa pl pc, .slice ta tl tc])] (w.alloc (.cells #[.slice pa pl pc, .slice ta tl tc] 38))) := Lib.hid ((Bx.nil w).box (vs := [.slice pa pl pc, .slice ta tl tc]) (t := 38))
  have J := Lib.hid (impl_AreHolds pa ta ha pl pc tl tc hl hc cs ts hs _ (hp.below BX.out.bel) (ht.below BX.out.bel) (hh.below BX.out.bel) hb')
  have HH := Lib.hid hh
  have HF := Lib.hid hf
  have a0 := (BX.out.mem (.head _)) 0 _ rfl
  have a1 := (BX.out.mem (.head _)) 1 _ rfl
  have HG : Hid (areB cs ts hs = true → fl = pl → ∀ k, k < hl → inB fl (hs.getD k hd0).1 = true) := Lib.hid (fun h he k hk => by
    unfold areB at h
    simp only [Bool.and_eq_true] at h
    rw [hpl] at h
    rw [he]
    exact step_in (good_at h.2 (by omega)))
  unfold hofL hofB
  rw [hpl]
  clear hp ht hh hf
  cases hv : areB cs ts hs
  · rw [hv] at J
    clear hv HG
    show Calls _ _ _ _ (fun e w' => ∃ v, e = .returned (.tuple #[v, .bool false]) ∧ RV w.heap.size w' v [] ∧ Below w.heap.size w w')
    go_enter Try.func44, Try.ntmps44
    go_wp2_with fail
    refine J.out.mono ?_
    rintro e w1 ⟨rfl, hB1⟩
    have BX1 := Lib.hid (BX.out.call hB1)
    have m0 := (BX1.out.mem (.head _)) 0 _ rfl
    clear hB1
    go_wp2
    go_ret2
    exact ⟨_, rfl, RV.nil _ _, BX1.out.bel⟩
  · rw [hv] at J
    by_cases h0 : fl = pl
    · have HG := Lib.hid (HG.out hv h0)
      have e0 : ((fl : Int) == (pl : Int)) = true := by rw [h0]; simp
      have e0' : ((fl : Int) != (pl : Int)) = false := by rw [h0]; simp
      rw [decide_eq_true h0]
      clear hv h0
      show Calls _ _ _ _ (fun e w' => ∃ v, e = .returned (.tuple #[v, .bool true]) ∧ RV w.heap.size w' v (leaveF hs fs) ∧ Below w.heap.size w w')
      go_enter Try.func44, Try.ntmps44
      go_wp2_with fail
      refine J.out.mono ?_
      rintro e w1 ⟨rfl, hB1⟩
      have BX1 := Lib.hid (BX.out.call hB1)
      have m0 := (BX1.out.mem (.head _)) 0 _ rfl
      clear hB1 J a0 a1
      have JC := Lib.hid (clone_vecs fa fl fc fs w1 (HF.out.below BX1.out.bel) hb)
      go_wp2_with fail
      clear m0
      refine JC.out.mono ?_
      rintro e w2 ⟨⟨v, xs, rfl, hown, hPV⟩, hB2⟩
      rcases own_block hown hPV hfl with ⟨rfl, hz⟩ | ⟨g, cap, rfl, hgb, hq1, hq2, hov⟩
      · have BX2 := Lib.hid (BX1.out.call hB2)
        have hl0 : hl = 0 := by
          by_cases h : hl = 0
          · exact h
          · have := of_decide_eq_true (HG.out 0 (by omega)); omega
        have hnil : leaveF hs fs = [] := List.eq_nil_of_length_eq_zero (by rw [leaveF_len]; omega)
        subst hl0
        clear hown hPV hB2
        go_wp2
        refine wp_loop_rounds 1 ?_
        rw [rounds_succ]
        go_wp2
        go_ret2
        exact ⟨_, rfl, by rw [hnil]; exact RV.nil _ _, BX2.out.bel⟩
      · have ST0 : Hid (St w [(w.heap.size, [.slice pa pl pc, .slice ta tl tc])] g (leaveF (hs.take 0) fs) w2) := Lib.hid (St.of BX1.out hB2 hgb hov)
        have hgw : w.heap.size ≤ g := Nat.le_trans BX1.out.bel.size hgb
        clear hown hPV hB2 hov hgb
        go_wp2
        go_loopw [27] (fun i w' => ∃ k : Nat, k ≤ hl ∧ i = .int .i64 k ∧ Aside (St w [(w.heap.size, [.slice pa pl pc, .slice ta tl tc])] g (leaveF (hs.take k) fs) w')) (fun i _ => hl - (intOf i).toNat)
        case atStart => exact ⟨0, Nat.zero_le _, rfl, ST0.out⟩
        case round =>
          obtain ⟨k, hk, rfl, hA⟩ := hrel
          have ST := Lib.hid hA.out
          clear hA
          by_cases hlt : k < hl
          · skip
            obtain ⟨b, o, hha, hcell⟩ := HH.out.some (by omega)
            obtain ⟨h, hq, hi⟩ := hcell k hlt
            have hlk : k < hs.length := by omega
            have hk0 : (0 : Int) ≤ (k : Int) := by omega
            have hk1 : (k : Int) < (hl : Int) := by omega
            have hin := of_decide_eq_true (HG.out k hlt)
            have hpz : h.p = (hs.getD k hd0).1 := hi.1
            rw [← hpz] at hin
            have p0 : (0 : Int) ≤ h.p := hin.1
            have p1 : h.p < (fl : Int) := by omega
            have LT : Hid (h.p.toNat < (leaveF (hs.take k) fs).length) := Lib.hid (by rw [leaveF_len]; omega)
            have hsn := leaveF_snoc hs fs k hlk
            unfold leave1 at hsn
            rw [← hpz] at hsn
            have hnl := leaveF_len (hs.take k) fs
            have HSN := Lib.hid hsn
            have HNL := Lib.hid hnl
            have HI := Lib.hid hi
            obtain ⟨NP, hNP⟩ : ∃ NP, (leaveF (hs.take k) fs).getD h.p.toNat c0 = NP := ⟨_, rfl⟩
            rw [hNP] at HSN
            generalize hs.getD k hd0 = HCk at *
            generalize leaveF (hs.take k) fs = NX at *
            have HNP := Lib.hid hNP
            have QH := Lib.hid hq
            clear hcell hin hpz hsn hnl hi hNP
            rw [hha]
            have HPA := Lib.hid hha
            clear hha
            have HQW := QH.out.below ST.out.bel
            have c0 := HQW 0 (by omega)
            have c1 := HQW 1 (by omega)
            have c2 := HQW 2 (by omega)
            have c3 := HQW 3 (by omega)
            have c4 := HQW 4 (by omega)
            have c5 := HQW 5 (by omega)
            have c6 := HQW 6 (by omega)
            have c7 := HQW 7 (by omega)
            simp only [HW.l, List.getElem?_cons_zero, List.getElem?_cons_succ, Nat.add_zero] at c0 c1 c2 c3 c4 c5 c6 c7
            have ST1 := Lib.hid (ST.out.box (vs := h.l) (t := 119))
            clear hq HQW
            go_wp2_with fail
            clear c0 c1 c2 c3 c4 c5 c6 c7
            change Hid (St w _ g _ (wr.alloc (HBox h 119))) at ST1
            change (Code.region _ _ _).wp _ _ _ (wr.alloc (HBox h 119))
            generalize (wr.alloc (HBox h 119)) = W3 at *
            generalize wr.heap.size = PB at *
            have JR := fun w => impl_restraint h w
            have hck : h.k = HCk.2.1 := HI.out.2.1
            by_cases hk1 : h.k = 1
            · have hc1 : HCk.2.1 = 1 := by rw [← hck]; exact hk1
              unfold ifV at JR
              rw [if_pos hk1] at JR
              have JR := Lib.hid JR
              have hlv : leaveC HCk NP = alongC HCk NP := by unfold leaveC; rw [if_pos hc1]
              rw [hlv] at HSN
              clear hlv hk1 hc1 hck
              refine Reg3.wp_region_mix (C := St w ((PB, h.l) :: [(w.heap.size, [.slice pa pl pc, .slice ta tl tc])]) g NX) (G := fun _ _ => True) (R := fun i v w' => match i with | 0 => v = .slice (some ⟨g, 0, none⟩) fl cap | 1 => v = .pointer (some ⟨PB, 0, none⟩) | 2 => v = .int .i64 h.p | 3 => v = .agg #[.int .i64 h.p, .int .i64 h.k, .float .f32 h.x, .float .f32 h.y, .float .f32 h.z, .float .f32 h.s, .float .f32 h.t, .float .f32 h.u] | 4 => v = .iface 178 (.agg #[.int .i64 h.p, .int .i64 h.k, .float .f32 h.x, .float .f32 h.y, .float .f32 h.z, .float .f32 h.s, .float .f32 h.t, .float .f32 h.u]) | 5 => v = .slice (some ⟨g, 0, none⟩) fl cap | 6 => v = .pointer (some ⟨PB, 0, none⟩) | 7 => v = .int .i64 h.p | 8 => v = .pointer (some ⟨g, h.p.toNat * 3, none⟩) | 9 => ∃ p q r, v = vv p q r ∧ F3 p q r NP | 10 => v = .func (.method "loop.example/g01222/impl.leaves") #[.iface 178 (.agg #[.int .i64 h.p, .int .i64 h.k, .float .f32 h.x, .float .f32 h.y, .float .f32 h.z, .float .f32 h.s, .float .f32 h.t, .float .f32 h.u])] #[] | 11 => v = .func (.method "loop.example/g01222/impl.leaves") #[.iface 178 (.agg #[.int .i64 h.p, .int .i64 h.k, .float .f32 h.x, .float .f32 h.y, .float .f32 h.z, .float .f32 h.s, .float .f32 h.t, .float .f32 h.u])] #[] | 12 => v = .iface 178 (.agg #[.int .i64 h.p, .int .i64 h.k, .float .f32 h.x, .float .f32 h.y, .float .f32 h.z, .float .f32 h.s, .float .f32 h.t, .float .f32 h.u]) | 13 => ∃ p q r, v = vv p q r ∧ F3 p q r (alongC HCk NP) | 14 => v = .pointer (some ⟨g, h.p.toNat * 3, none⟩) | _ => True) (T := fun _ _ w' => St w ((PB, h.l) :: [(w.heap.size, [.slice pa pl pc, .slice ta tl tc])]) g (NX.set h.p.toNat (alongC HCk NP)) w') [false, false, false, false, false, false, false, false, false, false, false, false, false, false, false, false, false, false, false, false, false, false, false, false, false, false, false, false, false, false, false, true, true, true, true, true, true, true, true, true, true, true, true, true, true, true, false, false]
                (by kernel_rfl) (by kernel_rfl) (by kernel_rfl) (fun _ _ _ _ _ _ h => h) (ST1.out.drewN 1) ?_ ?_
              · refine ⟨Reg3.Obl.mk ?_, Reg3.Obl.mk ?_, Reg3.Obl.mk ?_, Reg3.Obl.mk ?_, Reg3.Obl.mk ?_, Reg3.Obl.mk ?_, Reg3.Obl.mk ?_, Reg3.Obl.mk ?_, Reg3.Obl.mk ?_, Reg3.Obl.mk ?_, Reg3.Obl.mk ?_, Reg3.Obl.mk ?_, Reg3.Obl.mk ?_, Reg3.Obl.mk ?_, Reg3.Obl.mk ?_, Reg3.Obl.mk ?_, trivial⟩
                · rintro a w1 hC hx hd K hK
                  have HC := Lib.hid hC
                  clear hC
                  have t8 : a.tmps[8]?.getD undef = .slice (some ⟨g, 0, none⟩) fl cap := Reg.slot_val (hx 8 (by kernel_rfl))
                  go_simp
                  exact hK _ _ (fun _ => rfl) (fun h => by cases h) (fun _ => HC.out) trivial
                · rintro a w1 hC hx hd K hK
                  have HC := Lib.hid hC
                  clear hC
                  have t10 : a.tmps[10]?.getD undef = .pointer (some ⟨PB, 0, none⟩) := Reg.slot_val (hx 10 (by kernel_rfl))
                  go_simp
                  exact hK _ _ (fun _ => rfl) (fun h => by cases h) (fun _ => HC.out) trivial
                · rintro a w1 hC hx hd K hK
                  have HC := Lib.hid hC
                  clear hC
                  have y0 := (HC.out.mem (.head _)) 0 _ rfl
                  have t32 : a.tmps[32]?.getD undef = .pointer (some ⟨PB, 0, none⟩) := Reg.slot_val (hd 1 (by kernel_rfl) 32 rfl)
                  go_simp
                  exact hK _ _ (fun _ => rfl) (fun h => by cases h) (fun _ => HC.out) trivial
                · rintro a w1 hC hx hd K hK
                  have HC := Lib.hid hC
                  clear hC
                  have y0 := (HC.out.mem (.head _)) 0 _ rfl
                  have y1 := (HC.out.mem (.head _)) 1 _ rfl
                  have y2 := (HC.out.mem (.head _)) 2 _ rfl
                  have y3 := (HC.out.mem (.head _)) 3 _ rfl
                  have y4 := (HC.out.mem (.head _)) 4 _ rfl
                  have y5 := (HC.out.mem (.head _)) 5 _ rfl
                  have y6 := (HC.out.mem (.head _)) 6 _ rfl
                  have y7 := (HC.out.mem (.head _)) 7 _ rfl
                  have t10 : a.tmps[10]?.getD undef = .pointer (some ⟨PB, 0, none⟩) := Reg.slot_val (hx 10 (by kernel_rfl))
                  go_simp
                  exact hK _ _ (fun _ => rfl) (fun h => by cases h) (fun _ => HC.out) trivial
                · rintro a w1 hC hx hd K hK
                  have HC := Lib.hid hC
                  clear hC
                  have t34 : a.tmps[34]?.getD undef = .agg #[.int .i64 h.p, .int .i64 h.k, .float .f32 h.x, .float .f32 h.y, .float .f32 h.z, .float .f32 h.s, .float .f32 h.t, .float .f32 h.u] := Reg.slot_val (hd 3 (by kernel_rfl) 34 rfl)
                  go_simp
                  refine (JR.out _).mono ?_
                  rintro en w2 ⟨rfl, hB2⟩
                  exact hK _ _ (fun _ => rfl) (fun h => by cases h) (fun _ => HC.out.call hB2) trivial
                · rintro a w1 hC hx hd K hK
                  have HC := Lib.hid hC
                  clear hC
                  have t8 : a.tmps[8]?.getD undef = .slice (some ⟨g, 0, none⟩) fl cap := Reg.slot_val (hx 8 (by kernel_rfl))
                  go_simp
                  exact hK _ _ (fun _ => rfl) (fun h => by cases h) (fun _ => HC.out) trivial
                · rintro a w1 hC hx hd K hK
                  have HC := Lib.hid hC
                  clear hC
                  have t10 : a.tmps[10]?.getD undef = .pointer (some ⟨PB, 0, none⟩) := Reg.slot_val (hx 10 (by kernel_rfl))
                  go_simp
                  exact hK _ _ (fun _ => rfl) (fun h => by cases h) (fun _ => HC.out) trivial
                · rintro a w1 hC hx hd K hK
                  have HC := Lib.hid hC
                  clear hC
                  have y0 := (HC.out.mem (.head _)) 0 _ rfl
                  have t37 : a.tmps[37]?.getD undef = .pointer (some ⟨PB, 0, none⟩) := Reg.slot_val (hd 6 (by kernel_rfl) 37 rfl)
                  go_simp
                  exact hK _ _ (fun _ => rfl) (fun h => by cases h) (fun _ => HC.out) trivial
                · rintro a w1 hC hx hd K hK
                  have HC := Lib.hid hC
                  clear hC
                  have t36 : a.tmps[36]?.getD undef = .slice (some ⟨g, 0, none⟩) fl cap := Reg.slot_val (hd 5 (by kernel_rfl) 36 rfl)
                  have t38 : a.tmps[38]?.getD undef = .int .i64 h.p := Reg.slot_val (hd 7 (by kernel_rfl) 38 rfl)
                  go_simp
                  exact hK _ _ (fun _ => rfl) (fun h => by cases h) (fun _ => HC.out) trivial
                · rintro a w1 hC hx hd K hK
                  have HC := Lib.hid hC
                  clear hC
                  obtain ⟨pp, qq, rr, ⟨y0, y1, y2⟩, hf⟩ := HC.out.own.at (k := h.p.toNat) LT.out
                  rw [HNP.out] at hf
                  have t39 : a.tmps[39]?.getD undef = .pointer (some ⟨g, h.p.toNat * 3, none⟩) := Reg.slot_val (hd 8 (by kernel_rfl) 39 rfl)
                  go_simp
                  exact hK _ _ (fun _ => ⟨pp, qq, rr, rfl, hf⟩) (fun h => by cases h) (fun _ => HC.out) trivial
                · rintro a w1 hC hx hd K hK
                  have HC := Lib.hid hC
                  clear hC
                  have t35 : a.tmps[35]?.getD undef = .iface 178 (.agg #[.int .i64 h.p, .int .i64 h.k, .float .f32 h.x, .float .f32 h.y, .float .f32 h.z, .float .f32 h.s, .float .f32 h.t, .float .f32 h.u]) := Reg.slot_val (hd 4 (by kernel_rfl) 35 rfl)
                  go_simp
                  exact hK _ _ (fun _ => rfl) (fun h => by cases h) (fun _ => HC.out) trivial
                · rintro a w1 hC hx hd K hK
                  have HC := Lib.hid hC
                  clear hC
                  have t41 : a.tmps[41]?.getD undef = .func (.method "loop.example/g01222/impl.leaves") #[.iface 178 (.agg #[.int .i64 h.p, .int .i64 h.k, .float .f32 h.x, .float .f32 h.y, .float .f32 h.z, .float .f32 h.s, .float .f32 h.t, .float .f32 h.u])] #[] := Reg.slot_val (hd 10 (by kernel_rfl) 41 rfl)
                  go_simp
                  exact hK _ _ (fun _ => rfl) (fun h => by cases h) (fun _ => HC.out) trivial
                · rintro a w1 hC hx hd K hK
                  have HC := Lib.hid hC
                  clear hC
                  have t35 : a.tmps[35]?.getD undef = .iface 178 (.agg #[.int .i64 h.p, .int .i64 h.k, .float .f32 h.x, .float .f32 h.y, .float .f32 h.z, .float .f32 h.s, .float .f32 h.t, .float .f32 h.u]) := Reg.slot_val (hd 4 (by kernel_rfl) 35 rfl)
                  go_simp
                  exact hK _ _ (fun _ => rfl) (fun h => by cases h) (fun _ => HC.out) trivial
                · rintro a w1 hC hx hd K hK
                  have HC := Lib.hid hC
                  clear hC
                  obtain ⟨p40, q40, r40, g40, f40⟩ := hd 9 (by kernel_rfl) 40 rfl
                  have t40 := Reg.slot_val g40
                  clear g40
                  have t43 : a.tmps[43]?.getD undef = .iface 178 (.agg #[.int .i64 h.p, .int .i64 h.k, .float .f32 h.x, .float .f32 h.y, .float .f32 h.z, .float .f32 h.s, .float .f32 h.t, .float .f32 h.u]) := Reg.slot_val (hd 12 (by kernel_rfl) 43 rfl)
                  go_simp
                  try go_invoke
                  refine (impl_line h HCk _ _ _ _ _ HI.out f40).mono ?_
                  rintro en w2 ⟨p', q', r', rfl, hF, hB2⟩
                  exact hK _ _ (fun _ => ⟨p', q', r', rfl, hF⟩) (fun h => by cases h) (fun _ => HC.out.call hB2) trivial
                · rintro a w1 hC hx hd K hK
                  have HC := Lib.hid hC
                  clear hC
                  have t31 : a.tmps[31]?.getD undef = .slice (some ⟨g, 0, none⟩) fl cap := Reg.slot_val (hd 0 (by kernel_rfl) 31 rfl)
                  have t33 : a.tmps[33]?.getD undef = .int .i64 h.p := Reg.slot_val (hd 2 (by kernel_rfl) 33 rfl)
                  go_simp
                  exact hK _ _ (fun _ => rfl) (fun h => by cases h) (fun _ => HC.out) trivial
                · rintro a w1 hC hx hd K hK
                  have HC := Lib.hid hC
                  clear hC
                  have t45 : a.tmps[45]?.getD undef = .pointer (some ⟨g, h.p.toNat * 3, none⟩) := Reg.slot_val (hd 14 (by kernel_rfl) 45 rfl)
                  obtain ⟨p44, q44, r44, g44, f44⟩ := hd 13 (by kernel_rfl) 44 rfl
                  have t44 := Reg.slot_val g44
                  clear g44
                  obtain ⟨u0, u1, u2, ⟨x0, x1, x2⟩, _⟩ := HC.out.own.at (k := h.p.toNat) LT.out
                  have k0 := HC.out.own.2.1 (h.p.toNat * 3)
                  have k1 := HC.out.own.2.1 (h.p.toNat * 3 + 1)
                  have k2 := HC.out.own.2.1 (h.p.toNat * 3 + 2)
                  go_simp
                  exact hK undef _ (fun h => absurd rfl h) (fun _ => HC.out.put LT.out f44) (fun h => absurd rfl h) trivial
              rintro f w4 hd hT
              have hS := hT 15 (by kernel_rfl) (by decide)
              simp only [Reg.mixL]
              have ST2 := Lib.hid hS.drop
              clear hd hT hS
              go_wp2
              go_roundw
              case rel => exact ⟨k + 1, by omega, by go_num, by rw [HSN.out]; exact ST2.out⟩
              case measure => simp [intOf]; omega
            · have hc1 : HCk.2.1 ≠ 1 := by rw [← hck]; exact hk1
              by_cases hk2 : h.k = 2
              · have hc2 : HCk.2.1 = 2 := by rw [← hck]; exact hk2
                unfold ifV at JR
                rw [if_neg hk1, if_pos hk2] at JR
                have JR := Lib.hid JR
                have hlv : leaveC HCk NP = subC NP (alongC HCk NP) := by unfold leaveC; rw [if_neg hc1, if_pos hc2]
                rw [hlv] at HSN
                clear hlv hk1 hc1 hk2 hc2 hck
                refine Reg3.wp_region_mix (C := St w ((PB, h.l) :: [(w.heap.size, [.slice pa pl pc, .slice ta tl tc])]) g NX) (G := fun _ _ => True) (R := fun i v w' => match i with | 0 => v = .slice (some ⟨g, 0, none⟩) fl cap | 1 => v = .pointer (some ⟨PB, 0, none⟩) | 2 => v = .int .i64 h.p | 3 => v = .agg #[.int .i64 h.p, .int .i64 h.k, .float .f32 h.x, .float .f32 h.y, .float .f32 h.z, .float .f32 h.s, .float .f32 h.t, .float .f32 h.u] | 4 => v = .iface 180 (.agg #[.int .i64 h.p, .int .i64 h.k, .float .f32 h.x, .float .f32 h.y, .float .f32 h.z, .float .f32 h.s, .float .f32 h.t, .float .f32 h.u]) | 5 => v = .slice (some ⟨g, 0, none⟩) fl cap | 6 => v = .pointer (some ⟨PB, 0, none⟩) | 7 => v = .int .i64 h.p | 8 => v = .pointer (some ⟨g, h.p.toNat * 3, none⟩) | 9 => ∃ p q r, v = vv p q r ∧ F3 p q r NP | 10 => v = .func (.method "loop.example/g01222/impl.leaves") #[.iface 180 (.agg #[.int .i64 h.p, .int .i64 h.k, .float .f32 h.x, .float .f32 h.y, .float .f32 h.z, .float .f32 h.s, .float .f32 h.t, .float .f32 h.u])] #[] | 11 => v = .func (.method "loop.example/g01222/impl.leaves") #[.iface 180 (.agg #[.int .i64 h.p, .int .i64 h.k, .float .f32 h.x, .float .f32 h.y, .float .f32 h.z, .float .f32 h.s, .float .f32 h.t, .float .f32 h.u])] #[] | 12 => v = .iface 180 (.agg #[.int .i64 h.p, .int .i64 h.k, .float .f32 h.x, .float .f32 h.y, .float .f32 h.z, .float .f32 h.s, .float .f32 h.t, .float .f32 h.u]) | 13 => ∃ p q r, v = vv p q r ∧ F3 p q r (subC NP (alongC HCk NP)) | 14 => v = .pointer (some ⟨g, h.p.toNat * 3, none⟩) | _ => True) (T := fun _ _ w' => St w ((PB, h.l) :: [(w.heap.size, [.slice pa pl pc, .slice ta tl tc])]) g (NX.set h.p.toNat (subC NP (alongC HCk NP))) w') [false, false, false, false, false, false, false, false, false, false, false, false, false, false, false, false, false, false, false, false, false, false, false, false, false, false, false, false, false, false, false, true, true, true, true, true, true, true, true, true, true, true, true, true, true, true, false, false]
                  (by kernel_rfl) (by kernel_rfl) (by kernel_rfl) (fun _ _ _ _ _ _ h => h) (ST1.out.drewN 1) ?_ ?_
                · refine ⟨Reg3.Obl.mk ?_, Reg3.Obl.mk ?_, Reg3.Obl.mk ?_, Reg3.Obl.mk ?_, Reg3.Obl.mk ?_, Reg3.Obl.mk ?_, Reg3.Obl.mk ?_, Reg3.Obl.mk ?_, Reg3.Obl.mk ?_, Reg3.Obl.mk ?_, Reg3.Obl.mk ?_, Reg3.Obl.mk ?_, Reg3.Obl.mk ?_, Reg3.Obl.mk ?_, Reg3.Obl.mk ?_, Reg3.Obl.mk ?_, trivial⟩
                  · rintro a w1 hC hx hd K hK
                    have HC := Lib.hid hC
                    clear hC
                    have t8 : a.tmps[8]?.getD undef = .slice (some ⟨g, 0, none⟩) fl cap := Reg.slot_val (hx 8 (by kernel_rfl))
                    go_simp
                    exact hK _ _ (fun _ => rfl) (fun h => by cases h) (fun _ => HC.out) trivial
                  · rintro a w1 hC hx hd K hK
                    have HC := Lib.hid hC
                    clear hC
                    have t10 : a.tmps[10]?.getD undef = .pointer (some ⟨PB, 0, none⟩) := Reg.slot_val (hx 10 (by kernel_rfl))
                    go_simp
                    exact hK _ _ (fun _ => rfl) (fun h => by cases h) (fun _ => HC.out) trivial
                  · rintro a w1 hC hx hd K hK
                    have HC := Lib.hid hC
                    clear hC
                    have y0 := (HC.out.mem (.head _)) 0 _ rfl
                    have t32 : a.tmps[32]?.getD undef = .pointer (some ⟨PB, 0, none⟩) := Reg.slot_val (hd 1 (by kernel_rfl) 32 rfl)
                    go_simp
                    exact hK _ _ (fun _ => rfl) (fun h => by cases h) (fun _ => HC.out) trivial
                  · rintro a w1 hC hx hd K hK
                    have HC := Lib.hid hC
                    clear hC
                    have y0 := (HC.out.mem (.head _)) 0 _ rfl
                    have y1 := (HC.out.mem (.head _)) 1 _ rfl
                    have y2 := (HC.out.mem (.head _)) 2 _ rfl
                    have y3 := (HC.out.mem (.head _)) 3 _ rfl
                    have y4 := (HC.out.mem (.head _)) 4 _ rfl
                    have y5 := (HC.out.mem (.head _)) 5 _ rfl
                    have y6 := (HC.out.mem (.head _)) 6 _ rfl
                    have y7 := (HC.out.mem (.head _)) 7 _ rfl
                    have t10 : a.tmps[10]?.getD undef = .pointer (some ⟨PB, 0, none⟩) := Reg.slot_val (hx 10 (by kernel_rfl))
                    go_simp
                    exact hK _ _ (fun _ => rfl) (fun h => by cases h) (fun _ => HC.out) trivial
                  · rintro a w1 hC hx hd K hK
                    have HC := Lib.hid hC
                    clear hC
                    have t34 : a.tmps[34]?.getD undef = .agg #[.int .i64 h.p, .int .i64 h.k, .float .f32 h.x, .float .f32 h.y, .float .f32 h.z, .float .f32 h.s, .float .f32 h.t, .float .f32 h.u] := Reg.slot_val (hd 3 (by kernel_rfl) 34 rfl)
                    go_simp
                    refine (JR.out _).mono ?_
                    rintro en w2 ⟨rfl, hB2⟩
                    exact hK _ _ (fun _ => rfl) (fun h => by cases h) (fun _ => HC.out.call hB2) trivial
                  · rintro a w1 hC hx hd K hK
                    have HC := Lib.hid hC
                    clear hC
                    have t8 : a.tmps[8]?.getD undef = .slice (some ⟨g, 0, none⟩) fl cap := Reg.slot_val (hx 8 (by kernel_rfl))
                    go_simp
                    exact hK _ _ (fun _ => rfl) (fun h => by cases h) (fun _ => HC.out) trivial
                  · rintro a w1 hC hx hd K hK
                    have HC := Lib.hid hC
                    clear hC
                    have t10 : a.tmps[10]?.getD undef = .pointer (some ⟨PB, 0, none⟩) := Reg.slot_val (hx 10 (by kernel_rfl))
                    go_simp
                    exact hK _ _ (fun _ => rfl) (fun h => by cases h) (fun _ => HC.out) trivial
                  · rintro a w1 hC hx hd K hK
                    have HC := Lib.hid hC
                    clear hC
                    have y0 := (HC.out.mem (.head _)) 0 _ rfl
                    have t37 : a.tmps[37]?.getD undef = .pointer (some ⟨PB, 0, none⟩) := Reg.slot_val (hd 6 (by kernel_rfl) 37 rfl)
                    go_simp
                    exact hK _ _ (fun _ => rfl) (fun h => by cases h) (fun _ => HC.out) trivial
                  · rintro a w1 hC hx hd K hK
                    have HC := Lib.hid hC
                    clear hC
                    have t36 : a.tmps[36]?.getD undef = .slice (some ⟨g, 0, none⟩) fl cap := Reg.slot_val (hd 5 (by kernel_rfl) 36 rfl)
                    have t38 : a.tmps[38]?.getD undef = .int .i64 h.p := Reg.slot_val (hd 7 (by kernel_rfl) 38 rfl)
                    go_simp
                    exact hK _ _ (fun _ => rfl) (fun h => by cases h) (fun _ => HC.out) trivial
                  · rintro a w1 hC hx hd K hK
                    have HC := Lib.hid hC
                    clear hC
                    obtain ⟨pp, qq, rr, ⟨y0, y1, y2⟩, hf⟩ := HC.out.own.at (k := h.p.toNat) LT.out
                    rw [HNP.out] at hf
                    have t39 : a.tmps[39]?.getD undef = .pointer (some ⟨g, h.p.toNat * 3, none⟩) := Reg.slot_val (hd 8 (by kernel_rfl) 39 rfl)
                    go_simp
                    exact hK _ _ (fun _ => ⟨pp, qq, rr, rfl, hf⟩) (fun h => by cases h) (fun _ => HC.out) trivial
                  · rintro a w1 hC hx hd K hK
                    have HC := Lib.hid hC
                    clear hC
                    have t35 : a.tmps[35]?.getD undef = .iface 180 (.agg #[.int .i64 h.p, .int .i64 h.k, .float .f32 h.x, .float .f32 h.y, .float .f32 h.z, .float .f32 h.s, .float .f32 h.t, .float .f32 h.u]) := Reg.slot_val (hd 4 (by kernel_rfl) 35 rfl)
                    go_simp
                    exact hK _ _ (fun _ => rfl) (fun h => by cases h) (fun _ => HC.out) trivial
                  · rintro a w1 hC hx hd K hK
                    have HC := Lib.hid hC
                    clear hC
                    have t41 : a.tmps[41]?.getD undef = .func (.method "loop.example/g01222/impl.leaves") #[.iface 180 (.agg #[.int .i64 h.p, .int .i64 h.k, .float .f32 h.x, .float .f32 h.y, .float .f32 h.z, .float .f32 h.s, .float .f32 h.t, .float .f32 h.u])] #[] := Reg.slot_val (hd 10 (by kernel_rfl) 41 rfl)
                    go_simp
                    exact hK _ _ (fun _ => rfl) (fun h => by cases h) (fun _ => HC.out) trivial
                  · rintro a w1 hC hx hd K hK
                    have HC := Lib.hid hC
                    clear hC
                    have t35 : a.tmps[35]?.getD undef = .iface 180 (.agg #[.int .i64 h.p, .int .i64 h.k, .float .f32 h.x, .float .f32 h.y, .float .f32 h.z, .float .f32 h.s, .float .f32 h.t, .float .f32 h.u]) := Reg.slot_val (hd 4 (by kernel_rfl) 35 rfl)
                    go_simp
                    exact hK _ _ (fun _ => rfl) (fun h => by cases h) (fun _ => HC.out) trivial
                  · rintro a w1 hC hx hd K hK
                    have HC := Lib.hid hC
                    clear hC
                    obtain ⟨p40, q40, r40, g40, f40⟩ := hd 9 (by kernel_rfl) 40 rfl
                    have t40 := Reg.slot_val g40
                    clear g40
                    have t43 : a.tmps[43]?.getD undef = .iface 180 (.agg #[.int .i64 h.p, .int .i64 h.k, .float .f32 h.x, .float .f32 h.y, .float .f32 h.z, .float .f32 h.s, .float .f32 h.t, .float .f32 h.u]) := Reg.slot_val (hd 12 (by kernel_rfl) 43 rfl)
                    go_simp
                    try go_invoke
                    refine (impl_plane h HCk _ _ _ _ _ HI.out f40).mono ?_
                    rintro en w2 ⟨p', q', r', rfl, hF, hB2⟩
                    exact hK _ _ (fun _ => ⟨p', q', r', rfl, hF⟩) (fun h => by cases h) (fun _ => HC.out.call hB2) trivial
                  · rintro a w1 hC hx hd K hK
                    have HC := Lib.hid hC
                    clear hC
                    have t31 : a.tmps[31]?.getD undef = .slice (some ⟨g, 0, none⟩) fl cap := Reg.slot_val (hd 0 (by kernel_rfl) 31 rfl)
                    have t33 : a.tmps[33]?.getD undef = .int .i64 h.p := Reg.slot_val (hd 2 (by kernel_rfl) 33 rfl)
                    go_simp
                    exact hK _ _ (fun _ => rfl) (fun h => by cases h) (fun _ => HC.out) trivial
                  · rintro a w1 hC hx hd K hK
                    have HC := Lib.hid hC
                    clear hC
                    have t45 : a.tmps[45]?.getD undef = .pointer (some ⟨g, h.p.toNat * 3, none⟩) := Reg.slot_val (hd 14 (by kernel_rfl) 45 rfl)
                    obtain ⟨p44, q44, r44, g44, f44⟩ := hd 13 (by kernel_rfl) 44 rfl
                    have t44 := Reg.slot_val g44
                    clear g44
                    obtain ⟨u0, u1, u2, ⟨x0, x1, x2⟩, _⟩ := HC.out.own.at (k := h.p.toNat) LT.out
                    have k0 := HC.out.own.2.1 (h.p.toNat * 3)
                    have k1 := HC.out.own.2.1 (h.p.toNat * 3 + 1)
                    have k2 := HC.out.own.2.1 (h.p.toNat * 3 + 2)
                    go_simp
                    exact hK undef _ (fun h => absurd rfl h) (fun _ => HC.out.put LT.out f44) (fun h => absurd rfl h) trivial
                rintro f w4 hd hT
                have hS := hT 15 (by kernel_rfl) (by decide)
                simp only [Reg.mixL]
                have ST2 := Lib.hid hS.drop
                clear hd hT hS
                go_wp2
                go_roundw
                case rel => exact ⟨k + 1, by omega, by go_num, by rw [HSN.out]; exact ST2.out⟩
                case measure => simp [intOf]; omega
              · have hc2 : HCk.2.1 ≠ 2 := by rw [← hck]; exact hk2
                unfold ifV at JR
                rw [if_neg hk1, if_neg hk2] at JR
                have JR := Lib.hid JR
                have hlv : leaveC HCk NP = (some 0, some 0, some 0) := by unfold leaveC; rw [if_neg hc1, if_neg hc2]
                rw [hlv] at HSN
                clear hlv hk1 hc1 hk2 hc2 hck
                refine Reg3.wp_region_mix (C := St w ((PB, h.l) :: [(w.heap.size, [.slice pa pl pc, .slice ta tl tc])]) g NX) (G := fun _ _ => True) (R := fun i v w' => match i with | 0 => v = .slice (some ⟨g, 0, none⟩) fl cap | 1 => v = .pointer (some ⟨PB, 0, none⟩) | 2 => v = .int .i64 h.p | 3 => v = .agg #[.int .i64 h.p, .int .i64 h.k, .float .f32 h.x, .float .f32 h.y, .float .f32 h.z, .float .f32 h.s, .float .f32 h.t, .float .f32 h.u] | 4 => v = .iface 181 (.agg #[.int .i64 h.p, .int .i64 h.k, .float .f32 h.x, .float .f32 h.y, .float .f32 h.z, .float .f32 h.s, .float .f32 h.t, .float .f32 h.u]) | 5 => v = .slice (some ⟨g, 0, none⟩) fl cap | 6 => v = .pointer (some ⟨PB, 0, none⟩) | 7 => v = .int .i64 h.p | 8 => v = .pointer (some ⟨g, h.p.toNat * 3, none⟩) | 9 => ∃ p q r, v = vv p q r ∧ F3 p q r NP | 10 => v = .func (.method "loop.example/g01222/impl.leaves") #[.iface 181 (.agg #[.int .i64 h.p, .int .i64 h.k, .float .f32 h.x, .float .f32 h.y, .float .f32 h.z, .float .f32 h.s, .float .f32 h.t, .float .f32 h.u])] #[] | 11 => v = .func (.method "loop.example/g01222/impl.leaves") #[.iface 181 (.agg #[.int .i64 h.p, .int .i64 h.k, .float .f32 h.x, .float .f32 h.y, .float .f32 h.z, .float .f32 h.s, .float .f32 h.t, .float .f32 h.u])] #[] | 12 => v = .iface 181 (.agg #[.int .i64 h.p, .int .i64 h.k, .float .f32 h.x, .float .f32 h.y, .float .f32 h.z, .float .f32 h.s, .float .f32 h.t, .float .f32 h.u]) | 13 => ∃ p q r, v = vv p q r ∧ F3 p q r ((some 0, some 0, some 0)) | 14 => v = .pointer (some ⟨g, h.p.toNat * 3, none⟩) | _ => True) (T := fun _ _ w' => St w ((PB, h.l) :: [(w.heap.size, [.slice pa pl pc, .slice ta tl tc])]) g (NX.set h.p.toNat ((some 0, some 0, some 0))) w') [false, false, false, false, false, false, false, false, false, false, false, false, false, false, false, false, false, false, false, false, false, false, false, false, false, false, false, false, false, false, false, true, true, true, true, true, true, true, true, true, true, true, true, true, true, true, false, false]
                  (by kernel_rfl) (by kernel_rfl) (by kernel_rfl) (fun _ _ _ _ _ _ h => h) (ST1.out.drewN 1) ?_ ?_
                · refine ⟨Reg3.Obl.mk ?_, Reg3.Obl.mk ?_, Reg3.Obl.mk ?_, Reg3.Obl.mk ?_, Reg3.Obl.mk ?_, Reg3.Obl.mk ?_, Reg3.Obl.mk ?_, Reg3.Obl.mk ?_, Reg3.Obl.mk ?_, Reg3.Obl.mk ?_, Reg3.Obl.mk ?_, Reg3.Obl.mk ?_, Reg3.Obl.mk ?_, Reg3.Obl.mk ?_, Reg3.Obl.mk ?_, Reg3.Obl.mk ?_, trivial⟩
                  · rintro a w1 hC hx hd K hK
                    have HC := Lib.hid hC
                    clear hC
                    have t8 : a.tmps[8]?.getD undef = .slice (some ⟨g, 0, none⟩) fl cap := Reg.slot_val (hx 8 (by kernel_rfl))
                    go_simp
                    exact hK _ _ (fun _ => rfl) (fun h => by cases h) (fun _ => HC.out) trivial
                  · rintro a w1 hC hx hd K hK
                    have HC := Lib.hid hC
                    clear hC
                    have t10 : a.tmps[10]?.getD undef = .pointer (some ⟨PB, 0, none⟩) := Reg.slot_val (hx 10 (by kernel_rfl))
                    go_simp
                    exact hK _ _ (fun _ => rfl) (fun h => by cases h) (fun _ => HC.out) trivial
                  · rintro a w1 hC hx hd K hK
                    have HC := Lib.hid hC
                    clear hC
                    have y0 := (HC.out.mem (.head _)) 0 _ rfl
                    have t32 : a.tmps[32]?.getD undef = .pointer (some ⟨PB, 0, none⟩) := Reg.slot_val (hd 1 (by kernel_rfl) 32 rfl)
                    go_simp
                    exact hK _ _ (fun _ => rfl) (fun h => by cases h) (fun _ => HC.out) trivial
                  · rintro a w1 hC hx hd K hK
                    have HC := Lib.hid hC
                    clear hC
                    have y0 := (HC.out.mem (.head _)) 0 _ rfl
                    have y1 := (HC.out.mem (.head _)) 1 _ rfl
                    have y2 := (HC.out.mem (.head _)) 2 _ rfl
                    have y3 := (HC.out.mem (.head _)) 3 _ rfl
                    have y4 := (HC.out.mem (.head _)) 4 _ rfl
                    have y5 := (HC.out.mem (.head _)) 5 _ rfl
                    have y6 := (HC.out.mem (.head _)) 6 _ rfl
                    have y7 := (HC.out.mem (.head _)) 7 _ rfl
                    have t10 : a.tmps[10]?.getD undef = .pointer (some ⟨PB, 0, none⟩) := Reg.slot_val (hx 10 (by kernel_rfl))
                    go_simp
                    exact hK _ _ (fun _ => rfl) (fun h => by cases h) (fun _ => HC.out) trivial
                  · rintro a w1 hC hx hd K hK
                    have HC := Lib.hid hC
                    clear hC
                    have t34 : a.tmps[34]?.getD undef = .agg #[.int .i64 h.p, .int .i64 h.k, .float .f32 h.x, .float .f32 h.y, .float .f32 h.z, .float .f32 h.s, .float .f32 h.t, .float .f32 h.u] := Reg.slot_val (hd 3 (by kernel_rfl) 34 rfl)
                    go_simp
                    refine (JR.out _).mono ?_
                    rintro en w2 ⟨rfl, hB2⟩
                    exact hK _ _ (fun _ => rfl) (fun h => by cases h) (fun _ => HC.out.call hB2) trivial
                  · rintro a w1 hC hx hd K hK
                    have HC := Lib.hid hC
                    clear hC
                    have t8 : a.tmps[8]?.getD undef = .slice (some ⟨g, 0, none⟩) fl cap := Reg.slot_val (hx 8 (by kernel_rfl))
                    go_simp
                    exact hK _ _ (fun _ => rfl) (fun h => by cases h) (fun _ => HC.out) trivial
                  · rintro a w1 hC hx hd K hK
                    have HC := Lib.hid hC
                    clear hC
                    have t10 : a.tmps[10]?.getD undef = .pointer (some ⟨PB, 0, none⟩) := Reg.slot_val (hx 10 (by kernel_rfl))
                    go_simp
                    exact hK _ _ (fun _ => rfl) (fun h => by cases h) (fun _ => HC.out) trivial
                  · rintro a w1 hC hx hd K hK
                    have HC := Lib.hid hC
                    clear hC
                    have y0 := (HC.out.mem (.head _)) 0 _ rfl
                    have t37 : a.tmps[37]?.getD undef = .pointer (some ⟨PB, 0, none⟩) := Reg.slot_val (hd 6 (by kernel_rfl) 37 rfl)
                    go_simp
                    exact hK _ _ (fun _ => rfl) (fun h => by cases h) (fun _ => HC.out) trivial
                  · rintro a w1 hC hx hd K hK
                    have HC := Lib.hid hC
                    clear hC
                    have t36 : a.tmps[36]?.getD undef = .slice (some ⟨g, 0, none⟩) fl cap := Reg.slot_val (hd 5 (by kernel_rfl) 36 rfl)
                    have t38 : a.tmps[38]?.getD undef = .int .i64 h.p := Reg.slot_val (hd 7 (by kernel_rfl) 38 rfl)
                    go_simp
                    exact hK _ _ (fun _ => rfl) (fun h => by cases h) (fun _ => HC.out) trivial
                  · rintro a w1 hC hx hd K hK
                    have HC := Lib.hid hC
                    clear hC
                    obtain ⟨pp, qq, rr, ⟨y0, y1, y2⟩, hf⟩ := HC.out.own.at (k := h.p.toNat) LT.out
                    rw [HNP.out] at hf
                    have t39 : a.tmps[39]?.getD undef = .pointer (some ⟨g, h.p.toNat * 3, none⟩) := Reg.slot_val (hd 8 (by kernel_rfl) 39 rfl)
                    go_simp
                    exact hK _ _ (fun _ => ⟨pp, qq, rr, rfl, hf⟩) (fun h => by cases h) (fun _ => HC.out) trivial
                  · rintro a w1 hC hx hd K hK
                    have HC := Lib.hid hC
                    clear hC
                    have t35 : a.tmps[35]?.getD undef = .iface 181 (.agg #[.int .i64 h.p, .int .i64 h.k, .float .f32 h.x, .float .f32 h.y, .float .f32 h.z, .float .f32 h.s, .float .f32 h.t, .float .f32 h.u]) := Reg.slot_val (hd 4 (by kernel_rfl) 35 rfl)
                    go_simp
                    exact hK _ _ (fun _ => rfl) (fun h => by cases h) (fun _ => HC.out) trivial
                  · rintro a w1 hC hx hd K hK
                    have HC := Lib.hid hC
                    clear hC
                    have t41 : a.tmps[41]?.getD undef = .func (.method "loop.example/g01222/impl.leaves") #[.iface 181 (.agg #[.int .i64 h.p, .int .i64 h.k, .float .f32 h.x, .float .f32 h.y, .float .f32 h.z, .float .f32 h.s, .float .f32 h.t, .float .f32 h.u])] #[] := Reg.slot_val (hd 10 (by kernel_rfl) 41 rfl)
                    go_simp
                    exact hK _ _ (fun _ => rfl) (fun h => by cases h) (fun _ => HC.out) trivial
                  · rintro a w1 hC hx hd K hK
                    have HC := Lib.hid hC
                    clear hC
                    have t35 : a.tmps[35]?.getD undef = .iface 181 (.agg #[.int .i64 h.p, .int .i64 h.k, .float .f32 h.x, .float .f32 h.y, .float .f32 h.z, .float .f32 h.s, .float .f32 h.t, .float .f32 h.u]) := Reg.slot_val (hd 4 (by kernel_rfl) 35 rfl)
                    go_simp
                    exact hK _ _ (fun _ => rfl) (fun h => by cases h) (fun _ => HC.out) trivial
                  · rintro a w1 hC hx hd K hK
                    have HC := Lib.hid hC
                    clear hC
                    obtain ⟨p40, q40, r40, g40, f40⟩ := hd 9 (by kernel_rfl) 40 rfl
                    have t40 := Reg.slot_val g40
                    clear g40
                    have t43 : a.tmps[43]?.getD undef = .iface 181 (.agg #[.int .i64 h.p, .int .i64 h.k, .float .f32 h.x, .float .f32 h.y, .float .f32 h.z, .float .f32 h.s, .float .f32 h.t, .float .f32 h.u]) := Reg.slot_val (hd 12 (by kernel_rfl) 43 rfl)
                    go_simp
                    try go_invoke
                    refine (impl_fixed h _ _ _ _).mono ?_
                    rintro en w2 ⟨p', q', r', rfl, hF, hB2⟩
                    exact hK _ _ (fun _ => ⟨p', q', r', rfl, hF⟩) (fun h => by cases h) (fun _ => HC.out.call hB2) trivial
                  · rintro a w1 hC hx hd K hK
                    have HC := Lib.hid hC
                    clear hC
                    have t31 : a.tmps[31]?.getD undef = .slice (some ⟨g, 0, none⟩) fl cap := Reg.slot_val (hd 0 (by kernel_rfl) 31 rfl)
                    have t33 : a.tmps[33]?.getD undef = .int .i64 h.p := Reg.slot_val (hd 2 (by kernel_rfl) 33 rfl)
                    go_simp
                    exact hK _ _ (fun _ => rfl) (fun h => by cases h) (fun _ => HC.out) trivial
                  · rintro a w1 hC hx hd K hK
                    have HC := Lib.hid hC
                    clear hC
                    have t45 : a.tmps[45]?.getD undef = .pointer (some ⟨g, h.p.toNat * 3, none⟩) := Reg.slot_val (hd 14 (by kernel_rfl) 45 rfl)
                    obtain ⟨p44, q44, r44, g44, f44⟩ := hd 13 (by kernel_rfl) 44 rfl
                    have t44 := Reg.slot_val g44
                    clear g44
                    obtain ⟨u0, u1, u2, ⟨x0, x1, x2⟩, _⟩ := HC.out.own.at (k := h.p.toNat) LT.out
                    have k0 := HC.out.own.2.1 (h.p.toNat * 3)
                    have k1 := HC.out.own.2.1 (h.p.toNat * 3 + 1)
                    have k2 := HC.out.own.2.1 (h.p.toNat * 3 + 2)
                    go_simp
                    exact hK undef _ (fun h => absurd rfl h) (fun _ => HC.out.put LT.out f44) (fun h => absurd rfl h) trivial
                rintro f w4 hd hT
                have hS := hT 15 (by kernel_rfl) (by decide)
                simp only [Reg.mixL]
                have ST2 := Lib.hid hS.drop
                clear hd hT hS
                go_wp2
                go_roundw
                case rel => exact ⟨k + 1, by omega, by go_num, by rw [HSN.out]; exact ST2.out⟩
                case measure => simp [intOf]; omega
          · obtain rfl : k = hl := by omega
            have hall : hs.take k = hs := by rw [← hhl]; exact List.take_length
            rw [hall] at ST
            have hL := leaveF_len hs fs
            rw [hfl] at hL
            have HRV := Lib.hid (RV.block hgw (by rw [hL]; exact hq1) hq2 ST.out.own)
            rw [hL] at HRV
            clear hL hall
            go_wp2
            go_ret2
            exact ⟨_, rfl, HRV.out, ST.out.bel⟩
    · have e0 : ((fl : Int) == (pl : Int)) = false := beq_eq_false_iff_ne.2 (by omega)
      have e0' : ((fl : Int) != (pl : Int)) = true := by simp; omega
      rw [decide_eq_false h0]
      clear hv h0 HG
      show Calls _ _ _ _ (fun e w' => ∃ v, e = .returned (.tuple #[v, .bool false]) ∧ RV w.heap.size w' v [] ∧ Below w.heap.size w w')
      go_enter Try.func44, Try.ntmps44
      go_wp2_with fail
      refine J.out.mono ?_
      rintro e w1 ⟨rfl, hB1⟩
      have BX1 := Lib.hid (BX.out.call hB1)
      have m0 := (BX1.out.mem (.head _)) 0 _ rfl
      clear hB1
      go_wp2
      go_ret2
      exact ⟨_, rfl, RV.nil _ _, BX1.out.bel⟩
end Go.Proofs.Ytajglpkeojaelaa

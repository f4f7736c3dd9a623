
/-
What holds leave of forces: the model. Conditions: the lists lie in memory, every place of a hold is one of the forces'.
-/
import Derived.Test.YtljpjmkickkcpaaArI
import Derived.Test.YtljpjmkickkcpaaHoG
import Derived.Test.YtljpjmkickkcpaaFqH
namespace Go.Proofs.Ytljpjmkickkcpaa
open Go Fk Go.RowKit
set_option linter.unusedVariables false
set_option maxRecDepth 16000

/-- One hold leaves of the forces. -/
def leave1 (X : List C3) (h : HC) : List C3 := X.set h.1.toNat (leaveC h (X.getD h.1.toNat c0))
def leaveF (hs : List HC) (fs : List C3) : List C3 := hs.foldl leave1 fs
theorem leaveF_snoc (hs : List HC) (fs : List C3) (k : Nat) (hk : k < hs.length) : leaveF (hs.take (k + 1)) fs = leave1 (leaveF (hs.take k) fs) (hs.getD k hd0) := by
  rw [List.take_succ_eq_append_getElem hk]
  unfold leaveF
  rw [List.foldl_append]
  simp [List.getD, hk]
theorem leaveF_len (hs : List HC) (fs : List C3) : (leaveF hs fs).length = fs.length := by
  induction hs generalizing fs with
  | nil => rfl
  | cons h t ih => show (leaveF t (leave1 fs h)).length = _; rw [ih]; simp [leave1]
/-- A list of vectors that a call returns: none, or one that may be written. -/
def RV (base : Nat) (w : World) (v : Value) (X : List C3) : Prop := ∃ a cap, v = .slice a X.length cap ∧ IsVs w a X.length cap X ∧ Lst base w.heap.size w a (X.length * 3)
theorem RV.nil (base : Nat) (w : World) : RV base w (.slice none 0 0) [] :=
  ⟨none, 0, rfl, ⟨rfl, Nat.le_refl _, by unfold maxLen; omega, fun _ => ⟨rfl, rfl⟩, fun x hx => by cases hx⟩, .inl ⟨rfl, rfl⟩⟩
theorem RV.block {base g cap : Nat} {w : World} {X : List C3} (hg : base ≤ g) (h1 : X.length ≤ cap) (h2 : cap ≤ maxLen) (h : OwnVs w g X) : RV base w (.slice (some ⟨g, 0, none⟩) X.length cap) X := by
  refine ⟨_, cap, rfl, ⟨rfl, h1, h2, by simp, fun x hx i hi => ?_⟩, .inr ⟨g, rfl, hg, h.2.2, h.2.2, fun j hj => ⟨?_, by rw [Nat.zero_add]; exact h.2.1 j⟩⟩⟩
  · cases hx
    obtain ⟨p, q, r, ⟨k0, k1, k2⟩, f⟩ := h.1.2 i hi
    exact ⟨p, q, r, by rw [addr_add', Nat.zero_add]; exact k0, by rw [addr_add', Nat.zero_add]; exact k1, by rw [addr_add', Nat.zero_add]; exact k2, f⟩
  · obtain ⟨p, q, r, ⟨k0, k1, k2⟩, f⟩ := h.1.2 (j / 3) (by omega)
    rw [Nat.zero_add]
    have : j = j / 3 * 3 ∨ j = j / 3 * 3 + 1 ∨ j = j / 3 * 3 + 2 := by omega
    rcases this with e | e | e
    · exact ⟨_, by rw [e]; exact k0⟩
    · exact ⟨_, by rw [e]; exact k1⟩
    · exact ⟨_, by rw [e]; exact k2⟩
/-- What append makes is none, or a block of its own. -/
theorem own_block {w : World} {base n : Nat} {v : Value} {xs : List Value} {cs : List C3} (h : w.ownsRow base 28 3 v n xs) (hp : PV n xs cs) (hn : cs.length = n) :
    (v = .slice none 0 0 ∧ n = 0) ∨ ∃ g cap, v = .slice (some ⟨g, 0, none⟩) n cap ∧ base ≤ g ∧ n ≤ cap ∧ cap ≤ maxLen ∧ OwnVs w g cs := by
  have h' := h
  obtain ⟨h1, h2⟩ := h
  rcases h2 with ⟨rfl, hz⟩ | ⟨g, cap, cur, rfl, hb, hh, hc1, hc2, hs, ht⟩
  · exact .inl ⟨rfl, hz⟩
  · refine .inr ⟨g, cap, rfl, hb, hc1, hc2, ⟨by omega, fun i hi => ?_⟩, fun j => h'.frozenAt j, (h'.lt g rfl).2⟩
    obtain ⟨p, q, r, e0, e1, e2, f⟩ := hp i (by omega)
    exact ⟨p, q, r, ⟨by rw [h'.cellAt _ (by omega)]; exact e0, by rw [h'.cellAt _ (by omega)]; exact e1, by rw [h'.cellAt _ (by omega)]; exact e2⟩, f⟩
theorem step_in {n : Nat} {hs : List HC} {k : Nat} (h : stepB n hs k = true) : inB n (hs.getD k hd0).1 = true := by
  unfold stepB at h; simp only [Bool.and_eq_true] at h; exact h.2.1
set_option maxHeartbeats 4000000 in
theorem l04Forces (ha fa : Option Addr) (hl hc fl fc : Nat) (hs : List HC) (fs : List C3) (w : World) (hh : IsHs w ha hl hc hs) (hf : IsVs w fa fl fc fs) (hg : ∀ k, k < hl → inB fl (hs.getD k hd0).1 = true) (hb : fl ≤ 1048576) :
    Calls Try.prog 75 #[.slice ha hl hc, .slice fa fl fc] w fun e w' => ∃ v, e = .returned v ∧ RV w.heap.size w' v (leaveF hs fs) ∧ Below w.heap.size w w' := by
  have uh := Try.underlying30
  have uv := Try.underlying28
  obtain ⟨i0, hi, hz0, hz1, hz2⟩ := info_parts infoV
  obtain ⟨xs, x1, x2, x3, x4⟩ := vs_cells hf
  have h0 := hf.2.2.2.1
  have hfl := hf.1
  have hhl := hh.1
  have X2 := Lib.hid x2
  have X3 := Lib.hid x3
  have X4 := Lib.hid x4
  have X1 := Lib.hid x1
  have HH := Lib.hid hh
  have HG := Lib.hid hg
  have HPA := Lib.hid h0
  have hm : hl ≤ 9223372036854775807 := by have h1 := hh.2.1; have h2 := hh.2.2.1; unfold maxLen at h2; omega
  clear x1 x2 x3 x4 hf hh hg h0
  have HST := Lib.hid (World.ownsRow_lit (base := w.heap.size) (e := 28) (size := 3) w #[] 0 (Nat.le_refl _) (by decide) rfl)
  go_enter Try.func75, Try.ntmps75
  go_wp2_with (at_builtin; go_loud (refine wpList_append_opt _ rfl _ _ 41 rfl w.heap.size 28 i0 (.agg #[.float .f32 0, .float .f32 0, .float .f32 0]) 3 12 Try.underlying41 hi hz0 hz1 hz2 rfl (by decide) _ 0 [] rfl HST.out fa fl fc xs rfl HPA.out X1.out ?c2 ?c3 ?c4 ?c5 ?c6 ?_))
  case c2 =>
    intro ad had j u hu
    have := X2.out ad had j u hu
    rw [World.cell?_alloc_lt (h := World.block_lt_of_cell? _ _ this)]
    exact this
  case c3 => exact X3.out
  case c4 => unfold maxLen; omega
  case c5 => omega
  · intro v w1 hown hgrow
    have hown' : w1.ownsRow w.heap.size 28 3 v fl xs := by simpa using hown
    have hB1 : Below w.heap.size w w1 := ((Below.refl _ _).alloc (Nat.le_refl _) _).grown hgrow (by simp) (fun k hk => by simp [Value.ownBlock] at hk; omega)
    have HB := Lib.hid hB1
    rcases own_block hown' X4.out hfl with ⟨rfl, hz⟩ | ⟨g, cap, rfl, hgb, hc1, hc2, hov⟩
    · have hl0 : hl = 0 := by
        by_cases h : hl = 0
        · exact h
        · have := of_decide_eq_true (HG.out 0 (by omega)); omega
      have hnil : leaveF hs fs = [] := List.eq_nil_of_length_eq_zero (by rw [leaveF_len]; omega)
      subst hl0
      clear hown hgrow hown' hB1
      go_wp2
      refine wp_loop_rounds 1 ?_
      rw [rounds_succ]
      go_wp2
      go_ret
      exact ⟨_, rfl, by rw [hnil]; exact RV.nil _ _, HB.out⟩
    · have ST0 : Hid (St w ([] : List (Nat × List Value)) g (leaveF (hs.take 0) fs) w1) := Lib.hid ⟨hB1, fun b l hm => absurd hm (by simp), hgb, hov⟩
      clear hown hgrow hown' hB1 hov
      go_wp2
      go_loopw [6] (fun i w' => ∃ k : Nat, k ≤ hl ∧ i = .int .i64 k ∧ Aside (St w ([] : List (Nat × List Value)) g (leaveF (hs.take k) fs) w')) (fun i _ => hl - (intOf i).toNat)
      case atStart => exact ⟨0, Nat.zero_le _, rfl, ST0.out⟩
      case round =>
        obtain ⟨k, hk, rfl, hA⟩ := hrel
        have ST := Lib.hid hA.out
        clear hA
        by_cases hlt : k < hl
        · skip
          obtain ⟨b, o, hha, hcell⟩ := HH.out.some (by omega)
          obtain ⟨h, hq, hi⟩ := hcell k hlt
          have hlk : k < hs.length := by omega
          have hk0 : (0 : Int) ≤ (k : Int) := by omega
          have hk1 : (k : Int) < (hl : Int) := by omega
          have hin := of_decide_eq_true (HG.out k hlt)
          have hpz : h.p = (hs.getD k hd0).1 := hi.1
          rw [← hpz] at hin
          have p0 : (0 : Int) ≤ h.p := hin.1
          have p1 : h.p < (fl : Int) := by omega
          have LT : Hid (h.p.toNat < (leaveF (hs.take k) fs).length) := Lib.hid (by rw [leaveF_len]; omega)
          have hsn := leaveF_snoc hs fs k hlk
          unfold leave1 at hsn
          rw [← hpz] at hsn
          have hnl := leaveF_len (hs.take k) fs
          have HSN := Lib.hid hsn
          have HNL := Lib.hid hnl
          have HI := Lib.hid hi
          obtain ⟨NP, hNP⟩ : ∃ NP, (leaveF (hs.take k) fs).getD h.p.toNat c0 = NP := ⟨_, rfl⟩
          rw [hNP] at HSN
          generalize hs.getD k hd0 = HCk at *
          generalize leaveF (hs.take k) fs = NX at *
          have HNP := Lib.hid hNP
          have QH := Lib.hid hq
          clear hcell hin hpz hsn hnl hi hNP
          rw [hha]
          have HPA := Lib.hid hha
          clear hha
          have c0 := QH.out 0 (by omega)
          simp only [HW.l, List.getElem?_cons_zero, List.getElem?_cons_succ, Nat.add_zero] at c0
          have CP := Lib.hid c0
          clear c0 hq
          go_wp2_with fail
          refine Reg3.wp_region_mix (C := St w ([] : List (Nat × List Value)) g NX) (G := fun _ _ => True) (R := fun i v w' => match i with | 0 => v = .slice (some ⟨g, 0, none⟩) fl cap | 1 => v = .slice (some ⟨b, o, none⟩) hl hc | 2 => v = .int .i64 k | 3 => v = .pointer (some ⟨b, o + k * 8, none⟩) | 4 => v = .pointer (some ⟨b, o + k * 8, none⟩) | 5 => v = .int .i64 h.p | 6 => v = .slice (some ⟨b, o, none⟩) hl hc | 7 => v = .int .i64 k | 8 => v = .pointer (some ⟨b, o + k * 8, none⟩) | 9 => v = .slice (some ⟨g, 0, none⟩) fl cap | 10 => v = .slice (some ⟨b, o, none⟩) hl hc | 11 => v = .int .i64 k | 12 => v = .pointer (some ⟨b, o + k * 8, none⟩) | 13 => v = .pointer (some ⟨b, o + k * 8, none⟩) | 14 => v = .int .i64 h.p | 15 => v = .pointer (some ⟨g, h.p.toNat * 3, none⟩) | 16 => ∃ p q r, v = vv p q r ∧ F3 p q r NP | 17 => ∃ p q r, v = vv p q r ∧ F3 p q r (leaveC HCk NP) | 18 => v = .pointer (some ⟨g, h.p.toNat * 3, none⟩) | _ => True) (T := fun _ _ w' => St w ([] : List (Nat × List Value)) g (NX.set h.p.toNat (leaveC HCk NP)) w') [false, false, false, false, false, false, false, false, false, false, false, false, false, false, false, false, true, true, true, true, true, true, true, true, true, true, true, true, true, true, true, true, true, true, true, false]
            (by kernel_rfl) (by kernel_rfl) (by kernel_rfl) (fun _ _ _ _ _ _ h => h) (ST.out.drewN 1) ?_ ?_
          · refine ⟨Reg3.Obl.mk ?_, Reg3.Obl.mk ?_, Reg3.Obl.mk ?_, Reg3.Obl.mk ?_, Reg3.Obl.mk ?_, Reg3.Obl.mk ?_, Reg3.Obl.mk ?_, Reg3.Obl.mk ?_, Reg3.Obl.mk ?_, Reg3.Obl.mk ?_, Reg3.Obl.mk ?_, Reg3.Obl.mk ?_, Reg3.Obl.mk ?_, Reg3.Obl.mk ?_, Reg3.Obl.mk ?_, Reg3.Obl.mk ?_, Reg3.Obl.mk ?_, Reg3.Obl.mk ?_, Reg3.Obl.mk ?_, Reg3.Obl.mk ?_, trivial⟩
            · rintro a w1 hC hx hd K hK
              have HC := Lib.hid hC
              clear hC
              have t5 : a.tmps[5]?.getD undef = .slice (some ⟨g, 0, none⟩) fl cap := Reg.slot_val (hx 5 (by kernel_rfl))
              go_simp
              exact hK _ _ (fun _ => rfl) (fun h => by cases h) (fun _ => HC.out) trivial
            · rintro a w1 hC hx hd K hK
              have HC := Lib.hid hC
              clear hC
              have t0 : a.tmps[0]?.getD undef = .slice (some ⟨b, o, none⟩) hl hc := Reg.slot_val (hx 0 (by kernel_rfl))
              go_simp
              exact hK _ _ (fun _ => rfl) (fun h => by cases h) (fun _ => HC.out) trivial
            · rintro a w1 hC hx hd K hK
              have HC := Lib.hid hC
              clear hC
              have t6 : a.tmps[6]?.getD undef = .int .i64 k := Reg.slot_val (hx 6 (by kernel_rfl))
              go_simp
              exact hK _ _ (fun _ => rfl) (fun h => by cases h) (fun _ => HC.out) trivial
            · rintro a w1 hC hx hd K hK
              have HC := Lib.hid hC
              clear hC
              have t17 : a.tmps[17]?.getD undef = .slice (some ⟨b, o, none⟩) hl hc := Reg.slot_val (hd 1 (by kernel_rfl) 17 rfl)
              have t18 : a.tmps[18]?.getD undef = .int .i64 k := Reg.slot_val (hd 2 (by kernel_rfl) 18 rfl)
              go_simp
              exact hK _ _ (fun _ => rfl) (fun h => by cases h) (fun _ => HC.out) trivial
            · rintro a w1 hC hx hd K hK
              have HC := Lib.hid hC
              clear hC
              have t19 : a.tmps[19]?.getD undef = .pointer (some ⟨b, o + k * 8, none⟩) := Reg.slot_val (hd 3 (by kernel_rfl) 19 rfl)
              go_simp
              exact hK _ _ (fun _ => rfl) (fun h => by cases h) (fun _ => HC.out) trivial
            · rintro a w1 hC hx hd K hK
              have HC := Lib.hid hC
              clear hC
              have z0 := cell_below HC.out.bel CP.out
              have t20 : a.tmps[20]?.getD undef = .pointer (some ⟨b, o + k * 8, none⟩) := Reg.slot_val (hd 4 (by kernel_rfl) 20 rfl)
              go_simp
              exact hK _ _ (fun _ => rfl) (fun h => by cases h) (fun _ => HC.out) trivial
            · rintro a w1 hC hx hd K hK
              have HC := Lib.hid hC
              clear hC
              have t0 : a.tmps[0]?.getD undef = .slice (some ⟨b, o, none⟩) hl hc := Reg.slot_val (hx 0 (by kernel_rfl))
              go_simp
              exact hK _ _ (fun _ => rfl) (fun h => by cases h) (fun _ => HC.out) trivial
            · rintro a w1 hC hx hd K hK
              have HC := Lib.hid hC
              clear hC
              have t6 : a.tmps[6]?.getD undef = .int .i64 k := Reg.slot_val (hx 6 (by kernel_rfl))
              go_simp
              exact hK _ _ (fun _ => rfl) (fun h => by cases h) (fun _ => HC.out) trivial
            · rintro a w1 hC hx hd K hK
              have HC := Lib.hid hC
              clear hC
              have t22 : a.tmps[22]?.getD undef = .slice (some ⟨b, o, none⟩) hl hc := Reg.slot_val (hd 6 (by kernel_rfl) 22 rfl)
              have t23 : a.tmps[23]?.getD undef = .int .i64 k := Reg.slot_val (hd 7 (by kernel_rfl) 23 rfl)
              go_simp
              exact hK _ _ (fun _ => rfl) (fun h => by cases h) (fun _ => HC.out) trivial
            · rintro a w1 hC hx hd K hK
              have HC := Lib.hid hC
              clear hC
              have t5 : a.tmps[5]?.getD undef = .slice (some ⟨g, 0, none⟩) fl cap := Reg.slot_val (hx 5 (by kernel_rfl))
              go_simp
              exact hK _ _ (fun _ => rfl) (fun h => by cases h) (fun _ => HC.out) trivial
            · rintro a w1 hC hx hd K hK
              have HC := Lib.hid hC
              clear hC
              have t0 : a.tmps[0]?.getD undef = .slice (some ⟨b, o, none⟩) hl hc := Reg.slot_val (hx 0 (by kernel_rfl))
              go_simp
              exact hK _ _ (fun _ => rfl) (fun h => by cases h) (fun _ => HC.out) trivial
            · rintro a w1 hC hx hd K hK
              have HC := Lib.hid hC
              clear hC
              have t6 : a.tmps[6]?.getD undef = .int .i64 k := Reg.slot_val (hx 6 (by kernel_rfl))
              go_simp
              exact hK _ _ (fun _ => rfl) (fun h => by cases h) (fun _ => HC.out) trivial
            · rintro a w1 hC hx hd K hK
              have HC := Lib.hid hC
              clear hC
              have t26 : a.tmps[26]?.getD undef = .slice (some ⟨b, o, none⟩) hl hc := Reg.slot_val (hd 10 (by kernel_rfl) 26 rfl)
              have t27 : a.tmps[27]?.getD undef = .int .i64 k := Reg.slot_val (hd 11 (by kernel_rfl) 27 rfl)
              go_simp
              exact hK _ _ (fun _ => rfl) (fun h => by cases h) (fun _ => HC.out) trivial
            · rintro a w1 hC hx hd K hK
              have HC := Lib.hid hC
              clear hC
              have t28 : a.tmps[28]?.getD undef = .pointer (some ⟨b, o + k * 8, none⟩) := Reg.slot_val (hd 12 (by kernel_rfl) 28 rfl)
              go_simp
              exact hK _ _ (fun _ => rfl) (fun h => by cases h) (fun _ => HC.out) trivial
            · rintro a w1 hC hx hd K hK
              have HC := Lib.hid hC
              clear hC
              have z0 := cell_below HC.out.bel CP.out
              have t29 : a.tmps[29]?.getD undef = .pointer (some ⟨b, o + k * 8, none⟩) := Reg.slot_val (hd 13 (by kernel_rfl) 29 rfl)
              go_simp
              exact hK _ _ (fun _ => rfl) (fun h => by cases h) (fun _ => HC.out) trivial
            · rintro a w1 hC hx hd K hK
              have HC := Lib.hid hC
              clear hC
              have t25 : a.tmps[25]?.getD undef = .slice (some ⟨g, 0, none⟩) fl cap := Reg.slot_val (hd 9 (by kernel_rfl) 25 rfl)
              have t30 : a.tmps[30]?.getD undef = .int .i64 h.p := Reg.slot_val (hd 14 (by kernel_rfl) 30 rfl)
              go_simp
              exact hK _ _ (fun _ => rfl) (fun h => by cases h) (fun _ => HC.out) trivial
            · rintro a w1 hC hx hd K hK
              have HC := Lib.hid hC
              clear hC
              obtain ⟨pp, qq, rr, ⟨y0, y1, y2⟩, hf⟩ := HC.out.own.at (k := h.p.toNat) LT.out
              rw [HNP.out] at hf
              have t31 : a.tmps[31]?.getD undef = .pointer (some ⟨g, h.p.toNat * 3, none⟩) := Reg.slot_val (hd 15 (by kernel_rfl) 31 rfl)
              go_simp
              exact hK _ _ (fun _ => ⟨pp, qq, rr, rfl, hf⟩) (fun h => by cases h) (fun _ => HC.out) trivial
            · rintro a w1 hC hx hd K hK
              have HC := Lib.hid hC
              clear hC
              have t24 : a.tmps[24]?.getD undef = .pointer (some ⟨b, o + k * 8, none⟩) := Reg.slot_val (hd 8 (by kernel_rfl) 24 rfl)
              obtain ⟨p32, q32, r32, g32, f32⟩ := hd 16 (by kernel_rfl) 32 rfl
              have t32 := Reg.slot_val g32
              clear g32
              go_simp
              refine (l04Force b (o + k * 8) h HCk _ _ _ _ _ (QH.out.below HC.out.bel) HI.out f32).mono ?_
              rintro en w2 ⟨p', q', r', rfl, hF, hB2⟩
              exact hK _ _ (fun _ => ⟨p', q', r', rfl, hF⟩) (fun h => by cases h) (fun _ => HC.out.call hB2) trivial
            · rintro a w1 hC hx hd K hK
              have HC := Lib.hid hC
              clear hC
              have t16 : a.tmps[16]?.getD undef = .slice (some ⟨g, 0, none⟩) fl cap := Reg.slot_val (hd 0 (by kernel_rfl) 16 rfl)
              have t21 : a.tmps[21]?.getD undef = .int .i64 h.p := Reg.slot_val (hd 5 (by kernel_rfl) 21 rfl)
              go_simp
              exact hK _ _ (fun _ => rfl) (fun h => by cases h) (fun _ => HC.out) trivial
            · rintro a w1 hC hx hd K hK
              have HC := Lib.hid hC
              clear hC
              have t34 : a.tmps[34]?.getD undef = .pointer (some ⟨g, h.p.toNat * 3, none⟩) := Reg.slot_val (hd 18 (by kernel_rfl) 34 rfl)
              obtain ⟨p33, q33, r33, g33, f33⟩ := hd 17 (by kernel_rfl) 33 rfl
              have t33 := Reg.slot_val g33
              clear g33
              obtain ⟨u0, u1, u2, ⟨x0, x1, x2⟩, _⟩ := HC.out.own.at (k := h.p.toNat) LT.out
              have k0 := HC.out.own.2.1 (h.p.toNat * 3)
              have k1 := HC.out.own.2.1 (h.p.toNat * 3 + 1)
              have k2 := HC.out.own.2.1 (h.p.toNat * 3 + 2)
              go_simp
              exact hK undef _ (fun h => absurd rfl h) (fun _ => HC.out.put LT.out f33) (fun h => absurd rfl h) trivial
          rintro f w4 hd hT
          have hS := hT 19 (by kernel_rfl) (by decide)
          simp only [Reg.mixL]
          have ST2 := Lib.hid hS
          clear hd hT hS
          go_wp2
          go_roundw
          case rel => exact ⟨k + 1, by omega, by go_num, by rw [HSN.out]; exact ST2.out⟩
          case measure => simp [intOf]; omega
        · obtain rfl : k = hl := by omega
          have hall : hs.take k = hs := by rw [← hhl]; exact List.take_length
          rw [hall] at ST
          have hL := leaveF_len hs fs
          rw [hfl] at hL
          have HRV := Lib.hid (RV.block hgb (by rw [hL]; exact hc1) hc2 ST.out.own)
          rw [hL] at HRV
          clear hL hall
          go_wp2
          go_ret
          exact ⟨_, rfl, HRV.out, ST.out.bel⟩
end Go.Proofs.Ytljpjmkickkcpaa

/-
Texts in one: what HoldMesh stands on, part 34. Conditions: those of each.
-/
import Derived.Test.YtajglpkeojaelaaKHoldMesh33

/-
Meshes that are held: the program puts the places, and all else stays. Conditions: the places are a list of the call's own, the mesh lies in a box of its own.
-/
namespace Go.Proofs.Ytajglpkeojaelaa
open Go Fk Go.RowKit
set_option linter.unusedVariables false
set_option maxRecDepth 16000

/-- No holds: nothing is put. -/
theorem put_none (ha : Option Addr) (hc : Nat) (B : Nat) (W : World) :
    Calls Try.prog 111 #[.pointer (some ⟨B, 0, none⟩), .slice ha 0 hc] W fun e w' => e = .returned (.tuple #[]) ∧ w' = W := by
  go_enter Try.func111, Try.ntmps111
  go_wp2
  go_loopw [9] (fun i w' => i = .int .i64 0 ∧ Aside (w' = W)) (fun i _ => 0)
  case atStart => exact ⟨rfl, rfl⟩
  case round =>
    obtain ⟨rfl, hA⟩ := hrel
    obtain rfl := hA.out
    go_wp2
    (try simp only [Exit.inBlock, Exit.then]); refine bodyPost_end (results_none rfl _ _ _) rfl ?_; exact ⟨rfl, rfl⟩
set_option maxHeartbeats 2000000 in
theorem put_placesA (ha : Option Addr) (hl hc B g fl cap : Nat) (tv : Value) (hs : List HC) (fs : List C3) (L : List (Nat × List Value)) (w W : World) (hh : IsHs w ha hl hc hs) (hS : St w L g fs W) (hm : (B, [.slice (some ⟨g, 0, none⟩) fl cap, tv]) ∈ L) (hg : ∀ k, k < hl → inB fl (hs.getD k hd0).1 = true) (hfl : fs.length = fl) (hb : fl ≤ 1048576) :
    Calls Try.prog 111 #[.pointer (some ⟨B, 0, none⟩), .slice ha hl hc] W fun e w' => e = .returned (.tuple #[]) ∧ St w L g (putF hs fs) w' ∧ Agree (fun b => b ≠ g) W w' := by
  have ui := Try.underlying38
  have uh := Try.underlying119
  have uv := Try.underlying40
  have hhl := hh.1
  have hM : hl ≤ 9223372036854775807 := by have h1 := hh.2.1; have h2 := hh.2.2.1; unfold maxLen at h2; omega
  have HH := Lib.hid hh
  have HG := Lib.hid hg
  have HM := Lib.hid hm
  have HS0 := Lib.hid hS
  clear hh hg hm hS
  go_enter Try.func111, Try.ntmps111
  go_wp2
  go_loopw [9] (fun i w' => ∃ k : Nat, k ≤ hl ∧ i = .int .i64 k ∧ Aside (St w L g (putF (hs.take k) fs) w' ∧ Agree (fun b => b ≠ g) W w')) (fun i _ => hl - (intOf i).toNat)
  case atStart => exact ⟨0, Nat.zero_le _, rfl, HS0.out, Agree.refl _ _⟩
  case round =>
    obtain ⟨k, hk, rfl, hA⟩ := hrel
    have ST := Lib.hid hA.out.1
    have EK := Lib.hid hA.out.2
    clear hA
    by_cases hlt : k < hl
    · skip
      obtain ⟨b, o, hha, hcell⟩ := HH.out.some (by omega)
      obtain ⟨h, hq, hi⟩ := hcell k hlt
      have hlk : k < hs.length := by omega
      have hk0 : (0 : Int) ≤ (k : Int) := by omega
      have hk1 : (k : Int) < (hl : Int) := by omega
      have hin := of_decide_eq_true (HG.out k hlt)
      have hpz : h.p = (hs.getD k hd0).1 := hi.1
      rw [← hpz] at hin
      have p0 : (0 : Int) ≤ h.p := hin.1
      have p1 : h.p < (fl : Int) := by omega
      have LT : Hid (h.p.toNat < (putF (hs.take k) fs).length) := Lib.hid (by rw [putF_len]; omega)
      have hsn := putF_snoc hs fs k hlk
      unfold put1 at hsn
      rw [← hpz] at hsn
      have hnl := putF_len (hs.take k) fs
      have HSN := Lib.hid hsn
      have HNL := Lib.hid hnl
      have HI := Lib.hid hi
      obtain ⟨NP, hNP⟩ : ∃ NP, (putF (hs.take k) fs).getD h.p.toNat c0 = NP := ⟨_, rfl⟩
      rw [hNP] at HSN
      generalize hs.getD k hd0 = HCk at *
      generalize putF (hs.take k) fs = NX at *
      have HNP := Lib.hid hNP
      have QH := Lib.hid hq
      clear hcell hin hpz hsn hnl hi hNP
      rw [hha]
      have HPA := Lib.hid hha
      clear hha
      have HQW := QH.out.below ST.out.bel
      have c0 := HQW 0 (by omega)
      have c1 := HQW 1 (by omega)
      have c2 := HQW 2 (by omega)
      have c3 := HQW 3 (by omega)
      have c4 := HQW 4 (by omega)
      have c5 := HQW 5 (by omega)
      have c6 := HQW 6 (by omega)
      have c7 := HQW 7 (by omega)
      simp only [HW.l, List.getElem?_cons_zero, List.getElem?_cons_succ, Nat.add_zero] at c0 c1 c2 c3 c4 c5 c6 c7
      have ST1 := Lib.hid (ST.out.box (vs := h.l) (t := 119))
      have EA1 : Hid (Agree (fun b => b ≠ g) W (wr.alloc (HBox h 119))) := Lib.hid (EK.out.trans (Agree.of_below ((Below.refl _ _).alloc (Nat.le_refl _) _)))
      clear hq HQW
      go_wp2_with fail
      clear c0 c1 c2 c3 c4 c5 c6 c7
      change Hid (St w _ g _ (wr.alloc (HBox h 119))) at ST1
      change (Code.region _ _ _).wp _ _ _ (wr.alloc (HBox h 119))
      generalize (wr.alloc (HBox h 119)) = W3 at *
      generalize wr.heap.size = PB at *
      refine Reg.wp_region_mix (C := fun w' => St w ((PB, h.l) :: L) g NX w' ∧ Agree (fun b => b ≠ g) W w') (G := fun _ _ => True) (R := fun i v w' => match i with | 0 => v = .pointer (some ⟨B, 0, none⟩) | 1 => v = .pointer (some ⟨B, 0, none⟩) | 2 => v = .pointer (some ⟨B, 0, none⟩) | 3 => v = .slice (some ⟨g, 0, none⟩) fl cap | 4 => v = .pointer (some ⟨PB, 0, none⟩) | 5 => v = .int .i64 h.p | 6 => v = .pointer (some ⟨g, h.p.toNat * 3, none⟩) | 7 => v = .pointer (some ⟨g, h.p.toNat * 3, none⟩) | _ => True) (T := fun _ _ _ => True) [false, false, false, false, false, false, true, false, false, false, false, false, false, true, true, true, true, true, true, true, false, false, false, false, false, false, false, false]
        (by kernel_rfl) (by kernel_rfl) (by kernel_rfl) (fun _ _ _ _ _ _ h => h) ⟨ST1.out.drewN 1, EA1.out.trans (Agree.of_below (below_drewN (Below.refl _ _) 1))⟩ ?_ ?_
      · refine ⟨Reg.Obl.mk ?_, Reg.Obl.mk ?_, Reg.Obl.mk ?_, Reg.Obl.mk ?_, Reg.Obl.mk ?_, Reg.Obl.mk ?_, Reg.Obl.mk ?_, Reg.Obl.mk ?_, trivial⟩
        · rintro a w1 hC hx hd K hK
          have HC := Lib.hid hC
          clear hC
          have t0 : a.tmps[0]?.getD undef = .pointer (some ⟨B, 0, none⟩) := Reg.slot_val (hx 0 (by kernel_rfl))
          go_simp
          exact hK _ _ (fun _ => rfl) (fun h => by cases h) HC.out trivial
        · rintro a w1 hC hx hd K hK
          have HC := Lib.hid hC
          clear hC
          have t13 : a.tmps[13]?.getD undef = .pointer (some ⟨B, 0, none⟩) := Reg.slot_val (hd 0 (by kernel_rfl) 13 rfl)
          go_simp
          exact hK _ _ (fun _ => rfl) (fun h => by cases h) HC.out trivial
        · rintro a w1 hC hx hd K hK
          have HC := Lib.hid hC
          clear hC
          have t14 : a.tmps[14]?.getD undef = .pointer (some ⟨B, 0, none⟩) := Reg.slot_val (hd 1 (by kernel_rfl) 14 rfl)
          go_simp
          exact hK _ _ (fun _ => rfl) (fun h => by cases h) HC.out trivial
        · rintro a w1 hC hx hd K hK
          have HC := Lib.hid hC
          clear hC
          have y0 := (HC.out.1.mem (.tail _ HM.out)) 0 _ rfl
          have t15 : a.tmps[15]?.getD undef = .pointer (some ⟨B, 0, none⟩) := Reg.slot_val (hd 2 (by kernel_rfl) 15 rfl)
          go_simp
          exact hK _ _ (fun _ => rfl) (fun h => by cases h) HC.out trivial
        · rintro a w1 hC hx hd K hK
          have HC := Lib.hid hC
          clear hC
          have t5 : a.tmps[5]?.getD undef = .pointer (some ⟨PB, 0, none⟩) := Reg.slot_val (hx 5 (by kernel_rfl))
          go_simp
          exact hK _ _ (fun _ => rfl) (fun h => by cases h) HC.out trivial
        · rintro a w1 hC hx hd K hK
          have HC := Lib.hid hC
          clear hC
          have y0 := (HC.out.1.mem (.head _)) 0 _ rfl
          have t17 : a.tmps[17]?.getD undef = .pointer (some ⟨PB, 0, none⟩) := Reg.slot_val (hd 4 (by kernel_rfl) 17 rfl)
          go_simp
          exact hK _ _ (fun _ => rfl) (fun h => by cases h) HC.out trivial
        · rintro a w1 hC hx hd K hK
          have HC := Lib.hid hC
          clear hC
          have t16 : a.tmps[16]?.getD undef = .slice (some ⟨g, 0, none⟩) fl cap := Reg.slot_val (hd 3 (by kernel_rfl) 16 rfl)
          have t18 : a.tmps[18]?.getD undef = .int .i64 h.p := Reg.slot_val (hd 5 (by kernel_rfl) 18 rfl)
          go_simp
          exact hK _ _ (fun _ => rfl) (fun h => by cases h) HC.out trivial
        · rintro a w1 hC hx hd K hK
          have HC := Lib.hid hC
          clear hC
          have t19 : a.tmps[19]?.getD undef = .pointer (some ⟨g, h.p.toNat * 3, none⟩) := Reg.slot_val (hd 6 (by kernel_rfl) 19 rfl)
          go_simp
          exact hK _ _ (fun _ => rfl) (fun h => by cases h) HC.out trivial
      rintro f w4 hC hd hT
      have g6 : f 6 = .pointer (some ⟨g, h.p.toNat * 3, none⟩) := hd 7 6 rfl
      simp only [Reg.mixL, g6]
      have ST4 := Lib.hid hC.1
      have EA4 := Lib.hid hC.2
      clear hC hd hT g6
      go_wp2_with fail
      refine Reg3.wp_region_mix (C := fun w' => St w ((PB, h.l) :: L) g NX w' ∧ Agree (fun b => b ≠ g) W w') (G := fun _ _ => True) (R := fun i v w' => match i with | 0 => v = .pointer (some ⟨g, h.p.toNat * 3, none⟩) | 1 => v = .agg #[.int .i64 h.p, .int .i64 h.k, .float .f32 h.x, .float .f32 h.y, .float .f32 h.z, .float .f32 h.s, .float .f32 h.t, .float .f32 h.u] | 2 => v = .pointer (some ⟨g, h.p.toNat * 3, none⟩) | 3 => v = .pointer (some ⟨g, h.p.toNat * 3, none⟩) | 4 => ∃ p q r, v = vv p q r ∧ F3 p q r NP | 5 => ∃ p q r, v = vv p q r ∧ F3 p q r (putC HCk NP) | 6 => v = .pointer (some ⟨g, h.p.toNat * 3, none⟩) | _ => True) (T := fun _ _ w' => St w ((PB, h.l) :: L) g (NX.set h.p.toNat (putC HCk NP)) w' ∧ Agree (fun b => b ≠ g) W w') [false, false, false, false, false, false, false, false, false, false, false, false, false, false, false, false, false, false, false, false, true, true, true, true, true, true, true, false]
        (by kernel_rfl) (by kernel_rfl) (by kernel_rfl) (fun _ _ _ _ _ _ h => h) ⟨ST4.out.drewN 1, EA4.out.trans (Agree.of_below (below_drewN (Below.refl _ _) 1))⟩ ?_ ?_
      · refine ⟨Reg3.Obl.mk ?_, Reg3.Obl.mk ?_, Reg3.Obl.mk ?_, Reg3.Obl.mk ?_, Reg3.Obl.mk ?_, Reg3.Obl.mk ?_, Reg3.Obl.mk ?_, Reg3.Obl.mk ?_, trivial⟩
        · rintro a w1 hC hx hd K hK
          have HC := Lib.hid hC
          clear hC
          have t6 : a.tmps[6]?.getD undef = .pointer (some ⟨g, h.p.toNat * 3, none⟩) := Reg.slot_val (hx 6 (by kernel_rfl))
          go_simp
          exact hK _ _ (fun _ => rfl) (fun h => by cases h) (fun _ => HC.out) trivial
        · rintro a w1 hC hx hd K hK
          have HC := Lib.hid hC
          clear hC
          have y0 := (HC.out.1.mem (.head _)) 0 _ rfl
          have y1 := (HC.out.1.mem (.head _)) 1 _ rfl
          have y2 := (HC.out.1.mem (.head _)) 2 _ rfl
          have y3 := (HC.out.1.mem (.head _)) 3 _ rfl
          have y4 := (HC.out.1.mem (.head _)) 4 _ rfl
          have y5 := (HC.out.1.mem (.head _)) 5 _ rfl
          have y6 := (HC.out.1.mem (.head _)) 6 _ rfl
          have y7 := (HC.out.1.mem (.head _)) 7 _ rfl
          have t5 : a.tmps[5]?.getD undef = .pointer (some ⟨PB, 0, none⟩) := Reg.slot_val (hx 5 (by kernel_rfl))
          go_simp
          exact hK _ _ (fun _ => rfl) (fun h => by cases h) (fun _ => HC.out) trivial
        · rintro a w1 hC hx hd K hK
          have HC := Lib.hid hC
          clear hC
          have t6 : a.tmps[6]?.getD undef = .pointer (some ⟨g, h.p.toNat * 3, none⟩) := Reg.slot_val (hx 6 (by kernel_rfl))
          go_simp
          exact hK _ _ (fun _ => rfl) (fun h => by cases h) (fun _ => HC.out) trivial
        · rintro a w1 hC hx hd K hK
          have HC := Lib.hid hC
          clear hC
          have t22 : a.tmps[22]?.getD undef = .pointer (some ⟨g, h.p.toNat * 3, none⟩) := Reg.slot_val (hd 2 (by kernel_rfl) 22 rfl)
          go_simp
          exact hK _ _ (fun _ => rfl) (fun h => by cases h) (fun _ => HC.out) trivial
        · rintro a w1 hC hx hd K hK
          have HC := Lib.hid hC
          clear hC
          obtain ⟨pp, qq, rr, ⟨y0, y1, y2⟩, hf⟩ := HC.out.1.own.at (k := h.p.toNat) LT.out
          rw [HNP.out] at hf
          have t23 : a.tmps[23]?.getD undef = .pointer (some ⟨g, h.p.toNat * 3, none⟩) := Reg.slot_val (hd 3 (by kernel_rfl) 23 rfl)
          go_simp
          exact hK _ _ (fun _ => ⟨pp, qq, rr, rfl, hf⟩) (fun h => by cases h) (fun _ => HC.out) trivial
        · rintro a w1 hC hx hd K hK
          have HC := Lib.hid hC
          clear hC
          have t21 : a.tmps[21]?.getD undef = .agg #[.int .i64 h.p, .int .i64 h.k, .float .f32 h.x, .float .f32 h.y, .float .f32 h.z, .float .f32 h.s, .float .f32 h.t, .float .f32 h.u] := Reg.slot_val (hd 1 (by kernel_rfl) 21 rfl)
          obtain ⟨p24, q24, r24, g24, f24⟩ := hd 4 (by kernel_rfl) 24 rfl
          have t24 := Reg.slot_val g24
          clear g24
          go_simp
          refine (impl_puts h HCk _ _ _ _ _ HI.out f24).mono ?_
          rintro en w2 ⟨p', q', r', rfl, hF, hB2⟩
          exact hK _ _ (fun _ => ⟨p', q', r', rfl, hF⟩) (fun h => by cases h) (fun _ => ⟨HC.out.1.call hB2, HC.out.2.trans (Agree.of_below hB2)⟩) trivial
        · rintro a w1 hC hx hd K hK
          have HC := Lib.hid hC
          clear hC
          have t20 : a.tmps[20]?.getD undef = .pointer (some ⟨g, h.p.toNat * 3, none⟩) := Reg.slot_val (hd 0 (by kernel_rfl) 20 rfl)
          go_simp
          exact hK _ _ (fun _ => rfl) (fun h => by cases h) (fun _ => HC.out) trivial
        · rintro a w1 hC hx hd K hK
          have HC := Lib.hid hC
          clear hC
          have t26 : a.tmps[26]?.getD undef = .pointer (some ⟨g, h.p.toNat * 3, none⟩) := Reg.slot_val (hd 6 (by kernel_rfl) 26 rfl)
          obtain ⟨p25, q25, r25, g25, f25⟩ := hd 5 (by kernel_rfl) 25 rfl
          have t25 := Reg.slot_val g25
          clear g25
          obtain ⟨u0, u1, u2, ⟨x0, x1, x2⟩, _⟩ := HC.out.1.own.at (k := h.p.toNat) LT.out
          have k0 := HC.out.1.own.2.1 (h.p.toNat * 3)
          have k1 := HC.out.1.own.2.1 (h.p.toNat * 3 + 1)
          have k2 := HC.out.1.own.2.1 (h.p.toNat * 3 + 2)
          go_simp
          exact hK undef _ (fun h => absurd rfl h) (fun _ => ⟨HC.out.1.put LT.out f25, ((HC.out.2.set (fun hb => hb rfl)).set (fun hb => hb rfl)).set (fun hb => hb rfl)⟩) (fun h => absurd rfl h) trivial
      rintro f w5 hd hT
      have hS := hT 7 (by kernel_rfl) (by decide)
      simp only [Reg.mixL]
      have ST2 := Lib.hid hS.1.drop
      have EA2 := Lib.hid hS.2
      clear hd hT hS
      go_wp2
      go_roundw
      case rel => exact ⟨k + 1, by omega, by go_num, by rw [HSN.out]; exact ⟨ST2.out, EA2.out⟩⟩
      case measure => simp [intOf]; omega
    · obtain rfl : k = hl := by omega
      have hall : hs.take k = hs := by rw [← hhl]; exact List.take_length
      rw [hall] at ST
      go_wp2
      (try simp only [Exit.inBlock, Exit.then]); refine bodyPost_end (results_none rfl _ _ _) rfl ?_; exact ⟨rfl, ST.out, EK.out⟩
end Go.Proofs.Ytajglpkeojaelaa


/-
A body whose places are moved: what the model makes. Conditions: all lie in memory, of one length.
-/
namespace Go.Proofs.Ytajglpkeojaelaa
open Go Fk Go.RowKit
set_option linter.unusedVariables false
set_option maxRecDepth 8000

end Go.Proofs.Ytajglpkeojaelaa


/-
A body whose places are moved: what the model returns. Conditions: all lie in memory.
-/
namespace Go.Proofs.Ytajglpkeojaelaa
open Go Fk Go.RowKit
set_option linter.unusedVariables false
set_option maxRecDepth 8000

theorem mvC_body {c : Bc} (ys : List C3) (d : Option Nat) (h : bodyB c = true) : bodyB (mvC c ys d) = true := by
  have hl : (mvC c ys d).cs.length = c.cs.length := mkM_len _ _ _ _ _
  unfold bodyB validB at h ⊢
  rw [hl]
  exact h
theorem mv_len (c : Bc) (ys : List C3) (n : Nat) (d : Option Nat) : (mvO c ys n d).cs.length ≤ 64 ∧ (mvO c ys n d).ts.length ≤ 128 ∧ (mvO c ys n d).ss.length ≤ 200 ∧ (mvO c ys n d).zs.length ≤ 64 ∧ ∀ k, k < (mvO c ys n d).ts.length → ((mvO c ys n d).ts.getD k []).length ≤ 1048576 := by
  unfold mvO okM
  cases hv : bodyB c
  · exact ⟨Nat.zero_le _, Nat.zero_le _, Nat.zero_le _, Nat.zero_le _, fun k hk => absurd hk (Nat.not_lt_zero k)⟩
  cases decide (n = c.cs.length)
  · exact ⟨Nat.zero_le _, Nat.zero_le _, Nat.zero_le _, Nat.zero_le _, fun k hk => absurd hk (Nat.not_lt_zero k)⟩
  obtain ⟨q1, q2, q3, q4, q5⟩ := body_sizes (mvC_body ys d hv)
  exact ⟨q1, q2, q3, q4, fun k hk => (by have := q5 k hk; show ((mvC c ys d).ts.getD k []).length ≤ 1048576; omega)⟩
end Go.Proofs.Ytajglpkeojaelaa

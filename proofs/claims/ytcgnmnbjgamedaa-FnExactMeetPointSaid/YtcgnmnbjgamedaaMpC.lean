
/-
Where three paths meet: what the model returns. Conditions: none beyond that the words fit.
-/
import Derived.Test.YtcgnmnbjgamedaaMpB
import Derived.Test.YtcgnmnbjgamedaaHoC
import Derived.Test.YtcgnmnbjgamedaaReg6
namespace Go.Proofs.Ytcgnmnbjgamedaa
open Go Fk Go.RowKit
set_option linter.unusedVariables false
set_option maxRecDepth 16000

theorem l00InM (k : Int) (w : World) : Calls Try.prog 63 #[.int .i64 k, .int .i64 0, .int .i64 100] w fun e w' => e = .returned (.bool (decide (0 ≤ k ∧ k ≤ 100))) ∧ w' = w := by
  by_cases h : 0 ≤ k
  · by_cases h2 : k ≤ 100
    · rw [decide_eq_true ⟨h, h2⟩]
      go_enter Try.func63, Try.ntmps63
      go_wp2
      go_ret
      exact ⟨ret_bool (by first | (simp; done) | (simp; omega)), rfl⟩
    · rw [decide_eq_false (fun hh => h2 hh.2)]
      go_enter Try.func63, Try.ntmps63
      go_wp2
      go_ret
      exact ⟨ret_bool (by first | (simp; done) | (simp; omega)), rfl⟩
  · rw [decide_eq_false (fun hh => h hh.1)]
    go_enter Try.func63, Try.ntmps63
    go_wp2
    go_ret
    exact ⟨rfl, rfl⟩
theorem l01FiniteC (x : Nat) (c : Option Nat) (w : World) (h : FV .f32 x c) :
    Calls Try.prog 51 #[.float .f32 x] w fun e w' => e = .returned (.bool (finC c)) ∧ Below w.heap.size w w' := by
  rw [← h.fin]
  refine (l01Finite x w h.1).mono ?_
  rintro e w1 ⟨rfl, n, rfl⟩
  exact ⟨rfl, below_drewN (Below.refl _ _) _⟩
theorem evalPutNe {a : Act} {d t : Tmp} {v : Value} (h : d ≠ t) : (a.put (some d) v).eval (.tmp t) = a.eval (.tmp t) := Act.eval_put (fun e he hh => by cases he; cases hh; exact h rfl)
/-- A new block of three zeros that may be written. -/
def Z3 (w : World) (b : Nat) : Prop := (w.cell? ⟨b, 0, none⟩ = some (.float .f32 0) ∧ w.cell? ⟨b, 1, none⟩ = some (.float .f32 0) ∧ w.cell? ⟨b, 2, none⟩ = some (.float .f32 0)) ∧ Fr w b
theorem Z3.below {W w : World} {b : Nat} (hb : Below W.heap.size W w) (h : Z3 W b) : Z3 w b := ⟨⟨cell_below hb h.1.1, cell_below hb h.1.2.1, cell_below hb h.1.2.2⟩, h.2.below hb (World.block_lt_of_cell? _ _ h.1.1)⟩
theorem Z3.new {w : World} {t : TypeId} : Z3 (w.alloc (.cells #[.float .f32 0, .float .f32 0, .float .f32 0] t)) w.heap.size := ⟨⟨new0, new1, new2⟩, Fr.new⟩
theorem Bx.z3 {w w1 : World} {L : List (Nat × List Value)} {b : Nat} (h : Bx w L w1) (hz : Z3 w1 b) (hl : w.heap.size ≤ b) : Bx w ((b, [.float .f32 0, .float .f32 0, .float .f32 0]) :: L) w1 := by
  refine ⟨h.1, fun b' l' hm => ?_⟩
  rcases List.mem_cons.1 hm with e | hm
  · cases e
    refine ⟨fun i v hi => ?_, hz.2, World.block_lt_of_cell? _ _ hz.1.1, hl⟩
    match i with
    | 0 => cases hi; exact hz.1.1
    | 1 => cases hi; exact hz.1.2.1
    | 2 => cases hi; exact hz.1.2.2
    | _ + 3 => simp at hi
  · exact h.2 b' l' hm
/-- The point so far, and the boxes. -/
def Ms (a b c E : C3) (L : List (Nat × List Value)) (n pt : Nat) (w : World) (k : Nat) (w' : World) : Prop := ∃ x y z cp, Bx w ((pt, [.float .f32 x, .float .f32 y, .float .f32 z]) :: L) w' ∧ F3 x y z cp ∧ walkC a b c (n - k) cp = E
set_option maxHeartbeats 16000000 in
theorem spec_MeetPoint (ax ay az bx by' bz cx cy cz : Nat) (z : Int) (a b c : C3) (w : World) (ha : F3 ax ay az a) (hb : F3 bx by' bz b) (hc : F3 cx cy cz c) :
    Calls Try.prog 29 #[vv ax ay az, vv bx by' bz, vv cx cy cz, .int .i64 z] w fun e w' => (∃ x y t, e = .returned (.tuple #[vv x y t, .bool (okMP a b c z)]) ∧ F3 x y t (pointC a b c z)) ∧ Below w.heap.size w w' := by
  have u := Try.underlying22
  have uv := Try.underlying33
  have ue := Try.underlying63
  have HA := Lib.hid ha
  have HB := Lib.hid hb
  have HC' := Lib.hid hc
  have bx1 := (Bx.nil w).box (vs := [.float .f32 ax, .float .f32 ay, .float .f32 az]) (t := 33)
  have bx2 := bx1.box (vs := [.float .f32 bx, .float .f32 by', .float .f32 bz]) (t := 33)
  have bx3 := bx2.box (vs := [.float .f32 cx, .float .f32 cy, .float .f32 cz]) (t := 33)
  have bx4 := bx3.box (vs := [.float .f32 0, .float .f32 0, .float .f32 0]) (t := 33)
  have BX := Lib.hid bx4
  simp at BX
  have JF1 := Lib.hid (fun w => l01VFinite ax ay az a w HA.out.1 HA.out.2.1 HA.out.2.2)
  have JF2 := Lib.hid (fun w => l01VFinite bx by' bz b w HB.out.1 HB.out.2.1 HB.out.2.2)
  have JF3 := Lib.hid (fun w => l01VFinite cx cy cz c w HC'.out.1 HC'.out.2.1 HC'.out.2.2)
  have JN := Lib.hid (fun w => l00InM z w)
  have OKP : Hid (okMP a b c z = (finV a && (finV b && (finV c && decide (0 ≤ z ∧ z ≤ 100))))) := Lib.hid rfl
  generalize hf1 : finV a = i1 at *
  generalize hf2 : finV b = i2 at *
  generalize hf3 : finV c = i3 at *
  clear bx1 bx2 bx3 bx4 ha hb hc hf1 hf2 hf3
  go_enter Try.func29, Try.ntmps29
  go_wp2_with fail
  generalize (((w.alloc (.cells #[.float .f32 ax, .float .f32 ay, .float .f32 az] 33)).alloc (.cells #[.float .f32 bx, .float .f32 by', .float .f32 bz] 33)).alloc (.cells #[.float .f32 cx, .float .f32 cy, .float .f32 cz] 33)).alloc (.cells #[.float .f32 0, .float .f32 0, .float .f32 0] 33) = W at *
  refine (JF1.out W).mono ?_
  rintro e w1 ⟨rfl, hB1⟩
  have BX1 := Lib.hid (BX.out.call hB1)
  clear hB1 BX JF1
  cases i1
  · have q0 := (BX1.out.mem (.head _)) 0 _ rfl
    have q1 := (BX1.out.mem (.head _)) 1 _ rfl
    have q2 := (BX1.out.mem (.head _)) 2 _ rfl
    have k0 := BX1.out.free (.head _) 0
    have k1 := BX1.out.free (.head _) 1
    have k2 := BX1.out.free (.head _) 2
    have BS := Lib.hid (BX1.out.put3 (fun b' l' hm => by simp only [List.mem_cons, Prod.mk.injEq, List.not_mem_nil, or_false] at hm; omega) (.float .f32 0) (.float .f32 0) (.float .f32 0))
    go_wp2
    clear q0 q1 q2 k0 k1 k2
    have m0 := (BS.out.mem (.head _)) 0 _ rfl
    have m1 := (BS.out.mem (.head _)) 1 _ rfl
    have m2 := (BS.out.mem (.head _)) 2 _ rfl
    refine bodyPost_ret (v := .tuple #[vv 0 0 0, .bool false]) (by simp [results, Try.results29, go_sem, m0, m1, m2]) rfl ?_
    have ho : okMP a b c z = false := by
      rw [OKP.out]; rfl
    refine ⟨⟨0, 0, 0, by rw [ho], ?_⟩, BS.out.bel⟩
    unfold pointC
    rw [ho]
    exact ⟨fv_z, fv_z, fv_z⟩
  · have y0 := (BX1.out.mem (.tail _ (.tail _ (.head _)))) 0 _ rfl
    have y1 := (BX1.out.mem (.tail _ (.tail _ (.head _)))) 1 _ rfl
    have y2 := (BX1.out.mem (.tail _ (.tail _ (.head _)))) 2 _ rfl
    go_wp2_with fail
    clear y0 y1 y2
    refine (JF2.out w1).mono ?_
    rintro e w2 ⟨rfl, hB2⟩
    have BX2 := Lib.hid (BX1.out.call hB2)
    clear hB2 BX1 JF2
    cases i2
    · have q0 := (BX2.out.mem (.head _)) 0 _ rfl
      have q1 := (BX2.out.mem (.head _)) 1 _ rfl
      have q2 := (BX2.out.mem (.head _)) 2 _ rfl
      have k0 := BX2.out.free (.head _) 0
      have k1 := BX2.out.free (.head _) 1
      have k2 := BX2.out.free (.head _) 2
      have BS := Lib.hid (BX2.out.put3 (fun b' l' hm => by simp only [List.mem_cons, Prod.mk.injEq, List.not_mem_nil, or_false] at hm; omega) (.float .f32 0) (.float .f32 0) (.float .f32 0))
      go_wp2
      clear q0 q1 q2 k0 k1 k2
      have m0 := (BS.out.mem (.head _)) 0 _ rfl
      have m1 := (BS.out.mem (.head _)) 1 _ rfl
      have m2 := (BS.out.mem (.head _)) 2 _ rfl
      refine bodyPost_ret (v := .tuple #[vv 0 0 0, .bool false]) (by simp [results, Try.results29, go_sem, m0, m1, m2]) rfl ?_
      have ho : okMP a b c z = false := by
        rw [OKP.out]; simp
      refine ⟨⟨0, 0, 0, by rw [ho], ?_⟩, BS.out.bel⟩
      unfold pointC
      rw [ho]
      exact ⟨fv_z, fv_z, fv_z⟩
    · have y0 := (BX2.out.mem (.tail _ (.head _))) 0 _ rfl
      have y1 := (BX2.out.mem (.tail _ (.head _))) 1 _ rfl
      have y2 := (BX2.out.mem (.tail _ (.head _))) 2 _ rfl
      go_wp2_with fail
      clear y0 y1 y2
      refine (JF3.out w2).mono ?_
      rintro e w3 ⟨rfl, hB3⟩
      have BX3 := Lib.hid (BX2.out.call hB3)
      clear hB3 BX2 JF3
      cases i3
      · have q0 := (BX3.out.mem (.head _)) 0 _ rfl
        have q1 := (BX3.out.mem (.head _)) 1 _ rfl
        have q2 := (BX3.out.mem (.head _)) 2 _ rfl
        have k0 := BX3.out.free (.head _) 0
        have k1 := BX3.out.free (.head _) 1
        have k2 := BX3.out.free (.head _) 2
        have BS := Lib.hid (BX3.out.put3 (fun b' l' hm => by simp only [List.mem_cons, Prod.mk.injEq, List.not_mem_nil, or_false] at hm; omega) (.float .f32 0) (.float .f32 0) (.float .f32 0))
        go_wp2
        clear q0 q1 q2 k0 k1 k2
        have m0 := (BS.out.mem (.head _)) 0 _ rfl
        have m1 := (BS.out.mem (.head _)) 1 _ rfl
        have m2 := (BS.out.mem (.head _)) 2 _ rfl
        refine bodyPost_ret (v := .tuple #[vv 0 0 0, .bool false]) (by simp [results, Try.results29, go_sem, m0, m1, m2]) rfl ?_
        have ho : okMP a b c z = false := by
          rw [OKP.out]; simp
        refine ⟨⟨0, 0, 0, by rw [ho], ?_⟩, BS.out.bel⟩
        unfold pointC
        rw [ho]
        exact ⟨fv_z, fv_z, fv_z⟩
      · go_wp2_with fail
        refine (JN.out _).mono ?_
        rintro e w4 ⟨rfl, rfl⟩
        cases hz : decide (0 ≤ z ∧ z ≤ 100)
        · have q0 := (BX3.out.mem (.head _)) 0 _ rfl
          have q1 := (BX3.out.mem (.head _)) 1 _ rfl
          have q2 := (BX3.out.mem (.head _)) 2 _ rfl
          have k0 := BX3.out.free (.head _) 0
          have k1 := BX3.out.free (.head _) 1
          have k2 := BX3.out.free (.head _) 2
          have BS := Lib.hid (BX3.out.put3 (fun b' l' hm => by simp only [List.mem_cons, Prod.mk.injEq, List.not_mem_nil, or_false] at hm; omega) (.float .f32 0) (.float .f32 0) (.float .f32 0))
          go_wp2
          clear q0 q1 q2 k0 k1 k2
          have m0 := (BS.out.mem (.head _)) 0 _ rfl
          have m1 := (BS.out.mem (.head _)) 1 _ rfl
          have m2 := (BS.out.mem (.head _)) 2 _ rfl
          refine bodyPost_ret (v := .tuple #[vv 0 0 0, .bool false]) (by simp [results, Try.results29, go_sem, m0, m1, m2]) rfl ?_
          have ho : okMP a b c z = false := by
            rw [OKP.out, hz]; simp
          refine ⟨⟨0, 0, 0, by rw [ho], ?_⟩, BS.out.bel⟩
          unfold pointC
          rw [ho]
          exact ⟨fv_z, fv_z, fv_z⟩
        · have hz' := of_decide_eq_true hz
          obtain ⟨n, rfl⟩ : ∃ n : Nat, z = n := ⟨z.toNat, by omega⟩
          have hn100 : n ≤ 100 := by omega
          have OKT : Hid (okMP a b c (n : Int) = true) := Lib.hid (by rw [OKP.out, hz]; rfl)
          have PT : Hid (pointC a b c (n : Int) = walkC a b c n (startC a b c)) := Lib.hid (by unfold pointC; rw [OKT.out]; rfl)
          clear OKP hz hz'
          go_wp2_with fail
          refine Reg6.wp_region_mix (s := 7) (C := Bx w [(w.heap.size + 1 + 1 + 1, [.float .f32 0, .float .f32 0, .float .f32 0]), (w.heap.size + 1 + 1, [.float .f32 cx, .float .f32 cy, .float .f32 cz]), (w.heap.size + 1, [.float .f32 bx, .float .f32 by', .float .f32 bz]), (w.heap.size, [.float .f32 ax, .float .f32 ay, .float .f32 az])]) (D := fun aa w' => ∃ bb xx yy tt, aa.eval (.tmp 10) = .pointer (some ⟨bb, 0, none⟩) ∧ (∀ b' l', (b', l') ∈ ([(w.heap.size + 1 + 1 + 1, [.float .f32 0, .float .f32 0, .float .f32 0]), (w.heap.size + 1 + 1, [.float .f32 cx, .float .f32 cy, .float .f32 cz]), (w.heap.size + 1, [.float .f32 bx, .float .f32 by', .float .f32 bz]), (w.heap.size, [.float .f32 ax, .float .f32 ay, .float .f32 az])] : List (Nat × List Value)) → bb ≠ b') ∧ F3 xx yy tt (startC a b c) ∧ Bx w ((bb, [.float .f32 xx, .float .f32 yy, .float .f32 tt]) :: [(w.heap.size + 1 + 1 + 1, [.float .f32 0, .float .f32 0, .float .f32 0]), (w.heap.size + 1 + 1, [.float .f32 cx, .float .f32 cy, .float .f32 cz]), (w.heap.size + 1, [.float .f32 bx, .float .f32 by', .float .f32 bz]), (w.heap.size, [.float .f32 ax, .float .f32 ay, .float .f32 az])]) w') (G := fun w1 w2 => Below w1.heap.size w1 w2) (Rv := fun i v => match i with | 0 => v = .agg #[.float .f32 ax, .float .f32 ay, .float .f32 az] | 1 => v = .agg #[.float .f32 bx, .float .f32 by', .float .f32 bz] | 2 => ∃ p q r, v = vv p q r ∧ F3 p q r (plusC a b) | 3 => v = .agg #[.float .f32 cx, .float .f32 cy, .float .f32 cz] | 4 => ∃ p q r, v = vv p q r ∧ F3 p q r (plusC (plusC a b) c) | 5 => ∃ p q r, v = vv p q r ∧ F3 p q r (startC a b c) | _ => True) (Rw := fun i v w' => match i with | 6 => ∃ bb, v = .pointer (some ⟨bb, 0, none⟩) ∧ (∀ b' l', (b', l') ∈ ([(w.heap.size + 1 + 1 + 1, [.float .f32 0, .float .f32 0, .float .f32 0]), (w.heap.size + 1 + 1, [.float .f32 cx, .float .f32 cy, .float .f32 cz]), (w.heap.size + 1, [.float .f32 bx, .float .f32 by', .float .f32 bz]), (w.heap.size, [.float .f32 ax, .float .f32 ay, .float .f32 az])] : List (Nat × List Value)) → bb ≠ b') ∧ w.heap.size ≤ bb ∧ Z3 w' bb | _ => True) [false, false, false, false, false, false, false, false, false, false, true, false, false, false, false, false, false, false, false, false, false, false, false, false, false, false, false, false, false, false, false, false, false, false, false, true, true, true, true, true, true, false, false, false, false, false, false, false, false, false, false, false, false, false, false, false, false, false, false, false, false, false, false, false, false, false, false, false, false, false, false, false, false, false, false, false, false, false, false, false, false, false, false, false, false, false, false, false, false, false, false, false, false, false]
            (by kernel_rfl) (by kernel_rfl) (by kernel_rfl) ?_ (BX3.out.drewN 1) ?_ ?_
          · intro j v w1 w2 hC hG hR
            match j with
            | 0 => trivial
            | 1 => trivial
            | 2 => trivial
            | 3 => trivial
            | 4 => trivial
            | 5 => trivial
            | 6 => obtain ⟨b, e, h0, h1, h2⟩ := hR; exact ⟨b, e, h0, h1, h2.below hG⟩
            | 7 => trivial
            | _ + 8 => trivial
          · refine ⟨?_, ?_, ?_, ?_, ?_, ?_, ?_, ?_, trivial⟩
            · refine Reg6.Obl.early rfl (by kernel_rfl) ?_
              rintro a w1 hC hx hd K hK
              have HC := Lib.hid hC
              clear hC
              have y30 := (HC.out.mem (.tail _ (.tail _ (.tail _ (.head _))))) 0 _ rfl
              have y31 := (HC.out.mem (.tail _ (.tail _ (.tail _ (.head _))))) 1 _ rfl
              have y32 := (HC.out.mem (.tail _ (.tail _ (.tail _ (.head _))))) 2 _ rfl
              have t4 : a.tmps[4]?.getD undef = .pointer (some ⟨w.heap.size, 0, none⟩) := Reg.slot_val (hx 4 (by kernel_rfl))
              go_simp
              exact hK _ _ rfl trivial HC.out (Below.refl _ _)
            · refine Reg6.Obl.early rfl (by kernel_rfl) ?_
              rintro a w1 hC hx hd K hK
              have HC := Lib.hid hC
              clear hC
              have y20 := (HC.out.mem (.tail _ (.tail _ (.head _)))) 0 _ rfl
              have y21 := (HC.out.mem (.tail _ (.tail _ (.head _)))) 1 _ rfl
              have y22 := (HC.out.mem (.tail _ (.tail _ (.head _)))) 2 _ rfl
              have t5 : a.tmps[5]?.getD undef = .pointer (some ⟨w.heap.size + 1, 0, none⟩) := Reg.slot_val (hx 5 (by kernel_rfl))
              go_simp
              exact hK _ _ rfl trivial HC.out (Below.refl _ _)
            · refine Reg6.Obl.early rfl (by kernel_rfl) ?_
              rintro a w1 hC hx hd K hK
              have HC := Lib.hid hC
              clear hC
              have t35 : a.tmps[35]?.getD undef = .agg #[.float .f32 ax, .float .f32 ay, .float .f32 az] := Reg.slot_val ((hd 0 35 (by kernel_rfl) rfl).1)
              have t36 : a.tmps[36]?.getD undef = .agg #[.float .f32 bx, .float .f32 by', .float .f32 bz] := Reg.slot_val ((hd 1 36 (by kernel_rfl) rfl).1)
              go_simp
              refine (l01Add _ _ _ _ _ _ _ _ _ _ _ _ _ HA.out.1 HA.out.2.1 HA.out.2.2 HB.out.1 HB.out.2.1 HB.out.2.2).mono ?_
              rintro en w2 ⟨p', q', r', rfl, fp', fq', fr', hB2⟩
              exact hK _ _ ⟨p', q', r', rfl, fp', fq', fr'⟩ trivial (HC.out.call hB2) hB2
            · refine Reg6.Obl.early rfl (by kernel_rfl) ?_
              rintro a w1 hC hx hd K hK
              have HC := Lib.hid hC
              clear hC
              have y10 := (HC.out.mem (.tail _ (.head _))) 0 _ rfl
              have y11 := (HC.out.mem (.tail _ (.head _))) 1 _ rfl
              have y12 := (HC.out.mem (.tail _ (.head _))) 2 _ rfl
              have t6 : a.tmps[6]?.getD undef = .pointer (some ⟨w.heap.size + 1 + 1, 0, none⟩) := Reg.slot_val (hx 6 (by kernel_rfl))
              go_simp
              exact hK _ _ rfl trivial HC.out (Below.refl _ _)
            · refine Reg6.Obl.early rfl (by kernel_rfl) ?_
              rintro a w1 hC hx hd K hK
              have HC := Lib.hid hC
              clear hC
              obtain ⟨p37, q37, r37, g37, f37⟩ := (hd 2 37 (by kernel_rfl) rfl).1
              have t37 := Reg.slot_val g37
              clear g37
              have t38 : a.tmps[38]?.getD undef = .agg #[.float .f32 cx, .float .f32 cy, .float .f32 cz] := Reg.slot_val ((hd 3 38 (by kernel_rfl) rfl).1)
              go_simp
              refine (l01Add _ _ _ _ _ _ _ _ _ _ _ _ _ f37.1 f37.2.1 f37.2.2 HC'.out.1 HC'.out.2.1 HC'.out.2.2).mono ?_
              rintro en w2 ⟨p', q', r', rfl, fp', fq', fr', hB2⟩
              exact hK _ _ ⟨p', q', r', rfl, fp', fq', fr'⟩ trivial (HC.out.call hB2) hB2
            · refine Reg6.Obl.early rfl (by kernel_rfl) ?_
              rintro a w1 hC hx hd K hK
              have HC := Lib.hid hC
              clear hC
              obtain ⟨p39, q39, r39, g39, f39⟩ := (hd 4 39 (by kernel_rfl) rfl).1
              have t39 := Reg.slot_val g39
              clear g39
              go_simp
              refine (l01Scale _ _ _ _ _ _ _ _ _ f39.1 f39.2.1 f39.2.2 fv_thirdK).mono ?_
              rintro en w2 ⟨p', q', r', rfl, fp', fq', fr', hB2⟩
              exact hK _ _ ⟨p', q', r', rfl, fp', fq', fr'⟩ trivial (HC.out.call hB2) hB2
            · refine Reg6.Obl.early rfl (by kernel_rfl) ?_
              rintro a w1 hC hx hd K hK
              have HC := Lib.hid hC
              clear hC
              go_simp
              exact hK _ _ trivial ⟨w1.heap.size, rfl, fun b' l' hm => (Nat.ne_of_lt (HC.out.2 b' l' hm).2.2.1).symm, HC.out.1.size, Z3.new⟩ (HC.out.call ((Below.refl _ _).alloc (Nat.le_refl _) _)) ((Below.refl _ _).alloc (Nat.le_refl _) _)
            · refine Reg6.Obl.store rfl ?_
              rintro a w1 hC hx hd K hK
              have HC := Lib.hid hC
              clear hC
              obtain ⟨b, gb, hbl, hlo, hZ⟩ := (hd 6 10 (by kernel_rfl) rfl).2
              have tb := Reg.slot_val gb
              obtain ⟨x, y, t, g1, hF⟩ := (hd 5 40 (by kernel_rfl) rfl).1
              have tt := Reg.slot_val g1
              clear g1
              have GB := Lib.hid gb
              have HZ := Lib.hid hZ
              have HF := Lib.hid hF
              have HBL := Lib.hid hbl
              obtain ⟨⟨y0, y1, y2⟩, yf⟩ := hZ
              have f0 := yf 0
              have f1 := yf 1
              have f2 := yf 2
              clear yf gb hF hbl
              go_simp
              exact hK _ ⟨b, x, y, t, GB.out, HBL.out, HF.out, (HC.out.z3 HZ.out hlo).put3 HBL.out _ _ _⟩
          · rintro f W5 hD hv
            obtain ⟨pt, x0, y0, t0, e6, hne, hF0, hB0⟩ := hD
            have g10 : f 10 = .pointer (some ⟨pt, 0, none⟩) := e6
            clear e6 hv
            simp only [Reg.mixL, Nat.zero_add, Nat.reduceAdd, g10]
            have HNE := Lib.hid hne
            have M0 : Hid (Ms a b c (walkC a b c n (startC a b c)) [(w.heap.size + 1 + 1 + 1, [.float .f32 0, .float .f32 0, .float .f32 0]), (w.heap.size + 1 + 1, [.float .f32 cx, .float .f32 cy, .float .f32 cz]), (w.heap.size + 1, [.float .f32 bx, .float .f32 by', .float .f32 bz]), (w.heap.size, [.float .f32 ax, .float .f32 ay, .float .f32 az])] n pt w 0 W5) := Lib.hid ⟨_, _, _, _, hB0, hF0, rfl⟩
            clear hne hF0 hB0 g10 BX3
            generalize walkC a b c n (startC a b c) = E at *
            go_wp2
            go_loopw [11] (fun i w' => ∃ k : Nat, k ≤ n ∧ i = .int .i64 k ∧ Aside (Ms a b c E [(w.heap.size + 1 + 1 + 1, [.float .f32 0, .float .f32 0, .float .f32 0]), (w.heap.size + 1 + 1, [.float .f32 cx, .float .f32 cy, .float .f32 cz]), (w.heap.size + 1, [.float .f32 bx, .float .f32 by', .float .f32 bz]), (w.heap.size, [.float .f32 ax, .float .f32 ay, .float .f32 az])] n pt w k w')) (fun i _ => n - (intOf i).toNat)
            case atStart => exact ⟨0, Nat.zero_le _, rfl, M0.out⟩
            case round =>
              obtain ⟨k, hk, rfl, hA⟩ := hrel
              obtain ⟨x, y, t, cp, hBq, hF, hW⟩ := hA.out
              have BQ0 := Lib.hid hBq
              have FP := Lib.hid hF
              have HW := Lib.hid hW
              clear hA M0 hBq hF hW
              by_cases hlt : k < n
              · have HWS := Lib.hid (HW.out.symm.trans (walk_step (p := cp) hlt))
                have hk0 : (0 : Int) ≤ (k : Int) := by omega
                have hk1 : (k : Int) < (n : Int) := by omega
                have m0 := (BQ0.out.mem (.head _)) 0 _ rfl
                have m1 := (BQ0.out.mem (.head _)) 1 _ rfl
                have m2 := (BQ0.out.mem (.head _)) 2 _ rfl
                have y0 := (BQ0.out.mem (.tail _ (.tail _ (.tail _ (.tail _ (.head _)))))) 0 _ rfl
                have y1 := (BQ0.out.mem (.tail _ (.tail _ (.tail _ (.tail _ (.head _)))))) 1 _ rfl
                have y2 := (BQ0.out.mem (.tail _ (.tail _ (.tail _ (.tail _ (.head _)))))) 2 _ rfl
                go_wp2_with fail
                clear m0 m1 m2 y0 y1 y2
                refine (l01Less _ _ _ _ _ _ _ _ _ _ _ _ _ FP.out.1 FP.out.2.1 FP.out.2.2 HA.out.1 HA.out.2.1 HA.out.2.2).mono ?_
                rintro e v0 ⟨d0, d1, d2, rfl, f0, f1, f2, hB1⟩
                have BY := Lib.hid (BQ0.out.call hB1)
                clear hB1 BQ0
                go_wp2_with fail
                refine (l01Long _ _ _ _ _ _ _ f0 f1 f2).mono ?_
                rintro e u0 ⟨r0, rfl, fr, hB2⟩
                have BZ := Lib.hid (BY.out.call hB2)
                clear BY hB2
                have FU0 : Hid (FV .f32 (fR .quo .f32 1065353216 r0 u0) (shC cp a)) := Lib.hid (FV_fR fv_one32 fr)
                clear fr f0 f1 f2
                have BQ1 := Lib.hid (BZ.out.drewN (fN .quo .f32 1065353216 r0))
                clear BZ
                generalize hq0 : fR .quo .f32 1065353216 r0 u0 = q0 at *
                have m0 := (BQ1.out.mem (.head _)) 0 _ rfl
                have m1 := (BQ1.out.mem (.head _)) 1 _ rfl
                have m2 := (BQ1.out.mem (.head _)) 2 _ rfl
                have y0 := (BQ1.out.mem (.tail _ (.tail _ (.tail _ (.head _))))) 0 _ rfl
                have y1 := (BQ1.out.mem (.tail _ (.tail _ (.tail _ (.head _))))) 1 _ rfl
                have y2 := (BQ1.out.mem (.tail _ (.tail _ (.tail _ (.head _))))) 2 _ rfl
                go_wp2_with fail
                clear m0 m1 m2 y0 y1 y2
                refine (l01Less _ _ _ _ _ _ _ _ _ _ _ _ _ FP.out.1 FP.out.2.1 FP.out.2.2 HB.out.1 HB.out.2.1 HB.out.2.2).mono ?_
                rintro e v1 ⟨d0, d1, d2, rfl, f0, f1, f2, hB1⟩
                have BY := Lib.hid (BQ1.out.call hB1)
                clear hB1 BQ1
                go_wp2_with fail
                refine (l01Long _ _ _ _ _ _ _ f0 f1 f2).mono ?_
                rintro e u1 ⟨r1, rfl, fr, hB2⟩
                have BZ := Lib.hid (BY.out.call hB2)
                clear BY hB2
                have FU1 : Hid (FV .f32 (fR .quo .f32 1065353216 r1 u1) (shC cp b)) := Lib.hid (FV_fR fv_one32 fr)
                clear fr f0 f1 f2
                have BQ2 := Lib.hid (BZ.out.drewN (fN .quo .f32 1065353216 r1))
                clear BZ
                generalize hq1 : fR .quo .f32 1065353216 r1 u1 = q1 at *
                have m0 := (BQ2.out.mem (.head _)) 0 _ rfl
                have m1 := (BQ2.out.mem (.head _)) 1 _ rfl
                have m2 := (BQ2.out.mem (.head _)) 2 _ rfl
                have y0 := (BQ2.out.mem (.tail _ (.tail _ (.head _)))) 0 _ rfl
                have y1 := (BQ2.out.mem (.tail _ (.tail _ (.head _)))) 1 _ rfl
                have y2 := (BQ2.out.mem (.tail _ (.tail _ (.head _)))) 2 _ rfl
                go_wp2_with fail
                clear m0 m1 m2 y0 y1 y2
                refine (l01Less _ _ _ _ _ _ _ _ _ _ _ _ _ FP.out.1 FP.out.2.1 FP.out.2.2 HC'.out.1 HC'.out.2.1 HC'.out.2.2).mono ?_
                rintro e v2 ⟨d0, d1, d2, rfl, f0, f1, f2, hB1⟩
                have BY := Lib.hid (BQ2.out.call hB1)
                clear hB1 BQ2
                go_wp2_with fail
                refine (l01Long _ _ _ _ _ _ _ f0 f1 f2).mono ?_
                rintro e u2 ⟨r2, rfl, fr, hB2⟩
                have BZ := Lib.hid (BY.out.call hB2)
                clear BY hB2
                have FU2 : Hid (FV .f32 (fR .quo .f32 1065353216 r2 u2) (shC cp c)) := Lib.hid (FV_fR fv_one32 fr)
                clear fr f0 f1 f2
                have BQ3 := Lib.hid (BZ.out.drewN (fN .quo .f32 1065353216 r2))
                clear BZ
                generalize hq2 : fR .quo .f32 1065353216 r2 u2 = q2 at *
                go_wp2_with fail
                refine (l01FiniteC _ _ _ FU0.out).mono ?_
                rintro e w6 ⟨rfl, hB6⟩
                have BR1 := Lib.hid (BQ3.out.call hB6)
                clear hB6 BQ3
                cases h1 : finC (shC cp a)
                · have HE : Hid (E = cp) := Lib.hid (by rw [HWS.out]; unfold okP; rw [h1]; simp)
                  clear h1
                  have BS0 : Hid (Bx w [(w.heap.size + 1 + 1 + 1, [.float .f32 0, .float .f32 0, .float .f32 0]), (pt, [.float .f32 x, .float .f32 y, .float .f32 t])] _) := Lib.hid (⟨BR1.out.1, fun b l hm => BR1.out.2 b l (by
                    rcases List.mem_cons.1 hm with e | hm
                    · exact e ▸ .tail _ (.head _)
                    · rcases List.mem_cons.1 hm with e | hm
                      · exact e ▸ .head _
                      · cases hm)⟩)
                  have hn := HNE.out _ _ (.head _)
                  have BS := Lib.hid (BS0.out.put3 (fun b' l' hm => by simp only [List.mem_cons, Prod.mk.injEq, List.not_mem_nil, or_false] at hm; rcases hm with ⟨rfl, _⟩; exact fun e => hn e.symm) (.float .f32 x) (.float .f32 y) (.float .f32 t))
                  clear hn
                  have q'0 := (BS0.out.mem (.head _)) 0 _ rfl
                  have q'1 := (BS0.out.mem (.head _)) 1 _ rfl
                  have q'2 := (BS0.out.mem (.head _)) 2 _ rfl
                  have k'0 := BS0.out.free (.head _) 0
                  have k'1 := BS0.out.free (.head _) 1
                  have k'2 := BS0.out.free (.head _) 2
                  have m0 := (BS0.out.mem (.tail _ (.head _))) 0 _ rfl
                  have m1 := (BS0.out.mem (.tail _ (.head _))) 1 _ rfl
                  have m2 := (BS0.out.mem (.tail _ (.head _))) 2 _ rfl
                  go_wp2
                  clear q'0 q'1 q'2 k'0 k'1 k'2 m0 m1 m2
                  have v'0 := (BS.out.mem (.head _)) 0 _ rfl
                  have v'1 := (BS.out.mem (.head _)) 1 _ rfl
                  have v'2 := (BS.out.mem (.head _)) 2 _ rfl
                  refine bodyPost_ret (v := .tuple #[vv x y t, .bool true]) (by simp [results, Try.results29, go_sem, v'0, v'1, v'2]) rfl ?_
                  exact ⟨⟨x, y, t, by rw [OKT.out], by rw [PT.out, HE.out]; exact FP.out⟩, BS.out.bel⟩
                · go_wp2_with fail
                  refine (l01FiniteC _ _ _ FU1.out).mono ?_
                  rintro e w7 ⟨rfl, hB7⟩
                  have BR2 := Lib.hid (BR1.out.call hB7)
                  clear hB7 BR1
                  cases h2 : finC (shC cp b)
                  · have HE : Hid (E = cp) := Lib.hid (by rw [HWS.out]; unfold okP; rw [h1, h2]; simp)
                    clear h1 h2
                    have BS0 : Hid (Bx w [(w.heap.size + 1 + 1 + 1, [.float .f32 0, .float .f32 0, .float .f32 0]), (pt, [.float .f32 x, .float .f32 y, .float .f32 t])] _) := Lib.hid (⟨BR2.out.1, fun b l hm => BR2.out.2 b l (by
                      rcases List.mem_cons.1 hm with e | hm
                      · exact e ▸ .tail _ (.head _)
                      · rcases List.mem_cons.1 hm with e | hm
                        · exact e ▸ .head _
                        · cases hm)⟩)
                    have hn := HNE.out _ _ (.head _)
                    have BS := Lib.hid (BS0.out.put3 (fun b' l' hm => by simp only [List.mem_cons, Prod.mk.injEq, List.not_mem_nil, or_false] at hm; rcases hm with ⟨rfl, _⟩; exact fun e => hn e.symm) (.float .f32 x) (.float .f32 y) (.float .f32 t))
                    clear hn
                    have q'0 := (BS0.out.mem (.head _)) 0 _ rfl
                    have q'1 := (BS0.out.mem (.head _)) 1 _ rfl
                    have q'2 := (BS0.out.mem (.head _)) 2 _ rfl
                    have k'0 := BS0.out.free (.head _) 0
                    have k'1 := BS0.out.free (.head _) 1
                    have k'2 := BS0.out.free (.head _) 2
                    have m0 := (BS0.out.mem (.tail _ (.head _))) 0 _ rfl
                    have m1 := (BS0.out.mem (.tail _ (.head _))) 1 _ rfl
                    have m2 := (BS0.out.mem (.tail _ (.head _))) 2 _ rfl
                    go_wp2
                    clear q'0 q'1 q'2 k'0 k'1 k'2 m0 m1 m2
                    have v'0 := (BS.out.mem (.head _)) 0 _ rfl
                    have v'1 := (BS.out.mem (.head _)) 1 _ rfl
                    have v'2 := (BS.out.mem (.head _)) 2 _ rfl
                    refine bodyPost_ret (v := .tuple #[vv x y t, .bool true]) (by simp [results, Try.results29, go_sem, v'0, v'1, v'2]) rfl ?_
                    exact ⟨⟨x, y, t, by rw [OKT.out], by rw [PT.out, HE.out]; exact FP.out⟩, BS.out.bel⟩
                  · go_wp2_with fail
                    refine (l01FiniteC _ _ _ FU2.out).mono ?_
                    rintro e w8 ⟨rfl, hB8⟩
                    have BR3 := Lib.hid (BR2.out.call hB8)
                    clear hB8 BR2
                    cases h3 : finC (shC cp c)
                    · have HE : Hid (E = cp) := Lib.hid (by rw [HWS.out]; unfold okP; rw [h1, h2, h3]; simp)
                      clear h1 h2 h3
                      have BS0 : Hid (Bx w [(w.heap.size + 1 + 1 + 1, [.float .f32 0, .float .f32 0, .float .f32 0]), (pt, [.float .f32 x, .float .f32 y, .float .f32 t])] _) := Lib.hid (⟨BR3.out.1, fun b l hm => BR3.out.2 b l (by
                        rcases List.mem_cons.1 hm with e | hm
                        · exact e ▸ .tail _ (.head _)
                        · rcases List.mem_cons.1 hm with e | hm
                          · exact e ▸ .head _
                          · cases hm)⟩)
                      have hn := HNE.out _ _ (.head _)
                      have BS := Lib.hid (BS0.out.put3 (fun b' l' hm => by simp only [List.mem_cons, Prod.mk.injEq, List.not_mem_nil, or_false] at hm; rcases hm with ⟨rfl, _⟩; exact fun e => hn e.symm) (.float .f32 x) (.float .f32 y) (.float .f32 t))
                      clear hn
                      have q'0 := (BS0.out.mem (.head _)) 0 _ rfl
                      have q'1 := (BS0.out.mem (.head _)) 1 _ rfl
                      have q'2 := (BS0.out.mem (.head _)) 2 _ rfl
                      have k'0 := BS0.out.free (.head _) 0
                      have k'1 := BS0.out.free (.head _) 1
                      have k'2 := BS0.out.free (.head _) 2
                      have m0 := (BS0.out.mem (.tail _ (.head _))) 0 _ rfl
                      have m1 := (BS0.out.mem (.tail _ (.head _))) 1 _ rfl
                      have m2 := (BS0.out.mem (.tail _ (.head _))) 2 _ rfl
                      go_wp2
                      clear q'0 q'1 q'2 k'0 k'1 k'2 m0 m1 m2
                      have v'0 := (BS.out.mem (.head _)) 0 _ rfl
                      have v'1 := (BS.out.mem (.head _)) 1 _ rfl
                      have v'2 := (BS.out.mem (.head _)) 2 _ rfl
                      refine bodyPost_ret (v := .tuple #[vv x y t, .bool true]) (by simp [results, Try.results29, go_sem, v'0, v'1, v'2]) rfl ?_
                      exact ⟨⟨x, y, t, by rw [OKT.out], by rw [PT.out, HE.out]; exact FP.out⟩, BS.out.bel⟩
                    · have HO : Hid (okP cp a b c = true) := Lib.hid (by unfold okP; rw [h1, h2, h3]; rfl)
                      have HE : Hid (walkC a b c (n - (k + 1)) (moveC cp a b c) = E) := Lib.hid (by rw [HWS.out, HO.out]; rfl)
                      clear h1 h2 h3
                      go_wp2_with fail
                      refine Reg6.wp_region_mix (s := 12) (C := Bx w [(pt, [.float .f32 x, .float .f32 y, .float .f32 t]), (w.heap.size + 1 + 1 + 1, [.float .f32 0, .float .f32 0, .float .f32 0]), (w.heap.size + 1 + 1, [.float .f32 cx, .float .f32 cy, .float .f32 cz]), (w.heap.size + 1, [.float .f32 bx, .float .f32 by', .float .f32 bz]), (w.heap.size, [.float .f32 ax, .float .f32 ay, .float .f32 az])]) (D := fun aa w' => ∃ bb xx yy tt, aa.eval (.tmp 15) = .pointer (some ⟨bb, 0, none⟩) ∧ (∀ b' l', (b', l') ∈ ([(pt, [.float .f32 x, .float .f32 y, .float .f32 t]), (w.heap.size + 1 + 1 + 1, [.float .f32 0, .float .f32 0, .float .f32 0]), (w.heap.size + 1 + 1, [.float .f32 cx, .float .f32 cy, .float .f32 cz]), (w.heap.size + 1, [.float .f32 bx, .float .f32 by', .float .f32 bz]), (w.heap.size, [.float .f32 ax, .float .f32 ay, .float .f32 az])] : List (Nat × List Value)) → bb ≠ b') ∧ F3 xx yy tt (plusC (plusC (scalC a (shC cp a)) (scalC b (shC cp b))) (scalC c (shC cp c))) ∧ Bx w ((bb, [.float .f32 xx, .float .f32 yy, .float .f32 tt]) :: [(pt, [.float .f32 x, .float .f32 y, .float .f32 t]), (w.heap.size + 1 + 1 + 1, [.float .f32 0, .float .f32 0, .float .f32 0]), (w.heap.size + 1 + 1, [.float .f32 cx, .float .f32 cy, .float .f32 cz]), (w.heap.size + 1, [.float .f32 bx, .float .f32 by', .float .f32 bz]), (w.heap.size, [.float .f32 ax, .float .f32 ay, .float .f32 az])]) w') (G := fun w1 w2 => Below w1.heap.size w1 w2) (Rv := fun i v => match i with | 0 => v = .agg #[.float .f32 ax, .float .f32 ay, .float .f32 az] | 1 => v = .float .f32 q0 | 2 => ∃ p q r, v = vv p q r ∧ F3 p q r (scalC a (shC cp a)) | 3 => v = .agg #[.float .f32 bx, .float .f32 by', .float .f32 bz] | 4 => v = .float .f32 q1 | 5 => ∃ p q r, v = vv p q r ∧ F3 p q r (scalC b (shC cp b)) | 6 => ∃ p q r, v = vv p q r ∧ F3 p q r (plusC (scalC a (shC cp a)) (scalC b (shC cp b))) | 7 => v = .agg #[.float .f32 cx, .float .f32 cy, .float .f32 cz] | 8 => v = .float .f32 q2 | 9 => ∃ p q r, v = vv p q r ∧ F3 p q r (scalC c (shC cp c)) | 10 => ∃ p q r, v = vv p q r ∧ F3 p q r (plusC (plusC (scalC a (shC cp a)) (scalC b (shC cp b))) (scalC c (shC cp c))) | _ => True) (Rw := fun i v w' => match i with | 11 => ∃ bb, v = .pointer (some ⟨bb, 0, none⟩) ∧ (∀ b' l', (b', l') ∈ ([(pt, [.float .f32 x, .float .f32 y, .float .f32 t]), (w.heap.size + 1 + 1 + 1, [.float .f32 0, .float .f32 0, .float .f32 0]), (w.heap.size + 1 + 1, [.float .f32 cx, .float .f32 cy, .float .f32 cz]), (w.heap.size + 1, [.float .f32 bx, .float .f32 by', .float .f32 bz]), (w.heap.size, [.float .f32 ax, .float .f32 ay, .float .f32 az])] : List (Nat × List Value)) → bb ≠ b') ∧ w.heap.size ≤ bb ∧ Z3 w' bb | _ => True) [false, false, false, false, false, false, false, false, false, false, false, false, false, false, false, true, false, false, false, false, false, false, false, false, false, false, false, false, false, false, false, false, false, false, false, false, false, false, false, false, false, false, false, false, false, false, false, false, false, false, false, false, false, false, false, false, false, false, false, false, false, false, false, false, false, false, false, false, false, false, false, false, false, false, true, true, true, true, true, true, true, true, true, true, true, false, false, false, false, false, false, false, false, false]
                        (by kernel_rfl) (by kernel_rfl) (by kernel_rfl) ?_ (BR3.out.drewN 1) ?_ ?_
                      · intro j v w1 w2 hC hG hR
                        match j with
                        | 0 => trivial
                        | 1 => trivial
                        | 2 => trivial
                        | 3 => trivial
                        | 4 => trivial
                        | 5 => trivial
                        | 6 => trivial
                        | 7 => trivial
                        | 8 => trivial
                        | 9 => trivial
                        | 10 => trivial
                        | 11 => obtain ⟨b, e, h0, h1, h2⟩ := hR; exact ⟨b, e, h0, h1, h2.below hG⟩
                        | 12 => trivial
                        | _ + 13 => trivial
                      · refine ⟨?_, ?_, ?_, ?_, ?_, ?_, ?_, ?_, ?_, ?_, ?_, ?_, ?_, trivial⟩
                        · refine Reg6.Obl.early rfl (by kernel_rfl) ?_
                          rintro a w1 hC hx hd K hK
                          have HC := Lib.hid hC
                          clear hC
                          have y40 := (HC.out.mem (.tail _ (.tail _ (.tail _ (.tail _ (.head _)))))) 0 _ rfl
                          have y41 := (HC.out.mem (.tail _ (.tail _ (.tail _ (.tail _ (.head _)))))) 1 _ rfl
                          have y42 := (HC.out.mem (.tail _ (.tail _ (.tail _ (.tail _ (.head _)))))) 2 _ rfl
                          have t4 : a.tmps[4]?.getD undef = .pointer (some ⟨w.heap.size, 0, none⟩) := Reg.slot_val (hx 4 (by kernel_rfl))
                          go_simp
                          exact hK _ _ rfl trivial HC.out (Below.refl _ _)
                        · refine Reg6.Obl.early rfl (by kernel_rfl) ?_
                          rintro a w1 hC hx hd K hK
                          have HC := Lib.hid hC
                          clear hC
                          have t12 : a.tmps[12]?.getD undef = .float .f32 q0 := Reg.slot_val (hx 12 (by kernel_rfl))
                          go_simp
                          exact hK _ _ rfl trivial HC.out (Below.refl _ _)
                        · refine Reg6.Obl.early rfl (by kernel_rfl) ?_
                          rintro a w1 hC hx hd K hK
                          have HC := Lib.hid hC
                          clear hC
                          have t74 : a.tmps[74]?.getD undef = .agg #[.float .f32 ax, .float .f32 ay, .float .f32 az] := Reg.slot_val ((hd 0 74 (by kernel_rfl) rfl).1)
                          have t75 : a.tmps[75]?.getD undef = .float .f32 q0 := Reg.slot_val ((hd 1 75 (by kernel_rfl) rfl).1)
                          go_simp
                          refine (l01Scale _ _ _ _ _ _ _ _ _ HA.out.1 HA.out.2.1 HA.out.2.2 FU0.out).mono ?_
                          rintro en w2 ⟨p', q', r', rfl, fp', fq', fr', hB2⟩
                          exact hK _ _ ⟨p', q', r', rfl, fp', fq', fr'⟩ trivial (HC.out.call hB2) hB2
                        · refine Reg6.Obl.early rfl (by kernel_rfl) ?_
                          rintro a w1 hC hx hd K hK
                          have HC := Lib.hid hC
                          clear hC
                          have y30 := (HC.out.mem (.tail _ (.tail _ (.tail _ (.head _))))) 0 _ rfl
                          have y31 := (HC.out.mem (.tail _ (.tail _ (.tail _ (.head _))))) 1 _ rfl
                          have y32 := (HC.out.mem (.tail _ (.tail _ (.tail _ (.head _))))) 2 _ rfl
                          have t5 : a.tmps[5]?.getD undef = .pointer (some ⟨w.heap.size + 1, 0, none⟩) := Reg.slot_val (hx 5 (by kernel_rfl))
                          go_simp
                          exact hK _ _ rfl trivial HC.out (Below.refl _ _)
                        · refine Reg6.Obl.early rfl (by kernel_rfl) ?_
                          rintro a w1 hC hx hd K hK
                          have HC := Lib.hid hC
                          clear hC
                          have t13 : a.tmps[13]?.getD undef = .float .f32 q1 := Reg.slot_val (hx 13 (by kernel_rfl))
                          go_simp
                          exact hK _ _ rfl trivial HC.out (Below.refl _ _)
                        · refine Reg6.Obl.early rfl (by kernel_rfl) ?_
                          rintro a w1 hC hx hd K hK
                          have HC := Lib.hid hC
                          clear hC
                          have t77 : a.tmps[77]?.getD undef = .agg #[.float .f32 bx, .float .f32 by', .float .f32 bz] := Reg.slot_val ((hd 3 77 (by kernel_rfl) rfl).1)
                          have t78 : a.tmps[78]?.getD undef = .float .f32 q1 := Reg.slot_val ((hd 4 78 (by kernel_rfl) rfl).1)
                          go_simp
                          refine (l01Scale _ _ _ _ _ _ _ _ _ HB.out.1 HB.out.2.1 HB.out.2.2 FU1.out).mono ?_
                          rintro en w2 ⟨p', q', r', rfl, fp', fq', fr', hB2⟩
                          exact hK _ _ ⟨p', q', r', rfl, fp', fq', fr'⟩ trivial (HC.out.call hB2) hB2
                        · refine Reg6.Obl.early rfl (by kernel_rfl) ?_
                          rintro a w1 hC hx hd K hK
                          have HC := Lib.hid hC
                          clear hC
                          obtain ⟨p76, q76, r76, g76, f76⟩ := (hd 2 76 (by kernel_rfl) rfl).1
                          have t76 := Reg.slot_val g76
                          clear g76
                          obtain ⟨p79, q79, r79, g79, f79⟩ := (hd 5 79 (by kernel_rfl) rfl).1
                          have t79 := Reg.slot_val g79
                          clear g79
                          go_simp
                          refine (l01Add _ _ _ _ _ _ _ _ _ _ _ _ _ f76.1 f76.2.1 f76.2.2 f79.1 f79.2.1 f79.2.2).mono ?_
                          rintro en w2 ⟨p', q', r', rfl, fp', fq', fr', hB2⟩
                          exact hK _ _ ⟨p', q', r', rfl, fp', fq', fr'⟩ trivial (HC.out.call hB2) hB2
                        · refine Reg6.Obl.early rfl (by kernel_rfl) ?_
                          rintro a w1 hC hx hd K hK
                          have HC := Lib.hid hC
                          clear hC
                          have y20 := (HC.out.mem (.tail _ (.tail _ (.head _)))) 0 _ rfl
                          have y21 := (HC.out.mem (.tail _ (.tail _ (.head _)))) 1 _ rfl
                          have y22 := (HC.out.mem (.tail _ (.tail _ (.head _)))) 2 _ rfl
                          have t6 : a.tmps[6]?.getD undef = .pointer (some ⟨w.heap.size + 1 + 1, 0, none⟩) := Reg.slot_val (hx 6 (by kernel_rfl))
                          go_simp
                          exact hK _ _ rfl trivial HC.out (Below.refl _ _)
                        · refine Reg6.Obl.early rfl (by kernel_rfl) ?_
                          rintro a w1 hC hx hd K hK
                          have HC := Lib.hid hC
                          clear hC
                          have t14 : a.tmps[14]?.getD undef = .float .f32 q2 := Reg.slot_val (hx 14 (by kernel_rfl))
                          go_simp
                          exact hK _ _ rfl trivial HC.out (Below.refl _ _)
                        · refine Reg6.Obl.early rfl (by kernel_rfl) ?_
                          rintro a w1 hC hx hd K hK
                          have HC := Lib.hid hC
                          clear hC
                          have t81 : a.tmps[81]?.getD undef = .agg #[.float .f32 cx, .float .f32 cy, .float .f32 cz] := Reg.slot_val ((hd 7 81 (by kernel_rfl) rfl).1)
                          have t82 : a.tmps[82]?.getD undef = .float .f32 q2 := Reg.slot_val ((hd 8 82 (by kernel_rfl) rfl).1)
                          go_simp
                          refine (l01Scale _ _ _ _ _ _ _ _ _ HC'.out.1 HC'.out.2.1 HC'.out.2.2 FU2.out).mono ?_
                          rintro en w2 ⟨p', q', r', rfl, fp', fq', fr', hB2⟩
                          exact hK _ _ ⟨p', q', r', rfl, fp', fq', fr'⟩ trivial (HC.out.call hB2) hB2
                        · refine Reg6.Obl.early rfl (by kernel_rfl) ?_
                          rintro a w1 hC hx hd K hK
                          have HC := Lib.hid hC
                          clear hC
                          obtain ⟨p80, q80, r80, g80, f80⟩ := (hd 6 80 (by kernel_rfl) rfl).1
                          have t80 := Reg.slot_val g80
                          clear g80
                          obtain ⟨p83, q83, r83, g83, f83⟩ := (hd 9 83 (by kernel_rfl) rfl).1
                          have t83 := Reg.slot_val g83
                          clear g83
                          go_simp
                          refine (l01Add _ _ _ _ _ _ _ _ _ _ _ _ _ f80.1 f80.2.1 f80.2.2 f83.1 f83.2.1 f83.2.2).mono ?_
                          rintro en w2 ⟨p', q', r', rfl, fp', fq', fr', hB2⟩
                          exact hK _ _ ⟨p', q', r', rfl, fp', fq', fr'⟩ trivial (HC.out.call hB2) hB2
                        · refine Reg6.Obl.early rfl (by kernel_rfl) ?_
                          rintro a w1 hC hx hd K hK
                          have HC := Lib.hid hC
                          clear hC
                          go_simp
                          exact hK _ _ trivial ⟨w1.heap.size, rfl, fun b' l' hm => (Nat.ne_of_lt (HC.out.2 b' l' hm).2.2.1).symm, HC.out.1.size, Z3.new⟩ (HC.out.call ((Below.refl _ _).alloc (Nat.le_refl _) _)) ((Below.refl _ _).alloc (Nat.le_refl _) _)
                        · refine Reg6.Obl.store rfl ?_
                          rintro a w1 hC hx hd K hK
                          have HC := Lib.hid hC
                          clear hC
                          obtain ⟨b, gb, hbl, hlo, hZ⟩ := (hd 11 15 (by kernel_rfl) rfl).2
                          have tb := Reg.slot_val gb
                          obtain ⟨x, y, t, g1, hF⟩ := (hd 10 84 (by kernel_rfl) rfl).1
                          have tt := Reg.slot_val g1
                          clear g1
                          have GB := Lib.hid gb
                          have HZ := Lib.hid hZ
                          have HF := Lib.hid hF
                          have HBL := Lib.hid hbl
                          obtain ⟨⟨y0, y1, y2⟩, yf⟩ := hZ
                          have f0 := yf 0
                          have f1 := yf 1
                          have f2 := yf 2
                          clear yf gb hF hbl
                          go_simp
                          exact hK _ ⟨b, x, y, t, GB.out, HBL.out, HF.out, (HC.out.z3 HZ.out hlo).put3 HBL.out _ _ _⟩
                      · rintro f W6 hD hv
                        obtain ⟨sb, s1, s2, s3, e6, hne, hFs, hBs⟩ := hD
                        have g15 : f 15 = .pointer (some ⟨sb, 0, none⟩) := e6
                        clear e6 hv hne
                        simp only [Reg.mixL, Nat.zero_add, Nat.reduceAdd, g15]
                        have BT := Lib.hid hBs
                        have FS := Lib.hid hFs
                        clear hBs hFs g15
                        have m0 := (BT.out.mem (.head _)) 0 _ rfl
                        have m1 := (BT.out.mem (.head _)) 1 _ rfl
                        have m2 := (BT.out.mem (.head _)) 2 _ rfl
                        have FQ := Lib.hid (fun w1 w2 w3 => FV_fR (op := .quo) (w := w3) fv_one32 (FV_fR (op := .add) (w := w2) (FV_fR (op := .add) (w := w1) FU0.out FU1.out) FU2.out))
                        go_wp2_with fail
                        clear m0 m1 m2
                        refine (l01Scale _ _ _ _ _ _ _ _ _ FS.out.1 FS.out.2.1 FS.out.2.2 (FQ.out _ _ _)).mono ?_
                        rintro e w9 ⟨n1, n2, n3, rfl, g1, g2, g3, hB9⟩
                        have BU : Hid (Bx w [(pt, [.float .f32 x, .float .f32 y, .float .f32 t]), (w.heap.size + 1 + 1 + 1, [.float .f32 0, .float .f32 0, .float .f32 0]), (w.heap.size + 1 + 1, [.float .f32 cx, .float .f32 cy, .float .f32 cz]), (w.heap.size + 1, [.float .f32 bx, .float .f32 by', .float .f32 bz]), (w.heap.size, [.float .f32 ax, .float .f32 ay, .float .f32 az])] w9) := Lib.hid (BT.out.call ((below_drewN (Below.refl _ _) _).trans (hB9.mono (by first | exact Nat.le_refl _ | simp)))).drop
                        have G : Hid (F3 n1 n2 n3 (moveC cp a b c)) := Lib.hid ⟨g1, g2, g3⟩
                        clear hB9 BT g1 g2 g3
                        have q'0 := (BU.out.mem (.head _)) 0 _ rfl
                        have q'1 := (BU.out.mem (.head _)) 1 _ rfl
                        have q'2 := (BU.out.mem (.head _)) 2 _ rfl
                        have k'0 := BU.out.free (.head _) 0
                        have k'1 := BU.out.free (.head _) 1
                        have k'2 := BU.out.free (.head _) 2
                        have BS := Lib.hid (BU.out.put3 HNE.out (.float .f32 n1) (.float .f32 n2) (.float .f32 n3))
                        go_wp2
                        go_roundw
                        case rel =>
                          refine ⟨k + 1, by omega, by go_num, (?_ : Ms a b c E [(w.heap.size + 1 + 1 + 1, [.float .f32 0, .float .f32 0, .float .f32 0]), (w.heap.size + 1 + 1, [.float .f32 cx, .float .f32 cy, .float .f32 cz]), (w.heap.size + 1, [.float .f32 bx, .float .f32 by', .float .f32 bz]), (w.heap.size, [.float .f32 ax, .float .f32 ay, .float .f32 az])] n pt w (k + 1) _)⟩
                          exact ⟨_, _, _, _, BS.out, G.out, HE.out⟩
                        case measure => simp [intOf]; omega
              · have HE : Hid (E = cp) := Lib.hid (by rw [← HW.out]; exact walk_end hlt hk)
                obtain rfl : k = n := by omega
                have BS0 : Hid (Bx w [(w.heap.size + 1 + 1 + 1, [.float .f32 0, .float .f32 0, .float .f32 0]), (pt, [.float .f32 x, .float .f32 y, .float .f32 t])] _) := Lib.hid (⟨BQ0.out.1, fun b l hm => BQ0.out.2 b l (by
                  rcases List.mem_cons.1 hm with e | hm
                  · exact e ▸ .tail _ (.head _)
                  · rcases List.mem_cons.1 hm with e | hm
                    · exact e ▸ .head _
                    · cases hm)⟩)
                have hn := HNE.out _ _ (.head _)
                have BS := Lib.hid (BS0.out.put3 (fun b' l' hm => by simp only [List.mem_cons, Prod.mk.injEq, List.not_mem_nil, or_false] at hm; rcases hm with ⟨rfl, _⟩; exact fun e => hn e.symm) (.float .f32 x) (.float .f32 y) (.float .f32 t))
                clear hn
                have q'0 := (BS0.out.mem (.head _)) 0 _ rfl
                have q'1 := (BS0.out.mem (.head _)) 1 _ rfl
                have q'2 := (BS0.out.mem (.head _)) 2 _ rfl
                have k'0 := BS0.out.free (.head _) 0
                have k'1 := BS0.out.free (.head _) 1
                have k'2 := BS0.out.free (.head _) 2
                have m0 := (BS0.out.mem (.tail _ (.head _))) 0 _ rfl
                have m1 := (BS0.out.mem (.tail _ (.head _))) 1 _ rfl
                have m2 := (BS0.out.mem (.tail _ (.head _))) 2 _ rfl
                go_wp2
                clear q'0 q'1 q'2 k'0 k'1 k'2 m0 m1 m2
                have v'0 := (BS.out.mem (.head _)) 0 _ rfl
                have v'1 := (BS.out.mem (.head _)) 1 _ rfl
                have v'2 := (BS.out.mem (.head _)) 2 _ rfl
                refine bodyPost_ret (v := .tuple #[vv x y t, .bool true]) (by simp [results, Try.results29, go_sem, v'0, v'1, v'2]) rfl ?_
                exact ⟨⟨x, y, t, by rw [OKT.out], by rw [PT.out, HE.out]; exact FP.out⟩, BS.out.bel⟩
end Go.Proofs.Ytcgnmnbjgamedaa

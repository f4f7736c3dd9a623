/-
Texts in one: what MovePlaces stands on, part 28. Conditions: those of each.
-/
import Derived.Test.YtmbekamnogbgaaaKMovePlaces27

/-
The law of bare bodies returns true: its walk. Conditions: none beyond that the mesh lies in memory.
-/
namespace Go.Proofs.Ytmbekamnogbgaaa
open Go Fk Go.RowKit
set_option linter.unusedVariables false
set_option maxRecDepth 16000

/-- Boxes outside what is marked stay. -/
theorem Bx.away {w w1 w2 : World} {L : List (Nat × List Value)} {lo hi : Nat} (h : Bx w L w1) (hM : Mark lo hi w1 w2) (hl : w.heap.size ≤ lo) (ho : ∀ b l, (b, l) ∈ L → b < lo ∨ hi ≤ b) : Bx w L w2 :=
  ⟨h.1.trans (hM.below.mono hl), fun b l hm => ⟨fun i v hv => hM.cell (ho b l hm) ((h.2 b l hm).1 i v hv), fun i => by rw [hM.frozen _ _ (h.2 b l hm).2.2.1]; exact (h.2 b l hm).2.1 i, Nat.lt_of_lt_of_le (h.2 b l hm).2.2.1 hM.below.size, (h.2 b l hm).2.2.2⟩⟩
theorem Bx.lt {w w' : World} {L : List (Nat × List Value)} {b : Nat} {l : List Value} (h : Bx w L w') (hm : (b, l) ∈ L) : b < w'.heap.size := (h.2 b l hm).2.2.1
set_option maxHeartbeats 4000000 in
theorem FnExactBareBody_law (pa ta : Option Addr) (pl pc tl tc : Nat) (cs : List C3) (ts : List (List Int)) (w : World) (hp : IsVs w pa pl pc cs) (ht : IsTs w ta tl tc ts) :
    Calls Try.prog 3 #[.agg #[.slice pa pl pc, .slice ta tl tc]] w fun e w' => e = .returned (.bool true) ∧ Below w.heap.size w w' := by
  have ulm := Try.underlying25
  have uim := Try.underlying29
  have uib := Try.underlying36
  have HPL := Lib.hid hp.1
  have HTL := Lib.hid ht.1
  have HP := Lib.hid hp
  have HT := Lib.hid ht
  have BX : Hid (Bx w [(w.heap.size, [.slice pa pl pc, .slice ta tl tc])] (w.alloc (.cells #[.slice pa pl pc, .slice ta tl tc] 25))) := Lib.hid ((Bx.nil w).box (vs := [.slice pa pl pc, .slice ta tl tc]) (t := 25))
  clear hp ht
  have HSP := Lib.hid (fun (pa ta : Option Addr) (pc tc : Nat) (w : World) (hp : IsVs w pa pl pc cs) (ht : IsTs w ta tl tc ts) => spec_BareBody pa ta pl pc tl tc cs ts w hp ht)
  have HIM := Lib.hid (fun (pa ta : Option Addr) (pc tc : Nat) (w : World) (hp : IsVs w pa pl pc cs) (ht : IsTs w ta tl tc ts) => impl_BareBody pa ta pl pc tl tc cs ts w hp ht)
  obtain ⟨len1, len2, len3, len4, len5⟩ := bar_len cs ts
  generalize barO cs ts = bc at *
  generalize validB cs ts = ok at *
  have HSB : Hid (SmallB bc) := Lib.hid ⟨⟨by omega, by omega, len5⟩, by omega, by omega⟩
  have LEN := Lib.hid (And.intro len1 (And.intro len2 (And.intro len3 len4)))
  clear len1 len2 len3 len4 len5
  have hvb : (ok == ok) = true := by cases ok <;> rfl
  have hvb' : (ok != ok) = false := by cases ok <;> rfl
  go_enter Try.func3, Try.ntmps3
  go_wp2_with fail
  generalize (w.alloc (.cells #[.slice pa pl pc, .slice ta tl tc] 25)) = W at *
  refine (laws_szMesh _ _ _ _ _ _ _ _ 1048576 _ (HP.out.below BX.out.bel) (HT.out.below BX.out.bel) (by decide) (by decide)).mono ?_
  rintro e w1 ⟨⟨r, rfl, hr⟩, hB1⟩
  have BX1 := Lib.hid (BX.out.call hB1)
  clear hB1
  rcases hr with rfl | ⟨hr0, s1, s2, s3⟩
  · go_wp2
    go_ret
    exact ⟨rfl, BX1.out.bel⟩
  have hS : Small cs ts := ⟨by rw [HPL.out]; exact s1, by rw [HTL.out]; exact s2, by rw [HTL.out]; exact s3⟩
  have HS := Lib.hid hS
  clear s1 s2 s3 hS
  have a0 := (BX1.out.mem (.head _)) 0 _ rfl
  have a1 := (BX1.out.mem (.head _)) 1 _ rfl
  go_wp2_with fail
  clear a0 a1
  refine (laws_toMesh _ _ _ _ _ _ _ _ _ (HP.out.below BX1.out.bel) (HT.out.below BX1.out.bel) HS.out).mono ?_
  rintro e w2 ⟨⟨b, b', rfl, hb1, hb', hV2, hT2⟩, hB2⟩
  have BX2 := Lib.hid (BX1.out.call hB2)
  have HV2 := Lib.hid hV2
  have HT2 := Lib.hid hT2
  clear hB2 hV2 hT2 hb1 hb'
  go_wp2_with fail
  refine (HSP.out _ _ _ _ _ HV2.out HT2.out).mono ?_
  rintro e w3 ⟨⟨B1, rfl, hI1, hL1⟩, hB3⟩
  have BX3 := Lib.hid (BX2.out.call hB3)
  have hX3 : Below w3.heap.size w3 (w3.alloc (BoxB B1 36)) := (Below.refl _ _).alloc (Nat.le_refl _) _
  have BX4 : Hid (Bx w [(w3.heap.size, B1.l), (w.heap.size, [.slice pa pl pc, .slice ta tl tc])] (w3.alloc (BoxB B1 36))) := Lib.hid (BX3.out.box (vs := B1.l) (t := 36))
  have I1 := Lib.hid (And.intro (hI1.below hX3) (hL1.agree (S := fun _ => True) (fun _ _ _ => trivial) (Agree.of_below hX3)))
  have a0 := fun (ob : Obj) => cell_alloc (o := ob) ((BX3.out.mem (.head _)) 0 _ rfl)
  have a1 := fun (ob : Obj) => cell_alloc (o := ob) ((BX3.out.mem (.head _)) 1 _ rfl)
  have Z1 : Hid (w2.heap.size ≤ w3.heap.size ∧ (w3.alloc (BoxB B1 36)).heap.size = w3.heap.size + 1 ∧ w.heap.size ≤ w2.heap.size) := Lib.hid ⟨hB3.size, by simp, BX2.out.bel.size⟩
  clear hB3 hI1 hL1 hX3
  go_wp2_with fail
  clear a0 a1
  change Calls _ _ _ (w3.alloc (BoxB B1 36)) _
  generalize (w3.alloc (BoxB B1 36)) = W3 at *
  generalize w3.heap.size = S at *
  refine (laws_toMesh' _ _ _ _ _ _ _ _ _ (HP.out.below BX4.out.bel) (HT.out.below BX4.out.bel) HS.out).mono ?_
  rintro e w4 ⟨⟨c, c', rfl, hc, hc', hV4, hT4, hi4, hi4', hO4⟩, hB4⟩
  have BX5 := Lib.hid (BX4.out.call hB4)
  have hX4 : Below w4.heap.size w4 (w4.alloc (.cells #[.slice (some ⟨c, 0, none⟩) pl pl, .slice (some ⟨c', 0, none⟩) tl tl] 29)) := (Below.refl _ _).alloc (Nat.le_refl _) _
  have BX6 : Hid (Bx w [(w4.heap.size, [.slice (some ⟨c, 0, none⟩) pl pl, .slice (some ⟨c', 0, none⟩) tl tl]), (S, B1.l), (w.heap.size, [.slice pa pl pc, .slice ta tl tc])] (w4.alloc (.cells #[.slice (some ⟨c, 0, none⟩) pl pl, .slice (some ⟨c', 0, none⟩) tl tl] 29))) := Lib.hid (BX5.out.box (vs := [.slice (some ⟨c, 0, none⟩) pl pl, .slice (some ⟨c', 0, none⟩) tl tl]) (t := 29))
  have hB46 := hB4.trans (hX4.mono hB4.size)
  have I4 := Lib.hid (And.intro (I1.out.1.below hB46) (I1.out.2.agree (S := fun _ => True) (fun _ _ _ => trivial) (Agree.of_below hB46)))
  have M4 := Lib.hid (And.intro (hV4.below hX4) (And.intro (hT4.below hX4) (hO4.below hX4)))
  have Z4 : Hid (W3.heap.size ≤ w4.heap.size ∧ (w4.alloc (.cells #[.slice (some ⟨c, 0, none⟩) pl pl, .slice (some ⟨c', 0, none⟩) tl tl] 29)).heap.size = w4.heap.size + 1 ∧ hi4 ≤ w4.heap.size) := Lib.hid ⟨hB4.size, by simp, hi4'⟩
  clear hV4 hT4 hc hc' hO4 hi4' hB4 hX4 hB46
  go_wp2_with fail
  generalize (w4.alloc (.cells #[.slice (some ⟨c, 0, none⟩) pl pl, .slice (some ⟨c', 0, none⟩) tl tl] 29)) = W4 at *
  generalize w4.heap.size = X at *
  refine (HIM.out _ _ _ _ _ M4.out.1 M4.out.2.1).mono ?_
  rintro e w5 ⟨⟨B2, F, rfl, hI2, hG2⟩, hB5⟩
  have BX7 := Lib.hid (BX6.out.call hB5)
  have hX5 : Below w5.heap.size w5 (w5.alloc (BoxB B2 36)) := (Below.refl _ _).alloc (Nat.le_refl _) _
  have hB57 := hB5.trans (hX5.mono hB5.size)
  have BX8 : Hid (Bx w [(w5.heap.size, B2.l), (X, [.slice (some ⟨c, 0, none⟩) pl pl, .slice (some ⟨c', 0, none⟩) tl tl]), (S, B1.l), (w.heap.size, [.slice pa pl pc, .slice ta tl tc])] (w5.alloc (BoxB B2 36))) := Lib.hid (BX7.out.box (vs := B2.l) (t := 36))
  have I5 := Lib.hid (And.intro (I4.out.1.below hB57) (I4.out.2.agree (S := fun _ => True) (fun _ _ _ => trivial) (Agree.of_below hB57)))
  have M5 := Lib.hid (And.intro (M4.out.1.below hB57) (And.intro (M4.out.2.1.below hB57) (M4.out.2.2.below hB57)))
  have J5 := Lib.hid (And.intro (hI2.below hX5) (hG2.below hX5))
  have Z5 : Hid (W4.heap.size ≤ w5.heap.size ∧ (w5.alloc (BoxB B2 36)).heap.size = w5.heap.size + 1) := Lib.hid ⟨hB5.size, by simp⟩

  have b0 := fun (ob : Obj) => cell_alloc (o := ob) ((BX7.out.mem (.tail _ (.head _))) 0 _ rfl)
  have b1 := fun (ob : Obj) => cell_alloc (o := ob) ((BX7.out.mem (.tail _ (.head _))) 1 _ rfl)
  have b2 := fun (ob : Obj) => cell_alloc (o := ob) ((BX7.out.mem (.tail _ (.head _))) 2 _ rfl)
  have b3 := fun (ob : Obj) => cell_alloc (o := ob) ((BX7.out.mem (.tail _ (.head _))) 3 _ rfl)
  have b4 := fun (ob : Obj) => cell_alloc (o := ob) ((BX7.out.mem (.tail _ (.head _))) 4 _ rfl)
  have b5 := fun (ob : Obj) => cell_alloc (o := ob) ((BX7.out.mem (.tail _ (.head _))) 5 _ rfl)
  have b6 := fun (ob : Obj) => cell_alloc (o := ob) ((BX7.out.mem (.tail _ (.head _))) 6 _ rfl)
  have b7 := fun (ob : Obj) => cell_alloc (o := ob) ((BX7.out.mem (.tail _ (.head _))) 7 _ rfl)
  have b8 := fun (ob : Obj) => cell_alloc (o := ob) ((BX7.out.mem (.tail _ (.head _))) 8 _ rfl)
  clear hB5 hX5 hB57 hI2 hG2
  go_wp2_with fail
  clear b0 b1 b2 b3 b4 b5 b6 b7 b8
  change Calls _ _ _ (w5.alloc (BoxB B2 36)) _
  generalize (w5.alloc (BoxB B2 36)) = W5 at *
  generalize w5.heap.size = G at *
  refine (laws_eqBody B2 B1 bc _ J5.out.1 I5.out.1 HSB.out).mono ?_
  rintro e w6 ⟨rfl, hB6⟩
  have BX9 := Lib.hid (BX8.out.call hB6)
  have I6 := Lib.hid (And.intro (I5.out.1.below hB6) (I5.out.2.agree (S := fun _ => True) (fun _ _ _ => trivial) (Agree.of_below hB6)))
  have M6 := Lib.hid (And.intro (M5.out.1.below hB6) (And.intro (M5.out.2.1.below hB6) (M5.out.2.2.below hB6)))
  have J6 := Lib.hid (And.intro (J5.out.1.below hB6) (J5.out.2.below hB6))
  have Z6 := Lib.hid hB6.size
  clear hB6
  go_wp2_with fail
  refine Reg.wp_region_mix (C := fun w' => Below w6.heap.size w6 w') (G := fun w1 w2 => Below w1.heap.size w1 w2) (R := fun i v w' => match i with | 0 => v = .agg #[.slice (some ⟨c, 0, none⟩) pl pl, .slice (some ⟨c', 0, none⟩) tl tl] | 1 => v = .agg #[.slice pa pl pc, .slice ta tl tc] | 2 => ∃ d d', v = .agg #[.slice (some ⟨d, 0, none⟩) pl pl, .slice (some ⟨d', 0, none⟩) tl tl] ∧ IsVs w' (some ⟨d, 0, none⟩) pl pl cs ∧ IsTs w' (some ⟨d', 0, none⟩) tl tl ts | 3 => v = .bool true | 4 => v = .bool false | _ => True) (T := fun _ _ _ => True) [false, false, false, false, false, false, false, false, false, false, false, false, false, false, false, false, false, false, false, false, false, false, false, false, false, false, false, false, false, false, false, false, false, false, false, false, false, false, false, false, false, true, true, true, true, true, false, false, false, false, false, false, false, false, false, false, false, false, false, false, false, false, false, false, false, false, false, false, false, false, false, false, false, false, false, false, false, false, false, false, false, false, false, false, false, false, false, false, false, false, false, false, false, false, false, false]
    (by kernel_rfl) (by kernel_rfl) (by kernel_rfl) ?_ (below_drewN (Below.refl _ _) 1) ?_ ?_
  · intro j v w1 w2 _ hG hR
    match j with
    | 0 => exact hR
    | 1 => exact hR
    | 2 => obtain ⟨d, d', e, h1, h2⟩ := hR; exact ⟨d, d', e, h1.below hG, h2.below hG⟩
    | 3 => exact hR
    | 4 => exact hR
    | _ + 5 => trivial
  · refine ⟨Reg.Obl.mk ?_, Reg.Obl.mk ?_, Reg.Obl.mk ?_, Reg.Obl.mk ?_, Reg.Obl.mk ?_, trivial⟩
    · rintro a wq hB hx hd K hK
      have HC := Lib.hid hB
      clear hB
      have t6 : a.tmps[6]?.getD undef = .pointer (some ⟨X, 0, none⟩) := Reg.slot_val (hx 6 (by kernel_rfl))
      have y0 := ((BX9.out.call HC.out).mem (.tail _ (.head _))) 0 _ rfl
      have y1 := ((BX9.out.call HC.out).mem (.tail _ (.head _))) 1 _ rfl
      go_simp
      exact hK _ _ (fun _ => rfl) (fun h => by cases h) HC.out (Below.refl _ _)
    · rintro a wq hB hx hd K hK
      have HC := Lib.hid hB
      clear hB
      have t1 : a.tmps[1]?.getD undef = .pointer (some ⟨w.heap.size, 0, none⟩) := Reg.slot_val (hx 1 (by kernel_rfl))
      have y0 := ((BX9.out.call HC.out).mem (.tail _ (.tail _ (.tail _ (.head _))))) 0 _ rfl
      have y1 := ((BX9.out.call HC.out).mem (.tail _ (.tail _ (.tail _ (.head _))))) 1 _ rfl
      go_simp
      exact hK _ _ (fun _ => rfl) (fun h => by cases h) HC.out (Below.refl _ _)
    · rintro a wq hB hx hd K hK
      have HC := Lib.hid hB
      clear hB
      have t42 : a.tmps[42]?.getD undef = .agg #[.slice pa pl pc, .slice ta tl tc] := Reg.slot_val (hd 1 (by kernel_rfl) 42 rfl)
      go_simp
      refine (laws_toMesh _ _ _ _ _ _ _ _ _ (HP.out.below (BX9.out.call HC.out).bel) (HT.out.below (BX9.out.call HC.out).bel) HS.out).mono ?_
      rintro en w2 ⟨⟨d, d', rfl, hd1, hd2, hV, hT⟩, hB2⟩
      exact hK _ _ (fun _ => ⟨d, d', rfl, hV, hT⟩) (fun h => by cases h) (HC.out.trans (hB2.mono HC.out.size)) hB2
    · rintro a wq hB hx hd K hK
      have HC := Lib.hid hB
      clear hB
      have t41 : a.tmps[41]?.getD undef = .agg #[.slice (some ⟨c, 0, none⟩) pl pl, .slice (some ⟨c', 0, none⟩) tl tl] := Reg.slot_val (hd 0 (by kernel_rfl) 41 rfl)
      obtain ⟨e, e', g2, hV, hT⟩ := hd 2 (by kernel_rfl) 43 rfl
      have t43 := Reg.slot_val g2
      clear g2
      have HVe := Lib.hid hV
      have HTe := Lib.hid hT
      clear hV hT
      go_simp
      refine (laws_eqMesh _ _ _ _ _ _ _ _ _ _ cs ts _ (M6.out.1.below HC.out) (M6.out.2.1.below HC.out) HVe.out HTe.out).mono ?_
      rintro en w2 ⟨rfl, hB2⟩
      exact hK _ _ (fun _ => rfl) (fun h => by cases h) (HC.out.trans (hB2.mono HC.out.size)) hB2
    · rintro a wq hB hx hd K hK
      have t44 : a.tmps[44]?.getD undef = .bool true := Reg.slot_val (hd 3 (by kernel_rfl) 44 rfl)
      go_simp
      exact hK _ _ (fun _ => rfl) (fun h => by cases h) hB (Below.refl _ _)
  rintro f wz hBz hd hTT
  have g45 : f 45 = .bool false := hd 4 45 rfl
  simp only [Reg.mixL, g45]
  have BXz := Lib.hid (BX9.out.call hBz)
  have Iz := Lib.hid (And.intro (I6.out.1.below hBz) (I6.out.2.agree (S := fun _ => True) (fun _ _ _ => trivial) (Agree.of_below hBz)))
  have Oz := Lib.hid (M6.out.2.2.below hBz)
  have Jz := Lib.hid (And.intro (J6.out.1.below hBz) (J6.out.2.below hBz))
  have Zz := Lib.hid hBz.size
  clear hBz hd hTT g45
  have z1 := Z1.out
  have z4 := Z4.out
  have z5 := Z5.out
  have z6 := Z6.out
  have zz := Zz.out
  have hSlt : S < W3.heap.size := by omega
  have x0 := (BXz.out.mem (.tail _ (.head _))) 0 _ rfl
  have x1 := (BXz.out.mem (.tail _ (.head _))) 1 _ rfl
  go_wp2_with fail
  clear x0 x1
  refine (laws_markMesh W3.heap.size hi4 c 0 c' 0 pl pl tl tl ts 1 wz Oz.out (by omega) (by rw [← HPL.out]; exact HS.out.1) (by rw [← HTL.out]; exact HS.out.2.1) (fun j hj => HS.out.2.2 j (by rw [HTL.out]; exact hj)) (by decide)).mono ?_
  rintro e w7 ⟨z7, rfl, hM⟩
  have hz0 : ¬ ((z7 : Int) < 0) := by omega
  have hall : ∀ b l, (b, l) ∈ [(G, B2.l), (X, [Value.slice (some ⟨c, 0, none⟩) pl pl, .slice (some ⟨c', 0, none⟩) tl tl]), (S, B1.l), (w.heap.size, [.slice pa pl pc, .slice ta tl tc])] → b < W3.heap.size ∨ hi4 ≤ b := by
    intro b l hm
    simp only [List.mem_cons, Prod.mk.injEq, List.not_mem_nil, or_false] at hm
    rcases hm with ⟨rfl, _⟩ | ⟨rfl, _⟩ | ⟨rfl, _⟩ | ⟨rfl, _⟩
    · exact .inr (by omega)
    · exact .inr (by omega)
    · exact .inl (by omega)
    · exact .inl (by omega)
  have BX10 := Lib.hid (BXz.out.away hM (by omega) hall)
  have AG := Agree.of_mark hM
  have I7 := Lib.hid (And.intro (Iz.out.1.agree Iz.out.2 (fun b k1 k2 => .inl (by omega)) AG) (Iz.out.2.agree (fun b k1 k2 => .inl (by omega)) AG))
  have J7 := Lib.hid (And.intro (Jz.out.1.agree Jz.out.2.lb (fun b k1 k2 => .inr (by omega)) AG) (Jz.out.2.agree (fun b k1 k2 => .inr (by omega)) AG))
  have z7s := hM.below.size
  clear hM hall AG
  have u0 := (BX10.out.mem (.head _)) 0 _ rfl
  have u1 := (BX10.out.mem (.head _)) 1 _ rfl
  have u2 := (BX10.out.mem (.head _)) 2 _ rfl
  have u3 := (BX10.out.mem (.head _)) 3 _ rfl
  have u4 := (BX10.out.mem (.head _)) 4 _ rfl
  have u5 := (BX10.out.mem (.head _)) 5 _ rfl
  have u6 := (BX10.out.mem (.head _)) 6 _ rfl
  have u7 := (BX10.out.mem (.head _)) 7 _ rfl
  have u8 := (BX10.out.mem (.head _)) 8 _ rfl
  have v0 := (BX10.out.mem (.tail _ (.tail _ (.head _)))) 0 _ rfl
  have v1 := (BX10.out.mem (.tail _ (.tail _ (.head _)))) 1 _ rfl
  have v2 := (BX10.out.mem (.tail _ (.tail _ (.head _)))) 2 _ rfl
  have v3 := (BX10.out.mem (.tail _ (.tail _ (.head _)))) 3 _ rfl
  have v4 := (BX10.out.mem (.tail _ (.tail _ (.head _)))) 4 _ rfl
  have v5 := (BX10.out.mem (.tail _ (.tail _ (.head _)))) 5 _ rfl
  have v6 := (BX10.out.mem (.tail _ (.tail _ (.head _)))) 6 _ rfl
  have v7 := (BX10.out.mem (.tail _ (.tail _ (.head _)))) 7 _ rfl
  have v8 := (BX10.out.mem (.tail _ (.tail _ (.head _)))) 8 _ rfl
  go_wp2_with fail
  clear u0 u1 u2 u3 u4 u5 u6 u7 u8 v0 v1 v2 v3 v4 v5 v6 v7 v8
  refine (laws_eqBody B2 B1 bc _ J7.out.1 I7.out.1 HSB.out).mono ?_
  rintro e w8 ⟨rfl, hB8⟩
  have BX11 := Lib.hid (BX10.out.call hB8)
  have I8 := Lib.hid (And.intro (I7.out.1.below hB8) (I7.out.2.agree (S := fun _ => True) (fun _ _ _ => trivial) (Agree.of_below hB8)))
  have J8 := Lib.hid (J7.out.2.below hB8)
  have LN : Hid (B2.pl ≤ 1000 ∧ B2.tl ≤ 1000 ∧ B2.sl ≤ 1000 ∧ B2.wl ≤ 1000) := Lib.hid (by
    have l := J7.out.1.lens
    have h := LEN.out
    exact ⟨by omega, by omega, by omega, by omega⟩)
  have z8 := hB8.size
  clear hB8
  have u0 := (BX11.out.mem (.head _)) 0 _ rfl
  have u1 := (BX11.out.mem (.head _)) 1 _ rfl
  have u2 := (BX11.out.mem (.head _)) 2 _ rfl
  have u3 := (BX11.out.mem (.head _)) 3 _ rfl
  have u4 := (BX11.out.mem (.head _)) 4 _ rfl
  have u5 := (BX11.out.mem (.head _)) 5 _ rfl
  have u6 := (BX11.out.mem (.head _)) 6 _ rfl
  have u7 := (BX11.out.mem (.head _)) 7 _ rfl
  have u8 := (BX11.out.mem (.head _)) 8 _ rfl
  go_wp2_with fail
  clear u0 u1 u2 u3 u4 u5 u6 u7 u8
  refine (mark_gb W4.heap.size G F B2 w8 J8.out (by omega) LN.out.1 LN.out.2.1 LN.out.2.2.1 LN.out.2.2.2).mono ?_
  rintro e w9 ⟨rfl, hmk, hM9, _⟩
  have hall : ∀ b l, (b, l) ∈ [(G, B2.l), (X, [Value.slice (some ⟨c, 0, none⟩) pl pl, .slice (some ⟨c', 0, none⟩) tl tl]), (S, B1.l), (w.heap.size, [.slice pa pl pc, .slice ta tl tc])] → b < W4.heap.size ∨ G ≤ b := by
    intro b l hm
    simp only [List.mem_cons, Prod.mk.injEq, List.not_mem_nil, or_false] at hm
    rcases hm with ⟨rfl, _⟩ | ⟨rfl, _⟩ | ⟨rfl, _⟩ | ⟨rfl, _⟩
    · exact .inr (by omega)
    · exact .inl (by omega)
    · exact .inl (by omega)
    · exact .inl (by omega)
  have BX12 := Lib.hid (BX11.out.away hM9 (by omega) hall)
  have AG := Agree.of_mark hM9
  have I9 := Lib.hid (And.intro (I8.out.1.agree I8.out.2 (fun b k1 k2 => .inl (by omega)) AG) (I8.out.2.agree (fun b k1 k2 => .inl (by omega)) AG))
  have HMK := Lib.hid hmk
  have HHG := Lib.hid (fun (w : World) (h : MrkB w B2 F) => held_gb F B2 w h LN.out.1 LN.out.2.1 LN.out.2.2.1 LN.out.2.2.2)
  obtain ⟨N, hN⟩ : ∃ N, N = 1 + B2.pl * 3 + B2.tl * 3 + B2.sl * 4 + B2.wl := ⟨_, rfl⟩
  rw [← hN] at HHG ⊢
  have hn0 : ¬ ((N : Int) < 0) := by omega
  clear hM9 hall AG hmk hN
  have u0 := (BX12.out.mem (.head _)) 0 _ rfl
  have u1 := (BX12.out.mem (.head _)) 1 _ rfl
  have u2 := (BX12.out.mem (.head _)) 2 _ rfl
  have u3 := (BX12.out.mem (.head _)) 3 _ rfl
  have u4 := (BX12.out.mem (.head _)) 4 _ rfl
  have u5 := (BX12.out.mem (.head _)) 5 _ rfl
  have u6 := (BX12.out.mem (.head _)) 6 _ rfl
  have u7 := (BX12.out.mem (.head _)) 7 _ rfl
  have u8 := (BX12.out.mem (.head _)) 8 _ rfl
  go_wp2_with fail
  clear u0 u1 u2 u3 u4 u5 u6 u7 u8
  refine (HHG.out w9 HMK.out).mono ?_
  rintro e w10 ⟨rfl, hB10⟩
  have BX13 := Lib.hid (BX12.out.call hB10)
  have I10 := Lib.hid (And.intro (I9.out.1.below hB10) (I9.out.2.agree (S := fun _ => True) (fun _ _ _ => trivial) (Agree.of_below hB10)))
  have MK10 := Lib.hid (HMK.out.below hB10)
  clear hB10
  have a0 := (BX13.out.mem (.tail _ (.tail _ (.tail _ (.head _))))) 0 _ rfl
  have a1 := (BX13.out.mem (.tail _ (.tail _ (.tail _ (.head _))))) 1 _ rfl
  go_wp2_with fail
  clear a0 a1
  refine (laws_toMesh _ _ _ _ _ _ _ _ _ (HP.out.below BX13.out.bel) (HT.out.below BX13.out.bel) HS.out).mono ?_
  rintro e w11 ⟨⟨d1, d2, rfl, _, _, hV11, hT11⟩, hB11⟩
  have BX14 := Lib.hid (BX13.out.call hB11)
  have I11 := Lib.hid (I10.out.1.below hB11)
  have MK11 := Lib.hid (MK10.out.below hB11)
  have HV11 := Lib.hid hV11
  have HT11 := Lib.hid hT11
  clear hB11 hV11 hT11
  go_wp2_with fail
  refine (HIM.out _ _ _ _ _ HV11.out HT11.out).mono ?_
  rintro e w12 ⟨⟨B3, F', rfl, hI3, _⟩, hB12⟩
  have BX15 := Lib.hid (BX14.out.call hB12)
  have hX : Below w12.heap.size w12 (w12.alloc (BoxB B3 36)) := (Below.refl _ _).alloc (Nat.le_refl _) _
  have hB13 := hB12.trans (hX.mono hB12.size)
  have BX16 : Hid (Bx w [(w12.heap.size, B3.l), (G, B2.l), (X, [.slice (some ⟨c, 0, none⟩) pl pl, .slice (some ⟨c', 0, none⟩) tl tl]), (S, B1.l), (w.heap.size, [.slice pa pl pc, .slice ta tl tc])] (w12.alloc (BoxB B3 36))) := Lib.hid (BX15.out.box (vs := B3.l) (t := 36))
  have I12 := Lib.hid (I11.out.below hB13)
  have I3 := Lib.hid (hI3.below hX)
  have MK12 := Lib.hid (MK11.out.below hB13)

  have v0 := fun (ob : Obj) => cell_alloc (o := ob) ((BX15.out.mem (.tail _ (.tail _ (.head _)))) 0 _ rfl)
  have v1 := fun (ob : Obj) => cell_alloc (o := ob) ((BX15.out.mem (.tail _ (.tail _ (.head _)))) 1 _ rfl)
  have v2 := fun (ob : Obj) => cell_alloc (o := ob) ((BX15.out.mem (.tail _ (.tail _ (.head _)))) 2 _ rfl)
  have v3 := fun (ob : Obj) => cell_alloc (o := ob) ((BX15.out.mem (.tail _ (.tail _ (.head _)))) 3 _ rfl)
  have v4 := fun (ob : Obj) => cell_alloc (o := ob) ((BX15.out.mem (.tail _ (.tail _ (.head _)))) 4 _ rfl)
  have v5 := fun (ob : Obj) => cell_alloc (o := ob) ((BX15.out.mem (.tail _ (.tail _ (.head _)))) 5 _ rfl)
  have v6 := fun (ob : Obj) => cell_alloc (o := ob) ((BX15.out.mem (.tail _ (.tail _ (.head _)))) 6 _ rfl)
  have v7 := fun (ob : Obj) => cell_alloc (o := ob) ((BX15.out.mem (.tail _ (.tail _ (.head _)))) 7 _ rfl)
  have v8 := fun (ob : Obj) => cell_alloc (o := ob) ((BX15.out.mem (.tail _ (.tail _ (.head _)))) 8 _ rfl)
  clear hB12 hX hB13 hI3
  go_wp2_with fail
  clear v0 v1 v2 v3 v4 v5 v6 v7 v8
  change Calls _ _ _ (w12.alloc (BoxB B3 36)) _
  generalize (w12.alloc (BoxB B3 36)) = W12 at *
  refine (laws_eqBody B3 B1 bc _ I3.out I12.out HSB.out).mono ?_
  rintro e w13 ⟨rfl, hB14⟩
  have BX17 := Lib.hid (BX16.out.call hB14)
  have MK13 := Lib.hid (MK12.out.below hB14)
  clear hB14
  have u0 := (BX17.out.mem (.tail _ (.head _))) 0 _ rfl
  have u1 := (BX17.out.mem (.tail _ (.head _))) 1 _ rfl
  have u2 := (BX17.out.mem (.tail _ (.head _))) 2 _ rfl
  have u3 := (BX17.out.mem (.tail _ (.head _))) 3 _ rfl
  have u4 := (BX17.out.mem (.tail _ (.head _))) 4 _ rfl
  have u5 := (BX17.out.mem (.tail _ (.head _))) 5 _ rfl
  have u6 := (BX17.out.mem (.tail _ (.head _))) 6 _ rfl
  have u7 := (BX17.out.mem (.tail _ (.head _))) 7 _ rfl
  have u8 := (BX17.out.mem (.tail _ (.head _))) 8 _ rfl
  go_wp2_with fail
  clear u0 u1 u2 u3 u4 u5 u6 u7 u8
  refine (HHG.out w13 MK13.out).mono ?_
  rintro e w14 ⟨rfl, hB15⟩
  have BX18 := Lib.hid (BX17.out.call hB15)
  clear hB15
  go_wp2
  go_ret
  exact ⟨rfl, BX18.out.bel⟩
end Go.Proofs.Ytmbekamnogbgaaa


/-
Marks in a body and in a list of vectors that follow. Conditions: the lists may be written.
-/
namespace Go.Proofs.Ytmbekamnogbgaaa
open Go Fk Go.RowKit
set_option linter.unusedVariables false
set_option maxRecDepth 8000

set_option maxHeartbeats 1000000 in
theorem laws_markBodyZ (lo hi : Nat) (B : Bd) (c : Bc) (w : World) (h : OwnB lo hi w B c.ts) (hI : IsB w B c) (hs : SmallB c) (hlo : lo ≤ w.heap.size) (hhi : hi ≤ w.heap.size) :
    Calls Try.prog 22 #[B.v, .int .i64 1] w fun e w' => ∃ z : Nat, z ≤ 3000000000000000000 ∧ e = .returned (.int .i64 z) ∧ Mark lo hi w w' := by
  have ui := Try.underlying36
  have uim := Try.underlying29
  have A0 : Hid (At (w.alloc (BoxB B 36)) w.heap.size B.l) := Lib.hid At.new
  have B0 : Hid (Below w.heap.size w (w.alloc (BoxB B 36))) := Lib.hid ((Below.refl _ _).alloc (Nat.le_refl _) _)
  have M0 : Hid (Mark lo hi w (w.alloc (BoxB B 36))) := Lib.hid (Mark.alloc hlo _)
  have hz : lo ≤ (w.alloc (BoxB B 36)).heap.size := by simp; omega
  have ln := hI.lens
  have h1 : B.pl ≤ 1048576 := by rw [← ln.1]; exact hs.1.1
  have h2 : B.tl ≤ 1048576 := by rw [← ln.2.1]; exact hs.1.2.1
  have h3 : ∀ j, j < B.tl → (c.ts.getD j []).length ≤ 1048576 := fun j hj => hs.1.2.2 j (by rw [ln.2.1]; exact hj)
  have h4 : B.sl ≤ 1048576 := by rw [← ln.2.2.1]; exact hs.2.1
  have h5 : B.wl ≤ 1048576 := by rw [← ln.2.2.2]; exact hs.2.2
  obtain ⟨P, R, T, G, e1, e2, e3, e4, m, r, s, g⟩ := h.below B0.out
  have J := Lib.hid (laws_markMeshB lo hi P 0 R 0 B.pl B.pc B.tl B.tc c.ts 1 _ m hz h1 h2 h3 (by decide))
  have SG := Lib.hid (And.intro s g)
  have HHI := Lib.hid hhi
  clear hI hs m s g h h3
  rw [← e1, ← e2] at J
  have ES := Lib.hid (And.intro e3 e4)
  clear e1 e2 e3 e4 r
  go_enter Try.func22, Try.ntmps22
  go_wp2_with fail
  change Calls _ _ _ (w.alloc (BoxB B 36)) _
  generalize (w.alloc (BoxB B 36)) = W at *
  refine J.out.mono ?_
  rintro e w1 ⟨z, hzb, rfl, hM1⟩
  have k2 := hM1.cell (.inr HHI.out) (A0.out 2 _ rfl)
  have k5 := hM1.cell (.inr HHI.out) (A0.out 5 _ rfl)
  have X1 := Lib.hid (M0.out.trans hM1)
  have J2 := Lib.hid (laws_markSpringS lo hi T 0 B.sl B.sc z w1 (SG.out.1.mark hM1) (by omega))
  rw [← ES.out.1] at J2
  have L2 := Lib.hid (SG.out.2.mark hM1)
  clear hM1
  go_wp2_with fail
  refine J2.out.mono ?_
  rintro e w2 ⟨rfl, _, _, hM2⟩
  have k5' := hM2.cell (.inr HHI.out) k5
  have X2 := Lib.hid (X1.out.trans hM2)
  have J3 := Lib.hid (laws_markFloat32S lo hi G 0 B.wl B.wc (z + B.sl * 4) w2 (L2.out.mark hM2) (by omega))
  rw [← ES.out.2] at J3
  clear hM2 k2 k5
  obtain ⟨y, hy⟩ : ∃ y, y = z + B.sl * 4 := ⟨_, rfl⟩
  rw [← hy] at J3 ⊢
  have hyb : y + B.wl ≤ 3000000000000000000 := by omega
  clear hy
  go_wp2_with fail
  refine J3.out.mono ?_
  rintro e w3 ⟨rfl, _, _, hM3⟩
  have X3 := Lib.hid (X2.out.trans hM3)
  clear hM3
  go_wp2
  go_ret
  exact ⟨y + B.wl, hyb, by first | rfl | simp, X3.out⟩
theorem vec_own {lo hi Q n cap : Nat} {w : World} {ys : List C3} (h : IsVs w (some ⟨Q, 0, none⟩) n cap ys) (hf : ∀ i, w.frozen? ⟨Q, i, none⟩ = false) (h1 : lo ≤ Q) (h2 : Q < hi) (h3 : Q < w.heap.size) : Own lo hi w Q 0 (n * 3) := by
  refine ⟨h1, h2, h3, fun j hj => ⟨?_, hf _⟩⟩
  obtain ⟨p, q, r, k0, k1, k2, _⟩ := h.2.2.2.2 _ rfl (j / 3) (by omega)
  rw [addr_add', Nat.zero_add] at k0 k1 k2
  rw [Nat.zero_add]
  rcases (show j % 3 = 0 ∨ j % 3 = 1 ∨ j % 3 = 2 by omega) with e | e | e
  · rw [show j / 3 * 3 = j by omega] at k0; exact ⟨_, k0⟩
  · rw [show j / 3 * 3 + 1 = j by omega] at k1; exact ⟨_, k1⟩
  · rw [show j / 3 * 3 + 2 = j by omega] at k2; exact ⟨_, k2⟩
end Go.Proofs.Ytmbekamnogbgaaa


/-
The law of bodies whose places are moved returns true: its walk. Conditions: none beyond that all lie in memory.
-/
namespace Go.Proofs.Ytmbekamnogbgaaa
open Go Fk Go.RowKit
set_option linter.unusedVariables false
set_option maxRecDepth 16000

set_option maxHeartbeats 40000000 in
theorem movePlaces_law (B : Bd) (c : Bc) (a : Option Addr) (n cap : Nat) (ys : List C3) (x : Nat) (d : Option Nat) (w : World) (h : IsB w B c) (hv : IsVs w a n cap ys) (hx : FV .f32 x d) :
    Calls Try.prog 4 #[B.v, .slice a n cap, .float .f32 x] w fun e w' => e = .returned (.bool true) ∧ Below w.heap.size w w' := by
  have ulb := Try.underlying48
  have uib := Try.underlying36
  have HB := Lib.hid h
  have HV := Lib.hid hv
  have BX : Hid (Bx w [(w.heap.size, B.l)] (w.alloc (BoxB B 48))) := Lib.hid ((Bx.nil w).box (vs := B.l) (t := 48))
  have hm : n ≤ 9223372036854775807 := by have h1 := hv.2.1; have h2 := hv.2.2.1; unfold maxLen at h2; omega
  have HSP := Lib.hid (fun (B : Bd) (a : Option Addr) (cap : Nat) (w : World) (h : IsB w B c) (hv : IsVs w a n cap ys) => spec_MovePlaces B c a n cap ys x d w h hv hx)
  have HIM := Lib.hid (fun (B : Bd) (a : Option Addr) (cap : Nat) (w : World) (h : IsB w B c) (hv : IsVs w a n cap ys) => impl_MovePlaces B c a n cap ys x d w h hv hx)
  clear h hv hx
  obtain ⟨len1, len2, len3, len4, len5⟩ := mv_len c ys n d
  generalize mvO c ys n d = bc at *
  generalize okM c n = ok at *
  have HSB : Hid (SmallB bc) := Lib.hid ⟨⟨by omega, by omega, len5⟩, by omega, by omega⟩
  have LEN := Lib.hid (And.intro len1 (And.intro len2 (And.intro len3 len4)))
  clear len1 len2 len3 len4 len5
  have hvb : (ok == ok) = true := by cases ok <;> rfl
  have hvb' : (ok != ok) = false := by cases ok <;> rfl
  go_enter Try.func4, Try.ntmps4
  go_wp2_with fail
  change Calls _ _ _ (w.alloc (BoxB B 48)) _
  generalize (w.alloc (BoxB B 48)) = W at *
  refine (laws_szBody' B c 1048576 _ (HB.out.below BX.out.bel) (by decide) (by decide)).mono ?_
  rintro e w1 ⟨⟨r, rfl, hr⟩, hB1⟩
  have BX1 := Lib.hid (BX.out.call hB1)
  clear hB1
  rcases hr with rfl | ⟨hr0, hr1, hs⟩
  · go_wp2
    go_ret
    exact ⟨rfl, BX1.out.bel⟩
  have HS := Lib.hid hs
  clear hs
  go_wp2_with fail
  refine (laws_szVectorS a n cap r w1 hr0 hr1 hm).mono ?_
  rintro e w1' ⟨⟨r', rfl, hr'⟩, rfl⟩
  rcases hr' with rfl | ⟨hq0, hq1, hn1⟩
  · go_wp2
    go_ret
    exact ⟨rfl, BX1.out.bel⟩
  have a0 := (BX1.out.mem (.head _)) 0 _ rfl
  have a1 := (BX1.out.mem (.head _)) 1 _ rfl
  have a2 := (BX1.out.mem (.head _)) 2 _ rfl
  have a3 := (BX1.out.mem (.head _)) 3 _ rfl
  have a4 := (BX1.out.mem (.head _)) 4 _ rfl
  have a5 := (BX1.out.mem (.head _)) 5 _ rfl
  have a6 := (BX1.out.mem (.head _)) 6 _ rfl
  have a7 := (BX1.out.mem (.head _)) 7 _ rfl
  have a8 := (BX1.out.mem (.head _)) 8 _ rfl
  go_wp2_with fail
  clear a0 a1 a2 a3 a4 a5 a6 a7 a8
  refine (laws_toBody B c _ (HB.out.below BX1.out.bel) HS.out).mono ?_
  rintro e w2 ⟨B0, rfl, hI0, hB2⟩
  have BX2 := Lib.hid (BX1.out.call hB2)
  have I0 := Lib.hid hI0
  clear hB2 hI0
  go_wp2_with fail
  refine (laws_toVectorS a n cap ys w2 (HV.out.below BX2.out.bel) hn1).mono ?_
  rintro e w2' ⟨rfl, hVa, hB2, _⟩
  have BX2' := Lib.hid (BX2.out.call hB2)
  have I0' := Lib.hid (And.intro (I0.out.below hB2) hVa)
  clear hB2 hVa
  go_wp2_with fail
  refine (HSP.out B0 _ _ _ I0'.out.1 I0'.out.2).mono ?_
  rintro e w3 ⟨⟨B1, rfl, hI1, hL1⟩, hB3⟩
  have BX3 := Lib.hid (BX2'.out.call hB3)
  have hX3 : Below w3.heap.size w3 (w3.alloc (BoxB B1 36)) := (Below.refl _ _).alloc (Nat.le_refl _) _
  have BX4 : Hid (Bx w [(w3.heap.size, B1.l), (w.heap.size, B.l)] (w3.alloc (BoxB B1 36))) := Lib.hid (BX3.out.box (vs := B1.l) (t := 36))
  have I1 := Lib.hid (And.intro (hI1.below hX3) (hL1.agree (S := fun _ => True) (fun _ _ _ => trivial) (Agree.of_below hX3)))
  have Z1 : Hid (w2'.heap.size ≤ w3.heap.size ∧ (w3.alloc (BoxB B1 36)).heap.size = w3.heap.size + 1 ∧ w.heap.size ≤ w2'.heap.size) := Lib.hid ⟨hB3.size, by simp, BX2'.out.bel.size⟩
  have a0 := fun (ob : Obj) => cell_alloc (o := ob) ((BX3.out.mem (.head _)) 0 _ rfl)
  have a1 := fun (ob : Obj) => cell_alloc (o := ob) ((BX3.out.mem (.head _)) 1 _ rfl)
  have a2 := fun (ob : Obj) => cell_alloc (o := ob) ((BX3.out.mem (.head _)) 2 _ rfl)
  have a3 := fun (ob : Obj) => cell_alloc (o := ob) ((BX3.out.mem (.head _)) 3 _ rfl)
  have a4 := fun (ob : Obj) => cell_alloc (o := ob) ((BX3.out.mem (.head _)) 4 _ rfl)
  have a5 := fun (ob : Obj) => cell_alloc (o := ob) ((BX3.out.mem (.head _)) 5 _ rfl)
  have a6 := fun (ob : Obj) => cell_alloc (o := ob) ((BX3.out.mem (.head _)) 6 _ rfl)
  have a7 := fun (ob : Obj) => cell_alloc (o := ob) ((BX3.out.mem (.head _)) 7 _ rfl)
  have a8 := fun (ob : Obj) => cell_alloc (o := ob) ((BX3.out.mem (.head _)) 8 _ rfl)
  clear hB3 hI1 hL1 hX3
  go_wp2_with fail
  clear a0 a1 a2 a3 a4 a5 a6 a7 a8
  change Calls _ _ _ (w3.alloc (BoxB B1 36)) _
  generalize (w3.alloc (BoxB B1 36)) = W3 at *
  generalize w3.heap.size = S at *
  refine (laws_toBodyO B c _ (HB.out.below BX4.out.bel) HS.out).mono ?_
  rintro e w4 ⟨X0, rfl, hIX, hOX, hB4⟩
  have BX5 := Lib.hid (BX4.out.call hB4)
  have hX4 : Below w4.heap.size w4 (w4.alloc (BoxB X0 36)) := (Below.refl _ _).alloc (Nat.le_refl _) _
  have BX6 : Hid (Bx w [(w4.heap.size, X0.l), (S, B1.l), (w.heap.size, B.l)] (w4.alloc (BoxB X0 36))) := Lib.hid (BX5.out.box (vs := X0.l) (t := 36))
  have hB46 := hB4.trans (hX4.mono hB4.size)
  have I4 := Lib.hid (And.intro (I1.out.1.below hB46) (I1.out.2.agree (S := fun _ => True) (fun _ _ _ => trivial) (Agree.of_below hB46)))
  have M4 := Lib.hid (And.intro (hIX.below hX4) (hOX.below hX4))
  have Z4 : Hid (W3.heap.size ≤ w4.heap.size ∧ (w4.alloc (BoxB X0 36)).heap.size = w4.heap.size + 1) := Lib.hid ⟨hB4.size, by simp⟩
  clear hIX hOX hB4 hX4 hB46
  go_wp2_with fail
  change Calls _ _ _ (w4.alloc (BoxB X0 36)) _
  generalize (w4.alloc (BoxB X0 36)) = W4' at *
  generalize w4.heap.size = X at *
  refine (laws_toVectorS' a n cap ys _ (HV.out.below BX6.out.bel) hn1).mono ?_
  rintro e W4 ⟨rfl, hVq, hB4, hQl, hQf⟩
  have BX6' := Lib.hid (BX6.out.call hB4)
  have I4' := Lib.hid (And.intro (I4.out.1.below hB4) (I4.out.2.agree (S := fun _ => True) (fun _ _ _ => trivial) (Agree.of_below hB4)))
  have M4' := Lib.hid (And.intro (M4.out.1.below hB4) (M4.out.2.below hB4))
  have Q4 := Lib.hid (And.intro hVq hQf)
  have z4q := Z4.out
  have ZQ : Hid (W3.heap.size ≤ X ∧ W4'.heap.size = X + 1 ∧ W4'.heap.size < W4.heap.size) := Lib.hid ⟨z4q.1, z4q.2, hQl⟩
  clear hB4 hVq hQf hQl z4q Z4 I4 M4 BX6
  generalize W4'.heap.size = Q at *
  have b0 := (BX6'.out.mem (.head _)) 0 _ rfl
  have b1 := (BX6'.out.mem (.head _)) 1 _ rfl
  have b2 := (BX6'.out.mem (.head _)) 2 _ rfl
  have b3 := (BX6'.out.mem (.head _)) 3 _ rfl
  have b4 := (BX6'.out.mem (.head _)) 4 _ rfl
  have b5 := (BX6'.out.mem (.head _)) 5 _ rfl
  have b6 := (BX6'.out.mem (.head _)) 6 _ rfl
  have b7 := (BX6'.out.mem (.head _)) 7 _ rfl
  have b8 := (BX6'.out.mem (.head _)) 8 _ rfl
  go_wp2_with fail
  clear b0 b1 b2 b3 b4 b5 b6 b7 b8
  refine (HIM.out X0 _ _ _ M4'.out.1 Q4.out.1).mono ?_
  rintro e w5 ⟨⟨B2, F, rfl, hI2, hG2⟩, hB5⟩
  have BX7 := Lib.hid (BX6'.out.call hB5)
  have hX5 : Below w5.heap.size w5 (w5.alloc (BoxB B2 36)) := (Below.refl _ _).alloc (Nat.le_refl _) _
  have hB57 := hB5.trans (hX5.mono hB5.size)
  have BX8 : Hid (Bx w [(w5.heap.size, B2.l), (X, X0.l), (S, B1.l), (w.heap.size, B.l)] (w5.alloc (BoxB B2 36))) := Lib.hid (BX7.out.box (vs := B2.l) (t := 36))
  have I5 := Lib.hid (And.intro (I4'.out.1.below hB57) (I4'.out.2.agree (S := fun _ => True) (fun _ _ _ => trivial) (Agree.of_below hB57)))
  have M5 := Lib.hid (And.intro (M4'.out.1.below hB57) (M4'.out.2.below hB57))
  have J5 := Lib.hid (And.intro (hI2.below hX5) (hG2.below hX5))
  have hQ4 := ZQ.out.2.2
  have Q5 := Lib.hid (And.intro (Q4.out.1.below hB57) (fun i => (hB57.frozen (p := ⟨Q, i, none⟩) hQ4).trans (Q4.out.2 i)))
  have Z5 : Hid (W4.heap.size ≤ w5.heap.size ∧ (w5.alloc (BoxB B2 36)).heap.size = w5.heap.size + 1) := Lib.hid ⟨hB5.size, by simp⟩
  have b0 := fun (ob : Obj) => cell_alloc (o := ob) ((BX7.out.mem (.tail _ (.head _))) 0 _ rfl)
  have b1 := fun (ob : Obj) => cell_alloc (o := ob) ((BX7.out.mem (.tail _ (.head _))) 1 _ rfl)
  have b2 := fun (ob : Obj) => cell_alloc (o := ob) ((BX7.out.mem (.tail _ (.head _))) 2 _ rfl)
  have b3 := fun (ob : Obj) => cell_alloc (o := ob) ((BX7.out.mem (.tail _ (.head _))) 3 _ rfl)
  have b4 := fun (ob : Obj) => cell_alloc (o := ob) ((BX7.out.mem (.tail _ (.head _))) 4 _ rfl)
  have b5 := fun (ob : Obj) => cell_alloc (o := ob) ((BX7.out.mem (.tail _ (.head _))) 5 _ rfl)
  have b6 := fun (ob : Obj) => cell_alloc (o := ob) ((BX7.out.mem (.tail _ (.head _))) 6 _ rfl)
  have b7 := fun (ob : Obj) => cell_alloc (o := ob) ((BX7.out.mem (.tail _ (.head _))) 7 _ rfl)
  have b8 := fun (ob : Obj) => cell_alloc (o := ob) ((BX7.out.mem (.tail _ (.head _))) 8 _ rfl)
  clear hB5 hX5 hB57 hI2 hG2 hQ4
  go_wp2_with fail
  clear b0 b1 b2 b3 b4 b5 b6 b7 b8
  change Calls _ _ _ (w5.alloc (BoxB B2 36)) _
  generalize (w5.alloc (BoxB B2 36)) = W5 at *
  generalize w5.heap.size = G at *
  refine (laws_eqBody B2 B1 bc _ J5.out.1 I5.out.1 HSB.out).mono ?_
  rintro e w6 ⟨rfl, hB6⟩
  have BX9 := Lib.hid (BX8.out.call hB6)
  have I6 := Lib.hid (And.intro (I5.out.1.below hB6) (I5.out.2.agree (S := fun _ => True) (fun _ _ _ => trivial) (Agree.of_below hB6)))
  have M6 := Lib.hid (And.intro (M5.out.1.below hB6) (M5.out.2.below hB6))
  have J6 := Lib.hid (And.intro (J5.out.1.below hB6) (J5.out.2.below hB6))
  have hQ5 : Q < W5.heap.size := by have h1 := Z5.out; have h2 := ZQ.out; omega
  have Q6 := Lib.hid (And.intro (Q5.out.1.below hB6) (fun i => (hB6.frozen (p := ⟨Q, i, none⟩) hQ5).trans (Q5.out.2 i)))
  have Z6 := Lib.hid hB6.size
  clear hB6 hQ5
  go_wp2_with fail
  refine Reg.wp_region_mix (C := fun w' => Below w6.heap.size w6 w') (G := fun w1 w2 => Below w1.heap.size w1 w2) (R := fun i v w' => match i with | 0 => v = X0.v | 1 => v = B.v | 2 => ∃ Y : Bd, v = Y.v ∧ IsB w' Y c | 3 => v = .bool true | 4 => v = .bool false | _ => True) (T := fun _ _ _ => True) [false, false, false, false, false, false, false, false, false, false, false, false, false, false, false, false, false, false, false, false, false, false, false, false, false, false, false, false, false, false, false, false, false, false, false, false, false, false, false, false, false, false, false, false, false, false, false, false, false, false, false, false, false, false, false, false, false, false, true, true, true, true, true, false, false, false, false, false, false, false, false, false, false, false, false, false, false, false, false, false, false, false, false, false, false, false, false, false, false, false, false, false, false, false, false, false, false, false, false, false, false, false, false, false, false, false, false, false, false, false, false, false, false, false, false, false, false, false, false, false, false, false, false, false]
    (by kernel_rfl) (by kernel_rfl) (by kernel_rfl) ?_ (below_drewN (Below.refl _ _) 1) ?_ ?_
  · intro j v w1 w2 _ hG hR
    match j with
    | 0 => exact hR
    | 1 => exact hR
    | 2 => obtain ⟨Y, e, h1⟩ := hR; exact ⟨Y, e, h1.below hG⟩
    | 3 => exact hR
    | 4 => exact hR
    | _ + 5 => trivial
  · refine ⟨Reg.Obl.mk ?_, Reg.Obl.mk ?_, Reg.Obl.mk ?_, Reg.Obl.mk ?_, Reg.Obl.mk ?_, trivial⟩
    · rintro av wq hB hx hd K hK
      have HC := Lib.hid hB
      clear hB
      have t10 : av.tmps[10]?.getD undef = .pointer (some ⟨X, 0, none⟩) := Reg.slot_val (hx 10 (by kernel_rfl))
      have y0 := ((BX9.out.call HC.out).mem (.tail _ (.head _))) 0 _ rfl
      have y1 := ((BX9.out.call HC.out).mem (.tail _ (.head _))) 1 _ rfl
      have y2 := ((BX9.out.call HC.out).mem (.tail _ (.head _))) 2 _ rfl
      have y3 := ((BX9.out.call HC.out).mem (.tail _ (.head _))) 3 _ rfl
      have y4 := ((BX9.out.call HC.out).mem (.tail _ (.head _))) 4 _ rfl
      have y5 := ((BX9.out.call HC.out).mem (.tail _ (.head _))) 5 _ rfl
      have y6 := ((BX9.out.call HC.out).mem (.tail _ (.head _))) 6 _ rfl
      have y7 := ((BX9.out.call HC.out).mem (.tail _ (.head _))) 7 _ rfl
      have y8 := ((BX9.out.call HC.out).mem (.tail _ (.head _))) 8 _ rfl
      go_simp
      exact hK _ _ (fun _ => rfl) (fun h => by cases h) HC.out (Below.refl _ _)
    · rintro av wq hB hx hd K hK
      have HC := Lib.hid hB
      clear hB
      have t3 : av.tmps[3]?.getD undef = .pointer (some ⟨w.heap.size, 0, none⟩) := Reg.slot_val (hx 3 (by kernel_rfl))
      have y0 := ((BX9.out.call HC.out).mem (.tail _ (.tail _ (.tail _ (.head _))))) 0 _ rfl
      have y1 := ((BX9.out.call HC.out).mem (.tail _ (.tail _ (.tail _ (.head _))))) 1 _ rfl
      have y2 := ((BX9.out.call HC.out).mem (.tail _ (.tail _ (.tail _ (.head _))))) 2 _ rfl
      have y3 := ((BX9.out.call HC.out).mem (.tail _ (.tail _ (.tail _ (.head _))))) 3 _ rfl
      have y4 := ((BX9.out.call HC.out).mem (.tail _ (.tail _ (.tail _ (.head _))))) 4 _ rfl
      have y5 := ((BX9.out.call HC.out).mem (.tail _ (.tail _ (.tail _ (.head _))))) 5 _ rfl
      have y6 := ((BX9.out.call HC.out).mem (.tail _ (.tail _ (.tail _ (.head _))))) 6 _ rfl
      have y7 := ((BX9.out.call HC.out).mem (.tail _ (.tail _ (.tail _ (.head _))))) 7 _ rfl
      have y8 := ((BX9.out.call HC.out).mem (.tail _ (.tail _ (.tail _ (.head _))))) 8 _ rfl
      go_simp
      exact hK _ _ (fun _ => rfl) (fun h => by cases h) HC.out (Below.refl _ _)
    · rintro av wq hB hx hd K hK
      have HC := Lib.hid hB
      clear hB
      have t59 : av.tmps[59]?.getD undef = B.v := Reg.slot_val (hd 1 (by kernel_rfl) 59 rfl)
      go_simp
      refine (laws_toBody B c _ (HB.out.below (BX9.out.call HC.out).bel) HS.out).mono ?_
      rintro en w2 ⟨Y, rfl, hV, hB2⟩
      exact hK _ _ (fun _ => ⟨Y, rfl, hV⟩) (fun h => by cases h) (HC.out.trans (hB2.mono HC.out.size)) hB2
    · rintro av wq hB hx hd K hK
      have HC := Lib.hid hB
      clear hB
      have t58 : av.tmps[58]?.getD undef = X0.v := Reg.slot_val (hd 0 (by kernel_rfl) 58 rfl)
      obtain ⟨Y, g2, hV⟩ := hd 2 (by kernel_rfl) 60 rfl
      have t60 := Reg.slot_val g2
      clear g2
      have HVe := Lib.hid hV
      clear hV
      go_simp
      refine (laws_eqBody X0 Y c _ (M6.out.1.below HC.out) HVe.out HS.out).mono ?_
      rintro en w2 ⟨rfl, hB2⟩
      exact hK _ _ (fun _ => rfl) (fun h => by cases h) (HC.out.trans (hB2.mono HC.out.size)) hB2
    · rintro av wq hB hx hd K hK
      have t61 : av.tmps[61]?.getD undef = .bool true := Reg.slot_val (hd 3 (by kernel_rfl) 61 rfl)
      go_simp
      exact hK _ _ (fun _ => rfl) (fun h => by cases h) hB (Below.refl _ _)
  rintro f wy hBz hd hTT
  have g62 : f 62 = .bool false := hd 4 62 rfl
  simp only [Reg.mixL, g62]
  have z1 := Z1.out
  have zq : W3.heap.size ≤ X ∧ Q ≤ X + 1 ∧ X + 1 ≤ Q ∧ Q < W4.heap.size := ⟨ZQ.out.1, Nat.le_of_eq ZQ.out.2.1, Nat.le_of_eq ZQ.out.2.1.symm, ZQ.out.2.2⟩
  have z5 := Z5.out
  have z6 := Z6.out
  have zy := hBz.size
  have hSlt : S < W3.heap.size := by omega
  have BXy := Lib.hid (BX9.out.call hBz)
  have Iy := Lib.hid (And.intro (I6.out.1.below hBz) (I6.out.2.agree (S := fun _ => True) (fun _ _ _ => trivial) (Agree.of_below hBz)))
  have Oy := Lib.hid (And.intro (M6.out.1.below hBz) (M6.out.2.below hBz))
  have Jy := Lib.hid (And.intro (J6.out.1.below hBz) (J6.out.2.below hBz))
  have Qy := Lib.hid (And.intro (Q6.out.1.below hBz) (fun i => (hBz.frozen (p := ⟨Q, i, none⟩) (show Q < w6.heap.size by omega)).trans (Q6.out.2 i)))
  clear hBz hd hTT g62
  go_wp2_with fail
  refine (laws_toVectorS a n cap ys wy (HV.out.below BXy.out.bel) hn1).mono ?_
  rintro e wu ⟨rfl, hVu, hBu, _⟩
  have BXu := Lib.hid (BXy.out.call hBu)
  have Iu := Lib.hid (And.intro (Iy.out.1.below hBu) (Iy.out.2.agree (S := fun _ => True) (fun _ _ _ => trivial) (Agree.of_below hBu)))
  have Ou := Lib.hid (And.intro (Oy.out.1.below hBu) (Oy.out.2.below hBu))
  have Ju := Lib.hid (And.intro (Jy.out.1.below hBu) (Jy.out.2.below hBu))
  have Qu := Lib.hid (And.intro (Qy.out.1.below hBu) (And.intro (fun i => (hBu.frozen (p := ⟨Q, i, none⟩) (show Q < wy.heap.size by omega)).trans (Qy.out.2 i)) hVu))
  have zu := hBu.size
  clear hBu hVu
  go_wp2_with fail
  refine (laws_eqVectorS _ _ n _ _ ys wu Qu.out.1 Qu.out.2.2).mono ?_
  rintro e wz ⟨rfl, hBz⟩
  have BXz := Lib.hid (BXu.out.call hBz)
  have Iz := Lib.hid (And.intro (Iu.out.1.below hBz) (Iu.out.2.agree (S := fun _ => True) (fun _ _ _ => trivial) (Agree.of_below hBz)))
  have Oz := Lib.hid (And.intro (Ou.out.1.below hBz) (Ou.out.2.below hBz))
  have Jz := Lib.hid (And.intro (Ju.out.1.below hBz) (Ju.out.2.below hBz))
  have Qz := Lib.hid (And.intro (Qu.out.1.below hBz) (fun i => (hBz.frozen (p := ⟨Q, i, none⟩) (show Q < wu.heap.size by omega)).trans (Qu.out.2.1 i)))
  have zz := hBz.size
  clear hBz
  have x0 := (BXz.out.mem (.tail _ (.head _))) 0 _ rfl
  have x1 := (BXz.out.mem (.tail _ (.head _))) 1 _ rfl
  have x2 := (BXz.out.mem (.tail _ (.head _))) 2 _ rfl
  have x3 := (BXz.out.mem (.tail _ (.head _))) 3 _ rfl
  have x4 := (BXz.out.mem (.tail _ (.head _))) 4 _ rfl
  have x5 := (BXz.out.mem (.tail _ (.head _))) 5 _ rfl
  have x6 := (BXz.out.mem (.tail _ (.head _))) 6 _ rfl
  have x7 := (BXz.out.mem (.tail _ (.head _))) 7 _ rfl
  have x8 := (BXz.out.mem (.tail _ (.head _))) 8 _ rfl
  go_wp2_with fail
  clear x0 x1 x2 x3 x4 x5 x6 x7 x8
  refine (laws_markBodyZ W3.heap.size X X0 c wz Oz.out.2 Oz.out.1 HS.out (by omega) (by omega)).mono ?_
  rintro e w7 ⟨z7, hz7, rfl, hM⟩
  have hz0 : ¬ ((z7 : Int) < 0) := by omega
  have hall : ∀ b l, (b, l) ∈ [(G, B2.l), (X, X0.l), (S, B1.l), (w.heap.size, B.l)] → b < W3.heap.size ∨ X ≤ b := by
    intro b l hm
    simp only [List.mem_cons, Prod.mk.injEq, List.not_mem_nil, or_false] at hm
    rcases hm with ⟨rfl, _⟩ | ⟨rfl, _⟩ | ⟨rfl, _⟩ | ⟨rfl, _⟩
    · exact .inr (by omega)
    · exact .inr (by omega)
    · exact .inl (by omega)
    · exact .inl (by omega)
  have BX10' := Lib.hid (BXz.out.away hM (by omega) hall)
  have AG := Agree.of_mark hM
  have I7' := Lib.hid (And.intro (Iz.out.1.agree Iz.out.2 (fun b k1 k2 => .inl (by omega)) AG) (Iz.out.2.agree (fun b k1 k2 => .inl (by omega)) AG))
  have J7' := Lib.hid (And.intro (Jz.out.1.agree Jz.out.2.lb (fun b k1 k2 => .inr (by omega)) AG) (Jz.out.2.agree (fun b k1 k2 => .inr (by omega)) AG))
  have Q7' := Lib.hid (vec_own (lo := X + 1) (hi := W4.heap.size) Qz.out.1 Qz.out.2 (by omega) (by omega) (by omega))
  have Q7 := Lib.hid (Q7'.out.agree (S := fun b => b < W3.heap.size ∨ X ≤ b) (fun b k1 k2 => .inr (by omega)) AG)
  have z7s := hM.below.size
  clear hM hall AG
  go_wp2_with fail
  refine (laws_markVectorS (X + 1) W4.heap.size Q 0 n n z7 w7 Q7.out (by omega)).mono ?_
  rintro e w7b ⟨rfl, _, _, hM⟩
  obtain ⟨zb, hzb⟩ : ∃ zb, zb = z7 + n * 3 := ⟨_, rfl⟩
  rw [← hzb]
  have hzb0 : ¬ ((zb : Int) < 0) := by omega
  clear hzb
  have hall : ∀ b l, (b, l) ∈ [(G, B2.l), (X, X0.l), (S, B1.l), (w.heap.size, B.l)] → b < X + 1 ∨ W4.heap.size ≤ b := by
    intro b l hm
    simp only [List.mem_cons, Prod.mk.injEq, List.not_mem_nil, or_false] at hm
    rcases hm with ⟨rfl, _⟩ | ⟨rfl, _⟩ | ⟨rfl, _⟩ | ⟨rfl, _⟩
    · exact .inr (by omega)
    · exact .inl (by omega)
    · exact .inl (by omega)
    · exact .inl (by omega)
  have BX10 := Lib.hid (BX10'.out.away hM (by omega) hall)
  have AG := Agree.of_mark hM
  have I7 := Lib.hid (And.intro (I7'.out.1.agree I7'.out.2 (fun b k1 k2 => .inl (by omega)) AG) (I7'.out.2.agree (fun b k1 k2 => .inl (by omega)) AG))
  have J7 := Lib.hid (And.intro (J7'.out.1.agree J7'.out.2.lb (fun b k1 k2 => .inr (by omega)) AG) (J7'.out.2.agree (fun b k1 k2 => .inr (by omega)) AG))
  have z7b := hM.below.size
  clear hM hall AG
  have u0 := (BX10.out.mem (.head _)) 0 _ rfl
  have u1 := (BX10.out.mem (.head _)) 1 _ rfl
  have u2 := (BX10.out.mem (.head _)) 2 _ rfl
  have u3 := (BX10.out.mem (.head _)) 3 _ rfl
  have u4 := (BX10.out.mem (.head _)) 4 _ rfl
  have u5 := (BX10.out.mem (.head _)) 5 _ rfl
  have u6 := (BX10.out.mem (.head _)) 6 _ rfl
  have u7 := (BX10.out.mem (.head _)) 7 _ rfl
  have u8 := (BX10.out.mem (.head _)) 8 _ rfl
  have v0 := (BX10.out.mem (.tail _ (.tail _ (.head _)))) 0 _ rfl
  have v1 := (BX10.out.mem (.tail _ (.tail _ (.head _)))) 1 _ rfl
  have v2 := (BX10.out.mem (.tail _ (.tail _ (.head _)))) 2 _ rfl
  have v3 := (BX10.out.mem (.tail _ (.tail _ (.head _)))) 3 _ rfl
  have v4 := (BX10.out.mem (.tail _ (.tail _ (.head _)))) 4 _ rfl
  have v5 := (BX10.out.mem (.tail _ (.tail _ (.head _)))) 5 _ rfl
  have v6 := (BX10.out.mem (.tail _ (.tail _ (.head _)))) 6 _ rfl
  have v7 := (BX10.out.mem (.tail _ (.tail _ (.head _)))) 7 _ rfl
  have v8 := (BX10.out.mem (.tail _ (.tail _ (.head _)))) 8 _ rfl
  go_wp2_with fail
  clear u0 u1 u2 u3 u4 u5 u6 u7 u8 v0 v1 v2 v3 v4 v5 v6 v7 v8
  refine (laws_eqBody B2 B1 bc _ J7.out.1 I7.out.1 HSB.out).mono ?_
  rintro e w8 ⟨rfl, hB8⟩
  have BX11 := Lib.hid (BX10.out.call hB8)
  have I8 := Lib.hid (And.intro (I7.out.1.below hB8) (I7.out.2.agree (S := fun _ => True) (fun _ _ _ => trivial) (Agree.of_below hB8)))
  have J8 := Lib.hid (J7.out.2.below hB8)
  have LN : Hid (B2.pl ≤ 1000 ∧ B2.tl ≤ 1000 ∧ B2.sl ≤ 1000 ∧ B2.wl ≤ 1000) := Lib.hid (by
    have l := J7.out.1.lens
    have h := LEN.out
    exact ⟨by omega, by omega, by omega, by omega⟩)
  have z8 := hB8.size
  clear hB8
  have u0 := (BX11.out.mem (.head _)) 0 _ rfl
  have u1 := (BX11.out.mem (.head _)) 1 _ rfl
  have u2 := (BX11.out.mem (.head _)) 2 _ rfl
  have u3 := (BX11.out.mem (.head _)) 3 _ rfl
  have u4 := (BX11.out.mem (.head _)) 4 _ rfl
  have u5 := (BX11.out.mem (.head _)) 5 _ rfl
  have u6 := (BX11.out.mem (.head _)) 6 _ rfl
  have u7 := (BX11.out.mem (.head _)) 7 _ rfl
  have u8 := (BX11.out.mem (.head _)) 8 _ rfl
  go_wp2_with fail
  clear u0 u1 u2 u3 u4 u5 u6 u7 u8
  refine (mark_gb W4.heap.size G F B2 w8 J8.out (by omega) LN.out.1 LN.out.2.1 LN.out.2.2.1 LN.out.2.2.2).mono ?_
  rintro e w9 ⟨rfl, hmk, hM9, _⟩
  have hall : ∀ b l, (b, l) ∈ [(G, B2.l), (X, X0.l), (S, B1.l), (w.heap.size, B.l)] → b < W4.heap.size ∨ G ≤ b := by
    intro b l hm
    simp only [List.mem_cons, Prod.mk.injEq, List.not_mem_nil, or_false] at hm
    rcases hm with ⟨rfl, _⟩ | ⟨rfl, _⟩ | ⟨rfl, _⟩ | ⟨rfl, _⟩
    · exact .inr (by omega)
    · exact .inl (by omega)
    · exact .inl (by omega)
    · exact .inl (by omega)
  have BX12 := Lib.hid (BX11.out.away hM9 (by omega) hall)
  have AG := Agree.of_mark hM9
  have I9 := Lib.hid (I8.out.1.agree I8.out.2 (fun b k1 k2 => .inl (by omega)) AG)
  have HMK := Lib.hid hmk
  have HHG := Lib.hid (fun (w : World) (h : MrkB w B2 F) => held_gb F B2 w h LN.out.1 LN.out.2.1 LN.out.2.2.1 LN.out.2.2.2)
  obtain ⟨N, hN⟩ : ∃ N, N = 1 + B2.pl * 3 + B2.tl * 3 + B2.sl * 4 + B2.wl := ⟨_, rfl⟩
  rw [← hN] at HHG ⊢
  have hn0 : ¬ ((N : Int) < 0) := by omega
  clear hM9 hall AG hmk hN
  have u0 := (BX12.out.mem (.head _)) 0 _ rfl
  have u1 := (BX12.out.mem (.head _)) 1 _ rfl
  have u2 := (BX12.out.mem (.head _)) 2 _ rfl
  have u3 := (BX12.out.mem (.head _)) 3 _ rfl
  have u4 := (BX12.out.mem (.head _)) 4 _ rfl
  have u5 := (BX12.out.mem (.head _)) 5 _ rfl
  have u6 := (BX12.out.mem (.head _)) 6 _ rfl
  have u7 := (BX12.out.mem (.head _)) 7 _ rfl
  have u8 := (BX12.out.mem (.head _)) 8 _ rfl
  go_wp2_with fail
  clear u0 u1 u2 u3 u4 u5 u6 u7 u8
  refine (HHG.out w9 HMK.out).mono ?_
  rintro e w10 ⟨rfl, hB10⟩
  have BX13 := Lib.hid (BX12.out.call hB10)
  have I10 := Lib.hid (I9.out.below hB10)
  have MK10 := Lib.hid (HMK.out.below hB10)
  clear hB10
  have a0 := (BX13.out.mem (.tail _ (.tail _ (.tail _ (.head _))))) 0 _ rfl
  have a1 := (BX13.out.mem (.tail _ (.tail _ (.tail _ (.head _))))) 1 _ rfl
  have a2 := (BX13.out.mem (.tail _ (.tail _ (.tail _ (.head _))))) 2 _ rfl
  have a3 := (BX13.out.mem (.tail _ (.tail _ (.tail _ (.head _))))) 3 _ rfl
  have a4 := (BX13.out.mem (.tail _ (.tail _ (.tail _ (.head _))))) 4 _ rfl
  have a5 := (BX13.out.mem (.tail _ (.tail _ (.tail _ (.head _))))) 5 _ rfl
  have a6 := (BX13.out.mem (.tail _ (.tail _ (.tail _ (.head _))))) 6 _ rfl
  have a7 := (BX13.out.mem (.tail _ (.tail _ (.tail _ (.head _))))) 7 _ rfl
  have a8 := (BX13.out.mem (.tail _ (.tail _ (.tail _ (.head _))))) 8 _ rfl
  go_wp2_with fail
  clear a0 a1 a2 a3 a4 a5 a6 a7 a8
  refine (laws_toBody B c _ (HB.out.below BX13.out.bel) HS.out).mono ?_
  rintro e w11 ⟨Y, rfl, hY, hB11⟩
  have BX14 := Lib.hid (BX13.out.call hB11)
  have I11 := Lib.hid (I10.out.below hB11)
  have MK11 := Lib.hid (MK10.out.below hB11)
  have HY := Lib.hid hY
  clear hB11 hY
  go_wp2_with fail
  refine (laws_toVectorS a n cap ys w11 (HV.out.below BX14.out.bel) hn1).mono ?_
  rintro e w11b ⟨rfl, hVy, hB11, _⟩
  have BX14' := Lib.hid (BX14.out.call hB11)
  have I11' := Lib.hid (I11.out.below hB11)
  have MK11' := Lib.hid (MK11.out.below hB11)
  have HY' := Lib.hid (And.intro (HY.out.below hB11) hVy)
  clear hB11 hVy
  go_wp2_with fail
  refine (HIM.out Y _ _ _ HY'.out.1 HY'.out.2).mono ?_
  rintro e w12 ⟨⟨B3, F', rfl, hI3, _⟩, hB12⟩
  have BX15 := Lib.hid (BX14'.out.call hB12)
  have hX : Below w12.heap.size w12 (w12.alloc (BoxB B3 36)) := (Below.refl _ _).alloc (Nat.le_refl _) _
  have hB13 := hB12.trans (hX.mono hB12.size)
  have BX16 : Hid (Bx w [(w12.heap.size, B3.l), (G, B2.l), (X, X0.l), (S, B1.l), (w.heap.size, B.l)] (w12.alloc (BoxB B3 36))) := Lib.hid (BX15.out.box (vs := B3.l) (t := 36))
  have I12 := Lib.hid (I11'.out.below hB13)
  have I3 := Lib.hid (hI3.below hX)
  have MK12 := Lib.hid (MK11'.out.below hB13)
  have v0 := fun (ob : Obj) => cell_alloc (o := ob) ((BX15.out.mem (.tail _ (.tail _ (.head _)))) 0 _ rfl)
  have v1 := fun (ob : Obj) => cell_alloc (o := ob) ((BX15.out.mem (.tail _ (.tail _ (.head _)))) 1 _ rfl)
  have v2 := fun (ob : Obj) => cell_alloc (o := ob) ((BX15.out.mem (.tail _ (.tail _ (.head _)))) 2 _ rfl)
  have v3 := fun (ob : Obj) => cell_alloc (o := ob) ((BX15.out.mem (.tail _ (.tail _ (.head _)))) 3 _ rfl)
  have v4 := fun (ob : Obj) => cell_alloc (o := ob) ((BX15.out.mem (.tail _ (.tail _ (.head _)))) 4 _ rfl)
  have v5 := fun (ob : Obj) => cell_alloc (o := ob) ((BX15.out.mem (.tail _ (.tail _ (.head _)))) 5 _ rfl)
  have v6 := fun (ob : Obj) => cell_alloc (o := ob) ((BX15.out.mem (.tail _ (.tail _ (.head _)))) 6 _ rfl)
  have v7 := fun (ob : Obj) => cell_alloc (o := ob) ((BX15.out.mem (.tail _ (.tail _ (.head _)))) 7 _ rfl)
  have v8 := fun (ob : Obj) => cell_alloc (o := ob) ((BX15.out.mem (.tail _ (.tail _ (.head _)))) 8 _ rfl)
  clear hB12 hX hB13 hI3
  go_wp2_with fail
  clear v0 v1 v2 v3 v4 v5 v6 v7 v8
  change Calls _ _ _ (w12.alloc (BoxB B3 36)) _
  generalize (w12.alloc (BoxB B3 36)) = W12 at *
  refine (laws_eqBody B3 B1 bc _ I3.out I12.out HSB.out).mono ?_
  rintro e w13 ⟨rfl, hB14⟩
  have BX17 := Lib.hid (BX16.out.call hB14)
  have MK13 := Lib.hid (MK12.out.below hB14)
  clear hB14
  have u0 := (BX17.out.mem (.tail _ (.head _))) 0 _ rfl
  have u1 := (BX17.out.mem (.tail _ (.head _))) 1 _ rfl
  have u2 := (BX17.out.mem (.tail _ (.head _))) 2 _ rfl
  have u3 := (BX17.out.mem (.tail _ (.head _))) 3 _ rfl
  have u4 := (BX17.out.mem (.tail _ (.head _))) 4 _ rfl
  have u5 := (BX17.out.mem (.tail _ (.head _))) 5 _ rfl
  have u6 := (BX17.out.mem (.tail _ (.head _))) 6 _ rfl
  have u7 := (BX17.out.mem (.tail _ (.head _))) 7 _ rfl
  have u8 := (BX17.out.mem (.tail _ (.head _))) 8 _ rfl
  go_wp2_with fail
  clear u0 u1 u2 u3 u4 u5 u6 u7 u8
  refine (HHG.out w13 MK13.out).mono ?_
  rintro e w14 ⟨rfl, hB15⟩
  have BX18 := Lib.hid (BX17.out.call hB15)
  clear hB15
  go_wp2
  go_ret
  exact ⟨rfl, BX18.out.bel⟩
theorem FnExactMovePlaces_law (pa ta sa wa : Option Addr) (pl pc tl tc sl sc wl wc : Nat) (cs : List C3) (ts : List (List Int)) (ss : List SC) (zs : List Nat) (fi be fx fy fz : Nat) (a : Option Addr) (n cap : Nat) (ys : List C3) (x : Nat) (w : World) (hp : IsVs w pa pl pc cs) (ht : IsTs w ta tl tc ts) (hs : IsSs w sa sl sc ss) (hw : IsFs .f32 w wa wl wc zs) (hf : fi < 2 ^ FloatKind.f32.format.width ∧ be < 2 ^ FloatKind.f32.format.width ∧ fx < 2 ^ FloatKind.f32.format.width ∧ fy < 2 ^ FloatKind.f32.format.width ∧ fz < 2 ^ FloatKind.f32.format.width) (hv : IsVs w a n cap ys) (hx : x < 2 ^ FloatKind.f32.format.width) :
    Calls Try.prog 4 #[.agg #[.slice pa pl pc, .slice ta tl tc, .slice sa sl sc, .float .f32 fi, .float .f32 be, .slice wa wl wc, .float .f32 fx, .float .f32 fy, .float .f32 fz], .slice a n cap, .float .f32 x] w fun e w' => e = .returned (.bool true) ∧ Below w.heap.size w w' :=
  movePlaces_law ⟨pa, ta, sa, wa, pl, pc, tl, tc, sl, sc, wl, wc, fi, be, fx, fy, fz⟩ ⟨cs, ts, ss, zs, cls .f32 fi, cls .f32 be, (cls .f32 fx, cls .f32 fy, cls .f32 fz)⟩ a n cap ys x (cls .f32 x) w ⟨hp, ht, hs, hw, FV.self hf.1, FV.self hf.2.1, FV.self hf.2.2.1, FV.self hf.2.2.2.1, FV.self hf.2.2.2.2⟩ hv (FV.self hx)
end Go.Proofs.Ytmbekamnogbgaaa

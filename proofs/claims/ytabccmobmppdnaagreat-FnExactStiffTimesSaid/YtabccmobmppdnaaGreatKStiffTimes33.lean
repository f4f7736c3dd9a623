/-
Texts in one: what StiffTimes stands on, part 33. Conditions: those of each.
-/
import Derived.Test.YtabccmobmppdnaaGreatKStiffTimes32
-- halved
namespace Go.Proofs.YtabccmobmppdnaaGreat
open Go Fk Go.RowKit
set_option linter.unusedVariables false
set_option maxRecDepth 8000
def heldB (c : Bc) (L : List Int) : Bool := bodyB c && riseB c.cs.length L
theorem bodyB_pl {B : Bd} {c : Bc} {w : World} (h : IsB w B c) (hb : bodyB c = true) : B.pl ≤ 64 := by
 have hl := h.1.1
 unfold bodyB validB at hb
 simp only [Bool.and_eq_true] at hb
 have := of_decide_eq_true hb.1.1.1.1.1
 omega
set_option maxHeartbeats 1000000 in
theorem impl_IsHeld (B : Bd) (c : Bc) (a : Option Addr) (len cap : Nat) (L : List Int) (w : World) (h : IsB w B c) (hL : IsIs w a len cap L) :
  Calls Tryz.prog 159 #[B.v, .slice a len cap] w fun e w' => e = .returned (.bool (heldB c L)) ∧ Below w.heap.size w w' := by
 have ui := Tryz.underlying44
 have uim := Tryz.underlying40
 have A0 : Hid (At (w.alloc (BoxB B 44)) w.heap.size B.l) := Lib.hid At.new
 have B0 : Hid (Below w.heap.size w (w.alloc (BoxB B 44))) := Lib.hid ((Below.refl _ _).alloc (Nat.le_refl _) _)
 have HL := Lib.hid (hL.below B0.out)
 have hpl := h.1.1
 have JV := Lib.hid (impl_ValidBody B c _ (h.below B0.out))
 unfold heldB
 rw [hpl]
 cases hv : bodyB c
 ·rw [hv] at JV
  clear hL h hv
  go_enter Tryz.func159, Tryz.ntmps159
  go_wp2_with fail
  change Calls _ _ _ (w.alloc (BoxB B 44)) _
  generalize (w.alloc (BoxB B 44)) = W at *
  refine JV.out.mono ?_
  rintro e w1 ⟨rfl, hB1⟩
  have B1 := Lib.hid (B0.out.trans (hB1.mono B0.out.size))
  clear hB1
  go_wp2
  go_ret
  exact ⟨rfl, B1.out⟩
 ·have h64 := bodyB_pl h hv
  rw [hv] at JV
  clear hL h hv
  go_enter Tryz.func159, Tryz.ntmps159
  go_wp2_with fail
  change Calls _ _ _ (w.alloc (BoxB B 44)) _
  generalize (w.alloc (BoxB B 44)) = W at *
  refine JV.out.mono ?_
  rintro e w1 ⟨rfl, hB1⟩
  have k0 := A0.out.below hB1 0 _ rfl
  have k1 := A0.out.below hB1 1 _ rfl
  have HL1 := Lib.hid (HL.out.below hB1)
  have B1 := Lib.hid (B0.out.trans (hB1.mono B0.out.size))
  clear hB1
  go_wp2_with fail
  refine (impl_isIndexSet _ _ _ _ _ _ HL1.out (by omega)).mono ?_
  rintro e w2 ⟨rfl, hw2⟩
  rw [hw2]
  clear hw2 w2
  go_wp2
  go_ret
  exact ⟨rfl, B1.out⟩
theorem l05Held (pb : Nat) (B : Bd) (c : Bc) (a : Option Addr) (len cap : Nat) (L : List Int) (w : World) (k0 : w.cell? ⟨pb, 0, none⟩ = some (.slice B.pa B.pl B.pc)) (hm : B.pl ≤ 9223372036854775807) (hL : IsIs w a len cap L) :
  Calls Tryz.prog 116 #[.pointer (some ⟨pb, 0, none⟩), .slice a len cap] w fun e w' => e = .returned (.bool (riseB B.pl L)) ∧ ∃ m, w' = w.drewN m := by
 have ui := Tryz.underlying44
 have uim := Tryz.underlying40
 have htw : IntKind.i64.wrap ((B.pl : Int) - 1) = (B.pl : Int) - 1 := IntWalk.i64_in _ (by omega)
 have J := Lib.hid (fun m => l00Rises a len cap B.pl L (w.drewN m) hL.drew)
 clear hL
 go_enter Tryz.func116, Tryz.ntmps116
 go_wp2_with fail
 refine (J.out 0).mono ?_
 rintro e w1 ⟨rfl, m, hw1⟩
 rw [hw1]
 clear hw1 w1
 go_wp2
 go_ret
 exact ⟨rfl, ⟨_, rfl⟩⟩
end Go.Proofs.YtabccmobmppdnaaGreat
namespace Go.Proofs.YtabccmobmppdnaaGreat
open Go Fk Go.RowKit
set_option linter.unusedVariables false
set_option maxRecDepth 16000
def zeroAt (X : List C3) (i : Int) : List C3 := X.set i.toNat (some 0, some 0, some 0)
def stillF (X : List C3) (L : List Int) : List C3 := L.foldl zeroAt X
theorem stillF_snoc (X : List C3) (L : List Int) (k : Nat) (hk : k < L.length) : stillF X (L.take (k + 1)) = zeroAt (stillF X (L.take k)) (L.getD k 0) := by
 unfold stillF
 rw [← List.take_append_getElem hk, List.foldl_append]
 show zeroAt _ L[k] = _
 rw [List.getD, List.getElem?_eq_getElem hk]
 rfl
theorem stillF_len (X : List C3) (L : List Int) : (stillF X L).length = X.length := by
 unfold stillF
 induction L generalizing X with
 | nil => rfl
 | cons z L ih => rw [List.foldl_cons, ih]; unfold zeroAt; rw [List.length_set]
theorem fz0 : F3 0 0 0 ((some 0, some 0, some 0) : C3) := ⟨⟨by decide, by decide⟩, ⟨by decide, by decide⟩, ⟨by decide, by decide⟩⟩
abbrev HbL (B : Bd) (ha la : Option Addr) (hl hc ln lc : Nat) : List Value := [.slice B.pa B.pl B.pc, .slice B.ta B.tl B.tc, .slice B.sa B.sl B.sc, .float .f32 B.film, .float .f32 B.bend, .slice B.wa B.wl B.wc, .float .f32 B.x, .float .f32 B.y, .float .f32 B.z, .slice ha hl hc, .slice la ln lc]
abbrev HbV (B : Bd) (ha la : Option Addr) (hl hc ln lc : Nat) : Value := .agg #[.slice B.pa B.pl B.pc, .slice B.ta B.tl B.tc, .slice B.sa B.sl B.sc, .float .f32 B.film, .float .f32 B.bend, .slice B.wa B.wl B.wc, .float .f32 B.x, .float .f32 B.y, .float .f32 B.z, .slice ha hl hc, .slice la ln lc]
set_option maxHeartbeats 4000000 in
theorem impl_still (B : Bd) (ha la : Option Addr) (hl hc ln lc : Nat) (L : List Int) (w W : World) (g pl cap : Nat) (X : List C3) (S : St w [] g X W) (hX : X.length = pl) (hL : IsIs w ha hl hc L) (hr : ∀ k, k < L.length → inB pl (L.getD k 0) = true) (hp : pl ≤ 1048576) :
  Calls Tryz.prog 130 #[HbV B ha la hl hc ln lc, .slice (some ⟨g, 0, none⟩) pl cap] W fun e w' => e = .returned (.tuple #[]) ∧ St w [] g (stillF X L) w' := by
 have uh := Tryz.underlying107
 have uv := Tryz.underlying42
 have hll := hL.1
 have hm : hl ≤ 9223372036854775807 := by have h1 := hL.2.1; have h2 := hL.2.2.1; unfold maxLen at h2; omega
 have S0 := Lib.hid (S.box (vs := HbL B ha la hl hc ln lc) (t := 107))
 have HL := Lib.hid hL
 have HR := Lib.hid hr
 have HX := Lib.hid hX
 clear S hL hr hX
 go_enter Tryz.func130, Tryz.ntmps130
 go_wp2
 generalize hW : (W.alloc (.cells #[.slice B.pa B.pl B.pc, .slice B.ta B.tl B.tc, .slice B.sa B.sl B.sc, .float .f32 B.film, .float .f32 B.bend, .slice B.wa B.wl B.wc, .float .f32 B.x, .float .f32 B.y, .float .f32 B.z, .slice ha hl hc, .slice la ln lc] 107)) = W1
 have S1 := Lib.hid S0.out.drop
 rw [show (W.alloc (.cells (HbL B ha la hl hc ln lc).toArray 107)) = W1 from hW] at S1
 clear S0 hW
 go_loopw [9] (fun i w' => ∃ k : Nat, k ≤ hl ∧ i = .int .i64 k ∧ Aside (St w [] g (stillF X (L.take k)) w')) (fun i _ => hl - (intOf i).toNat)
 case atStart => exact ⟨0, Nat.zero_le _, rfl, S1.out⟩
 case round =>
  obtain ⟨k, hk, rfl, hA⟩ := hrel
  have S2 := Lib.hid hA.out
  clear hA S1
  by_cases hlt : k < hl
  ·obtain ⟨b, o, rfl, hcell⟩ := (HL.out.below S2.out.bel).some (by omega)
   have hc0 := hcell k hlt
   have hk0 : (0 : Int) ≤ (k : Int) := by omega
   have hk1 : (k : Int) < (hl : Int) := by omega
   have hin := HR.out k (by omega)
   have HSN := Lib.hid (stillF_snoc X L k (by omega))
   clear hcell
   generalize L.getD k 0 = z at *
   have hz := of_decide_eq_true hin
   obtain ⟨j, rfl⟩ : ∃ j : Nat, z = (j : Int) := ⟨z.toNat, by omega⟩
   have hlx : (stillF X (L.take k)).length = pl := by rw [stillF_len]; exact HX.out
   have hj : j < (stillF X (L.take k)).length := by omega
   obtain ⟨u0, u1, u2, ⟨z0, z1, z2⟩, fu⟩ := S2.out.own.at hj
   have k0' := S2.out.own.2.1 (j * 3)
   have k1' := S2.out.own.2.1 (j * 3 + 1)
   have k2' := S2.out.own.2.1 (j * 3 + 2)
   have hj0 : (0 : Int) ≤ (j : Int) := by omega
   have hj1 : (j : Int) < (pl : Int) := by omega
   have S3 := Lib.hid (S2.out.put hj fz0)
   have hzz : zeroAt (stillF X (L.take k)) (j : Int) = (stillF X (L.take k)).set j (some 0, some 0, some 0) := rfl
   rw [← hzz, ← HSN.out] at S3
   clear hin hz hlx hj fu hzz HSN
   go_wp2
   go_roundw
   case rel => exact ⟨k + 1, by omega, by go_num, S3.out⟩
   case measure => simp [intOf]; omega
  ·obtain rfl : k = hl := by omega
   have S9 : Hid (St w [] g (stillF X L) wr) := Lib.hid (by have := S2.out; rwa [List.take_of_length_le (by omega)] at this)
   go_wp2
   exact ⟨rfl, .tuple #[], by first | exact results_none rfl _ _ _ | rfl | kernel_rfl, rfl, S9.out⟩
end Go.Proofs.YtabccmobmppdnaaGreat
namespace Go.Proofs.YtabccmobmppdnaaGreat
open Go Fk Go.RowKit
set_option linter.unusedVariables false
set_option maxRecDepth 16000
theorem rise_in {n : Nat} {L : List Int} (h : riseB n L = true) {k : Nat} (hk : k < L.length) : inB n (L.getD k 0) = true := by
 have := rise_at h hk
 unfold stepI at this
 simp only [Bool.and_eq_true] at this
 exact this.1
end Go.Proofs.YtabccmobmppdnaaGreat
namespace Go.Proofs.YtabccmobmppdnaaGreat
open Go Fk Go.RowKit
set_option linter.unusedVariables false
set_option maxRecDepth 16000
theorem Bx.setAll {w w1 : World} {L : List (Nat × List Value)} {b : Nat} {l vs : List Value} (h : Bx w ((b, l) :: L) w1) (hd : ∀ b' l', (b', l') ∈ L → b ≠ b') (hl : vs.length = l.length) : Bx w ((b, vs) :: L) (setL w1 b 0 vs) := by
 have hb := h.low (.head _)
 refine ⟨setL_below b hb vs w1 0 h.1, fun b' l' hm => ?_⟩
 rcases List.mem_cons.1 hm with e | hm
 ·cases e
  have hh := h.2 b l (.head _)
  refine ⟨fun i v hi => ?_, fun i => by rw [setL_frozen]; exact hh.2.1 i, by rw [setL_size]; exact hh.2.2.1, hb⟩
  have hlt : i < vs.length := (List.getElem?_eq_some_iff.1 hi).1
  have := setL_in b vs w1 0 (fun j hj => ⟨l.getD j undef, by
   rw [Nat.zero_add]
   exact hh.1 j _ (by rw [List.getD, List.getElem?_eq_getElem (by omega)]; rfl)⟩) i hlt
  rw [Nat.zero_add] at this
  rw [this]; exact hi
 ·have hh := h.2 b' l' (.tail _ hm)
  refine ⟨fun i v hi => by rw [setL_far b b' i (hd b' l' hm)]; exact hh.1 i v hi, fun i => by rw [setL_frozen]; exact hh.2.1 i, by rw [setL_size]; exact hh.2.2.1, hh.2.2.2⟩
def EnB (base : Nat) (w : World) (a : Option Addr) (es : List En) : Prop := ∀ j, j < es.length → ∃ g u, a = some ⟨g, 0, none⟩ ∧ base ≤ g ∧ w.cell? ⟨g, j, none⟩ = some u ∧ (es.getD j (.sp s0)).Is u
theorem EnL.low' {base : Nat} {w : World} {v : Value} {es : List En} (h : EnL base w v es) : ∃ a c, v = .slice a es.length c ∧ EnB base w a es := by
 obtain ⟨vals, h1, h2⟩ := h
 have h1' := h1
 rcases h1.2 with ⟨rfl, h0⟩ | ⟨g, cap, cur, rfl, hb, _⟩
 ·exact ⟨none, 0, by rw [h0], fun j hj => absurd hj (by omega)⟩
 ·refine ⟨_, _, rfl, fun j hj => ?_⟩
  obtain ⟨u, e1, e2⟩ := h2 j hj
  exact ⟨g, u, rfl, hb, by rw [h1'.cellAt j (by omega)]; exact e1, e2⟩
theorem EnB.below {base : Nat} {w w' : World} {a : Option Addr} {es : List En} (h : EnB base w a es) (hB : Below w.heap.size w w') : EnB base w' a es := fun j hj => by
 obtain ⟨g, u, e, h1, h2, h3⟩ := h j hj
 exact ⟨g, u, e, h1, cell_below hB h2, h3⟩
theorem EnB.low {base base' : Nat} {w : World} {a : Option Addr} {es : List En} (h : EnB base w a es) (hb : base' ≤ base) : EnB base' w a es := fun j hj => by
 obtain ⟨g, u, e, h1, h2, h3⟩ := h j hj
 exact ⟨g, u, e, Nat.le_trans hb h1, h2, h3⟩
theorem EnB.ens {base : Nat} {w : World} {a : Option Addr} {es : List En} (h : EnB base w a es) : EnS w a es := fun j hj => by
 obtain ⟨g, u, e, h1, h2, h3⟩ := h j hj
 exact ⟨g, u, e, h2, h3⟩
theorem EnB.setB {base b : Nat} {w : World} {a : Option Addr} {es : List En} {vs : List Value} (h : EnB base w a es) (hb : b < base) : EnB base (setL w b 0 vs) a es := fun j hj => by
 obtain ⟨g, u, e, h1, h2, h3⟩ := h j hj
 exact ⟨g, u, e, h1, by rw [setL_far b g j (by omega)]; exact h2, h3⟩
abbrev Z11 : List Value := [.slice none 0 0, .slice none 0 0, .slice none 0 0, .float .f32 0, .float .f32 0, .slice none 0 0, .float .f32 0, .float .f32 0, .float .f32 0, .slice none 0 0, .slice none 0 0]
set_option maxHeartbeats 4000000 in
theorem holdBody_no (B : Bd) (c : Bc) (a : Option Addr) (len cap : Nat) (L : List Int) (w : World) (h : IsB w B c) (hL : IsIs w a len cap L) (hh : heldB c L = false) :
  Calls Tryz.prog 113 #[B.v, .slice a len cap] w fun e w' => e = .returned (.tuple #[.agg Z11.toArray, .bool false]) ∧ Below w.heap.size w w' := by
 have uib := Tryz.underlying44
 have uh := Tryz.underlying107
 have bx1 := (Bx.nil w).box (vs := B.l) (t := 44)
 have bx2 := bx1.box (vs := Z11) (t := 107)
 simp at bx2
 have BX := Lib.hid bx2
 have J := Lib.hid (fun w1 h1 h2 => impl_IsHeld B c a len cap L w1 h1 h2)
 rw [hh] at J
 have H := Lib.hid h
 have HL := Lib.hid hL
 clear h hL hh bx1 bx2
 go_enter Tryz.func113, Tryz.ntmps113
 go_wp2_with fail
 generalize hW : (w.alloc (BoxB B 44)).alloc (.cells #[.slice none 0 0, .slice none 0 0, .slice none 0 0, .float .f32 0, .float .f32 0, .slice none 0 0, .float .f32 0, .float .f32 0, .float .f32 0, .slice none 0 0, .slice none 0 0] 107) = W
 have BX1 : Hid (Bx w [(w.heap.size + 1, Z11), (w.heap.size, B.l)] W) := Lib.hid (hW ▸ BX.out)
 clear BX hW
 refine (J.out W (H.out.below BX1.out.bel) (HL.out.below BX1.out.bel)).mono ?_
 rintro e w1 ⟨rfl, hB1⟩
 have BX2 := Lib.hid (BX1.out.call hB1)
 have BX3 := Lib.hid (Bx.setAll (vs := Z11) BX2.out (fun b' l' hm => by simp only [List.mem_cons, Prod.mk.injEq, List.not_mem_nil, or_false] at hm; omega) rfl)
 simp only [setL, Nat.zero_add, Nat.reduceAdd] at BX3
 clear hB1
 have q0 := (BX2.out.mem (.head _)) 0 _ rfl
 have q1 := (BX2.out.mem (.head _)) 1 _ rfl
 have q2 := (BX2.out.mem (.head _)) 2 _ rfl
 have q3 := (BX2.out.mem (.head _)) 3 _ rfl
 have q4 := (BX2.out.mem (.head _)) 4 _ rfl
 have q5 := (BX2.out.mem (.head _)) 5 _ rfl
 have q6 := (BX2.out.mem (.head _)) 6 _ rfl
 have q7 := (BX2.out.mem (.head _)) 7 _ rfl
 have q8 := (BX2.out.mem (.head _)) 8 _ rfl
 have q9 := (BX2.out.mem (.head _)) 9 _ rfl
 have q10 := (BX2.out.mem (.head _)) 10 _ rfl
 have p0 := BX2.out.free (.head _) 0
 have p1 := BX2.out.free (.head _) 1
 have p2 := BX2.out.free (.head _) 2
 have p3 := BX2.out.free (.head _) 3
 have p4 := BX2.out.free (.head _) 4
 have p5 := BX2.out.free (.head _) 5
 have p6 := BX2.out.free (.head _) 6
 have p7 := BX2.out.free (.head _) 7
 have p8 := BX2.out.free (.head _) 8
 have p9 := BX2.out.free (.head _) 9
 have p10 := BX2.out.free (.head _) 10
 go_wp2
 clear q0 q1 q2 q3 q4 q5 q6 q7 q8 q9 q10
 clear p0 p1 p2 p3 p4 p5 p6 p7 p8 p9 p10
 have m0 := (BX3.out.mem (.head _)) 0 _ rfl
 have m1 := (BX3.out.mem (.head _)) 1 _ rfl
 have m2 := (BX3.out.mem (.head _)) 2 _ rfl
 have m3 := (BX3.out.mem (.head _)) 3 _ rfl
 have m4 := (BX3.out.mem (.head _)) 4 _ rfl
 have m5 := (BX3.out.mem (.head _)) 5 _ rfl
 have m6 := (BX3.out.mem (.head _)) 6 _ rfl
 have m7 := (BX3.out.mem (.head _)) 7 _ rfl
 have m8 := (BX3.out.mem (.head _)) 8 _ rfl
 have m9 := (BX3.out.mem (.head _)) 9 _ rfl
 have m10 := (BX3.out.mem (.head _)) 10 _ rfl
 refine bodyPost_ret (v := .tuple #[.agg Z11.toArray, .bool false]) (by simp [results, Tryz.results113, go_sem, m0, m1, m2, m3, m4, m5, m6, m7, m8, m9, m10]) rfl ?_
 exact ⟨rfl, BX3.out.bel⟩
set_option maxHeartbeats 4000000 in
theorem holdBody_yesB (B : Bd) (c : Bc) (a : Option Addr) (len cap : Nat) (L : List Int) (w : World) (h : IsB w B c) (hL : IsIs w a len cap L) (hh : heldB c L = true) :
  Calls Tryz.prog 113 #[B.v, .slice a len cap] w fun e w' => ∃ la lc, e = .returned (.tuple #[HbV B a la len cap (ens c).length lc, .bool true]) ∧ EnB w.heap.size w' la (ens c) ∧ Below w.heap.size w w' := by
 have uib := Tryz.underlying44
 have uh := Tryz.underlying107
 have bx1 := (Bx.nil w).box (vs := B.l) (t := 44)
 have bx2 := bx1.box (vs := Z11) (t := 107)
 simp at bx2
 have BX := Lib.hid bx2
 have J := Lib.hid (fun w1 h1 h2 => impl_IsHeld B c a len cap L w1 h1 h2)
 have hb : bodyB c = true := by unfold heldB at hh; simp only [Bool.and_eq_true] at hh; exact hh.1
 have JE := Lib.hid (fun w1 h1 => impl_energies B c w1 h1 hb)
 rw [hh] at J
 have H := Lib.hid h
 have HL := Lib.hid hL
 clear h hL hh bx1 bx2 hb
 generalize ens c = es at *
 go_enter Tryz.func113, Tryz.ntmps113
 go_wp2_with fail
 generalize hW : (w.alloc (BoxB B 44)).alloc (.cells #[.slice none 0 0, .slice none 0 0, .slice none 0 0, .float .f32 0, .float .f32 0, .slice none 0 0, .float .f32 0, .float .f32 0, .float .f32 0, .slice none 0 0, .slice none 0 0] 107) = W
 have BX1 : Hid (Bx w [(w.heap.size + 1, Z11), (w.heap.size, B.l)] W) := Lib.hid (hW ▸ BX.out)
 clear BX hW
 refine (J.out W (H.out.below BX1.out.bel) (HL.out.below BX1.out.bel)).mono ?_
 rintro e w1 ⟨rfl, hB1⟩
 have BX2 := Lib.hid (BX1.out.call hB1)
 have LT : Hid (w.heap.size + 1 < w1.heap.size) := Lib.hid ((BX2.out.2 _ _ (.head _)).2.2.1)
 clear hB1 BX1 J
 go_wp2_with fail
 refine Reg6.wp_region_mix (s := 5) (C := fun w' => Below w1.heap.size w1 w') (D := fun _ w' => ∃ (wp : World) (la : Option Addr) (lc : Nat), Below w1.heap.size w1 wp ∧ EnB w1.heap.size wp la es ∧ w' = setL wp (w.heap.size + 1) 0 (HbL B a la len cap es.length lc)) (G := fun w1 w2 => Below w1.heap.size w1 w2)
  (Rv := fun i v => match i with | 0 => v = B.v | 1 => v = .slice a len cap | 2 => v = B.v | 6 => v = .bool true | _ => True)
  (Rw := fun i v w' => match i with
   | 3 => ∃ la lc, v = .slice la es.length lc ∧ EnB w1.heap.size w' la es
   | 4 => ∃ la lc, v = HbV B a la len cap es.length lc ∧ EnB w1.heap.size w' la es
   | _ => True) [false, false, false, false, false, true, false, false, false, false, false, true, true, true, true, true]
  (by kernel_rfl) (by kernel_rfl) (by kernel_rfl) ?_ (below_drewN (Below.refl _ _) 1) ?_ ?_
 ·intro j v w1 w2 hC hG hR
  match j with
  | 0 => trivial
  | 1 => trivial
  | 2 => trivial
  | 3 => obtain ⟨la, lc, e, h1⟩ := hR; exact ⟨la, lc, e, h1.below hG⟩
  | 4 => obtain ⟨la, lc, e, h1⟩ := hR; exact ⟨la, lc, e, h1.below hG⟩
  | 5 => trivial
  | 6 => trivial
  | _ + 7 => trivial
 ·refine ⟨?_, ?_, ?_, ?_, ?_, ?_, ?_, trivial⟩
  ·refine Reg6.Obl.early rfl (by kernel_rfl) ?_
   rintro a' wq HC hx hd K hK
   replace HC := Lib.hid HC
   have t2 : a'.tmps[2]?.getD undef = .pointer (some ⟨w.heap.size, 0, none⟩) := Reg.slot_val (hx 2 (by kernel_rfl))
   have BXw := BX2.out.call HC.out
   have y0 := (BXw.mem (.tail _ (.head _))) 0 _ rfl
   have y1 := (BXw.mem (.tail _ (.head _))) 1 _ rfl
   have y2 := (BXw.mem (.tail _ (.head _))) 2 _ rfl
   have y3 := (BXw.mem (.tail _ (.head _))) 3 _ rfl
   have y4 := (BXw.mem (.tail _ (.head _))) 4 _ rfl
   have y5 := (BXw.mem (.tail _ (.head _))) 5 _ rfl
   have y6 := (BXw.mem (.tail _ (.head _))) 6 _ rfl
   have y7 := (BXw.mem (.tail _ (.head _))) 7 _ rfl
   have y8 := (BXw.mem (.tail _ (.head _))) 8 _ rfl
   go_simp
   exact hK _ _ rfl trivial HC.out (Below.refl _ _)
  ·refine Reg6.Obl.early rfl (by kernel_rfl) ?_
   rintro a' wq HC hx hd K hK
   replace HC := Lib.hid HC
   have t1 : a'.tmps[1]?.getD undef = .slice a len cap := Reg.slot_val (hx 1 (by kernel_rfl))
   go_simp
   exact hK _ _ rfl trivial HC.out (Below.refl _ _)
  ·refine Reg6.Obl.early rfl (by kernel_rfl) ?_
   rintro a' wq HC hx hd K hK
   replace HC := Lib.hid HC
   have t2 : a'.tmps[2]?.getD undef = .pointer (some ⟨w.heap.size, 0, none⟩) := Reg.slot_val (hx 2 (by kernel_rfl))
   have BXw := BX2.out.call HC.out
   have y0 := (BXw.mem (.tail _ (.head _))) 0 _ rfl
   have y1 := (BXw.mem (.tail _ (.head _))) 1 _ rfl
   have y2 := (BXw.mem (.tail _ (.head _))) 2 _ rfl
   have y3 := (BXw.mem (.tail _ (.head _))) 3 _ rfl
   have y4 := (BXw.mem (.tail _ (.head _))) 4 _ rfl
   have y5 := (BXw.mem (.tail _ (.head _))) 5 _ rfl
   have y6 := (BXw.mem (.tail _ (.head _))) 6 _ rfl
   have y7 := (BXw.mem (.tail _ (.head _))) 7 _ rfl
   have y8 := (BXw.mem (.tail _ (.head _))) 8 _ rfl
   go_simp
   exact hK _ _ rfl trivial HC.out (Below.refl _ _)
  ·refine Reg6.Obl.early rfl (by kernel_rfl) ?_
   rintro a' wq HC hx hd K hK
   replace HC := Lib.hid HC
   have t13 : a'.tmps[13]?.getD undef = B.v := Reg.slot_val (hd 2 13 (by kernel_rfl) rfl).1
   go_simp
   refine (JE.out wq (H.out.below (BX2.out.call HC.out).bel)).mono ?_
   rintro en w2 ⟨v, rfl, hv, hB2⟩
   obtain ⟨la, lc, rfl, hE⟩ := hv.low'
   have hE' : EnB w1.heap.size w2 la es := fun j hj => by
    obtain ⟨g, u, e, h1, h2⟩ := hE j hj
    exact ⟨g, u, e, Nat.le_trans HC.out.size h1, h2⟩
   exact hK _ _ trivial ⟨la, lc, rfl, hE'⟩ (HC.out.trans (hB2.mono HC.out.size)) hB2
  ·refine Reg6.Obl.early rfl (by kernel_rfl) ?_
   rintro a' wq HC hx hd K hK
   replace HC := Lib.hid HC
   have t11 : a'.tmps[11]?.getD undef = B.v := Reg.slot_val (hd 0 11 (by kernel_rfl) rfl).1
   have t12 : a'.tmps[12]?.getD undef = .slice a len cap := Reg.slot_val (hd 1 12 (by kernel_rfl) rfl).1
   obtain ⟨la, lc, g14, hE⟩ := (hd 3 14 (by kernel_rfl) rfl).2
   have t14 := Reg.slot_val g14
   have HE := Lib.hid hE
   clear g14 hE
   go_simp
   exact hK _ _ trivial ⟨la, lc, rfl, HE.out⟩ HC.out (Below.refl _ _)
  ·refine Reg6.Obl.store rfl ?_
   rintro a' wq HC hx hd K hK
   replace HC := Lib.hid HC
   have t4 : a'.tmps[4]?.getD undef = .pointer (some ⟨w.heap.size + 1, 0, none⟩) := Reg.slot_val (hx 4 (by kernel_rfl))
   obtain ⟨la, lc, g15, hE⟩ := (hd 4 15 (by kernel_rfl) rfl).2
   have t15 := Reg.slot_val g15
   have HS : Hid (∃ (wp : World) (la' : Option Addr) (lc' : Nat), Below w1.heap.size w1 wp ∧ EnB w1.heap.size wp la' es ∧ setL wq (w.heap.size + 1) 0 (HbL B a la len cap es.length lc) = setL wp (w.heap.size + 1) 0 (HbL B a la' len cap es.length lc')) := Lib.hid ⟨wq, la, lc, HC.out, hE, rfl⟩
   have TT := BX2.out.call HC.out
   have y0 := (TT.mem (.head _)) 0 _ rfl
   have f0 := TT.free (.head _) 0
   have y1 := (TT.mem (.head _)) 1 _ rfl
   have f1 := TT.free (.head _) 1
   have y2 := (TT.mem (.head _)) 2 _ rfl
   have f2 := TT.free (.head _) 2
   have y3 := (TT.mem (.head _)) 3 _ rfl
   have f3 := TT.free (.head _) 3
   have y4 := (TT.mem (.head _)) 4 _ rfl
   have f4 := TT.free (.head _) 4
   have y5 := (TT.mem (.head _)) 5 _ rfl
   have f5 := TT.free (.head _) 5
   have y6 := (TT.mem (.head _)) 6 _ rfl
   have f6 := TT.free (.head _) 6
   have y7 := (TT.mem (.head _)) 7 _ rfl
   have f7 := TT.free (.head _) 7
   have y8 := (TT.mem (.head _)) 8 _ rfl
   have f8 := TT.free (.head _) 8
   have y9 := (TT.mem (.head _)) 9 _ rfl
   have f9 := TT.free (.head _) 9
   have y10 := (TT.mem (.head _)) 10 _ rfl
   have f10 := TT.free (.head _) 10
   clear g15 hE TT
   go_simp
   exact hK _ HS.out
  ·refine Reg6.Obl.late rfl (by kernel_rfl) ?_
   rintro a' wq hx hd K hK
   go_simp
   exact hK _ rfl (fun w hD => hD)
 rintro f w2 hD hd
 obtain ⟨wp, la, lc, hB1, hE, rfl⟩ := hD
 have f5 : f 5 = .bool true := hd 6 5 rfl
 simp only [Reg.mixL, Nat.zero_add, Nat.reduceAdd, f5]
 have hlt := LT.out
 have BX3 := Lib.hid (Bx.setAll (vs := HbL B a la len cap es.length lc) (BX2.out.call hB1) (fun b' l' hm => by simp only [List.mem_cons, Prod.mk.injEq, List.not_mem_nil, or_false] at hm; omega) rfl)
 have HE := Lib.hid ((EnB.setB (b := w.heap.size + 1) (vs := HbL B a la len cap es.length lc) hE (by omega)).low (base' := w.heap.size) (by omega))
 clear hE hB1 hd
 generalize (setL wp (w.heap.size + 1) 0 (HbL B a la len cap es.length lc)) = W2 at *
 have m0 := (BX3.out.mem (.head _)) 0 _ rfl
 have m1 := (BX3.out.mem (.head _)) 1 _ rfl
 have m2 := (BX3.out.mem (.head _)) 2 _ rfl
 have m3 := (BX3.out.mem (.head _)) 3 _ rfl
 have m4 := (BX3.out.mem (.head _)) 4 _ rfl
 have m5 := (BX3.out.mem (.head _)) 5 _ rfl
 have m6 := (BX3.out.mem (.head _)) 6 _ rfl
 have m7 := (BX3.out.mem (.head _)) 7 _ rfl
 have m8 := (BX3.out.mem (.head _)) 8 _ rfl
 have m9 := (BX3.out.mem (.head _)) 9 _ rfl
 have m10 := (BX3.out.mem (.head _)) 10 _ rfl
 go_wp2
 refine bodyPost_ret (v := .tuple #[HbV B a la len cap es.length lc, .bool true]) (by simp [results, Tryz.results113, go_sem, m0, m1, m2, m3, m4, m5, m6, m7, m8, m9, m10]) rfl ?_
 exact ⟨la, lc, rfl, HE.out, BX3.out.bel⟩
theorem holdBody_yes (B : Bd) (c : Bc) (a : Option Addr) (len cap : Nat) (L : List Int) (w : World) (h : IsB w B c) (hL : IsIs w a len cap L) (hh : heldB c L = true) :
  Calls Tryz.prog 113 #[B.v, .slice a len cap] w fun e w' => ∃ la lc, e = .returned (.tuple #[HbV B a la len cap (ens c).length lc, .bool true]) ∧ EnS w' la (ens c) ∧ Below w.heap.size w w' :=
 (holdBody_yesB B c a len cap L w h hL hh).mono fun _ _ ⟨la, lc, e, hE, hB⟩ => ⟨la, lc, e, hE.ens, hB⟩
end Go.Proofs.YtabccmobmppdnaaGreat
namespace Go.Proofs.YtabccmobmppdnaaGreat
open Go Fk Go.RowKit
set_option linter.unusedVariables false
set_option maxRecDepth 16000
def RowsS (w : World) (la : Option Addr) (rows : List (Option Addr × Nat × Nat)) : Prop := ∀ j, j < rows.length → ∃ R, la = some ⟨R, 0, none⟩ ∧ w.cell? ⟨R, j, none⟩ = some (.slice (rows.getD j (none, 0, 0)).1 (rows.getD j (none, 0, 0)).2.1 (rows.getD j (none, 0, 0)).2.2)
theorem RowsS.below {w w' : World} {la : Option Addr} {rows : List (Option Addr × Nat × Nat)} (h : RowsS w la rows) (hB : Below w.heap.size w w') : RowsS w' la rows := fun j hj => by
 obtain ⟨R, e, h1⟩ := h j hj
 exact ⟨R, e, cell_below hB h1⟩
def lensB (n : Nat) (rows : List (Option Addr × Nat × Nat)) : Bool := rows.all fun r => decide (r.2.1 = n)
theorem lens_not {n : Nat} {rows : List (Option Addr × Nat × Nat)} {k : Nat} (hk : k < rows.length) (h : (rows.getD k (none, 0, 0)).2.1 ≠ n) : lensB n rows = false := by
 rw [Bool.eq_false_iff]
 intro hh
 have := List.all_eq_true.1 hh (rows[k]) (List.getElem_mem hk)
 rw [List.getD, List.getElem?_eq_getElem hk] at h
 exact h (of_decide_eq_true this)
theorem lens_all {n : Nat} {rows : List (Option Addr × Nat × Nat)} (h : ∀ j, j < rows.length → (rows.getD j (none, 0, 0)).2.1 = n) : lensB n rows = true := by
 unfold lensB
 rw [List.all_eq_true]
 intro x hx
 obtain ⟨i, hi, rfl⟩ := List.mem_iff_getElem.1 hx
 have := h i hi
 rw [List.getD, List.getElem?_eq_getElem hi] at this
 exact decide_eq_true this
abbrev Z14 : List Value := [.slice none 0 0, .slice none 0 0, .slice none 0 0, .float .f32 0, .float .f32 0, .slice none 0 0, .float .f32 0, .float .f32 0, .float .f32 0, .slice none 0 0, .slice none 0 0, .float .f32 0, .float .f32 0, .slice none 0 0]
abbrev StL (B : Bd) (ha la : Option Addr) (hl hc ln lc x s : Nat) (fa : Option Addr) (fl fc : Nat) : List Value := [.slice B.pa B.pl B.pc, .slice B.ta B.tl B.tc, .slice B.sa B.sl B.sc, .float .f32 B.film, .float .f32 B.bend, .slice B.wa B.wl B.wc, .float .f32 B.x, .float .f32 B.y, .float .f32 B.z, .slice ha hl hc, .slice la ln lc, .float .f32 x, .float .f32 s, .slice fa fl fc]
abbrev StV (B : Bd) (ha la : Option Addr) (hl hc ln lc x s : Nat) (fa : Option Addr) (fl fc : Nat) : Value := .agg #[.slice B.pa B.pl B.pc, .slice B.ta B.tl B.tc, .slice B.sa B.sl B.sc, .float .f32 B.film, .float .f32 B.bend, .slice B.wa B.wl B.wc, .float .f32 B.x, .float .f32 B.y, .float .f32 B.z, .slice ha hl hc, .slice la ln lc, .float .f32 x, .float .f32 s, .slice fa fl fc]
def stfB (c : Bc) (L : List Int) (x : Nat) (rows : List (Option Addr × Nat × Nat)) : Bool := heldB c L && (sizeB x && lensB c.cs.length rows)
theorem Bx.re {w w1 : World} {L L' : List (Nat × List Value)} (h : Bx w L w1) (hs : ∀ x, x ∈ L' → x ∈ L) : Bx w L' w1 := ⟨h.1, fun b l hm => h.2 b l (hs _ hm)⟩
set_option maxHeartbeats 4000000 in
theorem stiff_no1 (B : Bd) (c : Bc) (a : Option Addr) (len cap : Nat) (L : List Int) (x : Nat) (la : Option Addr) (lc : Nat) (rows : List (Option Addr × Nat × Nat)) (w : World) (h : IsB w B c) (hL : IsIs w a len cap L) (hx' : x < 4294967296) (hR : RowsS w la rows) (hk : rows.length ≤ 1000) (hh : heldB c L = false) :
  Calls Tryz.prog 71 #[B.v, .slice a len cap, .float .f32 x, .slice la rows.length lc] w fun e w' => e = .returned (.tuple #[.agg Z14.toArray, .bool false]) ∧ Below w.heap.size w w' := by
 have uib := Tryz.underlying44
 have uim := Tryz.underlying40
 have uh := Tryz.underlying107
 have us := Tryz.underlying109
 have bx1 := (Bx.nil w).box (vs := B.l) (t := 44)
 have bx2 := bx1.box (vs := Z14) (t := 109)
 simp at bx2
 have BX := Lib.hid bx2
 have H := Lib.hid h
 have HL := Lib.hid hL
 have HR := Lib.hid hR
 have hm : rows.length ≤ 9223372036854775807 := by omega
 clear bx1 bx2
 have J := Lib.hid (fun w1 h1 h2 => holdBody_no B c a len cap L w1 h1 h2 hh)
 clear h hL hR hh
 go_enter Tryz.func71, Tryz.ntmps71
 go_wp2_with fail
 generalize hW : (w.alloc (BoxB B 44)).alloc (.cells #[.slice none 0 0, .slice none 0 0, .slice none 0 0, .float .f32 0, .float .f32 0, .slice none 0 0, .float .f32 0, .float .f32 0, .float .f32 0, .slice none 0 0, .slice none 0 0, .float .f32 0, .float .f32 0, .slice none 0 0] 109) = W
 have BX1 : Hid (Bx w [(w.heap.size + 1, Z14), (w.heap.size, B.l)] W) := Lib.hid (hW ▸ BX.out)
 have HWS0 : Hid (W.heap.size = w.heap.size + 2) := Lib.hid (by rw [← hW]; simp)
 clear BX hW
 refine (J.out W (H.out.below BX1.out.bel) (HL.out.below BX1.out.bel)).mono ?_
 rintro e w1 ⟨rfl, hB1⟩
 have BX2 := Lib.hid (BX1.out.call hB1)
 have LT : Hid (w.heap.size + 1 < w1.heap.size) := Lib.hid ((BX2.out.2 _ _ (.head _)).2.2.1)
 have BX3 := Lib.hid (BX2.out.box (vs := Z11) (t := 107))
 have hX : Below w1.heap.size w1 (w1.alloc (.cells (Z11).toArray 107)) := (Below.refl _ _).alloc (Nat.le_refl _) _
 have BX4 := Lib.hid (BX3.out.re (L' := [(w.heap.size + 1, Z14), (w1.heap.size, Z11), (w.heap.size, B.l)]) (fun x hx => by simp only [List.mem_cons, List.not_mem_nil, or_false] at hx ⊢; rcases hx with h | h | h <;> simp [h]))
 clear hB1 hX BX3 BX1 J
 have q0 := (BX4.out.mem (.head _)) 0 _ rfl
 have p0 := BX4.out.free (.head _) 0
 have q1 := (BX4.out.mem (.head _)) 1 _ rfl
 have p1 := BX4.out.free (.head _) 1
 have q2 := (BX4.out.mem (.head _)) 2 _ rfl
 have p2 := BX4.out.free (.head _) 2
 have q3 := (BX4.out.mem (.head _)) 3 _ rfl
 have p3 := BX4.out.free (.head _) 3
 have q4 := (BX4.out.mem (.head _)) 4 _ rfl
 have p4 := BX4.out.free (.head _) 4
 have q5 := (BX4.out.mem (.head _)) 5 _ rfl
 have p5 := BX4.out.free (.head _) 5
 have q6 := (BX4.out.mem (.head _)) 6 _ rfl
 have p6 := BX4.out.free (.head _) 6
 have q7 := (BX4.out.mem (.head _)) 7 _ rfl
 have p7 := BX4.out.free (.head _) 7
 have q8 := (BX4.out.mem (.head _)) 8 _ rfl
 have p8 := BX4.out.free (.head _) 8
 have q9 := (BX4.out.mem (.head _)) 9 _ rfl
 have p9 := BX4.out.free (.head _) 9
 have q10 := (BX4.out.mem (.head _)) 10 _ rfl
 have p10 := BX4.out.free (.head _) 10
 have q11 := (BX4.out.mem (.head _)) 11 _ rfl
 have p11 := BX4.out.free (.head _) 11
 have q12 := (BX4.out.mem (.head _)) 12 _ rfl
 have p12 := BX4.out.free (.head _) 12
 have q13 := (BX4.out.mem (.head _)) 13 _ rfl
 have p13 := BX4.out.free (.head _) 13
 have BZ := Lib.hid (Bx.setAll (vs := Z14) BX4.out (fun b' l' hm => by simp only [List.mem_cons, Prod.mk.injEq, List.not_mem_nil, or_false] at hm; have hz := LT.out; omega) rfl)
 simp only [setL, Nat.zero_add, Nat.reduceAdd] at BZ
 go_wp2
 clear q0 p0 q1 p1 q2 p2 q3 p3 q4 p4 q5 p5 q6 p6 q7 p7 q8 p8 q9 p9 q10 p10 q11 p11 q12 p12 q13 p13
 have m0 := (BZ.out.mem (.head _)) 0 _ rfl
 have m1 := (BZ.out.mem (.head _)) 1 _ rfl
 have m2 := (BZ.out.mem (.head _)) 2 _ rfl
 have m3 := (BZ.out.mem (.head _)) 3 _ rfl
 have m4 := (BZ.out.mem (.head _)) 4 _ rfl
 have m5 := (BZ.out.mem (.head _)) 5 _ rfl
 have m6 := (BZ.out.mem (.head _)) 6 _ rfl
 have m7 := (BZ.out.mem (.head _)) 7 _ rfl
 have m8 := (BZ.out.mem (.head _)) 8 _ rfl
 have m9 := (BZ.out.mem (.head _)) 9 _ rfl
 have m10 := (BZ.out.mem (.head _)) 10 _ rfl
 have m11 := (BZ.out.mem (.head _)) 11 _ rfl
 have m12 := (BZ.out.mem (.head _)) 12 _ rfl
 have m13 := (BZ.out.mem (.head _)) 13 _ rfl
 refine bodyPost_ret (v := .tuple #[.agg Z14.toArray, .bool false]) (by simp [results, Tryz.results71, go_sem, m0, m1, m2, m3, m4, m5, m6, m7, m8, m9, m10, m11, m12, m13]) rfl ?_
 exact ⟨rfl, BZ.out.bel⟩
set_option maxHeartbeats 4000000 in
theorem stiff_no2 (B : Bd) (c : Bc) (a : Option Addr) (len cap : Nat) (L : List Int) (x : Nat) (la : Option Addr) (lc : Nat) (rows : List (Option Addr × Nat × Nat)) (w : World) (h : IsB w B c) (hL : IsIs w a len cap L) (hx' : x < 4294967296) (hR : RowsS w la rows) (hk : rows.length ≤ 1000) (hh : heldB c L = true) (hs : sizeB x = false) :
  Calls Tryz.prog 71 #[B.v, .slice a len cap, .float .f32 x, .slice la rows.length lc] w fun e w' => e = .returned (.tuple #[.agg Z14.toArray, .bool false]) ∧ Below w.heap.size w w' := by
 have uib := Tryz.underlying44
 have uim := Tryz.underlying40
 have uh := Tryz.underlying107
 have us := Tryz.underlying109
 have bx1 := (Bx.nil w).box (vs := B.l) (t := 44)
 have bx2 := bx1.box (vs := Z14) (t := 109)
 simp at bx2
 have BX := Lib.hid bx2
 have H := Lib.hid h
 have HL := Lib.hid hL
 have HR := Lib.hid hR
 have hm : rows.length ≤ 9223372036854775807 := by omega
 clear bx1 bx2
 have J := Lib.hid (fun w1 h1 h2 => holdBody_yes B c a len cap L w1 h1 h2 hh)
 have JM := Lib.hid (fun w1 => impl_isMeasure x w1 hx')
 rw [hs] at JM
 generalize hn : (ens c).length = n at *
 clear h hL hR hh hn hs
 go_enter Tryz.func71, Tryz.ntmps71
 go_wp2_with fail
 generalize hW : (w.alloc (BoxB B 44)).alloc (.cells #[.slice none 0 0, .slice none 0 0, .slice none 0 0, .float .f32 0, .float .f32 0, .slice none 0 0, .float .f32 0, .float .f32 0, .float .f32 0, .slice none 0 0, .slice none 0 0, .float .f32 0, .float .f32 0, .slice none 0 0] 109) = W
 have BX1 : Hid (Bx w [(w.heap.size + 1, Z14), (w.heap.size, B.l)] W) := Lib.hid (hW ▸ BX.out)
 have HWS0 : Hid (W.heap.size = w.heap.size + 2) := Lib.hid (by rw [← hW]; simp)
 clear BX hW
 refine (J.out W (H.out.below BX1.out.bel) (HL.out.below BX1.out.bel)).mono ?_
 rintro e w1 ⟨ea, ec, rfl, hE, hB1⟩
 have BX2 := Lib.hid (BX1.out.call hB1)
 have LT : Hid (w.heap.size + 1 < w1.heap.size) := Lib.hid ((BX2.out.2 _ _ (.head _)).2.2.1)
 have BX3 := Lib.hid (BX2.out.box (vs := HbL B a ea len cap n ec) (t := 107))
 have hX : Below w1.heap.size w1 (w1.alloc (.cells (HbL B a ea len cap n ec).toArray 107)) := (Below.refl _ _).alloc (Nat.le_refl _) _
 have BX4 := Lib.hid (BX3.out.re (L' := [(w.heap.size + 1, Z14), (w1.heap.size, HbL B a ea len cap n ec), (w.heap.size, B.l)]) (fun x hx => by simp only [List.mem_cons, List.not_mem_nil, or_false] at hx ⊢; rcases hx with h | h | h <;> simp [h]))
 clear hB1 hX BX3 BX1 J hE
 go_wp2_with fail
 change Calls _ _ _ (w1.alloc (.cells (HbL B a ea len cap n ec).toArray 107)) _
 generalize (w1.alloc (.cells (HbL B a ea len cap n ec).toArray 107)) = W2 at *
 refine (JM.out W2).mono ?_
 rintro e w2 ⟨rfl, nd, hw⟩
 have BX5 := Lib.hid (BX4.out.drewN nd)
 rw [← hw] at BX5
 clear hw JM BX4
 have q0 := (BX5.out.mem (.head _)) 0 _ rfl
 have p0 := BX5.out.free (.head _) 0
 have q1 := (BX5.out.mem (.head _)) 1 _ rfl
 have p1 := BX5.out.free (.head _) 1
 have q2 := (BX5.out.mem (.head _)) 2 _ rfl
 have p2 := BX5.out.free (.head _) 2
 have q3 := (BX5.out.mem (.head _)) 3 _ rfl
 have p3 := BX5.out.free (.head _) 3
 have q4 := (BX5.out.mem (.head _)) 4 _ rfl
 have p4 := BX5.out.free (.head _) 4
 have q5 := (BX5.out.mem (.head _)) 5 _ rfl
 have p5 := BX5.out.free (.head _) 5
 have q6 := (BX5.out.mem (.head _)) 6 _ rfl
 have p6 := BX5.out.free (.head _) 6
 have q7 := (BX5.out.mem (.head _)) 7 _ rfl
 have p7 := BX5.out.free (.head _) 7
 have q8 := (BX5.out.mem (.head _)) 8 _ rfl
 have p8 := BX5.out.free (.head _) 8
 have q9 := (BX5.out.mem (.head _)) 9 _ rfl
 have p9 := BX5.out.free (.head _) 9
 have q10 := (BX5.out.mem (.head _)) 10 _ rfl
 have p10 := BX5.out.free (.head _) 10
 have q11 := (BX5.out.mem (.head _)) 11 _ rfl
 have p11 := BX5.out.free (.head _) 11
 have q12 := (BX5.out.mem (.head _)) 12 _ rfl
 have p12 := BX5.out.free (.head _) 12
 have q13 := (BX5.out.mem (.head _)) 13 _ rfl
 have p13 := BX5.out.free (.head _) 13
 have BZ := Lib.hid (Bx.setAll (vs := Z14) BX5.out (fun b' l' hm => by simp only [List.mem_cons, Prod.mk.injEq, List.not_mem_nil, or_false] at hm; have hz := LT.out; omega) rfl)
 simp only [setL, Nat.zero_add, Nat.reduceAdd] at BZ
 go_wp2
 clear q0 p0 q1 p1 q2 p2 q3 p3 q4 p4 q5 p5 q6 p6 q7 p7 q8 p8 q9 p9 q10 p10 q11 p11 q12 p12 q13 p13
 have m0 := (BZ.out.mem (.head _)) 0 _ rfl
 have m1 := (BZ.out.mem (.head _)) 1 _ rfl
 have m2 := (BZ.out.mem (.head _)) 2 _ rfl
 have m3 := (BZ.out.mem (.head _)) 3 _ rfl
 have m4 := (BZ.out.mem (.head _)) 4 _ rfl
 have m5 := (BZ.out.mem (.head _)) 5 _ rfl
 have m6 := (BZ.out.mem (.head _)) 6 _ rfl
 have m7 := (BZ.out.mem (.head _)) 7 _ rfl
 have m8 := (BZ.out.mem (.head _)) 8 _ rfl
 have m9 := (BZ.out.mem (.head _)) 9 _ rfl
 have m10 := (BZ.out.mem (.head _)) 10 _ rfl
 have m11 := (BZ.out.mem (.head _)) 11 _ rfl
 have m12 := (BZ.out.mem (.head _)) 12 _ rfl
 have m13 := (BZ.out.mem (.head _)) 13 _ rfl
 refine bodyPost_ret (v := .tuple #[.agg Z14.toArray, .bool false]) (by simp [results, Tryz.results71, go_sem, m0, m1, m2, m3, m4, m5, m6, m7, m8, m9, m10, m11, m12, m13]) rfl ?_
 exact ⟨rfl, BZ.out.bel⟩
set_option maxHeartbeats 4000000 in
theorem stiff_yes (B : Bd) (c : Bc) (a : Option Addr) (len cap : Nat) (L : List Int) (x : Nat) (la : Option Addr) (lc : Nat) (rows : List (Option Addr × Nat × Nat)) (w : World) (h : IsB w B c) (hL : IsIs w a len cap L) (hx' : x < 4294967296) (hR : RowsS w la rows) (hk : rows.length ≤ 1000) (hh : heldB c L = true) (hs : sizeB x = true) :
  Calls Tryz.prog 71 #[B.v, .slice a len cap, .float .f32 x, .slice la rows.length lc] w fun e w' => (lensB B.pl rows = true → ∃ ea ec, e = .returned (.tuple #[StV B a ea len cap (ens c).length ec x 0 none 0 0, .bool true]) ∧ EnB w.heap.size w' ea (ens c) ∧ Below w.heap.size w w') ∧ (lensB B.pl rows = false → e = .returned (.tuple #[.agg Z14.toArray, .bool false]) ∧ Below w.heap.size w w') := by
 have uib := Tryz.underlying44
 have uim := Tryz.underlying40
 have uh := Tryz.underlying107
 have us := Tryz.underlying109
 have bx1 := (Bx.nil w).box (vs := B.l) (t := 44)
 have bx2 := bx1.box (vs := Z14) (t := 109)
 simp at bx2
 have BX := Lib.hid bx2
 have H := Lib.hid h
 have HL := Lib.hid hL
 have HR := Lib.hid hR
 have hm : rows.length ≤ 9223372036854775807 := by omega
 clear bx1 bx2
 have J := Lib.hid (fun w1 h1 h2 => holdBody_yesB B c a len cap L w1 h1 h2 hh)
 have JM := Lib.hid (fun w1 => impl_isMeasure x w1 hx')
 rw [hs] at JM
 generalize ens c = es at *
 generalize hn : es.length = n at *
 obtain ⟨kn, hkn⟩ : ∃ kn, kn = rows.length := ⟨_, rfl⟩
 have HKN := Lib.hid hkn
 rw [← hkn] at hm ⊢
 clear h hL hR hh hn hs hkn
 go_enter Tryz.func71, Tryz.ntmps71
 go_wp2_with fail
 generalize hW : (w.alloc (BoxB B 44)).alloc (.cells #[.slice none 0 0, .slice none 0 0, .slice none 0 0, .float .f32 0, .float .f32 0, .slice none 0 0, .float .f32 0, .float .f32 0, .float .f32 0, .slice none 0 0, .slice none 0 0, .float .f32 0, .float .f32 0, .slice none 0 0] 109) = W
 have BX1 : Hid (Bx w [(w.heap.size + 1, Z14), (w.heap.size, B.l)] W) := Lib.hid (hW ▸ BX.out)
 have HWS0 : Hid (W.heap.size = w.heap.size + 2) := Lib.hid (by rw [← hW]; simp)
 clear BX hW
 refine (J.out W (H.out.below BX1.out.bel) (HL.out.below BX1.out.bel)).mono ?_
 rintro e w1 ⟨ea, ec, rfl, hE, hB1⟩
 have BX2 := Lib.hid (BX1.out.call hB1)
 have LT : Hid (w.heap.size + 1 < w1.heap.size) := Lib.hid ((BX2.out.2 _ _ (.head _)).2.2.1)
 have BX3 := Lib.hid (BX2.out.box (vs := HbL B a ea len cap n ec) (t := 107))
 have hX : Below w1.heap.size w1 (w1.alloc (.cells (HbL B a ea len cap n ec).toArray 107)) := (Below.refl _ _).alloc (Nat.le_refl _) _
 have HE := Lib.hid (hE.below hX)
 have HWS : Hid (W.heap.size = w.heap.size + 2) := HWS0
 clear hB1 hX BX1 J hE
 go_wp2_with fail
 change Calls _ _ _ (w1.alloc (.cells (HbL B a ea len cap n ec).toArray 107)) _
 generalize (w1.alloc (.cells (HbL B a ea len cap n ec).toArray 107)) = W2 at *
 refine (JM.out W2).mono ?_
 rintro e w2 ⟨rfl, nd, hw⟩
 have BX5 := Lib.hid (BX3.out.drewN nd)
 have HE5 := Lib.hid (hw ▸ HE.out.below (below_drewN (Below.refl _ _) nd))
 rw [← hw] at BX5
 clear hw JM BX3 HE
 generalize w1.heap.size = X at *
 go_wp2_with fail
 go_loopw [30] (fun i w' => ∃ k : Nat, k ≤ kn ∧ i = .int .i64 k ∧ Aside ((∀ j, j < k → (rows.getD j (none, 0, 0)).2.1 = B.pl) ∧ ∃ nd, w' = w2.drewN nd)) (fun i _ => kn - (intOf i).toNat)
 case atStart => exact ⟨0, Nat.zero_le _, rfl, fun j hj => absurd hj (by omega), 0, rfl⟩
 case round =>
  obtain ⟨k, hk, rfl, hA⟩ := hrel
  obtain ⟨nd', hw'⟩ := hA.out.2
  have HP := Lib.hid hA.out.1
  have BX6 := Lib.hid (BX5.out.drewN nd')
  have HE6 := Lib.hid (HE5.out.below (below_drewN (Below.refl _ _) nd'))
  rw [← hw'] at BX6 HE6
  have HW := Lib.hid hw'
  clear hA hw'
  by_cases hlt : k < kn
  ·obtain ⟨R, rfl, hc⟩ := (HR.out.below BX6.out.bel) k (by rw [← HKN.out]; exact hlt)
   have hk0 : (0 : Int) ≤ (k : Int) := by omega
   have hk1 : (k : Int) < (kn : Int) := by omega
   have b0 := (BX6.out.mem (.tail _ (.tail _ (.head _)))) 0 _ rfl
   have HLN := Lib.hid (lens_not (n := B.pl) (rows := rows) (k := k) (by rw [← HKN.out]; exact hlt))
   have HPK : Hid ((rows.getD k (none, 0, 0)).2.1 = B.pl → ∀ j, j < k + 1 → (rows.getD j (none, 0, 0)).2.1 = B.pl) := Lib.hid (fun he j hj => if h : j < k then HP.out j h else (show j = k by omega) ▸ he)
   generalize hrow : rows.getD k (none, 0, 0) = rw' at *
   obtain ⟨r1, r2, r3⟩ := rw'
   have hrl : r2 ≤ 9223372036854775807 ∨ True := .inr trivial
   by_cases hne : r2 = B.pl
   ·have HNX := Lib.hid (HPK.out hne)
    clear HPK HLN hrow hrl
    subst hne
    go_wp2
    go_roundw
    case rel => exact ⟨k + 1, by omega, by go_num, HNX.out, nd', HW.out⟩
    case measure => simp [intOf]; omega
   ·have hz : lensB B.pl rows = false := HLN.out hne
    have he1 : ((r2 : Int) == (B.pl : Int)) = false := by simp; omega
    have he2 : ((r2 : Int) != (B.pl : Int)) = true := by simp; omega
    have HZ := Lib.hid hz
    have BX7 := Lib.hid (BX6.out.re (L' := [(w.heap.size + 1, Z14), (X, HbL B a ea len cap n ec), (w.heap.size, B.l)]) (fun x hx => by simp only [List.mem_cons, List.not_mem_nil, or_false] at hx ⊢; rcases hx with h | h | h <;> simp [h]))
    clear HPK HLN hrow hrl hz
    have q0 := (BX7.out.mem (.head _)) 0 _ rfl
    have p0 := BX7.out.free (.head _) 0
    have q1 := (BX7.out.mem (.head _)) 1 _ rfl
    have p1 := BX7.out.free (.head _) 1
    have q2 := (BX7.out.mem (.head _)) 2 _ rfl
    have p2 := BX7.out.free (.head _) 2
    have q3 := (BX7.out.mem (.head _)) 3 _ rfl
    have p3 := BX7.out.free (.head _) 3
    have q4 := (BX7.out.mem (.head _)) 4 _ rfl
    have p4 := BX7.out.free (.head _) 4
    have q5 := (BX7.out.mem (.head _)) 5 _ rfl
    have p5 := BX7.out.free (.head _) 5
    have q6 := (BX7.out.mem (.head _)) 6 _ rfl
    have p6 := BX7.out.free (.head _) 6
    have q7 := (BX7.out.mem (.head _)) 7 _ rfl
    have p7 := BX7.out.free (.head _) 7
    have q8 := (BX7.out.mem (.head _)) 8 _ rfl
    have p8 := BX7.out.free (.head _) 8
    have q9 := (BX7.out.mem (.head _)) 9 _ rfl
    have p9 := BX7.out.free (.head _) 9
    have q10 := (BX7.out.mem (.head _)) 10 _ rfl
    have p10 := BX7.out.free (.head _) 10
    have q11 := (BX7.out.mem (.head _)) 11 _ rfl
    have p11 := BX7.out.free (.head _) 11
    have q12 := (BX7.out.mem (.head _)) 12 _ rfl
    have p12 := BX7.out.free (.head _) 12
    have q13 := (BX7.out.mem (.head _)) 13 _ rfl
    have p13 := BX7.out.free (.head _) 13
    have BZ := Lib.hid (Bx.setAll (vs := Z14) BX7.out (fun b' l' hm => by simp only [List.mem_cons, Prod.mk.injEq, List.not_mem_nil, or_false] at hm; have hz := LT.out; omega) rfl)
    simp only [setL, Nat.zero_add, Nat.reduceAdd] at BZ
    go_wp2
    clear q0 p0 q1 p1 q2 p2 q3 p3 q4 p4 q5 p5 q6 p6 q7 p7 q8 p8 q9 p9 q10 p10 q11 p11 q12 p12 q13 p13
    have m0 := (BZ.out.mem (.head _)) 0 _ rfl
    have m1 := (BZ.out.mem (.head _)) 1 _ rfl
    have m2 := (BZ.out.mem (.head _)) 2 _ rfl
    have m3 := (BZ.out.mem (.head _)) 3 _ rfl
    have m4 := (BZ.out.mem (.head _)) 4 _ rfl
    have m5 := (BZ.out.mem (.head _)) 5 _ rfl
    have m6 := (BZ.out.mem (.head _)) 6 _ rfl
    have m7 := (BZ.out.mem (.head _)) 7 _ rfl
    have m8 := (BZ.out.mem (.head _)) 8 _ rfl
    have m9 := (BZ.out.mem (.head _)) 9 _ rfl
    have m10 := (BZ.out.mem (.head _)) 10 _ rfl
    have m11 := (BZ.out.mem (.head _)) 11 _ rfl
    have m12 := (BZ.out.mem (.head _)) 12 _ rfl
    have m13 := (BZ.out.mem (.head _)) 13 _ rfl
    refine bodyPost_ret (v := .tuple #[.agg Z14.toArray, .bool false]) (by simp [results, Tryz.results71, go_sem, m0, m1, m2, m3, m4, m5, m6, m7, m8, m9, m10, m11, m12, m13]) rfl ?_
    exact ⟨fun h => absurd (HZ.out.symm.trans h) (by decide), fun _ => ⟨rfl, BZ.out.bel⟩⟩
  ·obtain rfl : k = kn := by omega
   have HZ : Hid (lensB B.pl rows = true) := Lib.hid (lens_all (fun j hj => HP.out j (by rw [HKN.out]; exact hj)))
   have BX7 := Lib.hid (BX6.out.re (L' := [(w.heap.size + 1, Z14), (X, HbL B a ea len cap n ec), (w.heap.size, B.l)]) (fun x hx => by simp only [List.mem_cons, List.not_mem_nil, or_false] at hx ⊢; rcases hx with h | h | h <;> simp [h]))
   have b0 := (BX7.out.mem (.tail _ (.head _))) 0 _ rfl
   have b1 := (BX7.out.mem (.tail _ (.head _))) 1 _ rfl
   have b2 := (BX7.out.mem (.tail _ (.head _))) 2 _ rfl
   have b3 := (BX7.out.mem (.tail _ (.head _))) 3 _ rfl
   have b4 := (BX7.out.mem (.tail _ (.head _))) 4 _ rfl
   have b5 := (BX7.out.mem (.tail _ (.head _))) 5 _ rfl
   have b6 := (BX7.out.mem (.tail _ (.head _))) 6 _ rfl
   have b7 := (BX7.out.mem (.tail _ (.head _))) 7 _ rfl
   have b8 := (BX7.out.mem (.tail _ (.head _))) 8 _ rfl
   have b9 := (BX7.out.mem (.tail _ (.head _))) 9 _ rfl
   have b10 := (BX7.out.mem (.tail _ (.head _))) 10 _ rfl
   have q0 := (BX7.out.mem (.head _)) 0 _ rfl
   have p0 := BX7.out.free (.head _) 0
   have q1 := (BX7.out.mem (.head _)) 1 _ rfl
   have p1 := BX7.out.free (.head _) 1
   have q2 := (BX7.out.mem (.head _)) 2 _ rfl
   have p2 := BX7.out.free (.head _) 2
   have q3 := (BX7.out.mem (.head _)) 3 _ rfl
   have p3 := BX7.out.free (.head _) 3
   have q4 := (BX7.out.mem (.head _)) 4 _ rfl
   have p4 := BX7.out.free (.head _) 4
   have q5 := (BX7.out.mem (.head _)) 5 _ rfl
   have p5 := BX7.out.free (.head _) 5
   have q6 := (BX7.out.mem (.head _)) 6 _ rfl
   have p6 := BX7.out.free (.head _) 6
   have q7 := (BX7.out.mem (.head _)) 7 _ rfl
   have p7 := BX7.out.free (.head _) 7
   have q8 := (BX7.out.mem (.head _)) 8 _ rfl
   have p8 := BX7.out.free (.head _) 8
   have q9 := (BX7.out.mem (.head _)) 9 _ rfl
   have p9 := BX7.out.free (.head _) 9
   have q10 := (BX7.out.mem (.head _)) 10 _ rfl
   have p10 := BX7.out.free (.head _) 10
   have q11 := (BX7.out.mem (.head _)) 11 _ rfl
   have p11 := BX7.out.free (.head _) 11
   have q12 := (BX7.out.mem (.head _)) 12 _ rfl
   have p12 := BX7.out.free (.head _) 12
   have q13 := (BX7.out.mem (.head _)) 13 _ rfl
   have p13 := BX7.out.free (.head _) 13
   have BZ := Lib.hid (Bx.setAll (vs := StL B a ea len cap n ec x 0 none 0 0) BX7.out (fun b' l' hm => by simp only [List.mem_cons, Prod.mk.injEq, List.not_mem_nil, or_false] at hm; have hz := LT.out; omega) rfl)
   have HE7 := Lib.hid ((EnB.setB (b := w.heap.size + 1) (vs := StL B a ea len cap n ec x 0 none 0 0) HE6.out (by have hz := HWS.out; omega)).low (base' := w.heap.size) (by have hz := HWS.out; omega))
   simp only [setL, Nat.zero_add, Nat.reduceAdd] at BZ HE7
   go_wp2
   clear b0 b1 b2 b3 b4 b5 b6 b7 b8 b9 b10 q0 p0 q1 p1 q2 p2 q3 p3 q4 p4 q5 p5 q6 p6 q7 p7 q8 p8 q9 p9 q10 p10 q11 p11 q12 p12 q13 p13
   have m0 := (BZ.out.mem (.head _)) 0 _ rfl
   have m1 := (BZ.out.mem (.head _)) 1 _ rfl
   have m2 := (BZ.out.mem (.head _)) 2 _ rfl
   have m3 := (BZ.out.mem (.head _)) 3 _ rfl
   have m4 := (BZ.out.mem (.head _)) 4 _ rfl
   have m5 := (BZ.out.mem (.head _)) 5 _ rfl
   have m6 := (BZ.out.mem (.head _)) 6 _ rfl
   have m7 := (BZ.out.mem (.head _)) 7 _ rfl
   have m8 := (BZ.out.mem (.head _)) 8 _ rfl
   have m9 := (BZ.out.mem (.head _)) 9 _ rfl
   have m10 := (BZ.out.mem (.head _)) 10 _ rfl
   have m11 := (BZ.out.mem (.head _)) 11 _ rfl
   have m12 := (BZ.out.mem (.head _)) 12 _ rfl
   have m13 := (BZ.out.mem (.head _)) 13 _ rfl
   refine bodyPost_ret (v := .tuple #[StV B a ea len cap n ec x 0 none 0 0, .bool true]) (by simp [results, Tryz.results71, go_sem, m0, m1, m2, m3, m4, m5, m6, m7, m8, m9, m10, m11, m12, m13]) rfl ?_
   exact ⟨fun _ => ⟨ea, ec, rfl, HE7.out, BZ.out.bel⟩, fun h => absurd (HZ.out.symm.trans h) (by decide)⟩
end Go.Proofs.YtabccmobmppdnaaGreat

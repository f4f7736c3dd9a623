
/-
The next point between three ends: what the program returns. Conditions: none beyond that the words fit.
-/
import Derived.Test.YtcgnmnbjgamedaaMrC
import Derived.Test.YtcgnmnbjgamedaaPtB
namespace Go.Proofs.Ytcgnmnbjgamedaa
open Go Fk Go.RowKit
set_option linter.unusedVariables false
set_option maxRecDepth 16000

def shC (p e : C3) : Option Nat := fop .quo .f32 one32 (lenC (difC p e))
def okP (p a b c : C3) : Bool := finC (shC p a) && (finC (shC p b) && finC (shC p c))
def moveC (p a b c : C3) : C3 := scalC (plusC (plusC (scalC a (shC p a)) (scalC b (shC p b))) (scalC c (shC p c))) (fop .quo .f32 one32 (fop .add .f32 (fop .add .f32 (shC p a) (shC p b)) (shC p c)))
def closC (p a b c : C3) : C3 := bif okP p a b c then moveC p a b c else (some 0, some 0, some 0)
/-- A quotient of what is not below zero is not below zero. -/
theorem Pos_one_quo {c : Option Nat} (h : Pos .f32 c) : Pos .f32 (fop .quo .f32 one32 c) := by
  intro r hr
  cases c with
  | none => cases hr
  | some x =>
    have hr' : ((FloatKind.f32.decode 1065353216).quotient (FloatKind.f32.format.fractionBits + 2) (FloatKind.f32.decode x)).map FloatKind.f32.format.write = some r := hr
    have hn := neg_decode (h x rfl)
    have d1 : FloatKind.f32.decode 1065353216 = .number false 8388608 (-23) := by decide
    rw [d1] at hr'
    generalize FloatKind.f32.decode x = d at *
    obtain ⟨q, hq, rfl⟩ := Option.map_eq_some_iff.1 hr'
    cases d with
    | nan s t => simp [Ieee.Datum.quotient] at hq
    | infinity s =>
      obtain rfl : s = false := hn
      simp [Ieee.Datum.quotient] at hq
      subst hq
      exact write_pos .f32 _ rfl rfl
    | number s m p =>
      obtain rfl : s = false := hn
      simp only [Ieee.Datum.quotient] at hq
      split at hq
      · simp at hq
        subst hq
        exact write_pos .f32 _ rfl rfl
      · cases hq
        exact write_pos .f32 _ rfl rfl
theorem sh_first {p a : C3} (h : finC (shC p a) = true) : fop .add .f32 (some 0) (shC p a) = shC p a := by
  have hp : Pos .f32 (shC p a) := Pos_one_quo (len_pos _)
  rw [zero_plus (fun r hr => hp r hr)]
  have hn : Num .f32 (shC p a) := Num_fop
  generalize shC p a = x at *
  cases x with
  | none => rfl
  | some y => exact if_neg (by rw [hn y rfl]; decide)
theorem impl_IsFiniteC (x : Nat) (c : Option Nat) (w : World) (h : FV .f32 x c) :
    Calls Try.prog 52 #[.float .f32 x] w fun e w' => e = .returned (.bool (finC c)) ∧ Below w.heap.size w w' := by
  rw [← h.fin]
  refine (impl_IsFinite x w h.1).mono ?_
  rintro e w1 ⟨rfl, n, rfl⟩
  exact ⟨rfl, below_drewN (Below.refl _ _) _⟩
def totP (p a b c : C3) : Nat → Option Nat
  | 0 => some 0
  | 1 => fop .add .f32 (some 0) (shC p a)
  | 2 => fop .add .f32 (fop .add .f32 (some 0) (shC p a)) (shC p b)
  | _ => fop .add .f32 (fop .add .f32 (fop .add .f32 (some 0) (shC p a)) (shC p b)) (shC p c)
/-- The parts that were made so far. -/
def Mp (p a b c : C3) (px py pz ub rb pb : Nat) (w : World) (k : Nat) (w' : World) : Prop := ∃ x1 y1 z1 x2 y2 z2 x3 y3 z3, Bx w [(ub, [.float .f32 x1, .float .f32 y1, .float .f32 z1, .float .f32 x2, .float .f32 y2, .float .f32 z2, .float .f32 x3, .float .f32 y3, .float .f32 z3]), (rb, [.float .f32 0, .float .f32 0, .float .f32 0]), (pb, [.float .f32 px, .float .f32 py, .float .f32 pz])] w' ∧ (1 ≤ k → finC (shC p a) = true ∧ F3 x1 y1 z1 (scalC a (shC p a))) ∧ (2 ≤ k → finC (shC p b) = true ∧ F3 x2 y2 z2 (scalC b (shC p b))) ∧ (3 ≤ k → finC (shC p c) = true ∧ F3 x3 y3 z3 (scalC c (shC p c)))
set_option maxHeartbeats 16000000 in
theorem impl_closer (px py pz ax ay az bx by' bz cx cy cz : Nat) (p a b c : C3) (w : World) (hp : F3 px py pz p) (ha : F3 ax ay az a) (hb : F3 bx by' bz b) (hc : F3 cx cy cz c) :
    Calls Try.prog 65 #[e9 ax ay az bx by' bz cx cy cz, vv px py pz] w fun e w' => (∃ x y z, e = .returned (.tuple #[vv x y z, .bool (okP p a b c)]) ∧ F3 x y z (closC p a b c)) ∧ Below w.heap.size w w' := by
  have u := Try.underlying22
  have uv := Try.underlying33
  have ue := Try.underlying63
  have HP := Lib.hid hp
  have HA := Lib.hid ha
  have HB := Lib.hid hb
  have HC' := Lib.hid hc
  have bx1 := (Bx.nil w).box (vs := [.float .f32 ax, .float .f32 ay, .float .f32 az, .float .f32 bx, .float .f32 by', .float .f32 bz, .float .f32 cx, .float .f32 cy, .float .f32 cz]) (t := 63)
  have bx2 := bx1.box (vs := [.float .f32 px, .float .f32 py, .float .f32 pz]) (t := 33)
  have bx3 := bx2.box (vs := [.float .f32 0, .float .f32 0, .float .f32 0]) (t := 33)
  have bx4 := bx3.box (vs := [.float .f32 0, .float .f32 0, .float .f32 0, .float .f32 0, .float .f32 0, .float .f32 0, .float .f32 0, .float .f32 0, .float .f32 0]) (t := 63)
  have BX := Lib.hid bx4
  simp at BX
  have OKP : Hid (okP p a b c = (finC (shC p a) && (finC (shC p b) && finC (shC p c)))) := Lib.hid rfl
  clear bx1 bx2 bx3 bx4 hp ha hb hc
  go_enter Try.func65, Try.ntmps65
  go_wp2
  generalize (((w.alloc (.cells #[.float .f32 ax, .float .f32 ay, .float .f32 az, .float .f32 bx, .float .f32 by', .float .f32 bz, .float .f32 cx, .float .f32 cy, .float .f32 cz] 63)).alloc (.cells #[.float .f32 px, .float .f32 py, .float .f32 pz] 33)).alloc (.cells #[.float .f32 0, .float .f32 0, .float .f32 0] 33)).alloc (.cells #[.float .f32 0, .float .f32 0, .float .f32 0, .float .f32 0, .float .f32 0, .float .f32 0, .float .f32 0, .float .f32 0, .float .f32 0] 63) = W at *
  have M0 : Hid (Mp p a b c px py pz (w.heap.size + 1 + 1 + 1) (w.heap.size + 1 + 1) (w.heap.size + 1) w 0 W) := Lib.hid ⟨_, _, _, _, _, _, _, _, _, ⟨BX.out.1, fun b l hm => BX.out.2 b l (by
    rcases List.mem_cons.1 hm with e | hm
    · exact e ▸ .head _
    · rcases List.mem_cons.1 hm with e | hm
      · exact e ▸ .tail _ (.head _)
      · rcases List.mem_cons.1 hm with e | hm
        · exact e ▸ .tail _ (.tail _ (.head _))
        · cases hm)⟩, fun h => absurd h (by decide), fun h => absurd h (by decide), fun h => absurd h (by decide)⟩
  clear BX
  generalize hpb : w.heap.size + 1 = pb at *
  generalize hrb : pb + 1 = rb at *
  generalize hub : rb + 1 = ub at *
  have HN : Hid (pb < rb ∧ rb < ub) := Lib.hid ⟨by omega, by omega⟩
  clear hpb hrb hub
  go_loopw [7, 12] (fun l i w' => ∃ k : Nat, k ≤ 3 ∧ i = .int .i64 k ∧ (∃ t, l = .float .f32 t ∧ FV .f32 t (totP p a b c k)) ∧ Aside (Mp p a b c px py pz ub rb pb w k w')) (fun _ i _ => 3 - (intOf i).toNat)
  case atStart => exact ⟨0, Nat.zero_le _, rfl, ⟨0, rfl, fv_z⟩, M0.out⟩
  case round =>
    obtain ⟨k, hk, rfl, ⟨t, rfl, ht⟩, hA⟩ := hrel
    have MU := Lib.hid hA.out
    have HT := Lib.hid ht
    clear hA M0 ht
    rcases (show k = 0 ∨ k = 1 ∨ k = 2 ∨ k = 3 by omega) with rfl | rfl | rfl | rfl
    · obtain ⟨x1, y1, z1, x2, y2, z2, x3, y3, z3, hBu, h1, h2, h3⟩ := MU.out
      have BU := Lib.hid hBu
      have K1 := Lib.hid (And.intro h1 (And.intro h2 h3))
      have BV := Lib.hid (hBu.box (vs := [.float .f32 ax, .float .f32 ay, .float .f32 az]) (t := 33))
      clear hBu h1 h2 h3 MU
      have hix := ends_0 ax ay az bx by' bz cx cy cz
      have p0 := (BU.out.mem (.tail _ (.tail _ (.head _)))) 0 _ rfl
      have p1 := (BU.out.mem (.tail _ (.tail _ (.head _)))) 1 _ rfl
      have p2 := (BU.out.mem (.tail _ (.tail _ (.head _)))) 2 _ rfl
      have hlt := World.block_lt_of_cell? _ _ p0
      go_wp2_with fail
      clear hix p0 p1 p2 hlt
      change Calls _ _ _ (wr.alloc (.cells [.float .f32 ax, .float .f32 ay, .float .f32 az].toArray 33)) _
      generalize wr.alloc (.cells [.float .f32 ax, .float .f32 ay, .float .f32 az].toArray 33) = WV at *
      generalize hvb : wr.heap.size = vb at *
      have HVB : Hid (ub < vb) := Lib.hid (hvb ▸ (BU.out.2 _ _ (.head _)).2.2.1)
      clear hvb BU
      refine (impl_LessVectors _ _ _ _ _ _ _ _ _ _ _ _ _ HP.out.1 HP.out.2.1 HP.out.2.2 HA.out.1 HA.out.2.1 HA.out.2.2).mono ?_
      rintro e w1 ⟨d0, d1, d2, rfl, f0, f1, f2, hB1⟩
      have BV1 := Lib.hid (BV.out.call hB1)
      clear hB1 BV
      go_wp2_with fail
      refine (impl_LongOf _ _ _ _ _ _ _ f0 f1 f2).mono ?_
      rintro e w2 ⟨r, rfl, fr, hB2⟩
      have BV2 := Lib.hid (BV1.out.call hB2)
      have FS : Hid (∀ w', FV .f32 (fR .quo .f32 1065353216 r w') (shC p a)) := Lib.hid (fun w' => FV_fR fv_one32 fr)
      clear hB2 fr f0 f1 f2 BV1
      go_wp2_with fail
      refine (impl_IsFiniteC _ _ _ (FS.out _)).mono ?_
      rintro e w3 ⟨rfl, hB3⟩
      have BV3 := Lib.hid (BV2.out.call ((below_drewN (Below.refl _ _) _).trans (hB3.mono (by first | exact Nat.le_refl _ | simp))))
      clear hB3 BV2
      cases hfin : finC (shC p a)
      · have HO : Hid (okP p a b c = false) := Lib.hid (by rw [OKP.out]; rw [hfin]; rfl)
        clear hfin
        have BR : Hid (Bx w [(rb, [.float .f32 0, .float .f32 0, .float .f32 0]), (pb, [.float .f32 px, .float .f32 py, .float .f32 pz])] w3) := Lib.hid BV3.out.drop.drop
        clear BV3
        have q0 := (BR.out.mem (.head _)) 0 _ rfl
        have q1 := (BR.out.mem (.head _)) 1 _ rfl
        have q2 := (BR.out.mem (.head _)) 2 _ rfl
        have k0 := BR.out.free (.head _) 0
        have k1 := BR.out.free (.head _) 1
        have k2 := BR.out.free (.head _) 2
        have hn := HN.out
        have BS := Lib.hid (BR.out.put3 (fun b' l' hm => by simp only [List.mem_cons, Prod.mk.injEq, List.not_mem_nil, or_false] at hm; omega) (.float .f32 0) (.float .f32 0) (.float .f32 0))
        clear hn
        go_wp2
        clear q0 q1 q2 k0 k1 k2
        have m0 := (BS.out.mem (.head _)) 0 _ rfl
        have m1 := (BS.out.mem (.head _)) 1 _ rfl
        have m2 := (BS.out.mem (.head _)) 2 _ rfl
        refine bodyPost_ret (v := .tuple #[vv 0 0 0, .bool false]) (by simp [results, Try.results65, go_sem, m0, m1, m2]) rfl ?_
        refine ⟨⟨0, 0, 0, by rw [HO.out], ?_⟩, BS.out.bel⟩
        unfold closC
        rw [HO.out]
        exact ⟨fv_z, fv_z, fv_z⟩
      · have HF := Lib.hid hfin
        clear hfin
        have y0 := (BV3.out.mem (.head _)) 0 _ rfl
        have y1 := (BV3.out.mem (.head _)) 1 _ rfl
        have y2 := (BV3.out.mem (.head _)) 2 _ rfl
        go_wp2_with fail
        clear y0 y1 y2
        refine (impl_ScaleVector _ _ _ _ _ _ _ _ _ HA.out.1 HA.out.2.1 HA.out.2.2 (FS.out _)).mono ?_
        rintro e w4 ⟨s1, s2, s3, rfl, g1, g2, g3, hB4⟩
        have BV4 := Lib.hid (BV3.out.call hB4).swap
        have G := Lib.hid (And.intro g1 (And.intro g2 g3))
        clear hB4 BV3 g1 g2 g3
        have q0 := (BV4.out.mem (.head _)) 0 _ rfl
        have q1 := (BV4.out.mem (.head _)) 1 _ rfl
        have q2 := (BV4.out.mem (.head _)) 2 _ rfl
        have k0 := BV4.out.free (.head _) 0
        have k1 := BV4.out.free (.head _) 1
        have k2 := BV4.out.free (.head _) 2
        have hn := HN.out
        have hv := HVB.out
        have BS := Lib.hid (((BV4.out.setc (fun b' l' hm => by simp only [List.mem_cons, Prod.mk.injEq, List.not_mem_nil, or_false] at hm; omega) 0 (.float .f32 s1)).setc (fun b' l' hm => by simp only [List.mem_cons, Prod.mk.injEq, List.not_mem_nil, or_false] at hm; omega) 1 (.float .f32 s2)).setc (fun b' l' hm => by simp only [List.mem_cons, Prod.mk.injEq, List.not_mem_nil, or_false] at hm; omega) 2 (.float .f32 s3))
        clear hn hv
        have FT : Hid (∀ w' w'', FV .f32 (fR .add .f32 t (fR .quo .f32 1065353216 r w') w'') (totP p a b c 1)) := Lib.hid (fun w' w'' => FV_fR HT.out (FS.out w'))
        go_wp2
        go_roundw
        case rel =>
          refine ⟨1, by omega, rfl, ⟨_, rfl, FT.out _ _⟩, (?_ : Mp p a b c px py pz ub rb pb w 1 _)⟩
          exact ⟨_, _, _, _, _, _, _, _, _, (BS.out.swap.drop).drewN _, fun _ => ⟨HF.out, G.out⟩, fun h => absurd h (by decide), fun h => absurd h (by decide)⟩
        case measure => simp [intOf]
    · obtain ⟨x1, y1, z1, x2, y2, z2, x3, y3, z3, hBu, h1, h2, h3⟩ := MU.out
      have BU := Lib.hid hBu
      have K1 := Lib.hid (And.intro h1 (And.intro h2 h3))
      have BV := Lib.hid (hBu.box (vs := [.float .f32 bx, .float .f32 by', .float .f32 bz]) (t := 33))
      clear hBu h1 h2 h3 MU
      have hix := ends_1 ax ay az bx by' bz cx cy cz
      have p0 := (BU.out.mem (.tail _ (.tail _ (.head _)))) 0 _ rfl
      have p1 := (BU.out.mem (.tail _ (.tail _ (.head _)))) 1 _ rfl
      have p2 := (BU.out.mem (.tail _ (.tail _ (.head _)))) 2 _ rfl
      have hlt := World.block_lt_of_cell? _ _ p0
      go_wp2_with fail
      clear hix p0 p1 p2 hlt
      change Calls _ _ _ (wr.alloc (.cells [.float .f32 bx, .float .f32 by', .float .f32 bz].toArray 33)) _
      generalize wr.alloc (.cells [.float .f32 bx, .float .f32 by', .float .f32 bz].toArray 33) = WV at *
      generalize hvb : wr.heap.size = vb at *
      have HVB : Hid (ub < vb) := Lib.hid (hvb ▸ (BU.out.2 _ _ (.head _)).2.2.1)
      clear hvb BU
      refine (impl_LessVectors _ _ _ _ _ _ _ _ _ _ _ _ _ HP.out.1 HP.out.2.1 HP.out.2.2 HB.out.1 HB.out.2.1 HB.out.2.2).mono ?_
      rintro e w1 ⟨d0, d1, d2, rfl, f0, f1, f2, hB1⟩
      have BV1 := Lib.hid (BV.out.call hB1)
      clear hB1 BV
      go_wp2_with fail
      refine (impl_LongOf _ _ _ _ _ _ _ f0 f1 f2).mono ?_
      rintro e w2 ⟨r, rfl, fr, hB2⟩
      have BV2 := Lib.hid (BV1.out.call hB2)
      have FS : Hid (∀ w', FV .f32 (fR .quo .f32 1065353216 r w') (shC p b)) := Lib.hid (fun w' => FV_fR fv_one32 fr)
      clear hB2 fr f0 f1 f2 BV1
      go_wp2_with fail
      refine (impl_IsFiniteC _ _ _ (FS.out _)).mono ?_
      rintro e w3 ⟨rfl, hB3⟩
      have BV3 := Lib.hid (BV2.out.call ((below_drewN (Below.refl _ _) _).trans (hB3.mono (by first | exact Nat.le_refl _ | simp))))
      clear hB3 BV2
      cases hfin : finC (shC p b)
      · have HO : Hid (okP p a b c = false) := Lib.hid (by rw [OKP.out]; rw [hfin]; simp)
        clear hfin
        have BR : Hid (Bx w [(rb, [.float .f32 0, .float .f32 0, .float .f32 0]), (pb, [.float .f32 px, .float .f32 py, .float .f32 pz])] w3) := Lib.hid BV3.out.drop.drop
        clear BV3
        have q0 := (BR.out.mem (.head _)) 0 _ rfl
        have q1 := (BR.out.mem (.head _)) 1 _ rfl
        have q2 := (BR.out.mem (.head _)) 2 _ rfl
        have k0 := BR.out.free (.head _) 0
        have k1 := BR.out.free (.head _) 1
        have k2 := BR.out.free (.head _) 2
        have hn := HN.out
        have BS := Lib.hid (BR.out.put3 (fun b' l' hm => by simp only [List.mem_cons, Prod.mk.injEq, List.not_mem_nil, or_false] at hm; omega) (.float .f32 0) (.float .f32 0) (.float .f32 0))
        clear hn
        go_wp2
        clear q0 q1 q2 k0 k1 k2
        have m0 := (BS.out.mem (.head _)) 0 _ rfl
        have m1 := (BS.out.mem (.head _)) 1 _ rfl
        have m2 := (BS.out.mem (.head _)) 2 _ rfl
        refine bodyPost_ret (v := .tuple #[vv 0 0 0, .bool false]) (by simp [results, Try.results65, go_sem, m0, m1, m2]) rfl ?_
        refine ⟨⟨0, 0, 0, by rw [HO.out], ?_⟩, BS.out.bel⟩
        unfold closC
        rw [HO.out]
        exact ⟨fv_z, fv_z, fv_z⟩
      · have HF := Lib.hid hfin
        clear hfin
        have y0 := (BV3.out.mem (.head _)) 0 _ rfl
        have y1 := (BV3.out.mem (.head _)) 1 _ rfl
        have y2 := (BV3.out.mem (.head _)) 2 _ rfl
        go_wp2_with fail
        clear y0 y1 y2
        refine (impl_ScaleVector _ _ _ _ _ _ _ _ _ HB.out.1 HB.out.2.1 HB.out.2.2 (FS.out _)).mono ?_
        rintro e w4 ⟨s1, s2, s3, rfl, g1, g2, g3, hB4⟩
        have BV4 := Lib.hid (BV3.out.call hB4).swap
        have G := Lib.hid (And.intro g1 (And.intro g2 g3))
        clear hB4 BV3 g1 g2 g3
        have q3 := (BV4.out.mem (.head _)) 3 _ rfl
        have q4 := (BV4.out.mem (.head _)) 4 _ rfl
        have q5 := (BV4.out.mem (.head _)) 5 _ rfl
        have k3 := BV4.out.free (.head _) 3
        have k4 := BV4.out.free (.head _) 4
        have k5 := BV4.out.free (.head _) 5
        have hn := HN.out
        have hv := HVB.out
        have BS := Lib.hid (((BV4.out.setc (fun b' l' hm => by simp only [List.mem_cons, Prod.mk.injEq, List.not_mem_nil, or_false] at hm; omega) 3 (.float .f32 s1)).setc (fun b' l' hm => by simp only [List.mem_cons, Prod.mk.injEq, List.not_mem_nil, or_false] at hm; omega) 4 (.float .f32 s2)).setc (fun b' l' hm => by simp only [List.mem_cons, Prod.mk.injEq, List.not_mem_nil, or_false] at hm; omega) 5 (.float .f32 s3))
        clear hn hv
        have FT : Hid (∀ w' w'', FV .f32 (fR .add .f32 t (fR .quo .f32 1065353216 r w') w'') (totP p a b c 2)) := Lib.hid (fun w' w'' => FV_fR HT.out (FS.out w'))
        go_wp2
        go_roundw
        case rel =>
          refine ⟨2, by omega, rfl, ⟨_, rfl, FT.out _ _⟩, (?_ : Mp p a b c px py pz ub rb pb w 2 _)⟩
          exact ⟨_, _, _, _, _, _, _, _, _, (BS.out.swap.drop).drewN _, fun _ => K1.out.1 (by decide), fun _ => ⟨HF.out, G.out⟩, fun h => absurd h (by decide)⟩
        case measure => simp [intOf]
    · obtain ⟨x1, y1, z1, x2, y2, z2, x3, y3, z3, hBu, h1, h2, h3⟩ := MU.out
      have BU := Lib.hid hBu
      have K1 := Lib.hid (And.intro h1 (And.intro h2 h3))
      have BV := Lib.hid (hBu.box (vs := [.float .f32 cx, .float .f32 cy, .float .f32 cz]) (t := 33))
      clear hBu h1 h2 h3 MU
      have hix := ends_2 ax ay az bx by' bz cx cy cz
      have p0 := (BU.out.mem (.tail _ (.tail _ (.head _)))) 0 _ rfl
      have p1 := (BU.out.mem (.tail _ (.tail _ (.head _)))) 1 _ rfl
      have p2 := (BU.out.mem (.tail _ (.tail _ (.head _)))) 2 _ rfl
      have hlt := World.block_lt_of_cell? _ _ p0
      go_wp2_with fail
      clear hix p0 p1 p2 hlt
      change Calls _ _ _ (wr.alloc (.cells [.float .f32 cx, .float .f32 cy, .float .f32 cz].toArray 33)) _
      generalize wr.alloc (.cells [.float .f32 cx, .float .f32 cy, .float .f32 cz].toArray 33) = WV at *
      generalize hvb : wr.heap.size = vb at *
      have HVB : Hid (ub < vb) := Lib.hid (hvb ▸ (BU.out.2 _ _ (.head _)).2.2.1)
      clear hvb BU
      refine (impl_LessVectors _ _ _ _ _ _ _ _ _ _ _ _ _ HP.out.1 HP.out.2.1 HP.out.2.2 HC'.out.1 HC'.out.2.1 HC'.out.2.2).mono ?_
      rintro e w1 ⟨d0, d1, d2, rfl, f0, f1, f2, hB1⟩
      have BV1 := Lib.hid (BV.out.call hB1)
      clear hB1 BV
      go_wp2_with fail
      refine (impl_LongOf _ _ _ _ _ _ _ f0 f1 f2).mono ?_
      rintro e w2 ⟨r, rfl, fr, hB2⟩
      have BV2 := Lib.hid (BV1.out.call hB2)
      have FS : Hid (∀ w', FV .f32 (fR .quo .f32 1065353216 r w') (shC p c)) := Lib.hid (fun w' => FV_fR fv_one32 fr)
      clear hB2 fr f0 f1 f2 BV1
      go_wp2_with fail
      refine (impl_IsFiniteC _ _ _ (FS.out _)).mono ?_
      rintro e w3 ⟨rfl, hB3⟩
      have BV3 := Lib.hid (BV2.out.call ((below_drewN (Below.refl _ _) _).trans (hB3.mono (by first | exact Nat.le_refl _ | simp))))
      clear hB3 BV2
      cases hfin : finC (shC p c)
      · have HO : Hid (okP p a b c = false) := Lib.hid (by rw [OKP.out]; rw [hfin]; simp)
        clear hfin
        have BR : Hid (Bx w [(rb, [.float .f32 0, .float .f32 0, .float .f32 0]), (pb, [.float .f32 px, .float .f32 py, .float .f32 pz])] w3) := Lib.hid BV3.out.drop.drop
        clear BV3
        have q0 := (BR.out.mem (.head _)) 0 _ rfl
        have q1 := (BR.out.mem (.head _)) 1 _ rfl
        have q2 := (BR.out.mem (.head _)) 2 _ rfl
        have k0 := BR.out.free (.head _) 0
        have k1 := BR.out.free (.head _) 1
        have k2 := BR.out.free (.head _) 2
        have hn := HN.out
        have BS := Lib.hid (BR.out.put3 (fun b' l' hm => by simp only [List.mem_cons, Prod.mk.injEq, List.not_mem_nil, or_false] at hm; omega) (.float .f32 0) (.float .f32 0) (.float .f32 0))
        clear hn
        go_wp2
        clear q0 q1 q2 k0 k1 k2
        have m0 := (BS.out.mem (.head _)) 0 _ rfl
        have m1 := (BS.out.mem (.head _)) 1 _ rfl
        have m2 := (BS.out.mem (.head _)) 2 _ rfl
        refine bodyPost_ret (v := .tuple #[vv 0 0 0, .bool false]) (by simp [results, Try.results65, go_sem, m0, m1, m2]) rfl ?_
        refine ⟨⟨0, 0, 0, by rw [HO.out], ?_⟩, BS.out.bel⟩
        unfold closC
        rw [HO.out]
        exact ⟨fv_z, fv_z, fv_z⟩
      · have HF := Lib.hid hfin
        clear hfin
        have y0 := (BV3.out.mem (.head _)) 0 _ rfl
        have y1 := (BV3.out.mem (.head _)) 1 _ rfl
        have y2 := (BV3.out.mem (.head _)) 2 _ rfl
        go_wp2_with fail
        clear y0 y1 y2
        refine (impl_ScaleVector _ _ _ _ _ _ _ _ _ HC'.out.1 HC'.out.2.1 HC'.out.2.2 (FS.out _)).mono ?_
        rintro e w4 ⟨s1, s2, s3, rfl, g1, g2, g3, hB4⟩
        have BV4 := Lib.hid (BV3.out.call hB4).swap
        have G := Lib.hid (And.intro g1 (And.intro g2 g3))
        clear hB4 BV3 g1 g2 g3
        have q6 := (BV4.out.mem (.head _)) 6 _ rfl
        have q7 := (BV4.out.mem (.head _)) 7 _ rfl
        have q8 := (BV4.out.mem (.head _)) 8 _ rfl
        have k6 := BV4.out.free (.head _) 6
        have k7 := BV4.out.free (.head _) 7
        have k8 := BV4.out.free (.head _) 8
        have hn := HN.out
        have hv := HVB.out
        have BS := Lib.hid (((BV4.out.setc (fun b' l' hm => by simp only [List.mem_cons, Prod.mk.injEq, List.not_mem_nil, or_false] at hm; omega) 6 (.float .f32 s1)).setc (fun b' l' hm => by simp only [List.mem_cons, Prod.mk.injEq, List.not_mem_nil, or_false] at hm; omega) 7 (.float .f32 s2)).setc (fun b' l' hm => by simp only [List.mem_cons, Prod.mk.injEq, List.not_mem_nil, or_false] at hm; omega) 8 (.float .f32 s3))
        clear hn hv
        have FT : Hid (∀ w' w'', FV .f32 (fR .add .f32 t (fR .quo .f32 1065353216 r w') w'') (totP p a b c 3)) := Lib.hid (fun w' w'' => FV_fR HT.out (FS.out w'))
        go_wp2
        go_roundw
        case rel =>
          refine ⟨3, by omega, rfl, ⟨_, rfl, FT.out _ _⟩, (?_ : Mp p a b c px py pz ub rb pb w 3 _)⟩
          exact ⟨_, _, _, _, _, _, _, _, _, (BS.out.swap.drop).drewN _, fun _ => K1.out.1 (by decide), fun _ => K1.out.2.1 (by decide), fun _ => ⟨HF.out, G.out⟩⟩
        case measure => simp [intOf]
    · obtain ⟨x1, y1, z1, x2, y2, z2, x3, y3, z3, hBu, h1, h2, h3⟩ := MU.out
      obtain ⟨o1, f1⟩ := h1 (by decide)
      obtain ⟨o2, f2⟩ := h2 (by decide)
      obtain ⟨o3, f3⟩ := h3 (by decide)
      have BU := Lib.hid hBu
      have JS := Lib.hid (fun w => impl_sum x1 y1 z1 x2 y2 z2 x3 y3 z3 _ _ _ w f1 f2 f3)
      have HO : Hid (okP p a b c = true) := Lib.hid (by rw [OKP.out, o1, o2, o3]; rfl)
      have HM : Hid (closC p a b c = scalC (plusC (plusC (scalC a (shC p a)) (scalC b (shC p b))) (scalC c (shC p c))) (fop .quo .f32 one32 (totP p a b c 3))) := Lib.hid (by
        unfold closC
        rw [HO.out]
        show moveC p a b c = _
        unfold moveC
        have : totP p a b c 3 = fop .add .f32 (fop .add .f32 (shC p a) (shC p b)) (shC p c) := by
          show fop .add .f32 (fop .add .f32 (fop .add .f32 (some 0) (shC p a)) (shC p b)) (shC p c) = _
          rw [sh_first o1]
        rw [this])
      clear hBu h1 h2 h3 MU o1 o2 o3 f1 f2 f3
      have y0 := (BU.out.mem (.head _)) 0 _ rfl
      have y1 := (BU.out.mem (.head _)) 1 _ rfl
      have y2 := (BU.out.mem (.head _)) 2 _ rfl
      have y3 := (BU.out.mem (.head _)) 3 _ rfl
      have y4 := (BU.out.mem (.head _)) 4 _ rfl
      have y5 := (BU.out.mem (.head _)) 5 _ rfl
      have y6 := (BU.out.mem (.head _)) 6 _ rfl
      have y7 := (BU.out.mem (.head _)) 7 _ rfl
      have y8 := (BU.out.mem (.head _)) 8 _ rfl
      go_wp2_with fail
      clear y0 y1 y2 y3 y4 y5 y6 y7 y8
      refine (JS.out wr).mono ?_
      rintro e w1 ⟨s1, s2, s3, rfl, hF, hB1⟩
      have BU1 := Lib.hid (BU.out.call hB1)
      have F := Lib.hid hF
      clear hB1 hF JS
      have FS : Hid (∀ w', FV .f32 (fR .quo .f32 1065353216 t w') (fop .quo .f32 one32 (totP p a b c 3))) := Lib.hid (fun w' => FV_fR fv_one32 HT.out)
      go_wp2_with fail
      refine (impl_ScaleVector _ _ _ _ _ _ _ _ _ F.out.1 F.out.2.1 F.out.2.2 (FS.out _)).mono ?_
      rintro e w2 ⟨q1, q2, q3, rfl, g1, g2, g3, hB2⟩
      have BR : Hid (Bx w [(rb, [.float .f32 0, .float .f32 0, .float .f32 0]), (pb, [.float .f32 px, .float .f32 py, .float .f32 pz])] w2) := Lib.hid (BU1.out.call ((below_drewN (Below.refl _ _) _).trans (hB2.mono (by first | exact Nat.le_refl _ | simp)))).drop
      have G := Lib.hid (And.intro g1 (And.intro g2 g3))
      clear hB2 BU1 g1 g2 g3
      have v0 := (BR.out.mem (.head _)) 0 _ rfl
      have v1 := (BR.out.mem (.head _)) 1 _ rfl
      have v2 := (BR.out.mem (.head _)) 2 _ rfl
      have k0 := BR.out.free (.head _) 0
      have k1 := BR.out.free (.head _) 1
      have k2 := BR.out.free (.head _) 2
      have hn := HN.out
      have BS := Lib.hid (BR.out.put3 (fun b' l' hm => by simp only [List.mem_cons, Prod.mk.injEq, List.not_mem_nil, or_false] at hm; omega) (.float .f32 q1) (.float .f32 q2) (.float .f32 q3))
      clear hn
      go_wp2
      clear v0 v1 v2 k0 k1 k2
      have m0 := (BS.out.mem (.head _)) 0 _ rfl
      have m1 := (BS.out.mem (.head _)) 1 _ rfl
      have m2 := (BS.out.mem (.head _)) 2 _ rfl
      refine bodyPost_ret (v := .tuple #[vv q1 q2 q3, .bool true]) (by simp [results, Try.results65, go_sem, m0, m1, m2]) rfl ?_
      refine ⟨⟨q1, q2, q3, by rw [HO.out], ?_⟩, BS.out.bel⟩
      rw [HM.out]
      exact G.out
end Go.Proofs.Ytcgnmnbjgamedaa

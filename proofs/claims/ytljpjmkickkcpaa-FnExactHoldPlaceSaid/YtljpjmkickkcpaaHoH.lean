
/-
The laws on what a hold leaves of a force, and where it puts a place: their walks. Conditions: none beyond that the words fit.
-/
import Derived.Test.YtljpjmkickkcpaaHoG
import Derived.Test.YtljpjmkickkcpaaHoQ
import Derived.Test.YtljpjmkickkcpaaReg6
namespace Go.Proofs.Ytljpjmkickkcpaa
open Go Fk Go.RowKit
set_option linter.unusedVariables false
set_option maxRecDepth 8000

theorem evalPutNe {a : Act} {d t : Tmp} {v : Value} (h : d ≠ t) : (a.put (some d) v).eval (.tmp t) = a.eval (.tmp t) := Act.eval_put (fun e he hh => by cases he; cases hh; exact h rfl)
/-- A new block of three zeros that may be written. -/
def Z3 (w : World) (b : Nat) : Prop := (w.cell? ⟨b, 0, none⟩ = some (.float .f32 0) ∧ w.cell? ⟨b, 1, none⟩ = some (.float .f32 0) ∧ w.cell? ⟨b, 2, none⟩ = some (.float .f32 0)) ∧ Fr w b
theorem Z3.below {W w : World} {b : Nat} (hb : Below W.heap.size W w) (h : Z3 W b) : Z3 w b := ⟨⟨cell_below hb h.1.1, cell_below hb h.1.2.1, cell_below hb h.1.2.2⟩, h.2.below hb (World.block_lt_of_cell? _ _ h.1.1)⟩
theorem Z3.new {w : World} {t : TypeId} : Z3 (w.alloc (.cells #[.float .f32 0, .float .f32 0, .float .f32 0] t)) w.heap.size := ⟨⟨new0, new1, new2⟩, Fr.new⟩
set_option maxHeartbeats 2000000 in
theorem FnExactHoldForce_law (h : HW) (p q r : Nat) (w : World) (f : h.fit) (v : p < 2 ^ FloatKind.f32.format.width ∧ q < 2 ^ FloatKind.f32.format.width ∧ r < 2 ^ FloatKind.f32.format.width) :
    Calls Try.prog 5 #[h.v, vv p q r] w fun e w' => e = .returned (.bool true) ∧ Below w.heap.size w w' := by
  have uh := Try.underlying30
  have ul := Try.underlying26
  have uv := Try.underlying28
  have ulv := Try.underlying24
  have JT := Lib.hid (fun w => laws_toHold h w)
  have JS := Lib.hid (fun w => spec_HoldForce h h.cls p q r (cls .f32 p, cls .f32 q, cls .f32 r) w f.is ⟨FV.self v.1, FV.self v.2.1, FV.self v.2.2⟩)
  have JI := Lib.hid (fun w => impl_HoldForce h h.cls p q r (cls .f32 p, cls .f32 q, cls .f32 r) w f.is ⟨FV.self v.1, FV.self v.2.1, FV.self v.2.2⟩)
  clear f v
  generalize forceC h.cls (cls .f32 p, cls .f32 q, cls .f32 r) = D at *
  generalize holdB h.cls = ok at *
  have A0 : Hid (Go.Proofs.Ytljpjmkickkcpaa.At ((w.alloc (HBox h 26)).alloc (.cells #[.float .f32 p, .float .f32 q, .float .f32 r] 24)) w.heap.size h.l) := Lib.hid At.new.alloc
  have V0 : Hid (Go.Proofs.Ytljpjmkickkcpaa.At ((w.alloc (HBox h 26)).alloc (.cells #[.float .f32 p, .float .f32 q, .float .f32 r] 24)) (w.heap.size + 1) [.float .f32 p, .float .f32 q, .float .f32 r]) := Lib.hid (by
    have := At.new (w := w.alloc (HBox h 26)) (vs := [.float .f32 p, .float .f32 q, .float .f32 r]) (t := 24)
    rw [World.size_alloc] at this
    exact this)
  have B0 : Hid (Below w.heap.size w ((w.alloc (HBox h 26)).alloc (.cells #[.float .f32 p, .float .f32 q, .float .f32 r] 24))) := Lib.hid (((Below.refl _ _).alloc (Nat.le_refl _) _).alloc (by simp) _)
  unfold HW.v at *
  go_enter Try.func5, Try.ntmps5
  go_wp2_with fail
  change (Code.region _ _ _).wp _ _ _ ((w.alloc (HBox h 26)).alloc (.cells #[.float .f32 p, .float .f32 q, .float .f32 r] 24))
  generalize ((w.alloc (HBox h 26)).alloc (.cells #[.float .f32 p, .float .f32 q, .float .f32 r] 24)) = W at *
  refine Reg6.wp_region_mix (s := 9) (C := fun w' => Below W.heap.size W w') (D := fun a w' => ∃ b, a.eval (.tmp 5) = .pointer (some ⟨b, 0, none⟩) ∧ W.heap.size ≤ b ∧ Below W.heap.size W w' ∧ TV b (D) w') (G := fun w1 w2 => Below w1.heap.size w1 w2) (Rv := fun i v => match i with | 0 => v = .agg #[.int .i64 h.p, .int .i64 h.k, .float .f32 h.x, .float .f32 h.y, .float .f32 h.z, .float .f32 h.s, .float .f32 h.t, .float .f32 h.u] | 1 => v = .agg #[.int .i64 h.p, .int .i64 h.k, .float .f32 h.x, .float .f32 h.y, .float .f32 h.z, .float .f32 h.s, .float .f32 h.t, .float .f32 h.u] | 2 => v = .agg #[.float .f32 p, .float .f32 q, .float .f32 r] | 3 => v = .agg #[.float .f32 p, .float .f32 q, .float .f32 r] | 4 => ∃ p q r, v = .tuple #[vv p q r, .bool ok] ∧ F3 p q r (D) | 5 => ∃ p q r, v = .tuple #[vv p q r, .bool ok] ∧ F3 p q r (D) | 6 => ∃ p q r, v = vv p q r ∧ F3 p q r (D) | 7 => v = .bool ok | 10 => v = .bool ok | _ => True) (Rw := fun i v w' => match i with | 8 => ∃ b, v = .pointer (some ⟨b, 0, none⟩) ∧ W.heap.size ≤ b ∧ Z3 w' b | _ => True) [false, false, false, false, false, true, true, false, false, true, true, true, true, true, true, true, true, false, false, false, false, false, false, false, false, false, false, false, false, false, false, false, false, false]
    (by kernel_rfl) (by kernel_rfl) (by kernel_rfl) ?_ (below_drewN (Below.refl _ _) 1) ?_ ?_
  · intro j v w1 w2 hC hG hR
    match j with
    | 0 => trivial
    | 1 => trivial
    | 2 => trivial
    | 3 => trivial
    | 4 => trivial
    | 5 => trivial
    | 6 => trivial
    | 7 => trivial
    | 8 => obtain ⟨b, e, h1, h2⟩ := hR; exact ⟨b, e, h1, h2.below hG⟩
    | 9 => trivial
    | 10 => trivial
    | _ + 11 => trivial
  · refine ⟨?_, ?_, ?_, ?_, ?_, ?_, ?_, ?_, ?_, ?_, ?_, trivial⟩
    · refine Reg6.Obl.early rfl (by kernel_rfl) ?_
      rintro a w1 hC hx hd K hK
      have HC := Lib.hid hC
      clear hC
      have t2 : a.tmps[2]?.getD undef = .pointer (some ⟨w.heap.size, 0, none⟩) := Reg.slot_val (hx 2 (by kernel_rfl))
      have y0 := A0.out.below HC.out 0 _ rfl
      have y1 := A0.out.below HC.out 1 _ rfl
      have y2 := A0.out.below HC.out 2 _ rfl
      have y3 := A0.out.below HC.out 3 _ rfl
      have y4 := A0.out.below HC.out 4 _ rfl
      have y5 := A0.out.below HC.out 5 _ rfl
      have y6 := A0.out.below HC.out 6 _ rfl
      have y7 := A0.out.below HC.out 7 _ rfl
      go_simp
      exact hK _ _ rfl trivial HC.out (Below.refl _ _)
    · refine Reg6.Obl.early rfl (by kernel_rfl) ?_
      rintro a w1 hC hx hd K hK
      have HC := Lib.hid hC
      clear hC
      have t10 : a.tmps[10]?.getD undef = .agg #[.int .i64 h.p, .int .i64 h.k, .float .f32 h.x, .float .f32 h.y, .float .f32 h.z, .float .f32 h.s, .float .f32 h.t, .float .f32 h.u] := Reg.slot_val (hd 0 10 (by kernel_rfl) rfl).1
      go_simp
      refine (JT.out _).mono ?_
      rintro en w2 ⟨rfl, hB2⟩
      exact hK _ _ rfl trivial (HC.out.trans (hB2.mono HC.out.size)) hB2
    · refine Reg6.Obl.early rfl (by kernel_rfl) ?_
      rintro a w1 hC hx hd K hK
      have HC := Lib.hid hC
      clear hC
      have t3 : a.tmps[3]?.getD undef = .pointer (some ⟨w.heap.size + 1, 0, none⟩) := Reg.slot_val (hx 3 (by kernel_rfl))
      have z0 := V0.out.below HC.out 0 _ rfl
      have z1 := V0.out.below HC.out 1 _ rfl
      have z2 := V0.out.below HC.out 2 _ rfl
      go_simp
      exact hK _ _ rfl trivial HC.out (Below.refl _ _)
    · refine Reg6.Obl.early rfl (by kernel_rfl) ?_
      rintro a w1 hC hx hd K hK
      have HC := Lib.hid hC
      clear hC
      have t12 : a.tmps[12]?.getD undef = .agg #[.float .f32 p, .float .f32 q, .float .f32 r] := Reg.slot_val (hd 2 12 (by kernel_rfl) rfl).1
      go_simp
      refine (laws_toVector _ _ _ _).mono ?_
      rintro en w2 ⟨rfl, hB2⟩
      exact hK _ _ rfl trivial (HC.out.trans (hB2.mono HC.out.size)) hB2
    · refine Reg6.Obl.early rfl (by kernel_rfl) ?_
      rintro a w1 hC hx hd K hK
      have HC := Lib.hid hC
      clear hC
      have t11 : a.tmps[11]?.getD undef = .agg #[.int .i64 h.p, .int .i64 h.k, .float .f32 h.x, .float .f32 h.y, .float .f32 h.z, .float .f32 h.s, .float .f32 h.t, .float .f32 h.u] := Reg.slot_val (hd 1 11 (by kernel_rfl) rfl).1
      have t13 : a.tmps[13]?.getD undef = .agg #[.float .f32 p, .float .f32 q, .float .f32 r] := Reg.slot_val (hd 3 13 (by kernel_rfl) rfl).1
      go_simp
      refine (JS.out _).mono ?_
      rintro en w2 ⟨x, y, z, rfl, hF, hB2⟩
      exact hK _ _ ⟨x, y, z, rfl, hF⟩ trivial (HC.out.trans (hB2.mono HC.out.size)) hB2
    · refine Reg6.Obl.early rfl (by kernel_rfl) ?_
      rintro a w1 hC hx hd K hK
      have HC := Lib.hid hC
      clear hC
      obtain ⟨x, y, z, g1, hF⟩ := (hd 4 14 (by kernel_rfl) rfl).1
      have tt := Reg.slot_val g1
      clear g1
      go_simp
      exact hK _ _ ⟨x, y, z, rfl, hF⟩ trivial HC.out (Below.refl _ _)
    · refine Reg6.Obl.early rfl (by kernel_rfl) ?_
      rintro a w1 hC hx hd K hK
      have HC := Lib.hid hC
      clear hC
      obtain ⟨x, y, z, g1, hF⟩ := (hd 5 9 (by kernel_rfl) rfl).1
      have tt := Reg.slot_val g1
      clear g1
      go_simp
      exact hK _ _ ⟨x, y, z, rfl, hF⟩ trivial HC.out (Below.refl _ _)
    · refine Reg6.Obl.late rfl (by kernel_rfl) ?_
      rintro a w1 hx hd K hK
      obtain ⟨x, y, z, g1, hF⟩ := hd 5 9 (by kernel_rfl) rfl
      have tt := Reg.slot_val g1
      clear g1
      go_simp
      exact hK _ rfl (fun w hD => by obtain ⟨b, e, h⟩ := hD; exact ⟨b, (evalPutNe (by decide)).trans e, h⟩)
    · refine Reg6.Obl.early rfl (by kernel_rfl) ?_
      rintro a w1 hC hx hd K hK
      have HC := Lib.hid hC
      clear hC
      go_simp
      exact hK _ _ trivial ⟨w1.heap.size, rfl, HC.out.size, Z3.new⟩ (HC.out.alloc HC.out.size _) ((Below.refl _ _).alloc (Nat.le_refl _) _)
    · refine Reg6.Obl.store rfl ?_
      rintro a w1 hC hx hd K hK
      have HC := Lib.hid hC
      clear hC
      obtain ⟨b, gb, hbl, hZ⟩ := (hd 8 5 (by kernel_rfl) rfl).2
      have tb := Reg.slot_val gb
      obtain ⟨x, y, z, g1, hF⟩ := (hd 6 15 (by kernel_rfl) rfl).1
      have tt := Reg.slot_val g1
      clear g1
      have GB := Lib.hid gb
      have HZ := Lib.hid hZ
      have HF := Lib.hid hF
      obtain ⟨⟨y0, y1, y2⟩, yf⟩ := hZ
      have f0 := yf 0
      have f1 := yf 1
      have f2 := yf 2
      clear yf gb hF
      go_simp
      exact hK _ ⟨b, GB.out, hbl, below_set3 HC.out hbl, ⟨x, y, z, set3 HZ.out.1.1 HZ.out.1.2.1 HZ.out.1.2.2, HF.out⟩⟩
    · refine Reg6.Obl.late rfl (by kernel_rfl) ?_
      rintro a w1 hx hd K hK
      have t16 : a.tmps[16]?.getD undef = .bool ok := Reg.slot_val (hd 7 16 (by kernel_rfl) rfl)
      go_simp
      exact hK _ rfl (fun w hD => by obtain ⟨b, e, h⟩ := hD; exact ⟨b, (evalPutNe (by decide)).trans e, h⟩)
  rintro f w1 hD hv
  obtain ⟨S, e6, hbl, hB, hT⟩ := hD
  have g6 : f 5 = .pointer (some ⟨S, 0, none⟩) := e6
  have g7 : f 6 = .bool ok := hv 10 6 rfl
  clear e6 hv
  simp only [Reg.mixL, g6, g7]
  have A1 := Lib.hid (A0.out.below hB)
  have V1 := Lib.hid (V0.out.below hB)
  have B1 := Lib.hid (B0.out.trans (hB.mono B0.out.size))
  have T1 := Lib.hid hT
  clear hB hT hbl g6 g7
  go_wp2_with fail
  refine Reg6.wp_region_mix (s := 9) (C := fun w' => Below w1.heap.size w1 w') (D := fun a w' => ∃ b, a.eval (.tmp 7) = .pointer (some ⟨b, 0, none⟩) ∧ w1.heap.size ≤ b ∧ Below w1.heap.size w1 w' ∧ TV b (D) w') (G := fun w1 w2 => Below w1.heap.size w1 w2) (Rv := fun i v => match i with | 0 => v = .agg #[.int .i64 h.p, .int .i64 h.k, .float .f32 h.x, .float .f32 h.y, .float .f32 h.z, .float .f32 h.s, .float .f32 h.t, .float .f32 h.u] | 1 => v = .agg #[.int .i64 h.p, .int .i64 h.k, .float .f32 h.x, .float .f32 h.y, .float .f32 h.z, .float .f32 h.s, .float .f32 h.t, .float .f32 h.u] | 2 => v = .agg #[.float .f32 p, .float .f32 q, .float .f32 r] | 3 => v = .agg #[.float .f32 p, .float .f32 q, .float .f32 r] | 4 => ∃ p q r, v = .tuple #[vv p q r, .bool ok] ∧ F3 p q r (D) | 5 => ∃ p q r, v = .tuple #[vv p q r, .bool ok] ∧ F3 p q r (D) | 6 => ∃ p q r, v = vv p q r ∧ F3 p q r (D) | 7 => v = .bool ok | 10 => v = .bool ok | _ => True) (Rw := fun i v w' => match i with | 8 => ∃ b, v = .pointer (some ⟨b, 0, none⟩) ∧ w1.heap.size ≤ b ∧ Z3 w' b | _ => True) [false, false, false, false, false, false, false, true, true, false, false, false, false, false, false, false, false, true, true, true, true, true, true, true, true, false, false, false, false, false, false, false, false, false]
    (by kernel_rfl) (by kernel_rfl) (by kernel_rfl) ?_ (below_drewN (Below.refl _ _) 1) ?_ ?_
  · intro j v w1 w2 hC hG hR
    match j with
    | 0 => trivial
    | 1 => trivial
    | 2 => trivial
    | 3 => trivial
    | 4 => trivial
    | 5 => trivial
    | 6 => trivial
    | 7 => trivial
    | 8 => obtain ⟨b, e, h1, h2⟩ := hR; exact ⟨b, e, h1, h2.below hG⟩
    | 9 => trivial
    | 10 => trivial
    | _ + 11 => trivial
  · refine ⟨?_, ?_, ?_, ?_, ?_, ?_, ?_, ?_, ?_, ?_, ?_, trivial⟩
    · refine Reg6.Obl.early rfl (by kernel_rfl) ?_
      rintro a w1 hC hx hd K hK
      have HC := Lib.hid hC
      clear hC
      have t2 : a.tmps[2]?.getD undef = .pointer (some ⟨w.heap.size, 0, none⟩) := Reg.slot_val (hx 2 (by kernel_rfl))
      have y0 := A1.out.below HC.out 0 _ rfl
      have y1 := A1.out.below HC.out 1 _ rfl
      have y2 := A1.out.below HC.out 2 _ rfl
      have y3 := A1.out.below HC.out 3 _ rfl
      have y4 := A1.out.below HC.out 4 _ rfl
      have y5 := A1.out.below HC.out 5 _ rfl
      have y6 := A1.out.below HC.out 6 _ rfl
      have y7 := A1.out.below HC.out 7 _ rfl
      go_simp
      exact hK _ _ rfl trivial HC.out (Below.refl _ _)
    · refine Reg6.Obl.early rfl (by kernel_rfl) ?_
      rintro a w1 hC hx hd K hK
      have HC := Lib.hid hC
      clear hC
      have t18 : a.tmps[18]?.getD undef = .agg #[.int .i64 h.p, .int .i64 h.k, .float .f32 h.x, .float .f32 h.y, .float .f32 h.z, .float .f32 h.s, .float .f32 h.t, .float .f32 h.u] := Reg.slot_val (hd 0 18 (by kernel_rfl) rfl).1
      go_simp
      refine (JT.out _).mono ?_
      rintro en w2 ⟨rfl, hB2⟩
      exact hK _ _ rfl trivial (HC.out.trans (hB2.mono HC.out.size)) hB2
    · refine Reg6.Obl.early rfl (by kernel_rfl) ?_
      rintro a w1 hC hx hd K hK
      have HC := Lib.hid hC
      clear hC
      have t3 : a.tmps[3]?.getD undef = .pointer (some ⟨w.heap.size + 1, 0, none⟩) := Reg.slot_val (hx 3 (by kernel_rfl))
      have z0 := V1.out.below HC.out 0 _ rfl
      have z1 := V1.out.below HC.out 1 _ rfl
      have z2 := V1.out.below HC.out 2 _ rfl
      go_simp
      exact hK _ _ rfl trivial HC.out (Below.refl _ _)
    · refine Reg6.Obl.early rfl (by kernel_rfl) ?_
      rintro a w1 hC hx hd K hK
      have HC := Lib.hid hC
      clear hC
      have t20 : a.tmps[20]?.getD undef = .agg #[.float .f32 p, .float .f32 q, .float .f32 r] := Reg.slot_val (hd 2 20 (by kernel_rfl) rfl).1
      go_simp
      refine (laws_toVector _ _ _ _).mono ?_
      rintro en w2 ⟨rfl, hB2⟩
      exact hK _ _ rfl trivial (HC.out.trans (hB2.mono HC.out.size)) hB2
    · refine Reg6.Obl.early rfl (by kernel_rfl) ?_
      rintro a w1 hC hx hd K hK
      have HC := Lib.hid hC
      clear hC
      have t19 : a.tmps[19]?.getD undef = .agg #[.int .i64 h.p, .int .i64 h.k, .float .f32 h.x, .float .f32 h.y, .float .f32 h.z, .float .f32 h.s, .float .f32 h.t, .float .f32 h.u] := Reg.slot_val (hd 1 19 (by kernel_rfl) rfl).1
      have t21 : a.tmps[21]?.getD undef = .agg #[.float .f32 p, .float .f32 q, .float .f32 r] := Reg.slot_val (hd 3 21 (by kernel_rfl) rfl).1
      go_simp
      refine (JI.out _).mono ?_
      rintro en w2 ⟨x, y, z, rfl, hF, hB2⟩
      exact hK _ _ ⟨x, y, z, rfl, hF⟩ trivial (HC.out.trans (hB2.mono HC.out.size)) hB2
    · refine Reg6.Obl.early rfl (by kernel_rfl) ?_
      rintro a w1 hC hx hd K hK
      have HC := Lib.hid hC
      clear hC
      obtain ⟨x, y, z, g1, hF⟩ := (hd 4 22 (by kernel_rfl) rfl).1
      have tt := Reg.slot_val g1
      clear g1
      go_simp
      exact hK _ _ ⟨x, y, z, rfl, hF⟩ trivial HC.out (Below.refl _ _)
    · refine Reg6.Obl.early rfl (by kernel_rfl) ?_
      rintro a w1 hC hx hd K hK
      have HC := Lib.hid hC
      clear hC
      obtain ⟨x, y, z, g1, hF⟩ := (hd 5 17 (by kernel_rfl) rfl).1
      have tt := Reg.slot_val g1
      clear g1
      go_simp
      exact hK _ _ ⟨x, y, z, rfl, hF⟩ trivial HC.out (Below.refl _ _)
    · refine Reg6.Obl.late rfl (by kernel_rfl) ?_
      rintro a w1 hx hd K hK
      obtain ⟨x, y, z, g1, hF⟩ := hd 5 17 (by kernel_rfl) rfl
      have tt := Reg.slot_val g1
      clear g1
      go_simp
      exact hK _ rfl (fun w hD => by obtain ⟨b, e, h⟩ := hD; exact ⟨b, (evalPutNe (by decide)).trans e, h⟩)
    · refine Reg6.Obl.early rfl (by kernel_rfl) ?_
      rintro a w1 hC hx hd K hK
      have HC := Lib.hid hC
      clear hC
      go_simp
      exact hK _ _ trivial ⟨w1.heap.size, rfl, HC.out.size, Z3.new⟩ (HC.out.alloc HC.out.size _) ((Below.refl _ _).alloc (Nat.le_refl _) _)
    · refine Reg6.Obl.store rfl ?_
      rintro a w1 hC hx hd K hK
      have HC := Lib.hid hC
      clear hC
      obtain ⟨b, gb, hbl, hZ⟩ := (hd 8 7 (by kernel_rfl) rfl).2
      have tb := Reg.slot_val gb
      obtain ⟨x, y, z, g1, hF⟩ := (hd 6 23 (by kernel_rfl) rfl).1
      have tt := Reg.slot_val g1
      clear g1
      have GB := Lib.hid gb
      have HZ := Lib.hid hZ
      have HF := Lib.hid hF
      obtain ⟨⟨y0, y1, y2⟩, yf⟩ := hZ
      have f0 := yf 0
      have f1 := yf 1
      have f2 := yf 2
      clear yf gb hF
      go_simp
      exact hK _ ⟨b, GB.out, hbl, below_set3 HC.out hbl, ⟨x, y, z, set3 HZ.out.1.1 HZ.out.1.2.1 HZ.out.1.2.2, HF.out⟩⟩
    · refine Reg6.Obl.late rfl (by kernel_rfl) ?_
      rintro a w1 hx hd K hK
      have t24 : a.tmps[24]?.getD undef = .bool ok := Reg.slot_val (hd 7 24 (by kernel_rfl) rfl)
      go_simp
      exact hK _ rfl (fun w hD => by obtain ⟨b, e, h⟩ := hD; exact ⟨b, (evalPutNe (by decide)).trans e, h⟩)
  rintro f w2 hD hv
  obtain ⟨X, e6, hbl, hB, hT⟩ := hD
  have g6 : f 7 = .pointer (some ⟨X, 0, none⟩) := e6
  have g7 : f 8 = .bool ok := hv 10 8 rfl
  clear e6 hv
  simp only [Reg.mixL, g6, g7]
  have B2 := Lib.hid (B1.out.trans (hB.mono B1.out.size))
  have T2 := T1.out.call hB
  clear hB hbl g6 g7
  obtain ⟨sx, sy, sz, ⟨s0, s1, s2⟩, hs⟩ := T2
  obtain ⟨gx, gy, gz, ⟨g0, g1, g2⟩, hg⟩ := hT
  have HS := Lib.hid hs
  have HG := Lib.hid hg
  clear hs hg
  have hv1 : (ok == ok) = true := by simp
  have hv2 : (ok != ok) = false := by simp
  go_wp2_with fail
  refine (laws_eqVector _ _ _ _ _ _ _ _ _ _ HG.out.1 HG.out.2.1 HG.out.2.2 HS.out.1 HS.out.2.1 HS.out.2.2).mono ?_
  rintro en w3 ⟨rfl, hB3⟩
  have B3 := Lib.hid (B2.out.trans (hB3.mono B2.out.size))
  clear hB3
  go_wp2
  go_ret
  exact ⟨rfl, B3.out⟩
set_option maxHeartbeats 2000000 in
theorem FnExactHoldPlace_law (h : HW) (p q r : Nat) (w : World) (f : h.fit) (v : p < 2 ^ FloatKind.f32.format.width ∧ q < 2 ^ FloatKind.f32.format.width ∧ r < 2 ^ FloatKind.f32.format.width) :
    Calls Try.prog 6 #[h.v, vv p q r] w fun e w' => e = .returned (.bool true) ∧ Below w.heap.size w w' := by
  have uh := Try.underlying30
  have ul := Try.underlying26
  have uv := Try.underlying28
  have ulv := Try.underlying24
  have JT := Lib.hid (fun w => laws_toHold h w)
  have JS := Lib.hid (fun w => spec_HoldPlace h h.cls p q r (cls .f32 p, cls .f32 q, cls .f32 r) w f.is ⟨FV.self v.1, FV.self v.2.1, FV.self v.2.2⟩)
  have JI := Lib.hid (fun w => impl_HoldPlace h h.cls p q r (cls .f32 p, cls .f32 q, cls .f32 r) w f.is ⟨FV.self v.1, FV.self v.2.1, FV.self v.2.2⟩)
  clear f v
  generalize placeC h.cls (cls .f32 p, cls .f32 q, cls .f32 r) = D at *
  generalize holdB h.cls = ok at *
  have A0 : Hid (Go.Proofs.Ytljpjmkickkcpaa.At ((w.alloc (HBox h 26)).alloc (.cells #[.float .f32 p, .float .f32 q, .float .f32 r] 24)) w.heap.size h.l) := Lib.hid At.new.alloc
  have V0 : Hid (Go.Proofs.Ytljpjmkickkcpaa.At ((w.alloc (HBox h 26)).alloc (.cells #[.float .f32 p, .float .f32 q, .float .f32 r] 24)) (w.heap.size + 1) [.float .f32 p, .float .f32 q, .float .f32 r]) := Lib.hid (by
    have := At.new (w := w.alloc (HBox h 26)) (vs := [.float .f32 p, .float .f32 q, .float .f32 r]) (t := 24)
    rw [World.size_alloc] at this
    exact this)
  have B0 : Hid (Below w.heap.size w ((w.alloc (HBox h 26)).alloc (.cells #[.float .f32 p, .float .f32 q, .float .f32 r] 24))) := Lib.hid (((Below.refl _ _).alloc (Nat.le_refl _) _).alloc (by simp) _)
  unfold HW.v at *
  go_enter Try.func6, Try.ntmps6
  go_wp2_with fail
  change (Code.region _ _ _).wp _ _ _ ((w.alloc (HBox h 26)).alloc (.cells #[.float .f32 p, .float .f32 q, .float .f32 r] 24))
  generalize ((w.alloc (HBox h 26)).alloc (.cells #[.float .f32 p, .float .f32 q, .float .f32 r] 24)) = W at *
  refine Reg6.wp_region_mix (s := 9) (C := fun w' => Below W.heap.size W w') (D := fun a w' => ∃ b, a.eval (.tmp 5) = .pointer (some ⟨b, 0, none⟩) ∧ W.heap.size ≤ b ∧ Below W.heap.size W w' ∧ TV b (D) w') (G := fun w1 w2 => Below w1.heap.size w1 w2) (Rv := fun i v => match i with | 0 => v = .agg #[.int .i64 h.p, .int .i64 h.k, .float .f32 h.x, .float .f32 h.y, .float .f32 h.z, .float .f32 h.s, .float .f32 h.t, .float .f32 h.u] | 1 => v = .agg #[.int .i64 h.p, .int .i64 h.k, .float .f32 h.x, .float .f32 h.y, .float .f32 h.z, .float .f32 h.s, .float .f32 h.t, .float .f32 h.u] | 2 => v = .agg #[.float .f32 p, .float .f32 q, .float .f32 r] | 3 => v = .agg #[.float .f32 p, .float .f32 q, .float .f32 r] | 4 => ∃ p q r, v = .tuple #[vv p q r, .bool ok] ∧ F3 p q r (D) | 5 => ∃ p q r, v = .tuple #[vv p q r, .bool ok] ∧ F3 p q r (D) | 6 => ∃ p q r, v = vv p q r ∧ F3 p q r (D) | 7 => v = .bool ok | 10 => v = .bool ok | _ => True) (Rw := fun i v w' => match i with | 8 => ∃ b, v = .pointer (some ⟨b, 0, none⟩) ∧ W.heap.size ≤ b ∧ Z3 w' b | _ => True) [false, false, false, false, false, true, true, false, false, true, true, true, true, true, true, true, true, false, false, false, false, false, false, false, false, false, false, false, false, false, false, false, false, false]
    (by kernel_rfl) (by kernel_rfl) (by kernel_rfl) ?_ (below_drewN (Below.refl _ _) 1) ?_ ?_
  · intro j v w1 w2 hC hG hR
    match j with
    | 0 => trivial
    | 1 => trivial
    | 2 => trivial
    | 3 => trivial
    | 4 => trivial
    | 5 => trivial
    | 6 => trivial
    | 7 => trivial
    | 8 => obtain ⟨b, e, h1, h2⟩ := hR; exact ⟨b, e, h1, h2.below hG⟩
    | 9 => trivial
    | 10 => trivial
    | _ + 11 => trivial
  · refine ⟨?_, ?_, ?_, ?_, ?_, ?_, ?_, ?_, ?_, ?_, ?_, trivial⟩
    · refine Reg6.Obl.early rfl (by kernel_rfl) ?_
      rintro a w1 hC hx hd K hK
      have HC := Lib.hid hC
      clear hC
      have t2 : a.tmps[2]?.getD undef = .pointer (some ⟨w.heap.size, 0, none⟩) := Reg.slot_val (hx 2 (by kernel_rfl))
      have y0 := A0.out.below HC.out 0 _ rfl
      have y1 := A0.out.below HC.out 1 _ rfl
      have y2 := A0.out.below HC.out 2 _ rfl
      have y3 := A0.out.below HC.out 3 _ rfl
      have y4 := A0.out.below HC.out 4 _ rfl
      have y5 := A0.out.below HC.out 5 _ rfl
      have y6 := A0.out.below HC.out 6 _ rfl
      have y7 := A0.out.below HC.out 7 _ rfl
      go_simp
      exact hK _ _ rfl trivial HC.out (Below.refl _ _)
    · refine Reg6.Obl.early rfl (by kernel_rfl) ?_
      rintro a w1 hC hx hd K hK
      have HC := Lib.hid hC
      clear hC
      have t10 : a.tmps[10]?.getD undef = .agg #[.int .i64 h.p, .int .i64 h.k, .float .f32 h.x, .float .f32 h.y, .float .f32 h.z, .float .f32 h.s, .float .f32 h.t, .float .f32 h.u] := Reg.slot_val (hd 0 10 (by kernel_rfl) rfl).1
      go_simp
      refine (JT.out _).mono ?_
      rintro en w2 ⟨rfl, hB2⟩
      exact hK _ _ rfl trivial (HC.out.trans (hB2.mono HC.out.size)) hB2
    · refine Reg6.Obl.early rfl (by kernel_rfl) ?_
      rintro a w1 hC hx hd K hK
      have HC := Lib.hid hC
      clear hC
      have t3 : a.tmps[3]?.getD undef = .pointer (some ⟨w.heap.size + 1, 0, none⟩) := Reg.slot_val (hx 3 (by kernel_rfl))
      have z0 := V0.out.below HC.out 0 _ rfl
      have z1 := V0.out.below HC.out 1 _ rfl
      have z2 := V0.out.below HC.out 2 _ rfl
      go_simp
      exact hK _ _ rfl trivial HC.out (Below.refl _ _)
    · refine Reg6.Obl.early rfl (by kernel_rfl) ?_
      rintro a w1 hC hx hd K hK
      have HC := Lib.hid hC
      clear hC
      have t12 : a.tmps[12]?.getD undef = .agg #[.float .f32 p, .float .f32 q, .float .f32 r] := Reg.slot_val (hd 2 12 (by kernel_rfl) rfl).1
      go_simp
      refine (laws_toVector _ _ _ _).mono ?_
      rintro en w2 ⟨rfl, hB2⟩
      exact hK _ _ rfl trivial (HC.out.trans (hB2.mono HC.out.size)) hB2
    · refine Reg6.Obl.early rfl (by kernel_rfl) ?_
      rintro a w1 hC hx hd K hK
      have HC := Lib.hid hC
      clear hC
      have t11 : a.tmps[11]?.getD undef = .agg #[.int .i64 h.p, .int .i64 h.k, .float .f32 h.x, .float .f32 h.y, .float .f32 h.z, .float .f32 h.s, .float .f32 h.t, .float .f32 h.u] := Reg.slot_val (hd 1 11 (by kernel_rfl) rfl).1
      have t13 : a.tmps[13]?.getD undef = .agg #[.float .f32 p, .float .f32 q, .float .f32 r] := Reg.slot_val (hd 3 13 (by kernel_rfl) rfl).1
      go_simp
      refine (JS.out _).mono ?_
      rintro en w2 ⟨x, y, z, rfl, hF, hB2⟩
      exact hK _ _ ⟨x, y, z, rfl, hF⟩ trivial (HC.out.trans (hB2.mono HC.out.size)) hB2
    · refine Reg6.Obl.early rfl (by kernel_rfl) ?_
      rintro a w1 hC hx hd K hK
      have HC := Lib.hid hC
      clear hC
      obtain ⟨x, y, z, g1, hF⟩ := (hd 4 14 (by kernel_rfl) rfl).1
      have tt := Reg.slot_val g1
      clear g1
      go_simp
      exact hK _ _ ⟨x, y, z, rfl, hF⟩ trivial HC.out (Below.refl _ _)
    · refine Reg6.Obl.early rfl (by kernel_rfl) ?_
      rintro a w1 hC hx hd K hK
      have HC := Lib.hid hC
      clear hC
      obtain ⟨x, y, z, g1, hF⟩ := (hd 5 9 (by kernel_rfl) rfl).1
      have tt := Reg.slot_val g1
      clear g1
      go_simp
      exact hK _ _ ⟨x, y, z, rfl, hF⟩ trivial HC.out (Below.refl _ _)
    · refine Reg6.Obl.late rfl (by kernel_rfl) ?_
      rintro a w1 hx hd K hK
      obtain ⟨x, y, z, g1, hF⟩ := hd 5 9 (by kernel_rfl) rfl
      have tt := Reg.slot_val g1
      clear g1
      go_simp
      exact hK _ rfl (fun w hD => by obtain ⟨b, e, h⟩ := hD; exact ⟨b, (evalPutNe (by decide)).trans e, h⟩)
    · refine Reg6.Obl.early rfl (by kernel_rfl) ?_
      rintro a w1 hC hx hd K hK
      have HC := Lib.hid hC
      clear hC
      go_simp
      exact hK _ _ trivial ⟨w1.heap.size, rfl, HC.out.size, Z3.new⟩ (HC.out.alloc HC.out.size _) ((Below.refl _ _).alloc (Nat.le_refl _) _)
    · refine Reg6.Obl.store rfl ?_
      rintro a w1 hC hx hd K hK
      have HC := Lib.hid hC
      clear hC
      obtain ⟨b, gb, hbl, hZ⟩ := (hd 8 5 (by kernel_rfl) rfl).2
      have tb := Reg.slot_val gb
      obtain ⟨x, y, z, g1, hF⟩ := (hd 6 15 (by kernel_rfl) rfl).1
      have tt := Reg.slot_val g1
      clear g1
      have GB := Lib.hid gb
      have HZ := Lib.hid hZ
      have HF := Lib.hid hF
      obtain ⟨⟨y0, y1, y2⟩, yf⟩ := hZ
      have f0 := yf 0
      have f1 := yf 1
      have f2 := yf 2
      clear yf gb hF
      go_simp
      exact hK _ ⟨b, GB.out, hbl, below_set3 HC.out hbl, ⟨x, y, z, set3 HZ.out.1.1 HZ.out.1.2.1 HZ.out.1.2.2, HF.out⟩⟩
    · refine Reg6.Obl.late rfl (by kernel_rfl) ?_
      rintro a w1 hx hd K hK
      have t16 : a.tmps[16]?.getD undef = .bool ok := Reg.slot_val (hd 7 16 (by kernel_rfl) rfl)
      go_simp
      exact hK _ rfl (fun w hD => by obtain ⟨b, e, h⟩ := hD; exact ⟨b, (evalPutNe (by decide)).trans e, h⟩)
  rintro f w1 hD hv
  obtain ⟨S, e6, hbl, hB, hT⟩ := hD
  have g6 : f 5 = .pointer (some ⟨S, 0, none⟩) := e6
  have g7 : f 6 = .bool ok := hv 10 6 rfl
  clear e6 hv
  simp only [Reg.mixL, g6, g7]
  have A1 := Lib.hid (A0.out.below hB)
  have V1 := Lib.hid (V0.out.below hB)
  have B1 := Lib.hid (B0.out.trans (hB.mono B0.out.size))
  have T1 := Lib.hid hT
  clear hB hT hbl g6 g7
  go_wp2_with fail
  refine Reg6.wp_region_mix (s := 9) (C := fun w' => Below w1.heap.size w1 w') (D := fun a w' => ∃ b, a.eval (.tmp 7) = .pointer (some ⟨b, 0, none⟩) ∧ w1.heap.size ≤ b ∧ Below w1.heap.size w1 w' ∧ TV b (D) w') (G := fun w1 w2 => Below w1.heap.size w1 w2) (Rv := fun i v => match i with | 0 => v = .agg #[.int .i64 h.p, .int .i64 h.k, .float .f32 h.x, .float .f32 h.y, .float .f32 h.z, .float .f32 h.s, .float .f32 h.t, .float .f32 h.u] | 1 => v = .agg #[.int .i64 h.p, .int .i64 h.k, .float .f32 h.x, .float .f32 h.y, .float .f32 h.z, .float .f32 h.s, .float .f32 h.t, .float .f32 h.u] | 2 => v = .agg #[.float .f32 p, .float .f32 q, .float .f32 r] | 3 => v = .agg #[.float .f32 p, .float .f32 q, .float .f32 r] | 4 => ∃ p q r, v = .tuple #[vv p q r, .bool ok] ∧ F3 p q r (D) | 5 => ∃ p q r, v = .tuple #[vv p q r, .bool ok] ∧ F3 p q r (D) | 6 => ∃ p q r, v = vv p q r ∧ F3 p q r (D) | 7 => v = .bool ok | 10 => v = .bool ok | _ => True) (Rw := fun i v w' => match i with | 8 => ∃ b, v = .pointer (some ⟨b, 0, none⟩) ∧ w1.heap.size ≤ b ∧ Z3 w' b | _ => True) [false, false, false, false, false, false, false, true, true, false, false, false, false, false, false, false, false, true, true, true, true, true, true, true, true, false, false, false, false, false, false, false, false, false]
    (by kernel_rfl) (by kernel_rfl) (by kernel_rfl) ?_ (below_drewN (Below.refl _ _) 1) ?_ ?_
  · intro j v w1 w2 hC hG hR
    match j with
    | 0 => trivial
    | 1 => trivial
    | 2 => trivial
    | 3 => trivial
    | 4 => trivial
    | 5 => trivial
    | 6 => trivial
    | 7 => trivial
    | 8 => obtain ⟨b, e, h1, h2⟩ := hR; exact ⟨b, e, h1, h2.below hG⟩
    | 9 => trivial
    | 10 => trivial
    | _ + 11 => trivial
  · refine ⟨?_, ?_, ?_, ?_, ?_, ?_, ?_, ?_, ?_, ?_, ?_, trivial⟩
    · refine Reg6.Obl.early rfl (by kernel_rfl) ?_
      rintro a w1 hC hx hd K hK
      have HC := Lib.hid hC
      clear hC
      have t2 : a.tmps[2]?.getD undef = .pointer (some ⟨w.heap.size, 0, none⟩) := Reg.slot_val (hx 2 (by kernel_rfl))
      have y0 := A1.out.below HC.out 0 _ rfl
      have y1 := A1.out.below HC.out 1 _ rfl
      have y2 := A1.out.below HC.out 2 _ rfl
      have y3 := A1.out.below HC.out 3 _ rfl
      have y4 := A1.out.below HC.out 4 _ rfl
      have y5 := A1.out.below HC.out 5 _ rfl
      have y6 := A1.out.below HC.out 6 _ rfl
      have y7 := A1.out.below HC.out 7 _ rfl
      go_simp
      exact hK _ _ rfl trivial HC.out (Below.refl _ _)
    · refine Reg6.Obl.early rfl (by kernel_rfl) ?_
      rintro a w1 hC hx hd K hK
      have HC := Lib.hid hC
      clear hC
      have t18 : a.tmps[18]?.getD undef = .agg #[.int .i64 h.p, .int .i64 h.k, .float .f32 h.x, .float .f32 h.y, .float .f32 h.z, .float .f32 h.s, .float .f32 h.t, .float .f32 h.u] := Reg.slot_val (hd 0 18 (by kernel_rfl) rfl).1
      go_simp
      refine (JT.out _).mono ?_
      rintro en w2 ⟨rfl, hB2⟩
      exact hK _ _ rfl trivial (HC.out.trans (hB2.mono HC.out.size)) hB2
    · refine Reg6.Obl.early rfl (by kernel_rfl) ?_
      rintro a w1 hC hx hd K hK
      have HC := Lib.hid hC
      clear hC
      have t3 : a.tmps[3]?.getD undef = .pointer (some ⟨w.heap.size + 1, 0, none⟩) := Reg.slot_val (hx 3 (by kernel_rfl))
      have z0 := V1.out.below HC.out 0 _ rfl
      have z1 := V1.out.below HC.out 1 _ rfl
      have z2 := V1.out.below HC.out 2 _ rfl
      go_simp
      exact hK _ _ rfl trivial HC.out (Below.refl _ _)
    · refine Reg6.Obl.early rfl (by kernel_rfl) ?_
      rintro a w1 hC hx hd K hK
      have HC := Lib.hid hC
      clear hC
      have t20 : a.tmps[20]?.getD undef = .agg #[.float .f32 p, .float .f32 q, .float .f32 r] := Reg.slot_val (hd 2 20 (by kernel_rfl) rfl).1
      go_simp
      refine (laws_toVector _ _ _ _).mono ?_
      rintro en w2 ⟨rfl, hB2⟩
      exact hK _ _ rfl trivial (HC.out.trans (hB2.mono HC.out.size)) hB2
    · refine Reg6.Obl.early rfl (by kernel_rfl) ?_
      rintro a w1 hC hx hd K hK
      have HC := Lib.hid hC
      clear hC
      have t19 : a.tmps[19]?.getD undef = .agg #[.int .i64 h.p, .int .i64 h.k, .float .f32 h.x, .float .f32 h.y, .float .f32 h.z, .float .f32 h.s, .float .f32 h.t, .float .f32 h.u] := Reg.slot_val (hd 1 19 (by kernel_rfl) rfl).1
      have t21 : a.tmps[21]?.getD undef = .agg #[.float .f32 p, .float .f32 q, .float .f32 r] := Reg.slot_val (hd 3 21 (by kernel_rfl) rfl).1
      go_simp
      refine (JI.out _).mono ?_
      rintro en w2 ⟨x, y, z, rfl, hF, hB2⟩
      exact hK _ _ ⟨x, y, z, rfl, hF⟩ trivial (HC.out.trans (hB2.mono HC.out.size)) hB2
    · refine Reg6.Obl.early rfl (by kernel_rfl) ?_
      rintro a w1 hC hx hd K hK
      have HC := Lib.hid hC
      clear hC
      obtain ⟨x, y, z, g1, hF⟩ := (hd 4 22 (by kernel_rfl) rfl).1
      have tt := Reg.slot_val g1
      clear g1
      go_simp
      exact hK _ _ ⟨x, y, z, rfl, hF⟩ trivial HC.out (Below.refl _ _)
    · refine Reg6.Obl.early rfl (by kernel_rfl) ?_
      rintro a w1 hC hx hd K hK
      have HC := Lib.hid hC
      clear hC
      obtain ⟨x, y, z, g1, hF⟩ := (hd 5 17 (by kernel_rfl) rfl).1
      have tt := Reg.slot_val g1
      clear g1
      go_simp
      exact hK _ _ ⟨x, y, z, rfl, hF⟩ trivial HC.out (Below.refl _ _)
    · refine Reg6.Obl.late rfl (by kernel_rfl) ?_
      rintro a w1 hx hd K hK
      obtain ⟨x, y, z, g1, hF⟩ := hd 5 17 (by kernel_rfl) rfl
      have tt := Reg.slot_val g1
      clear g1
      go_simp
      exact hK _ rfl (fun w hD => by obtain ⟨b, e, h⟩ := hD; exact ⟨b, (evalPutNe (by decide)).trans e, h⟩)
    · refine Reg6.Obl.early rfl (by kernel_rfl) ?_
      rintro a w1 hC hx hd K hK
      have HC := Lib.hid hC
      clear hC
      go_simp
      exact hK _ _ trivial ⟨w1.heap.size, rfl, HC.out.size, Z3.new⟩ (HC.out.alloc HC.out.size _) ((Below.refl _ _).alloc (Nat.le_refl _) _)
    · refine Reg6.Obl.store rfl ?_
      rintro a w1 hC hx hd K hK
      have HC := Lib.hid hC
      clear hC
      obtain ⟨b, gb, hbl, hZ⟩ := (hd 8 7 (by kernel_rfl) rfl).2
      have tb := Reg.slot_val gb
      obtain ⟨x, y, z, g1, hF⟩ := (hd 6 23 (by kernel_rfl) rfl).1
      have tt := Reg.slot_val g1
      clear g1
      have GB := Lib.hid gb
      have HZ := Lib.hid hZ
      have HF := Lib.hid hF
      obtain ⟨⟨y0, y1, y2⟩, yf⟩ := hZ
      have f0 := yf 0
      have f1 := yf 1
      have f2 := yf 2
      clear yf gb hF
      go_simp
      exact hK _ ⟨b, GB.out, hbl, below_set3 HC.out hbl, ⟨x, y, z, set3 HZ.out.1.1 HZ.out.1.2.1 HZ.out.1.2.2, HF.out⟩⟩
    · refine Reg6.Obl.late rfl (by kernel_rfl) ?_
      rintro a w1 hx hd K hK
      have t24 : a.tmps[24]?.getD undef = .bool ok := Reg.slot_val (hd 7 24 (by kernel_rfl) rfl)
      go_simp
      exact hK _ rfl (fun w hD => by obtain ⟨b, e, h⟩ := hD; exact ⟨b, (evalPutNe (by decide)).trans e, h⟩)
  rintro f w2 hD hv
  obtain ⟨X, e6, hbl, hB, hT⟩ := hD
  have g6 : f 7 = .pointer (some ⟨X, 0, none⟩) := e6
  have g7 : f 8 = .bool ok := hv 10 8 rfl
  clear e6 hv
  simp only [Reg.mixL, g6, g7]
  have B2 := Lib.hid (B1.out.trans (hB.mono B1.out.size))
  have T2 := T1.out.call hB
  clear hB hbl g6 g7
  obtain ⟨sx, sy, sz, ⟨s0, s1, s2⟩, hs⟩ := T2
  obtain ⟨gx, gy, gz, ⟨g0, g1, g2⟩, hg⟩ := hT
  have HS := Lib.hid hs
  have HG := Lib.hid hg
  clear hs hg
  have hv1 : (ok == ok) = true := by simp
  have hv2 : (ok != ok) = false := by simp
  go_wp2_with fail
  refine (laws_eqVector _ _ _ _ _ _ _ _ _ _ HG.out.1 HG.out.2.1 HG.out.2.2 HS.out.1 HS.out.2.1 HS.out.2.2).mono ?_
  rintro en w3 ⟨rfl, hB3⟩
  have B3 := Lib.hid (B2.out.trans (hB3.mono B2.out.size))
  clear hB3
  go_wp2
  go_ret
  exact ⟨rfl, B3.out⟩
end Go.Proofs.Ytljpjmkickkcpaa

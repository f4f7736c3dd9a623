/-
Texts in one: what SwingOf stands on, part 12. Conditions: those of each.
-/
import Derived.Test.YtkdoibglgkcbkaaKSwingOf11

/-
The copy of a body that the law makes. Conditions: at most 2^20 of each.
-/
namespace Go.Proofs.Ytkdoibglgkcbkaa
open Go Fk Go.RowKit
set_option linter.unusedVariables false
set_option maxRecDepth 8000

theorem _root_.Go.Proofs.Ytkdoibglgkcbkaa.IsFs_set {w : World} {a : Addr} {v : Value} {b len cap : Nat} {o : Nat} {zs : List Nat} (h : IsFs .f32 w (some ⟨b, o, none⟩) len cap zs) (hne : a.block ≠ b) : IsFs .f32 (w.setCell a v) (some ⟨b, o, none⟩) len cap zs := by
  obtain ⟨h1, h2, h3, h4, h5, h6⟩ := h
  refine ⟨h1, h2, h3, h4, h5, fun x hx i hi => ?_⟩
  have hc := h6 x hx i hi
  cases hx
  rw [addr_add'] at hc ⊢
  rw [World.cell?_setCell_other _ _ _ _ (by intro h; apply hne; rw [h])]; exact hc
abbrev Z9 : List Value := [.slice none 0 0, .slice none 0 0, .slice none 0 0, .float .f32 0, .float .f32 0, .slice none 0 0, .float .f32 0, .float .f32 0, .float .f32 0]
theorem ne_sl {a : Option Addr} {l c : Nat} : ∀ z, (.slice a l c : Value) ≠ .int .i64 z := fun z h => by cases h
theorem ne_fl {x : Nat} : ∀ z, (.float .f32 x : Value) ≠ .int .i64 z := fun z h => by cases h
set_option maxHeartbeats 2000000 in
theorem laws_toBody (B : Bd) (c : Bc) (w : World) (h : IsB w B c) (hs : SmallB c) :
    Calls Try.prog 40 #[B.v] w fun e w' => ∃ B' : Bd, e = .returned B'.v ∧ IsB w' B' c ∧ Below w.heap.size w w' := by
  have ul := Try.underlying62
  have ui := Try.underlying69
  have ulm := Try.underlying48
  have uim := Try.underlying41
  have ulv := Try.underlying60
  have uiv := Try.underlying67
  have u := Try.underlying22
  have hsl : B.sl ≤ 1048576 := by rw [← h.2.2.1.1]; exact hs.2.1
  have hwl : B.wl ≤ 1048576 := by rw [← h.2.2.2.1.1]; exact hs.2.2
  have H := Lib.hid h
  have HS := Lib.hid hs
  clear h hs
  go_enter Try.func40, Try.ntmps40
  go_wp2_with fail
  have a0 : At (((w.alloc (.cells #[.slice B.pa B.pl B.pc, .slice B.ta B.tl B.tc, .slice B.sa B.sl B.sc, .float .f32 B.film, .float .f32 B.bend, .slice B.wa B.wl B.wc, .float .f32 B.x, .float .f32 B.y, .float .f32 B.z] 62)).alloc (.cells #[.slice none 0 0, .slice none 0 0, .slice none 0 0, .float .f32 0, .float .f32 0, .slice none 0 0, .float .f32 0, .float .f32 0, .float .f32 0] 69)).alloc (.cells #[.slice none 0 0, .slice none 0 0, .slice none 0 0, .float .f32 0, .float .f32 0, .slice none 0 0, .float .f32 0, .float .f32 0, .float .f32 0] 69)) w.heap.size B.l := At.new.alloc.alloc
  have r0 : At (((w.alloc (.cells #[.slice B.pa B.pl B.pc, .slice B.ta B.tl B.tc, .slice B.sa B.sl B.sc, .float .f32 B.film, .float .f32 B.bend, .slice B.wa B.wl B.wc, .float .f32 B.x, .float .f32 B.y, .float .f32 B.z] 62)).alloc (.cells #[.slice none 0 0, .slice none 0 0, .slice none 0 0, .float .f32 0, .float .f32 0, .slice none 0 0, .float .f32 0, .float .f32 0, .float .f32 0] 69)).alloc (.cells #[.slice none 0 0, .slice none 0 0, .slice none 0 0, .float .f32 0, .float .f32 0, .slice none 0 0, .float .f32 0, .float .f32 0, .float .f32 0] 69)) (w.heap.size + 1) Z9 := by
    have := (At.new (w := w.alloc (.cells #[.slice B.pa B.pl B.pc, .slice B.ta B.tl B.tc, .slice B.sa B.sl B.sc, .float .f32 B.film, .float .f32 B.bend, .slice B.wa B.wl B.wc, .float .f32 B.x, .float .f32 B.y, .float .f32 B.z] 62)) (vs := Z9) (t := 69)).alloc (o := (.cells #[.slice none 0 0, .slice none 0 0, .slice none 0 0, .float .f32 0, .float .f32 0, .slice none 0 0, .float .f32 0, .float .f32 0, .float .f32 0] 69))
    simpa using this
  have o0 : At (((w.alloc (.cells #[.slice B.pa B.pl B.pc, .slice B.ta B.tl B.tc, .slice B.sa B.sl B.sc, .float .f32 B.film, .float .f32 B.bend, .slice B.wa B.wl B.wc, .float .f32 B.x, .float .f32 B.y, .float .f32 B.z] 62)).alloc (.cells #[.slice none 0 0, .slice none 0 0, .slice none 0 0, .float .f32 0, .float .f32 0, .slice none 0 0, .float .f32 0, .float .f32 0, .float .f32 0] 69)).alloc (.cells #[.slice none 0 0, .slice none 0 0, .slice none 0 0, .float .f32 0, .float .f32 0, .slice none 0 0, .float .f32 0, .float .f32 0, .float .f32 0] 69)) (w.heap.size + 1 + 1) Z9 := by
    have := (At.new (w := (w.alloc (.cells #[.slice B.pa B.pl B.pc, .slice B.ta B.tl B.tc, .slice B.sa B.sl B.sc, .float .f32 B.film, .float .f32 B.bend, .slice B.wa B.wl B.wc, .float .f32 B.x, .float .f32 B.y, .float .f32 B.z] 62)).alloc (.cells #[.slice none 0 0, .slice none 0 0, .slice none 0 0, .float .f32 0, .float .f32 0, .slice none 0 0, .float .f32 0, .float .f32 0, .float .f32 0] 69)) (vs := Z9) (t := 69))
    simpa using this
  have fr0 : Fr (((w.alloc (.cells #[.slice B.pa B.pl B.pc, .slice B.ta B.tl B.tc, .slice B.sa B.sl B.sc, .float .f32 B.film, .float .f32 B.bend, .slice B.wa B.wl B.wc, .float .f32 B.x, .float .f32 B.y, .float .f32 B.z] 62)).alloc (.cells #[.slice none 0 0, .slice none 0 0, .slice none 0 0, .float .f32 0, .float .f32 0, .slice none 0 0, .float .f32 0, .float .f32 0, .float .f32 0] 69)).alloc (.cells #[.slice none 0 0, .slice none 0 0, .slice none 0 0, .float .f32 0, .float .f32 0, .slice none 0 0, .float .f32 0, .float .f32 0, .float .f32 0] 69)) (w.heap.size + 1) := fun i => by go_simp
  have fo0 : Fr (((w.alloc (.cells #[.slice B.pa B.pl B.pc, .slice B.ta B.tl B.tc, .slice B.sa B.sl B.sc, .float .f32 B.film, .float .f32 B.bend, .slice B.wa B.wl B.wc, .float .f32 B.x, .float .f32 B.y, .float .f32 B.z] 62)).alloc (.cells #[.slice none 0 0, .slice none 0 0, .slice none 0 0, .float .f32 0, .float .f32 0, .slice none 0 0, .float .f32 0, .float .f32 0, .float .f32 0] 69)).alloc (.cells #[.slice none 0 0, .slice none 0 0, .slice none 0 0, .float .f32 0, .float .f32 0, .slice none 0 0, .float .f32 0, .float .f32 0, .float .f32 0] 69)) (w.heap.size + 1 + 1) := fun i => by go_simp
  have b0 : Below w.heap.size w (((w.alloc (.cells #[.slice B.pa B.pl B.pc, .slice B.ta B.tl B.tc, .slice B.sa B.sl B.sc, .float .f32 B.film, .float .f32 B.bend, .slice B.wa B.wl B.wc, .float .f32 B.x, .float .f32 B.y, .float .f32 B.z] 62)).alloc (.cells #[.slice none 0 0, .slice none 0 0, .slice none 0 0, .float .f32 0, .float .f32 0, .slice none 0 0, .float .f32 0, .float .f32 0, .float .f32 0] 69)).alloc (.cells #[.slice none 0 0, .slice none 0 0, .slice none 0 0, .float .f32 0, .float .f32 0, .slice none 0 0, .float .f32 0, .float .f32 0, .float .f32 0] 69)) := (((Below.refl _ _).alloc (Nat.le_refl _) _).alloc (by simp) _).alloc (by simp <;> omega) _
  generalize (((w.alloc (.cells #[.slice B.pa B.pl B.pc, .slice B.ta B.tl B.tc, .slice B.sa B.sl B.sc, .float .f32 B.film, .float .f32 B.bend, .slice B.wa B.wl B.wc, .float .f32 B.x, .float .f32 B.y, .float .f32 B.z] 62)).alloc (.cells #[.slice none 0 0, .slice none 0 0, .slice none 0 0, .float .f32 0, .float .f32 0, .slice none 0 0, .float .f32 0, .float .f32 0, .float .f32 0] 69)).alloc (.cells #[.slice none 0 0, .slice none 0 0, .slice none 0 0, .float .f32 0, .float .f32 0, .slice none 0 0, .float .f32 0, .float .f32 0, .float .f32 0] 69)) = W at *
  have A0 := Lib.hid a0
  have R0 := Lib.hid r0
  have O0 := Lib.hid o0
  have FR0 := Lib.hid fr0
  have FO0 := Lib.hid fo0
  have B0 := Lib.hid b0
  clear a0 r0 o0 fr0 fo0 b0
  have H0 := Lib.hid (H.out.below B0.out)
  refine (laws_toMesh _ _ _ _ _ _ c.cs c.ts _ H0.out.1 H0.out.2.1 HS.out.1).mono ?_
  rintro e w1 ⟨⟨b, b', rfl, hb, hb', hV, hT⟩, hB1⟩
  have l2 : w.heap.size + 1 + 1 < W.heap.size := O0.out.lt
  have A1 := Lib.hid (A0.out.below hB1)
  have R1 := Lib.hid (R0.out.below hB1)
  have O1 := Lib.hid (O0.out.below hB1)
  have FR1 := Lib.hid (FR0.out.below hB1 R0.out.lt)
  have FO1 := Lib.hid (FO0.out.below hB1 O0.out.lt)
  have B1 := Lib.hid (B0.out.trans (hB1.mono B0.out.size))
  have V1 := Lib.hid hV
  have T1 := Lib.hid hT
  have NB := Lib.hid (And.intro (show w.heap.size + 1 + 1 ≠ b by omega) (And.intro (show w.heap.size + 1 + 1 ≠ b' by omega) (And.intro (show w.heap.size + 1 ≠ b by omega) (show w.heap.size + 1 ≠ b' by omega))))
  clear hV hT hB1 hb hb' l2
  have k2 := A1.out 2 _ rfl
  have e0 := O1.out 0 _ rfl
  have e1 := O1.out 1 _ rfl
  have g0 := FO1.out 0
  have g1 := FO1.out 1
  go_wp2_with fail
  clear k2 e0 e1 g0 g1
  have b2 := (B1.out.setCell (p := ⟨w.heap.size + 1 + 1, 0, none⟩) (show w.heap.size ≤ w.heap.size + 1 + 1 by omega) (.slice (some ⟨b, 0, none⟩) B.pl B.pl)).setCell (p := ⟨w.heap.size + 1 + 1, 1, none⟩) (show w.heap.size ≤ w.heap.size + 1 + 1 by omega) (.slice (some ⟨b', 0, none⟩) B.tl B.tl)
  have a2 := (A1.out.far (a := ⟨w.heap.size + 1 + 1, 0, none⟩) (u := .slice (some ⟨b, 0, none⟩) B.pl B.pl) (show w.heap.size + 1 + 1 ≠ w.heap.size by omega)).far (a := ⟨w.heap.size + 1 + 1, 1, none⟩) (u := .slice (some ⟨b', 0, none⟩) B.tl B.tl) (show w.heap.size + 1 + 1 ≠ w.heap.size by omega)
  have r2 := (R1.out.far (a := ⟨w.heap.size + 1 + 1, 0, none⟩) (u := .slice (some ⟨b, 0, none⟩) B.pl B.pl) (show w.heap.size + 1 + 1 ≠ w.heap.size + 1 by omega)).far (a := ⟨w.heap.size + 1 + 1, 1, none⟩) (u := .slice (some ⟨b', 0, none⟩) B.tl B.tl) (show w.heap.size + 1 + 1 ≠ w.heap.size + 1 by omega)
  have o2 : At _ (w.heap.size + 1 + 1) [.slice (some ⟨b, 0, none⟩) B.pl B.pl, .slice (some ⟨b', 0, none⟩) B.tl B.tl, .slice none 0 0, .float .f32 0, .float .f32 0, .slice none 0 0, .float .f32 0, .float .f32 0, .float .f32 0] := (O1.out.set 0 (.slice (some ⟨b, 0, none⟩) B.pl B.pl)).set 1 (.slice (some ⟨b', 0, none⟩) B.tl B.tl)
  have fr2 := (FR1.out.setC (a := ⟨w.heap.size + 1 + 1, 0, none⟩) (u := .slice (some ⟨b, 0, none⟩) B.pl B.pl)).setC (a := ⟨w.heap.size + 1 + 1, 1, none⟩) (u := .slice (some ⟨b', 0, none⟩) B.tl B.tl)
  have fo2 := (FO1.out.setC (a := ⟨w.heap.size + 1 + 1, 0, none⟩) (u := .slice (some ⟨b, 0, none⟩) B.pl B.pl)).setC (a := ⟨w.heap.size + 1 + 1, 1, none⟩) (u := .slice (some ⟨b', 0, none⟩) B.tl B.tl)
  have v2 := (V1.out.set (a := ⟨w.heap.size + 1 + 1, 0, none⟩) (v := .slice (some ⟨b, 0, none⟩) B.pl B.pl) NB.out.1).set (a := ⟨w.heap.size + 1 + 1, 1, none⟩) (v := .slice (some ⟨b', 0, none⟩) B.tl B.tl) NB.out.1
  have t2 := (T1.out.setN (a := ⟨w.heap.size + 1 + 1, 0, none⟩) (v := .slice (some ⟨b, 0, none⟩) B.pl B.pl) NB.out.2.1 (O1.out 0 _ rfl) ne_sl).setN (a := ⟨w.heap.size + 1 + 1, 1, none⟩) (v := .slice (some ⟨b', 0, none⟩) B.tl B.tl) NB.out.2.1 (O1.out.set 0 _ 1 _ rfl) ne_sl
  generalize ((w1.setCell ⟨w.heap.size + 1 + 1, 0, none⟩ (.slice (some ⟨b, 0, none⟩) B.pl B.pl)).setCell ⟨w.heap.size + 1 + 1, 1, none⟩ (.slice (some ⟨b', 0, none⟩) B.tl B.tl)) = W1 at *
  have l2 : w.heap.size + 1 + 1 < W1.heap.size := o2.lt
  refine (laws_toSpringS _ _ _ c.ss _ (H.out.below b2).2.2.1 hsl).mono ?_
  rintro e w2 ⟨rfl, hSp, hB2, -⟩
  have A2 := Lib.hid (a2.below hB2)
  have R2 := Lib.hid (r2.below hB2)
  have O2 := Lib.hid (o2.below hB2)
  have FR2 := Lib.hid (fr2.below hB2 r2.lt)
  have FO2 := Lib.hid (fo2.below hB2 o2.lt)
  have B2 := Lib.hid (b2.trans (hB2.mono b2.size))
  have V2 := Lib.hid (v2.below hB2)
  have T2 := Lib.hid (t2.below hB2)
  have S2 := Lib.hid hSp
  generalize W1.heap.size = gs at *
  have NS := Lib.hid (And.intro (show w.heap.size + 1 + 1 ≠ gs by omega) (show w.heap.size + 1 ≠ gs by omega))
  clear a2 r2 o2 fr2 fo2 b2 v2 t2 hSp hB2 l2
  have k3 := A2.out 3 _ rfl
  have k4 := A2.out 4 _ rfl
  have k5 := A2.out 5 _ rfl
  have e2 := O2.out 2 _ rfl
  have e3 := O2.out 3 _ rfl
  have e4 := O2.out 4 _ rfl
  have g2 := FO2.out 2
  have g3 := FO2.out 3
  have g4 := FO2.out 4
  go_wp2_with fail
  clear k3 k4 k5 e2 e3 e4 g2 g3 g4
  have b3 := ((B2.out.setCell (p := ⟨w.heap.size + 1 + 1, 2, none⟩) (show w.heap.size ≤ w.heap.size + 1 + 1 by omega) (.slice (some ⟨gs, 0, none⟩) B.sl B.sl)).setCell (p := ⟨w.heap.size + 1 + 1, 3, none⟩) (show w.heap.size ≤ w.heap.size + 1 + 1 by omega) (.float .f32 B.film)).setCell (p := ⟨w.heap.size + 1 + 1, 4, none⟩) (show w.heap.size ≤ w.heap.size + 1 + 1 by omega) (.float .f32 B.bend)
  have a3 := ((A2.out.far (a := ⟨w.heap.size + 1 + 1, 2, none⟩) (u := (.slice (some ⟨gs, 0, none⟩) B.sl B.sl)) (show w.heap.size + 1 + 1 ≠ w.heap.size by omega)).far (a := ⟨w.heap.size + 1 + 1, 3, none⟩) (u := (.float .f32 B.film)) (show w.heap.size + 1 + 1 ≠ w.heap.size by omega)).far (a := ⟨w.heap.size + 1 + 1, 4, none⟩) (u := (.float .f32 B.bend)) (show w.heap.size + 1 + 1 ≠ w.heap.size by omega)
  have r3 := ((R2.out.far (a := ⟨w.heap.size + 1 + 1, 2, none⟩) (u := (.slice (some ⟨gs, 0, none⟩) B.sl B.sl)) (show w.heap.size + 1 + 1 ≠ w.heap.size + 1 by omega)).far (a := ⟨w.heap.size + 1 + 1, 3, none⟩) (u := (.float .f32 B.film)) (show w.heap.size + 1 + 1 ≠ w.heap.size + 1 by omega)).far (a := ⟨w.heap.size + 1 + 1, 4, none⟩) (u := (.float .f32 B.bend)) (show w.heap.size + 1 + 1 ≠ w.heap.size + 1 by omega)
  have o3 : At _ (w.heap.size + 1 + 1) [.slice (some ⟨b, 0, none⟩) B.pl B.pl, .slice (some ⟨b', 0, none⟩) B.tl B.tl, .slice (some ⟨gs, 0, none⟩) B.sl B.sl, .float .f32 B.film, .float .f32 B.bend, .slice none 0 0, .float .f32 0, .float .f32 0, .float .f32 0] := ((O2.out.set 2 (.slice (some ⟨gs, 0, none⟩) B.sl B.sl)).set 3 (.float .f32 B.film)).set 4 (.float .f32 B.bend)
  have fr3 := ((FR2.out.setC (a := ⟨w.heap.size + 1 + 1, 2, none⟩) (u := (.slice (some ⟨gs, 0, none⟩) B.sl B.sl))).setC (a := ⟨w.heap.size + 1 + 1, 3, none⟩) (u := (.float .f32 B.film))).setC (a := ⟨w.heap.size + 1 + 1, 4, none⟩) (u := (.float .f32 B.bend))
  have fo3 := ((FO2.out.setC (a := ⟨w.heap.size + 1 + 1, 2, none⟩) (u := (.slice (some ⟨gs, 0, none⟩) B.sl B.sl))).setC (a := ⟨w.heap.size + 1 + 1, 3, none⟩) (u := (.float .f32 B.film))).setC (a := ⟨w.heap.size + 1 + 1, 4, none⟩) (u := (.float .f32 B.bend))
  have v3 := ((V2.out.set (a := ⟨w.heap.size + 1 + 1, 2, none⟩) (v := (.slice (some ⟨gs, 0, none⟩) B.sl B.sl)) NB.out.1).set (a := ⟨w.heap.size + 1 + 1, 3, none⟩) (v := (.float .f32 B.film)) NB.out.1).set (a := ⟨w.heap.size + 1 + 1, 4, none⟩) (v := (.float .f32 B.bend)) NB.out.1
  have s3 := ((S2.out.set (a := ⟨w.heap.size + 1 + 1, 2, none⟩) (v := (.slice (some ⟨gs, 0, none⟩) B.sl B.sl)) NS.out.1).set (a := ⟨w.heap.size + 1 + 1, 3, none⟩) (v := (.float .f32 B.film)) NS.out.1).set (a := ⟨w.heap.size + 1 + 1, 4, none⟩) (v := (.float .f32 B.bend)) NS.out.1
  have t3 := ((T2.out.setN (a := ⟨w.heap.size + 1 + 1, 2, none⟩) (v := (.slice (some ⟨gs, 0, none⟩) B.sl B.sl)) NB.out.2.1 (O2.out 2 _ rfl) ne_sl).setN (a := ⟨w.heap.size + 1 + 1, 3, none⟩) (v := (.float .f32 B.film)) NB.out.2.1 (O2.out.set 2 _ 3 _ rfl) ne_fl).setN (a := ⟨w.heap.size + 1 + 1, 4, none⟩) (v := (.float .f32 B.bend)) NB.out.2.1 ((O2.out.set 2 _).set 3 _ 4 _ rfl) ne_fl
  generalize (((w2.setCell ⟨w.heap.size + 1 + 1, 2, none⟩ (.slice (some ⟨gs, 0, none⟩) B.sl B.sl)).setCell ⟨w.heap.size + 1 + 1, 3, none⟩ (.float .f32 B.film)).setCell ⟨w.heap.size + 1 + 1, 4, none⟩ (.float .f32 B.bend)) = W2 at *
  have l3 : w.heap.size + 1 + 1 < W2.heap.size := o3.lt
  refine (laws_toFloat32S' _ _ _ c.zs _ (H.out.below b3).2.2.2.1 hwl).mono ?_
  rintro e w3 ⟨rfl, hFs, hB3, -⟩
  have A3 := Lib.hid (a3.below hB3)
  have R3 := Lib.hid (r3.below hB3)
  have O3 := Lib.hid (o3.below hB3)
  have FR3 := Lib.hid (fr3.below hB3 r3.lt)
  have FO3 := Lib.hid (fo3.below hB3 o3.lt)
  have B3 := Lib.hid (b3.trans (hB3.mono b3.size))
  have V3' := Lib.hid (v3.below hB3)
  have S3 := Lib.hid (s3.below hB3)
  have T3 := Lib.hid (t3.below hB3)
  have F3 := Lib.hid hFs
  generalize W2.heap.size = gw at *
  have NW := Lib.hid (And.intro (show w.heap.size + 1 + 1 ≠ gw by omega) (show w.heap.size + 1 ≠ gw by omega))
  clear a3 r3 o3 fr3 fo3 b3 v3 s3 t3 hFs hB3 l3
  have k6 := A3.out 6 _ rfl
  have k7 := A3.out 7 _ rfl
  have k8 := A3.out 8 _ rfl
  have e5 := O3.out 5 _ rfl
  have g5 := FO3.out 5
  go_wp2_with fail
  clear k6 k7 k8 e5 g5
  have b4 := B3.out.setCell (p := ⟨w.heap.size + 1 + 1, 5, none⟩) (show w.heap.size ≤ w.heap.size + 1 + 1 by omega) (.slice (some ⟨gw, 0, none⟩) B.wl B.wl)
  have r4 := R3.out.far (a := ⟨w.heap.size + 1 + 1, 5, none⟩) (u := (.slice (some ⟨gw, 0, none⟩) B.wl B.wl)) (show w.heap.size + 1 + 1 ≠ w.heap.size + 1 by omega)
  have o4 : At _ (w.heap.size + 1 + 1) [.slice (some ⟨b, 0, none⟩) B.pl B.pl, .slice (some ⟨b', 0, none⟩) B.tl B.tl, .slice (some ⟨gs, 0, none⟩) B.sl B.sl, .float .f32 B.film, .float .f32 B.bend, .slice (some ⟨gw, 0, none⟩) B.wl B.wl, .float .f32 0, .float .f32 0, .float .f32 0] := O3.out.set 5 (.slice (some ⟨gw, 0, none⟩) B.wl B.wl)
  have fr4 := FR3.out.setC (a := ⟨w.heap.size + 1 + 1, 5, none⟩) (u := (.slice (some ⟨gw, 0, none⟩) B.wl B.wl))
  have fo4 := FO3.out.setC (a := ⟨w.heap.size + 1 + 1, 5, none⟩) (u := (.slice (some ⟨gw, 0, none⟩) B.wl B.wl))
  have v4 := V3'.out.set (a := ⟨w.heap.size + 1 + 1, 5, none⟩) (v := (.slice (some ⟨gw, 0, none⟩) B.wl B.wl)) NB.out.1
  have s4 := S3.out.set (a := ⟨w.heap.size + 1 + 1, 5, none⟩) (v := (.slice (some ⟨gw, 0, none⟩) B.wl B.wl)) NS.out.1
  have t4 := T3.out.setN (a := ⟨w.heap.size + 1 + 1, 5, none⟩) (v := (.slice (some ⟨gw, 0, none⟩) B.wl B.wl)) NB.out.2.1 (O3.out 5 _ rfl) ne_sl
  have f4 := IsFs_set (a := ⟨w.heap.size + 1 + 1, 5, none⟩) (v := (.slice (some ⟨gw, 0, none⟩) B.wl B.wl)) F3.out NW.out.1
  generalize (w3.setCell ⟨w.heap.size + 1 + 1, 5, none⟩ (.slice (some ⟨gw, 0, none⟩) B.wl B.wl)) = W3 at *
  refine (laws_toVector _ _ _ _).mono ?_
  rintro e w4 ⟨rfl, hB4⟩
  have R4 := Lib.hid (r4.below hB4)
  have O4 := Lib.hid (o4.below hB4)
  have FR4 := Lib.hid (fr4.below hB4 r4.lt)
  have FO4 := Lib.hid (fo4.below hB4 o4.lt)
  have B4 := Lib.hid (b4.trans (hB4.mono b4.size))
  have V4 := Lib.hid (v4.below hB4)
  have S4 := Lib.hid (s4.below hB4)
  have T4 := Lib.hid (t4.below hB4)
  have F4 := Lib.hid (IsFs_below hB4 f4)
  clear r4 o4 fr4 fo4 b4 v4 s4 t4 f4 hB4
  have e0 := O4.out 0 _ rfl
  have e1 := O4.out 1 _ rfl
  have e2 := O4.out 2 _ rfl
  have e3 := O4.out 3 _ rfl
  have e4 := O4.out 4 _ rfl
  have e5 := O4.out 5 _ rfl
  have e6 := O4.out 6 _ rfl
  have e7 := O4.out 7 _ rfl
  have e8 := O4.out 8 _ rfl
  have g6 := FO4.out 6
  have g7 := FO4.out 7
  have g8 := FO4.out 8
  have q0 := R4.out 0 _ rfl
  have p0 := FR4.out 0
  have q1 := R4.out 1 _ rfl
  have p1 := FR4.out 1
  have q2 := R4.out 2 _ rfl
  have p2 := FR4.out 2
  have q3 := R4.out 3 _ rfl
  have p3 := FR4.out 3
  have q4 := R4.out 4 _ rfl
  have p4 := FR4.out 4
  have q5 := R4.out 5 _ rfl
  have p5 := FR4.out 5
  have q6 := R4.out 6 _ rfl
  have p6 := FR4.out 6
  have q7 := R4.out 7 _ rfl
  have p7 := FR4.out 7
  have q8 := R4.out 8 _ rfl
  have p8 := FR4.out 8
  have HR : RowKit.Hid (At _ (w.heap.size + 1) [.slice (some ⟨b, 0, none⟩) B.pl B.pl, .slice (some ⟨b', 0, none⟩) B.tl B.tl, .slice (some ⟨gs, 0, none⟩) B.sl B.sl, .float .f32 B.film, .float .f32 B.bend, .slice (some ⟨gw, 0, none⟩) B.wl B.wl, .float .f32 B.x, .float .f32 B.y, .float .f32 B.z]) := Lib.hid ((((((((((((R4.out.far (a := ⟨w.heap.size + 1 + 1, 6, none⟩) (u := .float .f32 B.x) (show w.heap.size + 1 + 1 ≠ w.heap.size + 1 by omega)).far (a := ⟨w.heap.size + 1 + 1, 7, none⟩) (u := .float .f32 B.y) (show w.heap.size + 1 + 1 ≠ w.heap.size + 1 by omega)).far (a := ⟨w.heap.size + 1 + 1, 8, none⟩) (u := .float .f32 B.z) (show w.heap.size + 1 + 1 ≠ w.heap.size + 1 by omega)).set 0 (.slice (some ⟨b, 0, none⟩) B.pl B.pl)).set 1 (.slice (some ⟨b', 0, none⟩) B.tl B.tl)).set 2 (.slice (some ⟨gs, 0, none⟩) B.sl B.sl)).set 3 (.float .f32 B.film)).set 4 (.float .f32 B.bend)).set 5 (.slice (some ⟨gw, 0, none⟩) B.wl B.wl)).set 6 (.float .f32 B.x)).set 7 (.float .f32 B.y)).set 8 (.float .f32 B.z))
  have HB := Lib.hid ((((((((((((B4.out.setCell (p := ⟨w.heap.size + 1 + 1, 6, none⟩) (show w.heap.size ≤ w.heap.size + 1 + 1 by omega) (.float .f32 B.x)).setCell (p := ⟨w.heap.size + 1 + 1, 7, none⟩) (show w.heap.size ≤ w.heap.size + 1 + 1 by omega) (.float .f32 B.y)).setCell (p := ⟨w.heap.size + 1 + 1, 8, none⟩) (show w.heap.size ≤ w.heap.size + 1 + 1 by omega) (.float .f32 B.z)).setCell (p := ⟨w.heap.size + 1, 0, none⟩) (show w.heap.size ≤ w.heap.size + 1 by omega) (.slice (some ⟨b, 0, none⟩) B.pl B.pl)).setCell (p := ⟨w.heap.size + 1, 1, none⟩) (show w.heap.size ≤ w.heap.size + 1 by omega) (.slice (some ⟨b', 0, none⟩) B.tl B.tl)).setCell (p := ⟨w.heap.size + 1, 2, none⟩) (show w.heap.size ≤ w.heap.size + 1 by omega) (.slice (some ⟨gs, 0, none⟩) B.sl B.sl)).setCell (p := ⟨w.heap.size + 1, 3, none⟩) (show w.heap.size ≤ w.heap.size + 1 by omega) (.float .f32 B.film)).setCell (p := ⟨w.heap.size + 1, 4, none⟩) (show w.heap.size ≤ w.heap.size + 1 by omega) (.float .f32 B.bend)).setCell (p := ⟨w.heap.size + 1, 5, none⟩) (show w.heap.size ≤ w.heap.size + 1 by omega) (.slice (some ⟨gw, 0, none⟩) B.wl B.wl)).setCell (p := ⟨w.heap.size + 1, 6, none⟩) (show w.heap.size ≤ w.heap.size + 1 by omega) (.float .f32 B.x)).setCell (p := ⟨w.heap.size + 1, 7, none⟩) (show w.heap.size ≤ w.heap.size + 1 by omega) (.float .f32 B.y)).setCell (p := ⟨w.heap.size + 1, 8, none⟩) (show w.heap.size ≤ w.heap.size + 1 by omega) (.float .f32 B.z))
  have HV := Lib.hid ((((((((((((V4.out.set (a := ⟨w.heap.size + 1 + 1, 6, none⟩) (v := .float .f32 B.x) NB.out.1).set (a := ⟨w.heap.size + 1 + 1, 7, none⟩) (v := .float .f32 B.y) NB.out.1).set (a := ⟨w.heap.size + 1 + 1, 8, none⟩) (v := .float .f32 B.z) NB.out.1).set (a := ⟨w.heap.size + 1, 0, none⟩) (v := .slice (some ⟨b, 0, none⟩) B.pl B.pl) NB.out.2.2.1).set (a := ⟨w.heap.size + 1, 1, none⟩) (v := .slice (some ⟨b', 0, none⟩) B.tl B.tl) NB.out.2.2.1).set (a := ⟨w.heap.size + 1, 2, none⟩) (v := .slice (some ⟨gs, 0, none⟩) B.sl B.sl) NB.out.2.2.1).set (a := ⟨w.heap.size + 1, 3, none⟩) (v := .float .f32 B.film) NB.out.2.2.1).set (a := ⟨w.heap.size + 1, 4, none⟩) (v := .float .f32 B.bend) NB.out.2.2.1).set (a := ⟨w.heap.size + 1, 5, none⟩) (v := .slice (some ⟨gw, 0, none⟩) B.wl B.wl) NB.out.2.2.1).set (a := ⟨w.heap.size + 1, 6, none⟩) (v := .float .f32 B.x) NB.out.2.2.1).set (a := ⟨w.heap.size + 1, 7, none⟩) (v := .float .f32 B.y) NB.out.2.2.1).set (a := ⟨w.heap.size + 1, 8, none⟩) (v := .float .f32 B.z) NB.out.2.2.1)
  have HSp := Lib.hid ((((((((((((S4.out.set (a := ⟨w.heap.size + 1 + 1, 6, none⟩) (v := .float .f32 B.x) NS.out.1).set (a := ⟨w.heap.size + 1 + 1, 7, none⟩) (v := .float .f32 B.y) NS.out.1).set (a := ⟨w.heap.size + 1 + 1, 8, none⟩) (v := .float .f32 B.z) NS.out.1).set (a := ⟨w.heap.size + 1, 0, none⟩) (v := .slice (some ⟨b, 0, none⟩) B.pl B.pl) NS.out.2).set (a := ⟨w.heap.size + 1, 1, none⟩) (v := .slice (some ⟨b', 0, none⟩) B.tl B.tl) NS.out.2).set (a := ⟨w.heap.size + 1, 2, none⟩) (v := .slice (some ⟨gs, 0, none⟩) B.sl B.sl) NS.out.2).set (a := ⟨w.heap.size + 1, 3, none⟩) (v := .float .f32 B.film) NS.out.2).set (a := ⟨w.heap.size + 1, 4, none⟩) (v := .float .f32 B.bend) NS.out.2).set (a := ⟨w.heap.size + 1, 5, none⟩) (v := .slice (some ⟨gw, 0, none⟩) B.wl B.wl) NS.out.2).set (a := ⟨w.heap.size + 1, 6, none⟩) (v := .float .f32 B.x) NS.out.2).set (a := ⟨w.heap.size + 1, 7, none⟩) (v := .float .f32 B.y) NS.out.2).set (a := ⟨w.heap.size + 1, 8, none⟩) (v := .float .f32 B.z) NS.out.2)
  have HF := Lib.hid (IsFs_set (a := ⟨w.heap.size + 1, 8, none⟩) (v := .float .f32 B.z) (IsFs_set (a := ⟨w.heap.size + 1, 7, none⟩) (v := .float .f32 B.y) (IsFs_set (a := ⟨w.heap.size + 1, 6, none⟩) (v := .float .f32 B.x) (IsFs_set (a := ⟨w.heap.size + 1, 5, none⟩) (v := .slice (some ⟨gw, 0, none⟩) B.wl B.wl) (IsFs_set (a := ⟨w.heap.size + 1, 4, none⟩) (v := .float .f32 B.bend) (IsFs_set (a := ⟨w.heap.size + 1, 3, none⟩) (v := .float .f32 B.film) (IsFs_set (a := ⟨w.heap.size + 1, 2, none⟩) (v := .slice (some ⟨gs, 0, none⟩) B.sl B.sl) (IsFs_set (a := ⟨w.heap.size + 1, 1, none⟩) (v := .slice (some ⟨b', 0, none⟩) B.tl B.tl) (IsFs_set (a := ⟨w.heap.size + 1, 0, none⟩) (v := .slice (some ⟨b, 0, none⟩) B.pl B.pl) (IsFs_set (a := ⟨w.heap.size + 1 + 1, 8, none⟩) (v := .float .f32 B.z) (IsFs_set (a := ⟨w.heap.size + 1 + 1, 7, none⟩) (v := .float .f32 B.y) (IsFs_set (a := ⟨w.heap.size + 1 + 1, 6, none⟩) (v := .float .f32 B.x) F4.out NW.out.1) NW.out.1) NW.out.1) NW.out.2) NW.out.2) NW.out.2) NW.out.2) NW.out.2) NW.out.2) NW.out.2) NW.out.2) NW.out.2)
  have HT := Lib.hid ((((((((((((T4.out.setN (a := ⟨w.heap.size + 1 + 1, 6, none⟩) (v := .float .f32 B.x) NB.out.2.1 (O4.out 6 _ rfl) ne_fl).setN (a := ⟨w.heap.size + 1 + 1, 7, none⟩) (v := .float .f32 B.y) NB.out.2.1 ((O4.out.set 6 (.float .f32 B.x)) 7 _ rfl) ne_fl).setN (a := ⟨w.heap.size + 1 + 1, 8, none⟩) (v := .float .f32 B.z) NB.out.2.1 (((O4.out.set 6 (.float .f32 B.x)).set 7 (.float .f32 B.y)) 8 _ rfl) ne_fl).setN (a := ⟨w.heap.size + 1, 0, none⟩) (v := .slice (some ⟨b, 0, none⟩) B.pl B.pl) NB.out.2.2.2 ((((R4.out.far (a := ⟨w.heap.size + 1 + 1, 6, none⟩) (u := .float .f32 B.x) (show w.heap.size + 1 + 1 ≠ w.heap.size + 1 by omega)).far (a := ⟨w.heap.size + 1 + 1, 7, none⟩) (u := .float .f32 B.y) (show w.heap.size + 1 + 1 ≠ w.heap.size + 1 by omega)).far (a := ⟨w.heap.size + 1 + 1, 8, none⟩) (u := .float .f32 B.z) (show w.heap.size + 1 + 1 ≠ w.heap.size + 1 by omega)) 0 _ rfl) ne_sl).setN (a := ⟨w.heap.size + 1, 1, none⟩) (v := .slice (some ⟨b', 0, none⟩) B.tl B.tl) NB.out.2.2.2 (((((R4.out.far (a := ⟨w.heap.size + 1 + 1, 6, none⟩) (u := .float .f32 B.x) (show w.heap.size + 1 + 1 ≠ w.heap.size + 1 by omega)).far (a := ⟨w.heap.size + 1 + 1, 7, none⟩) (u := .float .f32 B.y) (show w.heap.size + 1 + 1 ≠ w.heap.size + 1 by omega)).far (a := ⟨w.heap.size + 1 + 1, 8, none⟩) (u := .float .f32 B.z) (show w.heap.size + 1 + 1 ≠ w.heap.size + 1 by omega)).set 0 (.slice (some ⟨b, 0, none⟩) B.pl B.pl)) 1 _ rfl) ne_sl).setN (a := ⟨w.heap.size + 1, 2, none⟩) (v := .slice (some ⟨gs, 0, none⟩) B.sl B.sl) NB.out.2.2.2 ((((((R4.out.far (a := ⟨w.heap.size + 1 + 1, 6, none⟩) (u := .float .f32 B.x) (show w.heap.size + 1 + 1 ≠ w.heap.size + 1 by omega)).far (a := ⟨w.heap.size + 1 + 1, 7, none⟩) (u := .float .f32 B.y) (show w.heap.size + 1 + 1 ≠ w.heap.size + 1 by omega)).far (a := ⟨w.heap.size + 1 + 1, 8, none⟩) (u := .float .f32 B.z) (show w.heap.size + 1 + 1 ≠ w.heap.size + 1 by omega)).set 0 (.slice (some ⟨b, 0, none⟩) B.pl B.pl)).set 1 (.slice (some ⟨b', 0, none⟩) B.tl B.tl)) 2 _ rfl) ne_sl).setN (a := ⟨w.heap.size + 1, 3, none⟩) (v := .float .f32 B.film) NB.out.2.2.2 (((((((R4.out.far (a := ⟨w.heap.size + 1 + 1, 6, none⟩) (u := .float .f32 B.x) (show w.heap.size + 1 + 1 ≠ w.heap.size + 1 by omega)).far (a := ⟨w.heap.size + 1 + 1, 7, none⟩) (u := .float .f32 B.y) (show w.heap.size + 1 + 1 ≠ w.heap.size + 1 by omega)).far (a := ⟨w.heap.size + 1 + 1, 8, none⟩) (u := .float .f32 B.z) (show w.heap.size + 1 + 1 ≠ w.heap.size + 1 by omega)).set 0 (.slice (some ⟨b, 0, none⟩) B.pl B.pl)).set 1 (.slice (some ⟨b', 0, none⟩) B.tl B.tl)).set 2 (.slice (some ⟨gs, 0, none⟩) B.sl B.sl)) 3 _ rfl) ne_fl).setN (a := ⟨w.heap.size + 1, 4, none⟩) (v := .float .f32 B.bend) NB.out.2.2.2 ((((((((R4.out.far (a := ⟨w.heap.size + 1 + 1, 6, none⟩) (u := .float .f32 B.x) (show w.heap.size + 1 + 1 ≠ w.heap.size + 1 by omega)).far (a := ⟨w.heap.size + 1 + 1, 7, none⟩) (u := .float .f32 B.y) (show w.heap.size + 1 + 1 ≠ w.heap.size + 1 by omega)).far (a := ⟨w.heap.size + 1 + 1, 8, none⟩) (u := .float .f32 B.z) (show w.heap.size + 1 + 1 ≠ w.heap.size + 1 by omega)).set 0 (.slice (some ⟨b, 0, none⟩) B.pl B.pl)).set 1 (.slice (some ⟨b', 0, none⟩) B.tl B.tl)).set 2 (.slice (some ⟨gs, 0, none⟩) B.sl B.sl)).set 3 (.float .f32 B.film)) 4 _ rfl) ne_fl).setN (a := ⟨w.heap.size + 1, 5, none⟩) (v := .slice (some ⟨gw, 0, none⟩) B.wl B.wl) NB.out.2.2.2 (((((((((R4.out.far (a := ⟨w.heap.size + 1 + 1, 6, none⟩) (u := .float .f32 B.x) (show w.heap.size + 1 + 1 ≠ w.heap.size + 1 by omega)).far (a := ⟨w.heap.size + 1 + 1, 7, none⟩) (u := .float .f32 B.y) (show w.heap.size + 1 + 1 ≠ w.heap.size + 1 by omega)).far (a := ⟨w.heap.size + 1 + 1, 8, none⟩) (u := .float .f32 B.z) (show w.heap.size + 1 + 1 ≠ w.heap.size + 1 by omega)).set 0 (.slice (some ⟨b, 0, none⟩) B.pl B.pl)).set 1 (.slice (some ⟨b', 0, none⟩) B.tl B.tl)).set 2 (.slice (some ⟨gs, 0, none⟩) B.sl B.sl)).set 3 (.float .f32 B.film)).set 4 (.float .f32 B.bend)) 5 _ rfl) ne_sl).setN (a := ⟨w.heap.size + 1, 6, none⟩) (v := .float .f32 B.x) NB.out.2.2.2 ((((((((((R4.out.far (a := ⟨w.heap.size + 1 + 1, 6, none⟩) (u := .float .f32 B.x) (show w.heap.size + 1 + 1 ≠ w.heap.size + 1 by omega)).far (a := ⟨w.heap.size + 1 + 1, 7, none⟩) (u := .float .f32 B.y) (show w.heap.size + 1 + 1 ≠ w.heap.size + 1 by omega)).far (a := ⟨w.heap.size + 1 + 1, 8, none⟩) (u := .float .f32 B.z) (show w.heap.size + 1 + 1 ≠ w.heap.size + 1 by omega)).set 0 (.slice (some ⟨b, 0, none⟩) B.pl B.pl)).set 1 (.slice (some ⟨b', 0, none⟩) B.tl B.tl)).set 2 (.slice (some ⟨gs, 0, none⟩) B.sl B.sl)).set 3 (.float .f32 B.film)).set 4 (.float .f32 B.bend)).set 5 (.slice (some ⟨gw, 0, none⟩) B.wl B.wl)) 6 _ rfl) ne_fl).setN (a := ⟨w.heap.size + 1, 7, none⟩) (v := .float .f32 B.y) NB.out.2.2.2 (((((((((((R4.out.far (a := ⟨w.heap.size + 1 + 1, 6, none⟩) (u := .float .f32 B.x) (show w.heap.size + 1 + 1 ≠ w.heap.size + 1 by omega)).far (a := ⟨w.heap.size + 1 + 1, 7, none⟩) (u := .float .f32 B.y) (show w.heap.size + 1 + 1 ≠ w.heap.size + 1 by omega)).far (a := ⟨w.heap.size + 1 + 1, 8, none⟩) (u := .float .f32 B.z) (show w.heap.size + 1 + 1 ≠ w.heap.size + 1 by omega)).set 0 (.slice (some ⟨b, 0, none⟩) B.pl B.pl)).set 1 (.slice (some ⟨b', 0, none⟩) B.tl B.tl)).set 2 (.slice (some ⟨gs, 0, none⟩) B.sl B.sl)).set 3 (.float .f32 B.film)).set 4 (.float .f32 B.bend)).set 5 (.slice (some ⟨gw, 0, none⟩) B.wl B.wl)).set 6 (.float .f32 B.x)) 7 _ rfl) ne_fl).setN (a := ⟨w.heap.size + 1, 8, none⟩) (v := .float .f32 B.z) NB.out.2.2.2 ((((((((((((R4.out.far (a := ⟨w.heap.size + 1 + 1, 6, none⟩) (u := .float .f32 B.x) (show w.heap.size + 1 + 1 ≠ w.heap.size + 1 by omega)).far (a := ⟨w.heap.size + 1 + 1, 7, none⟩) (u := .float .f32 B.y) (show w.heap.size + 1 + 1 ≠ w.heap.size + 1 by omega)).far (a := ⟨w.heap.size + 1 + 1, 8, none⟩) (u := .float .f32 B.z) (show w.heap.size + 1 + 1 ≠ w.heap.size + 1 by omega)).set 0 (.slice (some ⟨b, 0, none⟩) B.pl B.pl)).set 1 (.slice (some ⟨b', 0, none⟩) B.tl B.tl)).set 2 (.slice (some ⟨gs, 0, none⟩) B.sl B.sl)).set 3 (.float .f32 B.film)).set 4 (.float .f32 B.bend)).set 5 (.slice (some ⟨gw, 0, none⟩) B.wl B.wl)).set 6 (.float .f32 B.x)).set 7 (.float .f32 B.y)) 8 _ rfl) ne_fl)
  go_wp2
  clear e0 e1 e2 e3 e4 e5 e6 e7 e8 g6 g7 g8 q0 q1 q2 q3 q4 q5 q6 q7 q8 p0 p1 p2 p3 p4 p5 p6 p7 p8
  have m0 := HR.out 0 _ rfl
  have m1 := HR.out 1 _ rfl
  have m2 := HR.out 2 _ rfl
  have m3 := HR.out 3 _ rfl
  have m4 := HR.out 4 _ rfl
  have m5 := HR.out 5 _ rfl
  have m6 := HR.out 6 _ rfl
  have m7 := HR.out 7 _ rfl
  have m8 := HR.out 8 _ rfl
  refine bodyPost_ret (v := (⟨some ⟨b, 0, none⟩, some ⟨b', 0, none⟩, some ⟨gs, 0, none⟩, some ⟨gw, 0, none⟩, B.pl, B.pl, B.tl, B.tl, B.sl, B.sl, B.wl, B.wl, B.film, B.bend, B.x, B.y, B.z⟩ : Bd).v) (by simp [results, Try.results40, go_sem, m0, m1, m2, m3, m4, m5, m6, m7, m8]) rfl ⟨_, rfl, ⟨HV.out, HT.out, HSp.out, HF.out, H.out.2.2.2.2⟩, HB.out⟩
end Go.Proofs.Ytkdoibglgkcbkaa


/-
Which triangles are valid: what the program and its model return. Conditions: none.
-/
namespace Go.Proofs.Ytkdoibglgkcbkaa
open Go Fk Go.RowKit
set_option linter.unusedVariables false
set_option maxRecDepth 8000

def inB (n : Nat) (z : Int) : Bool := decide (0 ≤ z ∧ z < n)
def triB (n : Nat) (t : List Int) : Bool := decide (t.length = 3) && (inB n (t.getD 0 0) && inB n (t.getD 1 0) && inB n (t.getD 2 0)) && (decide (t.getD 0 0 ≠ t.getD 1 0) && decide (t.getD 1 0 ≠ t.getD 2 0) && decide (t.getD 0 0 ≠ t.getD 2 0))
theorem l00In (z : Int) (n : Nat) (w : World) :
    Calls Try.prog 102 #[.int .i64 z, .int .i64 0, .int .i64 ((n : Int) - 1)] w fun e w' => e = .returned (.bool (inB n z)) ∧ w' = w := by
  generalize hb : inB n z = b
  have H := Lib.hid hb
  clear hb
  by_cases h1 : 0 ≤ z
  · by_cases h2 : z < n
    · have h3 : z ≤ (n : Int) - 1 := by omega
      clear h2
      go_enter Try.func102, Try.ntmps102
      go_wp2
      go_ret
      exact ⟨ret_bool (by rw [← H.out]; exact (decide_eq_true ⟨h1, by omega⟩).symm), rfl⟩
    · have h3 : ¬ z ≤ (n : Int) - 1 := by omega
      clear h2
      go_enter Try.func102, Try.ntmps102
      go_wp2
      go_ret
      exact ⟨ret_bool (by rw [← H.out]; exact (decide_eq_false (fun h => by have := h.2; omega)).symm), rfl⟩
  · go_enter Try.func102, Try.ntmps102
    go_wp2
    go_ret
    exact ⟨ret_bool (by rw [← H.out]; exact (decide_eq_false (fun h => by have := h.1; omega)).symm), rfl⟩
theorem impl_isIndex (z : Int) (n : Nat) (w : World) :
    Calls Try.prog 104 #[.int .i64 z, .int .i64 n] w fun e w' => e = .returned (.bool (inB n z)) ∧ w' = w := by
  generalize hb : inB n z = b
  have H := Lib.hid hb
  clear hb
  by_cases h1 : 0 ≤ z
  · by_cases h2 : z < n
    · go_enter Try.func104, Try.ntmps104
      go_wp2
      go_ret
      exact ⟨ret_bool (by rw [← H.out]; exact (decide_eq_true ⟨h1, by omega⟩).symm), rfl⟩
    · go_enter Try.func104, Try.ntmps104
      go_wp2
      go_ret
      exact ⟨ret_bool (by rw [← H.out]; exact (decide_eq_false (fun h => by have := h.2; omega)).symm), rfl⟩
  · go_enter Try.func104, Try.ntmps104
    go_wp2
    go_ret
    exact ⟨ret_bool (by rw [← H.out]; exact (decide_eq_false (fun h => by have := h.1; omega)).symm), rfl⟩
set_option maxHeartbeats 1000000 in
theorem l02Triangle (a : Option Addr) (len cap : Nat) (t : List Int) (n : Nat) (w : World) (h : IsIs w a len cap t) (hn : (n : Int) ≤ 9223372036854775807) :
    Calls Try.prog 146 #[.slice a len cap, .int .i64 n] w fun e w' => e = .returned (.bool (triB n t)) ∧ ∃ k, w' = w.drewN k := by
  have hl := h.1
  by_cases h3 : len = 3
  · subst h3
    obtain ⟨b, o, rfl, hcell⟩ := h.some (by decide)
    have c0 := hcell 0 (by decide)
    have c1 := hcell 1 (by decide)
    have c2 := hcell 2 (by decide)
    simp only [Nat.add_zero] at c0
    unfold triB
    rw [hl, decide_eq_true rfl]
    have e1 : IntKind.i64.wrap ((n : Int) - 1) = (n : Int) - 1 := IntWalk.i64_in _ (by omega)
    generalize t.getD 0 0 = z0 at *
    generalize t.getD 1 0 = z1 at *
    generalize t.getD 2 0 = z2 at *
    clear h hcell hl hn
    generalize hi0 : inB n z0 = i0
    generalize hi1 : inB n z1 = i1
    generalize hi2 : inB n z2 = i2
    have I0 := Lib.hid hi0
    have I1 := Lib.hid hi1
    have I2 := Lib.hid hi2
    have J0 : ∀ w, Calls Try.prog 102 #[.int .i64 z0, .int .i64 0, .int .i64 ((n : Int) - 1)] w fun e w' => e = .returned (.bool i0) ∧ w' = w := fun w => (l00In z0 n w).mono (by rintro _ _ ⟨rfl, rfl⟩; exact ⟨by rw [hi0], rfl⟩)
    have J1 : ∀ w, Calls Try.prog 102 #[.int .i64 z1, .int .i64 0, .int .i64 ((n : Int) - 1)] w fun e w' => e = .returned (.bool i1) ∧ w' = w := fun w => (l00In z1 n w).mono (by rintro _ _ ⟨rfl, rfl⟩; exact ⟨by rw [hi1], rfl⟩)
    have J2 : ∀ w, Calls Try.prog 102 #[.int .i64 z2, .int .i64 0, .int .i64 ((n : Int) - 1)] w fun e w' => e = .returned (.bool i2) ∧ w' = w := fun w => (l00In z2 n w).mono (by rintro _ _ ⟨rfl, rfl⟩; exact ⟨by rw [hi2], rfl⟩)
    have K0 := Lib.hid J0
    have K1 := Lib.hid J1
    have K2 := Lib.hid J2
    clear J0 J1 J2 hi0 hi1 hi2 I0 I1 I2
    by_cases h01 : z0 = z1
    · have d01 : decide (z0 = z1) = true := decide_eq_true h01
      have hne : decide (z0 ≠ z1) = false := decide_eq_false (fun h => h h01)
      rw [hne]
      clear hne
      go_enter Try.func146, Try.ntmps146
      go_wp2_with fail
      go_quiet (fail)
      go_wp2
      go_ret
      exact ⟨ret_bool (by simp), _, rfl⟩
    · have d01 : (z0 == z1) = false := beq_eq_false_iff_ne.2 h01
      have hne01 : decide (z0 ≠ z1) = true := decide_eq_true h01
      rw [hne01]
      clear hne01
      by_cases h12 : z1 = z2
      · have d12 : decide (z1 = z2) = true := decide_eq_true h12
        have hne : decide (z1 ≠ z2) = false := decide_eq_false (fun h => h h12)
        rw [hne]
        clear hne d12
        have hs : z2 = z1 := h12.symm
        clear h12
        subst hs
        go_enter Try.func146, Try.ntmps146
        go_wp2_with fail
        go_quiet (fail)
        go_wp2
        go_ret
        exact ⟨ret_bool (by simp), _, rfl⟩
      · have d12 : (z1 == z2) = false := beq_eq_false_iff_ne.2 h12
        have hne12 : decide (z1 ≠ z2) = true := decide_eq_true h12
        rw [hne12]
        clear hne12
        by_cases h02 : z0 = z2
        · have d02 : decide (z0 = z2) = true := decide_eq_true h02
          have hne : decide (z0 ≠ z2) = false := decide_eq_false (fun h => h h02)
          rw [hne]
          clear hne d02 d12
          have hs : z2 = z0 := h02.symm
          clear h02
          subst hs
          go_enter Try.func146, Try.ntmps146
          go_wp2_with fail
          go_quiet (fail)
          go_wp2
          go_ret
          exact ⟨ret_bool (by simp), _, rfl⟩
        · have d02 : (z0 == z2) = false := beq_eq_false_iff_ne.2 h02
          have hne02 : decide (z0 ≠ z2) = true := decide_eq_true h02
          rw [hne02]
          clear hne02
          cases i0
          · go_enter Try.func146, Try.ntmps146
            go_wp2_with fail
            go_quiet (fail)
            go_wp2_with fail
            refine (K0.out _).mono ?_
            rintro e w1 ⟨rfl, rfl⟩
            go_wp2
            go_ret
            exact ⟨rfl, _, rfl⟩
          · cases i1
            · go_enter Try.func146, Try.ntmps146
              go_wp2_with fail
              go_quiet (fail)
              go_wp2_with fail
              refine (K0.out _).mono ?_
              rintro e w1 ⟨rfl, rfl⟩
              go_wp2_with fail
              refine (K1.out _).mono ?_
              rintro e w1 ⟨rfl, rfl⟩
              go_wp2
              go_ret
              exact ⟨rfl, _, rfl⟩
            · cases i2
              all_goals
                go_enter Try.func146, Try.ntmps146
                go_wp2_with fail
                go_quiet (fail)
                go_wp2_with fail
                refine (K0.out _).mono ?_
                rintro e w1 ⟨rfl, rfl⟩
                go_wp2_with fail
                refine (K1.out _).mono ?_
                rintro e w1 ⟨rfl, rfl⟩
                go_wp2_with fail
                refine (K2.out _).mono ?_
                rintro e w1 ⟨rfl, rfl⟩
                go_wp2
                go_ret
                exact ⟨rfl, _, rfl⟩
  · have h3' : decide ((len : Int) = 3) = false := decide_eq_false (by omega)
    have hb : triB n t = false := by unfold triB; rw [hl, decide_eq_false h3]; rfl
    have h4 : ¬ (len : Int) = 3 := by omega
    rw [hb]
    clear hb
    go_enter Try.func146, Try.ntmps146
    go_wp2_with fail
    go_quiet (fail)
    go_wp2
    go_ret
    exact ⟨rfl, _, rfl⟩
end Go.Proofs.Ytkdoibglgkcbkaa

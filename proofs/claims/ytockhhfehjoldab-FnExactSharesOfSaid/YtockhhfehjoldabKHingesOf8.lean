/-
Texts in one: what HingesOf stands on, part 8. Conditions: those of each.
-/
import Derived.Test.YtockhhfehjoldabKHingesOf7

/-
Copies of bodies, and that they are the same: what the law's own functions return. Conditions: at most 2^20 of each.
-/
namespace Go.Proofs.Ytockhhfehjoldab
open Go Fk Go.RowKit
set_option linter.unusedVariables false
set_option maxRecDepth 8000

/-- Where a body's parts lie, and its numbers. -/
structure Bd where
  (pa ta sa wa : Option Addr)
  (pl pc tl tc sl sc wl wc film bend x y z : Nat)
/-- The body's value. -/
abbrev Bd.v (B : Bd) : Value := .agg #[.slice B.pa B.pl B.pc, .slice B.ta B.tl B.tc, .slice B.sa B.sl B.sc, .float .f32 B.film, .float .f32 B.bend, .slice B.wa B.wl B.wc, .float .f32 B.x, .float .f32 B.y, .float .f32 B.z]
/-- The body's cells. -/
abbrev Bd.l (B : Bd) : List Value := [.slice B.pa B.pl B.pc, .slice B.ta B.tl B.tc, .slice B.sa B.sl B.sc, .float .f32 B.film, .float .f32 B.bend, .slice B.wa B.wl B.wc, .float .f32 B.x, .float .f32 B.y, .float .f32 B.z]
/-- What a body is. -/
structure Bc where
  (cs : List C3) (ts : List (List Int)) (ss : List SC) (zs : List Nat) (film bend : Option Nat) (fall : C3)
def IsB (w : World) (B : Bd) (c : Bc) : Prop :=
  IsVs w B.pa B.pl B.pc c.cs ∧ IsTs w B.ta B.tl B.tc c.ts ∧ IsSs w B.sa B.sl B.sc c.ss ∧ IsFs .f32 w B.wa B.wl B.wc c.zs ∧ FV .f32 B.film c.film ∧ FV .f32 B.bend c.bend ∧ FV3 B.x B.y B.z c.fall
theorem IsB.below {W w : World} {B : Bd} {c : Bc} (hb : Below W.heap.size W w) (h : IsB W B c) : IsB w B c :=
  ⟨h.1.below hb, h.2.1.below hb, h.2.2.1.below hb, IsFs_below hb h.2.2.2.1, h.2.2.2.2⟩
def SmallB (c : Bc) : Prop := Small c.cs c.ts ∧ c.ss.length ≤ 1048576 ∧ c.zs.length ≤ 1048576

theorem laws_szBody' (B : Bd) (c : Bc) (left : Int) (w : World) (h : IsB w B c) (h0 : 0 ≤ left) (h1 : left ≤ 1048576) :
    Calls Try.prog 15 #[B.v, .int .i64 left] w fun e w' => (∃ r : Int, e = .returned (.int .i64 r) ∧ (r = -1 ∨ (0 ≤ r ∧ r ≤ 1048576 ∧ SmallB c))) ∧ Below w.heap.size w w' := by
  have ul := Try.underlying37
  have um := Try.underlying30
  have hA0 : At (w.alloc (.cells #[.slice B.pa B.pl B.pc, .slice B.ta B.tl B.tc, .slice B.sa B.sl B.sc, .float .f32 B.film, .float .f32 B.bend, .slice B.wa B.wl B.wc, .float .f32 B.x, .float .f32 B.y, .float .f32 B.z] 37)) w.heap.size B.l := At.new
  have hB0 := (Below.refl w.heap.size w).alloc (Nat.le_refl _) (.cells #[.slice B.pa B.pl B.pc, .slice B.ta B.tl B.tc, .slice B.sa B.sl B.sc, .float .f32 B.film, .float .f32 B.bend, .slice B.wa B.wl B.wc, .float .f32 B.x, .float .f32 B.y, .float .f32 B.z] 37)
  have H0 := Lib.hid (h.below hB0)
  have hsm : B.sl ≤ 9223372036854775807 := by have h1 := h.2.2.1.2.1; have h2 := h.2.2.1.2.2.1; unfold maxLen at h2; omega
  have hwm : B.wl ≤ 9223372036854775807 := by have h1 := h.2.2.2.1.2.1; have h2 := h.2.2.2.1.2.2.1; unfold maxLen at h2; omega
  have L := Lib.hid (And.intro h.1.1 (And.intro h.2.1.1 (And.intro h.2.2.1.1 h.2.2.2.1.1)))
  have HA0 := Lib.hid hA0
  have HB0 := Lib.hid hB0
  clear hA0 hB0 h
  go_enter Try.func15, Try.ntmps15
  go_wp2_with fail
  generalize (w.alloc (.cells #[.slice B.pa B.pl B.pc, .slice B.ta B.tl B.tc, .slice B.sa B.sl B.sc, .float .f32 B.film, .float .f32 B.bend, .slice B.wa B.wl B.wc, .float .f32 B.x, .float .f32 B.y, .float .f32 B.z] 37)) = W at *
  refine (laws_szMesh' _ _ _ _ _ _ _ _ _ _ H0.out.1 H0.out.2.1 h0 h1).mono ?_
  rintro e w1 ⟨⟨r, rfl, hr⟩, hB1⟩
  have hA1 := HA0.out.below hB1
  have k2 := hA1 2 _ rfl
  have k5 := hA1 5 _ rfl
  have HB1 := Lib.hid (HB0.out.trans (hB1.mono HB0.out.size))
  clear hA1 hB1
  rcases hr with rfl | ⟨r0, r1, s1, s2, s3⟩
  · go_wp2
    go_ret
    exact ⟨⟨-1, rfl, .inl rfl⟩, HB1.out⟩
  · have HS3 := Lib.hid s3
    clear s3
    go_wp2_with (go_at_call 43; refine (laws_szSpringS _ _ _ _ _ r0 r1 hsm).mono ?_; rintro e w2 ⟨⟨q, rfl, hq⟩, hw2⟩; rw [hw2]; clear hw2 w2; rcases hq with rfl | ⟨q0, q1, q2⟩)
    · go_ret
      exact ⟨⟨-1, rfl, .inl rfl⟩, HB1.out⟩
    · go_wp2_with (go_at_call 44; refine (laws_szFloat32S _ _ _ _ _ q0 q1 hwm).mono ?_; rintro e w2 ⟨⟨p, rfl, hp⟩, hw2⟩; rw [hw2]; clear hw2 w2; rcases hp with rfl | ⟨p0, p1, p2⟩)
      · go_ret
        exact ⟨⟨-1, rfl, .inl rfl⟩, HB1.out⟩
      · go_wp2
        go_ret
        exact ⟨⟨p, rfl, .inr ⟨p0, p1, ⟨by rw [L.out.1]; exact s1, by rw [L.out.2.1]; exact s2, by rw [L.out.2.1]; exact HS3.out⟩, by rw [L.out.2.2.1]; exact q2, by rw [L.out.2.2.2]; exact p2⟩⟩, HB1.out⟩
theorem laws_szBody (B : Bd) (c : Bc) (left : Int) (w : World) (h : IsB w B c) (h0 : 0 ≤ left) (h1 : left ≤ 1048576) :
    Calls Try.prog 15 #[B.v, .int .i64 left] w fun e w' => (∃ r : Int, e = .returned (.int .i64 r) ∧ (r = -1 ∨ (0 ≤ r ∧ SmallB c))) ∧ Below w.heap.size w w' :=
  (laws_szBody' B c left w h h0 h1).mono fun _ _ ⟨⟨r, he, hr⟩, hb⟩ => ⟨⟨r, he, hr.imp id fun h => ⟨h.1, h.2.2⟩⟩, hb⟩
theorem eqMesh' (pa ta pa' ta' : Option Addr) (pl pl' pc tl tl' tc pc' tc' : Nat) (cs : List C3) (ts : List (List Int)) (w : World) (hp : IsVs w pa pl pc cs) (ht : IsTs w ta tl tc ts) (hp' : IsVs w pa' pl' pc' cs) (ht' : IsTs w ta' tl' tc' ts) :
    Calls Try.prog 35 #[.agg #[.slice pa pl pc, .slice ta tl tc], .agg #[.slice pa' pl' pc', .slice ta' tl' tc']] w fun e w' => e = .returned (.bool true) ∧ Below w.heap.size w w' := by
  obtain rfl := hp'.1.symm.trans hp.1
  obtain rfl := ht'.1.symm.trans ht.1
  exact laws_eqMesh _ _ _ _ _ _ _ _ _ _ cs ts w hp ht hp' ht'
theorem eqSpringS' (a b : Option Addr) (len len' cap cap' : Nat) (ss : List SC) (w : World) (ha : IsSs w a len cap ss) (hb : IsSs w b len' cap' ss) :
    Calls Try.prog 52 #[.slice a len cap, .slice b len' cap'] w fun e w' => e = .returned (.bool true) ∧ Below w.heap.size w w' := by
  obtain rfl := hb.1.symm.trans ha.1
  exact laws_eqSpringS _ _ _ _ _ ss w ha hb
theorem eqFloat32S' (a b : Option Addr) (len len' cap cap' : Nat) (zs : List Nat) (w : World) (ha : IsFs .f32 w a len cap zs) (hb : IsFs .f32 w b len' cap' zs) (hl : zs.length ≤ 1048576) :
    Calls Try.prog 53 #[.slice a len cap, .slice b len' cap'] w fun e w' => e = .returned (.bool true) ∧ ∃ n, w' = w.drewN n := by
  obtain rfl := hb.1.symm.trans ha.1
  exact laws_eqFloat32S _ _ _ _ _ zs w ha hb (by rw [← hb.1]; exact hl)
set_option maxHeartbeats 1000000 in
theorem laws_eqBody (B B' : Bd) (c : Bc) (w : World) (h : IsB w B c) (h' : IsB w B' c) (hs : SmallB c) :
    Calls Try.prog 20 #[B.v, B'.v] w fun e w' => e = .returned (.bool true) ∧ Below w.heap.size w w' := by
  have ui := Try.underlying48
  have um := Try.underlying44
  have uv := Try.underlying46
  have u := Try.underlying32
  have u' := Try.underlying71
  have a0 : At ((w.alloc (.cells #[.slice B.pa B.pl B.pc, .slice B.ta B.tl B.tc, .slice B.sa B.sl B.sc, .float .f32 B.film, .float .f32 B.bend, .slice B.wa B.wl B.wc, .float .f32 B.x, .float .f32 B.y, .float .f32 B.z] 48)).alloc (.cells #[.slice B'.pa B'.pl B'.pc, .slice B'.ta B'.tl B'.tc, .slice B'.sa B'.sl B'.sc, .float .f32 B'.film, .float .f32 B'.bend, .slice B'.wa B'.wl B'.wc, .float .f32 B'.x, .float .f32 B'.y, .float .f32 B'.z] 48)) w.heap.size B.l := At.new.alloc
  have a1 : At ((w.alloc (.cells #[.slice B.pa B.pl B.pc, .slice B.ta B.tl B.tc, .slice B.sa B.sl B.sc, .float .f32 B.film, .float .f32 B.bend, .slice B.wa B.wl B.wc, .float .f32 B.x, .float .f32 B.y, .float .f32 B.z] 48)).alloc (.cells #[.slice B'.pa B'.pl B'.pc, .slice B'.ta B'.tl B'.tc, .slice B'.sa B'.sl B'.sc, .float .f32 B'.film, .float .f32 B'.bend, .slice B'.wa B'.wl B'.wc, .float .f32 B'.x, .float .f32 B'.y, .float .f32 B'.z] 48)) (w.heap.size + 1) B'.l := by
    have := At.new (w := w.alloc (.cells #[.slice B.pa B.pl B.pc, .slice B.ta B.tl B.tc, .slice B.sa B.sl B.sc, .float .f32 B.film, .float .f32 B.bend, .slice B.wa B.wl B.wc, .float .f32 B.x, .float .f32 B.y, .float .f32 B.z] 48)) (vs := B'.l) (t := 48)
    simpa using this
  have b0 := ((Below.refl w.heap.size w).alloc (Nat.le_refl _) (.cells #[.slice B.pa B.pl B.pc, .slice B.ta B.tl B.tc, .slice B.sa B.sl B.sc, .float .f32 B.film, .float .f32 B.bend, .slice B.wa B.wl B.wc, .float .f32 B.x, .float .f32 B.y, .float .f32 B.z] 48)).alloc (by simp) (.cells #[.slice B'.pa B'.pl B'.pc, .slice B'.ta B'.tl B'.tc, .slice B'.sa B'.sl B'.sc, .float .f32 B'.film, .float .f32 B'.bend, .slice B'.wa B'.wl B'.wc, .float .f32 B'.x, .float .f32 B'.y, .float .f32 B'.z] 48)
  have H := Lib.hid (h.below b0)
  have H' := Lib.hid (h'.below b0)
  have HS := Lib.hid hs
  have A0 := Lib.hid a0
  have A1 := Lib.hid a1
  have B0 := Lib.hid b0
  clear h h' hs a0 a1 b0
  go_enter Try.func20, Try.ntmps20
  go_wp2_with fail
  generalize ((w.alloc (.cells #[.slice B.pa B.pl B.pc, .slice B.ta B.tl B.tc, .slice B.sa B.sl B.sc, .float .f32 B.film, .float .f32 B.bend, .slice B.wa B.wl B.wc, .float .f32 B.x, .float .f32 B.y, .float .f32 B.z] 48)).alloc (.cells #[.slice B'.pa B'.pl B'.pc, .slice B'.ta B'.tl B'.tc, .slice B'.sa B'.sl B'.sc, .float .f32 B'.film, .float .f32 B'.bend, .slice B'.wa B'.wl B'.wc, .float .f32 B'.x, .float .f32 B'.y, .float .f32 B'.z] 48)) = W at *
  refine (eqMesh' _ _ _ _ _ _ _ _ _ _ _ _ c.cs c.ts _ H.out.1 H.out.2.1 H'.out.1 H'.out.2.1).mono ?_
  rintro e w1 ⟨rfl, hB1⟩
  have k2 := A0.out.below hB1 2 _ rfl
  have j2 := A1.out.below hB1 2 _ rfl
  have A2 := Lib.hid (A0.out.below hB1)
  have A3 := Lib.hid (A1.out.below hB1)
  have H1 := Lib.hid (H.out.below hB1)
  have H1' := Lib.hid (H'.out.below hB1)
  have B1 := Lib.hid (B0.out.trans (hB1.mono B0.out.size))
  clear hB1
  go_wp2_with fail
  refine (eqSpringS' _ _ _ _ _ _ c.ss _ H1.out.2.2.1 H1'.out.2.2.1).mono ?_
  rintro e w2 ⟨rfl, hB2⟩
  clear k2 j2
  have k3 := A2.out.below hB2 3 _ rfl
  have j3 := A3.out.below hB2 3 _ rfl
  have k4 := A2.out.below hB2 4 _ rfl
  have j4 := A3.out.below hB2 4 _ rfl
  have k5 := A2.out.below hB2 5 _ rfl
  have j5 := A3.out.below hB2 5 _ rfl
  have k6 := A2.out.below hB2 6 _ rfl
  have j6 := A3.out.below hB2 6 _ rfl
  have k7 := A2.out.below hB2 7 _ rfl
  have j7 := A3.out.below hB2 7 _ rfl
  have k8 := A2.out.below hB2 8 _ rfl
  have j8 := A3.out.below hB2 8 _ rfl
  have H2 := Lib.hid (H1.out.below hB2)
  have H2' := Lib.hid (H1'.out.below hB2)
  have B2 := Lib.hid (B1.out.trans (hB2.mono B1.out.size))
  clear hB2
  go_wp2_with fail
  refine (laws_sameFloat _ _ _ _ (FV_wR H2.out.2.2.2.2.1) (FV_wR H2'.out.2.2.2.2.1)).mono ?_
  rintro en w3 ⟨rfl, n1, hw3⟩
  have B3 : RowKit.Hid (Below w.heap.size w w3) := Lib.hid (by rw [hw3]; exact below_drewN (below_drewN B2.out _) _)
  have cc : ∀ a v, w2.cell? a = some v → w3.cell? a = some v := by rw [hw3]; exact fun a v h => h
  replace k4 := cc _ _ k4
  replace j4 := cc _ _ j4
  replace k5 := cc _ _ k5
  replace j5 := cc _ _ j5
  replace k6 := cc _ _ k6
  replace j6 := cc _ _ j6
  replace k7 := cc _ _ k7
  replace j7 := cc _ _ j7
  replace k8 := cc _ _ k8
  replace j8 := cc _ _ j8
  have W3 : RowKit.Hid (IsFs .f32 w3 B.wa B.wl B.wc c.zs ∧ IsFs .f32 w3 B'.wa B'.wl B'.wc c.zs) := Lib.hid (by rw [hw3]; exact ⟨H2.out.2.2.2.1, H2'.out.2.2.2.1⟩)
  clear cc hw3 k3 j3
  go_wp2_with fail
  refine (laws_sameFloat _ _ _ _ (FV_wR H2.out.2.2.2.2.2.1) (FV_wR H2'.out.2.2.2.2.2.1)).mono ?_
  rintro en w4 ⟨rfl, n2, hw4⟩
  have B4 : RowKit.Hid (Below w.heap.size w w4) := Lib.hid (by rw [hw4]; exact below_drewN (below_drewN B3.out _) _)
  have cc : ∀ a v, w3.cell? a = some v → w4.cell? a = some v := by rw [hw4]; exact fun a v h => h
  replace k5 := cc _ _ k5
  replace j5 := cc _ _ j5
  replace k6 := cc _ _ k6
  replace j6 := cc _ _ j6
  replace k7 := cc _ _ k7
  replace j7 := cc _ _ j7
  replace k8 := cc _ _ k8
  replace j8 := cc _ _ j8
  have W4 : RowKit.Hid (IsFs .f32 w4 B.wa B.wl B.wc c.zs ∧ IsFs .f32 w4 B'.wa B'.wl B'.wc c.zs) := Lib.hid (by rw [hw4]; exact W3.out)
  clear cc hw4 k4 j4
  go_wp2_with fail
  refine (eqFloat32S' _ _ _ _ _ _ c.zs _ W4.out.1 W4.out.2 HS.out.2.2).mono ?_
  rintro en w5 ⟨rfl, n3, hw5⟩
  have B5 : RowKit.Hid (Below w.heap.size w w5) := Lib.hid (by rw [hw5]; exact below_drewN B4.out _)
  have cc : ∀ a v, w4.cell? a = some v → w5.cell? a = some v := by rw [hw5]; exact fun a v h => h
  replace k6 := cc _ _ k6
  replace j6 := cc _ _ j6
  replace k7 := cc _ _ k7
  replace j7 := cc _ _ j7
  replace k8 := cc _ _ k8
  replace j8 := cc _ _ j8
  clear cc hw5 k5 j5
  go_wp2_with fail
  refine (laws_eqVector _ _ _ _ _ _ _ _ _ _ H2.out.2.2.2.2.2.2.1 H2.out.2.2.2.2.2.2.2.1 H2.out.2.2.2.2.2.2.2.2 H2'.out.2.2.2.2.2.2.1 H2'.out.2.2.2.2.2.2.2.1 H2'.out.2.2.2.2.2.2.2.2).mono ?_
  rintro en w6 ⟨rfl, hB6⟩
  have B6 := Lib.hid (B5.out.trans (hB6.mono B5.out.size))
  clear hB6
  go_wp2
  go_ret
  exact ⟨rfl, B6.out⟩
end Go.Proofs.Ytockhhfehjoldab


/-
Which triangles are valid: what the program and its model return. Conditions: none.
-/
namespace Go.Proofs.Ytockhhfehjoldab
open Go Fk Go.RowKit
set_option linter.unusedVariables false
set_option maxRecDepth 8000

def inB (n : Nat) (z : Int) : Bool := decide (0 ≤ z ∧ z < n)
def triB (n : Nat) (t : List Int) : Bool := decide (t.length = 3) && (inB n (t.getD 0 0) && inB n (t.getD 1 0) && inB n (t.getD 2 0)) && (decide (t.getD 0 0 ≠ t.getD 1 0) && decide (t.getD 1 0 ≠ t.getD 2 0) && decide (t.getD 0 0 ≠ t.getD 2 0))
theorem l00In (z : Int) (n : Nat) (w : World) :
    Calls Try.prog 40 #[.int .i64 z, .int .i64 0, .int .i64 ((n : Int) - 1)] w fun e w' => e = .returned (.bool (inB n z)) ∧ w' = w := by
  generalize hb : inB n z = b
  have H := Lib.hid hb
  clear hb
  by_cases h1 : 0 ≤ z
  · by_cases h2 : z < n
    · have h3 : z ≤ (n : Int) - 1 := by omega
      clear h2
      go_enter Try.func40, Try.ntmps40
      go_wp2
      go_ret
      exact ⟨ret_bool (by rw [← H.out]; exact (decide_eq_true ⟨h1, by omega⟩).symm), rfl⟩
    · have h3 : ¬ z ≤ (n : Int) - 1 := by omega
      clear h2
      go_enter Try.func40, Try.ntmps40
      go_wp2
      go_ret
      exact ⟨ret_bool (by rw [← H.out]; exact (decide_eq_false (fun h => by have := h.2; omega)).symm), rfl⟩
  · go_enter Try.func40, Try.ntmps40
    go_wp2
    go_ret
    exact ⟨ret_bool (by rw [← H.out]; exact (decide_eq_false (fun h => by have := h.1; omega)).symm), rfl⟩
theorem impl_isIndex (z : Int) (n : Nat) (w : World) :
    Calls Try.prog 91 #[.int .i64 z, .int .i64 n] w fun e w' => e = .returned (.bool (inB n z)) ∧ w' = w := by
  generalize hb : inB n z = b
  have H := Lib.hid hb
  clear hb
  by_cases h1 : 0 ≤ z
  · by_cases h2 : z < n
    · go_enter Try.func91, Try.ntmps91
      go_wp2
      go_ret
      exact ⟨ret_bool (by rw [← H.out]; exact (decide_eq_true ⟨h1, by omega⟩).symm), rfl⟩
    · go_enter Try.func91, Try.ntmps91
      go_wp2
      go_ret
      exact ⟨ret_bool (by rw [← H.out]; exact (decide_eq_false (fun h => by have := h.2; omega)).symm), rfl⟩
  · go_enter Try.func91, Try.ntmps91
    go_wp2
    go_ret
    exact ⟨ret_bool (by rw [← H.out]; exact (decide_eq_false (fun h => by have := h.1; omega)).symm), rfl⟩
set_option maxHeartbeats 1000000 in
theorem l02Triangle (a : Option Addr) (len cap : Nat) (t : List Int) (n : Nat) (w : World) (h : IsIs w a len cap t) (hn : (n : Int) ≤ 9223372036854775807) :
    Calls Try.prog 93 #[.slice a len cap, .int .i64 n] w fun e w' => e = .returned (.bool (triB n t)) ∧ ∃ k, w' = w.drewN k := by
  have hl := h.1
  by_cases h3 : len = 3
  · subst h3
    obtain ⟨b, o, rfl, hcell⟩ := h.some (by decide)
    have c0 := hcell 0 (by decide)
    have c1 := hcell 1 (by decide)
    have c2 := hcell 2 (by decide)
    simp only [Nat.add_zero] at c0
    unfold triB
    rw [hl, decide_eq_true rfl]
    have e1 : IntKind.i64.wrap ((n : Int) - 1) = (n : Int) - 1 := IntWalk.i64_in _ (by omega)
    generalize t.getD 0 0 = z0 at *
    generalize t.getD 1 0 = z1 at *
    generalize t.getD 2 0 = z2 at *
    clear h hcell hl hn
    generalize hi0 : inB n z0 = i0
    generalize hi1 : inB n z1 = i1
    generalize hi2 : inB n z2 = i2
    have I0 := Lib.hid hi0
    have I1 := Lib.hid hi1
    have I2 := Lib.hid hi2
    have J0 : ∀ w, Calls Try.prog 40 #[.int .i64 z0, .int .i64 0, .int .i64 ((n : Int) - 1)] w fun e w' => e = .returned (.bool i0) ∧ w' = w := fun w => (l00In z0 n w).mono (by rintro _ _ ⟨rfl, rfl⟩; exact ⟨by rw [hi0], rfl⟩)
    have J1 : ∀ w, Calls Try.prog 40 #[.int .i64 z1, .int .i64 0, .int .i64 ((n : Int) - 1)] w fun e w' => e = .returned (.bool i1) ∧ w' = w := fun w => (l00In z1 n w).mono (by rintro _ _ ⟨rfl, rfl⟩; exact ⟨by rw [hi1], rfl⟩)
    have J2 : ∀ w, Calls Try.prog 40 #[.int .i64 z2, .int .i64 0, .int .i64 ((n : Int) - 1)] w fun e w' => e = .returned (.bool i2) ∧ w' = w := fun w => (l00In z2 n w).mono (by rintro _ _ ⟨rfl, rfl⟩; exact ⟨by rw [hi2], rfl⟩)
    have K0 := Lib.hid J0
    have K1 := Lib.hid J1
    have K2 := Lib.hid J2
    clear J0 J1 J2 hi0 hi1 hi2 I0 I1 I2
    by_cases h01 : z0 = z1
    · have d01 : decide (z0 = z1) = true := decide_eq_true h01
      have hne : decide (z0 ≠ z1) = false := decide_eq_false (fun h => h h01)
      rw [hne]
      clear hne
      go_enter Try.func93, Try.ntmps93
      go_wp2_with fail
      go_quiet (fail)
      go_wp2
      go_ret
      exact ⟨ret_bool (by simp), _, rfl⟩
    · have d01 : (z0 == z1) = false := beq_eq_false_iff_ne.2 h01
      have hne01 : decide (z0 ≠ z1) = true := decide_eq_true h01
      rw [hne01]
      clear hne01
      by_cases h12 : z1 = z2
      · have d12 : decide (z1 = z2) = true := decide_eq_true h12
        have hne : decide (z1 ≠ z2) = false := decide_eq_false (fun h => h h12)
        rw [hne]
        clear hne d12
        have hs : z2 = z1 := h12.symm
        clear h12
        subst hs
        go_enter Try.func93, Try.ntmps93
        go_wp2_with fail
        go_quiet (fail)
        go_wp2
        go_ret
        exact ⟨ret_bool (by simp), _, rfl⟩
      · have d12 : (z1 == z2) = false := beq_eq_false_iff_ne.2 h12
        have hne12 : decide (z1 ≠ z2) = true := decide_eq_true h12
        rw [hne12]
        clear hne12
        by_cases h02 : z0 = z2
        · have d02 : decide (z0 = z2) = true := decide_eq_true h02
          have hne : decide (z0 ≠ z2) = false := decide_eq_false (fun h => h h02)
          rw [hne]
          clear hne d02 d12
          have hs : z2 = z0 := h02.symm
          clear h02
          subst hs
          go_enter Try.func93, Try.ntmps93
          go_wp2_with fail
          go_quiet (fail)
          go_wp2
          go_ret
          exact ⟨ret_bool (by simp), _, rfl⟩
        · have d02 : (z0 == z2) = false := beq_eq_false_iff_ne.2 h02
          have hne02 : decide (z0 ≠ z2) = true := decide_eq_true h02
          rw [hne02]
          clear hne02
          cases i0
          · go_enter Try.func93, Try.ntmps93
            go_wp2_with fail
            go_quiet (fail)
            go_wp2_with fail
            refine (K0.out _).mono ?_
            rintro e w1 ⟨rfl, rfl⟩
            go_wp2
            go_ret
            exact ⟨rfl, _, rfl⟩
          · cases i1
            · go_enter Try.func93, Try.ntmps93
              go_wp2_with fail
              go_quiet (fail)
              go_wp2_with fail
              refine (K0.out _).mono ?_
              rintro e w1 ⟨rfl, rfl⟩
              go_wp2_with fail
              refine (K1.out _).mono ?_
              rintro e w1 ⟨rfl, rfl⟩
              go_wp2
              go_ret
              exact ⟨rfl, _, rfl⟩
            · cases i2
              all_goals
                go_enter Try.func93, Try.ntmps93
                go_wp2_with fail
                go_quiet (fail)
                go_wp2_with fail
                refine (K0.out _).mono ?_
                rintro e w1 ⟨rfl, rfl⟩
                go_wp2_with fail
                refine (K1.out _).mono ?_
                rintro e w1 ⟨rfl, rfl⟩
                go_wp2_with fail
                refine (K2.out _).mono ?_
                rintro e w1 ⟨rfl, rfl⟩
                go_wp2
                go_ret
                exact ⟨rfl, _, rfl⟩
  · have h3' : decide ((len : Int) = 3) = false := decide_eq_false (by omega)
    have hb : triB n t = false := by unfold triB; rw [hl, decide_eq_false h3]; rfl
    have h4 : ¬ (len : Int) = 3 := by omega
    rw [hb]
    clear hb
    go_enter Try.func93, Try.ntmps93
    go_wp2_with fail
    go_quiet (fail)
    go_wp2
    go_ret
    exact ⟨rfl, _, rfl⟩
end Go.Proofs.Ytockhhfehjoldab


/-
Which meshes are valid: what the program and its model return. Conditions: none.
-/
namespace Go.Proofs.Ytockhhfehjoldab
open Go Fk Go.RowKit
set_option linter.unusedVariables false
set_option maxRecDepth 8000

theorem fin3 {a b c : Int} (h01 : ¬ a = b) (h12 : ¬ b = c) (h02 : ¬ a = c) : (true && (true && true && true) && (decide (a ≠ b) && decide (b ≠ c) && decide (a ≠ c))) = true := by
  rw [decide_eq_true h01, decide_eq_true h12, decide_eq_true h02]; rfl
set_option maxHeartbeats 8000000 in
theorem impl_isTriangle (a : Option Addr) (len cap : Nat) (t : List Int) (n : Nat) (w : World) (h : IsIs w a len cap t) :
    Calls Try.prog 96 #[.slice a len cap, .int .i64 n] w fun e w' => e = .returned (.bool (triB n t)) ∧ ∃ k, w' = w.drewN k := by
  have hl := h.1
  by_cases h3 : len = 3
  · subst h3
    obtain ⟨b, o, rfl, hcell⟩ := h.some (by decide)
    have c0 := hcell 0 (by decide)
    have c1 := hcell 1 (by decide)
    have c2 := hcell 2 (by decide)
    simp only [Nat.add_zero] at c0
    unfold triB
    rw [hl, decide_eq_true rfl]
    generalize t.getD 0 0 = z0 at *
    generalize t.getD 1 0 = z1 at *
    generalize t.getD 2 0 = z2 at *
    clear h hcell hl
    generalize hi0 : inB n z0 = i0
    generalize hi1 : inB n z1 = i1
    generalize hi2 : inB n z2 = i2
    have J0 : ∀ w, Calls Try.prog 91 #[.int .i64 z0, .int .i64 n] w fun e w' => e = .returned (.bool i0) ∧ w' = w := fun w => (impl_isIndex z0 n w).mono (by rintro _ _ ⟨rfl, rfl⟩; exact ⟨by rw [hi0], rfl⟩)
    have J1 : ∀ w, Calls Try.prog 91 #[.int .i64 z1, .int .i64 n] w fun e w' => e = .returned (.bool i1) ∧ w' = w := fun w => (impl_isIndex z1 n w).mono (by rintro _ _ ⟨rfl, rfl⟩; exact ⟨by rw [hi1], rfl⟩)
    have J2 : ∀ w, Calls Try.prog 91 #[.int .i64 z2, .int .i64 n] w fun e w' => e = .returned (.bool i2) ∧ w' = w := fun w => (impl_isIndex z2 n w).mono (by rintro _ _ ⟨rfl, rfl⟩; exact ⟨by rw [hi2], rfl⟩)
    have K0 := Lib.hid J0
    have K1 := Lib.hid J1
    have K2 := Lib.hid J2
    clear J0 J1 J2 hi0 hi1 hi2
    go_enter Try.func96, Try.ntmps96
    go_wp2
    go_loopw [12] (fun i w' => ∃ k : Nat, k ≤ 3 ∧ i = .int .i64 k ∧ (0 < k → i0 = true) ∧ (1 < k → i1 = true) ∧ (2 < k → i2 = true) ∧ w' = w) (fun i _ => 3 - (intOf i).toNat)
    case atStart => exact ⟨0, by decide, rfl, (fun h => absurd h (by decide)), (fun h => absurd h (by decide)), (fun h => absurd h (by decide)), rfl⟩
    case round =>
      obtain ⟨k, hk, rfl, h0, h1, h2, rfl⟩ := hrel
      have hcase : k = 0 ∨ k = 1 ∨ k = 2 ∨ k = 3 := by omega
      rcases hcase with rfl | rfl | rfl | rfl
      · cases i0
        · go_wp2_with (go_at_call 91; refine (K0.out _).mono ?_; rintro e w1 ⟨rfl, hw1⟩; rw [hw1]; clear hw1)
          go_ret
          exact ⟨ret_bool (by simp), 0, rfl⟩
        · go_wp2_with (go_at_call 91; refine (K0.out _).mono ?_; rintro e w1 ⟨rfl, hw1⟩; rw [hw1]; clear hw1)
          go_roundw
          case rel => exact ⟨1, by decide, rfl, (by first | trivial | exact fun _ => rfl | exact fun _ => h0 (by decide)), (fun h => absurd h (by decide)), (fun h => absurd h (by decide)), trivial⟩
          case measure => simp [intOf]
      · cases i1
        · go_wp2_with (go_at_call 91; refine (K1.out _).mono ?_; rintro e w1 ⟨rfl, hw1⟩; rw [hw1]; clear hw1)
          go_ret
          exact ⟨ret_bool (by simp), 0, rfl⟩
        · go_wp2_with (go_at_call 91; refine (K1.out _).mono ?_; rintro e w1 ⟨rfl, hw1⟩; rw [hw1]; clear hw1)
          go_roundw
          case rel => exact ⟨2, by decide, rfl, (by first | trivial | exact fun _ => rfl | exact fun _ => h0 (by decide)), (by first | trivial | exact fun _ => rfl | exact fun _ => h1 (by decide)), (fun h => absurd h (by decide)), trivial⟩
          case measure => simp [intOf]
      · cases i2
        · go_wp2_with (go_at_call 91; refine (K2.out _).mono ?_; rintro e w1 ⟨rfl, hw1⟩; rw [hw1]; clear hw1)
          go_ret
          exact ⟨ret_bool (by simp), 0, rfl⟩
        · go_wp2_with (go_at_call 91; refine (K2.out _).mono ?_; rintro e w1 ⟨rfl, hw1⟩; rw [hw1]; clear hw1)
          go_roundw
          case rel => exact ⟨3, by decide, rfl, (by first | trivial | exact fun _ => rfl | exact fun _ => h0 (by decide)), (by first | trivial | exact fun _ => rfl | exact fun _ => h1 (by decide)), (by first | trivial | exact fun _ => rfl | exact fun _ => h2 (by decide)), trivial⟩
          case measure => simp [intOf]
      · have e0 := h0 (by decide)
        have e1 := h1 (by decide)
        have e2 := h2 (by decide)
        subst e0 e1 e2
        clear h0 h1 h2
        by_cases h01 : z0 = z1
        · have hs : z1 = z0 := h01.symm
          clear h01
          subst hs
          go_wp2_with fail
          go_quiet (fail)
          go_wp2
          go_ret
          exact ⟨ret_bool (by simp), _, rfl⟩
        · have d01 : (z0 == z1) = false := beq_eq_false_iff_ne.2 h01
          by_cases h12 : z1 = z2
          · have hs : z2 = z1 := h12.symm
            clear h12
            subst hs
            go_wp2_with fail
            go_quiet (fail)
            go_wp2
            go_ret
            exact ⟨ret_bool (by simp [h01]), _, rfl⟩
          · have d12 : (z1 == z2) = false := beq_eq_false_iff_ne.2 h12
            by_cases h02 : z0 = z2
            · have hs : z2 = z0 := h02.symm
              clear h02 d12
              subst hs
              go_wp2_with fail
              go_quiet (fail)
              go_wp2
              go_ret
              exact ⟨ret_bool (by simp [h01, h12]), _, rfl⟩
            · have d02 : (z0 == z2) = false := beq_eq_false_iff_ne.2 h02
              have d20 : (z2 == z0) = false := beq_eq_false_iff_ne.2 (fun h => h02 h.symm)
              go_wp2_with fail
              go_quiet (fail)
              go_wp2
              go_ret
              refine ⟨ret_bool ?_, _, rfl⟩
              rw [fin3 h01 h12 h02]
              first | rfl | (simp only [bne, d01, d12, d20]; rfl) | (simp only [bne, d01, d12, d02]; rfl)
  · have hb : triB n t = false := by unfold triB; rw [hl, decide_eq_false h3]; rfl
    have h4 : ¬ (len : Int) = 3 := by omega
    rw [hb]
    clear hb
    go_enter Try.func96, Try.ntmps96
    go_wp2
    go_ret
    exact ⟨rfl, 0, rfl⟩
end Go.Proofs.Ytockhhfehjoldab


/-
Which meshes are valid: what the program and its model return. Conditions: none.
-/
namespace Go.Proofs.Ytockhhfehjoldab
open Go Fk Go.RowKit
set_option linter.unusedVariables false
set_option maxRecDepth 8000

def validB (cs : List C3) (ts : List (List Int)) : Bool := decide (cs.length ≤ 64) && decide (ts.length ≤ 128) && ts.all (triB cs.length)
theorem all_take {n : Nat} {ts : List (List Int)} (h : ∀ j, j < ts.length → triB n (ts.getD j []) = true) : ts.all (triB n) = true := by
  rw [List.all_eq_true]
  intro x hx
  obtain ⟨i, hi, rfl⟩ := List.mem_iff_getElem.1 hx
  have := h i hi
  simpa [List.getD, hi] using this
theorem all_not {n : Nat} {ts : List (List Int)} {k : Nat} (hk : k < ts.length) (h : triB n (ts.getD k []) = false) : ts.all (triB n) = false := by
  rw [Bool.eq_false_iff]
  intro hh
  have := List.all_eq_true.1 hh (ts[k]) (List.getElem_mem hk)
  have h' : triB n ts[k] = false := by simpa [List.getD, hk] using h
  rw [this] at h'; cases h'
theorem impl_ValidMesh (pa ta : Option Addr) (pl pc tl tc : Nat) (cs : List C3) (ts : List (List Int)) (w : World) (hp : IsVs w pa pl pc cs) (ht : IsTs w ta tl tc ts) :
    Calls Try.prog 69 #[.agg #[.slice pa pl pc, .slice ta tl tc]] w fun e w' => e = .returned (.bool (validB cs ts)) ∧ Below w.heap.size w w' := by
  have ui := Try.underlying44
  have hpl := hp.1
  have htl := ht.1
  unfold validB
  rw [hpl, htl]
  have hB0 : Below w.heap.size w (w.alloc (.cells #[.slice pa pl pc, .slice ta tl tc] 44)) := (Below.refl _ _).alloc (Nat.le_refl _) _
  have HB0 := Lib.hid hB0
  by_cases h1 : pl ≤ 64
  · by_cases h2 : tl ≤ 128
    · have g1 : ¬ (64 : Int) < pl := by omega
      have g2 : ¬ (128 : Int) < tl := by omega
      rw [decide_eq_true h1, decide_eq_true h2]
      have ht' := ht.below hB0
      have HTL := Lib.hid htl
      clear hp ht hB0 hpl htl
      have c0 : (w.alloc (.cells #[.slice pa pl pc, .slice ta tl tc] 44)).cell? ⟨w.heap.size, 0, none⟩ = some (.slice pa pl pc) := by go_simp
      go_enter Try.func69, Try.ntmps69
      go_wp2_with fail
      generalize w.alloc (.cells #[.slice pa pl pc, .slice ta tl tc] 44) = W at c0 ht' HB0 ⊢
      have hm : tl ≤ 9223372036854775807 := by omega
      go_loopw [18] (fun i w' => ∃ k : Nat, k ≤ tl ∧ i = .int .i64 k ∧ Aside (∀ j, j < k → triB pl (ts.getD j []) = true) ∧ ∃ n, w' = W.drewN n) (fun i _ => tl - (intOf i).toNat)
      case atStart => exact ⟨0, Nat.zero_le _, rfl, (fun j hj => absurd hj (by omega)), 0, rfl⟩
      case round =>
        obtain ⟨k, hk, rfl, hall, n, hw⟩ := hrel
        by_cases hlt : k < tl
        · obtain ⟨b, o, rfl, hcell⟩ := (ht'.drew hw).some (by omega)
          obtain ⟨r1, n1, q1, c1, i1⟩ := hcell k hlt
          have c0' : wr.cell? ⟨w.heap.size, 0, none⟩ = some (.slice pa pl pc) := by rw [hw]; exact c0
          have hJ := fun w (hi : IsIs w r1 n1 q1 (ts.getD k [])) => impl_isTriangle r1 n1 q1 (ts.getD k []) pl w hi
          have HW := Lib.hid hw
          have hk0 : (0 : Int) ≤ (k : Int) := by omega
          have hk1 : (k : Int) < (tl : Int) := by omega
          cases hb : triB pl (ts.getD k [])
          · have hres : Aside ((true && true && ts.all (triB pl)) = false) := by show (true && true && ts.all (triB pl)) = false; rw [all_not (by rw [HTL.out]; exact hlt) hb]; rfl
            rw [hb] at hJ
            have HJ := Lib.hid (hJ wr i1)
            clear hcell ht' hw i1 hJ hall hb
            go_wp2_with (go_at_call 96; refine HJ.out.mono ?_; rintro e w1 ⟨rfl, m, rfl⟩)
            go_ret
            exact ⟨ret_bool hres.out.symm, by rw [HW.out, World.drewN_drewN]; exact below_drewN HB0.out _⟩
          · have hall' : Aside (∀ j, j < k + 1 → triB pl (ts.getD j []) = true) := by
              intro j hj
              by_cases hjk : j = k
              · subst hjk; exact hb
              · exact hall.out j (by omega)
            rw [hb] at hJ
            have HJ := Lib.hid (hJ wr i1)
            clear hcell ht' hw i1 hJ hall hb
            go_wp2_with (go_at_call 96; refine HJ.out.mono ?_; rintro e w1 ⟨rfl, m, rfl⟩)
            go_roundw
            case rel => exact ⟨k + 1, by omega, by go_num, hall', drewn_end HW.out⟩
            case measure => simp [intOf]; omega
        · obtain rfl : k = tl := by omega
          have hres : Aside ((true && true && ts.all (triB pl)) = true) := by show (true && true && ts.all (triB pl)) = true; rw [all_take (by rw [HTL.out]; exact hall.out)]; rfl
          have HW := Lib.hid hw
          clear hall hw ht'
          go_wp2
          go_ret
          exact ⟨ret_bool hres.out.symm, by rw [HW.out]; exact below_drewN HB0.out _⟩
    · have g1 : ¬ (64 : Int) < pl := by omega
      have g2 : (128 : Int) < tl := by omega
      rw [decide_eq_true h1, decide_eq_false h2]
      clear hp ht hB0 hpl htl
      go_enter Try.func69, Try.ntmps69
      go_wp2
      go_ret
      exact ⟨rfl, HB0.out⟩
  · have g1 : (64 : Int) < pl := by omega
    rw [decide_eq_false h1]
    clear hp ht hB0 hpl htl
    go_enter Try.func69, Try.ntmps69
    go_wp2
    go_ret
    exact ⟨rfl, HB0.out⟩
set_option maxHeartbeats 1000000 in
theorem l02Is (pb : Nat) (pa ta : Option Addr) (pl pc tl tc : Nat) (cs : List C3) (ts : List (List Int)) (w : World) (c0 : w.cell? ⟨pb, 0, none⟩ = some (.slice pa pl pc)) (c1 : w.cell? ⟨pb, 1, none⟩ = some (.slice ta tl tc)) (hp : IsVs w pa pl pc cs) (ht : IsTs w ta tl tc ts) :
    Calls Try.prog 65 #[.pointer (some ⟨pb, 0, none⟩)] w fun e w' => e = .returned (.bool (validB cs ts)) ∧ ∃ n, w' = w.drewN n := by
  have ui := Try.underlying44
  have hpl := hp.1
  have htl := ht.1
  unfold validB
  rw [hpl, htl]
  by_cases h1 : pl ≤ 64
  · have g1 : ¬ (64 : Int) < pl := by omega
    by_cases h2 : tl ≤ 128
    · have g2 : ¬ (128 : Int) < tl := by omega
      rw [decide_eq_true h1, decide_eq_true h2]
      have HTL := Lib.hid htl
      clear hp hpl htl
      go_enter Try.func65, Try.ntmps65
      go_wp2_with fail
      have hm : tl ≤ 9223372036854775807 := by omega
      go_loopw [3] (fun i w' => ∃ k : Nat, k ≤ tl ∧ i = .int .i64 k ∧ Aside (∀ j, j < k → triB pl (ts.getD j []) = true) ∧ ∃ n, w' = w.drewN n) (fun i _ => tl - (intOf i).toNat)
      case atStart => exact ⟨0, Nat.zero_le _, rfl, (fun j hj => absurd hj (by omega)), 0, rfl⟩
      case round =>
        obtain ⟨k, hk, rfl, hall, n, hw⟩ := hrel
        have c0' : wr.cell? ⟨pb, 0, none⟩ = some (.slice pa pl pc) := by rw [hw]; exact c0
        have c1' : wr.cell? ⟨pb, 1, none⟩ = some (.slice ta tl tc) := by rw [hw]; exact c1
        by_cases hlt : k < tl
        · obtain ⟨b, o, rfl, hcell⟩ := (ht.drew hw).some (by omega)
          obtain ⟨r1, n1, q1, cr, i1⟩ := hcell k hlt
          have hJ := fun w (hi : IsIs w r1 n1 q1 (ts.getD k [])) => l02Triangle r1 n1 q1 (ts.getD k []) pl w hi (by omega)
          have HW := Lib.hid hw
          have hk0 : (0 : Int) ≤ (k : Int) := by omega
          have hk1 : (k : Int) < (tl : Int) := by omega
          cases hb : triB pl (ts.getD k [])
          · have hres : Aside ((true && true && ts.all (triB pl)) = false) := by show (true && true && ts.all (triB pl)) = false; rw [all_not (by rw [HTL.out]; exact hlt) hb]; rfl
            rw [hb] at hJ
            have HJ := Lib.hid (fun n => hJ (wr.drewN n) i1.drew)
            clear hcell ht hw i1 hJ hall hb
            go_wp2_with fail
            go_quiet ((go_at_call 93; exact Calls.quiet_of (HJ.out _)))
            go_wp2
            go_ret
            exact ⟨ret_bool hres.out.symm, drewn_end HW.out⟩
          · have hall' : Aside (∀ j, j < k + 1 → triB pl (ts.getD j []) = true) := by
              intro j hj
              by_cases hjk : j = k
              · subst hjk; exact hb
              · exact hall.out j (by omega)
            rw [hb] at hJ
            have HJ := Lib.hid (fun n => hJ (wr.drewN n) i1.drew)
            clear hcell ht hw i1 hJ hall hb
            go_wp2_with fail
            go_quiet ((go_at_call 93; exact Calls.quiet_of (HJ.out _)))
            go_wp2
            go_roundw
            case rel => exact ⟨k + 1, by omega, by go_num, hall', drewn_end HW.out⟩
            case measure => simp [intOf]; omega
        · obtain rfl : k = tl := by omega
          have hres : Aside ((true && true && ts.all (triB pl)) = true) := by show (true && true && ts.all (triB pl)) = true; rw [all_take (by rw [HTL.out]; exact hall.out)]; rfl
          have HW := Lib.hid hw
          clear hall hw ht
          go_wp2
          go_ret
          exact ⟨ret_bool hres.out.symm, by rw [HW.out]; exact ⟨_, rfl⟩⟩
    · have g2 : (128 : Int) < tl := by omega
      rw [decide_eq_true h1, decide_eq_false h2]
      clear hp ht hpl htl
      go_enter Try.func65, Try.ntmps65
      go_wp2
      go_ret
      exact ⟨rfl, 0, rfl⟩
  · have g1 : (64 : Int) < pl := by omega
    rw [decide_eq_false h1]
    clear hp ht hpl htl
    go_enter Try.func65, Try.ntmps65
    go_wp2
    go_ret
    exact ⟨rfl, 0, rfl⟩
end Go.Proofs.Ytockhhfehjoldab

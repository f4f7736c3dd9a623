/-
Texts in one: what SwingOf stands on, part 11. Conditions: those of each.
-/
import Derived.Test.YtkdoibglgkcbkaaKSwingOf10

/-
Blocks of memory whose cells are known. Conditions: none.
-/
namespace Go.Proofs.Ytkdoibglgkcbkaa
open Go Fk Go.RowKit
set_option linter.unusedVariables false

/-- A block whose cells hold these values. -/
def At (w : World) (b : Nat) (vs : List Value) : Prop := ∀ i v, vs[i]? = some v → w.cell? ⟨b, i, none⟩ = some v
theorem At.below {W w : World} {b : Nat} {vs : List Value} (hb : Below W.heap.size W w) (h : At W b vs) : At w b vs := fun i v hv => cell_below hb (h i v hv)
theorem At.alloc {w : World} {b : Nat} {vs : List Value} {o : Obj} (h : At w b vs) : At (w.alloc o) b vs := fun i v hv => cell_alloc (h i v hv)
theorem At.drew {w : World} {b n : Nat} {vs : List Value} (h : At w b vs) : At (w.drewN n) b vs := h
theorem At.new {w : World} {vs : List Value} {t : TypeId} : At (w.alloc (.cells vs.toArray t)) w.heap.size vs := by
  intro i v hv
  simp [hv]
theorem At.far {w : World} {b : Nat} {vs : List Value} {a : Addr} {u : Value} (hne : a.block ≠ b) (h : At w b vs) : At (w.setCell a u) b vs := fun i v hv => cell_set hne (h i v hv)
theorem At.set {w : World} {b : Nat} {vs : List Value} (h : At w b vs) (i : Nat) (u : Value) : At (w.setCell ⟨b, i, none⟩ u) b (vs.set i u) := by
  intro j v hv
  rw [List.getElem?_set] at hv
  by_cases hij : i = j
  · subst hij
    rw [if_pos rfl] at hv
    split at hv
    · rename_i hlt
      cases hv
      exact World.cell?_setCell_same _ _ _ (h i vs[i] (List.getElem?_eq_getElem hlt))
    · cases hv
  · rw [if_neg hij] at hv
    rw [World.cell?_setCell_other _ _ _ _ (by simp <;> omega)]
    exact h j v hv
theorem At.lt {w : World} {b : Nat} {v : Value} {vs : List Value} (h : At w b (v :: vs)) : b < w.heap.size := World.block_lt_of_cell? w _ (h 0 v rfl)
/-- A block that may be written. -/
def Fr (w : World) (b : Nat) : Prop := ∀ i, w.frozen? ⟨b, i, none⟩ = false
theorem Fr.below {W w : World} {b : Nat} (hb : Below W.heap.size W w) (hlt : b < W.heap.size) (h : Fr W b) : Fr w b := fun i => frozen_below hb hlt (h i)
theorem Fr.setC {w : World} {b : Nat} {a : Addr} {u : Value} (h : Fr w b) : Fr (w.setCell a u) b := fun i => by simp; exact h i
theorem Fr.new {w : World} {vs : Array Value} {t : TypeId} : Fr (w.alloc (.cells vs t)) w.heap.size := fun i => by simp
theorem Fr.alloc {w : World} {b : Nat} {o : Obj} (hlt : b < w.heap.size) (h : Fr w b) : Fr (w.alloc o) b := h.below ((Below.refl _ _).alloc (Nat.le_refl _) _) hlt

end Go.Proofs.Ytkdoibglgkcbkaa


/-
Copies of bodies, and that they are the same: what the law's own functions return. Conditions: at most 2^20 of each.
-/
namespace Go.Proofs.Ytkdoibglgkcbkaa
open Go Fk Go.RowKit
set_option linter.unusedVariables false
set_option maxRecDepth 8000

/-- Where a body's parts lie, and its numbers. -/
structure Bd where
  (pa ta sa wa : Option Addr)
  (pl pc tl tc sl sc wl wc film bend x y z : Nat)
/-- The body's value. -/
abbrev Bd.v (B : Bd) : Value := .agg #[.slice B.pa B.pl B.pc, .slice B.ta B.tl B.tc, .slice B.sa B.sl B.sc, .float .f32 B.film, .float .f32 B.bend, .slice B.wa B.wl B.wc, .float .f32 B.x, .float .f32 B.y, .float .f32 B.z]
/-- The body's cells. -/
abbrev Bd.l (B : Bd) : List Value := [.slice B.pa B.pl B.pc, .slice B.ta B.tl B.tc, .slice B.sa B.sl B.sc, .float .f32 B.film, .float .f32 B.bend, .slice B.wa B.wl B.wc, .float .f32 B.x, .float .f32 B.y, .float .f32 B.z]
/-- What a body is. -/
structure Bc where
  (cs : List C3) (ts : List (List Int)) (ss : List SC) (zs : List Nat) (film bend : Option Nat) (fall : C3)
def IsB (w : World) (B : Bd) (c : Bc) : Prop :=
  IsVs w B.pa B.pl B.pc c.cs ∧ IsTs w B.ta B.tl B.tc c.ts ∧ IsSs w B.sa B.sl B.sc c.ss ∧ IsFs .f32 w B.wa B.wl B.wc c.zs ∧ FV .f32 B.film c.film ∧ FV .f32 B.bend c.bend ∧ FV3 B.x B.y B.z c.fall
theorem IsB.below {W w : World} {B : Bd} {c : Bc} (hb : Below W.heap.size W w) (h : IsB W B c) : IsB w B c :=
  ⟨h.1.below hb, h.2.1.below hb, h.2.2.1.below hb, IsFs_below hb h.2.2.2.1, h.2.2.2.2⟩
def SmallB (c : Bc) : Prop := Small c.cs c.ts ∧ c.ss.length ≤ 1048576 ∧ c.zs.length ≤ 1048576

theorem laws_szBody' (B : Bd) (c : Bc) (left : Int) (w : World) (h : IsB w B c) (h0 : 0 ≤ left) (h1 : left ≤ 1048576) :
    Calls Try.prog 38 #[B.v, .int .i64 left] w fun e w' => (∃ r : Int, e = .returned (.int .i64 r) ∧ (r = -1 ∨ (0 ≤ r ∧ r ≤ 1048576 ∧ SmallB c))) ∧ Below w.heap.size w w' := by
  have ul := Try.underlying62
  have um := Try.underlying48
  have hA0 : At (w.alloc (.cells #[.slice B.pa B.pl B.pc, .slice B.ta B.tl B.tc, .slice B.sa B.sl B.sc, .float .f32 B.film, .float .f32 B.bend, .slice B.wa B.wl B.wc, .float .f32 B.x, .float .f32 B.y, .float .f32 B.z] 62)) w.heap.size B.l := At.new
  have hB0 := (Below.refl w.heap.size w).alloc (Nat.le_refl _) (.cells #[.slice B.pa B.pl B.pc, .slice B.ta B.tl B.tc, .slice B.sa B.sl B.sc, .float .f32 B.film, .float .f32 B.bend, .slice B.wa B.wl B.wc, .float .f32 B.x, .float .f32 B.y, .float .f32 B.z] 62)
  have H0 := Lib.hid (h.below hB0)
  have hsm : B.sl ≤ 9223372036854775807 := by have h1 := h.2.2.1.2.1; have h2 := h.2.2.1.2.2.1; unfold maxLen at h2; omega
  have hwm : B.wl ≤ 9223372036854775807 := by have h1 := h.2.2.2.1.2.1; have h2 := h.2.2.2.1.2.2.1; unfold maxLen at h2; omega
  have L := Lib.hid (And.intro h.1.1 (And.intro h.2.1.1 (And.intro h.2.2.1.1 h.2.2.2.1.1)))
  have HA0 := Lib.hid hA0
  have HB0 := Lib.hid hB0
  clear hA0 hB0 h
  go_enter Try.func38, Try.ntmps38
  go_wp2_with fail
  generalize (w.alloc (.cells #[.slice B.pa B.pl B.pc, .slice B.ta B.tl B.tc, .slice B.sa B.sl B.sc, .float .f32 B.film, .float .f32 B.bend, .slice B.wa B.wl B.wc, .float .f32 B.x, .float .f32 B.y, .float .f32 B.z] 62)) = W at *
  refine (laws_szMesh' _ _ _ _ _ _ _ _ _ _ H0.out.1 H0.out.2.1 h0 h1).mono ?_
  rintro e w1 ⟨⟨r, rfl, hr⟩, hB1⟩
  have hA1 := HA0.out.below hB1
  have k2 := hA1 2 _ rfl
  have k5 := hA1 5 _ rfl
  have HB1 := Lib.hid (HB0.out.trans (hB1.mono HB0.out.size))
  clear hA1 hB1
  rcases hr with rfl | ⟨r0, r1, s1, s2, s3⟩
  · go_wp2
    go_ret
    exact ⟨⟨-1, rfl, .inl rfl⟩, HB1.out⟩
  · have HS3 := Lib.hid s3
    clear s3
    go_wp2_with (go_at_call 106; refine (laws_szSpringS _ _ _ _ _ r0 r1 hsm).mono ?_; rintro e w2 ⟨⟨q, rfl, hq⟩, hw2⟩; rw [hw2]; clear hw2 w2; rcases hq with rfl | ⟨q0, q1, q2⟩)
    · go_ret
      exact ⟨⟨-1, rfl, .inl rfl⟩, HB1.out⟩
    · go_wp2_with (go_at_call 107; refine (laws_szFloat32S _ _ _ _ _ q0 q1 hwm).mono ?_; rintro e w2 ⟨⟨p, rfl, hp⟩, hw2⟩; rw [hw2]; clear hw2 w2; rcases hp with rfl | ⟨p0, p1, p2⟩)
      · go_ret
        exact ⟨⟨-1, rfl, .inl rfl⟩, HB1.out⟩
      · go_wp2
        go_ret
        exact ⟨⟨p, rfl, .inr ⟨p0, p1, ⟨by rw [L.out.1]; exact s1, by rw [L.out.2.1]; exact s2, by rw [L.out.2.1]; exact HS3.out⟩, by rw [L.out.2.2.1]; exact q2, by rw [L.out.2.2.2]; exact p2⟩⟩, HB1.out⟩
theorem laws_szBody (B : Bd) (c : Bc) (left : Int) (w : World) (h : IsB w B c) (h0 : 0 ≤ left) (h1 : left ≤ 1048576) :
    Calls Try.prog 38 #[B.v, .int .i64 left] w fun e w' => (∃ r : Int, e = .returned (.int .i64 r) ∧ (r = -1 ∨ (0 ≤ r ∧ SmallB c))) ∧ Below w.heap.size w w' :=
  (laws_szBody' B c left w h h0 h1).mono fun _ _ ⟨⟨r, he, hr⟩, hb⟩ => ⟨⟨r, he, hr.imp id fun h => ⟨h.1, h.2.2⟩⟩, hb⟩
theorem eqMesh' (pa ta pa' ta' : Option Addr) (pl pl' pc tl tl' tc pc' tc' : Nat) (cs : List C3) (ts : List (List Int)) (w : World) (hp : IsVs w pa pl pc cs) (ht : IsTs w ta tl tc ts) (hp' : IsVs w pa' pl' pc' cs) (ht' : IsTs w ta' tl' tc' ts) :
    Calls Try.prog 27 #[.agg #[.slice pa pl pc, .slice ta tl tc], .agg #[.slice pa' pl' pc', .slice ta' tl' tc']] w fun e w' => e = .returned (.bool true) ∧ Below w.heap.size w w' := by
  obtain rfl := hp'.1.symm.trans hp.1
  obtain rfl := ht'.1.symm.trans ht.1
  exact laws_eqMesh _ _ _ _ _ _ _ _ _ _ cs ts w hp ht hp' ht'
theorem eqSpringS' (a b : Option Addr) (len len' cap cap' : Nat) (ss : List SC) (w : World) (ha : IsSs w a len cap ss) (hb : IsSs w b len' cap' ss) :
    Calls Try.prog 120 #[.slice a len cap, .slice b len' cap'] w fun e w' => e = .returned (.bool true) ∧ Below w.heap.size w w' := by
  obtain rfl := hb.1.symm.trans ha.1
  exact laws_eqSpringS _ _ _ _ _ ss w ha hb
theorem eqFloat32S' (a b : Option Addr) (len len' cap cap' : Nat) (zs : List Nat) (w : World) (ha : IsFs .f32 w a len cap zs) (hb : IsFs .f32 w b len' cap' zs) (hl : zs.length ≤ 1048576) :
    Calls Try.prog 121 #[.slice a len cap, .slice b len' cap'] w fun e w' => e = .returned (.bool true) ∧ ∃ n, w' = w.drewN n := by
  obtain rfl := hb.1.symm.trans ha.1
  exact laws_eqFloat32S _ _ _ _ _ zs w ha hb (by rw [← hb.1]; exact hl)
set_option maxHeartbeats 1000000 in
theorem laws_eqBody (B B' : Bd) (c : Bc) (w : World) (h : IsB w B c) (h' : IsB w B' c) (hs : SmallB c) :
    Calls Try.prog 42 #[B.v, B'.v] w fun e w' => e = .returned (.bool true) ∧ Below w.heap.size w w' := by
  have ui := Try.underlying69
  have um := Try.underlying41
  have uv := Try.underlying67
  have u := Try.underlying22
  have u' := Try.underlying26
  have a0 : At ((w.alloc (.cells #[.slice B.pa B.pl B.pc, .slice B.ta B.tl B.tc, .slice B.sa B.sl B.sc, .float .f32 B.film, .float .f32 B.bend, .slice B.wa B.wl B.wc, .float .f32 B.x, .float .f32 B.y, .float .f32 B.z] 69)).alloc (.cells #[.slice B'.pa B'.pl B'.pc, .slice B'.ta B'.tl B'.tc, .slice B'.sa B'.sl B'.sc, .float .f32 B'.film, .float .f32 B'.bend, .slice B'.wa B'.wl B'.wc, .float .f32 B'.x, .float .f32 B'.y, .float .f32 B'.z] 69)) w.heap.size B.l := At.new.alloc
  have a1 : At ((w.alloc (.cells #[.slice B.pa B.pl B.pc, .slice B.ta B.tl B.tc, .slice B.sa B.sl B.sc, .float .f32 B.film, .float .f32 B.bend, .slice B.wa B.wl B.wc, .float .f32 B.x, .float .f32 B.y, .float .f32 B.z] 69)).alloc (.cells #[.slice B'.pa B'.pl B'.pc, .slice B'.ta B'.tl B'.tc, .slice B'.sa B'.sl B'.sc, .float .f32 B'.film, .float .f32 B'.bend, .slice B'.wa B'.wl B'.wc, .float .f32 B'.x, .float .f32 B'.y, .float .f32 B'.z] 69)) (w.heap.size + 1) B'.l := by
    have := At.new (w := w.alloc (.cells #[.slice B.pa B.pl B.pc, .slice B.ta B.tl B.tc, .slice B.sa B.sl B.sc, .float .f32 B.film, .float .f32 B.bend, .slice B.wa B.wl B.wc, .float .f32 B.x, .float .f32 B.y, .float .f32 B.z] 69)) (vs := B'.l) (t := 69)
    simpa using this
  have b0 := ((Below.refl w.heap.size w).alloc (Nat.le_refl _) (.cells #[.slice B.pa B.pl B.pc, .slice B.ta B.tl B.tc, .slice B.sa B.sl B.sc, .float .f32 B.film, .float .f32 B.bend, .slice B.wa B.wl B.wc, .float .f32 B.x, .float .f32 B.y, .float .f32 B.z] 69)).alloc (by simp) (.cells #[.slice B'.pa B'.pl B'.pc, .slice B'.ta B'.tl B'.tc, .slice B'.sa B'.sl B'.sc, .float .f32 B'.film, .float .f32 B'.bend, .slice B'.wa B'.wl B'.wc, .float .f32 B'.x, .float .f32 B'.y, .float .f32 B'.z] 69)
  have H := Lib.hid (h.below b0)
  have H' := Lib.hid (h'.below b0)
  have HS := Lib.hid hs
  have A0 := Lib.hid a0
  have A1 := Lib.hid a1
  have B0 := Lib.hid b0
  clear h h' hs a0 a1 b0
  go_enter Try.func42, Try.ntmps42
  go_wp2_with fail
  generalize ((w.alloc (.cells #[.slice B.pa B.pl B.pc, .slice B.ta B.tl B.tc, .slice B.sa B.sl B.sc, .float .f32 B.film, .float .f32 B.bend, .slice B.wa B.wl B.wc, .float .f32 B.x, .float .f32 B.y, .float .f32 B.z] 69)).alloc (.cells #[.slice B'.pa B'.pl B'.pc, .slice B'.ta B'.tl B'.tc, .slice B'.sa B'.sl B'.sc, .float .f32 B'.film, .float .f32 B'.bend, .slice B'.wa B'.wl B'.wc, .float .f32 B'.x, .float .f32 B'.y, .float .f32 B'.z] 69)) = W at *
  refine (eqMesh' _ _ _ _ _ _ _ _ _ _ _ _ c.cs c.ts _ H.out.1 H.out.2.1 H'.out.1 H'.out.2.1).mono ?_
  rintro e w1 ⟨rfl, hB1⟩
  have k2 := A0.out.below hB1 2 _ rfl
  have j2 := A1.out.below hB1 2 _ rfl
  have A2 := Lib.hid (A0.out.below hB1)
  have A3 := Lib.hid (A1.out.below hB1)
  have H1 := Lib.hid (H.out.below hB1)
  have H1' := Lib.hid (H'.out.below hB1)
  have B1 := Lib.hid (B0.out.trans (hB1.mono B0.out.size))
  clear hB1
  go_wp2_with fail
  refine (eqSpringS' _ _ _ _ _ _ c.ss _ H1.out.2.2.1 H1'.out.2.2.1).mono ?_
  rintro e w2 ⟨rfl, hB2⟩
  clear k2 j2
  have k3 := A2.out.below hB2 3 _ rfl
  have j3 := A3.out.below hB2 3 _ rfl
  have k4 := A2.out.below hB2 4 _ rfl
  have j4 := A3.out.below hB2 4 _ rfl
  have k5 := A2.out.below hB2 5 _ rfl
  have j5 := A3.out.below hB2 5 _ rfl
  have k6 := A2.out.below hB2 6 _ rfl
  have j6 := A3.out.below hB2 6 _ rfl
  have k7 := A2.out.below hB2 7 _ rfl
  have j7 := A3.out.below hB2 7 _ rfl
  have k8 := A2.out.below hB2 8 _ rfl
  have j8 := A3.out.below hB2 8 _ rfl
  have H2 := Lib.hid (H1.out.below hB2)
  have H2' := Lib.hid (H1'.out.below hB2)
  have B2 := Lib.hid (B1.out.trans (hB2.mono B1.out.size))
  clear hB2
  go_wp2_with fail
  refine (laws_sameFloat _ _ _ _ (FV_wR H2.out.2.2.2.2.1) (FV_wR H2'.out.2.2.2.2.1)).mono ?_
  rintro en w3 ⟨rfl, n1, hw3⟩
  have B3 : RowKit.Hid (Below w.heap.size w w3) := Lib.hid (by rw [hw3]; exact below_drewN (below_drewN B2.out _) _)
  have cc : ∀ a v, w2.cell? a = some v → w3.cell? a = some v := by rw [hw3]; exact fun a v h => h
  replace k4 := cc _ _ k4
  replace j4 := cc _ _ j4
  replace k5 := cc _ _ k5
  replace j5 := cc _ _ j5
  replace k6 := cc _ _ k6
  replace j6 := cc _ _ j6
  replace k7 := cc _ _ k7
  replace j7 := cc _ _ j7
  replace k8 := cc _ _ k8
  replace j8 := cc _ _ j8
  have W3 : RowKit.Hid (IsFs .f32 w3 B.wa B.wl B.wc c.zs ∧ IsFs .f32 w3 B'.wa B'.wl B'.wc c.zs) := Lib.hid (by rw [hw3]; exact ⟨H2.out.2.2.2.1, H2'.out.2.2.2.1⟩)
  clear cc hw3 k3 j3
  go_wp2_with fail
  refine (laws_sameFloat _ _ _ _ (FV_wR H2.out.2.2.2.2.2.1) (FV_wR H2'.out.2.2.2.2.2.1)).mono ?_
  rintro en w4 ⟨rfl, n2, hw4⟩
  have B4 : RowKit.Hid (Below w.heap.size w w4) := Lib.hid (by rw [hw4]; exact below_drewN (below_drewN B3.out _) _)
  have cc : ∀ a v, w3.cell? a = some v → w4.cell? a = some v := by rw [hw4]; exact fun a v h => h
  replace k5 := cc _ _ k5
  replace j5 := cc _ _ j5
  replace k6 := cc _ _ k6
  replace j6 := cc _ _ j6
  replace k7 := cc _ _ k7
  replace j7 := cc _ _ j7
  replace k8 := cc _ _ k8
  replace j8 := cc _ _ j8
  have W4 : RowKit.Hid (IsFs .f32 w4 B.wa B.wl B.wc c.zs ∧ IsFs .f32 w4 B'.wa B'.wl B'.wc c.zs) := Lib.hid (by rw [hw4]; exact W3.out)
  clear cc hw4 k4 j4
  go_wp2_with fail
  refine (eqFloat32S' _ _ _ _ _ _ c.zs _ W4.out.1 W4.out.2 HS.out.2.2).mono ?_
  rintro en w5 ⟨rfl, n3, hw5⟩
  have B5 : RowKit.Hid (Below w.heap.size w w5) := Lib.hid (by rw [hw5]; exact below_drewN B4.out _)
  have cc : ∀ a v, w4.cell? a = some v → w5.cell? a = some v := by rw [hw5]; exact fun a v h => h
  replace k6 := cc _ _ k6
  replace j6 := cc _ _ j6
  replace k7 := cc _ _ k7
  replace j7 := cc _ _ j7
  replace k8 := cc _ _ k8
  replace j8 := cc _ _ j8
  clear cc hw5 k5 j5
  go_wp2_with fail
  refine (laws_eqVector _ _ _ _ _ _ _ _ _ _ H2.out.2.2.2.2.2.2.1 H2.out.2.2.2.2.2.2.2.1 H2.out.2.2.2.2.2.2.2.2 H2'.out.2.2.2.2.2.2.1 H2'.out.2.2.2.2.2.2.2.1 H2'.out.2.2.2.2.2.2.2.2).mono ?_
  rintro en w6 ⟨rfl, hB6⟩
  have B6 := Lib.hid (B5.out.trans (hB6.mono B5.out.size))
  clear hB6
  go_wp2
  go_ret
  exact ⟨rfl, B6.out⟩
end Go.Proofs.Ytkdoibglgkcbkaa

/-
Texts in one: what HingesOf stands on, part 17. Conditions: those of each.
-/
import Derived.Test.YtockhhfehjoldabKHingesOf16

/-
The greatest length of a list of vectors: what the program and its model return. Conditions: none.
-/
namespace Go.Proofs.Ytockhhfehjoldab
open Go Fk Go.RowKit
set_option linter.unusedVariables false
set_option maxRecDepth 8000

def longC (c : C3) : Option Nat := rootC (fop .add .f32 (fop .add .f32 (fop .mul .f32 c.1 c.1) (fop .mul .f32 c.2.1 c.2.1)) (fop .mul .f32 c.2.2 c.2.2))
theorem Pos_longC (c : C3) : Pos .f32 (longC c) := Pos_root (Pos_add (Pos_add (Pos_square _) (Pos_square _)) (Pos_square _)) Num_fop
def lonF (m : Option Nat) (cs : List C3) : Option Nat := cs.foldl (fun m v => mxC .f32 m (longC v)) m
abbrev lonC (cs : List C3) : Option Nat := lonF (some 0) cs
theorem Pos_zero : Pos .f32 (some 0) := by intro r h; cases h; decide
theorem Pos_lonF (cs : List C3) : ∀ m, Pos .f32 m → Pos .f32 (lonF m cs) := by
  induction cs with
  | nil => exact fun m h => h
  | cons c cs ih => exact fun m h => ih _ (Pos_mx h (Pos_longC c))
theorem lonC_snoc (cs : List C3) (k : Nat) (hk : k < cs.length) : lonC (cs.take (k + 1)) = mxC .f32 (lonC (cs.take k)) (longC (cs.getD k c0)) := by
  rw [List.take_succ_eq_append_getElem hk]
  unfold lonC lonF
  rw [List.foldl_append]
  simp [List.getD, hk]
theorem lonC_stop (cs : List C3) (k : Nat) (h : lonC (cs.take k) = none) : lonC cs = none := by
  have e : cs = cs.take k ++ cs.drop k := (List.take_append_drop k cs).symm
  rw [e]
  unfold lonC lonF at h ⊢
  rw [List.foldl_append, h]
  exact foldl_none _ _
def lonB (n : Nat) (cs : List C3) : Option Nat := if n ≤ 256 then lonC cs else some 0
theorem FV_00 : FV .f32 0 (some 0) := ⟨by decide, by decide⟩
theorem lon_step {x o : Nat} {m v : Option Nat} (ho : FV .f32 o m) (hx : FV .f32 x v) (hm : m = some o) :
    ((FloatKind.f32.format.order x o == some .gt) = true ∧ FV .f32 x (mxC .f32 m v) ∧ mxC .f32 m v = some x ∧ (FloatKind.f32.format.order x x != some .eq) = false) ∨
    ((FloatKind.f32.format.order x o == some .gt) = false ∧ (FloatKind.f32.format.order x x != some .eq) = true ∧ FV .f32 x none ∧ mxC .f32 m v = none) ∨
    ((FloatKind.f32.format.order x o == some .gt) = false ∧ (FloatKind.f32.format.order x x != some .eq) = false ∧ FV .f32 o (mxC .f32 m v) ∧ mxC .f32 m v = some o ∧ (FloatKind.f32.format.order o o != some .eq) = false) := by
  subst hm
  have oo : (FloatKind.f32.format.order o o != some .eq) = false := by rw [order_self ho.notnan]; rfl
  rcases ford_both ho hx with ⟨e1, e2, h⟩ | ⟨c, e1, e2, _, rfl⟩
  · rcases h with h | rfl
    · cases h
    · have h1 : FloatKind.f32.format.order x o = none := order_nan (.inl hx.nan)
      have h2 : FloatKind.f32.format.order x x = none := order_nan (.inl hx.nan)
      refine .inr (.inl ⟨by rw [h1]; rfl, by rw [h2]; rfl, hx, rfl⟩)
  · have xx : (FloatKind.f32.format.order x x != some .eq) = false := by rw [order_self hx.notnan]; rfl
    have h1 : FloatKind.f32.format.order x o = some c.swap := e2
    cases c with
    | lt => exact .inl ⟨by rw [h1]; rfl, by unfold mxC; rw [e1]; exact hx, by unfold mxC; rw [e1], xx⟩
    | eq => exact .inr (.inr ⟨by rw [h1]; rfl, xx, by unfold mxC; rw [e1]; exact ho, by unfold mxC; rw [e1], oo⟩)
    | gt => exact .inr (.inr ⟨by rw [h1]; rfl, xx, by unfold mxC; rw [e1]; exact ho, by unfold mxC; rw [e1], oo⟩)

end Go.Proofs.Ytockhhfehjoldab


/-
Which springs and which bodies are valid: what the program and its model return. Conditions: none.
-/
namespace Go.Proofs.Ytockhhfehjoldab
open Go Fk Go.RowKit
set_option linter.unusedVariables false
set_option maxRecDepth 8000

/-- At least 0. -/
def geB (c : Option Nat) : Bool := ford .f32 c (some 0) == some .gt || ford .f32 c (some 0) == some .eq
def springB (n : Nat) (s : SC) : Bool := inB n s.1 && inB n s.2.1 && decide (s.1 ≠ s.2.1) && geB s.2.2.1
def bodyB (c : Bc) : Bool := validB c.cs c.ts && decide (c.ss.length ≤ 200) && decide (c.zs.length = c.cs.length) && c.ss.all (springB c.cs.length)
theorem geB_order {p : Nat} {c : Option Nat} (h : FV .f32 p c) : (FloatKind.f32.format.order p 0 == some .gt || FloatKind.f32.format.order p 0 == some .eq) = geB c := by
  rw [ford_of h FV_00]; rfl
theorem impl_isBetween (a b : Int) (x y n : Nat) (c d : Option Nat) (w : World) (hx : FV .f32 x c) :
    Calls Try.prog 88 #[sv a b x y, .int .i64 n] w fun e w' => e = .returned (.bool (springB n (a, b, c, d))) ∧ Below w.heap.size w w' := by
  have us := Try.underlying94
  have u := Try.underlying32
  have ui := Try.underlying2
  have hg := geB_order hx
  show Calls _ _ _ w fun e w' => e = .returned (.bool (inB n a && inB n b && decide (a ≠ b) && geB c)) ∧ Below w.heap.size w w'
  have J0 := Lib.hid (fun w => impl_isIndex a n w)
  have J1 := Lib.hid (fun w => impl_isIndex b n w)
  generalize geB c = g at *
  generalize inB n a = i0 at *
  generalize inB n b = i1 at *
  have B0 := Lib.hid ((Below.refl w.heap.size w).alloc (Nat.le_refl _) (.cells #[.int .i64 a, .int .i64 b, .float .f32 x, .float .f32 y] 94))
  clear hx
  cases i0
  · go_enter Try.func88, Try.ntmps88
    go_wp2_with fail
    refine (J0.out _).mono ?_
    rintro e w1 ⟨rfl, hw1⟩
    rw [hw1]; clear hw1 w1
    go_wp2
    go_ret
    exact ⟨rfl, B0.out⟩
  · cases i1
    · go_enter Try.func88, Try.ntmps88
      go_wp2_with fail
      refine (J0.out _).mono ?_
      rintro e w1 ⟨rfl, hw1⟩
      rw [hw1]; clear hw1 w1
      go_wp2_with fail
      refine (J1.out _).mono ?_
      rintro e w1 ⟨rfl, hw1⟩
      rw [hw1]; clear hw1 w1
      go_wp2
      go_ret
      exact ⟨rfl, B0.out⟩
    · by_cases hab : a = b
      · have hd : decide (a ≠ b) = false := decide_eq_false (fun h => h hab)
        rw [hd]
        clear hd
        subst hab
        go_enter Try.func88, Try.ntmps88
        go_wp2_with fail
        refine (J0.out _).mono ?_
        rintro e w1 ⟨rfl, hw1⟩
        rw [hw1]; clear hw1 w1
        go_wp2_with fail
        refine (J1.out _).mono ?_
        rintro e w1 ⟨rfl, hw1⟩
        rw [hw1]; clear hw1 w1
        go_wp2
        go_ret
        exact ⟨rfl, B0.out⟩
      · have hd : decide (a ≠ b) = true := decide_eq_true hab
        have hq : (a == b) = false := beq_eq_false_iff_ne.2 hab
        rw [hd]
        clear hd
        cases g
        all_goals
          go_enter Try.func88, Try.ntmps88
          go_wp2_with fail
          refine (J0.out _).mono ?_
          rintro e w1 ⟨rfl, hw1⟩
          rw [hw1]; clear hw1 w1
          go_wp2_with fail
          refine (J1.out _).mono ?_
          rintro e w1 ⟨rfl, hw1⟩
          rw [hw1]; clear hw1 w1
          go_wp2
          go_ret
          exact ⟨ret_bool (by simp [hg, hab]), B0.out⟩
set_option maxHeartbeats 8000000 in
theorem l03Spring (b o : Nat) (u v : Int) (p n : Nat) (c d : Option Nat) (w : World) (c0 : w.cell? ⟨b, o, none⟩ = some (.int .i64 u)) (c1 : w.cell? ⟨b, o + 1, none⟩ = some (.int .i64 v)) (c2 : w.cell? ⟨b, o + 2, none⟩ = some (.float .f32 p)) (hp : FV .f32 p c) (hn : (n : Int) ≤ 9223372036854775807) :
    Calls Try.prog 83 #[.pointer (some ⟨b, o, none⟩), .int .i64 n] w fun e w' => e = .returned (.bool (springB n (u, v, c, d))) ∧ ∃ m, w' = w.drewN m := by
  have us := Try.underlying94
  have uf := Try.underlying32
  have ui := Try.underlying2
  have hg := geB_order hp
  have e1 : IntKind.i64.wrap ((n : Int) - 1) = (n : Int) - 1 := IntWalk.i64_in _ (by omega)
  show Calls _ _ _ w fun e w' => e = .returned (.bool (inB n u && inB n v && decide (u ≠ v) && geB c)) ∧ ∃ m, w' = w.drewN m
  have J0 := Lib.hid (fun w => (l00In u n w).mono (R' := fun e w' => e = .returned (.bool (inB n u)) ∧ ∃ m, w' = w.drewN m) (fun _ _ h => ⟨h.1, 0, h.2⟩))
  have J1 := Lib.hid (fun w => (l00In v n w).mono (R' := fun e w' => e = .returned (.bool (inB n v)) ∧ ∃ m, w' = w.drewN m) (fun _ _ h => ⟨h.1, 0, h.2⟩))
  generalize geB c = g at *
  generalize inB n u = i0 at *
  generalize inB n v = i1 at *
  clear hp hn
  by_cases huv : u = v
  · have hd : decide (u ≠ v) = false := decide_eq_false (fun h => h huv)
    rw [hd]
    clear hd
    subst huv
    cases i0 <;> cases i1
    all_goals
      go_enter Try.func83, Try.ntmps83
      go_wp2_with fail
      go_quiet ((go_at_call 40; first | with_reducible exact Calls.quiet_of (J0.out _) | with_reducible exact Calls.quiet_of (J1.out _)))
      go_wp2
      go_ret
      exact ⟨ret_bool (by simp), _, rfl⟩
  · have hd : decide (u ≠ v) = true := decide_eq_true huv
    have hq : (u == v) = false := beq_eq_false_iff_ne.2 huv
    rw [hd]
    clear hd
    cases i0 <;> cases i1 <;> cases g
    all_goals
      go_enter Try.func83, Try.ntmps83
      go_wp2_with fail
      go_quiet ((go_at_call 40; first | with_reducible exact Calls.quiet_of (J0.out _) | with_reducible exact Calls.quiet_of (J1.out _)))
      go_wp2
      go_ret
      exact ⟨ret_bool (by simp [hg, huv]), _, rfl⟩
end Go.Proofs.Ytockhhfehjoldab


/-
Which bodies are valid: what the program and its model return. Conditions: none.
-/
namespace Go.Proofs.Ytockhhfehjoldab
open Go Fk Go.RowKit
set_option linter.unusedVariables false
set_option maxRecDepth 8000

theorem ss_all {n : Nat} {ss : List SC} (h : ∀ j, j < ss.length → springB n (ss.getD j s0) = true) : ss.all (springB n) = true := by
  rw [List.all_eq_true]
  intro x hx
  obtain ⟨j, hj, rfl⟩ := List.getElem_of_mem hx
  have := h j hj
  simpa [List.getD, hj] using this
theorem ss_not {n : Nat} {ss : List SC} {k : Nat} (hk : k < ss.length) (h : springB n (ss.getD k s0) = false) : ss.all (springB n) = false := by
  rw [Bool.eq_false_iff]
  intro hh
  have := List.all_eq_true.1 hh (ss[k]) (List.getElem_mem hk)
  have h' : springB n ss[k] = false := by simpa [List.getD, hk] using h
  rw [this] at h'; cases h'
/-- What there is to know of the lengths of a body's lists. -/
theorem IsB.lens {w : World} {B : Bd} {c : Bc} (h : IsB w B c) : c.cs.length = B.pl ∧ c.ts.length = B.tl ∧ c.ss.length = B.sl ∧ c.zs.length = B.wl := ⟨h.1.1, h.2.1.1, h.2.2.1.1, h.2.2.2.1.1⟩
abbrev BoxB (B : Bd) (t : TypeId) : Obj := .cells #[.slice B.pa B.pl B.pc, .slice B.ta B.tl B.tc, .slice B.sa B.sl B.sc, .float .f32 B.film, .float .f32 B.bend, .slice B.wa B.wl B.wc, .float .f32 B.x, .float .f32 B.y, .float .f32 B.z] t
set_option maxHeartbeats 2000000 in
theorem impl_ValidBody (B : Bd) (c : Bc) (w : World) (h : IsB w B c) :
    Calls Try.prog 50 #[B.v] w fun e w' => e = .returned (.bool (bodyB c)) ∧ Below w.heap.size w w' := by
  have ui := Try.underlying48
  have um := Try.underlying44
  have us := Try.underlying94
  have hA0 : At (w.alloc (BoxB B 48)) w.heap.size B.l := At.new
  have hB0 := (Below.refl w.heap.size w).alloc (Nat.le_refl _) (BoxB B 48)
  obtain ⟨lp, lt, ls, lw⟩ := h.lens
  have H0 := Lib.hid (h.below hB0)
  have A0 := Lib.hid hA0
  have B0 := Lib.hid hB0
  have hJ := impl_ValidMesh _ _ _ _ _ _ c.cs c.ts _ H0.out.1 H0.out.2.1
  have LS := Lib.hid ls
  unfold bodyB
  rw [ls, lw, lp]
  clear h hA0 hB0 lp lt lw ls
  cases hv : validB c.cs c.ts
  · rw [hv] at hJ
    have HJ := Lib.hid hJ
    clear hJ hv
    go_enter Try.func50, Try.ntmps50
    go_wp2_with fail
    refine HJ.out.mono ?_
    rintro e w1 ⟨rfl, hB1⟩
    have B1 := Lib.hid (B0.out.trans (hB1.mono B0.out.size))
    clear hB1
    go_wp2
    go_ret
    exact ⟨rfl, B1.out⟩
  · rw [hv] at hJ
    have HJ := Lib.hid hJ
    clear hJ hv
    by_cases h1 : B.sl ≤ 200
    · have g1 : ¬ (200 : Int) < B.sl := by omega
      rw [decide_eq_true h1]
      by_cases h2 : B.wl = B.pl
      · have g2 : ((B.wl : Int) == (B.pl : Int)) = true := by simp [h2]
        have g2' : ((B.wl : Int) != (B.pl : Int)) = false := by simp [h2]
        rw [decide_eq_true h2]
        have H2 := Lib.hid h2
        clear h2
        go_enter Try.func50, Try.ntmps50
        go_wp2_with fail
        refine HJ.out.mono ?_
        rintro e w1 ⟨rfl, hB1⟩
        have A1 := Lib.hid (A0.out.below hB1)
        have B1 := Lib.hid (B0.out.trans (hB1.mono B0.out.size))
        have H1 := Lib.hid (H0.out.below hB1)
        have k1 := A1.out 2 _ rfl
        have k4 := A1.out 5 _ rfl
        clear hB1
        go_wp2
        have hm : B.sl ≤ 9223372036854775807 := by omega
        go_loopw [30] (fun i w' => ∃ k : Nat, k ≤ B.sl ∧ i = .int .i64 k ∧ Aside (∀ j, j < k → springB B.pl (c.ss.getD j s0) = true) ∧ Aside (Below w1.heap.size w1 w')) (fun i _ => B.sl - (intOf i).toNat)
        case atStart => exact ⟨0, Nat.zero_le _, rfl, (fun j hj => absurd hj (by omega)), Below.refl _ _⟩
        case round =>
          obtain ⟨k, hk, rfl, hall, hA⟩ := hrel
          have HB := Lib.hid hA.out
          clear hA
          by_cases hlt : k < B.sl
          · obtain ⟨b, o, hsa, hcell⟩ := (H1.out.below HB.out).2.2.1.some (by omega)
            obtain ⟨p, q, c0, c1, c2, c3, fp, fq⟩ := hcell k hlt
            have hJ := fun w => impl_isBetween (c.ss.getD k s0).1 (c.ss.getD k s0).2.1 p q B.pl (c.ss.getD k s0).2.2.1 (c.ss.getD k s0).2.2.2 w fp
            have hsp : springB B.pl ((c.ss.getD k s0).1, (c.ss.getD k s0).2.1, (c.ss.getD k s0).2.2.1, (c.ss.getD k s0).2.2.2) = springB B.pl (c.ss.getD k s0) := rfl
            rw [hsp] at hJ
            have hk0 : (0 : Int) ≤ (k : Int) := by omega
            have hk1 : (k : Int) < (B.sl : Int) := by omega
            obtain ⟨ua, hua⟩ : ∃ ua, ua = (c.ss.getD k s0).1 := ⟨_, rfl⟩
            obtain ⟨ub, hub⟩ : ∃ ub, ub = (c.ss.getD k s0).2.1 := ⟨_, rfl⟩
            rw [← hua] at c0 hJ
            rw [← hub] at c1 hJ
            rw [hsa]
            clear hcell hsp hua hub hsa fp fq
            cases hb : springB B.pl (c.ss.getD k s0)
            · have hres : Aside ((true && true && true && c.ss.all (springB B.pl)) = false) := by show (true && true && true && c.ss.all (springB B.pl)) = false; rw [ss_not (by rw [LS.out]; exact hlt) hb]; rfl
              rw [hb] at hJ
              have HJ2 := Lib.hid hJ
              clear hJ hall hb
              go_wp2_with fail
              refine (HJ2.out _).mono ?_
              rintro e w2 ⟨rfl, hB2⟩
              have B2 := Lib.hid (B1.out.trans (((below_new HB.out (Nat.le_refl _)).trans (hB2.mono (below_new HB.out (Nat.le_refl _)).size)).mono B1.out.size))
              clear hB2
              go_wp2
              go_ret
              exact ⟨ret_bool hres.out.symm, B2.out⟩
            · have hall' : Aside (∀ j, j < k + 1 → springB B.pl (c.ss.getD j s0) = true) := by
                intro j hj
                by_cases hjk : j = k
                · subst hjk; exact hb
                · exact hall.out j (by omega)
              rw [hb] at hJ
              have HJ2 := Lib.hid hJ
              clear hJ hall hb
              go_wp2_with fail
              refine (HJ2.out _).mono ?_
              rintro e w2 ⟨rfl, hB2⟩
              have B2 := Lib.hid ((below_new HB.out (Nat.le_refl _)).trans (hB2.mono (below_new HB.out (Nat.le_refl _)).size))
              clear hB2
              go_wp2
              go_roundw
              case rel => exact ⟨k + 1, by omega, by go_num, hall', B2.out⟩
              case measure => simp [intOf]; omega
          · have hkl : k = B.sl := by omega
            have hres : Aside ((true && true && true && c.ss.all (springB B.pl)) = true) := by show (true && true && true && c.ss.all (springB B.pl)) = true; rw [ss_all (by rw [LS.out, ← hkl]; exact hall.out)]; rfl
            have g3 : ¬ (k : Int) < (B.sl : Int) := by omega
            clear hall hkl
            go_wp2
            go_ret
            exact ⟨ret_bool hres.out.symm, B1.out.trans (HB.out.mono B1.out.size)⟩
      · have g2 : ((B.wl : Int) == (B.pl : Int)) = false := beq_eq_false_iff_ne.2 (by omega)
        have g2' : ((B.wl : Int) != (B.pl : Int)) = true := by simp; omega
        rw [decide_eq_false h2]
        clear h2
        go_enter Try.func50, Try.ntmps50
        go_wp2_with fail
        refine HJ.out.mono ?_
        rintro e w1 ⟨rfl, hB1⟩
        have A1 := Lib.hid (A0.out.below hB1)
        have B1 := Lib.hid (B0.out.trans (hB1.mono B0.out.size))
        have k1 := A1.out 2 _ rfl
        have k4 := A1.out 5 _ rfl
        clear hB1
        go_wp2
        go_ret
        exact ⟨rfl, B1.out⟩
    · have g1 : (200 : Int) < B.sl := by omega
      rw [decide_eq_false h1]
      go_enter Try.func50, Try.ntmps50
      go_wp2_with fail
      refine HJ.out.mono ?_
      rintro e w1 ⟨rfl, hB1⟩
      have A1 := Lib.hid (A0.out.below hB1)
      have B1 := Lib.hid (B0.out.trans (hB1.mono B0.out.size))
      have k1 := A1.out 2 _ rfl
      have k4 := A1.out 5 _ rfl
      clear hB1
      go_wp2
      go_ret
      exact ⟨rfl, B1.out⟩
end Go.Proofs.Ytockhhfehjoldab


/-
Marks in bodies that a function made: what is written is there, and nothing else turns. Conditions: none beyond their sizes.
-/
namespace Go.Proofs.Ytockhhfehjoldab
open Go Fk Go.RowKit
set_option linter.unusedVariables false
set_option maxRecDepth 8000

theorem Lst.agree {S : Nat → Prop} {W w : World} {lo hi n : Nat} {a : Option Addr} (h : Lst lo hi W a n) (hS : ∀ b, lo ≤ b → b < hi → S b) (hA : Agree S W w) : Lst lo hi w a n :=
  h.imp id fun ⟨b, e, ho⟩ => ⟨b, e, ho.agree hS hA⟩
theorem GM.agree {S : Nat → Prop} {W w : World} {lo hi pl tl F : Nat} {pa ta : Option Addr} (h : GM lo hi W pa ta pl tl F) (hS : ∀ b, lo ≤ b → b < hi → S b) (hA : Agree S W w) : GM lo hi w pa ta pl tl F :=
  ⟨h.1.agree hS hA, h.2.1.imp id fun ⟨R, e, h1, h2, h3, h4, h5, h6⟩ => ⟨R, e, h1, h2, Nat.lt_of_lt_of_le h3 hA.size, h4, h5.same (fun i v hv => hA.cell _ _ _ (hS R h1 h2) hv), h6.agree hS hA⟩, h.2.2⟩
def SprM (w : World) (a : Option Addr) (n q : Nat) : Prop := (a = none ∧ n = 0) ∨ ∃ P, a = some ⟨P, 0, none⟩ ∧ ∀ j, j < n * 4 → w.cell? ⟨P, 0 + j, none⟩ = some (spV ((q + j : Nat) : Int) j)
def FlM (w : World) (a : Option Addr) (n q : Nat) : Prop := (a = none ∧ n = 0) ∨ ∃ P, a = some ⟨P, 0, none⟩ ∧ ∀ j, j < n → w.cell? ⟨P, 0 + j, none⟩ = some (.float .f32 (floatOfInt .f32 ((q + j : Nat) : Int)))
theorem spr_any (lo hi : Nat) (a : Option Addr) (n cap : Nat) (k0 : Nat) (w : World) (h : Lst lo hi w a (n * 4)) (hn : n ≤ 1000000) (hk : k0 ≤ 1000000) :
    Calls Try.prog 55 #[.slice a n cap, .int .i64 k0] w fun e w' => e = .returned (.int .i64 ((k0 + n * 4 : Nat) : Int)) ∧ SprM w' a n k0 ∧ (∀ b i, (n = 0 ∨ a ≠ some ⟨b, 0, none⟩) → w'.cell? ⟨b, i, none⟩ = w.cell? ⟨b, i, none⟩) ∧ Mark lo hi w w' := by
  rcases h with ⟨rfl, h0⟩ | ⟨b, rfl, hown⟩
  · obtain rfl : n = 0 := by omega
    go_enter Try.func55, Try.ntmps55
    go_wp2
    refine wp_loop_rounds 1 ?_
    rw [rounds_succ]
    go_wp2
    go_ret
    refine ⟨by simp, .inl ⟨rfl, rfl⟩, ?_, Mark.refl _ _ _⟩
    first | exact fun _ _ _ => rfl | simp
  · refine (laws_markSpringS lo hi b 0 n cap k0 w hown (by omega)).mono ?_
    rintro e w' ⟨he, hd, ho, hM⟩
    refine ⟨he, .inr ⟨b, rfl, hd⟩, fun c i hc => ho c i ?_, hM⟩
    rcases hc with rfl | hc
    · exact .inr (.inr (by omega))
    · exact .inl (fun h => hc (by rw [h]))
theorem fl_any (lo hi : Nat) (a : Option Addr) (n cap : Nat) (k0 : Nat) (w : World) (h : Lst lo hi w a n) (hn : n ≤ 1000000) (hk : k0 ≤ 1000000) :
    Calls Try.prog 56 #[.slice a n cap, .int .i64 k0] w fun e w' => e = .returned (.int .i64 ((k0 + n : Nat) : Int)) ∧ FlM w' a n k0 ∧ (∀ b i, (n = 0 ∨ a ≠ some ⟨b, 0, none⟩) → w'.cell? ⟨b, i, none⟩ = w.cell? ⟨b, i, none⟩) ∧ Mark lo hi w w' := by
  rcases h with ⟨rfl, h0⟩ | ⟨b, rfl, hown⟩
  · obtain rfl : n = 0 := by omega
    go_enter Try.func56, Try.ntmps56
    go_wp2
    refine wp_loop_rounds 1 ?_
    rw [rounds_succ]
    go_wp2
    go_ret
    refine ⟨by simp, .inl ⟨rfl, rfl⟩, ?_, Mark.refl _ _ _⟩
    first | exact fun _ _ _ => rfl | simp
  · refine (laws_markFloat32S lo hi b 0 n cap k0 w hown (by omega)).mono ?_
    rintro e w' ⟨he, hd, ho, hM⟩
    refine ⟨he, .inr ⟨b, rfl, hd⟩, fun c i hc => ho c i ?_, hM⟩
    rcases hc with rfl | hc
    · exact .inr (.inr (by omega))
    · exact .inl (fun h => hc (by rw [h]))
/-- A body that a function made: its lists lie in blocks of their own. -/
def GB (lo hi : Nat) (w : World) (B : Bd) (F : Nat) : Prop :=
  GM lo hi w B.pa B.ta B.pl B.tl F ∧ Lst lo hi w B.sa (B.sl * 4) ∧ Lst lo hi w B.wa B.wl ∧
  (∀ X, B.sa = some ⟨X, 0, none⟩ → X ≠ F ∧ B.pa ≠ some ⟨X, 0, none⟩ ∧ B.ta ≠ some ⟨X, 0, none⟩ ∧ B.wa ≠ some ⟨X, 0, none⟩) ∧
  (∀ X, B.wa = some ⟨X, 0, none⟩ → X ≠ F ∧ B.pa ≠ some ⟨X, 0, none⟩ ∧ B.ta ≠ some ⟨X, 0, none⟩)
theorem GB.agree {S : Nat → Prop} {W w : World} {lo hi F : Nat} {B : Bd} (h : GB lo hi W B F) (hS : ∀ b, lo ≤ b → b < hi → S b) (hA : Agree S W w) : GB lo hi w B F :=
  ⟨h.1.agree hS hA, h.2.1.agree hS hA, h.2.2.1.agree hS hA, h.2.2.2⟩
theorem GB.below {W w : World} {lo hi F : Nat} {B : Bd} (h : GB lo hi W B F) (hB : Below W.heap.size W w) : GB lo hi w B F :=
  h.agree (S := fun _ => True) (fun _ _ _ => trivial) (Agree.of_below hB)
theorem lst_lv {lo hi n : Nat} {w : World} {a : Option Addr} (h : Lst lo hi w a n) : LV lo hi a := fun x hx => by
  rcases h with ⟨e, _⟩ | ⟨b, e, ho⟩
  · rw [e] at hx; cases hx
  · rw [e] at hx; cases hx; exact ⟨b, rfl, ho.1, ho.2.1⟩
theorem GB.lb {lo hi F : Nat} {w : World} {B : Bd} (h : GB lo hi w B F) : LB lo hi w B := ⟨h.1.lv, h.1.lt, lst_lv h.2.1, lst_lv h.2.2.1⟩
theorem lst_lt {lo hi n : Nat} {w : World} {a : Option Addr} (h : Lst lo hi w a n) {X : Nat} (e : a = some ⟨X, 0, none⟩) : X < w.heap.size := by
  rcases h with ⟨e', _⟩ | ⟨b, e', ho⟩
  · rw [e'] at e; cases e
  · rw [e'] at e; cases e; exact ho.2.2.1
/-- The marks of a body that were written are there. -/
def MrkB (w : World) (B : Bd) (F : Nat) : Prop := MrkM w B.pa B.ta B.pl B.tl F ∧ SprM w B.sa B.sl (1 + B.pl * 3 + B.tl * 3) ∧ FlM w B.wa B.wl (1 + B.pl * 3 + B.tl * 3 + B.sl * 4)
theorem MrkM.same {w w' : World} {pa ta : Option Addr} {pl tl F : Nat} (h : MrkM w pa ta pl tl F) (hk : ∀ b i v, w.cell? ⟨b, i, none⟩ = some v → (pa = some ⟨b, 0, none⟩ ∨ ta = some ⟨b, 0, none⟩ ∨ b = F) → w'.cell? ⟨b, i, none⟩ = some v) : MrkM w' pa ta pl tl F := by
  obtain ⟨h1, h2⟩ := h
  refine ⟨h1.imp id fun ⟨P, e, hc⟩ => ⟨P, e, fun j hj => hk _ _ _ (hc j hj) (.inl e)⟩, h2.imp id fun ⟨R, e, hf, hc⟩ => ⟨R, e, hf.same (fun i v hv => hk _ _ _ hv (.inr (.inl e))), fun j hj => hk _ _ _ (hc j hj) (.inr (.inr rfl))⟩⟩
theorem SprM.same {w w' : World} {a : Option Addr} {n q : Nat} (h : SprM w a n q) (hk : ∀ b i v, w.cell? ⟨b, i, none⟩ = some v → a = some ⟨b, 0, none⟩ → w'.cell? ⟨b, i, none⟩ = some v) : SprM w' a n q :=
  h.imp id fun ⟨P, e, hc⟩ => ⟨P, e, fun j hj => hk _ _ _ (hc j hj) e⟩
theorem FlM.same {w w' : World} {a : Option Addr} {n q : Nat} (h : FlM w a n q) (hk : ∀ b i v, w.cell? ⟨b, i, none⟩ = some v → a = some ⟨b, 0, none⟩ → w'.cell? ⟨b, i, none⟩ = some v) : FlM w' a n q :=
  h.imp id fun ⟨P, e, hc⟩ => ⟨P, e, fun j hj => hk _ _ _ (hc j hj) e⟩
theorem MrkB.same {w w' : World} {B : Bd} {F : Nat} (h : MrkB w B F) (hk : ∀ b i v, w.cell? ⟨b, i, none⟩ = some v → (B.pa = some ⟨b, 0, none⟩ ∨ B.ta = some ⟨b, 0, none⟩ ∨ b = F ∨ B.sa = some ⟨b, 0, none⟩ ∨ B.wa = some ⟨b, 0, none⟩) → w'.cell? ⟨b, i, none⟩ = some v) : MrkB w' B F :=
  ⟨h.1.same fun b i v hv hb => hk b i v hv (by rcases hb with e | e | e; exact .inl e; exact .inr (.inl e); exact .inr (.inr (.inl e))), h.2.1.same fun b i v hv e => hk b i v hv (.inr (.inr (.inr (.inl e)))), h.2.2.same fun b i v hv e => hk b i v hv (.inr (.inr (.inr (.inr e))))⟩
theorem MrkB.below {w w' : World} {B : Bd} {F : Nat} (h : MrkB w B F) (hB : Below w.heap.size w w') : MrkB w' B F := h.same fun _ _ _ hv _ => cell_below hB hv
set_option maxHeartbeats 1000000 in
theorem mark_gb (lo hi F : Nat) (B : Bd) (w : World) (h : GB lo hi w B F) (hlo : lo ≤ w.heap.size) (h1 : B.pl ≤ 1000) (h2 : B.tl ≤ 1000) (h3 : B.sl ≤ 1000) (h4 : B.wl ≤ 1000) :
    Calls Try.prog 21 #[B.v, .int .i64 1] w fun e w' => e = .returned (.int .i64 ((1 + B.pl * 3 + B.tl * 3 + B.sl * 4 + B.wl : Nat) : Int)) ∧ MrkB w' B F ∧ Mark lo hi w w' ∧ ∀ b i v, w.cell? ⟨b, i, none⟩ = some v → (B.pl = 0 ∨ B.pa ≠ some ⟨b, 0, none⟩) → (B.tl = 0 ∨ b ≠ F) → (B.sl = 0 ∨ B.sa ≠ some ⟨b, 0, none⟩) → (B.wl = 0 ∨ B.wa ≠ some ⟨b, 0, none⟩) → w'.cell? ⟨b, i, none⟩ = some v := by
  have ui := Try.underlying48
  have uim := Try.underlying44
  have A0 : Hid (At (w.alloc (BoxB B 48)) w.heap.size B.l) := Lib.hid At.new
  have B0 : Hid (Below w.heap.size w (w.alloc (BoxB B 48))) := Lib.hid ((Below.refl _ _).alloc (Nat.le_refl _) _)
  have M0 : Hid (Mark lo hi w (w.alloc (BoxB B 48))) := Lib.hid (Mark.alloc hlo _)
  have G0 := Lib.hid (h.below B0.out)
  have nP : B.pa ≠ some ⟨w.heap.size, 0, none⟩ := fun e => Nat.lt_irrefl _ (lst_lt h.1.1 e)
  have nS : B.sa ≠ some ⟨w.heap.size, 0, none⟩ := fun e => Nat.lt_irrefl _ (lst_lt h.2.1 e)
  have nF : B.tl = 0 ∨ w.heap.size ≠ F := by
    rcases h.1.2.1 with ⟨_, e⟩ | ⟨R, _, _, _, _, _, _, ho⟩
    · exact .inl e
    · exact .inr (by have := ho.2.2.1; omega)
  have N0 := Lib.hid (And.intro nP (And.intro nS nF))
  have hlo' : lo ≤ (w.alloc (BoxB B 48)).heap.size := by simp; omega
  have J := Lib.hid (mark_gm' lo hi B.pa B.ta B.pl B.pc B.tl B.tc F _ G0.out.1 hlo' h1 h2)
  clear h nP nS nF
  go_enter Try.func21, Try.ntmps21
  go_wp2_with fail
  change Calls _ _ _ (w.alloc (BoxB B 48)) _
  generalize (w.alloc (BoxB B 48)) = W at *
  refine J.out.mono ?_
  rintro e w1 ⟨rfl, hMk, hM1, hK1⟩
  have k2 := hK1 _ _ _ (A0.out 2 _ rfl) (.inr N0.out.1) N0.out.2.2
  have k5 := hK1 _ _ _ (A0.out 5 _ rfl) (.inr N0.out.1) N0.out.2.2
  have X1 := Lib.hid (And.intro hMk (And.intro (M0.out.trans hM1) hK1))
  have J2 := Lib.hid (spr_any lo hi B.sa B.sl B.sc (1 + B.pl * 3 + B.tl * 3) w1 (G0.out.2.1.mark hM1) (by omega) (by omega))
  have L3 := Lib.hid (G0.out.2.2.1.mark hM1)
  clear hMk hM1 hK1
  obtain ⟨q, hq⟩ : ∃ q, q = 1 + B.pl * 3 + B.tl * 3 := ⟨_, rfl⟩
  have HQ := Lib.hid hq
  rw [← hq] at J2 ⊢
  have hq' : q ≤ 10000 := by omega
  clear hq
  go_wp2_with fail
  refine J2.out.mono ?_
  rintro e w2 ⟨rfl, hd2, ho2, hM2⟩
  have k5' := (ho2 _ 5 (.inr N0.out.2.1)).trans k5
  have X2 := Lib.hid (And.intro hd2 (And.intro ho2 hM2))
  have J3 := Lib.hid (fl_any lo hi B.wa B.wl B.wc (q + B.sl * 4) w2 (L3.out.mark hM2) (by omega) (by omega))
  clear hd2 ho2 hM2 k2 k5
  obtain ⟨r, hr⟩ : ∃ r, r = q + B.sl * 4 := ⟨_, rfl⟩
  have HR := Lib.hid hr
  rw [← hr] at J3 ⊢
  have hr' : r ≤ 20000 := by omega
  clear hr
  go_wp2_with fail
  refine J3.out.mono ?_
  rintro e w3 ⟨rfl, hd3, ho3, hM3⟩
  have X3 := Lib.hid (And.intro hd3 (And.intro ho3 hM3))
  clear hd3 ho3 hM3
  go_wp2
  go_ret
  have hk : ∀ b i v, w1.cell? ⟨b, i, none⟩ = some v → (B.sl = 0 ∨ B.sa ≠ some ⟨b, 0, none⟩) → (B.wl = 0 ∨ B.wa ≠ some ⟨b, 0, none⟩) → w3.cell? ⟨b, i, none⟩ = some v := fun b i v hv hs hw => (X3.out.2.1 b i hw).trans ((X2.out.2.1 b i hs).trans hv)
  have g4 := G0.out.2.2.2.1
  have g5 := G0.out.2.2.2.2
  refine ⟨by have hq1 := HQ.out; have hr1 := HR.out; rw [show 1 + B.pl * 3 + B.tl * 3 + B.sl * 4 + B.wl = r + B.wl by omega]; rfl, ⟨X1.out.1.same fun b i v hv hb => ?_, ?_, ?_⟩, (X1.out.2.1.trans X2.out.2.2).trans X3.out.2.2, fun b i v hv k1 k2 k3 k4 => ?_⟩
  · refine hk b i v hv (.inr fun e => ?_) (.inr fun e => ?_)
    · have := g4 _ e
      rcases hb with e' | e' | e'
      · exact this.2.1 e'
      · exact this.2.2.1 e'
      · exact this.1 e'
    · have := g5 _ e
      rcases hb with e' | e' | e'
      · exact this.2.1 e'
      · exact this.2.2 e'
      · exact this.1 e'
  · rw [← HQ.out]
    exact X2.out.1.same fun b i v hv e => (X3.out.2.1 b i (.inr (g4 _ e).2.2.2)).trans hv
  · rw [← HQ.out, ← HR.out]
    exact X3.out.1
  · exact hk b i v (X1.out.2.2 b i v (cell_below B0.out hv) k1 k2) k3 k4
end Go.Proofs.Ytockhhfehjoldab

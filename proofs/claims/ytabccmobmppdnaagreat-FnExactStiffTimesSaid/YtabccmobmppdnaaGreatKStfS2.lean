/-
Texts in one: what StfS stands on, part 2. Conditions: those of each.
-/
import Derived.Test.YtabccmobmppdnaaGreatKStfS1
import Derived.Below
-- halved
namespace Go.Proofs.YtabccmobmppdnaaGreat
open Go Fk Go.RowKit
set_option linter.unusedVariables false
def rootC (c : Option Nat) : Option Nat := (fsq (c.map wid)).map nar
@[go_sem] theorem ext_sqrt (x : Nat) (w : World) : (callFunc 191 #[.float .f64 x]).run Tryz.prog w = .ok (.value (.float .f64 (sR x w))) (w.drewN (sN x)) := by
 rw [run_callFunc_extern (e := Extern.MathSqrt.sqrt) Tryz.func191 (by kernel_rfl) (by kernel_rfl) (by kernel_rfl) (by kernel_rfl), run_sqrt]; rfl
theorem math_Sqrt (x : Nat) (w : World) :
  Calls Tryz.prog 174 #[.float .f64 x] w fun e w' => e = .returned (.float .f64 (sR x w)) ∧ ∃ n, w' = w.drewN n := by
 go_enter Tryz.func174, Tryz.ntmps174
 go_wp2
 go_ret
 exact ⟨rfl, _, rfl⟩
theorem impl_Narrow (y : Nat) (w : World) :
  Calls Tryz.prog 192 #[.float .f64 y] w fun e w' => e = .returned (.float .f32 (nR y w)) ∧ ∃ n, w' = w.drewN n := by
 have u := Tryz.underlying58
 have u' := Tryz.underlying27
 go_enter Tryz.func192, Tryz.ntmps192
 go_wp2
 go_ret
 exact ⟨rfl, _, rfl⟩
theorem spec_Narrow (y : Nat) (w : World) :
  Calls Tryz.prog 173 #[.float .f64 y] w fun e w' => e = .returned (.float .f32 (nR y w)) ∧ ∃ n, w' = w.drewN n := by
 have u := Tryz.underlying58
 have u' := Tryz.underlying27
 go_enter Tryz.func173, Tryz.ntmps173
 go_wp2
 go_ret
 exact ⟨rfl, _, rfl⟩
theorem FV_root {x : Nat} {c : Option Nat} {w w' w'' : World} (h : FV .f32 x c) : FV .f32 (nR (sR (wR x w) w') w'') (rootC c) :=
 FV_nR (FV_sR (FV_wR h)) (ovf_sR h.1)
theorem impl_RootNumber (x : Nat) (c : Option Nat) (w : World) (h : FV .f32 x c) :
  Calls Tryz.prog 175 #[.float .f32 x] w fun e w' => ∃ r, e = .returned (.float .f32 r) ∧ FV .f32 r (rootC c) ∧ ∃ n, w' = w.drewN n := by
 have u := Tryz.underlying58
 have u' := Tryz.underlying27
 go_enter Tryz.func175, Tryz.ntmps175
 go_wp2_with (first
  | (go_at_call 174; refine (math_Sqrt _ _).mono ?_; rintro e w' ⟨rfl, n, rfl⟩)
  | (go_at_call 192; refine (impl_Narrow _ _).mono ?_; rintro e w' ⟨rfl, n, rfl⟩))
 go_ret
 exact ⟨_, rfl, FV_root h, _, rfl⟩
theorem l01Sqrt (x : Nat) (c : Option Nat) (w : World) (h : FV .f32 x c) :
  Calls Tryz.prog 136 #[.float .f32 x] w fun e w' => ∃ r, e = .returned (.float .f32 r) ∧ FV .f32 r (rootC c) ∧ ∃ n, w' = w.drewN n := by
 have u := Tryz.underlying58
 have u' := Tryz.underlying27
 go_enter Tryz.func136, Tryz.ntmps136
 go_wp2_with (first
  | (go_at_call 174; refine (math_Sqrt _ _).mono ?_; rintro e w' ⟨rfl, n, rfl⟩)
  | (go_at_call 173; refine (spec_Narrow _ _).mono ?_; rintro e w' ⟨rfl, n, rfl⟩))
 go_ret
 exact ⟨_, rfl, FV_root h, _, rfl⟩
end Go.Proofs.YtabccmobmppdnaaGreat
namespace Go.Proofs.YtabccmobmppdnaaGreat
open Go Fk Go.RowKit
set_option linter.unusedVariables false
theorem impl_LongOf (x y z : Nat) (w : World) (c d e : Option Nat) (h1 : FV .f32 x c) (h2 : FV .f32 y d) (h3 : FV .f32 z e) :
  Calls Tryz.prog 249 #[vv x y z] w fun en w' => ∃ a, en = .returned (.float .f32 a) ∧ FV .f32 a (rootC (fop .add .f32 (fop .add .f32 (fop .mul .f32 c c) (fop .mul .f32 d d)) (fop .mul .f32 e e))) ∧ Below w.heap.size w w' := by
 have u := Tryz.underlying27
 have uv := Tryz.underlying42
 go_enter Tryz.func249, Tryz.ntmps249
 go_wp2_with (first
  | (go_at_call 172; refine (impl_InnerOf _ _ _ _ _ _ _ _ _ _ _ _ _ h1 h2 h3 h1 h2 h3).mono ?_; rintro en w1 ⟨a, rfl, ha, hb1⟩)
  | (go_at_call 175; refine (impl_RootNumber _ _ _ ha).mono ?_; rintro en w2 ⟨r, rfl, hr, n, rfl⟩))
 go_ret
 exact ⟨_, rfl, hr, below_drewN (((Below.refl _ _).alloc (Nat.le_refl _) _).trans (hb1.mono (by simp))) _⟩
theorem l01Long (x y z : Nat) (w : World) (c d e : Option Nat) (h1 : FV .f32 x c) (h2 : FV .f32 y d) (h3 : FV .f32 z e) :
  Calls Tryz.prog 166 #[vv x y z] w fun en w' => ∃ a, en = .returned (.float .f32 a) ∧ FV .f32 a (rootC (fop .add .f32 (fop .add .f32 (fop .mul .f32 c c) (fop .mul .f32 d d)) (fop .mul .f32 e e))) ∧ Below w.heap.size w w' := by
 have u := Tryz.underlying27
 have uv := Tryz.underlying42
 go_enter Tryz.func166, Tryz.ntmps166
 go_wp2_with (first
  | (go_at_call 171; refine (l01Inner _ _ _ _ _ _ _ _ _ _ _ _ _ h1 h2 h3 h1 h2 h3).mono ?_; rintro en w1 ⟨a, rfl, ha, hb1⟩)
  | (go_at_call 136; refine (l01Sqrt _ _ _ ha).mono ?_; rintro en w2 ⟨r, rfl, hr, n, rfl⟩))
 go_ret
 exact ⟨_, rfl, hr, below_drewN (((Below.refl _ _).alloc (Nat.le_refl _) _).trans (hb1.mono (by simp))) _⟩
end Go.Proofs.YtabccmobmppdnaaGreat
namespace Go.Proofs.YtabccmobmppdnaaGreat
namespace Fk
open Go
set_option linter.unusedVariables false
theorem write_pos (k : FloatKind) (d : Ieee.Datum) (hn : d.isNaN = false) (h : d.neg = false) : k.format.write d < k.format.signWeight := by
 have hlt := k.format.infRung_lt
 cases d with
 | nan s t => simp [Ieee.Datum.isNaN] at hn
 | infinity s =>
  obtain rfl : s = false := h
  show k.format.word false k.format.infRung < _
  unfold Ieee.Format.word; simpa using hlt
 | number s m p =>
  obtain rfl : s = false := h
  obtain ⟨r, hr, he⟩ := nearest_word k.format false m p
  show k.format.nearest false m p < _
  rw [he]
  unfold Ieee.Format.word
  rw [if_neg (by simp)]
  omega
def mxR (k : FloatKind) (x y : Nat) (w : World) : Nat :=
 match k.format.order x y with
 | none => (Question.nanMinMax k true x y).cut (w.tape w.drawn (.nanMinMax k true x y))
 | some .lt => y
 | some .gt => x
 | some .eq => if (k.decode x).neg then y else x
def mxN (k : FloatKind) (x y : Nat) : Nat := match k.format.order x y with | none => 1 | some _ => 0
@[go_sem] theorem run_max {P : Program} (w : World) (ats : Array TypeId) (ty : TypeId) (k : FloatKind) (x y : Nat) :
  (Builtin.max_ ats ty #[.float k x, .float k y]).run P w = .ok (.float k (mxR k x y w)) (w.drewN (mxN k x y)) := by
 have hq : (Question.nanMinMax k true x y).forced = false := rfl
 unfold mxR mxN
 cases ho : k.format.order x y with
 | none => simp [Builtin.max_, Builtin.max2, ho, hq]; rfl
 | some o => cases o <;> simp [Builtin.max_, Builtin.max2, ho] <;> rfl
end Fk
end Go.Proofs.YtabccmobmppdnaaGreat
namespace Go.Proofs.YtabccmobmppdnaaGreat
open Go Fk Go.RowKit
set_option linter.unusedVariables false
set_option maxRecDepth 8000
def longC (c : C3) : Option Nat := rootC (fop .add .f32 (fop .add .f32 (fop .mul .f32 c.1 c.1) (fop .mul .f32 c.2.1 c.2.1)) (fop .mul .f32 c.2.2 c.2.2))
theorem FV_00 : FV .f32 0 (some 0) := ⟨by decide, by decide⟩
end Go.Proofs.YtabccmobmppdnaaGreat
namespace Go.Proofs.YtabccmobmppdnaaGreat
open Go Fk Go.RowKit
set_option linter.unusedVariables false
set_option maxRecDepth 8000
def geB (c : Option Nat) : Bool := ford .f32 c (some 0) == some .gt || ford .f32 c (some 0) == some .eq
def springB (n : Nat) (s : SC) : Bool := inB n s.1 && inB n s.2.1 && decide (s.1 ≠ s.2.1) && geB s.2.2.1
def bodyB (c : Bc) : Bool := validB c.cs c.ts && decide (c.ss.length ≤ 200) && decide (c.zs.length = c.cs.length) && c.ss.all (springB c.cs.length)
theorem geB_order {p : Nat} {c : Option Nat} (h : FV .f32 p c) : (FloatKind.f32.format.order p 0 == some .gt || FloatKind.f32.format.order p 0 == some .eq) = geB c := by
 rw [ford_of h FV_00]; rfl
theorem impl_isBetween (a b : Int) (x y n : Nat) (c d : Option Nat) (w : World) (hx : FV .f32 x c) :
  Calls Tryz.prog 151 #[sv a b x y, .int .i64 n] w fun e w' => e = .returned (.bool (springB n (a, b, c, d))) ∧ Below w.heap.size w w' := by
 have us := Tryz.underlying166
 have u := Tryz.underlying27
 have ui := Tryz.underlying2
 have hg := geB_order hx
 show Calls _ _ _ w fun e w' => e = .returned (.bool (inB n a && inB n b && decide (a ≠ b) && geB c)) ∧ Below w.heap.size w w'
 have J0 := Lib.hid (fun w => impl_isIndex a n w)
 have J1 := Lib.hid (fun w => impl_isIndex b n w)
 generalize geB c = g at *
 generalize inB n a = i0 at *
 generalize inB n b = i1 at *
 have B0 := Lib.hid ((Below.refl w.heap.size w).alloc (Nat.le_refl _) (.cells #[.int .i64 a, .int .i64 b, .float .f32 x, .float .f32 y] 166))
 clear hx
 cases i0
 ·go_enter Tryz.func151, Tryz.ntmps151
  go_wp2_with fail
  refine (J0.out _).mono ?_
  rintro e w1 ⟨rfl, hw1⟩
  rw [hw1]; clear hw1 w1
  go_wp2
  go_ret
  exact ⟨rfl, B0.out⟩
 ·cases i1
  ·go_enter Tryz.func151, Tryz.ntmps151
   go_wp2_with fail
   refine (J0.out _).mono ?_
   rintro e w1 ⟨rfl, hw1⟩
   rw [hw1]; clear hw1 w1
   go_wp2_with fail
   refine (J1.out _).mono ?_
   rintro e w1 ⟨rfl, hw1⟩
   rw [hw1]; clear hw1 w1
   go_wp2
   go_ret
   exact ⟨rfl, B0.out⟩
  ·by_cases hab : a = b
   ·have hd : decide (a ≠ b) = false := decide_eq_false (fun h => h hab)
    rw [hd]
    clear hd
    subst hab
    go_enter Tryz.func151, Tryz.ntmps151
    go_wp2_with fail
    refine (J0.out _).mono ?_
    rintro e w1 ⟨rfl, hw1⟩
    rw [hw1]; clear hw1 w1
    go_wp2_with fail
    refine (J1.out _).mono ?_
    rintro e w1 ⟨rfl, hw1⟩
    rw [hw1]; clear hw1 w1
    go_wp2
    go_ret
    exact ⟨rfl, B0.out⟩
   ·have hd : decide (a ≠ b) = true := decide_eq_true hab
    have hq : (a == b) = false := beq_eq_false_iff_ne.2 hab
    rw [hd]
    clear hd
    cases g
    all_goals
     go_enter Tryz.func151, Tryz.ntmps151
     go_wp2_with fail
     refine (J0.out _).mono ?_
     rintro e w1 ⟨rfl, hw1⟩
     rw [hw1]; clear hw1 w1
     go_wp2_with fail
     refine (J1.out _).mono ?_
     rintro e w1 ⟨rfl, hw1⟩
     rw [hw1]; clear hw1 w1
     go_wp2
     go_ret
     exact ⟨ret_bool (by simp [hg, hab]), B0.out⟩
set_option maxHeartbeats 8000000 in
theorem l03Spring (b o : Nat) (u v : Int) (p n : Nat) (c d : Option Nat) (w : World) (c0 : w.cell? ⟨b, o, none⟩ = some (.int .i64 u)) (c1 : w.cell? ⟨b, o + 1, none⟩ = some (.int .i64 v)) (c2 : w.cell? ⟨b, o + 2, none⟩ = some (.float .f32 p)) (hp : FV .f32 p c) (hn : (n : Int) ≤ 9223372036854775807) :
  Calls Tryz.prog 149 #[.pointer (some ⟨b, o, none⟩), .int .i64 n] w fun e w' => e = .returned (.bool (springB n (u, v, c, d))) ∧ ∃ m, w' = w.drewN m := by
 have us := Tryz.underlying166
 have uf := Tryz.underlying27
 have ui := Tryz.underlying2
 have hg := geB_order hp
 have e1 : IntKind.i64.wrap ((n : Int) - 1) = (n : Int) - 1 := IntWalk.i64_in _ (by omega)
 show Calls _ _ _ w fun e w' => e = .returned (.bool (inB n u && inB n v && decide (u ≠ v) && geB c)) ∧ ∃ m, w' = w.drewN m
 have J0 := Lib.hid (fun w => (l00In u n w).mono (R' := fun e w' => e = .returned (.bool (inB n u)) ∧ ∃ m, w' = w.drewN m) (fun _ _ h => ⟨h.1, 0, h.2⟩))
 have J1 := Lib.hid (fun w => (l00In v n w).mono (R' := fun e w' => e = .returned (.bool (inB n v)) ∧ ∃ m, w' = w.drewN m) (fun _ _ h => ⟨h.1, 0, h.2⟩))
 generalize geB c = g at *
 generalize inB n u = i0 at *
 generalize inB n v = i1 at *
 clear hp hn
 by_cases huv : u = v
 ·have hd : decide (u ≠ v) = false := decide_eq_false (fun h => h huv)
  rw [hd]
  clear hd
  subst huv
  cases i0 <;> cases i1
  all_goals
   go_enter Tryz.func149, Tryz.ntmps149
   go_wp2_with fail
   go_quiet ((go_at_call 80; first | with_reducible exact Calls.quiet_of (J0.out _) | with_reducible exact Calls.quiet_of (J1.out _)))
   go_wp2
   go_ret
   exact ⟨ret_bool (by simp), _, rfl⟩
 ·have hd : decide (u ≠ v) = true := decide_eq_true huv
  have hq : (u == v) = false := beq_eq_false_iff_ne.2 huv
  rw [hd]
  clear hd
  cases i0 <;> cases i1 <;> cases g
  all_goals
   go_enter Tryz.func149, Tryz.ntmps149
   go_wp2_with fail
   go_quiet ((go_at_call 80; first | with_reducible exact Calls.quiet_of (J0.out _) | with_reducible exact Calls.quiet_of (J1.out _)))
   go_wp2
   go_ret
   exact ⟨ret_bool (by simp [hg, huv]), _, rfl⟩
end Go.Proofs.YtabccmobmppdnaaGreat
namespace Go.Proofs.YtabccmobmppdnaaGreat
open Go Fk Go.RowKit
set_option linter.unusedVariables false
set_option maxRecDepth 8000
def lessC (a b : C3) : C3 := (fop .sub .f32 a.1 b.1, fop .sub .f32 a.2.1 b.2.1, fop .sub .f32 a.2.2 b.2.2)
def crossC (a b : C3) : C3 := (fop .sub .f32 (fop .mul .f32 a.2.1 b.2.2) (fop .mul .f32 a.2.2 b.2.1), fop .sub .f32 (fop .mul .f32 a.2.2 b.1) (fop .mul .f32 a.1 b.2.2), fop .sub .f32 (fop .mul .f32 a.1 b.2.1) (fop .mul .f32 a.2.1 b.1))
def cornerC (cs : List C3) (t : List Int) (i : Nat) : C3 := cs.getD (t.getD i 0).toNat c0
def normalC (cs : List C3) (t : List Int) : C3 := crossC (lessC (cornerC cs t 1) (cornerC cs t 0)) (lessC (cornerC cs t 2) (cornerC cs t 0))
theorem tri_parts {n : Nat} {t : List Int} (h : triB n t = true) : t.length = 3 ∧ (∀ i, i < 3 → 0 ≤ t.getD i 0 ∧ (t.getD i 0).toNat < n) := by
 unfold triB at h
 simp only [Bool.and_eq_true, decide_eq_true_eq] at h
 obtain ⟨⟨h3, ⟨h0, h1⟩, h2⟩, _⟩ := h
 refine ⟨h3, fun i hi => ?_⟩
 have a0 := of_decide_eq_true h0
 have a1 := of_decide_eq_true h1
 have a2 := of_decide_eq_true h2
 have : i = 0 ∨ i = 1 ∨ i = 2 := by omega
 rcases this with rfl | rfl | rfl <;> omega
theorem corner_cell {w : World} {pa : Option Addr} {pl pc : Nat} {cs : List C3} {t : List Int} (hp : IsVs w pa pl pc cs) (ht : triB pl t = true) : ∃ b o, pa = some ⟨b, o, none⟩ ∧ ∀ i, i < 3 → ∃ p q r, w.cell? ⟨b, o + (t.getD i 0).toNat * 3, none⟩ = some (.float .f32 p) ∧ w.cell? ⟨b, o + (t.getD i 0).toNat * 3 + 1, none⟩ = some (.float .f32 q) ∧ w.cell? ⟨b, o + (t.getD i 0).toNat * 3 + 2, none⟩ = some (.float .f32 r) ∧
  FV .f32 p (cornerC cs t i).1 ∧ FV .f32 q (cornerC cs t i).2.1 ∧ FV .f32 r (cornerC cs t i).2.2 := by
 obtain ⟨h3, hi⟩ := tri_parts ht
 obtain ⟨b, o, e, hc⟩ := hp.some (by have := (hi 0 (by decide)).2; omega)
 exact ⟨b, o, e, fun i hi' => hc _ (hi i hi').2⟩
end Go.Proofs.YtabccmobmppdnaaGreat
namespace Go.Proofs.YtabccmobmppdnaaGreat
namespace Reg2
open Go Reg
set_option linter.unusedVariables false
section
variable {P : Program} {ops : Array Oper} {Q : Exit → Act → World → Prop} {md : Region.Mode}
def tidy (ops : Array Oper) (n : Nat) : Bool :=
 low ops && (ops.all fun o => o.guard.isNone) && (ops.all fun o => (o.dst.map fun d => decide (d < n)).getD true) &&
 ((List.range ops.size).all fun i => (List.range ops.size).all fun j => i == j || slotOf ops i == none || slotOf ops i != slotOf ops j)
def HasT (ops : Array Oper) (T : Nat → World → Prop) (j : Nat) (w : World) : Prop := slotOf ops j = none → j < ops.size → T j w
def Obl (P : Program) (ops : Array Oper) (a0 : Act) (C : World → Prop) (G : World → World → Prop) (R : Nat → Value → World → Prop) (T : Nat → World → Prop) (Q : Exit → Act → World → Prop) (i : Nat) (o : Oper) : Prop :=
 ∀ a w, C w → (∀ t, ((List.range ops.size).all fun j => slotOf ops j != some t || behind ops i j) = true → a.eval (.tmp t) = a0.eval (.tmp t)) →
  (∀ j, behind ops j i = true → Has ops R j a w) →
  o.wp P a w (fun a' w' => ∃ v, a' = a.put o.dst v ∧ (o.dst ≠ none → R i v w') ∧ (o.dst = none → T i w') ∧ C w' ∧ G w w') Q
def OblAll (P : Program) (ops : Array Oper) (a0 : Act) (C : World → Prop) (G : World → World → Prop) (R : Nat → Value → World → Prop) (T : Nat → World → Prop) (Q : Exit → Act → World → Prop) : Nat → List Oper → Prop
 | _, [] => True
 | i, o :: l => Obl P ops a0 C G R T Q i o ∧ OblAll P ops a0 C G R T Q (i + 1) l
theorem OblAll.get {a0 : Act} {C : World → Prop} {G : World → World → Prop} {R : Nat → Value → World → Prop} {T : Nat → World → Prop} :
  ∀ {l : List Oper} {k : Nat}, OblAll P ops a0 C G R T Q k l → ∀ {i : Nat} {o : Oper}, l[i]? = some o → Obl P ops a0 C G R T Q (k + i) o
 | [], _, _, _, _, h => by simp at h
 | _ :: _, _, h, 0, _, ho => by simp at ho; subst ho; exact h.1
 | _ :: l, k, h, i + 1, _, ho => by
  have := OblAll.get h.2 (i := i) (by simpa using ho)
  rwa [Nat.add_assoc, Nat.add_comm 1 i] at this
theorem Obl.mk {a0 : Act} {C : World → Prop} {G : World → World → Prop} {R : Nat → Value → World → Prop} {T : Nat → World → Prop} {i : Nat} {o : Oper}
  (h : ∀ a w, C w → (∀ t, ((List.range ops.size).all fun j => slotOf ops j != some t || behind ops i j) = true → a.eval (.tmp t) = a0.eval (.tmp t)) →
   (∀ j, behind ops j i = true → Has ops R j a w) → ∀ K : Act → World → Prop, (∀ v w', (o.dst ≠ none → R i v w') → (o.dst = none → T i w') → C w' → G w w' → K (a.put o.dst v) w') → o.wp P a w K Q) : Obl P ops a0 C G R T Q i o :=
 fun a w hC he hd => h a w hC he hd _ fun v w' h1 h2 h3 h4 => ⟨v, rfl, h1, h2, h3, h4⟩
theorem wp_region_inv {id : Nat} {a0 : Act} {w0 : World} {C : World → Prop} {G : World → World → Prop} {R : Nat → Value → World → Prop} {T : Nat → World → Prop} (hm : P.follows .mixedOrders = true) (ht : tidy ops a0.tmps.size = true)
  (hG : ∀ j v w w', C w → G w w' → R j v w → R j v w') (hGT : ∀ j w w', C w → G w w' → T j w → T j w') (hC : C { w0 with drawn := w0.drawn + 1 })
  (hO : OblAll P ops a0 C G R T Q 0 ops.toList)
  (hQ : ∀ a w, C w → a.defers = a0.defers → a.tmps.size = a0.tmps.size → (∀ t, (ops.all fun o => o.dst != some t) = true → a.eval (.tmp t) = a0.eval (.tmp t)) → (∀ j, j < ops.size → Has ops R j a w) → (∀ j, HasT ops T j w) → Q .normal a w) :
  (Code.region id ops true).wp P Q a0 w0 := by
 unfold tidy at ht
 simp only [Bool.and_eq_true] at ht
 obtain ⟨⟨⟨hlow, hgd⟩, hbd⟩, hdis⟩ := ht
 have slot_lt : ∀ {j d}, slotOf ops j = some d → j < ops.size := fun {j d} h => by
  unfold slotOf at h
  cases ho : ops[j]? with
  | none => rw [ho] at h; cases h
  | some o => exact (Array.getElem?_eq_some_iff.1 ho).1
 have slot_bd : ∀ {j d}, slotOf ops j = some d → d < a0.tmps.size := fun {j d} h => by
  have hj := slot_lt h
  have := Array.all_eq_true.1 hbd j hj
  unfold slotOf at h
  rw [Array.getElem?_eq_getElem hj] at h
  simp only [Option.bind_some] at h
  rw [h] at this
  simpa using this
 have slot_ne : ∀ {i j d}, slotOf ops i = some d → slotOf ops j = some d → i = j := fun {i j d} h1 h2 => by
  have a1 := slot_lt h1
  have a2 := slot_lt h2
  have := List.all_eq_true.1 (List.all_eq_true.1 hdis i (List.mem_range.2 a1)) j (List.mem_range.2 a2)
  rw [h1, h2] at this
  simpa using this
 let Inv : Array Bool → Act → World → Prop := fun listed a w => C w ∧ a.defers = a0.defers ∧ a.tmps.size = a0.tmps.size ∧
  (∀ t, (∀ j, slotOf ops j = some t → listed.getD j false = false) → a.eval (.tmp t) = a0.eval (.tmp t)) ∧
  (∀ j, listed.getD j false = true → Has ops R j a w) ∧ (∀ i j, listed.getD j false = true → behind ops i j = true → listed.getD i false = true) ∧ (∀ j, listed.getD j false = true → HasT ops T j w)
 refine wp_region_any hm (wpAny_inv (Inv := Inv) hlow ?_ ?_ _ _ _ _ (by simp) (by simp) ⟨hC, rfl, rfl, fun _ _ => rfl, ?_, ?_, ?_⟩)
 ·intro i listed a w hs hi ⟨hCw, hd, hsz, hext, hhas, hcl, hT⟩
  obtain ⟨hun, o, ho, hdeps⟩ := mem_ready.1 hi
  have hilt : i < ops.size := (Array.getElem?_eq_some_iff.1 ho).1
  have hun' : listed.getD i false = false := by
   have : i < listed.size := by omega
   simp [this] at hun ⊢; exact hun
  have hg : o.guard = none := by
   have := Array.all_eq_true.1 hgd i hilt
   rw [Array.getElem?_eq_getElem hilt] at ho
   cases ho
   simpa using this
  have hob := OblAll.get hO (i := i) (o := o) (by simpa using ho)
  rw [Nat.zero_add] at hob
  have hwp := hob a w hCw (fun t htt => hext t fun j hj => by
    have := List.all_eq_true.1 htt j (List.mem_range.2 (slot_lt hj))
    rw [hj] at this
    simp at this
    cases hl : listed.getD j false
    ·rfl
    ·have := hcl i j hl this; rw [hun'] at this; cases this)
   (fun j hj => hhas j (by
    obtain ⟨e, he, h1, h2⟩ := behind_spec hj ho
    rw [← h1]
    exact hdeps e he h2))
  unfold wpOp
  rw [ho]
  simp only [Region.wanted, hg, if_true]
  refine .inl (Oper.wp_mono ?_ hwp)
  rintro a' w' ⟨v, rfl, hR, hTi, hC', hGw⟩
  have hdst : slotOf ops i = o.dst := by unfold slotOf; rw [ho]; rfl
  have keep : ∀ t, o.dst ≠ some t → (a.put o.dst v).eval (.tmp t) = a.eval (.tmp t) := fun t h => Act.eval_put (fun d hd he => h (by rw [hd]; cases he; rfl))
  have lst : ∀ j, (listed.setIfInBounds i true).getD j false = true → j = i ∨ listed.getD j false = true := fun j h => by
   by_cases hji : i = j
   ·exact .inl hji.symm
   ·rw [getD_set_ne false hji] at h; exact .inr h
  refine ⟨hC', ?_, ?_, ?_, ?_, ?_, ?_⟩
  ·rw [← hd]; unfold Act.put; split <;> rfl
  ·rw [← hsz]; unfold Act.put; split <;> simp
  ·intro t htt
   rw [keep t (fun h => by
    have := htt i (by rw [hdst]; exact h)
    have hlt : i < listed.size := by omega
    simp [hlt] at this)]
   refine hext t fun j hj => ?_
   have := htt j hj
   cases hl : listed.getD j false
   ·rfl
   ·rw [getD_set_true hl] at this; cases this
  ·intro j hj d hjd
   rcases lst j hj with rfl | hj'
   ·rw [hdst] at hjd
    have hb := slot_bd (j := j) (by rw [hdst]; exact hjd)
    have : (a.put o.dst v).eval (.tmp d) = v := by
     unfold Act.put Act.eval; rw [hjd]; simp; exact fun h => absurd (Nat.lt_of_lt_of_le hb (hsz ▸ h)) (Nat.lt_irrefl _)
    rw [this]; exact hR (by rw [hjd]; simp)
   ·rw [keep d (fun h => by
     have := slot_ne (show slotOf ops i = some d by rw [hdst]; exact h) hjd
     subst this; rw [hun'] at hj'; cases hj')]
    exact hG _ _ _ _ hCw hGw (hhas j hj' d hjd)
  ·intro i' j hj hb
   rcases lst j hj with rfl | hj'
   ·refine getD_set_true ?_
    obtain ⟨e, he, h1, h2⟩ := behind_spec hb ho
    rw [← h1]; exact hdeps e he h2
   ·exact getD_set_true (hcl i' j hj' hb)
  ·intro j hj hn hlt
   rcases lst j hj with rfl | hj'
   ·rw [hdst] at hn
    exact hTi hn
   ·exact hGT _ _ _ hCw hGw (hT j hj' hn hlt)
 ·intro listed a w hall ⟨hCw, hd, hsz, hext, hhas, _, hT⟩
  refine hQ a w hCw hd hsz (fun t htt => hext t fun j hj => ?_) (fun j hj => hhas j (hall j hj)) (fun j hn hlt => hT j (hall j hlt) hn hlt)
  exfalso
  have hlt := slot_lt hj
  have := Array.all_eq_true.1 htt j hlt
  unfold slotOf at hj
  rw [Array.getElem?_eq_getElem hlt] at hj
  simp only [Option.bind_some] at hj
  rw [hj] at this
  simp at this
 ·intro j hj
  simp at hj
  rw [Array.getElem?_replicate] at hj; split at hj <;> simp at hj
 ·intro i j hj
  simp at hj
  rw [Array.getElem?_replicate] at hj; split at hj <;> simp at hj
 ·intro j hj
  simp at hj
  rw [Array.getElem?_replicate] at hj; split at hj <;> simp at hj
theorem wp_region_mix {id : Nat} {a0 : Act} {w0 : World} {C : World → Prop} {G : World → World → Prop} {R : Nat → Value → World → Prop} {T : Nat → World → Prop} (m : List Bool) (hm : P.follows .mixedOrders = true) (ht : tidy ops a0.tmps.size = true)
  (hk : maskOk ops m a0.tmps.size = true)
  (hG : ∀ j v w w', C w → G w w' → R j v w → R j v w') (hGT : ∀ j w w', C w → G w w' → T j w → T j w') (hC : C { w0 with drawn := w0.drawn + 1 })
  (hO : OblAll P ops a0 C G R T Q 0 ops.toList)
  (hQ : ∀ (f : Nat → Value) w, C w → (∀ j d, slotOf ops j = some d → R j (f d) w) → (∀ j, HasT ops T j w) → Q .normal ⟨(mixL f m 0 a0.tmps.toList).toArray, a0.defers⟩ w) :
  (Code.region id ops true).wp P Q a0 w0 := by
 refine wp_region_inv hm ht hG hGT hC hO fun a w hCw hd hsz hext hhas hT => ?_
 unfold maskOk at hk
 simp only [Bool.and_eq_true, beq_iff_eq] at hk
 obtain ⟨hml, hmk⟩ := hk
 have e : a = ⟨(mixL (fun t => a.eval (.tmp t)) m 0 a0.tmps.toList).toArray, a0.defers⟩ := by
  rw [mixL_eq _ _ _ _ (by simpa using hml) ?_]
  ·cases a with
   | mk tmps defers =>
    simp only [Act.mk.injEq]
    refine ⟨?_, hd⟩
    apply Array.ext'
    apply List.ext_getElem?
    intro i
    simp only at hsz
    by_cases hi : i < tmps.size
    ·have hi' : i < a0.tmps.size := by omega
     simp [hi, hi', Act.eval]
    ·have hi' : ¬ i < a0.tmps.size := by omega
     simp [hi, hi']
  ·intro i hi
   have hlt : i < a0.tmps.size := by
    have := (List.getElem?_eq_some_iff.1 hi).1; omega
   have h1 := List.all_eq_true.1 hmk i (List.mem_range.2 hlt)
   have h2 : m.getD i false = false := by simp [List.getD, hi]
   rw [h2, Bool.false_or] at h1
   have h3 := hext i h1
   rw [Nat.zero_add, h3]
   simp [Act.eval, hlt]
 have h1 : ∀ j d, slotOf ops j = some d → R j ((fun t => a.eval (.tmp t)) d) w := fun j d hj => hhas j (by
  unfold slotOf at hj
  cases ho : ops[j]? with
  | none => rw [ho] at hj; cases hj
  | some o => exact (Array.getElem?_eq_some_iff.1 ho).1) d hj
 rw [e]
 exact hQ (fun t => a.eval (.tmp t)) w hCw h1 hT
end
end Reg2
end Go.Proofs.YtabccmobmppdnaaGreat
namespace Go.Proofs.YtabccmobmppdnaaGreat
open Go Fk Go.RowKit
set_option linter.unusedVariables false
set_option maxRecDepth 8000
def gainC (x l : Option Nat) : Option Nat := if ford .f32 l (some 0) == some .gt then fop .quo .f32 x l else some 0
def wayC (cs : List C3) (i j : Int) : C3 := lessC (cs.getD j.toNat c0) (cs.getD i.toNat c0)
def perC (d : C3) (l s : Option Nat) : Option Nat := gainC (fop .mul .f32 s (fop .sub .f32 (longC d) l)) (longC d)
def scaleC (c : C3) (q : Option Nat) : C3 := (fop .mul .f32 c.1 q, fop .mul .f32 c.2.1 q, fop .mul .f32 c.2.2 q)
theorem impl_perLength (x y : Nat) (c d : Option Nat) (w : World) (hx : FV .f32 x c) (hy : FV .f32 y d) :
  Calls Tryz.prog 140 #[.float .f32 x, .float .f32 y] w fun e w' => ∃ r, e = .returned (.float .f32 r) ∧ FV .f32 r (gainC c d) ∧ ∃ n, w' = w.drewN n := by
 have u := Tryz.underlying27
 have ho : FloatKind.f32.format.order y 0 = ford .f32 d (some 0) := ford_of hy FV_00
 unfold gainC
 cases hg : (ford .f32 d (some 0) == some .gt)
 ·have h1 : (FloatKind.f32.format.order y 0 == some .gt) = false := by rw [ho]; exact hg
  clear ho hg
  go_enter Tryz.func140, Tryz.ntmps140
  go_wp2
  go_ret
  exact ⟨0, rfl, FV_00, 0, rfl⟩
 ·have h1 : (FloatKind.f32.format.order y 0 == some .gt) = true := by rw [ho]; exact hg
  clear ho hg
  go_enter Tryz.func140, Tryz.ntmps140
  go_wp2
  go_ret
  exact ⟨_, rfl, FV_fR hx hy, _, rfl⟩
theorem l03Gain (x y : Nat) (c d : Option Nat) (w : World) (hx : FV .f32 x c) (hy : FV .f32 y d) :
  Calls Tryz.prog 139 #[.float .f32 x, .float .f32 y] w fun e w' => ∃ r, e = .returned (.float .f32 r) ∧ FV .f32 r (gainC c d) ∧ ∃ n, w' = w.drewN n := by
 have u := Tryz.underlying27
 have ho : FloatKind.f32.format.order y 0 = ford .f32 d (some 0) := ford_of hy FV_00
 unfold gainC
 cases hg : (ford .f32 d (some 0) == some .gt)
 ·have h1 : (FloatKind.f32.format.order y 0 == some .gt) = false := by rw [ho]; exact hg
  clear ho hg
  go_enter Tryz.func139, Tryz.ntmps139
  go_wp2
  go_ret
  exact ⟨0, rfl, FV_00, 0, rfl⟩
 ·have h1 : (FloatKind.f32.format.order y 0 == some .gt) = true := by rw [ho]; exact hg
  clear ho hg
  go_enter Tryz.func139, Tryz.ntmps139
  go_wp2
  go_ret
  exact ⟨_, rfl, FV_fR hx hy, _, rfl⟩
theorem impl_pullPer (a b : Int) (x y p q r : Nat) (c e : Option Nat) (D : C3) (w : World) (hx : FV .f32 x c) (hy : FV .f32 y e) (hD : FV3 p q r D) :
  Calls Tryz.prog 251 #[sv a b x y, vv p q r] w fun en w' => ∃ g, en = .returned (.float .f32 g) ∧ FV .f32 g (perC D c e) ∧ Below w.heap.size w w' := by
 have u := Tryz.underlying27
 have us := Tryz.underlying166
 have uv := Tryz.underlying42
 have a0 : At ((w.alloc (.cells #[.int .i64 a, .int .i64 b, .float .f32 x, .float .f32 y] 166)).alloc (.cells #[.float .f32 p, .float .f32 q, .float .f32 r] 42)) w.heap.size [.int .i64 a, .int .i64 b, .float .f32 x, .float .f32 y] := At.new.alloc
 have b0 := ((Below.refl w.heap.size w).alloc (Nat.le_refl _) (.cells #[.int .i64 a, .int .i64 b, .float .f32 x, .float .f32 y] 166)).alloc (by simp) (.cells #[.float .f32 p, .float .f32 q, .float .f32 r] 42)
 have A0 := Lib.hid a0
 have B0 := Lib.hid b0
 clear a0 b0
 go_enter Tryz.func251, Tryz.ntmps251
 go_wp2_with fail
 generalize ((w.alloc (.cells #[.int .i64 a, .int .i64 b, .float .f32 x, .float .f32 y] 166)).alloc (.cells #[.float .f32 p, .float .f32 q, .float .f32 r] 42)) = W at *
 refine (impl_LongOf _ _ _ _ _ _ _ hD.1 hD.2.1 hD.2.2).mono ?_
 rintro en w1 ⟨l, rfl, hl, hB1⟩
 have k2 := A0.out.below hB1 2 _ rfl
 have k3 := A0.out.below hB1 3 _ rfl
 have B1 := Lib.hid (B0.out.trans (hB1.mono B0.out.size))
 clear hB1
 go_wp2_with fail
 refine (impl_product32 _ _ _ _ _ hy (FV_fR hl hx)).mono ?_
 rintro en w2 ⟨g, rfl, hg, n, hw2⟩
 have B2 : RowKit.Hid (Below w.heap.size w w2) := Lib.hid (by rw [hw2]; exact below_drewN (below_drewN B1.out _) _)
 clear hw2
 go_wp2_with fail
 refine (impl_perLength _ _ _ _ _ hg hl).mono ?_
 rintro en w3 ⟨z, rfl, hz, n3, hw3⟩
 have B3 : RowKit.Hid (Below w.heap.size w w3) := Lib.hid (by rw [hw3]; exact below_drewN B2.out _)
 clear hw3
 go_wp2
 go_ret
 exact ⟨z, rfl, hz, B3.out⟩
theorem inB_nat {n : Nat} {z : Int} (h : inB n z = true) : ∃ k : Nat, z = k ∧ k < n := by
 have := of_decide_eq_true h
 exact ⟨z.toNat, by omega, by omega⟩
set_option maxHeartbeats 2000000 in
theorem impl_way (a b : Int) (x y : Nat) (pa : Option Addr) (pl pc : Nat) (cs : List C3) (w : World) (h : IsVs w pa pl pc cs) (ha : inB pl a = true) (hb : inB pl b = true) :
  Calls Tryz.prog 250 #[sv a b x y, .slice pa pl pc] w fun e w' => ∃ s t u, e = .returned (vv s t u) ∧ FV3 s t u (wayC cs a b) ∧ Below w.heap.size w w' := by
 obtain ⟨i, rfl, hi⟩ := inB_nat ha
 obtain ⟨j, rfl, hj⟩ := inB_nat hb
 have u := Tryz.underlying27
 have ui := Tryz.underlying2
 have us := Tryz.underlying166
 have uv := Tryz.underlying42
 have hm : pl ≤ 9223372036854775807 := by have h1 := h.2.1; have h2 := h.2.2.1; unfold maxLen at h2; omega
 obtain ⟨pb, po, rfl, hcell⟩ := h.some (by omega)
 obtain ⟨p, q, r, i0, i1, i2, fi⟩ := hcell i hi
 obtain ⟨p', q', r', j0, j1, j2, fj⟩ := hcell j hj
 have a0 : At ((w.alloc (.cells #[.int .i64 (i : Int), .int .i64 (j : Int), .float .f32 x, .float .f32 y] 166)).alloc (.cells #[.float .f32 0, .float .f32 0, .float .f32 0] 42)) w.heap.size [.int .i64 (i : Int), .int .i64 (j : Int), .float .f32 x, .float .f32 y] := At.new.alloc
 have r0 : V3 ((w.alloc (.cells #[.int .i64 (i : Int), .int .i64 (j : Int), .float .f32 x, .float .f32 y] 166)).alloc (.cells #[.float .f32 0, .float .f32 0, .float .f32 0] 42)) (w.heap.size + 1) 0 0 0 := by
  have := V3.new (w := w.alloc (.cells #[.int .i64 (i : Int), .int .i64 (j : Int), .float .f32 x, .float .f32 y] 166)) (x := 0) (y := 0) (z := 0) (t := 42)
  simpa using this
 have b0 : Below w.heap.size w ((w.alloc (.cells #[.int .i64 (i : Int), .int .i64 (j : Int), .float .f32 x, .float .f32 y] 166)).alloc (.cells #[.float .f32 0, .float .f32 0, .float .f32 0] 42)) := ((Below.refl _ _).alloc (Nat.le_refl _) _).alloc (by simp) _
 have HK := Lib.hid (And.intro b0 (And.intro a0 (And.intro r0 (And.intro (And.intro (cell_below b0 j0) (And.intro (cell_below b0 j1) (cell_below b0 j2))) (And.intro (cell_below b0 i0) (And.intro (cell_below b0 i1) (cell_below b0 i2)))))))
 have hi0 : (0 : Int) ≤ (i : Int) := by omega
 have hi1 : (i : Int) < (pl : Int) := by omega
 have hj0 : (0 : Int) ≤ (j : Int) := by omega
 have hj1 : (j : Int) < (pl : Int) := by omega
 clear h hcell a0 r0 b0 i0 i1 i2 j0 j1 j2
 go_enter Tryz.func250, Tryz.ntmps250
 go_wp2_with fail
 generalize ((w.alloc (.cells #[.int .i64 (i : Int), .int .i64 (j : Int), .float .f32 x, .float .f32 y] 166)).alloc (.cells #[.float .f32 0, .float .f32 0, .float .f32 0] 42)) = W at *
 refine Reg3.wp_region_mix (C := fun w' => Below w.heap.size w w' ∧ At w' w.heap.size [.int .i64 (i : Int), .int .i64 (j : Int), .float .f32 x, .float .f32 y] ∧ V3 w' (w.heap.size + 1) 0 0 0 ∧ (w'.cell? ⟨pb, po + j * 3, none⟩ = some (.float .f32 p') ∧ w'.cell? ⟨pb, po + j * 3 + 1, none⟩ = some (.float .f32 q') ∧ w'.cell? ⟨pb, po + j * 3 + 2, none⟩ = some (.float .f32 r')) ∧ w'.cell? ⟨pb, po + i * 3, none⟩ = some (.float .f32 p) ∧ w'.cell? ⟨pb, po + i * 3 + 1, none⟩ = some (.float .f32 q) ∧ w'.cell? ⟨pb, po + i * 3 + 2, none⟩ = some (.float .f32 r)) (G := fun _ _ => True)
  (R := fun k v _ => match k with | 0 => v = (.slice (some ⟨pb, po, none⟩) pl pc) | 1 => v = .pointer (some ⟨w.heap.size, 1, none⟩) | 2 => v = .int .i64 (j : Int) | 3 => v = .pointer (some ⟨pb, po + j * 3, none⟩) | 4 => v = vv p' q' r' | 5 => v = (.slice (some ⟨pb, po, none⟩) pl pc) | 6 => v = .pointer (some ⟨w.heap.size, 0, none⟩) | 7 => v = .int .i64 (i : Int) | 8 => v = .pointer (some ⟨pb, po + i * 3, none⟩) | 9 => v = vv p q r | 10 => ∃ s t u, v = vv s t u ∧ FV3 s t u (lessC (cs.getD j c0) (cs.getD i c0)) | _ => True)
  (T := fun _ _ w' => Below w.heap.size w w' ∧ ∃ s t u, V3 w' (w.heap.size + 1) s t u ∧ FV3 s t u (lessC (cs.getD j c0) (cs.getD i c0))) [false, false, false, false, false, true, true, true, true, true, true, true, true, true, true, true]
  (by kernel_rfl) (by kernel_rfl) (by kernel_rfl) (fun _ _ _ _ _ _ h => h) ⟨below_drewN HK.out.1 1, HK.out.2⟩ ?_ ?_
 ·refine ⟨Reg3.Obl.mk ?_, Reg3.Obl.mk ?_, Reg3.Obl.mk ?_, Reg3.Obl.mk ?_, Reg3.Obl.mk ?_, Reg3.Obl.mk ?_, Reg3.Obl.mk ?_, Reg3.Obl.mk ?_, Reg3.Obl.mk ?_, Reg3.Obl.mk ?_, Reg3.Obl.mk ?_, Reg3.Obl.mk ?_, trivial⟩
  ·rintro a w1 HC hx hd K hK
   replace HC := Lib.hid HC
   have t1 : a.tmps[1]?.getD undef = (.slice (some ⟨pb, po, none⟩) pl pc) := Reg.slot_val (hx 1 (by kernel_rfl))
   go_simp
   exact hK _ _ (fun _ => rfl) (fun h => by cases h) (fun _ => HC.out) trivial
  ·rintro a w1 HC hx hd K hK
   replace HC := Lib.hid HC
   have t2 : a.tmps[2]?.getD undef = .pointer (some ⟨w.heap.size, 0, none⟩) := Reg.slot_val (hx 2 (by kernel_rfl))
   go_simp
   exact hK _ _ (fun _ => rfl) (fun h => by cases h) (fun _ => HC.out) trivial
  ·rintro a w1 HC hx hd K hK
   replace HC := Lib.hid HC
   have y1 := HC.out.2.1 1 _ rfl
   have t6 : a.tmps[6]?.getD undef = .pointer (some ⟨w.heap.size, 1, none⟩) := Reg.slot_val (hd 1 (by kernel_rfl) 6 rfl)
   go_simp
   exact hK _ _ (fun _ => rfl) (fun h => by cases h) (fun _ => HC.out) trivial
  ·rintro a w1 HC hx hd K hK
   replace HC := Lib.hid HC
   have t5 : a.tmps[5]?.getD undef = (.slice (some ⟨pb, po, none⟩) pl pc) := Reg.slot_val (hd 0 (by kernel_rfl) 5 rfl)
   have t7 : a.tmps[7]?.getD undef = .int .i64 (j : Int) := Reg.slot_val (hd 2 (by kernel_rfl) 7 rfl)
   go_simp
   exact hK _ _ (fun _ => rfl) (fun h => by cases h) (fun _ => HC.out) trivial
  ·rintro a w1 HC hx hd K hK
   replace HC := Lib.hid HC
   obtain ⟨y0, y1, y2⟩ := HC.out.2.2.2.1
   have t8 : a.tmps[8]?.getD undef = .pointer (some ⟨pb, po + j * 3, none⟩) := Reg.slot_val (hd 3 (by kernel_rfl) 8 rfl)
   go_simp
   exact hK _ _ (fun _ => rfl) (fun h => by cases h) (fun _ => HC.out) trivial
  ·rintro a w1 HC hx hd K hK
   replace HC := Lib.hid HC
   have t1 : a.tmps[1]?.getD undef = (.slice (some ⟨pb, po, none⟩) pl pc) := Reg.slot_val (hx 1 (by kernel_rfl))
   go_simp
   exact hK _ _ (fun _ => rfl) (fun h => by cases h) (fun _ => HC.out) trivial
  ·rintro a w1 HC hx hd K hK
   replace HC := Lib.hid HC
   have t2 : a.tmps[2]?.getD undef = .pointer (some ⟨w.heap.size, 0, none⟩) := Reg.slot_val (hx 2 (by kernel_rfl))
   go_simp
   exact hK _ _ (fun _ => rfl) (fun h => by cases h) (fun _ => HC.out) trivial
  ·rintro a w1 HC hx hd K hK
   replace HC := Lib.hid HC
   have y1 := HC.out.2.1 0 _ rfl
   have t11 : a.tmps[11]?.getD undef = .pointer (some ⟨w.heap.size, 0, none⟩) := Reg.slot_val (hd 6 (by kernel_rfl) 11 rfl)
   go_simp
   exact hK _ _ (fun _ => rfl) (fun h => by cases h) (fun _ => HC.out) trivial
  ·rintro a w1 HC hx hd K hK
   replace HC := Lib.hid HC
   have t10 : a.tmps[10]?.getD undef = (.slice (some ⟨pb, po, none⟩) pl pc) := Reg.slot_val (hd 5 (by kernel_rfl) 10 rfl)
   have t12 : a.tmps[12]?.getD undef = .int .i64 (i : Int) := Reg.slot_val (hd 7 (by kernel_rfl) 12 rfl)
   go_simp
   exact hK _ _ (fun _ => rfl) (fun h => by cases h) (fun _ => HC.out) trivial
  ·rintro a w1 HC hx hd K hK
   replace HC := Lib.hid HC
   obtain ⟨y0, y1, y2⟩ := HC.out.2.2.2.2
   have t13 : a.tmps[13]?.getD undef = .pointer (some ⟨pb, po + i * 3, none⟩) := Reg.slot_val (hd 8 (by kernel_rfl) 13 rfl)
   go_simp
   exact hK _ _ (fun _ => rfl) (fun h => by cases h) (fun _ => HC.out) trivial
  ·rintro a w1 HC hx hd K hK
   replace HC := Lib.hid HC
   have t9 : a.tmps[9]?.getD undef = vv p' q' r' := Reg.slot_val (hd 4 (by kernel_rfl) 9 rfl)
   have t14 : a.tmps[14]?.getD undef = vv p q r := Reg.slot_val (hd 9 (by kernel_rfl) 14 rfl)
   go_simp
   refine (impl_LessVectors _ _ _ _ _ _ _ _ _ _ _ _ _ fj.1 fj.2.1 fj.2.2 fi.1 fi.2.1 fi.2.2).mono ?_
   rintro e w2 ⟨ax, ay, az, rfl, fx, fy, fz, hB1⟩
   obtain ⟨hB, hA, hR, ⟨z0, z1, z2⟩, z3, z4, z5⟩ := HC.out
   exact hK _ _ (fun _ => ⟨ax, ay, az, rfl, fx, fy, fz⟩) (fun h => by cases h) (fun _ => ⟨hB.trans (hB1.mono hB.size), hA.below hB1, hR.below hB1, ⟨cell_below hB1 z0, cell_below hB1 z1, cell_below hB1 z2⟩, cell_below hB1 z3, cell_below hB1 z4, cell_below hB1 z5⟩) trivial
  ·rintro a w1 HC hx hd K hK
   replace HC := Lib.hid HC
   have t4 : a.tmps[4]?.getD undef = .pointer (some ⟨w.heap.size + 1, 0, none⟩) := Reg.slot_val (hx 4 (by kernel_rfl))
   obtain ⟨s, t, u, g5, hG⟩ := hd 10 (by kernel_rfl) 15 rfl
   have t15 := Reg.slot_val g5
   clear g5
   have HP := Lib.hid (HC.out.2.2.1.put (p := s) (q := t) (r := u))
   have HB2 := Lib.hid (below_set3 (n := w.heap.size + 1) (o1 := 0) (o2 := 1) (o3 := 2) (u := .float .f32 s) (v := .float .f32 t) (t := .float .f32 u) HC.out.1 (Nat.le_succ _))
   obtain ⟨⟨u0, u1, u2⟩, uf⟩ := HC.out.2.2.1
   have uf0 := uf 0
   have uf1 := uf 1
   have uf2 := uf 2
   have HG := Lib.hid hG
   clear uf hG
   go_simp
   exact hK undef _ (fun h => absurd rfl h) (fun _ => ⟨HB2.out, s, t, u, HP.out, HG.out⟩) (fun h => absurd rfl h) trivial
 ·rintro f w1 hd hT
  obtain ⟨hB, s, t, u, hV, hG⟩ := hT 11 (by kernel_rfl) (by decide)
  simp only [Reg.mixL]
  obtain ⟨⟨v0, v1, v2⟩, -⟩ := hV
  have HB := Lib.hid hB
  have HG := Lib.hid hG
  clear hB hG hd hT
  go_wp2
  refine bodyPost_ret (v := vv s t u) (by simp [results, Tryz.results250, go_sem, v0, v1, v2]) rfl ⟨s, t, u, rfl, HG.out, HB.out⟩
end Go.Proofs.YtabccmobmppdnaaGreat
namespace Go.Proofs.YtabccmobmppdnaaGreat
open Go Fk Go.RowKit
set_option linter.unusedVariables false
set_option maxRecDepth 8000
theorem ss_all {n : Nat} {ss : List SC} (h : ∀ j, j < ss.length → springB n (ss.getD j s0) = true) : ss.all (springB n) = true := by
 rw [List.all_eq_true]
 intro x hx
 obtain ⟨j, hj, rfl⟩ := List.getElem_of_mem hx
 have := h j hj
 simpa [List.getD, hj] using this
theorem ss_not {n : Nat} {ss : List SC} {k : Nat} (hk : k < ss.length) (h : springB n (ss.getD k s0) = false) : ss.all (springB n) = false := by
 rw [Bool.eq_false_iff]
 intro hh
 have := List.all_eq_true.1 hh (ss[k]) (List.getElem_mem hk)
 have h' : springB n ss[k] = false := by simpa [List.getD, hk] using h
 rw [this] at h'; cases h'
theorem IsB.lens {w : World} {B : Bd} {c : Bc} (h : IsB w B c) : c.cs.length = B.pl ∧ c.ts.length = B.tl ∧ c.ss.length = B.sl ∧ c.zs.length = B.wl := ⟨h.1.1, h.2.1.1, h.2.2.1.1, h.2.2.2.1.1⟩
abbrev BoxB (B : Bd) (t : TypeId) : Obj := .cells #[.slice B.pa B.pl B.pc, .slice B.ta B.tl B.tc, .slice B.sa B.sl B.sc, .float .f32 B.film, .float .f32 B.bend, .slice B.wa B.wl B.wc, .float .f32 B.x, .float .f32 B.y, .float .f32 B.z] t
set_option maxHeartbeats 2000000 in
theorem impl_ValidBody (B : Bd) (c : Bc) (w : World) (h : IsB w B c) :
  Calls Tryz.prog 102 #[B.v] w fun e w' => e = .returned (.bool (bodyB c)) ∧ Below w.heap.size w w' := by
 have ui := Tryz.underlying44
 have um := Tryz.underlying40
 have us := Tryz.underlying166
 have hA0 : At (w.alloc (BoxB B 44)) w.heap.size B.l := At.new
 have hB0 := (Below.refl w.heap.size w).alloc (Nat.le_refl _) (BoxB B 44)
 obtain ⟨lp, lt, ls, lw⟩ := h.lens
 have H0 := Lib.hid (h.below hB0)
 have A0 := Lib.hid hA0
 have B0 := Lib.hid hB0
 have hJ := impl_ValidMesh _ _ _ _ _ _ c.cs c.ts _ H0.out.1 H0.out.2.1
 have LS := Lib.hid ls
 unfold bodyB
 rw [ls, lw, lp]
 clear h hA0 hB0 lp lt lw ls
 cases hv : validB c.cs c.ts
 ·rw [hv] at hJ
  have HJ := Lib.hid hJ
  clear hJ hv
  go_enter Tryz.func102, Tryz.ntmps102
  go_wp2_with fail
  refine HJ.out.mono ?_
  rintro e w1 ⟨rfl, hB1⟩
  have B1 := Lib.hid (B0.out.trans (hB1.mono B0.out.size))
  clear hB1
  go_wp2
  go_ret
  exact ⟨rfl, B1.out⟩
 ·rw [hv] at hJ
  have HJ := Lib.hid hJ
  clear hJ hv
  by_cases h1 : B.sl ≤ 200
  ·have g1 : ¬ (200 : Int) < B.sl := by omega
   rw [decide_eq_true h1]
   by_cases h2 : B.wl = B.pl
   ·have g2 : ((B.wl : Int) == (B.pl : Int)) = true := by simp [h2]
    have g2' : ((B.wl : Int) != (B.pl : Int)) = false := by simp [h2]
    rw [decide_eq_true h2]
    have H2 := Lib.hid h2
    clear h2
    go_enter Tryz.func102, Tryz.ntmps102
    go_wp2_with fail
    refine HJ.out.mono ?_
    rintro e w1 ⟨rfl, hB1⟩
    have A1 := Lib.hid (A0.out.below hB1)
    have B1 := Lib.hid (B0.out.trans (hB1.mono B0.out.size))
    have H1 := Lib.hid (H0.out.below hB1)
    have k1 := A1.out 2 _ rfl
    have k4 := A1.out 5 _ rfl
    clear hB1
    go_wp2
    have hm : B.sl ≤ 9223372036854775807 := by omega
    go_loopw [30] (fun i w' => ∃ k : Nat, k ≤ B.sl ∧ i = .int .i64 k ∧ Aside (∀ j, j < k → springB B.pl (c.ss.getD j s0) = true) ∧ Aside (Below w1.heap.size w1 w')) (fun i _ => B.sl - (intOf i).toNat)
    case atStart => exact ⟨0, Nat.zero_le _, rfl, (fun j hj => absurd hj (by omega)), Below.refl _ _⟩
    case round =>
     obtain ⟨k, hk, rfl, hall, hA⟩ := hrel
     have HB := Lib.hid hA.out
     clear hA
     by_cases hlt : k < B.sl
     ·obtain ⟨b, o, hsa, hcell⟩ := (H1.out.below HB.out).2.2.1.some (by omega)
      obtain ⟨p, q, c0, c1, c2, c3, fp, fq⟩ := hcell k hlt
      have hJ := fun w => impl_isBetween (c.ss.getD k s0).1 (c.ss.getD k s0).2.1 p q B.pl (c.ss.getD k s0).2.2.1 (c.ss.getD k s0).2.2.2 w fp
      have hsp : springB B.pl ((c.ss.getD k s0).1, (c.ss.getD k s0).2.1, (c.ss.getD k s0).2.2.1, (c.ss.getD k s0).2.2.2) = springB B.pl (c.ss.getD k s0) := rfl
      rw [hsp] at hJ
      have hk0 : (0 : Int) ≤ (k : Int) := by omega
      have hk1 : (k : Int) < (B.sl : Int) := by omega
      obtain ⟨ua, hua⟩ : ∃ ua, ua = (c.ss.getD k s0).1 := ⟨_, rfl⟩
      obtain ⟨ub, hub⟩ : ∃ ub, ub = (c.ss.getD k s0).2.1 := ⟨_, rfl⟩
      rw [← hua] at c0 hJ
      rw [← hub] at c1 hJ
      rw [hsa]
      clear hcell hsp hua hub hsa fp fq
      cases hb : springB B.pl (c.ss.getD k s0)
      ·have hres : Aside ((true && true && true && c.ss.all (springB B.pl)) = false) := by show (true && true && true && c.ss.all (springB B.pl)) = false; rw [ss_not (by rw [LS.out]; exact hlt) hb]; rfl
       rw [hb] at hJ
       have HJ2 := Lib.hid hJ
       clear hJ hall hb
       go_wp2_with fail
       refine (HJ2.out _).mono ?_
       rintro e w2 ⟨rfl, hB2⟩
       have B2 := Lib.hid (B1.out.trans (((below_new HB.out (Nat.le_refl _)).trans (hB2.mono (below_new HB.out (Nat.le_refl _)).size)).mono B1.out.size))
       clear hB2
       go_wp2
       go_ret
       exact ⟨ret_bool hres.out.symm, B2.out⟩
      ·have hall' : Aside (∀ j, j < k + 1 → springB B.pl (c.ss.getD j s0) = true) := by
        intro j hj
        by_cases hjk : j = k
        ·subst hjk; exact hb
        ·exact hall.out j (by omega)
       rw [hb] at hJ
       have HJ2 := Lib.hid hJ
       clear hJ hall hb
       go_wp2_with fail
       refine (HJ2.out _).mono ?_
       rintro e w2 ⟨rfl, hB2⟩
       have B2 := Lib.hid ((below_new HB.out (Nat.le_refl _)).trans (hB2.mono (below_new HB.out (Nat.le_refl _)).size))
       clear hB2
       go_wp2
       go_roundw
       case rel => exact ⟨k + 1, by omega, by go_num, hall', B2.out⟩
       case measure => simp [intOf]; omega
     ·have hkl : k = B.sl := by omega
      have hres : Aside ((true && true && true && c.ss.all (springB B.pl)) = true) := by show (true && true && true && c.ss.all (springB B.pl)) = true; rw [ss_all (by rw [LS.out, ← hkl]; exact hall.out)]; rfl
      have g3 : ¬ (k : Int) < (B.sl : Int) := by omega
      clear hall hkl
      go_wp2
      go_ret
      exact ⟨ret_bool hres.out.symm, B1.out.trans (HB.out.mono B1.out.size)⟩
   ·have g2 : ((B.wl : Int) == (B.pl : Int)) = false := beq_eq_false_iff_ne.2 (by omega)
    have g2' : ((B.wl : Int) != (B.pl : Int)) = true := by simp; omega
    rw [decide_eq_false h2]
    clear h2
    go_enter Tryz.func102, Tryz.ntmps102
    go_wp2_with fail
    refine HJ.out.mono ?_
    rintro e w1 ⟨rfl, hB1⟩
    have A1 := Lib.hid (A0.out.below hB1)
    have B1 := Lib.hid (B0.out.trans (hB1.mono B0.out.size))
    have k1 := A1.out 2 _ rfl
    have k4 := A1.out 5 _ rfl
    clear hB1
    go_wp2
    go_ret
    exact ⟨rfl, B1.out⟩
  ·have g1 : (200 : Int) < B.sl := by omega
   rw [decide_eq_false h1]
   go_enter Tryz.func102, Tryz.ntmps102
   go_wp2_with fail
   refine HJ.out.mono ?_
   rintro e w1 ⟨rfl, hB1⟩
   have A1 := Lib.hid (A0.out.below hB1)
   have B1 := Lib.hid (B0.out.trans (hB1.mono B0.out.size))
   have k1 := A1.out 2 _ rfl
   have k4 := A1.out 5 _ rfl
   clear hB1
   go_wp2
   go_ret
   exact ⟨rfl, B1.out⟩
end Go.Proofs.YtabccmobmppdnaaGreat
namespace Go.Proofs.YtabccmobmppdnaaGreat
open Go Fk Go.RowKit
set_option linter.unusedVariables false
set_option maxRecDepth 16000
end Go.Proofs.YtabccmobmppdnaaGreat
namespace Go.Proofs.YtabccmobmppdnaaGreat
open Go Fk Go.RowKit
set_option linter.unusedVariables false
set_option maxRecDepth 8000
set_option maxHeartbeats 4000000 in
theorem mesh_normal (pa ta : Option Addr) (pl pc tl tc : Nat) (cs : List C3) (t : List Int) (w : World) (hp : IsVs w pa pl pc cs) (htri : triB pl t = true) :
  Calls Tryz.prog 256 #[.agg #[.slice pa pl pc, .slice ta tl tc], .agg #[.int .i64 (t.getD 0 0), .int .i64 (t.getD 1 0), .int .i64 (t.getD 2 0)]] w fun e w' => ∃ x y z, e = .returned (vv x y z) ∧ FV .f32 x (normalC cs t).1 ∧ FV .f32 y (normalC cs t).2.1 ∧ FV .f32 z (normalC cs t).2.2 ∧ Below w.heap.size w w' := by
 have uv := Tryz.underlying42
 have ui := Tryz.underlying40
 have uc := Tryz.underlying190
 obtain ⟨h3, hin⟩ := tri_parts htri
 obtain ⟨bp, op, rfl, hcor⟩ := corner_cell hp htri
 obtain ⟨p0, q0, s0, d00, d01, d02, f00, f01, f02⟩ := hcor 0 (by decide)
 obtain ⟨p1, q1', s1, d10, d11, d12, f10, f11, f12⟩ := hcor 1 (by decide)
 obtain ⟨p2, q2', s2, d20, d21, d22, f20, f21, f22⟩ := hcor 2 (by decide)
 have i0 := hin 0 (by decide)
 have i1 := hin 1 (by decide)
 have i2 := hin 2 (by decide)
 unfold normalC crossC lessC
 generalize cornerC cs t 0 = C0 at *
 generalize cornerC cs t 1 = C1 at *
 generalize cornerC cs t 2 = C2 at *
 generalize t.getD 0 0 = j0 at *
 generalize t.getD 1 0 = j1 at *
 generalize t.getD 2 0 = j2 at *
 obtain ⟨i0, i0'⟩ := i0
 obtain ⟨i1, i1'⟩ := i1
 obtain ⟨i2, i2'⟩ := i2
 have m0 : j0 < (pl : Int) := by omega
 have m1 : j1 < (pl : Int) := by omega
 have m2 : j2 < (pl : Int) := by omega
 have lbp : bp < w.heap.size := World.block_lt_of_cell? w _ d00
 have lbp1 : bp < w.heap.size + 1 := by omega
 have lbp2 : bp < w.heap.size + 1 + 1 := by omega
 have lbp3 : bp < w.heap.size + 1 + 1 + 1 := by omega
 clear hcor hin htri hp h3
 go_enter Tryz.func256, Tryz.ntmps256
 go_wp2_with fail
 have hB0 : Below w.heap.size w ((((w.alloc (.cells #[.slice (some ⟨bp, op, none⟩) pl pc, .slice ta tl tc] 40)).alloc (.cells #[.int .i64 j0, .int .i64 j1, .int .i64 j2] 190)).alloc (.cells #[.float .f32 0, .float .f32 0, .float .f32 0] 42)).alloc (.cells #[.float .f32 p0, .float .f32 q0, .float .f32 s0] 42)) := ((((Below.refl _ _).alloc (Nat.le_refl _) _).alloc (by simp) _).alloc (by simp <;> omega) _).alloc (by simp <;> omega) _
 have kk0 : ((((w.alloc (.cells #[.slice (some ⟨bp, op, none⟩) pl pc, .slice ta tl tc] 40)).alloc (.cells #[.int .i64 j0, .int .i64 j1, .int .i64 j2] 190)).alloc (.cells #[.float .f32 0, .float .f32 0, .float .f32 0] 42)).alloc (.cells #[.float .f32 p0, .float .f32 q0, .float .f32 s0] 42)).cell? ⟨w.heap.size, 0, none⟩ = some (.slice (some ⟨bp, op, none⟩) pl pc) := by go_simp
 have kk1 : ((((w.alloc (.cells #[.slice (some ⟨bp, op, none⟩) pl pc, .slice ta tl tc] 40)).alloc (.cells #[.int .i64 j0, .int .i64 j1, .int .i64 j2] 190)).alloc (.cells #[.float .f32 0, .float .f32 0, .float .f32 0] 42)).alloc (.cells #[.float .f32 p0, .float .f32 q0, .float .f32 s0] 42)).cell? ⟨w.heap.size + 1, 1, none⟩ = some (.int .i64 j1) := by go_simp
 have kk2 : ((((w.alloc (.cells #[.slice (some ⟨bp, op, none⟩) pl pc, .slice ta tl tc] 40)).alloc (.cells #[.int .i64 j0, .int .i64 j1, .int .i64 j2] 190)).alloc (.cells #[.float .f32 0, .float .f32 0, .float .f32 0] 42)).alloc (.cells #[.float .f32 p0, .float .f32 q0, .float .f32 s0] 42)).cell? ⟨w.heap.size + 1, 2, none⟩ = some (.int .i64 j2) := by go_simp
 have kv0 : ((((w.alloc (.cells #[.slice (some ⟨bp, op, none⟩) pl pc, .slice ta tl tc] 40)).alloc (.cells #[.int .i64 j0, .int .i64 j1, .int .i64 j2] 190)).alloc (.cells #[.float .f32 0, .float .f32 0, .float .f32 0] 42)).alloc (.cells #[.float .f32 p0, .float .f32 q0, .float .f32 s0] 42)).cell? ⟨w.heap.size + 1 + 1 + 1, 0, none⟩ = some (.float .f32 p0) := by go_simp
 have kv1 : ((((w.alloc (.cells #[.slice (some ⟨bp, op, none⟩) pl pc, .slice ta tl tc] 40)).alloc (.cells #[.int .i64 j0, .int .i64 j1, .int .i64 j2] 190)).alloc (.cells #[.float .f32 0, .float .f32 0, .float .f32 0] 42)).alloc (.cells #[.float .f32 p0, .float .f32 q0, .float .f32 s0] 42)).cell? ⟨w.heap.size + 1 + 1 + 1, 1, none⟩ = some (.float .f32 q0) := by go_simp
 have kv2 : ((((w.alloc (.cells #[.slice (some ⟨bp, op, none⟩) pl pc, .slice ta tl tc] 40)).alloc (.cells #[.int .i64 j0, .int .i64 j1, .int .i64 j2] 190)).alloc (.cells #[.float .f32 0, .float .f32 0, .float .f32 0] 42)).alloc (.cells #[.float .f32 p0, .float .f32 q0, .float .f32 s0] 42)).cell? ⟨w.heap.size + 1 + 1 + 1, 2, none⟩ = some (.float .f32 s0) := by go_simp
 have kr0 : ((((w.alloc (.cells #[.slice (some ⟨bp, op, none⟩) pl pc, .slice ta tl tc] 40)).alloc (.cells #[.int .i64 j0, .int .i64 j1, .int .i64 j2] 190)).alloc (.cells #[.float .f32 0, .float .f32 0, .float .f32 0] 42)).alloc (.cells #[.float .f32 p0, .float .f32 q0, .float .f32 s0] 42)).cell? ⟨w.heap.size + 1 + 1, 0, none⟩ = some (.float .f32 0) := by go_simp
 have kr1 : ((((w.alloc (.cells #[.slice (some ⟨bp, op, none⟩) pl pc, .slice ta tl tc] 40)).alloc (.cells #[.int .i64 j0, .int .i64 j1, .int .i64 j2] 190)).alloc (.cells #[.float .f32 0, .float .f32 0, .float .f32 0] 42)).alloc (.cells #[.float .f32 p0, .float .f32 q0, .float .f32 s0] 42)).cell? ⟨w.heap.size + 1 + 1, 1, none⟩ = some (.float .f32 0) := by go_simp
 have kr2 : ((((w.alloc (.cells #[.slice (some ⟨bp, op, none⟩) pl pc, .slice ta tl tc] 40)).alloc (.cells #[.int .i64 j0, .int .i64 j1, .int .i64 j2] 190)).alloc (.cells #[.float .f32 0, .float .f32 0, .float .f32 0] 42)).alloc (.cells #[.float .f32 p0, .float .f32 q0, .float .f32 s0] 42)).cell? ⟨w.heap.size + 1 + 1, 2, none⟩ = some (.float .f32 0) := by go_simp
 have kf0 : ((((w.alloc (.cells #[.slice (some ⟨bp, op, none⟩) pl pc, .slice ta tl tc] 40)).alloc (.cells #[.int .i64 j0, .int .i64 j1, .int .i64 j2] 190)).alloc (.cells #[.float .f32 0, .float .f32 0, .float .f32 0] 42)).alloc (.cells #[.float .f32 p0, .float .f32 q0, .float .f32 s0] 42)).frozen? ⟨w.heap.size + 1 + 1, 0, none⟩ = false := by go_simp
 have kf1 : ((((w.alloc (.cells #[.slice (some ⟨bp, op, none⟩) pl pc, .slice ta tl tc] 40)).alloc (.cells #[.int .i64 j0, .int .i64 j1, .int .i64 j2] 190)).alloc (.cells #[.float .f32 0, .float .f32 0, .float .f32 0] 42)).alloc (.cells #[.float .f32 p0, .float .f32 q0, .float .f32 s0] 42)).frozen? ⟨w.heap.size + 1 + 1, 1, none⟩ = false := by go_simp
 have kf2 : ((((w.alloc (.cells #[.slice (some ⟨bp, op, none⟩) pl pc, .slice ta tl tc] 40)).alloc (.cells #[.int .i64 j0, .int .i64 j1, .int .i64 j2] 190)).alloc (.cells #[.float .f32 0, .float .f32 0, .float .f32 0] 42)).alloc (.cells #[.float .f32 p0, .float .f32 q0, .float .f32 s0] 42)).frozen? ⟨w.heap.size + 1 + 1, 2, none⟩ = false := by go_simp
 have hd10 := cell_below hB0 d10
 have hd11 := cell_below hB0 d11
 have hd12 := cell_below hB0 d12
 have hd20 := cell_below hB0 d20
 have hd21 := cell_below hB0 d21
 have hd22 := cell_below hB0 d22
 have nA : w.heap.size + 1 + 1 ≠ w.heap.size := by omega
 have nB : w.heap.size + 1 + 1 ≠ w.heap.size + 1 := by omega
 have nC : w.heap.size + 1 + 1 ≠ w.heap.size + 1 + 1 + 1 := by omega
 have nD : w.heap.size + 1 + 1 ≠ bp := by omega
 clear d00 d01 d02 d10 d11 d12 d20 d21 d22
 generalize ((((w.alloc (.cells #[.slice (some ⟨bp, op, none⟩) pl pc, .slice ta tl tc] 40)).alloc (.cells #[.int .i64 j0, .int .i64 j1, .int .i64 j2] 190)).alloc (.cells #[.float .f32 0, .float .f32 0, .float .f32 0] 42)).alloc (.cells #[.float .f32 p0, .float .f32 q0, .float .f32 s0] 42)) = V at *
 refine Reg.wp_region_mix (C := fun w' => (w'.cell? ⟨w.heap.size, 0, none⟩ = some (.slice (some ⟨bp, op, none⟩) pl pc) ∧ w'.cell? ⟨w.heap.size + 1, 1, none⟩ = some (.int .i64 j1) ∧ w'.cell? ⟨w.heap.size + 1, 2, none⟩ = some (.int .i64 j2) ∧ w'.cell? ⟨bp, op + j1.toNat * 3, none⟩ = some (.float .f32 p1) ∧ w'.cell? ⟨bp, op + j1.toNat * 3 + 1, none⟩ = some (.float .f32 q1') ∧ w'.cell? ⟨bp, op + j1.toNat * 3 + 2, none⟩ = some (.float .f32 s1) ∧ w'.cell? ⟨bp, op + j2.toNat * 3, none⟩ = some (.float .f32 p2) ∧ w'.cell? ⟨bp, op + j2.toNat * 3 + 1, none⟩ = some (.float .f32 q2') ∧ w'.cell? ⟨bp, op + j2.toNat * 3 + 2, none⟩ = some (.float .f32 s2) ∧ w'.cell? ⟨w.heap.size + 1 + 1 + 1, 0, none⟩ = some (.float .f32 p0) ∧ w'.cell? ⟨w.heap.size + 1 + 1 + 1, 1, none⟩ = some (.float .f32 q0) ∧ w'.cell? ⟨w.heap.size + 1 + 1 + 1, 2, none⟩ = some (.float .f32 s0)) ∧ (∃ u0 u1 u2, w'.cell? ⟨w.heap.size + 1 + 1, 0, none⟩ = some u0 ∧ w'.cell? ⟨w.heap.size + 1 + 1, 1, none⟩ = some u1 ∧ w'.cell? ⟨w.heap.size + 1 + 1, 2, none⟩ = some u2) ∧ (w'.frozen? ⟨w.heap.size + 1 + 1, 0, none⟩ = false ∧ w'.frozen? ⟨w.heap.size + 1 + 1, 1, none⟩ = false ∧ w'.frozen? ⟨w.heap.size + 1 + 1, 2, none⟩ = false) ∧ Below w.heap.size w w') (G := fun _ _ => True) (R := fun i v _ => match i with | 0 => v = .pointer (some ⟨w.heap.size, 0, none⟩) | 1 => v = .slice (some ⟨bp, op, none⟩) pl pc | 2 => v = .pointer (some ⟨w.heap.size + 1, 1, none⟩) | 3 => v = .int .i64 j1 | 4 => v = .pointer (some ⟨bp, op + j1.toNat * 3, none⟩) | 5 => v = vv p1 q1' s1 | 6 => v = vv p0 q0 s0 | 7 => ∃ a b g, v = vv a b g ∧ FV .f32 a (fop .sub .f32 C1.1 C0.1) ∧ FV .f32 b (fop .sub .f32 C1.2.1 C0.2.1) ∧ FV .f32 g (fop .sub .f32 C1.2.2 C0.2.2) | 8 => v = .pointer (some ⟨w.heap.size, 0, none⟩) | 9 => v = .slice (some ⟨bp, op, none⟩) pl pc | 10 => v = .pointer (some ⟨w.heap.size + 1, 2, none⟩) | 11 => v = .int .i64 j2 | 12 => v = .pointer (some ⟨bp, op + j2.toNat * 3, none⟩) | 13 => v = vv p2 q2' s2 | 14 => v = vv p0 q0 s0 | 15 => ∃ a b g, v = vv a b g ∧ FV .f32 a (fop .sub .f32 C2.1 C0.1) ∧ FV .f32 b (fop .sub .f32 C2.2.1 C0.2.1) ∧ FV .f32 g (fop .sub .f32 C2.2.2 C0.2.2) | 16 => ∃ a b g, v = vv a b g ∧ FV .f32 a (fop .sub .f32 (fop .mul .f32 (fop .sub .f32 C1.2.1 C0.2.1) (fop .sub .f32 C2.2.2 C0.2.2)) (fop .mul .f32 (fop .sub .f32 C1.2.2 C0.2.2) (fop .sub .f32 C2.2.1 C0.2.1))) ∧ FV .f32 b (fop .sub .f32 (fop .mul .f32 (fop .sub .f32 C1.2.2 C0.2.2) (fop .sub .f32 C2.1 C0.1)) (fop .mul .f32 (fop .sub .f32 C1.1 C0.1) (fop .sub .f32 C2.2.2 C0.2.2))) ∧ FV .f32 g (fop .sub .f32 (fop .mul .f32 (fop .sub .f32 C1.1 C0.1) (fop .sub .f32 C2.2.1 C0.2.1)) (fop .mul .f32 (fop .sub .f32 C1.2.1 C0.2.1) (fop .sub .f32 C2.1 C0.1))) | _ => True) (T := fun _ a w' => ∃ a b g, w'.cell? ⟨w.heap.size + 1 + 1, 0, none⟩ = some (.float .f32 a) ∧ w'.cell? ⟨w.heap.size + 1 + 1, 1, none⟩ = some (.float .f32 b) ∧ w'.cell? ⟨w.heap.size + 1 + 1, 2, none⟩ = some (.float .f32 g) ∧ FV .f32 a (fop .sub .f32 (fop .mul .f32 (fop .sub .f32 C1.2.1 C0.2.1) (fop .sub .f32 C2.2.2 C0.2.2)) (fop .mul .f32 (fop .sub .f32 C1.2.2 C0.2.2) (fop .sub .f32 C2.2.1 C0.2.1))) ∧ FV .f32 b (fop .sub .f32 (fop .mul .f32 (fop .sub .f32 C1.2.2 C0.2.2) (fop .sub .f32 C2.1 C0.1)) (fop .mul .f32 (fop .sub .f32 C1.1 C0.1) (fop .sub .f32 C2.2.2 C0.2.2))) ∧ FV .f32 g (fop .sub .f32 (fop .mul .f32 (fop .sub .f32 C1.1 C0.1) (fop .sub .f32 C2.2.1 C0.2.1)) (fop .mul .f32 (fop .sub .f32 C1.2.1 C0.2.1) (fop .sub .f32 C2.1 C0.1)))) [false, false, false, false, false, false, false, false, false, false, false, false, true, true, true, true, true, true, true, true, true, true, true, true, true, true, true, true, true]
  (by kernel_rfl) (by kernel_rfl) (by kernel_rfl) (fun _ _ _ _ _ _ h => h) ⟨⟨kk0, kk1, kk2, hd10, hd11, hd12, hd20, hd21, hd22, kv0, kv1, kv2⟩, ⟨_, _, _, kr0, kr1, kr2⟩, ⟨kf0, kf1, kf2⟩, below_drewN hB0 1⟩ ?_ ?_
 ·refine ⟨Reg.Obl.mk ?_, Reg.Obl.mk ?_, Reg.Obl.mk ?_, Reg.Obl.mk ?_, Reg.Obl.mk ?_, Reg.Obl.mk ?_, Reg.Obl.mk ?_, Reg.Obl.mk ?_, Reg.Obl.mk ?_, Reg.Obl.mk ?_, Reg.Obl.mk ?_, Reg.Obl.mk ?_, Reg.Obl.mk ?_, Reg.Obl.mk ?_, Reg.Obl.mk ?_, Reg.Obl.mk ?_, Reg.Obl.mk ?_, Reg.Obl.mk ?_, trivial⟩
  ·rintro a w1 ⟨⟨y0, y1, y2, y3, y4, y5, y6, y7, y8, y9, y10, y11⟩, hrb, hfz, hB⟩ hx hd K hK
   have t2 : a.tmps[2]?.getD undef = .pointer (some ⟨w.heap.size, 0, none⟩) := Reg.slot_val (hx 2 (by kernel_rfl))
   go_simp
   exact hK _ _ (fun _ => rfl) (fun h => by cases h) ⟨⟨y0, y1, y2, y3, y4, y5, y6, y7, y8, y9, y10, y11⟩, hrb, hfz, hB⟩ trivial
  ·rintro a w1 ⟨⟨y0, y1, y2, y3, y4, y5, y6, y7, y8, y9, y10, y11⟩, hrb, hfz, hB⟩ hx hd K hK
   have t12 : a.tmps[12]?.getD undef = .pointer (some ⟨w.heap.size, 0, none⟩) := Reg.slot_val (hd 0 (by kernel_rfl) 12 rfl)
   go_simp
   exact hK _ _ (fun _ => rfl) (fun h => by cases h) ⟨⟨y0, y1, y2, y3, y4, y5, y6, y7, y8, y9, y10, y11⟩, hrb, hfz, hB⟩ trivial
  ·rintro a w1 ⟨⟨y0, y1, y2, y3, y4, y5, y6, y7, y8, y9, y10, y11⟩, hrb, hfz, hB⟩ hx hd K hK
   have t3 : a.tmps[3]?.getD undef = .pointer (some ⟨w.heap.size + 1, 0, none⟩) := Reg.slot_val (hx 3 (by kernel_rfl))
   go_simp
   exact hK _ _ (fun _ => rfl) (fun h => by cases h) ⟨⟨y0, y1, y2, y3, y4, y5, y6, y7, y8, y9, y10, y11⟩, hrb, hfz, hB⟩ trivial
  ·rintro a w1 ⟨⟨y0, y1, y2, y3, y4, y5, y6, y7, y8, y9, y10, y11⟩, hrb, hfz, hB⟩ hx hd K hK
   have t14 : a.tmps[14]?.getD undef = .pointer (some ⟨w.heap.size + 1, 1, none⟩) := Reg.slot_val (hd 2 (by kernel_rfl) 14 rfl)
   go_simp
   exact hK _ _ (fun _ => rfl) (fun h => by cases h) ⟨⟨y0, y1, y2, y3, y4, y5, y6, y7, y8, y9, y10, y11⟩, hrb, hfz, hB⟩ trivial
  ·rintro a w1 ⟨⟨y0, y1, y2, y3, y4, y5, y6, y7, y8, y9, y10, y11⟩, hrb, hfz, hB⟩ hx hd K hK
   have t13 : a.tmps[13]?.getD undef = .slice (some ⟨bp, op, none⟩) pl pc := Reg.slot_val (hd 1 (by kernel_rfl) 13 rfl)
   have t15 : a.tmps[15]?.getD undef = .int .i64 j1 := Reg.slot_val (hd 3 (by kernel_rfl) 15 rfl)
   go_simp
   exact hK _ _ (fun _ => rfl) (fun h => by cases h) ⟨⟨y0, y1, y2, y3, y4, y5, y6, y7, y8, y9, y10, y11⟩, hrb, hfz, hB⟩ trivial
  ·rintro a w1 ⟨⟨y0, y1, y2, y3, y4, y5, y6, y7, y8, y9, y10, y11⟩, hrb, hfz, hB⟩ hx hd K hK
   have t16 : a.tmps[16]?.getD undef = .pointer (some ⟨bp, op + j1.toNat * 3, none⟩) := Reg.slot_val (hd 4 (by kernel_rfl) 16 rfl)
   go_simp
   exact hK _ _ (fun _ => rfl) (fun h => by cases h) ⟨⟨y0, y1, y2, y3, y4, y5, y6, y7, y8, y9, y10, y11⟩, hrb, hfz, hB⟩ trivial
  ·rintro a w1 ⟨⟨y0, y1, y2, y3, y4, y5, y6, y7, y8, y9, y10, y11⟩, hrb, hfz, hB⟩ hx hd K hK
   have t5 : a.tmps[5]?.getD undef = .pointer (some ⟨w.heap.size + 1 + 1 + 1, 0, none⟩) := Reg.slot_val (hx 5 (by kernel_rfl))
   go_simp
   exact hK _ _ (fun _ => rfl) (fun h => by cases h) ⟨⟨y0, y1, y2, y3, y4, y5, y6, y7, y8, y9, y10, y11⟩, hrb, hfz, hB⟩ trivial
  ·rintro a w1 ⟨⟨y0, y1, y2, y3, y4, y5, y6, y7, y8, y9, y10, y11⟩, hrb, hfz, hB⟩ hx hd K hK
   have t17 : a.tmps[17]?.getD undef = vv p1 q1' s1 := Reg.slot_val (hd 5 (by kernel_rfl) 17 rfl)
   have t18 : a.tmps[18]?.getD undef = vv p0 q0 s0 := Reg.slot_val (hd 6 (by kernel_rfl) 18 rfl)
   have hrb' := Lib.hid hrb
   clear hrb
   go_simp
   refine (impl_LessVectors _ _ _ _ _ _ _ _ _ _ _ _ _ f10 f11 f12 f00 f01 f02).mono ?_
   rintro en w2 ⟨ra, rb, rc, rfl, ha, hb, hc, hB2⟩
   obtain ⟨u0, u1, u2, x0, x1, x2⟩ := hrb'.out
   have lt := World.block_lt_of_cell? w1 _ x0
   exact hK _ _ (fun _ => ⟨ra, rb, rc, rfl, ha, hb, hc⟩) (fun h => by cases h) ⟨⟨cell_below hB2 y0, cell_below hB2 y1, cell_below hB2 y2, cell_below hB2 y3, cell_below hB2 y4, cell_below hB2 y5, cell_below hB2 y6, cell_below hB2 y7, cell_below hB2 y8, cell_below hB2 y9, cell_below hB2 y10, cell_below hB2 y11⟩, ⟨u0, u1, u2, cell_below hB2 x0, cell_below hB2 x1, cell_below hB2 x2⟩, ⟨frozen_below hB2 lt hfz.1, frozen_below hB2 lt hfz.2.1, frozen_below hB2 lt hfz.2.2⟩, hB.trans (hB2.mono hB.size)⟩ trivial
  ·rintro a w1 ⟨⟨y0, y1, y2, y3, y4, y5, y6, y7, y8, y9, y10, y11⟩, hrb, hfz, hB⟩ hx hd K hK
   have t2 : a.tmps[2]?.getD undef = .pointer (some ⟨w.heap.size, 0, none⟩) := Reg.slot_val (hx 2 (by kernel_rfl))
   go_simp
   exact hK _ _ (fun _ => rfl) (fun h => by cases h) ⟨⟨y0, y1, y2, y3, y4, y5, y6, y7, y8, y9, y10, y11⟩, hrb, hfz, hB⟩ trivial
  ·rintro a w1 ⟨⟨y0, y1, y2, y3, y4, y5, y6, y7, y8, y9, y10, y11⟩, hrb, hfz, hB⟩ hx hd K hK
   have t20 : a.tmps[20]?.getD undef = .pointer (some ⟨w.heap.size, 0, none⟩) := Reg.slot_val (hd 8 (by kernel_rfl) 20 rfl)
   go_simp
   exact hK _ _ (fun _ => rfl) (fun h => by cases h) ⟨⟨y0, y1, y2, y3, y4, y5, y6, y7, y8, y9, y10, y11⟩, hrb, hfz, hB⟩ trivial
  ·rintro a w1 ⟨⟨y0, y1, y2, y3, y4, y5, y6, y7, y8, y9, y10, y11⟩, hrb, hfz, hB⟩ hx hd K hK
   have t3 : a.tmps[3]?.getD undef = .pointer (some ⟨w.heap.size + 1, 0, none⟩) := Reg.slot_val (hx 3 (by kernel_rfl))
   go_simp
   exact hK _ _ (fun _ => rfl) (fun h => by cases h) ⟨⟨y0, y1, y2, y3, y4, y5, y6, y7, y8, y9, y10, y11⟩, hrb, hfz, hB⟩ trivial
  ·rintro a w1 ⟨⟨y0, y1, y2, y3, y4, y5, y6, y7, y8, y9, y10, y11⟩, hrb, hfz, hB⟩ hx hd K hK
   have t22 : a.tmps[22]?.getD undef = .pointer (some ⟨w.heap.size + 1, 2, none⟩) := Reg.slot_val (hd 10 (by kernel_rfl) 22 rfl)
   go_simp
   exact hK _ _ (fun _ => rfl) (fun h => by cases h) ⟨⟨y0, y1, y2, y3, y4, y5, y6, y7, y8, y9, y10, y11⟩, hrb, hfz, hB⟩ trivial
  ·rintro a w1 ⟨⟨y0, y1, y2, y3, y4, y5, y6, y7, y8, y9, y10, y11⟩, hrb, hfz, hB⟩ hx hd K hK
   have t21 : a.tmps[21]?.getD undef = .slice (some ⟨bp, op, none⟩) pl pc := Reg.slot_val (hd 9 (by kernel_rfl) 21 rfl)
   have t23 : a.tmps[23]?.getD undef = .int .i64 j2 := Reg.slot_val (hd 11 (by kernel_rfl) 23 rfl)
   go_simp
   exact hK _ _ (fun _ => rfl) (fun h => by cases h) ⟨⟨y0, y1, y2, y3, y4, y5, y6, y7, y8, y9, y10, y11⟩, hrb, hfz, hB⟩ trivial
  ·rintro a w1 ⟨⟨y0, y1, y2, y3, y4, y5, y6, y7, y8, y9, y10, y11⟩, hrb, hfz, hB⟩ hx hd K hK
   have t24 : a.tmps[24]?.getD undef = .pointer (some ⟨bp, op + j2.toNat * 3, none⟩) := Reg.slot_val (hd 12 (by kernel_rfl) 24 rfl)
   go_simp
   exact hK _ _ (fun _ => rfl) (fun h => by cases h) ⟨⟨y0, y1, y2, y3, y4, y5, y6, y7, y8, y9, y10, y11⟩, hrb, hfz, hB⟩ trivial
  ·rintro a w1 ⟨⟨y0, y1, y2, y3, y4, y5, y6, y7, y8, y9, y10, y11⟩, hrb, hfz, hB⟩ hx hd K hK
   have t5 : a.tmps[5]?.getD undef = .pointer (some ⟨w.heap.size + 1 + 1 + 1, 0, none⟩) := Reg.slot_val (hx 5 (by kernel_rfl))
   go_simp
   exact hK _ _ (fun _ => rfl) (fun h => by cases h) ⟨⟨y0, y1, y2, y3, y4, y5, y6, y7, y8, y9, y10, y11⟩, hrb, hfz, hB⟩ trivial
  ·rintro a w1 ⟨⟨y0, y1, y2, y3, y4, y5, y6, y7, y8, y9, y10, y11⟩, hrb, hfz, hB⟩ hx hd K hK
   have t25 : a.tmps[25]?.getD undef = vv p2 q2' s2 := Reg.slot_val (hd 13 (by kernel_rfl) 25 rfl)
   have t26 : a.tmps[26]?.getD undef = vv p0 q0 s0 := Reg.slot_val (hd 14 (by kernel_rfl) 26 rfl)
   have hrb' := Lib.hid hrb
   clear hrb
   go_simp
   refine (impl_LessVectors _ _ _ _ _ _ _ _ _ _ _ _ _ f20 f21 f22 f00 f01 f02).mono ?_
   rintro en w2 ⟨ra, rb, rc, rfl, ha, hb, hc, hB2⟩
   obtain ⟨u0, u1, u2, x0, x1, x2⟩ := hrb'.out
   have lt := World.block_lt_of_cell? w1 _ x0
   exact hK _ _ (fun _ => ⟨ra, rb, rc, rfl, ha, hb, hc⟩) (fun h => by cases h) ⟨⟨cell_below hB2 y0, cell_below hB2 y1, cell_below hB2 y2, cell_below hB2 y3, cell_below hB2 y4, cell_below hB2 y5, cell_below hB2 y6, cell_below hB2 y7, cell_below hB2 y8, cell_below hB2 y9, cell_below hB2 y10, cell_below hB2 y11⟩, ⟨u0, u1, u2, cell_below hB2 x0, cell_below hB2 x1, cell_below hB2 x2⟩, ⟨frozen_below hB2 lt hfz.1, frozen_below hB2 lt hfz.2.1, frozen_below hB2 lt hfz.2.2⟩, hB.trans (hB2.mono hB.size)⟩ trivial
  ·rintro a w1 ⟨⟨y0, y1, y2, y3, y4, y5, y6, y7, y8, y9, y10, y11⟩, hrb, hfz, hB⟩ hx hd K hK
   obtain ⟨r19, p19', q19', gg19, fa19, fb19, fc19⟩ := hd 7 (by kernel_rfl) 19 rfl
   have t19 := Reg.slot_val gg19
   clear gg19
   obtain ⟨r27, p27', q27', gg27, fa27, fb27, fc27⟩ := hd 15 (by kernel_rfl) 27 rfl
   have t27 := Reg.slot_val gg27
   clear gg27
   have hrb' := Lib.hid hrb
   clear hrb
   go_simp
   refine (impl_CrossOf _ _ _ _ _ _ _ _ _ _ _ _ _ fa19 fb19 fc19 fa27 fb27 fc27).mono ?_
   rintro en w2 ⟨ra, rb, rc, rfl, ha, hb, hc, hB2⟩
   obtain ⟨u0, u1, u2, x0, x1, x2⟩ := hrb'.out
   have lt := World.block_lt_of_cell? w1 _ x0
   exact hK _ _ (fun _ => ⟨ra, rb, rc, rfl, ha, hb, hc⟩) (fun h => by cases h) ⟨⟨cell_below hB2 y0, cell_below hB2 y1, cell_below hB2 y2, cell_below hB2 y3, cell_below hB2 y4, cell_below hB2 y5, cell_below hB2 y6, cell_below hB2 y7, cell_below hB2 y8, cell_below hB2 y9, cell_below hB2 y10, cell_below hB2 y11⟩, ⟨u0, u1, u2, cell_below hB2 x0, cell_below hB2 x1, cell_below hB2 x2⟩, ⟨frozen_below hB2 lt hfz.1, frozen_below hB2 lt hfz.2.1, frozen_below hB2 lt hfz.2.2⟩, hB.trans (hB2.mono hB.size)⟩ trivial
  ·rintro a w1 ⟨⟨y0, y1, y2, y3, y4, y5, y6, y7, y8, y9, y10, y11⟩, hrb, hfz, hB⟩ hx hd K hK
   have t4 : a.tmps[4]?.getD undef = .pointer (some ⟨w.heap.size + 1 + 1, 0, none⟩) := Reg.slot_val (hx 4 (by kernel_rfl))
   obtain ⟨r28, p28', q28', gg28, fa28, fb28, fc28⟩ := hd 16 (by kernel_rfl) 28 rfl
   have t28 := Reg.slot_val gg28
   clear gg28
   obtain ⟨u0, u1, u2, x0, x1, x2⟩ := hrb
   obtain ⟨k0, k1, k2⟩ := hfz
   go_simp
   have s3 := set3 (u := .float .f32 r28) (v := .float .f32 p28') (t := .float .f32 q28') x0 x1 x2
   refine hK undef _ (fun h => absurd rfl h) (fun _ => ⟨r28, p28', q28', s3.1, s3.2.1, s3.2.2, fa28, fb28, fc28⟩) ⟨⟨cell_set (by first | assumption | omega) (cell_set (by first | assumption | omega) (cell_set (by first | assumption | omega) y0)), cell_set (by first | assumption | omega) (cell_set (by first | assumption | omega) (cell_set (by first | assumption | omega) y1)), cell_set (by first | assumption | omega) (cell_set (by first | assumption | omega) (cell_set (by first | assumption | omega) y2)), cell_set (by first | assumption | omega) (cell_set (by first | assumption | omega) (cell_set (by first | assumption | omega) y3)), cell_set (by first | assumption | omega) (cell_set (by first | assumption | omega) (cell_set (by first | assumption | omega) y4)), cell_set (by first | assumption | omega) (cell_set (by first | assumption | omega) (cell_set (by first | assumption | omega) y5)), cell_set (by first | assumption | omega) (cell_set (by first | assumption | omega) (cell_set (by first | assumption | omega) y6)), cell_set (by first | assumption | omega) (cell_set (by first | assumption | omega) (cell_set (by first | assumption | omega) y7)), cell_set (by first | assumption | omega) (cell_set (by first | assumption | omega) (cell_set (by first | assumption | omega) y8)), cell_set (by first | assumption | omega) (cell_set (by first | assumption | omega) (cell_set (by first | assumption | omega) y9)), cell_set (by first | assumption | omega) (cell_set (by first | assumption | omega) (cell_set (by first | assumption | omega) y10)), cell_set (by first | assumption | omega) (cell_set (by first | assumption | omega) (cell_set (by first | assumption | omega) y11))⟩, ⟨_, _, _, s3⟩, ⟨by simp [k0], by simp [k1], by simp [k2]⟩, below_set3 hB (by first | exact Nat.le_refl _ | omega)⟩ trivial
 ·rintro f w1 ⟨⟨y0, y1, y2, y3, y4, y5, y6, y7, y8, y9, y10, y11⟩, hrb, hfz, hB⟩ hd hT
  obtain ⟨xa, xb, xc, x0, x1, x2, fa, fb, fc⟩ := hT 17 rfl (by decide)
  simp only [Reg.mixL]
  have HB := Lib.hid hB
  clear hB hd hT hrb hfz
  go_wp2
  refine bodyPost_ret (v := vv xa xb xc) (by simp [results, Tryz.results256, go_sem, x0, x1, x2]) rfl ⟨_, _, _, rfl, fa, fb, fc, HB.out⟩
end Go.Proofs.YtabccmobmppdnaaGreat
namespace Go.Proofs.YtabccmobmppdnaaGreat
open Go Fk Go.RowKit
set_option linter.unusedVariables false
set_option maxRecDepth 8000
@[go_sem] theorem run_neg_float {P : Program} (k : FloatKind) (x : Nat) (w : World) : (Op.unary .neg (.float k x)).run P w = .ok (.float k (Op.negFloat k x)) w := rfl
theorem neg_lt {x : Nat} (hx : x < 4294967296) : Op.negFloat .f32 x < 4294967296 := by
 unfold Op.negFloat
 exact Nat.xor_lt_two_pow (n := 32) hx (by decide)
def halfC : Option Nat := cls .f32 1056964608
theorem half_FV : FV .f32 1056964608 halfC := ⟨by decide, rfl⟩
def areaC (cs : List C3) (t : List Int) : Option Nat := fop .mul .f32 halfC (longC (normalC cs t))
end Go.Proofs.YtabccmobmppdnaaGreat
namespace Go.Proofs.YtabccmobmppdnaaGreat
open Go Fk Go.RowKit
set_option linter.unusedVariables false
def Frm (w : World) (L : List (Nat × List Value)) (R : Nat) (w' : World) : Prop :=
 Below w.heap.size w w' ∧ (∀ b l, (b, l) ∈ L → At w' b l ∧ b ≠ R) ∧ w.heap.size ≤ R ∧ (∃ u v t, w'.cell? ⟨R, 0, none⟩ = some u ∧ w'.cell? ⟨R, 1, none⟩ = some v ∧ w'.cell? ⟨R, 2, none⟩ = some t) ∧ Fr w' R
def TV (R : Nat) (c : C3) (w : World) : Prop := ∃ x y z, (w.cell? ⟨R, 0, none⟩ = some (.float .f32 x) ∧ w.cell? ⟨R, 1, none⟩ = some (.float .f32 y) ∧ w.cell? ⟨R, 2, none⟩ = some (.float .f32 z)) ∧ FV .f32 x c.1 ∧ FV .f32 y c.2.1 ∧ FV .f32 z c.2.2
def F3 (x y z : Nat) (c : C3) : Prop := FV .f32 x c.1 ∧ FV .f32 y c.2.1 ∧ FV .f32 z c.2.2
theorem Frm.bel {w w' : World} {L : List (Nat × List Value)} {R : Nat} (h : Frm w L R w') : Below w.heap.size w w' := h.1
theorem Frm.mem {w w' : World} {L : List (Nat × List Value)} {R b : Nat} {l : List Value} (h : Frm w L R w') (hm : (b, l) ∈ L) : At w' b l := (h.2.1 b l hm).1
theorem Frm.lt {w w' : World} {L : List (Nat × List Value)} {R : Nat} (h : Frm w L R w') : R < w'.heap.size := by
 obtain ⟨u, v, t, e, _⟩ := h.2.2.2.1
 exact World.block_lt_of_cell? w' _ e
theorem Frm.call {w w1 w2 : World} {L : List (Nat × List Value)} {R : Nat} (h : Frm w L R w1) (hb : Below w1.heap.size w1 w2) : Frm w L R w2 := by
 have hl := h.lt
 obtain ⟨h1, h2, h3, ⟨u, v, t, e0, e1, e2⟩, h5⟩ := h
 exact ⟨h1.trans (hb.mono h1.size), fun b l hm => ⟨(h2 b l hm).1.below hb, (h2 b l hm).2⟩, h3, ⟨u, v, t, cell_below hb e0, cell_below hb e1, cell_below hb e2⟩, h5.below hb hl⟩
theorem Frm.drewN {w w1 : World} {L : List (Nat × List Value)} {R : Nat} (h : Frm w L R w1) (n : Nat) : Frm w L R (w1.drewN n) := h.call (below_drewN (Below.refl _ _) n)
theorem Frm.put {w w1 : World} {L : List (Nat × List Value)} {R : Nat} (h : Frm w L R w1) (p q r : Value) : Frm w L R (((w1.setCell ⟨R, 0, none⟩ p).setCell ⟨R, 1, none⟩ q).setCell ⟨R, 2, none⟩ r) := by
 obtain ⟨h1, h2, h3, ⟨u, v, t, e0, e1, e2⟩, h5⟩ := h
 have s := set3 (u := p) (v := q) (t := r) e0 e1 e2
 exact ⟨below_set3 h1 h3, fun b l hm => ⟨(((h2 b l hm).1.far (Ne.symm (h2 b l hm).2)).far (Ne.symm (h2 b l hm).2)).far (Ne.symm (h2 b l hm).2), (h2 b l hm).2⟩, h3, ⟨p, q, r, s⟩, ((h5.setC).setC).setC⟩
theorem TV.call {w1 w2 : World} {R : Nat} {c : C3} (hb : Below w1.heap.size w1 w2) (h : TV R c w1) : TV R c w2 := by
 obtain ⟨x, y, z, ⟨e0, e1, e2⟩, f⟩ := h
 exact ⟨x, y, z, ⟨cell_below hb e0, cell_below hb e1, cell_below hb e2⟩, f⟩
theorem TV.put {w w1 : World} {L : List (Nat × List Value)} {R p q r : Nat} {c : C3} (h : Frm w L R w1) (f : F3 p q r c) : TV R c (((w1.setCell ⟨R, 0, none⟩ (.float .f32 p)).setCell ⟨R, 1, none⟩ (.float .f32 q)).setCell ⟨R, 2, none⟩ (.float .f32 r)) := by
 obtain ⟨u, v, t, e0, e1, e2⟩ := h.2.2.2.1
 exact ⟨p, q, r, set3 e0 e1 e2, f⟩
theorem Frm.cells {w w' : World} {L : List (Nat × List Value)} {R : Nat} (h : Frm w L R w') : ∃ u v t, w'.cell? ⟨R, 0, none⟩ = some u ∧ w'.cell? ⟨R, 1, none⟩ = some v ∧ w'.cell? ⟨R, 2, none⟩ = some t := h.2.2.2.1
theorem Frm.free {w w' : World} {L : List (Nat × List Value)} {R : Nat} (h : Frm w L R w') (i : Nat) : w'.frozen? ⟨R, i, none⟩ = false := h.2.2.2.2 i
end Go.Proofs.YtabccmobmppdnaaGreat
namespace Go.Proofs.YtabccmobmppdnaaGreat
open Go Fk Go.RowKit
set_option linter.unusedVariables false
set_option maxRecDepth 16000
theorem negF32 {x : Nat} (hx : x < 4294967296) : Op.negFloat .f32 x < 4294967296 ∧ Op.negFloat .f32 x % 2147483648 = x % 2147483648 := by
 have h := neg_lt hx
 refine ⟨h, ?_⟩
 unfold Op.negFloat
 show (x ^^^ 2147483648) % 2147483648 = x % 2147483648
 have e : (x ^^^ 2 ^ 31) % 2 ^ 31 = x % 2 ^ 31 := by
  apply Nat.eq_of_testBit_eq
  intro i
  rw [Nat.testBit_mod_two_pow, Nat.testBit_mod_two_pow, Nat.testBit_xor, Nat.testBit_two_pow]
  by_cases hi : i < 31
  ·have : ¬ 31 = i := by omega
   simp [hi, this]
  ·simp [hi]
 exact e
theorem FV_neg32 {x : Nat} {c : Option Nat} (h : FV .f32 x c) : FV .f32 (Op.negFloat .f32 x) (c.map (Op.negFloat .f32)) := by
 obtain ⟨h1, h2⟩ := negF32 h.1
 refine ⟨h1, ?_⟩
 cases hn : nan32 x
 ·have e : c = some x := by rw [← h.2]; exact cls_num hn
  rw [e]
  refine cls_num ?_
  have : nan32 (Op.negFloat .f32 x) = false := by
   rw [nan32_iff] at hn ⊢
   rw [h2]; exact hn
  exact this
 ·have e : c = none := by rw [← h.2]; exact cls_nan hn
  rw [e]
  refine cls_nan ?_
  have : nan32 (Op.negFloat .f32 x) = true := by
   rw [nan32_iff] at hn ⊢
   rw [h2]; exact hn
  exact this
def negC32 (c : Option Nat) : Option Nat := c.map (Op.negFloat .f32)
def innerC (a b : C3) : Option Nat := fop .add .f32 (fop .add .f32 (fop .mul .f32 a.1 b.1) (fop .mul .f32 a.2.1 b.2.1)) (fop .mul .f32 a.2.2 b.2.2)
def plusC (a b : C3) : C3 := (fop .add .f32 a.1 b.1, fop .add .f32 a.2.1 b.2.1, fop .add .f32 a.2.2 b.2.2)
def placeC (cs : List C3) (z : Int) : C3 := cs.getD z.toNat c0
inductive En where
 | sp (s : SC)
 | fi (t : List Int) (f : Option Nat)
 | hi (h : List Int) (b : Option Nat)
 | we (p : Int) (w : Option Nat) (f : C3)
def lateC (cs : List C3) (s : SC) : Option Nat := fop .sub .f32 (longC (wayC cs s.1 s.2.1)) s.2.2.1
def foldC (cs : List C3) (h : List Int) : C3 := lessC (plusC (placeC cs (h.getD 2 0)) (placeC cs (h.getD 3 0))) (plusC (placeC cs (h.getD 0 0)) (placeC cs (h.getD 1 0)))
def En.E (cs : List C3) : En → Option Nat
 | .sp s => fop .mul .f32 (fop .mul .f32 halfC s.2.2.2) (fop .mul .f32 (lateC cs s) (lateC cs s))
 | .fi t f => fop .mul .f32 f (areaC cs t)
 | .hi h b => fop .mul .f32 (fop .mul .f32 halfC b) (innerC (foldC cs h) (foldC cs h))
 | .we p w f => negC32 (fop .mul .f32 w (innerC f (placeC cs p)))
def En.ok (n : Nat) : En → Prop
 | .sp s => inB n s.1 = true ∧ inB n s.2.1 = true
 | .fi t _ => triB n t = true
 | .hi h _ => ∀ i, i < 4 → inB n (h.getD i 0) = true
 | .we p _ _ => inB n p = true
def En.Is : En → Value → Prop
 | .sp s, v => ∃ x y, v = .iface 166 (sv s.1 s.2.1 x y) ∧ FV .f32 x s.2.2.1 ∧ FV .f32 y s.2.2.2
 | .fi t f, v => ∃ x, v = .iface 192 (.agg #[.int .i64 (t.getD 0 0), .int .i64 (t.getD 1 0), .int .i64 (t.getD 2 0), .float .f32 x]) ∧ FV .f32 x f
 | .hi h b, v => ∃ x, v = .iface 198 (.agg #[.int .i64 (h.getD 0 0), .int .i64 (h.getD 1 0), .int .i64 (h.getD 2 0), .int .i64 (h.getD 3 0), .float .f32 x]) ∧ FV .f32 x b
 | .we p w f, v => ∃ x a b c, v = .iface 200 (.agg #[.int .i64 p, .float .f32 x, .float .f32 a, .float .f32 b, .float .f32 c]) ∧ FV .f32 x w ∧ FV3 a b c f
set_option maxHeartbeats 2000000 in
theorem hinge_fold (m0 m1 m2 m3 : Nat) (pa : Option Addr) (pl pc : Nat) (cs : List C3) (w : World) (h : IsVs w pa pl pc cs) (ha : m0 < pl) (hb : m1 < pl) (hc : m2 < pl) (hd : m3 < pl) :
  Calls Tryz.prog 259 #[.agg #[.int .i64 (m0 : Int), .int .i64 (m1 : Int), .int .i64 (m2 : Int), .int .i64 (m3 : Int)], .slice pa pl pc] w fun e w' => ∃ x y z, e = .returned (vv x y z) ∧ F3 x y z (lessC (plusC (cs.getD m2 c0) (cs.getD m3 c0)) (plusC (cs.getD m0 c0) (cs.getD m1 c0))) ∧ Below w.heap.size w w' := by
 have u := Tryz.underlying27
 have uh := Tryz.underlying196
 have uv := Tryz.underlying42
 have hm : pl ≤ 9223372036854775807 := by have h1 := h.2.1; have h2 := h.2.2.1; unfold maxLen at h2; omega
 obtain ⟨pb, po, rfl, hcell⟩ := h.some (by omega)
 obtain ⟨p0, q0, r0, i00, i01, i02, f0⟩ := hcell m0 ha
 obtain ⟨p1, q1, r1, i10, i11, i12, f1⟩ := hcell m1 hb
 obtain ⟨p2, q2, r2, i20, i21, i22, f2⟩ := hcell m2 hc
 obtain ⟨p3, q3, r3, i30, i31, i32, f3⟩ := hcell m3 hd
 have D0 := Lib.hid (And.intro i00 (And.intro i01 i02))
 have D1 := Lib.hid (And.intro i10 (And.intro i11 i12))
 have D2 := Lib.hid (And.intro i20 (And.intro i21 i22))
 have D3 := Lib.hid (And.intro i30 (And.intro i31 i32))
 have F0 := Lib.hid f0
 have F1 := Lib.hid f1
 have F2 := Lib.hid f2
 have F3' := Lib.hid f3
 have a0 : (0 : Int) ≤ (m0 : Int) := by omega
 have a1 : (m0 : Int) < (pl : Int) := by omega
 have b0 : (0 : Int) ≤ (m1 : Int) := by omega
 have b1 : (m1 : Int) < (pl : Int) := by omega
 have c0' : (0 : Int) ≤ (m2 : Int) := by omega
 have c1 : (m2 : Int) < (pl : Int) := by omega
 have d0 : (0 : Int) ≤ (m3 : Int) := by omega
 have d1 : (m3 : Int) < (pl : Int) := by omega
 have FR : Hid (Frm w [(w.heap.size, [.int .i64 (m0 : Int), .int .i64 (m1 : Int), .int .i64 (m2 : Int), .int .i64 (m3 : Int)])] (w.heap.size + 1) ((w.alloc (.cells #[.int .i64 (m0 : Int), .int .i64 (m1 : Int), .int .i64 (m2 : Int), .int .i64 (m3 : Int)] 196)).alloc (.cells #[.float .f32 0, .float .f32 0, .float .f32 0] 42))) := Lib.hid (by
  refine ⟨((Below.refl _ _).alloc (Nat.le_refl _) _).alloc (by simp) _, ?_, by omega, ⟨.float .f32 0, .float .f32 0, .float .f32 0, by go_simp, by go_simp, by go_simp⟩, fun i => by go_simp⟩
  intro b' l hm
  rcases List.mem_cons.1 hm with e | hm
  ·cases e
   exact ⟨At.new.alloc, by omega⟩
  ·cases hm)
 clear h hcell i00 i01 i02 i10 i11 i12 i20 i21 i22 i30 i31 i32 f0 f1 f2 f3
 go_enter Tryz.func259, Tryz.ntmps259
 go_wp2_with fail
 generalize ((w.alloc (.cells #[.int .i64 (m0 : Int), .int .i64 (m1 : Int), .int .i64 (m2 : Int), .int .i64 (m3 : Int)] 196)).alloc (.cells #[.float .f32 0, .float .f32 0, .float .f32 0] 42)) = W at *
 refine Reg2.wp_region_mix (C := Frm w [(w.heap.size, [.int .i64 (m0 : Int), .int .i64 (m1 : Int), .int .i64 (m2 : Int), .int .i64 (m3 : Int)])] (w.heap.size + 1)) (G := fun w1 w2 => TV (w.heap.size + 1) (lessC (plusC (cs.getD m2 c0) (cs.getD m3 c0)) (plusC (cs.getD m0 c0) (cs.getD m1 c0))) w1 → TV (w.heap.size + 1) (lessC (plusC (cs.getD m2 c0) (cs.getD m3 c0)) (plusC (cs.getD m0 c0) (cs.getD m1 c0))) w2) (R := fun i v w' => match i with | 0 => v = .slice (some ⟨pb, po, none⟩) pl pc | 1 => v = .pointer (some ⟨w.heap.size, 2, none⟩) | 2 => v = .int .i64 (m2 : Int) | 3 => v = .pointer (some ⟨pb, po + m2 * 3, none⟩) | 4 => v = vv p2 q2 r2 | 5 => v = .slice (some ⟨pb, po, none⟩) pl pc | 6 => v = .pointer (some ⟨w.heap.size, 3, none⟩) | 7 => v = .int .i64 (m3 : Int) | 8 => v = .pointer (some ⟨pb, po + m3 * 3, none⟩) | 9 => v = vv p3 q3 r3 | 10 => ∃ p q r, v = vv p q r ∧ F3 p q r (plusC (cs.getD m2 c0) (cs.getD m3 c0)) | 11 => v = .slice (some ⟨pb, po, none⟩) pl pc | 12 => v = .pointer (some ⟨w.heap.size, 0, none⟩) | 13 => v = .int .i64 (m0 : Int) | 14 => v = .pointer (some ⟨pb, po + m0 * 3, none⟩) | 15 => v = vv p0 q0 r0 | 16 => v = .slice (some ⟨pb, po, none⟩) pl pc | 17 => v = .pointer (some ⟨w.heap.size, 1, none⟩) | 18 => v = .int .i64 (m1 : Int) | 19 => v = .pointer (some ⟨pb, po + m1 * 3, none⟩) | 20 => v = vv p1 q1 r1 | 21 => ∃ p q r, v = vv p q r ∧ F3 p q r (plusC (cs.getD m0 c0) (cs.getD m1 c0)) | 22 => ∃ p q r, v = vv p q r ∧ F3 p q r (lessC (plusC (cs.getD m2 c0) (cs.getD m3 c0)) (plusC (cs.getD m0 c0) (cs.getD m1 c0))) | _ => True) (T := fun _ w' => TV (w.heap.size + 1) (lessC (plusC (cs.getD m2 c0) (cs.getD m3 c0)) (plusC (cs.getD m0 c0) (cs.getD m1 c0))) w') [false, false, false, false, false, true, true, true, true, true, true, true, true, true, true, true, true, true, true, true, true, true, true, true, true, true, true, true]
  (by kernel_rfl) (by kernel_rfl) (by kernel_rfl) (fun _ _ _ _ _ _ h => h) (fun _ _ _ _ hG hT => hG hT) (Frm.drewN FR.out 1) ?_ ?_
 ·refine ⟨Reg2.Obl.mk ?_, Reg2.Obl.mk ?_, Reg2.Obl.mk ?_, Reg2.Obl.mk ?_, Reg2.Obl.mk ?_, Reg2.Obl.mk ?_, Reg2.Obl.mk ?_, Reg2.Obl.mk ?_, Reg2.Obl.mk ?_, Reg2.Obl.mk ?_, Reg2.Obl.mk ?_, Reg2.Obl.mk ?_, Reg2.Obl.mk ?_, Reg2.Obl.mk ?_, Reg2.Obl.mk ?_, Reg2.Obl.mk ?_, Reg2.Obl.mk ?_, Reg2.Obl.mk ?_, Reg2.Obl.mk ?_, Reg2.Obl.mk ?_, Reg2.Obl.mk ?_, Reg2.Obl.mk ?_, Reg2.Obl.mk ?_, Reg2.Obl.mk ?_, trivial⟩
  ·rintro a w1 HC hx hd K hK
   replace HC := Lib.hid HC
   have t1 : a.tmps[1]?.getD undef = .slice (some ⟨pb, po, none⟩) pl pc := Reg.slot_val (hx 1 (by kernel_rfl))
   go_simp
   exact hK _ _ (fun _ => rfl) (fun h => by cases h) HC.out (fun h => h)
  ·rintro a w1 HC hx hd K hK
   replace HC := Lib.hid HC
   have t2 : a.tmps[2]?.getD undef = .pointer (some ⟨w.heap.size, 0, none⟩) := Reg.slot_val (hx 2 (by kernel_rfl))
   go_simp
   exact hK _ _ (fun _ => rfl) (fun h => by cases h) HC.out (fun h => h)
  ·rintro a w1 HC hx hd K hK
   replace HC := Lib.hid HC
   have z2 := (HC.out.mem (.head _)) 2 _ rfl
   have t6 : a.tmps[6]?.getD undef = .pointer (some ⟨w.heap.size, 2, none⟩) := Reg.slot_val (hd 1 (by kernel_rfl) 6 rfl)
   go_simp
   exact hK _ _ (fun _ => rfl) (fun h => by cases h) HC.out (fun h => h)
  ·rintro a w1 HC hx hd K hK
   replace HC := Lib.hid HC
   have t5 : a.tmps[5]?.getD undef = .slice (some ⟨pb, po, none⟩) pl pc := Reg.slot_val (hd 0 (by kernel_rfl) 5 rfl)
   have t7 : a.tmps[7]?.getD undef = .int .i64 (m2 : Int) := Reg.slot_val (hd 2 (by kernel_rfl) 7 rfl)
   go_simp
   exact hK _ _ (fun _ => rfl) (fun h => by cases h) HC.out (fun h => h)
  ·rintro a w1 HC hx hd K hK
   replace HC := Lib.hid HC
   have y0 := cell_below HC.out.bel D2.out.1
   have y1 := cell_below HC.out.bel D2.out.2.1
   have y2 := cell_below HC.out.bel D2.out.2.2
   have t8 : a.tmps[8]?.getD undef = .pointer (some ⟨pb, po + m2 * 3, none⟩) := Reg.slot_val (hd 3 (by kernel_rfl) 8 rfl)
   go_simp
   exact hK _ _ (fun _ => rfl) (fun h => by cases h) HC.out (fun h => h)
  ·rintro a w1 HC hx hd K hK
   replace HC := Lib.hid HC
   have t1 : a.tmps[1]?.getD undef = .slice (some ⟨pb, po, none⟩) pl pc := Reg.slot_val (hx 1 (by kernel_rfl))
   go_simp
   exact hK _ _ (fun _ => rfl) (fun h => by cases h) HC.out (fun h => h)
  ·rintro a w1 HC hx hd K hK
   replace HC := Lib.hid HC
   have t2 : a.tmps[2]?.getD undef = .pointer (some ⟨w.heap.size, 0, none⟩) := Reg.slot_val (hx 2 (by kernel_rfl))
   go_simp
   exact hK _ _ (fun _ => rfl) (fun h => by cases h) HC.out (fun h => h)
  ·rintro a w1 HC hx hd K hK
   replace HC := Lib.hid HC
   have z3 := (HC.out.mem (.head _)) 3 _ rfl
   have t11 : a.tmps[11]?.getD undef = .pointer (some ⟨w.heap.size, 3, none⟩) := Reg.slot_val (hd 6 (by kernel_rfl) 11 rfl)
   go_simp
   exact hK _ _ (fun _ => rfl) (fun h => by cases h) HC.out (fun h => h)
  ·rintro a w1 HC hx hd K hK
   replace HC := Lib.hid HC
   have t10 : a.tmps[10]?.getD undef = .slice (some ⟨pb, po, none⟩) pl pc := Reg.slot_val (hd 5 (by kernel_rfl) 10 rfl)
   have t12 : a.tmps[12]?.getD undef = .int .i64 (m3 : Int) := Reg.slot_val (hd 7 (by kernel_rfl) 12 rfl)
   go_simp
   exact hK _ _ (fun _ => rfl) (fun h => by cases h) HC.out (fun h => h)
  ·rintro a w1 HC hx hd K hK
   replace HC := Lib.hid HC
   have y0 := cell_below HC.out.bel D3.out.1
   have y1 := cell_below HC.out.bel D3.out.2.1
   have y2 := cell_below HC.out.bel D3.out.2.2
   have t13 : a.tmps[13]?.getD undef = .pointer (some ⟨pb, po + m3 * 3, none⟩) := Reg.slot_val (hd 8 (by kernel_rfl) 13 rfl)
   go_simp
   exact hK _ _ (fun _ => rfl) (fun h => by cases h) HC.out (fun h => h)
  ·rintro a w1 HC hx hd K hK
   replace HC := Lib.hid HC
   have t9 : a.tmps[9]?.getD undef = vv p2 q2 r2 := Reg.slot_val (hd 4 (by kernel_rfl) 9 rfl)
   have t14 : a.tmps[14]?.getD undef = vv p3 q3 r3 := Reg.slot_val (hd 9 (by kernel_rfl) 14 rfl)
   go_simp
   refine (impl_AddVectors _ _ _ _ _ _ _ _ _ _ _ _ _ F2.out.1 F2.out.2.1 F2.out.2.2 F3'.out.1 F3'.out.2.1 F3'.out.2.2).mono ?_
   rintro en w2 ⟨p', q', r', rfl, fp', fq', fr', hB2⟩
   exact hK _ _ (fun _ => ⟨p', q', r', rfl, fp', fq', fr'⟩) (fun h => by cases h) (HC.out.call hB2) (TV.call hB2)
  ·rintro a w1 HC hx hd K hK
   replace HC := Lib.hid HC
   have t1 : a.tmps[1]?.getD undef = .slice (some ⟨pb, po, none⟩) pl pc := Reg.slot_val (hx 1 (by kernel_rfl))
   go_simp
   exact hK _ _ (fun _ => rfl) (fun h => by cases h) HC.out (fun h => h)
  ·rintro a w1 HC hx hd K hK
   replace HC := Lib.hid HC
   have t2 : a.tmps[2]?.getD undef = .pointer (some ⟨w.heap.size, 0, none⟩) := Reg.slot_val (hx 2 (by kernel_rfl))
   go_simp
   exact hK _ _ (fun _ => rfl) (fun h => by cases h) HC.out (fun h => h)
  ·rintro a w1 HC hx hd K hK
   replace HC := Lib.hid HC
   have z0 := (HC.out.mem (.head _)) 0 _ rfl
   have t17 : a.tmps[17]?.getD undef = .pointer (some ⟨w.heap.size, 0, none⟩) := Reg.slot_val (hd 12 (by kernel_rfl) 17 rfl)
   go_simp
   exact hK _ _ (fun _ => rfl) (fun h => by cases h) HC.out (fun h => h)
  ·rintro a w1 HC hx hd K hK
   replace HC := Lib.hid HC
   have t16 : a.tmps[16]?.getD undef = .slice (some ⟨pb, po, none⟩) pl pc := Reg.slot_val (hd 11 (by kernel_rfl) 16 rfl)
   have t18 : a.tmps[18]?.getD undef = .int .i64 (m0 : Int) := Reg.slot_val (hd 13 (by kernel_rfl) 18 rfl)
   go_simp
   exact hK _ _ (fun _ => rfl) (fun h => by cases h) HC.out (fun h => h)
  ·rintro a w1 HC hx hd K hK
   replace HC := Lib.hid HC
   have y0 := cell_below HC.out.bel D0.out.1
   have y1 := cell_below HC.out.bel D0.out.2.1
   have y2 := cell_below HC.out.bel D0.out.2.2
   have t19 : a.tmps[19]?.getD undef = .pointer (some ⟨pb, po + m0 * 3, none⟩) := Reg.slot_val (hd 14 (by kernel_rfl) 19 rfl)
   go_simp
   exact hK _ _ (fun _ => rfl) (fun h => by cases h) HC.out (fun h => h)
  ·rintro a w1 HC hx hd K hK
   replace HC := Lib.hid HC
   have t1 : a.tmps[1]?.getD undef = .slice (some ⟨pb, po, none⟩) pl pc := Reg.slot_val (hx 1 (by kernel_rfl))
   go_simp
   exact hK _ _ (fun _ => rfl) (fun h => by cases h) HC.out (fun h => h)
  ·rintro a w1 HC hx hd K hK
   replace HC := Lib.hid HC
   have t2 : a.tmps[2]?.getD undef = .pointer (some ⟨w.heap.size, 0, none⟩) := Reg.slot_val (hx 2 (by kernel_rfl))
   go_simp
   exact hK _ _ (fun _ => rfl) (fun h => by cases h) HC.out (fun h => h)
  ·rintro a w1 HC hx hd K hK
   replace HC := Lib.hid HC
   have z1 := (HC.out.mem (.head _)) 1 _ rfl
   have t22 : a.tmps[22]?.getD undef = .pointer (some ⟨w.heap.size, 1, none⟩) := Reg.slot_val (hd 17 (by kernel_rfl) 22 rfl)
   go_simp
   exact hK _ _ (fun _ => rfl) (fun h => by cases h) HC.out (fun h => h)
  ·rintro a w1 HC hx hd K hK
   replace HC := Lib.hid HC
   have t21 : a.tmps[21]?.getD undef = .slice (some ⟨pb, po, none⟩) pl pc := Reg.slot_val (hd 16 (by kernel_rfl) 21 rfl)
   have t23 : a.tmps[23]?.getD undef = .int .i64 (m1 : Int) := Reg.slot_val (hd 18 (by kernel_rfl) 23 rfl)
   go_simp
   exact hK _ _ (fun _ => rfl) (fun h => by cases h) HC.out (fun h => h)
  ·rintro a w1 HC hx hd K hK
   replace HC := Lib.hid HC
   have y0 := cell_below HC.out.bel D1.out.1
   have y1 := cell_below HC.out.bel D1.out.2.1
   have y2 := cell_below HC.out.bel D1.out.2.2
   have t24 : a.tmps[24]?.getD undef = .pointer (some ⟨pb, po + m1 * 3, none⟩) := Reg.slot_val (hd 19 (by kernel_rfl) 24 rfl)
   go_simp
   exact hK _ _ (fun _ => rfl) (fun h => by cases h) HC.out (fun h => h)
  ·rintro a w1 HC hx hd K hK
   replace HC := Lib.hid HC
   have t20 : a.tmps[20]?.getD undef = vv p0 q0 r0 := Reg.slot_val (hd 15 (by kernel_rfl) 20 rfl)
   have t25 : a.tmps[25]?.getD undef = vv p1 q1 r1 := Reg.slot_val (hd 20 (by kernel_rfl) 25 rfl)
   go_simp
   refine (impl_AddVectors _ _ _ _ _ _ _ _ _ _ _ _ _ F0.out.1 F0.out.2.1 F0.out.2.2 F1.out.1 F1.out.2.1 F1.out.2.2).mono ?_
   rintro en w2 ⟨p', q', r', rfl, fp', fq', fr', hB2⟩
   exact hK _ _ (fun _ => ⟨p', q', r', rfl, fp', fq', fr'⟩) (fun h => by cases h) (HC.out.call hB2) (TV.call hB2)
  ·rintro a w1 HC hx hd K hK
   replace HC := Lib.hid HC
   obtain ⟨p15, q15, r15, g15, f15⟩ := hd 10 (by kernel_rfl) 15 rfl
   have t15 := Reg.slot_val g15
   clear g15
   obtain ⟨p26, q26, r26, g26, f26⟩ := hd 21 (by kernel_rfl) 26 rfl
   have t26 := Reg.slot_val g26
   clear g26
   go_simp
   refine (impl_LessVectors _ _ _ _ _ _ _ _ _ _ _ _ _ f15.1 f15.2.1 f15.2.2 f26.1 f26.2.1 f26.2.2).mono ?_
   rintro en w2 ⟨p', q', r', rfl, fp', fq', fr', hB2⟩
   exact hK _ _ (fun _ => ⟨p', q', r', rfl, fp', fq', fr'⟩) (fun h => by cases h) (HC.out.call hB2) (TV.call hB2)
  ·rintro a w1 HC hx hd K hK
   replace HC := Lib.hid HC
   have t4 : a.tmps[4]?.getD undef = .pointer (some ⟨w.heap.size + 1, 0, none⟩) := Reg.slot_val (hx 4 (by kernel_rfl))
   obtain ⟨p27, q27, r27, g27, f27⟩ := hd 22 (by kernel_rfl) 27 rfl
   have t27 := Reg.slot_val g27
   clear g27
   obtain ⟨u0, u1, u2, x0, x1, x2⟩ := HC.out.cells
   have k0 := HC.out.free 0
   have k1 := HC.out.free 1
   have k2 := HC.out.free 2
   go_simp
   exact hK undef _ (fun h => absurd rfl h) (fun _ => TV.put HC.out f27) (HC.out.put _ _ _) (fun _ => TV.put HC.out f27)
 rintro f w1 hC hd' hT
 obtain ⟨x, y, z, ⟨x0, x1, x2⟩, hf⟩ := hT 23 rfl (by decide)
 simp only [Reg.mixL]
 have HC := Lib.hid hC
 clear hC hd' hT
 go_wp2
 refine bodyPost_ret (v := vv x y z) (by simp [results, Tryz.results259, go_sem, x0, x1, x2]) rfl ⟨x, y, z, rfl, hf, HC.out.bel⟩
end Go.Proofs.YtabccmobmppdnaaGreat
namespace Go.Proofs.YtabccmobmppdnaaGreat
open Go Fk Go.RowKit
set_option linter.unusedVariables false
set_option maxRecDepth 8000
structure Mark (lo hi : Nat) (w w' : World) : Prop where
 below : Below lo w w'
 above : ∀ k, hi ≤ k → k < w.heap.size → w'.heap[k]? = w.heap[k]?
 alive : ∀ n i, (∃ v, w.cell? ⟨n, i, none⟩ = some v) → ∃ v, w'.cell? ⟨n, i, none⟩ = some v
 frozen : ∀ n i, n < w.heap.size → w'.frozen? ⟨n, i, none⟩ = w.frozen? ⟨n, i, none⟩
theorem Mark.refl (lo hi : Nat) (w : World) : Mark lo hi w w := ⟨Below.refl _ _, fun _ _ _ => rfl, fun _ _ h => h, fun _ _ _ => rfl⟩
theorem Mark.trans {lo hi : Nat} {a b c : World} (h : Mark lo hi a b) (k : Mark lo hi b c) : Mark lo hi a c :=
 ⟨h.below.trans k.below, fun j h1 h2 => (k.above j h1 (Nat.lt_of_lt_of_le h2 h.below.size)).trans (h.above j h1 h2), fun n i e => k.alive n i (h.alive n i e), fun n i e => (k.frozen n i (Nat.lt_of_lt_of_le e h.below.size)).trans (h.frozen n i e)⟩
theorem Mark.set {lo hi : Nat} {w : World} {b o : Nat} {u : Value} (h1 : lo ≤ b) (h2 : b < hi) : Mark lo hi w (w.setCell ⟨b, o, none⟩ u) := by
 refine ⟨(Below.refl _ _).setCell h1 _, fun k hk _ => Below.heap_setCell _ _ _ _ (by simp; omega), fun n i ⟨v, hv⟩ => ?_, fun n i _ => by simp⟩
 by_cases h : (⟨b, o, none⟩ : Addr) = ⟨n, i, none⟩
 ·rw [← h] at hv ⊢; exact ⟨_, World.cell?_setCell_same w _ u hv⟩
 ·exact ⟨v, by rw [World.cell?_setCell_other _ _ _ _ h]; exact hv⟩
theorem Mark.alloc {lo hi : Nat} {w : World} (h : lo ≤ w.heap.size) (o : Obj) : Mark lo hi w (w.alloc o) := by
 refine ⟨(Below.refl _ _).alloc h _, fun k _ hk => Below.heap_alloc _ _ _ hk, fun n i ⟨v, hv⟩ => ⟨v, ?_⟩, fun n i hn => ?_⟩
 ·rw [World.cell?_alloc_lt (h := World.block_lt_of_cell? _ _ hv)]; exact hv
 ·exact World.frozen?_of_block (Below.heap_alloc _ _ _ hn)
theorem Mark.cell {lo hi : Nat} {w w' : World} (h : Mark lo hi w w') {b i : Nat} {v : Value} (hb : b < lo ∨ hi ≤ b) (hv : w.cell? ⟨b, i, none⟩ = some v) : w'.cell? ⟨b, i, none⟩ = some v := by
 rcases hb with hb | hb
 ·rw [h.below.cell (p := ⟨b, i, none⟩) hb]; exact hv
 ·rw [World.cell?_of_block (w := w) (h.above b hb (World.block_lt_of_cell? _ _ hv))]; exact hv
def Own (lo hi : Nat) (w : World) (b o n : Nat) : Prop := lo ≤ b ∧ b < hi ∧ b < w.heap.size ∧ ∀ j, j < n → (∃ v, w.cell? ⟨b, o + j, none⟩ = some v) ∧ w.frozen? ⟨b, o + j, none⟩ = false
theorem Own.mark {lo hi lo' hi' : Nat} {w w' : World} {b o n : Nat} (h : Own lo hi w b o n) (k : Mark lo' hi' w w') : Own lo hi w' b o n :=
 ⟨h.1, h.2.1, Nat.lt_of_lt_of_le h.2.2.1 k.below.size, fun j hj => ⟨k.alive _ _ (h.2.2.2 j hj).1, by rw [k.frozen _ _ h.2.2.1]; exact (h.2.2.2 j hj).2⟩⟩
set_option maxHeartbeats 400000 in
theorem laws_markInt64S (lo hi b o len cap : Nat) (k0 : Nat) (w : World) (h : Own lo hi w b o len) (hk : k0 + len ≤ 9000000000000000000) :
  Calls Tryz.prog 26 #[.slice (some ⟨b, o, none⟩) len cap, .int .i64 k0] w fun e w' => e = .returned (.int .i64 ((k0 + len : Nat) : Int)) ∧ (∀ j, j < len → w'.cell? ⟨b, o + j, none⟩ = some (.int .i64 ((k0 + j : Nat) : Int))) ∧ (∀ n i, (n ≠ b ∨ i < o ∨ o + len ≤ i) → w'.cell? ⟨n, i, none⟩ = w.cell? ⟨n, i, none⟩) ∧ Mark lo hi w w' := by
 obtain ⟨h1, h2, h3, h4⟩ := h
 have H4 := Lib.hid h4
 have H1 := Lib.hid h1
 have H2 := Lib.hid h2
 have H3 := Lib.hid h3
 clear h1 h2 h3 h4
 go_enter Tryz.func26, Tryz.ntmps26
 go_wp2
 go_loopw [1, 5] (fun q i w' => ∃ k : Nat, k ≤ len ∧ i = .int .i64 k ∧ q = .int .i64 ((k0 + k : Nat) : Int) ∧ Aside ((∀ j, j < k → w'.cell? ⟨b, o + j, none⟩ = some (.int .i64 ((k0 + j : Nat) : Int))) ∧ (∀ n i, (n ≠ b ∨ i < o ∨ o + len ≤ i) → w'.cell? ⟨n, i, none⟩ = w.cell? ⟨n, i, none⟩) ∧ Mark lo hi w w')) (fun _ i _ => len - (intOf i).toNat)
 case atStart => exact ⟨0, Nat.zero_le _, rfl, rfl, fun j hj => absurd hj (by omega), fun _ _ _ => rfl, Mark.refl _ _ _⟩
 case round =>
  obtain ⟨k, hkl, rfl, rfl, hA⟩ := hrel
  by_cases hlt : k < len
  ·obtain ⟨hdone, hother, hM⟩ := hA.out
   obtain ⟨v, hv⟩ := hM.alive _ _ (H4.out k hlt).1
   have hf : wr.frozen? ⟨b, o + k, none⟩ = false := by rw [hM.frozen _ _ H3.out]; exact (H4.out k hlt).2
   have HD := Lib.hid hdone
   have HO := Lib.hid hother
   have HM := Lib.hid hM
   have hk0 : (0 : Int) ≤ (k : Int) := by omega
   have hk1 : (k : Int) < (len : Int) := by omega
   clear hA hdone hother hM
   go_wp2
   go_roundw
   case rel =>
    refine ⟨k + 1, by omega, by go_num, by go_num, fun j hj => ?_, fun n i hn => ?_, HM.out.trans (Mark.set H1.out H2.out)⟩
    ·by_cases hjk : j = k
     ·subst hjk; exact World.cell?_setCell_same _ _ _ hv
     ·rw [World.cell?_setCell_other _ _ _ _ (by simp <;> omega)]; exact HD.out j (by omega)
    ·rw [World.cell?_setCell_other _ _ _ _ (by simp <;> omega)]; exact HO.out n i hn
   case measure => simp [intOf]; omega
  ·obtain rfl : k = len := by omega
   obtain ⟨hdone, hother, hM⟩ := hA.out
   have HD := Lib.hid hdone
   have HO := Lib.hid hother
   have HM := Lib.hid hM
   clear hA hdone hother hM
   go_wp2
   go_ret
   exact ⟨rfl, HD.out, HO.out, HM.out⟩
end Go.Proofs.YtabccmobmppdnaaGreat
namespace Go.Proofs.YtabccmobmppdnaaGreat
open Go Fk Go.RowKit
set_option linter.unusedVariables false
set_option maxRecDepth 8000
set_option maxHeartbeats 400000 in
theorem laws_markVectorS (lo hi b o len cap : Nat) (k0 : Nat) (w : World) (h : Own lo hi w b o (len * 3)) (hk : k0 + len * 3 ≤ 9000000000000000000) :
  Calls Tryz.prog 27 #[.slice (some ⟨b, o, none⟩) len cap, .int .i64 k0] w fun e w' => e = .returned (.int .i64 ((k0 + len * 3 : Nat) : Int)) ∧ (∀ j, j < len * 3 → w'.cell? ⟨b, o + j, none⟩ = some (.float .f32 (floatOfInt .f32 ((k0 + j : Nat) : Int)))) ∧ (∀ n i, (n ≠ b ∨ i < o ∨ o + len * 3 ≤ i) → w'.cell? ⟨n, i, none⟩ = w.cell? ⟨n, i, none⟩) ∧ Mark lo hi w w' := by
 have u := Tryz.underlying27
 have uv := Tryz.underlying42
 obtain ⟨h1, h2, h3, h4⟩ := h
 have H4 := Lib.hid h4
 have H1 := Lib.hid h1
 have H2 := Lib.hid h2
 have H3 := Lib.hid h3
 clear h1 h2 h3 h4
 go_enter Tryz.func27, Tryz.ntmps27
 go_wp2
 go_loopw [1, 5] (fun q i w' => ∃ k : Nat, k ≤ len ∧ i = .int .i64 k ∧ q = .int .i64 ((k0 + k * 3 : Nat) : Int) ∧ Aside ((∀ j, j < k * 3 → w'.cell? ⟨b, o + j, none⟩ = some (.float .f32 (floatOfInt .f32 ((k0 + j : Nat) : Int)))) ∧ (∀ n i, (n ≠ b ∨ i < o ∨ o + len * 3 ≤ i) → w'.cell? ⟨n, i, none⟩ = w.cell? ⟨n, i, none⟩) ∧ Mark lo hi w w')) (fun _ i _ => len - (intOf i).toNat)
 case atStart => exact ⟨0, Nat.zero_le _, rfl, rfl, fun j hj => absurd hj (by omega), fun _ _ _ => rfl, Mark.refl _ _ _⟩
 case round =>
  obtain ⟨k, hkl, rfl, rfl, hA⟩ := hrel
  by_cases hlt : k < len
  ·obtain ⟨hdone, hother, hM⟩ := hA.out
   obtain ⟨v0, hv0⟩ := hM.alive _ _ (H4.out (k * 3) (by omega)).1
   obtain ⟨v1, hv1⟩ := hM.alive _ _ (H4.out (k * 3 + 1) (by omega)).1
   obtain ⟨v2, hv2⟩ := hM.alive _ _ (H4.out (k * 3 + 2) (by omega)).1
   have hf0 : wr.frozen? ⟨b, o + k * 3, none⟩ = false := by rw [hM.frozen _ _ H3.out]; exact (H4.out (k * 3) (by omega)).2
   have hf1 : wr.frozen? ⟨b, o + k * 3 + 1, none⟩ = false := by rw [hM.frozen _ _ H3.out]; exact (H4.out (k * 3 + 1) (by omega)).2
   have hf2 : wr.frozen? ⟨b, o + k * 3 + 2, none⟩ = false := by rw [hM.frozen _ _ H3.out]; exact (H4.out (k * 3 + 2) (by omega)).2
   rw [← Nat.add_assoc] at hv1 hv2
   have HD := Lib.hid hdone
   have HO := Lib.hid hother
   have HM := Lib.hid hM
   have hk0 : (0 : Int) ≤ (k : Int) := by omega
   have hk1 : (k : Int) < (len : Int) := by omega
   clear hA hdone hother hM
   go_wp2
   go_roundw
   case rel =>
    obtain ⟨e0, e1, e2, eo⟩ := set3k (u := .float .f32 (floatOfInt .f32 ((k0 : Int) + (k : Int) * 3))) (v := .float .f32 (floatOfInt .f32 ((k0 : Int) + (k : Int) * 3 + 1))) (t := .float .f32 (floatOfInt .f32 ((k0 : Int) + (k : Int) * 3 + 1 + 1))) hv0 hv1 hv2
    refine ⟨k + 1, by omega, by go_num, by go_num, fun j hj => ?_, fun n i hn => ?_, ((HM.out.trans (Mark.set H1.out H2.out)).trans (Mark.set H1.out H2.out)).trans (Mark.set H1.out H2.out)⟩
    ·by_cases j0 : j = k * 3
     ·subst j0; rw [e0]; simp
     ·by_cases j1 : j = k * 3 + 1
      ·subst j1; rw [← Nat.add_assoc, e1]; simp; congr 1
      ·by_cases j2 : j = k * 3 + 2
       ·subst j2; rw [← Nat.add_assoc, e2]; simp; congr 1
       ·rw [eo _ (by omega) (by omega) (by omega)]; exact HD.out j (by omega)
    ·rw [World.cell?_setCell_other _ _ _ _ (by simp <;> omega), World.cell?_setCell_other _ _ _ _ (by simp <;> omega), World.cell?_setCell_other _ _ _ _ (by simp <;> omega)]; exact HO.out n i hn
   case measure => simp [intOf]; omega
  ·obtain rfl : k = len := by omega
   obtain ⟨hdone, hother, hM⟩ := hA.out
   have HD := Lib.hid hdone
   have HO := Lib.hid hother
   have HM := Lib.hid hM
   clear hA hdone hother hM
   go_wp2
   go_ret
   exact ⟨rfl, HD.out, HO.out, HM.out⟩
end Go.Proofs.YtabccmobmppdnaaGreat
namespace Go.Proofs.YtabccmobmppdnaaGreat
open Go Fk Go.RowKit
set_option linter.unusedVariables false
set_option maxRecDepth 8000
theorem mark_self (z : Int) : (FloatKind.f32.format.order (floatOfInt .f32 z) (floatOfInt .f32 z) != some .eq) = false := by
 have h : (FloatKind.f32.decode (floatOfInt .f32 z)).isNaN = false := isNaN_write .f32 (.number (z < 0) z.natAbs 0) rfl
 rw [order_self h]; rfl
set_option maxHeartbeats 400000 in
theorem laws_heldVectorS (b o len cap : Nat) (k0 : Nat) (w : World) (h : ∀ j, j < len * 3 → w.cell? ⟨b, o + j, none⟩ = some (.float .f32 (floatOfInt .f32 ((k0 + j : Nat) : Int)))) (hk : k0 + len * 3 ≤ 9000000000000000000) :
  Calls Tryz.prog 28 #[.slice (some ⟨b, o, none⟩) len cap, .int .i64 k0] w fun e w' => e = .returned (.int .i64 ((k0 + len * 3 : Nat) : Int)) ∧ w' = w := by
 have u := Tryz.underlying27
 have uv := Tryz.underlying42
 have H := Lib.hid h
 clear h
 go_enter Tryz.func28, Tryz.ntmps28
 go_wp2
 go_loopw [1, 5] (fun q i w' => ∃ k : Nat, k ≤ len ∧ i = .int .i64 k ∧ q = .int .i64 ((k0 + k * 3 : Nat) : Int) ∧ w' = w) (fun _ i _ => len - (intOf i).toNat)
 case atStart => exact ⟨0, Nat.zero_le _, rfl, rfl, rfl⟩
 case round =>
  obtain ⟨k, hkl, rfl, rfl, rfl⟩ := hrel
  by_cases hlt : k < len
  ·have hv0 := H.out (k * 3) (by omega)
   have hv1 := H.out (k * 3 + 1) (by omega)
   have hv2 := H.out (k * 3 + 2) (by omega)
   rw [← Nat.add_assoc, show ((k0 + (k * 3 + 1) : Nat) : Int) = (k0 : Int) + (k : Int) * 3 + 1 by omega] at hv1
   rw [← Nat.add_assoc, show ((k0 + (k * 3 + 2) : Nat) : Int) = (k0 : Int) + (k : Int) * 3 + 1 + 1 by omega] at hv2
   rw [show ((k0 + k * 3 : Nat) : Int) = (k0 : Int) + (k : Int) * 3 by omega] at hv0
   have s0 := mark_self ((k0 : Int) + (k : Int) * 3)
   have s1 := mark_self ((k0 : Int) + (k : Int) * 3 + 1)
   have s2 := mark_self ((k0 : Int) + (k : Int) * 3 + 1 + 1)
   have hk0 : (0 : Int) ≤ (k : Int) := by omega
   have hk1 : (k : Int) < (len : Int) := by omega
   go_wp2
   go_roundw
   case rel => exact ⟨k + 1, by omega, by go_num, by go_num, by first | trivial | rfl⟩
   case measure => simp [intOf]; omega
  ·obtain rfl : k = len := by omega
   go_wp2
   go_ret
   exact ⟨rfl, by first | rfl | trivial⟩
end Go.Proofs.YtabccmobmppdnaaGreat
namespace Go.Proofs.YtabccmobmppdnaaGreat
open Go Fk Go.RowKit
set_option linter.unusedVariables false
set_option maxRecDepth 8000
set_option maxHeartbeats 400000 in
theorem laws_markFloat32S (lo hi b o len cap : Nat) (k0 : Nat) (w : World) (h : Own lo hi w b o len) (hk : k0 + len ≤ 9000000000000000000) :
  Calls Tryz.prog 43 #[.slice (some ⟨b, o, none⟩) len cap, .int .i64 k0] w fun e w' => e = .returned (.int .i64 ((k0 + len : Nat) : Int)) ∧ (∀ j, j < len → w'.cell? ⟨b, o + j, none⟩ = some (.float .f32 (floatOfInt .f32 ((k0 + j : Nat) : Int)))) ∧ (∀ n i, (n ≠ b ∨ i < o ∨ o + len ≤ i) → w'.cell? ⟨n, i, none⟩ = w.cell? ⟨n, i, none⟩) ∧ Mark lo hi w w' := by
 have u := Tryz.underlying27
 obtain ⟨h1, h2, h3, h4⟩ := h
 have H4 := Lib.hid h4
 have H1 := Lib.hid h1
 have H2 := Lib.hid h2
 have H3 := Lib.hid h3
 clear h1 h2 h3 h4
 go_enter Tryz.func43, Tryz.ntmps43
 go_wp2
 go_loopw [1, 5] (fun q i w' => ∃ k : Nat, k ≤ len ∧ i = .int .i64 k ∧ q = .int .i64 ((k0 + k : Nat) : Int) ∧ Aside ((∀ j, j < k → w'.cell? ⟨b, o + j, none⟩ = some (.float .f32 (floatOfInt .f32 ((k0 + j : Nat) : Int)))) ∧ (∀ n i, (n ≠ b ∨ i < o ∨ o + len ≤ i) → w'.cell? ⟨n, i, none⟩ = w.cell? ⟨n, i, none⟩) ∧ Mark lo hi w w')) (fun _ i _ => len - (intOf i).toNat)
 case atStart => exact ⟨0, Nat.zero_le _, rfl, rfl, fun j hj => absurd hj (by omega), fun _ _ _ => rfl, Mark.refl _ _ _⟩
 case round =>
  obtain ⟨k, hkl, rfl, rfl, hA⟩ := hrel
  by_cases hlt : k < len
  ·obtain ⟨hdone, hother, hM⟩ := hA.out
   obtain ⟨v, hv⟩ := hM.alive _ _ (H4.out k hlt).1
   have hf : wr.frozen? ⟨b, o + k, none⟩ = false := by rw [hM.frozen _ _ H3.out]; exact (H4.out k hlt).2
   have HD := Lib.hid hdone
   have HO := Lib.hid hother
   have HM := Lib.hid hM
   have hk0 : (0 : Int) ≤ (k : Int) := by omega
   have hk1 : (k : Int) < (len : Int) := by omega
   clear hA hdone hother hM
   go_wp2
   go_roundw
   case rel =>
    refine ⟨k + 1, by omega, by go_num, by go_num, fun j hj => ?_, fun n i hn => ?_, HM.out.trans (Mark.set H1.out H2.out)⟩
    ·by_cases hjk : j = k
     ·subst hjk
      rw [World.cell?_setCell_same _ _ _ hv]; simp
     ·rw [World.cell?_setCell_other _ _ _ _ (by simp <;> omega)]; exact HD.out j (by omega)
    ·rw [World.cell?_setCell_other _ _ _ _ (by simp <;> omega)]; exact HO.out n i hn
   case measure => simp [intOf]; omega
  ·obtain rfl : k = len := by omega
   obtain ⟨hdone, hother, hM⟩ := hA.out
   have HD := Lib.hid hdone
   have HO := Lib.hid hother
   have HM := Lib.hid hM
   clear hA hdone hother hM
   go_wp2
   go_ret
   exact ⟨rfl, HD.out, HO.out, HM.out⟩
def spV (z : Int) (j : Nat) : Value := if j % 4 < 2 then .int .i64 z else .float .f32 (floatOfInt .f32 z)
set_option maxHeartbeats 1000000 in
theorem laws_markSpringS (lo hi b o len cap : Nat) (k0 : Nat) (w : World) (h : Own lo hi w b o (len * 4)) (hk : k0 + len * 4 ≤ 9000000000000000000) :
  Calls Tryz.prog 77 #[.slice (some ⟨b, o, none⟩) len cap, .int .i64 k0] w fun e w' => e = .returned (.int .i64 ((k0 + len * 4 : Nat) : Int)) ∧ (∀ j, j < len * 4 → w'.cell? ⟨b, o + j, none⟩ = some (spV ((k0 + j : Nat) : Int) j)) ∧ (∀ n i, (n ≠ b ∨ i < o ∨ o + len * 4 ≤ i) → w'.cell? ⟨n, i, none⟩ = w.cell? ⟨n, i, none⟩) ∧ Mark lo hi w w' := by
 have u := Tryz.underlying27
 have us := Tryz.underlying166
 obtain ⟨h1, h2, h3, h4⟩ := h
 have H4 := Lib.hid h4
 have H1 := Lib.hid h1
 have H2 := Lib.hid h2
 have H3 := Lib.hid h3
 clear h1 h2 h3 h4
 go_enter Tryz.func77, Tryz.ntmps77
 go_wp2
 go_loopw [1, 5] (fun q i w' => ∃ k : Nat, k ≤ len ∧ i = .int .i64 k ∧ q = .int .i64 ((k0 + k * 4 : Nat) : Int) ∧ Aside ((∀ j, j < k * 4 → w'.cell? ⟨b, o + j, none⟩ = some (spV ((k0 + j : Nat) : Int) j)) ∧ (∀ n i, (n ≠ b ∨ i < o ∨ o + len * 4 ≤ i) → w'.cell? ⟨n, i, none⟩ = w.cell? ⟨n, i, none⟩) ∧ Mark lo hi w w')) (fun _ i _ => len - (intOf i).toNat)
 case atStart => exact ⟨0, Nat.zero_le _, rfl, rfl, fun j hj => absurd hj (by omega), fun _ _ _ => rfl, Mark.refl _ _ _⟩
 case round =>
  obtain ⟨k, hkl, rfl, rfl, hA⟩ := hrel
  by_cases hlt : k < len
  ·obtain ⟨hdone, hother, hM⟩ := hA.out
   obtain ⟨v0, hv0⟩ := hM.alive _ _ (H4.out (k * 4) (by omega)).1
   obtain ⟨v1, hv1⟩ := hM.alive _ _ (H4.out (k * 4 + 1) (by omega)).1
   obtain ⟨v2, hv2⟩ := hM.alive _ _ (H4.out (k * 4 + 2) (by omega)).1
   obtain ⟨v3, hv3⟩ := hM.alive _ _ (H4.out (k * 4 + 3) (by omega)).1
   have hf0 : wr.frozen? ⟨b, o + k * 4, none⟩ = false := by rw [hM.frozen _ _ H3.out]; exact (H4.out (k * 4) (by omega)).2
   have hf1 : wr.frozen? ⟨b, o + k * 4 + 1, none⟩ = false := by rw [hM.frozen _ _ H3.out]; exact (H4.out (k * 4 + 1) (by omega)).2
   have hf2 : wr.frozen? ⟨b, o + k * 4 + 2, none⟩ = false := by rw [hM.frozen _ _ H3.out]; exact (H4.out (k * 4 + 2) (by omega)).2
   have hf3 : wr.frozen? ⟨b, o + k * 4 + 3, none⟩ = false := by rw [hM.frozen _ _ H3.out]; exact (H4.out (k * 4 + 3) (by omega)).2
   rw [← Nat.add_assoc] at hv1 hv2 hv3
   have HD := Lib.hid hdone
   have HO := Lib.hid hother
   have HM := Lib.hid hM
   have hk0 : (0 : Int) ≤ (k : Int) := by omega
   have hk1 : (k : Int) < (len : Int) := by omega
   clear hA hdone hother hM
   go_wp2
   go_roundw
   case rel =>
    obtain ⟨e0, e1, e2, e3, eo⟩ := set4k (u := .int .i64 ((k0 : Int) + (k : Int) * 4)) (v := .int .i64 ((k0 : Int) + (k : Int) * 4 + 1)) (t := .float .f32 (floatOfInt .f32 ((k0 : Int) + (k : Int) * 4 + 1 + 1))) (s := .float .f32 (floatOfInt .f32 ((k0 : Int) + (k : Int) * 4 + 1 + 1 + 1))) hv0 hv1 hv2 hv3
    refine ⟨k + 1, by omega, by go_num, by go_num, fun j hj => ?_, fun n i hn => ?_, (((HM.out.trans (Mark.set H1.out H2.out)).trans (Mark.set H1.out H2.out)).trans (Mark.set H1.out H2.out)).trans (Mark.set H1.out H2.out)⟩
    ·by_cases j0 : j = k * 4
     ·subst j0
      rw [e0]
      unfold spV
      rw [if_pos (by omega)]; simp
     ·by_cases j1 : j = k * 4 + 1
      ·subst j1
       rw [← Nat.add_assoc, e1]
       unfold spV
       rw [if_pos (by omega)]; simp <;> omega
      ·by_cases j2 : j = k * 4 + 2
       ·subst j2
        rw [← Nat.add_assoc, e2]
        unfold spV
        rw [if_neg (by omega)]; simp; congr 1
       ·by_cases j3 : j = k * 4 + 3
        ·subst j3
         rw [← Nat.add_assoc, e3]
         unfold spV
         rw [if_neg (by omega)]; simp; congr 1
        ·rw [eo _ (by omega) (by omega) (by omega) (by omega)]; exact HD.out j (by omega)
    ·rw [World.cell?_setCell_other _ _ _ _ (by simp <;> omega), World.cell?_setCell_other _ _ _ _ (by simp <;> omega), World.cell?_setCell_other _ _ _ _ (by simp <;> omega), World.cell?_setCell_other _ _ _ _ (by simp <;> omega)]; exact HO.out n i hn
   case measure => simp [intOf]; omega
  ·obtain rfl : k = len := by omega
   obtain ⟨hdone, hother, hM⟩ := hA.out
   have HD := Lib.hid hdone
   have HO := Lib.hid hother
   have HM := Lib.hid hM
   clear hA hdone hother hM
   go_wp2
   go_ret
   exact ⟨rfl, HD.out, HO.out, HM.out⟩
end Go.Proofs.YtabccmobmppdnaaGreat
namespace Go.Proofs.YtabccmobmppdnaaGreat
open Go Fk Go.RowKit
set_option linter.unusedVariables false
set_option maxRecDepth 8000
def Rows (lo hi : Nat) (w : World) (g o len : Nat) (ts : List (List Int)) : Prop :=
 ∀ j, j < len → ∃ G O c, G ≠ g ∧ w.cell? ⟨g, o + j, none⟩ = some (.slice (some ⟨G, O, none⟩) (ts.getD j []).length c) ∧ Own lo hi w G O (ts.getD j []).length
set_option maxHeartbeats 400000 in
theorem laws_markInt64SS (lo hi g o len cap : Nat) (ts : List (List Int)) (k0 : Nat) (w : World) (h : Rows lo hi w g o len ts) (hl : len ≤ 1048576) (hn : ∀ j, j < len → (ts.getD j []).length ≤ 1048576) (hk : k0 ≤ 1000000000000000000) :
  Calls Tryz.prog 133 #[.slice (some ⟨g, o, none⟩) len cap, .int .i64 k0] w fun e w' => ∃ z : Nat, z ≤ k0 + len * 1048576 ∧ e = .returned (.int .i64 z) ∧ (∀ i, w'.cell? ⟨g, i, none⟩ = w.cell? ⟨g, i, none⟩) ∧ Mark lo hi w w' := by
 have H := Lib.hid h
 have HN := Lib.hid hn
 clear h hn
 go_enter Tryz.func133, Tryz.ntmps133
 go_wp2
 go_loopw [1, 5] (fun q i w' => ∃ k : Nat, k ≤ len ∧ i = .int .i64 k ∧ (∃ z : Nat, z ≤ k0 + k * 1048576 ∧ q = .int .i64 z) ∧ Aside ((∀ i, w'.cell? ⟨g, i, none⟩ = w.cell? ⟨g, i, none⟩) ∧ Mark lo hi w w')) (fun _ i _ => len - (intOf i).toNat)
 case atStart => exact ⟨0, Nat.zero_le _, rfl, ⟨k0, by omega, rfl⟩, fun _ => rfl, Mark.refl _ _ _⟩
 case round =>
  obtain ⟨k, hkl, rfl, ⟨z, hz, rfl⟩, hA⟩ := hrel
  by_cases hlt : k < len
  ·obtain ⟨hsame, hM⟩ := hA.out
   obtain ⟨G, O, c, hne, hc, hown⟩ := H.out k hlt
   have hlen := HN.out k hlt
   have hc' : wr.cell? ⟨g, o + k, none⟩ = some (.slice (some ⟨G, O, none⟩) (ts.getD k []).length c) := (hsame _).trans hc
   have HS := Lib.hid hsame
   have HM := Lib.hid hM
   have HW := Lib.hid (hown.mark hM)
   have HNE := Lib.hid hne
   generalize (ts.getD k []).length = n at *
   have hk0 : (0 : Int) ≤ (k : Int) := by omega
   have hk1 : (k : Int) < (len : Int) := by omega
   clear hA hsame hM hc hown hne
   go_wp2_with (go_at_call 26; refine (laws_markInt64S lo hi G O n c z wr HW.out (by omega)).mono ?_; rintro e w1 ⟨rfl, hd, ho, hM1⟩; have HO := Lib.hid ho; have HM1 := Lib.hid hM1; clear hd ho hM1)
   go_roundw
   case rel => exact ⟨k + 1, by omega, by go_num, ⟨z + n, by omega, rfl⟩, fun i => (HO.out g i (.inl (fun h => HNE.out h.symm))).trans (HS.out i), HM.out.trans HM1.out⟩
   case measure => simp [intOf]; omega
  ·obtain rfl : k = len := by omega
   obtain ⟨hsame, hM⟩ := hA.out
   have HS := Lib.hid hsame
   have HM := Lib.hid hM
   clear hA hsame hM
   go_wp2
   go_ret
   exact ⟨z, hz, rfl, HS.out, HM.out⟩
theorem Rows.mark {lo hi g o len : Nat} {ts : List (List Int)} {w w' : World} (h : Rows lo hi w g o len ts) (hs : ∀ i, w'.cell? ⟨g, i, none⟩ = w.cell? ⟨g, i, none⟩) {lo' hi' : Nat} (hM : Mark lo' hi' w w') : Rows lo hi w' g o len ts := by
 intro j hj
 obtain ⟨G, O, c, h1, h2, h3⟩ := h j hj
 exact ⟨G, O, c, h1, (hs _).trans h2, h3.mark hM⟩
def OwnM (lo hi : Nat) (w : World) (b o b' o' pl tl : Nat) (ts : List (List Int)) : Prop := Own lo hi w b o (pl * 3) ∧ Rows lo hi w b' o' tl ts ∧ b ≠ b' ∧ b' < w.heap.size
end Go.Proofs.YtabccmobmppdnaaGreat

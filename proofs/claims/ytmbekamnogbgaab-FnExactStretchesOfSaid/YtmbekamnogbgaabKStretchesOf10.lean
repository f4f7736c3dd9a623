/-
Texts in one: what StretchesOf stands on, part 10. Conditions: those of each.
-/
import Derived.Test.YtmbekamnogbgaabKStretchesOf9

/-
The greatest length of a list of vectors: what the program and its model return. Conditions: none.
-/
namespace Go.Proofs.Ytmbekamnogbgaab
open Go Fk Go.RowKit
set_option linter.unusedVariables false
set_option maxRecDepth 8000

def longC (c : C3) : Option Nat := rootC (fop .add .f32 (fop .add .f32 (fop .mul .f32 c.1 c.1) (fop .mul .f32 c.2.1 c.2.1)) (fop .mul .f32 c.2.2 c.2.2))
theorem Pos_longC (c : C3) : Pos .f32 (longC c) := Pos_root (Pos_add (Pos_add (Pos_square _) (Pos_square _)) (Pos_square _)) Num_fop
def lonF (m : Option Nat) (cs : List C3) : Option Nat := cs.foldl (fun m v => mxC .f32 m (longC v)) m
abbrev lonC (cs : List C3) : Option Nat := lonF (some 0) cs
theorem Pos_zero : Pos .f32 (some 0) := by intro r h; cases h; decide
theorem Pos_lonF (cs : List C3) : ∀ m, Pos .f32 m → Pos .f32 (lonF m cs) := by
  induction cs with
  | nil => exact fun m h => h
  | cons c cs ih => exact fun m h => ih _ (Pos_mx h (Pos_longC c))
theorem lonC_snoc (cs : List C3) (k : Nat) (hk : k < cs.length) : lonC (cs.take (k + 1)) = mxC .f32 (lonC (cs.take k)) (longC (cs.getD k c0)) := by
  rw [List.take_succ_eq_append_getElem hk]
  unfold lonC lonF
  rw [List.foldl_append]
  simp [List.getD, hk]
theorem lonC_stop (cs : List C3) (k : Nat) (h : lonC (cs.take k) = none) : lonC cs = none := by
  have e : cs = cs.take k ++ cs.drop k := (List.take_append_drop k cs).symm
  rw [e]
  unfold lonC lonF at h ⊢
  rw [List.foldl_append, h]
  exact foldl_none _ _
def lonB (n : Nat) (cs : List C3) : Option Nat := if n ≤ 256 then lonC cs else some 0
theorem FV_00 : FV .f32 0 (some 0) := ⟨by decide, by decide⟩
theorem lon_step {x o : Nat} {m v : Option Nat} (ho : FV .f32 o m) (hx : FV .f32 x v) (hm : m = some o) :
    ((FloatKind.f32.format.order x o == some .gt) = true ∧ FV .f32 x (mxC .f32 m v) ∧ mxC .f32 m v = some x ∧ (FloatKind.f32.format.order x x != some .eq) = false) ∨
    ((FloatKind.f32.format.order x o == some .gt) = false ∧ (FloatKind.f32.format.order x x != some .eq) = true ∧ FV .f32 x none ∧ mxC .f32 m v = none) ∨
    ((FloatKind.f32.format.order x o == some .gt) = false ∧ (FloatKind.f32.format.order x x != some .eq) = false ∧ FV .f32 o (mxC .f32 m v) ∧ mxC .f32 m v = some o ∧ (FloatKind.f32.format.order o o != some .eq) = false) := by
  subst hm
  have oo : (FloatKind.f32.format.order o o != some .eq) = false := by rw [order_self ho.notnan]; rfl
  rcases ford_both ho hx with ⟨e1, e2, h⟩ | ⟨c, e1, e2, _, rfl⟩
  · rcases h with h | rfl
    · cases h
    · have h1 : FloatKind.f32.format.order x o = none := order_nan (.inl hx.nan)
      have h2 : FloatKind.f32.format.order x x = none := order_nan (.inl hx.nan)
      refine .inr (.inl ⟨by rw [h1]; rfl, by rw [h2]; rfl, hx, rfl⟩)
  · have xx : (FloatKind.f32.format.order x x != some .eq) = false := by rw [order_self hx.notnan]; rfl
    have h1 : FloatKind.f32.format.order x o = some c.swap := e2
    cases c with
    | lt => exact .inl ⟨by rw [h1]; rfl, by unfold mxC; rw [e1]; exact hx, by unfold mxC; rw [e1], xx⟩
    | eq => exact .inr (.inr ⟨by rw [h1]; rfl, xx, by unfold mxC; rw [e1]; exact ho, by unfold mxC; rw [e1], oo⟩)
    | gt => exact .inr (.inr ⟨by rw [h1]; rfl, xx, by unfold mxC; rw [e1]; exact ho, by unfold mxC; rw [e1], oo⟩)

end Go.Proofs.Ytmbekamnogbgaab


/-
Which springs and which bodies are valid: what the program and its model return. Conditions: none.
-/
namespace Go.Proofs.Ytmbekamnogbgaab
open Go Fk Go.RowKit
set_option linter.unusedVariables false
set_option maxRecDepth 8000

/-- At least 0. -/
def geB (c : Option Nat) : Bool := ford .f32 c (some 0) == some .gt || ford .f32 c (some 0) == some .eq
def springB (n : Nat) (s : SC) : Bool := inB n s.1 && inB n s.2.1 && decide (s.1 ≠ s.2.1) && geB s.2.2.1
def bodyB (c : Bc) : Bool := validB c.cs c.ts && decide (c.ss.length ≤ 200) && decide (c.zs.length = c.cs.length) && c.ss.all (springB c.cs.length)
theorem geB_order {p : Nat} {c : Option Nat} (h : FV .f32 p c) : (FloatKind.f32.format.order p 0 == some .gt || FloatKind.f32.format.order p 0 == some .eq) = geB c := by
  rw [ford_of h FV_00]; rfl
theorem impl_isBetween (a b : Int) (x y n : Nat) (c d : Option Nat) (w : World) (hx : FV .f32 x c) :
    Calls Try.prog 126 #[sv a b x y, .int .i64 n] w fun e w' => e = .returned (.bool (springB n (a, b, c, d))) ∧ Below w.heap.size w w' := by
  have us := Try.underlying116
  have u := Try.underlying52
  have ui := Try.underlying2
  have hg := geB_order hx
  show Calls _ _ _ w fun e w' => e = .returned (.bool (inB n a && inB n b && decide (a ≠ b) && geB c)) ∧ Below w.heap.size w w'
  have J0 := Lib.hid (fun w => impl_isIndex a n w)
  have J1 := Lib.hid (fun w => impl_isIndex b n w)
  generalize geB c = g at *
  generalize inB n a = i0 at *
  generalize inB n b = i1 at *
  have B0 := Lib.hid ((Below.refl w.heap.size w).alloc (Nat.le_refl _) (.cells #[.int .i64 a, .int .i64 b, .float .f32 x, .float .f32 y] 116))
  clear hx
  cases i0
  · go_enter Try.func126, Try.ntmps126
    go_wp2_with fail
    refine (J0.out _).mono ?_
    rintro e w1 ⟨rfl, hw1⟩
    rw [hw1]; clear hw1 w1
    go_wp2
    go_ret
    exact ⟨rfl, B0.out⟩
  · cases i1
    · go_enter Try.func126, Try.ntmps126
      go_wp2_with fail
      refine (J0.out _).mono ?_
      rintro e w1 ⟨rfl, hw1⟩
      rw [hw1]; clear hw1 w1
      go_wp2_with fail
      refine (J1.out _).mono ?_
      rintro e w1 ⟨rfl, hw1⟩
      rw [hw1]; clear hw1 w1
      go_wp2
      go_ret
      exact ⟨rfl, B0.out⟩
    · by_cases hab : a = b
      · have hd : decide (a ≠ b) = false := decide_eq_false (fun h => h hab)
        rw [hd]
        clear hd
        subst hab
        go_enter Try.func126, Try.ntmps126
        go_wp2_with fail
        refine (J0.out _).mono ?_
        rintro e w1 ⟨rfl, hw1⟩
        rw [hw1]; clear hw1 w1
        go_wp2_with fail
        refine (J1.out _).mono ?_
        rintro e w1 ⟨rfl, hw1⟩
        rw [hw1]; clear hw1 w1
        go_wp2
        go_ret
        exact ⟨rfl, B0.out⟩
      · have hd : decide (a ≠ b) = true := decide_eq_true hab
        have hq : (a == b) = false := beq_eq_false_iff_ne.2 hab
        rw [hd]
        clear hd
        cases g
        all_goals
          go_enter Try.func126, Try.ntmps126
          go_wp2_with fail
          refine (J0.out _).mono ?_
          rintro e w1 ⟨rfl, hw1⟩
          rw [hw1]; clear hw1 w1
          go_wp2_with fail
          refine (J1.out _).mono ?_
          rintro e w1 ⟨rfl, hw1⟩
          rw [hw1]; clear hw1 w1
          go_wp2
          go_ret
          exact ⟨ret_bool (by simp [hg, hab]), B0.out⟩
set_option maxHeartbeats 8000000 in
theorem l03Spring (b o : Nat) (u v : Int) (p n : Nat) (c d : Option Nat) (w : World) (c0 : w.cell? ⟨b, o, none⟩ = some (.int .i64 u)) (c1 : w.cell? ⟨b, o + 1, none⟩ = some (.int .i64 v)) (c2 : w.cell? ⟨b, o + 2, none⟩ = some (.float .f32 p)) (hp : FV .f32 p c) (hn : (n : Int) ≤ 9223372036854775807) :
    Calls Try.prog 122 #[.pointer (some ⟨b, o, none⟩), .int .i64 n] w fun e w' => e = .returned (.bool (springB n (u, v, c, d))) ∧ ∃ m, w' = w.drewN m := by
  have us := Try.underlying116
  have uf := Try.underlying52
  have ui := Try.underlying2
  have hg := geB_order hp
  have e1 : IntKind.i64.wrap ((n : Int) - 1) = (n : Int) - 1 := IntWalk.i64_in _ (by omega)
  show Calls _ _ _ w fun e w' => e = .returned (.bool (inB n u && inB n v && decide (u ≠ v) && geB c)) ∧ ∃ m, w' = w.drewN m
  have J0 := Lib.hid (fun w => (l00In u n w).mono (R' := fun e w' => e = .returned (.bool (inB n u)) ∧ ∃ m, w' = w.drewN m) (fun _ _ h => ⟨h.1, 0, h.2⟩))
  have J1 := Lib.hid (fun w => (l00In v n w).mono (R' := fun e w' => e = .returned (.bool (inB n v)) ∧ ∃ m, w' = w.drewN m) (fun _ _ h => ⟨h.1, 0, h.2⟩))
  generalize geB c = g at *
  generalize inB n u = i0 at *
  generalize inB n v = i1 at *
  clear hp hn
  by_cases huv : u = v
  · have hd : decide (u ≠ v) = false := decide_eq_false (fun h => h huv)
    rw [hd]
    clear hd
    subst huv
    cases i0 <;> cases i1
    all_goals
      go_enter Try.func122, Try.ntmps122
      go_wp2_with fail
      go_quiet ((go_at_call 99; first | with_reducible exact Calls.quiet_of (J0.out _) | with_reducible exact Calls.quiet_of (J1.out _)))
      go_wp2
      go_ret
      exact ⟨ret_bool (by simp), _, rfl⟩
  · have hd : decide (u ≠ v) = true := decide_eq_true huv
    have hq : (u == v) = false := beq_eq_false_iff_ne.2 huv
    rw [hd]
    clear hd
    cases i0 <;> cases i1 <;> cases g
    all_goals
      go_enter Try.func122, Try.ntmps122
      go_wp2_with fail
      go_quiet ((go_at_call 99; first | with_reducible exact Calls.quiet_of (J0.out _) | with_reducible exact Calls.quiet_of (J1.out _)))
      go_wp2
      go_ret
      exact ⟨ret_bool (by simp [hg, huv]), _, rfl⟩
end Go.Proofs.Ytmbekamnogbgaab


/-
Normals of triangles: what the program and its model return. Conditions: the mesh is valid and has the triangle.
-/
namespace Go.Proofs.Ytmbekamnogbgaab
open Go Fk Go.RowKit
set_option linter.unusedVariables false
set_option maxRecDepth 8000

def lessC (a b : C3) : C3 := (fop .sub .f32 a.1 b.1, fop .sub .f32 a.2.1 b.2.1, fop .sub .f32 a.2.2 b.2.2)
def crossC (a b : C3) : C3 := (fop .sub .f32 (fop .mul .f32 a.2.1 b.2.2) (fop .mul .f32 a.2.2 b.2.1), fop .sub .f32 (fop .mul .f32 a.2.2 b.1) (fop .mul .f32 a.1 b.2.2), fop .sub .f32 (fop .mul .f32 a.1 b.2.1) (fop .mul .f32 a.2.1 b.1))
def cornerC (cs : List C3) (t : List Int) (i : Nat) : C3 := cs.getD (t.getD i 0).toNat c0
def normalC (cs : List C3) (t : List Int) : C3 := crossC (lessC (cornerC cs t 1) (cornerC cs t 0)) (lessC (cornerC cs t 2) (cornerC cs t 0))
theorem tri_parts {n : Nat} {t : List Int} (h : triB n t = true) : t.length = 3 ∧ (∀ i, i < 3 → 0 ≤ t.getD i 0 ∧ (t.getD i 0).toNat < n) := by
  unfold triB at h
  simp only [Bool.and_eq_true, decide_eq_true_eq] at h
  obtain ⟨⟨h3, ⟨h0, h1⟩, h2⟩, _⟩ := h
  refine ⟨h3, fun i hi => ?_⟩
  have a0 := of_decide_eq_true h0
  have a1 := of_decide_eq_true h1
  have a2 := of_decide_eq_true h2
  have : i = 0 ∨ i = 1 ∨ i = 2 := by omega
  rcases this with rfl | rfl | rfl <;> omega
theorem valid_row {cs : List C3} {ts : List (List Int)} {k : Nat} (h : validB cs ts = true) (hk : k < ts.length) : triB cs.length (ts.getD k []) = true := by
  unfold validB at h
  simp only [Bool.and_eq_true] at h
  have := List.all_eq_true.1 h.2 (ts[k]) (List.getElem_mem hk)
  simpa [List.getD, hk] using this
/-- A corner of a triangle of a valid mesh lies in memory. -/
theorem corner_cell {w : World} {pa : Option Addr} {pl pc : Nat} {cs : List C3} {t : List Int} (hp : IsVs w pa pl pc cs) (ht : triB pl t = true) : ∃ b o, pa = some ⟨b, o, none⟩ ∧ ∀ i, i < 3 → ∃ p q r, w.cell? ⟨b, o + (t.getD i 0).toNat * 3, none⟩ = some (.float .f32 p) ∧ w.cell? ⟨b, o + (t.getD i 0).toNat * 3 + 1, none⟩ = some (.float .f32 q) ∧ w.cell? ⟨b, o + (t.getD i 0).toNat * 3 + 2, none⟩ = some (.float .f32 r) ∧
    FV .f32 p (cornerC cs t i).1 ∧ FV .f32 q (cornerC cs t i).2.1 ∧ FV .f32 r (cornerC cs t i).2.2 := by
  obtain ⟨h3, hi⟩ := tri_parts ht
  obtain ⟨b, o, e, hc⟩ := hp.some (by have := (hi 0 (by decide)).2; omega)
  exact ⟨b, o, e, fun i hi' => hc _ (hi i hi').2⟩
/-- What one operation keeps that makes a box or fills one. -/
def Keep (B : Nat) (w1 w2 : World) : Prop := Below B w1 w2 ∧ w1.heap.size ≤ w2.heap.size ∧ (∀ n i, (∃ v, w1.cell? ⟨n, i, none⟩ = some v) → ∃ v, w2.cell? ⟨n, i, none⟩ = some v) ∧ (∀ n i, n < w1.heap.size → w2.frozen? ⟨n, i, none⟩ = w1.frozen? ⟨n, i, none⟩)
theorem Keep.refl (B : Nat) (w : World) : Keep B w w := ⟨Below.refl _ _, Nat.le_refl _, fun _ _ h => h, fun _ _ _ => rfl⟩
theorem Keep.alloc {B : Nat} {w : World} (hB : B ≤ w.heap.size) (o : Obj) : Keep B w (w.alloc o) :=
  ⟨(Below.refl _ _).alloc hB _, by simp, fun n i ⟨v, hv⟩ => ⟨v, cell_alloc hv⟩, fun n i hn => by
    have hb : Below w.heap.size w (w.alloc o) := (Below.refl _ _).alloc (Nat.le_refl _) _
    exact hb.frozen (p := ⟨n, i, none⟩) hn⟩
theorem Keep.set {B : Nat} {w : World} {n o : Nat} {u : Value} (hB : B ≤ n) : Keep B w (w.setCell ⟨n, o, none⟩ u) :=
  ⟨(Below.refl _ _).setCell hB _, by simp, fun m i ⟨v, hv⟩ => by
    by_cases h : (⟨n, o, none⟩ : Addr) = ⟨m, i, none⟩
    · rw [h]; exact ⟨u, World.cell?_setCell_same _ _ _ hv⟩
    · exact ⟨v, by rw [World.cell?_setCell_other _ _ _ _ h]; exact hv⟩, fun m i _ => by simp⟩
theorem Keep.trans {B : Nat} {w1 w2 w3 : World} (h : Keep B w1 w2) (h' : Keep B w2 w3) : Keep B w1 w3 :=
  ⟨h.1.trans h'.1, Nat.le_trans h.2.1 h'.2.1, fun n i hv => h'.2.2.1 n i (h.2.2.1 n i hv), fun n i hn => (h'.2.2.2 n i (Nat.lt_of_lt_of_le hn h.2.1)).trans (h.2.2.2 n i hn)⟩
/-- A box of three cells that can be written. -/
def Box (B n : Nat) (w : World) : Prop := B ≤ n ∧ n < w.heap.size ∧ (∃ u0 u1 u2, w.cell? ⟨n, 0, none⟩ = some u0 ∧ w.cell? ⟨n, 1, none⟩ = some u1 ∧ w.cell? ⟨n, 2, none⟩ = some u2) ∧ (w.frozen? ⟨n, 0, none⟩ = false ∧ w.frozen? ⟨n, 1, none⟩ = false ∧ w.frozen? ⟨n, 2, none⟩ = false)
theorem Box.keep {B n : Nat} {w1 w2 : World} (h : Box B n w1) (k : Keep B w1 w2) : Box B n w2 := by
  obtain ⟨h1, h2, ⟨u0, u1, u2, e0, e1, e2⟩, f0, f1, f2⟩ := h
  obtain ⟨k1, k2, k3, k4⟩ := k
  obtain ⟨v0, e0⟩ := k3 n 0 ⟨_, e0⟩
  obtain ⟨v1, e1⟩ := k3 n 1 ⟨_, e1⟩
  obtain ⟨v2, e2⟩ := k3 n 2 ⟨_, e2⟩
  exact ⟨h1, Nat.lt_of_lt_of_le h2 k2, ⟨v0, v1, v2, e0, e1, e2⟩, by rw [k4 n 0 h2]; exact f0, by rw [k4 n 1 h2]; exact f1, by rw [k4 n 2 h2]; exact f2⟩
end Go.Proofs.Ytmbekamnogbgaab

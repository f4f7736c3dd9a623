/-
Texts in one: what StretchesOf stands on, part 30. Conditions: those of each.
-/
import Derived.Test.YtmbekamnogbgaabKStretchesOf29

/-
Lists of floats that are the same as classes: the law's comparison says so. Conditions: none.
-/
namespace Go.Proofs.Ytmbekamnogbgaab
open Go Fk Go.RowKit
set_option linter.unusedVariables false
set_option maxRecDepth 8000
/-- A list of floats that lies in memory, as classes. -/
def IsCs32 (w : World) (a : Option Addr) (n cap : Nat) (fs : List (Option Nat)) : Prop := ∃ zs, IsFs .f32 w a n cap zs ∧ (∀ k, k < n → FV .f32 (zs.getD k 0) (fs.getD k none)) ∧ fs.length = n
theorem IsCs32.below {w w' : World} {a : Option Addr} {n cap : Nat} {fs : List (Option Nat)} (h : IsCs32 w a n cap fs) (hB : Below w.heap.size w w') : IsCs32 w' a n cap fs := by
  obtain ⟨zs, h1, h2, h3⟩ := h
  exact ⟨zs, IsFs_below hB h1, h2, h3⟩
set_option maxHeartbeats 1000000 in
theorem laws_eqFloatC (a b : Option Addr) (len cap cap' : Nat) (zs ys : List Nat) (fs : List (Option Nat)) (w : World) (ha : IsFs .f32 w a len cap zs) (hb : IsFs .f32 w b len cap' ys) (hz : ∀ k, k < len → FV .f32 (zs.getD k 0) (fs.getD k none)) (hy : ∀ k, k < len → FV .f32 (ys.getD k 0) (fs.getD k none)) (hlen : len ≤ 1048576) :
    Calls Try.prog 40 #[.slice a len cap, .slice b len cap'] w fun e w' => e = .returned (.bool true) ∧ ∃ n, w' = w.drewN n := by
  have u := Try.underlying52
  have u' := Try.underlying127
  go_enter Try.func40, Try.ntmps40
  go_wp2
  go_loopw [5] (fun i w' => ∃ k : Nat, k ≤ len ∧ i = .int .i64 k ∧ ∃ n, w' = w.drewN n) (fun i _ => len - (intOf i).toNat)
  case atStart => exact ⟨0, Nat.zero_le _, rfl, 0, rfl⟩
  case round =>
    obtain ⟨k, hk, rfl, n, rfl⟩ := hrel
    by_cases hlt : k < len
    · obtain ⟨b1, o1, rfl, hcell1⟩ := IsFs_some ha (by omega)
      obtain ⟨b2, o2, rfl, hcell2⟩ := IsFs_some hb (by omega)
      have c1 := hcell1 k hlt
      have c2 := hcell2 k hlt
      have hv := hz k hlt
      have hv' := hy k hlt
      generalize zs.getD k 0 = z at *
      generalize ys.getD k 0 = y at *
      generalize fs.getD k none = fc at *
      clear hcell1 hcell2 hz hy ha hb
      have hk0 : (0 : Int) ≤ (k : Int) := by omega
      have hk1 : (k : Int) < (len : Int) := by omega
      go_wp2_with fail
      refine Reg.wp_region_mix (C := fun w' => ∃ n, w' = w.drewN n) (G := fun _ _ => True) (R := fun i v _ => match i with | 0 => v = .slice (some ⟨b1, o1, none⟩) len cap | 1 => v = .int .i64 k | 2 => v = .pointer (some ⟨b1, o1 + k, none⟩) | 3 => v = .float .f32 z | 4 => isF64 (fc.map wid) v | 5 => v = .slice (some ⟨b2, o2, none⟩) len cap' | 6 => v = .int .i64 k | 7 => v = .pointer (some ⟨b2, o2 + k, none⟩) | 8 => v = .float .f32 y | 9 => isF64 (fc.map wid) v | 10 => v = .bool true | 11 => v = .bool false | _ => True) (T := fun _ _ _ => True) [false, false, false, false, false, false, false, false, false, false, false, false, false, false, false, false, false, true, true, true, true, true, true, true, true, true, true, true, true]
        (by kernel_rfl) (by kernel_rfl) (by kernel_rfl) (fun _ _ _ _ _ _ h => h) ⟨n + 1, rfl⟩ ?_ ?_
      · refine ⟨Reg.Obl.mk ?_, Reg.Obl.mk ?_, Reg.Obl.mk ?_, Reg.Obl.mk ?_, Reg.Obl.mk ?_, Reg.Obl.mk ?_, Reg.Obl.mk ?_, Reg.Obl.mk ?_, Reg.Obl.mk ?_, Reg.Obl.mk ?_, Reg.Obl.mk ?_, Reg.Obl.mk ?_, trivial⟩
        · rintro a w1 ⟨n1, rfl⟩ hx hd K hK
          have t0 : a.tmps[0]?.getD undef = .slice (some ⟨b1, o1, none⟩) len cap := Reg.slot_val (hx 0 (by kernel_rfl))
          go_simp
          exact hK _ _ (fun _ => rfl) (fun h => by cases h) ⟨_, rfl⟩ trivial
        · rintro a w1 ⟨n1, rfl⟩ hx hd K hK
          have t5 : a.tmps[5]?.getD undef = .int .i64 k := Reg.slot_val (hx 5 (by kernel_rfl))
          go_simp
          exact hK _ _ (fun _ => rfl) (fun h => by cases h) ⟨_, rfl⟩ trivial
        · rintro a w1 ⟨n1, rfl⟩ hx hd K hK
          have t17 : a.tmps[17]?.getD undef = .slice (some ⟨b1, o1, none⟩) len cap := Reg.slot_val (hd 0 (by kernel_rfl) 17 rfl)
          have t18 : a.tmps[18]?.getD undef = .int .i64 k := Reg.slot_val (hd 1 (by kernel_rfl) 18 rfl)
          go_simp
          exact hK _ _ (fun _ => rfl) (fun h => by cases h) ⟨_, rfl⟩ trivial
        · rintro a w1 ⟨n1, rfl⟩ hx hd K hK
          have t19 : a.tmps[19]?.getD undef = .pointer (some ⟨b1, o1 + k, none⟩) := Reg.slot_val (hd 2 (by kernel_rfl) 19 rfl)
          go_simp
          exact hK _ _ (fun _ => rfl) (fun h => by cases h) ⟨_, rfl⟩ trivial
        · rintro a w1 ⟨n1, rfl⟩ hx hd K hK
          have t20 : a.tmps[20]?.getD undef = .float .f32 z := Reg.slot_val (hd 3 (by kernel_rfl) 20 rfl)
          go_simp
          exact hK _ _ (fun _ => ⟨_, rfl, FV_wR hv⟩) (fun h => by cases h) ⟨_, rfl⟩ trivial
        · rintro a w1 ⟨n1, rfl⟩ hx hd K hK
          have t1 : a.tmps[1]?.getD undef = .slice (some ⟨b2, o2, none⟩) len cap' := Reg.slot_val (hx 1 (by kernel_rfl))
          go_simp
          exact hK _ _ (fun _ => rfl) (fun h => by cases h) ⟨_, rfl⟩ trivial
        · rintro a w1 ⟨n1, rfl⟩ hx hd K hK
          have t5 : a.tmps[5]?.getD undef = .int .i64 k := Reg.slot_val (hx 5 (by kernel_rfl))
          go_simp
          exact hK _ _ (fun _ => rfl) (fun h => by cases h) ⟨_, rfl⟩ trivial
        · rintro a w1 ⟨n1, rfl⟩ hx hd K hK
          have t22 : a.tmps[22]?.getD undef = .slice (some ⟨b2, o2, none⟩) len cap' := Reg.slot_val (hd 5 (by kernel_rfl) 22 rfl)
          have t23 : a.tmps[23]?.getD undef = .int .i64 k := Reg.slot_val (hd 6 (by kernel_rfl) 23 rfl)
          go_simp
          exact hK _ _ (fun _ => rfl) (fun h => by cases h) ⟨_, rfl⟩ trivial
        · rintro a w1 ⟨n1, rfl⟩ hx hd K hK
          have t24 : a.tmps[24]?.getD undef = .pointer (some ⟨b2, o2 + k, none⟩) := Reg.slot_val (hd 7 (by kernel_rfl) 24 rfl)
          go_simp
          exact hK _ _ (fun _ => rfl) (fun h => by cases h) ⟨_, rfl⟩ trivial
        · rintro a w1 ⟨n1, rfl⟩ hx hd K hK
          have t25 : a.tmps[25]?.getD undef = .float .f32 y := Reg.slot_val (hd 8 (by kernel_rfl) 25 rfl)
          go_simp
          exact hK _ _ (fun _ => ⟨_, rfl, FV_wR hv'⟩) (fun h => by cases h) ⟨_, rfl⟩ trivial
        · rintro a w1 ⟨n1, rfl⟩ hx hd K hK
          obtain ⟨r21, g21, f21⟩ := hd 4 (by kernel_rfl) 21 rfl
          have t21 := Reg.slot_val g21
          clear g21
          obtain ⟨r26, g26, f26⟩ := hd 9 (by kernel_rfl) 26 rfl
          have t26 := Reg.slot_val g26
          clear g26
          go_simp
          refine (laws_sameFloat _ _ _ _ f21 f26).mono ?_
          rintro en w2 ⟨rfl, n2, rfl⟩
          exact hK _ _ (fun _ => rfl) (fun h => by cases h) ⟨_, World.drewN_drewN ..⟩ trivial
        · rintro a w1 ⟨n1, rfl⟩ hx hd K hK
          have t27 : a.tmps[27]?.getD undef = .bool true := Reg.slot_val (hd 10 (by kernel_rfl) 27 rfl)
          go_simp
          exact hK _ _ (fun _ => rfl) (fun h => by cases h) ⟨_, rfl⟩ trivial
      · rintro f w1 ⟨n1, rfl⟩ hd hT
        have g28 : f 28 = .bool false := hd 11 28 rfl
        simp only [Reg.mixL, g28]
        go_wp2
        go_roundw
        case rel => exact ⟨k + 1, by omega, by go_num, _, rfl⟩
        case measure => simp [intOf]; omega
    · go_wp2
      go_ret
      exact ⟨rfl, _, rfl⟩
theorem eq_floats (a b : Option Addr) (n cap cap' : Nat) (fs : List (Option Nat)) (w : World) (ha : IsCs32 w a n cap fs) (hb : IsCs32 w b n cap' fs) (hlen : n ≤ 1048576) :
    Calls Try.prog 40 #[.slice a n cap, .slice b n cap'] w fun e w' => e = .returned (.bool true) ∧ ∃ n, w' = w.drewN n := by
  obtain ⟨zs, h1, h2, _⟩ := ha
  obtain ⟨ys, k1, k2, _⟩ := hb
  exact laws_eqFloatC a b n cap cap' zs ys fs w h1 k1 h2 k2 hlen
/-- A list outside the blocks that are marked is as it was. -/
theorem cs32_mark {lo hi lo' hi' : Nat} {w0 w w' : World} {a : Option Addr} {n cap : Nat} {fs : List (Option Nat)} (h : IsCs32 w a n cap fs) (hl : Lst lo' hi' w0 a n) (hM : Mark lo hi w w') (ho : hi' ≤ lo ∨ hi ≤ lo') : IsCs32 w' a n cap fs := by
  obtain ⟨zs, ⟨h1, h2, h3, h4, h5, h6⟩, k2, k3⟩ := h
  refine ⟨zs, ⟨h1, h2, h3, h4, h5, fun x hx i hlt => ?_⟩, k2, k3⟩
  rcases hl with ⟨e, _⟩ | ⟨b, e, hown⟩
  · rw [e] at hx; cases hx
  · rw [e] at hx; cases hx
    have := h6 _ e i hlt
    rw [addr_add'] at this ⊢
    have k1 := hown.1
    have k2 := hown.2.1
    exact hM.cell (by omega) this
end Go.Proofs.Ytmbekamnogbgaab


/-
How far the springs of a body are stretched: what the program returns. Conditions: none beyond that the body lies in memory.
-/
namespace Go.Proofs.Ytmbekamnogbgaab
open Go Fk Go.RowKit
set_option linter.unusedVariables false
set_option maxRecDepth 16000

/-- What is answered: how far each spring is stretched, if the body is valid. -/
def stT (c : Bc) : List (Option Nat) := bif bodyB c then c.ss.map (strC c.cs) else []
theorem body_ss {c : Bc} (h : bodyB c = true) : c.ss.length ≤ 200 ∧ ∀ k, k < c.ss.length → inB c.cs.length (c.ss.getD k s0).1 = true ∧ inB c.cs.length (c.ss.getD k s0).2.1 = true := by
  unfold bodyB at h
  simp only [Bool.and_eq_true, decide_eq_true_eq] at h
  obtain ⟨⟨⟨_, h1⟩, _⟩, h2⟩ := h
  refine ⟨h1, fun k hk => ?_⟩
  have h3 := List.all_eq_true.1 h2 (c.ss[k]) (List.getElem_mem hk)
  unfold springB at h3
  simp only [Bool.and_eq_true] at h3
  have e : c.ss.getD k s0 = c.ss[k] := by simp [List.getD, hk]
  rw [e]
  exact ⟨h3.1.1.1, h3.1.1.2⟩
theorem stT_len (c : Bc) : (stT c).length ≤ 200 := by
  unfold stT
  cases hv : bodyB c
  · simp
  · simpa using (body_ss hv).1
set_option maxHeartbeats 2000000 in
theorem impl_StretchesOf (B : Bd) (c : Bc) (w : World) (h : IsB w B c) :
    Calls Try.prog 39 #[B.v] w fun e w' => (∃ a cap, e = .returned (.tuple #[.slice a (stT c).length cap, .bool (bodyB c)]) ∧ IsCs32 w' a (stT c).length cap (stT c) ∧ Lst w.heap.size w'.heap.size w' a (stT c).length) ∧ Below w.heap.size w w' := by
  have uib := Try.underlying64
  have BX : Hid (Bx w [(w.heap.size, B.l)] (w.alloc (BoxB B 64))) := Lib.hid ((Bx.nil w).box (vs := B.l) (t := 64))
  have J := Lib.hid (impl_ValidBody B c (w.alloc (BoxB B 64)) (h.below BX.out.bel))
  have H := Lib.hid h
  have hmf : ∀ (fn : Fn) (first cap : Array Value) (w : World), (Instr.makeFunc fn first cap).run Try.prog w = .ok (.func fn first cap) w := fun _ _ _ _ => rfl
  cases hv : bodyB c
  · rw [hv] at J
    have he : stT c = [] := by unfold stT; rw [hv]; rfl
    rw [he]
    clear hv h he
    go_enter Try.func39, Try.ntmps39
    go_wp2_with fail
    change Calls _ _ _ (w.alloc (BoxB B 64)) _
    generalize (w.alloc (BoxB B 64)) = W at *
    refine J.out.mono ?_
    rintro e w1 ⟨rfl, hB1⟩
    have BX1 := Lib.hid (BX.out.call hB1)
    clear hB1
    go_wp2
    go_ret2
    exact ⟨⟨none, 0, rfl, ⟨[], ⟨rfl, Nat.le_refl _, by unfold maxLen; omega, fun z hz => (by cases hz), fun _ => ⟨rfl, rfl⟩, fun x hx => (by cases hx)⟩, fun k hk => absurd hk (by simp), rfl⟩, .inl ⟨rfl, rfl⟩⟩, BX1.out.bel⟩
  · rw [hv] at J
    obtain ⟨v1, v2⟩ := body_ss hv
    have he : stT c = c.ss.map (strC c.cs) := by unfold stT; rw [hv]; rfl
    have hpl : c.cs.length = B.pl := h.1.1
    have hsl : c.ss.length = B.sl := h.2.2.1.1
    rw [hpl, hsl] at v2
    rw [hsl] at v1
    have V2 := Lib.hid v2
    have V1 := Lib.hid v1
    rw [he]
    have HSL := Lib.hid hsl
    clear hv h he v1 v2 hpl hsl
    go_enter Try.func39, Try.ntmps39
    go_wp2_with fail
    change Calls _ _ _ (w.alloc (BoxB B 64)) _
    generalize (w.alloc (BoxB B 64)) = W at *
    refine J.out.mono ?_
    rintro e w1 ⟨rfl, hB1⟩
    have BX1 := Lib.hid (BX.out.call hB1)
    clear hB1 J
    have a2 := (BX1.out.mem (.head _)) 2 _ rfl
    go_wp2_with fail
    refine (measured_stretch w.heap.size B c.cs c.ss B.sl B.sa B.sc w1 (BX1.out.mem (.head _)) (H.out.below BX1.out.bel).1 (H.out.below BX1.out.bel).2.2.1 V2.out (by have := V1.out; omega)).mono ?_
    rintro e w2 ⟨zs, rfl, h1, h2, h3, hB2⟩
    have K1 := Lib.hid h1
    have K2 := Lib.hid h2
    have K3 := Lib.hid h3
    have BX2 := Lib.hid (BX1.out.call hB2)
    have Z := Lib.hid BX1.out.bel.size
    clear h1 h2 h3 hB2 a2
    go_wp2
    go_ret2
    have hl : (List.map (strC c.cs) c.ss).length = B.sl := by rw [List.length_map]; exact HSL.out
    rw [hl]
    refine ⟨⟨_, _, rfl, ⟨zs, K1.out, fun k hk => ?_, hl⟩, .inr ⟨w1.heap.size, rfl, Z.out, K3.out.2.1, K3.out.2.2⟩⟩, BX2.out.bel⟩
    have := K2.out k hk
    have hk' : k < c.ss.length := by rw [HSL.out]; exact hk
    simpa [List.getD, hk'] using this
end Go.Proofs.Ytmbekamnogbgaab


/-
Lists of floats of a call's own, as classes. Conditions: none.
-/
namespace Go.Proofs.Ytmbekamnogbgaab
open Go Fk Go.RowKit
set_option linter.unusedVariables false
set_option maxRecDepth 8000
/-- A list of floats of a call's own, as classes. -/
def OwnC (base : Nat) (w : World) (v : Value) (n : Nat) (F : Nat → Option Nat) : Prop := ∃ zs : List Nat, w.ownsRow base 52 1 v n (zs.map (Value.float .f32)) ∧ zs.length = n ∧ ∀ k, k < n → FV .f32 (zs.getD k 0) (F k)
theorem OwnC.up {base n : Nat} {w w' : World} {v : Value} {F : Nat → Option Nat} (h : OwnC base w v n F) (hB : Below w.heap.size w w') : OwnC base w' v n F := by
  obtain ⟨zs, h1, h2, h3⟩ := h
  exact ⟨zs, owns_up h1 hB, h2, h3⟩
theorem OwnC.is {base n : Nat} {w : World} {v : Value} {fs : List (Option Nat)} (h : OwnC base w v n fun k => fs.getD k none) (hn : fs.length = n) : ∃ a c, v = .slice a n c ∧ IsCs32 w a n c fs := by
  obtain ⟨zs, h1, h2, h3⟩ := h
  have h1' := h1
  have hb : ∀ z ∈ zs, z < 2 ^ FloatKind.f32.format.width := fun z hz => by
    obtain ⟨i, hi, rfl⟩ := List.mem_iff_getElem.1 hz
    have := (h3 i (by omega)).1
    simpa [List.getD, hi] using this
  rcases h1.2 with ⟨rfl, h0⟩ | ⟨g, cap, cur, rfl, hb', hh, hc1, hc2, hs, ht⟩
  · exact ⟨none, 0, by rw [h0], zs, ⟨h2, by omega, by unfold maxLen; omega, hb, fun _ => ⟨h0, rfl⟩, fun x hx => (by cases hx)⟩, h3, hn⟩
  · refine ⟨_, cap, rfl, zs, ⟨h2, hc1, hc2, hb, by simp, fun x hx i hi => ?_⟩, h3, hn⟩
    cases hx
    have hi' : i < zs.length := by omega
    rw [addr_add', Nat.zero_add, h1'.cellAt i (by omega)]
    simp [List.getD, hi']
end Go.Proofs.Ytmbekamnogbgaab

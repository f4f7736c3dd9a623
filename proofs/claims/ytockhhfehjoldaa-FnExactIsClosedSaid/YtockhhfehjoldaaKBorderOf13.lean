/-
Texts in one: what BorderOf stands on, part 13. Conditions: those of each.
-/
import Derived.Test.YtockhhfehjoldaaKBorderOf12
import Derived.WalkKit

/-
The copy of a body that the law makes, and that its lists may be written. Conditions: at most 2^20 of each.
-/
namespace Go.Proofs.Ytockhhfehjoldaa
open Go Fk Go.RowKit
set_option linter.unusedVariables false
set_option maxRecDepth 8000

/-- While a copy is filled: the argument's box, the box that is filled, and the result's box. -/
structure Tb (w : World) (l lo lr : List Value) (w1 : World) : Prop where
  arg : At w1 w.heap.size l
  out : At w1 (w.heap.size + 1 + 1) lo
  res : At w1 (w.heap.size + 1) lr
  fo : ∀ i, w1.frozen? ⟨w.heap.size + 1 + 1, i, none⟩ = false
  fr : ∀ i, w1.frozen? ⟨w.heap.size + 1, i, none⟩ = false
  bel : Below w.heap.size w w1
  big : w.heap.size + 1 + 1 < w1.heap.size
theorem Tb.start {w : World} {l z : List Value} {t t' : TypeId} : Tb w l z z (((w.alloc (.cells l.toArray t)).alloc (.cells z.toArray t')).alloc (.cells z.toArray t')) := by
  refine ⟨At.new.alloc.alloc, ?_, ?_, fun i => by go_simp, fun i => by go_simp, (((Below.refl _ _).alloc (Nat.le_refl _) _).alloc (by simp) _).alloc (by simp <;> omega) _, by simp⟩
  · have := At.new (w := (w.alloc (.cells l.toArray t)).alloc (.cells z.toArray t')) (vs := z) (t := t')
    simpa using this
  · have := (At.new (w := w.alloc (.cells l.toArray t)) (vs := z) (t := t')).alloc (o := .cells z.toArray t')
    simpa using this
theorem Tb.call {w w1 w2 : World} {l lo lr : List Value} (h : Tb w l lo lr w1) (hB : Below w1.heap.size w1 w2) : Tb w l lo lr w2 :=
  have hb := h.big
  ⟨h.arg.below hB, h.out.below hB, h.res.below hB, fun i => by rw [hB.frozen (p := ⟨w.heap.size + 1 + 1, i, none⟩) hb]; exact h.fo i,
    fun i => by rw [hB.frozen (p := ⟨w.heap.size + 1, i, none⟩) (by show w.heap.size + 1 < _; omega)]; exact h.fr i, h.bel.trans (hB.mono h.bel.size), Nat.lt_of_lt_of_le hb hB.size⟩
theorem at_setL_far {w : World} {b g o : Nat} {l vs : List Value} (h : At w b l) (hne : g ≠ b) : At (setL w g o vs) b l := fun i v hi => by rw [setL_far g b i hne]; exact h i v hi
theorem Tb.put {w w1 : World} {l lo lr vs : List Value} (h : Tb w l lo lr w1) (o : Nat) (hl : o + vs.length ≤ lo.length) : Tb w l (lo.take o ++ vs ++ lo.drop (o + vs.length)) lr (setL w1 (w.heap.size + 1 + 1) o vs) :=
  ⟨at_setL_far h.arg (by omega), at_setL h.out hl, at_setL_far h.res (by omega), fun i => by rw [setL_frozen]; exact h.fo i, fun i => by rw [setL_frozen]; exact h.fr i,
    setL_below _ (by omega) _ _ _ h.bel, by rw [setL_size]; exact h.big⟩
theorem Tb.fin {w w1 : World} {l lo lr vs' : List Value} (h : Tb w l lo lr w1) (hl : vs'.length = lr.length) : At (setL w1 (w.heap.size + 1) 0 vs') (w.heap.size + 1) vs' ∧ Below w.heap.size w (setL w1 (w.heap.size + 1) 0 vs') := by
  refine ⟨?_, setL_below _ (by omega) _ _ _ h.bel⟩
  have := at_setL (vs := vs') (o := 0) h.res (by omega)
  simpa [hl] using this
/-- All blocks but the two that are filled. -/
def Sx (w : World) (b : Nat) : Prop := b ≠ w.heap.size + 1 + 1 ∧ b ≠ w.heap.size + 1
theorem Sx.out {w : World} : ¬ Sx w (w.heap.size + 1 + 1) := fun h => h.1 rfl
theorem Sx.res {w : World} : ¬ Sx w (w.heap.size + 1) := fun h => h.2 rfl
theorem Sx.new {w : World} {lo hi : Nat} (h : w.heap.size + 1 + 1 < lo) : ∀ b, lo ≤ b → b < hi → Sx w b := fun b h1 _ => ⟨by omega, by omega⟩

theorem Own.agree {S : Nat → Prop} {W w : World} {lo hi b o n : Nat} (h : Own lo hi W b o n) (hS : ∀ b, lo ≤ b → b < hi → S b) (hA : Agree S W w) : Own lo hi w b o n :=
  ⟨h.1, h.2.1, Nat.lt_of_lt_of_le h.2.2.1 hA.size, fun j hj => by
    obtain ⟨⟨v, hv⟩, hf⟩ := h.2.2.2 j hj
    have hs := hS b h.1 h.2.1
    exact ⟨⟨v, hA.cell _ _ _ hs hv⟩, by rw [hA.frozen _ _ hs h.2.2.1]; exact hf⟩⟩
theorem OwnM.agree {S : Nat → Prop} {W w : World} {lo hi b b' pl tl : Nat} {ts : List (List Int)} (h : OwnM lo hi W b 0 b' 0 pl tl ts) (h1 : lo ≤ b') (h2 : b' < hi) (hS : ∀ b, lo ≤ b → b < hi → S b) (hA : Agree S W w) : OwnM lo hi w b 0 b' 0 pl tl ts := by
  obtain ⟨k1, k2, k3, k4⟩ := h
  refine ⟨k1.agree hS hA, fun j hj => ?_, k3, Nat.lt_of_lt_of_le k4 hA.size⟩
  obtain ⟨G, O, c, e1, e2, e3⟩ := k2 j hj
  exact ⟨G, O, c, e1, hA.cell _ _ _ (hS b' h1 h2) e2, e3.agree hS hA⟩
theorem Own.widen {lo hi lo' hi' : Nat} {w : World} {b o n : Nat} (h : Own lo hi w b o n) (h1 : lo' ≤ lo) (h2 : hi ≤ hi') : Own lo' hi' w b o n :=
  ⟨Nat.le_trans h1 h.1, Nat.lt_of_lt_of_le h.2.1 h2, h.2.2⟩
theorem OwnM.widen {lo hi lo' hi' : Nat} {w : World} {b b' pl tl : Nat} {ts : List (List Int)} (h : OwnM lo hi w b 0 b' 0 pl tl ts) (h1 : lo' ≤ lo) (h2 : hi ≤ hi') : OwnM lo' hi' w b 0 b' 0 pl tl ts := by
  obtain ⟨k1, k2, k3, k4⟩ := h
  refine ⟨k1.widen h1 h2, fun j hj => ?_, k3, k4⟩
  obtain ⟨G, O, c, e1, e2, e3⟩ := k2 j hj
  exact ⟨G, O, c, e1, e2, e3.widen h1 h2⟩
/-- A body's lists that may be written. -/
def OwnB (lo hi : Nat) (w : World) (B : Bd) (ts : List (List Int)) : Prop :=
  ∃ P R S G, B.pa = some ⟨P, 0, none⟩ ∧ B.ta = some ⟨R, 0, none⟩ ∧ B.sa = some ⟨S, 0, none⟩ ∧ B.wa = some ⟨G, 0, none⟩ ∧ OwnM lo hi w P 0 R 0 B.pl B.tl ts ∧ (lo ≤ R ∧ R < hi) ∧ Own lo hi w S 0 (B.sl * 4) ∧ Own lo hi w G 0 B.wl
theorem OwnB.agree {S : Nat → Prop} {W w : World} {lo hi : Nat} {B : Bd} {ts : List (List Int)} (h : OwnB lo hi W B ts) (hS : ∀ b, lo ≤ b → b < hi → S b) (hA : Agree S W w) : OwnB lo hi w B ts := by
  obtain ⟨P, R, T, G, e1, e2, e3, e4, m, r, s, g⟩ := h
  exact ⟨P, R, T, G, e1, e2, e3, e4, m.agree r.1 r.2 hS hA, r, s.agree hS hA, g.agree hS hA⟩
theorem OwnB.wide {lo hi lo' hi' : Nat} {w : World} {B : Bd} {ts : List (List Int)} (h : OwnB lo hi w B ts) (h1 : lo' ≤ lo) (h2 : hi ≤ hi') : OwnB lo' hi' w B ts := by
  obtain ⟨P, R, T, G, e1, e2, e3, e4, m, r, s, g⟩ := h
  exact ⟨P, R, T, G, e1, e2, e3, e4, m.widen h1 h2, ⟨by omega, by omega⟩, s.widen h1 h2, g.widen h1 h2⟩
theorem OwnB.below {W w : World} {lo hi : Nat} {B : Bd} {ts : List (List Int)} (h : OwnB lo hi W B ts) (hB : Below W.heap.size W w) : OwnB lo hi w B ts :=
  h.agree (S := fun _ => True) (fun _ _ _ => trivial) (Agree.of_below hB)
theorem OwnB.lb {w : World} {lo hi : Nat} {B : Bd} {ts : List (List Int)} (h : OwnB lo hi w B ts) : LB lo hi w B := by
  obtain ⟨P, R, T, G, e1, e2, e3, e4, m, r, s, g⟩ := h
  refine ⟨fun x hx => ?_, fun x hx => ?_, fun x hx => ?_, fun x hx => ?_⟩
  · rw [e1] at hx; cases hx; exact ⟨P, rfl, m.1.1, m.1.2.1⟩
  · rw [e2] at hx; cases hx
    refine ⟨R, rfl, r.1, r.2, fun i hi => ?_⟩
    obtain ⟨G', O, c, _, k2, k3⟩ := m.2.1 i hi
    rw [Nat.zero_add] at k2
    exact ⟨_, _, c, k2, fun y hy => by cases hy; exact ⟨G', O, rfl, k3.1, k3.2.1⟩⟩
  · rw [e3] at hx; cases hx; exact ⟨T, rfl, s.1, s.2.1⟩
  · rw [e4] at hx; cases hx; exact ⟨G, rfl, g.1, g.2.1⟩
theorem own_ss {w : World} {lo b n c : Nat} {ss : List SC} (h : IsSs w (some ⟨b, 0, none⟩) n c ss) (h1 : lo ≤ b) (h2 : b < w.heap.size) (hf : ∀ i, w.frozen? ⟨b, i, none⟩ = false) : Own lo w.heap.size w b 0 (n * 4) := by
  refine ⟨h1, h2, h2, fun j hj => ⟨?_, hf _⟩⟩
  obtain ⟨p, q, k0, k1, k2, k3, _⟩ := h.2.2.2.2.2 _ rfl (j / 4) (by omega)
  rw [addr_add'] at k0 k1 k2 k3
  have hm : j % 4 = 0 ∨ j % 4 = 1 ∨ j % 4 = 2 ∨ j % 4 = 3 := by omega
  rcases hm with e | e | e | e
  · exact ⟨_, by rw [show 0 + j = 0 + (j / 4 * 4) by omega]; exact k0⟩
  · exact ⟨_, by rw [show 0 + j = 0 + (j / 4 * 4 + 1) by omega]; exact k1⟩
  · exact ⟨_, by rw [show 0 + j = 0 + (j / 4 * 4 + 2) by omega]; exact k2⟩
  · exact ⟨_, by rw [show 0 + j = 0 + (j / 4 * 4 + 3) by omega]; exact k3⟩
theorem own_fs {w : World} {lo b n c : Nat} {zs : List Nat} (h : IsFs .f32 w (some ⟨b, 0, none⟩) n c zs) (h1 : lo ≤ b) (h2 : b < w.heap.size) (hf : ∀ i, w.frozen? ⟨b, i, none⟩ = false) : Own lo w.heap.size w b 0 n := by
  refine ⟨h1, h2, h2, fun j hj => ⟨?_, hf _⟩⟩
  have k0 := h.2.2.2.2.2 _ rfl j hj
  rw [addr_add'] at k0
  exact ⟨_, k0⟩
abbrev Z9' : List Value := [.slice none 0 0, .slice none 0 0, .slice none 0 0, .float .f32 0, .float .f32 0, .slice none 0 0, .float .f32 0, .float .f32 0, .float .f32 0]
end Go.Proofs.Ytockhhfehjoldaa


/-
Rows of three numbers: what the program divides a list into. Conditions: a list of whole rows at the head of a block.
-/
namespace Go.Proofs.Ytockhhfehjoldaa
open Go Fk Go.RowKit
set_option linter.unusedVariables false
set_option maxRecDepth 8000

def rowVs (fb : Nat) (k : Nat) : List Value := (List.range k).map fun j => Value.slice (some ⟨fb, j * 3, none⟩) 3 3
theorem rowVs_snoc (fb k : Nat) : rowVs fb (k + 1) = rowVs fb k ++ [Value.slice (some ⟨fb, k * 3, none⟩) 3 3] := by
  unfold rowVs; rw [List.range_succ, List.map_append]; rfl
set_option maxHeartbeats 1000000 in
theorem rows_of (fb n fc : Nat) (w : World) (hn : n ≤ 1000000) (hc : n * 3 ≤ fc) :
    Calls Try.prog 75 #[.slice (some ⟨fb, 0, none⟩) (n * 3) fc, .int .i64 3] w fun e w' => ∃ v, e = .returned v ∧ w'.ownsRow w.heap.size 38 1 v n (rowVs fb n) ∧ Below w.heap.size w w' := by
  obtain ⟨i0, hi, hz0, hz1, hz2⟩ := info_parts infoS
  have hq' : ((n : Int) * 3).tdiv 3 = n := Int.mul_tdiv_cancel _ (by decide)
  have hq : ((n * 3 : Nat) : Int).tdiv 3 = n := by rw [Int.natCast_mul]; exact hq'
  have hmk : (Instr.makeSlice 23 (.int .i64 0) (.int .i64 n)).run Try.prog w = .ok (.slice (some ⟨w.heap.size, 0, none⟩) 0 n) (w.alloc (.cells (madeCells #[.slice none 0 0] n) 38)) := by
    have := run_make (P := Try.prog) w 23 38 i0 (.slice none 0 0) Try.underlying23 hi hz0 .i64 .i64 0 n (by omega) (by omega) (by rw [hz2]; omega) (by omega)
    rw [this, hz1]; simp; rfl
  have hst : (w.alloc (.cells (madeCells #[.slice none 0 0] n) 38)).ownsRow w.heap.size 38 1 (.slice (some ⟨w.heap.size, 0, none⟩) 0 n) 0 [] :=
    World.ownsRow_made (e := 38) (size := 1) w _ n (Nat.le_refl _) (by unfold maxLen; omega) (by unfold madeCells; simp)
  have HST := Lib.hid hst
  have HB0 := Lib.hid ((Below.refl w.heap.size w).alloc (Nat.le_refl _) (.cells (madeCells #[.slice none 0 0] n) 38))
  clear hst
  go_enter Try.func75, Try.ntmps75
  go_wp2
  generalize hCH : w.alloc (.cells (madeCells #[.slice none 0 0] n) 38) = W at *
  go_loopw [5, 6] (fun v i w' => ∃ k : Nat, k ≤ n ∧ i = .int .i64 ((k * 3 : Nat) : Int) ∧ Aside (w'.ownsRow w.heap.size 38 1 v k (rowVs fb k) ∧ Below w.heap.size w w')) (fun _ i _ => n * 3 - (intOf i).toNat)
  case atStart => exact ⟨0, Nat.zero_le _, rfl, HST.out, HB0.out⟩
  case round =>
    obtain ⟨k, hk, hik, hA⟩ := hrel
    subst hik
    obtain ⟨hown, hB⟩ := hA.out
    have HB := Lib.hid hB
    have HOWN := Lib.hid hown
    have hbz := Lib.hid hB.size
    clear hmk HST hq hq'
    by_cases hlt : k < n
    · have hk0 : (0 : Int) ≤ (k : Int) := by omega
      have hk1 : (k : Int) * 3 < (n : Int) * 3 := by omega
      clear hA hB hown
      go_wp2_with (at_builtin; refine wpList_append_own _ rfl _ _ 23 rfl w.heap.size 38 i0 (.slice none 0 0) 1 24 Try.underlying23 hi hz0 hz1 hz2 rfl (by decide) _ _ _ rfl (HOWN.out.alloc _) ⟨wr.heap.size, 0, none⟩ 1 1 [.slice (some ⟨fb, k * 3, none⟩) 3 3] rfl rfl ?c1 ?c2 ?c3 ?c4 ?c5 ?_)
      case c1 =>
        intro j u hj
        match j, hj with
        | 0, hj => simp at hj; subst hj; simp [Addr.add]
      case c2 => intro u hu; simp at hu; subst hu; rfl
      case c3 => unfold maxLen; omega
      case c4 => omega
      case c5 => have := hbz.out; simp; omega
      · intro v' w1 hown' hgrow _
        have hB1 : Below w.heap.size w (wr.alloc (.cells #[.slice (some ⟨fb, k * 3, none⟩) 3 3] 38)) := HB.out.alloc hbz.out _
        have HB1 := Lib.hid (hB1.grown hgrow hB1.size (fun k hk => (HOWN.out.lt k hk).1))
        have HO1 := Lib.hid hown'
        clear hown' hgrow hB1
        go_wp2
        go_roundw
        case rel => exact ⟨k + 1, by omega, by go_num, by rw [rowVs_snoc]; exact HO1.out, HB1.out⟩
        case measure => simp [intOf]; omega
    · obtain rfl : k = n := by omega
      clear hA hB hown
      go_wp2
      go_ret
      exact ⟨_, rfl, HOWN.out, HB.out⟩
end Go.Proofs.Ytockhhfehjoldaa


/-
Triangles in the form in which callers get them: what the program makes. Conditions: arrays of three numbers that lie in memory.
-/
namespace Go.Proofs.Ytockhhfehjoldaa
open Go Fk Go.RowKit
set_option linter.unusedVariables false
set_option maxRecDepth 8000

def flatV (ts : List (List Int)) : Nat → List Value
  | 0 => []
  | k + 1 => flatV ts k ++ [.int .i64 ((ts.getD k []).getD 0 0), .int .i64 ((ts.getD k []).getD 1 0), .int .i64 ((ts.getD k []).getD 2 0)]
theorem flatV_len (ts : List (List Int)) (k : Nat) : (flatV ts k).length = k * 3 := by
  induction k with
  | zero => rfl
  | succ k ih => unfold flatV; rw [List.length_append, ih]; simp; omega
theorem owns_below' {w w' : World} {base : Nat} {e : TypeId} {size : Nat} {v : Value} {n : Nat} {xs : List Value} (h : w.ownsRow base e size v n xs) (hB : Below w.heap.size w w') : w'.ownsRow base e size v n xs :=
  h.kept (row := none) ⟨hB.os, hB.tape, hB.output, hB.size, fun k hk _ => hB.block k hk⟩ (by cases v.ownBlock <;> simp)
set_option maxHeartbeats 1000000 in
theorem triangle_lists' (cb tl cc : Nat) (ts : List (List Int)) (w : World) (hc : IsCs w cb tl ts) (hlen : tl ≤ 1000000) :
    Calls Try.prog 87 #[.slice (some ⟨cb, 0, none⟩) tl cc] w fun e w' => ∃ v fb fc, e = .returned v ∧ w.heap.size ≤ fb ∧ w'.ownsRow (fb + 1) 38 1 v tl (rowVs fb tl) ∧ w'.ownsRow w.heap.size 2 1 (.slice (some ⟨fb, 0, none⟩) (tl * 3) fc) (tl * 3) (flatV ts tl) ∧ Below w.heap.size w w' := by
  have uc := Try.underlying83
  obtain ⟨i0, hi, hz0, hz1, hz2⟩ := info_parts info64
  have hmk : (Instr.makeSlice 38 (.int .i64 0) (.int .i64 (3 * (tl : Int)))).run Try.prog w = .ok (.slice (some ⟨w.heap.size, 0, none⟩) 0 (tl * 3)) (w.alloc (.cells (madeCells #[.int .i64 0] (tl * 3)) 2)) := by
    have := run_make (P := Try.prog) w 38 2 i0 (.int .i64 0) Try.underlying38 hi hz0 .i64 .i64 0 (3 * (tl : Int)) (by omega) (by omega) (by rw [hz2]; omega) (by omega)
    rw [this, hz1, show (3 * (tl : Int)).toNat = tl * 3 by omega]; simp; rfl
  have hst : (w.alloc (.cells (madeCells #[.int .i64 0] (tl * 3)) 2)).ownsRow w.heap.size 2 1 (.slice (some ⟨w.heap.size, 0, none⟩) 0 (tl * 3)) 0 [] :=
    World.ownsRow_made (e := 2) (size := 1) w _ (tl * 3) (Nat.le_refl _) (by unfold maxLen; omega) (by unfold madeCells; simp)
  have HST := Lib.hid hst
  have HB0 := Lib.hid ((Below.refl w.heap.size w).alloc (Nat.le_refl _) (.cells (madeCells #[.int .i64 0] (tl * 3)) 2))
  have HC := Lib.hid hc
  clear hst hc
  go_enter Try.func87, Try.ntmps87
  go_wp2
  generalize hCH : w.alloc (.cells (madeCells #[.int .i64 0] (tl * 3)) 2) = W at *
  go_loopw [3, 12] (fun v i w' => ∃ k : Nat, k ≤ tl ∧ i = .int .i64 k ∧ Aside (w'.ownsRow w.heap.size 2 1 v (k * 3) (flatV ts k) ∧ v ≠ .slice none 0 0 ∧ Below w.heap.size w w')) (fun _ i _ => tl - (intOf i).toNat)
  case atStart => exact ⟨0, Nat.zero_le _, rfl, HST.out, by simp, HB0.out⟩
  case round =>
    obtain ⟨k, hk, hik, hA⟩ := hrel
    subst hik
    obtain ⟨hown, hne, hB⟩ := hA.out
    have HB := Lib.hid hB
    have HOWN := Lib.hid hown
    have HNE := Lib.hid hne
    have hbz := Lib.hid hB.size
    clear hmk HST
    by_cases hlt : k < tl
    · have hk0 : (0 : Int) ≤ (k : Int) := by omega
      have hk1 : (k : Int) < (tl : Int) := by omega
      obtain ⟨z0, z1, z2⟩ := (HC.out.below hB) k hlt
      have lb := World.block_lt_of_cell? _ _ z0
      have HFV : Hid (flatV ts (k + 1) = flatV ts k ++ [.int .i64 ((ts.getD k []).getD 0 0), .int .i64 ((ts.getD k []).getD 1 0), .int .i64 ((ts.getD k []).getD 2 0)]) := rfl
      generalize (ts.getD k []).getD 0 0 = j0 at *
      generalize (ts.getD k []).getD 1 0 = j1 at *
      generalize (ts.getD k []).getD 2 0 = j2 at *
      clear hA hB hown hne
      go_wp2_with (at_builtin; refine wpList_append_own _ rfl _ _ 38 rfl w.heap.size 2 i0 (.int .i64 0) 1 8 Try.underlying38 hi hz0 hz1 hz2 rfl (by decide) _ _ _ rfl (HOWN.out.alloc _) ⟨wr.heap.size, 0, none⟩ 3 3 [.int .i64 j0, .int .i64 j1, .int .i64 j2] rfl rfl ?c1 ?c2 ?c3 ?c4 ?c5 ?_)
      case c2 => first | exact ⟨rfl, rfl, rfl⟩ | (intro u hu; simp at hu; rcases hu with rfl | rfl | rfl <;> rfl)
      case c3 => unfold maxLen; omega
      case c4 => omega
      case c5 => have := hbz.out; simp; omega
      · intro v' w1 hown' hgrow hnil
        have hB1 : Below w.heap.size w (wr.alloc (.cells #[.int .i64 j0, .int .i64 j1, .int .i64 j2] 83)) := HB.out.alloc hbz.out _
        have HB1 := Lib.hid (hB1.grown hgrow hB1.size (fun k hk => (HOWN.out.lt k hk).1))
        have HO1 := Lib.hid hown'
        have HN1 := Lib.hid (show v' ≠ .slice none 0 0 from fun h => by first | exact hnil h | exact HNE.out (hnil.1 h).1)
        clear hown' hgrow hB1 hnil
        go_wp2
        go_roundw
        case rel => exact ⟨k + 1, by omega, by go_num, by rw [HFV.out, show (k + 1) * 3 = k * 3 + 3 by omega]; exact HO1.out, HN1.out, HB1.out⟩
        case measure => simp [intOf]; omega
    · obtain rfl : k = tl := by omega
      obtain ⟨fb, fc, hv, hfb, hfc⟩ : ∃ fb fc, _ = Value.slice (some ⟨fb, 0, none⟩) (k * 3) fc ∧ w.heap.size ≤ fb ∧ k * 3 ≤ fc := by
        obtain ⟨_, h2⟩ := hown
        rcases h2 with ⟨h2, _⟩ | ⟨g, cap, cur, h3, h4, _, h5, _⟩
        · exact absurd h2 hne
        · exact ⟨g, cap, h3, h4, h5⟩
      subst hv
      have hlt := HOWN.out.lt fb rfl
      clear hA hB hown hne
      go_wp2_with (go_at_call 75; refine (rows_of fb k fc wr (by omega) hfc).mono ?_; rintro e w2 ⟨v, rfl, hr, hb2⟩; have HR := Lib.hid hr; have HB2 := Lib.hid hb2; clear hr hb2)
      go_ret
      exact ⟨v, fb, fc, rfl, hfb, (by
        obtain ⟨h1, h2⟩ := HR.out
        refine ⟨h1, h2.imp id ?_⟩
        rintro ⟨g, cap, cur, h3, h4, h5⟩
        exact ⟨g, cap, cur, h3, by omega, h5⟩), owns_below' HOWN.out HB2.out, HB.out.trans (HB2.out.mono hbz.out)⟩
theorem triangle_lists (cb tl : Nat) (ts : List (List Int)) (w : World) (hc : IsCs w cb tl ts) (hlen : tl ≤ 1000000) :
    Calls Try.prog 87 #[.slice (some ⟨cb, 0, none⟩) tl tl] w fun e w' => ∃ v fb fc, e = .returned v ∧ w.heap.size ≤ fb ∧ w'.ownsRow (fb + 1) 38 1 v tl (rowVs fb tl) ∧ w'.ownsRow w.heap.size 2 1 (.slice (some ⟨fb, 0, none⟩) (tl * 3) fc) (tl * 3) (flatV ts tl) ∧ Below w.heap.size w w' := triangle_lists' cb tl tl ts w hc hlen
end Go.Proofs.Ytockhhfehjoldaa


/-
Meshes that the program makes: rows in one list, and where all lies. Conditions: none.
-/
namespace Go.Proofs.Ytockhhfehjoldaa
open Go Fk Go.RowKit
set_option linter.unusedVariables false
set_option maxRecDepth 8000
theorem flatV_get (ts : List (List Int)) (k j i : Nat) (hj : j < k) (hi : i < 3) : (flatV ts k)[j * 3 + i]? = some (.int .i64 ((ts.getD j []).getD i 0)) := by
  induction k with
  | zero => omega
  | succ k ih =>
    unfold flatV
    by_cases h : j < k
    · rw [List.getElem?_append_left (by rw [flatV_len]; omega)]
      exact ih h
    · obtain rfl : j = k := by omega
      rw [List.getElem?_append_right (by rw [flatV_len]; omega), flatV_len]
      have : i = 0 ∨ i = 1 ∨ i = 2 := by omega
      rcases this with rfl | rfl | rfl
      · rw [show j * 3 + 0 - j * 3 = 0 by omega]; rfl
      · rw [show j * 3 + 1 - j * 3 = 1 by omega]; rfl
      · rw [show j * 3 + 2 - j * 3 = 2 by omega]; rfl
theorem rows_mesh {w : World} {lo fb fc tl : Nat} {v : Value} {ts : List (List Int)} (hv : w.ownsRow (fb + 1) 38 1 v tl (rowVs fb tl)) (hf : w.ownsRow lo 2 1 (.slice (some ⟨fb, 0, none⟩) (tl * 3) fc) (tl * 3) (flatV ts tl)) (hn : ts.length = tl) (h3 : ∀ j, j < tl → (ts.getD j []).length = 3) (hz : ∀ j, j < tl → ∀ z ∈ ts.getD j [], (Lit.int .i64 z).wf = true) :
    ∃ a c, v = .slice a tl c ∧ IsTs w a tl c ts ∧ Flat lo w.heap.size w a tl fb := by
  have hv' := hv
  obtain ⟨f1, f2⟩ := hf.lt fb rfl
  rcases hv.2 with ⟨rfl, hn0⟩ | ⟨g, cap, cur, rfl, hb, hh, hc1, hc2, hs, ht⟩
  · exact ⟨none, 0, by rw [hn0], ⟨hn, by omega, by unfold maxLen; omega, fun _ => ⟨hn0, rfl⟩, fun x hx => (by cases hx)⟩, .inl ⟨rfl, hn0⟩⟩
  · obtain ⟨g1, g2⟩ := hv'.lt g rfl
    have hrow : ∀ j, j < tl → w.cell? ⟨g, j, none⟩ = some (.slice (some ⟨fb, j * 3, none⟩) 3 3) := fun j hj => by
      rw [hv'.cellAt j (by omega)]; unfold rowVs; simp [hj]
    refine ⟨_, cap, rfl, ⟨hn, hc1, hc2, by simp, fun x hx i hi => ?_⟩, .inr ⟨g, rfl, by omega, g2, g2, by omega, fun j hj => ⟨3, hrow j hj⟩, f1, f2, f2, fun j hj => ?_⟩⟩
    · cases hx
      refine ⟨_, _, _, by rw [addr_add', Nat.zero_add]; exact hrow i hi, h3 i hi, Nat.le_refl _, by unfold maxLen; omega, hz i hi, by simp, fun y hy q hq => ?_⟩
      cases hy
      rw [addr_add', hf.cellAt _ (by omega), flatV_get ts tl i q hi hq]
    · refine ⟨⟨.int .i64 ((ts.getD (j / 3) []).getD (j % 3) 0), ?_⟩, by rw [Nat.zero_add]; exact hf.frozenAt j⟩
      rw [Nat.zero_add, hf.cellAt _ (by omega)]
      have := flatV_get ts tl (j / 3) (j % 3) (by omega) (by omega)
      rwa [show j / 3 * 3 + j % 3 = j by omega] at this
theorem PVf.more {n k : Nat} {xs : List Value} {F : Nat → C3} (h : PVf k xs F) (hl : xs.length = n * 3) (hk : k < n) {p q r : Nat} (hf : FV .f32 p (F k).1 ∧ FV .f32 q (F k).2.1 ∧ FV .f32 r (F k).2.2) :
    PVf (k + 1) (((xs.set (k * 3) (.float .f32 p)).set (k * 3 + 1) (.float .f32 q)).set (k * 3 + 2) (.float .f32 r)) F := fun j hj => by
  by_cases hjk : j = k
  · subst hjk
    refine ⟨p, q, r, ?_, ?_, ?_, hf⟩
    · rw [List.getElem?_set_ne (by omega), List.getElem?_set_ne (by omega), List.getElem?_set_self (by omega)]
    · rw [List.getElem?_set_ne (by omega), List.getElem?_set_self (by simp; omega)]
    · rw [List.getElem?_set_self (by simp; omega)]
  · obtain ⟨p', q', r', h1, h2, h3, h4⟩ := h j (by omega)
    refine ⟨p', q', r', ?_, ?_, ?_, h4⟩
    · rw [List.getElem?_set_ne (by omega), List.getElem?_set_ne (by omega), List.getElem?_set_ne (by omega)]; exact h1
    · rw [List.getElem?_set_ne (by omega), List.getElem?_set_ne (by omega), List.getElem?_set_ne (by omega)]; exact h2
    · rw [List.getElem?_set_ne (by omega), List.getElem?_set_ne (by omega), List.getElem?_set_ne (by omega)]; exact h3
/-- The answer of a function of the program that makes a mesh, or none. -/
def MadeG (w w' : World) (e : Ending) (ok : Bool) (cs : List C3) (ts : List (List Int)) : Prop :=
  (∃ a c a' c' F, e = .returned (.tuple #[.agg #[.slice a cs.length c, .slice a' ts.length c'], .bool ok]) ∧ IsVs w' a cs.length c cs ∧ IsTs w' a' ts.length c' ts ∧ GM w.heap.size w'.heap.size w' a a' cs.length ts.length F) ∧ Below w.heap.size w w'
theorem madeG_none {w w' : World} {ok : Bool} (hB : Below w.heap.size w w') : MadeG w w' (.returned (.tuple #[.agg #[.slice none 0 0, .slice none 0 0], .bool ok])) ok [] [] :=
  ⟨⟨none, 0, none, 0, 0, rfl, ⟨rfl, Nat.le_refl _, by unfold maxLen; omega, fun _ => ⟨rfl, rfl⟩, fun x hx => (by cases hx)⟩, ⟨rfl, Nat.le_refl _, by unfold maxLen; omega, fun _ => ⟨rfl, rfl⟩, fun x hx => (by cases hx)⟩, .inl ⟨rfl, rfl⟩, .inl ⟨rfl, rfl⟩, fun x hx => (by cases hx)⟩, hB⟩
theorem lst_of_owns {w : World} {base n c : Nat} {e : TypeId} {a : Option Addr} {xs : List Value} (h : w.ownsRow base e 3 (.slice a n c) n xs) : Lst base w.heap.size w a (n * 3) := by
  have h' := h
  rcases h.2 with ⟨e, e0⟩ | ⟨g, cap, cur, e, hb, hh, hc1, hc2, hs, ht⟩
  · cases e; exact .inl ⟨rfl, by omega⟩
  · obtain ⟨g1, g2⟩ := h'.lt g (by rw [e]; rfl)
    cases e
    refine .inr ⟨g, rfl, g1, g2, g2, fun j hj => ⟨?_, by rw [Nat.zero_add]; exact h'.frozenAt j⟩⟩
    rw [Nat.zero_add, h'.cellAt j hj]
    have : j < xs.length := by rw [h'.1]; exact hj
    exact ⟨_, List.getElem?_eq_getElem this⟩
theorem gm_of {w : World} {base b2 pl tl c fb : Nat} {a a' : Option Addr} {xs : List Value} (h : w.ownsRow b2 88 3 (.slice a pl c) pl xs) (hb : base ≤ b2) (hF : Flat b2 w.heap.size w a' tl fb) (h1 : ∀ P, a = some P → P.block ≠ fb ∧ ∀ R, a' = some R → P.block ≠ R.block) : GM base w.heap.size w a a' pl tl fb :=
  ⟨lst_of_owns (owns_low h hb), hF.imp id fun ⟨R, e, k1, k2, k3, k4, k5, k6⟩ => ⟨R, e, by omega, k2, k3, k4, k5, by have := k6.1; omega, k6.2⟩, h1⟩
end Go.Proofs.Ytockhhfehjoldaa

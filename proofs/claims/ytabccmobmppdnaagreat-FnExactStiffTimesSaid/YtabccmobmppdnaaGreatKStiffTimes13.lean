/-
Texts in one: what StiffTimes stands on, part 13. Conditions: those of each.
-/
import Derived.Test.YtabccmobmppdnaaGreatKStiffTimes12
import Derived.Maps.OwnOps
import Derived.Maps.OwnSet
import Derived.DeepKeys4
import Derived.Lib.Hide
import Derived.WalkKit
-- halved
namespace Go.Proofs.YtabccmobmppdnaaGreat
open Go Fk Go.RowKit
set_option linter.unusedVariables false
set_option maxRecDepth 8000
structure Tri3 (n : Nat) (t : List Int) : Prop where
 d01 : t.getD 0 0 ≠ t.getD 1 0
 d12 : t.getD 1 0 ≠ t.getD 2 0
 d02 : t.getD 0 0 ≠ t.getD 2 0
 r0 : 0 ≤ t.getD 0 0 ∧ t.getD 0 0 < (n : Int)
 r1 : 0 ≤ t.getD 1 0 ∧ t.getD 1 0 < (n : Int)
 r2 : 0 ≤ t.getD 2 0 ∧ t.getD 2 0 < (n : Int)
theorem tri3_of {n : Nat} {t : List Int} (h : triB n t = true) : Tri3 n t := by
 have hp := (tri_partsh h).2
 unfold triB at h
 simp only [Bool.and_eq_true, decide_eq_true_eq] at h
 obtain ⟨_, ⟨h1, h2⟩, h3⟩ := h
 have k0 := hp 0 (by decide)
 have k1 := hp 1 (by decide)
 have k2 := hp 2 (by decide)
 exact ⟨h1, h2, h3, ⟨k0.1, by omega⟩, ⟨k1.1, by omega⟩, ⟨k2.1, by omega⟩⟩
theorem mem_rowsE {L : List (Int × Int)} {n m : Nat} {r : List Int} : r ∈ rowsE L n m ↔ ∃ a b : Nat, a < m ∧ b < n ∧ a < b ∧ ((a : Int), (b : Int)) ∈ L ∧ r = [(a : Int), (b : Int)] := by
 unfold rowsE rowE
 simp only [List.mem_flatMap, List.mem_range, List.mem_map, List.mem_filter, Bool.and_eq_true, decide_eq_true_eq]
 constructor
 ·rintro ⟨a, ha, b, ⟨hb, hab, hm⟩, rfl⟩
  exact ⟨a, b, ha, hb, hab, hm, rfl⟩
 ·rintro ⟨a, b, ha, hb, hab, hm, rfl⟩
  exact ⟨a, ha, b, ⟨hb, hab, hm⟩, rfl⟩
end Go.Proofs.YtabccmobmppdnaaGreat
namespace Go.Proofs.YtabccmobmppdnaaGreat
open Go Fk Go.RowKit Go.Maps
set_option linter.unusedVariables false
set_option maxRecDepth 8000
end Go.Proofs.YtabccmobmppdnaaGreat
namespace Go.Proofs.YtabccmobmppdnaaGreat
open Go Fk Go.RowKit
set_option linter.unusedVariables false
set_option maxRecDepth 8000
def IsCs (w : World) (b n : Nat) (ts : List (List Int)) : Prop := ∀ k, k < n → w.cell? ⟨b, k * 3, none⟩ = some (.int .i64 ((ts.getD k []).getD 0 0)) ∧ w.cell? ⟨b, k * 3 + 1, none⟩ = some (.int .i64 ((ts.getD k []).getD 1 0)) ∧ w.cell? ⟨b, k * 3 + 2, none⟩ = some (.int .i64 ((ts.getD k []).getD 2 0))
theorem IsCs.below {W w : World} {b n : Nat} {ts : List (List Int)} (hb : Below W.heap.size W w) (h : IsCs W b n ts) : IsCs w b n ts := fun k hk => ⟨cell_below hb (h k hk).1, cell_below hb (h k hk).2.1, cell_below hb (h k hk).2.2⟩
theorem infoC : (Tryz.prog.info? 190).map (fun i => (i.zero, i.size, i.bytes)) = some (some (.agg #[.int .i64 0, .int .i64 0, .int .i64 0]), 3, 24) := by kernel_rfl
end Go.Proofs.YtabccmobmppdnaaGreat
namespace Go.Proofs.YtabccmobmppdnaaGreat
open Go Fk Go.RowKit Go.Maps
set_option linter.unusedVariables false
set_option maxRecDepth 16000
theorem side_ix (a b c d e f : Int) (j : Nat) (hj : j < 3) : ∀ w, (Instr.index 242 (.agg #[.int .i64 a, .int .i64 b, .int .i64 c, .int .i64 d, .int .i64 e, .int .i64 f]) (.int .i64 (j : Int))).run Tryz.prog w = .ok (.agg #[.int .i64 ([a, c, e].getD j 0), .int .i64 ([b, d, f].getD j 0)]) w := by
 have u := Tryz.underlying241
 have ua := Tryz.underlying242
 intro w
 have : j = 0 ∨ j = 1 ∨ j = 2 := by omega
 rcases this with rfl | rfl | rfl
 all_goals
  first
   | rfl
   | (simp [Instr.index, u, ua, go_sem]; done)
theorem impl_sides (a b c : Int) (w : World) : Calls Tryz.prog 196 #[.agg #[.int .i64 a, .int .i64 b, .int .i64 c]] w fun e w' => e = .returned (.agg #[.int .i64 a, .int .i64 b, .int .i64 b, .int .i64 c, .int .i64 c, .int .i64 a]) ∧ Below w.heap.size w w' := by
 have uc := Tryz.underlying190
 have us := Tryz.underlying241
 have ua := Tryz.underlying242
 go_enter Tryz.func196, Tryz.ntmps196
 go_wp2
 refine bodyPost_ret (v := .agg #[.int .i64 a, .int .i64 b, .int .i64 b, .int .i64 c, .int .i64 c, .int .i64 a]) (by simp [results, Tryz.results196, go_sem]) rfl ?_
 exact ⟨rfl, ((Below.refl _ _).alloc (Nat.le_refl _) _).alloc (by simp) _⟩
end Go.Proofs.YtabccmobmppdnaaGreat
namespace Go.Proofs.YtabccmobmppdnaaGreat
open Go Fk Go.RowKit
set_option linter.unusedVariables false
set_option maxRecDepth 8000
structure Tb (w : World) (l lo lr : List Value) (w1 : World) : Prop where
 arg : At w1 w.heap.size l
 out : At w1 (w.heap.size + 1 + 1) lo
 res : At w1 (w.heap.size + 1) lr
 fo : ∀ i, w1.frozen? ⟨w.heap.size + 1 + 1, i, none⟩ = false
 fr : ∀ i, w1.frozen? ⟨w.heap.size + 1, i, none⟩ = false
 bel : Below w.heap.size w w1
 big : w.heap.size + 1 + 1 < w1.heap.size
theorem Tb.start {w : World} {l z : List Value} {t t' : TypeId} : Tb w l z z (((w.alloc (.cells l.toArray t)).alloc (.cells z.toArray t')).alloc (.cells z.toArray t')) := by
 refine ⟨At.new.alloc.alloc, ?_, ?_, fun i => by go_simp, fun i => by go_simp, (((Below.refl _ _).alloc (Nat.le_refl _) _).alloc (by simp) _).alloc (by simp <;> omega) _, by simp⟩
 ·have := At.new (w := (w.alloc (.cells l.toArray t)).alloc (.cells z.toArray t')) (vs := z) (t := t')
  simpa using this
 ·have := (At.new (w := w.alloc (.cells l.toArray t)) (vs := z) (t := t')).alloc (o := .cells z.toArray t')
  simpa using this
theorem Tb.call {w w1 w2 : World} {l lo lr : List Value} (h : Tb w l lo lr w1) (hB : Below w1.heap.size w1 w2) : Tb w l lo lr w2 :=
 have hb := h.big
 ⟨h.arg.below hB, h.out.below hB, h.res.below hB, fun i => by rw [hB.frozen (p := ⟨w.heap.size + 1 + 1, i, none⟩) hb]; exact h.fo i,
  fun i => by rw [hB.frozen (p := ⟨w.heap.size + 1, i, none⟩) (by show w.heap.size + 1 < _; omega)]; exact h.fr i, h.bel.trans (hB.mono h.bel.size), Nat.lt_of_lt_of_le hb hB.size⟩
theorem at_setL_far {w : World} {b g o : Nat} {l vs : List Value} (h : At w b l) (hne : g ≠ b) : At (setL w g o vs) b l := fun i v hi => by rw [setL_far g b i hne]; exact h i v hi
theorem Tb.put {w w1 : World} {l lo lr vs : List Value} (h : Tb w l lo lr w1) (o : Nat) (hl : o + vs.length ≤ lo.length) : Tb w l (lo.take o ++ vs ++ lo.drop (o + vs.length)) lr (setL w1 (w.heap.size + 1 + 1) o vs) :=
 ⟨at_setL_far h.arg (by omega), at_setL h.out hl, at_setL_far h.res (by omega), fun i => by rw [setL_frozen]; exact h.fo i, fun i => by rw [setL_frozen]; exact h.fr i,
  setL_below _ (by omega) _ _ _ h.bel, by rw [setL_size]; exact h.big⟩
theorem Tb.fin {w w1 : World} {l lo lr vs' : List Value} (h : Tb w l lo lr w1) (hl : vs'.length = lr.length) : At (setL w1 (w.heap.size + 1) 0 vs') (w.heap.size + 1) vs' ∧ Below w.heap.size w (setL w1 (w.heap.size + 1) 0 vs') := by
 refine ⟨?_, setL_below _ (by omega) _ _ _ h.bel⟩
 have := at_setL (vs := vs') (o := 0) h.res (by omega)
 simpa [hl] using this
def Sx (w : World) (b : Nat) : Prop := b ≠ w.heap.size + 1 + 1 ∧ b ≠ w.heap.size + 1
theorem Sx.out {w : World} : ¬ Sx w (w.heap.size + 1 + 1) := fun h => h.1 rfl
theorem Sx.res {w : World} : ¬ Sx w (w.heap.size + 1) := fun h => h.2 rfl
theorem Sx.new {w : World} {lo hi : Nat} (h : w.heap.size + 1 + 1 < lo) : ∀ b, lo ≤ b → b < hi → Sx w b := fun b h1 _ => ⟨by omega, by omega⟩
theorem Own.agree {S : Nat → Prop} {W w : World} {lo hi b o n : Nat} (h : Own lo hi W b o n) (hS : ∀ b, lo ≤ b → b < hi → S b) (hA : Agree S W w) : Own lo hi w b o n :=
 ⟨h.1, h.2.1, Nat.lt_of_lt_of_le h.2.2.1 hA.size, fun j hj => by
  obtain ⟨⟨v, hv⟩, hf⟩ := h.2.2.2 j hj
  have hs := hS b h.1 h.2.1
  exact ⟨⟨v, hA.cell _ _ _ hs hv⟩, by rw [hA.frozen _ _ hs h.2.2.1]; exact hf⟩⟩
theorem OwnM.agree {S : Nat → Prop} {W w : World} {lo hi b b' pl tl : Nat} {ts : List (List Int)} (h : OwnM lo hi W b 0 b' 0 pl tl ts) (h1 : lo ≤ b') (h2 : b' < hi) (hS : ∀ b, lo ≤ b → b < hi → S b) (hA : Agree S W w) : OwnM lo hi w b 0 b' 0 pl tl ts := by
 obtain ⟨k1, k2, k3, k4⟩ := h
 refine ⟨k1.agree hS hA, fun j hj => ?_, k3, Nat.lt_of_lt_of_le k4 hA.size⟩
 obtain ⟨G, O, c, e1, e2, e3⟩ := k2 j hj
 exact ⟨G, O, c, e1, hA.cell _ _ _ (hS b' h1 h2) e2, e3.agree hS hA⟩
theorem Own.widen {lo hi lo' hi' : Nat} {w : World} {b o n : Nat} (h : Own lo hi w b o n) (h1 : lo' ≤ lo) (h2 : hi ≤ hi') : Own lo' hi' w b o n :=
 ⟨Nat.le_trans h1 h.1, Nat.lt_of_lt_of_le h.2.1 h2, h.2.2⟩
theorem OwnM.widen {lo hi lo' hi' : Nat} {w : World} {b b' pl tl : Nat} {ts : List (List Int)} (h : OwnM lo hi w b 0 b' 0 pl tl ts) (h1 : lo' ≤ lo) (h2 : hi ≤ hi') : OwnM lo' hi' w b 0 b' 0 pl tl ts := by
 obtain ⟨k1, k2, k3, k4⟩ := h
 refine ⟨k1.widen h1 h2, fun j hj => ?_, k3, k4⟩
 obtain ⟨G, O, c, e1, e2, e3⟩ := k2 j hj
 exact ⟨G, O, c, e1, e2, e3.widen h1 h2⟩
def OwnB (lo hi : Nat) (w : World) (B : Bd) (ts : List (List Int)) : Prop :=
 ∃ P R S G, B.pa = some ⟨P, 0, none⟩ ∧ B.ta = some ⟨R, 0, none⟩ ∧ B.sa = some ⟨S, 0, none⟩ ∧ B.wa = some ⟨G, 0, none⟩ ∧ OwnM lo hi w P 0 R 0 B.pl B.tl ts ∧ (lo ≤ R ∧ R < hi) ∧ Own lo hi w S 0 (B.sl * 4) ∧ Own lo hi w G 0 B.wl
theorem OwnB.agree {S : Nat → Prop} {W w : World} {lo hi : Nat} {B : Bd} {ts : List (List Int)} (h : OwnB lo hi W B ts) (hS : ∀ b, lo ≤ b → b < hi → S b) (hA : Agree S W w) : OwnB lo hi w B ts := by
 obtain ⟨P, R, T, G, e1, e2, e3, e4, m, r, s, g⟩ := h
 exact ⟨P, R, T, G, e1, e2, e3, e4, m.agree r.1 r.2 hS hA, r, s.agree hS hA, g.agree hS hA⟩
theorem OwnB.below {W w : World} {lo hi : Nat} {B : Bd} {ts : List (List Int)} (h : OwnB lo hi W B ts) (hB : Below W.heap.size W w) : OwnB lo hi w B ts :=
 h.agree (S := fun _ => True) (fun _ _ _ => trivial) (Agree.of_below hB)
theorem own_ss {w : World} {lo b n c : Nat} {ss : List SC} (h : IsSs w (some ⟨b, 0, none⟩) n c ss) (h1 : lo ≤ b) (h2 : b < w.heap.size) (hf : ∀ i, w.frozen? ⟨b, i, none⟩ = false) : Own lo w.heap.size w b 0 (n * 4) := by
 refine ⟨h1, h2, h2, fun j hj => ⟨?_, hf _⟩⟩
 obtain ⟨p, q, k0, k1, k2, k3, _⟩ := h.2.2.2.2.2 _ rfl (j / 4) (by omega)
 rw [addr_add'] at k0 k1 k2 k3
 have hm : j % 4 = 0 ∨ j % 4 = 1 ∨ j % 4 = 2 ∨ j % 4 = 3 := by omega
 rcases hm with e | e | e | e
 ·exact ⟨_, by rw [show 0 + j = 0 + (j / 4 * 4) by omega]; exact k0⟩
 ·exact ⟨_, by rw [show 0 + j = 0 + (j / 4 * 4 + 1) by omega]; exact k1⟩
 ·exact ⟨_, by rw [show 0 + j = 0 + (j / 4 * 4 + 2) by omega]; exact k2⟩
 ·exact ⟨_, by rw [show 0 + j = 0 + (j / 4 * 4 + 3) by omega]; exact k3⟩
theorem own_fs {w : World} {lo b n c : Nat} {zs : List Nat} (h : IsFs .f32 w (some ⟨b, 0, none⟩) n c zs) (h1 : lo ≤ b) (h2 : b < w.heap.size) (hf : ∀ i, w.frozen? ⟨b, i, none⟩ = false) : Own lo w.heap.size w b 0 n := by
 refine ⟨h1, h2, h2, fun j hj => ⟨?_, hf _⟩⟩
 have k0 := h.2.2.2.2.2 _ rfl j hj
 rw [addr_add'] at k0
 exact ⟨_, k0⟩
abbrev Z9' : List Value := [.slice none 0 0, .slice none 0 0, .slice none 0 0, .float .f32 0, .float .f32 0, .slice none 0 0, .float .f32 0, .float .f32 0, .float .f32 0]
set_option maxHeartbeats 2000000 in
theorem laws_toBodyO (B : Bd) (c : Bc) (w : World) (h : IsB w B c) (hs : SmallB c) :
  Calls Tryz.prog 18 #[B.v] w fun e w' => ∃ B' : Bd, e = .returned B'.v ∧ IsB w' B' c ∧ OwnB w.heap.size w'.heap.size w' B' c.ts ∧ Below w.heap.size w w' := by
 have ul := Tryz.underlying32
 have ui := Tryz.underlying44
 have ulm := Tryz.underlying25
 have uim := Tryz.underlying40
 have ulv := Tryz.underlying30
 have uiv := Tryz.underlying42
 have u := Tryz.underlying27
 have hsl : B.sl ≤ 1048576 := by rw [← h.2.2.1.1]; exact hs.2.1
 have hwl : B.wl ≤ 1048576 := by rw [← h.2.2.2.1.1]; exact hs.2.2
 have H := Lib.hid h
 have HS := Lib.hid hs
 clear h hs
 have T0 : Hid (Tb w B.l Z9' Z9' (((w.alloc (.cells #[.slice B.pa B.pl B.pc, .slice B.ta B.tl B.tc, .slice B.sa B.sl B.sc, .float .f32 B.film, .float .f32 B.bend, .slice B.wa B.wl B.wc, .float .f32 B.x, .float .f32 B.y, .float .f32 B.z] 32)).alloc (.cells #[.slice none 0 0, .slice none 0 0, .slice none 0 0, .float .f32 0, .float .f32 0, .slice none 0 0, .float .f32 0, .float .f32 0, .float .f32 0] 44)).alloc (.cells #[.slice none 0 0, .slice none 0 0, .slice none 0 0, .float .f32 0, .float .f32 0, .slice none 0 0, .float .f32 0, .float .f32 0, .float .f32 0] 44))) := Lib.hid Tb.start
 go_enter Tryz.func18, Tryz.ntmps18
 go_wp2_with fail
 generalize (((w.alloc (.cells #[.slice B.pa B.pl B.pc, .slice B.ta B.tl B.tc, .slice B.sa B.sl B.sc, .float .f32 B.film, .float .f32 B.bend, .slice B.wa B.wl B.wc, .float .f32 B.x, .float .f32 B.y, .float .f32 B.z] 32)).alloc (.cells #[.slice none 0 0, .slice none 0 0, .slice none 0 0, .float .f32 0, .float .f32 0, .slice none 0 0, .float .f32 0, .float .f32 0, .float .f32 0] 44)).alloc (.cells #[.slice none 0 0, .slice none 0 0, .slice none 0 0, .float .f32 0, .float .f32 0, .slice none 0 0, .float .f32 0, .float .f32 0, .float .f32 0] 44)) = W at *
 have H0 := Lib.hid (H.out.below T0.out.bel)
 refine (laws_toMesh' _ _ _ _ _ _ c.cs c.ts _ H0.out.1 H0.out.2.1 HS.out.1).mono ?_
 rintro e w1 ⟨⟨b, b', rfl, hb, hbb, hV, hT, hi, hhi, hO⟩, hB1⟩
 have hbig := T0.out.big
 have NB := Lib.hid (And.intro hbig (And.intro hb hbb))
 have T1 := Lib.hid (T0.out.call hB1)
 have M1 := Lib.hid (And.intro hV (And.intro hT (And.intro hhi hO)))
 have SZ1 := Lib.hid hB1.size
 clear hV hT hB1 hb hbb hhi hO hbig
 have k2 := T1.out.arg 2 _ rfl
 have e0 := T1.out.out 0 _ rfl
 have e1 := T1.out.out 1 _ rfl
 have g0 := T1.out.fo 0
 have g1 := T1.out.fo 1
 go_wp2_with fail
 clear k2 e0 e1 g0 g1
 change Calls _ _ _ (setL w1 (w.heap.size + 1 + 1) 0 [.slice (some ⟨b, 0, none⟩) B.pl B.pl, .slice (some ⟨b', 0, none⟩) B.tl B.tl]) _
 have T2 := Lib.hid (T1.out.put 0 (vs := [.slice (some ⟨b, 0, none⟩) B.pl B.pl, .slice (some ⟨b', 0, none⟩) B.tl B.tl]) (Nat.le_of_ble_eq_true rfl))
 have A1 := Lib.hid (Agree.setL (Sx.out (w := w)) [.slice (some ⟨b, 0, none⟩) B.pl B.pl, .slice (some ⟨b', 0, none⟩) B.tl B.tl] w1 0 (Agree.refl (Sx w) w1))
 generalize (setL w1 (w.heap.size + 1 + 1) 0 [.slice (some ⟨b, 0, none⟩) B.pl B.pl, .slice (some ⟨b', 0, none⟩) B.tl B.tl]) = W1 at *
 refine (laws_toSpringSO _ _ _ c.ss _ ((H.out.below T2.out.bel).2.2.1) hsl).mono ?_
 rintro e w2 ⟨rfl, hS, hB2, hz2, hf2⟩
 have T3 := Lib.hid (T2.out.call hB2)
 have A2 := Lib.hid (A1.out.trans (Agree.of_below hB2))
 have S2 := Lib.hid (And.intro hS (And.intro hz2 hf2))
 clear hS hB2 hz2 hf2
 obtain ⟨gs, hgs⟩ : ∃ gs, gs = W1.heap.size := ⟨_, rfl⟩
 rw [← hgs] at S2 ⊢
 have NS : Hid (W.heap.size < gs ∧ b < gs ∧ b' < gs) := Lib.hid (by
  have h1 := M1.out.2.2.2.1.2.2.1
  have h2 := M1.out.2.2.2.2.2.2
  have h3 := A1.out.size
  rw [hgs]
  exact ⟨by have := NB.out.2.1; omega, by omega, by omega⟩)
 clear hgs
 have k3 := T3.out.arg 3 _ rfl
 have k4 := T3.out.arg 4 _ rfl
 have k5 := T3.out.arg 5 _ rfl
 have e2 := T3.out.out 2 _ rfl
 have e3 := T3.out.out 3 _ rfl
 have e4 := T3.out.out 4 _ rfl
 have g2 := T3.out.fo 2
 have g3 := T3.out.fo 3
 have g4 := T3.out.fo 4
 go_wp2_with fail
 clear k3 k4 k5 e2 e3 e4 g2 g3 g4
 change Calls _ _ _ (setL w2 (w.heap.size + 1 + 1) 2 [.slice (some ⟨gs, 0, none⟩) B.sl B.sl, .float .f32 B.film, .float .f32 B.bend]) _
 have T4 := Lib.hid (T3.out.put 2 (vs := [.slice (some ⟨gs, 0, none⟩) B.sl B.sl, .float .f32 B.film, .float .f32 B.bend]) (Nat.le_of_ble_eq_true rfl))
 have A3 := Lib.hid (Agree.setL (Sx.out (w := w)) [.slice (some ⟨gs, 0, none⟩) B.sl B.sl, .float .f32 B.film, .float .f32 B.bend] w2 2 (Agree.refl (Sx w) w2))
 generalize (setL w2 (w.heap.size + 1 + 1) 2 [.slice (some ⟨gs, 0, none⟩) B.sl B.sl, .float .f32 B.film, .float .f32 B.bend]) = W2 at *
 refine (laws_toFloat32SO _ _ _ c.zs _ ((H.out.below T4.out.bel).2.2.2.1) hwl).mono ?_
 rintro e w3 ⟨rfl, hF, hB3, hz3, hf3⟩
 have T5 := Lib.hid (T4.out.call hB3)
 have A4 := Lib.hid (A3.out.trans (Agree.of_below hB3))
 have F3 := Lib.hid (And.intro hF (And.intro hz3 hf3))
 clear hF hB3 hz3 hf3
 obtain ⟨gw, hgw⟩ : ∃ gw, gw = W2.heap.size := ⟨_, rfl⟩
 rw [← hgw] at F3 ⊢
 have NW : Hid (gs < gw) := Lib.hid (by have h1 := S2.out.2.1; have h3 := A3.out.size; rw [hgw]; omega)
 clear hgw
 have k6 := T5.out.arg 6 _ rfl
 have k7 := T5.out.arg 7 _ rfl
 have k8 := T5.out.arg 8 _ rfl
 have e5 := T5.out.out 5 _ rfl
 have g5 := T5.out.fo 5
 go_wp2_with fail
 clear k6 k7 k8 e5 g5
 change Calls _ _ _ (setL w3 (w.heap.size + 1 + 1) 5 [.slice (some ⟨gw, 0, none⟩) B.wl B.wl]) _
 have T6 := Lib.hid (T5.out.put 5 (vs := [.slice (some ⟨gw, 0, none⟩) B.wl B.wl]) (Nat.le_of_ble_eq_true rfl))
 have A5 := Lib.hid (Agree.setL (Sx.out (w := w)) [.slice (some ⟨gw, 0, none⟩) B.wl B.wl] w3 5 (Agree.refl (Sx w) w3))
 generalize (setL w3 (w.heap.size + 1 + 1) 5 [.slice (some ⟨gw, 0, none⟩) B.wl B.wl]) = W3 at *
 refine (laws_toVector _ _ _ _).mono ?_
 rintro e w4 ⟨rfl, hB4⟩
 have T7 := Lib.hid (T6.out.call hB4)
 have A6 := Lib.hid (A5.out.trans (Agree.of_below hB4))
 clear hB4
 have e0 := T7.out.out 0 _ rfl
 have e1 := T7.out.out 1 _ rfl
 have e2 := T7.out.out 2 _ rfl
 have e3 := T7.out.out 3 _ rfl
 have e4 := T7.out.out 4 _ rfl
 have e5 := T7.out.out 5 _ rfl
 have e6 := T7.out.out 6 _ rfl
 have e7 := T7.out.out 7 _ rfl
 have e8 := T7.out.out 8 _ rfl
 have g6 := T7.out.fo 6
 have g7 := T7.out.fo 7
 have g8 := T7.out.fo 8
 have q0 := T7.out.res 0 _ rfl
 have p0 := T7.out.fr 0
 have q1 := T7.out.res 1 _ rfl
 have p1 := T7.out.fr 1
 have q2 := T7.out.res 2 _ rfl
 have p2 := T7.out.fr 2
 have q3 := T7.out.res 3 _ rfl
 have p3 := T7.out.fr 3
 have q4 := T7.out.res 4 _ rfl
 have p4 := T7.out.fr 4
 have q5 := T7.out.res 5 _ rfl
 have p5 := T7.out.fr 5
 have q6 := T7.out.res 6 _ rfl
 have p6 := T7.out.fr 6
 have q7 := T7.out.res 7 _ rfl
 have p7 := T7.out.fr 7
 have q8 := T7.out.res 8 _ rfl
 have p8 := T7.out.fr 8
 have T8 := Lib.hid (T7.out.put 6 (vs := [.float .f32 B.x, .float .f32 B.y, .float .f32 B.z]) (Nat.le_of_ble_eq_true rfl))
 have A7 := Lib.hid (Agree.setL (Sx.out (w := w)) [.float .f32 B.x, .float .f32 B.y, .float .f32 B.z] w4 6 (Agree.refl (Sx w) w4))
 obtain ⟨hR, hBB⟩ := T8.out.fin (vs' := [.slice (some ⟨b, 0, none⟩) B.pl B.pl, .slice (some ⟨b', 0, none⟩) B.tl B.tl, .slice (some ⟨gs, 0, none⟩) B.sl B.sl, .float .f32 B.film, .float .f32 B.bend, .slice (some ⟨gw, 0, none⟩) B.wl B.wl, .float .f32 B.x, .float .f32 B.y, .float .f32 B.z]) rfl
 have A8 := Agree.setL (Sx.res (w := w)) [.slice (some ⟨b, 0, none⟩) B.pl B.pl, .slice (some ⟨b', 0, none⟩) B.tl B.tl, .slice (some ⟨gs, 0, none⟩) B.sl B.sl, .float .f32 B.film, .float .f32 B.bend, .slice (some ⟨gw, 0, none⟩) B.wl B.wl, .float .f32 B.x, .float .f32 B.y, .float .f32 B.z] _ 0 A7.out
 simp only [setL, Nat.zero_add, Nat.reduceAdd] at hR hBB A8
 have HR := Lib.hid hR
 have HBB := Lib.hid hBB
 have HA8 := Lib.hid A8
 clear hR hBB A8
 go_wp2
 clear e0 e1 e2 e3 e4 e5 e6 e7 e8 g6 g7 g8 q0 q1 q2 q3 q4 q5 q6 q7 q8 p0 p1 p2 p3 p4 p5 p6 p7 p8
 have m0 := HR.out 0 _ rfl
 have m1 := HR.out 1 _ rfl
 have m2 := HR.out 2 _ rfl
 have m3 := HR.out 3 _ rfl
 have m4 := HR.out 4 _ rfl
 have m5 := HR.out 5 _ rfl
 have m6 := HR.out 6 _ rfl
 have m7 := HR.out 7 _ rfl
 have m8 := HR.out 8 _ rfl
 have G3 := A6.out.trans HA8.out
 have G2 := A4.out.trans (G3)
 have G1 := A2.out.trans (G2)
 have L1 := M1.out.2.2.2
 have LB1 : OwnM W.heap.size w1.heap.size w1 b 0 b' 0 B.pl B.tl c.ts := L1.widen (Nat.le_refl _) M1.out.2.2.1
 have hbb := NB.out
 refine bodyPost_ret (v := (⟨some ⟨b, 0, none⟩, some ⟨b', 0, none⟩, some ⟨gs, 0, none⟩, some ⟨gw, 0, none⟩, B.pl, B.pl, B.tl, B.tl, B.sl, B.sl, B.wl, B.wl, B.film, B.bend, B.x, B.y, B.z⟩ : Bd).v) (by simp [results, Tryz.results18, go_sem, m0, m1, m2, m3, m4, m5, m6, m7, m8]) rfl ?_
 have s1 : ∀ q, W.heap.size ≤ q → q < w1.heap.size → Sx w q := Sx.new (by omega)
 have hlt1 : b < w1.heap.size := L1.1.2.2.1
 have hlt2 : b' < w1.heap.size := L1.2.2.2
 have LV1 : LV W.heap.size w1.heap.size (some ⟨b, 0, none⟩) := fun x hx => by cases hx; exact ⟨b, rfl, by omega, hlt1⟩
 have LT1 : LT W.heap.size w1.heap.size w1 (some ⟨b', 0, none⟩) B.tl := fun x hx => by
  cases hx
  refine ⟨b', rfl, by omega, hlt2, fun i hi => ?_⟩
  obtain ⟨G', O, c, _, k2, k3⟩ := LB1.2.1 i hi
  rw [Nat.zero_add] at k2
  exact ⟨_, _, c, k2, fun y hy => by cases hy; exact ⟨G', O, rfl, k3.1, k3.2.1⟩⟩
 have LS1 : LV gs w2.heap.size (some ⟨gs, 0, none⟩) := fun x hx => by cases hx; exact ⟨gs, rfl, Nat.le_refl _, S2.out.2.1⟩
 have LW1 : LV gw w3.heap.size (some ⟨gw, 0, none⟩) := fun x hx => by cases hx; exact ⟨gw, rfl, Nat.le_refl _, F3.out.2.1⟩
 have hns := NS.out
 have hnw := NW.out
 have s2 : ∀ q, gs ≤ q → q < w2.heap.size → Sx w q := Sx.new (by omega)
 have s3 : ∀ q, gw ≤ q → q < w3.heap.size → Sx w q := Sx.new (by omega)
 have OS := own_ss S2.out.1 (Nat.le_refl gs) S2.out.2.1 S2.out.2.2
 have OW := own_fs F3.out.1 (Nat.le_refl gw) F3.out.2.1 F3.out.2.2
 refine ⟨_, rfl, ⟨vs_agree M1.out.1 LV1 s1 G1, ts_agree M1.out.2.1 LT1 s1 G1, ss_agree S2.out.1 LS1 s2 G2, fs_agree F3.out.1 LW1 s3 G3, H.out.2.2.2.2⟩, ?_, HBB.out⟩
 have z1 := G1.size
 have z2 := G2.size
 have z3 := G3.size
 exact ⟨b, b', gs, gw, rfl, rfl, rfl, rfl, (LB1.agree (by omega) hlt2 s1 G1).widen (by omega) z1, ⟨by omega, by omega⟩, (OS.agree s2 G2).widen (by omega) z2, (OW.agree s3 G3).widen (by omega) z3⟩
end Go.Proofs.YtabccmobmppdnaaGreat

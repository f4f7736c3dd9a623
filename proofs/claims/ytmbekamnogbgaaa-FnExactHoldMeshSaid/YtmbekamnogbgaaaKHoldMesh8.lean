/-
Texts in one: what HoldMesh stands on, part 8. Conditions: those of each.
-/
import Derived.Test.YtmbekamnogbgaaaKHoldMesh7
import Derived.Deep.QuietTactic
import Derived.BigQuiet

/-
Sums of lists of vectors: what the program and its model return. Conditions: none.
-/
namespace Go.Proofs.Ytmbekamnogbgaaa
open Go Fk Go.RowKit
set_option linter.unusedVariables false
set_option maxRecDepth 8000

def addC (a b : C3) : C3 := (fop .add .f32 a.1 b.1, fop .add .f32 a.2.1 b.2.1, fop .add .f32 a.2.2 b.2.2)
abbrev z3 : C3 := (some 0, some 0, some 0)
def totC (cs : List C3) : C3 := cs.foldl addC z3
theorem totC_snoc (cs : List C3) (k : Nat) (hk : k < cs.length) : totC (cs.take (k + 1)) = addC (totC (cs.take k)) (cs.getD k c0) := by
  rw [List.take_succ_eq_append_getElem hk]
  unfold totC
  rw [List.foldl_append]
  simp [List.getD, hk]
def FV3 (x y z : Nat) (c : C3) : Prop := FV .f32 x c.1 ∧ FV .f32 y c.2.1 ∧ FV .f32 z c.2.2
/-- A vector of one's own in memory. -/
def V3 (w : World) (b x y z : Nat) : Prop :=
  (w.cell? ⟨b, 0, none⟩ = some (.float .f32 x) ∧ w.cell? ⟨b, 1, none⟩ = some (.float .f32 y) ∧ w.cell? ⟨b, 2, none⟩ = some (.float .f32 z)) ∧ ∀ i, w.frozen? ⟨b, i, none⟩ = false
theorem V3.lt {w : World} {b x y z : Nat} (h : V3 w b x y z) : b < w.heap.size := World.block_lt_of_cell? w _ h.1.1
theorem V3.below {W w : World} {b x y z : Nat} (hb : Below W.heap.size W w) (h : V3 W b x y z) : V3 w b x y z :=
  ⟨⟨cell_below hb h.1.1, cell_below hb h.1.2.1, cell_below hb h.1.2.2⟩, fun i => frozen_below hb h.lt (h.2 i)⟩
theorem V3.drew {w : World} {n b x y z : Nat} (h : V3 w b x y z) : V3 (w.drewN n) b x y z := h
theorem V3.new {w : World} {x y z : Nat} {t : TypeId} : V3 (w.alloc (.cells #[.float .f32 x, .float .f32 y, .float .f32 z] t)) w.heap.size x y z := ⟨⟨new0, new1, new2⟩, fun i => newf⟩
theorem V3.alloc {w : World} {b x y z : Nat} {o : Obj} (h : V3 w b x y z) : V3 (w.alloc o) b x y z :=
  h.below ((Below.refl _ _).alloc (Nat.le_refl _) _)
theorem V3.put {w : World} {b x y z p q r : Nat} (h : V3 w b x y z) : V3 (((w.setCell ⟨b, 0, none⟩ (.float .f32 p)).setCell ⟨b, 1, none⟩ (.float .f32 q)).setCell ⟨b, 2, none⟩ (.float .f32 r)) b p q r := by
  obtain ⟨k0, k1, k2, _⟩ := set3k (u := .float .f32 p) (v := .float .f32 q) (t := .float .f32 r) (n := b) (o := 0) h.1.1 h.1.2.1 h.1.2.2
  exact ⟨⟨k0, k1, k2⟩, fun i => by simp; exact h.2 i⟩
theorem V3.far {w : World} {b x y z n : Nat} {u v t : Value} (h : V3 w b x y z) (hne : n ≠ b) : V3 (((w.setCell ⟨n, 0, none⟩ u).setCell ⟨n, 1, none⟩ v).setCell ⟨n, 2, none⟩ t) b x y z := by
  refine ⟨⟨?_, ?_, ?_⟩, fun i => by simp; exact h.2 i⟩
  · exact cell_set hne (cell_set hne (cell_set hne h.1.1))
  · exact cell_set hne (cell_set hne (cell_set hne h.1.2.1))
  · exact cell_set hne (cell_set hne (cell_set hne h.1.2.2))
def totB (n : Nat) (cs : List C3) : C3 := if n ≤ 256 then totC cs else z3
theorem FV3_zero : FV3 0 0 0 z3 := ⟨⟨by decide, by decide⟩, ⟨by decide, by decide⟩, ⟨by decide, by decide⟩⟩

set_option maxHeartbeats 1000000 in
theorem impl_TotalOf (a : Option Addr) (len cap : Nat) (cs : List C3) (w : World) (h : IsVs w a len cap cs) :
    Calls Try.prog 176 #[.slice a len cap] w fun e w' => ∃ x y z, e = .returned (.tuple #[vv x y z, .bool (decide (len ≤ 256))]) ∧ FV3 x y z (totB len cs) ∧ Below w.heap.size w w' := by
  have uv := Try.underlying34
  have hm : len ≤ 9223372036854775807 := by have h1 := h.2.1; have h2 := h.2.2.1; unfold maxLen at h2; omega
  have hzl := h.1
  have H := Lib.hid h
  have HZ := Lib.hid hzl
  clear h hzl
  by_cases hl : len ≤ 256
  · have HL := Lib.hid hl
    go_enter Try.func176, Try.ntmps176
    go_wp2
    have r0 : V3 ((w.alloc (.cells #[.float .f32 0, .float .f32 0, .float .f32 0] 34)).alloc (.cells #[.float .f32 0, .float .f32 0, .float .f32 0] 34)) w.heap.size 0 0 0 := V3.new.alloc
    have t0 : V3 ((w.alloc (.cells #[.float .f32 0, .float .f32 0, .float .f32 0] 34)).alloc (.cells #[.float .f32 0, .float .f32 0, .float .f32 0] 34)) (w.heap.size + 1) 0 0 0 := by have := V3.new (w := w.alloc (.cells #[.float .f32 0, .float .f32 0, .float .f32 0] 34)) (x := 0) (y := 0) (z := 0) (t := 34); simpa using this
    have b0 : Below w.heap.size w ((w.alloc (.cells #[.float .f32 0, .float .f32 0, .float .f32 0] 34)).alloc (.cells #[.float .f32 0, .float .f32 0, .float .f32 0] 34)) := ((Below.refl _ _).alloc (Nat.le_refl _) _).alloc (by simp) _
    generalize ((w.alloc (.cells #[.float .f32 0, .float .f32 0, .float .f32 0] 34)).alloc (.cells #[.float .f32 0, .float .f32 0, .float .f32 0] 34)) = w0 at *
    have R0 := Lib.hid r0
    have T0 := Lib.hid t0
    have B0 := Lib.hid b0
    clear r0 t0 b0
    go_loopw [13] (fun i w' => ∃ k : Nat, k ≤ len ∧ i = .int .i64 k ∧ Aside (Below w.heap.size w w' ∧ V3 w' w.heap.size 0 0 0 ∧ ∃ x y z, V3 w' (w.heap.size + 1) x y z ∧ FV3 x y z (totC (cs.take k)))) (fun i _ => len - (intOf i).toNat)
    case atStart => exact ⟨0, Nat.zero_le _, rfl, B0.out, R0.out, 0, 0, 0, T0.out, FV3_zero⟩
    case round =>
      obtain ⟨k, hk, rfl, hA⟩ := hrel
      obtain ⟨hB, hR, x, y, z, hT, hF⟩ := hA.out
      clear hA
      by_cases hlt : k < len
      · obtain ⟨b, o, rfl, hcell⟩ := (H.out.below hB).some (by omega)
        obtain ⟨p, q, r, k0, k1, k2, f0, f1, f2⟩ := hcell k hlt
        have hsn := Lib.hid (totC_snoc cs k (by rw [HZ.out]; exact hlt))
        have hlt1 : w.heap.size + 1 < wr.heap.size := hT.lt
        obtain ⟨⟨t0, t1, t2⟩, tf⟩ := hT
        have tf0 := tf 0
        have tf1 := tf 1
        have tf2 := tf 2
        have hk0 : (0 : Int) ≤ (k : Int) := by omega
        have hk1 : (k : Int) < (len : Int) := by omega
        have HB := Lib.hid hB
        have HR := Lib.hid hR
        have HF := Lib.hid hF
        have HT : RowKit.Hid (V3 wr (w.heap.size + 1) x y z) := Lib.hid ⟨⟨t0, t1, t2⟩, tf⟩
        clear hcell hB hR hF tf
        go_wp2_with fail
        refine (impl_AddVectors _ _ _ _ _ _ _ _ _ _ _ _ _ HF.out.1 HF.out.2.1 HF.out.2.2 f0 f1 f2).mono ?_
        rintro e w1 ⟨ax, ay, az, rfl, fx, fy, fz, hB1⟩
        have HT1 := HT.out.alloc.below hB1
        have HR1 := HR.out.alloc.below hB1
        have hB2 := (below_new HB.out (Nat.le_refl _)).trans (hB1.mono (below_new HB.out (Nat.le_refl _)).size)
        have hsn' := hsn.out
        have HP := Lib.hid (And.intro (HT1.put (p := ax) (q := ay) (r := az)) (HR1.far (n := w.heap.size + 1) (u := .float .f32 ax) (v := .float .f32 ay) (t := .float .f32 az) (by omega)))
        have HB2 := Lib.hid (below_set3 (o1 := 0) (o2 := 1) (o3 := 2) (u := .float .f32 ax) (v := .float .f32 ay) (t := .float .f32 az) hB2 (Nat.le_succ _))
        have HFF : RowKit.Hid (FV3 ax ay az (totC (cs.take (k + 1)))) := Lib.hid (by rw [hsn']; exact ⟨fx, fy, fz⟩)
        have hlt2 : w.heap.size + 1 < w1.heap.size := HT1.lt
        obtain ⟨⟨u0, u1, u2⟩, uf⟩ := HT1
        have uf0 := uf 0
        have uf1 := uf 1
        have uf2 := uf 2
        clear hB1 hB2 HR1 uf hsn' t0 t1 t2 tf0 tf1 tf2
        go_wp2
        go_roundw
        case rel => exact ⟨k + 1, by omega, by go_num, HB2.out, HP.out.2, ax, ay, az, HP.out.1, HFF.out⟩
        case measure => simp [intOf]; omega
      · obtain rfl : k = len := by omega
        have hF' : FV3 x y z (totB k cs) := by unfold totB; rw [if_pos HL.out]; rwa [List.take_of_length_le (by rw [HZ.out]; omega)] at hF
        have hlt1 : w.heap.size + 1 < wr.heap.size := hT.lt
        have HP := Lib.hid (hR.put (p := x) (q := y) (r := z))
        obtain ⟨⟨t0, t1, t2⟩, tf⟩ := hT
        obtain ⟨⟨r0, r1, r2⟩, rf⟩ := hR
        have rf0 := rf 0
        have rf1 := rf 1
        have rf2 := rf 2
        have HB := Lib.hid hB
        have HF := Lib.hid hF'
        clear hB hF hF' tf rf
        go_wp2
        obtain ⟨⟨e0, e1, e2⟩, -⟩ := HP.out
        refine bodyPost_ret (v := .tuple #[vv x y z, .bool true]) (by simp [results, Try.results176, go_sem, e0, e1, e2]) rfl ⟨x, y, z, by rw [decide_eq_true HL.out], HF.out, below_set3 HB.out (Nat.le_refl _)⟩
  · have HL := Lib.hid hl
    go_enter Try.func176, Try.ntmps176
    go_wp2
    refine bodyPost_ret (v := .tuple #[vv 0 0 0, .bool false]) (by simp [results, Try.results176, go_sem]) rfl ⟨0, 0, 0, by rw [decide_eq_false HL.out], by unfold totB; rw [if_neg HL.out]; exact FV3_zero, ?_⟩
    exact (Below.refl _ _).alloc (Nat.le_refl _) _
end Go.Proofs.Ytmbekamnogbgaaa


/-
Lists of vectors that a call may write, and what a region keeps that writes into one. Conditions: none.
-/
namespace Go.Proofs.Ytmbekamnogbgaaa
open Go Fk Go.RowKit
set_option linter.unusedVariables false

/-- A list of vectors in a block of its own, which may be written. -/
def OwnVs (w : World) (g : Nat) (X : List C3) : Prop := (X.length ≤ maxLen ∧ ∀ i, i < X.length → ∃ p q r, (w.cell? ⟨g, i * 3, none⟩ = some (.float .f32 p) ∧ w.cell? ⟨g, i * 3 + 1, none⟩ = some (.float .f32 q) ∧ w.cell? ⟨g, i * 3 + 2, none⟩ = some (.float .f32 r)) ∧ F3 p q r (X.getD i c0)) ∧ Fr w g ∧ g < w.heap.size
theorem OwnVs.is {w : World} {g : Nat} {X : List C3} (h : OwnVs w g X) : IsVs w (some ⟨g, 0, none⟩) X.length X.length X := by
  refine ⟨rfl, Nat.le_refl _, h.1.1, by simp, fun x hx i hi => ?_⟩
  cases hx
  obtain ⟨p, q, r, ⟨k0, k1, k2⟩, f⟩ := h.1.2 i hi
  exact ⟨p, q, r, by rw [addr_add', Nat.zero_add]; exact k0, by rw [addr_add', Nat.zero_add]; exact k1, by rw [addr_add', Nat.zero_add]; exact k2, f⟩
theorem OwnVs.of {w : World} {g n : Nat} {X : List C3} (h : IsVs w (some ⟨g, 0, none⟩) n n X) (hf : Fr w g) (hg : g < w.heap.size) : OwnVs w g X := by
  have hl : X.length = n := h.1
  refine ⟨⟨by rw [hl]; exact h.2.2.1, fun i hi => ?_⟩, hf, hg⟩
  obtain ⟨p, q, r, k0, k1, k2, f⟩ := h.2.2.2.2 _ rfl i (by omega)
  rw [addr_add', Nat.zero_add] at k0 k1 k2
  exact ⟨p, q, r, ⟨k0, k1, k2⟩, f⟩
theorem OwnVs.below {W w : World} {g : Nat} {X : List C3} (hb : Below W.heap.size W w) (h : OwnVs W g X) : OwnVs w g X := by
  refine ⟨⟨h.1.1, fun i hi => ?_⟩, h.2.1.below hb h.2.2, Nat.lt_of_lt_of_le h.2.2 hb.size⟩
  obtain ⟨p, q, r, ⟨k0, k1, k2⟩, f⟩ := h.1.2 i hi
  exact ⟨p, q, r, ⟨cell_below hb k0, cell_below hb k1, cell_below hb k2⟩, f⟩
theorem OwnVs.far {w : World} {g : Nat} {X : List C3} {a : Addr} {u : Value} (hne : a.block ≠ g) (h : OwnVs w g X) : OwnVs (w.setCell a u) g X := by
  refine ⟨⟨h.1.1, fun i hi => ?_⟩, h.2.1.setC, by simpa using h.2.2⟩
  obtain ⟨p, q, r, ⟨k0, k1, k2⟩, f⟩ := h.1.2 i hi
  exact ⟨p, q, r, ⟨cell_set hne k0, cell_set hne k1, cell_set hne k2⟩, f⟩
theorem OwnVs.put {w : World} {g k p q r : Nat} {X : List C3} {c : C3} (h : OwnVs w g X) (hk : k < X.length) (f : F3 p q r c) :
    OwnVs (((w.setCell ⟨g, k * 3, none⟩ (.float .f32 p)).setCell ⟨g, k * 3 + 1, none⟩ (.float .f32 q)).setCell ⟨g, k * 3 + 2, none⟩ (.float .f32 r)) g (X.set k c) := by
  obtain ⟨p0, q0, r0, ⟨k0, k1, k2⟩, _⟩ := h.1.2 k hk
  obtain ⟨e0, e1, e2, eo⟩ := set3k (u := .float .f32 p) (v := .float .f32 q) (t := .float .f32 r) k0 k1 k2
  refine ⟨⟨by rw [List.length_set]; exact h.1.1, fun i hi => ?_⟩, ((h.2.1.setC).setC).setC, by simpa using h.2.2⟩
  rw [List.length_set] at hi
  by_cases hik : i = k
  · subst hik
    refine ⟨p, q, r, ⟨e0, e1, e2⟩, ?_⟩
    have : (X.set i c).getD i c0 = c := by simp [List.getD, hi]
    rw [this]; exact f
  · obtain ⟨p', q', r', ⟨j0, j1, j2⟩, f'⟩ := h.1.2 i hi
    refine ⟨p', q', r', ⟨by rw [eo _ (by omega) (by omega) (by omega)]; exact j0, by rw [eo _ (by omega) (by omega) (by omega)]; exact j1, by rw [eo _ (by omega) (by omega) (by omega)]; exact j2⟩, ?_⟩
    have : (X.set k c).getD i c0 = X.getD i c0 := by simp [List.getD, List.getElem?_set, Ne.symm hik]
    rw [this]; exact f'
theorem OwnVs.at {w : World} {g k : Nat} {X : List C3} (h : OwnVs w g X) (hk : k < X.length) : ∃ p q r, (w.cell? ⟨g, k * 3, none⟩ = some (.float .f32 p) ∧ w.cell? ⟨g, k * 3 + 1, none⟩ = some (.float .f32 q) ∧ w.cell? ⟨g, k * 3 + 2, none⟩ = some (.float .f32 r)) ∧ F3 p q r (X.getD k c0) := h.1.2 k hk
/-- What is kept: w's own memory, boxes of the call's own with known cells, which may be written, and a list of vectors of its own. -/
def St (w : World) (L : List (Nat × List Value)) (g : Nat) (X : List C3) (w' : World) : Prop :=
  Below w.heap.size w w' ∧ (∀ b l, (b, l) ∈ L → At w' b l ∧ Fr w' b ∧ b < w'.heap.size ∧ b ≠ g) ∧ w.heap.size ≤ g ∧ OwnVs w' g X
theorem St.bel {w w' : World} {L : List (Nat × List Value)} {g : Nat} {X : List C3} (h : St w L g X w') : Below w.heap.size w w' := h.1
theorem St.mem {w w' : World} {L : List (Nat × List Value)} {g b : Nat} {X : List C3} {l : List Value} (h : St w L g X w') (hm : (b, l) ∈ L) : At w' b l := (h.2.1 b l hm).1
theorem St.free {w w' : World} {L : List (Nat × List Value)} {g b : Nat} {X : List C3} {l : List Value} (h : St w L g X w') (hm : (b, l) ∈ L) (i : Nat) : w'.frozen? ⟨b, i, none⟩ = false := (h.2.1 b l hm).2.1 i
theorem St.own {w w' : World} {L : List (Nat × List Value)} {g : Nat} {X : List C3} (h : St w L g X w') : OwnVs w' g X := h.2.2.2
theorem St.call {w w1 w2 : World} {L : List (Nat × List Value)} {g : Nat} {X : List C3} (h : St w L g X w1) (hb : Below w1.heap.size w1 w2) : St w L g X w2 :=
  ⟨h.1.trans (hb.mono h.1.size), fun b l hm => ⟨(h.2.1 b l hm).1.below hb, (h.2.1 b l hm).2.1.below hb (h.2.1 b l hm).2.2.1, Nat.lt_of_lt_of_le (h.2.1 b l hm).2.2.1 hb.size, (h.2.1 b l hm).2.2.2⟩, h.2.2.1, h.2.2.2.below hb⟩
theorem St.drewN {w w1 : World} {L : List (Nat × List Value)} {g : Nat} {X : List C3} (h : St w L g X w1) (n : Nat) : St w L g X (w1.drewN n) := h.call (below_drewN (Below.refl _ _) n)
theorem St.put {w w1 : World} {L : List (Nat × List Value)} {g k p q r : Nat} {X : List C3} {c : C3} (h : St w L g X w1) (hk : k < X.length) (f : F3 p q r c) :
    St w L g (X.set k c) (((w1.setCell ⟨g, k * 3, none⟩ (.float .f32 p)).setCell ⟨g, k * 3 + 1, none⟩ (.float .f32 q)).setCell ⟨g, k * 3 + 2, none⟩ (.float .f32 r)) :=
  ⟨((h.1.setCell (p := ⟨g, k * 3, none⟩) h.2.2.1 _).setCell (p := ⟨g, k * 3 + 1, none⟩) h.2.2.1 _).setCell (p := ⟨g, k * 3 + 2, none⟩) h.2.2.1 _,
    fun b l hm => ⟨(((h.2.1 b l hm).1.far (Ne.symm (h.2.1 b l hm).2.2.2)).far (Ne.symm (h.2.1 b l hm).2.2.2)).far (Ne.symm (h.2.1 b l hm).2.2.2), (((h.2.1 b l hm).2.1.setC).setC).setC, by simpa using (h.2.1 b l hm).2.2.1, (h.2.1 b l hm).2.2.2⟩, h.2.2.1, h.2.2.2.put hk f⟩
/-- A new box comes to those that are kept. -/
theorem St.box {w w1 : World} {L : List (Nat × List Value)} {g : Nat} {X : List C3} {vs : List Value} {t : TypeId} (h : St w L g X w1) : St w ((w1.heap.size, vs) :: L) g X (w1.alloc (.cells vs.toArray t)) := by
  have hb : Below w1.heap.size w1 (w1.alloc (.cells vs.toArray t)) := (Below.refl _ _).alloc (Nat.le_refl _) _
  have h2 := h.call hb
  refine ⟨h2.1, fun b l hm => ?_, h2.2.2⟩
  rcases List.mem_cons.1 hm with e | hm
  · cases e; exact ⟨At.new, Fr.new, by simp, fun e => by have := h.2.2.2.2.2; omega⟩
  · exact h2.2.1 b l hm
theorem St.drop {w w1 : World} {L : List (Nat × List Value)} {g : Nat} {X : List C3} {x : Nat × List Value} (h : St w (x :: L) g X w1) : St w L g X w1 := ⟨h.1, fun b l hm => h.2.1 b l (.tail _ hm), h.2.2⟩
/-- Which list a new one is. -/
theorem OwnVs.made {w : World} {n : Nat} (hn : n ≤ 1048576) : OwnVs (w.alloc (.cells (madeCells #[.float .f32 0, .float .f32 0, .float .f32 0] (n * 3)) 34)) w.heap.size (List.replicate n (some 0, some 0, some 0)) := by
  have cell : ∀ j, j < n * 3 → (w.alloc (.cells (madeCells #[.float .f32 0, .float .f32 0, .float .f32 0] (n * 3)) 34)).cell? ⟨w.heap.size, j, none⟩ = some (.float .f32 0) := by
    intro j hj
    have hm : (madeCells #[.float .f32 0, .float .f32 0, .float .f32 0] (n * 3) : Array Value)[j]? = some (.float .f32 0) := by
      unfold madeCells
      have h3 : j % 3 = 0 ∨ j % 3 = 1 ∨ j % 3 = 2 := by omega
      rcases h3 with h | h | h <;> simp [hj, h]
    simp [hm]
  refine ⟨⟨by rw [List.length_replicate]; unfold maxLen; omega, fun i hi => ?_⟩, Fr.new, by simp⟩
  rw [List.length_replicate] at hi
  refine ⟨0, 0, 0, ⟨cell _ (by omega), cell _ (by omega), cell _ (by omega)⟩, ?_⟩
  have : (List.replicate n ((some 0, some 0, some 0) : C3)).getD i c0 = (some 0, some 0, some 0) := by simp [List.getD, hi]
  rw [this]
  exact ⟨⟨by decide, by decide⟩, ⟨by decide, by decide⟩, ⟨by decide, by decide⟩⟩
/-- Boxes of the call's own with known cells, which may be written. -/
def Bx (w : World) (L : List (Nat × List Value)) (w' : World) : Prop :=
  Below w.heap.size w w' ∧ ∀ b l, (b, l) ∈ L → At w' b l ∧ Fr w' b ∧ b < w'.heap.size ∧ w.heap.size ≤ b
theorem Bx.nil (w : World) : Bx w [] w := ⟨Below.refl _ _, fun b l hm => by cases hm⟩
theorem Bx.bel {w w' : World} {L : List (Nat × List Value)} (h : Bx w L w') : Below w.heap.size w w' := h.1
theorem Bx.mem {w w' : World} {L : List (Nat × List Value)} {b : Nat} {l : List Value} (h : Bx w L w') (hm : (b, l) ∈ L) : At w' b l := (h.2 b l hm).1
theorem Bx.free {w w' : World} {L : List (Nat × List Value)} {b : Nat} {l : List Value} (h : Bx w L w') (hm : (b, l) ∈ L) (i : Nat) : w'.frozen? ⟨b, i, none⟩ = false := (h.2 b l hm).2.1 i
theorem Bx.low {w w' : World} {L : List (Nat × List Value)} {b : Nat} {l : List Value} (h : Bx w L w') (hm : (b, l) ∈ L) : w.heap.size ≤ b := (h.2 b l hm).2.2.2
theorem Bx.call {w w1 w2 : World} {L : List (Nat × List Value)} (h : Bx w L w1) (hb : Below w1.heap.size w1 w2) : Bx w L w2 :=
  ⟨h.1.trans (hb.mono h.1.size), fun b l hm => ⟨(h.2 b l hm).1.below hb, (h.2 b l hm).2.1.below hb (h.2 b l hm).2.2.1, Nat.lt_of_lt_of_le (h.2 b l hm).2.2.1 hb.size, (h.2 b l hm).2.2.2⟩⟩
theorem Bx.drewN {w w1 : World} {L : List (Nat × List Value)} (h : Bx w L w1) (n : Nat) : Bx w L (w1.drewN n) := h.call (below_drewN (Below.refl _ _) n)
theorem Bx.box {w w1 : World} {L : List (Nat × List Value)} {vs : List Value} {t : TypeId} (h : Bx w L w1) : Bx w ((w1.heap.size, vs) :: L) (w1.alloc (.cells vs.toArray t)) := by
  have hb : Below w1.heap.size w1 (w1.alloc (.cells vs.toArray t)) := (Below.refl _ _).alloc (Nat.le_refl _) _
  have h2 := h.call hb
  refine ⟨h2.1, fun b l hm => ?_⟩
  rcases List.mem_cons.1 hm with e | hm
  · cases e; exact ⟨At.new, Fr.new, by simp, h.1.size⟩
  · exact h2.2 b l hm
theorem Bx.drop {w w1 : World} {L : List (Nat × List Value)} {x : Nat × List Value} (h : Bx w (x :: L) w1) : Bx w L w1 := ⟨h.1, fun b l hm => h.2 b l (.tail _ hm)⟩
theorem Bx.v3 {w w1 : World} {L : List (Nat × List Value)} {b x y z : Nat} (h : Bx w L w1) (hm : (b, [.float .f32 x, .float .f32 y, .float .f32 z]) ∈ L) : V3 w1 b x y z :=
  ⟨⟨(h.mem hm) 0 _ rfl, (h.mem hm) 1 _ rfl, (h.mem hm) 2 _ rfl⟩, fun i => h.free hm i⟩
/-- A list comes to the boxes. -/
theorem St.of {w w1 w2 : World} {L : List (Nat × List Value)} {g : Nat} {X : List C3} (h : Bx w L w1) (hb : Below w1.heap.size w1 w2) (hg : w1.heap.size ≤ g) (ho : OwnVs w2 g X) : St w L g X w2 := by
  have h2 := h.call hb
  exact ⟨h2.1, fun b l hm => ⟨(h2.2 b l hm).1, (h2.2 b l hm).2.1, (h2.2 b l hm).2.2.1, fun e => by have := (h.2 b l hm).2.2.1; omega⟩, Nat.le_trans h.1.size hg, ho⟩
theorem St.v3 {w w1 : World} {L : List (Nat × List Value)} {g b x y z : Nat} {X : List C3} (h : St w L g X w1) (hm : (b, [.float .f32 x, .float .f32 y, .float .f32 z]) ∈ L) : V3 w1 b x y z :=
  ⟨⟨(h.mem hm) 0 _ rfl, (h.mem hm) 1 _ rfl, (h.mem hm) 2 _ rfl⟩, fun i => h.free hm i⟩
theorem St.ne {w w1 : World} {L : List (Nat × List Value)} {g b : Nat} {X : List C3} {l : List Value} (h : St w L g X w1) (hm : (b, l) ∈ L) : b ≠ g := (h.2.1 b l hm).2.2.2
/-- A new list of vectors. -/
theorem make_vecs (W : World) (n : Nat) (hn : n ≤ 1048576) : (Instr.makeSlice 27 (.int .i64 n) (.int .i64 n)).run Try.prog W = .ok (.slice (some ⟨W.heap.size, 0, none⟩) n n) (W.alloc (.cells (madeCells #[.float .f32 0, .float .f32 0, .float .f32 0] (n * 3)) 34)) := by
  obtain ⟨i0, hi, hz0, hz1, hz2⟩ := info_parts infoV
  have := run_make (P := Try.prog) W 27 34 i0 (.agg #[.float .f32 0, .float .f32 0, .float .f32 0]) Try.underlying27 hi hz0 .i64 .i64 n n (by omega) (Int.le_refl _) (by rw [hz2]; omega) (by omega)
  rw [this, hz1]; simp; rfl
end Go.Proofs.Ytmbekamnogbgaaa


/-
Meshes are the same as their copies: what the law's own functions return. Conditions: at most 2^20 of each.
-/
namespace Go.Proofs.Ytmbekamnogbgaaa
open Go Fk Go.RowKit
set_option linter.unusedVariables false
set_option maxRecDepth 8000

theorem _root_.Go.Proofs.Ytmbekamnogbgaaa.Fk.IsIs.drewE {w w1 : World} {n : Nat} {a : Option Addr} {len cap : Nat} {zs : List Int} (h : IsIs w a len cap zs) (hw : w1 = w.drewN n) : IsIs w1 a len cap zs := by subst hw; exact h
theorem drewn_end {w w1 : World} {n m : Nat} (h : w1 = w.drewN n) : ∃ k, w1.drewN m = w.drewN k := ⟨n + m, by rw [h, World.drewN_drewN]⟩
set_option maxHeartbeats 1000000 in
theorem laws_eqInt64S (a b : Option Addr) (len cap cap' : Nat) (zs : List Int) (w : World) (ha : IsIs w a len cap zs) (hb : IsIs w b len cap' zs) :
    Calls Try.prog 55 #[.slice a len cap, .slice b len cap'] w fun e w' => e = .returned (.bool true) ∧ ∃ n, w' = w.drewN n := by
  have hm : len ≤ 9223372036854775807 := by have h1 := ha.2.1; have h2 := ha.2.2.1; unfold maxLen at h2; omega
  have hzl := ha.1
  go_enter Try.func55, Try.ntmps55
  go_wp2
  go_loopw [5] (fun i w' => ∃ k : Nat, k ≤ len ∧ i = .int .i64 k ∧ ∃ n, w' = w.drewN n) (fun i _ => len - (intOf i).toNat)
  case atStart => exact ⟨0, Nat.zero_le _, rfl, 0, rfl⟩
  case round =>
    obtain ⟨k, hk, rfl, n, hw⟩ := hrel
    by_cases hlt : k < len
    · obtain ⟨b1, o1, rfl, hcell1⟩ := (ha.drewE hw).some (by omega)
      obtain ⟨b2, o2, rfl, hcell2⟩ := (hb.drewE hw).some (by omega)
      have c1 := hcell1 k hlt
      have c2 := hcell2 k hlt
      generalize zs.getD k 0 = z at *
      have HW := Lib.hid hw
      clear hcell1 hcell2 hzl ha hb hw
      have hk0 : (0 : Int) ≤ (k : Int) := by omega
      have hk1 : (k : Int) < (len : Int) := by omega
      go_wp2_with fail
      go_quiet (fail)
      go_wp2
      go_roundw
      case rel => exact ⟨k + 1, by omega, by go_num, drewn_end HW.out⟩
      case measure => simp [intOf]; omega
    · have HW := Lib.hid hw
      clear hw
      go_wp2
      go_ret
      exact ⟨rfl, n, HW.out⟩
theorem _root_.Go.Proofs.Ytmbekamnogbgaaa.Fk.IsTs.drew {w w1 : World} {n : Nat} {a : Option Addr} {len cap : Nat} {ts : List (List Int)} (h : IsTs w a len cap ts) (hw : w1 = w.drewN n) : IsTs w1 a len cap ts := by subst hw; exact h
theorem _root_.Go.Proofs.Ytmbekamnogbgaaa.Fk.IsIs.drew {w : World} {n : Nat} {a : Option Addr} {len cap : Nat} {zs : List Int} (h : IsIs w a len cap zs) : IsIs (w.drewN n) a len cap zs := h
theorem _root_.Go.Proofs.Ytmbekamnogbgaaa.Fk.IsVs.drew {w w1 : World} {n : Nat} {a : Option Addr} {len cap : Nat} {cs : List C3} (h : IsVs w a len cap cs) (hw : w1 = w.drewN n) : IsVs w1 a len cap cs := by subst hw; exact h
set_option maxHeartbeats 1000000 in
theorem laws_eqInt64SS (a b : Option Addr) (len cap cap' : Nat) (ts : List (List Int)) (w : World) (ha : IsTs w a len cap ts) (hb : IsTs w b len cap' ts) :
    Calls Try.prog 62 #[.slice a len cap, .slice b len cap'] w fun e w' => e = .returned (.bool true) ∧ ∃ n, w' = w.drewN n := by
  have hm : len ≤ 9223372036854775807 := by have h1 := ha.2.1; have h2 := ha.2.2.1; unfold maxLen at h2; omega
  have hzl := ha.1
  go_enter Try.func62, Try.ntmps62
  go_wp2
  go_loopw [5] (fun i w' => ∃ k : Nat, k ≤ len ∧ i = .int .i64 k ∧ ∃ n, w' = w.drewN n) (fun i _ => len - (intOf i).toNat)
  case atStart => exact ⟨0, Nat.zero_le _, rfl, 0, rfl⟩
  case round =>
    obtain ⟨k, hk, rfl, n, hw⟩ := hrel
    by_cases hlt : k < len
    · obtain ⟨b1, o1, rfl, hcell1⟩ := (ha.drew hw).some (by omega)
      obtain ⟨b2, o2, rfl, hcell2⟩ := (hb.drew hw).some (by omega)
      obtain ⟨r1, n1, q1, c1, i1⟩ := hcell1 k hlt
      obtain ⟨r2, n2, q2, c2, i2⟩ := hcell2 k hlt
      have hn : n2 = n1 := i2.1.symm.trans i1.1
      subst hn
      generalize ts.getD k [] = z at *
      have HW := Lib.hid hw
      have I1 := Lib.hid i1
      have I2 := Lib.hid i2
      clear hcell1 hcell2 hzl ha hb hw i1 i2
      have hk0 : (0 : Int) ≤ (k : Int) := by omega
      have hk1 : (k : Int) < (len : Int) := by omega
      go_wp2_with fail
      go_quiet ((go_at_call 55; exact Calls.quiet_of (laws_eqInt64S _ _ _ _ _ _ _ I1.out.drew I2.out.drew)))
      go_wp2
      go_roundw
      case rel => exact ⟨k + 1, by omega, by go_num, drewn_end HW.out⟩
      case measure => simp [intOf]; omega
    · have HW := Lib.hid hw
      clear hw
      go_wp2
      go_ret
      exact ⟨rfl, n, HW.out⟩
set_option maxHeartbeats 1000000 in
theorem laws_eqVectorS (a b : Option Addr) (len cap cap' : Nat) (cs : List C3) (w : World) (ha : IsVs w a len cap cs) (hb : IsVs w b len cap' cs) :
    Calls Try.prog 30 #[.slice a len cap, .slice b len cap'] w fun e w' => e = .returned (.bool true) ∧ Below w.heap.size w w' := by
  have hm : len ≤ 9223372036854775807 := by have h1 := ha.2.1; have h2 := ha.2.2.1; unfold maxLen at h2; omega
  have uv := Try.underlying34
  have hzl := ha.1
  go_enter Try.func30, Try.ntmps30
  go_wp2
  go_loopw [5] (fun i w' => ∃ k : Nat, k ≤ len ∧ i = .int .i64 k ∧ Below w.heap.size w w') (fun i _ => len - (intOf i).toNat)
  case atStart => exact ⟨0, Nat.zero_le _, rfl, Below.refl _ _⟩
  case round =>
    obtain ⟨k, hk, rfl, hB⟩ := hrel
    by_cases hlt : k < len
    · obtain ⟨b1, o1, rfl, hcell1⟩ := (ha.below hB).some (by omega)
      obtain ⟨b2, o2, rfl, hcell2⟩ := (hb.below hB).some (by omega)
      obtain ⟨p1, q1, r1, c11, c12, c13, f11, f12, f13⟩ := hcell1 k hlt
      obtain ⟨p2, q2, r2, c21, c22, c23, f21, f22, f23⟩ := hcell2 k hlt
      generalize cs.getD k c0 = z at *
      have HB := Lib.hid hB
      clear hcell1 hcell2 hzl ha hb hB
      have hk0 : (0 : Int) ≤ (k : Int) := by omega
      have hk1 : (k : Int) < (len : Int) := by omega
      go_wp2_with fail
      refine Reg.wp_region_mix (C := fun w' => (w'.cell? ⟨b1, o1 + k * 3, none⟩ = some (.float .f32 p1) ∧ w'.cell? ⟨b1, o1 + k * 3 + 1, none⟩ = some (.float .f32 q1) ∧ w'.cell? ⟨b1, o1 + k * 3 + 2, none⟩ = some (.float .f32 r1) ∧ w'.cell? ⟨b2, o2 + k * 3, none⟩ = some (.float .f32 p2) ∧ w'.cell? ⟨b2, o2 + k * 3 + 1, none⟩ = some (.float .f32 q2) ∧ w'.cell? ⟨b2, o2 + k * 3 + 2, none⟩ = some (.float .f32 r2)) ∧ Below wr.heap.size wr w') (G := fun _ _ => True) (R := fun i v _ => match i with | 0 => v = .slice (some ⟨b1, o1, none⟩) len cap | 1 => v = .int .i64 k | 2 => v = .pointer (some ⟨b1, o1 + k * 3, none⟩) | 3 => v = vv p1 q1 r1 | 4 => v = .slice (some ⟨b2, o2, none⟩) len cap' | 5 => v = .int .i64 k | 6 => v = .pointer (some ⟨b2, o2 + k * 3, none⟩) | 7 => v = vv p2 q2 r2 | 8 => v = .bool true | 9 => v = .bool false | _ => True) (T := fun _ _ _ => True) [false, false, false, false, false, false, false, false, false, false, false, false, false, false, false, false, false, true, true, true, true, true, true, true, true, true, true]
        (by kernel_rfl) (by kernel_rfl) (by kernel_rfl) (fun _ _ _ _ _ _ h => h) ⟨⟨c11, c12, c13, c21, c22, c23⟩, below_drewN (Below.refl _ _) 1⟩ ?_ ?_
      · refine ⟨Reg.Obl.mk ?_, Reg.Obl.mk ?_, Reg.Obl.mk ?_, Reg.Obl.mk ?_, Reg.Obl.mk ?_, Reg.Obl.mk ?_, Reg.Obl.mk ?_, Reg.Obl.mk ?_, Reg.Obl.mk ?_, Reg.Obl.mk ?_, trivial⟩
        · rintro a w1 ⟨⟨d11, d12, d13, d21, d22, d23⟩, hB⟩ hx hd K hK
          have t0 : a.tmps[0]?.getD undef = .slice (some ⟨b1, o1, none⟩) len cap := Reg.slot_val (hx 0 (by kernel_rfl))
          go_simp
          exact hK _ _ (fun _ => rfl) (fun h => by cases h) ⟨⟨d11, d12, d13, d21, d22, d23⟩, hB⟩ trivial
        · rintro a w1 ⟨⟨d11, d12, d13, d21, d22, d23⟩, hB⟩ hx hd K hK
          have t5 : a.tmps[5]?.getD undef = .int .i64 k := Reg.slot_val (hx 5 (by kernel_rfl))
          go_simp
          exact hK _ _ (fun _ => rfl) (fun h => by cases h) ⟨⟨d11, d12, d13, d21, d22, d23⟩, hB⟩ trivial
        · rintro a w1 ⟨⟨d11, d12, d13, d21, d22, d23⟩, hB⟩ hx hd K hK
          have t17 : a.tmps[17]?.getD undef = .slice (some ⟨b1, o1, none⟩) len cap := Reg.slot_val (hd 0 (by kernel_rfl) 17 rfl)
          have t18 : a.tmps[18]?.getD undef = .int .i64 k := Reg.slot_val (hd 1 (by kernel_rfl) 18 rfl)
          go_simp
          exact hK _ _ (fun _ => rfl) (fun h => by cases h) ⟨⟨d11, d12, d13, d21, d22, d23⟩, hB⟩ trivial
        · rintro a w1 ⟨⟨d11, d12, d13, d21, d22, d23⟩, hB⟩ hx hd K hK
          have t19 : a.tmps[19]?.getD undef = .pointer (some ⟨b1, o1 + k * 3, none⟩) := Reg.slot_val (hd 2 (by kernel_rfl) 19 rfl)
          go_simp
          exact hK _ _ (fun _ => rfl) (fun h => by cases h) ⟨⟨d11, d12, d13, d21, d22, d23⟩, hB⟩ trivial
        · rintro a w1 ⟨⟨d11, d12, d13, d21, d22, d23⟩, hB⟩ hx hd K hK
          have t1 : a.tmps[1]?.getD undef = .slice (some ⟨b2, o2, none⟩) len cap' := Reg.slot_val (hx 1 (by kernel_rfl))
          go_simp
          exact hK _ _ (fun _ => rfl) (fun h => by cases h) ⟨⟨d11, d12, d13, d21, d22, d23⟩, hB⟩ trivial
        · rintro a w1 ⟨⟨d11, d12, d13, d21, d22, d23⟩, hB⟩ hx hd K hK
          have t5 : a.tmps[5]?.getD undef = .int .i64 k := Reg.slot_val (hx 5 (by kernel_rfl))
          go_simp
          exact hK _ _ (fun _ => rfl) (fun h => by cases h) ⟨⟨d11, d12, d13, d21, d22, d23⟩, hB⟩ trivial
        · rintro a w1 ⟨⟨d11, d12, d13, d21, d22, d23⟩, hB⟩ hx hd K hK
          have t21 : a.tmps[21]?.getD undef = .slice (some ⟨b2, o2, none⟩) len cap' := Reg.slot_val (hd 4 (by kernel_rfl) 21 rfl)
          have t22 : a.tmps[22]?.getD undef = .int .i64 k := Reg.slot_val (hd 5 (by kernel_rfl) 22 rfl)
          go_simp
          exact hK _ _ (fun _ => rfl) (fun h => by cases h) ⟨⟨d11, d12, d13, d21, d22, d23⟩, hB⟩ trivial
        · rintro a w1 ⟨⟨d11, d12, d13, d21, d22, d23⟩, hB⟩ hx hd K hK
          have t23 : a.tmps[23]?.getD undef = .pointer (some ⟨b2, o2 + k * 3, none⟩) := Reg.slot_val (hd 6 (by kernel_rfl) 23 rfl)
          go_simp
          exact hK _ _ (fun _ => rfl) (fun h => by cases h) ⟨⟨d11, d12, d13, d21, d22, d23⟩, hB⟩ trivial
        · rintro a w1 ⟨⟨d11, d12, d13, d21, d22, d23⟩, hB⟩ hx hd K hK
          have t20 : a.tmps[20]?.getD undef = vv p1 q1 r1 := Reg.slot_val (hd 3 (by kernel_rfl) 20 rfl)
          have t24 : a.tmps[24]?.getD undef = vv p2 q2 r2 := Reg.slot_val (hd 7 (by kernel_rfl) 24 rfl)
          go_simp
          refine (laws_eqVector _ _ _ _ _ _ _ _ _ _ f11 f12 f13 f21 f22 f23).mono ?_
          rintro en w2 ⟨rfl, hB2⟩
          exact hK _ _ (fun _ => rfl) (fun h => by cases h) ⟨⟨cell_below hB2 d11, cell_below hB2 d12, cell_below hB2 d13, cell_below hB2 d21, cell_below hB2 d22, cell_below hB2 d23⟩, hB.trans (hB2.mono hB.size)⟩ trivial
        · rintro a w1 ⟨⟨d11, d12, d13, d21, d22, d23⟩, hB⟩ hx hd K hK
          have t25 : a.tmps[25]?.getD undef = .bool true := Reg.slot_val (hd 8 (by kernel_rfl) 25 rfl)
          go_simp
          exact hK _ _ (fun _ => rfl) (fun h => by cases h) ⟨⟨d11, d12, d13, d21, d22, d23⟩, hB⟩ trivial
      · rintro f w1 ⟨_, hB⟩ hd hT
        have g26 : f 26 = .bool false := hd 9 26 rfl
        simp only [Reg.mixL, g26]
        have HB1 := Lib.hid hB
        clear hB
        go_wp2
        go_roundw
        case rel => exact ⟨k + 1, by omega, by go_num, HB.out.trans (HB1.out.mono HB.out.size)⟩
        case measure => simp [intOf]; omega
    · have HB := Lib.hid hB
      clear hB
      go_wp2
      go_ret
      exact ⟨rfl, HB.out⟩
end Go.Proofs.Ytmbekamnogbgaaa

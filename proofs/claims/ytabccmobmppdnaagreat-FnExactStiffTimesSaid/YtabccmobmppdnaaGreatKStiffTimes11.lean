/-
Texts in one: what StiffTimes stands on, part 11. Conditions: those of each.
-/
import Derived.Test.YtabccmobmppdnaaGreatKStiffTimes10
import Derived.Maps.OwnOps
import Derived.Maps.OwnSet
import Derived.Maps.OwnRows
import Derived.DeepKeys4
import Derived.Lib.Hide
import Derived.Shelf.SlIter.Collect
import Derived.Shelf.AbstractIn
import Derived.RangeFuncSeq
import Derived.RangeFuncGives
import Derived.Sort.MapsRangeIn
import Derived.Sort.KeysCollected
import Derived.WalkKit
import Derived.OwnWalkIn
import Derived.TacticsInMore
import Derived.RegionIn
import Derived.LoopNIn
import Derived.LoopIn
import Derived.Maps.AppendAt
import Derived.Shelf.Abstract
-- halved
namespace Go.Proofs.YtabccmobmppdnaaGreat
open Go Fk Go.RowKit
set_option linter.unusedVariables false
set_option maxRecDepth 8000
def setL (w : World) (g : Nat) : Nat → List Value → World
 | _, [] => w
 | o, v :: vs => setL (w.setCell ⟨g, o, none⟩ v) g (o + 1) vs
theorem setL_size (g : Nat) : ∀ (vs : List Value) (w : World) (o : Nat), (setL w g o vs).heap.size = w.heap.size
 | [], w, o => rfl
 | v :: vs, w, o => by rw [setL, setL_size g vs]; simp
theorem setL_frozen (g : Nat) (a : Addr) : ∀ (vs : List Value) (w : World) (o : Nat), (setL w g o vs).frozen? a = w.frozen? a
 | [], w, o => rfl
 | v :: vs, w, o => by rw [setL, setL_frozen g a vs]; simp
theorem setL_out (g m : Nat) : ∀ (vs : List Value) (w : World) (o : Nat), (m < o ∨ o + vs.length ≤ m) → (setL w g o vs).cell? ⟨g, m, none⟩ = w.cell? ⟨g, m, none⟩
 | [], w, o, h => rfl
 | v :: vs, w, o, h => by
  simp only [List.length_cons] at h
  rw [setL, setL_out g m vs _ _ (by omega), World.cell?_setCell_other _ _ _ _ (by simp <;> omega)]
theorem setL_far (g b i : Nat) (hne : g ≠ b) : ∀ (vs : List Value) (w : World) (o : Nat), (setL w g o vs).cell? ⟨b, i, none⟩ = w.cell? ⟨b, i, none⟩
 | [], w, o => rfl
 | v :: vs, w, o => by rw [setL, setL_far g b i hne vs, World.cell?_setCell_far (h := hne)]
theorem setL_in (g : Nat) : ∀ (vs : List Value) (w : World) (o : Nat), (∀ j, j < vs.length → ∃ u, w.cell? ⟨g, o + j, none⟩ = some u) → ∀ j, j < vs.length → (setL w g o vs).cell? ⟨g, o + j, none⟩ = vs[j]?
 | [], w, o, h, j, hj => by simp at hj
 | v :: vs, w, o, h, 0, hj => by
  rw [setL, setL_out g _ vs _ _ (by omega)]
  obtain ⟨u, hu⟩ := h 0 (by simp)
  simpa using World.cell?_setCell_same w ⟨g, o + 0, none⟩ v hu
 | v :: vs, w, o, h, j + 1, hj => by
  rw [setL, show o + (j + 1) = o + 1 + j by omega]
  rw [setL_in g vs _ (o + 1) (fun i hi => by
   obtain ⟨u, hu⟩ := h (i + 1) (by simp; omega)
   exact ⟨u, by rw [World.cell?_setCell_other _ _ _ _ (by simp <;> omega), show o + 1 + i = o + (i + 1) by omega]; exact hu⟩) j (by simpa using hj)]
  simp
theorem setL_below {B : Nat} {W : World} (g : Nat) (hB : B ≤ g) : ∀ (vs : List Value) (w : World) (o : Nat), Below B W w → Below B W (setL w g o vs)
 | [], w, o, h => h
 | v :: vs, w, o, h => setL_below g hB vs _ _ (h.setCell (p := ⟨g, o, none⟩) hB v)
end Go.Proofs.YtabccmobmppdnaaGreat
namespace Go.Proofs.YtabccmobmppdnaaGreat
open Go Fk Go.RowKit
set_option linter.unusedVariables false
set_option maxRecDepth 8000
structure Agree (S : Nat → Prop) (W w : World) : Prop where
 cell : ∀ b i v, S b → W.cell? ⟨b, i, none⟩ = some v → w.cell? ⟨b, i, none⟩ = some v
 frozen : ∀ b i, S b → b < W.heap.size → w.frozen? ⟨b, i, none⟩ = W.frozen? ⟨b, i, none⟩
 size : W.heap.size ≤ w.heap.size
theorem Agree.refl (S : Nat → Prop) (w : World) : Agree S w w := ⟨fun _ _ _ _ h => h, fun _ _ _ _ => rfl, Nat.le_refl _⟩
theorem Agree.trans {S : Nat → Prop} {a b c : World} (h : Agree S a b) (k : Agree S b c) : Agree S a c :=
 ⟨fun x i v hs hv => k.cell x i v hs (h.cell x i v hs hv), fun x i hs hx => (k.frozen x i hs (Nat.lt_of_lt_of_le hx h.size)).trans (h.frozen x i hs hx), Nat.le_trans h.size k.size⟩
theorem Agree.of_below {S : Nat → Prop} {W w : World} (h : Below W.heap.size W w) : Agree S W w :=
 ⟨fun b i v _ hv => cell_below h hv, fun b i _ hb => h.frozen (p := ⟨b, i, none⟩) hb, h.size⟩
theorem Agree.set {S : Nat → Prop} {W w : World} {b i : Nat} {u : Value} (h : Agree S W w) (hb : ¬ S b) : Agree S W (w.setCell ⟨b, i, none⟩ u) :=
 ⟨fun x j v hs hv => by
  have hne : b ≠ x := fun e => hb (e ▸ hs)
  rw [World.cell?_setCell_other _ _ _ _ (by simp [hne])]
  exact h.cell x j v hs hv, fun x j hs hx => by simp; exact h.frozen x j hs hx, by simpa using h.size⟩
theorem Agree.setL {S : Nat → Prop} {W : World} {g : Nat} (hg : ¬ S g) : ∀ (vs : List Value) (w : World) (o : Nat), Agree S W w → Agree S W (setL w g o vs)
 | [], w, o, h => h
 | v :: vs, w, o, h => Agree.setL hg vs _ _ (h.set hg)
theorem vs_agree {S : Nat → Prop} {W w : World} {lo hi : Nat} {a : Option Addr} {n c : Nat} {cs : List C3} (h : IsVs W a n c cs) (hl : LV lo hi a) (hS : ∀ b, lo ≤ b → b < hi → S b) (hA : Agree S W w) : IsVs w a n c cs := by
 obtain ⟨h1, h2, h3, h4, h5⟩ := h
 refine ⟨h1, h2, h3, h4, fun x hx i hlt => ?_⟩
 obtain ⟨p, q, r, k0, k1, k2, hf⟩ := h5 x hx i hlt
 obtain ⟨b, rfl, l1, l2⟩ := hl x hx
 have hs := hS b l1 l2
 rw [addr_add'] at k0 k1 k2
 exact ⟨p, q, r, by rw [addr_add']; exact hA.cell _ _ _ hs k0, by rw [addr_add']; exact hA.cell _ _ _ hs k1, by rw [addr_add']; exact hA.cell _ _ _ hs k2, hf⟩
theorem fs_agree {S : Nat → Prop} {W w : World} {lo hi : Nat} {a : Option Addr} {n c : Nat} {zs : List Nat} (h : IsFs .f32 W a n c zs) (hl : LV lo hi a) (hS : ∀ b, lo ≤ b → b < hi → S b) (hA : Agree S W w) : IsFs .f32 w a n c zs := by
 obtain ⟨h1, h2, h3, h4, h5, h6⟩ := h
 refine ⟨h1, h2, h3, h4, h5, fun x hx i hlt => ?_⟩
 have k0 := h6 x hx i hlt
 obtain ⟨b, rfl, l1, l2⟩ := hl x hx
 rw [addr_add'] at k0 ⊢
 exact hA.cell _ _ _ (hS b l1 l2) k0
theorem ss_agree {S : Nat → Prop} {W w : World} {lo hi : Nat} {a : Option Addr} {n c : Nat} {ss : List SC} (h : IsSs W a n c ss) (hl : LV lo hi a) (hS : ∀ b, lo ≤ b → b < hi → S b) (hA : Agree S W w) : IsSs w a n c ss := by
 obtain ⟨h1, h2, h3, h4, h5, h6⟩ := h
 refine ⟨h1, h2, h3, h4, h5, fun x hx i hlt => ?_⟩
 obtain ⟨p, q, k0, k1, k2, k3, hf⟩ := h6 x hx i hlt
 obtain ⟨b, rfl, l1, l2⟩ := hl x hx
 have hs := hS b l1 l2
 rw [addr_add'] at k0 k1 k2 k3
 exact ⟨p, q, by rw [addr_add']; exact hA.cell _ _ _ hs k0, by rw [addr_add']; exact hA.cell _ _ _ hs k1, by rw [addr_add']; exact hA.cell _ _ _ hs k2, by rw [addr_add']; exact hA.cell _ _ _ hs k3, hf⟩
theorem lt_agree {S : Nat → Prop} {W w : World} {lo hi n : Nat} {a : Option Addr} (hl : LT lo hi W a n) (hS : ∀ b, lo ≤ b → b < hi → S b) (hA : Agree S W w) : LT lo hi w a n := fun x hx => by
 obtain ⟨g, e, h1, h2, h3⟩ := hl x hx
 refine ⟨g, e, h1, h2, fun i hlt => ?_⟩
 obtain ⟨b, m, c, hc, hb⟩ := h3 i hlt
 exact ⟨b, m, c, hA.cell _ _ _ (hS g h1 h2) hc, hb⟩
theorem ts_agree {S : Nat → Prop} {W w : World} {lo hi : Nat} {a : Option Addr} {n c : Nat} {ts : List (List Int)} (h : IsTs W a n c ts) (hl : LT lo hi W a n) (hS : ∀ b, lo ≤ b → b < hi → S b) (hA : Agree S W w) : IsTs w a n c ts := by
 obtain ⟨h1, h2, h3, h4, h5⟩ := h
 refine ⟨h1, h2, h3, h4, fun x hx i hlt => ?_⟩
 obtain ⟨g, e, l1, l2, u3⟩ := hl x hx
 obtain ⟨b, m, q, hc, hI⟩ := h5 x hx i hlt
 subst e
 rw [addr_add', Nat.zero_add] at hc
 obtain ⟨b', m', q', hc', hb'⟩ := u3 i hlt
 rw [hc] at hc'
 cases hc'
 refine ⟨b, m, q, by rw [addr_add', Nat.zero_add]; exact hA.cell _ _ _ (hS g l1 l2) hc, ?_⟩
 obtain ⟨i1, i2, i3, i4, i5, i6⟩ := hI
 refine ⟨i1, i2, i3, i4, i5, fun z hz j hj => ?_⟩
 have := i6 z hz j hj
 obtain ⟨h', o, e', w1, w2⟩ := hb' z hz
 subst e'
 rw [addr_add'] at this ⊢
 exact hA.cell _ _ _ (hS h' w1 w2) this
def LB (lo hi : Nat) (w : World) (B : Bd) : Prop := LV lo hi B.pa ∧ LT lo hi w B.ta B.tl ∧ LV lo hi B.sa ∧ LV lo hi B.wa
theorem LB.wide {lo hi lo' hi' : Nat} {w : World} {B : Bd} (h : LB lo hi w B) (h1 : lo' ≤ lo) (h2 : hi ≤ hi') : LB lo' hi' w B :=
 ⟨h.1.wide h1 h2, h.2.1.wide h1 h2, h.2.2.1.wide h1 h2, h.2.2.2.wide h1 h2⟩
theorem at_setL {w : World} {b o : Nat} {l vs : List Value} (h : At w b l) (hl : o + vs.length ≤ l.length) : At (setL w b o vs) b (l.take o ++ vs ++ l.drop (o + vs.length)) := by
 intro i v hi
 have hin := setL_in b vs w o (fun j hj => by
  have : o + j < l.length := by omega
  exact ⟨l[o + j], h (o + j) _ (by simp [this])⟩)
 by_cases h1 : i < o
 ·rw [setL_out b i vs w o (.inl h1)]
  refine h i v ?_
  rw [List.append_assoc, List.getElem?_append_left (by simp; omega)] at hi
  simpa [h1] using hi
 ·by_cases h2 : i < o + vs.length
  ·have := hin (i - o) (by omega)
   rw [show o + (i - o) = i by omega] at this
   rw [this]
   rw [List.append_assoc, List.getElem?_append_right (by simp; omega), List.getElem?_append_left (by simp; omega)] at hi
   rw [← hi]
   congr 1
   simp; omega
  ·rw [setL_out b i vs w o (.inr (by omega))]
   refine h i v ?_
   rw [List.getElem?_append_right (by simp; omega)] at hi
   rw [List.getElem?_drop] at hi
   rw [← hi]
   congr 1
   simp; omega
end Go.Proofs.YtabccmobmppdnaaGreat
namespace Go.Proofs.YtabccmobmppdnaaGreat
open Go Fk Go.RowKit Go.Maps
open Go.ChangeShapes (lits)
set_option linter.unusedVariables false
set_option maxRecDepth 8000
theorem laidOutE : laidOutB Tryz.prog = true := by kernel_rfl
theorem sizeE : ∃ m, Tryz.prog.types.size = m + 1 := ⟨Tryz.prog.types.size - 1, by kernel_rfl⟩
theorem edgeWide : (match Tryz.prog.underlying 234 with | some (.array _ _) | some (.struct _) => true | _ => false) = true := by kernel_rfl
theorem edgeType : Tryz.prog.keyTypeAt 2 234 = true := by kernel_rfl
theorem edgeKey : Tryz.prog.keyType 234 = true := by kernel_rfl
theorem edgeCells : Tryz.prog.cellsOf 234 = 2 := by kernel_rfl
theorem intCellsE : Tryz.prog.cellsOf 2 = 1 := by kernel_rfl
theorem edgeTiled : Tryz.prog.tiled 2 234 = true := tiled_of_laidOut laidOutE 2 _ (by kernel_rfl) edgeType
theorem edgeKeyed : Keyed Tryz.prog 234 := Keyed.of_law (deep_law_laid laidOutE (m := 2) (by omega) (of_decide_eq_true (by kernel_rfl)) edgeType edgeWide)
def kE (s : Int × Int) : Lit := .string (keyBytes [.int .i64 s.1, .int .i64 s.2])
theorem keyOf_edge {a b : Int} (wa : (Lit.int .i64 a).wf = true) (wb : (Lit.int .i64 b).wf = true) : keyOf Tryz.prog 234 (.agg #[.int .i64 a, .int .i64 b]) = some (kE (a, b)) := by
 have us := Tryz.underlying234
 have ui := Tryz.underlying2
 obtain ⟨m, hm⟩ := sizeE
 unfold keyOf
 simp only [us]
 rw [if_pos (by simp [edgeKey, Value.formed, us, edgeCells]), hm]
 unfold Program.keyLits
 simp only [us, Value.cells]
 rw [if_pos (by rw [edgeCells]; exact ⟨rfl, by kernel_rfl⟩)]
 simp [Program.keyLits, ui, intCellsE, wa, wb, kE]
theorem kE_inj {a b c d : Int} (wa : (Lit.int .i64 a).wf = true) (wb : (Lit.int .i64 b).wf = true) (wc : (Lit.int .i64 c).wf = true) (wd : (Lit.int .i64 d).wf = true) (h : kE (a, b) = kE (c, d)) : (a, b) = (c, d) := by
 have h1 := keyOf_edge wa wb
 have h2 := keyOf_edge wc wd
 rw [h] at h1
 have := keyOf_inj_deep edgeTiled edgeWide h1 h2
 simpa using this
theorem kE_key (s : Int × Int) : WideAt.IsKeyLit (kE s) := by
 unfold kE
 exact trivial
theorem keyOf_edge_inv {v : Value} {l : Lit} (h : keyOf Tryz.prog 234 v = some l) : ∃ a b : Int, v = .agg #[.int .i64 a, .int .i64 b] ∧ (Lit.int .i64 a).wf = true ∧ (Lit.int .i64 b).wf = true ∧ l = kE (a, b) := by
 have us := Tryz.underlying234
 have ui := Tryz.underlying2
 obtain ⟨m, hm⟩ := sizeE
 unfold keyOf at h
 simp only [us] at h
 split at h
 ·rename_i hf
  rw [hm] at h
  simp only [Bool.and_eq_true] at hf
  have hform := hf.2
  unfold Program.keyLits at h
  simp only [us] at h
  split at h
  ·rename_i hc
   rw [edgeCells] at hc
   cases v with
   | agg cs =>
    simp only [Value.cells] at h hc
    obtain ⟨l0⟩ := cs
    match l0, hc.1 with
    | [x, y], _ =>
     cases x with
     | int k1 a =>
      by_cases h1 : k1 = IntKind.i64 ∧ (Lit.int .i64 a).wf = true
      ·obtain ⟨rfl, wa⟩ := h1
       cases y with
       | int k2 b =>
        by_cases h2 : k2 = IntKind.i64 ∧ (Lit.int .i64 b).wf = true
        ·obtain ⟨rfl, wb⟩ := h2
         simp [Program.keyLits, ui, intCellsE, wa, wb] at h
         exact ⟨a, b, rfl, wa, wb, by unfold kE; exact h.symm⟩
        ·simp [Program.keyLits, ui, intCellsE, wa, h2] at h
       | _ => simp [Program.keyLits, ui, intCellsE, wa] at h
      ·simp [Program.keyLits, ui, intCellsE, h1] at h
     | _ => simp [Program.keyLits, ui, intCellsE] at h
   | _ => simp [Value.formed, us] at hform
  ·simp at h
 ·cases h
def grp (L : List ((Int × Int) × Int)) (e : Int × Int) : List Int := (L.filter fun p => decide (p.1 = e)).map (·.2)
theorem grp_snoc (L : List ((Int × Int) × Int)) (e e' : Int × Int) (i : Int) : grp (L ++ [(e, i)]) e' = grp L e' ++ (if e = e' then [i] else []) := by
 unfold grp
 rw [List.filter_append, List.map_append]
 by_cases h : e = e' <;> simp [h]
def datG (zs : List Int) : DataW Unit := if zs = [] then .nil else .slice (lits .i64 zs) []
def GroupsOf (D : DataW Unit) (L : List ((Int × Int) × Int)) : Prop := IsMap D ∧ (∀ a b, (Lit.int .i64 a).wf = true → (Lit.int .i64 b).wf = true → D.atKey (kE (a, b)) .nil = datG (grp L (a, b))) ∧ ∀ a b, (Lit.int .i64 a).wf = true → (Lit.int .i64 b).wf = true → has D (kE (a, b)) = true → (a, b) ∈ L.map (·.1)
theorem GroupsOf.nil : GroupsOf (.map []) [] := ⟨isMap_empty, fun a b _ _ => by simp [DataW.atKey, grp, datG], fun a b _ _ h => by simp [has_eq] at h⟩
theorem GroupsOf.put {D : DataW Unit} {L : List ((Int × Int) × Int)} {x y i : Int} (h : GroupsOf D L) (wx : (Lit.int .i64 x).wf = true) (wy : (Lit.int .i64 y).wf = true) : GroupsOf (D.put (kE (x, y)) (.slice (lits .i64 (grp L (x, y) ++ [i])) [])) (L ++ [((x, y), i)]) := by
 refine ⟨h.1.put _ _, fun a b wa wb => ?_, fun a b wa wb hh => ?_⟩
 rotate_left
 ·by_cases e : (x, y) = (a, b)
  ·rw [← e]; simp
  ·rw [has_put_other (fun e' => e (kE_inj wa wb wx wy e').symm)] at hh
   rw [List.map_append]
   exact List.mem_append_left _ (h.2.2 a b wa wb hh)
 rw [grp_snoc]
 by_cases e : (x, y) = (a, b)
 ·rw [← e, atKey_put_same h.1 (kE_key _), if_pos rfl]
  unfold datG
  rw [if_neg (by simp)]
 ·rw [atKey_put_other (fun e' => e (kE_inj wa wb wx wy e').symm), h.2.1 a b wa wb, if_neg e, List.append_nil]
theorem lits_inj {zs ys : List Int} (h : lits (H := Unit) .i64 zs = lits .i64 ys) : zs = ys := by
 unfold lits at h
 exact (List.map_inj_right (fun a b hab => by simpa using hab)).1 h
theorem group_is {W : World} {base : Nat} {v : Value} {zs : List Int} {D : DataW Unit} {L : List ((Int × Int) × Int)} {x y : Int} (hF : GroupsOf D L) (wx : (Lit.int .i64 x).wf = true) (wy : (Lit.int .i64 y).wf = true) (hat : D.atKey (kE (x, y)) .nil = rowDatum .i64 v zs) (ho : W.ownsInts base 2 .i64 v zs) : zs = grp L (x, y) := by
 rw [hF.2.1 x y wx wy] at hat
 unfold datG at hat
 rcases ho.datum (H := Unit) with ⟨h1, h2⟩ | h1
 ·rw [h1] at hat
  split at hat
  ·rename_i h; rw [h2, h]
  ·cases hat
 ·rw [h1] at hat
  split at hat
  ·cases hat
  ·injection hat with h3 h4
   exact (lits_inj h3).symm
theorem GroupsOf.has_of {D : DataW Unit} {L : List ((Int × Int) × Int)} (h : GroupsOf D L) {a b : Int} (wa : (Lit.int .i64 a).wf = true) (wb : (Lit.int .i64 b).wf = true) (hm : (a, b) ∈ L.map (·.1)) : has D (kE (a, b)) = true := by
 cases hh : has D (kE (a, b))
 ·exfalso
  have h1 := h.2.1 a b wa wb
  obtain ⟨es, rfl⟩ := h.1
  have hz : (DataW.map es).atKey (kE (a, b)) .nil = .nil := by
   rw [has_eq] at hh
   simp only [DataW.atKey]
   have : es.find? (fun p => p.1.sameKey (kE (a, b))) = none := by
    rw [List.find?_eq_none]
    intro p hp
    have := List.any_eq_false.1 hh p hp
    simpa using this
   rw [this]
  rw [hz] at h1
  unfold datG at h1
  split at h1
  ·rename_i hg
   obtain ⟨p, hp, e⟩ := List.mem_map.1 hm
   have : p.2 ∈ grp L (a, b) := List.mem_map.2 ⟨p, List.mem_filter.2 ⟨hp, by simp [e]⟩, rfl⟩
   rw [hg] at this
   cases this
  ·cases h1
 ·rfl
end Go.Proofs.YtabccmobmppdnaaGreat
namespace Go.Proofs.YtabccmobmppdnaaGreat
open Go Fk Go.RowKit Go.Maps Go.Sort Go.Shelf
set_option linter.unusedVariables false
set_option maxRecDepth 100000
def wfE (x : Int × Int) : Prop := (Lit.int .i64 x.1).wf = true ∧ (Lit.int .i64 x.2).wf = true
def encE (x : Int × Int) : Value := .agg #[.int .i64 x.1, .int .i64 x.2]
theorem encE_inj {x y : Int × Int} (h : encE x = encE y) : x = y := by
 obtain ⟨a, b⟩ := x
 obtain ⟨c, d⟩ := y
 simpa [encE] using h
theorem kE_inj2 {x y : Int × Int} (wx : wfE x) (wy : wfE y) (h : kE x = kE y) : x = y := kE_inj wx.1 wx.2 wy.1 wy.2 h
theorem kE_self (x : Int × Int) : (kE x).sameKey (kE x) = true := by
 unfold kE
 simp [Lit.sameKey]
theorem kE_other {x y : Int × Int} (h : kE x ≠ kE y) : (kE x).sameKey (kE y) = false := by
 unfold kE at *
 simpa [Lit.sameKey] using h
def CollectedE (D0 : DataW Unit) (left : Lit → Bool) (ss : List (Int × Int)) : Prop := ss.Nodup ∧ ∀ x, x ∈ ss ↔ (wfE x ∧ has D0 (kE x) = true ∧ left (kE x) = false)
theorem CollectedE.start (D0 : DataW Unit) : CollectedE D0 (has D0) [] := ⟨List.nodup_nil, fun x => by cases has D0 (kE x) <;> simp⟩
theorem CollectedE.step {D0 : DataW Unit} {left : Lit → Bool} {ss : List (Int × Int)} (h : CollectedE D0 left ss) {x : Int × Int} (wx : wfE x) {y : DataW Unit} (hlk : left (kE x) = true) (hat : ∀ zd, D0.atKey (kE x) zd = y) : CollectedE D0 (fun z => left z && !z.sameKey (kE x)) (ss ++ [x]) := by
 have hhas : has D0 (kE x) = true := has_true_of_atKey hat
 have hnew : x ∉ ss := fun hx => by have := ((h.2 x).1 hx).2.2; rw [hlk] at this; cases this
 refine ⟨List.nodup_append.2 ⟨h.1, by simp, fun a ha b hb => by simp at hb; subst hb; exact fun e => hnew (e ▸ ha)⟩, fun y => ?_⟩
 by_cases hy : y = x
 ·subst hy; simp [hhas, kE_self, wx]
 ·rw [List.mem_append, h.2 y]
  simp only [List.mem_singleton, hy, or_false]
  refine and_congr_right fun wy => and_congr_right fun _ => ?_
  have : kE y ≠ kE x := fun e => hy (kE_inj2 wy wx e)
  simp [kE_other this]
def KeysE (D0 : DataW Unit) (ss : List (Int × Int)) : Prop := ss.Nodup ∧ ∀ x, x ∈ ss ↔ (wfE x ∧ has D0 (kE x) = true)
theorem CollectedE.done {D0 : DataW Unit} {left : Lit → Bool} {ss : List (Int × Int)} (h : CollectedE D0 left ss) (hl : ∀ kl, left kl = false) : KeysE D0 ss := ⟨h.1, fun x => by rw [h.2 x, hl]; simp⟩
theorem map_of_groups {w : World} {P : Program} {k : TypeId} {base : Nat} {e : TypeId} {q : IntKind} {b n : Nat} {D : DataW Unit} (h : w.ownsGroups P k base e q b n D) : w.ownsMap P k (rowElem (H := Unit) w base e q) b n D := by
 obtain ⟨es, clock, hb, F, hs, hD, _⟩ := h
 exact ⟨es, clock, hb, F, hs, hD⟩
set_option maxHeartbeats 1000000 in
theorem keysE1 (n : Nat) (hn : 1 ≤ n) (l Bm b nn : Nat) (D0 : DataW Unit) {R : Value → Option (DataW Unit × List MemPlace)} (J : List (Int × Int) → World → Prop)
  (hY : ∀ pre x W, J pre W → pre.length < Maps.size D0 → YieldAt Fence.wide (n - 1) Tryz.prog l #[encE x] W fun e W' => e = .returned (.bool true) ∧ J (pre ++ [x]) W' ∧ KeepsWalks W W')
  (W : World) (hJ : AbidesFrom W.heap.size J) (hm : W.cell? ⟨Bm, 0, none⟩ = some (.map (some b))) (hown : W.ownsMap Tryz.prog 234 R b nn D0) (h0 : J [] W) :
  CallsIn Fence.wide n Tryz.prog 208 #[.func (.yield l) #[] #[], .pointer (some ⟨Bm, 0, none⟩)] W fun e W' => (∃ v, e = .returned v) ∧ ∃ ss : List (Int × Int), KeysE D0 ss ∧ J ss W' := by
 have um := Tryz.underlying229
 have ue := Tryz.underlying234
 have hro : Fence.wide.round = none := rfl
 refine callsIn_of_wp Tryz.func208 rfl trivial ?_ rfl
 simp only [Tryz.ntmps208, List.size_toArray, List.length_cons, List.length_nil, Nat.reduceAdd, Nat.reduceSub, Array.replicate_succ, Array.replicate_zero, List.push_toArray, List.append_toArray, List.nil_append, List.cons_append]
 gi_wp2_with (first
  | (gi_at_range; refine wpListIn_range_own _ rfl _ 229 rfl 234 33 edgeKeyed um _ b nn _ rfl hown ?_; intro w0 hrg0 hg0 hs0)
  | gi_in)
 go_frame
 gi_loopw [3] (fun _ wr => ∃ (left : Lit → Bool) (cnt : Nat) (ss : List (Int × Int)), wr.ranges Tryz.prog 234 R b W.heap.size nn D0 left cnt ∧ ss.length + cnt ≤ Maps.size D0 ∧ CollectedE D0 left ss ∧ J ss wr)
  (fun _ wr => wr.rangeLeft b W.heap.size)
 case atStart =>
  exact ⟨_, _, [], hrg0, by simp, CollectedE.start D0, hJ [] W w0 none h0 hg0 (fun r e => by cases e)⟩
 case round =>
  obtain ⟨left, cnt, ss, hrg, hcs, hC, hJs⟩ := hrel
  gi_wp2_with (first
   | (gi_at_next; refine wpListIn_next_ranges _ rfl _ rfl 234 edgeKeyed R encE id (fun key kl hk => by obtain ⟨a, b, hx, _⟩ := keyOf_edge_inv hk; exact ⟨(a, b), hx⟩) (fun v _ _ => ⟨v, rfl⟩) b W.heap.size nn _ _ _ rfl hrg ?_ ?_)
   | gi_in)
  ·intro hc0 hl0
   gi_wp2
   go_end0
   exact ⟨⟨_, rfl⟩, ss, hC.done hl0, hJs⟩
  ·intro x1 x2 c kl yd yp w2 cnt2 hkey hlk hv hat hrg2 hlt hg2 hs2 hen
   obtain ⟨a, b', ex, wa, wb, rfl⟩ := keyOf_edge_inv hkey
   obtain ⟨rfl, rfl⟩ := Prod.mk.inj (encE_inj (x := (x1, x2)) (y := (a, b')) ex)
   have hJ2 : J ss w2 := hJ ss wr w2 (some W.heap.size) hJs hg2 (fun r e => by cases e; exact ⟨Nat.le_refl _, hrg.iter_walk⟩)
   have hJ3 : J ss (w2.alloc (.cells #[.int .i64 x1, .int .i64 x2] 234)) := hJ ss w2 _ none hJ2 (World.grownBy_alloc _ _ _) (fun r e => by cases e)
   obtain ⟨fn, tmps, assign, body, hy, hR⟩ := hY ss (x1, x2) _ hJ3 (by omega)
   change (Instr.yield l #[.agg #[.int .i64 x1, .int .i64 x2]]).run Tryz.prog _ = _ at hy
   change (Instr.entry _).run Tryz.prog _ = Result.ok (.tuple #[.agg #[.int .i64 x1, .int .i64 x2], c]) _ at hen
   clear hs2
   gi_wp2
   refine hR.mono ?_
   rintro e W3 ⟨rfl, hJ4, hk3⟩
   gi_wp2
   have hrg3 := hrg2.of_walks ((KeepsWalks.alloc _ _).trans hk3)
   go_roundw
   case rel => exact ⟨_, cnt2, ss ++ [(x1, x2)], hrg3, by simp; omega, hC.step ⟨wa, wb⟩ hlk hat, hJ4⟩
   case measure => rw [hrg3.left_eq, hrg.left_eq]; exact hlt
theorem keysE_gives (n : Nat) (hn : 1 ≤ n) (Bm b nn : Nat) (D0 : DataW Unit) {R : Value → Option (DataW Unit × List MemPlace)} (w : World) (hBm : Bm < w.heap.size)
  (hm : w.cell? ⟨Bm, 0, none⟩ = some (.map (some b))) (hown : w.ownsMap Tryz.prog 234 R b nn D0) :
  SeqGives Fence.wide n Tryz.prog 208 #[.pointer (some ⟨Bm, 0, none⟩)] encE (KeysE D0) (Maps.size D0) w := fun l J W hW hJ hY h0 => by
 have hown' : W.ownsMap Tryz.prog 234 R b nn D0 := by
  have hbl := hown.lt
  obtain ⟨es, clock, hb, Ft, hs, hD⟩ := hown
  exact ⟨es, clock, (hW.block b hbl).trans hb, Ft, hs, hD⟩
 exact keysE1 n hn l Bm b nn D0 J hY W hJ ((hW.cell (p := ⟨Bm, 0, none⟩) hBm).trans hm) hown' h0
theorem maps_KeysE (n : Nat) (mb : Option Nat) (w : World) :
  CallsIn Fence.wide n Tryz.prog 199 #[.map mb] w fun e w' => e = .returned (.func (.func 208) #[] #[.pointer (some ⟨w.heap.size, 0, none⟩)]) ∧ w' = w.alloc (.cells #[.map mb] 229) := by
 have um := Tryz.underlying229
 refine callsIn_of_wp Tryz.func199 rfl trivial ?_ rfl
 simp only [Tryz.ntmps199, List.size_toArray, List.length_cons, List.length_nil, Nat.reduceAdd, Nat.reduceSub, Array.replicate_succ, Array.replicate_zero, List.push_toArray, List.append_toArray, List.nil_append, List.cons_append]
 gi_wp2
 go_ret
 exact ⟨rfl, rfl⟩
end Go.Proofs.YtabccmobmppdnaaGreat
namespace Go.Proofs.YtabccmobmppdnaaGreat
open Go Fk Go.RowKit Go.Maps Go.Sort Go.Shelf
set_option linter.unusedVariables false
set_option maxRecDepth 100000
theorem infoE : (Tryz.prog.info? 234).map (fun i => (i.zero, i.size, i.bytes)) = some (some (.agg #[.int .i64 0, .int .i64 0]), 2, 16) := by kernel_rfl
def flatE (ss : List (Int × Int)) : List Value := ss.flatMap fun x => [.int .i64 x.1, .int .i64 x.2]
theorem flatE_snoc (ss : List (Int × Int)) (x : Int × Int) : flatE (ss ++ [x]) = flatE ss ++ [.int .i64 x.1, .int .i64 x.2] := by simp [flatE]
theorem cell_two_new (w : World) (x y : Value) (t : TypeId) : ∀ j u, [x, y][j]? = some u → (w.alloc (.cells #[x, y] t)).cell? ((⟨w.heap.size, 0, none⟩ : Addr).add j) = some u := by
 intro j u hj
 match j, hj with
 | 0, hj =>
  simp at hj
  subst hj
  simp [Addr.add]
 | 1, hj =>
  simp at hj
  subst hj
  simp [Addr.add]
def apAssign : Code := (Code.region 2 #[{ dst := some 5, op := Op.alloc 234, type := 0, pos := "iter.go:51", after := #[], guard := none }, { dst := none, op := Op.store 234 (Operand.tmp 5) (Operand.tmp 7), type := 0, pos := "iter.go:51", after := #[{ on := 0, ground := Ground.data }, { on := 0, ground := Ground.phase }], guard := none }] false)
def apBody : Code := (Code.block 1 (Code.region 3 #[{ dst := some 8, op := Op.load 231 (Operand.tmp 2), type := 231, pos := "iter.go:52", after := #[], guard := none }, { dst := some 9, op := Op.load 234 (Operand.tmp 5), type := 234, pos := "iter.go:52", after := #[], guard := none }, { dst := some 10, op := Op.buildSlice 231 1 #[(0, Operand.tmp 9)], type := 231, pos := "iter.go:52", after := #[{ on := 1, ground := Ground.data }], guard := none }, { dst := some 11, op := Op.call { callee := Callee.builtin Builtin.append, args := #[Operand.tmp 8, Operand.tmp 10], argTypes := #[231, 231] }, type := 231, pos := "iter.go:52", after := #[{ on := 0, ground := Ground.data }, { on := 2, ground := Ground.data }], guard := none }, { dst := none, op := Op.store 231 (Operand.tmp 2) (Operand.tmp 11), type := 0, pos := "iter.go:52", after := #[{ on := 3, ground := Ground.data }, { on := 3, ground := Ground.chain }, { on := 0, ground := Ground.phase }, { on := 1, ground := Ground.phase }, { on := 2, ground := Ground.phase }, { on := 3, ground := Ground.phase }], guard := none }] false))
def apRec (fn : FuncId) (sv : Value) (Bs D : Nat) (st : LoopState) (pend : Option Code) : Loop :=
 { state := st, pending := pend, fn, tmps := #[.slice none 0 0, sv, .pointer (some ⟨Bs, 0, none⟩), undef, .slice none 0 0, undef, sv, undef, undef, undef, undef, undef, undef], params := #[7], assign := apAssign, body := apBody, defers := D }
structure ApAt (w0 : World) (fn : FuncId) (sv : Value) (Bs l D : Nat) (ss : List (Int × Int)) (W : World) : Prop where
 box : ∃ v, W.heap[Bs]? = some (.cells #[v] 231 (0, 0)) ∧ W.ownsRow w0.heap.size 234 2 v ss.length (flatE ss) ∧ (v = .slice none 0 0 ↔ ss = [])
 L : W.heap[l]? = some (.loop (apRec fn sv Bs D .ready none))
 K : W.heap[D]? = some (.deferred (some []))
 below : Below w0.heap.size w0 W
theorem ap_abides (w0 : World) (fn : FuncId) (sv : Value) (Bs l D B : Nat) (hB : w0.heap.size ≤ B) : AbidesFrom B (ApAt w0 fn sv Bs l D) := fun s W W' row h hg hrow => by
 have hrow' : ∀ r, row = some r → ∃ o : Obj, W.heap[r]? = some o ∧ o.isWalk = true := fun r e => (hrow r e).2
 obtain ⟨v, hv, hr, hn⟩ := h.box
 exact ⟨⟨v, (grownBy_keeps hg hrow' hv rfl).trans hv, ownsRow_abides_a hr hg hrow', hn⟩, (grownBy_keeps hg hrow' h.L rfl).trans h.L, (grownBy_keeps hg hrow' h.K rfl).trans h.K,
  h.below.grown hg h.below.size (fun k e => Nat.le_trans hB (hrow k e).1)⟩
set_option maxRecDepth 100000 in
set_option maxHeartbeats 2000000 in
theorem apYield (m : Nat) (w0 : World) (fn : FuncId) (sv : Value) (Bs l D : Nat) (hBl : Bs ≠ l) (hDl : D ≠ l) (hDB : D ≠ Bs) (h0B : w0.heap.size ≤ Bs) (h0l : w0.heap.size ≤ l)
  (N : Nat) (hN : N ≤ maxLen) (hNb : N * 16 ≤ 140737488355328) (ss : List (Int × Int)) (x : Int × Int) (W : World) (h : ApAt w0 fn sv Bs l D ss W) (hlen : ss.length < N) :
  YieldAt Fence.wide m Tryz.prog l #[encE x] W fun e W' => e = .returned (.bool true) ∧ ApAt w0 fn sv Bs l D (ss ++ [x]) W' ∧ KeepsWalks W W' := by
 have u24 := Tryz.underlying231
 have u26 := Tryz.underlying234
 have u2 := Tryz.underlying2
 have hne : (231 : TypeId) ≠ 234 := by decide
 obtain ⟨i0, hi, hz0, hz1, hz2⟩ := info_parts infoE
 obtain ⟨v, hv, hrow, _⟩ := h.box
 refine ⟨fn, #[.slice none 0 0, sv, .pointer (some ⟨Bs, 0, none⟩), undef, .slice none 0 0, undef, sv, .agg #[.int .i64 x.1, .int .i64 x.2], undef, undef, undef, undef, undef], apAssign, apBody, by simpa [apRec, encE] using run_yield (P := Tryz.prog) (args := #[encE x]) h.L rfl, roundIn_of_wpIn (F := Fence.wide) trivial ?_⟩
 have hl0 : l < W.heap.size := (Array.getElem?_eq_some_iff.1 h.L).1
 have hB0 : Bs < W.heap.size := (Array.getElem?_eq_some_iff.1 hv).1
 have hD0 : D < W.heap.size := (Array.getElem?_eq_some_iff.1 h.K).1
 obtain ⟨W1, hW1⟩ : ∃ W1, W.alloc (.cells #[.int .i64 x.1, .int .i64 x.2] 234) = W1 := ⟨_, rfl⟩
 have hs1 : W1.heap.size = W.heap.size + 1 := by rw [← hW1]; simp
 have hl : l < W1.heap.size := by omega
 have hL1 : W1.heap[l]? = some (.loop (apRec fn sv Bs D .ready none)) := by rw [← hW1]; exact (Below.heap_alloc _ _ l hl0).trans h.L
 have hv1 : W1.heap[Bs]? = some (.cells #[v] 231 (0, 0)) := by rw [← hW1]; exact (Below.heap_alloc _ _ Bs hB0).trans hv
 have hK1 : W1.heap[D]? = some (.deferred (some [])) := by rw [← hW1]; exact (Below.heap_alloc _ _ D hD0).trans h.K
 have hrow1 : W1.ownsRow w0.heap.size 234 2 v ss.length (flatE ss) := by rw [← hW1]; exact hrow.alloc _
 have hb1 : Below w0.heap.size w0 W1 := by rw [← hW1]; exact h.below.alloc h.below.size _
 have hk1 : KeepsWalks W W1 := by rw [← hW1]; exact KeepsWalks.alloc _ _
 have hx1 : W1.heap[W.heap.size]? = some (.cells #[.int .i64 x.1, .int .i64 x.2] 234 (0, 0)) := by rw [← hW1]; exact World.alloc_heap_new _ _
 have hbr := run_beginRound (P := Tryz.prog) hL1 rfl
 obtain ⟨W2, hW2⟩ : ∃ W2, W1.putObj l (.loop { apRec fn sv Bs D .ready none with state := .busy }) = W2 := ⟨_, rfl⟩
 rw [hW2] at hbr
 have hg2 : W1.grownBy W2 (some l) := by rw [← hW2]; exact grownBy_putObj_a _ _ _
 have hk2 : KeepsWalks W W2 := hk1.trans (by rw [← hW2]; exact KeepsWalks.putObj _ hL1 rfl)
 have hx2 : W2.heap[W.heap.size]? = some (.cells #[.int .i64 x.1, .int .i64 x.2] 234 (0, 0)) := by rw [← hW2]; exact (World.putObj_heap_other (by omega)).trans hx1
 have hxa : W2.cell? ⟨W.heap.size, 0, none⟩ = some (.int .i64 x.1) := by simp [World.cell?, hx2]
 have hxb : W2.cell? ⟨W.heap.size, 1, none⟩ = some (.int .i64 x.2) := by simp [World.cell?, hx2]
 have hv2 : W2.heap[Bs]? = some (.cells #[v] 231 (0, 0)) := by rw [← hW2]; exact (World.putObj_heap_other hBl).trans hv1
 have hK2 : W2.heap[D]? = some (.deferred (some [])) := by rw [← hW2]; exact (World.putObj_heap_other hDl).trans hK1
 have hL2 : W2.heap[l]? = some (.loop { apRec fn sv Bs D .ready none with state := .busy }) := by rw [← hW2]; exact World.putObj_heap_same hl
 have hrow2 : W2.ownsRow w0.heap.size 234 2 v ss.length (flatE ss) := hrow1.kept hg2 (ownsRow_ne_a hrow1 hL1 (fun cur e => by first | cases e | exact hne (Obj.cells.inj e).2.1))
 have hb2 : Below w0.heap.size w0 W2 := hb1.grown hg2 hb1.size (fun k e => by cases e; exact h0l)
 obtain ⟨hc2, hf2⟩ := cell_of_box_a hv2
 have hBlt : Bs < W2.heap.size := (Array.getElem?_eq_some_iff.1 hv2).1
 have hl2 : l < W2.heap.size := (Array.getElem?_eq_some_iff.1 hL2).1
 have hDlt : D < W2.heap.size := (Array.getElem?_eq_some_iff.1 hK2).1
 have ne_of : ∀ {j : Nat} {o : Obj}, W2.heap[j]? = some o → (∀ cur, o ≠ .cells cur 234 (0, 0)) → some j ≠ v.ownBlock := fun hj hno => by
  rcases ownsRow_ne_a hrow2 hj hno with e | e
  ·rw [e]; simp
  ·exact fun e' => e e'.symm
 clear hW2
 unfold apAssign
 gi_wp2_with gi_round_op_a
 unfold apBody
 gi_wp2_with (first
  | (gi_at_builtin; refine wpListIn_append_own _ rfl _ _ 231 rfl w0.heap.size 234 i0 (.agg #[.int .i64 0, .int .i64 0]) 2 16 u24 hi hz0 hz1 hz2 rfl (by decide) _ _ _ rfl (hrow2.alloc _) ⟨W2.heap.size, 0, none⟩ 1 1 [.int .i64 x.1, .int .i64 x.2] rfl rfl (cell_two_new _ _ _ _) (by simp [Value.oneCell']) (by omega) (by omega) (by have := hb2.size; simp; omega) ?_; intro v' w3 hown' hg3 hnil3
     have hv3 : w3.heap[Bs]? = some (.cells #[v] 231 (0, 0)) := (hg3.block Bs (by simp; omega) (ne_of hv2 (fun cur e => by first | cases e | exact hne (Obj.cells.inj e).2.1))).trans ((Below.heap_alloc _ _ Bs hBlt).trans hv2)
     obtain ⟨hc3, hf3⟩ := cell_of_box_a hv3
     obtain ⟨g', cap', cur', rfl, hbase', hgb', hr1, hr2, hr3, hr4⟩ : ∃ g' cap' cur', v' = .slice (some ⟨g', 0, none⟩) (ss.length + 1) cap' ∧ w0.heap.size ≤ g' ∧ w3.heap[g']? = some (.cells cur' 234 (0, 0)) ∧ ss.length + 1 ≤ cap' ∧ cap' ≤ maxLen ∧ cur'.size = cap' * 2 ∧ cur'.toList.take ((ss.length + 1) * 2) = flatE ss ++ [.int .i64 x.1, .int .i64 x.2] := by
       rcases hown'.2 with ⟨_, h0⟩ | h'
       · exact absurd h0 (by omega)
       · exact h'
     go_frame)
  | gi_round_op_a)
 have hg3' : (W2.alloc (.cells #[.int .i64 x.1, .int .i64 x.2] 234)).grownBy w3 v.ownBlock := hg3
 have hL3 : w3.heap[l]? = some (.loop { apRec fn sv Bs D .ready none with state := .busy }) := (hg3'.block l (by simp; omega) (ne_of hL2 (fun cur e => by first | cases e | exact hne (Obj.cells.inj e).2.1))).trans ((Below.heap_alloc _ _ l hl2).trans hL2)
 have hK3 : w3.heap[D]? = some (.deferred (some [])) := (hg3'.block D (by simp; omega) (ne_of hK2 (fun cur e => by first | cases e | exact hne (Obj.cells.inj e).2.1))).trans ((Below.heap_alloc _ _ D hDlt).trans hK2)
 obtain ⟨w4, hw4⟩ : ∃ w4, w3.setCell ⟨Bs, 0, none⟩ (.slice (some ⟨g', 0, none⟩) (ss.length + 1) cap') = w4 := ⟨_, rfl⟩
 rw [hw4]
 have hg4 : w3.grownBy w4 (some Bs) := by rw [← hw4]; exact grownBy_setCell0_a _ _ _
 have hv4 : w4.heap[Bs]? = some (.cells #[.slice (some ⟨g', 0, none⟩) (ss.length + 1) cap'] 231 (0, 0)) := by rw [← hw4]; exact heap_setCell_box_a _ hv3
 have hL4 : w4.heap[l]? = some (.loop { apRec fn sv Bs D .ready none with state := .busy }) := (hg4.block l (Array.getElem?_eq_some_iff.1 hL3).1 (fun e => hBl (by cases e; rfl))).trans hL3
 have hK4 : w4.heap[D]? = some (.deferred (some [])) := (hg4.block D (Array.getElem?_eq_some_iff.1 hK3).1 (fun e => hDB (by cases e; rfl))).trans hK3
 have hrow4 := hown'.kept hg4 (ownsRow_ne_a hown' hv3 (fun cur e => by first | cases e | exact hne (Obj.cells.inj e).2.1))
 have hl4 : l < w4.heap.size := (Array.getElem?_eq_some_iff.1 hL4).1
 have hb3 : Below w0.heap.size w0 w3 := (hb2.alloc hb2.size _).grown hg3' (by have := hb2.size; simp; omega) (fun k e => (hrow2.lt k e).1)
 have hb4 : Below w0.heap.size w0 w4 := hb3.grown hg4 hb3.size (fun k e => by cases e; exact h0B)
 have hk4 : KeepsWalks W w4 := ((hk2.trans (KeepsWalks.alloc _ _)).trans (KeepsWalks.of_grownBy hg3' (ownsRow_not_walk_a (hrow2.alloc _)))).trans (by rw [← hw4]; exact KeepsWalks.setCell _ _ _)
 clear hw4
 refine ⟨_, _, run_endRound none hL4, rfl, ⟨⟨_, (World.putObj_heap_other hBl).trans hv4, ?_, by simp⟩, World.putObj_heap_same hl4, (World.putObj_heap_other hDl).trans hK4, hb4.grown (grownBy_putObj_a _ _ _) hb4.size (fun k e => by cases e; exact h0l)⟩, hk4.trans (KeepsWalks.putObj _ hL4 rfl)⟩
 have := hrow4.kept (grownBy_putObj_a w4 l (.loop { { apRec fn sv Bs D .ready none with state := .busy } with state := if (none : Option Code).isNone then .ready else .done, pending := none })) (ownsRow_ne_a hrow4 hL4 (fun cur e => by first | cases e | exact hne (Obj.cells.inj e).2.1))
 rw [flatE_snoc]
 simpa using this
set_option maxRecDepth 100000 in
set_option maxHeartbeats 2000000 in
theorem appendSeq_in (n : Nat) (hn : 2 ≤ n) (g : Nat) (lb : Array Value) (eg : ∀ args w, (callFunc g args).run Tryz.prog w = .ok (.enter g args) w)
  (S : List (Int × Int) → Prop) (N : Nat) (hN : N ≤ maxLen) (hNb : N * 16 ≤ 140737488355328) (w : World) (hseq : SeqGives Fence.wide (n - 1) Tryz.prog g lb encE S N w) :
  CallsIn Fence.wide n Tryz.prog 211 #[.slice none 0 0, .func (.func g) #[] lb] w fun e w' => ∃ (v : Value) (ss : List (Int × Int)), e = .returned v ∧ S ss ∧ w'.ownsRow w.heap.size 234 2 v ss.length (flatE ss) ∧ (v = .slice none 0 0 ↔ ss = []) ∧ Below w.heap.size w w' := by
 have h1 : 1 ≤ n := by omega
 have u24 := Tryz.underlying231
 have u26 := Tryz.underlying234
 have u2 := Tryz.underlying2
 have hne : (231 : TypeId) ≠ 234 := by decide
 have hro : Fence.wide.round = none := rfl
 refine callsIn_of_wp_marks Tryz.func211 rfl trivial ?_ hro
 simp only [Tryz.ntmps211, List.size_toArray, List.length_cons, List.length_nil, Nat.reduceAdd, Nat.reduceSub, Array.replicate_succ, Array.replicate_zero, List.push_toArray, List.append_toArray, List.nil_append, List.cons_append]
 gi_wp2
 refine wpIn_rangeFunc ?_
 intro fn hfn
 rw [hro]
 obtain ⟨W0, hW0⟩ : ∃ W0, w.alloc (.cells #[.slice none 0 0] 231) = W0 := ⟨_, rfl⟩
 have hs0 : W0.heap.size = w.heap.size + 1 := by rw [← hW0]; simp
 have hv0 : W0.heap[w.heap.size]? = some (.cells #[.slice none 0 0] 231 (0, 0)) := by rw [← hW0]; exact World.alloc_heap_new w _
 have hb0 : Below w.heap.size w W0 := by rw [← hW0]; exact (Below.refl _ w).alloc (Nat.le_refl _) _
 rw [hW0]
 obtain ⟨W1, hW1⟩ : ∃ W1, (W0.alloc (.deferred (some []))).alloc (.loop (apRec fn (.func (.func g) #[] lb) w.heap.size W0.heap.size .ready none)) = W1 := ⟨_, rfl⟩
 have hold : ∀ k, k < W0.heap.size → W1.heap[k]? = W0.heap[k]? := fun k hk => by
  rw [← hW1]; exact (Below.heap_alloc _ _ k (by simp; omega)).trans (Below.heap_alloc _ _ k hk)
 have hb1 : Below w.heap.size w W1 := by rw [← hW1]; exact (hb0.alloc hb0.size _).alloc (by have := hb0.size; simp; omega) _
 have hs1 : W1.heap.size = W0.heap.size + 2 := by rw [← hW1]; simp
 have hM : ApAt w fn (.func (.func g) #[] lb) w.heap.size (W0.heap.size + 1) W0.heap.size [] W1 :=
  ⟨⟨_, (hold w.heap.size (by omega)).trans hv0, ⟨rfl, .inl ⟨rfl, rfl⟩⟩, by simp⟩,
   by rw [← hW1]; have := World.alloc_heap_new (W0.alloc (.deferred (some []))) (.loop (apRec fn (.func (.func g) #[] lb) w.heap.size W0.heap.size .ready none)); rwa [World.size_alloc] at this,
   by rw [← hW1]; exact (Below.heap_alloc _ _ _ (by simp)).trans (World.alloc_heap_new W0 _), hb1⟩
 refine ⟨W0.heap.size + 1, [{ target := .collected W0.heap.size, args := #[] }], W1, { target := .fn (.func g) lb, args := #[.func (.yield (W0.heap.size + 1)) #[] #[]] }, W1, g,
  #[.func (.yield (W0.heap.size + 1)) #[] #[]] ++ lb, W1, ?_, ?_, ?_, ?_, fun _ => h1, ?_⟩
 ·rw [← hW1]; exact run_enterLoop_outer _ _ _ _ _
 ·simp [resolve, go_sem]
 ·intro f' hf'; simp [Target.leads] at hf'; subst hf'; trivial
 ·simp [invoke, go_sem, eg]
 ·refine (hseq (W0.heap.size + 1) (ApAt w fn (.func (.func g) #[] lb) w.heap.size (W0.heap.size + 1) W0.heap.size) W1 hb1 (ap_abides _ _ _ _ _ _ _ hb1.size)
   (fun pre x W hJ hl => apYield (n - 1 - 1) w fn _ w.heap.size (W0.heap.size + 1) W0.heap.size (by omega) (by omega) (by omega) (Nat.le_refl _) (by omega) N hN hNb pre x W hJ hl) hM).mono ?_
  rintro e W2 ⟨⟨v0, rfl⟩, ss, hS, h2⟩
  obtain ⟨v, hv, hrow, hnil⟩ := h2.box
  have hend := run_endLoop (P := Tryz.prog) h2.L (by simp [apRec])
  obtain ⟨W3, hW3⟩ : ∃ W3, W2.putObj (W0.heap.size + 1) (.loop { apRec fn (.func (.func g) #[] lb) w.heap.size W0.heap.size .ready none with state := .exhausted }) = W3 := ⟨_, rfl⟩
  rw [hW3] at hend
  have hg3 : W2.grownBy W3 (some (W0.heap.size + 1)) := by rw [← hW3]; exact grownBy_putObj_a _ _ _
  have hv3 : W3.heap[w.heap.size]? = some (.cells #[v] 231 (0, 0)) := by rw [← hW3]; exact (World.putObj_heap_other (by omega)).trans hv
  have hK3 : W3.heap[W0.heap.size]? = some (.deferred (some [])) := by rw [← hW3]; exact (World.putObj_heap_other (by omega)).trans h2.K
  have hrow3 := hrow.kept hg3 (ownsRow_ne_a hrow h2.L (fun cur e => by first | cases e | exact hne (Obj.cells.inj e).2.1))
  have hb3 : Below w.heap.size w W3 := h2.below.grown hg3 h2.below.size (fun k e => by cases e; omega)
  obtain ⟨hc3, hf3⟩ := cell_of_box_a hv3
  clear hW3
  refine ⟨none, W3, hend, ?_⟩
  gi_wp2
  rw [← hs0]
  refine ⟨by simp, .inl ⟨_, _, rfl, run_takeDeferred hK3, ?_⟩⟩
  exact ⟨_, results_tmp rfl _ _ _, v, ss, rfl, hS, hrow3.kept (grownBy_putObj_a _ _ _) (ownsRow_ne_a hrow3 hK3 (fun cur e => by first | cases e | exact hne (Obj.cells.inj e).2.1)), hnil, hb3.grown (grownBy_putObj_a _ _ _) hb3.size (fun k e => by cases e; omega)⟩
set_option maxHeartbeats 1000000 in
theorem collect_in (n : Nat) (hn : 3 ≤ n) (g : Nat) (lb : Array Value) (eg : ∀ args w, (callFunc g args).run Tryz.prog w = .ok (.enter g args) w)
  (S : List (Int × Int) → Prop) (N : Nat) (hN : N ≤ maxLen) (hNb : N * 16 ≤ 140737488355328) (w : World) (hseq : SeqGives Fence.wide (n - 1 - 1) Tryz.prog g lb encE S N w) :
  CallsIn Fence.wide n Tryz.prog 206 #[.func (.func g) #[] lb] w fun e w' => ∃ (v : Value) (ss : List (Int × Int)), e = .returned v ∧ S ss ∧ w'.ownsRow w.heap.size 234 2 v ss.length (flatE ss) ∧ (v = .slice none 0 0 ↔ ss = []) ∧ Below w.heap.size w w' := by
 have h1 : 1 ≤ n := by omega
 have h11 : Fence.wide.fn 211 := trivial
 have e11 : ∀ args w, (callFunc 211 args).run Tryz.prog w = .ok (.enter 211 args) w := enters_of Tryz.func211 (by kernel_rfl) rfl
 have u24 := Tryz.underlying231
 have u26 := Tryz.underlying234
 have u2 := Tryz.underlying2
 refine callsIn_of_wp Tryz.func206 rfl trivial ?_ rfl
 simp only [Tryz.ntmps206, List.size_toArray, List.length_cons, List.length_nil, Nat.reduceAdd, Nat.reduceSub, Array.replicate_succ, Array.replicate_zero, List.push_toArray, List.append_toArray, List.nil_append, List.cons_append]
 gi_wp2_with (gi_at_fn 211; refine (appendSeq_in (n - 1) (by omega) g lb eg S N hN hNb _ hseq).mono ?_; rintro e w' ⟨v, ss, rfl, hS, hrow, hnil, hb⟩)
 go_ret
 exact ⟨v, ss, rfl, hS, hrow, hnil, hb⟩
end Go.Proofs.YtabccmobmppdnaaGreat

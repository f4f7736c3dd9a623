/-
Texts in one: what PartsOf stands on, part 13. Conditions: those of each.
-/
import Derived.Test.YtnbfaedopjkgpaaGreatKPartsOf12

/-
The model's copy of a mesh: lists of its own. Conditions: the mesh lies in memory and is not greater than a thousand.
-/
namespace Go.Proofs.YtnbfaedopjkgpaaGreat
open Go Fk Go.RowKit
set_option linter.unusedVariables false
set_option maxRecDepth 8000
/-- The mesh that is made lies in block X, the answer in block Z; its places are a list of one's own. -/
def LD (w0 : World) (X Z : Nat) (va vt : Value) (pl : Nat) (xs : List Value) (w : World) : Prop :=
  Below w0.heap.size w0 w ∧ w.ownsRow w0.heap.size 38 2 (.slice (some ⟨X, 0, none⟩) 1 1) 1 [va, vt] ∧ w.ownsRow w0.heap.size 38 2 (.slice (some ⟨Z, 0, none⟩) 1 1) 1 [.slice none 0 0, .slice none 0 0] ∧ w.ownsRow w0.heap.size 40 3 va pl xs
theorem LD.up {w0 w w' : World} {X Z pl : Nat} {va vt : Value} {xs : List Value} (h : LD w0 X Z va vt pl xs w) (hB : Below w.heap.size w w') : LD w0 X Z va vt pl xs w' :=
  ⟨h.1.trans (hB.mono h.1.size), owns_up h.2.1 hB, owns_up h.2.2.1 hB, owns_up h.2.2.2 hB⟩
theorem LD.cell0 {w0 w : World} {X Z pl : Nat} {va vt : Value} {xs : List Value} (h : LD w0 X Z va vt pl xs w) : w.cell? ⟨X, 0, none⟩ = some va := by rw [h.2.1.cellAt 0 (by decide)]; rfl
theorem LD.cell1 {w0 w : World} {X Z pl : Nat} {va vt : Value} {xs : List Value} (h : LD w0 X Z va vt pl xs w) : w.cell? ⟨X, 1, none⟩ = some vt := by rw [h.2.1.cellAt 1 (by decide)]; rfl
theorem LD.grow {w0 w w' : World} {X Z pl k : Nat} {va vt : Value} {xs rows : List Value} {b : Nat} (h : LD w0 X Z va vt pl xs w) (h1 : w.ownsRow b 61 1 vt k rows) (hb : w0.heap.size ≤ b) (hg : w.grownBy w' vt.ownBlock) : LD w0 X Z va vt pl xs w' :=
  ⟨h.1.grown hg h.1.size (fun k hk => Nat.le_trans hb (h1.lt k hk).1), owns_side h.2.1 h1 (by decide) hg, owns_side h.2.2.1 h1 (by decide) hg, owns_side h.2.2.2 h1 (by decide) hg⟩
theorem LD.set1 {w0 w : World} {X Z pl : Nat} {va vt : Value} {xs : List Value} (h : LD w0 X Z va vt pl xs w) (hxz : X ≠ Z) (u : Value) : LD w0 X Z va u pl xs (w.setCell ⟨X, 1, none⟩ u) := by
  have hs := h.2.1.stored 1 u
  have hl := (h.2.1.lt X rfl).1
  refine ⟨h.1.setCell hl _, hs.1, h.2.2.1.kept hs.2 (.inr (by simp [Value.ownBlock]; exact fun e => hxz e.symm)), owns_side h.2.2.2 h.2.1 (by decide) hs.2⟩
theorem LD.set0 {w0 w : World} {X Z pl : Nat} {va vt : Value} {xs : List Value} (h : LD w0 X Z va vt pl xs w) (hxz : X ≠ Z) (u : Value) {pl' : Nat} {xs' : List Value} (hu : w.ownsRow w0.heap.size 40 3 u pl' xs') : LD w0 X Z u vt pl' xs' (w.setCell ⟨X, 0, none⟩ u) := by
  have hs := h.2.1.stored 0 u
  have hl := (h.2.1.lt X rfl).1
  refine ⟨h.1.setCell hl _, hs.1, h.2.2.1.kept hs.2 (.inr (by simp [Value.ownBlock]; exact fun e => hxz e.symm)), owns_side hu h.2.1 (by decide) hs.2⟩
theorem mapSet {base n : Nat} {w : World} {v : Value} {ts : List (List Int)} {X j : Nat} {x2 : List Value} {b2 s2 n2 : Nat} (h : OwnT base w v n ts) (k : w.ownsRow b2 38 s2 (.slice (some ⟨X, 0, none⟩) n2 n2) n2 x2) (u : Value) : OwnT base (w.setCell ⟨X, j, none⟩ u) v n ts :=
  h.side k (grown_set w X j u) (by decide) (by decide)
set_option maxHeartbeats 1000000 in
theorem l02Own (pb : Nat) (pa ta : Option Addr) (pl pc tl tc : Nat) (cs : List C3) (ts : List (List Int)) (w : World) (c0' : w.cell? ⟨pb, 0, none⟩ = some (.slice pa pl pc)) (c1' : w.cell? ⟨pb, 1, none⟩ = some (.slice ta tl tc)) (hp : IsVs w pa pl pc cs) (ht : IsTs w ta tl tc ts) (h1 : pl ≤ 1000) (h2 : tl ≤ 1000) (h3 : ∀ j, j < tl → (ts.getD j []).length ≤ 1000) :
    Calls Tryz.prog 132 #[.pointer (some ⟨pb, 0, none⟩)] w fun e w' => (∃ va vt xs, e = .returned (.agg #[va, vt]) ∧ w'.ownsRow w.heap.size 40 3 va pl xs ∧ PV pl xs cs ∧ OwnT w.heap.size w' vt tl ts) ∧ Below w.heap.size w w' := by
  have ui := Tryz.underlying38
  obtain ⟨i0, hi, hz0, hz1, hz2⟩ := info_parts infoV
  obtain ⟨j0, hj, hy0, hy1, hy2⟩ := info_parts infoS
  obtain ⟨xs, x1, x2, x3, x4⟩ := vs_cells hp
  have lpb := World.block_lt_of_cell? _ _ c0'
  have HPA := Lib.hid hp.2.2.2.1
  have hpl := hp.1
  have C0 := Lib.hid c0'
  have C1 := Lib.hid c1'
  have HT := Lib.hid ht
  have H3 := Lib.hid h3
  have X1 := Lib.hid x1
  have X2 := Lib.hid x2
  have X3 := Lib.hid x3
  have X4 := Lib.hid x4
  have hst : ((w.alloc (.cells #[.slice none 0 0, .slice none 0 0] 38)).alloc (.cells #[] 40)).ownsRow w.heap.size 40 3 (.slice (some ⟨w.heap.size + 1, 0, none⟩) 0 0) 0 [] := by
    have := World.ownsRow_lit (base := w.heap.size) (e := 40) (size := 3) (w.alloc (.cells #[.slice none 0 0, .slice none 0 0] 38)) #[] 0 (by simp) (by decide) rfl
    simpa using this
  have HST := Lib.hid hst
  clear hst
  have C0' := Lib.hid (fun ob => cell_alloc (o := ob) c0')
  have c0'' := fun ob ob' => cell_alloc (o := ob') (cell_alloc (o := ob) c0')
  clear hp ht h3 x1 x2 x3 x4 c0' c1'
  go_enter Tryz.func132, Tryz.ntmps132
  go_wp2_with (at_builtin; go_loud (refine wpList_append_opt _ rfl _ _ 36 rfl w.heap.size 40 i0 (.agg #[.float .f32 0, .float .f32 0, .float .f32 0]) 3 12 Tryz.underlying36 hi hz0 hz1 hz2 rfl (by decide) _ 0 [] rfl HST.out pa pl pc xs rfl HPA.out X1.out ?c2 ?c3 ?c4 ?c5 ?c6 ?_))
  case c2 =>
    intro ad had j u hu
    have := X2.out ad had j u hu
    rw [World.cell?_alloc_lt (h := by have := World.block_lt_of_cell? _ _ this; simp; omega), World.cell?_alloc_lt (h := World.block_lt_of_cell? _ _ this)]
    exact this
  case c3 => exact X3.out
  case c4 => unfold maxLen; omega
  case c5 => omega
  case c6 => omega
  · intro va w1 hown hgrow
    have hown' : w1.ownsRow w.heap.size 40 3 va pl xs := by simpa using hown
    have hzr : ((w.alloc (.cells #[.slice none 0 0, .slice none 0 0] 38)).alloc (.cells #[] 40)).ownsRow w.heap.size 38 2 (.slice (some ⟨w.heap.size, 0, none⟩) 1 1) 1 [.slice none 0 0, .slice none 0 0] :=
      (World.ownsRow_lit (base := w.heap.size) (e := 38) (size := 2) w #[.slice none 0 0, .slice none 0 0] 1 (Nat.le_refl _) (by decide) rfl).alloc _
    have hB1 : Below w.heap.size w w1 := (((Below.refl _ _).alloc (Nat.le_refl _) _).alloc (by simp) _).grown hgrow (by simp; omega) (fun k hk => by simp [Value.ownBlock] at hk; omega)
    have hlt : w.heap.size < w1.heap.size := by have := hgrow.size; simp at this; omega
    have hz1 := owns_side hzr HST.out (by decide) hgrow
    obtain ⟨qa, qc, rfl⟩ : ∃ a c, va = .slice a pl c := by
      rcases hown'.2 with ⟨rfl, e⟩ | ⟨g, c, _, rfl, _⟩
      · exact ⟨none, 0, by rw [e]⟩
      · exact ⟨_, _, rfl⟩
    have hX2 : LD w (w1.heap.size + 1) w.heap.size (.slice qa pl qc) (.slice (some ⟨w1.heap.size, 0, none⟩) 0 0) pl xs ((w1.alloc (.cells #[] 61)).alloc (.cells #[.slice qa pl qc, .slice (some ⟨w1.heap.size, 0, none⟩) 0 0] 38)) := by
      have r := World.ownsRow_lit (base := w.heap.size) (e := 38) (size := 2) (w1.alloc (.cells #[] 61)) #[.slice qa pl qc, .slice (some ⟨w1.heap.size, 0, none⟩) 0 0] 1 (by simp; omega) (by decide) rfl
      exact ⟨(hB1.alloc hB1.size _).alloc (by simp; omega) _, by simpa using r, (hz1.alloc _).alloc _, (hown'.alloc _).alloc _⟩
    have hT2 : OwnT w.heap.size ((w1.alloc (.cells #[] 61)).alloc (.cells #[.slice qa pl qc, .slice (some ⟨w1.heap.size, 0, none⟩) 0 0] 38)) (.slice (some ⟨w1.heap.size, 0, none⟩) 0 0) 0 ts :=
      ⟨[], (World.ownsRow_lit (base := w.heap.size) (e := 61) (size := 1) w1 #[] 0 hB1.size (by decide) rfl).alloc _, fun j hj => absurd hj (by omega)⟩
    have HX := Lib.hid hX2
    have HTT := Lib.hid hT2
    have hxz : w1.heap.size + 1 ≠ w.heap.size := by omega
    have HXZ := Lib.hid hxz
    clear hX2 hT2 hown hown' hzr hgrow hz1 hxz c0'' hB1
    go_wp2
    generalize (w1.alloc (.cells #[] 61)).alloc (.cells #[.slice qa pl qc, .slice (some ⟨w1.heap.size, 0, none⟩) 0 0] 38) = W2 at *
    generalize (.slice (some ⟨w1.heap.size, 0, none⟩) 0 0 : Value) = vt0 at *
    generalize w1.heap.size + 1 = X at *
    go_loopw [4] (fun i w' => ∃ k : Nat, k ≤ tl ∧ i = .int .i64 k ∧ Aside (∃ vt, LD w X w.heap.size (.slice qa pl qc) vt pl xs w' ∧ OwnT w.heap.size w' vt k ts)) (fun i _ => tl - (intOf i).toNat)
    case atStart => exact ⟨0, Nat.zero_le _, rfl, _, HX.out, HTT.out⟩
    case round =>
      obtain ⟨k, hk, hik, hA⟩ := hrel
      subst hik
      obtain ⟨vt, hD, hTk⟩ := hA.out
      have kb1 := cell_below hD.1 C1.out
      have HD := Lib.hid hD
      have HTK := Lib.hid hTk
      by_cases hlt : k < tl
      · have h' := HT.out.below hD.1
        obtain ⟨bt, ot, rfl, hrow⟩ := h'.some (by omega)
        obtain ⟨r1, n1, q1, cr, ir⟩ := hrow k hlt
        have hn1 := ir.1
        have hn2 := H3.out k hlt
        have hk0 : (0 : Int) ≤ (k : Int) := by omega
        have hk1 : (k : Int) < (tl : Int) := by omega
        have IR := Lib.hid ir
        have CR := Lib.hid cr
        clear hA hD hTk h' hrow ir cr HX HTT
        go_wp2_with fail
        refine Reg5.wp_region_mix (m := 11) (C := fun w' => Below wr.heap.size wr w') (D := fun w' => LD w X w.heap.size (.slice qa pl qc) vt pl xs w') (G := fun w1 w2 => Below w1.heap.size w1 w2) (G' := fun w1 w2 => w2 = w1) (R := fun i v w' => match i with | 0 => v = .pointer (some ⟨X, 1, none⟩) | 1 => v = vt | 2 => v = .pointer (some ⟨pb, 0, none⟩) | 3 => v = .pointer (some ⟨pb, 0, none⟩) | 4 => v = .pointer (some ⟨pb, 1, none⟩) | 5 => v = .slice (some ⟨bt, ot, none⟩) tl tc | 6 => v = .int .i64 (k : Int) | 7 => v = .pointer (some ⟨bt, ot + k, none⟩) | 8 => v = .slice r1 n1 q1 | 9 => w'.ownsRow w.heap.size 2 1 v n1 (ints (ts.getD k [])) | 10 => ∃ b u, v = .slice (some ⟨b, 0, none⟩) 1 1 ∧ w'.cell? ⟨b, 0, none⟩ = some u ∧ w'.ownsRow w.heap.size 2 1 u n1 (ints (ts.getD k [])) | 11 => OwnT w.heap.size w' v (k + 1) ts | 12 => v = .pointer (some ⟨X, 1, none⟩) | _ => True) (T := fun i _ w' => match i with | 13 => ∃ vt', LD w X w.heap.size (.slice qa pl qc) vt' pl xs w' ∧ OwnT w.heap.size w' vt' (k + 1) ts | _ => True) [false, false, false, false, false, false, false, false, false, false, false, false, false, false, false, false, false, false, false, false, false, false, true, true, true, true, true, true, true, true, true, true, true, true, true, false]
          (by kernel_rfl) (by kernel_rfl) (by kernel_rfl) (by kernel_rfl) ?_ ?_ (below_drewN (Below.refl _ _) 1) ?_ ?_
        · intro j v w1 w2 _ _ hG hR
          match j with
          | 0 => exact hR
          | 1 => exact hR
          | 2 => exact hR
          | 3 => exact hR
          | 4 => exact hR
          | 5 => exact hR
          | 6 => exact hR
          | 7 => exact hR
          | 8 => exact hR
          | 9 => exact owns_up hR hG
          | 10 => obtain ⟨b, u, e, hc, ho⟩ := hR; exact ⟨b, u, e, cell_below hG hc, owns_up ho hG⟩
          | 11 => exact OwnT.up hR hG
          | 12 => exact hR
          | _ + 13 => trivial
        · intro j v w1 w2 _ _ hG hR
          rw [hG]; exact hR
        · refine ⟨?_, ?_, ?_, ?_, ?_, ?_, ?_, ?_, ?_, ?_, ?_, ?_, ?_, ?_, trivial⟩
          · refine Reg5.Obl.early rfl rfl ?_
            rintro a w1 hC hx hd K hK
            have HC := Lib.hid hC
            clear hC
            have t3 : a.tmps[3]?.getD undef = .pointer (some ⟨X, 0, none⟩) := Reg.slot_val (hx 3 (by kernel_rfl))
            go_simp
            exact hK _ _ rfl HC.out (Below.refl _ _)
          · refine Reg5.Obl.early rfl rfl ?_
            rintro a w1 hC hx hd K hK
            have HC := Lib.hid hC
            clear hC
            have t22 : a.tmps[22]?.getD undef = .pointer (some ⟨X, 1, none⟩) := Reg.slot_val (hd 0 (by kernel_rfl) 22 rfl)
            have y1 := (HD.out.up HC.out).cell1
            go_simp
            exact hK _ _ rfl HC.out (Below.refl _ _)
          · refine Reg5.Obl.early rfl rfl ?_
            rintro a w1 hC hx hd K hK
            have HC := Lib.hid hC
            clear hC
            have t0 : a.tmps[0]?.getD undef = .pointer (some ⟨pb, 0, none⟩) := Reg.slot_val (hx 0 (by kernel_rfl))
            go_simp
            exact hK _ _ rfl HC.out (Below.refl _ _)
          · refine Reg5.Obl.early rfl rfl ?_
            rintro a w1 hC hx hd K hK
            have HC := Lib.hid hC
            clear hC
            have t24 : a.tmps[24]?.getD undef = .pointer (some ⟨pb, 0, none⟩) := Reg.slot_val (hd 2 (by kernel_rfl) 24 rfl)
            go_simp
            exact hK _ _ rfl HC.out (Below.refl _ _)
          · refine Reg5.Obl.early rfl rfl ?_
            rintro a w1 hC hx hd K hK
            have HC := Lib.hid hC
            clear hC
            have t25 : a.tmps[25]?.getD undef = .pointer (some ⟨pb, 0, none⟩) := Reg.slot_val (hd 3 (by kernel_rfl) 25 rfl)
            go_simp
            exact hK _ _ rfl HC.out (Below.refl _ _)
          · refine Reg5.Obl.early rfl rfl ?_
            rintro a w1 hC hx hd K hK
            have HC := Lib.hid hC
            clear hC
            have t26 : a.tmps[26]?.getD undef = .pointer (some ⟨pb, 1, none⟩) := Reg.slot_val (hd 4 (by kernel_rfl) 26 rfl)
            have y1 := cell_below HC.out kb1
            go_simp
            exact hK _ _ rfl HC.out (Below.refl _ _)
          · refine Reg5.Obl.early rfl rfl ?_
            rintro a w1 hC hx hd K hK
            have HC := Lib.hid hC
            clear hC
            have t4 : a.tmps[4]?.getD undef = .int .i64 (k : Int) := Reg.slot_val (hx 4 (by kernel_rfl))
            go_simp
            exact hK _ _ rfl HC.out (Below.refl _ _)
          · refine Reg5.Obl.early rfl rfl ?_
            rintro a w1 hC hx hd K hK
            have HC := Lib.hid hC
            clear hC
            have t27 : a.tmps[27]?.getD undef = .slice (some ⟨bt, ot, none⟩) tl tc := Reg.slot_val (hd 5 (by kernel_rfl) 27 rfl)
            have t28 : a.tmps[28]?.getD undef = .int .i64 (k : Int) := Reg.slot_val (hd 6 (by kernel_rfl) 28 rfl)
            go_simp
            exact hK _ _ rfl HC.out (Below.refl _ _)
          · refine Reg5.Obl.early rfl rfl ?_
            rintro a w1 hC hx hd K hK
            have HC := Lib.hid hC
            clear hC
            have t29 : a.tmps[29]?.getD undef = .pointer (some ⟨bt, ot + k, none⟩) := Reg.slot_val (hd 7 (by kernel_rfl) 29 rfl)
            have y1 := cell_below HC.out CR.out
            go_simp
            exact hK _ _ rfl HC.out (Below.refl _ _)
          · refine Reg5.Obl.early rfl rfl ?_
            rintro a w1 hC hx hd K hK
            have HC := Lib.hid hC
            clear hC
            have t30 : a.tmps[30]?.getD undef = .slice r1 n1 q1 := Reg.slot_val (hd 8 (by kernel_rfl) 30 rfl)
            go_simp
            refine (l00Own r1 n1 q1 (ts.getD k []) w1 (IR.out.below HC.out) (by omega)).mono ?_
            rintro e w2 ⟨⟨v, rfl, ho⟩, hB2⟩
            exact hK _ _ (owns_low ho (HD.out.up HC.out).1.size) (HC.out.trans (hB2.mono HC.out.size)) hB2
          · refine Reg5.Obl.early rfl rfl ?_
            rintro a w1 hC hx hd K hK
            have HC := Lib.hid hC
            clear hC
            have g := hd 9 (by kernel_rfl) 31 rfl
            obtain ⟨u, hu⟩ : ∃ u, u = a.eval (.tmp 31) := ⟨_, rfl⟩
            have t31 : a.tmps[31]?.getD undef = u := Reg.slot_val hu.symm
            have g' : w1.ownsRow w.heap.size 2 1 u n1 (ints (ts.getD k [])) := by rw [hu]; exact g
            have G := Lib.hid g'
            obtain ⟨ru, cu, rfl⟩ := owns_slice g'
            have e0 : (w1.alloc (.cells #[.slice ru n1 cu] 61)).cell? ⟨w1.heap.size, 0, none⟩ = some (.slice ru n1 cu) := by simp
            have E0 := Lib.hid e0
            clear g hu e0
            go_simp
            exact hK _ _ ⟨w1.heap.size, _, rfl, E0.out, G.out.alloc _⟩ (HC.out.alloc HC.out.size _) ((Below.refl _ _).alloc (Nat.le_refl _) _)
          · refine Reg5.Obl.mid rfl rfl ?_
            rintro a w1 hC hx hd K hK
            have t23 : a.eval (.tmp 23) = vt := hd 1 (by kernel_rfl) 23 rfl
            obtain ⟨b, u, t32, hc, hu⟩ := hd 10 (by kernel_rfl) 32 rfl
            have hD1 := HD.out.up hC
            obtain ⟨rows, hr, hrs⟩ := HTK.out.up hC
            refine wp_append_own w1 _ _ 23 rfl w.heap.size 61 j0 (.slice none 0 0) 1 24 Tryz.underlying23 hj hy0 hy1 hy2 rfl (by decide) vt k rows t23 hr ⟨b, 0, none⟩ 1 1 [u] t32 rfl (fun j u' hj => ?_) (fun u' hu' => ?_) (by unfold maxLen; omega) (by omega) hD1.1.size ?_
            · match j, hj with
              | 0, hj => simp at hj; subst hj; rw [addr_add']; exact hc
            · simp at hu'; subst hu'; exact owns_one hu
            · intro v' w2 ho hg _
              exact hK _ _ (OwnT.snoc hr hrs (by rw [hn1]; exact hu) hg ho) (hD1.grow hr (Nat.le_refl _) hg)
          · refine Reg5.Obl.late rfl ?_
            rintro a w1 hD1 hx hd K hK
            have HC := Lib.hid hD1
            clear hD1
            have t3 : a.tmps[3]?.getD undef = .pointer (some ⟨X, 0, none⟩) := Reg.slot_val (hx 3 (by kernel_rfl))
            go_simp
            exact hK _ _ (fun _ => rfl) (fun h => by cases h) (fun _ => HC.out) (fun _ => rfl)
          · refine Reg5.Obl.late rfl ?_
            rintro a w1 hD1 hx hd K hK
            have HC := Lib.hid hD1
            have y1 := hD1.cell1
            have f1 := hD1.2.1.frozenAt 1
            clear hD1
            have t34 : a.tmps[34]?.getD undef = .pointer (some ⟨X, 1, none⟩) := Reg.slot_val (hd 12 (by kernel_rfl) (by omega) 34 rfl)
            have g := hd 11 (by kernel_rfl) (by omega) 33 rfl
            obtain ⟨u, hu⟩ : ∃ u, u = a.eval (.tmp 33) := ⟨_, rfl⟩
            have t33 : a.tmps[33]?.getD undef = u := Reg.slot_val hu.symm
            have g' : OwnT w.heap.size w1 u (k + 1) ts := by rw [hu]; exact g
            have G := Lib.hid g'
            obtain ⟨ru, cu, rfl⟩ := OwnT.slice g'
            clear g hu g'
            go_simp
            exact hK undef _ (fun h => absurd rfl h) (fun _ => ⟨_, HC.out.set1 HXZ.out _, mapSet G.out HC.out.2.1 _⟩) (fun h => absurd rfl h) (fun h => absurd rfl h)
        · rintro f wz _ hT
          obtain ⟨vt', hD', hT'⟩ := hT 13 (by kernel_rfl) (by decide)
          have HD' := Lib.hid hD'
          have HT' := Lib.hid hT'
          clear hD' hT' hT
          simp only [Reg.mixL]
          go_wp2
          go_roundw
          case rel => exact ⟨k + 1, by omega, by go_num, vt', HD'.out, HT'.out⟩
          case measure => simp [intOf]; omega
      · obtain rfl : k = tl := by omega
        have l0 := hD.cell0
        have l1 := hD.cell1
        have z0 : wr.cell? ⟨w.heap.size, 0, none⟩ = some (.slice none 0 0) := by rw [hD.2.2.1.cellAt 0 (by decide)]; rfl
        have z1 : wr.cell? ⟨w.heap.size, 1, none⟩ = some (.slice none 0 0) := by rw [hD.2.2.1.cellAt 1 (by decide)]; rfl
        have f0 := hD.2.2.1.frozenAt 0
        have f1 := hD.2.2.1.frozenAt 1
        obtain ⟨ru, cu, rfl⟩ := OwnT.slice hTk
        have HD := Lib.hid hD
        have HTK := Lib.hid hTk
        clear hA hD hTk
        go_wp2
        have x0 : ∀ u, (wr.setCell ⟨w.heap.size, 0, none⟩ u).cell? ⟨w.heap.size, 1, none⟩ = some (.slice none 0 0) := fun u => by rw [World.cell?_setCell_other _ _ _ _ (by simp)]; exact z1
        have r1 : ∀ u v, ((wr.setCell ⟨w.heap.size, 0, none⟩ u).setCell ⟨w.heap.size, 1, none⟩ v).cell? ⟨w.heap.size, 1, none⟩ = some v := fun u v => World.cell?_setCell_same _ _ _ (x0 u)
        have r0 : ∀ u v, ((wr.setCell ⟨w.heap.size, 0, none⟩ u).setCell ⟨w.heap.size, 1, none⟩ v).cell? ⟨w.heap.size, 0, none⟩ = some u := fun u v => by rw [World.cell?_setCell_other _ _ _ _ (by simp)]; exact World.cell?_setCell_same _ _ _ z0
        have hZ := HD.out.2.2.1.stored 0 (.slice qa pl qc)
        have hZ2 := hZ.1.stored 1 (.slice ru k cu)
        refine bodyPost_ret (v := .agg #[.slice qa pl qc, .slice ru k cu]) (by simp [results, Tryz.results132, go_sem, r0, r1]) rfl ⟨⟨_, _, xs, rfl, ?_, X4.out, ?_⟩, ?_⟩
        · exact owns_side (owns_side HD.out.2.2.2 HD.out.2.2.1 (by decide) hZ.2) hZ.1 (by decide) hZ2.2
        · exact (HTK.out.side HD.out.2.2.1 hZ.2 (by decide) (by decide)).side hZ.1 hZ2.2 (by decide) (by decide)
        · exact (HD.out.1.setCell (Nat.le_refl _) _).setCell (Nat.le_refl _) _
end Go.Proofs.YtnbfaedopjkgpaaGreat


/-
Marks in rows that lie beside one another in one block. Conditions: none.
-/
namespace Go.Proofs.YtnbfaedopjkgpaaGreat
open Go Fk Go.RowKit
set_option linter.unusedVariables false
set_option maxRecDepth 8000
/-- The block R has n rows, which lie beside one another in the block F. -/
def FlatRows (w : World) (R F n : Nat) : Prop := ∀ j, j < n → ∃ c, w.cell? ⟨R, j, none⟩ = some (.slice (some ⟨F, j * 3, none⟩) 3 c)
theorem FlatRows.same {w w' : World} {R F n : Nat} (h : FlatRows w R F n) (hs : ∀ i v, w.cell? ⟨R, i, none⟩ = some v → w'.cell? ⟨R, i, none⟩ = some v) : FlatRows w' R F n := fun j hj => by
  obtain ⟨c, hc⟩ := h j hj
  exact ⟨c, hs _ _ hc⟩
theorem own_part {lo hi : Nat} {w : World} {b o n p m : Nat} (h : Own lo hi w b o n) (hp : p + m ≤ n) : Own lo hi w b (o + p) m :=
  ⟨h.1, h.2.1, h.2.2.1, fun j hj => by have := h.2.2.2 (p + j) (by omega); rwa [← Nat.add_assoc] at this⟩
set_option maxHeartbeats 400000 in
theorem mark_flat (lo hi R F n cap : Nat) (k0 : Nat) (w : World) (hr : FlatRows w R F n) (ho : Own lo hi w F 0 (n * 3)) (hne : R ≠ F) (hl : n ≤ 1048576) (hk : k0 ≤ 1000000000000000000) :
    Calls Tryz.prog 103 #[.slice (some ⟨R, 0, none⟩) n cap, .int .i64 k0] w fun e w' => e = .returned (.int .i64 ((k0 + n * 3 : Nat) : Int)) ∧ (∀ j, j < n * 3 → w'.cell? ⟨F, j, none⟩ = some (.int .i64 ((k0 + j : Nat) : Int))) ∧ (∀ b i, b ≠ F → w'.cell? ⟨b, i, none⟩ = w.cell? ⟨b, i, none⟩) ∧ Mark lo hi w w' := by
  have H := Lib.hid hr
  have HO := Lib.hid ho
  have HNE := Lib.hid hne
  clear hr ho hne
  go_enter Tryz.func103, Tryz.ntmps103
  go_wp2
  go_loopw [1, 5] (fun q i w' => ∃ k : Nat, k ≤ n ∧ i = .int .i64 k ∧ q = .int .i64 ((k0 + k * 3 : Nat) : Int) ∧ Aside ((∀ j, j < k * 3 → w'.cell? ⟨F, j, none⟩ = some (.int .i64 ((k0 + j : Nat) : Int))) ∧ (∀ b i, b ≠ F → w'.cell? ⟨b, i, none⟩ = w.cell? ⟨b, i, none⟩) ∧ Mark lo hi w w')) (fun _ i _ => n - (intOf i).toNat)
  case atStart => exact ⟨0, Nat.zero_le _, rfl, by simp, fun j hj => absurd hj (by omega), fun _ _ _ => rfl, Mark.refl _ _ _⟩
  case round =>
    obtain ⟨k, hkl, rfl, rfl, hA⟩ := hrel
    by_cases hlt : k < n
    · obtain ⟨hdone, hsame, hM⟩ := hA.out
      obtain ⟨c, hc⟩ := H.out k hlt
      have hc' : wr.cell? ⟨R, k, none⟩ = some (.slice (some ⟨F, k * 3, none⟩) 3 c) := (hsame _ _ HNE.out).trans hc
      have hown : Own lo hi wr F (k * 3) 3 := by have := own_part (p := k * 3) (m := 3) (HO.out.mark hM) (by omega); rwa [Nat.zero_add] at this
      have HS := Lib.hid hsame
      have HM := Lib.hid hM
      have HW := Lib.hid hown
      have HD := Lib.hid hdone
      have hk0 : (0 : Int) ≤ (k : Int) := by omega
      have hk1 : (k : Int) < (n : Int) := by omega
      clear hA hsame hM hc hown hdone
      go_wp2_with fail
      refine (laws_markInt64S lo hi F (k * 3) 3 c (k0 + k * 3) wr HW.out (by omega)).mono ?_
      rintro e w1 ⟨rfl, hd, ho, hM1⟩
      have HO1 := Lib.hid ho
      have HD1 := Lib.hid hd
      have HM1 := Lib.hid hM1
      clear hd ho hM1
      go_wp2
      go_roundw
      case rel =>
        refine ⟨k + 1, by omega, by go_num, by congr 1 <;> omega, fun j hj => ?_, fun b i hb => (HO1.out b i (.inl hb)).trans (HS.out b i hb), HM.out.trans HM1.out⟩
        by_cases hj3 : j < k * 3
        · rw [HO1.out F j (.inr (.inl hj3))]; exact HD.out j hj3
        · have := HD1.out (j - k * 3) (by omega)
          rw [show k * 3 + (j - k * 3) = j by omega, show k0 + k * 3 + (j - k * 3) = k0 + j by omega] at this
          exact this
      case measure => simp [intOf]; omega
    · obtain rfl : k = n := by omega
      have HA := Lib.hid hA.out
      clear hA
      go_wp2
      go_ret
      exact ⟨rfl, HA.out.1, HA.out.2.1, HA.out.2.2⟩
end Go.Proofs.YtnbfaedopjkgpaaGreat


/-
Marks in meshes whose rows lie beside one another: what is written is there, and nothing else turns. Conditions: none beyond their sizes.
-/
namespace Go.Proofs.YtnbfaedopjkgpaaGreat
open Go Fk Go.RowKit
set_option linter.unusedVariables false
set_option maxRecDepth 8000
def Flat (lo hi : Nat) (w : World) (ta : Option Addr) (n F : Nat) : Prop := (ta = none ∧ n = 0) ∨ ∃ R, ta = some ⟨R, 0, none⟩ ∧ lo ≤ R ∧ R < hi ∧ R < w.heap.size ∧ R ≠ F ∧ FlatRows w R F n ∧ Own lo hi w F 0 (n * 3)
/-- A mesh that a function made: its places, its rows and their numbers lie in blocks of their own. -/
def GM (lo hi : Nat) (w : World) (pa ta : Option Addr) (pl tl F : Nat) : Prop := Lst lo hi w pa (pl * 3) ∧ Flat lo hi w ta tl F ∧ ∀ P, pa = some P → P.block ≠ F ∧ ∀ R, ta = some R → P.block ≠ R.block
/-- The marks that were written are there. -/
def MrkM (w : World) (pa ta : Option Addr) (pl tl F : Nat) : Prop :=
  ((pa = none ∧ pl = 0) ∨ ∃ P, pa = some ⟨P, 0, none⟩ ∧ ∀ j, j < pl * 3 → w.cell? ⟨P, 0 + j, none⟩ = some (.float .f32 (floatOfInt .f32 ((1 + j : Nat) : Int)))) ∧
  ((ta = none ∧ tl = 0) ∨ ∃ R, ta = some ⟨R, 0, none⟩ ∧ FlatRows w R F tl ∧ ∀ j, j < tl * 3 → w.cell? ⟨F, j, none⟩ = some (.int .i64 ((1 + pl * 3 + j : Nat) : Int)))
theorem MrkM.below {w w' : World} {pa ta : Option Addr} {pl tl F : Nat} (h : MrkM w pa ta pl tl F) (hB : Below w.heap.size w w') : MrkM w' pa ta pl tl F := by
  obtain ⟨h1, h2⟩ := h
  refine ⟨h1.imp id fun ⟨P, e, hc⟩ => ⟨P, e, fun j hj => cell_below hB (hc j hj)⟩, h2.imp id fun ⟨R, e, hf, hc⟩ => ⟨R, e, hf.same (fun i v hv => cell_below hB hv), fun j hj => cell_below hB (hc j hj)⟩⟩
theorem vec_any (lo hi : Nat) (a : Option Addr) (n cap : Nat) (k0 : Nat) (w : World) (h : Lst lo hi w a (n * 3)) (hn : n ≤ 1000000) (hk : k0 ≤ 1000000) :
    Calls Tryz.prog 26 #[.slice a n cap, .int .i64 k0] w fun e w' => e = .returned (.int .i64 ((k0 + n * 3 : Nat) : Int)) ∧ ((a = none ∧ n = 0) ∨ ∃ P, a = some ⟨P, 0, none⟩ ∧ ∀ j, j < n * 3 → w'.cell? ⟨P, 0 + j, none⟩ = some (.float .f32 (floatOfInt .f32 ((k0 + j : Nat) : Int)))) ∧ (∀ b i, a ≠ some ⟨b, 0, none⟩ → w'.cell? ⟨b, i, none⟩ = w.cell? ⟨b, i, none⟩) ∧ Mark lo hi w w' := by
  rcases h with ⟨rfl, h0⟩ | ⟨b, rfl, hown⟩
  · obtain rfl : n = 0 := by omega
    go_enter Tryz.func26, Tryz.ntmps26
    go_wp2
    refine wp_loop_rounds 1 ?_
    rw [rounds_succ]
    go_wp2
    go_ret
    refine ⟨by simp, by simp, ?_, Mark.refl _ _ _⟩
    first | exact fun _ _ _ => rfl | simp
  · refine (laws_markVectorS lo hi b 0 n cap k0 w hown (by omega)).mono ?_
    rintro e w' ⟨he, hd, ho, hM⟩
    exact ⟨he, .inr ⟨b, rfl, hd⟩, fun c i hc => ho c i (.inl (fun h => hc (by rw [h]))), hM⟩
theorem flat_any (lo hi : Nat) (a : Option Addr) (n cap F : Nat) (k0 : Nat) (w : World) (h : Flat lo hi w a n F) (hn : n ≤ 1000000) (hk : k0 ≤ 1000000000) :
    Calls Tryz.prog 103 #[.slice a n cap, .int .i64 k0] w fun e w' => e = .returned (.int .i64 ((k0 + n * 3 : Nat) : Int)) ∧ ((a = none ∧ n = 0) ∨ ∃ R, a = some ⟨R, 0, none⟩ ∧ FlatRows w' R F n ∧ ∀ j, j < n * 3 → w'.cell? ⟨F, j, none⟩ = some (.int .i64 ((k0 + j : Nat) : Int))) ∧ (∀ b i, b ≠ F → w'.cell? ⟨b, i, none⟩ = w.cell? ⟨b, i, none⟩) ∧ Mark lo hi w w' := by
  rcases h with ⟨rfl, rfl⟩ | ⟨R, rfl, h1, h2, h3, h4, h5, h6⟩
  · go_enter Tryz.func103, Tryz.ntmps103
    go_wp2
    refine wp_loop_rounds 1 ?_
    rw [rounds_succ]
    go_wp2
    go_ret
    refine ⟨by simp, by simp, ?_, Mark.refl _ _ _⟩
    first | exact fun _ _ _ => rfl | simp
  · refine (mark_flat lo hi R F n cap k0 w h5 h6 h4 (by omega) (by omega)).mono ?_
    rintro e w' ⟨he, hd, ho, hM⟩
    exact ⟨he, .inr ⟨R, rfl, h5.same (fun i v hv => (ho R i h4).trans hv), hd⟩, ho, hM⟩
theorem vec_held (a : Option Addr) (n cap : Nat) (k0 : Nat) (w : World) (h : (a = none ∧ n = 0) ∨ ∃ P, a = some ⟨P, 0, none⟩ ∧ ∀ j, j < n * 3 → w.cell? ⟨P, 0 + j, none⟩ = some (.float .f32 (floatOfInt .f32 ((k0 + j : Nat) : Int)))) (hn : n ≤ 1000000) (hk : k0 ≤ 1000000) :
    Calls Tryz.prog 27 #[.slice a n cap, .int .i64 k0] w fun e w' => e = .returned (.int .i64 ((k0 + n * 3 : Nat) : Int)) ∧ w' = w := by
  rcases h with ⟨rfl, rfl⟩ | ⟨b, rfl, hc⟩
  · go_enter Tryz.func27, Tryz.ntmps27
    go_wp2
    refine wp_loop_rounds 1 ?_
    rw [rounds_succ]
    go_wp2
    go_ret
    exact ⟨by simp, by first | rfl | trivial⟩
  · exact laws_heldVectorS b 0 n cap k0 w hc (by omega)
theorem Flat.mark {lo hi lo' hi' : Nat} {w w' : World} {a : Option Addr} {n F : Nat} (h : Flat lo hi w a n F) (hM : Mark lo' hi' w w') (hs : ∀ R, a = some R → ∀ i v, w.cell? ⟨R.block, i, none⟩ = some v → w'.cell? ⟨R.block, i, none⟩ = some v) : Flat lo hi w' a n F :=
  h.imp id fun ⟨R, e, h1, h2, h3, h4, h5, h6⟩ => ⟨R, e, h1, h2, Nat.lt_of_lt_of_le h3 hM.below.size, h4, h5.same (hs _ e), h6.mark hM⟩
theorem GM.below {lo hi : Nat} {w w' : World} {pa ta : Option Addr} {pl tl F : Nat} (h : GM lo hi w pa ta pl tl F) (hB : Below w.heap.size w w') : GM lo hi w' pa ta pl tl F :=
  ⟨h.1.below hB, h.2.1.imp id fun ⟨R, e, h1, h2, h3, h4, h5, h6⟩ => ⟨R, e, h1, h2, Nat.lt_of_lt_of_le h3 hB.size, h4, h5.same (fun i v hv => cell_below hB hv), h6.below hB⟩, h.2.2⟩
theorem mark_gm (lo hi : Nat) (pa ta : Option Addr) (pl pc tl tc F : Nat) (w : World) (h : GM lo hi w pa ta pl tl F) (hlo : lo ≤ w.heap.size) (h1 : pl ≤ 1000) (h2 : tl ≤ 1000) :
    Calls Tryz.prog 56 #[.agg #[.slice pa pl pc, .slice ta tl tc], .int .i64 1] w fun e w' => e = .returned (.int .i64 ((1 + pl * 3 + tl * 3 : Nat) : Int)) ∧ MrkM w' pa ta pl tl F ∧ Mark lo hi w w' := by
  have ui := Tryz.underlying38
  have hA : Mark lo hi w (w.alloc (.cells #[.slice pa pl pc, .slice ta tl tc] 38)) := Mark.alloc hlo _
  have a1 : (w.alloc (.cells #[.slice pa pl pc, .slice ta tl tc] 38)).cell? ⟨w.heap.size, 1, none⟩ = some (.slice ta tl tc) := by go_simp
  have a0 : (w.alloc (.cells #[.slice pa pl pc, .slice ta tl tc] 38)).cell? ⟨w.heap.size, 0, none⟩ = some (.slice pa pl pc) := by go_simp
  have nP : pa ≠ some ⟨w.heap.size, 0, none⟩ := fun e => by
    rcases h.1 with ⟨e', _⟩ | ⟨b, e', ho⟩
    · rw [e'] at e; cases e
    · rw [e'] at e; cases e; exact absurd ho.2.2.1 (Nat.lt_irrefl _)
  have hG := h.below ((Below.refl _ _).alloc (Nat.le_refl _) (.cells #[.slice pa pl pc, .slice ta tl tc] 38))
  have HV := Lib.hid (vec_any lo hi pa pl pc 1 _ hG.1 (by omega) (by omega))
  have HF := Lib.hid hG.2.1
  have HN := Lib.hid hG.2.2
  have HA := Lib.hid hA
  have HNP := Lib.hid nP
  clear h hA hG nP
  generalize hCH : w.alloc (.cells #[.slice pa pl pc, .slice ta tl tc] 38) = W at *
  go_enter Tryz.func56, Tryz.ntmps56
  go_wp2_with fail
  refine HV.out.mono ?_
  rintro e w1 ⟨rfl, hd, ho, hM1⟩
  have a1' : w1.cell? ⟨w.heap.size, 1, none⟩ = some (.slice ta tl tc) := (ho _ _ HNP.out).trans a1
  have hF1 : Flat lo hi w1 ta tl F := HF.out.mark hM1 (fun R hR i v hv => by
    refine (ho _ _ (fun hp => ?_)).trans hv
    exact (HN.out _ hp).2 _ hR rfl)
  have HF1 := Lib.hid (flat_any lo hi ta tl tc F (1 + pl * 3) w1 hF1 (by omega) (by omega))
  have HD := Lib.hid hd
  have HM1 := Lib.hid (HA.out.trans hM1)
  clear ho hM1 a0 a1 HV HF hCH hd hF1
  generalize hq : 1 + pl * 3 = q at *
  have hq' : q ≤ 10000 := by omega
  go_wp2_with fail
  refine HF1.out.mono ?_
  rintro e w2 ⟨rfl, hd2, ho2, hM2⟩
  have HD2 := Lib.hid hd2
  have HO2 := Lib.hid ho2
  have HM2 := Lib.hid hM2
  clear hd2 ho2 hM2
  go_wp2
  go_ret
  refine ⟨by rw [show 1 + pl * 3 + tl * 3 = q + tl * 3 by omega]; rfl, ⟨?_, ?_⟩, HM1.out.trans HM2.out⟩
  · exact HD.out.imp id fun ⟨P, e, hc⟩ => ⟨P, e, fun j hj => (HO2.out P (0 + j) (HN.out _ e).1).trans (hc j hj)⟩
  · first | exact HD2.out | (rw [hq]; exact HD2.out) | (subst hq; exact HD2.out)
/-- Vectors outside the blocks that are marked are as they were. -/
theorem vs_mark {lo hi lo' hi' : Nat} {w0 w w' : World} {a : Option Addr} {n cap : Nat} {cs : List C3} (h : IsVs w a n cap cs) (hl : Lst lo' hi' w0 a (n * 3)) (hM : Mark lo hi w w') (ho : hi' ≤ lo ∨ hi ≤ lo') : IsVs w' a n cap cs := by
  obtain ⟨h1, h2, h3, h4, h5⟩ := h
  refine ⟨h1, h2, h3, h4, fun x hx i hlt => ?_⟩
  rcases hl with ⟨e, _⟩ | ⟨b, e, hown⟩
  · rw [e] at hx; cases hx
  · rw [e] at hx; cases hx
    obtain ⟨p, q, r, k0, k1, k2, hf⟩ := h5 _ e i hlt
    rw [addr_add'] at k0 k1 k2
    have u1 := hown.1
    have u2 := hown.2.1
    have hb : b < lo ∨ hi ≤ b := by omega
    exact ⟨p, q, r, by rw [addr_add']; exact hM.cell hb k0, by rw [addr_add']; exact hM.cell hb k1, by rw [addr_add']; exact hM.cell hb k2, hf⟩
/-- Rows outside the blocks that are marked are as they were. -/
theorem ts_mark {lo hi lo' hi' : Nat} {w w' : World} {a : Option Addr} {n cap F : Nat} {ts : List (List Int)} (h : IsTs w a n cap ts) (hl : Flat lo' hi' w a n F) (hM : Mark lo hi w w') (ho : hi' ≤ lo ∨ hi ≤ lo') : IsTs w' a n cap ts := by
  obtain ⟨h1, h2, h3, h4, h5⟩ := h
  refine ⟨h1, h2, h3, h4, fun x hx i hlt => ?_⟩
  rcases hl with ⟨e, _⟩ | ⟨R, e, u1, u2, u3, u4, u5, u6⟩
  · rw [e] at hx; cases hx
  · rw [e] at hx; cases hx
    obtain ⟨G, c, c', hc, hI⟩ := h5 _ e i hlt
    rw [addr_add', Nat.zero_add] at hc
    obtain ⟨c2, hc2⟩ := u5 i hlt
    have hb : R < lo ∨ hi ≤ R := by omega
    have hbF : F < lo ∨ hi ≤ F := by have := u6.1; have := u6.2.1; omega
    rw [hc2] at hc
    cases hc
    refine ⟨_, _, _, by rw [addr_add', Nat.zero_add]; exact hM.cell hb hc2, ?_⟩
    obtain ⟨i1, i2, i3, i4, i5, i6⟩ := hI
    refine ⟨i1, i2, i3, i4, i5, fun y hy j hj => ?_⟩
    cases hy
    have := i6 _ rfl j hj
    rw [addr_add'] at this ⊢
    exact hM.cell hbF this
end Go.Proofs.YtnbfaedopjkgpaaGreat


/-
Where lists lie that a function made, and what moved meshes are. Conditions: none.
-/
namespace Go.Proofs.YtnbfaedopjkgpaaGreat
open Go Fk Go.RowKit
set_option linter.unusedVariables false
set_option maxRecDepth 8000
/-- A list at the head of a block from lo to hi, or none. -/
def LV (lo hi : Nat) (a : Option Addr) : Prop := ∀ x, a = some x → ∃ g, x = ⟨g, 0, none⟩ ∧ lo ≤ g ∧ g < hi
/-- A list of rows, it and its rows in blocks from lo to hi. -/
def LT (lo hi : Nat) (w : World) (a : Option Addr) (n : Nat) : Prop := ∀ x, a = some x → ∃ g, x = ⟨g, 0, none⟩ ∧ lo ≤ g ∧ g < hi ∧ ∀ i, i < n → ∃ b m c, w.cell? ⟨g, i, none⟩ = some (.slice b m c) ∧ ∀ y, b = some y → ∃ h o, y = ⟨h, o, none⟩ ∧ lo ≤ h ∧ h < hi
theorem LT.below {lo hi n : Nat} {w w' : World} {a : Option Addr} (h : LT lo hi w a n) (hB : Below w.heap.size w w') : LT lo hi w' a n := fun x hx => by
  obtain ⟨g, e, h1, h2, h3⟩ := h x hx
  refine ⟨g, e, h1, h2, fun i hlt => ?_⟩
  obtain ⟨b, m, c, hc, hb⟩ := h3 i hlt
  exact ⟨b, m, c, cell_below hB hc, hb⟩
theorem LV.wide {lo hi lo' hi' : Nat} {a : Option Addr} (h : LV lo hi a) (h1 : lo' ≤ lo) (h2 : hi ≤ hi') : LV lo' hi' a := fun x hx => by
  obtain ⟨g, e, k1, k2⟩ := h x hx
  exact ⟨g, e, by omega, by omega⟩
theorem LT.wide {lo hi lo' hi' n : Nat} {w : World} {a : Option Addr} (h : LT lo hi w a n) (h1 : lo' ≤ lo) (h2 : hi ≤ hi') : LT lo' hi' w a n := fun x hx => by
  obtain ⟨g, e, k1, k2, k3⟩ := h x hx
  refine ⟨g, e, by omega, by omega, fun i hlt => ?_⟩
  obtain ⟨b, m, c, hc, hb⟩ := k3 i hlt
  refine ⟨b, m, c, hc, fun y hy => ?_⟩
  obtain ⟨q, o, e, u1, u2⟩ := hb y hy
  exact ⟨q, o, e, by omega, by omega⟩
theorem vs_away {lo hi lo' hi' : Nat} {w w' : World} {a : Option Addr} {n cap : Nat} {cs : List C3} (h : IsVs w a n cap cs) (hl : LV lo' hi' a) (hM : Mark lo hi w w') (ho : hi' ≤ lo ∨ hi ≤ lo') : IsVs w' a n cap cs := by
  obtain ⟨h1, h2, h3, h4, h5⟩ := h
  refine ⟨h1, h2, h3, h4, fun x hx i hlt => ?_⟩
  obtain ⟨b, e, u1, u2⟩ := hl x hx
  obtain ⟨p, q, r, k0, k1, k2, hf⟩ := h5 x hx i hlt
  subst e
  rw [addr_add'] at k0 k1 k2
  have hb : b < lo ∨ hi ≤ b := by omega
  exact ⟨p, q, r, by rw [addr_add']; exact hM.cell hb k0, by rw [addr_add']; exact hM.cell hb k1, by rw [addr_add']; exact hM.cell hb k2, hf⟩
theorem ts_away {lo hi lo' hi' : Nat} {w w' : World} {a : Option Addr} {n cap : Nat} {ts : List (List Int)} (h : IsTs w a n cap ts) (hl : LT lo' hi' w a n) (hM : Mark lo hi w w') (ho : hi' ≤ lo ∨ hi ≤ lo') : IsTs w' a n cap ts ∧ LT lo' hi' w' a n := by
  obtain ⟨h1, h2, h3, h4, h5⟩ := h
  refine ⟨⟨h1, h2, h3, h4, fun x hx i hlt => ?_⟩, fun x hx => ?_⟩
  · obtain ⟨R, e, u1, u2, u3⟩ := hl x hx
    obtain ⟨G, c, c', hc, hI⟩ := h5 x hx i hlt
    obtain ⟨b, m, c2, hc2, hb⟩ := u3 i hlt
    subst e
    rw [addr_add', Nat.zero_add] at hc
    have hbR : R < lo ∨ hi ≤ R := by omega
    rw [hc2] at hc
    cases hc
    refine ⟨_, _, _, by rw [addr_add', Nat.zero_add]; exact hM.cell hbR hc2, ?_⟩
    obtain ⟨i1, i2, i3, i4, i5, i6⟩ := hI
    refine ⟨i1, i2, i3, i4, i5, fun y hy j hj => ?_⟩
    obtain ⟨F, o, e, v1, v2⟩ := hb y hy
    have := i6 y hy j hj
    subst e
    rw [addr_add'] at this ⊢
    have hbF : F < lo ∨ hi ≤ F := by omega
    exact hM.cell hbF this
  · obtain ⟨R, e, u1, u2, u3⟩ := hl x hx
    refine ⟨R, e, u1, u2, fun i hlt => ?_⟩
    obtain ⟨b, m, c2, hc2, hb⟩ := u3 i hlt
    have hbR : R < lo ∨ hi ≤ R := by omega
    exact ⟨b, m, c2, hM.cell hbR hc2, hb⟩
/-- The answer of a function that makes a mesh, or none: where its lists lie, and what is in them. -/
def Made (w w' : World) (e : Ending) (ok : Bool) (cs : List C3) (ts : List (List Int)) : Prop :=
  (∃ a c a' c', e = .returned (.tuple #[.agg #[.slice a cs.length c, .slice a' ts.length c'], .bool ok]) ∧ IsVs w' a cs.length c cs ∧ IsTs w' a' ts.length c' ts ∧ LV w.heap.size w'.heap.size a ∧ LT w.heap.size w'.heap.size w' a' ts.length) ∧ Below w.heap.size w w'
theorem made_none {w w' : World} {ok : Bool} (hB : Below w.heap.size w w') : Made w w' (.returned (.tuple #[.agg #[.slice none 0 0, .slice none 0 0], .bool ok])) ok [] [] :=
  ⟨⟨none, 0, none, 0, rfl, ⟨rfl, Nat.le_refl _, by unfold maxLen; omega, fun _ => ⟨rfl, rfl⟩, fun x hx => (by cases hx)⟩, ⟨rfl, Nat.le_refl _, by unfold maxLen; omega, fun _ => ⟨rfl, rfl⟩, fun x hx => (by cases hx)⟩, fun x hx => (by cases hx), fun x hx => (by cases hx)⟩, hB⟩
def rV (f : C3 → C3) (cs : List C3) (ts : List (List Int)) : List C3 := if validB cs ts = true then cs.map f else []
def rT (cs : List C3) (ts : List (List Int)) : List (List Int) := if validB cs ts = true then ts else []
theorem rV_no {f : C3 → C3} {cs : List C3} {ts : List (List Int)} (h : validB cs ts = false) : rV f cs ts = [] := by unfold rV; rw [if_neg (by rw [h]; decide)]
theorem rT_no {cs : List C3} {ts : List (List Int)} (h : validB cs ts = false) : rT cs ts = [] := by unfold rT; rw [if_neg (by rw [h]; decide)]
theorem rV_yes {f : C3 → C3} {cs : List C3} {ts : List (List Int)} (h : validB cs ts = true) : rV f cs ts = cs.map f := by unfold rV; rw [if_pos h]
theorem rT_yes {cs : List C3} {ts : List (List Int)} (h : validB cs ts = true) : rT cs ts = ts := by unfold rT; rw [if_pos h]
theorem cell0_of {w : World} {b Z : Nat} {e : TypeId} {x y : Value} (h : w.ownsRow b e 2 (.slice (some ⟨Z, 0, none⟩) 1 1) 1 [x, y]) : w.cell? ⟨Z, 0, none⟩ = some x := by rw [h.cellAt 0 (by decide)]; rfl
theorem cell1_of {w : World} {b Z : Nat} {e : TypeId} {x y : Value} (h : w.ownsRow b e 2 (.slice (some ⟨Z, 0, none⟩) 1 1) 1 [x, y]) : w.cell? ⟨Z, 1, none⟩ = some y := by rw [h.cellAt 1 (by decide)]; rfl
theorem lv_of_owns {w : World} {base n : Nat} {e : TypeId} {s c : Nat} {a : Option Addr} {xs : List Value} (h : w.ownsRow base e s (.slice a n c) n xs) : LV base w.heap.size a := fun x hx => by
  subst hx
  rcases h.2 with ⟨e, _⟩ | ⟨g, c, cur, e, hb, hh, _⟩
  · cases e
  · have := h.lt g (by rw [e]; rfl)
    cases e
    exact ⟨g, rfl, this⟩
theorem lt_of_owns {w : World} {base n : Nat} {c : Nat} {a : Option Addr} {ts : List (List Int)} (h : OwnT base w (.slice a n c) n ts) : LT base w.heap.size w a n := fun x hx => by
  obtain ⟨rows, h1, h2⟩ := h
  obtain ⟨g, e, u1, u2⟩ := lv_of_owns h1 x hx
  subst hx
  subst e
  refine ⟨g, rfl, u1, u2, fun i hlt => ?_⟩
  obtain ⟨u, e1, e2⟩ := h2 i hlt
  obtain ⟨b, c', rfl⟩ := owns_slice e2
  refine ⟨b, _, c', by rw [h1.cellAt i (by omega)]; exact e1, fun y hy => ?_⟩
  obtain ⟨q, e, v1, v2⟩ := lv_of_owns e2 y hy
  exact ⟨q, 0, e, v1, v2⟩
/-- Cells that hold the vectors that F names. -/
def PVf (n : Nat) (xs : List Value) (F : Nat → C3) : Prop := ∀ j, j < n → ∃ p q r, xs[j * 3]? = some (.float .f32 p) ∧ xs[j * 3 + 1]? = some (.float .f32 q) ∧ xs[j * 3 + 2]? = some (.float .f32 r) ∧ FV .f32 p (F j).1 ∧ FV .f32 q (F j).2.1 ∧ FV .f32 r (F j).2.2
def upto (f : C3 → C3) (cs : List C3) (k j : Nat) : C3 := if j < k then f (cs.getD j c0) else cs.getD j c0
theorem PVf.start {n : Nat} {xs : List Value} {cs : List C3} (f : C3 → C3) (h : PV n xs cs) : PVf n xs (upto f cs 0) := fun j hj => by
  obtain ⟨p, q, r, h1⟩ := h j hj
  exact ⟨p, q, r, by unfold upto; rw [if_neg (by omega)]; exact h1⟩
theorem PVf.step {n k : Nat} {xs : List Value} {cs : List C3} {f : C3 → C3} (h : PVf n xs (upto f cs k)) (hl : xs.length = n * 3) (hk : k < n) {p q r : Nat} (hf : FV .f32 p (f (cs.getD k c0)).1 ∧ FV .f32 q (f (cs.getD k c0)).2.1 ∧ FV .f32 r (f (cs.getD k c0)).2.2) :
    PVf n (((xs.set (k * 3) (.float .f32 p)).set (k * 3 + 1) (.float .f32 q)).set (k * 3 + 2) (.float .f32 r)) (upto f cs (k + 1)) := fun j hj => by
  by_cases hjk : j = k
  · subst hjk
    refine ⟨p, q, r, ?_, ?_, ?_, by unfold upto; rw [if_pos (by omega)]; exact hf⟩
    · rw [List.getElem?_set_ne (by omega), List.getElem?_set_ne (by omega), List.getElem?_set_self (by omega)]
    · rw [List.getElem?_set_ne (by omega), List.getElem?_set_self (by simp; omega)]
    · rw [List.getElem?_set_self (by simp; omega)]
  · obtain ⟨p', q', r', h1, h2, h3, h4⟩ := h j hj
    refine ⟨p', q', r', ?_, ?_, ?_, ?_⟩
    · rw [List.getElem?_set_ne (by omega), List.getElem?_set_ne (by omega), List.getElem?_set_ne (by omega)]; exact h1
    · rw [List.getElem?_set_ne (by omega), List.getElem?_set_ne (by omega), List.getElem?_set_ne (by omega)]; exact h2
    · rw [List.getElem?_set_ne (by omega), List.getElem?_set_ne (by omega), List.getElem?_set_ne (by omega)]; exact h3
    · have : upto f cs (k + 1) j = upto f cs k j := by
        unfold upto
        by_cases h : j < k
        · rw [if_pos h, if_pos (by omega)]
        · rw [if_neg h, if_neg (by omega)]
      rw [this]; exact h4
theorem PVf.done {n : Nat} {xs : List Value} {cs : List C3} {f : C3 → C3} (h : PVf n xs (upto f cs n)) (hn : cs.length = n) : PV n xs (cs.map f) := fun j hj => by
  obtain ⟨p, q, r, h1, h2, h3, h4⟩ := h j hj
  refine ⟨p, q, r, h1, h2, h3, ?_⟩
  have : (cs.map f).getD j c0 = upto f cs n j := by
    unfold upto
    rw [if_pos hj]
    simp [List.getD, hn, hj]
  rw [this]; exact h4
theorem LD.setV {w0 w : World} {X Z pl g c j : Nat} {vt : Value} {xs : List Value} (h : LD w0 X Z (.slice (some ⟨g, 0, none⟩) pl c) vt pl xs w) (u : Value) : LD w0 X Z (.slice (some ⟨g, 0, none⟩) pl c) vt pl (xs.set j u) (w.setCell ⟨g, j, none⟩ u) := by
  have hs := h.2.2.2.stored j u
  have hl := (h.2.2.2.lt g rfl).1
  exact ⟨h.1.setCell hl _, owns_side h.2.1 h.2.2.2 (by decide) hs.2, owns_side h.2.2.1 h.2.2.2 (by decide) hs.2, hs.1⟩
theorem OwnT.setV {base n : Nat} {w w0 : World} {X Z pl g c j : Nat} {v vt : Value} {xs : List Value} {ts : List (List Int)} (h : OwnT base w v n ts) (k : LD w0 X Z (.slice (some ⟨g, 0, none⟩) pl c) vt pl xs w) (u : Value) : OwnT base (w.setCell ⟨g, j, none⟩ u) v n ts :=
  h.side k.2.2.2 (k.2.2.2.stored j u).2 (by decide) (by decide)
theorem vs_owned {w : World} {base n c : Nat} {a : Option Addr} {xs : List Value} {cs : List C3} (h : w.ownsRow base 40 3 (.slice a n c) n xs) (hn : cs.length = n) (hp : PV n xs cs) : IsVs w a n c cs := by
  obtain ⟨a', c', e, hI⟩ := vs_of_owns h hn hp
  cases e
  exact hI
theorem ts_owned {w : World} {base n c : Nat} {a : Option Addr} {ts : List (List Int)} (h : OwnT base w (.slice a n c) n ts) (hn : ts.length = n) (hz : ∀ j, j < n → ∀ z ∈ ts.getD j [], (Lit.int .i64 z).wf = true) : IsTs w a n c ts := by
  obtain ⟨a', c', e, hI⟩ := h.is hn hz
  cases e
  exact hI
theorem ts_wf {w : World} {a : Option Addr} {n c : Nat} {ts : List (List Int)} (h : IsTs w a n c ts) : ∀ j, j < n → ∀ z ∈ ts.getD j [], (Lit.int .i64 z).wf = true := fun j hj => by
  obtain ⟨h1, h2, h3, h4, h5⟩ := h
  cases a with
  | none => have := (h4 rfl).1; omega
  | some x =>
    obtain ⟨b, m, c', hc, hI⟩ := h5 x rfl j hj
    exact hI.2.2.2.1
/-- A vector of three cells that stays. -/
def VB (w : World) (b x y z : Nat) : Prop := w.cell? ⟨b, 0, none⟩ = some (.float .f32 x) ∧ w.cell? ⟨b, 1, none⟩ = some (.float .f32 y) ∧ w.cell? ⟨b, 2, none⟩ = some (.float .f32 z)
theorem VB.below {w w' : World} {b x y z : Nat} (h : VB w b x y z) (hB : Below w.heap.size w w') : VB w' b x y z := ⟨cell_below hB h.1, cell_below hB h.2.1, cell_below hB h.2.2⟩
theorem VB.set {w : World} {b x y z g j : Nat} {u : Value} (h : VB w b x y z) (hg : g ≠ b) : VB (w.setCell ⟨g, j, none⟩ u) b x y z :=
  ⟨by rw [World.cell?_setCell_other _ _ _ _ (by simp [hg])]; exact h.1, by rw [World.cell?_setCell_other _ _ _ _ (by simp [hg])]; exact h.2.1, by rw [World.cell?_setCell_other _ _ _ _ (by simp [hg])]; exact h.2.2⟩
def scaleC' (c : C3) (q : Option Nat) : C3 := (fop .mul .f32 c.1 q, fop .mul .f32 c.2.1 q, fop .mul .f32 c.2.2 q)
theorem tri_partsh {n : Nat} {t : List Int} (h : triB n t = true) : t.length = 3 ∧ (∀ i, i < 3 → 0 ≤ t.getD i 0 ∧ (t.getD i 0).toNat < n) := by
  unfold triB at h
  simp only [Bool.and_eq_true, decide_eq_true_eq] at h
  obtain ⟨⟨h3, ⟨h0, h1⟩, h2⟩, _⟩ := h
  refine ⟨h3, fun i hi => ?_⟩
  have a0 := of_decide_eq_true h0
  have a1 := of_decide_eq_true h1
  have a2 := of_decide_eq_true h2
  have : i = 0 ∨ i = 1 ∨ i = 2 := by omega
  rcases this with rfl | rfl | rfl <;> omega
theorem valid_rowh {cs : List C3} {ts : List (List Int)} {k : Nat} (h : validB cs ts = true) (hk : k < ts.length) : triB cs.length (ts.getD k []) = true := by
  unfold validB at h
  simp only [Bool.and_eq_true] at h
  have := List.all_eq_true.1 h.2 (ts[k]) (List.getElem_mem hk)
  simpa [List.getD, hk] using this
/-- A corner of a triangle of a valid mesh lies in memory. -/

theorem rows3h {cs : List C3} {ts : List (List Int)} (h : validB cs ts = true) : ∀ k, k < ts.length → (ts.getD k []).length = 3 := fun k hk => (tri_partsh (valid_rowh h hk)).1
theorem valid_pl {cs : List C3} {ts : List (List Int)} (h : validB cs ts = true) : cs.length ≤ 64 ∧ ts.length ≤ 128 := by
  unfold validB at h; simp at h; exact h.1
end Go.Proofs.YtnbfaedopjkgpaaGreat


/-
The model's copy of a mesh: lists of its own. Conditions: the mesh lies in memory and is not greater than a thousand.
-/
import Derived.Test.YtcgnmnbjgamedaaHmD
import Derived.Test.YtcgnmnbjgamedaaReg5
namespace Go.Proofs.Ytcgnmnbjgamedaa
open Go Fk Go.RowKit
set_option linter.unusedVariables false
set_option maxRecDepth 8000
/-- The mesh that is made lies in block X, the answer in block Z; its places are a list of one's own. -/
def LD (w0 : World) (X Z : Nat) (va vt : Value) (pl : Nat) (xs : List Value) (w : World) : Prop :=
  Below w0.heap.size w0 w ∧ w.ownsRow w0.heap.size 49 2 (.slice (some ⟨X, 0, none⟩) 1 1) 1 [va, vt] ∧ w.ownsRow w0.heap.size 49 2 (.slice (some ⟨Z, 0, none⟩) 1 1) 1 [.slice none 0 0, .slice none 0 0] ∧ w.ownsRow w0.heap.size 33 3 va pl xs
theorem LD.up {w0 w w' : World} {X Z pl : Nat} {va vt : Value} {xs : List Value} (h : LD w0 X Z va vt pl xs w) (hB : Below w.heap.size w w') : LD w0 X Z va vt pl xs w' :=
  ⟨h.1.trans (hB.mono h.1.size), owns_up h.2.1 hB, owns_up h.2.2.1 hB, owns_up h.2.2.2 hB⟩
theorem LD.cell0 {w0 w : World} {X Z pl : Nat} {va vt : Value} {xs : List Value} (h : LD w0 X Z va vt pl xs w) : w.cell? ⟨X, 0, none⟩ = some va := by rw [h.2.1.cellAt 0 (by decide)]; rfl
theorem LD.cell1 {w0 w : World} {X Z pl : Nat} {va vt : Value} {xs : List Value} (h : LD w0 X Z va vt pl xs w) : w.cell? ⟨X, 1, none⟩ = some vt := by rw [h.2.1.cellAt 1 (by decide)]; rfl
theorem LD.grow {w0 w w' : World} {X Z pl k : Nat} {va vt : Value} {xs rows : List Value} {b : Nat} (h : LD w0 X Z va vt pl xs w) (h1 : w.ownsRow b 90 1 vt k rows) (hb : w0.heap.size ≤ b) (hg : w.grownBy w' vt.ownBlock) : LD w0 X Z va vt pl xs w' :=
  ⟨h.1.grown hg h.1.size (fun k hk => Nat.le_trans hb (h1.lt k hk).1), owns_side h.2.1 h1 (by decide) hg, owns_side h.2.2.1 h1 (by decide) hg, owns_side h.2.2.2 h1 (by decide) hg⟩
theorem LD.set1 {w0 w : World} {X Z pl : Nat} {va vt : Value} {xs : List Value} (h : LD w0 X Z va vt pl xs w) (hxz : X ≠ Z) (u : Value) : LD w0 X Z va u pl xs (w.setCell ⟨X, 1, none⟩ u) := by
  have hs := h.2.1.stored 1 u
  have hl := (h.2.1.lt X rfl).1
  refine ⟨h.1.setCell hl _, hs.1, h.2.2.1.kept hs.2 (.inr (by simp [Value.ownBlock]; exact fun e => hxz e.symm)), owns_side h.2.2.2 h.2.1 (by decide) hs.2⟩
theorem LD.set0 {w0 w : World} {X Z pl : Nat} {va vt : Value} {xs : List Value} (h : LD w0 X Z va vt pl xs w) (hxz : X ≠ Z) (u : Value) {pl' : Nat} {xs' : List Value} (hu : w.ownsRow w0.heap.size 33 3 u pl' xs') : LD w0 X Z u vt pl' xs' (w.setCell ⟨X, 0, none⟩ u) := by
  have hs := h.2.1.stored 0 u
  have hl := (h.2.1.lt X rfl).1
  refine ⟨h.1.setCell hl _, hs.1, h.2.2.1.kept hs.2 (.inr (by simp [Value.ownBlock]; exact fun e => hxz e.symm)), owns_side hu h.2.1 (by decide) hs.2⟩
theorem mapSet {base n : Nat} {w : World} {v : Value} {ts : List (List Int)} {X j : Nat} {x2 : List Value} {b2 s2 n2 : Nat} (h : OwnT base w v n ts) (k : w.ownsRow b2 49 s2 (.slice (some ⟨X, 0, none⟩) n2 n2) n2 x2) (u : Value) : OwnT base (w.setCell ⟨X, j, none⟩ u) v n ts :=
  h.side k (grown_set w X j u) (by decide) (by decide)
set_option maxHeartbeats 1000000 in
theorem l02Own (pb : Nat) (pa ta : Option Addr) (pl pc tl tc : Nat) (cs : List C3) (ts : List (List Int)) (w : World) (c0' : w.cell? ⟨pb, 0, none⟩ = some (.slice pa pl pc)) (c1' : w.cell? ⟨pb, 1, none⟩ = some (.slice ta tl tc)) (hp : IsVs w pa pl pc cs) (ht : IsTs w ta tl tc ts) (h1 : pl ≤ 1000) (h2 : tl ≤ 1000) (h3 : ∀ j, j < tl → (ts.getD j []).length ≤ 1000) :
    Calls Try.prog 69 #[.pointer (some ⟨pb, 0, none⟩)] w fun e w' => (∃ va vt xs, e = .returned (.agg #[va, vt]) ∧ w'.ownsRow w.heap.size 33 3 va pl xs ∧ PV pl xs cs ∧ OwnT w.heap.size w' vt tl ts) ∧ Below w.heap.size w w' := by
  have ui := Try.underlying49
  obtain ⟨i0, hi, hz0, hz1, hz2⟩ := info_parts infoV
  obtain ⟨j0, hj, hy0, hy1, hy2⟩ := info_parts infoS
  obtain ⟨xs, x1, x2, x3, x4⟩ := vs_cells hp
  have lpb := World.block_lt_of_cell? _ _ c0'
  have HPA := Lib.hid hp.2.2.2.1
  have hpl := hp.1
  have C0 := Lib.hid c0'
  have C1 := Lib.hid c1'
  have HT := Lib.hid ht
  have H3 := Lib.hid h3
  have X1 := Lib.hid x1
  have X2 := Lib.hid x2
  have X3 := Lib.hid x3
  have X4 := Lib.hid x4
  have hst : ((w.alloc (.cells #[.slice none 0 0, .slice none 0 0] 49)).alloc (.cells #[] 33)).ownsRow w.heap.size 33 3 (.slice (some ⟨w.heap.size + 1, 0, none⟩) 0 0) 0 [] := by
    have := World.ownsRow_lit (base := w.heap.size) (e := 33) (size := 3) (w.alloc (.cells #[.slice none 0 0, .slice none 0 0] 49)) #[] 0 (by simp) (by decide) rfl
    simpa using this
  have HST := Lib.hid hst
  clear hst
  have C0' := Lib.hid (fun ob => cell_alloc (o := ob) c0')
  have c0'' := fun ob ob' => cell_alloc (o := ob') (cell_alloc (o := ob) c0')
  clear hp ht h3 x1 x2 x3 x4 c0' c1'
  go_enter Try.func69, Try.ntmps69
  go_wp2_with (at_builtin; go_loud (refine wpList_append_opt _ rfl _ _ 47 rfl w.heap.size 33 i0 (.agg #[.float .f32 0, .float .f32 0, .float .f32 0]) 3 12 Try.underlying47 hi hz0 hz1 hz2 rfl (by decide) _ 0 [] rfl HST.out pa pl pc xs rfl HPA.out X1.out ?c2 ?c3 ?c4 ?c5 ?c6 ?_))
  case c2 =>
    intro ad had j u hu
    have := X2.out ad had j u hu
    rw [World.cell?_alloc_lt (h := by have := World.block_lt_of_cell? _ _ this; simp; omega), World.cell?_alloc_lt (h := World.block_lt_of_cell? _ _ this)]
    exact this
  case c3 => exact X3.out
  case c4 => unfold maxLen; omega
  case c5 => omega
  case c6 => omega
  · intro va w1 hown hgrow
    have hown' : w1.ownsRow w.heap.size 33 3 va pl xs := by simpa using hown
    have hzr : ((w.alloc (.cells #[.slice none 0 0, .slice none 0 0] 49)).alloc (.cells #[] 33)).ownsRow w.heap.size 49 2 (.slice (some ⟨w.heap.size, 0, none⟩) 1 1) 1 [.slice none 0 0, .slice none 0 0] :=
      (World.ownsRow_lit (base := w.heap.size) (e := 49) (size := 2) w #[.slice none 0 0, .slice none 0 0] 1 (Nat.le_refl _) (by decide) rfl).alloc _
    have hB1 : Below w.heap.size w w1 := (((Below.refl _ _).alloc (Nat.le_refl _) _).alloc (by simp) _).grown hgrow (by simp; omega) (fun k hk => by simp [Value.ownBlock] at hk; omega)
    have hlt : w.heap.size < w1.heap.size := by have := hgrow.size; simp at this; omega
    have hz1 := owns_side hzr HST.out (by decide) hgrow
    obtain ⟨qa, qc, rfl⟩ : ∃ a c, va = .slice a pl c := by
      rcases hown'.2 with ⟨rfl, e⟩ | ⟨g, c, _, rfl, _⟩
      · exact ⟨none, 0, by rw [e]⟩
      · exact ⟨_, _, rfl⟩
    have hX2 : LD w (w1.heap.size + 1) w.heap.size (.slice qa pl qc) (.slice (some ⟨w1.heap.size, 0, none⟩) 0 0) pl xs ((w1.alloc (.cells #[] 90)).alloc (.cells #[.slice qa pl qc, .slice (some ⟨w1.heap.size, 0, none⟩) 0 0] 49)) := by
      have r := World.ownsRow_lit (base := w.heap.size) (e := 49) (size := 2) (w1.alloc (.cells #[] 90)) #[.slice qa pl qc, .slice (some ⟨w1.heap.size, 0, none⟩) 0 0] 1 (by simp; omega) (by decide) rfl
      exact ⟨(hB1.alloc hB1.size _).alloc (by simp; omega) _, by simpa using r, (hz1.alloc _).alloc _, (hown'.alloc _).alloc _⟩
    have hT2 : OwnT w.heap.size ((w1.alloc (.cells #[] 90)).alloc (.cells #[.slice qa pl qc, .slice (some ⟨w1.heap.size, 0, none⟩) 0 0] 49)) (.slice (some ⟨w1.heap.size, 0, none⟩) 0 0) 0 ts :=
      ⟨[], (World.ownsRow_lit (base := w.heap.size) (e := 90) (size := 1) w1 #[] 0 hB1.size (by decide) rfl).alloc _, fun j hj => absurd hj (by omega)⟩
    have HX := Lib.hid hX2
    have HTT := Lib.hid hT2
    have hxz : w1.heap.size + 1 ≠ w.heap.size := by omega
    have HXZ := Lib.hid hxz
    clear hX2 hT2 hown hown' hzr hgrow hz1 hxz c0'' hB1
    go_wp2
    generalize (w1.alloc (.cells #[] 90)).alloc (.cells #[.slice qa pl qc, .slice (some ⟨w1.heap.size, 0, none⟩) 0 0] 49) = W2 at *
    generalize (.slice (some ⟨w1.heap.size, 0, none⟩) 0 0 : Value) = vt0 at *
    generalize w1.heap.size + 1 = X at *
    go_loopw [4] (fun i w' => ∃ k : Nat, k ≤ tl ∧ i = .int .i64 k ∧ Aside (∃ vt, LD w X w.heap.size (.slice qa pl qc) vt pl xs w' ∧ OwnT w.heap.size w' vt k ts)) (fun i _ => tl - (intOf i).toNat)
    case atStart => exact ⟨0, Nat.zero_le _, rfl, _, HX.out, HTT.out⟩
    case round =>
      obtain ⟨k, hk, hik, hA⟩ := hrel
      subst hik
      obtain ⟨vt, hD, hTk⟩ := hA.out
      have kb1 := cell_below hD.1 C1.out
      have HD := Lib.hid hD
      have HTK := Lib.hid hTk
      by_cases hlt : k < tl
      · have h' := HT.out.below hD.1
        obtain ⟨bt, ot, rfl, hrow⟩ := h'.some (by omega)
        obtain ⟨r1, n1, q1, cr, ir⟩ := hrow k hlt
        have hn1 := ir.1
        have hn2 := H3.out k hlt
        have hk0 : (0 : Int) ≤ (k : Int) := by omega
        have hk1 : (k : Int) < (tl : Int) := by omega
        have IR := Lib.hid ir
        have CR := Lib.hid cr
        clear hA hD hTk h' hrow ir cr HX HTT
        go_wp2_with fail
        refine Reg5.wp_region_mix (m := 11) (C := fun w' => Below wr.heap.size wr w') (D := fun w' => LD w X w.heap.size (.slice qa pl qc) vt pl xs w') (G := fun w1 w2 => Below w1.heap.size w1 w2) (G' := fun w1 w2 => w2 = w1) (R := fun i v w' => match i with | 0 => v = .pointer (some ⟨X, 1, none⟩) | 1 => v = vt | 2 => v = .pointer (some ⟨pb, 0, none⟩) | 3 => v = .pointer (some ⟨pb, 0, none⟩) | 4 => v = .pointer (some ⟨pb, 1, none⟩) | 5 => v = .slice (some ⟨bt, ot, none⟩) tl tc | 6 => v = .int .i64 (k : Int) | 7 => v = .pointer (some ⟨bt, ot + k, none⟩) | 8 => v = .slice r1 n1 q1 | 9 => w'.ownsRow w.heap.size 2 1 v n1 (ints (ts.getD k [])) | 10 => ∃ b u, v = .slice (some ⟨b, 0, none⟩) 1 1 ∧ w'.cell? ⟨b, 0, none⟩ = some u ∧ w'.ownsRow w.heap.size 2 1 u n1 (ints (ts.getD k [])) | 11 => OwnT w.heap.size w' v (k + 1) ts | 12 => v = .pointer (some ⟨X, 1, none⟩) | _ => True) (T := fun i _ w' => match i with | 13 => ∃ vt', LD w X w.heap.size (.slice qa pl qc) vt' pl xs w' ∧ OwnT w.heap.size w' vt' (k + 1) ts | _ => True) [false, false, false, false, false, false, false, false, false, false, false, false, false, false, false, false, false, false, false, false, false, false, true, true, true, true, true, true, true, true, true, true, true, true, true, false]
          (by kernel_rfl) (by kernel_rfl) (by kernel_rfl) (by kernel_rfl) ?_ ?_ (below_drewN (Below.refl _ _) 1) ?_ ?_
        · intro j v w1 w2 _ _ hG hR
          match j with
          | 0 => exact hR
          | 1 => exact hR
          | 2 => exact hR
          | 3 => exact hR
          | 4 => exact hR
          | 5 => exact hR
          | 6 => exact hR
          | 7 => exact hR
          | 8 => exact hR
          | 9 => exact owns_up hR hG
          | 10 => obtain ⟨b, u, e, hc, ho⟩ := hR; exact ⟨b, u, e, cell_below hG hc, owns_up ho hG⟩
          | 11 => exact OwnT.up hR hG
          | 12 => exact hR
          | _ + 13 => trivial
        · intro j v w1 w2 _ _ hG hR
          rw [hG]; exact hR
        · refine ⟨?_, ?_, ?_, ?_, ?_, ?_, ?_, ?_, ?_, ?_, ?_, ?_, ?_, ?_, trivial⟩
          · refine Reg5.Obl.early rfl rfl ?_
            rintro a w1 hC hx hd K hK
            have HC := Lib.hid hC
            clear hC
            have t3 : a.tmps[3]?.getD undef = .pointer (some ⟨X, 0, none⟩) := Reg.slot_val (hx 3 (by kernel_rfl))
            go_simp
            exact hK _ _ rfl HC.out (Below.refl _ _)
          · refine Reg5.Obl.early rfl rfl ?_
            rintro a w1 hC hx hd K hK
            have HC := Lib.hid hC
            clear hC
            have t22 : a.tmps[22]?.getD undef = .pointer (some ⟨X, 1, none⟩) := Reg.slot_val (hd 0 (by kernel_rfl) 22 rfl)
            have y1 := (HD.out.up HC.out).cell1
            go_simp
            exact hK _ _ rfl HC.out (Below.refl _ _)
          · refine Reg5.Obl.early rfl rfl ?_
            rintro a w1 hC hx hd K hK
            have HC := Lib.hid hC
            clear hC
            have t0 : a.tmps[0]?.getD undef = .pointer (some ⟨pb, 0, none⟩) := Reg.slot_val (hx 0 (by kernel_rfl))
            go_simp
            exact hK _ _ rfl HC.out (Below.refl _ _)
          · refine Reg5.Obl.early rfl rfl ?_
            rintro a w1 hC hx hd K hK
            have HC := Lib.hid hC
            clear hC
            have t24 : a.tmps[24]?.getD undef = .pointer (some ⟨pb, 0, none⟩) := Reg.slot_val (hd 2 (by kernel_rfl) 24 rfl)
            go_simp
            exact hK _ _ rfl HC.out (Below.refl _ _)
          · refine Reg5.Obl.early rfl rfl ?_
            rintro a w1 hC hx hd K hK
            have HC := Lib.hid hC
            clear hC
            have t25 : a.tmps[25]?.getD undef = .pointer (some ⟨pb, 0, none⟩) := Reg.slot_val (hd 3 (by kernel_rfl) 25 rfl)
            go_simp
            exact hK _ _ rfl HC.out (Below.refl _ _)
          · refine Reg5.Obl.early rfl rfl ?_
            rintro a w1 hC hx hd K hK
            have HC := Lib.hid hC
            clear hC
            have t26 : a.tmps[26]?.getD undef = .pointer (some ⟨pb, 1, none⟩) := Reg.slot_val (hd 4 (by kernel_rfl) 26 rfl)
            have y1 := cell_below HC.out kb1
            go_simp
            exact hK _ _ rfl HC.out (Below.refl _ _)
          · refine Reg5.Obl.early rfl rfl ?_
            rintro a w1 hC hx hd K hK
            have HC := Lib.hid hC
            clear hC
            have t4 : a.tmps[4]?.getD undef = .int .i64 (k : Int) := Reg.slot_val (hx 4 (by kernel_rfl))
            go_simp
            exact hK _ _ rfl HC.out (Below.refl _ _)
          · refine Reg5.Obl.early rfl rfl ?_
            rintro a w1 hC hx hd K hK
            have HC := Lib.hid hC
            clear hC
            have t27 : a.tmps[27]?.getD undef = .slice (some ⟨bt, ot, none⟩) tl tc := Reg.slot_val (hd 5 (by kernel_rfl) 27 rfl)
            have t28 : a.tmps[28]?.getD undef = .int .i64 (k : Int) := Reg.slot_val (hd 6 (by kernel_rfl) 28 rfl)
            go_simp
            exact hK _ _ rfl HC.out (Below.refl _ _)
          · refine Reg5.Obl.early rfl rfl ?_
            rintro a w1 hC hx hd K hK
            have HC := Lib.hid hC
            clear hC
            have t29 : a.tmps[29]?.getD undef = .pointer (some ⟨bt, ot + k, none⟩) := Reg.slot_val (hd 7 (by kernel_rfl) 29 rfl)
            have y1 := cell_below HC.out CR.out
            go_simp
            exact hK _ _ rfl HC.out (Below.refl _ _)
          · refine Reg5.Obl.early rfl rfl ?_
            rintro a w1 hC hx hd K hK
            have HC := Lib.hid hC
            clear hC
            have t30 : a.tmps[30]?.getD undef = .slice r1 n1 q1 := Reg.slot_val (hd 8 (by kernel_rfl) 30 rfl)
            go_simp
            refine (l00Own r1 n1 q1 (ts.getD k []) w1 (IR.out.below HC.out) (by omega)).mono ?_
            rintro e w2 ⟨⟨v, rfl, ho⟩, hB2⟩
            exact hK _ _ (owns_low ho (HD.out.up HC.out).1.size) (HC.out.trans (hB2.mono HC.out.size)) hB2
          · refine Reg5.Obl.early rfl rfl ?_
            rintro a w1 hC hx hd K hK
            have HC := Lib.hid hC
            clear hC
            have g := hd 9 (by kernel_rfl) 31 rfl
            obtain ⟨u, hu⟩ : ∃ u, u = a.eval (.tmp 31) := ⟨_, rfl⟩
            have t31 : a.tmps[31]?.getD undef = u := Reg.slot_val hu.symm
            have g' : w1.ownsRow w.heap.size 2 1 u n1 (ints (ts.getD k [])) := by rw [hu]; exact g
            have G := Lib.hid g'
            obtain ⟨ru, cu, rfl⟩ := owns_slice g'
            have e0 : (w1.alloc (.cells #[.slice ru n1 cu] 90)).cell? ⟨w1.heap.size, 0, none⟩ = some (.slice ru n1 cu) := by simp
            have E0 := Lib.hid e0
            clear g hu e0
            go_simp
            exact hK _ _ ⟨w1.heap.size, _, rfl, E0.out, G.out.alloc _⟩ (HC.out.alloc HC.out.size _) ((Below.refl _ _).alloc (Nat.le_refl _) _)
          · refine Reg5.Obl.mid rfl rfl ?_
            rintro a w1 hC hx hd K hK
            have t23 : a.eval (.tmp 23) = vt := hd 1 (by kernel_rfl) 23 rfl
            obtain ⟨b, u, t32, hc, hu⟩ := hd 10 (by kernel_rfl) 32 rfl
            have hD1 := HD.out.up hC
            obtain ⟨rows, hr, hrs⟩ := HTK.out.up hC
            refine wp_append_own w1 _ _ 43 rfl w.heap.size 90 j0 (.slice none 0 0) 1 24 Try.underlying43 hj hy0 hy1 hy2 rfl (by decide) vt k rows t23 hr ⟨b, 0, none⟩ 1 1 [u] t32 rfl (fun j u' hj => ?_) (fun u' hu' => ?_) (by unfold maxLen; omega) (by omega) hD1.1.size ?_
            · match j, hj with
              | 0, hj => simp at hj; subst hj; rw [addr_add']; exact hc
            · simp at hu'; subst hu'; exact owns_one hu
            · intro v' w2 ho hg _
              exact hK _ _ (OwnT.snoc hr hrs (by rw [hn1]; exact hu) hg ho) (hD1.grow hr (Nat.le_refl _) hg)
          · refine Reg5.Obl.late rfl ?_
            rintro a w1 hD1 hx hd K hK
            have HC := Lib.hid hD1
            clear hD1
            have t3 : a.tmps[3]?.getD undef = .pointer (some ⟨X, 0, none⟩) := Reg.slot_val (hx 3 (by kernel_rfl))
            go_simp
            exact hK _ _ (fun _ => rfl) (fun h => by cases h) (fun _ => HC.out) (fun _ => rfl)
          · refine Reg5.Obl.late rfl ?_
            rintro a w1 hD1 hx hd K hK
            have HC := Lib.hid hD1
            have y1 := hD1.cell1
            have f1 := hD1.2.1.frozenAt 1
            clear hD1
            have t34 : a.tmps[34]?.getD undef = .pointer (some ⟨X, 1, none⟩) := Reg.slot_val (hd 12 (by kernel_rfl) (by omega) 34 rfl)
            have g := hd 11 (by kernel_rfl) (by omega) 33 rfl
            obtain ⟨u, hu⟩ : ∃ u, u = a.eval (.tmp 33) := ⟨_, rfl⟩
            have t33 : a.tmps[33]?.getD undef = u := Reg.slot_val hu.symm
            have g' : OwnT w.heap.size w1 u (k + 1) ts := by rw [hu]; exact g
            have G := Lib.hid g'
            obtain ⟨ru, cu, rfl⟩ := OwnT.slice g'
            clear g hu g'
            go_simp
            exact hK undef _ (fun h => absurd rfl h) (fun _ => ⟨_, HC.out.set1 HXZ.out _, mapSet G.out HC.out.2.1 _⟩) (fun h => absurd rfl h) (fun h => absurd rfl h)
        · rintro f wz _ hT
          obtain ⟨vt', hD', hT'⟩ := hT 13 (by kernel_rfl) (by decide)
          have HD' := Lib.hid hD'
          have HT' := Lib.hid hT'
          clear hD' hT' hT
          simp only [Reg.mixL]
          go_wp2
          go_roundw
          case rel => exact ⟨k + 1, by omega, by go_num, vt', HD'.out, HT'.out⟩
          case measure => simp [intOf]; omega
      · obtain rfl : k = tl := by omega
        have l0 := hD.cell0
        have l1 := hD.cell1
        have z0 : wr.cell? ⟨w.heap.size, 0, none⟩ = some (.slice none 0 0) := by rw [hD.2.2.1.cellAt 0 (by decide)]; rfl
        have z1 : wr.cell? ⟨w.heap.size, 1, none⟩ = some (.slice none 0 0) := by rw [hD.2.2.1.cellAt 1 (by decide)]; rfl
        have f0 := hD.2.2.1.frozenAt 0
        have f1 := hD.2.2.1.frozenAt 1
        obtain ⟨ru, cu, rfl⟩ := OwnT.slice hTk
        have HD := Lib.hid hD
        have HTK := Lib.hid hTk
        clear hA hD hTk
        go_wp2
        have x0 : ∀ u, (wr.setCell ⟨w.heap.size, 0, none⟩ u).cell? ⟨w.heap.size, 1, none⟩ = some (.slice none 0 0) := fun u => by rw [World.cell?_setCell_other _ _ _ _ (by simp)]; exact z1
        have r1 : ∀ u v, ((wr.setCell ⟨w.heap.size, 0, none⟩ u).setCell ⟨w.heap.size, 1, none⟩ v).cell? ⟨w.heap.size, 1, none⟩ = some v := fun u v => World.cell?_setCell_same _ _ _ (x0 u)
        have r0 : ∀ u v, ((wr.setCell ⟨w.heap.size, 0, none⟩ u).setCell ⟨w.heap.size, 1, none⟩ v).cell? ⟨w.heap.size, 0, none⟩ = some u := fun u v => by rw [World.cell?_setCell_other _ _ _ _ (by simp)]; exact World.cell?_setCell_same _ _ _ z0
        have hZ := HD.out.2.2.1.stored 0 (.slice qa pl qc)
        have hZ2 := hZ.1.stored 1 (.slice ru k cu)
        refine bodyPost_ret (v := .agg #[.slice qa pl qc, .slice ru k cu]) (by simp [results, Try.results69, go_sem, r0, r1]) rfl ⟨⟨_, _, xs, rfl, ?_, X4.out, ?_⟩, ?_⟩
        · exact owns_side (owns_side HD.out.2.2.2 HD.out.2.2.1 (by decide) hZ.2) hZ.1 (by decide) hZ2.2
        · exact (HTK.out.side HD.out.2.2.1 hZ.2 (by decide) (by decide)).side hZ.1 hZ2.2 (by decide) (by decide)
        · exact (HD.out.1.setCell (Nat.le_refl _) _).setCell (Nat.le_refl _) _
end Go.Proofs.Ytcgnmnbjgamedaa
